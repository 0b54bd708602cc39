/-
  What layer 14 needs: boxes of metas, Great, Right, tables read and written, the encoding of a meta (14.1, 14.2). Conditions: stated at each.
-/
import Derived.Test.YtdffgnpldapciaaGreatDoorWz
import Derived.Test.YtdffgnpldapciaaGreatDoorE8
import Derived.Test.YtdffgnpldapciaaGreatDoorN2
import Derived.Deep.RegionHeld3
import Derived.Deep.QuietTactic
import Derived.BigQuiet
namespace Go.Proofs.YtdffgnpldapciaaGreatDoor
open Go.RowKit
set_option linter.unusedVariables false

set_option maxHeartbeats 800000 in
theorem refPut_own (a : Option Addr) (len cap m v : Nat) (l : List Int) (big : Bool) (w : World) (hB : Bytes w a len l) (hnil : a = none → cap = 0) (hlen : len ≤ 4000000) (h1 : 1 ≤ m) (h2 : m ≤ 8) (hf : fitsIn m v = true) :
    Calls Tryz.prog 83 #[.slice a len cap, .int .i64 m, .bool big, .int .u64 v] w fun e w' => ∃ a' c', e = .returned (.tuple #[.slice a' (len + m) c', .int .i64 0]) ∧ Own w' w.heap.size (.slice a' (len + m) c') (len + m) (l ++ numB big m v) ∧ Below w.heap.size w w' := by
  have HB := Lib.hid hB
  have HN := Lib.hid hnil
  have hS := numB_snoc big m v
  have hD := numB_len big m v
  obtain ⟨D, hDD⟩ := named (numB big m v)
  rw [hDD.out] at hS hD ⊢
  have HL : Hid ((l ++ D).length = len + m) := by rw [Hid, List.length_append, hD, hB.1]
  have HS := Lib.hid hS
  have HD := Lib.hid hD
  clear hB hnil hS hD hDD
  have hsplit : 8 ≤ m ∨ m < 8 ∧ ((v : Int) / 2 ^ (8 * m) == 0) = true ∧ ((v : Int) / 2 ^ (8 * m) != 0) = false := by
    by_cases h : m < 8
    · exact Or.inr ⟨h, fit_small hf h⟩
    · exact Or.inl (by omega)
  clear hf
  rcases hsplit with h3 | ⟨h3, h4, h5⟩
  all_goals cases big
  all_goals
    go_enter Tryz.func83, Tryz.ntmps83
    go_wp2_with (first
      | (at_builtin; refine append_copy rfl (.tmp 29) (.tmp 30) rfl w.heap.size rfl a len cap l rfl HN.out HB.out (by omega) (Nat.le_refl _) ?_; intro a1 c1 w1 g1 g2; have HO := Lib.hid g1; have HG := Lib.hid g2; clear g1 g2))
    go_loopw [10, 11, 12] (fun o i _ wr => ∃ (j : Nat) (a' : Option Addr) (c' : Nat), j ≤ m ∧ i = .int .i64 j ∧ o = .slice a' (len + j) c' ∧ Hid (Own wr w.heap.size (.slice a' (len + j) c') (len + j) (l ++ D.take j)) ∧ Hid (Below w.heap.size w wr)) (fun _ i _ _ => m - (intOf i).toNat)
    case atStart => exact ⟨0, a1, c1, Nat.zero_le _, rfl, rfl, by rw [List.take_zero, List.append_nil]; exact HO.out, HG.out⟩
    case round =>
      obtain ⟨j, a', c', hj, rfl, rfl, HOj, HGj⟩ := hrel
      clear HO HG
      by_cases hlt : j < m
      · obtain ⟨q, hq, hq2⟩ : ∃ q : Nat, (m : Int) - 1 - (j : Int) = (q : Int) ∧ Hid (q = m - 1 - j) := ⟨m - 1 - j, by omega, rfl⟩
        have hq3 : q < m := by have := hq2.out; omega
        have HSj := Lib.hid (HS.out j hlt)
        go_wp2_with (first
          | (at_builtin; refine append_more rfl (.tmp 43) (.tmp 50) rfl w.heap.size _ (len + j) _ rfl (HOj.out.alloc _) _ 1 1 [_] rfl (fun e => by cases e) (one_byte _ _ (byteOf_range _ _)) (by omega) (Nat.le_trans HGj.out.size (by simp)) ?_; intro a2 c2 w2 g1 g2; have HO2 := Lib.hid g1; have HG2 : Hid (Below w.heap.size w w2) := (HGj.out.alloc HGj.out.size _).trans g2; clear g1 g2))
        go_roundw
        case rel =>
          refine ⟨j + 1, a2, c2, by omega, by go_num, rfl, ?_, HG2.out⟩
          have e := HO2.out
          rw [byteOf_int] at e
          rw [HSj.out, ← List.append_assoc]
          first | exact e | (rw [hq2.out] at e; exact e)
        case measure => simp [intOf]; omega
      · obtain rfl : j = m := by omega
        have HE : Hid (D.take j = D) := by rw [Hid]; exact List.take_of_length_le (by rw [HD.out]; exact Nat.le_refl _)
        go_wp2
        go_ret2
        have e := HOj.out
        rw [HE.out] at e
        exact ⟨_, _, rfl, e, HGj.out⟩

theorem refNum_own (a : Option Addr) (len cap m v : Nat) (M : Int) (l : List Int) (w : World) (hB : Bytes w a len l) (hnil : a = none → cap = 0) (hlen : len ≤ 4000000) (hM : (m : Int) = M) (hm1 : 1 ≤ m) (hm : m < 8) (hv : v < 256 ^ m) (hv4 : v < 4294967296) :
    Calls Tryz.prog 64 #[.slice a len cap, .int .i64 M, .int .i64 v] w fun e w' => ∃ a' c', e = .returned (.slice a' (len + m) c') ∧ Own w' w.heap.size (.slice a' (len + m) c') (len + m) (l ++ numB false m v) ∧ Below w.heap.size w w' := by
  have HP := Lib.hid (refPut_own a len cap m v l false w hB hnil hlen (by omega) (by omega) (fitsM hm hv))
  rw [hM] at HP
  obtain ⟨K, hK⟩ := named (len + m)
  rw [hK.out] at HP ⊢
  have e1 : IntKind.u64.wrap (v : Int) = v := by rw [IntKind.wrap_u64]; omega
  clear hB hM hv
  go_enter Tryz.func64, Tryz.ntmps64
  go_wp2_with (go_at_call 83; refine HP.out.mono ?_; rintro e w1 ⟨a1, c1, rfl, g1, g3⟩; have HB := Lib.hid g1; have HG := Lib.hid g3; clear g1 g3)
  go_ret
  exact ⟨a1, c1, rfl, HB.out, HG.out⟩
set_option maxRecDepth 100000 in
set_option maxHeartbeats 3200000 in
theorem refTable9_no (w : World) (a : Option Addr) (len cap : Nat) (ds : List LfD) (c : Int) (h : TabR w a len ds) (hr : ¬ rightT (tbOf ds) 4096 c) :
    Calls Tryz.prog 41 #[.agg #[.slice a len cap], .int .i64 c] w (PutPost w [] 1) := by
  have HR := Lib.hid (fun w h => refRight9_is w a len cap ds 4096 c h false (decide_eq_false hr))
  have HT := Lib.hid (h.later ((Below.refl _ _).alloc (Nat.le_refl _) (.cells #[.slice a len cap] 26)))
  have HB0 := Lib.hid ((Below.refl w.heap.size w).alloc (Nat.le_refl _) (.cells #[.slice a len cap] 26))
  by_cases hc0 : c < 0
  · go_enter Tryz.func41, Tryz.ntmps41
    go_wp2
    go_ret2
    exact ⟨none, 0, rfl, none_bytes _, ⟨fun _ => rfl, Nat.le_refl _⟩, HB0.out⟩
  · by_cases hc6 : 6 < c
    · go_enter Tryz.func41, Tryz.ntmps41
      go_wp2
      go_ret2
      exact ⟨none, 0, rfl, none_bytes _, ⟨fun _ => rfl, Nat.le_refl _⟩, HB0.out⟩
    · go_enter Tryz.func41, Tryz.ntmps41
      go_wp2_with (go_at_call 58; (with_reducible refine (HR.out _ HT.out).mono ?_); rintro e w1 ⟨rfl, g⟩; have HB := Lib.hid (HB0.out.trans (g.mono HB0.out.size)); clear g)
      go_ret2
      exact ⟨none, 0, rfl, none_bytes _, ⟨fun _ => rfl, Nat.le_refl _⟩, HB.out⟩
/-- What the reference's rounds hold: the bytes so far, the box of the table. -/
def RA (w0 : World) (X : Nat) (v : Value) (B : Nat) (a : Option Addr) (n c : Nat) (l : List Int) (W : World) : Prop := Ap w0 B a n c l W ∧ Blk W X 26 #[v] ∧ X < B
section
variable {w0 w w' : World} {X B n c : Nat} {v : Value} {a : Option Addr} {l : List Int}
theorem RA.later (h : RA w0 X v B a n c l w) (hb : Below w.heap.size w w') : RA w0 X v B a n c l w' := ⟨h.1.later hb, h.2.1.later hb, h.2.2⟩
theorem RA.app (h : RA w0 X v B a n c l w) {a' : Option Addr} {n' c' : Nat} {l' : List Int} (ho : Own w' B (.slice a' n' c') n' l') (hg : w.grownBy w' (Value.slice a n c).ownBlock) : RA w0 X v B a' n' c' l' w' :=
  ⟨h.1.app ho hg, h.2.1.kept hg (fun e => by have := (h.1.1.1.lt X e.symm).1; have := h.2.2; omega), h.2.2⟩
theorem RA.fresh (h : RA w0 X v B a n c l w) (hb : Below w.heap.size w w') {a' : Option Addr} {n' c' : Nat} {l' : List Int} (ho : Own w' w.heap.size (.slice a' n' c') n' l') : RA w0 X v w.heap.size a' n' c' l' w' :=
  ⟨⟨ho, h.1.2.1.trans (hb.mono h.1.2.1.size), h.1.2.1.size, hb.size⟩, h.2.1.later hb, h.2.1.lt⟩
end
set_option maxRecDepth 100000 in
set_option maxHeartbeats 3200000 in
theorem refTable9_ok (w : World) (a : Option Addr) (len cap : Nat) (ds : List LfD) (c : Int) (h : TabR w a len ds) (hlen : len ≤ 6000) (hr : rightT (tbOf ds) 4096 c) :
    Calls Tryz.prog 41 #[.agg #[.slice a len cap], .int .i64 c] w (PutPost w (tblB (tbOf ds)) 0) := by
  have HR := Lib.hid (fun w h => refRight9_is w a len cap ds 4096 c h true (decide_eq_true hr))
  have HT0 := Lib.hid h
  have HT := Lib.hid (h.later ((Below.refl _ _).alloc (Nat.le_refl _) (.cells #[.slice a len cap] 26)))
  have HRT := Lib.hid hr
  have hc0 : ¬ c < 0 := by have := hr.2.1; omega
  have hc6 : ¬ 6 < c := by have := hr.2.1; omega
  have HB := Lib.hid ((Below.refl w.heap.size w).alloc (Nat.le_refl _) (.cells #[.slice a len cap] 26))
  clear h hr
  go_enter Tryz.func41, Tryz.ntmps41
  go_wp2_with (go_at_call 58; (with_reducible refine (HR.out _ HT.out).mono ?_); rintro e w1 ⟨rfl, g⟩; have HG := Lib.hid g; have HX := Lib.hid ((Blk.new w 26 #[.slice a len cap]).later g); clear g)
  obtain ⟨X, hX⟩ := named w.heap.size
  have hXX := hX.out
  have HP0 : Hid (RA w X (.slice a len cap) (X + 1) none 0 0 [] w1) := by
    have h1 := HB.out.trans (HG.out.mono HB.out.size)
    have h2 := HX.out
    rw [hX.out] at h2
    have h3 := h2.lt
    exact ⟨⟨⟨⟨rfl, Or.inl ⟨rfl, rfl⟩⟩, by simp [Small]⟩, h1, by omega, h3⟩, h2, by omega⟩
  have hTl : (tbOf ds).length = len := HT0.out.tlen
  obtain ⟨T, hTn⟩ := named (tbOf ds)
  rw [hTn.out] at HRT hTl
  have h512 : len ≤ 512 := by rw [← hTl]; exact HRT.out.2.2.2.1
  rw [hX.out]
  go_loopw [6, 7, 8] (fun cn s iv wr => ∃ (j N B : Nat) (a' : Option Addr) (c' : Nat), j ≤ len ∧ Hid (cntT T j = N) ∧ cn = .int .i64 N ∧ s = .slice a' (N * 130) c' ∧ iv = .int .i64 j ∧ Hid (RA w X (.slice a len cap) B a' (N * 130) c' (bodyB T j) wr)) (fun _ _ iv _ => len - (intOf iv).toNat)
  case atStart => exact ⟨0, 0, X + 1, none, 0, Nat.zero_le _, rfl, rfl, rfl, rfl, HP0.out⟩
  case round =>
    obtain ⟨j, N, B, a', c', hj, HN, rfl, rfl, rfl, HP⟩ := hrel
    have hNj : N ≤ 512 := by have h1 := cntT_le T j; have h2 := HN.out; omega
    obtain ⟨M, hM⟩ := named (N * 130)
    rw [hM.out] at HP ⊢
    have hMb : M ≤ 70000 := by rw [← hM.out]; omega
    have hx := one_cell9 HP.out.2.1
    have q2 : (256 : Nat) ^ 2 = 65536 := by decide
    by_cases hlt : j < len
    · obtain ⟨b, off, al, ll, cl, xs, e1, x1, hL, htb, _⟩ := HT0.out.at j hlt
      rw [hTn.out] at htb
      subst e1
      have HCX : Hid (∀ W, Below w.heap.size w W → W.cell? ⟨b, off + j, none⟩ = some (.slice al ll cl)) := fun W hb => (hb.cell (p := ⟨b, off + j, none⟩) (block_lt_of_cell x1)).trans x1
      have x2 := HCX.out _ HP.out.1.2.1
      have hll := hL.len
      dsimp only at hll
      by_cases h0 : xs = []
      · subst h0
        obtain rfl : ll = 0 := hll.symm
        have hC : Hid (cntT T (j + 1) = N) := by
          show (if tbAt T j = [] then cntT T j else cntT T j + 1) = N
          rw [if_pos htb]
          exact HN.out
        have hBd : bodyB T (j + 1) = bodyB T j := by
          show (if tbAt T j = [] then bodyB T j else _) = _
          rw [if_pos htb]
        have HBD := Lib.hid hBd
        clear hBd htb hL hll x1
        go_wp2
        go_roundw
        case rel => exact ⟨j + 1, N, B, a', c', by omega, hC, rfl, by rw [hM.out], by go_num, by rw [HBD.out, hM.out]; exact HP.out⟩
        case measure => simp [intOf]; omega
      · have hne : tbAt T j ≠ [] := by rw [htb]; exact h0
        obtain ⟨q1, q3, _⟩ := HRT.out.2.2.2.2 j (by omega) hne
        rw [htb] at q1 q3
        obtain rfl : ll = 8 := hll.symm.trans q1
        have hC : Hid (cntT T (j + 1) = N + 1) := by
          show (if tbAt T j = [] then cntT T j else cntT T j + 1) = N + 1
          rw [if_neg hne, HN.out]
        have hBd : bodyB T (j + 1) = bodyB T j ++ leafB j xs := by
          show (if tbAt T j = [] then bodyB T j else bodyB T j ++ leafB j (tbAt T j)) = _
          rw [if_neg hne, htb]
        have HBD := Lib.hid hBd
        have HL := Lib.hid hL
        have HLN := Lib.hid q1
        have HM := Lib.hid (fun k hk => (q3 k hk).1)
        have hMN : M + 130 = (N + 1) * 130 := by rw [← hM.out]; omega
        have HMN := Lib.hid hMN
        have HNU := Lib.hid (refNum_own a' M c' 2 j 2 (bodyB T j) wr HP.out.1.1.bytes.1 HP.out.1.1.bytes.2 (by omega) rfl (by omega) (by omega) (by omega) (by omega))
        clear hBd htb hL hll x1 q1 q3 hne hMN
        go_wp2_with (go_at_call 64; (with_reducible refine HNU.out.mono ?_); rintro e w3 ⟨a3, c3, rfl, g1, g2⟩; have HP3 := Lib.hid (HP.out.fresh g2 g1); clear g1 g2)
        obtain ⟨D, hD⟩ := named wr.heap.size
        rw [hD.out] at HP3
        go_loopw [7, 9] (fun s kv wq => ∃ (k : Nat) (a' : Option Addr) (c' : Nat), k ≤ 8 ∧ s = .slice a' (M + 2 + 16 * k) c' ∧ kv = .int .i64 k ∧ Hid (RA w X (.slice (some ⟨b, off, none⟩) len cap) D a' (M + 2 + 16 * k) c' (bodyB T j ++ numB false 2 j ++ (xs.take k).flatMap enB) wq)) (fun _ kv _ => 8 - (intOf kv).toNat)
        case atStart => exact ⟨0, a3, c3, Nat.zero_le _, rfl, rfl, by rw [List.take_zero, List.flatMap_nil, List.append_nil]; exact HP3.out⟩
        case round =>
          obtain ⟨k, a4, c4, hk, rfl, rfl, HQ⟩ := hrel
          have hx3 := one_cell9 HQ.out.2.1
          have x3 := HCX.out _ HQ.out.1.2.1
          obtain ⟨M4, hM4⟩ := named (M + 2 + 16 * k)
          rw [hM4.out] at HQ ⊢
          have hM4b : M4 ≤ 80000 := by rw [← hM4.out]; omega
          by_cases hlk : k < 8
          · obtain ⟨b2, off2, e2, hs, y1, y2, y3, y4, y5⟩ := (HL.out.later HQ.out.1.2.1).at k hlk
            dsimp only at e2 hs y1 y2 y3 y4 y5
            subst e2
            have hmk := HM.out k hlk
            have hls : bodyB T j ++ numB false 2 j ++ (xs.take (k + 1)).flatMap enB = bodyB T j ++ numB false 2 j ++ (xs.take k).flatMap enB ++ enB (lfAt xs k) := by
              have := HLN.out
              rw [List.take_succ_eq_append_getElem (by omega), List.flatMap_append, lfAt_in (by omega)]
              simp only [List.flatMap_cons, List.flatMap_nil, List.append_nil, List.append_assoc]
            have hMk : M4 + 16 = M + 2 + 16 * (k + 1) := by rw [← hM4.out]; omega
            obtain ⟨L, hLd⟩ := named (bodyB T j ++ numB false 2 j ++ (xs.take k).flatMap enB)
            rw [hLd.out] at HQ hls
            obtain ⟨⟨v1, v2, v3, v4, v5⟩, HV⟩ := named (lfAt xs k)
            rw [HV.out] at y1 y2 y3 y4 y5 hs hmk hls
            dsimp only at y1 y2 y3 y4 y5
            clear HV
            have HPE := Lib.hid (fun w => refEntry_ok hmk hs w)
            have HLS := Lib.hid hls
            have HMK := Lib.hid hMk
            clear hs hmk hls hMk
            go_wp2_with (first
              | (go_at_call 65; (with_reducible refine (HPE.out _).mono ?_); intro e w4 h; obtain ⟨a6, c6, rfl, g1, g2, g3⟩ := h.sized (enB_len _); have HQ4 := Lib.hid (HQ.out.later g3); have HB4 := Lib.hid g1; have HC4 := Lib.hid g2.1; clear h g1 g2 g3)
              | (at_builtin; refine append_bytes rfl _ _ rfl D _ M4 L rfl HQ4.out.1.1 a6 16 c6 _ rfl HC4.out HB4.out (by omega) HQ4.out.1.2.2.2 ?_; intro a7 c7 w7 h1 h2; have HQ5 := Lib.hid (HQ4.out.app h1 h2); clear h1 h2))
            go_roundw
            case rel =>
              refine ⟨k + 1, a7, c7, by omega, by rw [HMK.out], by go_num, ?_⟩
              rw [← HMK.out, HLS.out]
              exact HQ5.out
            case measure => simp [intOf]; omega
          · have hk8 : k = 8 := by omega
            subst hk8
            have ht : xs.take 8 = xs := by rw [List.take_of_length_le (by have := HLN.out; omega)]
            rw [ht] at HQ
            have hM8 : M4 = (N + 1) * 130 := by rw [← hM4.out, ← HMN.out]
            go_wp2
            go_roundw
            case rel =>
              refine ⟨j + 1, N + 1, D, a4, c4, by omega, hC, by go_num, by rw [hM8], by go_num, ?_⟩
              rw [HBD.out, ← hM8]
              unfold leafB
              rw [← List.append_assoc]
              exact HQ.out
            case measure => simp [intOf]; omega
    · have hjl : j = len := by omega
      subst hjl
      have HE := Lib.hid (fun w => refNum_own none 0 0 2 N 2 [] w (none_bytes w) (fun _ => rfl) (by omega) rfl (by omega) (by omega) (by omega) (by omega))
      simp only [Nat.zero_add, List.nil_append] at HE
      have HBY := Lib.hid HP.out.1.1.bytes
      have HTB : Hid (tblB T = numB false 2 N ++ bodyB T j) := by
        show _ = _
        unfold tblB
        rw [hTl, HN.out]
      go_wp2_with (first
        | (go_at_call 64; (with_reducible refine (HE.out _).mono ?_); rintro e w4 ⟨a4, c4, rfl, g1, g2⟩; have HA4 := Lib.hid (HP.out.fresh g2 g1); have HB4 := Lib.hid (HBY.out.1.later g2); clear g1 g2)
        | (at_builtin; refine append_bytes rfl _ _ rfl wr.heap.size _ 2 (numB false 2 N) rfl HA4.out.1.1 a' M c' _ rfl HBY.out.2 HB4.out (by omega) HA4.out.1.2.2.2 ?_; intro a5 c5 w5 h1 h2; have HA5 := Lib.hid (HA4.out.app h1 h2); clear h1 h2))
      go_ret2
      have h5 := HA5.out.1.1
      rw [← HTB.out, ← hTn.out] at h5
      exact PutPost.own 0 h5 HA5.out.1.2.1
end Go.Proofs.YtdffgnpldapciaaGreatDoor
namespace Go.Proofs.YtdffgnpldapciaaGreatDoor
open Go.RowKit
set_option linter.unusedVariables false

theorem num_tells {k v v' : Nat} {r r' : List Int} (hk : k < 8) (hv : v < 256 ^ k) (hv' : v' < 256 ^ k) (hf : v < 4294967296) (hf' : v' < 4294967296) (h : numB false k v ++ r = numB false k v' ++ r') : v = v' ∧ r = r' := by
  have h1 := get_back [] r false k v (by unfold Fit64; omega) (by omega) (fitsM hk hv)
  have h2 := get_back [] r' false k v' (by unfold Fit64; omega) (by omega) (fitsM hk hv')
  rw [List.nil_append] at h1 h2
  rw [h, h2] at h1
  subst h1
  exact ⟨rfl, List.append_cancel_left h⟩
theorem num_tells1 {v v' : Nat} {r r' : List Int} (hv : v < 256) (hv' : v' < 256) (h : numB false 1 v ++ r = numB false 1 v' ++ r') : v = v' ∧ r = r' := num_tells (by omega) (by omega) (by omega) (by omega) (by omega) h
theorem num_tells2 {v v' : Nat} {r r' : List Int} (hv : v < 65536) (hv' : v' < 65536) (h : numB false 2 v ++ r = numB false 2 v' ++ r') : v = v' ∧ r = r' := num_tells (by omega) (lt16 hv) (lt16 hv') (by omega) (by omega) h
theorem num_tells4 {v v' : Nat} {r r' : List Int} (hv : v < 65537) (hv' : v' < 65537) (h : numB false 4 v ++ r = numB false 4 v' ++ r') : v = v' ∧ r = r' := by
  have e : (256 : Nat) ^ 4 = 4294967296 := by decide
  exact num_tells (by omega) (by omega) (by omega) (by omega) (by omega) h
theorem text_tells {s s' : ByteArray} {r r' : List Int} (hs : s.size ≤ 65535) (hs' : s'.size ≤ 65535) (h : textB s ++ r = textB s' ++ r') : s = s' ∧ r = r' := by
  have t1 := text_back [] r s
  have t2 := text_back [] r' s'
  have e : s.size = s'.size := by
    have h2 := h
    unfold textB at h2
    rw [List.append_assoc, List.append_assoc] at h2
    exact (num_tells2 (by omega) (by omega) h2).1
  rw [List.nil_append] at t1 t2
  rw [h, e, t2] at t1
  subst t1
  exact ⟨rfl, List.append_cancel_left h⟩
def EnT (T : Tb) : Prop := ∀ lf ∈ T, ∀ x ∈ lf, EnOk x
theorem tab_tells {T T' : Tb} {c : Int} {r r' : List Int} (h : rightT T 4096 c) (h' : rightT T' 4096 c) (ho : EnT T) (ho' : EnT T') (e : tblB T ++ r = tblB T' ++ r') : T = T' ∧ r = r' := by
  have t1 := readT_back h ho [] r
  have t2 := readT_back h' ho' [] r'
  rw [List.nil_append] at t1 t2
  rw [e, t2] at t1
  simp only [Option.some.injEq, Prod.mk.injEq] at t1
  obtain ⟨rfl, _⟩ := t1
  exact ⟨rfl, List.append_cancel_left e⟩
theorem flat_tells {α : Type} (f : α → List Int) (P : α → Prop) (hf : ∀ x y r r', P x → P y → f x ++ r = f y ++ r' → x = y ∧ r = r') : ∀ (l l' : List α) (r r' : List Int), l.length = l'.length → (∀ x ∈ l, P x) → (∀ x ∈ l', P x) → l.flatMap f ++ r = l'.flatMap f ++ r' → l = l' ∧ r = r'
  | [], [], r, r', _, _, _, h => ⟨rfl, h⟩
  | [], y :: l', r, r', hl, _, _, _ => by simp at hl
  | x :: l, [], r, r', hl, _, _, _ => by simp at hl
  | x :: l, y :: l', r, r', hl, h1, h2, h => by
    rw [List.flatMap_cons, List.flatMap_cons, List.append_assoc, List.append_assoc] at h
    have q_ := hf x y _ _ (h1 x (by simp)) (h2 y (by simp)) h
    clear h
    obtain ⟨rfl, h⟩ := q_
    have q_ := flat_tells f P hf l l' r r' (by simpa using hl) (fun z hz => h1 z (by simp [hz])) (fun z hz => h2 z (by simp [hz])) h
    clear h
    obtain ⟨rfl, h⟩ := q_
    exact ⟨rfl, h⟩
/-- A shot whose bytes tell it. -/
def ShT (c : Int) (d : ShM) : Prop := d.1.size ≤ 65535 ∧ (0 ≤ d.2.1 ∧ d.2.1 < 65536) ∧ rightT d.2.2 4096 c ∧ EnT d.2.2
theorem sh_tells {c : Int} (x y : ShM) (r r' : List Int) (hx : ShT c x) (hy : ShT c y) (h : shB x ++ r = shB y ++ r') : x = y ∧ r = r' := by
  obtain ⟨n1, s1, T1⟩ := x
  obtain ⟨n2, s2, T2⟩ := y
  obtain ⟨a1, a2, a3, a4⟩ := hx
  obtain ⟨b1, b2, b3, b4⟩ := hy
  dsimp only at a1 a2 a3 a4 b1 b2 b3 b4
  unfold shB at h
  simp only [List.append_assoc] at h
  have q_ := text_tells a1 b1 h
  clear h
  obtain ⟨rfl, h⟩ := q_
  have q_ := num_tells2 (by omega) (by omega) h
  clear h
  obtain ⟨e, h⟩ := q_
  obtain rfl : s1 = s2 := by omega
  have q_ := tab_tells a3 b3 a4 b4 h
  clear h
  obtain ⟨rfl, h⟩ := q_
  exact ⟨rfl, h⟩
theorem sp_tells (x y : Sp) (r r' : List Int) (hx : Two16 x.1 ∧ Two16 x.2) (hy : Two16 y.1 ∧ Two16 y.2) (h : spB x ++ r = spB y ++ r') : x = y ∧ r = r' := by
  obtain ⟨f1, t1⟩ := x
  obtain ⟨f2, t2⟩ := y
  unfold Two16 at hx hy
  dsimp only at hx hy
  unfold spB at h
  simp only [List.append_assoc] at h
  have q_ := num_tells2 (by omega) (by omega) h
  clear h
  obtain ⟨e, h⟩ := q_
  have q_ := num_tells2 (by omega) (by omega) h
  clear h
  obtain ⟨e2, h⟩ := q_
  obtain rfl : f1 = f2 := by omega
  obtain rfl : t1 = t2 := by omega
  exact ⟨rfl, h⟩
/-- A bitmap whose bytes tell it. -/
def BmT (b : BmM) : Prop := b.1.size ≤ 65535 ∧ b.2.2.length ≤ 65535 ∧ ∀ s ∈ b.2.2, Two16 s.1 ∧ Two16 s.2
theorem onN_lt (b : Bool) : onN b < 256 := by cases b <;> decide
theorem bm_tells (x y : BmM) (r r' : List Int) (hx : BmT x) (hy : BmT y) (h : bmB x ++ r = bmB y ++ r') : x = y ∧ r = r' := by
  obtain ⟨n1, s1, T1⟩ := x
  obtain ⟨n2, s2, T2⟩ := y
  obtain ⟨a1, a2, a3⟩ := hx
  obtain ⟨b1, b2, b3⟩ := hy
  dsimp only at a1 a2 a3 b1 b2 b3
  unfold bmB at h
  simp only [List.append_assoc] at h
  have q_ := text_tells a1 b1 h
  clear h
  obtain ⟨rfl, h⟩ := q_
  have q_ := num_tells1 (onN_lt _) (onN_lt _) h
  clear h
  obtain ⟨e, h⟩ := q_
  obtain rfl : s1 = s2 := by
    cases s1 <;> cases s2 <;> first | rfl | exact absurd e (by decide)
  have q_ := num_tells2 (by omega) (by omega) h
  clear h
  obtain ⟨e2, h⟩ := q_
  have q_ := flat_tells spB (fun s => Two16 s.1 ∧ Two16 s.2) sp_tells T1 T2 _ _ e2 a3 b3 h
  clear h
  obtain ⟨rfl, h⟩ := q_
  exact ⟨rfl, h⟩
theorem take_lead {c : Int} : ∀ (r : List Int) (m : Nat), m ≤ lead c r → r.take m = List.replicate m c
  | _, 0, _ => by simp
  | [], m + 1, h => absurd h (by show ¬ m + 1 ≤ 0; omega)
  | x :: r, m + 1, h => by
    unfold lead at h
    split at h
    · rename_i e
      subst e
      rw [List.take_succ_cons, List.replicate_succ, take_lead (c := x) r m (by omega)]
    · omega
theorem run_rep {K : List Int} (h : K ≠ []) : K = List.replicate (runN K) (K.headD 0) ++ K.drop (runN K) := by
  cases K with
  | nil => exact absurd rfl h
  | cons x r =>
    have hle : runN (x :: r) ≤ lead x r + 1 := by
      show min (lead x r + 1) 65535 ≤ lead x r + 1
      omega
    obtain ⟨m, hm⟩ : ∃ m, runN (x :: r) = m + 1 := ⟨runN (x :: r) - 1, by have := (runN_pos h).1; omega⟩
    rw [hm] at hle ⊢
    have ht : (x :: r).take (m + 1) = List.replicate (m + 1) x := by
      rw [List.take_succ_cons, List.replicate_succ, take_lead (c := x) r m (by omega)]
    show x :: r = List.replicate (m + 1) x ++ (x :: r).drop (m + 1)
    rw [← ht, List.take_append_drop]
theorem runs_tells : ∀ (n : Nat) (K K' r r' : List Int), K.length ≤ n → K.length = K'.length → (∀ k ∈ K, 0 ≤ k ∧ k ≤ 65535) → (∀ k ∈ K', 0 ≤ k ∧ k ≤ 65535) → runsB K ++ r = runsB K' ++ r' → K = K' ∧ r = r'
  | n, [], K', r, r', _, hl, _, _, h => by
    obtain rfl : K' = [] := List.eq_nil_of_length_eq_zero hl.symm
    exact ⟨rfl, h⟩
  | 0, x :: K, K', r, r', hn, _, _, _, _ => by simp at hn
  | n + 1, x :: K, [], r, r', _, hl, _, _, _ => by simp at hl
  | n + 1, x :: K, y :: K', r, r', hn, hl, h1, h2, h => by
    have hne : (x :: K) ≠ [] := by simp
    have hne' : (y :: K') ≠ [] := by simp
    have p1 := runN_pos hne
    have p2 := runN_pos hne'
    have q1 := run_rep hne
    have q2 := run_rep hne'
    have b1 := h1 x (by simp)
    have b2 := h2 y (by simp)
    rw [runsB_step hne, runsB_step hne'] at h
    simp only [List.append_assoc] at h
    have q_ := num_tells2 (by omega) (by omega) h
    clear h
    obtain ⟨e1, h⟩ := q_
    have d1 : (x :: K).headD 0 = x := rfl
    have d2 : (y :: K').headD 0 = y := rfl
    rw [d1] at h q1
    rw [d2] at h q2
    have q_ := num_tells2 (by omega) (by omega) h
    clear h
    obtain ⟨e2, h⟩ := q_
    obtain rfl : x = y := by omega
    have q_ := runs_tells n ((x :: K).drop (runN (x :: K))) ((x :: K').drop (runN (x :: K'))) r r' (by rw [List.length_drop]; omega) (by rw [List.length_drop, List.length_drop, hl, e1]) (fun k hk => h1 k (List.mem_of_mem_drop hk)) (fun k hk => h2 k (List.mem_of_mem_drop hk)) h
    clear h
    obtain ⟨e3, h⟩ := q_
    rw [e3, e1, ← q2] at q1
    exact ⟨q1, h⟩
theorem cnt_tells {K K' r r' : List Int} (hn : K.length ≤ 65536) (hn' : K'.length ≤ 65536) (h1 : ∀ k ∈ K, 0 ≤ k ∧ k ≤ 65535) (h2 : ∀ k ∈ K', 0 ≤ k ∧ k ≤ 65535) (h : cntB K ++ r = cntB K' ++ r') : K = K' ∧ r = r' := by
  unfold cntB at h
  rw [List.append_assoc, List.append_assoc] at h
  have q_ := num_tells4 (by omega) (by omega) h
  clear h
  obtain ⟨e, h⟩ := q_
  exact runs_tells K.length K K' r r' (Nat.le_refl _) e h1 h2 h
def EnM (M : MM) : Prop := EnT M.T ∧ ∀ d ∈ M.S, EnT d.2.2
theorem Sml.shT {M : MM} (h : Sml M) (ho : EnM M) : ∀ d ∈ M.S, ShT M.c d := fun d hd => by
  obtain ⟨q1, q2, q3⟩ := h.S d hd
  exact ⟨by omega, by omega, q3, ho.2 d hd⟩
theorem Sml.bmT {M : MM} (h : Sml M) : ∀ b ∈ M.B, BmT b := fun b hb => by
  obtain ⟨q1, q2, q3⟩ := h.B b hb
  exact ⟨by omega, by omega, q3⟩
theorem encM_tells {M M' : MM} {r r' : List Int} (h : Sml M) (h' : Sml M') (ho : EnM M) (ho' : EnM M') (e : encM M ++ r = encM M' ++ r') : M = M' ∧ r = r' := by
  have s1 := h.shT ho
  have s2 := h'.shT ho'
  have b1 := h.bmT
  have b2 := h'.bmT
  obtain ⟨c, s, bk, T, S, B, K⟩ := M
  obtain ⟨c', s', bk', T', S', B', K'⟩ := M'
  obtain ⟨kc, ks, kbk, kT, knS, kS, knB, kB, knK, kK⟩ := h
  obtain ⟨kc', ks', kbk', kT', knS', kS', knB', kB', knK', kK'⟩ := h'
  obtain ⟨oT, oS⟩ := ho
  obtain ⟨oT', oS'⟩ := ho'
  dsimp only at kc ks kbk kT knS kS knB kB knK kK kc' ks' kbk' kT' knS' kS' knB' kB' knK' kK' oT oS oT' oS' s1 s2 b1 b2
  unfold encM at e
  simp only [List.append_assoc] at e
  have q_ := num_tells1 (by omega) (by omega) e
  clear e
  obtain ⟨e1, e⟩ := q_
  obtain rfl : c = c' := by omega
  have q_ := num_tells2 (by omega) (by omega) e
  clear e
  obtain ⟨e2, e⟩ := q_
  obtain rfl : s = s' := by omega
  have q_ := text_tells (by omega) (by omega) e
  clear e
  obtain ⟨rfl, e⟩ := q_
  have q_ := tab_tells kT kT' oT oT' e
  clear e
  obtain ⟨rfl, e⟩ := q_
  have q_ := num_tells1 (by omega) (by omega) e
  clear e
  obtain ⟨e5, e⟩ := q_
  have q_ := flat_tells shB (ShT c) sh_tells S S' _ _ e5 s1 s2 e
  clear e
  obtain ⟨rfl, e⟩ := q_
  have q_ := num_tells1 (by omega) (by omega) e
  clear e
  obtain ⟨e6, e⟩ := q_
  have q_ := flat_tells bmB BmT bm_tells B B' _ _ e6 b1 b2 e
  clear e
  obtain ⟨rfl, e⟩ := q_
  have q_ := cnt_tells knK knK' kK kK' e
  clear e
  obtain ⟨rfl, e⟩ := q_
  exact ⟨rfl, e⟩
theorem MetaD.en {w : World} {x : Mt} {M : MM} (h : MetaD w x M) : EnM M := by
  refine ⟨h.T.lens.2.2.2, fun d hd => ?_⟩
  obtain ⟨ds, h1, h2, _⟩ := h.S
  rw [← h2] at hd
  obtain ⟨e, he, rfl⟩ := List.mem_map.1 hd
  exact (h1.2 e he).lens.2.2.2
end Go.Proofs.YtdffgnpldapciaaGreatDoor
namespace Go.Proofs.YtdffgnpldapciaaGreatDoor
open Go.RowKit
set_option linter.unusedVariables false

set_option maxHeartbeats 800000 in
theorem refText_own (a : Option Addr) (len cap : Nat) (l : List Int) (s : ByteArray) (w : World) (hB : Bytes w a len l) (hnil : a = none → cap = 0) (hlen : len ≤ 4000000) (h : s.size ≤ 65535) :
    Calls Tryz.prog 40 #[.slice a len cap, .string s] w fun e w' => ∃ a' c', e = .returned (.tuple #[.slice a' (len + 2 + s.size) c', .int .i64 0]) ∧ Own w' w.heap.size (.slice a' (len + 2 + s.size) c') (len + 2 + s.size) (l ++ textB s) ∧ Below w.heap.size w w' := by
  have HB := Lib.hid hB
  have HN := Lib.hid hnil
  have HT : Hid (textB s = [(s.size : Int) % 256, (s.size : Int) / 256] ++ strB s) := by rw [Hid, textB, numB_two, show (s.size : Int) / 256 % 256 = (s.size : Int) / 256 by omega]
  clear hB hnil
  go_enter Tryz.func40, Tryz.ntmps40
  go_wp2_with (first
    | (at_builtin; refine append_copy rfl (.tmp 10) (.tmp 11) rfl w.heap.size rfl a len cap l rfl HN.out HB.out (by omega) (Nat.le_refl _) ?_; intro a1 c1 w1 g1 g2; have HO := Lib.hid g1; have HG := Lib.hid g2; clear g1 g2)
    | (at_builtin; refine append_more rfl (.tmp 13) (.tmp 21) rfl w.heap.size _ len l rfl (HO.out.alloc _) _ 2 2 [_, _] rfl (fun e => by cases e) (two_bytes _ _ _ (by omega) (by omega)) (by omega) (Nat.le_trans HG.out.size (by simp)) ?_; intro a2 c2 w2 g1 g2; have HO2 := Lib.hid g1; have HG2 : Hid (Below w.heap.size w w2) := (HG.out.alloc HG.out.size _).trans g2; clear g1 g2)
    | (at_builtin; refine append_str rfl (.tmp 23) (.tmp 24) rfl w.heap.size _ (len + 2) _ rfl HO2.out s rfl (by omega) HG2.out.size ?_; intro a3 c3 w3 g1 g2; have HO3 := Lib.hid g1; have HG3 : Hid (Below w.heap.size w w3) := HG2.out.trans g2; clear g1 g2))
  go_ret2
  have e := HO3.out
  rw [List.append_assoc, ← HT.out] at e
  exact ⟨_, _, rfl, e, HG3.out⟩
/-- What the reference's Put holds: the bytes so far, the box of the meta below them. -/
def RP (w0 : World) (X : Nat) (cs : Array Value) (a : Option Addr) (n c : Nat) (l : List Int) (W : World) : Prop := (∃ B, Ap w0 B a n c l W ∧ X < B) ∧ Blk W X 31 cs ∧ w0.heap.size ≤ X
section
variable {w0 w w' : World} {X n c : Nat} {cs : Array Value} {a : Option Addr} {l : List Int}
theorem RP.later (h : RP w0 X cs a n c l w) (hb : Below w.heap.size w w') : RP w0 X cs a n c l w' := by
  obtain ⟨⟨B, h1, h2⟩, h3, h4⟩ := h
  exact ⟨⟨B, h1.later hb, h2⟩, h3.later hb, h4⟩
theorem RP.alloc (h : RP w0 X cs a n c l w) (o : Obj) : RP w0 X cs a n c l (w.alloc o) := h.later ((Below.refl _ _).alloc (Nat.le_refl _) _)
theorem RP.b (h : RP w0 X cs a n c l w) : Below w0.heap.size w0 w := by
  obtain ⟨⟨B, h1, h2⟩, h3, h4⟩ := h
  exact h1.2.1
theorem RP.fresh (h : RP w0 X cs a n c l w) (hb : Below w.heap.size w w') {a' : Option Addr} {n' c' : Nat} {l' : List Int} (ho : Own w' w.heap.size (.slice a' n' c') n' l') : RP w0 X cs a' n' c' l' w' :=
  ⟨⟨w.heap.size, ⟨ho, h.b.trans (hb.mono h.b.size), h.b.size, hb.size⟩, h.2.1.lt⟩, h.2.1.later hb, h.2.2⟩
theorem RP.app (h : Blk w X 31 cs) (hX : w0.heap.size ≤ X) {B : Nat} (hB : X < B) (hA : Ap w0 B a n c l w) {a' : Option Addr} {n' c' : Nat} {l' : List Int} (ho : Own w' B (.slice a' n' c') n' l') (hg : w.grownBy w' (Value.slice a n c).ownBlock) : RP w0 X cs a' n' c' l' w' :=
  ⟨⟨B, hA.app ho hg, hB⟩, h.kept hg (fun e => by have := (hA.1.1.lt X e.symm).1; omega), hX⟩
theorem RP.first (w : World) (cs : Array Value) : RP w w.heap.size cs none 0 0 [] (w.alloc (.cells cs 31)) :=
  ⟨⟨w.heap.size + 1, ⟨⟨⟨rfl, Or.inl ⟨rfl, rfl⟩⟩, by simp [Small]⟩, (Below.refl _ _).alloc (Nat.le_refl _) _, by omega, by rw [World.size_alloc]; exact Nat.le_refl _⟩, by omega⟩, Blk.new _ _ _, Nat.le_refl _⟩
theorem RP.bytes (h : RP w0 X cs a n c l w) : Bytes w a n l ∧ (a = none → c = 0) := by
  obtain ⟨⟨B, h1, h2⟩, h3, h4⟩ := h
  exact h1.1.bytes
theorem RP.len (h : RP w0 X cs a n c l w) : l.length = n := by
  obtain ⟨⟨B, h1, h2⟩, h3, h4⟩ := h
  exact h1.1.len
end
/-- What a call of the reference's hands back, the bytes so far with some more. -/
def RPQ (w0 : World) (X : Nat) (cs : Array Value) (W : World) (L : List Int) (f : Value → Ending) (e : Ending) (w' : World) : Prop := ∃ (a' : Option Addr) (c' : Nat), e = f (.slice a' L.length c') ∧ RP w0 X cs a' L.length c' L w' ∧ Below W.heap.size W w'
theorem RPQ.named {w0 : World} {X : Nat} {cs : Array Value} {W : World} {L : List Int} {f : Value → Ending} {e : Ending} {w' : World} (h : RPQ w0 X cs W L f e w') {n : Nat} (hn : L.length = n) : ∃ (a' : Option Addr) (c' : Nat), e = f (.slice a' n c') ∧ RP w0 X cs a' n c' L w' ∧ Below W.heap.size W w' := by
  subst hn
  exact h
@[reducible] def fOne (v : Value) : Ending := .returned v
@[reducible] def fTwo (v : Value) : Ending := .returned (.tuple #[v, .int .i64 0])
set_option maxHeartbeats 800000 in
theorem refNumX (w0 W : World) (X : Nat) (cs : Array Value) (a : Option Addr) (n c : Nat) (L : List Int) (m v : Nat) (M V : Int) (hP : RP w0 X cs a n c L W) (hn : n ≤ 4000000) (hM : (m : Int) = M) (hV : (v : Int) = V) (h1 : 1 ≤ m) (h2 : m < 8) (hv : v < 256 ^ m) (hv4 : v < 4294967296) :
    Calls Tryz.prog 39 #[.slice a n c, .int .i64 M, .int .i64 V] W (RPQ w0 X cs W (L ++ numB false m v) fOne) := by
  have HN := Lib.hid (refNum_own a n c m v M L W hP.bytes.1 hP.bytes.2 hn hM h1 h2 hv hv4)
  have HP := Lib.hid hP
  have hlen : (L ++ numB false m v).length = n + m := by rw [List.length_append, numB_len, hP.len]
  have HLEN := Lib.hid hlen
  obtain ⟨K, hK⟩ := named (n + m)
  rw [hK.out] at HN HLEN
  subst hV
  clear hlen hP hv hv4
  go_enter Tryz.func39, Tryz.ntmps39
  go_wp2_with (go_at_call 64; (with_reducible refine HN.out.mono ?_); rintro e w1 ⟨a1, c1, rfl, g1, g3⟩; have HO := Lib.hid g1; have HG := Lib.hid g3; clear g1 g3)
  go_ret
  unfold RPQ
  rw [HLEN.out]
  exact ⟨a1, c1, rfl, HP.out.fresh HG.out HO.out, HG.out⟩
theorem refTextX (w0 W : World) (X : Nat) (cs : Array Value) (a : Option Addr) (n c : Nat) (L : List Int) (s : ByteArray) (hP : RP w0 X cs a n c L W) (hn : n ≤ 4000000) (hs : s.size ≤ 65535) :
    Calls Tryz.prog 40 #[.slice a n c, .string s] W (RPQ w0 X cs W (L ++ textB s) fTwo) := by
  refine (refText_own a n c L s W hP.bytes.1 hP.bytes.2 hn hs).mono ?_
  rintro e w1 ⟨a1, c1, rfl, g1, g3⟩
  unfold RPQ
  have hlen : (L ++ textB s).length = n + 2 + s.size := by rw [List.length_append, textB_len, hP.len]; omega
  rw [hlen]
  exact ⟨a1, c1, rfl, hP.fresh g3 g1, g3⟩
theorem refTableX {w0 W : World} {a : Option Addr} {n c : Nat} {T : Tb} {cc : Int} (h : Tab w0 a n c T) (hb : Below w0.heap.size w0 W) (hr : rightT T 4096 cc) :
    Calls Tryz.prog 41 #[.agg #[.slice a n c], .int .i64 cc] W (PutPost W (tblB T) 0) := by
  obtain ⟨ds, d1, d2, rfl, d4, _⟩ := h
  exact refTable9_ok W a n c ds cc (d1.later hb) d4 hr
end Go.Proofs.YtdffgnpldapciaaGreatDoor
namespace Go.Proofs.YtdffgnpldapciaaGreatDoor
open Go.RowKit
set_option linter.unusedVariables false

theorem len_split {TL D R : List Int} (h : TL = D ++ R) (hk : TL.length ≤ 992700) : D.length ≤ 992700 := le_split h hk
set_option maxRecDepth 100000 in
set_option maxHeartbeats 6400000 in
theorem refPutM_ok (w : World) (x : Mt) (M : MM) (h : MetaD w x M) (hr : RightMt M) : Calls Tryz.prog 17 #[.agg (mtA M x)] w (PutPost w (encM M) 0) := by
  have hs := hr.sml
  have hlen := encM_len hs
  have hcn0 : x.cn ≤ 65536 := by have := h.K.1.1; have := hr.nK; omega
  have HRI := Lib.hid (fun W hb => refRight12 W x M (h.later (w := w) (w' := W) hb) hcn0)
  have HPR := Lib.hid hr
  obtain ⟨P, hP⟩ := named (RightMt M)
  rw [hP.out] at HRI HPR
  clear hr hP
  obtain ⟨a0, n0, c0, sa, sn, sc, ma, mn, mc, ca, cn, cc⟩ := x
  obtain ⟨c, s, bk, T, S, B, K⟩ := M
  obtain ⟨hc, hz, hbk, hT, hS, hB, hK⟩ := h
  obtain ⟨kc, ks, kbk, kT, knS, kS, knB, kB, knK, kK⟩ := hs
  have hSl := hS.lens.1
  have hBl := hB.lens.1
  have hKl : K.length = cn := hK.1.1
  obtain ⟨TL, hTL⟩ := named (encM ⟨c, s, bk, T, S, B, K⟩)
  have HTL : Hid (TL.length ≤ 992700) := by rw [← hTL.out]; exact hlen
  have HSPL : Hid (TL = [] ++ numB false 1 c.toNat ++ numB false 2 s.toNat ++ textB bk ++ tblB T ++ numB false 1 sn ++ (S.drop 0).flatMap shB ++ (numB false 1 mn ++ (B.flatMap bmB ++ cntB K))) := by
    rw [Hid, ← hTL.out]
    unfold encM
    dsimp only at hSl hBl ⊢
    rw [hSl, hBl, List.nil_append, List.drop_zero]
    simp only [List.append_assoc]
  rw [hTL.out]
  dsimp only [mtA] at hc hz hbk hT hS hB hK kc ks kbk kT knS kS knB kB knK kK hSl hBl hKl HRI ⊢
  obtain ⟨C, rfl⟩ : ∃ C : Nat, c = C := ⟨c.toNat, by omega⟩
  obtain ⟨Z, rfl⟩ : ∃ Z : Nat, s = Z := ⟨s.toNat, by omega⟩
  rw [Int.toNat_natCast, Int.toNat_natCast] at HSPL
  have hb1 : (256 : Nat) ^ 1 = 256 := by decide
  obtain ⟨X, hX⟩ := named w.heap.size
  have hXX := hX.out
  obtain ⟨cs, hcs⟩ : ∃ cs : Array Value, cs = #[.int .i64 C, .int .i64 Z, .string bk, .slice a0 n0 c0, .slice sa sn sc, .slice ma mn mc, .slice ca cn cc] := ⟨_, rfl⟩
  have HC7 : Hid (∀ {a : Option Addr} {n c : Nat} {l : List Int} {W : World}, RP w X cs a n c l W → W.cell? ⟨X, 0, none⟩ = some (.int .i64 C) ∧ W.cell? ⟨X, 1, none⟩ = some (.int .i64 Z) ∧ W.cell? ⟨X, 2, none⟩ = some (.string bk) ∧ W.cell? ⟨X, 3, none⟩ = some (.slice a0 n0 c0) ∧ W.cell? ⟨X, 4, none⟩ = some (.slice sa sn sc) ∧ W.cell? ⟨X, 5, none⟩ = some (.slice ma mn mc) ∧ W.cell? ⟨X, 6, none⟩ = some (.slice ca cn cc)) := fun h => by
    subst hcs
    exact cells7 h.2.1
  have HA : Hid (RP w X cs none 0 0 [] (w.alloc (.cells #[.int .i64 C, .int .i64 Z, .string bk, .slice a0 n0 c0, .slice sa sn sc, .slice ma mn mc, .slice ca cn cc] 31))) := by
    subst hcs
    rw [← hX.out]
    exact RP.first w _
  have HN1 := Lib.hid (fun W hP => refNumX w W X cs none 0 0 [] 1 C 1 C hP (by omega) rfl rfl (by omega) (by omega) (by omega) (by omega))
  have HL1 : Hid (([] ++ numB false 1 C).length = 1) := by rw [Hid, List.length_append, numB_len]; rfl
  obtain ⟨L1, hL1⟩ := named ([] ++ numB false 1 C)
  rw [hL1.out] at HN1 HL1 HSPL
  have HN2 := Lib.hid (fun W a c hP => refNumX w W X cs a 1 c L1 2 Z 2 Z hP (by omega) rfl rfl (by omega) (by omega) (lt16 (by omega)) (by omega))
  have HL2 : Hid ((L1 ++ numB false 2 Z).length = 3) := by rw [Hid, List.length_append, numB_len, HL1.out]
  obtain ⟨L2, hL2⟩ := named (L1 ++ numB false 2 Z)
  rw [hL2.out] at HN2 HL2 HSPL
  have HN3 := Lib.hid (fun W a c hP => refTextX w W X cs a 3 c L2 bk hP (by omega) (by omega))
  obtain ⟨n3, hn3⟩ := named (L2 ++ textB bk).length
  have hn3b : n3 ≤ 992700 := by have h1 := HTL.out; rw [HSPL.out] at h1; have h2 := hn3.out; simp only [List.length_append] at h1 h2; omega
  have HL3 := Lib.hid hn3.out
  obtain ⟨L3, hL3⟩ := named (L2 ++ textB bk)
  rw [hL3.out] at HN3 HL3 HSPL
  have HN4 := Lib.hid (fun W (hb : Below w.heap.size w W) => refTableX hT hb kT)
  obtain ⟨n4, hn4⟩ := named (L3 ++ tblB T).length
  have hn4b : n4 ≤ 992700 := by have h1 := HTL.out; rw [HSPL.out] at h1; have h2 := hn4.out; simp only [List.length_append] at h1 h2; omega
  have HL4 := Lib.hid hn4.out
  obtain ⟨nT, hnT⟩ := named (tblB T).length
  have HLT := Lib.hid hnT.out
  have hnT4 : n3 + nT = n4 := by have h1 := hn4.out; rw [List.length_append, HL3.out, hnT.out] at h1; exact h1
  have HNT4 := Lib.hid hnT4
  obtain ⟨LT, hLT⟩ := named (tblB T)
  rw [hLT.out] at HN4 HL4 HSPL HLT
  obtain ⟨L4, hL4⟩ := named (L3 ++ LT)
  rw [hL4.out] at HL4 HSPL
  have HE4 := Lib.hid hL4.out
  have HN5 := Lib.hid (fun W a c hP => refNumX w W X cs a n4 c L4 1 sn 1 sn hP (by omega) rfl rfl (by omega) (by omega) (by omega) (by omega))
  obtain ⟨n5, hn5⟩ := named (L4 ++ numB false 1 sn).length
  have HL5 := Lib.hid hn5.out
  obtain ⟨L5, hL5⟩ := named (L4 ++ numB false 1 sn)
  rw [hL5.out] at HN5 HL5 HSPL
  have HS := Lib.hid hS
  have HB := Lib.hid hB
  have HK := Lib.hid hK
  have HkS := Lib.hid kS
  have HkB := Lib.hid kB
  have HkK := Lib.hid kK
  have hkc : C ≤ 6 := by omega
  have hks : Z ≤ 4096 := by omega
  have hsn : sn ≤ 8 := by omega
  have hmn : mn ≤ 8 := by omega
  have hcn : cn ≤ 65536 := by omega
  have HSl := Lib.hid hSl
  have HBl := Lib.hid hBl
  have HKl := Lib.hid hKl
  clear hc hz hbk hT hS hB hK kc ks kbk kT knS kS knB kB knK kK hTL hlen hL1 hL2 hL3 hL4 hL5 hn3 hn4 hn5 hSl hBl hKl hLT hnT hnT4 hcs hcn0
  go_enter Tryz.func17, Tryz.ntmps17
  go_wp2_with (first
    | (go_at_call 38; (with_reducible refine (HRI.out _ HA.out.b).mono ?_); rintro e w1 ⟨G, rfl, h, hr⟩; have hg : G = true := hr.2 HPR.out; subst hg; have HA := Lib.hid (HA.out.later h); obtain ⟨x0, x1, x2, x3, x4, x5, x6⟩ := HC7.out HA.out; clear h hr HRI)
    | (go_at_call 39; (with_reducible refine (HN1.out _ HA.out).mono ?_); rintro e w2 hq; obtain ⟨a1, c1, rfl, hA1, hk⟩ := hq.named HL1.out; have HA1 := Lib.hid hA1; clear x0 x1 x2 x3 x4 x5 x6; obtain ⟨x0, x1, x2, x3, x4, x5, x6⟩ := HC7.out HA1.out; clear hq hA1 hk HN1)
    | (go_at_call 39; (with_reducible refine (HN2.out _ _ _ HA1.out).mono ?_); rintro e w2 hq; obtain ⟨a2, c2, rfl, hA2, hk⟩ := hq.named HL2.out; have HA2 := Lib.hid hA2; clear x0 x1 x2 x3 x4 x5 x6; obtain ⟨x0, x1, x2, x3, x4, x5, x6⟩ := HC7.out HA2.out; clear hq hA2 hk HN2)
    | (go_at_call 40; (with_reducible refine (HN3.out _ _ _ HA2.out).mono ?_); rintro e w3 hq; obtain ⟨a3, c3, rfl, hA3, hk⟩ := hq.named HL3.out; have HA3 := Lib.hid hA3; clear x0 x1 x2 x3 x4 x5 x6; obtain ⟨x0, x1, x2, x3, x4, x5, x6⟩ := HC7.out HA3.out; clear hq hA3 hk HN3)
    | (go_at_call 41; (with_reducible refine (HN4.out _ HA3.out.b).mono ?_); intro e w4 hp; obtain ⟨ta, tc, rfl, hB4, hc4, hb⟩ := hp.sized HLT.out; have HA4 := Lib.hid (HA3.out.later hb); have HB4 := Lib.hid hB4; have HC4 := Lib.hid hc4.1; clear x0 x1 x2 x3 x4 x5 x6 hp hB4 hc4 hb HN4)
    | (at_builtin; go_loud (obtain ⟨⟨B4, hA4, hX4⟩, hbx4, hX04⟩ := HA4.out; refine append_bytes rfl _ _ rfl B4 _ n3 L3 rfl hA4.1 ta nT tc _ rfl HC4.out HB4.out (by have := HNT4.out; omega) hA4.2.2.2 ?_; intro a5 c5 w5 h1 h2; have hA5 := RP.app hbx4 hX04 hX4 hA4 h1 h2; rw [HNT4.out, HE4.out] at hA5; have HA5 := Lib.hid hA5; obtain ⟨x0, x1, x2, x3, x4, x5, x6⟩ := HC7.out HA5.out; rw [HNT4.out]; clear h1 h2 hA5 hA4 hbx4 hX4 hX04))
    | (go_at_call 39; (with_reducible refine (HN5.out _ _ _ HA5.out).mono ?_); rintro e w6 hq; obtain ⟨a6, c6, rfl, hA6, hk⟩ := hq.named HL5.out; have HA6 := Lib.hid hA6; clear hq hA6 hk HN5))
  (try clear x0 x1 x2 x3 x4 x5 x6)
  obtain ⟨RR, hRR⟩ := named (numB false 1 mn ++ (B.flatMap bmB ++ cntB K))
  rw [hRR.out] at HSPL
  go_loopw [4, 7] (fun b i wr => ∃ (j : Nat) (a' : Option Addr) (c' m' : Nat) (D : List Int), j ≤ sn ∧ b = .slice a' m' c' ∧ i = .int .i64 j ∧ Hid (RP w X cs a' m' c' D wr) ∧ Hid (TL = D ++ (S.drop j).flatMap shB ++ RR)) (fun _ i _ => sn - (intOf i).toNat)
  case atStart => exact ⟨0, a6, c6, _, L5, Nat.zero_le _, rfl, rfl, HA6.out, HSPL.out⟩
  case round =>
    clear HA HA1 HA2 HA3 HA4 HA5 HA6 HB4
    obtain ⟨j, a', c', m', D, hj, rfl, rfl, HP, HT⟩ := hrel
    have hm' : D.length = m' := HP.out.len
    have hmb : m' ≤ 992700 := by
      have h1 := HTL.out
      rw [HT.out, List.length_append, List.length_append] at h1
      omega
    by_cases hlt : j < sn
    · obtain ⟨b, off, nm, sz, al, ll, cl, T1, rfl, hBj, hbl, ⟨hsz, hnm⟩, y0, y1, y2, hs1⟩ := HS.out.at j hlt
      obtain ⟨k1, k2, k3⟩ := HkS.out _ (List.mem_of_getElem? hBj)
      dsimp only at k1 k2 k3 hsz hnm
      obtain ⟨Y, rfl⟩ : ∃ Y : Nat, sz = Y := ⟨sz.toNat, by omega⟩
      have HZ : Hid (∀ {a : Option Addr} {n c : Nat} {l : List Int} {W : World}, RP w X cs a n c l W → W.cell? ⟨b, off + j * 3, none⟩ = some (.string nm) ∧ W.cell? ⟨b, off + j * 3 + 1, none⟩ = some (.int .i64 Y) ∧ W.cell? ⟨b, off + j * 3 + 2, none⟩ = some (.slice al ll cl)) := fun h => ⟨(Below.cell (p := ⟨b, off + j * 3, none⟩) h.b hbl).trans y0, (Below.cell (p := ⟨b, off + j * 3 + 1, none⟩) h.b hbl).trans y1, (Below.cell (p := ⟨b, off + j * 3 + 2, none⟩) h.b hbl).trans y2⟩
      rw [drop_cons hBj, List.flatMap_cons] at HT
      have HT2 : Hid (TL = D ++ textB nm ++ numB false 2 Y ++ tblB T1 ++ (S.drop (j + 1)).flatMap shB ++ RR) := by
        rw [Hid, HT.out]
        unfold shB
        simp only [Int.toNat_natCast, List.append_assoc]
      have HM1 := Lib.hid (fun W hP => refTextX w W X cs a' m' c' D nm hP (by omega) (by omega))
      obtain ⟨d1, hd1⟩ := named (D ++ textB nm).length
      have hd1b : d1 ≤ 992700 := by have h1 := HTL.out; rw [HT2.out] at h1; have h2 := hd1.out; simp only [List.length_append] at h1 h2; omega
      have HE1 := Lib.hid hd1.out
      obtain ⟨D1, hD1⟩ := named (D ++ textB nm)
      rw [hD1.out] at HM1 HE1 HT2
      have HM2 := Lib.hid (fun W a c hP => refNumX w W X cs a d1 c D1 2 Y 2 Y hP (by omega) rfl rfl (by omega) (by omega) (lt16 (by omega)) (by omega))
      obtain ⟨d2, hd2⟩ := named (D1 ++ numB false 2 Y).length
      have hd2b : d2 ≤ 992700 := by have h1 := HTL.out; rw [HT2.out] at h1; have h2 := hd2.out; simp only [List.length_append] at h1 h2; omega
      have HE2 := Lib.hid hd2.out
      obtain ⟨D2, hD2⟩ := named (D1 ++ numB false 2 Y)
      rw [hD2.out] at HM2 HE2 HT2
      have HM3 := Lib.hid (fun W (hb : Below w.heap.size w W) => refTableX hs1 hb k3)
      obtain ⟨d3, hd3⟩ := named (D2 ++ tblB T1).length
      have hd3b : d3 ≤ 992700 := by have h1 := HTL.out; rw [HT2.out] at h1; have h2 := hd3.out; simp only [List.length_append] at h1 h2; omega
      have HE3 := Lib.hid hd3.out
      obtain ⟨dT, hdT⟩ := named (tblB T1).length
      have HLT1 := Lib.hid hdT.out
      have hdT4 : d2 + dT = d3 := by have h1 := hd3.out; rw [List.length_append, HE2.out, hdT.out] at h1; exact h1
      have HDT := Lib.hid hdT4
      obtain ⟨LT1, hLT1⟩ := named (tblB T1)
      rw [hLT1.out] at HM3 HE3 HT2 HLT1
      obtain ⟨D3, hD3⟩ := named (D2 ++ LT1)
      rw [hD3.out] at HE3 HT2
      have HED := Lib.hid hD3.out
      obtain ⟨x0, x1, x2, x3, x4, x5, x6⟩ := HC7.out HP.out
      obtain ⟨z0, z1, z2⟩ := HZ.out HP.out
      clear hm' hBj k1 k2 k3 hsz hnm y0 y1 y2 hs1 hd1 hd2 hd3 hD1 hD2 hD3 HT hdT hdT4 hLT1
      go_wp2_with (first
        | (go_at_call 40; (with_reducible refine (HM1.out _ HP.out).mono ?_); rintro e w6 hq; obtain ⟨a6, c6, rfl, hA6, hk⟩ := hq.named HE1.out; have HP6 := Lib.hid hA6; clear x0 x1 x2 x3 x4 x5 x6 z0 z1 z2; obtain ⟨x0, x1, x2, x3, x4, x5, x6⟩ := HC7.out HP6.out; obtain ⟨z0, z1, z2⟩ := HZ.out HP6.out; clear hq hA6 hk HM1)
        | (go_at_call 39; (with_reducible refine (HM2.out _ _ _ HP6.out).mono ?_); rintro e w7 hq; obtain ⟨a7, c7, rfl, hA7, hk⟩ := hq.named HE2.out; have HP7 := Lib.hid hA7; clear x0 x1 x2 x3 x4 x5 x6 z0 z1 z2; obtain ⟨x0, x1, x2, x3, x4, x5, x6⟩ := HC7.out HP7.out; obtain ⟨z0, z1, z2⟩ := HZ.out HP7.out; clear hq hA7 hk HM2))
      clear x0 x1 x2 x3 x4 x5 x6 z0 z1 z2
      have hi0 : (0 : Int) ≤ (j : Int) := by omega
      have hi1 : (j : Int) < (sn : Int) := by omega
      have HKS : Hid (∀ W, Below w7.heap.size w7 W → W.cell? ⟨X, 4, none⟩ = some (.slice (some ⟨b, off, none⟩) sn sc) ∧ W.cell? ⟨X, 0, none⟩ = some (.int .i64 C) ∧ W.cell? ⟨b, off + j * 3 + 2, none⟩ = some (.slice al ll cl)) := fun W h => by
        obtain ⟨p0, p1, p2, p3, p4, p5, p6⟩ := HC7.out (HP7.out.later h)
        obtain ⟨z0, z1, z2⟩ := HZ.out (HP7.out.later h)
        exact ⟨p4, p0, z2⟩
      have HM4 : Hid (∀ W, Below w7.heap.size w7 W → Calls Tryz.prog 41 #[.agg #[.slice al ll cl], .int .i64 C] W (PutPost W LT1 0)) := fun W h => HM3.out W (HP7.out.later h).b
      have HR0 := Lib.hid (Below.refl w7.heap.size w7)
      have HRD := Lib.hid (Below.refl w7.heap.size w7).drew
      go_region_held3 (fun W => W.cell? ⟨X, 4, none⟩ = some (.slice (some ⟨b, off, none⟩) sn sc) ∧ W.cell? ⟨X, 0, none⟩ = some (.int .i64 C) ∧ W.cell? ⟨b, off + j * 3 + 2, none⟩ = some (.slice al ll cl)) (first | with_reducible exact HKS.out _ HR0.out | with_reducible exact HKS.out _ HRD.out | with_reducible exact HKS.out _ HPB.out) (first | (go_at_call 41; (with_reducible refine (HM4.out _ HRD.out).mono ?_); intro e w8 hp; obtain ⟨ta8, tc8, rfl, hB8, hc8, hb⟩ := hp.sized HLT1.out; have HPB := Lib.hid (HRD.out.trans (hb.mono HRD.out.size)); have HB8 := Lib.hid hB8; have HC8 := Lib.hid hc8.1; clear hp hB8 hc8 hb))
      have HP8 := Lib.hid (HP7.out.later HPB.out)
      go_wp2_with (first
        | (at_builtin; obtain ⟨⟨B8, hA8, hX8⟩, hbx8, hX08⟩ := HP8.out; refine append_bytes rfl _ _ rfl B8 _ d2 D2 rfl hA8.1 ta8 dT tc8 _ rfl HC8.out HB8.out (by have := HDT.out; omega) hA8.2.2.2 ?_; intro a9 c9 w9 h1 h2; have hA9 := RP.app hbx8 hX08 hX8 hA8 h1 h2; rw [HDT.out, HED.out] at hA9; have HP9 := Lib.hid hA9; rw [HDT.out]; clear h1 h2 hA9 hA8 hbx8 hX8 hX08))
      go_roundw
      case rel => exact ⟨j + 1, a9, c9, _, D3, by omega, rfl, by go_num, HP9.out, HT2.out⟩
      case measure => simp [intOf]; omega
    · obtain rfl : sn = j := by omega
      have hd : S.drop sn = [] := List.drop_eq_nil_of_le (by rw [HSl.out]; exact Nat.le_refl _)
      have HT2 : Hid (TL = D ++ numB false 1 mn ++ (B.drop 0).flatMap bmB ++ cntB K) := by
        rw [Hid, HT.out, hd, ← hRR.out, List.drop_zero]
        simp only [List.flatMap_nil, List.append_nil, List.append_assoc]
      have HN6 := Lib.hid (fun W hP => refNumX w W X cs a' m' c' D 1 mn 1 mn hP (by omega) rfl rfl (by omega) (by omega) (by omega) (by omega))
      obtain ⟨n6, hn6⟩ := named (D ++ numB false 1 mn).length
      have HL6 := Lib.hid hn6.out
      obtain ⟨L6, hL6⟩ := named (D ++ numB false 1 mn)
      rw [hL6.out] at HN6 HL6 HT2
      obtain ⟨x0, x1, x2, x3, x4, x5, x6⟩ := HC7.out HP.out
      clear hm' hd hn6 hL6 HT HSPL
      go_wp2_with (first
        | (go_at_call 39; (with_reducible refine (HN6.out _ HP.out).mono ?_); rintro e w6 hq; obtain ⟨a6, c6, rfl, hA6, hk⟩ := hq.named HL6.out; have HP6 := Lib.hid hA6; clear x0 x1 x2 x3 x4 x5 x6; obtain ⟨x0, x1, x2, x3, x4, x5, x6⟩ := HC7.out HP6.out; clear hq hA6 hk HN6))
      (try clear x0 x1 x2 x3 x4 x5 x6)
      go_loopw [4, 8] (fun b i wr => ∃ (j : Nat) (a' : Option Addr) (c' m' : Nat) (D : List Int), j ≤ mn ∧ b = .slice a' m' c' ∧ i = .int .i64 j ∧ Hid (RP w X cs a' m' c' D wr) ∧ Hid (TL = D ++ (B.drop j).flatMap bmB ++ cntB K)) (fun _ i _ => mn - (intOf i).toNat)
      case atStart => exact ⟨0, a6, c6, _, L6, Nat.zero_le _, rfl, rfl, HP6.out, HT2.out⟩
      case round =>
        clear HP6 HP HT2 HL6
        obtain ⟨i, a', c', m', D, hj, rfl, rfl, HP, HT⟩ := hrel
        have hm' : D.length = m' := HP.out.len
        have hmb : m' ≤ 992700 := by
          have h1 := HTL.out
          rw [HT.out, List.length_append, List.length_append] at h1
          omega
        by_cases hlt : i < mn
        · obtain ⟨b, off, nm, on, al, ll, cl, l, rfl, hBi, hbl, hnm, y0, y1, y2, hs1⟩ := HB.out.at i hlt
          obtain ⟨k1, k2, k3⟩ := HkB.out _ (List.mem_of_getElem? hBi)
          dsimp only at k1 k2 k3 hnm
          have hll : l.length = ll := hs1.1.1
          rw [hll] at k2
          have z0 := (Below.cell (p := ⟨b, off + i * 3, none⟩) HP.out.b hbl).trans y0
          have z1 := (Below.cell (p := ⟨b, off + i * 3 + 1, none⟩) HP.out.b hbl).trans y1
          have z2 := (Below.cell (p := ⟨b, off + i * 3 + 2, none⟩) HP.out.b hbl).trans y2
          rw [drop_cons hBi, List.flatMap_cons] at HT
          obtain ⟨TT, hTT⟩ := named ((B.drop (i + 1)).flatMap bmB ++ cntB K)
          have HT2 : Hid (TL = D ++ textB nm ++ numB false 1 (onN on) ++ numB false 2 ll ++ (l.drop 0).flatMap spB ++ TT) := by
            rw [Hid, HT.out, ← hTT.out, List.drop_zero]
            unfold bmB
            dsimp only
            rw [hll]
            simp only [List.append_assoc]
          obtain ⟨V, hV, hV1, hV0⟩ : ∃ V : Int, ((onN on : Nat) : Int) = V ∧ (on = true → V = 1) ∧ (on = false → V = 0) := ⟨_, rfl, fun e => by rw [e]; rfl, fun e => by rw [e]; rfl⟩
          have HM1 := Lib.hid (fun W hP => refTextX w W X cs a' m' c' D nm hP (by omega) (by omega))
          obtain ⟨d1, hd1⟩ := named (D ++ textB nm).length
          have hd1b : d1 ≤ 992700 := by have h1 := HTL.out; rw [HT2.out] at h1; have h2 := hd1.out; simp only [List.length_append] at h1 h2; omega
          have HE1 := Lib.hid hd1.out
          obtain ⟨D1, hD1⟩ := named (D ++ textB nm)
          rw [hD1.out] at HM1 HE1 HT2
          have HM2 := Lib.hid (fun W a c hP => refNumX w W X cs a d1 c D1 1 (onN on) 1 V hP (by omega) rfl hV (by omega) (by omega) (by unfold onN; cases on <;> decide) (by unfold onN; cases on <;> decide))
          obtain ⟨d2, hd2⟩ := named (D1 ++ numB false 1 (onN on)).length
          have hd2b : d2 ≤ 992700 := by have h1 := HTL.out; rw [HT2.out] at h1; have h2 := hd2.out; simp only [List.length_append] at h1 h2; omega
          have HE2 := Lib.hid hd2.out
          obtain ⟨D2, hD2⟩ := named (D1 ++ numB false 1 (onN on))
          rw [hD2.out] at HM2 HE2 HT2
          have HM3 := Lib.hid (fun W a c hP => refNumX w W X cs a d2 c D2 2 ll 2 ll hP (by omega) rfl rfl (by omega) (by omega) (lt16 (by omega)) (by omega))
          obtain ⟨d3, hd3⟩ := named (D2 ++ numB false 2 ll).length
          have hd3b : d3 ≤ 992700 := by have h1 := HTL.out; rw [HT2.out] at h1; have h2 := hd3.out; simp only [List.length_append] at h1 h2; omega
          have HE3 := Lib.hid hd3.out
          obtain ⟨D3, hD3⟩ := named (D2 ++ numB false 2 ll)
          rw [hD3.out] at HM3 HE3 HT2
          have HP5 := Lib.hid (HP.out.alloc (.cells #[.string nm, .bool on, .slice al ll cl] 57))
          obtain ⟨E, hE⟩ := named wr.heap.size
          have HY : Hid (Blk (wr.alloc (.cells #[.string nm, .bool on, .slice al ll cl] 57)) E 57 #[.string nm, .bool on, .slice al ll cl]) := by rw [← hE.out]; exact Blk.new _ _ _
          have hEE := hE.out
          obtain ⟨x0, x1, x2, x3, x4, x5, x6⟩ := HC7.out HP.out
          have HSP := Lib.hid hs1.1
          have HK3 := Lib.hid k3
          clear hm' hBi k1 k3 hnm y0 y1 y2 hs1 hd1 hd2 hd3 hD1 hD2 hD3 HT hll hV
          cases on
          case' false => obtain rfl := hV0 rfl
          case' true => obtain rfl := hV1 rfl
          all_goals
            clear hV0 hV1
            go_wp2_with (first
              | (go_at_call 40; (with_reducible refine (HM1.out _ HP5.out).mono ?_); rintro e w6 hq; obtain ⟨a6, c6, rfl, hA6, hk⟩ := hq.named HE1.out; have HP6 := Lib.hid hA6; have HY6 := Lib.hid (HY.out.later hk); obtain ⟨u0, u1, u2⟩ := cells3 HY6.out; clear hq hA6 hk HM1)
              | (go_at_call 39; (with_reducible refine (HM2.out _ _ _ HP6.out).mono ?_); rintro e w7 hq; obtain ⟨a7, c7, rfl, hA7, hk⟩ := hq.named HE2.out; have HP7 := Lib.hid hA7; have HY7 := Lib.hid (HY6.out.later hk); clear u0 u1 u2; obtain ⟨u0, u1, u2⟩ := cells3 HY7.out; clear hq hA7 hk HM2)
              | (go_at_call 39; (with_reducible refine (HM3.out _ _ _ HP7.out).mono ?_); rintro e w8 hq; obtain ⟨a8, c8, rfl, hA8, hk⟩ := hq.named HE3.out; have HP8 := Lib.hid hA8; have HY8 := Lib.hid (HY7.out.later hk); clear u0 u1 u2; clear hq hA8 hk HM3))
            clear x0 x1 x2 x3 x4 x5 x6
            go_loopw [4, 11] (fun b i wq => ∃ (k : Nat) (a' : Option Addr) (c' m' : Nat) (D : List Int), k ≤ ll ∧ b = .slice a' m' c' ∧ i = .int .i64 k ∧ Hid (RP w X cs a' m' c' D wq) ∧ Hid (∃ v, Blk wq E 57 #[.string nm, v, .slice al ll cl]) ∧ Hid (TL = D ++ (l.drop k).flatMap spB ++ TT)) (fun _ i _ => ll - (intOf i).toNat)
            case atStart => exact ⟨0, a8, c8, _, D3, Nat.zero_le _, rfl, rfl, HP8.out, ⟨_, HY8.out⟩, HT2.out⟩
            case round =>
              clear HP5 HP6 HP7 HP8 HY HY6 HY7 HY8 HT2 HE1 HE2 HE3
              obtain ⟨k, a', c', m', D, hk, rfl, rfl, HP, HY0, HT⟩ := hrel
              obtain ⟨v, hy⟩ := HY0.out
              have HY := Lib.hid hy
              clear HY0 hy
              have hm' : D.length = m' := HP.out.len
              have hmb : m' ≤ 992700 := by
                have h1 := HTL.out
                rw [HT.out, List.length_append, List.length_append] at h1
                omega
              obtain ⟨u0, u1, u2⟩ := cells3 HY.out
              by_cases hlt : k < ll
              · have hx := spAt_some l k (by rw [HSP.out.1]; exact hlt)
                obtain ⟨b, off, rfl, y0, y1⟩ := span_cells9 HSP.out k hlt
                have hbl2 : b < w.heap.size := block_lt_of_cell y0
                obtain ⟨⟨f1, f2⟩, ⟨t1, t2⟩⟩ := HK3.out _ (List.mem_of_getElem? hx)
                rw [drop_cons hx, List.flatMap_cons] at HT
                obtain ⟨⟨F, T⟩, hFT⟩ := named (spAt l k)
                rw [hFT.out] at y0 y1 f1 f2 t1 t2 HT
                dsimp only at y0 y1 f1 f2 t1 t2
                obtain ⟨F, rfl⟩ : ∃ N : Nat, F = N := ⟨F.toNat, by omega⟩
                obtain ⟨T, rfl⟩ : ∃ N : Nat, T = N := ⟨T.toNat, by omega⟩
                have HT2 : Hid (TL = D ++ numB false 2 F ++ numB false 2 T ++ (l.drop (k + 1)).flatMap spB ++ TT) := by
                  rw [Hid, HT.out]
                  unfold spB
                  simp only [Int.toNat_natCast, List.append_assoc]
                have HM1 : Hid (∀ W, Below wr.heap.size wr W → Calls Tryz.prog 39 #[.slice a' m' c', .int .i64 2, .int .i64 F] W (RPQ w X cs W (D ++ numB false 2 F) fOne)) := fun W hb => refNumX w W X cs a' m' c' D 2 F 2 F (HP.out.later hb) (by omega) rfl rfl (by omega) (by omega) (lt16 (by omega)) (by omega)
                have HE1 : Hid ((D ++ numB false 2 F).length = m' + 2) := by rw [Hid, List.length_append, numB_len, hm']
                obtain ⟨D1, hD1⟩ := named (D ++ numB false 2 F)
                rw [hD1.out] at HM1 HE1 HT2
                have HM2 := Lib.hid (fun W a c hA => refNumX w W X cs a (m' + 2) c D1 2 T 2 T hA (by omega) rfl rfl (by omega) (by omega) (lt16 (by omega)) (by omega))
                have HE2 : Hid ((D1 ++ numB false 2 T).length = m' + 2 + 2) := by rw [Hid, List.length_append, numB_len, HE1.out]
                obtain ⟨D2, hD2⟩ := named (D1 ++ numB false 2 T)
                rw [hD2.out] at HM2 HE2 HT2
                have HKS : Hid (∀ W, Below wr.heap.size wr W → W.cell? ⟨E, 2, none⟩ = some (.slice (some ⟨b, off, none⟩) ll cl) ∧ W.cell? ⟨b, off + k * 2, none⟩ = some (.int .i64 F) ∧ W.cell? ⟨b, off + k * 2 + 1, none⟩ = some (.int .i64 T)) := fun W h => by
                  have hb := (HP.out.later h).b
                  exact ⟨(cells3 (HY.out.later h)).2.2, (hb.cell (p := ⟨b, off + k * 2, none⟩) hbl2).trans y0, (hb.cell (p := ⟨b, off + k * 2 + 1, none⟩) hbl2).trans y1⟩
                have HR0 := Lib.hid (Below.refl wr.heap.size wr)
                have HRD := Lib.hid (Below.refl wr.heap.size wr).drew
                have hi0 : (0 : Int) ≤ (k : Int) := by omega
                have hi1 : (k : Int) < (ll : Int) := by omega
                have HY2 := HY
                clear hx hm' hD1 hD2 hFT f1 f2 t1 t2 HT y0 y1
                go_wp2
                clear u0 u1 u2
                go_region_held3 (fun W => W.cell? ⟨E, 2, none⟩ = some (.slice (some ⟨b, off, none⟩) ll cl) ∧ W.cell? ⟨b, off + k * 2, none⟩ = some (.int .i64 F) ∧ W.cell? ⟨b, off + k * 2 + 1, none⟩ = some (.int .i64 T)) (first | with_reducible exact HKS.out _ HR0.out | with_reducible exact HKS.out _ HRD.out | with_reducible exact HKS.out _ HB5.out | with_reducible exact HKS.out _ HB6.out) (first
                  | (go_at_call 39; (with_reducible refine (HM1.out _ HRD.out).mono ?_); rintro e w5 hq; obtain ⟨a5, c5, rfl, hA5, hk⟩ := hq.named HE1.out; have HP5 := Lib.hid hA5; have HB5 := Lib.hid (HRD.out.trans (hk.mono HRD.out.size)); clear hq hA5 hk HM1)
                  | (go_at_call 39; (with_reducible refine (HM2.out _ _ _ HP5.out).mono ?_); rintro e w6 hq; obtain ⟨a6, c6, rfl, hA6, hk⟩ := hq.named HE2.out; have HP6 := Lib.hid hA6; have HB6 := Lib.hid (HB5.out.trans (hk.mono HB5.out.size)); clear hq hA6 hk HM2))
                go_wp2
                go_roundw
                case rel => exact ⟨k + 1, a6, c6, _, D2, by omega, rfl, by go_num, HP6.out, ⟨_, HY2.out.later HB6.out⟩, HT2.out⟩
                case measure => simp [intOf]; omega
              · obtain rfl : k = ll := by omega
                have hd : l.drop k = [] := List.drop_eq_nil_of_le (by rw [HSP.out.1]; exact Nat.le_refl _)
                have HT2 : Hid (TL = D ++ (B.drop (i + 1)).flatMap bmB ++ cntB K) := by
                  rw [Hid, HT.out, hd, ← hTT.out]
                  simp only [List.flatMap_nil, List.append_nil, List.append_assoc]
                clear hm' hd HT
                go_wp2
                go_roundw
                case rel => exact ⟨i + 1, a', c', _, D, by omega, rfl, by go_num, HP.out, HT2.out⟩
                case measure => simp [intOf]; omega
        · obtain rfl : mn = i := by omega
          have hd : B.drop mn = [] := List.drop_eq_nil_of_le (by rw [HBl.out]; exact Nat.le_refl _)
          have HT2 : Hid (TL = D ++ numB false 4 cn ++ runsB (K.drop 0)) := by
            rw [Hid, HT.out, hd, List.drop_zero]
            unfold cntB
            rw [HKl.out]
            simp only [List.flatMap_nil, List.append_nil, List.append_assoc]
          have h44 : (256 : Nat) ^ 4 = 4294967296 := by decide
          have HN7 := Lib.hid (fun W hP => refNumX w W X cs a' m' c' D 4 cn 4 cn hP (by omega) rfl rfl (by omega) (by omega) (by omega) (by omega))
          obtain ⟨n7, hn7⟩ := named (D ++ numB false 4 cn).length
          have HL7 := Lib.hid hn7.out
          obtain ⟨L7, hL7⟩ := named (D ++ numB false 4 cn)
          rw [hL7.out] at HN7 HL7 HT2
          obtain ⟨x0, x1, x2, x3, x4, x5, x6⟩ := HC7.out HP.out
          clear hm' hd hn7 hL7 HT h44
          go_wp2_with (first
            | (go_at_call 39; (with_reducible refine (HN7.out _ HP.out).mono ?_); rintro e w6 hq; obtain ⟨a6, c6, rfl, hA6, hk⟩ := hq.named HL7.out; have HP6 := Lib.hid hA6; clear x0 x1 x2 x3 x4 x5 x6; clear hq hA6 hk HN7))
          (try clear x0 x1 x2 x3 x4 x5 x6)
          go_loopw [4, 12] (fun b i wr => ∃ (q : Nat) (a' : Option Addr) (c' m' : Nat) (D : List Int), q ≤ cn ∧ b = .slice a' m' c' ∧ i = .int .i64 q ∧ Hid (RP w X cs a' m' c' D wr) ∧ Hid (TL = D ++ runsB (K.drop q))) (fun _ i _ => cn - (intOf i).toNat)
          case atStart => exact ⟨0, a6, c6, _, L7, Nat.zero_le _, rfl, rfl, HP6.out, HT2.out⟩
          case round =>
            clear HP6 HP HT2 HL7
            obtain ⟨q, a', c', m', D, hq, rfl, rfl, HP, HT⟩ := hrel
            have hm' : D.length = m' := HP.out.len
            have hmb : m' ≤ 992700 := by
              have h1 := HTL.out
              rw [HT.out, List.length_append] at h1
              omega
            obtain ⟨x0, x1, x2, x3, x4, x5, x6⟩ := HC7.out HP.out
            by_cases hlt : q < cn
            · obtain ⟨b, off, e1, y0, k0⟩ := iv_cell HK.out.1 q hlt
              subst e1
              have hbl2 : b < w.heap.size := block_lt_of_cell y0
              obtain ⟨x, hx⟩ := named (ivAt K q)
              rw [hx.out] at y0 k0
              have hxb := HkK.out x (List.mem_of_getElem? k0)
              obtain ⟨x, rfl⟩ : ∃ N : Nat, x = N := ⟨x.toNat, by omega⟩
              have HQ0 : Hid (∀ k, k < 1 → K[q + k]? = some (x : Int)) := fun k hk => by
                obtain rfl : k = 0 := by omega
                exact k0
              have HCX : Hid (∀ {a : Option Addr} {n c : Nat} {l : List Int} {W : World}, RP w X cs a n c l W → W.cell? ⟨X, 6, none⟩ = some (.slice (some ⟨b, off, none⟩) cn cc) ∧ W.cell? ⟨b, off + q, none⟩ = some (.int .i64 x)) := fun h => ⟨(HC7.out h).2.2.2.2.2.2, (h.b.cell (p := ⟨b, off + q, none⟩) hbl2).trans y0⟩
              clear hx k0 hxb y0
              go_wp2
              clear x0 x1 x2 x3 x4 x5 x6
              go_loopw [13] (fun n wq => ∃ t : Nat, (1 ≤ t ∧ t ≤ 65535 ∧ q + t ≤ cn) ∧ n = .int .i64 t ∧ Hid (∀ k, k < t → K[q + k]? = some (x : Int)) ∧ Hid (RP w X cs a' m' c' D wq)) (fun n _ => cn - (intOf n).toNat)
              case atStart => exact ⟨1, ⟨by omega, by omega, by omega⟩, rfl, HQ0.out, HP.out⟩
              case round =>
                clear HQ0 HP
                obtain ⟨t, ⟨ht1, ht2, ht3⟩, rfl, HQ, HP⟩ := hrel
                obtain ⟨x6, y0⟩ := HCX.out HP.out
                obtain ⟨Z1, hZ1⟩ := named (q + t)
                have hw1 : IntKind.i64.wrap ((q : Int) + (t : Int)) = (Z1 : Int) := by rw [IntWalk.i64_in _ (by omega), ← hZ1.out]; omega
                have hz1b : 0 ≤ (Z1 : Int) ∧ Z1 ≤ 65536 := by rw [← hZ1.out]; omega
                by_cases hgo : (q + t < cn ∧ t < 65535) ∧ K[q + t]? = some (x : Int)
                · obtain ⟨⟨g1, g2⟩, g3⟩ := hgo
                  obtain ⟨b', off', e1, y1, k1⟩ := iv_cell HK.out.1 (q + t) g1
                  cases e1
                  have e2 : ivAt K (q + t) = x := Option.some.inj (k1.symm.trans g3)
                  rw [e2, hZ1.out] at y1
                  have y1 := (HP.out.b.cell (p := ⟨b, off + Z1, none⟩) hbl2).trans y1
                  have HQ2 : Hid (∀ k, k < t + 1 → K[q + k]? = some (x : Int)) := fun k hk => by
                    by_cases e : k = t
                    · rw [e]; exact g3
                    · exact HQ.out k (by omega)
                  have hz2 : (Z1 : Int) < (cn : Int) := by rw [← hZ1.out]; omega
                  have d1 : decide ((Z1 : Int) < (cn : Int)) = true := decide_eq_true hz2
                  have d2 : decide ((t : Int) < 65535) = true := decide_eq_true (by omega)
                  have d3 : ((x : Int) == (x : Int)) = true := by simp
                  have hi2 : (0 : Int) ≤ (q : Int) := by omega
                  have hi3 : (q : Int) < (cn : Int) := by omega
                  clear k1 e2 g3
                  go_wp2
                  go_quiet (fail)
                  go_wp2
                  go_roundw
                  case rel => exact ⟨t + 1, ⟨by omega, by omega, by omega⟩, by go_num, HQ2.out, HP.out.later (below_drewN9 (Below.refl _ _) _)⟩
                  case measure => simp [intOf]; omega
                · have hK0 : (K.drop q)[0]? = some (x : Int) := by rw [List.getElem?_drop]; exact HQ.out 0 (by omega)
                  have hne : K.drop q ≠ [] := fun e => by rw [e] at hK0; cases hK0
                  have hkl : (K.drop q).length = cn - q := by rw [List.length_drop, HKl.out]
                  have hend : (q + t = cn ∨ (q + t < cn ∧ t = 65535)) ∨ (q + t < cn ∧ t < 65535) ∧ ∃ y, K[q + t]? = some y ∧ y ≠ x := by
                    by_cases g1 : q + t < cn
                    · by_cases g2 : t < 65535
                      · refine Or.inr ⟨⟨g1, g2⟩, K[q + t]'(by rw [HKl.out]; exact g1), List.getElem?_eq_getElem _, fun e => hgo ⟨⟨g1, g2⟩, ?_⟩⟩
                        rw [List.getElem?_eq_getElem (by rw [HKl.out]; exact g1), e]
                      · exact Or.inl (Or.inr ⟨g1, by omega⟩)
                    · exact Or.inl (Or.inl (by omega))
                  have hr : runN (K.drop q) = t := by
                    refine run_is ht1 ht2 (by omega) (fun k hk => by rw [List.getElem?_drop]; exact HQ.out k hk) ?_
                    rcases hend with (h | ⟨_, h⟩) | ⟨_, y, h1, h2⟩
                    · exact Or.inl (by omega)
                    · exact Or.inr (Or.inl h)
                    · exact Or.inr (Or.inr ⟨y, by rw [List.getElem?_drop]; exact h1, h2⟩)
                  have hhd : (K.drop q).headD 0 = (x : Int) := by rw [List.headD_eq_head?_getD, List.head?_eq_getElem?, hK0]; rfl
                  have HT2 : Hid (TL = D ++ numB false 2 t ++ numB false 2 x ++ runsB (K.drop (q + t))) := by
                    rw [Hid, HT.out, runsB_step hne, hr, hhd, List.drop_drop, Int.toNat_natCast]
                    simp only [List.append_assoc]
                  have hxb : x < 65536 := by
                    have h1 := List.mem_of_getElem? (HQ.out 0 (by omega))
                    have h2 := HkK.out _ h1
                    omega
                  have hi2 : (0 : Int) ≤ (q : Int) := by omega
                  have hi3 : (q : Int) < (cn : Int) := by omega
                  have HXB := Lib.hid hxb
                  clear hK0 hne hkl hr hhd hgo HT hxb
                  rcases hend with (hend | hend) | hend
                  · have d1 : decide (Z1 < cn) = false := decide_eq_false (by rw [← hZ1.out]; omega)
                    clear hend
                    go_wp2
                    go_quiet (fail)
                    go_wp2
                    obtain ⟨wd, hwd⟩ := named (wr.drewN nq)
                    have HPD : Hid (RP w X cs a' m' c' D wd) := by rw [← hwd.out]; exact HP.out.later (below_drewN9 (Below.refl _ _) _)
                    rw [hwd.out]
                    clear hwd HP
                    have HKS : Hid (∀ W, Below wd.heap.size wd W → W.cell? ⟨X, 6, none⟩ = some (.slice (some ⟨b, off, none⟩) cn cc) ∧ W.cell? ⟨b, off + q, none⟩ = some (.int .i64 x)) := fun W h => HCX.out (HPD.out.later h)
                    have HM1 : Hid (∀ W, Below wd.heap.size wd W → Calls Tryz.prog 39 #[.slice a' m' c', .int .i64 2, .int .i64 t] W (RPQ w X cs W (D ++ numB false 2 t) fOne)) := fun W hb => refNumX w W X cs a' m' c' D 2 t 2 t (HPD.out.later hb) (by omega) rfl rfl (by omega) (by omega) (lt16 (by omega)) (by omega)
                    have HE1 : Hid ((D ++ numB false 2 t).length = m' + 2) := by rw [Hid, List.length_append, numB_len, hm']
                    obtain ⟨D1, hD1⟩ := named (D ++ numB false 2 t)
                    rw [hD1.out] at HM1 HE1 HT2
                    have HM2 := Lib.hid (fun W a c hA => refNumX w W X cs a (m' + 2) c D1 2 x 2 x hA (by omega) rfl rfl (by omega) (by omega) (lt16 HXB.out) (by have := HXB.out; omega))
                    have HE2 : Hid ((D1 ++ numB false 2 x).length = m' + 2 + 2) := by rw [Hid, List.length_append, numB_len, HE1.out]
                    obtain ⟨D2, hD2⟩ := named (D1 ++ numB false 2 x)
                    rw [hD2.out] at HM2 HE2 HT2
                    have HR0 := Lib.hid (Below.refl wd.heap.size wd)
                    have HRD := Lib.hid (Below.refl wd.heap.size wd).drew
                    have HZ1 := Lib.hid hZ1.out
                    clear x6 y0 hm' hD1 hD2 hZ1 d1 hw1
                    go_region_held3 (fun W => W.cell? ⟨X, 6, none⟩ = some (.slice (some ⟨b, off, none⟩) cn cc) ∧ W.cell? ⟨b, off + q, none⟩ = some (.int .i64 x)) (first | with_reducible exact HKS.out _ HR0.out | with_reducible exact HKS.out _ HRD.out | with_reducible exact HKS.out _ HB5.out | with_reducible exact HKS.out _ HB6.out) (first
                      | (go_at_call 39; (with_reducible refine (HM1.out _ HRD.out).mono ?_); rintro e w5 hq; obtain ⟨a5, c5, rfl, hA5, hk⟩ := hq.named HE1.out; have HP5 := Lib.hid hA5; have HB5 := Lib.hid (HRD.out.trans (hk.mono HRD.out.size)); clear hq hA5 hk HM1)
                      | (go_at_call 39; (with_reducible refine (HM2.out _ _ _ HP5.out).mono ?_); rintro e w6 hq; obtain ⟨a6, c6, rfl, hA6, hk⟩ := hq.named HE2.out; have HP6 := Lib.hid hA6; have HB6 := Lib.hid (HB5.out.trans (hk.mono HB5.out.size)); clear hq hA6 hk HM2))
                    go_wp2
                    go_roundw
                    case rel => exact ⟨q + t, a6, c6, _, D2, by omega, rfl, by go_num, HP6.out, HT2.out⟩
                    case measure => simp [intOf]; omega
                  · have hz2 : (Z1 : Int) < (cn : Int) := by rw [← hZ1.out]; omega
                    have d1 : decide ((Z1 : Int) < (cn : Int)) = true := decide_eq_true hz2
                    have d2 : decide ((t : Int) < 65535) = false := decide_eq_false (by omega)
                    clear hend
                    go_wp2
                    go_quiet (fail)
                    go_wp2
                    obtain ⟨wd, hwd⟩ := named (wr.drewN nq)
                    have HPD : Hid (RP w X cs a' m' c' D wd) := by rw [← hwd.out]; exact HP.out.later (below_drewN9 (Below.refl _ _) _)
                    rw [hwd.out]
                    clear hwd HP
                    have HKS : Hid (∀ W, Below wd.heap.size wd W → W.cell? ⟨X, 6, none⟩ = some (.slice (some ⟨b, off, none⟩) cn cc) ∧ W.cell? ⟨b, off + q, none⟩ = some (.int .i64 x)) := fun W h => HCX.out (HPD.out.later h)
                    have HM1 : Hid (∀ W, Below wd.heap.size wd W → Calls Tryz.prog 39 #[.slice a' m' c', .int .i64 2, .int .i64 t] W (RPQ w X cs W (D ++ numB false 2 t) fOne)) := fun W hb => refNumX w W X cs a' m' c' D 2 t 2 t (HPD.out.later hb) (by omega) rfl rfl (by omega) (by omega) (lt16 (by omega)) (by omega)
                    have HE1 : Hid ((D ++ numB false 2 t).length = m' + 2) := by rw [Hid, List.length_append, numB_len, hm']
                    obtain ⟨D1, hD1⟩ := named (D ++ numB false 2 t)
                    rw [hD1.out] at HM1 HE1 HT2
                    have HM2 := Lib.hid (fun W a c hA => refNumX w W X cs a (m' + 2) c D1 2 x 2 x hA (by omega) rfl rfl (by omega) (by omega) (lt16 HXB.out) (by have := HXB.out; omega))
                    have HE2 : Hid ((D1 ++ numB false 2 x).length = m' + 2 + 2) := by rw [Hid, List.length_append, numB_len, HE1.out]
                    obtain ⟨D2, hD2⟩ := named (D1 ++ numB false 2 x)
                    rw [hD2.out] at HM2 HE2 HT2
                    have HR0 := Lib.hid (Below.refl wd.heap.size wd)
                    have HRD := Lib.hid (Below.refl wd.heap.size wd).drew
                    have HZ1 := Lib.hid hZ1.out
                    clear x6 y0 hm' hD1 hD2 hZ1 d2 hw1
                    go_region_held3 (fun W => W.cell? ⟨X, 6, none⟩ = some (.slice (some ⟨b, off, none⟩) cn cc) ∧ W.cell? ⟨b, off + q, none⟩ = some (.int .i64 x)) (first | with_reducible exact HKS.out _ HR0.out | with_reducible exact HKS.out _ HRD.out | with_reducible exact HKS.out _ HB5.out | with_reducible exact HKS.out _ HB6.out) (first
                      | (go_at_call 39; (with_reducible refine (HM1.out _ HRD.out).mono ?_); rintro e w5 hq; obtain ⟨a5, c5, rfl, hA5, hk⟩ := hq.named HE1.out; have HP5 := Lib.hid hA5; have HB5 := Lib.hid (HRD.out.trans (hk.mono HRD.out.size)); clear hq hA5 hk HM1)
                      | (go_at_call 39; (with_reducible refine (HM2.out _ _ _ HP5.out).mono ?_); rintro e w6 hq; obtain ⟨a6, c6, rfl, hA6, hk⟩ := hq.named HE2.out; have HP6 := Lib.hid hA6; have HB6 := Lib.hid (HB5.out.trans (hk.mono HB5.out.size)); clear hq hA6 hk HM2))
                    go_wp2
                    go_roundw
                    case rel => exact ⟨q + t, a6, c6, _, D2, by omega, rfl, by go_num, HP6.out, HT2.out⟩
                    case measure => simp [intOf]; omega
                  · obtain ⟨⟨g1, g2⟩, y, g3, g4⟩ := hend
                    obtain ⟨b', off', e1, y1, k1⟩ := iv_cell HK.out.1 (q + t) g1
                    cases e1
                    have e2 : ivAt K (q + t) = y := Option.some.inj (k1.symm.trans g3)
                    rw [e2, hZ1.out] at y1
                    have y1 := (HP.out.b.cell (p := ⟨b, off + Z1, none⟩) hbl2).trans y1
                    have hz2 : (Z1 : Int) < (cn : Int) := by rw [← hZ1.out]; omega
                    have d1 : decide ((Z1 : Int) < (cn : Int)) = true := decide_eq_true hz2
                    have d2 : decide ((t : Int) < 65535) = true := decide_eq_true (by omega)
                    have d3 : (y == (x : Int)) = false := by simp [g4]
                    clear k1 e2 g3 g4
                    go_wp2
                    go_quiet (fail)
                    go_wp2
                    obtain ⟨wd, hwd⟩ := named (wr.drewN nq)
                    have HPD : Hid (RP w X cs a' m' c' D wd) := by rw [← hwd.out]; exact HP.out.later (below_drewN9 (Below.refl _ _) _)
                    rw [hwd.out]
                    clear hwd HP
                    have HKS : Hid (∀ W, Below wd.heap.size wd W → W.cell? ⟨X, 6, none⟩ = some (.slice (some ⟨b, off, none⟩) cn cc) ∧ W.cell? ⟨b, off + q, none⟩ = some (.int .i64 x)) := fun W h => HCX.out (HPD.out.later h)
                    have HM1 : Hid (∀ W, Below wd.heap.size wd W → Calls Tryz.prog 39 #[.slice a' m' c', .int .i64 2, .int .i64 t] W (RPQ w X cs W (D ++ numB false 2 t) fOne)) := fun W hb => refNumX w W X cs a' m' c' D 2 t 2 t (HPD.out.later hb) (by omega) rfl rfl (by omega) (by omega) (lt16 (by omega)) (by omega)
                    have HE1 : Hid ((D ++ numB false 2 t).length = m' + 2) := by rw [Hid, List.length_append, numB_len, hm']
                    obtain ⟨D1, hD1⟩ := named (D ++ numB false 2 t)
                    rw [hD1.out] at HM1 HE1 HT2
                    have HM2 := Lib.hid (fun W a c hA => refNumX w W X cs a (m' + 2) c D1 2 x 2 x hA (by omega) rfl rfl (by omega) (by omega) (lt16 HXB.out) (by have := HXB.out; omega))
                    have HE2 : Hid ((D1 ++ numB false 2 x).length = m' + 2 + 2) := by rw [Hid, List.length_append, numB_len, HE1.out]
                    obtain ⟨D2, hD2⟩ := named (D1 ++ numB false 2 x)
                    rw [hD2.out] at HM2 HE2 HT2
                    have HR0 := Lib.hid (Below.refl wd.heap.size wd)
                    have HRD := Lib.hid (Below.refl wd.heap.size wd).drew
                    have HZ1 := Lib.hid hZ1.out
                    clear x6 y0 hm' hD1 hD2 hZ1 d3 y1 hw1
                    go_region_held3 (fun W => W.cell? ⟨X, 6, none⟩ = some (.slice (some ⟨b, off, none⟩) cn cc) ∧ W.cell? ⟨b, off + q, none⟩ = some (.int .i64 x)) (first | with_reducible exact HKS.out _ HR0.out | with_reducible exact HKS.out _ HRD.out | with_reducible exact HKS.out _ HB5.out | with_reducible exact HKS.out _ HB6.out) (first
                      | (go_at_call 39; (with_reducible refine (HM1.out _ HRD.out).mono ?_); rintro e w5 hq; obtain ⟨a5, c5, rfl, hA5, hk⟩ := hq.named HE1.out; have HP5 := Lib.hid hA5; have HB5 := Lib.hid (HRD.out.trans (hk.mono HRD.out.size)); clear hq hA5 hk HM1)
                      | (go_at_call 39; (with_reducible refine (HM2.out _ _ _ HP5.out).mono ?_); rintro e w6 hq; obtain ⟨a6, c6, rfl, hA6, hk⟩ := hq.named HE2.out; have HP6 := Lib.hid hA6; have HB6 := Lib.hid (HB5.out.trans (hk.mono HB5.out.size)); clear hq hA6 hk HM2))
                    go_wp2
                    go_roundw
                    case rel => exact ⟨q + t, a6, c6, _, D2, by omega, rfl, by go_num, HP6.out, HT2.out⟩
                    case measure => simp [intOf]; omega
            · obtain rfl : q = cn := by omega
              have hd : K.drop q = [] := List.drop_eq_nil_of_le (by rw [HKl.out]; exact Nat.le_refl _)
              have he : TL = D := by
                have e0 : runsB ([] : List Int) = [] := rfl
                rw [HT.out, hd, e0, List.append_nil]
              clear hm' hd HT
              go_wp2
              go_ret2
              subst he
              obtain ⟨⟨B9, hA9, _⟩, _⟩ := HP.out
              exact PutPost.own 0 hA9.1 HP.out.b
end Go.Proofs.YtdffgnpldapciaaGreatDoor
namespace Go.Proofs.YtdffgnpldapciaaGreatDoor
open Go.RowKit
set_option linter.unusedVariables false

set_option maxRecDepth 100000 in
set_option maxHeartbeats 3200000 in
theorem refPutM_no (w : World) (x : Mt) (M : MM) (h : MetaD w x M) (hr : ¬ RightMt M) (hcn0 : x.cn ≤ 65536) : Calls Tryz.prog 17 #[.agg (mtA M x)] w (PutPost w [] 1) := by
  have HRI := Lib.hid (fun W hb => refRight12 W x M (h.later (w := w) (w' := W) hb) hcn0)
  have HP := Lib.hid hr
  obtain ⟨P, hP⟩ := named (RightMt M)
  rw [hP.out] at HRI HP
  clear h hr hP
  obtain ⟨a0, n0, c0, sa, sn, sc, ma, mn, mc, ca, cn, cc⟩ := x
  obtain ⟨c, s, bk, T, S, B, K⟩ := M
  dsimp only [mtA] at HRI ⊢
  have HRT := Lib.hid (RtS.first w #[.int .i64 c, .int .i64 s, .string bk, .slice a0 n0 c0, .slice sa sn sc, .slice ma mn mc, .slice ca cn cc])
  go_enter Tryz.func17, Tryz.ntmps17
  go_wp2_with (first
    | (go_at_call 38; (with_reducible refine (HRI.out _ HRT.out.below).mono ?_); rintro e w1 ⟨G, rfl, h, hr⟩; have hg : G = false := Bool.eq_false_iff.2 fun e => HP.out (hr.1 e); subst hg; have HRT1 := Lib.hid (HRT.out.later h); obtain ⟨m0, m1, m2, m3, m4, m5, m6⟩ := cells7 HRT1.out.box; clear h hr HRI))
  go_ret2
  exact ⟨none, 0, rfl, none_bytes _, ⟨fun _ => rfl, Nat.le_refl _⟩, HRT1.out.below⟩
theorem put_both {w : World} {x : Mt} {M : MM} (h : MetaD w x M) (hW : Wid w) (hK : x.cn ≤ 65536) : ∃ (L : List Int) (err : Int), I64 err ∧ (∀ W, Below w.heap.size w W → Calls Tryz.prog 9 #[.agg (mtA M x)] W (PutPost W L err)) ∧ (∀ W, Below w.heap.size w W → Calls Tryz.prog 17 #[.agg (mtA M x)] W (PutPost W L err)) := by
  by_cases hr : RightMt M
  · exact ⟨encM M, 0, by unfold I64; omega, fun W hb => mPut W x M (h.later hb) hr (hW.later hb), fun W hb => refPutM_ok W x M (h.later hb) hr⟩
  · exact ⟨[], 1, by unfold I64; omega, fun W hb => mPut_no W x M (h.later hb) hr, fun W hb => refPutM_no W x M (h.later hb) hr hK⟩
/-- Two boxes of metas. -/
def Two14 (w : World) (A B : Array Value) (W : World) : Prop := Blk W w.heap.size 31 A ∧ Blk W (w.heap.size + 1) 31 B ∧ Below w.heap.size w W
section
variable {w W W' : World} {A B : Array Value}
theorem Two14.later (h : Two14 w A B W) (hb : Below W.heap.size W W') : Two14 w A B W' := ⟨h.1.later hb, h.2.1.later hb, h.2.2.trans (hb.mono h.2.2.size)⟩
theorem Two14.below (h : Two14 w A B W) : Below w.heap.size w W := h.2.2
theorem Two14.first (w : World) (A B : Array Value) : Two14 w A B ((w.alloc (.cells A 31)).alloc (.cells B 31)) := by
  refine ⟨(Blk.new w _ _).alloc _, ?_, ((Below.refl _ _).alloc (Nat.le_refl _) _).alloc (by simp) _⟩
  have := Blk.new (w.alloc (.cells A 31)) 31 B
  rwa [World.size_alloc] at this
end
theorem strNe14 {l m : List Int} (hl : ∀ c ∈ l, 0 ≤ c ∧ c < 256) (hm : ∀ c ∈ m, 0 ≤ c ∧ c < 256) (h : l ≠ m) : ((strOfNums l).toList == (strOfNums m).toList) = false := by
  rw [beq_eq_false_iff_ne]
  intro e
  rw [ByteArray.toList_eq, ByteArray.toList_eq, strOfNums_data, strOfNums_data] at e
  apply h
  have back : ∀ l : List Int, (∀ c ∈ l, 0 ≤ c ∧ c < 256) → (l.map fun n => UInt8.ofNat n.toNat).map (fun u => (u.toNat : Int)) = l := fun l hl => by
    rw [List.map_map]
    conv => rhs; rw [← List.map_id l]
    apply List.map_congr_left
    intro c hc
    have := hl c hc
    simp only [Function.comp, id]
    have e : (UInt8.ofNat c.toNat).toNat = c.toNat := by
      rw [UInt8.toNat_ofNat']
      exact Nat.mod_eq_of_lt (by omega)
    rw [e]
    omega
  rw [← back l hl, e, back m hm]
theorem un_both {M N : MM} (h1 : RightMt M) (h2 : RightMt N) (e1 : EnM M) (e2 : EnM N) (b1 : ∀ c ∈ encM M, 0 ≤ c ∧ c < 256) (b2 : ∀ c ∈ encM N, 0 ≤ c ∧ c < 256) : ∃ R : Bool, (R = true ↔ M = N) ∧ ((strOfNums (encM M)).toList == (strOfNums (encM N)).toList) = R := by
  by_cases h : M = N
  · subst h
    exact ⟨true, by simp, by simp⟩
  · refine ⟨false, by simp [h], strNe14 b1 b2 fun e => h (encM_tells (r := []) (r' := []) h1.sml h2.sml e1 e2 (by rw [e])).1⟩
end Go.Proofs.YtdffgnpldapciaaGreatDoor
