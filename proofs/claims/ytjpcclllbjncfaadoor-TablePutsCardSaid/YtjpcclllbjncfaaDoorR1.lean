/-
  What the reference's Table answers (layer 8). Conditions: the table reads and is no greater than a statement goes through.
-/
import Derived.Test.YtjpcclllbjncfaaDoorP1
import Derived.Test.YtjpcclllbjncfaaDoorL9
import Derived.Test.YtjpcclllbjncfaaDoorE8
namespace Go.Proofs.YtjpcclllbjncfaaDoor
open Go.RowKit
set_option linter.unusedVariables false

set_option maxHeartbeats 800000 in
theorem refPut_own (a : Option Addr) (len cap m v : Nat) (l : List Int) (big : Bool) (w : World) (hB : Bytes w a len l) (hnil : a = none → cap = 0) (hlen : len ≤ 100000) (h1 : 1 ≤ m) (h2 : m ≤ 8) (hf : fitsIn m v = true) :
    Calls Tryd.prog 41 #[.slice a len cap, .int .i64 m, .bool big, .int .u64 v] w fun e w' => ∃ a' c', e = .returned (.tuple #[.slice a' (len + m) c', .int .i64 0]) ∧ Own w' w.heap.size (.slice a' (len + m) c') (len + m) (l ++ numB big m v) ∧ Below w.heap.size w w' := by
  have HB := Lib.hid hB
  have HN := Lib.hid hnil
  have hS := numB_snoc big m v
  have hD := numB_len big m v
  obtain ⟨D, hDD⟩ := named (numB big m v)
  rw [hDD.out] at hS hD ⊢
  have HL : Hid ((l ++ D).length = len + m) := by rw [Hid, List.length_append, hD, hB.1]
  have HS := Lib.hid hS
  have HD := Lib.hid hD
  clear hB hnil hS hD hDD
  have hsplit : 8 ≤ m ∨ m < 8 ∧ ((v : Int) / 2 ^ (8 * m) == 0) = true ∧ ((v : Int) / 2 ^ (8 * m) != 0) = false := by
    by_cases h : m < 8
    · exact Or.inr ⟨h, fit_small hf h⟩
    · exact Or.inl (by omega)
  clear hf
  rcases hsplit with h3 | ⟨h3, h4, h5⟩
  all_goals cases big
  all_goals
    go_enter Tryd.func41, Tryd.ntmps41
    go_wp2_with (first
      | (at_builtin; refine append_copy rfl (.tmp 29) (.tmp 30) rfl w.heap.size rfl a len cap l rfl HN.out HB.out (by omega) (Nat.le_refl _) ?_; intro a1 c1 w1 g1 g2; have HO := Lib.hid g1; have HG := Lib.hid g2; clear g1 g2))
    go_loopw [10, 11, 12] (fun o i _ wr => ∃ (j : Nat) (a' : Option Addr) (c' : Nat), j ≤ m ∧ i = .int .i64 j ∧ o = .slice a' (len + j) c' ∧ Hid (Own wr w.heap.size (.slice a' (len + j) c') (len + j) (l ++ D.take j)) ∧ Hid (Below w.heap.size w wr)) (fun _ i _ _ => m - (intOf i).toNat)
    case atStart => exact ⟨0, a1, c1, Nat.zero_le _, rfl, rfl, by rw [List.take_zero, List.append_nil]; exact HO.out, HG.out⟩
    case round =>
      obtain ⟨j, a', c', hj, rfl, rfl, HOj, HGj⟩ := hrel
      clear HO HG
      by_cases hlt : j < m
      · obtain ⟨q, hq, hq2⟩ : ∃ q : Nat, (m : Int) - 1 - (j : Int) = (q : Int) ∧ Hid (q = m - 1 - j) := ⟨m - 1 - j, by omega, rfl⟩
        have hq3 : q < m := by have := hq2.out; omega
        have HSj := Lib.hid (HS.out j hlt)
        go_wp2_with (first
          | (at_builtin; refine append_more rfl (.tmp 43) (.tmp 50) rfl w.heap.size _ (len + j) _ rfl (HOj.out.alloc _) _ 1 1 [_] rfl (fun e => by cases e) (one_byte _ _ (byteOf_range _ _)) (by omega) (Nat.le_trans HGj.out.size (by simp)) ?_; intro a2 c2 w2 g1 g2; have HO2 := Lib.hid g1; have HG2 : Hid (Below w.heap.size w w2) := (HGj.out.alloc HGj.out.size _).trans g2; clear g1 g2))
        go_roundw
        case rel =>
          refine ⟨j + 1, a2, c2, by omega, by go_num, rfl, ?_, HG2.out⟩
          have e := HO2.out
          rw [byteOf_int] at e
          rw [HSj.out, ← List.append_assoc]
          first | exact e | (rw [hq2.out] at e; exact e)
        case measure => simp [intOf]; omega
      · obtain rfl : j = m := by omega
        have HE : Hid (D.take j = D) := by rw [Hid]; exact List.take_of_length_le (by rw [HD.out]; exact Nat.le_refl _)
        go_wp2
        go_ret2
        have e := HOj.out
        rw [HE.out] at e
        exact ⟨_, _, rfl, e, HGj.out⟩

theorem refNum_own (a : Option Addr) (len cap m v : Nat) (M : Int) (l : List Int) (w : World) (hB : Bytes w a len l) (hnil : a = none → cap = 0) (hlen : len ≤ 100000) (hM : (m : Int) = M) (hm1 : 1 ≤ m) (hm : m < 8) (hv : v < 256 ^ m) (hv4 : v < 4294967296) :
    Calls Tryd.prog 23 #[.slice a len cap, .int .i64 M, .int .i64 v] w fun e w' => ∃ a' c', e = .returned (.slice a' (len + m) c') ∧ Own w' w.heap.size (.slice a' (len + m) c') (len + m) (l ++ numB false m v) ∧ Below w.heap.size w w' := by
  have HP := Lib.hid (refPut_own a len cap m v l false w hB hnil hlen (by omega) (by omega) (fitsM hm hv))
  rw [hM] at HP
  obtain ⟨K, hK⟩ := named (len + m)
  rw [hK.out] at HP ⊢
  have e1 : IntKind.u64.wrap (v : Int) = v := by rw [IntKind.wrap_u64]; omega
  clear hB hM hv
  go_enter Tryd.func23, Tryd.ntmps23
  go_wp2_with (go_at_call 41; refine HP.out.mono ?_; rintro e w1 ⟨a1, c1, rfl, g1, g3⟩; have HB := Lib.hid g1; have HG := Lib.hid g3; clear g1 g3)
  go_ret
  exact ⟨a1, c1, rfl, HB.out, HG.out⟩
set_option maxRecDepth 100000 in
set_option maxHeartbeats 3200000 in
theorem refTable9_no (w : World) (a : Option Addr) (len cap : Nat) (ds : List LfD) (c : Int) (h : TabR w a len ds) (hr : ¬ rightT (tbOf ds) 4096 c) :
    Calls Tryd.prog 9 #[.agg #[.slice a len cap], .int .i64 c] w (PutPost w [] 1) := by
  have HR := Lib.hid (fun w h => refRight9_is w a len cap ds 4096 c h false (decide_eq_false hr))
  have HT := Lib.hid (h.later ((Below.refl _ _).alloc (Nat.le_refl _) (.cells #[.slice a len cap] 24)))
  have HB0 := Lib.hid ((Below.refl w.heap.size w).alloc (Nat.le_refl _) (.cells #[.slice a len cap] 24))
  by_cases hc0 : c < 0
  · go_enter Tryd.func9, Tryd.ntmps9
    go_wp2
    go_ret2
    exact ⟨none, 0, rfl, none_bytes _, ⟨fun _ => rfl, Nat.le_refl _⟩, HB0.out⟩
  · by_cases hc6 : 6 < c
    · go_enter Tryd.func9, Tryd.ntmps9
      go_wp2
      go_ret2
      exact ⟨none, 0, rfl, none_bytes _, ⟨fun _ => rfl, Nat.le_refl _⟩, HB0.out⟩
    · go_enter Tryd.func9, Tryd.ntmps9
      go_wp2_with (go_at_call 22; (with_reducible refine (HR.out _ HT.out).mono ?_); rintro e w1 ⟨rfl, g⟩; have HB := Lib.hid (HB0.out.trans (g.mono HB0.out.size)); clear g)
      go_ret2
      exact ⟨none, 0, rfl, none_bytes _, ⟨fun _ => rfl, Nat.le_refl _⟩, HB.out⟩
/-- What the reference's rounds hold: the bytes so far, the box of the table. -/
def RA (w0 : World) (X : Nat) (v : Value) (B : Nat) (a : Option Addr) (n c : Nat) (l : List Int) (W : World) : Prop := Ap w0 B a n c l W ∧ Blk W X 24 #[v] ∧ X < B
section
variable {w0 w w' : World} {X B n c : Nat} {v : Value} {a : Option Addr} {l : List Int}
theorem RA.later (h : RA w0 X v B a n c l w) (hb : Below w.heap.size w w') : RA w0 X v B a n c l w' := ⟨h.1.later hb, h.2.1.later hb, h.2.2⟩
theorem RA.app (h : RA w0 X v B a n c l w) {a' : Option Addr} {n' c' : Nat} {l' : List Int} (ho : Own w' B (.slice a' n' c') n' l') (hg : w.grownBy w' (Value.slice a n c).ownBlock) : RA w0 X v B a' n' c' l' w' :=
  ⟨h.1.app ho hg, h.2.1.kept hg (fun e => by have := (h.1.1.1.lt X e.symm).1; have := h.2.2; omega), h.2.2⟩
theorem RA.fresh (h : RA w0 X v B a n c l w) (hb : Below w.heap.size w w') {a' : Option Addr} {n' c' : Nat} {l' : List Int} (ho : Own w' w.heap.size (.slice a' n' c') n' l') : RA w0 X v w.heap.size a' n' c' l' w' :=
  ⟨⟨ho, h.1.2.1.trans (hb.mono h.1.2.1.size), h.1.2.1.size, hb.size⟩, h.2.1.later hb, h.2.1.lt⟩
end
set_option maxRecDepth 100000 in
set_option maxHeartbeats 3200000 in
theorem refTable9_ok (w : World) (a : Option Addr) (len cap : Nat) (ds : List LfD) (c : Int) (h : TabR w a len ds) (hlen : len ≤ 6000) (hr : rightT (tbOf ds) 4096 c) :
    Calls Tryd.prog 9 #[.agg #[.slice a len cap], .int .i64 c] w (PutPost w (tblB (tbOf ds)) 0) := by
  have HR := Lib.hid (fun w h => refRight9_is w a len cap ds 4096 c h true (decide_eq_true hr))
  have HT0 := Lib.hid h
  have HT := Lib.hid (h.later ((Below.refl _ _).alloc (Nat.le_refl _) (.cells #[.slice a len cap] 24)))
  have HRT := Lib.hid hr
  have hc0 : ¬ c < 0 := by have := hr.2.1; omega
  have hc6 : ¬ 6 < c := by have := hr.2.1; omega
  have HB := Lib.hid ((Below.refl w.heap.size w).alloc (Nat.le_refl _) (.cells #[.slice a len cap] 24))
  clear h hr
  go_enter Tryd.func9, Tryd.ntmps9
  go_wp2_with (go_at_call 22; (with_reducible refine (HR.out _ HT.out).mono ?_); rintro e w1 ⟨rfl, g⟩; have HG := Lib.hid g; have HX := Lib.hid ((Blk.new w 24 #[.slice a len cap]).later g); clear g)
  obtain ⟨X, hX⟩ := named w.heap.size
  have hXX := hX.out
  have HP0 : Hid (RA w X (.slice a len cap) (X + 1) none 0 0 [] w1) := by
    have h1 := HB.out.trans (HG.out.mono HB.out.size)
    have h2 := HX.out
    rw [hX.out] at h2
    have h3 := h2.lt
    exact ⟨⟨⟨⟨rfl, Or.inl ⟨rfl, rfl⟩⟩, by simp [Small]⟩, h1, by omega, h3⟩, h2, by omega⟩
  have hTl : (tbOf ds).length = len := HT0.out.tlen
  obtain ⟨T, hTn⟩ := named (tbOf ds)
  rw [hTn.out] at HRT hTl
  have h512 : len ≤ 512 := by rw [← hTl]; exact HRT.out.2.2.2.1
  rw [hX.out]
  go_loopw [6, 7, 8] (fun cn s iv wr => ∃ (j N B : Nat) (a' : Option Addr) (c' : Nat), j ≤ len ∧ Hid (cntT T j = N) ∧ cn = .int .i64 N ∧ s = .slice a' (N * 130) c' ∧ iv = .int .i64 j ∧ Hid (RA w X (.slice a len cap) B a' (N * 130) c' (bodyB T j) wr)) (fun _ _ iv _ => len - (intOf iv).toNat)
  case atStart => exact ⟨0, 0, X + 1, none, 0, Nat.zero_le _, rfl, rfl, rfl, rfl, HP0.out⟩
  case round =>
    obtain ⟨j, N, B, a', c', hj, HN, rfl, rfl, rfl, HP⟩ := hrel
    have hNj : N ≤ 512 := by have h1 := cntT_le T j; have h2 := HN.out; omega
    obtain ⟨M, hM⟩ := named (N * 130)
    rw [hM.out] at HP ⊢
    have hMb : M ≤ 70000 := by rw [← hM.out]; omega
    have hx := one_cell9 HP.out.2.1
    have q2 : (256 : Nat) ^ 2 = 65536 := by decide
    by_cases hlt : j < len
    · obtain ⟨b, off, al, ll, cl, xs, e1, x1, hL, htb, _⟩ := HT0.out.at j hlt
      rw [hTn.out] at htb
      subst e1
      have HCX : Hid (∀ W, Below w.heap.size w W → W.cell? ⟨b, off + j, none⟩ = some (.slice al ll cl)) := fun W hb => (hb.cell (p := ⟨b, off + j, none⟩) (block_lt_of_cell x1)).trans x1
      have x2 := HCX.out _ HP.out.1.2.1
      have hll := hL.len
      dsimp only at hll
      by_cases h0 : xs = []
      · subst h0
        obtain rfl : ll = 0 := hll.symm
        have hC : Hid (cntT T (j + 1) = N) := by
          show (if tbAt T j = [] then cntT T j else cntT T j + 1) = N
          rw [if_pos htb]
          exact HN.out
        have hBd : bodyB T (j + 1) = bodyB T j := by
          show (if tbAt T j = [] then bodyB T j else _) = _
          rw [if_pos htb]
        have HBD := Lib.hid hBd
        clear hBd htb hL hll x1
        go_wp2
        go_roundw
        case rel => exact ⟨j + 1, N, B, a', c', by omega, hC, rfl, by rw [hM.out], by go_num, by rw [HBD.out, hM.out]; exact HP.out⟩
        case measure => simp [intOf]; omega
      · have hne : tbAt T j ≠ [] := by rw [htb]; exact h0
        obtain ⟨q1, q3, _⟩ := HRT.out.2.2.2.2 j (by omega) hne
        rw [htb] at q1 q3
        obtain rfl : ll = 8 := hll.symm.trans q1
        have hC : Hid (cntT T (j + 1) = N + 1) := by
          show (if tbAt T j = [] then cntT T j else cntT T j + 1) = N + 1
          rw [if_neg hne, HN.out]
        have hBd : bodyB T (j + 1) = bodyB T j ++ leafB j xs := by
          show (if tbAt T j = [] then bodyB T j else bodyB T j ++ leafB j (tbAt T j)) = _
          rw [if_neg hne, htb]
        have HBD := Lib.hid hBd
        have HL := Lib.hid hL
        have HLN := Lib.hid q1
        have HM := Lib.hid (fun k hk => (q3 k hk).1)
        have hMN : M + 130 = (N + 1) * 130 := by rw [← hM.out]; omega
        have HMN := Lib.hid hMN
        have HNU := Lib.hid (refNum_own a' M c' 2 j 2 (bodyB T j) wr HP.out.1.1.bytes.1 HP.out.1.1.bytes.2 (by omega) rfl (by omega) (by omega) (by omega) (by omega))
        clear hBd htb hL hll x1 q1 q3 hne hMN
        go_wp2_with (go_at_call 23; (with_reducible refine HNU.out.mono ?_); rintro e w3 ⟨a3, c3, rfl, g1, g2⟩; have HP3 := Lib.hid (HP.out.fresh g2 g1); clear g1 g2)
        obtain ⟨D, hD⟩ := named wr.heap.size
        rw [hD.out] at HP3
        go_loopw [7, 9] (fun s kv wq => ∃ (k : Nat) (a' : Option Addr) (c' : Nat), k ≤ 8 ∧ s = .slice a' (M + 2 + 16 * k) c' ∧ kv = .int .i64 k ∧ Hid (RA w X (.slice (some ⟨b, off, none⟩) len cap) D a' (M + 2 + 16 * k) c' (bodyB T j ++ numB false 2 j ++ (xs.take k).flatMap enB) wq)) (fun _ kv _ => 8 - (intOf kv).toNat)
        case atStart => exact ⟨0, a3, c3, Nat.zero_le _, rfl, rfl, by rw [List.take_zero, List.flatMap_nil, List.append_nil]; exact HP3.out⟩
        case round =>
          obtain ⟨k, a4, c4, hk, rfl, rfl, HQ⟩ := hrel
          have hx3 := one_cell9 HQ.out.2.1
          have x3 := HCX.out _ HQ.out.1.2.1
          obtain ⟨M4, hM4⟩ := named (M + 2 + 16 * k)
          rw [hM4.out] at HQ ⊢
          have hM4b : M4 ≤ 80000 := by rw [← hM4.out]; omega
          by_cases hlk : k < 8
          · obtain ⟨b2, off2, e2, hs, y1, y2, y3, y4, y5⟩ := (HL.out.later HQ.out.1.2.1).at k hlk
            dsimp only at e2 hs y1 y2 y3 y4 y5
            subst e2
            have hmk := HM.out k hlk
            have hls : bodyB T j ++ numB false 2 j ++ (xs.take (k + 1)).flatMap enB = bodyB T j ++ numB false 2 j ++ (xs.take k).flatMap enB ++ enB (lfAt xs k) := by
              have := HLN.out
              rw [List.take_succ_eq_append_getElem (by omega), List.flatMap_append, lfAt_in (by omega)]
              simp only [List.flatMap_cons, List.flatMap_nil, List.append_nil, List.append_assoc]
            have hMk : M4 + 16 = M + 2 + 16 * (k + 1) := by rw [← hM4.out]; omega
            obtain ⟨L, hLd⟩ := named (bodyB T j ++ numB false 2 j ++ (xs.take k).flatMap enB)
            rw [hLd.out] at HQ hls
            obtain ⟨⟨v1, v2, v3, v4, v5⟩, HV⟩ := named (lfAt xs k)
            rw [HV.out] at y1 y2 y3 y4 y5 hs hmk hls
            dsimp only at y1 y2 y3 y4 y5
            clear HV
            have HPE := Lib.hid (fun w => refEntry_ok hmk hs w)
            have HLS := Lib.hid hls
            have HMK := Lib.hid hMk
            clear hs hmk hls hMk
            go_wp2_with (first
              | (go_at_call 24; (with_reducible refine (HPE.out _).mono ?_); intro e w4 h; obtain ⟨a6, c6, rfl, g1, g2, g3⟩ := h.sized (enB_len _); have HQ4 := Lib.hid (HQ.out.later g3); have HB4 := Lib.hid g1; have HC4 := Lib.hid g2.1; clear h g1 g2 g3)
              | (at_builtin; refine append_bytes rfl _ _ rfl D _ M4 L rfl HQ4.out.1.1 a6 16 c6 _ rfl HC4.out HB4.out (by omega) HQ4.out.1.2.2.2 ?_; intro a7 c7 w7 h1 h2; have HQ5 := Lib.hid (HQ4.out.app h1 h2); clear h1 h2))
            go_roundw
            case rel =>
              refine ⟨k + 1, a7, c7, by omega, by rw [HMK.out], by go_num, ?_⟩
              rw [← HMK.out, HLS.out]
              exact HQ5.out
            case measure => simp [intOf]; omega
          · have hk8 : k = 8 := by omega
            subst hk8
            have ht : xs.take 8 = xs := by rw [List.take_of_length_le (by have := HLN.out; omega)]
            rw [ht] at HQ
            have hM8 : M4 = (N + 1) * 130 := by rw [← hM4.out, ← HMN.out]
            go_wp2
            go_roundw
            case rel =>
              refine ⟨j + 1, N + 1, D, a4, c4, by omega, hC, by go_num, by rw [hM8], by go_num, ?_⟩
              rw [HBD.out, ← hM8]
              unfold leafB
              rw [← List.append_assoc]
              exact HQ.out
            case measure => simp [intOf]; omega
    · have hjl : j = len := by omega
      subst hjl
      have HE := Lib.hid (fun w => refNum_own none 0 0 2 N 2 [] w (none_bytes w) (fun _ => rfl) (by omega) rfl (by omega) (by omega) (by omega) (by omega))
      simp only [Nat.zero_add, List.nil_append] at HE
      have HBY := Lib.hid HP.out.1.1.bytes
      have HTB : Hid (tblB T = numB false 2 N ++ bodyB T j) := by
        show _ = _
        unfold tblB
        rw [hTl, HN.out]
      go_wp2_with (first
        | (go_at_call 23; (with_reducible refine (HE.out _).mono ?_); rintro e w4 ⟨a4, c4, rfl, g1, g2⟩; have HA4 := Lib.hid (HP.out.fresh g2 g1); have HB4 := Lib.hid (HBY.out.1.later g2); clear g1 g2)
        | (at_builtin; refine append_bytes rfl _ _ rfl wr.heap.size _ 2 (numB false 2 N) rfl HA4.out.1.1 a' M c' _ rfl HBY.out.2 HB4.out (by omega) HA4.out.1.2.2.2 ?_; intro a5 c5 w5 h1 h2; have HA5 := Lib.hid (HA4.out.app h1 h2); clear h1 h2))
      go_ret2
      have h5 := HA5.out.1.1
      rw [← HTB.out, ← hTn.out] at h5
      exact PutPost.own 0 h5 HA5.out.1.2.1
end Go.Proofs.YtjpcclllbjncfaaDoor
