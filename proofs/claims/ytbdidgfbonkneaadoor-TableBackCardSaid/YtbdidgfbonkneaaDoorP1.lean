/-
  What Put answers (layer 8). Conditions: the table reads and is no greater than a statement goes through; the table of widths reads.
-/
import Derived.Test.YtbdidgfbonkneaaDoorZ9
import Derived.Test.YtbdidgfbonkneaaDoorK9
import Derived.Test.YtbdidgfbonkneaaDoorE9
namespace Go.Proofs.YtbdidgfbonkneaaDoor
open Go.RowKit
set_option linter.unusedVariables false

theorem Ap.first (w : World) : Ap w w.heap.size none 0 0 [] w := ⟨⟨⟨rfl, Or.inl ⟨rfl, rfl⟩⟩, by simp [Small]⟩, Below.refl _ _, Nat.le_refl _, Nat.le_refl _⟩
set_option maxRecDepth 100000 in
set_option maxHeartbeats 3200000 in
theorem put9_no (w : World) (a : Option Addr) (len cap : Nat) (ds : List LfD) (c : Int) (h : TabR w a len ds) (hlen : len ≤ 6000) (hr : ¬ rightT (tbOf ds) 4096 c) :
    Calls Tryd.prog 8 #[.agg #[.slice a len cap], .int .i64 c] w (PutPost w [] 1) := by
  have HR := Lib.hid (fun w h => right9_is w a len cap ds 4096 c h hlen false (decide_eq_false hr))
  have HT := Lib.hid (h.later ((Below.refl _ _).alloc (Nat.le_refl _) (.cells #[.slice a len cap] 24)))
  go_enter Tryd.func8, Tryd.ntmps8
  go_wp2_with (go_at_call 17; (with_reducible refine (HR.out _ HT.out).mono ?_); rintro e w1 ⟨rfl, g⟩; have HB := Lib.hid (((Below.refl _ _).alloc (Nat.le_refl _) (.cells #[.slice a len cap] 24)).trans (g.mono (by rw [World.size_alloc]; omega))); clear g)
  go_ret2
  exact ⟨none, 0, rfl, none_bytes _, ⟨fun _ => rfl, Nat.le_refl _⟩, HB.out⟩
set_option maxRecDepth 100000 in
set_option maxHeartbeats 3200000 in
theorem put9_ok (w : World) (a : Option Addr) (len cap : Nat) (ds : List LfD) (c : Int) (h : TabR w a len ds) (hlen : len ≤ 6000) (hr : rightT (tbOf ds) 4096 c) (hW : Wid w) :
    Calls Tryd.prog 8 #[.agg #[.slice a len cap], .int .i64 c] w (PutPost w (tblB (tbOf ds)) 0) := by
  have HR := Lib.hid (fun w h => right9_is w a len cap ds 4096 c h hlen true (decide_eq_true hr))
  have HT0 := Lib.hid h
  have HT := Lib.hid (h.later ((Below.refl _ _).alloc (Nat.le_refl _) (.cells #[.slice a len cap] 24)))
  have HRT := Lib.hid hr
  have HWD := Lib.hid hW
  clear h hr hW
  go_enter Tryd.func8, Tryd.ntmps8
  go_wp2_with (go_at_call 17; (with_reducible refine (HR.out _ HT.out).mono ?_); rintro e w1 ⟨rfl, g⟩; have HB := Lib.hid ((Below.refl w.heap.size w).alloc (Nat.le_refl _) (.cells #[.slice a len cap] 24)); have HG := Lib.hid g; have hx := one_cell9 ((Blk.new w 24 #[.slice a len cap]).later g); clear g)
  have HP0 := Lib.hid ((Ap.first w).later (HB.out.trans (HG.out.mono HB.out.size)))
  have hTl : (tbOf ds).length = len := HT0.out.tlen
  obtain ⟨T, hTn⟩ := named (tbOf ds)
  rw [hTn.out] at HRT hTl ⊢
  have h512 : len ≤ 512 := by rw [← hTl]; exact HRT.out.2.2.2.1
  go_loopw [6, 7, 17] (fun cn s iv wr => ∃ (j N : Nat) (a' : Option Addr) (c' : Nat), j ≤ len ∧ Hid (cntT T j = N) ∧ cn = .int .i64 N ∧ s = .slice a' (N * 130) c' ∧ iv = .int .i64 j ∧ Hid (Ap w w.heap.size a' (N * 130) c' (bodyB T j) wr)) (fun _ _ iv _ => len - (intOf iv).toNat)
  case atStart => exact ⟨0, 0, none, 0, Nat.zero_le _, rfl, rfl, rfl, rfl, HP0.out⟩
  case round =>
    obtain ⟨j, N, a', c', hj, HN, rfl, rfl, rfl, HP⟩ := hrel
    have hNj : N ≤ 512 := by have h1 := cntT_le T j; have h2 := HN.out; omega
    obtain ⟨M, hM⟩ := named (N * 130)
    rw [hM.out] at HP ⊢
    have hMb : M ≤ 100000 := by rw [← hM.out]; omega
    by_cases hlt : j < len
    · obtain ⟨b, off, al, ll, cl, xs, e1, x1, hL, htb, _⟩ := HT0.out.at j hlt
      rw [hTn.out] at htb
      subst e1
      have x2 := (HP.out.2.1.cell (p := ⟨b, off + j, none⟩) (block_lt_of_cell x1)).trans x1
      have hll := hL.len
      dsimp only at hll
      by_cases h0 : xs = []
      · subst h0
        obtain rfl : ll = 0 := hll.symm
        have hC : Hid (cntT T (j + 1) = N) := by
          show (if tbAt T j = [] then cntT T j else cntT T j + 1) = N
          rw [if_pos htb]
          exact HN.out
        have hBd : bodyB T (j + 1) = bodyB T j := by
          show (if tbAt T j = [] then bodyB T j else _) = _
          rw [if_pos htb]
        have HBD := Lib.hid hBd
        have HAB := Lib.hid (fun w => absent9 al 0 cl true rfl w)
        clear hBd htb hL hll x1
        go_wp2_with (go_at_call 19; (with_reducible refine (HAB.out _).mono ?_); rintro e w2 ⟨rfl, rfl⟩)
        go_roundw
        case rel => exact ⟨j + 1, N, a', c', by omega, hC, rfl, by rw [hM.out], by go_num, by rw [HBD.out, hM.out]; exact HP.out⟩
        case measure => simp [intOf]; omega
      · have hne : tbAt T j ≠ [] := by rw [htb]; exact h0
        obtain ⟨q1, q2, _⟩ := HRT.out.2.2.2.2 j (by omega) hne
        rw [htb] at q1 q2
        obtain rfl : ll = 8 := hll.symm.trans q1
        have hC : Hid (cntT T (j + 1) = N + 1) := by
          show (if tbAt T j = [] then cntT T j else cntT T j + 1) = N + 1
          rw [if_neg hne, HN.out]
        have hBd : bodyB T (j + 1) = bodyB T j ++ leafB j xs := by
          show (if tbAt T j = [] then bodyB T j else bodyB T j ++ leafB j (tbAt T j)) = _
          rw [if_neg hne, htb]
        have HBD := Lib.hid hBd
        have HAB := Lib.hid (fun w => absent9 al 8 cl false rfl w)
        have HAP := Lib.hid (fun W h => appendLeaf9 w W w.heap.size a' M c' (bodyB T j) j al cl xs c h (by omega) (by omega) hL (fun k hk => (q2 k hk).1) HWD.out)
        have hMN : M + 130 = (N + 1) * 130 := by rw [← hM.out]; omega
        have HMN := Lib.hid hMN
        clear hBd htb hL hll x1 q1 q2 hne hMN
        go_wp2_with (first
          | (go_at_call 19; (with_reducible refine (HAB.out _).mono ?_); rintro e w2 ⟨rfl, rfl⟩)
          | (go_at_call 20; (with_reducible refine (HAP.out _ HP.out).mono ?_); rintro e w3 ⟨a3, c3, rfl, g⟩; have HP2 := Lib.hid g; clear g))
        go_roundw
        case rel => exact ⟨j + 1, N + 1, a3, c3, by omega, hC, by go_num, by rw [HMN.out], by go_num, by rw [HBD.out, ← HMN.out]; exact HP2.out⟩
        case measure => simp [intOf]; omega
    · have hjl : j = len := by omega
      subst hjl
      have HE := Lib.hid (fun w => encode9 N w (by omega))
      have HBY := Lib.hid HP.out.1.bytes
      have HTB : Hid (tblB T = numB false 2 N ++ bodyB T j) := by
        show _ = _
        unfold tblB
        rw [hTl, HN.out]
      go_wp2_with (first
        | (go_at_call 21; (with_reducible refine (HE.out _).mono ?_); rintro e w4 ⟨a4, c4, rfl, g1, g2⟩; have HA4 : Hid (Ap w wr.heap.size a4 2 c4 (numB false 2 N) w4) := ⟨g1, HP.out.2.1.trans (g2.mono HP.out.2.1.size), HP.out.2.1.size, g2.size⟩; have HB4 := Lib.hid (HBY.out.1.later g2); clear g1 g2)
        | (at_builtin; refine append_bytes rfl _ _ rfl wr.heap.size _ 2 (numB false 2 N) rfl HA4.out.1 a' M c' _ rfl HBY.out.2 HB4.out (by omega) HA4.out.2.2.2 ?_; intro a5 c5 w5 h1 h2; have HA5 := Lib.hid (HA4.out.app h1 h2); clear h1 h2))
      go_ret2
      have h5 := HA5.out.1
      rw [← HTB.out, ← hTn.out] at h5
      exact PutPost.own 0 h5 HA5.out.2.1
end Go.Proofs.YtbdidgfbonkneaaDoor
