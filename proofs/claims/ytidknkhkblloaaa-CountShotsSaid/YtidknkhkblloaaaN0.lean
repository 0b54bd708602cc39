/-
  What the reference's Each, Counted, Of and Ints answer (layer 9). Conditions: the meta reads and is right.
-/
import Derived.Test.YtidknkhkblloaaaR0
namespace Go.Proofs.Ytidknkhkblloaaa
open Go.RowKit
set_option linter.unusedVariables false

theorem each_first (a : Option Addr) (len cap : Nat) (T : Tb) (wd w : World) (base : Nat) (hb : base ≤ w.heap.size) (hwd : wd.heap.size ≤ base) (hd : Below wd.heap.size wd w) (hT : Tab wd a len cap T) (hlen : len ≤ 512) :
    Calls Try.prog 33 #[.slice none 0 0, .int .i64 (-1), .agg #[.slice a len cap]] w fun e w' => ∃ (a' : Option Addr) (N c' : Nat), e = .returned (.slice a' N c') ∧ OwnLn w' base (.slice a' N c') N (tabLines (-1) T) ∧ N ≤ 4096 ∧ Below base w w' := by
  refine (refEach_any wd w base none 0 0 [] (-1) a len cap T (OwnG.none _ _ _ _ _) hb hwd hd hT (by omega)).mono ?_
  rintro e w' ⟨a', N, c', rfl, h1, h2⟩
  rw [List.nil_append] at h1
  have hl := linesTo_len (-1) T (T.length * 8)
  have hn := h1.2.1
  have ht := hT.lens.1
  unfold tabLines at hn
  exact ⟨a', N, c', rfl, h1, by omega, h2.below hb fun k e => by cases e⟩
set_option maxRecDepth 100000 in
set_option maxHeartbeats 1600000 in
theorem refEachM_any (w : World) (c s : Int) (bk : ByteArray) (a0 : Option Addr) (n0 c0 : Nat) (sa : Option Addr) (sn sc : Nat) (a5 : Option Addr) (n5 c5 : Nat) (a6 : Option Addr) (n6 c6 : Nat) (T : Tb) (S : List Sh)
    (hT : Tab w a0 n0 c0 T) (hS : ShsR w sa sn S) (hR : RightX T S) (hsn : sn ≤ 900) :
    Calls Try.prog 17 #[.agg #[.int .i64 c, .int .i64 s, .string bk, .slice a0 n0 c0, .slice sa sn sc, .slice a5 n5 c5, .slice a6 n6 c6]] w fun e w' => ∃ (a' : Option Addr) (N c' : Nat), e = .returned (.slice a' N c') ∧ OwnLn w' w.heap.size (.slice a' N c') N (allLines T (S.map shT)) ∧ N ≤ 4096 * 901 ∧ Below w.heap.size w w' := by
  obtain ⟨cl, ⟨m, hr1⟩, hr2⟩ := hR
  have hn0 : n0 ≤ 512 := by rw [← hT.lens.1]; exact hr1.2.2.2.1
  obtain ⟨W1, hW1⟩ : ∃ W1, w.alloc (.cells (mtC c s bk a0 n0 c0 sa sn sc (.slice a5 n5 c5) (.slice a6 n6 c6)) 29) = W1 := ⟨_, rfl⟩
  have hz : W1.heap.size = w.heap.size + 1 := by rw [← hW1, World.size_alloc]
  have hb : Below w.heap.size w W1 := by rw [← hW1]; exact (Below.refl _ _).alloc (Nat.le_refl _) _
  have hM : Blk W1 w.heap.size 29 (mtC c s bk a0 n0 c0 sa sn sc (.slice a5 n5 c5) (.slice a6 n6 c6)) := by rw [← hW1]; exact Blk.new _ _ _
  have HF := Lib.hid (each_first a0 n0 c0 T w W1 (w.heap.size + 1) (by omega) (by omega) hb hT hn0)
  have HM := Lib.hid hM
  have HB := Lib.hid hb
  have HS := Lib.hid hS
  have HSL : Hid (∀ d ∈ S, d.2.2.2.1 ≤ 512) := fun d hd => by
    obtain ⟨m, h⟩ := hr2 d hd
    have h1 := h.2.2.2.1
    have h2 := (hS.2 d hd).lens.1
    omega
  have HALL : Hid (allLines T (S.map shT) = tabLines (-1) T ++ shotsTo (S.map shT) sn) := by
    show _ = _
    unfold allLines
    rw [List.length_map, hS.len]
  rw [HALL.out]
  obtain ⟨m0, m1, m2, m3, m4, m5, m6⟩ := mt_cells hM
  have hmlt : w.heap.size < W1.heap.size := by omega
  clear hr1 hr2 hT hS hM hb
  go_enter Try.func17, Try.ntmps17
  have hW1' : w.alloc (.cells #[.int .i64 c, .int .i64 s, .string bk, .slice a0 n0 c0, .slice sa sn sc, .slice a5 n5 c5, .slice a6 n6 c6] 29) = W1 := hW1
  go_wp2_with (go_at_call 33; (with_reducible refine HF.out.mono ?_); rintro e w2 ⟨a1, N1, c1, rfl, h1, h2, h3⟩; have HO1 := Lib.hid h1; have HN1 := Lib.hid h2; have HB1 := Lib.hid h3; clear h1 h2 h3)
  go_loopw [3, 4] (fun l i wr => ∃ (j : Nat) (aj : Option Addr) (nj cj : Nat), j ≤ sn ∧ l = .slice aj nj cj ∧ i = .int .i64 j ∧ Hid (OwnLn wr (w.heap.size + 1) (.slice aj nj cj) nj (tabLines (-1) T ++ shotsTo (S.map shT) j)) ∧ Hid (nj ≤ 4096 * (j + 1)) ∧ Hid (Below (w.heap.size + 1) W1 wr)) (fun _ i _ => sn - (intOf i).toNat)
  case atStart => exact ⟨0, a1, N1, c1, Nat.zero_le _, rfl, rfl, by show OwnLn _ _ _ _ (_ ++ []); rw [List.append_nil]; exact HO1.out, HN1.out, HB1.out⟩
  case round =>
    obtain ⟨j, aj, nj, cj, hj, rfl, rfl, HOj, HNj, HBj⟩ := hrel
    have hMr := (HBj.out.block w.heap.size (by omega)).trans HM.out
    obtain ⟨m0, m1, m2, m3, m4, m5, m6⟩ := mt_cells hMr
    by_cases hlt : j < sn
    · have hdw : Below w.heap.size w wr := HB.out.trans (HBj.out.mono (by omega))
      obtain ⟨b, off, nm, sz, al, ll, cl', T', rfl, hSj, x1, x2, x3, hT'⟩ := (HS.out.later hdw).at j hlt
      have hT0 : Tab w al ll cl' T' := HS.out.2 _ (List.mem_of_getElem? hSj)
      have hll : ll ≤ 512 := HSL.out _ (List.mem_of_getElem? hSj)
      have hnj := HNj.out
      have hszr : w.heap.size + 1 ≤ wr.heap.size := by have := HBj.out.size; omega
      have HE := Lib.hid (refEach_any w wr (w.heap.size + 1) aj nj cj (tabLines (-1) T ++ shotsTo (S.map shT) j) j al ll cl' T' HOj.out hszr (by omega) hdw hT0 (by omega))
      have HSN : Hid (shotsTo (S.map shT) (j + 1) = shotsTo (S.map shT) j ++ tabLines j T') := by
        show _ = _
        rw [shotsTo_succ]
        congr 2
        unfold tbNth
        rw [List.getD_eq_getElem?_getD, List.getElem?_map, hSj]
        rfl
      have HTL : Hid ((tabLines j T').length ≤ 4096) := by
        have h1 := linesTo_len j T' (T'.length * 8)
        have h2 := hT0.lens.1
        show (linesTo j T' (T'.length * 8)).length ≤ 4096
        omega
      clear hT' hT0 hSj hdw
      go_wp2_with (go_at_call 33; (with_reducible refine HE.out.mono ?_); rintro e w3 ⟨a3, N3, c3, rfl, h1, h2⟩; have HO3 := Lib.hid h1; have HK3 := Lib.hid h2; clear h1 h2)
      go_roundw
      case rel =>
        have hl3 := HO3.out.2.1
        have hlj := HOj.out.2.1
        have htl := HTL.out
        rw [List.length_append] at hl3
        exact ⟨j + 1, a3, N3, c3, by omega, rfl, by go_num, by rw [HSN.out, ← List.append_assoc]; exact HO3.out, by show N3 ≤ _; omega, HBj.out.trans (HK3.out.below hszr fun k e => (HOj.out.1.lt k e).1)⟩
      case measure => simp [intOf]; omega
    · obtain rfl : j = sn := by omega
      go_wp2
      go_ret
      have hnj := HNj.out
      exact ⟨aj, nj, cj, rfl, HOj.out.mono9 (by omega), by omega, HB.out.trans (HBj.out.mono (by omega))⟩
end Go.Proofs.Ytidknkhkblloaaa
