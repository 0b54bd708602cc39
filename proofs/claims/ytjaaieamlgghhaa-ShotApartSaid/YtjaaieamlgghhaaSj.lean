/-
  What the project's shots.Find answers (12.2). Conditions: the meta reads.
-/
import Derived.Test.YtjaaieamlgghhaaSh
namespace Go.Proofs.Ytjaaieamlgghhaa
open Go.RowKit
set_option linter.unusedVariables false

set_option maxRecDepth 100000 in
set_option maxHeartbeats 3200000 in
theorem shotsFind_no (w : World) (x : Mt) (M : MM) (h : MetaD w x M) (nm : ByteArray) (hno : fndS nm M.S = -1) : Calls Try.prog 23 #[.agg (mtA M x), .string nm] w fun e w' => e = .returned (.tuple #[.agg #[.string ⟨#[]⟩, .int .i64 0, .slice none 0 0], .bool false]) ∧ Below w.heap.size w w' := by
  have HP := Lib.hid (fun W (hb : Below w.heap.size w W) => placeOf W x M (h.later hb) nm hno)
  clear h hno
  obtain ⟨a0, n0, c0, sa, sn, sc, ma, mn, mc, ca, cn, cc⟩ := x
  obtain ⟨c, s, bk, T, S, B, K⟩ := M
  dsimp only [mtA] at *
  have HR : Hid (Blk ((w.alloc (.cells #[.int .i64 c, .int .i64 s, .string bk, .slice a0 n0 c0, .slice sa sn sc, .slice ma mn mc, .slice ca cn cc] 29)).alloc (.cells #[.string ⟨#[]⟩, .int .i64 0, .slice none 0 0] 39)) (w.heap.size + 1) 39 #[.string ⟨#[]⟩, .int .i64 0, .slice none 0 0]) := blk_next
  have HB : Hid (Below w.heap.size w ((w.alloc (.cells #[.int .i64 c, .int .i64 s, .string bk, .slice a0 n0 c0, .slice sa sn sc, .slice ma mn mc, .slice ca cn cc] 29)).alloc (.cells #[.string ⟨#[]⟩, .int .i64 0, .slice none 0 0] 39))) := ((Below.refl _ _).alloc (Nat.le_refl _) _).alloc (by simp) _
  go_enter Try.func23, Try.ntmps23
  go_wp2_with (first
    | (go_at_call 57; refine (HP.out _ HB.out).mono ?_; rintro e w2 ⟨rfl, hb⟩; have HR2 := Lib.hid (HR.out.later hb); have HB2 := Lib.hid (HB.out.trans (hb.mono HB.out.size)); obtain ⟨p0, p1, p2⟩ := cells3 HR2.out; obtain ⟨q0, q1, q2⟩ := free3 HR2.out; clear hb))
  have k := grown3 w2 (w.heap.size + 1) (.string ⟨#[]⟩) (.int .i64 0) (.slice none 0 0)
  exact bodyPost_ret (results_cell_tmp rfl _ _ (w.heap.size + 1) 39 #[.string ⟨#[]⟩, .int .i64 0, .slice none 0 0] (0, 0) _ rfl (.bool false) rfl (HR2.out.set3 _ _ _) Try.underlying39 rfl shot_size) rfl ⟨rfl, belowRow HB2.out k (by omega) (by have := HR2.out.lt; omega)⟩
set_option maxRecDepth 100000 in
set_option maxHeartbeats 3200000 in
theorem shotsFind_yes (w : World) (x : Mt) (M : MM) (h : MetaD w x M) (nm : ByteArray) (i : Nat) (hyes : fndS nm M.S = i) (n1 : ByteArray) (sz : Int) (T1 : Tb) (hi : M.S[i]? = some (n1, sz, T1)) : Calls Try.prog 23 #[.agg (mtA M x), .string nm] w fun e w' => ∃ (al : Option Addr) (ll cl : Nat), e = .returned (.tuple #[.agg #[.string n1, .int .i64 sz, .slice al ll cl], .bool true]) ∧ TabN w' w.heap.size al ll cl T1 ∧ Below w.heap.size w w' := by
  have HP := Lib.hid (fun W (hb : Below w.heap.size w W) => placeOf W x M (h.later hb) nm hyes)
  have HD := Lib.hid h
  clear h hyes
  obtain ⟨a0, n0, c0, sa, sn, sc, ma, mn, mc, ca, cn, cc⟩ := x
  obtain ⟨c, s, bk, T, S, B, K⟩ := M
  dsimp only [mtA] at *
  have hl := HD.out.S.lens
  have hil := (List.getElem?_eq_some_iff.1 hi).1
  dsimp only at hl
  have hin : i < sn := by omega
  obtain ⟨b, off, n1', sz', al, ll, cl, T', e0, hSi, hb, hok, x0, x1, x2, hT⟩ := HD.out.S.at i hin
  obtain rfl : sa = some ⟨b, off, none⟩ := e0
  rw [hi] at hSi
  cases hSi
  have hi1000 : i ≤ 1000 := by omega
  have HXX : Hid (∀ W, Below w.heap.size w W → W.cell? ⟨b, off + i * 3, none⟩ = some (.string n1) ∧ W.cell? ⟨b, off + i * 3 + 1, none⟩ = some (.int .i64 sz) ∧ W.cell? ⟨b, off + i * 3 + 2, none⟩ = some (.slice al ll cl)) := fun W hw => ⟨(hw.cell (p := ⟨b, off + i * 3, none⟩) hb).trans x0, (hw.cell (p := ⟨b, off + i * 3 + 1, none⟩) hb).trans x1, (hw.cell (p := ⟨b, off + i * 3 + 2, none⟩) hb).trans x2⟩
  have HSH := Lib.hid (fun W (hb : Below w.heap.size w W) => pcopyShot W n1 sz al ll cl T1 (hT.later hb))
  have HR : Hid (Blk ((w.alloc (.cells #[.int .i64 c, .int .i64 s, .string bk, .slice a0 n0 c0, .slice (some ⟨b, off, none⟩) sn sc, .slice ma mn mc, .slice ca cn cc] 29)).alloc (.cells #[.string ⟨#[]⟩, .int .i64 0, .slice none 0 0] 39)) (w.heap.size + 1) 39 #[.string ⟨#[]⟩, .int .i64 0, .slice none 0 0]) := blk_next
  have HX : Hid (Blk ((w.alloc (.cells #[.int .i64 c, .int .i64 s, .string bk, .slice a0 n0 c0, .slice (some ⟨b, off, none⟩) sn sc, .slice ma mn mc, .slice ca cn cc] 29)).alloc (.cells #[.string ⟨#[]⟩, .int .i64 0, .slice none 0 0] 39)) w.heap.size 29 #[.int .i64 c, .int .i64 s, .string bk, .slice a0 n0 c0, .slice (some ⟨b, off, none⟩) sn sc, .slice ma mn mc, .slice ca cn cc]) := (Blk.new w _ _).alloc _
  have HB : Hid (Below w.heap.size w ((w.alloc (.cells #[.int .i64 c, .int .i64 s, .string bk, .slice a0 n0 c0, .slice (some ⟨b, off, none⟩) sn sc, .slice ma mn mc, .slice ca cn cc] 29)).alloc (.cells #[.string ⟨#[]⟩, .int .i64 0, .slice none 0 0] 39))) := ((Below.refl _ _).alloc (Nat.le_refl _) _).alloc (by simp) _
  have di : decide ((i : Int) < 0) = false := decide_eq_false (by omega)
  clear hl hil hi x0 x1 x2 hT hok hb HD
  go_enter Try.func23, Try.ntmps23
  go_wp2_with (first
    | (go_at_call 57; refine (HP.out _ HB.out).mono ?_; rintro e w2 ⟨rfl, hb⟩; have HR2 := Lib.hid (HR.out.later hb); have HX2 := Lib.hid (HX.out.later hb); have HB2 := Lib.hid (HB.out.trans (hb.mono HB.out.size)); obtain ⟨x0, x1, x2, x3, x4, x5, x6⟩ := cells7 HX2.out; obtain ⟨y0, y1, y2⟩ := HXX.out _ HB2.out; clear hb)
    | (go_at_call 58; refine (HSH.out _ HB2.out).mono ?_; rintro e w3 ⟨ta, tc, rfl, ht, hb⟩; have HR3 := Lib.hid (HR2.out.later hb); have HB3 := Lib.hid (HB2.out.trans (hb.mono HB2.out.size)); have HT3 := Lib.hid ht; obtain ⟨p0, p1, p2⟩ := cells3 HR3.out; obtain ⟨q0, q1, q2⟩ := free3 HR3.out; clear hb ht))
  have k := grown3 w3 (w.heap.size + 1) (.string n1) (.int .i64 sz) (.slice ta ll tc)
  exact bodyPost_ret (results_cell_tmp rfl _ _ (w.heap.size + 1) 39 #[.string n1, .int .i64 sz, .slice ta ll tc] (0, 0) _ rfl (.bool true) rfl (HR3.out.set3 _ _ _) Try.underlying39 rfl shot_size) rfl ⟨ta, ll, tc, rfl, ((HT3.out.mono HB2.out.size).typed HR3.out (by decide) (by decide) k), belowRow HB3.out k (by omega) (by have := HR3.out.lt; omega)⟩
end Go.Proofs.Ytjaaieamlgghhaa
