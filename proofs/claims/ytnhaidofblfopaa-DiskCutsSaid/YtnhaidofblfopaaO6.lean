/-
  Cut of a file, and of the disk (package disk). Conditions: the file, the disk as they lie.
-/
import Derived.Test.YtnhaidofblfopaaM6
import Derived.RegionTactic
namespace Go.Proofs.Ytnhaidofblfopaa
open Go.RowKit
set_option linter.unusedVariables false

/-- The front of a row of one's own. -/
theorem own_front {w : World} {base m c k : Nat} {a : Option Addr} {xs : List Int} (h : Own w base (.slice a m c) m xs) (hk : k ≤ m) :
    Own w base (.slice a k c) k (xs.take k) ∧ ∀ w' : World, (Instr.slice 22 (.slice a m c) none (some (.int .i64 k)) none).run Try.prog w' = .ok (.slice a k c) w' := by
  obtain ⟨i0, hi0, _, hz1, _⟩ := info_parts info5
  have hl := h.len
  rcases h.1.2 with ⟨e, e'⟩ | ⟨g, cap, cur, e, hbg, hg, hnc, hcm, hcs, htake⟩
  · cases e
    obtain rfl : k = 0 := by omega
    refine ⟨⟨⟨by simp, Or.inl ⟨rfl, rfl⟩⟩, h.2.take 0⟩, fun w' => ?_⟩
    simp [Instr.slice, Instr.sliceBounds, Instr.sliceBound, asIntOf, run_underlying Try.underlying22, sizeOf, typeInfo, hi0, go_sem]
  · cases e
    have hkc : k ≤ c := by omega
    refine ⟨⟨⟨by simp [hl]; omega, Or.inr ⟨g, c, cur, rfl, hbg, hg, hkc, hcm, hcs, ?_⟩⟩, h.2.take k⟩, fun w' => ?_⟩
    · rw [Nat.mul_one] at htake ⊢
      rw [List.map_take, ← htake, List.take_take, Nat.min_eq_left hk]
    · simp [Instr.slice, Instr.sliceBounds, Instr.sliceBound, asIntOf, run_underlying Try.underlying22, sizeOf, typeInfo, hi0, hkc, Addr.add, go_sem]
theorem flat_take16 {l : List Sec} (h : ∀ x ∈ l, x.length = 16) : ∀ n, (l.take n).flatten = l.flatten.take (16 * n) := by
  induction l with
  | nil => intro n; simp
  | cons x r ih =>
    intro n
    cases n with
    | zero => simp
    | succ n =>
      have hx := h x (by simp)
      rw [List.take_succ_cons, List.flatten_cons, List.flatten_cons, ih (fun y hy => h y (by simp [hy])) n, List.take_append, hx, List.take_of_length_le (l := x) (by omega), show 16 * (n + 1) - 16 = 16 * n by omega]
/-- A row of the file cut short. -/
theorem cut_row {w : World} {a : Option Addr} {c : Nat} {l : List Sec} (h16 : ∀ x ∈ l, x.length = 16) (h : Own w 0 (.slice a (16 * l.length) c) (16 * l.length) l.flatten) (n : Nat) :
    Own w 0 (.slice a (16 * (l.take n).length) c) (16 * (l.take n).length) (l.take n).flatten ∧ ∀ w' : World, (Instr.slice 22 (.slice a (16 * l.length) c) none (some (.int .i64 ((16 * (l.take n).length : Nat) : Int))) none).run Try.prog w' = .ok (.slice a (16 * (l.take n).length) c) w' := by
  have hle : 16 * (l.take n).length ≤ 16 * l.length := by rw [List.length_take]; omega
  have h1 := own_front h hle
  have e : (l.take n).flatten = l.flatten.take (16 * (l.take n).length) := by
    rw [← flat_take16 h16, List.length_take]
    by_cases hn : n ≤ l.length
    · rw [Nat.min_eq_left hn]
    · rw [Nat.min_eq_right (by omega), List.take_of_length_le (by omega), List.take_of_length_le (Nat.le_refl _)]
  rw [e]
  exact h1
theorem obl (a : Option Addr) (n m c : Nat) : (Value.slice a n c).ownBlock = (Value.slice a m c).ownBlock := by cases a <;> rfl
/-- DeleteFunc of whatever records. -/
theorem delete_both {w : World} {aw : Option Addr} {cw NW q : Nat} {L : List RC} (hown : OwnG recV 77 18 w 0 (.slice aw NW cw) NW L) (hn : NW ≤ 3000000) (N : Nat) (hq : w.cell? ⟨q, 0, none⟩ = some (.int .i64 N)) (hqb : q < w.heap.size) (hne : ∀ k, (Value.slice aw NW cw).ownBlock = some k → k ≠ q) :
    Calls Try.prog 58 #[.slice aw NW cw, .func (.func 59) #[] #[.pointer (some ⟨q, 0, none⟩)]] w fun e w' =>
      ∃ v', e = .returned v' ∧ OwnG recV 77 18 w' 0 v' (L.filter (keepR N)).length (L.filter (keepR N)) ∧ w.grownBy w' (Value.slice aw NW cw).ownBlock ∧ v'.ownBlock = (Value.slice aw NW cw).ownBlock := by
  have hown2 := hown
  rcases hown.1.2 with ⟨e, e'⟩ | ⟨g, cap, cur, e, hbg, hg, hnc, hcm, hcs, htake⟩
  · cases e
    obtain rfl : L = [] := List.eq_nil_of_length_eq_zero hown.2.1
    refine (deletef_none (w := w) _).mono ?_
    rintro e w' ⟨rfl, rfl⟩
    exact ⟨_, rfl, hown2, World.grownBy.refl _ _, rfl⟩
  · cases e
    refine (deletef_any hown2 hn N hq hqb (fun e => hne g rfl e.symm)).mono ?_
    rintro e w' ⟨m, rfl, h1, h2⟩
    have hm : (L.filter (keepR N)).length = m := h1.2.1
    rw [hm]
    exact ⟨_, rfl, h1, h2, rfl⟩
set_option maxHeartbeats 1600000 in
set_option maxRecDepth 100000 in
theorem fcut_any {w : World} {f : FR} (h : FileAt w f) (n : Nat) (hn : n ≤ f.now.length) :
    Calls Try.prog 41 #[.pointer (some ⟨f.G, 0, none⟩), .int .i64 n] w fun e w' => e = .returned (.tuple #[]) ∧ ∃ S', FileAt w' ⟨f.name, f.G, S', f.now.take n, f.dur.take n, f.wr.filter fun r => !decide (n ≤ r.2.1)⟩ ∧ Away f.S w S' w' := by
  obtain ⟨vn, vd, vw, h⟩ := h
  obtain ⟨an, cn, rfl, _, _⟩ := h.now.shape
  obtain ⟨ad, cd, rfl, _, _⟩ := h.dur.shape
  obtain ⟨aw, cw, rfl, _, hnw, _⟩ := h.wr.shape rec_rowed
  obtain ⟨on, sn⟩ := cut_row h.ok.now16 h.now n
  obtain ⟨od, sd⟩ := cut_row h.ok.dur16 h.dur n
  have hnl := h.ok.now
  have hdl := h.ok.dur
  have hwl := h.ok.wrs
  have hE : ((16 * (f.now.take n).length : Nat) : Int) = (n : Int) * 16 := by rw [List.length_take, Nat.min_eq_left hn]; omega
  have hD : 16 * (f.dur.take n).length = min (16 * n) (16 * f.dur.length) := by rw [List.length_take]; omega
  obtain ⟨N1, hN1⟩ := named (16 * (f.now.take n).length)
  obtain ⟨N2, hN2⟩ := named (16 * (f.dur.take n).length)
  obtain ⟨NN, hNN⟩ := named (16 * f.now.length)
  obtain ⟨ND, hND⟩ := named (16 * f.dur.length)
  obtain ⟨NW, hNW⟩ := named f.wr.length
  rw [hN1.out] at on sn hE
  rw [hN2.out] at od sd hD
  rw [hNN.out] at sn
  rw [hND.out] at sd hD
  obtain ⟨G, hG⟩ := named f.G
  obtain ⟨q, hq⟩ := named w.heap.size
  have hqq := hq.out
  have hb := h.blk
  rw [hNN.out, hND.out, hNW.out, hG.out] at hb
  rw [hG.out]
  have hGq : G < q := by have := hb.lt; omega
  have e1 : IntKind.i64.wrap ((n : Int) * 16) = N1 := by rw [IntKind.wrap_i64]; omega
  have e2 : (n : Int) * 16 = N1 := hE.symm
  have hNB : N1 ≤ 1048576 := by omega
  have hN2c : (N1 ≤ ND ∧ N2 = N1) ∨ (ND < N1 ∧ N2 = ND) := by omega
  have c1 : w.cell? ⟨G, 1, none⟩ = some (.slice an NN cn) := by rw [hb.cell]; rfl
  have f1 := hb.free 1
  have c2 : w.cell? ⟨G, 2, none⟩ = some (.slice ad ND cd) := by rw [hb.cell]; rfl
  have f2 := hb.free 2
  have c3 : w.cell? ⟨G, 3, none⟩ = some (.slice aw NW cw) := by rw [hb.cell]; rfl
  have f3 := hb.free 3
  have HB := Lib.hid hb
  have H := Lib.hid h
  have ON := Lib.hid on
  have OD := Lib.hid od
  have HQ := hq
  clear hb h on od hE hD hnl hdl
  rcases hN2c with ⟨hcc, rfl⟩ | ⟨hcc, rfl⟩
  · have hGB := H.out.blk
    have hW3 : ∀ k, k ≠ G → k < q → ((((w.setCell ⟨G, 1, none⟩ (.slice an N2 cn)).setCell ⟨G, 2, none⟩ (.slice ad N2 cd)).alloc (.cells #[.int .i64 n] 3)).drew).heap[k]? = w.heap[k]? := fun k hk hkq => by
      have h1 : ((w.setCell ⟨G, 1, none⟩ (.slice an N2 cn)).setCell ⟨G, 2, none⟩ (.slice ad N2 cd)).heap.size = q := by rw [World.size_setCell, World.size_setCell]; exact HQ.out
      show (((w.setCell ⟨G, 1, none⟩ (.slice an N2 cn)).setCell ⟨G, 2, none⟩ (.slice ad N2 cd)).alloc (.cells #[.int .i64 n] 3)).heap[k]? = _
      rw [Below.heap_alloc _ _ k (by rw [h1]; exact hkq)]
      exact (Below.heap_setCell _ ⟨G, 2, none⟩ _ k hk).trans (Below.heap_setCell _ ⟨G, 1, none⟩ _ k hk)
    have hqb : q < ((((w.setCell ⟨G, 1, none⟩ (.slice an N2 cn)).setCell ⟨G, 2, none⟩ (.slice ad N2 cd)).alloc (.cells #[.int .i64 n] 3)).drew).heap.size := by
      show q < (((w.setCell ⟨G, 1, none⟩ (.slice an N2 cn)).setCell ⟨G, 2, none⟩ (.slice ad N2 cd)).alloc (.cells #[.int .i64 n] 3)).heap.size
      rw [World.size_alloc, World.size_setCell, World.size_setCell, HQ.out]
      omega
    have hqc : ((((w.setCell ⟨G, 1, none⟩ (.slice an N2 cn)).setCell ⟨G, 2, none⟩ (.slice ad N2 cd)).alloc (.cells #[.int .i64 n] 3)).drew).cell? ⟨q, 0, none⟩ = some (.int .i64 n) := by
      have hB := Blk.new ((w.setCell ⟨G, 1, none⟩ (.slice an N2 cn)).setCell ⟨G, 2, none⟩ (.slice ad N2 cd)) 3 #[.int .i64 n]
      have h1 : ((w.setCell ⟨G, 1, none⟩ (.slice an N2 cn)).setCell ⟨G, 2, none⟩ (.slice ad N2 cd)).heap.size = q := by rw [World.size_setCell, World.size_setCell]; exact HQ.out
      rw [h1] at hB
      exact hB.cell 0
    have hB3 : Blk ((((w.setCell ⟨G, 1, none⟩ (.slice an N2 cn)).setCell ⟨G, 2, none⟩ (.slice ad N2 cd)).alloc (.cells #[.int .i64 n] 3)).drew) G 65 #[.string f.name, .slice an N2 cn, .slice ad N2 cd, .slice aw NW cw] := ((HB.out.set 1 (.slice an N2 cn)).set 2 (.slice ad N2 cd)).alloc _
    have hGw : ∀ k, (Value.slice aw NW cw).ownBlock = some k → k ≠ G ∧ k < q := fun k hk => by
      have h1 := (H.out.wr.1.lt k (by rw [hNW.out]; exact hk)).2
      rw [HQ.out] at h1
      refine ⟨fun e => ?_, h1⟩
      have h2 := hGB.not_row (by decide) H.out.wr
      rw [hNW.out] at h2
      exact h2 (by rw [hk, hG.out, e])
    have how : OwnG recV 77 18 ((((w.setCell ⟨G, 1, none⟩ (.slice an N2 cn)).setCell ⟨G, 2, none⟩ (.slice ad N2 cd)).alloc (.cells #[.int .i64 n] 3)).drew) 0 (.slice aw NW cw) NW f.wr := by
      have h1 := H.out.wr
      rw [hNW.out] at h1
      exact h1.frame fun k hk => hW3 k (hGw k hk).1 (hGw k hk).2
    have HDF := Lib.hid (delete_both how (by have := hNW.out; omega) n hqc hqb (fun k hk e => by have := (hGw k hk).2; omega))
    have HB3 := Lib.hid hB3
    have HW3 := Lib.hid hW3
    have HGW := Lib.hid hGw
    clear hGB hqb hqc hB3 how hW3 hGw
    go_enter Try.func41, Try.ntmps41
    go_wp2_with fail
    go_region
    go_wp2_with (go_at_call 58; (with_reducible refine HDF.out.mono ?_); rintro e w4 ⟨v', rfl, g1, g2, g3⟩; obtain ⟨a5, c5, rfl, _⟩ := g1.shape rec_rowed; have hB4 := HB3.out.kept g2 (fun e => (HGW.out G e.symm).1 rfl); have k3 : w4.cell? ⟨G, 3, none⟩ = some (.slice aw NW cw) := (by rw [hB4.cell]; rfl); have k4 := hB4.free 3; have HB4 := Lib.hid hB4; have G1 := Lib.hid g1; have G2 := Lib.hid g2; have G3 := Lib.hid g3; clear hB4 g1 g2 g3)
    go_end0
    have hw4 : ∀ k, k ≠ G → k < q → (Value.slice aw NW cw).ownBlock ≠ some k → (w4.setCell ⟨G, 3, none⟩ (.slice a5 (f.wr.filter (keepR n)).length c5)).heap[k]? = w.heap[k]? := fun k hk hkq hne =>
      (Below.heap_setCell _ ⟨G, 3, none⟩ _ k hk).trans ((G2.out.block k (Nat.lt_of_lt_of_le hkq (Nat.le_of_lt (by
        show q < (((w.setCell ⟨G, 1, none⟩ (.slice an N2 cn)).setCell ⟨G, 2, none⟩ (.slice ad N2 cd)).alloc (.cells #[.int .i64 n] 3)).heap.size
        rw [World.size_alloc, World.size_setCell, World.size_setCell, HQ.out]
        omega))) (fun e => hne e.symm)).trans (HW3.out k hk hkq))
    have h := H.out
    have hWo : ∀ k, (Value.slice aw f.wr.length cw).ownBlock = some k ↔ (Value.slice aw NW cw).ownBlock = some k := fun k => by rw [hNW.out]
    have hA : Away f.S w f.S (w4.setCell ⟨G, 3, none⟩ (.slice a5 (f.wr.filter (keepR n)).length c5)) := by
      have s1 : Away f.S w f.S (w.setCell ⟨G, 1, none⟩ (.slice an N2 cn)) := by rw [← hG.out]; exact (Away.refl f.S w).set h.sG 1 _
      have s2 : Away f.S w f.S ((w.setCell ⟨G, 1, none⟩ (.slice an N2 cn)).setCell ⟨G, 2, none⟩ (.slice ad N2 cd)) := by rw [← hG.out] at s1 ⊢; exact s1.set h.sG 2 _
      have s3 : Away f.S w f.S ((((w.setCell ⟨G, 1, none⟩ (.slice an N2 cn)).setCell ⟨G, 2, none⟩ (.slice ad N2 cd)).alloc (.cells #[.int .i64 n] 3)).drew) := (s2.later ((Below.refl _ _).alloc (Nat.le_refl _) _)).later (Below.refl _ _).drew
      have s4 := s3.grown G2.out (fun k e => Or.inl (h.sW ((hWo k).2 e)))
      have := s4.set h.sG 3 (.slice a5 (f.wr.filter (keepR n)).length c5)
      rwa [hG.out] at this
    have hBl : Blk (w4.setCell ⟨G, 3, none⟩ (.slice a5 (f.wr.filter (keepR n)).length c5)) f.G 65 #[.string f.name, .slice an N2 cn, .slice ad N2 cd, (.slice a5 (f.wr.filter (keepR n)).length c5)] := by rw [hG.out]; exact HB4.out.set 3 (.slice a5 (f.wr.filter (keepR n)).length c5)
    have hnG : ∀ k, (Value.slice an (16 * f.now.length) cn).ownBlock = some k → k ≠ G ∧ k < q ∧ (Value.slice aw NW cw).ownBlock ≠ some k := fun k hk => by
      refine ⟨fun e => h.blk.not_own (by decide) h.now (by rw [hG.out, ← e]; exact hk), by have := h.now.lt (k := k) hk; rwa [HQ.out] at this, fun e => h.wr.not_own (by decide) h.now (k := k) hk ((hWo k).2 e)⟩
    have hdG : ∀ k, (Value.slice ad (16 * f.dur.length) cd).ownBlock = some k → k ≠ G ∧ k < q ∧ (Value.slice aw NW cw).ownBlock ≠ some k := fun k hk => by
      refine ⟨fun e => h.blk.not_own (by decide) h.dur (by rw [hG.out, ← e]; exact hk), by have := h.dur.lt (k := k) hk; rwa [HQ.out] at this, fun e => h.wr.not_own (by decide) h.dur (k := k) hk ((hWo k).2 e)⟩
    have hfin : ∃ S', FileAt (w4.setCell ⟨G, 3, none⟩ (.slice a5 (f.wr.filter (keepR n)).length c5)) ⟨f.name, f.G, S', f.now.take n, f.dur.take n, f.wr.filter (keepR n)⟩ ∧ Away f.S w S' (w4.setCell ⟨G, 3, none⟩ (.slice a5 (f.wr.filter (keepR n)).length c5)) := by
      refine at_of_in (h.done (f.now.take n) (f.dur.take n) (f.wr.filter (keepR n)) (.slice an N2 cn) (.slice ad N2 cd) (.slice a5 (f.wr.filter (keepR n)).length c5) hA ⟨?_, ?_, ?_, ?_, ?_, ?_⟩ hBl ?_ ?_ ?_ (fun k hk e => h.apart k ((obl _ _ _ _).trans hk) ((obl _ _ _ _).trans e)) (fun k hk => Or.inl (h.sN ((obl _ _ _ _).trans hk))) (fun k hk => Or.inl (h.sD ((obl _ _ _ _).trans hk))) (fun k hk => Or.inl (h.sW ((hWo k).2 (G3.out ▸ hk)))))
      · show (f.now.take n).length ≤ 65536
        rw [List.length_take]; have := h.ok.now; omega
      · show (f.dur.take n).length ≤ 65536
        rw [List.length_take]; have := h.ok.dur; omega
      · exact fun x hx => h.ok.now16 x (List.mem_of_mem_take hx)
      · exact fun x hx => h.ok.dur16 x (List.mem_of_mem_take hx)
      · exact fun r hr => h.ok.wr r (List.mem_filter.1 hr).1
      · exact Nat.le_trans (List.length_filter_le _ _) h.ok.wrs
      · have := ON.out.frame (w' := w4.setCell ⟨G, 3, none⟩ (.slice a5 (f.wr.filter (keepR n)).length c5)) fun k hk => (fun hk' => hw4 k (hnG k hk').1 (hnG k hk').2.1 (hnG k hk').2.2) ((obl _ _ _ _).trans hk)
        rwa [← hN1.out] at this ⊢
      · have := OD.out.frame (w' := w4.setCell ⟨G, 3, none⟩ (.slice a5 (f.wr.filter (keepR n)).length c5)) fun k hk => (fun hk' => hw4 k (hdG k hk').1 (hdG k hk').2.1 (hdG k hk').2.2) ((obl _ _ _ _).trans hk)
        rwa [← hN2.out] at this ⊢
      · exact G1.out.frame fun k hk => Below.heap_setCell _ ⟨G, 3, none⟩ _ k (fun e => (HGW.out k (G3.out ▸ hk)).1 e)
    obtain ⟨S', k1, k2⟩ := hfin
    rw [hG.out] at k1
    exact ⟨rfl, S', k1, k2⟩
  · have hGB := H.out.blk
    have hW3 : ∀ k, k ≠ G → k < q → ((((w.setCell ⟨G, 1, none⟩ (.slice an N1 cn)).setCell ⟨G, 2, none⟩ (.slice ad N2 cd)).alloc (.cells #[.int .i64 n] 3)).drew).heap[k]? = w.heap[k]? := fun k hk hkq => by
      have h1 : ((w.setCell ⟨G, 1, none⟩ (.slice an N1 cn)).setCell ⟨G, 2, none⟩ (.slice ad N2 cd)).heap.size = q := by rw [World.size_setCell, World.size_setCell]; exact HQ.out
      show (((w.setCell ⟨G, 1, none⟩ (.slice an N1 cn)).setCell ⟨G, 2, none⟩ (.slice ad N2 cd)).alloc (.cells #[.int .i64 n] 3)).heap[k]? = _
      rw [Below.heap_alloc _ _ k (by rw [h1]; exact hkq)]
      exact (Below.heap_setCell _ ⟨G, 2, none⟩ _ k hk).trans (Below.heap_setCell _ ⟨G, 1, none⟩ _ k hk)
    have hqb : q < ((((w.setCell ⟨G, 1, none⟩ (.slice an N1 cn)).setCell ⟨G, 2, none⟩ (.slice ad N2 cd)).alloc (.cells #[.int .i64 n] 3)).drew).heap.size := by
      show q < (((w.setCell ⟨G, 1, none⟩ (.slice an N1 cn)).setCell ⟨G, 2, none⟩ (.slice ad N2 cd)).alloc (.cells #[.int .i64 n] 3)).heap.size
      rw [World.size_alloc, World.size_setCell, World.size_setCell, HQ.out]
      omega
    have hqc : ((((w.setCell ⟨G, 1, none⟩ (.slice an N1 cn)).setCell ⟨G, 2, none⟩ (.slice ad N2 cd)).alloc (.cells #[.int .i64 n] 3)).drew).cell? ⟨q, 0, none⟩ = some (.int .i64 n) := by
      have hB := Blk.new ((w.setCell ⟨G, 1, none⟩ (.slice an N1 cn)).setCell ⟨G, 2, none⟩ (.slice ad N2 cd)) 3 #[.int .i64 n]
      have h1 : ((w.setCell ⟨G, 1, none⟩ (.slice an N1 cn)).setCell ⟨G, 2, none⟩ (.slice ad N2 cd)).heap.size = q := by rw [World.size_setCell, World.size_setCell]; exact HQ.out
      rw [h1] at hB
      exact hB.cell 0
    have hB3 : Blk ((((w.setCell ⟨G, 1, none⟩ (.slice an N1 cn)).setCell ⟨G, 2, none⟩ (.slice ad N2 cd)).alloc (.cells #[.int .i64 n] 3)).drew) G 65 #[.string f.name, .slice an N1 cn, .slice ad N2 cd, .slice aw NW cw] := ((HB.out.set 1 (.slice an N1 cn)).set 2 (.slice ad N2 cd)).alloc _
    have hGw : ∀ k, (Value.slice aw NW cw).ownBlock = some k → k ≠ G ∧ k < q := fun k hk => by
      have h1 := (H.out.wr.1.lt k (by rw [hNW.out]; exact hk)).2
      rw [HQ.out] at h1
      refine ⟨fun e => ?_, h1⟩
      have h2 := hGB.not_row (by decide) H.out.wr
      rw [hNW.out] at h2
      exact h2 (by rw [hk, hG.out, e])
    have how : OwnG recV 77 18 ((((w.setCell ⟨G, 1, none⟩ (.slice an N1 cn)).setCell ⟨G, 2, none⟩ (.slice ad N2 cd)).alloc (.cells #[.int .i64 n] 3)).drew) 0 (.slice aw NW cw) NW f.wr := by
      have h1 := H.out.wr
      rw [hNW.out] at h1
      exact h1.frame fun k hk => hW3 k (hGw k hk).1 (hGw k hk).2
    have HDF := Lib.hid (delete_both how (by have := hNW.out; omega) n hqc hqb (fun k hk e => by have := (hGw k hk).2; omega))
    have HB3 := Lib.hid hB3
    have HW3 := Lib.hid hW3
    have HGW := Lib.hid hGw
    clear hGB hqb hqc hB3 how hW3 hGw
    go_enter Try.func41, Try.ntmps41
    go_wp2_with fail
    go_region
    go_wp2_with (go_at_call 58; (with_reducible refine HDF.out.mono ?_); rintro e w4 ⟨v', rfl, g1, g2, g3⟩; obtain ⟨a5, c5, rfl, _⟩ := g1.shape rec_rowed; have hB4 := HB3.out.kept g2 (fun e => (HGW.out G e.symm).1 rfl); have k3 : w4.cell? ⟨G, 3, none⟩ = some (.slice aw NW cw) := (by rw [hB4.cell]; rfl); have k4 := hB4.free 3; have HB4 := Lib.hid hB4; have G1 := Lib.hid g1; have G2 := Lib.hid g2; have G3 := Lib.hid g3; clear hB4 g1 g2 g3)
    go_end0
    have hw4 : ∀ k, k ≠ G → k < q → (Value.slice aw NW cw).ownBlock ≠ some k → (w4.setCell ⟨G, 3, none⟩ (.slice a5 (f.wr.filter (keepR n)).length c5)).heap[k]? = w.heap[k]? := fun k hk hkq hne =>
      (Below.heap_setCell _ ⟨G, 3, none⟩ _ k hk).trans ((G2.out.block k (Nat.lt_of_lt_of_le hkq (Nat.le_of_lt (by
        show q < (((w.setCell ⟨G, 1, none⟩ (.slice an N1 cn)).setCell ⟨G, 2, none⟩ (.slice ad N2 cd)).alloc (.cells #[.int .i64 n] 3)).heap.size
        rw [World.size_alloc, World.size_setCell, World.size_setCell, HQ.out]
        omega))) (fun e => hne e.symm)).trans (HW3.out k hk hkq))
    have h := H.out
    have hWo : ∀ k, (Value.slice aw f.wr.length cw).ownBlock = some k ↔ (Value.slice aw NW cw).ownBlock = some k := fun k => by rw [hNW.out]
    have hA : Away f.S w f.S (w4.setCell ⟨G, 3, none⟩ (.slice a5 (f.wr.filter (keepR n)).length c5)) := by
      have s1 : Away f.S w f.S (w.setCell ⟨G, 1, none⟩ (.slice an N1 cn)) := by rw [← hG.out]; exact (Away.refl f.S w).set h.sG 1 _
      have s2 : Away f.S w f.S ((w.setCell ⟨G, 1, none⟩ (.slice an N1 cn)).setCell ⟨G, 2, none⟩ (.slice ad N2 cd)) := by rw [← hG.out] at s1 ⊢; exact s1.set h.sG 2 _
      have s3 : Away f.S w f.S ((((w.setCell ⟨G, 1, none⟩ (.slice an N1 cn)).setCell ⟨G, 2, none⟩ (.slice ad N2 cd)).alloc (.cells #[.int .i64 n] 3)).drew) := (s2.later ((Below.refl _ _).alloc (Nat.le_refl _) _)).later (Below.refl _ _).drew
      have s4 := s3.grown G2.out (fun k e => Or.inl (h.sW ((hWo k).2 e)))
      have := s4.set h.sG 3 (.slice a5 (f.wr.filter (keepR n)).length c5)
      rwa [hG.out] at this
    have hBl : Blk (w4.setCell ⟨G, 3, none⟩ (.slice a5 (f.wr.filter (keepR n)).length c5)) f.G 65 #[.string f.name, .slice an N1 cn, .slice ad N2 cd, (.slice a5 (f.wr.filter (keepR n)).length c5)] := by rw [hG.out]; exact HB4.out.set 3 (.slice a5 (f.wr.filter (keepR n)).length c5)
    have hnG : ∀ k, (Value.slice an (16 * f.now.length) cn).ownBlock = some k → k ≠ G ∧ k < q ∧ (Value.slice aw NW cw).ownBlock ≠ some k := fun k hk => by
      refine ⟨fun e => h.blk.not_own (by decide) h.now (by rw [hG.out, ← e]; exact hk), by have := h.now.lt (k := k) hk; rwa [HQ.out] at this, fun e => h.wr.not_own (by decide) h.now (k := k) hk ((hWo k).2 e)⟩
    have hdG : ∀ k, (Value.slice ad (16 * f.dur.length) cd).ownBlock = some k → k ≠ G ∧ k < q ∧ (Value.slice aw NW cw).ownBlock ≠ some k := fun k hk => by
      refine ⟨fun e => h.blk.not_own (by decide) h.dur (by rw [hG.out, ← e]; exact hk), by have := h.dur.lt (k := k) hk; rwa [HQ.out] at this, fun e => h.wr.not_own (by decide) h.dur (k := k) hk ((hWo k).2 e)⟩
    have hfin : ∃ S', FileAt (w4.setCell ⟨G, 3, none⟩ (.slice a5 (f.wr.filter (keepR n)).length c5)) ⟨f.name, f.G, S', f.now.take n, f.dur.take n, f.wr.filter (keepR n)⟩ ∧ Away f.S w S' (w4.setCell ⟨G, 3, none⟩ (.slice a5 (f.wr.filter (keepR n)).length c5)) := by
      refine at_of_in (h.done (f.now.take n) (f.dur.take n) (f.wr.filter (keepR n)) (.slice an N1 cn) (.slice ad N2 cd) (.slice a5 (f.wr.filter (keepR n)).length c5) hA ⟨?_, ?_, ?_, ?_, ?_, ?_⟩ hBl ?_ ?_ ?_ (fun k hk e => h.apart k ((obl _ _ _ _).trans hk) ((obl _ _ _ _).trans e)) (fun k hk => Or.inl (h.sN ((obl _ _ _ _).trans hk))) (fun k hk => Or.inl (h.sD ((obl _ _ _ _).trans hk))) (fun k hk => Or.inl (h.sW ((hWo k).2 (G3.out ▸ hk)))))
      · show (f.now.take n).length ≤ 65536
        rw [List.length_take]; have := h.ok.now; omega
      · show (f.dur.take n).length ≤ 65536
        rw [List.length_take]; have := h.ok.dur; omega
      · exact fun x hx => h.ok.now16 x (List.mem_of_mem_take hx)
      · exact fun x hx => h.ok.dur16 x (List.mem_of_mem_take hx)
      · exact fun r hr => h.ok.wr r (List.mem_filter.1 hr).1
      · exact Nat.le_trans (List.length_filter_le _ _) h.ok.wrs
      · have := ON.out.frame (w' := w4.setCell ⟨G, 3, none⟩ (.slice a5 (f.wr.filter (keepR n)).length c5)) fun k hk => (fun hk' => hw4 k (hnG k hk').1 (hnG k hk').2.1 (hnG k hk').2.2) ((obl _ _ _ _).trans hk)
        rwa [← hN1.out] at this ⊢
      · have := OD.out.frame (w' := w4.setCell ⟨G, 3, none⟩ (.slice a5 (f.wr.filter (keepR n)).length c5)) fun k hk => (fun hk' => hw4 k (hdG k hk').1 (hdG k hk').2.1 (hdG k hk').2.2) ((obl _ _ _ _).trans hk)
        rwa [← hN2.out] at this ⊢
      · exact G1.out.frame fun k hk => Below.heap_setCell _ ⟨G, 3, none⟩ _ k (fun e => (HGW.out k (G3.out ▸ hk)).1 e)
    obtain ⟨S', k1, k2⟩ := hfin
    rw [hG.out] at k1
    exact ⟨rfl, S', k1, k2⟩
theorem diskCut_any {w0 w : World} {p : Addr} {D D' : Dsk} {S : Nat → Prop} (h : Has w0 p D w S) (s : Nm) (n : Int) (h1 : -9223372036854775808 ≤ n ∧ n ≤ 9223372036854775807) (E : Int) (he : D.cut s n = (E, D')) :
    Calls Try.prog 22 #[.pointer (some p), .string s, .int .i64 n] w (Gives w0 p D' (.int .i64 E) S w) := by
  obtain ⟨B, room, vF, L, cnt, fails, dead, rfl, rfl, hd, hr⟩ := h.open'
  unfold Dsk.cut at he
  have HD := Lib.hid hd
  have HR := Lib.hid hr
  have HH := Lib.hid h
  clear hd hr h
  cases dead with
  | true =>
    rw [if_pos (show D.dead = true from HR.out.deadEq)] at he
    cases he
    go_enter Try.func22, Try.ntmps22
    go_wp2_with (go_at_call 30; refine (open_dead HD.out s).mono ?_; rintro e w' ⟨rfl, rfl⟩)
    go_ret
    exact HH.out.close' HD.out HR.out (Away.refl _ _) _
  | false =>
    rw [if_neg (by rw [HR.out.deadEq]; simp)] at he
    cases hg : fget D.files s with
    | none =>
      rw [hg] at he
      cases he
      have HN := Lib.hid (HR.out.none.1 hg)
      clear hg
      go_enter Try.func22, Try.ntmps22
      go_wp2_with (go_at_call 30; refine (open_none HD.out HR.out.rise HR.out.many s HN.out).mono ?_; rintro e w' ⟨rfl, rfl⟩)
      go_ret
      exact HH.out.close' HD.out HR.out (Away.refl _ _) _
    | some v =>
      rw [hg] at he
      obtain ⟨f, hf, rfl, rfl⟩ := HR.out.there hg
      have HF := Lib.hid hf
      have HSZ := Lib.hid (fileIn_size (HD.out.file f hf))
      dsimp only at he
      by_cases hr : n < 0 ∨ (f.now.length : Int) < n
      · rw [if_pos hr] at he
        cases he
        clear hg hf
        rcases hr with hr | hr
        · go_enter Try.func22, Try.ntmps22
          go_wp2_with (first | (go_at_call 30; refine (open_some HD.out HR.out.rise HR.out.many HF.out).mono ?_; rintro e w' ⟨rfl, rfl⟩) | (go_at_call 31; refine HSZ.out.mono ?_; rintro e w' ⟨rfl, rfl⟩))
          go_ret
          exact HH.out.close' HD.out HR.out (Away.refl _ _) _
        · have hn0 : ¬ n < 0 := by omega
          go_enter Try.func22, Try.ntmps22
          go_wp2_with (first | (go_at_call 30; refine (open_some HD.out HR.out.rise HR.out.many HF.out).mono ?_; rintro e w' ⟨rfl, rfl⟩) | (go_at_call 31; refine HSZ.out.mono ?_; rintro e w' ⟨rfl, rfl⟩))
          go_ret
          exact HH.out.close' HD.out HR.out (Away.refl _ _) _
      · rw [if_neg hr] at he
        obtain ⟨m, rfl⟩ : ∃ m : Nat, n = m := ⟨n.toNat, by omega⟩
        have hml : m ≤ f.now.length := by omega
        rw [Int.toNat_natCast] at he
        cases he
        obtain ⟨L1, L2, rfl⟩ := mid_of hf
        have HML := Lib.hid hml
        clear hg hf
        go_enter Try.func22, Try.ntmps22
        go_wp2_with (first | (go_at_call 30; refine (open_some HD.out HR.out.rise HR.out.many HF.out).mono ?_; rintro e w' ⟨rfl, rfl⟩) | (go_at_call 31; refine HSZ.out.mono ?_; rintro e w' ⟨rfl, rfl⟩) | (go_at_call 41; refine (fcut_any (HD.out.file f HF.out) m HML.out).mono ?_; rintro e w2 ⟨rfl, S2, hF2, hA2⟩))
        go_ret
        obtain ⟨q1, q2⟩ := disk_step (f' := ⟨f.name, f.G, S2, f.now.take m, f.dur.take m, f.wr.filter fun r => !decide (m ≤ r.2.1)⟩) HD.out hA2 hF2 rfl
        exact HH.out.close' q1 (HR.out.cut m HML.out rfl rfl rfl rfl) q2 _
end Go.Proofs.Ytnhaidofblfopaa
