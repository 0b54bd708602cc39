/-
  The sort of the writes that are not kept: the row holds them by their numbers (package disk). Conditions: none.
-/
import Derived.Test.YtnhaidofblfopaaN5
namespace Go.Proofs.Ytnhaidofblfopaa
open Go.RowKit Go.Shelf

theorem cf_lt (x y : PW) : ltOf cfN x y = decide (x.2.1 < y.2.1) := by
  unfold ltOf cfN
  by_cases h1 : x.2.1 < y.2.1
  · simp [h1]
  · by_cases h2 : y.2.1 < x.2.1 <;> simp [h1, h2]
theorem cf_swo : Sort.SWO (ltOf cfN) where
  irrefl := fun (x : PW) => by rw [cf_lt]; simp
  trans := fun (x y z : PW) h1 h2 => by rw [cf_lt] at *; simp at *; omega
  ntrans := fun (x y z : PW) h1 h2 => by rw [cf_lt] at *; simp at *; omega
theorem flatK_at (d : Array PW) (t : Nat) (h : t < d.size * 19) : (d.toList.flatMap pV)[t]? = some (Sort.flatK pV 19 d)[t]! := by
  rw [Sort.get_flatK _ _ _ _ h]
  have hi : t / 19 < d.size := by omega
  have h1 : d.toList[t / 19]? = some d[t / 19]! := by
    rw [getElem!_pos d (t / 19) hi, Array.getElem?_toList, Array.getElem?_eq_getElem hi]
  have h2 := flat_at pV_len d.toList (t / 19) (t % 19) d[t / 19]! h1 (by omega)
  rw [show t / 19 * 19 + t % 19 = t by omega] at h2
  rw [h2]
  have hl : t % 19 < (pV d[t / 19]!).length := by rw [pV_len]; omega
  rw [List.getElem?_eq_getElem hl, getElem!_pos (pV d[t / 19]!) (t % 19) hl]
theorem flatK_list (d : Array PW) : (Sort.flatK pV 19 d).toList = d.toList.flatMap pV := by
  apply List.ext_getElem?
  intro t
  by_cases h : t < d.size * 19
  · rw [flatK_at d t h, Array.getElem?_toList, getElem!_pos _ _ (by rw [Sort.size_flatK]; exact h), Array.getElem?_eq_getElem (by rw [Sort.size_flatK]; exact h)]
  · rw [List.getElem?_eq_none (by rw [Array.length_toList, Sort.size_flatK]; omega), List.getElem?_eq_none (by rw [flat_len pV_len, Array.length_toList]; omega)]
theorem sortWorld_heap (w : World) (blk n : Nat) (d : Array PW) (os : Array Obj) (k : Nat) (hk : k < w.heap.size) :
    (sortWorldK pV 19 w blk 0 n d os).heap[k]? = if blk = k then (w.heap[k]?).map (Sort.onCells (Sort.putCells id 0 (Sort.flatK pV 19 d))) else w.heap[k]? := by
  show ((w.heap.modify blk _) ++ os)[k]? = _
  rw [Array.getElem?_append_left (by rw [Array.size_modify]; exact hk), Array.getElem?_modify]
theorem sort_any (w : World) (base b n c : Nat) (l : List PW) (hown : OwnG pV 79 19 w base (.slice (some ⟨b, 0, none⟩) n c) n l) :
    Calls Try.prog 54 #[.slice (some ⟨b, 0, none⟩) n c, .func (.func 55) #[] #[]] w fun e w' =>
      e = .returned (.tuple #[]) ∧ ∃ l', l'.Perm l ∧ l'.Pairwise (fun x y => x.2.1 ≤ y.2.1) ∧ OwnG pV 79 19 w' base (.slice (some ⟨b, 0, none⟩) n c) n l' ∧ w.grownBy w' (some b) := by
  have eg : ∀ args w, (callFunc 55 args).run Try.prog w = .ok (.enter 55 args) w := enters_of Try.func55 (by kernel_rfl) rfl
  obtain ⟨hx, hl, hbig⟩ := hown
  obtain ⟨hlen, h2⟩ := hx
  rcases h2 with ⟨e, _⟩ | ⟨g, cap, cur, e, hbg, hg, hnc, hcm, hcs, htake⟩
  · cases e
  cases e
  have hH : Sort.HoldsK pV 19 w b 0 l.toArray := by
    intro j hj
    rw [Sort.size_flatK, List.size_toArray, hl] at hj
    refine ⟨?_, by simp [World.frozen?, hg]⟩
    have h1 := flatK_at l.toArray j (by rw [List.size_toArray, hl]; exact hj)
    rw [cell_of_row w b (0 + j) cur _ (0, 0) hg, Nat.zero_add]
    have h3 : (cur.toList.take (n * 19))[j]? = (l.flatMap pV)[j]? := by rw [htake]
    rw [List.getElem?_take, if_pos hj] at h3
    rw [← Array.getElem?_toList, h3]
    exact h1
  have hcon := AnyQ.slices_SortFunc sortPend 19 Try.isAgg79 Try.sizeOf79 pV pV_len pend_rowed.one cfN cf_swo 55 #[] b 0 c l.toArray w eg (fun _ _ _ _ x y => pend1_any x y _) hH (lt_of_block hg) (by rw [List.size_toArray]; omega)
  change Calls Try.prog 54 _ _ _ at hcon
  rw [List.size_toArray, hl] at hcon
  refine hcon.mono ?_
  rintro e w' ⟨rfl, d', m, os, hp, hs, rfl⟩
  obtain ⟨p1, _, p3⟩ := hp
  replace p1 : d'.size = n := p1.trans (by rw [List.size_toArray, hl])
  have hd : d'.toList.length = n := by rw [Array.length_toList, p1]
  have e1 : (d'.extract 0 n).toList = d'.toList := by rw [← p1, Array.extract_size]
  have e2 : (l.toArray.extract 0 n).toList = l := by
    have : l.toArray.size = n := by rw [List.size_toArray, hl]
    rw [← this, Array.extract_size]
  rw [e1, e2] at p3
  refine ⟨rfl, d'.toList, p3, ?_, ⟨⟨by rw [flat_len pV_len, hd], Or.inr ⟨b, c, Sort.putCells id 0 (Sort.flatK pV 19 d') cur, rfl, hbg, ?_, hnc, hcm, ?_, ?_⟩⟩, hd, hbig⟩, ⟨rfl, rfl, rfl, ?_, fun k hk hne => ?_⟩⟩
  · rw [List.pairwise_iff_getElem]
    intro i j hi hj hij
    have := hs i j (Nat.zero_le _) hij (by rw [← hd]; exact hj)
    rw [cf_lt, decide_eq_false_iff_not] at this
    rw [Array.length_toList] at hi hj
    rw [getElem!_pos d' i hi, getElem!_pos d' j hj] at this
    simp only [Array.getElem_toList]
    omega
  · rw [sortWorld_heap w b m d' os b (lt_of_block hg), if_pos rfl, hg]
    rfl
  · simp [Sort.putCells, hcs]
  · have hF : (Sort.flatK pV 19 d').size = n * 19 := by rw [Sort.size_flatK, p1]
    rw [← flatK_list d']
    apply List.ext_getElem?
    intro j
    have hcap : n * 19 ≤ cur.size := by rw [hcs]; exact Nat.mul_le_mul_right _ hnc
    by_cases hj : j < n * 19
    · rw [List.getElem?_take, if_pos hj, Array.getElem?_toList, Array.getElem?_toList]
      simp only [Sort.putCells, Array.getElem?_mapIdx, Array.getElem?_eq_getElem (show j < cur.size by omega), Option.map_some, Nat.zero_add, Nat.zero_le, true_and, hF, if_pos hj, Nat.sub_zero, id]
      rw [getElem!_pos _ _ (by rw [hF]; exact hj), Array.getElem?_eq_getElem (by rw [hF]; exact hj)]
    · rw [List.getElem?_eq_none (by rw [List.length_take]; omega), List.getElem?_eq_none (by rw [Array.length_toList, hF]; omega)]
  · show w.heap.size ≤ ((w.heap.modify b _) ++ os).size
    rw [Array.size_append, Array.size_modify]
    omega
  · rw [sortWorld_heap w b m d' os k hk, if_neg (fun e => hne (by rw [e]))]
end Go.Proofs.Ytnhaidofblfopaa
