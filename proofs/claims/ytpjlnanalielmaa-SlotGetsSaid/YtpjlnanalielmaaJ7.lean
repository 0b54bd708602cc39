/-
  The sort of at most two slots by their numbers, and the project's own Order (package slot). Conditions: the slices read as bytes.
-/
import Derived.Test.YtpjlnanalielmaaI7
import Derived.Shelf.SlSortCmp.InsertionK
import Derived.Shelf.SlLaysF0
namespace Go.Proofs.Ytpjlnanalielmaa
open Go.RowKit Go.Shelf
set_option linter.unusedVariables false

def sortSlots_ren : Go.Shelf.Ren := ⟨fun | 20 => 35 | n => n, fun | 24 => 24 | 22 => 40 | 3 => 3 | 25 => 56 | 4 => 4 | 0 => 0 | n => n, fun | n => n⟩
theorem sortSlots : Go.Proofs.SlLaysF0.n20 Try.prog sortSlots_ren := {
  mixed := by kernel_rfl
  f20 := ⟨Try.f35.name, by decide, Try.func35.trans (congrArg some (by kernel_rfl))⟩
  t0 := Try.underlying0
  a0 := Try.isAgg0
  z0 := Try.sizeOf0
  v0 := Try.zeroValue0
  t3 := Try.underlying3
  a3 := Try.isAgg3
  z3 := Try.sizeOf3
  v3 := Try.zeroValue3
  t4 := Try.underlying4
  a4 := Try.isAgg4
  z4 := Try.sizeOf4
  v4 := Try.zeroValue4
  t22 := Try.underlying40
  a22 := Try.isAgg40
  z22 := Try.sizeOf40
  v22 := Try.zeroValue40
  t25 := Try.underlying56
  a25 := Try.isAgg56
  z25 := Try.sizeOf56
  v25 := Try.zeroValue56 }

/-- The comparison that Order hands on: the greater number first. -/
def cfS (x y : Sl) : Int := if y.1 < x.1 then -1 else if x.1 < y.1 then 1 else 0
set_option maxRecDepth 100000 in
theorem cmp_int7 (m n : Int) (w : World) : Calls Try.prog 25 #[.int .i64 m, .int .i64 n] w fun e w' => e = .returned (.int .i64 (if m < n then -1 else if n < m then 1 else 0)) ∧ w' = w := by
  go_enter Try.func25, Try.ntmps25
  by_cases h1 : m < n
  · go_wp2_with (go_at_call 32; go_in)
    go_ret
    exact ⟨rfl, rfl⟩
  · by_cases h2 : n < m
    · go_wp2_with (go_at_call 32; go_in)
      go_ret
      exact ⟨rfl, rfl⟩
    · go_wp2_with (go_at_call 32; go_in)
      go_ret
      exact ⟨rfl, rfl⟩
set_option maxRecDepth 100000 in
theorem order1_any (x y : Sl) (W : World) : Calls Try.prog 24 #[.agg (slV x).toArray, .agg (slV y).toArray] W fun e w' => e = .returned (.int .i64 (cfS x y)) ∧ ∃ q os', w' = Sort.grow (W.drewN q) os' := by
  obtain ⟨q1, s1, c1, m1⟩ := x
  obtain ⟨q2, s2, c2, m2⟩ := y
  unfold slV cfS
  have HC := Lib.hid (fun w => cmp_int7 q2 q1 w)
  go_enter Try.func24, Try.ntmps24
  go_wp2_with (go_at_call 25; refine (HC.out _).mono ?_; rintro e w' ⟨rfl, rfl⟩)
  all_goals go_ret
  all_goals exact ⟨rfl, 0, _, by rw [Sort.alloc_eq_grow, Sort.alloc_eq_grow, Sort.grow_grow]; rfl⟩

theorem flatK_at7 (d : Array Sl) (t : Nat) (h : t < d.size * 4) : (d.toList.flatMap slV)[t]? = some (Sort.flatK slV 4 d)[t]! := by
  rw [Sort.get_flatK _ _ _ _ h]
  have hi : t / 4 < d.size := by omega
  have h1 : d.toList[t / 4]? = some d[t / 4]! := by
    rw [getElem!_pos d (t / 4) hi, Array.getElem?_toList, Array.getElem?_eq_getElem hi]
  have h2 := flat_at slV_len d.toList (t / 4) (t % 4) d[t / 4]! h1 (by omega)
  rw [show t / 4 * 4 + t % 4 = t by omega] at h2
  rw [h2]
  have hl : t % 4 < (slV d[t / 4]!).length := by rw [slV_len]; omega
  rw [List.getElem?_eq_getElem hl, getElem!_pos (slV d[t / 4]!) (t % 4) hl]
theorem flatK_list7 (d : Array Sl) : (Sort.flatK slV 4 d).toList = d.toList.flatMap slV := by
  apply List.ext_getElem?
  intro t
  by_cases h : t < d.size * 4
  · rw [flatK_at7 d t h, Array.getElem?_toList, getElem!_pos _ _ (by rw [Sort.size_flatK]; exact h), Array.getElem?_eq_getElem (by rw [Sort.size_flatK]; exact h)]
  · rw [List.getElem?_eq_none (by rw [Array.length_toList, Sort.size_flatK]; omega), List.getElem?_eq_none (by rw [flat_len slV_len, Array.length_toList]; omega)]
theorem sortWorld_heap7 (w : World) (blk n : Nat) (d : Array Sl) (os : Array Obj) (k : Nat) (hk : k < w.heap.size) :
    (sortWorldK slV 4 w blk 0 n d os).heap[k]? = if blk = k then (w.heap[k]?).map (Sort.onCells (Sort.putCells id 0 (Sort.flatK slV 4 d))) else w.heap[k]? := by
  show ((w.heap.modify blk _) ++ os)[k]? = _
  rw [Array.getElem?_append_left (by rw [Array.size_modify]; exact hk), Array.getElem?_modify]
/-- At most two slots, the one of the greater number first. -/
def sortS (l : List Sl) : List Sl :=
  match l with
  | [x, y] => if x.1 < y.1 then [y, x] else [x, y]
  | l => l
theorem sortS_len (l : List Sl) : (sortS l).length = l.length := by
  unfold sortS
  split
  · split <;> rfl
  · rfl
theorem ins_sortS (l : List Sl) (h : l.length ≤ 2) : (Sort.insertionSort (ltOf cfS) l.toArray 0 l.length).toList = sortS l := by
  match l, h with
  | [], _ => simp [Sort.insertionSort, Sort.insOuter, sortS]
  | [x], _ => simp [Sort.insertionSort, Sort.insOuter, sortS]
  | [x, y], _ =>
    have e : ltOf cfS y x = decide (x.1 < y.1) := by
      unfold ltOf cfS
      by_cases h1 : x.1 < y.1
      · simp [h1]
      · by_cases h2 : y.1 < x.1 <;> simp [h1, h2]
    unfold Sort.insertionSort
    rw [Sort.insOuter, if_pos (by simp), Sort.insOuter, if_neg (by simp)]
    show (Sort.insInner (ltOf cfS) 0 1 #[x, y]).toList = _
    unfold Sort.insInner
    show (if (decide (0 + 1 > 0) && ltOf cfS y x) = true then Sort.insInner (ltOf cfS) 0 0 (Sort.swp #[x, y] 1 0) else #[x, y]).toList = _
    rw [e]
    by_cases h1 : x.1 < y.1
    · simp [h1, Sort.insInner, sortS, Sort.swp]
    · simp [h1, sortS]
theorem sort_any7 (w : World) (base b n c : Nat) (l : List Sl) (h2 : n ≤ 2) (hown : OwnG slV 24 4 w base (.slice (some ⟨b, 0, none⟩) n c) n l) :
    Calls Try.prog 35 #[.slice (some ⟨b, 0, none⟩) n c, .int .i64 0, .int .i64 n, .func (.func 24) #[] #[]] w fun e w' =>
      e = .returned (.tuple #[]) ∧ OwnG slV 24 4 w' base (.slice (some ⟨b, 0, none⟩) n c) n (sortS l) ∧ w.grownBy w' (some b) := by
  have eg : ∀ args w, (callFunc 24 args).run Try.prog w = .ok (.enter 24 args) w := enters_of Try.func24 (by kernel_rfl) rfl
  obtain ⟨hx, hl, hbig⟩ := hown
  obtain ⟨hlen, h2'⟩ := hx
  rcases h2' with ⟨e, _⟩ | ⟨g, cap, cur, e, hbg, hg, hnc, hcm, hcs, htake⟩
  · cases e
  cases e
  have hH : Sort.HoldsK slV 4 w b 0 l.toArray := by
    intro j hj
    rw [Sort.size_flatK, List.size_toArray, hl] at hj
    refine ⟨?_, by simp [World.frozen?, hg]⟩
    have h1 := flatK_at7 l.toArray j (by rw [List.size_toArray, hl]; exact hj)
    rw [cell_of_row w b (0 + j) cur _ (0, 0) hg, Nat.zero_add]
    have h3 : (cur.toList.take (n * 4))[j]? = (l.flatMap slV)[j]? := by rw [htake]
    rw [List.getElem?_take, if_pos hj] at h3
    rw [← Array.getElem?_toList, h3]
    exact h1
  have hcon := AnyQ.insertionSortCmpFunc sortSlots 4 Try.isAgg24 Try.sizeOf24 slV slV_len sl_rowed.one cfS 24 #[] b 0 c 0 n l.toArray w eg (fun _ _ _ _ x y => order1_any x y _) hH (lt_of_block hg) (Nat.zero_le _) (by rw [List.size_toArray]; omega) (by rw [List.size_toArray]; omega)
  change Calls Try.prog 35 _ _ _ at hcon
  rw [List.size_toArray, hl] at hcon
  refine hcon.mono ?_
  rintro e w' ⟨rfl, m, os, rfl⟩
  have hI : (Sort.insertionSort (ltOf cfS) l.toArray 0 n).toList = sortS l := by
    have := ins_sortS l (by omega)
    rwa [hl] at this
  obtain ⟨d', hd'⟩ := named (Sort.insertionSort (ltOf cfS) l.toArray 0 n)
  rw [hd'.out] at hI ⊢
  have hd : d'.toList.length = n := by rw [hI, sortS_len, hl]
  have p1 : d'.size = n := by rw [← hd, Array.length_toList]
  rw [← hI]
  refine ⟨rfl, ⟨⟨by rw [flat_len slV_len, hd], Or.inr ⟨b, c, Sort.putCells id 0 (Sort.flatK slV 4 d') cur, rfl, hbg, ?_, hnc, hcm, ?_, ?_⟩⟩, hd, hbig⟩, ⟨rfl, rfl, rfl, ?_, fun k hk hne => ?_⟩⟩
  · rw [sortWorld_heap7 w b m d' os b (lt_of_block hg), if_pos rfl, hg]
    rfl
  · simp [Sort.putCells, hcs]
  · have hF : (Sort.flatK slV 4 d').size = n * 4 := by rw [Sort.size_flatK, p1]
    rw [← flatK_list7 d']
    apply List.ext_getElem?
    intro j
    have hcap : n * 4 ≤ cur.size := by rw [hcs]; exact Nat.mul_le_mul_right _ hnc
    by_cases hj : j < n * 4
    · rw [List.getElem?_take, if_pos hj, Array.getElem?_toList, Array.getElem?_toList]
      simp only [Sort.putCells, Array.getElem?_mapIdx, Array.getElem?_eq_getElem (show j < cur.size by omega), Option.map_some, Nat.zero_add, Nat.zero_le, true_and, hF, if_pos hj, Nat.sub_zero, id]
      rw [getElem!_pos _ _ (by rw [hF]; exact hj), Array.getElem?_eq_getElem (by rw [hF]; exact hj)]
    · rw [List.getElem?_eq_none (by rw [List.length_take]; omega), List.getElem?_eq_none (by rw [Array.length_toList, hF]; omega)]
  · show w.heap.size ≤ ((w.heap.modify b _) ++ os).size
    rw [Array.size_append, Array.size_modify]
    omega
  · rw [sortWorld_heap7 w b m d' os k hk, if_neg (fun e => hne (by rw [e]))]
/-- Of nothing. -/
theorem sort_none7 (w : World) (v : Value) : Calls Try.prog 35 #[v, .int .i64 0, .int .i64 0, .func (.func 24) #[] #[]] w fun e w' => e = .returned (.tuple #[]) ∧ w = w' := by
  go_enter Try.func35, Try.ntmps35
  go_wp2
  go_loopw [8] (fun i wr => i = .int .i64 1 ∧ wr = w) (fun i _ => 1)
  case atStart => exact ⟨rfl, rfl⟩
  case round =>
    obtain ⟨rfl, rfl⟩ := hrel
    go_wp2
    go_end0
    exact ⟨rfl, rfl⟩

/-- slices.SortStableFunc of at most two slots. -/
theorem stable_any7 (w : World) (base b n c : Nat) (l : List Sl) (h2 : n ≤ 2) (hown : OwnG slV 24 4 w base (.slice (some ⟨b, 0, none⟩) n c) n l) :
    Calls Try.prog 31 #[.slice (some ⟨b, 0, none⟩) n c, .int .i64 n, .func (.func 24) #[] #[]] w fun e w' =>
      e = .returned (.tuple #[]) ∧ OwnG slV 24 4 w' base (.slice (some ⟨b, 0, none⟩) n c) n (sortS l) ∧ w.grownBy w' (some b) := by
  have HS := Lib.hid (sort_any7 w base b n c l h2 hown)
  clear hown
  have h20 : ¬ (20 : Int) ≤ n := by omega
  have h21 : ¬ (20 : Int) < n := by omega
  go_enter Try.func31, Try.ntmps31
  go_wp2
  go_loopw [7, 8] (fun x y wr => x = .int .i64 0 ∧ y = .int .i64 20 ∧ wr = w) (fun _ _ _ => 1)
  case atStart => exact ⟨rfl, rfl, rfl⟩
  case round =>
    obtain ⟨rfl, rfl, rfl⟩ := hrel
    go_wp2_with (go_at_call 35; refine HS.out.mono ?_; rintro e w' ⟨rfl, g1, g2⟩; have H1 := Lib.hid g1; have H2 := Lib.hid g2; clear g1 g2)
    go_loopw [6] (fun x w2 => x = .int .i64 20 ∧ w2 = w') (fun _ _ => 1)
    case atStart => exact ⟨rfl, rfl⟩
    case round =>
      obtain ⟨rfl, rfl⟩ := hrel
      go_wp2
      go_end0
      exact ⟨rfl, H1.out, H2.out⟩
theorem stable_none7 (w : World) (v : Value) : Calls Try.prog 31 #[v, .int .i64 0, .func (.func 24) #[] #[]] w fun e w' => e = .returned (.tuple #[]) ∧ w = w' := by
  have HS := Lib.hid (sort_none7 w v)
  go_enter Try.func31, Try.ntmps31
  go_wp2
  go_loopw [7, 8] (fun x y wr => x = .int .i64 0 ∧ y = .int .i64 20 ∧ wr = w) (fun _ _ _ => 1)
  case atStart => exact ⟨rfl, rfl, rfl⟩
  case round =>
    obtain ⟨rfl, rfl, rfl⟩ := hrel
    go_wp2_with (go_at_call 35; refine HS.out.mono ?_; rintro e w' ⟨rfl, rfl⟩)
    go_loopw [6] (fun x w2 => x = .int .i64 20 ∧ w2 = wr) (fun _ _ => 1)
    case atStart => exact ⟨rfl, rfl⟩
    case round =>
      obtain ⟨rfl, rfl⟩ := hrel
      go_wp2
      go_end0
      exact ⟨rfl, rfl⟩
/-- slices.SortStableFunc of at most two slots, and of none. -/
theorem sortStable_any7 (w : World) (base n : Nat) (v : Value) (l : List Sl) (h2 : n ≤ 2) (hown : OwnG slV 24 4 w base v n l) :
    Calls Try.prog 23 #[v, .func (.func 24) #[] #[]] w fun e w' =>
      e = .returned (.tuple #[]) ∧ OwnG slV 24 4 w' base v n (sortS l) ∧ w.grownBy w' v.ownBlock := by
  obtain ⟨a, c, rfl, _, hnil, _⟩ := hown.shape sl_rowed
  cases a with
  | none =>
    obtain rfl := hnil rfl
    have h0 : n = 0 ∧ l = [] := by
      rcases hown.1.2 with ⟨e, h⟩ | ⟨g, cap, cur, e, _⟩
      · have : n = 0 := h
        subst this
        exact ⟨rfl, List.eq_nil_of_length_eq_zero hown.2.1⟩
      · cases e
    obtain ⟨rfl, rfl⟩ := h0
    have HS := Lib.hid (fun w => stable_none7 w (.slice none 0 0))
    have HO := Lib.hid hown
    clear hown
    go_enter Try.func23, Try.ntmps23
    go_wp2_with (go_at_call 31; refine (HS.out _).mono ?_; rintro e w' ⟨rfl, rfl⟩)
    go_end0
    exact ⟨rfl, HO.out, World.grownBy.refl _ _⟩
  | some x =>
    obtain ⟨b, rfl⟩ : ∃ b, x = ⟨b, 0, none⟩ := by
      rcases hown.1.2 with ⟨e, h⟩ | ⟨g, cap, cur, e, _⟩
      · cases e
      · cases e
        exact ⟨g, rfl⟩
    have HS := Lib.hid (stable_any7 w base b n c l h2 hown)
    clear hown
    go_enter Try.func23, Try.ntmps23
    go_wp2_with (go_at_call 31; refine HS.out.mono ?_; rintro e w' ⟨rfl, g1, g2⟩; have H1 := Lib.hid g1; have H2 := Lib.hid g2; clear g1 g2)
    go_end0
    exact ⟨rfl, H1.out, H2.out⟩
end Go.Proofs.Ytpjlnanalielmaa
