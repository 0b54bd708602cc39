/-
  Mathematics of a write-back cache, fourth part (package lru): what is dirty, what is after what, call by call. Conditions: none.
-/
import Derived.Test.YtjpblndjfcofpaaLn
namespace Go.Proofs.Ytjpblndjfcofpaa
open Go.RowKit
set_option linter.unusedVariables false

theorem put_isD (its : List It) (u : Nat) (k : Int) (b : List Int) (d : Bool) (x : Int) : isD (putIts its u k b d) x = if x = k then (isD its k || d) else isD its x := by
  rw [Bool.eq_iff_iff]
  unfold putIts
  by_cases hk : hasK its k = true
  · rw [if_pos hk, isD_iff]
    obtain ⟨z, hz, hzk⟩ := hasK_iff.1 hk
    constructor
    · rintro ⟨it, hi, e, hd⟩
      obtain ⟨y, hy, rfl⟩ := setIt_mem hi
      by_cases hyk : y.key = k
      · rw [if_pos hyk] at e hd
        simp only at e hd
        rw [if_pos (by omega)]
        simp only [Bool.or_eq_true] at hd ⊢
        rcases hd with hd | hd
        · exact Or.inl (isD_iff.2 ⟨y, hy, hyk, hd⟩)
        · exact Or.inr hd
      · rw [if_neg hyk] at e hd
        rw [if_neg (by omega)]
        exact isD_iff.2 ⟨y, hy, e, hd⟩
    · intro h
      by_cases hxk : x = k
      · rw [if_pos hxk] at h
        simp only [Bool.or_eq_true] at h
        rcases h with h | h
        · obtain ⟨y, hy, e, hd⟩ := isD_iff.1 h
          refine ⟨_, List.mem_map.2 ⟨y, hy, rfl⟩, ?_, ?_⟩
          · rw [if_pos e]; show y.key = x; omega
          · rw [if_pos e]; show (y.dirty || d) = true; rw [hd]; rfl
        · refine ⟨_, List.mem_map.2 ⟨z, hz, rfl⟩, ?_, ?_⟩
          · rw [if_pos hzk]; show z.key = x; omega
          · rw [if_pos hzk]; show (z.dirty || d) = true; rw [h]; simp
      · rw [if_neg hxk] at h
        obtain ⟨y, hy, e, hd⟩ := isD_iff.1 h
        refine ⟨_, List.mem_map.2 ⟨y, hy, rfl⟩, ?_, ?_⟩
        · rw [if_neg (by omega)]; exact e
        · rw [if_neg (by omega)]; exact hd
  · rw [if_neg hk, isD_iff]
    have hno : ∀ y ∈ its, y.key ≠ k := fun y hy e => hk (hasK_iff.2 ⟨y, hy, e⟩)
    have h0 : isD its k = false := isD_none hno
    constructor
    · rintro ⟨it, hi, e, hd⟩
      rcases ins_mem.1 hi with rfl | ⟨hi, hne⟩
      · simp only at e hd
        rw [if_pos e.symm, hd]
        simp
      · rw [if_neg (by simp only at hne; omega)]
        exact isD_iff.2 ⟨it, hi, e, hd⟩
    · intro h
      by_cases hxk : x = k
      · rw [if_pos hxk, h0, Bool.false_or] at h
        exact ⟨_, ins_mem.2 (Or.inl rfl), hxk.symm, h⟩
      · rw [if_neg hxk] at h
        obtain ⟨y, hy, e, hd⟩ := isD_iff.1 h
        exact ⟨y, ins_mem.2 (Or.inr ⟨hy, hno y hy⟩), e, hd⟩
theorem put_edge (its : List It) (u : Nat) (k : Int) (b : List Int) (d : Bool) (x y : Int) : Edge (putIts its u k b d) x y ↔ Edge its x y := by
  unfold putIts
  by_cases hk : hasK its k = true
  · rw [if_pos hk]
    constructor
    · rintro ⟨it, hi, e, hf⟩
      obtain ⟨z, hz, rfl⟩ := setIt_mem hi
      refine ⟨z, hz, ?_, ?_⟩
      · split at e <;> exact e
      · split at hf <;> exact hf
    · rintro ⟨z, hz, e, hf⟩
      refine ⟨_, List.mem_map.2 ⟨z, hz, rfl⟩, ?_, ?_⟩
      · split <;> exact e
      · split <;> exact hf
  · rw [if_neg hk]
    have hno : ∀ y ∈ its, y.key ≠ k := fun y hy e => hk (hasK_iff.2 ⟨y, hy, e⟩)
    constructor
    · rintro ⟨it, hi, e, hf⟩
      rcases ins_mem.1 hi with rfl | ⟨hi, _⟩
      · cases hf
      · exact ⟨it, hi, e, hf⟩
    · rintro ⟨z, hz, e, hf⟩
      exact ⟨z, ins_mem.2 (Or.inr ⟨hz, hno z hz⟩), e, hf⟩
theorem put_present (its : List It) (u : Nat) (k : Int) (b : List Int) (d : Bool) (x : Int) : Present (putIts its u k b d) x ↔ x = k ∨ Present its x := by
  unfold putIts
  by_cases hk : hasK its k = true
  · rw [if_pos hk]
    constructor
    · rintro ⟨it, hi, e⟩
      obtain ⟨z, hz, rfl⟩ := setIt_mem hi
      refine Or.inr ⟨z, hz, ?_⟩
      split at e <;> exact e
    · rintro (rfl | ⟨z, hz, e⟩)
      · obtain ⟨z, hz, e⟩ := hasK_iff.1 hk
        refine ⟨_, List.mem_map.2 ⟨z, hz, rfl⟩, ?_⟩
        split <;> exact e
      · refine ⟨_, List.mem_map.2 ⟨z, hz, rfl⟩, ?_⟩
        split <;> exact e
  · rw [if_neg hk]
    have hno : ∀ y ∈ its, y.key ≠ k := fun y hy e => hk (hasK_iff.2 ⟨y, hy, e⟩)
    constructor
    · rintro ⟨it, hi, e⟩
      rcases ins_mem.1 hi with rfl | ⟨hi, _⟩
      · exact Or.inl e.symm
      · exact Or.inr ⟨it, hi, e⟩
    · rintro (rfl | ⟨z, hz, e⟩)
      · exact ⟨_, ins_mem.2 (Or.inl rfl), rfl⟩
      · exact ⟨z, ins_mem.2 (Or.inr ⟨hz, hno z hz⟩), e⟩
def addF (k f : Int) : It → It := fun x => if f ∈ x.firsts then x else { x with firsts := x.firsts ++ [f] }
theorem addF_key (k f : Int) (y : It) : (addF k f y).key = y.key := by unfold addF; split <;> rfl
theorem addF_dirty (k f : Int) (y : It) : (addF k f y).dirty = y.dirty := by unfold addF; split <;> rfl
theorem addF_firsts (k f : Int) (y : It) (b : Int) : b ∈ (addF k f y).firsts ↔ b = f ∨ b ∈ y.firsts := by
  unfold addF
  split
  · rename_i h
    constructor
    · exact Or.inr
    · rintro (rfl | h')
      · exact h
      · exact h'
  · simp [or_comm]
theorem after_isD (its : List It) (k f x : Int) : isD (setIt its k (addF k f)) x = isD its x := by
  rw [Bool.eq_iff_iff, isD_iff, isD_iff]
  constructor
  · rintro ⟨it, hi, e, hd⟩
    obtain ⟨y, hy, rfl⟩ := setIt_mem hi
    refine ⟨y, hy, ?_, ?_⟩
    · split at e
      · rw [addF_key] at e; exact e
      · exact e
    · split at hd
      · rw [addF_dirty] at hd; exact hd
      · exact hd
  · rintro ⟨y, hy, e, hd⟩
    refine ⟨_, List.mem_map.2 ⟨y, hy, rfl⟩, ?_, ?_⟩
    · split
      · rw [addF_key]; exact e
      · exact e
    · split
      · rw [addF_dirty]; exact hd
      · exact hd
theorem after_edge {its : List It} {k f : Int} (hk : Present its k) (x y : Int) : Edge (setIt its k (addF k f)) x y ↔ Edge its x y ∨ (x = k ∧ y = f) := by
  constructor
  · rintro ⟨it, hi, e, hf⟩
    obtain ⟨z, hz, rfl⟩ := setIt_mem hi
    by_cases hzk : z.key = k
    · rw [if_pos hzk] at e hf
      rw [addF_key] at e
      rcases (addF_firsts k f z y).1 hf with h | h
      · exact Or.inr ⟨by omega, h⟩
      · exact Or.inl ⟨z, hz, e, h⟩
    · rw [if_neg hzk] at e hf
      exact Or.inl ⟨z, hz, e, hf⟩
  · rintro (⟨z, hz, e, hf⟩ | ⟨rfl, rfl⟩)
    · refine ⟨_, List.mem_map.2 ⟨z, hz, rfl⟩, ?_, ?_⟩
      · split
        · rw [addF_key]; exact e
        · exact e
      · split
        · exact (addF_firsts k f z y).2 (Or.inr hf)
        · exact hf
    · obtain ⟨z, hz, e⟩ := hk
      refine ⟨_, List.mem_map.2 ⟨z, hz, rfl⟩, ?_, ?_⟩
      · rw [if_pos e, addF_key]; exact e
      · rw [if_pos e]
        exact (addF_firsts x y z y).2 (Or.inl rfl)
theorem Lru.put_calm {C : Lru} {k : Int} {b : List Int} {d : Bool} (h : C.items.length < C.room) : C.put k b d = ([], ⟨C.room, C.uses + 1, putIts C.items (C.uses + 1) k b d⟩) := by
  have h1 := (put_len (its := C.items) (u := C.uses + 1) (k := k) (b := b) (d := d)).1
  unfold Lru.put
  dsimp only
  rw [if_neg (by omega)]
theorem Lru.after_new {C : Lru} {k f : Int} (h1 : isD C.items k = true) (h2 : isD C.items f = true) (h3 : k ∉ linesL C.items [f]) : C.after k f = (0, ⟨C.room, C.uses, setIt C.items k (addF k f)⟩) := by
  unfold Lru.after
  rw [h1, h2, Bool.and_self, if_pos rfl, if_neg h3]
  rfl
theorem Lru.after_circle {C : Lru} {k f : Int} (h1 : isD C.items k = true) (h2 : isD C.items f = true) (h3 : k ∈ linesL C.items [f]) : C.after k f = (11, C) := by
  unfold Lru.after
  rw [h1, h2, Bool.and_self, if_pos rfl, if_pos h3]
theorem Lru.after_none {C : Lru} {k f : Int} (h : isD C.items k = false ∨ isD C.items f = false) : C.after k f = (15, C) := by
  unfold Lru.after
  rw [if_neg (by rcases h with h | h <;> simp [h])]
theorem isD_present {its : List It} {x : Int} (h : isD its x = true) : Present its x := by
  obtain ⟨y, hy, e, _⟩ := isD_iff.1 h
  exact ⟨y, hy, e⟩
theorem dirtyL_mem {its : List It} {x : Int} : x ∈ dirtyL its ↔ isD its x = true := by
  unfold dirtyL
  rw [List.mem_map, isD_iff]
  constructor
  · rintro ⟨y, hy, e⟩
    obtain ⟨h1, h2⟩ := List.mem_filter.1 hy
    exact ⟨y, h1, e, h2⟩
  · rintro ⟨y, hy, e, hd⟩
    exact ⟨y, List.mem_filter.2 ⟨hy, hd⟩, e⟩
theorem dirtyL_rise {its : List It} (h : its.Pairwise fun a b => a.key < b.key) : (dirtyL its).Pairwise fun a b => a < b := by
  unfold dirtyL
  rw [List.pairwise_map]
  exact h.sublist List.filter_sublist
theorem rise_nodup {l : List Int} (h : l.Pairwise fun a b => a < b) : l.Nodup := h.imp fun h e => by omega
theorem flush_lines {C : Lru} (h : C.Ok) : LinesOk C.items (dirtyL C.items) C.flush.1 := lines_ok h.its _ (dirty_present _)
/-- What a flush tells are the dirty keys. -/
theorem flush_mem {C : Lru} (h : C.Ok) (x : Int) : x ∈ C.flush.1 ↔ isD C.items x = true := by
  have hl := flush_lines h
  constructor
  · intro hx
    obtain ⟨k, hk, hr⟩ := hl.reach x hx
    have hkd := dirtyL_mem.1 hk
    clear hk
    induction hr with
    | refl _ => exact hkd
    | step e _ ih =>
      obtain ⟨y, hy, _, hf⟩ := e
      exact ih hx (h.its.fdirty y hy _ hf)
  · exact fun hx => hl.keys x (dirtyL_mem.2 hx)
theorem flush_calm {C : Lru} (h : C.Ok) (x : Int) : isD C.flush.2.items x = false := by
  show isD (writeL C.items (dirtyL C.items)) x = false
  rw [write_isD]
  cases hd : isD C.items x with
  | false => rfl
  | true =>
    have := (flush_mem h x).2 hd
    have h2 : x ∈ linesL C.items (dirtyL C.items) := this
    simp [h2]
theorem dirtyL_nil {its : List It} (h : ∀ x, isD its x = false) : dirtyL its = [] := by
  refine List.eq_nil_iff_forall_not_mem.2 fun x hx => ?_
  have := dirtyL_mem.1 hx
  rw [h x] at this
  cases this
theorem flush_empty {C : Lru} (h : ∀ x, isD C.items x = false) : C.flush.1 = [] := by
  show linesL C.items (dirtyL C.items) = []
  rw [dirtyL_nil h]
  rfl
theorem singleton_of {l : List Int} (hn : l.Nodup) {c : Int} (h : ∀ b, b ∈ l ↔ b = c) : l = [c] := by
  match l, hn, h with
  | [], _, h => exact absurd ((h c).2 rfl) (by simp)
  | [a], _, h => rw [(h a).1 (by simp)]
  | a :: b :: r, hn, h =>
    have h1 := (h a).1 (by simp)
    have h2 := (h b).1 (by simp)
    simp [h1, h2] at hn
theorem firsts_one {its : List It} {u : Nat} (h : ItsOk its u) {x c : Int} (hx : Present its x) (he : ∀ b, Edge its x b ↔ b = c) : firstsOf its x = [c] := by
  obtain ⟨y, hy, rfl⟩ := hx
  rw [firstsOf_mem h.rise hy]
  refine singleton_of (h.nodup y hy) fun b => ?_
  rw [← he]
  exact ⟨fun hb => ⟨y, hy, rfl, hb⟩, fun hb => hb.first h.rise hy⟩
theorem firsts_nil {its : List It} {u : Nat} (h : ItsOk its u) {x : Int} (hx : Present its x) (he : ∀ b, ¬ Edge its x b) : firstsOf its x = [] := by
  obtain ⟨y, hy, rfl⟩ := hx
  rw [firstsOf_mem h.rise hy]
  exact List.eq_nil_iff_forall_not_mem.2 fun b hb => he b ⟨y, hy, rfl, hb⟩
end Go.Proofs.Ytjpblndjfcofpaa
