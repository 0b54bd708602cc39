/-
  Mathematics of a write-back cache, third part (package lru): what stays always so, call by call. Conditions: none.
-/
import Derived.Test.YthmkmhfoicfapaaLm
namespace Go.Proofs.Ythmkmhfoicfapaa
open Go.RowKit
set_option linter.unusedVariables false

theorem endR_mem {its : List It} {it : It} (h : it ∈ endR its) : ∃ y ∈ its, it = ⟨y.key, y.bs, y.used, y.dirty, y.firsts.filter (isD its)⟩ := by
  obtain ⟨y, hy, e⟩ := List.mem_map.1 h
  exact ⟨y, hy, e.symm⟩
theorem isD_kd {a b : List It} (h : a.map (fun it => (it.key, it.dirty)) = b.map (fun it => (it.key, it.dirty))) (k : Int) : isD a k = isD b k := by
  have e : ∀ l : List It, isD l k = (l.map (fun it => (it.key, it.dirty))).any fun p => decide (p.1 = k) && p.2 := fun l => by
    unfold isD
    rw [List.any_map]
    rfl
  rw [e, e, h]
theorem endR_isD (its : List It) (k : Int) : isD (endR its) k = isD its k := isD_kd (by unfold endR; rw [List.map_map]; rfl) k
theorem rise_keys {a b : List It} (h : b.Pairwise fun a b => a.key < b.key) (hk : a.map It.key = b.map It.key) : a.Pairwise fun a b => a.key < b.key := by
  have h1 : (b.map It.key).Pairwise (fun a b => a < b) := List.pairwise_map.2 h
  rw [← hk, List.pairwise_map] at h1
  exact h1
theorem endR_keys (its : List It) : (endR its).map It.key = its.map It.key := by unfold endR; rw [List.map_map]; rfl
/-- What is so ahead of records' end. -/
structure Pre (its : List It) (u : Nat) : Prop where
  rise : its.Pairwise fun a b => a.key < b.key
  used : ∀ it ∈ its, it.used ≤ u
  bsl : ∀ it ∈ its, it.bs.length ≤ 1000
  clean : ∀ it ∈ its, it.dirty = false → ∀ f ∈ it.firsts, isD its f = false
  nodup : ∀ it ∈ its, it.firsts.Nodup
  small : u ≤ 1000000
  kr : ∀ it ∈ its, -9223372036854775808 ≤ it.key ∧ it.key ≤ 9223372036854775807
  acyc : ∃ rank : Int → Nat, ∀ it ∈ its, ∀ f ∈ it.firsts, rank f < rank it.key
theorem endR_ok {its : List It} {u : Nat} (h : Pre its u) : ItsOk (endR its) u := by
  refine ⟨rise_keys h.rise (endR_keys its), fun it hi => ?_, fun it hi => ?_, fun it hi f hf => ?_, fun it hi hd => ?_, fun it hi => ?_, h.small, fun it hi => ?_, ?_⟩
  · obtain ⟨y, hy, rfl⟩ := endR_mem hi
    exact h.used y hy
  · obtain ⟨y, hy, rfl⟩ := endR_mem hi
    exact h.bsl y hy
  · obtain ⟨y, hy, rfl⟩ := endR_mem hi
    rw [endR_isD]
    exact (List.mem_filter.1 hf).2
  · obtain ⟨y, hy, rfl⟩ := endR_mem hi
    refine List.filter_eq_nil_iff.2 fun f hf => ?_
    rw [h.clean y hy hd f hf]
    simp
  · obtain ⟨y, hy, rfl⟩ := endR_mem hi
    exact (h.nodup y hy).filter _
  · obtain ⟨y, hy, rfl⟩ := endR_mem hi
    exact h.kr y hy
  · obtain ⟨rank, hR⟩ := h.acyc
    refine ⟨rank, fun it hi f hf => ?_⟩
    obtain ⟨y, hy, rfl⟩ := endR_mem hi
    exact hR y hy f (List.mem_filter.1 hf).1
theorem cleanL_mem {its : List It} {l : List Int} {it : It} (h : it ∈ cleanL its l) : ∃ y ∈ its, it = ⟨y.key, y.bs, y.used, if y.key ∈ l then false else y.dirty, y.firsts⟩ := by
  obtain ⟨y, hy, e⟩ := List.mem_map.1 h
  refine ⟨y, hy, ?_⟩
  rw [← e]
  by_cases hk : y.key ∈ l
  · simp [hk]
  · simp [hk]
theorem cleanL_keys (its : List It) (l : List Int) : (cleanL its l).map It.key = its.map It.key := by
  unfold cleanL
  rw [List.map_map]
  refine List.map_congr_left fun y _ => ?_
  show (if y.key ∈ l then ({ y with dirty := false } : It) else y).key = y.key
  split <;> rfl
theorem cleanL_isD (its : List It) (l : List Int) (k : Int) : isD (cleanL its l) k = (isD its k && !decide (k ∈ l)) := by
  rw [Bool.eq_iff_iff, isD_iff]
  constructor
  · rintro ⟨it, hi, e, hd⟩
    obtain ⟨y, hy, rfl⟩ := cleanL_mem hi
    simp only at e hd
    by_cases hk : y.key ∈ l
    · simp [hk] at hd
    · rw [if_neg hk] at hd
      rw [e] at hk
      simp [hk, isD_iff.2 ⟨y, hy, e, hd⟩]
  · intro h
    simp only [Bool.and_eq_true, Bool.not_eq_true', decide_eq_false_iff_not] at h
    obtain ⟨y, hy, e, hd⟩ := isD_iff.1 h.1
    refine ⟨y, ?_, e, hd⟩
    refine List.mem_map.2 ⟨y, hy, ?_⟩
    rw [if_neg (by rw [e]; exact h.2)]
theorem write_ok {its : List It} {u : Nat} (h : ItsOk its u) (ks : List Int) (hks : ∀ k ∈ ks, Present its k) : ItsOk (writeL its ks) u := by
  have hl := lines_ok h ks hks
  unfold writeL
  obtain ⟨l, el⟩ : ∃ l, linesL its ks = l := ⟨_, rfl⟩
  rw [el] at hl ⊢
  refine endR_ok ⟨rise_keys h.rise (cleanL_keys its l), fun it hi => ?_, fun it hi => ?_, fun it hi hd f hf => ?_, fun it hi => ?_, h.small, fun it hi => ?_, ?_⟩
  · obtain ⟨y, hy, rfl⟩ := cleanL_mem hi
    exact h.used y hy
  · obtain ⟨y, hy, rfl⟩ := cleanL_mem hi
    exact h.bsl y hy
  · obtain ⟨y, hy, rfl⟩ := cleanL_mem hi
    simp only at hd hf
    rw [cleanL_isD]
    by_cases hk : y.key ∈ l
    · have := hl.closed y.key hk f ⟨y, hy, rfl, hf⟩
      simp [this]
    · rw [if_neg hk] at hd
      rw [h.clean y hy hd] at hf
      cases hf
  · obtain ⟨y, hy, rfl⟩ := cleanL_mem hi
    exact h.nodup y hy
  · obtain ⟨y, hy, rfl⟩ := cleanL_mem hi
    exact h.kr y hy
  · obtain ⟨rank, hR⟩ := h.acyc
    refine ⟨rank, fun it hi f hf => ?_⟩
    obtain ⟨y, hy, rfl⟩ := cleanL_mem hi
    exact hR y hy f hf
theorem write_isD (its : List It) (ks : List Int) (k : Int) : isD (writeL its ks) k = (isD its k && !decide (k ∈ linesL its ks)) := by
  unfold writeL
  rw [endR_isD, cleanL_isD]
theorem delIt_mem {its : List It} {k : Int} {it : It} : it ∈ delIt its k ↔ it ∈ its ∧ it.key ≠ k := by
  unfold delIt
  rw [List.mem_filter]
  simp
theorem delIt_isD (its : List It) (k x : Int) : isD (delIt its k) x = (isD its x && !decide (x = k)) := by
  rw [Bool.eq_iff_iff, isD_iff]
  constructor
  · rintro ⟨it, hi, e, hd⟩
    obtain ⟨h1, h2⟩ := delIt_mem.1 hi
    rw [e] at h2
    simp [h2, isD_iff.2 ⟨it, h1, e, hd⟩]
  · intro h
    simp only [Bool.and_eq_true, Bool.not_eq_true', decide_eq_false_iff_not] at h
    obtain ⟨y, hy, e, hd⟩ := isD_iff.1 h.1
    exact ⟨y, delIt_mem.2 ⟨hy, by rw [e]; exact h.2⟩, e, hd⟩
theorem delIt_ok {its : List It} {u : Nat} (h : ItsOk its u) (k : Int) (hk : isD its k = false) : ItsOk (delIt its k) u := by
  have sub : ∀ {it}, it ∈ delIt its k → it ∈ its := fun hi => (delIt_mem.1 hi).1
  refine ⟨h.rise.sublist List.filter_sublist, fun it hi => h.used it (sub hi), fun it hi => h.bsl it (sub hi), fun it hi f hf => ?_, fun it hi => h.clean it (sub hi), fun it hi => h.nodup it (sub hi), h.small, fun it hi => h.kr it (sub hi), ?_⟩
  · have h1 := h.fdirty it (sub hi) f hf
    rw [delIt_isD, h1]
    have : f ≠ k := fun e => by rw [e, hk] at h1; cases h1
    simp [this]
  · obtain ⟨rank, hR⟩ := h.acyc
    exact ⟨rank, fun it hi => hR it (sub hi)⟩
theorem drop_ok {its : List It} {u : Nat} (h : ItsOk its u) (k : Int) : ItsOk (dropL its k) u := by
  unfold dropL
  cases hd : isD its k with
  | false =>
    rw [if_neg (by simp)]
    exact delIt_ok h k hd
  | true =>
    rw [if_pos rfl]
    have sub : ∀ {it}, it ∈ delIt its k → it ∈ its := fun hi => (delIt_mem.1 hi).1
    refine endR_ok ⟨h.rise.sublist List.filter_sublist, fun it hi => h.used it (sub hi), fun it hi => h.bsl it (sub hi), fun it hi hd f hf => ?_, fun it hi => h.nodup it (sub hi), h.small, fun it hi => h.kr it (sub hi), ?_⟩
    · rw [h.clean it (sub hi) hd] at hf
      cases hf
    · obtain ⟨rank, hR⟩ := h.acyc
      exact ⟨rank, fun it hi => hR it (sub hi)⟩
theorem oldest_mem (r : List It) : ∀ x, oldest r x ∈ x :: r := by
  induction r with
  | nil => intro x; simp [oldest]
  | cons y r ih =>
    intro x
    rcases List.mem_cons.1 (ih (if y.used < x.used then y else x)) with h | h
    · show oldest r (if y.used < x.used then y else x) ∈ _
      rw [h]
      split <;> simp
    · show oldest r (if y.used < x.used then y else x) ∈ _
      simp [h]
theorem evict_ok {its : List It} {u : Nat} (h : ItsOk its u) : ItsOk (evictL its).2 u := by
  cases its with
  | nil => exact h
  | cons x r =>
    have hm := oldest_mem r x
    unfold evictL
    dsimp only
    have hD := isD_mem h.rise hm
    cases hd : (oldest r x).dirty with
    | false =>
      rw [if_neg (by simp)]
      rw [hd] at hD
      exact delIt_ok h _ hD
    | true =>
      rw [if_pos rfl]
      have hp : ∀ k ∈ [(oldest r x).key], Present (x :: r) k := fun k hk => by
        simp only [List.mem_singleton] at hk
        exact ⟨_, hm, hk.symm⟩
      refine delIt_ok (write_ok h _ hp) _ ?_
      rw [write_isD]
      have := (lines_ok h _ hp).keys (oldest r x).key (by simp)
      simp [this]
theorem evict_len {its : List It} {u : Nat} (h : ItsOk its u) (h0 : its ≠ []) : (evictL its).2.length + 1 = its.length := by
  cases its with
  | nil => exact absurd rfl h0
  | cons x r =>
    have hm := oldest_mem r x
    have key : ∀ (l : List It), l.map It.key = (x :: r).map It.key → (delIt l (oldest r x).key).length + 1 = (x :: r).length := fun l hl => by
      have hr := rise_keys h.rise hl
      have hk : (oldest r x).key ∈ l.map It.key := by rw [hl]; exact List.mem_map.2 ⟨_, hm, rfl⟩
      obtain ⟨y, hy, e⟩ := List.mem_map.1 hk
      have hlen : l.length = (x :: r).length := by simpa using congrArg List.length hl
      obtain ⟨L1, L2, rfl⟩ := List.append_of_mem hy
      rw [← e, ← hlen]
      rw [List.pairwise_append, List.pairwise_cons] at hr
      obtain ⟨_, ⟨h1, _⟩, h2⟩ := hr
      unfold delIt
      rw [List.filter_append, List.filter_cons]
      have e1 : L1.filter (fun z => !decide (z.key = y.key)) = L1 := List.filter_eq_self.2 fun z hz => by have := h2 z hz y (by simp); simp; omega
      have e2 : L2.filter (fun z => !decide (z.key = y.key)) = L2 := List.filter_eq_self.2 fun z hz => by have := h1 z hz; simp; omega
      rw [e1, e2]
      simp
      omega
    unfold evictL
    dsimp only
    split
    · refine key _ ?_
      unfold writeL
      rw [endR_keys, cleanL_keys]
    · exact key _ rfl
theorem setIt_mem {its : List It} {k : Int} {g : It → It} {it : It} (h : it ∈ setIt its k g) : ∃ y ∈ its, it = if y.key = k then g y else y := by
  obtain ⟨y, hy, e⟩ := List.mem_map.1 h
  exact ⟨y, hy, e.symm⟩
theorem setIt_keys (its : List It) (k : Int) (g : It → It) (hg : ∀ y, (g y).key = y.key) : (setIt its k g).map It.key = its.map It.key := by
  unfold setIt
  rw [List.map_map]
  refine List.map_congr_left fun y _ => ?_
  show (if y.key = k then g y else y).key = y.key
  split
  · exact hg y
  · rfl
theorem setIt_isD {its : List It} {k : Int} {g : It → It} (hg : ∀ y, (g y).key = y.key) (hd : ∀ y, y.dirty = true → (g y).dirty = true) {x : Int} (h : isD its x = true) : isD (setIt its k g) x = true := by
  obtain ⟨y, hy, e, h1⟩ := isD_iff.1 h
  refine isD_iff.2 ⟨_, List.mem_map.2 ⟨y, hy, rfl⟩, ?_, ?_⟩
  · split
    · rw [hg]; exact e
    · exact e
  · split
    · exact hd y h1
    · exact h1
theorem ins_mem {its : List It} {x it : It} : it ∈ insIt its x ↔ it = x ∨ (it ∈ its ∧ it.key ≠ x.key) := by
  unfold insIt
  rw [List.mem_append, List.mem_cons, List.mem_filter, List.mem_filter]
  simp only [decide_eq_true_eq]
  constructor
  · rintro (⟨h1, h2⟩ | rfl | ⟨h1, h2⟩)
    · exact Or.inr ⟨h1, by omega⟩
    · exact Or.inl rfl
    · exact Or.inr ⟨h1, by omega⟩
  · rintro (rfl | ⟨h1, h2⟩)
    · exact Or.inr (Or.inl rfl)
    · rcases Int.lt_or_gt_of_ne h2 with h | h
      · exact Or.inl ⟨h1, h⟩
      · exact Or.inr (Or.inr ⟨h1, h⟩)
theorem put_ok {its : List It} {u : Nat} (h : ItsOk its u) {k : Int} (hk : -9223372036854775808 ≤ k ∧ k ≤ 9223372036854775807) {b : List Int} (hb : b.length ≤ 1000) (d : Bool) (hu : u + 1 ≤ 1000000) : ItsOk (putIts its (u + 1) k b d) (u + 1) := by
  unfold putIts
  split
  · have key : ∀ {it}, it ∈ setIt its k (fun it => { it with bs := b, dirty := it.dirty || d, used := u + 1 }) → ∃ y ∈ its, it.key = y.key ∧ it.firsts = y.firsts ∧ (it.used = y.used ∨ it.used = u + 1) ∧ (it.bs = y.bs ∨ it.bs = b) ∧ (it.dirty = false → y.dirty = false) := fun {it} hi => by
      obtain ⟨y, hy, e⟩ := setIt_mem hi
      refine ⟨y, hy, ?_⟩
      rw [e]
      split
      · exact ⟨rfl, rfl, Or.inr rfl, Or.inr rfl, fun h => by simp at h; exact h.1⟩
      · exact ⟨rfl, rfl, Or.inl rfl, Or.inl rfl, fun h => h⟩
    refine ⟨rise_keys h.rise (setIt_keys its k _ fun _ => rfl), fun it hi => ?_, fun it hi => ?_, fun it hi f hf => ?_, fun it hi hd => ?_, fun it hi => ?_, hu, fun it hi => ?_, ?_⟩
    · obtain ⟨y, hy, _, _, e | e, _⟩ := key hi
      · have := h.used y hy
        omega
      · omega
    · obtain ⟨y, hy, _, _, _, e | e, _⟩ := key hi
      · rw [e]; exact h.bsl y hy
      · rw [e]; exact hb
    · obtain ⟨y, hy, _, e, _⟩ := key hi
      rw [e] at hf
      refine setIt_isD (g := fun it => { it with bs := b, dirty := it.dirty || d, used := u + 1 }) (fun _ => rfl) (fun y hd => ?_) (h.fdirty y hy f hf)
      show (y.dirty || d) = true
      rw [hd]; rfl
    · obtain ⟨y, hy, _, e, _, _, hd'⟩ := key hi
      rw [e]
      exact h.clean y hy (hd' hd)
    · obtain ⟨y, hy, _, e, _⟩ := key hi
      rw [e]
      exact h.nodup y hy
    · obtain ⟨y, hy, e, _⟩ := key hi
      rw [e]
      exact h.kr y hy
    · obtain ⟨rank, hR⟩ := h.acyc
      refine ⟨rank, fun it hi f hf => ?_⟩
      obtain ⟨y, hy, e, e2, _⟩ := key hi
      rw [e]
      exact hR y hy f (e2 ▸ hf)
  · rename_i hno
    have hne : ∀ y ∈ its, y.key ≠ k := fun y hy e => hno (hasK_iff.2 ⟨y, hy, e⟩)
    refine ⟨?_, fun it hi => ?_, fun it hi => ?_, fun it hi f hf => ?_, fun it hi hd => ?_, fun it hi => ?_, hu, fun it hi => ?_, ?_⟩
    · unfold insIt
      rw [List.pairwise_append, List.pairwise_cons]
      refine ⟨h.rise.sublist List.filter_sublist, ⟨fun y hy => by simpa using (List.mem_filter.1 hy).2, h.rise.sublist List.filter_sublist⟩, fun y hy z hz => ?_⟩
      have h1 : y.key < k := by simpa using (List.mem_filter.1 hy).2
      rcases List.mem_cons.1 hz with rfl | hz
      · exact h1
      · have h2 : k < z.key := by simpa using (List.mem_filter.1 hz).2
        omega
    · rcases ins_mem.1 hi with rfl | ⟨hi, _⟩
      · exact Nat.le_refl _
      · have := h.used it hi
        omega
    · rcases ins_mem.1 hi with rfl | ⟨hi, _⟩
      · exact hb
      · exact h.bsl it hi
    · rcases ins_mem.1 hi with rfl | ⟨hi, _⟩
      · cases hf
      · obtain ⟨y, hy, e, hd⟩ := isD_iff.1 (h.fdirty it hi f hf)
        exact isD_iff.2 ⟨y, ins_mem.2 (Or.inr ⟨hy, hne y hy⟩), e, hd⟩
    · rcases ins_mem.1 hi with rfl | ⟨hi, _⟩
      · rfl
      · exact h.clean it hi hd
    · rcases ins_mem.1 hi with rfl | ⟨hi, _⟩
      · exact List.nodup_nil
      · exact h.nodup it hi
    · rcases ins_mem.1 hi with rfl | ⟨hi, _⟩
      · exact hk
      · exact h.kr it hi
    · obtain ⟨rank, hR⟩ := h.acyc
      refine ⟨rank, fun it hi f hf => ?_⟩
      rcases ins_mem.1 hi with rfl | ⟨hi, _⟩
      · cases hf
      · exact hR it hi f hf
theorem ins_len {its : List It} {x : It} (h : ∀ y ∈ its, y.key ≠ x.key) : (insIt its x).length = its.length + 1 := by
  induction its with
  | nil => rfl
  | cons y r ih =>
    have h1 := ih fun z hz => h z (by simp [hz])
    unfold insIt at h1 ⊢
    rw [List.length_append, List.length_cons] at h1 ⊢
    rw [List.filter_cons, List.filter_cons]
    rcases Int.lt_or_gt_of_ne (h y (by simp)) with hy | hy
    · rw [if_pos (by simpa using hy), if_neg (by simp; omega)]
      simp only [List.length_cons]
      omega
    · rw [if_neg (by simp; omega), if_pos (by simpa using hy)]
      simp only [List.length_cons]
      omega
theorem put_len {its : List It} {u : Nat} {k : Int} {b : List Int} {d : Bool} : (putIts its u k b d).length ≤ its.length + 1 ∧ (putIts its u k b d) ≠ [] := by
  unfold putIts
  split
  · rename_i h
    obtain ⟨y, hy, _⟩ := hasK_iff.1 h
    refine ⟨by unfold setIt; simp, fun e => ?_⟩
    unfold setIt at e
    rw [List.map_eq_nil_iff] at e
    rw [e] at hy
    cases hy
  · rename_i h
    refine ⟨?_, fun e => by unfold insIt at e; simp at e⟩
    rw [ins_len (x := ⟨k, b, u, d, []⟩) fun y hy e => h (hasK_iff.2 ⟨y, hy, e⟩)]
    exact Nat.le_refl _
theorem Lru.put_ok {C : Lru} (h : C.Ok) {k : Int} (hk : -9223372036854775808 ≤ k ∧ k ≤ 9223372036854775807) {b : List Int} (hb : b.length ≤ 1000) (d : Bool) (hu : C.uses + 1 ≤ 1000000) : (C.put k b d).2.Ok := by
  have h1 := Go.Proofs.Ythmkmhfoicfapaa.put_ok h.its hk hb d hu
  have h2 := put_len (its := C.items) (u := C.uses + 1) (k := k) (b := b) (d := d)
  unfold Lru.put
  dsimp only
  split
  · refine ⟨evict_ok h1, ?_, h.room1, h.room2⟩
    have h3 := evict_len h1 h2.2
    have h4 := h.many
    show (evictL _).2.length ≤ C.room
    omega
  · refine ⟨h1, ?_, h.room1, h.room2⟩
    show (putIts _ _ _ _ _).length ≤ C.room
    omega
theorem get_its_ok {its : List It} {u : Nat} (h : ItsOk its u) (k : Int) (hu : u + 1 ≤ 1000000) : ItsOk (setIt its k fun x => { x with used := u + 1 }) (u + 1) := by
  have key : ∀ {it}, it ∈ setIt its k (fun x => { x with used := u + 1 }) → ∃ y ∈ its, it.key = y.key ∧ it.firsts = y.firsts ∧ (it.used = y.used ∨ it.used = u + 1) ∧ it.bs = y.bs ∧ it.dirty = y.dirty := fun {it} hi => by
    obtain ⟨y, hy, e⟩ := setIt_mem hi
    refine ⟨y, hy, ?_⟩
    rw [e]
    split
    · exact ⟨rfl, rfl, Or.inr rfl, rfl, rfl⟩
    · exact ⟨rfl, rfl, Or.inl rfl, rfl, rfl⟩
  refine ⟨rise_keys h.rise (setIt_keys its k _ fun _ => rfl), fun it hi => ?_, fun it hi => ?_, fun it hi f hf => ?_, fun it hi hd => ?_, fun it hi => ?_, hu, fun it hi => ?_, ?_⟩
  · obtain ⟨y, hy, _, _, e | e, _⟩ := key hi
    · have := h.used y hy
      omega
    · omega
  · obtain ⟨y, hy, _, _, _, e, _⟩ := key hi
    rw [e]; exact h.bsl y hy
  · obtain ⟨y, hy, _, e, _⟩ := key hi
    rw [e] at hf
    exact setIt_isD (g := fun x => { x with used := u + 1 }) (fun _ => rfl) (fun y hd => hd) (h.fdirty y hy f hf)
  · obtain ⟨y, hy, _, e, _, _, hd'⟩ := key hi
    rw [e]
    exact h.clean y hy (hd' ▸ hd)
  · obtain ⟨y, hy, _, e, _⟩ := key hi
    rw [e]
    exact h.nodup y hy
  · obtain ⟨y, hy, e, _⟩ := key hi
    rw [e]
    exact h.kr y hy
  · obtain ⟨rank, hR⟩ := h.acyc
    refine ⟨rank, fun it hi f hf => ?_⟩
    obtain ⟨y, hy, e, e2, _⟩ := key hi
    rw [e]
    exact hR y hy f (e2 ▸ hf)
theorem Lru.get_ok {C : Lru} (h : C.Ok) (k : Int) (hu : C.uses + 1 ≤ 1000000) : (C.get k).2.2.Ok := by
  unfold Lru.get
  split
  · exact h
  · exact ⟨get_its_ok h.its k hu, by show (setIt _ _ _).length ≤ C.room; unfold setIt; rw [List.length_map]; exact h.many, h.room1, h.room2⟩
theorem after_its_ok {its : List It} {u : Nat} (h : ItsOk its u) {k f : Int} (hk : isD its k = true) (hf : isD its f = true) (hn : k ∉ linesL its [f]) : ItsOk (setIt its k fun x => if f ∈ x.firsts then x else { x with firsts := x.firsts ++ [f] }) u := by
  obtain ⟨yf, hyf, ef, _⟩ := isD_iff.1 hf
  have hr : ¬ Reach its f k := fun hr => hn ((line_reach h ⟨yf, hyf, ef⟩ k).2 hr)
  have key : ∀ {it}, it ∈ setIt its k (fun x => if f ∈ x.firsts then x else { x with firsts := x.firsts ++ [f] }) → ∃ y ∈ its, it.key = y.key ∧ (it.firsts = y.firsts ∨ (y.key = k ∧ f ∉ y.firsts ∧ it.firsts = y.firsts ++ [f])) ∧ it.used = y.used ∧ it.bs = y.bs ∧ it.dirty = y.dirty := fun {it} hi => by
    obtain ⟨y, hy, e⟩ := setIt_mem hi
    refine ⟨y, hy, ?_⟩
    rw [e]
    split
    · rename_i hyk
      split
      · exact ⟨rfl, Or.inl rfl, rfl, rfl, rfl⟩
      · rename_i hfy
        exact ⟨rfl, Or.inr ⟨hyk, hfy, rfl⟩, rfl, rfl, rfl⟩
    · exact ⟨rfl, Or.inl rfl, rfl, rfl, rfl⟩
  have hgk : ∀ y : It, (if f ∈ y.firsts then y else { y with firsts := y.firsts ++ [f] }).key = y.key := fun y => by split <;> rfl
  have hgd : ∀ y : It, y.dirty = true → (if f ∈ y.firsts then y else { y with firsts := y.firsts ++ [f] }).dirty = true := fun y hd => by split <;> exact hd
  refine ⟨rise_keys h.rise (setIt_keys its k _ hgk), fun it hi => ?_, fun it hi => ?_, fun it hi g hg => ?_, fun it hi hd => ?_, fun it hi => ?_, h.small, fun it hi => ?_, ?_⟩
  · obtain ⟨y, hy, _, _, e, _⟩ := key hi
    rw [e]; exact h.used y hy
  · obtain ⟨y, hy, _, _, _, e, _⟩ := key hi
    rw [e]; exact h.bsl y hy
  · obtain ⟨y, hy, _, e, _⟩ := key hi
    refine setIt_isD hgk hgd ?_
    rcases e with e | ⟨_, _, e⟩
    · rw [e] at hg
      exact h.fdirty y hy g hg
    · rw [e] at hg
      rcases List.mem_append.1 hg with hg | hg
      · exact h.fdirty y hy g hg
      · simp only [List.mem_singleton] at hg
        rw [hg]; exact hf
  · obtain ⟨y, hy, _, e, _, _, hd'⟩ := key hi
    rw [hd'] at hd
    rcases e with e | ⟨e1, _, _⟩
    · rw [e]; exact h.clean y hy hd
    · have := isD_mem h.rise hy
      rw [e1, hk, hd] at this
      cases this
  · obtain ⟨y, hy, _, e, _⟩ := key hi
    rcases e with e | ⟨_, e2, e⟩
    · rw [e]; exact h.nodup y hy
    · rw [e, List.nodup_append]
      refine ⟨h.nodup y hy, by simp, fun a ha b hb e => ?_⟩
      simp only [List.mem_singleton] at hb
      exact e2 (by rw [← hb, ← e]; exact ha)
  · obtain ⟨y, hy, e, _⟩ := key hi
    rw [e]
    exact h.kr y hy
  · obtain ⟨rank, hR⟩ := h.ranked
    classical
    refine ⟨fun x => rank x + if Reach its x k then rank f + 1 else 0, fun it hi g hg => ?_⟩
    obtain ⟨y, hy, e, e2, _⟩ := key hi
    rw [e]
    have old : ∀ g ∈ y.firsts, (rank g + if Reach its g k then rank f + 1 else 0) < rank y.key + if Reach its y.key k then rank f + 1 else 0 := fun g hg => by
      have h1 := hR _ _ (⟨y, hy, rfl, hg⟩ : Edge its y.key g)
      by_cases hgk : Reach its g k
      · rw [if_pos hgk, if_pos (Reach.step ⟨y, hy, rfl, hg⟩ hgk)]
        omega
      · rw [if_neg hgk]
        omega
    rcases e2 with e2 | ⟨e1, _, e2⟩
    · exact old g (e2 ▸ hg)
    · rw [e2] at hg
      rcases List.mem_append.1 hg with hg | hg
      · exact old g hg
      · simp only [List.mem_singleton] at hg
        show (rank g + if Reach its g k then rank f + 1 else 0) < rank y.key + if Reach its y.key k then rank f + 1 else 0
        rw [hg, e1, if_neg hr, if_pos (Reach.refl k)]
        omega
theorem Lru.after_ok {C : Lru} (h : C.Ok) (k f : Int) : (C.after k f).2.Ok := by
  unfold Lru.after
  split
  · rename_i hd
    simp only [Bool.and_eq_true] at hd
    split
    · exact h
    · rename_i hn
      exact ⟨after_its_ok h.its hd.1 hd.2 hn, by show (setIt _ _ _).length ≤ C.room; unfold setIt; rw [List.length_map]; exact h.many, h.room1, h.room2⟩
  · exact h
theorem dirty_present (its : List It) : ∀ k ∈ dirtyL its, Present its k := fun k hk => by
  unfold dirtyL at hk
  obtain ⟨y, hy, e⟩ := List.mem_map.1 hk
  exact ⟨y, (List.mem_filter.1 hy).1, e⟩
theorem Lru.flush_ok {C : Lru} (h : C.Ok) : C.flush.2.Ok := by
  refine ⟨write_ok h.its _ (dirty_present _), ?_, h.room1, h.room2⟩
  show (writeL _ _).length ≤ C.room
  unfold writeL endR cleanL
  rw [List.length_map, List.length_map]
  exact h.many
theorem Lru.drop_ok {C : Lru} (h : C.Ok) (k : Int) : (C.drop k).Ok := by
  refine ⟨Go.Proofs.Ythmkmhfoicfapaa.drop_ok h.its k, ?_, h.room1, h.room2⟩
  show (dropL _ _).length ≤ C.room
  have h1 : (delIt C.items k).length ≤ C.items.length := List.length_filter_le _ _
  have h2 := h.many
  unfold dropL
  split
  · unfold endR
    rw [List.length_map]
    omega
  · omega
theorem Lru.new_ok {room : Nat} (h1 : 1 ≤ room) (h2 : room ≤ 1024) : (Lru.new room).Ok :=
  ⟨⟨List.Pairwise.nil, (by simp [Lru.new]), (by simp [Lru.new]), (by simp [Lru.new]), (by simp [Lru.new]), (by simp [Lru.new]), Nat.zero_le _, (by simp [Lru.new]), ⟨fun _ => 0, by simp [Lru.new]⟩⟩, Nat.zero_le _, h1, h2⟩
end Go.Proofs.Ythmkmhfoicfapaa
