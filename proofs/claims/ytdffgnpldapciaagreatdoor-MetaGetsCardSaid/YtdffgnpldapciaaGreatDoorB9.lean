/-
  Tables in memory: what a slice of slices of entries reads as (layer 8). Conditions: none.
-/
import Derived.Test.YtdffgnpldapciaaGreatDoorA9
namespace Go.Proofs.YtdffgnpldapciaaGreatDoor
open Go.RowKit
set_option linter.unusedVariables false

/-- A leaf as its slice says it: where it lies, how long, how much room, its entries. -/
abbrev LfD := Option Addr × Nat × Nat × List En
def cvD (d : LfD) : List Value := [.slice d.1 d.2.1 d.2.2.1]
theorem en_rowed : Rowed Tryz.prog 88 91 5 40 enV where
  under := Tryz.underlying88
  info := by
    have h : (Tryz.prog.info? 91).map (fun i => (i.zero.map (fun z => z.cells.size), i.size, i.bytes)) = some (some 5, 5, 40) := by kernel_rfl
    obtain ⟨i, hi, he⟩ := Option.map_eq_some_iff.1 h
    simp only [Prod.mk.injEq] at he
    obtain ⟨z, hz, hzs⟩ := Option.map_eq_some_iff.1 he.1
    exact ⟨i, z, hi, hz, he.2.1, he.2.2, hzs⟩
  pos := by decide
  small := by decide
  len := enV_len
  one := enV_one
theorem lf_rowed : Rowed Tryz.prog 24 88 1 24 cvD where
  under := Tryz.underlying24
  info := by
    have h : (Tryz.prog.info? 88).map (fun i => (i.zero.map (fun z => z.cells.size), i.size, i.bytes)) = some (some 1, 1, 24) := by kernel_rfl
    obtain ⟨i, hi, he⟩ := Option.map_eq_some_iff.1 h
    simp only [Prod.mk.injEq] at he
    obtain ⟨z, hz, hzs⟩ := Option.map_eq_some_iff.1 he.1
    exact ⟨i, z, hi, hz, he.2.1, he.2.2, hzs⟩
  pos := by decide
  small := by decide
  len := fun _ => rfl
  one := fun x u hu => by
    simp only [cvD, List.mem_singleton] at hu
    subst hu
    rfl
/-- A leaf reads. -/
def LfR (w : World) (d : LfD) : Prop := Reads enV w d.1 d.2.1 d.2.2.2 ∧ d.2.1 ≤ d.2.2.1 ∧ (d.1 = none → d.2.2.1 = 0) ∧ ∀ x ∈ d.2.2.2, EnOk x
/-- A table reads. -/
def TabR (w : World) (a : Option Addr) (len : Nat) (ds : List LfD) : Prop := Reads cvD w a len ds ∧ ∀ d ∈ ds, LfR w d
def tbOf (ds : List LfD) : Tb := ds.map (·.2.2.2)
theorem LfR.later {w w' : World} {d : LfD} (h : LfR w d) (hb : Below w.heap.size w w') : LfR w' d := ⟨h.1.later hb, h.2⟩
theorem TabR.later {w w' : World} {a : Option Addr} {len : Nat} {ds : List LfD} (h : TabR w a len ds) (hb : Below w.heap.size w w') : TabR w' a len ds := ⟨h.1.later hb, fun d hd => (h.2 d hd).later hb⟩
theorem TabR.len {w : World} {a : Option Addr} {len : Nat} {ds : List LfD} (h : TabR w a len ds) : ds.length = len := h.1.1
theorem TabR.tlen {w : World} {a : Option Addr} {len : Nat} {ds : List LfD} (h : TabR w a len ds) : (tbOf ds).length = len := by
  unfold tbOf
  rw [List.length_map]
  exact h.1.1
theorem LfR.len {w : World} {d : LfD} (h : LfR w d) : d.2.2.2.length = d.2.1 := h.1.1
/-- The leaf at a place. -/
theorem TabR.at {w : World} {a : Option Addr} {len : Nat} {ds : List LfD} (h : TabR w a len ds) (i : Nat) (hi : i < len) :
    ∃ b off al ll cl xs, a = some ⟨b, off, none⟩ ∧ w.cell? ⟨b, off + i, none⟩ = some (.slice al ll cl) ∧ LfR w (al, ll, cl, xs) ∧ tbAt (tbOf ds) i = xs ∧ ds[i]? = some (al, ll, cl, xs) := by
  obtain ⟨b, off, rfl⟩ := h.1.lies (by omega)
  have hl := h.len
  have hd : ds[i]? = some ds[i] := List.getElem?_eq_getElem (by omega)
  have hc := h.1.cellAt lf_rowed i 0 ds[i] _ hd rfl
  rw [Nat.mul_one, Nat.add_zero] at hc
  refine ⟨b, off, ds[i].1, ds[i].2.1, ds[i].2.2.1, ds[i].2.2.2, rfl, hc, h.2 _ (List.getElem_mem _), ?_, hd⟩
  unfold tbAt tbOf
  rw [List.getD_eq_getElem?_getD, List.getElem?_map, hd]
  rfl
/-- The entry at a place of a leaf. -/
theorem LfR.at {w : World} {d : LfD} (h : LfR w d) (k : Nat) (hk : k < d.2.1) : ∃ b off, d.1 = some ⟨b, off, none⟩ ∧ EnOk (lfAt d.2.2.2 k) ∧
    w.cell? ⟨b, off + k * 5, none⟩ = some (.int .i64 (lfAt d.2.2.2 k).1) ∧ w.cell? ⟨b, off + k * 5 + 1, none⟩ = some (.int .i64 (lfAt d.2.2.2 k).2.1) ∧ w.cell? ⟨b, off + k * 5 + 2, none⟩ = some (.int .i64 (lfAt d.2.2.2 k).2.2.1) ∧
    w.cell? ⟨b, off + k * 5 + 3, none⟩ = some (.int .i64 (lfAt d.2.2.2 k).2.2.2.1) ∧ w.cell? ⟨b, off + k * 5 + 4, none⟩ = some (.int .u32 (lfAt d.2.2.2 k).2.2.2.2) := by
  obtain ⟨al, ll, cl, xs⟩ := d
  obtain ⟨h1, h2, h3, h4⟩ := h
  dsimp only at h1 h2 h3 h4 hk ⊢
  obtain ⟨b, off, rfl⟩ := h1.lies (by omega)
  have hl := h1.1
  have hx : xs[k]? = some (lfAt xs k) := by rw [lfAt_in (by omega), List.getElem?_eq_getElem (by omega)]
  have hm : lfAt xs k ∈ xs := by rw [lfAt_in (by omega)]; exact List.getElem_mem _
  refine ⟨b, off, rfl, h4 _ hm, ?_, ?_, ?_, ?_, ?_⟩
  · have := h1.cellAt en_rowed k 0 _ _ hx rfl
    exact this
  · have := h1.cellAt en_rowed k 1 _ _ hx rfl
    rwa [← Nat.add_assoc] at this
  · have := h1.cellAt en_rowed k 2 _ _ hx rfl
    rwa [← Nat.add_assoc] at this
  · have := h1.cellAt en_rowed k 3 _ _ hx rfl
    rwa [← Nat.add_assoc] at this
  · have := h1.cellAt en_rowed k 4 _ _ hx rfl
    rwa [← Nat.add_assoc] at this
theorem blk_next9 (w : World) (t t' : TypeId) (cs cs' : Array Value) : ((w.alloc (.cells cs t)).alloc (.cells cs' t')).heap[w.heap.size + 1]? = some (.cells cs' t' (0, 0)) := by
  have := Blk.new (w.alloc (.cells cs t)) t' cs'
  rwa [World.size_alloc] at this
theorem tbl_size : (Tryz.prog.info? 26).map (·.size) = some 1 := by kernel_rfl
end Go.Proofs.YtdffgnpldapciaaGreatDoor
