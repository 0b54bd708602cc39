/-
  What sync.Once's Do does the first time, and when it is done. Conditions: the Once and the table lie in blocks of their own, the lock is free.
-/
import Derived.Test.YthalagemihlhlaaE
namespace Go.Proofs.Ythalagemihlhlaa
open Go.RowKit

theorem setRow_size (w : World) (g : Nat) (c : Array Value) : (w.setRow g c).heap.size = w.heap.size := by simp [World.setRow]
theorem setRow_same (w : World) (g : Nat) (c old : Array Value) (t : TypeId) (fr : Nat × Nat) (h : w.heap[g]? = some (.cells old t fr)) : (w.setRow g c).heap[g]? = some (.cells c t fr) := setRow_heap w g old c t fr h
theorem setRow_off (w : World) (g k : Nat) (c : Array Value) (h : k ≠ g) : (w.setRow g c).heap[k]? = w.heap[k]? := by
  simp only [World.setRow, Array.getElem?_modify]
  rw [if_neg (fun e => h e.symm)]
theorem Below.setRow {B : Nat} {a w : World} (h : Below B a w) {g : Nat} (hp : B ≤ g) (c : Array Value) : Below B a (w.setRow g c) :=
  h.trans ⟨rfl, rfl, rfl, by rw [setRow_size]; exact Nat.le_refl _, fun k hk => setRow_off _ _ _ _ (by omega)⟩
theorem built_size (w : World) (T : Nat) : (built w T).heap.size = w.heap.size + 2 := by unfold built; rw [setRow_size]; simp
theorem built_off (w : World) (T k : Nat) (h : k ≠ T) (hk : k < w.heap.size) : (built w T).heap[k]? = w.heap[k]? := by
  unfold built
  rw [setRow_off _ _ _ _ h, Below.heap_alloc _ _ _ (by simp; omega), Below.heap_alloc _ _ _ hk]
theorem built_below {B : Nat} {a w : World} {T : Nat} (h : Below B a w) (hB : B ≤ w.heap.size) (hT : B ≤ T) : Below B a (built w T) :=
  Below.setRow ((h.alloc hB _).alloc (by simp; omega) _) hT _
theorem built_same (w : World) (T : Nat) (hT : w.heap[T]? = some (.cells (tabTo 0) 49)) : (built w T).heap[T]? = some (.cells (tabTo 16) 49) := by
  have hlt := lt_of_block hT
  unfold built
  refine setRow_same _ _ _ (tabTo 0) 49 (0, 0) ?_
  rw [Below.heap_alloc _ _ _ (by simp; omega), Below.heap_alloc _ _ _ hlt]
  exact hT
/-- A sync.Once in a block of its own. -/
def onceRow (done state : Int) : Array Value := #[.int .u32 done, .int .i32 state, .int .u32 0]
theorem set_once1 {w : World} {B : Nat} {d s v : Int} (h : w.heap[B]? = some (.cells (onceRow d s) 47)) : (w.setCell ⟨B, 1, none⟩ (.int .i32 v)).heap[B]? = some (.cells (onceRow d v) 47) := by
  rw [heap_setCell_same w B 1 _ 47 _ h]
  rfl
theorem set_once0 {w : World} {B : Nat} {d s v : Int} (h : w.heap[B]? = some (.cells (onceRow d s) 47)) : (w.setCell ⟨B, 0, none⟩ (.int .u32 v)).heap[B]? = some (.cells (onceRow v s) 47) := by
  rw [heap_setCell_same w B 0 _ 47 _ h]
  rfl
theorem once0 {w : World} {B : Nat} {d s : Int} (h : w.heap[B]? = some (.cells (onceRow d s) 47)) : w.cell? ⟨B, 0, none⟩ = some (.int .u32 d) := by rw [cell_of_row w B 0 _ 47 _ h]; rfl
theorem once1 {w : World} {B : Nat} {d s : Int} (h : w.heap[B]? = some (.cells (onceRow d s) 47)) : w.cell? ⟨B, 1, none⟩ = some (.int .i32 s) := by rw [cell_of_row w B 1 _ 47 _ h]; rfl
theorem onceF {w : World} {B : Nat} {d s : Int} (i : Nat) (h : w.heap[B]? = some (.cells (onceRow d s) 47)) : w.frozen? ⟨B, i, none⟩ = false := frozen_of_row w B i _ 47 h

/-- The world behind the first Do. -/
def first (w : World) (B T : Nat) : World := (((built (w.setCell ⟨B, 1, none⟩ (.int .i32 1)) T).drew).setCell ⟨B, 0, none⟩ (.int .u32 1)).setCell ⟨B, 1, none⟩ (.int .i32 0)

set_option maxRecDepth 100000 in
set_option maxHeartbeats 1600000 in
theorem slow_any (B T : Nat) (hBT : B ≠ T) (w : World) (hB : w.heap[B]? = some (.cells (onceRow 0 0) 47)) (hT : w.heap[T]? = some (.cells (tabTo 0) 49)) :
    Calls Try.prog 23 #[.pointer (some ⟨B, 0, none⟩), .func (.func 17) #[] #[.pointer (some ⟨T, 0, none⟩)]] w fun e w' => e = .returned (.tuple #[]) ∧ w' = first w B T := by
  have hB1 := set_once1 (v := 1) hB
  have hBs := lt_of_block hB
  have hT1 : (w.setCell ⟨B, 1, none⟩ (.int .i32 1)).heap[T]? = some (.cells (tabTo 0) 49) := (Below.heap_setCell _ _ _ _ (Ne.symm hBT)).trans hT
  have hB2 : (built (w.setCell ⟨B, 1, none⟩ (.int .i32 1)) T).heap[B]? = some (.cells (onceRow 0 1) 47) := (built_off _ _ _ hBT (by simpa using hBs)).trans hB1
  have hB3 := set_once0 (v := 1) (w := (built (w.setCell ⟨B, 1, none⟩ (.int .i32 1)) T).drew) hB2
  have hl := run_call_load (P := Try.prog) Try.func24 (by kernel_rfl) (by kernel_rfl) (by kernel_rfl) .u32 (by kernel_rfl) (once0 hB1)
  have c1 := once1 hB
  have f1 := onceF 1 hB
  have c0' := once0 hB2
  have f0' := onceF 0 hB2
  have c1' := once1 hB3
  have f1' := onceF 1 hB3
  have HT1 := Lib.hid hT1
  have C0 := Lib.hid c0'
  have F0 := Lib.hid f0'
  have C1 := Lib.hid c1'
  have F1 := Lib.hid f1'
  clear hB hT hB1 hT1 hB2 hB3 c0' f0' c1' f1'
  have hnot : ∀ (x : Bool) (w : World), (Op.unary .not (.bool x)).run Try.prog w = .ok (.bool (!x)) w := fun _ _ => rfl
  go_enter_defers Try.func23, Try.ntmps23
  go_wp2_with (first | (go_at_call 25; refine (lock_free ⟨B, 1, none⟩ _ c1 f1).mono ?_; rintro e w' ⟨rfl, rfl⟩) | (go_at_call 17; refine (build_any T _ HT1.out).mono ?_; rintro e w' ⟨rfl, rfl⟩) | (go_at_call 22; go_in))
  -- the door: two deferred calls, the last laid first
  refine leaves_cons (f := 27) (args := #[.pointer (some ⟨B, 0, none⟩), .bool true]) (by simp) (by simp [go_sem]) ?_
  refine (store_deferred ⟨B, 0, none⟩ (.int .u32 0) .returning _ C0.out F0.out).mono ?_
  rintro e u' w'' ⟨rfl, rfl, rfl⟩
  refine leaves_cons (f := 26) (args := #[.pointer (some ⟨B, 1, none⟩)]) (by simp [settle]) (by simp [go_sem]) ?_
  refine (unlock_deferred ⟨B, 1, none⟩ _ _ C1.out F1.out).mono ?_
  rintro e u' w'' ⟨rfl, rfl, rfl⟩
  simp [Leaves, settle, results, Try.results23, first]

set_option maxRecDepth 100000 in
set_option maxHeartbeats 1600000 in
/-- '(*sync.Once).Do', not yet done, the lock free. -/
theorem do_first (B T : Nat) (hBT : B ≠ T) (w : World) (hB : w.heap[B]? = some (.cells (onceRow 0 0) 47)) (hT : w.heap[T]? = some (.cells (tabTo 0) 49)) :
    Calls Try.prog 19 #[.pointer (some ⟨B, 0, none⟩), .func (.func 17) #[] #[.pointer (some ⟨T, 0, none⟩)]] w fun e w' => e = .returned (.tuple #[]) ∧ w' = first w B T := by
  have hl := run_call_load (P := Try.prog) Try.func24 (by kernel_rfl) (by kernel_rfl) (by kernel_rfl) .u32 (by kernel_rfl) (once0 hB)
  have HB := Lib.hid hB
  have HT := Lib.hid hT
  clear hB hT
  have hnot : ∀ (x : Bool) (w : World), (Op.unary .not (.bool x)).run Try.prog w = .ok (.bool (!x)) w := fun _ _ => rfl
  go_enter Try.func19, Try.ntmps19
  go_wp2_with (first | (go_at_call 23; refine (slow_any B T hBT _ HB.out HT.out).mono ?_; rintro e w' ⟨rfl, rfl⟩) | (go_at_call 22; go_in))
  go_end0
  exact ⟨rfl, rfl⟩

/-- '(*sync.Once).Do', done already: the function is not called. -/
theorem do_done (B : Nat) (fv : Value) (w : World) (hB : w.heap[B]? = some (.cells (onceRow 1 0) 47)) :
    Calls Try.prog 19 #[.pointer (some ⟨B, 0, none⟩), fv] w fun e w' => e = .returned (.tuple #[]) ∧ w = w' := by
  have hl := run_call_load (P := Try.prog) Try.func24 (by kernel_rfl) (by kernel_rfl) (by kernel_rfl) .u32 (by kernel_rfl) (once0 hB)
  clear hB
  have hnot : ∀ (x : Bool) (w : World), (Op.unary .not (.bool x)).run Try.prog w = .ok (.bool (!x)) w := fun _ _ => rfl
  go_enter Try.func19, Try.ntmps19
  go_wp2
  go_end0
  exact ⟨rfl, rfl⟩

/-! What the world holds behind the first Do. -/
theorem first_once {w : World} {B T : Nat} (hBT : B ≠ T) (hB : w.heap[B]? = some (.cells (onceRow 0 0) 47)) : (first w B T).heap[B]? = some (.cells (onceRow 1 0) 47) := by
  have hBs := lt_of_block hB
  have h2 : (built (w.setCell ⟨B, 1, none⟩ (.int .i32 1)) T).heap[B]? = some (.cells (onceRow 0 1) 47) := (built_off _ _ _ hBT (by simpa using hBs)).trans (set_once1 hB)
  exact set_once1 (set_once0 (w := (built (w.setCell ⟨B, 1, none⟩ (.int .i32 1)) T).drew) h2)
theorem first_table {w : World} {B T : Nat} (hBT : B ≠ T) (hT : w.heap[T]? = some (.cells (tabTo 0) 49)) : (first w B T).heap[T]? = some (.cells (tabTo 16) 49) := by
  have hT1 : (w.setCell ⟨B, 1, none⟩ (.int .i32 1)).heap[T]? = some (.cells (tabTo 0) 49) := (Below.heap_setCell _ _ _ _ (Ne.symm hBT)).trans hT
  unfold first
  rw [Below.heap_setCell _ _ _ _ (Ne.symm hBT), Below.heap_setCell _ _ _ _ (Ne.symm hBT)]
  exact built_same _ _ hT1
theorem first_size (w : World) (B T : Nat) : (first w B T).heap.size = w.heap.size + 2 := by
  unfold first
  rw [World.size_setCell, World.size_setCell, World.size_drew, built_size, World.size_setCell]
theorem first_below {N : Nat} {a w : World} {B T : Nat} (h : Below N a w) (hN : N ≤ w.heap.size) (hB : N ≤ B) (hT : N ≤ T) : Below N a (first w B T) :=
  Below.setCell (Below.setCell (Below.drew (built_below (Below.setCell h hB _) (by simpa using hN) hT)) hB _) hB _
end Go.Proofs.Ythalagemihlhlaa
