/-
  What the project's own copyOf and withoutBlanks answer (package table). Conditions: the table reads, no more than 6000 leaves.
-/
import Derived.Test.YtlljcdmblmkblaaGreatN9
import Derived.Deep.RegionHeld3
namespace Go.Proofs.YtlljcdmblmkblaaGreat
open Go.RowKit
set_option linter.unusedVariables false

section
variable {X base : Nat} {s r : Value} {w0 W W' : World}
end
/-- A leaf, or none where it is blank. -/
def nbD (d : LfD) : LfD := if liveL d.2.2.2 then d else (none, 0, 0, [])
theorem nbD_is (d : LfD) : (nbD d).2.2.2 = nbL d.2.2.2 := by
  unfold nbD nbL
  split <;> rfl
theorem slice_front9 {a : Option Addr} {len cap p : Nat} (h1 : p ≤ cap) (w' : World) : (Instr.slice 34 (.slice a len cap) none (some (.int .i64 p)) none).run Tryz.prog w' = .ok (.slice a p cap) w' := by
  have hinf : (Tryz.prog.info? 68).map (fun i => i.size) = some 1 := by kernel_rfl
  obtain ⟨i0, hi0, _⟩ := Option.map_eq_some_iff.1 hinf
  cases a <;> simp [Instr.slice, Instr.sliceBounds, Instr.sliceBound, asIntOf, run_underlying Tryz.underlying34, sizeOf, typeInfo, hi0, h1, Addr.add, go_sem]
theorem nb_step (es : List LfD) (j : Nat) (d : LfD) (h : es[j]? = some d) : ((es.take j).map nbD ++ es.drop j).set j (nbD d) = (es.take (j + 1)).map nbD ++ es.drop (j + 1) := by
  have hj : j < es.length := (List.getElem?_eq_some_iff.1 h).1
  rw [mid_set _ _ _ _ (by rw [List.length_map, List.length_take]; omega) hj, List.take_add_one, h]
  simp
theorem nb_at (es : List LfD) (j : Nat) (d : LfD) (h : es[j]? = some d) : ((es.take j).map nbD ++ es.drop j)[j]? = some d := by
  have hj : j < es.length := (List.getElem?_eq_some_iff.1 h).1
  rw [List.getElem?_append_right (by rw [List.length_map, List.length_take]; omega), List.length_map, List.length_take, Nat.min_eq_left (by omega), Nat.sub_self, List.getElem?_drop, Nat.add_zero, h]
/-- How many leaves stay. -/
def endN (T : Tb) (j : Nat) : Nat := (trimN (T.map nbL) j).length
theorem endN_succ {T : Tb} {j : Nat} (hj : j < T.length) : endN T (j + 1) = if liveL (tbAt T j) then j + 1 else endN T j := by
  unfold endN
  show (if tbAt (T.map nbL) j = [] then trimN (T.map nbL) j else (T.map nbL).take (j + 1)).length = _
  rw [tbAt_map _ _ nbL_nil]
  by_cases hl : liveL (tbAt T j)
  · have hne : nbL (tbAt T j) ≠ [] := by
      unfold nbL
      rw [if_pos hl]
      rintro e
      rw [e] at hl
      obtain ⟨x, hx, _⟩ := hl
      cases hx
    rw [if_neg hne, if_pos hl, List.length_take, List.length_map]
    omega
  · have he : nbL (tbAt T j) = [] := by unfold nbL; rw [if_neg hl]
    rw [if_pos he, if_neg hl]
theorem endN_le (T : Tb) (j : Nat) (hj : j ≤ T.length) : endN T j ≤ j := (trimN_len _ _ (by rw [List.length_map]; exact hj)).1
theorem trim_take (T : Tb) : ∀ n, n ≤ T.length → trimN T n = T.take (trimN T n).length
  | 0, _ => rfl
  | n + 1, h => by
    show (if tbAt T n = [] then trimN T n else T.take (n + 1)) = T.take (if tbAt T n = [] then trimN T n else T.take (n + 1)).length
    by_cases e : tbAt T n = []
    · rw [if_pos e]
      exact trim_take T n (by omega)
    · rw [if_neg e, List.length_take, Nat.min_eq_left h]
theorem wb_is (es : List LfD) : tbOf ((es.map nbD).take (endN (tbOf es) es.length)) = wbT (tbOf es) := by
  unfold wbT
  have hl : (tbOf es).length = es.length := by unfold tbOf; rw [List.length_map]
  rw [trim_take _ _ (by rw [List.length_map]; exact Nat.le_refl _), hl]
  unfold endN tbOf
  rw [List.map_take, List.map_map, List.map_map]
  congr 1
  exact List.map_congr_left fun d _ => nbD_is d
end Go.Proofs.YtlljcdmblmkblaaGreat
