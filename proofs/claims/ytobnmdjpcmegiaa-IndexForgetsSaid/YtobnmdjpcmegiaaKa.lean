/-
  Pairs of a fingerprint and an entry: plain mathematics, their cells, equality of two of them, what a call leaves (layer 11). Conditions: none.
-/
import Derived.Test.YtobnmdjpcmegiaaBl
import Derived.Test.YtobnmdjpcmegiaaMath
import Derived.Deep.WholeRow
import Derived.Deep.MidRow
import Derived.Laws.Rows
import Derived.Laws.Tables
import Derived.Laws.StructEq
namespace Go.Proofs.Ytobnmdjpcmegiaa
open Go.RowKit
set_option linter.unusedVariables false

/-- An entry: Kind, Start, Count, Size, Sum. -/
abbrev En := Int × Int × Int × Int × Int
def enV (x : En) : List Value := [.int .i64 x.1, .int .i64 x.2.1, .int .i64 x.2.2.1, .int .i64 x.2.2.2.1, .int .u32 x.2.2.2.2]
theorem enV_len (x : En) : (enV x).length = 5 := rfl
theorem enV_one (x : En) : ∀ u ∈ enV x, u.oneCell' = true := fun u hu => by
  simp only [enV, List.mem_cons, List.not_mem_nil, or_false] at hu
  rcases hu with rfl | rfl | rfl | rfl | rfl <;> rfl
theorem enV_all (x : En) : (enV x).toArray.all (·.oneCell') = true := all_oneCell_toArray fun v hv => enV_one x v hv
/-- A pair: a fingerprint, an entry. -/
abbrev Pr := Int × En
def pvV (p : Pr) : List Value := .int .u64 p.1 :: enV p.2
theorem pvV_len (p : Pr) : (pvV p).length = 6 := rfl
theorem pvV_one (p : Pr) : ∀ u ∈ pvV p, u.oneCell' = true := fun u hu => by
  rcases List.mem_cons.1 hu with rfl | hu
  · rfl
  · exact enV_one _ u hu
theorem pvV_all (p : Pr) : (pvV p).toArray.all (·.oneCell') = true := all_oneCell_toArray fun v hv => pvV_one p v hv
/-- 11.1, 11.2, 11.3. -/
def addP (L : List Pr) (p : Pr) : List Pr := if p ∈ L then L else (if 64 ≤ L.length then L.drop 1 else L) ++ [p]
def findP (L : List Pr) (f : Int) : List En := (L.filter fun p => decide (p.1 = f)).map (·.2)
def forgetP (L : List Pr) (e : En) : List Pr := L.filter fun p => !decide (p.2 = e)
structure XOk (L : List Pr) : Prop where
  nd : L.Nodup
  many : L.length ≤ 64
theorem XOk.nil : XOk [] := ⟨List.nodup_nil, Nat.zero_le _⟩
theorem XOk.forget {L : List Pr} (h : XOk L) (e : En) : XOk (forgetP L e) :=
  ⟨h.nd.sublist List.filter_sublist, Nat.le_trans (List.length_filter_le _ _) h.many⟩
theorem XOk.add {L : List Pr} (h : XOk L) (p : Pr) : XOk (addP L p) := by
  unfold addP
  by_cases hp : p ∈ L
  · rw [if_pos hp]
    exact h
  · rw [if_neg hp]
    have hm := h.many
    by_cases h64 : 64 ≤ L.length
    · rw [if_pos h64]
      refine ⟨List.nodup_append.2 ⟨h.nd.sublist (List.drop_sublist 1 L), by simp, fun a ha b hb => ?_⟩, by simp; omega⟩
      obtain rfl : b = p := by simpa using hb
      exact fun e => hp (e ▸ List.mem_of_mem_drop ha)
    · rw [if_neg h64]
      refine ⟨List.nodup_append.2 ⟨h.nd, by simp, fun a ha b hb => ?_⟩, by simp; omega⟩
      obtain rfl : b = p := by simpa using hb
      exact fun e => hp (e ▸ ha)
theorem first_gone {x : Pr} {L : List Pr} (h : (x :: L).Nodup) : (x :: L).filter (fun p => !decide (p = x)) = L := by
  rw [List.filter_cons_of_neg (by simp)]
  refine List.filter_eq_self.2 fun y hy => ?_
  have : x ∉ L := (List.nodup_cons.1 h).1
  simp
  exact fun e => this (e ▸ hy)
theorem findP_len (L : List Pr) (f : Int) : (findP L f).length ≤ L.length := by
  unfold findP
  rw [List.length_map]
  exact List.length_filter_le _ _
theorem findP_snoc (L : List Pr) (f : Int) (j : Nat) (p : Pr) (h : L[j]? = some p) : findP (L.take (j + 1)) f = findP (L.take j) f ++ if p.1 = f then [p.2] else [] := by
  unfold findP
  rw [List.take_add_one, h, Option.toList_some, List.filter_append, List.map_append]
  congr 1
  by_cases hp : p.1 = f <;> simp [hp]
theorem forgetP_snoc (L : List Pr) (e : En) (j : Nat) (p : Pr) (h : L[j]? = some p) : forgetP (L.take (j + 1)) e = forgetP (L.take j) e ++ if p.2 = e then [] else [p] := by
  unfold forgetP
  rw [List.take_add_one, h, Option.toList_some, List.filter_append]
  congr 1
  by_cases hp : p.2 = e <;> simp [hp]
/-- The types of elements. -/
theorem pr_rowed : Rowed Try.prog 47 59 6 48 pvV where
  under := Try.underlying47
  info := by
    have h : (Try.prog.info? 59).map (fun i => (i.zero.map (fun z => z.cells.size), i.size, i.bytes)) = some (some 6, 6, 48) := by kernel_rfl
    obtain ⟨i, hi, he⟩ := Option.map_eq_some_iff.1 h
    simp only [Prod.mk.injEq] at he
    obtain ⟨z, hz, hzs⟩ := Option.map_eq_some_iff.1 he.1
    exact ⟨i, z, hi, hz, he.2.1, he.2.2, hzs⟩
  pos := by decide
  small := by decide
  len := pvV_len
  one := pvV_one
theorem se_rowed : Rowed Try.prog 28 66 6 48 pvV where
  under := Try.underlying28
  info := by
    have h : (Try.prog.info? 66).map (fun i => (i.zero.map (fun z => z.cells.size), i.size, i.bytes)) = some (some 6, 6, 48) := by kernel_rfl
    obtain ⟨i, hi, he⟩ := Option.map_eq_some_iff.1 h
    simp only [Prod.mk.injEq] at he
    obtain ⟨z, hz, hzs⟩ := Option.map_eq_some_iff.1 he.1
    exact ⟨i, z, hi, hz, he.2.1, he.2.2, hzs⟩
  pos := by decide
  small := by decide
  len := pvV_len
  one := pvV_one
theorem en_rowed : Rowed Try.prog 39 35 5 40 enV where
  under := Try.underlying39
  info := by
    have h : (Try.prog.info? 35).map (fun i => (i.zero.map (fun z => z.cells.size), i.size, i.bytes)) = some (some 5, 5, 40) := by kernel_rfl
    obtain ⟨i, hi, he⟩ := Option.map_eq_some_iff.1 h
    simp only [Prod.mk.injEq] at he
    obtain ⟨z, hz, hzs⟩ := Option.map_eq_some_iff.1 he.1
    exact ⟨i, z, hi, hz, he.2.1, he.2.2, hzs⟩
  pos := by decide
  small := by decide
  len := enV_len
  one := enV_one
theorem pr_size : (Try.prog.info? 59).map (·.size) = some 6 := by kernel_rfl
theorem se_size : (Try.prog.info? 66).map (·.size) = some 6 := by kernel_rfl
theorem en_size : (Try.prog.info? 35).map (·.size) = some 5 := by kernel_rfl
/-- Two that are compared. -/
theorem and5 (a b c d e : Bool) : (a && (b && (c && (d && e)))) = (a && b && c && d && e) := by simp [Bool.and_assoc]
theorem equalIn_en (n : Nat) (x y : En) (w : World) : (Op.equalIn (n + 2) 35 (.agg (enV x).toArray) (.agg (enV y).toArray)).run Try.prog w = .ok (decide (x = y)) w := by
  have hf : Try.prog.underlying 35 = some (.struct (Try.prog.fieldsOf 35)) := by kernel_rfl
  have hp : Try.prog.stoodInHeld 35 = false := by kernel_rfl
  rw [run_equalIn_struct w (n + 1) 35 _ _ hf hp]
  obtain ⟨a, b, c, d, e⟩ := x
  obtain ⟨a', b', c', d', e'⟩ := y
  unfold Program.fieldsOf
  rw [Try.underlying35]
  have i3 := fun (w : World) (a b : Int) => run_equalIn_int (P := Try.prog) w n 3 .i64 .i64 a b Try.underlying3
  have i33 := fun (w : World) (a b : Int) => run_equalIn_int (P := Try.prog) w n 33 .u32 .u32 a b Try.underlying33
  have s3 : (Try.prog.info? 3).map (·.size) = some 1 := by kernel_rfl
  have s33 : (Try.prog.info? 33).map (·.size) = some 1 := by kernel_rfl
  simp [Op.eqFields, enV, go_sem, i3, i33]
  by_cases h1 : a = a' <;> by_cases h2 : b = b' <;> by_cases h3 : c = c' <;> by_cases h4 : d = d' <;> by_cases h5 : e = e' <;> simp [h1, h2, h3, h4, h5]
theorem eql_en (x y : En) (w : World) : (binOp .eql 35 (.agg (enV x).toArray) (.agg (enV y).toArray)).run Try.prog w = .ok (.bool (decide (x = y))) w := by
  rw [run_eql_struct, equalIn_en 9998 x y w]
  rfl
theorem neq_en (x y : En) (w : World) : (binOp .neq 35 (.agg (enV x).toArray) (.agg (enV y).toArray)).run Try.prog w = .ok (.bool (!decide (x = y))) w := by
  rw [run_neq_struct, equalIn_en 9998 x y w]
  rfl
theorem equalIn_pr (x y : Pr) (w : World) : (Op.equalIn 10000 59 (.agg (pvV x).toArray) (.agg (pvV y).toArray)).run Try.prog w = .ok (decide (x = y)) w := by
  have hf : Try.prog.underlying 59 = some (.struct (Try.prog.fieldsOf 59)) := by kernel_rfl
  have hp : Try.prog.stoodInHeld 59 = false := by kernel_rfl
  rw [run_equalIn_struct w 9999 59 _ _ hf hp]
  unfold Program.fieldsOf
  rw [Try.underlying59]
  obtain ⟨f, a⟩ := x
  obtain ⟨g, b⟩ := y
  have i3 : ∀ w : World, (Op.equalIn 9999 51 (.int .u64 f) (.int .u64 g)).run Try.prog w = .ok (decide (f = g)) w := fun w => run_equalIn_int (P := Try.prog) w 9998 51 .u64 .u64 f g Try.underlying51
  have he : ∀ w : World, (Op.equalIn 9999 35 (.agg (enV a).toArray) (.agg (enV b).toArray)).run Try.prog w = .ok (decide (a = b)) w := fun w => equalIn_en 9997 a b w
  have px : ∀ w, (part 35 (pvV (f, a)).toArray 1).run Try.prog w = .ok (.agg (enV a).toArray) w := fun w => by kernel_rfl
  have py : ∀ w, (part 35 (pvV (g, b)).toArray 1).run Try.prog w = .ok (.agg (enV b).toArray) w := fun w => by kernel_rfl
  have qx : ∀ w, (part 51 (pvV (f, a)).toArray 0).run Try.prog w = .ok (.int .u64 f) w := fun w => by kernel_rfl
  have qy : ∀ w, (part 51 (pvV (g, b)).toArray 0).run Try.prog w = .ok (.int .u64 g) w := fun w => by kernel_rfl
  have hd : decide ((f, a) = (g, b)) = (decide (f = g) && decide (a = b)) := by
    by_cases h1 : f = g <;> by_cases h2 : a = b <;> simp [h1, h2]
  rw [hd]
  generalize decide (f = g) = d1 at i3 ⊢
  generalize decide (a = b) = d2 at he ⊢
  simp only [Op.eqFields, Sem.run_bind, px, py, qx, qy, i3, he, Result.andThen_ok, Sem.run_ite, Sem.run_pure, ne_eq]
  cases d1 <;> cases d2 <;> simp
theorem eql_pr (x y : Pr) (w : World) : (binOp .eql 59 (.agg (pvV x).toArray) (.agg (pvV y).toArray)).run Try.prog w = .ok (.bool (decide (x = y))) w := by
  rw [run_eql_struct, equalIn_pr x y w]
  rfl
theorem guard_en : Try.prog.eqGuardType Try.prog.depth 35 = false := by kernel_rfl
theorem guard_pr : Try.prog.eqGuardType Try.prog.depth 59 = false := by kernel_rfl
end Go.Proofs.Ytobnmdjpcmegiaa
