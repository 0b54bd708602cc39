/-
  Plain mathematics of a disk that may lose what was not flushed: files of sectors, the list of writes that are not kept, the count till the power fails. Condition: none.
-/
import Derived.Test.YtnhaidofblfopaaBase
namespace Go.Proofs.Ytnhaidofblfopaa
open Go.RowKit

abbrev Sec := List Int
abbrev Nm := ByteArray
/-- A file: what stands there, what is kept. -/
structure FileM where
  now : List Sec
  dur : List Sec
/-- A disk. -/
structure Dsk where
  room : Nat
  files : List (Nm × FileM)
  pend : List (Nm × Nat × Sec)
  fuse : Nat
  dead : Bool
  /-- How many sectors were written. -/
  cnt : Nat
def zero16 : Sec := List.replicate 16 0
/-- A sector at a place; noughts between. -/
def putS (l : List Sec) (i : Nat) (s : Sec) : List Sec := if i < l.length then l.set i s else l ++ List.replicate (i - l.length) zero16 ++ [s]
def fget (fs : List (Nm × FileM)) (s : Nm) : Option FileM := (fs.find? fun x => decide (x.1 = s)).map (·.2)
def fset (fs : List (Nm × FileM)) (s : Nm) (f : FileM) : List (Nm × FileM) := fs.map fun x => if x.1 = s then (s, f) else x
def fdel (fs : List (Nm × FileM)) (s : Nm) : List (Nm × FileM) := fs.filter fun x => !decide (x.1 = s)
def usedF (fs : List (Nm × FileM)) : Nat := (fs.map fun x => x.2.now.length).sum
/-- Bytes by sectors. -/
def chunks (b : List Int) : List Sec := (List.range (b.length / 16)).map fun i => (b.drop (16 * i)).take 16
def Dsk.new (room : Nat) : Dsk := ⟨room, [], [], 0, false, 0⟩
def Dsk.create (D : Dsk) (s : Nm) : Int × Dsk :=
  if D.dead then (8, D) else if s.size = 0 ∨ 16 < s.size then (1, D) else if fget D.files s = none ∧ 32 ≤ D.files.length then (9, D)
  else (0, { D with files := fdel D.files s ++ [(s, ⟨[], []⟩)], pend := D.pend.filter fun x => !decide (x.1 = s) })
def Dsk.remove (D : Dsk) (s : Nm) : Int × Dsk :=
  if D.dead then (8, D) else if fget D.files s = none then (4, D)
  else (0, { D with files := fdel D.files s, pend := D.pend.filter fun x => !decide (x.1 = s) })
def Dsk.size (D : Dsk) (s : Nm) : Nat × Int :=
  match fget D.files s with
  | none => (0, 4)
  | some f => (f.now.length, 0)
def Dsk.read (D : Dsk) (s : Nm) (at' n : Int) : List Int × Int :=
  if D.dead then ([], 8) else match fget D.files s with
  | none => ([], 4)
  | some f => if at' < 0 ∨ n < 0 ∨ (f.now.length : Int) < at' + n then ([], 6) else (((f.now.drop at'.toNat).take n.toNat).flatten, 0)
def Dsk.put (D : Dsk) (s : Nm) (f : FileM) (i : Nat) (x : Sec) : Dsk := { D with files := fset D.files s ⟨putS f.now i x, f.dur⟩, pend := D.pend ++ [(s, i, x)], fuse := D.fuse - 1, cnt := D.cnt + 1 }
def Dsk.dies (D : Dsk) : Dsk := { D with fuse := 0, dead := true }
/-- The sectors one after the other. -/
def Dsk.go (s : Nm) : List Sec → Nat → Dsk → Int × Dsk
  | [], _, D => (0, D)
  | x :: r, i, D => if D.fuse = 1 then (8, D.dies) else match fget D.files s with
    | none => (0, D)
    | some f => Dsk.go s r (i + 1) (D.put s f i x)
def Dsk.write (D : Dsk) (s : Nm) (at' : Int) (b : List Int) : Int × Dsk :=
  if D.dead then (8, D) else match fget D.files s with
  | none => (4, D)
  | some f =>
    if b.length % 16 ≠ 0 then (1, D) else if at' < 0 ∨ (b ≠ [] ∧ 65536 < at' + (b.length / 16 : Nat)) then (6, D)
    else if b ≠ [] ∧ (D.room : Int) < (usedF D.files : Int) + (max (f.now.length : Int) (at' + (b.length / 16 : Nat)) - (f.now.length : Int)) then (7, D)
    else Dsk.go s (chunks b) at'.toNat D
def Dsk.cut (D : Dsk) (s : Nm) (n : Int) : Int × Dsk :=
  if D.dead then (8, D) else match fget D.files s with
  | none => (4, D)
  | some f => if n < 0 ∨ (f.now.length : Int) < n then (6, D)
    else (0, { D with files := fset D.files s ⟨f.now.take n.toNat, f.dur.take n.toNat⟩, pend := D.pend.filter fun x => !(decide (x.1 = s) && decide (n.toNat ≤ x.2.1)) })
def Dsk.flush (D : Dsk) (s : Nm) : Int × Dsk :=
  if D.dead then (8, D) else match fget D.files s with
  | none => (4, D)
  | some f => (0, { D with files := fset D.files s ⟨f.now, f.now⟩, pend := D.pend.filter fun x => !decide (x.1 = s) })
def Dsk.power (D : Dsk) (n : Int) : Dsk := { D with fuse := n.toNat }
/-- The writes that stay. -/
def surv : List (Nm × Nat × Sec) → List Bool → List (Nm × Nat × Sec)
  | [], _ => []
  | _ :: _, [] => []
  | x :: r, p :: q => if p then x :: surv r q else surv r q
def kept (dur : List Sec) (s : Nm) (l : List (Nm × Nat × Sec)) : List Sec := l.foldl (fun d x => if x.1 = s then putS d x.2.1 x.2.2 else d) dur
def Dsk.crash (D : Dsk) (picks : List Bool) : Dsk :=
  { D with files := D.files.map fun x => (x.1, ⟨kept x.2.dur x.1 (surv D.pend picks), kept x.2.dur x.1 (surv D.pend picks)⟩), pend := [], fuse := 0, dead := false }
def Dsk.used (D : Dsk) : Nat := usedF D.files

/-! A disk with one file. -/
def one (room : Nat) (s : Nm) (now dur : List Sec) (pend : List (Nat × Sec)) (fuse : Nat) (dead : Bool) (c : Nat) : Dsk := ⟨room, [(s, ⟨now, dur⟩)], pend.map fun x => (s, x.1, x.2), fuse, dead, c⟩
theorem one_get (s : Nm) (f : FileM) : fget [(s, f)] s = some f := by simp [fget]
theorem filter_own (s : Nm) (pend : List (Nat × Sec)) : (pend.map fun x => ((s, x.1, x.2) : Nm × Nat × Sec)).filter (fun x => !decide (x.1 = s)) = [] := by
  rw [List.filter_eq_nil_iff]
  intro x hx
  obtain ⟨y, _, rfl⟩ := List.mem_map.1 hx
  simp
theorem new_create (room : Nat) (s : Nm) (h1 : s.size ≠ 0) (h2 : s.size ≤ 16) : (Dsk.new room).create s = (0, one room s [] [] [] 0 false 0) := by
  unfold Dsk.create Dsk.new one
  rw [if_neg (by simp), if_neg (by omega), if_neg (by simp)]
  simp [fdel]
theorem one_flush (room : Nat) (s : Nm) (now dur : List Sec) (pend : List (Nat × Sec)) (fuse c : Nat) : (one room s now dur pend fuse false c).flush s = (0, one room s now now [] fuse false c) := by
  unfold Dsk.flush one
  dsimp only
  rw [if_neg (by simp), one_get]
  dsimp only
  rw [filter_own]
  simp [fset]
theorem one_size (room : Nat) (s : Nm) (now dur : List Sec) (pend : List (Nat × Sec)) (fuse : Nat) (dead : Bool) (c : Nat) : (one room s now dur pend fuse dead c).size s = (now.length, 0) := by
  unfold Dsk.size one
  dsimp only
  rw [one_get]
theorem one_read (room : Nat) (s : Nm) (now dur : List Sec) (pend : List (Nat × Sec)) (fuse c : Nat) (at' n : Nat) (h : at' + n ≤ now.length) : (one room s now dur pend fuse false c).read s at' n = (((now.drop at').take n).flatten, 0) := by
  unfold Dsk.read one
  dsimp only
  rw [if_neg (by simp), one_get]
  dsimp only
  rw [if_neg (by omega)]
  simp
theorem one_power (room : Nat) (s : Nm) (now dur : List Sec) (pend : List (Nat × Sec)) (fuse : Nat) (dead : Bool) (c n : Nat) : (one room s now dur pend fuse dead c).power n = one room s now dur pend n dead c := by
  unfold Dsk.power one
  simp
theorem one_put (room : Nat) (s : Nm) (now dur : List Sec) (pend : List (Nat × Sec)) (fuse c : Nat) (i : Nat) (x : Sec) :
    (one room s now dur pend fuse false c).put s ⟨now, dur⟩ i x = one room s (putS now i x) dur (pend ++ [(i, x)]) (fuse - 1) false (c + 1) := by
  unfold Dsk.put one
  simp [fset]
theorem chunks_one (b : List Int) (h : b.length = 16) : chunks b = [b] := by
  unfold chunks
  rw [h]
  simp [List.range_succ]
  rw [← h, List.take_length]
theorem putS_len (l : List Sec) (i : Nat) (s : Sec) : (putS l i s).length = max l.length (i + 1) := by
  unfold putS
  split
  · rw [List.length_set]; omega
  · simp; omega
/-- One sector, the power stays. -/
theorem one_write1 (room : Nat) (s : Nm) (now dur : List Sec) (pend : List (Nat × Sec)) (fuse c i : Nat) (x : Sec) (hx : x.length = 16) (hi : i < 65536) (hr : max now.length (i + 1) ≤ room) (hf : fuse ≠ 1) :
    (one room s now dur pend fuse false c).write s i x = (0, one room s (putS now i x) dur (pend ++ [(i, x)]) (fuse - 1) false (c + 1)) := by
  unfold Dsk.write
  have hg : fget (one room s now dur pend fuse false c).files s = some ⟨now, dur⟩ := one_get s _
  rw [if_neg (by simp [one]), hg]
  dsimp only
  have hu : usedF (one room s now dur pend fuse false c).files = now.length := by simp [one, usedF]
  rw [hu, hx, if_neg (by simp), if_neg (by omega), if_neg (by show ¬ (_ ∧ (room : Int) < _); omega), chunks_one x hx, Int.toNat_natCast]
  unfold Dsk.go
  rw [if_neg (by exact hf), hg]
  dsimp only
  rw [one_put]
  rfl
/-- One sector, at which the power fails. -/
theorem one_write_dies (room : Nat) (s : Nm) (now dur : List Sec) (pend : List (Nat × Sec)) (c i : Nat) (x : Sec) (hx : x.length = 16) (hi : i < 65536) (hr : max now.length (i + 1) ≤ room) :
    (one room s now dur pend 1 false c).write s i x = (8, one room s now dur pend 0 true c) := by
  unfold Dsk.write
  have hg : fget (one room s now dur pend 1 false c).files s = some ⟨now, dur⟩ := one_get s _
  rw [if_neg (by simp [one]), hg]
  dsimp only
  have hu : usedF (one room s now dur pend 1 false c).files = now.length := by simp [one, usedF]
  rw [hu, hx, if_neg (by simp), if_neg (by omega), if_neg (by show ¬ (_ ∧ (room : Int) < _); omega), chunks_one x hx, Int.toNat_natCast]
  unfold Dsk.go
  rw [if_pos (by rfl)]
  rfl
theorem dead_write (D : Dsk) (s : Nm) (at' : Int) (b : List Int) (h : D.dead = true) : D.write s at' b = (8, D) := by
  unfold Dsk.write
  rw [if_pos h]
/-- The writes of one file that stay. -/
def survA : List (Nat × Sec) → List Bool → List (Nat × Sec)
  | [], _ => []
  | _ :: _, [] => []
  | x :: r, p :: q => if p then x :: survA r q else survA r q
theorem surv_own (s : Nm) : ∀ (pend : List (Nat × Sec)) (picks : List Bool), surv (pend.map fun x => (s, x.1, x.2)) picks = (survA pend picks).map fun x => (s, x.1, x.2)
  | [], _ => by simp [surv, survA]
  | _ :: _, [] => by simp [surv, survA]
  | x :: r, p :: q => by
    have ih := surv_own s r q
    cases p <;> simp [surv, survA, ih]
def keptA (dur : List Sec) (l : List (Nat × Sec)) : List Sec := l.foldl (fun d x => putS d x.1 x.2) dur
theorem kept_own (s : Nm) (l : List (Nat × Sec)) : ∀ dur, kept dur s (l.map fun x => (s, x.1, x.2)) = keptA dur l := by
  induction l with
  | nil => intro dur; rfl
  | cons x r ih =>
    intro dur
    have := ih (putS dur x.1 x.2)
    simpa [kept, keptA] using this
theorem one_crash (room : Nat) (s : Nm) (now dur : List Sec) (pend : List (Nat × Sec)) (fuse : Nat) (dead : Bool) (c : Nat) (picks : List Bool) :
    (one room s now dur pend fuse dead c).crash picks = one room s (keptA dur (survA pend picks)) (keptA dur (survA pend picks)) [] 0 false c := by
  unfold Dsk.crash one
  dsimp only
  rw [surv_own, List.map_cons, List.map_nil, kept_own]
  simp
theorem one_cut (room : Nat) (s : Nm) (now dur : List Sec) (pend : List (Nat × Sec)) (fuse c n : Nat) (h : n ≤ now.length) :
    (one room s now dur pend fuse false c).cut s n = (0, one room s (now.take n) (dur.take n) (pend.filter fun x => !decide (n ≤ x.1)) fuse false c) := by
  unfold Dsk.cut one
  dsimp only
  rw [if_neg (by simp), one_get]
  dsimp only
  rw [if_neg (by omega)]
  simp [fset, List.filter_map, Function.comp_def]
theorem one_cut_no (room : Nat) (s : Nm) (now dur : List Sec) (pend : List (Nat × Sec)) (fuse c : Nat) (n : Int) (h : n < 0 ∨ (now.length : Int) < n) :
    (one room s now dur pend fuse false c).cut s n = (6, one room s now dur pend fuse false c) := by
  unfold Dsk.cut
  have hg : fget (one room s now dur pend fuse false c).files s = some ⟨now, dur⟩ := one_get s _
  rw [if_neg (by simp [one]), hg]
  dsimp only
  rw [if_pos h]
end Go.Proofs.Ytnhaidofblfopaa
