/-
  Plain mathematics of entries: their bytes, which may be, what bytes tell (layer 7). Conditions: none.
-/
import Derived.Test.YtdffgnpldapciaaGreatDoorKit
namespace Go.Proofs.YtdffgnpldapciaaGreatDoor
open Go.RowKit
set_option linter.unusedVariables false

/-- An entry: Kind, Start, Count, Size, Sum. -/
abbrev En := Int × Int × Int × Int × Int
def enV (x : En) : List Value := [.int .i64 x.1, .int .i64 x.2.1, .int .i64 x.2.2.1, .int .i64 x.2.2.2.1, .int .u32 x.2.2.2.2]
def MayE (x : En) (c : Int) : Prop := (0 ≤ c ∧ c ≤ 6) ∧
  (((x.1 = 0 ∨ x.1 = 1) ∧ x.2.1 = 0 ∧ x.2.2.1 = 0 ∧ x.2.2.2.1 = 0 ∧ x.2.2.2.2 = 0) ∨
   (x.1 = 2 ∧ 2 ≤ x.2.1 ∧ x.2.2.1 = 2 ^ c.toNat ∧ x.2.1 ≤ 65536 - x.2.2.1 ∧ x.2.2.2.1 = 0) ∨
   (x.1 = 3 ∧ 2 ≤ x.2.1 ∧ 1 ≤ x.2.2.1 ∧ x.2.2.1 < 2 ^ c.toNat ∧ x.2.1 ≤ 65536 - x.2.2.1 ∧ 1 ≤ x.2.2.2.1 ∧ x.2.2.2.1 ≤ x.2.2.1 * 16 ∧ (x.2.2.1 - 1) * 16 < x.2.2.2.1))
instance (x : En) (c : Int) : Decidable (MayE x c) := by unfold MayE; infer_instance
def EnOk (x : En) : Prop := I64 x.1 ∧ I64 x.2.1 ∧ I64 x.2.2.1 ∧ I64 x.2.2.2.1 ∧ 0 ≤ x.2.2.2.2 ∧ x.2.2.2.2 < 4294967296
def enB (x : En) : List Int := numB false 1 x.1.toNat ++ numB false 1 0 ++ numB false 2 x.2.2.1.toNat ++ numB false 4 x.2.1.toNat ++ numB false 4 x.2.2.2.1.toNat ++ numB false 4 x.2.2.2.2.toNat
def enOf (l : List Int) : En := ((getTo false 1 0 l 1 : Nat), (getTo false 4 4 l 4 : Nat), (getTo false 2 2 l 2 : Nat), (getTo false 4 8 l 4 : Nat), (getTo false 4 12 l 4 : Nat))
def getE (l : List Int) (c : Int) : Option En := if l.length = 16 ∧ l.getD 1 0 = 0 ∧ MayE (enOf l) c then some (enOf l) else none
def enZ : En := (0, 0, 0, 0, 0)
theorem enB_len (x : En) : (enB x).length = 16 := by simp [enB, numB_len]
theorem enB_bd (x : En) : ∀ c ∈ enB x, 0 ≤ c ∧ c < 256 := fun c hc => by
  unfold enB at hc
  simp only [List.mem_append] at hc
  rcases hc with ((((hc | hc) | hc) | hc) | hc) | hc <;> exact numB_bd _ _ _ c hc
theorem pow_le6 {c : Int} (h : 0 ≤ c ∧ c ≤ 6) : (1 : Int) ≤ 2 ^ c.toNat ∧ (2 : Int) ^ c.toNat ≤ 64 := by
  have : c.toNat ≤ 6 := by omega
  generalize c.toNat = n at this
  match n, this with
  | 0, _ => decide
  | 1, _ => decide
  | 2, _ => decide
  | 3, _ => decide
  | 4, _ => decide
  | 5, _ => decide
  | 6, _ => decide
theorem MayE.bounds {x : En} {c : Int} (h : MayE x c) : (0 ≤ x.1 ∧ x.1 < 4) ∧ (0 ≤ x.2.1 ∧ x.2.1 < 65536) ∧ (0 ≤ x.2.2.1 ∧ x.2.2.1 ≤ 64) ∧ (0 ≤ x.2.2.2.1 ∧ x.2.2.2.1 ≤ 1024) := by
  obtain ⟨hc, h⟩ := h
  obtain ⟨h1, h2⟩ := pow_le6 hc
  generalize (2 : Int) ^ c.toNat = p at h h1 h2
  omega
theorem enOf_enB {x : En} {c : Int} (hm : MayE x c) (ho : EnOk x) : enOf (enB x) = x ∧ (enB x).getD 1 0 = 0 := by
  obtain ⟨k, s, n, z, m⟩ := x
  obtain ⟨h1, h2, h3, h4⟩ := hm.bounds
  obtain ⟨_, _, _, _, h7, h8⟩ := ho
  dsimp only at h1 h2 h3 h4 h7 h8
  have p1 : (256 : Nat) ^ 1 = 256 := by decide
  have p2 : (256 : Nat) ^ 2 = 65536 := by decide
  have p4 : (256 : Nat) ^ 4 = 4294967296 := by decide
  have e1 := get_back [] (numB false 1 0 ++ numB false 2 n.toNat ++ numB false 4 s.toNat ++ numB false 4 z.toNat ++ numB false 4 m.toNat) false 1 k.toNat (fit4 (by omega)) (by omega) (fitsM (by omega) (by omega))
  have e2 := get_back (numB false 1 k.toNat ++ numB false 1 0) (numB false 4 s.toNat ++ numB false 4 z.toNat ++ numB false 4 m.toNat) false 2 n.toNat (fit4 (by omega)) (by omega) (fitsM (by omega) (by omega))
  have e3 := get_back (numB false 1 k.toNat ++ numB false 1 0 ++ numB false 2 n.toNat) (numB false 4 z.toNat ++ numB false 4 m.toNat) false 4 s.toNat (fit4 (by omega)) (by omega) (fitsM (by omega) (by omega))
  have e4 := get_back (numB false 1 k.toNat ++ numB false 1 0 ++ numB false 2 n.toNat ++ numB false 4 s.toNat) (numB false 4 m.toNat) false 4 z.toNat (fit4 (by omega)) (by omega) (fitsM (by omega) (by omega))
  have e5 := get_back (numB false 1 k.toNat ++ numB false 1 0 ++ numB false 2 n.toNat ++ numB false 4 s.toNat ++ numB false 4 z.toNat) [] false 4 m.toNat (fit4 (by omega)) (by omega) (fitsM (by omega) (by omega))
  simp only [List.length_append, numB_len, List.length_nil, List.nil_append, List.append_nil, List.append_assoc] at e1 e2 e3 e4 e5
  unfold enOf enB
  simp only [List.append_assoc]
  rw [e1, e2, e3, e4, e5]
  refine ⟨by simp only [Prod.mk.injEq]; omega, ?_⟩
  have q1 : numB false 1 k.toNat = [byteOf k.toNat 0] := rfl
  have q2 : numB false 1 0 = [0] := rfl
  rw [q1, q2]
  rfl
theorem getE_enB {x : En} {c : Int} (hm : MayE x c) (ho : EnOk x) : getE (enB x) c = some x := by
  obtain ⟨h1, h2⟩ := enOf_enB hm ho
  unfold getE
  rw [h1, h2, if_pos ⟨enB_len x, rfl, hm⟩]
theorem getE_no {l : List Int} {c : Int} (h : l.length ≠ 16) : getE l c = none := by
  unfold getE
  rw [if_neg (fun h' => h h'.1)]
theorem enV_len (x : En) : (enV x).length = 5 := rfl
theorem enV_one (x : En) : ∀ u ∈ enV x, u.oneCell' = true := fun u hu => by
  simp only [enV, List.mem_cons, List.not_mem_nil, or_false] at hu
  rcases hu with rfl | rfl | rfl | rfl | rfl <;> rfl
theorem enV_all (x : En) : (enV x).toArray.all (·.oneCell') = true := all_oneCell_toArray fun v hv => enV_one x v hv
theorem entry_size : (Tryz.prog.info? 91).map (·.size) = some 5 := by kernel_rfl
theorem small_get {l : List Int} (hb : ∀ c ∈ l, 0 ≤ c ∧ c < 256) (m p : Nat) (hm : m ≤ 4) : getTo false m p l m < 4294967296 := by
  have h1 := getTo_lt hb false m p m
  have h2 : 256 ^ m ≤ 256 ^ 4 := Nat.pow_le_pow_right (by decide) hm
  have h3 : (256 : Nat) ^ 4 = 4294967296 := by decide
  omega
theorem enOf_ok {l : List Int} (h : ∀ c ∈ l, 0 ≤ c ∧ c < 256) : EnOk (enOf l) := by
  have h0 := small_get h 1 0 (by omega)
  have h4 := small_get h 4 4 (by omega)
  have h2 := small_get h 2 2 (by omega)
  have h8 := small_get h 4 8 (by omega)
  have h12 := small_get h 4 12 (by omega)
  unfold EnOk enOf I64
  dsimp only
  omega
theorem cells5 {W : World} {X : Nat} {a b c d e : Value} (h : Blk W X 91 #[a, b, c, d, e]) : W.cell? ⟨X, 0, none⟩ = some a ∧ W.cell? ⟨X, 1, none⟩ = some b ∧ W.cell? ⟨X, 2, none⟩ = some c ∧ W.cell? ⟨X, 3, none⟩ = some d ∧ W.cell? ⟨X, 4, none⟩ = some e := by
  rw [h.cell, h.cell, h.cell, h.cell, h.cell]
  exact ⟨rfl, rfl, rfl, rfl, rfl⟩
end Go.Proofs.YtdffgnpldapciaaGreatDoor
