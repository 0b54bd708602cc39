/-
  Plain mathematics of what bytes unpack to. Conditions: bytes from 0 to 255.
-/
import Derived.Test.YtlkpedknhjgdiaaBase
namespace Go.Proofs.Ytlkpedknhjgdiaa
open Go.RowKit

/-- What is added to a half: the number, the place behind, whether the bytes were all there. -/
def addTo (b : List Int) : Nat → Nat → Nat → Nat × Nat × Bool
  | 0, _, _ => (0, 0, false)
  | f + 1, p, n => if p < b.length then (if b.getD p 0 = 255 then addTo b f (p + 1) (n + 255) else (n + (b.getD p 0).toNat, p + 1, true)) else (0, 0, false)
def lengthOf (b : List Int) (p half : Nat) : Nat × Nat × Bool := if half < 15 then (half, p, true) else addTo b (b.length + 1 - p) p 15
theorem addTo_bd {b : List Int} (h : ∀ c ∈ b, 0 ≤ c ∧ c < 256) : ∀ (f p n : Nat), (addTo b f p n).1 ≤ n + 255 * f ∧ (addTo b f p n).2.1 ≤ b.length
  | 0, _, _ => by simp [addTo]
  | f + 1, p, n => by
    unfold addTo
    by_cases h1 : p < b.length
    · rw [if_pos h1]
      by_cases h2 : b.getD p 0 = 255
      · rw [if_pos h2]
        have := addTo_bd h f (p + 1) (n + 255)
        omega
      · rw [if_neg h2]
        have := getD_bd h p h1
        refine ⟨?_, ?_⟩
        · show n + (b.getD p 0).toNat ≤ _
          omega
        · show p + 1 ≤ _
          omega
    · rw [if_neg h1]
      simp
theorem lengthOf_bd {b : List Int} (h : ∀ c ∈ b, 0 ≤ c ∧ c < 256) (p half : Nat) (hp : p ≤ b.length) (hh : half < 16) : (lengthOf b p half).1 ≤ 15 + 255 * (b.length + 1) ∧ (lengthOf b p half).2.1 ≤ b.length := by
  unfold lengthOf
  by_cases h1 : half < 15
  · rw [if_pos h1]
    refine ⟨?_, hp⟩
    show half ≤ _
    omega
  · rw [if_neg h1]
    have := addTo_bd h (b.length + 1 - p) p 15
    omega

/-- What a part of the work ends in: it is refused, or it goes on at a place, with bytes told so far. -/
inductive Got where
  | bad (e : Int)
  | ok (p : Nat) (out : List Int)
/-- Bytes that stand as they are. -/
def lits (b : List Int) (most : Nat) : Nat → Nat → List Int → Got
  | 0, p, out => .ok p out
  | k + 1, p, out => if b.length ≤ p then .bad 3 else if most ≤ out.length then .bad 2 else lits b most k (p + 1) (out ++ [b.getD p 0])
/-- Bytes that are told again. -/
def reps (most far : Nat) : Nat → List Int → Got
  | 0, out => .ok 0 out
  | k + 1, out => if most ≤ out.length then .bad 2 else reps most far k (out ++ [out.getD (out.length - far) 0])
def farOf (b : List Int) (p : Nat) : Nat := (b.getD p 0).toNat + 256 * (b.getD (p + 1) 0).toNat
/-- What comes behind the bytes that stand as they are. -/
def unpBack (b : List Int) (most token : Nat) (next : Nat → List Int → List Int × Int) (p : Nat) (out : List Int) : List Int × Int :=
  if p = b.length then (out, 0) else if b.length - p < 2 then ([], 3) else if farOf b p = 0 ∨ out.length < farOf b p then ([], 3) else
  match lengthOf b (p + 2) (token % 16) with
  | (_, _, false) => ([], 3)
  | (m, q, true) => match reps most (farOf b p) (m + 4) out with
    | .bad e => ([], e)
    | .ok _ out' => next q out'
def unp (b : List Int) (most : Nat) : Nat → Nat → List Int → List Int × Int
  | 0, _, _ => ([], 0)
  | f + 1, p, out => if b.length ≤ p then (out, 0) else
    match lengthOf b (p + 1) ((b.getD p 0).toNat / 16) with
    | (_, _, false) => ([], 3)
    | (l, q, true) => match lits b most l q out with
      | .bad e => ([], e)
      | .ok p' out' => unpBack b most (b.getD p 0).toNat (unp b most f) p' out'
def unpackOf (b : List Int) (most : Int) : List Int × Int := if most < 0 ∨ 1048576 < most then ([], 1) else if b = [] then ([], 3) else unp b most.toNat (b.length + 1) 0 []
end Go.Proofs.Ytlkpedknhjgdiaa
