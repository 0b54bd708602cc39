/-
  Plain mathematics of where four bytes were last seen, and what the map that holds it reads as. Conditions: bytes from 0 to 255.
-/
import Derived.Test.YtlkpedknhjgdiaaS2
import Derived.WideKeyArr2
import Derived.Maps.OwnOps
import Derived.Maps.OwnSet
namespace Go.Proofs.Ytlkpedknhjgdiaa
open Go.RowKit Go.Maps Go.WideMaps

/-- The four bytes at a place. -/
def win (l : List Int) (j : Nat) : List Int := (l.drop j).take 4
/-- Where x was last seen ahead of place k. -/
def lastAt (l x : List Int) : Nat → Option Nat
  | 0 => none
  | k + 1 => if win l k = x then some k else lastAt l x k
/-- As a map's key reads. -/
def keyL (x : List Int) : Lit := .string (keyBytes (x.map (Lit.int .u8)))
theorem byte_key (c : Int) (h : 0 ≤ c ∧ c < 256) : (Lit.int .u8 c).keyBytes = [UInt8.ofNat c.toNat] := by
  show bytesBE 1 (c % 256).toNat = _
  rw [show c % 256 = c by omega]
  show [UInt8.ofNat (c.toNat % 256)] = _
  rw [show c.toNat % 256 = c.toNat by omega]
theorem key_list : ∀ (x : List Int), (∀ c ∈ x, 0 ≤ c ∧ c < 256) → keyBytes (x.map (Lit.int .u8)) = x.map fun c => UInt8.ofNat c.toNat
  | [], _ => rfl
  | c :: x, h => by
    show (Lit.int .u8 c).keyBytes ++ keyBytes (x.map (Lit.int .u8)) = _
    rw [byte_key c (h c (by simp)), key_list x fun d hd => h d (by simp [hd])]
    rfl
theorem ofNat_inj {a b : Nat} (ha : a < 256) (hb : b < 256) (h : UInt8.ofNat a = UInt8.ofNat b) : a = b := by
  have := congrArg UInt8.toNat h
  simpa [Nat.mod_eq_of_lt ha, Nat.mod_eq_of_lt hb] using this
theorem bytes_inj : ∀ (x y : List Int), (∀ c ∈ x, 0 ≤ c ∧ c < 256) → (∀ c ∈ y, 0 ≤ c ∧ c < 256) → (x.map fun c => UInt8.ofNat c.toNat) = (y.map fun c => UInt8.ofNat c.toNat) → x = y
  | [], [], _, _, _ => rfl
  | [], _ :: _, _, _, h => by simp at h
  | _ :: _, [], _, _, h => by simp at h
  | c :: x, d :: y, hx, hy, h => by
    simp only [List.map_cons, List.cons.injEq] at h
    have h1 := hx c (by simp)
    have h2 := hy d (by simp)
    have h3 := ofNat_inj (a := c.toNat) (b := d.toNat) (by omega) (by omega) h.1
    have h4 := bytes_inj x y (fun e he => hx e (by simp [he])) (fun e he => hy e (by simp [he])) h.2
    rw [h4, show c = d by omega]
theorem keyL_inj {x y : List Int} (hx : ∀ c ∈ x, 0 ≤ c ∧ c < 256) (hy : ∀ c ∈ y, 0 ≤ c ∧ c < 256) (h : keyL x = keyL y) : x = y := by
  unfold keyL at h
  rw [key_list x hx, key_list y hy] at h
  exact bytes_inj x y hx hy (by simpa using h)
theorem keyL_key (x : List Int) : WideAt.IsKeyLit (keyL x) := trivial
/-- What the map reads as when the first k places were noted. -/
def Dseen {H : Type} (l : List Int) : Nat → DataW H
  | 0 => .map []
  | k + 1 => (Dseen l k).put (keyL (win l k)) (.lit (.int .i64 k))
theorem Dseen_map {H : Type} (l : List Int) : ∀ k, IsMap (Dseen (H := H) l k)
  | 0 => isMap_empty
  | k + 1 => (Dseen_map l k).put _ _
theorem win_bd {l : List Int} (h : ∀ c ∈ l, 0 ≤ c ∧ c < 256) (j : Nat) : ∀ c ∈ win l j, 0 ≤ c ∧ c < 256 := fun c hc => h c (List.mem_of_mem_drop (List.mem_of_mem_take hc))
theorem Dseen_at {H : Type} {l x : List Int} (h : ∀ c ∈ l, 0 ≤ c ∧ c < 256) (hx : ∀ c ∈ x, 0 ≤ c ∧ c < 256) : ∀ k, has (Dseen (H := H) l k) (keyL x) = (lastAt l x k).isSome ∧ (Dseen (H := H) l k).atKey (keyL x) (.lit (.int .i64 0)) = .lit (.int .i64 (((lastAt l x k).getD 0 : Nat) : Int))
  | 0 => ⟨rfl, rfl⟩
  | k + 1 => by
    have ih := Dseen_at (H := H) h hx k
    unfold Dseen lastAt
    by_cases he : win l k = x
    · rw [if_pos he, he]
      exact ⟨has_put_same (Dseen_map l k) (keyL_key x) _, atKey_put_same (Dseen_map l k) (keyL_key x) _ _⟩
    · rw [if_neg he]
      have hne : keyL x ≠ keyL (win l k) := fun e => he (keyL_inj hx (win_bd h k) e).symm
      exact ⟨(has_put_other hne _).trans ih.1, (atKey_put_other hne _ _).trans ih.2⟩
theorem lastAt_some {l x : List Int} : ∀ {k j : Nat}, lastAt l x k = some j → j < k ∧ win l j = x
  | 0, _, h => by cases h
  | k + 1, j, h => by
    unfold lastAt at h
    by_cases he : win l k = x
    · rw [if_pos he] at h
      cases h
      exact ⟨by omega, he⟩
    · rw [if_neg he] at h
      have := lastAt_some h
      exact ⟨by omega, this.2⟩
/-! The key's type. -/
theorem arr4 : ArrKey Try.prog 59 5 4 := ⟨Try.underlying59, by kernel_rfl, by kernel_rfl, by kernel_rfl⟩
theorem law4 : Keyed Try.prog 59 := Keyed.of_law arr4.law
theorem size4 : ∃ m, Try.prog.types.size = m + 1 := ⟨_, rfl⟩
theorem formed4 (c0 c1 c2 c3 : Value) : (Value.agg #[c0, c1, c2, c3]).formed Try.prog 59 = true := by
  have := arr4.size
  simp [Value.formed, Try.underlying59, this]
theorem key4 (c0 c1 c2 c3 : Int) (h0 : 0 ≤ c0 ∧ c0 < 256) (h1 : 0 ≤ c1 ∧ c1 < 256) (h2 : 0 ≤ c2 ∧ c2 < 256) (h3 : 0 ≤ c3 ∧ c3 < 256) :
    keyOf Try.prog 59 (.agg #[.int .u8 c0, .int .u8 c1, .int .u8 c2, .int .u8 c3]) = some (keyL [c0, c1, c2, c3]) := by
  have hc := arr4.size
  have h1c := arr4.one
  have wf : ∀ c : Int, 0 ≤ c ∧ c < 256 → (Lit.int .u8 c).wf = true := fun c h => by
    simp only [Lit.wf, IntKind.min, IntKind.max, IntKind.signed, IntKind.bits, Bool.and_eq_true]
    simp
    omega
  have kl : ∀ (m : Nat) (c : Int), 0 ≤ c ∧ c < 256 → Try.prog.keyLits (m + 1) 5 [.int .u8 c] = some [.int .u8 c] := fun m c h => by
    simp [Program.keyLits, Try.underlying5, wf c h]
  obtain ⟨m, hm⟩ := size4
  unfold keyOf
  rw [Try.underlying59, formed4, arr4.keyType size4, hm]
  simp only [Bool.and_self, if_true]
  have : Try.prog.keyLits (m + 1 + 1) 59 [.int .u8 c0, .int .u8 c1, .int .u8 c2, .int .u8 c3] = some [.int .u8 c0, .int .u8 c1, .int .u8 c2, .int .u8 c3] := by
    unfold Program.keyLits
    simp only [Try.underlying59]
    simp [hc, h1c, List.range_succ, kl, h0, h1, h2, h3]
  show Option.map _ (Try.prog.keyLits (m + 1 + 1) 59 [.int .u8 c0, .int .u8 c1, .int .u8 c2, .int .u8 c3]) = _
  rw [this]
  rfl
theorem zero3 (w : World) : (zeroValue 3).run Try.prog w = .ok (.int .i64 0) w := by kernel_rfl
theorem win_four {l : List Int} {k : Nat} (h : k + 4 ≤ l.length) : win l k = [l.getD k 0, l.getD (k + 1) 0, l.getD (k + 2) 0, l.getD (k + 3) 0] := by
  unfold win
  rw [List.drop_eq_getElem_cons (by omega : k < l.length), List.drop_eq_getElem_cons (by omega : k + 1 < l.length), List.drop_eq_getElem_cons (by omega : k + 1 + 1 < l.length), List.drop_eq_getElem_cons (by omega : k + 1 + 1 + 1 < l.length)]
  simp only [List.take_succ_cons, List.take_zero, List.getD_eq_getElem?_getD, List.getElem?_eq_getElem (by omega : k < l.length), List.getElem?_eq_getElem (by omega : k + 1 < l.length), List.getElem?_eq_getElem (by omega : k + 2 < l.length), List.getElem?_eq_getElem (by omega : k + 3 < l.length)]
  rfl
end Go.Proofs.Ytlkpedknhjgdiaa
