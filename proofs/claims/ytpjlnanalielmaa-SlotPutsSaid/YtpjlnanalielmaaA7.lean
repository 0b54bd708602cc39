/-
  Plain mathematics of slots: their bytes, which may be, what bytes tell (package slot). Conditions: none.
-/
import Derived.Test.YtpjlnanalielmaaF7
import Derived.Test.YtpjlnanalielmaaN7
import Derived.Test.YtpjlnanalielmaaBl
namespace Go.Proofs.Ytpjlnanalielmaa
open Go.RowKit

/-- A slot: Seq, Start, Count, Sum. -/
abbrev Sl := Int × Int × Int × Int
def slV (x : Sl) : List Value := [.int .i64 x.1, .int .i64 x.2.1, .int .i64 x.2.2.1, .int .u32 x.2.2.2]
def May (x : Sl) : Prop := (1 ≤ x.1 ∧ x.1 ≤ 2147483648) ∧ (2 ≤ x.2.1 ∧ x.2.1 ≤ 65536) ∧ (1 ≤ x.2.2.1 ∧ x.2.2.1 ≤ 1048576)
instance (x : Sl) : Decidable (May x) := by unfold May; infer_instance
/-- What a slot's fields can be at all. -/
def SlOk (x : Sl) : Prop := In64 x.1 ∧ In64 x.2.1 ∧ In64 x.2.2.1 ∧ 0 ≤ x.2.2.2 ∧ x.2.2.2 < 4294967296
def slB (x : Sl) : List Int := numB false 4 x.1.toNat ++ numB false 4 x.2.1.toNat ++ numB false 4 x.2.2.1.toNat ++ numB false 4 x.2.2.2.toNat
def slOf (l : List Int) : Sl := ((getTo false 4 0 l 4 : Nat), (getTo false 4 4 l 4 : Nat), (getTo false 4 8 l 4 : Nat), (getTo false 4 12 l 4 : Nat))
def getS (l : List Int) : Option Sl := if l.length = 16 ∧ May (slOf l) then some (slOf l) else none
def slZ : Sl := (0, 0, 0, 0)
theorem slB_len (x : Sl) : (slB x).length = 16 := by simp [slB, numB_len]
theorem slB_bd (x : Sl) : ∀ c ∈ slB x, 0 ≤ c ∧ c < 256 := fun c hc => by
  unfold slB at hc
  rcases List.mem_append.1 hc with hc | hc
  · rcases List.mem_append.1 hc with hc | hc
    · rcases List.mem_append.1 hc with hc | hc
      · exact numB_bd _ _ _ c hc
      · exact numB_bd _ _ _ c hc
    · exact numB_bd _ _ _ c hc
  · exact numB_bd _ _ _ c hc
theorem fits4 {v : Nat} (h : v < 4294967296) : fitsIn 4 v = true := by
  unfold fitsIn
  have : v / 2 ^ (8 * 4) = 0 := Nat.div_eq_of_lt (by omega)
  simp [this]
theorem fit4 {v : Nat} (h : v < 4294967296) : Fit64 v := by unfold Fit64; omega
theorem slOf_slB {x : Sl} (hm : May x) (ho : SlOk x) : slOf (slB x) = x := by
  obtain ⟨q, s, c, m⟩ := x
  obtain ⟨⟨h1, h2⟩, ⟨h3, h4⟩, h5, h6⟩ := hm
  obtain ⟨_, _, _, h7, h8⟩ := ho
  dsimp only at h1 h2 h3 h4 h5 h6 h7 h8
  have b1 : q.toNat < 4294967296 := by omega
  have b2 : s.toNat < 4294967296 := by omega
  have b3 : c.toNat < 4294967296 := by omega
  have b4 : m.toNat < 4294967296 := by omega
  have e1 := get_back [] (numB false 4 s.toNat ++ numB false 4 c.toNat ++ numB false 4 m.toNat) false 4 q.toNat (fit4 b1) (by omega) (fits4 b1)
  have e2 := get_back (numB false 4 q.toNat) (numB false 4 c.toNat ++ numB false 4 m.toNat) false 4 s.toNat (fit4 b2) (by omega) (fits4 b2)
  have e3 := get_back (numB false 4 q.toNat ++ numB false 4 s.toNat) (numB false 4 m.toNat) false 4 c.toNat (fit4 b3) (by omega) (fits4 b3)
  have e4 := get_back (numB false 4 q.toNat ++ numB false 4 s.toNat ++ numB false 4 c.toNat) [] false 4 m.toNat (fit4 b4) (by omega) (fits4 b4)
  simp only [List.length_append, numB_len, List.length_nil, List.nil_append, List.append_nil, List.append_assoc] at e1 e2 e3 e4
  unfold slOf slB
  simp only [List.append_assoc]
  rw [e1, e2, e3, e4]
  simp only [Prod.mk.injEq]
  omega
theorem getS_slB {x : Sl} (hm : May x) (ho : SlOk x) : getS (slB x) = some x := by
  unfold getS
  rw [slOf_slB hm ho, if_pos ⟨slB_len x, hm⟩]
theorem slB_inj {x y : Sl} (hx : May x) (hy : May y) (ox : SlOk x) (oy : SlOk y) (h : slB x = slB y) : x = y := by rw [← slOf_slB hx ox, h, slOf_slB hy oy]
theorem getS_ok {l : List Int} {x : Sl} (h : getS l = some x) : l.length = 16 ∧ May x ∧ slOf l = x := by
  unfold getS at h
  split at h
  · rename_i h'
    cases h
    exact ⟨h'.1, h'.2, rfl⟩
  · cases h
theorem getS_none {l : List Int} (h : l.length ≠ 16) : getS l = none := by
  unfold getS
  rw [if_neg (fun h' => h h'.1)]
/-- What Order hands back. -/
def ordS (x y : Option Sl) : List Sl :=
  match x, y with
  | none, none => []
  | some x, none => [x]
  | none, some y => [y]
  | some x, some y => if x.1 < y.1 then [y, x] else [x, y]
theorem slV_len (x : Sl) : (slV x).length = 4 := rfl
theorem sl_rowed : Rowed Try.prog 40 24 4 32 slV where
  under := Try.underlying40
  info := by
    have h : (Try.prog.info? 24).map (fun i => (i.zero.map (fun z => z.cells.size), i.size, i.bytes)) = some (some 4, 4, 32) := by kernel_rfl
    obtain ⟨i, hi, he⟩ := Option.map_eq_some_iff.1 h
    simp only [Prod.mk.injEq] at he
    obtain ⟨z, hz, hzs⟩ := Option.map_eq_some_iff.1 he.1
    exact ⟨i, z, hi, hz, he.2.1, he.2.2, hzs⟩
  pos := by decide
  small := by decide
  len := slV_len
  one := fun x u hu => by
    simp only [slV, List.mem_cons, List.not_mem_nil, or_false] at hu
    rcases hu with rfl | rfl | rfl | rfl <;> rfl
/-- The bytes in an array. -/
def arrV (l : List Int) : Array Value := (l.map (Value.int .u8)).toArray
theorem arr_lies (w : World) (l : List Int) (T : TypeId) (hb : Small l) (b : Nat) (hB : Blk w b T (arrV l)) : Bytes w (some ⟨b, 0, none⟩) l.length l := by
  refine ⟨rfl, hb, Or.inr ⟨b, 0, rfl, hB.lt, fun i hi => ?_⟩⟩
  rw [hB.cell, Nat.zero_add, arrV, List.getElem?_toArray, List.getElem?_map, List.getElem?_eq_getElem hi, List.getD_eq_getElem?_getD, List.getElem?_eq_getElem hi]
  rfl
/-- A number over the bytes from place p on. -/
def overB (l : List Int) (p : Nat) (d : List Int) : List Int := l.take p ++ d ++ l.drop (p + d.length)
theorem overB_len {l d : List Int} {p : Nat} (h : p + d.length ≤ l.length) : (overB l p d).length = l.length := by
  unfold overB
  simp only [List.length_append, List.length_take, List.length_drop]
  omega
theorem overB_small {l d : List Int} {p : Nat} (h : p + d.length ≤ l.length) (hl : Small l) (hd : ∀ c ∈ d, 0 ≤ c ∧ c < 256) : Small (overB l p d) := by
  refine ⟨by rw [overB_len h]; exact hl.1, fun c hc => ?_⟩
  unfold overB at hc
  rcases List.mem_append.1 hc with hc | hc
  · rcases List.mem_append.1 hc with hc | hc
    · exact hl.2 c (List.mem_of_mem_take hc)
    · exact hd c hc
  · exact hl.2 c (List.mem_of_mem_drop hc)
theorem small16 {l : List Int} (hl : l.length = 16) (hb : ∀ c ∈ l, 0 ≤ c ∧ c < 256) : Small l := ⟨by omega, hb⟩
theorem list4 {l : List Int} (h : l.length = 4) : ∃ a b c d, l = [a, b, c, d] := by
  match l, h with
  | [a, b, c, d], _ => exact ⟨a, b, c, d, rfl⟩
theorem over_all (q s c m : Nat) : overB (overB (overB (overB (noughts 16) 0 (numB false 4 q)) 4 (numB false 4 s)) 8 (numB false 4 c)) 12 (numB false 4 m) = numB false 4 q ++ numB false 4 s ++ numB false 4 c ++ numB false 4 m := by
  obtain ⟨a1, a2, a3, a4, e1⟩ := list4 (numB_len false 4 q)
  obtain ⟨b1, b2, b3, b4, e2⟩ := list4 (numB_len false 4 s)
  obtain ⟨c1, c2, c3, c4, e3⟩ := list4 (numB_len false 4 c)
  obtain ⟨d1, d2, d3, d4, e4⟩ := list4 (numB_len false 4 m)
  rw [e1, e2, e3, e4]
  rfl
theorem slOf_bd {l : List Int} (h : ∀ c ∈ l, 0 ≤ c ∧ c < 256) : SlOk (slOf l) := by
  have h0 := getTo_lt h false 4 0 4
  have h4 := getTo_lt h false 4 4 4
  have h8 := getTo_lt h false 4 8 4
  have h12 := getTo_lt h false 4 12 4
  unfold SlOk slOf In64
  dsimp only
  omega
end Go.Proofs.Ytpjlnanalielmaa
