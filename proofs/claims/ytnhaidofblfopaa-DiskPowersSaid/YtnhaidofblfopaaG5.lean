/-
  Writes of many sectors, in plain mathematics (layer 5): with the power staying, and where it fails. Conditions: none.
-/
import Derived.Test.YtnhaidofblfopaaP5
namespace Go.Proofs.Ytnhaidofblfopaa
open Go.RowKit
set_option linter.unusedVariables false

theorem fget_fset {fs : List (Nm × FileM)} {s : Nm} {f : FileM} (h : fget fs s = some f) (g : FileM) : fget (fset fs s g) s = some g := by
  induction fs with
  | nil => simp [fget] at h
  | cons x r ih =>
    by_cases hx : x.1 = s
    · simp [fget, fset, hx]
    · have h' : fget r s = some f := by simpa [fget, hx] using h
      have := ih h'
      simpa [fget, fset, hx] using this
theorem fset_fset (fs : List (Nm × FileM)) (s : Nm) (f g : FileM) : fset (fset fs s f) s g = fset fs s g := by
  unfold fset
  rw [List.map_map]
  refine List.map_congr_left fun x _ => ?_
  by_cases hx : x.1 = s <;> simp [hx]
/-- The power stays. -/
theorem go_zero (s : Nm) : ∀ (L : List Sec) (i : Nat) (D : Dsk) (f : FileM), D.fuse = 0 → fget D.files s = some f → L ≠ [] →
    ∃ now' P, Dsk.go s L i D = (0, ⟨D.room, fset D.files s ⟨now', f.dur⟩, P, 0, D.dead, D.cnt + L.length⟩) ∧ now'.length = max f.now.length (i + L.length)
  | [], _, _, _, _, _, h => absurd rfl h
  | x :: r, i, D, f, h1, h2, _ => by
    have e : Dsk.go s (x :: r) i D = Dsk.go s r (i + 1) (D.put s f i x) := by
      rw [Dsk.go, if_neg (by omega), h2]
    rw [e]
    cases r with
    | nil =>
      refine ⟨putS f.now i x, D.pend ++ [(s, i, x)], ?_, ?_⟩
      · simp [Dsk.go, Dsk.put, h1]
      · rw [putS_len]
        simp
    | cons y r =>
      obtain ⟨now', P, h3, h4⟩ := go_zero s (y :: r) (i + 1) (D.put s f i x) ⟨putS f.now i x, f.dur⟩ (by simp [Dsk.put, h1]) (by simp only [Dsk.put]; exact fget_fset h2 _) (by simp)
      refine ⟨now', P, ?_, ?_⟩
      · rw [h3]
        simp [Dsk.put, fset_fset]
        omega
      · rw [h4]
        simp only [putS_len, List.length_cons]
        omega
def pnd (L : List Sec) (j : Nat) : List (Nat × Sec) := (List.range j).map fun i => (i, L.getD i [])
theorem pnd_snoc (L : List Sec) (j : Nat) : pnd L (j + 1) = pnd L j ++ [(j, L.getD j [])] := by
  unfold pnd
  rw [List.range_succ]
  simp
theorem take_sec (L : List Sec) (j : Nat) (h : j < L.length) : L.take (j + 1) = L.take j ++ [L.getD j []] := by
  rw [List.take_succ_eq_append_getElem h, List.getD_eq_getElem?_getD, List.getElem?_eq_getElem h]
  rfl
theorem putS_end (L : List Sec) (j : Nat) (h : j < L.length) : putS (L.take j) j (L.getD j []) = L.take (j + 1) := by
  have hl : (L.take j).length = j := by rw [List.length_take]; omega
  unfold putS
  rw [if_neg (by omega), hl, Nat.sub_self, take_sec L j h]
  simp
/-- The power fails at the k-th. -/
theorem go_dies (room : Nat) (s : Nm) (L : List Sec) (k : Nat) (hk : k ≤ L.length) : ∀ m j, j + m + 1 = k →
    Dsk.go s (L.drop j) j (one room s (L.take j) [] (pnd L j) (k - j) false j) = (8, one room s (L.take (k - 1)) [] (pnd L (k - 1)) 0 true (k - 1))
  | 0, j, h => by
    have hd : L.drop j = L.getD j [] :: L.drop (j + 1) := by
      rw [List.drop_eq_getElem_cons (by omega), List.getD_eq_getElem?_getD, List.getElem?_eq_getElem (by omega)]
      rfl
    rw [hd, Dsk.go, if_pos (by show k - j = 1; omega)]
    obtain rfl : j = k - 1 := by omega
    rfl
  | m + 1, j, h => by
    have hd : L.drop j = L.getD j [] :: L.drop (j + 1) := by
      rw [List.drop_eq_getElem_cons (by omega), List.getD_eq_getElem?_getD, List.getElem?_eq_getElem (by omega)]
      rfl
    have hg : fget (one room s (L.take j) [] (pnd L j) (k - j) false j).files s = some ⟨L.take j, []⟩ := one_get s _
    rw [hd, Dsk.go, if_neg (by show ¬ (k - j = 1); omega), hg]
    dsimp only
    rw [one_put, putS_end L j (by omega), ← pnd_snoc, show k - j - 1 = k - (j + 1) by omega]
    exact go_dies room s L k hk m (j + 1) (by omega)
theorem chunks_flat {L : List Sec} (h : ∀ x ∈ L, x.length = 16) : chunks L.flatten = L := by
  have hl := flat_len16 h
  unfold chunks
  rw [hl, show 16 * L.length / 16 = L.length by omega]
  apply List.ext_getElem
  · simp
  · intro i h1 h2
    simp only [List.getElem_map, List.getElem_range]
    rw [flat_drop h, List.drop_eq_getElem_cons h2, List.flatten_cons, List.take_append_of_le_length (by rw [h _ (List.getElem_mem h2)]; omega), List.take_of_length_le (by rw [h _ (List.getElem_mem h2)]; omega)]
/-- What any write of whole sectors comes to. -/
theorem write_go (D : Dsk) (s : Nm) (f : FileM) (at' : Nat) (L : List Sec) (h16 : ∀ x ∈ L, x.length = 16) (hd : D.dead = false) (hg : fget D.files s = some f) (hm : at' + L.length ≤ 65536) (hr : usedF D.files + (max f.now.length (at' + L.length) - f.now.length) ≤ D.room) :
    D.write s at' L.flatten = Dsk.go s L at' D := by
  have hl := flat_len16 h16
  unfold Dsk.write
  rw [if_neg (by rw [hd]; simp), hg]
  dsimp only
  rw [hl, if_neg (by omega), show 16 * L.length / 16 = L.length by omega, if_neg (by omega), if_neg (by omega), chunks_flat h16, Int.toNat_natCast]
theorem survA_all : ∀ (l : List (Nat × Sec)), survA l (List.replicate l.length true) = l
  | [] => rfl
  | x :: r => by
    rw [List.length_cons, List.replicate_succ]
    simp [survA, survA_all r]
theorem kept_pnd (L : List Sec) : ∀ j, j ≤ L.length → keptA [] (pnd L j) = L.take j
  | 0, _ => rfl
  | j + 1, h => by
    rw [pnd_snoc]
    unfold keptA
    rw [List.foldl_append]
    have := kept_pnd L j (by omega)
    unfold keptA at this
    rw [this]
    exact putS_end L j (by omega)
theorem pnd_len (L : List Sec) (j : Nat) : (pnd L j).length = j := by simp [pnd]
/-! While the power is off. -/
theorem dead_read (D : Dsk) (s : Nm) (at' n : Int) (h : D.dead = true) : D.read s at' n = ([], 8) := by unfold Dsk.read; rw [if_pos h]
theorem dead_create (D : Dsk) (s : Nm) (h : D.dead = true) : D.create s = (8, D) := by unfold Dsk.create; rw [if_pos h]
theorem dead_remove (D : Dsk) (s : Nm) (h : D.dead = true) : D.remove s = (8, D) := by unfold Dsk.remove; rw [if_pos h]
theorem dead_flush (D : Dsk) (s : Nm) (h : D.dead = true) : D.flush s = (8, D) := by unfold Dsk.flush; rw [if_pos h]
theorem dead_cut (D : Dsk) (s : Nm) (n : Int) (h : D.dead = true) : D.cut s n = (8, D) := by unfold Dsk.cut; rw [if_pos h]
theorem Own.belowL {w w' : World} {base : Nat} {v : Value} {n : Nat} {xs : List Int} (h : Own w base v n xs) (hb : Below w.heap.size w w') : Own w' base v n xs :=
  ⟨h.1.kept (grown_of_below hb) (by
    cases hv : v.ownBlock with
    | none => exact .inl rfl
    | some k => exact .inr (by simp)), h.2⟩
/-- 's[:k]', which lies where s lies. -/
theorem slice_front2 {w : World} {a : Option Addr} {len cap : Nat} {l : List Int} (h : Bytes w a len l) (hcap : len ≤ cap) (hnil : a = none → cap = 0) (k : Nat) (hk : k ≤ len) :
    ∃ a' : Option Addr, (∀ w' : World, (Instr.slice 22 (.slice a len cap) none (some (.int .i64 k)) none).run Try.prog w' = .ok (.slice a' k cap) w') ∧ Bytes w a' k (l.take k) ∧ (∀ x, a' = some x → ∃ y, a = some y ∧ x.block = y.block) := by
  obtain ⟨i0, hi0, _, hz1, _⟩ := info_parts info5
  obtain ⟨h1, h2, h3⟩ := h
  have hln : (l.take k).length = k := by rw [List.length_take]; omega
  have b1 : k ≤ cap := by omega
  refine ⟨if cap = 0 then a else a.map (·.add (0 * 1)), fun w' => ?_, ⟨hln, h2.take k, ?_⟩, ?_⟩
  · simp [Instr.slice, Instr.sliceBounds, Instr.sliceBound, asIntOf, run_underlying Try.underlying22, sizeOf, typeInfo, hi0, b1, go_sem]
  · by_cases hz : k = 0
    · exact Or.inl hz
    · obtain ⟨b, off, rfl, hlt, hc⟩ := h3.resolve_left (by omega)
      refine Or.inr ⟨b, off, ?_, hlt, fun j hj => ?_⟩
      · rw [if_neg (by omega)]
        simp [Addr.add]
      · rw [hln] at hj
        rw [hc j (by omega), List.getD_eq_getElem?_getD, List.getD_eq_getElem?_getD, List.getElem?_take, if_pos (by omega)]
  · intro x e
    by_cases hz : cap = 0
    · rw [if_pos hz] at e
      exact ⟨x, e, rfl⟩
    · rw [if_neg hz] at e
      obtain ⟨y, hy, rfl⟩ := Option.map_eq_some_iff.1 e
      exact ⟨y, hy, rfl⟩
theorem Out.front {S : Nat → Prop} {w : World} {a : Option Addr} {len cap : Nat} {l : List Int} (h : Out S w a len l) (hcap : len ≤ cap) (hnil : a = none → cap = 0) (k : Nat) (hk : k ≤ len) :
    ∃ a' : Option Addr, (∀ w' : World, (Instr.slice 22 (.slice a len cap) none (some (.int .i64 k)) none).run Try.prog w' = .ok (.slice a' k cap) w') ∧ Out S w a' k (l.take k) := by
  obtain ⟨a', h1, h2, h3⟩ := slice_front2 h.1 hcap hnil k hk
  refine ⟨a', h1, h2, fun h0 x e => ?_⟩
  obtain ⟨y, hy, e'⟩ := h3 x e
  rw [e']
  exact h.2 (by omega) y hy
/-- Three slices of bytes beside the disk. -/
def Keep3 (w0 : World) (p : Addr) (D : Dsk) (S : Nat → Prop) (a1 a2 a3 : Option Addr) (n1 n2 n3 : Nat) (l1 l2 l3 : List Int) (w : World) : Prop := Out S w a1 n1 l1 ∧ Out S w a2 n2 l2 ∧ Out S w a3 n3 l3 ∧ Has w0 p D w S
theorem Keep3.drew {w0 w : World} {p : Addr} {D : Dsk} {S : Nat → Prop} {a1 a2 a3 : Option Addr} {n1 n2 n3 : Nat} {l1 l2 l3 : List Int} (h : Keep3 w0 p D S a1 a2 a3 n1 n2 n3 l1 l2 l3 w) : Keep3 w0 p D S a1 a2 a3 n1 n2 n3 l1 l2 l3 w.drew :=
  ⟨h.1.later (Below.refl _ _).drew, h.2.1.later (Below.refl _ _).drew, h.2.2.1.later (Below.refl _ _).drew, h.2.2.2.drew⟩
theorem Keep3.later {w0 w w' : World} {p : Addr} {D : Dsk} {S : Nat → Prop} {a1 a2 a3 : Option Addr} {n1 n2 n3 : Nat} {l1 l2 l3 : List Int} (h : Keep3 w0 p D S a1 a2 a3 n1 n2 n3 l1 l2 l3 w) (hb : Below w.heap.size w w') : Keep3 w0 p D S a1 a2 a3 n1 n2 n3 l1 l2 l3 w' :=
  ⟨h.1.later hb, h.2.1.later hb, h.2.2.1.later hb, h.2.2.2.later hb⟩
theorem Keep3.away {w0 w w' : World} {p : Addr} {D D' : Dsk} {S S' : Nat → Prop} {a1 a2 a3 : Option Addr} {n1 n2 n3 : Nat} {l1 l2 l3 : List Int} (h : Keep3 w0 p D S a1 a2 a3 n1 n2 n3 l1 l2 l3 w) (ha : Away S w S' w') (hh : Has w0 p D' w' S') : Keep3 w0 p D' S' a1 a2 a3 n1 n2 n3 l1 l2 l3 w' :=
  ⟨h.1.away ha, h.2.1.away ha, h.2.2.1.away ha, hh⟩
/-- .. whatever the disk is. -/
def Some3 (w0 : World) (p : Addr) (a1 a2 a3 : Option Addr) (n1 n2 n3 : Nat) (l1 l2 l3 : List Int) (w : World) : Prop := ∃ D S, Keep3 w0 p D S a1 a2 a3 n1 n2 n3 l1 l2 l3 w
theorem Some3.drew {w0 w : World} {p : Addr} {a1 a2 a3 : Option Addr} {n1 n2 n3 : Nat} {l1 l2 l3 : List Int} (h : Some3 w0 p a1 a2 a3 n1 n2 n3 l1 l2 l3 w) : Some3 w0 p a1 a2 a3 n1 n2 n3 l1 l2 l3 w.drew := by
  obtain ⟨D, S, k⟩ := h
  exact ⟨D, S, k.drew⟩
theorem Some3.below {w0 w : World} {p : Addr} {a1 a2 a3 : Option Addr} {n1 n2 n3 : Nat} {l1 l2 l3 : List Int} (h : Some3 w0 p a1 a2 a3 n1 n2 n3 l1 l2 l3 w) : Below w0.heap.size w0 w := by
  obtain ⟨D, S, k⟩ := h
  exact k.2.2.2.below
theorem Some3.all {w0 w : World} {p : Addr} {a1 a2 a3 : Option Addr} {n1 n2 n3 : Nat} {l1 l2 l3 : List Int} {s : ByteArray} (h : Some3 w0 p a1 a2 a3 n1 n2 n3 l1 l2 l3 w) (h1 : strOfNums l1 = s) (h3 : strOfNums l3 = s) (c1 c3 : Nat) :
    (convert 22 9 (.slice a1 n1 c1)).run Try.prog w = .ok (.string s) w ∧ (convert 22 9 (.slice a3 n3 c3)).run Try.prog w = .ok (.string s) w ∧ Some3 w0 p a1 a2 a3 n1 n2 n3 l1 l2 l3 w := by
  obtain ⟨D, S, k1, k2, k3, k4⟩ := h
  rw [← h1]
  exact ⟨conv_str k1.1 c1, by rw [h1, ← h3]; exact conv_str k3.1 c3, D, S, k1, k2, k3, k4⟩
/-! Bools that are the call's own. -/
def boolCells (b : Bool) : List Value := [.bool b]
theorem bool_rowed : Rowed Try.prog 23 4 1 1 boolCells where
  under := Try.underlying23
  info := by
    have h : (Try.prog.info? 4).map (fun i => (i.zero, i.size, i.bytes)) = some (some (.bool false), 1, 1) := by kernel_rfl
    obtain ⟨i, hi, hz⟩ := Option.map_eq_some_iff.1 h
    simp only [Prod.mk.injEq] at hz
    exact ⟨i, _, hi, hz.1, hz.2.1, hz.2.2, rfl⟩
  pos := by decide
  small := by decide
  len := fun _ => rfl
  one := fun x u hu => by
    simp only [boolCells, List.mem_cons, List.not_mem_nil, or_false] at hu
    rw [hu]
    rfl
theorem flat_bools : ∀ l : List Bool, l.flatMap boolCells = l.map Value.bool
  | [] => rfl
  | x :: r => by rw [List.flatMap_cons, List.map_cons, flat_bools r]; rfl
theorem reads_picks {w : World} {a : Option Addr} {n : Nat} {l : List Bool} (h : Reads boolCells w a n l) (hn : n ≤ 1000) : Picks w a n l := by
  obtain ⟨h1, _, h3⟩ := h
  refine ⟨h1, hn, ?_⟩
  rcases h3 with h3 | ⟨b, off, e, hlt, hc⟩
  · exact Or.inl h3
  · refine Or.inr ⟨b, off, e, hlt, fun i hi => hc i _ ?_⟩
    have e := flat_bools l
    rw [e, List.getElem?_map, List.getElem?_eq_getElem (by omega), List.getD_eq_getElem?_getD, List.getElem?_eq_getElem (by omega)]
    rfl
end Go.Proofs.Ytnhaidofblfopaa
