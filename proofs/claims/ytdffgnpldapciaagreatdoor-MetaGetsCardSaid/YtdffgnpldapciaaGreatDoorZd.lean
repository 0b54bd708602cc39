/-
  The reference's Get of a meta (14.3). Conditions: the bytes read, at most 9000 of them.
-/
import Derived.Test.YtdffgnpldapciaaGreatDoorYz
import Derived.Test.YtdffgnpldapciaaGreatDoorXz
import Derived.Deep.RegionHeld3
namespace Go.Proofs.YtdffgnpldapciaaGreatDoor
open Go.RowKit
set_option linter.unusedVariables false

theorem st1 {l : List Int} {q1 C : Nat} {b1 : Bool} (hF : ∀ y r, y < 256 ^ 1 → false = false → l.drop 0 = numB false 1 y ++ r → b1 = false ∧ C = y ∧ l.drop q1 = r) {M : MM} (hM : Mt1 l 0 M []) : b1 = false ∧ M.c = (C : Int) ∧ l.drop q1 = mR2 M [] := by
  have h1 := hM.2
  rw [mR1] at h1
  have hc := hM.1.1.c
  have e : (256 : Nat) ^ 1 = 256 := by decide
  obtain ⟨k1, k2, k3⟩ := hF M.c.toNat _ (by omega) rfl h1
  exact ⟨k1, by omega, k3⟩
theorem st2 {l : List Int} {q1 q2 Z : Nat} {b1 b2 : Bool} {P : MM → Prop} (hF : ∀ y r, y < 256 ^ 2 → b1 = false → l.drop q1 = numB false 2 y ++ r → b2 = false ∧ Z = y ∧ l.drop q2 = r) (h1 : ∀ M, Mt1 l 0 M [] → b1 = false ∧ P M ∧ l.drop q1 = mR2 M []) {M : MM} (hM : Mt1 l 0 M []) : b2 = false ∧ M.s = (Z : Int) ∧ l.drop q2 = mR3 M [] := by
  obtain ⟨k0, _, k1⟩ := h1 M hM
  have hs := hM.1.1.sml.s
  obtain ⟨k2, k3, k4⟩ := hF M.s.toNat _ (lt16 (by omega)) k0 k1
  exact ⟨k2, by omega, k4⟩
theorem st3 {l : List Int} {q2 q3 : Nat} {b2 b3 : Bool} {bk : ByteArray} {P : MM → Prop} (hF : ∀ y r, y.size ≤ 65535 → b2 = false → l.drop q2 = textB y ++ r → b3 = false ∧ bk = y ∧ l.drop q3 = r) (h2 : ∀ M, Mt1 l 0 M [] → b2 = false ∧ P M ∧ l.drop q2 = mR3 M []) {M : MM} (hM : Mt1 l 0 M []) : b3 = false ∧ M.bk = bk ∧ l.drop q3 = mR4 M [] := by
  obtain ⟨k0, _, k1⟩ := h2 M hM
  obtain ⟨k2, k3, k4⟩ := hF M.bk _ (mbk M hM.1.1) k0 k1
  exact ⟨k2, k3.symm, k4⟩
theorem st4 {l : List Int} {q3 q4 C Z : Nat} {b3 b4 : Bool} {T : Tb} (hF : ∀ T0 r, rightT T0 ((Z : Int) / 2 ^ C) C → EnT T0 → b3 = false → l.drop q3 = tblB T0 ++ r → b4 = false ∧ T = T0 ∧ l.drop q4 = r) {M : MM} (hM : Mt1 l 0 M []) (hc : M.c = (C : Int)) (hs : M.s = (Z : Int)) (k0 : b3 = false) (k1 : l.drop q3 = mR4 M []) : b4 = false ∧ M.T = T ∧ l.drop q4 = mR5 M [] := by
  obtain ⟨k2, k3, k4⟩ := hF M.T _ (hM.Tr hc hs) hM.1.2.1 k0 k1
  exact ⟨k2, k3.symm, k4⟩
theorem st5 {l : List Int} {q4 q5 N : Nat} {b4 b5 : Bool} (hF : ∀ y r, y < 256 ^ 1 → b4 = false → l.drop q4 = numB false 1 y ++ r → b5 = false ∧ N = y ∧ l.drop q5 = r) {M : MM} (hM : Mt1 l 0 M []) (k0 : b4 = false) (k1 : l.drop q4 = mR5 M []) : b5 = false ∧ M.S.length = N ∧ l.drop q5 = mR6 M [] := by
  have e : (256 : Nat) ^ 1 = 256 := by decide
  have hs := hM.1.1.nS
  obtain ⟨k2, k3, k4⟩ := hF M.S.length _ (by omega) k0 k1
  exact ⟨k2, k3.symm, k4⟩
theorem Blk.off6q {w : World} {Y : Nat} {cs : Array Value} (h : Blk w Y 49 cs) : Off6 w (some Y) := ⟨h.off (by decide), h.off (by decide), h.off (by decide), h.off (by decide), h.off (by decide), h.off (by decide)⟩
/-- Where the reading of shots stands. -/
def SF (l : List Int) (N j : Nat) (D : List ShM) (q : Nat) (b : Bool) : Prop := ∀ M, Mt1 l 0 M [] → b = false ∧ M.S.length = N ∧ M.S.take j = D ∧ l.drop q = (M.S.drop j).flatMap shB ++ mR7 M []
theorem st5' {l : List Int} {q5 N : Nat} {b5 : Bool} (h : ∀ M, Mt1 l 0 M [] → b5 = false ∧ M.S.length = N ∧ l.drop q5 = mR6 M []) : SF l N 0 [] q5 b5 := fun M hM => ⟨(h M hM).1, (h M hM).2.1, rfl, (h M hM).2.2⟩
def shR (M : MM) (j : Nat) : List Int := (M.S.drop (j + 1)).flatMap shB ++ mR7 M []
theorem st6 {l : List Int} {N j q q6 : Nat} {D : List ShM} {b b6 : Bool} {nm : ByteArray} (h : SF l N j D q b) (hj : j < N) (hF : ∀ y r, y.size ≤ 65535 → b = false → l.drop q = textB y ++ r → b6 = false ∧ nm = y ∧ l.drop q6 = r) {M : MM} (hM : Mt1 l 0 M []) :
    ∃ d, M.S[j]? = some d ∧ b6 = false ∧ d.1 = nm ∧ l.drop q6 = numB false 2 d.2.1.toNat ++ (tblB d.2.2 ++ shR M j) := by
  obtain ⟨k1, k2, k3, k4⟩ := h M hM
  have hd : j < M.S.length := by omega
  have e : M.S.drop j = M.S[j] :: M.S.drop (j + 1) := List.drop_eq_getElem_cons hd
  refine ⟨M.S[j], List.getElem?_eq_getElem hd, ?_⟩
  rw [e, List.flatMap_cons] at k4
  have hs := hM.1.1.sml.S _ (List.getElem_mem hd)
  obtain ⟨m1, m2, m3⟩ := hF M.S[j].1 _ (by omega) k1 (by
    rw [k4]
    show (textB M.S[j].1 ++ numB false 2 M.S[j].2.1.toNat ++ tblB M.S[j].2.2) ++ (M.S.drop (j + 1)).flatMap shB ++ mR7 M [] = textB M.S[j].1 ++ (numB false 2 M.S[j].2.1.toNat ++ (tblB M.S[j].2.2 ++ shR M j))
    unfold shR
    simp only [List.append_assoc])
  exact ⟨m1, m2.symm, m3⟩
theorem st7 {l : List Int} {j q6 q7 sz : Nat} {b6 b7 : Bool} {nm : ByteArray} {M : MM} (hM : Mt1 l 0 M []) (h : ∃ d, M.S[j]? = some d ∧ b6 = false ∧ d.1 = nm ∧ l.drop q6 = numB false 2 d.2.1.toNat ++ (tblB d.2.2 ++ shR M j)) (hF : ∀ y r, y < 256 ^ 2 → b6 = false → l.drop q6 = numB false 2 y ++ r → b7 = false ∧ sz = y ∧ l.drop q7 = r) :
    ∃ d, M.S[j]? = some d ∧ b7 = false ∧ (d.1 = nm ∧ d.2.1 = (sz : Int)) ∧ l.drop q7 = tblB d.2.2 ++ shR M j := by
  obtain ⟨d, k1, k2, k3, k4⟩ := h
  have hs := hM.1.1.sml.S d (List.mem_of_getElem? k1)
  obtain ⟨m1, m2, m3⟩ := hF d.2.1.toNat _ (lt16 (by omega)) k2 k4
  exact ⟨d, k1, m1, ⟨k3, by omega⟩, m3⟩
theorem st8 {l : List Int} {N j q q7 q8 sz C : Nat} {D : List ShM} {b b7 b8 : Bool} {nm : ByteArray} {T1 : Tb} (h0 : SF l N j D q b) (hC : ∀ M, Mt1 l 0 M [] → M.c = (C : Int)) (h : ∀ M, Mt1 l 0 M [] → ∃ d, M.S[j]? = some d ∧ b7 = false ∧ (d.1 = nm ∧ d.2.1 = (sz : Int)) ∧ l.drop q7 = tblB d.2.2 ++ shR M j)
    (hF : ∀ T0 r, rightT T0 ((sz : Int) / 2 ^ C) C → EnT T0 → b7 = false → l.drop q7 = tblB T0 ++ r → b8 = false ∧ T1 = T0 ∧ l.drop q8 = r) : SF l N (j + 1) (D ++ [(nm, (sz : Int), T1)]) q8 b8 := fun M hM => by
  obtain ⟨d, k1, k2, ⟨k3, k4⟩, k5⟩ := h M hM
  obtain ⟨_, n1, n2, _⟩ := h0 M hM
  have hsh := hM.shRd (hC M hM) d (List.mem_of_getElem? k1)
  obtain ⟨m1, m2, m3⟩ := hF d.2.2 _ (by have := hsh.2.2.1; rwa [k4] at this) hsh.2.2.2 k2 k5
  obtain ⟨d1, d2, d3⟩ := d
  dsimp only at k3 k4 m2
  subst k3 k4 m2
  refine ⟨m1, n1, ?_, m3⟩
  rw [List.take_add_one, n2, k1]
  rfl
theorem st9 {l : List Int} {N q : Nat} {D : List ShM} {b : Bool} (h : SF l N N D q b) {M : MM} (hM : Mt1 l 0 M []) : b = false ∧ M.S = D ∧ l.drop q = mR7 M [] := by
  obtain ⟨k1, k2, k3, k4⟩ := h M hM
  rw [← k2, List.take_length] at k3
  rw [← k2, List.drop_length] at k4
  exact ⟨k1, k3, k4⟩
theorem sh_ok12 {nm : ByteArray} {sz : Nat} {T : Tb} (h1 : nm.size ≤ 65535) (h2 : sz < 65536) : ShMok (nm, (sz : Int), T) := ⟨by show I64 (sz : Int); unfold I64; omega, by show nm.size ≤ 9223372036854775807; omega⟩
theorem st10 {l : List Int} {q9 q10 N2 : Nat} {b9 b10 : Bool} {D : List ShM} (h : ∀ M, Mt1 l 0 M [] → b9 = false ∧ M.S = D ∧ l.drop q9 = mR7 M []) (hF : ∀ y r, y < 256 ^ 1 → b9 = false → l.drop q9 = numB false 1 y ++ r → b10 = false ∧ N2 = y ∧ l.drop q10 = r) {M : MM} (hM : Mt1 l 0 M []) : b10 = false ∧ M.B.length = N2 ∧ l.drop q10 = mR8 M [] := by
  obtain ⟨k0, _, k1⟩ := h M hM
  have e : (256 : Nat) ^ 1 = 256 := by decide
  have hs := hM.1.1.nB
  obtain ⟨k2, k3, k4⟩ := hF M.B.length _ (by omega) k0 k1
  exact ⟨k2, k3.symm, k4⟩
def bmR (M : MM) (i : Nat) : List Int := (M.B.drop (i + 1)).flatMap bmB ++ (cntB M.K ++ [])
/-- Where the reading of bitmaps stands. -/
def BF (l : List Int) (N i : Nat) (E : List BmM) (q : Nat) (b : Bool) : Prop := ∀ M, Mt1 l 0 M [] → b = false ∧ M.B.length = N ∧ M.B.take i = E ∧ l.drop q = (M.B.drop i).flatMap bmB ++ (cntB M.K ++ [])
theorem st10' {l : List Int} {q10 N : Nat} {b10 : Bool} (h : ∀ M, Mt1 l 0 M [] → b10 = false ∧ M.B.length = N ∧ l.drop q10 = mR8 M []) : BF l N 0 [] q10 b10 := fun M hM => ⟨(h M hM).1, (h M hM).2.1, rfl, (h M hM).2.2⟩
theorem st11 {l : List Int} {N i q q11 : Nat} {E : List BmM} {b b11 : Bool} {nm : ByteArray} (h : BF l N i E q b) (hi : i < N) (hF : ∀ y r, y.size ≤ 65535 → b = false → l.drop q = textB y ++ r → b11 = false ∧ nm = y ∧ l.drop q11 = r) {M : MM} (hM : Mt1 l 0 M []) :
    ∃ d, M.B[i]? = some d ∧ b11 = false ∧ d.1 = nm ∧ l.drop q11 = numB false 1 (onN d.2.1) ++ (numB false 2 d.2.2.length ++ (d.2.2.flatMap spB ++ bmR M i)) := by
  obtain ⟨k1, k2, k3, k4⟩ := h M hM
  have hd : i < M.B.length := by omega
  have e : M.B.drop i = M.B[i] :: M.B.drop (i + 1) := List.drop_eq_getElem_cons hd
  refine ⟨M.B[i], List.getElem?_eq_getElem hd, ?_⟩
  rw [e, List.flatMap_cons] at k4
  have hs := hM.1.1.sml.B _ (List.getElem_mem hd)
  obtain ⟨m1, m2, m3⟩ := hF M.B[i].1 _ (by omega) k1 (by
    rw [k4]
    show (textB M.B[i].1 ++ numB false 1 (onN M.B[i].2.1) ++ numB false 2 M.B[i].2.2.length ++ M.B[i].2.2.flatMap spB) ++ (M.B.drop (i + 1)).flatMap bmB ++ (cntB M.K ++ []) = textB M.B[i].1 ++ (numB false 1 (onN M.B[i].2.1) ++ (numB false 2 M.B[i].2.2.length ++ (M.B[i].2.2.flatMap spB ++ bmR M i)))
    unfold bmR
    simp only [List.append_assoc])
  exact ⟨m1, m2.symm, m3⟩
theorem st12 {l : List Int} {i q11 q12 v : Nat} {b11 b12 on : Bool} {nm : ByteArray} {M : MM} (hon : ((v : Int) == 1) = on) (h : ∃ d, M.B[i]? = some d ∧ b11 = false ∧ d.1 = nm ∧ l.drop q11 = numB false 1 (onN d.2.1) ++ (numB false 2 d.2.2.length ++ (d.2.2.flatMap spB ++ bmR M i))) (hF : ∀ y r, y < 256 ^ 1 → b11 = false → l.drop q11 = numB false 1 y ++ r → b12 = false ∧ v = y ∧ l.drop q12 = r) :
    ∃ d, M.B[i]? = some d ∧ b12 = false ∧ (d.1 = nm ∧ d.2.1 = on) ∧ l.drop q12 = numB false 2 d.2.2.length ++ (d.2.2.flatMap spB ++ bmR M i) := by
  obtain ⟨d, k1, k2, k3, k4⟩ := h
  have e : (256 : Nat) ^ 1 = 256 := by decide
  obtain ⟨m1, m2, m3⟩ := hF (onN d.2.1) _ (by have := onN_lt d.2.1; omega) k2 k4
  refine ⟨d, k1, m1, ⟨k3, ?_⟩, m3⟩
  rw [← hon, m2]
  cases d.2.1 <;> rfl
/-- Where the reading of a bitmap's spans stands. -/
def PF (l : List Int) (i : Nat) (nm : ByteArray) (on : Bool) (k t : Nat) (L : List Sp) (q : Nat) (b : Bool) : Prop := ∀ M, Mt1 l 0 M [] → ∃ d, M.B[i]? = some d ∧ b = false ∧ (d.1 = nm ∧ d.2.1 = on ∧ d.2.2.length = k ∧ d.2.2.take t = L) ∧ l.drop q = (d.2.2.drop t).flatMap spB ++ bmR M i
theorem st13 {l : List Int} {i q12 q13 k : Nat} {b12 b13 on : Bool} {nm : ByteArray} (h : ∀ M, Mt1 l 0 M [] → ∃ d, M.B[i]? = some d ∧ b12 = false ∧ (d.1 = nm ∧ d.2.1 = on) ∧ l.drop q12 = numB false 2 d.2.2.length ++ (d.2.2.flatMap spB ++ bmR M i)) (hF : ∀ y r, y < 256 ^ 2 → b12 = false → l.drop q12 = numB false 2 y ++ r → b13 = false ∧ k = y ∧ l.drop q13 = r) : PF l i nm on k 0 [] q13 b13 := fun M hM => by
  obtain ⟨d, k1, k2, ⟨k3, k4⟩, k5⟩ := h M hM
  have hs := hM.1.1.sml.B d (List.mem_of_getElem? k1)
  obtain ⟨m1, m2, m3⟩ := hF d.2.2.length _ (lt16 (by omega)) k2 k5
  exact ⟨d, k1, m1, ⟨k3, k4, m2.symm, rfl⟩, m3⟩
theorem st14 {l : List Int} {i k t q q14 x : Nat} {L : List Sp} {b b14 on : Bool} {nm : ByteArray} (h : PF l i nm on k t L q b) (ht : t < k) (hF : ∀ y r, y < 256 ^ 2 → b = false → l.drop q = numB false 2 y ++ r → b14 = false ∧ x = y ∧ l.drop q14 = r) {M : MM} (hM : Mt1 l 0 M []) :
    ∃ d s, (M.B[i]? = some d ∧ d.2.2[t]? = some s) ∧ b14 = false ∧ (d.1 = nm ∧ d.2.1 = on ∧ d.2.2.length = k ∧ d.2.2.take t = L) ∧ s.1 = (x : Int) ∧ l.drop q14 = numB false 2 s.2.toNat ++ ((d.2.2.drop (t + 1)).flatMap spB ++ bmR M i) := by
  obtain ⟨d, k1, k2, ⟨k3, k4, k5, k6⟩, k7⟩ := h M hM
  have hd : t < d.2.2.length := by omega
  have e : d.2.2.drop t = d.2.2[t] :: d.2.2.drop (t + 1) := List.drop_eq_getElem_cons hd
  have hs := (hM.1.1.sml.B d (List.mem_of_getElem? k1)).2.2 _ (List.getElem_mem hd)
  rw [e, List.flatMap_cons] at k7
  unfold Two16 at hs
  obtain ⟨m1, m2, m3⟩ := hF d.2.2[t].1.toNat _ (lt16 (by omega)) k2 (by
    rw [k7]
    show (numB false 2 d.2.2[t].1.toNat ++ numB false 2 d.2.2[t].2.toNat) ++ (d.2.2.drop (t + 1)).flatMap spB ++ bmR M i = numB false 2 d.2.2[t].1.toNat ++ (numB false 2 d.2.2[t].2.toNat ++ ((d.2.2.drop (t + 1)).flatMap spB ++ bmR M i))
    simp only [List.append_assoc])
  exact ⟨d, d.2.2[t], ⟨k1, List.getElem?_eq_getElem hd⟩, m1, ⟨k3, k4, k5, k6⟩, by omega, m3⟩
theorem st15 {l : List Int} {i k t q14 q15 x y : Nat} {L : List Sp} {b14 b15 on : Bool} {nm : ByteArray} (h : ∀ M, Mt1 l 0 M [] → ∃ d s, (M.B[i]? = some d ∧ d.2.2[t]? = some s) ∧ b14 = false ∧ (d.1 = nm ∧ d.2.1 = on ∧ d.2.2.length = k ∧ d.2.2.take t = L) ∧ s.1 = (x : Int) ∧ l.drop q14 = numB false 2 s.2.toNat ++ ((d.2.2.drop (t + 1)).flatMap spB ++ bmR M i))
    (hF : ∀ z r, z < 256 ^ 2 → b14 = false → l.drop q14 = numB false 2 z ++ r → b15 = false ∧ y = z ∧ l.drop q15 = r) : PF l i nm on k (t + 1) (L ++ [((x : Int), (y : Int))]) q15 b15 := fun M hM => by
  obtain ⟨d, s, ⟨k1, k0⟩, k2, ⟨k3, k4, k5, k6⟩, k7, k8⟩ := h M hM
  have hs := (hM.1.1.sml.B d (List.mem_of_getElem? k1)).2.2 s (List.mem_of_getElem? k0)
  unfold Two16 at hs
  obtain ⟨m1, m2, m3⟩ := hF s.2.toNat _ (lt16 (by omega)) k2 k8
  refine ⟨d, k1, m1, ⟨k3, k4, k5, ?_⟩, m3⟩
  rw [List.take_add_one, k6, k0]
  have : s = ((x : Int), (y : Int)) := Prod.ext k7 (by show s.2 = (y : Int); omega)
  rw [this]
  rfl
theorem st16 {l : List Int} {N i k t q q0 : Nat} {E : List BmM} {L : List Sp} {b b0 on : Bool} {nm : ByteArray} (h0 : BF l N i E q0 b0) (h : PF l i nm on k t L q b) (ht : ¬ (t < k ∧ b = false)) : BF l N (i + 1) (E ++ [(nm, on, L)]) q b := fun M hM => by
  obtain ⟨d, k1, k2, ⟨k3, k4, k5, k6⟩, k7⟩ := h M hM
  obtain ⟨_, n1, n2, _⟩ := h0 M hM
  have htk : d.2.2.length ≤ t := by
    rcases Nat.lt_or_ge t k with h | h
    · exact absurd ⟨h, k2⟩ ht
    · omega
  rw [List.take_of_length_le htk] at k6
  rw [List.drop_eq_nil_of_le htk] at k7
  obtain ⟨d1, d2, d3⟩ := d
  dsimp only at k3 k4 k6
  subst k3 k4 k6
  refine ⟨k2, n1, ?_, k7⟩
  rw [List.take_add_one, n2, k1]
  rfl
theorem st17 {l : List Int} {N i q : Nat} {E : List BmM} {b : Bool} (h : BF l N i E q b) (hx : ¬ (i < N ∧ b = false)) {M : MM} (hM : Mt1 l 0 M []) : b = false ∧ M.B = E ∧ l.drop q = cntB M.K ++ [] := by
  obtain ⟨k1, k2, k3, k4⟩ := h M hM
  have hl : M.B.length ≤ i := by
    rcases Nat.lt_or_ge i N with h | h
    · exact absurd ⟨h, k1⟩ hx
    · omega
  rw [List.take_of_length_le hl] at k3
  rw [List.drop_eq_nil_of_le hl] at k4
  exact ⟨k1, k3, k4⟩
theorem ex_of {j N : Nat} {b : Bool} (h : ¬ (j < N ∧ b = false)) : (¬ (j : Int) < (N : Int)) ∨ ((j : Int) < (N : Int) ∧ b = true) := by
  by_cases hj : j < N
  · refine Or.inr ⟨by omega, ?_⟩
    cases b
    · exact absurd ⟨hj, rfl⟩ h
    · rfl
  · exact Or.inl (by omega)
theorem fit12 {L : List Sp} {x y : Nat} (h : SpFit L) (hx : x < 65536) (hy : y < 65536) : SpFit (L ++ [((x : Int), (y : Int))]) := fun s hs => by
  rcases List.mem_append.1 hs with hs | hs
  · exact h s hs
  · rw [List.mem_singleton] at hs
    subst hs
    exact ⟨by show I64 (x : Int); unfold I64; omega, by show I64 (y : Int); unfold I64; omega⟩
theorem bk_ok {nm : ByteArray} (h : nm.size ≤ 65535) : nm.size ≤ 9223372036854775807 := by omega
theorem lt32b {v : Nat} (h : v < 256 ^ 4) : v < 4294967296 := by
  have e : (256 : Nat) ^ 4 = 4294967296 := by decide
  omega
/-- Where the reading of counts stands. -/
def KF (l : List Int) (N : Nat) (K : List Int) (q : Nat) (b : Bool) : Prop := ∀ M, Mt1 l 0 M [] → b = false ∧ M.K.length = N ∧ ∃ rest, M.K = K ++ rest ∧ l.drop q = runsB rest ++ []
theorem st18 {l : List Int} {q q19 N : Nat} {E : List BmM} {b b19 : Bool} (h : ∀ M, Mt1 l 0 M [] → b = false ∧ M.B = E ∧ l.drop q = cntB M.K ++ []) (hF : ∀ y r, y < 256 ^ 4 → b = false → l.drop q = numB false 4 y ++ r → b19 = false ∧ N = y ∧ l.drop q19 = r) : KF l N [] q19 b19 := fun M hM => by
  obtain ⟨k0, _, k1⟩ := h M hM
  have e : (256 : Nat) ^ 4 = 4294967296 := by decide
  have hs := hM.1.1.nK
  obtain ⟨k2, k3, k4⟩ := hF M.K.length (runsB M.K ++ []) (by omega) k0 (by rw [k1]; unfold cntB; rw [List.append_assoc])
  exact ⟨k2, k3.symm, M.K, rfl, k4⟩
theorem st20 {l K : List Int} {N q q20 k : Nat} {b b20 : Bool} (h : KF l N K q b) (hl : K.length < N) (hF : ∀ y r, y < 256 ^ 2 → b = false → l.drop q = numB false 2 y ++ r → b20 = false ∧ k = y ∧ l.drop q20 = r) {M : MM} (hM : Mt1 l 0 M []) :
    ∃ rest, (M.K = K ++ rest ∧ rest ≠ []) ∧ b20 = false ∧ k = runN rest ∧ l.drop q20 = numB false 2 (rest.headD 0).toNat ++ (runsB (rest.drop (runN rest)) ++ []) := by
  obtain ⟨k1, k2, rest, k3, k4⟩ := h M hM
  have hne : rest ≠ [] := fun e => by
    rw [k3, e, List.append_nil] at k2
    omega
  have hr := runN_pos hne
  rw [runsB_step hne, List.append_assoc, List.append_assoc] at k4
  obtain ⟨m1, m2, m3⟩ := hF (runN rest) _ (lt16 (by omega)) k1 k4
  exact ⟨rest, ⟨k3, hne⟩, m1, m2, m3⟩
theorem st21 {l K : List Int} {q20 q21 k c : Nat} {b20 b21 : Bool} {M : MM} (hM : Mt1 l 0 M []) (h : ∃ rest, (M.K = K ++ rest ∧ rest ≠ []) ∧ b20 = false ∧ k = runN rest ∧ l.drop q20 = numB false 2 (rest.headD 0).toNat ++ (runsB (rest.drop (runN rest)) ++ [])) (hF : ∀ y r, y < 256 ^ 2 → b20 = false → l.drop q20 = numB false 2 y ++ r → b21 = false ∧ c = y ∧ l.drop q21 = r) :
    b21 = false ∧ ∃ rest, (M.K = K ++ rest ∧ rest ≠ []) ∧ k = runN rest ∧ (c : Int) = rest.headD 0 ∧ l.drop q21 = runsB (rest.drop (runN rest)) ++ [] := by
  obtain ⟨rest, ⟨k1, k2⟩, k3, k4, k5⟩ := h
  have hb : 0 ≤ rest.headD 0 ∧ rest.headD 0 ≤ 65535 := by
    cases rest with
    | nil => exact absurd rfl k2
    | cons z r => exact hM.1.1.K z (by rw [k1]; simp)
  obtain ⟨m1, m2, m3⟩ := hF (rest.headD 0).toNat _ (lt16 (by omega)) k3 k5
  exact ⟨m1, rest, ⟨k1, k2⟩, k4, by omega, m3⟩
/-- What is known of a run that has been read. -/
def RF (l : List Int) (N : Nat) (K : List Int) (k c q : Nat) (b : Bool) : Prop := ∀ M, Mt1 l 0 M [] → M.K.length = N ∧ b = false ∧ ∃ rest, (M.K = K ++ rest ∧ rest ≠ []) ∧ k = runN rest ∧ (c : Int) = rest.headD 0 ∧ l.drop q = runsB (rest.drop (runN rest)) ++ []
theorem RF.bad {l K : List Int} {N k c q : Nat} {b : Bool} (h : RF l N K k c q b) (hx : k = 0 ∨ (k : Int) > (N : Int) - (K.length : Int) ∨ (N : Int) > 65536) : ∀ M, ¬ Mt1 l 0 M [] := fun M hM => by
  obtain ⟨k1, _, rest, ⟨k2, k3⟩, k4, _⟩ := h M hM
  have hr := runN_pos k3
  have hs := hM.1.1.nK
  have := congrArg List.length k2
  rw [List.length_append] at this
  omega
theorem RF.next {l K : List Int} {N k c q : Nat} {b : Bool} (h : RF l N K k c q b) : KF l N (K ++ List.replicate k (c : Int)) q b := fun M hM => by
  obtain ⟨k1, k2, rest, ⟨k3, k4⟩, k5, k6, k7⟩ := h M hM
  refine ⟨k2, k1, rest.drop (runN rest), ?_, k7⟩
  rw [k3, List.append_assoc, k5, k6, ← run_rep k4]
/-- What measures the reading of counts. -/
def msr (w : World) (X Y N : Nat) : Nat := match w.cell? ⟨X, 2, none⟩ with
  | some (.bool true) => 0
  | _ => 1 + (N - (match w.cell? ⟨Y, 6, none⟩ with | some (.slice _ l _) => l | _ => 0))
theorem msr_bad {w : World} {X Y N : Nat} (h : w.cell? ⟨X, 2, none⟩ = some (.bool true)) : msr w X Y N = 0 := by unfold msr; rw [h]
theorem msr_go {w : World} {X Y N n c : Nat} {a : Option Addr} (h : w.cell? ⟨X, 2, none⟩ = some (.bool false)) (h2 : w.cell? ⟨Y, 6, none⟩ = some (.slice a n c)) : msr w X Y N = 1 + (N - n) := by unfold msr; rw [h, h2]
theorem MetaN.pushK {W W' : World} {base : Nat} {F G : Nat → Prop} {a0 sa ma ca a' : Option Addr} {n0 c0 sn sc mn mc cn cc c' : Nat} {C Z z : Int} {bk : ByteArray} {T : Tb} {S : List ShM} {B : List BmM} {K : List Int}
    (h : MetaN W base F G ⟨a0, n0, c0, sa, sn, sc, ma, mn, mc, ca, cn, cc⟩ ⟨C, Z, bk, T, S, B, K⟩) (hn : cn < 100000) (hO' : OwnG ivV 3 1 W' base (.slice a' (cn + 1) c') (cn + 1) (K ++ [z])) (hg : W.grownBy W' (Value.slice ca cn cc).ownBlock) :
    MetaN W' base F G ⟨a0, n0, c0, sa, sn, sc, ma, mn, mc, a', cn + 1, c'⟩ ⟨C, Z, bk, T, S, B, K ++ [z]⟩ := by
  have hO : OwnG ivV 3 1 W base (.slice ca cn cc) cn K := h.K.1
  exact ⟨h.hc, h.hs, h.hbk, (hO.off (by decide) : Off W _ 88).tabF (hO.off (by decide)) h.T hg, h.S.off (hO.off (by decide)) (hO.off (by decide)) (hO.off (by decide)) hg, h.B.off (hO.off (by decide)) (hO.off (by decide)) hg, ⟨hO', by show cn + 1 ≤ 1000000; omega⟩⟩
theorem st23 {l K : List Int} {N q cn : Nat} {b : Bool} (h : KF l N K q b) (hk : K.length = cn) (hx : ¬ (cn < N ∧ b = false)) {M : MM} (hM : Mt1 l 0 M []) : b = false ∧ M.K = K := by
  obtain ⟨k1, k2, rest, k3, _⟩ := h M hM
  refine ⟨k1, ?_⟩
  have := congrArg List.length k3
  rw [List.length_append] at this
  have hr : rest = [] := List.eq_nil_of_length_eq_zero (by
    rcases Nat.lt_or_ge cn N with h | h
    · exact absurd ⟨h, k1⟩ hx
    · omega)
  rw [k3, hr, List.append_nil]
theorem mm_eq {M : MM} {C Z : Int} {bk : ByteArray} {T : Tb} {D : List ShM} {E : List BmM} {K : List Int} (h1 : M.c = C) (h2 : M.s = Z) (h3 : M.bk = bk) (h4 : M.T = T) (h5 : M.S = D) (h6 : M.B = E) (h7 : M.K = K) : M = ⟨C, Z, bk, T, D, E, K⟩ := by
  obtain ⟨a, b, c, d, e, f, g⟩ := M
  dsimp only at h1 h2 h3 h4 h5 h6 h7
  subst h1 h2 h3 h4 h5 h6 h7
  rfl
theorem mt1_of0 {l : List Int} {M : MM} (h1 : RightMt M) (h2 : EnM M) (h3 : l = encM M) : Mt1 l 0 M [] := ⟨⟨h1, h2⟩, by rw [List.drop_zero, List.append_nil]; exact h3⟩
theorem no_bad {l : List Int} {b : Bool} {P : MM → Prop} (h : ∀ M, Mt1 l 0 M [] → b = false ∧ P M) (hb : b = true) : ∀ M, RightMt M → EnM M → l ≠ encM M := fun M h1 h2 h3 => by
  have := (h M (mt1_of0 h1 h2 h3)).1
  rw [hb] at this
  cases this
theorem no_eq {l : List Int} {b : Bool} {M' : MM} (h : ∀ M, Mt1 l 0 M [] → b = false ∧ M = M') (hne : ¬ encM M' = l) : ∀ M, RightMt M → EnM M → l ≠ encM M := fun M h1 h2 h3 => by
  have := (h M (mt1_of0 h1 h2 h3)).2
  rw [this] at h3
  exact hne h3.symm
theorem no_right {l : List Int} {b : Bool} {M' : MM} (h : ∀ M, Mt1 l 0 M [] → b = false ∧ M = M') (hne : ¬ RightMt M') : ∀ M, RightMt M → EnM M → l ≠ encM M := fun M h1 h2 h3 => by
  have := (h M (mt1_of0 h1 h2 h3)).2
  rw [this] at h1
  exact hne h1
/-- The loops of a code, in their order. -/
def codeLoops : Code → List Code
  | .loop c => [c]
  | .seq a b => codeLoops a ++ codeLoops b
  | .block _ c => codeLoops c
  | .scope c => codeLoops c
  | .cond _ a b => codeLoops a ++ codeLoops b
  | _ => []
noncomputable def getBody (i : Nat) : Code := (codeLoops (Tryz.f6.body.getD .skip)).getD i .skip
set_option maxRecDepth 100000 in
set_option maxHeartbeats 6400000 in
theorem refGetLoop1 {w : World} {a : Option Addr} {n c : Nat} {l : List Int} {R X Y C Z : Nat} {bk : ByteArray} {ta : Option Addr} {tl tc : Nat} {T : Tb} (hRR : w.heap.size = R) (hRX : R < X) (hXY : X < Y) (hC : C < 256) (hZ : Z < 65536) {N : Nat} (hNN : N < 256) (HCC : Hid (∀ M, Mt1 l 0 M [] → M.c = (C : Int))) {w5 : World} {q5 : Nat} {b5 : Bool} (HSF0 : Hid (SF l N 0 [] q5 b5)) (HR5 : Hid (RdR w w5 X a n c q5 b5 l)) (HZ5 : Hid (Blk w5 R 31 #[.int .i64 0, .int .i64 0, .string ⟨#[]⟩, .slice none 0 0, .slice none 0 0, .slice none 0 0, .slice none 0 0])) (HY5 : Hid (Blk w5 Y 31 #[.int .i64 C, .int .i64 Z, .string bk, .slice ta tl tc, .slice none 0 0, .slice none 0 0, .slice none 0 0])) (HMN5 : Hid (MetaN w5 R Any Any ⟨ta, tl, tc, none, 0, 0, none, 0, 0, none, 0, 0⟩ ⟨C, Z, bk, T, [], [], []⟩)) {K0 : Act → World → Prop} {Q' : Exit → Act → World → Prop} {v0 v1 v2 v3 v8 v9 v10 v11 v12 v13 v14 v15 v16 v17 v18 v19 v20 v21 v22 v23 v24 v25 v26 v27 v28 v29 v30 v31 v32 v33 v34 v35 v36 v37 v38 v39 v40 v41 v42 v43 v44 v45 v46 v47 v48 v49 v50 v51 v52 v53 v54 v55 v56 v57 v58 v59 v60 v61 v62 v63 v64 v65 v66 v67 v68 v69 v70 v71 v72 v73 v74 v75 v76 v77 v78 v79 v80 v81 v82 v83 v84 v85 v86 v87 v88 v89 v90 v91 v92 v93 v94 v95 v96 v97 v98 v99 v100 v101 v102 v103 v104 v105 v106 v107 v108 v109 v110 v111 v112 v113 v114 v115 v116 v117 v118 v119 v120 v121 v122 v123 v124 v125 v126 v127 v128 v129 v130 v131 v132 v133 v134 v135 v136 v137 v138 v139 v140 v141 v142 v143 v144 v145 v146 v147 v148 v149 v150 v151 v152 v153 v154 v155 v156 v157 v158 v159 v160 v161 v162 v163 v164 v165 v166 v167 v168 v169 v170 v171 v172 v173 v174 v175 v176 v177 v178 v179 v180 v181 v182 v183 v184 v185 v186 v187 v188 v189 v190 v191 v192 v193 v194 v195 v196 v197 v198 v199 : Value}
    (HX : ∀ (j q : Nat) (b : Bool) (sa : Option Addr) (sc : Nat) (D : List ShM) (x8 x40 x41 x42 x43 x44 x45 x46 x47 x48 x49 x50 x51 x52 x53 x54 x55 x56 x57 x58 x59 x60 x61 x62 x63 x64 x65 x66 x67 x68 x69 x70 : Value) (wr : World), j ≤ N → ¬ (j < N ∧ b = false) → Hid (SF l N j D q b) → Hid (RdR w wr X a n c q b l) → Hid (Blk wr R 31 #[.int .i64 0, .int .i64 0, .string ⟨#[]⟩, .slice none 0 0, .slice none 0 0, .slice none 0 0, .slice none 0 0]) → Hid (Blk wr Y 31 #[.int .i64 C, .int .i64 Z, .string bk, .slice ta tl tc, .slice sa j sc, .slice none 0 0, .slice none 0 0]) → Hid (MetaN wr R Any Any ⟨ta, tl, tc, sa, j, sc, none, 0, 0, none, 0, 0⟩ ⟨C, Z, bk, T, D, [], []⟩) → K0 ⟨List.toArray (v0 :: v1 :: v2 :: v3 :: Value.pointer (some ⟨X, 0, none⟩) :: Value.pointer (some ⟨Y, 0, none⟩) :: Value.int .i64 (N : Int) :: Value.int .i64 (j : Int) :: x8 :: v9 :: v10 :: v11 :: v12 :: v13 :: v14 :: v15 :: v16 :: v17 :: v18 :: v19 :: v20 :: v21 :: v22 :: v23 :: v24 :: v25 :: v26 :: v27 :: v28 :: v29 :: v30 :: v31 :: v32 :: v33 :: v34 :: v35 :: v36 :: v37 :: v38 :: v39 :: x40 :: x41 :: x42 :: x43 :: x44 :: x45 :: x46 :: x47 :: x48 :: x49 :: x50 :: x51 :: x52 :: x53 :: x54 :: x55 :: x56 :: x57 :: x58 :: x59 :: x60 :: x61 :: x62 :: x63 :: x64 :: x65 :: x66 :: x67 :: x68 :: x69 :: x70 :: v71 :: v72 :: v73 :: v74 :: v75 :: v76 :: v77 :: v78 :: v79 :: v80 :: v81 :: v82 :: v83 :: v84 :: v85 :: v86 :: v87 :: v88 :: v89 :: v90 :: v91 :: v92 :: v93 :: v94 :: v95 :: v96 :: v97 :: v98 :: v99 :: v100 :: v101 :: v102 :: v103 :: v104 :: v105 :: v106 :: v107 :: v108 :: v109 :: v110 :: v111 :: v112 :: v113 :: v114 :: v115 :: v116 :: v117 :: v118 :: v119 :: v120 :: v121 :: v122 :: v123 :: v124 :: v125 :: v126 :: v127 :: v128 :: v129 :: v130 :: v131 :: v132 :: v133 :: v134 :: v135 :: v136 :: v137 :: v138 :: v139 :: v140 :: v141 :: v142 :: v143 :: v144 :: v145 :: v146 :: v147 :: v148 :: v149 :: v150 :: v151 :: v152 :: v153 :: v154 :: v155 :: v156 :: v157 :: v158 :: v159 :: v160 :: v161 :: v162 :: v163 :: v164 :: v165 :: v166 :: v167 :: v168 :: v169 :: v170 :: v171 :: v172 :: v173 :: v174 :: v175 :: v176 :: v177 :: v178 :: v179 :: v180 :: v181 :: v182 :: v183 :: v184 :: v185 :: v186 :: v187 :: v188 :: v189 :: v190 :: v191 :: v192 :: v193 :: v194 :: v195 :: v196 :: v197 :: v198 :: v199 :: []), []⟩ wr) :
    Code.wp Tryz.prog (Code.loop (getBody 0)) (Exit.inBlock 0 (Exit.then K0 Q')) ⟨List.toArray (v0 :: v1 :: v2 :: v3 :: Value.pointer (some ⟨X, 0, none⟩) :: Value.pointer (some ⟨Y, 0, none⟩) :: Value.int .i64 (N : Int) :: Value.int .i64 0 :: v8 :: v9 :: v10 :: v11 :: v12 :: v13 :: v14 :: v15 :: v16 :: v17 :: v18 :: v19 :: v20 :: v21 :: v22 :: v23 :: v24 :: v25 :: v26 :: v27 :: v28 :: v29 :: v30 :: v31 :: v32 :: v33 :: v34 :: v35 :: v36 :: v37 :: v38 :: v39 :: v40 :: v41 :: v42 :: v43 :: v44 :: v45 :: v46 :: v47 :: v48 :: v49 :: v50 :: v51 :: v52 :: v53 :: v54 :: v55 :: v56 :: v57 :: v58 :: v59 :: v60 :: v61 :: v62 :: v63 :: v64 :: v65 :: v66 :: v67 :: v68 :: v69 :: v70 :: v71 :: v72 :: v73 :: v74 :: v75 :: v76 :: v77 :: v78 :: v79 :: v80 :: v81 :: v82 :: v83 :: v84 :: v85 :: v86 :: v87 :: v88 :: v89 :: v90 :: v91 :: v92 :: v93 :: v94 :: v95 :: v96 :: v97 :: v98 :: v99 :: v100 :: v101 :: v102 :: v103 :: v104 :: v105 :: v106 :: v107 :: v108 :: v109 :: v110 :: v111 :: v112 :: v113 :: v114 :: v115 :: v116 :: v117 :: v118 :: v119 :: v120 :: v121 :: v122 :: v123 :: v124 :: v125 :: v126 :: v127 :: v128 :: v129 :: v130 :: v131 :: v132 :: v133 :: v134 :: v135 :: v136 :: v137 :: v138 :: v139 :: v140 :: v141 :: v142 :: v143 :: v144 :: v145 :: v146 :: v147 :: v148 :: v149 :: v150 :: v151 :: v152 :: v153 :: v154 :: v155 :: v156 :: v157 :: v158 :: v159 :: v160 :: v161 :: v162 :: v163 :: v164 :: v165 :: v166 :: v167 :: v168 :: v169 :: v170 :: v171 :: v172 :: v173 :: v174 :: v175 :: v176 :: v177 :: v178 :: v179 :: v180 :: v181 :: v182 :: v183 :: v184 :: v185 :: v186 :: v187 :: v188 :: v189 :: v190 :: v191 :: v192 :: v193 :: v194 :: v195 :: v196 :: v197 :: v198 :: v199 :: []), []⟩ w5 := by
  conv => arg 2; arg 1; whnf
  replace HX := Lib.hid HX
  go_loopw [7] (fun i wr => ∃ (j q : Nat) (b : Bool) (sa : Option Addr) (sc : Nat) (D : List ShM), j ≤ N ∧ i = .int .i64 j ∧ Hid (SF l N j D q b) ∧ Hid (RdR w wr X a n c q b l) ∧ Hid (Blk wr R 31 #[.int .i64 0, .int .i64 0, .string ⟨#[]⟩, .slice none 0 0, .slice none 0 0, .slice none 0 0, .slice none 0 0]) ∧ Hid (Blk wr Y 31 #[.int .i64 C, .int .i64 Z, .string bk, .slice ta tl tc, .slice sa j sc, .slice none 0 0, .slice none 0 0]) ∧ Hid (MetaN wr R Any Any ⟨ta, tl, tc, sa, j, sc, none, 0, 0, none, 0, 0⟩ ⟨C, Z, bk, T, D, [], []⟩)) (fun i _ => N - (intOf i).toNat)
  case atStart => exact ⟨0, q5, b5, none, 0, [], Nat.zero_le _, rfl, HSF0.out, HR5.out, HZ5.out, HY5.out, HMN5.out⟩
  case round =>
    clear HSF0 HR5 HZ5 HY5 HMN5
    obtain ⟨j, q, b, sa, sc, D, hj, rfl, HSF, HR, HZ, HY, HMN⟩ := hrel
    obtain ⟨c0, c1, c2, f1, f2⟩ := HR.out.cells
    by_cases hlt : j < N ∧ b = false
    · obtain ⟨hlt, rfl⟩ := hlt
      have hi : (j : Int) < (N : Int) := by omega
      have hRl : R ≤ wr.heap.size := by have := HZ.out.lt; omega
      have hYl : Y < wr.heap.size := HY.out.lt
      have HT6 := Lib.hid (refText12 HR.out)
      go_wp2_with (first
        | (go_at_call 15; (with_reducible refine HT6.out.mono ?_); rintro e w6 ⟨v, q6, b6, rfl, hr, hg, _, nm, rfl, hk, hF⟩; have HNK := Lib.hid hk; have HF6 := Lib.hid (fun M hM => st6 HSF.out hlt hF (M := M) hM); have HRb := Lib.hid (hr.later ((Below.refl _ w6).alloc (Nat.le_refl _) (.cells #[.string nm, .int .i64 0, .slice none 0 0] 54))); have HGb := Lib.hid (grown_trans hg (grown_below ((Below.refl _ w6).alloc (Nat.le_refl _) (.cells #[.string nm, .int .i64 0, .slice none 0 0] 54)) _)); have HSb := Lib.hid (Blk.new w6 54 #[.string nm, .int .i64 0, .slice none 0 0]); have hSl : wr.heap.size ≤ w6.heap.size := hg.size; obtain ⟨S, hS⟩ := named w6.heap.size; have hSS := hS.out; rw [hSS] at hSl HSb; have HT7 := Lib.hid (refNum12 HRb.out 2 2 rfl (by omega) (by omega)); clear hr hg hk hF HT6 c0 c1 c2 f1 f2)
        | (go_at_call 14; (with_reducible refine HT7.out.mono ?_); rintro e w7 ⟨v, q7, b7, rfl, hr, hg, _, sz, rfl, hZ7, hF⟩; have hZ7 := lt16b hZ7; have HF7 := Lib.hid (fun M hM => st7 (M := M) hM (HF6.out M hM) hF); have hs7 := HSb.out.kept hg (fun e => by cases e; omega); have sf1 := hs7.free 1; obtain ⟨s0, s1, s2⟩ := cells3 hs7; have HR7 := Lib.hid (hr.kept (grownBy_setCell4 _ S 1 (.int .i64 sz)) (fun e => by cases e; omega) (fun k e => by cases e; omega)); have HG7 := Lib.hid (grown_set (grown_trans HGb.out hg) hSl 1 (.int .i64 sz)); have HS7 := Lib.hid (hs7.set 1 (.int .i64 sz)); have HY7 := Lib.hid (HY.out.kept HG7.out (fun e => by cases e; omega)); obtain ⟨t0, t1, t2⟩ := cells3 HS7.out; have y0 := (cells7 HY7.out).1; clear hr hg hF HT7 hs7)
        | (go_at_call 16; (with_reducible refine (refTable12 HR7.out sz C hZ7 hC).mono ?_); rintro e w8 ⟨v, q8, b8, rfl, hr, hg, _, aT, lT, cT, T1, rfl, hT, hF⟩; have HF8 := Lib.hid (st8 HSF.out HCC.out HF7.out hF); have hs8 := HS7.out.kept hg (fun e => by cases e; omega); have sf2 := hs8.free 2; clear s0 s1 s2 t0 t1 t2 y0; obtain ⟨s0, s1, s2⟩ := cells3 hs8; have HR8 := Lib.hid (hr.kept (grownBy_setCell4 _ S 2 (.slice aT lT cT)) (fun e => by cases e; omega) (fun k e => by cases e; omega)); have hG8 := grown_set (grown_trans HG7.out hg) hSl 2 (.slice aT lT cT); have HS8 := Lib.hid (hs8.set 2 (.slice aT lT cT)); have HB8 := Lib.hid ((Below.refl _ (w8.setCell ⟨S, 2, none⟩ (.slice aT lT cT))).alloc (Nat.le_refl _) (.cells #[.string nm, .int .i64 sz, .slice aT lT cT] 54)); have HG8 := Lib.hid (grown_trans hG8 (grown_below HB8.out _)); have HT8 := Lib.hid ((hT.typed hs8 (by decide) (by decide) (grownBy_setCell4 _ _ 2 (.slice aT lT cT))).f.mono (base' := R) (Nat.le_trans hRl HG7.out.size) (G := Any) (fun k _ _ => trivial)); have hY8 := HY.out.kept hG8 (fun e => by cases e; omega); obtain ⟨t0, t1, t2⟩ := cells3 HS8.out; obtain ⟨y0, y1, y2, y3, y4, y5, y6⟩ := cells7 hY8; have HZ8 := Lib.hid (HZ.out.kept HG8.out (fun e => by cases e; omega)); have HY8 := Lib.hid (HY.out.kept HG8.out (fun e => by cases e; omega)); have HMN8 := Lib.hid (HMN.out.off HR.out.box.off6q HG8.out); clear hr hg hF hs8 hG8 hT hY8)
        | (at_builtin; obtain ⟨ds, hO, hTd, hSd, hn, hok⟩ := HMN8.out.S; dsimp only at hO hTd hSd hn hok; have HOa := Lib.hid hO; have hrd := one_reads (cv := shV) (w8.setCell ⟨S, 2, none⟩ (.slice aT lT cT)) (nm, (sz : Int), aT, lT, cT, T1) #[.string nm, .int .i64 sz, .slice aT lT cT] 54 rfl; rw [World.size_setCell] at hrd; refine append_lg sh_rowed rfl _ _ rfl R _ j ds rfl HOa.out (some ⟨w8.heap.size, 0, none⟩) 1 1 [(nm, (sz : Int), aT, lT, cT, T1)] rfl (fun e => by cases e) hrd (by omega) (Nat.le_trans hRl HG8.out.size) ?_; intro pa c9 w9 g1 g2 g3; have HMN9 := Lib.hid (MetaN.pushS (d := (nm, (sz : Int), aT, lT, cT, T1)) HMN8.out HOa.out hTd hSd (by omega) (HT8.out.later HB8.out) (sh_ok12 HNK.out hZ7) g1 g2); have HR9 := Lib.hid ((HR8.out.later HB8.out).kept g2 (row_ne (HR8.out.later HB8.out).box HOa.out (by decide)) (fun k hk => by have := (HOa.out.1.lt k hk).1; omega)); have HZ9 := Lib.hid (HZ8.out.kept g2 (HZ8.out.not_row (by decide) HOa.out)); have HY9 := Lib.hid (HY8.out.kept g2 (HY8.out.not_row (by decide) HOa.out)); have yf4 := HY9.out.free 4; clear y0 y1 y2 y3 y4 y5 y6; obtain ⟨y0, y1, y2, y3, y4, y5, y6⟩ := cells7 HY9.out; clear g1 g2 g3 hrd hO hTd hSd hn hok s0 s1 s2 t0 t1 t2 sf1 sf2))
      go_roundw
      case rel => exact ⟨j + 1, q8, b8, pa, c9, D ++ [(nm, (sz : Int), T1)], by omega, by go_num, HF8.out, HR9.out.kept (grownBy_setCell4 _ Y 4 _) (fun e => by cases e; omega) (fun k e => by cases e; omega), Blk.other HZ9.out (by omega) _, HY9.out.set 4 _, HMN9.out.box HY9.out 4 _⟩
      case measure => simp [intOf]; omega
    · have hex := ex_of hlt
      rcases hex with hi | ⟨hi, rfl⟩
      all_goals go_wp2
      all_goals exact HX.out j q _ sa sc D _ _ _ _ _ _ _ _ _ _ _ _ _ _ _ _ _ _ _ _ _ _ _ _ _ _ _ _ _ _ _ _ _ hj hlt HSF HR HZ HY HMN
set_option maxRecDepth 100000 in
set_option maxHeartbeats 6400000 in
theorem refGetLoop2 {w : World} {a : Option Addr} {n c : Nat} {l : List Int} {R X Y C Z : Nat} {bk : ByteArray} {ta : Option Addr} {tl tc : Nat} {T : Tb} (hRR : w.heap.size = R) (hRX : R < X) (hXY : X < Y) (hC : C < 256) (hZ : Z < 65536) {N2 j : Nat} {sa : Option Addr} {sc : Nat} {D : List ShM} (hN2 : N2 < 256) {w10 : World} {q10 : Nat} {b10 : Bool} (HBF0 : Hid (BF l N2 0 [] q10 b10)) (HR10 : Hid (RdR w w10 X a n c q10 b10 l)) (HZ10 : Hid (Blk w10 R 31 #[.int .i64 0, .int .i64 0, .string ⟨#[]⟩, .slice none 0 0, .slice none 0 0, .slice none 0 0, .slice none 0 0])) (HY10 : Hid (Blk w10 Y 31 #[.int .i64 C, .int .i64 Z, .string bk, .slice ta tl tc, .slice sa j sc, .slice none 0 0, .slice none 0 0])) (HMN10 : Hid (MetaN w10 R Any Any ⟨ta, tl, tc, sa, j, sc, none, 0, 0, none, 0, 0⟩ ⟨C, Z, bk, T, D, [], []⟩)) {K0 : Act → World → Prop} {Q' : Exit → Act → World → Prop} {v0 v1 v2 v3 v7 v8 v10 v11 v12 v13 v14 v15 v16 v17 v18 v19 v20 v21 v22 v23 v24 v25 v26 v27 v28 v29 v30 v31 v32 v33 v34 v35 v36 v37 v38 v39 v40 v41 v42 v43 v44 v45 v46 v47 v48 v49 v50 v51 v52 v53 v54 v55 v56 v57 v58 v59 v60 v61 v62 v63 v64 v65 v66 v67 v68 v69 v70 v71 v72 v73 v74 v75 v76 v77 v78 v79 v80 v81 v82 v83 v84 v85 v86 v87 v88 v89 v90 v91 v92 v93 v94 v95 v96 v97 v98 v99 v100 v101 v102 v103 v104 v105 v106 v107 v108 v109 v110 v111 v112 v113 v114 v115 v116 v117 v118 v119 v120 v121 v122 v123 v124 v125 v126 v127 v128 v129 v130 v131 v132 v133 v134 v135 v136 v137 v138 v139 v140 v141 v142 v143 v144 v145 v146 v147 v148 v149 v150 v151 v152 v153 v154 v155 v156 v157 v158 v159 v160 v161 v162 v163 v164 v165 v166 v167 v168 v169 v170 v171 v172 v173 v174 v175 v176 v177 v178 v179 v180 v181 v182 v183 v184 v185 v186 v187 v188 v189 v190 v191 v192 v193 v194 v195 v196 v197 v198 v199 : Value}
    (HX : ∀ (i0 q' : Nat) (b' : Bool) (ma : Option Addr) (mc : Nat) (E : List BmM) (x10 x11 x12 x13 x73 x74 x75 x76 x77 x78 x79 x80 x81 x82 x83 x84 x85 x86 x87 x88 x89 x90 x91 x92 x93 x94 x95 x96 x97 x98 x99 x100 x101 x102 x103 x104 x105 x106 x107 x108 x109 x110 x111 x112 x113 x114 x115 x116 x117 x118 x119 x120 x121 x122 x123 : Value) (wr : World), i0 ≤ N2 → ¬ (i0 < N2 ∧ b' = false) → Hid (BF l N2 i0 E q' b') → Hid (RdR w wr X a n c q' b' l) → Hid (Blk wr R 31 #[.int .i64 0, .int .i64 0, .string ⟨#[]⟩, .slice none 0 0, .slice none 0 0, .slice none 0 0, .slice none 0 0]) → Hid (Blk wr Y 31 #[.int .i64 C, .int .i64 Z, .string bk, .slice ta tl tc, .slice sa j sc, .slice ma i0 mc, .slice none 0 0]) → Hid (MetaN wr R Any Any ⟨ta, tl, tc, sa, j, sc, ma, i0, mc, none, 0, 0⟩ ⟨C, Z, bk, T, D, E, []⟩) → K0 ⟨List.toArray (v0 :: v1 :: v2 :: v3 :: Value.pointer (some ⟨X, 0, none⟩) :: Value.pointer (some ⟨Y, 0, none⟩) :: Value.int .i64 (N2 : Int) :: v7 :: v8 :: Value.int .i64 (i0 : Int) :: x10 :: x11 :: x12 :: x13 :: v14 :: v15 :: v16 :: v17 :: v18 :: v19 :: v20 :: v21 :: v22 :: v23 :: v24 :: v25 :: v26 :: v27 :: v28 :: v29 :: v30 :: v31 :: v32 :: v33 :: v34 :: v35 :: v36 :: v37 :: v38 :: v39 :: v40 :: v41 :: v42 :: v43 :: v44 :: v45 :: v46 :: v47 :: v48 :: v49 :: v50 :: v51 :: v52 :: v53 :: v54 :: v55 :: v56 :: v57 :: v58 :: v59 :: v60 :: v61 :: v62 :: v63 :: v64 :: v65 :: v66 :: v67 :: v68 :: v69 :: v70 :: v71 :: v72 :: x73 :: x74 :: x75 :: x76 :: x77 :: x78 :: x79 :: x80 :: x81 :: x82 :: x83 :: x84 :: x85 :: x86 :: x87 :: x88 :: x89 :: x90 :: x91 :: x92 :: x93 :: x94 :: x95 :: x96 :: x97 :: x98 :: x99 :: x100 :: x101 :: x102 :: x103 :: x104 :: x105 :: x106 :: x107 :: x108 :: x109 :: x110 :: x111 :: x112 :: x113 :: x114 :: x115 :: x116 :: x117 :: x118 :: x119 :: x120 :: x121 :: x122 :: x123 :: v124 :: v125 :: v126 :: v127 :: v128 :: v129 :: v130 :: v131 :: v132 :: v133 :: v134 :: v135 :: v136 :: v137 :: v138 :: v139 :: v140 :: v141 :: v142 :: v143 :: v144 :: v145 :: v146 :: v147 :: v148 :: v149 :: v150 :: v151 :: v152 :: v153 :: v154 :: v155 :: v156 :: v157 :: v158 :: v159 :: v160 :: v161 :: v162 :: v163 :: v164 :: v165 :: v166 :: v167 :: v168 :: v169 :: v170 :: v171 :: v172 :: v173 :: v174 :: v175 :: v176 :: v177 :: v178 :: v179 :: v180 :: v181 :: v182 :: v183 :: v184 :: v185 :: v186 :: v187 :: v188 :: v189 :: v190 :: v191 :: v192 :: v193 :: v194 :: v195 :: v196 :: v197 :: v198 :: v199 :: []), []⟩ wr) :
    Code.wp Tryz.prog (Code.loop (getBody 1)) (Exit.inBlock 2 (Exit.then K0 Q')) ⟨List.toArray (v0 :: v1 :: v2 :: v3 :: Value.pointer (some ⟨X, 0, none⟩) :: Value.pointer (some ⟨Y, 0, none⟩) :: Value.int .i64 (N2 : Int) :: v7 :: v8 :: Value.int .i64 0 :: v10 :: v11 :: v12 :: v13 :: v14 :: v15 :: v16 :: v17 :: v18 :: v19 :: v20 :: v21 :: v22 :: v23 :: v24 :: v25 :: v26 :: v27 :: v28 :: v29 :: v30 :: v31 :: v32 :: v33 :: v34 :: v35 :: v36 :: v37 :: v38 :: v39 :: v40 :: v41 :: v42 :: v43 :: v44 :: v45 :: v46 :: v47 :: v48 :: v49 :: v50 :: v51 :: v52 :: v53 :: v54 :: v55 :: v56 :: v57 :: v58 :: v59 :: v60 :: v61 :: v62 :: v63 :: v64 :: v65 :: v66 :: v67 :: v68 :: v69 :: v70 :: v71 :: v72 :: v73 :: v74 :: v75 :: v76 :: v77 :: v78 :: v79 :: v80 :: v81 :: v82 :: v83 :: v84 :: v85 :: v86 :: v87 :: v88 :: v89 :: v90 :: v91 :: v92 :: v93 :: v94 :: v95 :: v96 :: v97 :: v98 :: v99 :: v100 :: v101 :: v102 :: v103 :: v104 :: v105 :: v106 :: v107 :: v108 :: v109 :: v110 :: v111 :: v112 :: v113 :: v114 :: v115 :: v116 :: v117 :: v118 :: v119 :: v120 :: v121 :: v122 :: v123 :: v124 :: v125 :: v126 :: v127 :: v128 :: v129 :: v130 :: v131 :: v132 :: v133 :: v134 :: v135 :: v136 :: v137 :: v138 :: v139 :: v140 :: v141 :: v142 :: v143 :: v144 :: v145 :: v146 :: v147 :: v148 :: v149 :: v150 :: v151 :: v152 :: v153 :: v154 :: v155 :: v156 :: v157 :: v158 :: v159 :: v160 :: v161 :: v162 :: v163 :: v164 :: v165 :: v166 :: v167 :: v168 :: v169 :: v170 :: v171 :: v172 :: v173 :: v174 :: v175 :: v176 :: v177 :: v178 :: v179 :: v180 :: v181 :: v182 :: v183 :: v184 :: v185 :: v186 :: v187 :: v188 :: v189 :: v190 :: v191 :: v192 :: v193 :: v194 :: v195 :: v196 :: v197 :: v198 :: v199 :: []), []⟩ w10 := by
  conv => arg 2; arg 1; whnf
  replace HX := Lib.hid HX
  go_loopw [9] (fun i wr => ∃ (i' q' : Nat) (b' : Bool) (ma : Option Addr) (mc : Nat) (E : List BmM), i' ≤ N2 ∧ i = .int .i64 i' ∧ Hid (BF l N2 i' E q' b') ∧ Hid (RdR w wr X a n c q' b' l) ∧ Hid (Blk wr R 31 #[.int .i64 0, .int .i64 0, .string ⟨#[]⟩, .slice none 0 0, .slice none 0 0, .slice none 0 0, .slice none 0 0]) ∧ Hid (Blk wr Y 31 #[.int .i64 C, .int .i64 Z, .string bk, .slice ta tl tc, .slice sa j sc, .slice ma i' mc, .slice none 0 0]) ∧ Hid (MetaN wr R Any Any ⟨ta, tl, tc, sa, j, sc, ma, i', mc, none, 0, 0⟩ ⟨C, Z, bk, T, D, E, []⟩)) (fun i _ => N2 - (intOf i).toNat)
  case atStart => exact ⟨0, q10, b10, none, 0, [], Nat.zero_le _, rfl, HBF0.out, HR10.out, HZ10.out, HY10.out, HMN10.out⟩
  case round =>
    clear HBF0 HR10 HZ10 HY10 HMN10
    obtain ⟨i0, q', b', ma, mc, E, hi', rfl, HBF, HR, HZ, HY, HMN⟩ := hrel
    obtain ⟨c0, c1, c2, f1, f2⟩ := HR.out.cells
    by_cases hlt : i0 < N2 ∧ b' = false
    · obtain ⟨hlt, rfl⟩ := hlt
      have hin : (i0 : Int) < (N2 : Int) := by omega
      obtain ⟨Q, hQ⟩ := named wr.heap.size
      have hRl : R ≤ Q := by have := HZ.out.lt; have := hQ.out; omega
      have hYl : Y < Q := by have := HY.out.lt; have := hQ.out; omega
      have HT11 := Lib.hid (refText12 HR.out)
      go_wp2_with (first
        | (go_at_call 15; (with_reducible refine HT11.out.mono ?_); rintro e w11 ⟨v, q11, b11, rfl, hr, hg, _, nm, rfl, hk, hF⟩; have HNK := Lib.hid hk; have HF11 := Lib.hid (fun M hM => st11 HBF.out hlt hF (M := M) hM); have HRb := Lib.hid (hr.later ((Below.refl _ w11).alloc (Nat.le_refl _) (.cells #[.string nm, .bool false, .slice none 0 0] 57))); have HGb := Lib.hid (grown_trans hg (grown_below ((Below.refl _ w11).alloc (Nat.le_refl _) (.cells #[.string nm, .bool false, .slice none 0 0] 57)) _)); have HSb := Lib.hid (Blk.new w11 57 #[.string nm, .bool false, .slice none 0 0]); have hSl : Q ≤ w11.heap.size := (by have h1 := hg.size; have h2 := hQ.out; omega); obtain ⟨S, hS⟩ := named w11.heap.size; have hSS := hS.out; rw [hSS] at hSl HSb; have HT12 := Lib.hid (refNum12 HRb.out 1 1 rfl (by omega) (by omega)); clear hr hg hk hF HT11 c0 c1 c2 f1 f2)
        | (go_at_call 14; (with_reducible refine HT12.out.mono ?_); rintro e w12 ⟨v, q12, b12, rfl, hr, hg, _, vv, rfl, hv, hF⟩; obtain ⟨on, hon⟩ := named ((vv : Int) == 1); have hon2 := hon.out; have HF12 := Lib.hid (fun M hM => st12 (M := M) hon.out (HF11.out M hM) hF); have hs7 := HSb.out.kept hg (fun e => by cases e; omega); have sf1 := hs7.free 1; obtain ⟨s0, s1, s2⟩ := cells3 hs7; have HR12 := Lib.hid (hr.kept (grownBy_setCell4 _ S 1 (.bool on)) (fun e => by cases e; omega) (fun k e => by cases e; omega)); have HG12 := Lib.hid (grown_set (grown_trans HGb.out hg) (hQ.out.symm ▸ hSl) 1 (.bool on)); have HS12 := Lib.hid (hs7.set 1 (.bool on)); have HT13 := Lib.hid (refNum12 HR12.out 2 2 rfl (by omega) (by omega)); clear hr hg hv hF HT12 hs7)
        | (go_at_call 14; (with_reducible refine HT13.out.mono ?_); rintro e w13 ⟨v, q13, b13, rfl, hr, hg, _, kk, rfl, hkk, hF⟩; have hkk := lt16b hkk; have HPF := Lib.hid (st13 HF12.out hF); have HS13 := Lib.hid (HS12.out.kept hg (fun e => by cases e; omega)); have HR13 := Lib.hid hr; have HG13 := Lib.hid (grown_trans HG12.out hg); clear hr hg hF HT13 s0 s1 s2 sf1 hon2))
      go_loopw [12] (fun i wx => ∃ (t q1 : Nat) (b1 : Bool) (la : Option Addr) (lc : Nat) (L : List Sp), t ≤ kk ∧ i = .int .i64 t ∧ Hid (PF l i0 nm on kk t L q1 b1) ∧ Hid (RdR w wx X a n c q1 b1 l) ∧ Hid (wr.grownBy wx (some X)) ∧ Hid (Blk wx S 57 #[.string nm, .bool on, .slice la t lc]) ∧ Hid (SpN wx Q la t lc L)) (fun i _ => kk - (intOf i).toNat)
      case atStart => exact ⟨0, q13, b13, none, 0, [], Nat.zero_le _, rfl, HPF.out, HR13.out, HG13.out, HS13.out, ⟨OwnG.none _ _ _ _ _, Nat.zero_le _, fun s hs => by cases hs⟩⟩
      case round =>
        clear HR12 HR13 HRb HG12 HG13 HGb HS12 HS13 HSb HPF
        obtain ⟨t, q1, b1, la, lc, L, ht, rfl, HPF, HR1, HG1, HS1, HSP⟩ := hrel
        obtain ⟨c0, c1, c2, f1, f2⟩ := HR1.out.cells
        have hQs : Q ≤ wr.heap.size := by have h1 := HG1.out.size; have h2 := hQ.out; omega
        have hXS : X < S := by omega
        have hSw : S < wr.heap.size := HS1.out.lt
        by_cases hlt2 : t < kk ∧ b1 = false
        · obtain ⟨hlt2, rfl⟩ := hlt2
          have hin2 : (t : Int) < (kk : Int) := by omega
          have HT14 := Lib.hid (refNum12 HR1.out 2 2 rfl (by omega) (by omega))
          go_wp2_with (first
            | (go_at_call 14; (with_reducible refine HT14.out.mono ?_); rintro e w14 ⟨v, q14, b14, rfl, hr, hg, _, x, rfl, hx, hF⟩; have hx := lt16b hx; have HF14 := Lib.hid (fun M hM => st14 HPF.out hlt2 hF (M := M) hM); have HRc := Lib.hid (hr.later ((Below.refl _ w14).alloc (Nat.le_refl _) (.cells #[.int .i64 x, .int .i64 0] 59))); have HGc := Lib.hid (grown_trans hg (grown_below ((Below.refl _ w14).alloc (Nat.le_refl _) (.cells #[.int .i64 x, .int .i64 0] 59)) _)); have HVc := Lib.hid (Blk.new w14 59 #[.int .i64 x, .int .i64 0]); have hVl : wr.heap.size ≤ w14.heap.size := hg.size; obtain ⟨V, hV⟩ := named w14.heap.size; have hVV := hV.out; rw [hVV] at hVl HVc; have HT15 := Lib.hid (refNum12 HRc.out 2 2 rfl (by omega) (by omega)); clear hr hg hF HT14 c0 c1 c2 f1 f2)
            | (go_at_call 14; (with_reducible refine HT15.out.mono ?_); rintro e w15 ⟨v, q15, b15, rfl, hr, hg, _, y, rfl, hy, hF⟩; have hy := lt16b hy; have HPF15 := Lib.hid (st15 HF14.out hF); have hv7 := HVc.out.kept hg (fun e => by cases e; omega); have vf1 := hv7.free 1; have v0 : w15.cell? ⟨V, 0, none⟩ = some (.int .i64 x) := (by rw [hv7.cell]; rfl); have v1 : w15.cell? ⟨V, 1, none⟩ = some (.int .i64 0) := (by rw [hv7.cell]; rfl); have hv8 := hv7.set 1 (.int .i64 y); have z0 : (w15.setCell ⟨V, 1, none⟩ (.int .i64 y)).cell? ⟨V, 0, none⟩ = some (.int .i64 x) := (by rw [hv8.cell]; rfl); have z1 : (w15.setCell ⟨V, 1, none⟩ (.int .i64 y)).cell? ⟨V, 1, none⟩ = some (.int .i64 y) := (by rw [hv8.cell]; rfl); have HR15 := Lib.hid (hr.kept (grownBy_setCell4 _ V 1 (.int .i64 y)) (fun e => by cases e; omega) (fun k e => by cases e; omega)); have hG15 := grown_set (grown_trans HGc.out hg) hVl 1 (.int .i64 y); have HB15 := Lib.hid ((Below.refl _ (w15.setCell ⟨V, 1, none⟩ (.int .i64 y))).alloc (Nat.le_refl _) (.cells #[.int .i64 x, .int .i64 y] 59)); have HG15 := Lib.hid (grown_trans hG15 (grown_below HB15.out _)); have hS15 := HS1.out.kept hG15 (fun e => by cases e; omega); obtain ⟨s0, s1, s2⟩ := cells3 hS15; have HS15 := Lib.hid (HS1.out.kept HG15.out (fun e => by cases e; omega)); have HSP15 := Lib.hid (HSP.out.off (HR1.out.box.off (by decide)) HG15.out); clear hr hg hF HT15 hv7 hv8 hG15 hS15)
            | (at_builtin; have hrd := one_reads (cv := spCells) (w15.setCell ⟨V, 1, none⟩ (.int .i64 y)) ((x : Int), (y : Int)) #[.int .i64 x, .int .i64 y] 59 rfl; rw [World.size_setCell] at hrd; refine append_lg sp_rowed rfl _ _ rfl Q _ t L rfl HSP15.out.1 (some ⟨w15.heap.size, 0, none⟩) 1 1 [((x : Int), (y : Int))] rfl (fun e => by cases e) hrd (by omega) (Nat.le_trans hQs HG15.out.size) ?_; intro pa c9 w16 g1 g2 g3; have HSP16 := Lib.hid (show SpN w16 Q pa (t + 1) c9 (L ++ [((x : Int), (y : Int))]) from ⟨g1, by omega, fit12 HSP15.out.2.2 hx hy⟩); have HR16 := Lib.hid ((HR15.out.later HB15.out).kept g2 (row_ne (HR15.out.later HB15.out).box HSP15.out.1 (by decide)) (fun k hk => by have := (HSP15.out.1.1.lt k hk).1; omega)); have HG16 := Lib.hid (grown_row (grown_trans HG1.out HG15.out) g2 (fun k hk => by rw [hQ.out]; exact (HSP15.out.1.1.lt k hk).1)); have HS16 := Lib.hid (HS15.out.kept g2 (HS15.out.not_row (by decide) HSP15.out.1)); have sf2 := HS16.out.free 2; clear s0 s1 s2; obtain ⟨s0, s1, s2⟩ := cells3 HS16.out; clear g1 g2 g3 hrd v0 v1 z0 z1 vf1))
          go_roundw
          case rel => exact ⟨t + 1, q15, b15, pa, c9, L ++ [((x : Int), (y : Int))], by omega, by go_num, HPF15.out, HR16.out.kept (grownBy_setCell4 _ S 2 _) (fun e => by cases e; omega) (fun k e => by cases e; omega), grown_set HG16.out (by rw [hQ.out]; exact hSl) 2 _, HS16.out.set 2 _, HSP16.out.off (HS16.out.off (by decide)) (grownBy_setCell4 _ S 2 _)⟩
          case measure => simp [intOf]; omega
        · have HBF2 := Lib.hid (st16 HBF.out HPF.out hlt2)
          have hex2 := ex_of hlt2
          have HZ16 := Lib.hid (HZ.out.kept HG1.out (fun e => by cases e; omega))
          have HY16 := Lib.hid (HY.out.kept HG1.out (fun e => by cases e; omega))
          have HMN16 := Lib.hid (HMN.out.off HR.out.box.off6q HG1.out)
          obtain ⟨y0, y1, y2, y3, y4, y5, y6⟩ := cells7 HY16.out
          obtain ⟨s0, s1, s2⟩ := cells3 HS1.out
          have HB17 := Lib.hid ((Below.refl _ wr).alloc (Nat.le_refl _) (.cells #[.string nm, .bool on, .slice la t lc] 57))
          have HRd := Lib.hid (HR1.out.later HB17.out)
          have HZd := Lib.hid (HZ16.out.later HB17.out)
          have HYd := Lib.hid (HY16.out.later HB17.out)
          have HMNd := Lib.hid (HMN16.out.later HB17.out)
          have HSPd := Lib.hid ((HSP.out.off (Off.none _ _) (grown_below HB17.out none)).mono (base' := R) hRl)
          clear HMN16 HZ16 hlt2
          rcases hex2 with hin2 | ⟨hin2, rfl⟩
          all_goals
            go_wp2_with (first
              | (at_builtin; obtain ⟨ds, hO, hTd, hSd, hn, hok⟩ := HMNd.out.B; dsimp only at hO hTd hSd hn hok; have HOa := Lib.hid hO; refine append_lg bm_rowed rfl _ _ rfl R _ i0 ds rfl HOa.out (some ⟨wr.heap.size, 0, none⟩) 1 1 [(nm, on, la, t, lc, L)] rfl (fun e => by cases e) (one_reads wr (nm, on, la, t, lc, L) #[.string nm, .bool on, .slice la t lc] 57 rfl) (by omega) (by rw [World.size_alloc]; omega) ?_; intro pa c9 w17 g1 g2 g3; have HMN17 := Lib.hid (MetaN.pushB (d := (nm, on, la, t, lc, L)) HMNd.out HOa.out hTd hSd (by omega) HSPd.out (bk_ok HNK.out) g1 g2); have HR17 := Lib.hid (HRd.out.kept g2 (row_ne HRd.out.box HOa.out (by decide)) (fun k hk => by have := (HOa.out.1.lt k hk).1; omega)); have HZ17 := Lib.hid (HZd.out.kept g2 (HZd.out.not_row (by decide) HOa.out)); have HY17 := Lib.hid (HYd.out.kept g2 (HYd.out.not_row (by decide) HOa.out)); have yf5 := HY17.out.free 5; clear y0 y1 y2 y3 y4 y5 y6; obtain ⟨y0, y1, y2, y3, y4, y5, y6⟩ := cells7 HY17.out; clear g1 g2 g3 hO hTd hSd hn hok s0 s1 s2))
            go_roundw
            case rel => exact ⟨i0 + 1, q1, _, pa, c9, E ++ [(nm, on, L)], by omega, by go_num, HBF2.out, HR17.out.kept (grownBy_setCell4 _ Y 5 _) (fun e => by cases e; omega) (fun k e => by cases e; omega), Blk.other HZ17.out (by omega) _, HY17.out.set 5 _, HMN17.out.box HY17.out 5 _⟩
            case measure => simp [intOf]; omega
    · have hex := ex_of hlt
      rcases hex with hi | ⟨hi, rfl⟩
      all_goals go_wp2
      all_goals exact HX.out i0 q' _ ma mc E _ _ _ _ _ _ _ _ _ _ _ _ _ _ _ _ _ _ _ _ _ _ _ _ _ _ _ _ _ _ _ _ _ _ _ _ _ _ _ _ _ _ _ _ _ _ _ _ _ _ _ _ _ _ _ _ hi' hlt HBF HR HZ HY HMN
set_option maxRecDepth 100000 in
set_option maxHeartbeats 6400000 in
theorem refGetLoop3 {w : World} {a : Option Addr} {n c : Nat} {l : List Int} {R X Y C Z : Nat} {bk : ByteArray} {ta : Option Addr} {tl tc : Nat} {T : Tb} (hRR : w.heap.size = R) (hRX : R < X) (hXY : X < Y) (hC : C < 256) (hZ : Z < 65536) {N3 j i0 : Nat} {sa ma : Option Addr} {sc mc : Nat} {D : List ShM} {E : List BmM} (hN3 : N3 < 4294967296) {w19 : World} {q19 : Nat} {b19 : Bool} (HF19 : Hid (KF l N3 [] q19 b19)) (HR19 : Hid (RdR w w19 X a n c q19 b19 l)) (HZ19 : Hid (Blk w19 R 31 #[.int .i64 0, .int .i64 0, .string ⟨#[]⟩, .slice none 0 0, .slice none 0 0, .slice none 0 0, .slice none 0 0])) (HY19 : Hid (Blk w19 Y 31 #[.int .i64 C, .int .i64 Z, .string bk, .slice ta tl tc, .slice sa j sc, .slice ma i0 mc, .slice none 0 0])) (HMN19 : Hid (MetaN w19 R Any Any ⟨ta, tl, tc, sa, j, sc, ma, i0, mc, none, 0, 0⟩ ⟨C, Z, bk, T, D, E, []⟩)) {K0 : Act → World → Prop} {Q' : Exit → Act → World → Prop} {v0 v1 v2 v3 v7 v8 v9 v10 v11 v12 v13 v14 v15 v16 v17 v18 v19 v20 v21 v22 v23 v24 v25 v26 v27 v28 v29 v30 v31 v32 v33 v34 v35 v36 v37 v38 v39 v40 v41 v42 v43 v44 v45 v46 v47 v48 v49 v50 v51 v52 v53 v54 v55 v56 v57 v58 v59 v60 v61 v62 v63 v64 v65 v66 v67 v68 v69 v70 v71 v72 v73 v74 v75 v76 v77 v78 v79 v80 v81 v82 v83 v84 v85 v86 v87 v88 v89 v90 v91 v92 v93 v94 v95 v96 v97 v98 v99 v100 v101 v102 v103 v104 v105 v106 v107 v108 v109 v110 v111 v112 v113 v114 v115 v116 v117 v118 v119 v120 v121 v122 v123 v124 v125 v126 v127 v128 v129 v130 v131 v132 v133 v134 v135 v136 v137 v138 v139 v140 v141 v142 v143 v144 v145 v146 v147 v148 v149 v150 v151 v152 v153 v154 v155 v156 v157 v158 v159 v160 v161 v162 v163 v164 v165 v166 v167 v168 v169 v170 v171 v172 v173 v174 v175 v176 v177 v178 v179 v180 v181 v182 v183 v184 v185 v186 v187 v188 v189 v190 v191 v192 v193 v194 v195 v196 v197 v198 v199 : Value}
    (HX : ∀ (q2 : Nat) (b2 : Bool) (ca : Option Addr) (cn cc : Nat) (K : List Int) (x14 x15 x16 x126 x127 x128 x129 x130 x131 x132 x133 x134 x135 x136 x137 x138 x139 x140 x141 x142 x143 x144 x145 x146 x147 x148 x149 x150 x151 x152 x153 x154 x155 x156 x157 x158 x159 x160 x161 x162 x163 x164 x165 x166 x167 x168 x169 x170 x171 x172 x173 x174 x175 x176 x177 : Value) (wr : World), Hid (K.length = cn) → cn ≤ 65536 → ¬ (cn < N3 ∧ b2 = false) → Hid (KF l N3 K q2 b2) → Hid (RdR w wr X a n c q2 b2 l) → Hid (Blk wr R 31 #[.int .i64 0, .int .i64 0, .string ⟨#[]⟩, .slice none 0 0, .slice none 0 0, .slice none 0 0, .slice none 0 0]) → Hid (Blk wr Y 31 #[.int .i64 C, .int .i64 Z, .string bk, .slice ta tl tc, .slice sa j sc, .slice ma i0 mc, .slice ca cn cc]) → Hid (MetaN wr R Any Any ⟨ta, tl, tc, sa, j, sc, ma, i0, mc, ca, cn, cc⟩ ⟨C, Z, bk, T, D, E, K⟩) → K0 ⟨List.toArray (v0 :: v1 :: v2 :: v3 :: Value.pointer (some ⟨X, 0, none⟩) :: Value.pointer (some ⟨Y, 0, none⟩) :: Value.int .i64 (N3 : Int) :: v7 :: v8 :: v9 :: v10 :: v11 :: v12 :: v13 :: x14 :: x15 :: x16 :: v17 :: v18 :: v19 :: v20 :: v21 :: v22 :: v23 :: v24 :: v25 :: v26 :: v27 :: v28 :: v29 :: v30 :: v31 :: v32 :: v33 :: v34 :: v35 :: v36 :: v37 :: v38 :: v39 :: v40 :: v41 :: v42 :: v43 :: v44 :: v45 :: v46 :: v47 :: v48 :: v49 :: v50 :: v51 :: v52 :: v53 :: v54 :: v55 :: v56 :: v57 :: v58 :: v59 :: v60 :: v61 :: v62 :: v63 :: v64 :: v65 :: v66 :: v67 :: v68 :: v69 :: v70 :: v71 :: v72 :: v73 :: v74 :: v75 :: v76 :: v77 :: v78 :: v79 :: v80 :: v81 :: v82 :: v83 :: v84 :: v85 :: v86 :: v87 :: v88 :: v89 :: v90 :: v91 :: v92 :: v93 :: v94 :: v95 :: v96 :: v97 :: v98 :: v99 :: v100 :: v101 :: v102 :: v103 :: v104 :: v105 :: v106 :: v107 :: v108 :: v109 :: v110 :: v111 :: v112 :: v113 :: v114 :: v115 :: v116 :: v117 :: v118 :: v119 :: v120 :: v121 :: v122 :: v123 :: v124 :: v125 :: x126 :: x127 :: x128 :: x129 :: x130 :: x131 :: x132 :: x133 :: x134 :: x135 :: x136 :: x137 :: x138 :: x139 :: x140 :: x141 :: x142 :: x143 :: x144 :: x145 :: x146 :: x147 :: x148 :: x149 :: x150 :: x151 :: x152 :: x153 :: x154 :: x155 :: x156 :: x157 :: x158 :: x159 :: x160 :: x161 :: x162 :: x163 :: x164 :: x165 :: x166 :: x167 :: x168 :: x169 :: x170 :: x171 :: x172 :: x173 :: x174 :: x175 :: x176 :: x177 :: v178 :: v179 :: v180 :: v181 :: v182 :: v183 :: v184 :: v185 :: v186 :: v187 :: v188 :: v189 :: v190 :: v191 :: v192 :: v193 :: v194 :: v195 :: v196 :: v197 :: v198 :: v199 :: []), []⟩ wr) :
    Code.wp Tryz.prog (Code.loop (getBody 2)) (Exit.inBlock 6 (Exit.then K0 Q')) ⟨List.toArray (v0 :: v1 :: v2 :: v3 :: Value.pointer (some ⟨X, 0, none⟩) :: Value.pointer (some ⟨Y, 0, none⟩) :: Value.int .i64 (N3 : Int) :: v7 :: v8 :: v9 :: v10 :: v11 :: v12 :: v13 :: v14 :: v15 :: v16 :: v17 :: v18 :: v19 :: v20 :: v21 :: v22 :: v23 :: v24 :: v25 :: v26 :: v27 :: v28 :: v29 :: v30 :: v31 :: v32 :: v33 :: v34 :: v35 :: v36 :: v37 :: v38 :: v39 :: v40 :: v41 :: v42 :: v43 :: v44 :: v45 :: v46 :: v47 :: v48 :: v49 :: v50 :: v51 :: v52 :: v53 :: v54 :: v55 :: v56 :: v57 :: v58 :: v59 :: v60 :: v61 :: v62 :: v63 :: v64 :: v65 :: v66 :: v67 :: v68 :: v69 :: v70 :: v71 :: v72 :: v73 :: v74 :: v75 :: v76 :: v77 :: v78 :: v79 :: v80 :: v81 :: v82 :: v83 :: v84 :: v85 :: v86 :: v87 :: v88 :: v89 :: v90 :: v91 :: v92 :: v93 :: v94 :: v95 :: v96 :: v97 :: v98 :: v99 :: v100 :: v101 :: v102 :: v103 :: v104 :: v105 :: v106 :: v107 :: v108 :: v109 :: v110 :: v111 :: v112 :: v113 :: v114 :: v115 :: v116 :: v117 :: v118 :: v119 :: v120 :: v121 :: v122 :: v123 :: v124 :: v125 :: v126 :: v127 :: v128 :: v129 :: v130 :: v131 :: v132 :: v133 :: v134 :: v135 :: v136 :: v137 :: v138 :: v139 :: v140 :: v141 :: v142 :: v143 :: v144 :: v145 :: v146 :: v147 :: v148 :: v149 :: v150 :: v151 :: v152 :: v153 :: v154 :: v155 :: v156 :: v157 :: v158 :: v159 :: v160 :: v161 :: v162 :: v163 :: v164 :: v165 :: v166 :: v167 :: v168 :: v169 :: v170 :: v171 :: v172 :: v173 :: v174 :: v175 :: v176 :: v177 :: v178 :: v179 :: v180 :: v181 :: v182 :: v183 :: v184 :: v185 :: v186 :: v187 :: v188 :: v189 :: v190 :: v191 :: v192 :: v193 :: v194 :: v195 :: v196 :: v197 :: v198 :: v199 :: []), []⟩ w19 := by
  conv => arg 2; arg 1; whnf
  replace HX := Lib.hid HX
  go_loopw [] (fun wr => ∃ (q2 : Nat) (b2 : Bool) (ca : Option Addr) (cn cc : Nat) (K : List Int), Hid (K.length = cn) ∧ cn ≤ 65536 ∧ Hid (KF l N3 K q2 b2) ∧ Hid (RdR w wr X a n c q2 b2 l) ∧ Hid (Blk wr R 31 #[.int .i64 0, .int .i64 0, .string ⟨#[]⟩, .slice none 0 0, .slice none 0 0, .slice none 0 0, .slice none 0 0]) ∧ Hid (Blk wr Y 31 #[.int .i64 C, .int .i64 Z, .string bk, .slice ta tl tc, .slice sa j sc, .slice ma i0 mc, .slice ca cn cc]) ∧ Hid (MetaN wr R Any Any ⟨ta, tl, tc, sa, j, sc, ma, i0, mc, ca, cn, cc⟩ ⟨C, Z, bk, T, D, E, K⟩)) (fun wr => msr wr X Y N3)
  case atStart => exact ⟨q19, b19, none, 0, 0, [], rfl, Nat.zero_le _, HF19.out, HR19.out, HZ19.out, HY19.out, HMN19.out⟩
  case round =>
    clear HF19 HR19 HZ19 HY19 HMN19
    obtain ⟨q2, b2, ca, cn, cc, K, HKL, hcn, HKF, HR, HZ, HY, HMN⟩ := hrel
    obtain ⟨c0, c1, c2, f1, f2⟩ := HR.out.cells
    obtain ⟨y0, y1, y2', y3, y4, y5, y6⟩ := cells7 HY.out
    by_cases hlt : cn < N3 ∧ b2 = false
    · obtain ⟨hlt, rfl⟩ := hlt
      have hin : (cn : Int) < (N3 : Int) := by omega
      have hm0 := msr_go (N := N3) c2 y6
      have HT20 := Lib.hid (refNum12 HR.out 2 2 rfl (by omega) (by omega))
      go_wp2_with (first
        | (go_at_call 14; (with_reducible refine HT20.out.mono ?_); rintro e w20 ⟨v, q20, b20, rfl, hr, hg, _, kk, rfl, hkk, hF⟩; have hkk := lt16b hkk; have HF20 := Lib.hid (fun M hM => st20 HKF.out (by rw [HKL.out]; exact hlt) hF (M := M) hM); have HR20 := Lib.hid hr; have HG20 := Lib.hid hg; have HT21 := Lib.hid (refNum12 hr 2 2 rfl (by omega) (by omega)); clear hr hg hF HT20)
        | (go_at_call 14; (with_reducible refine HT21.out.mono ?_); rintro e w21 ⟨v, q21, b21, rfl, hr, hg, _, ct, rfl, hct, hF⟩; have hct := lt16b hct; have HRF : Hid (RF l N3 K kk ct q21 b21) := (fun M hM => ⟨(HKF.out M hM).2.1, st21 hM (HF20.out M hM) hF⟩); have HR21 := Lib.hid hr; have HG21 := Lib.hid (grown_trans HG20.out hg); have HZ21 := Lib.hid (HZ.out.kept HG21.out (fun e => by cases e; omega)); have HY21 := Lib.hid (HY.out.kept HG21.out (fun e => by cases e; omega)); have HMN21 := Lib.hid (HMN.out.off HR.out.box.off6q HG21.out); clear hr hg hF HT21 c0 c1 c2 f1 f2 y0 y1 y2' y3 y4 y5 y6; obtain ⟨c0, c1, c2, f1, f2⟩ := HR21.out.cells; obtain ⟨y0, y1, y2, y3, y4, y5, y6⟩ := cells7 HY21.out))
      all_goals first
        | (have hx : kk = 0 ∨ (kk : Int) > (N3 : Int) - (cn : Int) ∨ (N3 : Int) > 65536 := by
            first
              | omega
              | (have g : (((kk : Int) == 0) = true ∨ (N3 : Int) - (cn : Int) < (kk : Int)) ∨ 65536 < (N3 : Int) := by assumption
                 rcases g with (g | g) | g <;> first | omega | (simp at g; omega))
           have HNM : Hid (∀ M, ¬ Mt1 l 0 M []) := HRF.out.bad (by rw [HKL.out]; exact hx)
           have HRs := Lib.hid HR21.out.spoil
           have HZs := Lib.hid (Blk.other (B' := X) (i := 2) HZ21.out (by omega) (.bool true))
           have HYs := Lib.hid (Blk.other (B' := X) (i := 2) HY21.out (by omega) (.bool true))
           have HMNs := Lib.hid (HMN21.out.off HR21.out.box.off6q (grownBy_setCell4 _ X 2 (.bool true)))
           clear hx c0 c1 c2 f1 f2 y0 y1 y2 y3 y4 y5 y6 HMN21 HY21 HZ21 HR21
           obtain ⟨W5, hW5⟩ : ∃ W, w21.setCell ⟨X, 2, none⟩ (.bool true) = W := ⟨_, rfl⟩
           rw [hW5] at HRs HZs HYs HMNs ⊢
           clear hW5
           go_loopw [16] (fun i wx => i = .int .i64 0 ∧ Hid (wx = W5)) (fun i _ => 0)
           case atStart => exact ⟨rfl, rfl⟩
           case round =>
             obtain ⟨rfl, HWX⟩ := hrel
             obtain rfl : wr = W5 := HWX.out
             obtain ⟨c0, c1, c2, f1, f2⟩ := HRs.out.cells
             have hmb := msr_bad (Y := Y) (N := N3) c2
             by_cases h0 : (0 : Int) < (kk : Int)
             all_goals try (exfalso; omega)
             all_goals
               go_wp2
               go_roundw
               case rel => exact ⟨q21, true, ca, cn, cc, K, HKL.out, hcn, fun M hM => absurd hM (HNM.out M), HRs.out, HZs.out, HYs.out, HMNs.out⟩
               case measure => (rw [hm0, hmb]) <;> omega)
        | (have hgood : (¬ kk = 0 ∧ (kk : Int) ≤ (N3 : Int) - (cn : Int)) ∧ N3 ≤ 65536 := by
             have g : ((((kk : Int) == 0) = false ∧ (kk : Int) ≤ (N3 : Int) - (cn : Int)) ∧ (N3 : Int) ≤ 65536) := by assumption
             have g1 : ¬ kk = 0 := by assumption
             omega
           obtain ⟨⟨hk0, hkn⟩, hN6⟩ := hgood
           have HKN : Hid (cn + kk ≤ N3 ∧ N3 ≤ 65536 ∧ 1 ≤ kk) := (by
             rw [Hid]
             omega)
           clear hkn hN6 hk0
           go_loopw [16] (fun i wx => ∃ (t : Nat) (ca2 : Option Addr) (cc2 : Nat), t ≤ kk ∧ i = .int .i64 t ∧ Hid (RdR w wx X a n c q21 b21 l) ∧ Hid (Blk wx R 31 #[.int .i64 0, .int .i64 0, .string ⟨#[]⟩, .slice none 0 0, .slice none 0 0, .slice none 0 0, .slice none 0 0]) ∧ Hid (Blk wx Y 31 #[.int .i64 C, .int .i64 Z, .string bk, .slice ta tl tc, .slice sa j sc, .slice ma i0 mc, .slice ca2 (cn + t) cc2]) ∧ Hid (MetaN wx R Any Any ⟨ta, tl, tc, sa, j, sc, ma, i0, mc, ca2, cn + t, cc2⟩ ⟨C, Z, bk, T, D, E, K ++ List.replicate t (ct : Int)⟩)) (fun i _ => kk - (intOf i).toNat)
           case atStart => exact ⟨0, ca, cc, Nat.zero_le _, rfl, HR21.out, HZ21.out, HY21.out, (by rw [List.replicate_zero, List.append_nil]; exact HMN21.out)⟩
           case round =>
             clear HR21 HZ21 HY21 HMN21
             obtain ⟨t, ca2, cc2, ht, rfl, HR1, HZ1, HY1, HMN1⟩ := hrel
             obtain ⟨c0, c1, c2, f1, f2⟩ := HR1.out.cells
             obtain ⟨y0, y1, y2, y3, y4, y5, y6⟩ := cells7 HY1.out
             obtain ⟨ct2, hct2⟩ := named (cn + t)
             have hc6 : ct2 ≤ 65536 := by have h1 := HKN.out; have h2 := hct2.out; omega
             rw [hct2.out] at HY1 HMN1 y6
             by_cases hlt2 : t < kk ∧ b21 = false
             · obtain ⟨hlt2, rfl⟩ := hlt2
               have hin2 : (t : Int) < (kk : Int) := by omega
               have HB1 := Lib.hid ((Below.refl _ wr).alloc (Nat.le_refl _) (.cells #[.int .i64 ct] 3))
               have HRd := Lib.hid (HR1.out.later HB1.out)
               have HZd := Lib.hid (HZ1.out.later HB1.out)
               have HYd := Lib.hid (HY1.out.later HB1.out)
               have HMNd := Lib.hid (HMN1.out.later HB1.out)
               have HKd := Lib.hid HMNd.out.K.1
               have hRw : R ≤ wr.heap.size := by have := HZ1.out.lt; omega
               go_wp2_with (first
                 | (at_builtin; refine append_lg iv_rowed rfl _ _ rfl R _ ct2 (K ++ List.replicate t (ct : Int)) rfl HKd.out (some ⟨wr.heap.size, 0, none⟩) 1 1 [(ct : Int)] rfl (fun e => by cases e) (one_reads wr (ct : Int) #[.int .i64 ct] 3 rfl) (by omega) (by rw [World.size_alloc]; omega) ?_; intro pa c9 w22 g1 g2 g3; have HMN22 := Lib.hid (MetaN.pushK HMNd.out (by omega) g1 g2); have HR22 := Lib.hid (HRd.out.kept g2 (row_ne HRd.out.box HKd.out (by decide)) (fun k hk => by have := (HKd.out.1.lt k hk).1; omega)); have HZ22 := Lib.hid (HZd.out.kept g2 (HZd.out.not_row (by decide) HKd.out)); have HY22 := Lib.hid (HYd.out.kept g2 (HYd.out.not_row (by decide) HKd.out)); have yf6 := HY22.out.free 6; clear y0 y1 y2 y3 y4 y5 y6 c0 c1 c2 f1 f2; obtain ⟨y0, y1, y2, y3, y4, y5, y6⟩ := cells7 HY22.out; clear g1 g2 g3))
               go_roundw
               case rel => exact ⟨t + 1, by omega, by go_num, HR22.out.kept (grownBy_setCell4 _ Y 6 _) (fun e => by cases e; omega) (fun k e => by cases e; omega), Blk.other HZ22.out (by omega) _, pa, c9, (by rw [← Nat.add_assoc, hct2.out]; exact HY22.out.set 6 _), (by rw [← Nat.add_assoc, hct2.out, List.replicate_succ', ← List.append_assoc]; exact HMN22.out.box HY22.out 6 _)⟩
               case measure => simp [intOf]; omega
             · have HK22 : Hid (KF l N3 (K ++ List.replicate t (ct : Int)) q21 b21) := fun M hM => by
                 have hb := (HRF.out M hM).2.1
                 have htk : t = kk := by
                   rcases Nat.lt_or_ge t kk with h | h
                   · exact absurd ⟨h, hb⟩ hlt2
                   · omega
                 rw [htk]
                 exact HRF.out.next M hM
               have hlen : (K ++ List.replicate t (ct : Int)).length = ct2 := by rw [List.length_append, List.length_replicate, HKL.out]; exact hct2.out
               have HLN := Lib.hid hlen
               have hms : msr wr X Y N3 < 1 + (N3 - cn) := by
                 rcases ex_of hlt2 with h | ⟨_, h⟩
                 · cases b21 with
                   | true => rw [msr_bad c2]; omega
                   | false => rw [msr_go c2 y6]; have h1 := HKN.out; have h2 := hct2.out; omega
                 · rw [h] at c2
                   rw [msr_bad c2]
                   omega
               have HMS := Lib.hid hms
               clear hlen hms
               rcases ex_of hlt2 with hin2 | ⟨hin2, rfl⟩
               all_goals
                 go_wp2
                 go_roundw
                 case rel => exact ⟨q21, _, ca2, ct2, cc2, _, HLN.out, hc6, HK22.out, HR1.out, HZ1.out, HY1.out, HMN1.out⟩
                 case measure => rw [hm0]; exact HMS.out)
    · have hex := ex_of hlt
      rcases hex with hi | ⟨hi, rfl⟩
      all_goals go_wp2
      all_goals exact HX.out q2 _ ca cn cc K _ _ _ _ _ _ _ _ _ _ _ _ _ _ _ _ _ _ _ _ _ _ _ _ _ _ _ _ _ _ _ _ _ _ _ _ _ _ _ _ _ _ _ _ _ _ _ _ _ _ _ _ _ _ _ _ HKL hcn hlt HKF HR HZ HY HMN
set_option maxRecDepth 100000 in
set_option maxHeartbeats 6400000 in
theorem refGetM (w : World) (a : Option Addr) (n c : Nat) (l : List Int) (hB : Bytes w a n l) (hc : n ≤ c) (hnil : a = none → c = 0) :
    Calls Tryz.prog 6 #[.slice a n c] w fun e w' => Below w.heap.size w w' ∧ ((∃ (x : Mt) (M : MM), (RightMt M ∧ EnM M) ∧ l = encM M ∧ e = .returned (.tuple #[.agg (mtA M x), .int .i64 0]) ∧ MetaD w' x M) ∨ (e = .returned (.tuple #[.agg (mtA MM0 Mt0), .int .i64 3]) ∧ ∀ M, RightMt M → EnM M → l ≠ encM M)) := by
  have HZ0 : Hid (Blk ((w.alloc (.cells #[.int .i64 0, .int .i64 0, .string ⟨#[]⟩, .slice none 0 0, .slice none 0 0, .slice none 0 0, .slice none 0 0] 31)).alloc (.cells #[.slice a n c, .int .i64 0, .bool false] 49)) w.heap.size 31 #[.int .i64 0, .int .i64 0, .string ⟨#[]⟩, .slice none 0 0, .slice none 0 0, .slice none 0 0, .slice none 0 0]) := (Blk.new w _ _).alloc _
  have HR0 : Hid (RdR w ((w.alloc (.cells #[.int .i64 0, .int .i64 0, .string ⟨#[]⟩, .slice none 0 0, .slice none 0 0, .slice none 0 0, .slice none 0 0] 31)).alloc (.cells #[.slice a n c, .int .i64 0, .bool false] 49)) (w.heap.size + 1) a n c 0 false l) := by
    have h := RdR.first (w := w.alloc (.cells #[.int .i64 0, .int .i64 0, .string ⟨#[]⟩, .slice none 0 0, .slice none 0 0, .slice none 0 0, .slice none 0 0] 31)) (hB.later ((Below.refl _ _).alloc (Nat.le_refl _) _)) hc hnil
    rw [World.size_alloc] at h
    exact ⟨h.box, ((Below.refl _ w).alloc (Nat.le_refl _) _).alloc (by rw [World.size_alloc]; omega) _, Nat.le_succ _, hB, hc, hnil, Nat.zero_le _⟩
  obtain ⟨R, hRz⟩ := named w.heap.size
  obtain ⟨X, hX⟩ := named (R + 1)
  have hRX : R < X := by rw [← hX.out]; omega
  rw [hRz.out] at HZ0 HR0
  rw [hX.out] at HR0
  have HN1 := Lib.hid (refNum12 HR0.out 1 1 rfl (by omega) (by omega))
  have hXX := hX.out
  have hRR := hRz.out
  have HBS := Lib.hid hB.small.2
  clear hB
  go_enter Tryz.func6, Tryz.ntmps6
  go_wp2_with (first
    | (go_at_call 14; (with_reducible refine HN1.out.mono ?_); rintro e w1 ⟨v, q1, b1, rfl, hr, hg, _, C, rfl, hC, hF⟩; have hC := lt1b hC; have HZ1 := Lib.hid (HZ0.out.kept hg (fun e => by cases e; omega)); have HF1 : Hid (∀ M, Mt1 l 0 M [] → b1 = false ∧ M.c = (C : Int) ∧ l.drop q1 = mR2 M []) := (fun M hM => st1 hF hM); have HRa := Lib.hid (hr.later ((Below.refl _ w1).alloc (Nat.le_refl _) (.cells #[.int .i64 C, .int .i64 0, .string ⟨#[]⟩, .slice none 0 0, .slice none 0 0, .slice none 0 0, .slice none 0 0] 31))); have HZa := Lib.hid (HZ1.out.alloc (.cells #[.int .i64 C, .int .i64 0, .string ⟨#[]⟩, .slice none 0 0, .slice none 0 0, .slice none 0 0, .slice none 0 0] 31)); have HYa := Lib.hid (Blk.new w1 31 #[.int .i64 C, .int .i64 0, .string ⟨#[]⟩, .slice none 0 0, .slice none 0 0, .slice none 0 0, .slice none 0 0]); have hXY : X < w1.heap.size := hr.box.lt; obtain ⟨Y, hY⟩ := named w1.heap.size; have hYY := hY.out; rw [hYY] at hXY HYa; have HN2 := Lib.hid (refNum12 HRa.out 2 2 rfl (by omega) (by omega)); clear hr hg hF HN1)
    | (go_at_call 14; (with_reducible refine HN2.out.mono ?_); rintro e w2 ⟨v, q2, b2, rfl, hr, hg, _, Z, rfl, hZ, hF⟩; have hZ := lt16b hZ; have hz2 := HZa.out.kept hg (fun e => by cases e; omega); have hy2 := HYa.out.kept hg (fun e => by cases e; omega); have yf1 := hy2.free 1; obtain ⟨r0, r1, r2, r3, r4, r5, r6⟩ := cells7 hy2; have HZ2 := Lib.hid (Blk.other (B' := Y) (i := 1) hz2 (by omega) (.int .i64 Z)); have HY2 := Lib.hid (hy2.set 1 (.int .i64 Z)); have HR2 := Lib.hid (hr.kept (grownBy_setCell4 _ Y 1 (.int .i64 Z)) (fun e => by cases e; omega) (fun k e => by cases e; omega)); have HF2 : Hid (∀ M, Mt1 l 0 M [] → b2 = false ∧ M.s = (Z : Int) ∧ l.drop q2 = mR3 M []) := (fun M hM => st2 hF HF1.out hM); have HN3 := Lib.hid (refText12 HR2.out); clear hr hg hF HN2 hz2 hy2)
    | (go_at_call 15; (with_reducible refine HN3.out.mono ?_); rintro e w3 ⟨v, q3, b3, rfl, hr, hg, _, bk, rfl, hk, hF⟩; have HK := Lib.hid hk; have hz3 := HZ2.out.kept hg (fun e => by cases e; omega); have hy3 := HY2.out.kept hg (fun e => by cases e; omega); have yf2 := hy3.free 2; obtain ⟨s0, s1, s2, s3, s4, s5, s6⟩ := cells7 hy3; have HZ3 := Lib.hid (Blk.other (B' := Y) (i := 2) hz3 (by omega) (.string bk)); have HY3 := Lib.hid (hy3.set 2 (.string bk)); have HR3 := Lib.hid (hr.kept (grownBy_setCell4 _ Y 2 (.string bk)) (fun e => by cases e; omega) (fun k e => by cases e; omega)); have HF3 : Hid (∀ M, Mt1 l 0 M [] → b3 = false ∧ M.bk = bk ∧ l.drop q3 = mR4 M []) := (fun M hM => st3 hF HF2.out hM); obtain ⟨y0, y1, y2, y3, y4, y5, y6⟩ := cells7 HY3.out; clear hr hg hF HN3 hz3 hy3 hk)
    | (go_at_call 16; (with_reducible refine (refTable12 HR3.out Z C hZ hC).mono ?_); rintro e w4 ⟨v, q4, b4, rfl, hr, hg, _, ta, tl, tc, T, rfl, hT, hF⟩; have hRw : R ≤ (w3.setCell ⟨Y, 2, none⟩ (.string bk)).heap.size := (by have := HZ3.out.lt; omega); have hz4 := HZ3.out.kept hg (fun e => by cases e; omega); have hy4 := HY3.out.kept hg (fun e => by cases e; omega); have yf3 := hy4.free 3; clear y0 y1 y2 y3 y4 y5 y6; obtain ⟨y0, y1, y2, y3, y4, y5, y6⟩ := cells7 hy4; have HZ4 := Lib.hid (Blk.other (B' := Y) (i := 3) hz4 (by omega) (.slice ta tl tc)); have HY4 := Lib.hid (hy4.set 3 (.slice ta tl tc)); have HR4 := Lib.hid (hr.kept (grownBy_setCell4 _ Y 3 (.slice ta tl tc)) (fun e => by cases e; omega) (fun k e => by cases e; omega)); have HMN4 := Lib.hid (MetaN.start (base := R) (hT.typed hy4 (by decide) (by decide) (grownBy_setCell4 _ _ 3 (.slice ta tl tc))) hRw hC hZ HK.out); have HF4 : Hid (∀ M, Mt1 l 0 M [] → b4 = false ∧ M.T = T ∧ l.drop q4 = mR5 M []) := (fun M hM => st4 hF hM (HF1.out M hM).2.1 (HF2.out M hM).2.1 (HF3.out M hM).1 (HF3.out M hM).2.2); have HN5 := Lib.hid (refNum12 HR4.out 1 1 rfl (by omega) (by omega)); clear hr hg hF hT hz4 hy4)
    | (go_at_call 14; (with_reducible refine HN5.out.mono ?_); rintro e w5 ⟨v, q5, b5, rfl, hr, hg, _, N, rfl, hN, hF⟩; have hN := lt1b hN; have HZ5 := Lib.hid (HZ4.out.kept hg (fun e => by cases e; omega)); have HY5 := Lib.hid (HY4.out.kept hg (fun e => by cases e; omega)); have HR5 := Lib.hid hr; have HMN5 := Lib.hid (HMN4.out.off HR4.out.box.off6q hg); have HF5 : Hid (∀ M, Mt1 l 0 M [] → b5 = false ∧ M.S.length = N ∧ l.drop q5 = mR6 M []) := (fun M hM => st5 hF hM (HF4.out M hM).1 (HF4.out M hM).2.2); clear y0 y1 y2 y3 y4 y5 y6; clear hr hg hF HN5))
  have hC : C < 256 := hC
  have hNN : N < 256 := hN
  have HSF0 : Hid (SF l N 0 [] q5 b5) := st5' HF5.out
  have HCC : Hid (∀ M, Mt1 l 0 M [] → M.c = (C : Int)) := fun M hM => (HF1.out M hM).2.1
  refine refGetLoop1 (w := w) hRR hRX hXY hC hZ hNN HCC HSF0 HR5 HZ5 HY5 HMN5 ?_
  clear HR0 HR2 HR3 HR4 HR5 HRa HZ0 HZ1 HZ2 HZ3 HZ4 HZ5 HZa HY2 HY3 HY4 HY5 HYa HMN4 HMN5 HSF0
  intro j q b sa sc D y1_0 y1_1 y1_2 y1_3 y1_4 y1_5 y1_6 y1_7 y1_8 y1_9 y1_10 y1_11 y1_12 y1_13 y1_14 y1_15 y1_16 y1_17 y1_18 y1_19 y1_20 y1_21 y1_22 y1_23 y1_24 y1_25 y1_26 y1_27 y1_28 y1_29 y1_30 y1_31 wr hj hlt HSF HR HZ HY HMN
  obtain ⟨c0, c1, c2, f1, f2⟩ := HR.out.cells
  have HF9 : Hid (∀ M, Mt1 l 0 M [] → b = false ∧ M.S = D ∧ l.drop q = mR7 M []) := fun M hM => by
    have hb := (HSF.out M hM).1
    have hjn : j = N := by
      by_cases h : j < N
      · exact absurd ⟨h, hb⟩ hlt
      · omega
    subst hjn
    exact st9 HSF.out hM
  clear HSF hlt
  have HN10 := Lib.hid (refNum12 HR.out 1 1 rfl (by omega) (by omega))
  go_wp2_with (first
    | (go_at_call 14; (with_reducible refine HN10.out.mono ?_); rintro e w10 ⟨v, q10, b10, rfl, hr, hg, _, N2, rfl, hN2, hF⟩; have hN2 := lt1b hN2; have HZ10 := Lib.hid (HZ.out.kept hg (fun e => by cases e; omega)); have HY10 := Lib.hid (HY.out.kept hg (fun e => by cases e; omega)); have HR10 := Lib.hid hr; have HMN10 := Lib.hid (HMN.out.off HR.out.box.off6q hg); have HF10 := Lib.hid (fun M hM => st10 HF9.out hF (M := M) hM); clear hr hg hF HN10 c0 c1 c2 f1 f2))
  have HBF0 : Hid (BF l N2 0 [] q10 b10) := st10' HF10.out
  refine refGetLoop2 (w := w) hRR hRX hXY hC hZ hN2 HBF0 HR10 HZ10 HY10 HMN10 ?_
  clear HR HR10 HZ HZ10 HY HY10 HMN HMN10 HBF0
  intro i0 q' b' ma mc E y2_0 y2_1 y2_2 y2_3 y2_4 y2_5 y2_6 y2_7 y2_8 y2_9 y2_10 y2_11 y2_12 y2_13 y2_14 y2_15 y2_16 y2_17 y2_18 y2_19 y2_20 y2_21 y2_22 y2_23 y2_24 y2_25 y2_26 y2_27 y2_28 y2_29 y2_30 y2_31 y2_32 y2_33 y2_34 y2_35 y2_36 y2_37 y2_38 y2_39 y2_40 y2_41 y2_42 y2_43 y2_44 y2_45 y2_46 y2_47 y2_48 y2_49 y2_50 y2_51 y2_52 y2_53 y2_54 wr2 hi' hlt HBF HR HZ HY HMN
  obtain ⟨c0, c1, c2, f1, f2⟩ := HR.out.cells
  have HF18 : Hid (∀ M, Mt1 l 0 M [] → b' = false ∧ M.B = E ∧ l.drop q' = cntB M.K ++ []) := fun M hM => st17 HBF.out hlt hM
  have HN19 := Lib.hid (refNum12 HR.out 4 4 rfl (by omega) (by omega))
  clear HBF hlt
  go_wp2_with (first
    | (go_at_call 14; (with_reducible refine HN19.out.mono ?_); rintro e w19 ⟨v, q19, b19, rfl, hr, hg, _, N3, rfl, hN3, hF⟩; have hN3 := lt32b hN3; have HZ19 := Lib.hid (HZ.out.kept hg (fun e => by cases e; omega)); have HY19 := Lib.hid (HY.out.kept hg (fun e => by cases e; omega)); have HR19 := Lib.hid hr; have HMN19 := Lib.hid (HMN.out.off HR.out.box.off6q hg); have HF19 := Lib.hid (st18 HF18.out hF); clear hr hg hF HN19 c0 c1 c2 f1 f2))
  refine refGetLoop3 (w := w) hRR hRX hXY hC hZ hN3 HF19 HR19 HZ19 HY19 HMN19 ?_
  clear HR HR19 HZ HZ19 HY HY19 HMN HMN19 HF19
  intro q2 b2 ca cn cc K y3_0 y3_1 y3_2 y3_3 y3_4 y3_5 y3_6 y3_7 y3_8 y3_9 y3_10 y3_11 y3_12 y3_13 y3_14 y3_15 y3_16 y3_17 y3_18 y3_19 y3_20 y3_21 y3_22 y3_23 y3_24 y3_25 y3_26 y3_27 y3_28 y3_29 y3_30 y3_31 y3_32 y3_33 y3_34 y3_35 y3_36 y3_37 y3_38 y3_39 y3_40 y3_41 y3_42 y3_43 y3_44 y3_45 y3_46 y3_47 y3_48 y3_49 y3_50 y3_51 y3_52 y3_53 y3_54 wr3 HKL hcn hlt HKF HR HZ HY HMN
  obtain ⟨c0, c1, c2, f1, f2⟩ := HR.out.cells
  obtain ⟨y0, y1, y2', y3, y4, y5, y6⟩ := cells7 HY.out
  have HEF : Hid (∀ M, Mt1 l 0 M [] → b2 = false ∧ M = ⟨C, Z, bk, T, D, E, K⟩) := fun M hM =>
    ⟨(st23 HKF.out HKL.out hlt hM).1, mm_eq (HCC.out M hM) (HF2.out M hM).2.1 (HF3.out M hM).2.1 (HF4.out M hM).2.1 (HF9.out M hM).2.1 (HF18.out M hM).2.1 (st23 HKF.out HKL.out hlt hM).2⟩
  have HMD := Lib.hid HMN.out.d
  clear HKF hlt
  by_cases hr : RightMt ⟨C, Z, bk, T, D, E, K⟩
  · have HPU := refPutM_ok _ _ _ HMD.out hr
    dsimp only [mtA] at HPU
    have HPU := Lib.hid HPU
    have HRG := Lib.hid hr
    obtain ⟨NT, hNT⟩ := named (encM ⟨C, Z, bk, T, D, E, K⟩).length
    obtain ⟨UA, hUA⟩ := named (strOfNums (encM ⟨C, Z, bk, T, D, E, K⟩))
    obtain ⟨UB, hUB⟩ := named (strOfNums l)
    by_cases heq : encM ⟨C, Z, bk, T, D, E, K⟩ = l
    · have HUU : Hid (UA = UB) := by rw [Hid, ← hUA.out, ← hUB.out, heq]
      have HEQ := Lib.hid heq
      clear heq
      all_goals
        go_wp2_with (first
          | (go_at_call 17; (with_reducible refine HPU.out.mono ?_); intro e w30 hp; obtain ⟨x2, y2, rfl, hBt, _, hb⟩ := hp.sized hNT.out; have k1 := conv_str hBt y2; have k2 := conv_str (HR.out.later hb).bytes c; rw [hUA.out] at k1; rw [hUB.out] at k2; have HR30 := Lib.hid (HR.out.later hb); have HZ30 := Lib.hid (HZ.out.later hb); have HY30 := Lib.hid (HY.out.later hb); have HMN30 := Lib.hid (HMN.out.later hb); have HBT := Lib.hid hBt.small; clear hp hBt hb c0 c1 c2 f1 f2 y0 y1 y2' y3 y4 y5 y6; obtain ⟨c0, c1, c2, f1, f2⟩ := HR30.out.cells; obtain ⟨y0, y1, y2', y3, y4, y5, y6⟩ := cells7 HY30.out; obtain ⟨z0, z1, z2, z3, z4, z5, z6⟩ := cells7 HZ30.out; obtain ⟨g0, g1, g2, g3, g4, g5, g6⟩ := free7 HZ30.out))
      all_goals first
        | (have hNB := no_bad HEF.out (by first | rfl | assumption)
           have hz := (((((((HZ30.out).set 0 (.int .i64 0)).set 1 (.int .i64 0)).set 2 (.string ⟨#[]⟩)).set 3 (.slice none 0 0)).set 4 (.slice none 0 0)).set 5 (.slice none 0 0)).set 6 (.slice none 0 0)
           have hbz := (((((((HR30.out.b).setCell (p := ⟨R, 0, none⟩) (Nat.le_of_eq hRR) (.int .i64 0)).setCell (p := ⟨R, 1, none⟩) (Nat.le_of_eq hRR) (.int .i64 0)).setCell (p := ⟨R, 2, none⟩) (Nat.le_of_eq hRR) (.string ⟨#[]⟩)).setCell (p := ⟨R, 3, none⟩) (Nat.le_of_eq hRR) (.slice none 0 0)).setCell (p := ⟨R, 4, none⟩) (Nat.le_of_eq hRR) (.slice none 0 0)).setCell (p := ⟨R, 5, none⟩) (Nat.le_of_eq hRR) (.slice none 0 0)).setCell (p := ⟨R, 6, none⟩) (Nat.le_of_eq hRR) (.slice none 0 0)
           refine bodyPost_ret (results_cell_tmp rfl _ _ R 31 (mtA MM0 Mt0) (0, 0) _ rfl _ rfl hz Tryz.underlying31 rfl meta_size) rfl ?_
           exact ⟨hbz, Or.inr ⟨rfl, hNB⟩⟩)
        | (exfalso; rename_i hx; rw [HUU.out] at hx; simp at hx; done)
        | (have hz0 := HZ30.out
           have hz1 := hz0.set 0 (.int .i64 C)
           have hz2 := hz1.set 1 (.int .i64 Z)
           have hz3 := hz2.set 2 (.string bk)
           have hz4 := hz3.set 3 (.slice ta tl tc)
           have hz5 := hz4.set 4 (.slice sa j sc)
           have hz6 := hz5.set 5 (.slice ma i0 mc)
           have hz7 := hz6.set 6 (.slice ca cn cc)
           have hm0 := HMN30.out
           have hm1 := hm0.box hz0 0 (.int .i64 C)
           have hm2 := hm1.box hz1 1 (.int .i64 Z)
           have hm3 := hm2.box hz2 2 (.string bk)
           have hm4 := hm3.box hz3 3 (.slice ta tl tc)
           have hm5 := hm4.box hz4 4 (.slice sa j sc)
           have hm6 := hm5.box hz5 5 (.slice ma i0 mc)
           have hm7 := hm6.box hz6 6 (.slice ca cn cc)
           have hbz := (((((((HR30.out.b).setCell (p := ⟨R, 0, none⟩) (Nat.le_of_eq hRR) (.int .i64 C)).setCell (p := ⟨R, 1, none⟩) (Nat.le_of_eq hRR) (.int .i64 Z)).setCell (p := ⟨R, 2, none⟩) (Nat.le_of_eq hRR) (.string bk)).setCell (p := ⟨R, 3, none⟩) (Nat.le_of_eq hRR) (.slice ta tl tc)).setCell (p := ⟨R, 4, none⟩) (Nat.le_of_eq hRR) (.slice sa j sc)).setCell (p := ⟨R, 5, none⟩) (Nat.le_of_eq hRR) (.slice ma i0 mc)).setCell (p := ⟨R, 6, none⟩) (Nat.le_of_eq hRR) (.slice ca cn cc)
           refine bodyPost_ret (results_cell_tmp rfl _ _ R 31 (mtA ⟨C, Z, bk, T, D, E, K⟩ ⟨ta, tl, tc, sa, j, sc, ma, i0, mc, ca, cn, cc⟩) (0, 0) _ rfl _ rfl hz7 Tryz.underlying31 rfl meta_size) rfl ?_
           exact ⟨hbz, Or.inl ⟨_, _, ⟨HRG.out, HMD.out.en⟩, HEQ.out.symm, rfl, hm7.d⟩⟩)
    · have HNE := Lib.hid heq
      clear heq
      all_goals
        go_wp2_with (first
          | (go_at_call 17; (with_reducible refine HPU.out.mono ?_); intro e w30 hp; obtain ⟨x2, y2, rfl, hBt, _, hb⟩ := hp.sized hNT.out; have k1 := conv_str hBt y2; have k2 := conv_str (HR.out.later hb).bytes c; rw [hUA.out] at k1; rw [hUB.out] at k2; have HR30 := Lib.hid (HR.out.later hb); have HZ30 := Lib.hid (HZ.out.later hb); have HY30 := Lib.hid (HY.out.later hb); have HMN30 := Lib.hid (HMN.out.later hb); have HBT := Lib.hid hBt.small; clear hp hBt hb c0 c1 c2 f1 f2 y0 y1 y2' y3 y4 y5 y6; obtain ⟨c0, c1, c2, f1, f2⟩ := HR30.out.cells; obtain ⟨y0, y1, y2', y3, y4, y5, y6⟩ := cells7 HY30.out; obtain ⟨z0, z1, z2, z3, z4, z5, z6⟩ := cells7 HZ30.out; obtain ⟨g0, g1, g2, g3, g4, g5, g6⟩ := free7 HZ30.out))
      all_goals first
        | (exfalso; rename_i hx; have hU := strNe14 HBT.out.2 HBS.out HNE.out; rw [hUA.out, hUB.out] at hU; rw [hU] at hx; simp at hx; done)
        | (have hz := (((((((HZ30.out).set 0 (.int .i64 0)).set 1 (.int .i64 0)).set 2 (.string ⟨#[]⟩)).set 3 (.slice none 0 0)).set 4 (.slice none 0 0)).set 5 (.slice none 0 0)).set 6 (.slice none 0 0)
           have hbz := (((((((HR30.out.b).setCell (p := ⟨R, 0, none⟩) (Nat.le_of_eq hRR) (.int .i64 0)).setCell (p := ⟨R, 1, none⟩) (Nat.le_of_eq hRR) (.int .i64 0)).setCell (p := ⟨R, 2, none⟩) (Nat.le_of_eq hRR) (.string ⟨#[]⟩)).setCell (p := ⟨R, 3, none⟩) (Nat.le_of_eq hRR) (.slice none 0 0)).setCell (p := ⟨R, 4, none⟩) (Nat.le_of_eq hRR) (.slice none 0 0)).setCell (p := ⟨R, 5, none⟩) (Nat.le_of_eq hRR) (.slice none 0 0)).setCell (p := ⟨R, 6, none⟩) (Nat.le_of_eq hRR) (.slice none 0 0)
           refine bodyPost_ret (results_cell_tmp rfl _ _ R 31 (mtA MM0 Mt0) (0, 0) _ rfl _ rfl hz Tryz.underlying31 rfl meta_size) rfl ?_
           exact ⟨hbz, Or.inr ⟨rfl, no_eq HEF.out HNE.out⟩⟩)
  · have HPU := refPutM_no _ _ _ HMD.out hr hcn
    dsimp only [mtA] at HPU
    have HPU := Lib.hid HPU
    obtain ⟨NT, hNT⟩ := named ([] : List Int).length
    obtain ⟨UA, hUA⟩ := named (strOfNums [])
    obtain ⟨UB, hUB⟩ := named (strOfNums l)
    all_goals
      go_wp2_with (first
        | (go_at_call 17; (with_reducible refine HPU.out.mono ?_); intro e w30 hp; obtain ⟨x2, y2, rfl, hBt, _, hb⟩ := hp.sized hNT.out; have k1 := conv_str hBt y2; have k2 := conv_str (HR.out.later hb).bytes c; rw [hUA.out] at k1; rw [hUB.out] at k2; have HR30 := Lib.hid (HR.out.later hb); have HZ30 := Lib.hid (HZ.out.later hb); have HY30 := Lib.hid (HY.out.later hb); have HMN30 := Lib.hid (HMN.out.later hb); have HBT := Lib.hid hBt.small; clear hp hBt hb c0 c1 c2 f1 f2 y0 y1 y2' y3 y4 y5 y6; obtain ⟨c0, c1, c2, f1, f2⟩ := HR30.out.cells; obtain ⟨y0, y1, y2', y3, y4, y5, y6⟩ := cells7 HY30.out; obtain ⟨z0, z1, z2, z3, z4, z5, z6⟩ := cells7 HZ30.out; obtain ⟨g0, g1, g2, g3, g4, g5, g6⟩ := free7 HZ30.out))
    all_goals first
      | (have hz := (((((((HZ30.out).set 0 (.int .i64 0)).set 1 (.int .i64 0)).set 2 (.string ⟨#[]⟩)).set 3 (.slice none 0 0)).set 4 (.slice none 0 0)).set 5 (.slice none 0 0)).set 6 (.slice none 0 0)
         have hbz := (((((((HR30.out.b).setCell (p := ⟨R, 0, none⟩) (Nat.le_of_eq hRR) (.int .i64 0)).setCell (p := ⟨R, 1, none⟩) (Nat.le_of_eq hRR) (.int .i64 0)).setCell (p := ⟨R, 2, none⟩) (Nat.le_of_eq hRR) (.string ⟨#[]⟩)).setCell (p := ⟨R, 3, none⟩) (Nat.le_of_eq hRR) (.slice none 0 0)).setCell (p := ⟨R, 4, none⟩) (Nat.le_of_eq hRR) (.slice none 0 0)).setCell (p := ⟨R, 5, none⟩) (Nat.le_of_eq hRR) (.slice none 0 0)).setCell (p := ⟨R, 6, none⟩) (Nat.le_of_eq hRR) (.slice none 0 0)
         refine bodyPost_ret (results_cell_tmp rfl _ _ R 31 (mtA MM0 Mt0) (0, 0) _ rfl _ rfl hz Tryz.underlying31 rfl meta_size) rfl ?_
         exact ⟨hbz, Or.inr ⟨rfl, no_right HEF.out hr⟩⟩)
end Go.Proofs.YtdffgnpldapciaaGreatDoor
