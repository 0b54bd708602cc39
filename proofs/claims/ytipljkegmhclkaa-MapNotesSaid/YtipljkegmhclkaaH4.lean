/-
  One span more, gathered in two lists; two rows of the call's own; an append that tells where its slice lies. Conditions: none.
-/
import Derived.Test.YtipljkegmhclkaaG4
import Derived.Deep.AppendLies
import Derived.Laws.AppendOwnNone
namespace Go.Proofs.Ytipljkegmhclkaa
open Go.RowKit Go.Shelf
set_option linter.unusedVariables false

/-- One round of Add: what lies ahead, the span, what lies behind. -/
def stepA (st : List Sp × Sp × List Sp) (x : Sp) : List Sp × Sp × List Sp :=
  if x.2 < st.2.1.1 then (st.1 ++ [x], st.2.1, st.2.2) else if st.2.1.2 < x.1 then (st.1, st.2.1, st.2.2 ++ [x]) else (st.1, (min st.2.1.1 x.1, max st.2.1.2 x.2), st.2.2)
def foldA (s : Sp) (l : List Sp) : List Sp × Sp × List Sp := l.foldl stepA ([], s, [])
theorem foldA_snoc (s : Sp) (l : List Sp) (x : Sp) : foldA s (l ++ [x]) = stepA (foldA s l) x := by simp [foldA]
theorem fold_behind : ∀ (r A B : List Sp) (s : Sp) (lo : Int), Rt lo r → s.2 ≤ lo → s.1 < s.2 → r.foldl stepA (A, s, B) = (A, s, B ++ r)
  | [], A, B, s, lo, _, _, _ => by simp
  | x :: r, A, B, s, lo, h, h1, h2 => by
    have g0 := h.1
    have g1 := h.2.1
    rw [List.foldl_cons]
    have e : stepA (A, s, B) x = (A, s, B ++ [x]) := by
      unfold stepA
      rw [if_neg (by dsimp only; omega), if_pos (by dsimp only; omega)]
    rw [e, fold_behind r A (B ++ [x]) s x.2 h.2.2.2 (by omega) h2]
    simp
theorem fold_ins : ∀ (l A : List Sp) (s : Sp) (lo : Int), Rt lo l → s.1 < s.2 → (l.foldl stepA (A, s, [])).1 ++ [(l.foldl stepA (A, s, [])).2.1] ++ (l.foldl stepA (A, s, [])).2.2 = A ++ ins l s
  | [], A, s, _, _, _ => by simp [ins]
  | x :: r, A, s, lo, h, h2 => by
    have g1 := h.2.1
    rw [List.foldl_cons]
    unfold ins
    by_cases c1 : x.2 < s.1
    · have e : stepA (A, s, []) x = (A ++ [x], s, []) := by
        unfold stepA
        rw [if_pos (by exact c1)]
      rw [e, fold_ins r (A ++ [x]) s x.2 h.2.2.2 h2, if_pos c1]
      simp
    · by_cases c2 : s.2 < x.1
      · have e : stepA (A, s, []) x = (A, s, [] ++ [x]) := by
          unfold stepA
          rw [if_neg (by exact c1), if_pos (by exact c2)]
        rw [e, fold_behind r A _ s x.2 h.2.2.2 (by omega) h2, if_neg c1, if_pos c2]
        simp
      · have e : stepA (A, s, []) x = (A, (min s.1 x.1, max s.2 x.2), []) := by
          unfold stepA
          rw [if_neg (by exact c1), if_neg (by exact c2)]
        rw [e, fold_ins r A _ x.2 h.2.2.2 (by show min s.1 x.1 < max s.2 x.2; omega), if_neg c1, if_neg c2]
theorem foldA_ins (l : List Sp) (s : Sp) (h : s.1 < s.2) : (foldA s (norm l)).1 ++ [(foldA s (norm l)).2.1] ++ (foldA s (norm l)).2.2 = ins (norm l) s := fold_ins (norm l) [] s (-1) (norm_right l) h
theorem stepA_len (st : List Sp × Sp × List Sp) (x : Sp) : (stepA st x).1.length + (stepA st x).2.2.length ≤ st.1.length + st.2.2.length + 1 := by
  unfold stepA
  split
  · simp; omega
  · split
    · simp; omega
    · simp
theorem foldl_len : ∀ (l : List Sp) (st : List Sp × Sp × List Sp), (l.foldl stepA st).1.length + (l.foldl stepA st).2.2.length ≤ st.1.length + st.2.2.length + l.length
  | [], _ => by simp
  | x :: r, st => by
    have h1 := foldl_len r (stepA st x)
    have h2 := stepA_len st x
    rw [List.foldl_cons, List.length_cons]
    omega
theorem foldA_len (s : Sp) (l : List Sp) : (foldA s l).1.length + (foldA s l).2.2.length ≤ l.length := by
  have := foldl_len l ([], s, [])
  simp at this
  exact this

/-- Two blocks hold two slices of the call's own that have no cell in common. -/
def Two (base B1 B2 : Nat) (l1 l2 : List Sp) (W : World) : Prop := ∃ a1 n1 c1 a2 n2 c2, (Blk W B1 41 #[.slice a1 n1 c1] ∧ OwnSp W base (.slice a1 n1 c1) n1 l1) ∧ (Blk W B2 41 #[.slice a2 n2 c2] ∧ OwnSp W base (.slice a2 n2 c2) n2 l2) ∧
  ∀ k, (Value.slice a1 n1 c1).ownBlock = some k → (Value.slice a2 n2 c2).ownBlock ≠ some k
theorem Two.swap {base B1 B2 : Nat} {l1 l2 : List Sp} {W : World} (h : Two base B1 B2 l1 l2 W) : Two base B2 B1 l2 l1 W := by
  obtain ⟨a1, n1, c1, a2, n2, c2, h1, h2, h3⟩ := h
  exact ⟨a2, n2, c2, a1, n1, c1, h2, h1, fun k e e' => h3 k e' e⟩
theorem Two.own {β : Type} (base B1 B2 : Nat) (f g : β → List Sp) : Go.Own (fun s W => Two base B1 B2 (f s) (g s) W) := by
  rintro s X Y row ⟨a1, n1, c1, a2, n2, c2, ⟨h1, h2⟩, ⟨h3, h4⟩, h5⟩ hg hrow
  have hne : ∀ {v : Value} {n : Nat} {l : List Sp}, OwnSp X base v n l → ∀ k, v.ownBlock = some k → row ≠ some k := fun hO k hk e => by
    obtain ⟨o, ho, hc⟩ := hrow k e
    have := hO.cells k o hk ho
    rw [hc] at this
    cases this
  exact ⟨a1, n1, c1, a2, n2, c2, ⟨Blk.own B1 _ (fun _ : Unit => _) () X Y row h1 hg hrow, h2.kept' hg (hne h2)⟩, ⟨Blk.own B2 _ (fun _ : Unit => _) () X Y row h3 hg hrow, h4.kept' hg (hne h4)⟩, h5⟩
/-- Behind an append to the first one, its result put back. -/
theorem Two.put {W w1 : World} {base B1 B2 n1 n2 m : Nat} {a1 a2 a' : Option Addr} {c1 c2 c' : Nat} {l1 l2 l' : List Sp} {tmp : Obj}
    (h1 : Blk W B1 41 #[.slice a1 n1 c1]) (r1 : OwnSp W base (.slice a1 n1 c1) n1 l1) (h2 : Blk W B2 41 #[.slice a2 n2 c2]) (r2 : OwnSp W base (.slice a2 n2 c2) n2 l2)
    (hd : ∀ k, (Value.slice a1 n1 c1).ownBlock = some k → (Value.slice a2 n2 c2).ownBlock ≠ some k) (hBB : B1 ≠ B2) (hbase : base ≤ W.heap.size) (hB : base ≤ B1)
    (hO : OwnSp w1 base (.slice a' m c') m l') (hg : (W.alloc tmp).grownBy w1 (Value.slice a1 n1 c1).ownBlock) (hat : (Value.slice a' m c').ownBlock = (Value.slice a1 n1 c1).ownBlock ∨ (Value.slice a' m c').ownBlock = some (W.alloc tmp).heap.size) :
    w1.cell? ⟨B1, 0, none⟩ = some (.slice a1 n1 c1) ∧ w1.frozen? ⟨B1, 0, none⟩ = false ∧ Hid (Two base B1 B2 l' l2 (w1.setCell ⟨B1, 0, none⟩ (.slice a' m c')) ∧
      KeepsOthers W (w1.setCell ⟨B1, 0, none⟩ (.slice a' m c')) ∧ Below base W (w1.setCell ⟨B1, 0, none⟩ (.slice a' m c')) ∧
      ∀ (B' : Nat) (t : TypeId) (cs : Array Value), B' ≠ B1 → (Value.slice a1 n1 c1).ownBlock ≠ some B' → Blk W B' t cs → Blk (w1.setCell ⟨B1, 0, none⟩ (.slice a' m c')) B' t cs) := by
  have hne : 41 ≠ 40 := by decide
  obtain ⟨q1, q2, Q⟩ := HoldsSp.put2 h1 r1 hbase hB hO (grown_alloc hg)
  obtain ⟨q3, q4, q5, q6, q7⟩ := Q.out
  refine ⟨q1, q2, ⟨a', m, c', a2, n2, c2, ⟨q3, q4⟩, ⟨(q7 B2 _ _ hBB.symm (fun e => h2.not_row hne r1 e.symm) h2).2, ?_⟩, ?_⟩, q5, q6, fun B' t cs h1 h2 h3 => (q7 B' t cs h1 h2 h3).2⟩
  · have hv1 := h1.kept (grown_alloc hg) (h1.not_row hne r1)
    have k1 := r2.kept' (grown_alloc hg) (fun k e e' => hd k e' e)
    exact k1.kept' (grownBy_setCell4 w1 B1 0 _) (fun k e e' => by
      cases e'
      exact (hv1.not_row hne k1) e.symm)
  · intro k e
    rcases hat with hat | hat
    · rw [hat] at e
      exact hd k e
    · rw [hat, World.size_alloc] at e
      cases e
      exact r2.low _ (Or.inr (by omega))
theorem Two.setFar {base B1 B2 B i : Nat} {l1 l2 : List Sp} {W : World} (h : Two base B1 B2 l1 l2 W) (h1 : B ≠ B1) (h2 : B ≠ B2) (hB : B < base) (v : Value) : Two base B1 B2 l1 l2 (W.setCell ⟨B, i, none⟩ v) := by
  obtain ⟨a1, n1, c1, a2, n2, c2, ⟨q1, q2⟩, ⟨q3, q4⟩, q5⟩ := h
  exact ⟨a1, n1, c1, a2, n2, c2, ⟨q1.other h1.symm _, q2.setFar hB _⟩, ⟨q3.other h2.symm _, q4.setFar hB _⟩, q5⟩
/-- Three blocks that stay: two slices, a span. -/
def Boxes (B1 B2 B3 : Nat) (v1 v2 : Value) (s1 s2 : Int) (W : World) : Prop := (Blk W B1 41 #[v1] ∧ Blk W B2 41 #[v2]) ∧ Blk W B3 40 #[.int .i64 s1, .int .i64 s2]
theorem Boxes.cells {B1 B2 B3 : Nat} {v1 v2 : Value} {s1 s2 : Int} {W : World} (h : Boxes B1 B2 B3 v1 v2 s1 s2 W) :
    W.cell? ⟨B1, 0, none⟩ = some v1 ∧ W.cell? ⟨B2, 0, none⟩ = some v2 ∧ W.cell? ⟨B3, 0, none⟩ = some (.int .i64 s1) ∧ W.cell? ⟨B3, 1, none⟩ = some (.int .i64 s2) := ⟨h.1.1.cell 0, h.1.2.cell 0, h.2.cell 0, h.2.cell 1⟩
theorem Boxes.drew {B1 B2 B3 : Nat} {v1 v2 : Value} {s1 s2 : Int} {W : World} (h : Boxes B1 B2 B3 v1 v2 s1 s2 W) : Boxes B1 B2 B3 v1 v2 s1 s2 W.drew := h
theorem Boxes.alloc {B1 B2 B3 : Nat} {v1 v2 : Value} {s1 s2 : Int} {W : World} (h : Boxes B1 B2 B3 v1 v2 s1 s2 W) (o : Obj) : Boxes B1 B2 B3 v1 v2 s1 s2 (W.alloc o) := ⟨⟨h.1.1.alloc o, h.1.2.alloc o⟩, h.2.alloc o⟩
theorem Boxes.grown {B1 B2 B3 base n : Nat} {v1 v2 v : Value} {s1 s2 : Int} {W W' : World} {l : List Sp} (h : Boxes B1 B2 B3 v1 v2 s1 s2 W) (hr : OwnSp W base v n l) (hB : B3 < base) (hg : W.grownBy W' v.ownBlock) : Boxes B1 B2 B3 v1 v2 s1 s2 W' := by
  have hne : 41 ≠ 40 := by decide
  exact ⟨⟨h.1.1.kept hg (h.1.1.not_row hne hr), h.1.2.kept hg (h.1.2.not_row hne hr)⟩, h.2.kept hg (fun e => hr.low _ (Or.inl hB) e.symm)⟩
end Go.Proofs.Ytipljkegmhclkaa
