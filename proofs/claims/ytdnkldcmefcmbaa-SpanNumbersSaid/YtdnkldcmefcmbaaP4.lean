/-
  Plain mathematics of sectors by clusters, and lists of pieces in memory. Condition: none.
-/
import Derived.Test.YtdnkldcmefcmbaaT4
namespace Go.Proofs.Ytdnkldcmefcmbaa
open Go.RowKit

abbrev Pc := Int × Int × Int
/-- Sectors by clusters of m, from one sector on. -/
def splitGo (m : Nat) : Nat → Nat → Nat → List Pc
  | 0, _, _ => []
  | f + 1, at', n => if n = 0 then [] else (((at' / m : Nat) : Int), ((at' % m : Nat) : Int), ((min n (m - at' % m) : Nat) : Int)) :: splitGo m f (at' + min n (m - at' % m)) (n - min n (m - at' % m))
def splitBad (at' n c : Int) : Prop := c < 0 ∨ 6 < c ∨ at' < 0 ∨ 4096 < at' ∨ n < 0 ∨ 4096 < n
instance (at' n c : Int) : Decidable (splitBad at' n c) := by unfold splitBad; infer_instance
def splitL (at' n c : Int) : List Pc × Int := if splitBad at' n c then ([], 1) else (splitGo (2 ^ c.toNat) n.toNat at'.toNat n.toNat, 0)
theorem splitGo_len (m : Nat) (hm : 0 < m) : ∀ (f at' n : Nat), (splitGo m f at' n).length ≤ f
  | 0, _, _ => by simp [splitGo]
  | f + 1, at', n => by
    unfold splitGo
    split
    · simp
    · have := splitGo_len m hm f (at' + min n (m - at' % m)) (n - min n (m - at' % m))
      simp
      omega
/-- The cells of a piece. -/
def pcCells (s : Pc) : List Value := [.int .i64 s.1, .int .i64 s.2.1, .int .i64 s.2.2]
theorem pc_rowed : Rowed Try.prog 32 47 3 24 pcCells where
  under := Try.underlying32
  info := by
    have h : (Try.prog.info? 47).map (fun i => (i.zero, i.size, i.bytes)) = some (some (.agg #[.int .i64 0, .int .i64 0, .int .i64 0]), 3, 24) := by kernel_rfl
    obtain ⟨i, hi, hz⟩ := Option.map_eq_some_iff.1 h
    simp only [Prod.mk.injEq] at hz
    exact ⟨i, _, hi, hz.1, hz.2.1, hz.2.2, rfl⟩
  pos := by decide
  small := by decide
  len := fun _ => rfl
  one := fun x u hu => by
    simp only [pcCells, List.mem_cons, List.not_mem_nil, or_false] at hu
    rcases hu with rfl | rfl | rfl <;> rfl
abbrev Pieces (w : World) (a : Option Addr) (len : Nat) (l : List Pc) : Prop := Reads pcCells w a len l
abbrev OwnPc (w : World) (base : Nat) (v : Value) (n : Nat) (l : List Pc) : Prop := OwnG pcCells 47 3 w base v n l
def pcAt (l : List Pc) (i : Nat) : Pc := l.getD i (0, 0, 0)
theorem pcAt_some (l : List Pc) (i : Nat) (h : i < l.length) : l[i]? = some (pcAt l i) := by
  unfold pcAt
  rw [List.getD_eq_getElem?_getD, List.getElem?_eq_getElem h]
  rfl
theorem piece_cells {w : World} {b off len : Nat} {l : List Pc} (h : Pieces w (some ⟨b, off, none⟩) len l) (i : Nat) (hi : i < len) :
    w.cell? ⟨b, off + i * 3, none⟩ = some (.int .i64 (pcAt l i).1) ∧ w.cell? ⟨b, off + i * 3 + 1, none⟩ = some (.int .i64 (pcAt l i).2.1) ∧ w.cell? ⟨b, off + i * 3 + 2, none⟩ = some (.int .i64 (pcAt l i).2.2) := by
  have hs := pcAt_some l i (by rw [h.1]; exact hi)
  exact ⟨h.cellAt pc_rowed i 0 _ _ hs rfl, h.cellAt pc_rowed i 1 _ _ hs rfl, h.cellAt pc_rowed i 2 _ _ hs rfl⟩
/-- What 'Split' hands back. -/
def PcPost (w0 : World) (L : List Pc) (err : Int) (e : Ending) (w : World) : Prop :=
  ∃ a c, e = .returned (.tuple #[.slice a L.length c, .int .i64 err]) ∧ Pieces w a L.length L ∧ ((a = none → c = 0) ∧ L.length ≤ c) ∧ Below w0.heap.size w0 w
theorem PcPost.named {w0 : World} {L : List Pc} {err : Int} {e : Ending} {w : World} (h : PcPost w0 L err e w) {n : Nat} (hn : L.length = n) :
    ∃ a c, e = .returned (.tuple #[.slice a n c, .int .i64 err]) ∧ Pieces w a n L ∧ ((a = none → c = 0) ∧ n ≤ c) ∧ Below w0.heap.size w0 w := by
  subst hn
  exact h
theorem PcPost.own {w0 w : World} {L : List Pc} {err : Int} {a : Option Addr} {n c base : Nat} (h : OwnPc w base (.slice a n c) n L) (hb : Below w0.heap.size w0 w) : PcPost w0 L err (.returned (.tuple #[.slice a n c, .int .i64 err])) w := by
  have hl := h.2.1
  obtain ⟨h1, h2, h3⟩ := h.reads pc_rowed
  subst hl
  exact ⟨a, c, rfl, h1, ⟨h2, h3⟩, hb⟩
/-- An int. -/
def I64 (x : Int) : Prop := -9223372036854775808 ≤ x ∧ x ≤ 9223372036854775807
theorem i64_wf {n : Int} (h : (Lit.int .i64 n).wf = true) : I64 n := bounds_i64 h
def SpFit (l : List Sp) : Prop := ∀ x ∈ l, I64 x.1 ∧ I64 x.2
theorem Rt.fit : ∀ {lo : Int} {l : List Sp}, Rt lo l → -1 ≤ lo → SpFit l
  | _, [], _, _ => fun x hx => by cases hx
  | lo, y :: r, h, hlo => fun x hx => by
    have h1 := h.1
    have h2 := h.2.1
    have h3 := h.2.2.1
    rcases List.mem_cons.1 hx with rfl | hx
    · unfold I64
      omega
    · exact Rt.fit h.2.2.2 (by omega) x hx
theorem fit_of {l : List Sp} {len : Nat} (hl : l.length = len) (h : ∀ i, i < len → (Lit.int .i64 (spAt l i).1).wf = true ∧ (Lit.int .i64 (spAt l i).2).wf = true) : SpFit l := fun x hx => by
  obtain ⟨i, hi, rfl⟩ := List.getElem_of_mem hx
  have e : spAt l i = l[i] := by
    have := spAt_some l i hi
    rw [List.getElem?_eq_getElem hi] at this
    injection this with this
    exact this.symm
  obtain ⟨g1, g2⟩ := h i (by omega)
  rw [e] at g1 g2
  exact ⟨i64_wf g1, i64_wf g2⟩
end Go.Proofs.Ytdnkldcmefcmbaa
