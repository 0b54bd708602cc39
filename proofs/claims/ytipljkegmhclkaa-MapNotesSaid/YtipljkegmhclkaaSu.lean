/-
  What the reference's Touch and Size answer (layers 12, 13). Conditions: the bitmaps read, short sets.
-/
import Derived.Test.YtipljkegmhclkaaSt
namespace Go.Proofs.Ytipljkegmhclkaa
open Go.RowKit
set_option linter.unusedVariables false

def touchF (sp : Sp) (b : BmM) : BmM := (b.1, b.2.1, if b.2.1 then addL b.2.2 sp else b.2.2)
def sizeF (was now : Int) (b : BmM) : BmM := (b.1, b.2.1, if b.2.1 = true ∧ was < now then addL (subL b.2.2 (now, 1073741824)) (was, now) else subL b.2.2 (now, 1073741824))
/-- Bitmaps of one's own, those ahead of a place and those from it on. -/
structure Rw (w0 : World) (a : Option Addr) (n c : Nat) (pre post : List Bm) (W : World) : Prop where
  row : OwnG bmV 43 3 W w0.heap.size (.slice a n c) n (pre ++ post)
  sps : ∀ d ∈ pre ++ post, SpN W w0.heap.size d.2.2.1 d.2.2.2.1 d.2.2.2.2.1 (bmL d)
  dat : Below w0.heap.size w0 W
section
variable {w0 W W' : World} {a : Option Addr} {n c : Nat} {pre post : List Bm}
theorem Rw.later (h : Rw w0 a n c pre post W) (hb : Below W.heap.size W W') : Rw w0 a n c pre post W' :=
  have k := KeepL.later L6 hb
  ⟨h.row.keep (L := L6) (by decide) k, fun d hd => (h.sps d hd).keep (L := L6) (by decide) k, h.dat.trans (hb.mono h.dat.size)⟩
theorem Rw.shift {d : Bm} (h : Rw w0 a n c pre (d :: post) W) : Rw w0 a n c (pre ++ [d]) post W := by
  have e : pre ++ [d] ++ post = pre ++ d :: post := by simp
  exact ⟨by rw [e]; exact h.row, by rw [e]; exact h.sps, h.dat⟩
theorem Rw.put {nm : ByteArray} {on : Bool} {al : Option Addr} {ll cl : Nat} {l : List Sp} {j g : Nat} (h : Rw w0 a n c pre ((nm, on, al, ll, cl, l) :: post) W) (hj : pre.length = j) (ha : a = some ⟨g, 0, none⟩) {al' : Option Addr} {ll' cl' : Nat} {l' : List Sp} (hs : SpN W w0.heap.size al' ll' cl' l') :
    Rw w0 a n c pre ((nm, on, al', ll', cl', l') :: post) (W.setCell ⟨g, j * 3 + 2, none⟩ (.slice al' ll' cl')) := by
  subst ha
  have hd : (pre ++ (nm, on, al, ll, cl, l) :: post)[j]? = some (nm, on, al, ll, cl, l) := by rw [List.getElem?_append_right (by omega), hj, Nat.sub_self]; rfl
  obtain ⟨q1, q2⟩ := own_setK bm_rowed h.row j 2 _ (nm, on, al', ll', cl', l') hd (.slice al' ll' cl') (by omega) rfl
  have e : (pre ++ (nm, on, al, ll, cl, l) :: post).set j (nm, on, al', ll', cl', l') = pre ++ (nm, on, al', ll', cl', l') :: post := by
    rw [List.set_append_right _ _ (by omega), hj, Nat.sub_self]
    rfl
  rw [e] at q1
  have k : KeepL L5b W _ := OwnG.keepL (L := L5b) h.row (by decide) q2
  refine ⟨q1, fun d hd' => ?_, belowRow h.dat q2 (h.row.1.lt g rfl).1 h.dat.size⟩
  rcases List.mem_append.1 hd' with hd' | hd'
  · exact (h.sps d (List.mem_append_left _ hd')).keep (L := L5b) (by decide) k
  · rcases List.mem_cons.1 hd' with rfl | hd'
    · exact hs.keep (L := L5b) (by decide) k
    · exact (h.sps d (by simp [hd'])).keep (L := L5b) (by decide) k
/-- The bitmap at the place. -/
theorem Rw.at {d : Bm} {j : Nat} (h : Rw w0 a n c pre (d :: post) W) (hj : pre.length = j) : j < n ∧ ∃ g, a = some ⟨g, 0, none⟩ ∧ w0.heap.size ≤ g ∧ g < W.heap.size ∧ W.cell? ⟨g, j * 3, none⟩ = some (.string d.1) ∧ W.cell? ⟨g, j * 3 + 1, none⟩ = some (.bool d.2.1) ∧ W.cell? ⟨g, j * 3 + 2, none⟩ = some (.slice d.2.2.1 d.2.2.2.1 d.2.2.2.2.1) ∧ W.frozen? ⟨g, j * 3 + 2, none⟩ = false := by
  have hl := h.row.2.1
  have hjn : j < n := by rw [← hl, List.length_append, List.length_cons]; omega
  obtain ⟨g, d', rfl, h1, h2, hd, ⟨x0, x1, x2⟩, hf, _⟩ := own3_at bm_rowed h.row j hjn
  rw [List.getElem?_append_right (by omega), hj, Nat.sub_self] at hd
  cases hd
  exact ⟨hjn, g, rfl, h1, h2, x0, x1, x2, hf _⟩
end
end Go.Proofs.Ytipljkegmhclkaa
