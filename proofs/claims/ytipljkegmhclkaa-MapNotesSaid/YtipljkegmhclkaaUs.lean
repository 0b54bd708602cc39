/-
  Steps that came in, and what they make of two bitmaps (MapNotes). Conditions: none.
-/
import Derived.Test.YtipljkegmhclkaaVa
import Derived.Lib.SmallJoins
import Derived.Deep.Slices
import Derived.Laws.CopyRow
namespace Go.Proofs.Ytipljkegmhclkaa
open Go.RowKit Go.ChangeShapes Go.WideShapes Go.Deep
set_option linter.unusedVariables false
set_option maxRecDepth 100000

/-- A step's cells: Do, Which, From, To. -/
abbrev StA := Int × Bool × Int × Int
def stV (x : StA) : List Value := [.int .i64 x.1, .bool x.2.1, .int .u8 x.2.2.1, .int .u8 x.2.2.2]
def stOk (x : StA) : Prop := I64 x.1 ∧ (0 ≤ x.2.2.1 ∧ x.2.2.1 < 256) ∧ 0 ≤ x.2.2.2 ∧ x.2.2.2 < 256
/-- Steps that came in. -/
structure StepsIn (w : World) (a : Option Addr) (len : Nat) (g : Nat → StA) : Prop where
  big : len ≤ 9223372036854775807
  rows : 0 < len → ∃ b off, a = some ⟨b, off, none⟩ ∧ b < w.heap.size ∧ ∀ i, i < len → ∀ j v, (stV (g i))[j]? = some v → w.cell? ⟨b, off + (i * 4 + j), none⟩ = some v
  ok : ∀ i, i < len → stOk (g i)
section
variable {H : Type} {enc : TypeId × Value → H} {W : World} {base : Nat} {held : Bool}
theorem st_of_trod {fuel : Nat} {cs : List Value} {x : DataW H × List MemPlace} (hlen : cs.length = 4) (hf : DataW.trod enc Try.prog W base (fun _ => true) held fuel 53 cs = some x) : ∃ g : StA, cs = stV g ∧ stOk g := by
  obtain ⟨xs, q, _, _, _, hxl, hx⟩ := DataW.trod_struct Try.underlying53 hf
  have hl : xs.length = 4 := hxl
  have ci : Try.prog.cellsOf 3 = 1 := by kernel_rfl
  have cb : Try.prog.cellsOf 4 = 1 := by kernel_rfl
  have cu : Try.prog.cellsOf 5 = 1 := by kernel_rfl
  match cs, hlen with
  | [c0, c1, c2, c3], _ =>
    obtain ⟨y0, g0⟩ := some_at (xs := xs) 0 (by omega)
    obtain ⟨y1, g1⟩ := some_at (xs := xs) 1 (by omega)
    obtain ⟨y2, g2⟩ := some_at (xs := xs) 2 (by omega)
    obtain ⟨y3, g3⟩ := some_at (xs := xs) 3 (by omega)
    obtain ⟨k, e0, _, w0⟩ := DataW.trod_int Try.underlying3 ((hx 0 _ rfl).trans g0)
    obtain ⟨b, e1, _⟩ := DataW.trod_bool Try.underlying4 ((hx 1 _ rfl).trans g1)
    obtain ⟨f, e2, _, w2⟩ := DataW.trod_int Try.underlying5 ((hx 2 _ rfl).trans g2)
    obtain ⟨t, e3, _, w3⟩ := DataW.trod_int Try.underlying5 ((hx 3 _ rfl).trans g3)
    obtain rfl : c0 = .int .i64 k := by simpa [ci] using e0
    obtain rfl : c1 = .bool b := by simpa [cb] using e1
    obtain rfl : c2 = .int .u8 f := by simpa [cu] using e2
    obtain rfl : c3 = .int .u8 t := by simpa [cu] using e3
    have b2 := bounds_u8 w2
    have b3 := bounds_u8 w3
    exact ⟨(k, b, f, t), rfl, bounds_i64 w0, (by dsimp only; omega), (by dsimp only; omega), (by dsimp only; omega)⟩
theorem steps_of_trod {fuel : Nat} {cs : List Value} {x : DataW H × List MemPlace} (hf : DataW.trod enc Try.prog W base (fun _ => true) held fuel 45 cs = some x) : ∃ a len cap, cs = [.slice a len cap] ∧ ∃ g, StepsIn W a len g := by
  have hc4 : Try.prog.cellsOf 53 = 4 := by kernel_rfl
  rcases open_slice Try.underlying45 hf with ⟨rfl, _⟩ | ⟨a, len, cap, m, n, D, Pl, rfl, hb, hl, hm, hmm, _, hx⟩
  · exact ⟨none, 0, 0, rfl, fun _ => (0, false, 0, 0), Nat.zero_le _, fun h => by omega, fun i hi => by omega⟩
  · have hmc : m = cap := by simpa using hmm
    subst hmc
    have one : ∀ i, i < len → ∃ g : StA, stOk g ∧ ∀ j v, (stV g)[j]? = some v → W.cell? (a.add (i * 4 + j)) = some v := fun i hi => by
      obtain ⟨cs', h1, h2⟩ := hx i (by omega)
      rw [hc4] at h1
      obtain ⟨_, hlen, hcell⟩ := World.cells?_some h1
      obtain ⟨g, he, hp⟩ := st_of_trod hlen h2
      refine ⟨g, hp, fun j v hv => ?_⟩
      have hj : j < 4 := (List.getElem?_eq_some_iff.1 hv).1
      have := hcell j (by omega)
      rw [he, Go.Deep.add_add, hv] at this
      exact this
    obtain ⟨g, hg⟩ := choose_lt (α := StA) one
    refine ⟨some a, len, m, rfl, g, by unfold maxLen at hm; omega, fun h0 => ?_, fun i hi => (hg i hi).1⟩
    obtain ⟨b, off, spot⟩ := a
    have hc := (hg 0 h0).2 0 _ rfl
    have hspot : spot = none := by simpa [Addr.add] using World.cell?_spot hc
    subst hspot
    refine ⟨b, off, rfl, block_lt_of_cell hc, fun i hi j v hv => ?_⟩
    have := (hg i hi).2 j v hv
    rwa [add_none] at this
theorem steps_open {a : Option Addr} {len cap : Nat} {d : DataW H} {p : List MemPlace} (h : DataW.Trod enc Try.prog W base (fun _ => true) held 45 (.slice a len cap) d p) : ∃ g, StepsIn W a len g := by
  obtain ⟨fuel, hf⟩ := h
  obtain ⟨a', len', cap', he, hg⟩ := steps_of_trod hf
  simp [Value.cells] at he
  obtain ⟨rfl, rfl, rfl⟩ := he
  exact hg
end
/-- A step's cells, as they are loaded. -/
theorem StepsIn.at {w w' : World} {a : Option Addr} {len : Nat} {g : Nat → StA} (h : StepsIn w a len g) (hb : Below w.heap.size w w') (i : Nat) (hi : i < len) : ∃ b off d wh f t, a = some ⟨b, off, none⟩ ∧ g i = (d, wh, f, t) ∧ I64 d ∧ (0 ≤ f ∧ f < 256) ∧ (0 ≤ t ∧ t < 256) ∧
    w'.cell? ⟨b, off + i * 4, none⟩ = some (.int .i64 d) ∧ w'.cell? ⟨b, off + i * 4 + 1, none⟩ = some (.bool wh) ∧ w'.cell? ⟨b, off + i * 4 + 2, none⟩ = some (.int .u8 f) ∧ w'.cell? ⟨b, off + i * 4 + 3, none⟩ = some (.int .u8 t) := by
  obtain ⟨b, off, rfl, hlt, hc⟩ := h.rows (by omega)
  have ho := h.ok i hi
  have hx : ∀ j v, (stV (g i))[j]? = some v → w'.cell? ⟨b, off + i * 4 + j, none⟩ = some v := fun j v hv => by
    rw [Nat.add_assoc]
    exact (hb.cell (p := ⟨b, off + (i * 4 + j), none⟩) hlt).trans (hc i hi j v hv)
  obtain ⟨⟨d, wh, f, t⟩, hg⟩ : ∃ x, g i = x := ⟨_, rfl⟩
  rw [hg] at hx ho
  exact ⟨b, off, d, wh, f, t, rfl, hg, ho.1, ho.2.1, ho.2.2, hx 0 _ rfl, hx 1 _ rfl, hx 2 _ rfl, hx 3 _ rfl⟩
/-- Six hundred flags of one's own. -/
def HasM (W : World) (X : Nat) (h : Nat → Bool) : Prop := ∃ cs : Array Value, Blk W X 49 cs ∧ cs.size = 600 ∧ ∀ i, i < 600 → cs[i]? = some (.bool (h i))
def updB (h : Nat → Bool) (i : Nat) (b : Bool) : Nat → Bool := fun j => if j = i then b else h j
theorem HasM.cell {W : World} {X : Nat} {h : Nat → Bool} (H : HasM W X h) (i : Nat) (hi : i < 600) : W.cell? ⟨X, i, none⟩ = some (.bool (h i)) ∧ W.frozen? ⟨X, i, none⟩ = false := by
  obtain ⟨cs, h1, h2, h3⟩ := H
  exact ⟨by rw [h1.cell]; exact h3 i hi, h1.free i⟩
theorem HasM.set {W : World} {X : Nat} {h : Nat → Bool} (H : HasM W X h) (i : Nat) (hi : i < 600) (b : Bool) : HasM (W.setCell ⟨X, i, none⟩ (.bool b)) X (updB h i b) := by
  obtain ⟨cs, h1, h2, h3⟩ := H
  refine ⟨_, h1.set i (.bool b), by rw [Array.size_setIfInBounds]; exact h2, fun j hj => ?_⟩
  unfold updB
  rw [Array.getElem?_setIfInBounds]
  by_cases e : i = j
  · subst e
    rw [if_pos rfl, if_pos (by omega), if_pos rfl]
  · rw [if_neg e, if_neg (fun e' => e e'.symm)]
    exact h3 j hj
theorem HasM.later {W W' : World} {X : Nat} {h : Nat → Bool} (H : HasM W X h) (hb : Below W.heap.size W W') : HasM W' X h := by
  obtain ⟨cs, h1, h2⟩ := H
  exact ⟨cs, h1.later hb, h2⟩
def falses600 : Array Value := Array.replicate 600 (.bool false)
theorem falses_zero (w : World) : (zeroValue 49).run Try.prog w = .ok (.agg falses600) w := by kernel_rfl
theorem HasM.first (w : World) : HasM (w.alloc (.cells falses600 49)) w.heap.size (fun _ => false) :=
  ⟨falses600, Blk.new _ _ _, by unfold falses600; rw [Array.size_replicate], fun i hi => by unfold falses600; rw [Array.getElem?_replicate, if_pos hi]⟩
/-- Two bitmaps, and what should be in them. -/
def txB : ByteArray := ⟨#[98]⟩
theorem txB_ok : nameOk txB := by decide +kernel
def BB (o0 : Bool) (l0 : List Sp) (o1 : Bool) (l1 : List Sp) : List BmM := [(txA, o0, l0), (txB, o1, l1)]
structure Noted (l0 l1 : List Sp) (h : Nat → Bool) : Prop where
  r0 : Rt (-1) l0
  r1 : Rt (-1) l1
  m0 : ∀ n, inL l0 n → n < 300
  m1 : ∀ n, inL l1 n → n < 300
  e0 : ∀ n : Nat, n < 300 → hasB l0 n = h n
  e1 : ∀ n : Nat, n < 300 → hasB l1 n = h (300 + n)
theorem rt_lenN : ∀ {lo : Int} (l : List Sp), Rt lo l → ∀ K : Int, lo ≤ K → (∀ n, inL l n → n < K) → (l.length : Int) ≤ K - lo
  | lo, [], _, K, h, _ => by simp; omega
  | lo, x :: r, h, K, _, hn => by
    have h1 := h.1
    have h2 := h.2.1
    have h3 := hn (x.2 - 1) ((inL_cons x r _).2 (Or.inl ⟨by omega, by omega⟩))
    have h4 := rt_lenN r h.2.2.2 K (by omega) (fun n g => hn n ((inL_cons x r n).2 (Or.inr g)))
    rw [List.length_cons]
    omega
theorem Noted.len {l0 l1 : List Sp} {f : Nat → Bool} (h : Noted l0 l1 f) : l0.length ≤ 301 ∧ l1.length ≤ 301 := by
  have h1 := rt_lenN l0 h.r0 300 (by omega) h.m0
  have h2 := rt_lenN l1 h.r1 300 (by omega) h.m1
  omega
def clrH (w : Nat) (h : Nat → Bool) : Nat → Bool := fun i => if w * 300 ≤ i ∧ i < w * 300 + 300 then false else h i
theorem not_nil (n : Int) : ¬ inL [] n := fun hn => by obtain ⟨x, hx, _⟩ := hn; cases hx
theorem Noted.first : Noted [] [] (fun _ => false) := ⟨trivial, trivial, fun n hn => absurd hn (not_nil n), fun n hn => absurd hn (not_nil n), fun n hn => rfl, fun n hn => rfl⟩
theorem Noted.clear0 {l0 l1 : List Sp} {h : Nat → Bool} (H : Noted l0 l1 h) : Noted [] l1 (clrH 0 h) :=
  ⟨trivial, H.r1, fun n hn => absurd hn (not_nil n), H.m1, fun n hn => by unfold clrH; rw [if_pos (by omega)]; rfl, fun n hn => by unfold clrH; rw [if_neg (by omega)]; exact H.e1 n hn⟩
theorem Noted.clear1 {l0 l1 : List Sp} {h : Nat → Bool} (H : Noted l0 l1 h) : Noted l0 [] (clrH 1 h) :=
  ⟨H.r0, trivial, H.m0, fun n hn => absurd hn (not_nil n), fun n hn => by unfold clrH; rw [if_neg (by omega)]; exact H.e0 n hn, fun n hn => by unfold clrH; rw [if_pos (by omega)]; rfl⟩
theorem addAll : ∀ {lo : Int} (l m : List Sp), Rt lo l → -1 ≤ lo → Rt (-1) m → Rt (-1) (l.foldl addL m) ∧ ∀ n, inL (l.foldl addL m) n ↔ inL m n ∨ inL l n
  | _, [], m, _, _, hm => ⟨hm, fun n => ⟨Or.inl, fun h => h.elim id fun h => absurd h (not_nil n)⟩⟩
  | lo, x :: r, m, h, hlo, hm => by
    have h1 := h.1
    have h2 := h.2.1
    have h3 := h.2.2.1
    have hmay : mayB x = true := by rw [mayB_iff]; omega
    obtain ⟨g1, g2⟩ := addAll r (addL m x) h.2.2.2 (by omega) (addL_right m x)
    rw [List.foldl_cons]
    refine ⟨g1, fun n => ?_⟩
    rw [g2, addL_in _ _ hmay, norm_of hm, inL_cons]
    constructor
    · rintro ((a | a) | a)
      · exact Or.inl a
      · exact Or.inr (Or.inl a)
      · exact Or.inr (Or.inr a)
    · rintro (a | a | a)
      · exact Or.inl (Or.inl a)
      · exact Or.inl (Or.inr a)
      · exact Or.inr a
theorem has_or {a b c : List Sp} {n : Int} (h : inL c n ↔ inL a n ∨ inL b n) : hasB c n = (hasB a n || hasB b n) := by
  rw [Bool.eq_iff_iff, Bool.or_eq_true, hasB_iff, hasB_iff, hasB_iff]
  exact h
/-- The flags where one half takes the other in, as far as j. -/
def mrgH (w : Nat) (j : Nat) (h : Nat → Bool) : Nat → Bool := fun i => if w * 300 ≤ i ∧ i < w * 300 + j then h i || h ((1 - w) * 300 + (i - w * 300)) else h i
theorem Noted.merge0 {l0 l1 : List Sp} {h : Nat → Bool} (H : Noted l0 l1 h) : Noted (l1.foldl addL l0) l1 (mrgH 0 300 h) := by
  obtain ⟨g1, g2⟩ := addAll l1 l0 H.r1 (by omega) H.r0
  refine ⟨g1, H.r1, fun n hn => ?_, H.m1, fun n hn => ?_, fun n hn => ?_⟩
  · rcases (g2 n).1 hn with a | a
    · exact H.m0 n a
    · exact H.m1 n a
  · rw [has_or (g2 _), H.e0 n hn, H.e1 n hn]
    unfold mrgH
    rw [if_pos (by omega)]
    rw [show (1 - 0) * 300 + (n - 0 * 300) = 300 + n by omega]
  · unfold mrgH
    rw [if_neg (by omega)]
    exact H.e1 n hn
theorem Noted.merge1 {l0 l1 : List Sp} {h : Nat → Bool} (H : Noted l0 l1 h) : Noted l0 (l0.foldl addL l1) (mrgH 1 300 h) := by
  obtain ⟨g1, g2⟩ := addAll l0 l1 H.r0 (by omega) H.r1
  refine ⟨H.r0, g1, H.m0, fun n hn => ?_, fun n hn => ?_, fun n hn => ?_⟩
  · rcases (g2 n).1 hn with a | a
    · exact H.m1 n a
    · exact H.m0 n a
  · unfold mrgH
    rw [if_neg (by omega)]
    exact H.e0 n hn
  · rw [has_or (g2 _), H.e0 n hn, H.e1 n hn]
    unfold mrgH
    rw [if_pos (by omega)]
    rw [show (1 - 1) * 300 + (300 + n - 1 * 300) = n by omega]
/-- The flags where a span is touched, as far as j. -/
def tchH (o0 o1 : Bool) (f j : Nat) (h : Nat → Bool) : Nat → Bool := fun i => if f ≤ i ∧ i < j then h i || o0 else if 300 + f ≤ i ∧ i < 300 + j then h i || o1 else h i
def tchL (o : Bool) (l : List Sp) (s : Sp) : List Sp := if o then addL l s else l
theorem tchL_in {o : Bool} {l : List Sp} {f t : Nat} (hl : Rt (-1) l) (h1 : f < t) (h2 : t ≤ 300) : Rt (-1) (tchL o l (f, t)) ∧ ((∀ n, inL l n → n < 300) → ∀ n, inL (tchL o l (f, t)) n → n < 300) ∧ ∀ n : Nat, hasB (tchL o l (f, t)) n = if f ≤ n ∧ n < t then (hasB l n || o) else hasB l n := by
  have hmay : mayB ((f : Int), (t : Int)) = true := by rw [mayB_iff]; dsimp only; omega
  unfold tchL
  cases o with
  | false =>
    rw [if_neg Bool.false_ne_true]
    refine ⟨hl, fun h => h, fun n => ?_⟩
    rw [Bool.or_false]
    split <;> rfl
  | true =>
    rw [if_pos rfl]
    have hin := addL_in l _ hmay
    rw [norm_of hl] at hin
    refine ⟨addL_right _ _, fun h n hn => ?_, fun n => ?_⟩
    · rcases (hin n).1 hn with a | a
      · exact h n a
      · dsimp only at a; omega
    · rw [Bool.eq_iff_iff, hasB_iff, hin]
      dsimp only
      by_cases e : f ≤ n ∧ n < t
      · rw [if_pos e, Bool.or_true]
        exact ⟨fun _ => rfl, fun _ => Or.inr (by omega)⟩
      · rw [if_neg e, hasB_iff]
        exact ⟨fun h => h.elim id fun g => absurd g (by omega), Or.inl⟩
theorem Noted.touch {l0 l1 : List Sp} {h : Nat → Bool} (H : Noted l0 l1 h) (o0 o1 : Bool) {f t : Nat} (h1 : f < t) (h2 : t ≤ 300) : Noted (tchL o0 l0 (f, t)) (tchL o1 l1 (f, t)) (tchH o0 o1 f t h) := by
  obtain ⟨a1, a2, a3⟩ := tchL_in (o := o0) H.r0 h1 h2
  obtain ⟨b1, b2, b3⟩ := tchL_in (o := o1) H.r1 h1 h2
  refine ⟨a1, b1, a2 H.m0, b2 H.m1, fun n hn => ?_, fun n hn => ?_⟩
  · rw [a3, H.e0 n hn]
    unfold tchH
    by_cases e : f ≤ n ∧ n < t
    · rw [if_pos e, if_pos e]
    · rw [if_neg e, if_neg e, if_neg (by omega)]
  · rw [b3, H.e1 n hn]
    unfold tchH
    by_cases e : f ≤ n ∧ n < t
    · rw [if_pos e, if_neg (by omega), if_pos (by omega)]
    · rw [if_neg e, if_neg (by omega), if_neg (by omega)]
theorem mrgH_zero (w : Nat) (h : Nat → Bool) : mrgH w 0 h = h := by
  funext i
  unfold mrgH
  rw [if_neg (by omega)]
theorem mrgH_step (w : Nat) (hw : w ≤ 1) (j : Nat) (hj : j < 300) (h : Nat → Bool) : updB (mrgH w j h) (w * 300 + j) (mrgH w j h (w * 300 + j) || mrgH w j h ((1 - w) * 300 + j)) = mrgH w (j + 1) h := by
  have e1 : mrgH w j h (w * 300 + j) = h (w * 300 + j) := by unfold mrgH; rw [if_neg (by omega)]
  have e2 : mrgH w j h ((1 - w) * 300 + j) = h ((1 - w) * 300 + j) := by
    unfold mrgH
    rw [if_neg]
    have : w = 0 ∨ w = 1 := by omega
    rcases this with rfl | rfl <;> omega
  rw [e1, e2]
  funext i
  unfold updB mrgH
  by_cases e : i = w * 300 + j
  · subst e
    rw [if_pos rfl, if_pos (by omega), show w * 300 + j - w * 300 = j by omega]
  · rw [if_neg e]
    by_cases e3 : w * 300 ≤ i ∧ i < w * 300 + j
    · rw [if_pos e3, if_pos (by omega)]
    · rw [if_neg e3, if_neg (by omega)]
theorem tchH_zero (o0 o1 : Bool) (f : Nat) (h : Nat → Bool) : tchH o0 o1 f f h = h := by
  funext i
  unfold tchH
  rw [if_neg (by omega), if_neg (by omega)]
theorem tchH_step (o0 o1 : Bool) (f j : Nat) (hf : f ≤ j) (hj : j < 300) (h : Nat → Bool) : updB (updB (tchH o0 o1 f j h) j (tchH o0 o1 f j h j || o0)) (300 + j) (updB (tchH o0 o1 f j h) j (tchH o0 o1 f j h j || o0) (300 + j) || o1) = tchH o0 o1 f (j + 1) h := by
  have e1 : tchH o0 o1 f j h j = h j := by unfold tchH; rw [if_neg (by omega), if_neg (by omega)]
  have e2 : updB (tchH o0 o1 f j h) j (h j || o0) (300 + j) = h (300 + j) := by unfold updB tchH; rw [if_neg (by omega), if_neg (by omega), if_neg (by omega)]
  rw [e1, e2]
  funext i
  unfold updB tchH
  by_cases e : i = 300 + j
  · subst e
    rw [if_pos rfl, if_neg (by omega), if_pos (by omega)]
  · rw [if_neg e]
    by_cases e3 : i = j
    · subst e3
      rw [if_pos rfl, if_pos (by omega)]
    · rw [if_neg e3]
      by_cases e5 : 300 + f ≤ i ∧ i < 300 + j
      · rw [if_neg (by omega : ¬ (f ≤ i ∧ i < j)), if_pos e5, if_neg (by omega : ¬ (f ≤ i ∧ i < j + 1)), if_pos (by omega)]
      · by_cases e4 : f ≤ i ∧ i < j
        · rw [if_pos e4, if_pos (by omega : f ≤ i ∧ i < j + 1)]
        · rw [if_neg e4, if_neg e5, if_neg (by omega : ¬ (f ≤ i ∧ i < j + 1)), if_neg (by omega)]
/-- What the calls make of the two. -/
theorem fndA (o0 : Bool) (l0 : List Sp) (o1 : Bool) (l1 : List Sp) : fndB txA (BB o0 l0 o1 l1) = 0 := by unfold BB fndB; rw [if_pos rfl]
theorem ab_ne : ¬ txA = txB := by decide
theorem fndBb (o0 : Bool) (l0 : List Sp) (o1 : Bool) (l1 : List Sp) : fndB txB (BB o0 l0 o1 l1) = 1 := by
  unfold BB fndB
  rw [if_neg ab_ne]
  unfold fndB
  rw [if_pos rfl]
  rfl
theorem bb_turn0 (o0 o1 b : Bool) (l0 l1 : List Sp) : turnB (BB o0 l0 o1 l1) txA b = (BB b l0 o1 l1, 0) := by unfold turnB; rw [fndA]; rfl
theorem bb_turn1 (o0 o1 b : Bool) (l0 l1 : List Sp) : turnB (BB o0 l0 o1 l1) txB b = (BB o0 l0 b l1, 0) := by unfold turnB; rw [fndBb]; rfl
theorem bb_clear0 (o0 o1 : Bool) (l0 l1 : List Sp) : clearB (BB o0 l0 o1 l1) txA = (BB o0 [] o1 l1, 0) := by unfold clearB; rw [fndA]; rfl
theorem bb_clear1 (o0 o1 : Bool) (l0 l1 : List Sp) : clearB (BB o0 l0 o1 l1) txB = (BB o0 l0 o1 [], 0) := by unfold clearB; rw [fndBb]; rfl
theorem bb_merge0 (o0 o1 : Bool) {l0 l1 : List Sp} (h : Rt (-1) l1) : mergeB (BB o0 l0 o1 l1) txA txB = (BB o0 (l1.foldl addL l0) o1 l1, 0) := by
  unfold mergeB
  rw [fndA, fndBb, if_neg (by omega)]
  show (List.modify _ _ _, _) = _
  simp only [show lAt (BB o0 l0 o1 l1) (Int.toNat 1) = l1 from rfl, if_pos h]
  rfl
theorem bb_merge1 (o0 o1 : Bool) {l0 l1 : List Sp} (h : Rt (-1) l0) : mergeB (BB o0 l0 o1 l1) txB txA = (BB o0 l0 o1 (l0.foldl addL l1), 0) := by
  unfold mergeB
  rw [fndA, fndBb, if_neg (by omega)]
  show (List.modify _ _ _, _) = _
  simp only [show lAt (BB o0 l0 o1 l1) (Int.toNat 0) = l0 from rfl, if_pos h]
  rfl
theorem bb_touch (o0 o1 : Bool) (l0 l1 : List Sp) (s : Sp) : (BB o0 l0 o1 l1).map (touchF s) = BB o0 (tchL o0 l0 s) o1 (tchL o1 l1 s) := rfl
theorem bb_first : addB [] txA = ([(txA, true, [])], 0) := addB_zero
theorem bb_second : addB [(txA, true, [])] txB = (BB true [] true [], 0) := addB_new txB_ok (by decide) (by decide)
/-- Between two steps: the flags' box X, the switches' and the names' behind it, the bitmaps. -/
structure Nt (w : World) (X : Nat) (h : Nat → Bool) (p0 p1 : Bool) (o0 : Bool) (l0 : List Sp) (o1 : Bool) (l1 : List Sp) (a : Option Addr) (c : Nat) (W : World) : Prop where
  has : HasM W X h
  on : Blk W (X + 1) 50 #[.bool p0, .bool p1]
  nm : Blk W (X + 2) 51 #[.string ⟨#[97]⟩, .string ⟨#[98]⟩]
  bs : ∃ b, BmsN W b a 2 c (BB o0 l0 o1 l1)
  dat : Below w.heap.size w W
  big : w.heap.size ≤ X
section
variable {w W W' : World} {X : Nat} {h : Nat → Bool} {p0 p1 o0 o1 : Bool} {l0 l1 : List Sp} {a : Option Addr} {c : Nat}
theorem Nt.later (H : Nt w X h p0 p1 o0 l0 o1 l1 a c W) (hb : Below W.heap.size W W') : Nt w X h p0 p1 o0 l0 o1 l1 a c W' := by
  obtain ⟨b, hB⟩ := H.bs
  exact ⟨H.has.later hb, H.on.later hb, H.nm.later hb, ⟨b, hB.later hb⟩, H.dat.trans (hb.mono H.dat.size), H.big⟩
theorem Nt.d (H : Nt w X h p0 p1 o0 l0 o1 l1 a c W) : BmsD W a 2 c (BB o0 l0 o1 l1) := by
  obtain ⟨b, hB⟩ := H.bs
  exact hB.d
theorem Nt.setH (H : Nt w X h p0 p1 o0 l0 o1 l1 a c W) (i : Nat) (hi : i < 600) (v : Bool) : Nt w X (updB h i v) p0 p1 o0 l0 o1 l1 a c (W.setCell ⟨X, i, none⟩ (.bool v)) := by
  obtain ⟨b, hB⟩ := H.bs
  obtain ⟨cs, h1, h2, h3⟩ := id H.has
  exact ⟨H.has.set i hi v, H.on.other (by omega) _, H.nm.other (by omega) _, ⟨b, hB.off (h1.off (by decide)) (h1.off (by decide)) (grownBy_setCell4 _ _ _ _)⟩, H.dat.setCell H.big _, H.big⟩
theorem Nt.setOn0 (H : Nt w X h p0 p1 o0 l0 o1 l1 a c W) (v : Bool) : Nt w X h v p1 o0 l0 o1 l1 a c (W.setCell ⟨X + 1, 0, none⟩ (.bool v)) := by
  obtain ⟨b, hB⟩ := H.bs
  obtain ⟨cs, h1, h2, h3⟩ := H.has
  exact ⟨⟨cs, h1.other (by omega) _, h2, h3⟩, H.on.set 0 _, H.nm.other (by omega) _, ⟨b, hB.off (H.on.off (by decide)) (H.on.off (by decide)) (grownBy_setCell4 _ _ _ _)⟩, H.dat.setCell (by have := H.big; show _ ≤ X + 1; omega) _, H.big⟩
theorem Nt.setOn1 (H : Nt w X h p0 p1 o0 l0 o1 l1 a c W) (v : Bool) : Nt w X h p0 v o0 l0 o1 l1 a c (W.setCell ⟨X + 1, 1, none⟩ (.bool v)) := by
  obtain ⟨b, hB⟩ := H.bs
  obtain ⟨cs, h1, h2, h3⟩ := H.has
  exact ⟨⟨cs, h1.other (by omega) _, h2, h3⟩, H.on.set 1 _, H.nm.other (by omega) _, ⟨b, hB.off (H.on.off (by decide)) (H.on.off (by decide)) (grownBy_setCell4 _ _ _ _)⟩, H.dat.setCell (by have := H.big; show _ ≤ X + 1; omega) _, H.big⟩
theorem Nt.half (H : Nt w X h p0 p1 o0 l0 o1 l1 a c W) {h' : Nat → Bool} (hh : HasM W' X h') (hg : W.grownBy W' (some X)) : Nt w X h' p0 p1 o0 l0 o1 l1 a c W' := by
  obtain ⟨b, hB⟩ := H.bs
  obtain ⟨cs, h1, h2, h3⟩ := id H.has
  exact ⟨hh, H.on.kept hg (fun e => by have := Option.some.inj e; omega), H.nm.kept hg (fun e => by have := Option.some.inj e; omega), ⟨b, hB.off (h1.off (by decide)) (h1.off (by decide)) hg⟩, belowRow H.dat hg H.big H.dat.size, H.big⟩
theorem Nt.cells (H : Nt w X h p0 p1 o0 l0 o1 l1 a c W) : (W.cell? ⟨X + 1, 0, none⟩ = some (.bool p0) ∧ W.cell? ⟨X + 1, 1, none⟩ = some (.bool p1)) ∧ (W.frozen? ⟨X + 1, 0, none⟩ = false ∧ W.frozen? ⟨X + 1, 1, none⟩ = false) ∧ W.cell? ⟨X + 1 + 1, 0, none⟩ = some (.string ⟨#[97]⟩) ∧ W.cell? ⟨X + 1 + 1, 1, none⟩ = some (.string ⟨#[98]⟩) :=
  ⟨⟨H.on.cell 0, H.on.cell 1⟩, ⟨H.on.free 0, H.on.free 1⟩, H.nm.cell 0, H.nm.cell 1⟩
def GivN (w : World) (X : Nat) (h : Nat → Bool) (p0 p1 o0 : Bool) (l0 : List Sp) (o1 : Bool) (l1 : List Sp) (e : Ending) (w' : World) : Prop := ∃ (a : Option Addr) (c : Nat), e = .returned (.tuple #[.slice a 2 c, .int .i64 0]) ∧ Nt w X h p0 p1 o0 l0 o1 l1 a c w'
theorem Nt.give (H : Nt w X h p0 p1 o0 l0 o1 l1 a c W) {B : List BmM × Int} {q0 q1 : Bool} {m0 m1 : List Sp} (hB : B = (BB q0 m0 q1 m1, 0)) {e : Ending} {w' : World} (hg : GiveB W B e w') : GivN w X h p0 p1 q0 m0 q1 m1 e w' := by
  subst hB
  obtain ⟨a', n', c', e1, e2, e3⟩ := hg
  obtain rfl : 2 = n' := e2.d.lens.1
  have hl := H.later e3
  exact ⟨a', c', e1, ⟨hl.has, hl.on, hl.nm, ⟨_, e2⟩, hl.dat, hl.big⟩⟩
theorem Nt.turn0 (H : Nt w X h p0 p1 o0 l0 o1 l1 a c W) (v : Bool) : Calls Try.prog 17 #[.slice a 2 c, .string ⟨#[97]⟩, .bool v] W (GivN w X h p0 p1 v l0 o1 l1) := (mapsTurn W a 2 c _ H.d txA v).mono fun e w' h' => H.give (bb_turn0 o0 o1 v l0 l1) h'
theorem Nt.turn1 (H : Nt w X h p0 p1 o0 l0 o1 l1 a c W) (v : Bool) : Calls Try.prog 17 #[.slice a 2 c, .string ⟨#[98]⟩, .bool v] W (GivN w X h p0 p1 o0 l0 v l1) := (mapsTurn W a 2 c _ H.d txB v).mono fun e w' h' => H.give (bb_turn1 o0 o1 v l0 l1) h'
theorem Nt.clear0 (H : Nt w X h p0 p1 o0 l0 o1 l1 a c W) : Calls Try.prog 18 #[.slice a 2 c, .string ⟨#[97]⟩] W (GivN w X h p0 p1 o0 [] o1 l1) := (mapsClear W a 2 c _ H.d txA).mono fun e w' h' => H.give (bb_clear0 o0 o1 l0 l1) h'
theorem Nt.clear1 (H : Nt w X h p0 p1 o0 l0 o1 l1 a c W) : Calls Try.prog 18 #[.slice a 2 c, .string ⟨#[98]⟩] W (GivN w X h p0 p1 o0 l0 o1 []) := (mapsClear W a 2 c _ H.d txB).mono fun e w' h' => H.give (bb_clear1 o0 o1 l0 l1) h'
theorem bb_lens (hl : l0.length ≤ 301 ∧ l1.length ≤ 301) : ∀ b ∈ BB o0 l0 o1 l1, b.2.2.length ≤ 301 := fun b hb => by
  unfold BB at hb
  rcases List.mem_cons.1 hb with rfl | hb
  · exact hl.1
  · obtain rfl := List.mem_singleton.1 hb
    exact hl.2
theorem Nt.merge0 (H : Nt w X h p0 p1 o0 l0 o1 l1 a c W) (hl : l0.length ≤ 301 ∧ l1.length ≤ 301) (hr : Rt (-1) l1) : Calls Try.prog 19 #[.slice a 2 c, .string ⟨#[97]⟩, .string ⟨#[98]⟩] W (GivN w X h p0 p1 o0 (l1.foldl addL l0) o1 l1) := (mapsMerge W a 2 c _ H.d (fun b hb => by have := bb_lens hl b hb; omega) txA txB).mono fun e w' h' => H.give (bb_merge0 o0 o1 hr) h'
theorem Nt.merge1 (H : Nt w X h p0 p1 o0 l0 o1 l1 a c W) (hl : l0.length ≤ 301 ∧ l1.length ≤ 301) (hr : Rt (-1) l0) : Calls Try.prog 19 #[.slice a 2 c, .string ⟨#[98]⟩, .string ⟨#[97]⟩] W (GivN w X h p0 p1 o0 l0 o1 (l0.foldl addL l1)) := (mapsMerge W a 2 c _ H.d (fun b hb => by have := bb_lens hl b hb; omega) txB txA).mono fun e w' h' => H.give (bb_merge1 o0 o1 hr) h'
theorem Nt.touch (H : Nt w X h p0 p1 o0 l0 o1 l1 a c W) (hl : l0.length ≤ 301 ∧ l1.length ≤ 301) (f t : Int) (h1 : I64 f) (h2 : I64 t) : Calls Try.prog 20 #[.slice a 2 c, .agg #[.int .i64 f, .int .i64 t]] W fun e w' => ∃ (a' : Option Addr) (c' : Nat), e = .returned (.slice a' 2 c') ∧ Nt w X h p0 p1 o0 (tchL o0 l0 (f, t)) o1 (tchL o1 l1 (f, t)) a' c' w' :=
  (mapsTouch W a 2 c _ H.d (fun b hb => by have := bb_lens hl b hb; omega) f t h1 h2).mono fun e w' ⟨a', c', e1, e2, e3⟩ => ⟨a', c', e1, ⟨(H.later e3).has, (H.later e3).on, (H.later e3).nm, ⟨_, bb_touch o0 o1 l0 l1 (f, t) ▸ e2⟩, (H.later e3).dat, H.big⟩⟩
end
def GivB (B : List BmM) (W : World) (e : Ending) (w' : World) : Prop := ∃ (a : Option Addr) (c : Nat), e = .returned (.tuple #[.slice a 2 c, .int .i64 0]) ∧ (∃ b, BmsN w' b a 2 c B) ∧ Below W.heap.size W w'
theorem GivB.of {W : World} {B : List BmM} {o0 o1 : Bool} {l0 l1 : List Sp} (hB : B = BB o0 l0 o1 l1) {e : Ending} {w' : World} (h : GiveB W (B, 0) e w') : GivB (BB o0 l0 o1 l1) W e w' := by
  obtain ⟨a', n', c', e1, e2, e3⟩ := h
  subst hB
  obtain rfl : 2 = n' := e2.d.lens.1
  exact ⟨a', c', e1, ⟨_, e2⟩, e3⟩
def falses300 : Array Value := Array.replicate 300 (.bool false)
theorem falses_zero3 (w : World) : (zeroValue 48).run Try.prog w = .ok (.agg falses300) w := by kernel_rfl
/-- A half of the flags is stored anew. -/
theorem run_half {W : World} {X : Nat} {h : Nat → Bool} (H : HasM W X h) (k : Nat) (hk : k ≤ 1) : ∃ W', (storeCells ⟨X, k * 300, none⟩ falses300.toList).run Try.prog W = .ok () W' ∧ HasM W' X (clrH k h) ∧ W.grownBy W' (some X) := by
  obtain ⟨cs, h1, h2, h3⟩ := H
  have hz : falses300.toList.length = 300 := by unfold falses300; simp
  have hrun := run_storeCells_at (P := Try.prog) X (k * 300) 49 falses300.toList 0 cs W h1 (by rw [hz]; omega) (fun v hv => by
    unfold falses300 at hv
    simp at hv
    rw [hv]
    rfl)
  obtain ⟨ar, har⟩ : ∃ ar, ar = (List.take (k * 300 + 0) cs.toList ++ falses300.toList ++ List.drop (k * 300 + 0 + falses300.toList.length) cs.toList).toArray := ⟨_, rfl⟩
  rw [← har] at hrun
  refine ⟨W.setRow X ar, hrun, ⟨ar, setRow_heap W X cs _ 49 (0, 0) h1, ?_, fun i hi => ?_⟩, ⟨rfl, rfl, rfl, by rw [setRow_size]; exact Nat.le_refl _, fun j _ hj => setRow_other W X j _ (fun e => hj (by rw [e]))⟩⟩
  · rw [har]
    simp only [List.size_toArray, List.length_append, List.length_take, List.length_drop, hz, Array.length_toList]
    omega
  · rw [har, List.getElem?_toArray, Nat.add_zero]
    unfold clrH
    by_cases c1 : i < k * 300
    · rw [if_neg (by omega), List.append_assoc, List.getElem?_append_left (by simp; omega), List.getElem?_take_of_lt c1, Array.getElem?_toList]
      exact h3 i hi
    · by_cases c2 : i < k * 300 + 300
      · rw [if_pos (by omega), List.getElem?_append_left (by simp [hz]; omega), List.getElem?_append_right (by simp; omega)]
        have e : i - (List.take (k * 300) cs.toList).length = i - k * 300 := by
          rw [List.length_take, Array.length_toList, Nat.min_eq_left (by omega)]
        rw [e]
        unfold falses300
        rw [Array.toList_replicate, List.getElem?_replicate, if_pos (by omega)]
      · rw [if_neg (by omega), List.getElem?_append_right (by simp [hz]; omega), List.getElem?_drop, Array.getElem?_toList]
        have e : k * 300 + falses300.toList.length + (i - (List.take (k * 300) cs.toList ++ falses300.toList).length) = i := by
          simp only [List.length_append, List.length_take, hz, Array.length_toList]
          omega
        rw [e]
        exact h3 i hi
/-- The two bitmaps at their places. -/
theorem bb_at {W : World} {a : Option Addr} {c : Nat} {o0 o1 : Bool} {l0 l1 : List Sp} (h : BmsD W a 2 c (BB o0 l0 o1 l1)) : ∃ b off a0 n0 c0 a1 n1 c1, a = some ⟨b, off, none⟩ ∧ b < W.heap.size ∧
    W.cell? ⟨b, off + 1, none⟩ = some (.bool o0) ∧ W.cell? ⟨b, off + 2, none⟩ = some (.slice a0 n0 c0) ∧ W.cell? ⟨b, off + 3 + 1, none⟩ = some (.bool o1) ∧ W.cell? ⟨b, off + 3 + 2, none⟩ = some (.slice a1 n1 c1) ∧ SpD W a0 n0 c0 l0 ∧ SpD W a1 n1 c1 l1 := by
  obtain ⟨b, off, nm', on', al, ll, cl, l', e1, e2, e3, _, x0, x1, x2, hs⟩ := h.at 0 (by omega)
  obtain ⟨b', off', nm1, on1, al1, ll1, cl1, l1', f1, f2, f3, _, y0, y1, y2, hs1⟩ := h.at 1 (by omega)
  subst e1
  cases f1
  cases Option.some.inj e2
  cases Option.some.inj f2
  exact ⟨b, off, al, ll, cl, al1, ll1, cl1, rfl, e3, x1, x2, y1, y2, hs, hs1⟩
end Go.Proofs.Ytipljkegmhclkaa
