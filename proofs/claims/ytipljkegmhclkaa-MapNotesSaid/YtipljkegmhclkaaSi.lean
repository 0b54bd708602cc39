/-
  What keeps the rows of some types, in one step (layer 12). Conditions: none.
-/
import Derived.Test.YtipljkegmhclkaaSg
namespace Go.Proofs.Ytipljkegmhclkaa
open Go.RowKit
set_option linter.unusedVariables false

/-- All blocks of these types are as they were. -/
def KeepL (L : List TypeId) (w w' : World) : Prop := ∀ (k : Nat) (cs : Array Value) (t : TypeId) (fr : Nat × Nat), t ∈ L → w.heap[k]? = some (.cells cs t fr) → w'.heap[k]? = some (.cells cs t fr)
theorem KeepL.refl (L : List TypeId) (w : World) : KeepL L w w := fun _ _ _ _ _ h => h
theorem KeepL.trans {L : List TypeId} {a b c : World} (h : KeepL L a b) (k : KeepL L b c) : KeepL L a c := fun i cs t fr ht hh => k i cs t fr ht (h i cs t fr ht hh)
theorem KeepL.weak {L L' : List TypeId} {a b : World} (h : KeepL L a b) (hs : ∀ t ∈ L', t ∈ L) : KeepL L' a b := fun i cs t fr ht hh => h i cs t fr (hs t ht) hh
theorem KeepL.grown {L : List TypeId} {w w' : World} {row : Option Nat} (hg : w.grownBy w' row) (ho : ∀ t ∈ L, Off w row t) : KeepL L w w' := fun k cs t fr ht hh => by
  have hlt : k < w.heap.size := (Array.getElem?_eq_some_iff.1 hh).1
  refine (hg.block k hlt fun e => ?_).trans hh
  exact ho t ht k _ e.symm hh cs fr rfl
theorem KeepL.later {w w' : World} (L : List TypeId) (hb : Below w.heap.size w w') : KeepL L w w' := KeepL.grown (grown_of_below hb) fun t _ => Off.none w t
theorem Blk.keepL {w w' : World} {Y : Nat} {ty : TypeId} {cs : Array Value} (hY : Blk w Y ty cs) {L : List TypeId} (h : ty ∉ L) (hg : w.grownBy w' (some Y)) : KeepL L w w' := KeepL.grown hg fun t ht => hY.off fun e => h (e ▸ ht)
theorem OwnG.keepL {α : Type} {cv : α → List Value} {e : TypeId} {sz : Nat} {w w' : World} {base n : Nat} {v : Value} {l : List α} (hv : OwnG cv e sz w base v n l) {L : List TypeId} (h : e ∉ L) (hg : w.grownBy w' v.ownBlock) : KeepL L w w' := KeepL.grown hg fun t ht => OwnG.off hv fun e' => h (e' ▸ ht)
theorem OwnG.keep {α : Type} {cv : α → List Value} {e : TypeId} {sz : Nat} {w w' : World} {base n : Nat} {v : Value} {l : List α} (h : OwnG cv e sz w base v n l) {L : List TypeId} (he : e ∈ L) (k : KeepL L w w') : OwnG cv e sz w' base v n l := by
  obtain ⟨⟨h1, h2⟩, h3⟩ := h
  refine ⟨⟨h1, ?_⟩, h3⟩
  rcases h2 with h2 | ⟨g, cap, cur, e', hg, hh, r⟩
  · exact Or.inl h2
  · exact Or.inr ⟨g, cap, cur, e', hg, k _ _ _ _ he hh, r⟩
abbrev L2 : List TypeId := [69, 72]
abbrev L5 : List TypeId := [69, 72, 43, 40, 3]
abbrev L6 : List TypeId := [69, 72, 43, 40, 3, 62]
section
variable {w w' : World} {base len cap : Nat} {F G : Nat → Prop} {a : Option Addr} {L : List TypeId}
theorem TabF.keep {T : Tb} (h : TabF w base F a len cap T) (h1 : 69 ∈ L) (h2 : 72 ∈ L) (k : KeepL L w w') : TabF w' base F a len cap T := by
  obtain ⟨es, hq, hr⟩ := h
  exact ⟨es, ⟨hq.out.keep h1 k, fun d hd => ⟨(hq.leaf d hd).1.keep h2 k, (hq.leaf d hd).2⟩, hq.apart⟩, hr⟩
theorem TabN.keep {T : Tb} (h : TabN w base a len cap T) (h1 : 69 ∈ L) (h2 : 72 ∈ L) (k : KeepL L w w') : TabN w' base a len cap T := by
  obtain ⟨es, hq, hr⟩ := h
  exact ⟨es, ⟨hq.out.keep h1 k, fun d hd => ⟨(hq.leaf d hd).1.keep h2 k, (hq.leaf d hd).2⟩, hq.apart⟩, hr⟩
theorem SpN.keep {l : List Sp} (h : SpN w base a len cap l) (h1 : 40 ∈ L) (k : KeepL L w w') : SpN w' base a len cap l := ⟨h.1.keep h1 k, h.2⟩
theorem BmsN.keep {B : List BmM} (h : BmsN w base a len cap B) (h1 : 43 ∈ L) (h2 : 40 ∈ L) (k : KeepL L w w') : BmsN w' base a len cap B := by
  obtain ⟨ds, k1, k2, k3⟩ := h
  exact ⟨ds, k1.keep h1 k, fun d hd => (k2 d hd).keep h2 k, k3⟩
theorem IntsN.keep {K : List Int} (h : IntsN w base a len cap K) (h1 : 3 ∈ L) (k : KeepL L w w') : IntsN w' base a len cap K := ⟨h.1.keep h1 k, h.2⟩
theorem ShsN.keep {S : List ShM} (h : ShsN w base F a len cap S) (h0 : 62 ∈ L) (h1 : 69 ∈ L) (h2 : 72 ∈ L) (k : KeepL L w w') : ShsN w' base F a len cap S := by
  obtain ⟨ds, k1, k2, k3⟩ := h
  exact ⟨ds, k1.keep h0 k, fun d hd => (k2 d hd).keep h1 h2 k, k3⟩
theorem MetaN.keep {x : Mt} {M : MM} (h : MetaN w base F G x M) (k : KeepL L6 w w') : MetaN w' base F G x M :=
  ⟨h.hc, h.hs, h.hbk, h.T.keep (by decide) (by decide) k, h.S.keep (by decide) (by decide) (by decide) k, h.B.keep (by decide) (by decide) k, h.K.keep (by decide) k⟩
end
theorem results_cell_tmp {P : Program} {fn : Func} {p q : Tmp} {ty : TypeId} (h : fn.results = #[.cell p ty, .tmp q]) (tmps : Array Value) (w : World) (g : Nat) (t : TypeId) (cs : Array Value) (fr : Nat × Nat) (d : TypeDesc)
    (hp : tmps.getD p undef = .pointer (some ⟨g, 0, none⟩)) (v : Value) (hv : tmps.getD q undef = v) (hg : w.heap[g]? = some (.cells cs t fr))
    (hu : P.underlying ty = some d) (hd : (match d with | .struct _ | .array _ _ => true | _ => false) = true) (hi : (P.info? ty).map (·.size) = some cs.size) :
    (results fn tmps).run P w = .ok (.tuple #[.agg cs, v]) w := by
  have hp' : tmps[p]?.getD undef = .pointer (some ⟨g, 0, none⟩) := by simpa using hp
  have hv' : tmps[q]?.getD undef = v := by simpa using hv
  simp [results, h, hp', hv', asAddr, run_loadVar_row w g t ty cs fr d hg hu hd hi]
def Out (lo hi : Nat) : Nat → Prop := fun k => k < lo ∨ hi ≤ k
theorem Out.of_from {lo hi k : Nat} (h : From hi k) : Out lo hi k := Or.inr h
end Go.Proofs.Ytipljkegmhclkaa
