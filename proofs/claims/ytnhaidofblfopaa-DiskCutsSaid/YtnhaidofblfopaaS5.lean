/-
  A file's step is a step of the disk's: in memory, and in what it stands for. Conditions: none.
-/
import Derived.Test.YtnhaidofblfopaaL5
import Derived.Test.YtnhaidofblfopaaH5
namespace Go.Proofs.Ytnhaidofblfopaa
open Go.RowKit

/-- The blocks of a disk. -/
def ownS (B : Nat) (vF : Value) (L : List FR) : Nat → Prop := fun k => k = B ∨ vF.ownBlock = some k ∨ ∃ g ∈ L, g.S k
theorem DiskIn.ltS {w : World} {B room cnt fails : Nat} {vF : Value} {L : List FR} {dead : Bool} (h : DiskIn w B room vF L cnt fails dead) {k : Nat} (hk : ownS B vF L k) : k < w.heap.size := by
  rcases hk with rfl | h1 | ⟨f, hf, h1⟩
  · exact h.blk.lt
  · exact (h.row.1.lt k h1).2
  · exact (h.file f hf).lt k h1
theorem disk_step {w w' : World} {B room cnt fails : Nat} {vF : Value} {L1 L2 : List FR} {f f' : FR} {dead : Bool} (h : DiskIn w B room vF (L1 ++ f :: L2) cnt fails dead) (ha : Away f.S w f'.S w') (hf : FileAt w' f') (hG : f'.G = f.G) :
    DiskIn w' B room vF (L1 ++ f' :: L2) cnt fails dead ∧ Away (ownS B vF (L1 ++ f :: L2)) w (ownS B vF (L1 ++ f' :: L2)) w' := by
  have hmem : f ∈ L1 ++ f :: L2 := by simp
  have hpw := h.apart
  rw [List.pairwise_append, List.pairwise_cons] at hpw
  obtain ⟨p1, ⟨p2, p3⟩, p4⟩ := hpw
  have hoth : ∀ g, (g ∈ L1 ∨ g ∈ L2) → g ∈ L1 ++ f :: L2 ∧ ∀ k, g.S k → ¬ f.S k := fun g hg => by
    rcases hg with hg | hg
    · exact ⟨by simp [hg], p4 g hg f (by simp)⟩
    · exact ⟨by simp [hg], fun k h1 h2 => p2 g hg k h2 h1⟩
  have hnew : ∀ g, (g ∈ L1 ∨ g ∈ L2) → ∀ k, g.S k → ¬ f'.S k := fun g hg k hk hk' => by
    obtain ⟨h1, h2⟩ := hoth g hg
    rcases ha.mine k hk' with h3 | h3
    · exact h2 k hk h3
    · have := (h.file g h1).lt k hk
      omega
  have hcases : ∀ g, g ∈ L1 ++ f' :: L2 → g = f' ∨ (g ∈ L1 ∨ g ∈ L2) := fun g hg => by
    rcases List.mem_append.1 hg with hg | hg
    · exact Or.inr (Or.inl hg)
    · rcases List.mem_cons.1 hg with hg | hg
      · exact Or.inl hg
      · exact Or.inr (Or.inr hg)
  have hlen : (L1 ++ f' :: L2).length = (L1 ++ f :: L2).length := by simp
  have hflat : (L1 ++ f' :: L2).flatMap ptrV = (L1 ++ f :: L2).flatMap ptrV := by simp [ptrV, hG]
  refine ⟨⟨(ha.block B h.blk.lt (h.out f hmem).1).trans h.blk, ?_, fun g hg => ?_, ?_, fun g hg => ?_⟩, ⟨ha.os, ha.tape, ha.output, ha.size, fun k hk hS => ha.block k hk fun hf' => hS (Or.inr (Or.inr ⟨f, hmem, hf'⟩)), fun k hk => ?_⟩⟩
  · have := h.row.frame (w' := w') fun k hk => ha.block k (h.row.1.lt k hk).2 ((h.out f hmem).2 k hk)
    rw [hlen]
    exact ⟨by rw [hflat]; exact this.1, hlen.trans this.2.1, this.2.2⟩
  · rcases hcases g hg with rfl | hg
    · exact hf
    · obtain ⟨h1, h2⟩ := hoth g hg
      exact (h.file g h1).frame fun k hk => ha.block k ((h.file g h1).lt k hk) (h2 k hk)
  · rw [List.pairwise_append, List.pairwise_cons]
    refine ⟨p1, ⟨fun g hg k hk hk' => hnew g (Or.inr hg) k hk' hk, p3⟩, fun g hg g' hg' => ?_⟩
    rcases List.mem_cons.1 hg' with rfl | hg'
    · exact hnew g (Or.inl hg)
    · exact p4 g hg g' (by simp [hg'])
  · rcases hcases g hg with rfl | hg
    · refine ⟨fun hk => ?_, fun k hk hk' => ?_⟩
      · rcases ha.mine B hk with h3 | h3
        · exact (h.out f hmem).1 h3
        · have := h.blk.lt
          omega
      · rcases ha.mine k hk' with h3 | h3
        · exact (h.out f hmem).2 k hk h3
        · have := (h.row.1.lt k hk).2
          omega
    · exact h.out g (hoth g hg).1
  · rcases hk with rfl | h1 | ⟨g, hg, h1⟩
    · exact Or.inl (Or.inl rfl)
    · exact Or.inl (Or.inr (Or.inl h1))
    · rcases hcases g hg with rfl | hg
      · rcases ha.mine k h1 with h3 | h3
        · exact Or.inl (Or.inr (Or.inr ⟨f, hmem, h3⟩))
        · exact Or.inr h3
      · exact Or.inl (Or.inr (Or.inr ⟨g, (hoth g hg).1, h1⟩))
/-! What the names give. -/
theorem fget_iff {l : List (Nm × FileM)} (hn : (l.map (·.1)).Nodup) (s : Nm) (v : FileM) : fget l s = some v ↔ (s, v) ∈ l := by
  induction l with
  | nil => simp [fget]
  | cons x r ih =>
    rw [List.map_cons, List.nodup_cons] at hn
    have ih := ih hn.2
    unfold fget at ih ⊢
    by_cases hx : x.1 = s
    · rw [List.find?_cons_of_pos (by simp [hx]), Option.map_some]
      constructor
      · intro e
        cases e
        rw [← hx]
        simp
      · intro h
        rcases List.mem_cons.1 h with h | h
        · rw [← h]
        · exact absurd (List.mem_map.2 ⟨_, h, hx.symm⟩) hn.1
    · rw [List.find?_cons_of_neg (by simp [hx]), ih]
      constructor
      · exact fun h => List.mem_cons_of_mem _ h
      · intro h
        rcases List.mem_cons.1 h with h | h
        · rw [← h] at hx
          exact absurd rfl hx
        · exact h
def fmOf (f : FR) : Nm × FileM := (f.name, ⟨f.now, f.dur⟩)
theorem names_nodup {L : List FR} (h : L.Pairwise fun f g => nmLt f.name g.name) : (L.map FR.name).Nodup :=
  List.pairwise_map.2 (h.imp fun {a b} h' (e : a.name = b.name) => by rw [e] at h'; exact nm_irrefl _ h')
theorem fm_nodup {L : List FR} (h : L.Pairwise fun f g => nmLt f.name g.name) : ((L.map fmOf).map (·.1)).Nodup := by
  rw [List.map_map]
  exact names_nodup h
section
variable {D : Dsk} {room cnt fails : Nat} {L : List FR} {dead : Bool}
theorem Rel.fn (h : Rel D room L cnt fails dead) : (D.files.map (·.1)).Nodup := (h.perm.map _).nodup_iff.2 (fm_nodup h.rise)
theorem Rel.get (h : Rel D room L cnt fails dead) {f : FR} (hf : f ∈ L) : fget D.files f.name = some ⟨f.now, f.dur⟩ :=
  (fget_iff h.fn _ _).2 (h.perm.mem_iff.2 (List.mem_map.2 ⟨f, hf, rfl⟩))
theorem Rel.none (h : Rel D room L cnt fails dead) {s : Nm} : fget D.files s = Option.none ↔ ∀ f ∈ L, f.name ≠ s := by
  constructor
  · intro e f hf hs
    have := h.get hf
    rw [hs, e] at this
    cases this
  · intro hs
    cases hv : fget D.files s with
    | none => rfl
    | some v =>
      obtain ⟨f, hf, he⟩ := List.mem_map.1 (h.perm.mem_iff.1 ((fget_iff h.fn _ _).1 hv))
      cases he
      exact absurd rfl (hs f hf)
theorem Rel.there (h : Rel D room L cnt fails dead) {s : Nm} {v : FileM} (e : fget D.files s = some v) : ∃ f ∈ L, f.name = s ∧ v = ⟨f.now, f.dur⟩ := by
  obtain ⟨f, hf, he⟩ := List.mem_map.1 (h.perm.mem_iff.1 ((fget_iff h.fn _ _).1 e))
  cases he
  exact ⟨f, hf, rfl, rfl⟩
theorem Rel.len (h : Rel D room L cnt fails dead) : D.files.length = L.length := by rw [h.perm.length_eq, List.length_map]
theorem Rel.used (h : Rel D room L cnt fails dead) : usedF D.files = (L.map fun f => f.now.length).sum := by
  unfold usedF
  rw [(h.perm.map _).sum_nat, List.map_map]
  rfl
end
theorem fset_map {L1 L2 : List FR} {f : FR} (h : (L1 ++ f :: L2).Pairwise fun f g => nmLt f.name g.name) (v : FileM) : fset ((L1 ++ f :: L2).map fmOf) f.name v = (L1.map fmOf) ++ (f.name, v) :: L2.map fmOf := by
  rw [List.pairwise_append, List.pairwise_cons] at h
  obtain ⟨_, ⟨p2, _⟩, p4⟩ := h
  unfold fset
  rw [List.map_append, List.map_cons, List.map_append, List.map_cons]
  have e1 : ∀ K : List FR, (∀ g ∈ K, g.name ≠ f.name) → (K.map fmOf).map (fun x => if x.1 = f.name then (f.name, v) else x) = K.map fmOf := fun K hK => by
    rw [List.map_map]
    apply List.map_congr_left
    intro g hg
    exact if_neg (hK g hg)
  rw [e1 L1 fun g hg e => nm_irrefl _ (e ▸ p4 g hg f (by simp)), e1 L2 fun g hg e => nm_irrefl _ (e ▸ p2 g hg)]
  simp [fmOf]
theorem fdel_map {L1 L2 : List FR} {f : FR} (h : (L1 ++ f :: L2).Pairwise fun f g => nmLt f.name g.name) : fdel ((L1 ++ f :: L2).map fmOf) f.name = (L1 ++ L2).map fmOf := by
  rw [List.pairwise_append, List.pairwise_cons] at h
  obtain ⟨_, ⟨p2, _⟩, p4⟩ := h
  unfold fdel
  rw [List.map_append, List.map_cons, List.filter_append, List.map_append]
  have e1 : ∀ K : List FR, (∀ g ∈ K, g.name ≠ f.name) → (K.map fmOf).filter (fun x => !decide (x.1 = f.name)) = K.map fmOf := fun K hK => by
    rw [List.filter_eq_self]
    intro x hx
    obtain ⟨g, hg, rfl⟩ := List.mem_map.1 hx
    simp [fmOf, hK g hg]
  rw [List.filter_cons_of_neg (by simp [fmOf]), e1 L1 fun g hg e => nm_irrefl _ (e ▸ p4 g hg f (by simp)), e1 L2 fun g hg e => nm_irrefl _ (e ▸ p2 g hg)]
theorem fset_perm {l m : List (Nm × FileM)} (h : l.Perm m) (s : Nm) (v : FileM) : (fset l s v).Perm (fset m s v) := h.map _
theorem fdel_perm {l m : List (Nm × FileM)} (h : l.Perm m) (s : Nm) : (fdel l s).Perm (fdel m s) := h.filter _
end Go.Proofs.Ytnhaidofblfopaa
