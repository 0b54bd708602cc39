/-
  The oldest item evicted (package lru). Conditions: the keys rise, what items are ordered after is there.
-/
import Derived.Test.YthmkmhfoicfapaaLk
namespace Go.Proofs.Ythmkmhfoicfapaa
open Go.RowKit Go.Maps
set_option linter.unusedVariables false

theorem write_keys (its : List It) (ks : List Int) : (writeL its ks).map It.key = its.map It.key := by
  unfold writeL endR
  rw [List.map_map]
  exact clean_keys its _
theorem same_place {L L' : List IR} (hg : L'.map IR.G = L.map IR.G) (hk : (L'.map IR.it).map It.key = (L.map IR.it).map It.key) {f : IR} (hf : f ∈ L) : ∃ g ∈ L', g.G = f.G ∧ g.key = f.key := by
  obtain ⟨i, hi⟩ := List.getElem?_of_mem hf
  have hl : i < L.length := (List.getElem?_eq_some_iff.1 hi).1
  have hlen : L'.length = L.length := by simpa using congrArg List.length hg
  obtain ⟨g, hgi⟩ : ∃ g, L'[i]? = some g := ⟨_, List.getElem?_eq_getElem (by omega)⟩
  refine ⟨g, List.mem_of_getElem? hgi, ?_, ?_⟩
  · have := congrArg (fun l : List Nat => l[i]?) hg
    simpa [List.getElem?_map, hgi, hi] using this
  · have := congrArg (fun l : List Int => l[i]?) hk
    simpa [List.getElem?_map, hgi, hi] using this
def EvictQ (B room uses : Nat) (vI : Value) (L : List IR) (w : World) (e : Ending) (w' : World) : Prop :=
  ∃ (a : Option Addr) (c : Nat) (vI' : Value) (L' : List IR), e = .returned (.slice a (evictL (L.map IR.it)).1.length c) ∧ OwnG ivV 3 1 w' w.heap.size (.slice a (evictL (L.map IR.it)).1.length c) (evictL (L.map IR.it)).1.length (evictL (L.map IR.it)).1 ∧
    CacheIn w' B room vI' L' uses ∧ L'.map IR.it = (evictL (L.map IR.it)).2 ∧ Away (ownS B vI L) w (ownS B vI' L') w' ∧ ∀ k, (Value.slice a (evictL (L.map IR.it)).1.length c).ownBlock = some k → ¬ ownS B vI' L' k
set_option maxRecDepth 100000 in
set_option maxHeartbeats 1000000 in
theorem evict_any {w : World} {B room uses : Nat} {vI : Value} {x : IR} {r : List IR} (hb : Base0 w B room uses vI (x :: r)) :
    Calls Try.prog 37 #[.pointer (some ⟨B, 0, none⟩)] w (EvictQ B room uses vI (x :: r) w) := by
  have hmem := minF_mem r x
  have hit := minF_it r x
  have c1 : w.cell? ⟨B, 1, none⟩ = some vI := hb.c.c1
  have HMIN := Lib.hid (min_any hb.c.row hb.many (fun f hf => (hb.c.item f hf).c2))
  obtain ⟨f, hfn⟩ := named (minF r x)
  rw [hfn.out] at hmem hit HMIN
  have HB0 : Hid (∀ q, Base0 (w.drewN q) B room uses vI (x :: r)) := fun q => ⟨hb.c.frame fun _ _ => rfl, hb.rise, hb.many, hb.closed, hb.kr⟩
  obtain ⟨aI, cI, rfl, _, _, _⟩ := hb.c.row.shape ptr_rowed
  have HFM := Lib.hid hmem
  have hfc := hb.c.item f hmem
  have hev : evictL ((x :: r).map IR.it) = if f.it.dirty then (linesL ((x :: r).map IR.it) [f.it.key], delIt (writeL ((x :: r).map IR.it) [f.it.key]) f.it.key) else ([], delIt ((x :: r).map IR.it) f.it.key) := by
    show (if (oldest (r.map IR.it) x.it).dirty then _ else _) = _
    rw [← hit]
    rfl
  have HRISE := Lib.hid hb.rise
  have hmany := hb.many
  unfold EvictQ
  obtain ⟨its, hits⟩ := named ((x :: r).map IR.it)
  have HFP : Hid (∃ y ∈ its, y.key = f.it.key) := ⟨f.it, by rw [← hits.out]; exact List.mem_map.2 ⟨f, hmem, rfl⟩, rfl⟩
  rw [hits.out] at hev
  have HITS := Lib.hid hits.out
  cases hd : f.it.dirty with
  | false =>
    rw [hd, if_neg (by simp)] at hev
    have c3 : ∀ q, (w.drewN q).cell? ⟨f.G, 3, none⟩ = some (.bool false) := fun q => by rw [← hd]; exact hfc.c3
    have c0 : ∀ q, (w.drewN q).cell? ⟨f.G, 0, none⟩ = some (.int .i64 f.key) := fun q => hfc.c0
    have HREM : Hid (∀ q, Calls Try.prog 48 #[.pointer (some ⟨B, 0, none⟩), .int .i64 f.key] (w.drewN q) (RemQ B room uses _ (x :: r) f.key (w.drewN q))) := fun q => remove_any (HB0.out q).c hb.rise hb.many hmem
    obtain ⟨K, hK⟩ := named f.key
    rw [show f.it.key = K from hK.out] at hev HFP
    rw [hK.out] at c0 HREM
    rw [hits.out, hev]
    clear hb hmem hit hfc hd hev
    go_enter Try.func37, Try.ntmps37
    go_wp2_with (first
      | (go_at_call 60; refine HMIN.out.mono ?_; rintro e w1 ⟨rfl, q, rfl⟩; have c3q := c3 q; have c0q := c0 q)
      | (go_at_call 48; refine (HREM.out q).mono ?_; rintro e w2 ⟨rfl, vI', L', q1, q2, q3, _⟩; have Q1 := Lib.hid q1; have Q2 := Lib.hid q2; have Q3 := Lib.hid q3; clear q1 q2 q3))
    go_ret
    exact ⟨none, 0, vI', L', rfl, OwnG.none _ _ _ _ _, Q1.out, by rw [Q2.out, hits.out], (Away.of_below (below_drewN (Below.refl _ _) q)).trans Q3.out, fun k hk => by cases hk⟩
  | true =>
    rw [hd, if_pos rfl] at hev
    have c3 : ∀ q, (w.drewN q).cell? ⟨f.G, 3, none⟩ = some (.bool true) := fun q => by rw [← hd]; exact hfc.c3
    have c0 : ∀ q, (w.drewN q).cell? ⟨f.G, 0, none⟩ = some (.int .i64 f.key) := fun q => hfc.c0
    have HWR : Hid (∀ q, Calls Try.prog 42 #[.pointer (some ⟨B, 0, none⟩), .slice (some ⟨w.heap.size, 0, none⟩) 1 1] ((w.drewN q).alloc (.cells #[.int .i64 f.key] 3)) (WriteQ B room uses _ (x :: r) [f.key] ((w.drewN q).alloc (.cells #[.int .i64 f.key] 3)))) := fun q => by
      have h1 := HB0.out q
      refine write_any ⟨h1.c.later ((Below.refl _ _).alloc (Nat.le_refl _) _), h1.rise, h1.many, h1.closed, h1.kr⟩ (one_reads (w.drewN q) f.key #[.int .i64 f.key] 3 rfl) (fun k hk => ?_) (by omega)
      obtain rfl : k = f.key := by simpa using hk
      exact ⟨f.it, List.mem_map.2 ⟨f, hmem, rfl⟩, rfl⟩
    have HAFT : Hid (∀ (w2 : World) (L2 : List IR), CacheIn w2 B room (.slice aI (x :: r).length cI) L2 uses → L2.map IR.it = writeL its [f.key] → L2.map IR.G = (x :: r).map IR.G → w2.cell? ⟨f.G, 0, none⟩ = some (.int .i64 f.key) ∧ Calls Try.prog 48 #[.pointer (some ⟨B, 0, none⟩), .int .i64 f.key] w2 (RemQ B room uses (.slice aI (x :: r).length cI) L2 f.key w2)) := fun w2 L2 hc hi hg => by
      have hkeys : (L2.map IR.it).map It.key = ((x :: r).map IR.it).map It.key := by rw [hi, write_keys, HITS.out]
      obtain ⟨g, hgm, e1, e2⟩ := same_place hg hkeys HFM.out
      have h1 := (hc.item g hgm).c0
      rw [e1, e2] at h1
      have h2 := remove_any hc (rises_keys HRISE.out hkeys) (by have := congrArg List.length hg; rw [List.length_map, List.length_map] at this; omega) hgm
      rw [e2] at h2
      exact ⟨h1, h2⟩
    unfold WriteQ at HWR
    rw [hits.out] at HWR
    obtain ⟨K, hK⟩ := named f.key
    rw [show f.it.key = K from hK.out] at hev HFP
    rw [hK.out] at c0 HWR HAFT
    obtain ⟨l, hl⟩ := named (linesL its [K])
    rw [hits.out, hev]
    rw [hl.out] at HWR ⊢
    obtain ⟨m, hm⟩ := named l.length
    dsimp only
    rw [hm.out] at HWR ⊢
    clear hb hmem hit hfc hd hev HB0
    go_enter Try.func37, Try.ntmps37
    go_wp2_with (first
      | (go_at_call 60; refine HMIN.out.mono ?_; rintro e w1 ⟨rfl, q, rfl⟩; have c3q := c3 q; have c0q := c0 q)
      | (go_at_call 42; refine (HWR.out q).mono ?_; rintro e w2 ⟨a2, c2, L2, rfl, p1, p2, p3, p4, p5, p6⟩; have P1 := Lib.hid p1; have P4 := Lib.hid p4; have P6 := Lib.hid p6; have P2 := Lib.hid p2; obtain ⟨c02, hrm⟩ := HAFT.out w2 L2 p2 p3 p5; have HRM := Lib.hid hrm; have P3 := Lib.hid p3; clear p1 p2 p3 p4 p5 p6 hrm)
      | (go_at_call 48; refine HRM.out.mono ?_; rintro e w3 ⟨rfl, vI', L', q1, q2, q3, _⟩; have Q1 := Lib.hid q1; have Q2 := Lib.hid q2; have Q3 := Lib.hid q3; clear q1 q2 q3))
    go_ret
    have hA := ((Away.of_below (S := ownS B (.slice aI (x :: r).length cI) (x :: r)) (below_drewN (Below.refl _ _) q)).trans (Away.of_below ((Below.refl (w.drewN q).heap.size (w.drewN q)).alloc (Nat.le_refl _) (.cells #[.int .i64 K] 3)))).trans P4.out
    have hs1 : (World.alloc (w.drewN q) (.cells #[.int .i64 K] 3)).heap.size = w.heap.size + 1 := World.size_alloc _ _
    refine ⟨a2, c2, vI', L', rfl, (P1.out.frame fun k hk => Q3.out.block k (P1.out.1.lt k hk).2 (P6.out k hk)).rebase (by rw [hs1]; omega), Q1.out, by rw [Q2.out, P3.out], hA.trans Q3.out, fun k hk h => ?_⟩
    rcases Q3.out.mine k h with h1 | h1
    · exact P6.out k hk h1
    · have := (P1.out.1.lt k hk).2
      omega
end Go.Proofs.Ythmkmhfoicfapaa
