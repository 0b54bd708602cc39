/-
  Mathematics of the reference's cache: what goes, Drop and After as wholes (layer 10). Conditions: as the theorems say.
-/
import Derived.Test.YthmkmhfoicfapaaMg
namespace Go.Proofs.Ythmkmhfoicfapaa
open Go.RowKit
set_option linter.unusedVariables false

theorem mkeys_nodup {its : List It} (h : its.Pairwise fun a b => a.key < b.key) : (its.map It.key).Nodup := by
  unfold List.Nodup
  rw [List.pairwise_map]
  exact h.imp fun hab e => by omega
theorem write_len (its : List It) (ks : List Int) : (writeL its ks).length = its.length := by
  unfold writeL endR cleanL
  rw [List.length_map, List.length_map]
theorem Lru.Ok.write {C : Lru} (h : ItsOk C.items C.uses) {ks : List Int} (hks : ∀ k ∈ ks, Present C.items k) : ItsOk (writeL C.items ks) C.uses := write_ok h ks hks
theorem rclean_keys (D : RC) (k : Int) : (cleanR D k).items.map RIt.key = D.items.map RIt.key := by
  show ((D.items.map fun x => if x.key = k then { x with dirty := false } else x).map RIt.key) = _
  rw [List.map_map]
  refine List.map_congr_left fun x _ => ?_
  simp only [Function.comp_def]
  split <;> rfl
theorem cleans_keys : ∀ (l : List Int) (D : RC), (l.foldl cleanR D).items.map RIt.key = D.items.map RIt.key
  | [], D => rfl
  | k :: r, D => by rw [List.foldl_cons, cleans_keys r, rclean_keys]
/-- What goes when there is no room: the first of the reference's list. -/
theorem Sim.evict {C : Lru} {D : RC} (h : Sim C D) (hc : ItsOk C.items C.uses) {x : It} {r : List It} (hi : C.items = x :: r) : ∃ (z : RIt) (t : List RIt), D.items = z :: t ∧
    (evictL C.items).1 = (if isDR D z.key then linesL C.items [z.key] else []) ∧
    Sim ⟨C.room, C.uses, (evictL C.items).2⟩ ⟨D.room, (cleanR (if isDR D z.key then (linesL C.items [z.key]).foldl cleanR D else D) z.key).items.tail, (cleanR (if isDR D z.key then (linesL C.items [z.key]).foldl cleanR D else D) z.key).rels⟩ := by
  have hkk : ∀ k, isDR D k = Go.Proofs.Ythmkmhfoicfapaa.isD C.items k := h.isD
  obtain ⟨s, hp, hu, he⟩ := h.list
  cases hs : s with
  | nil =>
    rw [hs, hi] at hp
    have := hp.length_eq
    simp at this
  | cons zs ts =>
    have hold : oldest r x = zs := oldest_head (by rw [hi] at hp; exact hp) hs hu
    have hz : zs ∈ C.items := hp.mem_iff.1 (by rw [hs]; exact List.mem_cons_self ..)
    have hks : ∀ k ∈ [zs.key], Present C.items k := fun k hk => by
      rw [List.mem_singleton] at hk
      exact ⟨zs, hz, hk.symm⟩
    have hkeys : D.items.map RIt.key = zs.key :: ts.map It.key := by
      rw [he, hs, List.map_map]
      rfl
    have hnot : zs.key ∉ ts.map It.key := by
      have h1 : (s.map It.key).Nodup := (hp.map It.key).nodup_iff.2 (mkeys_nodup hc.rise)
      rw [hs, List.map_cons, List.nodup_cons] at h1
      exact h1.1
    have hisd : isDR D zs.key = zs.dirty := by rw [hkk, isD_mem hc.rise hz]
    refine ⟨toR zs, ts.map toR, by rw [he, hs]; rfl, ?_, ?_⟩
    · show _ = if isDR D zs.key then linesL C.items [zs.key] else []
      rw [hisd, hi]
      show (evictL (x :: r)).1 = _
      unfold evictL
      dsimp only
      rw [hold]
      cases zs.dirty <;> simp
    · show Sim _ ⟨D.room, (cleanR (if isDR D zs.key then (linesL C.items [zs.key]).foldl cleanR D else D) zs.key).items.tail, (cleanR (if isDR D zs.key then (linesL C.items [zs.key]).foldl cleanR D else D) zs.key).rels⟩
      rw [hisd]
      cases hzd : zs.dirty with
      | true =>
        have e2 : (evictL C.items).2 = delIt (writeL C.items [zs.key]) zs.key := by
          rw [hi]
          unfold evictL
          dsimp only
          rw [hold, hzd]
          simp
        rw [e2, if_pos rfl]
        have hc1 := Lru.Ok.write hc hks
        have hcl : Go.Proofs.Ythmkmhfoicfapaa.isD (writeL C.items [zs.key]) zs.key = false := by
          rw [write_isD]
          have := (lines_ok hc [zs.key] hks).keys zs.key (List.mem_singleton.2 rfl)
          simp [this]
        have h3 := ((h.write hc hks).again hc1 hcl).del hc1 hcl
        rw [tail_is (k := zs.key) (ks := ts.map It.key) (by rw [rclean_keys, cleans_keys, hkeys]) hnot]
        have hroom : (cleanR ((linesL C.items [zs.key]).foldl cleanR D) zs.key).room = D.room := (cleans_items _ D).2
        rw [hroom] at h3
        exact h3
      | false =>
        have e2 : (evictL C.items).2 = delIt C.items zs.key := by
          rw [hi]
          unfold evictL
          dsimp only
          rw [hold, hzd]
          simp
        rw [e2, if_neg Bool.false_ne_true]
        have hcl : Go.Proofs.Ythmkmhfoicfapaa.isD C.items zs.key = false := by rw [← hkk, hisd, hzd]
        have h3 := (h.again hc hcl).del hc hcl
        rw [tail_is (k := zs.key) (ks := ts.map It.key) (by rw [rclean_keys, hkeys]) hnot]
        exact h3
/-- A key is dropped, on both sides. -/
theorem Sim.drop {C : Lru} {D : RC} (h : Sim C D) (hc : ItsOk C.items C.uses) (k : Int) : Sim (C.drop k) ⟨D.room, (cleanR D k).items.filter fun x => !decide (x.key = k), (cleanR D k).rels⟩ := by
  cases hd : Go.Proofs.Ythmkmhfoicfapaa.isD C.items k with
  | false =>
    have e : C.drop k = ⟨C.room, C.uses, delIt C.items k⟩ := by
      unfold Lru.drop dropL
      rw [hd, if_neg Bool.false_ne_true]
    rw [e]
    exact (h.again hc hd).del hc hd
  | true =>
    have e : C.drop k = ⟨C.room, C.uses, endR (delIt C.items k)⟩ := by
      unfold Lru.drop dropL
      rw [hd, if_pos rfl]
    rw [e]
    obtain ⟨s, hp, hu, he⟩ := h.list
    refine ⟨h.room, ⟨(s.filter fun y => !decide (y.key = k)).map fun it => { it with firsts := it.firsts.filter (Go.Proofs.Ythmkmhfoicfapaa.isD (delIt C.items k)) }, (hp.filter _).map _, ?_, ?_⟩, fun k' => ?_⟩
    · rw [List.pairwise_map]
      exact hu.filter _
    · show ((D.items.map fun x => if x.key = k then { x with dirty := false } else x).filter fun x => !decide (x.key = k)) = _
      rw [he, List.map_map, List.filter_map, List.map_map]
      have e1 : ((fun x : RIt => !decide (x.key = k)) ∘ ((fun x : RIt => if x.key = k then { x with dirty := false } else x) ∘ toR)) = fun y => !decide (y.key = k) := funext fun y => by
        simp only [Function.comp_def]
        split <;> rfl
      rw [e1]
      refine List.map_congr_left fun y hy => ?_
      have hne : y.key ≠ k := by simpa using (List.mem_filter.1 hy).2
      simp only [Function.comp_def]
      rw [if_neg (show ¬ (toR y).key = k from hne)]
      rfl
    · show rfirsts (D.rels.filter fun p => !decide (p.1 = k) && !decide (p.2 = k)) k' = firstsOf (endR (delIt C.items k)) k'
      unfold endR
      rw [rfirsts_clean, h.rels k', firstsOf_map (fun it => { it with firsts := it.firsts.filter (Go.Proofs.Ythmkmhfoicfapaa.isD (delIt C.items k)) }) (fun _ => rfl)]
      have e2 : (((delIt C.items k).find? fun it => decide (it.key = k')).map fun it => it.firsts.filter (Go.Proofs.Ythmkmhfoicfapaa.isD (delIt C.items k))).getD [] = (firstsOf (delIt C.items k) k').filter (Go.Proofs.Ythmkmhfoicfapaa.isD (delIt C.items k)) := by
        unfold firstsOf
        cases (delIt C.items k).find? fun it => decide (it.key = k') <;> rfl
      rw [e2, firstsOf_del hc]
      by_cases hk : k' = k
      · rw [if_pos hk, if_pos hk]
        rfl
      · rw [if_neg hk, if_neg hk]
        refine List.filter_congr fun f hf => ?_
        rw [delIt_isD, (firstsOf_dirty hc hf).1, Bool.true_and]
end Go.Proofs.Ythmkmhfoicfapaa
