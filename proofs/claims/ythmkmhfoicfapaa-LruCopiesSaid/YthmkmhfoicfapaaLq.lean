/-
  What a cache's own calls answer, third part (package lru): After. Conditions: the cache as it lies.
-/
import Derived.Test.YthmkmhfoicfapaaLp
namespace Go.Proofs.Ythmkmhfoicfapaa
open Go.RowKit Go.Maps
set_option linter.unusedVariables false

theorem wpList_append_lg {α : Type} {P : Program} {t e : TypeId} {sz bytes : Nat} {cv : α → List Value} (R : Rowed P t e sz bytes cv) {ops : Array Oper} {rest : List Oper} {o : Oper} {a : Act} {w : World} {Q : Exit → Act → World → Prop} (hgd : o.guard = none) (s x : Operand)
    (ho : o.op = .call { callee := .builtin .append, args := #[s, x], argTypes := #[t, t] }) (base : Nat) (v : Value) (n : Nat) (xs : List α) (hs : a.eval s = v) (hown : OwnG cv e sz w base v n xs)
    (ao : Option Addr) (m c : Nat) (l : List α) (hx : a.eval x = .slice ao m c) (hnil : ao = Option.none → c = 0) (hB : Reads cv w ao m l) (hn : n + m ≤ 10000000) (hbase : base ≤ w.heap.size)
    (h : ∀ a' c' w', OwnG cv e sz w' base (.slice a' (n + m) c') (n + m) (xs ++ l) → w.grownBy w' v.ownBlock → ((Value.slice a' (n + m) c').ownBlock = v.ownBlock ∨ (Value.slice a' (n + m) c').ownBlock = some w.heap.size) → wpList P ops Q rest (a.put o.dst (.slice a' (n + m) c')) w') : wpList P ops Q (o :: rest) a w := by
  refine wpList_plain hgd fun K hK => ?_
  exact wp_append_lg (Q := Q) R s x ho base v n xs hs hown ao m c l hx hnil hB hn hbase fun a' c' w' h1 h2 h3 => hK _ _ (h a' c' w' h1 h2 h3)
theorem after_nil (w : World) (k f : Int) : Calls Try.prog 17 #[.pointer none, .int .i64 k, .int .i64 f] w fun e w' => e = .returned (.int .i64 15) ∧ w' = w := by
  go_enter Try.func17, Try.ntmps17
  go_wp2_with (go_at_call 38; refine (isDirty_nil _ _).mono ?_; rintro e w' ⟨rfl, rfl⟩)
  go_ret
  exact ⟨rfl, rfl⟩
theorem nodup_le : ∀ (a b : List Int), a.Nodup → a ⊆ b → a.length ≤ b.length
  | [], _, _, _ => Nat.zero_le _
  | x :: a, b, hn, hs => by
    obtain ⟨h1, h2⟩ := List.nodup_cons.1 hn
    have hx := hs (by simp : x ∈ x :: a)
    have ih := nodup_le a (b.erase x) h2 fun y hy => (List.mem_erase_of_ne (fun e => h1 (by rw [← e]; exact hy))).2 (hs (by simp [hy]))
    rw [List.length_erase_of_mem hx] at ih
    have := List.length_pos_of_mem hx
    simp only [List.length_cons]
    omega
/-- What After leads to when the record is new. -/
theorem rec_end {w w4 : World} {B room uses : Nat} {vI vb vf v' : Value} {L1 L2 : List IR} {f : IR} {g : Int} (hc : CacheIn w B room vI (L1 ++ f :: L2) uses) (hi : ItemIn w f vb vf) (hg : w.grownBy w4 vf.ownBlock)
    (ho : OwnG ivV 3 1 w4 0 v' (f.it.firsts.length + 1) (f.it.firsts ++ [g])) (hv : ∀ k, v'.ownBlock = some k → vf.ownBlock = some k ∨ w.heap.size ≤ k) :
    ∃ S', CacheIn (w4.setCell ⟨f.G, 4, none⟩ v') B room vI (L1 ++ ⟨withF f.it (f.it.firsts ++ [g]), f.G, S'⟩ :: L2) uses ∧ Away (ownS B vI (L1 ++ f :: L2)) w (ownS B vI (L1 ++ ⟨withF f.it (f.it.firsts ++ [g]), f.G, S'⟩ :: L2)) (w4.setCell ⟨f.G, 4, none⟩ v') := by
  refine item_set hc hi hg (fun k e => ⟨hi.sF e, fun e2 => ?_⟩) 4 v' (withF f.it (f.it.firsts ++ [g])) rfl (hi.bs.frame fun k hk => hg.block k (hi.bs.lt hk) fun e => ?_) ?_ (fun k hk => Or.inl (hi.sB hk)) (fun k hk => ?_)
  · subst e2
    exact Blk.not_row hi.blk (by decide) hi.fs e.symm
  · exact OwnG.not_own hi.fs (by decide) hi.bs hk e.symm
  · show OwnG ivV 3 1 w4 0 v' (f.it.firsts ++ [g]).length (f.it.firsts ++ [g])
    rw [List.length_append]
    exact ho
  · rcases hv k hk with h | h
    · exact Or.inl (hi.sF h)
    · exact Or.inr h
set_option maxRecDepth 100000 in
set_option maxHeartbeats 2000000 in
theorem lruAfter_any {w0 w : World} {p : Addr} {C : Lru} {S : Nat → Prop} (h : Has w0 p C w S) (k g : Int) : Calls Try.prog 17 #[.pointer (some p), .int .i64 k, .int .i64 g] w (Gives w0 p (C.after k g).2 (.int .i64 (C.after k g).1) S w) := by
  obtain ⟨B, vI, L, rfl, hc, hi, ho, rfl⟩ := h.open'
  have hb := base_of hc hi ho
  have H1 := Lib.hid (isDirty_any hc hb.rise hb.many k)
  have H2 := Lib.hid (isDirty_any hc hb.rise hb.many g)
  rw [hi] at H1 H2
  have HOK := Lib.hid (Lru.after_ok ho k g)
  have HH := Lib.hid h
  unfold Gives
  cases hd1 : isD C.items k with
  | false =>
    have haft : C.after k g = (15, C) := by
      unfold Lru.after
      rw [hd1, Bool.false_and, if_neg (by simp)]
    rw [haft] at HOK ⊢
    rw [hd1] at H1
    clear h hc hi ho hb H2
    go_enter Try.func17, Try.ntmps17
    go_wp2_with (go_at_call 38; refine H1.out.mono ?_; rintro e w' ⟨rfl, rfl⟩)
    go_ret
    exact ⟨_, rfl, HH.out, Away.refl _ _⟩
  | true =>
    rw [hd1] at H1
    cases hd2 : isD C.items g with
    | false =>
      have haft : C.after k g = (15, C) := by
        unfold Lru.after
        rw [hd2, Bool.and_false, if_neg (by simp)]
      rw [haft] at HOK ⊢
      rw [hd2] at H2
      clear h hc hi ho hb
      by_cases hkg : k = g
      · subst hkg
        rw [hd1] at hd2
        cases hd2
      · go_enter Try.func17, Try.ntmps17
        go_wp2_with (first
          | (go_at_call 38; (with_reducible refine H1.out.mono ?_); rintro e w' ⟨rfl, rfl⟩)
          | (go_at_call 38; (with_reducible refine H2.out.mono ?_); rintro e w' ⟨rfl, rfl⟩))
        go_ret
        exact ⟨_, rfl, HH.out, Away.refl _ _⟩
    | true =>
      rw [hd2] at H2
      have hpg : ∀ y ∈ [g], ∃ z ∈ L.map IR.it, z.key = y := fun y hy => by
        simp only [List.mem_singleton] at hy
        rw [hy, hi]
        obtain ⟨z, hz, e, _⟩ := isD_iff.1 hd2
        exact ⟨z, hz, e⟩
      have HLN : Hid (Calls Try.prog 40 #[.pointer (some ⟨B, 0, none⟩), .slice (some ⟨w.heap.size, 0, none⟩) 1 1] (w.alloc (.cells #[.int .i64 g] 3)) (LinesQ (linesL C.items [g]) (w.alloc (.cells #[.int .i64 g] 3)))) := by
        rw [← hi]
        exact lines_any ⟨hb.c.later ((Below.refl _ _).alloc (Nat.le_refl _) _), hb.rise, hb.many, hb.closed, hb.kr⟩ (one_reads w g #[.int .i64 g] 3 rfl) hpg (by omega)
      unfold LinesQ at HLN
      obtain ⟨l, hl⟩ := named (linesL C.items [g])
      obtain ⟨m, hm⟩ := named l.length
      rw [hl.out, hm.out] at HLN
      by_cases hin : k ∈ l
      · have haft : C.after k g = (11, C) := by
          unfold Lru.after
          rw [hd1, hd2, Bool.and_self, if_pos rfl, hl.out, if_pos hin]
        rw [haft] at HOK ⊢
        have hdec : decide (k ∈ l) = true := decide_eq_true hin
        clear h hc hi ho hb hpg
        go_enter Try.func17, Try.ntmps17
        go_wp2_with (first
          | (go_at_call 38; (with_reducible refine H1.out.mono ?_); rintro e w' ⟨rfl, rfl⟩)
          | (go_at_call 38; (with_reducible refine H2.out.mono ?_); rintro e w' ⟨rfl, rfl⟩)
          | (go_at_call 40; refine HLN.out.mono ?_; rintro e w1 ⟨a1, c1, rfl, g1, g2⟩; have G1 := Lib.hid g1; have G2 := Lib.hid g2; clear g1 g2)
          | (go_at_call 39; refine (contains_any (G1.out.rebase (Nat.zero_le _)) k).mono ?_; rintro e w' ⟨rfl, rfl⟩))
        go_ret
        exact ⟨_, rfl, HH.out.later (Below.weak ((Below.refl _ _).alloc (Nat.le_refl _) _) G2.out), Away.of_below (Below.weak ((Below.refl _ _).alloc (Nat.le_refl _) _) G2.out)⟩
      · have hdec : decide (k ∈ l) = false := decide_eq_false hin
        have haft : C.after k g = (0, ⟨C.room, C.uses, setIt C.items k fun x => if g ∈ x.firsts then x else withF x (x.firsts ++ [g])⟩) := by
          unfold Lru.after
          rw [hd1, hd2, Bool.and_self, if_pos rfl, hl.out, if_neg hin]
          rfl
        rw [haft] at HOK ⊢
        dsimp only at HOK ⊢
        obtain ⟨y, hy, hyk, _⟩ := isD_iff.1 hd1
        rw [← hi] at hy
        obtain ⟨f, hf, rfl⟩ := List.mem_map.1 hy
        have HF : Hid (∀ w', Below w.heap.size w w' → Calls Try.prog 41 #[.pointer (some ⟨B, 0, none⟩), .int .i64 k] w' fun e w'' => e = .returned (.pointer (some ⟨f.G, 0, none⟩)) ∧ w'' = w') := fun w' hw' => by
          have := find_some (hc.later hw') hb.rise hb.many hf
          rwa [show f.key = k from hyk] at this
        have hrise := hb.rise
        obtain ⟨L1, L2, rfl⟩ := mid_of hf
        obtain ⟨vb, vf, hfi⟩ := hc.item f (by simp)
        have hset : ∀ it', it' = (if g ∈ f.it.firsts then f.it else withF f.it (f.it.firsts ++ [g])) → L1.map IR.it ++ it' :: L2.map IR.it = setIt C.items k fun x => if g ∈ x.firsts then x else withF x (x.firsts ++ [g]) := fun it' e => by
          have hr := rises_map hrise
          rw [List.map_append, List.map_cons] at hr
          rw [← hi, List.map_append, List.map_cons, e, ← hyk]
          exact (setIt_mid hr (fun x => if g ∈ x.firsts then x else withF x (x.firsts ++ [g]))).symm
        have HSET := Lib.hid hset
        have HFI : Hid (∀ w', Below w.heap.size w w' → ItemIn w' f vb vf) := fun w' hw' => hfi.away hw'
        have HC : Hid (∀ w', Below w.heap.size w w' → CacheIn w' B C.room vI (L1 ++ f :: L2) C.uses) := fun w' hw' => hc.later hw'
        have HI := Lib.hid hi
        have hfl : f.it.firsts.length ≤ 1000000 := by
          have h1 : f.it.firsts.length ≤ 100000000 := hfi.fs.2.2
          have h2 := ho.its.nodup f.it (by rw [← hi]; exact List.mem_map.2 ⟨f, by simp, rfl⟩)
          have h3 : f.it.firsts ⊆ (C.items.map It.key) := fun z hz => by
            obtain ⟨q, hq, e⟩ := ho.its.firsts_key (by rw [← hi]; exact List.mem_map.2 ⟨f, by simp, rfl⟩) hz
            exact List.mem_map.2 ⟨q, hq, e⟩
          have h4 := nodup_le _ _ h2 h3
          rw [List.length_map] at h4
          have := ho.many
          have := ho.room2
          omega
        obtain ⟨af, cf, rfl, _, hnf, hcf⟩ := hfi.fs.shape iv_rowed
        obtain ⟨n, hn⟩ := named f.it.firsts.length
        rw [hn.out] at HFI hfl
        by_cases hgf : g ∈ f.it.firsts
        · have hdg : decide (g ∈ f.it.firsts) = true := decide_eq_true hgf
          have HS := Lib.hid (hset f.it (by rw [if_pos hgf]))
          clear h hc hi ho hb hpg hset hfi hf hy
          go_enter Try.func17, Try.ntmps17
          go_wp2_with (first
            | (go_at_call 38; (with_reducible refine H1.out.mono ?_); rintro e w' ⟨rfl, rfl⟩)
            | (go_at_call 38; (with_reducible refine H2.out.mono ?_); rintro e w' ⟨rfl, rfl⟩)
            | (go_at_call 40; refine HLN.out.mono ?_; rintro e w1 ⟨a1, c1, rfl, g1, g2⟩; have G1 := Lib.hid g1; have G2 := Lib.hid (Below.weak ((Below.refl _ _).alloc (Nat.le_refl _) _) g2); clear g1 g2)
            | (go_at_call 39; (with_reducible refine (contains_any (G1.out.rebase (Nat.zero_le _)) k).mono ?_); rintro e w' ⟨rfl, rfl⟩)
            | (go_at_call 41; refine (HF.out w' G2.out).mono ?_; rintro e w'' ⟨rfl, rfl⟩; have HFW := Lib.hid (HFI.out w'' G2.out); have c4 : w''.cell? ⟨f.G, 4, none⟩ = some (.slice af n cf) := (HFW.out.blk.cell 4).trans rfl)
            | (go_at_call 39; have hfs : OwnG ivV 3 1 w'' 0 (.slice af n cf) n f.it.firsts := (by have := HFW.out.fs; unfold OwnI at this; rwa [hn.out] at this); (with_reducible refine (contains_any hfs g).mono ?_); rintro e w''' ⟨rfl, rfl⟩))
          go_ret
          exact ⟨_, rfl, HH.out.close (C' := ⟨C.room, C.uses, _⟩) (HC.out _ G2.out) (by rw [List.map_append, List.map_cons]; exact HS.out) HOK.out (Away.of_below G2.out), Away.of_below G2.out⟩
        · have hdg : decide (g ∈ f.it.firsts) = false := decide_eq_false hgf
          have HS := Lib.hid (hset (withF f.it (f.it.firsts ++ [g])) (by rw [if_neg hgf]))
          clear h hc hi ho hb hpg hset hfi hf hy
          go_enter Try.func17, Try.ntmps17
          go_wp2_with (first
            | (go_at_call 38; (with_reducible refine H1.out.mono ?_); rintro e w' ⟨rfl, rfl⟩)
            | (go_at_call 38; (with_reducible refine H2.out.mono ?_); rintro e w' ⟨rfl, rfl⟩)
            | (go_at_call 40; refine HLN.out.mono ?_; rintro e w1 ⟨a1, c1, rfl, g1, g2⟩; have G1 := Lib.hid g1; have G2 := Lib.hid (Below.weak ((Below.refl _ _).alloc (Nat.le_refl _) _) g2); clear g1 g2)
            | (go_at_call 39; (with_reducible refine (contains_any (G1.out.rebase (Nat.zero_le _)) k).mono ?_); rintro e w' ⟨rfl, rfl⟩)
            | (go_at_call 41; refine (HF.out w' G2.out).mono ?_; rintro e w'' ⟨rfl, rfl⟩; have HFW := Lib.hid (HFI.out w'' G2.out); have c4 : w''.cell? ⟨f.G, 4, none⟩ = some (.slice af n cf) := (HFW.out.blk.cell 4).trans rfl)
            | (go_at_call 39; have hfs : OwnG ivV 3 1 w'' 0 (.slice af n cf) n f.it.firsts := (by have := HFW.out.fs; unfold OwnI at this; rwa [hn.out] at this); (with_reducible refine (contains_any hfs g).mono ?_); rintro e w''' ⟨rfl, rfl⟩; have HFS := Lib.hid hfs; clear hfs)
            | (at_builtin; refine wpList_append_lg iv_rowed rfl (.tmp 38) (.tmp 40) rfl 0 (.slice af n cf) n f.it.firsts rfl (HFS.out.alloc _) (some ⟨w'''.heap.size, 0, none⟩) 1 1 [g] rfl (fun e => by cases e) (one_reads w''' g #[.int .i64 g] 3 rfl) (by omega) (Nat.zero_le _) ?_; intro a5 c5 w5 g1 g2 g3
               have HG5 := Lib.hid ((World.grownBy_alloc w''' (.cells #[.int .i64 g] 3) (Value.slice af n cf).ownBlock).trans g2)
               have hB5 : Blk w5 f.G 76 #[.int .i64 f.it.key, vb, .int .u64 f.it.used, .bool f.it.dirty, .slice af n cf] := HFW.out.blk.kept HG5.out (Blk.not_row HFW.out.blk (by decide) HFS.out)
               have c45 : w5.cell? ⟨f.G, 4, none⟩ = some (.slice af n cf) := (hB5.cell 4).trans rfl
               have f45 := hB5.free 4
               have HO5 := Lib.hid g1
               have HV5 : Hid (∀ j, (Value.slice a5 (n + 1) c5).ownBlock = some j → (Value.slice af n cf).ownBlock = some j ∨ w'''.heap.size ≤ j) := (fun j hj => by
                rcases g3 with e | e
                · exact Or.inl (e ▸ hj)
                · rw [e] at hj
                  cases hj
                  exact Or.inr (by rw [World.size_alloc]; omega))
               clear g1 g2 g3 hB5))
          go_ret
          obtain ⟨S', q1, q2⟩ := rec_end (g := g) (HC.out _ G2.out) HFW.out HG5.out (by rw [hn.out]; exact HO5.out) HV5.out
          exact ⟨_, rfl, HH.out.close (C' := ⟨C.room, C.uses, _⟩) q1 (by rw [List.map_append, List.map_cons]; exact HS.out) HOK.out ((Away.of_below G2.out).trans q2), (Away.of_below G2.out).trans q2⟩
end Go.Proofs.Ythmkmhfoicfapaa
