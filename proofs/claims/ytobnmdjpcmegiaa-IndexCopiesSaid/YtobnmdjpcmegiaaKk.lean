/-
  What the reference's Add of an index does (layer 11). Conditions: the index as it lies, short bytes.
-/
import Derived.Test.YtobnmdjpcmegiaaKh
namespace Go.Proofs.Ytobnmdjpcmegiaa
open Go.RowKit
set_option linter.unusedVariables false

theorem reads_tail {α : Type} {P : Program} {t e : TypeId} {sz bytes : Nat} {cv : α → List Value} (R : Rowed P t e sz bytes cv) {w : World} {b off n : Nat} {x : α} {L : List α} (h : Reads cv w (some ⟨b, off, Option.none⟩) n (x :: L)) : Reads cv w (some ⟨b, off + sz, Option.none⟩) (n - 1) L := by
  obtain ⟨h1, h2, h3⟩ := h
  have hl : L.length + 1 = n := h1
  refine ⟨by omega, by omega, ?_⟩
  obtain ⟨b', off', e', hlt, hc⟩ := h3.resolve_left (by omega)
  cases e'
  refine Or.inr ⟨b, off + sz, rfl, hlt, fun j u hu => ?_⟩
  have := hc (sz + j) u (by rw [List.flatMap_cons, List.getElem?_append_right (by rw [R.len]; omega), R.len, Nat.add_sub_cancel_left]; exact hu)
  rwa [Nat.add_assoc]
theorem slice_backR {b j c p : Nat} (h1 : p < j) (h2 : j ≤ c) (w' : World) : (Instr.slice 28 (.slice (some ⟨b, 0, none⟩) j c) (some (.int .i64 p)) none none).run Try.prog w' = .ok (.slice (some ⟨b, p * 6, none⟩) (j - p) (c - p)) w' := by
  obtain ⟨i0, hi0, hi1⟩ := Option.map_eq_some_iff.1 se_size
  have b1 : p ≤ j := by omega
  have b2 : ¬ c = p := by omega
  simp [Instr.slice, Instr.sliceBounds, Instr.sliceBound, asIntOf, run_underlying Try.underlying28, sizeOf, typeInfo, hi0, hi1, b1, b2, Addr.add, go_sem]
  exact fun h => h.symm
theorem slice_tail6 {b n c n1 c1 : Nat} (h1 : 1 < n) (h2 : n ≤ c) (h3 : n - 1 = n1) (h4 : c - 1 = c1) (w' : World) : (Instr.slice 28 (.slice (some ⟨b, 0, none⟩) n c) (some (.int .i64 1)) none none).run Try.prog w' = .ok (.slice (some ⟨b, 6, none⟩) n1 c1) w' := by
  subst h3
  subst h4
  exact slice_backR h1 h2 w'
/-- What the reference's Add holds. -/
structure MidR (w : World) (B N : Nat) (v : Value) (L : List Pr) (S : Nat → Prop) (k s m z g : Int) (W : World) : Prop where
  blk : Blk W B 30 #[v]
  own : OwnG pvV 66 6 W 0 v L.length L
  box : Blk W N 35 #[.int .i64 k, .int .i64 s, .int .i64 m, .int .i64 z, .int .u32 g]
  away : Away S w S W
  far : ∀ k, S k → k < w.heap.size
  sB : S B
  sv : ∀ k, v.ownBlock = some k → S k ∨ w.heap.size ≤ k
section
variable {w0 w W W' : World} {B N : Nat} {v : Value} {L : List Pr} {S : Nat → Prop} {k s m z g : Int}
theorem MidR.later (h : MidR w B N v L S k s m z g W) (hb : Below W.heap.size W W') : MidR w B N v L S k s m z g W' :=
  ⟨h.blk.later hb, h.own.later hb, h.box.later hb, h.away.later hb, h.far, h.sB, h.sv⟩
theorem MidR.drewN (h : MidR w B N v L S k s m z g W) (i : Nat) : MidR w B N v L S k s m z g (W.drewN i) := h.later (below_dN _ _)
theorem MidR.drew (h : MidR w B N v L S k s m z g W) : MidR w B N v L S k s m z g W.drew := h.later (Below.refl _ _).drew
end
theorem midR_new {w0 w : World} {B : Nat} {v : Value} {L : List Pr} {S : Nat → Prop} (k s m z g : Int) (h : IxR w0 B L S w) (hb : Blk w B 30 #[v]) (ho : OwnG pvV 66 6 w 0 v L.length L) (hs : ∀ k, S k ↔ (k = B ∨ v.ownBlock = some k)) :
    MidR w B w.heap.size v L S k s m z g (w.alloc (.cells #[.int .i64 k, .int .i64 s, .int .i64 m, .int .i64 z, .int .u32 g] 35)) :=
  have hB : Below w.heap.size w (w.alloc (.cells #[.int .i64 k, .int .i64 s, .int .i64 m, .int .i64 z, .int .u32 g] 35)) := (Below.refl _ _).alloc (Nat.le_refl _) _
  ⟨hb.later hB, ho.later hB, Blk.new w _ _, (Away.refl S w).later hB, h.lt, (hs B).2 (Or.inl rfl), fun k hk => Or.inl ((hs k).2 (Or.inr hk))⟩
theorem MidR.ix {w0 w W : World} {B N : Nat} {v : Value} {L : List Pr} {S : Nat → Prop} {k s m z g : Int} (h : MidR w B N v L S k s m z g W) (H : IxR w0 B L S w) (hs : ∀ k, S k ↔ (k = B ∨ v.ownBlock = some k)) : IxR w0 B L S W :=
  ⟨⟨v, 0, h.blk, h.own, hs⟩, H.ok, H.low, h.away.below H.low H.below⟩
/-- A slice that was appended to is stored. -/
theorem MidR.store {w W W' : World} {B N n c : Nat} {a : Option Addr} {L L' : List Pr} {v' : Value} {S : Nat → Prop} {k s m z g : Int} (h : MidR w B N (.slice a n c) L S k s m z g W)
    {row : Option Nat} (hrow : ∀ k, row = some k → (Value.slice a n c).ownBlock = some k ∨ W.heap.size ≤ k) (hg : W.grownBy W' row) (ho : OwnG pvV 66 6 W' 0 v' L'.length L') (hv : v'.ownBlock = (Value.slice a n c).ownBlock ∨ (∀ k, v'.ownBlock = some k → w.heap.size ≤ k)) :
    MidR w B N v' L' S k s m z g (W'.setCell ⟨B, 0, none⟩ v') := by
  have hne : ∀ (X : Nat) (t : TypeId) (cs : Array Value), t ≠ 66 → Blk W X t cs → some X ≠ row := fun X t cs ht hX e => by
    rcases hrow X e.symm with h1 | h1
    · exact Blk.not_row hX ht h.own h1.symm
    · have := hX.lt
      omega
  have hB' : Blk W' B 30 #[.slice a n c] := h.blk.kept hg (hne _ _ _ (by decide) h.blk)
  have hX' : Blk W' N 35 #[.int .i64 k, .int .i64 s, .int .i64 m, .int .i64 z, .int .u32 g] := h.box.kept hg (hne _ _ _ (by decide) h.box)
  have hBv : v'.ownBlock ≠ some B := fun e => Blk.not_row hB' (by decide) ho e.symm
  have hBN : N ≠ B := fun e => by
    subst e
    have := (show W.heap[N]? = _ from h.blk).symm.trans (show W.heap[N]? = _ from h.box)
    simp at this
  refine ⟨hB'.set 0 v', ho.frame fun k hk => Below.heap_setCell W' ⟨B, 0, none⟩ _ k (fun e => hBv (by rw [hk]; exact congrArg some e)), hX'.other hBN v', (h.away.grown hg fun k e => ?_).set h.sB 0 v', h.far, h.sB, fun k hk => ?_⟩
  · rcases hrow k e with h1 | h1
    · exact h.sv k h1
    · exact Or.inr (Nat.le_trans h.away.size h1)
  · rcases hv with e | e
    · exact h.sv k (e ▸ hk)
    · exact Or.inr (e k hk)
theorem MidR.done {w0 w W : World} {B N : Nat} {v v0 : Value} {L0 L : List Pr} {S : Nat → Prop} {k s m z g : Int} (h : MidR w B N v L S k s m z g W) (H : IxR w0 B L0 S w) (hs : ∀ k, S k ↔ (k = B ∨ v0.ownBlock = some k)) (hok : XOk L) : ∃ S', IxR w0 B L S' W ∧ Away S w S' W :=
  H.next (fd' := 0) h.away hs h.blk h.own hok h.sv
set_option maxHeartbeats 1600000 in
set_option maxRecDepth 100000 in
/-- Add. -/
theorem refAdd_any {w0 w : World} {B : Nat} {L : List Pr} {S : Nat → Prop} (h : IxR w0 B L S w) (ab : Option Addr) (len cap : Nat) (l : List Int) (hl : Bytes w ab len l) (k s m z g : Int) :
    Calls Try.prog 17 #[.pointer (some ⟨B, 0, none⟩), .slice ab len cap, .agg #[.int .i64 k, .int .i64 s, .int .i64 m, .int .i64 z, .int .u32 g]] w (GivesR w0 B (addP L ((fingerOf l : Nat), k, s, m, z, g)) (.tuple #[]) S w) := by
  obtain ⟨v, fd, hb, ho, hs⟩ := h.at'
  obtain ⟨a, c, rfl, hrd, hnil, hcap⟩ := ho.shape se_rowed
  have hmany := h.ok.many
  have HH := Lib.hid h
  have hg := guard_en
  have HF := Lib.hid (fun w' (hb : Below w.heap.size w w') => refFinger_any ab len cap l w' (hl.later hb))
  obtain ⟨F, hF⟩ := named ((fingerOf l : Nat) : Int)
  rw [hF.out] at HF ⊢
  have HM0 := Lib.hid (midR_new k s m z g h hb ho hs)
  obtain ⟨n, hN⟩ := named L.length
  have HN := Lib.hid hN.out
  rw [hN.out] at hmany HM0 hcap
  obtain ⟨N, hNW⟩ := named w.heap.size
  have hNN := hNW.out
  rw [hNN] at HM0
  obtain ⟨W1, hW1⟩ := named (w.alloc (.cells #[.int .i64 k, .int .i64 s, .int .i64 m, .int .i64 z, .int .u32 g] 35))
  have hW := hW1.out
  have HBW1 : Hid (Below w.heap.size w W1) := by rw [← hW]; exact (Below.refl _ _).alloc (Nat.le_refl _) _
  rw [hW] at HM0
  clear h hrd hb ho
  go_enter Try.func17, Try.ntmps17
  go_wp2_with (go_at_call 28; (with_reducible refine (HF.out _ HBW1.out).mono ?_); rintro e w1 ⟨rfl, rfl⟩)
  go_loopw [7] (fun s7 wr => ∃ j : Nat, j ≤ n ∧ s7 = .int .i64 j ∧ Hid (MidR w B N (.slice a n c) L S k s m z g wr) ∧ Hid (∀ x ∈ L.take j, (F, k, s, m, z, g) ≠ x)) (fun s7 _ => n - (intOf s7).toNat)
  case atStart => exact ⟨0, Nat.zero_le _, rfl, HM0.out, fun x hx => by simp at hx⟩
  case round =>
    obtain ⟨j, hj, rfl, HM, HA⟩ := hrel
    have c0 : wr.cell? ⟨B, 0, none⟩ = some (.slice a n c) := HM.out.blk.cell 0
    by_cases hlt : j < n
    · obtain ⟨p, hp⟩ : ∃ p, L[j]? = some p := ⟨_, List.getElem?_eq_getElem (by have := hN.out; omega)⟩
      have HO : Hid (OwnG pvV 66 6 wr 0 (.slice a n c) n L) := Lib.hid (HN.out ▸ HM.out.own)
      obtain ⟨b, rfl⟩ := HO.out.at0 (by omega)
      obtain ⟨f', k', s', m', z', g'⟩ := p
      obtain ⟨e0, e1, e2, e3, e4, e5⟩ := pr_cells HO.out j _ hp
      obtain ⟨d0, d1, d2, d3, d4⟩ := cells5 HM.out.box
      dsimp only at e0 e1 e2 e3 e4 e5
      have HRR := Lib.hid hp
      have hq : ∀ w : World, (binOp .eql 35 (.agg #[.int .i64 k', .int .i64 s', .int .i64 m', .int .i64 z', .int .u32 g']) (.agg #[.int .i64 k, .int .i64 s, .int .i64 m, .int .i64 z, .int .u32 g])).run Try.prog w = .ok (.bool (decide (((k', s', m', z', g') : En) = (k, s, m, z, g)))) w := fun w => eql_en (k', s', m', z', g') (k, s, m, z, g) w
      have HM2 := Lib.hid (fun i => HM.out.drewN i)
      have hstep : ∀ q : ((F, k, s, m, z, g) : Pr) ≠ (f', k', s', m', z', g'), ∀ x ∈ L.take (j + 1), ((F, k, s, m, z, g) : Pr) ≠ x := fun q x hx => by
        rw [List.take_add_one, hp] at hx
        rcases List.mem_append.1 hx with hx | hx
        · exact HA.out x hx
        · simp at hx
          rw [hx]
          exact q
      have HSTEP := Lib.hid hstep
      clear hp hstep
      by_cases hf : f' = F
      · subst hf
        by_cases hd : ((k', s', m', z', g') : En) = (k, s, m, z, g)
        · rw [decide_eq_true hd] at hq
          have HD := Lib.hid hd
          clear hd
          go_wp2
          go_quiet (fail)
          go_wp2
          go_end0
          have hin : ((f', k, s, m, z, g) : Pr) ∈ L := by
            have e : ((f', k, s, m, z, g) : Pr) = (f', k', s', m', z', g') := by rw [show ((f', k', s', m', z', g') : Pr) = (f', ((k', s', m', z', g') : En)) from rfl, HD.out]
            rw [e]
            exact List.mem_of_getElem? HRR.out
          refine ⟨rfl, S, ?_, (HM2.out _).away⟩
          rw [show addP L (f', k, s, m, z, g) = L from if_pos hin]
          exact (HM2.out _).ix HH.out (fun k => hs k)
        · rw [decide_eq_false hd] at hq
          have HD := Lib.hid hd
          clear hd
          go_wp2
          go_quiet (fail)
          go_wp2
          go_roundw
          case rel =>
            refine ⟨j + 1, by omega, by go_num, HM2.out _, HSTEP.out fun e => HD.out ?_⟩
            have := congrArg Prod.snd e
            exact this.symm
          case measure => simp [intOf]; omega
      · have hf1 : decide (f' = F) = false := decide_eq_false hf
        have hf2 : (f' == F) = false := by simpa using hf
        have HFF := Lib.hid hf
        clear hf hq
        go_wp2
        go_quiet (fail)
        go_wp2
        go_roundw
        case rel =>
          refine ⟨j + 1, by omega, by go_num, HM2.out _, HSTEP.out fun e => HFF.out ?_⟩
          have := congrArg Prod.fst e
          exact this.symm
        case measure => simp [intOf]; omega
    · obtain rfl : j = n := by omega
      have hni : ((F, k, s, m, z, g) : Pr) ∉ L := fun hx => HA.out _ (by rw [List.take_of_length_le (by rw [HN.out]; exact Nat.le_refl _)]; exact hx) rfl
      by_cases h64 : 64 ≤ j
      · obtain ⟨p0, L', hLL⟩ : ∃ p0 L', L = p0 :: L' := by
          cases L with
          | nil => have := HN.out; simp at this; omega
          | cons p0 L' => exact ⟨p0, L', rfl⟩
        have HADD : Hid (addP L (F, k, s, m, z, g) = L' ++ [(F, k, s, m, z, g)]) := by
          unfold addP
          rw [Hid, if_neg hni, if_pos (by rw [HN.out]; exact h64), hLL]
          rfl
        obtain ⟨n1, hn1⟩ := named L'.length
        have HN1 := Lib.hid hn1.out
        have hnn : j - 1 = n1 := by have h1 := HN.out; have h2 := HN1.out; rw [hLL] at h1; simp at h1; omega
        have HO : Hid (OwnG pvV 66 6 wr 0 (.slice a j c) j L) := Lib.hid (HN.out ▸ HM.out.own)
        obtain ⟨b, rfl⟩ := HO.out.at0 (by omega)
        obtain ⟨c1, hc1⟩ := named (c - 1)
        have hsl := fun w' => slice_tail6 (b := b) (n := j) (c := c) (by omega) hcap hnn hc1.out w'
        have HRD : Hid (Reads pvV wr (some ⟨b, 6, none⟩) n1 L') := by
          have h1 := (HO.out.reads se_rowed).1
          rw [hLL] at h1
          have := reads_tail se_rowed h1
          rw [hnn, Nat.zero_add] at this
          exact this
        obtain ⟨M, hM⟩ := named wr.heap.size
        have hMM := hM.out
        have f0 := HM.out.blk.free 0
        have dA0 : ∀ o, (wr.alloc o).cell? ⟨B, 0, none⟩ = some (.slice (some ⟨b, 0, none⟩) j c) := fun o => (HM.out.blk.alloc o).cell 0
        have HNN : Hid (j - 1 = n1) := hnn
        have hn64 : n1 ≤ 64 := by omega
        clear hni hLL hnn
        go_wp2_with (at_builtin; refine append_gg se_rowed rfl (.tmp 48) (.tmp 53) rfl M (.slice (some ⟨M, 0, none⟩) 0 0) 0 [] (by rw [← hMM]; rfl) (by rw [← hMM]; exact OwnG.made _ _ _ wr wr.heap.size (Nat.le_refl _)) (some ⟨b, 6, none⟩) n1 c1 L' rfl (fun e => by cases e) (HRD.out.later ((Below.refl _ wr).alloc (Nat.le_refl _) _)) (by omega) (by rw [World.size_alloc]; have := hMM; omega) ?_; intro a2 c2 w2 h1 hb2 h2; rw [Nat.zero_add, List.nil_append] at h1; rw [Nat.zero_add]; have HO2 := Lib.hid h1; have HG2 := Lib.hid (grown_alloc h2); have hB2 := (HM.out.blk.alloc (.cells #[] 66)).kept h2 (fun e => by have h3 := HM.out.blk.lt; have : B = M := (by simpa [Value.ownBlock] using e); omega); have g0 := hB2.free 0; have k0 := hB2.cell 0; clear h1 hb2 h2 hB2)
        have hMS := HM.out.store (L' := L') (fun k hk => Or.inr (by have : M = k := (by simpa [Value.ownBlock] using hk); omega)) HG2.out (by rw [HN1.out]; exact HO2.out.rebase (Nat.zero_le _)) (Or.inr fun k hk => by have h3 := (HO2.out.1.lt k hk).1; have h4 := HM.out.away.size; omega)
        obtain ⟨W3, hW3⟩ := named (w2.setCell ⟨B, 0, none⟩ (.slice a2 n1 c2))
        rw [hW3.out] at hMS ⊢
        have HM3 := Lib.hid hMS
        clear hMS hW3 hMM
        have HMX := Lib.hid HM3.out
        have d0 : W3.cell? ⟨B, 0, none⟩ = some (.slice a2 n1 c2) := HMX.out.blk.cell 0
        obtain ⟨x0, x1, x2, x3, x4⟩ := cells5 HMX.out.box
        have dA : ∀ o, (W3.alloc o).cell? ⟨B, 0, none⟩ = some (.slice a2 n1 c2) := fun o => (HMX.out.blk.alloc o).cell 0
        have HON : Hid (OwnG pvV 66 6 W3 0 (.slice a2 n1 c2) n1 L') := Lib.hid (HN1.out ▸ HMX.out.own)
        go_wp2_with fail
        go_region_law (refine step_append_g se_rowed (by rfl) _ _ (by rfl) 0 (.slice a2 n1 c2) n1 L' (by rfl) (HON.out.drew.alloc _) _ 1 1 [(F, k, s, m, z, g)] (by rfl) (fun e => by cases e) (one_reads _ _ _ _ rfl) (by omega) (Nat.zero_le _) ?_; intro a4 c4 w4 g1 g2 g3; have hB4 : Blk w4 B 30 #[.slice a2 n1 c2] := (HMX.out.drew.blk.alloc _).kept g2 (HMX.out.blk.not_row (by decide) HMX.out.own); have f0 := hB4.free 0; have q0 := hB4.cell 0; have HG1 := Lib.hid g1; have HG2 := Lib.hid g2; have HG3 := Lib.hid g3; clear g1 g2 g3 hB4)
        all_goals
          go_wp2_with fail
          go_end0
          have hg2 : World.grownBy W3 w4 (Value.slice a2 n1 c2).ownBlock := undrew (grown_alloc HG2.out)
          have hfin := HMX.out.store (L' := L' ++ [(F, k, s, m, z, g)]) (fun k hk => Or.inl hk) hg2 (by rw [show (L' ++ [((F, k, s, m, z, g) : Pr)]).length = n1 + 1 by rw [List.length_append, HN1.out]; rfl]; exact HG1.out) (HG3.out.imp id fun e k' hk => by rw [hk] at e; cases e; have e2 := HMX.out.away.size; simp; omega)
          obtain ⟨S', r1, r2⟩ := hfin.done HH.out hs (by have := HH.out.ok.add (F, k, s, m, z, g); rw [HADD.out] at this; exact this)
          exact ⟨rfl, S', by rw [HADD.out]; exact r1, r2⟩
      · have HADD : Hid (addP L (F, k, s, m, z, g) = L ++ [(F, k, s, m, z, g)]) := by
          unfold addP
          rw [Hid, if_neg hni, if_neg (by rw [HN.out]; exact h64)]
        clear hni
        have HMX := Lib.hid HM.out
        have d0 : wr.cell? ⟨B, 0, none⟩ = some (.slice a j c) := HMX.out.blk.cell 0
        obtain ⟨x0, x1, x2, x3, x4⟩ := cells5 HMX.out.box
        have dA : ∀ o, (wr.alloc o).cell? ⟨B, 0, none⟩ = some (.slice a j c) := fun o => (HMX.out.blk.alloc o).cell 0
        have HON : Hid (OwnG pvV 66 6 wr 0 (.slice a j c) j L) := Lib.hid (HN.out ▸ HMX.out.own)
        go_wp2_with fail
        go_region_law (refine step_append_g se_rowed (by rfl) _ _ (by rfl) 0 (.slice a j c) j L (by rfl) (HON.out.drew.alloc _) _ 1 1 [(F, k, s, m, z, g)] (by rfl) (fun e => by cases e) (one_reads _ _ _ _ rfl) (by omega) (Nat.zero_le _) ?_; intro a4 c4 w4 g1 g2 g3; have hB4 : Blk w4 B 30 #[.slice a j c] := (HMX.out.drew.blk.alloc _).kept g2 (HMX.out.blk.not_row (by decide) HMX.out.own); have f0 := hB4.free 0; have q0 := hB4.cell 0; have HG1 := Lib.hid g1; have HG2 := Lib.hid g2; have HG3 := Lib.hid g3; clear g1 g2 g3 hB4)
        all_goals
          go_wp2_with fail
          go_end0
          have hg2 : World.grownBy wr w4 (Value.slice a j c).ownBlock := undrew (grown_alloc HG2.out)
          have hfin := HMX.out.store (L' := L ++ [(F, k, s, m, z, g)]) (fun k hk => Or.inl hk) hg2 (by rw [show (L ++ [((F, k, s, m, z, g) : Pr)]).length = j + 1 by rw [List.length_append, HN.out]; rfl]; exact HG1.out) (HG3.out.imp id fun e k' hk => by rw [hk] at e; cases e; have e2 := HMX.out.away.size; simp; omega)
          obtain ⟨S', r1, r2⟩ := hfin.done HH.out hs (by have := HH.out.ok.add (F, k, s, m, z, g); rw [HADD.out] at this; exact this)
          exact ⟨rfl, S', by rw [HADD.out]; exact r1, r2⟩
end Go.Proofs.Ytobnmdjpcmegiaa
