/-
  Metas as the count's statements use them: small, right; one shot more. Conditions: the meta came in.
-/
import Derived.Test.YtidknkhkblloaaaZ0
namespace Go.Proofs.Ytidknkhkblloaaa
open Go.RowKit
set_option linter.unusedVariables false

set_option maxRecDepth 20000 in
set_option maxHeartbeats 3200000 in
theorem rightM_any (w : World) (c s : Int) (bk : ByteArray) (a0 : Option Addr) (n0 c0 : Nat) (sa : Option Addr) (sn sc : Nat) (ma : Option Addr) (mn mc : Nat) (ca : Option Addr) (cn cc : Nat) (T : Tb) (S : List Sh) (gm : Nat → MpA) (f : Nat → Int)
    (hc : I64 c) (hs : I64 s) (hbk : bk.size ≤ 9223372036854775807) (hT : Tab w a0 n0 c0 T) (hS : ShsR w sa sn S) (hSn : ∀ d ∈ S, I64 d.2.1 ∧ d.1.size ≤ 9223372036854775807) (hsn : sn ≤ 20)
    (hM : Row3 w ma mn (fun i => .string (gm i).1) (fun i => .bool (gm i).2.1) (fun i => .slice (gm i).2.2.1 (gm i).2.2.2.1 (gm i).2.2.2.2)) (hMs : ∀ i, i < mn → (gm i).1.size ≤ 9223372036854775807 ∧ (gm i).2.2.2.1 ≤ 500 ∧ ∃ l, Spans w (gm i).2.2.1 (gm i).2.2.2.1 l) (hmn : mn ≤ 20)
    (hC : IntsR w ca cn f) (hcn : cn ≤ 20000) :
    Calls Try.prog 12 #[.agg #[.int .i64 c, .int .i64 s, .string bk, .slice a0 n0 c0, .slice sa sn sc, .slice ma mn mc, .slice ca cn cc]] w (RightQ (RightX T S ∧ sn ≤ 8) w) := by
  by_cases hcr : 0 ≤ c ∧ c ≤ 6
  · by_cases h8 : sn ≤ 8 ∧ mn ≤ 8
    · exact rightM_main w c s bk a0 n0 c0 sa sn sc ma mn mc ca cn cc T S gm f hc hs hbk hT hS hSn hsn hM hMs hmn hC hcn hcr h8.1 h8.2
    · have HRT := Lib.hid (RtS.first w (mtC c s bk a0 n0 c0 sa sn sc (.slice ma mn mc) (.slice ca cn cc)))
      have HSZ := Lib.hid (fun (n : Int) (hn : I64 n) (w : World) => sized0 n c hn hcr w)
      have HNB := Lib.hid (fun (w : World) => name0 bk hbk w)
      have dc1 : decide (c < 0) = false := decide_eq_false (by omega)
      have dc2 : decide (6 < c) = false := decide_eq_false (by omega)
      have dc3 : decide ((65536 : Int) < cn) = false := decide_eq_false (by omega)
      have HI := Lib.hid hs
      have hcs : decide ((8 : Int) < sn) = true ∨ (decide ((8 : Int) < sn) = false ∧ decide ((8 : Int) < mn) = true) := by
        rcases Nat.lt_or_ge 8 sn with h | h
        · exact Or.inl (decide_eq_true (by omega))
        · exact Or.inr ⟨decide_eq_false (by omega), decide_eq_true (by omega)⟩
      clear hcr hs hbk hc hT hS hSn hM hMs hC h8 hsn hmn hcn
      rcases hcs with k1 | ⟨k1, k2⟩
      all_goals
        go_enter Try.func12, Try.ntmps12
        cases he : bk.toList.isEmpty
      all_goals
        go_wp2_with (first
          | (go_at_call 23; refine (HSZ.out _ HI.out _).mono ?_; rintro e w1 ⟨B, rfl, h⟩; have HRT := Lib.hid (HRT.out.later h); obtain ⟨m0, m1, m2, m3, m4, m5, m6⟩ := mt_cells HRT.out.box; clear h; cases B)
          | (go_at_call 24; refine (HNB.out _).mono ?_; rintro e w2 ⟨B, rfl, h⟩; have HRT := Lib.hid (HRT.out.later h); obtain ⟨m0, m1, m2, m3, m4, m5, m6⟩ := mt_cells HRT.out.box; clear h; cases B))
      all_goals (go_ret; exact RightQ.no rfl HRT.out.below)
  · have HB : Hid (Below w.heap.size w (w.alloc (.cells #[.int .i64 c, .int .i64 s, .string bk, .slice a0 n0 c0, .slice sa sn sc, .slice ma mn mc, .slice ca cn cc] 29))) := (Below.refl _ _).alloc (Nat.le_refl _) _
    have hcs : c < 0 ∨ (¬ c < 0 ∧ 6 < c) := by omega
    clear hcr hs hbk hc hT hS hSn hM hMs hC hsn hmn hcn
    rcases hcs with k1 | ⟨k1, k2⟩
    all_goals
      go_enter Try.func12, Try.ntmps12
      go_wp2
      go_ret
      exact RightQ.no rfl HB.out
/-- A meta that came in, small: what it reads as. -/
structure MetaS (w : World) (c s : Int) (bk : ByteArray) (a0 : Option Addr) (n0 c0 : Nat) (sa : Option Addr) (sn : Nat) (ma : Option Addr) (mn : Nat) (ca : Option Addr) (cn : Nat) (T : Tb) (S : List Sh) (gm : Nat → MpA) (f : Nat → Int) : Prop where
  hc : I64 c
  hs : I64 s
  hbk : bk.size ≤ 9223372036854775807
  hT : Tab w a0 n0 c0 T
  hS : ShsR w sa sn S
  hSn : ∀ d ∈ S, I64 d.2.1 ∧ d.1.size ≤ 9223372036854775807
  hsn : sn ≤ 20
  hM : Row3 w ma mn (fun i => .string (gm i).1) (fun i => .bool (gm i).2.1) (fun i => .slice (gm i).2.2.1 (gm i).2.2.2.1 (gm i).2.2.2.2)
  hMs : ∀ i, i < mn → (gm i).1.size ≤ 9223372036854775807 ∧ (gm i).2.2.2.1 ≤ 500 ∧ ((gm i).2.2.1 = none → (gm i).2.2.2.2 = 0) ∧ ∃ l, Spans w (gm i).2.2.1 (gm i).2.2.2.1 l
  hmn : mn ≤ 20
  hC : IntsR w ca cn f
  hcn : cn ≤ 20000
theorem MetaS.later {w w' : World} {c s : Int} {bk : ByteArray} {a0 : Option Addr} {n0 c0 : Nat} {sa : Option Addr} {sn : Nat} {ma : Option Addr} {mn : Nat} {ca : Option Addr} {cn : Nat} {T : Tb} {S : List Sh} {gm : Nat → MpA} {f : Nat → Int} (h : MetaS w c s bk a0 n0 c0 sa sn ma mn ca cn T S gm f) (hb : Below w.heap.size w w') : MetaS w' c s bk a0 n0 c0 sa sn ma mn ca cn T S gm f :=
  ⟨h.hc, h.hs, h.hbk, h.hT.later hb, h.hS.later hb, h.hSn, h.hsn, h.hM.later hb, fun i hi => by
    obtain ⟨h1, h2, h3, l, h4⟩ := h.hMs i hi
    exact ⟨h1, h2, h3, l, h4.later hb⟩, h.hmn, h.hC.later hb, h.hcn⟩
theorem TabArg.later {w w' : World} {a : Option Addr} {len cap : Nat} (h : TabArg w a len cap) (hb : Below w.heap.size w w') : TabArg w' a len cap := by
  obtain ⟨h1, g, h2, h3⟩ := h
  exact ⟨h1, g, h2.later hb, fun i hi h6 => by
    obtain ⟨xs, hx⟩ := h3 i hi h6
    exact ⟨xs, hx.later hb⟩⟩
theorem IsSpans.later {w w' : World} {a : Option Addr} {len cap : Nat} {z : List Sp} (h : IsSpans w a len cap z) (hb : Below w.heap.size w w') : IsSpans w' a len cap z := by
  rcases h with h | ⟨x, h1, h2, h3, h4, h5⟩
  · exact Or.inl h
  · refine Or.inr ⟨x, h1, h2, h3, h4, fun i hi => ?_⟩
    obtain ⟨k1, k2, k3⟩ := h5 i hi
    exact ⟨(hb.cell (block_lt_of_cell k1)).trans k1, (hb.cell (block_lt_of_cell k2)).trans k2, k3⟩
theorem MetaArg.later {w w' : World} {c s : Int} {bk : ByteArray} {a0 : Option Addr} {n0 c0 : Nat} {sa : Option Addr} {sn sc : Nat} {ma : Option Addr} {mn mc : Nat} {ca : Option Addr} {cn cc : Nat} (h : MetaArg w c s bk a0 n0 c0 sa sn sc ma mn mc ca cn cc) (hb : Below w.heap.size w w') : MetaArg w' c s bk a0 n0 c0 sa sn sc ma mn mc ca cn cc :=
  ⟨h.c, h.s, h.bk, h.tab.later hb, by
    obtain ⟨g, h1, h2⟩ := h.shots
    exact ⟨g, h1.later hb, fun i hi => ⟨(h2 i hi).1, (h2 i hi).2.1, (h2 i hi).2.2.later hb⟩⟩, by
    obtain ⟨g, h1, h2⟩ := h.maps
    exact ⟨g, h1.later hb, fun i hi => ⟨(h2 i hi).1, by obtain ⟨z, hz⟩ := (h2 i hi).2; exact ⟨z, hz.later hb⟩⟩⟩, by
    obtain ⟨f, hf⟩ := h.counts
    exact ⟨f, hf.later hb⟩⟩
theorem GreatQ.mono {S S' : Prop} {w : World} (hs : S → S') {e : Ending} {w' : World} (h : GreatQ S w e w') : GreatQ S' w e w' := by
  obtain ⟨G, h1, h2, h3⟩ := h
  exact ⟨G, h1, h2, fun h => hs (h3 h)⟩
theorem sh_mk (w : World) (a : Option Addr) (len : Nat) (gs : Nat → ShA) (TT : Nat → Tb) (hlen : len ≤ 1000) (h : Row3 w a len (fun i => .string (gs i).1) (fun i => .int .i64 (gs i).2.1) (fun i => .slice (gs i).2.2.1 (gs i).2.2.2.1 (gs i).2.2.2.2)) (hT : ∀ i, i < len → Tab w (gs i).2.2.1 (gs i).2.2.2.1 (gs i).2.2.2.2 (TT i)) :
    ShsR w a len ((List.range len).map fun i => ((gs i).1, (gs i).2.1, (gs i).2.2.1, (gs i).2.2.2.1, (gs i).2.2.2.2, TT i)) := by
  refine ⟨⟨by simp, by omega, ?_⟩, fun d hd => ?_⟩
  · by_cases h0 : len = 0
    · exact Or.inl h0
    · obtain ⟨b, off, e, hb, hc⟩ := h.2 (by omega)
      refine Or.inr ⟨b, off, e, hb, fun j u hu => ?_⟩
      have hlt : j < len * 3 := by
        rcases Nat.lt_or_ge j (len * 3) with h' | h'
        · exact h'
        · rw [List.getElem?_eq_none (by rw [flat_len sh_rowed.len, List.length_map, List.length_range]; exact h')] at hu
          cases hu
      have hd : j / 3 < len := by omega
      have hat := flat_at sh_rowed.len ((List.range len).map fun i => ((gs i).1, (gs i).2.1, (gs i).2.2.1, (gs i).2.2.2.1, (gs i).2.2.2.2, TT i)) (j / 3) (j % 3) _ (by rw [List.getElem?_map, List.getElem?_range hd]; rfl) (Nat.mod_lt _ (by omega))
      rw [show j / 3 * 3 + j % 3 = j by omega, hu] at hat
      obtain ⟨x1, x2, x3⟩ := hc (j / 3) hd
      dsimp only at x1 x2 x3
      have hj : j = j / 3 * 3 + j % 3 := by omega
      obtain hr | hr | hr : j % 3 = 0 ∨ j % 3 = 1 ∨ j % 3 = 2 := by omega
      · rw [hr] at hat
        rw [show off + j = off + j / 3 * 3 by omega, x1]
        exact hat.symm
      · rw [hr] at hat
        rw [show off + j = off + j / 3 * 3 + 1 by omega, x2]
        exact hat.symm
      · rw [hr] at hat
        rw [show off + j = off + j / 3 * 3 + 2 by omega, x3]
        exact hat.symm
  · obtain ⟨i, hi, rfl⟩ := List.mem_map.1 hd
    exact hT i (List.mem_range.1 hi)
/-- Great, of whatever meta came in. -/
theorem great_meta {w : World} {c s : Int} {bk : ByteArray} {a0 : Option Addr} {n0 c0 : Nat} {sa : Option Addr} {sn sc : Nat} {ma : Option Addr} {mn mc : Nat} {ca : Option Addr} {cn cc : Nat} (h : MetaArg w c s bk a0 n0 c0 sa sn sc ma mn mc ca cn cc) :
    Calls Try.prog 11 #[.agg #[.int .i64 c, .int .i64 s, .string bk, .slice a0 n0 c0, .slice sa sn sc, .slice ma mn mc, .slice ca cn cc]] w (GreatQ (∃ T S gm f, MetaS w c s bk a0 n0 c0 sa sn ma mn ca cn T S gm f) w) := by
  have hTab := h.tab
  obtain ⟨hcaps, gT, oT, lT⟩ := h.tab
  obtain ⟨gs, hs1, hs2⟩ := h.shots
  obtain ⟨gm, hm1, hm2⟩ := h.maps
  obtain ⟨f, hf⟩ := h.counts
  obtain ⟨hh, hhh⟩ := Go.Deep.choose_lt (α := Nat → Option Addr × Nat × Nat) (fun i (hi : i < sn) => (hs2 i hi).2.2.2)
  have hml : ∀ i, i < mn → (gm i).2.2.2.1 ≤ 9223372036854775807 := fun i hi => by
    obtain ⟨_, z, hz⟩ := hm2 i hi
    rcases hz with ⟨_, h0, _⟩ | ⟨x, _, h1, h2, _⟩
    · omega
    · unfold maxLen at h2
      omega
  refine (greatM_any w c s bk a0 n0 c0 sa sn sc ma mn mc ca cn cc gT gs hh gm oT hs1 (fun i hi => (hhh i hi).1) hm1 h.bk hf.1 (fun i hi => (hs2 i hi).2.1) (fun i hi => (hm2 i hi).1) hml).mono fun e w' hq => hq.mono fun hsm => ?_
  obtain ⟨T, hT⟩ := hTab.tab oT lT hsm.t
  obtain ⟨TT, hTT⟩ := Go.Deep.choose_lt (α := Tb) (fun i (hi : i < sn) => (hs2 i hi).2.2.tab (hhh i hi).1 (hhh i hi).2 (hsm.s i hi))
  refine ⟨T, _, gm, f, h.c, h.s, h.bk, hT, sh_mk w sa sn gs TT (by have := hsm.hsn; omega) hs1 hTT, fun d hd => ?_, hsm.hsn, hm1, fun i hi => ?_, hsm.hmn, hf, hsm.hcn⟩
  · obtain ⟨i, hi, rfl⟩ := List.mem_map.1 hd
    have := hs2 i (List.mem_range.1 hi)
    exact ⟨this.1, this.2.1⟩
  · obtain ⟨h1, z, hz⟩ := hm2 i hi
    obtain ⟨l, hl, _, hn, _⟩ := spans_arg hz (by have := hsm.m i hi; omega)
    exact ⟨h1, hsm.m i hi, hn, l, hl⟩
/-- Right, of a small one. -/
theorem right_meta {w : World} {c s : Int} {bk : ByteArray} {a0 : Option Addr} {n0 c0 : Nat} {sa : Option Addr} {sn sc : Nat} {ma : Option Addr} {mn mc : Nat} {ca : Option Addr} {cn cc : Nat} {T : Tb} {S : List Sh} {gm : Nat → MpA} {f : Nat → Int} (h : MetaS w c s bk a0 n0 c0 sa sn ma mn ca cn T S gm f) :
    Calls Try.prog 12 #[.agg #[.int .i64 c, .int .i64 s, .string bk, .slice a0 n0 c0, .slice sa sn sc, .slice ma mn mc, .slice ca cn cc]] w (RightQ (RightX T S ∧ sn ≤ 8) w) :=
  rightM_any w c s bk a0 n0 c0 sa sn sc ma mn mc ca cn cc T S gm f h.hc h.hs h.hbk h.hT h.hS h.hSn h.hsn h.hM (fun i hi => by obtain ⟨h1, h2, _, h3⟩ := h.hMs i hi; exact ⟨h1, h2, h3⟩) h.hmn h.hC h.hcn
/-- What the laws ask of a meta's functions. -/
theorem of_m {w : World} {c s : Int} {bk : ByteArray} {a0 : Option Addr} {n0 c0 : Nat} {sa : Option Addr} {sn sc : Nat} {ma : Option Addr} {mn mc : Nat} {ca : Option Addr} {cn cc : Nat} {T : Tb} {S : List Sh} {gm : Nat → MpA} {f : Nat → Int} (h : MetaS w c s bk a0 n0 c0 sa sn ma mn ca cn T S gm f) (hR : RightX T S) (n : Nat) (hn : n ≤ 65536) :
    Calls Try.prog 15 #[.agg #[.int .i64 c, .int .i64 s, .string bk, .slice a0 n0 c0, .slice sa sn sc, .slice ma mn mc, .slice ca cn cc], .int .i64 n] w fun e w' => ∃ R, e = .returned (.slice (some ⟨R, 0, none⟩) n n) ∧ w.heap.size ≤ R ∧ IRow w' R n (ofL (allLines T (S.map shT))) ∧ Below w.heap.size w w' :=
  of_any w c s bk a0 n0 c0 sa sn sc ma mn mc ca cn cc T S h.hT h.hS hR (by have := h.hsn; omega) n hn
theorem refOf_m {w : World} {c s : Int} {bk : ByteArray} {a0 : Option Addr} {n0 c0 : Nat} {sa : Option Addr} {sn sc : Nat} {ma : Option Addr} {mn mc : Nat} {ca : Option Addr} {cn cc : Nat} {T : Tb} {S : List Sh} {gm : Nat → MpA} {f : Nat → Int} (h : MetaS w c s bk a0 n0 c0 sa sn ma mn ca cn T S gm f) (hR : RightX T S) (n : Nat) (hn : n ≤ 65536) :
    Calls Try.prog 16 #[.agg #[.int .i64 c, .int .i64 s, .string bk, .slice a0 n0 c0, .slice sa sn sc, .slice ma mn mc, .slice ca cn cc], .int .i64 n] w fun e w' => ∃ R, e = .returned (.slice (some ⟨R, 0, none⟩) n n) ∧ w.heap.size ≤ R ∧ IRow w' R n (ofL (allLines T (S.map shT))) ∧ Below w.heap.size w w' :=
  refOf_any w c s bk a0 n0 c0 sa sn sc ma mn mc ca cn cc T S h.hT h.hS hR (by have := h.hsn; omega) n hn
theorem each_m {w : World} {c s : Int} {bk : ByteArray} {a0 : Option Addr} {n0 c0 : Nat} {sa : Option Addr} {sn sc : Nat} {ma : Option Addr} {mn mc : Nat} {ca : Option Addr} {cn cc : Nat} {T : Tb} {S : List Sh} {gm : Nat → MpA} {f : Nat → Int} (h : MetaS w c s bk a0 n0 c0 sa sn ma mn ca cn T S gm f) (hR : RightX T S) :
    Calls Try.prog 18 #[.agg #[.int .i64 c, .int .i64 s, .string bk, .slice a0 n0 c0, .slice sa sn sc, .slice ma mn mc, .slice ca cn cc]] w fun e w' => ∃ (a' : Option Addr) (N c' : Nat), e = .returned (.slice a' N c') ∧ OwnLn w' w.heap.size (.slice a' N c') N (allLines T (S.map shT)) ∧ Below w.heap.size w w' :=
  each_any w c s bk a0 n0 c0 sa sn sc ma mn mc ca cn cc T S h.hT h.hS hR (by have := h.hsn; omega)
theorem refEach_m {w : World} {c s : Int} {bk : ByteArray} {a0 : Option Addr} {n0 c0 : Nat} {sa : Option Addr} {sn sc : Nat} {ma : Option Addr} {mn mc : Nat} {ca : Option Addr} {cn cc : Nat} {T : Tb} {S : List Sh} {gm : Nat → MpA} {f : Nat → Int} (h : MetaS w c s bk a0 n0 c0 sa sn ma mn ca cn T S gm f) (hR : RightX T S) :
    Calls Try.prog 17 #[.agg #[.int .i64 c, .int .i64 s, .string bk, .slice a0 n0 c0, .slice sa sn sc, .slice ma mn mc, .slice ca cn cc]] w fun e w' => ∃ (a' : Option Addr) (N c' : Nat), e = .returned (.slice a' N c') ∧ OwnLn w' w.heap.size (.slice a' N c') N (allLines T (S.map shT)) ∧ N ≤ 4096 * 901 ∧ Below w.heap.size w w' :=
  refEachM_any w c s bk a0 n0 c0 sa sn sc ma mn mc ca cn cc T S h.hT h.hS hR (by have := h.hsn; omega)
end Go.Proofs.Ytidknkhkblloaaa
