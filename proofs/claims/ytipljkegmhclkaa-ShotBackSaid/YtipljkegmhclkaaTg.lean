/-
  Right metas: which metas the reference's Right takes, a meta as at a shot, whether two are the same (layer 12). Conditions: the meta reads.
-/
import Derived.Test.YtipljkegmhclkaaSp
import Derived.Test.YtipljkegmhclkaaSv
import Derived.Test.YtipljkegmhclkaaSy
import Derived.Test.YtipljkegmhclkaaTa
import Derived.Test.YtipljkegmhclkaaTc
namespace Go.Proofs.Ytipljkegmhclkaa
open Go.RowKit
set_option linter.unusedVariables false

/-- Two boxed metas, all else below them as it was. -/
def Bx2 (w0 : World) (cs rs : Array Value) (W : World) : Prop := Blk W w0.heap.size 29 cs ∧ Blk W (w0.heap.size + 1) 29 rs ∧ Below w0.heap.size w0 W
theorem Bx2.first (w : World) (cs rs : Array Value) : Bx2 w cs rs ((w.alloc (.cells cs 29)).alloc (.cells rs 29)) := ⟨(Blk.new w _ _).alloc _, blk_next, ((Below.refl _ _).alloc (Nat.le_refl _) _).alloc (by simp) _⟩
theorem Bx2.later {w0 W W' : World} {cs rs : Array Value} (h : Bx2 w0 cs rs W) (hb : Below W.heap.size W W') : Bx2 w0 cs rs W' := ⟨h.1.later hb, h.2.1.later hb, h.2.2.trans (hb.mono h.2.2.size)⟩
end Go.Proofs.Ytipljkegmhclkaa
namespace Go.Proofs.Ytipljkegmhclkaa
open Go.RowKit
set_option linter.unusedVariables false

section
variable {w0 W W' : World} {L4 lo H : Nat} {cs os : Array Value} {ax : Option Addr} {nx cx : Nat} {T : Tb} {sax : Option Addr} {snx scx : Nat} {ds : List Sh} {max : Option Addr} {mnx mcx : Nat} {B : List BmM} {cax : Option Addr} {cnx ccx : Nat} {K : List Int}
/-- A copy in a box, whatever the box holds. -/
theorem Ad.boxed {w4 : World} (hC : Cp w0 w0.heap.size cs #[.int .i64 0, .int .i64 0, .string ByteArray.empty, .slice none 0 0, .slice none 0 0, .slice none 0 0, .slice none 0 0] w4) {base H0 : Nat} {x : Mt} {M : MM} (h : MetaN w4 base (Iv base H0) (From H0) x M) (hb : w0.heap.size ≤ base) : ∃ ds H, ds.map shM = M.S ∧ x.sn ≤ 1000 ∧ (∀ d ∈ M.S, ShMok d) ∧ ds.length = x.sn ∧ ∀ os, Ad w0 w4.heap.size base H cs os x.a0 x.n0 x.c0 M.T x.sa x.sn x.sc ds x.ma x.mn x.mc M.B x.ca x.cn x.cc M.K (w4.alloc (.cells os 29)) := by
  obtain ⟨_, _, _, hT, ⟨ds, hO, hS, hE, h1k, hSo⟩, hB, hK⟩ := h
  refine ⟨ds, H0, hE, h1k, hSo, hO.2.1, fun os => ?_⟩
  have k := KeepL.later L6 ((Below.refl _ w4).alloc (Nat.le_refl _) (.cells os 29))
  exact ⟨hC.later ((Below.refl _ w4).alloc (Nat.le_refl _) _), Blk.new w4 _ _, hC.size, (hT.mono hb (fun k _ h => h)).keep (by decide) (by decide) k, (hO.monoB hb).keep (L := L6) (by decide) k, fun d hd => ((hS d hd).mono hb (fun k _ h => Or.inr h)).keep (L := L6) (by decide) (by decide) k, (hB.mono hb).keep (by decide) (by decide) k, (hK.mono hb).keep (by decide) k⟩
/-- Another table. -/
theorem Ad.setT (h : Ad w0 L4 lo H cs os ax nx cx T sax snx scx ds max mnx mcx B cax cnx ccx K W) (hb : Below W.heap.size W W') {ta : Option Addr} {ll tc : Nat} {T' : Tb} (ht : TabN W' W.heap.size ta ll tc T') : Ad w0 L4 W.heap.size W'.heap.size cs os ta ll tc T' sax snx scx ds max mnx mcx B cax cnx ccx K W' := by
  have h' := h.later hb
  have k := KeepL.later L6 hb
  exact ⟨h'.cp, h'.ob, h'.far, ht.f.mono h.cp.dat.size (fun k _ h => h), h'.row, fun d hd => ((h.tabs d hd).clip.mono (G := Out W.heap.size W'.heap.size) (Nat.le_refl _) (fun k _ h => Or.inl h.2)).keep (L := L6) (by decide) (by decide) k, h'.B, h'.K⟩
/-- Other bitmaps. -/
theorem Ad.setB (h : Ad w0 L4 lo H cs os ax nx cx T sax snx scx ds max mnx mcx B cax cnx ccx K W) {ma : Option Addr} {mn mc : Nat} {B' : List BmM} (hB : BmsN W w0.heap.size ma mn mc B') : Ad w0 L4 lo H cs os ax nx cx T sax snx scx ds ma mn mc B' cax cnx ccx K W :=
  ⟨h.cp, h.ob, h.far, h.T, h.row, h.tabs, hB, h.K⟩
end
theorem subL_norm (l : List Sp) (s : Sp) : norm (subL l s) = subL l s := norm_of (subL_right l s)
theorem add_absorb (l : List Sp) (s t : Sp) (h1 : t.1 ≤ s.1) (h2 : s.2 ≤ t.2) (h3 : 0 ≤ t.1) (h4 : t.2 ≤ 1073741824) : addL (addL l s) t = addL l t := by
  by_cases ht : mayB t = true
  · refine same_list _ _ (addL_right _ _) (addL_right _ _) fun n => ?_
    rw [addL_in _ _ ht, addL_in _ _ ht, norm_of (addL_right l s)]
    by_cases hs : mayB s = true
    · rw [addL_in _ _ hs]
      constructor
      · rintro ((h | h) | h)
        · exact Or.inl h
        · exact Or.inr (by omega)
        · exact Or.inr h
      · rintro (h | h)
        · exact Or.inl (Or.inl h)
        · exact Or.inr h
    · have e : addL l s = norm l := by unfold addL; rw [if_neg hs]
      rw [e]
  · have e : ∀ m, addL m t = norm m := fun m => by unfold addL; rw [if_neg ht]
    rw [e, e]
    by_cases hs : mayB s = true
    · exfalso
      have h5 := (mayB_iff s).1 hs
      rw [mayB_iff] at ht
      omega
    · have e2 : addL l s = norm l := by unfold addL; rw [if_neg hs]
      rw [e2, norm_of (norm_right l)]
theorem touch_size (B : List BmM) (was now : Int) (h0 : 0 ≤ was) (h1 : now ≤ 1073741824) : (B.map (sizeF was now)).map (touchF (0, now)) = setAll B now := by
  unfold setAll
  rw [List.map_map]
  refine List.map_congr_left fun b _ => ?_
  obtain ⟨nm, on, l⟩ := b
  simp only [Function.comp, touchF, sizeF, setA]
  cases on with
  | false => simp
  | true =>
    by_cases hw : was < now
    · simp [hw, add_absorb (subL l (now, 1073741824)) (was, now) (0, now) h0 (Int.le_refl _) (Int.le_refl _) h1]
    · simp [hw]
end Go.Proofs.Ytipljkegmhclkaa
namespace Go.Proofs.Ytipljkegmhclkaa
open Go.RowKit
set_option linter.unusedVariables false

set_option maxRecDepth 20000 in
set_option maxHeartbeats 3200000 in
theorem refRight12 (w : World) (x : Mt) (M : MM) (h : MetaD w x M) (hK6 : x.cn ≤ 65536) : Calls Try.prog 6 #[.agg (mtA M x)] w (RightE (RightMt M) w) := by
  have hKl : M.K.length = x.cn := h.K.1.1
  by_cases hcr : 0 ≤ M.c ∧ M.c ≤ 6
  · by_cases h8 : M.S.length ≤ 8 ∧ M.B.length ≤ 8
    · exact refRight_main w x M h hcr h8.1 h8.2 (by omega)
    · have hno : Hid (RightMt M → false = true) := fun hr => absurd ⟨hr.nS, hr.nB⟩ h8
      obtain ⟨P, hP⟩ := named (RightMt M)
      rw [hP.out] at hno ⊢
      have hsl := h.S.lens
      have hml := h.B.lens
      obtain ⟨a0, n0, c0, sa, sn, sc, ma, mn, mc, ca, cn, cc⟩ := x
      obtain ⟨c, s, bk, T, S, B, K⟩ := M
      obtain ⟨hc, hs, hbk, hT, hS, hB, hK⟩ := h
      dsimp only [mtA] at hc hs hbk hcr h8 hsl hml hK6 hKl ⊢
      have HRT := Lib.hid (RtS.first w #[.int .i64 c, .int .i64 s, .string bk, .slice a0 n0 c0, .slice sa sn sc, .slice ma mn mc, .slice ca cn cc])
      have HSZ := Lib.hid (fun (n : Int) (hn : I64 n) (w : World) => szQ n c hn hcr w)
      have HNB := Lib.hid (fun (w : World) => nmQ bk hbk w)
      have dc1 : decide (c < 0) = false := decide_eq_false (by omega)
      have dc2 : decide (6 < c) = false := decide_eq_false (by omega)
      have dc3 : decide ((65536 : Int) < cn) = false := decide_eq_false (by omega)
      have HI := Lib.hid hs
      have hcs : decide ((8 : Int) < sn) = true ∨ (decide ((8 : Int) < sn) = false ∧ decide ((8 : Int) < mn) = true) := by
        rcases Nat.lt_or_ge 8 sn with h | h
        · exact Or.inl (decide_eq_true (by omega))
        · exact Or.inr ⟨decide_eq_false (by omega), decide_eq_true (by omega)⟩
      have hsn := hsl.2
      have hmn := hml.2
      clear hcr hs hbk hc hT hS hB hK h8 hKl hsl hml hP
      rcases hcs with k1 | ⟨k1, k2⟩
      all_goals
        go_enter Try.func6, Try.ntmps6
        cases he : bk.toList.isEmpty
      all_goals
        go_wp2_with (first
          | (go_at_call 24; refine (HSZ.out _ HI.out _).mono ?_; rintro e w1 ⟨B, rfl, h, hr⟩; have HRT := Lib.hid (HRT.out.later h); obtain ⟨m0, m1, m2, m3, m4, m5, m6⟩ := cells7 HRT.out.box; clear h hr; cases B)
          | (go_at_call 25; refine (HNB.out _).mono ?_; rintro e w2 ⟨B, rfl, h, hr⟩; have HRT := Lib.hid (HRT.out.later h); obtain ⟨m0, m1, m2, m3, m4, m5, m6⟩ := cells7 HRT.out.box; clear h hr; cases B))
      all_goals (go_ret; exact RightE.no rfl HRT.out.below hno.out)
  · have hno : Hid (RightMt M → false = true) := fun hr => absurd hr.c hcr
    obtain ⟨P, hP⟩ := named (RightMt M)
    rw [hP.out] at hno ⊢
    obtain ⟨a0, n0, c0, sa, sn, sc, ma, mn, mc, ca, cn, cc⟩ := x
    obtain ⟨c, s, bk, T, S, B, K⟩ := M
    dsimp only [mtA] at hcr ⊢
    have HB : Hid (Below w.heap.size w (w.alloc (.cells #[.int .i64 c, .int .i64 s, .string bk, .slice a0 n0 c0, .slice sa sn sc, .slice ma mn mc, .slice ca cn cc] 29))) := (Below.refl _ _).alloc (Nat.le_refl _) _
    have hcs : c < 0 ∨ (¬ c < 0 ∧ 6 < c) := by omega
    clear hcr h hKl hK6 hP
    rcases hcs with k1 | ⟨k1, k2⟩
    all_goals
      go_enter Try.func6, Try.ntmps6
      go_wp2
      go_ret
      exact RightE.no rfl HB.out hno.out
end Go.Proofs.Ytipljkegmhclkaa
namespace Go.Proofs.Ytipljkegmhclkaa
open Go.RowKit
set_option linter.unusedVariables false

theorem fnd_at {M : MM} (h : RightMt M) {k : Nat} {d : ShM} (hk : M.S[k]? = some d) : fndS d.1 M.S = k := (h.S k d hk).2.1
theorem dropM_at {M : MM} (h : RightMt M) {k : Nat} {d : ShM} (hk : M.S[k]? = some d) : dropM M d.1 = ({ M with S := M.S.take k ++ M.S.drop (k + 1) }, 0) := by
  unfold dropM
  rw [fnd_at h hk, if_neg (by omega)]
  rfl
theorem gone_at {M : MM} (h : RightMt M) {k : Nat} {d : ShM} (hk : M.S[k]? = some d) : fndS d.1 (M.S.take k ++ M.S.drop (k + 1)) = -1 := by
  refine fndS_none fun e he hn => ?_
  rcases List.mem_append.1 he with h1 | h1
  · obtain ⟨i, hi⟩ := List.getElem?_of_mem h1
    have hl := (List.getElem?_eq_some_iff.1 hi).1
    rw [List.length_take] at hl
    rw [List.getElem?_take_of_lt (by omega)] at hi
    have a := fnd_at h hi
    rw [hn, fnd_at h hk] at a
    omega
  · obtain ⟨i, hi⟩ := List.getElem?_of_mem h1
    rw [List.getElem?_drop] at hi
    have a := fnd_at h hi
    rw [hn, fnd_at h hk] at a
    omega
theorem left_at {S : List ShM} {k i : Nat} (hk : k < S.length) (hi : i < S.length - 1) : (S.take k ++ S.drop (k + 1))[i]? = S[if k ≤ i then i + 1 else i]? := by
  by_cases h : k ≤ i
  · rw [if_pos h, List.getElem?_append_right (by rw [List.length_take]; omega), List.getElem?_drop, List.length_take]
    congr 1
    omega
  · rw [if_neg h, List.getElem?_append_left (by rw [List.length_take]; omega), List.getElem?_take_of_lt (by omega)]
end Go.Proofs.Ytipljkegmhclkaa
namespace Go.Proofs.Ytipljkegmhclkaa
open Go.RowKit
set_option linter.unusedVariables false

theorem mild_of {M : MM} (h : RightMt M) (hB : ∀ b ∈ M.B, b.2.2.length ≤ 500) : Mild M :=
  ⟨h.c, by have := h.s.2.1; omega, fun d hd => by
    obtain ⟨i, hi⟩ := List.getElem?_of_mem hd
    have := (h.S i d hi).2.2.1.2.1
    omega, fun b hb => by have := hB b hb; omega⟩
theorem addM_z (M : MM) (nm : ByteArray) : I64 (addM M nm).2 := by
  unfold addM I64
  split
  · dsimp only; omega
  · split
    · dsimp only; omega
    · split <;> (dsimp only; omega)
theorem dropM_z (M : MM) (nm : ByteArray) : I64 (dropM M nm).2 := by
  unfold dropM I64
  split <;> (dsimp only; omega)
theorem backM_z (M : MM) (nm : ByteArray) : I64 (backM M nm).2 := by
  unfold backM I64
  split <;> (dsimp only; omega)
end Go.Proofs.Ytipljkegmhclkaa
