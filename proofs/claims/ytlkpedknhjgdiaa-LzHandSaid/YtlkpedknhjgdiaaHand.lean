/-
  Proved: 'matryoshkalaw3.LzHand' returns true for every input, and each argument reads afterwards as before: the statement LzHandSaid as given. Conditions: none beyond the row's own.
-/
import Derived.Test.YtlkpedknhjgdiaaRows
import Derived.Test.YtlkpedknhjgdiaaH3
import Derived.Test.YtlkpedknhjgdiaaR3
import Derived.WalkKit
import Derived.ProofKit
import Derived.OpenShut
import Derived.ShutString
import Derived.ChangeOld
import Derived.Below
namespace Go.Proofs.Ytlkpedknhjgdiaa.lzHand
open Go.ChangeShapes Go.WideShapes Go.ChangeAt Go.RowKit
open Go.ChangeMaps (open_string shut_string)
set_option linter.unusedVariables false

theorem own : ownKnob Try.prog.godebug = none := by kernel_rfl
theorem laidOut : laidOutB Try.prog = true := by kernel_rfl

/-- A slice of integers that came in: nil, or a row of cells. -/
def IsRow (k : IntKind) (w : World) (a : Option Addr) (len cap : Nat) (zs : List Int) : Prop :=
  (a = none ∧ len = 0 ∧ cap = 0 ∧ zs = []) ∨
  ∃ x, a = some x ∧ len ≤ cap ∧ cap ≤ maxLen ∧ zs.length = cap ∧ (∀ i, i < zs.length → w.cell? (x.add i) = some (.int k (zs.getD i 0))) ∧ ∀ n ∈ zs, (Lit.int k n).wf = true

theorem seqL_len (l : List Int) (far m : Nat) : (seqL l far m).length ≤ 2 * l.length + m + 10 := by
  have h1 := addedL_len l.length
  have h2 := addedL_len m
  unfold seqL
  simp only [List.length_append, List.length_cons, List.length_nil]
  omega
theorem bytes_to {w : World} {a : Option Addr} {n : Nat} {l k : List Int} (h : Bytes w a n l) (e : l = k) : Bytes w a n k := e ▸ h
theorem len_bound {s t : List Int} {n N k : Nat} (h : (s ++ t).length = k) (hs : s.length = n) (ht : t.length = N) (hb : n + N ≤ 9000) : k ≤ 9000 := by
  rw [← h, List.length_append, hs, ht]
  exact hb
theorem last_eq {s t : List Int} {x : Int} {n : Nat} (hx : x = ((min t.length 15 * 16 : Nat) : Int)) (hn : t.length = n) : s ++ [x] ++ addedL n ++ t = s ++ lastL t := by
  subst hx hn
  simp [lastL]
theorem hand_calls (a : Option Addr) (n c F m len0 len3 N : Nat) (l t : List Int) (w : World) (hB : Bytes w a n (seqL l F m ++ lastL t)) (hc : n ≤ c) (hnil : a = none → c = 0) (hn : n ≤ 100000) (h0 : 0 < F) (h1 : F ≤ len0) (hl : l.length = len0) (ht : t.length = len3) (hN : N = m + 4) (hb0 : len0 ≤ 2000) (hb3 : len3 ≤ 2000) (hm : m ≤ 1000) :
    (Calls Try.prog 12 #[.slice a n c, .int .i64 ((len0 : Int) + N + len3)] w (PutPost w (repL F N l ++ t) 0)) ∧ (Calls Try.prog 12 #[.slice a n c, .int .i64 ((len0 : Int) + N + len3 - 1)] w (PutPost w [] 2)) := by
  subst hl ht hN
  constructor
  · have := lzUnpack_any a n c ((l.length + (m + 4) + t.length : Nat) : Int) _ w hB hc hnil hn
    rw [hand_ok l t F m (l.length + (m + 4) + t.length) h0 h1 (by omega) rfl (by omega)] at this
    exact this
  · have := lzUnpack_any a n c ((l.length + (m + 4) + t.length - 1 : Nat) : Int) _ w hB hc hnil hn
    rw [hand_over l t F m (l.length + (m + 4) + t.length - 1) h0 h1 (by omega) (by omega) (by omega)] at this
    rw [show ((l.length + (m + 4) + t.length - 1 : Nat) : Int) = (l.length : Int) + ((m + 4 : Nat) : Int) + (t.length : Int) - 1 by omega] at this
    exact this

set_option maxHeartbeats 1600000 in
theorem walk (a0 : Option Addr) (len0 cap0 : Nat) (z0 : List Int) (a1 : Int) (a2 : Int) (a3 : Option Addr) (len3 cap3 : Nat) (z3 : List Int) (w : World) (w0 : IsRow .u8 w a0 len0 cap0 z0) (w1 : (Lit.int .u16 a1).wf = true) (w2 : (Lit.int .u16 a2).wf = true) (w3 : IsRow .u8 w a3 len3 cap3 z3) :
    Calls Try.prog 8 #[.slice a0 len0 cap0, .int .u16 a1, .int .u16 a2, .slice a3 len3 cap3] w fun e w' => e = .returned (.bool true) ∧ Below w.heap.size w w' := by
  by_cases h0 : len0 = 0
  · subst h0
    clear w0 w1 w2 w3
    go_enter Try.func8, Try.ntmps8
    go_wp2_with (go_at_call 11; refine (awake_any _).mono ?_; rintro e w1 ⟨rfl, hb⟩; have HB := Lib.hid hb; clear hb)
    go_ret
    exact ⟨rfl, HB.out⟩
  have hne : ((len0 : Int) == 0) = false := by simp; omega
  by_cases hbig : 2000 < len0
  · clear w0 w1 w2 w3
    go_enter Try.func8, Try.ntmps8
    go_wp2_with (go_at_call 11; refine (awake_any _).mono ?_; rintro e w1 ⟨rfl, hb⟩; have HB := Lib.hid hb; clear hb)
    go_ret
    exact ⟨rfl, HB.out⟩
  by_cases hbig3 : 2000 < len3
  · clear w0 w1 w2 w3
    go_enter Try.func8, Try.ntmps8
    go_wp2_with (go_at_call 11; refine (awake_any _).mono ?_; rintro e w1 ⟨rfl, hb⟩; have HB := Lib.hid hb; clear hb)
    go_ret
    exact ⟨rfl, HB.out⟩
  have hB0 := bytes_of w0 (by omega)
  have hB3 := bytes_of w3 (by omega)
  have hn0 : Hid (a0 = none → cap0 = 0) := by rcases w0 with ⟨_, _, h, _⟩ | ⟨x, h, _⟩ <;> intro e <;> simp_all
  have hn3 : Hid (a3 = none → cap3 = 0) := by rcases w3 with ⟨_, _, h, _⟩ | ⟨x, h, _⟩ <;> intro e <;> simp_all
  generalize z0.take len0 = l0 at hB0
  generalize z3.take len3 = l3 at hB3
  have u1 := bounds_u16 w1
  have u2 := bounds_u16 w2
  obtain ⟨F, hF, hF1, hF2⟩ : ∃ F : Nat, 1 + a1 % (len0 : Int) = (F : Int) ∧ 0 < F ∧ F ≤ len0 := by
    have g1 : 0 ≤ a1 % (len0 : Int) := Int.emod_nonneg _ (by omega)
    have g2 : a1 % (len0 : Int) < len0 := Int.emod_lt_of_pos _ (by omega)
    exact ⟨(1 + a1 % (len0 : Int)).toNat, by omega, by omega, by omega⟩
  obtain ⟨m, N, hN, hNm, hm⟩ : ∃ m N : Nat, 4 + a2 % 1000 = (N : Int) ∧ Hid (N = m + 4) ∧ m ≤ 1000 := ⟨(a2 % 1000).toNat, (4 + a2 % 1000).toNat, by omega, by rw [Hid]; omega, by omega⟩
  have hN1 : N ≤ 1004 := by have := hNm.out; omega
  have hN4 : 4 ≤ N := by have := hNm.out; omega
  have S1 : ∀ w', Bytes w' a0 len0 l0 → Calls Try.prog 16 #[.slice none 0 0, .slice a0 len0 cap0, .int .i64 F, .int .i64 N] w' (OwnPost w'.heap.size w' (seqL l0 F m)) := fun w' h => by
    have := seq_any a0 len0 cap0 F m l0 w' h hn0.out (by omega) (by omega) (by omega)
    rw [show ((m : Int) + 4) = (N : Int) by have := hNm.out; omega] at this
    exact this
  have S1 := Lib.hid S1
  have HB0 := Lib.hid hB0
  have HB3 := Lib.hid hB3
  have HL0 := Lib.hid hB0.1
  have HL3 := Lib.hid hB3.1
  have k1 := seqL_len l0 F m
  rw [hB0.1] at k1
  have K1 := Lib.hid k1
  obtain ⟨N2, HN2⟩ := named (addedL len3).length
  have hN2 := addedL_len len3
  rw [HN2.out] at hN2
  have KN := Lib.hid hN
  have KF := Lib.hid hF
  clear hB0 hB3 w0 w1 w2 w3 k1
  rcases (by omega : len3 ≤ 15 ∨ 15 < len3) with c3 | c3
  all_goals
    go_enter Try.func8, Try.ntmps8
    go_wp2_with (first
      | (go_at_call 16; ((with_reducible refine (S1.out _ HB0.out).mono ?_); rintro e w1 ⟨b1, n1, c1, hl1, rfl, hO1, hb1⟩; have hm1 : n1 ≤ 6000 := by { have := K1.out; omega }; have HO1 := Lib.hid hO1; have HG1 := Lib.hid hb1; clear hl1 hO1 hb1))
      | (at_builtin; refine append_more rfl (.tmp 46) (.tmp 52) rfl w.heap.size _ n1 _ rfl (HO1.out.alloc _) _ 1 1 [_] rfl (fun e => by cases e) (one_byte _ _ (by omega)) (by omega) (Nat.le_trans HG1.out.size (by simp)) ?_; intro b2 c2 w2 g1 g2; have HO2 := Lib.hid g1; have HG2 : Hid (Below w.heap.size w w2) := (HG1.out.alloc HG1.out.size _).trans g2; clear g1 g2)
      | (go_at_call 17; ((with_reducible refine (added_any w.heap.size _ c2 len3 b2 _ w2 HO2.out HG2.out.size (by omega) (by omega)).mono ?_); rintro e w3 ⟨b3, n3, k3, hl3, rfl, hO3, hb3⟩; have hm3 : n3 ≤ 9000 := len_bound hl3 HO2.out.len HN2.out (by omega); have HO3 := Lib.hid hO3; have HG3 := Lib.hid (HG2.out.trans hb3); clear hl3 hO3 hb3))
      | (at_builtin; refine append_more rfl (.tmp 58) (.tmp 59) rfl w.heap.size _ n3 _ rfl HO3.out a3 len3 cap3 l3 rfl hn3.out (HB3.out.later HG3.out) (by omega) HG3.out.size ?_; intro b4 c4 w4 g1 g2; have HB4 := Lib.hid g1.bytes.1; have HC4 := Lib.hid g1.capOk; have HN4 := Lib.hid g1.bytes.2; have HG4 := Lib.hid (HG3.out.trans g2); clear g1 g2)
      | (at_builtin; refine append_copy rfl (.tmp 61) (.tmp 62) rfl w4.heap.size rfl a0 len0 cap0 l0 rfl hn0.out (HB0.out.later HG4.out) (by omega) (Nat.le_refl _) ?_; intro b5 c5 w5 g1 g2; have HO5 := Lib.hid g1; have HG5 := Lib.hid g2; clear g1 g2))
    have HUN := Lib.hid (fun w (h : Below w4.heap.size w4 w) => hand_calls b4 (n3 + len3) c4 F m len0 len3 N l0 l3 w ((bytes_to HB4.out (last_eq (by { have h3 : l3.length = len3 := HL3.out; first | omega | (rw [if_pos (by omega)]; omega) }) HL3.out)).later h) HC4.out HN4.out (by omega) hF1 hF2 HL0.out HL3.out hNm.out (by omega) (by omega) hm)
    go_loopw [12, 13] (fun o i wr => ∃ (j c' : Nat) (a' : Option Addr), j ≤ N ∧ i = .int .i64 j ∧ o = .slice a' (len0 + j) c' ∧ Hid (Own wr w4.heap.size (.slice a' (len0 + j) c') (len0 + j) (repL F j l0)) ∧ Hid (Below w4.heap.size w4 wr)) (fun _ i _ => N - (intOf i).toNat)
    case atStart => exact ⟨0, c5, b5, Nat.zero_le _, rfl, rfl, HO5.out, HG5.out⟩
    case round =>
      obtain ⟨j, c', a', hj, rfl, rfl, HOj, HGj⟩ := hrel
      clear HO5 HG5
      by_cases hlt : j < N
      · obtain ⟨g, rfl, hgb, hgs⟩ := HOj.out.lies (by omega)
        obtain ⟨K, hK, hK2⟩ : ∃ K : Nat, (len0 : Int) + (j : Int) - (F : Int) = (K : Int) ∧ Hid (K = len0 + j - F) := ⟨len0 + j - F, by omega, by rw [Hid]⟩
        have hK3 : K < len0 + j := by have := hK2.out; omega
        obtain ⟨c8, HC8⟩ := named ((repL F j l0).getD K 0)
        have d8 := HOj.out.cell K hK3
        have b8 := HOj.out.2.at (k := K) (by rw [HOj.out.len]; exact hK3)
        rw [HC8.out] at d8 b8
        have HB8 := Lib.hid b8
        have HS8 : Hid (repL F (j + 1) l0 = repL F j l0 ++ [c8]) := by rw [Hid, repL_snoc, HOj.out.len, ← hK2.out, HC8.out]
        clear b8
        go_wp2_with (at_builtin; refine append_more rfl (.tmp 69) (.tmp 77) rfl w4.heap.size _ (len0 + j) _ rfl (HOj.out.alloc _) _ 1 1 [c8] rfl (fun e => by cases e) (one_byte _ c8 HB8.out) (by omega) (Nat.le_trans HGj.out.size (by simp)) ?_; intro a6 c6 w6 g1 g2; have HO6 := Lib.hid g1; have HG6 : Hid (Below w4.heap.size w4 w6) := (HGj.out.alloc HGj.out.size _).trans g2; clear g1 g2)
        go_roundw
        case rel => exact ⟨j + 1, c6, a6, by omega, by go_num, rfl, by rw [HS8.out]; exact HO6.out, HG6.out⟩
        case measure => simp [intOf]; omega
      · obtain rfl : j = N := by omega
        obtain ⟨WS, HWS⟩ := named (strOfNums (repL F j l0 ++ l3))
        obtain ⟨KK, HKK⟩ := named (repL F j l0 ++ l3).length
        have HKE : Hid (KK = len0 + j + len3) := by rw [Hid, ← HKK.out, List.length_append, repL_len, HL0.out, HL3.out]
        go_wp2_with (first
          | (go_at_call 14; go_in)
          | (at_builtin; refine append_more rfl (.tmp 79) (.tmp 80) rfl w4.heap.size _ (len0 + j) _ rfl HOj.out a3 len3 cap3 l3 rfl hn3.out (HB3.out.later (HG4.out.trans (HGj.out.mono HG4.out.size))) (by omega) HGj.out.size ?_; intro a7 c7 w7 g1 g2; have HB7 := Lib.hid g1.bytes.1; have HG7 : Hid (Below w4.heap.size w4 w7) := HGj.out.trans g2; clear g1 g2)
          | (go_at_call 12; ((with_reducible refine (HUN.out _ HG7.out).1.mono ?_); rintro e w8 hp; obtain ⟨a8, c8, rfl, hx, _, hb⟩ := hp.named HKK.out; have HB8 := Lib.hid hx; have HB78 := Lib.hid (HB7.out.later hb); have HG8 := Lib.hid (HG7.out.trans (hb.mono HG7.out.size)); clear hp hx hb))
          | (go_at_call 12; ((with_reducible refine (HUN.out _ HG8.out).2.mono ?_); rintro e w9 hp; obtain ⟨a9, c9, rfl, _, _, hb⟩ := hp.named (n := 0) rfl; have hcv1 := conv_str (HB8.out.later hb) c8; have hcv2 := conv_str (HB78.out.later hb) c7; rw [HWS.out] at hcv1 hcv2; have HG9 := Lib.hid (HG8.out.trans (hb.mono HG8.out.size)); clear hp hb))
          | (go_at_call 11; refine (awake_any _).mono ?_; rintro e w10 ⟨rfl, hb⟩; have HZ := Lib.hid ((HG4.out.trans (HG9.out.mono HG4.out.size)).trans (hb.mono (Nat.le_trans HG4.out.size HG9.out.size))); clear hb))
        go_ret
        exact ⟨rfl, HZ.out⟩

set_option maxRecDepth 100000 in
theorem lifted (os : Os) (started : os.Started) (H : Type) (enc : TypeId × Value → H) :
    ReturnsInHanded {} Try.checked os 8 .any (Rows.lzHandSpec.pre6 enc Try.prog Try.f8 Rows.lzHandRow.domain false) (Rows.lzHandSpec.post enc Try.prog Try.f8 false true false false) := by
  refine returnsInHanded_of_change (C := Try.checked) own started (by kernel_rfl) Try.func8
    (ChangeSpec.witness6 (enc := enc) (C := Try.checked) false ⟨#[], #[.slice none 0 0, .int .u16 0, .int .u16 0, .slice none 0 0], []⟩ 8 (by kernel_rfl) (by kernel_rfl) (by kernel_rfl) (by kernel_rfl)) ?_
  intro W base args ds gs before hval0 hW hcnd _
  have hval : ∀ (j : Nat) t v, Try.f8.params[j]? = some t → args[j]? = some v → Value.okWide Try.prog W .any base t v := hval0
  have hW' := hW
  obtain ⟨p, q, hA0, hV, rfl, hfz, hnd⟩ := hW
  have hA : DataW.TrodAll enc Try.prog W 0 (fun _ => true) true Try.f8.params.toList args.toList ds p := hA0
  rw [Try.params8] at hA hval
  obtain ⟨v0, vs0, d0, ds0, p0, q0, hargs, rfl, rfl, h0, r0⟩ := trodAll_cons hA
  obtain ⟨v1, vs1, d1, ds1, p1, q1, rfl, rfl, rfl, h1, r1⟩ := trodAll_cons r0
  obtain ⟨v2, vs2, d2, ds2, p2, q2, rfl, rfl, rfl, h2, r2⟩ := trodAll_cons r1
  obtain ⟨v3, vs3, d3, ds3, p3, q3, rfl, rfl, rfl, h3, r3⟩ := trodAll_cons r2
  obtain ⟨rfl, rfl, rfl⟩ := trodAll_nil r3
  obtain rfl : args = #[v0, v1, v2, v3] := by cases args; simp_all
  obtain ⟨rfl, rfl⟩ := trodVars_none hV
  obtain ⟨a0, len0, cap0, rfl⟩ := okWide_slice Try.underlying22 (hval 0 22 v0 rfl rfl)
  have k0 := h0
  have lt0 : ∀ x ∈ p0, x.block < W.heap.size := by obtain ⟨m, hm⟩ := k0; exact DataW.trod_lt m _ _ _ hm
  obtain ⟨z0, w0⟩ : ∃ zs, IsRow .u8 W a0 len0 cap0 zs := by
    obtain ⟨fuel, hf⟩ := h0
    rcases open_ints Try.underlying22 Try.underlying5 (by kernel_rfl) hf with ⟨hcs, _⟩ | ⟨x, l, c, zs, hcs, _, hl, hm, hz, _, hcell, hwz⟩
    · simp [Value.cells] at hcs
      obtain ⟨rfl, rfl, rfl⟩ := hcs
      exact ⟨[], .inl ⟨rfl, rfl, rfl, rfl⟩⟩
    · simp [Value.cells] at hcs
      obtain ⟨rfl, rfl, rfl⟩ := hcs
      exact ⟨zs, .inr ⟨_, rfl, hl, hm, by simpa using hz, hcell, hwz⟩⟩
  obtain ⟨a1, rfl, rfl, rfl, w1⟩ := open_int Try.underlying33 (hval 1 33 v1 rfl rfl) h1
  obtain ⟨a2, rfl, rfl, rfl, w2⟩ := open_int Try.underlying33 (hval 2 33 v2 rfl rfl) h2
  obtain ⟨a3, len3, cap3, rfl⟩ := okWide_slice Try.underlying22 (hval 3 22 v3 rfl rfl)
  have k3 := h3
  have lt3 : ∀ x ∈ p3, x.block < W.heap.size := by obtain ⟨m, hm⟩ := k3; exact DataW.trod_lt m _ _ _ hm
  obtain ⟨z3, w3⟩ : ∃ zs, IsRow .u8 W a3 len3 cap3 zs := by
    obtain ⟨fuel, hf⟩ := h3
    rcases open_ints Try.underlying22 Try.underlying5 (by kernel_rfl) hf with ⟨hcs, _⟩ | ⟨x, l, c, zs, hcs, _, hl, hm, hz, _, hcell, hwz⟩
    · simp [Value.cells] at hcs
      obtain ⟨rfl, rfl, rfl⟩ := hcs
      exact ⟨[], .inl ⟨rfl, rfl, rfl, rfl⟩⟩
    · simp [Value.cells] at hcs
      obtain ⟨rfl, rfl, rfl⟩ := hcs
      exact ⟨zs, .inr ⟨_, rfl, hl, hm, by simpa using hz, hcell, hwz⟩⟩
  clear hA0 hval0
  refine (walk a0 len0 cap0 z0 a1 a2 a3 len3 cap3 z3 W w0 w1 w2 w3).mono fun e W' ⟨he, bel⟩ => ?_
  subst he
  exact ⟨_, rfl, _, _, _, [], _, [], hW', trodAll_mk1 (shut_bool Try.underlying4 _), (trodAll_cons_mk (Below.trod laidOut (by kernel_rfl) (of_decide_eq_true (by kernel_rfl)) k0 bel lt0) (trodAll_cons_mk (shut_int Try.underlying33 w1) (trodAll_cons_mk (shut_int Try.underlying33 w2) (trodAll_cons_mk (Below.trod laidOut (by kernel_rfl) (of_decide_eq_true (by kernel_rfl)) k3 bel lt3) trodAll_mk0)))), rfl, bel.frame _, fun h => by cases h⟩

theorem over : Rows.lzHandRow.holds Try.pinned (OpenSpec.ofChange Rows.lzHandSpec) :=
  OpenClaim.holds_of_wide 8 Try.f8 rfl rfl rfl rfl rfl rfl rfl ⟨rfl, rfl, rfl, rfl, rfl⟩ rfl rfl rfl rfl rfl (by kernel_rfl) Try.func8 (by kernel_rfl)
    (of_decide_eq_true (by kernel_rfl)) (by unfold Func.isWrapper; first | (rw [if_pos (by decide +kernel)]; kernel_rfl) | (rw [if_neg (by decide +kernel)]; exact ⟨rfl, rfl⟩))
    (fun os started H enc _ => lifted os started H enc)

/-- The statement. -/
theorem proved : Rows.LzHandSaid := over
#print axioms proved
end Go.Proofs.Ytlkpedknhjgdiaa.lzHand
