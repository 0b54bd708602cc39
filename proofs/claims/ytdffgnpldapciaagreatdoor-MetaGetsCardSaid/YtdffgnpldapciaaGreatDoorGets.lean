/-
  Proved: 'matryoshkalaw14.MetaGets' returns true for every input: the statement MetaGetsCardSaid as given. Conditions: none beyond the row's own.
-/
import Derived.Test.YtdffgnpldapciaaGreatDoorRows
import Derived.Test.YtdffgnpldapciaaGreatDoorV8
import Derived.Test.YtdffgnpldapciaaGreatDoorTie
import Derived.Test.YtdffgnpldapciaaGreatDoorCards
import Derived.SevenTiedAt
import Derived.LaidLaws
import Derived.Stop.Joined
import Derived.Test.YtdffgnpldapciaaGreatDoorZd
import Derived.Test.YtdffgnpldapciaaGreatDoorYz
import Derived.Test.YtdffgnpldapciaaGreatDoorSq
import Derived.Test.YtdffgnpldapciaaGreatDoorV8
import Derived.WalkKit
import Derived.ProofKit
import Derived.OpenShut
import Derived.ShutString
import Derived.ChangeOld
import Derived.Below
namespace Go.Proofs.YtdffgnpldapciaaGreatDoor.metaGets
open Go.ChangeShapes Go.WideShapes Go.ChangeAt Go.RowKit
open Go.ChangeMaps (open_string shut_string)
set_option linter.unusedVariables false

theorem own : ownKnob Tryz.prog.godebug = none := by kernel_rfl
theorem laidOut : laidOutB Tryz.prog = true := by kernel_rfl

/-- A slice of integers that came in: nil, or a row of cells. -/
def IsRow (k : IntKind) (w : World) (a : Option Addr) (len cap : Nat) (zs : List Int) : Prop :=
  (a = none ∧ len = 0 ∧ cap = 0 ∧ zs = []) ∨
  ∃ x, a = some x ∧ len ≤ cap ∧ cap ≤ maxLen ∧ zs.length = cap ∧ (∀ i, i < zs.length → w.cell? (x.add i) = some (.int k (zs.getD i 0))) ∧ ∀ n ∈ zs, (Lit.int k n).wf = true

/-- What either side tells of bytes. -/
def GotL (l : List Int) (M : MM) (f : Int) : Prop := (f = 0 ∧ (RightMt M ∧ EnM M) ∧ l = encM M) ∨ (f = 3 ∧ M = MM0 ∧ ∀ M', RightMt M' → EnM M' → l ≠ encM M')
theorem GotL.same {l : List Int} {M M' : MM} {f f' : Int} (h : GotL l M f) (h' : GotL l M' f') : M' = M ∧ f' = f := by
  rcases h with ⟨rfl, ⟨h1, h2⟩, h3⟩ | ⟨rfl, rfl, h3⟩
  · rcases h' with ⟨rfl, ⟨k1, k2⟩, k3⟩ | ⟨rfl, rfl, k3⟩
    · exact ⟨(encM_tells (r := []) (r' := []) k1.sml h1.sml k2 h2 (by rw [← k3, ← h3])).1, rfl⟩
    · exact absurd h3 (k3 M h1 h2)
  · rcases h' with ⟨rfl, ⟨k1, k2⟩, k3⟩ | ⟨rfl, rfl, k3⟩
    · exact absurd k3 (h3 M' k1 k2)
    · exact ⟨rfl, rfl⟩
theorem GotL.i64 {l : List Int} {M : MM} {f : Int} (h : GotL l M f) : I64 f := by
  rcases h with ⟨rfl, _⟩ | ⟨rfl, _⟩ <;> unfold I64 <;> omega
def GetP (l : List Int) (w0 : World) (e : Ending) (w : World) : Prop := ∃ (x : Mt) (M : MM) (f : Int), e = .returned (.tuple #[.agg (mtA M x), .int .i64 f]) ∧ MetaD w x M ∧ GotL l M f ∧ Below w0.heap.size w0 w
theorem mGetP (w : World) (a : Option Addr) (n c : Nat) (l : List Int) (hB : Bytes w a n l) (hc : n ≤ c) (hW : Wid w) : Calls Tryz.prog 5 #[.slice a n c] w (GetP l w) := by
  refine (mGet w a n c l hB hc hW).mono ?_
  rintro e w' ⟨hb, ⟨x, M, h1, h2, rfl, h4⟩ | ⟨rfl, h⟩⟩
  · exact ⟨x, M, 0, rfl, h4.d, Or.inl ⟨rfl, h1, h2⟩, hb⟩
  · exact ⟨Mt0, MM0, 3, rfl, (MetaN.zero w' 0 Any Any).d, Or.inr ⟨rfl, rfl, h⟩, hb⟩
theorem refGetP (w : World) (a : Option Addr) (n c : Nat) (l : List Int) (hB : Bytes w a n l) (hc : n ≤ c) (hn : a = none → c = 0) : Calls Tryz.prog 6 #[.slice a n c] w (GetP l w) := by
  refine (refGetM w a n c l hB hc hn).mono ?_
  rintro e w' ⟨hb, ⟨x, M, h1, h2, rfl, h4⟩ | ⟨rfl, h⟩⟩
  · exact ⟨x, M, 0, rfl, h4, Or.inl ⟨rfl, h1, h2⟩, hb⟩
  · exact ⟨Mt0, MM0, 3, rfl, (MetaN.zero w' 0 Any Any).d, Or.inr ⟨rfl, rfl, h⟩, hb⟩

set_option maxRecDepth 100000 in
set_option maxHeartbeats 4000000 in
theorem walk (a0 : Option Addr) (len0 cap0 : Nat) (z0 : List Int) (w : World) (w0 : IsRow .u8 w a0 len0 cap0 z0) (HWD : Hid (Wid w)) :
    Calls Tryz.prog 3 #[.slice a0 len0 cap0] w fun e w' => e = .returned (.bool true) ∧ Below w.heap.size w w' := by
  have HAW : Hid (∀ W, Below w.heap.size w W → Calls Tryz.prog 4 #[] W fun e w' => e = .returned (.bool true) ∧ Below w.heap.size w w') := fun W hb => (awake14 W (HWD.out.later hb)).mono fun e w' h => ⟨h.1, hb.trans (h.2.mono hb.size)⟩
  by_cases hbig : 9000 < len0
  · clear w0
    go_enter Tryz.func3, Tryz.ntmps3
    go_wp2_with (go_at_call 4; (with_reducible refine (HAW.out _ (Below.refl _ _)).mono ?_); rintro e w9 ⟨rfl, hb9⟩)
    go_ret
    exact ⟨rfl, hb9⟩
  · obtain ⟨l, hB, hc, hn⟩ := arg_of7 w0 (by omega)
    have HG := Lib.hid (mGetP w a0 len0 cap0 l hB hc HWD.out)
    have HRG := Lib.hid (fun W (hb : Below w.heap.size w W) => refGetP W a0 len0 cap0 l (hB.later hb) hc hn)
    clear hB hc hn w0
    go_enter Tryz.func3, Tryz.ntmps3
    go_wp2_with (first
      | (go_at_call 5; (with_reducible refine HG.out.mono ?_); rintro e w1 ⟨⟨xa, xl, xc, xsa, xsn, xsc, xma, xmn, xmc, xca, xcn, xcc⟩, ⟨C1, S1, bk1, T1, D1, E1, K1⟩, f1, rfl, hM, hG, hb⟩; have HGL := Lib.hid hG; have HA1 := Lib.hid ((Below.refl w1.heap.size w1).alloc (Nat.le_refl _) (.cells #[.int .i64 C1, .int .i64 S1, .string bk1, .slice xa xl xc, .slice xsa xsn xsc, .slice xma xmn xmc, .slice xca xcn xcc] 31)); have HM1 := Lib.hid (hM.later HA1.out); have HX1 := Lib.hid (Blk.new w1 31 #[.int .i64 C1, .int .i64 S1, .string bk1, .slice xa xl xc, .slice xsa xsn xsc, .slice xma xmn xmc, .slice xca xcn xcc]); have HB1 := Lib.hid (hb.alloc hb.size (.cells #[.int .i64 C1, .int .i64 S1, .string bk1, .slice xa xl xc, .slice xsa xsn xsc, .slice xma xmn xmc, .slice xca xcn xcc] 31)); have HNU := Lib.hid (fun W => num14 f1 hG.i64 W); dsimp only [mtA]; clear hM hG hb)
      | (go_at_call 6; (with_reducible refine (HRG.out _ HB1.out).mono ?_); rintro e w2 ⟨⟨ya, yl, yc, ysa, ysn, ysc, yma, ymn, ymc, yca, ycn, ycc⟩, M2, f2, rfl, hM, hG, hb⟩; obtain ⟨rfl, rfl⟩ := HGL.out.same hG; have HA2 := Lib.hid ((Below.refl w2.heap.size w2).alloc (Nat.le_refl _) (.cells #[.int .i64 C1, .int .i64 S1, .string bk1, .slice ya yl yc, .slice ysa ysn ysc, .slice yma ymn ymc, .slice yca ycn ycc] 31)); have HM2 := Lib.hid (hM.later HA2.out); have HM1' := Lib.hid ((HM1.out.later hb).later HA2.out); have HB2 := Lib.hid (((HB1.out.trans (hb.mono HB1.out.size)).alloc (Nat.le_trans HB1.out.size hb.size) (.cells #[.int .i64 C1, .int .i64 S1, .string bk1, .slice ya yl yc, .slice ysa ysn ysc, .slice yma ymn ymc, .slice yca ycn ycc] 31))); obtain ⟨m0, m1, m2, m3, m4, m5, m6⟩ := cells7 ((HX1.out.later hb).alloc (.cells #[.int .i64 C1, .int .i64 S1, .string bk1, .slice ya yl yc, .slice ysa ysn ysc, .slice yma ymn ymc, .slice yca ycn ycc] 31)); obtain ⟨n0, n1, n2, n3, n4, n5, n6⟩ := cells7 (Blk.new w2 31 #[.int .i64 C1, .int .i64 S1, .string bk1, .slice ya yl yc, .slice ysa ysn ysc, .slice yma ymn ymc, .slice yca ycn ycc]); dsimp only [mtA]; clear hM hG hb)
      | (go_at_call 7; have HSA := refSame HM1'.out HM2.out (R := true) (by simp); dsimp only [mtA] at HSA; (with_reducible refine HSA.mono ?_); clear HSA; rintro e w3 ⟨rfl, hb⟩; have HB3 := Lib.hid (HB2.out.trans (hb.mono HB2.out.size)); clear hb m0 m1 m2 m3 m4 m5 m6 n0 n1 n2 n3 n4 n5 n6)
      | (go_at_call 8; (with_reducible refine (HNU.out _).mono ?_); rintro e w' ⟨rfl, hw⟩; obtain rfl := hw.symm)
      | (go_at_call 4; (with_reducible refine (HAW.out _ HB3.out).mono ?_); rintro e w9 ⟨rfl, hb9⟩))
    go_ret
    exact ⟨rfl, hb9⟩

set_option maxRecDepth 100000 in
theorem lifted (os : Os) (started : os.Started) (H : Type) (enc : TypeId × Value → H) :
    ReturnsInHanded {} Tryz.checked os 3 .any (fun w args => (Rows.metaGetsSpec.pre enc Tryz.prog Tryz.f3 [] false w args ∧ laidMetH Tryz.prog laid8 w) ∧ sizedMet enc Tryz.prog Tryz.f3 (OpenSpec.ofChange Rows.metaGetsSpec) false w args) (Rows.metaGetsSpec.post enc Tryz.prog Tryz.f3 false true false false) := by
  refine returnsInHanded_of_change_and (C := Tryz.checked) (X := fun w _ => laidMetH Tryz.prog laid8 w) (fun _ _ _ hh h => h.of_heap hh) own started (by kernel_rfl) Tryz.func3
    (ChangeSpec.witness_shaped (enc := enc) (C := Tryz.checked) (os := os) (X := fun w _ => laidMetH Tryz.prog laid8 w) false (World.doorLaid Tryz.prog 400 os) #[.slice none 0 0] 8 rfl (World.shaped_of_RefB (by kernel_rfl) (by kernel_rfl)) (by kernel_rfl) (by kernel_rfl) (by kernel_rfl) (door_met os _)) ?_
  intro W base args ds gs before hval0 hW _ _ hL _
  have hval : ∀ (j : Nat) t v, Tryz.f3.params[j]? = some t → args[j]? = some v → Value.okWide Tryz.prog W .any base t v := hval0
  have hW' := hW
  obtain ⟨p, q, hA0, hV, rfl, hfz, hnd⟩ := hW
  have hA : DataW.TrodAll enc Tryz.prog W 0 (fun _ => true) true Tryz.f3.params.toList args.toList ds p := hA0
  rw [Tryz.params3] at hA hval
  obtain ⟨v0, vs0, d0, ds0, p0, q0, hargs, rfl, rfl, h0, r0⟩ := trodAll_cons hA
  obtain ⟨rfl, rfl, rfl⟩ := trodAll_nil r0
  obtain rfl : args = #[v0] := by cases args; simp_all
  obtain ⟨rfl, rfl⟩ := trodVars_none hV
  have k0 := h0
  have lt0 : ∀ x ∈ p0, x.block < W.heap.size := by obtain ⟨m, hm⟩ := k0; exact DataW.trod_lt m _ _ _ hm
  obtain ⟨a0, len0, cap0, rfl⟩ := okWide_slice Tryz.underlying22 (hval 0 22 v0 rfl rfl)
  obtain ⟨z0, w0⟩ : ∃ zs, IsRow .u8 W a0 len0 cap0 zs := by
    obtain ⟨fuel, hf⟩ := h0
    rcases open_ints Tryz.underlying22 Tryz.underlying5 (by kernel_rfl) hf with ⟨hcs, _⟩ | ⟨x, l, c, zs, hcs, _, hl, hm, hz, _, hcell, hwz⟩
    · simp [Value.cells] at hcs
      obtain ⟨rfl, rfl, rfl⟩ := hcs
      exact ⟨[], .inl ⟨rfl, rfl, rfl, rfl⟩⟩
    · simp [Value.cells] at hcs
      obtain ⟨rfl, rfl, rfl⟩ := hcs
      exact ⟨zs, .inr ⟨_, rfl, hl, hm, by simpa using hz, hcell, hwz⟩⟩
  clear hA0 hval0
  refine (walk a0 len0 cap0 z0 W w0 (Lib.hid (wid_of_laid hL))).mono fun e W' ⟨he, bel⟩ => ?_
  subst he
  exact ⟨_, rfl, _, _, _, [], _, [], hW', trodAll_mk1 (shut_bool Tryz.underlying4 _), (trodAll_cons_mk (Below.trod laidOut (by kernel_rfl) (of_decide_eq_true (by kernel_rfl)) k0 bel lt0) trodAll_mk0), rfl, bel.frame _, fun h => by cases h⟩

theorem over : Rows.metaGetsRow.holds Tryz.pinned (OpenSpec.ofChange Rows.metaGetsSpec) :=
  OpenClaim.holds_of_wide 3 Tryz.f3 rfl rfl rfl rfl rfl rfl rfl ⟨rfl, rfl, rfl, rfl, rfl⟩ rfl rfl rfl rfl rfl (by kernel_rfl) Tryz.func3 (by kernel_rfl)
    (of_decide_eq_true (by kernel_rfl)) (by unfold Func.isWrapper; first | (rw [if_pos (by decide +kernel)]; kernel_rfl) | (rw [if_neg (by decide +kernel)]; exact ⟨rfl, rfl⟩))
    (fun os started H enc _ => lifted os started H enc)

/-- The statement: the row's card, its listed variable tied to the program's text. -/
theorem proved : Rows.MetaGetsCardSaid :=
  Claim7.holds_tied_plain_at .later [] [.data] true (true, "6d5e68f9659620f39b9b6aff3ca65ea217811282e8343fd88265126ba387a08c") false
    over (fun _ h => by cases h) (by kernel_rfl) (fun _ h => by cases h) metaGets_row_tie rfl ⟨rfl, rfl⟩ (by kernel_rfl) rfl
    (fun f fn hf hfn => by
      obtain rfl : f = 3 := Option.some.inj ((show Tryz.prog.funcNamed "matryoshka/matryoshkalaw14.MetaGets" = some 3 by kernel_rfl).symm.trans hf) |>.symm
      obtain rfl : fn = Tryz.f3 := (Option.some.inj (Tryz.func3.symm.trans hfn)).symm
      exact ⟨by kernel_rfl, fun j t ht => by
        rw [Tryz.params3] at ht
        have hm : t ∈ [22] := by simpa using Array.mem_of_getElem? ht
        have hall : ([22].all fun u => !Tryz.prog.wantsStandIn u) = true := by kernel_rfl
        exact (show Tryz.prog.wantsStandIn t = false by simpa using List.all_eq_true.1 hall t hm)⟩)
    (by kernel_rfl)
#print axioms proved
end Go.Proofs.YtdffgnpldapciaaGreatDoor.metaGets
