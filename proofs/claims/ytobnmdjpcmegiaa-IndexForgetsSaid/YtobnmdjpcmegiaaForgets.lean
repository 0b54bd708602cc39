/-
  Proved: 'matryoshkalaw11.IndexForgets' returns true for every input (any bytes, any byte), and each argument reads afterwards as before: the statement IndexForgetsSaid as given. Conditions: none beyond the row's own.
-/
import Derived.Test.YtobnmdjpcmegiaaRows
import Derived.Test.YtobnmdjpcmegiaaKq
import Derived.Test.YtobnmdjpcmegiaaKr
import Derived.WalkKit
import Derived.ProofKit
import Derived.OpenShut
import Derived.ShutString
import Derived.ChangeOld
import Derived.Below
namespace Go.Proofs.Ytobnmdjpcmegiaa.indexForgets
open Go.ChangeShapes Go.WideShapes Go.ChangeAt Go.RowKit
open Go.ChangeMaps (open_string shut_string)
set_option linter.unusedVariables false

theorem own : ownKnob Try.prog.godebug = none := by kernel_rfl
theorem laidOut : laidOutB Try.prog = true := by kernel_rfl

/-- A slice of integers that came in: nil, or a row of cells. -/
def IsRow (k : IntKind) (w : World) (a : Option Addr) (len cap : Nat) (zs : List Int) : Prop :=
  (a = none ∧ len = 0 ∧ cap = 0 ∧ zs = []) ∨
  ∃ x, a = some x ∧ len ≤ cap ∧ cap ≤ maxLen ∧ zs.length = cap ∧ (∀ i, i < zs.length → w.cell? (x.add i) = some (.int k (zs.getD i 0))) ∧ ∀ n ∈ zs, (Lit.int k n).wf = true

set_option maxRecDepth 100000 in
set_option maxHeartbeats 4000000 in
theorem walk (a0 : Option Addr) (len0 cap0 : Nat) (z0 : List Int) (a1 : Int) (w : World) (w0 : IsRow .u8 w a0 len0 cap0 z0) (w1 : (Lit.int .u8 a1).wf = true) :
    Calls Try.prog 5 #[.slice a0 len0 cap0, .int .u8 a1] w fun e w' => e = .returned (.bool true) ∧ Below w.heap.size w w' := by
  by_cases hbig : 60 < len0
  · clear w0
    go_enter Try.func5, Try.ntmps5
    go_wp2_with (go_at_call 9; refine (awake_any _).mono ?_; rintro e w2 ⟨rfl, hb⟩; have HB := Lib.hid hb; clear hb)
    go_ret
    exact ⟨rfl, HB.out⟩
  · have hB0 := bytes_of w0 (by omega)
    obtain ⟨l, HL⟩ : ∃ l, Hid (z0.take len0 = l) := ⟨_, rfl⟩
    rw [HL.out] at hB0
    have HBY := Lib.hid hB0
    have hn60 : len0 ≤ 60 := by omega
    obtain ⟨B, hB⟩ := named w.heap.size
    have hBB := hB.out
    have HNEW := Lib.hid (new_any (w0 := w) (w := w) (Below.refl _ _))
    rw [hBB] at HNEW
    obtain ⟨c1, rfl⟩ : ∃ c1 : Nat, a1 = c1 := ⟨a1.toNat, by have := byte_of_wf w1; omega⟩
    have hc1 : c1 < 256 := by have := byte_of_wf w1; omega
    obtain ⟨g, hg⟩ := named (fun i : Nat => ((2, l.getD i 0 % 9, 0, 0, 0) : En))
    clear w0 hB0 w1
    go_enter Try.func5, Try.ntmps5
    go_wp2_with (first
      | (go_at_call 10; refine HNEW.out.mono ?_; rintro e w2 ⟨rfl, ⟨S, g1, g2⟩, g3⟩; have HX1 := Lib.hid g1; clear g1 g2 g3))
    go_loopw [6, 7] (fun b i wr => ∃ (j : Nat) (sm : Bool) (S' : Nat → Prop), j ≤ len0 ∧ i = .int .i64 j ∧ b = .bool sm ∧ Hid (IxP w B (rowP fO g j) S' wr) ∧ Hid (sm = decide (∃ i, i < j ∧ l.getD i 0 % 9 = (c1 : Int) % 9))) (fun _ i _ => len0 - (intOf i).toNat)
    case atStart => exact ⟨0, false, S, Nat.zero_le _, rfl, rfl, HX1.out, (by rw [Hid, eq_comm, decide_eq_false_iff_not]; rintro ⟨i, hi, _⟩; omega)⟩
    case round =>
      obtain ⟨j, sm, S', hj, rfl, rfl, HX, HSM⟩ := hrel
      clear HX1
      by_cases hlt : j < len0
      · obtain ⟨bb, off, rfl⟩ := HBY.out.lies (by omega)
        have hbd := getD_bd HBY.out.2.1.2 j (by rw [HBY.out.1]; exact hlt)
        have hcell : wr.cell? ⟨bb, off + j, none⟩ = some (.int .u8 (l.getD j 0)) := (HBY.out.later HX.out.below).cellAt j hlt
        obtain ⟨c0, hc0⟩ : ∃ c0 : Nat, l.getD j 0 = c0 := ⟨(l.getD j 0).toNat, by omega⟩
        have HC0 := Lib.hid hc0
        rw [hc0] at hcell hbd
        have hc256 : c0 < 256 := by omega
        clear hc0 hbd
        have hcA : ∀ o, (wr.alloc o).cell? ⟨bb, off + j, none⟩ = some (.int .u8 c0) := fun o => ((HBY.out.later HX.out.below).later ((Below.refl _ _).alloc (Nat.le_refl _) o)).cellAt j hlt |>.trans (by rw [HC0.out])
        have HADJ : Hid (addP (rowP fO g j) (((fingerOf [(j : Int)] : Nat) : Int), 2, (c0 : Int) % 9, 0, 0, 0) = rowP fO g (j + 1)) := by
          have := rowP_add (f := fO) (g := g) (n := j) fun i hi e => by have := fO_inj (by omega) (by omega) e; omega
          rw [← this, ← hg.out]
          dsimp only
          rw [HC0.out]
          rfl
        have HSTEP : Hid ((decide (∃ i, i < j + 1 ∧ l.getD i 0 % 9 = (c1 : Int) % 9)) = (decide (∃ i, i < j ∧ l.getD i 0 % 9 = (c1 : Int) % 9) || decide ((c0 : Int) % 9 = (c1 : Int) % 9))) := by
          rw [Hid, Bool.eq_iff_iff]
          simp only [decide_eq_true_eq, Bool.or_eq_true]
          constructor
          · rintro ⟨i, h1, h2⟩
            by_cases hij : i < j
            · exact Or.inl ⟨i, hij, h2⟩
            · obtain rfl : i = j := by omega
              rw [HC0.out] at h2
              exact Or.inr h2
          · rintro (⟨i, h1, h2⟩ | h)
            · exact ⟨i, by omega, h2⟩
            · exact ⟨j, by omega, by rw [HC0.out]; exact h⟩
        cases sm <;>
        · go_wp2_with (go_at_call 12; refine (add_any (HX.out.alloc _) _ 1 1 [(j : Int)] (one_byte _ _ (by omega)) 2 _ 0 0 0).mono ?_; rintro e w3 ⟨rfl, S3, g1, g2⟩; rw [HADJ.out] at g1; have HX3 := Lib.hid g1; have hc3 := ((HBY.out.later g1.below).cellAt j hlt).trans (by rw [HC0.out]); clear g1 g2)
          go_roundw
          case rel => exact ⟨j + 1, _, S3, by omega, by go_num, rfl, HX3.out, by rw [HSTEP.out, ← HSM.out]; first | rfl | simp⟩
          case measure => simp [intOf]; omega
      · obtain rfl : j = len0 := by omega
        have hL64 : j ≤ 64 := by omega
        obtain ⟨e9, he9⟩ := named (((2, (c1 : Int) % 9, 0, 0, 0)) : En)
        have hge : ∀ i, (g i = e9) = (l.getD i 0 % 9 = (c1 : Int) % 9) := fun i => by
          rw [← hg.out, ← he9.out]
          simp
        have hsome : decide (∃ p ∈ rowP fO g j, p.2 = e9) = sm := by
          rw [HSM.out, Bool.eq_iff_iff]
          simp only [decide_eq_true_eq]
          constructor
          · rintro ⟨p, hp, h2⟩
            obtain ⟨i, _, hi, rfl⟩ := rowP_mem.1 hp
            exact ⟨i, hi, (hge i).mp h2⟩
          · rintro ⟨i, hi, h2⟩
            exact ⟨(fO i, g i), rowP_mem.2 ⟨i, by omega, hi, rfl⟩, (hge i).mpr h2⟩
        have HF1 : Hid (∀ W S, IxP w B (rowP fO g j) S W → Calls Try.prog 15 #[.pointer (some ⟨B, 0, none⟩), .agg #[.int .i64 2, .int .i64 ((c1 : Int) % 9), .int .i64 0, .int .i64 0, .int .u32 0]] W (GivesP w B (forgetP (rowP fO g j) e9) (.bool sm) S W)) := fun W S h => by
          have := forget_any h 2 ((c1 : Int) % 9) 0 0 0
          rw [show (((2, (c1 : Int) % 9, 0, 0, 0)) : En) = e9 from he9.out, forget_less, hsome] at this
          exact this
        have HF2 : Hid (∀ W S, IxP w B (forgetP (rowP fO g j) e9) S W → Calls Try.prog 15 #[.pointer (some ⟨B, 0, none⟩), .agg #[.int .i64 2, .int .i64 ((c1 : Int) % 9), .int .i64 0, .int .i64 0, .int .u32 0]] W (GivesP w B (forgetP (rowP fO g j) e9) (.bool false) S W)) := fun W S h => by
          have := forget_any h 2 ((c1 : Int) % 9) 0 0 0
          rw [show (((2, (c1 : Int) % 9, 0, 0, 0)) : En) = e9 from he9.out, forget_twice, decide_eq_false (Nat.lt_irrefl _)] at this
          exact this
        have HFD : Hid (∀ i, i < j → findP (forgetP (rowP fO g j) e9) (fO i) = if l.getD i 0 % 9 = (c1 : Int) % 9 then [] else [g i]) := fun i hi => by
          rw [rowP_forget (fun a b ha hb e => fO_inj (by omega) (by omega) e) hL64 e9 hi]
          simp only [hge i]
        obtain ⟨LF, hLF⟩ := named (forgetP (rowP fO g j) e9)
        rw [hLF.out] at HF1 HF2 HFD
        obtain ⟨N2, hN2⟩ := named wr.heap.size
        have hNN2 := hN2.out
        have HBX : Hid (Blk (wr.alloc (.cells #[.int .i64 2, .int .i64 ((c1 : Int) % 9), .int .i64 0, .int .i64 0, .int .u32 0] 35)) N2 35 #[.int .i64 2, .int .i64 ((c1 : Int) % 9), .int .i64 0, .int .i64 0, .int .u32 0]) := by rw [← hNN2]; exact Blk.new wr _ _
        have HNS : Hid (¬ S' N2) := fun h => by have := HX.out.lt _ h; omega
        clear hge hsome
        go_wp2_with (first
          | (go_at_call 15; (with_reducible refine (HF1.out _ S' (HX.out.alloc _)).mono ?_); rintro e w3 ⟨rfl, S3, g1, g2⟩; have HX3 := Lib.hid g1; obtain ⟨y0, y1, y2, y3, y4⟩ := cells5 (HBX.out.away HNS.out g2); clear g1 g2 HF1)
          | (go_at_call 15; (with_reducible refine (HF2.out _ S3 HX3.out).mono ?_); rintro e w4 ⟨rfl, S4, g1, g2⟩; have HX4 := Lib.hid g1; clear g1 g2))
        go_loopw [9] (fun i wr => ∃ (q : Nat) (S' : Nat → Prop), q ≤ j ∧ i = .int .i64 q ∧ Hid (IxP w B LF S' wr)) (fun i _ => j - (intOf i).toNat)
        case atStart => exact ⟨0, S4, Nat.zero_le _, rfl, HX4.out⟩
        case round =>
          obtain ⟨q, S5, hq, rfl, HX5⟩ := hrel
          by_cases hlt2 : q < j
          · obtain ⟨bb, off, rfl⟩ := HBY.out.lies (by omega)
            have hbd := getD_bd HBY.out.2.1.2 q (by rw [HBY.out.1]; exact hlt2)
            obtain ⟨c0, hc0⟩ : ∃ c0 : Nat, l.getD q 0 = c0 := ⟨(l.getD q 0).toNat, by omega⟩
            have HC0 := Lib.hid hc0
            rw [hc0] at hbd
            have hc256 : c0 < 256 := by omega
            have hfq := HFD.out q hlt2
            rw [hc0] at hfq
            have HFI : Hid (∀ W S a, IxP w B LF S W → Bytes W a 1 [(q : Int)] → Calls Try.prog 13 #[.pointer (some ⟨B, 0, none⟩), .slice a 1 1] W (FindQ w B LF (fO q) S W)) := fun W S a h hb => find_any h a 1 1 _ hb
            unfold FindQ at HFI
            rw [hfq] at HFI
            clear hc0 hbd hfq
            by_cases he : (c0 : Int) % 9 = (c1 : Int) % 9
            · rw [if_pos he] at HFI
              have hd1 : ((c0 : Int) % 9 == (c1 : Int) % 9) = true := by simpa using he
              have hd2 : decide ((c0 : Int) % 9 = (c1 : Int) % 9) = true := decide_eq_true he
              clear he
              go_wp2_with (go_at_call 13; refine (HFI.out _ S5 _ (HX5.out.alloc _) (one_byte _ _ (by omega))).mono ?_; rintro e w5 ⟨af, cf, rfl, g1, g2, g3⟩; have HX6 := Lib.hid g2; have hc3 := ((HBY.out.later g2.below).cellAt q hlt2).trans (by rw [HC0.out]); clear g1 g2 g3)
              go_roundw
              case rel => exact ⟨q + 1, S5, by omega, by go_num, HX6.out⟩
              case measure => simp [intOf]; omega
            · rw [if_neg he] at HFI
              have hd1 : ((c0 : Int) % 9 == (c1 : Int) % 9) = false := by simpa using he
              have hd2 : decide ((c0 : Int) % 9 = (c1 : Int) % 9) = false := decide_eq_false he
              have hd3 : ((c0 : Int) % 9 != (c1 : Int) % 9) = true := by simpa using he
              clear he
              go_wp2_with (go_at_call 13; refine (HFI.out _ S5 _ (HX5.out.alloc _) (one_byte _ _ (by omega))).mono ?_; rintro e w5 ⟨af, cf, rfl, g1, g2, g3⟩; have HX6 := Lib.hid g2; have hc3 := ((HBY.out.later g2.below).cellAt q hlt2).trans (by rw [HC0.out]); clear g1 g2 g3)
              go_roundw
              case rel => exact ⟨q + 1, S5, by omega, by go_num, HX6.out⟩
              case measure => simp [intOf]; omega
          · obtain rfl : q = j := by omega
            go_wp2_with (go_at_call 9; refine (awake_any _).mono ?_; rintro e w2 ⟨rfl, hb⟩; have HB := Lib.hid hb; clear hb)
            go_ret
            exact ⟨rfl, HX5.out.below.trans (HB.out.mono HX5.out.below.size)⟩

set_option maxRecDepth 100000 in
theorem lifted (os : Os) (started : os.Started) (H : Type) (enc : TypeId × Value → H) :
    ReturnsInHanded {} Try.checked os 5 .any (Rows.indexForgetsSpec.pre6 enc Try.prog Try.f5 Rows.indexForgetsRow.domain false) (Rows.indexForgetsSpec.post enc Try.prog Try.f5 false true false false) := by
  refine returnsInHanded_of_change (C := Try.checked) own started (by kernel_rfl) Try.func5
    (ChangeSpec.witness6 (enc := enc) (C := Try.checked) false ⟨#[], #[.slice none 0 0, .int .u8 0], []⟩ 8 (by kernel_rfl) (by kernel_rfl) (by kernel_rfl) (by kernel_rfl)) ?_
  intro W base args ds gs before hval0 hW hcnd _
  have hval : ∀ (j : Nat) t v, Try.f5.params[j]? = some t → args[j]? = some v → Value.okWide Try.prog W .any base t v := hval0
  have hW' := hW
  obtain ⟨p, q, hA0, hV, rfl, hfz, hnd⟩ := hW
  have hA : DataW.TrodAll enc Try.prog W 0 (fun _ => true) true Try.f5.params.toList args.toList ds p := hA0
  rw [Try.params5] at hA hval
  obtain ⟨v0, vs0, d0, ds0, p0, q0, hargs, rfl, rfl, h0, r0⟩ := trodAll_cons hA
  obtain ⟨v1, vs1, d1, ds1, p1, q1, rfl, rfl, rfl, h1, r1⟩ := trodAll_cons r0
  obtain ⟨rfl, rfl, rfl⟩ := trodAll_nil r1
  obtain rfl : args = #[v0, v1] := by cases args; simp_all
  obtain ⟨rfl, rfl⟩ := trodVars_none hV
  have k0 := h0
  have lt0 : ∀ x ∈ p0, x.block < W.heap.size := by obtain ⟨m, hm⟩ := k0; exact DataW.trod_lt m _ _ _ hm
  obtain ⟨a0, len0, cap0, rfl⟩ := okWide_slice Try.underlying32 (hval 0 32 v0 rfl rfl)
  obtain ⟨z0, w0⟩ : ∃ zs, IsRow .u8 W a0 len0 cap0 zs := by
    obtain ⟨fuel, hf⟩ := h0
    rcases open_ints Try.underlying32 Try.underlying5 (by kernel_rfl) hf with ⟨hcs, _⟩ | ⟨x, l, c, zs, hcs, _, hl, hm, hz, _, hcell, hwz⟩
    · simp [Value.cells] at hcs
      obtain ⟨rfl, rfl, rfl⟩ := hcs
      exact ⟨[], .inl ⟨rfl, rfl, rfl, rfl⟩⟩
    · simp [Value.cells] at hcs
      obtain ⟨rfl, rfl, rfl⟩ := hcs
      exact ⟨zs, .inr ⟨_, rfl, hl, hm, by simpa using hz, hcell, hwz⟩⟩
  have k1 := h1
  have lt1 : ∀ x ∈ p1, x.block < W.heap.size := by obtain ⟨m, hm⟩ := k1; exact DataW.trod_lt m _ _ _ hm
  obtain ⟨a1, rfl, _, _, w1⟩ := open_int Try.underlying5 (hval 1 5 v1 rfl rfl) h1
  clear hA0 hval0
  refine (walk a0 len0 cap0 z0 a1 W w0 w1).mono fun e W' ⟨he, bel⟩ => ?_
  subst he
  exact ⟨_, rfl, _, _, _, [], _, [], hW', trodAll_mk1 (shut_bool Try.underlying4 _), (trodAll_cons_mk (Below.trod laidOut (by kernel_rfl) (of_decide_eq_true (by kernel_rfl)) k0 bel lt0) (trodAll_cons_mk (Below.trod laidOut (by kernel_rfl) (of_decide_eq_true (by kernel_rfl)) k1 bel lt1) trodAll_mk0)), rfl, bel.frame _, fun h => by cases h⟩

theorem over : Rows.indexForgetsRow.holds Try.pinned (OpenSpec.ofChange Rows.indexForgetsSpec) :=
  OpenClaim.holds_of_wide 5 Try.f5 rfl rfl rfl rfl rfl rfl rfl ⟨rfl, rfl, rfl, rfl, rfl⟩ rfl rfl rfl rfl rfl (by kernel_rfl) Try.func5 (by kernel_rfl)
    (of_decide_eq_true (by kernel_rfl)) (by unfold Func.isWrapper; first | (rw [if_pos (by decide +kernel)]; kernel_rfl) | (rw [if_neg (by decide +kernel)]; exact ⟨rfl, rfl⟩))
    (fun os started H enc _ => lifted os started H enc)

/-- The statement. -/
theorem proved : Rows.IndexForgetsSaid := over
#print axioms proved
end Go.Proofs.Ytobnmdjpcmegiaa.indexForgets
