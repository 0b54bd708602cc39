/-
  Proved: 'matryoshkalaw9.CountRooms' returns true for every input, and each argument reads afterwards as before: the statement CountRoomsSaid as given. Conditions: none beyond the row's own.
-/
import Derived.Test.YtidknkhkblloaaaRows
import Derived.Test.YtidknkhkblloaaaW0
import Derived.Test.YtidknkhkblloaaaR0
import Derived.WalkKit
import Derived.ProofKit
import Derived.OpenShut
import Derived.ShutString
import Derived.ChangeOld
import Derived.Below
namespace Go.Proofs.Ytidknkhkblloaaa.countRooms
open Go.ChangeShapes Go.WideShapes Go.ChangeAt Go.RowKit
open Go.ChangeMaps (open_string shut_string)
set_option linter.unusedVariables false

theorem own : ownKnob Try.prog.godebug = none := by kernel_rfl
theorem laidOut : laidOutB Try.prog = true := by kernel_rfl

/-- A slice of integers that came in: nil, or a row of cells. -/
def IsRow (k : IntKind) (w : World) (a : Option Addr) (len cap : Nat) (zs : List Int) : Prop :=
  (a = none ∧ len = 0 ∧ cap = 0 ∧ zs = []) ∨
  ∃ x, a = some x ∧ len ≤ cap ∧ cap ≤ maxLen ∧ zs.length = cap ∧ (∀ i, i < zs.length → w.cell? (x.add i) = some (.int k (zs.getD i 0))) ∧ ∀ n ∈ zs, (Lit.int k n).wf = true

def iV (x : Int) : List Value := [.int .i64 x]
theorem i_rowed : Rowed Try.prog 27 3 1 8 iV where
  under := Try.underlying27
  info := by
    have h : (Try.prog.info? 3).map (fun i => (i.zero.map (fun z => z.cells.size), i.size, i.bytes)) = some (some 1, 1, 8) := by kernel_rfl
    obtain ⟨i, hi, he⟩ := Option.map_eq_some_iff.1 h
    simp only [Prod.mk.injEq] at he
    obtain ⟨z, hz, hzs⟩ := Option.map_eq_some_iff.1 he.1
    exact ⟨i, z, hi, hz, he.2.1, he.2.2, hzs⟩
  pos := by decide
  small := by decide
  len := fun _ => rfl
  one := fun d u hu => by
    simp only [iV, List.mem_cons, List.not_mem_nil, or_false] at hu
    subst hu
    rfl
theorem ints_of {w : World} {a : Option Addr} {len : Nat} {L : List Int} (h : Reads iV w a len L) {f : Nat → Int} (hf : ∀ i, i < len → L[i]? = some (f i)) : IntsR w a len f := by
  refine ⟨by have := h.2.1; omega, fun h0 => ?_⟩
  obtain ⟨b, off, e, hb, hc⟩ := h.2.2.resolve_left (by omega)
  refine ⟨b, off, e, hb, fun i hi => ?_⟩
  subst e
  have := h.cellAt i_rowed i 0 (f i) _ (hf i hi) rfl
  rwa [Nat.mul_one, Nat.add_zero] at this
/-- The numbers that the law makes. -/
def fR (z : List Int) (i : Nat) : Int := (((z.getD i 0).toNat % 3 : Nat) : Int)
def lR (z : List Int) (n : Nat) : List Int := (List.range n).map (fR z)
theorem lR_succ (z : List Int) (n : Nat) : lR z (n + 1) = lR z n ++ [fR z n] := by
  unfold lR
  rw [List.range_succ, List.map_append]
  rfl
theorem lR_at (z : List Int) (n i : Nat) (h : i < n) : (lR z n)[i]? = some (fR z i) := by
  unfold lR
  rw [List.getElem?_map, List.getElem?_range h]
  rfl
theorem rooms_yes {f : Nat → Int} {len K FR : Nat} {s : Int} {ok : Bool} (hl : len ≤ 500) (hF : FR ≤ 255) (hK : 1 ≤ K ∧ K ≤ 9) (h : FreeP f len K FR 2000 s ok) :
    ok = true ∧ ∃ S : Nat, s = S ∧ FR ≤ S ∧ S ≤ 500 ∧ freeAt f len K S ∧ ∀ t : Nat, FR ≤ t → t < S → ¬ freeAt f len K t := by
  have hm : freeAt f len K ((max FR len : Nat) : Int) := fun k h1 h2 h3 => by omega
  rcases h with ⟨rfl, a1, a2, a3, a4, a5⟩ | ⟨rfl, rfl, a1⟩
  · refine ⟨rfl, s.toNat, by omega, by omega, ?_, ?_, fun t h1 h2 => a5 t (by omega) (by omega)⟩
    · refine Decidable.byContradiction fun hh => a5 _ (by omega) ?_ hm
      omega
    · rw [show ((s.toNat : Nat) : Int) = s by omega]
      exact a4
  · rcases a1 with h | h | h
    · omega
    · omega
    · exact absurd hm (h _ (by omega) (by omega))
theorem u8_at {w : World} {a : Option Addr} {len cap : Nat} {zs : List Int} (h : IsRow .u8 w a len cap zs) : len ≤ 9223372036854775807 ∧ ∀ (w' : World), Below w.heap.size w w' → ∀ i, i < len → ∃ b off, a = some ⟨b, off, none⟩ ∧ w'.cell? ⟨b, off + i, none⟩ = some (.int .u8 (((zs.getD i 0).toNat : Nat) : Int)) ∧ (zs.getD i 0).toNat < 256 := by
  rcases h with ⟨rfl, rfl, rfl, rfl⟩ | ⟨x, rfl, h1, h2, h3, h4, h5⟩
  · exact ⟨by omega, fun w' hb i hi => by omega⟩
  · unfold maxLen at h2
    refine ⟨by omega, fun w' hb i hi => ?_⟩
    obtain ⟨b, off, spot⟩ := x
    have hc0 := h4 0 (by omega)
    have hspot : spot = none := by simpa [Addr.add] using World.cell?_spot hc0
    subst hspot
    have hc := h4 i (by omega)
    rw [add_none] at hc
    have hz : zs.getD i 0 ∈ zs := by
      rw [List.getD_eq_getElem?_getD, List.getElem?_eq_getElem (by omega)]
      exact List.getElem_mem _
    have hw := bounds_u8 (h5 _ hz)
    refine ⟨b, off, rfl, ?_, by omega⟩
    rw [show (((zs.getD i 0).toNat : Nat) : Int) = zs.getD i 0 by omega]
    exact (hb.cell (p := ⟨b, off + i, none⟩) (block_lt_of_cell hc)).trans hc

set_option maxRecDepth 100000 in
set_option maxHeartbeats 4000000 in
theorem walk (a0 : Option Addr) (len0 cap0 : Nat) (z0 : List Int) (a1 : Int) (a2 : Int) (w : World) (w0 : IsRow .u8 w a0 len0 cap0 z0) (w1 : (Lit.int .u8 a1).wf = true) (w2 : (Lit.int .u8 a2).wf = true) :
    Calls Try.prog 7 #[.slice a0 len0 cap0, .int .u8 a1, .int .u8 a2] w fun e w' => e = .returned (.bool true) ∧ Below w.heap.size w w' := by
  have b1 := bounds_u8 w1
  have b2 := bounds_u8 w2
  obtain ⟨A, rfl⟩ : ∃ A : Nat, a1 = A := ⟨a1.toNat, by omega⟩
  obtain ⟨FR, rfl⟩ : ∃ FR : Nat, a2 = FR := ⟨a2.toNat, by omega⟩
  obtain ⟨hlm, hat⟩ := u8_at w0
  have HAT := Lib.hid hat
  clear hat w0
  by_cases hg : 500 < len0
  · go_enter Try.func7, Try.ntmps7
    go_wp2_with (go_at_call 13; refine (awake0 _).mono ?_; rintro e w9 ⟨rfl, g⟩)
    go_ret
    exact ⟨rfl, g⟩
  · have hl5 : len0 ≤ 500 := by omega
    obtain ⟨K, hK⟩ : ∃ K : Nat, Hid (K = 1 + A % 9) := ⟨_, rfl⟩
    have hKb : 1 ≤ K ∧ K ≤ 9 := by have := hK.out; omega
    have k1 : IntKind.i64.wrap (1 + (A : Int) % 9) = (K : Int) := by have := hK.out; rw [IntKind.wrap_i64] <;> omega
    have k3 : 1 + (A : Int) % 9 = (K : Int) := by have := hK.out; omega
    clear hg
    go_enter Try.func7, Try.ntmps7
    go_wp2
    go_loopw [7, 8] (fun l i wr => ∃ (j : Nat) (aj : Option Addr) (cj : Nat), j ≤ len0 ∧ l = .slice aj j cj ∧ i = .int .i64 j ∧ Hid (OwnG iV 3 1 wr w.heap.size (.slice aj j cj) j (lR z0 j)) ∧ Hid (Below w.heap.size w wr)) (fun _ i _ => len0 - (intOf i).toNat)
    case atStart => exact ⟨0, none, 0, Nat.zero_le _, rfl, rfl, OwnG.none _ _ _ _ _, Below.refl _ _⟩
    case round =>
      obtain ⟨j, aj, cj, hj, rfl, rfl, HO, HB⟩ := hrel
      by_cases hlt : j < len0
      · obtain ⟨b, off, rfl, hc, hz⟩ := HAT.out wr HB.out j hlt
        have HLS := Lib.hid (lR_succ z0 j)
        have hfr : fR z0 j = (((z0.getD j 0).toNat % 3 : Nat) : Int) := rfl
        obtain ⟨Z, hZ⟩ := named (z0.getD j 0).toNat
        rw [hZ.out] at hc hz hfr
        obtain ⟨V, hV⟩ := named (Z % 3)
        rw [hV.out] at hfr
        rw [hfr] at HLS
        have t1 : (Z : Int) % 3 = (V : Int) := by rw [← hV.out]; omega
        have HBZ := Lib.hid HB.out.size
        clear hfr
        go_wp2_with (at_builtin; refine append_g i_rowed rfl (.tmp 25) (.tmp 32) rfl w.heap.size _ j (lR z0 j) rfl (HO.out.alloc _) (some ⟨wr.heap.size, 0, none⟩) 1 1 [(V : Int)] rfl (fun e => by cases e) (one_reads wr (V : Int) _ _ rfl) (by omega) (by rw [World.size_alloc]; have := HBZ.out; omega) ?_; intro a3 c3 w3 g1 g2; have HO3 := Lib.hid g1; have HB3 := Lib.hid ((HB.out.alloc HB.out.size (.cells #[.int .i64 V] 3)).trans g2); clear g1 g2)
        go_roundw
        case rel => exact ⟨j + 1, a3, c3, by omega, by first | rfl | go_num, by go_num, by rw [HLS.out]; exact HO3.out, HB3.out⟩
        case measure => simp [intOf]; omega
      · obtain rfl : j = len0 := by omega
        have HI0 := Lib.hid (ints_of (HO.out.reads i_rowed).1 (f := fR z0) (fun i hi => lR_at z0 j i hi))
        have HF0 := Lib.hid (free_any wr aj j cj _ HI0.out K FR 2000 (by unfold I64; omega) (by unfold I64; omega) (by unfold I64; omega))
        have hjj : decide ((j : Int) < j) = false := by simp
        go_wp2_with (go_at_call 19; refine HF0.out.mono ?_; rintro e w3 ⟨s, ok, rfl, hp, rfl⟩; obtain ⟨rfl, S, rfl, s1, s2, hs3, hs4⟩ := rooms_yes hl5 (by omega) hKb hp; have HS3 := Lib.hid hs3; have HS4 := Lib.hid hs4; clear hp hs3 hs4)
        have HB0 := Lib.hid HB.out
        have hjl : j ≤ 500 := hl5
        clear HAT HO HB
        go_loopw [12] (fun p wr => ∃ P : Nat, FR ≤ P ∧ P ≤ S + 1 ∧ p = .int .i64 P ∧ Hid (IntsR wr aj j (fR z0)) ∧ Hid (Below w.heap.size w wr)) (fun p _ => S + 1 - (intOf p).toNat)
        case atStart => exact ⟨FR, Nat.le_refl _, by omega, rfl, HI0.out, HB0.out⟩
        case round =>
          obtain ⟨P, p1, p2, rfl, HI, HB⟩ := hrel
          by_cases hlt : P ≤ S
          · obtain ⟨PK, hPK⟩ := named (P + K)
            have w1 : IntKind.i64.wrap ((P : Int) + K) = (PK : Int) := by rw [← hPK.out, IntKind.wrap_i64] <;> omega
            have hPK5 : PK ≤ 600 := by rw [← hPK.out]; omega
            have hPKP : P ≤ PK := by rw [← hPK.out]; omega
            go_wp2
            go_loopw [13, 14] (fun o i wr => ∃ (I : Nat) (O : Bool), P ≤ I ∧ (I ≤ PK) ∧ (I ≤ j ∨ I = P) ∧ o = .bool O ∧ i = .int .i64 I ∧ Hid (IntsR wr aj j (fR z0)) ∧ Hid (Below w.heap.size w wr) ∧ Hid (O = true ↔ ∀ q, P ≤ q → q < I → q < j → fR z0 q = 0)) (fun _ i _ => 2000 - (intOf i).toNat)
            case atStart => exact ⟨P, true, Nat.le_refl _, hPKP, Or.inr rfl, rfl, rfl, HI.out, HB.out, ⟨fun _ q q1 q2 => by omega, fun _ => rfl⟩⟩
            case round =>
              obtain ⟨I, O, i1, i2, i3, rfl, rfl, HI, HB, HO⟩ := hrel
              by_cases hin : I < PK ∧ I < j
              · obtain ⟨j1, j2⟩ := hin
                obtain ⟨b, off, rfl, hb, hc⟩ := HI.out.2 (by omega)
                have c1 := hc I j2
                have HO2 : Hid (∀ O', (O' = true ↔ O = true ∧ fR z0 I = 0) → (O' = true ↔ ∀ q, P ≤ q → q < I + 1 → q < j → fR z0 q = 0)) := fun O' h' => by
                  rw [h', HO.out]
                  refine ⟨fun ⟨x1, x2⟩ q q1 q2 q3 => ?_, fun x => ⟨fun q q1 q2 q3 => x q q1 (by omega) q3, x I i1 (by omega) j2⟩⟩
                  by_cases e : q = I
                  · rw [e]; exact x2
                  · exact x1 q q1 (by omega) q3
                clear hc
                cases O with
                | false =>
                  have H3 := Lib.hid (HO2.out false (by simp))
                  go_wp2
                  go_roundw
                  case rel => exact ⟨I + 1, false, by omega, by omega, by omega, rfl, by go_num, HI.out, HB.out, H3.out⟩
                  case measure => simp [intOf]; omega
                | true =>
                  by_cases hz : fR z0 I = 0
                  · have H3 := Lib.hid (HO2.out true (by simp [hz]))
                    rw [hz] at c1
                    clear hz
                    go_wp2
                    go_roundw
                    case rel => exact ⟨I + 1, true, by omega, by omega, by omega, rfl, by go_num, HI.out, HB.out, H3.out⟩
                    case measure => simp [intOf]; omega
                  · have H3 := Lib.hid (HO2.out false (by simp [hz]))
                    have hne : (fR z0 I == 0) = false := by simp [hz]
                    obtain ⟨v, hv⟩ := named (fR z0 I)
                    rw [hv.out] at c1 hne
                    clear hz
                    go_wp2
                    go_roundw
                    case rel => exact ⟨I + 1, false, by omega, by omega, by omega, rfl, by go_num, HI.out, HB.out, H3.out⟩
                    case measure => simp [intOf]; omega
              · have HF : Hid (O = true ↔ freeAt (fR z0) j K P) := HO.out.trans ⟨fun x q q1 q2 q3 => x q (by omega) (by have := hPK.out; omega) q3, fun x q q1 q2 q3 => x q (by omega) (by have := hPK.out; omega) q3⟩
                have hO : O = decide (P = S) := by
                  by_cases e : P = S
                  · rw [decide_eq_true e]
                    exact HF.out.2 (by rw [e]; exact HS3.out)
                  · rw [decide_eq_false e]
                    cases O with
                    | false => rfl
                    | true => exact absurd (HF.out.1 rfl) (HS4.out P p1 (by omega))
                have hcs : ¬ I < PK ∨ (I < PK ∧ ¬ I < j) := by omega
                have hps : ((P : Int) == (S : Int)) = O := by
                  rw [hO]
                  by_cases e : P = S
                  · rw [e]; simp
                  · have : ¬ (P : Int) = S := by omega
                    simp [e, this]
                clear hO
                rcases hcs with q1 | ⟨q1, q2⟩
                all_goals
                  cases O
                  all_goals
                    go_wp2
                    go_roundw
                    case rel => exact ⟨P + 1, by omega, by omega, by go_num, HI.out, HB.out⟩
                    case measure => simp [intOf]; omega
          · obtain rfl : P = S + 1 := by omega
            obtain ⟨M, hM⟩ := named (S + K - 1)
            have w1 : IntKind.i64.wrap ((S : Int) + K) = (S : Int) + K := by rw [IntKind.wrap_i64] <;> omega
            have w2 : IntKind.i64.wrap ((S : Int) + K - 1) = (M : Int) := by rw [← hM.out, IntKind.wrap_i64] <;> omega
            have HF2 := Lib.hid (free_is (cap := cj) HI.out (n := K) (fr := S) (mo := M) (s := 0) (ok := false) (by unfold I64; omega) (by unfold I64; omega) (by unfold I64; rw [← hM.out]; omega) (Or.inr ⟨rfl, rfl, Or.inr (Or.inr fun t t1 t2 => by have := hM.out; omega)⟩))
            go_wp2_with (first
              | (go_at_call 19; refine HF2.out.mono ?_; rintro e w4 ⟨rfl, rfl⟩)
              | (go_at_call 13; refine (awake0 _).mono ?_; rintro e w9 ⟨rfl, g⟩; have HB := Lib.hid (HB.out.trans (g.mono HB.out.size)); clear g))
            go_ret
            exact ⟨rfl, HB.out⟩

set_option maxRecDepth 100000 in
theorem lifted (os : Os) (started : os.Started) (H : Type) (enc : TypeId × Value → H) :
    ReturnsInHanded {} Try.checked os 7 .any (Rows.countRoomsSpec.pre6 enc Try.prog Try.f7 Rows.countRoomsRow.domain false) (Rows.countRoomsSpec.post enc Try.prog Try.f7 false true false false) := by
  refine returnsInHanded_of_change (C := Try.checked) own started (by kernel_rfl) Try.func7
    (ChangeSpec.witness6 (enc := enc) (C := Try.checked) false ⟨#[], #[.slice none 0 0, .int .u8 0, .int .u8 0], []⟩ 8 (by kernel_rfl) (by kernel_rfl) (by kernel_rfl) (by kernel_rfl)) ?_
  intro W base args ds gs before hval0 hW hcnd _
  have hval : ∀ (j : Nat) t v, Try.f7.params[j]? = some t → args[j]? = some v → Value.okWide Try.prog W .any base t v := hval0
  have hW' := hW
  obtain ⟨p, q, hA0, hV, rfl, hfz, hnd⟩ := hW
  have hA : DataW.TrodAll enc Try.prog W 0 (fun _ => true) true Try.f7.params.toList args.toList ds p := hA0
  rw [Try.params7] at hA hval
  obtain ⟨v0, vs0, d0, ds0, p0, q0, hargs, rfl, rfl, h0, r0⟩ := trodAll_cons hA
  obtain ⟨v1, vs1, d1, ds1, p1, q1, rfl, rfl, rfl, h1, r1⟩ := trodAll_cons r0
  obtain ⟨v2, vs2, d2, ds2, p2, q2, rfl, rfl, rfl, h2, r2⟩ := trodAll_cons r1
  obtain ⟨rfl, rfl, rfl⟩ := trodAll_nil r2
  obtain rfl : args = #[v0, v1, v2] := by cases args; simp_all
  obtain ⟨rfl, rfl⟩ := trodVars_none hV
  have k0 := h0
  have lt0 : ∀ x ∈ p0, x.block < W.heap.size := by obtain ⟨m, hm⟩ := k0; exact DataW.trod_lt m _ _ _ hm
  obtain ⟨a0, len0, cap0, rfl⟩ := okWide_slice Try.underlying45 (hval 0 45 v0 rfl rfl)
  obtain ⟨z0, w0⟩ : ∃ zs, IsRow .u8 W a0 len0 cap0 zs := by
    obtain ⟨fuel, hf⟩ := h0
    rcases open_ints Try.underlying45 Try.underlying5 (by kernel_rfl) hf with ⟨hcs, _⟩ | ⟨x, l, c, zs, hcs, _, hl, hm, hz, _, hcell, hwz⟩
    · simp [Value.cells] at hcs
      obtain ⟨rfl, rfl, rfl⟩ := hcs
      exact ⟨[], .inl ⟨rfl, rfl, rfl, rfl⟩⟩
    · simp [Value.cells] at hcs
      obtain ⟨rfl, rfl, rfl⟩ := hcs
      exact ⟨zs, .inr ⟨_, rfl, hl, hm, by simpa using hz, hcell, hwz⟩⟩
  have k1 := h1
  have lt1 : ∀ x ∈ p1, x.block < W.heap.size := by obtain ⟨m, hm⟩ := k1; exact DataW.trod_lt m _ _ _ hm
  obtain ⟨a1, rfl, _, _, w1⟩ := open_int Try.underlying5 (hval 1 5 v1 rfl rfl) h1
  have k2 := h2
  have lt2 : ∀ x ∈ p2, x.block < W.heap.size := by obtain ⟨m, hm⟩ := k2; exact DataW.trod_lt m _ _ _ hm
  obtain ⟨a2, rfl, _, _, w2⟩ := open_int Try.underlying5 (hval 2 5 v2 rfl rfl) h2
  clear hA0 hval0
  refine (walk a0 len0 cap0 z0 a1 a2 W w0 w1 w2).mono fun e W' ⟨he, bel⟩ => ?_
  subst he
  exact ⟨_, rfl, _, _, _, [], _, [], hW', trodAll_mk1 (shut_bool Try.underlying4 _), (trodAll_cons_mk (Below.trod laidOut (by kernel_rfl) (of_decide_eq_true (by kernel_rfl)) k0 bel lt0) (trodAll_cons_mk (Below.trod laidOut (by kernel_rfl) (of_decide_eq_true (by kernel_rfl)) k1 bel lt1) (trodAll_cons_mk (Below.trod laidOut (by kernel_rfl) (of_decide_eq_true (by kernel_rfl)) k2 bel lt2) trodAll_mk0))), rfl, bel.frame _, fun h => by cases h⟩

theorem over : Rows.countRoomsRow.holds Try.pinned (OpenSpec.ofChange Rows.countRoomsSpec) :=
  OpenClaim.holds_of_wide 7 Try.f7 rfl rfl rfl rfl rfl rfl rfl ⟨rfl, rfl, rfl, rfl, rfl⟩ rfl rfl rfl rfl rfl (by kernel_rfl) Try.func7 (by kernel_rfl)
    (of_decide_eq_true (by kernel_rfl)) (by unfold Func.isWrapper; first | (rw [if_pos (by decide +kernel)]; kernel_rfl) | (rw [if_neg (by decide +kernel)]; exact ⟨rfl, rfl⟩))
    (fun os started H enc _ => lifted os started H enc)

/-- The statement. -/
theorem proved : Rows.CountRoomsSaid := over
#print axioms proved
end Go.Proofs.Ytidknkhkblloaaa.countRooms
