/-
  Tables as the count's statements use them: one entry, the reference's TableRight and Copy, arguments. Conditions: the tables read.
-/
import Derived.Test.YtdffgnpldapciaaGreatDoorH9
import Derived.Test.YtdffgnpldapciaaGreatDoorF9
import Derived.Test.YtdffgnpldapciaaGreatDoorD9
import Derived.Test.YtdffgnpldapciaaGreatDoorB8
import Derived.Deep.MidRow
import Derived.Deep.Slices
import Derived.Lib.SmallJoins
import Derived.RegionTactic
import Derived.Deep.QuietTactic
import Derived.BigQuiet
namespace Go.Proofs.YtdffgnpldapciaaGreatDoor
open Go.RowKit
set_option linter.unusedVariables false

theorem below_drewN9 {B : Nat} {a w : World} (h : Below B a w) (k : Nat) : Below B a (w.drewN k) := ⟨h.os, h.tape, h.output, h.size, h.block⟩
theorem one_cell9 {W : World} {X : Nat} {t : TypeId} {s : Value} (h : Blk W X t #[s]) : W.cell? ⟨X, 0, none⟩ = some s := by
  rw [h.cell]
  rfl
/-- A boxed table, all else below it as it was. -/
def Box1 (X : Nat) (s : Value) (w0 W : World) : Prop := Blk W X 26 #[s] ∧ Below X w0 W
theorem Box1.first (w : World) (s : Value) : Box1 w.heap.size s w (w.alloc (.cells #[s] 26)) := ⟨Blk.new w _ _, (Below.refl _ _).alloc (Nat.le_refl _) _⟩
theorem Box1.later {X : Nat} {s : Value} {w0 W W' : World} (h : Box1 X s w0 W) (hb : Below W.heap.size W W') : Box1 X s w0 W' := ⟨h.1.later hb, h.2.trans (hb.mono (Nat.le_of_lt h.1.lt))⟩
theorem Box1.alloc {X : Nat} {s : Value} {w0 W : World} (h : Box1 X s w0 W) (o : Obj) : Box1 X s w0 (W.alloc o) := h.later ((Below.refl _ _).alloc (Nat.le_refl _) _)
theorem Box1.drew {X : Nat} {s : Value} {w0 W : World} (h : Box1 X s w0 W) : Box1 X s w0 W.drew := h.later (Below.refl _ _).drew
theorem Box1.cell {X : Nat} {s : Value} {w0 W : World} (h : Box1 X s w0 W) : W.cell? ⟨X, 0, none⟩ = some s := one_cell9 h.1
def Caps (a : Option Addr) (len cap : Nat) : Prop := (a = none → cap = 0) ∧ len ≤ cap
theorem cell_kept9 {w w' : World} {g j : Nat} {v : Value} (hb : Below w.heap.size w w') (hg : g < w.heap.size) (hc : w.cell? ⟨g, j, none⟩ = some v) (hf : w.frozen? ⟨g, j, none⟩ = false) : w'.cell? ⟨g, j, none⟩ = some v ∧ w'.frozen? ⟨g, j, none⟩ = false := by
  refine ⟨(hb.cell (p := ⟨g, j, none⟩) hg).trans hc, ?_⟩
  rw [← hf]
  exact hb.frozen (p := ⟨g, j, none⟩) hg
theorem tb_take_succ {ds : List LfD} {j : Nat} {d : LfD} (h : ds[j]? = some d) : (tbOf ds).take (j + 1) = (tbOf ds).take j ++ [d.2.2.2] := by
  unfold tbOf
  rw [List.take_add_one, List.getElem?_map, h]
  rfl
/-- The entry at a place of whatever row of entries. -/
theorem en_at {w : World} {a : Option Addr} {len : Nat} {xs : List En} (h1 : Reads enV w a len xs) (k : Nat) (hk : k < len) : ∃ b off, a = some ⟨b, off, none⟩ ∧
    w.cell? ⟨b, off + k * 5, none⟩ = some (.int .i64 (lfAt xs k).1) ∧ w.cell? ⟨b, off + k * 5 + 1, none⟩ = some (.int .i64 (lfAt xs k).2.1) ∧ w.cell? ⟨b, off + k * 5 + 2, none⟩ = some (.int .i64 (lfAt xs k).2.2.1) ∧
    w.cell? ⟨b, off + k * 5 + 3, none⟩ = some (.int .i64 (lfAt xs k).2.2.2.1) ∧ w.cell? ⟨b, off + k * 5 + 4, none⟩ = some (.int .u32 (lfAt xs k).2.2.2.2) := by
  obtain ⟨b, off, rfl⟩ := h1.lies (by omega)
  have hl := h1.1
  have hx : xs[k]? = some (lfAt xs k) := by rw [lfAt_in (by omega), List.getElem?_eq_getElem (by omega)]
  refine ⟨b, off, rfl, ?_, ?_, ?_, ?_, ?_⟩
  · have := h1.cellAt en_rowed k 0 _ _ hx rfl
    exact this
  · have := h1.cellAt en_rowed k 1 _ _ hx rfl
    rwa [← Nat.add_assoc] at this
  · have := h1.cellAt en_rowed k 2 _ _ hx rfl
    rwa [← Nat.add_assoc] at this
  · have := h1.cellAt en_rowed k 3 _ _ hx rfl
    rwa [← Nat.add_assoc] at this
  · have := h1.cellAt en_rowed k 4 _ _ hx rfl
    rwa [← Nat.add_assoc] at this
/-- A table that reads as T. -/
def Tab (w : World) (a : Option Addr) (len cap : Nat) (T : Tb) : Prop := ∃ ds, TabR w a len ds ∧ Caps a len cap ∧ tbOf ds = T ∧ len ≤ 6000 ∧ ∀ d ∈ ds, d.2.1 ≤ 1000000
theorem Tab.later {w w' : World} {a : Option Addr} {len cap : Nat} {T : Tb} (h : Tab w a len cap T) (hb : Below w.heap.size w w') : Tab w' a len cap T := by
  obtain ⟨ds, h1, h2⟩ := h
  exact ⟨ds, h1.later hb, h2⟩
/-- A table of the call's own that reads as T. -/
def TabN (w : World) (base : Nat) (a : Option Addr) (len cap : Nat) (T : Tb) : Prop := ∃ es, TabQ w base a len cap es es ∧ tbOf es = T ∧ len ≤ 6000 ∧ ∀ lf ∈ T, lf.length ≤ 1000000
theorem TabN.later {w w' : World} {base len cap : Nat} {a : Option Addr} {T : Tb} (h : TabN w base a len cap T) (hb : Below w.heap.size w w') : TabN w' base a len cap T := by
  obtain ⟨es, h1, h2⟩ := h
  exact ⟨es, h1.later hb, h2⟩
theorem TabN.low {w w' : World} {base len cap X : Nat} {a : Option Addr} {T : Tb} (h : TabN w base a len cap T) (hX : X < base) (hg : w.grownBy w' (some X)) : TabN w' base a len cap T := by
  obtain ⟨es, h1, h2⟩ := h
  exact ⟨es, h1.low hX hg, h2⟩
theorem TabN.mono {w : World} {base base' len cap : Nat} {a : Option Addr} {T : Tb} (h : TabN w base a len cap T) (hb : base' ≤ base) : TabN w base' a len cap T := by
  obtain ⟨es, h1, h2⟩ := h
  exact ⟨es, h1.mono hb, h2⟩
theorem TabN.first (w : World) (base : Nat) : TabN w base none 0 0 [] := ⟨[], TabQ.first _ _, rfl, Nat.zero_le _, by simp⟩
theorem TabQ.tabN {w : World} {base base' len cap : Nat} {a : Option Addr} {es : List LfD} (h : TabQ w base a len cap es es) {T : Tb} (hT : tbOf es = T) (hlen : len ≤ 6000) (hll : ∀ lf ∈ T, lf.length ≤ 1000000) (hb : base' ≤ base) : TabN w base' a len cap T := ⟨es, h.mono hb, hT, hlen, hll⟩
theorem tbOf_len (es : List LfD) : (tbOf es).length = es.length := by unfold tbOf; rw [List.length_map]
theorem right_lens {T : Tb} {n c : Int} (h : rightT T n c) : T.length ≤ 512 ∧ ∀ lf ∈ T, lf.length ≤ 8 := by
  refine ⟨h.2.2.2.1, fun lf hlf => ?_⟩
  obtain ⟨i, hi, rfl⟩ := List.getElem_of_mem hlf
  rw [← tbAt_in hi]
  by_cases he : tbAt T i = []
  · rw [he]; exact Nat.zero_le _
  · rw [(h.2.2.2.2 i hi he).1]; exact Nat.le_refl _
theorem TabQ.tab {w : World} {base len cap : Nat} {a : Option Addr} {es : List LfD} (h : TabQ w base a len cap es es) {T : Tb} (hT : tbOf es = T) (hlen : len ≤ 6000) (hll : ∀ lf ∈ T, lf.length ≤ 1000000) : Tab w a len cap T := by
  refine ⟨es, h.reads, h.caps, hT, hlen, fun d hd => ?_⟩
  have := (h.leaf d hd).reads.len
  rw [← this]
  refine hll d.2.2.2 ?_
  rw [← hT]
  exact List.mem_map.2 ⟨d, hd, rfl⟩
theorem TabN.tab {w : World} {base len cap : Nat} {a : Option Addr} {T : Tb} (h : TabN w base a len cap T) : Tab w a len cap T := by
  obtain ⟨es, h1, h2, h3, h4⟩ := h
  exact h1.tab h2 h3 h4
theorem Tab.lens {w : World} {a : Option Addr} {len cap : Nat} {T : Tb} (h : Tab w a len cap T) : T.length = len ∧ len ≤ 6000 ∧ (∀ lf ∈ T, lf.length ≤ 1000000) ∧ ∀ lf ∈ T, ∀ x ∈ lf, EnOk x := by
  obtain ⟨ds, h1, h2, rfl, h4, h5⟩ := h
  refine ⟨h1.tlen, h4, fun lf hlf => ?_, fun lf hlf => ?_⟩ <;> obtain ⟨d, hd, rfl⟩ := List.mem_map.1 hlf
  · rw [(h1.2 d hd).len]
    exact h5 d hd
  · exact (h1.2 d hd).2.2.2
theorem rmayC {k s n z m c : Int} (ho : EnOk (k, s, n, z, m)) {B : Bool} (hB : decide (MayE (k, s, n, z, m) c) = B) (w : World) : Calls Tryz.prog 81 #[.agg #[.int .i64 k, .int .i64 s, .int .i64 n, .int .i64 z, .int .u32 m], .int .i64 c] w fun e w' => e = .returned (.bool B) ∧ Below w.heap.size w w' := by
  subst hB
  exact refMay_any k s n z m c ho w
theorem ek_at {w1 w2 : World} {v1 v2 v3 v4 v5 : Value} (g : Below (w1.alloc (.cells #[v1, v2, v3, v4, v5] 91)).heap.size (w1.alloc (.cells #[v1, v2, v3, v4, v5] 91)) w2) : w2.cell? ⟨w1.heap.size, 0, none⟩ = some v1 := by
  have := (Blk.new w1 91 #[v1, v2, v3, v4, v5]).later g
  rw [this.cell]
  rfl
set_option maxRecDepth 100000 in
set_option maxHeartbeats 3200000 in
theorem refRight9_is (w : World) (a : Option Addr) (len cap : Nat) (ds : List LfD) (n c : Int) (h : TabR w a len ds) (R : Bool) (hR : decide (rightT (tbOf ds) n c) = R) : Calls Tryz.prog 58 #[.agg #[.slice a len cap], .int .i64 n, .int .i64 c] w fun e w' => e = .returned (.bool R) ∧ Below w.heap.size w w' := by
  have hR' : R = true ↔ rightT (tbOf ds) n c := by rw [← hR, decide_eq_true_iff]
  have HG0 : Hid (Below w.heap.size w (w.alloc (.cells #[.slice a len cap] 26))) := (Below.refl _ _).alloc (Nat.le_refl _) _
  have hlt' := h.tlen
  by_cases hg : (0 ≤ n ∧ n ≤ 4096) ∧ (0 ≤ c ∧ c ≤ 6)
  · obtain ⟨hn, hc⟩ := hg
    obtain ⟨N, rfl⟩ : ∃ N : Nat, n = N := ⟨n.toNat, by omega⟩
    obtain ⟨C, rfl⟩ : ∃ C : Nat, c = C := ⟨c.toNat, by omega⟩
    by_cases hlast : 0 < len → tbAt (tbOf ds) (len - 1) ≠ []
    · by_cases h512 : len ≤ 512
      · have HRL : Hid (R = true ↔ ∀ i, i < len → tbAt (tbOf ds) i ≠ [] → rightL (tbAt (tbOf ds) i) i N C) := by
          show _ ↔ _
          rw [hR']
          unfold rightT
          rw [hlt']
          exact ⟨fun h => h.2.2.2.2, fun h => ⟨hn, hc, hlast, h512, h⟩⟩
        have HT := Lib.hid h
        have HB0 := Lib.hid (Box1.first w (.slice a len cap))
        obtain ⟨X, hX⟩ := named w.heap.size
        have hXX := hX.out
        rw [hX.out] at HB0 ⊢
        clear hR hR'
        by_cases h0 : len = 0
        · subst h0
          have hr : R = true := HRL.out.2 fun i hi => by omega
          subst hr
          clear h
          go_enter Tryz.func58, Tryz.ntmps58
          go_wp2
          go_loopw [7] (fun i wr => i = .int .i64 0 ∧ Hid (Box1 X (.slice a 0 cap) w wr)) (fun _ _ => 1)
          case atStart => exact ⟨rfl, HB0.out⟩
          case round =>
            obtain ⟨rfl, HB⟩ := hrel
            have b1 := HB.out.cell
            go_wp2
            go_ret
            exact ⟨rfl, HB.out.2⟩
        · obtain ⟨b, off, al, ll, cl, xs, rfl, hcell, hL, hxs, _⟩ := (h.later HG0.out).at (len - 1) (by omega)
          have hl0 : ¬ ll = 0 := fun e => hlast (by omega) (hxs.trans (List.eq_nil_of_length_eq_zero (hL.len.trans e)))
          have e1 : wrap64 ((len : Int) - 1) = ((len - 1 : Nat) : Int) := by unfold wrap64; omega
          have h02 : len - 1 < len := by omega
          have h03 : 0 < len := by omega
          have d1 : decide ((N : Int) < 0) = false := decide_eq_false (by omega)
          have d2 : decide (4096 < (N : Int)) = false := decide_eq_false (by omega)
          have d3 : decide ((C : Int) < 0) = false := decide_eq_false (by omega)
          have d4 : decide (6 < (C : Int)) = false := decide_eq_false (by omega)
          have d5 : ((ll : Int) == 0) = false := by simp [hl0]
          have d6 : decide (512 < (len : Int)) = false := decide_eq_false (by omega)
          clear hlast h hL hxs
          go_enter Tryz.func58, Tryz.ntmps58
          go_wp2
          clear hcell d5
          go_loopw [7] (fun i wr => ∃ j : Nat, j ≤ len ∧ i = .int .i64 j ∧ Hid (∀ i, i < j → tbAt (tbOf ds) i ≠ [] → rightL (tbAt (tbOf ds) i) i N C) ∧ Hid (Box1 X (.slice (some ⟨b, off, none⟩) len cap) w wr)) (fun i _ => len - (intOf i).toNat)
          case atStart => exact ⟨0, Nat.zero_le _, rfl, fun k hk => by omega, HB0.out⟩
          case round =>
            obtain ⟨j, hj, rfl, HJ, HB⟩ := hrel
            have hTR := HT.out.later (hX.out.symm ▸ HB.out.2)
            have b1 := HB.out.cell
            by_cases hlt : j < len
            · obtain ⟨b0, off0, al, ll, cl, xs, e0, hcell, hL, hxs, hget⟩ := hTR.at j hlt
              cases e0
              have HXS := Lib.hid hxs
              by_cases h0 : ll = 0
              · subst h0
                have he : xs = [] := List.eq_nil_of_length_eq_zero hL.len
                have HJ2 : Hid (∀ i, i < j + 1 → tbAt (tbOf ds) i ≠ [] → rightL (tbAt (tbOf ds) i) i N C) := fun i hi hne => by
                  by_cases e : i = j
                  · subst e
                    exact absurd (HXS.out.trans he) hne
                  · exact HJ.out i (by omega) hne
                clear hTR hL hxs he hget
                go_wp2
                go_roundw
                case rel => exact ⟨j + 1, by omega, by go_num, HJ2, HB.out⟩
                case measure => simp [intOf]; omega
              · have hne : xs ≠ [] := fun e => by
                  have := hL.len
                  dsimp only at this
                  rw [e] at this
                  exact h0 this.symm
                have HL := Lib.hid hL
                have HNO : Hid (¬ rightL xs j N C → R = false) := fun hno => by
                  cases R with
                  | false => rfl
                  | true =>
                    have := HRL.out.1 rfl j hlt (by rw [HXS.out]; exact hne)
                    rw [HXS.out] at this
                    exact absurd this hno
                by_cases h8 : ll = 8
                · subst h8
                  have HJ2 : Hid (rightL xs j N C → ∀ i, i < j + 1 → tbAt (tbOf ds) i ≠ [] → rightL (tbAt (tbOf ds) i) i N C) := fun hrj i hi hne => by
                    by_cases e : i = j
                    · subst e
                      rw [HXS.out]
                      exact hrj
                    · exact HJ.out i (by omega) hne
                  have HLEN := Lib.hid hL.len
                  have HGET := Lib.hid hget
                  clear hTR hL hxs hget
                  go_wp2
                  go_loopw [8, 9] (fun v i w9 => ∃ q : Nat, ∃ B : Bool, q ≤ 8 ∧ i = .int .i64 q ∧ v = .bool B ∧ Hid (∀ k, k < q → MayE (lfAt xs k) C ∧ ((lfAt xs k).1 ≠ 0 → ((j * 8 + k : Nat) : Int) < N)) ∧ Hid (B = true ↔ ∃ k, k < q ∧ (lfAt xs k).1 ≠ 0) ∧ Hid (Box1 X (.slice (some ⟨b, off, none⟩) len cap) w w9)) (fun _ i _ => 8 - (intOf i).toNat)
                  case atStart => exact ⟨0, false, by omega, rfl, rfl, fun k hk => by omega, ⟨fun e => (by cases e), fun ⟨k, hk, _⟩ => by omega⟩, HB.out⟩
                  case round =>
                    obtain ⟨q, B, hq, rfl, rfl, HK, HBB, HB9⟩ := hrel
                    have b9 := HB9.out.cell
                    have hTR9 := HT.out.later (hX.out.symm ▸ HB9.out.2)
                    by_cases hql : q < 8
                    · obtain ⟨b0, off0, al0, ll0, cl0, xs0, e0, hcell9, hL9, hxs9, hget⟩ := hTR9.at j hlt
                      cases e0
                      obtain ⟨rfl, rfl, rfl, rfl⟩ : al0 = al ∧ ll0 = 8 ∧ cl0 = cl ∧ xs0 = xs := by
                        have := HGET.out.symm.trans hget
                        simp only [Option.some.injEq, Prod.mk.injEq] at this
                        exact ⟨this.1.symm, this.2.1.symm, this.2.2.1.symm, this.2.2.2.symm⟩
                      obtain ⟨b', off', e1, hs, x1, x2, x3, x4, x5⟩ := hL9.at q hql
                      dsimp only at e1 hs x1 x2 x3 x4 x5
                      subst e1
                      have hno : ¬ (MayE (lfAt xs0 q) C ∧ ((lfAt xs0 q).1 ≠ 0 → ((j * 8 + q : Nat) : Int) < N)) → R = false := fun h => HNO.out fun hr => h (hr.2.1 q hql)
                      have heq : MayE (lfAt xs0 q) C ∧ ((lfAt xs0 q).1 ≠ 0 → ((j * 8 + q : Nat) : Int) < N) → Hid (∀ k, k < q + 1 → MayE (lfAt xs0 k) C ∧ ((lfAt xs0 k).1 ≠ 0 → ((j * 8 + k : Nat) : Int) < N)) := fun h k hk => by
                        by_cases e : k = q
                        · rw [e]; exact h
                        · exact HK.out k (by omega)
                      have hB1 : (lfAt xs0 q).1 ≠ 0 → Hid (true = true ↔ ∃ k, k < q + 1 ∧ (lfAt xs0 k).1 ≠ 0) := fun h => ⟨fun _ => ⟨q, by omega, h⟩, fun _ => rfl⟩
                      have hB2 : (lfAt xs0 q).1 = 0 → Hid (B = true ↔ ∃ k, k < q + 1 ∧ (lfAt xs0 k).1 ≠ 0) := fun h => ⟨fun e => by
                        obtain ⟨k, h1, h2⟩ := HBB.out.1 e
                        exact ⟨k, by omega, h2⟩, fun ⟨k, h1, h2⟩ => HBB.out.2 ⟨k, by
                          rcases Nat.lt_or_ge k q with h' | h'
                          · exact h'
                          · exact absurd (by rw [show k = q by omega]; exact h) h2, h2⟩⟩
                      obtain ⟨⟨v1, v2, v3, v4, v5⟩, HV⟩ := named (lfAt xs0 q)
                      rw [HV.out] at x1 x2 x3 x4 x5 hno heq hs hB1 hB2
                      dsimp only at x1 x2 x3 x4 x5 hno heq hB1 hB2
                      have hcast : ((j * 8 + q : Nat) : Int) = (j : Int) * 8 + q := by omega
                      rw [hcast] at hno heq
                      clear hcast
                      clear HV hTR9 hget hxs9 hL9
                      by_cases hm : MayE (v1, v2, v3, v4, v5) C
                      · have HM := Lib.hid (fun w => rmayC hs (decide_eq_true hm) w)
                        by_cases hv : v1 = 0
                        · subst hv
                          have HQ2 := heq ⟨hm, fun h => absurd rfl h⟩
                          have HB2 := hB2 rfl
                          clear hno heq hs hm hB1 hB2
                          have hvb : ((0 : Int) != 0) = false := rfl
                          cases B
                          all_goals
                            go_wp2_with (go_at_call 81; (with_reducible refine (HM.out _).mono ?_); rintro e w2 ⟨rfl, g⟩; have HN2 := Lib.hid ((HB9.out.alloc (.cells #[.int .i64 0, .int .i64 v2, .int .i64 v3, .int .i64 v4, .int .u32 v5] 91)).later g); have k1 := ek_at g; clear g)
                            go_roundw
                            case rel => exact ⟨q + 1, _, by omega, by go_num, rfl, HQ2, (by have := HB2.out; show _ ↔ _; simpa using this), HN2.out⟩
                            case measure => simp [intOf]; omega
                        · by_cases hlt9 : (j : Int) * 8 + q < N
                          · have HQ2 := heq ⟨hm, fun _ => hlt9⟩
                            have HB2 := hB1 hv
                            have hvb : (v1 != 0) = true := by simp [hv]
                            have d7 : decide ((N : Int) ≤ (j : Int) * 8 + q) = false := decide_eq_false (by omega)
                            clear hno heq hs hm hB1 hB2 HBB
                            cases B
                            all_goals
                              go_wp2_with (go_at_call 81; (with_reducible refine (HM.out _).mono ?_); rintro e w2 ⟨rfl, g⟩; have HN2 := Lib.hid ((HB9.out.alloc (.cells #[.int .i64 v1, .int .i64 v2, .int .i64 v3, .int .i64 v4, .int .u32 v5] 91)).later g); have k1 := ek_at g; clear g)
                              go_roundw
                              case rel => exact ⟨q + 1, true, by omega, by go_num, rfl, HQ2, (by have := HB2.out; show _ ↔ _; simpa using this), HN2.out⟩
                              case measure => simp [intOf]; omega
                          · have hr : R = false := hno fun h => hlt9 (h.2 hv)
                            have hvb : (v1 != 0) = true := by simp [hv]
                            have d7 : decide ((N : Int) ≤ (j : Int) * 8 + q) = true := decide_eq_true (by omega)
                            subst hr
                            clear hno heq hs hm hB1 hB2
                            go_wp2_with (go_at_call 81; (with_reducible refine (HM.out _).mono ?_); rintro e w2 ⟨rfl, g⟩; have HN2 := Lib.hid ((HB9.out.alloc (.cells #[.int .i64 v1, .int .i64 v2, .int .i64 v3, .int .i64 v4, .int .u32 v5] 91)).later g); have k1 := ek_at g; clear g)
                            go_ret
                            exact ⟨rfl, HN2.out.2⟩
                      · have HM := Lib.hid (fun w => rmayC hs (decide_eq_false hm) w)
                        have hr : R = false := hno fun h => hm h.1
                        subst hr
                        clear hno heq hs hm hB1 hB2
                        go_wp2_with (go_at_call 81; (with_reducible refine (HM.out _).mono ?_); rintro e w2 ⟨rfl, g⟩; have HN2 := Lib.hid ((HB9.out.alloc (.cells #[.int .i64 v1, .int .i64 v2, .int .i64 v3, .int .i64 v4, .int .u32 v5] 91)).later g); have k1 := ek_at g; clear g)
                        go_ret
                        exact ⟨rfl, HN2.out.2⟩
                    · have hq8 : q = 8 := by omega
                      subst hq8
                      by_cases hB : B = true
                      · subst hB
                        have HJ3 := Lib.hid (HJ2.out ⟨HLEN.out, HK.out, HBB.out.1 rfl⟩)
                        clear hTR9
                        go_wp2
                        go_roundw
                        case rel => exact ⟨j + 1, by omega, by go_num, HJ3.out, HB9.out⟩
                        case measure => simp [intOf]; omega
                      · have hr : R = false := HNO.out fun h => hB (HBB.out.2 h.2.2)
                        subst hr
                        clear hTR9
                        go_wp2
                        go_ret
                        exact ⟨rfl, HB9.out.2⟩
                · have hr : R = false := HNO.out fun h => h8 (hL.len.symm.trans h.1)
                  subst hr
                  clear hTR hL hxs hget
                  go_wp2
                  go_ret
                  exact ⟨rfl, HB.out.2⟩
            · have hr : R = true := HRL.out.2 fun i hi => HJ.out i (by omega)
              subst hr
              clear hTR
              go_wp2
              go_ret
              exact ⟨rfl, HB.out.2⟩
      · have hr : R = false := by
          cases R with
          | false => rfl
          | true =>
            have := (hR'.1 rfl).2.2.2.1
            omega
        subst hr
        obtain ⟨b, off, al, ll, cl, xs, rfl, hcell, hL, hxs, _⟩ := (h.later HG0.out).at (len - 1) (by omega)
        have hl0 : ¬ ll = 0 := fun e => hlast (by omega) (hxs.trans (List.eq_nil_of_length_eq_zero (hL.len.trans e)))
        have hm := h.1.2.1
        have e1 : wrap64 ((len : Int) - 1) = ((len - 1 : Nat) : Int) := by unfold wrap64; omega
        have h02 : len - 1 < len := by omega
        clear hlast h hL hxs hR hR'
        go_enter Tryz.func58, Tryz.ntmps58
        go_wp2
        go_ret
        exact ⟨rfl, HG0.out⟩
    · have hr : R = false := by
        cases R with
        | false => rfl
        | true =>
          have := (hR'.1 rfl).2.2.1
          rw [hlt'] at this
          exact absurd this hlast
      subst hr
      have hp : 0 < len := Decidable.byContradiction fun h' => hlast fun h => absurd h h'
      have hnil : tbAt (tbOf ds) (len - 1) = [] := Decidable.byContradiction fun h' => hlast fun _ => h'
      obtain ⟨b, off, al, ll, cl, xs, rfl, hcell, hL, hxs, _⟩ := (h.later HG0.out).at (len - 1) (by omega)
      have hl0 : ll = 0 := by
        have := hL.len
        dsimp only at this
        rw [← hxs, hnil] at this
        exact this.symm
      subst hl0
      have hm := h.1.2.1
      have e1 : wrap64 ((len : Int) - 1) = ((len - 1 : Nat) : Int) := by unfold wrap64; omega
      have h02 : len - 1 < len := by omega
      have h03 : ¬ len = 0 := by omega
      clear hlast h hL hxs hR hR' hnil
      go_enter Tryz.func58, Tryz.ntmps58
      go_wp2
      go_ret
      exact ⟨rfl, HG0.out⟩
  · have hr : R = false := by
      cases R with
      | false => rfl
      | true => exact absurd ⟨(hR'.1 rfl).1, (hR'.1 rfl).2.1⟩ hg
    subst hr
    have hcs : n < 0 ∨ (0 ≤ n ∧ 4096 < n) ∨ (0 ≤ n ∧ n ≤ 4096 ∧ c < 0) ∨ (0 ≤ n ∧ n ≤ 4096 ∧ 0 ≤ c ∧ 6 < c) := by omega
    clear hR hR' h hg
    rcases hcs with h1 | ⟨h1, h2⟩ | ⟨h1, h2, h3⟩ | ⟨h1, h2, h3, h4⟩
    all_goals
      go_enter Tryz.func58, Tryz.ntmps58
      go_wp2
      go_ret
      exact ⟨rfl, HG0.out⟩
theorem refRightT {a : Option Addr} {len cap : Nat} {T : Tb} {n c : Int} {R : Bool} (hR : decide (rightT T n c) = R) (w : World) (h : Tab w a len cap T) : Calls Tryz.prog 58 #[.agg #[.slice a len cap], .int .i64 n, .int .i64 c] w fun e w' => e = .returned (.bool R) ∧ Below w.heap.size w w' := by
  obtain ⟨ds, h1, h2, rfl, h3, _⟩ := h
  exact refRight9_is w a len cap ds n c h1 R hR
theorem Tab.nil (w : World) : Tab w none 0 0 [] := (TabN.first w 0).tab
open Go.ChangeShapes Go.WideShapes Go.Deep
set_option maxRecDepth 100000

theorem some_at {α : Type} {xs : List α} (i : Nat) (h : i < xs.length) : ∃ y, xs[i]? = some y := ⟨_, List.getElem?_eq_getElem h⟩
section
variable {H : Type} {enc : TypeId × Value → H} {W : World} {base : Nat} {spare : Nat → Bool} {held : Bool}
theorem en_of_trod {fuel : Nat} {cs : List Value} {x : DataW H × List MemPlace} (hlen : cs.length = 5) (hf : DataW.trod enc Tryz.prog W base spare held fuel 91 cs = some x) : ∃ e : En, cs = enV e ∧ EnOk e := by
  obtain ⟨xs, q, _, _, _, hxl, hx⟩ := DataW.trod_struct Tryz.underlying91 hf
  have hl : xs.length = 5 := hxl
  have ci : Tryz.prog.cellsOf 3 = 1 := by kernel_rfl
  have cu : Tryz.prog.cellsOf 89 = 1 := by kernel_rfl
  match cs, hlen with
  | [c0, c1, c2, c3, c4], _ =>
    obtain ⟨y0, g0⟩ := some_at (xs := xs) 0 (by omega)
    obtain ⟨y1, g1⟩ := some_at (xs := xs) 1 (by omega)
    obtain ⟨y2, g2⟩ := some_at (xs := xs) 2 (by omega)
    obtain ⟨y3, g3⟩ := some_at (xs := xs) 3 (by omega)
    obtain ⟨y4, g4⟩ := some_at (xs := xs) 4 (by omega)
    have t0 := (hx 0 _ rfl).trans g0
    have t1 := (hx 1 _ rfl).trans g1
    have t2 := (hx 2 _ rfl).trans g2
    have t3 := (hx 3 _ rfl).trans g3
    have t4 := (hx 4 _ rfl).trans g4
    obtain ⟨k, e0, _, w0⟩ := DataW.trod_int Tryz.underlying3 t0
    obtain ⟨s, e1, _, w1⟩ := DataW.trod_int Tryz.underlying3 t1
    obtain ⟨n, e2, _, w2⟩ := DataW.trod_int Tryz.underlying3 t2
    obtain ⟨z, e3, _, w3⟩ := DataW.trod_int Tryz.underlying3 t3
    obtain ⟨m, e4, _, w4⟩ := DataW.trod_int Tryz.underlying89 t4
    obtain rfl : c0 = .int .i64 k := by simpa [ci] using e0
    obtain rfl : c1 = .int .i64 s := by simpa [ci] using e1
    obtain rfl : c2 = .int .i64 n := by simpa [ci] using e2
    obtain rfl : c3 = .int .i64 z := by simpa [ci] using e3
    obtain rfl : c4 = .int .u32 m := by simpa [cu] using e4
    have b0 := bounds_i64 w0
    have b1 := bounds_i64 w1
    have b2 := bounds_i64 w2
    have b3 := bounds_i64 w3
    have b4 := bounds_u32 w4
    refine ⟨(k, s, n, z, m), rfl, ?_⟩
    unfold EnOk I64
    dsimp only
    omega
set_option maxRecDepth 100000 in
theorem entry_open {r : Reach} {b0 : Nat} {v : Value} {d : DataW H} {p : List MemPlace} (hv : Value.okWide Tryz.prog W r b0 91 v) (h : DataW.Trod enc Tryz.prog W base spare held 91 v d p) :
    ∃ k s n z m, v = .agg #[.int .i64 k, .int .i64 s, .int .i64 n, .int .i64 z, .int .u32 m] ∧ EnOk (k, s, n, z, m) := by
  obtain ⟨cs, rfl, hsz⟩ := okWide_struct Tryz.underlying91 hv
  have h5 : cs.size = 5 := hsz.trans (by kernel_rfl)
  obtain ⟨fuel, hf⟩ := h
  obtain ⟨⟨k, s, n, z, m⟩, he, ho⟩ := en_of_trod (cs := cs.toList) (by simpa using h5) hf
  exact ⟨k, s, n, z, m, by obtain ⟨l⟩ := cs; dsimp only at he; rw [he]; rfl, ho⟩
set_option maxRecDepth 100000 in
/-- A leaf that came in: if it is short it reads. -/
theorem leaf_open {fuel : Nat} {cs : List Value} {x : DataW H × List MemPlace} (hf : DataW.trod enc Tryz.prog W base (fun _ => true) held fuel 88 cs = some x) :
    ∃ (a : Option Addr) (len cap : Nat), cs = [.slice a len cap] ∧ len ≤ maxLen ∧ (len ≤ 6000 → ∃ xs, LfR W (a, len, cap, xs)) := by
  have c5 : Tryz.prog.cellsOf 91 = 5 := by kernel_rfl
  rcases open_slice Tryz.underlying88 hf with ⟨rfl, _⟩ | ⟨a, len, cap, m, n, D, Pl, rfl, hb, hl, hm, hmm, _, hx⟩
  · exact ⟨none, 0, 0, rfl, Nat.zero_le _, fun _ => ⟨[], Reads.nil _ _ _, Nat.le_refl _, fun _ => rfl, by simp⟩⟩
  · have hmc : m = cap := by simpa using hmm
    subst hmc
    refine ⟨some a, len, m, rfl, Nat.le_trans hl hm, fun h6 => ?_⟩
    have each : ∀ i, i < len → ∃ e : En, EnOk e ∧ ∀ j u, (enV e)[j]? = some u → W.cell? (a.add (i * 5 + j)) = some u := fun i hi => by
      obtain ⟨cs', h1, h2⟩ := hx i (by omega)
      rw [c5] at h1
      obtain ⟨_, hlen, hcell⟩ := World.cells?_some h1
      obtain ⟨e, he, ho⟩ := en_of_trod hlen h2
      refine ⟨e, ho, fun j u hu => ?_⟩
      have hj : j < 5 := by
        rcases Nat.lt_or_ge j 5 with h' | h'
        · exact h'
        · rw [List.getElem?_eq_none (by rw [enV_len]; exact h')] at hu
          cases hu
      have := hcell j hj
      rw [add_add] at this
      rw [this, he]
      exact hu
    obtain ⟨g, hg⟩ := choose_lt (α := En) each
    refine ⟨(List.range len).map g, ⟨by simp, (show len ≤ 100000000 by omega), ?_⟩, hl, fun e => (by cases e), fun y hy => ?_⟩
    · by_cases h0 : len = 0
      · exact Or.inl h0
      · obtain ⟨b, off, spot⟩ := a
        have hc := (hg 0 (by omega)).2 0 _ rfl
        have hspot : spot = none := by simpa [Addr.add] using World.cell?_spot hc
        subst hspot
        refine Or.inr ⟨b, off, rfl, block_lt_of_cell hc, fun j u hu => ?_⟩
        have hlt : j < len * 5 := by
          rcases Nat.lt_or_ge j (len * 5) with h' | h'
          · exact h'
          · rw [List.getElem?_eq_none (by rw [flat_len enV_len, List.length_map, List.length_range]; exact h')] at hu
            cases hu
        have hd : j / 5 < len := by omega
        have hat := flat_at enV_len ((List.range len).map g) (j / 5) (j % 5) (g (j / 5)) (by rw [List.getElem?_map, List.getElem?_range hd]; rfl) (Nat.mod_lt _ (by omega))
        rw [show j / 5 * 5 + j % 5 = j by omega, hu] at hat
        have := (hg (j / 5) hd).2 (j % 5) u hat.symm
        rw [add_none, show j / 5 * 5 + j % 5 = j by omega] at this
        exact this
    · obtain ⟨i, hi, rfl⟩ := List.mem_map.1 hy
      exact (hg i (List.mem_range.1 hi)).1
/-- A table that came in: its outer slice, and its leaves where they are short. -/
def TabArg (w : World) (a : Option Addr) (len cap : Nat) : Prop := Caps a len cap ∧ ∃ g : Nat → Option Addr × Nat × Nat, OutR w a len g ∧ ∀ i, i < len → (g i).2.1 ≤ 6000 → ∃ xs, LfR w ((g i).1, (g i).2.1, (g i).2.2, xs)
set_option maxRecDepth 100000 in
theorem tab_open {r : Reach} {b0 : Nat} {v : Value} {d : DataW H} {p : List MemPlace} (hv : Value.okWide Tryz.prog W r b0 26 v) (h : DataW.Trod enc Tryz.prog W base (fun _ => true) held 26 v d p) :
    ∃ a len cap, v = .agg #[.slice a len cap] ∧ TabArg W a len cap := by
  obtain ⟨cs, rfl, hsz⟩ := okWide_struct Tryz.underlying26 hv
  have h1 : cs.size = 1 := hsz.trans (by kernel_rfl)
  obtain ⟨fuel, hf⟩ := h
  obtain ⟨xs, q, _, _, _, hxl, hx⟩ := DataW.trod_struct Tryz.underlying26 hf
  have hl : xs.length = 1 := hxl
  obtain ⟨y0, g0⟩ := some_at (xs := xs) 0 (by omega)
  have t0 := (hx 0 _ rfl).trans g0
  have c1 : Tryz.prog.cellsOf 24 = 1 := by kernel_rfl
  have ce : Tryz.prog.cellsOf 88 = 1 := by kernel_rfl
  obtain ⟨l⟩ := cs
  match l, h1 with
  | [c0], _ =>
    have t1 : DataW.trod enc Tryz.prog W base (fun _ => true) held q 24 [c0] = some y0 := by simpa [c1, Value.cells] using t0
    rcases open_slice1 Tryz.underlying24 ce t1 with ⟨hc, _⟩ | ⟨a, len, cap, m, n, V, D, Pl, hc, hb, hle, hm, hmm, _, hi⟩
    · obtain rfl : c0 = .slice none 0 0 := by simpa using hc
      exact ⟨none, 0, 0, rfl, ⟨fun _ => rfl, Nat.le_refl _⟩, fun _ => (none, 0, 0), ⟨Nat.zero_le _, fun i hi => by omega, fun h => by omega⟩, fun i hi => by omega⟩
    · obtain rfl : c0 = .slice (some a) len cap := by simpa using hc
      have hmc : m = cap := by simpa using hmm
      subst hmc
      have each : ∀ i, i < len → ∃ g : Option Addr × Nat × Nat, W.cell? (a.add i) = some (.slice g.1 g.2.1 g.2.2) ∧ g.2.1 ≤ maxLen ∧ (g.2.1 ≤ 6000 → ∃ xs, LfR W (g.1, g.2.1, g.2.2, xs)) := fun i hil => by
        obtain ⟨k1, k2⟩ := hi i (by omega)
        obtain ⟨al, ll, cl, e1, e2, e3⟩ := leaf_open k2
        obtain e1 : V i = .slice al ll cl := by simpa using e1
        exact ⟨(al, ll, cl), by rw [k1, e1], e2, e3⟩
      obtain ⟨g, hg⟩ := choose_lt (α := Option Addr × Nat × Nat) each
      refine ⟨some a, len, m, rfl, ⟨fun e => (by cases e), hle⟩, g, ⟨Nat.le_trans hle hm, fun i hil => (hg i hil).2.1, fun h0 => ?_⟩, fun i hil => (hg i hil).2.2⟩
      obtain ⟨b, off, spot⟩ := a
      have hc := (hg 0 h0).1
      have hspot : spot = none := by simpa [Addr.add] using World.cell?_spot hc
      subst hspot
      refine ⟨b, off, rfl, block_lt_of_cell hc, fun i hil => ?_⟩
      have := (hg i hil).1
      rwa [add_none] at this
end
/-- A table that came in and is small reads. -/
theorem TabArg.tab {w : World} {a : Option Addr} {len cap : Nat} (h : TabArg w a len cap) {g : Nat → Option Addr × Nat × Nat} (hg : OutR w a len g) (hi : ∀ i, i < len → (g i).2.1 ≤ 6000 → ∃ xs, LfR w ((g i).1, (g i).2.1, (g i).2.2, xs)) (hs : ¬ 6000 < greatN g len) : ∃ T, Tab w a len cap T := by
  obtain ⟨h1, h2⟩ := greatN_small hs
  obtain ⟨xs, hxs⟩ := choose_lt (α := List En) (fun i (hil : i < len) => hi i hil (h2 i hil))
  refine ⟨_, (List.range len).map (fun i => ((g i).1, (g i).2.1, (g i).2.2, xs i)), ⟨⟨by simp, by omega, ?_⟩, fun d hd => ?_⟩, h.1, rfl, h1, fun d hd => ?_⟩
  · by_cases h0 : len = 0
    · exact Or.inl h0
    · obtain ⟨b, off, e, hlt, hc⟩ := hg.2.2 (by omega)
      refine Or.inr ⟨b, off, e, hlt, fun j u hu => ?_⟩
      have hlt : j < len * 1 := by
        rcases Nat.lt_or_ge j (len * 1) with h' | h'
        · exact h'
        · rw [List.getElem?_eq_none (by rw [flat_len lf_rowed.len, List.length_map, List.length_range]; exact h')] at hu
          cases hu
      rw [Nat.mul_one] at hlt
      have hat := flat_at lf_rowed.len ((List.range len).map (fun i => ((g i).1, (g i).2.1, (g i).2.2, xs i))) j 0 _ (by rw [List.getElem?_map, List.getElem?_range hlt]; rfl) (by omega)
      rw [Nat.mul_one, Nat.add_zero, hu] at hat
      obtain rfl : u = .slice (g j).1 (g j).2.1 (g j).2.2 := Option.some.inj hat
      exact hc j hlt
  · obtain ⟨i, hil, rfl⟩ := List.mem_map.1 hd
    exact hxs i (List.mem_range.1 hil)
  · obtain ⟨i, hil, rfl⟩ := List.mem_map.1 hd
    have := h2 i (List.mem_range.1 hil)
    dsimp only
    omega


end Go.Proofs.YtdffgnpldapciaaGreatDoor
