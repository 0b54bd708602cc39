/-
  What the reference's Counted, Of and Ints answer (layer 9). Conditions: the lines are within bounds, no more than 65536 sectors.
-/
import Derived.Test.YtidknkhkblloaaaN0
namespace Go.Proofs.Ytidknkhkblloaaa
open Go.RowKit
set_option linter.unusedVariables false

theorem ln_at {w : World} {a : Option Addr} {len : Nat} {L : List Ln} (h : Reads lnV w a len L) (i : Nat) (hi : i < len) : ∃ b off sh cl k st ct z m, a = some ⟨b, off, none⟩ ∧ L[i]? = some (sh, cl, k, st, ct, z, m) ∧
    w.cell? ⟨b, off + i * 7, none⟩ = some (.int .i64 sh) ∧ w.cell? ⟨b, off + i * 7 + 1, none⟩ = some (.int .i64 cl) ∧ w.cell? ⟨b, off + i * 7 + 2, none⟩ = some (.int .i64 k) ∧ w.cell? ⟨b, off + i * 7 + 2 + 1, none⟩ = some (.int .i64 st) ∧
    w.cell? ⟨b, off + i * 7 + 2 + 2, none⟩ = some (.int .i64 ct) ∧ w.cell? ⟨b, off + i * 7 + 2 + 3, none⟩ = some (.int .i64 z) ∧ w.cell? ⟨b, off + i * 7 + 2 + 4, none⟩ = some (.int .u32 m) := by
  obtain ⟨b, off, rfl⟩ := h.lies (by omega)
  have hl := h.1
  obtain ⟨⟨sh, cl, k, st, ct, z, m⟩, hx⟩ : ∃ x, L[i]? = some x := ⟨_, List.getElem?_eq_getElem (by omega)⟩
  have c := fun j v (hj : (lnV (sh, cl, k, st, ct, z, m))[j]? = some v) => h.cellAt ln_rowed i j _ v hx hj
  refine ⟨b, off, sh, cl, k, st, ct, z, m, rfl, hx, c 0 _ rfl, ?_, ?_, ?_, ?_, ?_, ?_⟩
  · have := c 1 _ rfl; rwa [← Nat.add_assoc] at this
  · have := c 2 _ rfl; rwa [← Nat.add_assoc] at this
  · have := c 3 _ rfl; rwa [← Nat.add_assoc] at this
  · have := c 4 _ rfl; rwa [← Nat.add_assoc] at this
  · have := c 5 _ rfl; rwa [← Nat.add_assoc] at this
  · have := c 6 _ rfl; rwa [← Nat.add_assoc] at this
/-- A sector of an entry that is counted so far. -/
def onTo (st : Int) (k : Nat) (q : Nat) : Int := if st ≤ q ∧ q < k then 1 else 0
theorem onTo_all {st ct : Int} {k n : Nat} (h : (k : Int) = st + ct ∨ n ≤ k ∧ (k : Int) ≤ st + ct) {q : Nat} (hq : q < n) : onTo st k q = onS (st, ct) q := by
  unfold onTo onS
  dsimp only
  split <;> split <;> omega
set_option maxRecDepth 100000 in
set_option maxHeartbeats 3200000 in
theorem counted_any (w : World) (a : Option Addr) (len cap : Nat) (L : List Ln) (hL : Reads lnV w a len L) (hok : ∀ x ∈ L, LnOk x) (hlen : len ≤ 100000000) (n : Nat) (hn : n ≤ 65536) :
    Calls Try.prog 32 #[.slice a len cap, .int .i64 n] w fun e w' => ∃ R, e = .returned (.slice (some ⟨R, 0, none⟩) n n) ∧ w.heap.size ≤ R ∧ IRow w' R n (ofL L) ∧ Below w.heap.size w w' := by
  have HL := Lib.hid hL
  have HOK := Lib.hid hok
  have hlL := hL.1
  have hmk := make_i n (by omega)
  have HI0 := Lib.hid (IRow.made w n)
  have HB0 : Hid (Below w.heap.size w (w.alloc (.cells (zerosI n) 3))) := (Below.refl _ _).alloc (Nat.le_refl _) _
  have g1 : ¬ (n : Int) < 0 := by omega
  have g2 : ¬ (65536 : Int) < n := by omega
  clear hL hok
  go_enter Try.func32, Try.ntmps32
  go_wp2
  go_loopw [6] (fun i wr => ∃ j : Nat, j ≤ 2 ∧ i = .int .i64 j ∧ Hid (IRow wr w.heap.size n (fun q => if q < j then 1 else 0)) ∧ Hid (Below w.heap.size w wr)) (fun i _ => 2 - (intOf i).toNat)
  case atStart => exact ⟨0, by omega, rfl, HI0.out.congr fun q _ => by rw [if_neg (by omega)], HB0.out⟩
  case round =>
    obtain ⟨j, hj, rfl, HR, HB⟩ := hrel
    by_cases hin : j < 2 ∧ j < n
    · obtain ⟨h1, h2⟩ := hin
      have c1 := HR.out.cell h2
      have f1 := HR.out.free j
      have hrl := HR.out.lt
      have HS := Lib.hid (HR.out.set h2 1)
      go_wp2
      go_roundw
      case rel =>
        refine ⟨j + 1, by omega, by go_num, HS.out.congr fun q _ => ?_, HB.out.setCell (p := ⟨w.heap.size, j, none⟩) (Nat.le_refl _) _⟩
        by_cases e : q = j
        · rw [if_pos e, if_pos (by omega)]
        · rw [if_neg e]
          by_cases e2 : q < j
          · rw [if_pos e2, if_pos (by omega)]
          · rw [if_neg e2, if_neg (by omega)]
      case measure => simp [intOf]; omega
    · have HC : Hid (IRow wr w.heap.size n (cntS ((0, 2) :: (L.take 0).map sgOf))) := HR.out.congr fun q hq => by
        show _ = onS (0, 2) q + 0
        unfold onS
        dsimp only
        split <;> split <;> omega
      have hcs : ¬ j < 2 ∨ (j < 2 ∧ ¬ j < n) := by omega
      clear HR
      clear hin
      rcases hcs with h1 | ⟨h1, h2⟩
      all_goals
        go_wp2
        first
          | (rename (j : Int) < 2 => hz1; clear hz1 h1)
          | (rename (2 : Int) ≤ j => hz1; clear hz1 h1)
        try clear h2
        go_loopw [7] (fun i wr => ∃ p : Nat, p ≤ len ∧ i = .int .i64 p ∧ Hid (IRow wr w.heap.size n (cntS ((0, 2) :: (L.take p).map sgOf))) ∧ Hid (Below w.heap.size w wr)) (fun i _ => len - (intOf i).toNat)
        case atStart => exact ⟨0, Nat.zero_le _, rfl, HC.out, HB.out⟩
        case round =>
          obtain ⟨p, hp, rfl, HRp, HBp⟩ := hrel
          by_cases hlt : p < len
          · obtain ⟨b, off, sh, cl, k, st, ct, z, m, rfl, hLp, y1, y2, y3, y4, y5, y6, y7⟩ := ln_at (HL.out.later HBp.out) p hlt
            obtain ⟨_, _, _, b1, b2, b3⟩ := HOK.out _ (List.mem_of_getElem? hLp)
            dsimp only at b1 b2 b3
            obtain ⟨ST, rfl⟩ : ∃ ST : Nat, st = ST := ⟨st.toNat, by omega⟩
            obtain ⟨CT, rfl⟩ : ∃ CT : Nat, ct = CT := ⟨ct.toNat, by omega⟩
            have hmax : ∀ w : World, (Builtin.max_ #[3, 3] 3 #[.int .i64 ST, .int .i64 0]).run Try.prog w = .ok (.int .i64 ST) w := fun w => by rw [run_max0, if_neg (by omega)]
            have HTK : Hid (∀ q, cntS ((0, 2) :: (L.take (p + 1)).map sgOf) q = cntS ((0, 2) :: (L.take p).map sgOf) q + onS ((ST : Int), (CT : Int)) q) := fun q => by
              rw [List.take_add_one, hLp, List.map_append, ← List.cons_append]
              exact cntS_snoc _ _ _
            have HBD : Hid (∀ q, 0 ≤ cntS ((0, 2) :: (L.take p).map sgOf) q ∧ cntS ((0, 2) :: (L.take p).map sgOf) q ≤ 100000001) := fun q => by
              have h := cnt_bound q ((0, 2) :: (L.take p).map sgOf)
              have h2 : ((0, 2) :: (L.take p).map sgOf : List Sg).length ≤ 100000001 := by
                rw [List.length_cons, List.length_map, List.length_take]
                omega
              omega
            obtain ⟨F, hF⟩ := named (cntS ((0, 2) :: (L.take p).map sgOf))
            rw [hF.out] at HRp HTK HBD
            obtain ⟨E, hE⟩ : ∃ E, wr.heap.size = E := ⟨_, rfl⟩
            have HE0 : Hid (Blk (wr.alloc (.cells #[.int .i64 k, .int .i64 ST, .int .i64 CT, .int .i64 z, .int .u32 m] 39)) E 39 #[.int .i64 k, .int .i64 ST, .int .i64 CT, .int .i64 z, .int .u32 m]) := by
              have := Blk.new wr 39 #[.int .i64 k, .int .i64 ST, .int .i64 CT, .int .i64 z, .int .u32 m]
              rw [hE] at this
              exact this
            have HRE := Lib.hid (HRp.out.alloc (.cells #[.int .i64 k, .int .i64 ST, .int .i64 CT, .int .i64 z, .int .u32 m] 39))
            have HBE := Lib.hid (HBp.out.alloc HBp.out.size (.cells #[.int .i64 k, .int .i64 ST, .int .i64 CT, .int .i64 z, .int .u32 m] 39))
            have hEl : w.heap.size < E := by have := HRp.out.lt; omega
            clear hLp
            go_wp2
            go_loopw [9] (fun kk wr => ∃ q : Nat, ST ≤ q ∧ q ≤ ST + CT ∧ kk = .int .i64 q ∧ Hid (IRow wr w.heap.size n (fun x => F x + onTo ST q x)) ∧ Hid (Blk wr E 39 #[.int .i64 k, .int .i64 ST, .int .i64 CT, .int .i64 z, .int .u32 m]) ∧ Hid (Below w.heap.size w wr)) (fun kk _ => ST + CT - (intOf kk).toNat)
            case atStart => exact ⟨ST, Nat.le_refl _, by omega, rfl, HRE.out.congr fun x _ => by unfold onTo; rw [if_neg (by omega)]; omega, HE0.out, HBE.out⟩
            case round =>
              obtain ⟨q, hq1, hq2, rfl, HRq, HEq, HBq⟩ := hrel
              obtain ⟨e0, e1, e2, e3, e4⟩ := cells5 HEq.out
              obtain ⟨D, hD⟩ := named (q - ST)
              have w1 : IntKind.i64.wrap ((q : Int) - ST) = (D : Int) := by rw [← hD.out, IntKind.wrap_i64] <;> omega
              by_cases hin : q < n ∧ D < CT
              · obtain ⟨h1, h2⟩ := hin
                have hDq := hD.out
                have c1 := HRq.out.cell h1
                have f1 := HRq.out.free q
                have hrl := HRq.out.lt
                have hb := HBD.out q
                have HS := Lib.hid (HRq.out.set h1 (F q + 1))
                have ho : onTo ST q q = 0 := by unfold onTo; rw [if_neg (by omega)]
                rw [ho, Int.add_zero] at c1
                obtain ⟨v, hv⟩ := named (F q)
                rw [hv.out] at c1 hb HS
                have w2 : IntKind.i64.wrap (v + 1) = v + 1 := by rw [IntKind.wrap_i64] <;> omega
                have hlt1 : q + 1 ≤ ST + CT := by omega
                clear ho hDq
                go_wp2
                go_roundw
                case rel =>
                  refine ⟨q + 1, by omega, hlt1, by go_num, HS.out.congr fun x _ => ?_, HEq.out.other (by omega) _, HBq.out.setCell (p := ⟨w.heap.size, q, none⟩) (Nat.le_refl _) _⟩
                  unfold onTo
                  by_cases e : x = q
                  · subst e
                    rw [if_pos rfl, if_pos (by omega), hv.out]
                  · rw [if_neg e]
                    by_cases e2 : (ST : Int) ≤ x ∧ x < q
                    · rw [if_pos e2, if_pos (by omega)]
                    · rw [if_neg e2, if_neg (by omega)]
                case measure => simp [intOf]; omega
              · have HN : Hid (IRow wr w.heap.size n (cntS ((0, 2) :: (L.take (p + 1)).map sgOf))) := HRq.out.congr fun x hx => by
                  have := hD.out
                  rw [HTK.out, onTo_all (ct := (CT : Int)) (n := n) (by omega) hx]
                have hcs : ¬ q < n ∨ (q < n ∧ ¬ D < CT) := by omega
                clear HRq
                rcases hcs with h1 | ⟨h1, h2⟩
                all_goals
                  go_wp2
                  go_roundw
                  case rel => exact ⟨p + 1, by omega, by go_num, HN.out, HBq.out⟩
                  case measure => simp [intOf]; omega
          · obtain rfl : p = len := by omega
            go_wp2
            go_ret
            exact ⟨w.heap.size, rfl, Nat.le_refl _, HRp.out.congr fun q _ => by rw [← hlL, List.take_length]; rfl, HBp.out⟩
theorem counted_bad (w : World) (a : Option Addr) (len cap : Nat) (n : Int) (h : n < 0 ∨ 65536 < n) :
    Calls Try.prog 32 #[.slice a len cap, .int .i64 n] w fun e w' => e = .returned (.slice none 0 0) ∧ w' = w := by
  have hcs : n < 0 ∨ (¬ n < 0 ∧ 65536 < n) := by omega
  clear h
  rcases hcs with h1 | ⟨h1, h2⟩
  all_goals
    go_enter Try.func32, Try.ntmps32
    go_wp2
    go_ret
    exact ⟨rfl, rfl⟩
/-- The lines of a right meta are within bounds. -/
theorem all_ok {w : World} {a0 : Option Addr} {n0 c0 : Nat} {T : Tb} {sa : Option Addr} {sn : Nat} {S : List Sh} (hT : Tab w a0 n0 c0 T) (hS : ShsR w sa sn S) (hR : RightX T S) (hsn : sn ≤ 900) : ∀ x ∈ allLines T (S.map shT), LnOk x := by
  obtain ⟨v, hv⟩ := vtx_of (tabsX_ok hT hS hR hsn)
  rw [← lines_is hv]
  exact lnOk_all v
theorem refOf_any (w : World) (c s : Int) (bk : ByteArray) (a0 : Option Addr) (n0 c0 : Nat) (sa : Option Addr) (sn sc : Nat) (a5 : Option Addr) (n5 c5 : Nat) (a6 : Option Addr) (n6 c6 : Nat) (T : Tb) (S : List Sh)
    (hT : Tab w a0 n0 c0 T) (hS : ShsR w sa sn S) (hR : RightX T S) (hsn : sn ≤ 900) (n : Nat) (hn : n ≤ 65536) :
    Calls Try.prog 16 #[.agg #[.int .i64 c, .int .i64 s, .string bk, .slice a0 n0 c0, .slice sa sn sc, .slice a5 n5 c5, .slice a6 n6 c6], .int .i64 n] w fun e w' => ∃ R, e = .returned (.slice (some ⟨R, 0, none⟩) n n) ∧ w.heap.size ≤ R ∧ IRow w' R n (ofL (allLines T (S.map shT))) ∧ Below w.heap.size w w' := by
  have hb : Below w.heap.size w (w.alloc (.cells (mtC c s bk a0 n0 c0 sa sn sc (.slice a5 n5 c5) (.slice a6 n6 c6)) 29)) := (Below.refl _ _).alloc (Nat.le_refl _) _
  have HE := Lib.hid (refEachM_any (w.alloc (.cells (mtC c s bk a0 n0 c0 sa sn sc (.slice a5 n5 c5) (.slice a6 n6 c6)) 29)) c s bk a0 n0 c0 sa sn sc a5 n5 c5 a6 n6 c6 T S (hT.later hb) (hS.later hb) hR hsn)
  have HOK := Lib.hid (all_ok hT hS hR hsn)
  have HB := Lib.hid hb
  clear hT hS hR hb
  go_enter Try.func16, Try.ntmps16
  go_wp2_with (first
    | (go_at_call 17; refine HE.out.mono ?_; rintro e w2 ⟨a', N, c', rfl, h1, h2, h3⟩; have HC := Lib.hid (counted_any w2 a' N c' _ (h1.reads ln_rowed).1 HOK.out (by omega) n hn); have H3 := Lib.hid h3; clear h1 h2 h3)
    | (go_at_call 32; refine HC.out.mono ?_; rintro e w3 ⟨R, rfl, k1, k2, k3⟩))
  go_ret
  have hz := H3.out.size
  have hz0 := HB.out.size
  exact ⟨R, rfl, by omega, k2, HB.out.trans ((H3.out.mono hz0).trans (k3.mono (by omega)))⟩
theorem refOf_bad (w : World) (c s : Int) (bk : ByteArray) (a0 : Option Addr) (n0 c0 : Nat) (sa : Option Addr) (sn sc : Nat) (a5 : Option Addr) (n5 c5 : Nat) (a6 : Option Addr) (n6 c6 : Nat) (T : Tb) (S : List Sh)
    (hT : Tab w a0 n0 c0 T) (hS : ShsR w sa sn S) (hR : RightX T S) (hsn : sn ≤ 900) (n : Int) (hn : n < 0 ∨ 65536 < n) :
    Calls Try.prog 16 #[.agg #[.int .i64 c, .int .i64 s, .string bk, .slice a0 n0 c0, .slice sa sn sc, .slice a5 n5 c5, .slice a6 n6 c6], .int .i64 n] w fun e w' => e = .returned (.slice none 0 0) ∧ Below w.heap.size w w' := by
  have hb : Below w.heap.size w (w.alloc (.cells (mtC c s bk a0 n0 c0 sa sn sc (.slice a5 n5 c5) (.slice a6 n6 c6)) 29)) := (Below.refl _ _).alloc (Nat.le_refl _) _
  have HE := Lib.hid (refEachM_any (w.alloc (.cells (mtC c s bk a0 n0 c0 sa sn sc (.slice a5 n5 c5) (.slice a6 n6 c6)) 29)) c s bk a0 n0 c0 sa sn sc a5 n5 c5 a6 n6 c6 T S (hT.later hb) (hS.later hb) hR hsn)
  have HB := Lib.hid hb
  have HN := Lib.hid (fun w a len cap => counted_bad w a len cap n hn)
  clear hT hS hR hb hn
  go_enter Try.func16, Try.ntmps16
  go_wp2_with (first
    | (go_at_call 17; refine HE.out.mono ?_; rintro e w2 ⟨a', N, c', rfl, h1, h2, h3⟩; have H3 := Lib.hid h3; clear h1 h2 h3)
    | (go_at_call 32; refine (HN.out _ _ _ _).mono ?_; rintro e w3 ⟨rfl, rfl⟩))
  go_ret
  exact ⟨rfl, HB.out.trans (H3.out.mono HB.out.size)⟩
theorem of_bad (w : World) (c s : Int) (bk : ByteArray) (a0 : Option Addr) (n0 c0 : Nat) (sa : Option Addr) (sn sc : Nat) (a5 : Option Addr) (n5 c5 : Nat) (a6 : Option Addr) (n6 c6 : Nat) (n : Int) (hn : n < 0 ∨ 65536 < n) :
    Calls Try.prog 15 #[.agg #[.int .i64 c, .int .i64 s, .string bk, .slice a0 n0 c0, .slice sa sn sc, .slice a5 n5 c5, .slice a6 n6 c6], .int .i64 n] w fun e w' => e = .returned (.slice none 0 0) ∧ Below w.heap.size w w' := by
  have hb : Below w.heap.size w (w.alloc (.cells (mtC c s bk a0 n0 c0 sa sn sc (.slice a5 n5 c5) (.slice a6 n6 c6)) 29)) := (Below.refl _ _).alloc (Nat.le_refl _) _
  have HB := Lib.hid hb
  have hwi : decide (0 ≤ n ∧ n ≤ 65536) = false := decide_eq_false (by omega)
  have HWI := Lib.hid (fun w => within0 n 0 65536 hwi w)
  clear hb hwi hn
  go_enter Try.func15, Try.ntmps15
  go_wp2_with (go_at_call 29; refine (HWI.out _).mono ?_; rintro e w1 ⟨rfl, rfl⟩)
  go_ret
  exact ⟨rfl, HB.out⟩
end Go.Proofs.Ytidknkhkblloaaa
