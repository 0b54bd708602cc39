/-
  What the reference's Right of a meta tells, as far as it is asked: its tables are right (layer 12's reference). Conditions: the meta reads.
-/
import Derived.Test.YtidknkhkblloaaaY0
namespace Go.Proofs.Ytidknkhkblloaaa
open Go.RowKit
set_option linter.unusedVariables false

def TRQ (T : Tb) (c : Int) (w : World) (e : Ending) (w' : World) : Prop := ∃ B : Bool, e = .returned (.bool B) ∧ Below w.heap.size w w' ∧ (B = true → ∃ m, rightT T m c)
theorem trq {w : World} {a : Option Addr} {len cap : Nat} {T : Tb} (h : Tab w a len cap T) (n c : Int) : Calls Try.prog 25 #[.agg #[.slice a len cap], .int .i64 n, .int .i64 c] w (TRQ T c w) :=
  (refRightT (R := decide (rightT T n c)) rfl w h).mono fun e w' ⟨h1, h2⟩ => ⟨_, h1, h2, fun h => ⟨n, of_decide_eq_true h⟩⟩
def RightQ (S : Prop) (w : World) (e : Ending) (w' : World) : Prop := ∃ G : Bool, e = .returned (.bool G) ∧ Below w.heap.size w w' ∧ (G = true → S)
theorem RightQ.no {S : Prop} {w w' : World} {e : Ending} (h : e = .returned (.bool false)) (hb : Below w.heap.size w w') : RightQ S w e w' := ⟨false, h, hb, fun h => by cases h⟩
theorem RightQ.yes {S : Prop} {w w' : World} {e : Ending} (h : e = .returned (.bool true)) (hb : Below w.heap.size w w') (hs : S) : RightQ S w e w' := ⟨true, h, hb, fun _ => hs⟩
theorem spq {w : World} {a : Option Addr} {len cap : Nat} {l : List Sp} (h : Spans w a len l) (hlen : len ≤ 100000) : Calls Try.prog 28 #[.slice a len cap] w (BoolQ w) :=
  (refRight_any a len cap l w h hlen _ rfl).mono fun e w' ⟨h1, h2⟩ => ⟨_, h1, h2⟩
/-- Two readings of the shots that agree. -/
theorem shs_row {w : World} {a : Option Addr} {len : Nat} {S : List Sh} (h : ShsR w a len S) (hlen : len ≤ 1000) : Row3 w a len (fun i => .string (S.getD i default).1) (fun i => .int .i64 (S.getD i default).2.1) (fun i => .slice (S.getD i default).2.2.1 (S.getD i default).2.2.2.1 (S.getD i default).2.2.2.2.1) := by
  refine ⟨by omega, fun h0 => ?_⟩
  obtain ⟨b, off, e, hb, hc⟩ := h.1.2.2.resolve_left (by omega)
  subst e
  refine ⟨b, off, rfl, hb, fun i hi => ?_⟩
  obtain ⟨b', off', nm, sz, al, ll, cl, T, e, hSi, x1, x2, x3, _⟩ := h.at i hi
  cases e
  have e : S.getD i default = (nm, sz, al, ll, cl, T) := by rw [List.getD_eq_getElem?_getD, hSi]; rfl
  dsimp only
  rw [e]
  exact ⟨x1, x2, x3⟩
theorem sh_cells {W : World} {E : Nat} {a b c : Value} (h : Blk W E 53 #[a, b, c]) : W.cell? ⟨E, 0, none⟩ = some a ∧ W.cell? ⟨E, 1, none⟩ = some b ∧ W.cell? ⟨E, 2, none⟩ = some c := by
  refine ⟨?_, ?_, ?_⟩ <;> (rw [h.cell]; rfl)
theorem mp_cells {W : World} {E : Nat} {a b c : Value} (h : Blk W E 56 #[a, b, c]) : W.cell? ⟨E, 0, none⟩ = some a ∧ W.cell? ⟨E, 1, none⟩ = some b ∧ W.cell? ⟨E, 2, none⟩ = some c := by
  refine ⟨?_, ?_, ?_⟩ <;> (rw [h.cell]; rfl)
/-- What stands while Right runs. -/
structure RtS (w V : World) (cs : Array Value) : Prop where
  box : Blk V w.heap.size 29 cs
  below : Below w.heap.size w V
theorem RtS.later {w V V' : World} {cs : Array Value} (h : RtS w V cs) (hb : Below V.heap.size V V') : RtS w V' cs := ⟨h.box.later hb, h.below.trans (hb.mono h.below.size)⟩
theorem RtS.alloc {w V : World} {cs : Array Value} (h : RtS w V cs) (o : Obj) : RtS w (V.alloc o) cs := h.later ((Below.refl _ _).alloc (Nat.le_refl _) _)
theorem RtS.first (w : World) (cs : Array Value) : RtS w (w.alloc (.cells cs 29)) cs := ⟨Blk.new _ _ _, (Below.refl _ _).alloc (Nat.le_refl _) _⟩
set_option maxRecDepth 20000 in
set_option maxHeartbeats 8000000 in
theorem rightM_main (w : World) (c s : Int) (bk : ByteArray) (a0 : Option Addr) (n0 c0 : Nat) (sa : Option Addr) (sn sc : Nat) (ma : Option Addr) (mn mc : Nat) (ca : Option Addr) (cn cc : Nat) (T : Tb) (S : List Sh) (gm : Nat → MpA) (f : Nat → Int)
    (hc : I64 c) (hs : I64 s) (hbk : bk.size ≤ 9223372036854775807) (hT : Tab w a0 n0 c0 T) (hS : ShsR w sa sn S) (hSn : ∀ d ∈ S, I64 d.2.1 ∧ d.1.size ≤ 9223372036854775807) (hsn : sn ≤ 20)
    (hM : Row3 w ma mn (fun i => .string (gm i).1) (fun i => .bool (gm i).2.1) (fun i => .slice (gm i).2.2.1 (gm i).2.2.2.1 (gm i).2.2.2.2)) (hMs : ∀ i, i < mn → (gm i).1.size ≤ 9223372036854775807 ∧ (gm i).2.2.2.1 ≤ 500 ∧ ∃ l, Spans w (gm i).2.2.1 (gm i).2.2.2.1 l) (hmn : mn ≤ 20)
    (hC : IntsR w ca cn f) (hcn : cn ≤ 20000) (hcr : 0 ≤ c ∧ c ≤ 6) (h8 : sn ≤ 8) (h9 : mn ≤ 8) :
    Calls Try.prog 12 #[.agg #[.int .i64 c, .int .i64 s, .string bk, .slice a0 n0 c0, .slice sa sn sc, .slice ma mn mc, .slice ca cn cc]] w (RightQ (RightX T S ∧ sn ≤ 8) w) := by
  have HT := Lib.hid hT
  have HS := Lib.hid hS
  have HSR := Lib.hid (shs_row hS (by omega))
  have HSN := Lib.hid hSn
  have HMM := Lib.hid hM
  have HMS := Lib.hid hMs
  have HCC := Lib.hid hC
  have HRT := Lib.hid (RtS.first w (mtC c s bk a0 n0 c0 sa sn sc (.slice ma mn mc) (.slice ca cn cc)))
  have hsl := hS.len
  clear hT hS hSn hM hMs hC
  have HSZ := Lib.hid (fun (n : Int) (hn : I64 n) (w : World) => sized0 n c hn hcr w)
  have HNB := Lib.hid (fun (w : World) => name0 bk hbk w)
  have HTR := Lib.hid (fun (w1 : World) (n : Int) (h : Below w.heap.size w w1) => trq (HT.out.later h) n c)
  have dc1 : decide (c < 0) = false := decide_eq_false (by omega)
  have dc2 : decide (6 < c) = false := decide_eq_false (by omega)
  have dc3 : decide ((65536 : Int) < cn) = false := decide_eq_false (by omega)
  have HI := Lib.hid hs
  clear hcr hs hbk hc
  have dc4 : decide ((8 : Int) < sn) = false := decide_eq_false (by omega)
  have dc5 : decide ((8 : Int) < mn) = false := decide_eq_false (by omega)
  go_enter Try.func12, Try.ntmps12
  cases he : bk.toList.isEmpty
  all_goals
    go_wp2_with (first
      | (go_at_call 23; refine (HSZ.out _ HI.out _).mono ?_; rintro e w1 ⟨B, rfl, h⟩; have HRT := Lib.hid (HRT.out.later h); obtain ⟨m0, m1, m2, m3, m4, m5, m6⟩ := mt_cells HRT.out.box; clear h; cases B)
      | (go_at_call 24; refine (HNB.out _).mono ?_; rintro e w2 ⟨B, rfl, h⟩; have HRT := Lib.hid (HRT.out.later h); obtain ⟨m0, m1, m2, m3, m4, m5, m6⟩ := mt_cells HRT.out.box; clear h; cases B)
      | (go_at_call 25; refine (HTR.out _ _ HRT.out.below).mono ?_; rintro e w3 ⟨B, rfl, h, hr⟩; have HRT := Lib.hid (HRT.out.later h); have HR0 := Lib.hid hr; obtain ⟨m0, m1, m2, m3, m4, m5, m6⟩ := mt_cells HRT.out.box; clear h hr; cases B))
  all_goals first | (go_ret; exact RightQ.no rfl HRT.out.below) | skip
  all_goals
    have HTT : Hid (∃ m, rightT T m c) := HR0.out (by first | rfl | trivial)
    clear HR0
    go_loopw [3] (fun i wr => ∃ j : Nat, j ≤ sn ∧ i = .int .i64 j ∧ Hid (∀ d ∈ S.take j, ∃ m, rightT (shT d) m c) ∧ Hid (RtS w wr (mtC c s bk a0 n0 c0 sa sn sc (.slice ma mn mc) (.slice ca cn cc)))) (fun i _ => sn - (intOf i).toNat)
    case atStart => exact ⟨0, Nat.zero_le _, rfl, (fun d hd => by cases hd), HRT.out⟩
    case round =>
      obtain ⟨j, hj, rfl, HJ, HRT⟩ := hrel
      obtain ⟨m0, m1, m2, m3, m4, m5, m6⟩ := mt_cells HRT.out.box
      have hlm := HRT.out.box.lt
      by_cases hlt : j < sn
      · obtain ⟨b, off, nm, sz, al, ll, cl, T', rfl, hSj, x1, x2, x3, hT'⟩ := (HS.out.later HRT.out.below).at j hlt
        have hT0 : Tab w al ll cl T' := HS.out.2 _ (List.mem_of_getElem? hSj)
        obtain ⟨hz, hnl⟩ := HSN.out _ (List.mem_of_getElem? hSj)
        dsimp only at hz hnl
        have HNJ := Lib.hid (fun (w : World) => name0 nm hnl w)
        have HZJ := Lib.hid hz
        have HTJ := Lib.hid (fun (w1 : World) (n : Int) (h : Below w.heap.size w w1) => trq (hT0.later h) n c)
        have HSH := Lib.hid (fun (w1 : World) (h : Below w.heap.size w w1) => shot0 w1 c s bk a0 n0 c0 (some ⟨b, off, none⟩) sn sc ma mn mc ca cn cc nm (fun i => ((S.getD i default).1, (S.getD i default).2.1, (S.getD i default).2.2.1, (S.getD i default).2.2.2.1, (S.getD i default).2.2.2.2.1)) (HSR.out.later h))
        have HTK : Hid ((∃ m, rightT T' m c) → ∀ d ∈ S.take (j + 1), ∃ m, rightT (shT d) m c) := fun h d hd => by
          rw [List.take_add_one, hSj] at hd
          rcases List.mem_append.1 hd with hd | hd
          · exact HJ.out d hd
          · obtain rfl : d = (nm, sz, al, ll, cl, T') := by simpa using hd
            exact h
        obtain ⟨E, hE⟩ : ∃ E, wr.heap.size = E := ⟨_, rfl⟩
        have HEE : Hid (Blk (wr.alloc (.cells #[.string nm, .int .i64 sz, .slice al ll cl] 53)) E 53 #[.string nm, .int .i64 sz, .slice al ll cl]) := by
          have := Blk.new wr 53 #[.string nm, .int .i64 sz, .slice al ll cl]
          rw [hE] at this
          exact this
        have HRT := Lib.hid (HRT.out.alloc (.cells #[.string nm, .int .i64 sz, .slice al ll cl] 53))
        clear hT' hT0 hSj hz hnl
        go_wp2_with (first
          | (go_at_call 24; refine (HNJ.out _).mono ?_; rintro e w1 ⟨B, rfl, h⟩; have HRT := Lib.hid (HRT.out.later h); have HEE := Lib.hid (HEE.out.later h); obtain ⟨m0, m1, m2, m3, m4, m5, m6⟩ := mt_cells HRT.out.box; obtain ⟨e0, e1, e2⟩ := sh_cells HEE.out; clear h; cases B)
          | (go_at_call 26; refine (HSH.out _ HRT.out.below).mono ?_; rintro e w2 ⟨k, rfl, h⟩; have HRT := Lib.hid (HRT.out.later h); have HEE := Lib.hid (HEE.out.later h); obtain ⟨m0, m1, m2, m3, m4, m5, m6⟩ := mt_cells HRT.out.box; obtain ⟨e0, e1, e2⟩ := sh_cells HEE.out; clear h; cases hkj : (k == (j : Int)))
          | (go_at_call 23; refine (HSZ.out _ HZJ.out _).mono ?_; rintro e w3 ⟨B, rfl, h⟩; have HRT := Lib.hid (HRT.out.later h); have HEE := Lib.hid (HEE.out.later h); obtain ⟨m0, m1, m2, m3, m4, m5, m6⟩ := mt_cells HRT.out.box; obtain ⟨e0, e1, e2⟩ := sh_cells HEE.out; clear h; cases B)
          | (go_at_call 25; refine (HTJ.out _ _ HRT.out.below).mono ?_; rintro e w4 ⟨B, rfl, h, hr⟩; have HRT := Lib.hid (HRT.out.later h); have HR1 := Lib.hid hr; obtain ⟨m0, m1, m2, m3, m4, m5, m6⟩ := mt_cells HRT.out.box; clear h hr; cases B))
        all_goals first
          | (go_ret; exact RightQ.no rfl HRT.out.below)
          | (go_roundw
             case rel => exact ⟨j + 1, by omega, by go_num, HTK.out (HR1.out (by first | rfl | trivial)), HRT.out⟩
             case measure => simp [intOf]; omega)
      · have HSS : Hid (∀ d ∈ S, ∃ m, rightT (shT d) m c) := fun d hd => HJ.out d (by rw [List.take_of_length_le (by omega)]; exact hd)
        have hjn : decide ((j : Int) < sn) = false := decide_eq_false (by omega)
        clear HJ
        go_wp2
        go_loopw [5] (fun i wr => ∃ p : Nat, p ≤ mn ∧ i = .int .i64 p ∧ Hid (RtS w wr (mtC c s bk a0 n0 c0 sa sn sc (.slice ma mn mc) (.slice ca cn cc)))) (fun i _ => mn - (intOf i).toNat)
        case atStart => exact ⟨0, Nat.zero_le _, rfl, HRT.out⟩
        case round =>
          obtain ⟨p, hp, rfl, HRT⟩ := hrel
          obtain ⟨m0, m1, m2, m3, m4, m5, m6⟩ := mt_cells HRT.out.box
          have hlm := HRT.out.box.lt
          by_cases hlt : p < mn
          · obtain ⟨b, off, rfl, hb, hc⟩ := (HMM.out.later HRT.out.below).2 (by omega)
            obtain ⟨x1, x2, x3⟩ := hc p hlt
            obtain ⟨hnl, h500, L, hL⟩ := HMS.out p hlt
            dsimp only at x1 x2 x3
            have HBM := Lib.hid (fun (w1 : World) (nm : ByteArray) (h : Below w.heap.size w w1) => bitmap0 w1 (some ⟨b, off, none⟩) mn mc nm gm (HMM.out.later h))
            obtain ⟨⟨nm, on, al, ll, cl⟩, hg⟩ := named (gm p)
            rw [hg.out] at x1 x2 x3 hnl h500 hL
            dsimp only at x1 x2 x3 hnl h500 hL
            have HNJ := Lib.hid (fun (w : World) => name0 nm hnl w)
            have HSP := Lib.hid (fun (w1 : World) (h : Below w.heap.size w w1) => spq (cap := cl) (hL.later h) (by omega))
            have HSC : Hid (∀ (w1 : World) (K : Nat), K < ll → Below w.heap.size w w1 → ∃ b off v, al = some ⟨b, off, none⟩ ∧ w1.cell? ⟨b, off + K * 2 + 1, none⟩ = some (.int .i64 v)) := fun w1 K hK h => by
              obtain ⟨b, off, rfl⟩ := hL.lies (by omega)
              exact ⟨b, off, _, rfl, (span_cells (hL.later h) K hK).2⟩
            obtain ⟨E, hE⟩ : ∃ E, wr.heap.size = E := ⟨_, rfl⟩
            have HEE : Hid (Blk (wr.alloc (.cells #[.string nm, .bool on, .slice al ll cl] 56)) E 56 #[.string nm, .bool on, .slice al ll cl]) := by
              have := Blk.new wr 56 #[.string nm, .bool on, .slice al ll cl]
              rw [hE] at this
              exact this
            have HRT := Lib.hid (HRT.out.alloc (.cells #[.string nm, .bool on, .slice al ll cl] 56))
            clear hc hnl hL
            by_cases h0 : ll = 0
            · subst h0
              go_wp2_with (first
                | (go_at_call 24; refine (HNJ.out _).mono ?_; rintro e w1 ⟨B, rfl, h⟩; have HRT := Lib.hid (HRT.out.later h); have HEE := Lib.hid (HEE.out.later h); obtain ⟨m0, m1, m2, m3, m4, m5, m6⟩ := mt_cells HRT.out.box; obtain ⟨e0, e1, e2⟩ := mp_cells HEE.out; clear h; cases B)
                | (go_at_call 27; refine (HBM.out _ _ HRT.out.below).mono ?_; rintro e w2 ⟨k, rfl, h⟩; have HRT := Lib.hid (HRT.out.later h); have HEE := Lib.hid (HEE.out.later h); obtain ⟨m0, m1, m2, m3, m4, m5, m6⟩ := mt_cells HRT.out.box; obtain ⟨e0, e1, e2⟩ := mp_cells HEE.out; clear h; cases hkj : (k == (p : Int)))
                | (go_at_call 28; refine (HSP.out _ HRT.out.below).mono ?_; rintro e w4 ⟨B, rfl, h⟩; have HRT := Lib.hid (HRT.out.later h); have HEE := Lib.hid (HEE.out.later h); obtain ⟨m0, m1, m2, m3, m4, m5, m6⟩ := mt_cells HRT.out.box; obtain ⟨e0, e1, e2⟩ := mp_cells HEE.out; clear h; cases B))
              all_goals first
                | (go_ret; exact RightQ.no rfl HRT.out.below)
                | (go_roundw
                   case rel => exact ⟨p + 1, by omega, by go_num, HRT.out⟩
                   case measure => simp [intOf]; omega)
            · obtain ⟨K, hK⟩ : ∃ K, Hid (K + 1 = ll) := ⟨ll - 1, by show ll - 1 + 1 = ll; omega⟩
              have hKl : K < ll := by have := hK.out; omega
              have e1' : IntKind.i64.wrap ((ll : Int) - 1) = (K : Int) := by have := hK.out; rw [IntKind.wrap_i64] <;> omega
              obtain ⟨b', off', _, rfl, _⟩ := HSC.out w K hKl (Below.refl _ _)
              go_wp2_with (first
                | (go_at_call 24; refine (HNJ.out _).mono ?_; rintro e w1 ⟨B, rfl, h⟩; have HRT := Lib.hid (HRT.out.later h); have HEE := Lib.hid (HEE.out.later h); obtain ⟨m0, m1, m2, m3, m4, m5, m6⟩ := mt_cells HRT.out.box; obtain ⟨e0, e1, e2⟩ := mp_cells HEE.out; clear h; cases B)
                | (go_at_call 27; refine (HBM.out _ _ HRT.out.below).mono ?_; rintro e w2 ⟨k, rfl, h⟩; have HRT := Lib.hid (HRT.out.later h); have HEE := Lib.hid (HEE.out.later h); obtain ⟨m0, m1, m2, m3, m4, m5, m6⟩ := mt_cells HRT.out.box; obtain ⟨e0, e1, e2⟩ := mp_cells HEE.out; clear h; cases hkj : (k == (p : Int)))
                | (go_at_call 28; refine (HSP.out _ HRT.out.below).mono ?_; rintro e w4 ⟨B, rfl, h⟩; have HRT := Lib.hid (HRT.out.later h); have HEE := Lib.hid (HEE.out.later h); obtain ⟨m0, m1, m2, m3, m4, m5, m6⟩ := mt_cells HRT.out.box; obtain ⟨e0, e1, e2⟩ := mp_cells HEE.out; obtain ⟨b9, off9, v9, q9, z9⟩ := HSC.out _ K hKl HRT.out.below; cases q9; clear h; cases B; rotate_left; cases hv9 : decide ((4096 : Int) < v9)))
              all_goals first
                | (go_ret; exact RightQ.no rfl HRT.out.below)
                | (go_roundw
                   case rel => exact ⟨p + 1, by omega, by go_num, HRT.out⟩
                   case measure => simp [intOf]; omega)
                | (trace_state; sorry)
          · have hpn : decide ((p : Int) < mn) = false := decide_eq_false (by omega)
            go_wp2
            go_loopw [7] (fun i wr => ∃ q : Nat, q ≤ cn ∧ i = .int .i64 q ∧ Hid (RtS w wr (mtC c s bk a0 n0 c0 sa sn sc (.slice ma mn mc) (.slice ca cn cc)))) (fun i _ => cn - (intOf i).toNat)
            case atStart => exact ⟨0, Nat.zero_le _, rfl, HRT.out⟩
            case round =>
              obtain ⟨q, hq, rfl, HRT⟩ := hrel
              obtain ⟨m0, m1, m2, m3, m4, m5, m6⟩ := mt_cells HRT.out.box
              have hlm := HRT.out.box.lt
              by_cases hlt : q < cn
              · obtain ⟨b, off, rfl, hb, hc⟩ := (HCC.out.later HRT.out.below).2 (by omega)
                have x1 := hc q hlt
                obtain ⟨v, hv⟩ := named (f q)
                rw [hv.out] at x1
                clear hc
                go_wp2
                all_goals first
                  | (go_ret; exact RightQ.no rfl HRT.out.below)
                  | (go_roundw
                     case rel => exact ⟨q + 1, by omega, by go_num, HRT.out⟩
                     case measure => simp [intOf]; omega)
              · have hqn : decide ((q : Int) < cn) = false := decide_eq_false (by omega)
                go_wp2
                go_ret
                exact RightQ.yes rfl HRT.out.below ⟨⟨c, HTT.out, HSS.out⟩, h8⟩
end Go.Proofs.Ytidknkhkblloaaa
