/-
  What the project's own readLeaf answers (layer 8). Conditions: the slice reads as bytes; the table of widths reads.
-/
import Derived.Test.YtbdidgfbonkneaaDoorG9
import Derived.Test.YtbdidgfbonkneaaDoorQ9
import Derived.Test.YtbdidgfbonkneaaDoorE8
namespace Go.Proofs.YtbdidgfbonkneaaDoor
open Go.RowKit
set_option linter.unusedVariables false

/-- 's[i:k]', its room told. -/
theorem slice_mid9 {w : World} {a : Option Addr} {len cap : Nat} {l : List Int} (h : Bytes w a len l) (hcap : len ≤ cap) (i k : Nat) (hi : i ≤ k) (hk : k ≤ len) :
    ∃ (a' : Option Addr), (∀ w' : World, (Instr.slice 27 (.slice a len cap) (some (.int .i64 i)) (some (.int .i64 k)) none).run Tryd.prog w' = .ok (.slice a' (k - i) (cap - i)) w') ∧ Bytes w a' (k - i) ((l.drop i).take (k - i)) := by
  obtain ⟨i0, hi0, _, hz1, _⟩ := info_parts info5
  obtain ⟨h1, h2, h3⟩ := h
  have hsm : Small ((l.drop i).take (k - i)) := ⟨by rw [List.length_take, List.length_drop]; have := h2.1; omega, fun c hc => h2.2 c (List.mem_of_mem_drop (List.mem_of_mem_take hc))⟩
  have hln : ((l.drop i).take (k - i)).length = k - i := by rw [List.length_take, List.length_drop]; omega
  have b1 : k ≤ cap := by omega
  refine ⟨if cap = i then a else a.map (·.add (i * 1)), fun w' => ?_, ⟨hln, hsm, ?_⟩⟩
  · simp [Instr.slice, Instr.sliceBounds, Instr.sliceBound, asIntOf, run_underlying Tryd.underlying27, sizeOf, typeInfo, hi0, hz1, b1, hi, go_sem]
  · by_cases hz : k - i = 0
    · exact Or.inl hz
    · obtain ⟨b, off, rfl, hlt, hc⟩ := h3.resolve_left (by omega)
      refine Or.inr ⟨b, off + i, ?_, hlt, fun j hj => ?_⟩
      · rw [if_neg (by omega)]
        simp [Addr.add]
      · rw [hln] at hj
        have := hc (i + j) (by omega)
        rw [Nat.add_assoc, this, List.getD_eq_getElem?_getD, List.getD_eq_getElem?_getD, List.getElem?_take, if_pos (by omega), List.getElem?_drop]
theorem set_next9 (xs : List En) (j : Nat) (h : xs.length = j) (hj : j < 8) (x : En) : (xs ++ List.replicate (8 - j) enZ).set j x = (xs ++ [x]) ++ List.replicate (8 - (j + 1)) enZ := by
  obtain ⟨d, hd⟩ : ∃ d, 8 - j = d + 1 := ⟨7 - j, by omega⟩
  rw [hd, show 8 - (j + 1) = d by omega, List.set_append, if_neg (by omega), h, Nat.sub_self, List.replicate_succ, List.set_cons_zero, List.append_assoc]
  rfl
theorem ents_next {l : List Int} {k : Nat} {c : Int} {j : Nat} {xs : List En} {x : En} (h : entsB l k c j = some xs) (hx : getE (partB l (k + j * 16)) c = some x) : entsB l k c (j + 1) = some (xs ++ [x]) := by
  unfold entsB
  rw [h]
  dsimp only
  rw [hx]
theorem ents_stop {l : List Int} {k : Nat} {c : Int} {j : Nat} {xs : List En} (h : entsB l k c j = some xs) (hx : getE (partB l (k + j * 16)) c = none) : ∀ d, entsB l k c (j + 1 + d) = none
  | 0 => by
    show entsB l k c (j + 1) = none
    unfold entsB
    rw [h]
    dsimp only
    rw [hx]
  | d + 1 => by
    show entsB l k c ((j + 1 + d) + 1) = none
    unfold entsB
    rw [ents_stop h hx d]
/-- What readLeaf hands back. -/
def LeafP (o : Option (List En)) (v : Nat) (w0 : World) (e : Ending) (w : World) : Prop := match o with
  | none => e = .returned (.tuple #[.int .i64 0, .slice none 0 0, .int .i64 3]) ∧ Below w0.heap.size w0 w
  | some xs => ∃ g, e = .returned (.tuple #[.int .i64 v, .slice (some ⟨g, 0, none⟩) 8 8, .int .i64 0]) ∧ LfO w w0.heap.size (some ⟨g, 0, none⟩, 8, 8, xs) ∧ Below w0.heap.size w0 w
theorem got_no {o : Option En} (h : o = none) {w0 : World} {e : Ending} {w : World} (hg : GotN o w0 e w) : e = .returned (.tuple #[.agg #[.int .i64 0, .int .i64 0, .int .i64 0, .int .i64 0, .int .u32 0], .int .i64 3]) ∧ Below w0.heap.size w0 w := by
  subst h
  exact hg
theorem got_yes {o : Option En} {v1 v2 v3 v4 v5 : Int} (h : o = some (v1, v2, v3, v4, v5)) {w0 : World} {e : Ending} {w : World} (hg : GotN o w0 e w) : e = .returned (.tuple #[.agg #[.int .i64 v1, .int .i64 v2, .int .i64 v3, .int .i64 v4, .int .u32 v5], .int .i64 0]) ∧ Below w0.heap.size w0 w := by
  subst h
  exact hg
set_option maxRecDepth 100000 in
set_option maxHeartbeats 3200000 in
theorem readLeaf_any (w : World) (a : Option Addr) (len cap p : Nat) (l : List Int) (c : Int) (hB : Bytes w a len l) (hcap : len ≤ cap) (hp : p ≤ len) (hw : Wid w) :
    Calls Tryd.prog 26 #[.slice a len cap, .int .i64 p, .int .i64 c] w (LeafP (if len < p + 130 then none else entsB l (p + 2) c 8) (getTo false 2 p l 2) w) := by
  have hsm : len ≤ 140737488351232 := by rw [← hB.1]; exact hB.2.1.1
  by_cases h130 : len < p + 130
  · rw [if_pos h130]
    have hc : (len : Int) - (p : Int) < 130 := by omega
    clear hB hw
    go_enter Tryd.func26, Tryd.ntmps26
    go_wp2
    go_ret3
    exact ⟨rfl, Below.refl _ _⟩
  · rw [if_neg h130]
    have hc : ¬ (len : Int) - (p : Int) < 130 := by omega
    have hb0 : ∀ x ∈ l, 0 ≤ x ∧ x < 256 := hB.2.1.2
    have hv := small_get hb0 2 p (by omega)
    have HF : Hid (Calls Tryd.prog 25 #[.slice a len cap, .int .i64 p, .int .i64 2, .bool false] w (GetPost w (getTo false 2 p l 2) 0)) := Lib.hid (fieldGet_ok a len cap 2 p l false w hB hcap (by omega) (by omega) (by omega))
    have HB := Lib.hid hB
    have HWD := Lib.hid hw
    have HX0 : Hid (w.heap.size ≤ w.heap.size) := Nat.le_refl _
    obtain ⟨v, hvv⟩ := named (getTo false 2 p l 2)
    rw [hvv.out] at hv HF ⊢
    have hwv : IntKind.i64.wrap (v : Int) = v := by rw [IntKind.wrap_i64]; omega
    obtain ⟨k0, hk0⟩ := named (p + 2)
    have hpk : (p : Int) + 2 = (k0 : Int) := by rw [← hk0.out]; omega
    have hkl : k0 + 128 ≤ len := by rw [← hk0.out]; omega
    rw [hk0.out]
    obtain ⟨X, hX⟩ := named w.heap.size
    have hXX := hX.out
    clear hB hw hvv
    go_enter Tryd.func26, Tryd.ntmps26
    go_wp2_with (go_at_call 25; (with_reducible refine HF.out.mono ?_); rintro e w1 ⟨rfl, g⟩; obtain ⟨w2, hmk, hf1, hf2⟩ := make9 w1 w.heap.size g.size; have HL2 := Lib.hid hf1; have HB2 := Lib.hid (g.trans ((below_of_grown hf2).mono g.size)); obtain ⟨G, hG⟩ := named w1.heap.size; have hGG := hG.out; rw [hG.out] at HL2 hmk; clear g hf1 hf2)
    rw [hX.out] at HL2 HB2
    go_loopw [33] (fun i wr => ∃ (j : Nat) (xs : List En), j ≤ 8 ∧ i = .int .i64 j ∧ Hid (entsB l k0 c j = some xs) ∧ Hid (LfO wr X (some ⟨G, 0, none⟩, 8, 8, xs ++ List.replicate (8 - j) enZ)) ∧ Hid (Below X w wr)) (fun i _ => 8 - (intOf i).toNat)
    case atStart => exact ⟨0, [], Nat.zero_le _, rfl, rfl, HL2.out, HB2.out⟩
    case round =>
      obtain ⟨j, xs, hj, rfl, HE, HL, HB1⟩ := hrel
      by_cases hlt : j < 8
      · obtain ⟨q, hq⟩ := named (k0 + j * 16)
        obtain ⟨r, hr⟩ := named (q + 16)
        have hqi : (k0 : Int) + (j : Int) * 16 = (q : Int) := by rw [← hq.out]; omega
        have hqr : (q : Int) + 16 = (r : Int) := by rw [← hr.out]; omega
        have hrl : r ≤ len := by rw [← hr.out, ← hq.out]; omega
        have hBr := HB.out.later (hX.out.symm ▸ HB1.out)
        obtain ⟨a', hs1, hs2⟩ := slice_mid9 hBr hcap q r (by rw [← hr.out]; omega) hrl
        have hrq : r - q = 16 := by rw [← hr.out]; omega
        rw [hrq] at hs1 hs2
        have HEG := Lib.hid (entryGet_any wr a' 16 (cap - q) _ c hs2 (by have := hr.out; omega) (HWD.out.later (hX.out.symm ▸ HB1.out)))
        obtain ⟨cq, hcq⟩ := named (cap - q)
        rw [hcq.out] at HEG hs1
        have hxl := entsB_len HE.out
        have hji : (j : Int) < 8 ∧ 0 ≤ (j : Int) := by omega
        clear hs2 hBr
        cases hge : getE (partB l (k0 + j * 16)) c with
        | none =>
          have hn : entsB l k0 c 8 = none := by
            have := ents_stop HE.out hge (7 - j)
            rwa [show j + 1 + (7 - j) = 8 by omega] at this
          have HN := Lib.hid hn
          unfold partB at hge
          rw [hq.out] at hge
          have HGE := Lib.hid hge
          clear hge hn
          go_wp2_with (go_at_call 45; (with_reducible refine HEG.out.mono ?_); intro e w4 h; obtain ⟨rfl, g⟩ := got_no HGE.out h; have HB4 := Lib.hid ((HB1.out.trans (g.mono (hX.out ▸ HB1.out.size))).alloc (Nat.le_trans (hX.out ▸ HB1.out.size) g.size) (.cells #[.int .i64 0, .int .i64 0, .int .i64 0, .int .i64 0, .int .u32 0] 47)); clear h g)
          go_ret3
          rw [HN.out]
          exact ⟨rfl, hX.out.symm ▸ HB4.out⟩
        | some x =>
          obtain ⟨v1, v2, v3, v4, v5⟩ := x
          have hn := ents_next HE.out hge
          have hxo := (entsB_may hb0 hn _ (List.mem_append_right _ (List.mem_singleton.2 rfl))).2
          have HN := Lib.hid hn
          have HXO := Lib.hid hxo
          unfold partB at hge
          rw [hq.out] at hge
          have HGE := Lib.hid hge
          clear hge hn hxo
          go_wp2_with (first
            | (go_at_call 45; (with_reducible refine HEG.out.mono ?_); intro e w4 h; obtain ⟨rfl, g⟩ := got_yes HGE.out h; have HB4 := Lib.hid ((HB1.out.trans (g.mono (hX.out ▸ HB1.out.size))).alloc (Nat.le_trans (hX.out ▸ HB1.out.size) g.size) (.cells #[.int .i64 v1, .int .i64 v2, .int .i64 v3, .int .i64 v4, .int .u32 v5] 47)); obtain ⟨cur, k1, k2, k3, k4⟩ := LfO.store (HL.out.later (g.alloc g.size (.cells #[.int .i64 v1, .int .i64 v2, .int .i64 v3, .int .i64 v4, .int .u32 v5] 47))) rfl j hlt (v1, v2, v3, v4, v5) HXO.out; obtain ⟨w6, hw6⟩ := named (World.setRow _ G (cur.toList.take (j * 5) ++ enV (v1, v2, v3, v4, v5) ++ cur.toList.drop (j * 5 + (enV (v1, v2, v3, v4, v5)).length)).toArray); rw [hw6.out] at k3 k4; have HK3 := Lib.hid k3; have HK4 := Lib.hid k4; clear h g k3 k4)
            | (refine wpList_store_in9 rfl (.tmp 57) (.tmp 56) rfl G (j * 5) cur (enV (v1, v2, v3, v4, v5)).toArray (by rfl) (by rfl) k1 entry_size k2 (enV_one _) ?_; rw [hw6.out]))
          go_roundw
          case rel =>
            refine ⟨j + 1, xs ++ [(v1, v2, v3, v4, v5)], by omega, by go_num, HN.out, ?_, ?_⟩
            · have h3 := HK3.out
              rw [set_next9 xs j hxl hlt] at h3
              exact h3
            · exact HB4.out.grown HK4.out (hX.out ▸ HB4.out.size) (fun k hk => by cases hk; exact (HL.out.lt rfl).1)
          case measure => simp [intOf]; omega
      · have hj8 : j = 8 := by omega
        subst hj8
        go_wp2
        go_ret3
        rw [HE.out]
        have h8 : xs ++ List.replicate (8 - 8) enZ = xs := by simp
        refine ⟨G, rfl, ?_, hX.out.symm ▸ HB1.out⟩
        rw [hX.out, ← h8]
        exact HL.out
end Go.Proofs.YtbdidgfbonkneaaDoor
