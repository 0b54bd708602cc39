/-
  Keys by use (package lru): what the statements' own 'in' and 'last' answer, and which keys a cache has. Conditions: short lists.
-/
import Derived.Test.YtjpblndjfcofpaaLw
import Derived.Test.YtjpblndjfcofpaaLx
namespace Go.Proofs.Ytjpblndjfcofpaa
open Go.RowKit
set_option linter.unusedVariables false

theorem in_any {w : World} {a : Option Addr} {n c : Nat} {L : List Int} (h : Reads ivV w a n L) (y : Int) (hn : n ≤ 1000000) :
    Calls Try.prog 21 #[.slice a n c, .int .i64 y] w fun e w' => e = .returned (.bool (decide (y ∈ L))) ∧ w' = w := by
  have HR := Lib.hid h
  have hl := h.1
  have HL := Lib.hid hl
  obtain ⟨R, hR⟩ := named (decide (y ∈ L))
  have hR2 : (R = true ↔ y ∈ L) := by rw [← hR.out]; simp
  rw [hR.out]
  have HR2 := Lib.hid hR2
  clear h hR2 hl
  go_enter Try.func21, Try.ntmps21
  go_wp2
  go_loopw [5] (fun i wr => ∃ j : Nat, j ≤ n ∧ i = .int .i64 j ∧ wr = w ∧ Hid (∀ x ∈ L.take j, x ≠ y)) (fun i _ => n - (intOf i).toNat)
  case atStart => exact ⟨0, Nat.zero_le _, rfl, rfl, fun x hx => by simp at hx⟩
  case round =>
    obtain ⟨j, hj, rfl, rfl, HA⟩ := hrel
    by_cases hlt : j < n
    · obtain ⟨z, hz⟩ : ∃ z, L[j]? = some z := ⟨_, List.getElem?_eq_getElem (by have := HL.out; omega)⟩
      obtain ⟨b, o, rfl⟩ := HR.out.lies (by omega)
      have cj := ivReads_cell HR.out j z hz
      have HZ := Lib.hid hz
      clear hz
      by_cases hq : z = y
      · have hq' : (z == y) = true := by simpa using hq
        have HQ := Lib.hid hq
        clear hq
        go_wp2
        go_ret
        have : R = true := HR2.out.2 (by rw [← HQ.out]; exact List.mem_of_getElem? HZ.out)
        rw [this]
        exact ⟨rfl, rfl⟩
      · have hq' : (z == y) = false := by simpa using hq
        have HQ := Lib.hid hq
        clear hq
        go_wp2
        go_roundw
        case rel =>
          refine ⟨j + 1, by omega, by go_num, trivial, fun x hx => ?_⟩
          rw [List.take_add_one, HZ.out] at hx
          rcases List.mem_append.1 hx with hx | hx
          · exact HA.out x hx
          · simp at hx
            rw [hx]
            exact HQ.out
        case measure => simp [intOf]; omega
    · obtain rfl : j = n := by omega
      go_wp2
      go_ret
      have : R = false := by
        cases hc : R with
        | false => rfl
        | true =>
          have h1 := HR2.out.1 hc
          exact absurd rfl (HA.out y (by rw [List.take_of_length_le (by have := HL.out; omega)]; exact h1))
      rw [this]
      exact ⟨rfl, rfl⟩
def lastL (l : List Int) (k : Int) (m : Nat) : List Int := let o := l.filter (fun x => !decide (x = k)) ++ [k]; if m < o.length then o.drop (o.length - m) else o
theorem filter_snoc (l : List Int) (k z : Int) (j : Nat) (h : l[j]? = some z) : (l.take (j + 1)).filter (fun x => !decide (x = k)) = (l.take j).filter (fun x => !decide (x = k)) ++ if z = k then [] else [z] := by
  rw [List.take_add_one, h, Option.toList_some, List.filter_append]
  congr 1
  by_cases hz : z = k <;> simp [hz]
def LastQ (l : List Int) (w : World) (e : Ending) (w' : World) : Prop := ∃ (a : Option Addr) (n c : Nat), e = .returned (.slice a n c) ∧ Reads ivV w' a n l ∧ Below w.heap.size w w' ∧ ∀ x, a = some x → w.heap.size ≤ x.block ∧ x.block < w'.heap.size
set_option maxRecDepth 100000 in
set_option maxHeartbeats 1000000 in
theorem last_any {w : World} {a : Option Addr} {n c : Nat} {L : List Int} (h : Reads ivV w a n L) (k : Int) (most : Nat) (hn : n ≤ 100000) (hm : most ≤ 100000) (hm1 : 1 ≤ most) :
    Calls Try.prog 22 #[.slice a n c, .int .i64 k, .int .i64 most] w (LastQ (lastL L k most) w) := by
  have HR := Lib.hid h
  have HL := Lib.hid h.1
  obtain ⟨F, hF⟩ := named (fun j => (L.take j).filter (fun x => !decide (x = k)))
  have hFj : ∀ j, (L.take j).filter (fun x => !decide (x = k)) = F j := fun j => congrFun hF.out j
  have hsn : ∀ (j : Nat) (z : Int), L[j]? = some z → F (j + 1) = F j ++ if z = k then [] else [z] := fun j z hz => by rw [← hFj, ← hFj]; exact filter_snoc L k z j hz
  have hlen : ∀ j, (F j).length ≤ j := fun j => by
    rw [← hFj]
    refine Nat.le_trans (List.length_filter_le _ _) ?_
    rw [List.length_take]
    exact Nat.min_le_left _ _
  have hF0 : F 0 = [] := by rw [← hFj]; rfl
  have hlast : lastL L k most = if most < (F n ++ [k]).length then (F n ++ [k]).drop ((F n ++ [k]).length - most) else F n ++ [k] := by
    rw [← hFj, List.take_of_length_le (by rw [h.1]; exact Nat.le_refl _)]
    rfl
  have HLAST := Lib.hid hlast
  obtain ⟨R, hR⟩ := named (lastL L k most)
  rw [hR.out] at HLAST ⊢
  have HSN := Lib.hid hsn
  have HF0 := Lib.hid hF0
  have HLE := Lib.hid hlen
  clear h hsn hlen hF0 hlast hFj
  go_enter Try.func22, Try.ntmps22
  go_wp2
  go_loopw [7, 8] (fun s7 s8 wr => ∃ (j m : Nat) (a' : Option Addr) (c' : Nat), j ≤ n ∧ m ≤ j ∧ s8 = .int .i64 j ∧ s7 = .slice a' m c' ∧ Hid (OwnG ivV 3 1 wr w.heap.size (.slice a' m c') m (F j)) ∧ Hid (Below w.heap.size w wr)) (fun _ s8 _ => n - (intOf s8).toNat)
  case atStart => exact ⟨0, 0, none, 0, Nat.zero_le _, Nat.le_refl _, rfl, rfl, by rw [HF0.out]; exact OwnG.none _ _ _ _ _, Below.refl _ _⟩
  case round =>
    obtain ⟨j, m, a', c', hj, hmj, rfl, rfl, HO, HB⟩ := hrel
    by_cases hlt : j < n
    · obtain ⟨z, hz⟩ : ∃ z, L[j]? = some z := ⟨_, List.getElem?_eq_getElem (by have := HL.out; omega)⟩
      obtain ⟨b, o, rfl⟩ := HR.out.lies (by omega)
      have cj := ivReads_cell (HR.out.later HB.out) j z hz
      have hs := HSN.out j z hz
      clear hz
      by_cases hq : z = k
      · have hq' : (z == k) = true := by simpa using hq
        rw [if_pos hq, List.append_nil] at hs
        have HS := Lib.hid hs
        clear hs hq
        go_wp2
        go_roundw
        case rel => exact ⟨j + 1, m, a', c', by omega, by omega, by go_num, rfl, by rw [HS.out]; exact HO.out, HB.out⟩
        case measure => simp [intOf]; omega
      · have hq' : (z == k) = false := by simpa using hq
        rw [if_neg hq] at hs
        have HS := Lib.hid hs
        clear hs hq
        go_wp2_with (at_builtin; refine append_gg iv_rowed rfl (.tmp 21) (.tmp 26) rfl w.heap.size (.slice a' m c') m (F j) rfl (HO.out.alloc _) (some ⟨wr.heap.size, 0, none⟩) 1 1 [z] rfl (fun e => by cases e) (one_reads wr z #[.int .i64 z] 3 rfl) (by omega) (by rw [World.size_alloc]; have := HB.out.size; omega) ?_; intro a2 c2 w2 h1 hb2 h2; have HO2 := Lib.hid h1; have HB2 := Lib.hid ((HB.out.alloc HB.out.size (.cells #[.int .i64 z] 3)).grown h2 (by rw [World.size_alloc]; have := HB.out.size; omega) fun k e => (HO.out.1.lt k e).1); clear h1 hb2 h2)
        go_roundw
        case rel => exact ⟨j + 1, m + 1, a2, c2, by omega, by omega, by go_num, rfl, by rw [HS.out]; exact HO2.out, HB2.out⟩
        case measure => simp [intOf]; omega
    · obtain rfl : j = n := by omega
      have hFl : (F j ++ [k]).length = m + 1 := by rw [List.length_append, HO.out.2.1]; rfl
      have HFL := Lib.hid hFl
      clear hFl
      by_cases hgt : most < m + 1
      · have hd : (m : Int) + 1 - (most : Int) = ((m + 1 - most : Nat) : Int) := by omega
        have hsl := fun (b c3 : Nat) (h2 : m + 1 ≤ c3) (w' : World) => slice_back1 (b := b) (j := m + 1) (c := c3) (p := m + 1 - most) (by omega) h2 w'
        have HSL := Lib.hid hsl
        clear hsl
        go_wp2_with (at_builtin; refine append_gg iv_rowed rfl (.tmp 28) (.tmp 30) rfl w.heap.size (.slice a' m c') m (F j) rfl (HO.out.alloc _) (some ⟨wr.heap.size, 0, none⟩) 1 1 [k] rfl (fun e => by cases e) (one_reads wr k #[.int .i64 k] 3 rfl) (by omega) (by rw [World.size_alloc]; have := HB.out.size; omega) ?_; intro a2 c2 w2 h1 hb2 h2; have HO2 := Lib.hid h1; have HB2 := Lib.hid ((HB.out.alloc HB.out.size (.cells #[.int .i64 k] 3)).grown h2 (by rw [World.size_alloc]; have := HB.out.size; omega) fun k e => (HO.out.1.lt k e).1); clear h1 hb2 h2
                     obtain ⟨b2, rfl⟩ : ∃ b2, a2 = some ⟨b2, 0, none⟩ := (by
                      rcases HO2.out.1.2 with ⟨e, e'⟩ | ⟨g, cap, cur, e, _⟩
                      · omega
                      · cases e
                        exact ⟨_, rfl⟩)
                     have hs2 := HSL.out b2 c2 (HO2.out.reads iv_rowed).2.2)
        go_ret
        unfold LastQ
        rw [HLAST.out, HFL.out, if_pos hgt]
        have hr := (HO2.out.reads iv_rowed).1
        refine ⟨_, _, _, rfl, ⟨by rw [List.length_drop, HFL.out], by omega, Or.inr ⟨b2, m + 1 - most, rfl, (HO2.out.1.lt b2 rfl).2, fun i u hu => ?_⟩⟩, HB2.out, fun x hx => ?_⟩
        · obtain ⟨b', o', e, _, hc⟩ := hr.2.2.resolve_left (by omega)
          cases e
          rw [flat_iv, List.map_drop, List.getElem?_drop] at hu
          have h3 := hc (m + 1 - most + i) u (by rw [flat_iv]; exact hu)
          rwa [Nat.zero_add] at h3
        · cases hx
          exact HO2.out.1.lt b2 rfl
      · go_wp2_with (at_builtin; refine append_gg iv_rowed rfl (.tmp 28) (.tmp 30) rfl w.heap.size (.slice a' m c') m (F j) rfl (HO.out.alloc _) (some ⟨wr.heap.size, 0, none⟩) 1 1 [k] rfl (fun e => by cases e) (one_reads wr k #[.int .i64 k] 3 rfl) (by omega) (by rw [World.size_alloc]; have := HB.out.size; omega) ?_; intro a2 c2 w2 h1 hb2 h2; have HO2 := Lib.hid h1; have HB2 := Lib.hid ((HB.out.alloc HB.out.size (.cells #[.int .i64 k] 3)).grown h2 (by rw [World.size_alloc]; have := HB.out.size; omega) fun k e => (HO.out.1.lt k e).1); clear h1 hb2 h2)
        go_ret
        unfold LastQ
        rw [HLAST.out, HFL.out, if_neg hgt]
        refine ⟨a2, m + 1, c2, rfl, (HO2.out.reads iv_rowed).1, HB2.out, fun x hx => ?_⟩
        subst hx
        rcases HO2.out.1.2 with ⟨e, e'⟩ | ⟨g, cap, cur, e, _⟩
        · omega
        · cases e
          exact HO2.out.1.lt _ rfl
end Go.Proofs.Ytjpblndjfcofpaa
