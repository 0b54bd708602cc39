/-
  The lists that the statements make of numbers ('made'), and what is held from world to world. Conditions: none.
-/
import Derived.Test.YtdnkldcmefcmbaaW4
import Derived.Test.YtdnkldcmefcmbaaU4
namespace Go.Proofs.Ytdnkldcmefcmbaa
open Go.RowKit

/-- The cells of an integer. -/
def intCells (k : IntKind) (n : Int) : List Value := [.int k n]
/-- What a slice of integers that came in reads as. -/
theorem ints_arg {k : IntKind} {w : World} {a : Option Addr} {len cap : Nat} {zs : List Int}
    (h : (a = none ∧ len = 0 ∧ cap = 0 ∧ zs = []) ∨ ∃ x, a = some x ∧ len ≤ cap ∧ cap ≤ maxLen ∧ zs.length = cap ∧ (∀ i, i < zs.length → w.cell? (x.add i) = some (.int k (zs.getD i 0))) ∧ ∀ n ∈ zs, (Lit.int k n).wf = true) :
    ∃ f : Nat → Int, (∀ i, i < len → (Lit.int k (f i)).wf = true) ∧ (len = 0 ∨ ∃ b off, a = some ⟨b, off, none⟩ ∧ b < w.heap.size ∧ ∀ i, i < len → w.cell? ⟨b, off + i, none⟩ = some (.int k (f i))) ∧ len ≤ cap ∧ (a = none → cap = 0) := by
  rcases h with ⟨rfl, rfl, rfl, rfl⟩ | ⟨x, rfl, h1, h2, h3, h4, h5⟩
  · exact ⟨fun _ => 0, fun i hi => by omega, Or.inl rfl, Nat.le_refl _, fun _ => rfl⟩
  · refine ⟨fun i => zs.getD i 0, fun i hi => ?_, ?_, h1, (fun e => by cases e)⟩
    · dsimp only
      rw [List.getD_eq_getElem?_getD, List.getElem?_eq_getElem (by omega)]
      exact h5 _ (List.getElem_mem _)
    · by_cases h0 : len = 0
      · exact Or.inl h0
      · obtain ⟨b, off, spot⟩ := x
        have hc := h4 0 (by omega)
        have hspot : spot = none := by simpa [Addr.add] using World.cell?_spot hc
        subst hspot
        refine Or.inr ⟨b, off, rfl, block_lt_of_cell hc, fun i hi => ?_⟩
        have := h4 i (by omega)
        rw [add_none] at this
        exact this
/-- The list after k rounds. -/
def madeTo (f : Nat → Int) : Nat → List Sp
  | 0 => []
  | k + 1 => addL (madeTo f k) (f (2 * k) % 200, f (2 * k) % 200 + 1 + f (2 * k + 1) % 30)
theorem madeTo_right (f : Nat → Int) : ∀ k, Rt (-1) (madeTo f k)
  | 0 => trivial
  | _ + 1 => addL_right _ _
theorem addL_len (l : List Sp) (s : Sp) : (addL l s).length ≤ l.length + 1 := by
  unfold addL
  have h1 := norm_len l
  have h2 := ins_len (norm l) s
  split <;> omega
theorem madeTo_len (f : Nat → Int) : ∀ k, (madeTo f k).length ≤ k
  | 0 => Nat.le_refl _
  | k + 1 => Nat.le_trans (addL_len _ _) (by have := madeTo_len f k; omega)

set_option maxHeartbeats 1600000 in
theorem made_min (a : Option Addr) (len cap : Nat) (f : Nat → Int) (w : World) (hf : ∀ i, i < len → (Lit.int .u16 (f i)).wf = true) (hlen : len ≤ 9223372036854775807) (hc : len = 0 ∨ ∃ b off, a = some ⟨b, off, none⟩ ∧ b < w.heap.size ∧ ∀ i, i < len → w.cell? ⟨b, off + i, none⟩ = some (.int .u16 (f i))) :
    Calls Try.prog 27 #[.slice a len cap] w (SpPost w (madeTo f (min 30 (len / 2)))) := by
  obtain ⟨K, HKK⟩ := named (min 30 (len / 2))
  have hK1 : K ≤ 30 := by rw [← HKK.out]; omega
  have hK2 : 2 * K ≤ len := by rw [← HKK.out]; omega
  have hK3 : K < 30 → len < 2 * K + 2 := by rw [← HKK.out]; omega
  rw [HKK.out]
  have HC := Lib.hid hc
  have HW := Lib.hid hf
  clear hc hf
  go_enter Try.func27, Try.ntmps27
  go_wp2
  go_loopw [3, 4] (fun o i wr => ∃ (k n : Nat) (x : Option Addr) (c : Nat), k ≤ K ∧ n ≤ k ∧ i = .int .i64 ((2 * k : Nat) : Int) ∧ o = .slice x n c ∧ Hid (Spans wr x n (madeTo f k)) ∧ Hid ((x = none → c = 0) ∧ n ≤ c) ∧ Hid (Below w.heap.size w wr)) (fun _ i _ => 60 - (intOf i).toNat)
  case atStart => exact ⟨0, 0, none, 0, Nat.zero_le _, Nat.le_refl _, rfl, rfl, Reads.nil _ _ _, ⟨fun _ => rfl, Nat.le_refl _⟩, Below.refl _ _⟩
  case round =>
    obtain ⟨k, n, x, c, hk, hn, rfl, rfl, HS, HN, HG⟩ := hrel
    by_cases hlt : k < K
    · obtain ⟨b, off, rfl, hb, hcell⟩ := HC.out.resolve_left (by omega)
      have e0 := hcell (2 * k) (by omega)
      have e1 := hcell (2 * k + 1) (by omega)
      have b0 := bounds_u16 (HW.out (2 * k) (by omega))
      have b1 := bounds_u16 (HW.out (2 * k + 1) (by omega))
      have HM1 : Hid (madeTo f (k + 1) = addL (madeTo f k) (f (2 * k) % 200, f (2 * k) % 200 + 1 + f (2 * k + 1) % 30)) := rfl
      obtain ⟨p, HP⟩ := named (f (2 * k))
      obtain ⟨q, HQ⟩ := named (f (2 * k + 1))
      rw [HP.out] at e0 b0 HM1
      rw [HQ.out] at e1 b1 HM1
      have e0' := (HG.out.cell (p := ⟨b, off + 2 * k, none⟩) hb).trans e0
      have e1' := (HG.out.cell (p := ⟨b, off + (2 * k + 1), none⟩) hb).trans e1
      have hlen2 := addL_len (madeTo f k) (p % 200, p % 200 + 1 + q % 30)
      rw [HS.out.1, ← HM1.out] at hlen2
      obtain ⟨N, HNN⟩ := named (madeTo f (k + 1)).length
      rw [HNN.out] at hlen2
      have hA := fun wz (h : Spans wz x n (madeTo f k)) => refAdd_any x n c (madeTo f k) (p % 200) (p % 200 + 1 + q % 30) wz h HN.out.1 (by omega)
      rw [← HM1.out] at hA
      have HA := Lib.hid hA
      have hi1 : 2 * k + 1 < len := by omega
      have hi2 : 2 * k < 60 := by omega
      obtain ⟨i2, hi3, hi4⟩ : ∃ i2 : Nat, i2 = 2 * k ∧ Hid (i2 = 2 * k) := ⟨2 * k, rfl, rfl⟩
      rw [← hi3] at e0' e1' hi1 hi2
      have HI := Lib.hid hi3
      rw [← hi3]
      clear e0 e1 hcell hA hi3
      go_wp2_with (go_at_call 16; refine (HA.out _ HS.out).mono ?_; rintro e w1 hp; obtain ⟨x1, c1, rfl, hx, hn1, hb1⟩ := hp.named HNN.out; have HS1 := Lib.hid hx; have HN1 := Lib.hid hn1; have HG1 := Lib.hid (HG.out.trans (hb1.mono HG.out.size)); clear hp hx hn1 hb1)
      go_roundw
      case rel => exact ⟨k + 1, N, x1, c1, by omega, by omega, int_eq (by have := HI.out; omega), rfl, HS1.out, HN1.out, HG1.out⟩
      case measure => simp [intOf]; omega
    · obtain rfl : k = K := by omega
      have hl := HS.out.1
      rcases (by omega : len ≤ 2 * k + 1 ∨ (2 * k + 1 < len ∧ 60 ≤ 2 * k)) with h1 | ⟨h1, h2⟩
      all_goals
        go_wp2
        go_ret
        have hS := HS.out
        subst hl
        exact ⟨x, c, rfl, hS, HN.out, HG.out⟩
theorem made_any (a : Option Addr) (len cap : Nat) (f : Nat → Int) (w : World) (hf : ∀ i, i < len → (Lit.int .u16 (f i)).wf = true) (hlen : len ≤ 9223372036854775807) (hc : len = 0 ∨ ∃ b off, a = some ⟨b, off, none⟩ ∧ b < w.heap.size ∧ ∀ i, i < len → w.cell? ⟨b, off + i, none⟩ = some (.int .u16 (f i))) :
    ∃ K, K ≤ 30 ∧ Calls Try.prog 27 #[.slice a len cap] w (SpPost w (madeTo f K)) :=
  ⟨min 30 (len / 2), by omega, made_min a len cap f w hf hlen hc⟩
/-- In every later world. -/
theorem made_later (a : Option Addr) (len cap : Nat) (f : Nat → Int) (w : World) (hf : ∀ i, i < len → (Lit.int .u16 (f i)).wf = true) (hlen : len ≤ 9223372036854775807) (hc : len = 0 ∨ ∃ b off, a = some ⟨b, off, none⟩ ∧ b < w.heap.size ∧ ∀ i, i < len → w.cell? ⟨b, off + i, none⟩ = some (.int .u16 (f i))) :
    ∃ K, K ≤ 30 ∧ ∀ w', Below w.heap.size w w' → Calls Try.prog 27 #[.slice a len cap] w' (SpPost w' (madeTo f K)) :=
  ⟨min 30 (len / 2), by omega, fun w' hb => made_min a len cap f w' hf hlen (by
    rcases hc with h | ⟨b, off, h1, h2, h3⟩
    · exact Or.inl h
    · exact Or.inr ⟨b, off, h1, Nat.lt_of_lt_of_le h2 hb.size, fun i hi => (hb.cell (p := ⟨b, off + i, none⟩) h2).trans (h3 i hi)⟩)⟩

/-! What is held from world to world: cells, lists of spans. -/
def Held (w0 : World) (cs : List (Addr × Value)) (ls : List (Option Addr × List Sp)) (w : World) : Prop :=
  Below w0.heap.size w0 w ∧ (∀ p ∈ cs, w.cell? p.1 = some p.2) ∧ ∀ q ∈ ls, Spans w q.1 q.2.length q.2
theorem Held.later {w0 w w' : World} {cs : List (Addr × Value)} {ls : List (Option Addr × List Sp)} (h : Held w0 cs ls w) (hb : Below w.heap.size w w') : Held w0 cs ls w' :=
  ⟨h.1.trans (hb.mono h.1.size), fun p hp => (hb.cell (block_lt_of_cell (h.2.1 p hp))).trans (h.2.1 p hp), fun q hq => (h.2.2 q hq).later hb⟩
theorem Held.drew {w0 w : World} {cs : List (Addr × Value)} {ls : List (Option Addr × List Sp)} (h : Held w0 cs ls w) : Held w0 cs ls w.drew := h.later (Below.refl _ _).drew
theorem Held.spans {w0 w : World} {cs : List (Addr × Value)} {ls : List (Option Addr × List Sp)} (h : Held w0 cs ls w) {x : Option Addr} {L : List Sp} (hm : (x, L) ∈ ls) {n : Nat} (hn : L.length = n) : Spans w x n L := by
  subst hn
  exact h.2.2 (x, L) hm
theorem Held.more {w0 w : World} {cs : List (Addr × Value)} {ls : List (Option Addr × List Sp)} (h : Held w0 cs ls w) {x : Option Addr} {L : List Sp} {n : Nat} (hx : Spans w x n L) : Held w0 cs ((x, L) :: ls) w :=
  ⟨h.1, h.2.1, fun q hq => by
    rcases List.mem_cons.1 hq with rfl | hq
    · have := hx.1
      subst this
      exact hx
    · exact h.2.2 q hq⟩
theorem Held.made {w0 w : World} {cs : List (Addr × Value)} {ls : List (Option Addr × List Sp)} {L : List Sp} {K : Nat} {fn : FuncId} {args : Array Value} (hK : L.length = K) (hc : Calls Try.prog fn args w (SpPost w L)) (h : Held w0 cs ls w) :
    Calls Try.prog fn args w fun e w' => ∃ x c, e = .returned (.slice x K c) ∧ Spans w' x K L ∧ ((x = none → c = 0) ∧ K ≤ c) ∧ Below w.heap.size w w' ∧ Held w0 cs ls w' := hc.mono fun _ _ hp => by
  obtain ⟨x, c, rfl, hx, hn, hb⟩ := hp.named hK
  exact ⟨x, c, rfl, hx, hn, hb, h.later hb⟩
theorem Held.val {w0 w : World} {cs : List (Addr × Value)} {ls : List (Option Addr × List Sp)} {v : Value} {fn : FuncId} {args : Array Value} (hc : Calls Try.prog fn args w fun e w' => e = .returned v ∧ Below w.heap.size w w') (h : Held w0 cs ls w) :
    Calls Try.prog fn args w fun e w' => e = .returned v ∧ Held w0 cs ls w' := hc.mono fun _ _ ⟨he, hb⟩ => ⟨he, h.later hb⟩
/-- Of a span's two cells, and of all that is held. -/
theorem Held.two {w0 w : World} {cs : List (Addr × Value)} {ls : List (Option Addr × List Sp)} (h : Held w0 cs ls w) {p1 p2 : Addr} {v1 v2 : Value} (h1 : (p1, v1) ∈ cs) (h2 : (p2, v2) ∈ cs) : w.cell? p1 = some v1 ∧ w.cell? p2 = some v2 ∧ Held w0 cs ls w := ⟨h.2.1 _ h1, h.2.1 _ h2, h⟩
theorem Held.of2 {w0 w : World} {cs : List (Addr × Value)} {ls : List (Option Addr × List Sp)} {q1 q2 : Prop} (h : q1 ∧ q2 ∧ Held w0 cs ls w) : Held w0 cs ls w := h.2.2
theorem Held.of4 {w0 w : World} {cs : List (Addr × Value)} {ls : List (Option Addr × List Sp)} {q1 q2 q3 q4 : Prop} (h : q1 ∧ q2 ∧ q3 ∧ q4 ∧ Held w0 cs ls w) : Held w0 cs ls w := h.2.2.2.2
theorem Held.four {w0 w : World} {cs : List (Addr × Value)} {ls : List (Option Addr × List Sp)} (h : Held w0 cs ls w) {p1 p2 p3 p4 : Addr} {v1 v2 v3 v4 : Value} (h1 : (p1, v1) ∈ cs) (h2 : (p2, v2) ∈ cs) (h3 : (p3, v3) ∈ cs) (h4 : (p4, v4) ∈ cs) :
    w.cell? p1 = some v1 ∧ w.cell? p2 = some v2 ∧ w.cell? p3 = some v3 ∧ w.cell? p4 = some v4 ∧ Held w0 cs ls w := ⟨h.2.1 _ h1, h.2.1 _ h2, h.2.1 _ h3, h.2.1 _ h4, h⟩
end Go.Proofs.Ytdnkldcmefcmbaa
