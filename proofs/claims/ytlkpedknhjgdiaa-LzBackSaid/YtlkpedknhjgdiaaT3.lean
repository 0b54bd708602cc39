/-
  What Pack answers (package lz). Conditions: the slice reads as bytes, no more than 20000 of them.
-/
import Derived.Test.YtlkpedknhjgdiaaP3
import Derived.Test.YtlkpedknhjgdiaaB3
namespace Go.Proofs.Ytlkpedknhjgdiaa
open Go.RowKit Go.Maps

/-- What 'Pack' hands back. -/
def PackPost (w0 : World) (P : List Int) (e : Ending) (w : World) : Prop :=
  ∃ a c, e = .returned (.slice a P.length c) ∧ Bytes w a P.length P ∧ ((a = none → c = 0) ∧ P.length ≤ c) ∧ Below w0.heap.size w0 w
theorem PackPost.own {w0 w : World} {P : List Int} {a : Option Addr} {n c base : Nat} (h : Own w base (.slice a n c) n P) (hb : Below w0.heap.size w0 w) : PackPost w0 P (.returned (.slice a n c)) w := by
  have hl := h.len
  have hB := h.bytes
  have hc := h.capOk
  subst hl
  exact ⟨a, c, rfl, hB.1, ⟨hB.2, hc⟩, hb⟩
theorem out_small {l : List Int} {most lit k : Nat} {out : List Int} (h : Inv l most lit k out) (hl : l.length ≤ 20000) : out.length ≤ 21000 := by
  have h1 := h.bound
  have h2 := h.le
  have h3 := h.lek
  omega

theorem below_dn {B : Nat} {a w : World} (h : Below B a w) (k : Nat) : Below B a (w.drewN k) := ⟨h.os, h.tape, h.output, h.size, h.block⟩
theorem own_kept {w w' : World} {base M n : Nat} {v : Value} {xs : List Int} (h : Own w base v n xs) (hg : w.grownBy w' (some M)) (hM : M < base) : Own w' base v n xs :=
  ⟨h.1.kept hg (by
    cases hv : v.ownBlock with
    | none => exact Or.inl rfl
    | some k =>
      right
      have := (h.1.lt k hv).1
      intro e
      cases e
      omega), h.2⟩
theorem seen_below {w w' : World} {M k : Nat} {l : List Int} (h : Seen w M l k) (hb : Below (M + 1) w w') : Seen w' M l k := by
  obtain ⟨es, clock, h1, h2⟩ := h
  exact ⟨es, clock, (hb.block M (by omega)).trans h1, h2⟩

set_option maxRecDepth 100000 in
set_option maxHeartbeats 6400000 in
theorem lzPack_ok (a : Option Addr) (len cap : Nat) (l : List Int) (w : World) (hB : Bytes w a len l) (hcap : len ≤ cap) (hnil : a = none → cap = 0) (hlen : len ≤ 20000) :
    Calls Try.prog 15 #[.slice a len cap] w (PackPost w (pk l len 0 0 [])) := by
  have HB := Lib.hid hB
  have HLN := Lib.hid hB.1
  have HLT := Lib.hid (bytes_block hB)
  have HCAP := Lib.hid hcap
  have HNIL := Lib.hid hnil
  have HBD := Lib.hid hB.small.2
  have hz : decide ((1048576 : Int) < (len : Int)) = false := by simp; omega
  obtain ⟨R, HR⟩ := named (pk l len 0 0 [])
  rw [HR.out]
  have hmm := @run_makeMap Try.prog
  have HSW : Hid (∀ (k : Nat) (w' : World), Seen w' w.heap.size l k → Below w.heap.size w w' → k + 4 ≤ len → Calls Try.prog 21 #[.map (some w.heap.size), .slice a len cap, .int .i64 k] w' (SwapPost w' w.heap.size l k)) :=
    fun k w' h1 h2 h4 => swap_any w.heap.size a len cap k l w' (hB.later h2) h1 h4 hlen
  have HEQ : Hid (∀ (p k : Nat) (w' : World), Below w.heap.size w w' → p < k → k ≤ len → Calls Try.prog 22 #[.slice a len cap, .int .i64 p, .int .i64 k] w' fun e w'' => e = .returned (.int .i64 (eqAt l p k len 0 : Nat)) ∧ ∃ j, w'' = w'.drewN j) :=
    fun p k w' h2 h3 h4 => equal_any a len cap p k l w' (hB.later h2) h3 h4 hlen
  clear hB hcap hnil
  go_enter Try.func15, Try.ntmps15
  go_wp2
  go_loopw [3, 5, 6] (fun o x i wr => ∃ (f lit k n c : Nat) (a' : Option Addr) (out : List Int), x = .int .i64 lit ∧ i = .int .i64 k ∧ o = .slice a' n c ∧ n ≤ 21000 ∧ lit ≤ k ∧ k ≤ len ∧ len ≤ k + f ∧ Hid (Own wr (w.heap.size + 1) (.slice a' n c) n out) ∧ Hid (Below w.heap.size w wr) ∧ w.heap.size + 1 ≤ wr.heap.size ∧ Hid (k + 4 ≤ len → Seen wr w.heap.size l k) ∧ Hid (Inv l l.length lit k out) ∧ Hid (pk l f lit k out = R)) (fun _ _ i _ => len - (intOf i).toNat)
  case atStart => exact ⟨len, 0, 0, 0, 0, none, [], rfl, rfl, rfl, by omega, Nat.le_refl _, Nat.zero_le _, by omega, ⟨World.ownsRow_nil _ _ _ _, by unfold Small; simp⟩, (Below.refl _ _).alloc (Nat.le_refl _) _, by simp, fun _ => World.ownsMap_made _ _ _ _, Inv.start l _, HR.out⟩
  case round =>
    obtain ⟨f, lit, k, n, c, a', out, rfl, rfl, rfl, hn, hlk, hkl, hf, HOk, HGk, hsz, HMk, HI, HP⟩ := hrel
    by_cases hk4 : k + 4 ≤ len
    · have hi4 : (k : Int) + 4 ≤ (len : Int) := by omega
      obtain ⟨f', rfl⟩ : ∃ f', f = f' + 1 := ⟨f - 1, by omega⟩
      obtain ⟨p, HPn⟩ := named (lastN l k)
      obtain ⟨ok, HOKn⟩ := named (lastB l k)
      have H1 : Hid (Calls Try.prog 21 #[.map (some w.heap.size), .slice a len cap, .int .i64 k] wr fun e w'' => e = .returned (.tuple #[.int .i64 p, .bool ok]) ∧ Seen w'' w.heap.size l (k + 1) ∧ wr.grownBy w'' (some w.heap.size)) := by
        have := HSW.out k wr (HMk.out hk4) HGk.out hk4
        unfold SwapPost at this
        rw [HPn.out, HOKn.out] at this
        exact this
      have hk4l : k + 4 ≤ l.length := by rw [HLN.out]; exact hk4
      by_cases hgo : lastB l k = true ∧ k - lastN l k ≤ 65535
      · obtain ⟨t1, t2, t3, t4⟩ := last_facts hk4l hgo.1
        have HI2 := Lib.hid (HI.out.take HBD.out hk4l hgo)
        have HP2 : Hid (pk l f' (k + alike l k) (k + alike l k) (out ++ seqAt l lit k) = R) := by
          rw [Hid, ← HP.out, pk_take l f' lit k out hk4l hgo]
        have hal : alike l k = eqAt l p k len 0 := by unfold alike; rw [HPn.out, HLN.out]
        obtain ⟨m, hm⟩ : ∃ m, alike l k = m + 4 := ⟨alike l k - 4, by omega⟩
        have hsq : seqAt l lit k = seqL ((l.drop lit).take (k - lit)) (k - p) m := by unfold seqAt; rw [HPn.out, hm]; rfl
        have hfar := hgo.2
        have hok : ok = true := by rw [← HOKn.out]; exact hgo.1
        rw [hm] at t3 HI2 HP2 hal
        rw [HPn.out] at t1 hfar
        rw [HLN.out] at t3
        rw [hsq] at HI2 HP2
        subst hok
        obtain ⟨F, hF, hF2⟩ : ∃ F : Nat, (k : Int) - (p : Int) = (F : Int) ∧ F = k - p := ⟨k - p, by omega, rfl⟩
        rw [← hF2] at HI2 HP2 hfar
        have HF2 := Lib.hid hF2
        have hF3 : F ≤ 65535 := hfar
        have HEQ2 : Hid (∀ w', Below w.heap.size w w' → Calls Try.prog 22 #[.slice a len cap, .int .i64 p, .int .i64 k] w' fun e w'' => e = .returned (.int .i64 ((m : Int) + 4)) ∧ ∃ j, w'' = w'.drewN j) := fun w' hw => by
          have := HEQ.out p k w' hw t1 hkl
          rw [← hal] at this
          exact this
        obtain ⟨a1, c1, S1, B1, N1⟩ := slice_mid HB.out HCAP.out HNIL.out lit k hlk hkl
        have HSQ : Hid (∀ w', Own w' (w.heap.size + 1) (.slice a' n c) n out → Below w.heap.size w w' → w.heap.size + 1 ≤ w'.heap.size → Calls Try.prog 23 #[.slice a' n c, .slice a1 (k - lit) c1, .int .i64 F, .int .i64 ((m : Int) + 4)] w' (OwnPost (w.heap.size + 1) w' (out ++ seqL ((l.drop lit).take (k - lit)) F m))) := fun w' h1 h2 h3 =>
          appendSequence_any (w.heap.size + 1) n c (k - lit) c1 F m a' a1 out _ w' h1 h3 (by omega) (B1.later h2) (fun x hx h0 => Nat.lt_succ_of_lt (bytes_block B1 x hx h0)) N1 (by omega) (by omega) (by omega)
        have HNT : Hid (∀ w', Seen w' w.heap.size l (k + 1) → Below w.heap.size w w' → Calls Try.prog 24 #[.map (some w.heap.size), .slice a len cap, .int .i64 ((k : Int) + 1), .int .i64 ((k : Int) + ((m : Int) + 4))] w' fun e w'' => e = .returned (.tuple #[]) ∧ Seen w'' w.heap.size l (min (k + (m + 4)) (len - 3)) ∧ w'.grownBy w'' (some w.heap.size)) := fun w' h1 h2 => by
          have := note_any w.heap.size a len cap (k + 1) (k + (m + 4)) (min (k + (m + 4)) (len - 3)) l w' (HB.out.later h2) h1 (fun x hx => HLT.out x hx (by omega)) rfl (by omega) (by omega) hlen t3
          exact this
        have HN1 := Lib.hid N1
        clear t4 hal hgo B1 N1 hF2 hsq
        go_wp2_with (first
          | (go_at_call 21; ((with_reducible refine (H1.out).mono ?_); rintro e w2 ⟨rfl, g1, g2⟩; have HM2 := Lib.hid g1; have HS2 := Lib.hid g2; have HO2 := Lib.hid (own_kept HOk.out g2 (by omega)); have HG2 : Hid (Below w.heap.size w w2) := HGk.out.grown g2 (by omega) (fun j e => by cases e; exact Nat.le_refl _); have hz2 := Nat.le_trans hsz g2.size; clear g1 g2))
          | (go_at_call 22; ((with_reducible refine (HEQ2.out w2 HG2.out).mono ?_); rintro e w3 ⟨rfl, j, rfl⟩; have HO3 : Hid (Own (w2.drewN j) (w.heap.size + 1) (.slice a' n c) n out) := HO2.out; have HG3 := Lib.hid (below_dn HG2.out j); have hz3 : w.heap.size + 1 ≤ (w2.drewN j).heap.size := hz2; have HM3 : Hid (Seen (w2.drewN j) w.heap.size l (k + 1)) := HM2.out))
          | (go_at_call 23; ((with_reducible refine (HSQ.out (w2.drewN j) HO3.out HG3.out hz3).mono ?_); rintro e w4 ⟨a4, n4, c4, hl4, rfl, g3, g4⟩; have HO4 := Lib.hid g3; have HB4 := Lib.hid g4; have HG4 : Hid (Below w.heap.size w w4) := HG3.out.trans (g4.mono (by omega)); have HM4 : Hid (Seen w4 w.heap.size l (k + 1)) := seen_below HM3.out g4; have hz4 : w.heap.size + 1 ≤ w4.heap.size := Nat.le_trans hz3 g4.size; clear hl4 g3 g4))
          | (go_at_call 24; ((with_reducible refine (HNT.out w4 HM4.out HG4.out).mono ?_); rintro e w5 ⟨rfl, g5, g6⟩; have HM5 := Lib.hid g5; have HO5 := Lib.hid (own_kept HO4.out g6 (by omega)); have HG5 : Hid (Below w.heap.size w w5) := HG4.out.grown g6 (by omega) (fun j e => by cases e; exact Nat.le_refl _); have hz5 := Nat.le_trans hz4 g6.size; clear g5 g6)))
        go_roundw
        case rel =>
          have hn4 : n4 ≤ 21000 := by
            have h5 := out_small HI2.out (by rw [HLN.out]; exact hlen)
            have h6 := HO5.out.len
            omega
          exact ⟨f', k + (m + 4), k + (m + 4), n4, c4, a4, _, by go_num, by go_num, rfl, hn4, Nat.le_refl _, t3, by omega, HO5.out, HG5.out, hz5, fun h => by
            have h7 := HM5.out
            rw [show min (k + (m + 4)) (len - 3) = k + (m + 4) by omega] at h7
            exact h7, HI2.out, HP2.out⟩
        case measure => simp [intOf]; omega
      · have HP2 : Hid (pk l f' lit (k + 1) out = R) := by
          rw [Hid, ← HP.out, pk_skip l f' lit k out hk4l hgo]
        have HI2 := Lib.hid (HI.out.skip hk4l)
        cases ok with
        | false =>
          clear hgo
          go_wp2_with (go_at_call 21; ((with_reducible refine (H1.out).mono ?_); rintro e w2 ⟨rfl, g1, g2⟩; have HM2 := Lib.hid g1; have HS2 := Lib.hid g2; have HO2 := Lib.hid (own_kept HOk.out g2 (by omega)); have HG2 : Hid (Below w.heap.size w w2) := HGk.out.grown g2 (by omega) (fun j e => by cases e; exact Nat.le_refl _); have hz2 := Nat.le_trans hsz g2.size; clear g1 g2))
          go_roundw
          case rel => exact ⟨f', lit, k + 1, n, c, a', out, rfl, by go_num, rfl, hn, by omega, by omega, by omega, HO2.out, HG2.out, hz2, fun _ => HM2.out, HI2.out, HP2.out⟩
          case measure => simp [intOf]; omega
        | true =>
          exact absurd ⟨HOKn.out, by omega⟩ hgo
    · have hi4 : ¬ ((k : Int) + 4 ≤ (len : Int)) := by omega
      have HE : Hid (R = finL l lit out) := by
        rw [Hid, ← HP.out]
        exact pk_end l f lit k out (by rw [HLN.out]; omega)
      have hln : out.length = n := HOk.out.len
      by_cases hl1 : lit < len
      · have HF : Hid (R = out ++ headL (l.drop lit) 0) := by
          rw [Hid, HE.out, finL, if_pos (Or.inl (by rw [HLN.out]; exact hl1))]
        have hi5 : decide ((lit : Int) < (len : Int)) = true := by simp; omega
        have hi6 : decide (lit < len) = true := by simp; omega
        obtain ⟨a1, c1, S1, B1, N1, _⟩ := slice_back HB.out HCAP.out HNIL.out lit (by omega)
        have HAL : Hid (Calls Try.prog 25 #[.slice a' n c, .slice a1 (len - lit) c1, .int .i64 0] wr (OwnPost (w.heap.size + 1) wr (out ++ headL (l.drop lit) 0))) :=
          appendLiterals_any (w.heap.size + 1) n c (len - lit) c1 0 a' a1 out _ wr HOk.out hsz (by omega) (B1.later HGk.out) (fun x hx h0 => Nat.lt_succ_of_lt (bytes_block B1 x hx h0)) N1 (by omega) (by omega)
        clear B1 N1
        go_wp2_with (go_at_call 25; ((with_reducible refine HAL.out.mono ?_); rintro e w5 ⟨a5, n5, c5, hl5, rfl, hO5, hb5⟩; have HO5 := Lib.hid hO5; have HG5 : Hid (Below w.heap.size w w5) := HGk.out.trans (hb5.mono (by omega)); clear hl5 hO5 hb5))
        go_ret
        rw [HF.out]
        exact PackPost.own HO5.out HG5.out
      · have hi5 : decide ((lit : Int) < (len : Int)) = false := by simp; omega
        have hi6 : decide (lit < len) = false := by simp; omega
        by_cases h0 : n = 0
        · have HF : Hid (R = out ++ headL (l.drop lit) 0) := by
            rw [Hid, HE.out, finL, if_pos (Or.inr (List.eq_nil_of_length_eq_zero (by omega)))]
          have hi7 : ((n : Int) == 0) = true := by simp [h0]
          clear h0
          obtain ⟨a1, c1, S1, B1, N1, _⟩ := slice_back HB.out HCAP.out HNIL.out lit (by omega)
          have HAL : Hid (Calls Try.prog 25 #[.slice a' n c, .slice a1 (len - lit) c1, .int .i64 0] wr (OwnPost (w.heap.size + 1) wr (out ++ headL (l.drop lit) 0))) :=
            appendLiterals_any (w.heap.size + 1) n c (len - lit) c1 0 a' a1 out _ wr HOk.out hsz (by omega) (B1.later HGk.out) (fun x hx h0 => Nat.lt_succ_of_lt (bytes_block B1 x hx h0)) N1 (by omega) (by omega)
          clear B1 N1
          go_wp2_with (go_at_call 25; ((with_reducible refine HAL.out.mono ?_); rintro e w5 ⟨a5, n5, c5, hl5, rfl, hO5, hb5⟩; have HO5 := Lib.hid hO5; have HG5 : Hid (Below w.heap.size w w5) := HGk.out.trans (hb5.mono (by omega)); clear hl5 hO5 hb5))
          go_ret
          rw [HF.out]
          exact PackPost.own HO5.out HG5.out
        · have HF : Hid (R = out) := by
            rw [Hid, HE.out, finL, if_neg (by
              rw [HLN.out]
              rintro (h | h)
              · exact hl1 h
              · rw [h] at hln
                exact h0 hln.symm)]
          have hi7 : ((n : Int) == 0) = false := by simp; omega
          go_wp2
          go_ret
          rw [HF.out]
          exact PackPost.own HOk.out HGk.out
end Go.Proofs.Ytlkpedknhjgdiaa
