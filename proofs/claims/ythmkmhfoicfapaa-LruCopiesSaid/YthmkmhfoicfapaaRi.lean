/-
  The reference's cache (layer 10): After, Dirty. Conditions: the cache as it lies; nothing is after itself, however far round.
-/
import Derived.Test.YthmkmhfoicfapaaRh
namespace Go.Proofs.Ythmkmhfoicfapaa
open Go.RowKit
set_option linter.unusedVariables false

theorem r_append_lg {α : Type} {P : Program} {t e : TypeId} {sz bytes : Nat} {cv : α → List Value} (R : Rowed P t e sz bytes cv) {ops : Array Oper} {rest : List Oper} {o : Oper} {a : Act} {w : World} {Q : Exit → Act → World → Prop} (hgd : o.guard = none) (s x : Operand)
    (ho : o.op = .call { callee := .builtin .append, args := #[s, x], argTypes := #[t, t] }) (base : Nat) (v : Value) (n : Nat) (xs : List α) (hs : a.eval s = v) (hown : OwnG cv e sz w base v n xs)
    (ao : Option Addr) (m c : Nat) (l : List α) (hx : a.eval x = .slice ao m c) (hnil : ao = Option.none → c = 0) (hB : Reads cv w ao m l) (hn : n + m ≤ 10000000) (hbase : base ≤ w.heap.size)
    (h : ∀ a' c' w', OwnG cv e sz w' base (.slice a' (n + m) c') (n + m) (xs ++ l) → w.grownBy w' v.ownBlock → ((Value.slice a' (n + m) c').ownBlock = v.ownBlock ∨ (Value.slice a' (n + m) c').ownBlock = some w.heap.size) → wpList P ops Q rest (a.put o.dst (.slice a' (n + m) c')) w') : wpList P ops Q (o :: rest) a w := by
  refine wpList_plain hgd fun K hK => ?_
  exact wp_append_lg (Q := Q) R s x ho base v n xs hs hown ao m c l hx hnil hB hn hbase fun a' c' w' h1 h2 h3 => hK _ _ (h a' c' w' h1 h2 h3)
def afterR (D : RC) (n : Nat) (k f : Int) : Int × RC := if (isDR D k && isDR D f) = false then (15, D) else if behindR D.rels n f k = true then (11, D) else (0, ⟨D.room, D.items, if (k, f) ∈ D.rels then D.rels else D.rels ++ [(k, f)]⟩)
set_option maxHeartbeats 1600000 in
set_option maxRecDepth 100000 in
/-- After. -/
theorem rAfter_any {w : World} {B : Nat} {D : RC} {vL vR : Value} {LM : List RI} (h : RcIn w B D vL vR LM) {rank : Int → Nat} (hr : ∀ k, ∀ f ∈ rfirsts D.rels k, rank f < rank k) (n : Nat) (k f : Int) (hn : rank f ≤ n) (hfew : D.rels.length ≤ 99999) :
    Calls Try.prog 29 #[.pointer (some ⟨B, 0, none⟩), .int .i64 k, .int .i64 f] w fun e w' => e = .returned (.int .i64 (afterR D n k f).1) ∧ Turn B (afterR D n k f).2 (rcS B vL vR LM) w w' := by
  have HD1 := Lib.hid (rDirty_any h k)
  have HD2 := Lib.hid (rDirty_any h f)
  have HBE := Lib.hid (rBehind_any h hr k n f hn)
  have HH := Lib.hid h
  unfold afterR
  cases hk : isDR D k with
  | false =>
    rw [hk] at HD1
    rw [if_pos (show (false && isDR D f) = false from rfl)]
    clear h hr
    go_enter Try.func29, Try.ntmps29
    go_wp2_with (go_at_call 52; (with_reducible refine HD1.out.mono ?_); rintro e w' ⟨rfl, hww⟩; obtain rfl := hww.symm; clear hww)
    go_ret
    exact ⟨rfl, _, _, _, HH.out, Away.refl _ _⟩
  | true =>
    rw [hk] at HD1
    cases hf : isDR D f with
    | false =>
      rw [hf] at HD2
      rw [if_pos (show (true && false) = false from rfl)]
      by_cases hkf : k = f
      · subst hkf
        rw [hk] at hf
        cases hf
      clear h hr
      go_enter Try.func29, Try.ntmps29
      go_wp2_with (first
        | (go_at_call 52; (with_reducible refine HD1.out.mono ?_); rintro e w' ⟨rfl, hww⟩; obtain rfl := hww.symm; clear hww HD1)
        | (go_at_call 52; (with_reducible refine HD2.out.mono ?_); rintro e w' ⟨rfl, hww⟩; obtain rfl := hww.symm; clear hww))
      go_ret
      exact ⟨rfl, _, _, _, HH.out, Away.refl _ _⟩
    | true =>
      rw [hf] at HD2
      rw [if_neg (show ¬ (true && true) = false by simp)]
      cases hb : behindR D.rels n f k with
      | true =>
        rw [hb] at HBE
        rw [if_pos rfl]
        clear h hr
        go_enter Try.func29, Try.ntmps29
        go_wp2_with (first
          | (go_at_call 52; (with_reducible refine HD1.out.mono ?_); rintro e w' ⟨rfl, hww⟩; obtain rfl := hww.symm; clear hww HD1)
          | (go_at_call 52; (with_reducible refine HD2.out.mono ?_); rintro e w' ⟨rfl, hww⟩; obtain rfl := hww.symm; clear hww)
          | (go_at_call 53; refine HBE.out.mono ?_; rintro e w' ⟨rfl, hww⟩; obtain rfl := hww.symm; clear hww))
        go_ret
        exact ⟨rfl, _, _, _, HH.out, Away.refl _ _⟩
      | false =>
        rw [hb] at HBE
        rw [if_neg (show ¬ (false = true) by simp)]
        dsimp only
        have hrel := h.rel
        have c2 := h.c2
        have f2 := h.blk.free 2
        obtain ⟨aR, cR, rfl, _, _, _⟩ := hrel.shape rl_rowed
        obtain ⟨R, hR⟩ := named D.rels
        have HRE := Lib.hid hR.out
        rw [hR.out] at hrel c2 hfew HH ⊢
        obtain ⟨nR, hnR⟩ := named R.length
        have HNR := Lib.hid hnR.out
        rw [hnR.out] at hrel c2 hfew HH ⊢
        obtain ⟨RR, hRR⟩ := named (if (k, f) ∈ R then R else R ++ [(k, f)])
        rw [hRR.out]
        have HOR := Lib.hid hrel
        have dA : ∀ o, (w.alloc o).cell? ⟨B, 2, none⟩ = some (.slice aR nR cR) := fun o => ((HH.out.blk.alloc o).cell 2).trans rfl
        clear h hr hrel hk hf hb
        go_enter Try.func29, Try.ntmps29
        go_wp2_with (first
          | (go_at_call 52; (with_reducible refine HD1.out.mono ?_); rintro e w' ⟨rfl, hww⟩; obtain rfl := hww.symm; clear hww HD1)
          | (go_at_call 52; (with_reducible refine HD2.out.mono ?_); rintro e w' ⟨rfl, hww⟩; obtain rfl := hww.symm; clear hww)
          | (go_at_call 53; refine HBE.out.mono ?_; rintro e w' ⟨rfl, hww⟩; obtain rfl := hww.symm; clear hww))
        go_loopw [7] (fun s wr => ∃ j : Nat, j ≤ nR ∧ s = .int .i64 j ∧ wr = w ∧ Hid (∀ p ∈ R.take j, p ≠ (k, f))) (fun s _ => nR - (intOf s).toNat)
        case atStart => exact ⟨0, Nat.zero_le _, rfl, rfl, fun x hx => by simp at hx⟩
        case round =>
          obtain ⟨j, hj, rfl, rfl, HA⟩ := hrel
          by_cases hlt : j < nR
          · obtain ⟨p, hp⟩ : ∃ p, R[j]? = some p := ⟨_, List.getElem?_eq_getElem (by have := HNR.out; omega)⟩
            obtain ⟨b, rfl⟩ := HOR.out.at0 (by omega)
            obtain ⟨p1, p2⟩ := p
            obtain ⟨e0, e1⟩ := rl_cells HOR.out j _ hp
            dsimp only at e0 e1
            have hstep : (p1, p2) ≠ (k, f) → ∀ x ∈ R.take (j + 1), x ≠ (k, f) := fun q x hx => by
              rw [List.take_add_one, hp] at hx
              rcases List.mem_append.1 hx with hx | hx
              · exact HA.out x hx
              · simp at hx
                rw [hx]
                exact q
            have HSTEP := Lib.hid hstep
            have HMEM : Hid ((p1, p2) ∈ R) := Lib.hid (List.mem_of_getElem? hp)
            clear hp hstep
            by_cases h1 : p1 = k
            · subst h1
              by_cases h2 : p2 = f
              · subst h2
                go_wp2
                go_ret
                refine ⟨rfl, ?_⟩
                rw [← hRR.out, if_pos HMEM.out, ← HRE.out]
                exact ⟨_, _, _, HH.out, Away.refl _ _⟩
              · have t1 : (p2 == f) = false := by simpa using h2
                have H2 := Lib.hid h2
                clear h2
                go_wp2
                go_roundw
                case rel => exact ⟨j + 1, by omega, by go_num, by first | trivial | rfl, HSTEP.out fun e => H2.out (by cases e; rfl)⟩
                case measure => simp [intOf]; omega
            · have t1 : (p1 == k) = false := by simpa using h1
              have H1 := Lib.hid h1
              clear h1
              go_wp2
              go_roundw
              case rel => exact ⟨j + 1, by omega, by go_num, by first | trivial | rfl, HSTEP.out fun e => H1.out (by cases e; rfl)⟩
              case measure => simp [intOf]; omega
          · obtain rfl : j = nR := by omega
            have hno : (k, f) ∉ R := fun hx => HA.out _ (by rw [← HNR.out, List.take_length]; exact hx) rfl
            have HNO := Lib.hid hno
            clear hno
            go_wp2_with (at_builtin; refine r_append_lg rl_rowed rfl (.tmp 57) (.tmp 61) rfl 0 (.slice aR j cR) j R rfl (HOR.out.alloc _) (some ⟨wr.heap.size, 0, none⟩) 1 1 [(k, f)] rfl (fun e => by cases e) (one_reads _ _ _ _ rfl) (by omega) (Nat.zero_le _) ?_; intro a2 c3 w2 r1 r2 r3; have HO2 := Lib.hid r1; have HG2 := Lib.hid (grown_alloc r2); have HV2 := Lib.hid r3; have hB2 := HH.out.blk.kept (grown_alloc r2) (fun e => HH.out.rB e.symm); have k2 := hB2.free 2; have k3 := hB2.cell 2; clear r1 r2 r3 hB2)
            go_ret
            refine ⟨rfl, ?_⟩
            rw [← hRR.out, if_neg HNO.out]
            have hh : RcIn wr B ⟨D.room, D.items, R⟩ vL (.slice aR j cR) LM := by rw [← HRE.out]; exact HH.out
            obtain ⟨r1, r2⟩ := hh.storeR (R' := R ++ [(k, f)]) (vR' := .slice a2 (j + 1) c3) HG2.out (fun q e => e) (by rw [List.length_append, HNR.out]; exact HO2.out) (HV2.out.imp id fun e q hq => by rw [hq] at e; cases e; simp) (by rw [List.length_append, HNR.out]; show j + 1 ≤ 100000; omega)
            exact ⟨_, _, _, r1, r2⟩
end Go.Proofs.Ythmkmhfoicfapaa
