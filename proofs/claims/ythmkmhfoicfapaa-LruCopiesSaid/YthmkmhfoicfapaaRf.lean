/-
  The reference's cache (layer 10): behind, write. Conditions: nothing is after itself, however far round.
-/
import Derived.Test.YthmkmhfoicfapaaRe
namespace Go.Proofs.Ythmkmhfoicfapaa
open Go.RowKit
set_option linter.unusedVariables false

def subB (R : List (Int × Int)) (n : Nat) (f first : Int) : Bool := match n with
  | 0 => false
  | m + 1 => behindR R m f first
theorem behindR_eq (R : List (Int × Int)) (n : Nat) (k first : Int) : behindR R n k first = (decide (k = first) || (rfirsts R k).any fun f => subB R n f first) := by
  cases n with
  | zero => simp [behindR, subB]
  | succ n => rfl
theorem rfirsts_snoc {R : List (Int × Int)} {k : Int} {j : Nat} {p : Int × Int} (h : R[j]? = some p) : rfirsts (R.take (j + 1)) k = rfirsts (R.take j) k ++ if p.1 = k then [p.2] else [] := by
  unfold rfirsts
  rw [List.take_add_one, h, Option.toList_some, List.filter_append, List.map_append]
  congr 1
  by_cases hp : p.1 = k <;> simp [hp]
set_option maxHeartbeats 1600000 in
set_option maxRecDepth 100000 in
theorem rBehind_step {w : World} {B : Nat} {D : RC} {vL vR : Value} {LM : List RI} (h : RcIn w B D vL vR LM) {rank : Int → Nat} (hr : ∀ k, ∀ f ∈ rfirsts D.rels k, rank f < rank k) (n : Nat) (first : Int)
    (ih : ∀ f, rank f < n → Calls Try.prog 53 #[.pointer (some ⟨B, 0, none⟩), .int .i64 f, .int .i64 first] w fun e w' => e = .returned (.bool (subB D.rels n f first)) ∧ w' = w) (k : Int) (hk : rank k ≤ n) :
    Calls Try.prog 53 #[.pointer (some ⟨B, 0, none⟩), .int .i64 k, .int .i64 first] w fun e w' => e = .returned (.bool (behindR D.rels n k first)) ∧ w' = w := by
  rw [behindR_eq]
  by_cases hkf : k = first
  · subst hkf
    have t : (decide (k = k) || (rfirsts D.rels k).any fun f => subB D.rels n f k) = true := by simp
    rw [t]
    clear ih h hr t
    go_enter Try.func53, Try.ntmps53
    go_wp2
    go_ret
    exact ⟨rfl, rfl⟩
  · rw [decide_eq_false hkf, Bool.false_or]
    have hfew := h.few.2
    have hrel := h.rel
    have c2 := h.c2
    obtain ⟨aR, cR, rfl, _, _, _⟩ := hrel.shape rl_rowed
    obtain ⟨R, hR⟩ := named D.rels
    rw [hR.out] at hfew hrel c2 ih ⊢
    have HRK : Hid (∀ (q : Nat) (p : Int × Int), R[q]? = some p → p.1 = k → rank p.2 < n) := fun q p hq he => by
      have : p.2 ∈ rfirsts D.rels k := by rw [hR.out]; exact rfirsts_mem.2 (by rw [← he]; exact List.mem_of_getElem? hq)
      have := hr k _ this
      omega
    obtain ⟨nR, hnR⟩ := named R.length
    have HNR := Lib.hid hnR.out
    rw [hnR.out] at hfew hrel c2
    have HOR := Lib.hid hrel
    have IH := Lib.hid ih
    have t0 : (k == first) = false := by simpa using hkf
    obtain ⟨T, hT⟩ := named ((rfirsts R k).any fun f => subB R n f first)
    rw [hT.out]
    clear h hr hrel ih
    go_enter Try.func53, Try.ntmps53
    go_wp2
    go_loopw [7] (fun s wr => ∃ j : Nat, j ≤ nR ∧ s = .int .i64 j ∧ wr = w ∧ Hid (∀ f ∈ rfirsts (R.take j) k, subB R n f first = false)) (fun s _ => nR - (intOf s).toNat)
    case atStart => exact ⟨0, Nat.zero_le _, rfl, rfl, fun f hf => by simp [rfirsts] at hf⟩
    case round =>
      obtain ⟨j, hj, rfl, rfl, HA⟩ := hrel
      by_cases hlt : j < nR
      · obtain ⟨p, hp⟩ : ∃ p, R[j]? = some p := ⟨_, List.getElem?_eq_getElem (by have := HNR.out; omega)⟩
        obtain ⟨b, rfl⟩ := HOR.out.at0 (by omega)
        obtain ⟨p1, p2⟩ := p
        obtain ⟨e0, e1⟩ := rl_cells HOR.out j _ hp
        dsimp only at e0 e1
        have hs := rfirsts_snoc (k := k) hp
        dsimp only at hs
        have hrk : p1 = k → rank p2 < n := fun he => HRK.out j _ hp he
        have hmem : p1 = k → p2 ∈ rfirsts R k := fun he => rfirsts_mem.2 (by rw [← he]; exact List.mem_of_getElem? hp)
        clear hp
        by_cases hpk : p1 = k
        · rw [if_pos hpk] at hs
          have hIH := IH.out p2 (hrk hpk)
          have hm := hmem hpk
          subst hpk
          have HSS := Lib.hid hs
          clear hs hrk hmem
          cases hb : subB R n p2 first with
          | true =>
            rw [hb] at hIH
            have HIH := Lib.hid hIH
            have hTT : T = true := by rw [← hT.out]; exact List.any_eq_true.2 ⟨p2, hm, hb⟩
            have HTT := Lib.hid hTT
            clear hIH hb hTT hm
            go_wp2_with (go_at_call 53; refine HIH.out.mono ?_; rintro e w' ⟨rfl, hww⟩; obtain rfl := hww.symm; clear hww)
            go_ret
            exact ⟨by rw [HTT.out]; rfl, rfl⟩
          | false =>
            rw [hb] at hIH
            have HIH := Lib.hid hIH
            have HBB := Lib.hid hb
            clear hIH hb hm
            go_wp2_with (go_at_call 53; refine HIH.out.mono ?_; rintro e w' ⟨rfl, hww⟩; obtain rfl := hww.symm; clear hww)
            go_roundw
            case rel =>
              refine ⟨j + 1, by omega, by go_num, by first | trivial | rfl, fun f hf => ?_⟩
              rw [HSS.out] at hf
              rcases List.mem_append.1 hf with hf | hf
              · exact HA.out f hf
              · rw [List.mem_singleton] at hf
                rw [hf]
                exact HBB.out
            case measure => simp [intOf]; omega
        · rw [if_neg hpk, List.append_nil] at hs
          have HSS := Lib.hid hs
          have t1 : (p1 == k) = false := by simpa using hpk
          clear hs hrk hmem
          go_wp2
          go_roundw
          case rel => exact ⟨j + 1, by omega, by go_num, by first | trivial | rfl, by rw [HSS.out]; exact HA.out⟩
          case measure => simp [intOf]; omega
      · obtain rfl : j = nR := by omega
        have hTT : T = false := by
          rw [← hT.out, List.any_eq_false]
          intro f hf
          have := HA.out f (by rw [← HNR.out, List.take_length]; exact hf)
          rw [this]
          exact Bool.false_ne_true
        have HTT := Lib.hid hTT
        clear hTT
        go_wp2
        go_ret
        exact ⟨by rw [HTT.out]; rfl, rfl⟩
/-- behind. -/
theorem rBehind_any {w : World} {B : Nat} {D : RC} {vL vR : Value} {LM : List RI} (h : RcIn w B D vL vR LM) {rank : Int → Nat} (hr : ∀ k, ∀ f ∈ rfirsts D.rels k, rank f < rank k) (first : Int) :
    ∀ (n : Nat) (k : Int), rank k ≤ n → Calls Try.prog 53 #[.pointer (some ⟨B, 0, none⟩), .int .i64 k, .int .i64 first] w fun e w' => e = .returned (.bool (behindR D.rels n k first)) ∧ w' = w
  | 0, k, hk => rBehind_step h hr 0 first (fun f hf => absurd hf (Nat.not_lt_zero _)) k hk
  | n + 1, k, hk => rBehind_step h hr (n + 1) first (fun f hf => rBehind_any h hr first n f (by omega)) k hk
end Go.Proofs.Ythmkmhfoicfapaa
