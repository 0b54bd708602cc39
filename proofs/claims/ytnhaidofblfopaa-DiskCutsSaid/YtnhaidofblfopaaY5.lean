/-
  What the project's own disk answers, call by call (package disk): Read. Conditions: the disk as it lies.
-/
import Derived.Test.YtnhaidofblfopaaW5
namespace Go.Proofs.Ytnhaidofblfopaa
open Go.RowKit

theorem own_up {w : World} {base : Nat} {v : Value} {n : Nat} {xs : List Int} (h : Own w base v n xs) : Own w 0 v n xs := by
  refine ⟨⟨h.1.1, ?_⟩, h.2⟩
  rcases h.1.2 with e | ⟨g, cap, cur, e, _, e2⟩
  · exact Or.inl e
  · exact Or.inr ⟨g, cap, cur, e, Nat.zero_le _, e2⟩
theorem flat_mid {l : List Sec} (h : ∀ x ∈ l, x.length = 16) (a n : Nat) : (l.flatten.drop (16 * a)).take (16 * n) = ((l.drop a).take n).flatten := by
  rw [flat_drop h, flat_take fun x hx => h x (List.mem_of_mem_drop hx)]
theorem bytes_mid {w : World} {a : Option Addr} {len cap : Nat} {l : List Int} (h : Bytes w a len l) (hcap : len ≤ cap) (hnil : a = none → cap = 0) (i k : Nat) (hi : i ≤ k) (hk : k ≤ len) :
    Bytes w (if cap = i then a else Option.map (fun x => x.add i) a) (k - i) ((l.drop i).take (k - i)) ∧ ((if cap = i then a else Option.map (fun x => x.add i) a) = none → cap - i = 0) := by
  obtain ⟨h1, h2, h3⟩ := h
  have hsm : Small ((l.drop i).take (k - i)) := ⟨by rw [List.length_take, List.length_drop]; have := h2.1; omega, fun c hc => h2.2 c (List.mem_of_mem_drop (List.mem_of_mem_take hc))⟩
  have hln : ((l.drop i).take (k - i)).length = k - i := by rw [List.length_take, List.length_drop]; omega
  refine ⟨⟨hln, hsm, ?_⟩, ?_⟩
  · by_cases hz : k - i = 0
    · exact Or.inl hz
    · obtain ⟨b, off, rfl, hlt, hc⟩ := h3.resolve_left (by omega)
      refine Or.inr ⟨b, off + i, ?_, hlt, fun j hj => ?_⟩
      · rw [if_neg (by omega)]
        simp [Addr.add]
      · rw [hln] at hj
        have := hc (i + j) (by omega)
        rw [Nat.add_assoc, this, List.getD_eq_getElem?_getD, List.getD_eq_getElem?_getD, List.getElem?_take, if_pos (by omega), List.getElem?_drop]
  · intro e
    by_cases hz : cap = i
    · omega
    · rw [if_neg hz] at e
      have : a = none := by cases a <;> simp_all
      have := hnil this
      omega
set_option maxRecDepth 100000 in
theorem diskRead_any {w0 w : World} {p : Addr} {D : Dsk} {S : Nat → Prop} (h : Has w0 p D w S) (s : Nm) (at' n : Int) (h1 : -9223372036854775808 ≤ at' ∧ at' ≤ 9223372036854775807) (h2 : -9223372036854775808 ≤ n ∧ n ≤ 9223372036854775807) (l : List Int) (E : Int) (he : D.read s at' n = (l, E)) :
    Calls Try.prog 19 #[.pointer (some p), .string s, .int .i64 at', .int .i64 n] w (GivesB w0 p D l E S w) := by
  obtain ⟨B, room, vF, L, cnt, fails, dead, rfl, rfl, hd, hr⟩ := h.open'
  unfold Dsk.read at he
  have HD := Lib.hid hd
  have HR := Lib.hid hr
  have HH := Lib.hid h
  have HNO : Hid (∀ (E : Int), GivesB w0 ⟨B, 0, none⟩ D [] E (ownS B vF L) w (.returned (.tuple #[.slice none 0 0, .int .i64 E])) w) := Lib.hid fun E => ⟨none, 0, ownS B vF L, rfl, ⟨none_bytes _, fun h => by simp at h⟩, h, Away.refl _ _⟩
  clear hd hr h
  cases dead with
  | true =>
    rw [if_pos (show D.dead = true from HR.out.deadEq)] at he
    cases he
    go_enter Try.func19, Try.ntmps19
    go_wp2_with (go_at_call 30; refine (open_dead HD.out s).mono ?_; rintro e w' ⟨rfl, rfl⟩)
    go_ret2
    exact HNO.out 8
  | false =>
    rw [if_neg (by rw [HR.out.deadEq]; simp)] at he
    cases hg : fget D.files s with
    | none =>
      rw [hg] at he
      cases he
      have HN := Lib.hid (HR.out.none.1 hg)
      clear hg
      go_enter Try.func19, Try.ntmps19
      go_wp2_with (go_at_call 30; refine (open_none HD.out HR.out.rise HR.out.many s HN.out).mono ?_; rintro e w' ⟨rfl, rfl⟩)
      go_ret2
      exact HNO.out 4
    | some v =>
      rw [hg] at he
      dsimp only at he
      obtain ⟨f, hf, rfl, rfl⟩ := HR.out.there hg
      dsimp only at he
      have HF := Lib.hid hf
      obtain ⟨vn, vd, vw, hF⟩ := HD.out.file f hf
      have HFF := Lib.hid hF
      obtain ⟨a, c, rfl, hB, hnil⟩ := hF.now.shape
      have hcap := hF.now.capOk
      have hl := hF.ok.now
      have c1 : w.cell? ⟨f.G, 1, none⟩ = some (.slice a (16 * f.now.length) c) := by rw [hF.blk.cell]; rfl
      have HB := Lib.hid hB
      clear hg hf hF hB
      obtain ⟨M, hM⟩ := named f.now.length
      rw [hM.out] at he hl c1 hcap
      by_cases hbad : at' < 0 ∨ n < 0 ∨ (M : Int) < at' + n
      · rw [if_pos hbad] at he
        cases he
        by_cases b1 : at' < 0
        · go_enter Try.func19, Try.ntmps19
          go_wp2_with (go_at_call 30; refine (open_some HD.out HR.out.rise HR.out.many HF.out).mono ?_; rintro e w' ⟨rfl, rfl⟩)
          go_ret2
          exact HNO.out 6
        · by_cases b2 : n < 0
          · go_enter Try.func19, Try.ntmps19
            go_wp2_with (go_at_call 30; refine (open_some HD.out HR.out.rise HR.out.many HF.out).mono ?_; rintro e w' ⟨rfl, rfl⟩)
            go_ret2
            exact HNO.out 6
          · have b3 : (M : Int) - at' < n := by omega
            go_enter Try.func19, Try.ntmps19
            go_wp2_with (first | (go_at_call 30; refine (open_some HD.out HR.out.rise HR.out.many HF.out).mono ?_; rintro e w' ⟨rfl, rfl⟩) | (go_at_call 31; refine (size_any HFF.out).mono ?_; rintro e w' ⟨rfl, rfl⟩; rw [hM.out]))
            go_ret2
            exact HNO.out 6
      · rw [if_neg hbad] at he
        cases he
        obtain ⟨A, rfl⟩ : ∃ A : Nat, at' = (A : Int) := ⟨at'.toNat, by omega⟩
        obtain ⟨N, rfl⟩ : ∃ N : Nat, n = (N : Int) := ⟨n.toNat, by omega⟩
        have hAN : A + N ≤ M := by omega
        have b3 : ¬ (M : Int) - (A : Int) < (N : Int) := by omega
        have b4 : ((A : Int) * 16).toNat = 16 * A := by omega
        have b5 : (((A : Int) + (N : Int)) * 16).toNat = 16 * (A + N) := by omega
        have b6 : ((A : Int) + (N : Int)) * 16 ≤ (c : Int) := by omega
        have b7 : (A : Int) * 16 ≤ ((A : Int) + (N : Int)) * 16 := by omega
        have b8 : 0 ≤ (A : Int) * 16 := by omega
        have HM := Lib.hid (bytes_mid (by rw [← hM.out]; exact HB.out : Bytes w a (16 * M) f.now.flatten) hcap hnil (16 * A) (16 * (A + N)) (by omega) (by omega))
        have HFL : Hid ((f.now.flatten.drop (16 * A)).take (16 * (A + N) - 16 * A) = ((f.now.drop A).take N).flatten) := by
          rw [Hid, show 16 * (A + N) - 16 * A = 16 * N by omega]
          exact flat_mid HFF.out.ok.now16 A N
        go_enter Try.func19, Try.ntmps19
        go_wp2_with (first | (go_at_call 30; refine (open_some HD.out HR.out.rise HR.out.many HF.out).mono ?_; rintro e w' ⟨rfl, rfl⟩) | (go_at_call 31; refine (size_any HFF.out).mono ?_; rintro e w' ⟨rfl, rfl⟩; rw [hM.out]) | (go_at_call 38; refine (clone_any _ _ _ _ _ HM.out.1 HM.out.2 (by omega)).mono ?_; rintro e w5 ⟨a5, c5, rfl, h1, h2⟩))
        all_goals
          go_ret2
          rw [HFL.out] at h1
          have hlen : ((f.now.drop A).take N).flatten.length = 16 * (A + N) - 16 * A := h1.len
          refine ⟨a5, c5, ownS B vF L, by rw [hlen]; rfl, ?_, HH.out.later h2, Away.of_below _ h2⟩
          rw [hlen]
          obtain ⟨a6, c6, e6, hb6, _⟩ := h1.shape
          cases e6
          exact ⟨hb6, fun h0 x hx => ⟨h1.lt (k := x.block) (by rw [hx]; rfl), fun hS => by have := (h1.1.lt x.block (by rw [hx]; rfl)).1; have := HD.out.ltS hS; omega⟩⟩
end Go.Proofs.Ytnhaidofblfopaa
