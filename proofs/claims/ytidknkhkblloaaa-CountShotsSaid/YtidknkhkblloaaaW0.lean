/-
  The document's example of chapter 9 (awake). Conditions: none.
-/
import Derived.Test.YtidknkhkblloaaaQ0
import Derived.Test.YtidknkhkblloaaaF0
namespace Go.Proofs.Ytidknkhkblloaaa
open Go.RowKit
set_option linter.unusedVariables false

theorem free_is {w : World} {a : Option Addr} {len cap : Nat} {f : Nat → Int} (h : IntsR w a len f) {n fr mo s : Int} {ok : Bool} (hn : I64 n) (hf : I64 fr) (hm : I64 mo) (hp : FreeP f len n fr mo s ok) :
    Calls Try.prog 19 #[.slice a len cap, .int .i64 n, .int .i64 fr, .int .i64 mo] w fun e w' => e = .returned (.tuple #[.int .i64 s, .bool ok]) ∧ w' = w :=
  (free_any w a len cap f h n fr mo hn hf hm).mono fun e w' ⟨s', ok', he, hp', hw⟩ => by
    obtain ⟨rfl, rfl⟩ := hp.one hp'
    exact ⟨he, hw⟩
def ex0 (i : Nat) : Int := [1, 1, 0, 1].getD i 0
theorem ex0_ints (w : World) : IntsR (w.alloc (.cells #[.int .i64 1, .int .i64 1, .int .i64 0, .int .i64 1] 3)) (some ⟨w.heap.size, 0, none⟩) 4 ex0 := by
  refine ⟨by omega, fun _ => ⟨_, 0, rfl, by simp, fun i hi => ?_⟩⟩
  rw [Nat.zero_add, World.cell?_alloc_new]
  obtain rfl | rfl | rfl | rfl : i = 0 ∨ i = 1 ∨ i = 2 ∨ i = 3 := by omega
  all_goals rfl
theorem ex0_one : FreeP ex0 4 1 0 100 2 true := by
  refine Or.inl ⟨rfl, by omega, by omega, by omega, fun k h1 h2 h3 => ?_, fun t h1 h2 hf => ?_⟩
  · obtain rfl : k = 2 := by omega
    rfl
  · obtain rfl | rfl : t = 0 ∨ t = 1 := by omega
    · exact absurd (hf 0 (by omega) (by omega) (by omega)) (by decide)
    · exact absurd (hf 1 (by omega) (by omega) (by omega)) (by decide)
theorem ex0_two : FreeP ex0 4 2 0 100 4 true := by
  refine Or.inl ⟨rfl, by omega, by omega, by omega, fun k h1 h2 h3 => by omega, fun t h1 h2 hf => ?_⟩
  obtain rfl | rfl | rfl | rfl : t = 0 ∨ t = 1 ∨ t = 2 ∨ t = 3 := by omega
  · exact absurd (hf 0 (by omega) (by omega) (by omega)) (by decide)
  · exact absurd (hf 1 (by omega) (by omega) (by omega)) (by decide)
  · exact absurd (hf 3 (by omega) (by omega) (by omega)) (by decide)
  · exact absurd (hf 3 (by omega) (by omega) (by omega)) (by decide)
theorem right_none : RightX [] [] := ⟨0, ⟨4096, right_nil (by omega)⟩, fun d hd => by cases hd⟩
set_option maxRecDepth 20000 in
set_option maxHeartbeats 1600000 in
theorem awake0 (w : World) : Calls Try.prog 13 #[] w fun e w' => e = .returned (.bool true) ∧ Below w.heap.size w w' := by
  have HF1 := Lib.hid (fun (w : World) => free_is (cap := 4) (ex0_ints w) (n := 1) (fr := 0) (mo := 100) (by unfold I64; omega) (by unfold I64; omega) (by unfold I64; omega) ex0_one)
  have HF2 := Lib.hid (fun (w : World) (X : Obj) => (by
    have := ex0_ints (w.alloc X)
    rw [World.size_alloc] at this
    exact free_is (cap := 4) this (n := 2) (fr := 0) (mo := 100) (by unfold I64; omega) (by unfold I64; omega) (by unfold I64; omega) ex0_two :
    Calls Try.prog 19 #[.slice (some ⟨w.heap.size + 1, 0, none⟩) 4 4, .int .i64 2, .int .i64 0, .int .i64 100] ((w.alloc X).alloc (.cells #[.int .i64 1, .int .i64 1, .int .i64 0, .int .i64 1] 3)) fun e w' => e = .returned (.tuple #[.int .i64 4, .bool true]) ∧ w' = (w.alloc X).alloc (.cells #[.int .i64 1, .int .i64 1, .int .i64 0, .int .i64 1] 3)))
  have HOF : Hid (∀ (w : World), Calls Try.prog 15 #[.agg #[.int .i64 0, .int .i64 0, .string ByteArray.empty, .slice none 0 0, .slice none 0 0, .slice none 0 0, .slice none 0 0], .int .i64 3] w fun e w' => ∃ R, e = .returned (.slice (some ⟨R, 0, none⟩) 3 3) ∧ w.heap.size ≤ R ∧ IRow w' R 3 (ofL (allLines [] (([] : List Sh).map shT))) ∧ Below w.heap.size w w') :=
    fun (w : World) => of_any w 0 0 ByteArray.empty none 0 0 none 0 0 none 0 0 none 0 0 [] [] (Tab.nil w) ⟨Reads.nil _ _ _, fun d hd => by cases hd⟩ right_none (by omega) 3 (by omega)
  have h0 : ofL (allLines [] (([] : List Sh).map shT)) 0 = 1 := by decide
  have h2 : ofL (allLines [] (([] : List Sh).map shT)) 2 = 0 := by decide
  have H0 := Lib.hid h0
  have H2 := Lib.hid h2
  clear h0 h2
  go_enter Try.func13, Try.ntmps13
  go_wp2_with (first
    | (go_at_call 19; (with_reducible refine (HF1.out _).mono ?_); rintro e w1 ⟨rfl, rfl⟩)
    | (go_at_call 19; (with_reducible refine (HF2.out _ _).mono ?_); rintro e w2 ⟨rfl, rfl⟩)
    | (go_at_call 15; refine (HOF.out _).mono ?_; rintro e w3 ⟨R, rfl, hR, hrow, hb⟩; have c0 := hrow.cell (j := 0) (by omega); have c2 := hrow.cell (j := 2) (by omega); rw [H0.out] at c0; rw [H2.out] at c2; have HB := Lib.hid hb; clear hb hrow hR))
  go_ret
  exact ⟨rfl, (((Below.refl _ w).alloc (Nat.le_refl _) _).alloc (by simp) _).trans (HB.out.mono (by simp; omega))⟩
end Go.Proofs.Ytidknkhkblloaaa
