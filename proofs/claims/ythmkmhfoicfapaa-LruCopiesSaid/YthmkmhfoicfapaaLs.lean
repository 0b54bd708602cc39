/-
  What the statements' own small functions answer (package lru): num, awake. Conditions: none.
-/
import Derived.Test.YthmkmhfoicfapaaLr
namespace Go.Proofs.Ythmkmhfoicfapaa
open Go.RowKit Go.Maps
set_option linter.unusedVariables false

theorem num_any (z : Int) (w : World) : Calls Try.prog 14 #[.int .i64 z] w fun e w' => e = .returned (.int .i64 z) ∧ w' = w := by
  go_enter Try.func14, Try.ntmps14
  go_wp2
  go_ret
  exact ⟨rfl, rfl⟩
def NewOk (room : Int) (w : World) (e : Ending) (w' : World) : Prop := ∃ p S, e = .returned (.tuple #[.pointer (some p), .int .i64 0]) ∧ Has w p (Lru.new room.toNat) w' S
theorem new_ok (room : Int) (w : World) (h1 : 1 ≤ room) (h2 : room ≤ 1024) : Calls Try.prog 12 #[.int .i64 room] w (NewOk room w) := by
  refine (new_any room w).mono ?_
  rintro e w' (⟨_, _, p, S, rfl, h⟩ | ⟨h, _⟩)
  · exact ⟨p, S, rfl, h⟩
  · exfalso; omega
theorem new_no (room : Int) (w : World) (h : room < 1 ∨ 1024 < room) : Calls Try.prog 12 #[.int .i64 room] w fun e w' => e = .returned (.tuple #[.pointer none, .int .i64 1]) ∧ w' = w := by
  refine (new_any room w).mono ?_
  rintro e w' (⟨h1, h2, _⟩ | ⟨_, rfl, rfl⟩)
  · exfalso; omega
  · exact ⟨rfl, rfl⟩
/-- A put of nothing. -/
theorem lruPut0_any {w0 w : World} {p : Addr} {C : Lru} {S : Nat → Prop} (h : Has w0 p C w S) (k0 : Int) (hk0 : -9223372036854775808 ≤ k0 ∧ k0 ≤ 9223372036854775807) (d : Bool) (hu : C.uses + 1 ≤ 1000000) :
    Calls Try.prog 16 #[.pointer (some p), .int .i64 k0, .slice none 0 0, .bool d] w (GivesL w0 p (C.put k0 [] d).2 (C.put k0 [] d).1 S w) :=
  lruPut_any h k0 hk0 none 0 0 [] d ⟨none_bytes w, fun x h => by cases h⟩ (fun _ => rfl) (by omega) hu
theorem own_at {w : World} {base n c : Nat} {a : Option Addr} {l : List Int} (h : OwnG ivV 3 1 w base (.slice a n c) n l) (h0 : 0 < n) : ∃ b, a = some ⟨b, 0, none⟩ ∧ ∀ i z, l[i]? = some z → w.cell? ⟨b, i, none⟩ = some (.int .i64 z) := by
  rcases h.1.2 with ⟨e, e'⟩ | ⟨g, cap, cur, e, _⟩
  · omega
  · cases e
    refine ⟨_, rfl, fun i z hi => ?_⟩
    have := (h.reads iv_rowed).1.cellAt iv_rowed i 0 z (.int .i64 z) hi rfl
    rwa [Nat.mul_one, Nat.add_zero, Nat.zero_add] at this
def A1 : Lru := ((Lru.new 5).put 1 [] true).2
def A2 : Lru := (A1.put 2 [] true).2
def A3 : Lru := (A2.after 1 2).2
theorem a_facts : A1.uses = 1 ∧ A2.uses = 2 ∧ (A2.after 1 2).1 = 0 ∧ A3.flush.1 = [2, 1] := by
  refine ⟨rfl, rfl, by decide, by decide⟩
theorem nil_away (S : Nat → Prop) (w : World) : Away1 S w none 0 [] := ⟨none_bytes w, fun x h => by cases h⟩
set_option maxRecDepth 100000 in
set_option maxHeartbeats 1000000 in
theorem awake_any (w : World) : Calls Try.prog 11 #[] w fun e w' => e = .returned (.bool true) ∧ Below w.heap.size w w' := by
  obtain ⟨u1, u2, g3, g4⟩ := a_facts
  have G4 := Lib.hid g4
  have G3 := Lib.hid g3
  clear g3 g4
  go_enter Try.func11, Try.ntmps11
  go_wp2_with (first
    | (go_at_call 12; refine (new_ok 5 w (by omega) (by omega)).mono ?_; rintro e w1 ⟨p, S, rfl, hh⟩; have H1 := Lib.hid hh; clear hh)
    | (go_at_call 14; refine (num_any _ _).mono ?_; rintro e w' ⟨rfl, rfl⟩)
    | (go_at_call 16; have hh := H1; clear hh; refine (lruPut0_any H1.out 1 (by omega) true (by decide)).mono ?_; rintro e w2 ⟨a, c, S2, rfl, _, hh, _, _⟩; have H2 : Hid (Has w p A1 w2 S2) := hh; clear hh H1)
    | (go_at_call 16; refine (lruPut0_any H2.out 2 (by omega) true (by rw [u1]; omega)).mono ?_; rintro e w3 ⟨a, c, S3, rfl, _, hh, _, _⟩; have H3 : Hid (Has w p A2 w3 S3) := hh; clear hh H2)
    | (go_at_call 17; refine (lruAfter_any H3.out 1 2).mono ?_; rw [G3.out]; rintro e w4 ⟨S4, rfl, hh, _⟩; have H4 : Hid (Has w p A3 w4 S4) := hh; clear hh H3)
    | (go_at_call 18; refine (lruFlush_any H4.out).mono ?_; rw [G4.out]; rintro e w5 ⟨a, c, S5, rfl, ho, hh, _, _⟩
       obtain ⟨b, rfl, hcell⟩ := own_at ho (by decide)
       have c0 := hcell 0 2 rfl
       have c1 := hcell 1 1 rfl
       have H5 := Lib.hid hh
       clear hh ho H4 hcell))
  go_ret
  exact ⟨rfl, H5.out.below⟩
end Go.Proofs.Ythmkmhfoicfapaa
