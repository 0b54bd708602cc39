/-
  Both sides' Read of a table answer alike; num of layer 8. Conditions: the slice reads as bytes.
-/
import Derived.Test.YtbpngpommgcogaaDoorD3
namespace Go.Proofs.YtbpngpommgcogaaDoor
open Go.RowKit
set_option linter.unusedVariables false

theorem num9 (n : Int) (w : World) : Calls Tryd.prog 10 #[.int .i64 n] w fun e w' => e = .returned (.int .i64 n) ∧ w = w' := by
  go_enter Tryd.func10, Tryd.ntmps10
  go_wp2
  go_ret
  exact ⟨rfl, rfl⟩
/-- What either side hands back. -/
def RdQ (T : Tb) (k err : Int) (w0 : World) (e : Ending) (w : World) : Prop := ∃ (a' : Option Addr) (l' c' : Nat), e = .returned (.tuple #[.agg #[.slice a' l' c'], .int .i64 k, .int .i64 err]) ∧ Tab w a' l' c' T ∧ Below w0.heap.size w0 w
theorem ReadP.q {o : Option (Tb × Nat)} {w0 w : World} {e : Ending} (h : ReadP o w0 e w) : match o with
  | none => RdQ [] 0 3 w0 e w
  | some (T, k) => RdQ T k 0 w0 e w := by
  cases o with
  | none => exact ⟨none, 0, 0, h.1, Tab.nil _, h.2⟩
  | some p =>
    obtain ⟨T, k⟩ := p
    obtain ⟨a', l', c', h1, h2, h3⟩ := h
    exact ⟨a', l', c', h1, h2.tab, h3⟩
theorem read_both (l : List Int) (at_ n c : Int) (ha : In64 at_) : ∃ (T : Tb) (k err : Int),
    (∀ (w : World) (a : Option Addr) (len cap : Nat), Bytes w a len l → len ≤ cap → Wid w → Calls Tryd.prog 11 #[.slice a len cap, .int .i64 at_, .int .i64 n, .int .i64 c] w (RdQ T k err w)) ∧
    (∀ (w : World) (a : Option Addr) (len cap : Nat), Bytes w a len l → len ≤ cap → Calls Tryd.prog 12 #[.slice a len cap, .int .i64 at_, .int .i64 n, .int .i64 c] w (RdQ T k err w)) := by
  by_cases hr : at_ < 0 ∨ (l.length : Int) < at_ + 2
  · refine ⟨[], 0, 3, fun w a len cap hB hc hw => ?_, fun w a len cap hB hc => ?_⟩
    · exact (read_out w a len cap at_ l n c hB hc ha (by rw [← hB.1]; exact hr)).mono fun e w' h => ReadP.q h
    · exact (refRead_out w a len cap at_ l n c hB (by rw [← hB.1]; exact hr)).mono fun e w' h => ReadP.q h
  · obtain ⟨p, rfl⟩ : ∃ p : Nat, at_ = p := ⟨at_.toNat, by omega⟩
    have hp : p + 2 ≤ l.length := by omega
    cases ho : readU l p n c with
    | none =>
      refine ⟨[], 0, 3, fun w a len cap hB hc hw => ?_, fun w a len cap hB hc => ?_⟩
      · exact (read_any w a len cap p l n c hB hc (by rw [← hB.1]; exact hp) hw).mono fun e w' h => by rw [ho] at h; exact ReadP.q h
      · exact (refRead_any w a len cap p l n c hB hc (by rw [← hB.1]; exact hp)).mono fun e w' h => by rw [ho] at h; exact ReadP.q h
    | some q =>
      obtain ⟨T, k⟩ := q
      refine ⟨T, k, 0, fun w a len cap hB hc hw => ?_, fun w a len cap hB hc => ?_⟩
      · exact (read_any w a len cap p l n c hB hc (by rw [← hB.1]; exact hp) hw).mono fun e w' h => by rw [ho] at h; exact ReadP.q h
      · exact (refRead_any w a len cap p l n c hB hc (by rw [← hB.1]; exact hp)).mono fun e w' h => by rw [ho] at h; exact ReadP.q h
end Go.Proofs.YtbpngpommgcogaaDoor
