/-
  The file of the statements of layer 15: sectors of a byte. Conditions: stated at each.
-/
import Derived.Test.YtlljcdmblmkblaaGreatCj
namespace Go.Proofs.YtlljcdmblmkblaaGreat
open Go.RowKit
set_option linter.unusedVariables false

/-- So many sectors, each of its number's byte. -/
def fileL : Nat → List Int
  | 0 => []
  | n + 1 => fileL n ++ List.replicate 16 (n : Int)
set_option maxRecDepth 100000 in
set_option maxHeartbeats 1600000 in
theorem file15 (w : World) (n : Nat) (hn : n ≤ 200) : Calls Tryz.prog 24 #[.int .i64 n] w fun e w' => ∃ (a : Option Addr) (c : Nat), e = .returned (.slice a (n * 16) c) ∧ Own w' w.heap.size (.slice a (n * 16) c) (n * 16) (fileL n) ∧ Below w.heap.size w w' := by
  obtain ⟨Q, hQ⟩ := named w.heap.size
  rw [hQ.out]
  go_enter Tryz.func24, Tryz.ntmps24
  go_wp2
  go_loopw [3, 4] (fun b i wr => ∃ (j N c : Nat) (a : Option Addr), j ≤ n ∧ Hid (N = j * 16) ∧ b = .slice a N c ∧ i = .int .i64 j ∧ Hid (Own wr Q (.slice a N c) N (fileL j)) ∧ Hid (Below Q w wr)) (fun _ i _ => n - (intOf i).toNat)
  case atStart => exact ⟨0, 0, 0, none, Nat.zero_le _, rfl, rfl, rfl, (show Own w Q (.slice none 0 0) 0 [] from ⟨⟨by simp, Or.inl ⟨rfl, rfl⟩⟩, by unfold Small; simp⟩), (by rw [← hQ.out]; exact Below.refl _ _)⟩
  case round =>
    obtain ⟨j, N, c, a, hj, hN, rfl, rfl, HO, HB⟩ := hrel
    by_cases hlt : j < n
    · have hi : (j : Int) < (n : Int) := by omega
      have q1 : IntKind.u8.wrap (j : Int) = (j : Int) := IntWalk.u8_in _ (by omega)
      go_wp2
      go_loopw [3, 5] (fun b k wx => ∃ (t N c : Nat) (a : Option Addr), t ≤ 16 ∧ Hid (N = j * 16 + t) ∧ b = .slice a N c ∧ k = .int .i64 t ∧ Hid (Own wx Q (.slice a N c) N (fileL j ++ List.replicate t (j : Int))) ∧ Hid (Below Q w wx)) (fun _ k _ => 16 - (intOf k).toNat)
      case atStart => exact ⟨0, N, c, a, Nat.zero_le _, hN.out, rfl, rfl, by rw [List.replicate_zero, List.append_nil]; exact HO.out, HB.out⟩
      case round =>
        clear HO HB
        obtain ⟨t, N, c, a, ht, hN2, rfl, rfl, HO, HB⟩ := hrel
        by_cases ht2 : t < 16
        · have hi2 : (t : Int) < 16 := by omega
          have hQr : Q ≤ wr.heap.size := by have h1 := HB.out.size; have := hQ.out; omega
          have hNb : N ≤ 10000 := by have := hN2.out; omega
          have HOa := Lib.hid (HO.out.alloc (.cells #[.int .u8 j] 5))
          have HBa := Lib.hid (HB.out.alloc hQr (.cells #[.int .u8 j] 5))
          have HST : Hid (fileL j ++ List.replicate t (j : Int) ++ [(j : Int)] = fileL j ++ List.replicate (t + 1) (j : Int)) := by rw [Hid, List.replicate_succ', List.append_assoc]
          go_wp2_with (at_builtin; refine append_bytes rfl _ _ rfl Q _ N _ rfl HOa.out (some ⟨wr.heap.size, 0, none⟩) 1 1 [(j : Int)] rfl (fun e => by cases e) (one_byte wr (j : Int) (by omega)) (by omega) (by rw [World.size_alloc]; omega) ?_; intro pa c9 w9 g1 g2; rw [HST.out] at g1; have HO9 := Lib.hid g1; have HB9 := Lib.hid (HOa.out.below HBa.out g2 (by rw [World.size_alloc]; omega) (Nat.le_refl _)); clear g1 g2)
          go_roundw
          case rel => exact ⟨t + 1, N + 1, c9, pa, by omega, by have := hN2.out; show N + 1 = j * 16 + (t + 1); omega, rfl, by go_num, HO9.out, HB9.out⟩
          case measure => simp [intOf]; omega
        · obtain rfl : t = 16 := by omega
          go_wp2
          go_roundw
          case rel => exact ⟨j + 1, N, c, a, by omega, by have := hN2.out; show N = (j + 1) * 16; omega, rfl, by go_num, HO.out, HB.out⟩
          case measure => simp [intOf]; omega
    · obtain rfl : j = n := by omega
      have hNN := hN.out
      subst hNN
      go_wp2
      go_ret
      exact ⟨a, c, rfl, HO.out, HB.out⟩
theorem fileL_len : ∀ n, (fileL n).length = n * 16
  | 0 => rfl
  | n + 1 => by
    show (fileL n ++ List.replicate 16 (n : Int)).length = _
    rw [List.length_append, fileL_len n, List.length_replicate]
    omega
end Go.Proofs.YtlljcdmblmkblaaGreat
