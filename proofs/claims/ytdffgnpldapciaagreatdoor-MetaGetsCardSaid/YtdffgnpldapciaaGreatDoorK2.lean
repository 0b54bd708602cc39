/-
  What the project's own copyWithRoom and appendNumber do: a copy of the bytes in memory of its own, and a number behind it. Conditions: the slice reads as bytes, few of them; the parts' lengths are small.
-/
import Derived.Test.YtdffgnpldapciaaGreatDoorS2
import Derived.Laws.LoneSync
import Derived.Laws.Pointers
import Derived.RegionCalls
namespace Go.Proofs.YtdffgnpldapciaaGreatDoor
open Go.RowKit

theorem room_add (g : Nat) (x y : Int) (w : World) (hc : w.cell? ⟨g, 0, none⟩ = some (.int .i64 x)) (hz : w.frozen? ⟨g, 0, none⟩ = false) (h0 : -9223372036854775808 ≤ x + y) (h1 : x + y ≤ 9223372036854775807) :
    Calls Tryz.prog 94 #[.pointer (some ⟨g, 0, none⟩), .int .i64 y] w fun e w' => e = .returned (.int .i64 (x + y)) ∧ w' = w.setCell ⟨g, 0, none⟩ (.int .i64 (x + y)) := by
  have hadd := run_call_add (P := Tryz.prog) Tryz.func102 (by kernel_rfl) (by kernel_rfl) (by kernel_rfl) .i64 (by kernel_rfl) (y := y) (s := x + y) hc hz (by simp [go_sem]; rw [IntKind.wrap_i64]; omega)
  go_enter Tryz.func94, Tryz.ntmps94
  go_wp2
  go_ret
  exact ⟨rfl, rfl⟩

theorem room_load (g : Nat) (x : Int) (w : World) (hc : w.cell? ⟨g, 0, none⟩ = some (.int .i64 x)) :
    Calls Tryz.prog 95 #[.pointer (some ⟨g, 0, none⟩)] w fun e w' => e = .returned (.int .i64 x) ∧ w' = w := by
  have hl := run_call_load (P := Tryz.prog) Tryz.func103 (by kernel_rfl) (by kernel_rfl) (by kernel_rfl) .i64 (by kernel_rfl) hc
  go_enter Tryz.func95, Tryz.ntmps95
  go_wp2
  go_ret
  exact ⟨rfl, rfl⟩

/-- 'make([]byte, 0, n)'. -/
theorem make_room {ops : Array Oper} {rest : List Oper} {o : Oper} {a : Act} {w : World} {Q : Exit → Act → World → Prop} (hgd : o.guard = none) (l c : Operand) (ho : o.op = Op.makeSlice 22 l c) (base n : Nat)
    (hl : a.eval l = .int .i64 0) (hc : a.eval c = .int .i64 n) (hn : n ≤ 100000000) (hbase : base ≤ w.heap.size)
    (h : ∀ w', Own w' base (.slice (some ⟨w.heap.size, 0, none⟩) 0 n) 0 [] → Below w.heap.size w w' → wpList Tryz.prog ops Q rest (a.put o.dst (.slice (some ⟨w.heap.size, 0, none⟩) 0 n)) w') : wpList Tryz.prog ops Q (o :: rest) a w := by
  obtain ⟨i0, hi, hz0, hz1, hz2⟩ := info_parts info5
  refine wpList_make_own w hgd l c 22 ho base 5 i0 (.int .u8 0) 1 Tryz.underlying22 hi hz0 hz1 .i64 .i64 n n hl hc rfl (by rw [hz2]; omega) (by unfold maxLen; omega) hbase ?_
  intro w' h1 h2
  exact h w' ⟨h1, by unfold Small; simp⟩ ((Below.refl _ _).grown h2 (Nat.le_refl _) (fun k hk => by cases hk))

/-- The sum of the first of them. -/
def sumTo (ns : List Nat) : Nat → Nat
  | 0 => 0
  | i + 1 => sumTo ns i + ns.getD i 0

set_option maxHeartbeats 1600000 in
theorem room_any (a : Option Addr) (len cap b k base : Nat) (l : List Int) (ns : List Nat) (w : World) (hB : Bytes w a len l) (hnil : a = none → cap = 0) (hlen : len ≤ 100000)
    (hns : ∀ i, i < k → w.cell? ⟨b, i, none⟩ = some (.int .i64 (ns.getD i 0 : Nat)) ∧ sumTo ns (i + 1) ≤ 100000) (hb : b < w.heap.size) (hk : k ≤ 2) (hbase : base ≤ w.heap.size) :
    Calls Tryz.prog 86 #[.slice a len cap, .slice (some ⟨b, 0, none⟩) k k] w fun e w' => ∃ a' c', e = .returned (.slice a' len c') ∧ Own w' base (.slice a' len c') len l ∧ Below base w w' := by
  have HB := Lib.hid hB
  have HN := Lib.hid hnil
  have HK := Lib.hid hns
  have HG : Hid (∀ i, sumTo ns (i + 1) = sumTo ns i + ns.getD i 0) := fun _ => rfl
  clear hB hnil hns
  go_enter Tryz.func86, Tryz.ntmps86
  go_wp2_with (first
    | (go_at_call 94; refine (room_add w.heap.size 0 (len : Int) _ (by simp [go_sem]) (by simp [go_sem]) (by omega) (by omega)).mono ?_; rintro e w' ⟨rfl, rfl⟩))
  go_loopw [13] (fun i wr => ∃ j t : Nat, j ≤ k ∧ i = .int .i64 j ∧ wr = w.alloc (.cells #[.int .i64 ((len : Int) + (t : Int))] 144) ∧ t ≤ 100000 ∧ Hid (t = sumTo ns j)) (fun i _ => k - (intOf i).toNat)
  case atStart => exact ⟨0, 0, Nat.zero_le _, rfl, by simp, by omega, rfl⟩
  case round =>
    obtain ⟨j, t, hj, rfl, rfl, ht, HT⟩ := hrel
    by_cases hlt : j < k
    · obtain ⟨hc, hsum⟩ := HK.out j hlt
      have HGj := Lib.hid (HG.out j)
      rw [HG.out j, ← HT.out] at hsum
      obtain ⟨c, HC⟩ := named (ns.getD j 0)
      rw [HC.out] at hc hsum
      go_wp2_with (first
        | (go_at_call 94; refine (room_add w.heap.size ((len : Int) + (t : Int)) (c : Int) _ (by simp [go_sem]) (by simp [go_sem]) (by omega) (by omega)).mono ?_; rintro e w' ⟨rfl, rfl⟩))
      go_roundw
      case rel =>
        refine ⟨j + 1, t + c, by omega, by go_num, ?_, by omega, ?_⟩
        · rw [Int.natCast_add, Int.add_assoc]
        · rw [Hid, HGj.out, ← HT.out, HC.out]
      case measure => simp [intOf]; omega
    · obtain rfl : j = k := by omega
      obtain ⟨N, HNN⟩ := named (len + t)
      have hN : ((len : Int) + (t : Int)) = (N : Int) := by rw [← HNN.out]; simp
      have hN2 : N ≤ 200000 := by rw [← HNN.out]; omega
      go_wp2_with (first
        | (go_at_call 95; refine (room_load w.heap.size N _ (by simp [go_sem])).mono ?_; rintro e w' ⟨rfl, rfl⟩)
        | (at_make; refine make_room rfl _ (.tmp 20) rfl base N rfl rfl (by omega) (by simp; omega) ?_; intro w1 g1 g2; rw [World.size_alloc] at g1; have HO := Lib.hid g1; have HG1 : Hid (Below w.heap.size w w1) := ((Below.refl _ _).alloc (Nat.le_refl _) _).trans (g2.mono (by simp)); clear g1 g2)
        | (at_builtin; refine append_more rfl (.tmp 21) (.tmp 22) rfl base _ 0 [] rfl HO.out a len cap l rfl HN.out (HB.out.later HG1.out) (by omega) (Nat.le_trans hbase HG1.out.size) ?_; intro a2 c2 w2 g1 g2; have HO2 := Lib.hid g1; have HG2 := Lib.hid ((HG1.out.mono hbase).trans g2); clear g1 g2))
      go_ret
      have e := HO2.out
      rw [Nat.zero_add, List.nil_append] at e
      exact ⟨a2, c2, rfl, e, HG2.out⟩

theorem byteOf_intR (B k : Nat) : ((B : Int) / 2 ^ (k * 8) % 256) = byteOf B k := by rw [Nat.mul_comm]; exact byteOf_int B k
theorem byteOf_rangeR (B k : Nat) : 0 ≤ ((B : Int) / 2 ^ (k * 8) % 256) ∧ ((B : Int) / 2 ^ (k * 8) % 256) < 256 := by rw [Nat.mul_comm]; exact byteOf_range B k

set_option maxHeartbeats 1600000 in
theorem number_any (a : Option Addr) (n c m v base : Nat) (l : List Int) (big : Bool) (w : World) (hO : Own w base (.slice a n c) n l) (hn : n ≤ 200000) (hm : m ≤ 8) (hbase : base ≤ w.heap.size) :
    Calls Tryz.prog 85 #[.slice a n c, .int .i64 m, .bool big, .int .u64 v] w fun e w' => ∃ a' c', e = .returned (.slice a' (n + m) c') ∧ Own w' base (.slice a' (n + m) c') (n + m) (l ++ numB big m v) ∧ Below base w w' := by
  have HO := Lib.hid hO
  have hS := numB_snoc big m v
  have hD := numB_len big m v
  obtain ⟨D, hDD⟩ := named (numB big m v)
  rw [hDD.out] at hS hD ⊢
  have HS := Lib.hid hS
  have HD := Lib.hid hD
  clear hO hS hD hDD
  cases big
  all_goals
    go_enter Tryz.func85, Tryz.ntmps85
    go_wp2
    go_loopw [0, 11] (fun o i wr => ∃ (j : Nat) (a' : Option Addr) (c' : Nat), j ≤ m ∧ i = .int .i64 j ∧ o = .slice a' (n + j) c' ∧ Hid (Own wr base (.slice a' (n + j) c') (n + j) (l ++ D.take j)) ∧ Hid (Below base w wr)) (fun _ i _ => m - (intOf i).toNat)
    case atStart => exact ⟨0, a, c, Nat.zero_le _, rfl, rfl, by rw [List.take_zero, List.append_nil]; exact HO.out, Below.refl _ _⟩
    case round =>
      obtain ⟨j, a', c', hj, rfl, rfl, HOj, HGj⟩ := hrel
      clear HO
      by_cases hlt : j < m
      · obtain ⟨q, hq, hq2⟩ : ∃ q : Nat, (m : Int) - 1 - (j : Int) = (q : Int) ∧ Hid (q = m - 1 - j) := ⟨m - 1 - j, by omega, rfl⟩
        have hq3 : q < m := by have := hq2.out; omega
        have HSj := Lib.hid (HS.out j hlt)
        go_wp2_with (first
          | (go_at_call 72; go_in)
          | (at_builtin; refine append_more rfl (.tmp 14) (.tmp 22) rfl base _ (n + j) _ rfl (HOj.out.alloc _) _ 1 1 [_] rfl (fun e => by cases e) (one_byte _ _ (byteOf_rangeR _ _)) (by omega) (Nat.le_trans hbase (Nat.le_trans HGj.out.size (by simp))) ?_; intro a2 c2 w2 g1 g2; have HO2 := Lib.hid g1; have HG2 : Hid (Below base w w2) := (HGj.out.alloc (Nat.le_trans hbase HGj.out.size) _).trans g2; clear g1 g2))
        go_roundw
        case rel =>
          refine ⟨j + 1, a2, c2, by omega, by go_num, rfl, ?_, HG2.out⟩
          have e := HO2.out
          rw [byteOf_intR] at e
          rw [HSj.out, ← List.append_assoc]
          first | exact e | (rw [hq2.out] at e; exact e)
        case measure => simp [intOf]; omega
      · obtain rfl : j = m := by omega
        have HE : Hid (D.take j = D) := by rw [Hid]; exact List.take_of_length_le (by rw [HD.out]; exact Nat.le_refl _)
        go_wp2
        go_ret
        have e := HOj.out
        rw [HE.out] at e
        exact ⟨a', c', rfl, e, HGj.out⟩
end Go.Proofs.YtdffgnpldapciaaGreatDoor
