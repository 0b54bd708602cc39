/-
  What the project's own disk answers, call by call (package disk): New, Size, Used, Flush, Power. Conditions: the disk as it lies.
-/
import Derived.Test.YtnhaidofblfopaaV5
namespace Go.Proofs.Ytnhaidofblfopaa
open Go.RowKit

theorem Has.open' {w0 w : World} {p : Addr} {D : Dsk} {S : Nat → Prop} (h : Has w0 p D w S) :
    ∃ B room vF L cnt fails dead, p = ⟨B, 0, none⟩ ∧ S = ownS B vF L ∧ DiskIn w B room vF L cnt fails dead ∧ Rel D room L cnt fails dead := by
  obtain ⟨B, room, vF, L, cnt, fails, dead, hp, hd, hr, hS⟩ := h.at'
  exact ⟨B, room, vF, L, cnt, fails, dead, hp, funext fun k => propext (hS k), hd, hr⟩
theorem Has.close' {w0 w w' : World} {B room cnt fails : Nat} {vF vF' : Value} {L L' : List FR} {dead : Bool} {D D' : Dsk} (h : Has w0 ⟨B, 0, none⟩ D w (ownS B vF L)) (hd : DiskIn w' B room vF' L' cnt fails dead) (hr : Rel D' room L' cnt fails dead) (ha : Away (ownS B vF L) w (ownS B vF' L') w') (v : Value) :
    Gives w0 ⟨B, 0, none⟩ D' v (ownS B vF L) w (.returned v) w' :=
  ⟨ownS B vF' L', rfl, h.next ha ⟨B, room, vF', L', cnt, fails, dead, rfl, hd, hr, fun _ => Iff.rfl⟩, ha⟩
theorem mid_of {L : List FR} {f : FR} (h : f ∈ L) : ∃ L1 L2, L = L1 ++ f :: L2 := List.append_of_mem h
theorem diskNew_ok (w0 w : World) (n : Int) (h1 : 1 ≤ n) (h2 : n ≤ 1048576) (hb : Below w0.heap.size w0 w) :
    Calls Try.prog 11 #[.int .i64 n] w fun e w' => ∃ p S', e = .returned (.tuple #[.pointer (some p), .int .i64 0]) ∧ Has w0 p (Dsk.new n.toNat) w' S' ∧ Away (fun _ => False) w S' w' := by
  have HB := Lib.hid hb
  have g1 : ¬ n < 1 := by omega
  have g2 : ¬ 1048576 < n := by omega
  go_enter Try.func11, Try.ntmps11
  go_wp2
  go_ret2
  have hN : ((n.toNat : Nat) : Int) = n := by omega
  have hblk := Blk.new w 59 #[.int .i64 n, .slice none 0 0, .int .u64 0, .int .u64 0, .bool false]
  refine ⟨⟨w.heap.size, 0, none⟩, rfl, ownS w.heap.size (.slice none 0 0) [], ⟨⟨w.heap.size, n.toNat, .slice none 0 0, [], 0, 0, false, rfl, ⟨by rw [hN]; exact hblk, OwnG.none _ _ _ _ _, (fun f hf => by cases hf), List.Pairwise.nil, (fun f hf => by cases hf)⟩,
    ⟨rfl, by omega, rfl, rfl, by omega, by omega, fun _ => Or.inl ⟨rfl, rfl⟩, List.Pairwise.nil, by simp, List.Perm.refl _, (fun f hf => by cases hf), [], rfl, List.Pairwise.nil, fun x hx => (by cases hx), fun f hf => (by cases hf), fun x hx => (by cases hx)⟩, fun _ => Iff.rfl⟩, fun k hk => ?_, HB.out.alloc HB.out.size _⟩, ⟨rfl, rfl, rfl, by rw [World.size_alloc]; omega, fun k hk _ => Below.heap_alloc w _ k hk, fun k hk => ?_⟩⟩
  · rcases hk with rfl | hk | ⟨f, hf, _⟩
    · exact HB.out.size
    · cases hk
    · cases hf
  · rcases hk with rfl | hk | ⟨f, hf, _⟩
    · exact Or.inr (Nat.le_refl _)
    · cases hk
    · cases hf
theorem diskUsed_any {w0 w : World} {p : Addr} {D : Dsk} {S : Nat → Prop} (h : Has w0 p D w S) :
    Calls Try.prog 24 #[.pointer (some p)] w (Gives w0 p D (.int .i64 D.used) S w) := by
  obtain ⟨B, room, vF, L, cnt, fails, dead, rfl, rfl, hd, hr⟩ := h.open'
  refine (used_any hd hr.many).mono ?_
  rintro e w' ⟨rfl, rfl⟩
  have : D.used = sizes L := hr.used
  rw [this]
  exact h.close' hd hr (Away.refl _ _) _
theorem diskSize_any {w0 w : World} {p : Addr} {D : Dsk} {S : Nat → Prop} (h : Has w0 p D w S) (s : Nm) (n : Nat) (E : Int) (he : D.size s = (n, E)) :
    Calls Try.prog 20 #[.pointer (some p), .string s] w (Gives w0 p D (.tuple #[.int .i64 n, .int .i64 E]) S w) := by
  obtain ⟨B, room, vF, L, cnt, fails, dead, rfl, rfl, hd, hr⟩ := h.open'
  have HD := Lib.hid hd
  have HR := Lib.hid hr
  have HH := Lib.hid h
  unfold Dsk.size at he
  clear hd hr h
  cases hg : fget D.files s with
  | none =>
    rw [hg] at he
    cases he
    have HN := Lib.hid (HR.out.none.1 hg)
    clear hg
    go_enter Try.func20, Try.ntmps20
    go_wp2_with (go_at_call 39; refine (find_none HD.out HR.out.rise HR.out.many s HN.out).mono ?_; rintro e w' ⟨rfl, rfl⟩)
    go_ret2
    exact HH.out.close' HD.out HR.out (Away.refl _ _) _
  | some v =>
    rw [hg] at he
    obtain ⟨f, hf, rfl, rfl⟩ := HR.out.there hg
    cases he
    have HF := Lib.hid hf
    clear hg hf
    go_enter Try.func20, Try.ntmps20
    go_wp2_with (first | (go_at_call 39; refine (find_some HD.out HR.out.rise HR.out.many HF.out).mono ?_; rintro e w' ⟨rfl, rfl⟩) | (go_at_call 31; refine (fileIn_size (HD.out.file f HF.out)).mono ?_; rintro e w' ⟨rfl, rfl⟩))
    go_ret2
    exact HH.out.close' HD.out HR.out (Away.refl _ _) _
theorem diskFlush_any {w0 w : World} {p : Addr} {D D' : Dsk} {S : Nat → Prop} (h : Has w0 p D w S) (s : Nm) (E : Int) (he : D.flush s = (E, D')) :
    Calls Try.prog 16 #[.pointer (some p), .string s] w (Gives w0 p D' (.int .i64 E) S w) := by
  obtain ⟨B, room, vF, L, cnt, fails, dead, rfl, rfl, hd, hr⟩ := h.open'
  unfold Dsk.flush at he
  have HD := Lib.hid hd
  have HR := Lib.hid hr
  have HH := Lib.hid h
  clear hd hr h
  cases dead with
  | true =>
    rw [if_pos (show D.dead = true from HR.out.deadEq)] at he
    cases he
    go_enter Try.func16, Try.ntmps16
    go_wp2_with (go_at_call 30; refine (open_dead HD.out s).mono ?_; rintro e w' ⟨rfl, rfl⟩)
    go_ret
    exact HH.out.close' HD.out HR.out (Away.refl _ _) _
  | false =>
    rw [if_neg (by rw [HR.out.deadEq]; simp)] at he
    cases hg : fget D.files s with
    | none =>
      rw [hg] at he
      cases he
      have HN := Lib.hid (HR.out.none.1 hg)
      clear hg
      go_enter Try.func16, Try.ntmps16
      go_wp2_with (go_at_call 30; refine (open_none HD.out HR.out.rise HR.out.many s HN.out).mono ?_; rintro e w' ⟨rfl, rfl⟩)
      go_ret
      exact HH.out.close' HD.out HR.out (Away.refl _ _) _
    | some v =>
      rw [hg] at he
      obtain ⟨f, hf, rfl, rfl⟩ := HR.out.there hg
      cases he
      obtain ⟨L1, L2, rfl⟩ := mid_of hf
      have HF := Lib.hid hf
      have hcov := HR.out.cov f hf
      have HC := Lib.hid hcov.le
      have HPE := Lib.hid hcov.flush
      clear hg hf hcov
      go_enter Try.func16, Try.ntmps16
      go_wp2_with (first | (go_at_call 30; refine (open_some HD.out HR.out.rise HR.out.many HF.out).mono ?_; rintro e w' ⟨rfl, rfl⟩) | (go_at_call 33; refine (flush_any (HD.out.file f HF.out) HC.out).mono ?_; rintro e w2 ⟨rfl, S2, hF2, hA2⟩))
      go_ret
      rw [HPE.out] at hF2
      obtain ⟨q1, q2⟩ := disk_step (f' := ⟨f.name, f.G, S2, f.now, f.now, []⟩) HD.out hA2 hF2 rfl
      exact HH.out.close' q1 (HR.out.flush rfl rfl rfl rfl) q2 _
theorem diskPower_any {w0 w : World} {p : Addr} {D : Dsk} {S : Nat → Prop} (h : Has w0 p D w S) (n : Int) (h1 : -9223372036854775808 ≤ n ∧ n ≤ 9223372036854775807) :
    Calls Try.prog 17 #[.pointer (some p), .int .i64 n] w (Gives w0 p (D.power n) (.tuple #[]) S w) := by
  obtain ⟨B, room, vF, L, cnt, fails, dead, rfl, rfl, hd, hr⟩ := h.open'
  have HD := Lib.hid hd
  have HR := Lib.hid hr
  have HH := Lib.hid h
  have c3 := hd.c3
  have f3 := hd.blk.free 3
  have hcb := hr.cntB
  have HD1 := Lib.hid (hd.reblk 3 (.int .u64 0) cnt 0 dead rfl)
  have k3 : (w.setCell ⟨B, 3, none⟩ (.int .u64 0)).cell? ⟨B, 3, none⟩ = some (.int .u64 0) := HD1.out.c3
  have k2 : (w.setCell ⟨B, 3, none⟩ (.int .u64 0)).cell? ⟨B, 2, none⟩ = some (.int .u64 cnt) := HD1.out.c2
  have kf := HD1.out.blk.free 3
  clear hd hr h
  by_cases hn : 1 ≤ n
  · obtain ⟨m, rfl⟩ : ∃ m : Nat, n = (m : Int) := ⟨n.toNat, by omega⟩
    have e1 : IntKind.u64.wrap (m : Int) = m := by simp [IntKind.wrap, IntKind.bits, IntKind.signed]; omega
    have e2 : IntKind.u64.wrap ((cnt : Int) + (m : Int)) = (cnt : Int) + (m : Int) := by simp [IntKind.wrap, IntKind.bits, IntKind.signed]; omega
    go_enter Try.func17, Try.ntmps17
    go_wp2_with (go_at_call 34; refine (load_any _ B _ k2).mono ?_; rintro e w' ⟨rfl, rfl⟩)
    go_end0
    have hd2 := HD1.out.reblk 3 (.int .u64 ((cnt : Int) + (m : Int))) cnt (cnt + m) dead rfl
    refine HH.out.close' (D' := D.power m) hd2 ⟨HR.out.roomEq, HR.out.roomB, HR.out.deadEq, HR.out.cntEq, HR.out.cntB, by omega, fun _ => Or.inr ?_, HR.out.rise, HR.out.many, HR.out.perm, HR.out.cov, HR.out.pend⟩ (((Away.refl _ _).set (ownS_B _ _ _) 3 _).set (ownS_B _ _ _) 3 _) _
    show 0 < (m : Int).toNat ∧ cnt + m = cnt + (m : Int).toNat
    omega
  · go_enter Try.func17, Try.ntmps17
    go_wp2
    go_end0
    refine HH.out.close' (D' := D.power n) HD1.out ⟨HR.out.roomEq, HR.out.roomB, HR.out.deadEq, HR.out.cntEq, HR.out.cntB, by omega, fun _ => Or.inl ⟨rfl, ?_⟩, HR.out.rise, HR.out.many, HR.out.perm, HR.out.cov, HR.out.pend⟩ ((Away.refl _ _).set (ownS_B _ _ _) 3 _) _
    show n.toNat = 0
    omega
end Go.Proofs.Ytnhaidofblfopaa
