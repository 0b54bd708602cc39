/-
  A slot that came in as an argument; that the document's example holds ('awake' of layer 6). Conditions: none.
-/
import Derived.Test.YtpjlnanalielmaaL7
import Derived.Lib.SmallJoins
import Derived.Deep.SlicePairs
namespace Go.Proofs.Ytpjlnanalielmaa
open Go.RowKit Go.ChangeShapes Go.WideShapes Go.Deep Go.Joins
set_option linter.unusedVariables false

theorem slot_open {H : Type} {enc : TypeId × Value → H} {W : World} {r : Reach} {b0 base : Nat} {spare : Nat → Bool} {held : Bool} {v : Value} {d : DataW H} {p : List MemPlace} (hv : Value.okWide Try.prog W r b0 24 v) (h : DataW.Trod enc Try.prog W base spare held 24 v d p) :
    ∃ q s c m, v = .agg #[.int .i64 q, .int .i64 s, .int .i64 c, .int .u32 m] ∧ SlOk (q, s, c, m) := by
  obtain ⟨v0, v1, v2, v3, y0, y1, y2, y3, n, rfl, _, _, h0, h1, h2, h3⟩ := open_agg4 Try.underlying24 (by kernel_rfl) (by kernel_rfl) hv h
  obtain ⟨q, e0, _, w0⟩ := DataW.trod_int Try.underlying3 h0
  obtain ⟨s, e1, _, w1⟩ := DataW.trod_int Try.underlying3 h1
  obtain ⟨c, e2, _, w2⟩ := DataW.trod_int Try.underlying3 h2
  obtain ⟨m, e3, _, w3⟩ := DataW.trod_int Try.underlying22 h3
  obtain rfl : v0 = .int .i64 q := by simpa using e0
  obtain rfl : v1 = .int .i64 s := by simpa using e1
  obtain rfl : v2 = .int .i64 c := by simpa using e2
  obtain rfl : v3 = .int .u32 m := by simpa using e3
  have b0 := bounds_i64 w0
  have b1 := bounds_i64 w1
  have b2 := bounds_i64 w2
  have b3 := bounds_u32 w3
  refine ⟨q, s, c, m, rfl, ?_⟩
  unfold SlOk In64
  dsimp only
  omega
theorem num_any7 (n : Int) (w : World) : Calls Try.prog 11 #[.int .i64 n] w fun e w' => e = .returned (.int .i64 n) ∧ w = w' := by
  go_enter Try.func11, Try.ntmps11
  go_wp2
  go_ret
  exact ⟨rfl, rfl⟩
theorem may1 : May (1, 2, 3, 4) := by unfold May; decide
theorem ok1 : SlOk (1, 2, 3, 4) := by unfold SlOk In64; dsimp only; omega
theorem get_noughts : getS (noughts 16) = none := by decide
theorem ord_one : ordS (getS (noughts 16)) (getS (slB (1, 2, 3, 4))) = [(1, 2, 3, 4)] := by rw [get_noughts, getS_slB may1 ok1]; rfl
theorem OwnG.lies1 {α : Type} {cv : α → List Value} {e : TypeId} {sz base n : Nat} {w : World} {v : Value} {l : List α} (h : OwnG cv e sz w base v n l) (h0 : 0 < n) : ∃ g c, v = .slice (some ⟨g, 0, Option.none⟩) n c := by
  rcases h.1.2 with ⟨_, h⟩ | ⟨g, cap, cur, hv, _⟩
  · have : n = 0 := h
    omega
  · exact ⟨g, cap, hv⟩
set_option maxHeartbeats 1600000 in
set_option maxRecDepth 100000 in
theorem awake_any7 (w : World) : Calls Try.prog 12 #[] w fun e w' => e = .returned (.bool true) ∧ Below w.heap.size w w' := by
  have h1 : ∀ w, Calls Try.prog 9 #[.agg #[.int .i64 1, .int .i64 2, .int .i64 3, .int .u32 4]] w (PutPost w (slB (1, 2, 3, 4)) 0) := fun w => slotPut_ok may1 ok1 w
  have hln := slB_len (1, 2, 3, 4)
  have ho := ord_one
  obtain ⟨D, hD⟩ := named (slB (1, 2, 3, 4))
  rw [hD.out] at h1 hln ho
  have HP := Lib.hid h1
  have HLN := Lib.hid hln
  have HORD : Hid (∀ (a1 a2 : Option Addr) (c1 c2 : Nat) (w : World), Bytes w a1 16 (noughts 16) → 16 ≤ c1 → Bytes w a2 16 D → 16 ≤ c2 → Calls Try.prog 16 #[.slice a1 16 c1, .slice a2 16 c2] w fun e w' => ∃ v, e = .returned v ∧ OwnG slV 24 4 w' w.heap.size v 1 [(1, 2, 3, 4)] ∧ Below w.heap.size w w') := fun a1 a2 c1 c2 w g1 g2 g3 g4 =>
    (order_any7 w a1 a2 16 c1 16 c2 _ _ g1 g2 g3 g4).mono fun e w' ⟨v, n, k1, k2, k3⟩ => by
      rw [ho] at k2
      obtain rfl : n = 1 := k2.2.1.symm
      exact ⟨v, k1, k2, k3⟩
  have HN := Lib.hid (fun w => num_any7 0 w)
  have HX0 := Lib.hid (Blk.new w 24 #[.int .i64 1, .int .i64 2, .int .i64 3, .int .u32 4])
  have HG0 : Hid (Below w.heap.size w (w.alloc (.cells #[.int .i64 1, .int .i64 2, .int .i64 3, .int .u32 4] 24))) := (Below.refl _ _).alloc (Nat.le_refl _) _
  clear h1 hln ho hD
  go_enter Try.func12, Try.ntmps12
  go_wp2_with (first
    | (go_at_call 9; (with_reducible refine (HP.out _).mono ?_); rintro e w1 hp; obtain ⟨a1, c1, rfl, g1, g2, g⟩ := hp.sized HLN.out; have HX1 := Lib.hid (HX0.out.later g); have HB1 := Lib.hid g1; have HC1 := Lib.hid g2.2; have HG1 := Lib.hid (HG0.out.trans (g.mono HG0.out.size)); clear hp g1 g2 g)
    | (at_make; refine make_bytes rfl _ _ rfl w1.heap.size 16 rfl rfl (by omega) (Nat.le_refl _) ?_; intro w2 h1 h2; have HO := Lib.hid h1.bytes.1; have HX2 := Lib.hid (HX1.out.later h2); have HB2 := Lib.hid (HB1.out.later h2); have HG2 := Lib.hid (HG1.out.trans (h2.mono HG1.out.size)); clear h1 h2)
    | (go_at_call 16; refine (HORD.out _ _ _ _ _ HO.out (Nat.le_refl _) HB2.out HC1.out).mono ?_; rintro e w3 ⟨v, rfl, g1, g2⟩; have HX3 := Lib.hid (HX2.out.later g2); have HW3 := Lib.hid g1; have HG3 := Lib.hid (HG2.out.trans (g2.mono HG2.out.size)); clear g1 g2))
  obtain ⟨g, cv, rfl⟩ := HW3.out.lies1 (by omega)
  have hrd : Reads slV w3 (some ⟨g, 0, none⟩) 1 [(1, 2, 3, 4)] := (HW3.out.reads sl_rowed).1
  have k0 := slot_cells hrd 0 1 2 3 4 rfl
  have k1 := cells4 HX3.out
  have HS : Hid (w3.drew.cell? ⟨g, 0, none⟩ = some (.int .i64 1) ∧ w3.drew.cell? ⟨g, 1, none⟩ = some (.int .i64 2) ∧ w3.drew.cell? ⟨g, 2, none⟩ = some (.int .i64 3) ∧ w3.drew.cell? ⟨g, 3, none⟩ = some (.int .u32 4) ∧ w3.drew.cell? ⟨w.heap.size, 0, none⟩ = some (.int .i64 1) ∧ w3.drew.cell? ⟨w.heap.size, 1, none⟩ = some (.int .i64 2) ∧ w3.drew.cell? ⟨w.heap.size, 2, none⟩ = some (.int .i64 3) ∧ w3.drew.cell? ⟨w.heap.size, 3, none⟩ = some (.int .u32 4)) := ⟨k0.1, k0.2.1, k0.2.2.1, k0.2.2.2, k1.1, k1.2.1, k1.2.2.1, k1.2.2.2⟩
  clear k0 k1 hrd
  refine wp_region_held_drew (S := fun w' => w'.cell? ⟨g, 0, none⟩ = some (.int .i64 1) ∧ w'.cell? ⟨g, 1, none⟩ = some (.int .i64 2) ∧ w'.cell? ⟨g, 2, none⟩ = some (.int .i64 3) ∧ w'.cell? ⟨g, 3, none⟩ = some (.int .u32 4) ∧ w'.cell? ⟨w.heap.size, 0, none⟩ = some (.int .i64 1) ∧ w'.cell? ⟨w.heap.size, 1, none⟩ = some (.int .i64 2) ∧ w'.cell? ⟨w.heap.size, 2, none⟩ = some (.int .i64 3) ∧ w'.cell? ⟨w.heap.size, 3, none⟩ = some (.int .u32 4)) (by kernel_rfl) (by exact HS.out) (fun hHeld => ?_)
  refine wpAnyH_take (i := 0) (oi := _) (v := ?vw0) rfl (by kernel_rfl) (by kernel_rfl) (by kernel_rfl) (fun _ _ _ h => h) (Or.inl ⟨by rfl, ?hyw0⟩) (by assumption) ?restw0
  case hyw0 => (intro wz hSw; obtain ⟨s0, s1, s2, s3, s4, s5, s6, s7⟩ := hSw; go_simp; try with_reducible rfl)
  (try simp only [List.getElem_toArray, List.getElem_cons_zero, Act.put, List.setIfInBounds_toArray, List.set_cons_zero, List.set_cons_succ])
  refine wpAnyH_ready (rs := [1]) (by kernel_rfl) (by simp) ?_
  refine AllReadyH.cons (o := _) rfl (fun K hK => ?_) AllReadyH.nil
  rw [if_pos (by rfl)]
  go_simp
  (go_at_call 11; (with_reducible refine (HN.out _).mono ?_); rintro e wn ⟨rfl, rfl⟩)
  dsimp only
  refine hK.out _ _ (by exact HS.out) (fun hHeld => ?_)
  clear hK K
  (try simp only [List.getElem_toArray, List.getElem_cons_zero, List.getElem_cons_succ, Act.put, List.setIfInBounds_toArray, List.set_cons_zero, List.set_cons_succ])
  refine wpAnyH_take (i := 2) (oi := _) (v := ?vw2) rfl (by kernel_rfl) (by kernel_rfl) (by kernel_rfl) (fun _ _ _ h => h) (Or.inl ⟨by rfl, ?hyw2⟩) (by assumption) ?restw2
  case hyw2 => (intro wz hSw; obtain ⟨s0, s1, s2, s3, s4, s5, s6, s7⟩ := hSw; go_simp; try with_reducible rfl)
  (try simp only [List.getElem_toArray, List.getElem_cons_zero, List.getElem_cons_succ, Act.put, List.setIfInBounds_toArray, List.set_cons_zero, List.set_cons_succ])
  refine wpAnyH_take (i := 3) (oi := _) (v := ?vw3) rfl (by kernel_rfl) (by kernel_rfl) (by kernel_rfl) (fun _ _ _ h => h) (Or.inl ⟨by rfl, ?hyw3⟩) (by assumption) ?restw3
  case hyw3 => (intro wz hSw; obtain ⟨s0, s1, s2, s3, s4, s5, s6, s7⟩ := hSw; go_simp; try with_reducible rfl)
  (try simp only [List.getElem_toArray, List.getElem_cons_zero, List.getElem_cons_succ, Act.put, List.setIfInBounds_toArray, List.set_cons_zero, List.set_cons_succ])
  refine wpAnyH_take (i := 4) (oi := _) (v := ?vw4) rfl (by kernel_rfl) (by kernel_rfl) (by kernel_rfl) (fun _ _ _ h => h) (Or.inl ⟨by rfl, ?hyw4⟩) (by assumption) ?restw4
  case hyw4 => (intro wz hSw; obtain ⟨s0, s1, s2, s3, s4, s5, s6, s7⟩ := hSw; go_simp; try with_reducible rfl)
  (try simp only [List.getElem_toArray, List.getElem_cons_zero, List.getElem_cons_succ, Act.put, List.setIfInBounds_toArray, List.set_cons_zero, List.set_cons_succ])
  refine wpAnyH_take (i := 5) (oi := _) (v := ?vw5) rfl (by kernel_rfl) (by kernel_rfl) (by kernel_rfl) (fun _ _ _ h => h) (Or.inl ⟨by rfl, ?hyw5⟩) (by assumption) ?restw5
  case hyw5 => (intro wz hSw; obtain ⟨s0, s1, s2, s3, s4, s5, s6, s7⟩ := hSw; go_simp; try with_reducible rfl)
  (try simp only [List.getElem_toArray, List.getElem_cons_zero, List.getElem_cons_succ, Act.put, List.setIfInBounds_toArray, List.set_cons_zero, List.set_cons_succ])
  refine wpAnyH_take (i := 6) (oi := _) (v := ?vw6) rfl (by kernel_rfl) (by kernel_rfl) (by kernel_rfl) (fun _ _ _ h => h) (Or.inl ⟨by rfl, ?hyw6⟩) (by assumption) ?restw6
  case hyw6 => (intro wz hSw; obtain ⟨s0, s1, s2, s3, s4, s5, s6, s7⟩ := hSw; go_simp; try with_reducible rfl)
  (try simp only [List.getElem_toArray, List.getElem_cons_zero, List.getElem_cons_succ, Act.put, List.setIfInBounds_toArray, List.set_cons_zero, List.set_cons_succ])
  refine wpAnyH_take (i := 7) (oi := _) (v := ?vw7) rfl (by kernel_rfl) (by kernel_rfl) (by kernel_rfl) (fun _ _ _ h => h) (Or.inl ⟨by rfl, ?hyw7⟩) (by assumption) ?restw7
  case hyw7 => (intro wz hSw; obtain ⟨s0, s1, s2, s3, s4, s5, s6, s7⟩ := hSw; go_simp; try with_reducible rfl)
  (try simp only [List.getElem_toArray, List.getElem_cons_zero, List.getElem_cons_succ, Act.put, List.setIfInBounds_toArray, List.set_cons_zero, List.set_cons_succ])
  refine wpAnyH_take (i := 8) (oi := _) (v := ?vw8) rfl (by kernel_rfl) (by kernel_rfl) (by kernel_rfl) (fun _ _ _ h => h) (Or.inl ⟨by rfl, ?hyw8⟩) (by assumption) ?restw8
  case hyw8 => (intro wz hSw; obtain ⟨s0, s1, s2, s3, s4, s5, s6, s7⟩ := hSw; go_simp; try with_reducible rfl)
  (try simp only [List.getElem_toArray, List.getElem_cons_zero, List.getElem_cons_succ, Act.put, List.setIfInBounds_toArray, List.set_cons_zero, List.set_cons_succ])
  refine wpAnyH_take (i := 9) (oi := _) (v := ?vw9) rfl (by kernel_rfl) (by kernel_rfl) (by kernel_rfl) (fun _ _ _ h => h) (Or.inl ⟨by rfl, ?hyw9⟩) (by assumption) ?restw9
  case hyw9 => (intro wz hSw; obtain ⟨s0, s1, s2, s3, s4, s5, s6, s7⟩ := hSw; go_simp; try with_reducible rfl)
  (try simp only [List.getElem_toArray, List.getElem_cons_zero, List.getElem_cons_succ, Act.put, List.setIfInBounds_toArray, List.set_cons_zero, List.set_cons_succ])
  refine wpAnyH_take (i := 10) (oi := _) (v := ?vw10) rfl (by kernel_rfl) (by kernel_rfl) (by kernel_rfl) (fun _ _ _ h => h) (Or.inl ⟨by rfl, ?hyw10⟩) (by assumption) ?restw10
  case hyw10 => (intro wz hSw; obtain ⟨s0, s1, s2, s3, s4, s5, s6, s7⟩ := hSw; go_simp; try with_reducible rfl)
  (try simp only [List.getElem_toArray, List.getElem_cons_zero, List.getElem_cons_succ, Act.put, List.setIfInBounds_toArray, List.set_cons_zero, List.set_cons_succ])
  refine wpAnyH_take (i := 11) (oi := _) (v := ?vw11) rfl (by kernel_rfl) (by kernel_rfl) (by kernel_rfl) (fun _ _ _ h => h) (Or.inl ⟨by rfl, ?hyw11⟩) (by assumption) ?restw11
  case hyw11 => (intro wz hSw; obtain ⟨s0, s1, s2, s3, s4, s5, s6, s7⟩ := hSw; go_simp; try with_reducible rfl)
  (try simp only [List.getElem_toArray, List.getElem_cons_zero, List.getElem_cons_succ, Act.put, List.setIfInBounds_toArray, List.set_cons_zero, List.set_cons_succ])
  refine wpAnyH_take (i := 12) (oi := _) (v := ?vw12) rfl (by kernel_rfl) (by kernel_rfl) (by kernel_rfl) (fun _ _ _ h => h) (Or.inl ⟨by rfl, ?hyw12⟩) (by assumption) ?restw12
  case hyw12 => (intro wz hSw; obtain ⟨s0, s1, s2, s3, s4, s5, s6, s7⟩ := hSw; go_simp; try with_reducible rfl)
  (try simp only [List.getElem_toArray, List.getElem_cons_zero, List.getElem_cons_succ, Act.put, List.setIfInBounds_toArray, List.set_cons_zero, List.set_cons_succ])
  refine wpAnyH_take (i := 13) (oi := _) (v := ?vw13) rfl (by kernel_rfl) (by kernel_rfl) (by kernel_rfl) (fun _ _ _ h => h) (Or.inl ⟨by rfl, ?hyw13⟩) (by assumption) ?restw13
  case hyw13 => (intro wz hSw; obtain ⟨s0, s1, s2, s3, s4, s5, s6, s7⟩ := hSw; go_simp; try with_reducible rfl)
  (try simp only [List.getElem_toArray, List.getElem_cons_zero, List.getElem_cons_succ, Act.put, List.setIfInBounds_toArray, List.set_cons_zero, List.set_cons_succ])
  refine wpAnyH_take (i := 14) (oi := _) (v := ?vw14) rfl (by kernel_rfl) (by kernel_rfl) (by kernel_rfl) (fun _ _ _ h => h) (Or.inl ⟨by rfl, ?hyw14⟩) (by assumption) ?restw14
  case hyw14 => (intro wz hSw; obtain ⟨s0, s1, s2, s3, s4, s5, s6, s7⟩ := hSw; go_simp; try with_reducible rfl)
  (try simp only [List.getElem_toArray, List.getElem_cons_zero, List.getElem_cons_succ, Act.put, List.setIfInBounds_toArray, List.set_cons_zero, List.set_cons_succ])
  refine wpAnyH_take (i := 15) (oi := _) (v := ?vw15) rfl (by kernel_rfl) (by kernel_rfl) (by kernel_rfl) (fun _ _ _ h => h) (Or.inl ⟨by rfl, ?hyw15⟩) (by assumption) ?restw15
  case hyw15 => (intro wz hSw; obtain ⟨s0, s1, s2, s3, s4, s5, s6, s7⟩ := hSw; go_simp; try with_reducible rfl)
  (try simp only [List.getElem_toArray, List.getElem_cons_zero, List.getElem_cons_succ, Act.put, List.setIfInBounds_toArray, List.set_cons_zero, List.set_cons_succ])
  refine wpAnyH_take (i := 16) (oi := _) (v := ?vw16) rfl (by kernel_rfl) (by kernel_rfl) (by kernel_rfl) (fun _ _ _ h => h) (Or.inl ⟨by rfl, ?hyw16⟩) (by assumption) ?restw16
  case hyw16 => (intro wz hSw; obtain ⟨s0, s1, s2, s3, s4, s5, s6, s7⟩ := hSw; go_simp; try with_reducible rfl)
  (try simp only [List.getElem_toArray, List.getElem_cons_zero, List.getElem_cons_succ, Act.put, List.setIfInBounds_toArray, List.set_cons_zero, List.set_cons_succ])
  refine wpAnyH_take (i := 17) (oi := _) (v := ?vw17) rfl (by kernel_rfl) (by kernel_rfl) (by kernel_rfl) (fun _ _ _ h => h) (Or.inl ⟨by rfl, ?hyw17⟩) (by assumption) ?restw17
  case hyw17 => (intro wz hSw; obtain ⟨s0, s1, s2, s3, s4, s5, s6, s7⟩ := hSw; go_simp; try with_reducible rfl)
  (try simp only [List.getElem_toArray, List.getElem_cons_zero, List.getElem_cons_succ, Act.put, List.setIfInBounds_toArray, List.set_cons_zero, List.set_cons_succ])
  refine wpAnyH_take (i := 18) (oi := _) (v := ?vw18) rfl (by kernel_rfl) (by kernel_rfl) (by kernel_rfl) (fun _ _ _ h => h) (Or.inl ⟨by rfl, ?hyw18⟩) (by assumption) ?restw18
  case hyw18 => (intro wz hSw; obtain ⟨s0, s1, s2, s3, s4, s5, s6, s7⟩ := hSw; go_simp; try with_reducible rfl)
  (try simp only [List.getElem_toArray, List.getElem_cons_zero, List.getElem_cons_succ, Act.put, List.setIfInBounds_toArray, List.set_cons_zero, List.set_cons_succ])
  refine wpAnyH_take (i := 19) (oi := _) (v := ?vw19) rfl (by kernel_rfl) (by kernel_rfl) (by kernel_rfl) (fun _ _ _ h => h) (Or.inl ⟨by rfl, ?hyw19⟩) (by assumption) ?restw19
  case hyw19 => (intro wz hSw; obtain ⟨s0, s1, s2, s3, s4, s5, s6, s7⟩ := hSw; go_simp; try with_reducible rfl)
  (try simp only [List.getElem_toArray, List.getElem_cons_zero, List.getElem_cons_succ, Act.put, List.setIfInBounds_toArray, List.set_cons_zero, List.set_cons_succ])
  refine wpAnyH_take (i := 20) (oi := _) (v := ?vw20) rfl (by kernel_rfl) (by kernel_rfl) (by kernel_rfl) (fun _ _ _ h => h) (Or.inl ⟨by rfl, ?hyw20⟩) (by assumption) ?restw20
  case hyw20 => (intro wz hSw; obtain ⟨s0, s1, s2, s3, s4, s5, s6, s7⟩ := hSw; go_simp; try with_reducible rfl)
  (try simp only [List.getElem_toArray, List.getElem_cons_zero, List.getElem_cons_succ, Act.put, List.setIfInBounds_toArray, List.set_cons_zero])
  refine wpAnyH_done (by kernel_rfl) ?_ _
  go_wp2
  go_ret
  exact ⟨rfl, HG3.out.drew⟩
end Go.Proofs.Ytpjlnanalielmaa
