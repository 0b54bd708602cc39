/-
  What the reference's Touch and Size answer (layers 12, 13). Conditions: the bitmaps read, short sets.
-/
import Derived.Test.YtjaaieamlgghhaaSt
namespace Go.Proofs.Ytjaaieamlgghhaa
open Go.RowKit
set_option linter.unusedVariables false

def touchF (sp : Sp) (b : BmM) : BmM := (b.1, b.2.1, if b.2.1 then addL b.2.2 sp else b.2.2)
def sizeF (was now : Int) (b : BmM) : BmM := (b.1, b.2.1, if b.2.1 = true ∧ was < now then addL (subL b.2.2 (now, 1073741824)) (was, now) else subL b.2.2 (now, 1073741824))
/-- Bitmaps of one's own, those ahead of a place and those from it on. -/
structure Rw (w0 : World) (a : Option Addr) (n c : Nat) (pre post : List Bm) (W : World) : Prop where
  row : OwnG bmV 53 3 W w0.heap.size (.slice a n c) n (pre ++ post)
  sps : ∀ d ∈ pre ++ post, SpN W w0.heap.size d.2.2.1 d.2.2.2.1 d.2.2.2.2.1 (bmL d)
  dat : Below w0.heap.size w0 W
section
variable {w0 W W' : World} {a : Option Addr} {n c : Nat} {pre post : List Bm}
theorem Rw.later (h : Rw w0 a n c pre post W) (hb : Below W.heap.size W W') : Rw w0 a n c pre post W' :=
  have k := KeepL.later L6 hb
  ⟨h.row.keep (L := L6) (by decide) k, fun d hd => (h.sps d hd).keep (L := L6) (by decide) k, h.dat.trans (hb.mono h.dat.size)⟩
theorem Rw.shift {d : Bm} (h : Rw w0 a n c pre (d :: post) W) : Rw w0 a n c (pre ++ [d]) post W := by
  have e : pre ++ [d] ++ post = pre ++ d :: post := by simp
  exact ⟨by rw [e]; exact h.row, by rw [e]; exact h.sps, h.dat⟩
theorem Rw.put {nm : ByteArray} {on : Bool} {al : Option Addr} {ll cl : Nat} {l : List Sp} {j g : Nat} (h : Rw w0 a n c pre ((nm, on, al, ll, cl, l) :: post) W) (hj : pre.length = j) (ha : a = some ⟨g, 0, none⟩) {al' : Option Addr} {ll' cl' : Nat} {l' : List Sp} (hs : SpN W w0.heap.size al' ll' cl' l') :
    Rw w0 a n c pre ((nm, on, al', ll', cl', l') :: post) (W.setCell ⟨g, j * 3 + 2, none⟩ (.slice al' ll' cl')) := by
  subst ha
  have hd : (pre ++ (nm, on, al, ll, cl, l) :: post)[j]? = some (nm, on, al, ll, cl, l) := by rw [List.getElem?_append_right (by omega), hj, Nat.sub_self]; rfl
  obtain ⟨q1, q2⟩ := own_setK bm_rowed h.row j 2 _ (nm, on, al', ll', cl', l') hd (.slice al' ll' cl') (by omega) rfl
  have e : (pre ++ (nm, on, al, ll, cl, l) :: post).set j (nm, on, al', ll', cl', l') = pre ++ (nm, on, al', ll', cl', l') :: post := by
    rw [List.set_append_right _ _ (by omega), hj, Nat.sub_self]
    rfl
  rw [e] at q1
  have k : KeepL L5b W _ := OwnG.keepL (L := L5b) h.row (by decide) q2
  refine ⟨q1, fun d hd' => ?_, belowRow h.dat q2 (h.row.1.lt g rfl).1 h.dat.size⟩
  rcases List.mem_append.1 hd' with hd' | hd'
  · exact (h.sps d (List.mem_append_left _ hd')).keep (L := L5b) (by decide) k
  · rcases List.mem_cons.1 hd' with rfl | hd'
    · exact hs.keep (L := L5b) (by decide) k
    · exact (h.sps d (by simp [hd'])).keep (L := L5b) (by decide) k
/-- The bitmap at the place. -/
theorem Rw.at {d : Bm} {j : Nat} (h : Rw w0 a n c pre (d :: post) W) (hj : pre.length = j) : j < n ∧ ∃ g, a = some ⟨g, 0, none⟩ ∧ w0.heap.size ≤ g ∧ g < W.heap.size ∧ W.cell? ⟨g, j * 3, none⟩ = some (.string d.1) ∧ W.cell? ⟨g, j * 3 + 1, none⟩ = some (.bool d.2.1) ∧ W.cell? ⟨g, j * 3 + 2, none⟩ = some (.slice d.2.2.1 d.2.2.2.1 d.2.2.2.2.1) ∧ W.frozen? ⟨g, j * 3 + 2, none⟩ = false := by
  have hl := h.row.2.1
  have hjn : j < n := by rw [← hl, List.length_append, List.length_cons]; omega
  obtain ⟨g, d', rfl, h1, h2, hd, ⟨x0, x1, x2⟩, hf, _⟩ := own3_at bm_rowed h.row j hjn
  rw [List.getElem?_append_right (by omega), hj, Nat.sub_self] at hd
  cases hd
  exact ⟨hjn, g, rfl, h1, h2, x0, x1, x2, hf _⟩
end
set_option maxRecDepth 100000 in
set_option maxHeartbeats 3200000 in
theorem refTouch (w : World) (ma : Option Addr) (mn mc : Nat) (B : List BmM) (h : BmsD w ma mn mc B) (hl : ∀ b ∈ B, b.2.2.length ≤ 30000) (sf st : Int) : Calls Try.prog 31 #[.slice ma mn mc, .agg #[.int .i64 sf, .int .i64 st]] w fun e w' => ∃ (a : Option Addr) (c : Nat), e = .returned (.slice a mn c) ∧ BmsN w' w.heap.size a mn c (B.map (touchF (sf, st))) ∧ Below w.heap.size w w' := by
  have HCM := Lib.hid (fun W (hb : Below w.heap.size w W) => refCopyMaps W ma mn mc B (h.later hb))
  have HB : Hid (Below w.heap.size w (w.alloc (.cells #[.int .i64 sf, .int .i64 st] 50))) := (Below.refl _ _).alloc (Nat.le_refl _) _
  have HX : Hid (Blk (w.alloc (.cells #[.int .i64 sf, .int .i64 st] 50)) w.heap.size 50 #[.int .i64 sf, .int .i64 st]) := Blk.new _ _ _
  have HLL := Lib.hid hl
  clear h hl
  go_enter Try.func31, Try.ntmps31
  go_wp2_with (go_at_call 56; refine (HCM.out _ HB.out).mono ?_; rintro e w1 ⟨a1, c1, rfl, hB, hb⟩; have HB1 := Lib.hid hB; have HW1 := Lib.hid (HB.out.trans (hb.mono HB.out.size)); have HX1 := Lib.hid (HX.out.later hb); clear hB hb)
  have HLB : Hid (∀ (b : BmM), b ∈ B → b.2.2.length ≤ 30000) := HLL.out
  have HBL : Hid (B.length = mn) := by
    obtain ⟨ds, k1, k2, k3, _⟩ := HB1.out
    have := k1.2.1
    rw [← k3, List.length_map]
    exact this
  have HNM : Hid (∀ d ∈ B, d.1.size ≤ 9223372036854775807) := by
    obtain ⟨ds, k1, k2, k3, k4, k5⟩ := HB1.out
    exact k5
  have hmn : mn ≤ 1000 := by
    obtain ⟨ds, k1, k2, k3, k4, k5⟩ := HB1.out
    exact k4
  go_loopw [6] (fun i wr => ∃ (j : Nat) (pre post : List Bm), j ≤ mn ∧ i = .int .i64 j ∧ Hid (pre.length = j ∧ pre.map bmM = (B.map (touchF (sf, st))).take j ∧ post.map bmM = B.drop j) ∧ Hid (Rw w a1 mn c1 pre post wr) ∧ Hid (Blk wr w.heap.size 50 #[.int .i64 sf, .int .i64 st])) (fun i _ => mn - (intOf i).toNat)
  case atStart =>
    obtain ⟨ds, k1, k2, k3, k4, k5⟩ := HB1.out
    have hsz := HB.out.size
    exact ⟨0, [], ds, Nat.zero_le _, rfl, ⟨rfl, rfl, k3⟩, ⟨k1.monoB hsz, fun d hd => (k2 d hd).mono hsz, HW1.out⟩, HX1.out⟩
  case round =>
    obtain ⟨j, pre, post, hj, rfl, HM, HR, HXr⟩ := hrel
    by_cases hlt : j < mn
    · cases post with
      | nil =>
        have := congrArg List.length HM.out.2.2
        rw [List.length_drop, HBL.out] at this
        simp at this
        omega
      | cons d post =>
        obtain ⟨nm, on, al, ll, cl, l⟩ := d
        obtain ⟨_, g, rfl, hg1, hg2, x0, x1, x2, xf⟩ := HR.out.at HM.out.1
        dsimp only at x0 x1 x2
        have hBj : B[j]? = some (nm, on, l) ∧ post.map bmM = B.drop (j + 1) := by
          have e := HM.out.2.2
          have hjB : j < B.length := by rw [HBL.out]; exact hlt
          rw [List.drop_eq_getElem_cons hjB] at e
          simp only [List.map_cons, List.cons.injEq] at e
          exact ⟨by rw [List.getElem?_eq_getElem hjB, ← e.1]; rfl, e.2⟩
        have HTK : Hid (∀ al' ll' cl' l', (nm, on, l') = touchF (sf, st) (nm, on, l) → (pre ++ [(nm, on, al', ll', cl', l')]).length = j + 1 ∧ (pre ++ [(nm, on, al', ll', cl', l')]).map bmM = (B.map (touchF (sf, st))).take (j + 1) ∧ post.map bmM = B.drop (j + 1)) := fun al' ll' cl' l' hf => by
          refine ⟨by rw [List.length_append, HM.out.1]; rfl, ?_, hBj.2⟩
          rw [List.map_append, HM.out.2.1, take_map_succ hBj.1, ← hf]
          rfl
        have hll : l.length ≤ 30000 := HLB.out _ (List.mem_of_getElem? hBj.1)
        have HD := Lib.hid ((HR.out.sps (nm, on, al, ll, cl, l) (by simp)).d)
        clear hBj
        cases on with
        | false =>
          have HM2 := Lib.hid (HTK.out al ll cl l rfl)
          have HR2 := Lib.hid HR.out.shift
          go_wp2
          go_roundw
          case rel => exact ⟨j + 1, _, _, by omega, by go_num, HM2.out, HR2.out, HXr.out⟩
          case measure => simp [intOf]; omega
        | true =>
          have hsl : l.length = ll := HD.out.1.1
          have HAD : Hid (∀ W, Below wr.heap.size wr W → Calls Try.prog 67 #[.slice al ll cl, .agg #[.int .i64 sf, .int .i64 st]] W fun e w' => ∃ (a' : Option Addr) (n' c' : Nat), e = .returned (.slice a' n' c') ∧ SpN w' w.heap.size a' n' c' (addL l (sf, st)) ∧ Below wr.heap.size wr w') := fun W hb =>
            (refAdd_any al ll cl l sf st W ((HD.out.later hb).1) HD.out.2.1.1 (by omega)).mono fun e w' ⟨a', c', e1, e2, e3, e4⟩ => ⟨a', _, c', e1, ⟨e2.monoB (Nat.le_trans HR.out.dat.size hb.size), by have := addL_len l (sf, st); omega, (addL_right l (sf, st)).fit (Int.le_refl _)⟩, hb.trans (e4.mono hb.size)⟩
          have hgX : w.heap.size ≠ g := fun e => by
            have := HR.out.row.off (e := 50) (by decide) g _ rfl (by rw [← e]; exact HXr.out) _ _ rfl
            exact this
          have HKP : Hid (∀ W, Below wr.heap.size wr W → W.cell? ⟨w.heap.size, 0, none⟩ = some (.int .i64 sf) ∧ W.cell? ⟨w.heap.size, 1, none⟩ = some (.int .i64 st)) := fun W hb => ⟨(HXr.out.later hb).cell 0, (HXr.out.later hb).cell 1⟩
          have HKF : Hid (∀ W v, Below wr.heap.size wr W → (W.setCell ⟨g, j * 3 + 2, none⟩ v).cell? ⟨w.heap.size, 0, none⟩ = some (.int .i64 sf) ∧ (W.setCell ⟨g, j * 3 + 2, none⟩ v).cell? ⟨w.heap.size, 1, none⟩ = some (.int .i64 st)) := fun W v hb => ⟨((HXr.out.later hb).other hgX v).cell 0, ((HXr.out.later hb).other hgX v).cell 1⟩
          have HCF : Hid (∀ W, Below wr.heap.size wr W → W.cell? ⟨g, j * 3 + 2, none⟩ = some (.slice al ll cl) ∧ W.frozen? ⟨g, j * 3 + 2, none⟩ = false) := fun W hb => ⟨(hb.cell (p := ⟨g, j * 3 + 2, none⟩) hg2).trans x2, (hb.frozen (p := ⟨g, j * 3 + 2, none⟩) hg2).trans xf⟩
          have HR0 := Lib.hid (Below.refl wr.heap.size wr)
          have HGX := Lib.hid hgX
          clear hgX
          go_wp2
          refine wp_region_held_drew (S := fun W => W.cell? ⟨w.heap.size, 0, none⟩ = some (.int .i64 sf) ∧ W.cell? ⟨w.heap.size, 1, none⟩ = some (.int .i64 st)) (by kernel_rfl) (by first | assumption | with_reducible exact HKP.out _ HR0.out | with_reducible exact HKP.out _ HR0.out.drew | with_reducible exact HKP.out _ HB5.out | exact HKF.out _ _ HB5.out) (fun hHeld => ?_)
          refine wpAnyH_take (i := 0) (oi := _) (v := ?va0) rfl (by kernel_rfl) (by kernel_rfl) (by kernel_rfl) (fun _ _ _ h => h) (Or.inl ⟨by rfl, ?hya0⟩) (by assumption) ?resta0
          case hya0 => (intro wz hSw; (try dsimp only at hSw); go_simp; try with_reducible rfl)
          (try simp only [List.getElem_toArray, List.getElem_cons_zero, Act.put, List.setIfInBounds_toArray, List.set_cons_zero, List.set_cons_succ])
          refine wpAnyH_take (i := 1) (oi := _) (v := ?va1) rfl (by kernel_rfl) (by kernel_rfl) (by kernel_rfl) (fun _ _ _ h => h) (Or.inl ⟨by rfl, ?hya1⟩) (by assumption) ?resta1
          case hya1 => (intro wz hSw; (try dsimp only at hSw); go_simp; try with_reducible rfl)
          (try simp only [List.getElem_toArray, List.getElem_cons_zero, List.getElem_cons_succ, Act.put, List.setIfInBounds_toArray, List.set_cons_zero, List.set_cons_succ])
          refine wpAnyH_take (i := 2) (oi := _) (v := ?va2) rfl (by kernel_rfl) (by kernel_rfl) (by kernel_rfl) (fun _ _ _ h => h) (Or.inl ⟨by rfl, ?hya2⟩) (by assumption) ?resta2
          case hya2 => (intro wz hSw; (try dsimp only at hSw); go_simp; try with_reducible rfl)
          (try simp only [List.getElem_toArray, List.getElem_cons_zero, List.getElem_cons_succ, Act.put, List.setIfInBounds_toArray, List.set_cons_zero, List.set_cons_succ])
          refine wpAnyH_take (i := 3) (oi := _) (v := ?va3) rfl (by kernel_rfl) (by kernel_rfl) (by kernel_rfl) (fun _ _ _ h => h) (Or.inl ⟨by rfl, ?hya3⟩) (by assumption) ?resta3
          case hya3 => (intro wz hSw; (try dsimp only at hSw); go_simp; try with_reducible rfl)
          (try simp only [List.getElem_toArray, List.getElem_cons_zero, List.getElem_cons_succ, Act.put, List.setIfInBounds_toArray, List.set_cons_zero, List.set_cons_succ])
          refine wpAnyH_take (i := 4) (oi := _) (v := ?va4) rfl (by kernel_rfl) (by kernel_rfl) (by kernel_rfl) (fun _ _ _ h => h) (Or.inl ⟨by rfl, ?hya4⟩) (by assumption) ?resta4
          case hya4 => (intro wz hSw; (try dsimp only at hSw); go_simp; try with_reducible rfl)
          (try simp only [List.getElem_toArray, List.getElem_cons_zero, List.getElem_cons_succ, Act.put, List.setIfInBounds_toArray, List.set_cons_zero, List.set_cons_succ])
          refine wpAnyH_take (i := 5) (oi := _) (v := ?va5) rfl (by kernel_rfl) (by kernel_rfl) (by kernel_rfl) (fun _ _ _ h => h) (Or.inl ⟨by rfl, ?hya5⟩) (by assumption) ?resta5
          case hya5 => (intro wz hSw; (try dsimp only at hSw); go_simp; try with_reducible rfl)
          (try simp only [List.getElem_toArray, List.getElem_cons_zero, List.getElem_cons_succ, Act.put, List.setIfInBounds_toArray, List.set_cons_zero, List.set_cons_succ])
          refine wpAnyH_take (i := 7) (oi := _) (v := ?va7) rfl (by kernel_rfl) (by kernel_rfl) (by kernel_rfl) (fun _ _ _ h => h) (Or.inl ⟨by rfl, ?hya7⟩) (by assumption) ?resta7
          case hya7 => (intro wz hSw; (try dsimp only at hSw); go_simp; try with_reducible rfl)
          (try simp only [List.getElem_toArray, List.getElem_cons_zero, List.getElem_cons_succ, Act.put, List.setIfInBounds_toArray, List.set_cons_zero, List.set_cons_succ])
          refine wpAnyH_ready (rs := [6]) (by kernel_rfl) (by simp) ?_
          refine AllReadyH.cons (o := _) rfl (fun K hK => ?_) AllReadyH.nil
          rw [if_pos (by rfl)]
          go_simp
          refine hK.out _ _ (by first | assumption | with_reducible exact HKP.out _ HR0.out | with_reducible exact HKP.out _ HR0.out.drew | with_reducible exact HKP.out _ HB5.out | exact HKF.out _ _ HB5.out) (fun hHeld => ?_)
          clear hK K
          (try simp only [List.getElem_toArray, List.getElem_cons_zero, List.getElem_cons_succ, Act.put, List.setIfInBounds_toArray, List.set_cons_zero, List.set_cons_succ])
          refine wpAnyH_ready (rs := [8]) (by kernel_rfl) (by simp) ?_
          refine AllReadyH.cons (o := _) rfl (fun K hK => ?_) AllReadyH.nil
          rw [if_pos (by rfl)]
          go_simp
          (go_at_call 67; with_reducible refine (HAD.out _ HR0.out.drew).mono ?_; rintro e w5 ⟨a5, n5, c5, rfl, hN, hb⟩; have HN5 := Lib.hid hN; have HB5 := Lib.hid hb; obtain ⟨y2, yf⟩ := HCF.out _ hb; clear hN hb)
          dsimp only
          refine hK.out _ _ (by first | assumption | with_reducible exact HKP.out _ HR0.out | with_reducible exact HKP.out _ HR0.out.drew | with_reducible exact HKP.out _ HB5.out | exact HKF.out _ _ HB5.out) (fun hHeld => ?_)
          clear hK K
          (try simp only [List.getElem_toArray, List.getElem_cons_zero, List.getElem_cons_succ, Act.put, List.setIfInBounds_toArray, List.set_cons_zero, List.set_cons_succ])
          refine wpAnyH_take (i := 9) (oi := _) (v := ?va9) rfl (by kernel_rfl) (by kernel_rfl) (by kernel_rfl) (fun _ _ _ h => h) (Or.inl ⟨by rfl, ?hya9⟩) (by assumption) ?resta9
          case hya9 => (intro wz hSw; (try dsimp only at hSw); go_simp; try with_reducible rfl)
          (try simp only [List.getElem_toArray, List.getElem_cons_zero, List.getElem_cons_succ, Act.put, List.setIfInBounds_toArray, List.set_cons_zero, List.set_cons_succ])
          refine wpAnyH_take (i := 10) (oi := _) (v := ?va10) rfl (by kernel_rfl) (by kernel_rfl) (by kernel_rfl) (fun _ _ _ h => h) (Or.inl ⟨by rfl, ?hya10⟩) (by assumption) ?resta10
          case hya10 => (intro wz hSw; (try dsimp only at hSw); go_simp; try with_reducible rfl)
          (try simp only [List.getElem_toArray, List.getElem_cons_zero, List.getElem_cons_succ, Act.put, List.setIfInBounds_toArray, List.set_cons_zero, List.set_cons_succ])
          refine wpAnyH_ready (rs := [11]) (by kernel_rfl) (by simp) ?_
          refine AllReadyH.cons (o := _) rfl (fun K hK => ?_) AllReadyH.nil
          rw [if_pos (by rfl)]
          go_simp
          refine hK.out _ _ (by first | assumption | with_reducible exact HKP.out _ HR0.out | with_reducible exact HKP.out _ HR0.out.drew | with_reducible exact HKP.out _ HB5.out | exact HKF.out _ _ HB5.out) (fun hHeld => ?_)
          clear hK K
          (try simp only [List.getElem_toArray, List.getElem_cons_zero, List.getElem_cons_succ, Act.put, List.setIfInBounds_toArray, List.set_cons_zero, List.set_cons_succ])
          refine wpAnyH_done (by kernel_rfl) ?_ _
          have HM2 := Lib.hid (HTK.out a5 n5 c5 (addL l (sf, st)) rfl)
          have HR2 := Lib.hid (((HR.out.later HB5.out).put HM.out.1 rfl HN5.out).shift)
          have HX2 := Lib.hid ((HXr.out.later HB5.out).other HGX.out (i := j * 3 + 2) (.slice a5 n5 c5))
          clear y2 yf
          go_wp2
          go_roundw
          case rel => exact ⟨j + 1, _, _, by omega, by go_num, HM2.out, HR2.out, HX2.out⟩
          case measure => simp [intOf]; omega
    · obtain rfl : j = mn := by omega
      go_wp2
      go_ret
      have hp : post = [] := by
        have := congrArg List.length HM.out.2.2
        rw [List.length_drop, HBL.out] at this
        simpa using this
      subst hp
      have hr := HR.out.row
      rw [List.append_nil] at hr
      exact ⟨a1, c1, rfl, ⟨pre, hr, fun d hd => HR.out.sps d (by simp [hd]), by rw [HM.out.2.1, List.take_of_length_le (by rw [List.length_map]; exact Nat.le_of_eq HBL.out)], hmn, fun d hd => by
        obtain ⟨d', hd', rfl⟩ := List.mem_map.1 hd
        exact HNM.out d' hd'⟩, HR.out.dat⟩
end Go.Proofs.Ytjaaieamlgghhaa
