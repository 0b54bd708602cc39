/-
  What the project's package maps, the reference's and the statements' own functions answer (layer 13). Conditions: the bitmaps read, short sets.
-/
import Derived.Test.YtipljkegmhclkaaSx
import Derived.Test.YtipljkegmhclkaaSv
import Derived.Test.YtipljkegmhclkaaSk
import Derived.Test.YtipljkegmhclkaaTc
import Derived.Test.YtipljkegmhclkaaT4
import Derived.Test.YtipljkegmhclkaaTa
namespace Go.Proofs.Ytipljkegmhclkaa
open Go.RowKit
set_option linter.unusedVariables false

/-- The bitmaps with one more, without one, with one turned, cleared, merged. -/
noncomputable def addB (B : List BmM) (nm : ByteArray) : List BmM × Int := if ¬ nameOk nm then ([], 1) else if 0 ≤ fndB nm B then ([], 5) else if 8 ≤ B.length then ([], 9) else (B ++ [(nm, true, [])], 0)
def dropB (B : List BmM) (nm : ByteArray) : List BmM × Int := if fndB nm B < 0 then ([], 4) else (B.take (fndB nm B).toNat ++ B.drop ((fndB nm B).toNat + 1), 0)
def turnB (B : List BmM) (nm : ByteArray) (on : Bool) : List BmM × Int := if fndB nm B < 0 then ([], 4) else (B.modify (fndB nm B).toNat (fun b => (b.1, on, b.2.2)), 0)
def clearB (B : List BmM) (nm : ByteArray) : List BmM × Int := if fndB nm B < 0 then ([], 4) else (B.modify (fndB nm B).toNat (fun b => (b.1, b.2.1, [])), 0)
def lAt (B : List BmM) (i : Nat) : List Sp := (B.getD i (ByteArray.empty, false, [])).2.2
noncomputable def mergeB (B : List BmM) (nm other : ByteArray) : List BmM × Int := if fndB nm B < 0 ∨ fndB other B < 0 then ([], 4) else
  (B.modify (fndB nm B).toNat (fun b => (b.1, b.2.1, if Rt (-1) (lAt B (fndB other B).toNat) then (lAt B (fndB other B).toNat).foldl addL b.2.2 else b.2.2)), 0)
noncomputable def sizeB (B : List BmM) (was now : Int) : List BmM := if 0 ≤ was ∧ was ≤ 1073741824 ∧ 0 ≤ now ∧ now ≤ 1073741824 then B.map (sizeF was now) else B
/-- Bitmaps and an error's number that are handed back. -/
def GiveB (w : World) (R : List BmM × Int) (e : Ending) (w' : World) : Prop := ∃ (a : Option Addr) (n c : Nat), e = .returned (.tuple #[.slice a n c, .int .i64 R.2]) ∧ BmsN w' w.heap.size a n c R.1 ∧ Below w.heap.size w w'
theorem BmsN.nil (w : World) (base : Nat) : BmsN w base none 0 0 [] := ⟨[], OwnG.none _ _ _ _ _, fun d hd => (by cases hd), rfl, Nat.zero_le _, fun d hd => (by cases hd)⟩
theorem GiveB.nil {w w' : World} (n : Int) (h : Below w.heap.size w w') : GiveB w ([], n) (.returned (.tuple #[.slice none 0 0, .int .i64 n])) w' := ⟨none, 0, 0, rfl, BmsN.nil _ _, h⟩
theorem GiveB.of {w : World} {R R' : List BmM × Int} (h : R = R') {e : Ending} {w' : World} (hg : GiveB w R e w') : GiveB w R' e w' := h ▸ hg

theorem mapsPlace (w : World) (ma : Option Addr) (mn mc : Nat) (B : List BmM) (h : BmsD w ma mn mc B) (nm : ByteArray) {r : Int} (hr : fndB nm B = r) : Calls Try.prog 37 #[.slice ma mn mc, .string nm] w fun e w' => e = .returned (.int .i64 r) ∧ Below w.heap.size w w' := by
  have HS := Lib.hid h
  have HR := Lib.hid hr
  have HL := Lib.hid h.lens
  clear h hr
  go_enter Try.func37, Try.ntmps37
  go_wp2
  go_loopw [9] (fun i wr => ∃ j : Nat, j ≤ mn ∧ i = .int .i64 j ∧ Hid (Below w.heap.size w wr) ∧ Hid (∀ k, k < j → ∀ e, B[k]? = some e → e.1 ≠ nm)) (fun i _ => mn - (intOf i).toNat)
  case atStart => exact ⟨0, Nat.zero_le _, rfl, Below.refl _ _, fun k hk => by omega⟩
  case round =>
    obtain ⟨j, hj, rfl, HBj, HN⟩ := hrel
    have h1000 := HL.out.2
    by_cases hlt : j < mn
    · obtain ⟨b, off, n1, on, al, ll, cl, l, rfl, hSj, hb, _, x1, x2, x3, _⟩ := (HS.out.later HBj.out).at j hlt
      have HSJ := Lib.hid hSj
      have HBX : Hid (Blk (wr.alloc (.cells #[.string n1, .bool on, .slice al ll cl] 43)) wr.heap.size 43 #[.string n1, .bool on, .slice al ll cl]) := Blk.new _ _ _
      obtain ⟨y0, y1, y2⟩ := cells3 HBX.out
      have HBj2 := Lib.hid (HBj.out.alloc HBj.out.size (.cells #[.string n1, .bool on, .slice al ll cl] 43))
      clear hSj
      by_cases he : n1 = nm
      · have hse := str_yes he
        obtain rfl : r = (j : Int) := by rw [← HR.out]; exact fndB_at HSJ.out he HN.out
        clear he
        go_wp2
        go_ret
        exact ⟨rfl, HBj2.out⟩
      · have hse := str_no he
        have HN2 : Hid (∀ k, k < j + 1 → ∀ e, B[k]? = some e → e.1 ≠ nm) := fun k hk e hke => by
          by_cases e1 : k = j
          · subst e1
            have := HSJ.out.symm.trans hke
            cases this
            exact he
          · exact HN.out k (by omega) e hke
        clear he
        have hj1000 : j ≤ 1000 := by omega
        go_wp2
        go_roundw
        case rel => exact ⟨j + 1, by omega, by go_num, HBj2.out, HN2.out⟩
        case measure => simp [intOf]; omega
    · obtain rfl : j = mn := by omega
      obtain rfl : r = -1 := by
        rw [← HR.out]
        refine fndB_none fun d hd => ?_
        obtain ⟨i, hi⟩ := List.getElem?_of_mem hd
        exact HN.out i (by have := (List.getElem?_eq_some_iff.1 hi).1; have := HL.out.1; omega) d hi
      go_wp2
      go_ret
      exact ⟨rfl, HBj.out⟩
end Go.Proofs.Ytipljkegmhclkaa
namespace Go.Proofs.Ytipljkegmhclkaa
open Go.RowKit
set_option linter.unusedVariables false

theorem bitmap_size : (Try.prog.info? 43).map (·.size) = some 3 := by kernel_rfl
theorem slice_backB {b j c p : Nat} (h1 : p ≤ j) (h2 : j ≤ c) (hpc : p < c) (w' : World) : (Instr.slice 26 (.slice (some ⟨b, 0, none⟩) j c) (some (.int .i64 p)) none none).run Try.prog w' = .ok (.slice (some ⟨b, p * 3, none⟩) (j - p) (c - p)) w' := by
  obtain ⟨i0, hi0, hi1⟩ := Option.map_eq_some_iff.1 bitmap_size
  have b2 : ¬ c = p := by omega
  simp [Instr.slice, Instr.sliceBounds, Instr.sliceBound, asIntOf, run_underlying Try.underlying26, sizeOf, typeInfo, hi0, hi1, h1, b2, Addr.add, go_sem]
  exact fun h => h.symm
theorem slice_frontB {b j c p : Nat} (h1 : p ≤ c) (w' : World) : (Instr.slice 26 (.slice (some ⟨b, 0, none⟩) j c) none (some (.int .i64 p)) none).run Try.prog w' = .ok (.slice (some ⟨b, 0, none⟩) p c) w' := by
  obtain ⟨i0, hi0, _⟩ := Option.map_eq_some_iff.1 bitmap_size
  simp [Instr.slice, Instr.sliceBounds, Instr.sliceBound, asIntOf, run_underlying Try.underlying26, sizeOf, typeInfo, hi0, h1, Addr.add, go_sem]
end Go.Proofs.Ytipljkegmhclkaa
namespace Go.Proofs.Ytipljkegmhclkaa
open Go.RowKit
set_option linter.unusedVariables false

theorem modify_at {α : Type} {l : List α} {i : Nat} {d : α} (h : l[i]? = some d) (f : α → α) : l.modify i f = l.set i (f d) := by
  apply List.ext_getElem?
  intro k
  rw [List.getElem?_modify, List.getElem?_set]
  by_cases hk : i = k
  · subst hk
    have := (List.getElem?_eq_some_iff.1 h).1
    rw [if_pos rfl, if_pos this, h]
    simp
  · rw [if_neg hk]
    simp [hk]
theorem BmsN.at {w : World} {base len cap : Nat} {a : Option Addr} {B : List BmM} (h : BmsN w base a len cap B) (i : Nat) (hi : i < len) : ∃ g nm on al ll cl l, a = some ⟨g, 0, none⟩ ∧ base ≤ g ∧ g < w.heap.size ∧ B[i]? = some (nm, on, l) ∧ w.cell? ⟨g, i * 3, none⟩ = some (.string nm) ∧ w.cell? ⟨g, i * 3 + 1, none⟩ = some (.bool on) ∧ w.cell? ⟨g, i * 3 + 2, none⟩ = some (.slice al ll cl) ∧ (∀ k, w.frozen? ⟨g, k, none⟩ = false) ∧ SpN w base al ll cl l ∧
    (∀ on', BmsN (w.setCell ⟨g, i * 3 + 1, none⟩ (.bool on')) base a len cap (B.set i (nm, on', l)) ∧ w.grownBy (w.setCell ⟨g, i * 3 + 1, none⟩ (.bool on')) (some g)) ∧
    (∀ al' ll' cl' l', SpN w base al' ll' cl' l' → BmsN (w.setCell ⟨g, i * 3 + 2, none⟩ (.slice al' ll' cl')) base a len cap (B.set i (nm, on, l')) ∧ w.grownBy (w.setCell ⟨g, i * 3 + 2, none⟩ (.slice al' ll' cl')) (some g)) ∧ ∃ cs, Blk w g 43 cs := by
  obtain ⟨ds, h1, h2, h3, h4, h5⟩ := h
  subst h3
  obtain ⟨g, ⟨nm, on, al, ll, cl, l⟩, rfl, hg1, hg2, hd, ⟨x0, x1, x2⟩, hfz, cs, hblk⟩ := own3_at bm_rowed h1 i hi
  have hoff : Off w (some g) 40 := OwnG.off (e := 40) h1 (by decide)
  have hnm : nm.size ≤ 9223372036854775807 := h5 (nm, on, l) (List.mem_map.2 ⟨_, List.mem_of_getElem? hd, rfl⟩)
  refine ⟨g, nm, on, al, ll, cl, l, rfl, hg1, hg2, by rw [List.getElem?_map, hd]; rfl, x0, x1, x2, hfz, h2 _ (List.mem_of_getElem? hd), fun on' => ?_, fun al' ll' cl' l' hs => ?_, cs, hblk⟩
  · obtain ⟨q1, q2⟩ := own_setK bm_rowed h1 i 1 _ (nm, on', al, ll, cl, l) hd (.bool on') (by omega) rfl
    refine ⟨⟨_, q1, fun d hd' => ?_, by rw [List.map_set]; rfl, h4, fun d hd' => ?_⟩, q2⟩
    · rcases List.mem_or_eq_of_mem_set hd' with hm | rfl
      · exact (h2 d hm).off hoff q2
      · exact (h2 _ (List.mem_of_getElem? hd)).off hoff q2
    · rcases List.mem_or_eq_of_mem_set hd' with hm | rfl
      · exact h5 d hm
      · exact hnm
  · obtain ⟨q1, q2⟩ := own_setK bm_rowed h1 i 2 _ (nm, on, al', ll', cl', l') hd (.slice al' ll' cl') (by omega) rfl
    refine ⟨⟨_, q1, fun d hd' => ?_, by rw [List.map_set]; rfl, h4, fun d hd' => ?_⟩, q2⟩
    · rcases List.mem_or_eq_of_mem_set hd' with hm | rfl
      · exact (h2 d hm).off hoff q2
      · exact hs.off hoff q2
    · rcases List.mem_or_eq_of_mem_set hd' with hm | rfl
      · exact h5 d hm
      · exact hnm
theorem BmsN.later {w w' : World} {base len cap : Nat} {a : Option Addr} {B : List BmM} (h : BmsN w base a len cap B) (hb : Below w.heap.size w w') : BmsN w' base a len cap B := h.off (Off.none _ _) (Off.none _ _) (grown_of_below hb)
theorem BmsN.push {w w' : World} {base len cap cap' : Nat} {a a' : Option Addr} {B : List BmM} {ds : List Bm} (hO : OwnG bmV 43 3 w base (.slice a len cap) len ds) (hS : ∀ d ∈ ds, SpN w base d.2.2.1 d.2.2.2.1 d.2.2.2.2.1 (bmL d)) (hE : ds.map bmM = B) (hl : len + 1 ≤ 1000) (hN : ∀ d ∈ B, d.1.size ≤ 9223372036854775807) {d : Bm} (hd : SpN w base d.2.2.1 d.2.2.2.1 d.2.2.2.2.1 (bmL d)) (hnm : d.1.size ≤ 9223372036854775807)
    (h1 : OwnG bmV 43 3 w' base (.slice a' (len + 1) cap') (len + 1) (ds ++ [d])) (hg : w.grownBy w' (Value.slice a len cap).ownBlock) : BmsN w' base a' (len + 1) cap' (B ++ [bmM d]) := by
  have hoff : Off w (Value.slice a len cap).ownBlock 40 := OwnG.off (e := 40) hO (by decide)
  refine ⟨_, h1, fun x hx => ?_, by rw [List.map_append, hE]; rfl, hl, fun x hx => ?_⟩
  · rcases List.mem_append.1 hx with hx | hx
    · exact (hS x hx).off hoff hg
    · obtain rfl : x = d := by simpa using hx
      exact hd.off hoff hg
  · rcases List.mem_append.1 hx with hx | hx
    · exact hN x hx
    · obtain rfl : x = bmM d := by simpa using hx
      exact hnm
theorem SpN.nil (w : World) (base : Nat) : SpN w base none 0 0 [] := ⟨OwnG.none _ _ _ _ _, Nat.zero_le _, fun x hx => by cases hx⟩

set_option maxRecDepth 100000 in
set_option maxHeartbeats 1600000 in
theorem mapsAdd (w : World) (ma : Option Addr) (mn mc : Nat) (B : List BmM) (h : BmsD w ma mn mc B) (nm : ByteArray) (hnm : nm.size ≤ 9223372036854775807) : Calls Try.prog 15 #[.slice ma mn mc, .string nm] w (GiveB w (addB B nm)) := by
  obtain ⟨RM, hRM⟩ := named (addB B nm)
  rw [hRM.out]
  obtain ⟨r, hr⟩ := named (fndB nm B)
  have HP := Lib.hid (fun W (hb : Below w.heap.size w W) => mapsPlace W ma mn mc B (h.later hb) nm hr.out)
  have HCM := Lib.hid (fun W (hb : Below w.heap.size w W) => pcopyBms W ma mn mc B (h.later hb))
  have HNM := Lib.hid hnm
  have hl := h.lens
  have HR0 := Lib.hid (Below.refl w.heap.size w)
  clear h hnm
  have hRR := hRM.out
  unfold addB at hRR
  rw [hr.out] at hRR
  by_cases hok : nameOk nm
  · have HN := Lib.hid (fun W => shotsName nm HNM.out (decide_eq_true hok) W)
    rw [if_neg (fun h => h hok)] at hRR
    by_cases hf : 0 ≤ r
    · rw [if_pos hf] at hRR
      subst hRR
      have hr0 : decide (0 ≤ r) = true := decide_eq_true hf
      clear hf hl HCM hok hRM
      go_enter Try.func15, Try.ntmps15
      go_wp2_with (first
        | (go_at_call 28; refine (HN.out _).mono ?_; rintro e w1 ⟨rfl, hw⟩; obtain rfl := hw.symm)
        | (go_at_call 37; refine (HP.out _ HR0.out).mono ?_; rintro e w2 ⟨rfl, hb⟩; have HB2 := Lib.hid hb; clear hb))
      go_ret2
      exact GiveB.nil 5 HB2.out
    · rw [if_neg hf] at hRR
      have hr0 : decide (0 ≤ r) = false := decide_eq_false hf
      by_cases h8 : 8 ≤ B.length
      · rw [if_pos h8] at hRR
        subst hRR
        have h8n : decide (8 ≤ (mn : Int)) = true := decide_eq_true (by omega)
        clear hf hl h8 HCM hok hRM
        go_enter Try.func15, Try.ntmps15
        go_wp2_with (first
          | (go_at_call 28; refine (HN.out _).mono ?_; rintro e w1 ⟨rfl, hw⟩; obtain rfl := hw.symm)
          | (go_at_call 37; refine (HP.out _ HR0.out).mono ?_; rintro e w2 ⟨rfl, hb⟩; have HB2 := Lib.hid hb; clear hb))
        go_ret2
        exact GiveB.nil 9 HB2.out
      · rw [if_neg h8] at hRR
        subst hRR
        have h8n : decide (8 ≤ (mn : Int)) = false := decide_eq_false (by omega)
        have hmn : mn < 8 := by omega
        clear hf h8 hl hok hRM
        go_enter Try.func15, Try.ntmps15
        go_wp2_with (first
          | (go_at_call 28; refine (HN.out _).mono ?_; rintro e w1 ⟨rfl, hw⟩; obtain rfl := hw.symm)
          | (go_at_call 37; refine (HP.out _ HR0.out).mono ?_; rintro e w2 ⟨rfl, hb⟩; have HB2 := Lib.hid hb; clear hb)
          | (go_at_call 38; refine (HCM.out _ HB2.out).mono ?_; rintro e w3 ⟨a3, c3, rfl, hB, hb⟩; obtain ⟨ds, hO, hS, hE, h1k, hSo⟩ := hB; have HO := Lib.hid (hO.monoB (base' := w.heap.size) HB2.out.size); have HS := Lib.hid (fun d hd => (hS d hd).mono (base' := w.heap.size) HB2.out.size); have HE := Lib.hid hE; have HSo := Lib.hid hSo; have HB3 := Lib.hid (HB2.out.trans (hb.mono HB2.out.size)); clear hO hS hE hSo hb)
          | (at_builtin; refine append_lg bm_rowed rfl (.tmp 20) (.tmp 23) rfl w.heap.size _ mn ds rfl (HO.out.alloc _) (some ⟨w3.heap.size, 0, none⟩) 1 1 [(nm, true, none, 0, 0, [])] rfl (fun e => by cases e) (one_reads (cv := bmV) w3 (nm, true, none, 0, 0, []) #[.string nm, .bool true, .slice none 0 0] 43 rfl) (by omega) (by have := HB3.out.size; rw [World.size_alloc]; omega) ?_; intro a5 c5 w5 g1 g2 g3; have HO5 := Lib.hid g1; have HG5 := Lib.hid g2; clear g1 g2 g3))
        go_ret2
        have hal := (Below.refl w3.heap.size w3).alloc (Nat.le_refl _) (.cells #[.string nm, .bool true, .slice none 0 0] 43)
        exact ⟨a5, _, c5, rfl, BmsN.push (HO.out.alloc _) (fun d hd => (HS.out d hd).off (Off.none _ _) (grown_of_below hal)) HE.out (by omega) HSo.out (d := (nm, true, none, 0, 0, [])) (SpN.nil _ _) HNM.out HO5.out HG5.out, (HB3.out.alloc HB3.out.size _).grown HG5.out (by have := HB3.out.size; rw [World.size_alloc]; omega) (fun k hk => (HO.out.1.lt k hk).1)⟩
  · have HN := Lib.hid (fun W => shotsName nm HNM.out (decide_eq_false hok) W)
    rw [if_pos hok] at hRR
    subst hRR
    clear hl HP HCM hok hRM
    go_enter Try.func15, Try.ntmps15
    go_wp2_with (first
      | (go_at_call 28; refine (HN.out _).mono ?_; rintro e w1 ⟨rfl, hw⟩; obtain rfl := hw.symm))
    go_ret2
    exact GiveB.nil 1 HR0.out
set_option maxRecDepth 100000 in
set_option maxHeartbeats 1600000 in
theorem mapsTurn (w : World) (ma : Option Addr) (mn mc : Nat) (B : List BmM) (h : BmsD w ma mn mc B) (nm : ByteArray) (on : Bool) : Calls Try.prog 17 #[.slice ma mn mc, .string nm, .bool on] w (GiveB w (turnB B nm on)) := by
  obtain ⟨RM, hRM⟩ := named (turnB B nm on)
  rw [hRM.out]
  have HP := Lib.hid (fun W (hb : Below w.heap.size w W) (r : Int) hr => mapsPlace W ma mn mc B (h.later hb) nm (r := r) hr)
  have HCM := Lib.hid (fun W (hb : Below w.heap.size w W) => pcopyBms W ma mn mc B (h.later hb))
  have hl := h.lens
  have HR0 := Lib.hid (Below.refl w.heap.size w)
  clear h
  have hRR := hRM.out
  unfold turnB at hRR
  rcases fndB_cases nm B with ⟨hr, _⟩ | ⟨i, d, hr, hi, _, hil, _⟩
  · rw [if_pos (by rw [hr]; omega)] at hRR
    subst hRR
    have HP1 := Lib.hid (fun W hb => HP.out W hb (-1) hr)
    clear hl hr HP HCM hRM
    go_enter Try.func17, Try.ntmps17
    go_wp2_with (first
      | (go_at_call 37; refine (HP1.out _ HR0.out).mono ?_; rintro e w2 ⟨rfl, hb⟩; have HB2 := Lib.hid hb; clear hb))
    go_ret2
    exact GiveB.nil 4 HB2.out
  · rw [if_neg (by rw [hr]; omega), hr, Int.toNat_natCast] at hRR
    have HP1 := Lib.hid (fun W hb => HP.out W hb i hr)
    have di : decide ((i : Int) < 0) = false := decide_eq_false (by omega)
    have hi1000 : i < 1000 := by omega
    have himn : i < mn := by omega
    rw [modify_at hi] at hRR
    have HI := Lib.hid hi
    subst hRR
    clear hl hr HP hRM hi hil
    go_enter Try.func17, Try.ntmps17
    go_wp2_with (first
      | (go_at_call 37; refine (HP1.out _ HR0.out).mono ?_; rintro e w2 ⟨rfl, hb⟩; have HB2 := Lib.hid hb; clear hb)
      | (go_at_call 38; refine (HCM.out _ HB2.out).mono ?_; rintro e w3 ⟨a3, c3, rfl, hB, hb⟩; have HB3 := Lib.hid (HB2.out.trans (hb.mono HB2.out.size)); have HN3 := Lib.hid (hB.mono (base' := w.heap.size) HB2.out.size); clear hb hB; obtain ⟨g, nm1, on1, al1, ll1, cl1, l1, rfl, hg1, hg2, hB1, x0, x1, x2, hfz, hsp, HON, HSP, _⟩ := HN3.out.at i himn; have FZ := hfz (i * 3 + 1); have HB1 := Lib.hid hB1; have HON := Lib.hid HON; have HSP := Lib.hid HSP; have HSPN := Lib.hid hsp; clear hsp hB1 hfz))
    go_ret2
    obtain ⟨q1, q2⟩ := HON.out on
    have hd : d = (nm1, on1, l1) := Option.some.inj (HI.out.symm.trans HB1.out)
    subst hd
    exact ⟨_, _, _, rfl, q1, belowRow HB3.out q2 hg1 HB3.out.size⟩
set_option maxRecDepth 100000 in
set_option maxHeartbeats 1600000 in
theorem mapsClear (w : World) (ma : Option Addr) (mn mc : Nat) (B : List BmM) (h : BmsD w ma mn mc B) (nm : ByteArray) : Calls Try.prog 18 #[.slice ma mn mc, .string nm] w (GiveB w (clearB B nm)) := by
  obtain ⟨RM, hRM⟩ := named (clearB B nm)
  rw [hRM.out]
  have HP := Lib.hid (fun W (hb : Below w.heap.size w W) (r : Int) hr => mapsPlace W ma mn mc B (h.later hb) nm (r := r) hr)
  have HCM := Lib.hid (fun W (hb : Below w.heap.size w W) => pcopyBms W ma mn mc B (h.later hb))
  have hl := h.lens
  have HR0 := Lib.hid (Below.refl w.heap.size w)
  clear h
  have hRR := hRM.out
  unfold clearB at hRR
  rcases fndB_cases nm B with ⟨hr, _⟩ | ⟨i, d, hr, hi, _, hil, _⟩
  · rw [if_pos (by rw [hr]; omega)] at hRR
    subst hRR
    have HP1 := Lib.hid (fun W hb => HP.out W hb (-1) hr)
    clear hl hr HP HCM hRM
    go_enter Try.func18, Try.ntmps18
    go_wp2_with (first
      | (go_at_call 37; refine (HP1.out _ HR0.out).mono ?_; rintro e w2 ⟨rfl, hb⟩; have HB2 := Lib.hid hb; clear hb))
    go_ret2
    exact GiveB.nil 4 HB2.out
  · rw [if_neg (by rw [hr]; omega), hr, Int.toNat_natCast] at hRR
    have HP1 := Lib.hid (fun W hb => HP.out W hb i hr)
    have di : decide ((i : Int) < 0) = false := decide_eq_false (by omega)
    have hi1000 : i < 1000 := by omega
    have himn : i < mn := by omega
    rw [modify_at hi] at hRR
    have HI := Lib.hid hi
    subst hRR
    clear hl hr HP hRM hi hil
    go_enter Try.func18, Try.ntmps18
    go_wp2_with (first
      | (go_at_call 37; refine (HP1.out _ HR0.out).mono ?_; rintro e w2 ⟨rfl, hb⟩; have HB2 := Lib.hid hb; clear hb)
      | (go_at_call 38; refine (HCM.out _ HB2.out).mono ?_; rintro e w3 ⟨a3, c3, rfl, hB, hb⟩; have HB3 := Lib.hid (HB2.out.trans (hb.mono HB2.out.size)); have HN3 := Lib.hid (hB.mono (base' := w.heap.size) HB2.out.size); clear hb hB; obtain ⟨g, nm1, on1, al1, ll1, cl1, l1, rfl, hg1, hg2, hB1, x0, x1, x2, hfz, hsp, HON, HSP, _⟩ := HN3.out.at i himn; have FZ := hfz (i * 3 + 2); have HB1 := Lib.hid hB1; have HON := Lib.hid HON; have HSP := Lib.hid HSP; have HSPN := Lib.hid hsp; clear hsp hB1 hfz))
    go_ret2
    obtain ⟨q1, q2⟩ := HSP.out none 0 0 [] (SpN.nil _ _)
    have hd : d = (nm1, on1, l1) := Option.some.inj (HI.out.symm.trans HB1.out)
    subst hd
    exact ⟨_, _, _, rfl, q1, belowRow HB3.out q2 hg1 HB3.out.size⟩
end Go.Proofs.Ytipljkegmhclkaa
namespace Go.Proofs.Ytipljkegmhclkaa
open Go.RowKit
set_option linter.unusedVariables false

set_option maxRecDepth 100000 in
set_option maxHeartbeats 3200000 in
theorem mapsTouch (w : World) (ma : Option Addr) (mn mc : Nat) (B : List BmM) (h : BmsD w ma mn mc B) (hl : ∀ b ∈ B, b.2.2.length ≤ 30000) (sf st : Int) (h1 : I64 sf) (h2 : I64 st) : Calls Try.prog 20 #[.slice ma mn mc, .agg #[.int .i64 sf, .int .i64 st]] w fun e w' => ∃ (a : Option Addr) (c : Nat), e = .returned (.slice a mn c) ∧ BmsN w' w.heap.size a mn c (B.map (touchF (sf, st))) ∧ Below w.heap.size w w' := by
  have HCM := Lib.hid (fun W (hb : Below w.heap.size w W) => pcopyBms W ma mn mc B (h.later hb))
  have HLL := Lib.hid hl
  have hlen := h.lens
  have HB : Hid (Below w.heap.size w (w.alloc (.cells #[.int .i64 sf, .int .i64 st] 40))) := (Below.refl _ _).alloc (Nat.le_refl _) _
  have HX : Hid (Blk (w.alloc (.cells #[.int .i64 sf, .int .i64 st] 40)) w.heap.size 40 #[.int .i64 sf, .int .i64 st]) := Blk.new _ _ _
  have HI := Lib.hid (And.intro h1 h2)
  clear h hl h1 h2
  go_enter Try.func20, Try.ntmps20
  go_wp2_with (go_at_call 38; refine (HCM.out _ HB.out).mono ?_; rintro e w1 ⟨a1, c1, rfl, hB, hb⟩; have HN1 := Lib.hid (hB.mono (base' := w.heap.size) HB.out.size); have HB1 := Lib.hid (HB.out.trans (hb.mono HB.out.size)); have HX1 := Lib.hid (HX.out.later hb); clear hB hb)
  obtain ⟨hBL, hmn⟩ := hlen
  have HBL := Lib.hid hBL
  go_loopw [12] (fun i wr => ∃ j : Nat, j ≤ mn ∧ i = .int .i64 j ∧ Hid (BmsN wr w.heap.size a1 mn c1 ((B.map (touchF (sf, st))).take j ++ B.drop j)) ∧ Hid (Below w.heap.size w wr) ∧ Hid (Blk wr w.heap.size 40 #[.int .i64 sf, .int .i64 st])) (fun i _ => mn - (intOf i).toNat)
  case atStart => exact ⟨0, Nat.zero_le _, rfl, (by simpa using HN1.out : BmsN w1 w.heap.size a1 mn c1 ((B.map (touchF (sf, st))).take 0 ++ B.drop 0)), HB1.out, HX1.out⟩
  case round =>
    obtain ⟨j, hj, rfl, HNj, HBj, HXj⟩ := hrel
    by_cases hlt : j < mn
    · obtain ⟨g, nm, on, al, ll, cl, l, rfl, hg1, hg2, hBi, x0, x1, x2, hfz, hsp, _, HSP, csg, hblk⟩ := HNj.out.at j hlt
      have hBj : B[j]? = some (nm, on, l) := by
        rw [List.getElem?_append_right (by rw [List.length_take, List.length_map]; omega), List.length_take, List.length_map, List.getElem?_drop] at hBi
        rwa [show j + (j - min j B.length) = j by omega] at hBi
      have hll : l.length ≤ 30000 := HLL.out _ (List.mem_of_getElem? hBj)
      have hsl : l.length = ll := hsp.d.1.1
      have hxf := hfz (j * 3 + 2)
      have HTK : Hid (∀ l', (nm, on, l') = touchF (sf, st) (nm, on, l) → ((B.map (touchF (sf, st))).take j ++ B.drop j).set j (nm, on, l') = (B.map (touchF (sf, st))).take (j + 1) ++ B.drop (j + 1)) := fun l' hf => by
        have hjB : j < B.length := by rw [HBL.out]; exact hlt
        rw [take_map_succ hBj, ← hf]
        exact mid_set _ _ _ _ (by rw [List.length_take, List.length_map]; omega) hjB
      have HTN : Hid (on = false → (B.map (touchF (sf, st))).take j ++ B.drop j = (B.map (touchF (sf, st))).take (j + 1) ++ B.drop (j + 1)) := fun h => by
        rw [take_map_succ hBj]
        subst h
        have hjB : j < B.length := by rw [HBL.out]; exact hlt
        have : B.drop j = (nm, false, l) :: B.drop (j + 1) := by
          rw [List.drop_eq_getElem_cons hjB]
          congr 1
          exact (List.getElem?_eq_some_iff.1 hBj).2
        rw [this, List.append_assoc]
        rfl
      have HBX : Hid (Blk (wr.alloc (.cells #[.string nm, .bool on, .slice al ll cl] 43)) wr.heap.size 43 #[.string nm, .bool on, .slice al ll cl]) := Blk.new _ _ _
      obtain ⟨y0, y1, y2⟩ := cells3 HBX.out
      have HBA := Lib.hid ((Below.refl wr.heap.size wr).alloc (Nat.le_refl _) (.cells #[.string nm, .bool on, .slice al ll cl] 43))
      have HSPN := Lib.hid hsp
      have hgX : w.heap.size ≠ g := fun e => by
        have h9 := HXj.out
        rw [e] at h9
        have := h9.symm.trans hblk
        cases this
      have HGX := Lib.hid hgX
      have HXA := Lib.hid (HXj.out.later HBA.out)
      have z0 : (wr.alloc (.cells #[.string nm, .bool on, .slice al ll cl] 43)).cell? ⟨w.heap.size, 0, none⟩ = some (.int .i64 sf) := HXA.out.cell 0
      have z1 : (wr.alloc (.cells #[.string nm, .bool on, .slice al ll cl] 43)).cell? ⟨w.heap.size, 1, none⟩ = some (.int .i64 st) := HXA.out.cell 1
      clear hgX hblk
      have HGG := Lib.hid (And.intro hg1 hg2)
      have HBI := Lib.hid hBi
      clear hBi hBj hsp HSP hfz
      cases on with
      | false =>
        have HT := Lib.hid (HTN.out rfl)
        go_wp2
        go_roundw
        case rel => exact ⟨j + 1, by omega, by go_num, by rw [← HT.out]; exact HNj.out.later HBA.out, HBj.out.trans (HBA.out.mono HBj.out.size), HXj.out.later HBA.out⟩
        case measure => simp [intOf]; omega
      | true =>
        have HAD : Hid (∀ W, Below wr.heap.size wr W → Calls Try.prog 40 #[.slice al ll cl, .agg #[.int .i64 sf, .int .i64 st]] W fun e w' => ∃ (a' : Option Addr) (n' c' : Nat), e = .returned (.slice a' n' c') ∧ SpN w' w.heap.size a' n' c' (addL l (sf, st)) ∧ Below wr.heap.size wr w') := fun W hb =>
          (spanAdd_any al ll cl l sf st W ((HSPN.out.d.later hb).1) HSPN.out.d.2.1.2 HSPN.out.d.2.1.1 (by omega) HSPN.out.2.2 HI.out.1 HI.out.2).mono fun e w' ⟨a', c', e1, e2, e3, e4⟩ => ⟨a', _, c', e1, ⟨e2.monoB (Nat.le_trans HBj.out.size hb.size), by have := addL_len l (sf, st); omega, (addL_right l (sf, st)).fit (Int.le_refl _)⟩, hb.trans (e4.mono hb.size)⟩
        have HT := Lib.hid (HTK.out (addL l (sf, st)) rfl)
        clear HTN HTK
        go_wp2_with (go_at_call 40; refine (HAD.out _ HBA.out).mono ?_; rintro e w5 ⟨a5, n5, c5, rfl, hN, hb⟩; have HN5 := Lib.hid hN; have HB5 := Lib.hid hb; have HX5 := Lib.hid (HXj.out.later hb); obtain ⟨g', nm', on', al', ll', cl', l', hgg, _, _, hBi', v0, v1, v2, vfz, _, _, hSP5, _⟩ := (HNj.out.later hb).at j hlt; cases hgg; have vf := vfz (j * 3 + 2); have HSP5 := Lib.hid hSP5; have HBI2 := Lib.hid (Option.some.inj (HBI.out.symm.trans hBi')); clear hN hb hBi' vfz hSP5)
        obtain ⟨q1, q2⟩ := HSP5.out _ _ _ _ HN5.out
        have hq := HBI2.out
        cases hq
        rw [HT.out] at q1
        have HQ1 := Lib.hid q1
        have HQ2 := Lib.hid q2
        clear q1 q2 v0 v1 v2 vf
        go_roundw
        case rel => exact ⟨j + 1, by omega, by go_num, HQ1.out, belowRow (HBj.out.trans (HB5.out.mono HBj.out.size)) HQ2.out HGG.out.1 (Nat.le_trans HBj.out.size HB5.out.size), HX5.out.other HGX.out _⟩
        case measure => simp [intOf]; omega
    · obtain rfl : j = mn := by omega
      go_wp2
      go_ret
      have hr := HNj.out
      rw [List.take_of_length_le (by rw [List.length_map]; exact Nat.le_of_eq HBL.out), List.drop_eq_nil_of_le (Nat.le_of_eq HBL.out), List.append_nil] at hr
      exact ⟨_, c1, rfl, hr, HBj.out⟩
end Go.Proofs.Ytipljkegmhclkaa
namespace Go.Proofs.Ytipljkegmhclkaa
open Go.RowKit
set_option linter.unusedVariables false

def subF (now : Int) (b : BmM) : BmM := (b.1, b.2.1, subL b.2.2 (now, 1073741824))
theorem sub_touch (B : List BmM) (was now : Int) (h : was < now) : (B.map (subF now)).map (touchF (was, now)) = B.map (sizeF was now) := by
  rw [List.map_map]
  refine List.map_congr_left fun b _ => ?_
  obtain ⟨nm, on, l⟩ := b
  unfold sizeF subF touchF
  cases on <;> simp [h]
theorem sub_only (B : List BmM) (was now : Int) (h : ¬ was < now) : B.map (subF now) = B.map (sizeF was now) := by
  refine List.map_congr_left fun b _ => ?_
  obtain ⟨nm, on, l⟩ := b
  unfold sizeF subF
  simp [h]
end Go.Proofs.Ytipljkegmhclkaa
namespace Go.Proofs.Ytipljkegmhclkaa
open Go.RowKit
set_option linter.unusedVariables false

theorem foldA_len2 : ∀ (l : List Sp) (m : List Sp), (l.foldl addL m).length ≤ m.length + l.length
  | [], m => by simp
  | x :: r, m => by
    rw [List.foldl_cons, List.length_cons]
    have := foldA_len2 r (addL m x)
    have := addL_len m x
    omega
theorem foldA_take {l : List Sp} {m : List Sp} {j : Nat} (h : j < l.length) : (l.take (j + 1)).foldl addL m = addL ((l.take j).foldl addL m) (spAt l j) := by
  rw [List.take_add_one, spAt_some l j h, Option.toList_some, List.foldl_append]
  rfl
theorem lAt_is {B : List BmM} {i : Nat} {d : BmM} (h : B[i]? = some d) : lAt B i = d.2.2 := by
  unfold lAt
  rw [List.getD_eq_getElem?_getD, h]
  rfl
theorem set_at {α : Type} {l : List α} {i : Nat} {d : α} (hi : i < l.length) : (l.set i d)[i]? = some d := by
  rw [List.getElem?_set, if_pos rfl, if_pos hi]
set_option maxRecDepth 100000 in
set_option maxHeartbeats 3200000 in
theorem mapsMerge (w : World) (ma : Option Addr) (mn mc : Nat) (B : List BmM) (h : BmsD w ma mn mc B) (hl : ∀ b ∈ B, b.2.2.length ≤ 10000) (nm nm2 : ByteArray) : Calls Try.prog 19 #[.slice ma mn mc, .string nm, .string nm2] w (GiveB w (mergeB B nm nm2)) := by
  obtain ⟨RM, hRM⟩ := named (mergeB B nm nm2)
  rw [hRM.out]
  have HP := Lib.hid (fun W (hb : Below w.heap.size w W) (r : Int) hr => mapsPlace W ma mn mc B (h.later hb) nm (r := r) hr)
  have HPO := Lib.hid (fun W (hb : Below w.heap.size w W) (r : Int) hr => mapsPlace W ma mn mc B (h.later hb) nm2 (r := r) hr)
  have HCM := Lib.hid (fun W (hb : Below w.heap.size w W) => pcopyBms W ma mn mc B (h.later hb))
  have HLL := Lib.hid hl
  have HD := Lib.hid h
  have hlen := h.lens
  have HR0 := Lib.hid (Below.refl w.heap.size w)
  clear h hl
  obtain ⟨hBL, hmn⟩ := hlen
  have HBL := Lib.hid hBL
  have hRR := hRM.out
  unfold mergeB at hRR
  have fin : ∀ (r1 r2 : Int), fndB nm B = r1 → fndB nm2 B = r2 → (r1 < 0 ∨ r2 < 0) → RM = ([], 4) → Calls Try.prog 19 #[.slice ma mn mc, .string nm, .string nm2] w (GiveB w RM) := fun r1 r2 e1 e2 hor hRM2 => by
    subst hRM2
    have HP1 := Lib.hid (fun W hb => HP.out W hb r1 e1)
    have HP2 := Lib.hid (fun W hb => HPO.out W hb r2 e2)
    by_cases h1 : r1 < 0
    · have d1 : decide (r1 < 0) = true := decide_eq_true h1
      clear hRR hBL e1 e2 hor hRM HP HPO
      go_enter Try.func19, Try.ntmps19
      go_wp2_with (first
        | (go_at_call 37; (with_reducible refine (HP1.out _ HR0.out).mono ?_); rintro e w2 ⟨rfl, hb⟩; have HB2 := Lib.hid hb; clear hb HP1)
        | (go_at_call 37; (with_reducible refine (HP2.out _ HB2.out).mono ?_); rintro e w3 ⟨rfl, hb⟩; have HB3 := Lib.hid (HB2.out.trans (hb.mono HB2.out.size)); clear hb HP2))
      go_ret2
      exact GiveB.nil 4 HB3.out
    · have d1 : decide (r1 < 0) = false := decide_eq_false h1
      have d2 : decide (r2 < 0) = true := decide_eq_true (hor.resolve_left h1)
      clear hRR hBL e1 e2 hor hRM HP HPO
      go_enter Try.func19, Try.ntmps19
      go_wp2_with (first
        | (go_at_call 37; (with_reducible refine (HP1.out _ HR0.out).mono ?_); rintro e w2 ⟨rfl, hb⟩; have HB2 := Lib.hid hb; clear hb HP1)
        | (go_at_call 37; (with_reducible refine (HP2.out _ HB2.out).mono ?_); rintro e w3 ⟨rfl, hb⟩; have HB3 := Lib.hid (HB2.out.trans (hb.mono HB2.out.size)); clear hb HP2))
      go_ret2
      exact GiveB.nil 4 HB3.out
  rcases fndB_cases nm B with ⟨hr, _⟩ | ⟨i, ⟨nm1, on1, l1⟩, hr, hi, _, hil, _⟩
  · rw [if_pos (Or.inl (by rw [hr]; omega))] at hRR
    exact fin _ _ hr rfl (Or.inl (by omega)) hRR.symm
  rcases fndB_cases nm2 B with ⟨hr2, _⟩ | ⟨k, ⟨nmk, onk, l2⟩, hr2, hk, _, hkl, _⟩
  · rw [if_pos (Or.inr (by rw [hr2]; omega))] at hRR
    exact fin _ _ rfl hr2 (Or.inr (by omega)) hRR.symm
  clear fin
  rw [if_neg (by rw [hr, hr2]; omega), hr, hr2, Int.toNat_natCast, Int.toNat_natCast, modify_at hi, lAt_is hk] at hRR
  dsimp only at hRR
  have HP1 := Lib.hid (fun W hb => HP.out W hb i hr)
  have HP2 := Lib.hid (fun W hb => HPO.out W hb k hr2)
  have di : decide ((i : Int) < 0) = false := decide_eq_false (by omega)
  have dk : decide ((k : Int) < 0) = false := decide_eq_false (by omega)
  have him : i < mn := by omega
  have hkm : k < mn := by omega
  have hl1 : l1.length ≤ 10000 := HLL.out _ (List.mem_of_getElem? hi)
  have hl2 : l2.length ≤ 10000 := HLL.out _ (List.mem_of_getElem? hk)
  have HI := Lib.hid hi
  have HK := Lib.hid hk
  clear hr hr2 HP HPO hBL hi hk hil hkl
  have HAT : Hid (∀ W, Below w.heap.size w W → ∃ b off al ll cl, ma = some ⟨b, off, none⟩ ∧ b < w.heap.size ∧ W.cell? ⟨b, off + k * 3, none⟩ = some (.string nmk) ∧ W.cell? ⟨b, off + k * 3 + 1, none⟩ = some (.bool onk) ∧ W.cell? ⟨b, off + k * 3 + 2, none⟩ = some (.slice al ll cl) ∧ SpD W al ll cl l2) := fun W hb => by
    obtain ⟨b, off, nm', on', al, ll, cl, l', e1, e2, e3, _, x0, x1, x2, hs⟩ := HD.out.at k hkm
    have e4 := Option.some.inj (HK.out.symm.trans e2)
    cases e4
    exact ⟨b, off, al, ll, cl, e1, e3, (hb.cell (p := ⟨b, off + k * 3, none⟩) e3).trans x0, (hb.cell (p := ⟨b, off + k * 3 + 1, none⟩) e3).trans x1, (hb.cell (p := ⟨b, off + k * 3 + 2, none⟩) e3).trans x2, hs.later hb⟩
  obtain ⟨b, off, al, ll, cl, rfl, hb0, x0, x1, x2, hs⟩ := HAT.out w HR0.out
  have HX : Hid (∀ W, Below w.heap.size w W → W.cell? ⟨b, off + k * 3 + 2, none⟩ = some (.slice al ll cl)) := fun W hb => (hb.cell (p := ⟨b, off + k * 3 + 2, none⟩) hb0).trans x2
  have HS := Lib.hid hs
  have hll : l2.length = ll := hs.1.1
  clear HAT x0 x1 x2 hs hb0
  obtain ⟨R, hR⟩ := named (decide (Rt (-1) l2))
  have HRT := Lib.hid (fun W (hb : Below w.heap.size w W) => spanRight_is al ll cl l2 W (HS.out.later hb).1 HS.out.2.2.1 R hR.out)
  cases R with
  | false =>
    rw [if_neg (of_decide_eq_false hR.out)] at hRR
    have hset : B.set i (nm1, on1, l1) = B := set_self HI.out
    rw [hset] at hRR
    subst hRR
    clear hR hRM
    go_enter Try.func19, Try.ntmps19
    go_wp2_with (first
      | (go_at_call 37; (with_reducible refine (HP1.out _ HR0.out).mono ?_); rintro e w2 ⟨rfl, hb⟩; have HB2 := Lib.hid hb; clear hb HP1)
      | (go_at_call 37; (with_reducible refine (HP2.out _ HB2.out).mono ?_); rintro e w3 ⟨rfl, hb⟩; have HB3 := Lib.hid (HB2.out.trans (hb.mono HB2.out.size)); clear hb HP2)
      | (go_at_call 38; refine (HCM.out _ HB3.out).mono ?_; rintro e w4 ⟨a1, c1, rfl, hB, hb⟩; have HN4 := Lib.hid (hB.mono (base' := w.heap.size) HB3.out.size); have HB4 := Lib.hid (HB3.out.trans (hb.mono HB3.out.size)); have x2 := HX.out _ HB4.out; clear hB hb)
      | (go_at_call 39; refine (HRT.out _ HB4.out).mono ?_; rintro e w5 ⟨rfl, hb⟩; have HB5 := Lib.hid hb; clear hb))
    go_ret2
    exact ⟨_, _, _, rfl, HN4.out.later HB5.out, HB4.out.trans (HB5.out.mono HB4.out.size)⟩
  | true =>
    rw [if_pos (of_decide_eq_true hR.out)] at hRR
    subst hRR
    clear hR hRM
    go_enter Try.func19, Try.ntmps19
    go_wp2_with (first
      | (go_at_call 37; (with_reducible refine (HP1.out _ HR0.out).mono ?_); rintro e w2 ⟨rfl, hb⟩; have HB2 := Lib.hid hb; clear hb HP1)
      | (go_at_call 37; (with_reducible refine (HP2.out _ HB2.out).mono ?_); rintro e w3 ⟨rfl, hb⟩; have HB3 := Lib.hid (HB2.out.trans (hb.mono HB2.out.size)); clear hb HP2)
      | (go_at_call 38; refine (HCM.out _ HB3.out).mono ?_; rintro e w4 ⟨a1, c1, rfl, hB, hb⟩; have HN4 := Lib.hid (hB.mono (base' := w.heap.size) HB3.out.size); have HB4 := Lib.hid (HB3.out.trans (hb.mono HB3.out.size)); have x2 := HX.out _ HB4.out; clear hB hb)
      | (go_at_call 39; refine (HRT.out _ HB4.out).mono ?_; rintro e w5 ⟨rfl, hb⟩; have HB5 := Lib.hid hb; have HN5 := Lib.hid (HN4.out.later hb); have HB5 := Lib.hid (HB4.out.trans (hb.mono HB4.out.size)); have x2' := HX.out _ HB5.out; clear hb))
    go_loopw [39] (fun i' wr => ∃ j : Nat, j ≤ ll ∧ i' = .int .i64 j ∧ Hid (BmsN wr w.heap.size a1 mn c1 (B.set i (nm1, on1, (l2.take j).foldl addL l1))) ∧ Hid (Below w.heap.size w wr)) (fun i _ => ll - (intOf i).toNat)
    case atStart => exact ⟨0, Nat.zero_le _, rfl, (by rw [List.take_zero, List.foldl_nil, set_self HI.out]; exact HN5.out : BmsN _ w.heap.size a1 mn c1 (B.set i (nm1, on1, (l2.take 0).foldl addL l1))), HB5.out⟩
    case round =>
      obtain ⟨j, hj, rfl, HNj, HBj⟩ := hrel
      by_cases hlt : j < ll
      · obtain ⟨g, nm', on', al1, ll1, cl1, l', rfl, hg1, hg2, hBi, y0, y1, y2, hfz, hsp, _, HSP, _⟩ := HNj.out.at i him
        rw [set_at (by have := HBL.out; omega)] at hBi
        have hBi := Option.some.inj hBi
        cases hBi
        have hs2 := (HS.out.later HBj.out).1
        obtain ⟨bs, os, rfl, hbs, _⟩ : ∃ bs os, al = some ⟨bs, os, none⟩ ∧ bs < wr.heap.size ∧ True := by
          rcases hs2.2.2 with h0 | ⟨b, o, h1, h2, _⟩
          · omega
          · exact ⟨b, o, h1, h2, trivial⟩
        obtain ⟨z0, z1⟩ := span_cells hs2 j hlt
        have hxf := hfz (i * 3 + 2)
        have hsl := hsp.d.1.1
        have hfl := foldA_len2 (l2.take j) l1
        rw [List.length_take] at hfl
        have HNX : Hid ((B.set i (nm1, on1, (l2.take j).foldl addL l1)).set i (nm1, on1, addL ((l2.take j).foldl addL l1) (spAt l2 j)) = B.set i (nm1, on1, (l2.take (j + 1)).foldl addL l1)) := by
          rw [List.set_set, foldA_take (by omega)]
          exact Lib.hid rfl
        have hfit : I64 (spAt l2 j).1 ∧ I64 (spAt l2 j).2 := HS.out.2.2.2 _ (List.mem_of_getElem? (spAt_some l2 j (by omega)))
        have HFIT := Lib.hid hfit
        obtain ⟨⟨f0, t0⟩, hft⟩ := named (spAt l2 j)
        rw [hft.out] at z0 z1 HNX HFIT
        dsimp only at z0 z1 HNX HFIT
        obtain ⟨LJ, hLJ⟩ := named ((l2.take j).foldl addL l1)
        rw [hLJ.out] at hsp hsl hfl
        have HSPN := Lib.hid hsp
        have HLJ : Hid (LJ.length ≤ 20000) := Lib.hid (by omega)
        have HGG := Lib.hid (And.intro hg1 hg2)
        have HBR2 := Lib.hid ((Below.refl wr.heap.size wr).alloc (Nat.le_refl _) (.cells #[.int .i64 f0, .int .i64 t0] 40))
        have HSX : Hid (Blk (wr.alloc (.cells #[.int .i64 f0, .int .i64 t0] 40)) wr.heap.size 40 #[.int .i64 f0, .int .i64 t0]) := Blk.new _ _ _
        have HAD : Hid (∀ W, Below (wr.alloc (.cells #[.int .i64 f0, .int .i64 t0] 40)).heap.size (wr.alloc (.cells #[.int .i64 f0, .int .i64 t0] 40)) W → Calls Try.prog 40 #[.slice al1 ll1 cl1, .agg #[.int .i64 f0, .int .i64 t0]] W fun e w' => ∃ (a' : Option Addr) (n' c' : Nat), e = .returned (.slice a' n' c') ∧ SpN w' w.heap.size a' n' c' (addL LJ (f0, t0)) ∧ Below (wr.alloc (.cells #[.int .i64 f0, .int .i64 t0] 40)).heap.size (wr.alloc (.cells #[.int .i64 f0, .int .i64 t0] 40)) w') := fun W hb =>
          (spanAdd_any al1 ll1 cl1 LJ f0 t0 W ((HSPN.out.d.later (HBR2.out.trans (hb.mono HBR2.out.size))).1) HSPN.out.d.2.1.2 HSPN.out.d.2.1.1 (by have := HLJ.out; omega) HSPN.out.2.2 HFIT.out.1 HFIT.out.2).mono fun e w' ⟨a', c', e1, e2, e3, e4⟩ => ⟨a', _, c', e1, ⟨e2.monoB (Nat.le_trans HBj.out.size (Nat.le_trans HBR2.out.size hb.size)), by have := addL_len LJ (f0, t0); have := HLJ.out; omega, (addL_right LJ (f0, t0)).fit (Int.le_refl _)⟩, hb.trans (e4.mono hb.size)⟩
        rw [hLJ.out] at HNX
        have HNL := Lib.hid (hLJ.out ▸ HNj.out)
        have v0 : (wr.alloc (.cells #[.int .i64 f0, .int .i64 t0] 40)).cell? ⟨wr.heap.size, 0, none⟩ = some (.int .i64 f0) := HSX.out.cell 0
        have v1 : (wr.alloc (.cells #[.int .i64 f0, .int .i64 t0] 40)).cell? ⟨wr.heap.size, 1, none⟩ = some (.int .i64 t0) := HSX.out.cell 1
        have hgX : wr.heap.size ≠ g := by omega
        have HKP : Hid (∀ W, Below (wr.alloc (.cells #[.int .i64 f0, .int .i64 t0] 40)).heap.size (wr.alloc (.cells #[.int .i64 f0, .int .i64 t0] 40)) W → W.cell? ⟨wr.heap.size, 0, none⟩ = some (.int .i64 f0) ∧ W.cell? ⟨wr.heap.size, 1, none⟩ = some (.int .i64 t0)) := fun W hb => ⟨(HSX.out.later hb).cell 0, (HSX.out.later hb).cell 1⟩
        have HKF : Hid (∀ W v, Below (wr.alloc (.cells #[.int .i64 f0, .int .i64 t0] 40)).heap.size (wr.alloc (.cells #[.int .i64 f0, .int .i64 t0] 40)) W → (W.setCell ⟨g, i * 3 + 2, none⟩ v).cell? ⟨wr.heap.size, 0, none⟩ = some (.int .i64 f0) ∧ (W.setCell ⟨g, i * 3 + 2, none⟩ v).cell? ⟨wr.heap.size, 1, none⟩ = some (.int .i64 t0)) := fun W v hb => ⟨((HSX.out.later hb).other hgX v).cell 0, ((HSX.out.later hb).other hgX v).cell 1⟩
        have HCF : Hid (∀ W, Below (wr.alloc (.cells #[.int .i64 f0, .int .i64 t0] 40)).heap.size (wr.alloc (.cells #[.int .i64 f0, .int .i64 t0] 40)) W → W.cell? ⟨g, i * 3 + 2, none⟩ = some (.slice al1 ll1 cl1) ∧ W.frozen? ⟨g, i * 3 + 2, none⟩ = false) := fun W hb => ⟨((HBR2.out.trans (hb.mono HBR2.out.size)).cell (p := ⟨g, i * 3 + 2, none⟩) hg2).trans y2, ((HBR2.out.trans (hb.mono HBR2.out.size)).frozen (p := ⟨g, i * 3 + 2, none⟩) hg2).trans hxf⟩
        have HRX := Lib.hid (Below.refl (wr.alloc (.cells #[.int .i64 f0, .int .i64 t0] 40)).heap.size (wr.alloc (.cells #[.int .i64 f0, .int .i64 t0] 40)))
        clear hft hLJ hfit hsp hsl hfl HSP hs2 hfz hgX
        go_wp2
        refine wp_region_held_drew (S := fun W => W.cell? ⟨wr.heap.size, 0, none⟩ = some (.int .i64 f0) ∧ W.cell? ⟨wr.heap.size, 1, none⟩ = some (.int .i64 t0)) (by kernel_rfl) (by first | assumption | with_reducible exact HKP.out _ HRX.out | with_reducible exact HKP.out _ HRX.out.drew | with_reducible exact HKP.out _ HB5.out | exact HKF.out _ _ HB5.out) (fun hHeld => ?_)
        refine wpAnyH_take (i := 0) (oi := _) (v := ?va0) rfl (by kernel_rfl) (by kernel_rfl) (by kernel_rfl) (fun _ _ _ h => h) (Or.inl ⟨by rfl, ?hya0⟩) (by assumption) ?resta0
        case hya0 => (intro wz hSw; (try dsimp only at hSw); go_simp; try with_reducible rfl)
        (try simp only [List.getElem_toArray, List.getElem_cons_zero, Act.put, List.setIfInBounds_toArray, List.set_cons_zero, List.set_cons_succ])
        refine wpAnyH_take (i := 1) (oi := _) (v := ?va1) rfl (by kernel_rfl) (by kernel_rfl) (by kernel_rfl) (fun _ _ _ h => h) (Or.inl ⟨by rfl, ?hya1⟩) (by assumption) ?resta1
        case hya1 => (intro wz hSw; (try dsimp only at hSw); go_simp; try with_reducible rfl)
        (try simp only [List.getElem_toArray, List.getElem_cons_zero, List.getElem_cons_succ, Act.put, List.setIfInBounds_toArray, List.set_cons_zero, List.set_cons_succ])
        refine wpAnyH_take (i := 2) (oi := _) (v := ?va2) rfl (by kernel_rfl) (by kernel_rfl) (by kernel_rfl) (fun _ _ _ h => h) (Or.inl ⟨by rfl, ?hya2⟩) (by assumption) ?resta2
        case hya2 => (intro wz hSw; (try dsimp only at hSw); go_simp; try with_reducible rfl)
        (try simp only [List.getElem_toArray, List.getElem_cons_zero, List.getElem_cons_succ, Act.put, List.setIfInBounds_toArray, List.set_cons_zero, List.set_cons_succ])
        refine wpAnyH_take (i := 3) (oi := _) (v := ?va3) rfl (by kernel_rfl) (by kernel_rfl) (by kernel_rfl) (fun _ _ _ h => h) (Or.inl ⟨by rfl, ?hya3⟩) (by assumption) ?resta3
        case hya3 => (intro wz hSw; (try dsimp only at hSw); go_simp; try with_reducible rfl)
        (try simp only [List.getElem_toArray, List.getElem_cons_zero, List.getElem_cons_succ, Act.put, List.setIfInBounds_toArray, List.set_cons_zero, List.set_cons_succ])
        refine wpAnyH_take (i := 4) (oi := _) (v := ?va4) rfl (by kernel_rfl) (by kernel_rfl) (by kernel_rfl) (fun _ _ _ h => h) (Or.inl ⟨by rfl, ?hya4⟩) (by assumption) ?resta4
        case hya4 => (intro wz hSw; (try dsimp only at hSw); go_simp; try with_reducible rfl)
        (try simp only [List.getElem_toArray, List.getElem_cons_zero, List.getElem_cons_succ, Act.put, List.setIfInBounds_toArray, List.set_cons_zero, List.set_cons_succ])
        refine wpAnyH_take (i := 5) (oi := _) (v := ?va5) rfl (by kernel_rfl) (by kernel_rfl) (by kernel_rfl) (fun _ _ _ h => h) (Or.inl ⟨by rfl, ?hya5⟩) (by assumption) ?resta5
        case hya5 => (intro wz hSw; (try dsimp only at hSw); go_simp; try with_reducible rfl)
        (try simp only [List.getElem_toArray, List.getElem_cons_zero, List.getElem_cons_succ, Act.put, List.setIfInBounds_toArray, List.set_cons_zero, List.set_cons_succ])
        refine wpAnyH_take (i := 7) (oi := _) (v := ?va7) rfl (by kernel_rfl) (by kernel_rfl) (by kernel_rfl) (fun _ _ _ h => h) (Or.inl ⟨by rfl, ?hya7⟩) (by assumption) ?resta7
        case hya7 => (intro wz hSw; (try dsimp only at hSw); go_simp; try with_reducible rfl)
        (try simp only [List.getElem_toArray, List.getElem_cons_zero, List.getElem_cons_succ, Act.put, List.setIfInBounds_toArray, List.set_cons_zero, List.set_cons_succ])
        refine wpAnyH_ready (rs := [6]) (by kernel_rfl) (by simp) ?_
        refine AllReadyH.cons (o := _) rfl (fun K hK => ?_) AllReadyH.nil
        rw [if_pos (by rfl)]
        go_simp
        refine hK.out _ _ (by first | assumption | with_reducible exact HKP.out _ HRX.out | with_reducible exact HKP.out _ HRX.out.drew | with_reducible exact HKP.out _ HB5.out | exact HKF.out _ _ HB5.out) (fun hHeld => ?_)
        clear hK K
        (try simp only [List.getElem_toArray, List.getElem_cons_zero, List.getElem_cons_succ, Act.put, List.setIfInBounds_toArray, List.set_cons_zero, List.set_cons_succ])
        refine wpAnyH_ready (rs := [8]) (by kernel_rfl) (by simp) ?_
        refine AllReadyH.cons (o := _) rfl (fun K hK => ?_) AllReadyH.nil
        rw [if_pos (by rfl)]
        go_simp
        (go_at_call 40; with_reducible refine (HAD.out _ HRX.out.drew).mono ?_; rintro e w5 ⟨a5, n5, c5, rfl, hN, hb⟩; have HN5 := Lib.hid hN; have HB5 := Lib.hid hb; obtain ⟨u2', uf'⟩ := HCF.out _ hb; clear hN hb)
        dsimp only
        refine hK.out _ _ (by first | assumption | with_reducible exact HKP.out _ HRX.out | with_reducible exact HKP.out _ HRX.out.drew | with_reducible exact HKP.out _ HB5.out | exact HKF.out _ _ HB5.out) (fun hHeld => ?_)
        clear hK K
        (try simp only [List.getElem_toArray, List.getElem_cons_zero, List.getElem_cons_succ, Act.put, List.setIfInBounds_toArray, List.set_cons_zero, List.set_cons_succ])
        refine wpAnyH_take (i := 9) (oi := _) (v := ?va9) rfl (by kernel_rfl) (by kernel_rfl) (by kernel_rfl) (fun _ _ _ h => h) (Or.inl ⟨by rfl, ?hya9⟩) (by assumption) ?resta9
        case hya9 => (intro wz hSw; (try dsimp only at hSw); go_simp; try with_reducible rfl)
        (try simp only [List.getElem_toArray, List.getElem_cons_zero, List.getElem_cons_succ, Act.put, List.setIfInBounds_toArray, List.set_cons_zero, List.set_cons_succ])
        refine wpAnyH_take (i := 10) (oi := _) (v := ?va10) rfl (by kernel_rfl) (by kernel_rfl) (by kernel_rfl) (fun _ _ _ h => h) (Or.inl ⟨by rfl, ?hya10⟩) (by assumption) ?resta10
        case hya10 => (intro wz hSw; (try dsimp only at hSw); go_simp; try with_reducible rfl)
        (try simp only [List.getElem_toArray, List.getElem_cons_zero, List.getElem_cons_succ, Act.put, List.setIfInBounds_toArray, List.set_cons_zero, List.set_cons_succ])
        refine wpAnyH_ready (rs := [11]) (by kernel_rfl) (by simp) ?_
        refine AllReadyH.cons (o := _) rfl (fun K hK => ?_) AllReadyH.nil
        rw [if_pos (by rfl)]
        go_simp
        refine hK.out _ _ (by first | assumption | with_reducible exact HKP.out _ HRX.out | with_reducible exact HKP.out _ HRX.out.drew | with_reducible exact HKP.out _ HB5.out | exact HKF.out _ _ HB5.out) (fun hHeld => ?_)
        clear hK K
        (try simp only [List.getElem_toArray, List.getElem_cons_zero, List.getElem_cons_succ, Act.put, List.setIfInBounds_toArray, List.set_cons_zero, List.set_cons_succ])
        refine wpAnyH_done (by kernel_rfl) ?_ _
        have HB7 := Lib.hid (HBR2.out.trans (HB5.out.mono HBR2.out.size))
        obtain ⟨g', nm', on', al', ll', cl', l', hgg, _, _, hBi', u0, u1, u2, ufz, _, _, hSP7, _⟩ := (HNL.out.later HB7.out).at i him
        cases hgg
        have HSP7 := Lib.hid hSP7
        have HBI2 := Lib.hid hBi'
        clear hBi' ufz hSP7
        obtain ⟨q1, q2⟩ := HSP7.out _ _ _ _ HN5.out
        have hq := HBI2.out
        rw [set_at (by have := HBL.out; omega)] at hq
        have hq := Option.some.inj hq
        cases hq
        rw [HNX.out] at q1
        have HQ1 := Lib.hid q1
        have HQ2 := Lib.hid q2
        clear q1 q2 u0 u1 u2 u2' uf'
        go_wp2
        go_roundw
        case rel => exact ⟨j + 1, by omega, by go_num, HQ1.out, belowRow (HBj.out.trans (HB7.out.mono HBj.out.size)) HQ2.out HGG.out.1 (Nat.le_trans HBj.out.size HB7.out.size)⟩
        case measure => simp [intOf]; omega
      · obtain rfl : j = ll := by omega
        go_wp2
        go_ret2
        have hr := HNj.out
        rw [List.take_of_length_le (Nat.le_of_eq hll)] at hr
        exact ⟨_, _, c1, rfl, hr, HBj.out⟩
end Go.Proofs.Ytipljkegmhclkaa
namespace Go.Proofs.Ytipljkegmhclkaa
open Go.RowKit
set_option linter.unusedVariables false

theorem map_tail {w : World} {base n c g : Nat} {ds : List Bm} (h : OwnG bmV 43 3 w base (.slice (some ⟨g, 0, none⟩) n c) n ds) (i : Nat) (hi : i < n) : ∃ A, (∀ W, (Instr.slice 26 (.slice (some ⟨g, 0, none⟩) n c) (some (.int .i64 ((i : Int) + 1))) none none).run Try.prog W = .ok (.slice (some A) (n - (i + 1)) (c - (i + 1))) W) ∧ Reads bmV w (some A) (n - (i + 1)) (ds.drop (i + 1)) := by
  obtain ⟨hR, hcap, hnc⟩ := h.reads bm_rowed
  have ei : ((i : Int) + 1) = ((i + 1 : Nat) : Int) := by omega
  by_cases hc : c = i + 1
  · have hn : n = i + 1 := by omega
    refine ⟨⟨g, 0, none⟩, fun W => ?_, ?_⟩
    · obtain ⟨i0, hi0, hi1⟩ := Option.map_eq_some_iff.1 bitmap_size
      rw [ei, hc, hn]
      simp [Instr.slice, Instr.sliceBounds, Instr.sliceBound, asIntOf, run_underlying Try.underlying26, sizeOf, typeInfo, hi0, hi1, Addr.add, go_sem]
      exact fun h => by omega
    · rw [show n - (i + 1) = 0 by omega, List.drop_eq_nil_of_le (by have := hR.1; omega)]
      exact Reads.nil _ _ _
  · refine ⟨⟨g, (i + 1) * 3, none⟩, fun W => ?_, ?_⟩
    · rw [ei]
      exact slice_backB (by omega) hnc (by omega) W
    · obtain ⟨h1, h2, h3⟩ := hR
      obtain ⟨b, off, e1, hb, hcell⟩ := h3.resolve_left (by omega)
      cases e1
      refine ⟨by rw [List.length_drop]; omega, by omega, ?_⟩
      by_cases h0 : n - (i + 1) = 0
      · exact Or.inl h0
      · refine Or.inr ⟨g, (i + 1) * 3, rfl, hb, fun j u hu => ?_⟩
        rw [flat_dropK bm_rowed.len, List.getElem?_drop] at hu
        have := hcell ((i + 1) * 3 + j) u hu
        rwa [Nat.zero_add] at this
end Go.Proofs.Ytipljkegmhclkaa
namespace Go.Proofs.Ytipljkegmhclkaa
open Go.RowKit
set_option linter.unusedVariables false

/-- Bitmaps that came in. -/
def BmsArg (w : World) (a : Option Addr) (len cap : Nat) : Prop := Caps a len cap ∧ ∃ g, MpO w a len g
theorem bms_open {H : Type} {enc : TypeId × Value → H} {W : World} {base : Nat} {held : Bool} {a : Option Addr} {len cap : Nat} {d : DataW H} {p : List MemPlace} (h : DataW.Trod enc Try.prog W base (fun _ => true) held 26 (.slice a len cap) d p) : BmsArg W a len cap := by
  obtain ⟨fuel, hf⟩ := h
  obtain ⟨ma, mn, mc, e5, hmc0, gm, hm1, hm2⟩ := row3_open (α := MpA) Try.underlying26 (by kernel_rfl) (fun g => .string g.1) (fun g => .bool g.2.1) (fun g => .slice g.2.2.1 g.2.2.2.1 g.2.2.2.2) (fun g => g.1.size ≤ 9223372036854775807 ∧ ∃ z, IsSpans W g.2.2.1 g.2.2.2.1 g.2.2.2.2 z) mp_of_trod hf
  simp [Value.cells] at e5
  obtain ⟨rfl, rfl, rfl⟩ := e5
  exact ⟨hmc0, gm, hm1, hm2⟩
theorem BmsArg.later {w w' : World} {a : Option Addr} {len cap : Nat} (h : BmsArg w a len cap) (hb : Below w.heap.size w w') : BmsArg w' a len cap := by
  obtain ⟨hc, g, h1, h2⟩ := h
  exact ⟨hc, g, h1.later hb, fun i hi => ⟨(h2 i hi).1, by obtain ⟨z, hz⟩ := (h2 i hi).2; exact ⟨z, hz.later hb⟩⟩⟩
/-- The bitmaps are gone through. -/
def LetS (w : World) (a : Option Addr) (len cap : Nat) : Prop := ∃ B, BmsD w a len cap B ∧ len ≤ 30 ∧ ∀ b ∈ B, b.2.2.length ≤ 300 ∧ b.1.size ≤ 1000 ∧ Rt (-1) b.2.2
end Go.Proofs.Ytipljkegmhclkaa
namespace Go.Proofs.Ytipljkegmhclkaa
open Go.RowKit
set_option linter.unusedVariables false

end Go.Proofs.Ytipljkegmhclkaa
namespace Go.Proofs.Ytipljkegmhclkaa
open Go.RowKit
set_option linter.unusedVariables false

def hasB (l : List Sp) (n : Int) : Bool := l.any fun x => decide (x.1 ≤ n) && decide (n < x.2)
theorem hasB_iff (l : List Sp) (n : Int) : hasB l n = true ↔ inL l n := by
  unfold hasB inL
  rw [List.any_eq_true]
  simp only [Bool.and_eq_true, decide_eq_true_eq]
theorem has_here {l : List Sp} {n : Int} (j : Nat) (hj : j < l.length) (h1 : (spAt l j).1 ≤ n) (h2 : n < (spAt l j).2) : hasB l n = true :=
  (hasB_iff l n).2 ⟨spAt l j, List.mem_of_getElem? (spAt_some l j hj), h1, h2⟩
theorem has_none {l : List Sp} {n : Int} (h : ∀ k, k < l.length → ¬ ((spAt l k).1 ≤ n ∧ n < (spAt l k).2)) : hasB l n = false := by
  rw [Bool.eq_false_iff]
  intro g
  obtain ⟨x, hx, hn⟩ := (hasB_iff l n).1 g
  obtain ⟨k, hk, rfl⟩ := List.getElem_of_mem hx
  have := h k hk
  have e : spAt l k = l[k] := by
    have := spAt_some l k hk
    rw [List.getElem?_eq_getElem hk] at this
    injection this with this
    exact this.symm
  rw [e] at this
  exact this hn

set_option maxHeartbeats 1600000 in
theorem refHas_any (a : Option Addr) (len cap : Nat) (l : List Sp) (n : Int) (w : World) (hB : Spans w a len l) (hnil : a = none → cap = 0) (hlen : len ≤ 100000) :
    Calls Try.prog 21 #[.slice a len cap, .int .i64 n] w fun e w' => e = .returned (.bool (hasB (norm l) n)) ∧ Below w.heap.size w w' := by
  have HR := Lib.hid (refNorm_any a len cap l w hB hnil hlen)
  have hk := norm_len l
  rw [hB.1] at hk
  obtain ⟨L, HL⟩ := named (norm l)
  rw [HL.out] at HR hk ⊢
  obtain ⟨K, HK⟩ := named L.length
  rw [HK.out] at hk
  obtain ⟨R, HRR⟩ := named (hasB L n)
  rw [HRR.out]
  clear hB hnil
  go_enter Try.func21, Try.ntmps21
  go_wp2_with (go_at_call 41; refine HR.out.mono ?_; rintro e w1 hp; obtain ⟨a1, c1, rfl, hS, _, hb⟩ := hp.named HK.out; have HS := Lib.hid hS; have HG := Lib.hid hb; clear hp hS hb)
  go_loop [5] (fun i => ∃ j : Nat, j ≤ K ∧ i = .int .i64 j ∧ Hid (∀ k, k < j → ¬ ((spAt L k).1 ≤ n ∧ n < (spAt L k).2))) (fun i => K - (intOf i).toNat)
  case atStart => exact ⟨0, Nat.zero_le _, rfl, fun k hk => by omega⟩
  case round =>
    obtain ⟨j, hj, rfl, HJ⟩ := hrel
    by_cases hlt : j < K
    · obtain ⟨b, off, rfl⟩ := HS.out.lies (by omega)
      obtain ⟨c1, c2⟩ := span_cells HS.out j hlt
      have hh := fun h1 h2 => has_here (n := n) j (by rw [HK.out]; exact hlt) h1 h2
      obtain ⟨⟨f, t⟩, HF⟩ := named (spAt L j)
      rw [HF.out, HRR.out] at hh
      rw [HF.out] at c1 c2
      rcases (by omega : (f ≤ n ∧ n < t) ∨ n < f ∨ (f ≤ n ∧ t ≤ n)) with ⟨h1, h2⟩ | h1 | ⟨h1, h2⟩
      · have hr : R = true := hh h1 h2
        subst hr
        clear hh
        go_wp2
        go_ret
        exact ⟨rfl, HG.out⟩
      · have HJ2 : Hid (∀ k, k < j + 1 → ¬ ((spAt L k).1 ≤ n ∧ n < (spAt L k).2)) := fun k hk => by
          by_cases e : k = j
          · subst e
            rw [HF.out]
            show ¬ (f ≤ n ∧ n < t)
            omega
          · exact HJ.out k (by omega)
        clear hh
        go_wp2
        go_round
        case rel => exact ⟨j + 1, by omega, by go_num, HJ2.out⟩
        case measure => simp [intOf]; omega
      · have HJ2 : Hid (∀ k, k < j + 1 → ¬ ((spAt L k).1 ≤ n ∧ n < (spAt L k).2)) := fun k hk => by
          by_cases e : k = j
          · subst e
            rw [HF.out]
            show ¬ (f ≤ n ∧ n < t)
            omega
          · exact HJ.out k (by omega)
        clear hh
        go_wp2
        go_round
        case rel => exact ⟨j + 1, by omega, by go_num, HJ2.out⟩
        case measure => simp [intOf]; omega
    · obtain rfl : j = K := by omega
      have hf : R = false := by rw [← HRR.out]; exact has_none (by rw [HK.out]; exact HJ.out)
      subst hf
      go_wp2
      go_ret
      exact ⟨rfl, HG.out⟩

/-- How many numbers. -/
def sumTo4 (l : List Sp) : Nat → Int
  | 0 => 0
  | j + 1 => sumTo4 l j + (spAt l j).2 - (spAt l j).1
def sumL (l : List Sp) : Int := sumTo4 l l.length
theorem right_at {l : List Sp} (h : Rt (-1) l) {j : Nat} (hj : j < l.length) : 0 ≤ (spAt l j).1 ∧ (spAt l j).1 < (spAt l j).2 ∧ (spAt l j).2 ≤ 1073741824 :=
  (mayB_iff _).1 ((okTo_all l).1 h j hj).1
theorem sumTo_bd {l : List Sp} (h : Rt (-1) l) : ∀ j, j ≤ l.length → 0 ≤ sumTo4 l j ∧ sumTo4 l j ≤ 1073741824 * j
  | 0, _ => by simp [sumTo4]
  | j + 1, hj => by
    have ih := sumTo_bd h j (by omega)
    have hx := right_at h (j := j) (by omega)
    show 0 ≤ sumTo4 l j + (spAt l j).2 - (spAt l j).1 ∧ sumTo4 l j + (spAt l j).2 - (spAt l j).1 ≤ 1073741824 * ((j + 1 : Nat) : Int)
    omega

set_option maxHeartbeats 1600000 in
theorem refCount_any (a : Option Addr) (len cap : Nat) (l : List Sp) (w : World) (hB : Spans w a len l) (hnil : a = none → cap = 0) (hlen : len ≤ 100000) :
    Calls Try.prog 36 #[.slice a len cap] w fun e w' => e = .returned (.int .i64 (sumL (norm l))) ∧ Below w.heap.size w w' := by
  have HR := Lib.hid (refNorm_any a len cap l w hB hnil hlen)
  have hk := norm_len l
  rw [hB.1] at hk
  have HRT := Lib.hid (norm_right l)
  obtain ⟨L, HL⟩ := named (norm l)
  rw [HL.out] at HR hk HRT ⊢
  obtain ⟨K, HK⟩ := named L.length
  rw [HK.out] at hk
  have HBD := Lib.hid (fun j => sumTo_bd HRT.out j)
  have HAT := Lib.hid (fun j => right_at HRT.out (j := j))
  have HS1 : Hid (∀ j, sumTo4 L (j + 1) = sumTo4 L j + (spAt L j).2 - (spAt L j).1) := fun _ => rfl
  unfold sumL
  rw [HK.out]
  rw [HK.out] at HBD HAT
  clear hB hnil
  go_enter Try.func36, Try.ntmps36
  go_wp2_with (go_at_call 41; refine HR.out.mono ?_; rintro e w1 hp; obtain ⟨a1, c1, rfl, hS, _, hb⟩ := hp.named HK.out; have HS := Lib.hid hS; have HG := Lib.hid hb; clear hp hS hb)
  go_loopw [3, 4] (fun x i wr => ∃ (j : Nat) (t : Int), j ≤ K ∧ i = .int .i64 j ∧ x = .int .i64 t ∧ Hid (t = sumTo4 L j) ∧ Hid (Below w1.heap.size w1 wr)) (fun _ i _ => K - (intOf i).toNat)
  case atStart => exact ⟨0, 0, Nat.zero_le _, rfl, rfl, rfl, Below.refl _ _⟩
  case round =>
    obtain ⟨j, x, hj, rfl, rfl, HT, HGr⟩ := hrel
    by_cases hlt : j < K
    · obtain ⟨b, off, rfl⟩ := HS.out.lies (by omega)
      obtain ⟨c1, c2⟩ := span_cells (HS.out.later HGr.out) j hlt
      have hb1 := HBD.out j hj
      have hb2 := HBD.out (j + 1) hlt
      have hat := HAT.out j hlt
      have hs1 := HS1.out j
      rw [hs1] at hb2
      obtain ⟨⟨f, t⟩, HF⟩ := named (spAt L j)
      rw [HF.out] at c1 c2 hb2 hat hs1
      rw [← HT.out] at hb1 hb2 hs1
      have hb2' : 0 ≤ x + t - f := hb2.1
      have hb3 : x ≤ 1073741824 * (j : Int) := hb1.2
      obtain ⟨y, hy, hy2⟩ : ∃ y, IntKind.i64.wrap (x + t) = y ∧ y = x + t := ⟨x + t, by
        have h1 : 0 ≤ f := hat.1
        have h2 : f < t := hat.2.1
        have h3 : t ≤ 1073741824 := hat.2.2
        have h4 : 0 ≤ x := hb1.1
        rw [IntKind.wrap_i64]
        omega, rfl⟩
      obtain ⟨z, hz, hz2⟩ : ∃ z, IntKind.i64.wrap (y - f) = z ∧ z = x + t - f := ⟨x + t - f, by
        have h1 : 0 ≤ f := hat.1
        have h2 : f < t := hat.2.1
        have h3 : t ≤ 1073741824 := hat.2.2
        have h4 : 0 ≤ x := hb1.1
        rw [hy2, IntKind.wrap_i64]
        omega, rfl⟩
      have HZ : Hid (z = sumTo4 L (j + 1)) := by rw [Hid, hz2]; exact hs1.symm
      clear hb1 hb2 hb2' hb3 hat hs1 hy2 hz2
      go_wp2
      go_region
      go_wp2
      go_roundw
      case rel => exact ⟨j + 1, z, by omega, by go_num, rfl, HZ.out, HGr.out.drew⟩
      case measure => simp [intOf]; omega
    · obtain rfl : j = K := by omega
      go_wp2
      go_ret
      exact ⟨ret_int HT.out, HG.out.trans (HGr.out.mono HG.out.size)⟩

/-! Two lists, span by span. -/
end Go.Proofs.Ytipljkegmhclkaa
namespace Go.Proofs.Ytipljkegmhclkaa
open Go.RowKit
set_option linter.unusedVariables false

theorem num13 (z : Int) (hz : I64 z) (w : World) : Calls Try.prog 16 #[.int .i64 z] w fun e w' => e = .returned (.int .i64 z) ∧ w' = w := by
  go_enter Try.func16, Try.ntmps16
  go_wp2
  go_ret
  exact ⟨rfl, rfl⟩
theorem bmsD_none (w : World) : BmsD w none 0 0 [] := (BmsN.nil w 0).d
theorem addB_new {B : List BmM} {nm : ByteArray} (h1 : nameOk nm) (h2 : fndB nm B < 0) (h3 : B.length < 8) : addB B nm = (B ++ [(nm, true, [])], 0) := by
  unfold addB
  rw [if_neg (fun h => h h1), if_neg (by omega), if_neg (by omega)]
theorem addB_zero : addB [] txA = ([(txA, true, [])], 0) := addB_new txA_ok (by decide) (by decide)
theorem fndB_zero (l : List Sp) : fndB txA [(txA, true, l)] = 0 := by
  unfold fndB
  rw [if_pos rfl]
theorem touch_zero : [(txA, true, ([] : List Sp))].map (touchF (2, 4)) = [(txA, true, [(2, 4)])] := by
  have : addL [] (2, 4) = [(2, 4)] := by decide
  simp [touchF, this]
theorem clearB_zero (l : List Sp) : clearB [(txA, true, l)] txA = ([(txA, true, [])], 0) := by
  unfold clearB
  rw [fndB_zero]
  rfl
theorem awAdd13 (w : World) : Calls Try.prog 15 #[.slice none 0 0, .string ⟨#[97]⟩] w fun e w' => ∃ a c, e = .returned (.tuple #[.slice a 1 c, .int .i64 0]) ∧ BmsD w' a 1 c [(txA, true, [])] ∧ Below w.heap.size w w' := by
  refine (mapsAdd w none 0 0 [] (bmsD_none w) txA (by decide)).mono ?_
  rintro e w' ⟨a, n, c, he, hm, hb⟩
  rw [addB_zero] at he hm
  obtain rfl : 1 = n := hm.d.lens.1
  exact ⟨a, c, he, hm.d, hb⟩
theorem awTouch13 (w : World) (a : Option Addr) (c : Nat) (h : BmsD w a 1 c [(txA, true, [])]) : Calls Try.prog 20 #[.slice a 1 c, .agg #[.int .i64 2, .int .i64 4]] w fun e w' => ∃ a c, e = .returned (.slice a 1 c) ∧ BmsD w' a 1 c [(txA, true, [(2, 4)])] ∧ Below w.heap.size w w' := by
  refine (mapsTouch w a 1 c _ h (fun b hb => by simp at hb; subst hb; simp) 2 4 (by unfold I64; omega) (by unfold I64; omega)).mono ?_
  rintro e w' ⟨a, c, he, hm, hb⟩
  rw [touch_zero] at hm
  exact ⟨a, c, he, hm.d, hb⟩
theorem awClear13 (w : World) (a : Option Addr) (c : Nat) (h : BmsD w a 1 c [(txA, true, [(2, 4)])]) : Calls Try.prog 18 #[.slice a 1 c, .string ⟨#[97]⟩] w fun e w' => ∃ a c, e = .returned (.tuple #[.slice a 1 c, .int .i64 0]) ∧ BmsD w' a 1 c [(txA, true, [])] ∧ Below w.heap.size w w' := by
  refine (mapsClear w a 1 c _ h txA).mono ?_
  rintro e w' ⟨a, n, c, he, hm, hb⟩
  rw [clearB_zero] at he hm
  obtain rfl : 1 = n := hm.d.lens.1
  exact ⟨a, c, he, hm.d, hb⟩
/-- The only bitmap. -/
theorem BmsD.one {w : World} {a : Option Addr} {c : Nat} {nm : ByteArray} {on : Bool} {l : List Sp} (h : BmsD w a 1 c [(nm, on, l)]) : ∃ b off al cl, a = some ⟨b, off, none⟩ ∧ b < w.heap.size ∧ w.cell? ⟨b, off, none⟩ = some (.string nm) ∧ w.cell? ⟨b, off + 1, none⟩ = some (.bool on) ∧ w.cell? ⟨b, off + 2, none⟩ = some (.slice al l.length cl) ∧ SpD w al l.length cl l := by
  obtain ⟨b, off, nm', on', al, ll, cl, l', e1, e2, e3, _, x0, x1, x2, hs⟩ := h.at 0 (by omega)
  simp at e2
  obtain ⟨rfl, rfl, rfl⟩ := e2
  obtain rfl : l.length = ll := hs.1.1
  rw [Nat.zero_mul, Nat.add_zero] at x0 x1 x2
  exact ⟨b, off, al, cl, e1, e3, x0, x1, x2, hs⟩
set_option maxRecDepth 100000 in
set_option maxHeartbeats 1600000 in
theorem awake13 (w : World) : Calls Try.prog 14 #[] w fun e w' => e = .returned (.bool true) ∧ Below w.heap.size w w' := by
  have HNU := Lib.hid (fun (w : World) => num13 0 (by unfold I64; omega) w)
  go_enter Try.func14, Try.ntmps14
  go_wp2_with (first
    | (go_at_call 15; (with_reducible refine (awAdd13 _).mono ?_); rintro e w1 ⟨a1, c1, rfl, hm, hb1⟩; have HM1 := Lib.hid hm; have HB1 := Lib.hid hb1; clear hm hb1)
    | (go_at_call 20; refine (awTouch13 _ _ _ HM1.out).mono ?_; rintro e w2 ⟨a2, c2, rfl, hm, hb2⟩; have HM2 := Lib.hid hm; have HB2 := Lib.hid (HB1.out.trans (hb2.mono HB1.out.size)); clear hm hb2)
    | (go_at_call 18; refine (awClear13 _ _ _ HM2.out).mono ?_; rintro e w3 ⟨a3, c3, rfl, hm, hb3⟩; have HM3 := Lib.hid hm; have HM2' := Lib.hid (HM2.out.later hb3); have HB3 := Lib.hid (HB2.out.trans (hb3.mono HB2.out.size)); obtain ⟨b, off, al, cl, rfl, hlb, x0, x1, x2, hs⟩ := HM2'.out.one; obtain ⟨b', off', al', cl', rfl, hlb', y0, y1, y2, hs'⟩ := hm.one; have hs0 := hs.1; have hsn := hs.2.1.1; have HCN := Lib.hid (refCount_any al 1 cl [(2, 4)] w3 hs.1 hs.2.1.1 (by decide)); have HY := Lib.hid (And.intro hlb' y2); clear hm hb3 hs hs' y0 y1 y2 hs0 hsn)
    | (go_at_call 16; (with_reducible refine (HNU.out _).mono ?_); rintro e w' ⟨rfl, rfl⟩)
    | (go_at_call 36; refine HCN.out.mono ?_; rintro e w4 ⟨rfl, hb4⟩; have HB4 := Lib.hid (HB3.out.trans (hb4.mono HB3.out.size)); have y2 := (hb4.cell (p := ⟨b', off' + 2, none⟩) HY.out.1).trans HY.out.2; have hsum : sumL (norm [(2, 4)]) = 2 := (by decide); rw [hsum]; clear hb4))
  go_ret
  exact ⟨rfl, HB4.out⟩
end Go.Proofs.Ytipljkegmhclkaa
namespace Go.Proofs.Ytipljkegmhclkaa
open Go.RowKit
set_option linter.unusedVariables false

theorem touch_none {B : List BmM} (h : ∀ b ∈ B, Rt (-1) b.2.2) : B.map (touchF (0, 0)) = B := by
  have : ∀ b ∈ B, touchF (0, 0) b = b := fun b hb => by
    obtain ⟨nm, on, l⟩ := b
    have e : addL l (0, 0) = l := norm_of (h _ hb)
    unfold touchF
    dsimp only
    rw [e]
    cases on <;> rfl
  rw [List.map_congr_left this, List.map_id']
/-- Bitmaps that are gone through: at most 30 of them, no more than 300 spans each, right ones. -/
structure Lt (w : World) (a : Option Addr) (len cap : Nat) (B : List BmM) : Prop where
  d : BmsD w a len cap B
  n : len ≤ 30
  all : ∀ b ∈ B, b.2.2.length ≤ 300 ∧ b.1.size ≤ 1000 ∧ Rt (-1) b.2.2
theorem Lt.later {w w' : World} {a : Option Addr} {len cap : Nat} {B : List BmM} (h : Lt w a len cap B) (hb : Below w.heap.size w w') : Lt w' a len cap B := ⟨h.d.later hb, h.n, h.all⟩
theorem Lt.of {w : World} {a : Option Addr} {len cap : Nat} (h : LetS w a len cap) : ∃ B, Lt w a len cap B := by
  obtain ⟨B, h1, h2, h3⟩ := h
  exact ⟨B, h1, h2, h3⟩
def GiveL (n : Nat) (B : List BmM) (w : World) (e : Ending) (w' : World) : Prop := ∃ (a : Option Addr) (c : Nat), e = .returned (.slice a n c) ∧ BmsN w' w.heap.size a n c B ∧ Below w.heap.size w w'
section
variable {w : World} {a : Option Addr} {len cap : Nat} {B : List BmM}
theorem Lt.l1 (h : Lt w a len cap B) : ∀ b ∈ B, b.2.2.length ≤ 10000 := fun b hb => by have := (h.all b hb).1; omega
theorem Lt.l3 (h : Lt w a len cap B) : ∀ b ∈ B, b.2.2.length ≤ 30000 := fun b hb => by have := (h.all b hb).1; omega
theorem Lt.touchP (h : Lt w a len cap B) (sf st : Int) (h1 : I64 sf) (h2 : I64 st) : Calls Try.prog 20 #[.slice a len cap, .agg #[.int .i64 sf, .int .i64 st]] w (GiveL len (B.map (touchF (sf, st))) w) := mapsTouch w a len cap B h.d h.l3 sf st h1 h2
end
theorem addB_z (B : List BmM) (nm : ByteArray) : I64 (addB B nm).2 := by
  unfold addB I64
  split
  · dsimp only; omega
  · split
    · dsimp only; omega
    · split <;> (dsimp only; omega)
theorem dropB_z (B : List BmM) (nm : ByteArray) : I64 (dropB B nm).2 := by
  unfold dropB I64
  split <;> (dsimp only; omega)
theorem turnB_z (B : List BmM) (nm : ByteArray) (on : Bool) : I64 (turnB B nm on).2 := by
  unfold turnB I64
  split <;> (dsimp only; omega)
theorem clearB_z (B : List BmM) (nm : ByteArray) : I64 (clearB B nm).2 := by
  unfold clearB I64
  split <;> (dsimp only; omega)
theorem mergeB_z (B : List BmM) (nm nm2 : ByteArray) : I64 (mergeB B nm nm2).2 := by
  unfold mergeB I64
  split <;> (dsimp only; omega)
end Go.Proofs.Ytipljkegmhclkaa
