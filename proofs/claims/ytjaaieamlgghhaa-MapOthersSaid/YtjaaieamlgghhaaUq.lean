/-
  Bitmaps of one's own whose sets share no memory (R3): the project's copies.Bitmaps, maps.Turn, Clear, Merge. Conditions: the bitmaps read, short sets.
-/
import Derived.Test.YtjaaieamlgghhaaVa
namespace Go.Proofs.Ytjaaieamlgghhaa
open Go.RowKit
set_option linter.unusedVariables false

def rowOf (d : Bm) : Option Nat := (Value.slice d.2.2.1 d.2.2.2.1 d.2.2.2.2.1).ownBlock
def ApartB (ds : List Bm) : Prop := ∀ (i j : Nat) (d d' : Bm), i ≠ j → ds[i]? = some d → ds[j]? = some d' → ∀ g, rowOf d = some g → rowOf d' ≠ some g
theorem ApartB.nil : ApartB [] := fun i j d d' _ h => by simp at h
theorem ApartB.snoc {ds : List Bm} (h : ApartB ds) {m : Nat} (hlt : ∀ d ∈ ds, ∀ g, rowOf d = some g → g < m) {d' : Bm} (hd : ∀ g, rowOf d' = some g → m ≤ g) : ApartB (ds ++ [d']) := by
  have key : ∀ (i : Nat) (d : Bm), (ds ++ [d'])[i]? = some d → (i < ds.length ∧ ds[i]? = some d) ∨ (i = ds.length ∧ d = d') := fun i d hi => by
    by_cases c : i < ds.length
    · rw [List.getElem?_append_left c] at hi
      exact Or.inl ⟨c, hi⟩
    · have := (List.getElem?_eq_some_iff.1 hi).1
      rw [List.length_append] at this
      simp at this
      obtain rfl : i = ds.length := by omega
      rw [List.getElem?_append_right (Nat.le_refl _), Nat.sub_self] at hi
      exact Or.inr ⟨rfl, (Option.some.inj hi).symm⟩
  intro i j d e hij hi hj g hg hg'
  rcases key i d hi with ⟨_, hi2⟩ | ⟨rfl, rfl⟩ <;> rcases key j e hj with ⟨_, hj2⟩ | ⟨rfl, rfl⟩
  · exact h i j d e hij hi2 hj2 g hg hg'
  · have := hlt d (List.mem_of_getElem? hi2) g hg
    have := hd g hg'
    omega
  · have := hlt e (List.mem_of_getElem? hj2) g hg'
    have := hd g hg
    omega
  · exact hij rfl
theorem ApartB.set {ds : List Bm} (h : ApartB ds) {m : Nat} (hlt : ∀ d ∈ ds, ∀ g, rowOf d = some g → g < m) {d' : Bm} (hd : ∀ g, rowOf d' = some g → m ≤ g) (k : Nat) : ApartB (ds.set k d') := by
  have key : ∀ (i : Nat) (d : Bm), (ds.set k d')[i]? = some d → (i ≠ k ∧ ds[i]? = some d) ∨ (i = k ∧ d = d') := fun i d hi => by
    rw [List.getElem?_set] at hi
    by_cases c : k = i
    · rw [if_pos c] at hi
      split at hi
      · exact Or.inr ⟨c.symm, (Option.some.inj hi).symm⟩
      · cases hi
    · rw [if_neg c] at hi
      exact Or.inl ⟨fun e => c e.symm, hi⟩
  intro i j d e hij hi hj g hg hg'
  rcases key i d hi with ⟨_, hi2⟩ | ⟨rfl, rfl⟩ <;> rcases key j e hj with ⟨_, hj2⟩ | ⟨rfl, rfl⟩
  · exact h i j d e hij hi2 hj2 g hg hg'
  · have := hlt d (List.mem_of_getElem? hi2) g hg
    have := hd g hg'
    omega
  · have := hlt e (List.mem_of_getElem? hj2) g hg'
    have := hd g hg
    omega
  · exact hij rfl
theorem ApartB.same {ds : List Bm} (h : ApartB ds) {k : Nat} {d d' : Bm} (hk : ds[k]? = some d) (hr : rowOf d' = rowOf d) : ApartB (ds.set k d') := by
  have key : ∀ (i : Nat) (x : Bm), (ds.set k d')[i]? = some x → ∃ y, ds[i]? = some y ∧ rowOf y = rowOf x := fun i x hi => by
    rw [List.getElem?_set] at hi
    by_cases c : k = i
    · rw [if_pos c] at hi
      split at hi
      · have := Option.some.inj hi
        subst this
        subst c
        exact ⟨d, hk, hr.symm⟩
      · cases hi
    · rw [if_neg c] at hi
      exact ⟨x, hi, rfl⟩
  intro i j x y hij hi hj g hg hg'
  obtain ⟨x', hx, ex⟩ := key i x hi
  obtain ⟨y', hy, ey⟩ := key j y hj
  exact h i j x' y' hij hx hy g (ex ▸ hg) (ey ▸ hg')
def BmsX (w : World) (base : Nat) (a : Option Addr) (len cap : Nat) (B : List BmM) : Prop :=
  ∃ ds : List Bm, OwnG bmV 53 3 w base (.slice a len cap) len ds ∧ (∀ d ∈ ds, SpN w base d.2.2.1 d.2.2.2.1 d.2.2.2.2.1 (bmL d)) ∧ ds.map bmM = B ∧ len ≤ 1000 ∧ (∀ d ∈ B, d.1.size ≤ 9223372036854775807) ∧ ApartB ds
theorem BmsX.n {w : World} {base len cap : Nat} {a : Option Addr} {B : List BmM} (h : BmsX w base a len cap B) : BmsN w base a len cap B := by
  obtain ⟨ds, h1, h2, h3, h4, h5, _⟩ := h
  exact ⟨ds, h1, h2, h3, h4, h5⟩
theorem BmsX.later {w w' : World} {base len cap : Nat} {a : Option Addr} {B : List BmM} (h : BmsX w base a len cap B) (hb : Below w.heap.size w w') : BmsX w' base a len cap B := by
  obtain ⟨ds, h1, h2, h3, h4, h5, h6⟩ := h
  exact ⟨ds, h1.laterB hb, fun d hd => (h2 d hd).off (Off.none _ _) (grown_of_below hb), h3, h4, h5, h6⟩
theorem BmsX.mono {w : World} {base base' len cap : Nat} {a : Option Addr} {B : List BmM} (h : BmsX w base a len cap B) (hb : base' ≤ base) : BmsX w base' a len cap B := by
  obtain ⟨ds, h1, h2, h3, h4, h5, h6⟩ := h
  exact ⟨ds, h1.monoB hb, fun d hd => (h2 d hd).mono hb, h3, h4, h5, h6⟩
theorem BmsX.nil (w : World) (base : Nat) : BmsX w base none 0 0 [] := ⟨[], OwnG.none _ _ _ _ _, fun d hd => (by cases hd), rfl, Nat.zero_le _, fun d hd => (by cases hd), ApartB.nil⟩
theorem BmsX.at {w : World} {base len cap : Nat} {a : Option Addr} {B : List BmM} (h : BmsX w base a len cap B) (i : Nat) (hi : i < len) : ∃ g nm on al ll cl l, a = some ⟨g, 0, none⟩ ∧ base ≤ g ∧ g < w.heap.size ∧ B[i]? = some (nm, on, l) ∧ w.cell? ⟨g, i * 3, none⟩ = some (.string nm) ∧ w.cell? ⟨g, i * 3 + 1, none⟩ = some (.bool on) ∧ w.cell? ⟨g, i * 3 + 2, none⟩ = some (.slice al ll cl) ∧ (∀ k, w.frozen? ⟨g, k, none⟩ = false) ∧ SpN w base al ll cl l ∧
    (∀ on', BmsX (w.setCell ⟨g, i * 3 + 1, none⟩ (.bool on')) base a len cap (B.set i (nm, on', l)) ∧ w.grownBy (w.setCell ⟨g, i * 3 + 1, none⟩ (.bool on')) (some g)) ∧
    (∀ w1, Below w.heap.size w w1 → ∀ al' ll' cl' l', SpN w1 base al' ll' cl' l' → (∀ x, (Value.slice al' ll' cl').ownBlock = some x → w.heap.size ≤ x) → BmsX (w1.setCell ⟨g, i * 3 + 2, none⟩ (.slice al' ll' cl')) base a len cap (B.set i (nm, on, l')) ∧ w1.grownBy (w1.setCell ⟨g, i * 3 + 2, none⟩ (.slice al' ll' cl')) (some g)) := by
  obtain ⟨ds, h1, h2, h3, h4, h5, h6⟩ := h
  subst h3
  obtain ⟨g, ⟨nm, on, al, ll, cl, l⟩, rfl, hg1, hg2, hd, ⟨x0, x1, x2⟩, hfz, cs, hblk⟩ := own3_at bm_rowed h1 i hi
  have hoff : Off w (some g) 50 := OwnG.off (e := 50) h1 (by decide)
  have hnm : nm.size ≤ 9223372036854775807 := h5 (nm, on, l) (List.mem_map.2 ⟨_, List.mem_of_getElem? hd, rfl⟩)
  refine ⟨g, nm, on, al, ll, cl, l, rfl, hg1, hg2, by rw [List.getElem?_map, hd]; rfl, x0, x1, x2, hfz, h2 _ (List.mem_of_getElem? hd), fun on' => ?_, fun w1 hb al' ll' cl' l' hs hfr => ?_⟩
  · obtain ⟨q1, q2⟩ := own_setK bm_rowed h1 i 1 _ (nm, on', al, ll, cl, l) hd (.bool on') (by omega) rfl
    refine ⟨⟨_, q1, fun d hd' => ?_, by rw [List.map_set]; rfl, h4, fun d hd' => ?_, h6.same hd rfl⟩, q2⟩
    · rcases List.mem_or_eq_of_mem_set hd' with hm | rfl
      · exact (h2 d hm).off hoff q2
      · exact (h2 _ (List.mem_of_getElem? hd)).off hoff q2
    · rcases List.mem_or_eq_of_mem_set hd' with hm | rfl
      · exact h5 d hm
      · exact hnm
  · have h1' := h1.laterB hb
    have hoff' : Off w1 (some g) 50 := OwnG.off (e := 50) h1' (by decide)
    obtain ⟨q1, q2⟩ := own_setK bm_rowed h1' i 2 _ (nm, on, al', ll', cl', l') hd (.slice al' ll' cl') (by omega) rfl
    refine ⟨⟨_, q1, fun d hd' => ?_, by rw [List.map_set]; rfl, h4, fun d hd' => ?_, h6.set (d' := (nm, on, al', ll', cl', l')) (m := w.heap.size) (fun d hd g hg => ((h2 d hd).1.1.lt g hg).2) (fun x hx => hfr x hx) i⟩, q2⟩
    · rcases List.mem_or_eq_of_mem_set hd' with hm | rfl
      · exact ((h2 d hm).off (Off.none _ _) (grown_of_below hb)).off hoff' q2
      · exact hs.off hoff' q2
    · rcases List.mem_or_eq_of_mem_set hd' with hm | rfl
      · exact h5 d hm
      · exact hnm
def GiveX (w : World) (R : List BmM × Int) (e : Ending) (w' : World) : Prop := ∃ (a : Option Addr) (n c : Nat), e = .returned (.tuple #[.slice a n c, .int .i64 R.2]) ∧ BmsX w' w.heap.size a n c R.1 ∧ Below w.heap.size w w'
theorem GiveX.nil {w w' : World} (n : Int) (h : Below w.heap.size w w') : GiveX w ([], n) (.returned (.tuple #[.slice none 0 0, .int .i64 n])) w' := ⟨none, 0, 0, rfl, BmsX.nil _ _, h⟩
/-- Between two bitmaps. -/
structure BmX (w : World) (base : Nat) (a : Option Addr) (len c j : Nat) (ds es : List Bm) (W : World) : Prop where
  row : OwnG bmV 53 3 W base (.slice a len c) len (es ++ ds.drop j)
  sps : ∀ d ∈ es, SpN W base d.2.2.1 d.2.2.2.1 d.2.2.2.2.1 (bmL d)
  len : es.length = j
  is : es.map bmM = (ds.map bmM).take j
  dat : Below base w W
  low : base ≤ W.heap.size
  sep : ApartB es

set_option maxRecDepth 100000 in
set_option maxHeartbeats 1600000 in
theorem pcopyBmsX (w : World) (a : Option Addr) (len cap : Nat) (B : List BmM) (h : BmsD w a len cap B) : Calls Try.prog 69 #[.slice a len cap] w fun e w' => ∃ (a' : Option Addr) (c' : Nat), e = .returned (.slice a' len c') ∧ BmsX w' w.heap.size a' len c' B ∧ Below w.heap.size w w' := by
  obtain ⟨ds, ⟨h1, h2⟩, rfl, h3, h4, h5⟩ := h
  have hdl := h1.1
  have HCL := Lib.hid (cloneBm w a len cap ds h1 h3 (by omega))
  have H2 := Lib.hid h2
  have H5 := Lib.hid h5
  clear h1 h2 h3 h5
  go_enter Try.func69, Try.ntmps69
  go_wp2_with (go_at_call 85; refine HCL.out.mono ?_; rintro e w1 ⟨a1, c1, rfl, g1, g2⟩; have HO := Lib.hid g1; have HG := Lib.hid g2; clear g1 g2 HCL)
  go_loopw [10] (fun i wr => ∃ (j : Nat) (es : List Bm), j ≤ len ∧ i = .int .i64 j ∧ Hid (BmX w w.heap.size a1 len c1 j ds es wr)) (fun i _ => len - (intOf i).toNat)
  case atStart => exact ⟨0, [], Nat.zero_le _, rfl, by simpa using HO.out, by simp, rfl, rfl, HG.out, HG.out.size, ApartB.nil⟩
  case round =>
    obtain ⟨j, es, hj, rfl, HL⟩ := hrel
    by_cases hlt : j < len
    · obtain ⟨g, ⟨nm, on, al, ll, cl, l⟩, rfl, hg1, hg2, hd, ⟨x0, x1, x2⟩, hfz, cs, hblk⟩ := own3_at bm_rowed HL.out.row j hlt
      have hd2 := mid_at HL.out.len hd
      have hx0 : wr.cell? ⟨g, j * 3, none⟩ = some (.string nm) := x0
      have hx1 : wr.cell? ⟨g, j * 3 + 1, none⟩ = some (.bool on) := x1
      have hx2 : wr.cell? ⟨g, j * 3 + 2, none⟩ = some (.slice al ll cl) := x2
      have hs0 : SpD w al ll cl l := H2.out _ (List.mem_of_getElem? hd2)
      have HS := Lib.hid hs0
      have HD2 := Lib.hid hd2
      have HD := Lib.hid hd
      have HFZ := Lib.hid hfz
      have HW : Hid (Below w.heap.size w (wr.alloc (.cells #[.string nm, .bool on, .slice al ll cl] 53))) := HL.out.dat.alloc HL.out.low _
      have HLA : Hid (Blk (wr.alloc (.cells #[.string nm, .bool on, .slice al ll cl] 53)) wr.heap.size 53 #[.string nm, .bool on, .slice al ll cl]) := Blk.new _ _ _
      have hb2 : (wr.alloc (.cells #[.string nm, .bool on, .slice al ll cl] 53)).cell? ⟨wr.heap.size, 2, none⟩ = some (.slice al ll cl) := HLA.out.cell 2
      have HSC := Lib.hid (cloneSp (wr.alloc (.cells #[.string nm, .bool on, .slice al ll cl] 53)) al ll cl l (HS.out.later HW.out).1 HS.out.2.1 (by have := HS.out.2.2.1; omega))
      clear x0 x1 x2 hd hd2 hs0 hfz hblk
      go_wp2_with (go_at_call 86; refine HSC.out.mono ?_; rintro e w2 ⟨a2, c2, rfl, g1, g2⟩; have HO2 := Lib.hid g1; have HG2 := Lib.hid (((Below.refl _ wr).alloc (Nat.le_refl _) _).trans (g2.mono (by simp))); have y2 : w2.cell? ⟨g, j * 3 + 2, none⟩ = some (.slice al ll cl) := (HG2.out.cell (p := ⟨g, j * 3 + 2, none⟩) hg2).trans hx2; have fz2 : w2.frozen? ⟨g, j * 3 + 2, none⟩ = false := (HG2.out.frozen (p := ⟨g, j * 3 + 2, none⟩) hg2).trans (HFZ.out _); clear g1 g2 HSC)
      have hrow2 := HL.out.row.laterB HG2.out
      obtain ⟨q1, q2⟩ := own_setK bm_rowed hrow2 j 2 _ (nm, on, a2, ll, c2, l) HD.out (.slice a2 ll c2) (by omega) rfl
      have hset : (es ++ ds.drop j).set j (nm, on, a2, ll, c2, l) = (es ++ [(nm, on, a2, ll, c2, l)]) ++ ds.drop (j + 1) := mid_set _ _ _ _ HL.out.len (by omega)
      rw [hset] at q1
      have hoff : Off w2 (some g) 50 := OwnG.off (e := 50) hrow2 (by decide)
      have HL3 : Hid (BmX w w.heap.size (some ⟨g, 0, none⟩) len c1 (j + 1) ds (es ++ [(nm, on, a2, ll, c2, l)]) (w2.setCell ⟨g, j * 3 + 2, none⟩ (.slice a2 ll c2))) := by
        refine ⟨q1, fun d hd => ?_, by rw [List.length_append, HL.out.len]; rfl, ?_, belowRow (HL.out.dat.trans (HG2.out.mono HL.out.low)) q2 hg1 (Nat.le_trans HL.out.low HG2.out.size), by rw [World.size_setCell]; exact Nat.le_trans HL.out.low HG2.out.size, HL.out.sep.snoc (m := wr.heap.size) (fun d hd g hg => ((HL.out.sps d hd).1.1.lt g hg).2) (fun g hg => by have := (HO2.out.1.lt g hg).1; rw [World.size_alloc] at this; omega)⟩
        · rcases List.mem_append.1 hd with hd | hd
          · exact ((HL.out.sps d hd).off (Off.none _ _) (grown_of_below HG2.out)).off hoff q2
          · obtain rfl : d = (nm, on, a2, ll, c2, l) := by simpa using hd
            have hn : SpN w2 w.heap.size a2 ll c2 l := ⟨HO2.out.monoB (by rw [World.size_alloc]; have := HL.out.low; omega), HS.out.2.2⟩
            exact hn.off hoff q2
        · rw [List.map_append, HL.out.is, take_map_succ HD2.out]
          rfl
      clear hrow2 q1 q2 hset hoff
      go_roundw
      case rel => exact ⟨j + 1, _, by omega, by go_num, HL3.out⟩
      case measure => simp [intOf]; omega
    · obtain rfl : j = len := by omega
      go_wp2
      go_ret
      have hr := HL.out.row
      rw [List.drop_eq_nil_of_le (Nat.le_of_eq hdl), List.append_nil] at hr
      refine ⟨a1, c1, rfl, ⟨es, hr, HL.out.sps, ?_, h4, H5.out, HL.out.sep⟩, HL.out.dat⟩
      rw [HL.out.is, List.take_of_length_le]
      rw [List.length_map]
      exact Nat.le_of_eq hdl
set_option maxRecDepth 100000 in
set_option maxHeartbeats 1600000 in
theorem mapsTurnX (w : World) (ma : Option Addr) (mn mc : Nat) (B : List BmM) (h : BmsD w ma mn mc B) (nm : ByteArray) (on : Bool) : Calls Try.prog 36 #[.slice ma mn mc, .string nm, .bool on] w (GiveX w (turnB B nm on)) := by
  obtain ⟨RM, hRM⟩ := named (turnB B nm on)
  rw [hRM.out]
  have HP := Lib.hid (fun W (hb : Below w.heap.size w W) (r : Int) hr => mapsPlace W ma mn mc B (h.later hb) nm (r := r) hr)
  have HCM := Lib.hid (fun W (hb : Below w.heap.size w W) => pcopyBmsX W ma mn mc B (h.later hb))
  have hl := h.lens
  have HR0 := Lib.hid (Below.refl w.heap.size w)
  clear h
  have hRR := hRM.out
  unfold turnB at hRR
  rcases fndB_cases nm B with ⟨hr, _⟩ | ⟨i, d, hr, hi, _, hil, _⟩
  · rw [if_pos (by rw [hr]; omega)] at hRR
    subst hRR
    have HP1 := Lib.hid (fun W hb => HP.out W hb (-1) hr)
    clear hl hr HP HCM hRM
    go_enter Try.func36, Try.ntmps36
    go_wp2_with (first
      | (go_at_call 68; refine (HP1.out _ HR0.out).mono ?_; rintro e w2 ⟨rfl, hb⟩; have HB2 := Lib.hid hb; clear hb))
    go_ret2
    exact GiveX.nil 4 HB2.out
  · rw [if_neg (by rw [hr]; omega), hr, Int.toNat_natCast] at hRR
    have HP1 := Lib.hid (fun W hb => HP.out W hb i hr)
    have di : decide ((i : Int) < 0) = false := decide_eq_false (by omega)
    have hi1000 : i < 1000 := by omega
    have himn : i < mn := by omega
    rw [modify_at hi] at hRR
    have HI := Lib.hid hi
    subst hRR
    clear hl hr HP hRM hi hil
    go_enter Try.func36, Try.ntmps36
    go_wp2_with (first
      | (go_at_call 68; refine (HP1.out _ HR0.out).mono ?_; rintro e w2 ⟨rfl, hb⟩; have HB2 := Lib.hid hb; clear hb)
      | (go_at_call 69; refine (HCM.out _ HB2.out).mono ?_; rintro e w3 ⟨a3, c3, rfl, hB, hb⟩; have HB3 := Lib.hid (HB2.out.trans (hb.mono HB2.out.size)); have HN3 := Lib.hid (hB.mono (base' := w.heap.size) HB2.out.size); clear hb hB; obtain ⟨g, nm1, on1, al1, ll1, cl1, l1, rfl, hg1, hg2, hB1, x0, x1, x2, hfz, hsp, HON, HSP⟩ := HN3.out.at i himn; have FZ := hfz (i * 3 + 1); have HB1 := Lib.hid hB1; have HON := Lib.hid HON; have HSP := Lib.hid HSP; have HSPN := Lib.hid hsp; clear hsp hB1 hfz))
    go_ret2
    obtain ⟨q1, q2⟩ := HON.out on
    have hd : d = (nm1, on1, l1) := Option.some.inj (HI.out.symm.trans HB1.out)
    subst hd
    exact ⟨_, _, _, rfl, q1, belowRow HB3.out q2 hg1 HB3.out.size⟩
set_option maxRecDepth 100000 in
set_option maxHeartbeats 1600000 in
theorem mapsClearX (w : World) (ma : Option Addr) (mn mc : Nat) (B : List BmM) (h : BmsD w ma mn mc B) (nm : ByteArray) : Calls Try.prog 38 #[.slice ma mn mc, .string nm] w (GiveX w (clearB B nm)) := by
  obtain ⟨RM, hRM⟩ := named (clearB B nm)
  rw [hRM.out]
  have HP := Lib.hid (fun W (hb : Below w.heap.size w W) (r : Int) hr => mapsPlace W ma mn mc B (h.later hb) nm (r := r) hr)
  have HCM := Lib.hid (fun W (hb : Below w.heap.size w W) => pcopyBmsX W ma mn mc B (h.later hb))
  have hl := h.lens
  have HR0 := Lib.hid (Below.refl w.heap.size w)
  clear h
  have hRR := hRM.out
  unfold clearB at hRR
  rcases fndB_cases nm B with ⟨hr, _⟩ | ⟨i, d, hr, hi, _, hil, _⟩
  · rw [if_pos (by rw [hr]; omega)] at hRR
    subst hRR
    have HP1 := Lib.hid (fun W hb => HP.out W hb (-1) hr)
    clear hl hr HP HCM hRM
    go_enter Try.func38, Try.ntmps38
    go_wp2_with (first
      | (go_at_call 68; refine (HP1.out _ HR0.out).mono ?_; rintro e w2 ⟨rfl, hb⟩; have HB2 := Lib.hid hb; clear hb))
    go_ret2
    exact GiveX.nil 4 HB2.out
  · rw [if_neg (by rw [hr]; omega), hr, Int.toNat_natCast] at hRR
    have HP1 := Lib.hid (fun W hb => HP.out W hb i hr)
    have di : decide ((i : Int) < 0) = false := decide_eq_false (by omega)
    have hi1000 : i < 1000 := by omega
    have himn : i < mn := by omega
    rw [modify_at hi] at hRR
    have HI := Lib.hid hi
    subst hRR
    clear hl hr HP hRM hi hil
    go_enter Try.func38, Try.ntmps38
    go_wp2_with (first
      | (go_at_call 68; refine (HP1.out _ HR0.out).mono ?_; rintro e w2 ⟨rfl, hb⟩; have HB2 := Lib.hid hb; clear hb)
      | (go_at_call 69; refine (HCM.out _ HB2.out).mono ?_; rintro e w3 ⟨a3, c3, rfl, hB, hb⟩; have HB3 := Lib.hid (HB2.out.trans (hb.mono HB2.out.size)); have HN3 := Lib.hid (hB.mono (base' := w.heap.size) HB2.out.size); clear hb hB; obtain ⟨g, nm1, on1, al1, ll1, cl1, l1, rfl, hg1, hg2, hB1, x0, x1, x2, hfz, hsp, HON, HSP⟩ := HN3.out.at i himn; have FZ := hfz (i * 3 + 2); have HB1 := Lib.hid hB1; have HON := Lib.hid HON; have HSP := Lib.hid HSP; have HSPN := Lib.hid hsp; clear hsp hB1 hfz))
    go_ret2
    obtain ⟨q1, q2⟩ := HSP.out _ (Below.refl _ _) none 0 0 [] (SpN.nil _ _) (fun x hx => by cases hx)
    have hd : d = (nm1, on1, l1) := Option.some.inj (HI.out.symm.trans HB1.out)
    subst hd
    exact ⟨_, _, _, rfl, q1, belowRow HB3.out q2 hg1 HB3.out.size⟩
set_option maxRecDepth 100000 in
set_option maxHeartbeats 3200000 in
theorem mapsMergeX (w : World) (ma : Option Addr) (mn mc : Nat) (B : List BmM) (h : BmsD w ma mn mc B) (hl : ∀ b ∈ B, b.2.2.length ≤ 10000) (nm nm2 : ByteArray) : Calls Try.prog 40 #[.slice ma mn mc, .string nm, .string nm2] w (GiveX w (mergeB B nm nm2)) := by
  obtain ⟨RM, hRM⟩ := named (mergeB B nm nm2)
  rw [hRM.out]
  have HP := Lib.hid (fun W (hb : Below w.heap.size w W) (r : Int) hr => mapsPlace W ma mn mc B (h.later hb) nm (r := r) hr)
  have HPO := Lib.hid (fun W (hb : Below w.heap.size w W) (r : Int) hr => mapsPlace W ma mn mc B (h.later hb) nm2 (r := r) hr)
  have HCM := Lib.hid (fun W (hb : Below w.heap.size w W) => pcopyBmsX W ma mn mc B (h.later hb))
  have HLL := Lib.hid hl
  have HD := Lib.hid h
  have hlen := h.lens
  have HR0 := Lib.hid (Below.refl w.heap.size w)
  clear h hl
  obtain ⟨hBL, hmn⟩ := hlen
  have HBL := Lib.hid hBL
  have hRR := hRM.out
  unfold mergeB at hRR
  have fin : ∀ (r1 r2 : Int), fndB nm B = r1 → fndB nm2 B = r2 → (r1 < 0 ∨ r2 < 0) → RM = ([], 4) → Calls Try.prog 40 #[.slice ma mn mc, .string nm, .string nm2] w (GiveX w RM) := fun r1 r2 e1 e2 hor hRM2 => by
    subst hRM2
    have HP1 := Lib.hid (fun W hb => HP.out W hb r1 e1)
    have HP2 := Lib.hid (fun W hb => HPO.out W hb r2 e2)
    by_cases h1 : r1 < 0
    · have d1 : decide (r1 < 0) = true := decide_eq_true h1
      clear hRR hBL e1 e2 hor hRM HP HPO
      go_enter Try.func40, Try.ntmps40
      go_wp2_with (first
        | (go_at_call 68; (with_reducible refine (HP1.out _ HR0.out).mono ?_); rintro e w2 ⟨rfl, hb⟩; have HB2 := Lib.hid hb; clear hb HP1)
        | (go_at_call 68; (with_reducible refine (HP2.out _ HB2.out).mono ?_); rintro e w3 ⟨rfl, hb⟩; have HB3 := Lib.hid (HB2.out.trans (hb.mono HB2.out.size)); clear hb HP2))
      go_ret2
      exact GiveX.nil 4 HB3.out
    · have d1 : decide (r1 < 0) = false := decide_eq_false h1
      have d2 : decide (r2 < 0) = true := decide_eq_true (hor.resolve_left h1)
      clear hRR hBL e1 e2 hor hRM HP HPO
      go_enter Try.func40, Try.ntmps40
      go_wp2_with (first
        | (go_at_call 68; (with_reducible refine (HP1.out _ HR0.out).mono ?_); rintro e w2 ⟨rfl, hb⟩; have HB2 := Lib.hid hb; clear hb HP1)
        | (go_at_call 68; (with_reducible refine (HP2.out _ HB2.out).mono ?_); rintro e w3 ⟨rfl, hb⟩; have HB3 := Lib.hid (HB2.out.trans (hb.mono HB2.out.size)); clear hb HP2))
      go_ret2
      exact GiveX.nil 4 HB3.out
  rcases fndB_cases nm B with ⟨hr, _⟩ | ⟨i, ⟨nm1, on1, l1⟩, hr, hi, _, hil, _⟩
  · rw [if_pos (Or.inl (by rw [hr]; omega))] at hRR
    exact fin _ _ hr rfl (Or.inl (by omega)) hRR.symm
  rcases fndB_cases nm2 B with ⟨hr2, _⟩ | ⟨k, ⟨nmk, onk, l2⟩, hr2, hk, _, hkl, _⟩
  · rw [if_pos (Or.inr (by rw [hr2]; omega))] at hRR
    exact fin _ _ rfl hr2 (Or.inr (by omega)) hRR.symm
  clear fin
  rw [if_neg (by rw [hr, hr2]; omega), hr, hr2, Int.toNat_natCast, Int.toNat_natCast, modify_at hi, lAt_is hk] at hRR
  dsimp only at hRR
  have HP1 := Lib.hid (fun W hb => HP.out W hb i hr)
  have HP2 := Lib.hid (fun W hb => HPO.out W hb k hr2)
  have di : decide ((i : Int) < 0) = false := decide_eq_false (by omega)
  have dk : decide ((k : Int) < 0) = false := decide_eq_false (by omega)
  have him : i < mn := by omega
  have hkm : k < mn := by omega
  have hl1 : l1.length ≤ 10000 := HLL.out _ (List.mem_of_getElem? hi)
  have hl2 : l2.length ≤ 10000 := HLL.out _ (List.mem_of_getElem? hk)
  have HI := Lib.hid hi
  have HK := Lib.hid hk
  clear hr hr2 HP HPO hBL hi hk hil hkl
  have HAT : Hid (∀ W, Below w.heap.size w W → ∃ b off al ll cl, ma = some ⟨b, off, none⟩ ∧ b < w.heap.size ∧ W.cell? ⟨b, off + k * 3, none⟩ = some (.string nmk) ∧ W.cell? ⟨b, off + k * 3 + 1, none⟩ = some (.bool onk) ∧ W.cell? ⟨b, off + k * 3 + 2, none⟩ = some (.slice al ll cl) ∧ SpD W al ll cl l2) := fun W hb => by
    obtain ⟨b, off, nm', on', al, ll, cl, l', e1, e2, e3, _, x0, x1, x2, hs⟩ := HD.out.at k hkm
    have e4 := Option.some.inj (HK.out.symm.trans e2)
    cases e4
    exact ⟨b, off, al, ll, cl, e1, e3, (hb.cell (p := ⟨b, off + k * 3, none⟩) e3).trans x0, (hb.cell (p := ⟨b, off + k * 3 + 1, none⟩) e3).trans x1, (hb.cell (p := ⟨b, off + k * 3 + 2, none⟩) e3).trans x2, hs.later hb⟩
  obtain ⟨b, off, al, ll, cl, rfl, hb0, x0, x1, x2, hs⟩ := HAT.out w HR0.out
  have HX : Hid (∀ W, Below w.heap.size w W → W.cell? ⟨b, off + k * 3 + 2, none⟩ = some (.slice al ll cl)) := fun W hb => (hb.cell (p := ⟨b, off + k * 3 + 2, none⟩) hb0).trans x2
  have HS := Lib.hid hs
  have hll : l2.length = ll := hs.1.1
  clear HAT x0 x1 x2 hs hb0
  obtain ⟨R, hR⟩ := named (decide (Rt (-1) l2))
  have HRT := Lib.hid (fun W (hb : Below w.heap.size w W) => spanRight_is al ll cl l2 W (HS.out.later hb).1 HS.out.2.2.1 R hR.out)
  cases R with
  | false =>
    rw [if_neg (of_decide_eq_false hR.out)] at hRR
    have hset : B.set i (nm1, on1, l1) = B := set_self HI.out
    rw [hset] at hRR
    subst hRR
    clear hR hRM
    go_enter Try.func40, Try.ntmps40
    go_wp2_with (first
      | (go_at_call 68; (with_reducible refine (HP1.out _ HR0.out).mono ?_); rintro e w2 ⟨rfl, hb⟩; have HB2 := Lib.hid hb; clear hb HP1)
      | (go_at_call 68; (with_reducible refine (HP2.out _ HB2.out).mono ?_); rintro e w3 ⟨rfl, hb⟩; have HB3 := Lib.hid (HB2.out.trans (hb.mono HB2.out.size)); clear hb HP2)
      | (go_at_call 69; refine (HCM.out _ HB3.out).mono ?_; rintro e w4 ⟨a1, c1, rfl, hB, hb⟩; have HN4 := Lib.hid (hB.mono (base' := w.heap.size) HB3.out.size); have HB4 := Lib.hid (HB3.out.trans (hb.mono HB3.out.size)); have x2 := HX.out _ HB4.out; clear hB hb)
      | (go_at_call 71; refine (HRT.out _ HB4.out).mono ?_; rintro e w5 ⟨rfl, hb⟩; have HB5 := Lib.hid hb; clear hb))
    go_ret2
    exact ⟨_, _, _, rfl, HN4.out.later HB5.out, HB4.out.trans (HB5.out.mono HB4.out.size)⟩
  | true =>
    rw [if_pos (of_decide_eq_true hR.out)] at hRR
    subst hRR
    clear hR hRM
    go_enter Try.func40, Try.ntmps40
    go_wp2_with (first
      | (go_at_call 68; (with_reducible refine (HP1.out _ HR0.out).mono ?_); rintro e w2 ⟨rfl, hb⟩; have HB2 := Lib.hid hb; clear hb HP1)
      | (go_at_call 68; (with_reducible refine (HP2.out _ HB2.out).mono ?_); rintro e w3 ⟨rfl, hb⟩; have HB3 := Lib.hid (HB2.out.trans (hb.mono HB2.out.size)); clear hb HP2)
      | (go_at_call 69; refine (HCM.out _ HB3.out).mono ?_; rintro e w4 ⟨a1, c1, rfl, hB, hb⟩; have HN4 := Lib.hid (hB.mono (base' := w.heap.size) HB3.out.size); have HB4 := Lib.hid (HB3.out.trans (hb.mono HB3.out.size)); have x2 := HX.out _ HB4.out; clear hB hb)
      | (go_at_call 71; refine (HRT.out _ HB4.out).mono ?_; rintro e w5 ⟨rfl, hb⟩; have HB5 := Lib.hid hb; have HN5 := Lib.hid (HN4.out.later hb); have HB5 := Lib.hid (HB4.out.trans (hb.mono HB4.out.size)); have x2' := HX.out _ HB5.out; clear hb))
    go_loopw [39] (fun i' wr => ∃ j : Nat, j ≤ ll ∧ i' = .int .i64 j ∧ Hid (BmsX wr w.heap.size a1 mn c1 (B.set i (nm1, on1, (l2.take j).foldl addL l1))) ∧ Hid (Below w.heap.size w wr)) (fun i _ => ll - (intOf i).toNat)
    case atStart => exact ⟨0, Nat.zero_le _, rfl, (by rw [List.take_zero, List.foldl_nil, set_self HI.out]; exact HN5.out : BmsX _ w.heap.size a1 mn c1 (B.set i (nm1, on1, (l2.take 0).foldl addL l1))), HB5.out⟩
    case round =>
      obtain ⟨j, hj, rfl, HNj, HBj⟩ := hrel
      by_cases hlt : j < ll
      · obtain ⟨g, nm', on', al1, ll1, cl1, l', rfl, hg1, hg2, hBi, y0, y1, y2, hfz, hsp, _, HSP⟩ := HNj.out.at i him
        rw [set_at (by have := HBL.out; omega)] at hBi
        have hBi := Option.some.inj hBi
        cases hBi
        have hs2 := (HS.out.later HBj.out).1
        obtain ⟨bs, os, rfl, hbs, _⟩ : ∃ bs os, al = some ⟨bs, os, none⟩ ∧ bs < wr.heap.size ∧ True := by
          rcases hs2.2.2 with h0 | ⟨b, o, h1, h2, _⟩
          · omega
          · exact ⟨b, o, h1, h2, trivial⟩
        obtain ⟨z0, z1⟩ := span_cells hs2 j hlt
        have hxf := hfz (i * 3 + 2)
        have hsl := hsp.d.1.1
        have hfl := foldA_len2 (l2.take j) l1
        rw [List.length_take] at hfl
        have HNX : Hid ((B.set i (nm1, on1, (l2.take j).foldl addL l1)).set i (nm1, on1, addL ((l2.take j).foldl addL l1) (spAt l2 j)) = B.set i (nm1, on1, (l2.take (j + 1)).foldl addL l1)) := by
          rw [List.set_set, foldA_take (by omega)]
          exact Lib.hid rfl
        have hfit : I64 (spAt l2 j).1 ∧ I64 (spAt l2 j).2 := HS.out.2.2.2 _ (List.mem_of_getElem? (spAt_some l2 j (by omega)))
        have HFIT := Lib.hid hfit
        obtain ⟨⟨f0, t0⟩, hft⟩ := named (spAt l2 j)
        rw [hft.out] at z0 z1 HNX HFIT
        dsimp only at z0 z1 HNX HFIT
        obtain ⟨LJ, hLJ⟩ := named ((l2.take j).foldl addL l1)
        rw [hLJ.out] at hsp hsl hfl
        have HSPN := Lib.hid hsp
        have HLJ : Hid (LJ.length ≤ 20000) := Lib.hid (by omega)
        have HGG := Lib.hid (And.intro hg1 hg2)
        have HBR2 := Lib.hid ((Below.refl wr.heap.size wr).alloc (Nat.le_refl _) (.cells #[.int .i64 f0, .int .i64 t0] 50))
        have HSX : Hid (Blk (wr.alloc (.cells #[.int .i64 f0, .int .i64 t0] 50)) wr.heap.size 50 #[.int .i64 f0, .int .i64 t0]) := Blk.new _ _ _
        have HAD : Hid (∀ W, Below (wr.alloc (.cells #[.int .i64 f0, .int .i64 t0] 50)).heap.size (wr.alloc (.cells #[.int .i64 f0, .int .i64 t0] 50)) W → Calls Try.prog 72 #[.slice al1 ll1 cl1, .agg #[.int .i64 f0, .int .i64 t0]] W fun e w' => ∃ (a' : Option Addr) (n' c' : Nat), e = .returned (.slice a' n' c') ∧ SpN w' wr.heap.size a' n' c' (addL LJ (f0, t0)) ∧ Below (wr.alloc (.cells #[.int .i64 f0, .int .i64 t0] 50)).heap.size (wr.alloc (.cells #[.int .i64 f0, .int .i64 t0] 50)) w') := fun W hb =>
          (spanAdd_any al1 ll1 cl1 LJ f0 t0 W ((HSPN.out.d.later (HBR2.out.trans (hb.mono HBR2.out.size))).1) HSPN.out.d.2.1.2 HSPN.out.d.2.1.1 (by have := HLJ.out; omega) HSPN.out.2.2 HFIT.out.1 HFIT.out.2).mono fun e w' ⟨a', c', e1, e2, e3, e4⟩ => ⟨a', _, c', e1, ⟨e2.monoB (Nat.le_trans HBR2.out.size hb.size), by have := addL_len LJ (f0, t0); have := HLJ.out; omega, (addL_right LJ (f0, t0)).fit (Int.le_refl _)⟩, hb.trans (e4.mono hb.size)⟩
        rw [hLJ.out] at HNX
        have hsx := HSP
        rw [hLJ.out] at hsx
        have HSPX := Lib.hid hsx
        clear hsx
        have v0 : (wr.alloc (.cells #[.int .i64 f0, .int .i64 t0] 50)).cell? ⟨wr.heap.size, 0, none⟩ = some (.int .i64 f0) := HSX.out.cell 0
        have v1 : (wr.alloc (.cells #[.int .i64 f0, .int .i64 t0] 50)).cell? ⟨wr.heap.size, 1, none⟩ = some (.int .i64 t0) := HSX.out.cell 1
        have hgX : wr.heap.size ≠ g := by omega
        have HKP : Hid (∀ W, Below (wr.alloc (.cells #[.int .i64 f0, .int .i64 t0] 50)).heap.size (wr.alloc (.cells #[.int .i64 f0, .int .i64 t0] 50)) W → W.cell? ⟨wr.heap.size, 0, none⟩ = some (.int .i64 f0) ∧ W.cell? ⟨wr.heap.size, 1, none⟩ = some (.int .i64 t0)) := fun W hb => ⟨(HSX.out.later hb).cell 0, (HSX.out.later hb).cell 1⟩
        have HKF : Hid (∀ W v, Below (wr.alloc (.cells #[.int .i64 f0, .int .i64 t0] 50)).heap.size (wr.alloc (.cells #[.int .i64 f0, .int .i64 t0] 50)) W → (W.setCell ⟨g, i * 3 + 2, none⟩ v).cell? ⟨wr.heap.size, 0, none⟩ = some (.int .i64 f0) ∧ (W.setCell ⟨g, i * 3 + 2, none⟩ v).cell? ⟨wr.heap.size, 1, none⟩ = some (.int .i64 t0)) := fun W v hb => ⟨((HSX.out.later hb).other hgX v).cell 0, ((HSX.out.later hb).other hgX v).cell 1⟩
        have HCF : Hid (∀ W, Below (wr.alloc (.cells #[.int .i64 f0, .int .i64 t0] 50)).heap.size (wr.alloc (.cells #[.int .i64 f0, .int .i64 t0] 50)) W → W.cell? ⟨g, i * 3 + 2, none⟩ = some (.slice al1 ll1 cl1) ∧ W.frozen? ⟨g, i * 3 + 2, none⟩ = false) := fun W hb => ⟨((HBR2.out.trans (hb.mono HBR2.out.size)).cell (p := ⟨g, i * 3 + 2, none⟩) hg2).trans y2, ((HBR2.out.trans (hb.mono HBR2.out.size)).frozen (p := ⟨g, i * 3 + 2, none⟩) hg2).trans hxf⟩
        have HRX := Lib.hid (Below.refl (wr.alloc (.cells #[.int .i64 f0, .int .i64 t0] 50)).heap.size (wr.alloc (.cells #[.int .i64 f0, .int .i64 t0] 50)))
        clear hft hLJ hfit hsp hsl hfl HSP hs2 hfz hgX
        go_wp2
        refine wp_region_held_drew (S := fun W => W.cell? ⟨wr.heap.size, 0, none⟩ = some (.int .i64 f0) ∧ W.cell? ⟨wr.heap.size, 1, none⟩ = some (.int .i64 t0)) (by kernel_rfl) (by first | assumption | with_reducible exact HKP.out _ HRX.out | with_reducible exact HKP.out _ HRX.out.drew | with_reducible exact HKP.out _ HB5.out | exact HKF.out _ _ HB5.out) (fun hHeld => ?_)
        refine wpAnyH_take (i := 0) (oi := _) (v := ?va0) rfl (by kernel_rfl) (by kernel_rfl) (by kernel_rfl) (fun _ _ _ h => h) (Or.inl ⟨by rfl, ?hya0⟩) (by assumption) ?resta0
        case hya0 => (intro wz hSw; (try dsimp only at hSw); go_simp; try with_reducible rfl)
        (try simp only [List.getElem_toArray, List.getElem_cons_zero, Act.put, List.setIfInBounds_toArray, List.set_cons_zero, List.set_cons_succ])
        refine wpAnyH_take (i := 1) (oi := _) (v := ?va1) rfl (by kernel_rfl) (by kernel_rfl) (by kernel_rfl) (fun _ _ _ h => h) (Or.inl ⟨by rfl, ?hya1⟩) (by assumption) ?resta1
        case hya1 => (intro wz hSw; (try dsimp only at hSw); go_simp; try with_reducible rfl)
        (try simp only [List.getElem_toArray, List.getElem_cons_zero, List.getElem_cons_succ, Act.put, List.setIfInBounds_toArray, List.set_cons_zero, List.set_cons_succ])
        refine wpAnyH_take (i := 2) (oi := _) (v := ?va2) rfl (by kernel_rfl) (by kernel_rfl) (by kernel_rfl) (fun _ _ _ h => h) (Or.inl ⟨by rfl, ?hya2⟩) (by assumption) ?resta2
        case hya2 => (intro wz hSw; (try dsimp only at hSw); go_simp; try with_reducible rfl)
        (try simp only [List.getElem_toArray, List.getElem_cons_zero, List.getElem_cons_succ, Act.put, List.setIfInBounds_toArray, List.set_cons_zero, List.set_cons_succ])
        refine wpAnyH_take (i := 3) (oi := _) (v := ?va3) rfl (by kernel_rfl) (by kernel_rfl) (by kernel_rfl) (fun _ _ _ h => h) (Or.inl ⟨by rfl, ?hya3⟩) (by assumption) ?resta3
        case hya3 => (intro wz hSw; (try dsimp only at hSw); go_simp; try with_reducible rfl)
        (try simp only [List.getElem_toArray, List.getElem_cons_zero, List.getElem_cons_succ, Act.put, List.setIfInBounds_toArray, List.set_cons_zero, List.set_cons_succ])
        refine wpAnyH_take (i := 4) (oi := _) (v := ?va4) rfl (by kernel_rfl) (by kernel_rfl) (by kernel_rfl) (fun _ _ _ h => h) (Or.inl ⟨by rfl, ?hya4⟩) (by assumption) ?resta4
        case hya4 => (intro wz hSw; (try dsimp only at hSw); go_simp; try with_reducible rfl)
        (try simp only [List.getElem_toArray, List.getElem_cons_zero, List.getElem_cons_succ, Act.put, List.setIfInBounds_toArray, List.set_cons_zero, List.set_cons_succ])
        refine wpAnyH_take (i := 5) (oi := _) (v := ?va5) rfl (by kernel_rfl) (by kernel_rfl) (by kernel_rfl) (fun _ _ _ h => h) (Or.inl ⟨by rfl, ?hya5⟩) (by assumption) ?resta5
        case hya5 => (intro wz hSw; (try dsimp only at hSw); go_simp; try with_reducible rfl)
        (try simp only [List.getElem_toArray, List.getElem_cons_zero, List.getElem_cons_succ, Act.put, List.setIfInBounds_toArray, List.set_cons_zero, List.set_cons_succ])
        refine wpAnyH_take (i := 7) (oi := _) (v := ?va7) rfl (by kernel_rfl) (by kernel_rfl) (by kernel_rfl) (fun _ _ _ h => h) (Or.inl ⟨by rfl, ?hya7⟩) (by assumption) ?resta7
        case hya7 => (intro wz hSw; (try dsimp only at hSw); go_simp; try with_reducible rfl)
        (try simp only [List.getElem_toArray, List.getElem_cons_zero, List.getElem_cons_succ, Act.put, List.setIfInBounds_toArray, List.set_cons_zero, List.set_cons_succ])
        refine wpAnyH_ready (rs := [6]) (by kernel_rfl) (by simp) ?_
        refine AllReadyH.cons (o := _) rfl (fun K hK => ?_) AllReadyH.nil
        rw [if_pos (by rfl)]
        go_simp
        refine hK.out _ _ (by first | assumption | with_reducible exact HKP.out _ HRX.out | with_reducible exact HKP.out _ HRX.out.drew | with_reducible exact HKP.out _ HB5.out | exact HKF.out _ _ HB5.out) (fun hHeld => ?_)
        clear hK K
        (try simp only [List.getElem_toArray, List.getElem_cons_zero, List.getElem_cons_succ, Act.put, List.setIfInBounds_toArray, List.set_cons_zero, List.set_cons_succ])
        refine wpAnyH_ready (rs := [8]) (by kernel_rfl) (by simp) ?_
        refine AllReadyH.cons (o := _) rfl (fun K hK => ?_) AllReadyH.nil
        rw [if_pos (by rfl)]
        go_simp
        (go_at_call 72; with_reducible refine (HAD.out _ HRX.out.drew).mono ?_; rintro e w5 ⟨a5, n5, c5, rfl, hN, hb⟩; have HN5 := Lib.hid hN; have HB5 := Lib.hid hb; obtain ⟨u2', uf'⟩ := HCF.out _ hb; clear hN hb)
        dsimp only
        refine hK.out _ _ (by first | assumption | with_reducible exact HKP.out _ HRX.out | with_reducible exact HKP.out _ HRX.out.drew | with_reducible exact HKP.out _ HB5.out | exact HKF.out _ _ HB5.out) (fun hHeld => ?_)
        clear hK K
        (try simp only [List.getElem_toArray, List.getElem_cons_zero, List.getElem_cons_succ, Act.put, List.setIfInBounds_toArray, List.set_cons_zero, List.set_cons_succ])
        refine wpAnyH_take (i := 9) (oi := _) (v := ?va9) rfl (by kernel_rfl) (by kernel_rfl) (by kernel_rfl) (fun _ _ _ h => h) (Or.inl ⟨by rfl, ?hya9⟩) (by assumption) ?resta9
        case hya9 => (intro wz hSw; (try dsimp only at hSw); go_simp; try with_reducible rfl)
        (try simp only [List.getElem_toArray, List.getElem_cons_zero, List.getElem_cons_succ, Act.put, List.setIfInBounds_toArray, List.set_cons_zero, List.set_cons_succ])
        refine wpAnyH_take (i := 10) (oi := _) (v := ?va10) rfl (by kernel_rfl) (by kernel_rfl) (by kernel_rfl) (fun _ _ _ h => h) (Or.inl ⟨by rfl, ?hya10⟩) (by assumption) ?resta10
        case hya10 => (intro wz hSw; (try dsimp only at hSw); go_simp; try with_reducible rfl)
        (try simp only [List.getElem_toArray, List.getElem_cons_zero, List.getElem_cons_succ, Act.put, List.setIfInBounds_toArray, List.set_cons_zero, List.set_cons_succ])
        refine wpAnyH_ready (rs := [11]) (by kernel_rfl) (by simp) ?_
        refine AllReadyH.cons (o := _) rfl (fun K hK => ?_) AllReadyH.nil
        rw [if_pos (by rfl)]
        go_simp
        refine hK.out _ _ (by first | assumption | with_reducible exact HKP.out _ HRX.out | with_reducible exact HKP.out _ HRX.out.drew | with_reducible exact HKP.out _ HB5.out | exact HKF.out _ _ HB5.out) (fun hHeld => ?_)
        clear hK K
        (try simp only [List.getElem_toArray, List.getElem_cons_zero, List.getElem_cons_succ, Act.put, List.setIfInBounds_toArray, List.set_cons_zero, List.set_cons_succ])
        refine wpAnyH_done (by kernel_rfl) ?_ _
        have HB7 := Lib.hid (HBR2.out.trans (HB5.out.mono HBR2.out.size))
        obtain ⟨q1, q2⟩ := HSPX.out _ HB7.out _ _ _ _ (HN5.out.mono HBj.out.size) (fun x hx => (HN5.out.1.1.lt x hx).1)
        rw [HNX.out] at q1
        have HQ1 := Lib.hid q1
        have HQ2 := Lib.hid q2
        clear q1 q2 u2' uf'
        go_wp2
        go_roundw
        case rel => exact ⟨j + 1, by omega, by go_num, HQ1.out, belowRow (HBj.out.trans (HB7.out.mono HBj.out.size)) HQ2.out HGG.out.1 (Nat.le_trans HBj.out.size HB7.out.size)⟩
        case measure => simp [intOf]; omega
      · obtain rfl : j = ll := by omega
        go_wp2
        go_ret2
        have hr := HNj.out
        rw [List.take_of_length_le (Nat.le_of_eq hll)] at hr
        exact ⟨_, _, c1, rfl, hr, HBj.out⟩
end Go.Proofs.Ytjaaieamlgghhaa
