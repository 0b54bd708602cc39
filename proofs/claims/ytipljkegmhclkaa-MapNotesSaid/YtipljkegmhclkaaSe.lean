/-
  What the project's copies.Bitmaps answers (package copies). Conditions: what came in reads.
-/
import Derived.Test.YtipljkegmhclkaaSd
namespace Go.Proofs.Ytipljkegmhclkaa
open Go.RowKit
set_option linter.unusedVariables false

theorem flat_setK {α : Type} {cv : α → List Value} {sz : Nat} (hc : ∀ x, (cv x).length = sz) (d' : α) (k : Nat) (hk : k < sz) (v : Value) : ∀ (ds : List α) (i : Nat) (d : α), ds[i]? = some d → cv d' = (cv d).set k v → (ds.set i d').flatMap cv = (ds.flatMap cv).set (i * sz + k) v
  | [], i, d, h, _ => by simp at h
  | x :: r, 0, d, h, e => by
    simp at h
    subst h
    rw [List.set_cons_zero, List.flatMap_cons, List.flatMap_cons, e, Nat.zero_mul, Nat.zero_add, List.set_append_left _ _ (by rw [hc]; exact hk)]
  | x :: r, i + 1, d, h, e => by
    rw [List.getElem?_cons_succ] at h
    rw [List.set_cons_succ, List.flatMap_cons, List.flatMap_cons, flat_setK hc d' k hk v r i d h e, List.set_append_right _ _ (by rw [hc, Nat.succ_mul]; omega), hc]
    congr 2
    rw [Nat.succ_mul]
    omega
/-- A field of an element of a row of one's own turns. -/
theorem own_setK {α : Type} {cv : α → List Value} {P : Program} {t e : TypeId} {sz bytes : Nat} (R : Rowed P t e sz bytes cv) {w : World} {base n c g : Nat} {ds : List α} (h : OwnG cv e sz w base (.slice (some ⟨g, 0, none⟩) n c) n ds) (i k : Nat) (d d' : α) (hd : ds[i]? = some d) (v : Value) (hk : k < sz) (hcv : cv d' = (cv d).set k v) :
    OwnG cv e sz (w.setCell ⟨g, i * sz + k, none⟩ v) base (.slice (some ⟨g, 0, none⟩) n c) n (ds.set i d') ∧ w.grownBy (w.setCell ⟨g, i * sz + k, none⟩ v) (some g) := by
  obtain ⟨h1, h2⟩ := h.1.stored (i * sz + k) v
  refine ⟨⟨?_, by rw [List.length_set]; exact h.2.1, h.2.2⟩, h2⟩
  rw [flat_setK R.len d' k hk v ds i d hd hcv]
  exact h1
/-- An element of a row of one's own, of three cells. -/
theorem own3_at {α : Type} {cv : α → List Value} {P : Program} {t e : TypeId} {bytes : Nat} (R : Rowed P t e 3 bytes cv) {w : World} {base n c : Nat} {a : Option Addr} {ds : List α} (h : OwnG cv e 3 w base (.slice a n c) n ds) (i : Nat) (hi : i < n) :
    ∃ g d, a = some ⟨g, 0, none⟩ ∧ base ≤ g ∧ g < w.heap.size ∧ ds[i]? = some d ∧ (w.cell? ⟨g, i * 3, none⟩ = (cv d)[0]? ∧ w.cell? ⟨g, i * 3 + 1, none⟩ = (cv d)[1]? ∧ w.cell? ⟨g, i * 3 + 2, none⟩ = (cv d)[2]?) ∧ (∀ k, w.frozen? ⟨g, k, none⟩ = false) ∧ ∃ cs, Blk w g e cs := by
  obtain ⟨b, off, d, e1, hd, hlt, x0, x1, x2⟩ := row3_at R (h.reads R).1 i hi
  obtain ⟨h1, h2, h3⟩ := h
  rcases h1.2 with ⟨e', e0⟩ | ⟨g, cap', cur, e', hb, hg, r⟩
  · omega
  · cases e'
    cases e1
    simp only [Nat.zero_add] at x0 x1 x2
    exact ⟨_, d, rfl, hb, lt_of_block hg, hd, ⟨x0, x1, x2⟩, fun k => h1.frozenAt k, cur, hg⟩
theorem take_map_succ {α β : Type} {f : α → β} {ds : List α} {j : Nat} {d : α} (h : ds[j]? = some d) : (ds.map f).take (j + 1) = (ds.map f).take j ++ [f d] := by
  rw [List.take_add_one, List.getElem?_map, h]
  rfl
theorem mid_at {α : Type} {es ds : List α} {j : Nat} (he : es.length = j) {d : α} (h : (es ++ ds.drop j)[j]? = some d) : ds[j]? = some d := by
  rw [List.getElem?_append_right (by omega), he, Nat.sub_self, List.getElem?_drop, Nat.add_zero] at h
  exact h
/-- Between two bitmaps. -/
structure BmL (w : World) (base : Nat) (a : Option Addr) (len c j : Nat) (ds es : List Bm) (W : World) : Prop where
  row : OwnG bmV 43 3 W base (.slice a len c) len (es ++ ds.drop j)
  sps : ∀ d ∈ es, SpN W base d.2.2.1 d.2.2.2.1 d.2.2.2.2.1 (bmL d)
  len : es.length = j
  is : es.map bmM = (ds.map bmM).take j
  dat : Below base w W
  low : base ≤ W.heap.size
set_option maxRecDepth 100000 in
set_option maxHeartbeats 1600000 in
theorem pcopyBms (w : World) (a : Option Addr) (len cap : Nat) (B : List BmM) (h : BmsD w a len cap B) : Calls Try.prog 38 #[.slice a len cap] w fun e w' => ∃ (a' : Option Addr) (c' : Nat), e = .returned (.slice a' len c') ∧ BmsN w' w.heap.size a' len c' B ∧ Below w.heap.size w w' := by
  obtain ⟨ds, ⟨h1, h2⟩, rfl, h3, h4, h5⟩ := h
  have hdl := h1.1
  have HCL := Lib.hid (cloneBm w a len cap ds h1 h3 (by omega))
  have H2 := Lib.hid h2
  have H5 := Lib.hid h5
  clear h1 h2 h3 h5
  go_enter Try.func38, Try.ntmps38
  go_wp2_with (go_at_call 50; refine HCL.out.mono ?_; rintro e w1 ⟨a1, c1, rfl, g1, g2⟩; have HO := Lib.hid g1; have HG := Lib.hid g2; clear g1 g2 HCL)
  go_loopw [10] (fun i wr => ∃ (j : Nat) (es : List Bm), j ≤ len ∧ i = .int .i64 j ∧ Hid (BmL w w.heap.size a1 len c1 j ds es wr)) (fun i _ => len - (intOf i).toNat)
  case atStart => exact ⟨0, [], Nat.zero_le _, rfl, by simpa using HO.out, by simp, rfl, rfl, HG.out, HG.out.size⟩
  case round =>
    obtain ⟨j, es, hj, rfl, HL⟩ := hrel
    by_cases hlt : j < len
    · obtain ⟨g, ⟨nm, on, al, ll, cl, l⟩, rfl, hg1, hg2, hd, ⟨x0, x1, x2⟩, hfz, cs, hblk⟩ := own3_at bm_rowed HL.out.row j hlt
      have hd2 := mid_at HL.out.len hd
      have hx0 : wr.cell? ⟨g, j * 3, none⟩ = some (.string nm) := x0
      have hx1 : wr.cell? ⟨g, j * 3 + 1, none⟩ = some (.bool on) := x1
      have hx2 : wr.cell? ⟨g, j * 3 + 2, none⟩ = some (.slice al ll cl) := x2
      have hs0 : SpD w al ll cl l := H2.out _ (List.mem_of_getElem? hd2)
      have HS := Lib.hid hs0
      have HD2 := Lib.hid hd2
      have HD := Lib.hid hd
      have HFZ := Lib.hid hfz
      have HW : Hid (Below w.heap.size w (wr.alloc (.cells #[.string nm, .bool on, .slice al ll cl] 43))) := HL.out.dat.alloc HL.out.low _
      have HLA : Hid (Blk (wr.alloc (.cells #[.string nm, .bool on, .slice al ll cl] 43)) wr.heap.size 43 #[.string nm, .bool on, .slice al ll cl]) := Blk.new _ _ _
      have hb2 : (wr.alloc (.cells #[.string nm, .bool on, .slice al ll cl] 43)).cell? ⟨wr.heap.size, 2, none⟩ = some (.slice al ll cl) := HLA.out.cell 2
      have HSC := Lib.hid (cloneSp (wr.alloc (.cells #[.string nm, .bool on, .slice al ll cl] 43)) al ll cl l (HS.out.later HW.out).1 HS.out.2.1 (by have := HS.out.2.2.1; omega))
      clear x0 x1 x2 hd hd2 hs0 hfz hblk
      go_wp2_with (go_at_call 51; refine HSC.out.mono ?_; rintro e w2 ⟨a2, c2, rfl, g1, g2⟩; have HO2 := Lib.hid g1; have HG2 := Lib.hid (((Below.refl _ wr).alloc (Nat.le_refl _) _).trans (g2.mono (by simp))); have y2 : w2.cell? ⟨g, j * 3 + 2, none⟩ = some (.slice al ll cl) := (HG2.out.cell (p := ⟨g, j * 3 + 2, none⟩) hg2).trans hx2; have fz2 : w2.frozen? ⟨g, j * 3 + 2, none⟩ = false := (HG2.out.frozen (p := ⟨g, j * 3 + 2, none⟩) hg2).trans (HFZ.out _); clear g1 g2 HSC)
      have hrow2 := HL.out.row.laterB HG2.out
      obtain ⟨q1, q2⟩ := own_setK bm_rowed hrow2 j 2 _ (nm, on, a2, ll, c2, l) HD.out (.slice a2 ll c2) (by omega) rfl
      have hset : (es ++ ds.drop j).set j (nm, on, a2, ll, c2, l) = (es ++ [(nm, on, a2, ll, c2, l)]) ++ ds.drop (j + 1) := mid_set _ _ _ _ HL.out.len (by omega)
      rw [hset] at q1
      have hoff : Off w2 (some g) 40 := OwnG.off (e := 40) hrow2 (by decide)
      have HL3 : Hid (BmL w w.heap.size (some ⟨g, 0, none⟩) len c1 (j + 1) ds (es ++ [(nm, on, a2, ll, c2, l)]) (w2.setCell ⟨g, j * 3 + 2, none⟩ (.slice a2 ll c2))) := by
        refine ⟨q1, fun d hd => ?_, by rw [List.length_append, HL.out.len]; rfl, ?_, belowRow (HL.out.dat.trans (HG2.out.mono HL.out.low)) q2 hg1 (Nat.le_trans HL.out.low HG2.out.size), by rw [World.size_setCell]; exact Nat.le_trans HL.out.low HG2.out.size⟩
        · rcases List.mem_append.1 hd with hd | hd
          · exact ((HL.out.sps d hd).off (Off.none _ _) (grown_of_below HG2.out)).off hoff q2
          · obtain rfl : d = (nm, on, a2, ll, c2, l) := by simpa using hd
            have hn : SpN w2 w.heap.size a2 ll c2 l := ⟨HO2.out.monoB (by rw [World.size_alloc]; have := HL.out.low; omega), HS.out.2.2⟩
            exact hn.off hoff q2
        · rw [List.map_append, HL.out.is, take_map_succ HD2.out]
          rfl
      clear hrow2 q1 q2 hset hoff
      go_roundw
      case rel => exact ⟨j + 1, _, by omega, by go_num, HL3.out⟩
      case measure => simp [intOf]; omega
    · obtain rfl : j = len := by omega
      go_wp2
      go_ret
      have hr := HL.out.row
      rw [List.drop_eq_nil_of_le (Nat.le_of_eq hdl), List.append_nil] at hr
      refine ⟨a1, c1, rfl, ⟨es, hr, HL.out.sps, ?_, h4, H5.out⟩, HL.out.dat⟩
      rw [HL.out.is, List.take_of_length_le]
      rw [List.length_map]
      exact Nat.le_of_eq hdl
end Go.Proofs.Ytipljkegmhclkaa
