/-
  What Unpack's work does with the literal bytes of a sequence. Conditions: short texts.
-/
import Derived.Test.YtlkpedknhjgdiaaA3
import Derived.Deep.RegionLaw
import Derived.Deep.QuietTactic
namespace Go.Proofs.Ytlkpedknhjgdiaa
open Go.RowKit

/-- 's[i:]'. -/
theorem slice_back {w : World} {a : Option Addr} {len cap : Nat} {l : List Int} (h : Bytes w a len l) (hcap : len ≤ cap) (hnil : a = none → cap = 0) (i : Nat) (hi : i ≤ len) :
    ∃ (a' : Option Addr) (c' : Nat), (∀ w' : World, (Instr.slice 22 (.slice a len cap) (some (.int .i64 i)) none none).run Try.prog w' = .ok (.slice a' (len - i) c') w') ∧ Bytes w a' (len - i) (l.drop i) ∧ (a' = none → c' = 0) ∧ len - i ≤ c' := by
  obtain ⟨i0, hi0, _, hz1, _⟩ := info_parts info5
  obtain ⟨h1, h2, h3⟩ := h
  have hsm : Small (l.drop i) := ⟨by rw [List.length_drop]; have := h2.1; omega, fun c hc => h2.2 c (List.mem_of_mem_drop hc)⟩
  have hln : (l.drop i).length = len - i := by rw [List.length_drop]; omega
  refine ⟨if cap = i then a else a.map (·.add (i * 1)), cap - i, fun w' => ?_, ⟨hln, hsm, ?_⟩, ?_, by omega⟩
  · simp [Instr.slice, Instr.sliceBounds, Instr.sliceBound, asIntOf, run_underlying Try.underlying22, sizeOf, typeInfo, hi0, hz1, hi, go_sem]
  · by_cases hz : len - i = 0
    · exact Or.inl hz
    · obtain ⟨b, off, rfl, hlt, hc⟩ := h3.resolve_left (by omega)
      refine Or.inr ⟨b, off + i, ?_, hlt, fun j hj => ?_⟩
      · rw [if_neg (by omega)]
        simp [Addr.add]
      · rw [hln] at hj
        have := hc (i + j) (by omega)
        rw [Nat.add_assoc, this, List.getD_eq_getElem?_getD, List.getD_eq_getElem?_getD, List.getElem?_drop]
  · intro e
    by_cases hz : cap = i
    · omega
    · rw [if_neg hz] at e
      have : a = none := by cases a <;> simp_all
      have := hnil this
      omega
/-- A slice that came in reads on in the work's world. -/
theorem Bytes.old {w0 w : World} {a : Option Addr} {len : Nat} {l : List Int} (h : Bytes w0 a len l) (hb : Below w0.heap.size w0 w) : Bytes w a len l := h.later hb
theorem own_block {w : World} {base : Nat} {v : Value} {n : Nat} {xs : List Int} (h : Own w base v n xs) : ∀ k, v.ownBlock = some k → base ≤ k := fun k hk => (h.1.lt k hk).1
theorem own_set {w : World} {base : Nat} {v : Value} {n : Nat} {xs : List Int} (h : Own w base v n xs) {a : Addr} (ha : a.block < base) (u : Value) : Own (w.setCell a u) base v n xs := ⟨ownsRow_setCell_below h.1 ha u, h.2⟩

set_option maxHeartbeats 1600000 in
theorem literals_bad (w0 : World) (l : List Int) (most p n : Nat) (out : List Int) (w : World) (h : Un w0 l most p out w) (hm : most ≤ 1048576) (E : Int)
    (hE : (most - out.length < min n (l.length - p) ∧ E = 2) ∨ (¬ most - out.length < min n (l.length - p) ∧ l.length - p < n ∧ E = 3)) :
    Calls Try.prog 27 #[.pointer (some ⟨w0.heap.size, 0, none⟩), .int .i64 n] w fun e w' => e = .returned (.int .i64 E) ∧ Below w0.heap.size w0 w' := by
  have HM : Hid (∀ w', w' = w → Calls Try.prog 32 #[.pointer (some ⟨w0.heap.size, 0, none⟩)] w' fun e w' => e = .returned (.int .i64 ((most - out.length : Nat) : Int)) ∧ w' = w.drew) := fun w' e => e ▸ room_any w0 l most p out w h hm
  obtain ⟨ar, nr, cr, ao, no, co, h1, h2, h3, h4, h5, h6, h7, h8⟩ := h
  have c0 := h1.c0
  have HN : Hid (nr = l.length - p) := by rw [Hid, ← h2.1, List.length_drop]
  have HB := Lib.hid h8
  have hl := h6.len
  obtain ⟨R, HR⟩ := named (most - out.length)
  rw [HR.out, ← HN.out] at hE
  rw [HR.out] at HM
  clear h1 h2 h4 h6 h8
  obtain ⟨U, hU⟩ := named w0.heap.size
  rw [hU.out] at c0 HM HB ⊢
  have hR : R ≤ 1048576 := by have := HR.out; omega
  rcases (by omega : nr < n ∨ n ≤ nr) with k | k
  · rcases hE with ⟨k2, rfl⟩ | ⟨k2, k3, rfl⟩
    · have k4 : R < nr := by omega
      clear k2
      go_enter Try.func27, Try.ntmps27
      go_wp2_with (go_at_call 32; refine (HM.out _ rfl).mono ?_; rintro e w' ⟨rfl, rfl⟩)
      go_ret
      exact ⟨rfl, HB.out.drew⟩
    · have k4 : nr ≤ R := by omega
      clear k2
      go_enter Try.func27, Try.ntmps27
      go_wp2_with (go_at_call 32; refine (HM.out _ rfl).mono ?_; rintro e w' ⟨rfl, rfl⟩)
      go_ret
      exact ⟨rfl, HB.out.drew⟩
  · rcases hE with ⟨k2, rfl⟩ | ⟨k2, k3, rfl⟩
    · have k4 : R < n := by omega
      clear k2
      go_enter Try.func27, Try.ntmps27
      go_wp2_with (go_at_call 32; refine (HM.out _ rfl).mono ?_; rintro e w' ⟨rfl, rfl⟩)
      go_ret
      exact ⟨rfl, HB.out.drew⟩
    · omega

set_option maxRecDepth 100000 in
set_option maxHeartbeats 3200000 in
theorem literals_ok (w0 : World) (l : List Int) (most p n : Nat) (out : List Int) (w : World) (h : Un w0 l most p out w) (hm : most ≤ 1048576) (hn : n ≤ most - out.length) (hn2 : n ≤ l.length - p) :
    Calls Try.prog 27 #[.pointer (some ⟨w0.heap.size, 0, none⟩), .int .i64 n] w fun e w' => e = .returned (.int .i64 0) ∧ Un w0 l most (p + n) (out ++ (l.drop p).take n) w' := by
  have HM : Hid (∀ w', w' = w → Calls Try.prog 32 #[.pointer (some ⟨w0.heap.size, 0, none⟩)] w' fun e w' => e = .returned (.int .i64 ((most - out.length : Nat) : Int)) ∧ w' = w.drew) := fun w' e => e ▸ room_any w0 l most p out w h hm
  obtain ⟨ar, nr, cr, ao, no, co, h1, h2, h3, h4, h5, h6, h7, h8⟩ := h
  have c0 := h1.c0
  have c1 := h1.c1
  have f0 := h1.free 0
  have f1 := h1.free 1
  have HN : Hid (nr = l.length - p) := by rw [Hid, ← h2.1, List.length_drop]
  have HB := Lib.hid h8
  have HL := Lib.hid h6.len
  have HR := Lib.hid h1
  have HO := Lib.hid h6
  have hnr : n ≤ nr := by rw [HN.out]; exact hn2
  obtain ⟨a1, S1, B1, N1⟩ := slice_front h2 h3 h4 n hnr
  obtain ⟨a2, c2, S2, B2, N2, C2⟩ := slice_back h2 h3 h4 n hnr
  have HB1 := Lib.hid B1
  have HB2 := Lib.hid B2
  have HN1 := Lib.hid N1
  have HN2 := Lib.hid N2
  have HC2 := Lib.hid C2
  have hno : no + n ≤ most := by have := HL.out; omega
  obtain ⟨R, HRR⟩ := named (most - out.length)
  rw [HRR.out] at hn HM
  obtain ⟨O, HOO⟩ := named (out ++ (l.drop p).take n)
  rw [HOO.out]
  have hR : R ≤ 1048576 := by have := HRR.out; omega
  have hn3 : n ≤ 1048576 := by omega
  have HP : Hid (p + n ≤ l.length) := by rw [Hid]; omega
  have hsz := h1.lt
  clear h1 h2 h4 h5 h6 h8 hn2 B1 B2 N1 N2 C2
  obtain ⟨U, hU⟩ := named w0.heap.size
  have HU := Lib.hid hU.out
  have HD : Hid ((l.drop p).drop n = l.drop (p + n)) := by rw [Hid, List.drop_drop]
  rw [hU.out] at c0 c1 f0 f1 HM hsz HO HR ⊢
  go_enter Try.func27, Try.ntmps27
  go_wp2_with (go_at_call 32; refine (HM.out _ rfl).mono ?_; rintro e w' ⟨rfl, rfl⟩)
  go_region_law (refine step_append_bytes (by rfl) _ _ (by rfl) (U + 2) (.slice ao no co) no out (by rfl) HO.out.drew.drew a1 n cr _ (by rfl) HN1.out ((HB1.out.old (HB.out)).drew.drew) (by omega) (by simp; omega) ?_; intro a4 c4 w4 g1 g2; have HO4 := Lib.hid g1; have HG4 := Lib.hid g2; have HR3 := Lib.hid (HR.out.drew.drew.grown g2 (own_block HO.out)); have f14 := HR3.out.free 1; have c14 := HR3.out.c1; clear g1 g2)
  all_goals
    have HB4 : Hid (Below w0.heap.size w0 w4) := by
      have hle : w0.heap.size ≤ w.heap.size := by have := HU.out; omega
      exact HB.out.drew.drew.grown HG4.out hle (fun k hk => by have := own_block HO.out k hk; have := HU.out; omega)
    have HR5 := Lib.hid (HR3.out.set1 (.slice a4 (no + n) c4))
    have f05 := HR5.out.free 0
    have c05 := HR5.out.c0
    go_wp2
    go_ret
    refine ⟨rfl, a2, nr - n, c2, a4, no + n, c4, ?_, ?_, HC2.out, HN2.out, HP.out, ?_, hno, ?_⟩
    · rw [HU.out]; exact HR5.out.set0 _
    · have := HB2.out
      rw [HD.out] at this
      exact this
    · rw [HU.out, ← HOO.out]; exact own_set (own_set HO4.out (by show U < U + 2; omega) _) (by show U < U + 2; omega) _
    · exact (HB4.out.setCell (by have := HU.out; show w0.heap.size ≤ U; omega) _).setCell (by have := HU.out; show w0.heap.size ≤ U; omega) _

/-! The two bytes of a distance. -/
set_option maxHeartbeats 800000 in
theorem distance_cut (w0 : World) (l : List Int) (most p : Nat) (out : List Int) (w : World) (h : Un w0 l most p out w) (hp : l.length - p < 2) :
    Calls Try.prog 28 #[.pointer (some ⟨w0.heap.size, 0, none⟩)] w fun e w' => e = .returned (.tuple #[.int .i64 0, .bool false]) ∧ w' = w := by
  obtain ⟨ar, nr, cr, ao, no, co, h1, h2, h3, h4, h5, h6, h7, h8⟩ := h
  have c0 := h1.c0
  have hN : nr < 2 := by rw [← h2.1, List.length_drop]; exact hp
  clear h1 h2 h4 h6 h8
  go_enter Try.func28, Try.ntmps28
  go_wp2
  go_ret2
  exact ⟨rfl, rfl⟩

theorem far_of2 (l : List Int) (p : Nat) (c6 c7 : Int) (h6 : l.getD p 0 = c6) (h7 : l.getD (p + 1) 0 = c7) (b6 : 0 ≤ c6 ∧ c6 < 256) (b7 : 0 ≤ c7 ∧ c7 < 256) : ∃ F : Nat, bits .or .i64 c6 (c7 * 256) = (F : Int) ∧ farOf l p = F ∧ F ≤ 65535 :=
  ⟨_, far_of c6 c7 b6 b7, by rw [farOf, h6, h7], by omega⟩
theorem drop_at (l : List Int) (p i : Nat) : (l.drop p).getD i 0 = l.getD (p + i) 0 := by
  rw [List.getD_eq_getElem?_getD, List.getD_eq_getElem?_getD, List.getElem?_drop]

set_option maxRecDepth 100000 in
set_option maxHeartbeats 3200000 in
theorem distance_any (w0 : World) (l : List Int) (most p : Nat) (out : List Int) (w : World) (h : Un w0 l most p out w) (hp : ¬ l.length - p < 2) :
    Calls Try.prog 28 #[.pointer (some ⟨w0.heap.size, 0, none⟩)] w fun e w' => e = .returned (.tuple #[.int .i64 (farOf l p : Nat), .bool (decide (¬ (farOf l p = 0 ∨ out.length < farOf l p)))]) ∧ Un w0 l most (p + 2) out w' := by
  obtain ⟨ar, nr, cr, ao, no, co, h1, h2, h3, h4, h5, h6, h7, h8⟩ := h
  have c0 := h1.c0
  have c1 := h1.c1
  have f0 := h1.free 0
  have HN : Hid (nr = l.length - p) := by rw [Hid, ← h2.1, List.length_drop]
  have hnr : 2 ≤ nr := by rw [HN.out]; omega
  obtain ⟨a2, c2, S2, B2, N2, C2⟩ := slice_back h2 h3 h4 2 hnr
  have HB2 := Lib.hid B2
  have HN2 := Lib.hid N2
  have HC2 := Lib.hid C2
  obtain ⟨bb, off, rfl⟩ := h2.lies (by omega)
  have S3 : ∀ w' : World, (Instr.slice 22 (.slice (some ⟨bb, off, none⟩) nr cr) (some (.int .i64 2)) none none).run Try.prog w' = .ok (.slice a2 (nr - 2) c2) w' := S2
  clear S2
  have d6 := (h2.old h8).cellAt 0 (by omega)
  have d7 := (h2.old h8).cellAt 1 (by omega)
  have b6 := h2.small.at (k := 0) (by rw [h2.1]; omega)
  have b7 := h2.small.at (k := 1) (by rw [h2.1]; omega)
  rw [drop_at] at d6 d7 b6 b7
  obtain ⟨c6, HC6⟩ := named (l.getD (p + 0) 0)
  obtain ⟨c7, HC7⟩ := named (l.getD (p + 1) 0)
  rw [HC6.out] at d6 b6
  rw [HC7.out] at d7 b7
  obtain ⟨F, hfar, hF, hF2⟩ := far_of2 l p c6 c7 HC6.out HC7.out b6 b7
  rw [Nat.add_zero] at d6
  have b60 := b6.1
  have b61 := b6.2
  have b70 := b7.1
  have b71 := b7.2
  rw [hF, h6.len]
  have HB := Lib.hid h8
  have HL := Lib.hid h6.len
  have HR := Lib.hid h1
  have HO := Lib.hid h6
  have HP : Hid (p + 2 ≤ l.length) := by rw [Hid]; omega
  have HD : Hid ((l.drop p).drop 2 = l.drop (p + 2)) := by rw [Hid, List.drop_drop]
  clear h1 h2 h4 h5 h6 h8 B2 N2 C2 b6 b7 hF
  obtain ⟨U, hU⟩ := named w0.heap.size
  have HU := Lib.hid hU.out
  rw [hU.out] at c0 c1 f0 HR HO ⊢
  have HE : Hid (∀ W : World, Rec W U (.slice (some ⟨bb, off, none⟩) nr cr) (.slice ao no co) most → Own W (U + 2) (.slice ao no co) no out → Below w0.heap.size w0 W → Un w0 l most (p + 2) out (W.setCell ⟨U, 0, none⟩ (.slice a2 (nr - 2) c2))) := fun W g1 g2 g3 => by
    refine ⟨a2, nr - 2, c2, ao, no, co, ?_, ?_, HC2.out, HN2.out, HP.out, ?_, h7, ?_⟩
    · rw [HU.out]; exact g1.set0 _
    · have := HB2.out
      rw [HD.out] at this
      exact this
    · rw [HU.out]; exact own_set g2 (by show U < U + 2; omega) _
    · exact g3.setCell (by have := HU.out; show w0.heap.size ≤ U; omega) _
  go_enter Try.func28, Try.ntmps28
  rcases (by omega : F = 0 ∨ 0 < F) with k | k
  · have hz : decide ((0 : Int) < (F : Int)) = false := by simp [k]
    have hz2 : decide (0 < F) = false := by simp [k]
    have HV : Hid (decide (¬ (F = 0 ∨ no < F)) = false) := by rw [Hid]; simp [k]
    clear k
    go_wp2_with fail
    go_quiet (fail)
    go_wp2_with fail
    go_quiet (fail)
    go_wp2
    go_ret2
    rw [HV.out]
    exact ⟨rfl, (HE.out (w.drewN _) HR.out HO.out (below_drewN HB.out _)).drewN _⟩
  · have hz : (0 : Int) < (F : Int) := by omega
    have HV : Hid (decide (¬ (F = 0 ∨ no < F)) = decide (F ≤ no)) := by
      rw [Hid, decide_eq_decide]
      omega
    go_wp2_with fail
    go_quiet (fail)
    go_wp2_with fail
    go_quiet (fail)
    go_wp2
    go_ret2
    rw [HV.out]
    exact ⟨rfl, (HE.out (w.drewN _) HR.out HO.out (below_drewN HB.out _)).drewN _⟩
end Go.Proofs.Ytlkpedknhjgdiaa
