/-
  Proved: 'matryoshkalaw5.DiskFiles' returns true for every input, and each argument reads afterwards as before: the statement DiskFilesSaid as given. Conditions: none beyond the row's own.
-/
import Derived.Test.YtnhaidofblfopaaRows
import Derived.Test.YtnhaidofblfopaaG5
import Derived.Test.YtnhaidofblfopaaJ6
import Derived.Deep.RegionHeld3
import Derived.Deep.QuietTactic
import Derived.BigQuiet
import Derived.WalkKit
import Derived.ProofKit
import Derived.OpenShut
import Derived.ShutString
import Derived.ChangeOld
import Derived.Below
namespace Go.Proofs.Ytnhaidofblfopaa.diskFiles
open Go.ChangeShapes Go.WideShapes Go.ChangeAt Go.RowKit
open Go.ChangeMaps (open_string shut_string)
set_option linter.unusedVariables false

theorem own : ownKnob Try.prog.godebug = none := by kernel_rfl
theorem laidOut : laidOutB Try.prog = true := by kernel_rfl

def fileN (j : Nat) : Nm := strOfNums [102, 48 + (j : Int) / 10, 48 + (j : Int) % 10]
theorem fileN_size : ∀ j, j < 40 → (fileN j).size = 3 := by decide +kernel
theorem fileN_inj : ∀ i, i < 40 → ∀ j, j < 40 → fileN i = fileN j → i = j := by decide +kernel
def ixF (t : Bool) (k i : Nat) : Nat := if t then k - 1 - i else i
def namesF (t : Bool) (k i : Nat) : List Nm := (List.range (min i 32)).map fun x => fileN (ixF t k x)
def filesD (ns : List Nm) : Dsk := ⟨1000, ns.map fun s => (s, ⟨[], []⟩), [], 0, false, 0⟩
theorem get_none : ∀ (ns : List Nm) (s : Nm), s ∉ ns → fget (ns.map fun s => (s, (⟨[], []⟩ : FileM))) s = none
  | [], _, _ => rfl
  | x :: r, s, h => by
    have h1 : ¬ x = s := fun e => h (by rw [e]; exact List.mem_cons_self ..)
    have := get_none r s fun e => h (List.mem_cons_of_mem _ e)
    unfold fget at this ⊢
    rw [List.map_cons, List.find?_cons_of_neg (by simpa using h1)]
    exact this
theorem get_some : ∀ (ns : List Nm) (s : Nm), s ∈ ns → fget (ns.map fun s => (s, (⟨[], []⟩ : FileM))) s = some ⟨[], []⟩
  | [], _, h => by cases h
  | x :: r, s, h => by
    by_cases h1 : x = s
    · subst h1
      simp [fget]
    · have := get_some r s ((List.mem_cons.1 h).resolve_left fun e => h1 e.symm)
      unfold fget at this ⊢
      rw [List.map_cons, List.find?_cons_of_neg (by simpa using h1)]
      exact this
theorem del_none (ns : List Nm) (s : Nm) (h : s ∉ ns) : fdel (ns.map fun s => (s, (⟨[], []⟩ : FileM))) s = ns.map fun s => (s, ⟨[], []⟩) := by
  unfold fdel
  rw [List.filter_eq_self]
  intro x hx
  obtain ⟨y, hy, rfl⟩ := List.mem_map.1 hx
  simp only [Bool.not_eq_eq_eq_not, Bool.not_true, decide_eq_false_iff_not]
  rintro rfl
  exact h hy
theorem files_create (ns : List Nm) (s : Nm) (h : s ∉ ns) (h3 : s.size = 3) (hl : ns.length < 32) : (filesD ns).create s = (0, filesD (ns ++ [s])) := by
  unfold Dsk.create filesD
  dsimp only
  rw [if_neg (by simp), if_neg (by omega), if_neg (by rw [List.length_map]; omega), del_none ns s h]
  simp
theorem files_full (ns : List Nm) (s : Nm) (h : s ∉ ns) (h3 : s.size = 3) (hl : 32 ≤ ns.length) : (filesD ns).create s = (9, filesD ns) := by
  unfold Dsk.create filesD
  dsimp only
  rw [if_neg (by simp), if_neg (by omega), if_pos ⟨get_none ns s h, by rw [List.length_map]; exact hl⟩]
theorem namesF_len (t : Bool) (k i : Nat) : (namesF t k i).length = min i 32 := by simp [namesF]
theorem ixF_lt (t : Bool) (k i : Nat) (h : i < k) : ixF t k i < k := by unfold ixF; split <;> omega
theorem namesF_not (t : Bool) (k i : Nat) (h : i < k) (hk : k ≤ 40) : fileN (ixF t k i) ∉ namesF t k i := fun hm => by
  obtain ⟨x, hx, e⟩ := List.mem_map.1 hm
  have hx2 := List.mem_range.1 hx
  have := fileN_inj _ (Nat.lt_of_lt_of_le (ixF_lt t k x (by omega)) hk) _ (Nat.lt_of_lt_of_le (ixF_lt t k i h) hk) e
  unfold ixF at this
  split at this <;> omega
theorem files_step (t : Bool) (k i : Nat) (h : i < k) (hk : k ≤ 40) : (filesD (namesF t k i)).create (fileN (ixF t k i)) = (if i < 32 then 0 else 9, filesD (namesF t k (i + 1))) := by
  have h3 := fileN_size _ (Nat.lt_of_lt_of_le (ixF_lt t k i h) hk)
  by_cases hi : i < 32
  · rw [files_create _ _ (namesF_not t k i h hk) h3 (by rw [namesF_len]; omega), if_pos hi]
    unfold namesF
    rw [Nat.min_eq_left (by omega), Nat.min_eq_left (by omega), List.range_succ]
    simp
  · rw [files_full _ _ (namesF_not t k i h hk) h3 (by rw [namesF_len]; omega), if_neg hi]
    unfold namesF
    rw [Nat.min_eq_right (by omega), Nat.min_eq_right (by omega)]
theorem files_used : ∀ ns : List Nm, usedF (ns.map fun s => (s, (⟨[], []⟩ : FileM))) = 0
  | [] => rfl
  | x :: r => by
    have := files_used r
    unfold usedF at this ⊢
    simpa using this
theorem files_last (ns : List Nm) (s : Nm) (h : s ∈ ns) (h3 : s.size = 3) : ∃ D1 D2, (filesD ns).write s 0 (secC 120) = (0, D1) ∧ D1.create s = (0, D2) ∧ D2.size s = (0, 0) ∧ D2.create ⟨#[]⟩ = (1, D2) ∧ D2.create ⟨#[97, 98, 99, 100, 101, 102, 103, 104, 105, 106, 107, 108, 109, 110, 111, 112, 113]⟩ = (1, D2) := by
  have hg : fget (filesD ns).files s = some ⟨[], []⟩ := get_some ns s h
  have hw := write_go (filesD ns) s ⟨[], []⟩ 0 [secC 120] (fun x hx => by rw [List.mem_singleton.1 hx]; exact secC_len _) rfl hg (by simp) (by rw [show usedF (filesD ns).files = 0 from files_used ns]; simp [filesD])
  obtain ⟨now', P, h1, _⟩ := go_zero s [secC 120] 0 (filesD ns) ⟨[], []⟩ rfl hg (by simp)
  rw [h1] at hw
  simp only [List.flatten_cons, List.flatten_nil, List.append_nil] at hw
  refine ⟨⟨1000, fset (filesD ns).files s ⟨now', []⟩, P, 0, false, 1⟩, ⟨1000, fdel (fset (filesD ns).files s ⟨now', []⟩) s ++ [(s, ⟨[], []⟩)], P.filter fun x => !decide (x.1 = s), 0, false, 1⟩, hw, ?_, ?_, ?_, ?_⟩
  · unfold Dsk.create
    dsimp only
    rw [if_neg (by simp), if_neg (by omega), if_neg (by rw [fget_fset hg]; simp)]
  · have : fget (fdel (fset (filesD ns).files s ⟨now', []⟩) s ++ [(s, (⟨[], []⟩ : FileM))]) s = some ⟨[], []⟩ := by
      unfold fget fdel
      rw [List.find?_append, List.find?_eq_none.2 (fun x hx => by simpa using (List.mem_filter.1 hx).2)]
      simp
    unfold Dsk.size
    dsimp only
    rw [this]
    rfl
  · unfold Dsk.create
    dsimp only
    rw [if_neg (by simp), if_pos (by decide)]
  · unfold Dsk.create
    dsimp only
    rw [if_neg (by simp), if_pos (by decide)]
theorem three_bytes (w : World) (x y : Int) (hx : 0 ≤ x ∧ x < 256) (hy : 0 ≤ y ∧ y < 256) : Bytes (w.alloc (.cells #[.int .u8 102, .int .u8 x, .int .u8 y] 5)) (some ⟨w.heap.size, 0, none⟩) 3 [102, x, y] := by
  refine ⟨rfl, ⟨by simp, fun c hc => ?_⟩, Or.inr ⟨w.heap.size, 0, rfl, by simp, fun i hi => ?_⟩⟩
  · simp at hc
    rcases hc with rfl | rfl | rfl <;> omega
  · rw [Nat.zero_add, World.cell?_alloc_new]
    have h3 : i < 3 := hi
    match i, h3 with
    | 0, _ => rfl
    | 1, _ => rfl
    | 2, _ => rfl
theorem file_conv (J : Nat) (h : J < 40) (w : World) : (convert 22 9 (.slice (some ⟨w.heap.size, 0, none⟩) 3 3)).run Try.prog (w.alloc (.cells #[.int .u8 102, .int .u8 (48 + (J : Int) / 10), .int .u8 (48 + (J : Int) % 10)] 5)) = .ok (.string (fileN J)) (w.alloc (.cells #[.int .u8 102, .int .u8 (48 + (J : Int) / 10), .int .u8 (48 + (J : Int) % 10)] 5)) :=
  conv_str (three_bytes w _ _ (by omega) (by omega)) 3
theorem run_min2 (P : Program) (ts : Array TypeId) (t : TypeId) (x y : Int) (w : World) : (Builtin.min_ ts t #[.int .i64 x, .int .i64 y]).run P w = .ok (.int .i64 (if y < x then y else x)) w := by
  simp [Builtin.min_, Builtin.min2]

theorem strs_cell {w : World} {b off : Nat} {len : Nat} {L : List Nm} (h : Strs w (some ⟨b, off, none⟩) len L) (i : Nat) (hi : i < len) : w.cell? ⟨b, off + i, none⟩ = some (.string (L.getD i ⟨#[]⟩)) := by
  obtain ⟨rfl, _, h3⟩ := h
  obtain ⟨b', off', e, _, hc⟩ := h3.resolve_left (by omega)
  cases e
  refine hc i _ ?_
  rw [List.getD_eq_getElem?_getD, List.getElem?_eq_getElem hi]
  rw [← List.map_eq_flatMap, List.getElem?_map, List.getElem?_eq_getElem hi]
  rfl
theorem bytes_less : ∀ (x y : List UInt8), Op.bytesLess x y = decide (x < y)
  | [], [] => by simp [Op.bytesLess]
  | _ :: _, [] => by simp [Op.bytesLess]
  | [], _ :: _ => by simp [Op.bytesLess]
  | a :: x, b :: y => by
    rw [Op.bytesLess, bytes_less x y]
    simp only [List.cons_lt_cons_iff]
    by_cases h1 : a < b <;> by_cases h2 : a = b <;> by_cases h3 : x < y <;> simp [h1, h2, h3]
theorem less_of {x y : Nm} (h : x.data.toList < y.data.toList) : Op.bytesLess x.toList y.toList = true := by
  rw [bytes_less, ByteArray.toList_eq, ByteArray.toList_eq]
  simpa using h
/-- A cell that is not the disk's. -/
structure CellOut (S : Nat → Prop) (w : World) (q : Addr) (v : Value) : Prop where
  cell : w.cell? q = some v
  lt : q.block < w.heap.size
  far : ¬ S q.block
theorem CellOut.later {S : Nat → Prop} {w w' : World} {q : Addr} {v : Value} (h : CellOut S w q v) (hb : Below w.heap.size w w') : CellOut S w' q v := ⟨(hb.cell h.lt).trans h.cell, Nat.lt_of_lt_of_le h.lt hb.size, h.far⟩
theorem CellOut.drew {S : Nat → Prop} {w : World} {q : Addr} {v : Value} (h : CellOut S w q v) : CellOut S w.drew q v := h.later (Below.refl _ _).drew
theorem CellOut.away {S S' : Nat → Prop} {w w' : World} {q : Addr} {v : Value} (h : CellOut S w q v) (ha : Away S w S' w') : CellOut S' w' q v := ⟨(World.cell?_of_block (ha.block _ h.lt h.far)).trans h.cell, Nat.lt_of_lt_of_le h.lt ha.size, ha.far h.lt h.far⟩

set_option maxRecDepth 100000 in
set_option maxHeartbeats 4000000 in
theorem walk (a0 : Int) (a1 : Bool) (w : World) (w0 : (Lit.int .u8 a0).wf = true) :
    Calls Try.prog 9 #[.int .u8 a0, .bool a1] w fun e w' => e = .returned (.bool true) ∧ Below w.heap.size w w' := by
  have hN := byte_of_wf w0
  obtain ⟨n, rfl⟩ : ∃ n : Nat, a0 = (n : Int) := ⟨a0.toNat, by omega⟩
  have hn256 : n < 256 := by omega
  obtain ⟨k, hk, hk1, hk40⟩ : ∃ k : Nat, (1 : Int) + (n : Int) % 40 = (k : Int) ∧ 1 ≤ k ∧ k ≤ 40 := ⟨1 + n % 40, by omega, by omega, by omega⟩
  clear w0 hN
  go_enter Try.func9, Try.ntmps9
  go_wp2_with (first
    | (go_at_call 12; refine (num5_any _ _).mono ?_; rintro e wn ⟨rfl, rfl⟩)
    | (go_at_call 11; refine (diskNew_ok w w 1000 (by omega) (by omega) (Below.refl _ _)).mono ?_; rintro e w1 ⟨p, S1, rfl, hh, _⟩; have HD : Hid (Has w p (filesD (namesF a1 k 0)) w1 S1) := hh; clear hh))
  go_loopw [8, 9, 10] (fun i _ _ wr => ∃ (x : Nat) (S : Nat → Prop), x ≤ k ∧ i = .int .i64 x ∧ Hid (Has w p (filesD (namesF a1 k x)) wr S)) (fun i _ _ _ => k - (intOf i).toNat)
  case atStart => exact ⟨0, _, Nat.zero_le _, rfl, HD.out⟩
  case round =>
    obtain ⟨x, S, hx, rfl, HDx⟩ := hrel
    by_cases hlt : x < k
    · cases a1 with
      | true =>
        obtain ⟨J, hJ1, hJ2, hJ3⟩ : ∃ J : Nat, (k : Int) - 1 - (x : Int) = (J : Int) ∧ k - 1 - x = J ∧ J < 40 := ⟨k - 1 - x, by omega, rfl, by omega⟩
        have hJ : ixF true k x = J := by rw [← hJ2]; rfl
        clear hJ2
        by_cases h32 : x < 32
        · have HE : Hid ((if x < 32 then (0 : Int) else 9) = 0) := by rw [if_pos h32]; rfl
          have E := Lib.hid (files_step true k x hlt hk40)
          rw [hJ, HE.out] at E
          have hcv := file_conv J (by omega)
          go_wp2_with (first
            | (go_at_call 12; refine (num5_any _ _).mono ?_; rintro e wn ⟨rfl, rfl⟩)
            | (go_at_call 13; refine (diskCreate_any (HDx.out.alloc _) _ 0 E.out).mono ?_; clear E; rintro e w4 ⟨S4, rfl, hh, _⟩; have HD4 := Lib.hid hh; clear hh))
          go_roundw
          case rel => exact ⟨x + 1, S4, by omega, by go_num, HD4.out⟩
          case measure => simp [intOf]; omega
        · have HE : Hid ((if x < 32 then (0 : Int) else 9) = 9) := by rw [if_neg h32]; rfl
          have E := Lib.hid (files_step true k x hlt hk40)
          rw [hJ, HE.out] at E
          have hcv := file_conv J (by omega)
          go_wp2_with (first
            | (go_at_call 12; refine (num5_any _ _).mono ?_; rintro e wn ⟨rfl, rfl⟩)
            | (go_at_call 13; refine (diskCreate_any (HDx.out.alloc _) _ 9 E.out).mono ?_; clear E; rintro e w4 ⟨S4, rfl, hh, _⟩; have HD4 := Lib.hid hh; clear hh))
          go_roundw
          case rel => exact ⟨x + 1, S4, by omega, by go_num, HD4.out⟩
          case measure => simp [intOf]; omega
      | false =>
        have hJ : ixF false k x = x := rfl
        by_cases h32 : x < 32
        · have HE : Hid ((if x < 32 then (0 : Int) else 9) = 0) := by rw [if_pos h32]; rfl
          have E := Lib.hid (files_step false k x hlt hk40)
          rw [hJ, HE.out] at E
          have hcv := file_conv x (by omega)
          go_wp2_with (first
            | (go_at_call 12; refine (num5_any _ _).mono ?_; rintro e wn ⟨rfl, rfl⟩)
            | (go_at_call 13; refine (diskCreate_any (HDx.out.alloc _) _ 0 E.out).mono ?_; clear E; rintro e w4 ⟨S4, rfl, hh, _⟩; have HD4 := Lib.hid hh; clear hh))
          go_roundw
          case rel => exact ⟨x + 1, S4, by omega, by go_num, HD4.out⟩
          case measure => simp [intOf]; omega
        · have HE : Hid ((if x < 32 then (0 : Int) else 9) = 9) := by rw [if_neg h32]; rfl
          have E := Lib.hid (files_step false k x hlt hk40)
          rw [hJ, HE.out] at E
          have hcv := file_conv x (by omega)
          go_wp2_with (first
            | (go_at_call 12; refine (num5_any _ _).mono ?_; rintro e wn ⟨rfl, rfl⟩)
            | (go_at_call 13; refine (diskCreate_any (HDx.out.alloc _) _ 9 E.out).mono ?_; clear E; rintro e w4 ⟨S4, rfl, hh, _⟩; have HD4 := Lib.hid hh; clear hh))
          go_roundw
          case rel => exact ⟨x + 1, S4, by omega, by go_num, HD4.out⟩
          case measure => simp [intOf]; omega
    · obtain rfl : x = k := by omega
      go_wp2_with (go_at_call 23; refine (diskList_any HDx.out).mono ?_; rintro e w3 ⟨al, cl, L, S3, rfl, hL, hP, hR, hX, hh, _⟩; have HD := Lib.hid hh; have HL := Lib.hid hL; have HP := Lib.hid hP; have HRI := Lib.hid hR; have HX := Lib.hid hX; clear hh hL hP hR hX)
      have hLn : L.length = min x 32 := by rw [HP.out.length_eq, List.length_map]; show ((namesF a1 x x).map _).length = _; rw [List.length_map, namesF_len]
      obtain ⟨m, hm⟩ : ∃ m : Nat, L.length = m := ⟨_, rfl⟩
      rw [hm] at HL HX
      have hm1 : 0 < m := by omega
      have hm40 : m ≤ 40 := by omega
      have hmin : ∀ (ts : Array TypeId) (t : TypeId) (w : World), (Builtin.min_ ts t #[.int .i64 (x : Int), .int .i64 32]).run Try.prog w = .ok (.int .i64 (m : Int)) w := fun ts t w => by
        rw [run_min2]
        split <;> congr 2 <;> omega
      obtain ⟨b, off, rfl⟩ := HL.out.lies hm1
      obtain ⟨s0, HS⟩ := named (L.getD 0 ⟨#[]⟩)
      have hmem : s0 ∈ namesF a1 x x := by
        have : s0 ∈ L := by
          rw [← HS.out, List.getD_eq_getElem?_getD, List.getElem?_eq_getElem (by omega)]
          exact List.getElem_mem _
        have := HP.out.mem_iff.1 this
        simpa [filesD] using this
      have hs3 : s0.size = 3 := by
        obtain ⟨y, hy, e⟩ := List.mem_map.1 hmem
        rw [← e]
        exact fileN_size _ (Nat.lt_of_lt_of_le (ixF_lt a1 x y (by have := List.mem_range.1 hy; omega)) hk40)
      obtain ⟨D1, D2, e1, e2, e3, e4, e5⟩ := files_last _ s0 hmem hs3
      have EW := Lib.hid e1
      have EC := Lib.hid e2
      have ES := Lib.hid e3
      have EN := Lib.hid e4
      have EB := Lib.hid e5
      have HC : Hid (CellOut S3 w3 ⟨b, off, none⟩ (.string s0)) := by
        have h1 := strs_cell HL.out 0 hm1
        rw [HS.out] at h1
        obtain ⟨g1, g2⟩ := HX.out hm1 _ rfl
        exact Lib.hid ⟨h1, g1, g2⟩
      clear e1 e2 e3 e4 e5 hmem hs3 hLn HX HP hlt hk
      rw [← hm] at hm1
      go_loopw [12] (fun i wr => ∃ y : Nat, y + 1 ≤ m ∧ i = .int .i64 y ∧ Hid (Below w3.heap.size w3 wr)) (fun i _ => m - (intOf i).toNat)
      case atStart => exact ⟨0, by omega, rfl, Below.refl _ _⟩
      case round =>
        obtain ⟨y, hy, rfl, HB⟩ := hrel
        by_cases hlt : y + 1 < m
        · have HLy := Lib.hid (HL.out.later HB.out)
          have hc1 := strs_cell HLy.out y (by omega)
          have hc2 := strs_cell HLy.out (y + 1) (by omega)
          have hle := less_of (HRI.out y (by omega))
          obtain ⟨X, HX⟩ := named (L.getD y ⟨#[]⟩)
          obtain ⟨Y, HY⟩ := named (L.getD (y + 1) ⟨#[]⟩)
          rw [HX.out] at hc1 hle
          rw [HY.out] at hc2 hle
          go_wp2_with fail
          go_quiet (fail)
          go_wp2
          go_roundw
          case rel => exact ⟨y + 1, by omega, by go_num, below_drewN HB.out _⟩
          case measure => simp [intOf]; omega
        · obtain rfl : m = y + 1 := by omega
          replace HD := Lib.hid (HD.out.later HB.out)
          replace HC := Lib.hid (HC.out.later HB.out)
          have hc0 := HC.out.cell
          go_wp2_with fail
          refine wp_region_held_drew (S := fun w' => w'.cell? ⟨b, off, none⟩ = some (.string s0)) (by kernel_rfl) (by first | exact HC.out.cell | exact HC.out.drew.cell) (fun hHeld => ?_)
          refine wpAnyH_take (i := 0) (oi := _) (v := ?vf0) rfl (by kernel_rfl) (by kernel_rfl) (by kernel_rfl) (fun _ _ _ h => h) (Or.inl ⟨by rfl, ?hyf0⟩) (by assumption) ?restf0
          case hyf0 => (intro wz hSw; (try dsimp only at hSw); go_simp; try with_reducible rfl)
          (try simp only [List.getElem_toArray, List.getElem_cons_zero, Act.put, List.setIfInBounds_toArray, List.set_cons_zero, List.set_cons_succ])
          refine wpAnyH_take (i := 1) (oi := _) (v := ?vf1) rfl (by kernel_rfl) (by kernel_rfl) (by kernel_rfl) (fun _ _ _ h => h) (Or.inl ⟨by rfl, ?hyf1⟩) (by assumption) ?restf1
          case hyf1 => (intro wz hSw; (try dsimp only at hSw); go_simp; try with_reducible rfl)
          (try simp only [List.getElem_toArray, List.getElem_cons_zero, List.getElem_cons_succ, Act.put, List.setIfInBounds_toArray, List.set_cons_zero, List.set_cons_succ])
          refine wpAnyH_take (i := 2) (oi := _) (v := ?vf2) rfl (by kernel_rfl) (by kernel_rfl) (by kernel_rfl) (fun _ _ _ h => h) (Or.inl ⟨by rfl, ?hyf2⟩) (by assumption) ?restf2
          case hyf2 => (intro wz hSw; (try dsimp only at hSw); go_simp; try with_reducible rfl)
          (try simp only [List.getElem_toArray, List.getElem_cons_zero, List.getElem_cons_succ, Act.put, List.setIfInBounds_toArray, List.set_cons_zero, List.set_cons_succ])
          refine wpAnyH_take (i := 3) (oi := _) (v := ?vf3) rfl (by kernel_rfl) (by kernel_rfl) (by kernel_rfl) (fun _ _ _ h => h) (Or.inl ⟨by rfl, ?hyf3⟩) (by assumption) ?restf3
          case hyf3 => (intro wz hSw; (try dsimp only at hSw); go_simp; try with_reducible rfl)
          (try simp only [List.getElem_toArray, List.getElem_cons_zero, List.getElem_cons_succ, Act.put, List.setIfInBounds_toArray, List.set_cons_zero, List.set_cons_succ])
          refine wpAnyH_ready (rs := [4]) (by kernel_rfl) (by simp) ?_
          refine AllReadyH.cons (o := _) rfl (fun K hK => ?_) AllReadyH.nil
          rw [if_pos (by rfl)]
          go_simp
          (go_at_call 15; refine (sectorD HD.out.drew 120 (by omega)).mono ?_; rintro e w5 ⟨b9, rfl, hO, hh, hb, _⟩; have HO := Lib.hid hO; replace HD := Lib.hid hh; replace HC := Lib.hid (HC.out.drew.later hb); clear hh hO hb)
          dsimp only
          refine hK.out _ _ (by first | exact HC.out.cell | exact HC.out.drew.cell) (fun hHeld => ?_)
          clear hK K
          (try simp only [List.getElem_toArray, List.getElem_cons_zero, List.getElem_cons_succ, Act.put, List.setIfInBounds_toArray, List.set_cons_zero, List.set_cons_succ])
          refine wpAnyH_ready (rs := [5]) (by kernel_rfl) (by simp) ?_
          refine AllReadyH.cons (o := _) rfl (fun K hK => ?_) AllReadyH.nil
          rw [if_pos (by rfl)]
          go_simp
          (go_at_call 14; refine (diskWrite_any HD.out s0 0 (by omega) _ 16 16 (secC 120) HO.out (Nat.le_refl _) (fun e => by cases e) (by omega) 0 EW.out (Nat.zero_le _)).mono ?_; clear EW; rintro e w6 ⟨S6, rfl, hh, ha⟩; replace HD := Lib.hid hh; replace HC := Lib.hid (HC.out.away ha); clear hh ha)
          dsimp only
          refine hK.out _ _ (by first | exact HC.out.cell | exact HC.out.drew.cell) (fun hHeld => ?_)
          clear hK K
          (try simp only [List.getElem_toArray, List.getElem_cons_zero, List.getElem_cons_succ, Act.put, List.setIfInBounds_toArray, List.set_cons_zero, List.set_cons_succ])
          refine wpAnyH_done (by kernel_rfl) ?_ _
          have hc6 := HC.out.cell
          go_wp2_with (first
            | (go_at_call 12; refine (num5_any _ _).mono ?_; rintro e wn ⟨rfl, rfl⟩)
            | (go_at_call 13; refine (diskCreate_any HD.out s0 0 EC.out).mono ?_; clear EC; rintro e w7 ⟨S7, rfl, hh, ha⟩; replace HD := Lib.hid hh; replace HC := Lib.hid (HC.out.away ha); have hc7 := HC.out.cell; clear hh ha)
            | (go_at_call 20; refine (diskSize_any HD.out s0 0 0 ES.out).mono ?_; clear ES; rintro e w8 ⟨S8, rfl, hh, ha⟩; replace HD := Lib.hid hh; clear hh ha)
            | (go_at_call 13; refine (diskCreate_any HD.out _ 1 EN.out).mono ?_; clear EN; rintro e w9 ⟨S9, rfl, hh, ha⟩; replace HD := Lib.hid hh; clear hh ha)
            | (go_at_call 13; refine (diskCreate_any HD.out _ 1 EB.out).mono ?_; clear EB; rintro e w10 ⟨S10, rfl, hh, ha⟩; replace HD := Lib.hid hh; clear hh ha)
            | (go_at_call 10; refine (awake5_any _).mono ?_; rintro e w13 ⟨rfl, hb⟩; have HZ := Lib.hid (HD.out.below.trans (hb.mono HD.out.below.size)); clear hb))
          go_ret
          exact ⟨rfl, HZ.out⟩

set_option maxRecDepth 100000 in
theorem lifted (os : Os) (started : os.Started) (H : Type) (enc : TypeId × Value → H) :
    ReturnsInHanded {} Try.checked os 9 .any (Rows.diskFilesSpec.pre6 enc Try.prog Try.f9 Rows.diskFilesRow.domain false) (Rows.diskFilesSpec.post enc Try.prog Try.f9 false true false false) := by
  refine returnsInHanded_of_change (C := Try.checked) own started (by kernel_rfl) Try.func9
    (ChangeSpec.witness6 (enc := enc) (C := Try.checked) false ⟨#[], #[.int .u8 0, .bool false], []⟩ 8 (by kernel_rfl) (by kernel_rfl) (by kernel_rfl) (by kernel_rfl)) ?_
  intro W base args ds gs before hval0 hW hcnd _
  have hval : ∀ (j : Nat) t v, Try.f9.params[j]? = some t → args[j]? = some v → Value.okWide Try.prog W .any base t v := hval0
  have hW' := hW
  obtain ⟨p, q, hA0, hV, rfl, hfz, hnd⟩ := hW
  have hA : DataW.TrodAll enc Try.prog W 0 (fun _ => true) true Try.f9.params.toList args.toList ds p := hA0
  rw [Try.params9] at hA hval
  obtain ⟨v0, vs0, d0, ds0, p0, q0, hargs, rfl, rfl, h0, r0⟩ := trodAll_cons hA
  obtain ⟨v1, vs1, d1, ds1, p1, q1, rfl, rfl, rfl, h1, r1⟩ := trodAll_cons r0
  obtain ⟨rfl, rfl, rfl⟩ := trodAll_nil r1
  obtain rfl : args = #[v0, v1] := by cases args; simp_all
  obtain ⟨rfl, rfl⟩ := trodVars_none hV
  have k0 := h0
  have lt0 : ∀ x ∈ p0, x.block < W.heap.size := by obtain ⟨m, hm⟩ := k0; exact DataW.trod_lt m _ _ _ hm
  obtain ⟨a0, rfl, _, _, w0⟩ := open_int Try.underlying5 (hval 0 5 v0 rfl rfl) h0
  have k1 := h1
  have lt1 : ∀ x ∈ p1, x.block < W.heap.size := by obtain ⟨m, hm⟩ := k1; exact DataW.trod_lt m _ _ _ hm
  obtain ⟨a1, rfl, _, _⟩ := open_bool Try.underlying4 (hval 1 4 v1 rfl rfl) h1
  clear hA0 hval0
  refine (walk a0 a1 W w0).mono fun e W' ⟨he, bel⟩ => ?_
  subst he
  exact ⟨_, rfl, _, _, _, [], _, [], hW', trodAll_mk1 (shut_bool Try.underlying4 _), (trodAll_cons_mk (Below.trod laidOut (by kernel_rfl) (of_decide_eq_true (by kernel_rfl)) k0 bel lt0) (trodAll_cons_mk (Below.trod laidOut (by kernel_rfl) (of_decide_eq_true (by kernel_rfl)) k1 bel lt1) trodAll_mk0)), rfl, bel.frame _, fun h => by cases h⟩

theorem over : Rows.diskFilesRow.holds Try.pinned (OpenSpec.ofChange Rows.diskFilesSpec) :=
  OpenClaim.holds_of_wide 9 Try.f9 rfl rfl rfl rfl rfl rfl rfl ⟨rfl, rfl, rfl, rfl, rfl⟩ rfl rfl rfl rfl rfl (by kernel_rfl) Try.func9 (by kernel_rfl)
    (of_decide_eq_true (by kernel_rfl)) (by unfold Func.isWrapper; first | (rw [if_pos (by decide +kernel)]; kernel_rfl) | (rw [if_neg (by decide +kernel)]; exact ⟨rfl, rfl⟩))
    (fun os started H enc _ => lifted os started H enc)

/-- The statement. -/
theorem proved : Rows.DiskFilesSaid := over
#print axioms proved
end Go.Proofs.Ytnhaidofblfopaa.diskFiles
