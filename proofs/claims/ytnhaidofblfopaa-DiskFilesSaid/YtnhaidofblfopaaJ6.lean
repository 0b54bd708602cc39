/-
  What the project's own disk answers, call by call (package disk): List. Conditions: the disk as it lies.
-/
import Derived.Test.YtnhaidofblfopaaW5
import Derived.Test.YtnhaidofblfopaaR5
namespace Go.Proofs.Ytnhaidofblfopaa
open Go.RowKit
set_option linter.unusedVariables false

def strV (s : Nm) : List Value := [.string s]
theorem str_rowed : Rowed Try.prog 42 9 1 16 strV where
  under := Try.underlying42
  info := by
    have h : (Try.prog.info? 9).map (fun i => (i.zero.map (fun z => z.cells.size), i.size, i.bytes)) = some (some 1, 1, 16) := by kernel_rfl
    obtain ⟨i, hi, he⟩ := Option.map_eq_some_iff.1 h
    simp only [Prod.mk.injEq] at he
    obtain ⟨z, hz, hzs⟩ := Option.map_eq_some_iff.1 he.1
    exact ⟨i, z, hi, hz, he.2.1, he.2.2, hzs⟩
  pos := by decide
  small := by decide
  len := fun _ => rfl
  one := fun x u hu => by
    simp [strV] at hu
    subst hu
    rfl
/-- Strings in memory. -/
def Strs (w : World) (a : Option Addr) (len : Nat) (l : List Nm) : Prop := Reads (fun s => [Value.string s]) w a len l
/-- Strings that rise. -/
def rising (L : List Nm) : Prop := ∀ i, i + 1 < L.length → (L.getD i ⟨#[]⟩).data.toList < (L.getD (i + 1) ⟨#[]⟩).data.toList
def namesOf (L : List FR) : List Nm := L.map (·.name)
theorem names_rise {L : List FR} (h : L.Pairwise fun f g => nmLt f.name g.name) : rising (namesOf L) := fun i hi => by
  unfold namesOf at hi ⊢
  rw [List.length_map] at hi
  rw [List.getD_eq_getElem?_getD, List.getD_eq_getElem?_getD, List.getElem?_map, List.getElem?_map, List.getElem?_eq_getElem hi, List.getElem?_eq_getElem (by omega)]
  exact List.pairwise_iff_getElem.1 h i (i + 1) (by omega) hi (by omega)
set_option maxHeartbeats 400000 in
theorem list_any {w : World} {B room cnt fails : Nat} {vF : Value} {L : List FR} {dead : Bool} (h : DiskIn w B room vF L cnt fails dead) (hm : L.length ≤ 32) :
    Calls Try.prog 23 #[.pointer (some ⟨B, 0, none⟩)] w fun e w' => ∃ a c, e = .returned (.slice a (namesOf L).length c) ∧ OwnG strV 9 1 w' w.heap.size (.slice a (namesOf L).length c) (namesOf L).length (namesOf L) ∧ Below w.heap.size w w' := by
  have c1 := h.c1
  obtain ⟨aF, cF, rfl, _, hnil, hcap⟩ := h.row.shape ptr_rowed
  have H := Lib.hid h
  obtain ⟨n, hn⟩ := named L.length
  rw [hn.out] at c1 hm hcap
  clear h
  go_enter Try.func23, Try.ntmps23
  go_wp2_with fail
  go_loopw [3, 13] (fun v i wr => ∃ (j : Nat) (a : Option Addr) (c : Nat), j ≤ n ∧ i = .int .i64 j ∧ v = .slice a j c ∧ Hid (OwnG strV 9 1 wr w.heap.size (.slice a j c) j (namesOf (L.take j)) ∧ Below w.heap.size w wr)) (fun _ i _ => n - (intOf i).toNat)
  case atStart => exact ⟨0, none, 0, by omega, rfl, rfl, OwnG.none _ _ _ _ _, Below.refl _ _⟩
  case round =>
    obtain ⟨j, a, c, hj, rfl, rfl, HI⟩ := hrel
    by_cases hlt : j < n
    · obtain ⟨b, rfl⟩ : ∃ b, aF = some ⟨b, 0, none⟩ := by
        rcases H.out.row.1.2 with ⟨e, e'⟩ | ⟨g, cap, cur, e, _⟩
        · have := hn.out
          omega
        · cases e
          exact ⟨_, rfl⟩
      obtain ⟨f, hf⟩ : ∃ f, L[j]? = some f := ⟨_, List.getElem?_eq_getElem (by have := hn.out; omega)⟩
      have hc0 := (HI.out.2.cell (p := ⟨b, j, none⟩) (H.out.row.1.lt b rfl).2).trans (ptr_cell H.out.row j f hf)
      have hcn : wr.cell? ⟨f.G, 0, none⟩ = some (.string f.name) := (HI.out.2.cell (p := ⟨f.G, 0, none⟩) (block_lt_of_cell (H.out.file f (List.mem_of_getElem? hf)).name)).trans (H.out.file f (List.mem_of_getElem? hf)).name
      obtain ⟨s, hsn⟩ := named f.name
      rw [hsn.out] at hcn
      have HJ := Lib.hid hf
      have HO2 : Hid (OwnG strV 9 1 (wr.alloc (.cells #[.string s] 9)) w.heap.size (.slice a j c) j (namesOf (L.take j))) := Lib.hid (HI.out.1.alloc _)
      have HL2 : Hid (Reads strV (wr.alloc (.cells #[.string s] 9)) (some ⟨wr.heap.size, 0, none⟩) 1 [s]) := Lib.hid ⟨rfl, by omega, Or.inr ⟨wr.heap.size, 0, rfl, (Blk.new wr _ _).lt, fun i u hu => by
        rw [Nat.zero_add, (Blk.new wr _ _).cell]
        simpa [strV] using hu⟩⟩
      have HB2 : Hid (Below w.heap.size w (wr.alloc (.cells #[.string s] 9))) := Lib.hid (HI.out.2.alloc HI.out.2.size _)
      have hnn : j + 1 ≤ 10000000 := by omega
      clear hf
      go_wp2_with (at_builtin; refine append_gg str_rowed rfl (.tmp 17) (.tmp 22) rfl w.heap.size (.slice a j c) j _ rfl HO2.out (some ⟨wr.heap.size, 0, none⟩) 1 1 [s] rfl (fun e => by cases e) HL2.out hnn HB2.out.size ?_; intro a4 c4 w4 g1 g2 _; have G1 := Lib.hid g1; have G2 := Lib.hid g2; clear g1 g2)
      go_roundw
      case rel =>
        refine ⟨j + 1, a4, c4, by omega, by go_num, rfl, ?_, HB2.out.trans G2.out⟩
        have e : namesOf (L.take (j + 1)) = namesOf (L.take j) ++ [s] := by
          rw [List.take_add_one, HJ.out]
          simp [namesOf, hsn.out]
        rw [e]
        exact G1.out
      case measure => simp [intOf]; omega
    · obtain rfl : j = n := by omega
      have e : L.take j = L := List.take_of_length_le (by have := hn.out; omega)
      have e2 : (namesOf L).length = j := by rw [namesOf, List.length_map]; exact hn.out
      rw [e] at HI
      go_wp2_with fail
      go_ret
      rw [e2]
      exact ⟨a, c, rfl, HI.out.1, HI.out.2⟩
theorem diskList_any {w0 w : World} {p : Addr} {D : Dsk} {S : Nat → Prop} (h : Has w0 p D w S) :
    Calls Try.prog 23 #[.pointer (some p)] w fun e w' => ∃ a c L S', e = .returned (.slice a L.length c) ∧ Strs w' a L.length L ∧ L.Perm (D.files.map (·.1)) ∧ rising L ∧ (0 < L.length → ∀ x, a = some x → x.block < w'.heap.size ∧ ¬ S' x.block) ∧ Has w0 p D w' S' ∧ Away S w S' w' := by
  obtain ⟨B, room, vF, L, cnt, fails, dead, rfl, rfl, hd, hr⟩ := h.open'
  refine (list_any hd hr.many).mono ?_
  rintro e w' ⟨a, c, rfl, hO, hB⟩
  have hlt : ∀ k, ownS B vF L k → k < w.heap.size := fun k hk => hd.ltS hk
  refine ⟨a, c, namesOf L, ownS B vF L, rfl, (hO.reads str_rowed).1, ?_, names_rise hr.rise, fun h0 x e => ?_, h.later hB, Away.of_below _ hB⟩
  · have := hr.perm.map (·.1)
    rw [List.map_map] at this
    exact this.symm
  · subst e
    obtain ⟨h1, h2⟩ := hO.1.lt x.block rfl
    exact ⟨h2, fun hk => by have := hlt _ hk; omega⟩
end Go.Proofs.Ytnhaidofblfopaa
