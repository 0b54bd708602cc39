/-
  The writes that are not kept, of all files, by their numbers (package disk). Conditions: the disk in memory, no more than 3000000 writes.
-/
import Derived.Test.YtnhaidofblfopaaO5
import Derived.Test.YtnhaidofblfopaaM5
import Derived.Test.YtnhaidofblfopaaJ5
import Derived.Test.YtnhaidofblfopaaE5
import Derived.Shelf.SlSortCmp.NoneTotal
namespace Go.Proofs.Ytnhaidofblfopaa
open Go.RowKit

/-- The writes of the files, file by file. -/
def pends (L : List FR) : List PW := L.flatMap fun f => f.wr.map fun r => (f.G, r)
theorem foldA (G : Nat) (CS : Array Value) (h : CS.size = 18) : Array.foldl (fun (cs : Array Value) (x : Value × Nat) => cs.setIfInBounds (1 + x.snd) x.fst) #[.pointer (some ⟨G, 0, none⟩), .int .u64 0, .int .i64 0, .int .u8 0, .int .u8 0, .int .u8 0, .int .u8 0, .int .u8 0, .int .u8 0, .int .u8 0, .int .u8 0, .int .u8 0, .int .u8 0, .int .u8 0, .int .u8 0, .int .u8 0, .int .u8 0, .int .u8 0, .int .u8 0] CS.zipIdx 0 18 = (.pointer (some ⟨G, 0, none⟩) :: CS.toList).toArray := by
  obtain ⟨a, b, c, d, e, f, g, h, i, j, k, l, m, n, o, p, q, r, rfl⟩ := list18 CS h
  kernel_rfl
theorem foldB (G : Nat) (CS : Array Value) (h : CS.size = 18) : Array.foldl (fun (cs : Array Value) (x : Value × Nat) => cs.setIfInBounds x.snd x.fst) #[.pointer none, .int .u64 0, .int .i64 0, .int .u8 0, .int .u8 0, .int .u8 0, .int .u8 0, .int .u8 0, .int .u8 0, .int .u8 0, .int .u8 0, .int .u8 0, .int .u8 0, .int .u8 0, .int .u8 0, .int .u8 0, .int .u8 0, .int .u8 0, .int .u8 0] (.pointer (some ⟨G, 0, none⟩) :: CS.toList).toArray.zipIdx 0 19 = (.pointer (some ⟨G, 0, none⟩) :: CS.toList).toArray := by
  obtain ⟨a, b, c, d, e, f, g, h, i, j, k, l, m, n, o, p, q, r, rfl⟩ := list18 CS h
  kernel_rfl
set_option maxHeartbeats 400000 in
set_option maxRecDepth 100000 in
theorem pending_any {w : World} {B room cnt fails : Nat} {vF : Value} {L : List FR} {dead : Bool} (h : DiskIn w B room vF L cnt fails dead) (hm : L.length ≤ 32) (ht : (pends L).length ≤ 3000000) :
    Calls Try.prog 35 #[.pointer (some ⟨B, 0, none⟩)] w fun e w' => ∃ a c l', e = .returned (.slice a l'.length c) ∧ l'.Perm (pends L) ∧ l'.Pairwise (fun x y => x.2.1 ≤ y.2.1) ∧ OwnG pV 79 19 w' w.heap.size (.slice a l'.length c) l'.length l' ∧ Below w.heap.size w w' := by
  have c1 := h.c1
  obtain ⟨aF, cF, rfl, _, hnil, hcap⟩ := h.row.shape ptr_rowed
  have H := Lib.hid h
  have HT := Lib.hid ht
  obtain ⟨n, hn⟩ := named L.length
  rw [hn.out] at c1 hm hcap
  clear h ht
  go_enter Try.func35, Try.ntmps35
  go_wp2_with fail
  go_loopw [3, 13] (fun v i wr => ∃ (j : Nat) (a : Option Addr) (c : Nat), j ≤ n ∧ i = .int .i64 j ∧ v = .slice a (pends (L.take j)).length c ∧ Hid (OwnG pV 79 19 wr w.heap.size (.slice a (pends (L.take j)).length c) (pends (L.take j)).length (pends (L.take j)) ∧ Below w.heap.size w wr)) (fun _ i _ => n - (intOf i).toNat)
  case atStart => exact ⟨0, none, 0, by omega, rfl, rfl, OwnG.none _ _ _ _ _, Below.refl _ _⟩
  case round =>
    obtain ⟨j, a, c, hj, rfl, rfl, HI⟩ := hrel
    by_cases hlt : j < n
    · obtain ⟨b, rfl⟩ : ∃ b, aF = some ⟨b, 0, none⟩ := by
        rcases H.out.row.1.2 with ⟨e, e'⟩ | ⟨g, cap, cur, e, _⟩
        · have := hn.out
          omega
        · cases e
          exact ⟨_, rfl⟩
      obtain ⟨f, hf⟩ : ∃ f, L[j]? = some f := ⟨_, List.getElem?_eq_getElem (by have := hn.out; omega)⟩
      have hc0 := (HI.out.2.cell (p := ⟨b, j, none⟩) (H.out.row.1.lt b rfl).2).trans (ptr_cell H.out.row j f hf)
      obtain ⟨vn, vd, vw, hF⟩ := H.out.file f (List.mem_of_getElem? hf)
      obtain ⟨aw, cw, rfl, _, hnw, _⟩ := hF.wr.shape rec_rowed
      have hc3 : wr.cell? ⟨f.G, 3, none⟩ = some (.slice aw f.wr.length cw) := by rw [(hF.blk.later HI.out.2).cell]; rfl
      have HF := Lib.hid hF
      have HJ := Lib.hid hf
      have hml : f.wr.length ≤ 2000000 := hF.ok.wrs
      have hpj : pends (L.take (j + 1)) = pends (L.take j) ++ f.wr.map fun r => (f.G, r) := by
        rw [List.take_add_one, hf]
        simp [pends]
      have hlen : (pends (L.take j)).length + f.wr.length ≤ 3000000 := by
        have h1 : (pends (L.take (j + 1))).length ≤ (pends L).length := by
          have h2 : pends L = pends (L.take (j + 1)) ++ pends (L.drop (j + 1)) := by
            rw [pends, pends, pends, ← List.flatMap_append, List.take_append_drop]
          rw [h2, List.length_append]
          omega
        rw [hpj, List.length_append, List.length_map] at h1
        have := HT.out
        omega
      obtain ⟨P, hP⟩ := named (pends (L.take j))
      have HPJ := Lib.hid hpj
      clear hF hf hpj
      rw [hP.out] at HI hlen ⊢
      obtain ⟨m, hmm⟩ := named f.wr.length
      rw [hmm.out] at hc3 hml hlen
      go_wp2_with fail
      go_loopw [3, 22] (fun v i wr => ∃ (k : Nat) (a : Option Addr) (c : Nat), k ≤ m ∧ i = .int .i64 k ∧ v = .slice a (P.length + k) c ∧ Hid (OwnG pV 79 19 wr w.heap.size (.slice a (P.length + k) c) (P.length + k) (P ++ (f.wr.take k).map fun r => (f.G, r)) ∧ Below w.heap.size w wr)) (fun _ i _ => m - (intOf i).toNat)
      case atStart => exact ⟨0, a, c, by omega, rfl, rfl, by show _ ∧ _; simpa using HI.out⟩
      case round =>
        obtain ⟨k, a, c, hk, rfl, rfl, HK⟩ := hrel
        by_cases hlt2 : k < m
        · obtain ⟨bw, rfl⟩ : ∃ b, aw = some ⟨b, 0, none⟩ := by
            rcases HF.out.wr.1.2 with ⟨e, e'⟩ | ⟨g, cap, cur, e, _⟩
            · have : f.wr.length = 0 := e'
              have := hmm.out
              omega
            · cases e
              exact ⟨_, rfl⟩
          obtain ⟨r, hr⟩ : ∃ r, f.wr[k]? = some r := ⟨_, List.getElem?_eq_getElem (by have := hmm.out; omega)⟩
          obtain ⟨CS, hCS⟩ := named (recV r).toArray
          have hCSL : CS.size = 18 := by rw [← hCS.out]; simp [recV_len]
          have hE : CS.toList = recV r := by rw [← hCS.out]
          have HR1 : Hid (wr.rangeAt bw (k * 18) CS.toList) := Lib.hid fun i v hv => (HK.out.2.cell (p := ⟨bw, k * 18 + i, none⟩) (HF.out.wr.1.lt bw rfl).2).trans (ownG_range HF.out.wr k r hr i v (hE ▸ hv))
          have HNW : Hid ((wr.alloc (.cells CS 77)).rangeAt wr.heap.size 0 CS.toList) := fun i v hv => by
            rw [Nat.zero_add, (Blk.new wr _ _).cell]
            simpa using hv
          have HSZ : Hid ((Try.prog.info? 77).map (·.size) = some CS.toList.length) := by rw [Hid, Array.length_toList, hCSL]; exact rec_size
          have HSZ2 : Hid ((Try.prog.info? 77).map (·.size) = some CS.size) := by rw [Hid, hCSL]; exact rec_size
          have HAL : Hid (CS.all (·.oneCell') = true) := by rw [Hid, ← hCS.out]; exact recV_all r
          have hz18 : ∀ (c : Array Value), c.size = 18 → c.size = CS.size := fun c h => h.trans hCSL.symm
          have HZ := Lib.hid hz18
          have HE := Lib.hid hE
          have hfA := foldA f.G CS hCSL
          have hfB := foldB f.G CS hCSL
          obtain ⟨PX, hPX⟩ := named ((.pointer (some ⟨f.G, 0, none⟩) :: CS.toList).toArray : Array Value)
          rw [hPX.out] at hfA hfB
          have hPXL : PX.size = 19 := by rw [← hPX.out]; simp [hCSL]
          have hPXE : PX.toList = pV (f.G, r) := by rw [← hPX.out, pV, ← hE]
          have HPXE := Lib.hid hPXE
          obtain ⟨W2, hW2⟩ := named ((wr.alloc (.cells CS 77)).alloc (.cells PX 79))
          have HO2 : Hid (OwnG pV 79 19 ((wr.alloc (.cells CS 77)).alloc (.cells PX 79)) w.heap.size (.slice a (P.length + k) c) (P.length + k) (P ++ (f.wr.take k).map fun r => (f.G, r))) := Lib.hid ((HK.out.1.alloc _).alloc _)
          have HL2 : Hid (Reads pV ((wr.alloc (.cells CS 77)).alloc (.cells PX 79)) (some ⟨wr.heap.size + 1, 0, none⟩) 1 [(f.G, r)]) := Lib.hid (one_reads2 wr _ (f.G, r) PX 79 hPXE)
          have HB2 : Hid (Below w.heap.size w ((wr.alloc (.cells CS 77)).alloc (.cells PX 79))) := Lib.hid ((HK.out.2.alloc HK.out.2.size _).alloc (by rw [World.size_alloc]; have := HK.out.2.size; omega) _)
          have hnn : P.length + k + 1 ≤ 10000000 := by omega
          clear hz18 hE hPXE
          go_wp2_with (first
            | (refine wpList_load_mid rfl 77 (.tmp 24) rfl bw (k * 18) (by rfl) CS.toList _ HR1.out Try.underlying77 rfl HSZ.out ?_)
            | (refine wpList_store_new rfl (.tmp 7) (.tmp 25) rfl CS (by rfl) (by rfl) HSZ2.out (HZ.out _ (by rfl)) HAL.out ?_)
            | (refine wpList_load_mid rfl 77 (.tmp 7) rfl wr.heap.size 0 (by rfl) CS.toList _ HNW.out Try.underlying77 rfl HSZ.out ?_)
            | (at_builtin; refine append_gg pend_rowed rfl (.tmp 26) (.tmp 30) rfl w.heap.size (.slice a (P.length + k) c) (P.length + k) _ rfl HO2.out (some ⟨wr.heap.size + 1, 0, none⟩) 1 1 [(f.G, r)] rfl (fun e => by cases e) HL2.out hnn HB2.out.size ?_; intro a4 c4 w4 g1 g2 _; have G1 := Lib.hid g1; have G2 := Lib.hid g2; clear g1 g2))
          go_roundw
          case rel =>
            refine ⟨k + 1, a4, c4, by omega, by go_num, rfl, ?_, HB2.out.trans G2.out⟩
            have e : (f.wr.take (k + 1)).map (fun r => (f.G, r)) = (f.wr.take k).map (fun r => (f.G, r)) ++ [(f.G, r)] := by
              rw [List.take_add_one, hr]
              simp
            rw [e, ← List.append_assoc]
            exact G1.out
          case measure => simp [intOf]; omega
        · obtain rfl : k = m := by omega
          have e : f.wr.take k = f.wr := List.take_of_length_le (by have := hmm.out; omega)
          rw [e, ← hP.out, ← HPJ.out] at HK
          have e2 : (pends (L.take j)).length + k = (pends (L.take (j + 1))).length := by
            rw [HPJ.out, List.length_append, List.length_map]
            have := hmm.out
            omega
          rw [e2] at HK
          rw [← hP.out, e2]
          go_wp2_with fail
          go_roundw
          case rel => exact ⟨j + 1, a, c, by omega, by go_num, rfl, HK.out⟩
          case measure => simp [intOf]; omega
    · obtain rfl : j = n := by omega
      have e : L.take j = L := List.take_of_length_le (by have := hn.out; omega)
      rw [e] at HI ⊢
      cases a with
      | none =>
        have h0 : (pends L).length = 0 := by
          rcases HI.out.1.1.2 with ⟨e, e'⟩ | ⟨g, cap, cur, e, _⟩
          · exact e'
          · cases e
        have hp : pends L = [] := List.eq_nil_of_length_eq_zero h0
        have hcon := fun W => AnyF.slices_SortFunc_none sortPend none c (.func (.func 55) #[] #[]) W
        change ∀ W, Calls Try.prog 54 _ _ _ at hcon
        have HCN := Lib.hid hcon
        rw [hp] at HI ⊢
        clear hcon h0
        go_wp2_with (go_at_call 54; refine (HCN.out _).mono ?_; rintro e w5 ⟨rfl, rfl⟩)
        go_ret
        exact ⟨none, c, [], rfl, by rw [hp], List.Pairwise.nil, HI.out.1, HI.out.2⟩
      | some x =>
        obtain ⟨bs, rfl⟩ : ∃ b, x = ⟨b, 0, none⟩ := by
          rcases HI.out.1.1.2 with ⟨e, e'⟩ | ⟨g, cap, cur, e, _⟩
          · cases e
          · cases e
            exact ⟨_, rfl⟩
        obtain ⟨N, hN⟩ := named (pends L).length
        rw [hN.out] at HI ⊢
        go_wp2_with (go_at_call 54; refine (sort_any _ w.heap.size bs N c (pends L) HI.out.1).mono ?_; rintro e w5 ⟨rfl, l', p1, p2, p3, p4⟩)
        go_ret
        have hl : l'.length = N := p3.2.1
        refine ⟨some ⟨bs, 0, none⟩, c, l', by rw [hl]; rfl, p1, p2, by rw [hl]; exact p3, HI.out.2.grown p4 HI.out.2.size fun k e => ?_⟩
        cases e
        exact (HI.out.1.1.lt bs rfl).1
end Go.Proofs.Ytnhaidofblfopaa
