/-
  What a cache's own calls answer, second part (package lru): Get, After. Conditions: the cache as it lies, fewer than a million uses.
-/
import Derived.Test.YthmkmhfoicfapaaLo
namespace Go.Proofs.Ythmkmhfoicfapaa
open Go.RowKit Go.Maps
set_option linter.unusedVariables false

theorem own_cell {w : World} {G i n base : Nat} {v u : Value} {l : List Int} {cs : Array Value} (h : Own w base v n l) (hB : Blk w G 76 cs) : Own (w.setCell ⟨G, i, none⟩ u) base v n l := h.frame fun k hk => Below.heap_setCell w ⟨G, i, none⟩ u k (h.not_item hB k hk)
theorem owni_cell {w : World} {G i n base : Nat} {v u : Value} {l : List Int} {cs : Array Value} (h : OwnG ivV 3 1 w base v n l) (hB : Blk w G 76 cs) : OwnG ivV 3 1 (w.setCell ⟨G, i, none⟩ u) base v n l := h.frame fun k hk => Below.heap_setCell w ⟨G, i, none⟩ u k (OwnG.not_item h hB k hk)
def GetQ (w0 : World) (p : Addr) (C : Lru) (k : Int) (S : Nat → Prop) (w : World) (e : Ending) (w' : World) : Prop :=
  ∃ (a : Option Addr) (n c : Nat) (S' : Nat → Prop), e = .returned (.tuple #[.slice a n c, .bool (C.get k).2.1]) ∧ Own w' w.heap.size (.slice a n c) n (C.get k).1 ∧ Has w0 p (C.get k).2.2 w' S' ∧ Away S w S' w' ∧ ∀ j, (Value.slice a n c).ownBlock = some j → ¬ S' j
theorem find_it {its : List It} (hr : its.Pairwise fun a b => a.key < b.key) {it : It} (hm : it ∈ its) : its.find? (fun x => decide (x.key = it.key)) = some it := find_mem hr hm
theorem get_nil (w : World) (k : Int) : Calls Try.prog 20 #[.pointer none, .int .i64 k] w fun e w' => e = .returned (.tuple #[.slice none 0 0, .bool false]) ∧ w' = w := by
  go_enter Try.func20, Try.ntmps20
  go_wp2_with (go_at_call 41; refine (find_nil _ _).mono ?_; rintro e w' ⟨rfl, rfl⟩)
  go_ret2
  exact ⟨rfl, rfl⟩
set_option maxRecDepth 100000 in
set_option maxHeartbeats 1000000 in
theorem lruGet_any {w0 w : World} {p : Addr} {C : Lru} {S : Nat → Prop} (h : Has w0 p C w S) (k : Int) (hu : C.uses + 1 ≤ 1000000) : Calls Try.prog 20 #[.pointer (some p), .int .i64 k] w (GetQ w0 p C k S w) := by
  obtain ⟨B, vI, L, rfl, hc, hi, ho, rfl⟩ := h.open'
  have hb := base_of hc hi ho
  by_cases hk : ∃ f ∈ L, f.key = k
  · obtain ⟨f, hf, rfl⟩ := hk
    have HF := Lib.hid (find_some hc hb.rise hb.many hf)
    have hrise := hb.rise
    have hbsl := ho.its.bsl f.it (by rw [← hi]; exact List.mem_map.2 ⟨f, hf, rfl⟩)
    have HOK := Lib.hid (Lru.get_ok ho f.key hu)
    have hget : C.get f.key = (f.it.bs, true, ⟨C.room, C.uses + 1, setIt C.items f.key fun x => { x with used := C.uses + 1 }⟩) := by
      unfold Lru.get
      rw [← hi, show f.key = f.it.key from rfl, find_it (rises_map hrise) (List.mem_map.2 ⟨f, hf, rfl⟩)]
    unfold GetQ
    rw [hget] at HOK ⊢
    obtain ⟨L1, L2, rfl⟩ := mid_of hf
    obtain ⟨vb, vf, hfi⟩ := hc.item f (by simp)
    have hc1 := hc.blk_set 2 (.int .u64 ((C.uses + 1 : Nat) : Int)) (C.uses + 1) rfl
    have hGB : f.G ≠ B := fun e => (hc.out f (by simp)).1 (e ▸ hfi.sG)
    have hoth : ∀ j, f.S j → j ≠ B := fun j hj e => (hc.out f (by simp)).1 (e ▸ hj)
    have hfi1 : ItemIn (w.setCell ⟨B, 2, none⟩ (.int .u64 ((C.uses + 1 : Nat) : Int))) f vb vf := hfi.frame fun j hj => Below.heap_setCell w ⟨B, 2, none⟩ _ j (hoth j hj)
    obtain ⟨S', q1, q2⟩ := item_set hc1 hfi1 (World.grownBy.refl _ none) (fun k e => by cases e) 2 (.int .u64 ((C.uses + 1 : Nat) : Int)) { f.it with used := C.uses + 1 } rfl hfi1.bs hfi1.fs (fun k hk => Or.inl (hfi1.sB hk)) (fun k hk => Or.inl (hfi1.sF hk))
    have hbs2 := own_cell (i := 2) (u := .int .u64 ((C.uses + 1 : Nat) : Int)) hfi1.bs hfi1.blk
    have c1v : World.cell? ((w.setCell ⟨B, 2, none⟩ (.int .u64 ((C.uses + 1 : Nat) : Int))).setCell ⟨f.G, 2, none⟩ (.int .u64 ((C.uses + 1 : Nat) : Int))) ⟨f.G, 1, none⟩ = some vb := ((hfi1.blk.set 2 _).cell 1).trans rfl
    have c2 := hc.c2
    have f2 := hc.blk.free 2
    have fG2 := hfi1.blk.free 2
    have cG2 : World.cell? (w.setCell ⟨B, 2, none⟩ (.int .u64 ((C.uses + 1 : Nat) : Int))) ⟨f.G, 2, none⟩ = some (.int .u64 f.it.used) := (hfi1.blk.cell 2).trans rfl
    obtain ⟨ab, cb, rfl, hBy, hnb⟩ := hbs2.shape
    have hset : (L1 ++ ⟨{ f.it with used := C.uses + 1 }, f.G, S'⟩ :: L2).map IR.it = setIt C.items f.key fun x => { x with used := C.uses + 1 } := by
      rw [← hi, List.map_append, List.map_append, List.map_cons, List.map_cons]
      have hr := rises_map hrise
      rw [List.map_append, List.map_cons] at hr
      exact (setIt_mid hr (fun x => { x with used := C.uses + 1 })).symm
    have hAB : Away (ownS B vI (L1 ++ f :: L2)) w (ownS B vI (L1 ++ f :: L2)) (w.setCell ⟨B, 2, none⟩ (.int .u64 ((C.uses + 1 : Nat) : Int))) := (Away.refl _ w).set (ownS_B _ _ _) 2 _
    have hu2 : C.uses < 1000000000 := by omega
    have HADD := Lib.hid (add_any w B C.uses hu2 c2 f2)
    have HH := Lib.hid h
    have HQ1 := Lib.hid q1
    have HQ2 := Lib.hid (hAB.trans q2)
    have HBY := Lib.hid hBy
    have HSET := Lib.hid hset
    obtain ⟨nb, hnb'⟩ := named f.it.bs.length
    rw [hnb'.out] at hbsl HBY c1v
    obtain ⟨K, hK⟩ := named f.key
    rw [hK.out] at HF HOK HSET ⊢
    have hs : (World.setCell (World.setCell w ⟨B, 2, none⟩ (.int .u64 ((C.uses + 1 : Nat) : Int))) ⟨f.G, 2, none⟩ (.int .u64 ((C.uses + 1 : Nat) : Int))).heap.size = w.heap.size := by rw [World.size_setCell, World.size_setCell]
    have HSZ := Lib.hid hs
    obtain ⟨U, hU⟩ := named ((C.uses + 1 : Nat) : Int)
    rw [hU.out] at HADD HQ1 HQ2 HBY c1v fG2 cG2 HSZ
    dsimp only
    clear hs h hc hi ho hb hf hfi hc1 hfi1 hbs2 hset hAB q1 q2 hBy hget hoth hrise
    go_enter Try.func20, Try.ntmps20
    go_wp2_with (first
      | (go_at_call 41; refine HF.out.mono ?_; rintro e w' ⟨rfl, rfl⟩)
      | (go_at_call 36; refine HADD.out.mono ?_; rintro e w2 ⟨rfl, rfl⟩)
      | (go_at_call 35; refine (bclone_any _ ab nb cb f.it.bs HBY.out hnb (by omega)).mono ?_; rintro e w3 ⟨a', c', rfl, g1, g2⟩; have G1 := Lib.hid g1; have G2 := Lib.hid g2; clear g1 g2))
    go_ret2
    have hall := HQ2.out.trans (Away.of_below (S := ownS B vI (L1 ++ ⟨{ f.it with used := C.uses + 1 }, f.G, S'⟩ :: L2)) G2.out)
    refine ⟨a', nb, c', _, rfl, G1.out.rebase (by rw [HSZ.out]; exact Nat.le_refl _), HH.out.close (C' := ⟨C.room, C.uses + 1, _⟩) (HQ1.out.later G2.out) HSET.out HOK.out hall, hall, fun j hj hS => ?_⟩
    have h1 := (G1.out.1.lt j hj).1
    have h2 := HQ1.out.ltS hS
    omega
  · have hno : ∀ f ∈ L, f.key ≠ k := fun f hf e => hk ⟨f, hf, e⟩
    have HF := Lib.hid (find_none hc hb.rise hb.many k hno)
    have hget : C.get k = ([], false, C) := by
      unfold Lru.get
      have : C.items.find? (fun it => decide (it.key = k)) = none := List.find?_eq_none.2 fun y hy => by
        rw [← hi] at hy
        obtain ⟨f, hf, rfl⟩ := List.mem_map.1 hy
        have := hno f hf
        simpa using this
      rw [this]
    unfold GetQ
    rw [hget]
    have HH := Lib.hid h
    dsimp only
    clear h hc hi ho hb hno hk hget
    go_enter Try.func20, Try.ntmps20
    go_wp2_with (go_at_call 41; refine HF.out.mono ?_; rintro e w' ⟨rfl, rfl⟩)
    go_ret2
    exact ⟨none, 0, 0, _, rfl, ⟨⟨by simp, Or.inl ⟨rfl, rfl⟩⟩, by unfold Small; simp⟩, HH.out, Away.refl _ _, fun j hj => by cases hj⟩
end Go.Proofs.Ythmkmhfoicfapaa
