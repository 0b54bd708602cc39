/-
  An item's cell turned, an item removed, records ended, uses counted (package lru). Conditions: the keys rise.
-/
import Derived.Test.YthmkmhfoicfapaaLf
import Derived.Laws.LoneSync
namespace Go.Proofs.Ythmkmhfoicfapaa
open Go.RowKit
set_option linter.unusedVariables false

theorem run_load64 (w : World) (a : Addr) (x : Int) (hc : w.cell? a = some (.int .u64 x)) : (callFunc 66 #[.pointer (some a)]).run Try.prog w = .ok (.value (.int .u64 x)) w :=
  run_call_load Try.func66 (by kernel_rfl) (by kernel_rfl) (by kernel_rfl) .u64 (by kernel_rfl) hc
theorem run_add64 (w : World) (a : Addr) (x : Nat) (hx : x < 1000000000) (hc : w.cell? a = some (.int .u64 x)) (hz : w.frozen? a = false) : (callFunc 59 #[.pointer (some a), .int .u64 1]).run Try.prog w = .ok (.value (.int .u64 ((x + 1 : Nat) : Int))) (w.setCell a (.int .u64 ((x + 1 : Nat) : Int))) :=
  run_call_add Try.func59 (by kernel_rfl) (by kernel_rfl) (by kernel_rfl) .u64 (by kernel_rfl) hc hz (by
    have : IntKind.u64.wrap ((x : Int) + 1) = (x : Int) + 1 := by simp [IntKind.wrap, IntKind.bits, IntKind.signed]; omega
    simp [Op.intArith, this])
/-- Load. -/
theorem load_any (w : World) (B : Nat) (x : Int) (hc : w.cell? ⟨B, 2, none⟩ = some (.int .u64 x)) : Calls Try.prog 44 #[.pointer (some ⟨B, 2, none⟩)] w fun e w' => e = .returned (.int .u64 x) ∧ w' = w := by
  have hl := run_load64 w ⟨B, 2, none⟩ x hc
  go_enter Try.func44, Try.ntmps44
  go_wp2
  go_ret
  exact ⟨rfl, rfl⟩
/-- Add of one. -/
theorem add_any (w : World) (B x : Nat) (hx : x < 1000000000) (hc : w.cell? ⟨B, 2, none⟩ = some (.int .u64 x)) (hz : w.frozen? ⟨B, 2, none⟩ = false) :
    Calls Try.prog 36 #[.pointer (some ⟨B, 2, none⟩), .int .u64 1] w fun e w' => e = .returned (.int .u64 ((x + 1 : Nat) : Int)) ∧ w' = w.setCell ⟨B, 2, none⟩ (.int .u64 ((x + 1 : Nat) : Int)) := by
  have hl := run_add64 w ⟨B, 2, none⟩ x hx hc hz
  go_enter Try.func36, Try.ntmps36
  go_wp2
  go_ret
  exact ⟨rfl, rfl⟩
theorem Own.not_item {w : World} {base G n : Nat} {v : Value} {l : List Int} {cs : Array Value} (h : Own w base v n l) (hB : Blk w G 76 cs) : ∀ k, v.ownBlock = some k → k ≠ G := fun k hk e => by
  subst e
  exact Blk.not_own hB (by decide) h hk
theorem OwnG.not_item {w : World} {base G n : Nat} {v : Value} {l : List Int} {cs : Array Value} (h : OwnG ivV 3 1 w base v n l) (hB : Blk w G 76 cs) : ∀ k, v.ownBlock = some k → k ≠ G := fun k hk e => by
  subst e
  exact Blk.not_row hB (by decide) h hk.symm
/-- A cell of an item turned. -/
theorem item_set {w w' : World} {B room uses : Nat} {vI vb vf vb' vf' : Value} {L1 L2 : List IR} {f : IR} (h : CacheIn w B room vI (L1 ++ f :: L2) uses) (hi : ItemIn w f vb vf) {row : Option Nat} (hg : w.grownBy w' row) (hrow : ∀ k, row = some k → f.S k ∧ k ≠ f.G)
    (i : Nat) (v : Value) (it' : It) (hcells : (#[.int .i64 f.it.key, vb, .int .u64 f.it.used, .bool f.it.dirty, vf] : Array Value).setIfInBounds i v = #[.int .i64 it'.key, vb', .int .u64 it'.used, .bool it'.dirty, vf'])
    (hn : Own w' 0 vb' it'.bs.length it'.bs) (hw : OwnI w' vf' it'.firsts) (m1 : ∀ k, vb'.ownBlock = some k → f.S k ∨ w.heap.size ≤ k) (m3 : ∀ k, vf'.ownBlock = some k → f.S k ∨ w.heap.size ≤ k) :
    ∃ S', CacheIn (w'.setCell ⟨f.G, i, none⟩ v) B room vI (L1 ++ ⟨it', f.G, S'⟩ :: L2) uses ∧ Away (ownS B vI (L1 ++ f :: L2)) w (ownS B vI (L1 ++ ⟨it', f.G, S'⟩ :: L2)) (w'.setCell ⟨f.G, i, none⟩ v) := by
  have hB' : Blk w' f.G 76 #[.int .i64 f.it.key, vb, .int .u64 f.it.used, .bool f.it.dirty, vf] := hi.blk.kept hg (fun e => (hrow f.G e.symm).2 rfl)
  have hB2 := hB'.set i v
  rw [hcells] at hB2
  have hoth : ∀ k, k ≠ f.G → (w'.setCell ⟨f.G, i, none⟩ v).heap[k]? = w'.heap[k]? := fun k hk => Below.heap_setCell w' ⟨f.G, i, none⟩ v k hk
  have ha : Away f.S w f.S (w'.setCell ⟨f.G, i, none⟩ v) := ((Away.refl f.S w).grown hg fun k e => Or.inl (hrow k e).1).set hi.sG i v
  obtain ⟨S', hf, haS⟩ := hi.done it' vb' vf' ha hB2 (hn.frame fun k hk => hoth k (hn.not_item hB' k hk)) (hw.frame fun k hk => hoth k (OwnG.not_item hw hB' k hk)) m1 m3
  obtain ⟨q1, q2⟩ := item_step h haS hf rfl
  exact ⟨S', q1, q2⟩
theorem CacheIn.blk_set {w : World} {B room uses : Nat} {vI : Value} {L : List IR} (h : CacheIn w B room vI L uses) (i : Nat) (v : Value) (uses' : Nat)
    (he : (#[.int .i64 room, vI, .int .u64 uses] : Array Value).setIfInBounds i v = #[.int .i64 room, vI, .int .u64 uses']) : CacheIn (w.setCell ⟨B, i, none⟩ v) B room vI L uses' :=
  ⟨by have := h.blk.set i v; rwa [he] at this, h.row.frame fun k hk => Below.heap_setCell w ⟨B, i, none⟩ v k (fun e => h.rowB (hk.trans (congrArg some e))), fun f hf => (h.item f hf).frame fun k hk => Below.heap_setCell w ⟨B, i, none⟩ v k (fun e => (h.out f hf).1 (show f.S B from (show k = B from e) ▸ hk)), h.apart, h.out⟩
theorem mid_of {α : Type} {x : α} {L : List α} (h : x ∈ L) : ∃ L1 L2, L = L1 ++ x :: L2 := List.append_of_mem h
/-- Mathematics of lists that rise. -/
theorem rises_map {L : List IR} (h : Rises L) : (L.map IR.it).Pairwise fun a b => a.key < b.key := List.pairwise_map.2 h
theorem rises_of {L : List IR} (h : (L.map IR.it).Pairwise fun a b => a.key < b.key) : Rises L := by
  rw [List.pairwise_map] at h
  exact h
theorem rises_keys {L L' : List IR} (h : Rises L) (hk : (L'.map IR.it).map It.key = (L.map IR.it).map It.key) : Rises L' := by
  have h1 : ((L.map IR.it).map It.key).Pairwise (fun a b => a < b) := List.pairwise_map.2 (rises_map h)
  rw [← hk] at h1
  rw [List.pairwise_map] at h1
  exact rises_of h1
theorem isD_mid {I1 I2 : List It} {a b : It} (hk : a.key = b.key) (hd : a.dirty = b.dirty) (k : Int) : isD (I1 ++ a :: I2) k = isD (I1 ++ b :: I2) k := by
  unfold isD
  simp [hk, hd]
theorem rem_end {w w4 : World} {B room uses k : Nat} {vF : Value} {a' : Option Addr} {c' : Nat} {L : List IR} (h : CacheIn w B room vF L uses) (hk : k < L.length)
    (hrow : OwnG ptrV 74 1 w4 0 (.slice a' (L.length - 1) c') (L.length - 1) (L.take k ++ L.drop (k + 1))) (hg : w.grownBy w4 vF.ownBlock) (hv : (Value.slice a' (L.length - 1) c').ownBlock = vF.ownBlock) :
    CacheIn (w4.setCell ⟨B, 1, none⟩ (.slice a' (L.length - 1) c')) B room (.slice a' (L.length - 1) c') (L.take k ++ L.drop (k + 1)) uses ∧ Away (ownS B vF L) w (ownS B (.slice a' (L.length - 1) c') (L.take k ++ L.drop (k + 1))) (w4.setCell ⟨B, 1, none⟩ (.slice a' (L.length - 1) c')) ∧
      ∀ g ∈ L, ItemAt (w4.setCell ⟨B, 1, none⟩ (.slice a' (L.length - 1) c')) g := by
  have hlen : (L.take k ++ L.drop (k + 1)).length = L.length - 1 := by
    rw [List.length_append, List.length_take, List.length_drop]
    omega
  have hmem : ∀ g, g ∈ L.take k ++ L.drop (k + 1) → g ∈ L := fun g hg => by
    rcases List.mem_append.1 hg with hg | hg
    · exact List.mem_of_mem_take hg
    · exact List.mem_of_mem_drop hg
  have hap : (L.take k ++ L.drop (k + 1)).Pairwise fun f g => ∀ k, f.S k → ¬ g.S k := by
    refine h.apart.sublist ?_
    have : (L.take k ++ L.drop (k + 1)).Sublist (L.take k ++ L.drop k) := List.Sublist.append (List.Sublist.refl _) (List.drop_sublist_drop_left L (by omega))
    rwa [List.take_append_drop] at this
  have hblk : ∀ j, j < w.heap.size → vF.ownBlock ≠ some j → j ≠ B → (w4.setCell ⟨B, 1, none⟩ (.slice a' (L.length - 1) c')).heap[j]? = w.heap[j]? := fun j h1 h2 h3 => by
    rw [Below.heap_setCell w4 ⟨B, 1, none⟩ _ j h3]
    exact hg.block j h1 (fun e => h2 e.symm)
  have hB4 : Blk w4 B 64 #[.int .i64 room, vF, .int .u64 uses] := h.blk.kept hg (fun e => h.rowB e.symm)
  have ha : Away (ownS B vF L) w (ownS B vF L) (w4.setCell ⟨B, 1, none⟩ (.slice a' (L.length - 1) c')) := Away.set (S := ownS B vF L) (Away.grown (Away.refl (ownS B vF L) w) hg (fun j hj => Or.inl (Or.inr (Or.inl hj)))) (ownS_B B vF L) 1 _
  have hkeep : ∀ g ∈ L, ∀ j, g.S j → (w4.setCell ⟨B, 1, none⟩ (.slice a' (L.length - 1) c')).heap[j]? = w.heap[j]? := fun g hg' j hj => hblk j ((h.item g hg').lt j hj) (fun e => (h.out g hg').2 j e hj) (fun e => (h.out g hg').1 (e ▸ hj))
  have := cache_rows h (fun g hg' => Or.inl (hmem g hg')) hap hkeep ha (hB4.set 1 _) (by
    rw [hlen]
    exact hrow.frame fun j hj => Below.heap_setCell w4 ⟨B, 1, none⟩ _ j (fun e => h.rowB (by rw [← hv, hj]; exact congrArg some e))) (fun j hj => Or.inl (hv ▸ hj))
  exact ⟨this.1, this.2, fun g hg' => (h.item g hg').frame (hkeep g hg')⟩
theorem del_mid {I1 I2 : List It} {a : It} (h : (I1 ++ a :: I2).Pairwise fun a b => a.key < b.key) : delIt (I1 ++ a :: I2) a.key = I1 ++ I2 := by
  rw [List.pairwise_append, List.pairwise_cons] at h
  obtain ⟨_, ⟨h1, _⟩, h2⟩ := h
  unfold delIt
  rw [List.filter_append, List.filter_cons]
  have e1 : I1.filter (fun y => !decide (y.key = a.key)) = I1 := List.filter_eq_self.2 fun y hy => by have := h2 y hy a (by simp); simp; omega
  have e2 : I2.filter (fun y => !decide (y.key = a.key)) = I2 := List.filter_eq_self.2 fun y hy => by have := h1 y hy; simp; omega
  rw [e1, e2]
  simp
def RemQ (B room uses : Nat) (vI : Value) (L : List IR) (k : Int) (w : World) (e : Ending) (w' : World) : Prop :=
  e = .returned (.tuple #[]) ∧ ∃ vI' L', CacheIn w' B room vI' L' uses ∧ L'.map IR.it = delIt (L.map IR.it) k ∧ Away (ownS B vI L) w (ownS B vI' L') w' ∧ ∀ g ∈ L, ItemAt w' g
set_option maxHeartbeats 400000 in
theorem remove_any {w : World} {B room uses : Nat} {vI : Value} {L : List IR} (h : CacheIn w B room vI L uses) (hs : Rises L) (hm : L.length ≤ 2000) {f : IR} (hf : f ∈ L) :
    Calls Try.prog 48 #[.pointer (some ⟨B, 0, none⟩), .int .i64 f.key] w (RemQ B room uses vI L f.key w) := by
  have c1 := h.c1
  have f1 := h.blk.free 1
  obtain ⟨L1, L2, hL⟩ := mid_of hf
  obtain ⟨i, hin⟩ := named L1.length
  have hi : L[i]? = some f := by rw [← hin.out, hL]; simp
  have hil := (List.getElem?_eq_some_iff.1 hi).1
  have HK := Lib.hid (fun k found (hP : Pos L f.key k found) => hP.at hs hi rfl)
  have HPL := Lib.hid (fun s => place_any h hs hm s)
  have HS := Lib.hid hs
  have HLL := Lib.hid hL
  have HH := Lib.hid h
  obtain ⟨s, hsn⟩ := named f.key
  rw [hsn.out] at HK ⊢
  have b8 : IntKind.i64.wrap ((i : Int) + 1) = (i : Int) + 1 := by rw [IntKind.wrap_i64]; omega
  clear h hs hf hi hL
  go_enter Try.func48, Try.ntmps48
  go_wp2_with (first
    | (go_at_call 33; refine (HPL.out s).mono ?_; rintro e w1 ⟨⟨k, found, rfl, hP⟩, rfl⟩; obtain ⟨rfl, rfl⟩ := HK.out k found hP; clear hP)
    | (go_at_call 68
       refine (delete_any HH.out.row (by omega) k hil).mono ?_
       rintro e w3 ⟨a', c', rfl, hown4, hg4, hv4⟩
       have HQ := Lib.hid (rem_end HH.out hil hown4 hg4 hv4)
       have hB3 : Blk w3 B 64 #[.int .i64 room, vI, .int .u64 uses] := HH.out.blk.kept hg4 (fun e => HH.out.rowB e.symm)
       have c13 : w3.cell? ⟨B, 1, none⟩ = some vI := (by rw [hB3.cell]; rfl)
       have f13 := hB3.free 1
       clear hB3 hown4 hg4 hv4))
  go_end0
  have e1 := HLL.out
  have e2 := hin.out
  refine ⟨rfl, _, _, HQ.out.1, ?_, HQ.out.2.1, HQ.out.2.2⟩
  have hr := rises_map HS.out
  rw [e1, List.map_append, List.map_cons] at hr
  have e3 : delIt (L.map IR.it) s = L1.map IR.it ++ L2.map IR.it := by
    rw [e1, List.map_append, List.map_cons, ← hsn.out]
    exact del_mid hr
  rw [e3, e1, ← e2]
  simp
end Go.Proofs.Ythmkmhfoicfapaa
