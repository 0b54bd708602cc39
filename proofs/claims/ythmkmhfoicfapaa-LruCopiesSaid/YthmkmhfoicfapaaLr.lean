/-
  What a cache's own calls answer, fourth part (package lru): Put. Conditions: the cache as it lies, short bytes, fewer than a million uses.
-/
import Derived.Test.YthmkmhfoicfapaaLq
import Derived.Deep.QuietTactic
namespace Go.Proofs.Ythmkmhfoicfapaa
open Go.RowKit Go.Maps
set_option linter.unusedVariables false

/-- Bytes that are not the cache's. -/
def Away1 (S : Nat → Prop) (w : World) (a : Option Addr) (n : Nat) (l : List Int) : Prop := Bytes w a n l ∧ ∀ x, a = some x → 0 < n → x.block < w.heap.size ∧ ¬ S x.block
theorem Away1.away {S S' : Nat → Prop} {w w' : World} {a : Option Addr} {n : Nat} {l : List Int} (h : Away1 S w a n l) (ha : Away S w S' w') : Away1 S' w' a n l := by
  obtain ⟨⟨h1, h2, h3⟩, h4⟩ := h
  refine ⟨⟨h1, h2, ?_⟩, fun x hx h0 => ⟨Nat.lt_of_lt_of_le (h4 x hx h0).1 ha.size, ha.far (h4 x hx h0).1 (h4 x hx h0).2⟩⟩
  rcases h3 with h3 | ⟨b, off, e, hlt, hl⟩
  · exact Or.inl h3
  · by_cases h0 : n = 0
    · exact Or.inl h0
    · exact Or.inr ⟨b, off, e, Nat.lt_of_lt_of_le hlt ha.size, fun i hi => (World.cell?_of_block (ha.block b hlt (h4 _ e (by omega)).2)).trans (hl i hi)⟩
theorem put_tail {w w2 : World} {B room uses : Nat} {vI vb vf v : Value} {L1 L2 : List IR} {f : IR} {bs : List Int} {d' : Bool} {U : Int} (hc : CacheIn w B room vI (L1 ++ f :: L2) uses) (hi : ItemIn w f vb vf) (hb : Below w.heap.size w w2)
    (hv : Own w2 w.heap.size v bs.length bs) (hU : ((uses + 1 : Nat) : Int) = U) :
    (w2.cell? ⟨f.G, 1, none⟩ = some vb ∧ w2.frozen? ⟨f.G, 1, none⟩ = false) ∧ ((w2.setCell ⟨f.G, 1, none⟩ v).cell? ⟨f.G, 3, none⟩ = some (.bool f.it.dirty) ∧ (w2.setCell ⟨f.G, 1, none⟩ v).frozen? ⟨f.G, 3, none⟩ = false) ∧
    (((w2.setCell ⟨f.G, 1, none⟩ v).setCell ⟨f.G, 3, none⟩ (.bool d')).cell? ⟨B, 2, none⟩ = some (.int .u64 uses) ∧ ((w2.setCell ⟨f.G, 1, none⟩ v).setCell ⟨f.G, 3, none⟩ (.bool d')).frozen? ⟨B, 2, none⟩ = false) ∧
    ((((w2.setCell ⟨f.G, 1, none⟩ v).setCell ⟨f.G, 3, none⟩ (.bool d')).setCell ⟨B, 2, none⟩ (.int .u64 U)).cell? ⟨f.G, 2, none⟩ = some (.int .u64 f.it.used) ∧ (((w2.setCell ⟨f.G, 1, none⟩ v).setCell ⟨f.G, 3, none⟩ (.bool d')).setCell ⟨B, 2, none⟩ (.int .u64 U)).frozen? ⟨f.G, 2, none⟩ = false) ∧
    ∃ S', CacheIn ((((w2.setCell ⟨f.G, 1, none⟩ v).setCell ⟨f.G, 3, none⟩ (.bool d')).setCell ⟨B, 2, none⟩ (.int .u64 U)).setCell ⟨f.G, 2, none⟩ (.int .u64 U)) B room vI (L1 ++ ⟨⟨f.it.key, bs, uses + 1, d', f.it.firsts⟩, f.G, S'⟩ :: L2) (uses + 1) ∧
      Away (ownS B vI (L1 ++ f :: L2)) w (ownS B vI (L1 ++ ⟨⟨f.it.key, bs, uses + 1, d', f.it.firsts⟩, f.G, S'⟩ :: L2)) ((((w2.setCell ⟨f.G, 1, none⟩ v).setCell ⟨f.G, 3, none⟩ (.bool d')).setCell ⟨B, 2, none⟩ (.int .u64 U)).setCell ⟨f.G, 2, none⟩ (.int .u64 U)) := by
  subst hU
  have hi2 := hi.away hb
  obtain ⟨S1, q1, q2⟩ := item_set hc hi (grown_of_below hb) (fun k e => by cases e) 1 v ⟨f.it.key, bs, f.it.used, f.it.dirty, f.it.firsts⟩ rfl (hv.rebase (Nat.zero_le _)) (hi2.fs) (fun k hk => Or.inr (hv.1.lt k hk).1) (fun k hk => Or.inl (hi.sF hk))
  obtain ⟨vb1, vf1, hi3⟩ := q1.item ⟨⟨f.it.key, bs, f.it.used, f.it.dirty, f.it.firsts⟩, f.G, S1⟩ (by simp)
  obtain ⟨S2, q3, q4⟩ := item_set q1 hi3 (World.grownBy.refl _ none) (fun k e => by cases e) 3 (.bool d') ⟨f.it.key, bs, f.it.used, d', f.it.firsts⟩ rfl hi3.bs hi3.fs (fun k hk => Or.inl (hi3.sB hk)) (fun k hk => Or.inl (hi3.sF hk))
  have q5 := q3.blk_set 2 (.int .u64 ((uses + 1 : Nat) : Int)) (uses + 1) rfl
  obtain ⟨vb2, vf2, hi4⟩ := q5.item ⟨⟨f.it.key, bs, f.it.used, d', f.it.firsts⟩, f.G, S2⟩ (by simp)
  obtain ⟨S3, q6, q7⟩ := item_set q5 hi4 (World.grownBy.refl _ none) (fun k e => by cases e) 2 (.int .u64 ((uses + 1 : Nat) : Int)) ⟨f.it.key, bs, uses + 1, d', f.it.firsts⟩ rfl hi4.bs hi4.fs (fun k hk => Or.inl (hi4.sB hk)) (fun k hk => Or.inl (hi4.sF hk))
  refine ⟨⟨(hi2.blk.cell 1).trans rfl, hi2.blk.free 1⟩, ⟨(hi3.blk.cell 3).trans rfl, hi3.blk.free 3⟩, ⟨q3.c2, q3.blk.free 2⟩, ⟨(hi4.blk.cell 2).trans rfl, hi4.blk.free 2⟩, S3, q6, ?_⟩
  exact ((q2.trans q4).trans ((Away.refl _ _).set (ownS_B _ _ _) 2 _)).trans q7
structure PutSt (w : World) (S : Nat → Prop) (B room uses : Nat) (I6 : List It) (wr : World) (a : Option Addr) (n c : Nat) (out : List Int) (vI : Value) (L : List IR) : Prop where
  row : OwnG ivV 3 1 wr w.heap.size (.slice a n c) n out
  cc : CacheIn wr B room vI L uses
  st : (L.map IR.it = I6 ∧ out = []) ∨ (L.map IR.it = (evictL I6).2 ∧ out = (evictL I6).1 ∧ room < I6.length)
  away : Away S w (ownS B vI L) wr
  far : ∀ k, (Value.slice a n c).ownBlock = some k → ¬ ownS B vI L k
theorem put_found {its : List It} {u : Nat} {I1 I2 : List It} {a : It} {b : List Int} {d : Bool} (hr : (I1 ++ a :: I2).Pairwise fun x y => x.key < y.key) (h : its = I1 ++ a :: I2) : putIts its u a.key b d = I1 ++ ⟨a.key, b, u, a.dirty || d, a.firsts⟩ :: I2 := by
  subst h
  unfold putIts
  rw [if_pos (hasK_iff.2 ⟨a, by simp, rfl⟩)]
  exact setIt_mid hr fun it => { it with bs := b, dirty := it.dirty || d, used := u }
theorem ins_split {its : List It} {x : It} {k : Nat} (h1 : ∀ y ∈ its.take k, y.key < x.key) (h2 : ∀ y ∈ its.drop k, x.key < y.key) : insIt its x = its.take k ++ x :: its.drop k := by
  unfold insIt
  have e1 : its.filter (fun y => decide (y.key < x.key)) = its.take k := by
    conv => lhs; rw [← List.take_append_drop k its]
    rw [List.filter_append, List.filter_eq_self.2 fun y hy => by simpa using h1 y hy, List.filter_eq_nil_iff.2 fun y hy => by have := h2 y hy; simp; omega, List.append_nil]
  have e2 : its.filter (fun y => decide (x.key < y.key)) = its.drop k := by
    conv => lhs; rw [← List.take_append_drop k its]
    rw [List.filter_append, List.filter_eq_nil_iff.2 fun y hy => by have := h1 y hy; simp; omega, List.filter_eq_self.2 fun y hy => by simpa using h2 y hy, List.nil_append]
  rw [e1, e2]
theorem pos_split {L : List IR} {s : Int} {k : Nat} {found : Bool} (h : Pos L s k found) (hr : Rises L) : (∀ g ∈ L.take k, g.key < s) ∧ (found = false → ∀ g ∈ L.drop k, s < g.key) := by
  refine ⟨fun g hg => ?_, fun hf g hg => ?_⟩
  · obtain ⟨i, hi⟩ := List.getElem?_of_mem hg
    rw [List.getElem?_take] at hi
    split at hi
    · rename_i hk
      exact h.ahead i g hi hk
    · cases hi
  · obtain ⟨i, hi⟩ := List.getElem?_of_mem hg
    rw [List.getElem?_drop] at hi
    have hb := h.behind _ g hi (Nat.le_add_right _ _)
    rcases Int.lt_or_eq_of_le hb with h1 | h1
    · exact h1
    · exfalso
      have hk0 : k < L.length := by have := (List.getElem?_eq_some_iff.1 hi).1; omega
      obtain ⟨g0, hg0⟩ : ∃ g0, L[k]? = some g0 := ⟨_, List.getElem?_eq_getElem hk0⟩
      have hb0 := h.behind k g0 hg0 (Nat.le_refl _)
      have : g0.key ≤ g.key := by
        rcases Nat.lt_or_ge k (k + i) with h' | h'
        · exact Int.le_of_lt (rise_at hr hg0 hi h')
        · have e : k + i = k := by omega
          rw [e] at hi
          rw [hg0] at hi
          cases hi
          exact Int.le_refl _
      have := h.found.2 ⟨g0, hg0, by omega⟩
      rw [hf] at this
      cases this
def mkI (k : Int) (G : Nat) : IR := ⟨⟨k, [], 0, false, []⟩, G, fun j => j = G⟩
theorem new_item (w : World) (k : Int) : ItemIn (w.alloc (.cells #[.int .i64 k, .slice none 0 0, .int .u64 0, .bool false, .slice none 0 0] 76)) (mkI k w.heap.size) (.slice none 0 0) (.slice none 0 0) :=
  ⟨Blk.new _ _ _, ⟨⟨by simp [mkI], Or.inl ⟨rfl, rfl⟩⟩, by unfold Small; simp [mkI]⟩, OwnG.none _ _ _ _ _, fun k => ⟨fun h => Or.inl h, fun h => by
    rcases h with h | h | h
    · exact h
    · cases h
    · cases h⟩⟩
/-- An item at a new place. -/
theorem make_end {w w3 w4 : World} {B room uses G k : Nat} {vF v' : Value} {L : List IR} {s : Int} (h : CacheIn w B room vF L uses) (hA : Below w.heap.size w w3) (hF : ItemAt w3 (mkI s G)) (hG : w.heap.size ≤ G)
    (hrow : OwnG ptrV 74 1 w4 0 v' (L.length + 1) (L.take k ++ mkI s G :: L.drop k)) (hg : w3.grownBy w4 vF.ownBlock) (hv : v'.ownBlock = vF.ownBlock ∨ ∃ k, w3.heap.size ≤ k ∧ v'.ownBlock = some k) :
    CacheIn (w4.setCell ⟨B, 1, none⟩ v') B room v' (L.take k ++ mkI s G :: L.drop k) uses ∧ Away (ownS B vF L) w (ownS B v' (L.take k ++ mkI s G :: L.drop k)) (w4.setCell ⟨B, 1, none⟩ v') := by
  have hBw := h.blk.lt
  have hGl : G < w3.heap.size := hF.lt G rfl
  have hs3 := hA.size
  have hown : ∀ k, vF.ownBlock = some k → k < w.heap.size := fun k hk => (h.row.1.lt k hk).2
  have hlen : (L.take k ++ mkI s G :: L.drop k).length = L.length + 1 := by
    rw [List.length_append, List.length_cons, List.length_take, List.length_drop]
    omega
  have hmem : ∀ g, g ∈ L.take k ++ mkI s G :: L.drop k → g ∈ L ∨ g = mkI s G := fun g hg => by
    rcases List.mem_append.1 hg with hg | hg
    · exact Or.inl (List.mem_of_mem_take hg)
    · rcases List.mem_cons.1 hg with hg | hg
      · exact Or.inr hg
      · exact Or.inl (List.mem_of_mem_drop hg)
  have hv' : ∀ k, v'.ownBlock = some k → vF.ownBlock = some k ∨ w3.heap.size ≤ k := fun k hk => by
    rcases hv with e | ⟨k', h1, e⟩
    · exact Or.inl (e ▸ hk)
    · rw [e] at hk
      cases hk
      exact Or.inr h1
  have hv2 : ∀ k, v'.ownBlock = some k → k ≠ B := fun k hk e => by
    subst e
    rcases hv' k hk with h1 | h1
    · exact h.rowB h1
    · omega
  have hGv : v'.ownBlock ≠ some G := fun e => by
    rcases hv' G e with h1 | h1
    · have := hown G h1
      omega
    · omega
  have hap : (L.take k ++ mkI s G :: L.drop k).Pairwise fun f g => ∀ k, f.S k → ¬ g.S k := by
    have hpw := h.apart
    rw [← List.take_append_drop k L, List.pairwise_append] at hpw
    obtain ⟨p1, p2, p3⟩ := hpw
    rw [List.pairwise_append, List.pairwise_cons]
    refine ⟨p1, ⟨fun g hg j hj hj' => ?_, p2⟩, fun g hg g' hg' => ?_⟩
    · have e : j = G := hj
      have := (h.item g (List.mem_of_mem_drop hg)).lt j hj'
      omega
    · rcases List.mem_cons.1 hg' with rfl | hg'
      · intro j hj hj'
        have e : j = G := hj'
        have := (h.item g (List.mem_of_mem_take hg)).lt j hj
        omega
      · exact p3 g hg g' hg'
  have hblk : ∀ j, j < w3.heap.size → vF.ownBlock ≠ some j → j ≠ B → (w4.setCell ⟨B, 1, none⟩ v').heap[j]? = w3.heap[j]? := fun j h1 h2 h3 => by
    rw [Below.heap_setCell w4 ⟨B, 1, none⟩ v' j h3]
    exact hg.block j h1 (fun e => h2 e.symm)
  have hB4 : Blk w4 B 64 #[.int .i64 room, vF, .int .u64 uses] := (h.blk.later hA).kept hg (fun e => h.rowB e.symm)
  have ha : Away (ownS B vF L) w (ownS B vF L) (w4.setCell ⟨B, 1, none⟩ v') := Away.set (S := ownS B vF L) (Away.grown (Away.of_below (S := ownS B vF L) hA) hg (fun j hj => Or.inl (Or.inr (Or.inl hj)))) (ownS_B B vF L) 1 v'
  refine cache_rows h (fun g hg' => ?_) hap (fun g hg' j hj => ?_) ha ?_ ?_ (fun j hj => ?_)
  · rcases hmem g hg' with h1 | rfl
    · exact Or.inl h1
    · refine Or.inr ⟨hF.frame fun j hj => ?_, fun j hj => ?_⟩
      · have e : j = G := hj
        subst e
        exact hblk j hGl (fun e => by have := hown j e; omega) (by omega)
      · have e : j = G := hj
        subst e
        exact ⟨hG, hGv⟩
  · have hj1 := (h.item g hg').lt j hj
    rw [hblk j (by omega) (fun e => (h.out g hg').2 j e hj) (fun e => (h.out g hg').1 (e ▸ hj))]
    exact hA.block j hj1
  · exact hB4.set 1 v'
  · rw [hlen]
    exact hrow.frame fun j hj => Below.heap_setCell w4 ⟨B, 1, none⟩ v' j (hv2 j hj)
  · rcases hv' j hj with h1 | h1
    · exact Or.inl h1
    · exact Or.inr (by omega)
theorem put_nil (w : World) (k : Int) (b : Value) (d : Bool) : Calls Try.prog 16 #[.pointer none, .int .i64 k, b, .bool d] w fun e w' => e = .returned (.slice none 0 0) ∧ w' = w := by
  go_enter Try.func16, Try.ntmps16
  go_wp2
  go_ret
  exact ⟨rfl, rfl⟩
theorem evict_short {its : List It} {u : Nat} (h : ItsOk its u) : (evictL its).1.length ≤ its.length := by
  cases its with
  | nil => exact Nat.le_refl _
  | cons x r =>
    unfold evictL
    dsimp only
    split
    · refine lines_len h.closed h.rise _ fun k hk => ?_
      simp only [List.mem_singleton] at hk
      exact ⟨_, oldest_mem r x, hk.symm⟩
    · exact Nat.zero_le _
theorem Away.grown' {S S' : Nat → Prop} {w0 w w' : World} {row : Option Nat} (ha : Away S w0 S' w) (hg : w.grownBy w' row) (hr : ∀ k, row = some k → S k ∨ w0.heap.size ≤ k) : Away S w0 S' w' :=
  ⟨hg.os.trans ha.os, hg.tape.trans ha.tape, hg.output.trans ha.output, Nat.le_trans ha.size hg.size, fun k hk hS => (hg.block k (Nat.lt_of_lt_of_le hk ha.size) (fun e => by
    rcases hr k e.symm with h | h
    · exact hS h
    · omega)).trans (ha.block k hk hS), ha.mine⟩
theorem Has.close' {w0 w w' : World} {C C' : Lru} {B : Nat} {vI' : Value} {L' : List IR} {S0 : Nat → Prop} (h : Has w0 ⟨B, 0, none⟩ C w S0) (hc : CacheIn w' B C'.room vI' L' C'.uses) (hi : L'.map IR.it = C'.items) (ho : C'.Ok) (ha : Away S0 w (ownS B vI' L') w') : Has w0 ⟨B, 0, none⟩ C' w' (ownS B vI' L') :=
  h.next ha ⟨B, vI', L', rfl, hc, hi, ho, rfl⟩
set_option maxRecDepth 100000 in
set_option maxHeartbeats 4000000 in
theorem lruPut_any {w0 w : World} {p : Addr} {C : Lru} {S : Nat → Prop} (h : Has w0 p C w S) (k0 : Int) (hk0 : -9223372036854775808 ≤ k0 ∧ k0 ≤ 9223372036854775807) (a : Option Addr) (n c : Nat) (b : List Int) (d : Bool) (hB : Away1 S w a n b) (hnil : a = none → c = 0) (hn : n ≤ 1000) (hu : C.uses + 1 ≤ 1000000) :
    Calls Try.prog 16 #[.pointer (some p), .int .i64 k0, .slice a n c, .bool d] w (GivesL w0 p (C.put k0 b d).2 (C.put k0 b d).1 S w) := by
  obtain ⟨B, vI, L, rfl, hc, hi, ho, rfl⟩ := h.open'
  have hb := base_of hc hi ho
  have HOKC := Lib.hid (Lru.put_ok ho hk0 (b := b) (by rw [hB.1.1]; exact hn) d hu)
  have HOK6 := Lib.hid (put_ok ho.its hk0 (b := b) (by rw [hB.1.1]; exact hn) d hu)
  have HPL := Lib.hid (fun s => place_any hc hb.rise hb.many s)
  have HH := Lib.hid h
  have HLE6 : Hid ((putIts C.items (C.uses + 1) k0 b d).length ≤ C.room + 1 ∧ C.room ≤ 1024) := ⟨by have h1 := (put_len (its := C.items) (u := C.uses + 1) (k := k0) (b := b) (d := d)).1; have := ho.many; omega, ho.room2⟩
  obtain ⟨I6, hI6n⟩ := named (putIts C.items (C.uses + 1) k0 b d)
  rw [hI6n.out] at HOK6 HLE6
  have HPUT := Lib.hid hI6n.out
  obtain ⟨room, hroom⟩ := named C.room
  obtain ⟨uses, huses⟩ := named C.uses
  have HRU : Hid (C.room = room ∧ C.uses = uses) := ⟨hroom.out, huses.out⟩
  rw [hroom.out, huses.out] at hc hb
  rw [huses.out] at HOK6 hu
  rw [hroom.out] at HLE6
  have hr1 : 1 ≤ room := by rw [← hroom.out]; exact ho.room1
  have hu2 : uses < 1000000000 := by omega
  have hlb : b.length = n := hB.1.1
  obtain ⟨U, hU⟩ := named ((uses + 1 : Nat) : Int)
  have HB := Lib.hid hB
  have HS := Lib.hid hb.rise
  have hmany := hb.many
  by_cases hfound : ∃ f ∈ L, f.key = k0
  · obtain ⟨f, hf, hfk⟩ := hfound
    have HK := Lib.hid (fun k found (hP : Pos L k0 k found) (i : Nat) (hi : L[i]? = some f) => hP.at hb.rise hi hfk)
    obtain ⟨L1, L2, hL⟩ := mid_of hf
    obtain ⟨i, hin⟩ := named L1.length
    have hi1 : L[i]? = some f := by rw [← hin.out, hL]; simp
    have hil := (List.getElem?_eq_some_iff.1 hi1).1
    obtain ⟨bI, cI, rfl⟩ := row_at hc (by omega)
    have cf := ptr_cell hc.row i f hi1
    have c1 := hc.c1
    subst hL
    obtain ⟨vb, vf, hfi⟩ := hc.item f hf
    have HTAIL : Hid (∀ (w2 : World) (v : Value) (d' : Bool), Below w.heap.size w w2 → Own w2 w.heap.size v b.length b → _) := Lib.hid (fun w2 v d' h1 h2 => put_tail (d' := d') hc hfi h1 h2 hU.out)
    have hpf : putIts C.items (uses + 1) k0 b d = L1.map IR.it ++ ⟨f.it.key, b, uses + 1, f.it.dirty || d, f.it.firsts⟩ :: L2.map IR.it := by
      have hr := rises_map hb.rise
      rw [List.map_append, List.map_cons] at hr
      rw [← hfk]
      exact put_found hr (by rw [← hi, List.map_append, List.map_cons])
    have HI6f : Hid (I6 = L1.map IR.it ++ ⟨f.it.key, b, uses + 1, f.it.dirty || d, f.it.firsts⟩ :: L2.map IR.it) := by rw [Hid, ← hI6n.out, huses.out]; exact hpf
    obtain ⟨N0, hN0⟩ := named (L1 ++ f :: L2).length
    rw [hN0.out] at c1 hil
    have g1 : (i : Int) < (N0 : Int) := by omega
    have HCI := Lib.hid hc
    have HI1 := Lib.hid hi1
    clear h hi ho hb hB hf hpf hi1 hfi hc
    cases hD0 : f.it.dirty with
    | false =>
      rw [hD0] at HI6f
      simp only [Bool.false_or] at HI6f
      have HD0 := Lib.hid hD0
      clear hD0
      go_enter Try.func16, Try.ntmps16
      go_wp2_with (first
        | (go_at_call 33; refine (HPL.out k0).mono ?_; rintro e w1 ⟨⟨k, found, rfl, hP⟩, e1⟩; obtain rfl : w = w1 := e1.symm; obtain ⟨rfl, rfl⟩ := HK.out k found hP i HI1.out; clear hP)
        | (go_at_call 35; refine (bclone_any _ a n c b HB.out.1 hnil (by omega)).mono ?_; rintro e w2 ⟨a2, c2, rfl, g1, g2⟩
           obtain ⟨⟨t1, t2⟩, ⟨t3, t4⟩, ⟨t5, t6⟩, ⟨t7, t8⟩, t9⟩ := HTAIL.out w2 (.slice a2 n c2) d g2 (by rw [hlb]; exact g1)
           rw [HD0.out] at t3
           have T9 := Lib.hid t9
           clear t9 g1 g2)
        | (go_at_call 36; have hadd := add_any _ B uses hu2 t5 t6; rw [hU.out] at hadd; refine hadd.mono ?_; rintro e w3 ⟨rfl, rfl⟩))
      have HEND : Hid _ := T9
      have HITS : Hid (∀ (S' : Nat → Prop), (L1 ++ ⟨⟨f.it.key, b, uses + 1, d, f.it.firsts⟩, f.G, S'⟩ :: L2).map IR.it = I6) := Lib.hid fun S' => by rw [HI6f.out, List.map_append, List.map_cons]
      obtain ⟨S6, hS6⟩ := T9.out
      clear HEND
      have HEND := Lib.hid hS6
      have HITS := Lib.hid (HITS.out S6)
      clear hS6 T9 HTAIL
      go_loopw [12] (fun s12 wr => ∃ (a : Option Addr) (n c : Nat) (out : List Int) (vI' : Value) (L' : List IR), s12 = .slice a n c ∧ Hid (PutSt w (ownS B (.slice (some ⟨bI, 0, none⟩) N0 cI) (L1 ++ f :: L2)) B room (uses + 1) I6 wr a n c out vI' L')) (fun _ wr => match wr.cell? ⟨B, 1, none⟩ with | some (.slice _ n _) => n | _ => 0)
      case atStart => exact ⟨none, 0, 0, [], _, _, rfl, OwnG.none _ _ _ _ _, HEND.out.1, Or.inl ⟨HITS.out, rfl⟩, HEND.out.2, fun k hk => by cases hk⟩
      case round =>
        obtain ⟨a9, n9, c9, out9, vI9, L9, rfl, HP⟩ := hrel
        clear HEND HITS t1 t2 t3 t4 t5 t6 t7 t8
        obtain ⟨aJ, cJ, rfl, _, _, _⟩ := HP.out.cc.row.shape ptr_rowed
        have d0 := HP.out.cc.c0
        have d1 := HP.out.cc.c1
        obtain ⟨N, hN⟩ := named L9.length
        rw [hN.out] at d1
        by_cases hgt : (room : Int) < (N : Int)
        · have hA : L9.map IR.it = I6 ∧ out9 = [] := by
            rcases HP.out.st with h | ⟨h1, h2, h3⟩
            · exact h
            · exfalso
              have h4 := evict_len HOK6.out (fun e => by rw [e] at h3; simp at h3)
              have h5 : L9.length = (evictL I6).2.length := by rw [← h1, List.length_map]
              have := HLE6.out
              have := hN.out
              omega
          obtain ⟨x9, r9, rfl⟩ : ∃ x r, L9 = x :: r := by
            cases L9 with
            | nil => have := hN.out; simp at this; omega
            | cons x r => exact ⟨x, r, rfl⟩
          obtain ⟨hI9, rfl⟩ := hA
          obtain rfl : n9 = 0 := HP.out.row.2.1.symm
          have HEV : Hid (∀ q, Calls Try.prog 37 #[.pointer (some ⟨B, 0, none⟩)] (wr.drewN q) (EvictQ B room (uses + 1) (.slice aJ (x9 :: r9).length cJ) (x9 :: r9) (wr.drewN q))) := fun q => by
            refine evict_any ⟨HP.out.cc.frame fun _ _ => rfl, rises_of (by rw [hI9]; exact HOK6.out.rise), ?_, by rw [hI9]; exact HOK6.out.closed, fun f hf => ?_⟩
            · have h1 := congrArg List.length hI9
              have := HLE6.out
              rw [List.length_map] at h1
              omega
            · exact HOK6.out.kr f.it (by rw [← hI9]; exact List.mem_map.2 ⟨f, hf, rfl⟩)
          unfold EvictQ at HEV
          rw [hI9] at HEV
          have HI9 := Lib.hid hI9
          obtain ⟨ev, hev⟩ := named (evictL I6).1
          rw [hev.out] at HEV
          obtain ⟨m9, hm9⟩ := named ev.length
          rw [hm9.out] at HEV
          have hm9b : m9 ≤ 100000 := by
            rw [← hm9.out, ← hev.out]
            have := evict_short HOK6.out
            have := HLE6.out
            omega
          have hI6 : room < I6.length := by
            rw [← hI9, List.length_map]
            have := hN.out
            omega
          have HI6 := Lib.hid hI6
          clear hI9 hI6
          go_wp2_with fail
          go_quiet (fail)
          go_wp2_with (first
            | (go_at_call 37; refine (HEV.out _).mono ?_; rintro e w7 ⟨a7, c7, vI7, L7, rfl, p1, p2, p3, p4, p5⟩; have P1 := Lib.hid p1; have P2 := Lib.hid p2; have P3 := Lib.hid p3; have P4 := Lib.hid p4; have P5 := Lib.hid p5
               have HROW7 : Hid (OwnG ivV 3 1 w7 w.heap.size (.slice a9 0 c9) 0 []) := Lib.hid (HP.out.row.frame fun j hj => p4.block j (HP.out.row.1.lt j hj).2 (HP.out.far j hj))
               clear p1 p2 p3 p4 p5)
            | (at_builtin; refine wpList_append_lg iv_rowed rfl (.tmp 75) (.tmp 77) rfl w.heap.size (.slice a9 0 c9) 0 [] rfl HROW7.out a7 m9 c7 ev rfl (P1.out.reads iv_rowed).2.1 (P1.out.reads iv_rowed).1 (by omega) (by have := HP.out.away.size; have h2 : (wr.drewN nq).heap.size ≤ w7.heap.size := P4.out.size; exact Nat.le_trans this h2) ?_; intro a8 c8 w8 g1 g2 g3
               have HG1 := Lib.hid g1; have HG2 := Lib.hid g2; have HG3 := Lib.hid g3; clear g1 g2 g3))
          have hfar8 : ∀ j, (Value.slice a9 0 c9).ownBlock = some j → ¬ ownS B vI7 L7 j := fun j hj => P4.out.far (B := j) (HP.out.row.1.lt j hj).2 (HP.out.far j hj)
          have hc8 : CacheIn w8 B room vI7 L7 (uses + 1) := P2.out.frame fun j hj => HG2.out.block j (P2.out.ltS hj) fun e => hfar8 j e.symm hj
          have h8 : PutSt w (ownS B (.slice (some ⟨bI, 0, none⟩) N0 cI) (L1 ++ f :: L2)) B room (uses + 1) I6 w8 a8 m9 c8 ev vI7 L7 := by
            refine ⟨?_, hc8, Or.inr ⟨P3.out, hev.out.symm, HI6.out⟩, ?_, fun j hj hS => ?_⟩
            · have := HG1.out
              rwa [Nat.zero_add, List.nil_append] at this
            · refine ((HP.out.away.trans (Away.of_below (below_drewN (Below.refl _ _) _))).trans P4.out).grown' HG2.out fun j hj => ?_
              exact Or.inr (HP.out.row.1.lt j hj).1
            · rcases HG3.out with e | e
              · rw [Nat.zero_add] at e
                exact hfar8 j (e ▸ hj) hS
              · rw [Nat.zero_add, hj] at e
                cases e
                have := P2.out.ltS hS
                omega
          have hlen7 : L7.length < N := by
            have h4 := evict_len HOK6.out (fun e => by have := HI6.out; rw [e] at this; simp at this)
            have h5 : L7.length = (evictL I6).2.length := by rw [← P3.out, List.length_map]
            have h6 : (x9 :: r9).length = I6.length := by rw [← HI9.out, List.length_map]
            have := hN.out
            omega
          have d18 := hc8.c1
          obtain ⟨aK, cK, hvK, _, _, _⟩ := hc8.row.shape ptr_rowed
          have H8 := Lib.hid h8
          have HL7 := Lib.hid hlen7
          clear hc8 h8 hfar8 hlen7
          go_roundw
          case rel => exact ⟨a8, m9, c8, ev, vI7, L7, rfl, H8.out⟩
          case measure =>
            rw [d1, d18, hvK]
            exact HL7.out
        · go_wp2_with fail
          go_quiet (fail)
          go_wp2
          go_ret
          have hn9 : out9.length = n9 := HP.out.row.2.1
          have hC9 : CacheIn (wr.drewN nq) B room (.slice aJ L9.length cJ) L9 (uses + 1) := HP.out.cc.frame fun _ _ => rfl
          have hA9 : Away (ownS B (.slice (some ⟨bI, 0, none⟩) N0 cI) (L1 ++ f :: L2)) w (ownS B (.slice aJ L9.length cJ) L9) (wr.drewN nq) := HP.out.away.trans (Away.of_below (below_drewN (Below.refl _ _) _))
          have hR9 : OwnG ivV 3 1 (wr.drewN nq) w.heap.size (.slice a9 n9 c9) n9 out9 := HP.out.row.frame fun _ _ => rfl
          have hput : C.put k0 b d = (out9, ⟨room, uses + 1, L9.map IR.it⟩) := by
            have h6 := HPUT.out
            unfold Lru.put
            dsimp only
            rw [h6]
            rcases HP.out.st with ⟨h1, h2⟩ | ⟨h1, h2, h3⟩
            · rw [if_neg (by
                have h4 := congrArg List.length h1
                rw [List.length_map] at h4
                have := hN.out
                have := HRU.out.1
                omega), h1, h2, HRU.out.1, HRU.out.2]
            · rw [if_pos (by rw [HRU.out.1]; exact h3), h1, h2, HRU.out.1, HRU.out.2]
          unfold GivesL
          rw [hput] at HOKC ⊢
          dsimp only at HOKC ⊢
          rw [hn9]
          exact ⟨a9, c9, _, rfl, hR9, HH.out.close' hC9 rfl HOKC.out hA9, hA9, HP.out.far⟩
    | true =>
      rw [hD0] at HI6f
      simp only [Bool.true_or] at HI6f
      have HD0 := Lib.hid hD0
      clear hD0
      go_enter Try.func16, Try.ntmps16
      go_wp2_with (first
        | (go_at_call 33; refine (HPL.out k0).mono ?_; rintro e w1 ⟨⟨k, found, rfl, hP⟩, e1⟩; obtain rfl : w = w1 := e1.symm; obtain ⟨rfl, rfl⟩ := HK.out k found hP i HI1.out; clear hP)
        | (go_at_call 35; refine (bclone_any _ a n c b HB.out.1 hnil (by omega)).mono ?_; rintro e w2 ⟨a2, c2, rfl, g1, g2⟩
           obtain ⟨⟨t1, t2⟩, ⟨t3, t4⟩, ⟨t5, t6⟩, ⟨t7, t8⟩, t9⟩ := HTAIL.out w2 (.slice a2 n c2) true g2 (by rw [hlb]; exact g1)
           rw [HD0.out] at t3
           have T9 := Lib.hid t9
           clear t9 g1 g2)
        | (go_at_call 36; have hadd := add_any _ B uses hu2 t5 t6; rw [hU.out] at hadd; refine hadd.mono ?_; rintro e w3 ⟨rfl, rfl⟩))
      have HEND : Hid _ := T9
      have HITS : Hid (∀ (S' : Nat → Prop), (L1 ++ ⟨⟨f.it.key, b, uses + 1, true, f.it.firsts⟩, f.G, S'⟩ :: L2).map IR.it = I6) := Lib.hid fun S' => by rw [HI6f.out, List.map_append, List.map_cons]
      obtain ⟨S6, hS6⟩ := T9.out
      clear HEND
      have HEND := Lib.hid hS6
      have HITS := Lib.hid (HITS.out S6)
      clear hS6 T9 HTAIL
      go_loopw [12] (fun s12 wr => ∃ (a : Option Addr) (n c : Nat) (out : List Int) (vI' : Value) (L' : List IR), s12 = .slice a n c ∧ Hid (PutSt w (ownS B (.slice (some ⟨bI, 0, none⟩) N0 cI) (L1 ++ f :: L2)) B room (uses + 1) I6 wr a n c out vI' L')) (fun _ wr => match wr.cell? ⟨B, 1, none⟩ with | some (.slice _ n _) => n | _ => 0)
      case atStart => exact ⟨none, 0, 0, [], _, _, rfl, OwnG.none _ _ _ _ _, HEND.out.1, Or.inl ⟨HITS.out, rfl⟩, HEND.out.2, fun k hk => by cases hk⟩
      case round =>
        obtain ⟨a9, n9, c9, out9, vI9, L9, rfl, HP⟩ := hrel
        clear HEND HITS t1 t2 t3 t4 t5 t6 t7 t8
        obtain ⟨aJ, cJ, rfl, _, _, _⟩ := HP.out.cc.row.shape ptr_rowed
        have d0 := HP.out.cc.c0
        have d1 := HP.out.cc.c1
        obtain ⟨N, hN⟩ := named L9.length
        rw [hN.out] at d1
        by_cases hgt : (room : Int) < (N : Int)
        · have hA : L9.map IR.it = I6 ∧ out9 = [] := by
            rcases HP.out.st with h | ⟨h1, h2, h3⟩
            · exact h
            · exfalso
              have h4 := evict_len HOK6.out (fun e => by rw [e] at h3; simp at h3)
              have h5 : L9.length = (evictL I6).2.length := by rw [← h1, List.length_map]
              have := HLE6.out
              have := hN.out
              omega
          obtain ⟨x9, r9, rfl⟩ : ∃ x r, L9 = x :: r := by
            cases L9 with
            | nil => have := hN.out; simp at this; omega
            | cons x r => exact ⟨x, r, rfl⟩
          obtain ⟨hI9, rfl⟩ := hA
          obtain rfl : n9 = 0 := HP.out.row.2.1.symm
          have HEV : Hid (∀ q, Calls Try.prog 37 #[.pointer (some ⟨B, 0, none⟩)] (wr.drewN q) (EvictQ B room (uses + 1) (.slice aJ (x9 :: r9).length cJ) (x9 :: r9) (wr.drewN q))) := fun q => by
            refine evict_any ⟨HP.out.cc.frame fun _ _ => rfl, rises_of (by rw [hI9]; exact HOK6.out.rise), ?_, by rw [hI9]; exact HOK6.out.closed, fun f hf => ?_⟩
            · have h1 := congrArg List.length hI9
              have := HLE6.out
              rw [List.length_map] at h1
              omega
            · exact HOK6.out.kr f.it (by rw [← hI9]; exact List.mem_map.2 ⟨f, hf, rfl⟩)
          unfold EvictQ at HEV
          rw [hI9] at HEV
          have HI9 := Lib.hid hI9
          obtain ⟨ev, hev⟩ := named (evictL I6).1
          rw [hev.out] at HEV
          obtain ⟨m9, hm9⟩ := named ev.length
          rw [hm9.out] at HEV
          have hm9b : m9 ≤ 100000 := by
            rw [← hm9.out, ← hev.out]
            have := evict_short HOK6.out
            have := HLE6.out
            omega
          have hI6 : room < I6.length := by
            rw [← hI9, List.length_map]
            have := hN.out
            omega
          have HI6 := Lib.hid hI6
          clear hI9 hI6
          go_wp2_with fail
          go_quiet (fail)
          go_wp2_with (first
            | (go_at_call 37; refine (HEV.out _).mono ?_; rintro e w7 ⟨a7, c7, vI7, L7, rfl, p1, p2, p3, p4, p5⟩; have P1 := Lib.hid p1; have P2 := Lib.hid p2; have P3 := Lib.hid p3; have P4 := Lib.hid p4; have P5 := Lib.hid p5
               have HROW7 : Hid (OwnG ivV 3 1 w7 w.heap.size (.slice a9 0 c9) 0 []) := Lib.hid (HP.out.row.frame fun j hj => p4.block j (HP.out.row.1.lt j hj).2 (HP.out.far j hj))
               clear p1 p2 p3 p4 p5)
            | (at_builtin; refine wpList_append_lg iv_rowed rfl (.tmp 75) (.tmp 77) rfl w.heap.size (.slice a9 0 c9) 0 [] rfl HROW7.out a7 m9 c7 ev rfl (P1.out.reads iv_rowed).2.1 (P1.out.reads iv_rowed).1 (by omega) (by have := HP.out.away.size; have h2 : (wr.drewN nq).heap.size ≤ w7.heap.size := P4.out.size; exact Nat.le_trans this h2) ?_; intro a8 c8 w8 g1 g2 g3
               have HG1 := Lib.hid g1; have HG2 := Lib.hid g2; have HG3 := Lib.hid g3; clear g1 g2 g3))
          have hfar8 : ∀ j, (Value.slice a9 0 c9).ownBlock = some j → ¬ ownS B vI7 L7 j := fun j hj => P4.out.far (B := j) (HP.out.row.1.lt j hj).2 (HP.out.far j hj)
          have hc8 : CacheIn w8 B room vI7 L7 (uses + 1) := P2.out.frame fun j hj => HG2.out.block j (P2.out.ltS hj) fun e => hfar8 j e.symm hj
          have h8 : PutSt w (ownS B (.slice (some ⟨bI, 0, none⟩) N0 cI) (L1 ++ f :: L2)) B room (uses + 1) I6 w8 a8 m9 c8 ev vI7 L7 := by
            refine ⟨?_, hc8, Or.inr ⟨P3.out, hev.out.symm, HI6.out⟩, ?_, fun j hj hS => ?_⟩
            · have := HG1.out
              rwa [Nat.zero_add, List.nil_append] at this
            · refine ((HP.out.away.trans (Away.of_below (below_drewN (Below.refl _ _) _))).trans P4.out).grown' HG2.out fun j hj => ?_
              exact Or.inr (HP.out.row.1.lt j hj).1
            · rcases HG3.out with e | e
              · rw [Nat.zero_add] at e
                exact hfar8 j (e ▸ hj) hS
              · rw [Nat.zero_add, hj] at e
                cases e
                have := P2.out.ltS hS
                omega
          have hlen7 : L7.length < N := by
            have h4 := evict_len HOK6.out (fun e => by have := HI6.out; rw [e] at this; simp at this)
            have h5 : L7.length = (evictL I6).2.length := by rw [← P3.out, List.length_map]
            have h6 : (x9 :: r9).length = I6.length := by rw [← HI9.out, List.length_map]
            have := hN.out
            omega
          have d18 := hc8.c1
          obtain ⟨aK, cK, hvK, _, _, _⟩ := hc8.row.shape ptr_rowed
          have H8 := Lib.hid h8
          have HL7 := Lib.hid hlen7
          clear hc8 h8 hfar8 hlen7
          go_roundw
          case rel => exact ⟨a8, m9, c8, ev, vI7, L7, rfl, H8.out⟩
          case measure =>
            rw [d1, d18, hvK]
            exact HL7.out
        · go_wp2_with fail
          go_quiet (fail)
          go_wp2
          go_ret
          have hn9 : out9.length = n9 := HP.out.row.2.1
          have hC9 : CacheIn (wr.drewN nq) B room (.slice aJ L9.length cJ) L9 (uses + 1) := HP.out.cc.frame fun _ _ => rfl
          have hA9 : Away (ownS B (.slice (some ⟨bI, 0, none⟩) N0 cI) (L1 ++ f :: L2)) w (ownS B (.slice aJ L9.length cJ) L9) (wr.drewN nq) := HP.out.away.trans (Away.of_below (below_drewN (Below.refl _ _) _))
          have hR9 : OwnG ivV 3 1 (wr.drewN nq) w.heap.size (.slice a9 n9 c9) n9 out9 := HP.out.row.frame fun _ _ => rfl
          have hput : C.put k0 b d = (out9, ⟨room, uses + 1, L9.map IR.it⟩) := by
            have h6 := HPUT.out
            unfold Lru.put
            dsimp only
            rw [h6]
            rcases HP.out.st with ⟨h1, h2⟩ | ⟨h1, h2, h3⟩
            · rw [if_neg (by
                have h4 := congrArg List.length h1
                rw [List.length_map] at h4
                have := hN.out
                have := HRU.out.1
                omega), h1, h2, HRU.out.1, HRU.out.2]
            · rw [if_pos (by rw [HRU.out.1]; exact h3), h1, h2, HRU.out.1, HRU.out.2]
          unfold GivesL
          rw [hput] at HOKC ⊢
          dsimp only at HOKC ⊢
          rw [hn9]
          exact ⟨a9, c9, _, rfl, hR9, HH.out.close' hC9 rfl HOKC.out hA9, hA9, HP.out.far⟩
  · have hno : ∀ f ∈ L, f.key ≠ k0 := fun f hf e => hfound ⟨f, hf, e⟩
    have hpn : putIts C.items (uses + 1) k0 b d = insIt C.items ⟨k0, b, uses + 1, d, []⟩ := by
      unfold putIts
      rw [if_neg (fun hh => by
        obtain ⟨y, hy, e⟩ := hasK_iff.1 hh
        rw [← hi] at hy
        obtain ⟨f, hf, rfl⟩ := List.mem_map.1 hy
        exact hno f hf e)]
    have HI6n : Hid (I6 = insIt (L.map IR.it) ⟨k0, b, uses + 1, d, []⟩) := by rw [Hid, ← hI6n.out, huses.out, hi]; exact hpn
    have HNO := Lib.hid hno
    obtain ⟨aI, cI, rfl, _, _, _⟩ := hc.row.shape ptr_rowed
    have c1 := hc.c1
    have f1 := hc.blk.free 1
    have HCI := Lib.hid hc
    have HNEW := Lib.hid (new_item w k0)
    have hW1 : (w.alloc (.cells #[.int .i64 k0, .slice none 0 0, .int .u64 0, .bool false, .slice none 0 0] 76)).heap.size = w.heap.size + 1 := World.size_alloc _ _
    have HW1 := Lib.hid hW1
    have HTAIL : Hid (∀ (w5 : World) (vI' : Value) (L1 L2 : List IR), CacheIn w5 B room vI' (L1 ++ mkI k0 w.heap.size :: L2) uses → ∀ (w2 : World) (v : Value), Below w5.heap.size w5 w2 → Own w2 w5.heap.size v b.length b →
        (∃ x, w2.cell? ⟨w.heap.size, 1, none⟩ = some x) ∧ w2.frozen? ⟨w.heap.size, 1, none⟩ = false ∧ (w2.setCell ⟨w.heap.size, 1, none⟩ v).cell? ⟨w.heap.size, 3, none⟩ = some (.bool false) ∧ (w2.setCell ⟨w.heap.size, 1, none⟩ v).frozen? ⟨w.heap.size, 3, none⟩ = false ∧
        ((w2.setCell ⟨w.heap.size, 1, none⟩ v).setCell ⟨w.heap.size, 3, none⟩ (.bool d)).cell? ⟨B, 2, none⟩ = some (.int .u64 uses) ∧ ((w2.setCell ⟨w.heap.size, 1, none⟩ v).setCell ⟨w.heap.size, 3, none⟩ (.bool d)).frozen? ⟨B, 2, none⟩ = false ∧
        (((w2.setCell ⟨w.heap.size, 1, none⟩ v).setCell ⟨w.heap.size, 3, none⟩ (.bool d)).setCell ⟨B, 2, none⟩ (.int .u64 U)).cell? ⟨w.heap.size, 2, none⟩ = some (.int .u64 ((0 : Nat) : Int)) ∧ (((w2.setCell ⟨w.heap.size, 1, none⟩ v).setCell ⟨w.heap.size, 3, none⟩ (.bool d)).setCell ⟨B, 2, none⟩ (.int .u64 U)).frozen? ⟨w.heap.size, 2, none⟩ = false ∧
        ∃ S', CacheIn ((((w2.setCell ⟨w.heap.size, 1, none⟩ v).setCell ⟨w.heap.size, 3, none⟩ (.bool d)).setCell ⟨B, 2, none⟩ (.int .u64 U)).setCell ⟨w.heap.size, 2, none⟩ (.int .u64 U)) B room vI' (L1 ++ ⟨⟨k0, b, uses + 1, d, []⟩, w.heap.size, S'⟩ :: L2) (uses + 1) ∧
          Away (ownS B vI' (L1 ++ mkI k0 w.heap.size :: L2)) w5 (ownS B vI' (L1 ++ ⟨⟨k0, b, uses + 1, d, []⟩, w.heap.size, S'⟩ :: L2)) ((((w2.setCell ⟨w.heap.size, 1, none⟩ v).setCell ⟨w.heap.size, 3, none⟩ (.bool d)).setCell ⟨B, 2, none⟩ (.int .u64 U)).setCell ⟨w.heap.size, 2, none⟩ (.int .u64 U))) := Lib.hid (fun w5 vI' L1 L2 h5 w2 v h1 h2 => by
      obtain ⟨vb, vf, hfi⟩ := h5.item (mkI k0 w.heap.size) (by simp)
      obtain ⟨⟨t1, t2⟩, ⟨t3, t4⟩, ⟨t5, t6⟩, ⟨t7, t8⟩, t9⟩ := put_tail (d' := d) h5 hfi h1 h2 hU.out
      exact ⟨⟨_, t1⟩, t2, t3, t4, t5, t6, t7, t8, t9⟩)
    obtain ⟨N0, hN0⟩ := named L.length
    rw [hN0.out] at c1
    have hb16 : Below w.heap.size w (w.alloc (.cells #[.int .i64 k0, .slice none 0 0, .int .u64 0, .bool false, .slice none 0 0] 76)) := (Below.refl _ _).alloc (Nat.le_refl _) _
    have HB16 := Lib.hid hb16
    obtain ⟨G, hG⟩ := named w.heap.size
    clear h hi ho hb hB hc hno hpn hW1 hb16
    go_enter Try.func16, Try.ntmps16
    go_wp2_with (first
      | (go_at_call 33; refine (HPL.out k0).mono ?_; rintro e w1 ⟨⟨k, found, rfl, hP⟩, e1⟩; obtain rfl : w = w1 := e1.symm; obtain rfl := hP.non HNO.out; have hsp := pos_split hP HS.out; have HSP1 := Lib.hid hsp.1; have HSP2 := Lib.hid (hsp.2 rfl); have hkl := hP.le; have hkN : (k : Int) < (N0 : Int) + 1 := (by have := hN0.out; omega); clear hP hsp)
      | (go_at_call 34
         have hq : Blk ((w.alloc (.cells #[.int .i64 k0, .slice none 0 0, .int .u64 0, .bool false, .slice none 0 0] 76)).alloc (.cells #[.pointer (some ⟨w.heap.size, 0, none⟩)] 74)) (w.heap.size + 1) 74 #[.pointer (some ⟨w.heap.size, 0, none⟩)] := (by
          have := Blk.new (w.alloc (.cells #[.int .i64 k0, .slice none 0 0, .int .u64 0, .bool false, .slice none 0 0] 76)) 74 #[.pointer (some ⟨w.heap.size, 0, none⟩)]
          rwa [HW1.out] at this)
         have hrow1 : OwnG ptrV 74 1 ((w.alloc (.cells #[.int .i64 k0, .slice none 0 0, .int .u64 0, .bool false, .slice none 0 0] 76)).alloc (.cells #[.pointer (some ⟨w.heap.size, 0, none⟩)] 74)) 0 (.slice aI N0 cI) N0 L := (by
          have := (HCI.out.row.alloc (.cells #[.int .i64 k0, .slice none 0 0, .int .u64 0, .bool false, .slice none 0 0] 76)).alloc (.cells #[.pointer (some ⟨w.heap.size, 0, none⟩)] 74)
          rwa [hN0.out] at this)
         refine (insert_any hrow1 (by have := hN0.out; omega) k (by have := hN0.out; omega) (mkI k0 w.heap.size) (w.heap.size + 1) hq (fun e => by
          have h1 := (HCI.out.row.1.lt _ (hN0.out ▸ e)).2
          omega)).mono ?_
         rintro e w3 ⟨a', c', rfl, hown4, hg4, hv4⟩
         have HQ := Lib.hid (make_end HCI.out (HB16.out.alloc HB16.out.size (.cells #[.pointer (some ⟨w.heap.size, 0, none⟩)] 74)) ⟨_, _, HNEW.out.frame fun j hj => Below.heap_alloc _ _ j (HNEW.out.lt j hj)⟩ (Nat.le_refl _) (by rw [hN0.out]; exact hown4) (by rw [hN0.out]; exact hg4) (by rw [hN0.out]; exact hv4))
         have hB3 : Blk w3 B 64 #[.int .i64 room, .slice aI N0 cI, .int .u64 uses] := (by
          have h1 := ((HCI.out.blk.alloc (.cells #[.int .i64 k0, .slice none 0 0, .int .u64 0, .bool false, .slice none 0 0] 76)).alloc (.cells #[.pointer (some ⟨w.heap.size, 0, none⟩)] 74)).kept hg4 (fun e => HCI.out.rowB (by rw [hN0.out]; exact e.symm))
          rwa [hN0.out] at h1)
         have c13 : w3.cell? ⟨B, 1, none⟩ = some (.slice aI N0 cI) := (hB3.cell 1).trans rfl
         have f13 := hB3.free 1
         have hlast : (L.take k ++ mkI k0 w.heap.size :: L.drop k)[k]? = some (mkI k0 w.heap.size) := (by
          rw [List.getElem?_append_right (by rw [List.length_take]; omega), List.length_take, Nat.min_eq_left (by omega), Nat.sub_self]
          rfl)
         have c15 : (w3.setCell ⟨B, 1, none⟩ (.slice a' (N0 + 1) c')).cell? ⟨B, 1, none⟩ = some (.slice a' (N0 + 1) c') := HQ.out.1.c1
         obtain ⟨b', rfl⟩ : ∃ b', a' = some ⟨b', 0, none⟩ := (by
          rcases hown4.1.2 with ⟨e, e'⟩ | ⟨g, cap, cur, e, _⟩
          · omega
          · cases e
            exact ⟨_, rfl⟩)
         have hl5 : (L.take k ++ mkI k0 w.heap.size :: L.drop k).length = N0 + 1 := (by have := hown4.2.1; exact this)
         have cptr : (w3.setCell ⟨B, 1, none⟩ (.slice (some ⟨b', 0, none⟩) (N0 + 1) c')).cell? ⟨b', k, none⟩ = some (.pointer (some ⟨w.heap.size, 0, none⟩)) := ptr_cell (by have h1 := HQ.out.1.row; rwa [hl5] at h1) k (mkI k0 w.heap.size) hlast
         clear hB3 hown4 hg4 hv4 hq hlast hrow1)
      | (go_at_call 35; refine (bclone_any _ a n c b (HB.out.away HQ.out.2).1 hnil (by omega)).mono ?_; rintro e w2 ⟨a2, c2, rfl, g1, g2⟩
         obtain ⟨⟨x1, t1⟩, t2, t3, t4, t5, t6, t7, t8, t9⟩ := HTAIL.out _ _ _ _ HQ.out.1 w2 (.slice a2 n c2) g2 (by rw [hlb]; exact g1)
         have T9 := Lib.hid t9
         clear t9 g1 g2)
      | (go_at_call 36; have hadd := add_any _ B uses hu2 t5 t6; rw [hU.out] at hadd; refine hadd.mono ?_; rintro e w3 ⟨rfl, rfl⟩))
    have HITS0 : Hid (∀ (S' : Nat → Prop), (L.take k ++ ⟨⟨k0, b, uses + 1, d, []⟩, w.heap.size, S'⟩ :: L.drop k).map IR.it = I6) := Lib.hid fun S' => by
      rw [HI6n.out, ins_split (k := k) (x := ⟨k0, b, uses + 1, d, []⟩), List.map_append, List.map_cons, List.map_take, List.map_drop]
      · intro y hy
        rw [← List.map_take] at hy
        obtain ⟨f, hf, rfl⟩ := List.mem_map.1 hy
        exact HSP1.out f hf
      · intro y hy
        rw [← List.map_drop] at hy
        obtain ⟨f, hf, rfl⟩ := List.mem_map.1 hy
        exact HSP2.out f hf
    obtain ⟨S6, hS6a, hS6b⟩ := T9.out
    have HEND : Hid (_ ∧ _) := Lib.hid ⟨hS6a, HQ.out.2.trans hS6b⟩
    have HITS := Lib.hid (HITS0.out S6)
    clear hS6a hS6b T9 HTAIL HITS0
    go_loopw [12] (fun s12 wr => ∃ (a : Option Addr) (n c : Nat) (out : List Int) (vI' : Value) (L' : List IR), s12 = .slice a n c ∧ Hid (PutSt w (ownS B (.slice aI L.length cI) L) B room (uses + 1) I6 wr a n c out vI' L')) (fun _ wr => match wr.cell? ⟨B, 1, none⟩ with | some (.slice _ n _) => n | _ => 0)
    case atStart => exact ⟨none, 0, 0, [], _, _, rfl, OwnG.none _ _ _ _ _, HEND.out.1, Or.inl ⟨HITS.out, rfl⟩, HEND.out.2, fun k hk => by cases hk⟩
    case round =>
      obtain ⟨a9, n9, c9, out9, vI9, L9, rfl, HP⟩ := hrel
      clear HEND HITS t1 t2 t3 t4 t5 t6 t7 t8 c15 cptr c13 f13
      obtain ⟨aJ, cJ, rfl, _, _, _⟩ := HP.out.cc.row.shape ptr_rowed
      have d0 := HP.out.cc.c0
      have d1 := HP.out.cc.c1
      obtain ⟨N, hN⟩ := named L9.length
      rw [hN.out] at d1
      by_cases hgt : (room : Int) < (N : Int)
      · have hA : L9.map IR.it = I6 ∧ out9 = [] := by
          rcases HP.out.st with h | ⟨h1, h2, h3⟩
          · exact h
          · exfalso
            have h4 := evict_len HOK6.out (fun e => by rw [e] at h3; simp at h3)
            have h5 : L9.length = (evictL I6).2.length := by rw [← h1, List.length_map]
            have := HLE6.out
            have := hN.out
            omega
        obtain ⟨x9, r9, rfl⟩ : ∃ x r, L9 = x :: r := by
          cases L9 with
          | nil => have := hN.out; simp at this; omega
          | cons x r => exact ⟨x, r, rfl⟩
        obtain ⟨hI9, rfl⟩ := hA
        obtain rfl : n9 = 0 := HP.out.row.2.1.symm
        have HEV : Hid (∀ q, Calls Try.prog 37 #[.pointer (some ⟨B, 0, none⟩)] (wr.drewN q) (EvictQ B room (uses + 1) (.slice aJ (x9 :: r9).length cJ) (x9 :: r9) (wr.drewN q))) := fun q => by
          refine evict_any ⟨HP.out.cc.frame fun _ _ => rfl, rises_of (by rw [hI9]; exact HOK6.out.rise), ?_, by rw [hI9]; exact HOK6.out.closed, fun f hf => ?_⟩
          · have h1 := congrArg List.length hI9
            have := HLE6.out
            rw [List.length_map] at h1
            omega
          · exact HOK6.out.kr f.it (by rw [← hI9]; exact List.mem_map.2 ⟨f, hf, rfl⟩)
        unfold EvictQ at HEV
        rw [hI9] at HEV
        have HI9 := Lib.hid hI9
        obtain ⟨ev, hev⟩ := named (evictL I6).1
        rw [hev.out] at HEV
        obtain ⟨m9, hm9⟩ := named ev.length
        rw [hm9.out] at HEV
        have hm9b : m9 ≤ 100000 := by
          rw [← hm9.out, ← hev.out]
          have := evict_short HOK6.out
          have := HLE6.out
          omega
        have hI6 : room < I6.length := by
          rw [← hI9, List.length_map]
          have := hN.out
          omega
        have HI6 := Lib.hid hI6
        clear hI9 hI6
        go_wp2_with fail
        go_quiet (fail)
        go_wp2_with (first
          | (go_at_call 37; refine (HEV.out _).mono ?_; rintro e w7 ⟨a7, c7, vI7, L7, rfl, p1, p2, p3, p4, p5⟩; have P1 := Lib.hid p1; have P2 := Lib.hid p2; have P3 := Lib.hid p3; have P4 := Lib.hid p4; have P5 := Lib.hid p5
             have HROW7 : Hid (OwnG ivV 3 1 w7 w.heap.size (.slice a9 0 c9) 0 []) := Lib.hid (HP.out.row.frame fun j hj => p4.block j (HP.out.row.1.lt j hj).2 (HP.out.far j hj))
             clear p1 p2 p3 p4 p5)
          | (at_builtin; refine wpList_append_lg iv_rowed rfl (.tmp 75) (.tmp 77) rfl w.heap.size (.slice a9 0 c9) 0 [] rfl HROW7.out a7 m9 c7 ev rfl (P1.out.reads iv_rowed).2.1 (P1.out.reads iv_rowed).1 (by omega) (by have := HP.out.away.size; have h2 : (wr.drewN nq).heap.size ≤ w7.heap.size := P4.out.size; exact Nat.le_trans this h2) ?_; intro a8 c8 w8 g1 g2 g3
             have HG1 := Lib.hid g1; have HG2 := Lib.hid g2; have HG3 := Lib.hid g3; clear g1 g2 g3))
        have hfar8 : ∀ j, (Value.slice a9 0 c9).ownBlock = some j → ¬ ownS B vI7 L7 j := fun j hj => P4.out.far (B := j) (HP.out.row.1.lt j hj).2 (HP.out.far j hj)
        have hc8 : CacheIn w8 B room vI7 L7 (uses + 1) := P2.out.frame fun j hj => HG2.out.block j (P2.out.ltS hj) fun e => hfar8 j e.symm hj
        have h8 : PutSt w (ownS B (.slice aI L.length cI) L) B room (uses + 1) I6 w8 a8 m9 c8 ev vI7 L7 := by
          refine ⟨?_, hc8, Or.inr ⟨P3.out, hev.out.symm, HI6.out⟩, ?_, fun j hj hS => ?_⟩
          · have := HG1.out
            rwa [Nat.zero_add, List.nil_append] at this
          · refine ((HP.out.away.trans (Away.of_below (below_drewN (Below.refl _ _) _))).trans P4.out).grown' HG2.out fun j hj => ?_
            exact Or.inr (HP.out.row.1.lt j hj).1
          · rcases HG3.out with e | e
            · rw [Nat.zero_add] at e
              exact hfar8 j (e ▸ hj) hS
            · rw [Nat.zero_add, hj] at e
              cases e
              have := P2.out.ltS hS
              omega
        have hlen7 : L7.length < N := by
          have h4 := evict_len HOK6.out (fun e => by have := HI6.out; rw [e] at this; simp at this)
          have h5 : L7.length = (evictL I6).2.length := by rw [← P3.out, List.length_map]
          have h6 : (x9 :: r9).length = I6.length := by rw [← HI9.out, List.length_map]
          have := hN.out
          omega
        have d18 := hc8.c1
        obtain ⟨aK, cK, hvK, _, _, _⟩ := hc8.row.shape ptr_rowed
        have H8 := Lib.hid h8
        have HL7 := Lib.hid hlen7
        clear hc8 h8 hfar8 hlen7
        go_roundw
        case rel => exact ⟨a8, m9, c8, ev, vI7, L7, rfl, H8.out⟩
        case measure =>
          rw [d1, d18, hvK]
          exact HL7.out
      · go_wp2_with fail
        go_quiet (fail)
        go_wp2
        go_ret
        have hn9 : out9.length = n9 := HP.out.row.2.1
        have hC9 : CacheIn (wr.drewN nq) B room (.slice aJ L9.length cJ) L9 (uses + 1) := HP.out.cc.frame fun _ _ => rfl
        have hA9 : Away (ownS B (.slice aI L.length cI) L) w (ownS B (.slice aJ L9.length cJ) L9) (wr.drewN nq) := HP.out.away.trans (Away.of_below (below_drewN (Below.refl _ _) _))
        have hR9 : OwnG ivV 3 1 (wr.drewN nq) w.heap.size (.slice a9 n9 c9) n9 out9 := HP.out.row.frame fun _ _ => rfl
        have hput : C.put k0 b d = (out9, ⟨room, uses + 1, L9.map IR.it⟩) := by
          have h6 := HPUT.out
          unfold Lru.put
          dsimp only
          rw [h6]
          rcases HP.out.st with ⟨h1, h2⟩ | ⟨h1, h2, h3⟩
          · rw [if_neg (by
              have h4 := congrArg List.length h1
              rw [List.length_map] at h4
              have := hN.out
              have := HRU.out.1
              omega), h1, h2, HRU.out.1, HRU.out.2]
          · rw [if_pos (by rw [HRU.out.1]; exact h3), h1, h2, HRU.out.1, HRU.out.2]
        unfold GivesL
        rw [hput] at HOKC ⊢
        dsimp only at HOKC ⊢
        rw [hn9]
        exact ⟨a9, c9, _, rfl, hR9, HH.out.close' hC9 rfl HOKC.out hA9, hA9, HP.out.far⟩
end Go.Proofs.Ythmkmhfoicfapaa
