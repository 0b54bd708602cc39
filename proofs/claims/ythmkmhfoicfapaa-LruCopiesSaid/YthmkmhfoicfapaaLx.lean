/-
  What a cache's own Copy answers (package lru). Conditions: the cache as it lies.
-/
import Derived.Test.YthmkmhfoicfapaaLs
import Derived.Deep.RegionHeld3
import Derived.Deep.QuietTactic
namespace Go.Proofs.Ythmkmhfoicfapaa
open Go.RowKit Go.Maps
set_option linter.unusedVariables false

/-- An item that stays. -/
def Kept1 (w : World) (f : IR) (vb vf : Value) (w' : World) : Prop := ItemIn w' f vb vf ∧ Below w.heap.size w w'
theorem Kept1.later {w w1 w2 : World} {f : IR} {vb vf : Value} (h : Kept1 w f vb vf w1) (hb : Below w1.heap.size w1 w2) : Kept1 w f vb vf w2 := ⟨h.1.away hb, Below.weak h.2 hb⟩
theorem Kept1.drew {w w1 : World} {f : IR} {vb vf : Value} (h : Kept1 w f vb vf w1) : Kept1 w f vb vf w1.drew := h.later (Below.refl _ _).drew
theorem Kept1.all {w w' : World} {f : IR} {vb vf : Value} {K : Int} {U : Int} {D : Bool} {G : Nat} (hg : f.G = G) (hk : f.it.key = K) (hu : (f.it.used : Int) = U) (hd : f.it.dirty = D) (h : Kept1 w f vb vf w') :
    w'.cell? ⟨G, 0, none⟩ = some (.int .i64 K) ∧ w'.cell? ⟨G, 1, none⟩ = some vb ∧ w'.cell? ⟨G, 2, none⟩ = some (.int .u64 U) ∧ w'.cell? ⟨G, 3, none⟩ = some (.bool D) ∧ w'.cell? ⟨G, 4, none⟩ = some vf ∧ Kept1 w f vb vf w' := by
  subst hg; subst hk; subst hu; subst hd
  exact ⟨(h.1.blk.cell 0).trans rfl, (h.1.blk.cell 1).trans rfl, (h.1.blk.cell 2).trans rfl, (h.1.blk.cell 3).trans rfl, (h.1.blk.cell 4).trans rfl, h⟩
theorem kb_any {w wr : World} {f : IR} {vf : Value} {a : Option Addr} {n c : Nat} (h : Kept1 w f (.slice a n c) vf wr) (hn : f.it.bs.length ≤ 1000) :
    Calls Try.prog 35 #[.slice a n c] wr fun e w' => ∃ a' c', e = .returned (.slice a' n c') ∧ Own w' w.heap.size (.slice a' n c') n f.it.bs ∧ Kept1 w f (.slice a n c) vf w' := by
  obtain ⟨a2, c2, e, h1, h2⟩ := h.1.bs.shape
  cases e
  refine (bclone_any wr a _ c f.it.bs h1 h2 (by omega)).mono ?_
  rintro e w' ⟨a', c', rfl, g1, g2⟩
  exact ⟨a', c', rfl, g1.rebase h.2.size, h.later g2⟩
theorem kf_any {w wr : World} {f : IR} {vb : Value} {a : Option Addr} {n c : Nat} (h : Kept1 w f vb (.slice a n c) wr) (hn : f.it.firsts.length ≤ 1000000) :
    Calls Try.prog 67 #[.slice a n c] wr fun e w' => ∃ a' c', e = .returned (.slice a' n c') ∧ OwnG ivV 3 1 w' w.heap.size (.slice a' n c') n f.it.firsts ∧ Kept1 w f vb (.slice a n c) w' ∧ Below wr.heap.size wr w' := by
  obtain ⟨a2, c2, e, h1, h2, _⟩ := h.1.fs.shape iv_rowed
  cases e
  refine (iclone_any wr a _ c f.it.firsts h1 h2 (by omega)).mono ?_
  rintro e w' ⟨a', c', rfl, g1, g2⟩
  exact ⟨a', c', rfl, g1.rebase h.2.size, h.later g2, g2⟩
theorem kb6 {A B' C D E : Prop} {w wr : World} {f : IR} {vf : Value} {a : Option Addr} {n c : Nat} (h : A ∧ B' ∧ C ∧ D ∧ E ∧ Kept1 w f (.slice a n c) vf wr) (hn : f.it.bs.length ≤ 1000) :
    Calls Try.prog 35 #[.slice a n c] wr fun e w' => ∃ a' c', e = .returned (.slice a' n c') ∧ Own w' w.heap.size (.slice a' n c') n f.it.bs ∧ Kept1 w f (.slice a n c) vf w' := kb_any h.2.2.2.2.2 hn
theorem kf6 {A B' C D E : Prop} {w wr : World} {f : IR} {vb : Value} {a : Option Addr} {n c : Nat} (h : A ∧ B' ∧ C ∧ D ∧ E ∧ Kept1 w f vb (.slice a n c) wr) (hn : f.it.firsts.length ≤ 1000000) :
    Calls Try.prog 67 #[.slice a n c] wr fun e w' => ∃ a' c', e = .returned (.slice a' n c') ∧ OwnG ivV 3 1 w' w.heap.size (.slice a' n c') n f.it.firsts ∧ Kept1 w f vb (.slice a n c) w' ∧ Below wr.heap.size wr w' := kf_any h.2.2.2.2.2 hn
def ItemQ (w : World) (f : IR) (e : Ending) (w' : World) : Prop := ∃ (G : Nat) (S : Nat → Prop), e = .returned (.pointer (some ⟨G, 0, none⟩)) ∧ ItemAt w' ⟨f.it, G, S⟩ ∧ (∀ k, S k → w.heap.size ≤ k) ∧ Below w.heap.size w w'
set_option maxRecDepth 100000 in
set_option maxHeartbeats 1000000 in
theorem icopy_any {w : World} {f : IR} (hi : ItemAt w f) (hb : f.it.bs.length ≤ 1000) (hl : f.it.firsts.length ≤ 1000000) : Calls Try.prog 45 #[.pointer (some ⟨f.G, 0, none⟩)] w (ItemQ w f) := by
  obtain ⟨vb, vf, hi⟩ := hi
  obtain ⟨ab, cb, rfl, _, _⟩ := hi.bs.shape
  obtain ⟨af, cf, rfl, _, _, _⟩ := hi.fs.shape iv_rowed
  have hK : Kept1 w f (.slice ab f.it.bs.length cb) (.slice af f.it.firsts.length cf) w := ⟨hi, Below.refl _ _⟩
  obtain ⟨G, hG⟩ := named f.G
  obtain ⟨K, hKn⟩ := named f.it.key
  obtain ⟨U, hU⟩ := named (f.it.used : Int)
  obtain ⟨D, hD⟩ := named f.it.dirty
  obtain ⟨n, hn⟩ := named f.it.bs.length
  obtain ⟨m, hm⟩ := named f.it.firsts.length
  rw [hn.out, hm.out] at hK
  rw [hG.out]
  clear hi
  go_enter Try.func45, Try.ntmps45
  go_wp2_with fail
  go_region_held3 (fun w' => w'.cell? ⟨G, 0, none⟩ = some (.int .i64 K) ∧ w'.cell? ⟨G, 1, none⟩ = some (.slice ab n cb) ∧ w'.cell? ⟨G, 2, none⟩ = some (.int .u64 U) ∧ w'.cell? ⟨G, 3, none⟩ = some (.bool D) ∧ w'.cell? ⟨G, 4, none⟩ = some (.slice af m cf) ∧ Kept1 w f (.slice ab n cb) (.slice af m cf) w') (first | exact Kept1.all hG.out hKn.out hU.out hD.out (by assumption) | exact Kept1.all hG.out hKn.out hU.out hD.out (Kept1.drew (by assumption)) | exact Kept1.all hG.out hKn.out hU.out hD.out (Kept1.later (by assumption) ((Below.refl _ _).alloc (Nat.le_refl _) _)))
    (first
      | (go_at_call 35; refine (kb6 (by assumption) hb).mono ?_; rintro e w1 ⟨a1, c1, rfl, g1, k1⟩; have G1 := Lib.hid g1; clear g1)
      | (go_at_call 67; refine (kf6 (by assumption) hl).mono ?_; rintro e w2 ⟨a2, c2, rfl, g2, k2, b2⟩; have G2 := Lib.hid g2; have HB12 := Lib.hid b2; clear g2 b2))
  go_wp2
  go_ret
  have hs1 : w2.heap.size < (w2.alloc (.cells #[.int .i64 K, .slice a1 n c1, .int .u64 U, .bool D, .slice a2 m c2] 76)).heap.size := by rw [World.size_alloc]; omega
  have G1b : Own w2 w.heap.size (.slice a1 n c1) n f.it.bs := G1.out.frame fun j hj => HB12.out.block j (G1.out.1.lt j hj).2
  refine ⟨w2.heap.size, fun k => k = w2.heap.size ∨ (Value.slice a1 n c1).ownBlock = some k ∨ (Value.slice a2 m c2).ownBlock = some k, rfl, ⟨.slice a1 n c1, .slice a2 m c2, ?_, ?_, ?_, fun _ => Iff.rfl⟩, fun k hk => ?_, (k2.2).alloc k2.2.size _⟩
  · have := Blk.new w2 76 #[.int .i64 K, .slice a1 n c1, .int .u64 U, .bool D, .slice a2 m c2]
    show Blk _ w2.heap.size 76 #[.int .i64 f.it.key, .slice a1 n c1, .int .u64 f.it.used, .bool f.it.dirty, .slice a2 m c2]
    rw [hKn.out, hU.out, hD.out]
    exact this
  · show Own _ 0 _ f.it.bs.length f.it.bs
    rw [hn.out]
    exact (G1b.alloc _).rebase (Nat.zero_le _)
  · show OwnG ivV 3 1 _ 0 _ f.it.firsts.length f.it.firsts
    rw [hm.out]
    exact (G2.out.alloc _).rebase (Nat.zero_le _)
  · rcases hk with rfl | hk | hk
    · exact k2.2.size
    · exact (G1.out.1.lt k hk).1
    · exact (G2.out.1.lt k hk).1

theorem run_store64 (w : World) (a : Addr) (x y : Int) (hc : w.cell? a = some (.int .u64 y)) (hz : w.frozen? a = false) : (callFunc 65 #[.pointer (some a), .int .u64 x]).run Try.prog w = .ok (.value (.tuple #[])) (w.setCell a (.int .u64 x)) :=
  run_call_store Try.func65 (by kernel_rfl) (by kernel_rfl) (by kernel_rfl) (by kernel_rfl) hc hz
theorem store_any (w : World) (B : Nat) (x y : Int) (hc : w.cell? ⟨B, 2, none⟩ = some (.int .u64 y)) (hz : w.frozen? ⟨B, 2, none⟩ = false) :
    Calls Try.prog 43 #[.pointer (some ⟨B, 2, none⟩), .int .u64 x] w fun e w' => e = .returned (.tuple #[]) ∧ w' = w.setCell ⟨B, 2, none⟩ (.int .u64 x) := by
  have hl := run_store64 w ⟨B, 2, none⟩ x y hc hz
  go_enter Try.func43, Try.ntmps43
  go_wp2
  go_end0
  exact ⟨rfl, rfl⟩
structure Copying (w : World) (B2 room uses : Nat) (its : List It) (j : Nat) (wr : World) (v2 : Value) (L2 : List IR) : Prop where
  c : CacheIn wr B2 room v2 L2 uses
  its : L2.map IR.it = its.take j
  below : Below w.heap.size w wr
  low : ∀ k, ownS B2 v2 L2 k → w.heap.size ≤ k
theorem app_end {w wr w7 w10 : World} {B2 room uses j : Nat} {its : List It} {v2 : Value} {L2 : List IR} {G7 : Nat} {S7 : Nat → Prop} {a8 : Option Addr} {c8 : Nat} {f : IR} (h : Copying w B2 room uses its j wr v2 L2) (hj : its[j]? = some f.it) (hI : ItemAt w7 ⟨f.it, G7, S7⟩) (hS : ∀ k, S7 k → wr.heap.size ≤ k) (hB : Below wr.heap.size wr w7)
    (hrow : OwnG ptrV 74 1 w10 0 (.slice a8 (L2.length + 1) c8) (L2.length + 1) (L2 ++ [⟨f.it, G7, S7⟩])) (hg : (w7.alloc (.cells #[.pointer (some ⟨G7, 0, none⟩)] 74)).grownBy w10 v2.ownBlock)
    (hv : (Value.slice a8 (L2.length + 1) c8).ownBlock = v2.ownBlock ∨ (Value.slice a8 (L2.length + 1) c8).ownBlock = some (w7.alloc (.cells #[.pointer (some ⟨G7, 0, none⟩)] 74)).heap.size) :
    Copying w B2 room uses its (j + 1) (w10.setCell ⟨B2, 1, none⟩ (.slice a8 (L2.length + 1) c8)) (.slice a8 (L2.length + 1) c8) (L2 ++ [⟨f.it, G7, S7⟩]) := by
  obtain ⟨x, hx⟩ : ∃ x : IR, x = ⟨f.it, G7, S7⟩ := ⟨_, rfl⟩
  rw [← hx] at hI hrow ⊢
  have hxS : ∀ k, x.S k → wr.heap.size ≤ k := by rw [hx]; exact hS
  have hxit : x.it = f.it := by rw [hx]
  obtain ⟨w9, hw9⟩ : ∃ w9, w7.alloc (.cells #[.pointer (some ⟨G7, 0, none⟩)] 74) = w9 := ⟨_, rfl⟩
  have hA : Below wr.heap.size wr w9 := by rw [← hw9]; exact hB.alloc hB.size _
  have hI9 : ItemAt w9 x := by rw [← hw9]; exact hI.frame fun k hk => Below.heap_alloc _ _ k (hI.lt k hk)
  have hs79 : w7.heap.size ≤ w9.heap.size := by rw [← hw9, World.size_alloc]; omega
  have hxl : ∀ k, x.S k → k < w7.heap.size := hI.lt
  rw [hw9] at hg hv
  have hc := h.c
  have hBw := hc.blk.lt
  have hs := hA.size
  have hown : ∀ k, v2.ownBlock = some k → k < wr.heap.size := fun k hk => (hc.row.1.lt k hk).2
  have hlen : (L2 ++ [x]).length = L2.length + 1 := by simp
  have hv' : ∀ k, (Value.slice a8 (L2.length + 1) c8).ownBlock = some k → v2.ownBlock = some k ∨ w9.heap.size ≤ k := fun k hk => by
    rcases hv with e | e
    · exact Or.inl (e ▸ hk)
    · rw [e] at hk
      cases hk
      exact Or.inr (Nat.le_refl _)
  obtain ⟨v', hvn⟩ : ∃ v', Value.slice a8 (L2.length + 1) c8 = v' := ⟨_, rfl⟩
  rw [hvn] at hv' hrow ⊢
  have hv2 : ∀ k, v'.ownBlock = some k → k ≠ B2 := fun k hk e => by
    subst e
    rcases hv' k hk with h1 | h1
    · exact hc.rowB h1
    · omega
  have hap : (L2 ++ [x]).Pairwise fun f g => ∀ k, f.S k → ¬ g.S k := by
    rw [List.pairwise_append]
    refine ⟨hc.apart, List.pairwise_singleton _ _, fun g hg g' hg' k hk hk' => ?_⟩
    simp only [List.mem_singleton] at hg'
    rw [hg'] at hk'
    have h1 := (hc.item g hg).lt k hk
    have h2 := hxS k hk'
    omega
  have hblk : ∀ j, j < w9.heap.size → v2.ownBlock ≠ some j → j ≠ B2 → (w10.setCell ⟨B2, 1, none⟩ v').heap[j]? = w9.heap[j]? := fun j h1 h2 h3 => by
    rw [Below.heap_setCell w10 ⟨B2, 1, none⟩ v' j h3]
    exact hg.block j h1 (fun e => h2 e.symm)
  have hB4 : Blk w10 B2 64 #[.int .i64 room, v2, .int .u64 uses] := (hc.blk.later hA).kept hg (fun e => hc.rowB e.symm)
  have ha : Away (ownS B2 v2 L2) wr (ownS B2 v2 L2) (w10.setCell ⟨B2, 1, none⟩ v') := Away.set (S := ownS B2 v2 L2) (Away.grown (Away.of_below (S := ownS B2 v2 L2) hA) hg (fun j hj => Or.inl (Or.inr (Or.inl hj)))) (ownS_B B2 v2 L2) 1 v'
  obtain ⟨q1, q2⟩ := cache_rows (L' := L2 ++ [x]) (vF' := v') (room' := room) (uses' := uses) hc (fun g hg' => by
    rcases List.mem_append.1 hg' with h1 | h1
    · exact Or.inl h1
    · simp only [List.mem_singleton] at h1
      rw [h1]
      refine Or.inr ⟨hI9.frame fun j hj => hblk j (by have := hxl j hj; omega) (fun e => by have := hown j e; have := hxS j hj; omega) (fun e => by have := hxS j hj; omega), fun j hj => ⟨hxS j hj, fun e => ?_⟩⟩
      rcases hv' j e with h2 | h2
      · have := hown j h2; have := hxS j hj; omega
      · have := hxl j hj; omega) hap (fun g hg' j hj => by
    have hj1 := (hc.item g hg').lt j hj
    rw [hblk j (by omega) (fun e => (hc.out g hg').2 j e hj) (fun e => (hc.out g hg').1 (e ▸ hj))]
    exact hA.block j hj1) ha (hB4.set 1 v') (by
    rw [hlen]
    exact hrow.frame fun j hj => Below.heap_setCell w10 ⟨B2, 1, none⟩ v' j (hv2 j hj)) (fun j hj => by
    rcases hv' j hj with h1 | h1
    · exact Or.inl h1
    · exact Or.inr (by omega))
  have hb1 : ∀ k, k < w.heap.size → ¬ ownS B2 v2 L2 k := fun k hk hS => by have := h.low k hS; omega
  refine ⟨q1, ?_, ⟨q2.os.trans h.below.os, q2.tape.trans h.below.tape, q2.output.trans h.below.output, Nat.le_trans h.below.size q2.size, fun k hk => (q2.block k (Nat.lt_of_lt_of_le hk h.below.size) (hb1 k hk)).trans (h.below.block k hk)⟩, fun k hk => ?_⟩
  · rw [List.map_append, h.its, List.take_add_one, hj]
    simp [hxit]
  · rcases q2.mine k hk with h1 | h1
    · exact h.low k h1
    · exact Nat.le_trans h.below.size h1
def CopyQ (w : World) (C : Lru) (e : Ending) (w' : World) : Prop := ∃ (p : Addr) (S : Nat → Prop), e = .returned (.pointer (some p)) ∧ CacheAt w' p C S ∧ (∀ k, S k → w.heap.size ≤ k) ∧ Below w.heap.size w w'
set_option maxRecDepth 100000 in
set_option maxHeartbeats 2000000 in
theorem copy_any {w : World} {p : Addr} {C : Lru} {S : Nat → Prop} (h : CacheAt w p C S) : Calls Try.prog 23 #[.pointer (some p)] w (CopyQ w C) := by
  obtain ⟨B, vI, L, rfl, hc, hi, ho, rfl⟩ := h
  have hbs : ∀ f ∈ L, f.it.bs.length ≤ 1000 ∧ f.it.firsts.length ≤ 1000000 := fun f hf => by
    have hm : f.it ∈ C.items := by rw [← hi]; exact List.mem_map.2 ⟨f, hf, rfl⟩
    refine ⟨ho.its.bsl _ hm, ?_⟩
    have h2 := ho.its.nodup _ hm
    have h3 : f.it.firsts ⊆ (C.items.map It.key) := fun z hz => by
      obtain ⟨q, hq, e⟩ := ho.its.firsts_key hm hz
      exact List.mem_map.2 ⟨q, hq, e⟩
    have h4 := nodup_le _ _ h2 h3
    rw [List.length_map] at h4
    have := ho.many
    have := ho.room2
    omega
  have HBS := Lib.hid hbs
  have HCI := Lib.hid hc
  have HI := Lib.hid hi
  have HO := Lib.hid ho
  have hll : L.length ≤ 1024 := by
    have h1 := ho.many
    have h2 := ho.room2
    rw [← hi, List.length_map] at h1
    omega
  unfold CopyQ
  obtain ⟨aI, cI, rfl, _, _, _⟩ := hc.row.shape ptr_rowed
  have c0 := hc.c0
  obtain ⟨room, hroom⟩ := named C.room
  obtain ⟨uses, huses⟩ := named C.uses
  rw [hroom.out] at c0
  rw [hroom.out, huses.out] at HCI
  obtain ⟨n, hN⟩ := named L.length
  rw [hN.out] at HCI hll
  clear hbs hc hi ho
  go_enter Try.func23, Try.ntmps23
  go_wp2_with fail
  have HB0 := Lib.hid (Blk.new w 64 #[.int .i64 room, .slice none 0 0, .int .u64 0])
  have hBlt := HCI.out.blk.lt
  have hBne : B ≠ w.heap.size := by omega
  have e2 : w.cell? ⟨B, 2, none⟩ = some (.int .u64 uses) := HCI.out.c2
  have e2a : (w.alloc (.cells #[.int .i64 room, .slice none 0 0, .int .u64 0] 64)).cell? ⟨B, 2, none⟩ = some (.int .u64 uses) := ((HCI.out.blk.alloc _).cell 2).trans rfl
  have e2b : (w.alloc (.cells #[.int .i64 room, .slice none 0 0, .int .u64 0] 64)).drew.cell? ⟨w.heap.size, 2, none⟩ = some (.int .u64 0) := (HB0.out.cell 2).trans rfl
  have f2b : (w.alloc (.cells #[.int .i64 room, .slice none 0 0, .int .u64 0] 64)).drew.frozen? ⟨w.heap.size, 2, none⟩ = false := HB0.out.free 2
  have e2c : (w.alloc (.cells #[.int .i64 room, .slice none 0 0, .int .u64 uses] 64)).drew.cell? ⟨B, 2, none⟩ = some (.int .u64 uses) := ((HCI.out.blk.alloc (.cells #[.int .i64 room, .slice none 0 0, .int .u64 uses] 64)).cell 2).trans rfl
  have e2d : (w.alloc (.cells #[.int .i64 room, .slice none 0 0, .int .u64 0] 64)).drew.cell? ⟨B, 2, none⟩ = some (.int .u64 uses) := e2a
  go_region_held3 (fun w' => w'.cell? ⟨B, 2, none⟩ = some (.int .u64 uses)) (first | exact e2a | exact e2d | exact e2c)
    (first
      | (go_at_call 44; refine (load_any _ B uses e2d).mono ?_; rintro e w3 ⟨rfl, rfl⟩)
      | (go_at_call 43; refine (store_any _ w.heap.size uses 0 e2b f2b).mono ?_; rintro e w3 ⟨rfl, rfl⟩))
  have HCP0 : Hid (Copying w w.heap.size room uses C.items 0 (w.alloc (.cells #[.int .i64 room, .slice none 0 0, .int .u64 uses] 64)).drew (.slice none 0 0) []) := by
    refine ⟨⟨Blk.new w _ _, OwnG.none _ _ _ _ _, fun f hf => (by cases hf), List.Pairwise.nil, fun f hf => (by cases hf)⟩, by simp, ((Below.refl _ _).alloc (Nat.le_refl _) _).drew, fun k hk => ?_⟩
    rcases hk with rfl | hk | ⟨g, hg, _⟩
    · exact Nat.le_refl _
    · cases hk
    · cases hg
  have d1w : (w.alloc (.cells #[.int .i64 room, .slice none 0 0, .int .u64 uses] 64)).drew.cell? ⟨B, 1, none⟩ = some (.slice aI n cI) := ((HCI.out.blk.alloc (.cells #[.int .i64 room, .slice none 0 0, .int .u64 uses] 64)).cell 1).trans rfl
  obtain ⟨B2, hB2⟩ := named w.heap.size
  go_wp2_with fail
  go_loopw [27] (fun s27 wr => ∃ (j : Nat) (a2 : Option Addr) (n2 c2 : Nat) (L2 : List IR), j ≤ n ∧ s27 = .int .i64 j ∧ Hid (Copying w w.heap.size room uses C.items j wr (.slice a2 n2 c2) L2)) (fun s27 _ => n - (intOf s27).toNat)
  case atStart => exact ⟨0, none, 0, 0, [], Nat.zero_le _, rfl, HCP0.out⟩
  case round =>
    obtain ⟨j, a2, n2, c2, L2, hj, rfl, HCP⟩ := hrel
    clear HCP0
    have hn2' : L2.length = n2 := by
      obtain ⟨_, _, e, _, _, _⟩ := HCP.out.c.row.shape ptr_rowed
      cases e
      rfl
    have hn2 := Lib.hid hn2'
    have HCW : Hid (CacheIn wr B room (.slice aI n cI) L uses) := Lib.hid (HCI.out.later HCP.out.below)
    by_cases hlt : j < n
    · obtain ⟨f, hf⟩ : ∃ f, L[j]? = some f := ⟨_, List.getElem?_eq_getElem (by have := hN.out; omega)⟩
      have HJ : Hid (C.items[j]? = some f.it) := by rw [Hid, ← HI.out, List.getElem?_map, hf]; rfl
      obtain ⟨b, rfl⟩ : ∃ b, aI = some ⟨b, 0, none⟩ := by
        rcases HCI.out.row.1.2 with ⟨e, e'⟩ | ⟨g, cap, cur, e, _⟩
        · have := hN.out
          omega
        · cases e
          exact ⟨_, rfl⟩
      have hfm := List.mem_of_getElem? hf
      have cj := ptr_cell (by have h1 := HCW.out.row; rw [hN.out] at h1; exact h1) j f hf
      have HCOPY : Hid (Calls Try.prog 45 #[.pointer (some ⟨f.G, 0, none⟩)] wr.drew (ItemQ wr.drew f)) := icopy_any ((HCW.out.item f hfm).frame fun _ _ => rfl) (HBS.out f hfm).1 (HBS.out f hfm).2
      have HCD : Hid (Copying w w.heap.size room uses C.items j wr.drew (.slice a2 n2 c2) L2) := ⟨HCP.out.c.frame fun _ _ => rfl, HCP.out.its, HCP.out.below.drew, HCP.out.low⟩
      have d4d : wr.drew.cell? ⟨w.heap.size, 1, none⟩ = some (.slice a2 n2 c2) := HCP.out.c.c1
      have d4 : wr.cell? ⟨w.heap.size, 1, none⟩ = some (.slice a2 n2 c2) := HCP.out.c.c1
      have hn2b : n2 ≤ 2000 := by
        have h1 := congrArg List.length HCP.out.its
        rw [List.length_map, List.length_take] at h1
        omega
      unfold ItemQ at HCOPY
      clear hf hn2' hfm
      go_wp2_with fail
      refine wp_region_held_drew (S := fun w' => True) (by kernel_rfl) (trivial) (fun hHeld => ?_)
      refine wpAnyH_take (i := 0) (oi := _) (v := ?vz7) rfl (by kernel_rfl) (by kernel_rfl) (by kernel_rfl) (fun _ _ _ h => h) (Or.inl ⟨by rfl, ?hyz7⟩) (by assumption) ?restz7
      case hyz7 => (intro wz hSw; (try dsimp only at hSw); go_simp; try with_reducible rfl)
      (try simp only [List.getElem_toArray, List.getElem_cons_zero, Act.put, List.setIfInBounds_toArray, List.set_cons_zero, List.set_cons_succ])
      refine wpAnyH_take (i := 1) (oi := _) (v := ?vz8) rfl (by kernel_rfl) (by kernel_rfl) (by kernel_rfl) (fun _ _ _ h => h) (Or.inl ⟨by rfl, ?hyz8⟩) (by assumption) ?restz8
      case hyz8 => (intro wz hSw; (try dsimp only at hSw); go_simp; try with_reducible rfl)
      (try simp only [List.getElem_toArray, List.getElem_cons_zero, List.getElem_cons_succ, Act.put, List.setIfInBounds_toArray, List.set_cons_zero, List.set_cons_succ])
      refine wpAnyH_take (i := 2) (oi := _) (v := ?vz9) rfl (by kernel_rfl) (by kernel_rfl) (by kernel_rfl) (fun _ _ _ h => h) (Or.inl ⟨by rfl, ?hyz9⟩) (by assumption) ?restz9
      case hyz9 => (intro wz hSw; (try dsimp only at hSw); go_simp; try with_reducible rfl)
      (try simp only [List.getElem_toArray, List.getElem_cons_zero, List.getElem_cons_succ, Act.put, List.setIfInBounds_toArray, List.set_cons_zero, List.set_cons_succ])
      refine wpAnyH_take (i := 3) (oi := _) (v := ?vz10) rfl (by kernel_rfl) (by kernel_rfl) (by kernel_rfl) (fun _ _ _ h => h) (Or.inl ⟨by rfl, ?hyz10⟩) (by assumption) ?restz10
      case hyz10 => (intro wz hSw; (try dsimp only at hSw); go_simp; try with_reducible rfl)
      (try simp only [List.getElem_toArray, List.getElem_cons_zero, List.getElem_cons_succ, Act.put, List.setIfInBounds_toArray, List.set_cons_zero, List.set_cons_succ])
      refine wpAnyH_take (i := 5) (oi := _) (v := ?vz11) rfl (by kernel_rfl) (by kernel_rfl) (by kernel_rfl) (fun _ _ _ h => h) (Or.inl ⟨by rfl, ?hyz11⟩) (by assumption) ?restz11
      case hyz11 => (intro wz hSw; (try dsimp only at hSw); go_simp; try with_reducible rfl)
      (try simp only [List.getElem_toArray, List.getElem_cons_zero, List.getElem_cons_succ, Act.put, List.setIfInBounds_toArray, List.set_cons_zero, List.set_cons_succ])
      refine wpAnyH_ready (rs := [4, 6]) (by kernel_rfl) (by simp) ?_
      refine AllReadyH.cons (o := _) rfl (fun K hK => ?_) (AllReadyH.cons (o := _) rfl (fun K hK => ?_) AllReadyH.nil)
      · rw [if_pos (by rfl)]
        go_simp
        refine hK.out _ _ (trivial) (fun hHeld => ?_)
        clear hK K
        (try simp only [List.getElem_toArray, List.getElem_cons_zero, List.getElem_cons_succ, Act.put, List.setIfInBounds_toArray, List.set_cons_zero, List.set_cons_succ])
        refine wpAnyH_ready (rs := [6]) (by kernel_rfl) (by simp) ?_
        refine AllReadyH.cons (o := _) rfl (fun K hK => ?_) AllReadyH.nil
        rw [if_pos (by rfl)]
        go_simp
        (go_at_call 45; refine (HCOPY.out).mono ?_; rintro e w7 ⟨G7, S7, rfl, g1, g2, g3⟩; have I7 := Lib.hid g1; have L7 := Lib.hid g2; have B7 := Lib.hid g3; have d7 : w7.cell? ⟨w.heap.size, 1, none⟩ = some (.slice a2 n2 c2) := (by exact (HCD.out.c.later g3).c1); clear g1 g2 g3)
        (try dsimp only)
        refine hK.out _ _ (trivial) (fun hHeld => ?_)
        clear hK K
        (try simp only [List.getElem_toArray, List.getElem_cons_zero, List.getElem_cons_succ, Act.put, List.setIfInBounds_toArray, List.set_cons_zero, List.set_cons_succ])
        refine wpAnyH_ready (rs := [7]) (by kernel_rfl) (by simp) ?_
        refine AllReadyH.cons (o := _) rfl (fun K hK => ?_) AllReadyH.nil
        rw [if_pos (by rfl)]
        go_simp
        have d9 : (w7.alloc (.cells #[.pointer (some ⟨G7, 0, none⟩)] 74)).cell? ⟨w.heap.size, 1, none⟩ = some (.slice a2 n2 c2) := (HCD.out.c.later (Below.weak B7.out ((Below.refl _ _).alloc (Nat.le_refl _) (.cells #[.pointer (some ⟨G7, 0, none⟩)] 74)))).c1
        refine hK.out _ _ (trivial) (fun hHeld => ?_)
        clear hK K
        (try simp only [List.getElem_toArray, List.getElem_cons_zero, List.getElem_cons_succ, Act.put, List.setIfInBounds_toArray, List.set_cons_zero, List.set_cons_succ])
        have HROW9 : Hid (OwnG ptrV 74 1 (w7.alloc (.cells #[.pointer (some ⟨G7, 0, none⟩)] 74)) 0 (.slice a2 n2 c2) n2 L2) := (by have h1 := (HCD.out.c.row.later B7.out).alloc (.cells #[.pointer (some ⟨G7, 0, none⟩)] 74); rw [hn2.out] at h1; exact Lib.hid h1)
        refine wpAnyH_ready (rs := [8]) (by kernel_rfl) (by simp) ?_
        refine AllReadyH.cons (o := _) rfl (fun K hK => ?_) AllReadyH.nil
        rw [if_pos (by rfl)]
        refine wp_append_lg ptr_rowed (.tmp 35) (.tmp 38) rfl 0 (.slice a2 n2 c2) n2 L2 rfl HROW9.out (some ⟨w7.heap.size, 0, none⟩) 1 1 [⟨f.it, G7, S7⟩] rfl (fun e => by cases e) (one_reads w7 (⟨f.it, G7, S7⟩ : IR) #[.pointer (some ⟨G7, 0, none⟩)] 74 rfl) (by omega) (Nat.zero_le _) ?_
        intro pa8 pc8 w10 g1 g2 g3
        have HE := Lib.hid (app_end HCD.out (f := f) HJ.out I7.out L7.out B7.out (by rw [hn2.out]; exact g1) g2 (by rw [hn2.out]; exact g3))
        have yb : Blk w10 w.heap.size 64 #[.int .i64 room, .slice a2 n2 c2, .int .u64 uses] := ((HCD.out.c.blk.later B7.out).alloc (.cells #[.pointer (some ⟨G7, 0, none⟩)] 74)).kept g2 (fun e => HCD.out.c.rowB e.symm)
        have yc : w10.cell? ⟨w.heap.size, 1, none⟩ = some (.slice a2 n2 c2) := (yb.cell 1).trans rfl
        have yf := yb.free 1
        clear g1 g2 g3 yb
        (try dsimp only)
        refine hK.out _ _ (trivial) (fun hHeld => ?_)
        clear hK K
        (try simp only [List.getElem_toArray, List.getElem_cons_zero, List.getElem_cons_succ, Act.put, List.setIfInBounds_toArray, List.set_cons_zero, List.set_cons_succ])
        refine wpAnyH_take (i := 9) (oi := _) (v := ?vz1) rfl (by kernel_rfl) (by kernel_rfl) (by kernel_rfl) (fun _ _ _ h => h) (Or.inl ⟨by rfl, ?hyz1⟩) (by assumption) ?restz1
        case hyz1 => (intro wz hSw; (try dsimp only at hSw); go_simp; try with_reducible rfl)
        (try simp only [List.getElem_toArray, List.getElem_cons_zero, List.getElem_cons_succ, Act.put, List.setIfInBounds_toArray, List.set_cons_zero, List.set_cons_succ])
        refine wpAnyH_take (i := 10) (oi := _) (v := ?vz2) rfl (by kernel_rfl) (by kernel_rfl) (by kernel_rfl) (fun _ _ _ h => h) (Or.inl ⟨by rfl, ?hyz2⟩) (by assumption) ?restz2
        case hyz2 => (intro wz hSw; (try dsimp only at hSw); go_simp; try with_reducible rfl)
        (try simp only [List.getElem_toArray, List.getElem_cons_zero, List.getElem_cons_succ, Act.put, List.setIfInBounds_toArray, List.set_cons_zero, List.set_cons_succ])
        refine wpAnyH_ready (rs := [11]) (by kernel_rfl) (by simp) ?_
        refine AllReadyH.cons (o := _) rfl (fun K hK => ?_) AllReadyH.nil
        rw [if_pos (by rfl)]
        go_simp
        refine hK.out _ _ (trivial) (fun hHeld => ?_)
        clear hK K
        (try simp only [List.getElem_toArray, List.getElem_cons_zero, List.getElem_cons_succ, Act.put, List.setIfInBounds_toArray, List.set_cons_zero, List.set_cons_succ])
        refine wpAnyH_done (by kernel_rfl) ?_ _
        rw [hn2.out] at HE
        clear d7 yc yf
        go_wp2
        go_roundw
        case rel => exact ⟨j + 1, pa8, n2 + 1, pc8, L2 ++ [(⟨f.it, G7, S7⟩ : IR)], by omega, by go_num, HE.out⟩
        case measure => simp [intOf]; omega
      · rw [if_pos (by rfl)]
        go_simp
        (go_at_call 45; refine (HCOPY.out).mono ?_; rintro e w7 ⟨G7, S7, rfl, g1, g2, g3⟩; have I7 := Lib.hid g1; have L7 := Lib.hid g2; have B7 := Lib.hid g3; have d7 : w7.cell? ⟨w.heap.size, 1, none⟩ = some (.slice a2 n2 c2) := (by exact (HCD.out.c.later g3).c1); clear g1 g2 g3)
        (try dsimp only)
        refine hK.out _ _ (trivial) (fun hHeld => ?_)
        clear hK K
        (try simp only [List.getElem_toArray, List.getElem_cons_zero, List.getElem_cons_succ, Act.put, List.setIfInBounds_toArray, List.set_cons_zero, List.set_cons_succ])
        refine wpAnyH_ready (rs := [4, 7]) (by kernel_rfl) (by simp) ?_
        refine AllReadyH.cons (o := _) rfl (fun K hK => ?_) (AllReadyH.cons (o := _) rfl (fun K hK => ?_) AllReadyH.nil)
        · rw [if_pos (by rfl)]
          go_simp
          refine hK.out _ _ (trivial) (fun hHeld => ?_)
          clear hK K
          (try simp only [List.getElem_toArray, List.getElem_cons_zero, List.getElem_cons_succ, Act.put, List.setIfInBounds_toArray, List.set_cons_zero, List.set_cons_succ])
          refine wpAnyH_ready (rs := [7]) (by kernel_rfl) (by simp) ?_
          refine AllReadyH.cons (o := _) rfl (fun K hK => ?_) AllReadyH.nil
          rw [if_pos (by rfl)]
          go_simp
          have d9 : (w7.alloc (.cells #[.pointer (some ⟨G7, 0, none⟩)] 74)).cell? ⟨w.heap.size, 1, none⟩ = some (.slice a2 n2 c2) := (HCD.out.c.later (Below.weak B7.out ((Below.refl _ _).alloc (Nat.le_refl _) (.cells #[.pointer (some ⟨G7, 0, none⟩)] 74)))).c1
          refine hK.out _ _ (trivial) (fun hHeld => ?_)
          clear hK K
          (try simp only [List.getElem_toArray, List.getElem_cons_zero, List.getElem_cons_succ, Act.put, List.setIfInBounds_toArray, List.set_cons_zero, List.set_cons_succ])
          have HROW9 : Hid (OwnG ptrV 74 1 (w7.alloc (.cells #[.pointer (some ⟨G7, 0, none⟩)] 74)) 0 (.slice a2 n2 c2) n2 L2) := (by have h1 := (HCD.out.c.row.later B7.out).alloc (.cells #[.pointer (some ⟨G7, 0, none⟩)] 74); rw [hn2.out] at h1; exact Lib.hid h1)
          refine wpAnyH_ready (rs := [8]) (by kernel_rfl) (by simp) ?_
          refine AllReadyH.cons (o := _) rfl (fun K hK => ?_) AllReadyH.nil
          rw [if_pos (by rfl)]
          refine wp_append_lg ptr_rowed (.tmp 35) (.tmp 38) rfl 0 (.slice a2 n2 c2) n2 L2 rfl HROW9.out (some ⟨w7.heap.size, 0, none⟩) 1 1 [⟨f.it, G7, S7⟩] rfl (fun e => by cases e) (one_reads w7 (⟨f.it, G7, S7⟩ : IR) #[.pointer (some ⟨G7, 0, none⟩)] 74 rfl) (by omega) (Nat.zero_le _) ?_
          intro pa8 pc8 w10 g1 g2 g3
          have HE := Lib.hid (app_end HCD.out (f := f) HJ.out I7.out L7.out B7.out (by rw [hn2.out]; exact g1) g2 (by rw [hn2.out]; exact g3))
          have yb : Blk w10 w.heap.size 64 #[.int .i64 room, .slice a2 n2 c2, .int .u64 uses] := ((HCD.out.c.blk.later B7.out).alloc (.cells #[.pointer (some ⟨G7, 0, none⟩)] 74)).kept g2 (fun e => HCD.out.c.rowB e.symm)
          have yc : w10.cell? ⟨w.heap.size, 1, none⟩ = some (.slice a2 n2 c2) := (yb.cell 1).trans rfl
          have yf := yb.free 1
          clear g1 g2 g3 yb
          (try dsimp only)
          refine hK.out _ _ (trivial) (fun hHeld => ?_)
          clear hK K
          (try simp only [List.getElem_toArray, List.getElem_cons_zero, List.getElem_cons_succ, Act.put, List.setIfInBounds_toArray, List.set_cons_zero, List.set_cons_succ])
          refine wpAnyH_take (i := 9) (oi := _) (v := ?vz3) rfl (by kernel_rfl) (by kernel_rfl) (by kernel_rfl) (fun _ _ _ h => h) (Or.inl ⟨by rfl, ?hyz3⟩) (by assumption) ?restz3
          case hyz3 => (intro wz hSw; (try dsimp only at hSw); go_simp; try with_reducible rfl)
          (try simp only [List.getElem_toArray, List.getElem_cons_zero, List.getElem_cons_succ, Act.put, List.setIfInBounds_toArray, List.set_cons_zero, List.set_cons_succ])
          refine wpAnyH_take (i := 10) (oi := _) (v := ?vz4) rfl (by kernel_rfl) (by kernel_rfl) (by kernel_rfl) (fun _ _ _ h => h) (Or.inl ⟨by rfl, ?hyz4⟩) (by assumption) ?restz4
          case hyz4 => (intro wz hSw; (try dsimp only at hSw); go_simp; try with_reducible rfl)
          (try simp only [List.getElem_toArray, List.getElem_cons_zero, List.getElem_cons_succ, Act.put, List.setIfInBounds_toArray, List.set_cons_zero, List.set_cons_succ])
          refine wpAnyH_ready (rs := [11]) (by kernel_rfl) (by simp) ?_
          refine AllReadyH.cons (o := _) rfl (fun K hK => ?_) AllReadyH.nil
          rw [if_pos (by rfl)]
          go_simp
          refine hK.out _ _ (trivial) (fun hHeld => ?_)
          clear hK K
          (try simp only [List.getElem_toArray, List.getElem_cons_zero, List.getElem_cons_succ, Act.put, List.setIfInBounds_toArray, List.set_cons_zero, List.set_cons_succ])
          refine wpAnyH_done (by kernel_rfl) ?_ _
          rw [hn2.out] at HE
          clear d7 yc yf
          go_wp2
          go_roundw
          case rel => exact ⟨j + 1, pa8, n2 + 1, pc8, L2 ++ [(⟨f.it, G7, S7⟩ : IR)], by omega, by go_num, HE.out⟩
          case measure => simp [intOf]; omega
        · rw [if_pos (by rfl)]
          go_simp
          have d9 : (w7.alloc (.cells #[.pointer (some ⟨G7, 0, none⟩)] 74)).cell? ⟨w.heap.size, 1, none⟩ = some (.slice a2 n2 c2) := (HCD.out.c.later (Below.weak B7.out ((Below.refl _ _).alloc (Nat.le_refl _) (.cells #[.pointer (some ⟨G7, 0, none⟩)] 74)))).c1
          refine hK.out _ _ (trivial) (fun hHeld => ?_)
          clear hK K
          (try simp only [List.getElem_toArray, List.getElem_cons_zero, List.getElem_cons_succ, Act.put, List.setIfInBounds_toArray, List.set_cons_zero, List.set_cons_succ])
          refine wpAnyH_ready (rs := [4]) (by kernel_rfl) (by simp) ?_
          refine AllReadyH.cons (o := _) rfl (fun K hK => ?_) AllReadyH.nil
          rw [if_pos (by rfl)]
          go_simp
          refine hK.out _ _ (trivial) (fun hHeld => ?_)
          clear hK K
          (try simp only [List.getElem_toArray, List.getElem_cons_zero, List.getElem_cons_succ, Act.put, List.setIfInBounds_toArray, List.set_cons_zero, List.set_cons_succ])
          have HROW9 : Hid (OwnG ptrV 74 1 (w7.alloc (.cells #[.pointer (some ⟨G7, 0, none⟩)] 74)) 0 (.slice a2 n2 c2) n2 L2) := (by have h1 := (HCD.out.c.row.later B7.out).alloc (.cells #[.pointer (some ⟨G7, 0, none⟩)] 74); rw [hn2.out] at h1; exact Lib.hid h1)
          refine wpAnyH_ready (rs := [8]) (by kernel_rfl) (by simp) ?_
          refine AllReadyH.cons (o := _) rfl (fun K hK => ?_) AllReadyH.nil
          rw [if_pos (by rfl)]
          refine wp_append_lg ptr_rowed (.tmp 35) (.tmp 38) rfl 0 (.slice a2 n2 c2) n2 L2 rfl HROW9.out (some ⟨w7.heap.size, 0, none⟩) 1 1 [⟨f.it, G7, S7⟩] rfl (fun e => by cases e) (one_reads w7 (⟨f.it, G7, S7⟩ : IR) #[.pointer (some ⟨G7, 0, none⟩)] 74 rfl) (by omega) (Nat.zero_le _) ?_
          intro pa8 pc8 w10 g1 g2 g3
          have HE := Lib.hid (app_end HCD.out (f := f) HJ.out I7.out L7.out B7.out (by rw [hn2.out]; exact g1) g2 (by rw [hn2.out]; exact g3))
          have yb : Blk w10 w.heap.size 64 #[.int .i64 room, .slice a2 n2 c2, .int .u64 uses] := ((HCD.out.c.blk.later B7.out).alloc (.cells #[.pointer (some ⟨G7, 0, none⟩)] 74)).kept g2 (fun e => HCD.out.c.rowB e.symm)
          have yc : w10.cell? ⟨w.heap.size, 1, none⟩ = some (.slice a2 n2 c2) := (yb.cell 1).trans rfl
          have yf := yb.free 1
          clear g1 g2 g3 yb
          (try dsimp only)
          refine hK.out _ _ (trivial) (fun hHeld => ?_)
          clear hK K
          (try simp only [List.getElem_toArray, List.getElem_cons_zero, List.getElem_cons_succ, Act.put, List.setIfInBounds_toArray, List.set_cons_zero, List.set_cons_succ])
          refine wpAnyH_take (i := 9) (oi := _) (v := ?vz5) rfl (by kernel_rfl) (by kernel_rfl) (by kernel_rfl) (fun _ _ _ h => h) (Or.inl ⟨by rfl, ?hyz5⟩) (by assumption) ?restz5
          case hyz5 => (intro wz hSw; (try dsimp only at hSw); go_simp; try with_reducible rfl)
          (try simp only [List.getElem_toArray, List.getElem_cons_zero, List.getElem_cons_succ, Act.put, List.setIfInBounds_toArray, List.set_cons_zero, List.set_cons_succ])
          refine wpAnyH_take (i := 10) (oi := _) (v := ?vz6) rfl (by kernel_rfl) (by kernel_rfl) (by kernel_rfl) (fun _ _ _ h => h) (Or.inl ⟨by rfl, ?hyz6⟩) (by assumption) ?restz6
          case hyz6 => (intro wz hSw; (try dsimp only at hSw); go_simp; try with_reducible rfl)
          (try simp only [List.getElem_toArray, List.getElem_cons_zero, List.getElem_cons_succ, Act.put, List.setIfInBounds_toArray, List.set_cons_zero, List.set_cons_succ])
          refine wpAnyH_ready (rs := [11]) (by kernel_rfl) (by simp) ?_
          refine AllReadyH.cons (o := _) rfl (fun K hK => ?_) AllReadyH.nil
          rw [if_pos (by rfl)]
          go_simp
          refine hK.out _ _ (trivial) (fun hHeld => ?_)
          clear hK K
          (try simp only [List.getElem_toArray, List.getElem_cons_zero, List.getElem_cons_succ, Act.put, List.setIfInBounds_toArray, List.set_cons_zero, List.set_cons_succ])
          refine wpAnyH_done (by kernel_rfl) ?_ _
          rw [hn2.out] at HE
          clear d7 yc yf
          go_wp2
          go_roundw
          case rel => exact ⟨j + 1, pa8, n2 + 1, pc8, L2 ++ [(⟨f.it, G7, S7⟩ : IR)], by omega, by go_num, HE.out⟩
          case measure => simp [intOf]; omega
    · obtain rfl : j = n := by omega
      go_wp2
      go_ret
      refine ⟨⟨w.heap.size, 0, none⟩, _, rfl, ⟨w.heap.size, .slice a2 n2 c2, L2, rfl, ?_, ?_, HO.out, rfl⟩, HCP.out.low, HCP.out.below⟩
      · rw [hroom.out, huses.out]
        exact HCP.out.c
      · rw [HCP.out.its, List.take_of_length_le]
        rw [← HI.out, List.length_map]
        have := hN.out
        omega
end Go.Proofs.Ythmkmhfoicfapaa
