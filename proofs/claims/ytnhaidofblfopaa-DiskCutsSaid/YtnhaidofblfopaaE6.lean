/-
  What the project's own disk answers, call by call (package disk): Create. Conditions: the disk as it lies.
-/
import Derived.Test.YtnhaidofblfopaaD6
import Derived.Test.YtnhaidofblfopaaG6
namespace Go.Proofs.Ytnhaidofblfopaa
open Go.RowKit
set_option linter.unusedVariables false

theorem disk_rows {w w' : World} {B room cnt fails : Nat} {vF vF' : Value} {L L' : List FR} {dead : Bool} (h : DiskIn w B room vF L cnt fails dead)
    (hL : ∀ g ∈ L', g ∈ L ∨ (FileAt w' g ∧ ∀ k, g.S k → w.heap.size ≤ k ∧ vF'.ownBlock ≠ some k)) (hap : L'.Pairwise fun f g => ∀ k, f.S k → ¬ g.S k) (hkeep : ∀ g ∈ L, ∀ k, g.S k → w'.heap[k]? = w.heap[k]?)
    (ha : Away (ownS B vF L) w (ownS B vF L) w') (hB : Blk w' B 59 #[.int .i64 room, vF', .int .u64 cnt, .int .u64 fails, .bool dead]) (hrow : OwnG ptrV 61 1 w' 0 vF' L'.length L')
    (hv : ∀ k, vF'.ownBlock = some k → vF.ownBlock = some k ∨ w.heap.size ≤ k) :
    DiskIn w' B room vF' L' cnt fails dead ∧ Away (ownS B vF L) w (ownS B vF' L') w' := by
  refine ⟨⟨hB, hrow, fun g hg => ?_, hap, fun g hg => ?_⟩, ⟨ha.os, ha.tape, ha.output, ha.size, ha.block, fun k hk => ?_⟩⟩
  · rcases hL g hg with h1 | ⟨h1, _⟩
    · exact (h.file g h1).frame (hkeep g h1)
    · exact h1
  · rcases hL g hg with h1 | ⟨_, h2⟩
    · refine ⟨(h.out g h1).1, fun k hk hk' => ?_⟩
      rcases hv k hk with h3 | h3
      · exact (h.out g h1).2 k h3 hk'
      · have := (h.file g h1).lt k hk'
        omega
    · exact ⟨fun hk => by have := (h2 B hk).1; have := h.blk.lt; omega, fun k hk hk' => (h2 k hk').2 hk⟩
  · rcases hk with rfl | hk | ⟨g, hg, hk⟩
    · exact Or.inl (Or.inl rfl)
    · rcases hv k hk with h3 | h3
      · exact Or.inl (Or.inr (Or.inl h3))
      · exact Or.inr h3
    · rcases hL g hg with h1 | ⟨_, h2⟩
      · exact Or.inl (Or.inr (Or.inr ⟨g, h1, hk⟩))
      · exact Or.inr (h2 k hk).1
theorem own_set {w : World} {b n c : Nat} {L1 L2 : List FR} {f f' : FR} (h : OwnG ptrV 61 1 w 0 (.slice (some ⟨b, 0, Option.none⟩) n c) n (L1 ++ f :: L2)) :
    OwnG ptrV 61 1 (w.setCell ⟨b, L1.length, Option.none⟩ (.pointer (some ⟨f'.G, 0, Option.none⟩))) 0 (.slice (some ⟨b, 0, Option.none⟩) n c) n (L1 ++ f' :: L2) := by
  obtain ⟨⟨h1, h2⟩, h3, h4⟩ := h
  have hl : (L1 ++ f' :: L2).length = n := by rw [← h3]; simp
  refine ⟨⟨by rw [pvl_len, hl, Nat.mul_one], ?_⟩, hl, h4⟩
  rcases h2 with ⟨e, _⟩ | ⟨g, cap, cur, e, hb, hg, hn, hm, hs, ht⟩
  · cases e
  · cases e
    refine Or.inr ⟨b, c, cur.setIfInBounds L1.length (.pointer (some ⟨f'.G, 0, none⟩)), rfl, hb, Blk.set L1.length _ (show Blk w b _ cur from hg), hn, hm, by simp [hs], ?_⟩
    rw [Array.toList_setIfInBounds, List.take_set, ht, pvl_map, pvl_map, List.map_append, List.map_append, List.map_cons, List.map_cons, List.set_append_right _ _ (by simp)]
    simp
theorem cb_gt : ∀ a b : List UInt8, 0 < Lib.compareBytes a b ↔ b < a
  | [], [] => by simp [Lib.compareBytes]
  | [], y :: b => by simp [Lib.compareBytes]
  | x :: a, [] => by simp [Lib.compareBytes]
  | x :: a, y :: b => by
    have ih := cb_gt a b
    rw [Lib.compareBytes, List.cons_lt_cons_iff]
    by_cases h1 : x < y
    · have h2 : ¬ y < x := by
        rw [UInt8.lt_iff_toNat_lt] at h1 ⊢
        omega
      simp only [h1, if_true, h2, false_or]
      constructor
      · intro h; omega
      · rintro ⟨rfl, _⟩; exact absurd h1 h2
    · by_cases h2 : y < x
      · simp [h1, h2]
      · have : x = y := by
          rw [UInt8.lt_iff_toNat_lt] at h1 h2
          exact UInt8.toNat_inj.1 (by omega)
        subst this
        rw [if_neg h1, if_neg h1, ih]
        simp [h1]
theorem nm_tri (a b : Nm) : nmLt a b ∨ a = b ∨ nmLt b a := by
  have h1 := cmpN_lt a b
  have h2 := cmpN_eq a b
  have h3 : 0 < cmpN a b ↔ nmLt b a := cb_gt _ _
  rcases Int.lt_trichotomy (cmpN a b) 0 with h | h | h
  · exact Or.inl (h1.1 h)
  · exact Or.inr (Or.inl (h2.1 h))
  · exact Or.inr (Or.inr (h3.1 h))
/-- A file made. -/
theorem new_file (w : World) (s : Nm) : FileAt (w.alloc (.cells #[.string s, .slice none 0 0, .slice none 0 0, .slice none 0 0] 65)) ⟨s, w.heap.size, fun k => k = w.heap.size, [], [], []⟩ :=
  ⟨.slice none 0 0, .slice none 0 0, .slice none 0 0, ⟨by simp, by simp, (fun x hx => by cases hx), (fun x hx => by cases hx), (fun x hx => by cases hx), by simp⟩, Blk.new _ _ _, ⟨⟨by simp, Or.inl ⟨rfl, rfl⟩⟩, by unfold Small; simp⟩, ⟨⟨by simp, Or.inl ⟨rfl, rfl⟩⟩, by unfold Small; simp⟩, OwnG.none _ _ _ _ _, (fun k hk => by cases hk), fun k => ⟨fun h => Or.inl h, fun h => by
    rcases h with h | h | h | h
    · exact h
    · cases h
    · cases h
    · cases h⟩⟩
theorem pos_split {L : List FR} {s : Nm} {k : Nat} {found : Bool} (h : Pos L s k found) (hr : L.Pairwise fun f g => nmLt f.name g.name) :
    (∀ g ∈ L.take k, nmLt g.name s) ∧ (found = true → ∃ f, L[k]? = some f ∧ f.name = s ∧ L = L.take k ++ f :: L.drop (k + 1)) ∧ (found = false → (∀ g ∈ L.drop k, nmLt s g.name) ∧ ∀ f ∈ L, f.name ≠ s) := by
  have h1 : ∀ g ∈ L.take k, nmLt g.name s := fun g hg => by
    obtain ⟨i, hi⟩ := List.getElem?_of_mem hg
    rw [List.getElem?_take] at hi
    split at hi
    · rename_i hk
      exact h.ahead i g hi hk
    · cases hi
  refine ⟨h1, fun hf => ?_, fun hf => ?_⟩
  · obtain ⟨f, hf, e⟩ := h.found.1 hf
    obtain ⟨hlt, he⟩ := List.getElem?_eq_some_iff.1 hf
    exact ⟨f, hf, e, by rw [← he, ← List.drop_eq_getElem_cons hlt, List.take_append_drop]⟩
  · have hno : ∀ f ∈ L, f.name ≠ s := fun f hm e => by
      obtain ⟨i, hi⟩ := List.getElem?_of_mem hm
      rcases Nat.lt_trichotomy i k with h' | h' | h'
      · exact nm_irrefl _ (e ▸ h.ahead i f hi h')
      · subst h'
        have := h.found.2 ⟨f, hi, e⟩
        rw [hf] at this
        cases this
      · obtain ⟨g, hg⟩ : ∃ g, L[k]? = some g := ⟨_, List.getElem?_eq_getElem (by have := (List.getElem?_eq_some_iff.1 hi).1; omega)⟩
        exact h.behind k g hg (Nat.le_refl _) (e ▸ rise_at hr hg hi h')
    refine ⟨fun g hg => ?_, hno⟩
    obtain ⟨i, hi⟩ := List.getElem?_of_mem hg
    rw [List.getElem?_drop] at hi
    have hb := h.behind _ g hi (Nat.le_add_right _ _)
    have hne := hno g (List.mem_of_getElem? hi)
    rcases nm_tri g.name s with h2 | h2 | h2
    · exact absurd h2 hb
    · exact absurd h2 hne
    · exact h2

def mkF (s : Nm) (G : Nat) : FR := ⟨s, G, fun k => k = G, [], [], []⟩
/-- A file at a new place. -/
theorem make_end {w w3 w4 : World} {B room cnt fails G k : Nat} {vF v' : Value} {L : List FR} {dead : Bool} {s : Nm} (h : DiskIn w B room vF L cnt fails dead) (hA : Below w.heap.size w w3) (hF : FileAt w3 (mkF s G)) (hG : w.heap.size ≤ G)
    (hrow : OwnG ptrV 61 1 w4 0 v' (L.length + 1) (L.take k ++ mkF s G :: L.drop k)) (hg : w3.grownBy w4 vF.ownBlock) (hv : v'.ownBlock = vF.ownBlock ∨ ∃ k, w3.heap.size ≤ k ∧ v'.ownBlock = some k) :
    DiskIn (w4.setCell ⟨B, 1, none⟩ v') B room v' (L.take k ++ mkF s G :: L.drop k) cnt fails dead ∧ Away (ownS B vF L) w (ownS B v' (L.take k ++ mkF s G :: L.drop k)) (w4.setCell ⟨B, 1, none⟩ v') := by
  have hBw := h.blk.lt
  have hGl : G < w3.heap.size := hF.lt G rfl
  have hs3 := hA.size
  have hown : ∀ k, vF.ownBlock = some k → k < w.heap.size := fun k hk => (h.row.1.lt k hk).2
  have hlen : (L.take k ++ mkF s G :: L.drop k).length = L.length + 1 := by
    rw [List.length_append, List.length_cons, List.length_take, List.length_drop]
    omega
  have hmem : ∀ g, g ∈ L.take k ++ mkF s G :: L.drop k → g ∈ L ∨ g = mkF s G := fun g hg => by
    rcases List.mem_append.1 hg with hg | hg
    · exact Or.inl (List.mem_of_mem_take hg)
    · rcases List.mem_cons.1 hg with hg | hg
      · exact Or.inr hg
      · exact Or.inl (List.mem_of_mem_drop hg)
  have hv' : ∀ k, v'.ownBlock = some k → vF.ownBlock = some k ∨ w3.heap.size ≤ k := fun k hk => by
    rcases hv with e | ⟨k', h1, e⟩
    · exact Or.inl (e ▸ hk)
    · rw [e] at hk
      cases hk
      exact Or.inr h1
  have hv2 : ∀ k, v'.ownBlock = some k → k ≠ B := fun k hk e => by
    subst e
    rcases hv' k hk with h1 | h1
    · exact h.rowB h1
    · omega
  have hGv : v'.ownBlock ≠ some G := fun e => by
    rcases hv' G e with h1 | h1
    · have := hown G h1
      omega
    · omega
  have hap : (L.take k ++ mkF s G :: L.drop k).Pairwise fun f g => ∀ k, f.S k → ¬ g.S k := by
    have hpw := h.apart
    rw [← List.take_append_drop k L, List.pairwise_append] at hpw
    obtain ⟨p1, p2, p3⟩ := hpw
    rw [List.pairwise_append, List.pairwise_cons]
    refine ⟨p1, ⟨fun g hg j hj hj' => ?_, p2⟩, fun g hg g' hg' => ?_⟩
    · have e : j = G := hj
      have := (h.file g (List.mem_of_mem_drop hg)).lt j hj'
      omega
    · rcases List.mem_cons.1 hg' with rfl | hg'
      · intro j hj hj'
        have e : j = G := hj'
        have := (h.file g (List.mem_of_mem_take hg)).lt j hj
        omega
      · exact p3 g hg g' hg'
  have hblk : ∀ j, j < w3.heap.size → vF.ownBlock ≠ some j → j ≠ B → (w4.setCell ⟨B, 1, none⟩ v').heap[j]? = w3.heap[j]? := fun j h1 h2 h3 => by
    rw [Below.heap_setCell w4 ⟨B, 1, none⟩ v' j h3]
    exact hg.block j h1 (fun e => h2 e.symm)
  have hB4 : Blk w4 B 59 #[.int .i64 room, vF, .int .u64 cnt, .int .u64 fails, .bool dead] := (h.blk.later hA).kept hg (fun e => h.rowB e.symm)
  have ha : Away (ownS B vF L) w (ownS B vF L) (w4.setCell ⟨B, 1, none⟩ v') := Away.set (S := ownS B vF L) (Away.grown (Away.of_below (ownS B vF L) hA) hg (fun j hj => Or.inl (Or.inr (Or.inl hj)))) (ownS_B B vF L) 1 v'
  refine disk_rows h (fun g hg' => ?_) hap (fun g hg' j hj => ?_) ha ?_ ?_ (fun j hj => ?_)
  · rcases hmem g hg' with h1 | rfl
    · exact Or.inl h1
    · refine Or.inr ⟨hF.frame fun j hj => ?_, fun j hj => ?_⟩
      · have e : j = G := hj
        subst e
        exact hblk j hGl (fun e => by have := hown j e; omega) (by omega)
      · have e : j = G := hj
        subst e
        exact ⟨hG, hGv⟩
  · have hj1 := (h.file g hg').lt j hj
    rw [hblk j (by omega) (fun e => (h.out g hg').2 j e hj) (fun e => (h.out g hg').1 (e ▸ hj))]
    exact hA.block j hj1
  · exact hB4.set 1 v'
  · rw [hlen]
    exact hrow.frame fun j hj => Below.heap_setCell w4 ⟨B, 1, none⟩ v' j (hv2 j hj)
  · rcases hv' j hj with h1 | h1
    · exact Or.inl h1
    · exact Or.inr (by omega)
/-- A file in another's place. -/
theorem anew_end {w w3 : World} {B room cnt fails G b c : Nat} {L1 L2 : List FR} {f : FR} {dead : Bool} {s : Nm} (h : DiskIn w B room (.slice (some ⟨b, 0, none⟩) (L1 ++ f :: L2).length c) (L1 ++ f :: L2) cnt fails dead) (hA : Below w.heap.size w w3) (hF : FileAt w3 (mkF s G)) (hG : w.heap.size ≤ G) :
    DiskIn (w3.setCell ⟨b, L1.length, none⟩ (.pointer (some ⟨G, 0, none⟩))) B room (.slice (some ⟨b, 0, none⟩) (L1 ++ f :: L2).length c) (L1 ++ mkF s G :: L2) cnt fails dead ∧
      Away (ownS B (.slice (some ⟨b, 0, none⟩) (L1 ++ f :: L2).length c) (L1 ++ f :: L2)) w (ownS B (.slice (some ⟨b, 0, none⟩) (L1 ++ f :: L2).length c) (L1 ++ mkF s G :: L2)) (w3.setCell ⟨b, L1.length, none⟩ (.pointer (some ⟨G, 0, none⟩))) := by
  have hBw := h.blk.lt
  have hGl : G < w3.heap.size := hF.lt G rfl
  have hs3 := hA.size
  have hown : b < w.heap.size := (h.row.1.lt b rfl).2
  have hbB : b ≠ B := fun e => h.rowB (congrArg some e)
  have hapx := h.apart
  rw [List.pairwise_append, List.pairwise_cons] at hapx
  obtain ⟨p1, ⟨_, p2⟩, p3⟩ := hapx
  have hmem : ∀ g, g ∈ L1 ++ mkF s G :: L2 → g ∈ L1 ++ f :: L2 ∨ g = mkF s G := fun g hg => by
    rcases List.mem_append.1 hg with hg | hg
    · exact Or.inl (by simp [hg])
    · rcases List.mem_cons.1 hg with hg | hg
      · exact Or.inr hg
      · exact Or.inl (by simp [hg])
  have hap : (L1 ++ mkF s G :: L2).Pairwise fun f g => ∀ k, f.S k → ¬ g.S k := by
    rw [List.pairwise_append, List.pairwise_cons]
    refine ⟨p1, ⟨fun g hg j hj hj' => ?_, p2⟩, fun g hg g' hg' => ?_⟩
    · have e : j = G := hj
      have := (h.file g (by simp [hg])).lt j hj'
      omega
    · rcases List.mem_cons.1 hg' with rfl | hg'
      · intro j hj hj'
        have e : j = G := hj'
        have := (h.file g (by simp [hg])).lt j hj
        omega
      · exact p3 g hg g' (by simp [hg'])
  have hblk : ∀ j, j ≠ b → (w3.setCell ⟨b, L1.length, none⟩ (.pointer (some ⟨G, 0, none⟩))).heap[j]? = w3.heap[j]? := fun j h3 => Below.heap_setCell w3 ⟨b, L1.length, none⟩ _ j h3
  have ha := (Away.of_below (ownS B (.slice (some ⟨b, 0, none⟩) (L1 ++ f :: L2).length c) (L1 ++ f :: L2)) hA).set (B := b) (Or.inr (Or.inl rfl)) L1.length (.pointer (some ⟨G, 0, none⟩))
  refine disk_rows h (fun g hg' => ?_) hap (fun g hg' j hj => ?_) ha ?_ ?_ (fun j hj => Or.inl hj)
  · rcases hmem g hg' with h1 | rfl
    · exact Or.inl h1
    · refine Or.inr ⟨hF.frame fun j hj => ?_, fun j hj => ?_⟩
      · have e : j = G := hj
        subst e
        exact hblk j (by omega)
      · have e : j = G := hj
        subst e
        exact ⟨hG, fun e => by
          have e' : b = j := Option.some.inj e
          omega⟩
  · have hj1 := (h.file g hg').lt j hj
    rw [hblk j (fun e => (h.out g hg').2 b rfl (e ▸ hj))]
    exact hA.block j hj1
  · exact (h.blk.later hA).other (fun e => hbB e.symm) _
  · have := own_set (f' := mkF s G) (h.row.frame (w' := w3) fun j hj => hA.block j (h.row.1.lt j hj).2)
    rw [show (L1 ++ mkF s G :: L2).length = (L1 ++ f :: L2).length from by simp]
    exact this
theorem ptr_free {w : World} {b n c : Nat} {L : List FR} (h : OwnG ptrV 61 1 w 0 (.slice (some ⟨b, 0, Option.none⟩) n c) n L) (i : Nat) : w.frozen? ⟨b, i, Option.none⟩ = false := by
  rcases h.1.2 with ⟨e, _⟩ | ⟨g, cap, cur, e, hb, hg, _⟩
  · cases e
  · cases e
    exact Blk.free (show Blk w b _ cur from hg) i
theorem Rel.mk2 {D : Dsk} {room cnt fails G k : Nat} {L : List FR} {dead : Bool} {s : Nm} (h : Rel D room L cnt fails dead) (h1 : ∀ g ∈ L.take k, nmLt g.name s) (h2 : ∀ g ∈ L.drop k, nmLt s g.name) (hm : ¬ 32 ≤ L.length) :
    Rel { D with files := fdel D.files s ++ [(s, ⟨[], []⟩)], pend := D.pend.filter fun x => !decide (x.1 = s) } room (L.take k ++ mkF s G :: L.drop k) cnt fails dead :=
  Rel.make (f' := mkF s G) (by rw [List.take_append_drop]; exact h) (by rw [List.take_append_drop]; omega) h1 h2 rfl rfl rfl
theorem str_empty (s : Nm) : ByteArray.toList s = [] ↔ s.size = 0 := by
  rw [ByteArray.toList_eq]
  show s.data.toList = [] ↔ s.data.size = 0
  rw [← Array.length_toList, List.length_eq_zero_iff]
theorem diskCreate_any {w0 w : World} {p : Addr} {D D' : Dsk} {S : Nat → Prop} (h : Has w0 p D w S) (s : Nm) (E : Int) (he : D.create s = (E, D')) :
    Calls Try.prog 13 #[.pointer (some p), .string s] w (Gives w0 p D' (.int .i64 E) S w) := by
  obtain ⟨B, room, vF, L, cnt, fails, dead, rfl, rfl, hd, hr⟩ := h.open'
  unfold Dsk.create at he
  have HD := Lib.hid hd
  have HR := Lib.hid hr
  have HH := Lib.hid h
  cases dead with
  | true =>
    rw [if_pos (show D.dead = true from HR.out.deadEq)] at he
    cases he
    clear hd hr h
    go_enter Try.func13, Try.ntmps13
    go_wp2_with (go_at_call 26; refine (ready_any HD.out).mono ?_; rintro e w' ⟨rfl, rfl⟩)
    go_ret
    exact HH.out.close' HD.out HR.out (Away.refl _ _) _
  | false =>
    rw [if_neg (by rw [HR.out.deadEq]; simp)] at he
    by_cases hsz : s.size = 0 ∨ 16 < s.size
    · rw [if_pos hsz] at he
      cases he
      clear hd hr h
      rcases hsz with hsz | hsz
      · have g1 : ByteArray.toList s = [] := (str_empty s).2 hsz
        go_enter Try.func13, Try.ntmps13
        go_wp2_with (go_at_call 26; refine (ready_any HD.out).mono ?_; rintro e w' ⟨rfl, rfl⟩)
        go_ret
        exact HH.out.close' HD.out HR.out (Away.refl _ _) _
      · have g1 : ¬ ByteArray.toList s = [] := fun e => by have := (str_empty s).1 e; omega
        have g2 : ¬ (s.size : Int) ≤ 16 := by omega
        have g3 : (16 : Int) < s.size := by omega
        go_enter Try.func13, Try.ntmps13
        go_wp2_with (go_at_call 26; refine (ready_any HD.out).mono ?_; rintro e w' ⟨rfl, rfl⟩)
        go_ret
        exact HH.out.close' HD.out HR.out (Away.refl _ _) _
    · rw [if_neg hsz] at he
      have g1 : ¬ ByteArray.toList s = [] := fun e => by have := (str_empty s).1 e; omega
      have g2 : (s.size : Int) ≤ 16 := by omega
      have g3 : ¬ (16 : Int) < s.size := by omega
      have hs16 : s.size ≤ 16 := by omega
      have g4 : (ByteArray.toList s).isEmpty = false := by
        cases hh : ByteArray.toList s with
        | nil => exact absurd hh g1
        | cons a l => rfl
      clear g1
      have hml := hr.many
      have HIN : ∀ w1, Below w.heap.size w w1 → Hid (DiskIn (w1.alloc (.cells #[.string s, .slice none 0 0, .slice none 0 0, .slice none 0 0] 65)) B room vF L cnt fails false) ∧ Hid (FileAt (w1.alloc (.cells #[.string s, .slice none 0 0, .slice none 0 0, .slice none 0 0] 65)) (mkF s w1.heap.size)) ∧ Hid (Below w.heap.size w (w1.alloc (.cells #[.string s, .slice none 0 0, .slice none 0 0, .slice none 0 0] 65))) ∧ Hid (w.heap.size ≤ w1.heap.size) := fun w1 hb =>
        ⟨Lib.hid (HD.out.frame fun k hk => ((hb.alloc hb.size _).block k (HD.out.ltS hk))), Lib.hid (new_file w1 s), Lib.hid (hb.alloc hb.size _), Lib.hid hb.size⟩
      by_cases hfd : ∃ f ∈ L, f.name = s
      · obtain ⟨f, hf, hfn⟩ := hfd
        have hg : fget D.files s ≠ none := fun e => HR.out.none.1 e f hf hfn
        rw [if_neg (fun e => hg e.1)] at he
        cases he
        obtain ⟨L1, L2, hL⟩ := mid_of hf
        obtain ⟨k0, hk0⟩ := named L1.length
        have hk1 : L[k0]? = some f := by rw [← hk0.out, hL]; simp
        have HK := Lib.hid hk1
        have HL := Lib.hid hL
        have hkl : k0 < L.length := (List.getElem?_eq_some_iff.1 hk1).1
        obtain ⟨aF, cF, rfl, _, hnil, hcap⟩ := hd.row.shape ptr_rowed
        obtain ⟨b, rfl⟩ : ∃ b, aF = some ⟨b, 0, none⟩ := by
          rcases hd.row.1.2 with ⟨e, e'⟩ | ⟨g, cap, cur, e, _⟩
          · omega
          · cases e
            exact ⟨_, rfl⟩
        clear hd hr h hsz hL hk1 hg hf
        have HFN := Lib.hid hfn
        clear hfn
        go_enter Try.func13, Try.ntmps13
        go_wp2_with (first
          | (go_at_call 26; refine (ready_any HD.out).mono ?_; rintro e w1 ⟨rfl, rfl⟩)
          | (go_at_call 27; refine (sclone_any s _ hs16).mono ?_; rintro e w1 ⟨rfl, hB1⟩; obtain ⟨HD1, HF1, HB1, HG1⟩ := HIN w1 hB1; clear hB1 HIN)
          | (go_at_call 28; refine (place_any HD1.out HR.out.rise hml s).mono ?_; rintro e w2 ⟨⟨k, found, rfl, hP⟩, rfl⟩
             obtain rfl : k = k0 := (by
              rcases Nat.lt_trichotomy k0 k with h' | h' | h'
              · exact absurd (hP.ahead k0 f HK.out h') (by rw [HFN.out]; exact nm_irrefl _)
              · exact h'.symm
              · obtain ⟨g, hg⟩ : ∃ g, L[k]? = some g := ⟨_, List.getElem?_eq_getElem (by omega)⟩
                exact absurd (HFN.out ▸ rise_at HR.out.rise hg HK.out h') (hP.behind k g hg (Nat.le_refl _)))
             obtain rfl : found = true := hP.found.2 ⟨f, HK.out, HFN.out⟩
             clear hP
             have c1 := HD1.out.c1
             have f1 := HD1.out.blk.free 1
             have ck := ptr_cell HD1.out.row k f HK.out
             have fk : World.frozen? (w1.alloc (.cells #[.string s, .slice none 0 0, .slice none 0 0, .slice none 0 0] 65)) ⟨b, k, none⟩ = false := ptr_free HD1.out.row k))
        go_ret
        obtain rfl := HFN.out
        obtain rfl := HL.out
        obtain rfl := hk0.out
        obtain ⟨q1, q2⟩ := anew_end (s := f.name) HD.out HB1.out HF1.out HG1.out
        exact HH.out.close' q1 (HR.out.anew (f' := mkF f.name w1.heap.size) rfl rfl rfl rfl) q2 _
      · have hno : ∀ f ∈ L, f.name ≠ s := fun f hf e => hfd ⟨f, hf, e⟩
        have hg : fget D.files s = none := HR.out.none.2 hno
        have HNO := Lib.hid hno
        have HLEN := Lib.hid hr.len
        obtain ⟨aF, cF, rfl, _, hnil, hcap⟩ := hd.row.shape ptr_rowed
        by_cases h32 : 32 ≤ L.length
        · rw [if_pos ⟨hg, by rw [HLEN.out]; exact h32⟩] at he
          cases he
          clear hd hr h hsz hg hno hfd
          go_enter Try.func13, Try.ntmps13
          go_wp2_with (first
            | (go_at_call 26; refine (ready_any HD.out).mono ?_; rintro e w1 ⟨rfl, rfl⟩)
            | (go_at_call 27; refine (sclone_any s _ hs16).mono ?_; rintro e w1 ⟨rfl, hB1⟩; obtain ⟨HD1, HF1, HB1, HG1⟩ := HIN w1 hB1; clear hB1 HIN)
            | (go_at_call 28; refine (place_any HD1.out HR.out.rise hml s).mono ?_; rintro e w2 ⟨⟨k, found, rfl, hP⟩, rfl⟩
               obtain rfl : found = false := (by
                cases found
                · rfl
                · obtain ⟨f, h1, h2⟩ := hP.found.1 rfl
                  exact absurd h2 (HNO.out f (List.mem_of_getElem? h1)))
               clear hP
               have c1 := HD1.out.c1
               have f1 := HD1.out.blk.free 1))
          go_ret
          exact HH.out.close' (HD.out.frame fun j hj => HB1.out.block j (HD.out.ltS hj)) HR.out (Away.of_below _ HB1.out) _
        · rw [if_neg (fun e => h32 (by rw [← HLEN.out]; exact e.2))] at he
          cases he
          clear hd hr h hsz hg hno hfd
          go_enter Try.func13, Try.ntmps13
          go_wp2_with (first
            | (go_at_call 26; refine (ready_any HD.out).mono ?_; rintro e w1 ⟨rfl, rfl⟩)
            | (go_at_call 27; refine (sclone_any s _ hs16).mono ?_; rintro e w1 ⟨rfl, hB1⟩; obtain ⟨HD1, HF1, HB1, HG1⟩ := HIN w1 hB1; clear hB1 HIN)
            | (go_at_call 28; refine (place_any HD1.out HR.out.rise hml s).mono ?_; rintro e w2 ⟨⟨k, found, rfl, hP⟩, rfl⟩
               obtain rfl : found = false := (by
                cases found
                · rfl
                · obtain ⟨f, h1, h2⟩ := hP.found.1 rfl
                  exact absurd h2 (HNO.out f (List.mem_of_getElem? h1)))
               have c1 := HD1.out.c1
               have f1 := HD1.out.blk.free 1
               have hkl := hP.le
               have hsp := (pos_split hP HR.out.rise)
               have HP1 := Lib.hid hsp.1
               have HP2 := Lib.hid (hsp.2.2 rfl).1
               clear hP hsp)
            | (go_at_call 29
               have hq : Blk ((w1.alloc (.cells #[.string s, .slice none 0 0, .slice none 0 0, .slice none 0 0] 65)).alloc (.cells #[.pointer (some ⟨w1.heap.size, 0, none⟩)] 61)) (w1.heap.size + 1) 61 #[.pointer (some ⟨w1.heap.size, 0, none⟩)] := (by
                have := Blk.new (w1.alloc (.cells #[.string s, .slice none 0 0, .slice none 0 0, .slice none 0 0] 65)) 61 #[.pointer (some ⟨w1.heap.size, 0, none⟩)]
                rwa [show (w1.alloc (.cells #[.string s, .slice none 0 0, .slice none 0 0, .slice none 0 0] 65)).heap.size = w1.heap.size + 1 from by simp [go_sem]] at this)
               refine (insert_any (HD1.out.row.alloc _) (by omega) k hkl (mkF s w1.heap.size) (w1.heap.size + 1) hq (fun e => by
                have h1 := (HD.out.row.1.lt _ e).2
                have h2 := HG1.out
                omega)).mono ?_
               rintro e w3 ⟨a', c', rfl, hown4, hg4, hv4⟩
               have HQ := Lib.hid (make_end HD.out (HB1.out.alloc HB1.out.size _) (HF1.out.frame fun j hj => Below.heap_alloc _ _ j (HF1.out.lt j hj)) HG1.out hown4 hg4 hv4)
               have hB3 : Blk w3 B 59 #[.int .i64 room, .slice aF L.length cF, .int .u64 cnt, .int .u64 fails, .bool false] := (HD1.out.blk.alloc _).kept hg4 (fun e => HD1.out.rowB e.symm)
               have c13 : w3.cell? ⟨B, 1, none⟩ = some (.slice aF L.length cF) := (by rw [hB3.cell]; rfl)
               have f13 := hB3.free 1
               clear hB3 hown4 hg4 hv4 hq))
          go_ret
          exact HH.out.close' HQ.out.1 (HR.out.mk2 HP1.out HP2.out h32) HQ.out.2 _
end Go.Proofs.Ytnhaidofblfopaa
