/-
  What a cache's own calls answer, first part (package lru): New, Dirty, Flush, Drop. Conditions: the cache as it lies.
-/
import Derived.Test.YthmkmhfoicfapaaLl
import Derived.Test.YthmkmhfoicfapaaLn
namespace Go.Proofs.Ythmkmhfoicfapaa
open Go.RowKit Go.Maps
set_option linter.unusedVariables false

def Gives (w0 : World) (p : Addr) (C' : Lru) (ret : Value) (S : Nat → Prop) (w : World) (e : Ending) (w' : World) : Prop := ∃ S', e = .returned ret ∧ Has w0 p C' w' S' ∧ Away S w S' w'
def GivesL (w0 : World) (p : Addr) (C' : Lru) (l : List Int) (S : Nat → Prop) (w : World) (e : Ending) (w' : World) : Prop :=
  ∃ (a : Option Addr) (c : Nat) (S' : Nat → Prop), e = .returned (.slice a l.length c) ∧ OwnG ivV 3 1 w' w.heap.size (.slice a l.length c) l.length l ∧ Has w0 p C' w' S' ∧ Away S w S' w' ∧ ∀ k, (Value.slice a l.length c).ownBlock = some k → ¬ S' k
theorem Has.open' {w0 w : World} {p : Addr} {C : Lru} {S : Nat → Prop} (h : Has w0 p C w S) : ∃ B vI L, p = ⟨B, 0, none⟩ ∧ CacheIn w B C.room vI L C.uses ∧ L.map IR.it = C.items ∧ C.Ok ∧ S = ownS B vI L := h.at'
theorem Has.close {w0 w w' : World} {C C' : Lru} {B : Nat} {vI vI' : Value} {L L' : List IR} (h : Has w0 ⟨B, 0, none⟩ C w (ownS B vI L)) (hc : CacheIn w' B C'.room vI' L' C'.uses) (hi : L'.map IR.it = C'.items) (ho : C'.Ok) (ha : Away (ownS B vI L) w (ownS B vI' L') w') : Has w0 ⟨B, 0, none⟩ C' w' (ownS B vI' L') :=
  h.next ha ⟨B, vI', L', rfl, hc, hi, ho, rfl⟩
theorem base_of {w : World} {B room uses : Nat} {vI : Value} {L : List IR} {C : Lru} (h : CacheIn w B room vI L uses) (hi : L.map IR.it = C.items) (ho : C.Ok) : Base0 w B room uses vI L := by
  have hl : L.length = C.items.length := by rw [← hi, List.length_map]
  have h1 := ho.many
  have h2 := ho.room2
  refine ⟨h, rises_of (by rw [hi]; exact ho.its.rise), by omega, by rw [hi]; exact ho.its.closed, fun f hf => ?_⟩
  exact ho.its.kr f.it (by rw [← hi]; exact List.mem_map.2 ⟨f, hf, rfl⟩)
/-- New. -/
def NewQ (room : Int) (w : World) (e : Ending) (w' : World) : Prop :=
  (1 ≤ room ∧ room ≤ 1024 ∧ ∃ p S, e = .returned (.tuple #[.pointer (some p), .int .i64 0]) ∧ Has w p (Lru.new room.toNat) w' S) ∨ ((room < 1 ∨ 1024 < room) ∧ e = .returned (.tuple #[.pointer none, .int .i64 1]) ∧ w' = w)
theorem new_any (room : Int) (w : World) : Calls Try.prog 12 #[.int .i64 room] w (NewQ room w) := by
  by_cases h1 : room < 1
  · go_enter Try.func12, Try.ntmps12
    go_wp2
    go_ret2
    exact Or.inr ⟨Or.inl h1, rfl, rfl⟩
  · by_cases h2 : 1024 < room
    · go_enter Try.func12, Try.ntmps12
      go_wp2
      go_ret2
      exact Or.inr ⟨Or.inr h2, rfl, rfl⟩
    · obtain ⟨r, rfl⟩ : ∃ r : Nat, room = r := ⟨room.toNat, by omega⟩
      go_enter Try.func12, Try.ntmps12
      go_wp2
      go_ret2
      have hB := Blk.new w 64 #[.int .i64 r, .slice none 0 0, .int .u64 0]
      refine Or.inl ⟨by omega, by omega, _, ownS w.heap.size (.slice none 0 0) [], rfl, ⟨w.heap.size, .slice none 0 0, [], rfl, ⟨hB, OwnG.none _ _ _ _ _, fun f hf => (by cases hf), List.Pairwise.nil, fun f hf => (by cases hf)⟩, rfl, Lru.new_ok (by omega) (by omega), rfl⟩, fun k hk => ?_, (Below.refl _ _).alloc (Nat.le_refl _) _⟩
      rcases hk with rfl | hk | ⟨g, hg, _⟩
      · exact Nat.le_refl _
      · cases hk
      · cases hg
theorem dirty_snoc (its : List It) (j : Nat) (it : It) (h : its[j]? = some it) : dirtyL (its.take (j + 1)) = dirtyL (its.take j) ++ if it.dirty then [it.key] else [] := by
  unfold dirtyL
  rw [List.take_add_one, h, Option.toList_some, List.filter_append, List.map_append]
  congr 1
  cases hd : it.dirty <;> simp [hd]
def DirtyQ (l : List Int) (w : World) (e : Ending) (w' : World) : Prop := ∃ a c, e = .returned (.slice a l.length c) ∧ OwnG ivV 3 1 w' w.heap.size (.slice a l.length c) l.length l ∧ Below w.heap.size w w'
set_option maxRecDepth 100000 in
set_option maxHeartbeats 1000000 in
theorem dirty_any {w : World} {B room uses : Nat} {vI : Value} {L : List IR} (h : CacheIn w B room vI L uses) (hm : L.length ≤ 2000) :
    Calls Try.prog 19 #[.pointer (some ⟨B, 0, none⟩)] w (DirtyQ (dirtyL (L.map IR.it)) w) := by
  have c1 := h.c1
  obtain ⟨aI, cI, rfl, _, _, _⟩ := h.row.shape ptr_rowed
  have HH := Lib.hid h
  obtain ⟨n, hN⟩ := named L.length
  have HR : Hid (OwnG ptrV 74 1 w 0 (.slice aI n cI) n L) := by have := h.row; rwa [hN.out] at this
  have hl : ∀ j, (dirtyL ((L.map IR.it).take j)).length ≤ j := fun j => by
    unfold dirtyL
    rw [List.length_map]
    refine Nat.le_trans (List.length_filter_le _ _) ?_
    rw [List.length_take]
    exact Nat.min_le_left _ _
  have hT : dirtyL ((L.map IR.it).take n) = dirtyL (L.map IR.it) := by rw [← hN.out, ← List.length_map (f := IR.it), List.take_length]
  unfold DirtyQ
  rw [← hT]
  obtain ⟨F, hF⟩ := named (fun j => dirtyL ((L.map IR.it).take j))
  have hFj : ∀ j, dirtyL ((L.map IR.it).take j) = F j := fun j => congrFun hF.out j
  have hsn : ∀ (j : Nat) (f : IR), L[j]? = some f → F (j + 1) = F j ++ if f.it.dirty then [f.key] else [] := fun j f hj => by
    rw [← hFj, ← hFj]
    exact dirty_snoc _ j f.it (by rw [List.getElem?_map, hj]; rfl)
  simp only [hFj] at hl ⊢
  have hF0 : F 0 = [] := by rw [← hFj]; rfl
  have HSN := Lib.hid hsn
  have HF0 := Lib.hid hF0
  have HL := Lib.hid hl
  rw [hN.out] at c1 hm
  clear hsn hF0 h hl hT hFj
  go_enter Try.func19, Try.ntmps19
  go_wp2
  go_loopw [3, 13] (fun s3 s13 wr => ∃ (j m : Nat) (a : Option Addr) (c : Nat), j ≤ n ∧ s13 = .int .i64 j ∧ s3 = .slice a m c ∧ Hid (OwnG ivV 3 1 wr w.heap.size (.slice a m c) m (F j)) ∧ Hid (Below w.heap.size w wr)) (fun _ s13 _ => n - (intOf s13).toNat)
  case atStart => exact ⟨0, 0, none, 0, Nat.zero_le _, rfl, rfl, by rw [HF0.out]; exact OwnG.none _ _ _ _ _, Below.refl _ _⟩
  case round =>
    obtain ⟨j, m, a, c, hj, rfl, rfl, HO, HB⟩ := hrel
    by_cases hlt : j < n
    · obtain ⟨f, hf⟩ : ∃ f, L[j]? = some f := ⟨_, List.getElem?_eq_getElem (by have := hN.out; omega)⟩
      obtain ⟨b, rfl⟩ : ∃ b, aI = some ⟨b, 0, none⟩ := by
        rcases HR.out.1.2 with ⟨e, e'⟩ | ⟨g, cap, cur, e, _⟩
        · omega
        · cases e
          exact ⟨_, rfl⟩
      have cj : wr.cell? ⟨b, j, none⟩ = some (.pointer (some ⟨f.G, 0, none⟩)) := ptr_cell (HR.out.frame fun k hk => HB.out.block k (HR.out.1.lt k hk).2) j f hf
      have hit : ItemAt wr f := (HH.out.item f (List.mem_of_getElem? hf)).frame fun k hk => HB.out.block k ((HH.out.item f (List.mem_of_getElem? hf)).lt k hk)
      have c3 := hit.c3
      have c0 := hit.c0
      have hs := HSN.out j f hf
      have hm2 : m ≤ j := by have h1 := HO.out.2.1; have h2 := HL.out j; omega
      obtain ⟨K, hK⟩ := named f.key
      rw [hK.out] at hs c0
      obtain ⟨G, hG⟩ := named f.G
      rw [hG.out] at cj c3 c0
      cases hd : f.it.dirty with
      | false =>
        rw [hd] at c3 hs
        rw [if_neg (by simp), List.append_nil] at hs
        have HS := Lib.hid hs
        clear hit hf hs hd
        go_wp2
        go_roundw
        case rel => exact ⟨j + 1, m, a, c, by omega, by go_num, rfl, by rw [HS.out]; exact HO.out, HB.out⟩
        case measure => simp [intOf]; omega
      | true =>
        rw [hd] at c3 hs
        rw [if_pos rfl] at hs
        have HS := Lib.hid hs
        clear hit hf hs hd
        go_wp2_with (at_builtin; refine append_gg iv_rowed rfl (.tmp 21) (.tmp 26) rfl w.heap.size (.slice a m c) m (F j) rfl (HO.out.alloc _) (some ⟨wr.heap.size, 0, none⟩) 1 1 [K] rfl (fun e => by cases e) (one_reads wr K #[.int .i64 K] 3 rfl) (by omega) (by rw [World.size_alloc]; have := HB.out.size; omega) ?_; intro a2 c2 w2 h1 hb2 h2; have HO2 := Lib.hid h1; have HB2 := Lib.hid ((HB.out.alloc HB.out.size (.cells #[.int .i64 K] 3)).grown h2 (by rw [World.size_alloc]; have := HB.out.size; omega) fun k e => (HO.out.1.lt k e).1); clear h1 hb2 h2)
        go_roundw
        case rel => exact ⟨j + 1, m + 1, a2, c2, by omega, by go_num, rfl, by rw [HS.out]; exact HO2.out, HB2.out⟩
        case measure => simp [intOf]; omega
    · obtain rfl : j = n := by omega
      go_wp2
      go_ret
      have hm : (F j).length = m := HO.out.2.1
      rw [hm]
      exact ⟨a, c, rfl, HO.out, HB.out⟩
theorem dirty_nil (w : World) : Calls Try.prog 19 #[.pointer none] w fun e w' => e = .returned (.slice none 0 0) ∧ w' = w := by
  go_enter Try.func19, Try.ntmps19
  go_wp2
  go_ret
  exact ⟨rfl, rfl⟩
/-- Dirty. -/
theorem lruDirty_any {w0 w : World} {p : Addr} {C : Lru} {S : Nat → Prop} (h : Has w0 p C w S) : Calls Try.prog 19 #[.pointer (some p)] w (GivesL w0 p C (dirtyL C.items) S w) := by
  obtain ⟨B, vI, L, rfl, hc, hi, ho, rfl⟩ := h.open'
  refine (dirty_any hc (base_of hc hi ho).many).mono ?_
  rintro e w' ⟨a, c, rfl, h1, h2⟩
  rw [hi] at h1 ⊢
  refine ⟨a, c, _, rfl, h1, h.later h2, Away.of_below h2, fun k hk hS => ?_⟩
  have h3 := h.lt k hS
  have h4 := (h1.1.lt k hk).1
  omega
/-- Flush. -/
theorem flush_nil (w : World) : Calls Try.prog 18 #[.pointer none] w fun e w' => e = .returned (.slice none 0 0) ∧ w' = w := by
  go_enter Try.func18, Try.ntmps18
  go_wp2
  go_ret
  exact ⟨rfl, rfl⟩
theorem lruFlush_any {w0 w : World} {p : Addr} {C : Lru} {S : Nat → Prop} (h : Has w0 p C w S) : Calls Try.prog 18 #[.pointer (some p)] w (GivesL w0 p C.flush.2 C.flush.1 S w) := by
  obtain ⟨B, vI, L, rfl, hc, hi, ho, rfl⟩ := h.open'
  have hb := base_of hc hi ho
  have HD := Lib.hid (dirty_any hc hb.many)
  have HW : Hid (∀ w1 a c, Below w.heap.size w w1 → OwnG ivV 3 1 w1 w.heap.size (.slice a (dirtyL (L.map IR.it)).length c) (dirtyL (L.map IR.it)).length (dirtyL (L.map IR.it)) → Calls Try.prog 42 #[.pointer (some ⟨B, 0, none⟩), .slice a (dirtyL (L.map IR.it)).length c] w1 (WriteQ B C.room C.uses vI L (dirtyL (L.map IR.it)) w1)) := fun w1 a c hb1 ho1 =>
    write_any ⟨hb.c.later hb1, hb.rise, hb.many, hb.closed, hb.kr⟩ (ho1.reads iv_rowed).1 (dirty_present _) (by
      have h1 : (dirtyL (L.map IR.it)).length ≤ L.length := by
        unfold dirtyL
        rw [List.length_map]
        refine Nat.le_trans (List.length_filter_le _ _) ?_
        rw [List.length_map]
        exact Nat.le_refl _
      have := hb.many
      omega)
  have HH := Lib.hid h
  have HI := Lib.hid hi
  have HOK := Lib.hid ho
  unfold GivesL Lru.flush
  dsimp only
  unfold DirtyQ at HD
  unfold WriteQ at HW
  rw [hi] at HD HW
  obtain ⟨ds, hds⟩ := named (dirtyL C.items)
  rw [hds.out] at HD HW ⊢
  obtain ⟨n, hn⟩ := named ds.length
  rw [hn.out] at HD HW
  obtain ⟨l, hl⟩ := named (linesL C.items ds)
  rw [hl.out] at HW ⊢
  obtain ⟨m, hm⟩ := named l.length
  rw [hm.out] at HW ⊢
  clear h hc hi ho hb
  go_enter Try.func18, Try.ntmps18
  go_wp2_with (first
    | (go_at_call 19; refine HD.out.mono ?_; rintro e w1 ⟨a1, c1, rfl, g1, g2⟩; have HB1 := Lib.hid g2; have HWW := Lib.hid (HW.out w1 a1 c1 g2 g1); clear g1 g2)
    | (go_at_call 42; refine HWW.out.mono ?_; rintro e w2 ⟨a2, c2, L2, rfl, p1, p2, p3, p4, p5, p6⟩; have P1 := Lib.hid p1; have P2 := Lib.hid p2; have P3 := Lib.hid p3; have P4 := Lib.hid p4; have P6 := Lib.hid p6; clear p1 p2 p3 p4 p5 p6))
  go_ret
  refine ⟨a2, c2, _, rfl, P1.out.rebase HB1.out.size, HH.out.close (C' := ⟨C.room, C.uses, writeL C.items ds⟩) P2.out (by rw [P3.out]) ?_ ((Away.of_below HB1.out).trans P4.out), (Away.of_below HB1.out).trans P4.out, P6.out⟩
  have := Lru.flush_ok HOK.out
  unfold Lru.flush at this
  rw [hds.out] at this
  exact this
theorem del_none {its : List It} {k : Int} (h : ∀ y ∈ its, y.key ≠ k) : dropL its k = its := by
  unfold dropL
  rw [isD_none h, if_neg (by simp)]
  exact List.filter_eq_self.2 fun y hy => by simp [h y hy]
/-- Drop. -/
theorem drop_nil (w : World) (k : Int) : Calls Try.prog 26 #[.pointer none, .int .i64 k] w fun e w' => e = .returned (.tuple #[]) ∧ w' = w := by
  go_enter Try.func26, Try.ntmps26
  go_wp2_with (go_at_call 41; refine (find_nil _ _).mono ?_; rintro e w' ⟨rfl, rfl⟩)
  refine bodyPost_ret (results_none rfl _ _ _) rfl ?_
  exact ⟨rfl, rfl⟩
theorem lruDrop_any {w0 w : World} {p : Addr} {C : Lru} {S : Nat → Prop} (h : Has w0 p C w S) (k : Int) : Calls Try.prog 26 #[.pointer (some p), .int .i64 k] w (Gives w0 p (C.drop k) (.tuple #[]) S w) := by
  obtain ⟨B, vI, L, rfl, hc, hi, ho, rfl⟩ := h.open'
  have hb := base_of hc hi ho
  have HH := Lib.hid h
  have HOK := Lib.hid (Lru.drop_ok ho k)
  by_cases hk : ∃ f ∈ L, f.key = k
  · obtain ⟨f, hf, rfl⟩ := hk
    have HF := Lib.hid (find_some hc hb.rise hb.many hf)
    have HRM := Lib.hid (remove_any hc hb.rise hb.many hf)
    have HRS := Lib.hid hb.rise
    have hmany := hb.many
    have hD : isD (L.map IR.it) f.key = f.it.dirty := isD_mem (rises_map hb.rise) (List.mem_map.2 ⟨f, hf, rfl⟩)
    rw [hi] at hD
    have hdr : dropL C.items f.key = if f.it.dirty then endR (delIt C.items f.key) else delIt C.items f.key := by
      unfold dropL
      rw [hD]
    have HDR := Lib.hid hdr
    have HFM := Lib.hid hf
    have HI := Lib.hid hi
    obtain ⟨K, hK⟩ := named f.key
    rw [hK.out] at HF HRM HDR HOK ⊢
    have HEND : Hid (∀ (w2 : World) (vI' : Value) (L' : List IR), CacheIn w2 B C.room vI' L' C.uses → L'.map IR.it = delIt (L.map IR.it) K → Calls Try.prog 49 #[.pointer (some ⟨B, 0, none⟩)] w2 (EndQ B C.room C.uses vI' L' w2)) := fun w2 vI' L' h2 h3 => by
      refine endRecords_any h2 (rises_of (by rw [h3]; exact (rises_map HRS.out).sublist List.filter_sublist)) ?_
      have h4 := congrArg List.length h3
      have h5 : (delIt (L.map IR.it) K).length ≤ (L.map IR.it).length := List.length_filter_le _ _
      rw [List.length_map] at h4 h5
      omega
    cases hd : f.it.dirty with
    | false =>
      rw [hd, if_neg (by simp)] at HDR
      clear h hc hi ho hb hD hdr hf
      go_enter Try.func26, Try.ntmps26
      go_wp2_with (first
        | (go_at_call 41; refine HF.out.mono ?_; rintro e w' ⟨rfl, rfl⟩)
        | (go_at_call 48; refine HRM.out.mono ?_; rintro e w2 ⟨rfl, vI', L', q1, q2, q3, q4⟩; have c3 := (q4 f HFM.out).c3; rw [hd] at c3; have Q1 := Lib.hid q1; have Q2 := Lib.hid q2; have Q3 := Lib.hid q3; clear q1 q2 q3 q4))
      go_end0
      exact ⟨_, rfl, HH.out.close (C' := ⟨C.room, C.uses, dropL C.items K⟩) Q1.out (by rw [Q2.out, HDR.out, HI.out]) HOK.out Q3.out, Q3.out⟩
    | true =>
      rw [hd, if_pos rfl] at HDR
      clear h hc hi ho hb hD hdr hf
      go_enter Try.func26, Try.ntmps26
      go_wp2_with (first
        | (go_at_call 41; refine HF.out.mono ?_; rintro e w' ⟨rfl, rfl⟩)
        | (go_at_call 48; refine HRM.out.mono ?_; rintro e w2 ⟨rfl, vI', L', q1, q2, q3, q4⟩; have c3 := (q4 f HFM.out).c3; rw [hd] at c3; have Q1 := Lib.hid q1; have Q2 := Lib.hid q2; have Q3 := Lib.hid q3; have HE2 := Lib.hid (HEND.out w2 vI' L' q1 q2); clear q1 q2 q3 q4)
        | (go_at_call 49; refine HE2.out.mono ?_; rintro e w3 ⟨rfl, L3, q1, q2, q3, _⟩; have R1 := Lib.hid q1; have R2 := Lib.hid q2; have R3 := Lib.hid q3; clear q1 q2 q3))
      go_end0
      exact ⟨_, rfl, HH.out.close (C' := ⟨C.room, C.uses, dropL C.items K⟩) R1.out (by rw [R2.out, Q2.out, HDR.out, HI.out]) HOK.out (Q3.out.trans R3.out), Q3.out.trans R3.out⟩
  · have hno : ∀ f ∈ L, f.key ≠ k := fun f hf e => hk ⟨f, hf, e⟩
    have HF := Lib.hid (find_none hc hb.rise hb.many k hno)
    have hdr : dropL C.items k = C.items := del_none fun y hy => by
      rw [← hi] at hy
      obtain ⟨f, hf, rfl⟩ := List.mem_map.1 hy
      exact hno f hf
    have hC : C.drop k = C := by
      unfold Lru.drop
      rw [hdr]
    rw [hC]
    clear h hc hi ho hb hno hk hdr hC
    go_enter Try.func26, Try.ntmps26
    go_wp2_with (go_at_call 41; refine HF.out.mono ?_; rintro e w' ⟨rfl, rfl⟩)
    refine bodyPost_ret (results_none rfl _ _ _) rfl ?_
    exact ⟨_, rfl, HH.out, Away.refl _ _⟩
end Go.Proofs.Ythmkmhfoicfapaa
