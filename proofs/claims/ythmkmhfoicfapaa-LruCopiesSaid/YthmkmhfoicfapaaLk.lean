/-
  Lines written, the oldest evicted (package lru). Conditions: the keys rise, what items are ordered after is there.
-/
import Derived.Test.YthmkmhfoicfapaaLj
import Derived.Test.YthmkmhfoicfapaaLm
namespace Go.Proofs.Ythmkmhfoicfapaa
open Go.RowKit Go.Maps
set_option linter.unusedVariables false

theorem addL_keys {its : List It} (hc : Closed its) (hr : its.Pairwise fun a b => a.key < b.key) : ∀ (n : Nat) (st : List Int × List Int) (k : Int), Present its k → (∀ x ∈ st.2, Present its x) → ∀ x ∈ (addL its n st k).2, Present its x
  | 0, _, _, _, h => h
  | n + 1, (met, all), k, hk, h => by
    unfold addL
    split
    · exact h
    · obtain ⟨y, hy, rfl⟩ := hk
      rw [firstsOf_mem hr hy]
      have key : ∀ (ks : List Int), (∀ f ∈ ks, Present its f) → ∀ st : List Int × List Int, (∀ x ∈ st.2, Present its x) → ∀ x ∈ (ks.foldl (addL its n) st).2, Present its x := by
        intro ks
        induction ks with
        | nil => exact fun _ st h => h
        | cons f r ih => exact fun hks st h => ih (fun f' hf' => hks f' (by simp [hf'])) _ (addL_keys hc hr n st f (hks f (by simp)) h)
      intro x hx
      rcases List.mem_append.1 hx with hx | hx
      · exact key y.firsts (hc y hy) (y.key :: met, all) h x hx
      · obtain rfl : x = y.key := by simpa using hx
        exact ⟨y, hy, rfl⟩
theorem lines_keys {its : List It} (hc : Closed its) (hr : its.Pairwise fun a b => a.key < b.key) : ∀ (ks : List Int), (∀ f ∈ ks, Present its f) → ∀ x ∈ linesL its ks, Present its x := by
  have key : ∀ (ks : List Int), (∀ f ∈ ks, Present its f) → ∀ st : List Int × List Int, (∀ x ∈ st.2, Present its x) → ∀ x ∈ (ks.foldl (addL its its.length) st).2, Present its x := by
    intro ks
    induction ks with
    | nil => exact fun _ st h => h
    | cons f r ih => exact fun hks st h => ih (fun f' hf' => hks f' (by simp [hf'])) _ (addL_keys hc hr _ st f (hks f (by simp)) h)
  exact fun ks hks => key ks hks ([], []) (fun x hx => by cases hx)
theorem lines_len {its : List It} (hc : Closed its) (hr : its.Pairwise fun a b => a.key < b.key) (ks : List Int) (hks : ∀ f ∈ ks, Present its f) : (linesL its ks).length ≤ its.length := by
  have h := fold_more (n := its.length) hc hr ks hks _ (StOk.start its)
  have h1 := h.1
  have h2 := h.2
  show (ks.foldl (addL its its.length) ([], [])).2.length ≤ _
  omega
def cleanIt (it : It) : It := { it with dirty := false }
theorem setIt_mid {I1 I2 : List It} {a : It} (h : (I1 ++ a :: I2).Pairwise fun a b => a.key < b.key) (g : It → It) : setIt (I1 ++ a :: I2) a.key g = I1 ++ g a :: I2 := by
  rw [List.pairwise_append, List.pairwise_cons] at h
  obtain ⟨_, ⟨h1, _⟩, h2⟩ := h
  unfold setIt
  rw [List.map_append, List.map_cons, if_pos rfl]
  have e1 : I1.map (fun it => if it.key = a.key then g it else it) = I1 := by
    conv => rhs; rw [← List.map_id I1]
    exact List.map_congr_left fun y hy => by
      have := h2 y hy a (by simp)
      rw [if_neg (by omega)]
      rfl
  have e2 : I2.map (fun it => if it.key = a.key then g it else it) = I2 := by
    conv => rhs; rw [← List.map_id I2]
    exact List.map_congr_left fun y hy => by
      have := h1 y hy
      rw [if_neg (by omega)]
      rfl
  rw [e1, e2]
theorem clean_snoc (its : List It) (l : List Int) (k : Int) : cleanL its (l ++ [k]) = setIt (cleanL its l) k cleanIt := by
  unfold cleanL setIt cleanIt
  rw [List.map_map]
  refine List.map_congr_left fun y _ => ?_
  show (if y.key ∈ l ++ [k] then ({ y with dirty := false } : It) else y) = if (if y.key ∈ l then ({ y with dirty := false } : It) else y).key = k then cleanIt (if y.key ∈ l then ({ y with dirty := false } : It) else y) else (if y.key ∈ l then ({ y with dirty := false } : It) else y)
  have hk : (if y.key ∈ l then ({ y with dirty := false } : It) else y).key = y.key := by split <;> rfl
  rw [hk]
  by_cases h2 : y.key = k
  · rw [if_pos h2, if_pos (by simp [h2])]
    unfold cleanIt
    split <;> rfl
  · rw [if_neg h2]
    by_cases h1 : y.key ∈ l
    · rw [if_pos h1, if_pos (by simp [h1])]
    · rw [if_neg h1, if_neg (by simp [h1, h2])]
theorem clean_keys (its : List It) (l : List Int) : (cleanL its l).map It.key = its.map It.key := by
  unfold cleanL
  rw [List.map_map]
  refine List.map_congr_left fun y _ => ?_
  show (if y.key ∈ l then ({ y with dirty := false } : It) else y).key = y.key
  split <;> rfl
structure Cleaning (w1 : World) (B room uses : Nat) (vI : Value) (L : List IR) (l : List Int) (wr : World) (L' : List IR) : Prop where
  c : CacheIn wr B room vI L' uses
  its : L'.map IR.it = cleanL (L.map IR.it) l
  away : Away (ownS B vI L) w1 (ownS B vI L') wr
  gs : L'.map IR.G = L.map IR.G
theorem Cleaning.rises {w1 wr : World} {B room uses : Nat} {vI : Value} {L L' : List IR} {l : List Int} (h : Cleaning w1 B room uses vI L l wr L') (hs : Rises L) : Rises L' := rises_keys hs (by rw [h.its]; exact clean_keys _ _)
theorem Cleaning.len {w1 wr : World} {B room uses : Nat} {vI : Value} {L L' : List IR} {l : List Int} (h : Cleaning w1 B room uses vI L l wr L') : L'.length = L.length := by
  have := congrArg List.length h.gs
  simpa using this
theorem map_eq_split {α β : Type} {f : α → β} {L : List α} {M : List β} {b : β} (h : L.map f = M) (hb : b ∈ M) : ∃ a ∈ L, f a = b := by
  subst h
  simpa using hb
/-- An item cleaned. -/
theorem Cleaning.step {w1 wr : World} {B room uses : Nat} {vI : Value} {L1 L2 L : List IR} {f : IR} {l : List Int} (h : Cleaning w1 B room uses vI L l wr (L1 ++ f :: L2)) (hs : Rises L) : ∃ L', Cleaning w1 B room uses vI L (l ++ [f.key]) (wr.setCell ⟨f.G, 3, none⟩ (.bool false)) L' := by
  obtain ⟨vb, vf, hf⟩ := h.c.item f (by simp)
  obtain ⟨S', q1, q2⟩ := item_set h.c hf (World.grownBy.refl _ none) (fun k e => by cases e) 3 (.bool false) (cleanIt f.it) rfl hf.bs hf.fs (fun k hk => Or.inl (hf.sB hk)) (fun k hk => Or.inl (hf.sF hk))
  refine ⟨_, q1, ?_, h.away.trans q2, by rw [← h.gs]; simp⟩
  rw [clean_snoc, ← h.its, List.map_append, List.map_append, List.map_cons, List.map_cons]
  have hr := rises_map (h.rises hs)
  rw [List.map_append, List.map_cons] at hr
  exact (setIt_mid hr cleanIt).symm
def WriteQ (B room uses : Nat) (vI : Value) (L : List IR) (ks : List Int) (w : World) (e : Ending) (w' : World) : Prop :=
  ∃ (a : Option Addr) (c : Nat) (L' : List IR), e = .returned (.slice a (linesL (L.map IR.it) ks).length c) ∧ OwnG ivV 3 1 w' w.heap.size (.slice a (linesL (L.map IR.it) ks).length c) (linesL (L.map IR.it) ks).length (linesL (L.map IR.it) ks) ∧
    CacheIn w' B room vI L' uses ∧ L'.map IR.it = writeL (L.map IR.it) ks ∧ Away (ownS B vI L) w (ownS B vI L') w' ∧ L'.map IR.G = L.map IR.G ∧ ∀ k, (Value.slice a (linesL (L.map IR.it) ks).length c).ownBlock = some k → ¬ ownS B vI L' k
set_option maxRecDepth 100000 in
set_option maxHeartbeats 1000000 in
theorem write_any {w : World} {B room uses : Nat} {vI : Value} {L : List IR} (hb : Base0 w B room uses vI L) {a : Option Addr} {n c : Nat} {ks : List Int} (hK : Reads ivV w a n ks) (hks : ∀ k ∈ ks, ∃ y ∈ L.map IR.it, y.key = k) (hn : n ≤ 2000) :
    Calls Try.prog 42 #[.pointer (some ⟨B, 0, none⟩), .slice a n c] w (WriteQ B room uses vI L ks w) := by
  have HLN := Lib.hid (lines_any hb (c := c) hK hks hn)
  have HPR := Lib.hid (lines_keys hb.closed (rises_map hb.rise) ks hks)
  have hll := lines_len hb.closed (rises_map hb.rise) ks hks
  have HC0 := Lib.hid hb.c
  have HS := Lib.hid hb.rise
  have hmany := hb.many
  unfold LinesQ at HLN
  unfold WriteQ
  rw [List.length_map] at hll
  have HWL : Hid (writeL (L.map IR.it) ks = endR (cleanL (L.map IR.it) (linesL (L.map IR.it) ks))) := rfl
  obtain ⟨l, hl⟩ := named (linesL (L.map IR.it) ks)
  rw [hl.out] at HLN HPR hll HWL ⊢
  rw [HWL.out]
  obtain ⟨m, hm⟩ := named l.length
  rw [hm.out] at HLN hll ⊢
  clear hb hK hks HWL
  go_enter Try.func42, Try.ntmps42
  go_wp2_with (go_at_call 40; refine HLN.out.mono ?_; rintro e w1 ⟨al, cl, rfl, hown, hbel⟩; have HO := Lib.hid hown; have HB1 := Lib.hid hbel; clear hown hbel)
  go_loopw [13] (fun s13 wr => ∃ (j : Nat) (L' : List IR), j ≤ m ∧ s13 = .int .i64 j ∧ Hid (Cleaning w1 B room uses vI L (l.take j) wr L')) (fun s13 _ => m - (intOf s13).toNat)
  case atStart => exact ⟨0, L, Nat.zero_le _, rfl, HC0.out.later HB1.out, by rw [List.take_zero]; unfold cleanL; simp, Away.refl _ _, rfl⟩
  case round =>
    obtain ⟨j, L', hj, rfl, HJ⟩ := hrel
    have hRow : OwnG ivV 3 1 wr w.heap.size (.slice al m cl) m l := HO.out.frame fun k hk => HJ.out.away.block k (HO.out.1.lt k hk).2 fun h => by
      have h1 := HC0.out.ltS h
      have h2 := (HO.out.1.lt k hk).1
      omega
    by_cases hlt : j < m
    · obtain ⟨k, hk⟩ : ∃ k, l[j]? = some k := ⟨_, List.getElem?_eq_getElem (by have := hm.out; omega)⟩
      obtain ⟨b, rfl⟩ : ∃ b, al = some ⟨b, 0, none⟩ := by
        rcases HO.out.1.2 with ⟨e, e'⟩ | ⟨g, cap, cur, e, _⟩
        · omega
        · cases e
          exact ⟨_, rfl⟩
      have ck : wr.cell? ⟨b, j, none⟩ = some (.int .i64 k) := by
        have := (hRow.reads iv_rowed).1.cellAt iv_rowed j 0 k (.int .i64 k) hk rfl
        rwa [Nat.zero_add, Nat.mul_one, Nat.add_zero] at this
      obtain ⟨y, hy, hyk⟩ := HPR.out k (List.mem_of_getElem? hk)
      have hks' : k ∈ (L'.map IR.it).map It.key := by
        rw [HJ.out.its, clean_keys]
        exact List.mem_map.2 ⟨y, hy, hyk⟩
      obtain ⟨it, hit, hitk⟩ := List.mem_map.1 hks'
      obtain ⟨f, hf, rfl⟩ := List.mem_map.1 hit
      have hfind := find_some HJ.out.c (HJ.out.rises HS.out) (by have := HJ.out.len; omega) hf
      rw [show f.key = k from hitk] at hfind
      have HFIND := Lib.hid hfind
      obtain ⟨L1, L2, rfl⟩ := mid_of hf
      have f3 : wr.frozen? ⟨f.G, 3, none⟩ = false := by
        obtain ⟨vb, vf, h⟩ := HJ.out.c.item f (by simp)
        exact h.blk.free 3
      have c3 : wr.cell? ⟨f.G, 3, none⟩ = some (.bool f.it.dirty) := (HJ.out.c.item f (by simp)).c3
      have HST := Lib.hid (HJ.out.step HS.out)
      rw [show f.key = k from hitk] at HST
      have HTK : Hid (l.take (j + 1) = l.take j ++ [k]) := by rw [Hid, List.take_add_one, hk]; rfl
      clear hk hfind hf hitk hit hks' hyk hy hRow
      go_wp2_with (go_at_call 41; refine HFIND.out.mono ?_; rintro e w' ⟨rfl, rfl⟩)
      go_roundw
      case rel =>
        obtain ⟨L'', h⟩ := HST.out
        exact ⟨j + 1, L'', by omega, by go_num, by rw [HTK.out]; exact h⟩
      case measure => simp [intOf]; omega
    · obtain rfl : j = m := by omega
      rw [List.take_of_length_le (by have := hm.out; omega)] at HJ
      have HEND := Lib.hid (endRecords_any HJ.out.c (HJ.out.rises HS.out) (by have := HJ.out.len; omega))
      have HROW := Lib.hid hRow
      clear hRow
      go_wp2_with (go_at_call 49; refine HEND.out.mono ?_; rintro e w2 ⟨rfl, L2, q1, q2, q3, q4⟩; have Q1 := Lib.hid q1; have Q2 := Lib.hid q2; have Q3 := Lib.hid q3; have Q4 := Lib.hid q4; clear q1 q2 q3 q4)
      go_ret
      have hAll : Away (ownS B vI L) w1 (ownS B vI L2) w2 := HJ.out.away.trans Q3.out
      have hnS : ∀ k, (Value.slice al j cl).ownBlock = some k → ¬ ownS B vI L2 k := fun k hk h => by
        have h2 := HO.out.1.lt k hk
        rcases hAll.mine k h with h1 | h1
        · have h3 := HC0.out.ltS h1
          omega
        · omega
      refine ⟨al, cl, L2, rfl, HO.out.frame fun k hk => hAll.block k (HO.out.1.lt k hk).2 fun h => by
        have h1 := HC0.out.ltS h
        have h2 := (HO.out.1.lt k hk).1
        omega, Q1.out, by rw [Q2.out, HJ.out.its], (Away.of_below HB1.out).trans hAll, Q4.out.trans HJ.out.gs, hnS⟩
end Go.Proofs.Ythmkmhfoicfapaa
