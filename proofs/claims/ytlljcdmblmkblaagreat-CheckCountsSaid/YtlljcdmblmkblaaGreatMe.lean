/-
  What layer 15 needs, part 5: bytes, sums, unpacking, entries, tables, counts, metas, copies, check. Conditions: stated at each.
-/
import Derived.Test.YtlljcdmblmkblaaGreatMd
import Derived.Test.YtlljcdmblmkblaaGreatMb
namespace Go.Proofs.YtlljcdmblmkblaaGreat
open Go.RowKit
set_option linter.unusedVariables false

/-- Zeros in an entry's place. -/
def enZ1 : En := (1, 0, 0, 0, 0)
def setZ (T : Tb) (c : Nat) : Tb := T.set (c / 8) ((T.getD (c / 8) []).set (c % 8) enZ1)
theorem enZ1_ok : EnOk enZ1 := by unfold EnOk enZ1 I64; dsimp only; omega
theorem setZ_tb (T : Tb) (c j : Nat) : tbAt (setZ T c) j = if c / 8 = j ∧ c / 8 < T.length then (tbAt T (c / 8)).set (c % 8) enZ1 else tbAt T j := by
  unfold setZ
  rw [tbAt_set]
  rfl
theorem at_some {T : Tb} {c : Nat} (h : (atN T c).1 ≠ 0) : c / 8 < T.length ∧ c % 8 < (T.getD (c / 8) []).length := by
  constructor
  · rcases Nat.lt_or_ge (c / 8) T.length with h1 | h1
    · exact h1
    · unfold atN at h
      rw [tbAt_out h1, lfAt_nil] at h
      exact absurd rfl h
  · rcases Nat.lt_or_ge (c % 8) (T.getD (c / 8) []).length with h1 | h1
    · exact h1
    · unfold atN at h
      have : lfAt (tbAt T (c / 8)) (c % 8) = enZ := lfAt_out h1
      rw [this] at h
      exact absurd rfl h
theorem atN_setZ {T : Tb} {c : Nat} (h : (atN T c).1 ≠ 0) (j : Nat) : atN (setZ T c) j = if j = c then enZ1 else atN T j := by
  obtain ⟨h1, h2⟩ := at_some h
  unfold atN
  rw [setZ_tb]
  by_cases e : c / 8 = j / 8
  · rw [if_pos ⟨e, h1⟩, lfAt_set]
    by_cases e2 : c % 8 = j % 8
    · rw [if_pos ⟨e2, h2⟩, if_pos (by omega)]
    · rw [if_neg (fun k => e2 k.1), if_neg (fun k => e2 (by rw [k])), e]
  · rw [if_neg (fun k => e k.1), if_neg (fun k => e (by rw [k]))]
theorem may_z1 {c : Int} (hc : 0 ≤ c ∧ c ≤ 6) : MayE enZ1 c := ⟨hc, Or.inl ⟨Or.inr rfl, rfl, rfl, rfl, rfl⟩⟩
theorem right_zero {T : Tb} {n c0 : Int} (h : rightT T n c0) {c : Nat} (hc : (atN T c).1 ≠ 0) : rightT (setZ T c) n c0 := by
  obtain ⟨h1, h2⟩ := at_some hc
  obtain ⟨a1, a2, a3, a4, a5⟩ := h
  have hlen : (setZ T c).length = T.length := by unfold setZ; rw [List.length_set]
  have hset : ∀ lf : List En, ∀ k, k < lf.length → lf.set k enZ1 ≠ [] := fun lf k hk e => by
    have := congrArg List.length e
    rw [List.length_set] at this
    simp at this
    subst this
    simp at hk
  refine ⟨a1, a2, fun h0 => ?_, by rw [hlen]; exact a4, fun i hi hne => ?_⟩
  · rw [hlen] at h0 ⊢
    rw [setZ_tb]
    split
    · exact hset _ _ h2
    · exact a3 h0
  · rw [hlen] at hi
    rw [setZ_tb] at hne ⊢
    by_cases e : c / 8 = i ∧ c / 8 < T.length
    · rw [if_pos e]
      obtain ⟨rfl, _⟩ := e
      obtain ⟨b1, b2, _⟩ := a5 (c / 8) h1 (fun e => by
        have : (T.getD (c / 8) []).length = 0 := by
          have e' : T.getD (c / 8) [] = [] := e
          rw [e']
          rfl
        omega)
      refine ⟨by rw [List.length_set]; exact b1, fun k hk => ?_, c % 8, by omega, ?_⟩
      · rw [lfAt_set]
        split
        · rename_i h3
          have h4 := (b2 (c % 8) (by omega)).2 hc
          refine ⟨may_z1 a2, fun _ => ?_⟩
          rw [← h3.1]
          exact h4
        · exact b2 k hk
      · rw [lfAt_set, if_pos ⟨rfl, h2⟩]
        decide
    · rw [if_neg e] at hne ⊢
      exact a5 i hi hne
theorem TabF.zero {w : World} {base : Nat} {F : Nat → Prop} {a : Option Addr} {len cap : Nat} {T : Tb} (h : TabF w base F a len cap T) (c : Nat) (h1 : c / 8 < T.length) (h2 : c % 8 < (T.getD (c / 8) []).length) :
    ∃ (g ll cl b : Nat) (cur : Array Value), a = some ⟨g, 0, none⟩ ∧ c / 8 < len ∧ w.cell? ⟨g, c / 8, none⟩ = some (.slice (some ⟨b, 0, none⟩) ll cl) ∧ c % 8 < ll ∧ (base ≤ b ∧ g ≠ b) ∧ w.heap[b]? = some (.cells cur 24 (0, 0)) ∧ c % 8 * 5 + (enV enZ1).length ≤ cur.size ∧
      TabF (w.setRow b (cur.toList.take (c % 8 * 5) ++ enV enZ1 ++ cur.toList.drop (c % 8 * 5 + (enV enZ1).length)).toArray) base F a len cap (setZ T c) ∧ w.grownBy (w.setRow b (cur.toList.take (c % 8 * 5) ++ enV enZ1 ++ cur.toList.drop (c % 8 * 5 + (enV enZ1).length)).toArray) (some b) := by
  obtain ⟨es, hq, rfl, hlen, hll, hF1, hF2⟩ := h
  have hel : es.length = len := hq.size
  have hi : c / 8 < len := by rw [tbOf_len] at h1; omega
  obtain ⟨g, d, k1, k2, k3, k4, k5, k6⟩ := hq.at (c / 8) hi
  have hd : (tbOf es).getD (c / 8) [] = d.2.2.2 := by
    rw [List.getD_eq_getElem?_getD]
    unfold tbOf
    rw [List.getElem?_map, k4]
    rfl
  rw [hd] at h2
  have hm := List.mem_of_getElem? k4
  have hL := hq.leaf _ hm
  obtain ⟨al, ll, cl, xs⟩ := d
  dsimp only at h2 k5 hd
  have hxl : xs.length = ll := hL.1.2.1
  obtain ⟨b, e, hb1, hb2⟩ := hL.form (by dsimp only; omega)
  dsimp only at e
  subst e
  obtain ⟨cur, c1, c2, c3, c4⟩ := hL.store rfl (c % 8) (by dsimp only; omega) enZ1 enZ1_ok
  dsimp only at c3
  have hbD : blkD (some ⟨b, 0, none⟩, ll, cl, xs) = some b := rfl
  have hQ := hq.setEs (c / 8) _ (some ⟨b, 0, none⟩, ll, cl, xs.set (c % 8) enZ1) k4 (by rw [hbD]; exact c4) rfl c3
  have hlt : c / 8 < es.length := by omega
  have hS := hQ.same (List.ext_getElem? fun j => by
    rw [List.getElem?_map, List.getElem?_map, List.getElem?_set]
    by_cases hj : c / 8 = j
    · subst hj
      rw [if_pos rfl, if_pos hlt, k4]
      rfl
    · rw [if_neg hj])
  have hgb : g ≠ b := fun e => row_apart hq.out hL.1 (by decide) g (by rw [k1]; rfl) (by rw [e]; rfl)
  refine ⟨g, ll, cl, b, cur, k1, hi, k5, by omega, ⟨hb1, hgb⟩, c1, c2, ⟨_, hS, ?_, hlen, ?_, hF1, fun y hy k hk => ?_⟩, c4⟩
  · unfold setZ
    rw [hd]
    unfold tbOf
    rw [List.map_set]
  · intro lf hlf
    unfold setZ at hlf
    rcases List.mem_or_eq_of_mem_set hlf with hy | rfl
    · exact hll _ hy
    · rw [List.length_set, hd]
      exact hll xs (List.mem_map.2 ⟨_, hm, rfl⟩)
  · rcases List.mem_or_eq_of_mem_set hy with hy | rfl
    · exact hF2 y hy k hk
    · exact hF2 _ hm k hk
theorem ShsN.none_kept {w w' : World} {base len cap : Nat} {F : Nat → Prop} {a : Option Addr} {row : Option Nat} (h : ShsN w base F a len cap []) (hg : w.grownBy w' row) (ho : Off w row 77) : ShsN w' base F a len cap [] := by
  obtain ⟨ds, h1, h2, h3, h4⟩ := h
  have hd : ds = [] := by cases ds with
    | nil => rfl
    | cons x y => cases h3
  subst hd
  exact ⟨[], ho.row h1 hg, fun d hd => (by cases hd), rfl, h4⟩
theorem MetaN.zero0 {w : World} {base : Nat} {F G : Nat → Prop} {x : Mt} {C Z : Int} {bk : ByteArray} {T : Tb} {B : List BmM} {K : List Int} (h : MetaN w base F G x ⟨C, Z, bk, T, [], B, K⟩) (c : Nat) (h1 : c / 8 < T.length) (h2 : c % 8 < (T.getD (c / 8) []).length) :
    ∃ (g ll cl b : Nat) (cur : Array Value), x.a0 = some ⟨g, 0, none⟩ ∧ c / 8 < x.n0 ∧ w.cell? ⟨g, c / 8, none⟩ = some (.slice (some ⟨b, 0, none⟩) ll cl) ∧ c % 8 < ll ∧ (base ≤ b ∧ g ≠ b) ∧ w.heap[b]? = some (.cells cur 24 (0, 0)) ∧ c % 8 * 5 + (enV enZ1).length ≤ cur.size ∧
      MetaN (w.setRow b (cur.toList.take (c % 8 * 5) ++ enV enZ1 ++ cur.toList.drop (c % 8 * 5 + (enV enZ1).length)).toArray) base F G x ⟨C, Z, bk, setZ T c, [], B, K⟩ ∧ w.grownBy (w.setRow b (cur.toList.take (c % 8 * 5) ++ enV enZ1 ++ cur.toList.drop (c % 8 * 5 + (enV enZ1).length)).toArray) (some b) := by
  obtain ⟨g, ll, cl, b, cur, k1, k2, k3, k4, k5, k6, k7, k8, k9⟩ := h.T.zero c h1 h2
  have hY : Blk w b 24 cur := k6
  exact ⟨g, ll, cl, b, cur, k1, k2, k3, k4, k5, k6, k7, ⟨h.hc, h.hs, h.hbk, k8, h.S.none_kept k9 (hY.off (by decide)), h.B.off (hY.off (by decide)) (hY.off (by decide)) k9, h.K.off (hY.off (by decide)) k9⟩, k9⟩
theorem wp_store_in9 {P : Program} {op : Oper} {a : Act} {w : World} {K : Act → World → Prop} {Q : Exit → Act → World → Prop} {t e : TypeId} (x y : Operand) (ho : op.op = .store t x y) (g o : Nat) (cur c' : Array Value)
    (hx : a.eval x = .pointer (some ⟨g, o, none⟩)) (hy : a.eval y = .agg c') (hg : w.heap[g]? = some (.cells cur e (0, 0))) (hi : (P.info? t).map (·.size) = some c'.size) (hfit : o + c'.toList.length ≤ cur.size) (h1 : ∀ u ∈ c'.toList, u.oneCell' = true)
    (h : K (a.put op.dst undef) (w.setRow g (cur.toList.take o ++ c'.toList ++ cur.toList.drop (o + c'.toList.length)).toArray)) : op.wp P a w K Q := by
  unfold Oper.wp execOp
  simp only [ho, hx, hy, run_storeAt_in9 w t e g o cur c' hg hi hfit h1, Sem.run_bind, Result.andThen_ok]
  exact h
/-- The table without so many bad lines. -/
def zerosT (T : Tb) (L : List Ln) : Tb := L.foldl (fun T x => setZ T x.2.1.toNat) T
theorem zerosT_snoc (T : Tb) (L : List Ln) (x : Ln) : zerosT T (L ++ [x]) = setZ (zerosT T L) x.2.1.toNat := by unfold zerosT; rw [List.foldl_append]; rfl
/-- A line of the meta's own table, at a place that is in use. -/
def LnIn (T : Tb) (x : Ln) : Prop := x.1 = -1 ∧ ∃ c : Nat, x.2.1 = (c : Int) ∧ (atN T c).1 ≠ 0 ∧ c < 100000
theorem LnIn.set {T : Tb} {x : Ln} (h : LnIn T x) {d : Nat} (hd : (atN T d).1 ≠ 0) : LnIn (setZ T d) x := by
  obtain ⟨h1, c, h2, h3, h4⟩ := h
  refine ⟨h1, c, h2, ?_, h4⟩
  rw [atN_setZ hd]
  split
  · decide
  · exact h3
theorem zeros_in {T : Tb} {n c0 : Int} (hr : rightT T n c0) : ∀ (L : List Ln), (∀ y ∈ L, LnIn T y) → rightT (zerosT T L) n c0 ∧ ∀ y, LnIn T y → LnIn (zerosT T L) y := fun L => by
  unfold zerosT
  induction L generalizing T with
  | nil => exact fun _ => ⟨hr, fun y hy => hy⟩
  | cons y r ih =>
    intro hL
    obtain ⟨_, c, h2, h3, _⟩ := hL y (List.mem_cons_self ..)
    have hc : (atN T y.2.1.toNat).1 ≠ 0 := by rw [h2, Int.toNat_natCast]; exact h3
    rw [List.foldl_cons]
    obtain ⟨g1, g2⟩ := ih (right_zero hr hc) (fun z hz => (hL z (List.mem_cons_of_mem _ hz)).set hc)
    exact ⟨g1, fun z hz => g2 z (hz.set hc)⟩
theorem irow_ints {w : World} {R n base : Nat} {f : Nat → Int} (h : IRow w R n f) (hb : base ≤ R) (hn : n ≤ 65536) : IntsN w base (some ⟨R, 0, none⟩) n n ((List.range n).map f) := by
  obtain ⟨cs, h1, h2, h3⟩ := h
  refine ⟨⟨⟨by rw [flat_len (cv := ivV) (sz := 1) (fun _ => rfl), List.length_map, List.length_range], Or.inr ⟨R, n, cs, rfl, hb, h1, Nat.le_refl _, by unfold maxLen; omega, by rw [h2, Nat.mul_one], ?_⟩⟩, by rw [List.length_map, List.length_range], by omega⟩, by omega⟩
  have e : ∀ l : List Int, l.flatMap ivV = l.map (Value.int .i64) := fun l => by
    induction l with
    | nil => rfl
    | cons x r ih => rw [List.flatMap_cons, ih]; rfl
  rw [e, Nat.mul_one, List.take_of_length_le (by rw [Array.length_toList, h2]; exact Nat.le_refl _)]
  refine List.ext_getElem? fun j => ?_
  rw [List.map_map, List.getElem?_map, Array.getElem?_toList]
  by_cases hj : j < n
  · rw [h3 j hj, List.getElem?_range hj]
    rfl
  · rw [Array.getElem?_eq_none (by omega), List.getElem?_eq_none (by rw [List.length_range]; omega)]
    rfl
set_option maxRecDepth 100000 in
set_option maxHeartbeats 3200000 in
theorem without15 (w : World) (x : Mt) (C Z : Int) (bk : ByteArray) (T : Tb) (B : List BmM) (K : List Int) (h : MetaD w x ⟨C, Z, bk, T, [], B, K⟩) (ba : Option Addr) (bn bc : Nat) (L : List Ln) (hL : Reads lnV w ba bn L) (hbn : bn ≤ 10000000) (hLI : ∀ y ∈ L, LnIn T y) {tn tc : Int} (hRT : rightT T tn tc)
    (a : Option Addr) (n cp : Nat) (hn : n ≤ 1000000000) {KN : Nat} (hK : wholeN n = KN) :
    Calls Tryz.prog 39 #[.agg (mtA ⟨C, Z, bk, T, [], B, K⟩ x), .slice ba bn bc, .slice a n cp] w fun e w' => ∃ x' : Mt, e = .returned (.agg (mtA ⟨C, Z, bk, zerosT T L, [], B, (List.range KN).map (ofL (allLines (zerosT T L) []))⟩ x')) ∧ MetaN w' w.heap.size (fun _ => True) (fun _ => True) x' ⟨C, Z, bk, zerosT T L, [], B, (List.range KN).map (ofL (allLines (zerosT T L) []))⟩ ∧ Below w.heap.size w w' := by
  have HC := Lib.hid (fun W (hb : Below w.heap.size w W) => pcopyM W x _ (h.later hb))
  have HSO := Lib.hid (fun W => sectorsOf15 W a n cp hn hK)
  have HZI := Lib.hid (fun j => zeros_in hRT (L.take j) (fun y hy => hLI y (List.mem_of_mem_take hy)))
  have HLI := Lib.hid hLI
  have hKN : KN ≤ 65536 := by rw [← hK]; unfold wholeN; omega
  dsimp only [mtA] at HC ⊢
  have HB0 := Lib.hid (((Below.refl w.heap.size w).alloc (Nat.le_refl _) (.cells #[.int .i64 C, .int .i64 Z, .string bk, .slice x.a0 x.n0 x.c0, .slice x.sa x.sn x.sc, .slice x.ma x.mn x.mc, .slice x.ca x.cn x.cc] 41)).alloc (by rw [World.size_alloc]; omega) (.cells #[.int .i64 0, .int .i64 0, .string ⟨#[]⟩, .slice none 0 0, .slice none 0 0, .slice none 0 0, .slice none 0 0] 41))
  go_enter Tryz.func39, Tryz.ntmps39
  go_wp2_with (first
    | (go_at_call 69; (with_reducible refine (HC.out _ HB0.out).mono ?_); rintro e w1 ⟨x1, H, rfl, hN, hb⟩; obtain ⟨x1a, x1n, x1c, sa, sn, sc, ma, mn, mc, ca, cn, cc⟩ := x1; have HN1 := Lib.hid hN; have HB1 := Lib.hid hb; clear hN hb; dsimp only [mtA]))
  have HBW := Lib.hid (HB0.out.trans (HB1.out.mono HB0.out.size))
  obtain ⟨Q, hQ⟩ := named (w.heap.size + 2)
  have HN2 : Hid (MetaN (w1.alloc (.cells #[.int .i64 C, .int .i64 Z, .string bk, .slice x1a x1n x1c, .slice sa sn sc, .slice ma mn mc, .slice ca cn cc] 41)) Q (Iv Q H) (From H) ⟨x1a, x1n, x1c, sa, sn, sc, ma, mn, mc, ca, cn, cc⟩ ⟨C, Z, bk, T, [], B, K⟩) := by
    have e := hQ.out
    have := HN1.out.later ((Below.refl w1.heap.size w1).alloc (Nat.le_refl _) (.cells #[.int .i64 C, .int .i64 Z, .string bk, .slice x1a x1n x1c, .slice sa sn sc, .slice ma mn mc, .slice ca cn cc] 41))
    rw [World.size_alloc, World.size_alloc, show w.heap.size + 1 + 1 = Q from e] at this
    exact this
  have HY2 := Lib.hid (Blk.new w1 41 #[.int .i64 C, .int .i64 Z, .string bk, .slice x1a x1n x1c, .slice sa sn sc, .slice ma mn mc, .slice ca cn cc])
  obtain ⟨Y, hY⟩ := named w1.heap.size
  have hQY : Q ≤ Y := by have h1 := HB1.out.size; rw [World.size_alloc, World.size_alloc] at h1; have := hQ.out; have := hY.out; omega
  have HB2 := Lib.hid (HBW.out.alloc HBW.out.size (.cells #[.int .i64 C, .int .i64 Z, .string bk, .slice x1a x1n x1c, .slice sa sn sc, .slice ma mn mc, .slice ca cn cc] 41))
  have HRB2 : Hid (Blk (w1.alloc (.cells #[.int .i64 C, .int .i64 Z, .string bk, .slice x1a x1n x1c, .slice sa sn sc, .slice ma mn mc, .slice ca cn cc] 41)) (w.heap.size + 1) 41 #[.int .i64 0, .int .i64 0, .string ⟨#[]⟩, .slice none 0 0, .slice none 0 0, .slice none 0 0, .slice none 0 0]) := by
    have := Blk.new (w.alloc (.cells #[.int .i64 C, .int .i64 Z, .string bk, .slice x.a0 x.n0 x.c0, .slice x.sa x.sn x.sc, .slice x.ma x.mn x.mc, .slice x.ca x.cn x.cc] 41)) 41 #[.int .i64 0, .int .i64 0, .string ⟨#[]⟩, .slice none 0 0, .slice none 0 0, .slice none 0 0, .slice none 0 0]
    rw [World.size_alloc] at this
    exact (this.later HB1.out).alloc _
  have HLL := Lib.hid (fun W (hb : Below w.heap.size w W) => hL.later hb)
  rw [hY.out] at HY2 ⊢
  clear hL h
  go_loopw [15] (fun i wr => ∃ (j : Nat), j ≤ bn ∧ i = .int .i64 j ∧ Hid (MetaN wr Q (Iv Q H) (From H) ⟨x1a, x1n, x1c, sa, sn, sc, ma, mn, mc, ca, cn, cc⟩ ⟨C, Z, bk, zerosT T (L.take j), [], B, K⟩) ∧ Hid (Blk wr Y 41 #[.int .i64 C, .int .i64 Z, .string bk, .slice x1a x1n x1c, .slice sa sn sc, .slice ma mn mc, .slice ca cn cc]) ∧ Hid (Below w.heap.size w wr) ∧ Hid (Blk wr (w.heap.size + 1) 41 #[.int .i64 0, .int .i64 0, .string ⟨#[]⟩, .slice none 0 0, .slice none 0 0, .slice none 0 0, .slice none 0 0])) (fun i _ => bn - (intOf i).toNat)
  case atStart => exact ⟨0, Nat.zero_le _, rfl, HN2.out, HY2.out, HB2.out, HRB2.out⟩
  case round =>
    clear HN1 HN2 HY2 HB2 HB0 HB1 HBW HC
    obtain ⟨j, hj, rfl, HN, HY, HB, HRB⟩ := hrel
    by_cases hlt : j < bn
    · have hi : (j : Int) < (bn : Int) := by omega
      obtain ⟨bl, off, sh, cl, k, st, ct, z, m, hla, hx, e0, e1, e2, e3, e4, e5, e6⟩ := ln_at (HLL.out wr HB.out) j hlt
      subst hla
      have hin := (HZI.out j).2 _ (HLI.out _ (List.mem_of_getElem? hx))
      obtain ⟨hs1, c, hc1, hc23, hc4⟩ := hin
      obtain ⟨hc2, hc3⟩ := at_some hc23
      dsimp only at hs1 hc1
      subst hs1 hc1
      obtain ⟨q8, hq8⟩ := named (c / 8)
      obtain ⟨r8, hr8⟩ := named (c % 8)
      have htm : (c : Int).tmod 8 = (r8 : Int) := by rw [Int.tmod_eq_emod_of_nonneg (by omega)]; have := hr8.out; omega
      have htd : (c : Int).tdiv 8 = (q8 : Int) := by rw [Int.tdiv_eq_ediv_of_nonneg (by omega)]; have := hq8.out; omega
      have hwq : IntKind.i64.wrap (q8 : Int) = (q8 : Int) := IntWalk.i64_in _ (by have := hq8.out; omega)
      have hwr : IntKind.i64.wrap (r8 : Int) = (r8 : Int) := IntWalk.i64_in _ (by have := hr8.out; omega)
      have HTK : Hid (zerosT T (L.take (j + 1)) = setZ (zerosT T (L.take j)) c) := by
        rw [Hid, List.take_add_one, hx]
        exact zerosT_snoc T _ _
      obtain ⟨y0, y1, y2, y3, y4, y5, y6⟩ := cells7 (HY.out.alloc (.cells #[.int .i64 (-1), .int .i64 (c : Int), .int .i64 k, .int .i64 st, .int .i64 ct, .int .i64 z, .int .u32 m] 58))
      have HF7 := Lib.hid ((((Below.refl wr.heap.size wr).alloc (Nat.le_refl _) (.cells #[.int .i64 (-1), .int .i64 (c : Int), .int .i64 k, .int .i64 st, .int .i64 ct, .int .i64 z, .int .u32 m] 58)).alloc (by rw [World.size_alloc]; omega) (.cells #[.slice x1a x1n x1c] 36)).drew)
      have HNd := Lib.hid (HN.out.later HF7.out)
      obtain ⟨g, ll, cl, b, cur, k1, k2, k3, k4, ⟨k5, hgb⟩, k6, k7, k8, k9⟩ := HNd.out.zero0 c hc2 hc3
      dsimp only at k1 k2
      subst k1
      rw [hq8.out] at k2 k3
      rw [hr8.out] at k4 k7 k8 k9
      have HYd := Lib.hid (HY.out.later HF7.out)
      have HBd := Lib.hid (HB.out.trans (HF7.out.mono HB.out.size))
      have hlb := cellsG (((Blk.new wr 58 #[.int .i64 (-1), .int .i64 (c : Int), .int .i64 k, .int .i64 st, .int .i64 ct, .int .i64 z, .int .u32 m]).alloc (.cells #[.slice (some ⟨g, 0, none⟩) x1n x1c] 36)).later (Below.refl _ _).drew)
      obtain ⟨f0, f1, f2, f3, f4, f5, f6⟩ := hlb
      obtain ⟨w8, hw8⟩ := named (((wr.alloc (.cells #[.int .i64 (-1), .int .i64 (c : Int), .int .i64 k, .int .i64 st, .int .i64 ct, .int .i64 z, .int .u32 m] 58)).alloc (.cells #[.slice (some ⟨g, 0, none⟩) x1n x1c] 36)).drew.setRow b (cur.toList.take (r8 * 5) ++ (enV enZ1).toArray.toList ++ cur.toList.drop (r8 * 5 + (enV enZ1).toArray.toList.length)).toArray)
      have HN9 : Hid (MetaN w8 Q (Iv Q H) (From H) ⟨some ⟨g, 0, none⟩, x1n, x1c, sa, sn, sc, ma, mn, mc, ca, cn, cc⟩ ⟨C, Z, bk, zerosT T (L.take (j + 1)), [], B, K⟩) := by
        rw [HTK.out, Hid, ← hw8.out]
        exact k8
      have hg8 : ((wr.alloc (.cells #[.int .i64 (-1), .int .i64 (c : Int), .int .i64 k, .int .i64 st, .int .i64 ct, .int .i64 z, .int .u32 m] 58)).alloc (.cells #[.slice (some ⟨g, 0, none⟩) x1n x1c] 36)).drew.grownBy w8 (some b) := by
        rw [← hw8.out]
        exact k9
      have hbb : Blk ((wr.alloc (.cells #[.int .i64 (-1), .int .i64 (c : Int), .int .i64 k, .int .i64 st, .int .i64 ct, .int .i64 z, .int .u32 m] 58)).alloc (.cells #[.slice (some ⟨g, 0, none⟩) x1n x1c] 36)).drew b 24 cur := k6
      have HY9 := Lib.hid (HYd.out.kept hg8 (fun e => by have := Option.some.inj e; subst this; exact absurd (hbb.symm.trans HYd.out) (by simp)))
      have HRB9 := Lib.hid ((HRB.out.later HF7.out).kept hg8 (fun e => by have := Option.some.inj e; have := hQ.out; omega))
      have HB9 := Lib.hid (HBd.out.grown hg8 HBd.out.size (fun q hq => by have h1 := Option.some.inj hq; have := hQ.out; omega))
      have htb := (Blk.new (wr.alloc (.cells #[.int .i64 (-1), .int .i64 (c : Int), .int .i64 k, .int .i64 st, .int .i64 ct, .int .i64 z, .int .u32 m] 58)) 36 #[.slice (some ⟨g, 0, none⟩) x1n x1c]).later (Below.refl _ _).drew
      rw [World.size_alloc] at htb
      have hln := ((Blk.new wr 58 #[.int .i64 (-1), .int .i64 (c : Int), .int .i64 k, .int .i64 st, .int .i64 ct, .int .i64 z, .int .u32 m]).alloc (.cells #[.slice (some ⟨g, 0, none⟩) x1n x1c] 36)).later (Below.refl _ _).drew
      have HS7 : Hid ((fun W => W.cell? ⟨wr.heap.size + 1, 0, none⟩ = some (.slice (some ⟨g, 0, none⟩) x1n x1c) ∧ W.cell? ⟨wr.heap.size, 1, none⟩ = some (.int .i64 (c : Int)) ∧ W.cell? ⟨g, q8, none⟩ = some (.slice (some ⟨b, 0, none⟩) ll cl)) ((wr.alloc (.cells #[.int .i64 (-1), .int .i64 (c : Int), .int .i64 k, .int .i64 st, .int .i64 ct, .int .i64 z, .int .u32 m] 58)).alloc (.cells #[.slice (some ⟨g, 0, none⟩) x1n x1c] 36)).drew) := ⟨one_cell9 htb, f1, k3⟩
      have HS8 : Hid ((fun W => W.cell? ⟨wr.heap.size + 1, 0, none⟩ = some (.slice (some ⟨g, 0, none⟩) x1n x1c) ∧ W.cell? ⟨wr.heap.size, 1, none⟩ = some (.int .i64 (c : Int)) ∧ W.cell? ⟨g, q8, none⟩ = some (.slice (some ⟨b, 0, none⟩) ll cl)) w8) := by
        have h1 := htb.kept hg8 (fun e => by have := Option.some.inj e; subst this; exact absurd (hbb.symm.trans htb) (by simp))
        have h2 := hln.kept hg8 (fun e => by have := Option.some.inj e; subst this; exact absurd (hbb.symm.trans hln) (by simp))
        exact ⟨one_cell9 h1, (cellsG h2).2.1, hg8.cell k3 (fun e => hgb (Option.some.inj e))⟩
      clear k8 k9 hx HN HNd HY HF7 HTK hg8 HRB
      have k4i : (r8 : Int) < (ll : Int) := by omega
      have k2i : (q8 : Int) < (x1n : Int) := by omega
      have k0i : (0 : Int) ≤ (r8 : Int) := by omega
      have k0j : (0 : Int) ≤ (q8 : Int) := by omega
      go_wp2
      refine wp_region_held_drew (S := fun W => W.cell? ⟨wr.heap.size + 1, 0, none⟩ = some (.slice (some ⟨g, 0, none⟩) x1n x1c) ∧ W.cell? ⟨wr.heap.size, 1, none⟩ = some (.int .i64 (c : Int)) ∧ W.cell? ⟨g, q8, none⟩ = some (.slice (some ⟨b, 0, none⟩) ll cl)) (by kernel_rfl) (by first | exact HS7.out | exact HS8.out) (fun hHeld => ?_)
      refine wpAnyH_take (i := 0) (oi := _) (v := ?vq1) rfl (by kernel_rfl) (by kernel_rfl) (by kernel_rfl) (fun _ _ _ h => h) (Or.inl ⟨by rfl, ?hyq1⟩) (by assumption) ?restq1
      case hyq1 => (intro wz hSw; (try dsimp only at hSw); go_simp; try with_reducible rfl)
      (try simp only [List.getElem_toArray, List.getElem_cons_zero, Act.put, List.setIfInBounds_toArray, List.set_cons_zero, List.set_cons_succ])
      refine wpAnyH_take (i := 1) (oi := _) (v := ?vq2) rfl (by kernel_rfl) (by kernel_rfl) (by kernel_rfl) (fun _ _ _ h => h) (Or.inl ⟨by rfl, ?hyq2⟩) (by assumption) ?restq2
      case hyq2 => (intro wz hSw; (try dsimp only at hSw); go_simp; try with_reducible rfl)
      (try simp only [List.getElem_toArray, List.getElem_cons_zero, List.getElem_cons_succ, Act.put, List.setIfInBounds_toArray, List.set_cons_zero, List.set_cons_succ])
      refine wpAnyH_take (i := 2) (oi := _) (v := ?vq3) rfl (by kernel_rfl) (by kernel_rfl) (by kernel_rfl) (fun _ _ _ h => h) (Or.inl ⟨by rfl, ?hyq3⟩) (by assumption) ?restq3
      case hyq3 => (intro wz hSw; (try dsimp only at hSw); go_simp; try with_reducible rfl)
      (try simp only [List.getElem_toArray, List.getElem_cons_zero, List.getElem_cons_succ, Act.put, List.setIfInBounds_toArray, List.set_cons_zero, List.set_cons_succ])
      refine wpAnyH_take (i := 3) (oi := _) (v := ?vq4) rfl (by kernel_rfl) (by kernel_rfl) (by kernel_rfl) (fun _ _ _ h => h) (Or.inl ⟨by rfl, ?hyq4⟩) (by assumption) ?restq4
      case hyq4 => (intro wz hSw; (try dsimp only at hSw); go_simp; try with_reducible rfl)
      (try simp only [List.getElem_toArray, List.getElem_cons_zero, List.getElem_cons_succ, Act.put, List.setIfInBounds_toArray, List.set_cons_zero, List.set_cons_succ])
      refine wpAnyH_take (i := 4) (oi := _) (v := ?vq5) rfl (by kernel_rfl) (by kernel_rfl) (by kernel_rfl) (fun _ _ _ h => h) (Or.inl ⟨by rfl, ?hyq5⟩) (by assumption) ?restq5
      case hyq5 => (intro wz hSw; (try dsimp only at hSw); go_simp; try with_reducible rfl)
      (try simp only [List.getElem_toArray, List.getElem_cons_zero, List.getElem_cons_succ, Act.put, List.setIfInBounds_toArray, List.set_cons_zero, List.set_cons_succ])
      refine wpAnyH_take (i := 5) (oi := _) (v := ?vq6) rfl (by kernel_rfl) (by kernel_rfl) (by kernel_rfl) (fun _ _ _ h => h) (Or.inl ⟨by rfl, ?hyq6⟩) (by assumption) ?restq6
      case hyq6 => (intro wz hSw; (try dsimp only at hSw); go_simp; try with_reducible rfl)
      (try simp only [List.getElem_toArray, List.getElem_cons_zero, List.getElem_cons_succ, Act.put, List.setIfInBounds_toArray, List.set_cons_zero, List.set_cons_succ])
      refine wpAnyH_take (i := 6) (oi := _) (v := ?vq7) rfl (by kernel_rfl) (by kernel_rfl) (by kernel_rfl) (fun _ _ _ h => h) (Or.inl ⟨by rfl, ?hyq7⟩) (by assumption) ?restq7
      case hyq7 => (intro wz hSw; (try dsimp only at hSw); go_simp; try with_reducible rfl)
      (try simp only [List.getElem_toArray, List.getElem_cons_zero, List.getElem_cons_succ, Act.put, List.setIfInBounds_toArray, List.set_cons_zero, List.set_cons_succ])
      refine wpAnyH_take (i := 7) (oi := _) (v := ?vq8) rfl (by kernel_rfl) (by kernel_rfl) (by kernel_rfl) (fun _ _ _ h => h) (Or.inl ⟨by rfl, ?hyq8⟩) (by assumption) ?restq8
      case hyq8 => (intro wz hSw; (try dsimp only at hSw); go_simp; try with_reducible rfl)
      (try simp only [List.getElem_toArray, List.getElem_cons_zero, List.getElem_cons_succ, Act.put, List.setIfInBounds_toArray, List.set_cons_zero, List.set_cons_succ])
      refine wpAnyH_take (i := 8) (oi := _) (v := ?vq9) rfl (by kernel_rfl) (by kernel_rfl) (by kernel_rfl) (fun _ _ _ h => h) (Or.inl ⟨by rfl, ?hyq9⟩) (by assumption) ?restq9
      case hyq9 => (intro wz hSw; (try dsimp only at hSw); go_simp; try with_reducible rfl)
      (try simp only [List.getElem_toArray, List.getElem_cons_zero, List.getElem_cons_succ, Act.put, List.setIfInBounds_toArray, List.set_cons_zero, List.set_cons_succ])
      refine wpAnyH_take (i := 9) (oi := _) (v := ?vq10) rfl (by kernel_rfl) (by kernel_rfl) (by kernel_rfl) (fun _ _ _ h => h) (Or.inl ⟨by rfl, ?hyq10⟩) (by assumption) ?restq10
      case hyq10 => (intro wz hSw; (try dsimp only at hSw); go_simp; try with_reducible rfl)
      (try simp only [List.getElem_toArray, List.getElem_cons_zero, List.getElem_cons_succ, Act.put, List.setIfInBounds_toArray, List.set_cons_zero, List.set_cons_succ])
      refine wpAnyH_take (i := 10) (oi := _) (v := ?vq11) rfl (by kernel_rfl) (by kernel_rfl) (by kernel_rfl) (fun _ _ _ h => h) (Or.inl ⟨by rfl, ?hyq11⟩) (by assumption) ?restq11
      case hyq11 => (intro wz hSw; (try dsimp only at hSw); go_simp; try with_reducible rfl)
      (try simp only [List.getElem_toArray, List.getElem_cons_zero, List.getElem_cons_succ, Act.put, List.setIfInBounds_toArray, List.set_cons_zero, List.set_cons_succ])
      refine wpAnyH_take (i := 11) (oi := _) (v := ?vq12) rfl (by kernel_rfl) (by kernel_rfl) (by kernel_rfl) (fun _ _ _ h => h) (Or.inl ⟨by rfl, ?hyq12⟩) (by assumption) ?restq12
      case hyq12 => (intro wz hSw; (try dsimp only at hSw); go_simp; try with_reducible rfl)
      (try simp only [List.getElem_toArray, List.getElem_cons_zero, List.getElem_cons_succ, Act.put, List.setIfInBounds_toArray, List.set_cons_zero, List.set_cons_succ])
      refine wpAnyH_ready (rs := [12]) (by kernel_rfl) (by simp) ?_
      refine (AllReadyH.cons (o := _) rfl (fun K hK => ?_) AllReadyH.nil)
      rw [if_pos (by rfl)]
      refine wp_store_in9 (.tmp 42) (.tmp 41) rfl b (r8 * 5) cur (enV enZ1).toArray (by rfl) (by rfl) k6 entry_size k7 (enV_one _) ?_
      rw [hw8.out]
      (try dsimp only)
      refine hK.out _ _ (by first | exact HS7.out | exact HS8.out) (fun hHeld => ?_)
      clear hK K
      (try simp only [List.getElem_toArray, List.getElem_cons_zero, List.getElem_cons_succ, Act.put, List.setIfInBounds_toArray, List.set_cons_zero, List.set_cons_succ])
      refine wpAnyH_done (by kernel_rfl) ?_ _
      go_wp2
      go_roundw
      case rel => exact ⟨j + 1, by omega, by go_num, HN9.out, HY9.out, HB9.out, HRB9.out⟩
      case measure => simp [intOf]; omega
    · obtain rfl : j = bn := by omega
      have hQq := hQ.out
      have HZL := Lib.hid (HZI.out j)
      have hLl : L.length = j := (HLL.out w (Below.refl _ _)).1
      rw [List.take_of_length_le (Nat.le_of_eq hLl)] at HN HZL
      have hd := (Below.refl wr.heap.size wr).drew
      have HNd := Lib.hid (HN.out.later hd)
      have HYd := Lib.hid (HY.out.later hd)
      have HRBd := Lib.hid (HRB.out.later hd)
      have HBd := Lib.hid (HB.out.trans (hd.mono HB.out.size))
      obtain ⟨ds, hSR, hSm, _, hS1, _⟩ := HNd.out.S.d
      have hds : ds = [] := by cases ds with
        | nil => rfl
        | cons y r => cases hSm
      subst hds
      have HOF := Lib.hid (of_any wr.drew C Z bk x1a x1n x1c sa sn sc ma mn mc ca cn cc (zerosT T L) [] HNd.out.T.n.tab hSR ⟨tc, ⟨tn, HZL.out.1⟩, fun d hd => (by cases hd)⟩ (by have := hSR.1.1; simp at this; omega) KN hKN)
      obtain ⟨y0, y1, y2, y3, y4, y5, y6⟩ := cells7 HYd.out
      clear HN HY HRB HB HLI HZI HLL hSR hSm hS1 hLl
      go_wp2
      refine wp_region_held_drew (S := fun _ => True) (by kernel_rfl) (True.intro) (fun hHeld => ?_)
      refine wpAnyH_take (i := 1) (oi := _) (v := ?vqt1) rfl (by kernel_rfl) (by kernel_rfl) (by kernel_rfl) (fun _ _ _ h => h) (Or.inl ⟨by rfl, ?hyqt1⟩) (by assumption) ?restqt1
      case hyqt1 => (intro wz hSw; (try dsimp only at hSw); go_simp; try with_reducible rfl)
      (try simp only [List.getElem_toArray, List.getElem_cons_zero, List.getElem_cons_succ, Act.put, List.setIfInBounds_toArray, List.set_cons_zero, List.set_cons_succ])
      refine wpAnyH_ready (rs := [0, 2]) (by kernel_rfl) (by simp) ?_
      refine (AllReadyH.cons (o := _) rfl (fun K hK => ?_) (AllReadyH.cons (o := _) rfl (fun K hK => ?_) AllReadyH.nil))
      · rw [if_pos (by rfl)]
        go_simp
        refine hK.out _ _ (True.intro) (fun hHeld => ?_)
        clear hK K
        (try simp only [List.getElem_toArray, List.getElem_cons_zero, List.getElem_cons_succ, Act.put, List.setIfInBounds_toArray, List.set_cons_zero, List.set_cons_succ])
        refine wpAnyH_ready (rs := [2]) (by kernel_rfl) (by simp) ?_
        refine (AllReadyH.cons (o := _) rfl (fun K hK => ?_) AllReadyH.nil)
        rw [if_pos (by rfl)]
        go_simp
        (go_at_call 29; (with_reducible refine (HSO.out _).mono ?_); rintro e w5 ⟨rfl, hw5⟩; obtain rfl := hw5.symm)
        (try dsimp only)
        refine hK.out _ _ (True.intro) (fun hHeld => ?_)
        clear hK K
        (try simp only [List.getElem_toArray, List.getElem_cons_zero, List.getElem_cons_succ, Act.put, List.setIfInBounds_toArray, List.set_cons_zero, List.set_cons_succ])
        refine wpAnyH_ready (rs := [3]) (by kernel_rfl) (by simp) ?_
        refine (AllReadyH.cons (o := _) rfl (fun K hK => ?_) AllReadyH.nil)
        rw [if_pos (by rfl)]
        go_simp
        (go_at_call 70; (with_reducible refine HOF.out.mono ?_); rintro e w6 ⟨R6, rfl, hR6, hI6, hb6⟩; have HI6 := Lib.hid hI6; have HN6 := Lib.hid (HNd.out.later hb6); have HY6 := Lib.hid (HYd.out.later hb6); have HRB6 := Lib.hid (HRBd.out.later hb6); have HB6 := Lib.hid (HBd.out.trans (hb6.mono HBd.out.size)); have hR6 := hR6; clear hI6 hb6 y0 y1 y2 y3 y4 y5 y6; obtain ⟨y0, y1, y2, y3, y4, y5, y6⟩ := cells7 HY6.out; obtain ⟨z0, z1, z2, z3, z4, z5, z6⟩ := free7 HY6.out)
        (try dsimp only)
        refine hK.out _ _ (True.intro) (fun hHeld => ?_)
        clear hK K
        (try simp only [List.getElem_toArray, List.getElem_cons_zero, List.getElem_cons_succ, Act.put, List.setIfInBounds_toArray, List.set_cons_zero, List.set_cons_succ])
        refine wpAnyH_take (i := 4) (oi := _) (v := ?vqt2) rfl (by kernel_rfl) (by kernel_rfl) (by kernel_rfl) (fun _ _ _ h => h) (Or.inl ⟨by rfl, ?hyqt2⟩) (by assumption) ?restqt2
        case hyqt2 => (intro wz hSw; (try dsimp only at hSw); go_simp; try with_reducible rfl)
        (try simp only [List.getElem_toArray, List.getElem_cons_zero, List.getElem_cons_succ, Act.put, List.setIfInBounds_toArray, List.set_cons_zero, List.set_cons_succ])
        refine wpAnyH_ready (rs := [5]) (by kernel_rfl) (by simp) ?_
        refine (AllReadyH.cons (o := _) rfl (fun K hK => ?_) AllReadyH.nil)
        rw [if_pos (by rfl)]
        go_simp
        have HY7 := Lib.hid (HY6.out.set 6 (.slice (some ⟨R6, 0, none⟩) KN KN))
        have HRB7 := Lib.hid (Blk.other (B' := Y) (i := 6) HRB6.out (by omega) (.slice (some ⟨R6, 0, none⟩) KN KN))
        obtain ⟨t0, t1, t2, t3, t4, t5, t6⟩ := cells7 HY7.out
        obtain ⟨g0, g1, g2, g3, g4, g5, g6⟩ := free7 HRB7.out
        obtain ⟨p0, p1, p2, p3, p4, p5, p6⟩ := cells7 HRB7.out
        refine hK.out _ _ (True.intro) (fun hHeld => ?_)
        clear hK K
        (try simp only [List.getElem_toArray, List.getElem_cons_zero, List.getElem_cons_succ, Act.put, List.setIfInBounds_toArray, List.set_cons_zero, List.set_cons_succ])
        refine wpAnyH_done (by kernel_rfl) ?_ _
        go_wp2
        have kr := grown7 (w6.setCell ⟨Y, 6, none⟩ (.slice (some ⟨R6, 0, none⟩) KN KN)) (w.heap.size + 1) (.int .i64 C) (.int .i64 Z) (.string bk) (.slice x1a x1n x1c) (.slice sa sn sc) (.slice ma mn mc) (.slice (some ⟨R6, 0, none⟩) KN KN)
        have r9 := HRB7.out.set7 (.int .i64 C) (.int .i64 Z) (.string bk) (.slice x1a x1n x1c) (.slice sa sn sc) (.slice ma mn mc) (.slice (some ⟨R6, 0, none⟩) KN KN)
        have n6 := HN6.out.off HY6.out.off6 (grownBy_setCell4 w6 Y 6 (.slice (some ⟨R6, 0, none⟩) KN KN))
        have i6 := (irow_ints (base := w.heap.size) HI6.out (by have := HBd.out.size; omega) hKN).off (HY6.out.off (by decide)) (grownBy_setCell4 w6 Y 6 (.slice (some ⟨R6, 0, none⟩) KN KN))
        have n9 := n6.off HRB7.out.off6 kr
        have i9 := i6.off (HRB7.out.off (by decide)) kr
        have hQw : w.heap.size ≤ Q := by have := hQ.out; omega
        have b9 := (HB6.out.grown (grownBy_setCell4 w6 Y 6 (.slice (some ⟨R6, 0, none⟩) KN KN)) HB6.out.size (fun k hk => by have := Option.some.inj hk; omega)).grown kr (by rw [World.size_setCell]; exact HB6.out.size) (fun k hk => by have := Option.some.inj hk; omega)
        exact bodyPost_ret (v := .agg #[.int .i64 C, .int .i64 Z, .string bk, .slice x1a x1n x1c, .slice sa sn sc, .slice ma mn mc, .slice (some ⟨R6, 0, none⟩) KN KN]) (results_cell_row rfl _ _ (w.heap.size + 1) 41 #[.int .i64 C, .int .i64 Z, .string bk, .slice x1a x1n x1c, .slice sa sn sc, .slice ma mn mc, .slice (some ⟨R6, 0, none⟩) KN KN] (0, 0) _ rfl r9 Tryz.underlying41 rfl meta_size) rfl ⟨⟨x1a, x1n, x1c, sa, sn, sc, ma, mn, mc, some ⟨R6, 0, none⟩, KN, KN⟩, rfl, ⟨n9.hc, n9.hs, n9.hbk, n9.T.mono hQw (fun _ _ _ => trivial), n9.S.mono hQw (fun _ _ _ => trivial), n9.B.mono hQw, i9⟩, b9⟩
      · rw [if_pos (by rfl)]
        go_simp
        (go_at_call 29; (with_reducible refine (HSO.out _).mono ?_); rintro e w5 ⟨rfl, hw5⟩; obtain rfl := hw5.symm)
        (try dsimp only)
        refine hK.out _ _ (True.intro) (fun hHeld => ?_)
        clear hK K
        (try simp only [List.getElem_toArray, List.getElem_cons_zero, List.getElem_cons_succ, Act.put, List.setIfInBounds_toArray, List.set_cons_zero, List.set_cons_succ])
        refine wpAnyH_ready (rs := [0]) (by kernel_rfl) (by simp) ?_
        refine (AllReadyH.cons (o := _) rfl (fun K hK => ?_) AllReadyH.nil)
        rw [if_pos (by rfl)]
        go_simp
        refine hK.out _ _ (True.intro) (fun hHeld => ?_)
        clear hK K
        (try simp only [List.getElem_toArray, List.getElem_cons_zero, List.getElem_cons_succ, Act.put, List.setIfInBounds_toArray, List.set_cons_zero, List.set_cons_succ])
        refine wpAnyH_ready (rs := [3]) (by kernel_rfl) (by simp) ?_
        refine (AllReadyH.cons (o := _) rfl (fun K hK => ?_) AllReadyH.nil)
        rw [if_pos (by rfl)]
        go_simp
        (go_at_call 70; (with_reducible refine HOF.out.mono ?_); rintro e w6 ⟨R6, rfl, hR6, hI6, hb6⟩; have HI6 := Lib.hid hI6; have HN6 := Lib.hid (HNd.out.later hb6); have HY6 := Lib.hid (HYd.out.later hb6); have HRB6 := Lib.hid (HRBd.out.later hb6); have HB6 := Lib.hid (HBd.out.trans (hb6.mono HBd.out.size)); have hR6 := hR6; clear hI6 hb6 y0 y1 y2 y3 y4 y5 y6; obtain ⟨y0, y1, y2, y3, y4, y5, y6⟩ := cells7 HY6.out; obtain ⟨z0, z1, z2, z3, z4, z5, z6⟩ := free7 HY6.out)
        (try dsimp only)
        refine hK.out _ _ (True.intro) (fun hHeld => ?_)
        clear hK K
        (try simp only [List.getElem_toArray, List.getElem_cons_zero, List.getElem_cons_succ, Act.put, List.setIfInBounds_toArray, List.set_cons_zero, List.set_cons_succ])
        refine wpAnyH_take (i := 4) (oi := _) (v := ?vqt3) rfl (by kernel_rfl) (by kernel_rfl) (by kernel_rfl) (fun _ _ _ h => h) (Or.inl ⟨by rfl, ?hyqt3⟩) (by assumption) ?restqt3
        case hyqt3 => (intro wz hSw; (try dsimp only at hSw); go_simp; try with_reducible rfl)
        (try simp only [List.getElem_toArray, List.getElem_cons_zero, List.getElem_cons_succ, Act.put, List.setIfInBounds_toArray, List.set_cons_zero, List.set_cons_succ])
        refine wpAnyH_ready (rs := [5]) (by kernel_rfl) (by simp) ?_
        refine (AllReadyH.cons (o := _) rfl (fun K hK => ?_) AllReadyH.nil)
        rw [if_pos (by rfl)]
        go_simp
        have HY7 := Lib.hid (HY6.out.set 6 (.slice (some ⟨R6, 0, none⟩) KN KN))
        have HRB7 := Lib.hid (Blk.other (B' := Y) (i := 6) HRB6.out (by omega) (.slice (some ⟨R6, 0, none⟩) KN KN))
        obtain ⟨t0, t1, t2, t3, t4, t5, t6⟩ := cells7 HY7.out
        obtain ⟨g0, g1, g2, g3, g4, g5, g6⟩ := free7 HRB7.out
        obtain ⟨p0, p1, p2, p3, p4, p5, p6⟩ := cells7 HRB7.out
        refine hK.out _ _ (True.intro) (fun hHeld => ?_)
        clear hK K
        (try simp only [List.getElem_toArray, List.getElem_cons_zero, List.getElem_cons_succ, Act.put, List.setIfInBounds_toArray, List.set_cons_zero, List.set_cons_succ])
        refine wpAnyH_done (by kernel_rfl) ?_ _
        go_wp2
        have kr := grown7 (w6.setCell ⟨Y, 6, none⟩ (.slice (some ⟨R6, 0, none⟩) KN KN)) (w.heap.size + 1) (.int .i64 C) (.int .i64 Z) (.string bk) (.slice x1a x1n x1c) (.slice sa sn sc) (.slice ma mn mc) (.slice (some ⟨R6, 0, none⟩) KN KN)
        have r9 := HRB7.out.set7 (.int .i64 C) (.int .i64 Z) (.string bk) (.slice x1a x1n x1c) (.slice sa sn sc) (.slice ma mn mc) (.slice (some ⟨R6, 0, none⟩) KN KN)
        have n6 := HN6.out.off HY6.out.off6 (grownBy_setCell4 w6 Y 6 (.slice (some ⟨R6, 0, none⟩) KN KN))
        have i6 := (irow_ints (base := w.heap.size) HI6.out (by have := HBd.out.size; omega) hKN).off (HY6.out.off (by decide)) (grownBy_setCell4 w6 Y 6 (.slice (some ⟨R6, 0, none⟩) KN KN))
        have n9 := n6.off HRB7.out.off6 kr
        have i9 := i6.off (HRB7.out.off (by decide)) kr
        have hQw : w.heap.size ≤ Q := by have := hQ.out; omega
        have b9 := (HB6.out.grown (grownBy_setCell4 w6 Y 6 (.slice (some ⟨R6, 0, none⟩) KN KN)) HB6.out.size (fun k hk => by have := Option.some.inj hk; omega)).grown kr (by rw [World.size_setCell]; exact HB6.out.size) (fun k hk => by have := Option.some.inj hk; omega)
        exact bodyPost_ret (v := .agg #[.int .i64 C, .int .i64 Z, .string bk, .slice x1a x1n x1c, .slice sa sn sc, .slice ma mn mc, .slice (some ⟨R6, 0, none⟩) KN KN]) (results_cell_row rfl _ _ (w.heap.size + 1) 41 #[.int .i64 C, .int .i64 Z, .string bk, .slice x1a x1n x1c, .slice sa sn sc, .slice ma mn mc, .slice (some ⟨R6, 0, none⟩) KN KN] (0, 0) _ rfl r9 Tryz.underlying41 rfl meta_size) rfl ⟨⟨x1a, x1n, x1c, sa, sn, sc, ma, mn, mc, some ⟨R6, 0, none⟩, KN, KN⟩, rfl, ⟨n9.hc, n9.hs, n9.hbk, n9.T.mono hQw (fun _ _ _ => trivial), n9.S.mono hQw (fun _ _ _ => trivial), n9.B.mono hQw, i9⟩, b9⟩
end Go.Proofs.YtlljcdmblmkblaaGreat
namespace Go.Proofs.YtlljcdmblmkblaaGreat
open Go.RowKit
set_option linter.unusedVariables false

theorem step_mem {l : List Int} {c : Int} {y : Ln} : ∀ (L : List Ln) (st : Occ × List Ln), y ∈ (L.foldl (stepB l c) st).2 → y ∈ st.2 ∨ y ∈ L
  | [], st, h => Or.inl h
  | x :: r, st, h => by
    rw [List.foldl_cons] at h
    rcases step_mem r _ h with h | h
    · have hs : (stepB l c st x).2 = st.2 ++ [x] ∨ (stepB l c st x).2 = st.2 := by
        unfold stepB
        split
        · exact Or.inl rfl
        · split
          · exact Or.inl rfl
          · exact Or.inr rfl
      rcases hs with hs | hs
      · rw [hs] at h
        rcases List.mem_append.1 h with h | h
        · exact Or.inl h
        · rw [List.mem_singleton] at h
          exact Or.inr (h ▸ List.mem_cons_self ..)
      · rw [hs] at h
        exact Or.inl h
    · exact Or.inr (List.mem_cons_of_mem _ h)
theorem badL_mem {l : List Int} {c : Int} {L : List Ln} {y : Ln} (h : y ∈ badL l c L) : y ∈ L := by
  rcases step_mem L _ h with h | h
  · cases h
  · exact h
theorem own_in {T : Tb} {n c0 : Int} (hr : rightT T n c0) {y : Ln} (h : y ∈ allLines T []) : LnIn T y := by
  have h1 : y ∈ tabLines (-1) T := by
    rcases List.mem_append.1 h with h | h
    · exact h
    · obtain ⟨i, hi, _⟩ := List.mem_flatMap.1 h
      rw [List.mem_range] at hi
      exact absurd hi (by simp)
  obtain ⟨c, h2, h3, rfl⟩ := linesTo_mem h1
  refine ⟨rfl, c, rfl, ?_, ?_⟩
  · rcases h3 with h3 | h3 <;> (rw [h3]; decide)
  · have := hr.2.2.2.1
    omega
/-- The bad lines of a meta without shots. -/
noncomputable def badT (l : List Int) (c : Int) (T : Tb) : List Ln := badL l c (allLines T [])
/-- The counts of a table, of so many sectors. -/
def cntT (T : Tb) (n : Nat) : List Int := (List.range n).map (ofL (allLines T []))
/-- A meta of one table when it is mended. -/
noncomputable def mendM (l : List Int) (KN : Nat) (C Z : Int) (bk : ByteArray) (T : Tb) (B : List BmM) : MM := ⟨C, Z, bk, zerosT T (badT l C T), [], B, cntT (zerosT T (badT l C T)) KN⟩
theorem blk_put {w : World} {Y : Nat} {t : TypeId} {cs : Array Value} (h : Blk w Y t cs) (c' : Array Value) (hs : c'.size = cs.size) : Blk (w.setRow Y (cs.toList.take 0 ++ c'.toList ++ cs.toList.drop (0 + c'.toList.length)).toArray) Y t c' ∧ w.grownBy (w.setRow Y (cs.toList.take 0 ++ c'.toList ++ cs.toList.drop (0 + c'.toList.length)).toArray) (some Y) := by
  have e : (cs.toList.take 0 ++ c'.toList ++ cs.toList.drop (0 + c'.toList.length)).toArray = c' := by
    rw [List.take_zero, List.nil_append, List.drop_eq_nil_of_le (by rw [Array.length_toList, Array.length_toList]; omega), List.append_nil, Array.toArray_toList]
  refine ⟨?_, ⟨rfl, rfl, rfl, by simp [World.setRow], fun k _ hk => setRow_other w Y k _ (fun e => hk (by rw [e]))⟩⟩
  have := setRow_heap w Y cs (cs.toList.take 0 ++ c'.toList ++ cs.toList.drop (0 + c'.toList.length)).toArray _ _ h
  rw [e] at this ⊢
  exact this
theorem badLinesM (w : World) (a : Option Addr) (n cp : Nat) (l : List Int) (hB : Bytes w a n l) (hc : n ≤ cp) (hnil : a = none → cp = 0) (hn : n ≤ 1000000000) (x : Mt) (C Z : Int) (bk : ByteArray) (T : Tb) (B : List BmM) (K : List Int) (h : MetaD w x ⟨C, Z, bk, T, [], B, K⟩) (hR : RightMt ⟨C, Z, bk, T, [], B, K⟩) :
    Calls Tryz.prog 40 #[.agg (mtA ⟨C, Z, bk, T, [], B, K⟩ x), .slice a n cp] w fun e w' => ∃ (a' : Option Addr) (N c' : Nat), e = .returned (.slice a' N c') ∧ OwnLn w' w.heap.size (.slice a' N c') N (badT l C T) ∧ N ≤ 5000 ∧ Below w.heap.size w w' := by
  obtain ⟨ds, hSR, hSm, _, hS1, _⟩ := h.S
  have hds : ds = [] := by cases ds with
    | nil => rfl
    | cons y r => cases hSm
  subst hds
  refine (badLines15 w a n cp l hB hc hnil hn C Z bk x.a0 x.n0 x.c0 x.sa x.sn x.sc x.ma x.mn x.mc x.ca x.cn x.cc T [] h.T hSR ⟨C, ⟨_, hR.T⟩, fun d hd => (by cases hd)⟩ (by have := hSR.1.1; simp at this; omega)).mono ?_
  rintro e w' ⟨a', N, c', rfl, hO, hb⟩
  refine ⟨a', N, c', rfl, hO, ?_, hb⟩
  have h1 : (badT l C T).length ≤ (allLines T []).length := by
    have : ∀ (L : List Ln) (st : Occ × List Ln), (L.foldl (stepB l C) st).2.length ≤ st.2.length + L.length := fun L => by
      induction L with
      | nil => exact fun st => Nat.le_refl _
      | cons y r ih =>
        intro st
        rw [List.foldl_cons]
        have h2 := ih (stepB l C st y)
        have hs : (stepB l C st y).2 = st.2 ++ [y] ∨ (stepB l C st y).2 = st.2 := by
          unfold stepB
          split
          · exact Or.inl rfl
          · split
            · exact Or.inl rfl
            · exact Or.inr rfl
        rw [List.length_cons]
        rcases hs with hs | hs
        · rw [hs, List.length_append] at h2
          simp only [List.length_cons, List.length_nil] at h2
          omega
        · rw [hs] at h2
          omega
    have := this (allLines T []) (fun _ => (0, 0), [])
    rw [List.length_nil, Nat.zero_add] at this
    exact this
  have h2 : (allLines T []).length ≤ 8 * T.length := by
    have e : allLines T [] = tabLines (-1) T := by
      unfold allLines shotsTo
      simp
    rw [e]
    unfold tabLines
    have := linesTo_len (-1) T (T.length * 8)
    omega
  have h4 : T.length ≤ 512 := hR.T.2.2.2.1
  have h3 : (badT l C T).length = N := hO.2.1
  omega
set_option maxRecDepth 100000 in
set_option maxHeartbeats 3200000 in
theorem mend15 (w : World) (a : Option Addr) (n cp : Nat) (l : List Int) (hB : Bytes w a n l) (hc : n ≤ cp) (hnil : a = none → cp = 0) (hn : n ≤ 1000000000) (x : Mt) (C Z : Int) (bk : ByteArray) (T : Tb) (B : List BmM) (K : List Int) (h : MetaD w x ⟨C, Z, bk, T, [], B, K⟩) (hR : RightMt ⟨C, Z, bk, T, [], B, K⟩) {KN : Nat} (hK : wholeN n = KN) :
    Calls Tryz.prog 16 #[.agg (mtA ⟨C, Z, bk, T, [], B, K⟩ x), .slice a n cp] w fun e w' => ∃ x' : Mt, e = .returned (.tuple #[.agg (mtA (mendM l KN C Z bk T B) x'), .int .i64 0]) ∧ MetaN w' w.heap.size (fun _ => True) (fun _ => True) x' (mendM l KN C Z bk T B) ∧ Below w.heap.size w w' := by
  have HRT := Lib.hid (fun W (hb : Below w.heap.size w W) => mRight W x _ (h.later hb))
  have HRM := Lib.hid hR
  have HBL := Lib.hid (fun W (hb : Below w.heap.size w W) => badLinesM W a n cp l (hB.later hb) hc hnil hn x C Z bk T B K (h.later hb) hR)
  have HWO := Lib.hid (fun W (hb : Below w.heap.size w W) ba bn bc (hL : Reads lnV W ba bn (badT l C T)) (hbn : bn ≤ 10000000) => without15 W x C Z bk T B K (h.later hb) ba bn bc (badT l C T) hL hbn (fun y hy => own_in hR.T (badL_mem hy)) hR.T a n cp hn hK)
  dsimp only [mtA] at HRT HBL HWO ⊢
  have HB0 := Lib.hid (((Below.refl w.heap.size w).alloc (Nat.le_refl _) (.cells #[.int .i64 C, .int .i64 Z, .string bk, .slice x.a0 x.n0 x.c0, .slice x.sa x.sn x.sc, .slice x.ma x.mn x.mc, .slice x.ca x.cn x.cc] 41)).alloc (by rw [World.size_alloc]; omega) (.cells #[.int .i64 0, .int .i64 0, .string ⟨#[]⟩, .slice none 0 0, .slice none 0 0, .slice none 0 0, .slice none 0 0] 41))
  have HM0 := Lib.hid ((Blk.new w 41 #[.int .i64 C, .int .i64 Z, .string bk, .slice x.a0 x.n0 x.c0, .slice x.sa x.sn x.sc, .slice x.ma x.mn x.mc, .slice x.ca x.cn x.cc]).alloc (.cells #[.int .i64 0, .int .i64 0, .string ⟨#[]⟩, .slice none 0 0, .slice none 0 0, .slice none 0 0, .slice none 0 0] 41))
  have HZ0 := Lib.hid (Blk.new (w.alloc (.cells #[.int .i64 C, .int .i64 Z, .string bk, .slice x.a0 x.n0 x.c0, .slice x.sa x.sn x.sc, .slice x.ma x.mn x.mc, .slice x.ca x.cn x.cc] 41)) 41 #[.int .i64 0, .int .i64 0, .string ⟨#[]⟩, .slice none 0 0, .slice none 0 0, .slice none 0 0, .slice none 0 0])
  rw [World.size_alloc] at HZ0
  clear hB hc hnil h hR hK
  go_enter Tryz.func16, Tryz.ntmps16
  go_wp2_with (first
    | (go_at_call 38; (with_reducible refine (HRT.out _ HB0.out).mono ?_); rintro e w1 ⟨G, rfl, hb, hg⟩; obtain rfl := hg.2 HRM.out; have HB1 := Lib.hid (HB0.out.trans (hb.mono HB0.out.size)); have HM1 := Lib.hid (HM0.out.later hb); have HZ1 := Lib.hid (HZ0.out.later hb); clear hb hg))
  have hd := (Below.refl w1.heap.size w1).drew
  have HBd := Lib.hid (HB1.out.trans (hd.mono HB1.out.size))
  have HMd := Lib.hid (HM1.out.later hd)
  have HZd := Lib.hid (HZ1.out.later hd)
  clear HB0 HM0 HZ0 HB1 HM1 HZ1 HRT
  refine wp_region_held_drew (S := fun W => W.cell? ⟨w.heap.size, 0, none⟩ = some (.int .i64 C) ∧ W.cell? ⟨w.heap.size, 1, none⟩ = some (.int .i64 Z) ∧ W.cell? ⟨w.heap.size, 2, none⟩ = some (.string bk) ∧ W.cell? ⟨w.heap.size, 3, none⟩ = some (.slice x.a0 x.n0 x.c0) ∧ W.cell? ⟨w.heap.size, 4, none⟩ = some (.slice x.sa x.sn x.sc) ∧ W.cell? ⟨w.heap.size, 5, none⟩ = some (.slice x.ma x.mn x.mc) ∧ W.cell? ⟨w.heap.size, 6, none⟩ = some (.slice x.ca x.cn x.cc)) (by kernel_rfl) (by first | exact cells7 HMd.out | exact cells7 HM3.out | exact cells7 HM5.out | exact cells7 HM6.out) (fun hHeld => ?_)
  refine wpAnyH_take (i := 0) (oi := _) (v := ?vq1) rfl (by kernel_rfl) (by kernel_rfl) (by kernel_rfl) (fun _ _ _ h => h) (Or.inl ⟨by rfl, ?hyq1⟩) (by assumption) ?restq1
  case hyq1 => (intro wz hSw; (try dsimp only at hSw); go_simp; try with_reducible rfl)
  (try simp only [List.getElem_toArray, List.getElem_cons_zero, Act.put, List.setIfInBounds_toArray, List.set_cons_zero, List.set_cons_succ])
  refine wpAnyH_take (i := 1) (oi := _) (v := ?vq2) rfl (by kernel_rfl) (by kernel_rfl) (by kernel_rfl) (fun _ _ _ h => h) (Or.inl ⟨by rfl, ?hyq2⟩) (by assumption) ?restq2
  case hyq2 => (intro wz hSw; (try dsimp only at hSw); go_simp; try with_reducible rfl)
  (try simp only [List.getElem_toArray, List.getElem_cons_zero, List.getElem_cons_succ, Act.put, List.setIfInBounds_toArray, List.set_cons_zero, List.set_cons_succ])
  refine wpAnyH_take (i := 2) (oi := _) (v := ?vq3) rfl (by kernel_rfl) (by kernel_rfl) (by kernel_rfl) (fun _ _ _ h => h) (Or.inl ⟨by rfl, ?hyq3⟩) (by assumption) ?restq3
  case hyq3 => (intro wz hSw; (try dsimp only at hSw); go_simp; try with_reducible rfl)
  (try simp only [List.getElem_toArray, List.getElem_cons_zero, List.getElem_cons_succ, Act.put, List.setIfInBounds_toArray, List.set_cons_zero, List.set_cons_succ])
  refine wpAnyH_take (i := 4) (oi := _) (v := ?vq4) rfl (by kernel_rfl) (by kernel_rfl) (by kernel_rfl) (fun _ _ _ h => h) (Or.inl ⟨by rfl, ?hyq4⟩) (by assumption) ?restq4
  case hyq4 => (intro wz hSw; (try dsimp only at hSw); go_simp; try with_reducible rfl)
  (try simp only [List.getElem_toArray, List.getElem_cons_zero, List.getElem_cons_succ, Act.put, List.setIfInBounds_toArray, List.set_cons_zero, List.set_cons_succ])
  refine wpAnyH_ready (rs := [3]) (by kernel_rfl) (by simp) ?_
  refine (AllReadyH.cons (o := _) rfl (fun K hK => ?_) AllReadyH.nil)
  rw [if_pos (by rfl)]
  go_simp
  (go_at_call 40; (with_reducible refine (HBL.out _ HBd.out).mono ?_); rintro e w3 ⟨ba, bn, bc, rfl, hO, hbn, hb3⟩; have HO3 := Lib.hid hO; have hbn := hbn; have HB3 := Lib.hid (HBd.out.trans (hb3.mono HBd.out.size)); have HM3 := Lib.hid (HMd.out.later hb3); have HZ3 := Lib.hid (HZd.out.later hb3); clear hO hb3)
  (try dsimp only)
  refine hK.out _ _ (by first | exact cells7 HMd.out | exact cells7 HM3.out | exact cells7 HM5.out | exact cells7 HM6.out) (fun hHeld => ?_)
  clear hK K
  (try simp only [List.getElem_toArray, List.getElem_cons_zero, List.getElem_cons_succ, Act.put, List.setIfInBounds_toArray, List.set_cons_zero, List.set_cons_succ])
  refine wpAnyH_ready (rs := [5]) (by kernel_rfl) (by simp) ?_
  refine (AllReadyH.cons (o := _) rfl (fun K hK => ?_) AllReadyH.nil)
  rw [if_pos (by rfl)]
  go_simp
  (go_at_call 39; (with_reducible refine (HWO.out _ HB3.out ba bn bc (OwnG.reads ln_rowed HO3.out).1 (by omega)).mono ?_); rintro e w5 ⟨x5, rfl, hN, hb5⟩; obtain ⟨x5a, x5n, x5c, sa, sn, sc, ma, mn, mc, ca, cn, cc⟩ := x5; have HN5 := Lib.hid hN; have HB5 := Lib.hid (HB3.out.trans (hb5.mono HB3.out.size)); have HM5 := Lib.hid (HM3.out.later hb5); have HZ5 := Lib.hid (HZ3.out.later hb5); have hs35 := HB3.out.size; clear hN hb5; dsimp only [mtA]; obtain ⟨z0, z1, z2, z3, z4, z5, z6⟩ := cells7 HZ5.out; obtain ⟨g0, g1, g2, g3, g4, g5, g6⟩ := free7 HZ5.out)
  (try dsimp only)
  refine hK.out _ _ (by first | exact cells7 HMd.out | exact cells7 HM3.out | exact cells7 HM5.out | exact cells7 HM6.out) (fun hHeld => ?_)
  clear hK K
  (try simp only [List.getElem_toArray, List.getElem_cons_zero, List.getElem_cons_succ, Act.put, List.setIfInBounds_toArray, List.set_cons_zero, List.set_cons_succ])
  refine wpAnyH_ready (rs := [6]) (by kernel_rfl) (by simp) ?_
  refine (AllReadyH.cons (o := _) rfl (fun K hK => ?_) AllReadyH.nil)
  rw [if_pos (by rfl)]
  have hp := blk_put HZ5.out #[.int .i64 C, .int .i64 Z, .string bk, .slice x5a x5n x5c, .slice sa sn sc, .slice ma mn mc, .slice ca cn cc] rfl
  obtain ⟨w6, hw6⟩ := named (w5.setRow (w.heap.size + 1) ((#[.int .i64 0, .int .i64 0, .string ⟨#[]⟩, .slice none 0 0, .slice none 0 0, .slice none 0 0, .slice none 0 0] : Array Value).toList.take 0 ++ (#[.int .i64 C, .int .i64 Z, .string bk, .slice x5a x5n x5c, .slice sa sn sc, .slice ma mn mc, .slice ca cn cc] : Array Value).toList ++ (#[.int .i64 0, .int .i64 0, .string ⟨#[]⟩, .slice none 0 0, .slice none 0 0, .slice none 0 0, .slice none 0 0] : Array Value).toList.drop (0 + (#[.int .i64 C, .int .i64 Z, .string bk, .slice x5a x5n x5c, .slice sa sn sc, .slice ma mn mc, .slice ca cn cc] : Array Value).toList.length)).toArray)
  rw [hw6.out] at hp
  obtain ⟨r9, kr⟩ := hp
  refine wp_store_in9 (.tmp 4) (.tmp 15) rfl (w.heap.size + 1) 0 #[.int .i64 0, .int .i64 0, .string ⟨#[]⟩, .slice none 0 0, .slice none 0 0, .slice none 0 0, .slice none 0 0] #[.int .i64 C, .int .i64 Z, .string bk, .slice x5a x5n x5c, .slice sa sn sc, .slice ma mn mc, .slice ca cn cc] (by rfl) (by rfl) HZ5.out meta_size (Nat.le_refl 7) (fun u hu => by simp at hu; rcases hu with rfl | rfl | rfl | rfl | rfl | rfl | rfl <;> rfl) ?_
  rw [hw6.out]
  have HM6 := Lib.hid (HM5.out.kept kr (fun e => by have := Option.some.inj e; omega))
  have N9 := Lib.hid (HN5.out.off HZ5.out.off6 kr)
  have B9 := Lib.hid (HB5.out.grown kr HB5.out.size (fun k hk => by have := Option.some.inj hk; omega))
  have R9 := Lib.hid r9
  clear r9 kr z0 z1 z2 z3 z4 z5 z6 g0 g1 g2 g3 g4 g5 g6
  (try dsimp only)
  refine hK.out _ _ (by first | exact cells7 HMd.out | exact cells7 HM3.out | exact cells7 HM5.out | exact cells7 HM6.out) (fun hHeld => ?_)
  clear hK K
  (try simp only [List.getElem_toArray, List.getElem_cons_zero, List.getElem_cons_succ, Act.put, List.setIfInBounds_toArray, List.set_cons_zero, List.set_cons_succ])
  refine wpAnyH_take (i := 7) (oi := _) (v := ?vq5) rfl (by kernel_rfl) (by kernel_rfl) (by kernel_rfl) (fun _ _ _ h => h) (Or.inl ⟨by rfl, ?hyq5⟩) (by assumption) ?restq5
  case hyq5 => (intro wz hSw; (try dsimp only at hSw); go_simp; try with_reducible rfl)
  (try simp only [List.getElem_toArray, List.getElem_cons_zero, List.getElem_cons_succ, Act.put, List.setIfInBounds_toArray, List.set_cons_zero, List.set_cons_succ])
  refine wpAnyH_done (by kernel_rfl) ?_ _
  go_wp2
  have r9 := R9.out
  have n9 := N9.out
  have b9 := B9.out
  refine bodyPost_ret (results_cell_tmp rfl _ _ (w.heap.size + 1) 41 #[.int .i64 C, .int .i64 Z, .string bk, .slice x5a x5n x5c, .slice sa sn sc, .slice ma mn mc, .slice ca cn cc] (0, 0) _ rfl _ rfl r9 Tryz.underlying41 rfl meta_size) rfl ?_
  exact ⟨⟨x5a, x5n, x5c, sa, sn, sc, ma, mn, mc, ca, cn, cc⟩, rfl, ⟨n9.hc, n9.hs, n9.hbk, n9.T.mono hs35 (fun _ _ _ => trivial), n9.S.mono hs35 (fun _ _ _ => trivial), n9.B.mono hs35, ⟨n9.K.1.mono9 hs35, n9.K.2⟩⟩, b9⟩
end Go.Proofs.YtlljcdmblmkblaaGreat
namespace Go.Proofs.YtlljcdmblmkblaaGreat
open Go.RowKit
set_option linter.unusedVariables false

/-- The faults of bad lines. -/
def bfL (L : List Ln) : List Flt := L.map fun y => (1, y.2.1, y.1)
theorem cfL_len (f : Nat → Int) (n : Nat) (g : Nat → Int) (m : Nat) : ∀ k, (cfL f n g m k).length ≤ k
  | 0 => Nat.le_refl _
  | k + 1 => by
    have h1 := cfL_len f n g m k
    have h2 : (cfAt (valF f n k) (valF g m k) k).length ≤ 1 := by
      unfold cfAt
      split
      · exact Nat.le_refl _
      · split
        · exact Nat.le_refl _
        · exact Nat.zero_le _
    show (cfL f n g m k ++ cfAt (valF f n k) (valF g m k) k).length ≤ k + 1
    rw [List.length_append]
    omega
theorem field6 (C Z : Int) (bk : ByteArray) (a0 : Option Addr) (n0 c0 : Nat) (a1 : Option Addr) (n1 c1 : Nat) (a2 : Option Addr) (n2 c2 : Nat) (a3 : Option Addr) (n3 c3 : Nat) (w : World) : (Instr.field 41 (.agg #[.int .i64 C, .int .i64 Z, .string bk, .slice a0 n0 c0, .slice a1 n1 c1, .slice a2 n2 c2, .slice a3 n3 c3]) 6).run Tryz.prog w = .ok (.slice a3 n3 c3) w := by kernel_rfl
theorem intsR_of {w : World} {a : Option Addr} {len : Nat} {K : List Int} (h : Reads ivV w a len K) (hlen : len ≤ 1000000) {f : Nat → Int} (hf : ∀ i, i < len → K[i]? = some (f i)) : IntsR w a len f := by
  refine ⟨by omega, fun h0 => ?_⟩
  obtain ⟨b, off, rfl⟩ := h.lies h0
  obtain ⟨h1, h2, h3⟩ := id h
  refine ⟨b, off, rfl, ?_, fun i hi => ?_⟩
  · rcases h3 with h3 | ⟨b', off', e, h4, _⟩
    · omega
    · cases e
      exact h4
  · have := Reads.cellAt iv_rowed h i 0 (f i) (.int .i64 (f i)) (hf i hi) rfl
    rwa [Nat.mul_one, Nat.add_zero] at this
/-- The faults of a meta of one table (15.2). -/
noncomputable def faultsM (l : List Int) (KN : Nat) (C : Int) (T : Tb) (K : List Int) : List Flt :=
  bfL (badT l C T) ++ cfL (fun i => K.getD i 0) K.length (ofL (allLines (zerosT T (badT l C T)) [])) KN (max K.length KN)
set_option maxRecDepth 100000 in
set_option maxHeartbeats 3200000 in
theorem faults15 (w : World) (a : Option Addr) (n cp : Nat) (l : List Int) (hB : Bytes w a n l) (hc : n ≤ cp) (hnil : a = none → cp = 0) (hn : n ≤ 1000000000) (x : Mt) (C Z : Int) (bk : ByteArray) (T : Tb) (B : List BmM) (K : List Int) (h : MetaD w x ⟨C, Z, bk, T, [], B, K⟩) (hR : RightMt ⟨C, Z, bk, T, [], B, K⟩) {KN : Nat} (hK : wholeN n = KN) :
    Calls Tryz.prog 20 #[.agg (mtA ⟨C, Z, bk, T, [], B, K⟩ x), .slice a n cp] w fun e w' => ∃ (a' : Option Addr) (N c' : Nat), e = .returned (.slice a' N c') ∧ OwnG flV 53 3 w' w.heap.size (.slice a' N c') N (faultsM l KN C T K) ∧ Below w.heap.size w w' := by
  have HRT := Lib.hid (fun W (hb : Below w.heap.size w W) => mRight W x _ (h.later hb))
  have HRM := Lib.hid hR
  have HBL := Lib.hid (fun W (hb : Below w.heap.size w W) => badLinesM W a n cp l (hB.later hb) hc hnil hn x C Z bk T B K (h.later hb) hR)
  have HWO := Lib.hid (fun W (hb : Below w.heap.size w W) ba bn bc (hL : Reads lnV W ba bn (badT l C T)) (hbn : bn ≤ 10000000) => without15 W x C Z bk T B K (h.later hb) ba bn bc (badT l C T) hL hbn (fun y hy => own_in hR.T (badL_mem hy)) hR.T a n cp hn hK)
  dsimp only [mtA] at HRT HBL HWO ⊢
  have HB0 := Lib.hid ((Below.refl w.heap.size w).alloc (Nat.le_refl _) (.cells #[.int .i64 C, .int .i64 Z, .string bk, .slice x.a0 x.n0 x.c0, .slice x.sa x.sn x.sc, .slice x.ma x.mn x.mc, .slice x.ca x.cn x.cc] 41))
  have HM0 := Lib.hid (Blk.new w 41 #[.int .i64 C, .int .i64 Z, .string bk, .slice x.a0 x.n0 x.c0, .slice x.sa x.sn x.sc, .slice x.ma x.mn x.mc, .slice x.ca x.cn x.cc])
  have HKD := Lib.hid (fun W (hb : Below w.heap.size w W) => h.K.later hb)
  have hKN6 : KN ≤ 65536 := by rw [← hK]; unfold wholeN; omega
  clear hB hc hnil h hR hK
  go_enter Tryz.func20, Tryz.ntmps20
  go_wp2_with (first
    | (go_at_call 38; (with_reducible refine (HRT.out _ HB0.out).mono ?_); rintro e w1 ⟨G, rfl, hb, hg⟩; obtain rfl := hg.2 HRM.out; have HB1 := Lib.hid (HB0.out.trans (hb.mono HB0.out.size)); have HM1 := Lib.hid (HM0.out.later hb); obtain ⟨x0, x1, x2, x3, x4, x5, x6⟩ := cells7 HM1.out; clear hb hg)
    | (go_at_call 40; (with_reducible refine (HBL.out _ HB1.out).mono ?_); rintro e w3 ⟨ba, bn, bc, rfl, hO, hbn, hb3⟩; have HO3 := Lib.hid hO; have hbn := hbn; have HB3 := Lib.hid (HB1.out.trans (hb3.mono HB1.out.size)); have HM3 := Lib.hid (HM1.out.later hb3); clear hO hb3 x0 x1 x2 x3 x4 x5 x6))
  obtain ⟨Q, hQ⟩ := named w3.heap.size
  have hQw : w.heap.size ≤ Q := by have h1 := HB3.out.size; have := hQ.out; omega
  go_loopw [6, 17] (fun o i wr => ∃ (j cc : Nat) (oa : Option Addr), j ≤ bn ∧ o = .slice oa j cc ∧ i = .int .i64 j ∧ Hid (OwnG flV 53 3 wr Q (.slice oa j cc) j (bfL ((badT l C T).take j))) ∧ Hid (Below w3.heap.size w3 wr)) (fun _ i _ => bn - (intOf i).toNat)
  case atStart => exact ⟨0, 0, none, Nat.zero_le _, rfl, rfl, OwnG.none _ _ _ _ _, Below.refl _ _⟩
  case round =>
    obtain ⟨j, cc, oa, hj, rfl, rfl, HF, HB⟩ := hrel
    by_cases hlt : j < bn
    · have hi : (j : Int) < (bn : Int) := by omega
      have hQr : Q ≤ wr.heap.size := by have h1 := HB.out.size; have := hQ.out; omega
      obtain ⟨bl, off, sh, cl, k, st, ct, z, m, hla, hx, e0, e1, e2, e3, e4, e5, e6⟩ := ln_at ((OwnG.reads ln_rowed HO3.out).1.later HB.out) j hlt
      subst hla
      have HTK : Hid (bfL ((badT l C T).take (j + 1)) = bfL ((badT l C T).take j) ++ [(1, cl, sh)]) := by
        rw [Hid, List.take_add_one, hx]
        unfold bfL
        rw [List.map_append]
        rfl
      have HA := Lib.hid ((Below.refl wr.heap.size wr).alloc (Nat.le_refl _) (.cells #[.int .i64 sh, .int .i64 cl, .int .i64 k, .int .i64 st, .int .i64 ct, .int .i64 z, .int .u32 m] 58))
      obtain ⟨f0, f1, f2, f3, f4, f5, f6⟩ := cellsG (Blk.new wr 58 #[.int .i64 sh, .int .i64 cl, .int .i64 k, .int .i64 st, .int .i64 ct, .int .i64 z, .int .u32 m])
      have HFa := Lib.hid ((HF.out.alloc (.cells #[.int .i64 sh, .int .i64 cl, .int .i64 k, .int .i64 st, .int .i64 ct, .int .i64 z, .int .u32 m] 58)).alloc (.cells #[.int .i64 1, .int .i64 cl, .int .i64 sh] 53))
      have HBa := Lib.hid ((HB.out.alloc HB.out.size (.cells #[.int .i64 sh, .int .i64 cl, .int .i64 k, .int .i64 st, .int .i64 ct, .int .i64 z, .int .u32 m] 58)).alloc (by rw [World.size_alloc]; have := HB.out.size; omega) (.cells #[.int .i64 1, .int .i64 cl, .int .i64 sh] 53))
      clear hx HF
      go_wp2_with (at_builtin; refine append_lg fl_rowed rfl _ _ rfl Q _ j _ rfl HFa.out (some ⟨wr.heap.size + 1, 0, none⟩) 1 1 [(1, cl, sh)] rfl (fun e => by cases e) (one_reads2 wr (.cells #[.int .i64 sh, .int .i64 cl, .int .i64 k, .int .i64 st, .int .i64 ct, .int .i64 z, .int .u32 m] 58) (1, cl, sh) #[.int .i64 1, .int .i64 cl, .int .i64 sh] 53 rfl) (by omega) (by rw [World.size_alloc, World.size_alloc]; omega) ?_; intro pa c9 w9 g1 g2 g3; have HF9 := Lib.hid g1; have HB9 := Lib.hid (HBa.out.grown g2 (by rw [World.size_alloc, World.size_alloc]; have := HB.out.size; omega) (fun k hk => by have h1 := (HFa.out.1.lt k hk).1; have := hQ.out; omega)); clear g1 g2 g3)
      go_roundw
      case rel => exact ⟨j + 1, c9, pa, by omega, rfl, by go_num, by rw [HTK.out]; exact HF9.out, HB9.out⟩
      case measure => simp [intOf]; omega
    · obtain rfl : j = bn := by omega
      have hd := (Below.refl wr.heap.size wr).drew
      have HBw := Lib.hid (HB3.out.trans ((HB.out.trans (hd.mono HB.out.size)).mono HB3.out.size))
      have HMw := Lib.hid ((HM3.out.later HB.out).later hd)
      have HLw := Lib.hid (((OwnG.reads ln_rowed HO3.out).1.later HB.out).later hd)
      have HFw : Hid (OwnG flV 53 3 wr.drew Q (.slice oa j cc) j (bfL (badT l C T))) := by
        have := HF.out
        rw [List.take_of_length_le (Nat.le_of_eq HO3.out.2.1)] at this
        exact this.drew
      have hQs : Q ≤ wr.drew.heap.size := by have h1 := HB.out.size; have h2 := hd.size; have := hQ.out; omega
      have hKl : K.length = x.cn := (HKD.out w (Below.refl _ _)).1.1
      have hK5 : x.cn ≤ 65536 := by have h1 : K.length ≤ 65536 := HRM.out.nK; omega
      have hKN6 : KN ≤ 65536 := hKN6
      obtain ⟨kf, hkf⟩ := named (fun i => K.getD i 0)
      have HKF : Hid (∀ i, i < x.cn → K[i]? = some (kf i)) := fun i hi => by
        rw [← hkf.out]
        show _ = some (K.getD i 0)
        rw [List.getD_eq_getElem?_getD, List.getElem?_eq_getElem (by omega)]
        rfl
      have HFM : Hid (faultsM l KN C T K = bfL (badT l C T) ++ cfL kf x.cn (ofL (allLines (zerosT T (badT l C T)) [])) KN (max x.cn KN)) := by
        rw [Hid, ← hkf.out]
        unfold faultsM
        rw [hKl]
      clear HO3 HB HF HM3 HB3 HRT HBL
      go_wp2
      refine wp_region_held_drew (S := fun W => W.cell? ⟨w.heap.size, 0, none⟩ = some (.int .i64 C) ∧ W.cell? ⟨w.heap.size, 1, none⟩ = some (.int .i64 Z) ∧ W.cell? ⟨w.heap.size, 2, none⟩ = some (.string bk) ∧ W.cell? ⟨w.heap.size, 3, none⟩ = some (.slice x.a0 x.n0 x.c0) ∧ W.cell? ⟨w.heap.size, 4, none⟩ = some (.slice x.sa x.sn x.sc) ∧ W.cell? ⟨w.heap.size, 5, none⟩ = some (.slice x.ma x.mn x.mc) ∧ W.cell? ⟨w.heap.size, 6, none⟩ = some (.slice x.ca x.cn x.cc)) (by kernel_rfl) (by first | exact cells7 HMw.out | exact cells7 HM5.out | exact cells7 HM8.out | exact cells7 HM9.out) (fun hHeld => ?_)
      refine wpAnyH_take (i := 0) (oi := _) (v := ?vq1) rfl (by kernel_rfl) (by kernel_rfl) (by kernel_rfl) (fun _ _ _ h => h) (Or.inl ⟨by rfl, ?hyq1⟩) (by assumption) ?restq1
      case hyq1 => (intro wz hSw; (try dsimp only at hSw); go_simp; try with_reducible rfl)
      (try simp only [List.getElem_toArray, List.getElem_cons_zero, Act.put, List.setIfInBounds_toArray, List.set_cons_zero, List.set_cons_succ])
      refine wpAnyH_take (i := 1) (oi := _) (v := ?vq2) rfl (by kernel_rfl) (by kernel_rfl) (by kernel_rfl) (fun _ _ _ h => h) (Or.inl ⟨by rfl, ?hyq2⟩) (by assumption) ?restq2
      case hyq2 => (intro wz hSw; (try dsimp only at hSw); go_simp; try with_reducible rfl)
      (try simp only [List.getElem_toArray, List.getElem_cons_zero, List.getElem_cons_succ, Act.put, List.setIfInBounds_toArray, List.set_cons_zero, List.set_cons_succ])
      refine wpAnyH_take (i := 2) (oi := _) (v := ?vq3) rfl (by kernel_rfl) (by kernel_rfl) (by kernel_rfl) (fun _ _ _ h => h) (Or.inl ⟨by rfl, ?hyq3⟩) (by assumption) ?restq3
      case hyq3 => (intro wz hSw; (try dsimp only at hSw); go_simp; try with_reducible rfl)
      (try simp only [List.getElem_toArray, List.getElem_cons_zero, List.getElem_cons_succ, Act.put, List.setIfInBounds_toArray, List.set_cons_zero, List.set_cons_succ])
      refine wpAnyH_take (i := 3) (oi := _) (v := ?vq4) rfl (by kernel_rfl) (by kernel_rfl) (by kernel_rfl) (fun _ _ _ h => h) (Or.inl ⟨by rfl, ?hyq4⟩) (by assumption) ?restq4
      case hyq4 => (intro wz hSw; (try dsimp only at hSw); go_simp; try with_reducible rfl)
      (try simp only [List.getElem_toArray, List.getElem_cons_zero, List.getElem_cons_succ, Act.put, List.setIfInBounds_toArray, List.set_cons_zero, List.set_cons_succ])
      refine wpAnyH_take (i := 4) (oi := _) (v := ?vq5) rfl (by kernel_rfl) (by kernel_rfl) (by kernel_rfl) (fun _ _ _ h => h) (Or.inl ⟨by rfl, ?hyq5⟩) (by assumption) ?restq5
      case hyq5 => (intro wz hSw; (try dsimp only at hSw); go_simp; try with_reducible rfl)
      (try simp only [List.getElem_toArray, List.getElem_cons_zero, List.getElem_cons_succ, Act.put, List.setIfInBounds_toArray, List.set_cons_zero, List.set_cons_succ])
      refine wpAnyH_take (i := 5) (oi := _) (v := ?vq6) rfl (by kernel_rfl) (by kernel_rfl) (by kernel_rfl) (fun _ _ _ h => h) (Or.inl ⟨by rfl, ?hyq6⟩) (by assumption) ?restq6
      case hyq6 => (intro wz hSw; (try dsimp only at hSw); go_simp; try with_reducible rfl)
      (try simp only [List.getElem_toArray, List.getElem_cons_zero, List.getElem_cons_succ, Act.put, List.setIfInBounds_toArray, List.set_cons_zero, List.set_cons_succ])
      refine wpAnyH_ready (rs := [6]) (by kernel_rfl) (by simp) ?_
      refine (AllReadyH.cons (o := _) rfl (fun K hK => ?_) AllReadyH.nil)
      rw [if_pos (by rfl)]
      go_simp
      (go_at_call 39; (with_reducible refine (HWO.out _ HBw.out ba j bc HLw.out (by omega)).mono ?_); rintro e w5 ⟨x5, rfl, hN, hb5⟩; obtain ⟨x5a, x5n, x5c, sa, sn, sc, ma, mn, mc, ca, cn, cc5⟩ := x5; have HN5 := Lib.hid hN; have HB5 := Lib.hid (HBw.out.trans (hb5.mono HBw.out.size)); have HM5 := Lib.hid (HMw.out.later hb5); have HF5 := Lib.hid (HFw.out.kept' (grown_below hb5 none) (fun k _ e => by cases e)); have hs5 := hb5.size; clear hN hb5; dsimp only [mtA]; have hfd := fun wz => field6 C Z bk x5a x5n x5c sa sn sc ma mn mc ca cn cc5 wz)
      (try dsimp only)
      refine hK.out _ _ (by first | exact cells7 HMw.out | exact cells7 HM5.out | exact cells7 HM8.out | exact cells7 HM9.out) (fun hHeld => ?_)
      clear hK K
      (try simp only [List.getElem_toArray, List.getElem_cons_zero, List.getElem_cons_succ, Act.put, List.setIfInBounds_toArray, List.set_cons_zero, List.set_cons_succ])
      refine wpAnyH_take (i := 7) (oi := _) (v := ?vq7) rfl (by kernel_rfl) (by kernel_rfl) (by kernel_rfl) (fun _ _ _ h => h) (Or.inl ⟨by rfl, ?hyq7⟩) (by assumption) ?restq7
      case hyq7 => (intro wz hSw; (try dsimp only at hSw); go_simp; try with_reducible rfl)
      (try simp only [List.getElem_toArray, List.getElem_cons_zero, List.getElem_cons_succ, Act.put, List.setIfInBounds_toArray, List.set_cons_zero, List.set_cons_succ])
      refine wpAnyH_ready (rs := [8]) (by kernel_rfl) (by simp) ?_
      refine (AllReadyH.cons (o := _) rfl (fun K hK => ?_) AllReadyH.nil)
      rw [if_pos (by rfl)]
      go_simp
      have hcn : cn = KN := by have h1 := HN5.out.K.1.2.1; dsimp only at h1; rw [← h1, List.length_map, List.length_range]
      have HIF := Lib.hid (intsR_of (f := kf) (HKD.out _ HB5.out).1 (by omega) HKF.out)
      have HIG := Lib.hid (intsR_of (f := ofL (allLines (zerosT T (badT l C T)) [])) (OwnG.reads iv_rowed HN5.out.K.1).1 (by dsimp only; omega) (fun i hi => by dsimp only at hi ⊢; rw [List.getElem?_map, List.getElem?_range (by omega)]; rfl))
      dsimp only at HIG
      subst hcn
      (go_at_call 51; (with_reducible refine (countFaults15 w5 _ _ x.cn cn _ _ _ _ HIF.out HIG.out (by omega) (by omega)).mono ?_); rintro e w8 ⟨oo, ON, oc, rfl, hO, hb8⟩; have HC8 := Lib.hid hO; have HB8 := Lib.hid (HB5.out.trans (hb8.mono HB5.out.size)); have HM8 := Lib.hid (HM5.out.later hb8); have HF8 := Lib.hid (HF5.out.kept' (grown_below hb8 none) (fun k _ e => by cases e)); have hs8 := hb8.size; clear hO hb8)
      (try dsimp only)
      refine hK.out _ _ (by first | exact cells7 HMw.out | exact cells7 HM5.out | exact cells7 HM8.out | exact cells7 HM9.out) (fun hHeld => ?_)
      clear hK K
      (try simp only [List.getElem_toArray, List.getElem_cons_zero, List.getElem_cons_succ, Act.put, List.setIfInBounds_toArray, List.set_cons_zero, List.set_cons_succ])
      refine wpAnyH_ready (rs := [9]) (by kernel_rfl) (by simp) ?_
      refine (AllReadyH.cons (o := _) rfl (fun K hK => ?_) AllReadyH.nil)
      rw [if_pos (by rfl)]
      have hCR := OwnG.reads fl_rowed HC8.out
      have hON : ON ≤ max x.cn cn := by have h1 := HC8.out.2.1; rw [← h1]; exact cfL_len _ _ _ _ _
      refine wp_append_lg fl_rowed (.tmp 30) (.tmp 38) rfl Q _ j _ rfl HF8.out oo ON oc _ rfl hCR.2.1 hCR.1 (by omega) (by omega) ?_
      intro pa c9 w9 g1 g2 g3
      have HF9 := Lib.hid g1
      have HM9 := Lib.hid (HM8.out.kept g2 (HM8.out.not_row (by decide) HF8.out))
      have HB9 := Lib.hid (HB8.out.grown g2 HB8.out.size (fun k hk => by have h1 := (HF8.out.1.lt k hk).1; omega))
      clear g1 g2 g3 hCR
      (try dsimp only)
      refine hK.out _ _ (by first | exact cells7 HMw.out | exact cells7 HM5.out | exact cells7 HM8.out | exact cells7 HM9.out) (fun hHeld => ?_)
      clear hK K
      (try simp only [List.getElem_toArray, List.getElem_cons_zero, List.getElem_cons_succ, Act.put, List.setIfInBounds_toArray, List.set_cons_zero, List.set_cons_succ])
      refine wpAnyH_take (i := 10) (oi := _) (v := ?vq8) rfl (by kernel_rfl) (by kernel_rfl) (by kernel_rfl) (fun _ _ _ h => h) (Or.inl ⟨by rfl, ?hyq8⟩) (by assumption) ?restq8
      case hyq8 => (intro wz hSw; (try dsimp only at hSw); go_simp; try with_reducible rfl)
      (try simp only [List.getElem_toArray, List.getElem_cons_zero, List.getElem_cons_succ, Act.put, List.setIfInBounds_toArray, List.set_cons_zero, List.set_cons_succ])
      refine wpAnyH_done (by kernel_rfl) ?_ _
      go_wp2
      go_ret
      refine ⟨pa, j + ON, c9, rfl, ?_, HB9.out⟩
      have := HF9.out.mono9 hQw
      rw [HFM.out]
      exact this
end Go.Proofs.YtlljcdmblmkblaaGreat
namespace Go.Proofs.YtlljcdmblmkblaaGreat
open Go.RowKit
set_option linter.unusedVariables false

theorem num15 (z : Int) (w : World) : Calls Tryz.prog 13 #[.int .i64 z] w fun e w' => e = .returned (.int .i64 z) ∧ w' = w := by
  go_enter Tryz.func13, Tryz.ntmps13
  go_wp2
  go_ret
  exact ⟨rfl, rfl⟩
/-- A meta of a table alone. -/
theorem metaD_of {w : World} {a : Option Addr} {n c : Nat} {T : Tb} (h : Tab w a n c T) {C Z : Int} (hC : I64 C) (hZ : I64 Z) : MetaD w ⟨a, n, c, none, 0, 0, none, 0, 0, none, 0, 0⟩ ⟨C, Z, ⟨#[]⟩, T, [], [], []⟩ :=
  ⟨hC, hZ, by show 0 ≤ _; omega, h, ⟨[], ⟨Reads.nil _ _ _, fun d hd => by cases hd⟩, rfl, ⟨fun _ => rfl, Nat.le_refl _⟩, Nat.zero_le _, fun d hd => by cases hd⟩, ⟨[], ⟨Reads.nil _ _ _, fun d hd => by cases hd⟩, rfl, ⟨fun _ => rfl, Nat.le_refl _⟩, Nat.zero_le _, fun d hd => by cases hd⟩, ⟨Reads.nil _ _ _, ⟨fun _ => rfl, Nat.le_refl _⟩, Nat.zero_le _⟩⟩
theorem make_noughts (w : World) (n : Nat) (hn : n ≤ 100000) : (Instr.makeSlice 25 (.int .i64 n) (.int .i64 n)).run Tryz.prog w = .ok (.slice (some ⟨w.heap.size, 0, none⟩) n n) (w.alloc (.cells (madeCells #[.int .u8 0] n) 5)) ∧ Bytes (w.alloc (.cells (madeCells #[.int .u8 0] n) 5)) (some ⟨w.heap.size, 0, none⟩) n (noughts n) := by
  obtain ⟨i0, hi, he⟩ := Option.map_eq_some_iff.1 info5
  simp only [Prod.mk.injEq] at he
  have := run_make (P := Tryz.prog) w 25 5 i0 (.int .u8 0) Tryz.underlying25 hi he.1 .i64 .i64 n n (by omega) (Int.le_refl _) (by rw [he.2.2]; omega) (by omega)
  rw [he.2.1, Int.toNat_natCast, Nat.mul_one] at this
  refine ⟨this, by unfold noughts; rw [List.length_replicate], ⟨by unfold noughts; rw [List.length_replicate]; omega, noughts_bd n⟩, Or.inr ⟨w.heap.size, 0, rfl, by rw [World.size_alloc]; omega, fun j hj => ?_⟩⟩
  unfold noughts at hj ⊢
  rw [List.length_replicate] at hj
  rw [Nat.zero_add, (Blk.new w 5 (madeCells #[.int .u8 0] n)).cell, List.getD_eq_getElem?_getD, List.getElem?_replicate, if_pos hj]
  rw [← Array.getElem?_toList, toList_madeCells_one, List.getElem?_replicate, if_pos hj]
  rfl
def eA : En := (2, 9, 1, 0, 0)
def lA : List En := [eA, enZ, enZ, enZ, enZ, enZ, enZ, enZ]
def tA : Tb := [lA]
theorem bytesA : bytesE eA (noughts 64) 0 = ([], 6) := by
  unfold bytesE
  rw [if_neg (fun h => h (by unfold MayE eA; decide)), if_neg (fun h => h (Or.inl rfl)), if_pos (by unfold noughts wholeN eA; rw [List.length_replicate]; decide)]
theorem linesA : allLines tA [] = [(-1, 0, eA)] := by rfl
theorem badA : badT (noughts 64) 0 tA = [(-1, 0, eA)] := by
  unfold badT badL badRun
  rw [linesA, List.foldl_cons, List.foldl_nil, stepB_bad (by show (bytesE eA (noughts 64) 0).2 ≠ 0; rw [bytesA]; decide)]
  rfl
theorem zerosA : zerosT tA [(-1, 0, eA)] = [[enZ1, enZ, enZ, enZ, enZ, enZ, enZ, enZ]] := by decide
theorem faultsA : faultsM (noughts 64) 4 0 tA [] = [(1, 0, -1), (2, 0, 0), (2, 1, 0)] := by
  unfold faultsM
  rw [badA, zerosA]
  decide
theorem rightA : RightMt ⟨0, 1, ⟨#[]⟩, tA, [], [], []⟩ := by
  refine ⟨by decide, by decide, fun h => absurd h (by decide), by decide, by decide, by decide, ⟨by decide, by decide, fun _ => by decide, by decide, fun i hi hne => ?_⟩, fun i d h => (by cases i <;> cases h), fun i d h => (by cases i <;> cases h), fun k hk => by cases hk⟩
  have : i = 0 := by
    have h1 : i < 1 := hi
    omega
  subst this
  exact ⟨rfl, by decide, 0, by decide, by decide⟩
theorem eql_flA (w : World) : (binOp .eql 53 (.agg #[.int .i64 1, .int .i64 0, .int .i64 (-1)]) (.agg #[.int .i64 1, .int .i64 0, .int .i64 (-1)])).run Tryz.prog w = .ok (.bool true) w := by kernel_rfl
theorem guard_fl : Tryz.prog.eqGuardType Tryz.prog.depth 53 = false := by kernel_rfl
theorem at15 {w : World} {a : Option Addr} {n c : Nat} {T : Tb} (h : Tab w a n c T) (i : Int) (hi : I64 i) {v1 v2 v3 v4 v5 : Int} (hv : atT T i = (v1, v2, v3, v4, v5)) : Calls Tryz.prog 26 #[.agg #[.slice a n c], .int .i64 i] w fun e w' => e = .returned (.agg #[.int .i64 v1, .int .i64 v2, .int .i64 v3, .int .i64 v4, .int .u32 v5]) ∧ Below w.heap.size w w' := by
  obtain ⟨ds, h1, _, rfl, _⟩ := h
  have := refAt8_any w a n c ds i h1 hi
  rw [hv] at this
  exact this
theorem kind15 (v1 v2 v3 v4 v5 : Int) (w : World) : (Instr.field 24 (.agg #[.int .i64 v1, .int .i64 v2, .int .i64 v3, .int .i64 v4, .int .u32 v5]) 0).run Tryz.prog w = .ok (.int .i64 v1) w := by kernel_rfl
theorem tab_lit (w : World) (lf : List En) (hl : lf.length = 8) (hok : ∀ x ∈ lf, EnOk x) {cs : Array Value} (hcs : cs.toList = lf.flatMap enV) : Tab ((w.alloc (.cells cs 24)).alloc (.cells #[.slice (some ⟨w.heap.size, 0, none⟩) 8 8] 68)) (some ⟨w.heap.size + 1, 0, none⟩) 1 1 [lf] := by
  have hsz : cs.size = 8 * 5 := by
    rw [← Array.length_toList, hcs, flat_len enV_len, hl]
  have h1 : OwnG enV 24 5 (w.alloc (.cells cs 24)) w.heap.size (.slice (some ⟨w.heap.size, 0, none⟩) 8 8) 8 lf := by
    refine ⟨?_, hl, by omega⟩
    have := World.ownsRow_lit (e := 24) (size := 5) w cs 8 (Nat.le_refl _) (by unfold maxLen; omega) hsz
    rw [hcs] at this
    exact this
  have h2 := one_reads2 (cv := cvD) w (.cells cs 24) ((some ⟨w.heap.size, 0, none⟩, 8, 8, lf) : LfD) #[.slice (some ⟨w.heap.size, 0, none⟩) 8 8] 68 rfl
  refine ⟨[(some ⟨w.heap.size, 0, none⟩, 8, 8, lf)], ⟨h2, fun d hd => ?_⟩, ⟨fun e => (by cases e), Nat.le_refl _⟩, rfl, by omega, fun d hd => ?_⟩
  · rw [List.mem_singleton] at hd
    subst hd
    exact (show LfR (w.alloc (.cells cs 24)) _ from ⟨(h1.reads en_rowed).1, Nat.le_refl _, fun e => (by cases e), hok⟩).later ((Below.refl _ _).alloc (Nat.le_refl _) _)
  · rw [List.mem_singleton] at hd
    subst hd
    exact (by decide : 8 ≤ 1000000)
set_option maxRecDepth 100000 in
set_option maxHeartbeats 6400000 in
theorem awake15 (w : World) : Calls Tryz.prog 10 #[] w fun e w' => e = .returned (.bool true) ∧ Below w.heap.size w w' := by
  have hT := tab_lit w lA rfl (by unfold lA eA enZ EnOk I64; decide) (cs := (List.toArray (.int .i64 2 :: .int .i64 9 :: .int .i64 1 :: .int .i64 0 :: .int .u32 0 :: .int .i64 0 :: .int .i64 0 :: .int .i64 0 :: .int .i64 0 :: .int .u32 0 :: .int .i64 0 :: .int .i64 0 :: .int .i64 0 :: .int .i64 0 :: .int .u32 0 :: .int .i64 0 :: .int .i64 0 :: .int .i64 0 :: .int .i64 0 :: .int .u32 0 :: .int .i64 0 :: .int .i64 0 :: .int .i64 0 :: .int .i64 0 :: .int .u32 0 :: .int .i64 0 :: .int .i64 0 :: .int .i64 0 :: .int .i64 0 :: .int .u32 0 :: .int .i64 0 :: .int .i64 0 :: .int .i64 0 :: .int .i64 0 :: .int .u32 0 :: .int .i64 0 :: .int .i64 0 :: .int .i64 0 :: .int .i64 0 :: .int .u32 0 :: []))) rfl
  have HT := Lib.hid hT
  have HB0 := Lib.hid ((((Below.refl w.heap.size w).alloc (Nat.le_refl _) (.cells (List.toArray (.int .i64 2 :: .int .i64 9 :: .int .i64 1 :: .int .i64 0 :: .int .u32 0 :: .int .i64 0 :: .int .i64 0 :: .int .i64 0 :: .int .i64 0 :: .int .u32 0 :: .int .i64 0 :: .int .i64 0 :: .int .i64 0 :: .int .i64 0 :: .int .u32 0 :: .int .i64 0 :: .int .i64 0 :: .int .i64 0 :: .int .i64 0 :: .int .u32 0 :: .int .i64 0 :: .int .i64 0 :: .int .i64 0 :: .int .i64 0 :: .int .u32 0 :: .int .i64 0 :: .int .i64 0 :: .int .i64 0 :: .int .i64 0 :: .int .u32 0 :: .int .i64 0 :: .int .i64 0 :: .int .i64 0 :: .int .i64 0 :: .int .u32 0 :: .int .i64 0 :: .int .i64 0 :: .int .i64 0 :: .int .i64 0 :: .int .u32 0 :: [])) 24)).alloc (by rw [World.size_alloc]; omega) (.cells #[.slice (some ⟨w.heap.size, 0, none⟩) 8 8] 68)).alloc (by rw [World.size_alloc, World.size_alloc]; omega) (.cells #[.int .i64 0, .int .i64 1, .string ⟨#[]⟩, .slice (some ⟨w.heap.size + 1, 0, none⟩) 1 1, .slice none 0 0, .slice none 0 0, .slice none 0 0] 41))
  have HM0 := Lib.hid (Blk.new ((w.alloc (.cells (List.toArray (.int .i64 2 :: .int .i64 9 :: .int .i64 1 :: .int .i64 0 :: .int .u32 0 :: .int .i64 0 :: .int .i64 0 :: .int .i64 0 :: .int .i64 0 :: .int .u32 0 :: .int .i64 0 :: .int .i64 0 :: .int .i64 0 :: .int .i64 0 :: .int .u32 0 :: .int .i64 0 :: .int .i64 0 :: .int .i64 0 :: .int .i64 0 :: .int .u32 0 :: .int .i64 0 :: .int .i64 0 :: .int .i64 0 :: .int .i64 0 :: .int .u32 0 :: .int .i64 0 :: .int .i64 0 :: .int .i64 0 :: .int .i64 0 :: .int .u32 0 :: .int .i64 0 :: .int .i64 0 :: .int .i64 0 :: .int .i64 0 :: .int .u32 0 :: .int .i64 0 :: .int .i64 0 :: .int .i64 0 :: .int .i64 0 :: .int .u32 0 :: [])) 24)).alloc (.cells #[.slice (some ⟨w.heap.size, 0, none⟩) 8 8] 68)) 41 #[.int .i64 0, .int .i64 1, .string ⟨#[]⟩, .slice (some ⟨w.heap.size + 1, 0, none⟩) 1 1, .slice none 0 0, .slice none 0 0, .slice none 0 0])
  rw [World.size_alloc, World.size_alloc] at HM0
  have HD := Lib.hid (fun W (hb : Below (((w.alloc (.cells (List.toArray (.int .i64 2 :: .int .i64 9 :: .int .i64 1 :: .int .i64 0 :: .int .u32 0 :: .int .i64 0 :: .int .i64 0 :: .int .i64 0 :: .int .i64 0 :: .int .u32 0 :: .int .i64 0 :: .int .i64 0 :: .int .i64 0 :: .int .i64 0 :: .int .u32 0 :: .int .i64 0 :: .int .i64 0 :: .int .i64 0 :: .int .i64 0 :: .int .u32 0 :: .int .i64 0 :: .int .i64 0 :: .int .i64 0 :: .int .i64 0 :: .int .u32 0 :: .int .i64 0 :: .int .i64 0 :: .int .i64 0 :: .int .i64 0 :: .int .u32 0 :: .int .i64 0 :: .int .i64 0 :: .int .i64 0 :: .int .i64 0 :: .int .u32 0 :: .int .i64 0 :: .int .i64 0 :: .int .i64 0 :: .int .i64 0 :: .int .u32 0 :: [])) 24)).alloc (.cells #[.slice (some ⟨w.heap.size, 0, none⟩) 8 8] 68)).alloc (.cells #[.int .i64 0, .int .i64 1, .string ⟨#[]⟩, .slice (some ⟨w.heap.size + 1, 0, none⟩) 1 1, .slice none 0 0, .slice none 0 0, .slice none 0 0] 41)).heap.size (((w.alloc (.cells (List.toArray (.int .i64 2 :: .int .i64 9 :: .int .i64 1 :: .int .i64 0 :: .int .u32 0 :: .int .i64 0 :: .int .i64 0 :: .int .i64 0 :: .int .i64 0 :: .int .u32 0 :: .int .i64 0 :: .int .i64 0 :: .int .i64 0 :: .int .i64 0 :: .int .u32 0 :: .int .i64 0 :: .int .i64 0 :: .int .i64 0 :: .int .i64 0 :: .int .u32 0 :: .int .i64 0 :: .int .i64 0 :: .int .i64 0 :: .int .i64 0 :: .int .u32 0 :: .int .i64 0 :: .int .i64 0 :: .int .i64 0 :: .int .i64 0 :: .int .u32 0 :: .int .i64 0 :: .int .i64 0 :: .int .i64 0 :: .int .i64 0 :: .int .u32 0 :: .int .i64 0 :: .int .i64 0 :: .int .i64 0 :: .int .i64 0 :: .int .u32 0 :: [])) 24)).alloc (.cells #[.slice (some ⟨w.heap.size, 0, none⟩) 8 8] 68)).alloc (.cells #[.int .i64 0, .int .i64 1, .string ⟨#[]⟩, .slice (some ⟨w.heap.size + 1, 0, none⟩) 1 1, .slice none 0 0, .slice none 0 0, .slice none 0 0] 41)) W) => metaD_of ((HT.out.later ((Below.refl _ _).alloc (Nat.le_refl _) (.cells #[.int .i64 0, .int .i64 1, .string ⟨#[]⟩, .slice (some ⟨w.heap.size + 1, 0, none⟩) 1 1, .slice none 0 0, .slice none 0 0, .slice none 0 0] 41))).later hb) (C := 0) (Z := 1) (by unfold I64; omega) (by unfold I64; omega))
  have HFA := Lib.hid (fun W (hb : Below (((w.alloc (.cells (List.toArray (.int .i64 2 :: .int .i64 9 :: .int .i64 1 :: .int .i64 0 :: .int .u32 0 :: .int .i64 0 :: .int .i64 0 :: .int .i64 0 :: .int .i64 0 :: .int .u32 0 :: .int .i64 0 :: .int .i64 0 :: .int .i64 0 :: .int .i64 0 :: .int .u32 0 :: .int .i64 0 :: .int .i64 0 :: .int .i64 0 :: .int .i64 0 :: .int .u32 0 :: .int .i64 0 :: .int .i64 0 :: .int .i64 0 :: .int .i64 0 :: .int .u32 0 :: .int .i64 0 :: .int .i64 0 :: .int .i64 0 :: .int .i64 0 :: .int .u32 0 :: .int .i64 0 :: .int .i64 0 :: .int .i64 0 :: .int .i64 0 :: .int .u32 0 :: .int .i64 0 :: .int .i64 0 :: .int .i64 0 :: .int .i64 0 :: .int .u32 0 :: [])) 24)).alloc (.cells #[.slice (some ⟨w.heap.size, 0, none⟩) 8 8] 68)).alloc (.cells #[.int .i64 0, .int .i64 1, .string ⟨#[]⟩, .slice (some ⟨w.heap.size + 1, 0, none⟩) 1 1, .slice none 0 0, .slice none 0 0, .slice none 0 0] 41)).heap.size (((w.alloc (.cells (List.toArray (.int .i64 2 :: .int .i64 9 :: .int .i64 1 :: .int .i64 0 :: .int .u32 0 :: .int .i64 0 :: .int .i64 0 :: .int .i64 0 :: .int .i64 0 :: .int .u32 0 :: .int .i64 0 :: .int .i64 0 :: .int .i64 0 :: .int .i64 0 :: .int .u32 0 :: .int .i64 0 :: .int .i64 0 :: .int .i64 0 :: .int .i64 0 :: .int .u32 0 :: .int .i64 0 :: .int .i64 0 :: .int .i64 0 :: .int .i64 0 :: .int .u32 0 :: .int .i64 0 :: .int .i64 0 :: .int .i64 0 :: .int .i64 0 :: .int .u32 0 :: .int .i64 0 :: .int .i64 0 :: .int .i64 0 :: .int .i64 0 :: .int .u32 0 :: .int .i64 0 :: .int .i64 0 :: .int .i64 0 :: .int .i64 0 :: .int .u32 0 :: [])) 24)).alloc (.cells #[.slice (some ⟨w.heap.size, 0, none⟩) 8 8] 68)).alloc (.cells #[.int .i64 0, .int .i64 1, .string ⟨#[]⟩, .slice (some ⟨w.heap.size + 1, 0, none⟩) 1 1, .slice none 0 0, .slice none 0 0, .slice none 0 0] 41)) W) a (hB : Bytes W (some ⟨a, 0, none⟩) 64 (noughts 64)) => faults15 W (some ⟨a, 0, none⟩) 64 64 (noughts 64) hB (Nat.le_refl _) (fun e => by cases e) (by omega) _ 0 1 ⟨#[]⟩ tA [] [] (HD.out W hb) rightA (KN := 4) rfl)
  have HME := Lib.hid (fun W (hb : Below (((w.alloc (.cells (List.toArray (.int .i64 2 :: .int .i64 9 :: .int .i64 1 :: .int .i64 0 :: .int .u32 0 :: .int .i64 0 :: .int .i64 0 :: .int .i64 0 :: .int .i64 0 :: .int .u32 0 :: .int .i64 0 :: .int .i64 0 :: .int .i64 0 :: .int .i64 0 :: .int .u32 0 :: .int .i64 0 :: .int .i64 0 :: .int .i64 0 :: .int .i64 0 :: .int .u32 0 :: .int .i64 0 :: .int .i64 0 :: .int .i64 0 :: .int .i64 0 :: .int .u32 0 :: .int .i64 0 :: .int .i64 0 :: .int .i64 0 :: .int .i64 0 :: .int .u32 0 :: .int .i64 0 :: .int .i64 0 :: .int .i64 0 :: .int .i64 0 :: .int .u32 0 :: .int .i64 0 :: .int .i64 0 :: .int .i64 0 :: .int .i64 0 :: .int .u32 0 :: [])) 24)).alloc (.cells #[.slice (some ⟨w.heap.size, 0, none⟩) 8 8] 68)).alloc (.cells #[.int .i64 0, .int .i64 1, .string ⟨#[]⟩, .slice (some ⟨w.heap.size + 1, 0, none⟩) 1 1, .slice none 0 0, .slice none 0 0, .slice none 0 0] 41)).heap.size (((w.alloc (.cells (List.toArray (.int .i64 2 :: .int .i64 9 :: .int .i64 1 :: .int .i64 0 :: .int .u32 0 :: .int .i64 0 :: .int .i64 0 :: .int .i64 0 :: .int .i64 0 :: .int .u32 0 :: .int .i64 0 :: .int .i64 0 :: .int .i64 0 :: .int .i64 0 :: .int .u32 0 :: .int .i64 0 :: .int .i64 0 :: .int .i64 0 :: .int .i64 0 :: .int .u32 0 :: .int .i64 0 :: .int .i64 0 :: .int .i64 0 :: .int .i64 0 :: .int .u32 0 :: .int .i64 0 :: .int .i64 0 :: .int .i64 0 :: .int .i64 0 :: .int .u32 0 :: .int .i64 0 :: .int .i64 0 :: .int .i64 0 :: .int .i64 0 :: .int .u32 0 :: .int .i64 0 :: .int .i64 0 :: .int .i64 0 :: .int .i64 0 :: .int .u32 0 :: [])) 24)).alloc (.cells #[.slice (some ⟨w.heap.size, 0, none⟩) 8 8] 68)).alloc (.cells #[.int .i64 0, .int .i64 1, .string ⟨#[]⟩, .slice (some ⟨w.heap.size + 1, 0, none⟩) 1 1, .slice none 0 0, .slice none 0 0, .slice none 0 0] 41)) W) a (hB : Bytes W (some ⟨a, 0, none⟩) 64 (noughts 64)) => mend15 W (some ⟨a, 0, none⟩) 64 64 (noughts 64) hB (Nat.le_refl _) (fun e => by cases e) (by omega) _ 0 1 ⟨#[]⟩ tA [] [] (HD.out W hb) rightA (KN := 4) rfl)
  have hmk : ∀ W : World, (Instr.makeSlice 25 (.int .i64 64) (.int .i64 64)).run Tryz.prog W = .ok (.slice (some ⟨W.heap.size, 0, none⟩) 64 64) (W.alloc (.cells (madeCells #[.int .u8 0] 64) 5)) := fun W => (make_noughts W 64 (by omega)).1
  dsimp only [mtA] at HFA HME
  clear hT
  have hd := (Below.refl (((w.alloc (.cells (List.toArray (.int .i64 2 :: .int .i64 9 :: .int .i64 1 :: .int .i64 0 :: .int .u32 0 :: .int .i64 0 :: .int .i64 0 :: .int .i64 0 :: .int .i64 0 :: .int .u32 0 :: .int .i64 0 :: .int .i64 0 :: .int .i64 0 :: .int .i64 0 :: .int .u32 0 :: .int .i64 0 :: .int .i64 0 :: .int .i64 0 :: .int .i64 0 :: .int .u32 0 :: .int .i64 0 :: .int .i64 0 :: .int .i64 0 :: .int .i64 0 :: .int .u32 0 :: .int .i64 0 :: .int .i64 0 :: .int .i64 0 :: .int .i64 0 :: .int .u32 0 :: .int .i64 0 :: .int .i64 0 :: .int .i64 0 :: .int .i64 0 :: .int .u32 0 :: .int .i64 0 :: .int .i64 0 :: .int .i64 0 :: .int .i64 0 :: .int .u32 0 :: [])) 24)).alloc (.cells #[.slice (some ⟨w.heap.size, 0, none⟩) 8 8] 68)).alloc (.cells #[.int .i64 0, .int .i64 1, .string ⟨#[]⟩, .slice (some ⟨w.heap.size + 1, 0, none⟩) 1 1, .slice none 0 0, .slice none 0 0, .slice none 0 0] 41)).heap.size (((w.alloc (.cells (List.toArray (.int .i64 2 :: .int .i64 9 :: .int .i64 1 :: .int .i64 0 :: .int .u32 0 :: .int .i64 0 :: .int .i64 0 :: .int .i64 0 :: .int .i64 0 :: .int .u32 0 :: .int .i64 0 :: .int .i64 0 :: .int .i64 0 :: .int .i64 0 :: .int .u32 0 :: .int .i64 0 :: .int .i64 0 :: .int .i64 0 :: .int .i64 0 :: .int .u32 0 :: .int .i64 0 :: .int .i64 0 :: .int .i64 0 :: .int .i64 0 :: .int .u32 0 :: .int .i64 0 :: .int .i64 0 :: .int .i64 0 :: .int .i64 0 :: .int .u32 0 :: .int .i64 0 :: .int .i64 0 :: .int .i64 0 :: .int .i64 0 :: .int .u32 0 :: .int .i64 0 :: .int .i64 0 :: .int .i64 0 :: .int .i64 0 :: .int .u32 0 :: [])) 24)).alloc (.cells #[.slice (some ⟨w.heap.size, 0, none⟩) 8 8] 68)).alloc (.cells #[.int .i64 0, .int .i64 1, .string ⟨#[]⟩, .slice (some ⟨w.heap.size + 1, 0, none⟩) 1 1, .slice none 0 0, .slice none 0 0, .slice none 0 0] 41))).drew
  have HBz := Lib.hid hd
  have HBd := Lib.hid hd
  have HMd := Lib.hid (HM0.out.later hd)
  clear hd
  go_enter Tryz.func10, Tryz.ntmps10
  go_wp2
  refine wp_region_held_drew (S := fun W => W.cell? ⟨w.heap.size + 1 + 1, 0, none⟩ = some (.int .i64 0) ∧ W.cell? ⟨w.heap.size + 1 + 1, 1, none⟩ = some (.int .i64 1) ∧ W.cell? ⟨w.heap.size + 1 + 1, 2, none⟩ = some (.string ⟨#[]⟩) ∧ W.cell? ⟨w.heap.size + 1 + 1, 3, none⟩ = some (.slice (some ⟨w.heap.size + 1, 0, none⟩) 1 1) ∧ W.cell? ⟨w.heap.size + 1 + 1, 4, none⟩ = some (.slice none 0 0) ∧ W.cell? ⟨w.heap.size + 1 + 1, 5, none⟩ = some (.slice none 0 0) ∧ W.cell? ⟨w.heap.size + 1 + 1, 6, none⟩ = some (.slice none 0 0)) (by kernel_rfl) (by first | exact cells7 HMd.out | exact cells7 HM1.out | exact cells7 HM3.out) (fun hHeld => ?_)
  refine wpAnyH_take (i := 0) (oi := _) (v := ?vq1) rfl (by kernel_rfl) (by kernel_rfl) (by kernel_rfl) (fun _ _ _ h => h) (Or.inl ⟨by rfl, ?hyq1⟩) (by assumption) ?restq1
  case hyq1 => (intro wz hSw; (try dsimp only at hSw); go_simp; try with_reducible rfl)
  (try simp only [List.getElem_toArray, List.getElem_cons_zero, Act.put, List.setIfInBounds_toArray, List.set_cons_zero, List.set_cons_succ])
  refine wpAnyH_ready (rs := [1]) (by kernel_rfl) (by simp) ?_
  refine (AllReadyH.cons (o := _) rfl (fun K hK => ?_) AllReadyH.nil)
  rw [if_pos (by rfl)]
  go_simp
  have hd1 := (Below.refl ((((w.alloc (.cells (List.toArray (.int .i64 2 :: .int .i64 9 :: .int .i64 1 :: .int .i64 0 :: .int .u32 0 :: .int .i64 0 :: .int .i64 0 :: .int .i64 0 :: .int .i64 0 :: .int .u32 0 :: .int .i64 0 :: .int .i64 0 :: .int .i64 0 :: .int .i64 0 :: .int .u32 0 :: .int .i64 0 :: .int .i64 0 :: .int .i64 0 :: .int .i64 0 :: .int .u32 0 :: .int .i64 0 :: .int .i64 0 :: .int .i64 0 :: .int .i64 0 :: .int .u32 0 :: .int .i64 0 :: .int .i64 0 :: .int .i64 0 :: .int .i64 0 :: .int .u32 0 :: .int .i64 0 :: .int .i64 0 :: .int .i64 0 :: .int .i64 0 :: .int .u32 0 :: .int .i64 0 :: .int .i64 0 :: .int .i64 0 :: .int .i64 0 :: .int .u32 0 :: [])) 24)).alloc (.cells #[.slice (some ⟨w.heap.size, 0, none⟩) 8 8] 68)).alloc (.cells #[.int .i64 0, .int .i64 1, .string ⟨#[]⟩, .slice (some ⟨w.heap.size + 1, 0, none⟩) 1 1, .slice none 0 0, .slice none 0 0, .slice none 0 0] 41)).alloc (.cells (madeCells #[.int .u8 0] 64) 5)).heap.size ((((w.alloc (.cells (List.toArray (.int .i64 2 :: .int .i64 9 :: .int .i64 1 :: .int .i64 0 :: .int .u32 0 :: .int .i64 0 :: .int .i64 0 :: .int .i64 0 :: .int .i64 0 :: .int .u32 0 :: .int .i64 0 :: .int .i64 0 :: .int .i64 0 :: .int .i64 0 :: .int .u32 0 :: .int .i64 0 :: .int .i64 0 :: .int .i64 0 :: .int .i64 0 :: .int .u32 0 :: .int .i64 0 :: .int .i64 0 :: .int .i64 0 :: .int .i64 0 :: .int .u32 0 :: .int .i64 0 :: .int .i64 0 :: .int .i64 0 :: .int .i64 0 :: .int .u32 0 :: .int .i64 0 :: .int .i64 0 :: .int .i64 0 :: .int .i64 0 :: .int .u32 0 :: .int .i64 0 :: .int .i64 0 :: .int .i64 0 :: .int .i64 0 :: .int .u32 0 :: [])) 24)).alloc (.cells #[.slice (some ⟨w.heap.size, 0, none⟩) 8 8] 68)).alloc (.cells #[.int .i64 0, .int .i64 1, .string ⟨#[]⟩, .slice (some ⟨w.heap.size + 1, 0, none⟩) 1 1, .slice none 0 0, .slice none 0 0, .slice none 0 0] 41)).alloc (.cells (madeCells #[.int .u8 0] 64) 5))).drew
  have HM1 := Lib.hid ((HM0.out.alloc (.cells (madeCells #[.int .u8 0] 64) 5)).later hd1)
  have hb1 := (Below.refl (((w.alloc (.cells (List.toArray (.int .i64 2 :: .int .i64 9 :: .int .i64 1 :: .int .i64 0 :: .int .u32 0 :: .int .i64 0 :: .int .i64 0 :: .int .i64 0 :: .int .i64 0 :: .int .u32 0 :: .int .i64 0 :: .int .i64 0 :: .int .i64 0 :: .int .i64 0 :: .int .u32 0 :: .int .i64 0 :: .int .i64 0 :: .int .i64 0 :: .int .i64 0 :: .int .u32 0 :: .int .i64 0 :: .int .i64 0 :: .int .i64 0 :: .int .i64 0 :: .int .u32 0 :: .int .i64 0 :: .int .i64 0 :: .int .i64 0 :: .int .i64 0 :: .int .u32 0 :: .int .i64 0 :: .int .i64 0 :: .int .i64 0 :: .int .i64 0 :: .int .u32 0 :: .int .i64 0 :: .int .i64 0 :: .int .i64 0 :: .int .i64 0 :: .int .u32 0 :: [])) 24)).alloc (.cells #[.slice (some ⟨w.heap.size, 0, none⟩) 8 8] 68)).alloc (.cells #[.int .i64 0, .int .i64 1, .string ⟨#[]⟩, .slice (some ⟨w.heap.size + 1, 0, none⟩) 1 1, .slice none 0 0, .slice none 0 0, .slice none 0 0] 41)).heap.size (((w.alloc (.cells (List.toArray (.int .i64 2 :: .int .i64 9 :: .int .i64 1 :: .int .i64 0 :: .int .u32 0 :: .int .i64 0 :: .int .i64 0 :: .int .i64 0 :: .int .i64 0 :: .int .u32 0 :: .int .i64 0 :: .int .i64 0 :: .int .i64 0 :: .int .i64 0 :: .int .u32 0 :: .int .i64 0 :: .int .i64 0 :: .int .i64 0 :: .int .i64 0 :: .int .u32 0 :: .int .i64 0 :: .int .i64 0 :: .int .i64 0 :: .int .i64 0 :: .int .u32 0 :: .int .i64 0 :: .int .i64 0 :: .int .i64 0 :: .int .i64 0 :: .int .u32 0 :: .int .i64 0 :: .int .i64 0 :: .int .i64 0 :: .int .i64 0 :: .int .u32 0 :: .int .i64 0 :: .int .i64 0 :: .int .i64 0 :: .int .i64 0 :: .int .u32 0 :: [])) 24)).alloc (.cells #[.slice (some ⟨w.heap.size, 0, none⟩) 8 8] 68)).alloc (.cells #[.int .i64 0, .int .i64 1, .string ⟨#[]⟩, .slice (some ⟨w.heap.size + 1, 0, none⟩) 1 1, .slice none 0 0, .slice none 0 0, .slice none 0 0] 41))).alloc (Nat.le_refl _) (.cells (madeCells #[.int .u8 0] 64) 5)
  have HB1 := Lib.hid (hb1.trans (hd1.mono hb1.size))
  have hn1 := (make_noughts (((w.alloc (.cells (List.toArray (.int .i64 2 :: .int .i64 9 :: .int .i64 1 :: .int .i64 0 :: .int .u32 0 :: .int .i64 0 :: .int .i64 0 :: .int .i64 0 :: .int .i64 0 :: .int .u32 0 :: .int .i64 0 :: .int .i64 0 :: .int .i64 0 :: .int .i64 0 :: .int .u32 0 :: .int .i64 0 :: .int .i64 0 :: .int .i64 0 :: .int .i64 0 :: .int .u32 0 :: .int .i64 0 :: .int .i64 0 :: .int .i64 0 :: .int .i64 0 :: .int .u32 0 :: .int .i64 0 :: .int .i64 0 :: .int .i64 0 :: .int .i64 0 :: .int .u32 0 :: .int .i64 0 :: .int .i64 0 :: .int .i64 0 :: .int .i64 0 :: .int .u32 0 :: .int .i64 0 :: .int .i64 0 :: .int .i64 0 :: .int .i64 0 :: .int .u32 0 :: [])) 24)).alloc (.cells #[.slice (some ⟨w.heap.size, 0, none⟩) 8 8] 68)).alloc (.cells #[.int .i64 0, .int .i64 1, .string ⟨#[]⟩, .slice (some ⟨w.heap.size + 1, 0, none⟩) 1 1, .slice none 0 0, .slice none 0 0, .slice none 0 0] 41)) 64 (by omega)).2.later hd1
  have hs1 : (((w.alloc (.cells (List.toArray (.int .i64 2 :: .int .i64 9 :: .int .i64 1 :: .int .i64 0 :: .int .u32 0 :: .int .i64 0 :: .int .i64 0 :: .int .i64 0 :: .int .i64 0 :: .int .u32 0 :: .int .i64 0 :: .int .i64 0 :: .int .i64 0 :: .int .i64 0 :: .int .u32 0 :: .int .i64 0 :: .int .i64 0 :: .int .i64 0 :: .int .i64 0 :: .int .u32 0 :: .int .i64 0 :: .int .i64 0 :: .int .i64 0 :: .int .i64 0 :: .int .u32 0 :: .int .i64 0 :: .int .i64 0 :: .int .i64 0 :: .int .i64 0 :: .int .u32 0 :: .int .i64 0 :: .int .i64 0 :: .int .i64 0 :: .int .i64 0 :: .int .u32 0 :: .int .i64 0 :: .int .i64 0 :: .int .i64 0 :: .int .i64 0 :: .int .u32 0 :: [])) 24)).alloc (.cells #[.slice (some ⟨w.heap.size, 0, none⟩) 8 8] 68)).alloc (.cells #[.int .i64 0, .int .i64 1, .string ⟨#[]⟩, .slice (some ⟨w.heap.size + 1, 0, none⟩) 1 1, .slice none 0 0, .slice none 0 0, .slice none 0 0] 41)).heap.size = w.heap.size + 1 + 1 + 1 := by rw [World.size_alloc, World.size_alloc, World.size_alloc]
  rw [hs1] at hn1
  have HN1 := Lib.hid hn1
  clear hn1 hb1 hd1
  refine hK.out _ _ (by first | exact cells7 HMd.out | exact cells7 HM1.out | exact cells7 HM3.out) (fun hHeld => ?_)
  clear hK K
  (try simp only [List.getElem_toArray, List.getElem_cons_zero, List.getElem_cons_succ, Act.put, List.setIfInBounds_toArray, List.set_cons_zero, List.set_cons_succ])
  refine wpAnyH_ready (rs := [2]) (by kernel_rfl) (by simp) ?_
  refine (AllReadyH.cons (o := _) rfl (fun K hK => ?_) AllReadyH.nil)
  rw [if_pos (by rfl)]
  go_simp
  (go_at_call 20; (with_reducible refine (HFA.out _ HB1.out _ HN1.out).mono ?_); rintro e w3 ⟨fa, fn, fc, rfl, hO, hb3⟩; have HF3 := Lib.hid hO; have HB3 := Lib.hid (HB1.out.trans (hb3.mono HB1.out.size)); have HM3 := Lib.hid (HM1.out.later hb3); clear hO hb3)
  (try dsimp only)
  refine hK.out _ _ (by first | exact cells7 HMd.out | exact cells7 HM1.out | exact cells7 HM3.out) (fun hHeld => ?_)
  clear hK K
  (try simp only [List.getElem_toArray, List.getElem_cons_zero, List.getElem_cons_succ, Act.put, List.setIfInBounds_toArray, List.set_cons_zero, List.set_cons_succ])
  refine wpAnyH_take (i := 3) (oi := _) (v := ?vq2) rfl (by kernel_rfl) (by kernel_rfl) (by kernel_rfl) (fun _ _ _ h => h) (Or.inl ⟨by rfl, ?hyq2⟩) (by assumption) ?restq2
  case hyq2 => (intro wz hSw; (try dsimp only at hSw); go_simp; try with_reducible rfl)
  (try simp only [List.getElem_toArray, List.getElem_cons_zero, List.getElem_cons_succ, Act.put, List.setIfInBounds_toArray, List.set_cons_zero, List.set_cons_succ])
  refine wpAnyH_done (by kernel_rfl) ?_ _
  go_wp2
  have hd3 := (Below.refl w3.heap.size w3).drew
  have HMr := Lib.hid (HM3.out.later hd3)
  have HBr := Lib.hid (HB3.out.trans (hd3.mono HB3.out.size))
  have HFr := Lib.hid HF3.out.drew
  have hbs := HB3.out.size
  have HZ3 : Hid (w.heap.size + 1 + 1 < w3.heap.size) := HM3.out.lt
  refine wp_region_held_drew (S := fun W => W.cell? ⟨w.heap.size + 1 + 1, 0, none⟩ = some (.int .i64 0) ∧ W.cell? ⟨w.heap.size + 1 + 1, 1, none⟩ = some (.int .i64 1) ∧ W.cell? ⟨w.heap.size + 1 + 1, 2, none⟩ = some (.string ⟨#[]⟩) ∧ W.cell? ⟨w.heap.size + 1 + 1, 3, none⟩ = some (.slice (some ⟨w.heap.size + 1, 0, none⟩) 1 1) ∧ W.cell? ⟨w.heap.size + 1 + 1, 4, none⟩ = some (.slice none 0 0) ∧ W.cell? ⟨w.heap.size + 1 + 1, 5, none⟩ = some (.slice none 0 0) ∧ W.cell? ⟨w.heap.size + 1 + 1, 6, none⟩ = some (.slice none 0 0)) (by kernel_rfl) (by exact cells7 HMr.out) (fun hHeld => ?_)
  refine wpAnyH_take (i := 0) (oi := _) (v := ?vqb1) rfl (by kernel_rfl) (by kernel_rfl) (by kernel_rfl) (fun _ _ _ h => h) (Or.inl ⟨by rfl, ?hyqb1⟩) (by assumption) ?restqb1
  case hyqb1 => (intro wz hSw; (try dsimp only at hSw); go_simp; try with_reducible rfl)
  (try simp only [List.getElem_toArray, List.getElem_cons_zero, Act.put, List.setIfInBounds_toArray, List.set_cons_zero, List.set_cons_succ])
  refine wpAnyH_ready (rs := [1, 6]) (by kernel_rfl) (by simp) ?_
  refine (AllReadyH.cons (o := _) rfl (fun K hK => ?_) (AllReadyH.cons (o := _) rfl (fun K hK => ?_) AllReadyH.nil))
  · rw [if_pos (by rfl)]
    go_simp
    have hn := (make_noughts w3.drew 64 (by omega)).2
    have HNr : Hid (Bytes (w3.drew.alloc (.cells (madeCells #[.int .u8 0] 64) 5)) (some ⟨w3.heap.size, 0, none⟩) 64 (noughts 64)) := hn
    clear hn
    have HMr := Lib.hid (HMr.out.alloc (.cells (madeCells #[.int .u8 0] 64) 5))
    have HBr := Lib.hid (HBr.out.alloc HBr.out.size (.cells (madeCells #[.int .u8 0] 64) 5))
    have HFr := Lib.hid (HFr.out.alloc (.cells (madeCells #[.int .u8 0] 64) 5))
    refine hK.out _ _ (by exact cells7 HMr.out) (fun hHeld => ?_)
    clear hK K
    (try simp only [List.getElem_toArray, List.getElem_cons_zero, List.getElem_cons_succ, Act.put, List.setIfInBounds_toArray, List.set_cons_zero, List.set_cons_succ])
    refine wpAnyH_ready (rs := [2, 6]) (by kernel_rfl) (by simp) ?_
    refine (AllReadyH.cons (o := _) rfl (fun K hK => ?_) (AllReadyH.cons (o := _) rfl (fun K hK => ?_) AllReadyH.nil))
    · rw [if_pos (by rfl)]
      go_simp
      (go_at_call 16; (refine (HME.out _ HBr.out _ HNr.out).mono ?_); rintro e w5 ⟨⟨x5a, x5n, x5c, sa, sn, sc, ma, mn, mc, ca, cn, cc⟩, rfl, hN, hb5⟩; have HRr := Lib.hid hN; have HFr := Lib.hid (HFr.out.kept' (grown_below hb5 none) (fun k _ e => by cases e)); have HMr := Lib.hid (HMr.out.later hb5); have h35 : w3.heap.size ≤ w5.heap.size := (by have h := hb5.size; have hz : w3.drew.heap.size = w3.heap.size := rfl; simp only [World.size_alloc] at h; omega); have HBr := Lib.hid (HBr.out.trans (hb5.mono HBr.out.size)); clear hN hb5)
      (try dsimp only [mtA])
      refine hK.out _ _ (by exact cells7 HMr.out) (fun hHeld => ?_)
      clear hK K
      (try simp only [List.getElem_toArray, List.getElem_cons_zero, List.getElem_cons_succ, Act.put, List.setIfInBounds_toArray, List.set_cons_zero, List.set_cons_succ])
      refine wpAnyH_take (i := 3) (oi := _) (v := ?vqb2) rfl (by kernel_rfl) (by kernel_rfl) (by kernel_rfl) (fun _ _ _ h => h) (Or.inl ⟨by rfl, ?hyqb2⟩) (by assumption) ?restqb2
      case hyqb2 => (intro wz hSw; (try dsimp only at hSw); go_simp; try with_reducible rfl)
      (try simp only [List.getElem_toArray, List.getElem_cons_zero, List.getElem_cons_succ, Act.put, List.setIfInBounds_toArray, List.set_cons_zero, List.set_cons_succ])
      refine wpAnyH_take (i := 4) (oi := _) (v := ?vqb3) rfl (by kernel_rfl) (by kernel_rfl) (by kernel_rfl) (fun _ _ _ h => h) (Or.inl ⟨by rfl, ?hyqb3⟩) (by assumption) ?restqb3
      case hyqb3 => (intro wz hSw; (try dsimp only at hSw); go_simp; try with_reducible rfl)
      (try simp only [List.getElem_toArray, List.getElem_cons_zero, List.getElem_cons_succ, Act.put, List.setIfInBounds_toArray, List.set_cons_zero, List.set_cons_succ])
      refine wpAnyH_take (i := 5) (oi := _) (v := ?vqb4) rfl (by kernel_rfl) (by kernel_rfl) (by kernel_rfl) (fun _ _ _ h => h) (Or.inl ⟨by rfl, ?hyqb4⟩) (by assumption) ?restqb4
      case hyqb4 => (intro wz hSw; (try dsimp only at hSw); go_simp; try with_reducible rfl)
      (try simp only [List.getElem_toArray, List.getElem_cons_zero, List.getElem_cons_succ, Act.put, List.setIfInBounds_toArray, List.set_cons_zero, List.set_cons_succ])
      refine wpAnyH_ready (rs := [6]) (by kernel_rfl) (by simp) ?_
      refine (AllReadyH.cons (o := _) rfl (fun K hK => ?_) AllReadyH.nil)
      rw [if_pos (by rfl)]
      go_simp
      have hx := Blk.new w5 41 #[.int .i64 0, .int .i64 0, .string ⟨#[]⟩, .slice none 0 0, .slice none 0 0, .slice none 0 0, .slice none 0 0]
      have HXr : Hid (Blk (w5.alloc (.cells #[.int .i64 0, .int .i64 0, .string ⟨#[]⟩, .slice none 0 0, .slice none 0 0, .slice none 0 0, .slice none 0 0] 41)) w5.heap.size 41 #[.int .i64 0, .int .i64 0, .string ⟨#[]⟩, .slice none 0 0, .slice none 0 0, .slice none 0 0, .slice none 0 0]) := hx
      clear hx
      have HMr := Lib.hid (HMr.out.alloc (.cells #[.int .i64 0, .int .i64 0, .string ⟨#[]⟩, .slice none 0 0, .slice none 0 0, .slice none 0 0, .slice none 0 0] 41))
      have HBr := Lib.hid (HBr.out.alloc HBr.out.size (.cells #[.int .i64 0, .int .i64 0, .string ⟨#[]⟩, .slice none 0 0, .slice none 0 0, .slice none 0 0, .slice none 0 0] 41))
      have HFr := Lib.hid (HFr.out.alloc (.cells #[.int .i64 0, .int .i64 0, .string ⟨#[]⟩, .slice none 0 0, .slice none 0 0, .slice none 0 0, .slice none 0 0] 41))
      have HRr := Lib.hid (HRr.out.later ((Below.refl _ _).alloc (Nat.le_refl _) (.cells #[.int .i64 0, .int .i64 0, .string ⟨#[]⟩, .slice none 0 0, .slice none 0 0, .slice none 0 0, .slice none 0 0] 41)))
      refine hK.out _ _ (by exact cells7 HMr.out) (fun hHeld => ?_)
      clear hK K
      (try simp only [List.getElem_toArray, List.getElem_cons_zero, List.getElem_cons_succ, Act.put, List.setIfInBounds_toArray, List.set_cons_zero, List.set_cons_succ])
      refine wpAnyH_ready (rs := [7]) (by kernel_rfl) (by simp) ?_
      refine (AllReadyH.cons (o := _) rfl (fun K hK => ?_) AllReadyH.nil)
      rw [if_pos (by rfl)]
      have hp := blk_put HXr.out #[.int .i64 0, .int .i64 1, .string ⟨#[]⟩, .slice x5a x5n x5c, .slice sa sn sc, .slice ma mn mc, .slice ca cn cc] rfl
      obtain ⟨w7, hw7⟩ := named ((w5.alloc (.cells #[.int .i64 0, .int .i64 0, .string ⟨#[]⟩, .slice none 0 0, .slice none 0 0, .slice none 0 0, .slice none 0 0] 41)).setRow w5.heap.size ((#[.int .i64 0, .int .i64 0, .string ⟨#[]⟩, .slice none 0 0, .slice none 0 0, .slice none 0 0, .slice none 0 0] : Array Value).toList.take 0 ++ (#[.int .i64 0, .int .i64 1, .string ⟨#[]⟩, .slice x5a x5n x5c, .slice sa sn sc, .slice ma mn mc, .slice ca cn cc] : Array Value).toList ++ (#[.int .i64 0, .int .i64 0, .string ⟨#[]⟩, .slice none 0 0, .slice none 0 0, .slice none 0 0, .slice none 0 0] : Array Value).toList.drop (0 + (#[.int .i64 0, .int .i64 1, .string ⟨#[]⟩, .slice x5a x5n x5c, .slice sa sn sc, .slice ma mn mc, .slice ca cn cc] : Array Value).toList.length)).toArray)
      rw [hw7.out] at hp
      obtain ⟨r9, kr⟩ := hp
      refine wp_store_in9 (.tmp 3) (.tmp 24) rfl w5.heap.size 0 #[.int .i64 0, .int .i64 0, .string ⟨#[]⟩, .slice none 0 0, .slice none 0 0, .slice none 0 0, .slice none 0 0] #[.int .i64 0, .int .i64 1, .string ⟨#[]⟩, .slice x5a x5n x5c, .slice sa sn sc, .slice ma mn mc, .slice ca cn cc] (by rfl) (by rfl) HXr.out meta_size (Nat.le_refl 7) (fun u hu => by simp at hu; rcases hu with rfl | rfl | rfl | rfl | rfl | rfl | rfl <;> rfl) ?_
      rw [hw7.out]
      have HMr := Lib.hid (HMr.out.kept kr (fun e => by have h1 := Option.some.inj e; have h2 := HZ3.out; omega))
      have HFr := Lib.hid (HFr.out.kept' kr (fun k hk e => by have h1 := Option.some.inj e; have h2 := (HF3.out.1.lt k hk).2; have h3 := hbs; omega))
      have HRr := Lib.hid (HRr.out.off HXr.out.off6 kr)
      have HBr := Lib.hid (HBr.out.grown kr HBr.out.size (fun k hk => by have h1 := Option.some.inj hk; have h2 := HZ3.out; have h3 := hbs; omega))
      have HXr := Lib.hid r9
      clear r9 kr
      (try dsimp only)
      refine hK.out _ _ (by exact cells7 HMr.out) (fun hHeld => ?_)
      clear hK K
      (try simp only [List.getElem_toArray, List.getElem_cons_zero, List.getElem_cons_succ, Act.put, List.setIfInBounds_toArray, List.set_cons_zero, List.set_cons_succ])
      refine wpAnyH_take (i := 8) (oi := _) (v := ?vqb5) rfl (by kernel_rfl) (by kernel_rfl) (by kernel_rfl) (fun _ _ _ h => h) (Or.inl ⟨by rfl, ?hyqb5⟩) (by assumption) ?restqb5
      case hyqb5 => (intro wz hSw; (try dsimp only at hSw); go_simp; try with_reducible rfl)
      (try simp only [List.getElem_toArray, List.getElem_cons_zero, List.getElem_cons_succ, Act.put, List.setIfInBounds_toArray, List.set_cons_zero, List.set_cons_succ])
      refine wpAnyH_done (by kernel_rfl) ?_ _
      have hO3 := HFr.out
      rw [faultsA] at hO3
      obtain rfl : fn = 3 := hO3.2.1.symm
      have hrd := (OwnG.reads fl_rowed hO3).1
      obtain ⟨fb, fo, rfl⟩ := hrd.lies (by omega)
      have l0 := Reads.cellAt fl_rowed hrd 0 0 (1, 0, -1) (.int .i64 1) rfl rfl
      have l1 := Reads.cellAt fl_rowed hrd 0 1 (1, 0, -1) (.int .i64 0) rfl rfl
      have l2 := Reads.cellAt fl_rowed hrd 0 2 (1, 0, -1) (.int .i64 (-1)) rfl rfl
      rw [Nat.zero_mul, Nat.add_zero] at l0 l1 l2
      try rw [Nat.add_zero] at l0
      obtain ⟨x0, x1, x2, x3, x4, x5, x6⟩ := cells7 HXr.out
      have hTb := HRr.out.T.n.tab
      have htm : (mendM (noughts 64) 4 0 1 ⟨#[]⟩ tA []).T = [[enZ1, enZ, enZ, enZ, enZ, enZ, enZ, enZ]] := by
        show zerosT tA (badT (noughts 64) 0 tA) = _
        rw [badA, zerosA]
      rw [htm] at hTb
      have hat := Lib.hid (at15 hTb 0 (by unfold I64; omega) (v1 := 1) (v2 := 0) (v3 := 0) (v4 := 0) (v5 := 0) rfl)
      have hkd := fun wz => kind15 1 0 0 0 0 wz
      clear hTb htm
      have hef := eql_flA
      have hgf := guard_fl
      clear hO3 hrd
      go_wp2_with (first
        | (go_at_call 13; (with_reducible refine (num15 _ _).mono ?_); rintro e w8 ⟨rfl, hw⟩; obtain rfl := hw.symm)
        | (go_at_call 26; (with_reducible refine hat.out.mono ?_); rintro e w9 ⟨rfl, hb9⟩; have HB9 := Lib.hid (HBr.out.trans (hb9.mono HBr.out.size)); clear hb9))
      go_ret
      exact ⟨rfl, HB0.out.trans (HB9.out.mono HB0.out.size)⟩
    · rw [if_pos (by rfl)]
      go_simp
      have hx := Blk.new (w3.drew.alloc (.cells (madeCells #[.int .u8 0] 64) 5)) 41 #[.int .i64 0, .int .i64 0, .string ⟨#[]⟩, .slice none 0 0, .slice none 0 0, .slice none 0 0, .slice none 0 0]
      rw [World.size_alloc] at hx
      have HXr : Hid (Blk ((w3.drew.alloc (.cells (madeCells #[.int .u8 0] 64) 5)).alloc (.cells #[.int .i64 0, .int .i64 0, .string ⟨#[]⟩, .slice none 0 0, .slice none 0 0, .slice none 0 0, .slice none 0 0] 41)) (w3.heap.size + 1) 41 #[.int .i64 0, .int .i64 0, .string ⟨#[]⟩, .slice none 0 0, .slice none 0 0, .slice none 0 0, .slice none 0 0]) := hx
      clear hx
      have HMr := Lib.hid (HMr.out.alloc (.cells #[.int .i64 0, .int .i64 0, .string ⟨#[]⟩, .slice none 0 0, .slice none 0 0, .slice none 0 0, .slice none 0 0] 41))
      have HBr := Lib.hid (HBr.out.alloc HBr.out.size (.cells #[.int .i64 0, .int .i64 0, .string ⟨#[]⟩, .slice none 0 0, .slice none 0 0, .slice none 0 0, .slice none 0 0] 41))
      have HFr := Lib.hid (HFr.out.alloc (.cells #[.int .i64 0, .int .i64 0, .string ⟨#[]⟩, .slice none 0 0, .slice none 0 0, .slice none 0 0, .slice none 0 0] 41))
      have HNr := Lib.hid (HNr.out.later ((Below.refl _ _).alloc (Nat.le_refl _) (.cells #[.int .i64 0, .int .i64 0, .string ⟨#[]⟩, .slice none 0 0, .slice none 0 0, .slice none 0 0, .slice none 0 0] 41)))
      refine hK.out _ _ (by exact cells7 HMr.out) (fun hHeld => ?_)
      clear hK K
      (try simp only [List.getElem_toArray, List.getElem_cons_zero, List.getElem_cons_succ, Act.put, List.setIfInBounds_toArray, List.set_cons_zero, List.set_cons_succ])
      refine wpAnyH_ready (rs := [2]) (by kernel_rfl) (by simp) ?_
      refine (AllReadyH.cons (o := _) rfl (fun K hK => ?_) AllReadyH.nil)
      rw [if_pos (by rfl)]
      go_simp
      (go_at_call 16; (refine (HME.out _ HBr.out _ HNr.out).mono ?_); rintro e w5 ⟨⟨x5a, x5n, x5c, sa, sn, sc, ma, mn, mc, ca, cn, cc⟩, rfl, hN, hb5⟩; have HRr := Lib.hid hN; have HFr := Lib.hid (HFr.out.kept' (grown_below hb5 none) (fun k _ e => by cases e)); have HMr := Lib.hid (HMr.out.later hb5); have HXr := Lib.hid (HXr.out.later hb5); have h35 : w3.heap.size ≤ w5.heap.size := (by have h := hb5.size; have hz : w3.drew.heap.size = w3.heap.size := rfl; simp only [World.size_alloc] at h; omega); have HBr := Lib.hid (HBr.out.trans (hb5.mono HBr.out.size)); clear hN hb5)
      (try dsimp only [mtA])
      refine hK.out _ _ (by exact cells7 HMr.out) (fun hHeld => ?_)
      clear hK K
      (try simp only [List.getElem_toArray, List.getElem_cons_zero, List.getElem_cons_succ, Act.put, List.setIfInBounds_toArray, List.set_cons_zero, List.set_cons_succ])
      refine wpAnyH_take (i := 3) (oi := _) (v := ?vqb6) rfl (by kernel_rfl) (by kernel_rfl) (by kernel_rfl) (fun _ _ _ h => h) (Or.inl ⟨by rfl, ?hyqb6⟩) (by assumption) ?restqb6
      case hyqb6 => (intro wz hSw; (try dsimp only at hSw); go_simp; try with_reducible rfl)
      (try simp only [List.getElem_toArray, List.getElem_cons_zero, List.getElem_cons_succ, Act.put, List.setIfInBounds_toArray, List.set_cons_zero, List.set_cons_succ])
      refine wpAnyH_take (i := 4) (oi := _) (v := ?vqb7) rfl (by kernel_rfl) (by kernel_rfl) (by kernel_rfl) (fun _ _ _ h => h) (Or.inl ⟨by rfl, ?hyqb7⟩) (by assumption) ?restqb7
      case hyqb7 => (intro wz hSw; (try dsimp only at hSw); go_simp; try with_reducible rfl)
      (try simp only [List.getElem_toArray, List.getElem_cons_zero, List.getElem_cons_succ, Act.put, List.setIfInBounds_toArray, List.set_cons_zero, List.set_cons_succ])
      refine wpAnyH_take (i := 5) (oi := _) (v := ?vqb8) rfl (by kernel_rfl) (by kernel_rfl) (by kernel_rfl) (fun _ _ _ h => h) (Or.inl ⟨by rfl, ?hyqb8⟩) (by assumption) ?restqb8
      case hyqb8 => (intro wz hSw; (try dsimp only at hSw); go_simp; try with_reducible rfl)
      (try simp only [List.getElem_toArray, List.getElem_cons_zero, List.getElem_cons_succ, Act.put, List.setIfInBounds_toArray, List.set_cons_zero, List.set_cons_succ])
      refine wpAnyH_ready (rs := [7]) (by kernel_rfl) (by simp) ?_
      refine (AllReadyH.cons (o := _) rfl (fun K hK => ?_) AllReadyH.nil)
      rw [if_pos (by rfl)]
      have hp := blk_put HXr.out #[.int .i64 0, .int .i64 1, .string ⟨#[]⟩, .slice x5a x5n x5c, .slice sa sn sc, .slice ma mn mc, .slice ca cn cc] rfl
      obtain ⟨w7, hw7⟩ := named (w5.setRow (w3.heap.size + 1) ((#[.int .i64 0, .int .i64 0, .string ⟨#[]⟩, .slice none 0 0, .slice none 0 0, .slice none 0 0, .slice none 0 0] : Array Value).toList.take 0 ++ (#[.int .i64 0, .int .i64 1, .string ⟨#[]⟩, .slice x5a x5n x5c, .slice sa sn sc, .slice ma mn mc, .slice ca cn cc] : Array Value).toList ++ (#[.int .i64 0, .int .i64 0, .string ⟨#[]⟩, .slice none 0 0, .slice none 0 0, .slice none 0 0, .slice none 0 0] : Array Value).toList.drop (0 + (#[.int .i64 0, .int .i64 1, .string ⟨#[]⟩, .slice x5a x5n x5c, .slice sa sn sc, .slice ma mn mc, .slice ca cn cc] : Array Value).toList.length)).toArray)
      rw [hw7.out] at hp
      obtain ⟨r9, kr⟩ := hp
      refine wp_store_in9 (.tmp 3) (.tmp 24) rfl (w3.heap.size + 1) 0 #[.int .i64 0, .int .i64 0, .string ⟨#[]⟩, .slice none 0 0, .slice none 0 0, .slice none 0 0, .slice none 0 0] #[.int .i64 0, .int .i64 1, .string ⟨#[]⟩, .slice x5a x5n x5c, .slice sa sn sc, .slice ma mn mc, .slice ca cn cc] (by rfl) (by rfl) HXr.out meta_size (Nat.le_refl 7) (fun u hu => by simp at hu; rcases hu with rfl | rfl | rfl | rfl | rfl | rfl | rfl <;> rfl) ?_
      rw [hw7.out]
      have HMr := Lib.hid (HMr.out.kept kr (fun e => by have h1 := Option.some.inj e; have h2 := HZ3.out; omega))
      have HFr := Lib.hid (HFr.out.kept' kr (fun k hk e => by have h1 := Option.some.inj e; have h2 := (HF3.out.1.lt k hk).2; have h3 := hbs; omega))
      have HRr := Lib.hid (HRr.out.off HXr.out.off6 kr)
      have HBr := Lib.hid (HBr.out.grown kr HBr.out.size (fun k hk => by have h1 := Option.some.inj hk; have h2 := HZ3.out; have h3 := hbs; omega))
      have HXr := Lib.hid r9
      clear r9 kr
      (try dsimp only)
      refine hK.out _ _ (by exact cells7 HMr.out) (fun hHeld => ?_)
      clear hK K
      (try simp only [List.getElem_toArray, List.getElem_cons_zero, List.getElem_cons_succ, Act.put, List.setIfInBounds_toArray, List.set_cons_zero, List.set_cons_succ])
      refine wpAnyH_take (i := 8) (oi := _) (v := ?vqb9) rfl (by kernel_rfl) (by kernel_rfl) (by kernel_rfl) (fun _ _ _ h => h) (Or.inl ⟨by rfl, ?hyqb9⟩) (by assumption) ?restqb9
      case hyqb9 => (intro wz hSw; (try dsimp only at hSw); go_simp; try with_reducible rfl)
      (try simp only [List.getElem_toArray, List.getElem_cons_zero, List.getElem_cons_succ, Act.put, List.setIfInBounds_toArray, List.set_cons_zero, List.set_cons_succ])
      refine wpAnyH_done (by kernel_rfl) ?_ _
      have hO3 := HFr.out
      rw [faultsA] at hO3
      obtain rfl : fn = 3 := hO3.2.1.symm
      have hrd := (OwnG.reads fl_rowed hO3).1
      obtain ⟨fb, fo, rfl⟩ := hrd.lies (by omega)
      have l0 := Reads.cellAt fl_rowed hrd 0 0 (1, 0, -1) (.int .i64 1) rfl rfl
      have l1 := Reads.cellAt fl_rowed hrd 0 1 (1, 0, -1) (.int .i64 0) rfl rfl
      have l2 := Reads.cellAt fl_rowed hrd 0 2 (1, 0, -1) (.int .i64 (-1)) rfl rfl
      rw [Nat.zero_mul, Nat.add_zero] at l0 l1 l2
      try rw [Nat.add_zero] at l0
      obtain ⟨x0, x1, x2, x3, x4, x5, x6⟩ := cells7 HXr.out
      have hTb := HRr.out.T.n.tab
      have htm : (mendM (noughts 64) 4 0 1 ⟨#[]⟩ tA []).T = [[enZ1, enZ, enZ, enZ, enZ, enZ, enZ, enZ]] := by
        show zerosT tA (badT (noughts 64) 0 tA) = _
        rw [badA, zerosA]
      rw [htm] at hTb
      have hat := Lib.hid (at15 hTb 0 (by unfold I64; omega) (v1 := 1) (v2 := 0) (v3 := 0) (v4 := 0) (v5 := 0) rfl)
      have hkd := fun wz => kind15 1 0 0 0 0 wz
      clear hTb htm
      have hef := eql_flA
      have hgf := guard_fl
      clear hO3 hrd
      go_wp2_with (first
        | (go_at_call 13; (with_reducible refine (num15 _ _).mono ?_); rintro e w8 ⟨rfl, hw⟩; obtain rfl := hw.symm)
        | (go_at_call 26; (with_reducible refine hat.out.mono ?_); rintro e w9 ⟨rfl, hb9⟩; have HB9 := Lib.hid (HBr.out.trans (hb9.mono HBr.out.size)); clear hb9))
      go_ret
      exact ⟨rfl, HB0.out.trans (HB9.out.mono HB0.out.size)⟩
  · rw [if_pos (by rfl)]
    go_simp
    have hx := Blk.new w3.drew 41 #[.int .i64 0, .int .i64 0, .string ⟨#[]⟩, .slice none 0 0, .slice none 0 0, .slice none 0 0, .slice none 0 0]
    have HXr : Hid (Blk (w3.drew.alloc (.cells #[.int .i64 0, .int .i64 0, .string ⟨#[]⟩, .slice none 0 0, .slice none 0 0, .slice none 0 0, .slice none 0 0] 41)) w3.heap.size 41 #[.int .i64 0, .int .i64 0, .string ⟨#[]⟩, .slice none 0 0, .slice none 0 0, .slice none 0 0, .slice none 0 0]) := hx
    clear hx
    have HMr := Lib.hid (HMr.out.alloc (.cells #[.int .i64 0, .int .i64 0, .string ⟨#[]⟩, .slice none 0 0, .slice none 0 0, .slice none 0 0, .slice none 0 0] 41))
    have HBr := Lib.hid (HBr.out.alloc HBr.out.size (.cells #[.int .i64 0, .int .i64 0, .string ⟨#[]⟩, .slice none 0 0, .slice none 0 0, .slice none 0 0, .slice none 0 0] 41))
    have HFr := Lib.hid (HFr.out.alloc (.cells #[.int .i64 0, .int .i64 0, .string ⟨#[]⟩, .slice none 0 0, .slice none 0 0, .slice none 0 0, .slice none 0 0] 41))
    refine hK.out _ _ (by exact cells7 HMr.out) (fun hHeld => ?_)
    clear hK K
    (try simp only [List.getElem_toArray, List.getElem_cons_zero, List.getElem_cons_succ, Act.put, List.setIfInBounds_toArray, List.set_cons_zero, List.set_cons_succ])
    refine wpAnyH_ready (rs := [1]) (by kernel_rfl) (by simp) ?_
    refine (AllReadyH.cons (o := _) rfl (fun K hK => ?_) AllReadyH.nil)
    rw [if_pos (by rfl)]
    go_simp
    have hn := (make_noughts (w3.drew.alloc (.cells #[.int .i64 0, .int .i64 0, .string ⟨#[]⟩, .slice none 0 0, .slice none 0 0, .slice none 0 0, .slice none 0 0] 41)) 64 (by omega)).2
    rw [World.size_alloc] at hn
    have HNr : Hid (Bytes ((w3.drew.alloc (.cells #[.int .i64 0, .int .i64 0, .string ⟨#[]⟩, .slice none 0 0, .slice none 0 0, .slice none 0 0, .slice none 0 0] 41)).alloc (.cells (madeCells #[.int .u8 0] 64) 5)) (some ⟨(w3.heap.size + 1), 0, none⟩) 64 (noughts 64)) := hn
    clear hn
    have HMr := Lib.hid (HMr.out.alloc (.cells (madeCells #[.int .u8 0] 64) 5))
    have HBr := Lib.hid (HBr.out.alloc HBr.out.size (.cells (madeCells #[.int .u8 0] 64) 5))
    have HFr := Lib.hid (HFr.out.alloc (.cells (madeCells #[.int .u8 0] 64) 5))
    have HXr := Lib.hid (HXr.out.alloc (.cells (madeCells #[.int .u8 0] 64) 5))
    refine hK.out _ _ (by exact cells7 HMr.out) (fun hHeld => ?_)
    clear hK K
    (try simp only [List.getElem_toArray, List.getElem_cons_zero, List.getElem_cons_succ, Act.put, List.setIfInBounds_toArray, List.set_cons_zero, List.set_cons_succ])
    refine wpAnyH_ready (rs := [2]) (by kernel_rfl) (by simp) ?_
    refine (AllReadyH.cons (o := _) rfl (fun K hK => ?_) AllReadyH.nil)
    rw [if_pos (by rfl)]
    go_simp
    (go_at_call 16; (refine (HME.out _ HBr.out _ HNr.out).mono ?_); rintro e w5 ⟨⟨x5a, x5n, x5c, sa, sn, sc, ma, mn, mc, ca, cn, cc⟩, rfl, hN, hb5⟩; have HRr := Lib.hid hN; have HFr := Lib.hid (HFr.out.kept' (grown_below hb5 none) (fun k _ e => by cases e)); have HMr := Lib.hid (HMr.out.later hb5); have HXr := Lib.hid (HXr.out.later hb5); have h35 : w3.heap.size ≤ w5.heap.size := (by have h := hb5.size; have hz : w3.drew.heap.size = w3.heap.size := rfl; simp only [World.size_alloc] at h; omega); have HBr := Lib.hid (HBr.out.trans (hb5.mono HBr.out.size)); clear hN hb5)
    (try dsimp only [mtA])
    refine hK.out _ _ (by exact cells7 HMr.out) (fun hHeld => ?_)
    clear hK K
    (try simp only [List.getElem_toArray, List.getElem_cons_zero, List.getElem_cons_succ, Act.put, List.setIfInBounds_toArray, List.set_cons_zero, List.set_cons_succ])
    refine wpAnyH_take (i := 3) (oi := _) (v := ?vqb10) rfl (by kernel_rfl) (by kernel_rfl) (by kernel_rfl) (fun _ _ _ h => h) (Or.inl ⟨by rfl, ?hyqb10⟩) (by assumption) ?restqb10
    case hyqb10 => (intro wz hSw; (try dsimp only at hSw); go_simp; try with_reducible rfl)
    (try simp only [List.getElem_toArray, List.getElem_cons_zero, List.getElem_cons_succ, Act.put, List.setIfInBounds_toArray, List.set_cons_zero, List.set_cons_succ])
    refine wpAnyH_take (i := 4) (oi := _) (v := ?vqb11) rfl (by kernel_rfl) (by kernel_rfl) (by kernel_rfl) (fun _ _ _ h => h) (Or.inl ⟨by rfl, ?hyqb11⟩) (by assumption) ?restqb11
    case hyqb11 => (intro wz hSw; (try dsimp only at hSw); go_simp; try with_reducible rfl)
    (try simp only [List.getElem_toArray, List.getElem_cons_zero, List.getElem_cons_succ, Act.put, List.setIfInBounds_toArray, List.set_cons_zero, List.set_cons_succ])
    refine wpAnyH_take (i := 5) (oi := _) (v := ?vqb12) rfl (by kernel_rfl) (by kernel_rfl) (by kernel_rfl) (fun _ _ _ h => h) (Or.inl ⟨by rfl, ?hyqb12⟩) (by assumption) ?restqb12
    case hyqb12 => (intro wz hSw; (try dsimp only at hSw); go_simp; try with_reducible rfl)
    (try simp only [List.getElem_toArray, List.getElem_cons_zero, List.getElem_cons_succ, Act.put, List.setIfInBounds_toArray, List.set_cons_zero, List.set_cons_succ])
    refine wpAnyH_ready (rs := [7]) (by kernel_rfl) (by simp) ?_
    refine (AllReadyH.cons (o := _) rfl (fun K hK => ?_) AllReadyH.nil)
    rw [if_pos (by rfl)]
    have hp := blk_put HXr.out #[.int .i64 0, .int .i64 1, .string ⟨#[]⟩, .slice x5a x5n x5c, .slice sa sn sc, .slice ma mn mc, .slice ca cn cc] rfl
    obtain ⟨w7, hw7⟩ := named (w5.setRow w3.heap.size ((#[.int .i64 0, .int .i64 0, .string ⟨#[]⟩, .slice none 0 0, .slice none 0 0, .slice none 0 0, .slice none 0 0] : Array Value).toList.take 0 ++ (#[.int .i64 0, .int .i64 1, .string ⟨#[]⟩, .slice x5a x5n x5c, .slice sa sn sc, .slice ma mn mc, .slice ca cn cc] : Array Value).toList ++ (#[.int .i64 0, .int .i64 0, .string ⟨#[]⟩, .slice none 0 0, .slice none 0 0, .slice none 0 0, .slice none 0 0] : Array Value).toList.drop (0 + (#[.int .i64 0, .int .i64 1, .string ⟨#[]⟩, .slice x5a x5n x5c, .slice sa sn sc, .slice ma mn mc, .slice ca cn cc] : Array Value).toList.length)).toArray)
    rw [hw7.out] at hp
    obtain ⟨r9, kr⟩ := hp
    refine wp_store_in9 (.tmp 3) (.tmp 24) rfl w3.heap.size 0 #[.int .i64 0, .int .i64 0, .string ⟨#[]⟩, .slice none 0 0, .slice none 0 0, .slice none 0 0, .slice none 0 0] #[.int .i64 0, .int .i64 1, .string ⟨#[]⟩, .slice x5a x5n x5c, .slice sa sn sc, .slice ma mn mc, .slice ca cn cc] (by rfl) (by rfl) HXr.out meta_size (Nat.le_refl 7) (fun u hu => by simp at hu; rcases hu with rfl | rfl | rfl | rfl | rfl | rfl | rfl <;> rfl) ?_
    rw [hw7.out]
    have HMr := Lib.hid (HMr.out.kept kr (fun e => by have h1 := Option.some.inj e; have h2 := HZ3.out; omega))
    have HFr := Lib.hid (HFr.out.kept' kr (fun k hk e => by have h1 := Option.some.inj e; have h2 := (HF3.out.1.lt k hk).2; have h3 := hbs; omega))
    have HRr := Lib.hid (HRr.out.off HXr.out.off6 kr)
    have HBr := Lib.hid (HBr.out.grown kr HBr.out.size (fun k hk => by have h1 := Option.some.inj hk; have h2 := HZ3.out; have h3 := hbs; omega))
    have HXr := Lib.hid r9
    clear r9 kr
    (try dsimp only)
    refine hK.out _ _ (by exact cells7 HMr.out) (fun hHeld => ?_)
    clear hK K
    (try simp only [List.getElem_toArray, List.getElem_cons_zero, List.getElem_cons_succ, Act.put, List.setIfInBounds_toArray, List.set_cons_zero, List.set_cons_succ])
    refine wpAnyH_take (i := 8) (oi := _) (v := ?vqb13) rfl (by kernel_rfl) (by kernel_rfl) (by kernel_rfl) (fun _ _ _ h => h) (Or.inl ⟨by rfl, ?hyqb13⟩) (by assumption) ?restqb13
    case hyqb13 => (intro wz hSw; (try dsimp only at hSw); go_simp; try with_reducible rfl)
    (try simp only [List.getElem_toArray, List.getElem_cons_zero, List.getElem_cons_succ, Act.put, List.setIfInBounds_toArray, List.set_cons_zero, List.set_cons_succ])
    refine wpAnyH_done (by kernel_rfl) ?_ _
    have hO3 := HFr.out
    rw [faultsA] at hO3
    obtain rfl : fn = 3 := hO3.2.1.symm
    have hrd := (OwnG.reads fl_rowed hO3).1
    obtain ⟨fb, fo, rfl⟩ := hrd.lies (by omega)
    have l0 := Reads.cellAt fl_rowed hrd 0 0 (1, 0, -1) (.int .i64 1) rfl rfl
    have l1 := Reads.cellAt fl_rowed hrd 0 1 (1, 0, -1) (.int .i64 0) rfl rfl
    have l2 := Reads.cellAt fl_rowed hrd 0 2 (1, 0, -1) (.int .i64 (-1)) rfl rfl
    rw [Nat.zero_mul, Nat.add_zero] at l0 l1 l2
    try rw [Nat.add_zero] at l0
    obtain ⟨x0, x1, x2, x3, x4, x5, x6⟩ := cells7 HXr.out
    have hTb := HRr.out.T.n.tab
    have htm : (mendM (noughts 64) 4 0 1 ⟨#[]⟩ tA []).T = [[enZ1, enZ, enZ, enZ, enZ, enZ, enZ, enZ]] := by
      show zerosT tA (badT (noughts 64) 0 tA) = _
      rw [badA, zerosA]
    rw [htm] at hTb
    have hat := Lib.hid (at15 hTb 0 (by unfold I64; omega) (v1 := 1) (v2 := 0) (v3 := 0) (v4 := 0) (v5 := 0) rfl)
    have hkd := fun wz => kind15 1 0 0 0 0 wz
    clear hTb htm
    have hef := eql_flA
    have hgf := guard_fl
    clear hO3 hrd
    go_wp2_with (first
      | (go_at_call 13; (with_reducible refine (num15 _ _).mono ?_); rintro e w8 ⟨rfl, hw⟩; obtain rfl := hw.symm)
      | (go_at_call 26; (with_reducible refine hat.out.mono ?_); rintro e w9 ⟨rfl, hb9⟩; have HB9 := Lib.hid (HBr.out.trans (hb9.mono HBr.out.size)); clear hb9))
    go_ret
    exact ⟨rfl, HB0.out.trans (HB9.out.mono HB0.out.size)⟩
end Go.Proofs.YtlljcdmblmkblaaGreat
