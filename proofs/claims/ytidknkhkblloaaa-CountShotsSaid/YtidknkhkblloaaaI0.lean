/-
  The iterator over the tables of a meta (package count). Conditions: the meta's tables and shots read.
-/
import Derived.Test.YtidknkhkblloaaaL0
namespace Go.Proofs.Ytidknkhkblloaaa
open Go.RowKit Go.Shelf
attribute [local go_sem] Oper.semAt_some
set_option linter.unusedVariables false

/-- A shot: name, size, table. -/
abbrev Sh := ByteArray × Int × Option Addr × Nat × Nat × Tb
def shV (d : Sh) : List Value := [.string d.1, .int .i64 d.2.1, .slice d.2.2.1 d.2.2.2.1 d.2.2.2.2.1]
def shT (d : Sh) : Tb := d.2.2.2.2.2
theorem sh_rowed : Rowed Try.prog 25 53 3 48 shV where
  under := Try.underlying25
  info := by
    have h : (Try.prog.info? 53).map (fun i => (i.zero.map (fun z => z.cells.size), i.size, i.bytes)) = some (some 3, 3, 48) := by kernel_rfl
    obtain ⟨i, hi, he⟩ := Option.map_eq_some_iff.1 h
    simp only [Prod.mk.injEq] at he
    obtain ⟨z, hz, hzs⟩ := Option.map_eq_some_iff.1 he.1
    exact ⟨i, z, hi, hz, he.2.1, he.2.2, hzs⟩
  pos := by decide
  small := by decide
  len := fun _ => rfl
  one := fun d u hu => by
    simp only [shV, List.mem_cons, List.not_mem_nil, or_false] at hu
    rcases hu with rfl | rfl | rfl <;> rfl
/-- Shots that read. -/
def ShsR (w : World) (a : Option Addr) (len : Nat) (S : List Sh) : Prop := Reads shV w a len S ∧ ∀ d ∈ S, Tab w d.2.2.1 d.2.2.2.1 d.2.2.2.2.1 (shT d)
theorem ShsR.later {w w' : World} {a : Option Addr} {len : Nat} {S : List Sh} (h : ShsR w a len S) (hb : Below w.heap.size w w') : ShsR w' a len S := ⟨h.1.later hb, fun d hd => (h.2 d hd).later hb⟩
theorem ShsR.len {w : World} {a : Option Addr} {len : Nat} {S : List Sh} (h : ShsR w a len S) : S.length = len := h.1.1
theorem ShsR.at {w : World} {a : Option Addr} {len : Nat} {S : List Sh} (h : ShsR w a len S) (i : Nat) (hi : i < len) : ∃ b off nm sz al ll cl T, a = some ⟨b, off, none⟩ ∧ S[i]? = some (nm, sz, al, ll, cl, T) ∧
    w.cell? ⟨b, off + i * 3, none⟩ = some (.string nm) ∧ w.cell? ⟨b, off + i * 3 + 1, none⟩ = some (.int .i64 sz) ∧ w.cell? ⟨b, off + i * 3 + 2, none⟩ = some (.slice al ll cl) ∧ Tab w al ll cl T := by
  obtain ⟨b, off, rfl⟩ := h.1.lies (by omega)
  have hl := h.len
  obtain ⟨⟨nm, sz, al, ll, cl, T⟩, hx⟩ : ∃ x, S[i]? = some x := ⟨_, List.getElem?_eq_getElem (by omega)⟩
  refine ⟨b, off, nm, sz, al, ll, cl, T, rfl, hx, ?_, ?_, ?_, h.2 _ (List.mem_of_getElem? hx)⟩
  · have := h.1.cellAt sh_rowed i 0 _ _ hx rfl
    exact this
  · have := h.1.cellAt sh_rowed i 1 _ _ hx rfl
    rwa [← Nat.add_assoc] at this
  · have := h.1.cellAt sh_rowed i 2 _ _ hx rfl
    rwa [← Nat.add_assoc] at this

/-- A meta's cells. -/
def mtC (c s : Int) (bk : ByteArray) (a0 : Option Addr) (n0 c0 : Nat) (sa : Option Addr) (sn sc : Nat) (v5 v6 : Value) : Array Value :=
  #[.int .i64 c, .int .i64 s, .string bk, .slice a0 n0 c0, .slice sa sn sc, v5, v6]
/-- A table that comes with its shot. -/
abbrev Tx := Int × Option Addr × Nat × Nat × Tb
def shX (S : List Sh) (n : Nat) : List Tx := (List.range n).map fun (i : Nat) => ((i : Int), ((S.getD i default).2.2.1, (S.getD i default).2.2.2.1, (S.getD i default).2.2.2.2.1, shT (S.getD i default)))
def tabsX (a0 : Option Addr) (n0 c0 : Nat) (T : Tb) (S : List Sh) : List Tx := (-1, a0, n0, c0, T) :: shX S S.length
theorem shX_succ {S : List Sh} {i : Nat} {nm : ByteArray} {sz : Int} {al : Option Addr} {ll cl : Nat} {T : Tb} (h : S[i]? = some (nm, sz, al, ll, cl, T)) : shX S (i + 1) = shX S i ++ [((i : Int), al, ll, cl, T)] := by
  unfold shX
  rw [List.range_succ, List.map_append]
  simp [List.getD_eq_getElem?_getD, h, shT]
/-- What such a table is: it reads in w0, its lines are within bounds. -/
def TxOk (w0 : World) (x : Tx) : Prop := Tab w0 x.2.1 x.2.2.1 x.2.2.2.1 x.2.2.2.2 ∧ (∀ y ∈ tabLines x.1 x.2.2.2.2, LnOk y) ∧ x.2.2.1 ≤ 512 ∧ -1 ≤ x.1 ∧ x.1 < 1000
abbrev VTx (w0 : World) := { x : Tx // TxOk w0 x }
def vtxArg {w0 : World} (x : VTx w0) : Array Value := #[.int .i64 x.1.1, .agg #[.slice x.1.2.1 x.1.2.2.1 x.1.2.2.2.1]]
theorem vtx_of {w0 : World} : ∀ {l : List Tx}, (∀ x ∈ l, TxOk w0 x) → ∃ v : List (VTx w0), v.map (·.1) = l
  | [], _ => ⟨[], rfl⟩
  | x :: l, h => by
    obtain ⟨v, hv⟩ := vtx_of fun y hy => h y (List.mem_cons_of_mem _ hy)
    exact ⟨⟨x, h x (List.mem_cons_self ..)⟩ :: v, by simp [hv]⟩

theorem tables_any (c s : Int) (bk : ByteArray) (a0 : Option Addr) (n0 c0 : Nat) (sa : Option Addr) (sn sc : Nat) (a5 : Option Addr) (n5 c5 : Nat) (a6 : Option Addr) (n6 c6 : Nat) (w : World) :
    Calls Try.prog 40 #[.agg #[.int .i64 c, .int .i64 s, .string bk, .slice a0 n0 c0, .slice sa sn sc, .slice a5 n5 c5, .slice a6 n6 c6]] w fun e w' =>
      e = .returned (.func (.func 45) #[] #[.pointer (some ⟨w.heap.size, 0, none⟩)]) ∧ w' = w.alloc (.cells (mtC c s bk a0 n0 c0 sa sn sc (.slice a5 n5 c5) (.slice a6 n6 c6)) 29) := by
  go_enter Try.func40, Try.ntmps40
  go_wp2
  go_ret
  exact ⟨rfl, rfl⟩
theorem lines_any (c s : Int) (bk : ByteArray) (a0 : Option Addr) (n0 c0 : Nat) (sa : Option Addr) (sn sc : Nat) (a5 : Option Addr) (n5 c5 : Nat) (a6 : Option Addr) (n6 c6 : Nat) (w : World) :
    Calls Try.prog 31 #[.agg #[.int .i64 c, .int .i64 s, .string bk, .slice a0 n0 c0, .slice sa sn sc, .slice a5 n5 c5, .slice a6 n6 c6]] w fun e w' =>
      e = .returned (.func (.func 39) #[] #[.pointer (some ⟨w.heap.size, 0, none⟩)]) ∧ w' = w.alloc (.cells (mtC c s bk a0 n0 c0 sa sn sc (.slice a5 n5 c5) (.slice a6 n6 c6)) 29) := by
  go_enter Try.func31, Try.ntmps31
  go_wp2
  go_ret
  exact ⟨rfl, rfl⟩
/-- What a round keeps. -/
def Kp2 (n₀ M : Nat) (W W' : World) : Prop := Below n₀ W W' ∧ W'.heap[M]? = W.heap[M]?
theorem Kp2.trans {n₀ M : Nat} {A B C : World} (h : Kp2 n₀ M A B) (k : Kp2 n₀ M B C) : Kp2 n₀ M A C := ⟨h.1.trans k.1, k.2.trans h.2⟩
theorem room_none {F : Fence} (hd : F.depth = none) (k : Nat) : F.room k := fun d h => by rw [hd] at h; cases h
theorem RoundIn.any0 {F : Fence} (hd : F.depth = none) {m m' : Nat} {P : Program} {l : Nat} {f : FuncId} {tmps : Array Value} {assign body : Code} {w : World} {R : Ending → World → Prop}
    (h : RoundIn F m P l f tmps assign body w R) : RoundIn F m' P l f tmps assign body w R := ⟨h.1, fun c cs _ => h.2 c cs (room_none hd _)⟩

set_option maxRecDepth 100000 in
set_option maxHeartbeats 2000000 in
theorem tables1_in (F : Fence) (hFw : Hid (F = Fence.wide)) (n : Nat) (h1 : 1 ≤ n) (l M : Nat) (w0 : World) (c s : Int) (bk : ByteArray) (a0 : Option Addr) (n0 c0 : Nat) (sa : Option Addr) (sn sc : Nat) (v5 v6 : Value) (T : Tb) (S : List Sh)
    (hS : ShsR w0 sa sn S) (v : List (VTx w0)) (hv : v.map (·.1) = tabsX a0 n0 c0 T S) (J Jx : List (VTx w0) → World → Prop)
    (hY : ∀ pre x W, J pre W → pre.length < v.length → YieldAt F (n - 1) Try.prog l (vtxArg x) W fun e W' =>
      (e = .returned (.bool true) ∧ J (pre ++ [x]) W' ∧ Kp2 w0.heap.size M W W') ∨ (e = .returned (.bool false) ∧ Jx (pre ++ [x]) W'))
    (W : World) (hJ : AbidesFrom W.heap.size J) (hW : Below w0.heap.size w0 W) (hM : Blk W M 29 (mtC c s bk a0 n0 c0 sa sn sc v5 v6)) (h0 : J [] W) :
    CallsIn F n Try.prog 45 #[.func (.yield l) #[] #[], .pointer (some ⟨M, 0, none⟩)] W fun e W' => (∃ v, e = .returned v) ∧ ((∃ ys, ys = v ∧ J ys W') ∨ (∃ pre, pre <+: v ∧ Jx pre W')) := by
  have hro : F.round = none := by rw [hFw.out]; rfl
  have hf2 : F.fn 45 := by rw [hFw.out]; trivial
  have HS := Lib.hid hS
  have HL := hS.len
  have hmax := hS.1.2.1
  obtain ⟨x0, v1, rfl⟩ : ∃ x0 v1, v = x0 :: v1 := by
    cases v with
    | nil => cases hv
    | cons x l => exact ⟨x, l, rfl⟩
  have hv1 : v1.map (·.1) = shX S S.length := (List.cons.inj hv).2
  have hx0 : x0.1 = (-1, a0, n0, c0, T) := (List.cons.inj hv).1
  have HV := Lib.hid hv1
  have hvl : v1.length = sn := by
    have := congrArg List.length hv1
    rw [List.length_map] at this
    rw [this, ← HL]
    simp [shX]
  have HVL := Lib.hid hvl
  have hc3 := hM.cell 3
  have hc4 := hM.cell 4
  have hf3 := hM.free 3
  obtain ⟨fn, tmps, assign, body, hy, hR⟩ := hY [] x0 W h0 (by simp)
  unfold vtxArg at hy
  rw [hx0] at hy
  have HW := Lib.hid hW
  have HM := Lib.hid hM
  have HY := Lib.hid hY
  have HJ := Lib.hid hJ
  clear hS hv hv1 hx0 hvl hW hM hY hJ h0
  refine callsIn_of_wp Try.func45 rfl hf2 ?_ hro
  simp only [Try.ntmps45, List.size_toArray, List.length_cons, List.length_nil, Nat.reduceAdd, Nat.reduceSub, Array.replicate_succ, Array.replicate_zero, List.push_toArray, List.append_toArray, List.nil_append, List.cons_append]
  unfold mtC at hc3 hc4
  gi_wp2
  refine hR.mono ?_
  rintro e W3 (⟨rfl, hJ3, hk3⟩ | ⟨rfl, hJx3⟩)
  · have HJ3 := Lib.hid hJ3
    have HM3 : Hid (Blk W3 M 29 (mtC c s bk a0 n0 c0 sa sn sc v5 v6)) := hk3.2.trans HM.out
    have HW3 : Hid (Below w0.heap.size w0 W3) := HW.out.trans hk3.1
    have hc4 := HM3.out.cell 4
    have hf4 := HM3.out.free 4
    unfold mtC at hc4
    clear hJ3 hk3 hc3 hf3 hy hR
    gi_wp2
    gi_loopw [13] (fun i wr => ∃ k : Nat, k ≤ sn ∧ i = .int .i64 k ∧ Hid (J (x0 :: v1.take k) wr) ∧ Hid (Below w0.heap.size w0 wr))
      (fun i _ => sn - (intOf i).toNat)
    case atStart => exact ⟨0, Nat.zero_le _, rfl, HJ3.out, HW3.out⟩
    case round =>
      obtain ⟨k, hk, rfl, HJk, HWk⟩ := hrel
      by_cases hlt : k < sn
      · obtain ⟨b, off, nm, sz, al, ll, cl, T', rfl, hSk, x1, x2, x3, hT⟩ := (HS.out.later HWk.out).at k hlt
        have hvl := HVL.out
        obtain ⟨x, hx⟩ : ∃ x, v1[k]? = some x := ⟨v1[k]'(by omega), List.getElem?_eq_getElem (by omega)⟩
        have hxv : x.1 = ((k : Int), al, ll, cl, T') := by
          have h2 : (v1.map (·.1))[k]? = some x.1 := by rw [List.getElem?_map, hx]; rfl
          rw [HV.out] at h2
          have h3 : (shX S S.length)[k]? = some ((k : Int), al, ll, cl, T') := by
            unfold shX
            rw [List.getElem?_map, List.getElem?_range (by omega)]
            simp [List.getD_eq_getElem?_getD, hSk, shT]
          rw [h3] at h2
          exact (Option.some.inj h2).symm
        have htk : v1.take (k + 1) = v1.take k ++ [x] := by rw [List.take_add_one, hx]; rfl
        have hJa := HJ.out (x0 :: v1.take k) wr (wr.alloc (.cells #[.string nm, .int .i64 sz, .slice al ll cl] 53)) none HJk.out (World.grownBy_alloc _ _ none) (fun r e => by cases e)
        obtain ⟨fn, tmps, assign, body, hy, hR⟩ := HY.out (x0 :: v1.take k) x _ hJa (by simp; omega)
        unfold vtxArg at hy
        rw [hxv] at hy
        have HTK := Lib.hid htk
        have HWa := Lib.hid (HWk.out.alloc HWk.out.size (.cells #[.string nm, .int .i64 sz, .slice al ll cl] 53))
        have HX := Lib.hid hx
        clear hJa htk hxv hx hvl hT hSk
        gi_wp2
        refine hR.mono ?_
        rintro e W4 (⟨rfl, hJ4, hk4⟩ | ⟨rfl, hJx4⟩)
        · have HJ4 := Lib.hid hJ4
          have HK4 := Lib.hid hk4
          clear hJ4 hk4
          gi_wp2
          go_roundw
          case rel => exact ⟨k + 1, by omega, by go_num, by rw [HTK.out]; exact HJ4.out, HWa.out.trans HK4.out.1⟩
          case measure => simp [intOf]; omega
        · gi_wp2
          refine bodyPost_ret (results_none rfl _ _ _) rfl ?_
          exact ⟨⟨_, rfl⟩, .inr ⟨x0 :: (v1.take k ++ [x]), by rw [← HTK.out]; exact (List.cons_prefix_cons.2 ⟨rfl, List.take_prefix _ _⟩), hJx4⟩⟩
      · obtain rfl : k = sn := by omega
        gi_wp2
        go_end0
        exact ⟨⟨_, rfl⟩, .inl ⟨_, by rw [← HVL.out, List.take_length], HJk.out⟩⟩
  · gi_wp2
    refine bodyPost_ret (results_none rfl _ _ _) rfl ?_
    exact ⟨⟨_, rfl⟩, .inr ⟨[x0], ⟨v1, rfl⟩, hJx3⟩⟩
end Go.Proofs.Ytidknkhkblloaaa
