/-
  The iterator over the lines of a meta (package count). Conditions: the meta's tables read and are right.
-/
import Derived.Test.YtidknkhkblloaaaI0
namespace Go.Proofs.Ytidknkhkblloaaa
open Go.RowKit Go.Shelf
attribute [local go_sem] Oper.semAt_some
set_option linter.unusedVariables false

theorem hasSec_any (k s n z m : Int) {B : Bool} (hB : decide (secE (k, s, n, z, m)) = B) (w : World) : Calls Try.prog 42 #[.agg #[.int .i64 k, .int .i64 s, .int .i64 n, .int .i64 z, .int .u32 m]] w fun e w' => e = .returned (.bool B) ∧ Below w.heap.size w w' := by
  have HG : Hid (∀ cs, Below w.heap.size w (w.alloc (.cells cs 39))) := fun cs => (Below.refl _ _).alloc (Nat.le_refl _) _
  by_cases h2 : k = 2
  · obtain rfl : B = true := by rw [← hB]; exact decide_eq_true (Or.inl h2)
    subst h2
    clear hB
    go_enter Try.func42, Try.ntmps42
    go_wp2
    go_ret
    exact ⟨rfl, HG.out _⟩
  · by_cases h3 : k = 3
    · obtain rfl : B = true := by rw [← hB]; exact decide_eq_true (Or.inr h3)
      subst h3
      clear hB
      go_enter Try.func42, Try.ntmps42
      go_wp2
      go_ret
      exact ⟨rfl, HG.out _⟩
    · have e2 : (k == 2) = false := by simp [h2]
      have e3 : (k == 3) = false := by simp [h3]
      obtain rfl : B = false := by rw [← hB]; exact decide_eq_false fun h => h.elim h2 h3
      clear hB
      go_enter Try.func42, Try.ntmps42
      go_wp2
      go_ret
      exact ⟨rfl, HG.out _⟩

abbrev VLn := { x : Ln // LnOk x }
def lnV (x : Ln) : List Value := .int .i64 x.1 :: .int .i64 x.2.1 :: enV x.2.2
def lnArg (x : VLn) : Array Value := #[.agg #[.int .i64 x.1.1, .int .i64 x.1.2.1, .int .i64 x.1.2.2.1, .int .i64 x.1.2.2.2.1, .int .i64 x.1.2.2.2.2.1, .int .i64 x.1.2.2.2.2.2.1, .int .u32 x.1.2.2.2.2.2.2]]
/-- The iterator's own state. -/
structure St (X l Y M : Nat) (cs : Array Value) (w0 W : World) : Prop where
  data : Below w0.heap.size w0 W
  low : ∀ k, k < w0.heap.size → ownX X W ≠ some k
  fr : ∀ k, ownX X W = some k → k < W.heap.size
  y : Blk W Y 79 #[.func (.yield l) #[] #[]]
  oy : ownX X W ≠ some Y
  m : Blk W M 29 cs
  om : ownX X W ≠ some M
  xs : X < W.heap.size
theorem St.kx {X l Y M : Nat} {cs : Array Value} {w0 W W' : World} (h : St X l Y M cs w0 W) (k : KX X l W W') (hX : w0.heap.size ≤ X) (hl : w0.heap.size ≤ l) (h1 : Y ≠ X) (h2 : Y ≠ l) (h3 : M ≠ X) (h4 : M ≠ l) : St X l Y M cs w0 W' := by
  have hd : Below w0.heap.size W W' := ⟨k.os, k.tape, k.output, k.size, fun i hi => by
    have hlt := Nat.lt_of_lt_of_le hi h.data.size
    obtain ⟨o, ho⟩ : ∃ o, W.heap[i]? = some o := ⟨_, Array.getElem?_eq_getElem hlt⟩
    rw [ho]
    exact k.same i o ho (by omega) (by omega) (Or.inr (h.low i hi))⟩
  exact ⟨h.data.trans hd, fun i hi => k.own i (Nat.lt_of_lt_of_le hi h.data.size) (h.low i hi), k.fresh h.fr, k.same _ _ h.y h1 h2 (Or.inr h.oy), k.own _ h.y.lt h.oy, k.same _ _ h.m h3 h4 (Or.inr h.om), k.own _ h.m.lt h.om, Nat.lt_of_lt_of_le h.xs k.size⟩
theorem ownX_from {X B : Nat} {W W' : World} {row : Option Nat} (hX : X < B) (hlt : X < W.heap.size) (hg : W.grownBy W' row) (hr : ∀ r, row = some r → B ≤ r ∧ ∃ o : Obj, W.heap[r]? = some o ∧ o.isCells = false) : ownX X W' = ownX X W :=
  ownX_same (hg.block X hlt fun e => by have := (hr X e.symm).1; omega)
theorem St.own {β : Type} {X l Y M B : Nat} {cs : Array Value} {w0 : World} (hX : X < B) (h0 : w0.heap.size ≤ B) : OwnFrom B (fun (_ : β) W => St X l Y M cs w0 W) := fun s W W' row hs hg hr => by
  have e := ownX_from hX hs.xs hg hr
  have hc : ∀ {k : Nat} {c : Array Value} {t : TypeId}, Blk W k t c → Blk W' k t c := fun {k c t} hb => hb.kept hg fun e' => by
    obtain ⟨_, o, ho, hf⟩ := hr k e'.symm
    rw [show W.heap[k]? = _ from hb] at ho
    cases ho
    cases hf
  refine ⟨hs.data.trans ⟨hg.os, hg.tape, hg.output, hg.size, fun k hk => hg.block k (Nat.lt_of_lt_of_le hk hs.data.size) fun e' => by have := (hr k e'.symm).1; omega⟩, ?_, ?_, hc hs.y, ?_, hc hs.m, ?_, Nat.lt_of_lt_of_le hs.xs hg.size⟩
  · rw [e]; exact hs.low
  · rw [e]; exact fun k hk => Nat.lt_of_lt_of_le (hs.fr k hk) hg.size
  · rw [e]; exact hs.oy
  · rw [e]; exact hs.om
theorem callsW {F : Fence} {n f : Nat} {args : Array Value} {w : World} {R : Ending → World → Prop} (h : F = Fence.wide) (hc : Calls Try.prog f args w R) : CallsIn F n Try.prog f args w R := by
  subst h
  exact callsIn_wide.2 hc
theorem tables1_stops (F : Fence) (hFw : Hid (F = Fence.wide)) (n : Nat) (h1 : 1 ≤ n) (M : Nat) (w0 w : World) (c s : Int) (bk : ByteArray) (a0 : Option Addr) (n0 c0 : Nat) (sa : Option Addr) (sn sc : Nat) (v5 v6 : Value) (T : Tb) (S : List Sh)
    (hS : ShsR w0 sa sn S) (v : List (VTx w0)) (hv : v.map (·.1) = tabsX a0 n0 c0 T S) (hW : Below w0.heap.size w0 w) (hM : Blk w M 29 (mtC c s bk a0 n0 c0 sa sn sc v5 v6)) :
    SeqStopsK F n Try.prog 45 #[.pointer (some ⟨M, 0, none⟩)] vtxArg (Kp2 w0.heap.size M) (fun ys => ys = v) (fun pre => pre <+: v) v.length w := fun l J Jx W hb hJ _ hY h0 =>
  tables1_in F hFw n h1 l M w0 c s bk a0 n0 c0 sa sn sc v5 v6 T S hS v hv J Jx hY W hJ (hW.trans (hb.mono hW.size)) (hM.later hb) h0
theorem mt_cells {W : World} {M : Nat} {c s : Int} {bk : ByteArray} {a0 : Option Addr} {n0 c0 : Nat} {sa : Option Addr} {sn sc : Nat} {v5 v6 : Value} (h : Blk W M 29 (mtC c s bk a0 n0 c0 sa sn sc v5 v6)) :
    W.cell? ⟨M, 0, none⟩ = some (.int .i64 c) ∧ W.cell? ⟨M, 1, none⟩ = some (.int .i64 s) ∧ W.cell? ⟨M, 2, none⟩ = some (.string bk) ∧ W.cell? ⟨M, 3, none⟩ = some (.slice a0 n0 c0) ∧ W.cell? ⟨M, 4, none⟩ = some (.slice sa sn sc) ∧ W.cell? ⟨M, 5, none⟩ = some v5 ∧ W.cell? ⟨M, 6, none⟩ = some v6 := by
  refine ⟨?_, ?_, ?_, ?_, ?_, ?_, ?_⟩ <;> (rw [h.cell]; rfl)
def linesOf {w0 : World} (pre : List (VTx w0)) : List Ln := pre.flatMap fun x => tabLines x.1.1 x.1.2.2.2.2
theorem linesOf_snoc {w0 : World} (pre : List (VTx w0)) (x : VTx w0) : linesOf (pre ++ [x]) = linesOf pre ++ tabLines x.1.1 x.1.2.2.2.2 := by
  unfold linesOf
  rw [List.flatMap_append]
  simp
theorem linesOf_len {w0 : World} : ∀ pre : List (VTx w0), (linesOf pre).length ≤ 4096 * pre.length
  | [] => Nat.le_refl _
  | x :: pre => by
    have h1 := linesOf_len pre
    have h2 := linesTo_len x.1.1 x.1.2.2.2.2 (x.1.2.2.2.2.length * 8)
    have h3 := x.2.2.2.1
    have h4 := x.2.1.lens.1
    have e : linesOf (x :: pre) = tabLines x.1.1 x.1.2.2.2.2 ++ linesOf pre := rfl
    rw [e, List.length_append, List.length_cons]
    unfold tabLines
    omega

set_option maxRecDepth 100000 in
set_option maxHeartbeats 4000000 in
theorem lines_seq (X M : Nat) (w0 w : World) (c s : Int) (bk : ByteArray) (a0 : Option Addr) (n0 c0 : Nat) (sa : Option Addr) (sn sc : Nat) (a5 : Option Addr) (n5 c5 : Nat) (a6 : Option Addr) (n6 c6 : Nat) (T : Tb) (S : List Sh)
    (hS : ShsR w0 sa sn S) (v : List (VTx w0)) (hv : v.map (·.1) = tabsX a0 n0 c0 T S) (hW : Below w0.heap.size w0 w) (hM : Blk w M 29 (mtC c s bk a0 n0 c0 sa sn sc (.slice a5 n5 c5) (.slice a6 n6 c6)))
    (hX0 : w0.heap.size ≤ X) (hX : X < w.heap.size) (hMX : M ≠ X) (hM0 : w0.heap.size ≤ M) (how : ∀ k, ownX X w = some k → w0.heap.size ≤ k ∧ k < w.heap.size ∧ k ≠ M) :
    SeqX Try.prog 39 #[.pointer (some ⟨M, 0, none⟩)] lnArg (KX X (w.heap.size + 1)) (fun ys => ys.map (·.1) = linesOf v) (4096 * v.length) w := by
  intro l J W hl hb hsz hJ hY h0
  have hle := hl.out
  rw [← hle] at hY
  have hl1 : w.heap.size < l := by omega
  have hl2 : l < W.heap.size := by omega
  clear hle hl
  obtain ⟨F, hF⟩ := named Fence.wide
  have hFw : Hid (F = Fence.wide) := hF.out.symm
  rw [hF.out] at hY ⊢
  clear hF
  have hro : F.round = none := by rw [hFw.out]; rfl
  have hdp : F.depth = none := by rw [hFw.out]; rfl
  have hf1 : F.fn 39 := by rw [hFw.out]; trivial
  have hf2 : F.fn 45 := by rw [hFw.out]; trivial
  have hf3 : F.fn 40 := by rw [hFw.out]; trivial
  have hf4 : F.fn 41 := by rw [hFw.out]; trivial
  have hf5 : F.fn 42 := by rw [hFw.out]; trivial
  have hxw : ownX X W = ownX X w := ownX_same (hb.block X hX)
  have hdat : Below w0.heap.size w0 W := hW.trans (hb.mono hW.size)
  have hMW := hM.later hb
  obtain ⟨hmc0, hmc1, hmc2, hmc3, hmc4, hmc5, hmc6⟩ := mt_cells hMW
  have hMlt := hMW.lt
  have hMlt0 := hM.lt
  have hsw := hb.size
  have HY := Lib.hid hY
  have HJ := Lib.hid hJ
  have HOW := Lib.hid how
  have HB := Lib.hid hb
  have HDAT := Lib.hid hdat
  have HM := Lib.hid hMW
  have HXW := Lib.hid hxw
  have H0 := Lib.hid h0
  clear hY hJ how hb hW hM hMW hxw h0 hdat
  refine callsIn_of_wp_marks Try.func39 rfl hf1 ?_ hro
  simp only [Try.ntmps39, List.size_toArray, List.length_cons, List.length_nil, Nat.reduceAdd, Nat.reduceSub, Array.replicate_succ, Array.replicate_zero, List.push_toArray, List.append_toArray, List.nil_append, List.cons_append]
  gi_wp2_with (gi_at_call 40; refine (callsW hFw.out (tables_any _ _ _ _ _ _ _ _ _ _ _ _ _ _ _ _)).mono ?_; rintro e w1 ⟨rfl, rfl⟩)
  have hY0 : Blk ((W.alloc (.cells #[.func (.yield l) #[] #[]] 79)).alloc (.cells (mtC c s bk a0 n0 c0 sa sn sc (.slice a5 n5 c5) (.slice a6 n6 c6)) 29)) W.heap.size 79 #[.func (.yield l) #[] #[]] := (Blk.new W _ _).alloc _
  have hM2 := Blk.new (W.alloc (.cells #[.func (.yield l) #[] #[]] 79)) 29 (mtC c s bk a0 n0 c0 sa sn sc (.slice a5 n5 c5) (.slice a6 n6 c6))
  rw [World.size_alloc] at hM2
  have hb2 : Below W.heap.size W ((W.alloc (.cells #[.func (.yield l) #[] #[]] 79)).alloc (.cells (mtC c s bk a0 n0 c0 sa sn sc (.slice a5 n5 c5) (.slice a6 n6 c6)) 29)) := ((Below.refl _ W).alloc (Nat.le_refl _) _).alloc (by simp) _
  have hsz2 : ((W.alloc (.cells #[.func (.yield l) #[] #[]] 79)).alloc (.cells (mtC c s bk a0 n0 c0 sa sn sc (.slice a5 n5 c5) (.slice a6 n6 c6)) 29)).heap.size = W.heap.size + 2 := by simp
  obtain ⟨Z, hZ⟩ : ∃ Z, (W.alloc (.cells #[.func (.yield l) #[] #[]] 79)).alloc (.cells (mtC c s bk a0 n0 c0 sa sn sc (.slice a5 n5 c5) (.slice a6 n6 c6)) 29) = Z := ⟨_, rfl⟩
  rw [hZ] at hY0 hM2 hb2 hsz2 ⊢
  clear hZ
  have hXZ : ownX X Z = ownX X W := ownX_same (hb2.block X (by omega))
  have hSt0 : St X l W.heap.size (W.heap.size + 1) (mtC c s bk a0 n0 c0 sa sn sc (.slice a5 n5 c5) (.slice a6 n6 c6)) w0 Z := by
    have ho : ∀ k, ownX X Z = some k → w0.heap.size ≤ k ∧ k < w.heap.size := fun k hk => by
      rw [hXZ, HXW.out] at hk
      exact ⟨(HOW.out k hk).1, (HOW.out k hk).2.1⟩
    exact ⟨HDAT.out.trans (hb2.mono HDAT.out.size), fun k hk e => by have := ho k e; omega, fun k hk => by have := ho k hk; omega, hY0, fun e => by have := ho _ e; omega, hM2, fun e => by have := ho _ e; omega, by omega⟩
  have hJZ : J [] Z := HJ.out [] W Z none H0.out (grown_of_below hb2) (fun _ e => by cases e)
  have HS0 := Lib.hid hSt0
  have hnl : w0.heap.size ≤ l := by have := HDAT.out.size; have := hX0; omega
  have hXl : X ≠ l := by omega
  refine wpIn_rangeFunc_ownH hro (by omega) (gf := 45) (lb := #[.pointer (some ⟨W.heap.size + 1, 0, none⟩)]) rfl hf2 (enters_of Try.func45 (by kernel_rfl) rfl)
    (tables1_stops F hFw 7 (by omega) (W.heap.size + 1) w0 Z c s bk a0 n0 c0 sa sn sc (.slice a5 n5 c5) (.slice a6 n6 c6) T S hS v hv HS0.out.data HS0.out.m) Kp2.trans
    (fun V k o o' hk ho _ _ => ⟨⟨rfl, rfl, rfl, by simp, fun i hi => World.putObj_heap_other (by have := HS0.out.data.size; omega)⟩, World.putObj_heap_other (by omega)⟩) (Below.refl _ _) (fun _ => rfl)
    (fun pre V => (∃ ys : List VLn, ys.map (·.1) = linesOf pre ∧ J ys V) ∧ St X l W.heap.size (W.heap.size + 1) (mtC c s bk a0 n0 c0 sa sn sc (.slice a5 n5 c5) (.slice a6 n6 c6)) w0 V) (fun _ _ _ => False)
    (OwnFrom.and (fun pre V V' row h hg hr => by
      obtain ⟨ys, h1, h2⟩ := h
      exact ⟨ys, h1, HJ.out ys V V' row h2 hg fun r e => ⟨by have := (hr r e).1; omega, (hr r e).2⟩⟩) (St.own (by omega) (by have := HS0.out.data.size; omega)))
    (fun _ _ _ _ _ h _ _ => h) ⟨⟨[], rfl, hJZ⟩, hSt0⟩
    (fun x a' V => ∃ Bx, Z.heap.size ≤ Bx ∧ Blk V Bx 24 #[.slice x.1.2.1 x.1.2.2.1 x.1.2.2.2.1] ∧ ownX X V ≠ some Bx ∧ X < V.heap.size ∧ a' = { tmps := #[.func (.yield l) #[] #[], .pointer (some ⟨M, 0, none⟩), .pointer (some ⟨W.heap.size, 0, none⟩), .int .i64 x.1.1, .pointer (some ⟨Bx, 0, none⟩), undef, undef,
      .agg #[.int .i64 c, .int .i64 s, .string bk, .slice a0 n0 c0, .slice sa sn sc, .slice a5 n5 c5, .slice a6 n6 c6], .func (.func 45) #[] #[.pointer (some ⟨W.heap.size + 1, 0, none⟩)], .int .i64 x.1.1, .agg #[.slice x.1.2.1 x.1.2.2.1 x.1.2.2.2.1],
      undef, undef, undef, undef, undef, undef, undef, undef, undef, undef, undef, undef, undef, undef, undef, undef, undef, undef, undef, undef, undef, undef], defers := [] })
    (fun x a' u V V' row h hg hr => by
      obtain ⟨Bx, h1, h2, h3, h4, h5⟩ := h
      refine ⟨Bx, h1, h2.kept hg fun e' => ?_, ?_, Nat.lt_of_lt_of_le h4 hg.size, h5⟩
      · obtain ⟨_, o, ho, hf⟩ := hr Bx e'.symm
        rw [show V.heap[Bx]? = _ from h2] at ho
        cases ho
        cases hf
      · rw [ownX_from (by omega) h4 hg hr]
        exact h3) ?assign ?body ?done ?stop
  case assign =>
    intro lp pre x V K hi hK
    have e : ∀ A : Array Value, ((#[9, 10] : Array Tmp).zip (vtxArg x)).foldl (fun t (p, v) => t.setIfInBounds p v) A = (A.setIfInBounds 9 (.int .i64 x.1.1)).setIfInBounds 10 (.agg #[.slice x.1.2.1 x.1.2.2.1 x.1.2.2.2.1]) := fun A => by simp [vtxArg]
    rw [e]
    clear e
    gi_wp2
    refine hK _ _ ((KeepsOthers.alloc _ _).from _) ⟨(Below.refl _ _).alloc hi.2.data.size _, Below.heap_alloc _ _ _ hi.2.m.lt⟩ ⟨?_, hi.2.kx (KX.alloc hi.2.xs _) hX0 hnl (by omega) (by omega) (by omega) (by omega)⟩ ⟨_, ?_, Blk.new _ _ _, ?_, ?_, rfl⟩
    · obtain ⟨ys, h1, h2⟩ := hi.1
      exact ⟨ys, h1, HJ.out ys V _ none h2 (World.grownBy_alloc _ _ none) (fun _ e => by cases e)⟩
    · have := hi.2.m.lt
      omega
    · rw [show ownX X (V.alloc _) = ownX X V from ownX_same (Below.heap_alloc _ _ _ hi.2.xs)]
      exact fun e => absurd (hi.2.fr _ e) (Nat.lt_irrefl _)
    · have := hi.2.xs
      rw [World.size_alloc]
      omega
  case body =>
    rintro lp pre x a' V hlp _ ⟨⟨ys, hys, hJy⟩, hSt⟩ ⟨Bx, hb1, hb2, hb3, hb4, rfl⟩ hlen
    obtain ⟨⟨sh, al, ll, cl, T'⟩, hx⟩ := x
    have HSN : Hid (linesOf (pre ++ [⟨(sh, al, ll, cl, T'), hx⟩]) = linesOf pre ++ tabLines sh T') := linesOf_snoc pre _
    have htl := hx.1.lens.1
    have h512 := hx.2.2.1
    dsimp only at htl h512 hb2 hlen ⊢
    have HOK : Hid (∀ y ∈ tabLines sh T', LnOk y) := hx.2.1
    have HT : Hid (Tab w0 al ll cl T') := hx.1
    have HLE := Lib.hid (linesOf_len pre)
    have HYS := Lib.hid hys
    have HS := Lib.hid hSt
    have HBX := Lib.hid hb2
    have c1 : V.cell? ⟨Bx, 0, none⟩ = some (.slice al ll cl) := hb2.cell 0
    have HTL := Lib.hid htl
    have e8 : IntKind.i64.wrap ((ll : Int) * 8) = ((ll * 8 : Nat) : Int) := by rw [IntKind.wrap_i64] <;> omega
    clear hys hSt hb2 htl
    gi_wp2
    gi_loopw [15] (fun i wr => ∃ k : Nat, k ≤ ll * 8 ∧ i = .int .i64 k ∧ Hid (∃ zs : List VLn, zs.map (·.1) = linesOf pre ++ linesTo sh T' k ∧ J zs wr) ∧ Hid (St X l W.heap.size (W.heap.size + 1) (mtC c s bk a0 n0 c0 sa sn sc (.slice a5 n5 c5) (.slice a6 n6 c6)) w0 wr) ∧ Hid (KX X l V wr) ∧ Hid (Blk wr Bx 24 #[.slice al ll cl]) ∧ Hid (ownX X wr ≠ some Bx))
      (fun i _ => ll * 8 - (intOf i).toNat)
    case atStart => exact ⟨0, Nat.zero_le _, rfl, ⟨ys, by rw [HYS.out, linesTo_zero, List.append_nil], hJy⟩, HS.out, KX.refl _ _ _, HBX.out, hb3⟩
    case round =>
      obtain ⟨k, hk, rfl, HZ, HSk, HKk, HBk, HOk⟩ := hrel
      by_cases hlt : k < ll * 8
      · obtain ⟨zs, hz, hjz⟩ := HZ.out
        have hbx : wr.cell? ⟨Bx, 0, none⟩ = some (.slice al ll cl) := HBk.out.cell 0
        have hTk : Tab wr al ll cl T' := HT.out.later HSk.out.data
        have hI : I64 (k : Int) := by unfold I64; omega
        obtain ⟨⟨v1, v2, v3, v4, v5⟩, hv'⟩ := named (atN T' k)
        have hat : atT T' (k : Int) = (v1, v2, v3, v4, v5) := (atT_nat T' k).trans hv'.out
        have HGET := Lib.hid (getT wr hTk k hI hat)
        have HZL : Hid (zs.length < 4096 * v.length) := by
          have h1 := congrArg List.length hz
          rw [List.length_map, List.length_append] at h1
          have h2 := linesTo_len sh T' k
          have h3 := HLE.out
          show zs.length < 4096 * v.length
          omega
        have HZM := Lib.hid hz
        have HZJ := Lib.hid hjz
        by_cases hsec : secE (v1, v2, v3, v4, v5)
        · have hmem : (sh, (k : Int), (v1, v2, v3, v4, v5)) ∈ tabLines sh T' := by
            unfold tabLines linesTo
            refine List.mem_filterMap.2 ⟨k, List.mem_range.2 (by rw [HTL.out]; exact hlt), ?_⟩
            unfold lnAt
            rw [hv'.out, if_pos hsec]
          have hln : LnOk (sh, (k : Int), (v1, v2, v3, v4, v5)) := HOK.out _ hmem
          have HN : Hid ((zs ++ [(⟨(sh, (k : Int), (v1, v2, v3, v4, v5)), hln⟩ : VLn)]).map (·.1) = linesOf pre ++ linesTo sh T' (k + 1)) := by
            show _ = _
            rw [List.map_append, HZM.out, linesTo_yes (by rw [hv'.out]; exact hsec), hv'.out]
            simp
          have HSEC := Lib.hid (fun w => hasSec_any v1 v2 v3 v4 v5 (decide_eq_true hsec) w)
          clear hmem hz hjz hTk hat hv'
          gi_wp2_with (first
            | (gi_at_call 41; refine (CallsIn.inRound lp (callsW hFw.out HGET.out)).mono ?_; rintro e w1 ⟨rfl, g1⟩
               have KX1 := Lib.hid (KX.below (l := l) HSk.out.xs g1)
               have HB1 := Lib.hid (HBk.out.later g1)
               have HJ1 := Lib.hid (HJ.out zs wr w1 none HZJ.out (grown_of_below g1) (fun _ e => by cases e))
               have hx1 : X < w1.heap.size := Nat.lt_of_lt_of_le HSk.out.xs g1.size
               clear g1)
            | (gi_at_call 42; refine (CallsIn.inRound lp (callsW hFw.out (HSEC.out _))).mono ?_; rintro e w3 ⟨rfl, g3⟩
               have KXk := Lib.hid ((KX1.out.trans (KX.alloc hx1 (.cells #[.int .i64 v1, .int .i64 v2, .int .i64 v3, .int .i64 v4, .int .u32 v5] 39))).trans (KX.below (l := l) (by rw [World.size_alloc]; omega) g3))
               have HS3 := Lib.hid (HSk.out.kx KXk.out hX0 hnl (by omega) (by omega) (by omega) (by omega))
               have HB3 := Lib.hid ((HB1.out.alloc (.cells #[.int .i64 v1, .int .i64 v2, .int .i64 v3, .int .i64 v4, .int .u32 v5] 39)).later g3)
               have HO3 : Hid (ownX X w3 ≠ some Bx) := KXk.out.own Bx HBk.out.lt HOk.out
               obtain ⟨e1, e2, e3, e4, e5⟩ := cells5 ((Blk.new w1 39 #[.int .i64 v1, .int .i64 v2, .int .i64 v3, .int .i64 v4, .int .u32 v5]).later g3)
               have y3 : w3.cell? ⟨W.heap.size, 0, none⟩ = some (.func (.yield l) #[] #[]) := HS3.out.y.cell 0
               have HJ3 := Lib.hid (HJ.out zs _ w3 none (HJ.out zs w1 _ none HJ1.out (World.grownBy_alloc _ (.cells #[.int .i64 v1, .int .i64 v2, .int .i64 v3, .int .i64 v4, .int .u32 v5] 39) none) (fun _ e => by cases e)) (grown_of_below g3) (fun _ e => by cases e))
               clear g3
               obtain ⟨fn, tmps, assign, body, hy, hR⟩ := HY.out zs ⟨(sh, (k : Int), (v1, v2, v3, v4, v5)), hln⟩ w3 HJ3.out HZL.out
               unfold lnArg at hy
               dsimp only at hy))
          refine RoundIn.mono (RoundIn.any0 (F := F.inRound lp) hdp hR) ?_
          rintro e w4 ⟨rfl, hj4, hk4⟩
          have HN4 := Lib.hid hj4
          have HK4 := Lib.hid hk4
          clear hj4 hk4
          gi_wp2
          go_roundw
          case rel =>
            have hs4 := HS3.out.kx HK4.out hX0 hnl (by omega) (by omega) (by omega) (by omega)
            exact ⟨k + 1, by omega, by go_num, ⟨_, HN.out, HN4.out⟩, hs4, (HKk.out.trans KXk.out).trans HK4.out, HK4.out.same _ _ HB3.out (by omega) (by omega) (Or.inr HO3.out), HK4.out.own _ HB3.out.lt HO3.out⟩
          case measure => simp [intOf]; omega
        · have HN : Hid (linesTo sh T' (k + 1) = linesTo sh T' k) := linesTo_no (by rw [hv'.out]; exact hsec)
          have HSEC := Lib.hid (fun w => hasSec_any v1 v2 v3 v4 v5 (decide_eq_false hsec) w)
          clear hz hjz hTk hat hv' hsec
          gi_wp2_with (first
            | (gi_at_call 41; refine (CallsIn.inRound lp (callsW hFw.out HGET.out)).mono ?_; rintro e w1 ⟨rfl, g1⟩
               have KX1 := Lib.hid (KX.below (l := l) HSk.out.xs g1)
               have HB1 := Lib.hid (HBk.out.later g1)
               have HJ1 := Lib.hid (HJ.out zs wr w1 none HZJ.out (grown_of_below g1) (fun _ e => by cases e))
               have hx1 : X < w1.heap.size := Nat.lt_of_lt_of_le HSk.out.xs g1.size
               clear g1)
            | (gi_at_call 42; refine (CallsIn.inRound lp (callsW hFw.out (HSEC.out _))).mono ?_; rintro e w3 ⟨rfl, g3⟩
               have KXk := Lib.hid ((KX1.out.trans (KX.alloc hx1 (.cells #[.int .i64 v1, .int .i64 v2, .int .i64 v3, .int .i64 v4, .int .u32 v5] 39))).trans (KX.below (l := l) (by rw [World.size_alloc]; omega) g3))
               have HS3 := Lib.hid (HSk.out.kx KXk.out hX0 hnl (by omega) (by omega) (by omega) (by omega))
               have HB3 := Lib.hid ((HB1.out.alloc (.cells #[.int .i64 v1, .int .i64 v2, .int .i64 v3, .int .i64 v4, .int .u32 v5] 39)).later g3)
               have HO3 : Hid (ownX X w3 ≠ some Bx) := KXk.out.own Bx HBk.out.lt HOk.out
               obtain ⟨e1, e2, e3, e4, e5⟩ := cells5 ((Blk.new w1 39 #[.int .i64 v1, .int .i64 v2, .int .i64 v3, .int .i64 v4, .int .u32 v5]).later g3)
               have y3 : w3.cell? ⟨W.heap.size, 0, none⟩ = some (.func (.yield l) #[] #[]) := HS3.out.y.cell 0
               have HJ3 := Lib.hid (HJ.out zs _ w3 none (HJ.out zs w1 _ none HJ1.out (World.grownBy_alloc _ (.cells #[.int .i64 v1, .int .i64 v2, .int .i64 v3, .int .i64 v4, .int .u32 v5] 39) none) (fun _ e => by cases e)) (grown_of_below g3) (fun _ e => by cases e))
               clear g3))
          refine ⟨fun _ h => (by cases h), ?_⟩
          gi_wp2
          go_roundw
          case rel => exact ⟨k + 1, by omega, by go_num, ⟨zs, by rw [HN.out]; exact HZM.out, HJ3.out⟩, HS3.out, HKk.out.trans KXk.out, HB3.out, HO3.out⟩
          case measure => simp [intOf]; omega
      · obtain rfl : k = ll * 8 := by omega
        gi_wp2
        obtain ⟨zs, hz, hjz⟩ := HZ.out
        have hKb := HKk.out
        have hSb := HS.out
        refine ⟨⟨hKb.size, fun i o hi ho hf => hKb.same i o ho (by omega) (by omega) (Or.inl hf)⟩, ⟨⟨hKb.os, hKb.tape, hKb.output, hKb.size, fun i hi => ?_⟩, ?_⟩, ⟨zs, ?_, hjz⟩, HSk.out⟩
        · obtain ⟨o, ho⟩ : ∃ o, V.heap[i]? = some o := ⟨_, Array.getElem?_eq_getElem (Nat.lt_of_lt_of_le hi hSb.data.size)⟩
          rw [ho]
          exact hKb.same i o ho (by omega) (by omega) (Or.inr (hSb.low i hi))
        · rw [show V.heap[W.heap.size + 1]? = _ from hSb.m]
          exact hKb.same _ _ hSb.m (by omega) (by omega) (Or.inr hSb.om)
        · rw [HSN.out, hz]
          unfold tabLines
          rw [HTL.out]
  case done =>
    rintro D xs V hD rfl ⟨⟨ys, hys, hJy⟩, hSt⟩ hK
    gi_wp2
    refine ⟨by simp, .inl ⟨_, _, rfl, run_takeDeferred hK, ?_⟩⟩
    exact ⟨_, results_none rfl _ _ _, ⟨_, rfl⟩, ys, hys, HJ.out ys V _ (some D) hJy (grownBy_putObj' _ D (.deferred none)) (fun r e => by cases e; exact ⟨by omega, _, hK, rfl⟩)⟩
  case stop =>
    rintro D c' pre V _ _ h _
    exact h.elim
end Go.Proofs.Ytidknkhkblloaaa
