/-
  What layer 15 needs, part 3: bytes, sums, unpacking, entries, tables, counts, metas, copies, check. Conditions: stated at each.
-/
import Derived.Test.YtlljcdmblmkblaaGreatMb
import Derived.RegionTactic
import Derived.BigRegion
import Derived.Laws.MakeOwn
import Derived.Deep.QuietTactic
import Derived.BigQuiet
namespace Go.Proofs.YtlljcdmblmkblaaGreat
open Go.RowKit Go.Shelf
attribute [local go_sem] Oper.semAt_some
set_option linter.unusedVariables false

theorem hasSec_any (k s n z m : Int) {B : Bool} (hB : decide (secE (k, s, n, z, m)) = B) (w : World) : Calls Tryz.prog 118 #[.agg #[.int .i64 k, .int .i64 s, .int .i64 n, .int .i64 z, .int .u32 m]] w fun e w' => e = .returned (.bool B) ∧ Below w.heap.size w w' := by
  have HG : Hid (∀ cs, Below w.heap.size w (w.alloc (.cells cs 24))) := fun cs => (Below.refl _ _).alloc (Nat.le_refl _) _
  by_cases h2 : k = 2
  · obtain rfl : B = true := by rw [← hB]; exact decide_eq_true (Or.inl h2)
    subst h2
    clear hB
    go_enter Tryz.func118, Tryz.ntmps118
    go_wp2
    go_ret
    exact ⟨rfl, HG.out _⟩
  · by_cases h3 : k = 3
    · obtain rfl : B = true := by rw [← hB]; exact decide_eq_true (Or.inr h3)
      subst h3
      clear hB
      go_enter Tryz.func118, Tryz.ntmps118
      go_wp2
      go_ret
      exact ⟨rfl, HG.out _⟩
    · have e2 : (k == 2) = false := by simp [h2]
      have e3 : (k == 3) = false := by simp [h3]
      obtain rfl : B = false := by rw [← hB]; exact decide_eq_false fun h => h.elim h2 h3
      clear hB
      go_enter Tryz.func118, Tryz.ntmps118
      go_wp2
      go_ret
      exact ⟨rfl, HG.out _⟩

abbrev VLn := { x : Ln // LnOk x }
def lnV (x : Ln) : List Value := .int .i64 x.1 :: .int .i64 x.2.1 :: enV x.2.2
def lnArg (x : VLn) : Array Value := #[.agg #[.int .i64 x.1.1, .int .i64 x.1.2.1, .int .i64 x.1.2.2.1, .int .i64 x.1.2.2.2.1, .int .i64 x.1.2.2.2.2.1, .int .i64 x.1.2.2.2.2.2.1, .int .u32 x.1.2.2.2.2.2.2]]
/-- The iterator's own state. -/
structure StJ (X l Y M : Nat) (cs : Array Value) (w0 W : World) : Prop where
  data : Below w0.heap.size w0 W
  low : ∀ k, k < w0.heap.size → ownX X W ≠ some k
  fr : ∀ k, ownX X W = some k → k < W.heap.size
  y : Blk W Y 165 #[.func (.yield l) #[] #[]]
  oy : ownX X W ≠ some Y
  m : Blk W M 41 cs
  om : ownX X W ≠ some M
  xs : X < W.heap.size
theorem StJ.kx {X l Y M : Nat} {cs : Array Value} {w0 W W' : World} (h : StJ X l Y M cs w0 W) (k : KX X l W W') (hX : w0.heap.size ≤ X) (hl : w0.heap.size ≤ l) (h1 : Y ≠ X) (h2 : Y ≠ l) (h3 : M ≠ X) (h4 : M ≠ l) : StJ X l Y M cs w0 W' := by
  have hd : Below w0.heap.size W W' := ⟨k.os, k.tape, k.output, k.size, fun i hi => by
    have hlt := Nat.lt_of_lt_of_le hi h.data.size
    obtain ⟨o, ho⟩ : ∃ o, W.heap[i]? = some o := ⟨_, Array.getElem?_eq_getElem hlt⟩
    rw [ho]
    exact k.same i o ho (by omega) (by omega) (Or.inr (h.low i hi))⟩
  exact ⟨h.data.trans hd, fun i hi => k.own i (Nat.lt_of_lt_of_le hi h.data.size) (h.low i hi), k.fresh h.fr, k.same _ _ h.y h1 h2 (Or.inr h.oy), k.own _ h.y.lt h.oy, k.same _ _ h.m h3 h4 (Or.inr h.om), k.own _ h.m.lt h.om, Nat.lt_of_lt_of_le h.xs k.size⟩
theorem ownX_from {X B : Nat} {W W' : World} {row : Option Nat} (hX : X < B) (hlt : X < W.heap.size) (hg : W.grownBy W' row) (hr : ∀ r, row = some r → B ≤ r ∧ ∃ o : Obj, W.heap[r]? = some o ∧ o.isCells = false) : ownX X W' = ownX X W :=
  ownX_same (hg.block X hlt fun e => by have := (hr X e.symm).1; omega)
theorem StJ.own {β : Type} {X l Y M B : Nat} {cs : Array Value} {w0 : World} (hX : X < B) (h0 : w0.heap.size ≤ B) : OwnFrom B (fun (_ : β) W => StJ X l Y M cs w0 W) := fun s W W' row hs hg hr => by
  have e := ownX_from hX hs.xs hg hr
  have hc : ∀ {k : Nat} {c : Array Value} {t : TypeId}, Blk W k t c → Blk W' k t c := fun {k c t} hb => hb.kept hg fun e' => by
    obtain ⟨_, o, ho, hf⟩ := hr k e'.symm
    rw [show W.heap[k]? = _ from hb] at ho
    cases ho
    cases hf
  refine ⟨hs.data.trans ⟨hg.os, hg.tape, hg.output, hg.size, fun k hk => hg.block k (Nat.lt_of_lt_of_le hk hs.data.size) fun e' => by have := (hr k e'.symm).1; omega⟩, ?_, ?_, hc hs.y, ?_, hc hs.m, ?_, Nat.lt_of_lt_of_le hs.xs hg.size⟩
  · rw [e]; exact hs.low
  · rw [e]; exact fun k hk => Nat.lt_of_lt_of_le (hs.fr k hk) hg.size
  · rw [e]; exact hs.oy
  · rw [e]; exact hs.om
theorem callsW {F : Fence} {n f : Nat} {args : Array Value} {w : World} {R : Ending → World → Prop} (h : F = Fence.wide) (hc : Calls Tryz.prog f args w R) : CallsIn F n Tryz.prog f args w R := by
  subst h
  exact callsIn_wide.2 hc
theorem tables1_stops (F : Fence) (hFw : Hid (F = Fence.wide)) (n : Nat) (h1 : 1 ≤ n) (M : Nat) (w0 w : World) (c s : Int) (bk : ByteArray) (a0 : Option Addr) (n0 c0 : Nat) (sa : Option Addr) (sn sc : Nat) (v5 v6 : Value) (T : Tb) (S : List Sh)
    (hS : ShsR w0 sa sn S) (v : List (VTx w0)) (hv : v.map (·.1) = tabsX a0 n0 c0 T S) (hW : Below w0.heap.size w0 w) (hM : Blk w M 41 (mtC c s bk a0 n0 c0 sa sn sc v5 v6)) :
    SeqStopsK F n Tryz.prog 127 #[.pointer (some ⟨M, 0, none⟩)] vtxArg (Kp2 w0.heap.size M) (fun ys => ys = v) (fun pre => pre <+: v) v.length w := fun l J Jx W hb hJ _ hY h0 =>
  tables1_in F hFw n h1 l M w0 c s bk a0 n0 c0 sa sn sc v5 v6 T S hS v hv J Jx hY W hJ (hW.trans (hb.mono hW.size)) (hM.later hb) h0
theorem mt_cells {W : World} {M : Nat} {c s : Int} {bk : ByteArray} {a0 : Option Addr} {n0 c0 : Nat} {sa : Option Addr} {sn sc : Nat} {v5 v6 : Value} (h : Blk W M 41 (mtC c s bk a0 n0 c0 sa sn sc v5 v6)) :
    W.cell? ⟨M, 0, none⟩ = some (.int .i64 c) ∧ W.cell? ⟨M, 1, none⟩ = some (.int .i64 s) ∧ W.cell? ⟨M, 2, none⟩ = some (.string bk) ∧ W.cell? ⟨M, 3, none⟩ = some (.slice a0 n0 c0) ∧ W.cell? ⟨M, 4, none⟩ = some (.slice sa sn sc) ∧ W.cell? ⟨M, 5, none⟩ = some v5 ∧ W.cell? ⟨M, 6, none⟩ = some v6 := by
  refine ⟨?_, ?_, ?_, ?_, ?_, ?_, ?_⟩ <;> (rw [h.cell]; rfl)
def linesOf {w0 : World} (pre : List (VTx w0)) : List Ln := pre.flatMap fun x => tabLines x.1.1 x.1.2.2.2.2
theorem linesOf_snoc {w0 : World} (pre : List (VTx w0)) (x : VTx w0) : linesOf (pre ++ [x]) = linesOf pre ++ tabLines x.1.1 x.1.2.2.2.2 := by
  unfold linesOf
  rw [List.flatMap_append]
  simp
theorem linesOf_len {w0 : World} : ∀ pre : List (VTx w0), (linesOf pre).length ≤ 4096 * pre.length
  | [] => Nat.le_refl _
  | x :: pre => by
    have h1 := linesOf_len pre
    have h2 := linesTo_len x.1.1 x.1.2.2.2.2 (x.1.2.2.2.2.length * 8)
    have h3 := x.2.2.2.1
    have h4 := x.2.1.lens.1
    have e : linesOf (x :: pre) = tabLines x.1.1 x.1.2.2.2.2 ++ linesOf pre := rfl
    rw [e, List.length_append, List.length_cons]
    unfold tabLines
    omega

set_option maxRecDepth 100000 in
set_option maxHeartbeats 4000000 in
theorem lines_seq (X M : Nat) (w0 w : World) (c s : Int) (bk : ByteArray) (a0 : Option Addr) (n0 c0 : Nat) (sa : Option Addr) (sn sc : Nat) (a5 : Option Addr) (n5 c5 : Nat) (a6 : Option Addr) (n6 c6 : Nat) (T : Tb) (S : List Sh)
    (hS : ShsR w0 sa sn S) (v : List (VTx w0)) (hv : v.map (·.1) = tabsX a0 n0 c0 T S) (hW : Below w0.heap.size w0 w) (hM : Blk w M 41 (mtC c s bk a0 n0 c0 sa sn sc (.slice a5 n5 c5) (.slice a6 n6 c6)))
    (hX0 : w0.heap.size ≤ X) (hX : X < w.heap.size) (hMX : M ≠ X) (hM0 : w0.heap.size ≤ M) (how : ∀ k, ownX X w = some k → w0.heap.size ≤ k ∧ k < w.heap.size ∧ k ≠ M) :
    SeqX Tryz.prog 115 #[.pointer (some ⟨M, 0, none⟩)] lnArg (KX X (w.heap.size + 1)) (fun ys => ys.map (·.1) = linesOf v) (4096 * v.length) w := by
  intro l J W hl hb hsz hJ hY h0
  have hle := hl.out
  rw [← hle] at hY
  have hl1 : w.heap.size < l := by omega
  have hl2 : l < W.heap.size := by omega
  clear hle hl
  obtain ⟨F, hF⟩ := named Fence.wide
  have hFw : Hid (F = Fence.wide) := hF.out.symm
  rw [hF.out] at hY ⊢
  clear hF
  have hro : F.round = none := by rw [hFw.out]; rfl
  have hdp : F.depth = none := by rw [hFw.out]; rfl
  have hf1 : F.fn 115 := by rw [hFw.out]; trivial
  have hf2 : F.fn 127 := by rw [hFw.out]; trivial
  have hf3 : F.fn 116 := by rw [hFw.out]; trivial
  have hf4 : F.fn 117 := by rw [hFw.out]; trivial
  have hf5 : F.fn 118 := by rw [hFw.out]; trivial
  have hxw : ownX X W = ownX X w := ownX_same (hb.block X hX)
  have hdat : Below w0.heap.size w0 W := hW.trans (hb.mono hW.size)
  have hMW := hM.later hb
  obtain ⟨hmc0, hmc1, hmc2, hmc3, hmc4, hmc5, hmc6⟩ := mt_cells hMW
  have hMlt := hMW.lt
  have hMlt0 := hM.lt
  have hsw := hb.size
  have HY := Lib.hid hY
  have HJ := Lib.hid hJ
  have HOW := Lib.hid how
  have HB := Lib.hid hb
  have HDAT := Lib.hid hdat
  have HM := Lib.hid hMW
  have HXW := Lib.hid hxw
  have H0 := Lib.hid h0
  clear hY hJ how hb hW hM hMW hxw h0 hdat
  refine callsIn_of_wp_marks Tryz.func115 rfl hf1 ?_ hro
  simp only [Tryz.ntmps115, List.size_toArray, List.length_cons, List.length_nil, Nat.reduceAdd, Nat.reduceSub, Array.replicate_succ, Array.replicate_zero, List.push_toArray, List.append_toArray, List.nil_append, List.cons_append]
  gi_wp2_with (gi_at_call 116; refine (callsW hFw.out (tables_any _ _ _ _ _ _ _ _ _ _ _ _ _ _ _ _)).mono ?_; rintro e w1 ⟨rfl, rfl⟩)
  have hY0 : Blk ((W.alloc (.cells #[.func (.yield l) #[] #[]] 165)).alloc (.cells (mtC c s bk a0 n0 c0 sa sn sc (.slice a5 n5 c5) (.slice a6 n6 c6)) 41)) W.heap.size 165 #[.func (.yield l) #[] #[]] := (Blk.new W _ _).alloc _
  have hM2 := Blk.new (W.alloc (.cells #[.func (.yield l) #[] #[]] 165)) 41 (mtC c s bk a0 n0 c0 sa sn sc (.slice a5 n5 c5) (.slice a6 n6 c6))
  rw [World.size_alloc] at hM2
  have hb2 : Below W.heap.size W ((W.alloc (.cells #[.func (.yield l) #[] #[]] 165)).alloc (.cells (mtC c s bk a0 n0 c0 sa sn sc (.slice a5 n5 c5) (.slice a6 n6 c6)) 41)) := ((Below.refl _ W).alloc (Nat.le_refl _) _).alloc (by simp) _
  have hsz2 : ((W.alloc (.cells #[.func (.yield l) #[] #[]] 165)).alloc (.cells (mtC c s bk a0 n0 c0 sa sn sc (.slice a5 n5 c5) (.slice a6 n6 c6)) 41)).heap.size = W.heap.size + 2 := by simp
  obtain ⟨Z, hZ⟩ : ∃ Z, (W.alloc (.cells #[.func (.yield l) #[] #[]] 165)).alloc (.cells (mtC c s bk a0 n0 c0 sa sn sc (.slice a5 n5 c5) (.slice a6 n6 c6)) 41) = Z := ⟨_, rfl⟩
  rw [hZ] at hY0 hM2 hb2 hsz2 ⊢
  clear hZ
  have hXZ : ownX X Z = ownX X W := ownX_same (hb2.block X (by omega))
  have hSt0 : StJ X l W.heap.size (W.heap.size + 1) (mtC c s bk a0 n0 c0 sa sn sc (.slice a5 n5 c5) (.slice a6 n6 c6)) w0 Z := by
    have ho : ∀ k, ownX X Z = some k → w0.heap.size ≤ k ∧ k < w.heap.size := fun k hk => by
      rw [hXZ, HXW.out] at hk
      exact ⟨(HOW.out k hk).1, (HOW.out k hk).2.1⟩
    exact ⟨HDAT.out.trans (hb2.mono HDAT.out.size), fun k hk e => by have := ho k e; omega, fun k hk => by have := ho k hk; omega, hY0, fun e => by have := ho _ e; omega, hM2, fun e => by have := ho _ e; omega, by omega⟩
  have hJZ : J [] Z := HJ.out [] W Z none H0.out (grown_of_below hb2) (fun _ e => by cases e)
  have HS0 := Lib.hid hSt0
  have hnl : w0.heap.size ≤ l := by have := HDAT.out.size; have := hX0; omega
  have hXl : X ≠ l := by omega
  refine wpIn_rangeFunc_ownH hro (by omega) (gf := 127) (lb := #[.pointer (some ⟨W.heap.size + 1, 0, none⟩)]) rfl hf2 (enters_of Tryz.func127 (by kernel_rfl) rfl)
    (tables1_stops F hFw 7 (by omega) (W.heap.size + 1) w0 Z c s bk a0 n0 c0 sa sn sc (.slice a5 n5 c5) (.slice a6 n6 c6) T S hS v hv HS0.out.data HS0.out.m) Kp2.trans
    (fun V k o o' hk ho _ _ => ⟨⟨rfl, rfl, rfl, by simp, fun i hi => World.putObj_heap_other (by have := HS0.out.data.size; omega)⟩, World.putObj_heap_other (by omega)⟩) (Below.refl _ _) (fun _ => rfl)
    (fun pre V => (∃ ys : List VLn, ys.map (·.1) = linesOf pre ∧ J ys V) ∧ StJ X l W.heap.size (W.heap.size + 1) (mtC c s bk a0 n0 c0 sa sn sc (.slice a5 n5 c5) (.slice a6 n6 c6)) w0 V) (fun _ _ _ => False)
    (OwnFrom.and (fun pre V V' row h hg hr => by
      obtain ⟨ys, h1, h2⟩ := h
      exact ⟨ys, h1, HJ.out ys V V' row h2 hg fun r e => ⟨by have := (hr r e).1; omega, (hr r e).2⟩⟩) (StJ.own (by omega) (by have := HS0.out.data.size; omega)))
    (fun _ _ _ _ _ h _ _ => h) ⟨⟨[], rfl, hJZ⟩, hSt0⟩
    (fun x a' V => ∃ Bx, Z.heap.size ≤ Bx ∧ Blk V Bx 36 #[.slice x.1.2.1 x.1.2.2.1 x.1.2.2.2.1] ∧ ownX X V ≠ some Bx ∧ X < V.heap.size ∧ a' = { tmps := #[.func (.yield l) #[] #[], .pointer (some ⟨M, 0, none⟩), .pointer (some ⟨W.heap.size, 0, none⟩), .int .i64 x.1.1, .pointer (some ⟨Bx, 0, none⟩), undef, undef,
      .agg #[.int .i64 c, .int .i64 s, .string bk, .slice a0 n0 c0, .slice sa sn sc, .slice a5 n5 c5, .slice a6 n6 c6], .func (.func 127) #[] #[.pointer (some ⟨W.heap.size + 1, 0, none⟩)], .int .i64 x.1.1, .agg #[.slice x.1.2.1 x.1.2.2.1 x.1.2.2.2.1],
      undef, undef, undef, undef, undef, undef, undef, undef, undef, undef, undef, undef, undef, undef, undef, undef, undef, undef, undef, undef, undef, undef], defers := [] })
    (fun x a' u V V' row h hg hr => by
      obtain ⟨Bx, h1, h2, h3, h4, h5⟩ := h
      refine ⟨Bx, h1, h2.kept hg fun e' => ?_, ?_, Nat.lt_of_lt_of_le h4 hg.size, h5⟩
      · obtain ⟨_, o, ho, hf⟩ := hr Bx e'.symm
        rw [show V.heap[Bx]? = _ from h2] at ho
        cases ho
        cases hf
      · rw [ownX_from (by omega) h4 hg hr]
        exact h3) ?assign ?body ?done ?stop
  case assign =>
    intro lp pre x V K hi hK
    have e : ∀ A : Array Value, ((#[9, 10] : Array Tmp).zip (vtxArg x)).foldl (fun t (p, v) => t.setIfInBounds p v) A = (A.setIfInBounds 9 (.int .i64 x.1.1)).setIfInBounds 10 (.agg #[.slice x.1.2.1 x.1.2.2.1 x.1.2.2.2.1]) := fun A => by simp [vtxArg]
    rw [e]
    clear e
    gi_wp2
    refine hK _ _ ((KeepsOthers.alloc _ _).from _) ⟨(Below.refl _ _).alloc hi.2.data.size _, Below.heap_alloc _ _ _ hi.2.m.lt⟩ ⟨?_, hi.2.kx (KX.alloc hi.2.xs _) hX0 hnl (by omega) (by omega) (by omega) (by omega)⟩ ⟨_, ?_, Blk.new _ _ _, ?_, ?_, rfl⟩
    · obtain ⟨ys, h1, h2⟩ := hi.1
      exact ⟨ys, h1, HJ.out ys V _ none h2 (World.grownBy_alloc _ _ none) (fun _ e => by cases e)⟩
    · have := hi.2.m.lt
      omega
    · rw [show ownX X (V.alloc _) = ownX X V from ownX_same (Below.heap_alloc _ _ _ hi.2.xs)]
      exact fun e => absurd (hi.2.fr _ e) (Nat.lt_irrefl _)
    · have := hi.2.xs
      rw [World.size_alloc]
      omega
  case body =>
    rintro lp pre x a' V hlp _ ⟨⟨ys, hys, hJy⟩, hSt⟩ ⟨Bx, hb1, hb2, hb3, hb4, rfl⟩ hlen
    obtain ⟨⟨sh, al, ll, cl, T'⟩, hx⟩ := x
    have HSN : Hid (linesOf (pre ++ [⟨(sh, al, ll, cl, T'), hx⟩]) = linesOf pre ++ tabLines sh T') := linesOf_snoc pre _
    have htl := hx.1.lens.1
    have h512 := hx.2.2.1
    dsimp only at htl h512 hb2 hlen ⊢
    have HOK : Hid (∀ y ∈ tabLines sh T', LnOk y) := hx.2.1
    have HT : Hid (Tab w0 al ll cl T') := hx.1
    have HLE := Lib.hid (linesOf_len pre)
    have HYS := Lib.hid hys
    have HS := Lib.hid hSt
    have HBX := Lib.hid hb2
    have c1 : V.cell? ⟨Bx, 0, none⟩ = some (.slice al ll cl) := hb2.cell 0
    have HTL := Lib.hid htl
    have e8 : IntKind.i64.wrap ((ll : Int) * 8) = ((ll * 8 : Nat) : Int) := by rw [IntKind.wrap_i64] <;> omega
    clear hys hSt hb2 htl
    gi_wp2
    gi_loopw [15] (fun i wr => ∃ k : Nat, k ≤ ll * 8 ∧ i = .int .i64 k ∧ Hid (∃ zs : List VLn, zs.map (·.1) = linesOf pre ++ linesTo sh T' k ∧ J zs wr) ∧ Hid (StJ X l W.heap.size (W.heap.size + 1) (mtC c s bk a0 n0 c0 sa sn sc (.slice a5 n5 c5) (.slice a6 n6 c6)) w0 wr) ∧ Hid (KX X l V wr) ∧ Hid (Blk wr Bx 36 #[.slice al ll cl]) ∧ Hid (ownX X wr ≠ some Bx))
      (fun i _ => ll * 8 - (intOf i).toNat)
    case atStart => exact ⟨0, Nat.zero_le _, rfl, ⟨ys, by rw [HYS.out, linesTo_zero, List.append_nil], hJy⟩, HS.out, KX.refl _ _ _, HBX.out, hb3⟩
    case round =>
      obtain ⟨k, hk, rfl, HZ, HSk, HKk, HBk, HOk⟩ := hrel
      by_cases hlt : k < ll * 8
      · obtain ⟨zs, hz, hjz⟩ := HZ.out
        have hbx : wr.cell? ⟨Bx, 0, none⟩ = some (.slice al ll cl) := HBk.out.cell 0
        have hTk : Tab wr al ll cl T' := HT.out.later HSk.out.data
        have hI : I64 (k : Int) := by unfold I64; omega
        obtain ⟨⟨v1, v2, v3, v4, v5⟩, hv'⟩ := named (atN T' k)
        have hat : atT T' (k : Int) = (v1, v2, v3, v4, v5) := (atT_nat T' k).trans hv'.out
        have HGET := Lib.hid (getT wr hTk k hI hat)
        have HZL : Hid (zs.length < 4096 * v.length) := by
          have h1 := congrArg List.length hz
          rw [List.length_map, List.length_append] at h1
          have h2 := linesTo_len sh T' k
          have h3 := HLE.out
          show zs.length < 4096 * v.length
          omega
        have HZM := Lib.hid hz
        have HZJ := Lib.hid hjz
        by_cases hsec : secE (v1, v2, v3, v4, v5)
        · have hmem : (sh, (k : Int), (v1, v2, v3, v4, v5)) ∈ tabLines sh T' := by
            unfold tabLines linesTo
            refine List.mem_filterMap.2 ⟨k, List.mem_range.2 (by rw [HTL.out]; exact hlt), ?_⟩
            unfold lnAt
            rw [hv'.out, if_pos hsec]
          have hln : LnOk (sh, (k : Int), (v1, v2, v3, v4, v5)) := HOK.out _ hmem
          have HN : Hid ((zs ++ [(⟨(sh, (k : Int), (v1, v2, v3, v4, v5)), hln⟩ : VLn)]).map (·.1) = linesOf pre ++ linesTo sh T' (k + 1)) := by
            show _ = _
            rw [List.map_append, HZM.out, linesTo_yes (by rw [hv'.out]; exact hsec), hv'.out]
            simp
          have HSEC := Lib.hid (fun w => hasSec_any v1 v2 v3 v4 v5 (decide_eq_true hsec) w)
          clear hmem hz hjz hTk hat hv'
          gi_wp2_with (first
            | (gi_at_call 117; refine (CallsIn.inRound lp (callsW hFw.out HGET.out)).mono ?_; rintro e w1 ⟨rfl, g1⟩
               have KX1 := Lib.hid (KX.below (l := l) HSk.out.xs g1)
               have HB1 := Lib.hid (HBk.out.later g1)
               have HJ1 := Lib.hid (HJ.out zs wr w1 none HZJ.out (grown_of_below g1) (fun _ e => by cases e))
               have hx1 : X < w1.heap.size := Nat.lt_of_lt_of_le HSk.out.xs g1.size
               clear g1)
            | (gi_at_call 118; refine (CallsIn.inRound lp (callsW hFw.out (HSEC.out _))).mono ?_; rintro e w3 ⟨rfl, g3⟩
               have KXk := Lib.hid ((KX1.out.trans (KX.alloc hx1 (.cells #[.int .i64 v1, .int .i64 v2, .int .i64 v3, .int .i64 v4, .int .u32 v5] 24))).trans (KX.below (l := l) (by rw [World.size_alloc]; omega) g3))
               have HS3 := Lib.hid (HSk.out.kx KXk.out hX0 hnl (by omega) (by omega) (by omega) (by omega))
               have HB3 := Lib.hid ((HB1.out.alloc (.cells #[.int .i64 v1, .int .i64 v2, .int .i64 v3, .int .i64 v4, .int .u32 v5] 24)).later g3)
               have HO3 : Hid (ownX X w3 ≠ some Bx) := KXk.out.own Bx HBk.out.lt HOk.out
               obtain ⟨e1, e2, e3, e4, e5⟩ := cells5 ((Blk.new w1 24 #[.int .i64 v1, .int .i64 v2, .int .i64 v3, .int .i64 v4, .int .u32 v5]).later g3)
               have y3 : w3.cell? ⟨W.heap.size, 0, none⟩ = some (.func (.yield l) #[] #[]) := HS3.out.y.cell 0
               have HJ3 := Lib.hid (HJ.out zs _ w3 none (HJ.out zs w1 _ none HJ1.out (World.grownBy_alloc _ (.cells #[.int .i64 v1, .int .i64 v2, .int .i64 v3, .int .i64 v4, .int .u32 v5] 24) none) (fun _ e => by cases e)) (grown_of_below g3) (fun _ e => by cases e))
               clear g3
               obtain ⟨fn, tmps, assign, body, hy, hR⟩ := HY.out zs ⟨(sh, (k : Int), (v1, v2, v3, v4, v5)), hln⟩ w3 HJ3.out HZL.out
               unfold lnArg at hy
               dsimp only at hy))
          refine RoundIn.mono (RoundIn.any0 (F := F.inRound lp) hdp hR) ?_
          rintro e w4 ⟨rfl, hj4, hk4⟩
          have HN4 := Lib.hid hj4
          have HK4 := Lib.hid hk4
          clear hj4 hk4
          gi_wp2
          go_roundw
          case rel =>
            have hs4 := HS3.out.kx HK4.out hX0 hnl (by omega) (by omega) (by omega) (by omega)
            exact ⟨k + 1, by omega, by go_num, ⟨_, HN.out, HN4.out⟩, hs4, (HKk.out.trans KXk.out).trans HK4.out, HK4.out.same _ _ HB3.out (by omega) (by omega) (Or.inr HO3.out), HK4.out.own _ HB3.out.lt HO3.out⟩
          case measure => simp [intOf]; omega
        · have HN : Hid (linesTo sh T' (k + 1) = linesTo sh T' k) := linesTo_no (by rw [hv'.out]; exact hsec)
          have HSEC := Lib.hid (fun w => hasSec_any v1 v2 v3 v4 v5 (decide_eq_false hsec) w)
          clear hz hjz hTk hat hv' hsec
          gi_wp2_with (first
            | (gi_at_call 117; refine (CallsIn.inRound lp (callsW hFw.out HGET.out)).mono ?_; rintro e w1 ⟨rfl, g1⟩
               have KX1 := Lib.hid (KX.below (l := l) HSk.out.xs g1)
               have HB1 := Lib.hid (HBk.out.later g1)
               have HJ1 := Lib.hid (HJ.out zs wr w1 none HZJ.out (grown_of_below g1) (fun _ e => by cases e))
               have hx1 : X < w1.heap.size := Nat.lt_of_lt_of_le HSk.out.xs g1.size
               clear g1)
            | (gi_at_call 118; refine (CallsIn.inRound lp (callsW hFw.out (HSEC.out _))).mono ?_; rintro e w3 ⟨rfl, g3⟩
               have KXk := Lib.hid ((KX1.out.trans (KX.alloc hx1 (.cells #[.int .i64 v1, .int .i64 v2, .int .i64 v3, .int .i64 v4, .int .u32 v5] 24))).trans (KX.below (l := l) (by rw [World.size_alloc]; omega) g3))
               have HS3 := Lib.hid (HSk.out.kx KXk.out hX0 hnl (by omega) (by omega) (by omega) (by omega))
               have HB3 := Lib.hid ((HB1.out.alloc (.cells #[.int .i64 v1, .int .i64 v2, .int .i64 v3, .int .i64 v4, .int .u32 v5] 24)).later g3)
               have HO3 : Hid (ownX X w3 ≠ some Bx) := KXk.out.own Bx HBk.out.lt HOk.out
               obtain ⟨e1, e2, e3, e4, e5⟩ := cells5 ((Blk.new w1 24 #[.int .i64 v1, .int .i64 v2, .int .i64 v3, .int .i64 v4, .int .u32 v5]).later g3)
               have y3 : w3.cell? ⟨W.heap.size, 0, none⟩ = some (.func (.yield l) #[] #[]) := HS3.out.y.cell 0
               have HJ3 := Lib.hid (HJ.out zs _ w3 none (HJ.out zs w1 _ none HJ1.out (World.grownBy_alloc _ (.cells #[.int .i64 v1, .int .i64 v2, .int .i64 v3, .int .i64 v4, .int .u32 v5] 24) none) (fun _ e => by cases e)) (grown_of_below g3) (fun _ e => by cases e))
               clear g3))
          refine ⟨fun _ h => (by cases h), ?_⟩
          gi_wp2
          go_roundw
          case rel => exact ⟨k + 1, by omega, by go_num, ⟨zs, by rw [HN.out]; exact HZM.out, HJ3.out⟩, HS3.out, HKk.out.trans KXk.out, HB3.out, HO3.out⟩
          case measure => simp [intOf]; omega
      · obtain rfl : k = ll * 8 := by omega
        gi_wp2
        obtain ⟨zs, hz, hjz⟩ := HZ.out
        have hKb := HKk.out
        have hSb := HS.out
        refine ⟨⟨hKb.size, fun i o hi ho hf => hKb.same i o ho (by omega) (by omega) (Or.inl hf)⟩, ⟨⟨hKb.os, hKb.tape, hKb.output, hKb.size, fun i hi => ?_⟩, ?_⟩, ⟨zs, ?_, hjz⟩, HSk.out⟩
        · obtain ⟨o, ho⟩ : ∃ o, V.heap[i]? = some o := ⟨_, Array.getElem?_eq_getElem (Nat.lt_of_lt_of_le hi hSb.data.size)⟩
          rw [ho]
          exact hKb.same i o ho (by omega) (by omega) (Or.inr (hSb.low i hi))
        · rw [show V.heap[W.heap.size + 1]? = _ from hSb.m]
          exact hKb.same _ _ hSb.m (by omega) (by omega) (Or.inr hSb.om)
        · rw [HSN.out, hz]
          unfold tabLines
          rw [HTL.out]
  case done =>
    rintro D xs V hD rfl ⟨⟨ys, hys, hJy⟩, hSt⟩ hK
    gi_wp2
    refine ⟨by simp, .inl ⟨_, _, rfl, run_takeDeferred hK, ?_⟩⟩
    exact ⟨_, results_none rfl _ _ _, ⟨_, rfl⟩, ys, hys, HJ.out ys V _ (some D) hJy (grownBy_putObj' _ D (.deferred none)) (fun r e => by cases e; exact ⟨by omega, _, hK, rfl⟩)⟩
  case stop =>
    rintro D c' pre V _ _ h _
    exact h.elim
end Go.Proofs.YtlljcdmblmkblaaGreat
namespace Go.Proofs.YtlljcdmblmkblaaGreat
open Go.RowKit Go.Shelf
attribute [local go_sem] Oper.semAt_some
set_option linter.unusedVariables false

/-- A row of n ints of one's own. -/
def IRow (w : World) (b n : Nat) (f : Nat → Int) : Prop := ∃ cs : Array Value, Blk w b 3 cs ∧ cs.size = n ∧ ∀ j, j < n → cs[j]? = some (.int .i64 (f j))
theorem IRow.lt {w : World} {b n : Nat} {f : Nat → Int} (h : IRow w b n f) : b < w.heap.size := by
  obtain ⟨cs, h1, _⟩ := h
  exact h1.lt
theorem IRow.later {w w' : World} {b n : Nat} {f : Nat → Int} (h : IRow w b n f) (hb : Below w.heap.size w w') : IRow w' b n f := by
  obtain ⟨cs, h1, h2⟩ := h
  exact ⟨cs, h1.later hb, h2⟩
theorem IRow.kept {w w' : World} {b n : Nat} {f : Nat → Int} {row : Option Nat} (h : IRow w b n f) (hg : w.grownBy w' row) (hne : some b ≠ row) : IRow w' b n f := by
  obtain ⟨cs, h1, h2⟩ := h
  exact ⟨cs, h1.kept hg hne, h2⟩
theorem IRow.alloc {w : World} {b n : Nat} {f : Nat → Int} (h : IRow w b n f) (o : Obj) : IRow (w.alloc o) b n f := h.kept (World.grownBy_alloc w o none) (by simp)
theorem IRow.cell {w : World} {b n : Nat} {f : Nat → Int} (h : IRow w b n f) {j : Nat} (hj : j < n) : w.cell? ⟨b, j, none⟩ = some (.int .i64 (f j)) := by
  obtain ⟨cs, h1, _, h3⟩ := h
  rw [h1.cell]
  exact h3 j hj
theorem IRow.free {w : World} {b n : Nat} {f : Nat → Int} (h : IRow w b n f) (j : Nat) : w.frozen? ⟨b, j, none⟩ = false := by
  obtain ⟨cs, h1, _⟩ := h
  exact h1.free j
theorem IRow.set {w : World} {b n : Nat} {f : Nat → Int} (h : IRow w b n f) {j : Nat} (hj : j < n) (x : Int) : IRow (w.setCell ⟨b, j, none⟩ (.int .i64 x)) b n (fun i => if i = j then x else f i) := by
  obtain ⟨cs, h1, h2, h3⟩ := h
  refine ⟨_, h1.set j _, by rw [Array.size_setIfInBounds]; exact h2, fun i hi => ?_⟩
  rw [Array.getElem?_setIfInBounds]
  dsimp only
  by_cases e : j = i
  · subst e
    rw [if_pos rfl, if_pos (by omega), if_pos rfl]
  · rw [if_neg e, if_neg (show ¬ i = j by omega)]
    exact h3 i hi
theorem IRow.congr {w : World} {b n : Nat} {f g : Nat → Int} (h : IRow w b n f) (e : ∀ j, j < n → f j = g j) : IRow w b n g := by
  obtain ⟨cs, h1, h2, h3⟩ := h
  exact ⟨cs, h1, h2, fun j hj => by rw [h3 j hj, e j hj]⟩
theorem IRow.ownI {β : Type} (B b n : Nat) (f : β → Nat → Int) : OwnFrom B (fun s W => IRow W b n (f s)) := fun s X Y row hs hg hr => by
  obtain ⟨cs, h1, h2⟩ := hs
  refine ⟨cs, h1.kept hg fun e' => ?_, h2⟩
  obtain ⟨_, o, ho, hf⟩ := hr b e'.symm
  rw [show X.heap[b]? = _ from h1] at ho
  cases ho
  cases hf
theorem info_i : (Tryz.prog.info? 3).map (fun i => (i.zero, i.size, i.bytes)) = some (some (.int .i64 0), 1, 8) := by kernel_rfl
def zerosI (n : Nat) : Array Value := madeCells #[.int .i64 0] n
theorem make_i (n : Nat) (hn : n ≤ 100000) (w : World) : (Instr.makeSlice 39 (.int .i64 n) (.int .i64 n)).run Tryz.prog w = .ok (.slice (some ⟨w.heap.size, 0, none⟩) n n) (w.alloc (.cells (zerosI n) 3)) := by
  obtain ⟨i0, hi, hz0, hz1, hz2⟩ := info_parts info_i
  have := run_make (P := Tryz.prog) w 39 3 i0 (.int .i64 0) Tryz.underlying39 hi hz0 .i64 .i64 n n (by omega) (Int.le_refl _) (by rw [hz2]; omega) (by omega)
  rw [hz1, Int.toNat_natCast, Nat.mul_one] at this
  exact this
theorem IRow.made (w : World) (n : Nat) : IRow (w.alloc (.cells (zerosI n) 3)) w.heap.size n (fun _ => 0) := by
  refine ⟨_, Blk.new w _ _, size_madeCells _ _, fun j hj => ?_⟩
  have e : (zerosI n).toList = List.replicate n (.int .i64 0) := toList_madeCells_one _ _
  rw [← Array.getElem?_toList, e, List.getElem?_replicate, if_pos hj]
theorem run_max0 (P : Program) (ts : Array TypeId) (t : TypeId) (x y : Int) (w : World) : (Builtin.max_ ts t #[.int .i64 x, .int .i64 y]).run P w = .ok (.int .i64 (if x < y then y else x)) w := by
  simp [Builtin.max_, Builtin.max2]

set_option maxRecDepth 20000 in
set_option maxHeartbeats 1600000 in
theorem addSteps_any (w : World) (b n : Nat) (f : Nat → Int) (s c : Int) (h : IRow w b n f) (hf : ∀ j, -1000000000 ≤ f j ∧ f j ≤ 1000000000) (hn : n ≤ 65536) (hs : 0 ≤ s ∧ s ≤ 65536) (hc : 1 ≤ c ∧ c ≤ 65536) :
    Calls Tryz.prog 93 #[.slice (some ⟨b, 0, none⟩) n n, .int .i64 s, .int .i64 c] w fun e w' => (∃ v, e = .returned v) ∧ IRow w' b n (fun j => f j + stS (s, c) j) ∧ w.grownBy w' (some b) := by
  obtain ⟨S, rfl⟩ : ∃ S : Nat, s = S := ⟨s.toNat, by omega⟩
  obtain ⟨C, rfl⟩ : ∃ C : Nat, c = C := ⟨c.toNat, by omega⟩
  have HR := Lib.hid h
  have HF := Lib.hid hf
  have h1 : ¬ (C : Int) < 1 := by omega
  by_cases hsn : n ≤ S
  · have HC : Hid (IRow w b n (fun j => f j + stS ((S : Int), (C : Int)) j)) := h.congr fun j hj => by
      unfold stS
      dsimp only
      rw [if_neg (by omega), if_neg (by omega)]
      omega
    clear h hf
    go_enter Tryz.func93, Tryz.ntmps93
    go_wp2
    refine bodyPost_ret (results_none rfl _ _ _) rfl ?_
    exact ⟨⟨_, rfl⟩, HC.out, rfl, rfl, rfl, Nat.le_refl _, fun _ _ _ => rfl⟩
  · have hlt : S < n := by omega
    have hcS := h.cell hlt
    have hfS := h.free S
    have hmax : ∀ w : World, (Builtin.max_ #[3, 3] 3 #[.int .i64 S, .int .i64 0]).run Tryz.prog w = .ok (.int .i64 S) w := fun w => by rw [run_max0, if_neg (by omega)]
    have hbS := hf S
    have e1 : IntKind.i64.wrap (f S + 1) = f S + 1 := by rw [IntKind.wrap_i64] <;> omega
    have e1' : wrap64 (f S + 1) = f S + 1 := by unfold wrap64; omega
    have hb := h.lt
    have hset := h.set hlt (f S + 1)
    have e2 : IntKind.i64.wrap ((n : Int) - C) = (n : Int) - C := by rw [IntKind.wrap_i64] <;> omega
    obtain ⟨FS, HFS⟩ := named (f S)
    by_cases he : S + C < n
    · obtain ⟨E, HE⟩ := named (S + C)
      have e3 : IntKind.i64.wrap ((S : Int) + C) = (E : Int) := by rw [← HE.out, IntKind.wrap_i64] <;> omega
      have hEl : E < n := by rw [← HE.out]; exact he
      have hES : E ≠ S := by rw [← HE.out]; omega
      have hE0 : ¬ (E : Int) ≤ 0 := by rw [← HE.out]; omega
      have hc2 := hset.cell hEl
      have hf2 := hset.free E
      rw [if_neg hES] at hc2
      have hbE := hf E
      have e4 : IntKind.i64.wrap (f E - 1) = f E - 1 := by rw [IntKind.wrap_i64] <;> omega
      have HOUT : Hid (IRow ((w.setCell ⟨b, S, none⟩ (.int .i64 (f S + 1))).setCell ⟨b, E, none⟩ (.int .i64 (f E - 1))) b n (fun j => f j + stS ((S : Int), (C : Int)) j)) := (hset.set hEl (f E - 1)).congr fun j hj => by
        have := HE.out
        unfold stS
        dsimp only
        by_cases x1 : j = E
        · subst x1
          rw [if_pos rfl, if_neg (by omega), if_pos (by omega)]
          omega
        · rw [if_neg x1]
          by_cases x2 : j = S
          · subst x2
            rw [if_pos rfl, if_pos rfl, if_neg (by omega)]
            omega
          · rw [if_neg x2, if_neg (by omega), if_neg (by omega)]
            omega
      have HGR : Hid (∀ u v, w.grownBy ((w.setCell ⟨b, S, none⟩ u).setCell ⟨b, E, none⟩ v) (some b)) := fun u v => (grownBy_setCell4 _ _ _ _).trans (grownBy_setCell4 _ _ _ _)
      clear h hf hset
      go_enter Tryz.func93, Tryz.ntmps93
      go_wp2
      go_end0
      exact ⟨⟨_, rfl⟩, HOUT.out, HGR.out _ _⟩
    · have n1 : ¬ (S : Int) < (n : Int) - C := by omega
      have n2 : ¬ (n : Int) ≤ 0 := by omega
      have HOUT : Hid (IRow (w.setCell ⟨b, S, none⟩ (.int .i64 (f S + 1))) b n (fun j => f j + stS ((S : Int), (C : Int)) j)) := hset.congr fun j hj => by
        unfold stS
        dsimp only
        by_cases x2 : j = S
        · subst x2
          rw [if_pos rfl, if_pos rfl, if_neg (by omega)]
          omega
        · rw [if_neg x2, if_neg (by omega), if_neg (by omega)]
          omega
      clear h hf hset
      go_enter Tryz.func93, Tryz.ntmps93
      go_wp2
      go_end0
      exact ⟨⟨_, rfl⟩, HOUT.out, grownBy_setCell4 _ _ _ _⟩
theorem within0 (n a b : Int) {R : Bool} (h : decide (a ≤ n ∧ n ≤ b) = R) (w : World) : Calls Tryz.prog 92 #[.int .i64 n, .int .i64 a, .int .i64 b] w fun e w' => e = .returned (.bool R) ∧ w = w' := by
  by_cases h1 : a ≤ n
  · by_cases h2 : n ≤ b
    · obtain rfl : R = true := by rw [← h]; exact decide_eq_true ⟨h1, h2⟩
      clear h
      go_enter Tryz.func92, Tryz.ntmps92
      go_wp2
      go_ret
      exact ⟨rfl, rfl⟩
    · obtain rfl : R = false := by rw [← h]; exact decide_eq_false fun h => h2 h.2
      clear h
      go_enter Tryz.func92, Tryz.ntmps92
      go_wp2
      go_ret
      exact ⟨rfl, rfl⟩
  · obtain rfl : R = false := by rw [← h]; exact decide_eq_false fun h => h1 h.1
    clear h
    go_enter Tryz.func92, Tryz.ntmps92
    go_wp2
    go_ret
    exact ⟨rfl, rfl⟩
/-- A right meta's tables. -/
def RightX (T : Tb) (S : List Sh) : Prop := ∃ c, (∃ m, rightT T m c) ∧ ∀ d ∈ S, ∃ m, rightT (shT d) m c
theorem tab_ok {w : World} {a : Option Addr} {len cap : Nat} {T : Tb} (h : Tab w a len cap T) {m c : Int} (hr : rightT T m c) {sh : Int} (h1 : -1 ≤ sh) (h2 : sh < 1000) : TxOk w (sh, a, len, cap, T) :=
  ⟨h, right_lines hr h.lens.2.2.2 ⟨h1, h2⟩, by rw [← h.lens.1]; exact hr.2.2.2.1, h1, h2⟩
theorem shX_ok {w : World} {a : Option Addr} {len : Nat} {S : List Sh} (h : ShsR w a len S) (hr : ∀ d ∈ S, ∃ m c, rightT (shT d) m c) : ∀ n, n ≤ S.length → n ≤ 1000 → ∀ x ∈ shX S n, TxOk w x := fun n hn hn2 x hx => by
  unfold shX at hx
  obtain ⟨i, hi, rfl⟩ := List.mem_map.1 hx
  have hi' := List.mem_range.1 hi
  have hl := h.len
  obtain ⟨b, off, nm, sz, al, ll, cl, T, _, hSi, _, _, _, hT⟩ := h.at i (by omega)
  obtain ⟨m, c, hr'⟩ := hr _ (List.mem_of_getElem? hSi)
  have e : S.getD i default = (nm, sz, al, ll, cl, T) := by rw [List.getD_eq_getElem?_getD, hSi]; rfl
  rw [e]
  exact tab_ok hT hr' (by omega) (by omega)
theorem tabsX_ok {w : World} {a0 : Option Addr} {n0 c0 : Nat} {T : Tb} {sa : Option Addr} {sn : Nat} {S : List Sh} (hT : Tab w a0 n0 c0 T) (hS : ShsR w sa sn S) (hR : RightX T S) (hsn : sn ≤ 900) : ∀ x ∈ tabsX a0 n0 c0 T S, TxOk w x := fun x hx => by
  obtain ⟨c, ⟨m, h1⟩, h2⟩ := hR
  rcases List.mem_cons.1 hx with rfl | hx
  · exact tab_ok hT h1 (by omega) (by omega)
  · exact shX_ok hS (fun d hd => by obtain ⟨m, h⟩ := h2 d hd; exact ⟨m, c, h⟩) S.length (Nat.le_refl _) (by rw [hS.len]; omega) x hx
theorem lines_is {w : World} {a0 : Option Addr} {n0 c0 : Nat} {T : Tb} {S : List Sh} {v : List (VTx w)} (hv : v.map (·.1) = tabsX a0 n0 c0 T S) : linesOf v = allLines T (S.map shT) := by
  have e1 : linesOf v = (v.map (·.1)).flatMap fun x => tabLines x.1 x.2.2.2.2 := by
    unfold linesOf
    rw [List.flatMap_map]
  rw [e1, hv]
  unfold tabsX allLines shotsTo
  rw [List.flatMap_cons, List.length_map]
  congr 1
  unfold shX
  rw [List.flatMap_map]
  rw [List.flatMap_def, List.flatMap_def]
  congr 1
  refine List.map_congr_left fun i hi => ?_
  have hi' := List.mem_range.1 hi
  unfold tbNth
  have e1 : (S.map shT).getD i [] = shT S[i] := by rw [List.getD_eq_getElem?_getD, List.getElem?_map, List.getElem?_eq_getElem hi']; rfl
  have e2 : S.getD i default = S[i] := by rw [List.getD_eq_getElem?_getD, List.getElem?_eq_getElem hi']; rfl
  rw [e1, e2]
theorem lnOk_all {w : World} (v : List (VTx w)) : ∀ x ∈ linesOf v, LnOk x := fun x hx => by
  obtain ⟨t, ht, hx⟩ := List.mem_flatMap.1 hx
  exact t.2.2.1 x hx
end Go.Proofs.YtlljcdmblmkblaaGreat
namespace Go.Proofs.YtlljcdmblmkblaaGreat
open Go.RowKit Go.Shelf
attribute [local go_sem] Oper.semAt_some
set_option linter.unusedVariables false

/-- The state between two lines. -/
structure OfS (w V : World) (H R X n : Nat) (L : List Sg) : Prop where
  row : IRow V R n (stepS L)
  box : Blk V X 39 #[.slice (some ⟨R, 0, none⟩) n n]
  below : Below w.heap.size w V
theorem OfS.own {β : Type} {w : World} {H R X n B : Nat} {L : β → List Sg} (hB : w.heap.size ≤ B) : OwnFrom B (fun s V => OfS w V H R X n (L s)) := fun s V V' row hs hg hr => by
  refine ⟨IRow.ownI (β := β) B R n (fun s => stepS (L s)) s V V' row hs.row hg hr, (Own.from (Blk.own (β := β) X 39 (fun _ => #[.slice (some ⟨R, 0, none⟩) n n])) B) s V V' row hs.box hg hr, hs.below.trans ⟨hg.os, hg.tape, hg.output, hg.size, fun k hk => hg.block k (Nat.lt_of_lt_of_le hk hs.below.size) fun e' => by have := (hr k e'.symm).1; omega⟩⟩
theorem OfS.ownX {w V : World} {H R X n : Nat} {L : List Sg} (h : OfS w V H R X n L) : ownX X V = some R := ownX_is (h.box.cell 0)
theorem lines_len {w : World} (v : List (VTx w)) : (linesOf v).length ≤ 4096 * v.length := linesOf_len v

theorem of_steps0 (w : World) (cs : Array Value) (n : Nat) (hn : n ≤ 65536) :
    Calls Tryz.prog 93 #[.slice (some ⟨w.heap.size + 1, 0, none⟩) n n, .int .i64 0, .int .i64 2] (((w.alloc (.cells cs 41)).alloc (.cells (zerosI n) 3)).alloc (.cells #[.slice (some ⟨w.heap.size + 1, 0, none⟩) n n] 39)) fun e A4 =>
      (∃ v, e = .returned v) ∧ Blk A4 w.heap.size 41 cs ∧ IRow A4 (w.heap.size + 1) n (stepS [(0, 2)]) ∧ Blk A4 (w.heap.size + 1 + 1) 39 #[.slice (some ⟨w.heap.size + 1, 0, none⟩) n n] ∧ Below w.heap.size w A4 ∧ w.heap.size + 3 ≤ A4.heap.size := by
  have hm3 := ((Blk.new w 41 cs).alloc (.cells (zerosI n) 3)).alloc (.cells #[.slice (some ⟨w.heap.size + 1, 0, none⟩) n n] 39)
  have hr3 := (IRow.made (w.alloc (.cells cs 41)) n).alloc (.cells #[.slice (some ⟨w.heap.size + 1, 0, none⟩) n n] 39)
  have hx3 := Blk.new ((w.alloc (.cells cs 41)).alloc (.cells (zerosI n) 3)) 39 #[.slice (some ⟨w.heap.size + 1, 0, none⟩) n n]
  have hb3 : Below w.heap.size w (((w.alloc (.cells cs 41)).alloc (.cells (zerosI n) 3)).alloc (.cells #[.slice (some ⟨w.heap.size + 1, 0, none⟩) n n] 39)) := (((Below.refl _ w).alloc (Nat.le_refl _) _).alloc (by simp) _).alloc (by simp; omega) _
  have hs3 : (((w.alloc (.cells cs 41)).alloc (.cells (zerosI n) 3)).alloc (.cells #[.slice (some ⟨w.heap.size + 1, 0, none⟩) n n] 39)).heap.size = w.heap.size + 3 := by simp
  simp only [World.size_alloc] at hr3 hx3
  obtain ⟨W3, hW3⟩ : ∃ W3, ((w.alloc (.cells cs 41)).alloc (.cells (zerosI n) 3)).alloc (.cells #[.slice (some ⟨w.heap.size + 1, 0, none⟩) n n] 39) = W3 := ⟨_, rfl⟩
  rw [hW3] at hm3 hr3 hx3 hb3 hs3 ⊢
  clear hW3
  refine (addSteps_any W3 _ n (fun _ => 0) 0 2 hr3 (fun _ => by omega) hn (by omega) (by omega)).mono ?_
  rintro e A4 ⟨hv, hr4, hg4⟩
  have hs4 := hg4.size
  exact ⟨hv, hm3.kept hg4 (by simp), hr4.congr fun j _ => by simp [stepS], hx3.kept hg4 (by simp), hb3.grown hg4 (by omega) (fun k e => by cases e; omega), by omega⟩

set_option maxRecDepth 100000 in
set_option maxHeartbeats 4000000 in
theorem of_any (w : World) (c s : Int) (bk : ByteArray) (a0 : Option Addr) (n0 c0 : Nat) (sa : Option Addr) (sn sc : Nat) (a5 : Option Addr) (n5 c5 : Nat) (a6 : Option Addr) (n6 c6 : Nat) (T : Tb) (S : List Sh)
    (hT : Tab w a0 n0 c0 T) (hS : ShsR w sa sn S) (hR : RightX T S) (hsn : sn ≤ 900) (n : Nat) (hn : n ≤ 65536) :
    Calls Tryz.prog 70 #[.agg #[.int .i64 c, .int .i64 s, .string bk, .slice a0 n0 c0, .slice sa sn sc, .slice a5 n5 c5, .slice a6 n6 c6], .int .i64 n] w fun e w' => ∃ R, e = .returned (.slice (some ⟨R, 0, none⟩) n n) ∧ w.heap.size ≤ R ∧ IRow w' R n (ofL (allLines T (S.map shT))) ∧ Below w.heap.size w w' := by
  obtain ⟨v, hv⟩ := vtx_of (tabsX_ok hT hS hR hsn)
  have hli := lines_is hv
  have HV := Lib.hid hv
  have HS := Lib.hid hS
  have HLI := Lib.hid hli
  have HLN := Lib.hid (lnOk_all v)
  have hvl : v.length = sn + 1 := by
    have := congrArg List.length hv
    rw [List.length_map] at this
    rw [this]
    simp [tabsX, shX, hS.len]
  have hmk := make_i n (by omega)
  have hwi : decide (0 ≤ (n : Int) ∧ (n : Int) ≤ 65536) = true := decide_eq_true (by omega)
  have HWI := Lib.hid (fun w => within0 n 0 65536 hwi w)
  clear hv hli hwi hT hR
  refine (callsIn_wide (n := 9)).1 (callsIn_of_wp_marks Tryz.func70 rfl trivial (wpIn_wide.2 ?_) rfl)
  simp only [Tryz.ntmps70, List.size_toArray, List.length_cons, List.length_nil, Nat.reduceAdd, Nat.reduceSub, Array.replicate_succ, Array.replicate_zero, List.push_toArray, List.append_toArray, List.nil_append, List.cons_append]
  go_wp2_with (first
    | (go_at_call 92; refine (HWI.out _).mono ?_; rintro e w1 ⟨rfl, rfl⟩)
    | (go_at_call 93
       refine (of_steps0 w (mtC c s bk a0 n0 c0 sa sn sc (.slice a5 n5 c5) (.slice a6 n6 c6)) n hn).mono ?_
       rintro e A4 ⟨⟨vv, rfl⟩, hm4, hr4, hx4, hb4, hs4⟩
       obtain ⟨m0, m1, m2, m3, m4, m5, m6⟩ := mt_cells hm4
       have HR4 := Lib.hid hr4
       have HX4 := Lib.hid hx4
       have HB4 := Lib.hid hb4
       have hlt4 : w.heap.size < A4.heap.size := by omega
       clear hm4 hr4 hx4 hb4)
    | (go_at_call 94; refine (lines_any _ _ _ _ _ _ _ _ _ _ _ _ _ _ _ _).mono ?_; rintro e w5 ⟨rfl, rfl⟩))
  have hM5 := Blk.new A4 41 (mtC c s bk a0 n0 c0 sa sn sc (.slice a5 n5 c5) (.slice a6 n6 c6))
  have hb5 : Below w.heap.size w (A4.alloc (.cells (mtC c s bk a0 n0 c0 sa sn sc (.slice a5 n5 c5) (.slice a6 n6 c6)) 41)) := HB4.out.alloc HB4.out.size _
  have hz5 : (A4.alloc (.cells (mtC c s bk a0 n0 c0 sa sn sc (.slice a5 n5 c5) (.slice a6 n6 c6)) 41)).heap.size = A4.heap.size + 1 := World.size_alloc ..
  have hOF : OfS w (A4.alloc (.cells (mtC c s bk a0 n0 c0 sa sn sc (.slice a5 n5 c5) (.slice a6 n6 c6)) 41)) 0 (w.heap.size + 1) (w.heap.size + 1 + 1) n ((0, 2) :: ([] : List VLn).map fun y => sgOf y.1) :=
    ⟨HR4.out.alloc _, HX4.out.alloc _, hb5⟩
  have HOF := Lib.hid hOF
  clear hOF
  obtain ⟨A5, hA5⟩ : ∃ A5, A4.alloc (.cells (mtC c s bk a0 n0 c0 sa sn sc (.slice a5 n5 c5) (.slice a6 n6 c6)) 41) = A5 := ⟨_, rfl⟩
  rw [hA5] at hM5 hb5 hz5 HOF ⊢
  clear hA5
  refine range_x (w.heap.size + 1 + 1) (by omega) (gf := 115) (lb := #[.pointer (some ⟨A4.heap.size, 0, none⟩)]) rfl (enters_of Tryz.func115 (by kernel_rfl) rfl)
    (lines_seq (w.heap.size + 1 + 1) A4.heap.size w A5 c s bk a0 n0 c0 sa sn sc a5 n5 c5 a6 n6 c6 T S HS.out v HV.out hb5 hM5 (by omega) (by omega) (by omega) (by omega)
      (fun k hk => by rw [HOF.out.ownX] at hk; cases hk; omega)) (fun _ => rfl)
    (fun ys V => OfS w V 0 (w.heap.size + 1) (w.heap.size + 1 + 1) n ((0, 2) :: ys.map fun y => sgOf y.1)) (OfS.own (by omega)) HOF.out
    (fun x a' V => ∃ Bx, Blk V Bx 58 #[.int .i64 x.1.1, .int .i64 x.1.2.1, .int .i64 x.1.2.2.1, .int .i64 x.1.2.2.2.1, .int .i64 x.1.2.2.2.2.1, .int .i64 x.1.2.2.2.2.2.1, .int .u32 x.1.2.2.2.2.2.2] ∧ a' = { tmps := #[.agg #[.int .i64 c, .int .i64 s, .string bk, .slice a0 n0 c0, .slice sa sn sc, .slice a5 n5 c5, .slice a6 n6 c6], .int .i64 n, .pointer (some ⟨w.heap.size, 0, none⟩), undef, .slice none 0 0, .pointer (some ⟨w.heap.size + 1 + 1, 0, none⟩),
      .pointer (some ⟨Bx, 0, none⟩), undef, .int .i64 n, .bool true, .bool false, .int .i64 n, .slice (some ⟨w.heap.size + 1, 0, none⟩) n n, .slice (some ⟨w.heap.size + 1, 0, none⟩) n n, vv, .agg #[.int .i64 c, .int .i64 s, .string bk, .slice a0 n0 c0, .slice sa sn sc, .slice a5 n5 c5, .slice a6 n6 c6],
      .func (.func 115) #[] #[.pointer (some ⟨A4.heap.size, 0, none⟩)], .agg #[.int .i64 x.1.1, .int .i64 x.1.2.1, .int .i64 x.1.2.2.1, .int .i64 x.1.2.2.2.1, .int .i64 x.1.2.2.2.2.1, .int .i64 x.1.2.2.2.2.2.1, .int .u32 x.1.2.2.2.2.2.2], undef, undef, undef, undef, undef, undef, undef, undef, undef, undef, undef, undef, undef, undef, undef, undef, undef, undef, undef, undef, undef, undef, undef, undef, undef], defers := [] })
    (fun x a' u V V' row h hg hr => by
      obtain ⟨Bx, h2, h5⟩ := h
      refine ⟨Bx, h2.kept hg fun e' => ?_, h5⟩
      obtain ⟨_, o, ho, hf⟩ := hr Bx e'.symm
      rw [show V.heap[Bx]? = _ from h2] at ho
      cases ho
      cases hf) ?assign ?body ?done
  case assign =>
    intro F lp pre x V K hF hro hi hsz hK
    have e : ∀ A : Array Value, ((#[17] : Array Tmp).zip (lnArg x)).foldl (fun t (p, v) => t.setIfInBounds p v) A = A.setIfInBounds 17 (.agg #[.int .i64 x.1.1, .int .i64 x.1.2.1, .int .i64 x.1.2.2.1, .int .i64 x.1.2.2.2.1, .int .i64 x.1.2.2.2.2.1, .int .i64 x.1.2.2.2.2.2.1, .int .u32 x.1.2.2.2.2.2.2]) := fun A => by simp [lnArg]
    rw [e]
    clear e
    gi_wp2
    refine hK _ _ (KX.alloc hi.box.lt _) ⟨hi.row.alloc _, hi.box.alloc _, hi.below.alloc hi.below.size _⟩ ⟨_, Blk.new _ _ _, rfl⟩
  case body =>
    rintro F lp pre x a' V hF hro hi hsz ⟨Bx, hbx, rfl⟩ hlen
    obtain ⟨⟨sh, cl, k, st, ct, z, m⟩, hx⟩ := x
    have HLS : Hid ((0, 2) :: (pre ++ [(⟨(sh, cl, k, st, ct, z, m), hx⟩ : VLn)]).map (fun y => sgOf y.1) = ((0, 2) :: pre.map fun y => sgOf y.1) ++ [(st, ct)]) := by
      show _ = _
      rw [List.map_append]
      rfl
    obtain ⟨L', hL'⟩ := named ((0, 2) :: (pre ++ [(⟨(sh, cl, k, st, ct, z, m), hx⟩ : VLn)]).map (fun y => sgOf y.1))
    rw [hL'.out] at HLS ⊢
    obtain ⟨_, _, _, b1, b2, b3⟩ := hx
    dsimp only at b1 b2 b3 hbx ⊢
    have hbd : ∀ j, -1000000000 ≤ stepS ((0, 2) :: pre.map fun y => sgOf y.1) j ∧ stepS ((0, 2) :: pre.map fun y => sgOf y.1) j ≤ 1000000000 := fun j => by
      have := step_bound j ((0, 2) :: pre.map fun y => sgOf y.1)
      rw [List.length_cons, List.length_map] at this
      omega
    have HADD := Lib.hid (addSteps_any V _ n _ st ct hi.row hbd hn (by omega) (by omega))
    have HI := Lib.hid hi
    have x1 := hi.box.cell 0
    have y3 := hbx.cell 3
    have y4 := hbx.cell 4
    have hXlt := hi.box.lt
    have hfa : F.fn 93 := by rw [hF.out]; trivial
    clear hi hbd
    gi_wp2_with (gi_at_call 93; refine (CallsIn.inRound lp (callsW hF.out HADD.out)).mono ?_; rintro e V1 ⟨⟨v2, rfl⟩, hr1, hg1⟩)
    have ho := HI.out.ownX
    refine ⟨KX.grown hXlt hg1 (Or.inr ho.symm) (by simp) (fun k o e hk => ?_), ⟨?_, HI.out.box.kept hg1 (by simp), HI.out.below.grown hg1 HI.out.below.size (fun k e => by cases e; omega)⟩⟩
    · cases e
      obtain ⟨cs, hc, _⟩ := HI.out.row
      rw [show V.heap[w.heap.size + 1]? = _ from hc] at hk
      cases hk
      rfl
    · refine hr1.congr fun j _ => ?_
      rw [HLS.out, stepS_snoc]
  case done =>
    rintro D xs V hD hxs hi hK
    have hll : ∀ {α : Type} (g : Ln → α), xs.map (fun y => g y.1) = (allLines T (S.map shT)).map g := fun g => by
      rw [← HLI.out, ← hxs, List.map_map]
      rfl
    have hxl : xs.length ≤ 4096 * v.length := by
      have := congrArg List.length hxs
      rw [List.length_map] at this
      rw [this]
      exact linesOf_len v
    have hok : ∀ x ∈ ((0, 2) :: xs.map fun y => sgOf y.1 : List Sg), SgOk x := fun x hx => by
      rcases List.mem_cons.1 hx with rfl | hx
      · exact ⟨by decide, by decide⟩
      · obtain ⟨y, _, rfl⟩ := List.mem_map.1 hx
        obtain ⟨_, _, _, b1, b2, _⟩ := y.2
        exact ⟨by show 0 ≤ y.1.2.2.2.1; omega, by show 1 ≤ y.1.2.2.2.2.1; omega⟩
    have HOL : Hid (∀ j, cntS ((0, 2) :: xs.map fun y => sgOf y.1) j = ofL (allLines T (S.map shT)) j) := fun j => by
      unfold ofL
      rw [hll sgOf]
    have HC0 : Hid (cntS ((0, 2) :: xs.map fun y => sgOf y.1) 0 = stepS ((0, 2) :: xs.map fun y => sgOf y.1) 0) := cnt_zero _ hok
    have HCS : Hid (∀ k, cntS ((0, 2) :: xs.map fun y => sgOf y.1) (k + 1) = cntS ((0, 2) :: xs.map fun y => sgOf y.1) k + stepS ((0, 2) :: xs.map fun y => sgOf y.1) (k + 1)) := fun k => cnt_succ k _ hok
    have HBD : Hid (∀ j, (0 ≤ cntS ((0, 2) :: xs.map fun y => sgOf y.1) j ∧ cntS ((0, 2) :: xs.map fun y => sgOf y.1) j ≤ 1000000000) ∧ -1000000000 ≤ stepS ((0, 2) :: xs.map fun y => sgOf y.1) j ∧ stepS ((0, 2) :: xs.map fun y => sgOf y.1) j ≤ 1000000000) := fun j => by
      have h1 := cnt_bound j ((0, 2) :: xs.map fun y => sgOf y.1)
      have h2 := step_bound j ((0, 2) :: xs.map fun y => sgOf y.1)
      rw [List.length_cons, List.length_map] at h1 h2
      omega
    obtain ⟨L, hL⟩ := named ((0, 2) :: xs.map fun y => sgOf y.1)
    rw [hL.out] at HOL HC0 HCS HBD hi
    have HR := Lib.hid hi.row
    have HX := Lib.hid hi.box
    have HBB := Lib.hid hi.below
    have HK := Lib.hid hK
    clear hok hll hL hxl hxs hi hK
    go_wp2
    go_loopw [7] (fun i wr => ∃ j : Nat, 1 ≤ j ∧ (j ≤ n ∨ j = 1) ∧ i = .int .i64 j ∧ Hid (IRow wr (w.heap.size + 1) n (fun q => if q < j then cntS L q else stepS L q)) ∧ Hid (Blk wr (w.heap.size + 1 + 1) 39 #[.slice (some ⟨w.heap.size + 1, 0, none⟩) n n]) ∧ Hid (Below w.heap.size w wr) ∧ Hid (wr.heap[D]? = some (.deferred (some []))))
      (fun i _ => n - (intOf i).toNat)
    case atStart =>
      refine ⟨1, Nat.le_refl _, Or.inr rfl, rfl, HR.out.congr fun q _ => ?_, HX.out, HBB.out, HK.out⟩
      by_cases h0 : q = 0
      · subst h0
        rw [if_pos (by omega)]
        exact HC0.out.symm
      · rw [if_neg (by omega)]
    case round =>
      obtain ⟨j, hj1, hj2, rfl, HRj, HXj, HBj, HKj⟩ := hrel
      have x1 : wr.cell? ⟨w.heap.size + 1 + 1, 0, none⟩ = some (.slice (some ⟨w.heap.size + 1, 0, none⟩) n n) := HXj.out.cell 0
      by_cases hlt : j < n
      · obtain ⟨K, hKj⟩ : ∃ K, Hid (K + 1 = j) := ⟨j - 1, by show j - 1 + 1 = j; omega⟩
        have hKn : K < n := by have := hKj.out; omega
        have e1 : IntKind.i64.wrap ((j : Int) - 1) = (K : Int) := by have := hKj.out; rw [IntKind.wrap_i64] <;> omega
        have c1 := HRj.out.cell hlt
        have c2 := HRj.out.cell hKn
        have f1 := HRj.out.free j
        rw [if_neg (Nat.lt_irrefl j)] at c1
        rw [if_pos (by have := hKj.out; omega)] at c2
        have hb1 := (HBD.out j).2
        have hb2 := (HBD.out K).1
        have hrl := HRj.out.lt
        have HN : Hid (cntS L j = stepS L j + cntS L K) := by
          have := HCS.out K
          rw [hKj.out] at this
          show _ = _
          omega
        have HSET := Lib.hid (fun x => HRj.out.set hlt x)
        obtain ⟨s1, hs1⟩ := named (stepS L j)
        obtain ⟨s2, hs2⟩ := named (cntS L K)
        rw [hs1.out] at c1 hb1 HN
        rw [hs2.out] at c2 hb2 HN
        have e2 : IntKind.i64.wrap (s1 + s2) = s1 + s2 := by rw [IntKind.wrap_i64] <;> omega
        have e2' : wrap64 (s1 + s2) = s1 + s2 := by unfold wrap64; omega
        go_wp2
        go_region
        all_goals go_wp2
        refine ⟨⟨j + 1, by omega, by omega, by go_num, (HSET.out (s1 + s2)).congr fun q _ => ?_, HXj.out.other (by omega) _, (HBj.out.setCell (p := ⟨w.heap.size + 1, j, none⟩) (by show w.heap.size ≤ w.heap.size + 1; omega) _).drew, ?_⟩, by simp [intOf]; omega⟩
        · have h1 := HN.out
          by_cases x1 : q = j
          · subst x1
            rw [if_pos rfl, if_pos (by omega), h1]
          · rw [if_neg x1]
            by_cases x2 : q < j
            · rw [if_pos x2, if_pos (by omega)]
            · rw [if_neg x2, if_neg (by omega)]
        · exact (Below.heap_setCell _ _ _ _ (by show D ≠ w.heap.size + 1; omega)).trans HKj.out
      · go_wp2
        refine ⟨by simp, .inl ⟨_, _, rfl, run_takeDeferred HKj.out, ?_⟩⟩
        exact ⟨_, results_tmp rfl _ _ _, w.heap.size + 1, rfl, by omega,
          IRow.ownI (β := Unit) 0 (w.heap.size + 1) n (fun _ => ofL (allLines T (S.map shT))) () wr _ (some D) (HRj.out.congr fun q hq => by rw [if_pos (by omega)]; exact HOL.out q) (grownBy_putObj' wr D (.deferred none)) (fun r e => by cases e; exact ⟨Nat.zero_le _, _, HKj.out, rfl⟩),
          HBj.out.trans (belowK_b (w := w) (Nat.le_refl _) wr D _ _ (by omega) HKj.out rfl rfl)⟩
end Go.Proofs.YtlljcdmblmkblaaGreat
namespace Go.Proofs.YtlljcdmblmkblaaGreat
open Go.RowKit Go.Shelf
attribute [local go_sem] Oper.semAt_some
set_option linter.unusedVariables false

theorem ln_rowed : Rowed Tryz.prog 55 58 7 56 lnV where
  under := Tryz.underlying55
  info := by
    have h : (Tryz.prog.info? 58).map (fun i => (i.zero.map (fun z => z.cells.size), i.size, i.bytes)) = some (some 7, 7, 56) := by kernel_rfl
    obtain ⟨i, hi, he⟩ := Option.map_eq_some_iff.1 h
    simp only [Prod.mk.injEq] at he
    obtain ⟨z, hz, hzs⟩ := Option.map_eq_some_iff.1 he.1
    exact ⟨i, z, hi, hz, he.2.1, he.2.2, hzs⟩
  pos := by decide
  small := by decide
  len := fun _ => rfl
  one := fun d u hu => by
    simp only [lnV, enV, List.mem_cons, List.not_mem_nil, or_false] at hu
    rcases hu with rfl | rfl | rfl | rfl | rfl | rfl | rfl <;> rfl
abbrev OwnLn (w : World) (base : Nat) (v : Value) (n : Nat) (l : List Ln) : Prop := OwnG lnV 58 7 w base v n l
theorem OwnG.ownF {α : Type} {cv : α → List Value} {e : TypeId} {sz : Nat} {w w' : World} {base n B : Nat} {v : Value} {l : List α} {row : Option Nat} (h : OwnG cv e sz w base v n l) (hg : w.grownBy w' row) (hr : ∀ r, row = some r → B ≤ r ∧ ∃ o : Obj, w.heap[r]? = some o ∧ o.isCells = false) : OwnG cv e sz w' base v n l :=
  h.kept' hg fun k hk e' => by
    obtain ⟨_, o, ho, hf⟩ := hr k e'
    have := h.cells k o hk ho
    rw [hf] at this
    cases this
/-- Between two lines. -/
def EaS (w V : World) (l : List Ln) : Prop := ∃ (a' : Option Addr) (c' : Nat), Blk V w.heap.size 55 #[.slice a' l.length c'] ∧ OwnLn V (w.heap.size + 1) (.slice a' l.length c') l.length l ∧ Below w.heap.size w V
theorem EaS.own {β : Type} {w : World} {B : Nat} {L : β → List Ln} (hB : w.heap.size ≤ B) : OwnFrom B (fun s V => EaS w V (L s)) := fun s V V' row hs hg hr => by
  obtain ⟨a', c', h1, h2, h3⟩ := hs
  exact ⟨a', c', (Own.from (Blk.own (β := β) w.heap.size 55 (fun s => #[.slice a' (L s).length c'])) B) s V V' row h1 hg hr, h2.ownF hg hr, h3.trans ⟨hg.os, hg.tape, hg.output, hg.size, fun k hk => hg.block k (Nat.lt_of_lt_of_le hk h3.size) fun e' => by have := (hr k e'.symm).1; omega⟩⟩
/-- One line more. -/
theorem eas_put {w V w3 : World} {l : List Ln} {a0 a' : Option Addr} {c0 c' : Nat} {x : Ln} {o : Obj} (hX : Blk V w.heap.size 55 #[.slice a0 l.length c0]) (hO : OwnLn V (w.heap.size + 1) (.slice a0 l.length c0) l.length l) (hB : Below w.heap.size w V) (hlt : w.heap.size < V.heap.size)
    (hO3 : OwnLn w3 (w.heap.size + 1) (.slice a' (l.length + 1) c') (l.length + 1) (l ++ [x])) (hg : (V.alloc o).grownBy w3 (Value.slice a0 l.length c0).ownBlock)
    (hat : (Value.slice a' (l.length + 1) c').ownBlock = (Value.slice a0 l.length c0).ownBlock ∨ (Value.slice a' (l.length + 1) c').ownBlock = some (V.alloc o).heap.size) :
    w3.cell? ⟨w.heap.size, 0, none⟩ = some (.slice a0 l.length c0) ∧ w3.frozen? ⟨w.heap.size, 0, none⟩ = false ∧ Hid (KX w.heap.size w.heap.size V (w3.setCell ⟨w.heap.size, 0, none⟩ (.slice a' (l.length + 1) c')) ∧ EaS w (w3.setCell ⟨w.heap.size, 0, none⟩ (.slice a' (l.length + 1) c')) (l ++ [x])) := by
  have hXa := hX.alloc o
  have hOa := hO.alloc o
  have hne : (Value.slice a0 l.length c0).ownBlock ≠ some w.heap.size := hO.low _ (Or.inl (by omega))
  have hX3 := hXa.kept hg (fun e => hne e.symm)
  have hne' : (Value.slice a' (l.length + 1) c').ownBlock ≠ some w.heap.size := hO3.low _ (Or.inl (by omega))
  refine ⟨hX3.cell 0, hX3.free 0, (KX.alloc hlt o).trans (KX.append (by rw [World.size_alloc]; omega) (hXa.cell 0) hg hne hOa.cells (hat.imp id fun e => ⟨_, e, Nat.le_refl _⟩) (fun k hk => (hO3.1.lt k hk).2)), a', c', ?_, ?_, ?_⟩
  · have := hX3.set 0 (.slice a' (l.length + 1) c')
    rw [List.length_append]
    exact this
  · rw [List.length_append]
    exact hO3.kept' (grownBy_setCell4 w3 w.heap.size 0 _) fun k hk e => by cases e; exact hne' hk
  · exact ((hB.alloc (by omega) o).grown hg (by rw [World.size_alloc]; omega) (fun k hk => by have := (hO.1.lt k hk).1; omega)).setCell (p := ⟨w.heap.size, 0, none⟩) (Nat.le_refl _) _

set_option maxRecDepth 100000 in
set_option maxHeartbeats 4000000 in
theorem appendSeq_any (M : Nat) (w0 w : World) (c s : Int) (bk : ByteArray) (a0 : Option Addr) (n0 c0 : Nat) (sa : Option Addr) (sn sc : Nat) (a5 : Option Addr) (n5 c5 : Nat) (a6 : Option Addr) (n6 c6 : Nat) (T : Tb) (S : List Sh)
    (hS : ShsR w0 sa sn S) (v : List (VTx w0)) (hv : v.map (·.1) = tabsX a0 n0 c0 T S) (hW : Below w0.heap.size w0 w) (hM : Blk w M 41 (mtC c s bk a0 n0 c0 sa sn sc (.slice a5 n5 c5) (.slice a6 n6 c6))) (hM0 : w0.heap.size ≤ M) (hvl : v.length ≤ 901) :
    Calls Tryz.prog 119 #[.slice none 0 0, .func (.func 115) #[] #[.pointer (some ⟨M, 0, none⟩)]] w fun e w' => ∃ (a' : Option Addr) (N c' : Nat), e = .returned (.slice a' N c') ∧ OwnLn w' w.heap.size (.slice a' N c') N (linesOf v) ∧ Below w.heap.size w w' := by
  have hMlt := hM.lt
  have HM := Lib.hid hM
  have HS := Lib.hid hS
  have HV := Lib.hid hv
  have HW := Lib.hid hW
  have hsz0 := hW.size
  clear hM hS hv hW
  refine (callsIn_wide (n := 9)).1 (callsIn_of_wp_marks Tryz.func119 rfl trivial (wpIn_wide.2 ?_) rfl)
  simp only [Tryz.ntmps119, List.size_toArray, List.length_cons, List.length_nil, Nat.reduceAdd, Nat.reduceSub, Array.replicate_succ, Array.replicate_zero, List.push_toArray, List.append_toArray, List.nil_append, List.cons_append]
  go_wp2
  have hX1 := Blk.new w 55 #[.slice none 0 0]
  have hb1 : Below w.heap.size w (w.alloc (.cells #[.slice none 0 0] 55)) := (Below.refl _ w).alloc (Nat.le_refl _) _
  have hz1 : (w.alloc (.cells #[.slice none 0 0] 55)).heap.size = w.heap.size + 1 := World.size_alloc ..
  have hE1 : EaS w (w.alloc (.cells #[.slice none 0 0] 55)) [] := ⟨none, 0, hX1, OwnG.none _ _ _ _ _, hb1⟩
  have hM1 := HM.out.alloc (.cells #[.slice none 0 0] 55)
  obtain ⟨A1, hA1⟩ : ∃ A1, w.alloc (.cells #[.slice none 0 0] 55) = A1 := ⟨_, rfl⟩
  rw [hA1] at hX1 hb1 hz1 hE1 hM1 ⊢
  clear hA1
  refine range_x w.heap.size (by omega) (gf := 115) (lb := #[.pointer (some ⟨M, 0, none⟩)]) rfl (enters_of Tryz.func115 (by kernel_rfl) rfl)
    (lines_seq w.heap.size M w0 A1 c s bk a0 n0 c0 sa sn sc a5 n5 c5 a6 n6 c6 T S HS.out v HV.out (HW.out.trans (hb1.mono hsz0)) hM1 hsz0 (by omega) (by omega) hM0
      (fun k hk => by rw [ownX_is (hX1.cell 0)] at hk; cases hk)) (fun _ => rfl)
    (fun ys V => EaS w V (ys.map (·.1))) (EaS.own (by omega)) hE1
    (fun x a' V => ∃ Bx, Blk V Bx 58 #[.int .i64 x.1.1, .int .i64 x.1.2.1, .int .i64 x.1.2.2.1, .int .i64 x.1.2.2.2.1, .int .i64 x.1.2.2.2.2.1, .int .i64 x.1.2.2.2.2.2.1, .int .u32 x.1.2.2.2.2.2.2] ∧ a' = { tmps := #[.slice none 0 0, .func (.func 115) #[] #[.pointer (some ⟨M, 0, none⟩)], .pointer (some ⟨w.heap.size, 0, none⟩), undef, .slice none 0 0, .pointer (some ⟨Bx, 0, none⟩),
      .func (.func 115) #[] #[.pointer (some ⟨M, 0, none⟩)], .agg #[.int .i64 x.1.1, .int .i64 x.1.2.1, .int .i64 x.1.2.2.1, .int .i64 x.1.2.2.2.1, .int .i64 x.1.2.2.2.2.1, .int .i64 x.1.2.2.2.2.2.1, .int .u32 x.1.2.2.2.2.2.2], undef, undef, undef, undef, undef], defers := [] })
    (fun x a' u V V' row h hg hr => by
      obtain ⟨Bx, h2, h5⟩ := h
      refine ⟨Bx, h2.kept hg fun e' => ?_, h5⟩
      obtain ⟨_, o, ho, hf⟩ := hr Bx e'.symm
      rw [show V.heap[Bx]? = _ from h2] at ho
      cases ho
      cases hf) ?assign ?body ?done
  case assign =>
    intro F lp pre x V K hF hro hi hsz hK
    have e : ∀ A : Array Value, ((#[7] : Array Tmp).zip (lnArg x)).foldl (fun t (p, v) => t.setIfInBounds p v) A = A.setIfInBounds 7 (.agg #[.int .i64 x.1.1, .int .i64 x.1.2.1, .int .i64 x.1.2.2.1, .int .i64 x.1.2.2.2.1, .int .i64 x.1.2.2.2.2.1, .int .i64 x.1.2.2.2.2.2.1, .int .u32 x.1.2.2.2.2.2.2]) := fun A => by simp [lnArg]
    rw [e]
    clear e
    gi_wp2
    refine hK _ _ (KX.alloc (by omega) _) ?_ ⟨_, Blk.new _ _ _, rfl⟩
    obtain ⟨a', c', h1, h2, h3⟩ := hi
    exact ⟨a', c', h1.alloc _, h2.alloc _, h3.alloc h3.size _⟩
  case body =>
    rintro F lp pre x a' V hF hro hi hsz ⟨Bx, hbx, rfl⟩ hlen
    obtain ⟨ac, cc, hX, hO, hB⟩ := hi
    obtain ⟨L, hL⟩ := named (pre.map (·.1))
    have HLS : Hid ((pre ++ [x]).map (·.1) = L ++ [x.1]) := by
      show _ = _
      rw [List.map_append, hL.out]
      rfl
    have hpl : L.length = pre.length := by rw [← hL.out, List.length_map]
    obtain ⟨L', hL'⟩ := named ((pre ++ [x]).map (·.1))
    rw [hL'.out] at HLS ⊢
    rw [hL.out] at hX hO
    obtain ⟨⟨sh, cl, k, st, ct, z, m⟩, hx⟩ := x
    dsimp only at hbx HLS ⊢
    have x1 := hX.cell 0
    have y0 := hbx.cell 0
    have y1 := hbx.cell 1
    have y2 := hbx.cell 2
    have y3 := hbx.cell 3
    have y4 := hbx.cell 4
    have y5 := hbx.cell 5
    have y6 := hbx.cell 6
    have HX := Lib.hid hX
    have HO := Lib.hid hO
    have HB := Lib.hid hB
    have hVlt : w.heap.size < V.heap.size := by omega
    have hbl := hbx.lt
    have hll : L.length + 1 ≤ 10000000 := by omega
    clear hX hO hB hL hL' hbx hpl hlen
    gi_wp2_with (gi_at_builtin; refine appendIn_lg ln_rowed rfl (.tmp 8) (.tmp 10) rfl (w.heap.size + 1) _ L.length L rfl (HO.out.alloc _) (some ⟨V.heap.size, 0, none⟩) 1 1 [(sh, cl, k, st, ct, z, m)] rfl (fun e => by cases e) (one_reads V (sh, cl, k, st, ct, z, m) _ _ rfl) (by omega) (by rw [World.size_alloc]; omega) ?_; intro a3 c3 w3 hO3 hg3 hat3; obtain ⟨p1, p2, HP⟩ := eas_put HX.out HO.out HB.out hVlt hO3 hg3 hat3; clear hO3 hg3 hat3)
    rw [HLS.out]
    exact HP.out
  case done =>
    rintro D xs V hD hxs ⟨ac, cc, hX, hO, hB⟩ hK
    have x1 := hX.cell 0
    have HO := Lib.hid hO
    have HB := Lib.hid hB
    have HK := Lib.hid hK
    rw [hxs] at HO x1
    clear hX hO hB hK
    go_wp2
    refine ⟨by simp, .inl ⟨_, _, rfl, run_takeDeferred HK.out, ?_⟩⟩
    exact ⟨_, results_tmp rfl _ _ _, _, _, _, rfl, ⟨ownsRow_putObj (HO.out.mono9 (by omega)).1 _ HK.out rfl, HO.out.2⟩, HB.out.trans (belowK_b (w := w) (Nat.le_refl _) V D _ _ (by omega) HK.out rfl rfl)⟩
theorem collect_any (M : Nat) (w0 w : World) (c s : Int) (bk : ByteArray) (a0 : Option Addr) (n0 c0 : Nat) (sa : Option Addr) (sn sc : Nat) (a5 : Option Addr) (n5 c5 : Nat) (a6 : Option Addr) (n6 c6 : Nat) (T : Tb) (S : List Sh)
    (hS : ShsR w0 sa sn S) (v : List (VTx w0)) (hv : v.map (·.1) = tabsX a0 n0 c0 T S) (hW : Below w0.heap.size w0 w) (hM : Blk w M 41 (mtC c s bk a0 n0 c0 sa sn sc (.slice a5 n5 c5) (.slice a6 n6 c6))) (hM0 : w0.heap.size ≤ M) (hvl : v.length ≤ 901) :
    Calls Tryz.prog 95 #[.func (.func 115) #[] #[.pointer (some ⟨M, 0, none⟩)]] w fun e w' => ∃ (a' : Option Addr) (N c' : Nat), e = .returned (.slice a' N c') ∧ OwnLn w' w.heap.size (.slice a' N c') N (linesOf v) ∧ Below w.heap.size w w' := by
  have HA := Lib.hid (appendSeq_any M w0 w c s bk a0 n0 c0 sa sn sc a5 n5 c5 a6 n6 c6 T S hS v hv hW hM hM0 hvl)
  clear hS hv hW hM
  go_enter Tryz.func95, Tryz.ntmps95
  go_wp2_with (go_at_call 119; refine HA.out.mono ?_; rintro e w6 ⟨a', N, c', rfl, h1, h2⟩)
  go_ret
  exact ⟨_, _, _, rfl, h1, h2⟩
theorem each_any (w : World) (c s : Int) (bk : ByteArray) (a0 : Option Addr) (n0 c0 : Nat) (sa : Option Addr) (sn sc : Nat) (a5 : Option Addr) (n5 c5 : Nat) (a6 : Option Addr) (n6 c6 : Nat) (T : Tb) (S : List Sh)
    (hT : Tab w a0 n0 c0 T) (hS : ShsR w sa sn S) (hR : RightX T S) (hsn : sn ≤ 900) :
    Calls Tryz.prog 71 #[.agg #[.int .i64 c, .int .i64 s, .string bk, .slice a0 n0 c0, .slice sa sn sc, .slice a5 n5 c5, .slice a6 n6 c6]] w fun e w' => ∃ (a' : Option Addr) (N c' : Nat), e = .returned (.slice a' N c') ∧ OwnLn w' w.heap.size (.slice a' N c') N (allLines T (S.map shT)) ∧ Below w.heap.size w w' := by
  obtain ⟨v, hv⟩ := vtx_of (tabsX_ok hT hS hR hsn)
  have HLI := Lib.hid (lines_is hv)
  have hvl : v.length = sn + 1 := by
    have := congrArg List.length hv
    rw [List.length_map] at this
    rw [this]
    simp [tabsX, shX, hS.len]
  have hM := Blk.new (w.alloc (.cells (mtC c s bk a0 n0 c0 sa sn sc (.slice a5 n5 c5) (.slice a6 n6 c6)) 41)) 41 (mtC c s bk a0 n0 c0 sa sn sc (.slice a5 n5 c5) (.slice a6 n6 c6))
  have hb : Below w.heap.size w ((w.alloc (.cells (mtC c s bk a0 n0 c0 sa sn sc (.slice a5 n5 c5) (.slice a6 n6 c6)) 41)).alloc (.cells (mtC c s bk a0 n0 c0 sa sn sc (.slice a5 n5 c5) (.slice a6 n6 c6)) 41)) := ((Below.refl _ w).alloc (Nat.le_refl _) _).alloc (by simp) _
  rw [World.size_alloc] at hM
  have HC := Lib.hid (collect_any (w.heap.size + 1) w _ c s bk a0 n0 c0 sa sn sc a5 n5 c5 a6 n6 c6 T S hS v hv hb hM (by omega) (by omega))
  have HB := Lib.hid hb
  clear hv hT hS hR hM hb
  go_enter Tryz.func71, Tryz.ntmps71
  go_wp2_with (first
    | (go_at_call 94; refine (lines_any _ _ _ _ _ _ _ _ _ _ _ _ _ _ _ _).mono ?_; rintro e w5 ⟨rfl, rfl⟩)
    | (go_at_call 95; refine HC.out.mono ?_; rintro e w6 ⟨a', N, c', rfl, h1, h2⟩))
  go_ret
  rw [← HLI.out]
  exact ⟨_, _, _, rfl, h1.mono9 HB.out.size, HB.out.trans (h2.mono HB.out.size)⟩
end Go.Proofs.YtlljcdmblmkblaaGreat
namespace Go.Proofs.YtlljcdmblmkblaaGreat
open Go.RowKit
set_option linter.unusedVariables false

theorem append_lg {α : Type} {P : Program} {t e : TypeId} {sz bytes : Nat} {cv : α → List Value} (R : Rowed P t e sz bytes cv) {ops : Array Oper} {rest : List Oper} {o : Oper} {a : Act} {w : World} {Q : Exit → Act → World → Prop} (hgd : o.guard = Option.none) (s x : Operand)
    (ho : o.op = .call { callee := .builtin .append, args := #[s, x], argTypes := #[t, t] }) (base : Nat) (v : Value) (n : Nat) (xs : List α) (hs : a.eval s = v) (hown : OwnG cv e sz w base v n xs)
    (ao : Option Addr) (m c : Nat) (l : List α) (hx : a.eval x = .slice ao m c) (hnil : ao = Option.none → c = 0) (hB : Reads cv w ao m l) (hn : n + m ≤ 10000000) (hbase : base ≤ w.heap.size)
    (h : ∀ a' c' w', OwnG cv e sz w' base (.slice a' (n + m) c') (n + m) (xs ++ l) → w.grownBy w' v.ownBlock → ((Value.slice a' (n + m) c').ownBlock = v.ownBlock ∨ (Value.slice a' (n + m) c').ownBlock = some w.heap.size) → wpList P ops Q rest (a.put o.dst (.slice a' (n + m) c')) w') : wpList P ops Q (o :: rest) a w :=
  wpList_plain hgd fun K hK => wp_append_lg R s x ho base v n xs hs hown ao m c l hx hnil hB hn hbase fun a' c' w' h1 h2 h3 => hK _ _ (h a' c' w' h1 h2 h3)

/-- All is kept but the row that is appended to. -/
structure KO (v v' : Value) (W W' : World) : Prop where
  os : W'.os = W.os
  tape : W'.tape = W.tape
  output : W'.output = W.output
  size : W.heap.size ≤ W'.heap.size
  same : ∀ k, k < W.heap.size → v.ownBlock ≠ some k → W'.heap[k]? = W.heap[k]?
  own : ∀ k, k < W.heap.size → v.ownBlock ≠ some k → v'.ownBlock ≠ some k
theorem KO.refl (v : Value) (W : World) : KO v v W W := ⟨rfl, rfl, rfl, Nat.le_refl _, fun _ _ _ => rfl, fun _ _ h => h⟩
theorem KO.trans {v v' v'' : Value} {A B C : World} (h : KO v v' A B) (k : KO v' v'' B C) : KO v v'' A C :=
  ⟨k.os.trans h.os, k.tape.trans h.tape, k.output.trans h.output, Nat.le_trans h.size k.size, fun i hi h1 => (k.same i (Nat.lt_of_lt_of_le hi h.size) (h.own i hi h1)).trans (h.same i hi h1), fun i hi h1 => k.own i (Nat.lt_of_lt_of_le hi h.size) (h.own i hi h1)⟩
theorem KO.later {v : Value} {W W' : World} (h : Below W.heap.size W W') : KO v v W W' := ⟨h.os, h.tape, h.output, h.size, fun k hk _ => h.block k hk, fun _ _ h => h⟩
theorem KO.alloc (v : Value) (W : World) (o : Obj) : KO v v W (W.alloc o) := KO.later ((Below.refl _ _).alloc (Nat.le_refl _) _)
theorem KO.append {v v' : Value} {W W' : World} (hg : W.grownBy W' v.ownBlock) (hv : v'.ownBlock = v.ownBlock ∨ v'.ownBlock = some W.heap.size) : KO v v' W W' :=
  ⟨hg.os, hg.tape, hg.output, hg.size, fun k hk h1 => hg.block k hk fun e => h1 e.symm, fun k hk h1 e => by
    rcases hv with hv | hv
    · exact h1 (hv.symm.trans e)
    · rw [hv] at e
      cases e
      exact absurd hk (Nat.lt_irrefl _)⟩
theorem KO.below {v v' : Value} {W W' : World} {B : Nat} (h : KO v v' W W') (hB : B ≤ W.heap.size) (hv : ∀ k, v.ownBlock = some k → B ≤ k) : Below B W W' :=
  ⟨h.os, h.tape, h.output, h.size, fun k hk => h.same k (Nat.lt_of_lt_of_le hk hB) fun e => by have := hv k e; omega⟩
theorem KO.blk {v v' : Value} {W W' : World} {X : Nat} {t : TypeId} {cs : Array Value} (h : KO v v' W W') (hb : Blk W X t cs) (hv : v.ownBlock ≠ some X) : Blk W' X t cs := (h.same X hb.lt hv).trans hb
/-- Between two entries. -/
structure RS (w1 V wd : World) (base X : Nat) (cs : Array Value) (v0 v : Value) (L : List Ln) : Prop where
  own : OwnLn V base v L.length L
  ko : KO v0 v w1 V
  box : Blk V X 36 cs
  ox : v.ownBlock ≠ some X
  dat : Below wd.heap.size wd V
theorem RS.alloc {w1 V wd : World} {base X : Nat} {cs : Array Value} {v0 v : Value} {L : List Ln} (h : RS w1 V wd base X cs v0 v L) (o : Obj) : RS w1 (V.alloc o) wd base X cs v0 v L :=
  ⟨h.own.alloc o, h.ko.trans (KO.alloc v V o), h.box.alloc o, h.ox, h.dat.alloc h.dat.size o⟩
theorem RS.step {w1 V V' wd : World} {base X : Nat} {cs : Array Value} {v0 v v' : Value} {L L' : List Ln} (h : RS w1 V wd base X cs v0 v L) (hwd : wd.heap.size ≤ base) (hg : V.grownBy V' v.ownBlock) (hO : OwnLn V' base v' L'.length L') (hat : v'.ownBlock = v.ownBlock ∨ v'.ownBlock = some V.heap.size) : RS w1 V' wd base X cs v0 v' L' := by
  have hk := KO.append hg hat
  exact ⟨hO, h.ko.trans hk, hk.blk h.box h.ox, hk.own X h.box.lt h.ox, h.dat.trans (hk.below h.dat.size fun k e => Nat.le_trans hwd (h.own.1.lt k e).1)⟩

set_option maxRecDepth 100000 in
set_option maxHeartbeats 3200000 in
theorem refEach_any (wd w : World) (base : Nat) (la : Option Addr) (ln lc : Nat) (L : List Ln) (shot : Int) (a : Option Addr) (len cap : Nat) (T : Tb) (hO : OwnLn w base (.slice la ln lc) ln L) (hb : base ≤ w.heap.size) (hwd : wd.heap.size ≤ base)
    (hd : Below wd.heap.size wd w) (hT : Tab wd a len cap T) (hlen : ln + len * 8 ≤ 9000000) :
    Calls Tryz.prog 52 #[.slice la ln lc, .int .i64 shot, .agg #[.slice a len cap]] w fun e w' => ∃ (a' : Option Addr) (N c' : Nat), e = .returned (.slice a' N c') ∧ OwnLn w' base (.slice a' N c') N (L ++ tabLines shot T) ∧ KO (.slice la ln lc) (.slice a' N c') w w' := by
  obtain ⟨ds, hR, _, rfl, h6, _⟩ := hT
  have hLn : L.length = ln := hO.2.1
  subst hLn
  have hRS0 : RS (w.alloc (.cells #[.slice a len cap] 36)) (w.alloc (.cells #[.slice a len cap] 36)) wd base w.heap.size #[.slice a len cap] (.slice la L.length lc) (.slice la L.length lc) L :=
    ⟨hO.alloc _, KO.refl _ _, Blk.new _ _ _, hO.low _ (Or.inr (Nat.le_refl _)), hd.alloc hd.size _⟩
  have HS0 := Lib.hid hRS0
  have HT := Lib.hid hR
  have htl := hR.tlen
  have HTL := Lib.hid htl
  have HK0 : Hid (KO (.slice la L.length lc) (.slice la L.length lc) w (w.alloc (.cells #[.slice a len cap] 36))) := KO.alloc _ _ _
  have HTAB : Hid (tabLines shot (tbOf ds) = linesTo shot (tbOf ds) (len * 8)) := by show _ = _; unfold tabLines; rw [htl]
  clear hRS0 hO hd hR htl
  go_enter Tryz.func52, Tryz.ntmps52
  go_wp2
  go_loopw [0, 7] (fun l i wr => ∃ (j : Nat) (a1 : Option Addr) (n1 c1 : Nat), j ≤ len ∧ l = .slice a1 n1 c1 ∧ i = .int .i64 j ∧ Hid (n1 = (L ++ linesTo shot (tbOf ds) (j * 8)).length) ∧ Hid (RS (w.alloc (.cells #[.slice a len cap] 36)) wr wd base w.heap.size #[.slice a len cap] (.slice la L.length lc) (.slice a1 n1 c1) (L ++ linesTo shot (tbOf ds) (j * 8)))) (fun _ i _ => len - (intOf i).toNat)
  case atStart => exact ⟨0, la, L.length, lc, Nat.zero_le _, rfl, rfl, by rw [Nat.zero_mul, linesTo_zero, List.append_nil]; exact rfl, by rw [Nat.zero_mul, linesTo_zero, List.append_nil]; exact HS0.out⟩
  case round =>
    obtain ⟨j, a1, n1, c1, hj, rfl, rfl, HN, HR⟩ := hrel
    have b1 := HR.out.box.cell 0
    by_cases hlt : j < len
    · obtain ⟨b, off, al, ll, cl, xs, rfl, hc, hL, hxs, hget⟩ := (HT.out.later HR.out.dat).at j hlt
      have hbd := hlen
      have HXS : Hid (tbAt (tbOf ds) j = xs) := hxs
      have HGET := Lib.hid hget
      have HLL : Hid (xs.length = ll) := hL.len
      obtain ⟨J8, hJ8⟩ := named (j * 8)
      have hJl : J8 ≤ len * 8 - 8 := by rw [← hJ8.out]; omega
      have e1 : IntKind.i64.wrap ((j : Int) * 8) = (J8 : Int) := by rw [← hJ8.out, IntKind.wrap_i64] <;> omega
      have HJ : Hid ((j + 1) * 8 = J8 + 8) := by show _ = _; rw [← hJ8.out]; omega
      have HAT : Hid (∀ q, q < 8 → atN (tbOf ds) (J8 + q) = lfAt xs q) := fun q hq => by rw [← hJ8.out, atN_is j q hq, HXS.out]
      rw [hJ8.out] at HN HR
      clear hL hxs hget hJ8
      go_wp2
      go_loopw [0, 8] (fun l k w9 => ∃ (q : Nat) (a2 : Option Addr) (n2 c2 : Nat), q ≤ 8 ∧ q ≤ ll ∧ l = .slice a2 n2 c2 ∧ k = .int .i64 q ∧ Hid (n2 = (L ++ linesTo shot (tbOf ds) (J8 + q)).length) ∧ Hid (RS (w.alloc (.cells #[.slice (some ⟨b, off, none⟩) len cap] 36)) w9 wd base w.heap.size #[.slice (some ⟨b, off, none⟩) len cap] (.slice la L.length lc) (.slice a2 n2 c2) (L ++ linesTo shot (tbOf ds) (J8 + q)))) (fun _ k _ => 8 - (intOf k).toNat)
      case atStart => exact ⟨0, a1, n1, c1, by omega, Nat.zero_le _, rfl, rfl, HN.out, HR.out⟩
      case round =>
        obtain ⟨q, a2, n2, c2, hq, hql, rfl, rfl, HN2, HR2⟩ := hrel
        have b2 := HR2.out.box.cell 0
        obtain ⟨b0, off0, al0, ll0, cl0, xs0, e0, hc2, hL2, _, hget2⟩ := (HT.out.later HR2.out.dat).at j hlt
        cases e0
        obtain ⟨rfl, rfl, rfl, rfl⟩ : al0 = al ∧ ll0 = ll ∧ cl0 = cl ∧ xs0 = xs := by
          have := HGET.out.symm.trans hget2
          simp only [Option.some.injEq, Prod.mk.injEq] at this
          exact ⟨this.1.symm, this.2.1.symm, this.2.2.1.symm, this.2.2.2.symm⟩
        by_cases hin : q < ll0 ∧ q < 8
        · obtain ⟨h1, h2⟩ := hin
          obtain ⟨b', off', e9, hs, y1, y2, y3, y4, y5⟩ := hL2.at q h1
          dsimp only at e9 hs y1 y2 y3 y4 y5
          subst e9
          have hat := HAT.out q h2
          obtain ⟨⟨v1, v2, v3, v4, v5⟩, HV⟩ := named (lfAt xs0 q)
          rw [HV.out] at y1 y2 y3 y4 y5 hs hat
          dsimp only at y1 y2 y3 y4 y5
          obtain ⟨C, hC⟩ := named (J8 + q)
          have e2 : IntKind.i64.wrap ((J8 : Int) + q) = (C : Int) := by rw [← hC.out, IntKind.wrap_i64] <;> omega
          have HC : Hid (J8 + (q + 1) = C + 1) := by show _ = _; rw [← hC.out]; omega
          have hlc := linesTo_len shot (tbOf ds) C
          have HBND : Hid (n2 + 1 ≤ 10000000) := by
            have := HN2.out
            rw [List.length_append, hC.out] at this
            show n2 + 1 ≤ 10000000
            have := hC.out
            omega
          rw [hC.out] at HN2 HR2 hat
          have HN2' := HN2.out
          by_cases hsec : secE (v1, v2, v3, v4, v5)
          · have HLN : Hid (linesTo shot (tbOf ds) (C + 1) = linesTo shot (tbOf ds) C ++ [(shot, (C : Int), (v1, v2, v3, v4, v5))]) := by
              show _ = _
              rw [linesTo_yes (by rw [hat]; exact hsec), hat]
            have hk : (v1 == 2) = true ∨ ((v1 == 2) = false ∧ (v1 == 3) = true) := by
              rcases hsec with h | h
              · exact Or.inl (by simpa using h)
              · exact Or.inr (by simp at h; subst h; exact ⟨rfl, rfl⟩)
            have HSTEP : Hid (∀ (o1 o2 : Obj) (w3 : World) (a3 : Option Addr) (c3 : Nat), OwnLn w3 base (.slice a3 (n2 + 1) c3) (n2 + 1) ((L ++ linesTo shot (tbOf ds) C) ++ [(shot, (C : Int), (v1, v2, v3, v4, v5))]) → ((wr.alloc o1).alloc o2).grownBy w3 (Value.slice a2 n2 c2).ownBlock → ((Value.slice a3 (n2 + 1) c3).ownBlock = (Value.slice a2 n2 c2).ownBlock ∨ (Value.slice a3 (n2 + 1) c3).ownBlock = some ((wr.alloc o1).alloc o2).heap.size) →
                n2 + 1 = (L ++ linesTo shot (tbOf ds) (C + 1)).length ∧ RS (w.alloc (.cells #[.slice (some ⟨b, off, none⟩) len cap] 36)) w3 wd base w.heap.size #[.slice (some ⟨b, off, none⟩) len cap] (.slice la L.length lc) (.slice a3 (n2 + 1) c3) (L ++ linesTo shot (tbOf ds) (C + 1))) := fun o1 o2 w3 a3 c3 g1 g2 g3 => by
              rw [HLN.out, ← List.append_assoc]
              have hl3 : n2 + 1 = ((L ++ linesTo shot (tbOf ds) C) ++ [(shot, (C : Int), (v1, v2, v3, v4, v5))]).length := by rw [List.length_append, ← HN2.out]; rfl
              refine ⟨hl3, ?_⟩
              exact ((HR2.out.alloc o1).alloc o2).step hwd g2 (by rw [← hl3]; exact g1) g3
            have HOWN : Hid (OwnLn wr base (.slice a2 n2 c2) n2 (L ++ linesTo shot (tbOf ds) C)) := by
              have := HR2.out.own
              rw [← HN2.out] at this
              exact this
            have HBS : Hid (base ≤ wr.heap.size) := by
              have := HR2.out.ko.size
              rw [World.size_alloc] at this
              show base ≤ _
              omega
            clear hat hsec hs hL2 hget2 hlc HN2'
            rcases hk with hk | ⟨hk, hk3⟩
            all_goals
              go_wp2_with (at_builtin; refine append_lg ln_rowed rfl (.tmp 47) (.tmp 55) rfl base _ n2 (L ++ linesTo shot (tbOf ds) C) rfl ((HOWN.out.alloc _).alloc _) (some ⟨wr.heap.size + 1, 0, none⟩) 1 1 [(shot, (C : Int), (v1, v2, v3, v4, v5))] rfl (fun e => by cases e) (one_reads2 _ _ (shot, (C : Int), (v1, v2, v3, v4, v5)) _ _ rfl) HBND.out (by rw [World.size_alloc, World.size_alloc]; have := HBS.out; omega) ?_; intro a3 c3 w3 g1 g2 g3; obtain ⟨k1, k2⟩ := HSTEP.out _ _ w3 a3 c3 g1 g2 g3; have K1 := Lib.hid k1; have K2 := Lib.hid k2; clear g1 g2 g3 k1 k2)
            all_goals
              go_roundw
              case rel => exact ⟨q + 1, a3, n2 + 1, c3, by omega, by omega, rfl, by go_num, by rw [HC.out]; exact K1.out, by rw [HC.out]; exact K2.out⟩
              case measure => simp [intOf]; omega
          · have HLN : Hid (linesTo shot (tbOf ds) (C + 1) = linesTo shot (tbOf ds) C) := linesTo_no (by rw [hat]; exact hsec)
            have k2 : (v1 == 2) = false := by
              have : ¬ v1 = 2 := fun h => hsec (Or.inl h)
              simp [this]
            have k3 : (v1 == 3) = false := by
              have : ¬ v1 = 3 := fun h => hsec (Or.inr h)
              simp [this]
            clear hat hsec hs hL2 hget2 hlc HN2'
            go_wp2
            go_roundw
            case rel => exact ⟨q + 1, a2, n2, c2, by omega, by omega, rfl, by go_num, by rw [HC.out, HLN.out]; exact HN2.out, by rw [HC.out, HLN.out]; exact HR2.out.alloc _⟩
            case measure => simp [intOf]; omega
        · have HEND : Hid (linesTo shot (tbOf ds) (J8 + 8) = linesTo shot (tbOf ds) (J8 + q)) := by
            have := linesTo_none (shot := shot) (T := tbOf ds) (J8 + q) (8 - q) fun k h1 h2 => by
              obtain ⟨p, rfl⟩ : ∃ p, k = J8 + p := ⟨k - J8, by omega⟩
              rw [HAT.out p (by omega), lfAt_out (by rw [HLL.out]; omega)]
              unfold secE enZ
              omega
            rw [show J8 + q + (8 - q) = J8 + 8 by omega] at this
            exact this
          have hcs : ¬ q < ll0 ∨ (q < ll0 ∧ ¬ q < 8) := by omega
          clear hL2 hget2
          rcases hcs with h1 | ⟨h1, h2⟩
          all_goals
            go_wp2
            go_roundw
            case rel => exact ⟨j + 1, a2, n2, c2, by omega, rfl, by go_num, by rw [HJ.out, HEND.out]; exact HN2.out, by rw [HJ.out, HEND.out]; exact HR2.out⟩
            case measure => simp [intOf]; omega
    · obtain rfl : j = len := by omega
      go_wp2
      go_ret
      rw [HTAB.out]
      have hn := HN.out
      exact ⟨a1, n1, c1, rfl, by have := HR.out.own; rw [← hn] at this; exact this, HK0.out.trans HR.out.ko⟩
end Go.Proofs.YtlljcdmblmkblaaGreat
namespace Go.Proofs.YtlljcdmblmkblaaGreat
open Go.RowKit
set_option linter.unusedVariables false

theorem each_first (a : Option Addr) (len cap : Nat) (T : Tb) (wd w : World) (base : Nat) (hb : base ≤ w.heap.size) (hwd : wd.heap.size ≤ base) (hd : Below wd.heap.size wd w) (hT : Tab wd a len cap T) (hlen : len ≤ 512) :
    Calls Tryz.prog 52 #[.slice none 0 0, .int .i64 (-1), .agg #[.slice a len cap]] w fun e w' => ∃ (a' : Option Addr) (N c' : Nat), e = .returned (.slice a' N c') ∧ OwnLn w' base (.slice a' N c') N (tabLines (-1) T) ∧ N ≤ 4096 ∧ Below base w w' := by
  refine (refEach_any wd w base none 0 0 [] (-1) a len cap T (OwnG.none _ _ _ _ _) hb hwd hd hT (by omega)).mono ?_
  rintro e w' ⟨a', N, c', rfl, h1, h2⟩
  rw [List.nil_append] at h1
  have hl := linesTo_len (-1) T (T.length * 8)
  have hn := h1.2.1
  have ht := hT.lens.1
  unfold tabLines at hn
  exact ⟨a', N, c', rfl, h1, by omega, h2.below hb fun k e => by cases e⟩
set_option maxRecDepth 100000 in
set_option maxHeartbeats 1600000 in
theorem refEachM_any (w : World) (c s : Int) (bk : ByteArray) (a0 : Option Addr) (n0 c0 : Nat) (sa : Option Addr) (sn sc : Nat) (a5 : Option Addr) (n5 c5 : Nat) (a6 : Option Addr) (n6 c6 : Nat) (T : Tb) (S : List Sh)
    (hT : Tab w a0 n0 c0 T) (hS : ShsR w sa sn S) (hR : RightX T S) (hsn : sn ≤ 900) :
    Calls Tryz.prog 22 #[.agg #[.int .i64 c, .int .i64 s, .string bk, .slice a0 n0 c0, .slice sa sn sc, .slice a5 n5 c5, .slice a6 n6 c6]] w fun e w' => ∃ (a' : Option Addr) (N c' : Nat), e = .returned (.slice a' N c') ∧ OwnLn w' w.heap.size (.slice a' N c') N (allLines T (S.map shT)) ∧ N ≤ 4096 * 901 ∧ Below w.heap.size w w' := by
  obtain ⟨cl, ⟨m, hr1⟩, hr2⟩ := hR
  have hn0 : n0 ≤ 512 := by rw [← hT.lens.1]; exact hr1.2.2.2.1
  obtain ⟨W1, hW1⟩ : ∃ W1, w.alloc (.cells (mtC c s bk a0 n0 c0 sa sn sc (.slice a5 n5 c5) (.slice a6 n6 c6)) 41) = W1 := ⟨_, rfl⟩
  have hz : W1.heap.size = w.heap.size + 1 := by rw [← hW1, World.size_alloc]
  have hb : Below w.heap.size w W1 := by rw [← hW1]; exact (Below.refl _ _).alloc (Nat.le_refl _) _
  have hM : Blk W1 w.heap.size 41 (mtC c s bk a0 n0 c0 sa sn sc (.slice a5 n5 c5) (.slice a6 n6 c6)) := by rw [← hW1]; exact Blk.new _ _ _
  have HF := Lib.hid (each_first a0 n0 c0 T w W1 (w.heap.size + 1) (by omega) (by omega) hb hT hn0)
  have HM := Lib.hid hM
  have HB := Lib.hid hb
  have HS := Lib.hid hS
  have HSL : Hid (∀ d ∈ S, d.2.2.2.1 ≤ 512) := fun d hd => by
    obtain ⟨m, h⟩ := hr2 d hd
    have h1 := h.2.2.2.1
    have h2 := (hS.2 d hd).lens.1
    omega
  have HALL : Hid (allLines T (S.map shT) = tabLines (-1) T ++ shotsTo (S.map shT) sn) := by
    show _ = _
    unfold allLines
    rw [List.length_map, hS.len]
  rw [HALL.out]
  obtain ⟨m0, m1, m2, m3, m4, m5, m6⟩ := mt_cells hM
  have hmlt : w.heap.size < W1.heap.size := by omega
  clear hr1 hr2 hT hS hM hb
  go_enter Tryz.func22, Tryz.ntmps22
  have hW1' : w.alloc (.cells #[.int .i64 c, .int .i64 s, .string bk, .slice a0 n0 c0, .slice sa sn sc, .slice a5 n5 c5, .slice a6 n6 c6] 41) = W1 := hW1
  go_wp2_with (go_at_call 52; (with_reducible refine HF.out.mono ?_); rintro e w2 ⟨a1, N1, c1, rfl, h1, h2, h3⟩; have HO1 := Lib.hid h1; have HN1 := Lib.hid h2; have HB1 := Lib.hid h3; clear h1 h2 h3)
  go_loopw [3, 4] (fun l i wr => ∃ (j : Nat) (aj : Option Addr) (nj cj : Nat), j ≤ sn ∧ l = .slice aj nj cj ∧ i = .int .i64 j ∧ Hid (OwnLn wr (w.heap.size + 1) (.slice aj nj cj) nj (tabLines (-1) T ++ shotsTo (S.map shT) j)) ∧ Hid (nj ≤ 4096 * (j + 1)) ∧ Hid (Below (w.heap.size + 1) W1 wr)) (fun _ i _ => sn - (intOf i).toNat)
  case atStart => exact ⟨0, a1, N1, c1, Nat.zero_le _, rfl, rfl, by show OwnLn _ _ _ _ (_ ++ []); rw [List.append_nil]; exact HO1.out, HN1.out, HB1.out⟩
  case round =>
    obtain ⟨j, aj, nj, cj, hj, rfl, rfl, HOj, HNj, HBj⟩ := hrel
    have hMr := (HBj.out.block w.heap.size (by omega)).trans HM.out
    obtain ⟨m0, m1, m2, m3, m4, m5, m6⟩ := mt_cells hMr
    by_cases hlt : j < sn
    · have hdw : Below w.heap.size w wr := HB.out.trans (HBj.out.mono (by omega))
      obtain ⟨b, off, nm, sz, al, ll, cl', T', rfl, hSj, x1, x2, x3, hT'⟩ := (HS.out.later hdw).at j hlt
      have hT0 : Tab w al ll cl' T' := HS.out.2 _ (List.mem_of_getElem? hSj)
      have hll : ll ≤ 512 := HSL.out _ (List.mem_of_getElem? hSj)
      have hnj := HNj.out
      have hszr : w.heap.size + 1 ≤ wr.heap.size := by have := HBj.out.size; omega
      have HE := Lib.hid (refEach_any w wr (w.heap.size + 1) aj nj cj (tabLines (-1) T ++ shotsTo (S.map shT) j) j al ll cl' T' HOj.out hszr (by omega) hdw hT0 (by omega))
      have HSN : Hid (shotsTo (S.map shT) (j + 1) = shotsTo (S.map shT) j ++ tabLines j T') := by
        show _ = _
        rw [shotsTo_succ]
        congr 2
        unfold tbNth
        rw [List.getD_eq_getElem?_getD, List.getElem?_map, hSj]
        rfl
      have HTL : Hid ((tabLines j T').length ≤ 4096) := by
        have h1 := linesTo_len j T' (T'.length * 8)
        have h2 := hT0.lens.1
        show (linesTo j T' (T'.length * 8)).length ≤ 4096
        omega
      clear hT' hT0 hSj hdw
      go_wp2_with (go_at_call 52; (with_reducible refine HE.out.mono ?_); rintro e w3 ⟨a3, N3, c3, rfl, h1, h2⟩; have HO3 := Lib.hid h1; have HK3 := Lib.hid h2; clear h1 h2)
      go_roundw
      case rel =>
        have hl3 := HO3.out.2.1
        have hlj := HOj.out.2.1
        have htl := HTL.out
        rw [List.length_append] at hl3
        exact ⟨j + 1, a3, N3, c3, by omega, rfl, by go_num, by rw [HSN.out, ← List.append_assoc]; exact HO3.out, by show N3 ≤ _; omega, HBj.out.trans (HK3.out.below hszr fun k e => (HOj.out.1.lt k e).1)⟩
      case measure => simp [intOf]; omega
    · obtain rfl : j = sn := by omega
      go_wp2
      go_ret
      have hnj := HNj.out
      exact ⟨aj, nj, cj, rfl, HOj.out.mono9 (by omega), by omega, HB.out.trans (HBj.out.mono (by omega))⟩
end Go.Proofs.YtlljcdmblmkblaaGreat
namespace Go.Proofs.YtlljcdmblmkblaaGreat
open Go.RowKit
set_option linter.unusedVariables false

theorem ln_at {w : World} {a : Option Addr} {len : Nat} {L : List Ln} (h : Reads lnV w a len L) (i : Nat) (hi : i < len) : ∃ b off sh cl k st ct z m, a = some ⟨b, off, none⟩ ∧ L[i]? = some (sh, cl, k, st, ct, z, m) ∧
    w.cell? ⟨b, off + i * 7, none⟩ = some (.int .i64 sh) ∧ w.cell? ⟨b, off + i * 7 + 1, none⟩ = some (.int .i64 cl) ∧ w.cell? ⟨b, off + i * 7 + 2, none⟩ = some (.int .i64 k) ∧ w.cell? ⟨b, off + i * 7 + 2 + 1, none⟩ = some (.int .i64 st) ∧
    w.cell? ⟨b, off + i * 7 + 2 + 2, none⟩ = some (.int .i64 ct) ∧ w.cell? ⟨b, off + i * 7 + 2 + 3, none⟩ = some (.int .i64 z) ∧ w.cell? ⟨b, off + i * 7 + 2 + 4, none⟩ = some (.int .u32 m) := by
  obtain ⟨b, off, rfl⟩ := h.lies (by omega)
  have hl := h.1
  obtain ⟨⟨sh, cl, k, st, ct, z, m⟩, hx⟩ : ∃ x, L[i]? = some x := ⟨_, List.getElem?_eq_getElem (by omega)⟩
  have c := fun j v (hj : (lnV (sh, cl, k, st, ct, z, m))[j]? = some v) => h.cellAt ln_rowed i j _ v hx hj
  refine ⟨b, off, sh, cl, k, st, ct, z, m, rfl, hx, c 0 _ rfl, ?_, ?_, ?_, ?_, ?_, ?_⟩
  · have := c 1 _ rfl; rwa [← Nat.add_assoc] at this
  · have := c 2 _ rfl; rwa [← Nat.add_assoc] at this
  · have := c 3 _ rfl; rwa [← Nat.add_assoc] at this
  · have := c 4 _ rfl; rwa [← Nat.add_assoc] at this
  · have := c 5 _ rfl; rwa [← Nat.add_assoc] at this
  · have := c 6 _ rfl; rwa [← Nat.add_assoc] at this
/-- A sector of an entry that is counted so far. -/
def onTo (st : Int) (k : Nat) (q : Nat) : Int := if st ≤ q ∧ q < k then 1 else 0
theorem onTo_all {st ct : Int} {k n : Nat} (h : (k : Int) = st + ct ∨ n ≤ k ∧ (k : Int) ≤ st + ct) {q : Nat} (hq : q < n) : onTo st k q = onS (st, ct) q := by
  unfold onTo onS
  dsimp only
  split <;> split <;> omega
set_option maxRecDepth 100000 in
set_option maxHeartbeats 3200000 in
theorem counted_any (w : World) (a : Option Addr) (len cap : Nat) (L : List Ln) (hL : Reads lnV w a len L) (hok : ∀ x ∈ L, LnOk x) (hlen : len ≤ 100000000) (n : Nat) (hn : n ≤ 65536) :
    Calls Tryz.prog 72 #[.slice a len cap, .int .i64 n] w fun e w' => ∃ R, e = .returned (.slice (some ⟨R, 0, none⟩) n n) ∧ w.heap.size ≤ R ∧ IRow w' R n (ofL L) ∧ Below w.heap.size w w' := by
  have HL := Lib.hid hL
  have HOK := Lib.hid hok
  have hlL := hL.1
  have hmk := make_i n (by omega)
  have HI0 := Lib.hid (IRow.made w n)
  have HB0 : Hid (Below w.heap.size w (w.alloc (.cells (zerosI n) 3))) := (Below.refl _ _).alloc (Nat.le_refl _) _
  have g1 : ¬ (n : Int) < 0 := by omega
  have g2 : ¬ (65536 : Int) < n := by omega
  clear hL hok
  go_enter Tryz.func72, Tryz.ntmps72
  go_wp2
  go_loopw [6] (fun i wr => ∃ j : Nat, j ≤ 2 ∧ i = .int .i64 j ∧ Hid (IRow wr w.heap.size n (fun q => if q < j then 1 else 0)) ∧ Hid (Below w.heap.size w wr)) (fun i _ => 2 - (intOf i).toNat)
  case atStart => exact ⟨0, by omega, rfl, HI0.out.congr fun q _ => by rw [if_neg (by omega)], HB0.out⟩
  case round =>
    obtain ⟨j, hj, rfl, HR, HB⟩ := hrel
    by_cases hin : j < 2 ∧ j < n
    · obtain ⟨h1, h2⟩ := hin
      have c1 := HR.out.cell h2
      have f1 := HR.out.free j
      have hrl := HR.out.lt
      have HS := Lib.hid (HR.out.set h2 1)
      go_wp2
      go_roundw
      case rel =>
        refine ⟨j + 1, by omega, by go_num, HS.out.congr fun q _ => ?_, HB.out.setCell (p := ⟨w.heap.size, j, none⟩) (Nat.le_refl _) _⟩
        by_cases e : q = j
        · rw [if_pos e, if_pos (by omega)]
        · rw [if_neg e]
          by_cases e2 : q < j
          · rw [if_pos e2, if_pos (by omega)]
          · rw [if_neg e2, if_neg (by omega)]
      case measure => simp [intOf]; omega
    · have HC : Hid (IRow wr w.heap.size n (cntS ((0, 2) :: (L.take 0).map sgOf))) := HR.out.congr fun q hq => by
        show _ = onS (0, 2) q + 0
        unfold onS
        dsimp only
        split <;> split <;> omega
      have hcs : ¬ j < 2 ∨ (j < 2 ∧ ¬ j < n) := by omega
      clear HR
      clear hin
      rcases hcs with h1 | ⟨h1, h2⟩
      all_goals
        go_wp2
        first
          | (rename (j : Int) < 2 => hz1; clear hz1 h1)
          | (rename (2 : Int) ≤ j => hz1; clear hz1 h1)
        try clear h2
        go_loopw [7] (fun i wr => ∃ p : Nat, p ≤ len ∧ i = .int .i64 p ∧ Hid (IRow wr w.heap.size n (cntS ((0, 2) :: (L.take p).map sgOf))) ∧ Hid (Below w.heap.size w wr)) (fun i _ => len - (intOf i).toNat)
        case atStart => exact ⟨0, Nat.zero_le _, rfl, HC.out, HB.out⟩
        case round =>
          obtain ⟨p, hp, rfl, HRp, HBp⟩ := hrel
          by_cases hlt : p < len
          · obtain ⟨b, off, sh, cl, k, st, ct, z, m, rfl, hLp, y1, y2, y3, y4, y5, y6, y7⟩ := ln_at (HL.out.later HBp.out) p hlt
            obtain ⟨_, _, _, b1, b2, b3⟩ := HOK.out _ (List.mem_of_getElem? hLp)
            dsimp only at b1 b2 b3
            obtain ⟨ST, rfl⟩ : ∃ ST : Nat, st = ST := ⟨st.toNat, by omega⟩
            obtain ⟨CT, rfl⟩ : ∃ CT : Nat, ct = CT := ⟨ct.toNat, by omega⟩
            have hmax : ∀ w : World, (Builtin.max_ #[3, 3] 3 #[.int .i64 ST, .int .i64 0]).run Tryz.prog w = .ok (.int .i64 ST) w := fun w => by rw [run_max0, if_neg (by omega)]
            have HTK : Hid (∀ q, cntS ((0, 2) :: (L.take (p + 1)).map sgOf) q = cntS ((0, 2) :: (L.take p).map sgOf) q + onS ((ST : Int), (CT : Int)) q) := fun q => by
              rw [List.take_add_one, hLp, List.map_append, ← List.cons_append]
              exact cntS_snoc _ _ _
            have HBD : Hid (∀ q, 0 ≤ cntS ((0, 2) :: (L.take p).map sgOf) q ∧ cntS ((0, 2) :: (L.take p).map sgOf) q ≤ 100000001) := fun q => by
              have h := cnt_bound q ((0, 2) :: (L.take p).map sgOf)
              have h2 : ((0, 2) :: (L.take p).map sgOf : List Sg).length ≤ 100000001 := by
                rw [List.length_cons, List.length_map, List.length_take]
                omega
              omega
            obtain ⟨F, hF⟩ := named (cntS ((0, 2) :: (L.take p).map sgOf))
            rw [hF.out] at HRp HTK HBD
            obtain ⟨E, hE⟩ : ∃ E, wr.heap.size = E := ⟨_, rfl⟩
            have HE0 : Hid (Blk (wr.alloc (.cells #[.int .i64 k, .int .i64 ST, .int .i64 CT, .int .i64 z, .int .u32 m] 24)) E 24 #[.int .i64 k, .int .i64 ST, .int .i64 CT, .int .i64 z, .int .u32 m]) := by
              have := Blk.new wr 24 #[.int .i64 k, .int .i64 ST, .int .i64 CT, .int .i64 z, .int .u32 m]
              rw [hE] at this
              exact this
            have HRE := Lib.hid (HRp.out.alloc (.cells #[.int .i64 k, .int .i64 ST, .int .i64 CT, .int .i64 z, .int .u32 m] 24))
            have HBE := Lib.hid (HBp.out.alloc HBp.out.size (.cells #[.int .i64 k, .int .i64 ST, .int .i64 CT, .int .i64 z, .int .u32 m] 24))
            have hEl : w.heap.size < E := by have := HRp.out.lt; omega
            clear hLp
            go_wp2
            go_loopw [9] (fun kk wr => ∃ q : Nat, ST ≤ q ∧ q ≤ ST + CT ∧ kk = .int .i64 q ∧ Hid (IRow wr w.heap.size n (fun x => F x + onTo ST q x)) ∧ Hid (Blk wr E 24 #[.int .i64 k, .int .i64 ST, .int .i64 CT, .int .i64 z, .int .u32 m]) ∧ Hid (Below w.heap.size w wr)) (fun kk _ => ST + CT - (intOf kk).toNat)
            case atStart => exact ⟨ST, Nat.le_refl _, by omega, rfl, HRE.out.congr fun x _ => by unfold onTo; rw [if_neg (by omega)]; omega, HE0.out, HBE.out⟩
            case round =>
              obtain ⟨q, hq1, hq2, rfl, HRq, HEq, HBq⟩ := hrel
              obtain ⟨e0, e1, e2, e3, e4⟩ := cells5 HEq.out
              obtain ⟨D, hD⟩ := named (q - ST)
              have w1 : IntKind.i64.wrap ((q : Int) - ST) = (D : Int) := by rw [← hD.out, IntKind.wrap_i64] <;> omega
              by_cases hin : q < n ∧ D < CT
              · obtain ⟨h1, h2⟩ := hin
                have hDq := hD.out
                have c1 := HRq.out.cell h1
                have f1 := HRq.out.free q
                have hrl := HRq.out.lt
                have hb := HBD.out q
                have HS := Lib.hid (HRq.out.set h1 (F q + 1))
                have ho : onTo ST q q = 0 := by unfold onTo; rw [if_neg (by omega)]
                rw [ho, Int.add_zero] at c1
                obtain ⟨v, hv⟩ := named (F q)
                rw [hv.out] at c1 hb HS
                have w2 : IntKind.i64.wrap (v + 1) = v + 1 := by rw [IntKind.wrap_i64] <;> omega
                have hlt1 : q + 1 ≤ ST + CT := by omega
                clear ho hDq
                go_wp2
                go_roundw
                case rel =>
                  refine ⟨q + 1, by omega, hlt1, by go_num, HS.out.congr fun x _ => ?_, HEq.out.other (by omega) _, HBq.out.setCell (p := ⟨w.heap.size, q, none⟩) (Nat.le_refl _) _⟩
                  unfold onTo
                  by_cases e : x = q
                  · subst e
                    rw [if_pos rfl, if_pos (by omega), hv.out]
                  · rw [if_neg e]
                    by_cases e2 : (ST : Int) ≤ x ∧ x < q
                    · rw [if_pos e2, if_pos (by omega)]
                    · rw [if_neg e2, if_neg (by omega)]
                case measure => simp [intOf]; omega
              · have HN : Hid (IRow wr w.heap.size n (cntS ((0, 2) :: (L.take (p + 1)).map sgOf))) := HRq.out.congr fun x hx => by
                  have := hD.out
                  rw [HTK.out, onTo_all (ct := (CT : Int)) (n := n) (by omega) hx]
                have hcs : ¬ q < n ∨ (q < n ∧ ¬ D < CT) := by omega
                clear HRq
                rcases hcs with h1 | ⟨h1, h2⟩
                all_goals
                  go_wp2
                  go_roundw
                  case rel => exact ⟨p + 1, by omega, by go_num, HN.out, HBq.out⟩
                  case measure => simp [intOf]; omega
          · obtain rfl : p = len := by omega
            go_wp2
            go_ret
            exact ⟨w.heap.size, rfl, Nat.le_refl _, HRp.out.congr fun q _ => by rw [← hlL, List.take_length]; rfl, HBp.out⟩
theorem counted_bad (w : World) (a : Option Addr) (len cap : Nat) (n : Int) (h : n < 0 ∨ 65536 < n) :
    Calls Tryz.prog 72 #[.slice a len cap, .int .i64 n] w fun e w' => e = .returned (.slice none 0 0) ∧ w' = w := by
  have hcs : n < 0 ∨ (¬ n < 0 ∧ 65536 < n) := by omega
  clear h
  rcases hcs with h1 | ⟨h1, h2⟩
  all_goals
    go_enter Tryz.func72, Tryz.ntmps72
    go_wp2
    go_ret
    exact ⟨rfl, rfl⟩
/-- The lines of a right meta are within bounds. -/
theorem all_ok {w : World} {a0 : Option Addr} {n0 c0 : Nat} {T : Tb} {sa : Option Addr} {sn : Nat} {S : List Sh} (hT : Tab w a0 n0 c0 T) (hS : ShsR w sa sn S) (hR : RightX T S) (hsn : sn ≤ 900) : ∀ x ∈ allLines T (S.map shT), LnOk x := by
  obtain ⟨v, hv⟩ := vtx_of (tabsX_ok hT hS hR hsn)
  rw [← lines_is hv]
  exact lnOk_all v
theorem refOf_any (w : World) (c s : Int) (bk : ByteArray) (a0 : Option Addr) (n0 c0 : Nat) (sa : Option Addr) (sn sc : Nat) (a5 : Option Addr) (n5 c5 : Nat) (a6 : Option Addr) (n6 c6 : Nat) (T : Tb) (S : List Sh)
    (hT : Tab w a0 n0 c0 T) (hS : ShsR w sa sn S) (hR : RightX T S) (hsn : sn ≤ 900) (n : Nat) (hn : n ≤ 65536) :
    Calls Tryz.prog 42 #[.agg #[.int .i64 c, .int .i64 s, .string bk, .slice a0 n0 c0, .slice sa sn sc, .slice a5 n5 c5, .slice a6 n6 c6], .int .i64 n] w fun e w' => ∃ R, e = .returned (.slice (some ⟨R, 0, none⟩) n n) ∧ w.heap.size ≤ R ∧ IRow w' R n (ofL (allLines T (S.map shT))) ∧ Below w.heap.size w w' := by
  have hb : Below w.heap.size w (w.alloc (.cells (mtC c s bk a0 n0 c0 sa sn sc (.slice a5 n5 c5) (.slice a6 n6 c6)) 41)) := (Below.refl _ _).alloc (Nat.le_refl _) _
  have HE := Lib.hid (refEachM_any (w.alloc (.cells (mtC c s bk a0 n0 c0 sa sn sc (.slice a5 n5 c5) (.slice a6 n6 c6)) 41)) c s bk a0 n0 c0 sa sn sc a5 n5 c5 a6 n6 c6 T S (hT.later hb) (hS.later hb) hR hsn)
  have HOK := Lib.hid (all_ok hT hS hR hsn)
  have HB := Lib.hid hb
  clear hT hS hR hb
  go_enter Tryz.func42, Tryz.ntmps42
  go_wp2_with (first
    | (go_at_call 22; refine HE.out.mono ?_; rintro e w2 ⟨a', N, c', rfl, h1, h2, h3⟩; have HC := Lib.hid (counted_any w2 a' N c' _ (h1.reads ln_rowed).1 HOK.out (by omega) n hn); have H3 := Lib.hid h3; clear h1 h2 h3)
    | (go_at_call 72; refine HC.out.mono ?_; rintro e w3 ⟨R, rfl, k1, k2, k3⟩))
  go_ret
  have hz := H3.out.size
  have hz0 := HB.out.size
  exact ⟨R, rfl, by omega, k2, HB.out.trans ((H3.out.mono hz0).trans (k3.mono (by omega)))⟩
theorem refOf_bad (w : World) (c s : Int) (bk : ByteArray) (a0 : Option Addr) (n0 c0 : Nat) (sa : Option Addr) (sn sc : Nat) (a5 : Option Addr) (n5 c5 : Nat) (a6 : Option Addr) (n6 c6 : Nat) (T : Tb) (S : List Sh)
    (hT : Tab w a0 n0 c0 T) (hS : ShsR w sa sn S) (hR : RightX T S) (hsn : sn ≤ 900) (n : Int) (hn : n < 0 ∨ 65536 < n) :
    Calls Tryz.prog 42 #[.agg #[.int .i64 c, .int .i64 s, .string bk, .slice a0 n0 c0, .slice sa sn sc, .slice a5 n5 c5, .slice a6 n6 c6], .int .i64 n] w fun e w' => e = .returned (.slice none 0 0) ∧ Below w.heap.size w w' := by
  have hb : Below w.heap.size w (w.alloc (.cells (mtC c s bk a0 n0 c0 sa sn sc (.slice a5 n5 c5) (.slice a6 n6 c6)) 41)) := (Below.refl _ _).alloc (Nat.le_refl _) _
  have HE := Lib.hid (refEachM_any (w.alloc (.cells (mtC c s bk a0 n0 c0 sa sn sc (.slice a5 n5 c5) (.slice a6 n6 c6)) 41)) c s bk a0 n0 c0 sa sn sc a5 n5 c5 a6 n6 c6 T S (hT.later hb) (hS.later hb) hR hsn)
  have HB := Lib.hid hb
  have HN := Lib.hid (fun w a len cap => counted_bad w a len cap n hn)
  clear hT hS hR hb hn
  go_enter Tryz.func42, Tryz.ntmps42
  go_wp2_with (first
    | (go_at_call 22; refine HE.out.mono ?_; rintro e w2 ⟨a', N, c', rfl, h1, h2, h3⟩; have H3 := Lib.hid h3; clear h1 h2 h3)
    | (go_at_call 72; refine (HN.out _ _ _ _).mono ?_; rintro e w3 ⟨rfl, rfl⟩))
  go_ret
  exact ⟨rfl, HB.out.trans (H3.out.mono HB.out.size)⟩
theorem of_bad (w : World) (c s : Int) (bk : ByteArray) (a0 : Option Addr) (n0 c0 : Nat) (sa : Option Addr) (sn sc : Nat) (a5 : Option Addr) (n5 c5 : Nat) (a6 : Option Addr) (n6 c6 : Nat) (n : Int) (hn : n < 0 ∨ 65536 < n) :
    Calls Tryz.prog 70 #[.agg #[.int .i64 c, .int .i64 s, .string bk, .slice a0 n0 c0, .slice sa sn sc, .slice a5 n5 c5, .slice a6 n6 c6], .int .i64 n] w fun e w' => e = .returned (.slice none 0 0) ∧ Below w.heap.size w w' := by
  have hb : Below w.heap.size w (w.alloc (.cells (mtC c s bk a0 n0 c0 sa sn sc (.slice a5 n5 c5) (.slice a6 n6 c6)) 41)) := (Below.refl _ _).alloc (Nat.le_refl _) _
  have HB := Lib.hid hb
  have hwi : decide (0 ≤ n ∧ n ≤ 65536) = false := decide_eq_false (by omega)
  have HWI := Lib.hid (fun w => within0 n 0 65536 hwi w)
  clear hb hwi hn
  go_enter Tryz.func70, Tryz.ntmps70
  go_wp2_with (go_at_call 92; refine (HWI.out _).mono ?_; rintro e w1 ⟨rfl, rfl⟩)
  go_ret
  exact ⟨rfl, HB.out⟩
end Go.Proofs.YtlljcdmblmkblaaGreat
namespace Go.Proofs.YtlljcdmblmkblaaGreat
open Go.RowKit
set_option linter.unusedVariables false

/-- A slice of ints that reads as f. -/
def IntsR (w : World) (a : Option Addr) (len : Nat) (f : Nat → Int) : Prop := len ≤ 9223372036854775807 ∧ (0 < len → ∃ b off, a = some ⟨b, off, none⟩ ∧ b < w.heap.size ∧ ∀ i, i < len → w.cell? ⟨b, off + i, none⟩ = some (.int .i64 (f i)))
theorem IntsR.later {w w' : World} {a : Option Addr} {len : Nat} {f : Nat → Int} (h : IntsR w a len f) (hb : Below w.heap.size w w') : IntsR w' a len f :=
  ⟨h.1, fun h0 => by
    obtain ⟨b, off, h1, h2, h3⟩ := h.2 h0
    exact ⟨b, off, h1, Nat.lt_of_lt_of_le h2 hb.size, fun i hi => (hb.cell (p := ⟨b, off + i, none⟩) h2).trans (h3 i hi)⟩⟩
theorem IRow.ints {w : World} {b n : Nat} {f : Nat → Int} (h : IRow w b n f) (hn : n ≤ 100000) : IntsR w (some ⟨b, 0, none⟩) n f :=
  ⟨by omega, fun h0 => ⟨b, 0, rfl, h.lt, fun i hi => by rw [Nat.zero_add]; exact h.cell hi⟩⟩
theorem IntsR.nil (w : World) (a : Option Addr) (f : Nat → Int) : IntsR w a 0 f := ⟨by omega, fun h => absurd h (by omega)⟩
/-- A place is free. -/
def freeAt (f : Nat → Int) (len : Nat) (n t : Int) : Prop := ∀ k : Nat, t ≤ k → (k : Int) < t + n → k < len → f k = 0
/-- The document's answer: the least free place, or none. -/
def FreeP (f : Nat → Int) (len : Nat) (n fr mo s : Int) (ok : Bool) : Prop :=
  (ok = true ∧ (1 ≤ n ∧ 0 ≤ fr) ∧ fr ≤ s ∧ s ≤ mo - n ∧ freeAt f len n s ∧ ∀ t, fr ≤ t → t < s → ¬ freeAt f len n t) ∨
  (ok = false ∧ s = 0 ∧ (n < 1 ∨ fr < 0 ∨ ∀ t, fr ≤ t → t ≤ mo - n → ¬ freeAt f len n t))
def FreeQ (f : Nat → Int) (len : Nat) (n fr mo : Int) (w : World) (e : Ending) (w' : World) : Prop := ∃ (s : Int) (ok : Bool), e = .returned (.tuple #[.int .i64 s, .bool ok]) ∧ FreeP f len n fr mo s ok ∧ w' = w
theorem FreeP.one {f : Nat → Int} {len : Nat} {n fr mo s s' : Int} {ok ok' : Bool} (h : FreeP f len n fr mo s ok) (h' : FreeP f len n fr mo s' ok') : s = s' ∧ ok = ok' := by
  rcases h with ⟨rfl, a1, a2, a3, a4, a5⟩ | ⟨rfl, rfl, a1⟩ <;> rcases h' with ⟨rfl, b1, b2, b3, b4, b5⟩ | ⟨rfl, rfl, b1⟩
  · refine ⟨?_, rfl⟩
    rcases Int.lt_trichotomy s s' with h | h | h
    · exact absurd a4 (b5 s a2 h)
    · exact h
    · exact absurd b4 (a5 s' b2 h)
  · rcases b1 with h | h | h
    · omega
    · omega
    · exact absurd a4 (h s a2 a3)
  · rcases a1 with h | h | h
    · omega
    · omega
    · exact absurd b4 (h s' b2 b3)
  · exact ⟨rfl, rfl⟩
/-- Are two lists one? -/
def sameI (f g : Nat → Int) (n : Nat) : Prop := ∀ j, j < n → f j = g j
open Classical in
set_option maxHeartbeats 1600000 in
theorem ints_any (w : World) (a1 a2 : Option Addr) (n1 n2 c1 c2 : Nat) (f g : Nat → Int) (h1 : IntsR w a1 n1 f) (h2 : IntsR w a2 n2 g) {R : Bool} (hR : R = true ↔ n1 = n2 ∧ sameI f g n1) :
    Calls Tryz.prog 44 #[.slice a1 n1 c1, .slice a2 n2 c2] w fun e w' => e = .returned (.bool R) ∧ Below w.heap.size w w' := by
  have hl1 := h1.1
  have hl2 := h2.1
  have HR := Lib.hid hR
  by_cases hn : n1 = n2
  · subst hn
    have H1 := Lib.hid h1
    have H2 := Lib.hid h2
    clear h1 h2 hR
    go_enter Tryz.func44, Tryz.ntmps44
    go_wp2
    go_loopw [5] (fun i wr => ∃ j : Nat, j ≤ n1 ∧ i = .int .i64 j ∧ Hid (sameI f g j) ∧ Hid (Below w.heap.size w wr)) (fun i _ => n1 - (intOf i).toNat)
    case atStart => exact ⟨0, Nat.zero_le _, by first | rfl | trivial, fun k hk => by omega, Below.refl _ _⟩
    case round =>
      obtain ⟨j, hj, rfl, HS, HB⟩ := hrel
      by_cases hlt : j < n1
      · obtain ⟨b1, o1, rfl, _, k1⟩ := (H1.out.later HB.out).2 (by omega)
        obtain ⟨b2, o2, rfl, _, k2⟩ := (H2.out.later HB.out).2 (by omega)
        have x1 := k1 j hlt
        have x2 := k2 j hlt
        clear k1 k2
        by_cases he : f j = g j
        · have HS2 : Hid (sameI f g (j + 1)) := fun k hk => by
            by_cases e : k = j
            · rw [e]; exact he
            · exact HS.out k (by omega)
          have hne : (f j != g j) = false := by simp [he]
          obtain ⟨v1, hv1⟩ := named (f j)
          obtain ⟨v2, hv2⟩ := named (g j)
          rw [hv1.out] at x1 hne
          rw [hv2.out] at x2 hne
          have HBd : Hid (∀ k, Below w.heap.size w (wr.drewN k)) := fun k => ⟨HB.out.os, HB.out.tape, HB.out.output, HB.out.size, HB.out.block⟩
          clear he
          go_wp2
          go_quiet (fail)
          go_wp2
          go_roundw
          case rel => exact ⟨j + 1, by omega, by go_num, HS2.out, HBd.out _⟩
          case measure => simp [intOf]; omega
        · have hr : R = false := by
            cases R with
            | false => rfl
            | true => exact absurd ((HR.out.1 rfl).2 j hlt) he
          have hne : (f j != g j) = true := by simp [he]
          obtain ⟨v1, hv1⟩ := named (f j)
          obtain ⟨v2, hv2⟩ := named (g j)
          rw [hv1.out] at x1 hne
          rw [hv2.out] at x2 hne
          have HBd : Hid (∀ k, Below w.heap.size w (wr.drewN k)) := fun k => ⟨HB.out.os, HB.out.tape, HB.out.output, HB.out.size, HB.out.block⟩
          subst hr
          clear he
          go_wp2
          go_quiet (fail)
          go_wp2
          go_ret
          exact ⟨by first | rfl | trivial, HBd.out _⟩
      · obtain rfl : j = n1 := by omega
        have hr : R = true := HR.out.2 ⟨by first | rfl | trivial, HS.out⟩
        subst hr
        go_wp2
        go_ret
        exact ⟨by first | rfl | trivial, HB.out⟩
  · have hr : R = false := by
      cases R with
      | false => rfl
      | true => exact absurd (hR.1 rfl).1 hn
    subst hr
    clear h1 h2 hR HR
    go_enter Tryz.func44, Tryz.ntmps44
    go_wp2
    go_ret
    exact ⟨by first | rfl | trivial, Below.refl _ _⟩
end Go.Proofs.YtlljcdmblmkblaaGreat
namespace Go.Proofs.YtlljcdmblmkblaaGreat
open Go.RowKit
set_option linter.unusedVariables false

def ex0 (i : Nat) : Int := [1, 1, 0, 1].getD i 0
theorem ex0_ints (w : World) : IntsR (w.alloc (.cells #[.int .i64 1, .int .i64 1, .int .i64 0, .int .i64 1] 3)) (some ⟨w.heap.size, 0, none⟩) 4 ex0 := by
  refine ⟨by omega, fun _ => ⟨_, 0, rfl, by simp, fun i hi => ?_⟩⟩
  rw [Nat.zero_add, World.cell?_alloc_new]
  obtain rfl | rfl | rfl | rfl : i = 0 ∨ i = 1 ∨ i = 2 ∨ i = 3 := by omega
  all_goals rfl
theorem ex0_one : FreeP ex0 4 1 0 100 2 true := by
  refine Or.inl ⟨rfl, by omega, by omega, by omega, fun k h1 h2 h3 => ?_, fun t h1 h2 hf => ?_⟩
  · obtain rfl : k = 2 := by omega
    rfl
  · obtain rfl | rfl : t = 0 ∨ t = 1 := by omega
    · exact absurd (hf 0 (by omega) (by omega) (by omega)) (by decide)
    · exact absurd (hf 1 (by omega) (by omega) (by omega)) (by decide)
theorem ex0_two : FreeP ex0 4 2 0 100 4 true := by
  refine Or.inl ⟨rfl, by omega, by omega, by omega, fun k h1 h2 h3 => by omega, fun t h1 h2 hf => ?_⟩
  obtain rfl | rfl | rfl | rfl : t = 0 ∨ t = 1 ∨ t = 2 ∨ t = 3 := by omega
  · exact absurd (hf 0 (by omega) (by omega) (by omega)) (by decide)
  · exact absurd (hf 1 (by omega) (by omega) (by omega)) (by decide)
  · exact absurd (hf 3 (by omega) (by omega) (by omega)) (by decide)
  · exact absurd (hf 3 (by omega) (by omega) (by omega)) (by decide)
theorem right_none : RightX [] [] := ⟨0, ⟨4096, right_nil (by omega)⟩, fun d hd => by cases hd⟩
end Go.Proofs.YtlljcdmblmkblaaGreat
namespace Go.Proofs.YtlljcdmblmkblaaGreat
open Go.RowKit
set_option linter.unusedVariables false

/-- A bitmap: name, flag, its slice, its spans. -/
abbrev Bm := ByteArray × Bool × Option Addr × Nat × Nat × List Sp
def bmV (d : Bm) : List Value := [.string d.1, .bool d.2.1, .slice d.2.2.1 d.2.2.2.1 d.2.2.2.2.1]
def bmL (d : Bm) : List Sp := d.2.2.2.2.2
theorem bm_rowed : Rowed Tryz.prog 38 92 3 48 bmV where
  under := Tryz.underlying38
  info := by
    have h : (Tryz.prog.info? 92).map (fun i => (i.zero.map (fun z => z.cells.size), i.size, i.bytes)) = some (some 3, 3, 48) := by kernel_rfl
    obtain ⟨i, hi, he⟩ := Option.map_eq_some_iff.1 h
    simp only [Prod.mk.injEq] at he
    obtain ⟨z, hz, hzs⟩ := Option.map_eq_some_iff.1 he.1
    exact ⟨i, z, hi, hz, he.2.1, he.2.2, hzs⟩
  pos := by decide
  small := by decide
  len := fun _ => rfl
  one := fun d u hu => by
    simp only [bmV, List.mem_cons, List.not_mem_nil, or_false] at hu
    rcases hu with rfl | rfl | rfl <;> rfl
def ivV (z : Int) : List Value := [.int .i64 z]
theorem iv_rowed : Rowed Tryz.prog 39 3 1 8 ivV where
  under := Tryz.underlying39
  info := by
    have h : (Tryz.prog.info? 3).map (fun i => (i.zero.map (fun z => z.cells.size), i.size, i.bytes)) = some (some 1, 1, 8) := by kernel_rfl
    obtain ⟨i, hi, he⟩ := Option.map_eq_some_iff.1 h
    simp only [Prod.mk.injEq] at he
    obtain ⟨z, hz, hzs⟩ := Option.map_eq_some_iff.1 he.1
    exact ⟨i, z, hi, hz, he.2.1, he.2.2, hzs⟩
  pos := by decide
  small := by decide
  len := fun _ => rfl
  one := fun d u hu => by
    simp only [ivV, List.mem_cons, List.not_mem_nil, or_false] at hu
    subst hu
    rfl

/-- Plain shots, bitmaps, metas. -/
abbrev ShM := ByteArray × Int × Tb
abbrev BmM := ByteArray × Bool × List Sp
def shM (d : Sh) : ShM := (d.1, d.2.1, shT d)
def bmM (d : Bm) : BmM := (d.1, d.2.1, bmL d)
structure MM where
  c : Int
  s : Int
  bk : ByteArray
  T : Tb
  S : List ShM
  B : List BmM
  K : List Int
/-- Where a meta's parts lie. -/
structure Mt where
  a0 : Option Addr
  n0 : Nat
  c0 : Nat
  sa : Option Addr
  sn : Nat
  sc : Nat
  ma : Option Addr
  mn : Nat
  mc : Nat
  ca : Option Addr
  cn : Nat
  cc : Nat
def mtA (M : MM) (x : Mt) : Array Value := #[.int .i64 M.c, .int .i64 M.s, .string M.bk, .slice x.a0 x.n0 x.c0, .slice x.sa x.sn x.sc, .slice x.ma x.mn x.mc, .slice x.ca x.cn x.cc]
theorem meta_size : (Tryz.prog.info? 41).map (·.size) = some 7 := by kernel_rfl
theorem shot_size : (Tryz.prog.info? 77).map (·.size) = some 3 := by kernel_rfl
theorem cells7 {W : World} {M : Nat} {v0 v1 v2 v3 v4 v5 v6 : Value} (h : Blk W M 41 #[v0, v1, v2, v3, v4, v5, v6]) :
    W.cell? ⟨M, 0, none⟩ = some v0 ∧ W.cell? ⟨M, 1, none⟩ = some v1 ∧ W.cell? ⟨M, 2, none⟩ = some v2 ∧ W.cell? ⟨M, 3, none⟩ = some v3 ∧ W.cell? ⟨M, 4, none⟩ = some v4 ∧ W.cell? ⟨M, 5, none⟩ = some v5 ∧ W.cell? ⟨M, 6, none⟩ = some v6 := by
  refine ⟨?_, ?_, ?_, ?_, ?_, ?_, ?_⟩ <;> (rw [h.cell]; rfl)
theorem free7 {W : World} {M : Nat} {t : TypeId} {cs : Array Value} (h : Blk W M t cs) :
    W.frozen? ⟨M, 0, none⟩ = false ∧ W.frozen? ⟨M, 1, none⟩ = false ∧ W.frozen? ⟨M, 2, none⟩ = false ∧ W.frozen? ⟨M, 3, none⟩ = false ∧ W.frozen? ⟨M, 4, none⟩ = false ∧ W.frozen? ⟨M, 5, none⟩ = false ∧ W.frozen? ⟨M, 6, none⟩ = false :=
  ⟨h.free 0, h.free 1, h.free 2, h.free 3, h.free 4, h.free 5, h.free 6⟩
theorem cells3 {W : World} {E : Nat} {t : TypeId} {a b c : Value} (h : Blk W E t #[a, b, c]) : W.cell? ⟨E, 0, none⟩ = some a ∧ W.cell? ⟨E, 1, none⟩ = some b ∧ W.cell? ⟨E, 2, none⟩ = some c := by
  refine ⟨?_, ?_, ?_⟩ <;> (rw [h.cell]; rfl)
theorem free3 {W : World} {E : Nat} {t : TypeId} {cs : Array Value} (h : Blk W E t cs) : W.frozen? ⟨E, 0, none⟩ = false ∧ W.frozen? ⟨E, 1, none⟩ = false ∧ W.frozen? ⟨E, 2, none⟩ = false := ⟨h.free 0, h.free 1, h.free 2⟩

/-- What reads. -/

def SpD (w : World) (a : Option Addr) (len cap : Nat) (l : List Sp) : Prop := Spans w a len l ∧ Caps a len cap ∧ len ≤ 100000 ∧ SpFit l
def BmsR (w : World) (a : Option Addr) (len : Nat) (ds : List Bm) : Prop := Reads bmV w a len ds ∧ ∀ d ∈ ds, SpD w d.2.2.1 d.2.2.2.1 d.2.2.2.2.1 (bmL d)
def ShMok (d : ShM) : Prop := I64 d.2.1 ∧ d.1.size ≤ 9223372036854775807
def ShsD (w : World) (a : Option Addr) (len cap : Nat) (S : List ShM) : Prop := ∃ ds, ShsR w a len ds ∧ ds.map shM = S ∧ Caps a len cap ∧ len ≤ 1000 ∧ ∀ d ∈ S, ShMok d
def BmsD (w : World) (a : Option Addr) (len cap : Nat) (B : List BmM) : Prop := ∃ ds, BmsR w a len ds ∧ ds.map bmM = B ∧ Caps a len cap ∧ len ≤ 1000 ∧ ∀ d ∈ B, d.1.size ≤ 9223372036854775807
def IntsD (w : World) (a : Option Addr) (len cap : Nat) (K : List Int) : Prop := Reads ivV w a len K ∧ Caps a len cap ∧ len ≤ 1000000
structure MetaD (w : World) (x : Mt) (M : MM) : Prop where
  hc : I64 M.c
  hs : I64 M.s
  hbk : M.bk.size ≤ 9223372036854775807
  T : Tab w x.a0 x.n0 x.c0 M.T
  S : ShsD w x.sa x.sn x.sc M.S
  B : BmsD w x.ma x.mn x.mc M.B
  K : IntsD w x.ca x.cn x.cc M.K
section
variable {w w' : World} {a : Option Addr} {len cap : Nat}
theorem SpD.later {l : List Sp} (h : SpD w a len cap l) (hb : Below w.heap.size w w') : SpD w' a len cap l := ⟨h.1.later hb, h.2⟩
theorem SpD.nil (w : World) : SpD w none 0 0 [] := ⟨Reads.nil _ _ _, ⟨fun _ => rfl, Nat.le_refl _⟩, Nat.zero_le _, fun x hx => by cases hx⟩
theorem BmsR.later {ds : List Bm} (h : BmsR w a len ds) (hb : Below w.heap.size w w') : BmsR w' a len ds := ⟨h.1.later hb, fun d hd => (h.2 d hd).later hb⟩
theorem ShsD.later {S : List ShM} (h : ShsD w a len cap S) (hb : Below w.heap.size w w') : ShsD w' a len cap S := by
  obtain ⟨ds, h1, h2⟩ := h
  exact ⟨ds, h1.later hb, h2⟩
theorem BmsD.later {B : List BmM} (h : BmsD w a len cap B) (hb : Below w.heap.size w w') : BmsD w' a len cap B := by
  obtain ⟨ds, h1, h2⟩ := h
  exact ⟨ds, h1.later hb, h2⟩
theorem IntsD.later {K : List Int} (h : IntsD w a len cap K) (hb : Below w.heap.size w w') : IntsD w' a len cap K := ⟨h.1.later hb, h.2⟩
theorem MetaD.later {x : Mt} {M : MM} (h : MetaD w x M) (hb : Below w.heap.size w w') : MetaD w' x M := ⟨h.hc, h.hs, h.hbk, h.T.later hb, h.S.later hb, h.B.later hb, h.K.later hb⟩
theorem ShsD.lens {S : List ShM} (h : ShsD w a len cap S) : S.length = len ∧ len ≤ 1000 := by
  obtain ⟨ds, h1, h2, _, h3, _⟩ := h
  rw [← h2, List.length_map]
  exact ⟨h1.1.1, h3⟩
theorem BmsD.lens {B : List BmM} (h : BmsD w a len cap B) : B.length = len ∧ len ≤ 1000 := by
  obtain ⟨ds, h1, h2, _, h3, _⟩ := h
  rw [← h2, List.length_map]
  exact ⟨h1.1.1, h3⟩
theorem row3_at {α : Type} {cv : α → List Value} {P : Program} {t e : TypeId} {bytes : Nat} (R : Rowed P t e 3 bytes cv) {ds : List α} (h : Reads cv w a len ds) (i : Nat) (hi : i < len) : ∃ b off d, a = some ⟨b, off, none⟩ ∧ ds[i]? = some d ∧ b < w.heap.size ∧
    w.cell? ⟨b, off + i * 3, none⟩ = (cv d)[0]? ∧ w.cell? ⟨b, off + i * 3 + 1, none⟩ = (cv d)[1]? ∧ w.cell? ⟨b, off + i * 3 + 2, none⟩ = (cv d)[2]? := by
  have hl := h.1
  obtain ⟨d, hx⟩ : ∃ d, ds[i]? = some d := ⟨_, List.getElem?_eq_getElem (by omega)⟩
  have hlen := R.len d
  obtain ⟨_, _, h3⟩ := id h
  obtain ⟨b, off, rfl, hlt, _⟩ := h3.resolve_left (by omega)
  refine ⟨b, off, d, rfl, hx, hlt, ?_, ?_, ?_⟩
  · rw [List.getElem?_eq_getElem (by omega)]
    exact h.cellAt R i 0 _ _ hx (List.getElem?_eq_getElem (by omega))
  · rw [List.getElem?_eq_getElem (by omega)]
    have := h.cellAt R i 1 _ _ hx (List.getElem?_eq_getElem (by omega))
    rwa [← Nat.add_assoc] at this
  · rw [List.getElem?_eq_getElem (by omega)]
    have := h.cellAt R i 2 _ _ hx (List.getElem?_eq_getElem (by omega))
    rwa [← Nat.add_assoc] at this
/-- The shot at a place. -/
theorem ShsD.at {S : List ShM} (h : ShsD w a len cap S) (i : Nat) (hi : i < len) : ∃ b off nm sz al ll cl T, a = some ⟨b, off, none⟩ ∧ S[i]? = some (nm, sz, T) ∧ b < w.heap.size ∧ ShMok (nm, sz, T) ∧
    w.cell? ⟨b, off + i * 3, none⟩ = some (.string nm) ∧ w.cell? ⟨b, off + i * 3 + 1, none⟩ = some (.int .i64 sz) ∧ w.cell? ⟨b, off + i * 3 + 2, none⟩ = some (.slice al ll cl) ∧ Tab w al ll cl T := by
  obtain ⟨ds, h1, rfl, _, _, h2⟩ := h
  obtain ⟨b, off, ⟨nm, sz, al, ll, cl, T⟩, e, hx, hlt, x0, x1, x2⟩ := row3_at sh_rowed h1.1 i hi
  have hm := List.mem_of_getElem? hx
  exact ⟨b, off, nm, sz, al, ll, cl, T, e, by rw [List.getElem?_map, hx]; rfl, hlt, h2 _ (List.mem_map.2 ⟨_, hm, rfl⟩), x0, x1, x2, h1.2 _ hm⟩
/-- The bitmap at a place. -/
theorem BmsD.at {B : List BmM} (h : BmsD w a len cap B) (i : Nat) (hi : i < len) : ∃ b off nm on al ll cl l, a = some ⟨b, off, none⟩ ∧ B[i]? = some (nm, on, l) ∧ b < w.heap.size ∧ nm.size ≤ 9223372036854775807 ∧
    w.cell? ⟨b, off + i * 3, none⟩ = some (.string nm) ∧ w.cell? ⟨b, off + i * 3 + 1, none⟩ = some (.bool on) ∧ w.cell? ⟨b, off + i * 3 + 2, none⟩ = some (.slice al ll cl) ∧ SpD w al ll cl l := by
  obtain ⟨ds, h1, rfl, _, _, h2⟩ := h
  obtain ⟨b, off, ⟨nm, on, al, ll, cl, l⟩, e, hx, hlt, x0, x1, x2⟩ := row3_at bm_rowed h1.1 i hi
  have hm := List.mem_of_getElem? hx
  exact ⟨b, off, nm, on, al, ll, cl, l, e, by rw [List.getElem?_map, hx]; rfl, hlt, h2 (nm, on, l) (List.mem_map.2 ⟨_, hm, rfl⟩), x0, x1, x2, h1.2 _ hm⟩
end

/-- A table of one's own, its blocks among F. -/
def TabF (w : World) (base : Nat) (F : Nat → Prop) (a : Option Addr) (len cap : Nat) (T : Tb) : Prop :=
  ∃ es, TabQ w base a len cap es es ∧ tbOf es = T ∧ len ≤ 6000 ∧ (∀ lf ∈ T, lf.length ≤ 1000000) ∧ (∀ k, (Value.slice a len cap).ownBlock = some k → F k) ∧ ∀ d ∈ es, ∀ k, blkD d = some k → F k
def From (base : Nat) : Nat → Prop := fun k => base ≤ k
def Iv (lo hi : Nat) : Nat → Prop := fun k => lo ≤ k ∧ k < hi
section
variable {w w' : World} {base len cap : Nat} {F G : Nat → Prop} {a : Option Addr} {T : Tb}
theorem TabF.n (h : TabF w base F a len cap T) : TabN w base a len cap T := by
  obtain ⟨es, h1, h2, h3, h4, _⟩ := h
  exact ⟨es, h1, h2, h3, h4⟩
theorem TabF.kept (h : TabF w base F a len cap T) {row : Option Nat} (hg : w.grownBy w' row) (hr : ∀ k, row = some k → ¬ F k) : TabF w' base F a len cap T := by
  obtain ⟨es, h1, h2, h3, h4, h5, h6⟩ := h
  exact ⟨es, h1.kept hg (fun k hk e => hr k e (h5 k hk)) (fun d hd k hk e => hr k e (h6 d hd k hk)), h2, h3, h4, h5, h6⟩
theorem TabF.later (h : TabF w base F a len cap T) (hb : Below w.heap.size w w') : TabF w' base F a len cap T := h.kept (grown_of_below hb) (fun _ e => by cases e)
theorem TabF.mono (h : TabF w base F a len cap T) {base' : Nat} (hb : base' ≤ base) (hF : ∀ k, base ≤ k → F k → G k) : TabF w base' G a len cap T := by
  obtain ⟨es, h1, h2, h3, h4, h5, h6⟩ := h
  exact ⟨es, h1.mono hb, h2, h3, h4, fun k hk => hF k (h1.out.1.lt k hk).1 (h5 k hk), fun d hd k hk => hF k ((h1.leaf d hd).lt hk).1 (h6 d hd k hk)⟩
theorem TabN.f (h : TabN w base a len cap T) : TabF w base (Iv base w.heap.size) a len cap T := by
  obtain ⟨es, h1, h2, h3, h4⟩ := h
  exact ⟨es, h1, h2, h3, h4, fun k hk => h1.out.1.lt k hk, fun d hd k hk => (h1.leaf d hd).lt hk⟩
theorem TabN.typed (h : TabN w base a len cap T) {Y : Nat} {ty : TypeId} {cs : Array Value} (hY : Blk w Y ty cs) (h1 : ty ≠ 68) (h2 : ty ≠ 24) (hg : w.grownBy w' (some Y)) : TabN w' base a len cap T := by
  obtain ⟨es, hq, hr⟩ := h
  exact ⟨es, hq.kept hg (fun k hk e => by cases e; exact hY.not_row h1 hq.out hk.symm) (fun d hd k hk e => by cases e; exact hY.not_row h2 (hq.leaf d hd).1 hk.symm), hr⟩
theorem TabN.row (h : TabN w base a len cap T) {α : Type} {cv : α → List Value} {e : TypeId} {sz base' n : Nat} {v : Value} {l : List α} (hv : OwnG cv e sz w base' v n l) (h1 : e ≠ 68) (h2 : e ≠ 24) (hg : w.grownBy w' v.ownBlock) : TabN w' base a len cap T := by
  obtain ⟨es, hq, hr⟩ := h
  exact ⟨es, hq.kept hg (fun k hk e => row_apart hv hq.out h1 k e hk) (fun d hd k hk e => row_apart hv (hq.leaf d hd).1 h2 k e hk), hr⟩
theorem TabF.typed (h : TabF w base F a len cap T) {Y : Nat} {ty : TypeId} {cs : Array Value} (hY : Blk w Y ty cs) (h1 : ty ≠ 68) (h2 : ty ≠ 24) (hg : w.grownBy w' (some Y)) : TabF w' base F a len cap T := by
  obtain ⟨es, hq, hr⟩ := h
  exact ⟨es, hq.kept hg (fun k hk e => by cases e; exact hY.not_row h1 hq.out hk.symm) (fun d hd k hk e => by cases e; exact hY.not_row h2 (hq.leaf d hd).1 hk.symm), hr⟩
theorem TabF.row (h : TabF w base F a len cap T) {α : Type} {cv : α → List Value} {e : TypeId} {sz base' n : Nat} {v : Value} {l : List α} (hv : OwnG cv e sz w base' v n l) (h1 : e ≠ 68) (h2 : e ≠ 24) (hg : w.grownBy w' v.ownBlock) : TabF w' base F a len cap T := by
  obtain ⟨es, hq, hr⟩ := h
  exact ⟨es, hq.kept hg (fun k hk e => row_apart hv hq.out h1 k e hk) (fun d hd k hk e => row_apart hv (hq.leaf d hd).1 h2 k e hk), hr⟩
theorem TabF.nil (w : World) (base : Nat) (F : Nat → Prop) : TabF w base F none 0 0 [] := ⟨[], TabQ.first _ _, rfl, Nat.zero_le _, by simp, fun k hk => by simp [Value.ownBlock] at hk, fun d hd => by cases hd⟩
end
/-- A turn of the world that leaves rows of tables, spans and ints alone: it turns one block of another type. -/
def Off (w : World) (row : Option Nat) (e : TypeId) : Prop := ∀ k o, row = some k → w.heap[k]? = some o → ∀ cs fr, o ≠ .cells cs e fr
theorem Blk.off {w : World} {Y : Nat} {ty : TypeId} {cs : Array Value} (hY : Blk w Y ty cs) {e : TypeId} (h : ty ≠ e) : Off w (some Y) e := fun k o hk ho cs' fr heq => by
  cases hk
  rw [show w.heap[Y]? = _ from hY] at ho
  cases ho
  cases heq
  exact h rfl
theorem Off.none (w : World) (e : TypeId) : Off w none e := fun k o hk => by cases hk
theorem OwnG.off {α : Type} {cv : α → List Value} {e' : TypeId} {sz : Nat} {w : World} {base n : Nat} {v : Value} {l : List α} (h : OwnG cv e' sz w base v n l) {e : TypeId} (hne : e' ≠ e) : Off w v.ownBlock e := fun k o hk ho cs' fr heq => by
  rcases h.1.2 with ⟨rfl, _⟩ | ⟨g, cap, cur, rfl, _, hg, _⟩
  · simp [Value.ownBlock] at hk
  · have : g = k := by simpa [Value.ownBlock] using hk
    subst this
    rw [hg] at ho
    cases ho
    cases heq
    exact hne rfl
theorem Off.row {α : Type} {cv : α → List Value} {e : TypeId} {sz : Nat} {w w' : World} {base n : Nat} {v : Value} {l : List α} {row : Option Nat} (ho : Off w row e) (h : OwnG cv e sz w base v n l) (hg : w.grownBy w' row) : OwnG cv e sz w' base v n l :=
  h.kept' hg fun k hk er => by
    rcases h.1.2 with ⟨rfl, _⟩ | ⟨g, cap, cur, rfl, _, hgb, _⟩
    · simp [Value.ownBlock] at hk
    · have : g = k := by simpa [Value.ownBlock] using hk
      subst this
      exact ho g _ er hgb _ _ rfl
theorem Off.tabF {w w' : World} {base len cap : Nat} {F : Nat → Prop} {a : Option Addr} {T : Tb} {row : Option Nat} (h1 : Off w row 68) (h2 : Off w row 24) (h : TabF w base F a len cap T) (hg : w.grownBy w' row) : TabF w' base F a len cap T := by
  obtain ⟨es, hq, hr⟩ := h
  have key : ∀ {e : TypeId} {α : Type} {cv : α → List Value} {sz n : Nat} {v : Value} {l : List α}, Off w row e → OwnG cv e sz w base v n l → ∀ k, v.ownBlock = some k → row ≠ some k := fun ho hO k hk er => by
    rcases hO.1.2 with ⟨rfl, _⟩ | ⟨g, cap, cur, rfl, _, hgb, _⟩
    · simp [Value.ownBlock] at hk
    · have : g = k := by simpa [Value.ownBlock] using hk
      subst this
      exact ho g _ er hgb _ _ rfl
  exact ⟨es, hq.kept hg (key h1 hq.out) (fun d hd k hk => key h2 (hq.leaf d hd).1 k hk), hr⟩

/-- Spans, shots, bitmaps, counts of one's own. -/
def SpN (w : World) (base : Nat) (a : Option Addr) (len cap : Nat) (l : List Sp) : Prop := OwnSp w base (.slice a len cap) len l ∧ len ≤ 100000 ∧ SpFit l
def ShsN (w : World) (base : Nat) (F : Nat → Prop) (a : Option Addr) (len cap : Nat) (S : List ShM) : Prop :=
  ∃ ds : List Sh, OwnG shV 77 3 w base (.slice a len cap) len ds ∧ (∀ d ∈ ds, TabF w base F d.2.2.1 d.2.2.2.1 d.2.2.2.2.1 (shT d)) ∧ ds.map shM = S ∧ len ≤ 1000 ∧ ∀ d ∈ S, ShMok d
def BmsN (w : World) (base : Nat) (a : Option Addr) (len cap : Nat) (B : List BmM) : Prop :=
  ∃ ds : List Bm, OwnG bmV 92 3 w base (.slice a len cap) len ds ∧ (∀ d ∈ ds, SpN w base d.2.2.1 d.2.2.2.1 d.2.2.2.2.1 (bmL d)) ∧ ds.map bmM = B ∧ len ≤ 1000 ∧ ∀ d ∈ B, d.1.size ≤ 9223372036854775807
def IntsN (w : World) (base : Nat) (a : Option Addr) (len cap : Nat) (K : List Int) : Prop := OwnG ivV 3 1 w base (.slice a len cap) len K ∧ len ≤ 1000000
section
variable {w w' : World} {base len cap : Nat} {F G : Nat → Prop} {a : Option Addr} {row : Option Nat}
theorem SpN.d {l : List Sp} (h : SpN w base a len cap l) : SpD w a len cap l := ⟨(h.1.reads sp_rowed).1, (h.1.reads sp_rowed).2, h.2⟩
theorem ShsN.d {S : List ShM} (h : ShsN w base F a len cap S) : ShsD w a len cap S := by
  obtain ⟨ds, h1, h2, h3, h4⟩ := h
  exact ⟨ds, ⟨(h1.reads sh_rowed).1, fun d hd => (h2 d hd).n.tab⟩, h3, (h1.reads sh_rowed).2, h4⟩
theorem BmsN.d {B : List BmM} (h : BmsN w base a len cap B) : BmsD w a len cap B := by
  obtain ⟨ds, h1, h2, h3, h4⟩ := h
  exact ⟨ds, ⟨(h1.reads bm_rowed).1, fun d hd => (h2 d hd).d⟩, h3, (h1.reads bm_rowed).2, h4⟩
theorem IntsN.d {K : List Int} (h : IntsN w base a len cap K) : IntsD w a len cap K := ⟨(h.1.reads iv_rowed).1, (h.1.reads iv_rowed).2, h.2⟩
theorem SpN.off {l : List Sp} (h : SpN w base a len cap l) (ho : Off w row 96) (hg : w.grownBy w' row) : SpN w' base a len cap l := ⟨ho.row h.1 hg, h.2⟩
theorem ShsN.off {S : List ShM} (h : ShsN w base F a len cap S) (h0 : Off w row 77) (h1 : Off w row 68) (h2 : Off w row 24) (hg : w.grownBy w' row) : ShsN w' base F a len cap S := by
  obtain ⟨ds, k1, k2, k3⟩ := h
  exact ⟨ds, h0.row k1 hg, fun d hd => h1.tabF h2 (k2 d hd) hg, k3⟩
theorem BmsN.off {B : List BmM} (h : BmsN w base a len cap B) (h0 : Off w row 92) (h1 : Off w row 96) (hg : w.grownBy w' row) : BmsN w' base a len cap B := by
  obtain ⟨ds, k1, k2, k3⟩ := h
  exact ⟨ds, h0.row k1 hg, fun d hd => (k2 d hd).off h1 hg, k3⟩
theorem IntsN.off {K : List Int} (h : IntsN w base a len cap K) (h0 : Off w row 3) (hg : w.grownBy w' row) : IntsN w' base a len cap K := ⟨h0.row h.1 hg, h.2⟩
theorem SpN.mono {l : List Sp} (h : SpN w base a len cap l) {base' : Nat} (hb : base' ≤ base) : SpN w base' a len cap l := ⟨h.1.monoB hb, h.2⟩
theorem ShsN.mono {S : List ShM} (h : ShsN w base F a len cap S) {base' : Nat} (hb : base' ≤ base) (hF : ∀ k, base ≤ k → F k → G k) : ShsN w base' G a len cap S := by
  obtain ⟨ds, k1, k2, k3⟩ := h
  exact ⟨ds, k1.monoB hb, fun d hd => (k2 d hd).mono hb hF, k3⟩
theorem BmsN.mono {B : List BmM} (h : BmsN w base a len cap B) {base' : Nat} (hb : base' ≤ base) : BmsN w base' a len cap B := by
  obtain ⟨ds, k1, k2, k3⟩ := h
  exact ⟨ds, k1.monoB hb, fun d hd => (k2 d hd).mono hb, k3⟩
theorem IntsN.mono {K : List Int} (h : IntsN w base a len cap K) {base' : Nat} (hb : base' ≤ base) : IntsN w base' a len cap K := ⟨h.1.monoB hb, h.2⟩
end
/-- A meta of one's own: its table's blocks among F, its shots' tables' among G. -/
structure MetaN (w : World) (base : Nat) (F G : Nat → Prop) (x : Mt) (M : MM) : Prop where
  hc : I64 M.c
  hs : I64 M.s
  hbk : M.bk.size ≤ 9223372036854775807
  T : TabF w base F x.a0 x.n0 x.c0 M.T
  S : ShsN w base G x.sa x.sn x.sc M.S
  B : BmsN w base x.ma x.mn x.mc M.B
  K : IntsN w base x.ca x.cn x.cc M.K
theorem MetaN.d {w : World} {base : Nat} {F G : Nat → Prop} {x : Mt} {M : MM} (h : MetaN w base F G x M) : MetaD w x M := ⟨h.hc, h.hs, h.hbk, h.T.n.tab, h.S.d, h.B.d, h.K.d⟩
/-- A turn that leaves all rows alone. -/
structure Off6 (w : World) (row : Option Nat) : Prop where
  o1 : Off w row 68
  o2 : Off w row 24
  o3 : Off w row 77
  o4 : Off w row 92
  o5 : Off w row 96
  o6 : Off w row 3
theorem MetaN.off {w w' : World} {base : Nat} {F G : Nat → Prop} {x : Mt} {M : MM} {row : Option Nat} (h : MetaN w base F G x M) (ho : Off6 w row) (hg : w.grownBy w' row) : MetaN w' base F G x M :=
  ⟨h.hc, h.hs, h.hbk, ho.o1.tabF ho.o2 h.T hg, h.S.off ho.o3 ho.o1 ho.o2 hg, h.B.off ho.o4 ho.o5 hg, h.K.off ho.o6 hg⟩
theorem Off6.none (w : World) : Off6 w none := ⟨Off.none _ _, Off.none _ _, Off.none _ _, Off.none _ _, Off.none _ _, Off.none _ _⟩
theorem Blk.off6 {w : World} {Y : Nat} {cs : Array Value} (h : Blk w Y 41 cs) : Off6 w (some Y) := ⟨h.off (by decide), h.off (by decide), h.off (by decide), h.off (by decide), h.off (by decide), h.off (by decide)⟩
theorem Blk.off6s {w : World} {Y : Nat} {cs : Array Value} (h : Blk w Y 36 cs) : Off6 w (some Y) := ⟨h.off (by decide), h.off (by decide), h.off (by decide), h.off (by decide), h.off (by decide), h.off (by decide)⟩
theorem MetaN.later {w w' : World} {base : Nat} {F G : Nat → Prop} {x : Mt} {M : MM} (h : MetaN w base F G x M) (hb : Below w.heap.size w w') : MetaN w' base F G x M := h.off (Off6.none w) (grown_of_below hb)
theorem MetaN.box {w : World} {base : Nat} {F G : Nat → Prop} {x : Mt} {M : MM} (h : MetaN w base F G x M) {Y : Nat} {cs : Array Value} (hY : Blk w Y 41 cs) (i : Nat) (v : Value) : MetaN (w.setCell ⟨Y, i, none⟩ v) base F G x M := h.off hY.off6 (grownBy_setCell4 w Y i v)
theorem MetaN.mono {w : World} {base : Nat} {F G F' G' : Nat → Prop} {x : Mt} {M : MM} (h : MetaN w base F G x M) {base' : Nat} (hb : base' ≤ base) (hF : ∀ k, base ≤ k → F k → F' k) (hG : ∀ k, base ≤ k → G k → G' k) : MetaN w base' F' G' x M :=
  ⟨h.hc, h.hs, h.hbk, h.T.mono hb hF, h.S.mono hb hG, h.B.mono hb, h.K.mono hb⟩
theorem TabN.off {w w' : World} {base len cap : Nat} {a : Option Addr} {T : Tb} {row : Option Nat} (h : TabN w base a len cap T) (h1 : Off w row 68) (h2 : Off w row 24) (hg : w.grownBy w' row) : TabN w' base a len cap T := (h1.tabF h2 h.f hg).n
/-- The meta that is none. -/
def MM0 : MM := ⟨0, 0, ByteArray.empty, [], [], [], []⟩
def Mt0 : Mt := ⟨none, 0, 0, none, 0, 0, none, 0, 0, none, 0, 0⟩
theorem MetaN.zero (w : World) (base : Nat) (F G : Nat → Prop) : MetaN w base F G Mt0 MM0 :=
  ⟨by unfold I64 MM0; dsimp only; omega, by unfold I64 MM0; dsimp only; omega, by show (0 : Nat) ≤ 9223372036854775807; omega, TabF.nil _ _ _, ⟨[], OwnG.none _ _ _ _ _, fun d hd => (by cases hd), rfl, Nat.zero_le _, fun d hd => (by cases hd)⟩, ⟨[], OwnG.none _ _ _ _ _, fun d hd => (by cases hd), rfl, Nat.zero_le _, fun d hd => (by cases hd)⟩, ⟨OwnG.none _ _ _ _ _, Nat.zero_le _⟩⟩
theorem low_new {W W' : World} {B : Nat} {v : Value} (hg : W.grownBy W' v.ownBlock) (hv : ∀ k, v.ownBlock = some k → B ≤ k) (hB : B ≤ W.heap.size) : Below B W W' :=
  ⟨hg.os, hg.tape, hg.output, hg.size, fun k hk => hg.block k (Nat.lt_of_lt_of_le hk hB) fun e => by have := hv k e.symm; omega⟩
end Go.Proofs.YtlljcdmblmkblaaGreat
namespace Go.Proofs.YtlljcdmblmkblaaGreat
open Go.RowKit
set_option linter.unusedVariables false

/-- A byte of a name. -/
def okC (c : Int) : Prop := (97 ≤ c ∧ c ≤ 122) ∨ (48 ≤ c ∧ c ≤ 57) ∨ c = 45 ∨ c = 95 ∨ c = 46
instance (c : Int) : Decidable (okC c) := by unfold okC; exact inferInstance
def chAt (s : ByteArray) (j : Nat) : Int := if h : j < s.size then ((s[j]'h).toNat : Int) else 0
theorem chAt_in {s : ByteArray} {j : Nat} (h : j < s.size) : ((s[j]'h).toNat : Int) = chAt s j := by unfold chAt; rw [dif_pos h]
def nameOk (s : ByteArray) : Prop := 1 ≤ s.size ∧ s.size ≤ 16 ∧ ∀ k, k < s.size → okC (chAt s k)
instance (s : ByteArray) : Decidable (nameOk s) := by unfold nameOk; exact inferInstance
theorem empty_size {s : ByteArray} : s.toList.isEmpty = true ↔ s.size = 0 := by
  rw [List.isEmpty_iff_length_eq_zero, ByteArray.toList_eq]
  cases s
  rfl
theorem name_no {s : ByteArray} (h : ¬ nameOk s) : decide (nameOk s) = false := decide_eq_false h
theorem name_yes {s : ByteArray} (h : nameOk s) : decide (nameOk s) = true := decide_eq_true h
theorem refName (s : ByteArray) (hs : s.size ≤ 9223372036854775807) {R : Bool} (hR : decide (nameOk s) = R) (w : World) : Calls Tryz.prog 46 #[.string s] w fun e w' => e = .returned (.bool R) ∧ w' = w := by
  have HR := Lib.hid hR
  clear hR
  cases he : s.toList.isEmpty with
  | true =>
    obtain rfl : R = false := by rw [← HR.out]; exact name_no fun h => by have := empty_size.1 he; have := h.1; omega
    go_enter Tryz.func46, Tryz.ntmps46
    go_wp2
    go_ret
    exact ⟨rfl, rfl⟩
  | false =>
    by_cases h16 : (16 : Int) < s.size
    · obtain rfl : R = false := by rw [← HR.out]; exact name_no fun h => by have := h.2.1; omega
      go_enter Tryz.func46, Tryz.ntmps46
      go_wp2
      go_ret
      exact ⟨rfl, rfl⟩
    · have h1 : Hid (1 ≤ s.size ∧ s.size ≤ 16) := by
        refine ⟨?_, by omega⟩
        rcases Nat.eq_zero_or_pos s.size with h | h
        · rw [empty_size.2 h] at he
          cases he
        · exact h
      have d16 : decide ((16 : Int) < s.size) = false := decide_eq_false h16
      clear h16
      go_enter Tryz.func46, Tryz.ntmps46
      go_wp2
      go_loopw [3] (fun i wr => ∃ j : Nat, j ≤ s.size ∧ i = .int .i64 j ∧ w = wr ∧ Hid (∀ k, k < j → okC (chAt s k))) (fun i _ => s.size - (intOf i).toNat)
      case atStart => exact ⟨0, Nat.zero_le _, rfl, rfl, fun k hk => by omega⟩
      case round =>
        obtain ⟨j, hj, rfl, rfl, HJ⟩ := hrel
        by_cases hlt : j < s.size
        · obtain ⟨x, hx⟩ := named (chAt s j)
          have hb := (chAt_in hlt).trans hx.out
          have HX2 : Hid (okC x → ∀ k, k < j + 1 → okC (chAt s k)) := fun h k hk => by
            by_cases e : k = j
            · rw [e, hx.out]; exact h
            · exact HJ.out k (by omega)
          have HX3 : Hid (¬ okC x → R = false) := fun h => by
            rw [← HR.out]
            exact name_no fun h' => h (hx.out ▸ h'.2.2 j hlt)
          clear hx HJ HR h1
          go_wp2
          all_goals first
            | (have hk : ¬ okC x := by (clear hs he d16 HX2 HX3 hj hlt hb; unfold okC; first | omega | (simp at *; omega))
               obtain rfl := HX3.out hk
               go_ret
               exact ⟨rfl, rfl⟩)
            | (have hk : okC x := by (clear hs he d16 HX2 HX3 hj hlt hb; unfold okC; first | omega | (simp at *; omega))
               have HK := Lib.hid (HX2.out hk)
               go_roundw
               case rel => exact ⟨j + 1, by omega, by go_num, by first | rfl | trivial, HK.out⟩
               case measure => simp [intOf]; omega)
        · obtain rfl : j = s.size := by omega
          obtain rfl : R = true := by rw [← HR.out]; exact name_yes ⟨h1.out.1, h1.out.2, HJ.out⟩
          go_wp2
          go_ret
          exact ⟨rfl, rfl⟩
theorem isOfName_any (x : Int) {R : Bool} (hR : decide (okC x) = R) (w : World) : Calls Tryz.prog 84 #[.int .u8 x] w fun e w' => e = .returned (.bool R) ∧ w' = w := by
  have HR := Lib.hid hR
  clear hR
  go_enter Tryz.func84, Tryz.ntmps84
  go_wp2
  all_goals
    go_ret
    refine ⟨?_, rfl⟩
    rw [← HR.out]
    refine ret_bool ?_
    rw [Bool.eq_iff_iff]
    unfold okC
    simp_all <;> omega
theorem shotsName (s : ByteArray) (hs : s.size ≤ 9223372036854775807) {R : Bool} (hR : decide (nameOk s) = R) (w : World) : Calls Tryz.prog 65 #[.string s] w fun e w' => e = .returned (.bool R) ∧ w' = w := by
  have HR := Lib.hid hR
  clear hR
  by_cases h0 : s.size = 0
  · obtain rfl : R = false := by rw [← HR.out]; exact name_no fun h => by have := h.1; omega
    go_enter Tryz.func65, Tryz.ntmps65
    go_wp2
    go_ret
    exact ⟨rfl, rfl⟩
  · by_cases h16 : (16 : Int) < s.size
    · obtain rfl : R = false := by rw [← HR.out]; exact name_no fun h => by have := h.2.1; omega
      go_enter Tryz.func65, Tryz.ntmps65
      go_wp2
      go_ret
      exact ⟨rfl, rfl⟩
    · have h1 : Hid (1 ≤ s.size ∧ s.size ≤ 16) := ⟨by omega, by omega⟩
      have d1 : decide ((s.size : Int) < 1) = false := decide_eq_false (by omega)
      have d16 : decide ((16 : Int) < s.size) = false := decide_eq_false h16
      clear h16 h0
      go_enter Tryz.func65, Tryz.ntmps65
      go_wp2
      go_loopw [14] (fun i wr => ∃ j : Nat, j ≤ s.size ∧ i = .int .i64 j ∧ w = wr ∧ Hid (∀ k, k < j → okC (chAt s k))) (fun i _ => s.size - (intOf i).toNat)
      case atStart => exact ⟨0, Nat.zero_le _, rfl, rfl, fun k hk => by omega⟩
      case round =>
        obtain ⟨j, hj, rfl, rfl, HJ⟩ := hrel
        by_cases hlt : j < s.size
        · obtain ⟨x, hx⟩ := named (chAt s j)
          have hb := (chAt_in hlt).trans hx.out
          have HX2 : Hid (okC x → ∀ k, k < j + 1 → okC (chAt s k)) := fun h k hk => by
            by_cases e : k = j
            · rw [e, hx.out]; exact h
            · exact HJ.out k (by omega)
          have HX3 : Hid (¬ okC x → R = false) := fun h => by
            rw [← HR.out]
            exact name_no fun h' => h (hx.out ▸ h'.2.2 j hlt)
          clear hx HJ HR h1
          by_cases hk : okC x
          · have HC := Lib.hid (isOfName_any x (decide_eq_true hk))
            have HK := Lib.hid (HX2.out hk)
            clear hk HX2 HX3
            go_wp2_with (go_at_call 84; refine (HC.out _).mono ?_; rintro e w1 ⟨rfl, rfl⟩)
            go_roundw
            case rel => exact ⟨j + 1, by omega, by go_num, by first | rfl | trivial, HK.out⟩
            case measure => simp [intOf]; omega
          · have HC := Lib.hid (isOfName_any x (decide_eq_false hk))
            obtain rfl := HX3.out hk
            clear hk HX2 HX3
            go_wp2_with (go_at_call 84; refine (HC.out _).mono ?_; rintro e w1 ⟨rfl, rfl⟩)
            go_ret
            exact ⟨rfl, rfl⟩
        · obtain rfl : j = s.size := by omega
          obtain rfl : R = true := by rw [← HR.out]; exact name_yes ⟨h1.out.1, h1.out.2, HJ.out⟩
          go_wp2
          go_ret
          exact ⟨rfl, rfl⟩
end Go.Proofs.YtlljcdmblmkblaaGreat
namespace Go.Proofs.YtlljcdmblmkblaaGreat
open Go.RowKit
set_option linter.unusedVariables false

theorem str_ext {a b : ByteArray} (h : a.toList = b.toList) : a = b := by
  rw [ByteArray.toList_eq, ByteArray.toList_eq] at h
  cases a
  cases b
  congr 1
  exact Array.toList_inj.1 h
theorem str_yes {a b : ByteArray} (h : a = b) : (a.toList == b.toList) = true := by subst h; simp
theorem str_no {a b : ByteArray} (h : a ≠ b) : (a.toList == b.toList) = false := by
  rw [beq_eq_false_iff_ne]
  exact fun e => h (str_ext e)
/-- The first place of a name; below 0: none. -/
def fndS (nm : ByteArray) : List ShM → Int
  | [] => -1
  | d :: r => if d.1 = nm then 0 else if fndS nm r < 0 then -1 else fndS nm r + 1
theorem fndS_at {nm : ByteArray} : ∀ {S : List ShM} {i : Nat} {d : ShM}, S[i]? = some d → d.1 = nm → (∀ k, k < i → ∀ e, S[k]? = some e → e.1 ≠ nm) → fndS nm S = i
  | [], i, d, h, _, _ => by simp at h
  | x :: r, 0, d, h, e, _ => by
    simp at h
    subst h
    unfold fndS
    rw [if_pos e]
    rfl
  | x :: r, i + 1, d, h, e, hn => by
    have h0 := hn 0 (by omega) x rfl
    rw [List.getElem?_cons_succ] at h
    have ih := fndS_at (S := r) h e fun k hk y hy => hn (k + 1) (by omega) y (by rw [List.getElem?_cons_succ]; exact hy)
    unfold fndS
    rw [if_neg h0, ih, if_neg (by omega)]
    omega
theorem fndS_none {nm : ByteArray} : ∀ {S : List ShM}, (∀ d ∈ S, d.1 ≠ nm) → fndS nm S = -1
  | [], _ => rfl
  | x :: r, h => by
    unfold fndS
    rw [if_neg (h x (by simp)), fndS_none fun d hd => h d (by simp [hd]), if_pos (by omega)]
theorem fndS_cases (nm : ByteArray) (S : List ShM) : (fndS nm S = -1 ∧ ∀ d ∈ S, d.1 ≠ nm) ∨ ∃ (i : Nat) (d : ShM), fndS nm S = i ∧ S[i]? = some d ∧ d.1 = nm ∧ i < S.length ∧ ∀ k, k < i → ∀ e, S[k]? = some e → e.1 ≠ nm := by
  induction S with
  | nil => exact Or.inl ⟨rfl, fun d hd => by cases hd⟩
  | cons x r ih =>
    by_cases h : x.1 = nm
    · exact Or.inr ⟨0, x, by unfold fndS; rw [if_pos h]; rfl, rfl, h, by simp, fun k hk => by omega⟩
    · rcases ih with ⟨h1, h2⟩ | ⟨i, d, h1, h2, h3, h4, h5⟩
      · refine Or.inl ⟨by unfold fndS; rw [if_neg h, h1]; rfl, fun d hd => ?_⟩
        rcases List.mem_cons.1 hd with rfl | hd
        · exact h
        · exact h2 d hd
      · refine Or.inr ⟨i + 1, d, by unfold fndS; rw [if_neg h, h1, if_neg (by omega)]; omega, by rw [List.getElem?_cons_succ]; exact h2, h3, by simpa using h4, fun k hk e he => ?_⟩
        cases k with
        | zero => simp at he; subst he; exact h
        | succ k => exact h5 k (by omega) e (by rw [List.getElem?_cons_succ] at he; exact he)
theorem refShot (w : World) (x : Mt) (M : MM) (h : MetaD w x M) (nm : ByteArray) {r : Int} (hr : fndS nm M.S = r) : Calls Tryz.prog 48 #[.agg (mtA M x), .string nm] w fun e w' => e = .returned (.int .i64 r) ∧ Below w.heap.size w w' := by
  obtain ⟨a0, n0, c0, sa, sn, sc, ma, mn, mc, ca, cn, cc⟩ := x
  obtain ⟨c, s, bk, T, S, B, K⟩ := M
  have hS := h.S
  dsimp only [mtA] at hS hr ⊢
  clear h
  have hl := hS.lens
  have HS := Lib.hid hS
  have HR := Lib.hid hr
  have HM : Hid (Blk (w.alloc (.cells #[.int .i64 c, .int .i64 s, .string bk, .slice a0 n0 c0, .slice sa sn sc, .slice ma mn mc, .slice ca cn cc] 41)) w.heap.size 41 #[.int .i64 c, .int .i64 s, .string bk, .slice a0 n0 c0, .slice sa sn sc, .slice ma mn mc, .slice ca cn cc]) := Blk.new _ _ _
  have HB : Hid (Below w.heap.size w (w.alloc (.cells #[.int .i64 c, .int .i64 s, .string bk, .slice a0 n0 c0, .slice sa sn sc, .slice ma mn mc, .slice ca cn cc] 41))) := (Below.refl _ _).alloc (Nat.le_refl _) _
  have HL := Lib.hid hl
  clear hS hr hl
  go_enter Tryz.func48, Tryz.ntmps48
  go_wp2
  go_loopw [5] (fun i wr => ∃ j : Nat, j ≤ sn ∧ i = .int .i64 j ∧ Hid (Blk wr w.heap.size 41 #[.int .i64 c, .int .i64 s, .string bk, .slice a0 n0 c0, .slice sa sn sc, .slice ma mn mc, .slice ca cn cc]) ∧ Hid (Below w.heap.size w wr) ∧ Hid (∀ k, k < j → ∀ e, S[k]? = some e → e.1 ≠ nm)) (fun i _ => sn - (intOf i).toNat)
  case atStart => exact ⟨0, Nat.zero_le _, rfl, HM.out, HB.out, fun k hk => by omega⟩
  case round =>
    obtain ⟨j, hj, rfl, HMj, HBj, HN⟩ := hrel
    obtain ⟨_, _, _, _, m4, _, _⟩ := cells7 HMj.out
    have h1000 := HL.out.2
    by_cases hlt : j < sn
    · obtain ⟨b, off, n1, sz, al, ll, cl, T', rfl, hSj, hb, _, x1, _, _, _⟩ := (HS.out.later HBj.out).at j hlt
      have HSJ := Lib.hid hSj
      clear hSj
      by_cases he : n1 = nm
      · have hse := str_yes he
        obtain rfl : r = (j : Int) := by rw [← HR.out]; exact fndS_at HSJ.out he HN.out
        clear he
        go_wp2
        go_ret
        exact ⟨rfl, HBj.out⟩
      · have hse := str_no he
        have HN2 : Hid (∀ k, k < j + 1 → ∀ e, S[k]? = some e → e.1 ≠ nm) := fun k hk e hke => by
          by_cases e1 : k = j
          · subst e1
            have := HSJ.out.symm.trans hke
            cases this
            exact he
          · exact HN.out k (by omega) e hke
        clear he
        have hj1000 : j ≤ 1000 := by omega
        go_wp2
        go_roundw
        case rel => exact ⟨j + 1, by omega, by go_num, HMj.out, HBj.out, HN2.out⟩
        case measure => simp [intOf]; omega
    · obtain rfl : j = sn := by omega
      obtain rfl : r = -1 := by
        rw [← HR.out]
        refine fndS_none fun d hd => ?_
        obtain ⟨i, hi⟩ := List.getElem?_of_mem hd
        exact HN.out i (by have := (List.getElem?_eq_some_iff.1 hi).1; have := HL.out.1; omega) d hi
      go_wp2
      go_ret
      exact ⟨rfl, HBj.out⟩
end Go.Proofs.YtlljcdmblmkblaaGreat
namespace Go.Proofs.YtlljcdmblmkblaaGreat
open Go.RowKit
set_option linter.unusedVariables false

/-- TwoT boxed tables. -/
def TwoT (X : Nat) (s1 s2 : Value) (a1 a2 : Option Addr) (n1 n2 : Nat) (l1 l2 : List LfD) (w0 W : World) : Prop := Blk W X 36 #[s1] ∧ Blk W (X + 1) 36 #[s2] ∧ Below X w0 W ∧ TabR W a1 n1 l1 ∧ TabR W a2 n2 l2
theorem TwoT.drew {X : Nat} {s1 s2 : Value} {a1 a2 : Option Addr} {n1 n2 : Nat} {l1 l2 : List LfD} {w0 W : World} (h : TwoT X s1 s2 a1 a2 n1 n2 l1 l2 w0 W) : TwoT X s1 s2 a1 a2 n1 n2 l1 l2 w0 W.drew :=
  ⟨h.1, h.2.1, h.2.2.1.drew, h.2.2.2.1.later (Below.refl _ _).drew, h.2.2.2.2.later (Below.refl _ _).drew⟩
theorem TwoT.drewN {X : Nat} {s1 s2 : Value} {a1 a2 : Option Addr} {n1 n2 : Nat} {l1 l2 : List LfD} {w0 W : World} (h : TwoT X s1 s2 a1 a2 n1 n2 l1 l2 w0 W) (k : Nat) : TwoT X s1 s2 a1 a2 n1 n2 l1 l2 w0 (W.drewN k) :=
  ⟨h.1, h.2.1, below_drewN9 h.2.2.1 k, h.2.2.2.1.later (below_drewN9 (Below.refl _ _) k), h.2.2.2.2.later (below_drewN9 (Below.refl _ _) k)⟩
theorem TwoT.first {w : World} {s1 s2 : Value} {a1 a2 : Option Addr} {n1 n2 : Nat} {l1 l2 : List LfD} (h1 : TabR w a1 n1 l1) (h2 : TabR w a2 n2 l2) : TwoT w.heap.size s1 s2 a1 a2 n1 n2 l1 l2 w ((w.alloc (.cells #[s1] 36)).alloc (.cells #[s2] 36)) := by
  have hb : Below w.heap.size w ((w.alloc (.cells #[s1] 36)).alloc (.cells #[s2] 36)) := ((Below.refl _ _).alloc (Nat.le_refl _) _).alloc (by simp) _
  exact ⟨(Blk.new w _ _).alloc _, blk_next9 _ _ _ _ _, hb, h1.later hb, h2.later hb⟩
def sameB (T T' : Tb) (j : Nat) : Prop := ∀ k, k < j → tbAt T k = tbAt T' k
def sameL (l l' : List En) (j : Nat) : Prop := ∀ k, k < j → lfAt l k = lfAt l' k
theorem sameL_all {l l' : List En} {n : Nat} (h1 : l.length = n) (h2 : l'.length = n) (h : sameL l l' n) : l = l' := by
  refine List.ext_getElem (h1.trans h2.symm) fun i g1 g2 => ?_
  rw [← lfAt_in g1, ← lfAt_in g2]
  exact h i (by omega)
theorem sameB_all {T T' : Tb} {n : Nat} (h1 : T.length = n) (h2 : T'.length = n) (h : sameB T T' n) : T = T' := by
  refine List.ext_getElem (h1.trans h2.symm) fun i g1 g2 => ?_
  rw [← tbAt_in g1, ← tbAt_in g2]
  exact h i (by omega)
set_option maxHeartbeats 8000000 in
theorem refTables_any (w : World) (a1 a2 : Option Addr) (n1 n2 c1 c2 : Nat) (l1 l2 : List LfD) (h1 : TabR w a1 n1 l1) (h2 : TabR w a2 n2 l2) : Calls Tryz.prog 21 #[.agg #[.slice a1 n1 c1], .agg #[.slice a2 n2 c2]] w fun e w' => e = .returned (.bool (decide (tbOf l1 = tbOf l2))) ∧ Below w.heap.size w w' := by
  have HT0 := Lib.hid (TwoT.first (s1 := .slice a1 n1 c1) (s2 := .slice a2 n2 c2) h1 h2)
  have hs := h1.1.2.1
  have t1 := h1.tlen
  have t2 := h2.tlen
  by_cases hn : n1 = n2
  · subst hn
    obtain ⟨R, HR⟩ := named (decide (tbOf l1 = tbOf l2))
    rw [HR.out]
    have HL1 := Lib.hid t1
    have HL2 := Lib.hid t2
    have HNE : Hid (∀ j, tbAt (tbOf l1) j ≠ tbAt (tbOf l2) j → R = false) := fun j h => by
      rw [← HR.out, decide_eq_false_iff_not]
      intro e
      exact h (by rw [e])
    have HEQ : Hid (sameB (tbOf l1) (tbOf l2) n1 → R = true) := fun h => by
      rw [← HR.out, decide_eq_true_iff]
      exact sameB_all t1 t2 h
    obtain ⟨X, hX⟩ := named w.heap.size
    have hXX := hX.out
    rw [hX.out] at HT0 ⊢
    clear h1 h2 t1 t2 HR
    go_enter Tryz.func21, Tryz.ntmps21
    go_wp2
    go_loopw [5] (fun i wr => ∃ j : Nat, j ≤ n1 ∧ i = .int .i64 j ∧ Hid (sameB (tbOf l1) (tbOf l2) j) ∧ Hid (TwoT X (.slice a1 n1 c1) (.slice a2 n1 c2) a1 a2 n1 n1 l1 l2 w wr)) (fun i _ => n1 - (intOf i).toNat)
    case atStart => exact ⟨0, Nat.zero_le _, rfl, fun k hk => by omega, HT0.out⟩
    case round =>
      obtain ⟨j, hj, rfl, HJ, HT⟩ := hrel
      have b1 := one_cell9 HT.out.1
      have b2 := one_cell9 HT.out.2.1
      by_cases hlt : j < n1
      · obtain ⟨p1, o1, e1, k1, m1, xs1, rfl, d1, L1, T1, _⟩ := HT.out.2.2.2.1.at j hlt
        obtain ⟨p2, o2, e2, k2, m2, xs2, rfl, d2, L2, T2, _⟩ := HT.out.2.2.2.2.at j hlt
        have HK1 := Lib.hid L1
        have HK2 := Lib.hid L2
        have HT1 := Lib.hid T1
        have HT2 := Lib.hid T2
        have hk1 := L1.1.2.1
        have hk2 := L2.1.2.1
        dsimp only at hk1 hk2
        clear L1 L2 T1 T2
        by_cases hk : k1 = k2
        · subst hk
          go_wp2
          go_region
          go_wp2
          go_loopw [6] (fun s6 wr2 => ∃ q m : Nat, q ≤ k1 ∧ s6 = .int .i64 q ∧ Hid (sameL xs1 xs2 q) ∧ Hid (wr2 = wr.drewN m)) (fun s6 _ => k1 - (intOf s6).toNat)
          case atStart => exact ⟨0, 1, Nat.zero_le _, rfl, fun k hk => by omega, rfl⟩
          case round =>
            obtain ⟨q, m, hq, rfl, HQ, HW⟩ := hrel
            obtain rfl := HW.out
            by_cases hql : q < k1
            · obtain ⟨pb1, po1, g1, _, x1c, x2c, x3c, x4c, x5c⟩ := HK1.out.at q hql
              obtain ⟨pb2, po2, g2, _, y1c, y2c, y3c, y4c, y5c⟩ := HK2.out.at q hql
              dsimp only at g1 g2 x1c x2c x3c x4c x5c y1c y2c y3c y4c y5c
              subst g1 g2
              have hne : lfAt xs1 q ≠ lfAt xs2 q → R = false := fun h => HNE.out j fun e => h (by rw [← HT1.out, ← HT2.out, e])
              have heq : lfAt xs1 q = lfAt xs2 q → Hid (sameL xs1 xs2 (q + 1)) := fun h k hk => by
                by_cases e : k = q
                · rw [e]; exact h
                · exact HQ.out k (by omega)
              obtain ⟨⟨v1, v2, v3, v4, v5⟩, HV⟩ := named (lfAt xs1 q)
              obtain ⟨⟨z1, z2, z3, z4, z5⟩, HZ⟩ := named (lfAt xs2 q)
              rw [HV.out] at x1c x2c x3c x4c x5c hne heq
              rw [HZ.out] at y1c y2c y3c y4c y5c hne heq
              dsimp only at x1c x2c x3c x4c x5c y1c y2c y3c y4c y5c
              have hcase : (v1, v2, v3, v4, v5) = (z1, z2, z3, z4, z5) ∨ v1 ≠ z1 ∨ (v1 = z1 ∧ v2 ≠ z2) ∨ (v1 = z1 ∧ v2 = z2 ∧ v3 ≠ z3) ∨ (v1 = z1 ∧ v2 = z2 ∧ v3 = z3 ∧ v4 ≠ z4) ∨ (v1 = z1 ∧ v2 = z2 ∧ v3 = z3 ∧ v4 = z4 ∧ v5 ≠ z5) := by
                simp only [Prod.mk.injEq]
                omega
              rcases hcase with h | h
              · have HQ2 := heq h
                simp only [Prod.mk.injEq] at h
                obtain ⟨rfl, rfl, rfl, rfl, rfl⟩ := h
                clear hne heq HV HZ
                go_wp2_with fail
                go_quiet (fail)
                go_wp2
                go_roundw
                case rel => exact ⟨q + 1, _, by omega, by go_num, HQ2, rfl⟩
                case measure => simp [intOf]; omega
              · have hr : R = false := hne (by
                  intro e
                  simp only [Prod.mk.injEq] at e
                  omega)
                subst hr
                clear hne heq HV HZ
                rcases h with h | ⟨rfl, h⟩ | ⟨rfl, rfl, h⟩ | ⟨rfl, rfl, rfl, h⟩ | ⟨rfl, rfl, rfl, rfl, h⟩
                all_goals
                  go_wp2_with fail
                  go_quiet (fail)
                  go_wp2
                  go_ret
                  exact ⟨rfl, below_drewN9 (below_drewN9 HT.out.2.2.1 _) _⟩
            · have hkk : q = k1 := by omega
              have HJ2 : Hid (sameB (tbOf l1) (tbOf l2) (j + 1)) := fun k hk => by
                by_cases e : k = j
                · rw [e, HT1.out, HT2.out]
                  exact sameL_all HK1.out.len HK2.out.len (by rw [← hkk]; exact HQ.out)
                · exact HJ.out k (by omega)
              subst hkk
              go_wp2
              go_roundw
              case rel => exact ⟨j + 1, by omega, by go_num, HJ2, HT.out.drewN _⟩
              case measure => simp [intOf]; omega
        · have hr : R = false := HNE.out j fun e => hk (by
            rw [HT1.out, HT2.out] at e
            have g1 := HK1.out.len
            have g2 := HK2.out.len
            dsimp only at g1 g2
            rw [e] at g1
            omega)
          subst hr
          go_wp2
          go_region
          go_wp2
          go_ret
          exact ⟨rfl, HT.out.drew.2.2.1⟩
      · have hr : R = true := HEQ.out (by have : j = n1 := by omega
                                          subst this
                                          exact HJ.out)
        subst hr
        go_wp2
        go_ret
        exact ⟨rfl, HT.out.2.2.1⟩
  · have hr : decide (tbOf l1 = tbOf l2) = false := by
      rw [decide_eq_false_iff_not]
      intro e
      rw [e] at t1
      omega
    rw [hr]
    have hs2 := h2.1.2.1
    clear h1 h2 t1 t2 hr
    go_enter Tryz.func21, Tryz.ntmps21
    go_wp2
    go_ret
    exact ⟨rfl, HT0.out.2.2.1⟩
theorem refTT {w : World} {a1 a2 : Option Addr} {n1 n2 c1 c2 : Nat} {T1 T2 : Tb} (h1 : Tab w a1 n1 c1 T1) (h2 : Tab w a2 n2 c2 T2) {R : Bool} (hR : decide (T1 = T2) = R) : Calls Tryz.prog 21 #[.agg #[.slice a1 n1 c1], .agg #[.slice a2 n2 c2]] w fun e w' => e = .returned (.bool R) ∧ Below w.heap.size w w' := by
  obtain ⟨d1, k1, _, rfl, _⟩ := h1
  obtain ⟨d2, k2, _, rfl, _⟩ := h2
  subst hR
  exact refTables_any w a1 a2 n1 n2 c1 c2 d1 d2 k1 k2
end Go.Proofs.YtlljcdmblmkblaaGreat
namespace Go.Proofs.YtlljcdmblmkblaaGreat
open Go.RowKit
set_option linter.unusedVariables false

def ivAt (K : List Int) (i : Nat) : Int := K.getD i 0
theorem iv_cell {w : World} {a : Option Addr} {n : Nat} {K : List Int} (h : Reads ivV w a n K) (i : Nat) (hi : i < n) : ∃ b off, a = some ⟨b, off, none⟩ ∧ w.cell? ⟨b, off + i, none⟩ = some (.int .i64 (ivAt K i)) ∧ K[i]? = some (ivAt K i) := by
  obtain ⟨b, off, rfl⟩ := h.lies (by omega)
  have hl := h.1
  have hx : K[i]? = some (ivAt K i) := by
    unfold ivAt
    rw [List.getD_eq_getElem?_getD, List.getElem?_eq_getElem (by omega)]
    rfl
  have := h.cellAt iv_rowed i 0 _ _ hx rfl
  rw [Nat.mul_one, Nat.add_zero] at this
  exact ⟨b, off, rfl, this, hx⟩
theorem list_eq_of {α : Type} {l m : List α} {n : Nat} (h1 : l.length = n) (h2 : m.length = n) (h : ∀ k, k < n → l[k]? = m[k]?) : l = m := by
  refine List.ext_getElem? fun i => ?_
  by_cases hi : i < n
  · exact h i hi
  · rw [List.getElem?_eq_none (by omega), List.getElem?_eq_none (by omega)]
set_option maxHeartbeats 1600000 in
theorem refInts {w : World} {a1 a2 : Option Addr} {n1 n2 c1 c2 : Nat} {K1 K2 : List Int} (h1 : IntsD w a1 n1 c1 K1) (h2 : IntsD w a2 n2 c2 K2) {R : Bool} (hR : decide (K1 = K2) = R) : Calls Tryz.prog 44 #[.slice a1 n1 c1, .slice a2 n2 c2] w fun e w' => e = .returned (.bool R) ∧ Below w.heap.size w w' := by
  have H1 := Lib.hid h1.1
  have H2 := Lib.hid h2.1
  have hb1 := h1.2.2
  have HR := Lib.hid hR
  clear h1 h2 hR
  by_cases hn : n1 = n2
  · subst hn
    go_enter Tryz.func44, Tryz.ntmps44
    go_wp2
    go_loopw [5] (fun i wr => ∃ j : Nat, j ≤ n1 ∧ i = .int .i64 j ∧ Hid (Below w.heap.size w wr) ∧ Hid (∀ k, k < j → K1[k]? = K2[k]?)) (fun i _ => n1 - (intOf i).toNat)
    case atStart => exact ⟨0, Nat.zero_le _, rfl, Below.refl _ _, fun k hk => by omega⟩
    case round =>
      obtain ⟨j, hj, rfl, HB, HJ⟩ := hrel
      by_cases hlt : j < n1
      · obtain ⟨b, off, rfl, x1, y1⟩ := iv_cell (H1.out.later HB.out) j hlt
        obtain ⟨b', off', rfl, x2, y2⟩ := iv_cell (H2.out.later HB.out) j hlt
        obtain ⟨u, hu⟩ := named (ivAt K1 j)
        obtain ⟨v, hv⟩ := named (ivAt K2 j)
        rw [hu.out] at x1 y1
        rw [hv.out] at x2 y2
        have HY1 := Lib.hid y1
        have HY2 := Lib.hid y2
        clear y1 y2 hu hv
        have HBd : Hid (∀ k, Below w.heap.size w (wr.drewN k)) := fun k => below_drewN9 HB.out k
        by_cases he : u = v
        · subst he
          have heq : (u != u) = false := by simp
          have HJ2 : Hid (∀ k, k < j + 1 → K1[k]? = K2[k]?) := fun k hk => by
            by_cases e : k = j
            · rw [e, HY1.out, HY2.out]
            · exact HJ.out k (by omega)
          go_wp2
          go_quiet (fail)
          go_wp2
          go_roundw
          case rel => exact ⟨j + 1, by omega, by go_num, HBd.out _, HJ2.out⟩
          case measure => simp [intOf]; omega
        · obtain rfl : R = false := by
            rw [← HR.out, decide_eq_false_iff_not]
            rintro rfl
            have := HY1.out.symm.trans HY2.out
            injection this with this
            exact he this
          have hne : (u != v) = true := by simp [he]
          clear he
          go_wp2
          go_quiet (fail)
          go_wp2
          go_ret
          exact ⟨rfl, HBd.out _⟩
      · obtain rfl : j = n1 := by omega
        obtain rfl : R = true := by
          rw [← HR.out, decide_eq_true_iff]
          exact list_eq_of H1.out.1 H2.out.1 HJ.out
        go_wp2
        go_ret
        exact ⟨rfl, HB.out⟩
  · obtain rfl : R = false := by
      rw [← HR.out, decide_eq_false_iff_not]
      rintro rfl
      exact hn (H1.out.1.symm.trans H2.out.1)
    have hne : ((n1 : Int) == (n2 : Int)) = false := by rw [beq_eq_false_iff_ne]; omega
    go_enter Tryz.func44, Tryz.ntmps44
    go_wp2
    go_ret
    exact ⟨rfl, Below.refl _ _⟩
theorem refSpD {w : World} {a1 a2 : Option Addr} {n1 n2 c1 c2 : Nat} {l1 l2 : List Sp} (h1 : SpD w a1 n1 c1 l1) (h2 : SpD w a2 n2 c2 l2) {R : Bool} (hR : decide (l1 = l2) = R) : Calls Tryz.prog 73 #[.slice a1 n1 c1, .slice a2 n2 c2] w fun e w' => e = .returned (.bool R) ∧ Below w.heap.size w w' := by
  subst hR
  exact refSpans_any a1 a2 n1 n2 c1 c2 l1 l2 w h1.1 h2.1
set_option maxHeartbeats 1600000 in
theorem refMaps {w : World} {a1 a2 : Option Addr} {n1 n2 c1 c2 : Nat} {B1 B2 : List BmM} (h1 : BmsD w a1 n1 c1 B1) (h2 : BmsD w a2 n2 c2 B2) {R : Bool} (hR : decide (B1 = B2) = R) : Calls Tryz.prog 43 #[.slice a1 n1 c1, .slice a2 n2 c2] w fun e w' => e = .returned (.bool R) ∧ Below w.heap.size w w' := by
  have H1 := Lib.hid h1
  have H2 := Lib.hid h2
  have hl1 := h1.lens
  have hl2 := h2.lens
  have HR := Lib.hid hR
  clear h1 h2 hR
  by_cases hn : n1 = n2
  · subst hn
    have HL1 := Lib.hid hl1.1
    have HL2 := Lib.hid hl2.1
    have hb1 := hl1.2
    clear hl1 hl2
    go_enter Tryz.func43, Tryz.ntmps43
    go_wp2
    go_loopw [5] (fun i wr => ∃ j : Nat, j ≤ n1 ∧ i = .int .i64 j ∧ Hid (Below w.heap.size w wr) ∧ Hid (∀ k, k < j → B1[k]? = B2[k]?)) (fun i _ => n1 - (intOf i).toNat)
    case atStart => exact ⟨0, Nat.zero_le _, rfl, Below.refl _ _, fun k hk => by omega⟩
    case round =>
      obtain ⟨j, hj, rfl, HB, HJ⟩ := hrel
      by_cases hlt : j < n1
      · obtain ⟨b, off, nm, on, al, ll, cl, l, rfl, y1, hbl, _, x0, x1, x2, hS1⟩ := (H1.out.later HB.out).at j hlt
        obtain ⟨b', off', nm', on', al', ll', cl', l', rfl, y2, hbl', _, z0, z1, z2, hS2⟩ := (H2.out.later HB.out).at j hlt
        have HY1 := Lib.hid y1
        have HY2 := Lib.hid y2
        have HNO : Hid ((nm, on, l) ≠ (nm', on', l') → R = false) := fun h => by
          rw [← HR.out, decide_eq_false_iff_not]
          rintro rfl
          exact h (Option.some.inj (HY1.out.symm.trans HY2.out))
        clear y1 y2
        have HKP : Hid (∀ W, Below wr.heap.size wr W → (fun W => W.cell? ⟨b, off + j * 3, none⟩ = some (.string nm) ∧ W.cell? ⟨b', off' + j * 3, none⟩ = some (.string nm') ∧ W.cell? ⟨b, off + j * 3 + 1, none⟩ = some (.bool on) ∧ W.cell? ⟨b', off' + j * 3 + 1, none⟩ = some (.bool on') ∧ W.cell? ⟨b, off + j * 3 + 2, none⟩ = some (.slice al ll cl) ∧ W.cell? ⟨b', off' + j * 3 + 2, none⟩ = some (.slice al' ll' cl')) W) := fun W hb => ⟨(hb.cell (p := ⟨b, off + j * 3, none⟩) hbl).trans x0, (hb.cell (p := ⟨b', off' + j * 3, none⟩) hbl').trans z0, (hb.cell (p := ⟨b, off + j * 3 + 1, none⟩) hbl).trans x1, (hb.cell (p := ⟨b', off' + j * 3 + 1, none⟩) hbl').trans z1, (hb.cell (p := ⟨b, off + j * 3 + 2, none⟩) hbl).trans x2, (hb.cell (p := ⟨b', off' + j * 3 + 2, none⟩) hbl').trans z2⟩
        have HR0 := Lib.hid (Below.refl wr.heap.size wr)
        obtain ⟨E, hE⟩ := named (decide (l = l'))
        have HSP : Hid (∀ W, Below wr.heap.size wr W → Calls Tryz.prog 73 #[.slice al ll cl, .slice al' ll' cl'] W fun e w' => e = .returned (.bool E) ∧ Below wr.heap.size wr w') := fun W hb => (refSpD (hS1.later hb) (hS2.later hb) hE.out).mono fun e w' ⟨h1, h2⟩ => ⟨h1, hb.trans (h2.mono hb.size)⟩
        have HYES : Hid (nm = nm' → on = on' → E = true → ∀ k, k < j + 1 → B1[k]? = B2[k]?) := fun e1 e2 e3 k hk => by
          by_cases e : k = j
          · rw [e, HY1.out, HY2.out, e1, e2, of_decide_eq_true (hE.out.trans e3)]
          · exact HJ.out k (by omega)
        have HNO2 : Hid (E = false → R = false) := fun h => HNO.out fun e => by
          have := of_decide_eq_false (hE.out.trans h)
          injection e with _ e
          injection e with _ e
          exact this e
        clear hE hS1 hS2 x0 x1 x2 z0 z1 z2
        by_cases he : nm = nm'
        · subst he
          have h1 : (nm.toList == nm.toList) = true := str_yes rfl
          by_cases ho : on = on'
          · subst ho
            cases E with
            | true =>
              have HJ2 := Lib.hid (HYES.out rfl rfl rfl)
              clear HYES HNO HNO2
              go_wp2
              refine wp_region_held_drew (S := fun W => W.cell? ⟨b, off + j * 3, none⟩ = some (.string nm) ∧ W.cell? ⟨b', off' + j * 3, none⟩ = some (.string nm) ∧ W.cell? ⟨b, off + j * 3 + 1, none⟩ = some (.bool on) ∧ W.cell? ⟨b', off' + j * 3 + 1, none⟩ = some (.bool on) ∧ W.cell? ⟨b, off + j * 3 + 2, none⟩ = some (.slice al ll cl) ∧ W.cell? ⟨b', off' + j * 3 + 2, none⟩ = some (.slice al' ll' cl')) (by kernel_rfl) (by first | assumption | with_reducible exact HKP.out _ HR0.out | with_reducible exact HKP.out _ HR0.out.drew | with_reducible exact HKP.out _ HB1.out | with_reducible exact HKP.out _ HB1.out.drew) (fun hHeld => ?_)
              refine wpAnyH_take (i := 0) (oi := _) (v := ?va0) rfl (by kernel_rfl) (by kernel_rfl) (by kernel_rfl) (fun _ _ _ h => h) (Or.inl ⟨by rfl, ?hya0⟩) (by assumption) ?resta0
              case hya0 => (intro wz hSw; (try dsimp only at hSw); go_simp; try with_reducible rfl)
              (try simp only [List.getElem_toArray, List.getElem_cons_zero, Act.put, List.setIfInBounds_toArray, List.set_cons_zero, List.set_cons_succ])
              refine wpAnyH_take (i := 1) (oi := _) (v := ?va1) rfl (by kernel_rfl) (by kernel_rfl) (by kernel_rfl) (fun _ _ _ h => h) (Or.inl ⟨by rfl, ?hya1⟩) (by assumption) ?resta1
              case hya1 => (intro wz hSw; (try dsimp only at hSw); go_simp; try with_reducible rfl)
              (try simp only [List.getElem_toArray, List.getElem_cons_zero, List.getElem_cons_succ, Act.put, List.setIfInBounds_toArray, List.set_cons_zero, List.set_cons_succ])
              refine wpAnyH_take (i := 2) (oi := _) (v := ?va2) rfl (by kernel_rfl) (by kernel_rfl) (by kernel_rfl) (fun _ _ _ h => h) (Or.inl ⟨by rfl, ?hya2⟩) (by assumption) ?resta2
              case hya2 => (intro wz hSw; (try dsimp only at hSw); go_simp; try with_reducible rfl)
              (try simp only [List.getElem_toArray, List.getElem_cons_zero, List.getElem_cons_succ, Act.put, List.setIfInBounds_toArray, List.set_cons_zero, List.set_cons_succ])
              refine wpAnyH_take (i := 3) (oi := _) (v := ?va3) rfl (by kernel_rfl) (by kernel_rfl) (by kernel_rfl) (fun _ _ _ h => h) (Or.inl ⟨by rfl, ?hya3⟩) (by assumption) ?resta3
              case hya3 => (intro wz hSw; (try dsimp only at hSw); go_simp; try with_reducible rfl)
              (try simp only [List.getElem_toArray, List.getElem_cons_zero, List.getElem_cons_succ, Act.put, List.setIfInBounds_toArray, List.set_cons_zero, List.set_cons_succ])
              refine wpAnyH_take (i := 4) (oi := _) (v := ?va4) rfl (by kernel_rfl) (by kernel_rfl) (by kernel_rfl) (fun _ _ _ h => h) (Or.inl ⟨by rfl, ?hya4⟩) (by assumption) ?resta4
              case hya4 => (intro wz hSw; (try dsimp only at hSw); go_simp; try with_reducible rfl)
              (try simp only [List.getElem_toArray, List.getElem_cons_zero, List.getElem_cons_succ, Act.put, List.setIfInBounds_toArray, List.set_cons_zero, List.set_cons_succ])
              refine wpAnyH_take (i := 5) (oi := _) (v := ?va5) rfl (by kernel_rfl) (by kernel_rfl) (by kernel_rfl) (fun _ _ _ h => h) (Or.inl ⟨by rfl, ?hya5⟩) (by assumption) ?resta5
              case hya5 => (intro wz hSw; (try dsimp only at hSw); go_simp; try with_reducible rfl)
              (try simp only [List.getElem_toArray, List.getElem_cons_zero, List.getElem_cons_succ, Act.put, List.setIfInBounds_toArray, List.set_cons_zero, List.set_cons_succ])
              refine wpAnyH_take (i := 6) (oi := _) (v := ?va6) rfl (by kernel_rfl) (by kernel_rfl) (by kernel_rfl) (fun _ _ _ h => h) (Or.inl ⟨by rfl, ?hya6⟩) (by assumption) ?resta6
              case hya6 => (intro wz hSw; (try dsimp only at hSw); go_simp; try with_reducible rfl)
              (try simp only [List.getElem_toArray, List.getElem_cons_zero, List.getElem_cons_succ, Act.put, List.setIfInBounds_toArray, List.set_cons_zero, List.set_cons_succ])
              refine wpAnyH_take (i := 7) (oi := _) (v := ?va7) rfl (by kernel_rfl) (by kernel_rfl) (by kernel_rfl) (fun _ _ _ h => h) (Or.inl ⟨by rfl, ?hya7⟩) (by assumption) ?resta7
              case hya7 => (intro wz hSw; (try dsimp only at hSw); go_simp; try with_reducible rfl)
              (try simp only [List.getElem_toArray, List.getElem_cons_zero, List.getElem_cons_succ, Act.put, List.setIfInBounds_toArray, List.set_cons_zero, List.set_cons_succ])
              refine wpAnyH_take (i := 8) (oi := _) (v := ?va8) rfl (by kernel_rfl) (by kernel_rfl) (by kernel_rfl) (fun _ _ _ h => h) (Or.inl ⟨by rfl, ?hya8⟩) (by assumption) ?resta8
              case hya8 => (intro wz hSw; (try dsimp only at hSw); go_simp; try with_reducible rfl)
              (try simp only [List.getElem_toArray, List.getElem_cons_zero, List.getElem_cons_succ, Act.put, List.setIfInBounds_toArray, List.set_cons_zero, List.set_cons_succ])
              refine wpAnyH_take (i := 9) (oi := _) (v := ?va9) rfl (by kernel_rfl) (by kernel_rfl) (by kernel_rfl) (fun _ _ _ h => h) (Or.inl ⟨by rfl, ?hya9⟩) (by assumption) ?resta9
              case hya9 => (intro wz hSw; (try dsimp only at hSw); go_simp; try with_reducible rfl)
              (try simp only [List.getElem_toArray, List.getElem_cons_zero, List.getElem_cons_succ, Act.put, List.setIfInBounds_toArray, List.set_cons_zero, List.set_cons_succ])
              refine wpAnyH_take (i := 10) (oi := _) (v := ?va10) rfl (by kernel_rfl) (by kernel_rfl) (by kernel_rfl) (fun _ _ _ h => h) (Or.inl ⟨by rfl, ?hya10⟩) (by assumption) ?resta10
              case hya10 => (intro wz hSw; (try dsimp only at hSw); go_simp; try with_reducible rfl)
              (try simp only [List.getElem_toArray, List.getElem_cons_zero, List.getElem_cons_succ, Act.put, List.setIfInBounds_toArray, List.set_cons_zero, List.set_cons_succ])
              refine wpAnyH_take (i := 11) (oi := _) (v := ?va11) rfl (by kernel_rfl) (by kernel_rfl) (by kernel_rfl) (fun _ _ _ h => h) (Or.inl ⟨by rfl, ?hya11⟩) (by assumption) ?resta11
              case hya11 => (intro wz hSw; (try dsimp only at hSw); go_simp; try with_reducible rfl)
              (try simp only [List.getElem_toArray, List.getElem_cons_zero, List.getElem_cons_succ, Act.put, List.setIfInBounds_toArray, List.set_cons_zero, List.set_cons_succ])
              refine wpAnyH_take (i := 12) (oi := _) (v := ?va12) rfl (by kernel_rfl) (by kernel_rfl) (by kernel_rfl) (fun _ _ _ h => h) (Or.inl ⟨by rfl, ?hya12⟩) (by assumption) ?resta12
              case hya12 => (intro wz hSw; (try dsimp only at hSw); go_simp; try with_reducible rfl)
              (try simp only [List.getElem_toArray, List.getElem_cons_zero, List.getElem_cons_succ, Act.put, List.setIfInBounds_toArray, List.set_cons_zero, List.set_cons_succ])
              refine wpAnyH_take (i := 13) (oi := _) (v := ?va13) rfl (by kernel_rfl) (by kernel_rfl) (by kernel_rfl) (fun _ _ _ h => h) (Or.inl ⟨by rfl, ?hya13⟩) (by assumption) ?resta13
              case hya13 => (intro wz hSw; (try dsimp only at hSw); go_simp; try with_reducible rfl)
              (try simp only [List.getElem_toArray, List.getElem_cons_zero, List.getElem_cons_succ, Act.put, List.setIfInBounds_toArray, List.set_cons_zero, List.set_cons_succ])
              refine wpAnyH_take (i := 14) (oi := _) (v := ?va14) rfl (by kernel_rfl) (by kernel_rfl) (by kernel_rfl) (fun _ _ _ h => h) (Or.inl ⟨by rfl, ?hya14⟩) (by assumption) ?resta14
              case hya14 => (intro wz hSw; (try dsimp only at hSw); go_simp; try with_reducible rfl)
              (try simp only [List.getElem_toArray, List.getElem_cons_zero, List.getElem_cons_succ, Act.put, List.setIfInBounds_toArray, List.set_cons_zero, List.set_cons_succ])
              refine wpAnyH_take (i := 15) (oi := _) (v := ?va15) rfl (by kernel_rfl) (by kernel_rfl) (by kernel_rfl) (fun _ _ _ h => h) (Or.inl ⟨by rfl, ?hya15⟩) (by assumption) ?resta15
              case hya15 => (intro wz hSw; (try dsimp only at hSw); go_simp; try with_reducible rfl)
              (try simp only [List.getElem_toArray, List.getElem_cons_zero, List.getElem_cons_succ, Act.put, List.setIfInBounds_toArray, List.set_cons_zero, List.set_cons_succ])
              refine wpAnyH_take (i := 16) (oi := _) (v := ?va16) rfl (by kernel_rfl) (by kernel_rfl) (by kernel_rfl) (fun _ _ _ h => h) (Or.inl ⟨by rfl, ?hya16⟩) (by assumption) ?resta16
              case hya16 => (intro wz hSw; (try dsimp only at hSw); go_simp; try with_reducible rfl)
              (try simp only [List.getElem_toArray, List.getElem_cons_zero, List.getElem_cons_succ, Act.put, List.setIfInBounds_toArray, List.set_cons_zero, List.set_cons_succ])
              refine wpAnyH_take (i := 17) (oi := _) (v := ?va17) rfl (by kernel_rfl) (by kernel_rfl) (by kernel_rfl) (fun _ _ _ h => h) (Or.inl ⟨by rfl, ?hya17⟩) (by assumption) ?resta17
              case hya17 => (intro wz hSw; (try dsimp only at hSw); go_simp; try with_reducible rfl)
              (try simp only [List.getElem_toArray, List.getElem_cons_zero, List.getElem_cons_succ, Act.put, List.setIfInBounds_toArray, List.set_cons_zero, List.set_cons_succ])
              refine wpAnyH_take (i := 18) (oi := _) (v := ?va18) rfl (by kernel_rfl) (by kernel_rfl) (by kernel_rfl) (fun _ _ _ h => h) (Or.inl ⟨by rfl, ?hya18⟩) (by assumption) ?resta18
              case hya18 => (intro wz hSw; (try dsimp only at hSw); go_simp; try with_reducible rfl)
              (try simp only [List.getElem_toArray, List.getElem_cons_zero, List.getElem_cons_succ, Act.put, List.setIfInBounds_toArray, List.set_cons_zero, List.set_cons_succ])
              refine wpAnyH_take (i := 19) (oi := _) (v := ?va19) rfl (by kernel_rfl) (by kernel_rfl) (by kernel_rfl) (fun _ _ _ h => h) (Or.inl ⟨by rfl, ?hya19⟩) (by assumption) ?resta19
              case hya19 => (intro wz hSw; (try dsimp only at hSw); go_simp; try with_reducible rfl)
              (try simp only [List.getElem_toArray, List.getElem_cons_zero, List.getElem_cons_succ, Act.put, List.setIfInBounds_toArray, List.set_cons_zero, List.set_cons_succ])
              refine wpAnyH_take (i := 20) (oi := _) (v := ?va20) rfl (by kernel_rfl) (by kernel_rfl) (by kernel_rfl) (fun _ _ _ h => h) (Or.inl ⟨by rfl, ?hya20⟩) (by assumption) ?resta20
              case hya20 => (intro wz hSw; (try dsimp only at hSw); go_simp; try with_reducible rfl)
              (try simp only [List.getElem_toArray, List.getElem_cons_zero, List.getElem_cons_succ, Act.put, List.setIfInBounds_toArray, List.set_cons_zero, List.set_cons_succ])
              refine wpAnyH_take (i := 21) (oi := _) (v := ?va21) rfl (by kernel_rfl) (by kernel_rfl) (by kernel_rfl) (fun _ _ _ h => h) (Or.inl ⟨by rfl, ?hya21⟩) (by assumption) ?resta21
              case hya21 => (intro wz hSw; (try dsimp only at hSw); go_simp; try with_reducible rfl)
              (try simp only [List.getElem_toArray, List.getElem_cons_zero, List.getElem_cons_succ, Act.put, List.setIfInBounds_toArray, List.set_cons_zero, List.set_cons_succ])
              refine wpAnyH_take (i := 22) (oi := _) (v := ?va22) rfl (by kernel_rfl) (by kernel_rfl) (by kernel_rfl) (fun _ _ _ h => h) (Or.inl ⟨by rfl, ?hya22⟩) (by assumption) ?resta22
              case hya22 => (intro wz hSw; (try dsimp only at hSw); go_simp; try with_reducible rfl)
              (try simp only [List.getElem_toArray, List.getElem_cons_zero, List.getElem_cons_succ, Act.put, List.setIfInBounds_toArray, List.set_cons_zero, List.set_cons_succ])
              refine wpAnyH_take (i := 23) (oi := _) (v := ?va23) rfl (by kernel_rfl) (by kernel_rfl) (by kernel_rfl) (fun _ _ _ h => h) (Or.inl ⟨by rfl, ?hya23⟩) (by assumption) ?resta23
              case hya23 => (intro wz hSw; (try dsimp only at hSw); go_simp; try with_reducible rfl)
              (try simp only [List.getElem_toArray, List.getElem_cons_zero, List.getElem_cons_succ, Act.put, List.setIfInBounds_toArray, List.set_cons_zero, List.set_cons_succ])
              refine wpAnyH_take (i := 24) (oi := _) (v := ?va24) rfl (by kernel_rfl) (by kernel_rfl) (by kernel_rfl) (fun _ _ _ h => h) (Or.inl ⟨by rfl, ?hya24⟩) (by assumption) ?resta24
              case hya24 => (intro wz hSw; (try dsimp only at hSw); go_simp; try with_reducible rfl)
              (try simp only [List.getElem_toArray, List.getElem_cons_zero, List.getElem_cons_succ, Act.put, List.setIfInBounds_toArray, List.set_cons_zero, List.set_cons_succ])
              refine wpAnyH_take (i := 25) (oi := _) (v := ?va25) rfl (by kernel_rfl) (by kernel_rfl) (by kernel_rfl) (fun _ _ _ h => h) (Or.inl ⟨by rfl, ?hya25⟩) (by assumption) ?resta25
              case hya25 => (intro wz hSw; (try dsimp only at hSw); go_simp; try with_reducible rfl)
              (try simp only [List.getElem_toArray, List.getElem_cons_zero, List.getElem_cons_succ, Act.put, List.setIfInBounds_toArray, List.set_cons_zero, List.set_cons_succ])
              refine wpAnyH_take (i := 26) (oi := _) (v := ?va26) rfl (by kernel_rfl) (by kernel_rfl) (by kernel_rfl) (fun _ _ _ h => h) (Or.inl ⟨by rfl, ?hya26⟩) (by assumption) ?resta26
              case hya26 => (intro wz hSw; (try dsimp only at hSw); go_simp; try with_reducible rfl)
              (try simp only [List.getElem_toArray, List.getElem_cons_zero, List.getElem_cons_succ, Act.put, List.setIfInBounds_toArray, List.set_cons_zero, List.set_cons_succ])
              refine wpAnyH_take (i := 27) (oi := _) (v := ?va27) rfl (by kernel_rfl) (by kernel_rfl) (by kernel_rfl) (fun _ _ _ h => h) (Or.inl ⟨by rfl, ?hya27⟩) (by assumption) ?resta27
              case hya27 => (intro wz hSw; (try dsimp only at hSw); go_simp; try with_reducible rfl)
              (try simp only [List.getElem_toArray, List.getElem_cons_zero, List.getElem_cons_succ, Act.put, List.setIfInBounds_toArray, List.set_cons_zero, List.set_cons_succ])
              refine wpAnyH_take (i := 28) (oi := _) (v := ?va28) rfl (by kernel_rfl) (by kernel_rfl) (by kernel_rfl) (fun _ _ _ h => h) (Or.inl ⟨by rfl, ?hya28⟩) (by assumption) ?resta28
              case hya28 => (intro wz hSw; (try dsimp only at hSw); go_simp; try with_reducible rfl)
              (try simp only [List.getElem_toArray, List.getElem_cons_zero, List.getElem_cons_succ, Act.put, List.setIfInBounds_toArray, List.set_cons_zero, List.set_cons_succ])
              refine wpAnyH_take (i := 29) (oi := _) (v := ?va29) rfl (by kernel_rfl) (by kernel_rfl) (by kernel_rfl) (fun _ _ _ h => h) (Or.inl ⟨by rfl, ?hya29⟩) (by assumption) ?resta29
              case hya29 => (intro wz hSw; (try dsimp only at hSw); go_simp; try with_reducible rfl)
              (try simp only [List.getElem_toArray, List.getElem_cons_zero, List.getElem_cons_succ, Act.put, List.setIfInBounds_toArray, List.set_cons_zero, List.set_cons_succ])
              refine wpAnyH_take (i := 30) (oi := _) (v := ?va30) rfl (by kernel_rfl) (by kernel_rfl) (by kernel_rfl) (fun _ _ _ h => h) (Or.inl ⟨by rfl, ?hya30⟩) (by assumption) ?resta30
              case hya30 => (intro wz hSw; (try dsimp only at hSw); go_simp; try with_reducible rfl)
              (try simp only [List.getElem_toArray, List.getElem_cons_zero, List.getElem_cons_succ, Act.put, List.setIfInBounds_toArray, List.set_cons_zero, List.set_cons_succ])
              refine wpAnyH_take (i := 31) (oi := _) (v := ?va31) rfl (by kernel_rfl) (by kernel_rfl) (by kernel_rfl) (fun _ _ _ h => h) (Or.inl ⟨by rfl, ?hya31⟩) (by assumption) ?resta31
              case hya31 => (intro wz hSw; (try dsimp only at hSw); go_simp; try with_reducible rfl)
              (try simp only [List.getElem_toArray, List.getElem_cons_zero, List.getElem_cons_succ, Act.put, List.setIfInBounds_toArray, List.set_cons_zero, List.set_cons_succ])
              refine wpAnyH_take (i := 32) (oi := _) (v := ?va32) rfl (by kernel_rfl) (by kernel_rfl) (by kernel_rfl) (fun _ _ _ h => h) (Or.inl ⟨by rfl, ?hya32⟩) (by assumption) ?resta32
              case hya32 => (intro wz hSw; (try dsimp only at hSw); go_simp; try with_reducible rfl)
              (try simp only [List.getElem_toArray, List.getElem_cons_zero, List.getElem_cons_succ, Act.put, List.setIfInBounds_toArray, List.set_cons_zero, List.set_cons_succ])
              refine wpAnyH_take (i := 33) (oi := _) (v := ?va33) rfl (by kernel_rfl) (by kernel_rfl) (by kernel_rfl) (fun _ _ _ h => h) (Or.inl ⟨by rfl, ?hya33⟩) (by assumption) ?resta33
              case hya33 => (intro wz hSw; (try dsimp only at hSw); go_simp; try with_reducible rfl)
              (try simp only [List.getElem_toArray, List.getElem_cons_zero, List.getElem_cons_succ, Act.put, List.setIfInBounds_toArray, List.set_cons_zero, List.set_cons_succ])
              refine wpAnyH_take (i := 34) (oi := _) (v := ?va34) rfl (by kernel_rfl) (by kernel_rfl) (by kernel_rfl) (fun _ _ _ h => h) (Or.inl ⟨by rfl, ?hya34⟩) (by assumption) ?resta34
              case hya34 => (intro wz hSw; (try dsimp only at hSw); go_simp; try with_reducible rfl)
              (try simp only [List.getElem_toArray, List.getElem_cons_zero, List.getElem_cons_succ, Act.put, List.setIfInBounds_toArray, List.set_cons_zero, List.set_cons_succ])
              refine wpAnyH_ready (rs := [35]) (by kernel_rfl) (by simp) ?_
              refine AllReadyH.cons (o := _) rfl (fun K hK => ?_) AllReadyH.nil
              rw [if_pos (by rfl)]
              go_simp
              (go_at_call 73; with_reducible refine (HSP.out _ HR0.out.drew).mono ?_; rintro e w1 ⟨rfl, hb⟩; have HB1 := Lib.hid hb; clear hb)
              dsimp only
              refine hK.out _ _ (by first | assumption | with_reducible exact HKP.out _ HR0.out | with_reducible exact HKP.out _ HR0.out.drew | with_reducible exact HKP.out _ HB1.out | with_reducible exact HKP.out _ HB1.out.drew) (fun hHeld => ?_)
              clear hK K
              (try simp only [List.getElem_toArray, List.getElem_cons_zero, List.getElem_cons_succ, Act.put, List.setIfInBounds_toArray, List.set_cons_zero, List.set_cons_succ])
              refine wpAnyH_take (i := 36) (oi := _) (v := ?va36) rfl (by kernel_rfl) (by kernel_rfl) (by kernel_rfl) (fun _ _ _ h => h) (Or.inl ⟨by rfl, ?hya36⟩) (by assumption) ?resta36
              case hya36 => (intro wz hSw; (try dsimp only at hSw); go_simp; try with_reducible rfl)
              (try simp only [List.getElem_toArray, List.getElem_cons_zero, List.getElem_cons_succ, Act.put, List.setIfInBounds_toArray, List.set_cons_zero, List.set_cons_succ])
              refine wpAnyH_take (i := 37) (oi := _) (v := ?va37) rfl (by kernel_rfl) (by kernel_rfl) (by kernel_rfl) (fun _ _ _ h => h) (Or.inl ⟨by rfl, ?hya37⟩) (by assumption) ?resta37
              case hya37 => (intro wz hSw; (try dsimp only at hSw); go_simp; try with_reducible rfl)
              (try simp only [List.getElem_toArray, List.getElem_cons_zero, List.getElem_cons_succ, Act.put, List.setIfInBounds_toArray, List.set_cons_zero, List.set_cons_succ])
              refine wpAnyH_done (by kernel_rfl) ?_ _
              go_wp2
              go_roundw
              case rel => exact ⟨j + 1, by omega, by go_num, HB.out.trans (HB1.out.mono HB.out.size), HJ2.out⟩
              case measure => simp [intOf]; omega
            | false =>
              obtain rfl := HNO2.out rfl
              clear HYES HNO HNO2
              go_wp2
              refine wp_region_held_drew (S := fun W => W.cell? ⟨b, off + j * 3, none⟩ = some (.string nm) ∧ W.cell? ⟨b', off' + j * 3, none⟩ = some (.string nm) ∧ W.cell? ⟨b, off + j * 3 + 1, none⟩ = some (.bool on) ∧ W.cell? ⟨b', off' + j * 3 + 1, none⟩ = some (.bool on) ∧ W.cell? ⟨b, off + j * 3 + 2, none⟩ = some (.slice al ll cl) ∧ W.cell? ⟨b', off' + j * 3 + 2, none⟩ = some (.slice al' ll' cl')) (by kernel_rfl) (by first | assumption | with_reducible exact HKP.out _ HR0.out | with_reducible exact HKP.out _ HR0.out.drew | with_reducible exact HKP.out _ HB1.out | with_reducible exact HKP.out _ HB1.out.drew) (fun hHeld => ?_)
              refine wpAnyH_take (i := 0) (oi := _) (v := ?vd0) rfl (by kernel_rfl) (by kernel_rfl) (by kernel_rfl) (fun _ _ _ h => h) (Or.inl ⟨by rfl, ?hyd0⟩) (by assumption) ?restd0
              case hyd0 => (intro wz hSw; (try dsimp only at hSw); go_simp; try with_reducible rfl)
              (try simp only [List.getElem_toArray, List.getElem_cons_zero, Act.put, List.setIfInBounds_toArray, List.set_cons_zero, List.set_cons_succ])
              refine wpAnyH_take (i := 1) (oi := _) (v := ?vd1) rfl (by kernel_rfl) (by kernel_rfl) (by kernel_rfl) (fun _ _ _ h => h) (Or.inl ⟨by rfl, ?hyd1⟩) (by assumption) ?restd1
              case hyd1 => (intro wz hSw; (try dsimp only at hSw); go_simp; try with_reducible rfl)
              (try simp only [List.getElem_toArray, List.getElem_cons_zero, List.getElem_cons_succ, Act.put, List.setIfInBounds_toArray, List.set_cons_zero, List.set_cons_succ])
              refine wpAnyH_take (i := 2) (oi := _) (v := ?vd2) rfl (by kernel_rfl) (by kernel_rfl) (by kernel_rfl) (fun _ _ _ h => h) (Or.inl ⟨by rfl, ?hyd2⟩) (by assumption) ?restd2
              case hyd2 => (intro wz hSw; (try dsimp only at hSw); go_simp; try with_reducible rfl)
              (try simp only [List.getElem_toArray, List.getElem_cons_zero, List.getElem_cons_succ, Act.put, List.setIfInBounds_toArray, List.set_cons_zero, List.set_cons_succ])
              refine wpAnyH_take (i := 3) (oi := _) (v := ?vd3) rfl (by kernel_rfl) (by kernel_rfl) (by kernel_rfl) (fun _ _ _ h => h) (Or.inl ⟨by rfl, ?hyd3⟩) (by assumption) ?restd3
              case hyd3 => (intro wz hSw; (try dsimp only at hSw); go_simp; try with_reducible rfl)
              (try simp only [List.getElem_toArray, List.getElem_cons_zero, List.getElem_cons_succ, Act.put, List.setIfInBounds_toArray, List.set_cons_zero, List.set_cons_succ])
              refine wpAnyH_take (i := 4) (oi := _) (v := ?vd4) rfl (by kernel_rfl) (by kernel_rfl) (by kernel_rfl) (fun _ _ _ h => h) (Or.inl ⟨by rfl, ?hyd4⟩) (by assumption) ?restd4
              case hyd4 => (intro wz hSw; (try dsimp only at hSw); go_simp; try with_reducible rfl)
              (try simp only [List.getElem_toArray, List.getElem_cons_zero, List.getElem_cons_succ, Act.put, List.setIfInBounds_toArray, List.set_cons_zero, List.set_cons_succ])
              refine wpAnyH_take (i := 5) (oi := _) (v := ?vd5) rfl (by kernel_rfl) (by kernel_rfl) (by kernel_rfl) (fun _ _ _ h => h) (Or.inl ⟨by rfl, ?hyd5⟩) (by assumption) ?restd5
              case hyd5 => (intro wz hSw; (try dsimp only at hSw); go_simp; try with_reducible rfl)
              (try simp only [List.getElem_toArray, List.getElem_cons_zero, List.getElem_cons_succ, Act.put, List.setIfInBounds_toArray, List.set_cons_zero, List.set_cons_succ])
              refine wpAnyH_take (i := 6) (oi := _) (v := ?vd6) rfl (by kernel_rfl) (by kernel_rfl) (by kernel_rfl) (fun _ _ _ h => h) (Or.inl ⟨by rfl, ?hyd6⟩) (by assumption) ?restd6
              case hyd6 => (intro wz hSw; (try dsimp only at hSw); go_simp; try with_reducible rfl)
              (try simp only [List.getElem_toArray, List.getElem_cons_zero, List.getElem_cons_succ, Act.put, List.setIfInBounds_toArray, List.set_cons_zero, List.set_cons_succ])
              refine wpAnyH_take (i := 7) (oi := _) (v := ?vd7) rfl (by kernel_rfl) (by kernel_rfl) (by kernel_rfl) (fun _ _ _ h => h) (Or.inl ⟨by rfl, ?hyd7⟩) (by assumption) ?restd7
              case hyd7 => (intro wz hSw; (try dsimp only at hSw); go_simp; try with_reducible rfl)
              (try simp only [List.getElem_toArray, List.getElem_cons_zero, List.getElem_cons_succ, Act.put, List.setIfInBounds_toArray, List.set_cons_zero, List.set_cons_succ])
              refine wpAnyH_take (i := 8) (oi := _) (v := ?vd8) rfl (by kernel_rfl) (by kernel_rfl) (by kernel_rfl) (fun _ _ _ h => h) (Or.inl ⟨by rfl, ?hyd8⟩) (by assumption) ?restd8
              case hyd8 => (intro wz hSw; (try dsimp only at hSw); go_simp; try with_reducible rfl)
              (try simp only [List.getElem_toArray, List.getElem_cons_zero, List.getElem_cons_succ, Act.put, List.setIfInBounds_toArray, List.set_cons_zero, List.set_cons_succ])
              refine wpAnyH_take (i := 9) (oi := _) (v := ?vd9) rfl (by kernel_rfl) (by kernel_rfl) (by kernel_rfl) (fun _ _ _ h => h) (Or.inl ⟨by rfl, ?hyd9⟩) (by assumption) ?restd9
              case hyd9 => (intro wz hSw; (try dsimp only at hSw); go_simp; try with_reducible rfl)
              (try simp only [List.getElem_toArray, List.getElem_cons_zero, List.getElem_cons_succ, Act.put, List.setIfInBounds_toArray, List.set_cons_zero, List.set_cons_succ])
              refine wpAnyH_take (i := 10) (oi := _) (v := ?vd10) rfl (by kernel_rfl) (by kernel_rfl) (by kernel_rfl) (fun _ _ _ h => h) (Or.inl ⟨by rfl, ?hyd10⟩) (by assumption) ?restd10
              case hyd10 => (intro wz hSw; (try dsimp only at hSw); go_simp; try with_reducible rfl)
              (try simp only [List.getElem_toArray, List.getElem_cons_zero, List.getElem_cons_succ, Act.put, List.setIfInBounds_toArray, List.set_cons_zero, List.set_cons_succ])
              refine wpAnyH_take (i := 11) (oi := _) (v := ?vd11) rfl (by kernel_rfl) (by kernel_rfl) (by kernel_rfl) (fun _ _ _ h => h) (Or.inl ⟨by rfl, ?hyd11⟩) (by assumption) ?restd11
              case hyd11 => (intro wz hSw; (try dsimp only at hSw); go_simp; try with_reducible rfl)
              (try simp only [List.getElem_toArray, List.getElem_cons_zero, List.getElem_cons_succ, Act.put, List.setIfInBounds_toArray, List.set_cons_zero, List.set_cons_succ])
              refine wpAnyH_take (i := 12) (oi := _) (v := ?vd12) rfl (by kernel_rfl) (by kernel_rfl) (by kernel_rfl) (fun _ _ _ h => h) (Or.inl ⟨by rfl, ?hyd12⟩) (by assumption) ?restd12
              case hyd12 => (intro wz hSw; (try dsimp only at hSw); go_simp; try with_reducible rfl)
              (try simp only [List.getElem_toArray, List.getElem_cons_zero, List.getElem_cons_succ, Act.put, List.setIfInBounds_toArray, List.set_cons_zero, List.set_cons_succ])
              refine wpAnyH_take (i := 13) (oi := _) (v := ?vd13) rfl (by kernel_rfl) (by kernel_rfl) (by kernel_rfl) (fun _ _ _ h => h) (Or.inl ⟨by rfl, ?hyd13⟩) (by assumption) ?restd13
              case hyd13 => (intro wz hSw; (try dsimp only at hSw); go_simp; try with_reducible rfl)
              (try simp only [List.getElem_toArray, List.getElem_cons_zero, List.getElem_cons_succ, Act.put, List.setIfInBounds_toArray, List.set_cons_zero, List.set_cons_succ])
              refine wpAnyH_take (i := 14) (oi := _) (v := ?vd14) rfl (by kernel_rfl) (by kernel_rfl) (by kernel_rfl) (fun _ _ _ h => h) (Or.inl ⟨by rfl, ?hyd14⟩) (by assumption) ?restd14
              case hyd14 => (intro wz hSw; (try dsimp only at hSw); go_simp; try with_reducible rfl)
              (try simp only [List.getElem_toArray, List.getElem_cons_zero, List.getElem_cons_succ, Act.put, List.setIfInBounds_toArray, List.set_cons_zero, List.set_cons_succ])
              refine wpAnyH_take (i := 15) (oi := _) (v := ?vd15) rfl (by kernel_rfl) (by kernel_rfl) (by kernel_rfl) (fun _ _ _ h => h) (Or.inl ⟨by rfl, ?hyd15⟩) (by assumption) ?restd15
              case hyd15 => (intro wz hSw; (try dsimp only at hSw); go_simp; try with_reducible rfl)
              (try simp only [List.getElem_toArray, List.getElem_cons_zero, List.getElem_cons_succ, Act.put, List.setIfInBounds_toArray, List.set_cons_zero, List.set_cons_succ])
              refine wpAnyH_take (i := 16) (oi := _) (v := ?vd16) rfl (by kernel_rfl) (by kernel_rfl) (by kernel_rfl) (fun _ _ _ h => h) (Or.inl ⟨by rfl, ?hyd16⟩) (by assumption) ?restd16
              case hyd16 => (intro wz hSw; (try dsimp only at hSw); go_simp; try with_reducible rfl)
              (try simp only [List.getElem_toArray, List.getElem_cons_zero, List.getElem_cons_succ, Act.put, List.setIfInBounds_toArray, List.set_cons_zero, List.set_cons_succ])
              refine wpAnyH_take (i := 17) (oi := _) (v := ?vd17) rfl (by kernel_rfl) (by kernel_rfl) (by kernel_rfl) (fun _ _ _ h => h) (Or.inl ⟨by rfl, ?hyd17⟩) (by assumption) ?restd17
              case hyd17 => (intro wz hSw; (try dsimp only at hSw); go_simp; try with_reducible rfl)
              (try simp only [List.getElem_toArray, List.getElem_cons_zero, List.getElem_cons_succ, Act.put, List.setIfInBounds_toArray, List.set_cons_zero, List.set_cons_succ])
              refine wpAnyH_take (i := 18) (oi := _) (v := ?vd18) rfl (by kernel_rfl) (by kernel_rfl) (by kernel_rfl) (fun _ _ _ h => h) (Or.inl ⟨by rfl, ?hyd18⟩) (by assumption) ?restd18
              case hyd18 => (intro wz hSw; (try dsimp only at hSw); go_simp; try with_reducible rfl)
              (try simp only [List.getElem_toArray, List.getElem_cons_zero, List.getElem_cons_succ, Act.put, List.setIfInBounds_toArray, List.set_cons_zero, List.set_cons_succ])
              refine wpAnyH_take (i := 19) (oi := _) (v := ?vd19) rfl (by kernel_rfl) (by kernel_rfl) (by kernel_rfl) (fun _ _ _ h => h) (Or.inl ⟨by rfl, ?hyd19⟩) (by assumption) ?restd19
              case hyd19 => (intro wz hSw; (try dsimp only at hSw); go_simp; try with_reducible rfl)
              (try simp only [List.getElem_toArray, List.getElem_cons_zero, List.getElem_cons_succ, Act.put, List.setIfInBounds_toArray, List.set_cons_zero, List.set_cons_succ])
              refine wpAnyH_take (i := 20) (oi := _) (v := ?vd20) rfl (by kernel_rfl) (by kernel_rfl) (by kernel_rfl) (fun _ _ _ h => h) (Or.inl ⟨by rfl, ?hyd20⟩) (by assumption) ?restd20
              case hyd20 => (intro wz hSw; (try dsimp only at hSw); go_simp; try with_reducible rfl)
              (try simp only [List.getElem_toArray, List.getElem_cons_zero, List.getElem_cons_succ, Act.put, List.setIfInBounds_toArray, List.set_cons_zero, List.set_cons_succ])
              refine wpAnyH_take (i := 21) (oi := _) (v := ?vd21) rfl (by kernel_rfl) (by kernel_rfl) (by kernel_rfl) (fun _ _ _ h => h) (Or.inl ⟨by rfl, ?hyd21⟩) (by assumption) ?restd21
              case hyd21 => (intro wz hSw; (try dsimp only at hSw); go_simp; try with_reducible rfl)
              (try simp only [List.getElem_toArray, List.getElem_cons_zero, List.getElem_cons_succ, Act.put, List.setIfInBounds_toArray, List.set_cons_zero, List.set_cons_succ])
              refine wpAnyH_take (i := 22) (oi := _) (v := ?vd22) rfl (by kernel_rfl) (by kernel_rfl) (by kernel_rfl) (fun _ _ _ h => h) (Or.inl ⟨by rfl, ?hyd22⟩) (by assumption) ?restd22
              case hyd22 => (intro wz hSw; (try dsimp only at hSw); go_simp; try with_reducible rfl)
              (try simp only [List.getElem_toArray, List.getElem_cons_zero, List.getElem_cons_succ, Act.put, List.setIfInBounds_toArray, List.set_cons_zero, List.set_cons_succ])
              refine wpAnyH_take (i := 23) (oi := _) (v := ?vd23) rfl (by kernel_rfl) (by kernel_rfl) (by kernel_rfl) (fun _ _ _ h => h) (Or.inl ⟨by rfl, ?hyd23⟩) (by assumption) ?restd23
              case hyd23 => (intro wz hSw; (try dsimp only at hSw); go_simp; try with_reducible rfl)
              (try simp only [List.getElem_toArray, List.getElem_cons_zero, List.getElem_cons_succ, Act.put, List.setIfInBounds_toArray, List.set_cons_zero, List.set_cons_succ])
              refine wpAnyH_take (i := 24) (oi := _) (v := ?vd24) rfl (by kernel_rfl) (by kernel_rfl) (by kernel_rfl) (fun _ _ _ h => h) (Or.inl ⟨by rfl, ?hyd24⟩) (by assumption) ?restd24
              case hyd24 => (intro wz hSw; (try dsimp only at hSw); go_simp; try with_reducible rfl)
              (try simp only [List.getElem_toArray, List.getElem_cons_zero, List.getElem_cons_succ, Act.put, List.setIfInBounds_toArray, List.set_cons_zero, List.set_cons_succ])
              refine wpAnyH_take (i := 25) (oi := _) (v := ?vd25) rfl (by kernel_rfl) (by kernel_rfl) (by kernel_rfl) (fun _ _ _ h => h) (Or.inl ⟨by rfl, ?hyd25⟩) (by assumption) ?restd25
              case hyd25 => (intro wz hSw; (try dsimp only at hSw); go_simp; try with_reducible rfl)
              (try simp only [List.getElem_toArray, List.getElem_cons_zero, List.getElem_cons_succ, Act.put, List.setIfInBounds_toArray, List.set_cons_zero, List.set_cons_succ])
              refine wpAnyH_take (i := 26) (oi := _) (v := ?vd26) rfl (by kernel_rfl) (by kernel_rfl) (by kernel_rfl) (fun _ _ _ h => h) (Or.inl ⟨by rfl, ?hyd26⟩) (by assumption) ?restd26
              case hyd26 => (intro wz hSw; (try dsimp only at hSw); go_simp; try with_reducible rfl)
              (try simp only [List.getElem_toArray, List.getElem_cons_zero, List.getElem_cons_succ, Act.put, List.setIfInBounds_toArray, List.set_cons_zero, List.set_cons_succ])
              refine wpAnyH_take (i := 27) (oi := _) (v := ?vd27) rfl (by kernel_rfl) (by kernel_rfl) (by kernel_rfl) (fun _ _ _ h => h) (Or.inl ⟨by rfl, ?hyd27⟩) (by assumption) ?restd27
              case hyd27 => (intro wz hSw; (try dsimp only at hSw); go_simp; try with_reducible rfl)
              (try simp only [List.getElem_toArray, List.getElem_cons_zero, List.getElem_cons_succ, Act.put, List.setIfInBounds_toArray, List.set_cons_zero, List.set_cons_succ])
              refine wpAnyH_take (i := 28) (oi := _) (v := ?vd28) rfl (by kernel_rfl) (by kernel_rfl) (by kernel_rfl) (fun _ _ _ h => h) (Or.inl ⟨by rfl, ?hyd28⟩) (by assumption) ?restd28
              case hyd28 => (intro wz hSw; (try dsimp only at hSw); go_simp; try with_reducible rfl)
              (try simp only [List.getElem_toArray, List.getElem_cons_zero, List.getElem_cons_succ, Act.put, List.setIfInBounds_toArray, List.set_cons_zero, List.set_cons_succ])
              refine wpAnyH_take (i := 29) (oi := _) (v := ?vd29) rfl (by kernel_rfl) (by kernel_rfl) (by kernel_rfl) (fun _ _ _ h => h) (Or.inl ⟨by rfl, ?hyd29⟩) (by assumption) ?restd29
              case hyd29 => (intro wz hSw; (try dsimp only at hSw); go_simp; try with_reducible rfl)
              (try simp only [List.getElem_toArray, List.getElem_cons_zero, List.getElem_cons_succ, Act.put, List.setIfInBounds_toArray, List.set_cons_zero, List.set_cons_succ])
              refine wpAnyH_take (i := 30) (oi := _) (v := ?vd30) rfl (by kernel_rfl) (by kernel_rfl) (by kernel_rfl) (fun _ _ _ h => h) (Or.inl ⟨by rfl, ?hyd30⟩) (by assumption) ?restd30
              case hyd30 => (intro wz hSw; (try dsimp only at hSw); go_simp; try with_reducible rfl)
              (try simp only [List.getElem_toArray, List.getElem_cons_zero, List.getElem_cons_succ, Act.put, List.setIfInBounds_toArray, List.set_cons_zero, List.set_cons_succ])
              refine wpAnyH_take (i := 31) (oi := _) (v := ?vd31) rfl (by kernel_rfl) (by kernel_rfl) (by kernel_rfl) (fun _ _ _ h => h) (Or.inl ⟨by rfl, ?hyd31⟩) (by assumption) ?restd31
              case hyd31 => (intro wz hSw; (try dsimp only at hSw); go_simp; try with_reducible rfl)
              (try simp only [List.getElem_toArray, List.getElem_cons_zero, List.getElem_cons_succ, Act.put, List.setIfInBounds_toArray, List.set_cons_zero, List.set_cons_succ])
              refine wpAnyH_take (i := 32) (oi := _) (v := ?vd32) rfl (by kernel_rfl) (by kernel_rfl) (by kernel_rfl) (fun _ _ _ h => h) (Or.inl ⟨by rfl, ?hyd32⟩) (by assumption) ?restd32
              case hyd32 => (intro wz hSw; (try dsimp only at hSw); go_simp; try with_reducible rfl)
              (try simp only [List.getElem_toArray, List.getElem_cons_zero, List.getElem_cons_succ, Act.put, List.setIfInBounds_toArray, List.set_cons_zero, List.set_cons_succ])
              refine wpAnyH_take (i := 33) (oi := _) (v := ?vd33) rfl (by kernel_rfl) (by kernel_rfl) (by kernel_rfl) (fun _ _ _ h => h) (Or.inl ⟨by rfl, ?hyd33⟩) (by assumption) ?restd33
              case hyd33 => (intro wz hSw; (try dsimp only at hSw); go_simp; try with_reducible rfl)
              (try simp only [List.getElem_toArray, List.getElem_cons_zero, List.getElem_cons_succ, Act.put, List.setIfInBounds_toArray, List.set_cons_zero, List.set_cons_succ])
              refine wpAnyH_take (i := 34) (oi := _) (v := ?vd34) rfl (by kernel_rfl) (by kernel_rfl) (by kernel_rfl) (fun _ _ _ h => h) (Or.inl ⟨by rfl, ?hyd34⟩) (by assumption) ?restd34
              case hyd34 => (intro wz hSw; (try dsimp only at hSw); go_simp; try with_reducible rfl)
              (try simp only [List.getElem_toArray, List.getElem_cons_zero, List.getElem_cons_succ, Act.put, List.setIfInBounds_toArray, List.set_cons_zero, List.set_cons_succ])
              refine wpAnyH_ready (rs := [35]) (by kernel_rfl) (by simp) ?_
              refine AllReadyH.cons (o := _) rfl (fun K hK => ?_) AllReadyH.nil
              rw [if_pos (by rfl)]
              go_simp
              (go_at_call 73; with_reducible refine (HSP.out _ HR0.out.drew).mono ?_; rintro e w1 ⟨rfl, hb⟩; have HB1 := Lib.hid hb; clear hb)
              dsimp only
              refine hK.out _ _ (by first | assumption | with_reducible exact HKP.out _ HR0.out | with_reducible exact HKP.out _ HR0.out.drew | with_reducible exact HKP.out _ HB1.out | with_reducible exact HKP.out _ HB1.out.drew) (fun hHeld => ?_)
              clear hK K
              (try simp only [List.getElem_toArray, List.getElem_cons_zero, List.getElem_cons_succ, Act.put, List.setIfInBounds_toArray, List.set_cons_zero, List.set_cons_succ])
              refine wpAnyH_take (i := 36) (oi := _) (v := ?vd36) rfl (by kernel_rfl) (by kernel_rfl) (by kernel_rfl) (fun _ _ _ h => h) (Or.inl ⟨by rfl, ?hyd36⟩) (by assumption) ?restd36
              case hyd36 => (intro wz hSw; (try dsimp only at hSw); go_simp; try with_reducible rfl)
              (try simp only [List.getElem_toArray, List.getElem_cons_zero, List.getElem_cons_succ, Act.put, List.setIfInBounds_toArray, List.set_cons_zero, List.set_cons_succ])
              refine wpAnyH_take (i := 37) (oi := _) (v := ?vd37) rfl (by kernel_rfl) (by kernel_rfl) (by kernel_rfl) (fun _ _ _ h => h) (Or.inl ⟨by rfl, ?hyd37⟩) (by assumption) ?restd37
              case hyd37 => (intro wz hSw; (try dsimp only at hSw); go_simp; try with_reducible rfl)
              (try simp only [List.getElem_toArray, List.getElem_cons_zero, List.getElem_cons_succ, Act.put, List.setIfInBounds_toArray, List.set_cons_zero, List.set_cons_succ])
              refine wpAnyH_done (by kernel_rfl) ?_ _
              go_wp2
              go_ret
              exact ⟨rfl, HB.out.trans (HB1.out.mono HB.out.size)⟩
          · obtain rfl := HNO.out (fun e => ho (by injection e with _ e; injection e))
            have ho3 : (on == on') = false := by rw [beq_eq_false_iff_ne]; exact ho
            have ho2 : (on != on') = true := by rw [bne, ho3]; rfl
            clear HYES HNO HNO2 ho
            go_wp2
            refine wp_region_held_drew (S := fun W => W.cell? ⟨b, off + j * 3, none⟩ = some (.string nm) ∧ W.cell? ⟨b', off' + j * 3, none⟩ = some (.string nm) ∧ W.cell? ⟨b, off + j * 3 + 1, none⟩ = some (.bool on) ∧ W.cell? ⟨b', off' + j * 3 + 1, none⟩ = some (.bool on') ∧ W.cell? ⟨b, off + j * 3 + 2, none⟩ = some (.slice al ll cl) ∧ W.cell? ⟨b', off' + j * 3 + 2, none⟩ = some (.slice al' ll' cl')) (by kernel_rfl) (by first | assumption | with_reducible exact HKP.out _ HR0.out | with_reducible exact HKP.out _ HR0.out.drew | with_reducible exact HKP.out _ HB1.out | with_reducible exact HKP.out _ HB1.out.drew) (fun hHeld => ?_)
            refine wpAnyH_take (i := 0) (oi := _) (v := ?vb0) rfl (by kernel_rfl) (by kernel_rfl) (by kernel_rfl) (fun _ _ _ h => h) (Or.inl ⟨by rfl, ?hyb0⟩) (by assumption) ?restb0
            case hyb0 => (intro wz hSw; (try dsimp only at hSw); go_simp; try with_reducible rfl)
            (try simp only [List.getElem_toArray, List.getElem_cons_zero, Act.put, List.setIfInBounds_toArray, List.set_cons_zero, List.set_cons_succ])
            refine wpAnyH_take (i := 1) (oi := _) (v := ?vb1) rfl (by kernel_rfl) (by kernel_rfl) (by kernel_rfl) (fun _ _ _ h => h) (Or.inl ⟨by rfl, ?hyb1⟩) (by assumption) ?restb1
            case hyb1 => (intro wz hSw; (try dsimp only at hSw); go_simp; try with_reducible rfl)
            (try simp only [List.getElem_toArray, List.getElem_cons_zero, List.getElem_cons_succ, Act.put, List.setIfInBounds_toArray, List.set_cons_zero, List.set_cons_succ])
            refine wpAnyH_take (i := 2) (oi := _) (v := ?vb2) rfl (by kernel_rfl) (by kernel_rfl) (by kernel_rfl) (fun _ _ _ h => h) (Or.inl ⟨by rfl, ?hyb2⟩) (by assumption) ?restb2
            case hyb2 => (intro wz hSw; (try dsimp only at hSw); go_simp; try with_reducible rfl)
            (try simp only [List.getElem_toArray, List.getElem_cons_zero, List.getElem_cons_succ, Act.put, List.setIfInBounds_toArray, List.set_cons_zero, List.set_cons_succ])
            refine wpAnyH_take (i := 3) (oi := _) (v := ?vb3) rfl (by kernel_rfl) (by kernel_rfl) (by kernel_rfl) (fun _ _ _ h => h) (Or.inl ⟨by rfl, ?hyb3⟩) (by assumption) ?restb3
            case hyb3 => (intro wz hSw; (try dsimp only at hSw); go_simp; try with_reducible rfl)
            (try simp only [List.getElem_toArray, List.getElem_cons_zero, List.getElem_cons_succ, Act.put, List.setIfInBounds_toArray, List.set_cons_zero, List.set_cons_succ])
            refine wpAnyH_take (i := 4) (oi := _) (v := ?vb4) rfl (by kernel_rfl) (by kernel_rfl) (by kernel_rfl) (fun _ _ _ h => h) (Or.inl ⟨by rfl, ?hyb4⟩) (by assumption) ?restb4
            case hyb4 => (intro wz hSw; (try dsimp only at hSw); go_simp; try with_reducible rfl)
            (try simp only [List.getElem_toArray, List.getElem_cons_zero, List.getElem_cons_succ, Act.put, List.setIfInBounds_toArray, List.set_cons_zero, List.set_cons_succ])
            refine wpAnyH_take (i := 5) (oi := _) (v := ?vb5) rfl (by kernel_rfl) (by kernel_rfl) (by kernel_rfl) (fun _ _ _ h => h) (Or.inl ⟨by rfl, ?hyb5⟩) (by assumption) ?restb5
            case hyb5 => (intro wz hSw; (try dsimp only at hSw); go_simp; try with_reducible rfl)
            (try simp only [List.getElem_toArray, List.getElem_cons_zero, List.getElem_cons_succ, Act.put, List.setIfInBounds_toArray, List.set_cons_zero, List.set_cons_succ])
            refine wpAnyH_take (i := 6) (oi := _) (v := ?vb6) rfl (by kernel_rfl) (by kernel_rfl) (by kernel_rfl) (fun _ _ _ h => h) (Or.inl ⟨by rfl, ?hyb6⟩) (by assumption) ?restb6
            case hyb6 => (intro wz hSw; (try dsimp only at hSw); go_simp; try with_reducible rfl)
            (try simp only [List.getElem_toArray, List.getElem_cons_zero, List.getElem_cons_succ, Act.put, List.setIfInBounds_toArray, List.set_cons_zero, List.set_cons_succ])
            refine wpAnyH_take (i := 7) (oi := _) (v := ?vb7) rfl (by kernel_rfl) (by kernel_rfl) (by kernel_rfl) (fun _ _ _ h => h) (Or.inl ⟨by rfl, ?hyb7⟩) (by assumption) ?restb7
            case hyb7 => (intro wz hSw; (try dsimp only at hSw); go_simp; try with_reducible rfl)
            (try simp only [List.getElem_toArray, List.getElem_cons_zero, List.getElem_cons_succ, Act.put, List.setIfInBounds_toArray, List.set_cons_zero, List.set_cons_succ])
            refine wpAnyH_take (i := 8) (oi := _) (v := ?vb8) rfl (by kernel_rfl) (by kernel_rfl) (by kernel_rfl) (fun _ _ _ h => h) (Or.inl ⟨by rfl, ?hyb8⟩) (by assumption) ?restb8
            case hyb8 => (intro wz hSw; (try dsimp only at hSw); go_simp; try with_reducible rfl)
            (try simp only [List.getElem_toArray, List.getElem_cons_zero, List.getElem_cons_succ, Act.put, List.setIfInBounds_toArray, List.set_cons_zero, List.set_cons_succ])
            refine wpAnyH_take (i := 9) (oi := _) (v := ?vb9) rfl (by kernel_rfl) (by kernel_rfl) (by kernel_rfl) (fun _ _ _ h => h) (Or.inl ⟨by rfl, ?hyb9⟩) (by assumption) ?restb9
            case hyb9 => (intro wz hSw; (try dsimp only at hSw); go_simp; try with_reducible rfl)
            (try simp only [List.getElem_toArray, List.getElem_cons_zero, List.getElem_cons_succ, Act.put, List.setIfInBounds_toArray, List.set_cons_zero, List.set_cons_succ])
            refine wpAnyH_take (i := 10) (oi := _) (v := ?vb10) rfl (by kernel_rfl) (by kernel_rfl) (by kernel_rfl) (fun _ _ _ h => h) (Or.inl ⟨by rfl, ?hyb10⟩) (by assumption) ?restb10
            case hyb10 => (intro wz hSw; (try dsimp only at hSw); go_simp; try with_reducible rfl)
            (try simp only [List.getElem_toArray, List.getElem_cons_zero, List.getElem_cons_succ, Act.put, List.setIfInBounds_toArray, List.set_cons_zero, List.set_cons_succ])
            refine wpAnyH_take (i := 11) (oi := _) (v := ?vb11) rfl (by kernel_rfl) (by kernel_rfl) (by kernel_rfl) (fun _ _ _ h => h) (Or.inl ⟨by rfl, ?hyb11⟩) (by assumption) ?restb11
            case hyb11 => (intro wz hSw; (try dsimp only at hSw); go_simp; try with_reducible rfl)
            (try simp only [List.getElem_toArray, List.getElem_cons_zero, List.getElem_cons_succ, Act.put, List.setIfInBounds_toArray, List.set_cons_zero, List.set_cons_succ])
            refine wpAnyH_take (i := 12) (oi := _) (v := ?vb12) rfl (by kernel_rfl) (by kernel_rfl) (by kernel_rfl) (fun _ _ _ h => h) (Or.inl ⟨by rfl, ?hyb12⟩) (by assumption) ?restb12
            case hyb12 => (intro wz hSw; (try dsimp only at hSw); go_simp; try with_reducible rfl)
            (try simp only [List.getElem_toArray, List.getElem_cons_zero, List.getElem_cons_succ, Act.put, List.setIfInBounds_toArray, List.set_cons_zero, List.set_cons_succ])
            refine wpAnyH_take (i := 13) (oi := _) (v := ?vb13) rfl (by kernel_rfl) (by kernel_rfl) (by kernel_rfl) (fun _ _ _ h => h) (Or.inl ⟨by rfl, ?hyb13⟩) (by assumption) ?restb13
            case hyb13 => (intro wz hSw; (try dsimp only at hSw); go_simp; try with_reducible rfl)
            (try simp only [List.getElem_toArray, List.getElem_cons_zero, List.getElem_cons_succ, Act.put, List.setIfInBounds_toArray, List.set_cons_zero, List.set_cons_succ])
            refine wpAnyH_take (i := 14) (oi := _) (v := ?vb14) rfl (by kernel_rfl) (by kernel_rfl) (by kernel_rfl) (fun _ _ _ h => h) (Or.inl ⟨by rfl, ?hyb14⟩) (by assumption) ?restb14
            case hyb14 => (intro wz hSw; (try dsimp only at hSw); go_simp; try with_reducible rfl)
            (try simp only [List.getElem_toArray, List.getElem_cons_zero, List.getElem_cons_succ, Act.put, List.setIfInBounds_toArray, List.set_cons_zero, List.set_cons_succ])
            refine wpAnyH_take (i := 15) (oi := _) (v := ?vb15) rfl (by kernel_rfl) (by kernel_rfl) (by kernel_rfl) (fun _ _ _ h => h) (Or.inl ⟨by rfl, ?hyb15⟩) (by assumption) ?restb15
            case hyb15 => (intro wz hSw; (try dsimp only at hSw); go_simp; try with_reducible rfl)
            (try simp only [List.getElem_toArray, List.getElem_cons_zero, List.getElem_cons_succ, Act.put, List.setIfInBounds_toArray, List.set_cons_zero, List.set_cons_succ])
            refine wpAnyH_take (i := 16) (oi := _) (v := ?vb16) rfl (by kernel_rfl) (by kernel_rfl) (by kernel_rfl) (fun _ _ _ h => h) (Or.inl ⟨by rfl, ?hyb16⟩) (by assumption) ?restb16
            case hyb16 => (intro wz hSw; (try dsimp only at hSw); go_simp; try with_reducible rfl)
            (try simp only [List.getElem_toArray, List.getElem_cons_zero, List.getElem_cons_succ, Act.put, List.setIfInBounds_toArray, List.set_cons_zero, List.set_cons_succ])
            refine wpAnyH_take (i := 17) (oi := _) (v := ?vb17) rfl (by kernel_rfl) (by kernel_rfl) (by kernel_rfl) (fun _ _ _ h => h) (Or.inl ⟨by rfl, ?hyb17⟩) (by assumption) ?restb17
            case hyb17 => (intro wz hSw; (try dsimp only at hSw); go_simp; try with_reducible rfl)
            (try simp only [List.getElem_toArray, List.getElem_cons_zero, List.getElem_cons_succ, Act.put, List.setIfInBounds_toArray, List.set_cons_zero, List.set_cons_succ])
            refine wpAnyH_take (i := 18) (oi := _) (v := ?vb18) rfl (by kernel_rfl) (by kernel_rfl) (by kernel_rfl) (fun _ _ _ h => h) (Or.inl ⟨by rfl, ?hyb18⟩) (by assumption) ?restb18
            case hyb18 => (intro wz hSw; (try dsimp only at hSw); go_simp; try with_reducible rfl)
            (try simp only [List.getElem_toArray, List.getElem_cons_zero, List.getElem_cons_succ, Act.put, List.setIfInBounds_toArray, List.set_cons_zero, List.set_cons_succ])
            refine wpAnyH_take (i := 19) (oi := _) (v := ?vb19) rfl (by kernel_rfl) (by kernel_rfl) (by kernel_rfl) (fun _ _ _ h => h) (Or.inl ⟨by rfl, ?hyb19⟩) (by assumption) ?restb19
            case hyb19 => (intro wz hSw; (try dsimp only at hSw); go_simp; try with_reducible rfl)
            (try simp only [List.getElem_toArray, List.getElem_cons_zero, List.getElem_cons_succ, Act.put, List.setIfInBounds_toArray, List.set_cons_zero, List.set_cons_succ])
            refine wpAnyH_take (i := 20) (oi := _) (v := ?vb20) rfl (by kernel_rfl) (by kernel_rfl) (by kernel_rfl) (fun _ _ _ h => h) (Or.inl ⟨by rfl, ?hyb20⟩) (by assumption) ?restb20
            case hyb20 => (intro wz hSw; (try dsimp only at hSw); go_simp; try with_reducible rfl)
            (try simp only [List.getElem_toArray, List.getElem_cons_zero, List.getElem_cons_succ, Act.put, List.setIfInBounds_toArray, List.set_cons_zero, List.set_cons_succ])
            refine wpAnyH_take (i := 21) (oi := _) (v := ?vb21) rfl (by kernel_rfl) (by kernel_rfl) (by kernel_rfl) (fun _ _ _ h => h) (Or.inl ⟨by rfl, ?hyb21⟩) (by assumption) ?restb21
            case hyb21 => (intro wz hSw; (try dsimp only at hSw); go_simp; try with_reducible rfl)
            (try simp only [List.getElem_toArray, List.getElem_cons_zero, List.getElem_cons_succ, Act.put, List.setIfInBounds_toArray, List.set_cons_zero, List.set_cons_succ])
            refine wpAnyH_take (i := 22) (oi := _) (v := ?vb22) rfl (by kernel_rfl) (by kernel_rfl) (by kernel_rfl) (fun _ _ _ h => h) (Or.inl ⟨by rfl, ?hyb22⟩) (by assumption) ?restb22
            case hyb22 => (intro wz hSw; (try dsimp only at hSw); go_simp; try with_reducible rfl)
            (try simp only [List.getElem_toArray, List.getElem_cons_zero, List.getElem_cons_succ, Act.put, List.setIfInBounds_toArray, List.set_cons_zero, List.set_cons_succ])
            refine wpAnyH_take (i := 23) (oi := _) (v := ?vb23) rfl (by kernel_rfl) (by kernel_rfl) (by kernel_rfl) (fun _ _ _ h => h) (Or.inl ⟨by rfl, ?hyb23⟩) (by assumption) ?restb23
            case hyb23 => (intro wz hSw; (try dsimp only at hSw); go_simp; try with_reducible rfl)
            (try simp only [List.getElem_toArray, List.getElem_cons_zero, List.getElem_cons_succ, Act.put, List.setIfInBounds_toArray, List.set_cons_zero, List.set_cons_succ])
            refine wpAnyH_take (i := 24) (oi := _) (v := ?vb24) rfl (by kernel_rfl) (by kernel_rfl) (by kernel_rfl) (fun _ _ _ h => h) (Or.inl ⟨by rfl, ?hyb24⟩) (by assumption) ?restb24
            case hyb24 => (intro wz hSw; (try dsimp only at hSw); go_simp; try with_reducible rfl)
            (try simp only [List.getElem_toArray, List.getElem_cons_zero, List.getElem_cons_succ, Act.put, List.setIfInBounds_toArray, List.set_cons_zero, List.set_cons_succ])
            refine wpAnyH_take (i := 25) (oi := _) (v := undef) rfl (by kernel_rfl) (by kernel_rfl) (by kernel_rfl) (fun _ _ _ h => h) (Or.inr ⟨by rfl, rfl⟩) (by assumption) ?_
            (try simp only [List.getElem_toArray, List.getElem_cons_zero, List.getElem_cons_succ, Act.put, List.setIfInBounds_toArray, List.set_cons_zero, List.set_cons_succ])
            refine wpAnyH_take (i := 26) (oi := _) (v := undef) rfl (by kernel_rfl) (by kernel_rfl) (by kernel_rfl) (fun _ _ _ h => h) (Or.inr ⟨by rfl, rfl⟩) (by assumption) ?_
            (try simp only [List.getElem_toArray, List.getElem_cons_zero, List.getElem_cons_succ, Act.put, List.setIfInBounds_toArray, List.set_cons_zero, List.set_cons_succ])
            refine wpAnyH_take (i := 27) (oi := _) (v := undef) rfl (by kernel_rfl) (by kernel_rfl) (by kernel_rfl) (fun _ _ _ h => h) (Or.inr ⟨by rfl, rfl⟩) (by assumption) ?_
            (try simp only [List.getElem_toArray, List.getElem_cons_zero, List.getElem_cons_succ, Act.put, List.setIfInBounds_toArray, List.set_cons_zero, List.set_cons_succ])
            refine wpAnyH_take (i := 28) (oi := _) (v := undef) rfl (by kernel_rfl) (by kernel_rfl) (by kernel_rfl) (fun _ _ _ h => h) (Or.inr ⟨by rfl, rfl⟩) (by assumption) ?_
            (try simp only [List.getElem_toArray, List.getElem_cons_zero, List.getElem_cons_succ, Act.put, List.setIfInBounds_toArray, List.set_cons_zero, List.set_cons_succ])
            refine wpAnyH_take (i := 29) (oi := _) (v := undef) rfl (by kernel_rfl) (by kernel_rfl) (by kernel_rfl) (fun _ _ _ h => h) (Or.inr ⟨by rfl, rfl⟩) (by assumption) ?_
            (try simp only [List.getElem_toArray, List.getElem_cons_zero, List.getElem_cons_succ, Act.put, List.setIfInBounds_toArray, List.set_cons_zero, List.set_cons_succ])
            refine wpAnyH_take (i := 30) (oi := _) (v := undef) rfl (by kernel_rfl) (by kernel_rfl) (by kernel_rfl) (fun _ _ _ h => h) (Or.inr ⟨by rfl, rfl⟩) (by assumption) ?_
            (try simp only [List.getElem_toArray, List.getElem_cons_zero, List.getElem_cons_succ, Act.put, List.setIfInBounds_toArray, List.set_cons_zero, List.set_cons_succ])
            refine wpAnyH_take (i := 31) (oi := _) (v := undef) rfl (by kernel_rfl) (by kernel_rfl) (by kernel_rfl) (fun _ _ _ h => h) (Or.inr ⟨by rfl, rfl⟩) (by assumption) ?_
            (try simp only [List.getElem_toArray, List.getElem_cons_zero, List.getElem_cons_succ, Act.put, List.setIfInBounds_toArray, List.set_cons_zero, List.set_cons_succ])
            refine wpAnyH_take (i := 32) (oi := _) (v := undef) rfl (by kernel_rfl) (by kernel_rfl) (by kernel_rfl) (fun _ _ _ h => h) (Or.inr ⟨by rfl, rfl⟩) (by assumption) ?_
            (try simp only [List.getElem_toArray, List.getElem_cons_zero, List.getElem_cons_succ, Act.put, List.setIfInBounds_toArray, List.set_cons_zero, List.set_cons_succ])
            refine wpAnyH_take (i := 33) (oi := _) (v := undef) rfl (by kernel_rfl) (by kernel_rfl) (by kernel_rfl) (fun _ _ _ h => h) (Or.inr ⟨by rfl, rfl⟩) (by assumption) ?_
            (try simp only [List.getElem_toArray, List.getElem_cons_zero, List.getElem_cons_succ, Act.put, List.setIfInBounds_toArray, List.set_cons_zero, List.set_cons_succ])
            refine wpAnyH_take (i := 34) (oi := _) (v := undef) rfl (by kernel_rfl) (by kernel_rfl) (by kernel_rfl) (fun _ _ _ h => h) (Or.inr ⟨by rfl, rfl⟩) (by assumption) ?_
            (try simp only [List.getElem_toArray, List.getElem_cons_zero, List.getElem_cons_succ, Act.put, List.setIfInBounds_toArray, List.set_cons_zero, List.set_cons_succ])
            refine wpAnyH_take (i := 35) (oi := _) (v := undef) rfl (by kernel_rfl) (by kernel_rfl) (by kernel_rfl) (fun _ _ _ h => h) (Or.inr ⟨by rfl, rfl⟩) (by assumption) ?_
            (try simp only [List.getElem_toArray, List.getElem_cons_zero, List.getElem_cons_succ, Act.put, List.setIfInBounds_toArray, List.set_cons_zero, List.set_cons_succ])
            refine wpAnyH_take (i := 36) (oi := _) (v := undef) rfl (by kernel_rfl) (by kernel_rfl) (by kernel_rfl) (fun _ _ _ h => h) (Or.inr ⟨by rfl, rfl⟩) (by assumption) ?_
            (try simp only [List.getElem_toArray, List.getElem_cons_zero, List.getElem_cons_succ, Act.put, List.setIfInBounds_toArray, List.set_cons_zero, List.set_cons_succ])
            refine wpAnyH_take (i := 37) (oi := _) (v := ?vb37) rfl (by kernel_rfl) (by kernel_rfl) (by kernel_rfl) (fun _ _ _ h => h) (Or.inl ⟨by rfl, ?hyb37⟩) (by assumption) ?restb37
            case hyb37 => (intro wz hSw; (try dsimp only at hSw); go_simp; try with_reducible rfl)
            (try simp only [List.getElem_toArray, List.getElem_cons_zero, List.getElem_cons_succ, Act.put, List.setIfInBounds_toArray, List.set_cons_zero, List.set_cons_succ])
            refine wpAnyH_done (by kernel_rfl) ?_ _
            go_wp2
            go_ret
            exact ⟨rfl, HB.out.drew⟩
        · obtain rfl := HNO.out (fun e => he (by injection e))
          have h1 : (nm.toList == nm'.toList) = false := str_no he
          have h2 : (nm.toList != nm'.toList) = true := by rw [bne, h1]; rfl
          clear HYES HNO HNO2 he
          go_wp2
          refine wp_region_held_drew (S := fun W => W.cell? ⟨b, off + j * 3, none⟩ = some (.string nm) ∧ W.cell? ⟨b', off' + j * 3, none⟩ = some (.string nm') ∧ W.cell? ⟨b, off + j * 3 + 1, none⟩ = some (.bool on) ∧ W.cell? ⟨b', off' + j * 3 + 1, none⟩ = some (.bool on') ∧ W.cell? ⟨b, off + j * 3 + 2, none⟩ = some (.slice al ll cl) ∧ W.cell? ⟨b', off' + j * 3 + 2, none⟩ = some (.slice al' ll' cl')) (by kernel_rfl) (by first | assumption | with_reducible exact HKP.out _ HR0.out | with_reducible exact HKP.out _ HR0.out.drew | with_reducible exact HKP.out _ HB1.out | with_reducible exact HKP.out _ HB1.out.drew) (fun hHeld => ?_)
          refine wpAnyH_take (i := 0) (oi := _) (v := ?vc0) rfl (by kernel_rfl) (by kernel_rfl) (by kernel_rfl) (fun _ _ _ h => h) (Or.inl ⟨by rfl, ?hyc0⟩) (by assumption) ?restc0
          case hyc0 => (intro wz hSw; (try dsimp only at hSw); go_simp; try with_reducible rfl)
          (try simp only [List.getElem_toArray, List.getElem_cons_zero, Act.put, List.setIfInBounds_toArray, List.set_cons_zero, List.set_cons_succ])
          refine wpAnyH_take (i := 1) (oi := _) (v := ?vc1) rfl (by kernel_rfl) (by kernel_rfl) (by kernel_rfl) (fun _ _ _ h => h) (Or.inl ⟨by rfl, ?hyc1⟩) (by assumption) ?restc1
          case hyc1 => (intro wz hSw; (try dsimp only at hSw); go_simp; try with_reducible rfl)
          (try simp only [List.getElem_toArray, List.getElem_cons_zero, List.getElem_cons_succ, Act.put, List.setIfInBounds_toArray, List.set_cons_zero, List.set_cons_succ])
          refine wpAnyH_take (i := 2) (oi := _) (v := ?vc2) rfl (by kernel_rfl) (by kernel_rfl) (by kernel_rfl) (fun _ _ _ h => h) (Or.inl ⟨by rfl, ?hyc2⟩) (by assumption) ?restc2
          case hyc2 => (intro wz hSw; (try dsimp only at hSw); go_simp; try with_reducible rfl)
          (try simp only [List.getElem_toArray, List.getElem_cons_zero, List.getElem_cons_succ, Act.put, List.setIfInBounds_toArray, List.set_cons_zero, List.set_cons_succ])
          refine wpAnyH_take (i := 3) (oi := _) (v := ?vc3) rfl (by kernel_rfl) (by kernel_rfl) (by kernel_rfl) (fun _ _ _ h => h) (Or.inl ⟨by rfl, ?hyc3⟩) (by assumption) ?restc3
          case hyc3 => (intro wz hSw; (try dsimp only at hSw); go_simp; try with_reducible rfl)
          (try simp only [List.getElem_toArray, List.getElem_cons_zero, List.getElem_cons_succ, Act.put, List.setIfInBounds_toArray, List.set_cons_zero, List.set_cons_succ])
          refine wpAnyH_take (i := 4) (oi := _) (v := ?vc4) rfl (by kernel_rfl) (by kernel_rfl) (by kernel_rfl) (fun _ _ _ h => h) (Or.inl ⟨by rfl, ?hyc4⟩) (by assumption) ?restc4
          case hyc4 => (intro wz hSw; (try dsimp only at hSw); go_simp; try with_reducible rfl)
          (try simp only [List.getElem_toArray, List.getElem_cons_zero, List.getElem_cons_succ, Act.put, List.setIfInBounds_toArray, List.set_cons_zero, List.set_cons_succ])
          refine wpAnyH_take (i := 5) (oi := _) (v := ?vc5) rfl (by kernel_rfl) (by kernel_rfl) (by kernel_rfl) (fun _ _ _ h => h) (Or.inl ⟨by rfl, ?hyc5⟩) (by assumption) ?restc5
          case hyc5 => (intro wz hSw; (try dsimp only at hSw); go_simp; try with_reducible rfl)
          (try simp only [List.getElem_toArray, List.getElem_cons_zero, List.getElem_cons_succ, Act.put, List.setIfInBounds_toArray, List.set_cons_zero, List.set_cons_succ])
          refine wpAnyH_take (i := 6) (oi := _) (v := ?vc6) rfl (by kernel_rfl) (by kernel_rfl) (by kernel_rfl) (fun _ _ _ h => h) (Or.inl ⟨by rfl, ?hyc6⟩) (by assumption) ?restc6
          case hyc6 => (intro wz hSw; (try dsimp only at hSw); go_simp; try with_reducible rfl)
          (try simp only [List.getElem_toArray, List.getElem_cons_zero, List.getElem_cons_succ, Act.put, List.setIfInBounds_toArray, List.set_cons_zero, List.set_cons_succ])
          refine wpAnyH_take (i := 7) (oi := _) (v := ?vc7) rfl (by kernel_rfl) (by kernel_rfl) (by kernel_rfl) (fun _ _ _ h => h) (Or.inl ⟨by rfl, ?hyc7⟩) (by assumption) ?restc7
          case hyc7 => (intro wz hSw; (try dsimp only at hSw); go_simp; try with_reducible rfl)
          (try simp only [List.getElem_toArray, List.getElem_cons_zero, List.getElem_cons_succ, Act.put, List.setIfInBounds_toArray, List.set_cons_zero, List.set_cons_succ])
          refine wpAnyH_take (i := 8) (oi := _) (v := ?vc8) rfl (by kernel_rfl) (by kernel_rfl) (by kernel_rfl) (fun _ _ _ h => h) (Or.inl ⟨by rfl, ?hyc8⟩) (by assumption) ?restc8
          case hyc8 => (intro wz hSw; (try dsimp only at hSw); go_simp; try with_reducible rfl)
          (try simp only [List.getElem_toArray, List.getElem_cons_zero, List.getElem_cons_succ, Act.put, List.setIfInBounds_toArray, List.set_cons_zero, List.set_cons_succ])
          refine wpAnyH_take (i := 9) (oi := _) (v := ?vc9) rfl (by kernel_rfl) (by kernel_rfl) (by kernel_rfl) (fun _ _ _ h => h) (Or.inl ⟨by rfl, ?hyc9⟩) (by assumption) ?restc9
          case hyc9 => (intro wz hSw; (try dsimp only at hSw); go_simp; try with_reducible rfl)
          (try simp only [List.getElem_toArray, List.getElem_cons_zero, List.getElem_cons_succ, Act.put, List.setIfInBounds_toArray, List.set_cons_zero, List.set_cons_succ])
          refine wpAnyH_take (i := 10) (oi := _) (v := ?vc10) rfl (by kernel_rfl) (by kernel_rfl) (by kernel_rfl) (fun _ _ _ h => h) (Or.inl ⟨by rfl, ?hyc10⟩) (by assumption) ?restc10
          case hyc10 => (intro wz hSw; (try dsimp only at hSw); go_simp; try with_reducible rfl)
          (try simp only [List.getElem_toArray, List.getElem_cons_zero, List.getElem_cons_succ, Act.put, List.setIfInBounds_toArray, List.set_cons_zero, List.set_cons_succ])
          refine wpAnyH_take (i := 11) (oi := _) (v := ?vc11) rfl (by kernel_rfl) (by kernel_rfl) (by kernel_rfl) (fun _ _ _ h => h) (Or.inl ⟨by rfl, ?hyc11⟩) (by assumption) ?restc11
          case hyc11 => (intro wz hSw; (try dsimp only at hSw); go_simp; try with_reducible rfl)
          (try simp only [List.getElem_toArray, List.getElem_cons_zero, List.getElem_cons_succ, Act.put, List.setIfInBounds_toArray, List.set_cons_zero, List.set_cons_succ])
          refine wpAnyH_take (i := 12) (oi := _) (v := undef) rfl (by kernel_rfl) (by kernel_rfl) (by kernel_rfl) (fun _ _ _ h => h) (Or.inr ⟨by rfl, rfl⟩) (by assumption) ?_
          (try simp only [List.getElem_toArray, List.getElem_cons_zero, List.getElem_cons_succ, Act.put, List.setIfInBounds_toArray, List.set_cons_zero, List.set_cons_succ])
          refine wpAnyH_take (i := 13) (oi := _) (v := undef) rfl (by kernel_rfl) (by kernel_rfl) (by kernel_rfl) (fun _ _ _ h => h) (Or.inr ⟨by rfl, rfl⟩) (by assumption) ?_
          (try simp only [List.getElem_toArray, List.getElem_cons_zero, List.getElem_cons_succ, Act.put, List.setIfInBounds_toArray, List.set_cons_zero, List.set_cons_succ])
          refine wpAnyH_take (i := 14) (oi := _) (v := undef) rfl (by kernel_rfl) (by kernel_rfl) (by kernel_rfl) (fun _ _ _ h => h) (Or.inr ⟨by rfl, rfl⟩) (by assumption) ?_
          (try simp only [List.getElem_toArray, List.getElem_cons_zero, List.getElem_cons_succ, Act.put, List.setIfInBounds_toArray, List.set_cons_zero, List.set_cons_succ])
          refine wpAnyH_take (i := 15) (oi := _) (v := undef) rfl (by kernel_rfl) (by kernel_rfl) (by kernel_rfl) (fun _ _ _ h => h) (Or.inr ⟨by rfl, rfl⟩) (by assumption) ?_
          (try simp only [List.getElem_toArray, List.getElem_cons_zero, List.getElem_cons_succ, Act.put, List.setIfInBounds_toArray, List.set_cons_zero, List.set_cons_succ])
          refine wpAnyH_take (i := 16) (oi := _) (v := undef) rfl (by kernel_rfl) (by kernel_rfl) (by kernel_rfl) (fun _ _ _ h => h) (Or.inr ⟨by rfl, rfl⟩) (by assumption) ?_
          (try simp only [List.getElem_toArray, List.getElem_cons_zero, List.getElem_cons_succ, Act.put, List.setIfInBounds_toArray, List.set_cons_zero, List.set_cons_succ])
          refine wpAnyH_take (i := 17) (oi := _) (v := undef) rfl (by kernel_rfl) (by kernel_rfl) (by kernel_rfl) (fun _ _ _ h => h) (Or.inr ⟨by rfl, rfl⟩) (by assumption) ?_
          (try simp only [List.getElem_toArray, List.getElem_cons_zero, List.getElem_cons_succ, Act.put, List.setIfInBounds_toArray, List.set_cons_zero, List.set_cons_succ])
          refine wpAnyH_take (i := 18) (oi := _) (v := undef) rfl (by kernel_rfl) (by kernel_rfl) (by kernel_rfl) (fun _ _ _ h => h) (Or.inr ⟨by rfl, rfl⟩) (by assumption) ?_
          (try simp only [List.getElem_toArray, List.getElem_cons_zero, List.getElem_cons_succ, Act.put, List.setIfInBounds_toArray, List.set_cons_zero, List.set_cons_succ])
          refine wpAnyH_take (i := 19) (oi := _) (v := undef) rfl (by kernel_rfl) (by kernel_rfl) (by kernel_rfl) (fun _ _ _ h => h) (Or.inr ⟨by rfl, rfl⟩) (by assumption) ?_
          (try simp only [List.getElem_toArray, List.getElem_cons_zero, List.getElem_cons_succ, Act.put, List.setIfInBounds_toArray, List.set_cons_zero, List.set_cons_succ])
          refine wpAnyH_take (i := 20) (oi := _) (v := undef) rfl (by kernel_rfl) (by kernel_rfl) (by kernel_rfl) (fun _ _ _ h => h) (Or.inr ⟨by rfl, rfl⟩) (by assumption) ?_
          (try simp only [List.getElem_toArray, List.getElem_cons_zero, List.getElem_cons_succ, Act.put, List.setIfInBounds_toArray, List.set_cons_zero, List.set_cons_succ])
          refine wpAnyH_take (i := 21) (oi := _) (v := undef) rfl (by kernel_rfl) (by kernel_rfl) (by kernel_rfl) (fun _ _ _ h => h) (Or.inr ⟨by rfl, rfl⟩) (by assumption) ?_
          (try simp only [List.getElem_toArray, List.getElem_cons_zero, List.getElem_cons_succ, Act.put, List.setIfInBounds_toArray, List.set_cons_zero, List.set_cons_succ])
          refine wpAnyH_take (i := 22) (oi := _) (v := undef) rfl (by kernel_rfl) (by kernel_rfl) (by kernel_rfl) (fun _ _ _ h => h) (Or.inr ⟨by rfl, rfl⟩) (by assumption) ?_
          (try simp only [List.getElem_toArray, List.getElem_cons_zero, List.getElem_cons_succ, Act.put, List.setIfInBounds_toArray, List.set_cons_zero, List.set_cons_succ])
          refine wpAnyH_take (i := 23) (oi := _) (v := ?vc23) rfl (by kernel_rfl) (by kernel_rfl) (by kernel_rfl) (fun _ _ _ h => h) (Or.inl ⟨by rfl, ?hyc23⟩) (by assumption) ?restc23
          case hyc23 => (intro wz hSw; (try dsimp only at hSw); go_simp; try with_reducible rfl)
          (try simp only [List.getElem_toArray, List.getElem_cons_zero, List.getElem_cons_succ, Act.put, List.setIfInBounds_toArray, List.set_cons_zero, List.set_cons_succ])
          refine wpAnyH_take (i := 24) (oi := _) (v := ?vc24) rfl (by kernel_rfl) (by kernel_rfl) (by kernel_rfl) (fun _ _ _ h => h) (Or.inl ⟨by rfl, ?hyc24⟩) (by assumption) ?restc24
          case hyc24 => (intro wz hSw; (try dsimp only at hSw); go_simp; try with_reducible rfl)
          (try simp only [List.getElem_toArray, List.getElem_cons_zero, List.getElem_cons_succ, Act.put, List.setIfInBounds_toArray, List.set_cons_zero, List.set_cons_succ])
          refine wpAnyH_take (i := 25) (oi := _) (v := undef) rfl (by kernel_rfl) (by kernel_rfl) (by kernel_rfl) (fun _ _ _ h => h) (Or.inr ⟨by rfl, rfl⟩) (by assumption) ?_
          (try simp only [List.getElem_toArray, List.getElem_cons_zero, List.getElem_cons_succ, Act.put, List.setIfInBounds_toArray, List.set_cons_zero, List.set_cons_succ])
          refine wpAnyH_take (i := 26) (oi := _) (v := undef) rfl (by kernel_rfl) (by kernel_rfl) (by kernel_rfl) (fun _ _ _ h => h) (Or.inr ⟨by rfl, rfl⟩) (by assumption) ?_
          (try simp only [List.getElem_toArray, List.getElem_cons_zero, List.getElem_cons_succ, Act.put, List.setIfInBounds_toArray, List.set_cons_zero, List.set_cons_succ])
          refine wpAnyH_take (i := 27) (oi := _) (v := undef) rfl (by kernel_rfl) (by kernel_rfl) (by kernel_rfl) (fun _ _ _ h => h) (Or.inr ⟨by rfl, rfl⟩) (by assumption) ?_
          (try simp only [List.getElem_toArray, List.getElem_cons_zero, List.getElem_cons_succ, Act.put, List.setIfInBounds_toArray, List.set_cons_zero, List.set_cons_succ])
          refine wpAnyH_take (i := 28) (oi := _) (v := undef) rfl (by kernel_rfl) (by kernel_rfl) (by kernel_rfl) (fun _ _ _ h => h) (Or.inr ⟨by rfl, rfl⟩) (by assumption) ?_
          (try simp only [List.getElem_toArray, List.getElem_cons_zero, List.getElem_cons_succ, Act.put, List.setIfInBounds_toArray, List.set_cons_zero, List.set_cons_succ])
          refine wpAnyH_take (i := 29) (oi := _) (v := undef) rfl (by kernel_rfl) (by kernel_rfl) (by kernel_rfl) (fun _ _ _ h => h) (Or.inr ⟨by rfl, rfl⟩) (by assumption) ?_
          (try simp only [List.getElem_toArray, List.getElem_cons_zero, List.getElem_cons_succ, Act.put, List.setIfInBounds_toArray, List.set_cons_zero, List.set_cons_succ])
          refine wpAnyH_take (i := 30) (oi := _) (v := undef) rfl (by kernel_rfl) (by kernel_rfl) (by kernel_rfl) (fun _ _ _ h => h) (Or.inr ⟨by rfl, rfl⟩) (by assumption) ?_
          (try simp only [List.getElem_toArray, List.getElem_cons_zero, List.getElem_cons_succ, Act.put, List.setIfInBounds_toArray, List.set_cons_zero, List.set_cons_succ])
          refine wpAnyH_take (i := 31) (oi := _) (v := undef) rfl (by kernel_rfl) (by kernel_rfl) (by kernel_rfl) (fun _ _ _ h => h) (Or.inr ⟨by rfl, rfl⟩) (by assumption) ?_
          (try simp only [List.getElem_toArray, List.getElem_cons_zero, List.getElem_cons_succ, Act.put, List.setIfInBounds_toArray, List.set_cons_zero, List.set_cons_succ])
          refine wpAnyH_take (i := 32) (oi := _) (v := undef) rfl (by kernel_rfl) (by kernel_rfl) (by kernel_rfl) (fun _ _ _ h => h) (Or.inr ⟨by rfl, rfl⟩) (by assumption) ?_
          (try simp only [List.getElem_toArray, List.getElem_cons_zero, List.getElem_cons_succ, Act.put, List.setIfInBounds_toArray, List.set_cons_zero, List.set_cons_succ])
          refine wpAnyH_take (i := 33) (oi := _) (v := undef) rfl (by kernel_rfl) (by kernel_rfl) (by kernel_rfl) (fun _ _ _ h => h) (Or.inr ⟨by rfl, rfl⟩) (by assumption) ?_
          (try simp only [List.getElem_toArray, List.getElem_cons_zero, List.getElem_cons_succ, Act.put, List.setIfInBounds_toArray, List.set_cons_zero, List.set_cons_succ])
          refine wpAnyH_take (i := 34) (oi := _) (v := undef) rfl (by kernel_rfl) (by kernel_rfl) (by kernel_rfl) (fun _ _ _ h => h) (Or.inr ⟨by rfl, rfl⟩) (by assumption) ?_
          (try simp only [List.getElem_toArray, List.getElem_cons_zero, List.getElem_cons_succ, Act.put, List.setIfInBounds_toArray, List.set_cons_zero, List.set_cons_succ])
          refine wpAnyH_take (i := 35) (oi := _) (v := undef) rfl (by kernel_rfl) (by kernel_rfl) (by kernel_rfl) (fun _ _ _ h => h) (Or.inr ⟨by rfl, rfl⟩) (by assumption) ?_
          (try simp only [List.getElem_toArray, List.getElem_cons_zero, List.getElem_cons_succ, Act.put, List.setIfInBounds_toArray, List.set_cons_zero, List.set_cons_succ])
          refine wpAnyH_take (i := 36) (oi := _) (v := undef) rfl (by kernel_rfl) (by kernel_rfl) (by kernel_rfl) (fun _ _ _ h => h) (Or.inr ⟨by rfl, rfl⟩) (by assumption) ?_
          (try simp only [List.getElem_toArray, List.getElem_cons_zero, List.getElem_cons_succ, Act.put, List.setIfInBounds_toArray, List.set_cons_zero, List.set_cons_succ])
          refine wpAnyH_take (i := 37) (oi := _) (v := ?vc37) rfl (by kernel_rfl) (by kernel_rfl) (by kernel_rfl) (fun _ _ _ h => h) (Or.inl ⟨by rfl, ?hyc37⟩) (by assumption) ?restc37
          case hyc37 => (intro wz hSw; (try dsimp only at hSw); go_simp; try with_reducible rfl)
          (try simp only [List.getElem_toArray, List.getElem_cons_zero, List.getElem_cons_succ, Act.put, List.setIfInBounds_toArray, List.set_cons_zero, List.set_cons_succ])
          refine wpAnyH_done (by kernel_rfl) ?_ _
          go_wp2
          go_ret
          exact ⟨rfl, HB.out.drew⟩
      · obtain rfl : j = n1 := by omega
        obtain rfl : R = true := by
          rw [← HR.out, decide_eq_true_iff]
          exact list_eq_of HL1.out HL2.out HJ.out
        go_wp2
        go_ret
        exact ⟨rfl, HB.out⟩
  · obtain rfl : R = false := by
      rw [← HR.out, decide_eq_false_iff_not]
      rintro rfl
      exact hn (hl1.1.symm.trans hl2.1)
    have hne : ((n1 : Int) == (n2 : Int)) = false := by rw [beq_eq_false_iff_ne]; omega
    go_enter Tryz.func43, Tryz.ntmps43
    go_wp2
    go_ret
    exact ⟨rfl, Below.refl _ _⟩
end Go.Proofs.YtlljcdmblmkblaaGreat
namespace Go.Proofs.YtlljcdmblmkblaaGreat
open Go.RowKit
set_option linter.unusedVariables false

/-- The first place of a bitmap of a name; below 0: none. -/
def fndB (nm : ByteArray) : List BmM → Int
  | [] => -1
  | d :: r => if d.1 = nm then 0 else if fndB nm r < 0 then -1 else fndB nm r + 1
theorem fndB_at {nm : ByteArray} : ∀ {S : List BmM} {i : Nat} {d : BmM}, S[i]? = some d → d.1 = nm → (∀ k, k < i → ∀ e, S[k]? = some e → e.1 ≠ nm) → fndB nm S = i
  | [], i, d, h, _, _ => by simp at h
  | x :: r, 0, d, h, e, _ => by
    simp at h
    subst h
    unfold fndB
    rw [if_pos e]
    rfl
  | x :: r, i + 1, d, h, e, hn => by
    have h0 := hn 0 (by omega) x rfl
    rw [List.getElem?_cons_succ] at h
    have ih := fndB_at (S := r) h e fun k hk y hy => hn (k + 1) (by omega) y (by rw [List.getElem?_cons_succ]; exact hy)
    unfold fndB
    rw [if_neg h0, ih, if_neg (by omega)]
    omega
theorem fndB_none {nm : ByteArray} : ∀ {S : List BmM}, (∀ d ∈ S, d.1 ≠ nm) → fndB nm S = -1
  | [], _ => rfl
  | x :: r, h => by
    unfold fndB
    rw [if_neg (h x (by simp)), fndB_none fun d hd => h d (by simp [hd]), if_pos (by omega)]
theorem fndB_cases (nm : ByteArray) (S : List BmM) : (fndB nm S = -1 ∧ ∀ d ∈ S, d.1 ≠ nm) ∨ ∃ (i : Nat) (d : BmM), fndB nm S = i ∧ S[i]? = some d ∧ d.1 = nm ∧ i < S.length ∧ ∀ k, k < i → ∀ e, S[k]? = some e → e.1 ≠ nm := by
  induction S with
  | nil => exact Or.inl ⟨rfl, fun d hd => by cases hd⟩
  | cons x r ih =>
    by_cases h : x.1 = nm
    · exact Or.inr ⟨0, x, by unfold fndB; rw [if_pos h]; rfl, rfl, h, by simp, fun k hk => by omega⟩
    · rcases ih with ⟨h1, h2⟩ | ⟨i, d, h1, h2, h3, h4, h5⟩
      · refine Or.inl ⟨by unfold fndB; rw [if_neg h, h1]; rfl, fun d hd => ?_⟩
        rcases List.mem_cons.1 hd with rfl | hd
        · exact h
        · exact h2 d hd
      · refine Or.inr ⟨i + 1, d, by unfold fndB; rw [if_neg h, h1, if_neg (by omega)]; omega, by rw [List.getElem?_cons_succ]; exact h2, h3, by simpa using h4, fun k hk e he => ?_⟩
        cases k with
        | zero => simp at he; subst he; exact h
        | succ k => exact h5 k (by omega) e (by rw [List.getElem?_cons_succ] at he; exact he)
theorem refBitmap (w : World) (ma : Option Addr) (mn mc : Nat) (B : List BmM) (h : BmsD w ma mn mc B) (nm : ByteArray) {r : Int} (hr : fndB nm B = r) : Calls Tryz.prog 49 #[.slice ma mn mc, .string nm] w fun e w' => e = .returned (.int .i64 r) ∧ Below w.heap.size w w' := by
  have HS := Lib.hid h
  have HR := Lib.hid hr
  have HL := Lib.hid h.lens
  clear h hr
  go_enter Tryz.func49, Tryz.ntmps49
  go_wp2
  go_loopw [5] (fun i wr => ∃ j : Nat, j ≤ mn ∧ i = .int .i64 j ∧ Hid (Below w.heap.size w wr) ∧ Hid (∀ k, k < j → ∀ e, B[k]? = some e → e.1 ≠ nm)) (fun i _ => mn - (intOf i).toNat)
  case atStart => exact ⟨0, Nat.zero_le _, rfl, Below.refl _ _, fun k hk => by omega⟩
  case round =>
    obtain ⟨j, hj, rfl, HBj, HN⟩ := hrel
    have h1000 := HL.out.2
    by_cases hlt : j < mn
    · obtain ⟨b, off, n1, on, al, ll, cl, l, rfl, hSj, hb, _, x1, _, _, _⟩ := (HS.out.later HBj.out).at j hlt
      have HSJ := Lib.hid hSj
      clear hSj
      by_cases he : n1 = nm
      · have hse := str_yes he
        obtain rfl : r = (j : Int) := by rw [← HR.out]; exact fndB_at HSJ.out he HN.out
        clear he
        go_wp2
        go_ret
        exact ⟨rfl, HBj.out⟩
      · have hse := str_no he
        have HN2 : Hid (∀ k, k < j + 1 → ∀ e, B[k]? = some e → e.1 ≠ nm) := fun k hk e hke => by
          by_cases e1 : k = j
          · subst e1
            have := HSJ.out.symm.trans hke
            cases this
            exact he
          · exact HN.out k (by omega) e hke
        clear he
        have hj1000 : j ≤ 1000 := by omega
        go_wp2
        go_roundw
        case rel => exact ⟨j + 1, by omega, by go_num, HBj.out, HN2.out⟩
        case measure => simp [intOf]; omega
    · obtain rfl : j = mn := by omega
      obtain rfl : r = -1 := by
        rw [← HR.out]
        refine fndB_none fun d hd => ?_
        obtain ⟨i, hi⟩ := List.getElem?_of_mem hd
        exact HN.out i (by have := (List.getElem?_eq_some_iff.1 hi).1; have := HL.out.1; omega) d hi
      go_wp2
      go_ret
      exact ⟨rfl, HBj.out⟩
def sizedM (n c : Int) : Prop := 0 ≤ n ∧ n ≤ 4096 ∧ n / 2 ^ c.toNat * 2 ^ c.toNat = n
instance (n c : Int) : Decidable (sizedM n c) := by unfold sizedM; exact inferInstance
theorem refSized (n c : Int) (hn : I64 n) (hc : 0 ≤ c ∧ c ≤ 6) {R : Bool} (hR : decide (sizedM n c) = R) (w : World) : Calls Tryz.prog 45 #[.int .i64 n, .int .i64 c] w fun e w' => e = .returned (.bool R) ∧ Below w.heap.size w w' := by
  obtain ⟨C, rfl⟩ : ∃ C : Nat, c = C := ⟨c.toNat, by omega⟩
  have hC : C ≤ 6 := by omega
  have hR' : R = true ↔ 0 ≤ n ∧ n ≤ 4096 ∧ n / 2 ^ C * 2 ^ C = n := by
    rw [← hR, decide_eq_true_iff]
    exact Iff.rfl
  have hF : ¬ (0 ≤ n ∧ n ≤ 4096 ∧ n / 2 ^ C * 2 ^ C = n) → false = R := fun h => by
    cases R with
    | false => rfl
    | true => exact absurd (hR'.1 rfl) h
  clear hR
  by_cases h1 : n < 0
  · obtain rfl : false = R := hF (fun h => by omega)
    have d1 : decide (0 ≤ n) = false := decide_eq_false (by omega)
    clear hR' hF hn hc
    go_enter Tryz.func45, Tryz.ntmps45
    go_wp2
    go_ret
    exact ⟨rfl, Below.refl _ _⟩
  · by_cases h2 : 4096 < n
    · obtain rfl : false = R := hF (fun h => by omega)
      have d1 : decide (0 ≤ n) = true := decide_eq_true (by omega)
      have d2 : decide (n ≤ 4096) = false := decide_eq_false (by omega)
      clear hR' hF hn hc
      go_enter Tryz.func45, Tryz.ntmps45
      go_wp2
      go_ret
      exact ⟨rfl, Below.refl _ _⟩
    · obtain ⟨N, rfl⟩ : ∃ N : Nat, n = N := ⟨n.toNat, by omega⟩
      have hw : wrap64 ((N : Int) / 2 ^ C * 2 ^ C) = (N : Int) / 2 ^ C * 2 ^ C := by
        have h3 : (0 : Int) < 2 ^ C := by
          have e : (2 : Int) ^ C = ((2 ^ C : Nat) : Int) := by simp
          have := Nat.two_pow_pos C
          rw [e]
          omega
        have h4 := Int.ediv_mul_le (N : Int) (by omega : (2 : Int) ^ C ≠ 0)
        have h5 : 0 ≤ (N : Int) / 2 ^ C * 2 ^ C := Int.mul_nonneg (Int.ediv_nonneg (by omega) (by omega)) (by omega)
        unfold wrap64
        omega
      have hb : (((N : Int) / 2 ^ C * 2 ^ C) == (N : Int)) = R := by
        rw [Bool.eq_iff_iff, beq_iff_eq, hR']
        exact ⟨fun h => ⟨by omega, by omega, h⟩, fun h => h.2.2⟩
      clear hR' hF hc
      go_enter Tryz.func45, Tryz.ntmps45
      go_wp2
      go_ret
      exact ⟨rfl, Below.refl _ _⟩
/-- Which metas are right. -/
def shOk (c : Int) (S : List ShM) (i : Nat) (d : ShM) : Prop := nameOk d.1 ∧ fndS d.1 S = i ∧ sizedM d.2.1 c ∧ rightT d.2.2 (d.2.1 / 2 ^ c.toNat) c
def bmOk (B : List BmM) (i : Nat) (b : BmM) : Prop := nameOk b.1 ∧ fndB b.1 B = i ∧ Rt (-1) b.2.2 ∧ (0 < b.2.2.length → (spAt b.2.2 (b.2.2.length - 1)).2 ≤ 4096)
structure RightMt (M : MM) : Prop where
  c : 0 ≤ M.c ∧ M.c ≤ 6
  s : sizedM M.s M.c
  bk : 0 < M.bk.size → nameOk M.bk
  nS : M.S.length ≤ 8
  nB : M.B.length ≤ 8
  nK : M.K.length ≤ 65536
  T : rightT M.T (M.s / 2 ^ M.c.toNat) M.c
  S : ∀ i d, M.S[i]? = some d → shOk M.c M.S i d
  B : ∀ i b, M.B[i]? = some b → bmOk M.B i b
  K : ∀ k ∈ M.K, 0 ≤ k ∧ k ≤ 65535
end Go.Proofs.YtlljcdmblmkblaaGreat
namespace Go.Proofs.YtlljcdmblmkblaaGreat
open Go.RowKit
set_option linter.unusedVariables false

def RightE (P : Prop) (w : World) (e : Ending) (w' : World) : Prop := ∃ G : Bool, e = .returned (.bool G) ∧ Below w.heap.size w w' ∧ (G = true ↔ P)
theorem RightE.no {P : Prop} {w w' : World} {e : Ending} (h : e = .returned (.bool false)) (hb : Below w.heap.size w w') (hp : P → false = true) : RightE P w e w' := ⟨false, h, hb, fun h => Bool.noConfusion h, fun h => hp h⟩
theorem RightE.yes {P : Prop} {w w' : World} {e : Ending} (h : e = .returned (.bool true)) (hb : Below w.heap.size w w') (hp : P) : RightE P w e w' := ⟨true, h, hb, fun _ => hp, fun _ => rfl⟩
/-- A box of a meta, all else below it as it was. -/
structure RtS (w V : World) (cs : Array Value) : Prop where
  box : Blk V w.heap.size 41 cs
  below : Below w.heap.size w V
theorem RtS.later {w V V' : World} {cs : Array Value} (h : RtS w V cs) (hb : Below V.heap.size V V') : RtS w V' cs := ⟨h.box.later hb, h.below.trans (hb.mono h.below.size)⟩
theorem RtS.alloc {w V : World} {cs : Array Value} (h : RtS w V cs) (o : Obj) : RtS w (V.alloc o) cs := h.later ((Below.refl _ _).alloc (Nat.le_refl _) _)
theorem RtS.first (w : World) (cs : Array Value) : RtS w (w.alloc (.cells cs 41)) cs := ⟨Blk.new _ _ _, (Below.refl _ _).alloc (Nat.le_refl _) _⟩
def BQ (P : Prop) (w : World) (e : Ending) (w' : World) : Prop := ∃ B : Bool, e = .returned (.bool B) ∧ Below w.heap.size w w' ∧ (B = true ↔ P)
theorem szQ (n c : Int) (hn : I64 n) (hc : 0 ≤ c ∧ c ≤ 6) (w : World) : Calls Tryz.prog 45 #[.int .i64 n, .int .i64 c] w (BQ (sizedM n c) w) :=
  (refSized n c hn hc rfl w).mono fun e w' h => ⟨_, h.1, h.2, decide_eq_true_iff⟩
theorem nmQ (s : ByteArray) (hs : s.size ≤ 9223372036854775807) (w : World) : Calls Tryz.prog 46 #[.string s] w (BQ (nameOk s) w) :=
  (refName s hs rfl w).mono fun e w' ⟨h1, h2⟩ => ⟨_, h1, h2 ▸ Below.refl _ _, decide_eq_true_iff⟩
theorem tbQ {a : Option Addr} {len cap : Nat} {T : Tb} (n c : Int) (w : World) (h : Tab w a len cap T) : Calls Tryz.prog 47 #[.agg #[.slice a len cap], .int .i64 n, .int .i64 c] w (BQ (rightT T n c) w) :=
  (refRightT rfl w h).mono fun e w' h => ⟨_, h.1, h.2, decide_eq_true_iff⟩
theorem spQ {w : World} {a : Option Addr} {len cap : Nat} {l : List Sp} (h : SpD w a len cap l) : Calls Tryz.prog 50 #[.slice a len cap] w (BQ (Rt (-1) l) w) :=
  (refRight_any a len cap l w h.1 h.2.2.1 _ rfl).mono fun e w' h => ⟨_, h.1, h.2, decide_eq_true_iff⟩
theorem bne_cases (a b : Int) : ((a == b) = true ∧ (a != b) = false) ∨ ((a == b) = false ∧ (a != b) = true) := by
  cases h : (a == b) with
  | true => exact Or.inl ⟨rfl, by simp [bne, h]⟩
  | false => exact Or.inr ⟨rfl, by simp [bne, h]⟩
set_option maxRecDepth 20000 in
set_option maxHeartbeats 8000000 in
theorem refRight_main (w : World) (x : Mt) (M : MM) (h : MetaD w x M) (hcr : 0 ≤ M.c ∧ M.c ≤ 6) (hS8 : M.S.length ≤ 8) (hB8 : M.B.length ≤ 8) (hK6 : M.K.length ≤ 65536) : Calls Tryz.prog 19 #[.agg (mtA M x)] w (RightE (RightMt M) w) := by
  obtain ⟨a0, n0, c0, sa, sn, sc, ma, mn, mc, ca, cn, cc⟩ := x
  obtain ⟨c, s, bk, T, S, B, K⟩ := M
  have HMD := Lib.hid h
  obtain ⟨hc, hs, hbk, hT, hS, hB, hK⟩ := h
  dsimp only [mtA] at hc hs hbk hT hS hB hK hcr hS8 hB8 hK6 ⊢
  have hsl := hS.lens
  have hml := hB.lens
  have hkl := hK.1.1
  obtain ⟨P, hP⟩ := named (RightMt ⟨c, s, bk, T, S, B, K⟩)
  have hP1 : P → RightMt ⟨c, s, bk, T, S, B, K⟩ := fun h => by rw [hP.out]; exact h
  have hP2 : RightMt ⟨c, s, bk, T, S, B, K⟩ → P := fun h => by rw [← hP.out]; exact h
  rw [hP.out]
  clear hP
  have HPb : Hid (bk.toList.isEmpty = false → P → nameOk bk) := fun e h => (hP1 h).bk (by
    dsimp only
    rcases Nat.eq_zero_or_pos bk.size with h | h
    · rw [empty_size.2 h] at e
      cases e
    · exact h)
  have HP1 := Lib.hid hP1
  have HP2 : Hid (sizedM s c → (bk.toList.isEmpty = true ∨ nameOk bk) → rightT T (s / 2 ^ c.toNat) c → (∀ i d, S[i]? = some d → shOk c S i d) → (∀ i b, B[i]? = some b → bmOk B i b) → (∀ k ∈ K, 0 ≤ k ∧ k ≤ 65535) → P) := fun e1 e2 e3 e4 e5 e6 => hP2 ⟨hcr, e1, fun h0 => by
    rcases e2 with e2 | e2
    · have := empty_size.1 e2
      dsimp only at h0
      omega
    · exact e2, hS8, hB8, hK6, e3, e4, e5, e6⟩
  have HSZ := Lib.hid (fun (n : Int) (hn : I64 n) (w : World) => szQ n c hn hcr w)
  have HNB := Lib.hid (fun (w : World) => nmQ bk hbk w)
  have HTR := Lib.hid (fun (w1 : World) (n : Int) (h : Below w.heap.size w w1) => tbQ n c w1 (hT.later h))
  have HS := Lib.hid hS
  have HMM := Lib.hid hB
  have HCC := Lib.hid hK.1
  have HRT := Lib.hid (RtS.first w #[.int .i64 c, .int .i64 s, .string bk, .slice a0 n0 c0, .slice sa sn sc, .slice ma mn mc, .slice ca cn cc])
  have dc1 : decide (c < 0) = false := decide_eq_false (by omega)
  have dc2 : decide (6 < c) = false := decide_eq_false (by omega)
  have dc3 : decide ((65536 : Int) < cn) = false := decide_eq_false (by omega)
  have dc4 : decide ((8 : Int) < sn) = false := decide_eq_false (by omega)
  have dc5 : decide ((8 : Int) < mn) = false := decide_eq_false (by omega)
  have HSH2 : Hid (min (IntKind.u64.wrap c).toNat 64 = c.toNat) := by
    rw [show IntKind.u64.wrap c = c from by simp [IntKind.wrap, IntKind.signed, IntKind.bits]; omega]
    show min c.toNat 64 = c.toNat
    omega
  have HSH3 : Hid ((IntKind.u64.wrap c).toNat = c.toNat) := by
    rw [show IntKind.u64.wrap c = c from by simp [IntKind.wrap, IntKind.signed, IntKind.bits]; omega]
    exact Lib.hid rfl
  have HI := Lib.hid hs
  have HSL := Lib.hid hsl
  have HML := Lib.hid hml
  have HKL := Lib.hid hkl
  have hcn : cn ≤ 65536 := by omega
  have hsn : sn ≤ 8 := by omega
  have hmn : mn ≤ 8 := by omega
  clear hc hs hbk hT hS hB hK hP1 hP2 hsl hml hkl hS8 hB8 hK6 hcr
  go_enter Tryz.func19, Tryz.ntmps19
  cases he : bk.toList.isEmpty
  all_goals
    go_wp2_with (first
      | (go_at_call 45; refine (HSZ.out _ HI.out _).mono ?_; rintro e w1 ⟨B, rfl, h, hr⟩; have HA := Lib.hid hr; have HRT := Lib.hid (HRT.out.later h); obtain ⟨m0, m1, m2, m3, m4, m5, m6⟩ := cells7 HRT.out.box; clear h hr; cases B)
      | (go_at_call 46; refine (HNB.out _).mono ?_; rintro e w2 ⟨B, rfl, h, hr⟩; have HBk := Lib.hid hr; have HRT := Lib.hid (HRT.out.later h); obtain ⟨m0, m1, m2, m3, m4, m5, m6⟩ := cells7 HRT.out.box; clear h hr; cases B)
      | (go_at_call 47; refine (HTR.out _ _ HRT.out.below).mono ?_; rintro e w3 ⟨B, rfl, h, hr⟩; have HT0 := Lib.hid hr; have HRT := Lib.hid (HRT.out.later h); obtain ⟨m0, m1, m2, m3, m4, m5, m6⟩ := cells7 HRT.out.box; clear h hr; cases B))
  all_goals first
    | (go_ret; exact RightE.no rfl HRT.out.below fun hp => HA.out.2 (HP1.out hp).s)
    | (go_ret; exact RightE.no rfl HRT.out.below fun hp => HBk.out.2 (HPb.out he hp))
    | (go_ret; exact RightE.no rfl HRT.out.below fun hp => HT0.out.2 (by first | (rw [HSH2.out]; exact (HP1.out hp).T) | (rw [HSH3.out]; exact (HP1.out hp).T)))
    | skip
  all_goals
    have HQ : Hid ((∀ i d, S[i]? = some d → shOk c S i d) → (∀ i b, B[i]? = some b → bmOk B i b) → (∀ k ∈ K, 0 ≤ k ∧ k ≤ 65535) → P) := HP2.out (HA.out.1 (by first | rfl | trivial)) (by first | exact Or.inl he | exact Or.inr (HBk.out.1 (by first | rfl | trivial))) (by have := HT0.out.1 (by first | rfl | trivial); first | (rw [HSH2.out] at this; exact this) | (rw [HSH3.out] at this; exact this))
    clear HT0 HA HP2 HPb
    go_loopw [3] (fun i wr => ∃ j : Nat, j ≤ sn ∧ i = .int .i64 j ∧ Hid (∀ i d, i < j → S[i]? = some d → shOk c S i d) ∧ Hid (RtS w wr #[.int .i64 c, .int .i64 s, .string bk, .slice a0 n0 c0, .slice sa sn sc, .slice ma mn mc, .slice ca cn cc])) (fun i _ => sn - (intOf i).toNat)
    case atStart => exact ⟨0, Nat.zero_le _, rfl, (fun i d hd => by omega), HRT.out⟩
    case round =>
      obtain ⟨j, hj, rfl, HJ, HRT⟩ := hrel
      obtain ⟨m0, m1, m2, m3, m4, m5, m6⟩ := cells7 HRT.out.box
      have hlm := HRT.out.box.lt
      by_cases hlt : j < sn
      · obtain ⟨b, off, nm, sz, al, ll, cl, T', rfl, hSj, hb, hok, x1, x2, x3, hT'⟩ := (HS.out.later HRT.out.below).at j hlt
        have hT0 : ∀ w1, Below wr.heap.size wr w1 → Tab w1 al ll cl T' := fun w1 h => hT'.later h
        obtain ⟨hz, hnl⟩ := hok
        dsimp only at hz hnl
        obtain ⟨k, hk⟩ := named (fndS nm S)
        have hkr : I64 k := by
          rw [← hk.out]
          rcases fndS_cases nm S with ⟨h1, _⟩ | ⟨i, d, h1, _, _, h4, _⟩ <;> rw [h1] <;> (have := HSL.out; unfold I64; omega)
        have HNJ := Lib.hid (fun (w : World) => nmQ nm hnl w)
        have HZJ := Lib.hid hz
        have HTJ := Lib.hid (fun (w1 : World) (n : Int) (h : Below wr.heap.size wr w1) => tbQ n c w1 (hT0 w1 h))
        have HSH := Lib.hid (fun (w1 : World) (h : Below w.heap.size w w1) => refShot w1 _ _ (HMD.out.later h) nm hk.out)
        have HPJ : Hid (P → shOk c S j (nm, sz, T')) := fun h => (HP1.out h).S j _ hSj
        have HKK : Hid ((k == (j : Int)) = false → P → false = true) := fun e h => by
          have := (HPJ.out h).2.1
          try dsimp only at this
          rw [hk.out] at this
          subst this
          simp at e
        have HTK : Hid (nameOk nm → (k == (j : Int)) = true → sizedM sz c → rightT T' (sz / 2 ^ c.toNat) c → ∀ i d, i < j + 1 → S[i]? = some d → shOk c S i d) := fun e1 e2 e3 e4 i d hi hd => by
          by_cases e : i = j
          · subst e
            have := hSj.symm.trans hd
            cases this
            exact ⟨e1, hk.out.trans (by simpa using e2), e3, e4⟩
          · exact HJ.out i d (by omega) hd
        obtain ⟨E, hE⟩ : ∃ E, wr.heap.size = E := ⟨_, rfl⟩
        have HEE : Hid (Blk (wr.alloc (.cells #[.string nm, .int .i64 sz, .slice al ll cl] 77)) E 77 #[.string nm, .int .i64 sz, .slice al ll cl]) := by
          have := Blk.new wr 77 #[.string nm, .int .i64 sz, .slice al ll cl]
          rw [hE] at this
          exact this
        have HRT := Lib.hid (HRT.out.alloc (.cells #[.string nm, .int .i64 sz, .slice al ll cl] 77))
        have HWR : Hid (Below wr.heap.size wr (wr.alloc (.cells #[.string nm, .int .i64 sz, .slice al ll cl] 77))) := (Below.refl _ _).alloc (Nat.le_refl _) _
        clear hT' hT0 hSj hz hnl hk HJ
        go_wp2_with (first
          | (go_at_call 46; refine (HNJ.out _).mono ?_; rintro e w1 ⟨B, rfl, h, hr⟩; have HNm := Lib.hid hr; have HRT := Lib.hid (HRT.out.later h); obtain ⟨m0, m1, m2, m3, m4, m5, m6⟩ := cells7 HRT.out.box; have HEE := Lib.hid (HEE.out.later h); have HWR : Hid (Below wr.heap.size wr w1) := HWR.out.trans (h.mono HWR.out.size); obtain ⟨e0, e1, e2⟩ := cells3 HEE.out; clear h hr; cases B)
          | (go_at_call 48; refine (HSH.out _ HRT.out.below).mono ?_; rintro e w2 ⟨rfl, h⟩; have HRT := Lib.hid (HRT.out.later h); obtain ⟨m0, m1, m2, m3, m4, m5, m6⟩ := cells7 HRT.out.box; have HEE := Lib.hid (HEE.out.later h); have HWR : Hid (Below wr.heap.size wr w2) := HWR.out.trans (h.mono HWR.out.size); obtain ⟨e0, e1, e2⟩ := cells3 HEE.out; clear h; rcases bne_cases k (j : Int) with ⟨hkj, hkn⟩ | ⟨hkj, hkn⟩)
          | (go_at_call 45; refine (HSZ.out _ HZJ.out _).mono ?_; rintro e w3 ⟨B, rfl, h, hr⟩; have HSz := Lib.hid hr; have HRT := Lib.hid (HRT.out.later h); obtain ⟨m0, m1, m2, m3, m4, m5, m6⟩ := cells7 HRT.out.box; have HEE := Lib.hid (HEE.out.later h); have HWR : Hid (Below wr.heap.size wr w3) := HWR.out.trans (h.mono HWR.out.size); obtain ⟨e0, e1, e2⟩ := cells3 HEE.out; clear h hr; cases B)
          | (go_at_call 47; refine (HTJ.out _ _ HWR.out).mono ?_; rintro e w4 ⟨B, rfl, h, hr⟩; have HTb := Lib.hid hr; have HRT := Lib.hid (HRT.out.later h); obtain ⟨m0, m1, m2, m3, m4, m5, m6⟩ := cells7 HRT.out.box; clear h hr; cases B))
        all_goals first
          | (go_ret; exact RightE.no rfl HRT.out.below fun hp => HNm.out.2 (HPJ.out hp).1)
          | (go_ret; exact RightE.no rfl HRT.out.below (HKK.out hkj))
          | (go_ret; exact RightE.no rfl HRT.out.below fun hp => HSz.out.2 (HPJ.out hp).2.2.1)
          | (go_ret; exact RightE.no rfl HRT.out.below fun hp => HTb.out.2 (by first | (rw [HSH2.out]; exact (HPJ.out hp).2.2.2) | (rw [HSH3.out]; exact (HPJ.out hp).2.2.2)))
          | (go_roundw
             case rel => exact ⟨j + 1, by omega, by go_num, HTK.out (HNm.out.1 (by first | rfl | trivial)) hkj (HSz.out.1 (by first | rfl | trivial)) (by have := HTb.out.1 (by first | rfl | trivial); first | (rw [HSH2.out] at this; exact this) | (rw [HSH3.out] at this; exact this)), HRT.out⟩
             case measure => simp [intOf]; omega)

      · have HQ : Hid ((∀ i b, B[i]? = some b → bmOk B i b) → (∀ k ∈ K, 0 ≤ k ∧ k ≤ 65535) → P) := HQ.out fun i d hd => HJ.out i d (by have := (List.getElem?_eq_some_iff.1 hd).1; have := HSL.out.1; omega) hd
        have hjn : decide ((j : Int) < sn) = false := decide_eq_false (by omega)
        clear HJ HSZ HTR HS HNB
        go_wp2
        go_loopw [5] (fun i wr => ∃ p : Nat, p ≤ mn ∧ i = .int .i64 p ∧ Hid (∀ i b, i < p → B[i]? = some b → bmOk B i b) ∧ Hid (RtS w wr #[.int .i64 c, .int .i64 s, .string bk, .slice a0 n0 c0, .slice sa sn sc, .slice ma mn mc, .slice ca cn cc])) (fun i _ => mn - (intOf i).toNat)
        case atStart => exact ⟨0, Nat.zero_le _, rfl, (fun i d hd => by omega), HRT.out⟩
        case round =>
          obtain ⟨p, hp, rfl, HJ, HRT⟩ := hrel
          obtain ⟨m0, m1, m2, m3, m4, m5, m6⟩ := cells7 HRT.out.box
          have hlm := HRT.out.box.lt
          by_cases hlt : p < mn
          · obtain ⟨b, off, nm, on, al, ll, cl, l, rfl, hSj, hb, hnl, x1, x2, x3, hL⟩ := (HMM.out.later HRT.out.below).at p hlt
            obtain ⟨k, hk⟩ := named (fndB nm B)
            have hkr : I64 k := by
              rw [← hk.out]
              rcases fndB_cases nm B with ⟨h1, _⟩ | ⟨i, d, h1, _, _, h4, _⟩ <;> rw [h1] <;> (have := HML.out; unfold I64; omega)
            have HBM := Lib.hid (fun (w1 : World) (h : Below w.heap.size w w1) => refBitmap w1 _ mn mc B (HMM.out.later h) nm hk.out)
            have HNJ := Lib.hid (fun (w : World) => nmQ nm hnl w)
            have HSP := Lib.hid (fun (w1 : World) (h : Below wr.heap.size wr w1) => spQ (hL.later h))
            have hLl : l.length = ll := hL.1.1
            have h100 : ll ≤ 100000 := hL.2.2.1
            have HSC : Hid (∀ (w1 : World) (K : Nat), K < ll → Below wr.heap.size wr w1 → ∃ b off, al = some ⟨b, off, none⟩ ∧ w1.cell? ⟨b, off + K * 2 + 1, none⟩ = some (.int .i64 (spAt l K).2)) := fun w1 K hK h => by
              obtain ⟨b, off, rfl⟩ := hL.1.lies (by omega)
              exact ⟨b, off, rfl, (span_cells (hL.1.later h) K hK).2⟩
            have HPJ : Hid (P → bmOk B p (nm, on, l)) := fun h => (HP1.out h).B p _ hSj
            have HKK : Hid ((k == (p : Int)) = false → P → false = true) := fun e h => by
              have := (HPJ.out h).2.1
              try dsimp only at this
              rw [hk.out] at this
              subst this
              simp at e
            have HTK : Hid (nameOk nm → (k == (p : Int)) = true → Rt (-1) l → (0 < l.length → (spAt l (l.length - 1)).2 ≤ 4096) → ∀ i d, i < p + 1 → B[i]? = some d → bmOk B i d) := fun e1 e2 e3 e4 i d hi hd => by
              by_cases e : i = p
              · subst e
                have := hSj.symm.trans hd
                cases this
                exact ⟨e1, hk.out.trans (by simpa using e2), e3, e4⟩
              · exact HJ.out i d (by omega) hd
            obtain ⟨E, hE⟩ : ∃ E, wr.heap.size = E := ⟨_, rfl⟩
            have HEE : Hid (Blk (wr.alloc (.cells #[.string nm, .bool on, .slice al ll cl] 92)) E 92 #[.string nm, .bool on, .slice al ll cl]) := by
              have := Blk.new wr 92 #[.string nm, .bool on, .slice al ll cl]
              rw [hE] at this
              exact this
            have HRT := Lib.hid (HRT.out.alloc (.cells #[.string nm, .bool on, .slice al ll cl] 92))
            have HWR : Hid (Below wr.heap.size wr (wr.alloc (.cells #[.string nm, .bool on, .slice al ll cl] 92))) := (Below.refl _ _).alloc (Nat.le_refl _) _
            clear hSj hnl hL hk HJ
            by_cases h0 : ll = 0
            · subst h0
              have HE0 : Hid (0 < l.length → (spAt l (l.length - 1)).2 ≤ 4096) := fun h => by omega
              clear hLl HSC
              go_wp2_with (first
                | (go_at_call 46; refine (HNJ.out _).mono ?_; rintro e w1 ⟨B, rfl, h, hr⟩; have HNm := Lib.hid hr; have HRT := Lib.hid (HRT.out.later h); obtain ⟨m0, m1, m2, m3, m4, m5, m6⟩ := cells7 HRT.out.box; have HEE := Lib.hid (HEE.out.later h); have HWR : Hid (Below wr.heap.size wr w1) := HWR.out.trans (h.mono HWR.out.size); obtain ⟨e0, e1, e2⟩ := cells3 HEE.out; clear h hr; cases B)
                | (go_at_call 49; refine (HBM.out _ HRT.out.below).mono ?_; rintro e w2 ⟨rfl, h⟩; have HRT := Lib.hid (HRT.out.later h); obtain ⟨m0, m1, m2, m3, m4, m5, m6⟩ := cells7 HRT.out.box; have HEE := Lib.hid (HEE.out.later h); have HWR : Hid (Below wr.heap.size wr w2) := HWR.out.trans (h.mono HWR.out.size); obtain ⟨e0, e1, e2⟩ := cells3 HEE.out; clear h; rcases bne_cases k (p : Int) with ⟨hkj, hkn⟩ | ⟨hkj, hkn⟩)
                | (go_at_call 50; refine (HSP.out _ HWR.out).mono ?_; rintro e w4 ⟨B, rfl, h, hr⟩; have HRr := Lib.hid hr; have HRT := Lib.hid (HRT.out.later h); obtain ⟨m0, m1, m2, m3, m4, m5, m6⟩ := cells7 HRT.out.box; have HEE := Lib.hid (HEE.out.later h); obtain ⟨e0, e1, e2⟩ := cells3 HEE.out; clear h hr; cases B))
              all_goals first
                | (go_ret; exact RightE.no rfl HRT.out.below fun hp => HNm.out.2 (HPJ.out hp).1)
                | (go_ret; exact RightE.no rfl HRT.out.below (HKK.out hkj))
                | (go_ret; exact RightE.no rfl HRT.out.below fun hp => HRr.out.2 (HPJ.out hp).2.2.1)
                | (go_roundw
                   case rel => exact ⟨p + 1, by omega, by go_num, HTK.out (HNm.out.1 (by first | rfl | trivial)) hkj (HRr.out.1 (by first | rfl | trivial)) HE0.out, HRT.out⟩
                   case measure => simp [intOf]; omega)

            · obtain ⟨K', hK⟩ : ∃ K', Hid (K' + 1 = ll) := ⟨ll - 1, by show ll - 1 + 1 = ll; omega⟩
              have hKl : K' < ll := by have := hK.out; omega
              have e1' : IntKind.i64.wrap ((ll : Int) - 1) = (K' : Int) := by have := hK.out; rw [IntKind.wrap_i64] <;> omega
              obtain ⟨v9, hv⟩ := named (spAt l K').2
              have HE0 : Hid (decide ((4096 : Int) < v9) = false → 0 < l.length → (spAt l (l.length - 1)).2 ≤ 4096) := fun e h => by
                rw [show l.length - 1 = K' from by have := hK.out; omega, hv.out]
                have := of_decide_eq_false e
                omega
              have HE1 : Hid (decide ((4096 : Int) < v9) = true → P → false = true) := fun e h => by
                have h1 := (HPJ.out h).2.2.2
                dsimp only at h1
                have h2 := h1 (by omega)
                rw [show l.length - 1 = K' from by have := hK.out; omega, hv.out] at h2
                have := of_decide_eq_true e
                omega
              have HSC : Hid (∀ (w1 : World), Below wr.heap.size wr w1 → ∃ b off, al = some ⟨b, off, none⟩ ∧ w1.cell? ⟨b, off + K' * 2 + 1, none⟩ = some (.int .i64 v9)) := fun w1 h => by rw [← hv.out]; exact HSC.out w1 K' hKl h
              obtain ⟨b', off', rfl, _⟩ := HSC.out wr (Below.refl _ _)
              clear hv hLl
              go_wp2_with (first
                | (go_at_call 46; refine (HNJ.out _).mono ?_; rintro e w1 ⟨B, rfl, h, hr⟩; have HNm := Lib.hid hr; have HRT := Lib.hid (HRT.out.later h); obtain ⟨m0, m1, m2, m3, m4, m5, m6⟩ := cells7 HRT.out.box; have HEE := Lib.hid (HEE.out.later h); have HWR : Hid (Below wr.heap.size wr w1) := HWR.out.trans (h.mono HWR.out.size); obtain ⟨e0, e1, e2⟩ := cells3 HEE.out; clear h hr; cases B)
                | (go_at_call 49; refine (HBM.out _ HRT.out.below).mono ?_; rintro e w2 ⟨rfl, h⟩; have HRT := Lib.hid (HRT.out.later h); obtain ⟨m0, m1, m2, m3, m4, m5, m6⟩ := cells7 HRT.out.box; have HEE := Lib.hid (HEE.out.later h); have HWR : Hid (Below wr.heap.size wr w2) := HWR.out.trans (h.mono HWR.out.size); obtain ⟨e0, e1, e2⟩ := cells3 HEE.out; clear h; rcases bne_cases k (p : Int) with ⟨hkj, hkn⟩ | ⟨hkj, hkn⟩)
                | (go_at_call 50; refine (HSP.out _ HWR.out).mono ?_; rintro e w4 ⟨B, rfl, h, hr⟩; have HRr := Lib.hid hr; have HRT := Lib.hid (HRT.out.later h); obtain ⟨m0, m1, m2, m3, m4, m5, m6⟩ := cells7 HRT.out.box; have HEE := Lib.hid (HEE.out.later h); have HWR : Hid (Below wr.heap.size wr w4) := HWR.out.trans (h.mono HWR.out.size); obtain ⟨e0, e1, e2⟩ := cells3 HEE.out; obtain ⟨b9, off9, q9, z9⟩ := HSC.out _ HWR.out; cases q9; clear h hr; cases B; rotate_left; cases hv9 : decide ((4096 : Int) < v9)))
              all_goals first
                | (go_ret; exact RightE.no rfl HRT.out.below fun hp => HNm.out.2 (HPJ.out hp).1)
                | (go_ret; exact RightE.no rfl HRT.out.below (HKK.out hkj))
                | (go_ret; exact RightE.no rfl HRT.out.below (HE1.out hv9))
                | (go_ret; exact RightE.no rfl HRT.out.below fun hp => HRr.out.2 (HPJ.out hp).2.2.1)
                | (go_roundw
                   case rel => exact ⟨p + 1, by omega, by go_num, HTK.out (HNm.out.1 (by first | rfl | trivial)) hkj (HRr.out.1 (by first | rfl | trivial)) (HE0.out hv9), HRT.out⟩
                   case measure => simp [intOf]; omega)

          · have HQ : Hid ((∀ k ∈ K, 0 ≤ k ∧ k ≤ 65535) → P) := HQ.out fun i d hd => HJ.out i d (by have := (List.getElem?_eq_some_iff.1 hd).1; have := HML.out.1; omega) hd
            have hpn : decide ((p : Int) < mn) = false := decide_eq_false (by omega)
            clear HJ HMM
            go_wp2
            go_loopw [7] (fun i wr => ∃ q : Nat, q ≤ cn ∧ i = .int .i64 q ∧ Hid (∀ i, i < q → ∀ k, K[i]? = some k → 0 ≤ k ∧ k ≤ 65535) ∧ Hid (RtS w wr #[.int .i64 c, .int .i64 s, .string bk, .slice a0 n0 c0, .slice sa sn sc, .slice ma mn mc, .slice ca cn cc])) (fun i _ => cn - (intOf i).toNat)
            case atStart => exact ⟨0, Nat.zero_le _, rfl, (fun i hi => by omega), HRT.out⟩
            case round =>
              obtain ⟨q, hq, rfl, HJ, HRT⟩ := hrel
              obtain ⟨m0, m1, m2, m3, m4, m5, m6⟩ := cells7 HRT.out.box
              have hlm := HRT.out.box.lt
              by_cases hlt : q < cn
              · obtain ⟨b, off, rfl, x1, y1⟩ := iv_cell (HCC.out.later HRT.out.below) q hlt
                obtain ⟨v, hv⟩ := named (ivAt K q)
                rw [hv.out] at x1 y1
                have HPJ : Hid (P → 0 ≤ v ∧ v ≤ 65535) := fun h => (HP1.out h).K v (List.mem_of_getElem? y1)
                have HTK : Hid (0 ≤ v → v ≤ 65535 → ∀ i, i < q + 1 → ∀ k, K[i]? = some k → 0 ≤ k ∧ k ≤ 65535) := fun e1 e2 i hi k hk => by
                  by_cases e : i = q
                  · subst e
                    have := y1.symm.trans hk
                    cases this
                    exact ⟨e1, e2⟩
                  · exact HJ.out i (by omega) k hk
                clear y1 hv HJ
                by_cases h1 : v < 0
                · have d1 : decide (v < 0) = true := decide_eq_true h1
                  go_wp2
                  go_ret
                  exact RightE.no rfl HRT.out.below fun hp => by have := (HPJ.out hp).1; omega
                · have d1 : decide (v < 0) = false := decide_eq_false h1
                  by_cases h2 : 65535 < v
                  · have d2 : decide ((65535 : Int) < v) = true := decide_eq_true h2
                    go_wp2
                    go_ret
                    exact RightE.no rfl HRT.out.below fun hp => by have := (HPJ.out hp).2; omega
                  · have d2 : decide ((65535 : Int) < v) = false := decide_eq_false h2
                    go_wp2
                    go_roundw
                    case rel => exact ⟨q + 1, by omega, by go_num, HTK.out (by omega) (by omega), HRT.out⟩
                    case measure => simp [intOf]; omega
              · have hqn : decide ((q : Int) < cn) = false := decide_eq_false (by omega)
                have HQ : Hid P := HQ.out fun k hk => by
                  obtain ⟨i, hi⟩ := List.getElem?_of_mem hk
                  exact HJ.out i (by have := (List.getElem?_eq_some_iff.1 hi).1; have := HKL.out; omega) k hi
                clear HJ
                go_wp2
                go_ret
                exact RightE.yes rfl HRT.out.below HQ.out
end Go.Proofs.YtlljcdmblmkblaaGreat
