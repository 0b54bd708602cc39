/-
  Shots of names of one letter each, added one by one, dropped one by one (package shots; ShotMany). Conditions: none.
-/
import Derived.Test.YtjaaieamlgghhaaTa
import Derived.Laws.BytesString
import Derived.Laws.Cells
namespace Go.Proofs.Ytjaaieamlgghhaa
open Go.RowKit
set_option linter.unusedVariables false

def chS (i : Nat) : ByteArray := ⟨#[UInt8.ofNat (97 + i)]⟩
def shS : Nat → Nat → List ShM
  | _, 0 => []
  | i, n + 1 => (chS i, 0, []) :: shS (i + 1) n
noncomputable def MMs (i n : Nat) : MM := { MM0 with S := shS i n }
theorem shS_len : ∀ (n i : Nat), (shS i n).length = n
  | 0, _ => rfl
  | n + 1, i => by unfold shS; rw [List.length_cons, shS_len n]
theorem shS_snoc : ∀ (n i : Nat), shS i n ++ [(chS (i + n), 0, [])] = shS i (n + 1)
  | 0, i => rfl
  | n + 1, i => by
    have h := shS_snoc n (i + 1)
    rw [shS, List.cons_append, show i + (n + 1) = i + 1 + n from by omega, h]
    rfl
theorem chS_ok : ∀ i, i < 12 → nameOk (chS i) := by decide +kernel
theorem fnd_new : ∀ i, i < 8 → fndS (chS i) (shS 0 i) = -1 := by decide +kernel
theorem fnd_last : ∀ i, i < 8 → fndS (chS i) (shS 0 (i + 1)) = i := by decide +kernel
theorem fnd_more : ∀ i, i < 12 → 8 ≤ i → fndS (chS i) (shS 0 8) = -1 := by decide +kernel
theorem fnd_gone : ∀ n, n < 8 → ∀ i, i < 8 → fndS (chS i) (shS (i + 1) n) = -1 := by decide +kernel
theorem addS_new {i : Nat} (h : i < 8) : addM (MMs 0 i) (chS i) = (MMs 0 (i + 1), 0) := by
  rw [add_new (chS_ok i (by omega)) (by show fndS (chS i) (shS 0 i) < 0; rw [fnd_new i h]; decide) (by show (shS 0 i).length < 8; rw [shS_len]; exact h)]
  show ({ MMs 0 i with S := shS 0 i ++ [(chS i, 0, [])] }, (0 : Int)) = _
  have e := shS_snoc i 0
  rw [Nat.zero_add] at e
  rw [e]
  rfl
theorem addS_twice {i : Nat} (h : i < 8) : addM (MMs 0 (i + 1)) (chS i) = (MM0, 5) := by
  unfold addM
  rw [if_neg (fun h1 => h1 (chS_ok i (by omega))), if_pos (by show 0 ≤ fndS (chS i) (shS 0 (i + 1)); rw [fnd_last i h]; omega)]
theorem addS_many {i : Nat} (h : i < 12) (h8 : 8 ≤ i) : addM (MMs 0 8) (chS i) = (MM0, 9) := by
  unfold addM
  rw [if_neg (fun h1 => h1 (chS_ok i h)), if_neg (by show ¬ 0 ≤ fndS (chS i) (shS 0 8); rw [fnd_more i h h8]; decide), if_pos (by show 8 ≤ (shS 0 8).length; rw [shS_len]; decide)]
theorem dropS {i n : Nat} : dropM (MMs i (n + 1)) (chS i) = (MMs (i + 1) n, 0) := by
  have e : fndS (chS i) (shS i (n + 1)) = 0 := by
    unfold shS fndS
    rw [if_pos rfl]
  unfold dropM
  show (if fndS (chS i) (shS i (n + 1)) < 0 then _ else _) = _
  rw [if_neg (by omega)]
  show ({ MMs i (n + 1) with S := (shS i (n + 1)).take (fndS (chS i) (shS i (n + 1))).toNat ++ (shS i (n + 1)).drop ((fndS (chS i) (shS i (n + 1))).toNat + 1) }, (0 : Int)) = _
  rw [e]
  rfl
theorem dropS_no {i n : Nat} (hi : i < 8) (hn : n < 8) : dropM (MMs (i + 1) n) (chS i) = (MM0, 4) := by
  unfold dropM
  rw [if_pos (by show fndS (chS i) (shS (i + 1) n) < 0; rw [fnd_gone n hn i hi]; decide)]
theorem conv1 (w : World) (j : Nat) : (convert 85 9 (.slice (some ⟨w.heap.size, 0, none⟩) 1 1)).run Try.prog (w.alloc (.cells #[.int .u8 (97 + (j : Int))] 5)) = .ok (Value.string (chS j)) (w.alloc (.cells #[.int .u8 (97 + (j : Int))] 5)) := by
  rw [run_convert_bytes_string _ 85 9 5 _ 1 1 Try.underlying85 Try.underlying5 Try.underlying9]
  have hc := run_loadCells_list (P := Try.prog) (w := w.alloc (.cells #[.int .u8 (97 + (j : Int))] 5)) ⟨w.heap.size, 0, none⟩ [.int .u8 (97 + (j : Int))] (fun i v hi => by
    cases i with
    | zero =>
      cases hi
      exact (Blk.new w 5 #[.int .u8 (97 + (j : Int))]).cell 0
    | succ i => simp at hi)
  rw [run_bytesToString _ _ 1 1 [97 + (j : Int)] hc]
  show Result.ok (Value.string ⟨#[UInt8.ofNat (97 + (j : Int)).toNat]⟩) _ = _
  rw [show (97 + (j : Int)).toNat = 97 + j from by omega]
  rfl
theorem conv2 (w : World) (X : Obj) (j : Nat) : (convert 85 9 (.slice (some ⟨w.heap.size + 1, 0, none⟩) 1 1)).run Try.prog ((w.alloc X).alloc (.cells #[.int .u8 (97 + (j : Int))] 5)) = .ok (Value.string (chS j)) ((w.alloc X).alloc (.cells #[.int .u8 (97 + (j : Int))] 5)) := by
  have := conv1 (w.alloc X) j
  rwa [World.size_alloc] at this
/-- The box of the meta whose shots are these. -/
def ManyS (w V : World) (i n : Nat) : Prop := ∃ (x : Mt) (base : Nat) (F G : Nat → Prop), Blk V w.heap.size 29 (mtA (MMs i n) x) ∧ MetaN V base F G x (MMs i n) ∧ Below w.heap.size w V
theorem ManyS.first (w : World) : ManyS w (w.alloc (.cells #[.int .i64 0, .int .i64 0, .string ⟨#[]⟩, .slice none 0 0, .slice none 0 0, .slice none 0 0, .slice none 0 0] 29)) 0 0 :=
  ⟨Mt0, 0, fun _ => True, fun _ => True, Blk.new _ _ _, MetaN.zero _ _ _ _, (Below.refl _ _).alloc (Nat.le_refl _) _⟩
theorem ManyS.later {w V V' : World} {i n : Nat} (h : ManyS w V i n) (hb : Below V.heap.size V V') : ManyS w V' i n := by
  obtain ⟨x, base, F, G, h1, h2, h3⟩ := h
  exact ⟨x, base, F, G, h1.later hb, h2.later hb, h3.trans (hb.mono h3.size)⟩
theorem ManyS.put {w W : World} {v0 v1 v2 v3 v4 v5 v6 : Value} {t s m c : Option Addr} {tn tc sn sc mn mc cn cc base i n : Nat} {F G : Nat → Prop} (hB : Blk W w.heap.size 29 #[v0, v1, v2, v3, v4, v5, v6]) (hN : MetaN W base F G ⟨t, tn, tc, s, sn, sc, m, mn, mc, c, cn, cc⟩ (MMs i n)) (hb : Below w.heap.size w W) :
    ManyS w (((((((W.setCell ⟨w.heap.size, 0, none⟩ (.int .i64 0)).setCell ⟨w.heap.size, 1, none⟩ (.int .i64 0)).setCell ⟨w.heap.size, 2, none⟩ (.string ByteArray.empty)).setCell ⟨w.heap.size, 3, none⟩ (.slice t tn tc)).setCell ⟨w.heap.size, 4, none⟩ (.slice s sn sc)).setCell ⟨w.heap.size, 5, none⟩ (.slice m mn mc)).setCell ⟨w.heap.size, 6, none⟩ (.slice c cn cc)) i n :=
  ⟨_, base, F, G, hB.set7 _ _ _ _ _ _ _, hN.off hB.off6 (grown7 ..), ((((((hb.setCell (Nat.le_refl _) _).setCell (Nat.le_refl _) _).setCell (Nat.le_refl _) _).setCell (Nat.le_refl _) _).setCell (Nat.le_refl _) _).setCell (Nat.le_refl _) _).setCell (Nat.le_refl _) _⟩
def GiveS (i n : Nat) (z : Int) (w : World) (e : Ending) (w' : World) : Prop := ∃ (xt : Option Addr) (xtn xtc : Nat) (xs : Option Addr) (xsn xsc : Nat) (xm : Option Addr) (xmn xmc : Nat) (xc : Option Addr) (xcn xcc : Nat) (base : Nat) (F G : Nat → Prop), e = .returned (.tuple #[.agg #[.int .i64 0, .int .i64 0, .string ByteArray.empty, .slice xt xtn xtc, .slice xs xsn xsc, .slice xm xmn xmc, .slice xc xcn xcc], .int .i64 z]) ∧ MetaN w' base F G ⟨xt, xtn, xtc, xs, xsn, xsc, xm, xmn, xmc, xc, xcn, xcc⟩ (MMs i n) ∧ Below w.heap.size w w'
def GiveZ (z : Int) (w : World) (e : Ending) (w' : World) : Prop := ∃ (xt : Option Addr) (xtn xtc : Nat) (xs : Option Addr) (xsn xsc : Nat) (xm : Option Addr) (xmn xmc : Nat) (xc : Option Addr) (xcn xcc : Nat), e = .returned (.tuple #[.agg #[.int .i64 0, .int .i64 0, .string ByteArray.empty, .slice xt xtn xtc, .slice xs xsn xsc, .slice xm xmn xmc, .slice xc xcn xcc], .int .i64 z]) ∧ Below w.heap.size w w'
theorem GiveS.of {w : World} {R : MM × Int} {i n : Nat} {z : Int} (h : R = (MMs i n, z)) {e : Ending} {w' : World} (hg : GiveM w R e w') : GiveS i n z w e w' := by
  subst h
  obtain ⟨⟨xt, xtn, xtc, xs, xsn, xsc, xm, xmn, xmc, xc, xcn, xcc⟩, lo, hi, h1, h2, h3⟩ := hg
  exact ⟨xt, xtn, xtc, xs, xsn, xsc, xm, xmn, xmc, xc, xcn, xcc, _, _, _, h1, h2, h3⟩
theorem GiveZ.of {w : World} {R : MM × Int} {z : Int} (h : R = (MM0, z)) {e : Ending} {w' : World} (hg : GiveM w R e w') : GiveZ z w e w' := by
  subst h
  obtain ⟨⟨xt, xtn, xtc, xs, xsn, xsc, xm, xmn, xmc, xc, xcn, xcc⟩, lo, hi, h1, h2, h3⟩ := hg
  exact ⟨xt, xtn, xtc, xs, xsn, xsc, xm, xmn, xmc, xc, xcn, xcc, h1, h3⟩
theorem chS_size (i : Nat) : (chS i).size ≤ 9223372036854775807 := by
  show (1 : Nat) ≤ _
  omega
theorem addMany {W : World} {base i n : Nat} {F G : Nat → Prop} {xt : Option Addr} {xtn xtc : Nat} {xs : Option Addr} {xsn xsc : Nat} {xm : Option Addr} {xmn xmc : Nat} {xc : Option Addr} {xcn xcc : Nat} (h : MetaN W base F G ⟨xt, xtn, xtc, xs, xsn, xsc, xm, xmn, xmc, xc, xcn, xcc⟩ (MMs i n)) (nm : ByteArray) (hnm : nm.size ≤ 9223372036854775807) : Calls Try.prog 17 #[.agg #[.int .i64 0, .int .i64 0, .string ByteArray.empty, .slice xt xtn xtc, .slice xs xsn xsc, .slice xm xmn xmc, .slice xc xcn xcc], .string nm] W (GiveM W (addM (MMs i n) nm)) := shotsAdd W _ _ h.d nm hnm
theorem dropMany {W : World} {base i n : Nat} {F G : Nat → Prop} {xt : Option Addr} {xtn xtc : Nat} {xs : Option Addr} {xsn xsc : Nat} {xm : Option Addr} {xmn xmc : Nat} {xc : Option Addr} {xcn xcc : Nat} (h : MetaN W base F G ⟨xt, xtn, xtc, xs, xsn, xsc, xm, xmn, xmc, xc, xcn, xcc⟩ (MMs i n)) (nm : ByteArray) : Calls Try.prog 21 #[.agg #[.int .i64 0, .int .i64 0, .string ByteArray.empty, .slice xt xtn xtc, .slice xs xsn xsc, .slice xm xmn xmc, .slice xc xcn xcc], .string nm] W (GiveM W (dropM (MMs i n) nm)) := shotsDrop W _ _ h.d nm
end Go.Proofs.Ytjaaieamlgghhaa
