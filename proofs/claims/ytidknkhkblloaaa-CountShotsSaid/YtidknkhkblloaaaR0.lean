/-
  What the reference's each answers (layer 9). Conditions: the table reads, the list is one's own.
-/
import Derived.Test.YtidknkhkblloaaaE0
namespace Go.Proofs.Ytidknkhkblloaaa
open Go.RowKit
set_option linter.unusedVariables false

theorem append_lg {α : Type} {P : Program} {t e : TypeId} {sz bytes : Nat} {cv : α → List Value} (R : Rowed P t e sz bytes cv) {ops : Array Oper} {rest : List Oper} {o : Oper} {a : Act} {w : World} {Q : Exit → Act → World → Prop} (hgd : o.guard = Option.none) (s x : Operand)
    (ho : o.op = .call { callee := .builtin .append, args := #[s, x], argTypes := #[t, t] }) (base : Nat) (v : Value) (n : Nat) (xs : List α) (hs : a.eval s = v) (hown : OwnG cv e sz w base v n xs)
    (ao : Option Addr) (m c : Nat) (l : List α) (hx : a.eval x = .slice ao m c) (hnil : ao = Option.none → c = 0) (hB : Reads cv w ao m l) (hn : n + m ≤ 10000000) (hbase : base ≤ w.heap.size)
    (h : ∀ a' c' w', OwnG cv e sz w' base (.slice a' (n + m) c') (n + m) (xs ++ l) → w.grownBy w' v.ownBlock → ((Value.slice a' (n + m) c').ownBlock = v.ownBlock ∨ (Value.slice a' (n + m) c').ownBlock = some w.heap.size) → wpList P ops Q rest (a.put o.dst (.slice a' (n + m) c')) w') : wpList P ops Q (o :: rest) a w :=
  wpList_plain hgd fun K hK => wp_append_lg R s x ho base v n xs hs hown ao m c l hx hnil hB hn hbase fun a' c' w' h1 h2 h3 => hK _ _ (h a' c' w' h1 h2 h3)

/-- All is kept but the row that is appended to. -/
structure KO (v v' : Value) (W W' : World) : Prop where
  os : W'.os = W.os
  tape : W'.tape = W.tape
  output : W'.output = W.output
  size : W.heap.size ≤ W'.heap.size
  same : ∀ k, k < W.heap.size → v.ownBlock ≠ some k → W'.heap[k]? = W.heap[k]?
  own : ∀ k, k < W.heap.size → v.ownBlock ≠ some k → v'.ownBlock ≠ some k
theorem KO.refl (v : Value) (W : World) : KO v v W W := ⟨rfl, rfl, rfl, Nat.le_refl _, fun _ _ _ => rfl, fun _ _ h => h⟩
theorem KO.trans {v v' v'' : Value} {A B C : World} (h : KO v v' A B) (k : KO v' v'' B C) : KO v v'' A C :=
  ⟨k.os.trans h.os, k.tape.trans h.tape, k.output.trans h.output, Nat.le_trans h.size k.size, fun i hi h1 => (k.same i (Nat.lt_of_lt_of_le hi h.size) (h.own i hi h1)).trans (h.same i hi h1), fun i hi h1 => k.own i (Nat.lt_of_lt_of_le hi h.size) (h.own i hi h1)⟩
theorem KO.later {v : Value} {W W' : World} (h : Below W.heap.size W W') : KO v v W W' := ⟨h.os, h.tape, h.output, h.size, fun k hk _ => h.block k hk, fun _ _ h => h⟩
theorem KO.alloc (v : Value) (W : World) (o : Obj) : KO v v W (W.alloc o) := KO.later ((Below.refl _ _).alloc (Nat.le_refl _) _)
theorem KO.append {v v' : Value} {W W' : World} (hg : W.grownBy W' v.ownBlock) (hv : v'.ownBlock = v.ownBlock ∨ v'.ownBlock = some W.heap.size) : KO v v' W W' :=
  ⟨hg.os, hg.tape, hg.output, hg.size, fun k hk h1 => hg.block k hk fun e => h1 e.symm, fun k hk h1 e => by
    rcases hv with hv | hv
    · exact h1 (hv.symm.trans e)
    · rw [hv] at e
      cases e
      exact absurd hk (Nat.lt_irrefl _)⟩
theorem KO.below {v v' : Value} {W W' : World} {B : Nat} (h : KO v v' W W') (hB : B ≤ W.heap.size) (hv : ∀ k, v.ownBlock = some k → B ≤ k) : Below B W W' :=
  ⟨h.os, h.tape, h.output, h.size, fun k hk => h.same k (Nat.lt_of_lt_of_le hk hB) fun e => by have := hv k e; omega⟩
theorem KO.blk {v v' : Value} {W W' : World} {X : Nat} {t : TypeId} {cs : Array Value} (h : KO v v' W W') (hb : Blk W X t cs) (hv : v.ownBlock ≠ some X) : Blk W' X t cs := (h.same X hb.lt hv).trans hb
/-- Between two entries. -/
structure RS (w1 V wd : World) (base X : Nat) (cs : Array Value) (v0 v : Value) (L : List Ln) : Prop where
  own : OwnLn V base v L.length L
  ko : KO v0 v w1 V
  box : Blk V X 24 cs
  ox : v.ownBlock ≠ some X
  dat : Below wd.heap.size wd V
theorem RS.alloc {w1 V wd : World} {base X : Nat} {cs : Array Value} {v0 v : Value} {L : List Ln} (h : RS w1 V wd base X cs v0 v L) (o : Obj) : RS w1 (V.alloc o) wd base X cs v0 v L :=
  ⟨h.own.alloc o, h.ko.trans (KO.alloc v V o), h.box.alloc o, h.ox, h.dat.alloc h.dat.size o⟩
theorem RS.step {w1 V V' wd : World} {base X : Nat} {cs : Array Value} {v0 v v' : Value} {L L' : List Ln} (h : RS w1 V wd base X cs v0 v L) (hwd : wd.heap.size ≤ base) (hg : V.grownBy V' v.ownBlock) (hO : OwnLn V' base v' L'.length L') (hat : v'.ownBlock = v.ownBlock ∨ v'.ownBlock = some V.heap.size) : RS w1 V' wd base X cs v0 v' L' := by
  have hk := KO.append hg hat
  exact ⟨hO, h.ko.trans hk, hk.blk h.box h.ox, hk.own X h.box.lt h.ox, h.dat.trans (hk.below h.dat.size fun k e => Nat.le_trans hwd (h.own.1.lt k e).1)⟩

set_option maxRecDepth 100000 in
set_option maxHeartbeats 3200000 in
theorem refEach_any (wd w : World) (base : Nat) (la : Option Addr) (ln lc : Nat) (L : List Ln) (shot : Int) (a : Option Addr) (len cap : Nat) (T : Tb) (hO : OwnLn w base (.slice la ln lc) ln L) (hb : base ≤ w.heap.size) (hwd : wd.heap.size ≤ base)
    (hd : Below wd.heap.size wd w) (hT : Tab wd a len cap T) (hlen : ln + len * 8 ≤ 9000000) :
    Calls Try.prog 33 #[.slice la ln lc, .int .i64 shot, .agg #[.slice a len cap]] w fun e w' => ∃ (a' : Option Addr) (N c' : Nat), e = .returned (.slice a' N c') ∧ OwnLn w' base (.slice a' N c') N (L ++ tabLines shot T) ∧ KO (.slice la ln lc) (.slice a' N c') w w' := by
  obtain ⟨ds, hR, _, rfl, h6, _⟩ := hT
  have hLn : L.length = ln := hO.2.1
  subst hLn
  have hRS0 : RS (w.alloc (.cells #[.slice a len cap] 24)) (w.alloc (.cells #[.slice a len cap] 24)) wd base w.heap.size #[.slice a len cap] (.slice la L.length lc) (.slice la L.length lc) L :=
    ⟨hO.alloc _, KO.refl _ _, Blk.new _ _ _, hO.low _ (Or.inr (Nat.le_refl _)), hd.alloc hd.size _⟩
  have HS0 := Lib.hid hRS0
  have HT := Lib.hid hR
  have htl := hR.tlen
  have HTL := Lib.hid htl
  have HK0 : Hid (KO (.slice la L.length lc) (.slice la L.length lc) w (w.alloc (.cells #[.slice a len cap] 24))) := KO.alloc _ _ _
  have HTAB : Hid (tabLines shot (tbOf ds) = linesTo shot (tbOf ds) (len * 8)) := by show _ = _; unfold tabLines; rw [htl]
  clear hRS0 hO hd hR htl
  go_enter Try.func33, Try.ntmps33
  go_wp2
  go_loopw [0, 7] (fun l i wr => ∃ (j : Nat) (a1 : Option Addr) (n1 c1 : Nat), j ≤ len ∧ l = .slice a1 n1 c1 ∧ i = .int .i64 j ∧ Hid (n1 = (L ++ linesTo shot (tbOf ds) (j * 8)).length) ∧ Hid (RS (w.alloc (.cells #[.slice a len cap] 24)) wr wd base w.heap.size #[.slice a len cap] (.slice la L.length lc) (.slice a1 n1 c1) (L ++ linesTo shot (tbOf ds) (j * 8)))) (fun _ i _ => len - (intOf i).toNat)
  case atStart => exact ⟨0, la, L.length, lc, Nat.zero_le _, rfl, rfl, by rw [Nat.zero_mul, linesTo_zero, List.append_nil]; exact rfl, by rw [Nat.zero_mul, linesTo_zero, List.append_nil]; exact HS0.out⟩
  case round =>
    obtain ⟨j, a1, n1, c1, hj, rfl, rfl, HN, HR⟩ := hrel
    have b1 := HR.out.box.cell 0
    by_cases hlt : j < len
    · obtain ⟨b, off, al, ll, cl, xs, rfl, hc, hL, hxs, hget⟩ := (HT.out.later HR.out.dat).at j hlt
      have hbd := hlen
      have HXS : Hid (tbAt (tbOf ds) j = xs) := hxs
      have HGET := Lib.hid hget
      have HLL : Hid (xs.length = ll) := hL.len
      obtain ⟨J8, hJ8⟩ := named (j * 8)
      have hJl : J8 ≤ len * 8 - 8 := by rw [← hJ8.out]; omega
      have e1 : IntKind.i64.wrap ((j : Int) * 8) = (J8 : Int) := by rw [← hJ8.out, IntKind.wrap_i64] <;> omega
      have HJ : Hid ((j + 1) * 8 = J8 + 8) := by show _ = _; rw [← hJ8.out]; omega
      have HAT : Hid (∀ q, q < 8 → atN (tbOf ds) (J8 + q) = lfAt xs q) := fun q hq => by rw [← hJ8.out, atN_is j q hq, HXS.out]
      rw [hJ8.out] at HN HR
      clear hL hxs hget hJ8
      go_wp2
      go_loopw [0, 8] (fun l k w9 => ∃ (q : Nat) (a2 : Option Addr) (n2 c2 : Nat), q ≤ 8 ∧ q ≤ ll ∧ l = .slice a2 n2 c2 ∧ k = .int .i64 q ∧ Hid (n2 = (L ++ linesTo shot (tbOf ds) (J8 + q)).length) ∧ Hid (RS (w.alloc (.cells #[.slice (some ⟨b, off, none⟩) len cap] 24)) w9 wd base w.heap.size #[.slice (some ⟨b, off, none⟩) len cap] (.slice la L.length lc) (.slice a2 n2 c2) (L ++ linesTo shot (tbOf ds) (J8 + q)))) (fun _ k _ => 8 - (intOf k).toNat)
      case atStart => exact ⟨0, a1, n1, c1, by omega, Nat.zero_le _, rfl, rfl, HN.out, HR.out⟩
      case round =>
        obtain ⟨q, a2, n2, c2, hq, hql, rfl, rfl, HN2, HR2⟩ := hrel
        have b2 := HR2.out.box.cell 0
        obtain ⟨b0, off0, al0, ll0, cl0, xs0, e0, hc2, hL2, _, hget2⟩ := (HT.out.later HR2.out.dat).at j hlt
        cases e0
        obtain ⟨rfl, rfl, rfl, rfl⟩ : al0 = al ∧ ll0 = ll ∧ cl0 = cl ∧ xs0 = xs := by
          have := HGET.out.symm.trans hget2
          simp only [Option.some.injEq, Prod.mk.injEq] at this
          exact ⟨this.1.symm, this.2.1.symm, this.2.2.1.symm, this.2.2.2.symm⟩
        by_cases hin : q < ll0 ∧ q < 8
        · obtain ⟨h1, h2⟩ := hin
          obtain ⟨b', off', e9, hs, y1, y2, y3, y4, y5⟩ := hL2.at q h1
          dsimp only at e9 hs y1 y2 y3 y4 y5
          subst e9
          have hat := HAT.out q h2
          obtain ⟨⟨v1, v2, v3, v4, v5⟩, HV⟩ := named (lfAt xs0 q)
          rw [HV.out] at y1 y2 y3 y4 y5 hs hat
          dsimp only at y1 y2 y3 y4 y5
          obtain ⟨C, hC⟩ := named (J8 + q)
          have e2 : IntKind.i64.wrap ((J8 : Int) + q) = (C : Int) := by rw [← hC.out, IntKind.wrap_i64] <;> omega
          have HC : Hid (J8 + (q + 1) = C + 1) := by show _ = _; rw [← hC.out]; omega
          have hlc := linesTo_len shot (tbOf ds) C
          have HBND : Hid (n2 + 1 ≤ 10000000) := by
            have := HN2.out
            rw [List.length_append, hC.out] at this
            show n2 + 1 ≤ 10000000
            have := hC.out
            omega
          rw [hC.out] at HN2 HR2 hat
          have HN2' := HN2.out
          by_cases hsec : secE (v1, v2, v3, v4, v5)
          · have HLN : Hid (linesTo shot (tbOf ds) (C + 1) = linesTo shot (tbOf ds) C ++ [(shot, (C : Int), (v1, v2, v3, v4, v5))]) := by
              show _ = _
              rw [linesTo_yes (by rw [hat]; exact hsec), hat]
            have hk : (v1 == 2) = true ∨ ((v1 == 2) = false ∧ (v1 == 3) = true) := by
              rcases hsec with h | h
              · exact Or.inl (by simpa using h)
              · exact Or.inr (by simp at h; subst h; exact ⟨rfl, rfl⟩)
            have HSTEP : Hid (∀ (o1 o2 : Obj) (w3 : World) (a3 : Option Addr) (c3 : Nat), OwnLn w3 base (.slice a3 (n2 + 1) c3) (n2 + 1) ((L ++ linesTo shot (tbOf ds) C) ++ [(shot, (C : Int), (v1, v2, v3, v4, v5))]) → ((wr.alloc o1).alloc o2).grownBy w3 (Value.slice a2 n2 c2).ownBlock → ((Value.slice a3 (n2 + 1) c3).ownBlock = (Value.slice a2 n2 c2).ownBlock ∨ (Value.slice a3 (n2 + 1) c3).ownBlock = some ((wr.alloc o1).alloc o2).heap.size) →
                n2 + 1 = (L ++ linesTo shot (tbOf ds) (C + 1)).length ∧ RS (w.alloc (.cells #[.slice (some ⟨b, off, none⟩) len cap] 24)) w3 wd base w.heap.size #[.slice (some ⟨b, off, none⟩) len cap] (.slice la L.length lc) (.slice a3 (n2 + 1) c3) (L ++ linesTo shot (tbOf ds) (C + 1))) := fun o1 o2 w3 a3 c3 g1 g2 g3 => by
              rw [HLN.out, ← List.append_assoc]
              have hl3 : n2 + 1 = ((L ++ linesTo shot (tbOf ds) C) ++ [(shot, (C : Int), (v1, v2, v3, v4, v5))]).length := by rw [List.length_append, ← HN2.out]; rfl
              refine ⟨hl3, ?_⟩
              exact ((HR2.out.alloc o1).alloc o2).step hwd g2 (by rw [← hl3]; exact g1) g3
            have HOWN : Hid (OwnLn wr base (.slice a2 n2 c2) n2 (L ++ linesTo shot (tbOf ds) C)) := by
              have := HR2.out.own
              rw [← HN2.out] at this
              exact this
            have HBS : Hid (base ≤ wr.heap.size) := by
              have := HR2.out.ko.size
              rw [World.size_alloc] at this
              show base ≤ _
              omega
            clear hat hsec hs hL2 hget2 hlc HN2'
            rcases hk with hk | ⟨hk, hk3⟩
            all_goals
              go_wp2_with (at_builtin; refine append_lg ln_rowed rfl (.tmp 47) (.tmp 55) rfl base _ n2 (L ++ linesTo shot (tbOf ds) C) rfl ((HOWN.out.alloc _).alloc _) (some ⟨wr.heap.size + 1, 0, none⟩) 1 1 [(shot, (C : Int), (v1, v2, v3, v4, v5))] rfl (fun e => by cases e) (one_reads2 _ _ (shot, (C : Int), (v1, v2, v3, v4, v5)) _ _ rfl) HBND.out (by rw [World.size_alloc, World.size_alloc]; have := HBS.out; omega) ?_; intro a3 c3 w3 g1 g2 g3; obtain ⟨k1, k2⟩ := HSTEP.out _ _ w3 a3 c3 g1 g2 g3; have K1 := Lib.hid k1; have K2 := Lib.hid k2; clear g1 g2 g3 k1 k2)
            all_goals
              go_roundw
              case rel => exact ⟨q + 1, a3, n2 + 1, c3, by omega, by omega, rfl, by go_num, by rw [HC.out]; exact K1.out, by rw [HC.out]; exact K2.out⟩
              case measure => simp [intOf]; omega
          · have HLN : Hid (linesTo shot (tbOf ds) (C + 1) = linesTo shot (tbOf ds) C) := linesTo_no (by rw [hat]; exact hsec)
            have k2 : (v1 == 2) = false := by
              have : ¬ v1 = 2 := fun h => hsec (Or.inl h)
              simp [this]
            have k3 : (v1 == 3) = false := by
              have : ¬ v1 = 3 := fun h => hsec (Or.inr h)
              simp [this]
            clear hat hsec hs hL2 hget2 hlc HN2'
            go_wp2
            go_roundw
            case rel => exact ⟨q + 1, a2, n2, c2, by omega, by omega, rfl, by go_num, by rw [HC.out, HLN.out]; exact HN2.out, by rw [HC.out, HLN.out]; exact HR2.out.alloc _⟩
            case measure => simp [intOf]; omega
        · have HEND : Hid (linesTo shot (tbOf ds) (J8 + 8) = linesTo shot (tbOf ds) (J8 + q)) := by
            have := linesTo_none (shot := shot) (T := tbOf ds) (J8 + q) (8 - q) fun k h1 h2 => by
              obtain ⟨p, rfl⟩ : ∃ p, k = J8 + p := ⟨k - J8, by omega⟩
              rw [HAT.out p (by omega), lfAt_out (by rw [HLL.out]; omega)]
              unfold secE enZ
              omega
            rw [show J8 + q + (8 - q) = J8 + 8 by omega] at this
            exact this
          have hcs : ¬ q < ll0 ∨ (q < ll0 ∧ ¬ q < 8) := by omega
          clear hL2 hget2
          rcases hcs with h1 | ⟨h1, h2⟩
          all_goals
            go_wp2
            go_roundw
            case rel => exact ⟨j + 1, a2, n2, c2, by omega, rfl, by go_num, by rw [HJ.out, HEND.out]; exact HN2.out, by rw [HJ.out, HEND.out]; exact HR2.out⟩
            case measure => simp [intOf]; omega
    · obtain rfl : j = len := by omega
      go_wp2
      go_ret
      rw [HTAB.out]
      have hn := HN.out
      exact ⟨a1, n1, c1, rfl, by have := HR.out.own; rw [← hn] at this; exact this, HK0.out.trans HR.out.ko⟩
end Go.Proofs.Ytidknkhkblloaaa
