/-
  The reference's cache (layer 10): Put. Conditions: the cache as it lies, the bytes apart from it; nothing is after itself, however far round.
-/
import Derived.Test.YthmkmhfoicfapaaRl
namespace Go.Proofs.Ythmkmhfoicfapaa
open Go.RowKit Go.Maps
set_option linter.unusedVariables false

theorem run_append_bytes {w : World} (ty : TypeId) (base : Nat) (v : Value) (n : Nat) (xs : List Int) (hown : Own w base v n xs) (ao : Option Addr) (m c : Nat) (l : List Int) (hnil : ao = none → c = 0) (hB : Bytes w ao m l) (hn : n + m ≤ 100000000) (hbase : base ≤ w.heap.size) :
    ∃ a' c' w', (Builtin.append_ #[34, 34] ty #[v, .slice ao m c]).run Try.prog w = .ok (.slice a' (n + m) c') w' ∧ Own w' base (.slice a' (n + m) c') (n + m) (xs ++ l) ∧ w.grownBy w' v.ownBlock := by
  obtain ⟨i0, hi, hz0, hz1, hz2⟩ := info_parts info5
  have hsm : Small (xs ++ l) := hown.2.append hB.small (by rw [hown.len, hB.1]; omega)
  cases ao with
  | some ad =>
    have hcells : ∀ j u, (l.map (Value.int .u8))[j]? = some u → w.cell? (ad.add j) = some u := by
      intro j u hu
      rw [List.getElem?_map] at hu
      rcases hB.2.2 with h0 | ⟨b, off, ha, _, hc⟩
      · obtain rfl : l = [] := List.eq_nil_of_length_eq_zero (by rw [hB.1]; exact h0)
        simp at hu
      · cases ha
        by_cases hj : j < l.length
        · rw [List.getElem?_eq_getElem hj] at hu
          have := hc j hj
          rw [List.getD_eq_getElem?_getD, List.getElem?_eq_getElem hj] at this
          rw [add_none, this]
          simpa using hu
        · rw [List.getElem?_eq_none (by omega)] at hu
          cases hu
    obtain ⟨v', w', hr, h1, h2, _⟩ := run_append_own w base 34 ty 5 i0 (.int .u8 0) 1 1 Try.underlying34 hi hz0 hz1 hz2 rfl (by decide) v n (xs.map (Value.int .u8)) hown.1 ad m c (l.map (Value.int .u8)) (by rw [List.length_map, hB.1]; omega) hcells
      (fun u hu => by obtain ⟨q, _, rfl⟩ := List.mem_map.1 hu; rfl) (by unfold maxLen; omega) (by omega) hbase
    rw [← List.map_append] at h1
    obtain ⟨a', c', rfl, _, _⟩ := Own.shape ⟨h1, hsm⟩
    exact ⟨a', c', w', hr, ⟨h1, hsm⟩, h2⟩
  | none =>
    obtain rfl := hnil rfl
    have hm : m = 0 := by
      rcases hB.2.2 with h0 | ⟨b, off, ha, _, _⟩
      · exact h0
      · cases ha
    subst hm
    obtain rfl : l = [] := List.eq_nil_of_length_eq_zero hB.1
    have hrun := run_append_owned_none (P := Try.prog) (w := w) base 34 ty 5 i0 1 Try.underlying34 hi v n (xs.map (Value.int .u8)) hown.1
    obtain ⟨a', c', e, _, _⟩ := Own.shape hown
    subst e
    exact ⟨a', c', w, hrun, by rw [List.append_nil]; exact hown, ⟨rfl, rfl, rfl, Nat.le_refl _, fun _ _ _ => rfl⟩⟩
/-- An append of bytes at one operation. -/
theorem wp_append_bytes {o : Oper} {a : Act} {w : World} {K : Act → World → Prop} {Q : Exit → Act → World → Prop} (s x : Operand)
    (ho : o.op = .call { callee := .builtin .append, args := #[s, x], argTypes := #[34, 34] })
    (base : Nat) (v : Value) (n : Nat) (xs : List Int) (hs : a.eval s = v) (hown : Own w base v n xs) (ao : Option Addr) (m c : Nat) (l : List Int) (hx : a.eval x = .slice ao m c) (hnil : ao = none → c = 0) (hB : Bytes w ao m l) (hn : n + m ≤ 100000000) (hbase : base ≤ w.heap.size)
    (h : ∀ a' c' w', Own w' base (.slice a' (n + m) c') (n + m) (xs ++ l) → w.grownBy w' v.ownBlock → K (a.put o.dst (.slice a' (n + m) c')) w') : o.wp Try.prog a w K Q := by
  obtain ⟨a', c', w', hr, h2, h3⟩ := run_append_bytes o.type base v n xs hown ao m c l hnil hB hn hbase
  unfold Oper.wp execOp
  simp only [ho, resolve, invoke, builtin, Sem.run_bind, Sem.run_pure, Result.andThen_ok, List.map_toArray, List.map_cons, List.map_nil, hs, hx, hr]
  exact h a' c' w' h2 h3
theorem ri_free {w : World} {base b n c : Nat} {L : List RI} (h : OwnG riV 86 3 w base (.slice (some ⟨b, 0, none⟩) n c) n L) (i : Nat) : w.frozen? ⟨b, i, none⟩ = false := by
  rcases h.1.2 with ⟨e, _⟩ | ⟨g, cap, cur, e, hb, hg, _⟩
  · cases e
  · cases e
    exact Blk.free (show Blk w b _ cur from hg) i
theorem set_set_eq {α : Type} (l : List α) (i : Nat) (x y : α) : (l.set i x).set i y = l.set i y := List.set_set ..
set_option maxHeartbeats 4000000 in
set_option maxRecDepth 100000 in
/-- Put. -/
theorem rPut_any {w : World} {B : Nat} {D : RC} {vL vR : Value} {LM : List RI} (h : RcIn w B D vL vR LM) {rank : Int → Nat} (hr : ∀ k, ∀ f ∈ rfirsts D.rels k, rank f < rank k) {n : Nat} (k : Int) (a : Option Addr) (nb cb : Nat) (bs : List Int) (d : Bool) (hB : Away1 (rcS B vL vR LM) w a nb bs) (hnil : a = none → cb = 0) (hnb : nb ≤ 1000) (hmany : LM.length ≤ 1099)
    (hroom : (putR D.items k bs d).length ≤ D.room + 1) (hrk : ∀ z, isDR ⟨D.room, putR D.items k bs d, D.rels⟩ z = true → rank z < n) (hlen : ∀ z, isDR ⟨D.room, putR D.items k bs d, D.rels⟩ z = true → (lineR D.rels n [] z).length ≤ 100000) :
    Calls Try.prog 28 #[.pointer (some ⟨B, 0, none⟩), .int .i64 k, .slice a nb cb, .bool d] w (WriteRQ B (rput n D k bs d).1 (rput n D k bs d).2 (rcS B vL vR LM) w) := by
  unfold WriteRQ rput
  obtain ⟨D1, hD1⟩ := named (⟨D.room, putR D.items k bs d, D.rels⟩ : RC)
  have hrm : D1.room = D.room := by rw [← hD1.out]
  have hrl : D1.rels = D.rels := by rw [← hD1.out]
  have hit : D1.items = putR D.items k bs d := by rw [← hD1.out]
  rw [hD1.out] at hrk hlen ⊢
  rw [← hit] at hroom ⊢
  rw [← hrl] at hr hlen
  obtain ⟨F, hF⟩ := named (if D.room < D1.items.length then evR n D1 else ([], D1))
  have HFE := Lib.hid hF.out
  rw [hF.out]
  have HEV : Hid (∀ z, isDR D1 z = true → rank z < n ∧ (lineR D1.rels n [] z).length ≤ 100000) := fun z hz => ⟨hrk z hz, hlen z hz⟩
  have HRR := Lib.hid hr
  have HROOM : Hid (D1.items.length ≤ D.room + 1 ∧ D1.room = D.room) := ⟨hroom, hrm⟩
  obtain ⟨S, hS⟩ := named (rcS B vL vR LM)
  rw [hS.out]
  have HNIL := Lib.hid hnil
  have HSW : Hid (∀ j, S j → j < w.heap.size) := by rw [← hS.out]; exact h.lt
  obtain ⟨N, hNW⟩ := named w.heap.size
  have HSZ := Lib.hid hNW.out
  rw [hNW.out]
  clear hr hlen hroom hrm hrl hit hnil
  rcases key_or (LM := LM) k with ⟨i, x1, hi, hk⟩ | hk
  · have HA := Lib.hid (rAt_some h hi)
    rw [hk] at HA
    have hlt0 : i < LM.length := (List.getElem?_eq_some_iff.1 hi).1
    have HPUT := Lib.hid (put_there h hi bs d)
    rw [hk] at HPUT
    obtain ⟨aL, c, rfl, _, _, hcap⟩ := h.row.shape ri_rowed
    obtain ⟨bL, rfl⟩ := h.row.at0 (by omega)
    obtain ⟨m, hm⟩ := named LM.length
    have hSe := hS.out
    rw [hm.out] at hlt0 hcap h hSe hmany
    rw [hS.out] at hB
    have HM1 := Lib.hid hm.out
    have HR1 := Lib.hid h
    have HI1 := Lib.hid hi
    have HK1 := Lib.hid hk
    have HBY := Lib.hid hB
    have HA1 : Hid (Away S w (rcS B (.slice (some ⟨bL, 0, none⟩) m c) vR LM) w) := by rw [← hSe]; exact Away.refl _ _
    have him : i ≤ 1100 := by omega
    clear h hi hk hB hSe hS
    go_enter Try.func28, Try.ntmps28
    go_wp2_with (go_at_call 46; refine HA.out.mono ?_; rintro e w' ⟨rfl, hww⟩; obtain rfl := hww.symm; clear hww)
    have c1 : w.drew.cell? ⟨B, 1, none⟩ = some (.slice (some ⟨bL, 0, none⟩) m c) := (HR1.out.later (Below.refl _ _).drew).c1
    have dA : ∀ o, (w.drew.alloc o).cell? ⟨B, 1, none⟩ = some (.slice (some ⟨bL, 0, none⟩) m c) := fun o => (((HR1.out.later (Below.refl _ _).drew).blk.alloc o).cell 1).trans rfl
    obtain ⟨M, hM⟩ := named w.heap.size
    have hMM := hM.out
    have hMA : ∀ o, M ≤ (w.drew.alloc o).heap.size := fun o => by rw [World.size_alloc, ← hMM]; exact Nat.le_succ _
    go_wp2_with fail
    refine wp_region_held_drew (S := fun w' => w'.cell? ⟨B, 1, none⟩ = some (.slice (some ⟨bL, 0, none⟩) m c)) (by kernel_rfl) (by first | exact c1 | exact dA _ | exact k5 | exact e5) (fun hHeld => ?_)
    refine wpAnyH_take (i := 0) (oi := _) (v := ?vz1) rfl (by kernel_rfl) (by kernel_rfl) (by kernel_rfl) (fun _ _ _ h => h) (Or.inl ⟨by rfl, ?hyz1⟩) (by assumption) ?restz1
    case hyz1 => (intro wz hSw; (try dsimp only at hSw); go_simp; try with_reducible rfl)
    (try simp only [List.getElem_toArray, List.getElem_cons_zero, Act.put, List.setIfInBounds_toArray, List.set_cons_zero, List.set_cons_succ])
    refine wpAnyH_take (i := 1) (oi := _) (v := ?vz2) rfl (by kernel_rfl) (by kernel_rfl) (by kernel_rfl) (fun _ _ _ h => h) (Or.inl ⟨by rfl, ?hyz2⟩) (by assumption) ?restz2
    case hyz2 => (intro wz hSw; (try dsimp only at hSw); go_simp; try with_reducible rfl)
    (try simp only [List.getElem_toArray, List.getElem_cons_zero, List.getElem_cons_succ, Act.put, List.setIfInBounds_toArray, List.set_cons_zero, List.set_cons_succ])
    refine wpAnyH_take (i := 2) (oi := _) (v := ?vz3) rfl (by kernel_rfl) (by kernel_rfl) (by kernel_rfl) (fun _ _ _ h => h) (Or.inl ⟨by rfl, ?hyz3⟩) (by assumption) ?restz3
    case hyz3 => (intro wz hSw; (try dsimp only at hSw); go_simp; try with_reducible rfl)
    (try simp only [List.getElem_toArray, List.getElem_cons_zero, List.getElem_cons_succ, Act.put, List.setIfInBounds_toArray, List.set_cons_zero, List.set_cons_succ])
    refine wpAnyH_take (i := 3) (oi := _) (v := ?vz4) rfl (by kernel_rfl) (by kernel_rfl) (by kernel_rfl) (fun _ _ _ h => h) (Or.inl ⟨by rfl, ?hyz4⟩) (by assumption) ?restz4
    case hyz4 => (intro wz hSw; (try dsimp only at hSw); go_simp; try with_reducible rfl)
    (try simp only [List.getElem_toArray, List.getElem_cons_zero, List.getElem_cons_succ, Act.put, List.setIfInBounds_toArray, List.set_cons_zero, List.set_cons_succ])
    refine wpAnyH_take (i := 4) (oi := _) (v := ?vz5) rfl (by kernel_rfl) (by kernel_rfl) (by kernel_rfl) (fun _ _ _ h => h) (Or.inl ⟨by rfl, ?hyz5⟩) (by assumption) ?restz5
    case hyz5 => (intro wz hSw; (try dsimp only at hSw); go_simp; try with_reducible rfl)
    (try simp only [List.getElem_toArray, List.getElem_cons_zero, List.getElem_cons_succ, Act.put, List.setIfInBounds_toArray, List.set_cons_zero, List.set_cons_succ])
    refine wpAnyH_take (i := 6) (oi := _) (v := ?vz6) rfl (by kernel_rfl) (by kernel_rfl) (by kernel_rfl) (fun _ _ _ h => h) (Or.inl ⟨by rfl, ?hyz6⟩) (by assumption) ?restz6
    case hyz6 => (intro wz hSw; (try dsimp only at hSw); go_simp; try with_reducible rfl)
    (try simp only [List.getElem_toArray, List.getElem_cons_zero, List.getElem_cons_succ, Act.put, List.setIfInBounds_toArray, List.set_cons_zero, List.set_cons_succ])
    refine wpAnyH_ready (rs := [5]) (by kernel_rfl) (by simp) ?_
    refine AllReadyH.cons (o := _) rfl (fun K hK => ?_) AllReadyH.nil
    rw [if_pos (by rfl)]
    go_simp
    refine hK.out _ _ (by first | exact c1 | exact dA _ | exact k5 | exact e5) (fun hHeld => ?_)
    clear hK K
    (try simp only [List.getElem_toArray, List.getElem_cons_zero, List.getElem_cons_succ, Act.put, List.setIfInBounds_toArray, List.set_cons_zero, List.set_cons_succ])
    refine wpAnyH_ready (rs := [7]) (by kernel_rfl) (by simp) ?_
    refine AllReadyH.cons (o := _) rfl (fun K hK => ?_) AllReadyH.nil
    rw [if_pos (by rfl)]
    refine wp_append_bytes (.tmp 39) (.tmp 40) rfl M (.slice (some ⟨M, 0, none⟩) 0 0) 0 [] (by rw [← hMM]; rfl) (by rw [← hMM]; exact Own.made w.drew w.drew.heap.size (Nat.le_refl _)) a nb cb bs rfl HNIL.out (HBY.out.1.later (((Below.refl _ w).drew).alloc (Nat.le_refl _) _)) (by omega) (hMA _) ?_
    intro a5 c5 w5 r1 r2
    rw [Nat.zero_add, List.nil_append] at r1
    rw [Nat.zero_add]
    have HO5 := Lib.hid r1
    have HB5 : Hid (Below w.heap.size w w5) := Lib.hid ((((Below.refl w.heap.size w).drew).alloc (Nat.le_refl _) _).grown r2 (by rw [World.size_alloc]; exact Nat.le_succ _) fun j e => by have : M = j := (by simpa [Value.ownBlock] using e); omega)
    have hr5 := HR1.out.later HB5.out
    have k5 := hr5.c1
    have hrow5 := hr5.row
    rw [HM1.out] at hrow5
    have q5 := (ri_cells hrow5 i x1 HI1.out).2.1
    have f5 := ri_free hrow5 (i * 3 + 1)
    have hR5 := HR1.out.putB HM1.out HI1.out HB5.out (by rw [hMM]; exact HO5.out)
    have e5 := hR5.1.c1
    have HR5 := Lib.hid hR5
    clear r1 r2 hr5 hrow5 hR5
    (try dsimp only)
    refine hK.out _ _ (by first | exact c1 | exact dA _ | exact k5 | exact e5) (fun hHeld => ?_)
    clear hK K
    (try simp only [List.getElem_toArray, List.getElem_cons_zero, List.getElem_cons_succ, Act.put, List.setIfInBounds_toArray, List.set_cons_zero, List.set_cons_succ])
    refine wpAnyH_take (i := 8) (oi := _) (v := ?vz7) rfl (by kernel_rfl) (by kernel_rfl) (by kernel_rfl) (fun _ _ _ h => h) (Or.inl ⟨by rfl, ?hyz7⟩) (by assumption) ?restz7
    case hyz7 => (intro wz hSw; (try dsimp only at hSw); go_simp; try with_reducible rfl)
    (try simp only [List.getElem_toArray, List.getElem_cons_zero, List.getElem_cons_succ, Act.put, List.setIfInBounds_toArray, List.set_cons_zero, List.set_cons_succ])
    refine wpAnyH_take (i := 9) (oi := _) (v := ?vz8) rfl (by kernel_rfl) (by kernel_rfl) (by kernel_rfl) (fun _ _ _ h => h) (Or.inl ⟨by rfl, ?hyz8⟩) (by assumption) ?restz8
    case hyz8 => (intro wz hSw; (try dsimp only at hSw); go_simp; try with_reducible rfl)
    (try simp only [List.getElem_toArray, List.getElem_cons_zero, List.getElem_cons_succ, Act.put, List.setIfInBounds_toArray, List.set_cons_zero, List.set_cons_succ])
    refine wpAnyH_ready (rs := [10]) (by kernel_rfl) (by simp) ?_
    refine AllReadyH.cons (o := _) rfl (fun K hK => ?_) AllReadyH.nil
    rw [if_pos (by rfl)]
    go_simp
    refine hK.out _ _ (by first | exact c1 | exact dA _ | exact k5 | exact e5) (fun hHeld => ?_)
    clear hK K
    (try simp only [List.getElem_toArray, List.getElem_cons_zero, List.getElem_cons_succ, Act.put, List.setIfInBounds_toArray, List.set_cons_zero, List.set_cons_succ])
    refine wpAnyH_done (by kernel_rfl) ?_ _
    obtain ⟨x2, hx2⟩ := named ((⟨x1.1.key, bs, x1.1.dirty⟩, a5, nb, c5) : RI)
    rw [hx2.out] at HR5
    have hk2 : x2.1.key = k := by rw [← hx2.out]; exact HK1.out
    have hd2 : x2.1.dirty = x1.1.dirty := by rw [← hx2.out]
    have hb2 : x2.1.bs = bs := by rw [← hx2.out]
    obtain ⟨W2, hW2⟩ := named (w5.setCell ⟨bL, i * 3 + 1, none⟩ (.slice a5 nb c5))
    rw [hW2.out] at HR5 ⊢
    have hi2 : (LM.set i x2)[i]? = some x2 := List.getElem?_set_self (List.getElem?_eq_some_iff.1 HI1.out).1
    have hm2 : (LM.set i x2).length = m := by rw [List.length_set]; exact HM1.out
    have hR2d := HR5.out.1.later (Below.refl _ W2).drew
    have c6 := hR2d.c1
    have hrow6 := hR2d.row
    rw [hm2] at hrow6
    have q6 := (ri_cells hrow6 i x2 hi2).2.2
    have f6 := ri_free hrow6 (i * 3 + 2)
    rw [hd2] at q6
    have hR6 := HR5.out.1.putD hm2 hi2 (Below.refl _ W2).drew (x1.1.dirty || d)
    have e6 := hR6.1.c1
    have HR6 := Lib.hid hR6
    have HKB := Lib.hid (And.intro hk2 hb2)
    have HI6 : Hid (((LM.set i x2).set i (⟨x2.1.key, x2.1.bs, x1.1.dirty || d⟩, x2.2))[i]? = some (⟨x2.1.key, x2.1.bs, x1.1.dirty || d⟩, x2.2)) := List.getElem?_set_self (by rw [hm2, ← HM1.out]; exact (List.getElem?_eq_some_iff.1 HI1.out).1)
    clear hR2d hrow6 hR6 hi2 hm2 hk2 hb2 c1 dA k5 q5 f5 e5
    cases hd1 : x1.1.dirty with
    | true =>
      rw [hd1] at q6 e6 HR6 HI6
      go_wp2_with fail
      refine wp_region_held_drew (S := fun w' => w'.cell? ⟨B, 1, none⟩ = some (.slice (some ⟨bL, 0, none⟩) m c)) (by kernel_rfl) (by first | exact c6 | exact e6) (fun hHeld => ?_)
      refine wpAnyH_take (i := 0) (oi := _) (v := ?vz9) rfl (by kernel_rfl) (by kernel_rfl) (by kernel_rfl) (fun _ _ _ h => h) (Or.inl ⟨by rfl, ?hyz9⟩) (by assumption) ?restz9
      case hyz9 => (intro wz hSw; (try dsimp only at hSw); go_simp; try with_reducible rfl)
      (try simp only [List.getElem_toArray, List.getElem_cons_zero, Act.put, List.setIfInBounds_toArray, List.set_cons_zero, List.set_cons_succ])
      refine wpAnyH_take (i := 1) (oi := _) (v := ?vz10) rfl (by kernel_rfl) (by kernel_rfl) (by kernel_rfl) (fun _ _ _ h => h) (Or.inl ⟨by rfl, ?hyz10⟩) (by assumption) ?restz10
      case hyz10 => (intro wz hSw; (try dsimp only at hSw); go_simp; try with_reducible rfl)
      (try simp only [List.getElem_toArray, List.getElem_cons_zero, List.getElem_cons_succ, Act.put, List.setIfInBounds_toArray, List.set_cons_zero, List.set_cons_succ])
      refine wpAnyH_take (i := 2) (oi := _) (v := ?vz11) rfl (by kernel_rfl) (by kernel_rfl) (by kernel_rfl) (fun _ _ _ h => h) (Or.inl ⟨by rfl, ?hyz11⟩) (by assumption) ?restz11
      case hyz11 => (intro wz hSw; (try dsimp only at hSw); go_simp; try with_reducible rfl)
      (try simp only [List.getElem_toArray, List.getElem_cons_zero, List.getElem_cons_succ, Act.put, List.setIfInBounds_toArray, List.set_cons_zero, List.set_cons_succ])
      refine wpAnyH_take (i := 3) (oi := _) (v := ?vz12) rfl (by kernel_rfl) (by kernel_rfl) (by kernel_rfl) (fun _ _ _ h => h) (Or.inl ⟨by rfl, ?hyz12⟩) (by assumption) ?restz12
      case hyz12 => (intro wz hSw; (try dsimp only at hSw); go_simp; try with_reducible rfl)
      (try simp only [List.getElem_toArray, List.getElem_cons_zero, List.getElem_cons_succ, Act.put, List.setIfInBounds_toArray, List.set_cons_zero, List.set_cons_succ])
      refine wpAnyH_take (i := 4) (oi := _) (v := ?vz13) rfl (by kernel_rfl) (by kernel_rfl) (by kernel_rfl) (fun _ _ _ h => h) (Or.inl ⟨by rfl, ?hyz13⟩) (by assumption) ?restz13
      case hyz13 => (intro wz hSw; (try dsimp only at hSw); go_simp; try with_reducible rfl)
      (try simp only [List.getElem_toArray, List.getElem_cons_zero, List.getElem_cons_succ, Act.put, List.setIfInBounds_toArray, List.set_cons_zero, List.set_cons_succ])
      refine wpAnyH_take (i := 5) (oi := _) (v := ?vz14) rfl (by kernel_rfl) (by kernel_rfl) (by kernel_rfl) (fun _ _ _ h => h) (Or.inl ⟨by rfl, ?hyz14⟩) (by assumption) ?restz14
      case hyz14 => (intro wz hSw; (try dsimp only at hSw); go_simp; try with_reducible rfl)
      (try simp only [List.getElem_toArray, List.getElem_cons_zero, List.getElem_cons_succ, Act.put, List.setIfInBounds_toArray, List.set_cons_zero, List.set_cons_succ])
      refine wpAnyH_take (i := 6) (oi := _) (v := ?vz15) rfl (by kernel_rfl) (by kernel_rfl) (by kernel_rfl) (fun _ _ _ h => h) (Or.inl ⟨by rfl, ?hyz15⟩) (by assumption) ?restz15
      case hyz15 => (intro wz hSw; (try dsimp only at hSw); go_simp; try with_reducible rfl)
      (try simp only [List.getElem_toArray, List.getElem_cons_zero, List.getElem_cons_succ, Act.put, List.setIfInBounds_toArray, List.set_cons_zero, List.set_cons_succ])
      refine wpAnyH_take (i := 7) (oi := _) (v := ?vz16) rfl (by kernel_rfl) (by kernel_rfl) (by kernel_rfl) (fun _ _ _ h => h) (Or.inl ⟨by rfl, ?hyz16⟩) (by assumption) ?restz16
      case hyz16 => (intro wz hSw; (try dsimp only at hSw); go_simp; try with_reducible rfl)
      (try simp only [List.getElem_toArray, List.getElem_cons_zero, List.getElem_cons_succ, Act.put, List.setIfInBounds_toArray, List.set_cons_zero, List.set_cons_succ])
      refine wpAnyH_take (i := 8) (oi := _) (v := ?vz17) rfl (by kernel_rfl) (by kernel_rfl) (by kernel_rfl) (fun _ _ _ h => h) (Or.inl ⟨by rfl, ?hyz17⟩) (by assumption) ?restz17
      case hyz17 => (intro wz hSw; (try dsimp only at hSw); go_simp; try with_reducible rfl)
      (try simp only [List.getElem_toArray, List.getElem_cons_zero, List.getElem_cons_succ, Act.put, List.setIfInBounds_toArray, List.set_cons_zero, List.set_cons_succ])
      refine wpAnyH_take (i := 9) (oi := _) (v := ?vz18) rfl (by kernel_rfl) (by kernel_rfl) (by kernel_rfl) (fun _ _ _ h => h) (Or.inl ⟨by rfl, ?hyz18⟩) (by assumption) ?restz18
      case hyz18 => (intro wz hSw; (try dsimp only at hSw); go_simp; try with_reducible rfl)
      (try simp only [List.getElem_toArray, List.getElem_cons_zero, List.getElem_cons_succ, Act.put, List.setIfInBounds_toArray, List.set_cons_zero, List.set_cons_succ])
      refine wpAnyH_take (i := 10) (oi := _) (v := ?vz19) rfl (by kernel_rfl) (by kernel_rfl) (by kernel_rfl) (fun _ _ _ h => h) (Or.inl ⟨by rfl, ?hyz19⟩) (by assumption) ?restz19
      case hyz19 => (intro wz hSw; (try dsimp only at hSw); go_simp; try with_reducible rfl)
      (try simp only [List.getElem_toArray, List.getElem_cons_zero, List.getElem_cons_succ, Act.put, List.setIfInBounds_toArray, List.set_cons_zero, List.set_cons_succ])
      refine wpAnyH_take (i := 11) (oi := _) (v := ?vz20) rfl (by kernel_rfl) (by kernel_rfl) (by kernel_rfl) (fun _ _ _ h => h) (Or.inl ⟨by rfl, ?hyz20⟩) (by assumption) ?restz20
      case hyz20 => (intro wz hSw; (try dsimp only at hSw); go_simp; try with_reducible rfl)
      (try simp only [List.getElem_toArray, List.getElem_cons_zero, List.getElem_cons_succ, Act.put, List.setIfInBounds_toArray, List.set_cons_zero, List.set_cons_succ])
      refine wpAnyH_ready (rs := [12]) (by kernel_rfl) (by simp) ?_
      refine AllReadyH.cons (o := _) rfl (fun K hK => ?_) AllReadyH.nil
      rw [if_pos (by rfl)]
      go_simp
      refine hK.out _ _ (by first | exact c6 | exact e6) (fun hHeld => ?_)
      clear hK K
      (try simp only [List.getElem_toArray, List.getElem_cons_zero, List.getElem_cons_succ, Act.put, List.setIfInBounds_toArray, List.set_cons_zero, List.set_cons_succ])
      refine wpAnyH_take (i := 13) (oi := _) (v := ?vz21) rfl (by kernel_rfl) (by kernel_rfl) (by kernel_rfl) (fun _ _ _ h => h) (Or.inl ⟨by rfl, ?hyz21⟩) (by assumption) ?restz21
      case hyz21 => (intro wz hSw; (try dsimp only at hSw); go_simp; try with_reducible rfl)
      (try simp only [List.getElem_toArray, List.getElem_cons_zero, List.getElem_cons_succ, Act.put, List.setIfInBounds_toArray, List.set_cons_zero, List.set_cons_succ])
      refine wpAnyH_take (i := 14) (oi := _) (v := undef) rfl (by kernel_rfl) (by kernel_rfl) (by kernel_rfl) (fun _ _ _ h => h) (Or.inr ⟨by rfl, rfl⟩) (by assumption) ?_
      (try simp only [List.getElem_toArray, List.getElem_cons_zero, List.getElem_cons_succ, Act.put, List.setIfInBounds_toArray, List.set_cons_zero, List.set_cons_succ])
      refine wpAnyH_take (i := 15) (oi := _) (v := ?vz22) rfl (by kernel_rfl) (by kernel_rfl) (by kernel_rfl) (fun _ _ _ h => h) (Or.inl ⟨by rfl, ?hyz22⟩) (by assumption) ?restz22
      case hyz22 => (intro wz hSw; (try dsimp only at hSw); go_simp; try with_reducible rfl)
      (try simp only [List.getElem_toArray, List.getElem_cons_zero, List.getElem_cons_succ, Act.put, List.setIfInBounds_toArray, List.set_cons_zero, List.set_cons_succ])
      refine wpAnyH_take (i := 16) (oi := _) (v := ?vz23) rfl (by kernel_rfl) (by kernel_rfl) (by kernel_rfl) (fun _ _ _ h => h) (Or.inl ⟨by rfl, ?hyz23⟩) (by assumption) ?restz23
      case hyz23 => (intro wz hSw; (try dsimp only at hSw); go_simp; try with_reducible rfl)
      (try simp only [List.getElem_toArray, List.getElem_cons_zero, List.getElem_cons_succ, Act.put, List.setIfInBounds_toArray, List.set_cons_zero, List.set_cons_succ])
      refine wpAnyH_take (i := 17) (oi := _) (v := ?vz24) rfl (by kernel_rfl) (by kernel_rfl) (by kernel_rfl) (fun _ _ _ h => h) (Or.inl ⟨by rfl, ?hyz24⟩) (by assumption) ?restz24
      case hyz24 => (intro wz hSw; (try dsimp only at hSw); go_simp; try with_reducible rfl)
      (try simp only [List.getElem_toArray, List.getElem_cons_zero, List.getElem_cons_succ, Act.put, List.setIfInBounds_toArray, List.set_cons_zero, List.set_cons_succ])
      refine wpAnyH_ready (rs := [18]) (by kernel_rfl) (by simp) ?_
      refine AllReadyH.cons (o := _) rfl (fun K hK => ?_) AllReadyH.nil
      rw [if_pos (by rfl)]
      go_simp
      refine hK.out _ _ (by first | exact c6 | exact e6) (fun hHeld => ?_)
      clear hK K
      (try simp only [List.getElem_toArray, List.getElem_cons_zero, List.getElem_cons_succ, Act.put, List.setIfInBounds_toArray, List.set_cons_zero, List.set_cons_succ])
      refine wpAnyH_done (by kernel_rfl) ?_ _
      obtain ⟨W3, hW3⟩ := named ((W2.setCell ⟨bL, i * 3 + 2, none⟩ (.bool true)).drew)
      have hW3b : W2.drew.setCell ⟨bL, i * 3 + 2, none⟩ (.bool true) = W3 := hW3.out
      have hR3 := HR6.out
      rw [show (true || d) = true from rfl] at hR3 HI6
      rw [hW3b] at hR3
      rw [hW3.out]
      have hA3 := hR3.2
      rw [HKB.out.1, HKB.out.2] at hA3
      have hU := rUse_any hR3.1 HI6.out
      dsimp only at hU
      rw [HKB.out.1, HKB.out.2] at hU
      rw [set_set_eq, show useR (D.items.set i ⟨k, bs, true⟩) k = putR D.items k bs d from by have hp := HPUT.out; rw [hd1] at hp; exact hp] at hU
      have HU3 : Hid (∀ (e : Ending) (w' : World), (e = .returned (.tuple #[]) ∧ Turn B ⟨D.room, putR D.items k bs d, D.rels⟩ (rcS B (.slice (some ⟨bL, 0, none⟩) m c) vR ((LM.set i x2).set i (⟨k, bs, true⟩, x2.2))) W3 w') → e = .returned (.tuple #[]) ∧ Turn B D1 S w w') := fun e w' g => ⟨g.1, by rw [← hD1.out]; exact Turn.trans (((HA1.out).trans HR5.out.2).trans hA3) g.2⟩
      have HUU := Lib.hid hU
      clear hU hR3 hA3 q6 f6 e6 c6 hW3 hW3b
      go_wp2_with (go_at_call 47; refine HUU.out.mono ?_; intro e w4 g0; obtain ⟨rfl, g1⟩ := HU3.out _ _ g0; have HT4 := Lib.hid g1; clear g0 g1)
      clear HUU HU3
      go_loopw [10] (fun s10 wr => ∃ (mo : Nat) (ao : Option Addr) (co : Nat) (out : List Int) (E : RC), s10 = .slice ao mo co ∧ Hid (Turn B E S w wr) ∧ Hid (OwnG ivV 3 1 wr N (.slice ao mo co) mo out) ∧ Hid (((out, E) = (([], D1) : List Int × RC)) ∨ (D.room < D1.items.length ∧ (out, E) = evR n D1))) (fun _ wr => match wr.cell? ⟨B, 1, none⟩ with | some (.slice _ q _) => q | _ => 0)
      case atStart => exact ⟨0, none, 0, [], D1, rfl, HT4.out, OwnG.none _ _ _ _ _, Or.inl rfl⟩
      case round =>
        obtain ⟨mo, ao, co, out, E, rfl, HT, HO, HPH⟩ := hrel
        obtain ⟨vL7, vR7, LM7, q7, a7⟩ := HT.out
        obtain ⟨aL7, cL7, rfl, _, _, _⟩ := q7.row.shape ri_rowed
        have hEroom : E.room = D.room := by
          have h1 := HROOM.out.2
          rcases HPH.out with e | ⟨_, e⟩
          · cases e; exact h1
          · have : E = (evR n D1).2 := congrArg Prod.snd e
            rw [this]
            unfold evR
            split
            · exact h1
            · exact h1
        have hlen7 := q7.len
        have hcase : (D.room < LM7.length ∧ out = [] ∧ E = D1) ∨ (¬ D.room < LM7.length ∧ (out, E) = F) := by
          rw [hlen7, ← HFE.out]
          rcases HPH.out with e | ⟨h1, e⟩
          · cases e
            by_cases hg : D.room < D1.items.length
            · exact Or.inl ⟨hg, rfl, rfl⟩
            · exact Or.inr ⟨hg, by rw [if_neg hg]⟩
          · have hE : E = (evR n D1).2 := congrArg Prod.snd e
            have := evR_len (n := n) (D := D1) (by omega)
            rw [← hE] at this
            have := HROOM.out.1
            exact Or.inr ⟨by omega, by rw [if_pos h1]; exact e⟩
        have cr0 : wr.cell? ⟨B, 0, none⟩ = some (.int .i64 D.room) := by rw [← hEroom]; exact q7.c0
        have cr1 := q7.c1
        have HQ7 := Lib.hid q7
        have HA7 := Lib.hid a7
        clear q7 a7 hEroom
        have HCASE := Lib.hid hcase
        by_cases hgt : D.room < LM7.length
        · obtain ⟨ho0, hE⟩ : out = [] ∧ E = D1 := by
            rcases HCASE.out with ⟨_, h1, h2⟩ | ⟨h1, _⟩
            · exact ⟨h1, h2⟩
            · exact absurd hgt h1
          rw [hE] at HQ7
          rw [ho0] at HO
          have HEQ : Hid (out = [] ∧ E = D1) := ⟨ho0, hE⟩
          clear ho0 hE hcase HCASE HPH HT
          obtain ⟨y7, hy7⟩ : ∃ y, LM7[0]? = some y := ⟨_, List.getElem?_eq_getElem (by omega)⟩
          have hev : evR n D1 = (if isDR D1 y7.1.key then lineR D1.rels n [] y7.1.key else [], ⟨D1.room, (cleanR (if isDR D1 y7.1.key then (lineR D1.rels n [] y7.1.key).foldl cleanR D1 else D1) y7.1.key).items.tail, (cleanR (if isDR D1 y7.1.key then (lineR D1.rels n [] y7.1.key).foldl cleanR D1 else D1) y7.1.key).rels⟩) := by
            have h1 : D1.items[0]? = some y7.1 := by rw [← HQ7.out.its, List.getElem?_map, hy7]; rfl
            unfold evR
            cases hd : D1.items with
            | nil => rw [hd] at h1; cases h1
            | cons z r =>
              rw [hd] at h1
              cases h1
              rfl
          have hgt7 : (D.room : Int) < (LM7.length : Int) := by omega
          have h07 : 0 < LM7.length := by omega
          have hgi7 : (0 : Int) < (LM7.length : Int) := by omega
          go_wp2_with fail
          go_quiet (fail)
          have hbd : Below wr.heap.size wr (wr.drewN nq) := ⟨rfl, rfl, rfl, Nat.le_refl _, fun _ _ => rfl⟩
          obtain ⟨wd, hwd⟩ := named (wr.drewN nq)
          rw [hwd.out] at hbd ⊢
          have HBD := Lib.hid hbd
          have HOD : Hid (OwnG ivV 3 1 wd N (.slice ao mo co) mo []) := HO.out.frame fun j hj => hbd.block j (HO.out.1.lt j hj).2
          have hq7d := HQ7.out.later hbd
          have cd1 := hq7d.c1
          have hrow7 := hq7d.row
          obtain ⟨b7, rfl⟩ := hrow7.at0 (by omega)
          have e7 : wd.cell? ⟨b7, 0, none⟩ = some (.int .i64 y7.1.key) := by simpa using (ri_cells hrow7 0 y7 hy7).1
          obtain ⟨zk, hzk⟩ := named y7.1.key
          rw [hzk.out] at hev e7
          have hW := rWrite_any hq7d HRR.out (n := n) (k := zk) (fun hd => (HEV.out zk hd).1) (fun hd => (HEV.out zk hd).2)
          have hXr : (if isDR D1 zk then (lineR D1.rels n [] zk).foldl cleanR D1 else D1).room = D1.room ∧ (if isDR D1 zk then (lineR D1.rels n [] zk).foldl cleanR D1 else D1).items.map RIt.key = D1.items.map RIt.key := by
            split
            · exact ⟨(cleans_items _ _).2, cleans_keys _ _⟩
            · exact ⟨rfl, rfl⟩
          have hylen : (if isDR D1 zk then lineR D1.rels n [] zk else []).length ≤ 100000 := by
            split
            · rename_i hd
              exact (HEV.out zk hd).2
            · exact Nat.zero_le _
          unfold WriteRQ at hW
          obtain ⟨y, hy⟩ := named (if isDR D1 zk then lineR D1.rels n [] zk else [])
          obtain ⟨X, hX⟩ := named (if isDR D1 zk then (lineR D1.rels n [] zk).foldl cleanR D1 else D1)
          rw [hy.out, hX.out] at hW
          rw [hy.out, hX.out] at hev
          rw [hX.out] at hXr
          rw [hy.out] at hylen
          obtain ⟨ny, hny⟩ := named y.length
          rw [hny.out] at hW hylen
          have HX := Lib.hid hXr
          have HEVR := Lib.hid hev
          have HWR := Lib.hid hW
          have HQD := Lib.hid hq7d
          have HAD : Hid (Away S w (rcS B (.slice (some ⟨b7, 0, none⟩) LM7.length cL7) vR7 LM7) wd) := HA7.out.later' HQ7.out.lt HBD.out
          have hmo : mo = 0 := HO.out.2.1.symm
          subst hmo
          have HND : Hid (N ≤ wd.heap.size) := by rw [Hid, ← HSZ.out]; exact Nat.le_trans HA7.out.size HBD.out.size
          have HL7 : Hid (∀ LM4 : List RI, LM4.map (fun x => x.1) = (cleanR X zk).items → LM4.length = LM7.length) := fun LM4 h4 => by
            have h5 := congrArg (fun l : List RIt => (l.map RIt.key).length) h4
            have h6 := congrArg List.length ((rclean_keys X zk).trans HX.out.2)
            simp only [List.length_map] at h5 h6
            rw [h5, h6, HQ7.out.len]
          clear hy7 hrow7 hq7d hW hXr hev hbd hwd
          go_wp2_with (first
            | (go_at_call 50; (refine HWR.out.mono ?_; rintro e w2 ⟨a2, c2, rfl, g1, g2⟩; have HT2 := Lib.hid (Turn.trans HAD.out g2); have HO2 := Lib.hid (HQD.out.intsT HOD.out g2); have hsz2 : N ≤ w2.heap.size := Nat.le_trans HND.out g2.size; obtain ⟨hrd, hnl2, _⟩ := g1.reads iv_rowed; have HRD := Lib.hid hrd; clear g1 g2 hrd))
            | (at_builtin; (refine r_append_lg iv_rowed rfl (.tmp 82) (.tmp 85) rfl N (.slice ao 0 co) 0 [] rfl HO2.out a2 ny c2 y rfl hnl2 HRD.out (by omega) hsz2 ?_; intro a3 c3 w3 r1 r2 r3; rw [List.nil_append, Nat.zero_add] at r1; have HO3 := Lib.hid r1; have HT3 := Lib.hid (HT2.out.more HO2.out (Nat.le_of_eq HSZ.out) r2); clear r1 r2 r3 HO2))
            | (go_at_call 51; (obtain ⟨vL3, vR3, LM3, q3, p3⟩ := HT3.out; refine (rClean_any q3 zk).mono ?_; rintro e w4 ⟨rfl, g1⟩; have HO4 := Lib.hid (q3.intsT HO3.out g1); obtain ⟨vL4, vR4, LM4, q4, p4⟩ := Turn.trans p3 g1; have hL4 := HL7.out LM4 q4.its; obtain ⟨aL4, cL4, rfl, _, _, hcap4⟩ := q4.row.shape ri_rowed; obtain ⟨b4, rfl⟩ := q4.row.at0 (by omega); have HQ4 := Lib.hid q4; have HP4 := Lib.hid p4; have c41 := q4.c1; have d41 : ∀ o, (w4.alloc o).cell? ⟨B, 1, none⟩ = some (.slice (some ⟨b4, 0, none⟩) LM4.length cL4) := (fun o => ((HQ4.out.blk.alloc o).cell 1).trans rfl); obtain ⟨ab, cb4, hbk, hnb4, hrb⟩ := ri_back (q4.row.reads ri_rowed).1 (p := 1) (by omega) hcap4; obtain ⟨n5, hn5⟩ : ∃ n5, Hid (LM4.length - 1 = n5) := ⟨_, rfl⟩; rw [hn5.out] at hbk hrb; have hbk' : ∀ w' : World, (Instr.slice 65 (.slice (some ⟨b4, 0, none⟩) LM4.length cL4) (some (.int .i64 1)) none none).run Try.prog w' = .ok (.slice ab n5 cb4) w' := hbk; have HRB := Lib.hid hrb; obtain ⟨M4, hM4⟩ := named w4.heap.size; have hMM4 := hM4.out; have hMA4 : ∀ o, M4 ≤ (w4.alloc o).heap.size := (fun o => by rw [World.size_alloc, ← hMM4]; exact Nat.le_succ _); have h5le : n5 ≤ 1100 := (by have h1 := hn5.out; have h2 := q4.many; omega); clear q3 p3 g1 q4 p4 hrb hbk hcap4 hL4))
            | (at_builtin; (refine append_gg ri_rowed rfl (.tmp 91) (.tmp 96) rfl M4 (.slice (some ⟨M4, 0, none⟩) 0 0) 0 [] (by rw [← hMM4]; rfl) (by rw [← hMM4]; exact OwnG.made _ _ _ w4 w4.heap.size (Nat.le_refl _)) ab n5 cb4 (LM4.drop 1) rfl hnb4 (HRB.out.later ((Below.refl _ w4).alloc (Nat.le_refl _) _)) (by omega) (hMA4 _) ?_; intro a5 c5 w5 r1 r2 r3; rw [Nat.zero_add, List.nil_append] at r1; rw [Nat.zero_add]; have HO5 := Lib.hid r1; have HB5 : Hid (Below w4.heap.size w4 w5) := Lib.hid (((Below.refl w4.heap.size w4).alloc (Nat.le_refl _) _).trans (hMM4.symm ▸ r2)); have k51 := (HQ4.out.later HB5.out).c1; have k52 := (HQ4.out.later HB5.out).blk.free 1; clear r1 r2 r3)))
          have hl5 : (LM4.drop 1).length = n5 := by rw [List.length_drop]; exact hn5.out
          have hnd5 : ((LM4.drop 1).map fun x => x.1.key).Nodup := by
            have := HQ4.out.kn
            rw [List.map_drop]
            exact this.sublist (List.drop_sublist _ _)
          obtain ⟨t1, t2⟩ := HQ4.out.storeL (vL' := .slice a5 n5 c5) HB5.out (by rw [hl5, hMM4]; exact HO5.out) (fun x hx => List.mem_of_mem_drop hx) hnd5 (by rw [hl5]; exact h5le)
          have hfin : (⟨(cleanR X zk).room, (LM4.drop 1).map (fun x => x.1), (cleanR X zk).rels⟩ : RC) = (evR n D1).2 := by
            rw [HEVR.out]
            show (⟨X.room, _, _⟩ : RC) = ⟨D1.room, (cleanR X zk).items.tail, _⟩
            rw [HX.out.1, ← HQ4.out.its, List.map_drop, List.drop_one]
          rw [hfin] at t1
          have HT1 := Lib.hid t1
          have HT5 : Hid (Turn B (evR n D1).2 S w (w5.setCell ⟨B, 1, none⟩ (.slice a5 n5 c5))) := ⟨_, _, _, t1, HP4.out.trans t2⟩
          have HO6 := Lib.hid (HQ4.out.ints HO4.out t2)
          clear t1 t2 hfin
          go_roundw
          case rel => exact ⟨ny, a3, c3, y, (evR n D1).2, rfl, HT5.out, HO6.out, Or.inr ⟨by rw [← HQ7.out.len]; exact hgt, by rw [HEVR.out]⟩⟩
          case measure =>
            rw [HT1.out.c1, cr1]
            show n5 < LM7.length
            have h1 := hn5.out
            have h2 := HL7.out LM4 HQ4.out.its
            omega
        · have HF1 : Hid ((out, E) = F) := by
            rcases HCASE.out with ⟨h1, _⟩ | ⟨_, h1⟩
            · exact absurd h1 hgt
            · exact h1
          have hn7 : ¬ ((D.room : Int) < (LM7.length : Int)) := by omega
          clear hcase
          go_wp2_with fail
          go_quiet (fail)
          have hbd : Below wr.heap.size wr (wr.drewN nq) := ⟨rfl, rfl, rfl, Nat.le_refl _, fun _ _ => rfl⟩
          have hod : OwnG ivV 3 1 (wr.drewN nq) N (.slice ao mo co) mo out := HO.out.frame fun j hj => hbd.block j (HO.out.1.lt j hj).2
          have htd := HT.out.later hbd
          obtain ⟨wd, hwd⟩ := named (wr.drewN nq)
          rw [hwd.out] at hod htd ⊢
          clear hbd hwd
          have HOD := Lib.hid hod
          have HTD := Lib.hid htd
          clear hod htd
          go_wp2
          go_ret
          have hl := HO.out.2.1
          rw [← HF1.out]
          dsimp only
          rw [hl]
          exact ⟨ao, co, rfl, HOD.out, HTD.out⟩
    | false =>
      rw [hd1] at q6 e6 HR6 HI6
      have e6' : (W2.drew.setCell ⟨bL, i * 3 + 2, none⟩ (.bool d)).cell? ⟨B, 1, none⟩ = some (.slice (some ⟨bL, 0, none⟩) m c) := e6
      go_wp2_with fail
      refine wp_region_held_drew (S := fun w' => w'.cell? ⟨B, 1, none⟩ = some (.slice (some ⟨bL, 0, none⟩) m c)) (by kernel_rfl) (by first | exact c6 | exact e6') (fun hHeld => ?_)
      refine wpAnyH_take (i := 0) (oi := _) (v := ?vz25) rfl (by kernel_rfl) (by kernel_rfl) (by kernel_rfl) (fun _ _ _ h => h) (Or.inl ⟨by rfl, ?hyz25⟩) (by assumption) ?restz25
      case hyz25 => (intro wz hSw; (try dsimp only at hSw); go_simp; try with_reducible rfl)
      (try simp only [List.getElem_toArray, List.getElem_cons_zero, Act.put, List.setIfInBounds_toArray, List.set_cons_zero, List.set_cons_succ])
      refine wpAnyH_take (i := 1) (oi := _) (v := ?vz26) rfl (by kernel_rfl) (by kernel_rfl) (by kernel_rfl) (fun _ _ _ h => h) (Or.inl ⟨by rfl, ?hyz26⟩) (by assumption) ?restz26
      case hyz26 => (intro wz hSw; (try dsimp only at hSw); go_simp; try with_reducible rfl)
      (try simp only [List.getElem_toArray, List.getElem_cons_zero, List.getElem_cons_succ, Act.put, List.setIfInBounds_toArray, List.set_cons_zero, List.set_cons_succ])
      refine wpAnyH_take (i := 2) (oi := _) (v := ?vz27) rfl (by kernel_rfl) (by kernel_rfl) (by kernel_rfl) (fun _ _ _ h => h) (Or.inl ⟨by rfl, ?hyz27⟩) (by assumption) ?restz27
      case hyz27 => (intro wz hSw; (try dsimp only at hSw); go_simp; try with_reducible rfl)
      (try simp only [List.getElem_toArray, List.getElem_cons_zero, List.getElem_cons_succ, Act.put, List.setIfInBounds_toArray, List.set_cons_zero, List.set_cons_succ])
      refine wpAnyH_take (i := 3) (oi := _) (v := ?vz28) rfl (by kernel_rfl) (by kernel_rfl) (by kernel_rfl) (fun _ _ _ h => h) (Or.inl ⟨by rfl, ?hyz28⟩) (by assumption) ?restz28
      case hyz28 => (intro wz hSw; (try dsimp only at hSw); go_simp; try with_reducible rfl)
      (try simp only [List.getElem_toArray, List.getElem_cons_zero, List.getElem_cons_succ, Act.put, List.setIfInBounds_toArray, List.set_cons_zero, List.set_cons_succ])
      refine wpAnyH_take (i := 4) (oi := _) (v := ?vz29) rfl (by kernel_rfl) (by kernel_rfl) (by kernel_rfl) (fun _ _ _ h => h) (Or.inl ⟨by rfl, ?hyz29⟩) (by assumption) ?restz29
      case hyz29 => (intro wz hSw; (try dsimp only at hSw); go_simp; try with_reducible rfl)
      (try simp only [List.getElem_toArray, List.getElem_cons_zero, List.getElem_cons_succ, Act.put, List.setIfInBounds_toArray, List.set_cons_zero, List.set_cons_succ])
      refine wpAnyH_take (i := 5) (oi := _) (v := ?vz30) rfl (by kernel_rfl) (by kernel_rfl) (by kernel_rfl) (fun _ _ _ h => h) (Or.inl ⟨by rfl, ?hyz30⟩) (by assumption) ?restz30
      case hyz30 => (intro wz hSw; (try dsimp only at hSw); go_simp; try with_reducible rfl)
      (try simp only [List.getElem_toArray, List.getElem_cons_zero, List.getElem_cons_succ, Act.put, List.setIfInBounds_toArray, List.set_cons_zero, List.set_cons_succ])
      refine wpAnyH_take (i := 6) (oi := _) (v := ?vz31) rfl (by kernel_rfl) (by kernel_rfl) (by kernel_rfl) (fun _ _ _ h => h) (Or.inl ⟨by rfl, ?hyz31⟩) (by assumption) ?restz31
      case hyz31 => (intro wz hSw; (try dsimp only at hSw); go_simp; try with_reducible rfl)
      (try simp only [List.getElem_toArray, List.getElem_cons_zero, List.getElem_cons_succ, Act.put, List.setIfInBounds_toArray, List.set_cons_zero, List.set_cons_succ])
      refine wpAnyH_take (i := 7) (oi := _) (v := ?vz32) rfl (by kernel_rfl) (by kernel_rfl) (by kernel_rfl) (fun _ _ _ h => h) (Or.inl ⟨by rfl, ?hyz32⟩) (by assumption) ?restz32
      case hyz32 => (intro wz hSw; (try dsimp only at hSw); go_simp; try with_reducible rfl)
      (try simp only [List.getElem_toArray, List.getElem_cons_zero, List.getElem_cons_succ, Act.put, List.setIfInBounds_toArray, List.set_cons_zero, List.set_cons_succ])
      refine wpAnyH_take (i := 8) (oi := _) (v := ?vz33) rfl (by kernel_rfl) (by kernel_rfl) (by kernel_rfl) (fun _ _ _ h => h) (Or.inl ⟨by rfl, ?hyz33⟩) (by assumption) ?restz33
      case hyz33 => (intro wz hSw; (try dsimp only at hSw); go_simp; try with_reducible rfl)
      (try simp only [List.getElem_toArray, List.getElem_cons_zero, List.getElem_cons_succ, Act.put, List.setIfInBounds_toArray, List.set_cons_zero, List.set_cons_succ])
      refine wpAnyH_take (i := 9) (oi := _) (v := ?vz34) rfl (by kernel_rfl) (by kernel_rfl) (by kernel_rfl) (fun _ _ _ h => h) (Or.inl ⟨by rfl, ?hyz34⟩) (by assumption) ?restz34
      case hyz34 => (intro wz hSw; (try dsimp only at hSw); go_simp; try with_reducible rfl)
      (try simp only [List.getElem_toArray, List.getElem_cons_zero, List.getElem_cons_succ, Act.put, List.setIfInBounds_toArray, List.set_cons_zero, List.set_cons_succ])
      refine wpAnyH_take (i := 10) (oi := _) (v := ?vz35) rfl (by kernel_rfl) (by kernel_rfl) (by kernel_rfl) (fun _ _ _ h => h) (Or.inl ⟨by rfl, ?hyz35⟩) (by assumption) ?restz35
      case hyz35 => (intro wz hSw; (try dsimp only at hSw); go_simp; try with_reducible rfl)
      (try simp only [List.getElem_toArray, List.getElem_cons_zero, List.getElem_cons_succ, Act.put, List.setIfInBounds_toArray, List.set_cons_zero, List.set_cons_succ])
      refine wpAnyH_take (i := 11) (oi := _) (v := ?vz36) rfl (by kernel_rfl) (by kernel_rfl) (by kernel_rfl) (fun _ _ _ h => h) (Or.inl ⟨by rfl, ?hyz36⟩) (by assumption) ?restz36
      case hyz36 => (intro wz hSw; (try dsimp only at hSw); go_simp; try with_reducible rfl)
      (try simp only [List.getElem_toArray, List.getElem_cons_zero, List.getElem_cons_succ, Act.put, List.setIfInBounds_toArray, List.set_cons_zero, List.set_cons_succ])
      refine wpAnyH_ready (rs := [12]) (by kernel_rfl) (by simp) ?_
      refine AllReadyH.cons (o := _) rfl (fun K hK => ?_) AllReadyH.nil
      rw [if_pos (by rfl)]
      go_simp
      refine hK.out _ _ (by first | exact c6 | exact e6') (fun hHeld => ?_)
      clear hK K
      (try simp only [List.getElem_toArray, List.getElem_cons_zero, List.getElem_cons_succ, Act.put, List.setIfInBounds_toArray, List.set_cons_zero, List.set_cons_succ])
      refine wpAnyH_take (i := 13) (oi := _) (v := ?vz37) rfl (by kernel_rfl) (by kernel_rfl) (by kernel_rfl) (fun _ _ _ h => h) (Or.inl ⟨by rfl, ?hyz37⟩) (by assumption) ?restz37
      case hyz37 => (intro wz hSw; (try dsimp only at hSw); go_simp; try with_reducible rfl)
      (try simp only [List.getElem_toArray, List.getElem_cons_zero, List.getElem_cons_succ, Act.put, List.setIfInBounds_toArray, List.set_cons_zero, List.set_cons_succ])
      refine wpAnyH_take (i := 14) (oi := _) (v := ?vz38) rfl (by kernel_rfl) (by kernel_rfl) (by kernel_rfl) (fun _ _ _ h => h) (Or.inl ⟨by rfl, ?hyz38⟩) (by assumption) ?restz38
      case hyz38 => (intro wz hSw; (try dsimp only at hSw); go_simp; try with_reducible rfl)
      (try simp only [List.getElem_toArray, List.getElem_cons_zero, List.getElem_cons_succ, Act.put, List.setIfInBounds_toArray, List.set_cons_zero, List.set_cons_succ])
      refine wpAnyH_take (i := 15) (oi := _) (v := ?vz39) rfl (by kernel_rfl) (by kernel_rfl) (by kernel_rfl) (fun _ _ _ h => h) (Or.inl ⟨by rfl, ?hyz39⟩) (by assumption) ?restz39
      case hyz39 => (intro wz hSw; (try dsimp only at hSw); go_simp; try with_reducible rfl)
      (try simp only [List.getElem_toArray, List.getElem_cons_zero, List.getElem_cons_succ, Act.put, List.setIfInBounds_toArray, List.set_cons_zero, List.set_cons_succ])
      refine wpAnyH_take (i := 16) (oi := _) (v := ?vz40) rfl (by kernel_rfl) (by kernel_rfl) (by kernel_rfl) (fun _ _ _ h => h) (Or.inl ⟨by rfl, ?hyz40⟩) (by assumption) ?restz40
      case hyz40 => (intro wz hSw; (try dsimp only at hSw); go_simp; try with_reducible rfl)
      (try simp only [List.getElem_toArray, List.getElem_cons_zero, List.getElem_cons_succ, Act.put, List.setIfInBounds_toArray, List.set_cons_zero, List.set_cons_succ])
      refine wpAnyH_take (i := 17) (oi := _) (v := ?vz41) rfl (by kernel_rfl) (by kernel_rfl) (by kernel_rfl) (fun _ _ _ h => h) (Or.inl ⟨by rfl, ?hyz41⟩) (by assumption) ?restz41
      case hyz41 => (intro wz hSw; (try dsimp only at hSw); go_simp; try with_reducible rfl)
      (try simp only [List.getElem_toArray, List.getElem_cons_zero, List.getElem_cons_succ, Act.put, List.setIfInBounds_toArray, List.set_cons_zero, List.set_cons_succ])
      refine wpAnyH_ready (rs := [18]) (by kernel_rfl) (by simp) ?_
      refine AllReadyH.cons (o := _) rfl (fun K hK => ?_) AllReadyH.nil
      rw [if_pos (by rfl)]
      go_simp
      refine hK.out _ _ (by first | exact c6 | exact e6') (fun hHeld => ?_)
      clear hK K
      (try simp only [List.getElem_toArray, List.getElem_cons_zero, List.getElem_cons_succ, Act.put, List.setIfInBounds_toArray, List.set_cons_zero, List.set_cons_succ])
      refine wpAnyH_done (by kernel_rfl) ?_ _
      obtain ⟨W3, hW3⟩ := named ((W2.setCell ⟨bL, i * 3 + 2, none⟩ (.bool d)).drew)
      have hW3b : W2.drew.setCell ⟨bL, i * 3 + 2, none⟩ (.bool d) = W3 := hW3.out
      have hR3 := HR6.out
      rw [show (false || d) = d from rfl] at hR3 HI6
      rw [hW3b] at hR3
      rw [hW3.out]
      have hA3 := hR3.2
      rw [HKB.out.1, HKB.out.2] at hA3
      have hU := rUse_any hR3.1 HI6.out
      dsimp only at hU
      rw [HKB.out.1, HKB.out.2] at hU
      rw [set_set_eq, show useR (D.items.set i ⟨k, bs, d⟩) k = putR D.items k bs d from by have hp := HPUT.out; rw [hd1] at hp; exact hp] at hU
      have HU3 : Hid (∀ (e : Ending) (w' : World), (e = .returned (.tuple #[]) ∧ Turn B ⟨D.room, putR D.items k bs d, D.rels⟩ (rcS B (.slice (some ⟨bL, 0, none⟩) m c) vR ((LM.set i x2).set i (⟨k, bs, d⟩, x2.2))) W3 w') → e = .returned (.tuple #[]) ∧ Turn B D1 S w w') := fun e w' g => ⟨g.1, by rw [← hD1.out]; exact Turn.trans (((HA1.out).trans HR5.out.2).trans hA3) g.2⟩
      have HUU := Lib.hid hU
      clear hU hR3 hA3 q6 f6 e6 c6 hW3 hW3b
      go_wp2_with (go_at_call 47; refine HUU.out.mono ?_; intro e w4 g0; obtain ⟨rfl, g1⟩ := HU3.out _ _ g0; have HT4 := Lib.hid g1; clear g0 g1)
      clear HUU HU3
      go_loopw [10] (fun s10 wr => ∃ (mo : Nat) (ao : Option Addr) (co : Nat) (out : List Int) (E : RC), s10 = .slice ao mo co ∧ Hid (Turn B E S w wr) ∧ Hid (OwnG ivV 3 1 wr N (.slice ao mo co) mo out) ∧ Hid (((out, E) = (([], D1) : List Int × RC)) ∨ (D.room < D1.items.length ∧ (out, E) = evR n D1))) (fun _ wr => match wr.cell? ⟨B, 1, none⟩ with | some (.slice _ q _) => q | _ => 0)
      case atStart => exact ⟨0, none, 0, [], D1, rfl, HT4.out, OwnG.none _ _ _ _ _, Or.inl rfl⟩
      case round =>
        obtain ⟨mo, ao, co, out, E, rfl, HT, HO, HPH⟩ := hrel
        obtain ⟨vL7, vR7, LM7, q7, a7⟩ := HT.out
        obtain ⟨aL7, cL7, rfl, _, _, _⟩ := q7.row.shape ri_rowed
        have hEroom : E.room = D.room := by
          have h1 := HROOM.out.2
          rcases HPH.out with e | ⟨_, e⟩
          · cases e; exact h1
          · have : E = (evR n D1).2 := congrArg Prod.snd e
            rw [this]
            unfold evR
            split
            · exact h1
            · exact h1
        have hlen7 := q7.len
        have hcase : (D.room < LM7.length ∧ out = [] ∧ E = D1) ∨ (¬ D.room < LM7.length ∧ (out, E) = F) := by
          rw [hlen7, ← HFE.out]
          rcases HPH.out with e | ⟨h1, e⟩
          · cases e
            by_cases hg : D.room < D1.items.length
            · exact Or.inl ⟨hg, rfl, rfl⟩
            · exact Or.inr ⟨hg, by rw [if_neg hg]⟩
          · have hE : E = (evR n D1).2 := congrArg Prod.snd e
            have := evR_len (n := n) (D := D1) (by omega)
            rw [← hE] at this
            have := HROOM.out.1
            exact Or.inr ⟨by omega, by rw [if_pos h1]; exact e⟩
        have cr0 : wr.cell? ⟨B, 0, none⟩ = some (.int .i64 D.room) := by rw [← hEroom]; exact q7.c0
        have cr1 := q7.c1
        have HQ7 := Lib.hid q7
        have HA7 := Lib.hid a7
        clear q7 a7 hEroom
        have HCASE := Lib.hid hcase
        by_cases hgt : D.room < LM7.length
        · obtain ⟨ho0, hE⟩ : out = [] ∧ E = D1 := by
            rcases HCASE.out with ⟨_, h1, h2⟩ | ⟨h1, _⟩
            · exact ⟨h1, h2⟩
            · exact absurd hgt h1
          rw [hE] at HQ7
          rw [ho0] at HO
          have HEQ : Hid (out = [] ∧ E = D1) := ⟨ho0, hE⟩
          clear ho0 hE hcase HCASE HPH HT
          obtain ⟨y7, hy7⟩ : ∃ y, LM7[0]? = some y := ⟨_, List.getElem?_eq_getElem (by omega)⟩
          have hev : evR n D1 = (if isDR D1 y7.1.key then lineR D1.rels n [] y7.1.key else [], ⟨D1.room, (cleanR (if isDR D1 y7.1.key then (lineR D1.rels n [] y7.1.key).foldl cleanR D1 else D1) y7.1.key).items.tail, (cleanR (if isDR D1 y7.1.key then (lineR D1.rels n [] y7.1.key).foldl cleanR D1 else D1) y7.1.key).rels⟩) := by
            have h1 : D1.items[0]? = some y7.1 := by rw [← HQ7.out.its, List.getElem?_map, hy7]; rfl
            unfold evR
            cases hd : D1.items with
            | nil => rw [hd] at h1; cases h1
            | cons z r =>
              rw [hd] at h1
              cases h1
              rfl
          have hgt7 : (D.room : Int) < (LM7.length : Int) := by omega
          have h07 : 0 < LM7.length := by omega
          have hgi7 : (0 : Int) < (LM7.length : Int) := by omega
          go_wp2_with fail
          go_quiet (fail)
          have hbd : Below wr.heap.size wr (wr.drewN nq) := ⟨rfl, rfl, rfl, Nat.le_refl _, fun _ _ => rfl⟩
          obtain ⟨wd, hwd⟩ := named (wr.drewN nq)
          rw [hwd.out] at hbd ⊢
          have HBD := Lib.hid hbd
          have HOD : Hid (OwnG ivV 3 1 wd N (.slice ao mo co) mo []) := HO.out.frame fun j hj => hbd.block j (HO.out.1.lt j hj).2
          have hq7d := HQ7.out.later hbd
          have cd1 := hq7d.c1
          have hrow7 := hq7d.row
          obtain ⟨b7, rfl⟩ := hrow7.at0 (by omega)
          have e7 : wd.cell? ⟨b7, 0, none⟩ = some (.int .i64 y7.1.key) := by simpa using (ri_cells hrow7 0 y7 hy7).1
          obtain ⟨zk, hzk⟩ := named y7.1.key
          rw [hzk.out] at hev e7
          have hW := rWrite_any hq7d HRR.out (n := n) (k := zk) (fun hd => (HEV.out zk hd).1) (fun hd => (HEV.out zk hd).2)
          have hXr : (if isDR D1 zk then (lineR D1.rels n [] zk).foldl cleanR D1 else D1).room = D1.room ∧ (if isDR D1 zk then (lineR D1.rels n [] zk).foldl cleanR D1 else D1).items.map RIt.key = D1.items.map RIt.key := by
            split
            · exact ⟨(cleans_items _ _).2, cleans_keys _ _⟩
            · exact ⟨rfl, rfl⟩
          have hylen : (if isDR D1 zk then lineR D1.rels n [] zk else []).length ≤ 100000 := by
            split
            · rename_i hd
              exact (HEV.out zk hd).2
            · exact Nat.zero_le _
          unfold WriteRQ at hW
          obtain ⟨y, hy⟩ := named (if isDR D1 zk then lineR D1.rels n [] zk else [])
          obtain ⟨X, hX⟩ := named (if isDR D1 zk then (lineR D1.rels n [] zk).foldl cleanR D1 else D1)
          rw [hy.out, hX.out] at hW
          rw [hy.out, hX.out] at hev
          rw [hX.out] at hXr
          rw [hy.out] at hylen
          obtain ⟨ny, hny⟩ := named y.length
          rw [hny.out] at hW hylen
          have HX := Lib.hid hXr
          have HEVR := Lib.hid hev
          have HWR := Lib.hid hW
          have HQD := Lib.hid hq7d
          have HAD : Hid (Away S w (rcS B (.slice (some ⟨b7, 0, none⟩) LM7.length cL7) vR7 LM7) wd) := HA7.out.later' HQ7.out.lt HBD.out
          have hmo : mo = 0 := HO.out.2.1.symm
          subst hmo
          have HND : Hid (N ≤ wd.heap.size) := by rw [Hid, ← HSZ.out]; exact Nat.le_trans HA7.out.size HBD.out.size
          have HL7 : Hid (∀ LM4 : List RI, LM4.map (fun x => x.1) = (cleanR X zk).items → LM4.length = LM7.length) := fun LM4 h4 => by
            have h5 := congrArg (fun l : List RIt => (l.map RIt.key).length) h4
            have h6 := congrArg List.length ((rclean_keys X zk).trans HX.out.2)
            simp only [List.length_map] at h5 h6
            rw [h5, h6, HQ7.out.len]
          clear hy7 hrow7 hq7d hW hXr hev hbd hwd
          go_wp2_with (first
            | (go_at_call 50; (refine HWR.out.mono ?_; rintro e w2 ⟨a2, c2, rfl, g1, g2⟩; have HT2 := Lib.hid (Turn.trans HAD.out g2); have HO2 := Lib.hid (HQD.out.intsT HOD.out g2); have hsz2 : N ≤ w2.heap.size := Nat.le_trans HND.out g2.size; obtain ⟨hrd, hnl2, _⟩ := g1.reads iv_rowed; have HRD := Lib.hid hrd; clear g1 g2 hrd))
            | (at_builtin; (refine r_append_lg iv_rowed rfl (.tmp 82) (.tmp 85) rfl N (.slice ao 0 co) 0 [] rfl HO2.out a2 ny c2 y rfl hnl2 HRD.out (by omega) hsz2 ?_; intro a3 c3 w3 r1 r2 r3; rw [List.nil_append, Nat.zero_add] at r1; have HO3 := Lib.hid r1; have HT3 := Lib.hid (HT2.out.more HO2.out (Nat.le_of_eq HSZ.out) r2); clear r1 r2 r3 HO2))
            | (go_at_call 51; (obtain ⟨vL3, vR3, LM3, q3, p3⟩ := HT3.out; refine (rClean_any q3 zk).mono ?_; rintro e w4 ⟨rfl, g1⟩; have HO4 := Lib.hid (q3.intsT HO3.out g1); obtain ⟨vL4, vR4, LM4, q4, p4⟩ := Turn.trans p3 g1; have hL4 := HL7.out LM4 q4.its; obtain ⟨aL4, cL4, rfl, _, _, hcap4⟩ := q4.row.shape ri_rowed; obtain ⟨b4, rfl⟩ := q4.row.at0 (by omega); have HQ4 := Lib.hid q4; have HP4 := Lib.hid p4; have c41 := q4.c1; have d41 : ∀ o, (w4.alloc o).cell? ⟨B, 1, none⟩ = some (.slice (some ⟨b4, 0, none⟩) LM4.length cL4) := (fun o => ((HQ4.out.blk.alloc o).cell 1).trans rfl); obtain ⟨ab, cb4, hbk, hnb4, hrb⟩ := ri_back (q4.row.reads ri_rowed).1 (p := 1) (by omega) hcap4; obtain ⟨n5, hn5⟩ : ∃ n5, Hid (LM4.length - 1 = n5) := ⟨_, rfl⟩; rw [hn5.out] at hbk hrb; have hbk' : ∀ w' : World, (Instr.slice 65 (.slice (some ⟨b4, 0, none⟩) LM4.length cL4) (some (.int .i64 1)) none none).run Try.prog w' = .ok (.slice ab n5 cb4) w' := hbk; have HRB := Lib.hid hrb; obtain ⟨M4, hM4⟩ := named w4.heap.size; have hMM4 := hM4.out; have hMA4 : ∀ o, M4 ≤ (w4.alloc o).heap.size := (fun o => by rw [World.size_alloc, ← hMM4]; exact Nat.le_succ _); have h5le : n5 ≤ 1100 := (by have h1 := hn5.out; have h2 := q4.many; omega); clear q3 p3 g1 q4 p4 hrb hbk hcap4 hL4))
            | (at_builtin; (refine append_gg ri_rowed rfl (.tmp 91) (.tmp 96) rfl M4 (.slice (some ⟨M4, 0, none⟩) 0 0) 0 [] (by rw [← hMM4]; rfl) (by rw [← hMM4]; exact OwnG.made _ _ _ w4 w4.heap.size (Nat.le_refl _)) ab n5 cb4 (LM4.drop 1) rfl hnb4 (HRB.out.later ((Below.refl _ w4).alloc (Nat.le_refl _) _)) (by omega) (hMA4 _) ?_; intro a5 c5 w5 r1 r2 r3; rw [Nat.zero_add, List.nil_append] at r1; rw [Nat.zero_add]; have HO5 := Lib.hid r1; have HB5 : Hid (Below w4.heap.size w4 w5) := Lib.hid (((Below.refl w4.heap.size w4).alloc (Nat.le_refl _) _).trans (hMM4.symm ▸ r2)); have k51 := (HQ4.out.later HB5.out).c1; have k52 := (HQ4.out.later HB5.out).blk.free 1; clear r1 r2 r3)))
          have hl5 : (LM4.drop 1).length = n5 := by rw [List.length_drop]; exact hn5.out
          have hnd5 : ((LM4.drop 1).map fun x => x.1.key).Nodup := by
            have := HQ4.out.kn
            rw [List.map_drop]
            exact this.sublist (List.drop_sublist _ _)
          obtain ⟨t1, t2⟩ := HQ4.out.storeL (vL' := .slice a5 n5 c5) HB5.out (by rw [hl5, hMM4]; exact HO5.out) (fun x hx => List.mem_of_mem_drop hx) hnd5 (by rw [hl5]; exact h5le)
          have hfin : (⟨(cleanR X zk).room, (LM4.drop 1).map (fun x => x.1), (cleanR X zk).rels⟩ : RC) = (evR n D1).2 := by
            rw [HEVR.out]
            show (⟨X.room, _, _⟩ : RC) = ⟨D1.room, (cleanR X zk).items.tail, _⟩
            rw [HX.out.1, ← HQ4.out.its, List.map_drop, List.drop_one]
          rw [hfin] at t1
          have HT1 := Lib.hid t1
          have HT5 : Hid (Turn B (evR n D1).2 S w (w5.setCell ⟨B, 1, none⟩ (.slice a5 n5 c5))) := ⟨_, _, _, t1, HP4.out.trans t2⟩
          have HO6 := Lib.hid (HQ4.out.ints HO4.out t2)
          clear t1 t2 hfin
          go_roundw
          case rel => exact ⟨ny, a3, c3, y, (evR n D1).2, rfl, HT5.out, HO6.out, Or.inr ⟨by rw [← HQ7.out.len]; exact hgt, by rw [HEVR.out]⟩⟩
          case measure =>
            rw [HT1.out.c1, cr1]
            show n5 < LM7.length
            have h1 := hn5.out
            have h2 := HL7.out LM4 HQ4.out.its
            omega
        · have HF1 : Hid ((out, E) = F) := by
            rcases HCASE.out with ⟨h1, _⟩ | ⟨_, h1⟩
            · exact absurd h1 hgt
            · exact h1
          have hn7 : ¬ ((D.room : Int) < (LM7.length : Int)) := by omega
          clear hcase
          go_wp2_with fail
          go_quiet (fail)
          have hbd : Below wr.heap.size wr (wr.drewN nq) := ⟨rfl, rfl, rfl, Nat.le_refl _, fun _ _ => rfl⟩
          have hod : OwnG ivV 3 1 (wr.drewN nq) N (.slice ao mo co) mo out := HO.out.frame fun j hj => hbd.block j (HO.out.1.lt j hj).2
          have htd := HT.out.later hbd
          obtain ⟨wd, hwd⟩ := named (wr.drewN nq)
          rw [hwd.out] at hod htd ⊢
          clear hbd hwd
          have HOD := Lib.hid hod
          have HTD := Lib.hid htd
          clear hod htd
          go_wp2
          go_ret
          have hl := HO.out.2.1
          rw [← HF1.out]
          dsimp only
          rw [hl]
          exact ⟨ao, co, rfl, HOD.out, HTD.out⟩
  · have HA := Lib.hid (rAt_none h hk)
    have HH := Lib.hid h
    have HNO := Lib.hid hk
    have hPN := put_new (D := D) (k := k) (fun y hy => by rw [← h.its] at hy; obtain ⟨z, hz, rfl⟩ := List.mem_map.1 hy; exact hk z hz) bs d
    rw [← h.len] at hPN
    have c1 := h.c1
    have f1 := h.blk.free 1
    have hrow := h.row
    have HB := Lib.hid hB
    have HSE := Lib.hid hS.out
    obtain ⟨aL, c, rfl, _, _, hcap⟩ := h.row.shape ri_rowed
    obtain ⟨m, hm⟩ := named LM.length
    rw [hm.out] at hPN c1 hrow HH HSE hmany
    rw [hS.out] at HB
    have HPN := Lib.hid hPN
    have HMM := Lib.hid hm.out
    have HROW := Lib.hid hrow
    have dB : ∀ o, (w.alloc o).cell? ⟨B, 1, none⟩ = some (.slice aL m c) := fun o => ((HH.out.blk.alloc o).cell 1).trans rfl
    clear h hk hB hS hrow hPN
    go_enter Try.func28, Try.ntmps28
    go_wp2_with (first
      | (go_at_call 46; refine HA.out.mono ?_; rintro e w' ⟨rfl, hww⟩; obtain rfl := hww.symm; clear hww)
      | (at_builtin; refine r_append_lg ri_rowed rfl (.tmp 21) (.tmp 24) rfl 0 (.slice aL m c) m LM rfl (HROW.out.alloc _) (some ⟨w.heap.size, 0, none⟩) 1 1 [(⟨k, [], false⟩, none, 0, 0)] rfl (fun e => by cases e) (one_reads _ _ _ _ rfl) (by omega) (Nat.zero_le _) ?_; intro a2 c2 w2 r1 r2 r3; obtain ⟨bL, rfl⟩ := r1.at0 (Nat.succ_pos _); have HO2 := Lib.hid r1; have HG2 := Lib.hid (grown_alloc r2); have HV2 := Lib.hid r3; have hB2 := HH.out.blk.kept (grown_alloc r2) (fun e => HH.out.lB e.symm); have k2 := hB2.free 1; have k3 := hB2.cell 1; clear r1 r2 r3 hB2))
    have hPU := HH.out.push HG2.out HMM.out HO2.out (HV2.out.imp id fun e q hq => by rw [hq] at e; cases e; simp) HNO.out (by omega)
    obtain ⟨W1, hW1⟩ := named (w2.setCell ⟨B, 1, none⟩ (.slice (some ⟨bL, 0, none⟩) (m + 1) c2))
    rw [hW1.out] at hPU ⊢
    obtain ⟨x1, hx1⟩ := named ((⟨k, [], false⟩, none, 0, 0) : RI)
    rw [hx1.out] at hPU
    obtain ⟨L1, hL1⟩ := named (LM ++ [x1])
    rw [hL1.out] at hPU
    have HI1 : Hid (L1[m]? = some x1) := by rw [Hid, ← hL1.out, ← HMM.out, List.getElem?_append_right (Nat.le_refl _), Nat.sub_self]; rfl
    have HK1 : Hid (x1.1.key = k) := by rw [Hid, ← hx1.out]
    have hd1 : x1.1.dirty = false := by rw [← hx1.out]
    obtain ⟨D0, hD0⟩ := named (⟨D.room, D.items ++ [⟨k, [], false⟩], D.rels⟩ : RC)
    rw [hD0.out] at hPU
    have HRM : Hid (D0.room = D.room) := by rw [Hid, ← hD0.out]
    have HRL : Hid (D0.rels = D.rels) := by rw [Hid, ← hD0.out]
    have HPUT : Hid (useR (D0.items.set m ⟨k, bs, x1.1.dirty || d⟩) k = putR D.items k bs d) := by rw [Hid, ← hD0.out, hd1]; exact HPN.out
    obtain ⟨m1, hm1⟩ := named (m + 1)
    have HM1 : Hid (L1.length = m1) := by rw [Hid, ← hL1.out, List.length_append, HMM.out]; exact hm1.out
    have hlt0 : m < m1 := by rw [← hm1.out]; exact Nat.lt_succ_self _
    have hcap : m1 ≤ c2 := by rw [← hm1.out]; exact (HO2.out.reads ri_rowed).2.2
    rw [hm1.out] at hPU
    have HR1 := Lib.hid hPU.1
    have HA1 : Hid (Away S w (rcS B (.slice (some ⟨bL, 0, none⟩) m1 c2) vR L1) W1) := by rw [← HSE.out]; exact hPU.2
    have HBY := Lib.hid (HB.out.away HA1.out)
    have him : m ≤ 1100 := by omega
    clear hPU hW1 hx1 hL1 hD0
    have hm1' := hm1.out
    try rw [hm1.out]
    have c1 : W1.drew.cell? ⟨B, 1, none⟩ = some (.slice (some ⟨bL, 0, none⟩) m1 c2) := (HR1.out.later (Below.refl _ _).drew).c1
    have dA : ∀ o, (W1.drew.alloc o).cell? ⟨B, 1, none⟩ = some (.slice (some ⟨bL, 0, none⟩) m1 c2) := fun o => (((HR1.out.later (Below.refl _ _).drew).blk.alloc o).cell 1).trans rfl
    obtain ⟨M, hM⟩ := named W1.heap.size
    have hMM := hM.out
    have hMA : ∀ o, M ≤ (W1.drew.alloc o).heap.size := fun o => by rw [World.size_alloc, ← hMM]; exact Nat.le_succ _
    go_wp2_with fail
    refine wp_region_held_drew (S := fun w' => w'.cell? ⟨B, 1, none⟩ = some (.slice (some ⟨bL, 0, none⟩) m1 c2)) (by kernel_rfl) (by first | exact c1 | exact dA _ | exact k5 | exact e5) (fun hHeld => ?_)
    refine wpAnyH_take (i := 0) (oi := _) (v := ?vz42) rfl (by kernel_rfl) (by kernel_rfl) (by kernel_rfl) (fun _ _ _ h => h) (Or.inl ⟨by rfl, ?hyz42⟩) (by assumption) ?restz42
    case hyz42 => (intro wz hSw; (try dsimp only at hSw); go_simp; try with_reducible rfl)
    (try simp only [List.getElem_toArray, List.getElem_cons_zero, Act.put, List.setIfInBounds_toArray, List.set_cons_zero, List.set_cons_succ])
    refine wpAnyH_take (i := 1) (oi := _) (v := ?vz43) rfl (by kernel_rfl) (by kernel_rfl) (by kernel_rfl) (fun _ _ _ h => h) (Or.inl ⟨by rfl, ?hyz43⟩) (by assumption) ?restz43
    case hyz43 => (intro wz hSw; (try dsimp only at hSw); go_simp; try with_reducible rfl)
    (try simp only [List.getElem_toArray, List.getElem_cons_zero, List.getElem_cons_succ, Act.put, List.setIfInBounds_toArray, List.set_cons_zero, List.set_cons_succ])
    refine wpAnyH_take (i := 2) (oi := _) (v := ?vz44) rfl (by kernel_rfl) (by kernel_rfl) (by kernel_rfl) (fun _ _ _ h => h) (Or.inl ⟨by rfl, ?hyz44⟩) (by assumption) ?restz44
    case hyz44 => (intro wz hSw; (try dsimp only at hSw); go_simp; try with_reducible rfl)
    (try simp only [List.getElem_toArray, List.getElem_cons_zero, List.getElem_cons_succ, Act.put, List.setIfInBounds_toArray, List.set_cons_zero, List.set_cons_succ])
    refine wpAnyH_take (i := 3) (oi := _) (v := ?vz45) rfl (by kernel_rfl) (by kernel_rfl) (by kernel_rfl) (fun _ _ _ h => h) (Or.inl ⟨by rfl, ?hyz45⟩) (by assumption) ?restz45
    case hyz45 => (intro wz hSw; (try dsimp only at hSw); go_simp; try with_reducible rfl)
    (try simp only [List.getElem_toArray, List.getElem_cons_zero, List.getElem_cons_succ, Act.put, List.setIfInBounds_toArray, List.set_cons_zero, List.set_cons_succ])
    refine wpAnyH_take (i := 4) (oi := _) (v := ?vz46) rfl (by kernel_rfl) (by kernel_rfl) (by kernel_rfl) (fun _ _ _ h => h) (Or.inl ⟨by rfl, ?hyz46⟩) (by assumption) ?restz46
    case hyz46 => (intro wz hSw; (try dsimp only at hSw); go_simp; try with_reducible rfl)
    (try simp only [List.getElem_toArray, List.getElem_cons_zero, List.getElem_cons_succ, Act.put, List.setIfInBounds_toArray, List.set_cons_zero, List.set_cons_succ])
    refine wpAnyH_take (i := 6) (oi := _) (v := ?vz47) rfl (by kernel_rfl) (by kernel_rfl) (by kernel_rfl) (fun _ _ _ h => h) (Or.inl ⟨by rfl, ?hyz47⟩) (by assumption) ?restz47
    case hyz47 => (intro wz hSw; (try dsimp only at hSw); go_simp; try with_reducible rfl)
    (try simp only [List.getElem_toArray, List.getElem_cons_zero, List.getElem_cons_succ, Act.put, List.setIfInBounds_toArray, List.set_cons_zero, List.set_cons_succ])
    refine wpAnyH_ready (rs := [5]) (by kernel_rfl) (by simp) ?_
    refine AllReadyH.cons (o := _) rfl (fun K hK => ?_) AllReadyH.nil
    rw [if_pos (by rfl)]
    go_simp
    refine hK.out _ _ (by first | exact c1 | exact dA _ | exact k5 | exact e5) (fun hHeld => ?_)
    clear hK K
    (try simp only [List.getElem_toArray, List.getElem_cons_zero, List.getElem_cons_succ, Act.put, List.setIfInBounds_toArray, List.set_cons_zero, List.set_cons_succ])
    refine wpAnyH_ready (rs := [7]) (by kernel_rfl) (by simp) ?_
    refine AllReadyH.cons (o := _) rfl (fun K hK => ?_) AllReadyH.nil
    rw [if_pos (by rfl)]
    refine wp_append_bytes (.tmp 39) (.tmp 40) rfl M (.slice (some ⟨M, 0, none⟩) 0 0) 0 [] (by rw [← hMM]; rfl) (by rw [← hMM]; exact Own.made W1.drew W1.drew.heap.size (Nat.le_refl _)) a nb cb bs rfl HNIL.out (HBY.out.1.later (((Below.refl _ W1).drew).alloc (Nat.le_refl _) _)) (by omega) (hMA _) ?_
    intro a5 c5 w5 r1 r2
    rw [Nat.zero_add, List.nil_append] at r1
    rw [Nat.zero_add]
    have HO5 := Lib.hid r1
    have HB5 : Hid (Below W1.heap.size W1 w5) := Lib.hid ((((Below.refl W1.heap.size W1).drew).alloc (Nat.le_refl _) _).grown r2 (by rw [World.size_alloc]; exact Nat.le_succ _) fun j e => by have : M = j := (by simpa [Value.ownBlock] using e); omega)
    have hr5 := HR1.out.later HB5.out
    have k5 := hr5.c1
    have hrow5 := hr5.row
    rw [HM1.out] at hrow5
    have q5 := (ri_cells hrow5 m x1 HI1.out).2.1
    have f5 := ri_free hrow5 (m * 3 + 1)
    have hR5 := HR1.out.putB HM1.out HI1.out HB5.out (by rw [hMM]; exact HO5.out)
    have e5 := hR5.1.c1
    have HR5 := Lib.hid hR5
    clear r1 r2 hr5 hrow5 hR5
    (try dsimp only)
    refine hK.out _ _ (by first | exact c1 | exact dA _ | exact k5 | exact e5) (fun hHeld => ?_)
    clear hK K
    (try simp only [List.getElem_toArray, List.getElem_cons_zero, List.getElem_cons_succ, Act.put, List.setIfInBounds_toArray, List.set_cons_zero, List.set_cons_succ])
    refine wpAnyH_take (i := 8) (oi := _) (v := ?vz48) rfl (by kernel_rfl) (by kernel_rfl) (by kernel_rfl) (fun _ _ _ h => h) (Or.inl ⟨by rfl, ?hyz48⟩) (by assumption) ?restz48
    case hyz48 => (intro wz hSw; (try dsimp only at hSw); go_simp; try with_reducible rfl)
    (try simp only [List.getElem_toArray, List.getElem_cons_zero, List.getElem_cons_succ, Act.put, List.setIfInBounds_toArray, List.set_cons_zero, List.set_cons_succ])
    refine wpAnyH_take (i := 9) (oi := _) (v := ?vz49) rfl (by kernel_rfl) (by kernel_rfl) (by kernel_rfl) (fun _ _ _ h => h) (Or.inl ⟨by rfl, ?hyz49⟩) (by assumption) ?restz49
    case hyz49 => (intro wz hSw; (try dsimp only at hSw); go_simp; try with_reducible rfl)
    (try simp only [List.getElem_toArray, List.getElem_cons_zero, List.getElem_cons_succ, Act.put, List.setIfInBounds_toArray, List.set_cons_zero, List.set_cons_succ])
    refine wpAnyH_ready (rs := [10]) (by kernel_rfl) (by simp) ?_
    refine AllReadyH.cons (o := _) rfl (fun K hK => ?_) AllReadyH.nil
    rw [if_pos (by rfl)]
    go_simp
    refine hK.out _ _ (by first | exact c1 | exact dA _ | exact k5 | exact e5) (fun hHeld => ?_)
    clear hK K
    (try simp only [List.getElem_toArray, List.getElem_cons_zero, List.getElem_cons_succ, Act.put, List.setIfInBounds_toArray, List.set_cons_zero, List.set_cons_succ])
    refine wpAnyH_done (by kernel_rfl) ?_ _
    obtain ⟨x2, hx2⟩ := named ((⟨x1.1.key, bs, x1.1.dirty⟩, a5, nb, c5) : RI)
    rw [hx2.out] at HR5
    have hk2 : x2.1.key = k := by rw [← hx2.out]; exact HK1.out
    have hd2 : x2.1.dirty = x1.1.dirty := by rw [← hx2.out]
    have hb2 : x2.1.bs = bs := by rw [← hx2.out]
    obtain ⟨W2, hW2⟩ := named (w5.setCell ⟨bL, m * 3 + 1, none⟩ (.slice a5 nb c5))
    rw [hW2.out] at HR5 ⊢
    have hi2 : (L1.set m x2)[m]? = some x2 := List.getElem?_set_self (List.getElem?_eq_some_iff.1 HI1.out).1
    have hm2 : (L1.set m x2).length = m1 := by rw [List.length_set]; exact HM1.out
    have hR2d := HR5.out.1.later (Below.refl _ W2).drew
    have c6 := hR2d.c1
    have hrow6 := hR2d.row
    rw [hm2] at hrow6
    have q6 := (ri_cells hrow6 m x2 hi2).2.2
    have f6 := ri_free hrow6 (m * 3 + 2)
    rw [hd2] at q6
    have hR6 := HR5.out.1.putD hm2 hi2 (Below.refl _ W2).drew (x1.1.dirty || d)
    have e6 := hR6.1.c1
    have HR6 := Lib.hid hR6
    have HKB := Lib.hid (And.intro hk2 hb2)
    have HI6 : Hid (((L1.set m x2).set m (⟨x2.1.key, x2.1.bs, x1.1.dirty || d⟩, x2.2))[m]? = some (⟨x2.1.key, x2.1.bs, x1.1.dirty || d⟩, x2.2)) := List.getElem?_set_self (by rw [hm2, ← HM1.out]; exact (List.getElem?_eq_some_iff.1 HI1.out).1)
    clear hR2d hrow6 hR6 hi2 hm2 hk2 hb2 c1 dA k5 q5 f5 e5
    rw [hd1] at q6 e6 HR6 HI6
    have e6' : (W2.drew.setCell ⟨bL, m * 3 + 2, none⟩ (.bool d)).cell? ⟨B, 1, none⟩ = some (.slice (some ⟨bL, 0, none⟩) m1 c2) := e6
    go_wp2_with fail
    refine wp_region_held_drew (S := fun w' => w'.cell? ⟨B, 1, none⟩ = some (.slice (some ⟨bL, 0, none⟩) m1 c2)) (by kernel_rfl) (by first | exact c6 | exact e6') (fun hHeld => ?_)
    refine wpAnyH_take (i := 0) (oi := _) (v := ?vz50) rfl (by kernel_rfl) (by kernel_rfl) (by kernel_rfl) (fun _ _ _ h => h) (Or.inl ⟨by rfl, ?hyz50⟩) (by assumption) ?restz50
    case hyz50 => (intro wz hSw; (try dsimp only at hSw); go_simp; try with_reducible rfl)
    (try simp only [List.getElem_toArray, List.getElem_cons_zero, Act.put, List.setIfInBounds_toArray, List.set_cons_zero, List.set_cons_succ])
    refine wpAnyH_take (i := 1) (oi := _) (v := ?vz51) rfl (by kernel_rfl) (by kernel_rfl) (by kernel_rfl) (fun _ _ _ h => h) (Or.inl ⟨by rfl, ?hyz51⟩) (by assumption) ?restz51
    case hyz51 => (intro wz hSw; (try dsimp only at hSw); go_simp; try with_reducible rfl)
    (try simp only [List.getElem_toArray, List.getElem_cons_zero, List.getElem_cons_succ, Act.put, List.setIfInBounds_toArray, List.set_cons_zero, List.set_cons_succ])
    refine wpAnyH_take (i := 2) (oi := _) (v := ?vz52) rfl (by kernel_rfl) (by kernel_rfl) (by kernel_rfl) (fun _ _ _ h => h) (Or.inl ⟨by rfl, ?hyz52⟩) (by assumption) ?restz52
    case hyz52 => (intro wz hSw; (try dsimp only at hSw); go_simp; try with_reducible rfl)
    (try simp only [List.getElem_toArray, List.getElem_cons_zero, List.getElem_cons_succ, Act.put, List.setIfInBounds_toArray, List.set_cons_zero, List.set_cons_succ])
    refine wpAnyH_take (i := 3) (oi := _) (v := ?vz53) rfl (by kernel_rfl) (by kernel_rfl) (by kernel_rfl) (fun _ _ _ h => h) (Or.inl ⟨by rfl, ?hyz53⟩) (by assumption) ?restz53
    case hyz53 => (intro wz hSw; (try dsimp only at hSw); go_simp; try with_reducible rfl)
    (try simp only [List.getElem_toArray, List.getElem_cons_zero, List.getElem_cons_succ, Act.put, List.setIfInBounds_toArray, List.set_cons_zero, List.set_cons_succ])
    refine wpAnyH_take (i := 4) (oi := _) (v := ?vz54) rfl (by kernel_rfl) (by kernel_rfl) (by kernel_rfl) (fun _ _ _ h => h) (Or.inl ⟨by rfl, ?hyz54⟩) (by assumption) ?restz54
    case hyz54 => (intro wz hSw; (try dsimp only at hSw); go_simp; try with_reducible rfl)
    (try simp only [List.getElem_toArray, List.getElem_cons_zero, List.getElem_cons_succ, Act.put, List.setIfInBounds_toArray, List.set_cons_zero, List.set_cons_succ])
    refine wpAnyH_take (i := 5) (oi := _) (v := ?vz55) rfl (by kernel_rfl) (by kernel_rfl) (by kernel_rfl) (fun _ _ _ h => h) (Or.inl ⟨by rfl, ?hyz55⟩) (by assumption) ?restz55
    case hyz55 => (intro wz hSw; (try dsimp only at hSw); go_simp; try with_reducible rfl)
    (try simp only [List.getElem_toArray, List.getElem_cons_zero, List.getElem_cons_succ, Act.put, List.setIfInBounds_toArray, List.set_cons_zero, List.set_cons_succ])
    refine wpAnyH_take (i := 6) (oi := _) (v := ?vz56) rfl (by kernel_rfl) (by kernel_rfl) (by kernel_rfl) (fun _ _ _ h => h) (Or.inl ⟨by rfl, ?hyz56⟩) (by assumption) ?restz56
    case hyz56 => (intro wz hSw; (try dsimp only at hSw); go_simp; try with_reducible rfl)
    (try simp only [List.getElem_toArray, List.getElem_cons_zero, List.getElem_cons_succ, Act.put, List.setIfInBounds_toArray, List.set_cons_zero, List.set_cons_succ])
    refine wpAnyH_take (i := 7) (oi := _) (v := ?vz57) rfl (by kernel_rfl) (by kernel_rfl) (by kernel_rfl) (fun _ _ _ h => h) (Or.inl ⟨by rfl, ?hyz57⟩) (by assumption) ?restz57
    case hyz57 => (intro wz hSw; (try dsimp only at hSw); go_simp; try with_reducible rfl)
    (try simp only [List.getElem_toArray, List.getElem_cons_zero, List.getElem_cons_succ, Act.put, List.setIfInBounds_toArray, List.set_cons_zero, List.set_cons_succ])
    refine wpAnyH_take (i := 8) (oi := _) (v := ?vz58) rfl (by kernel_rfl) (by kernel_rfl) (by kernel_rfl) (fun _ _ _ h => h) (Or.inl ⟨by rfl, ?hyz58⟩) (by assumption) ?restz58
    case hyz58 => (intro wz hSw; (try dsimp only at hSw); go_simp; try with_reducible rfl)
    (try simp only [List.getElem_toArray, List.getElem_cons_zero, List.getElem_cons_succ, Act.put, List.setIfInBounds_toArray, List.set_cons_zero, List.set_cons_succ])
    refine wpAnyH_take (i := 9) (oi := _) (v := ?vz59) rfl (by kernel_rfl) (by kernel_rfl) (by kernel_rfl) (fun _ _ _ h => h) (Or.inl ⟨by rfl, ?hyz59⟩) (by assumption) ?restz59
    case hyz59 => (intro wz hSw; (try dsimp only at hSw); go_simp; try with_reducible rfl)
    (try simp only [List.getElem_toArray, List.getElem_cons_zero, List.getElem_cons_succ, Act.put, List.setIfInBounds_toArray, List.set_cons_zero, List.set_cons_succ])
    refine wpAnyH_take (i := 10) (oi := _) (v := ?vz60) rfl (by kernel_rfl) (by kernel_rfl) (by kernel_rfl) (fun _ _ _ h => h) (Or.inl ⟨by rfl, ?hyz60⟩) (by assumption) ?restz60
    case hyz60 => (intro wz hSw; (try dsimp only at hSw); go_simp; try with_reducible rfl)
    (try simp only [List.getElem_toArray, List.getElem_cons_zero, List.getElem_cons_succ, Act.put, List.setIfInBounds_toArray, List.set_cons_zero, List.set_cons_succ])
    refine wpAnyH_take (i := 11) (oi := _) (v := ?vz61) rfl (by kernel_rfl) (by kernel_rfl) (by kernel_rfl) (fun _ _ _ h => h) (Or.inl ⟨by rfl, ?hyz61⟩) (by assumption) ?restz61
    case hyz61 => (intro wz hSw; (try dsimp only at hSw); go_simp; try with_reducible rfl)
    (try simp only [List.getElem_toArray, List.getElem_cons_zero, List.getElem_cons_succ, Act.put, List.setIfInBounds_toArray, List.set_cons_zero, List.set_cons_succ])
    refine wpAnyH_ready (rs := [12]) (by kernel_rfl) (by simp) ?_
    refine AllReadyH.cons (o := _) rfl (fun K hK => ?_) AllReadyH.nil
    rw [if_pos (by rfl)]
    go_simp
    refine hK.out _ _ (by first | exact c6 | exact e6') (fun hHeld => ?_)
    clear hK K
    (try simp only [List.getElem_toArray, List.getElem_cons_zero, List.getElem_cons_succ, Act.put, List.setIfInBounds_toArray, List.set_cons_zero, List.set_cons_succ])
    refine wpAnyH_take (i := 13) (oi := _) (v := ?vz62) rfl (by kernel_rfl) (by kernel_rfl) (by kernel_rfl) (fun _ _ _ h => h) (Or.inl ⟨by rfl, ?hyz62⟩) (by assumption) ?restz62
    case hyz62 => (intro wz hSw; (try dsimp only at hSw); go_simp; try with_reducible rfl)
    (try simp only [List.getElem_toArray, List.getElem_cons_zero, List.getElem_cons_succ, Act.put, List.setIfInBounds_toArray, List.set_cons_zero, List.set_cons_succ])
    refine wpAnyH_take (i := 14) (oi := _) (v := ?vz63) rfl (by kernel_rfl) (by kernel_rfl) (by kernel_rfl) (fun _ _ _ h => h) (Or.inl ⟨by rfl, ?hyz63⟩) (by assumption) ?restz63
    case hyz63 => (intro wz hSw; (try dsimp only at hSw); go_simp; try with_reducible rfl)
    (try simp only [List.getElem_toArray, List.getElem_cons_zero, List.getElem_cons_succ, Act.put, List.setIfInBounds_toArray, List.set_cons_zero, List.set_cons_succ])
    refine wpAnyH_take (i := 15) (oi := _) (v := ?vz64) rfl (by kernel_rfl) (by kernel_rfl) (by kernel_rfl) (fun _ _ _ h => h) (Or.inl ⟨by rfl, ?hyz64⟩) (by assumption) ?restz64
    case hyz64 => (intro wz hSw; (try dsimp only at hSw); go_simp; try with_reducible rfl)
    (try simp only [List.getElem_toArray, List.getElem_cons_zero, List.getElem_cons_succ, Act.put, List.setIfInBounds_toArray, List.set_cons_zero, List.set_cons_succ])
    refine wpAnyH_take (i := 16) (oi := _) (v := ?vz65) rfl (by kernel_rfl) (by kernel_rfl) (by kernel_rfl) (fun _ _ _ h => h) (Or.inl ⟨by rfl, ?hyz65⟩) (by assumption) ?restz65
    case hyz65 => (intro wz hSw; (try dsimp only at hSw); go_simp; try with_reducible rfl)
    (try simp only [List.getElem_toArray, List.getElem_cons_zero, List.getElem_cons_succ, Act.put, List.setIfInBounds_toArray, List.set_cons_zero, List.set_cons_succ])
    refine wpAnyH_take (i := 17) (oi := _) (v := ?vz66) rfl (by kernel_rfl) (by kernel_rfl) (by kernel_rfl) (fun _ _ _ h => h) (Or.inl ⟨by rfl, ?hyz66⟩) (by assumption) ?restz66
    case hyz66 => (intro wz hSw; (try dsimp only at hSw); go_simp; try with_reducible rfl)
    (try simp only [List.getElem_toArray, List.getElem_cons_zero, List.getElem_cons_succ, Act.put, List.setIfInBounds_toArray, List.set_cons_zero, List.set_cons_succ])
    refine wpAnyH_ready (rs := [18]) (by kernel_rfl) (by simp) ?_
    refine AllReadyH.cons (o := _) rfl (fun K hK => ?_) AllReadyH.nil
    rw [if_pos (by rfl)]
    go_simp
    refine hK.out _ _ (by first | exact c6 | exact e6') (fun hHeld => ?_)
    clear hK K
    (try simp only [List.getElem_toArray, List.getElem_cons_zero, List.getElem_cons_succ, Act.put, List.setIfInBounds_toArray, List.set_cons_zero, List.set_cons_succ])
    refine wpAnyH_done (by kernel_rfl) ?_ _
    obtain ⟨W3, hW3⟩ := named ((W2.setCell ⟨bL, m * 3 + 2, none⟩ (.bool d)).drew)
    have hW3b : W2.drew.setCell ⟨bL, m * 3 + 2, none⟩ (.bool d) = W3 := hW3.out
    have hR3 := HR6.out
    rw [show (false || d) = d from rfl] at hR3 HI6
    rw [hW3b] at hR3
    rw [hW3.out]
    have hA3 := hR3.2
    rw [HKB.out.1, HKB.out.2] at hA3
    have hU := rUse_any hR3.1 HI6.out
    dsimp only at hU
    rw [HKB.out.1, HKB.out.2] at hU
    rw [set_set_eq, show useR (D0.items.set m ⟨k, bs, d⟩) k = putR D.items k bs d from by have hp := HPUT.out; rw [hd1] at hp; exact hp, HRM.out, HRL.out] at hU
    have HU3 : Hid (∀ (e : Ending) (w' : World), (e = .returned (.tuple #[]) ∧ Turn B ⟨D.room, putR D.items k bs d, D.rels⟩ (rcS B (.slice (some ⟨bL, 0, none⟩) m1 c2) vR ((L1.set m x2).set m (⟨k, bs, d⟩, x2.2))) W3 w') → e = .returned (.tuple #[]) ∧ Turn B D1 S w w') := fun e w' g => ⟨g.1, by rw [← hD1.out]; exact Turn.trans (((HA1.out).trans HR5.out.2).trans hA3) g.2⟩
    have HUU := Lib.hid hU
    clear hU hR3 hA3 q6 f6 e6 c6 hW3 hW3b
    go_wp2_with (go_at_call 47; refine HUU.out.mono ?_; intro e w4 g0; obtain ⟨rfl, g1⟩ := HU3.out _ _ g0; have HT4 := Lib.hid g1; clear g0 g1)
    clear HUU HU3
    go_loopw [10] (fun s10 wr => ∃ (mo : Nat) (ao : Option Addr) (co : Nat) (out : List Int) (E : RC), s10 = .slice ao mo co ∧ Hid (Turn B E S w wr) ∧ Hid (OwnG ivV 3 1 wr N (.slice ao mo co) mo out) ∧ Hid (((out, E) = (([], D1) : List Int × RC)) ∨ (D.room < D1.items.length ∧ (out, E) = evR n D1))) (fun _ wr => match wr.cell? ⟨B, 1, none⟩ with | some (.slice _ q _) => q | _ => 0)
    case atStart => exact ⟨0, none, 0, [], D1, rfl, HT4.out, OwnG.none _ _ _ _ _, Or.inl rfl⟩
    case round =>
      obtain ⟨mo, ao, co, out, E, rfl, HT, HO, HPH⟩ := hrel
      obtain ⟨vL7, vR7, LM7, q7, a7⟩ := HT.out
      obtain ⟨aL7, cL7, rfl, _, _, _⟩ := q7.row.shape ri_rowed
      have hEroom : E.room = D.room := by
        have h1 := HROOM.out.2
        rcases HPH.out with e | ⟨_, e⟩
        · cases e; exact h1
        · have : E = (evR n D1).2 := congrArg Prod.snd e
          rw [this]
          unfold evR
          split
          · exact h1
          · exact h1
      have hlen7 := q7.len
      have hcase : (D.room < LM7.length ∧ out = [] ∧ E = D1) ∨ (¬ D.room < LM7.length ∧ (out, E) = F) := by
        rw [hlen7, ← HFE.out]
        rcases HPH.out with e | ⟨h1, e⟩
        · cases e
          by_cases hg : D.room < D1.items.length
          · exact Or.inl ⟨hg, rfl, rfl⟩
          · exact Or.inr ⟨hg, by rw [if_neg hg]⟩
        · have hE : E = (evR n D1).2 := congrArg Prod.snd e
          have := evR_len (n := n) (D := D1) (by omega)
          rw [← hE] at this
          have := HROOM.out.1
          exact Or.inr ⟨by omega, by rw [if_pos h1]; exact e⟩
      have cr0 : wr.cell? ⟨B, 0, none⟩ = some (.int .i64 D.room) := by rw [← hEroom]; exact q7.c0
      have cr1 := q7.c1
      have HQ7 := Lib.hid q7
      have HA7 := Lib.hid a7
      clear q7 a7 hEroom
      have HCASE := Lib.hid hcase
      by_cases hgt : D.room < LM7.length
      · obtain ⟨ho0, hE⟩ : out = [] ∧ E = D1 := by
          rcases HCASE.out with ⟨_, h1, h2⟩ | ⟨h1, _⟩
          · exact ⟨h1, h2⟩
          · exact absurd hgt h1
        rw [hE] at HQ7
        rw [ho0] at HO
        have HEQ : Hid (out = [] ∧ E = D1) := ⟨ho0, hE⟩
        clear ho0 hE hcase HCASE HPH HT
        obtain ⟨y7, hy7⟩ : ∃ y, LM7[0]? = some y := ⟨_, List.getElem?_eq_getElem (by omega)⟩
        have hev : evR n D1 = (if isDR D1 y7.1.key then lineR D1.rels n [] y7.1.key else [], ⟨D1.room, (cleanR (if isDR D1 y7.1.key then (lineR D1.rels n [] y7.1.key).foldl cleanR D1 else D1) y7.1.key).items.tail, (cleanR (if isDR D1 y7.1.key then (lineR D1.rels n [] y7.1.key).foldl cleanR D1 else D1) y7.1.key).rels⟩) := by
          have h1 : D1.items[0]? = some y7.1 := by rw [← HQ7.out.its, List.getElem?_map, hy7]; rfl
          unfold evR
          cases hd : D1.items with
          | nil => rw [hd] at h1; cases h1
          | cons z r =>
            rw [hd] at h1
            cases h1
            rfl
        have hgt7 : (D.room : Int) < (LM7.length : Int) := by omega
        have h07 : 0 < LM7.length := by omega
        have hgi7 : (0 : Int) < (LM7.length : Int) := by omega
        go_wp2_with fail
        go_quiet (fail)
        have hbd : Below wr.heap.size wr (wr.drewN nq) := ⟨rfl, rfl, rfl, Nat.le_refl _, fun _ _ => rfl⟩
        obtain ⟨wd, hwd⟩ := named (wr.drewN nq)
        rw [hwd.out] at hbd ⊢
        have HBD := Lib.hid hbd
        have HOD : Hid (OwnG ivV 3 1 wd N (.slice ao mo co) mo []) := HO.out.frame fun j hj => hbd.block j (HO.out.1.lt j hj).2
        have hq7d := HQ7.out.later hbd
        have cd1 := hq7d.c1
        have hrow7 := hq7d.row
        obtain ⟨b7, rfl⟩ := hrow7.at0 (by omega)
        have e7 : wd.cell? ⟨b7, 0, none⟩ = some (.int .i64 y7.1.key) := by simpa using (ri_cells hrow7 0 y7 hy7).1
        obtain ⟨zk, hzk⟩ := named y7.1.key
        rw [hzk.out] at hev e7
        have hW := rWrite_any hq7d HRR.out (n := n) (k := zk) (fun hd => (HEV.out zk hd).1) (fun hd => (HEV.out zk hd).2)
        have hXr : (if isDR D1 zk then (lineR D1.rels n [] zk).foldl cleanR D1 else D1).room = D1.room ∧ (if isDR D1 zk then (lineR D1.rels n [] zk).foldl cleanR D1 else D1).items.map RIt.key = D1.items.map RIt.key := by
          split
          · exact ⟨(cleans_items _ _).2, cleans_keys _ _⟩
          · exact ⟨rfl, rfl⟩
        have hylen : (if isDR D1 zk then lineR D1.rels n [] zk else []).length ≤ 100000 := by
          split
          · rename_i hd
            exact (HEV.out zk hd).2
          · exact Nat.zero_le _
        unfold WriteRQ at hW
        obtain ⟨y, hy⟩ := named (if isDR D1 zk then lineR D1.rels n [] zk else [])
        obtain ⟨X, hX⟩ := named (if isDR D1 zk then (lineR D1.rels n [] zk).foldl cleanR D1 else D1)
        rw [hy.out, hX.out] at hW
        rw [hy.out, hX.out] at hev
        rw [hX.out] at hXr
        rw [hy.out] at hylen
        obtain ⟨ny, hny⟩ := named y.length
        rw [hny.out] at hW hylen
        have HX := Lib.hid hXr
        have HEVR := Lib.hid hev
        have HWR := Lib.hid hW
        have HQD := Lib.hid hq7d
        have HAD : Hid (Away S w (rcS B (.slice (some ⟨b7, 0, none⟩) LM7.length cL7) vR7 LM7) wd) := HA7.out.later' HQ7.out.lt HBD.out
        have hmo : mo = 0 := HO.out.2.1.symm
        subst hmo
        have HND : Hid (N ≤ wd.heap.size) := by rw [Hid, ← HSZ.out]; exact Nat.le_trans HA7.out.size HBD.out.size
        have HL7 : Hid (∀ LM4 : List RI, LM4.map (fun x => x.1) = (cleanR X zk).items → LM4.length = LM7.length) := fun LM4 h4 => by
          have h5 := congrArg (fun l : List RIt => (l.map RIt.key).length) h4
          have h6 := congrArg List.length ((rclean_keys X zk).trans HX.out.2)
          simp only [List.length_map] at h5 h6
          rw [h5, h6, HQ7.out.len]
        clear hy7 hrow7 hq7d hW hXr hev hbd hwd
        go_wp2_with (first
          | (go_at_call 50; (refine HWR.out.mono ?_; rintro e w2 ⟨a2, c2, rfl, g1, g2⟩; have HT2 := Lib.hid (Turn.trans HAD.out g2); have HO2 := Lib.hid (HQD.out.intsT HOD.out g2); have hsz2 : N ≤ w2.heap.size := Nat.le_trans HND.out g2.size; obtain ⟨hrd, hnl2, _⟩ := g1.reads iv_rowed; have HRD := Lib.hid hrd; clear g1 g2 hrd))
          | (at_builtin; (refine r_append_lg iv_rowed rfl (.tmp 82) (.tmp 85) rfl N (.slice ao 0 co) 0 [] rfl HO2.out a2 ny c2 y rfl hnl2 HRD.out (by omega) hsz2 ?_; intro a3 c3 w3 r1 r2 r3; rw [List.nil_append, Nat.zero_add] at r1; have HO3 := Lib.hid r1; have HT3 := Lib.hid (HT2.out.more HO2.out (Nat.le_of_eq HSZ.out) r2); clear r1 r2 r3 HO2))
          | (go_at_call 51; (obtain ⟨vL3, vR3, LM3, q3, p3⟩ := HT3.out; refine (rClean_any q3 zk).mono ?_; rintro e w4 ⟨rfl, g1⟩; have HO4 := Lib.hid (q3.intsT HO3.out g1); obtain ⟨vL4, vR4, LM4, q4, p4⟩ := Turn.trans p3 g1; have hL4 := HL7.out LM4 q4.its; obtain ⟨aL4, cL4, rfl, _, _, hcap4⟩ := q4.row.shape ri_rowed; obtain ⟨b4, rfl⟩ := q4.row.at0 (by omega); have HQ4 := Lib.hid q4; have HP4 := Lib.hid p4; have c41 := q4.c1; have d41 : ∀ o, (w4.alloc o).cell? ⟨B, 1, none⟩ = some (.slice (some ⟨b4, 0, none⟩) LM4.length cL4) := (fun o => ((HQ4.out.blk.alloc o).cell 1).trans rfl); obtain ⟨ab, cb4, hbk, hnb4, hrb⟩ := ri_back (q4.row.reads ri_rowed).1 (p := 1) (by omega) hcap4; obtain ⟨n5, hn5⟩ : ∃ n5, Hid (LM4.length - 1 = n5) := ⟨_, rfl⟩; rw [hn5.out] at hbk hrb; have hbk' : ∀ w' : World, (Instr.slice 65 (.slice (some ⟨b4, 0, none⟩) LM4.length cL4) (some (.int .i64 1)) none none).run Try.prog w' = .ok (.slice ab n5 cb4) w' := hbk; have HRB := Lib.hid hrb; obtain ⟨M4, hM4⟩ := named w4.heap.size; have hMM4 := hM4.out; have hMA4 : ∀ o, M4 ≤ (w4.alloc o).heap.size := (fun o => by rw [World.size_alloc, ← hMM4]; exact Nat.le_succ _); have h5le : n5 ≤ 1100 := (by have h1 := hn5.out; have h2 := q4.many; omega); clear q3 p3 g1 q4 p4 hrb hbk hcap4 hL4))
          | (at_builtin; (refine append_gg ri_rowed rfl (.tmp 91) (.tmp 96) rfl M4 (.slice (some ⟨M4, 0, none⟩) 0 0) 0 [] (by rw [← hMM4]; rfl) (by rw [← hMM4]; exact OwnG.made _ _ _ w4 w4.heap.size (Nat.le_refl _)) ab n5 cb4 (LM4.drop 1) rfl hnb4 (HRB.out.later ((Below.refl _ w4).alloc (Nat.le_refl _) _)) (by omega) (hMA4 _) ?_; intro a5 c5 w5 r1 r2 r3; rw [Nat.zero_add, List.nil_append] at r1; rw [Nat.zero_add]; have HO5 := Lib.hid r1; have HB5 : Hid (Below w4.heap.size w4 w5) := Lib.hid (((Below.refl w4.heap.size w4).alloc (Nat.le_refl _) _).trans (hMM4.symm ▸ r2)); have k51 := (HQ4.out.later HB5.out).c1; have k52 := (HQ4.out.later HB5.out).blk.free 1; clear r1 r2 r3)))
        have hl5 : (LM4.drop 1).length = n5 := by rw [List.length_drop]; exact hn5.out
        have hnd5 : ((LM4.drop 1).map fun x => x.1.key).Nodup := by
          have := HQ4.out.kn
          rw [List.map_drop]
          exact this.sublist (List.drop_sublist _ _)
        obtain ⟨t1, t2⟩ := HQ4.out.storeL (vL' := .slice a5 n5 c5) HB5.out (by rw [hl5, hMM4]; exact HO5.out) (fun x hx => List.mem_of_mem_drop hx) hnd5 (by rw [hl5]; exact h5le)
        have hfin : (⟨(cleanR X zk).room, (LM4.drop 1).map (fun x => x.1), (cleanR X zk).rels⟩ : RC) = (evR n D1).2 := by
          rw [HEVR.out]
          show (⟨X.room, _, _⟩ : RC) = ⟨D1.room, (cleanR X zk).items.tail, _⟩
          rw [HX.out.1, ← HQ4.out.its, List.map_drop, List.drop_one]
        rw [hfin] at t1
        have HT1 := Lib.hid t1
        have HT5 : Hid (Turn B (evR n D1).2 S w (w5.setCell ⟨B, 1, none⟩ (.slice a5 n5 c5))) := ⟨_, _, _, t1, HP4.out.trans t2⟩
        have HO6 := Lib.hid (HQ4.out.ints HO4.out t2)
        clear t1 t2 hfin
        go_roundw
        case rel => exact ⟨ny, a3, c3, y, (evR n D1).2, rfl, HT5.out, HO6.out, Or.inr ⟨by rw [← HQ7.out.len]; exact hgt, by rw [HEVR.out]⟩⟩
        case measure =>
          rw [HT1.out.c1, cr1]
          show n5 < LM7.length
          have h1 := hn5.out
          have h2 := HL7.out LM4 HQ4.out.its
          omega
      · have HF1 : Hid ((out, E) = F) := by
          rcases HCASE.out with ⟨h1, _⟩ | ⟨_, h1⟩
          · exact absurd h1 hgt
          · exact h1
        have hn7 : ¬ ((D.room : Int) < (LM7.length : Int)) := by omega
        clear hcase
        go_wp2_with fail
        go_quiet (fail)
        have hbd : Below wr.heap.size wr (wr.drewN nq) := ⟨rfl, rfl, rfl, Nat.le_refl _, fun _ _ => rfl⟩
        have hod : OwnG ivV 3 1 (wr.drewN nq) N (.slice ao mo co) mo out := HO.out.frame fun j hj => hbd.block j (HO.out.1.lt j hj).2
        have htd := HT.out.later hbd
        obtain ⟨wd, hwd⟩ := named (wr.drewN nq)
        rw [hwd.out] at hod htd ⊢
        clear hbd hwd
        have HOD := Lib.hid hod
        have HTD := Lib.hid htd
        clear hod htd
        go_wp2
        go_ret
        have hl := HO.out.2.1
        rw [← HF1.out]
        dsimp only
        rw [hl]
        exact ⟨ao, co, rfl, HOD.out, HTD.out⟩
end Go.Proofs.Ythmkmhfoicfapaa
