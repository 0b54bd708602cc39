/-
  The sectors of a write, one after the other (package disk). Conditions: the disk in memory, what is written not of the disk's.
-/
import Derived.Test.YtnhaidofblfopaaU5
namespace Go.Proofs.Ytnhaidofblfopaa
open Go.RowKit

theorem list16 : ∀ x : List Int, x.length = 16 → ∃ a b c d e f g h i j k l m n o p, x = [a, b, c, d, e, f, g, h, i, j, k, l, m, n, o, p]
  | [a, b, c, d, e, f, g, h, i, j, k, l, m, n, o, p], _ => ⟨a, b, c, d, e, f, g, h, i, j, k, l, m, n, o, p, rfl⟩
theorem foldC (c i : Nat) (x : Sec) (h : x.length = 16) : Array.foldl (fun (cs : Array Value) (y : Value × Nat) => cs.setIfInBounds (2 + y.snd) y.fst) #[.int .u64 c, .int .i64 i, .int .u8 0, .int .u8 0, .int .u8 0, .int .u8 0, .int .u8 0, .int .u8 0, .int .u8 0, .int .u8 0, .int .u8 0, .int .u8 0, .int .u8 0, .int .u8 0, .int .u8 0, .int .u8 0, .int .u8 0, .int .u8 0] (x.map (Value.int .u8)).toArray.zipIdx 0 16 = (recV (c, i, x)).toArray := by
  obtain ⟨a, b, c', d, e, f, g, h', i', j, k, l, m, n, o, p, rfl⟩ := list16 x h
  kernel_rfl
theorem sixteen : (Try.prog.info? 75).map (·.size) = some 16 := by kernel_rfl
/-- What a sector write leads from and to. -/
structure Going (w0 : World) (B room : Nat) (vF : Value) (L1 L2 : List FR) (f : FR) (D0 : Dsk) (X : List Sec) (i fails cnt : Nat) (j : Nat) (g : FR) (D : Dsk) (w : World) : Prop where
  disk : DiskIn w B room vF (L1 ++ g :: L2) (cnt + j) fails false
  rel : Rel D room (L1 ++ g :: L2) (cnt + j) fails false
  name : g.name = f.name
  gg : g.G = f.G
  away : Away (ownS B vF (L1 ++ f :: L2)) w0 (ownS B vF (L1 ++ g :: L2)) w
  go : Dsk.go f.name X i D0 = Dsk.go f.name (X.drop j) (i + j) D
theorem out_row {S : Nat → Prop} {w : World} {b o n : Nat} {l : List Int} (h : Out S w (some ⟨b, o, none⟩) n l) (hn : 16 ≤ n) : w.rangeAt b o ((l.take 16).map (Value.int .u8)).toArray.toList := fun k v hv => by
  have hl : l.length = n := h.1.1
  have hk : k < 16 := by
    rcases Nat.lt_or_ge k 16 with h' | h'
    · exact h'
    · rw [List.getElem?_eq_none (by simp; omega)] at hv
      cases hv
  have := h.1.cellAt k (by omega)
  rw [this]
  simp only [List.getElem?_map, List.getElem?_take, if_pos hk, List.getElem?_eq_getElem (show k < l.length by omega), Option.map_some] at hv
  rw [List.getD_eq_getElem?_getD, List.getElem?_eq_getElem (by omega)]
  exact hv
theorem out_next {S : Nat → Prop} {w : World} {b o n : Nat} {l : List Int} (h : Out S w (some ⟨b, o, none⟩) n l) (hn : 16 ≤ n) (c : Nat) (hc : n ≤ c) : Out S w (if c = 16 then some ⟨b, o, none⟩ else some ⟨b, o + 16, none⟩) (n - 16) (l.drop 16) := by
  obtain ⟨⟨h1, h2, h3⟩, h4⟩ := h
  obtain ⟨b', o', e, hlt, hl⟩ := h3.resolve_left (by omega)
  cases e
  refine ⟨⟨by rw [List.length_drop]; omega, ⟨by rw [List.length_drop]; have := h2.1; omega, fun y hy => h2.2 y (List.mem_of_mem_drop hy)⟩, ?_⟩, fun h0 y hy => ?_⟩
  · by_cases h0 : n - 16 = 0
    · exact Or.inl h0
    · refine Or.inr ⟨b, o + 16, by rw [if_neg (by omega)], hlt, fun k hk => ?_⟩
      rw [List.length_drop] at hk
      have := hl (16 + k) (by omega)
      rw [Nat.add_assoc, this, List.getD_eq_getElem?_getD, List.getD_eq_getElem?_getD, List.getElem?_drop]
  · rw [if_neg (by omega)] at hy
    cases hy
    exact h4 (by omega) ⟨b, o, none⟩ rfl
theorem sec_ok {l : List Int} (h : Small l) (h16 : 16 ≤ l.length) : SecOk (l.take 16) := ⟨by rw [List.length_take]; omega, fun c hc => h.2 c (List.mem_of_mem_take hc)⟩

theorem DiskIn.rowB {w : World} {B room cnt fails : Nat} {vF : Value} {L : List FR} {dead : Bool} (h : DiskIn w B room vF L cnt fails dead) : vF.ownBlock ≠ some B := fun e => h.blk.not_row (by decide) h.row e.symm
/-- A number of the disk's block turned. -/
theorem DiskIn.reblk {w : World} {B room cnt fails : Nat} {vF : Value} {L : List FR} {dead : Bool} (h : DiskIn w B room vF L cnt fails dead) (i : Nat) (v : Value) (cnt' fails' : Nat) (dead' : Bool)
    (he : (#[.int .i64 room, vF, .int .u64 cnt, .int .u64 fails, .bool dead] : Array Value).setIfInBounds i v = #[.int .i64 room, vF, .int .u64 cnt', .int .u64 fails', .bool dead']) : DiskIn (w.setCell ⟨B, i, none⟩ v) B room vF L cnt' fails' dead' :=
  ⟨by have := h.blk.set i v; rwa [he] at this, h.row.frame fun k hk => Below.heap_setCell w ⟨B, i, none⟩ v k (fun e => h.rowB (hk.trans (congrArg some e))), fun f hf => (h.file f hf).frame fun k hk => Below.heap_setCell w ⟨B, i, none⟩ v k (fun e => (h.out f hf).1 (show f.S B from (show k = B from e) ▸ hk)), h.apart, h.out⟩
theorem ownS_B (B : Nat) (vF : Value) (L : List FR) : ownS B vF L B := Or.inl rfl
theorem drew_disk {w : World} {B room cnt fails : Nat} {vF : Value} {L : List FR} {dead : Bool} (h : DiskIn w B room vF L cnt fails dead) : DiskIn w.drew B room vF L cnt fails dead := h.frame fun _ _ => rfl
theorem away_drew (S : Nat → Prop) (w : World) : Away S w S w.drew := Away.of_below S (Below.refl _ _).drew

theorem disk_away {w w' : World} {B room cnt fails : Nat} {vF : Value} {L1 L2 : List FR} {f f' : FR} {dead : Bool} (_ : DiskIn w B room vF (L1 ++ f :: L2) cnt fails dead) (ha : Away f.S w f'.S w') : Away (ownS B vF (L1 ++ f :: L2)) w (ownS B vF (L1 ++ f' :: L2)) w' :=
  ⟨ha.os, ha.tape, ha.output, ha.size, fun k hk hS => ha.block k hk fun hf' => hS (Or.inr (Or.inr ⟨f, by simp, hf'⟩)), fun k hk => by
    rcases hk with rfl | h1 | ⟨g, hg, h1⟩
    · exact Or.inl (Or.inl rfl)
    · exact Or.inl (Or.inr (Or.inl h1))
    · rcases mem_mid.1 hg with rfl | hg
      · rcases ha.mine k h1 with h3 | h3
        · exact Or.inl (Or.inr (Or.inr ⟨f, by simp, h3⟩))
        · exact Or.inr h3
      · exact Or.inl (Or.inr (Or.inr ⟨g, mem_mid.2 (Or.inr hg), h1⟩))⟩
theorem rise_len : ∀ (l : List Nat) (c : Nat), l.Pairwise (fun a b => a < b) → (∀ y ∈ l, y ≤ c) → l.length ≤ c + 1
  | [], _, _, _ => Nat.zero_le _
  | a :: r, c, h, hc => by
    obtain ⟨h1, h2⟩ := List.pairwise_cons.1 h
    have ha := hc a (by simp)
    cases r with
    | nil => simp
    | cons b t =>
      have hab := h1 b (by simp)
      have ih := rise_len ((b :: t).map (· - 1)) (c - 1) (by
        rw [List.pairwise_map]
        exact h2.imp_of_mem fun {x y} hx hy hxy => by
          have := h1 x hx
          omega) (fun y hy => by
        obtain ⟨z, hz, rfl⟩ := List.mem_map.1 hy
        have := hc z (List.mem_cons_of_mem _ hz)
        omega)
      rw [List.length_map] at ih
      have := hc b (by simp)
      rw [List.length_cons]
      omega
termination_by l => l.length
theorem run_load16 {W : World} {b o : Nat} {XS : Array Value} (h : W.rangeAt b o XS.toList) (hs : XS.size = 16) : (loadVar 75 ⟨b, o, none⟩).run Try.prog W = .ok (.agg XS) W := by
  have h1 := run_loadVar_mid (P := Try.prog) W b o 75 XS.toList _ h Try.underlying75 rfl (by rw [sixteen, Array.length_toList, hs])
  simpa using h1
set_option maxHeartbeats 1000000 in
set_option maxRecDepth 100000 in
/-- writeSectors. -/
theorem writeSectors_any {w : World} {B room cnt fails : Nat} {vF : Value} {L1 L2 : List FR} {f : FR} {D0 : Dsk} (hd : DiskIn w B room vF (L1 ++ f :: L2) cnt fails false) (hr : Rel D0 room (L1 ++ f :: L2) cnt fails false)
    (a : Option Addr) (len cap : Nat) (l : List Int) (X : List Sec) (m i : Nat) (hB : Out (ownS B vF (L1 ++ f :: L2)) w a len l) (hcap : len ≤ cap) (hlen : len = 16 * m) (hX : ∀ j, j < m → X[j]? = some ((l.drop (16 * j)).take 16)) (hXl : X.length = m) (hm : m ≤ 10000) (hi0 : m = 0 ∨ i + m ≤ 65536) (hc : cnt + m ≤ 1100000) :
    Calls Try.prog 32 #[.pointer (some ⟨B, 0, none⟩), .pointer (some ⟨f.G, 0, none⟩), .int .i64 i, .slice a len cap] w fun e w' =>
      ∃ L' cnt' dead', e = .returned (.int .i64 (Dsk.go f.name X i D0).1) ∧ DiskIn w' B room vF L' cnt' fails dead' ∧ Rel (Dsk.go f.name X i D0).2 room L' cnt' fails dead' ∧ Away (ownS B vF (L1 ++ f :: L2)) w (ownS B vF L') w' := by
  have H0 := Lib.hid hd
  have HR0 := Lib.hid hr
  have HB0 := Lib.hid hB
  have HX := Lib.hid hX
  have HXl := Lib.hid hXl
  obtain ⟨G, hG⟩ := named f.G
  rw [hG.out]
  clear hd hr hB hX hXl
  go_enter Try.func32, Try.ntmps32
  go_wp2_with fail
  go_loopw [2, 3] (fun s2 s3 wr => ∃ (j : Nat) (a' : Option Addr) (c' : Nat) (g : FR) (D : Dsk), j ≤ m ∧ s2 = .int .i64 ((i + j : Nat) : Int) ∧ s3 = .slice a' (16 * (m - j)) c' ∧ 16 * (m - j) ≤ c' ∧
    Hid (Out (ownS B vF (L1 ++ g :: L2)) wr a' (16 * (m - j)) (l.drop (16 * j))) ∧ Hid (Going w B room vF L1 L2 f D0 X i fails cnt j g D wr)) (fun _ s3 _ => (match s3 with | .slice _ n _ => n | _ => 0))
  case atStart => exact ⟨0, a, cap, f, D0, by omega, rfl, by rw [hlen, Nat.sub_zero], by omega, by rw [Nat.sub_zero, ← hlen]; exact HB0.out, ⟨H0.out, HR0.out, rfl, rfl, Away.refl _ _, rfl⟩⟩
  case round =>
    obtain ⟨j, a', c', g, D, hj, rfl, rfl, hcc, HO, HGN⟩ := hrel
    by_cases hlt : j < m
    · have hi : i + m ≤ 65536 := by omega
      obtain ⟨b, o, rfl⟩ := HO.out.1.lies (by omega)
      have c2 : wr.cell? ⟨B, 2, none⟩ = some (.int .u64 ((cnt + j : Nat) : Int)) := HGN.out.disk.c2
      have c3 : wr.cell? ⟨B, 3, none⟩ = some (.int .u64 fails) := HGN.out.disk.c3
      have hwrap : IntKind.u64.wrap (((cnt + j : Nat) : Int) + 1) = ((cnt + j : Nat) : Int) + 1 := by simp [IntKind.wrap, IntKind.bits, IntKind.signed]; omega
      obtain ⟨M, hM⟩ := named (16 * (m - j))
      have hM0 : 0 < M := by have := hM.out; omega
      have hM16 : 16 ≤ M := by have := hM.out; omega
      rw [hM.out] at HO hcc ⊢
      have hXj := HX.out j hlt
      have hgo : ∀ E, Dsk.go f.name (X.drop j) (i + j) D = E → Dsk.go f.name (((l.drop (16 * j)).take 16) :: X.drop (j + 1)) (i + j) D = E := fun E h => by
        rw [← h, List.drop_eq_getElem_cons (show j < X.length by rw [HXl.out]; exact hlt)]
        rw [List.getElem?_eq_getElem (show j < X.length by rw [HXl.out]; exact hlt)] at hXj
        rw [Option.some.inj hXj]
      have HGO := Lib.hid (hgo _ rfl)
      have HGET : Hid (fget D.files f.name = some ⟨g.now, g.dur⟩) := by have := HGN.out.rel.get (f := g) (by simp); rwa [HGN.out.name] at this
      have hfu := HGN.out.rel.fuse rfl
      by_cases hf1 : fails = cnt + j + 1
      · have hdie : D.fuse = 1 := by omega
        have HDIE : Hid (Dsk.go f.name X i D0 = (8, D.dies)) := by rw [Hid, HGN.out.go, ← HGO.out, Dsk.go, if_pos hdie]
        have hfe : ((cnt + j : Nat) : Int) + 1 = (fails : Int) := by omega
        have heq : decide (((cnt + j : Nat) : Int) + 1 = (fails : Int)) = true := decide_eq_true hfe
        have q1 : wr.cell? ⟨B, 4, none⟩ = some (.bool false) := HGN.out.disk.c4
        have q2 : wr.frozen? ⟨B, 4, none⟩ = false := HGN.out.disk.blk.free 4
        clear hgo hfu hXj hdie
        go_wp2_with fail
        go_quiet (first | (go_at_call 34; refine Calls.quiet_of_same (load_any _ B ((cnt + j : Nat) : Int) ?_); exact HGN.out.disk.c2))
        go_wp2
        go_ret
        rw [HDIE.out]
        exact ⟨_, _, true, rfl, (HGN.out.disk.frame (w' := wr.drewN nq) fun _ _ => rfl).reblk 4 (.bool true) (cnt + j) fails true rfl, HGN.out.rel.dies, (HGN.out.away.trans (Away.of_below _ (below_drewN (Below.refl _ _) nq))).trans ((Away.refl _ _).set (ownS_B _ _ _) 4 (.bool true))⟩
      · have hne : ¬ ((cnt + j : Nat) : Int) + 1 = (fails : Int) := by omega
        have heq : decide (((cnt + j : Nat) : Int) + 1 = (fails : Int)) = false := decide_eq_false hne
        have HF1 : Hid (D.fuse ≠ 1) := by show D.fuse ≠ 1; omega
        clear hgo hfu hXj
        go_wp2_with fail
        go_quiet (first | (go_at_call 34; refine Calls.quiet_of_same (load_any _ B ((cnt + j : Nat) : Int) ?_); exact HGN.out.disk.c2))
        go_wp2_with fail
        have HDW : Hid (DiskIn (wr.drewN (nq + 1)) B room vF (L1 ++ g :: L2) (cnt + j) fails false) := Lib.hid (HGN.out.disk.frame fun _ _ => rfl)
        have HBW : Hid (Below wr.heap.size wr (wr.drewN (nq + 1))) := Lib.hid (below_drewN (Below.refl _ wr) (nq + 1))
        obtain ⟨x, hx⟩ := named ((l.drop (16 * j)).take 16)
        have hlj : (l.drop (16 * j)).length = M := HO.out.1.1
        have HSX : Hid (SecOk x) := by rw [← hx.out]; exact Lib.hid (sec_ok HO.out.1.2.1 (by omega))
        obtain ⟨XS, hXS⟩ := named (x.map (Value.int .u8)).toArray
        have HXL : Hid (XS.size = 16) := by rw [← hXS.out, Hid]; simp [HSX.out.1]
        have HXS : Hid ((wr.drewN (nq + 1)).rangeAt b o XS.toList) := by
          rw [← hXS.out, ← hx.out]
          have h1 := out_row HO.out hM16
          exact Lib.hid fun k v hk => (HBW.out.cell (p := ⟨b, o + k, none⟩) (HO.out.2 hM0 _ rfl).1).trans (h1 k v hk)
        have HDB : Hid (Blk (wr.drewN (nq + 1)) B 59 #[.int .i64 room, vF, .int .u64 (cnt + j : Nat), .int .u64 fails, .bool false]) := Lib.hid HDW.out.blk
        have c2 : (wr.drewN (nq + 1)).cell? ⟨B, 2, none⟩ = some (.int .u64 ((cnt + j : Nat) : Int)) := HDW.out.c2
        have f2 : (wr.drewN (nq + 1)).frozen? ⟨B, 2, none⟩ = false := HDW.out.blk.free 2
        have hcb : cnt + j < 1000000000 := by omega
        have hbB : b ≠ B := fun e => (HO.out.2 hM0 _ rfl).2 (Or.inl e)
        have HD2 : Hid (DiskIn ((wr.drewN (nq + 1)).setCell ⟨B, 2, none⟩ (.int .u64 ((cnt + j + 1 : Nat) : Int))) B room vF (L1 ++ g :: L2) (cnt + j + 1) fails false) := Lib.hid (HDW.out.reblk 2 _ (cnt + j + 1) fails false rfl)
        have HDB2 : Hid (Blk ((wr.drewN (nq + 1)).setCell ⟨B, 2, none⟩ (.int .u64 ((cnt + j + 1 : Nat) : Int))) B 59 #[.int .i64 room, vF, .int .u64 (cnt + j + 1 : Nat), .int .u64 fails, .bool false]) := Lib.hid HD2.out.blk
        have HXS2 : Hid (((wr.drewN (nq + 1)).setCell ⟨B, 2, none⟩ (.int .u64 ((cnt + j + 1 : Nat) : Int))).rangeAt b o XS.toList) := Lib.hid fun k v hk => (World.cell?_setCell_other _ _ _ _ (fun e => hbB (congrArg Addr.block e).symm)).trans (HXS.out k v hk)
        have hfoldC := foldC (cnt + j + 1) (i + j) x HSX.out.1
        rw [hXS.out] at hfoldC
        have hXL : XS.size = 16 := HXL.out
        have harr : ∀ w : World, (Instr.arrayAt 75 (.slice (some ⟨b, o, none⟩) M c')).run Try.prog w = .ok (.pointer (some ⟨b, o, none⟩)) w := fun w => by
          have : ¬ (M : Int) < 16 := by omega
          have : ¬ M < 16 := by omega
          simp [Instr.arrayAt, run_underlying Try.underlying75, *]
        have HWRT : Hid (Calls Try.prog 50 #[.pointer (some ⟨G, 0, none⟩), .agg (recV (cnt + j + 1, i + j, x)).toArray] ((wr.drewN (nq + 1)).setCell ⟨B, 2, none⟩ (.int .u64 ((cnt + j + 1 : Nat) : Int))) fun e w' => e = .returned (.tuple #[]) ∧ ∃ S', FileAt w' ⟨g.name, g.G, S', putS g.now (i + j) x, g.dur, g.wr ++ [(cnt + j + 1, i + j, x)]⟩ ∧ Away g.S ((wr.drewN (nq + 1)).setCell ⟨B, 2, none⟩ (.int .u64 ((cnt + j + 1 : Nat) : Int))) S' w') := by
          obtain ⟨_, _, _, hF⟩ := HD2.out.file g (by simp)
          rw [← hG.out, ← HGN.out.gg]
          have hwl : g.wr.length < 2000000 := by
            obtain ⟨Mm, h1, h2, h3, h4, _⟩ := HGN.out.rel.pend
            rw [h4 g (by simp), List.length_map]
            have := rise_len (Mm.map (·.1)) (cnt + j) (List.pairwise_map.2 h2) (fun y hy => by obtain ⟨z, hz, rfl⟩ := List.mem_map.1 hy; exact h3 z hz)
            rw [List.length_map] at this
            have := List.length_filter_le (fun x => decide (x.2.1 = g.name)) Mm
            omega
          exact Lib.hid (fwrite_any hF (cnt + j + 1, i + j, x) (by show i + j < 65536; omega) HSX.out (by show cnt + j + 1 ≤ 2000000; omega) hwl)
        have HAFT : Hid (∀ (w4 : World) (S4 : Nat → Prop), FileAt w4 ⟨g.name, g.G, S4, putS g.now (i + j) x, g.dur, g.wr ++ [(cnt + j + 1, i + j, x)]⟩ → Away g.S ((wr.drewN (nq + 1)).setCell ⟨B, 2, none⟩ (.int .u64 ((cnt + j + 1 : Nat) : Int))) S4 w4 →
            Going w B room vF L1 L2 f D0 X i fails cnt (j + 1) ⟨g.name, g.G, S4, putS g.now (i + j) x, g.dur, g.wr ++ [(cnt + j + 1, i + j, x)]⟩ (D.put g.name ⟨g.now, g.dur⟩ (i + j) x) w4) := Lib.hid fun w4 S4 hF4 hA4 => by
          obtain ⟨q1, q2⟩ := disk_step (f' := ⟨g.name, g.G, S4, putS g.now (i + j) x, g.dur, g.wr ++ [(cnt + j + 1, i + j, x)]⟩) HD2.out hA4 hF4 rfl
          refine ⟨q1, HGN.out.rel.put (i + j) x HF1.out (by omega) rfl rfl rfl rfl, HGN.out.name, HGN.out.gg, ((HGN.out.away.trans (Away.of_below _ HBW.out)).trans ((Away.refl _ _).set (ownS_B _ _ _) 2 _)).trans q2, ?_⟩
          rw [HGN.out.go, ← HGO.out, Dsk.go, if_neg HF1.out, HGET.out, hx.out, HGN.out.name]
          rfl
        have HAW : Hid (∀ (w4 : World) (S4 : Nat → Prop), DiskIn w4 B room vF (L1 ++ ⟨g.name, g.G, S4, putS g.now (i + j) x, g.dur, g.wr ++ [(cnt + j + 1, i + j, x)]⟩ :: L2) (cnt + (j + 1)) fails false → Away g.S ((wr.drewN (nq + 1)).setCell ⟨B, 2, none⟩ (.int .u64 ((cnt + j + 1 : Nat) : Int))) S4 w4 → Away (ownS B vF (L1 ++ g :: L2)) wr (ownS B vF (L1 ++ ⟨g.name, g.G, S4, putS g.now (i + j) x, g.dur, g.wr ++ [(cnt + j + 1, i + j, x)]⟩ :: L2)) w4) := Lib.hid fun w4 S4 hd4 hA4 =>
          (((Away.of_below _ HBW.out)).trans ((Away.refl _ _).set (ownS_B _ _ _) 2 _)).trans (disk_away HD2.out hA4)
        have HX4 : Hid (∀ (w4 : World) (S4 : Nat → Prop), Away g.S ((wr.drewN (nq + 1)).setCell ⟨B, 2, none⟩ (.int .u64 ((cnt + j + 1 : Nat) : Int))) S4 w4 → w4.rangeAt b o XS.toList) := Lib.hid fun w4 S4 hA4 k v hk => by
          have hb1 : b < (wr.drewN (nq + 1)).heap.size := Nat.lt_of_lt_of_le (HO.out.2 hM0 _ rfl).1 HBW.out.size
          have hb2 : ¬ g.S b := fun h => (HO.out.2 hM0 _ rfl).2 (Or.inr (Or.inr ⟨g, by simp, h⟩))
          exact (World.cell?_of_block (hA4.block b (by rw [World.size_setCell]; exact hb1) hb2)).trans (HXS2.out k v hk)
        refine wp_region_held_drew (S := fun w' => w'.rangeAt b o XS.toList ∧ ∃ cs, Blk w' B 59 cs) (by kernel_rfl) (by first | exact ⟨HXS.out, _, HDB.out⟩ | exact ⟨HXS2.out, _, HDB2.out⟩ | exact ⟨HXS3.out, _, HDB3.out⟩) (fun hHeld => ?_)
        refine wpAnyH_take (i := 0) (oi := _) (v := ?vk0) rfl (by kernel_rfl) (by kernel_rfl) (by kernel_rfl) (fun _ _ _ h => h) (Or.inl ⟨by rfl, ?hyk0⟩) (by assumption) ?restk0
        case hyk0 => (intro wz hSw; (try dsimp only at hSw); go_simp; try with_reducible rfl)
        (try simp only [List.getElem_toArray, List.getElem_cons_zero, Act.put, List.setIfInBounds_toArray, List.set_cons_zero, List.set_cons_succ])
        refine wpAnyH_take (i := 1) (oi := _) (v := ?vk1) rfl (by kernel_rfl) (by kernel_rfl) (by kernel_rfl) (fun _ _ _ h => h) (Or.inl ⟨by rfl, ?hyk1⟩) (by assumption) ?restk1
        case hyk1 => (intro wz hSw; (try dsimp only at hSw); go_simp; try with_reducible rfl)
        (try simp only [List.getElem_toArray, List.getElem_cons_zero, List.getElem_cons_succ, Act.put, List.setIfInBounds_toArray, List.set_cons_zero, List.set_cons_succ])
        refine wpAnyH_take (i := 2) (oi := _) (v := ?vk2) rfl (by kernel_rfl) (by kernel_rfl) (by kernel_rfl) (fun _ _ _ h => h) (Or.inl ⟨by rfl, ?hyk2⟩) (by assumption) ?restk2
        case hyk2 => (intro wz hSw; (try dsimp only at hSw); go_simp; try with_reducible rfl)
        (try simp only [List.getElem_toArray, List.getElem_cons_zero, List.getElem_cons_succ, Act.put, List.setIfInBounds_toArray, List.set_cons_zero, List.set_cons_succ])
        refine wpAnyH_take (i := 3) (oi := _) (v := ?vk3) rfl (by kernel_rfl) (by kernel_rfl) (by kernel_rfl) (fun _ _ _ h => h) (Or.inl ⟨by rfl, ?hyk3⟩) (by assumption) ?restk3
        case hyk3 => (intro wz hSw; (try dsimp only at hSw); go_simp; try with_reducible rfl)
        (try simp only [List.getElem_toArray, List.getElem_cons_zero, List.getElem_cons_succ, Act.put, List.setIfInBounds_toArray, List.set_cons_zero, List.set_cons_succ])
        refine wpAnyH_take (i := 5) (oi := _) (v := ?vk5) rfl (by kernel_rfl) (by kernel_rfl) (by kernel_rfl) (fun _ _ _ h => h) (Or.inl ⟨by rfl, ?hyk5⟩) (by assumption) ?restk5
        case hyk5 => (intro wz hSw; (try dsimp only at hSw); go_simp; try with_reducible rfl)
        (try simp only [List.getElem_toArray, List.getElem_cons_zero, List.getElem_cons_succ, Act.put, List.setIfInBounds_toArray, List.set_cons_zero, List.set_cons_succ])
        refine wpAnyH_take (i := 6) (oi := _) (v := ?vk6) rfl (by kernel_rfl) (by kernel_rfl) (by kernel_rfl) (fun _ _ _ h => h) (Or.inl ⟨by rfl, ?hyk6⟩) (by assumption) ?restk6
        case hyk6 => (intro wz hSw; (try dsimp only at hSw); go_simp; try with_reducible rfl)
        (try simp only [List.getElem_toArray, List.getElem_cons_zero, List.getElem_cons_succ, Act.put, List.setIfInBounds_toArray, List.set_cons_zero, List.set_cons_succ])
        refine wpAnyH_take (i := 7) (oi := _) (v := ?vk7) rfl (by kernel_rfl) (by kernel_rfl) (by kernel_rfl) (fun _ _ _ h => h) (Or.inl ⟨by rfl, ?hyk7⟩) (by assumption) ?restk7
        case hyk7 => (intro wz hSw; (try dsimp only at hSw); go_simp; try with_reducible rfl)
        (try simp only [List.getElem_toArray, List.getElem_cons_zero, List.getElem_cons_succ, Act.put, List.setIfInBounds_toArray, List.set_cons_zero, List.set_cons_succ])
        refine wpAnyH_take (i := 8) (oi := _) (v := .agg XS) rfl (by kernel_rfl) (by kernel_rfl) (by kernel_rfl) (fun _ _ _ h => h) (Or.inl ⟨by rfl, fun wz hSw => exec_load 75 (.tmp 34) rfl rfl (run_load16 hSw.1 HXL.out)⟩) (by assumption) ?_
        (try simp only [List.getElem_toArray, List.getElem_cons_zero, List.getElem_cons_succ, Act.put, List.setIfInBounds_toArray, List.set_cons_zero, List.set_cons_succ])
        refine wpAnyH_ready (rs := [4]) (by kernel_rfl) (by simp) ?_
        refine AllReadyH.cons (o := _) rfl (fun K hK => ?_) AllReadyH.nil
        rw [if_pos (by rfl)]
        go_simp
        (go_at_call 51; refine (add_any _ B (cnt + j) hcb c2 f2).mono ?_; rintro e w2 ⟨rfl, rfl⟩)
        dsimp only
        refine hK.out _ _ (by first | exact ⟨HXS.out, _, HDB.out⟩ | exact ⟨HXS2.out, _, HDB2.out⟩ | exact ⟨HXS3.out, _, HDB3.out⟩) (fun hHeld => ?_)
        clear hK K
        (try simp only [List.getElem_toArray, List.getElem_cons_zero, List.getElem_cons_succ, Act.put, List.setIfInBounds_toArray, List.set_cons_zero, List.set_cons_succ])
        refine wpAnyH_take (i := 9) (oi := _) (v := ?vk9) rfl (by kernel_rfl) (by kernel_rfl) (by kernel_rfl) (fun _ _ _ h => h) (Or.inl ⟨by rfl, ?hyk9⟩) (by assumption) ?restk9
        case hyk9 => (intro wz hSw; (try dsimp only at hSw); go_simp; try with_reducible rfl)
        (try simp only [List.getElem_toArray, List.getElem_cons_zero, List.getElem_cons_succ, Act.put, List.setIfInBounds_toArray, List.set_cons_zero, List.set_cons_succ])
        refine wpAnyH_ready (rs := [10]) (by kernel_rfl) (by simp) ?_
        refine AllReadyH.cons (o := _) rfl (fun K hK => ?_) AllReadyH.nil
        rw [if_pos (by rfl)]
        go_simp
        (go_at_call 50; rw [show ((cnt : Int) + (j : Int) + 1) = ((cnt + j + 1 : Nat) : Int) from rfl, show ((i : Int) + (j : Int)) = ((i + j : Nat) : Int) from rfl, hfoldC]; refine (HWRT.out).mono ?_; rintro e w4 ⟨rfl, S4, hF4, hA4⟩; have HGN4 := Lib.hid (HAFT.out w4 S4 hF4 hA4); have HXS3 := Lib.hid (HX4.out w4 S4 hA4); have HDB3 := Lib.hid HGN4.out.disk.blk; have HA4 := Lib.hid hA4; clear hF4 hA4)
        dsimp only
        refine hK.out _ _ (by first | exact ⟨HXS.out, _, HDB.out⟩ | exact ⟨HXS2.out, _, HDB2.out⟩ | exact ⟨HXS3.out, _, HDB3.out⟩) (fun hHeld => ?_)
        clear hK K
        (try simp only [List.getElem_toArray, List.getElem_cons_zero, List.getElem_cons_succ, Act.put, List.setIfInBounds_toArray, List.set_cons_zero, List.set_cons_succ])
        refine wpAnyH_done (by kernel_rfl) ?_ _
        have hM2 : M - 16 = 16 * (m - (j + 1)) := by have := hM.out; omega
        have HON : Hid (Out (ownS B vF (L1 ++ ⟨g.name, g.G, S4, putS g.now (i + j) x, g.dur, g.wr ++ [(cnt + j + 1, i + j, x)]⟩ :: L2)) w4 (if c' = 16 then some ⟨b, o, none⟩ else some ⟨b, o + 16, none⟩) (16 * (m - (j + 1))) (l.drop (16 * (j + 1)))) := by
          have h1 := out_next (HO.out.away (HAW.out w4 S4 HGN4.out.disk HA4.out)) hM16 c' hcc
          rw [List.drop_drop, hM2, show 16 * j + 16 = 16 * (j + 1) by omega] at h1
          exact Lib.hid h1
        clear hfoldC hXL harr
        go_wp2_with fail
        go_roundw
        case rel =>
          refine ⟨j + 1, _, c' - 16, ⟨g.name, g.G, S4, putS g.now (i + j) x, g.dur, g.wr ++ [(cnt + j + 1, i + j, x)]⟩, _, by omega, by go_num, ?_, by omega, HON.out, HGN4.out⟩
          rw [← hM2]
        case measure => show 16 * (m - (j + 1)) < M; omega
    · obtain rfl : j = m := by omega
      have hX0 : X.drop j = [] := List.drop_of_length_le (by rw [HXl.out]; exact Nat.le_refl _)
      have HEND : Hid (Dsk.go f.name X i D0 = (0, D)) := by rw [Hid, HGN.out.go, hX0]; rfl
      rw [Nat.sub_self, Nat.mul_zero]
      go_wp2
      go_ret
      rw [HEND.out]
      exact ⟨_, _, _, rfl, HGN.out.disk, HGN.out.rel, HGN.out.away⟩
end Go.Proofs.Ytnhaidofblfopaa
