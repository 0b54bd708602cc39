/-
  What the project's own disk answers, call by call (package disk): Crash. Conditions: the disk as it lies, what stays not of the disk's.
-/
import Derived.Test.YtnhaidofblfopaaB6
namespace Go.Proofs.Ytnhaidofblfopaa
open Go.RowKit
set_option linter.unusedVariables false

theorem pend_size : (Try.prog.info? 79).map (·.size) = some 19 := by kernel_rfl
theorem pV_all (x : PW) : (pV x).toArray.all (·.oneCell') = true := all_oneCell_toArray fun v hv => pend_rowed.one x v hv
theorem pend_range {w : World} {base b n c : Nat} {l : List PW} (h : OwnG pV 79 19 w base (.slice (some ⟨b, 0, Option.none⟩) n c) n l) (j : Nat) (r : PW) (hj : l[j]? = some r) : w.rangeAt b (j * 19) (pV r) := fun i v hv => by
  have hr := (h.reads pend_rowed).1
  have := hr.cellAt pend_rowed j i r v hj hv
  rwa [Nat.zero_add] at this
theorem ptr_cell2 {w : World} {b n n' c : Nat} {L : List FR} (h : OwnG ptrV 61 1 w 0 (.slice (some ⟨b, 0, Option.none⟩) n c) n' L) (i : Nat) (f : FR) (hi : L[i]? = some f) : w.cell? ⟨b, i, Option.none⟩ = some (.pointer (some ⟨f.G, 0, Option.none⟩)) := by
  have e : n = n' := by
    rcases h.1.2 with ⟨e, _⟩ | ⟨g, cap, cur, e, _⟩
    · cases e
    · cases e
      rfl
  subst e
  exact ptr_cell h i f hi
/-- The picks as they lie in memory. -/
def Picks (w : World) (a : Option Addr) (len : Nat) (l : List Bool) : Prop := l.length = len ∧ len ≤ 1000 ∧ (len = 0 ∨ ∃ b off, a = some ⟨b, off, none⟩ ∧ b < w.heap.size ∧ ∀ i, i < len → w.cell? ⟨b, off + i, none⟩ = some (.bool (l.getD i false)))
/-- Where the fall stands. -/
structure Fall1 (w1 : World) (B room cnt fails : Nat) (vF : Value) (L : List FR) (dead : Bool) (pk : List (Nm × Nat × Sec)) (Lj : List FR) (w : World) : Prop where
  disk : DiskIn w B room vF Lj cnt fails dead
  eq : Lj.map tup = L.map (keptT pk)
  away : Away (ownS B vF L) w1 (ownS B vF Lj) w
theorem Fall1.rise {w1 w : World} {B room cnt fails : Nat} {vF : Value} {L Lj : List FR} {dead : Bool} {pk : List (Nm × Nat × Sec)} (h : Fall1 w1 B room cnt fails vF L dead pk Lj w) (hr : L.Pairwise fun f g => nmLt f.name g.name) : Lj.Pairwise fun f g => nmLt f.name g.name := by
  have hn : Lj.map FR.name = L.map FR.name := tup_names h.eq fun _ => rfl
  have h2 : (L.map FR.name).Pairwise nmLt := List.pairwise_map.2 hr
  rw [← hn] at h2
  exact List.pairwise_map.1 h2
/-- One more is kept. -/
theorem Fall1.keep {w1 w : World} {B room cnt fails : Nat} {vF : Value} {L Lj : List FR} {dead : Bool} {pk : List (Nm × Nat × Sec)} (h : Fall1 w1 B room cnt fails vF L dead pk Lj w) (hr : L.Pairwise fun f g => nmLt f.name g.name) {f : FR} (hf : f ∈ L) (n i : Nat) (x : Sec) (hi : i < 65536) (hx : SecOk x) :
    Calls Try.prog 36 #[.pointer (some ⟨f.G, 0, none⟩), .agg (recV (n, i, x)).toArray] w fun e w' => e = .returned (.tuple #[]) ∧ ∃ Lj', Fall1 w1 B room cnt fails vF L dead (pk ++ [(f.name, i, x)]) Lj' w' := by
  obtain ⟨g, hg, e⟩ : ∃ g ∈ Lj, tup g = keptT pk f := by
    have : keptT pk f ∈ Lj.map tup := h.eq ▸ List.mem_map_of_mem hf
    obtain ⟨g, hg, e⟩ := List.mem_map.1 this
    exact ⟨g, hg, e⟩
  have e1 : g.name = f.name := congrArg (·.1) e
  have e2 : g.G = f.G := congrArg (·.2.1) e
  obtain ⟨A, Bs, rfl⟩ := mid_of hg
  obtain ⟨vn, vd, vw, hF⟩ := h.disk.file g hg
  rw [← e2]
  refine (keep_any hF (n, i, x) hi hx).mono ?_
  rintro e w' ⟨rfl, vd', S', hF', hA⟩
  obtain ⟨q1, q2⟩ := disk_step (f' := ⟨g.name, g.G, S', g.now, putS g.dur i x, g.wr⟩) h.disk hA ⟨vn, vd', vw, hF'⟩ rfl
  refine ⟨rfl, _, q1, ?_, h.away.trans q2⟩
  rw [← e1]
  exact kept_step h.eq (h.rise hr) i x S'
theorem Fall1.later {w1 w w' : World} {B room cnt fails : Nat} {vF : Value} {L Lj : List FR} {dead : Bool} {pk : List (Nm × Nat × Sec)} (h : Fall1 w1 B room cnt fails vF L dead pk Lj w) (hb : Below w.heap.size w w') : Fall1 w1 B room cnt fails vF L dead pk Lj w' :=
  ⟨h.disk.frame fun k hk => hb.block k (h.disk.ltS hk), h.eq, h.away.trans (Away.of_below _ hb)⟩
/-- Where the fall stands, file by file. -/
structure Fall2 (w1 : World) (B room cnt fails : Nat) (vF : Value) (L : List FR) (dead : Bool) (K : List (Nm × Nat × List Sec × List Sec × List (Nat × Nat × Sec))) (j : Nat) (Lj : List FR) (w : World) : Prop where
  disk : DiskIn w B room vF Lj cnt fails dead
  eq : Lj.map tup = (K.take j).map fallT ++ K.drop j
  len : Lj.length = K.length
  away : Away (ownS B vF L) w1 (ownS B vF Lj) w
theorem Fall2.fall {w1 w : World} {B room cnt fails : Nat} {vF : Value} {L Lj : List FR} {dead : Bool} {K : List (Nm × Nat × List Sec × List Sec × List (Nat × Nat × Sec))} {j : Nat} (h : Fall2 w1 B room cnt fails vF L dead K j Lj w) {g : FR} (hg : Lj[j]? = some g) :
    Calls Try.prog 37 #[.pointer (some ⟨g.G, 0, none⟩)] w fun e w' => e = .returned (.tuple #[]) ∧ ∃ Lj', Fall2 w1 B room cnt fails vF L dead K (j + 1) Lj' w' := by
  obtain ⟨hj, he⟩ := List.getElem?_eq_some_iff.1 hg
  have hsp : Lj = Lj.take j ++ g :: Lj.drop (j + 1) := by
    rw [← he, ← List.drop_eq_getElem_cons hj, List.take_append_drop]
  have hjl : (Lj.take j).length = j := by rw [List.length_take]; omega
  obtain ⟨A, hA⟩ := named (Lj.take j)
  obtain ⟨Bs, hBs⟩ := named (Lj.drop (j + 1))
  rw [hA.out, hBs.out] at hsp
  rw [hA.out] at hjl
  have hd := h.disk
  have heq := h.eq
  have hlen := h.len
  have haw := h.away
  rw [hsp] at hd heq hlen haw
  refine (fall_any (hd.file g (by simp))).mono ?_
  rintro e w' ⟨rfl, S', hF', hAw⟩
  obtain ⟨q1, q2⟩ := disk_step (f' := ⟨g.name, g.G, S', g.dur, g.dur, []⟩) hd hAw hF' rfl
  refine ⟨rfl, _, q1, ?_, by rw [← hlen]; simp, haw.trans q2⟩
  rw [← hjl] at heq ⊢
  exact fall_step heq hlen.symm S'
set_option maxHeartbeats 1000000 in
set_option maxRecDepth 100000 in
theorem diskCrash_any {w0 w : World} {p : Addr} {D : Dsk} {S : Nat → Prop} (h : Has w0 p D w S) (a : Option Addr) (len cap : Nat) (l : List Bool) (hP : Picks w a len l) (hS : 0 < len → ∀ x, a = some x → ¬ S x.block) (hcap : len ≤ cap) (hnil : a = none → cap = 0) :
    Calls Try.prog 18 #[.pointer (some p), .slice a len cap] w (Gives w0 p (D.crash l) (.tuple #[]) S w) := by
  obtain ⟨B, room, vF, L, cnt, fails, dead, rfl, rfl, hd, hr⟩ := h.open'
  have HD := Lib.hid hd
  have HR := Lib.hid hr
  have HH := Lib.hid h
  have HP := Lib.hid hP
  have HPS := Lib.hid hS
  obtain ⟨M, m1, m2, m3, m4, m5, m6⟩ := pends_sorted hr.pend hr.rise
  have HM1 := Lib.hid m1
  have HM3 := Lib.hid m3
  have HM5 := Lib.hid m5
  have HM6 := Lib.hid m6
  have hpl : (pends L).length ≤ 3000000 := by have := hr.cntB; omega
  have hlen := hP.2.1
  clear hd hr h hP hS m1 m3 m5 m6 hnil
  go_enter Try.func18, Try.ntmps18
  go_wp2_with (go_at_call 35; refine (pending_any HD.out HR.out.many hpl).mono ?_; rintro e w1 ⟨a1, c1, l', rfl, p1, p2, p3, p4⟩; have HL' := Lib.hid (HM6.out l' p1 p2); have HO1 := Lib.hid p3; have HB1 := Lib.hid p4; clear p1 p2 p3 p4)
  obtain ⟨n, hn⟩ := named l'.length
  rw [hn.out] at HO1 ⊢
  have hnM : n = M.length := by rw [← hn.out, HL'.out, List.length_map]
  have hnB : n ≤ 3000000 := by omega
  have HNM := Lib.hid hnM
  clear hnM m2 m4
  have HD1 : Hid (DiskIn w1 B room vF L cnt fails dead) := Lib.hid (HD.out.frame fun k hk => HB1.out.block k (HD.out.ltS hk))
  have HF0 : Hid (Fall1 w1 B room cnt fails vF L dead [] L w1) := Lib.hid ⟨HD1.out, by
    apply List.map_congr_left
    intro f _
    simp [tup, keptT, kept], Away.refl _ _⟩
  have HPW : Hid (∀ i, i < len → ∃ b off, a = some ⟨b, off, none⟩ ∧ b < w1.heap.size ∧ ¬ ownS B vF L b ∧ w1.cell? ⟨b, off + i, none⟩ = some (.bool (l.getD i false))) := Lib.hid fun i hi => by
    obtain ⟨b, off, e, hb, hc⟩ := HP.out.2.2.resolve_left (by omega)
    exact ⟨b, off, e, Nat.lt_of_lt_of_le hb HB1.out.size, HPS.out (by omega) _ e, (HB1.out.cell (p := ⟨b, off + i, none⟩) hb).trans (hc i hi)⟩
  go_wp2_with fail
  go_loopw [13] (fun s13 wr => ∃ (i : Nat) (Lj : List FR), i ≤ n ∧ s13 = .int .i64 i ∧ Hid (Fall1 w1 B room cnt fails vF L dead (surv (D.pend.take i) l) Lj wr)) (fun s13 _ => n - (intOf s13).toNat)
  case atStart => exact ⟨0, L, by omega, rfl, by rw [List.take_zero]; exact HF0.out⟩
  case round =>
    obtain ⟨i, Lj, hi, rfl, HFJ⟩ := hrel
    by_cases hlt : i < n
    · obtain ⟨b1, rfl⟩ : ∃ b, a1 = some ⟨b, 0, none⟩ := by
        rcases HO1.out.1.2 with ⟨e, e'⟩ | ⟨g, cap, cur, e, _⟩
        · omega
        · cases e
          exact ⟨_, rfl⟩
      obtain ⟨x, hx⟩ : ∃ x, M[i]? = some x := ⟨_, List.getElem?_eq_getElem (by have := HNM.out; omega)⟩
      obtain ⟨f, hf, hfn⟩ := HM3.out x (List.mem_of_getElem? hx)
      have hwr := HM5.out x (List.mem_of_getElem? hx) f hf hfn
      have hl'i : l'[i]? = some (f.G, x.1, x.2.2) := by
        rw [HL'.out, List.getElem?_map, hx]
        show some (toG L x.2.1, x.1, x.2.2) = _
        rw [← hfn, toG_of HR.out.rise hf]
      obtain ⟨vn0, vd0, vw0, hF0⟩ := HD.out.file f hf
      obtain ⟨r1, r2, r3⟩ := hF0.ok.wr _ hwr
      have hpi : D.pend[i]? = some (x.2.1, x.2.2) := by rw [← HM1.out, List.getElem?_map, hx]; rfl
      have hst := surv_take D.pend l i _ hpi
      have hb1 := (HO1.out.1.lt b1 rfl)
      have hb1S : ¬ ownS B vF L b1 := fun hk => by have := HD.out.ltS hk; omega
      have hR1 : wr.rangeAt b1 (i * 19) (pV (f.G, x.1, x.2.2)) := fun k v hv => (World.cell?_of_block (HFJ.out.away.block b1 hb1.2 hb1S)).trans (pend_range HO1.out i _ hl'i k v hv)
      obtain ⟨PX, hPX⟩ := named (pV (f.G, x.1, x.2.2)).toArray
      have hPL : PX.size = 19 := by rw [← hPX.out, List.size_toArray, pV_len]
      have hPE : PX.toList = pV (f.G, x.1, x.2.2) := by rw [← hPX.out]
      have HR1 : Hid (wr.rangeAt b1 (i * 19) PX.toList) := by rw [hPE]; exact Lib.hid hR1
      have HSZ : Hid ((Try.prog.info? 79).map (·.size) = some PX.toList.length) := by rw [Hid, Array.length_toList, hPL]; exact pend_size
      have HSZ2 : Hid ((Try.prog.info? 79).map (·.size) = some PX.size) := by rw [Hid, hPL]; exact pend_size
      have HAL : Hid (PX.all (·.oneCell') = true) := by rw [Hid, ← hPX.out]; exact pV_all _
      have HZ : Hid (∀ (c : Array Value), c.size = 19 → c.size = PX.size) := Lib.hid fun c h => h.trans hPL.symm
      have hp0 : (wr.alloc (.cells PX 79)).cell? ⟨wr.heap.size, 0, none⟩ = some (.pointer (some ⟨f.G, 0, none⟩)) := by rw [(Blk.new wr _ _).cell, ← hPX.out]; rfl
      have HRR : Hid ((wr.alloc (.cells PX 79)).rangeAt wr.heap.size 1 (recV (x.1, x.2.2))) := Lib.hid fun k v hv => by
        rw [(Blk.new wr _ _).cell, ← hPX.out, List.getElem?_toArray, pV, Nat.add_comm 1 k, List.getElem?_cons_succ]
        exact hv
      have HFK : Hid (Fall1 w1 B room cnt fails vF L dead (surv (D.pend.take i) l) Lj (wr.alloc (.cells PX 79))) := Lib.hid (HFJ.out.later ((Below.refl _ wr).alloc (Nat.le_refl _) _))
      have HKP : Hid (Calls Try.prog 36 #[.pointer (some ⟨f.G, 0, none⟩), .agg (recV (x.1, x.2.2)).toArray] (wr.alloc (.cells PX 79)) fun e w' => e = .returned (.tuple #[]) ∧ ∃ Lj', Fall1 w1 B room cnt fails vF L dead (surv (D.pend.take i) l ++ [(f.name, x.2.2)]) Lj' w') := Lib.hid (HFK.out.keep HR.out.rise hf x.1 x.2.2.1 x.2.2.2 r1 r2)
      have HST := Lib.hid hst
      have HFN := Lib.hid hfn
      have HRL : Hid ((Try.prog.info? 77).map (·.size) = some (recV (x.1, x.2.2)).length) := by rw [Hid, recV_len]; exact rec_size
      have hA2 : ∀ k, k < w1.heap.size → ¬ ownS B vF L k → (wr.alloc (.cells PX 79)).heap[k]? = w1.heap[k]? := fun k hk hS => HFK.out.away.block k hk hS
      obtain ⟨rr, hrr⟩ := named (recV (x.1, x.2.2))
      rw [hrr.out] at HRR HKP HRL
      clear hst hfn hpi hwr hF0 hx hf hR1 hl'i hPE hPX
      by_cases hil : i < len
      · obtain ⟨pb, po, ha, hpb1, hpb2, hpc⟩ := HPW.out i hil
        subst ha
        have hpk : (wr.alloc (.cells PX 79)).cell? ⟨pb, po + i, none⟩ = some (.bool (l.getD i false)) := (World.cell?_of_block (hA2 pb hpb1 hpb2)).trans hpc
        cases hbv : l.getD i false with
        | true =>
          rw [hbv] at hpk
          rw [hbv, if_pos rfl] at HST
          clear hA2 hpc
          go_wp2_with (first
            | (refine wpList_load_mid rfl 79 (.tmp 16) rfl b1 (i * 19) (by rfl) PX.toList _ HR1.out Try.underlying79 rfl HSZ.out ?_)
            | (refine wpList_store_new rfl (.tmp 5) (.tmp 17) rfl PX (by rfl) (by rfl) HSZ2.out (HZ.out _ (by rfl)) HAL.out ?_)
            | (refine wpList_load_mid rfl 77 (.tmp 30) rfl wr.heap.size 1 (by rfl) rr _ HRR.out Try.underlying77 rfl HRL.out ?_)
            | (go_at_call 36; refine HKP.out.mono ?_; rintro e w3 ⟨rfl, Lj', hF3⟩))
          go_roundw
          case rel => exact ⟨i + 1, Lj', by omega, by go_num, by rw [HST.out, ← HFN.out]; exact hF3⟩
          case measure => simp [intOf]; omega
        | false =>
          rw [hbv] at hpk
          rw [hbv, if_neg (by simp), List.append_nil] at HST
          clear hA2 hpc
          go_wp2_with (first
            | (refine wpList_load_mid rfl 79 (.tmp 16) rfl b1 (i * 19) (by rfl) PX.toList _ HR1.out Try.underlying79 rfl HSZ.out ?_)
            | (refine wpList_store_new rfl (.tmp 5) (.tmp 17) rfl PX (by rfl) (by rfl) HSZ2.out (HZ.out _ (by rfl)) HAL.out ?_))
          go_roundw
          case rel => exact ⟨i + 1, Lj, by omega, by go_num, by rw [HST.out]; exact HFK.out⟩
          case measure => simp [intOf]; omega
      · have hbv : l.getD i false = false := by
          rw [List.getD_eq_getElem?_getD, List.getElem?_eq_none (by rw [HP.out.1]; omega)]
          rfl
        rw [hbv, if_neg (by simp), List.append_nil] at HST
        clear hA2 hbv
        go_wp2_with (first
            | (refine wpList_load_mid rfl 79 (.tmp 16) rfl b1 (i * 19) (by rfl) PX.toList _ HR1.out Try.underlying79 rfl HSZ.out ?_)
            | (refine wpList_store_new rfl (.tmp 5) (.tmp 17) rfl PX (by rfl) (by rfl) HSZ2.out (HZ.out _ (by rfl)) HAL.out ?_))
        go_roundw
        case rel => exact ⟨i + 1, Lj, by omega, by go_num, by rw [HST.out]; exact HFK.out⟩
        case measure => simp [intOf]; omega
    · obtain rfl : i = n := by omega
      have hpt : D.pend.take i = D.pend := List.take_of_length_le (by rw [← HM1.out, List.length_map, HNM.out]; exact Nat.le_refl _)
      rw [hpt] at HFJ
      obtain ⟨K, hK⟩ := named (Lj.map tup)
      obtain ⟨aF, cF, hvF, _, _, _⟩ := HFJ.out.disk.row.shape ptr_rowed
      have HVF := Lib.hid hvF
      have c1F : wr.cell? ⟨B, 1, none⟩ = some (.slice aF Lj.length cF) := by rw [← hvF]; exact HFJ.out.disk.c1
      obtain ⟨nF, hnF⟩ := named Lj.length
      rw [hnF.out] at c1F HVF
      have hnl : nF ≤ 32 := by
        have h1 := congrArg List.length HFJ.out.eq
        rw [List.length_map, List.length_map] at h1
        have := HR.out.many
        have := hnF.out
        omega
      have HKL : Hid (K.length = nF) := by rw [Hid, ← hK.out, List.length_map]; exact hnF.out
      have HF20 : Hid (Fall2 w1 B room cnt fails vF L dead K 0 Lj wr) := Lib.hid ⟨HFJ.out.disk, by rw [← hK.out]; simp, by rw [HKL.out]; exact hnF.out, HFJ.out.away⟩
      clear hvF hpt
      go_wp2_with fail
      go_loopw [39] (fun s39 wr => ∃ (j : Nat) (Lk : List FR), j ≤ nF ∧ s39 = .int .i64 j ∧ Hid (Fall2 w1 B room cnt fails vF L dead K j Lk wr)) (fun s39 _ => nF - (intOf s39).toNat)
      case atStart => exact ⟨0, Lj, by omega, rfl, HF20.out⟩
      case round =>
        obtain ⟨j, Lk, hj, rfl, HFK⟩ := hrel
        by_cases hlt2 : j < nF
        · obtain ⟨g, hg⟩ : ∃ g, Lk[j]? = some g := ⟨_, List.getElem?_eq_getElem (by rw [HFK.out.len, HKL.out]; exact hlt2)⟩
          have hrow := HFK.out.disk.row
          rw [HVF.out] at hrow
          obtain ⟨bF, rfl⟩ : ∃ b, aF = some ⟨b, 0, none⟩ := by
            rcases hrow.1.2 with ⟨e, e'⟩ | ⟨g, cap, cur, e, _⟩
            · have := HFK.out.len
              have := HKL.out
              omega
            · cases e
              exact ⟨_, rfl⟩
          have hc0 := ptr_cell2 hrow j g hg
          have HFL := Lib.hid (HFK.out.fall hg)
          clear hrow hg
          go_wp2_with (go_at_call 37; refine HFL.out.mono ?_; rintro e w3 ⟨rfl, Lk', hF3⟩)
          go_roundw
          case rel => exact ⟨j + 1, Lk', by omega, by go_num, hF3⟩
          case measure => simp [intOf]; omega
        · obtain rfl : j = nF := by omega
          have heq := HFK.out.eq
          rw [List.take_of_length_le (by rw [HKL.out]; exact Nat.le_refl _), List.drop_of_length_le (by rw [HKL.out]; exact Nat.le_refl _), List.append_nil, ← hK.out, HFJ.out.eq, List.map_map] at heq
          have HRC := Lib.hid (HR.out.crash l (L' := Lk) heq)
          have k3 := HFK.out.disk.c3
          have kf3 := HFK.out.disk.blk.free 3
          have HD3 := Lib.hid (HFK.out.disk.reblk 3 (.int .u64 0) cnt 0 dead rfl)
          have k4 := HD3.out.c4
          have kf4 := HD3.out.blk.free 4
          have HD4 := Lib.hid (HD3.out.reblk 4 (.bool false) cnt 0 false rfl)
          clear heq
          go_wp2
          go_end0
          exact HH.out.close' HD4.out HRC.out ((((Away.of_below _ HB1.out).trans HFK.out.away).trans ((Away.refl _ _).set (ownS_B _ _ _) 3 _)).trans ((Away.refl _ _).set (ownS_B _ _ _) 4 _)) _
end Go.Proofs.Ytnhaidofblfopaa
