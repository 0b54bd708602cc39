/-
  Lines of dirty keys (package lru): the recursion, and 'lines' itself. Conditions: the keys rise, what items are ordered after is there.
-/
import Derived.Test.YthmkmhfoicfapaaLi
import Derived.Laws.EntriesVeiled
namespace Go.Proofs.Ythmkmhfoicfapaa
open Go.RowKit Go.Maps
set_option linter.unusedVariables false

theorem ItemIn.away {w w' : World} {f : IR} {vb vf : Value} (h : ItemIn w f vb vf) (hb : Below w.heap.size w w') : ItemIn w' f vb vf := h.frame fun k hk => hb.block k (h.lt k hk)
theorem Below.weak {w0 w w' : World} (h : Below w0.heap.size w0 w) (k : Below w.heap.size w w') : Below w0.heap.size w0 w' := h.trans (k.mono h.size)
set_option maxRecDepth 100000 in
set_option maxHeartbeats 1600000 in
theorem addk_any {w0 : World} {B room uses : Nat} {vI : Value} {L : List IR} (hb : Base0 w0 B room uses vI L) (x : Bx) : ∀ (n : Nat) (k : Int) (st : List Int × List Int) (w : World), StIn w0 B x w st → StOk (L.map IR.it) st → unmet (L.map IR.it) st.1 ≤ n → (∃ y ∈ L.map IR.it, y.key = k) →
    Calls Try.prog 64 #[.int .i64 k, .pointer (some ⟨x.met, 0, none⟩), .pointer (some ⟨x.c, 0, none⟩), .pointer (some ⟨x.add, 0, none⟩), .pointer (some ⟨x.all, 0, none⟩)] w (AddQ w0 B x (addL (L.map IR.it) n st k)) := by
  intro n
  induction n with
  | zero =>
    intro k st w h _ hu ⟨y, hy, hk⟩
    have hm := unmet_zero (met := st.1) hy (by omega)
    rw [hk] at hm
    obtain ⟨f, hf, rfl⟩ := List.mem_map.1 hy
    exact add_met h (by have := hb.kr f hf; rw [← hk]; exact this) hm
  | succ n ih =>
    rintro k ⟨met, all⟩ w h hok hu ⟨y, hy, rfl⟩
    obtain ⟨f, hf, rfl⟩ := List.mem_map.1 hy
    have hkr : -9223372036854775808 ≤ f.it.key ∧ f.it.key ≤ 9223372036854775807 := hb.kr f hf
    by_cases hm : f.it.key ∈ met
    · have e : addL (L.map IR.it) (n + 1) (met, all) f.it.key = (met, all) := by unfold addL; rw [if_pos hm]
      rw [e]
      exact add_met h hkr hm
    · have hrise := rises_map hb.rise
      have e : addL (L.map IR.it) (n + 1) (met, all) f.it.key = (((f.it.firsts.foldl (addL (L.map IR.it) n) (f.it.key :: met, all)).1), ((f.it.firsts.foldl (addL (L.map IR.it) n) (f.it.key :: met, all)).2) ++ [f.it.key]) := by
        unfold addL
        rw [if_neg hm, firstsOf_mem hrise hy]
      rw [e]
      have hok1 : StOk (L.map IR.it) (f.it.key :: met, all) := hok.met hy hm
      have hu1 : unmet (L.map IR.it) (f.it.key :: met) ≤ n := by
        have h1 := unmet_cons hy hm
        have h2 : unmet (L.map IR.it) met ≤ n + 1 := hu
        omega
      have hcl : ∀ g ∈ f.it.firsts, ∃ z ∈ L.map IR.it, z.key = g := hb.closed _ hy
      -- one call of itself
      have hcall : ∀ (j : Nat) (g : Int) (wr : World), f.it.firsts[j]? = some g → StIn w0 B x wr ((f.it.firsts.take j).foldl (addL (L.map IR.it) n) (f.it.key :: met, all)) →
          Calls Try.prog 64 #[.int .i64 g, .pointer (some ⟨x.met, 0, none⟩), .pointer (some ⟨x.c, 0, none⟩), .pointer (some ⟨x.add, 0, none⟩), .pointer (some ⟨x.all, 0, none⟩)] wr (AddQ w0 B x ((f.it.firsts.take (j + 1)).foldl (addL (L.map IR.it) n) (f.it.key :: met, all))) := fun j g wr hj hst => by
        have hg := List.mem_of_getElem? hj
        have hsub : ∀ g' ∈ f.it.firsts.take j, ∃ z ∈ L.map IR.it, z.key = g' := fun g' hg' => hcl g' (List.mem_of_mem_take hg')
        have hokj := fold_more (n := n) hb.closed hrise _ hsub _ hok1
        have huj : unmet (L.map IR.it) ((f.it.firsts.take j).foldl (addL (L.map IR.it) n) (f.it.key :: met, all)).1 ≤ n := Nat.le_trans (unmet_mono (fold_met _ _)) hu1
        have := ih g _ wr hst hokj huj (hcl g hg)
        rw [List.take_add_one, hj, Option.toList_some, List.foldl_append]
        exact this
      have hend := fold_more (n := n) hb.closed hrise f.it.firsts hcl _ hok1
      obtain ⟨ST, hST⟩ := named (f.it.firsts.foldl (addL (L.map IR.it) n) (f.it.key :: met, all))
      have hTL : (f.it.firsts.take f.it.firsts.length).foldl (addL (L.map IR.it) n) (f.it.key :: met, all) = ST := by rw [List.take_length]; exact hST.out
      rw [hST.out] at hend ⊢
      have hall : ST.2.length ≤ 2000 := by
        have h1 := hend.1
        have h2 := hend.2
        have h3 := hb.many
        rw [List.length_map] at h1
        omega
      obtain ⟨vb, vf, hfi⟩ := hb.c.item f hf
      obtain ⟨af, cf, rfl, _, hnf, hcf⟩ := hfi.fs.shape iv_rowed
      have c1 : w.cell? ⟨x.met, 0, none⟩ = some (.map (some x.M)) := (h.met.cell 0).trans rfl
      have c2 : w.cell? ⟨x.c, 0, none⟩ = some (.pointer (some ⟨B, 0, none⟩)) := (h.c.cell 0).trans rfl
      have HH := Lib.hid h
      have HK := Lib.hid (keyI hkr)
      have hhas : has (Dmet met) (.int .i64 f.it.key) = false := by rw [Dmet_has]; simpa using hm
      have HFIND : Hid (∀ w', Below w0.heap.size w0 w' → Calls Try.prog 41 #[.pointer (some ⟨B, 0, none⟩), .int .i64 f.it.key] w' fun e w'' => e = .returned (.pointer (some ⟨f.G, 0, none⟩)) ∧ w'' = w') := fun w' hw' => find_some (hb.c.later hw') hb.rise hb.many hf
      have HFI : Hid (∀ w', Below w0.heap.size w0 w' → ItemIn w' f vb (.slice af f.it.firsts.length cf)) := fun w' hw' => hfi.away hw'
      have HC := Lib.hid hcall
      have HTL := Lib.hid hTL
      have hmn : met.length < 3000 := by
        have h1 := hok.1
        have h3 := hb.many
        rw [List.length_map] at h1
        simp at h1
        omega
      have HMN := Lib.hid hmn
      obtain ⟨K, hK⟩ := named f.it.key
      rw [hK.out] at HK hhas HFIND HC HTL ⊢
      obtain ⟨m, hm0⟩ := named f.it.firsts.length
      rw [hm0.out] at HFI HTL hcf
      have HALL := Lib.hid hall
      have hmb : m ≤ 100000000 := by rw [← hm0.out]; exact hfi.fs.2.2
      clear h hfi hcall hTL hend hall hmn hb ih hok hok1 hu hu1 hy hf e hcl hm hkr hrise
      go_enter Try.func64, Try.ntmps64
      go_wp2_with (first
        | (at_lookup; refine wpList_lookup_own_unit _ rfl _ _ 103 rfl 3 57 lawI Try.underlying103 (zeroU _) x.M _ _ rfl HH.out.mp _ _ rfl HK.out ?_; rw [hhas]; have HH1 := Lib.hid (HH.out.later ((Below.refl _ _).alloc (Nat.le_refl _) (.cells #[] 57))); have c11 : (w.alloc (.cells #[] 57)).cell? ⟨x.met, 0, none⟩ = some (.map (some x.M)) := (HH1.out.met.cell 0).trans rfl)
        | (at_mapUpdate; refine wpList_mapUpdate_own _ rfl _ _ _ 103 rfl 3 57 lawI Try.underlying103 _ x.M _ _ rfl HH1.out.mp (Nat.lt_trans HMN.out (by unfold maxLen; omega)) _ _ _ rfl rfl HK.out _ [] unitElem_mk ?_; intro w4 hown hgrow; have HH2 := Lib.hid (HH1.out.put hown hgrow); have c22 : w4.cell? ⟨x.c, 0, none⟩ = some (.pointer (some ⟨B, 0, none⟩)) := (HH2.out.c.cell 0).trans rfl; have HF4 := Lib.hid (HFI.out w4 HH2.out.below); have c4 : w4.cell? ⟨f.G, 4, none⟩ = some (.slice af m cf) := (HF4.out.blk.cell 4).trans rfl; clear hown hgrow)
        | (go_at_call 41; refine (HFIND.out w4 HH2.out.below).mono ?_; rintro e w' ⟨rfl, rfl⟩))
      go_loopw [27] (fun s27 wr => ∃ j : Nat, j ≤ m ∧ s27 = .int .i64 j ∧ Hid (StIn w0 B x wr ((f.it.firsts.take j).foldl (addL (L.map IR.it) n) (K :: met, all)))) (fun s27 _ => m - (intOf s27).toNat)
      case atStart => exact ⟨0, Nat.zero_le _, rfl, HH2.out⟩
      case round =>
        obtain ⟨j, hj, rfl, HJ⟩ := hrel
        clear c22 HH2 HF4 c4 c11 HH1 c1 c2
        by_cases hlt : j < m
        · obtain ⟨g, hg⟩ : ∃ g, f.it.firsts[j]? = some g := ⟨_, List.getElem?_eq_getElem (by have := hm0.out; omega)⟩
          have hfi := HFI.out wr HJ.out.below
          obtain ⟨fb, rfl⟩ : ∃ fb, af = some ⟨fb, 0, none⟩ := by
            rcases hfi.fs.1.2 with ⟨e, e'⟩ | ⟨g, cap, cur, e, _⟩
            · have := hm0.out
              omega
            · cases e
              exact ⟨_, rfl⟩
          have cg : wr.cell? ⟨fb, j, none⟩ = some (.int .i64 g) := iv_cell (by have h := hfi.fs; have e := hm0.out; unfold OwnI at h; rw [e] at h; exact h) j g hg
          have cadd : wr.cell? ⟨x.add, 0, none⟩ = some (.func (.func 64) #[] #[.pointer (some ⟨x.met, 0, none⟩), .pointer (some ⟨x.c, 0, none⟩), .pointer (some ⟨x.add, 0, none⟩), .pointer (some ⟨x.all, 0, none⟩)]) := (HJ.out.add.cell 0).trans rfl
          have HCJ := Lib.hid (HC.out j g wr hg HJ.out)
          clear hg hfi
          go_wp2_with (go_at_call 64; refine HCJ.out.mono ?_; rintro e w' ⟨rfl, hst⟩; have HJ2 := Lib.hid hst; clear hst)
          go_roundw
          case rel => exact ⟨j + 1, by omega, by go_num, HJ2.out⟩
          case measure => simp [intOf]; omega
        · obtain rfl : j = m := by omega
          rw [HTL.out] at HJ
          obtain ⟨v, hv, hr⟩ := HJ.out.all
          have cv : wr.cell? ⟨x.all, 0, none⟩ = some v := (hv.cell 0).trans rfl
          have fv := hv.free 0
          obtain ⟨av, cv', rfl, _, _⟩ := hr.shape iv_rowed
          have HV := Lib.hid hv
          have HR := Lib.hid hr
          clear hv hr
          obtain ⟨p, hp⟩ := named ST.2.length
          rw [hp.out] at HR HV cv HALL
          go_wp2_with (at_builtin; refine append_gg iv_rowed rfl (.tmp 35) (.tmp 37) rfl w0.heap.size (.slice av p cv') p ST.2 rfl (HR.out.alloc _) (some ⟨wr.heap.size, 0, none⟩) 1 1 [K] rfl (fun e => by cases e) (one_reads wr K #[.int .i64 K] 3 rfl) (by have := HALL.out; omega) (by rw [World.size_alloc]; have := HJ.out.below.size; omega) ?_; intro a2 c2 w2 h1 hb2 h2; have HX := Lib.hid (HJ.out.app HV.out (by rw [hp.out]; exact HR.out) ((Below.refl _ _).alloc (Nat.le_refl _) _) h2 (by rw [hp.out]; exact h1)); have hv2 : Blk w2 x.all 38 #[.slice av p cv'] := (HV.out.alloc _).kept h2 (fun e => Blk.not_row HV.out (by decide) HR.out e); have cv2 : w2.cell? ⟨x.all, 0, none⟩ = some (.slice av p cv') := (hv2.cell 0).trans rfl; have fv2 := hv2.free 0; clear h1 hb2 h2 hv2)
          go_end0
          exact ⟨rfl, HX.out⟩
theorem ivReads_cell {w : World} {b o n : Nat} {l : List Int} (h : Reads ivV w (some ⟨b, o, none⟩) n l) (j : Nat) (z : Int) (hj : l[j]? = some z) : w.cell? ⟨b, o + j, none⟩ = some (.int .i64 z) := by
  have := h.cellAt iv_rowed j 0 z (.int .i64 z) hj rfl
  rwa [Nat.mul_one, Nat.add_zero] at this
def linesW (w : World) (B : Nat) : World := ((((w.alloc (.cells #[.pointer (some ⟨B, 0, none⟩)] 25)).alloc (.cells #[.slice none 0 0] 38)).alloc (.map #[] 0)).alloc (.cells #[.map (some (w.heap.size + 1 + 1))] 103)).alloc
  (.cells #[.func (.func 64) #[] #[.pointer (some ⟨w.heap.size + 1 + 1 + 1, 0, none⟩), .pointer (some ⟨w.heap.size, 0, none⟩), .pointer (some ⟨w.heap.size + 1 + 1 + 1 + 1, 0, none⟩), .pointer (some ⟨w.heap.size + 1, 0, none⟩)]] 52)
theorem lines_start (w : World) (B : Nat) : StIn w B (Bx.mk w.heap.size (w.heap.size + 1 + 1 + 1) (w.heap.size + 1 + 1 + 1 + 1) (w.heap.size + 1) (w.heap.size + 1 + 1)) (linesW w B) ([], []) := by
  unfold linesW
  have s1 : (w.alloc (.cells #[.pointer (some ⟨B, 0, none⟩)] 25)).heap.size = w.heap.size + 1 := World.size_alloc _ _
  obtain ⟨w1, h1⟩ := named (w.alloc (.cells #[.pointer (some ⟨B, 0, none⟩)] 25))
  have b1 := Blk.new w 25 #[.pointer (some ⟨B, 0, none⟩)]
  have hb1 : Below w.heap.size w (w.alloc (.cells #[.pointer (some ⟨B, 0, none⟩)] 25)) := (Below.refl _ _).alloc (Nat.le_refl _) _
  rw [h1.out] at s1 b1 hb1 ⊢
  have s2 : (w1.alloc (.cells #[.slice none 0 0] 38)).heap.size = w.heap.size + 1 + 1 := by rw [World.size_alloc, s1]
  have b2 := Blk.new w1 38 #[.slice none 0 0]
  have hb2 : Below w.heap.size w (w1.alloc (.cells #[.slice none 0 0] 38)) := hb1.alloc (by omega) _
  have b1 := b1.alloc (.cells #[.slice none 0 0] 38)
  obtain ⟨w2, h2⟩ := named (w1.alloc (.cells #[.slice none 0 0] 38))
  rw [h2.out] at s2 b1 b2 hb2 ⊢
  rw [s1] at b2
  have s3 : (w2.alloc (.map #[] 0)).heap.size = w.heap.size + 1 + 1 + 1 := by rw [World.size_alloc, s2]
  have b3 := World.ownsMap_made w2 Try.prog 3 (unitElem (H := Unit))
  have hb3 : Below w.heap.size w (w2.alloc (.map #[] 0)) := hb2.alloc (by omega) _
  have b1 := b1.alloc (.map #[] 0)
  have b2 := b2.alloc (.map #[] 0)
  obtain ⟨w3, h3⟩ := named (w2.alloc (.map #[] 0))
  rw [h3.out] at s3 b1 b2 b3 hb3 ⊢
  rw [s2] at b3
  have s4 : (w3.alloc (.cells #[.map (some (w.heap.size + 1 + 1))] 103)).heap.size = w.heap.size + 1 + 1 + 1 + 1 := by rw [World.size_alloc, s3]
  have b4 := Blk.new w3 103 #[.map (some (w.heap.size + 1 + 1))]
  have hb4 : Below w.heap.size w (w3.alloc (.cells #[.map (some (w.heap.size + 1 + 1))] 103)) := hb3.alloc (by omega) _
  have b1 := b1.alloc (.cells #[.map (some (w.heap.size + 1 + 1))] 103)
  have b2 := b2.alloc (.cells #[.map (some (w.heap.size + 1 + 1))] 103)
  have b3 := b3.alloc (.cells #[.map (some (w.heap.size + 1 + 1))] 103)
  obtain ⟨w4, h4⟩ := named (w3.alloc (.cells #[.map (some (w.heap.size + 1 + 1))] 103))
  rw [h4.out] at s4 b1 b2 b3 b4 hb4 ⊢
  rw [s3] at b4
  have b5 := Blk.new w4 52 #[.func (.func 64) #[] #[.pointer (some ⟨w.heap.size + 1 + 1 + 1, 0, none⟩), .pointer (some ⟨w.heap.size, 0, none⟩), .pointer (some ⟨w.heap.size + 1 + 1 + 1 + 1, 0, none⟩), .pointer (some ⟨w.heap.size + 1, 0, none⟩)]]
  rw [s4] at b5
  exact ⟨hb4.alloc (by omega) _, b1.alloc _, b4.alloc _, b5, ⟨_, b2.alloc _, OwnG.none _ _ _ _ _⟩, b3.alloc _, by show w.heap.size ≤ w.heap.size + 1; omega, by show w.heap.size ≤ w.heap.size + 1 + 1; omega⟩
def LinesQ (l : List Int) (w : World) (e : Ending) (w' : World) : Prop := ∃ a c, e = .returned (.slice a l.length c) ∧ OwnG ivV 3 1 w' w.heap.size (.slice a l.length c) l.length l ∧ Below w.heap.size w w'
set_option maxRecDepth 100000 in
set_option maxHeartbeats 1600000 in
theorem lines_any0 {w : World} (x : Bx) (hxx : x = Bx.mk w.heap.size (w.heap.size + 1 + 1 + 1) (w.heap.size + 1 + 1 + 1 + 1) (w.heap.size + 1) (w.heap.size + 1 + 1)) {B room uses : Nat} {vI : Value} {L : List IR} (hb : Base0 w B room uses vI L) {a : Option Addr} {n c : Nat} {ks : List Int} (hK : Reads ivV w a n ks) (hks : ∀ k ∈ ks, ∃ y ∈ L.map IR.it, y.key = k) (hn : n ≤ 2000) :
    Calls Try.prog 40 #[.pointer (some ⟨B, 0, none⟩), .slice a n c] w (LinesQ (linesL (L.map IR.it) ks) w) := by
  have hlen : (L.map IR.it).length = L.length := List.length_map _
  have hcall : ∀ (j : Nat) (k : Int) (wr : World), ks[j]? = some k → StIn w B x wr ((ks.take j).foldl (addL (L.map IR.it) (L.map IR.it).length) ([], [])) →
      Calls Try.prog 64 #[.int .i64 k, .pointer (some ⟨x.met, 0, none⟩), .pointer (some ⟨x.c, 0, none⟩), .pointer (some ⟨x.add, 0, none⟩), .pointer (some ⟨x.all, 0, none⟩)] wr (AddQ w B x ((ks.take (j + 1)).foldl (addL (L.map IR.it) (L.map IR.it).length) ([], []))) := fun j k wr hj hst => by
    have hk := List.mem_of_getElem? hj
    have hsub : ∀ k' ∈ ks.take j, ∃ z ∈ L.map IR.it, z.key = k' := fun k' hk' => hks k' (List.mem_of_mem_take hk')
    have hok := fold_more (n := (L.map IR.it).length) hb.closed (rises_map hb.rise) _ hsub _ (StOk.start _)
    have := addk_any hb x (L.map IR.it).length k _ wr hst hok (unmet_le _ _) (hks k hk)
    rw [List.take_add_one, hj, Option.toList_some, List.foldl_append]
    exact this
  have HC := Lib.hid hcall
  have HK := Lib.hid hK
  have hTL : (ks.take n).foldl (addL (L.map IR.it) (L.map IR.it).length) ([], []) = ks.foldl (addL (L.map IR.it) (L.map IR.it).length) ([], []) := by rw [List.take_of_length_le (by rw [hK.1]; exact Nat.le_refl _)]
  have hsp : a = none → n = 0 := fun e => by
    subst e
    rcases hK.2.2 with h | ⟨b, off, e, _⟩
    · exact h
    · cases e
  have HST : Hid (∀ wr, StIn w B x wr ((ks.take n).foldl (addL (L.map IR.it) (L.map IR.it).length) ([], [])) → ∃ v, wr.cell? ⟨x.all, 0, none⟩ = some v ∧ OwnG ivV 3 1 wr w.heap.size v (linesL (L.map IR.it) ks).length (linesL (L.map IR.it) ks)) := fun wr h => by
    obtain ⟨v, h1, h2⟩ := h.all
    rw [hTL] at h2
    exact ⟨v, (h1.cell 0).trans rfl, h2⟩
  obtain ⟨R, hR⟩ := named (linesL (L.map IR.it) ks)
  rw [hR.out] at HST ⊢
  obtain ⟨F, hF⟩ := named (fun j => (ks.take j).foldl (addL (L.map IR.it) (L.map IR.it).length) ([], []))
  have hFj : ∀ j, (ks.take j).foldl (addL (L.map IR.it) (L.map IR.it).length) ([], []) = F j := fun j => congrFun hF.out j
  simp only [hFj] at HC HST
  have hF0 : F 0 = ([], []) := by rw [← hFj]; rfl
  have HF0 := Lib.hid hF0
  clear hcall hK hTL hb hks hF0 hFj hlen
  subst hxx
  go_enter Try.func40, Try.ntmps40
  have hmm := @run_makeMap Try.prog
  go_wp2
  go_loopw [14] (fun s14 wr => ∃ j : Nat, j ≤ n ∧ s14 = .int .i64 j ∧ Hid (StIn w B (Bx.mk w.heap.size (w.heap.size + 1 + 1 + 1) (w.heap.size + 1 + 1 + 1 + 1) (w.heap.size + 1) (w.heap.size + 1 + 1)) wr (F j))) (fun s14 _ => n - (intOf s14).toNat)
  case atStart => exact ⟨0, Nat.zero_le _, rfl, by rw [HF0.out]; exact lines_start w B⟩
  case round =>
    obtain ⟨j, hj, rfl, HJ⟩ := hrel
    have HK2 : Hid (Reads ivV wr a n ks) := Lib.hid (HK.out.later HJ.out.below)
    by_cases hlt : j < n
    · obtain ⟨k, hk⟩ : ∃ k, ks[j]? = some k := ⟨_, List.getElem?_eq_getElem (by have := HK.out.1; omega)⟩
      obtain ⟨b, o, rfl⟩ : ∃ b o, a = some ⟨b, o, none⟩ := HK.out.lies (by omega)
      have ck := ivReads_cell HK2.out j k hk
      have cadd : wr.cell? ⟨w.heap.size + 1 + 1 + 1 + 1, 0, none⟩ = some (.func (.func 64) #[] #[.pointer (some ⟨w.heap.size + 1 + 1 + 1, 0, none⟩), .pointer (some ⟨w.heap.size, 0, none⟩), .pointer (some ⟨w.heap.size + 1 + 1 + 1 + 1, 0, none⟩), .pointer (some ⟨w.heap.size + 1, 0, none⟩)]) := (HJ.out.add.cell 0).trans rfl
      have HCJ := Lib.hid (HC.out j k wr hk HJ.out)
      clear hk
      go_wp2_with (go_at_call 64; refine HCJ.out.mono ?_; rintro e w' ⟨rfl, hst⟩; have HJ2 := Lib.hid hst; clear hst)
      go_roundw
      case rel => exact ⟨j + 1, by omega, by go_num, HJ2.out⟩
      case measure => simp [intOf]; omega
    · obtain rfl : j = n := by omega
      obtain ⟨v, cv, hv⟩ := HST.out wr HJ.out
      obtain ⟨av, cv', rfl, _, _⟩ := hv.shape iv_rowed
      have HV := Lib.hid hv
      clear hv
      go_wp2
      go_ret
      exact ⟨av, cv', rfl, HV.out, HJ.out.below⟩
theorem lines_any {w : World} {B room uses : Nat} {vI : Value} {L : List IR} (hb : Base0 w B room uses vI L) {a : Option Addr} {n c : Nat} {ks : List Int} (hK : Reads ivV w a n ks) (hks : ∀ k ∈ ks, ∃ y ∈ L.map IR.it, y.key = k) (hn : n ≤ 2000) :
    Calls Try.prog 40 #[.pointer (some ⟨B, 0, none⟩), .slice a n c] w (LinesQ (linesL (L.map IR.it) ks) w) := lines_any0 _ rfl hb hK hks hn
end Go.Proofs.Ythmkmhfoicfapaa
