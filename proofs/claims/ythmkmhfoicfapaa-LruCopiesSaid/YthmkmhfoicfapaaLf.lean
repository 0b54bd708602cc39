/-
  What a cache's own small functions do (package lru): uses counted, the oldest item, an item removed, records ended. Conditions: the keys rise.
-/
import Derived.Test.YthmkmhfoicfapaaLc
import Derived.Test.YthmkmhfoicfapaaLd
import Derived.Test.YthmkmhfoicfapaaLe
import Derived.BigQuiet
namespace Go.Proofs.Ythmkmhfoicfapaa
open Go.RowKit
set_option linter.unusedVariables false

theorem nan64_any (a : Int) (w : World) : Calls Try.prog 74 #[.int .u64 a] w fun e w' => e = .returned (.bool false) ∧ w' = w := by
  go_enter Try.func74, Try.ntmps74
  go_wp2
  go_ret
  exact ⟨rfl, rfl⟩
theorem compare64_any (a b : Int) (w : World) : Calls Try.prog 62 #[.int .u64 a, .int .u64 b] w fun e w' => e = .returned (.int .i64 (cmpI a b)) ∧ w' = w := by
  rcases Int.lt_trichotomy a b with h | h | h
  · have e : cmpI a b = -1 := by unfold cmpI; rw [if_pos h]
    rw [e]
    go_enter Try.func62, Try.ntmps62
    go_wp2_with (go_at_call 74; refine (nan64_any _ _).mono ?_; rintro e w' ⟨rfl, rfl⟩)
    go_ret
    exact ⟨rfl, rfl⟩
  · subst h
    have e : cmpI a a = 0 := by unfold cmpI; simp
    rw [e]
    go_enter Try.func62, Try.ntmps62
    go_wp2_with (go_at_call 74; refine (nan64_any _ _).mono ?_; rintro e w' ⟨rfl, rfl⟩)
    go_ret
    exact ⟨rfl, rfl⟩
  · have h2 : ¬ a < b := by omega
    have e : cmpI a b = 1 := by unfold cmpI; rw [if_neg h2, if_pos h]
    rw [e]
    go_enter Try.func62, Try.ntmps62
    go_wp2_with (go_at_call 74; refine (nan64_any _ _).mono ?_; rintro e w' ⟨rfl, rfl⟩)
    go_ret
    exact ⟨rfl, rfl⟩
/-- The comparison that evict hands on. -/
theorem evict1_any (G H : Nat) (a b : Int) (w : World) (h : w.cell? ⟨G, 2, none⟩ = some (.int .u64 a)) (k : w.cell? ⟨H, 2, none⟩ = some (.int .u64 b)) :
    Calls Try.prog 61 #[.pointer (some ⟨G, 0, none⟩), .pointer (some ⟨H, 0, none⟩)] w fun e w' => e = .returned (.int .i64 (cmpI a b)) ∧ ∃ q, w' = w.drewN q := by
  go_enter Try.func61, Try.ntmps61
  go_wp2_with fail
  go_quiet (first | (go_at_call 62; exact Calls.quiet_of_same (compare64_any a b _)))
  go_wp2
  go_ret
  exact ⟨rfl, _, rfl⟩
def minF (L : List IR) (x : IR) : IR := L.foldl (fun m y => if y.it.used < m.it.used then y else m) x
theorem minF_snoc (L : List IR) (x y : IR) : minF (L ++ [y]) x = if y.it.used < (minF L x).it.used then y else minF L x := by
  unfold minF
  rw [List.foldl_append]
  rfl
theorem minF_it (L : List IR) : ∀ x, (minF L x).it = oldest (L.map IR.it) x.it := by
  induction L with
  | nil => intro x; rfl
  | cons y r ih =>
    intro x
    show (minF r _).it = _
    rw [ih]
    simp only [List.map_cons, oldest]
    by_cases h : y.it.used < x.it.used
    · rw [if_pos h, if_pos h]
    · rw [if_neg h, if_neg h]
theorem minF_mem (L : List IR) : ∀ x, minF L x ∈ x :: L := by
  induction L with
  | nil => intro x; simp [minF]
  | cons y r ih =>
    intro x
    have := ih (if y.it.used < x.it.used then y else x)
    show minF r (if y.it.used < x.it.used then y else x) ∈ _
    rcases List.mem_cons.1 this with h | h
    · rw [h]
      by_cases h2 : y.it.used < x.it.used
      · rw [if_pos h2]; simp
      · rw [if_neg h2]; simp
    · simp [h]
theorem ItemAt.c2 {w : World} {f : IR} (h : ItemAt w f) : w.cell? ⟨f.G, 2, none⟩ = some (.int .u64 f.it.used) := by
  obtain ⟨_, _, h⟩ := h
  rw [h.blk.cell]
  rfl
set_option maxRecDepth 100000 in
set_option maxHeartbeats 1000000 in
/-- slices.MinFunc over the items. -/
theorem min_any {w : World} {v : Value} {x : IR} {L : List IR} (hr : OwnG ptrV 74 1 w 0 v (x :: L).length (x :: L)) (hL : (x :: L).length ≤ 2000) (hn : ∀ f ∈ x :: L, w.cell? ⟨f.G, 2, none⟩ = some (.int .u64 f.it.used)) :
    Calls Try.prog 60 #[v, .func (.func 61) #[] #[]] w fun e w' => e = .returned (.pointer (some ⟨(minF L x).G, 0, none⟩)) ∧ ∃ q, w' = w.drewN q := by
  obtain ⟨a, c, rfl, _, hnil, hcap⟩ := hr.shape ptr_rowed
  obtain ⟨b, rfl⟩ : ∃ b, a = some ⟨b, 0, none⟩ := by
    rcases hr.1.2 with ⟨e, e'⟩ | ⟨g, cap, cur, e, _⟩
    · simp at e'
    · cases e
      exact ⟨_, rfl⟩
  have cell : ∀ (q i : Nat) (f : IR), (x :: L)[i]? = some f → (w.drewN q).cell? ⟨b, i, none⟩ = some (.pointer (some ⟨f.G, 0, none⟩)) := fun q i f hi => ptr_cell hr i f hi
  have used : ∀ (q : Nat) (f : IR), f ∈ x :: L → (w.drewN q).cell? ⟨f.G, 2, none⟩ = some (.int .u64 f.it.used) := fun q f hf => hn f hf
  have c0 : w.cell? ⟨b, 0, none⟩ = some (.pointer (some ⟨x.G, 0, none⟩)) := ptr_cell hr 0 x rfl
  obtain ⟨n, hN⟩ := named (x :: L).length
  have hn1 : 1 ≤ n := by rw [← hN.out]; simp
  have hn2 : ¬ (n : Int) < 1 := by omega
  have hn3 : (0 : Int) < (n : Int) := by omega
  rw [hN.out] at hL hcap ⊢
  have HC := Lib.hid cell
  have HU := Lib.hid used
  have hnL : n = L.length + 1 := by rw [← hN.out]; simp
  have HNL := Lib.hid hnL
  clear hr hn cell used hnL
  go_enter Try.func60, Try.ntmps60
  go_wp2
  go_loopw [5, 6] (fun s5 s6 wr => ∃ i q : Nat, i + 1 ≤ n ∧ s5 = .pointer (some ⟨(minF (L.take i) x).G, 0, none⟩) ∧ s6 = .int .i64 ((i + 1 : Nat) : Int) ∧ Hid (wr = w.drewN q)) (fun _ s6 _ => n - (intOf s6).toNat)
  case atStart => exact ⟨0, 0, hn1, rfl, rfl, rfl⟩
  case round =>
    obtain ⟨i, q, hi, rfl, rfl, HW⟩ := hrel
    obtain rfl := HW.out
    by_cases hlt : i + 1 < n
    · obtain ⟨f, hf⟩ : ∃ f, L[i]? = some f := ⟨_, List.getElem?_eq_getElem (by have := HNL.out; omega)⟩
      have cm := HC.out q (i + 1) f (by simpa using hf)
      have u1 := HU.out q f (by simp [List.mem_of_getElem? hf])
      have u2 := HU.out q (minF (L.take i) x) (by
        rcases List.mem_cons.1 (minF_mem (L.take i) x) with h | h
        · rw [h]; simp
        · exact List.mem_cons_of_mem _ (List.mem_of_mem_take h))
      have HT : Hid (L.take (i + 1) = L.take i ++ [f]) := by rw [Hid, List.take_add_one, hf]; rfl
      have hsn := minF_snoc (L.take i) x f
      rw [← HT.out] at hsn
      have HSN := Lib.hid hsn
      have hlt2 : ((i + 1 : Nat) : Int) < (n : Int) := by omega
      obtain ⟨M, hM⟩ := named (minF (L.take i) x)
      rw [hM.out] at u2 HSN ⊢
      obtain ⟨G, hG⟩ := named f.G
      rw [hG.out] at cm u1
      obtain ⟨UF, hUF⟩ := named f.it.used
      rw [hUF.out] at u1
      obtain ⟨UM, hUM⟩ := named M.it.used
      rw [hUM.out] at u2
      clear hsn hf
      by_cases hyx : UF < UM
      · have hneg : cmpI (UF : Int) (UM : Int) < 0 := (cmpI_lt _ _).2 (by omega)
        have HY := Lib.hid hyx
        clear hyx
        go_wp2_with (go_at_call 61; refine (evict1_any G M.G UF UM _ u1 u2).mono ?_; rintro e w' ⟨rfl, q2, rfl⟩; have cm2 : (w.drewN (q + q2)).cell? ⟨b, i + 1, none⟩ = some (.pointer (some ⟨G, 0, none⟩)) := cm)
        go_roundw
        case rel =>
          refine ⟨i + 1, q + q2, by omega, ?_, by go_num, rfl⟩
          rw [HSN.out, if_pos (by rw [hUF.out, hUM.out]; exact HY.out), hG.out]
        case measure => simp [intOf]; omega
      · have hneg : ¬ cmpI (UF : Int) (UM : Int) < 0 := fun h => hyx (by have := (cmpI_lt _ _).1 h; omega)
        have HY := Lib.hid hyx
        clear hyx
        go_wp2_with (go_at_call 61; refine (evict1_any G M.G UF UM _ u1 u2).mono ?_; rintro e w' ⟨rfl, q2, rfl⟩)
        go_roundw
        case rel =>
          refine ⟨i + 1, q + q2, by omega, ?_, by go_num, rfl⟩
          rw [HSN.out, if_neg (by rw [hUF.out, hUM.out]; exact HY.out)]
        case measure => simp [intOf]; omega
    · have hi' : i = L.length := by have := HNL.out; omega
      have hz : ¬ ((i + 1 : Nat) : Int) < (n : Int) := by omega
      subst hi'
      rw [List.take_length]
      go_wp2
      go_ret
      exact ⟨rfl, _, rfl⟩
end Go.Proofs.Ythmkmhfoicfapaa
