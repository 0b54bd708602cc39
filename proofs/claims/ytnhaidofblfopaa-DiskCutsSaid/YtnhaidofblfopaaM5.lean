/-
  How the disk finds a file (package disk): ready, place, find, open; what lies in which block. Conditions: the disk in memory.
-/
import Derived.Test.YtnhaidofblfopaaL5
namespace Go.Proofs.Ytnhaidofblfopaa
open Go.RowKit

theorem FileAt.name {w : World} {f : FR} (h : FileAt w f) : w.cell? ⟨f.G, 0, none⟩ = some (.string f.name) := by
  obtain ⟨_, _, _, h⟩ := h
  rw [h.blk.cell]
  rfl
theorem name_one {L : List FR} (h : L.Pairwise fun f g => nmLt f.name g.name) {f g : FR} (hf : f ∈ L) (hg : g ∈ L) (e : f.name = g.name) : f = g := by
  obtain ⟨i, hi⟩ := List.getElem?_of_mem hf
  obtain ⟨j, hj⟩ := List.getElem?_of_mem hg
  rcases Nat.lt_trichotomy i j with h' | h' | h'
  · exact absurd (rise_at h hi hj h') (by rw [e]; exact nm_irrefl _)
  · subst h'
    rw [hi] at hj
    exact Option.some.inj hj
  · exact absurd (rise_at h hj hi h') (by rw [e]; exact nm_irrefl _)
section
variable {w : World} {B room cnt fails : Nat} {vF : Value} {L : List FR} {dead : Bool}
theorem DiskIn.c1 (h : DiskIn w B room vF L cnt fails dead) : w.cell? ⟨B, 1, none⟩ = some vF := by rw [h.blk.cell]; rfl
theorem DiskIn.c0 (h : DiskIn w B room vF L cnt fails dead) : w.cell? ⟨B, 0, none⟩ = some (.int .i64 room) := by rw [h.blk.cell]; rfl
theorem DiskIn.c2 (h : DiskIn w B room vF L cnt fails dead) : w.cell? ⟨B, 2, none⟩ = some (.int .u64 cnt) := by rw [h.blk.cell]; rfl
theorem DiskIn.c3 (h : DiskIn w B room vF L cnt fails dead) : w.cell? ⟨B, 3, none⟩ = some (.int .u64 fails) := by rw [h.blk.cell]; rfl
theorem DiskIn.c4 (h : DiskIn w B room vF L cnt fails dead) : w.cell? ⟨B, 4, none⟩ = some (.bool dead) := by rw [h.blk.cell]; rfl
theorem DiskIn.frame {w' : World} (h : DiskIn w B room vF L cnt fails dead) (hb : ∀ k, (k = B ∨ vF.ownBlock = some k ∨ ∃ f ∈ L, f.S k) → w'.heap[k]? = w.heap[k]?) : DiskIn w' B room vF L cnt fails dead :=
  ⟨(hb B (Or.inl rfl)).trans h.blk, h.row.frame fun k hk => hb k (Or.inr (Or.inl hk)), fun f hf => (h.file f hf).frame fun k hk => hb k (Or.inr (Or.inr ⟨f, hf, hk⟩)), h.apart, h.out⟩
theorem ready_any (h : DiskIn w B room vF L cnt fails dead) : Calls Try.prog 26 #[.pointer (some ⟨B, 0, none⟩)] w fun e w' => e = .returned (.int .i64 (if dead then 8 else 0)) ∧ w' = w := by
  have c4 := h.c4
  clear h
  cases dead
  all_goals
    go_enter Try.func26, Try.ntmps26
    go_wp2
    go_ret
    exact ⟨rfl, rfl⟩
theorem place_any (h : DiskIn w B room vF L cnt fails dead) (hs : L.Pairwise fun f g => nmLt f.name g.name) (hm : L.length ≤ 32) (s : Nm) :
    Calls Try.prog 28 #[.pointer (some ⟨B, 0, none⟩), .string s] w fun e w' => (∃ k found, e = .returned (.tuple #[.int .i64 (k : Nat), .bool found]) ∧ Pos L s k found) ∧ w' = w := by
  have c1 := h.c1
  have H := Lib.hid h
  have HS := Lib.hid hs
  clear h hs
  go_enter Try.func28, Try.ntmps28
  go_wp2_with (go_at_call 45; refine (search_any H.out.row (by omega) (fun f hf => (H.out.file f hf).name) HS.out s).mono ?_; rintro e w' ⟨⟨k, found, rfl, hP⟩, rfl⟩)
  go_ret2
  exact ⟨⟨k, found, rfl, hP⟩, rfl⟩
/-- A file that is there. -/
theorem find_some (h : DiskIn w B room vF L cnt fails dead) (hs : L.Pairwise fun f g => nmLt f.name g.name) (hm : L.length ≤ 32) {f : FR} (hf : f ∈ L) :
    Calls Try.prog 39 #[.pointer (some ⟨B, 0, none⟩), .string f.name] w fun e w' => e = .returned (.tuple #[.pointer (some ⟨f.G, 0, none⟩), .int .i64 0]) ∧ w' = w := by
  have c1 := h.c1
  have H := Lib.hid h
  have HS := Lib.hid hs
  have HF := Lib.hid hf
  obtain ⟨a, c, rfl, _, hnil, hcap⟩ := h.row.shape ptr_rowed
  clear h hs hf
  obtain ⟨s, hsn⟩ := named f.name
  rw [hsn.out]
  go_enter Try.func39, Try.ntmps39
  go_wp2_with (go_at_call 28; refine (place_any H.out HS.out hm s).mono ?_; rintro e w' ⟨⟨k, found, rfl, hP⟩, rfl⟩; have hk : L[k]? = some f := (by
      obtain ⟨i, hi⟩ := List.getElem?_of_mem HF.out
      rcases Nat.lt_trichotomy i k with h' | h' | h'
      · exact absurd (hP.ahead i f hi h') (by rw [hsn.out]; exact nm_irrefl _)
      · exact h' ▸ hi
      · obtain ⟨g, hg⟩ : ∃ g, L[k]? = some g := ⟨_, List.getElem?_eq_getElem (by have := (List.getElem?_eq_some_iff.1 hi).1; omega)⟩
        exact absurd (hsn.out ▸ rise_at HS.out hg hi h') (hP.behind k g hg (Nat.le_refl _))); obtain rfl : found = true := hP.found.2 ⟨f, hk, hsn.out⟩; have hkl : k < L.length := (List.getElem?_eq_some_iff.1 hk).1; obtain ⟨b, rfl⟩ : ∃ b, a = some ⟨b, 0, none⟩ := (by
      rcases H.out.row.1.2 with ⟨e, e'⟩ | ⟨g, cap, cur, e, _⟩
      · omega
      · cases e
        exact ⟨_, rfl⟩); have ck := ptr_cell H.out.row k f hk; clear hP hk)
  go_ret2
  exact ⟨rfl, rfl⟩
theorem find_none (h : DiskIn w B room vF L cnt fails dead) (hs : L.Pairwise fun f g => nmLt f.name g.name) (hm : L.length ≤ 32) (s : Nm) (hf : ∀ f ∈ L, f.name ≠ s) :
    Calls Try.prog 39 #[.pointer (some ⟨B, 0, none⟩), .string s] w fun e w' => e = .returned (.tuple #[.pointer none, .int .i64 4]) ∧ w' = w := by
  have H := Lib.hid h
  have HS := Lib.hid hs
  have HF := Lib.hid hf
  clear h hs hf
  go_enter Try.func39, Try.ntmps39
  go_wp2_with (go_at_call 28; refine (place_any H.out HS.out hm s).mono ?_; rintro e w' ⟨⟨k, found, rfl, hP⟩, rfl⟩; obtain rfl : found = false := (by
      cases found
      · rfl
      · obtain ⟨f, h1, h2⟩ := hP.found.1 rfl
        exact absurd h2 (HF.out f (List.mem_of_getElem? h1))); clear hP)
  go_ret2
  exact ⟨rfl, rfl⟩
theorem open_some (h : DiskIn w B room vF L cnt fails false) (hs : L.Pairwise fun f g => nmLt f.name g.name) (hm : L.length ≤ 32) {f : FR} (hf : f ∈ L) :
    Calls Try.prog 30 #[.pointer (some ⟨B, 0, none⟩), .string f.name] w fun e w' => e = .returned (.tuple #[.pointer (some ⟨f.G, 0, none⟩), .int .i64 0]) ∧ w' = w := by
  have H := Lib.hid h
  have HS := Lib.hid hs
  have HF := Lib.hid hf
  clear h hs hf
  go_enter Try.func30, Try.ntmps30
  go_wp2_with (first | (go_at_call 26; refine (ready_any H.out).mono ?_; rintro e w' ⟨rfl, rfl⟩) | (go_at_call 39; refine (find_some H.out HS.out hm HF.out).mono ?_; rintro e w' ⟨rfl, rfl⟩))
  go_ret2
  exact ⟨rfl, rfl⟩
theorem open_none (h : DiskIn w B room vF L cnt fails false) (hs : L.Pairwise fun f g => nmLt f.name g.name) (hm : L.length ≤ 32) (s : Nm) (hf : ∀ f ∈ L, f.name ≠ s) :
    Calls Try.prog 30 #[.pointer (some ⟨B, 0, none⟩), .string s] w fun e w' => e = .returned (.tuple #[.pointer none, .int .i64 4]) ∧ w' = w := by
  have H := Lib.hid h
  have HS := Lib.hid hs
  have HF := Lib.hid hf
  clear h hs hf
  go_enter Try.func30, Try.ntmps30
  go_wp2_with (first | (go_at_call 26; refine (ready_any H.out).mono ?_; rintro e w' ⟨rfl, rfl⟩) | (go_at_call 39; refine (find_none H.out HS.out hm s HF.out).mono ?_; rintro e w' ⟨rfl, rfl⟩))
  go_ret2
  exact ⟨rfl, rfl⟩
theorem open_dead (h : DiskIn w B room vF L cnt fails true) (s : Nm) :
    Calls Try.prog 30 #[.pointer (some ⟨B, 0, none⟩), .string s] w fun e w' => e = .returned (.tuple #[.pointer none, .int .i64 8]) ∧ w' = w := by
  have H := Lib.hid h
  clear h
  go_enter Try.func30, Try.ntmps30
  go_wp2_with (go_at_call 26; refine (ready_any H.out).mono ?_; rintro e w' ⟨rfl, rfl⟩)
  go_ret2
  exact ⟨rfl, rfl⟩
end
end Go.Proofs.Ytnhaidofblfopaa
