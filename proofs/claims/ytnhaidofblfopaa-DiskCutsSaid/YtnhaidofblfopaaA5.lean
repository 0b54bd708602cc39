/-
  A disk in memory (package disk): a block for the disk, a row of pointers, a block and three rows a file. Conditions: none.
-/
import Derived.Test.YtnhaidofblfopaaBl
import Derived.Test.YtnhaidofblfopaaS2
import Derived.Test.YtnhaidofblfopaaZ6
namespace Go.Proofs.Ytnhaidofblfopaa
open Go.RowKit

/-- A record's cells. -/
def recV (r : Nat × Nat × Sec) : List Value := .int .u64 r.1 :: .int .i64 r.2.1 :: (List.range 16).map fun j => .int .u8 (r.2.2.getD j 0)
theorem recV_len (r : Nat × Nat × Sec) : (recV r).length = 18 := by simp [recV]
/-- A file of the project's own: its name, its block, its blocks; what stands, what is kept, the writes that are not. -/
structure FR where
  name : Nm
  G : Nat
  S : Nat → Prop
  now : List Sec
  dur : List Sec
  wr : List (Nat × Nat × Sec)
def ptrV (f : FR) : List Value := [.pointer (some ⟨f.G, 0, none⟩)]
def SecOk (s : Sec) : Prop := s.length = 16 ∧ ∀ c ∈ s, 0 ≤ c ∧ c < 256
structure FR.Ok (f : FR) : Prop where
  now : f.now.length ≤ 65536
  dur : f.dur.length ≤ 65536
  now16 : ∀ x ∈ f.now, x.length = 16
  dur16 : ∀ x ∈ f.dur, x.length = 16
  wr : ∀ r ∈ f.wr, r.2.1 < 65536 ∧ SecOk r.2.2 ∧ r.1 ≤ 2000000
  wrs : f.wr.length ≤ 2000000
/-- The file in memory: its three rows by name. -/
structure FileIn (w : World) (f : FR) (vn vd vw : Value) : Prop where
  ok : f.Ok
  blk : Blk w f.G 65 #[.string f.name, vn, vd, vw]
  now : Own w 0 vn (16 * f.now.length) f.now.flatten
  dur : Own w 0 vd (16 * f.dur.length) f.dur.flatten
  wr : OwnG recV 77 18 w 0 vw f.wr.length f.wr
  apart : ∀ k, vn.ownBlock = some k → vd.ownBlock ≠ some k
  mine : ∀ k, f.S k ↔ (k = f.G ∨ vn.ownBlock = some k ∨ vd.ownBlock = some k ∨ vw.ownBlock = some k)
def FileAt (w : World) (f : FR) : Prop := ∃ vn vd vw, FileIn w f vn vd vw
theorem Own.lt {w : World} {base : Nat} {v : Value} {n : Nat} {xs : List Int} (h : Own w base v n xs) {k : Nat} (hk : v.ownBlock = some k) : k < w.heap.size := (h.1.lt k hk).2
theorem ownsRow_frame {w w' : World} {base : Nat} {e : TypeId} {sz : Nat} {v : Value} {n : Nat} {xs : List Value} (h : w.ownsRow base e sz v n xs) (hb : ∀ k, v.ownBlock = some k → w'.heap[k]? = w.heap[k]?) : w'.ownsRow base e sz v n xs := by
  refine ⟨h.1, ?_⟩
  rcases h.2 with h2 | ⟨g, cap, cur, rfl, h3, h4, h5⟩
  · exact Or.inl h2
  · exact Or.inr ⟨g, cap, cur, rfl, h3, (hb g rfl).trans h4, h5⟩
theorem Own.frame {w w' : World} {base : Nat} {v : Value} {n : Nat} {xs : List Int} (h : Own w base v n xs) (hb : ∀ k, v.ownBlock = some k → w'.heap[k]? = w.heap[k]?) : Own w' base v n xs := ⟨ownsRow_frame h.1 hb, h.2⟩
theorem OwnG.frame {α : Type} {cv : α → List Value} {e : TypeId} {sz : Nat} {w w' : World} {base n : Nat} {v : Value} {l : List α} (h : OwnG cv e sz w base v n l) (hb : ∀ k, v.ownBlock = some k → w'.heap[k]? = w.heap[k]?) : OwnG cv e sz w' base v n l := ⟨ownsRow_frame h.1 hb, h.2⟩
theorem FileIn.lt {w : World} {f : FR} {vn vd vw : Value} (h : FileIn w f vn vd vw) : ∀ k, f.S k → k < w.heap.size := fun k hk => by
  rcases (h.mine k).1 hk with rfl | h1 | h1 | h1
  · exact h.blk.lt
  · exact h.now.lt h1
  · exact h.dur.lt h1
  · exact (h.wr.1.lt k h1).2
theorem FileIn.frame {w w' : World} {f : FR} {vn vd vw : Value} (h : FileIn w f vn vd vw) (hb : ∀ k, f.S k → w'.heap[k]? = w.heap[k]?) : FileIn w' f vn vd vw :=
  ⟨h.ok, (hb f.G ((h.mine _).2 (Or.inl rfl))).trans h.blk, h.now.frame fun k hk => hb k ((h.mine k).2 (Or.inr (Or.inl hk))), h.dur.frame fun k hk => hb k ((h.mine k).2 (Or.inr (Or.inr (Or.inl hk)))),
    h.wr.frame fun k hk => hb k ((h.mine k).2 (Or.inr (Or.inr (Or.inr hk)))), h.apart, h.mine⟩
theorem FileAt.lt {w : World} {f : FR} (h : FileAt w f) : ∀ k, f.S k → k < w.heap.size := by
  obtain ⟨_, _, _, h⟩ := h
  exact h.lt
theorem FileAt.frame {w w' : World} {f : FR} (h : FileAt w f) (hb : ∀ k, f.S k → w'.heap[k]? = w.heap[k]?) : FileAt w' f := by
  obtain ⟨a, b, c, h⟩ := h
  exact ⟨a, b, c, h.frame hb⟩

/-- The disk in memory. -/
structure DiskIn (w : World) (B : Nat) (room : Nat) (vF : Value) (L : List FR) (cnt fails : Nat) (dead : Bool) : Prop where
  blk : Blk w B 59 #[.int .i64 room, vF, .int .u64 cnt, .int .u64 fails, .bool dead]
  row : OwnG ptrV 61 1 w 0 vF L.length L
  file : ∀ f ∈ L, FileAt w f
  apart : L.Pairwise fun f g => ∀ k, f.S k → ¬ g.S k
  out : ∀ f ∈ L, ¬ f.S B ∧ ∀ k, vF.ownBlock = some k → ¬ f.S k
/-- The numbers of the writes that are not kept. -/
def PendOk (cnt : Nat) (pend : List (Nm × Nat × Sec)) (L : List FR) : Prop :=
  ∃ M : List (Nat × Nm × Nat × Sec), M.map (·.2) = pend ∧ M.Pairwise (fun a b => a.1 < b.1) ∧ (∀ x ∈ M, x.1 ≤ cnt) ∧ (∀ f ∈ L, f.wr = (M.filter fun x => decide (x.2.1 = f.name)).map fun x => (x.1, x.2.2)) ∧ ∀ x ∈ M, ∃ f ∈ L, f.name = x.2.1
/-- What it stands for. -/
structure Rel (D : Dsk) (room : Nat) (L : List FR) (cnt fails : Nat) (dead : Bool) : Prop where
  roomEq : D.room = room
  roomB : room ≤ 1048576
  deadEq : D.dead = dead
  cntEq : D.cnt = cnt
  cntB : cnt ≤ 2000000
  failsB : fails < 18446744073709551616
  fuse : dead = false → (fails = 0 ∧ D.fuse = 0) ∨ (0 < D.fuse ∧ fails = cnt + D.fuse)
  rise : L.Pairwise fun f g => f.name.data.toList < g.name.data.toList
  many : L.length ≤ 32
  perm : D.files.Perm (L.map fun f => (f.name, ⟨f.now, f.dur⟩))
  cov : ∀ f ∈ L, Cov f.now f.dur (f.wr.map (·.2))
  pend : PendOk cnt D.pend L
/-- The disk at p is D; its own blocks are those of S. -/
def DiskAt (w : World) (p : Addr) (D : Dsk) (S : Nat → Prop) : Prop :=
  ∃ B room vF L cnt fails dead, p = ⟨B, 0, none⟩ ∧ DiskIn w B room vF L cnt fails dead ∧ Rel D room L cnt fails dead ∧ ∀ k, S k ↔ (k = B ∨ vF.ownBlock = some k ∨ ∃ f ∈ L, f.S k)
theorem DiskAt.lt {w : World} {p : Addr} {D : Dsk} {S : Nat → Prop} (h : DiskAt w p D S) : ∀ k, S k → k < w.heap.size := by
  obtain ⟨B, room, vF, L, cnt, fails, dead, _, h, _, hS⟩ := h
  intro k hk
  rcases (hS k).1 hk with rfl | h1 | ⟨f, hf, h1⟩
  · exact h.blk.lt
  · exact (h.row.1.lt k h1).2
  · exact (h.file f hf).lt k h1
theorem DiskAt.frame {w w' : World} {p : Addr} {D : Dsk} {S : Nat → Prop} (h : DiskAt w p D S) (_ : w.heap.size ≤ w'.heap.size) (hb : ∀ k, S k → w'.heap[k]? = w.heap[k]?) : DiskAt w' p D S := by
  obtain ⟨B, room, vF, L, cnt, fails, dead, hp, h, hR, hS⟩ := h
  exact ⟨B, room, vF, L, cnt, fails, dead, hp, ⟨(hb B ((hS _).2 (Or.inl rfl))).trans h.blk, h.row.frame fun k hk => hb k ((hS k).2 (Or.inr (Or.inl hk))),
    fun f hf => (h.file f hf).frame fun k hk => hb k ((hS k).2 (Or.inr (Or.inr ⟨f, hf, hk⟩))), h.apart, h.out⟩, hR, hS⟩
theorem rec_rowed : Rowed Try.prog 63 77 18 32 recV where
  under := Try.underlying63
  info := by
    have h : (Try.prog.info? 77).map (fun i => (i.zero.map (fun z => z.cells.size), i.size, i.bytes)) = some (some 18, 18, 32) := by kernel_rfl
    obtain ⟨i, hi, he⟩ := Option.map_eq_some_iff.1 h
    simp only [Prod.mk.injEq] at he
    obtain ⟨z, hz, hzs⟩ := Option.map_eq_some_iff.1 he.1
    exact ⟨i, z, hi, hz, he.2.1, he.2.2, hzs⟩
  pos := by decide
  small := by decide
  len := recV_len
  one := fun x u hu => by
    rcases List.mem_cons.1 hu with rfl | hu
    · rfl
    · rcases List.mem_cons.1 hu with rfl | hu
      · rfl
      · obtain ⟨j, _, rfl⟩ := List.mem_map.1 hu
        rfl
theorem ptr_rowed : Rowed Try.prog 51 61 1 8 ptrV where
  under := Try.underlying51
  info := by
    have h : (Try.prog.info? 61).map (fun i => (i.zero.map (fun z => z.cells.size), i.size, i.bytes)) = some (some 1, 1, 8) := by kernel_rfl
    obtain ⟨i, hi, he⟩ := Option.map_eq_some_iff.1 h
    simp only [Prod.mk.injEq] at he
    obtain ⟨z, hz, hzs⟩ := Option.map_eq_some_iff.1 he.1
    exact ⟨i, z, hi, hz, he.2.1, he.2.2, hzs⟩
  pos := by decide
  small := by decide
  len := fun _ => rfl
  one := fun x u hu => by
    simp [ptrV] at hu
    subst hu
    rfl
end Go.Proofs.Ytnhaidofblfopaa
