/- Plain lemmas: a block known whole, what a call leaves alone, a drawer of numbers over bytes that came in. They speak of no function. -/
import Derived.Test.YtdpahikbikiilaaRows
import Derived.WalkKit
import Derived.WalkSpells
import Derived.WalkLawsBesides
import Derived.Lib.Hide
import Derived.Deep.AppendLies
namespace Go.Proofs.Ytdpahikbikiilaa
open Go.RowKit

theorem i64_and255 (n : Int) : bits .and .i64 n 255 = n % 256 := by
  have h127 : (BitVec.ofInt 64 255).toNat = 2 ^ 8 - 1 := by decide
  have key : (BitVec.ofInt 64 n &&& BitVec.ofInt 64 255).toNat = (n % ((2 ^ 64 : Nat) : Int)).toNat % 2 ^ 8 := by
    rw [BitVec.toNat_and, BitVec.toNat_ofInt, h127, Nat.and_two_pow_sub_one_eq_mod]
  show IntKind.i64.wrap ((BitVec.ofInt 64 n &&& BitVec.ofInt 64 255).toNat : Nat) = n % 256
  rw [key, IntKind.wrap_i64]
  omega

theorem u64_and24 (n : Int) : bits .and .u64 n 16777215 = n % 16777216 := by
  have h127 : (BitVec.ofInt 64 16777215).toNat = 2 ^ 24 - 1 := by decide
  have key : (BitVec.ofInt 64 n &&& BitVec.ofInt 64 16777215).toNat = (n % ((2 ^ 64 : Nat) : Int)).toNat % 2 ^ 24 := by
    rw [BitVec.toNat_and, BitVec.toNat_ofInt, h127, Nat.and_two_pow_sub_one_eq_mod]
  show IntKind.u64.wrap ((BitVec.ofInt 64 n &&& BitVec.ofInt 64 16777215).toNat : Nat) = n % 16777216
  rw [key]
  simp [IntKind.wrap, IntKind.bits, IntKind.signed]
  omega

theorem ret_int {k : IntKind} {a b : Int} (h : a = b) : Ending.returned (.int k a) = .returned (.int k b) := by rw [h]

theorem bcell {W w1 : World} (hb : Below W.heap.size W w1) : (∀ b o, b < W.heap.size → w1.cell? ⟨b, o, none⟩ = W.cell? ⟨b, o, none⟩) ∧ (∀ b o, b < W.heap.size → w1.frozen? ⟨b, o, none⟩ = W.frozen? ⟨b, o, none⟩) :=
  ⟨fun b o h => hb.cell (p := ⟨b, o, none⟩) h, fun b o h => hb.frozen (p := ⟨b, o, none⟩) h⟩

/-- A block known whole. -/
theorem blk_cell {w : World} {b o : Nat} {cs : Array Value} {t : TypeId} (h : w.heap[b]? = some (.cells cs t (0, 0))) : w.cell? ⟨b, o, none⟩ = cs[o]? := by simp [World.cell?, h]
theorem blk_free {w : World} {b o : Nat} {cs : Array Value} {t : TypeId} (h : w.heap[b]? = some (.cells cs t (0, 0))) : w.frozen? ⟨b, o, none⟩ = false := by simp [World.frozen?, h]
theorem blk_lt {w : World} {b : Nat} {o : Obj} (h : w.heap[b]? = some o) : b < w.heap.size := by
  rcases Nat.lt_or_ge b w.heap.size with h' | h'
  · exact h'
  · simp [Array.getElem?_eq_none h'] at h
theorem blk_set {w : World} {b o : Nat} {cs : Array Value} {t : TypeId} {u : Value} (h : w.heap[b]? = some (.cells cs t (0, 0))) : (w.setCell ⟨b, o, none⟩ u).heap[b]? = some (.cells (cs.setIfInBounds o u) t (0, 0)) := by
  have hlt := blk_lt h
  have h' : w.heap[b] = .cells cs t (0, 0) := by simpa [Array.getElem?_eq_getElem hlt] using h
  show (w.heap.modify b _)[b]? = _
  rw [Array.getElem?_eq_getElem (by simpa using hlt), Array.getElem_modify_self, h']
  rfl

theorem blk_new (w : World) (o : Obj) : (w.alloc o).heap[w.heap.size]? = some o := heap_alloc_new w o
theorem blk_new2 (w : World) (a b : Obj) : ((w.alloc a).alloc b).heap[w.heap.size + 1]? = some b := by have := blk_new (w.alloc a) b; simpa using this
theorem blk_alloc {w : World} {b : Nat} {o o' : Obj} (h : w.heap[b]? = some o) : (w.alloc o').heap[b]? = some o := by
  rw [Below.heap_alloc w o' b (blk_lt h)]; exact h
theorem blk_other {w : World} {b : Nat} {o : Obj} {p : Addr} {v : Value} (h : w.heap[b]? = some o) (hne : b ≠ p.block) : (w.setCell p v).heap[b]? = some o := by
  rw [Below.heap_setCell w p v b hne]; exact h
theorem cell_other {w : World} {g o b o' : Nat} {v : Value} (h : b ≠ g) : (w.setCell ⟨g, o, none⟩ v).cell? ⟨b, o', none⟩ = w.cell? ⟨b, o', none⟩ := World.cell?_of_block (Below.heap_setCell _ _ _ _ h)
theorem cell_alloc {w : World} {a : Addr} {v : Value} {o : Obj} (h : w.cell? a = some v) : (w.alloc o).cell? a = some v := by
  rw [World.cell?_alloc_lt w o a (World.block_lt_of_cell? w a h)]; exact h
theorem size_alloc_le {w : World} {k : Nat} {o : Obj} (h : k ≤ w.heap.size) : k ≤ (w.alloc o).heap.size := by simp; omega
theorem size_set2_le {w : World} {k : Nat} {a b : Addr} {u v : Value} (h : k ≤ w.heap.size) : k ≤ ((w.setCell a u).setCell b v).heap.size := by simpa [World.setCell] using h
theorem blk_grown {w w' : World} {b : Nat} {o : Obj} {row : Option Nat} (h : w.heap[b]? = some o) (hg : w.grownBy w' row) (hr : some b ≠ row) : w'.heap[b]? = some o := by
  rw [hg.block b (blk_lt h) hr]; exact h
theorem blk_below {w w' : World} {b B : Nat} {o : Obj} (h : w.heap[b]? = some o) (hb : Below B w w') (hlt : b < B) : w'.heap[b]? = some o := by
  rw [hb.block b hlt]; exact h
/-- What the walk asks of a block of two cells. -/
theorem blk_two {w : World} {b : Nat} {u0 u1 : Value} {t : TypeId} (h : w.heap[b]? = some (.cells #[u0, u1] t (0, 0))) :
    w.cell? ⟨b, 0, none⟩ = some u0 ∧ w.cell? ⟨b, 1, none⟩ = some u1 ∧ w.frozen? ⟨b, 0, none⟩ = false ∧ w.frozen? ⟨b, 1, none⟩ = false :=
  ⟨by rw [blk_cell h]; rfl, by rw [blk_cell h]; rfl, blk_free h, blk_free h⟩
theorem blk_three {w : World} {b : Nat} {u0 u1 u2 : Value} {t : TypeId} (h : w.heap[b]? = some (.cells #[u0, u1, u2] t (0, 0))) :
    w.cell? ⟨b, 0, none⟩ = some u0 ∧ w.cell? ⟨b, 1, none⟩ = some u1 ∧ w.cell? ⟨b, 2, none⟩ = some u2 ∧ w.frozen? ⟨b, 0, none⟩ = false ∧ w.frozen? ⟨b, 1, none⟩ = false ∧ w.frozen? ⟨b, 2, none⟩ = false :=
  ⟨by rw [blk_cell h]; rfl, by rw [blk_cell h]; rfl, by rw [blk_cell h]; rfl, blk_free h, blk_free h, blk_free h⟩

theorem blk_set2 {w : World} {g : Nat} {u0 u1 v0 v1 : Value} {t : TypeId} (h : w.heap[g]? = some (.cells #[u0, u1] t (0, 0))) : ((w.setCell ⟨g, 0, none⟩ v0).setCell ⟨g, 1, none⟩ v1).heap[g]? = some (.cells #[v0, v1] t (0, 0)) := blk_set (blk_set h)
theorem blk_set3 {w : World} {g : Nat} {u0 u1 u2 v0 v1 v2 : Value} {t : TypeId} (h : w.heap[g]? = some (.cells #[u0, u1, u2] t (0, 0))) : (((w.setCell ⟨g, 0, none⟩ v0).setCell ⟨g, 1, none⟩ v1).setCell ⟨g, 2, none⟩ v2).heap[g]? = some (.cells #[v0, v1, v2] t (0, 0)) := blk_set (blk_set (blk_set h))

/-- What a call may do: new blocks, and writes to block c alone. -/
theorem grown_set (w : World) (c o : Nat) (v : Value) : w.grownBy (w.setCell ⟨c, o, none⟩ v) (some c) :=
  ⟨rfl, rfl, rfl, by simp [World.setCell], fun k _ hk => Below.heap_setCell _ _ _ _ (fun e => hk (by simp [e]))⟩
theorem grown_below {w w' : World} (h : Below w.heap.size w w') (row : Option Nat) : w.grownBy w' row := ⟨h.os, h.tape, h.output, h.size, fun k hk _ => h.block k hk⟩
theorem grown_trans {a b c : World} {row : Option Nat} (h : a.grownBy b row) (k : b.grownBy c row) : a.grownBy c row :=
  ⟨k.os.trans h.os, k.tape.trans h.tape, k.output.trans h.output, Nat.le_trans h.size k.size, fun i hi hr => (k.block i (Nat.lt_of_lt_of_le hi h.size) hr).trans (h.block i hi hr)⟩
theorem grown_drewN {a b : World} {row : Option Nat} (h : a.grownBy b row) (n : Nat) : a.grownBy (b.drewN n) row := ⟨h.os, h.tape, h.output, h.size, h.block⟩
theorem grown_drew1 (w : World) (row : Option Nat) : w.grownBy w.drew row := ⟨rfl, rfl, rfl, Nat.le_refl _, fun _ _ _ => rfl⟩
theorem grown_alloc {a b : World} {row : Option Nat} (h : a.grownBy b row) (o : Obj) : a.grownBy (b.alloc o) row := grown_trans h (World.grownBy_alloc b o row)
/-- A write to a block that is new. -/
theorem grown_setNew {a b : World} {row : Option Nat} (h : a.grownBy b row) {p : Addr} (hp : a.heap.size ≤ p.block) (v : Value) : a.grownBy (b.setCell p v) row :=
  ⟨h.os, h.tape, h.output, by simpa [World.setCell] using h.size, fun k hk hr => (Below.heap_setCell _ _ _ _ (by omega)).trans (h.block k hk hr)⟩
theorem below_of_grown {B : Nat} {a w w' : World} {row : Option Nat} (h : Below B a w) (hg : w.grownBy w' row) (hB : B ≤ w.heap.size) (hr : ∀ k, row = some k → B ≤ k) : Below B a w' := h.grown hg hB hr
/-- What a call that writes to block c alone leaves as it was. -/
theorem gcell {W w1 : World} {c : Nat} (hg : W.grownBy w1 (some c)) : (∀ b o, b < W.heap.size → b ≠ c → w1.cell? ⟨b, o, none⟩ = W.cell? ⟨b, o, none⟩) ∧ (∀ b o, b < W.heap.size → b ≠ c → w1.frozen? ⟨b, o, none⟩ = W.frozen? ⟨b, o, none⟩) :=
  ⟨fun b o h hne => hg.cell_far ⟨b, o, none⟩ h (by simpa using hne), fun b o h hne => hg.frozen_far ⟨b, o, none⟩ h (by simpa using hne)⟩

/-- Bytes that came in: they lie below block number B. -/
def Bytes (B : Nat) (a : Option Addr) (n : Nat) (w : World) : Prop :=
  ∀ i, i < n → ∃ b off, a = some ⟨b, off, none⟩ ∧ b < B ∧ ∃ z : Int, 0 ≤ z ∧ z ≤ 255 ∧ w.cell? ⟨b, off + i, none⟩ = some (.int .u8 z)

/-- A drawer of numbers: a block of its own with the bytes, the place and the last number. -/
structure Drawer (T : TypeId) (k : IntKind) (B c : Nat) (a : Option Addr) (n cap : Nat) (w : World) : Prop where
  low : B ≤ c
  len : n ≤ 4096
  bytes : Bytes B a n w
  block : ∃ i h : Int, 0 ≤ i ∧ i ≤ n ∧ w.heap[c]? = some (.cells #[.slice a n cap, .int .i64 i, .int k h] T (0, 0))

theorem Bytes.grown {B : Nat} {a : Option Addr} {n : Nat} {w w' : World} {row : Option Nat} (h : Bytes B a n w) (hg : w.grownBy w' row) (hr : ∀ k, row = some k → B ≤ k) : Bytes B a n w' := by
  intro i hi
  obtain ⟨b, off, e, hb, z, z0, z1, hc⟩ := h i hi
  exact ⟨b, off, e, hb, z, z0, z1, hg.cell hc (fun e2 => by have := hr b e2.symm; omega)⟩

theorem Drawer.lt {T : TypeId} {k : IntKind} {B c : Nat} {a : Option Addr} {n cap : Nat} {w : World} (h : Drawer T k B c a n cap w) : c < w.heap.size := by
  obtain ⟨_, _, _, i, q, _, _, hb⟩ := h; exact blk_lt hb

/-- It stays one where another block is written, and new ones are made. -/
theorem Drawer.grown {T : TypeId} {k : IntKind} {B c : Nat} {a : Option Addr} {n cap : Nat} {w w' : World} {row : Option Nat} (h : Drawer T k B c a n cap w) (hg : w.grownBy w' row) (hr : ∀ j, row = some j → B ≤ j ∧ j ≠ c) : Drawer T k B c a n cap w' := by
  have hlt := h.lt
  obtain ⟨h1, h2, h3, i, q, i0, i1, hb⟩ := h
  exact ⟨h1, h2, h3.grown hg (fun j e => (hr j e).1), i, q, i0, i1, (hg.block c hlt (fun e => (hr c e.symm).2 rfl)).trans hb⟩

theorem Drawer.drew1 {T : TypeId} {k : IntKind} {B c : Nat} {a : Option Addr} {n cap : Nat} {w : World} (h : Drawer T k B c a n cap w) : Drawer T k B c a n cap w.drew := h.grown (grown_drew1 w none) (by simp)

/-- The place and the last number are other ones. -/
theorem Drawer.put {T : TypeId} {k : IntKind} {B c : Nat} {a : Option Addr} {n cap : Nat} {w w' : World} (h : Drawer T k B c a n cap w) (hg : w.grownBy w' (some c)) {i q : Int} (i0 : 0 ≤ i) (i1 : i ≤ n) (hb : w'.heap[c]? = some (.cells #[.slice a n cap, .int .i64 i, .int k q] T (0, 0))) : Drawer T k B c a n cap w' :=
  ⟨h.low, h.len, h.bytes.grown hg (fun j e => by cases e; exact h.low), i, q, i0, i1, hb⟩

/-- What a region that draws keeps: the drawer, and all that was there when it began. -/
structure Kept (T : TypeId) (k : IntKind) (B c : Nat) (a : Option Addr) (n cap : Nat) (base w' : World) : Prop where
  drawer : Drawer T k B c a n cap w'
  grown : base.grownBy w' (some c)

theorem Kept.start {T : TypeId} {k : IntKind} {B c : Nat} {a : Option Addr} {n cap : Nat} {w : World} (h : Drawer T k B c a n cap w) : Kept T k B c a n cap w w := ⟨h, World.grownBy.refl _ _⟩
theorem Kept.drew {T : TypeId} {k : IntKind} {B c : Nat} {a : Option Addr} {n cap : Nat} {base w : World} (h : Kept T k B c a n cap base w) : Kept T k B c a n cap base w.drew := ⟨h.drawer.drew1, grown_trans h.grown (grown_drew1 _ _)⟩
theorem Kept.call {T : TypeId} {k : IntKind} {B c : Nat} {a : Option Addr} {n cap : Nat} {base w w1 : World} (h : Kept T k B c a n cap base w) (hd : Drawer T k B c a n cap w1) (hg : w.grownBy w1 (some c)) : Kept T k B c a n cap base w1 := ⟨hd, grown_trans h.grown hg⟩
theorem Kept.below {T : TypeId} {k : IntKind} {B c : Nat} {a : Option Addr} {n cap : Nat} {base w w1 : World} (h : Kept T k B c a n cap base w) (hb : Below w.heap.size w w1) : Kept T k B c a n cap base w1 := ⟨h.drawer.grown (grown_below hb none) (by simp), grown_trans h.grown (grown_below hb _)⟩
theorem Kept.alloc {T : TypeId} {k : IntKind} {B c : Nat} {a : Option Addr} {n cap : Nat} {base w : World} (h : Kept T k B c a n cap base w) (o : Obj) : Kept T k B c a n cap base (w.alloc o) := ⟨h.drawer.grown (World.grownBy_alloc _ _ none) (by simp), grown_alloc h.grown o⟩
theorem Kept.set {T : TypeId} {k : IntKind} {B c : Nat} {a : Option Addr} {n cap : Nat} {base w : World} (h : Kept T k B c a n cap base w) {g : Nat} (hg : base.heap.size ≤ g) (hB : B ≤ base.heap.size) (hne : g ≠ c) (o : Nat) (v : Value) : Kept T k B c a n cap base (w.setCell ⟨g, o, none⟩ v) :=
  ⟨h.drawer.grown (grown_set w g o v) (by intro j hj; cases hj; exact ⟨by omega, hne⟩), grown_setNew h.grown hg v⟩
theorem Kept.cell {T : TypeId} {k : IntKind} {B c : Nat} {a : Option Addr} {n cap : Nat} {base w : World} (h : Kept T k B c a n cap base w) {p o : Nat} {v : Value} (hp : p < base.heap.size) (hne : p ≠ c) (hv : base.cell? ⟨p, o, none⟩ = some v) : w.cell? ⟨p, o, none⟩ = some v := ((gcell h.grown).1 p o hp hne).trans hv
theorem Kept.free {T : TypeId} {k : IntKind} {B c : Nat} {a : Option Addr} {n cap : Nat} {base w : World} (h : Kept T k B c a n cap base w) {p o : Nat} {v : Bool} (hp : p < base.heap.size) (hne : p ≠ c) (hv : base.frozen? ⟨p, o, none⟩ = v) : w.frozen? ⟨p, o, none⟩ = v := ((gcell h.grown).2 p o hp hne).trans hv
theorem Kept.blk {T : TypeId} {k : IntKind} {B c : Nat} {a : Option Addr} {n cap : Nat} {base w : World} (h : Kept T k B c a n cap base w) {p : Nat} {o : Obj} (hp : base.heap[p]? = some o) (hne : p ≠ c) : w.heap[p]? = some o := blk_grown hp h.grown (by simpa using hne)

theorem Kept.with1 {T : TypeId} {k : IntKind} {B c : Nat} {a : Option Addr} {n cap : Nat} {base w : World} {p o : Nat} {v : Value} (hp : p < base.heap.size) (hne : p ≠ c) (hv : base.cell? ⟨p, o, none⟩ = some v) (h : Kept T k B c a n cap base w) : w.cell? ⟨p, o, none⟩ = some v ∧ Kept T k B c a n cap base w := ⟨h.cell hp hne hv, h⟩
theorem Kept.set3 {T : TypeId} {k : IntKind} {B c : Nat} {a : Option Addr} {n cap : Nat} {base w : World} {g : Nat} {v0 v1 v2 : Value} (hB : B ≤ base.heap.size) (h : Kept T k B c a n cap base w) (hg : base.heap.size ≤ g) (hne : g ≠ c) : Kept T k B c a n cap base (((w.setCell ⟨g, 0, none⟩ v0).setCell ⟨g, 1, none⟩ v1).setCell ⟨g, 2, none⟩ v2) :=
  ((h.set hg hB hne 0 v0).set hg hB hne 1 v1).set hg hB hne 2 v2
theorem Kept.set2 {T : TypeId} {k : IntKind} {B c : Nat} {a : Option Addr} {n cap : Nat} {base w : World} {g : Nat} {v0 v1 : Value} (hB : B ≤ base.heap.size) (h : Kept T k B c a n cap base w) (hg : base.heap.size ≤ g) (hne : g ≠ c) : Kept T k B c a n cap base ((w.setCell ⟨g, 0, none⟩ v0).setCell ⟨g, 1, none⟩ v1) :=
  (h.set hg hB hne 0 v0).set hg hB hne 1 v1

theorem Drawer.set3 {T : TypeId} {k : IntKind} {B c : Nat} {a : Option Addr} {n cap : Nat} {w : World} (h : Drawer T k B c a n cap w) {g : Nat} {v0 v1 v2 : Value} (hB : B ≤ g) (hne : g ≠ c) : Drawer T k B c a n cap (((w.setCell ⟨g, 0, none⟩ v0).setCell ⟨g, 1, none⟩ v1).setCell ⟨g, 2, none⟩ v2) :=
  h.grown (grown_trans (grown_trans (grown_set w g 0 v0) (grown_set _ g 1 v1)) (grown_set _ g 2 v2)) (by intro j hj; cases hj; exact ⟨hB, hne⟩)
theorem Drawer.set2 {T : TypeId} {k : IntKind} {B c : Nat} {a : Option Addr} {n cap : Nat} {w : World} (h : Drawer T k B c a n cap w) {g : Nat} {v0 v1 : Value} (hB : B ≤ g) (hne : g ≠ c) : Drawer T k B c a n cap ((w.setCell ⟨g, 0, none⟩ v0).setCell ⟨g, 1, none⟩ v1) :=
  h.grown (grown_trans (grown_set w g 0 v0) (grown_set _ g 1 v1)) (by intro j hj; cases hj; exact ⟨hB, hne⟩)
theorem Drawer.set1 {T : TypeId} {k : IntKind} {B c : Nat} {a : Option Addr} {n cap : Nat} {w : World} (h : Drawer T k B c a n cap w) {g o : Nat} {v : Value} (hB : B ≤ g) (hne : g ≠ c) : Drawer T k B c a n cap (w.setCell ⟨g, o, none⟩ v) :=
  h.grown (grown_set w g o v) (by intro j hj; cases hj; exact ⟨hB, hne⟩)
theorem grown_setNew2 {a b : World} {row : Option Nat} (h : a.grownBy b row) {g : Nat} (hp : a.heap.size ≤ g) {v0 v1 : Value} : a.grownBy ((b.setCell ⟨g, 0, none⟩ v0).setCell ⟨g, 1, none⟩ v1) row := grown_setNew (grown_setNew h hp v0) hp v1
theorem grown_setNew3 {a b : World} {row : Option Nat} (h : a.grownBy b row) {g : Nat} (hp : a.heap.size ≤ g) {v0 v1 v2 : Value} : a.grownBy (((b.setCell ⟨g, 0, none⟩ v0).setCell ⟨g, 1, none⟩ v1).setCell ⟨g, 2, none⟩ v2) row := grown_setNew (grown_setNew (grown_setNew h hp v0) hp v1) hp v2

/-- What a function that draws leaves: a value as P says, the drawer, and nothing else that was there is another one. -/
def Drawn (T : TypeId) (k : IntKind) (B c : Nat) (a : Option Addr) (n cap : Nat) (P : Value → Prop) (w : World) (e : Ending) (w' : World) : Prop :=
  ∃ v, P v ∧ e = .returned v ∧ Drawer T k B c a n cap w' ∧ w.grownBy w' (some c)

/-- A number of 64 bits: behind a name, for no walk is to see its bounds. -/
def W64 (x : Int) : Prop := -9223372036854775808 ≤ x ∧ x ≤ 9223372036854775807

instance (x : Int) : Decidable (W64 x) := by unfold W64; infer_instance

theorem w64_wrap (x : Int) : W64 (wrap64 x) := by unfold W64 wrap64; omega

theorem w64_iwrap (x : Int) : W64 (IntKind.i64.wrap x) := by rw [IntKind.wrap_i64]; unfold W64; omega

theorem w64_of {x : Int} (h : -4611686018427387904 ≤ x) (h' : x ≤ 4611686018427387904) : W64 x := by unfold W64; omega

theorem w64_wf {x : Int} (h : (Lit.int .i64 x).wf = true) : W64 x := by
  simp [Lit.wf, IntKind.min, IntKind.max, IntKind.signed, IntKind.bits] at h
  unfold W64
  omega

theorem wf_w64 {x : Int} (h : W64 x) : (Lit.int .i64 x).wf = true := by
  unfold W64 at h
  simp [Lit.wf, IntKind.min, IntKind.max, IntKind.signed, IntKind.bits]
  omega

theorem w64_div {n : Int} (h : W64 n) (h0 : 0 ≤ n) : ∀ k : Int, 0 < k → wrap64 (n.tdiv k) = n / k := by
  intro k hk
  rw [Int.tdiv_eq_ediv_of_nonneg h0]
  have h1 : 0 ≤ n / k := Int.ediv_nonneg h0 (by omega)
  have h2 : n / k ≤ n := Int.ediv_le_self k h0
  unfold W64 at h
  unfold wrap64
  omega

/-- An integer from lo to hi. -/
def IntIn (lo hi : Int) (v : Value) : Prop := ∃ x : Int, v = .int .i64 x ∧ lo ≤ x ∧ x ≤ hi
/-- An integer. -/
def AnyInt (v : Value) : Prop := ∃ x : Int, v = .int .i64 x ∧ W64 x
def AnyBool (v : Value) : Prop := ∃ x : Bool, v = .bool x
/-- One of three by number. -/
def pick3 (x v0 v1 v2 : Int) : Int := if x = 0 then v0 else if x = 1 then v1 else v2

theorem pick3_at {x : Int} (h0 : 0 ≤ x) (h1 : x ≤ 2) : ∀ v0 v1 v2 : Int, (#[Value.int .i64 v0, Value.int .i64 v1, Value.int .i64 v2] : Array Value)[x.toNat]? = some (.int .i64 (pick3 x v0 v1 v2)) := by
  intro v0 v1 v2
  have hx : x = 0 ∨ x = 1 ∨ x = 2 := by omega
  rcases hx with rfl | rfl | rfl <;> rfl

theorem pick3_list {x : Int} (h0 : 0 ≤ x) (h1 : x ≤ 2) : ∀ (v0 v1 v2 : Int) (h : x.toNat < [Value.int .i64 v0, Value.int .i64 v1, Value.int .i64 v2].length), [Value.int .i64 v0, Value.int .i64 v1, Value.int .i64 v2][x.toNat]'h = .int .i64 (pick3 x v0 v1 v2) := by
  intro v0 v1 v2 h
  have hx : x = 0 ∨ x = 1 ∨ x = 2 := by omega
  rcases hx with rfl | rfl | rfl <;> rfl

theorem pick3_w64 {x v0 v1 v2 : Int} (h0 : W64 v0) (h1 : W64 v1) (h2 : W64 v2) : W64 (pick3 x v0 v1 v2) := by
  unfold pick3
  split
  · exact h0
  · split
    · exact h1
    · exact h2

end Go.Proofs.Ytdpahikbikiilaa
