/- Plain lemmas: a block known whole, what a call leaves alone, a drawer of numbers over bytes that came in. They speak of no function. -/
import Derived.Test.YtdiaigdfemfkaaaRows
import Derived.WalkKit
import Derived.WalkSpells
import Derived.WalkLawsBesides
import Derived.Lib.Hide
import Derived.Deep.AppendLies
namespace Go.Proofs.Ytdiaigdfemfkaaa
open Go.RowKit

theorem i64_and255 (n : Int) : bits .and .i64 n 255 = n % 256 := by
  have h127 : (BitVec.ofInt 64 255).toNat = 2 ^ 8 - 1 := by decide
  have key : (BitVec.ofInt 64 n &&& BitVec.ofInt 64 255).toNat = (n % ((2 ^ 64 : Nat) : Int)).toNat % 2 ^ 8 := by
    rw [BitVec.toNat_and, BitVec.toNat_ofInt, h127, Nat.and_two_pow_sub_one_eq_mod]
  show IntKind.i64.wrap ((BitVec.ofInt 64 n &&& BitVec.ofInt 64 255).toNat : Nat) = n % 256
  rw [key, IntKind.wrap_i64]
  omega

theorem u64_and24 (n : Int) : bits .and .u64 n 16777215 = n % 16777216 := by
  have h127 : (BitVec.ofInt 64 16777215).toNat = 2 ^ 24 - 1 := by decide
  have key : (BitVec.ofInt 64 n &&& BitVec.ofInt 64 16777215).toNat = (n % ((2 ^ 64 : Nat) : Int)).toNat % 2 ^ 24 := by
    rw [BitVec.toNat_and, BitVec.toNat_ofInt, h127, Nat.and_two_pow_sub_one_eq_mod]
  show IntKind.u64.wrap ((BitVec.ofInt 64 n &&& BitVec.ofInt 64 16777215).toNat : Nat) = n % 16777216
  rw [key]
  simp [IntKind.wrap, IntKind.bits, IntKind.signed]
  omega

theorem bcell {W w1 : World} (hb : Below W.heap.size W w1) : (∀ b o, b < W.heap.size → w1.cell? ⟨b, o, none⟩ = W.cell? ⟨b, o, none⟩) ∧ (∀ b o, b < W.heap.size → w1.frozen? ⟨b, o, none⟩ = W.frozen? ⟨b, o, none⟩) :=
  ⟨fun b o h => hb.cell (p := ⟨b, o, none⟩) h, fun b o h => hb.frozen (p := ⟨b, o, none⟩) h⟩

/-- A block known whole. -/
theorem blk_cell {w : World} {b o : Nat} {cs : Array Value} {t : TypeId} (h : w.heap[b]? = some (.cells cs t (0, 0))) : w.cell? ⟨b, o, none⟩ = cs[o]? := by simp [World.cell?, h]
theorem blk_free {w : World} {b o : Nat} {cs : Array Value} {t : TypeId} (h : w.heap[b]? = some (.cells cs t (0, 0))) : w.frozen? ⟨b, o, none⟩ = false := by simp [World.frozen?, h]
theorem blk_lt {w : World} {b : Nat} {o : Obj} (h : w.heap[b]? = some o) : b < w.heap.size := by
  rcases Nat.lt_or_ge b w.heap.size with h' | h'
  · exact h'
  · simp [Array.getElem?_eq_none h'] at h
theorem blk_set {w : World} {b o : Nat} {cs : Array Value} {t : TypeId} {u : Value} (h : w.heap[b]? = some (.cells cs t (0, 0))) : (w.setCell ⟨b, o, none⟩ u).heap[b]? = some (.cells (cs.setIfInBounds o u) t (0, 0)) := by
  have hlt := blk_lt h
  have h' : w.heap[b] = .cells cs t (0, 0) := by simpa [Array.getElem?_eq_getElem hlt] using h
  show (w.heap.modify b _)[b]? = _
  rw [Array.getElem?_eq_getElem (by simpa using hlt), Array.getElem_modify_self, h']
  rfl

theorem blk_new (w : World) (o : Obj) : (w.alloc o).heap[w.heap.size]? = some o := heap_alloc_new w o
theorem blk_alloc {w : World} {b : Nat} {o o' : Obj} (h : w.heap[b]? = some o) : (w.alloc o').heap[b]? = some o := by
  rw [Below.heap_alloc w o' b (blk_lt h)]; exact h
theorem blk_other {w : World} {b : Nat} {o : Obj} {p : Addr} {v : Value} (h : w.heap[b]? = some o) (hne : b ≠ p.block) : (w.setCell p v).heap[b]? = some o := by
  rw [Below.heap_setCell w p v b hne]; exact h
theorem blk_grown {w w' : World} {b : Nat} {o : Obj} {row : Option Nat} (h : w.heap[b]? = some o) (hg : w.grownBy w' row) (hr : some b ≠ row) : w'.heap[b]? = some o := by
  rw [hg.block b (blk_lt h) hr]; exact h
theorem blk_below {w w' : World} {b B : Nat} {o : Obj} (h : w.heap[b]? = some o) (hb : Below B w w') (hlt : b < B) : w'.heap[b]? = some o := by
  rw [hb.block b hlt]; exact h
/-- What the walk asks of a block of two cells. -/
theorem blk_two {w : World} {b : Nat} {u0 u1 : Value} {t : TypeId} (h : w.heap[b]? = some (.cells #[u0, u1] t (0, 0))) :
    w.cell? ⟨b, 0, none⟩ = some u0 ∧ w.cell? ⟨b, 1, none⟩ = some u1 ∧ w.frozen? ⟨b, 0, none⟩ = false ∧ w.frozen? ⟨b, 1, none⟩ = false :=
  ⟨by rw [blk_cell h]; rfl, by rw [blk_cell h]; rfl, blk_free h, blk_free h⟩
theorem blk_three {w : World} {b : Nat} {u0 u1 u2 : Value} {t : TypeId} (h : w.heap[b]? = some (.cells #[u0, u1, u2] t (0, 0))) :
    w.cell? ⟨b, 0, none⟩ = some u0 ∧ w.cell? ⟨b, 1, none⟩ = some u1 ∧ w.cell? ⟨b, 2, none⟩ = some u2 ∧ w.frozen? ⟨b, 0, none⟩ = false ∧ w.frozen? ⟨b, 1, none⟩ = false ∧ w.frozen? ⟨b, 2, none⟩ = false :=
  ⟨by rw [blk_cell h]; rfl, by rw [blk_cell h]; rfl, by rw [blk_cell h]; rfl, blk_free h, blk_free h, blk_free h⟩

/-- What a call may do: new blocks, and writes to block c alone. -/
theorem grown_set (w : World) (c o : Nat) (v : Value) : w.grownBy (w.setCell ⟨c, o, none⟩ v) (some c) :=
  ⟨rfl, rfl, rfl, by simp [World.setCell], fun k _ hk => Below.heap_setCell _ _ _ _ (fun e => hk (by simp [e]))⟩
theorem grown_below {w w' : World} (h : Below w.heap.size w w') (row : Option Nat) : w.grownBy w' row := ⟨h.os, h.tape, h.output, h.size, fun k hk _ => h.block k hk⟩
theorem grown_trans {a b c : World} {row : Option Nat} (h : a.grownBy b row) (k : b.grownBy c row) : a.grownBy c row :=
  ⟨k.os.trans h.os, k.tape.trans h.tape, k.output.trans h.output, Nat.le_trans h.size k.size, fun i hi hr => (k.block i (Nat.lt_of_lt_of_le hi h.size) hr).trans (h.block i hi hr)⟩
theorem grown_drewN {a b : World} {row : Option Nat} (h : a.grownBy b row) (n : Nat) : a.grownBy (b.drewN n) row := ⟨h.os, h.tape, h.output, h.size, h.block⟩
theorem grown_alloc {a b : World} {row : Option Nat} (h : a.grownBy b row) (o : Obj) : a.grownBy (b.alloc o) row := grown_trans h (World.grownBy_alloc b o row)
/-- A write to a block that is new. -/
theorem grown_setNew {a b : World} {row : Option Nat} (h : a.grownBy b row) {p : Addr} (hp : a.heap.size ≤ p.block) (v : Value) : a.grownBy (b.setCell p v) row :=
  ⟨h.os, h.tape, h.output, by simpa [World.setCell] using h.size, fun k hk hr => (Below.heap_setCell _ _ _ _ (by omega)).trans (h.block k hk hr)⟩
theorem below_of_grown {B : Nat} {a w w' : World} {row : Option Nat} (h : Below B a w) (hg : w.grownBy w' row) (hB : B ≤ w.heap.size) (hr : ∀ k, row = some k → B ≤ k) : Below B a w' := h.grown hg hB hr
/-- What a call that writes to block c alone leaves as it was. -/
theorem gcell {W w1 : World} {c : Nat} (hg : W.grownBy w1 (some c)) : (∀ b o, b < W.heap.size → b ≠ c → w1.cell? ⟨b, o, none⟩ = W.cell? ⟨b, o, none⟩) ∧ (∀ b o, b < W.heap.size → b ≠ c → w1.frozen? ⟨b, o, none⟩ = W.frozen? ⟨b, o, none⟩) :=
  ⟨fun b o h hne => hg.cell_far ⟨b, o, none⟩ h (by simpa using hne), fun b o h hne => hg.frozen_far ⟨b, o, none⟩ h (by simpa using hne)⟩

/-- Bytes that came in: they lie below block number B. -/
def Bytes (B : Nat) (a : Option Addr) (n : Nat) (w : World) : Prop :=
  ∀ i, i < n → ∃ b off, a = some ⟨b, off, none⟩ ∧ b < B ∧ ∃ z : Int, 0 ≤ z ∧ z ≤ 255 ∧ w.cell? ⟨b, off + i, none⟩ = some (.int .u8 z)

/-- A drawer of numbers: a block of its own with the bytes, the place and the last number. -/
structure Drawer (T : TypeId) (k : IntKind) (B c : Nat) (a : Option Addr) (n cap : Nat) (w : World) : Prop where
  low : B ≤ c
  len : n ≤ 4096
  bytes : Bytes B a n w
  block : ∃ i h : Int, 0 ≤ i ∧ i ≤ n ∧ w.heap[c]? = some (.cells #[.slice a n cap, .int .i64 i, .int k h] T (0, 0))

theorem Bytes.grown {B : Nat} {a : Option Addr} {n : Nat} {w w' : World} {row : Option Nat} (h : Bytes B a n w) (hg : w.grownBy w' row) (hr : ∀ k, row = some k → B ≤ k) : Bytes B a n w' := by
  intro i hi
  obtain ⟨b, off, e, hb, z, z0, z1, hc⟩ := h i hi
  exact ⟨b, off, e, hb, z, z0, z1, hg.cell hc (fun e2 => by have := hr b e2.symm; omega)⟩

theorem Drawer.lt {T : TypeId} {k : IntKind} {B c : Nat} {a : Option Addr} {n cap : Nat} {w : World} (h : Drawer T k B c a n cap w) : c < w.heap.size := by
  obtain ⟨_, _, _, i, q, _, _, hb⟩ := h; exact blk_lt hb

/-- It stays one where another block is written, and new ones are made. -/
theorem Drawer.grown {T : TypeId} {k : IntKind} {B c : Nat} {a : Option Addr} {n cap : Nat} {w w' : World} {row : Option Nat} (h : Drawer T k B c a n cap w) (hg : w.grownBy w' row) (hr : ∀ j, row = some j → B ≤ j ∧ j ≠ c) : Drawer T k B c a n cap w' := by
  have hlt := h.lt
  obtain ⟨h1, h2, h3, i, q, i0, i1, hb⟩ := h
  exact ⟨h1, h2, h3.grown hg (fun j e => (hr j e).1), i, q, i0, i1, (hg.block c hlt (fun e => (hr c e.symm).2 rfl)).trans hb⟩

/-- The place and the last number are other ones. -/
theorem Drawer.put {T : TypeId} {k : IntKind} {B c : Nat} {a : Option Addr} {n cap : Nat} {w w' : World} (h : Drawer T k B c a n cap w) (hg : w.grownBy w' (some c)) {i q : Int} (i0 : 0 ≤ i) (i1 : i ≤ n) (hb : w'.heap[c]? = some (.cells #[.slice a n cap, .int .i64 i, .int k q] T (0, 0))) : Drawer T k B c a n cap w' :=
  ⟨h.low, h.len, h.bytes.grown hg (fun j e => by cases e; exact h.low), i, q, i0, i1, hb⟩

/-- What a function that draws leaves: a value as P says, the drawer, and nothing else that was there is another one. -/
def Drawn (T : TypeId) (k : IntKind) (B c : Nat) (a : Option Addr) (n cap : Nat) (P : Value → Prop) (w : World) (e : Ending) (w' : World) : Prop :=
  ∃ v, P v ∧ e = .returned v ∧ Drawer T k B c a n cap w' ∧ w.grownBy w' (some c)

/-- An integer from lo to hi. -/
def IntIn (lo hi : Int) (v : Value) : Prop := ∃ x : Int, v = .int .i64 x ∧ lo ≤ x ∧ x ≤ hi
/-- An integer. -/
def AnyInt (v : Value) : Prop := ∃ x : Int, v = .int .i64 x
def AnyBool (v : Value) : Prop := ∃ x : Bool, v = .bool x
end Go.Proofs.Ytdiaigdfemfkaaa
