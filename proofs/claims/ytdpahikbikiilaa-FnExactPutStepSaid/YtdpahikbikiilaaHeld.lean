/- Blocks known whole, as a list: what calls that only make memory leave as it was. It speaks of no function. -/
import Derived.Test.YtdpahikbikiilaaCells
namespace Go.Proofs.Ytdpahikbikiilaa
open Go.RowKit

/-- Each block of the list is known whole and lies below number N; nothing below block number B is another one. -/
def Held (B N : Nat) (l : List (Nat × Obj)) (base w : World) : Prop := (∀ p ∈ l, p.1 < N ∧ w.heap[p.1]? = some p.2) ∧ B ≤ N ∧ N ≤ w.heap.size ∧ Below B base w

theorem Held.start (w : World) : Held w.heap.size w.heap.size [] w w := ⟨fun p hp => (by cases hp), Nat.le_refl _, Nat.le_refl _, Below.refl _ _⟩

theorem Held.below {B N : Nat} {l : List (Nat × Obj)} {base w : World} (h : Held B N l base w) : Below B base w := h.2.2.2

theorem Held.size {B N : Nat} {l : List (Nat × Obj)} {base w : World} (h : Held B N l base w) : N ≤ w.heap.size := h.2.2.1

theorem Held.hd {B N b : Nat} {o : Obj} {l : List (Nat × Obj)} {base w : World} (h : Held B N ((b, o) :: l) base w) : w.heap[b]? = some o := (h.1 (b, o) List.mem_cons_self).2

theorem Held.tl {B N : Nat} {p : Nat × Obj} {l : List (Nat × Obj)} {base w : World} (h : Held B N (p :: l) base w) : Held B N l base w := ⟨fun q hq => h.1 q (List.mem_cons_of_mem _ hq), h.2⟩

/-- The bound is the heap's size again. -/
theorem Held.up {B N : Nat} {l : List (Nat × Obj)} {base w : World} (h : Held B N l base w) : Held B w.heap.size l base w :=
  ⟨fun p hp => ⟨Nat.lt_of_lt_of_le (h.1 p hp).1 h.2.2.1, (h.1 p hp).2⟩, Nat.le_trans h.2.1 h.2.2.1, Nat.le_refl _, h.2.2.2⟩

theorem Held.add {B N b : Nat} {o : Obj} {l : List (Nat × Obj)} {base w : World} (h : Held B N l base w) (hb : w.heap[b]? = some o) : Held B w.heap.size ((b, o) :: l) base w :=
  ⟨fun p hp => by
    rcases List.mem_cons.1 hp with rfl | hp
    · exact ⟨blk_lt hb, hb⟩
    · exact h.up.1 p hp, h.up.2⟩

theorem Held.step {B N : Nat} {l : List (Nat × Obj)} {base w w' : World} (h : Held B N l base w) (hb : Below w.heap.size w w') : Held B N l base w' :=
  ⟨fun p hp => ⟨(h.1 p hp).1, blk_below (h.1 p hp).2 hb (blk_lt (h.1 p hp).2)⟩, h.2.1, Nat.le_trans h.2.2.1 hb.size, h.2.2.2.trans (hb.mono (Nat.le_trans h.2.1 h.2.2.1))⟩

theorem Held.drew {B N : Nat} {l : List (Nat × Obj)} {base w : World} (h : Held B N l base w) : Held B N l base w.drew := ⟨h.1, h.2.1, h.2.2.1, h.2.2.2.drew⟩

theorem Held.alloc {B N : Nat} {l : List (Nat × Obj)} {base w : World} (h : Held B N l base w) (o : Obj) : Held B N l base (w.alloc o) :=
  ⟨fun p hp => ⟨(h.1 p hp).1, blk_alloc (h.1 p hp).2⟩, h.2.1, by have := h.2.2.1; simp; omega, h.2.2.2.alloc (Nat.le_trans h.2.1 h.2.2.1) _⟩

theorem Held.new {B N : Nat} {l : List (Nat × Obj)} {base w : World} (h : Held B N l base w) (o : Obj) : Held B (w.heap.size + 1) ((w.heap.size, o) :: l) base (w.alloc o) := by
  have := (h.alloc o).add (blk_new w o)
  simpa using this

/-- A write to a block above the bound. -/
theorem Held.set {B N : Nat} {l : List (Nat × Obj)} {base w : World} (h : Held B N l base w) {g : Nat} (hg : N ≤ g) (o : Nat) (v : Value) : Held B N l base (w.setCell ⟨g, o, none⟩ v) :=
  ⟨fun p hp => ⟨(h.1 p hp).1, blk_other (h.1 p hp).2 (by have := (h.1 p hp).1; simp; omega)⟩, h.2.1, by simpa [World.setCell] using h.2.2.1, h.2.2.2.setCell (Nat.le_trans h.2.1 hg) _⟩

theorem Held.set3 {B N : Nat} {l : List (Nat × Obj)} {base w : World} {g : Nat} {v0 v1 v2 : Value} (h : Held B N l base w) (hg : N ≤ g) : Held B N l base (((w.setCell ⟨g, 0, none⟩ v0).setCell ⟨g, 1, none⟩ v1).setCell ⟨g, 2, none⟩ v2) :=
  ((h.set hg 0 v0).set hg 1 v1).set hg 2 v2

/-- A block that was made just ahead of a call. -/
theorem new_below {W wx : World} {o : Obj} (hb : Below (W.alloc o).heap.size (W.alloc o) wx) : wx.heap[W.heap.size]? = some o := blk_below (blk_new W o) hb (by simp)

theorem new_drew_below {W wx : World} {o : Obj} (hb : Below (W.alloc o).drew.heap.size (W.alloc o).drew wx) : wx.heap[W.heap.size]? = some o :=
  blk_below (w := (W.alloc o).drew) (blk_new W o) hb (by show W.heap.size < (W.alloc o).heap.size; simp)

/-- A pointer to a block known whole. -/
def Points (o : Obj) (K : Nat → World → Prop) (v : Value) (wx : World) : Prop := ∃ g, v = .pointer (some ⟨g, 0, none⟩) ∧ wx.heap[g]? = some o ∧ K g wx

end Go.Proofs.Ytdpahikbikiilaa
