/- Blocks known whole and slices of numbers that read as lists: what calls that only make memory leave as it was. It speaks of no function. -/
import Derived.Test.YtdpahikbikiilaaInts
namespace Go.Proofs.Ytdpahikbikiilaa
open Go.RowKit

/-- A slice of numbers, anywhere in memory. -/
def IntsW (q : Option Addr × Nat × List Int) (w : World) : Prop := Ints w.heap.size q.1 q.2.1 q.2.2 w

theorem IntsW.step {q : Option Addr × Nat × List Int} {w w' : World} (h : IntsW q w) (hb : Below w.heap.size w w') : IntsW q w' := (Ints.below h hb).mono hb.size

theorem IntsW.drew {q : Option Addr × Nat × List Int} {w : World} (h : IntsW q w) : IntsW q w.drew := h

theorem IntsW.alloc {q : Option Addr × Nat × List Int} {w : World} (h : IntsW q w) (o : Obj) : IntsW q (w.alloc o) := (Ints.grown h (World.grownBy_alloc w o none) (by simp)).mono (by simp)

/-- A block that holds a list. -/
theorem IntsW.block {g : Nat} {xs : List Int} {t : TypeId} {w : World} (h : w.heap[g]? = some (.cells (vals xs).toArray t (0, 0))) : IntsW (some ⟨g, 0, none⟩, xs.length, xs) w :=
  ⟨rfl, fun i x hx => ⟨g, 0, rfl, blk_lt h, by rw [blk_cell h, Nat.zero_add]; simp [vals, hx]⟩⟩

theorem IntsW.at_block {g n : Nat} {xs : List Int} {t : TypeId} {w : World} (h : w.heap[g]? = some (.cells (vals xs).toArray t (0, 0))) (hn : xs.length = n) : IntsW (some ⟨g, 0, none⟩, n, xs) w := by
  subst hn; exact IntsW.block h

/-- The cell of one of its numbers. -/
theorem IntsW.cell {b off n i : Nat} {xs : List Int} {x : Int} {w : World} (h : IntsW (some ⟨b, off, none⟩, n, xs) w) (hx : xs[i]? = some x) : w.cell? ⟨b, off + i, none⟩ = some (.int .i64 x) := by
  obtain ⟨b', off', e, -, hc⟩ := h.2 i x hx
  cases e
  exact hc

/-- A write to a block in which the slice does not lie. -/
theorem IntsW.set {q : Option Addr × Nat × List Int} {w : World} {g o : Nat} {v : Value} (h : IntsW q w) (hg : ∀ b off, q.1 = some ⟨b, off, none⟩ → b ≠ g) : IntsW q (w.setCell ⟨g, o, none⟩ v) :=
  ⟨h.1, fun i x hx => by
    obtain ⟨b, off, e, hb, hc⟩ := h.2 i x hx
    exact ⟨b, off, e, by simpa [World.setCell] using hb, by rw [cell_other (hg b off e)]; exact hc⟩⟩

theorem blk_is {w : World} {b o : Nat} {cs : Array Value} {t : TypeId} {v : Value} (h : w.heap[b]? = some (.cells cs t (0, 0))) (hv : cs[o]? = some v) : w.cell? ⟨b, o, none⟩ = some v := (blk_cell h).trans hv

/-- Blocks known whole, slices that read as lists, all below number N, and nothing below block number B is another one. -/
def Hold (B N : Nat) (l : List (Nat × Obj)) (is : List (Option Addr × Nat × List Int)) (base w : World) : Prop := Held B N l base w ∧ ∀ q ∈ is, Ints N q.1 q.2.1 q.2.2 w

theorem Hold.start (w : World) : Hold w.heap.size w.heap.size [] [] w w := ⟨Held.start w, fun q hq => (by cases hq)⟩

theorem Hold.step {B N : Nat} {l : List (Nat × Obj)} {is : List (Option Addr × Nat × List Int)} {base w w' : World} (h : Hold B N l is base w) (hb : Below w.heap.size w w') : Hold B N l is base w' := ⟨h.1.step hb, fun q hq => (h.2 q hq).below (hb.mono h.1.size)⟩

theorem Hold.drew {B N : Nat} {l : List (Nat × Obj)} {is : List (Option Addr × Nat × List Int)} {base w : World} (h : Hold B N l is base w) : Hold B N l is base w.drew := ⟨h.1.drew, fun q hq => h.2 q hq⟩

theorem Hold.alloc {B N : Nat} {l : List (Nat × Obj)} {is : List (Option Addr × Nat × List Int)} {base w : World} (h : Hold B N l is base w) (o : Obj) : Hold B N l is base (w.alloc o) := ⟨h.1.alloc o, fun q hq => (h.2 q hq).grown (World.grownBy_alloc w o none) (by simp)⟩

theorem Hold.up {B N : Nat} {l : List (Nat × Obj)} {is : List (Option Addr × Nat × List Int)} {base w : World} (h : Hold B N l is base w) : Hold B w.heap.size l is base w := ⟨h.1.up, fun q hq => (h.2 q hq).mono h.1.size⟩

theorem Hold.new {B N : Nat} {l : List (Nat × Obj)} {is : List (Option Addr × Nat × List Int)} {base w : World} (h : Hold B N l is base w) (o : Obj) : Hold B (w.heap.size + 1) ((w.heap.size, o) :: l) is base (w.alloc o) := ⟨h.1.new o, fun q hq => ((h.alloc o).2 q hq).mono (Nat.le_succ_of_le h.1.size)⟩

theorem Hold.add {B N b : Nat} {o : Obj} {l : List (Nat × Obj)} {is : List (Option Addr × Nat × List Int)} {base w : World} (h : Hold B N l is base w) (hb : w.heap[b]? = some o) : Hold B w.heap.size ((b, o) :: l) is base w := ⟨h.1.add hb, h.up.2⟩

theorem Hold.addI {B N : Nat} {q : Option Addr × Nat × List Int} {l : List (Nat × Obj)} {is : List (Option Addr × Nat × List Int)} {base w : World} (h : Hold B N l is base w) (hq : IntsW q w) : Hold B w.heap.size l (q :: is) base w :=
  ⟨h.1.up, fun p hp => by
    rcases List.mem_cons.1 hp with rfl | hp
    · exact hq
    · exact h.up.2 p hp⟩

theorem Hold.tl {B N : Nat} {p : Nat × Obj} {l : List (Nat × Obj)} {is : List (Option Addr × Nat × List Int)} {base w : World} (h : Hold B N (p :: l) is base w) : Hold B N l is base w := ⟨h.1.tl, h.2⟩

theorem Hold.hd {B N b : Nat} {o : Obj} {l : List (Nat × Obj)} {is : List (Option Addr × Nat × List Int)} {base w : World} (h : Hold B N ((b, o) :: l) is base w) : w.heap[b]? = some o := h.1.hd

theorem Hold.ints {B N : Nat} {q : Option Addr × Nat × List Int} {l : List (Nat × Obj)} {is : List (Option Addr × Nat × List Int)} {base w : World} (h : Hold B N l (q :: is) base w) : IntsW q w := (h.2 q List.mem_cons_self).mono h.1.size

theorem Hold.ihd {B N : Nat} {q : Option Addr × Nat × List Int} {l : List (Nat × Obj)} {is : List (Option Addr × Nat × List Int)} {base w : World} (h : Hold B N l (q :: is) base w) : Ints w.heap.size q.1 q.2.1 q.2.2 w := h.ints

theorem Hold.itl {B N : Nat} {q : Option Addr × Nat × List Int} {l : List (Nat × Obj)} {is : List (Option Addr × Nat × List Int)} {base w : World} (h : Hold B N l (q :: is) base w) : Hold B N l is base w := ⟨h.1, fun p hp => h.2 p (List.mem_cons_of_mem _ hp)⟩

/-- From this world on. -/
theorem Hold.rebase {B N : Nat} {l : List (Nat × Obj)} {is : List (Option Addr × Nat × List Int)} {base w : World} (h : Hold B N l is base w) : Hold w.heap.size w.heap.size l is w w :=
  ⟨⟨fun p hp => h.up.1.1 p hp, Nat.le_refl _, Nat.le_refl _, Below.refl _ _⟩, h.up.2⟩

theorem Hold.below {B N : Nat} {l : List (Nat × Obj)} {is : List (Option Addr × Nat × List Int)} {base w : World} (h : Hold B N l is base w) : Below B base w := h.1.below

theorem Hold.size {B N : Nat} {l : List (Nat × Obj)} {is : List (Option Addr × Nat × List Int)} {base w : World} (h : Hold B N l is base w) : N ≤ w.heap.size := h.1.size

/-- A write to a block above the bound. -/
theorem Hold.set {B N : Nat} {l : List (Nat × Obj)} {is : List (Option Addr × Nat × List Int)} {base w : World} (h : Hold B N l is base w) {g : Nat} (hg : N ≤ g) (o : Nat) (v : Value) : Hold B N l is base (w.setCell ⟨g, o, none⟩ v) :=
  ⟨h.1.set hg o v, fun q hq => by
    have hi := h.2 q hq
    refine ⟨hi.1, fun i x hx => ?_⟩
    obtain ⟨b, off, e, hb, hc⟩ := hi.2 i x hx
    exact ⟨b, off, e, hb, by rw [cell_other (by omega)]; exact hc⟩⟩

/-- A call that writes to one row above the bound alone. -/
theorem Hold.grown {B N : Nat} {l : List (Nat × Obj)} {is : List (Option Addr × Nat × List Int)} {base w w' : World} {row : Option Nat} (h : Hold B N l is base w) (hg : w.grownBy w' row) (hr : ∀ k, row = some k → N ≤ k) : Hold B N l is base w' :=
  ⟨⟨fun p hp => ⟨(h.1.1 p hp).1, blk_grown (h.1.1 p hp).2 hg (fun e => by have := hr _ e.symm; have := (h.1.1 p hp).1; omega)⟩, h.1.2.1, Nat.le_trans h.1.2.2.1 hg.size, h.1.2.2.2.grown hg (Nat.le_trans h.1.2.1 h.1.2.2.1) (fun k e => Nat.le_trans h.1.2.1 (hr k e))⟩,
    fun q hq => (h.2 q hq).grown hg hr⟩

end Go.Proofs.Ytdpahikbikiilaa
