/- Slices of numbers that are read as lists; slices of a call's own. It speaks of no function. -/
import Derived.Test.YtdpahikbikiilaaHeld
import Derived.Laws.OwnMore
namespace Go.Proofs.Ytdpahikbikiilaa
open Go.RowKit

/-- A slice of n numbers that lies below block number B and reads as the list. -/
def Ints (B : Nat) (a : Option Addr) (n : Nat) (xs : List Int) (w : World) : Prop :=
  xs.length = n ∧ ∀ i x, xs[i]? = some x → ∃ b off, a = some ⟨b, off, none⟩ ∧ b < B ∧ w.cell? ⟨b, off + i, none⟩ = some (.int .i64 x)

theorem Ints.mono {B B' : Nat} {a : Option Addr} {n : Nat} {xs : List Int} {w : World} (h : Ints B a n xs w) (hB : B ≤ B') : Ints B' a n xs w :=
  ⟨h.1, fun i x hx => by obtain ⟨b, off, e, hb, hc⟩ := h.2 i x hx; exact ⟨b, off, e, Nat.lt_of_lt_of_le hb hB, hc⟩⟩

theorem Ints.grown {B : Nat} {a : Option Addr} {n : Nat} {xs : List Int} {w w' : World} {row : Option Nat} (h : Ints B a n xs w) (hg : w.grownBy w' row) (hr : ∀ k, row = some k → B ≤ k) : Ints B a n xs w' :=
  ⟨h.1, fun i x hx => by
    obtain ⟨b, off, e, hb, hc⟩ := h.2 i x hx
    exact ⟨b, off, e, hb, hg.cell hc (fun e2 => by have := hr b e2.symm; omega)⟩⟩

theorem Ints.below {B : Nat} {a : Option Addr} {n : Nat} {xs : List Int} {w w' : World} (h : Ints B a n xs w) (hb : Below B w w') : Ints B a n xs w' :=
  ⟨h.1, fun i x hx => by
    obtain ⟨b, off, e, hlt, hc⟩ := h.2 i x hx
    exact ⟨b, off, e, hlt, by rw [hb.cell (p := ⟨b, off + i, none⟩) hlt]; exact hc⟩⟩

/-- The number at k. -/
theorem Ints.at_ {B : Nat} {a : Option Addr} {n : Nat} {xs : List Int} {w : World} (h : Ints B a n xs w) {k : Nat} (hk : k < n) : ∃ b off, a = some ⟨b, off, none⟩ ∧ b < B ∧ ∃ x, xs[k]? = some x ∧ w.cell? ⟨b, off + k, none⟩ = some (.int .i64 x) := by
  have hl : k < xs.length := by rw [h.1]; exact hk
  obtain ⟨b, off, e, hb, hc⟩ := h.2 k xs[k] (List.getElem?_eq_getElem hl)
  exact ⟨b, off, e, hb, xs[k], List.getElem?_eq_getElem hl, hc⟩

/-- The list as values. -/
def vals (xs : List Int) : List Value := xs.map (Value.int .i64)

/-- A row of a call's own reads as its list. -/
theorem Ints.own {base : Nat} {E : TypeId} {a : Option Addr} {n cap : Nat} {xs : List Int} {w : World} (h : w.ownsRow base E 1 (.slice a n cap) n (vals xs)) : Ints w.heap.size a n xs w := by
  refine ⟨by have := h.1; simpa [vals] using this, fun i x hx => ?_⟩
  have hv : (vals xs)[i]? = some (.int .i64 x) := by simp [vals, hx]
  rcases h.2 with ⟨-, h0⟩ | ⟨g, cap', cur, he, hg, hh, hnc, hm, hs, hcur⟩
  · have := h.1; simp [vals] at this
    have hi : i < xs.length := by
      rcases Nat.lt_or_ge i xs.length with h' | h'
      · exact h'
      · simp [List.getElem?_eq_none h'] at hx
    omega
  · injection he with ha _ _
    subst ha
    refine ⟨g, 0, rfl, blk_lt hh, ?_⟩
    have := h.cellAt (g := g) (cap := cap) i (by
      have hl := h.1
      have : i < (vals xs).length := by
        rcases Nat.lt_or_ge i (vals xs).length with h' | h'
        · exact h'
        · simp [List.getElem?_eq_none h'] at hv
      omega)
    rw [Nat.zero_add, this]; exact hv

/-- A block of four cells. -/
theorem blk_four {w : World} {b : Nat} {u0 u1 u2 u3 : Value} {t : TypeId} (h : w.heap[b]? = some (.cells #[u0, u1, u2, u3] t (0, 0))) :
    w.cell? ⟨b, 0, none⟩ = some u0 ∧ w.cell? ⟨b, 1, none⟩ = some u1 ∧ w.cell? ⟨b, 2, none⟩ = some u2 ∧ w.cell? ⟨b, 3, none⟩ = some u3 ∧ w.frozen? ⟨b, 0, none⟩ = false ∧ w.frozen? ⟨b, 1, none⟩ = false ∧ w.frozen? ⟨b, 2, none⟩ = false ∧ w.frozen? ⟨b, 3, none⟩ = false :=
  ⟨by rw [blk_cell h]; rfl, by rw [blk_cell h]; rfl, by rw [blk_cell h]; rfl, by rw [blk_cell h]; rfl, blk_free h, blk_free h, blk_free h, blk_free h⟩

theorem own_some {base : Nat} {E : TypeId} {a : Option Addr} {n cap : Nat} {xs : List Value} {w : World} (h : w.ownsRow base E 1 (.slice a n cap) n xs) (hn : 0 < n) : ∃ g, a = some ⟨g, 0, none⟩ := by
  rcases h.2 with ⟨-, h0⟩ | ⟨g, cap', cur, he, -⟩
  · omega
  · injection he with ha _ _
    exact ⟨g, ha⟩

theorem own_len {base : Nat} {E : TypeId} {v : Value} {n : Nat} {xs : List Int} {w : World} (h : w.ownsRow base E 1 v n (vals xs)) : xs.length = n := by
  have := h.1; simpa [vals] using this

end Go.Proofs.Ytdpahikbikiilaa
