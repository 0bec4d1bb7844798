/- The model of the rings: a full one. -/
import Derived.Test.YtdpahikbikiilaaS6c
import Derived.Test.YtdpahikbikiilaaS5b
import Derived.Deep.RegionHeld3
import Derived.OneCell
namespace Go.Proofs.Ytdpahikbikiilaa
open Go.RowKit

/-- The words of a full ring when k numbers have been laid into it. -/
def fullW (s : Int) : Nat → List Int
  | 0 => newWords s (2 * s).toNat
  | k + 1 => (fullW s k).set (placeD s (2 * s + k)).toNat (wordD s (cycD s (2 * s + k)) k true)

theorem fullW_len (s : Int) (k : Nat) : (fullW s k).length = (2 * s).toNat := by
  induction k with
  | zero => simp [fullW, newWords]
  | succ k ih => simp [fullW, ih]

theorem vals_set (xs : List Int) (j : Nat) (x : Int) : (vals xs).set j (.int .i64 x) = vals (xs.set j x) := by simp [vals, List.map_set]

/-- What a round keeps: the plan, room for the answer, the ring that is filled. -/
def FR (w : World) (s t : Int) (g cap k R : Nat) (w' : World) : Prop :=
  Held w.heap.size (w.heap.size + 1 + 1) [(w.heap.size + 1, .cells #[.slice none 0 0, .int .i64 0, .int .i64 0, .int .i64 0] 32), (w.heap.size, .cells #[.int .i64 s, .int .i64 t] 38)] w w' ∧
  w'.heap[R]? = some (.cells #[.slice (some ⟨g, 0, none⟩) (2 * s).toNat cap, .int .i64 (2 * s), .int .i64 (2 * s + k), .int .i64 (-1)] 32 (0, 0))

theorem FR.mk {w : World} {s t : Int} {g cap k R : Nat} {w' : World} (h1 : Held w.heap.size (w.heap.size + 1 + 1) [(w.heap.size + 1, .cells #[.slice none 0 0, .int .i64 0, .int .i64 0, .int .i64 0] 32), (w.heap.size, .cells #[.int .i64 s, .int .i64 t] 38)] w w')
    (h2 : w'.heap[R]? = some (.cells #[.slice (some ⟨g, 0, none⟩) (2 * s).toNat cap, .int .i64 (2 * s), .int .i64 (2 * s + k), .int .i64 (-1)] 32 (0, 0))) : FR w s t g cap k R w' := ⟨h1, h2⟩

theorem FR.step {w : World} {s t : Int} {g cap k R : Nat} {w1 w2 : World} (h : FR w s t g cap k R w1) (hb : Below w1.heap.size w1 w2) : FR w s t g cap k R w2 := ⟨h.1.step hb, blk_below h.2 hb (blk_lt h.2)⟩

theorem FR.set {w : World} {s t : Int} {g cap k R : Nat} {w1 : World} {o : Nat} {v : Value} (h : FR w s t g cap k R w1) (hg : w.heap.size + 1 + 1 ≤ g) (hR : R ≠ g) : FR w s t g cap k R (w1.setCell ⟨g, o, none⟩ v) := ⟨h.1.set hg o v, blk_other h.2 hR⟩

theorem FR.facts {w : World} {s t : Int} {g cap k R : Nat} {w' : World} (h : FR w s t g cap k R w') :
    w'.cell? ⟨w.heap.size, 0, none⟩ = some (.int .i64 s) ∧ w'.cell? ⟨w.heap.size, 1, none⟩ = some (.int .i64 t) ∧ w'.cell? ⟨R, 0, none⟩ = some (.slice (some ⟨g, 0, none⟩) (2 * s).toNat cap) ∧ w'.cell? ⟨R, 2, none⟩ = some (.int .i64 (2 * s + k)) ∧ FR w s t g cap k R w' :=
  ⟨(blk_two h.1.tl.hd).1, (blk_two h.1.tl.hd).2.1, (blk_four h.2).1, (blk_four h.2).2.2.1, h⟩

def frW (s t : Int) : List Int := if okP s t then fullW s s.toNat else []

def frH (s t : Int) : Int := if okP s t then 2 * s else 0

def frT (s t : Int) : Int := if okP s t then 3 * s else 0

def frL (s t : Int) : Int := if okP s t then 3 * s - 1 else 0

end Go.Proofs.Ytdpahikbikiilaa
