/- The model of the rings: a new one. -/
import Derived.Test.YtdpahikbikiilaaS6
import Derived.Deep.AppendLies
import Derived.Deep.RegionLaw
import Derived.OwnWalk
namespace Go.Proofs.Ytdpahikbikiilaa
open Go.RowKit

theorem own_grown {base : Nat} {E : TypeId} {v : Value} {n : Nat} {xs : List Value} {w w' : World} (h : w.ownsRow base E 1 v n xs) (hb : Below w.heap.size w w') : w'.ownsRow base E 1 v n xs :=
  h.kept (grown_below hb none) (by
    by_cases e : v.ownBlock = none
    · exact Or.inl e
    · exact Or.inr e)

theorem own_low {base base' : Nat} {E : TypeId} {v : Value} {n : Nat} {xs : List Value} {w : World} (h : w.ownsRow base E 1 v n xs) (hb : base' ≤ base) : w.ownsRow base' E 1 v n xs := by
  obtain ⟨hl, h⟩ := h
  refine ⟨hl, ?_⟩
  rcases h with h | ⟨g, cap, cur, h1, h2, h3⟩
  · exact Or.inl h
  · exact Or.inr ⟨g, cap, cur, h1, Nat.le_trans hb h2, h3⟩

theorem Held.grown {B N : Nat} {l : List (Nat × Obj)} {base w w' : World} {row : Option Nat} (h : Held B N l base w) (hg : w.grownBy w' row) (hr : ∀ k, row = some k → N ≤ k) : Held B N l base w' :=
  ⟨fun p hp => ⟨(h.1 p hp).1, blk_grown (h.1 p hp).2 hg (fun e => by have := hr p.1 e.symm; have := (h.1 p hp).1; omega)⟩, h.2.1, Nat.le_trans h.2.2.1 hg.size, h.2.2.2.grown hg (Nat.le_trans h.2.1 h.2.2.1) (fun k e => Nat.le_trans h.2.1 (hr k e))⟩

/-- A ring's numbers are all the word of an empty entry. -/
def newWords (s : Int) (k : Nat) : List Int := List.replicate k (4 * s - 1)

theorem newWords_step (s : Int) (k : Nat) : vals (newWords s k) ++ [Value.int .i64 (4 * s - 1)] = vals (newWords s (k + 1)) := by
  simp [vals, newWords, List.replicate_succ']

/-- A ring of new memory. -/
def GivesRing (xs : List Int) (h tl l : Int) (w : World) (e : Ending) (w' : World) : Prop :=
  ∃ a n cap, e = .returned (.agg #[.slice a n cap, .int .i64 h, .int .i64 tl, .int .i64 l]) ∧ w'.ownsRow w.heap.size 2 1 (.slice a n cap) n (vals xs) ∧ Below w.heap.size w w'

theorem specL2New (s t : Int) (h : okP s t) (w : World) :
    Calls Try.prog 68 #[.agg #[.int .i64 s, .int .i64 t], .agg #[.int .i64 0, .bool true, .int .i64 (2 * s - 1)]] w fun e w' => e = .returned (.int .i64 (4 * s - 1)) ∧ Below w.heap.size w w' := by
  obtain ⟨g1, g2⟩ := okP_le h
  have := specL2Word s t 0 (2 * s - 1) true ⟨h, by decide, by decide, by omega, Int.le_refl _⟩ w
  rwa [show wordD s 0 (2 * s - 1) true = 4 * s - 1 by simp [wordD]; omega] at this

def nrW (s t : Int) : List Int := if okP s t then newWords s (2 * s).toNat else []

def nrH (s t : Int) : Int := if okP s t then 2 * s else 0

def nrL (s t : Int) : Int := if okP s t then -1 else 0

end Go.Proofs.Ytdpahikbikiilaa
