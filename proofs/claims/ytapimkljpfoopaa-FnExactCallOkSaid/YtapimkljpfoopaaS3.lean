/- The model of the spots and the tickets: contracts of its functions, and that spots are a permutation. -/
import Derived.Test.YtapimkljpfoopaaS2
namespace Go.Proofs.Ytapimkljpfoopaa
open Go.RowKit

/-- A spot, and back. -/
def spotD (s j : Int) : Int := if s = 1 then j else if s = 2 then j % 2 * 2 + j / 2 else if s = 4 then j % 4 * 2 + j / 4 else j % 4 * 4 + j / 4

def unspotD (s j : Int) : Int := if s = 1 then j else if s = 2 then j % 2 * 2 + j / 2 else if s = 4 then j % 2 * 4 + j / 2 else j % 4 * 4 + j / 4

def okJ (s t j : Int) : Prop := okP s t ∧ 0 ≤ j ∧ j ≤ 2 * s - 1

instance (s t j : Int) : Decidable (okJ s t j) := by unfold okJ; infer_instance

def spotV (s t j : Int) : Int := if okJ s t j then spotD s j else -1

def unspotV (s t j : Int) : Int := if okJ s t j then unspotD s j else -1

theorem spot_in {s t j : Int} (h : okJ s t j) : 0 ≤ spotD s j ∧ spotD s j ≤ 2 * s - 1 ∧ unspotD s (spotD s j) = j ∧ 0 ≤ unspotD s j ∧ unspotD s j ≤ 2 * s - 1 ∧ spotD s (unspotD s j) = j := by
  obtain ⟨⟨hs, -, -⟩, j0, j1⟩ := h
  rcases hs with rfl | rfl | rfl | rfl
  · have hj : j = 0 ∨ j = 1 := by omega
    rcases hj with rfl | rfl <;> decide
  · have hj : j = 0 ∨ j = 1 ∨ j = 2 ∨ j = 3 := by omega
    rcases hj with rfl | rfl | rfl | rfl <;> decide
  · have hj : j = 0 ∨ j = 1 ∨ j = 2 ∨ j = 3 ∨ j = 4 ∨ j = 5 ∨ j = 6 ∨ j = 7 := by omega
    rcases hj with rfl | rfl | rfl | rfl | rfl | rfl | rfl | rfl <;> decide
  · have hj : j = 0 ∨ j = 1 ∨ j = 2 ∨ j = 3 ∨ j = 4 ∨ j = 5 ∨ j = 6 ∨ j = 7 ∨ j = 8 ∨ j = 9 ∨ j = 10 ∨ j = 11 ∨ j = 12 ∨ j = 13 ∨ j = 14 ∨ j = 15 := by omega
    rcases hj with rfl | rfl | rfl | rfl | rfl | rfl | rfl | rfl | rfl | rfl | rfl | rfl | rfl | rfl | rfl | rfl <;> decide

end Go.Proofs.Ytapimkljpfoopaa
