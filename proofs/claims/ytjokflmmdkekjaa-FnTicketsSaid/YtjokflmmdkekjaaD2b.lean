/- Contracts of the draws of chapter 2: a plan and an entry. -/
import Derived.Test.YtjokflmmdkekjaaD2
namespace Go.Proofs.Ytjokflmmdkekjaa
open Go.RowKit

/-- A plan in a block, and what is kept beside it. -/
def PlanHeld (T : TypeId) (P : Nat) (K : World → Prop) (wx : World) : Prop := ∃ s t : Int, W64 s ∧ W64 t ∧ wx.heap[P]? = some (.cells #[.int .i64 s, .int .i64 t] T (0, 0)) ∧ K wx

/-- An entry in a block, and what is kept beside it. -/
def EntHeld (T : TypeId) (E : Nat) (K : World → Prop) (wx : World) : Prop := ∃ (x y : Int) (b : Bool), W64 x ∧ W64 y ∧ wx.heap[E]? = some (.cells #[.int .i64 x, .bool b, .int .i64 y] T (0, 0)) ∧ K wx

end Go.Proofs.Ytjokflmmdkekjaa
