/- Contracts of the draws of chapter 2. -/
import Derived.Test.YtjokflmmdkekjaaS2
import Derived.Test.YtjokflmmdkekjaaDrawAny
import Derived.Deep.RegionHeld3
import Derived.Deep.DeepCutAuto
namespace Go.Proofs.Ytjokflmmdkekjaa
open Go.RowKit

/-- An entry by value, as P says. -/
def EntIs (P : Int → Bool → Int → Prop) (v : Value) : Prop := ∃ (c : Int) (b : Bool) (i : Int), v = .agg #[.int .i64 c, .bool b, .int .i64 i] ∧ P c b i

/-- What the drawn statement leaves: an entry in a block of its own. -/
def EntAt (T : TypeId) (lo c : Nat) (K : World → Prop) (v : Value) (wx : World) : Prop := ∃ (g : Nat) (x y : Int) (b : Bool), v = .pointer (some ⟨g, 0, none⟩) ∧ wx.heap[g]? = some (.cells #[.int .i64 x, .bool b, .int .i64 y] T (0, 0)) ∧ W64 x ∧ W64 y ∧ lo ≤ g ∧ g ≠ c ∧ K wx

theorem EntAt.mk {T : TypeId} {lo c : Nat} {K : World → Prop} {g : Nat} {x y : Int} {b : Bool} {wx : World} (h : wx.heap[g]? = some (.cells #[.int .i64 x, .bool b, .int .i64 y] T (0, 0))) (hx : W64 x) (hy : W64 y) (hl : lo ≤ g) (hc : g ≠ c) (hk : K wx) : EntAt T lo c K (.pointer (some ⟨g, 0, none⟩)) wx :=
  ⟨g, x, y, b, rfl, h, hx, hy, hl, hc, hk⟩

end Go.Proofs.Ytjokflmmdkekjaa
