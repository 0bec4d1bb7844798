/- The model of the words: what its functions answer. -/
import Derived.Test.YtapimkljpfoopaaS1
import Derived.RegionTactic
import Derived.BigRegion
namespace Go.Proofs.Ytapimkljpfoopaa
open Go.RowKit

/-- An entry that is right. -/
def okE (s t c i : Int) : Prop := okP s t ∧ 0 ≤ c ∧ c ≤ 1000000 ∧ 0 ≤ i ∧ i ≤ 2 * s - 1

instance (s t c i : Int) : Decidable (okE s t c i) := by unfold okE; infer_instance

def okEB (s t c i : Int) : Bool := decide (okE s t c i)

theorem okEB_yes {s t c i : Int} (h : okE s t c i) : okEB s t c i = true := decide_eq_true h

theorem okEB_no {s t c i : Int} (h : ¬ okE s t c i) : okEB s t c i = false := decide_eq_false h

def noneV (s t : Int) : Int := if okP s t then 2 * s - 1 else -1

theorem noneV_w64 (s t : Int) : W64 (noneV s t) := by
  unfold noneV
  split
  · rename_i h
    have := okP_le h
    exact w64_of (by omega) (by omega)
  · exact w64_of (by omega) (by omega)

def wordD (s c i : Int) (b : Bool) : Int := 4 * s * c + i + if b then 2 * s else 0

def wordV (s t c i : Int) (b : Bool) : Int := if okE s t c i then wordD s c i b else -1

end Go.Proofs.Ytapimkljpfoopaa
