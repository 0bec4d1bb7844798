/- Contracts of the dice: a new one, a number below another one, a plan that is right. -/
import Derived.Test.YtakbkdeeablpjaaDrawAny
import Derived.RegionTactic
import Derived.BigRegion
namespace Go.Proofs.Ytakbkdeeablpjaa
open Go.RowKit

theorem big_no (a : Option Addr) (n cap : Nat) (w : World) (hn : n ≤ 4096) :
    Calls Try.prog 8 #[.slice a n cap] w fun e w' => e = .returned (.bool false) ∧ w = w' := by
  go_enter Try.func8, Try.ntmps8
  go_wp2
  go_ret
  exact ⟨by simp; omega, rfl⟩

theorem big_yes (a : Option Addr) (n cap : Nat) (w : World) (hn : 4096 < n) :
    Calls Try.prog 8 #[.slice a n cap] w fun e w' => e = .returned (.bool true) ∧ w = w' := by
  go_enter Try.func8, Try.ntmps8
  go_wp2
  go_ret
  exact ⟨by simp; omega, rfl⟩
end Go.Proofs.Ytakbkdeeablpjaa
