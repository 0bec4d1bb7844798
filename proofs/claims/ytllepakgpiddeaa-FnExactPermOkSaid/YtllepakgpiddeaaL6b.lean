/- Contracts of the laws' helpers on rings. -/
import Derived.Test.YtllepakgpiddeaaL6
import Derived.Test.YtllepakgpiddeaaS6c
namespace Go.Proofs.Ytllepakgpiddeaa
open Go.RowKit

set_option maxHeartbeats 1000000 in
theorem markRing_any (base : Nat) (a : Option Addr) (n cap k : Nat) (xs : List Int) (h t l : Int) (w : World) (ho : w.ownsRow base 2 1 (.slice a n cap) n (vals xs)) (hk : k ≤ 1048576) (hn : n ≤ 1048576) :
    Calls Try.prog 12 #[.agg #[.slice a n cap, .int .i64 h, .int .i64 t, .int .i64 l], .int .i64 (k : Int)] w fun e w' => e = .returned (.int .i64 ((k + n : Nat) : Int)) ∧ w'.ownsRow base 2 1 (.slice a n cap) n (vals (marks k n)) ∧ w.grownBy w' (Value.slice a n cap).ownBlock := by
  have HO := Lib.hid (ho.alloc (.cells #[.slice a n cap, .int .i64 h, .int .i64 t, .int .i64 l] 31))
  clear ho
  go_enter Try.func12, Try.ntmps12
  go_wp2_with fail
  refine (markInt64S_any base a n cap k xs _ HO.out hk hn).mono ?_
  rintro e w1 ⟨rfl, ho1, hg1⟩
  have HO1 := Lib.hid ho1
  have HG1 := Lib.hid hg1
  clear ho1 hg1
  go_wp2
  go_ret
  exact ⟨rfl, HO1.out, grown_trans (World.grownBy_alloc w _ _) HG1.out⟩

end Go.Proofs.Ytllepakgpiddeaa
