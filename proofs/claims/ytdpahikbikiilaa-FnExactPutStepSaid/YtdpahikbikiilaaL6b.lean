/- Contracts of the laws' helpers on rings. -/
import Derived.Test.YtdpahikbikiilaaL6
import Derived.Test.YtdpahikbikiilaaS6c
namespace Go.Proofs.Ytdpahikbikiilaa
open Go.RowKit

set_option maxHeartbeats 1000000 in
theorem markRing_any (base : Nat) (a : Option Addr) (n cap k : Nat) (xs : List Int) (h t l : Int) (w : World) (ho : w.ownsRow base 2 1 (.slice a n cap) n (vals xs)) (hk : k ≤ 1048576) (hn : n ≤ 1048576) :
    Calls Try.prog 14 #[.agg #[.slice a n cap, .int .i64 h, .int .i64 t, .int .i64 l], .int .i64 (k : Int)] w fun e w' => e = .returned (.int .i64 ((k + n : Nat) : Int)) ∧ w'.ownsRow base 2 1 (.slice a n cap) n (vals (marks k n)) ∧ w.grownBy w' (Value.slice a n cap).ownBlock := by
  have HO := Lib.hid (ho.alloc (.cells #[.slice a n cap, .int .i64 h, .int .i64 t, .int .i64 l] 32))
  clear ho
  go_enter Try.func14, Try.ntmps14
  go_wp2_with fail
  refine (markInt64S_any base a n cap k xs _ HO.out hk hn).mono ?_
  rintro e w1 ⟨rfl, ho1, hg1⟩
  have HO1 := Lib.hid ho1
  have HG1 := Lib.hid hg1
  clear ho1 hg1
  go_wp2
  go_ret
  exact ⟨rfl, HO1.out, grown_trans (World.grownBy_alloc w _ _) HG1.out⟩

set_option maxHeartbeats 1000000 in
theorem heldRing_any (B : Nat) (a : Option Addr) (n cap k : Nat) (h t l : Int) (w : World) (hi : Ints B a n (marks k n) w) (hB : B ≤ w.heap.size) (hk : k ≤ 1048576) (hn : n ≤ 1048576) :
    Calls Try.prog 15 #[.agg #[.slice a n cap, .int .i64 h, .int .i64 t, .int .i64 l], .int .i64 (k : Int)] w fun e w' => e = .returned (.int .i64 ((k + n : Nat) : Int)) ∧ Below w.heap.size w w' := by
  have HI := Lib.hid (hi.grown (World.grownBy_alloc w (.cells #[.slice a n cap, .int .i64 h, .int .i64 t, .int .i64 l] 32) none) (by simp))
  clear hi
  have hpos : ¬ ((k + n : Nat) : Int) < 0 := by omega
  go_enter Try.func15, Try.ntmps15
  go_wp2_with fail
  refine (heldInt64S_any B a n cap k _ HI.out hk hn).mono ?_
  rintro e w1 ⟨rfl, rfl⟩
  go_wp2
  go_ret
  exact ⟨rfl, (Below.refl _ _).alloc (Nat.le_refl _) _⟩

end Go.Proofs.Ytdpahikbikiilaa
