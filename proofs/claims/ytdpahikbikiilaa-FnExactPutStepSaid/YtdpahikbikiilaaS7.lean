/- The model of what is in a ring: the number at a ticket. -/
import Derived.Test.YtdpahikbikiilaaS6b
import Derived.Test.YtdpahikbikiilaaS5b
import Derived.Test.YtdpahikbikiilaaHold
import Derived.Deep.RegionHeld3
import Derived.Deep.DeepCutAuto
namespace Go.Proofs.Ytdpahikbikiilaa
open Go.RowKit

theorem place_in {s t k : Int} (h : okT s t k) : 0 ≤ placeD s k ∧ placeD s k ≤ 2 * s - 1 := by
  have := spot_in (okJ_mod h)
  exact ⟨this.1, this.2.1⟩

theorem specRingW (s t : Int) (a : Option Addr) (n cap : Nat) (xs : List Int) (h tl l : Int) (hx64 : ∀ x ∈ xs, W64 x) (hn : n ≤ 1048576) (w : World) (hi : IntsW (a, n, xs) w) :
    Calls Try.prog 21 #[.agg #[.int .i64 s, .int .i64 t], .agg #[.slice a n cap, .int .i64 h, .int .i64 tl, .int .i64 l]] w fun e w' => e = .returned (.bool (okRB s t xs h tl l)) ∧ Below w.heap.size w w' :=
  specRingOk w.heap.size s t a n cap xs h tl l w hi (Nat.le_refl _) hx64 hn

theorem specRing_yes (s t : Int) (a : Option Addr) (n cap : Nat) (xs : List Int) (h tl l : Int) (hx64 : ∀ x ∈ xs, W64 x) (hn : n ≤ 1048576) (hr : okR s t xs h tl l) (w : World) (hi : IntsW (a, n, xs) w) :
    Calls Try.prog 21 #[.agg #[.int .i64 s, .int .i64 t], .agg #[.slice a n cap, .int .i64 h, .int .i64 tl, .int .i64 l]] w fun e w' => e = .returned (.bool true) ∧ Below w.heap.size w w' := by
  have := specRingW s t a n cap xs h tl l hx64 hn w hi
  rwa [show okRB s t xs h tl l = true from decide_eq_true hr] at this

theorem specRing_no (s t : Int) (a : Option Addr) (n cap : Nat) (xs : List Int) (h tl l : Int) (hx64 : ∀ x ∈ xs, W64 x) (hn : n ≤ 1048576) (hr : ¬ okR s t xs h tl l) (w : World) (hi : IntsW (a, n, xs) w) :
    Calls Try.prog 21 #[.agg #[.int .i64 s, .int .i64 t], .agg #[.slice a n cap, .int .i64 h, .int .i64 tl, .int .i64 l]] w fun e w' => e = .returned (.bool false) ∧ Below w.heap.size w w' := by
  have := specRingW s t a n cap xs h tl l hx64 hn w hi
  rwa [show okRB s t xs h tl l = false from decide_eq_false hr] at this

/-- The number at a ticket. -/
def itemV (s t : Int) (xs : List Int) (h tl l k : Int) : Int :=
  if okR s t xs h tl l ∧ okK k then (if xs.getD (placeD s k).toNat 0 / (4 * s) = cycD s k ∧ ¬ xs.getD (placeD s k).toNat 0 % (2 * s) = 2 * s - 1 then xs.getD (placeD s k).toNat 0 % (2 * s) else -1) else -1

end Go.Proofs.Ytdpahikbikiilaa
