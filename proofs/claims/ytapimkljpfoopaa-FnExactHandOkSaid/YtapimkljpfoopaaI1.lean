/- The program's plans (commit eaf7e9f): its functions answer as the model's. -/
import Derived.Test.YtapimkljpfoopaaS1
namespace Go.Proofs.Ytapimkljpfoopaa
open Go.RowKit

set_option maxHeartbeats 400000 in
theorem right_yes (s t : Int) (h : okP s t) (w : World) :
    Calls Try.prog 22 #[.agg #[.int .i64 s, .int .i64 t]] w fun e w' => e = .returned (.bool true) ∧ Below w.heap.size w w' := by
  obtain ⟨h0, h1, h2⟩ := h
  rcases h0 with rfl | rfl | rfl | rfl
  all_goals
    go_enter Try.func22, Try.ntmps22
    go_wp2
    go_ret
    exact ⟨rfl, (Below.refl _ _).alloc (Nat.le_refl _) _⟩

set_option maxHeartbeats 400000 in
theorem right_no (s t : Int) (h : ¬ okP s t) (w : World) :
    Calls Try.prog 22 #[.agg #[.int .i64 s, .int .i64 t]] w fun e w' => e = .returned (.bool false) ∧ Below w.heap.size w w' := by
  unfold okP at h
  by_cases h0 : s = 1 ∨ s = 2 ∨ s = 4 ∨ s = 8
  · have h3 : t < 1 ∨ s < t := by omega
    clear h
    rcases h0 with rfl | rfl | rfl | rfl
    all_goals
      by_cases h4 : t < 1
      · have h5 : ¬ 1 ≤ t := by omega
        clear h3
        go_enter Try.func22, Try.ntmps22
        go_wp2
        go_ret
        exact ⟨rfl, (Below.refl _ _).alloc (Nat.le_refl _) _⟩
      · have h5 : 1 ≤ t := by omega
        first
          | (have h6 : ¬ t ≤ 1 := by omega
             clear h3 h4
             go_enter Try.func22, Try.ntmps22
             go_wp2
             go_ret
             exact ⟨rfl, (Below.refl _ _).alloc (Nat.le_refl _) _⟩)
          | (have h6 : ¬ t ≤ 2 := by omega
             clear h3 h4
             go_enter Try.func22, Try.ntmps22
             go_wp2
             go_ret
             exact ⟨rfl, (Below.refl _ _).alloc (Nat.le_refl _) _⟩)
          | (have h6 : ¬ t ≤ 4 := by omega
             clear h3 h4
             go_enter Try.func22, Try.ntmps22
             go_wp2
             go_ret
             exact ⟨rfl, (Below.refl _ _).alloc (Nat.le_refl _) _⟩)
          | (have h6 : ¬ t ≤ 8 := by omega
             clear h3 h4
             go_enter Try.func22, Try.ntmps22
             go_wp2
             go_ret
             exact ⟨rfl, (Below.refl _ _).alloc (Nat.le_refl _) _⟩)
  · have e1 : (s == 1) = false := by simp; omega
    have e2 : (s == 2) = false := by simp; omega
    have e3 : (s == 4) = false := by simp; omega
    have e4 : (s == 8) = false := by simp; omega
    clear h h0
    go_enter Try.func22, Try.ntmps22
    go_wp2
    go_ret
    exact ⟨rfl, (Below.refl _ _).alloc (Nat.le_refl _) _⟩

end Go.Proofs.Ytapimkljpfoopaa
