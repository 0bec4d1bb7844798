/- The program's plans (commit eaf7e9f): its functions answer as the model's. -/
import Derived.Test.YtdpahikbikiilaaS1
namespace Go.Proofs.Ytdpahikbikiilaa
open Go.RowKit

set_option maxHeartbeats 400000 in
theorem right_yes (s t : Int) (h : okP s t) (w : World) :
    Calls Try.prog 69 #[.agg #[.int .i64 s, .int .i64 t]] w fun e w' => e = .returned (.bool true) ∧ Below w.heap.size w w' := by
  obtain ⟨h0, h1, h2⟩ := h
  rcases h0 with rfl | rfl | rfl | rfl
  all_goals
    go_enter Try.func69, Try.ntmps69
    go_wp2
    go_ret
    exact ⟨rfl, (Below.refl _ _).alloc (Nat.le_refl _) _⟩

set_option maxHeartbeats 400000 in
theorem right_no (s t : Int) (h : ¬ okP s t) (w : World) :
    Calls Try.prog 69 #[.agg #[.int .i64 s, .int .i64 t]] w fun e w' => e = .returned (.bool false) ∧ Below w.heap.size w w' := by
  unfold okP at h
  by_cases h0 : s = 1 ∨ s = 2 ∨ s = 4 ∨ s = 8
  · have h3 : t < 1 ∨ s < t := by omega
    clear h
    rcases h0 with rfl | rfl | rfl | rfl
    all_goals
      by_cases h4 : t < 1
      · have h5 : ¬ 1 ≤ t := by omega
        clear h3
        go_enter Try.func69, Try.ntmps69
        go_wp2
        go_ret
        exact ⟨rfl, (Below.refl _ _).alloc (Nat.le_refl _) _⟩
      · have h5 : 1 ≤ t := by omega
        first
          | (have h6 : ¬ t ≤ 1 := by omega
             clear h3 h4
             go_enter Try.func69, Try.ntmps69
             go_wp2
             go_ret
             exact ⟨rfl, (Below.refl _ _).alloc (Nat.le_refl _) _⟩)
          | (have h6 : ¬ t ≤ 2 := by omega
             clear h3 h4
             go_enter Try.func69, Try.ntmps69
             go_wp2
             go_ret
             exact ⟨rfl, (Below.refl _ _).alloc (Nat.le_refl _) _⟩)
          | (have h6 : ¬ t ≤ 4 := by omega
             clear h3 h4
             go_enter Try.func69, Try.ntmps69
             go_wp2
             go_ret
             exact ⟨rfl, (Below.refl _ _).alloc (Nat.le_refl _) _⟩)
          | (have h6 : ¬ t ≤ 8 := by omega
             clear h3 h4
             go_enter Try.func69, Try.ntmps69
             go_wp2
             go_ret
             exact ⟨rfl, (Below.refl _ _).alloc (Nat.le_refl _) _⟩)
  · have e1 : (s == 1) = false := by simp; omega
    have e2 : (s == 2) = false := by simp; omega
    have e3 : (s == 4) = false := by simp; omega
    have e4 : (s == 8) = false := by simp; omega
    clear h h0
    go_enter Try.func69, Try.ntmps69
    go_wp2
    go_ret
    exact ⟨rfl, (Below.refl _ _).alloc (Nat.le_refl _) _⟩

theorem slots_any (s t : Int) (h1 : 1 ≤ s) (h2 : s ≤ 8) (w : World) :
    Calls Try.prog 94 #[.agg #[.int .i64 s, .int .i64 t]] w fun e w' => e = .returned (.int .i64 (2 * s)) ∧ Below w.heap.size w w' := by
  go_enter Try.func94, Try.ntmps94
  go_wp2
  go_ret
  exact ⟨rfl, (Below.refl _ _).alloc (Nat.le_refl _) _⟩

theorem most_any (s t : Int) (h1 : 1 ≤ s) (h2 : s ≤ 8) (w : World) :
    Calls Try.prog 62 #[.agg #[.int .i64 s, .int .i64 t]] w fun e w' => e = .returned (.int .i64 (3 * s - 1)) ∧ Below w.heap.size w w' := by
  go_enter Try.func62, Try.ntmps62
  go_wp2
  go_ret
  exact ⟨rfl, (Below.refl _ _).alloc (Nat.le_refl _) _⟩

theorem bits_go (s t B : Int) (hB : (s = 1 ∧ B = 1) ∨ (s = 2 ∧ B = 2) ∨ (s = 4 ∧ B = 3) ∨ (s = 8 ∧ B = 4)) (w : World) :
    Calls Try.prog 101 #[.agg #[.int .i64 s, .int .i64 t]] w fun e w' => e = .returned (.int .i64 B) ∧ Below w.heap.size w w' := by
  have g1 : 1 ≤ B := by omega
  have g2 : B ≤ 4 := by omega
  have g3 : 1 ≤ s := by omega
  have g4 : s ≤ 8 := by omega
  have HB := Lib.hid hB
  clear hB
  go_enter Try.func101, Try.ntmps101
  go_wp2_with (go_at_call 94; refine (slots_any _ _ (by omega) (by omega) _).mono ?_; rintro e w1 ⟨rfl, hb⟩; obtain ⟨hc, hf⟩ := bcell hb)
  go_loop [3, 4] (fun n k => halves B n k) (fun _ k => (intOf k).toNat)
  case atStart => exact ⟨_, _, rfl, rfl, by have := HB.out; omega⟩
  case round =>
    obtain ⟨a, b, rfl, rfl, hab⟩ := hrel
    rcases hab with ⟨rfl, rfl⟩ | ⟨rfl, rfl⟩ | ⟨rfl, rfl⟩ | ⟨rfl, rfl⟩ | ⟨rfl, rfl⟩
    · go_wp2
      go_ret
      exact ⟨rfl, ((Below.refl _ _).alloc (Nat.le_refl _) _).trans (hb.mono (by simp))⟩
    all_goals
      go_wp2
      go_round
      case rel => exact ⟨_, _, rfl, rfl, by omega⟩
      case measure => simp [intOf]

theorem bits_any (s t : Int) (h : okP s t) (w : World) :
    Calls Try.prog 101 #[.agg #[.int .i64 s, .int .i64 t]] w fun e w' => e = .returned (.int .i64 (bitsD s)) ∧ Below w.heap.size w w' :=
  bits_go s t (bitsD s) (bitsD_of h) w

end Go.Proofs.Ytdpahikbikiilaa
