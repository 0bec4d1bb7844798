/- The model of the plans: what its functions answer. -/
import Derived.Test.YtdpahikbikiilaaCells
namespace Go.Proofs.Ytdpahikbikiilaa
open Go.RowKit

set_option maxHeartbeats 400000 in
theorem in_yes (x lo hi : Int) (h1 : lo ≤ x) (h2 : x ≤ hi) (w : World) :
    Calls Try.prog 23 #[.int .i64 x, .int .i64 lo, .int .i64 hi] w fun e w' => e = .returned (.bool true) ∧ w = w' := by
  go_enter Try.func23, Try.ntmps23
  go_wp2
  go_ret
  exact ⟨rfl, rfl⟩

set_option maxHeartbeats 400000 in
theorem in_no (x lo hi : Int) (h : x < lo ∨ hi < x) (w : World) :
    Calls Try.prog 23 #[.int .i64 x, .int .i64 lo, .int .i64 hi] w fun e w' => e = .returned (.bool false) ∧ w = w' := by
  by_cases h1 : lo ≤ x
  · have h2 : ¬ x ≤ hi := by omega
    clear h
    go_enter Try.func23, Try.ntmps23
    go_wp2
    go_ret
    exact ⟨rfl, rfl⟩
  · clear h
    go_enter Try.func23, Try.ntmps23
    go_wp2
    go_ret
    exact ⟨rfl, rfl⟩

/-- A plan that is right. -/
def okP (s t : Int) : Prop := (s = 1 ∨ s = 2 ∨ s = 4 ∨ s = 8) ∧ 1 ≤ t ∧ t ≤ s

instance (s t : Int) : Decidable (okP s t) := by unfold okP; infer_instance

theorem okP_w64 {s t : Int} (h : okP s t) : W64 s := by
  unfold okP at h; exact w64_of (by omega) (by omega)

theorem okP_w64' {s t : Int} (h : okP s t) : W64 t := by
  unfold okP at h; exact w64_of (by omega) (by omega)

def okB (s t : Int) : Bool := decide (okP s t)

theorem okB_yes {s t : Int} (h : okP s t) : okB s t = true := decide_eq_true h

theorem okB_no {s t : Int} (h : ¬ okP s t) : okB s t = false := decide_eq_false h

theorem okP_le {s t : Int} (h : okP s t) : 1 ≤ s ∧ s ≤ 8 := by unfold okP at h; omega

/-- Twice the size is two to the power of this. -/
def bitsD (s : Int) : Int := if s = 1 then 1 else if s = 2 then 2 else if s = 4 then 3 else 4

/-- The number of halvings that are left. -/
def halves (B : Int) (n k : Value) : Prop := ∃ a b : Int, n = .int .i64 a ∧ k = .int .i64 b ∧ ((b = 1 ∧ a = B) ∨ (b = 2 ∧ a = B - 1) ∨ (b = 4 ∧ a = B - 2) ∨ (b = 8 ∧ a = B - 3) ∨ (b = 16 ∧ a = B - 4))

theorem bitsD_of {s t : Int} (h : okP s t) : (s = 1 ∧ bitsD s = 1) ∨ (s = 2 ∧ bitsD s = 2) ∨ (s = 4 ∧ bitsD s = 3) ∨ (s = 8 ∧ bitsD s = 4) := by
  obtain ⟨h0, _, _⟩ := h
  rcases h0 with rfl | rfl | rfl | rfl <;> simp [bitsD]

theorem specOk_yes (s t : Int) (h : okP s t) (w : World) :
    Calls Try.prog 39 #[.agg #[.int .i64 s, .int .i64 t]] w fun e w' => e = .returned (.bool true) ∧ Below w.heap.size w w' := by
  obtain ⟨h0, h1, h2⟩ := h
  rcases h0 with rfl | rfl | rfl | rfl
  all_goals
    go_enter Try.func39, Try.ntmps39
    go_wp2_with (go_at_call 23; refine (in_yes _ _ _ (by omega) (by omega) _).mono ?_; rintro e w' ⟨rfl, rfl⟩)
    go_ret
    exact ⟨rfl, (Below.refl _ _).alloc (Nat.le_refl _) _⟩

theorem specOk_no (s t : Int) (h : ¬ okP s t) (w : World) :
    Calls Try.prog 39 #[.agg #[.int .i64 s, .int .i64 t]] w fun e w' => e = .returned (.bool false) ∧ Below w.heap.size w w' := by
  unfold okP at h
  by_cases h0 : s = 1 ∨ s = 2 ∨ s = 4 ∨ s = 8
  · have h3 : t < 1 ∨ s < t := by omega
    clear h
    rcases h0 with rfl | rfl | rfl | rfl
    all_goals
      go_enter Try.func39, Try.ntmps39
      go_wp2_with (go_at_call 23; refine (in_no _ _ _ (by omega) _).mono ?_; rintro e w' ⟨rfl, rfl⟩)
      go_ret
      exact ⟨rfl, (Below.refl _ _).alloc (Nat.le_refl _) _⟩
  · have e1 : (s == 1) = false := by simp; omega
    have e2 : (s == 2) = false := by simp; omega
    have e3 : (s == 4) = false := by simp; omega
    have e4 : (s == 8) = false := by simp; omega
    clear h h0
    go_enter Try.func39, Try.ntmps39
    go_wp2
    go_ret
    exact ⟨rfl, (Below.refl _ _).alloc (Nat.le_refl _) _⟩

theorem specOk (s t : Int) (w : World) :
    Calls Try.prog 39 #[.agg #[.int .i64 s, .int .i64 t]] w fun e w' => e = .returned (.bool (okB s t)) ∧ Below w.heap.size w w' := by
  by_cases h : okP s t
  · rw [okB_yes h]; exact specOk_yes s t h w
  · rw [okB_no h]; exact specOk_no s t h w

theorem specMost_yes (s t : Int) (h : okP s t) (w : World) :
    Calls Try.prog 40 #[.agg #[.int .i64 s, .int .i64 t]] w fun e w' => e = .returned (.int .i64 (3 * s - 1)) ∧ Below w.heap.size w w' := by
  obtain ⟨g1, g2⟩ := okP_le h
  have H := Lib.hid h
  clear h
  go_enter Try.func40, Try.ntmps40
  go_wp2_with (go_at_call 39; refine (specOk_yes _ _ H.out _).mono ?_; rintro e w1 ⟨rfl, hb⟩; obtain ⟨hc, hf⟩ := bcell hb)
  go_ret
  exact ⟨rfl, ((Below.refl _ _).alloc (Nat.le_refl _) _).trans (hb.mono (by simp))⟩

theorem specMost_no (s t : Int) (h : ¬ okP s t) (w : World) :
    Calls Try.prog 40 #[.agg #[.int .i64 s, .int .i64 t]] w fun e w' => e = .returned (.int .i64 (-1)) ∧ Below w.heap.size w w' := by
  have H := Lib.hid h
  clear h
  go_enter Try.func40, Try.ntmps40
  go_wp2_with (go_at_call 39; refine (specOk_no _ _ H.out _).mono ?_; rintro e w1 ⟨rfl, hb⟩; obtain ⟨hc, hf⟩ := bcell hb)
  go_ret
  exact ⟨rfl, ((Below.refl _ _).alloc (Nat.le_refl _) _).trans (hb.mono (by simp))⟩

theorem specBits_no (s t : Int) (h : ¬ okP s t) (w : World) :
    Calls Try.prog 81 #[.agg #[.int .i64 s, .int .i64 t]] w fun e w' => e = .returned (.int .i64 (-1)) ∧ Below w.heap.size w w' := by
  have H := Lib.hid h
  clear h
  go_enter Try.func81, Try.ntmps81
  go_wp2_with (go_at_call 39; refine (specOk_no _ _ H.out _).mono ?_; rintro e w1 ⟨rfl, hb⟩; obtain ⟨hc, hf⟩ := bcell hb)
  go_ret
  exact ⟨rfl, ((Below.refl _ _).alloc (Nat.le_refl _) _).trans (hb.mono (by simp))⟩

theorem specBits_go (s t B : Int) (hB : (s = 1 ∧ B = 1) ∨ (s = 2 ∧ B = 2) ∨ (s = 4 ∧ B = 3) ∨ (s = 8 ∧ B = 4)) (h : okP s t) (w : World) :
    Calls Try.prog 81 #[.agg #[.int .i64 s, .int .i64 t]] w fun e w' => e = .returned (.int .i64 B) ∧ Below w.heap.size w w' := by
  have g1 : 1 ≤ B := by omega
  have g2 : B ≤ 4 := by omega
  have H := Lib.hid h
  have HB := Lib.hid hB
  clear h hB
  go_enter Try.func81, Try.ntmps81
  go_wp2_with (go_at_call 39; refine (specOk_yes _ _ H.out _).mono ?_; rintro e w1 ⟨rfl, hb⟩; obtain ⟨hc, hf⟩ := bcell hb)
  go_loop [3, 4] (fun n k => halves B n k) (fun _ k => (intOf k).toNat)
  case atStart => exact ⟨_, _, rfl, rfl, by have := HB.out; omega⟩
  case round =>
    obtain ⟨a, b, rfl, rfl, hab⟩ := hrel
    rcases hab with ⟨rfl, rfl⟩ | ⟨rfl, rfl⟩ | ⟨rfl, rfl⟩ | ⟨rfl, rfl⟩ | ⟨rfl, rfl⟩
    · go_wp2
      go_ret
      exact ⟨rfl, ((Below.refl _ _).alloc (Nat.le_refl _) _).trans (hb.mono (by simp))⟩
    all_goals
      go_wp2
      go_round
      case rel => exact ⟨_, _, rfl, rfl, by omega⟩
      case measure => simp [intOf]

theorem specBits_yes (s t : Int) (h : okP s t) (w : World) :
    Calls Try.prog 81 #[.agg #[.int .i64 s, .int .i64 t]] w fun e w' => e = .returned (.int .i64 (bitsD s)) ∧ Below w.heap.size w w' :=
  specBits_go s t (bitsD s) (bitsD_of h) h w

def slotsV (s t : Int) : Int := if okP s t then 2 * s else -1

def mostV (s t : Int) : Int := if okP s t then 3 * s - 1 else -1

theorem specMost (s t : Int) (w : World) :
    Calls Try.prog 40 #[.agg #[.int .i64 s, .int .i64 t]] w fun e w' => e = .returned (.int .i64 (mostV s t)) ∧ Below w.heap.size w w' := by
  by_cases h : okP s t
  · rw [show mostV s t = 3 * s - 1 from if_pos h]; exact specMost_yes s t h w
  · rw [show mostV s t = -1 from if_neg h]; exact specMost_no s t h w

def bitsV (s t : Int) : Int := if okP s t then bitsD s else -1

theorem specBits (s t : Int) (w : World) :
    Calls Try.prog 81 #[.agg #[.int .i64 s, .int .i64 t]] w fun e w' => e = .returned (.int .i64 (bitsV s t)) ∧ Below w.heap.size w w' := by
  by_cases h : okP s t
  · rw [show bitsV s t = bitsD s from if_pos h]; exact specBits_yes s t h w
  · rw [show bitsV s t = -1 from if_neg h]; exact specBits_no s t h w

theorem toPlan_any (s t : Int) (w : World) :
    Calls Try.prog 8 #[.agg #[.int .i64 s, .int .i64 t]] w fun e w' => e = .returned (.agg #[.int .i64 s, .int .i64 t]) ∧ Below w.heap.size w w' := by
  go_enter Try.func8, Try.ntmps8
  go_wp2
  exact bodyPost_ret (v := .agg #[.int .i64 s, .int .i64 t]) (by simp [results, Try.results8, go_sem]) rfl ⟨rfl, (((Below.refl _ _).alloc (Nat.le_refl _) _).alloc (by simp) _).alloc (by simp; omega) _⟩

end Go.Proofs.Ytdpahikbikiilaa
