/- The model of the spots and the tickets: contracts of its functions, and that spots are a permutation. -/
import Derived.Test.YtdpahikbikiilaaS2
namespace Go.Proofs.Ytdpahikbikiilaa
open Go.RowKit

/-- A spot, and back. -/
def spotD (s j : Int) : Int := if s = 1 then j else if s = 2 then j % 2 * 2 + j / 2 else if s = 4 then j % 4 * 2 + j / 4 else j % 4 * 4 + j / 4

def unspotD (s j : Int) : Int := if s = 1 then j else if s = 2 then j % 2 * 2 + j / 2 else if s = 4 then j % 2 * 4 + j / 2 else j % 4 * 4 + j / 4

def okJ (s t j : Int) : Prop := okP s t ∧ 0 ≤ j ∧ j ≤ 2 * s - 1

instance (s t j : Int) : Decidable (okJ s t j) := by unfold okJ; infer_instance

def spotV (s t j : Int) : Int := if okJ s t j then spotD s j else -1

def unspotV (s t j : Int) : Int := if okJ s t j then unspotD s j else -1

theorem spot_in {s t j : Int} (h : okJ s t j) : 0 ≤ spotD s j ∧ spotD s j ≤ 2 * s - 1 ∧ unspotD s (spotD s j) = j ∧ 0 ≤ unspotD s j ∧ unspotD s j ≤ 2 * s - 1 ∧ spotD s (unspotD s j) = j := by
  obtain ⟨⟨hs, -, -⟩, j0, j1⟩ := h
  rcases hs with rfl | rfl | rfl | rfl
  · have hj : j = 0 ∨ j = 1 := by omega
    rcases hj with rfl | rfl <;> decide
  · have hj : j = 0 ∨ j = 1 ∨ j = 2 ∨ j = 3 := by omega
    rcases hj with rfl | rfl | rfl | rfl <;> decide
  · have hj : j = 0 ∨ j = 1 ∨ j = 2 ∨ j = 3 ∨ j = 4 ∨ j = 5 ∨ j = 6 ∨ j = 7 := by omega
    rcases hj with rfl | rfl | rfl | rfl | rfl | rfl | rfl | rfl <;> decide
  · have hj : j = 0 ∨ j = 1 ∨ j = 2 ∨ j = 3 ∨ j = 4 ∨ j = 5 ∨ j = 6 ∨ j = 7 ∨ j = 8 ∨ j = 9 ∨ j = 10 ∨ j = 11 ∨ j = 12 ∨ j = 13 ∨ j = 14 ∨ j = 15 := by omega
    rcases hj with rfl | rfl | rfl | rfl | rfl | rfl | rfl | rfl | rfl | rfl | rfl | rfl | rfl | rfl | rfl | rfl <;> decide

theorem turn10 (j : Int) (h0 : 0 ≤ j) (h1 : j ≤ 15) (w : World) :
    Calls Try.prog 82 #[.int .i64 j, .int .i64 1, .int .i64 0] w fun e w' => e = .returned (.int .i64 (j % 2 * 1 + j / 2)) ∧ w = w' := by
  go_enter Try.func82, Try.ntmps82
  go_wp2
  go_ret
  exact ⟨ret_int (by simp <;> omega), rfl⟩

theorem turn11 (j : Int) (h0 : 0 ≤ j) (h1 : j ≤ 15) (w : World) :
    Calls Try.prog 82 #[.int .i64 j, .int .i64 1, .int .i64 1] w fun e w' => e = .returned (.int .i64 (j % 1 * 2 + j / 1)) ∧ w = w' := by
  go_enter Try.func82, Try.ntmps82
  go_wp2
  go_ret
  exact ⟨ret_int (by simp <;> omega), rfl⟩

theorem turn21 (j : Int) (h0 : 0 ≤ j) (h1 : j ≤ 15) (w : World) :
    Calls Try.prog 82 #[.int .i64 j, .int .i64 2, .int .i64 1] w fun e w' => e = .returned (.int .i64 (j % 2 * 2 + j / 2)) ∧ w = w' := by
  go_enter Try.func82, Try.ntmps82
  go_wp2
  go_ret
  exact ⟨ret_int (by simp <;> omega), rfl⟩

theorem turn31 (j : Int) (h0 : 0 ≤ j) (h1 : j ≤ 15) (w : World) :
    Calls Try.prog 82 #[.int .i64 j, .int .i64 3, .int .i64 1] w fun e w' => e = .returned (.int .i64 (j % 4 * 2 + j / 4)) ∧ w = w' := by
  go_enter Try.func82, Try.ntmps82
  go_wp2
  go_ret
  exact ⟨ret_int (by simp <;> omega), rfl⟩

theorem turn32 (j : Int) (h0 : 0 ≤ j) (h1 : j ≤ 15) (w : World) :
    Calls Try.prog 82 #[.int .i64 j, .int .i64 3, .int .i64 2] w fun e w' => e = .returned (.int .i64 (j % 2 * 4 + j / 2)) ∧ w = w' := by
  go_enter Try.func82, Try.ntmps82
  go_wp2
  go_ret
  exact ⟨ret_int (by simp <;> omega), rfl⟩

theorem turn42 (j : Int) (h0 : 0 ≤ j) (h1 : j ≤ 15) (w : World) :
    Calls Try.prog 82 #[.int .i64 j, .int .i64 4, .int .i64 2] w fun e w' => e = .returned (.int .i64 (j % 4 * 4 + j / 4)) ∧ w = w' := by
  go_enter Try.func82, Try.ntmps82
  go_wp2
  go_ret
  exact ⟨ret_int (by simp <;> omega), rfl⟩

theorem specSpot_yes (s t j : Int) (h : okJ s t j) (w : World) :
    Calls Try.prog 65 #[.agg #[.int .i64 s, .int .i64 t], .int .i64 j] w fun e w' => e = .returned (.int .i64 (spotD s j)) ∧ Below w.heap.size w w' := by
  obtain ⟨hp, j0, j1⟩ := h
  have H := Lib.hid hp
  rcases hp.1 with rfl | rfl | rfl | rfl
  · have hd : spotD 1 j = j % 2 * 1 + j / 2 := by simp [spotD] <;> omega
    rw [hd]
    clear hd hp
    go_enter Try.func65, Try.ntmps65
    go_wp2_with (first | (go_at_call 39; refine (specOk_yes _ _ H.out _).mono ?_; rintro e w1 ⟨rfl, hb⟩; obtain ⟨hc, hf⟩ := bcell hb) | (go_at_call 23; (with_reducible refine (in_yes _ _ _ (by omega) (by omega) _).mono ?_); rintro e w' ⟨rfl, rfl⟩) | (go_at_call 81; (with_reducible refine (specBits_go 1 t 1 (by decide) H.out _).mono ?_); rintro e w2 ⟨rfl, hb2⟩) | (go_at_call 82; (with_reducible refine (turn10 j j0 (by omega) _).mono ?_); rintro e w' ⟨rfl, rfl⟩))
    go_ret
    exact ⟨ret_int (by simp), (((Below.refl _ _).alloc (Nat.le_refl _) _).trans (hb.mono (by simp))).trans (hb2.mono (by have := hb.size; simp at this; omega))⟩
  · have hd : spotD 2 j = j % 2 * 2 + j / 2 := by simp [spotD] <;> omega
    rw [hd]
    clear hd hp
    go_enter Try.func65, Try.ntmps65
    go_wp2_with (first | (go_at_call 39; refine (specOk_yes _ _ H.out _).mono ?_; rintro e w1 ⟨rfl, hb⟩; obtain ⟨hc, hf⟩ := bcell hb) | (go_at_call 23; (with_reducible refine (in_yes _ _ _ (by omega) (by omega) _).mono ?_); rintro e w' ⟨rfl, rfl⟩) | (go_at_call 81; (with_reducible refine (specBits_go 2 t 2 (by decide) H.out _).mono ?_); rintro e w2 ⟨rfl, hb2⟩) | (go_at_call 82; (with_reducible refine (turn21 j j0 (by omega) _).mono ?_); rintro e w' ⟨rfl, rfl⟩))
    go_ret
    exact ⟨ret_int (by simp), (((Below.refl _ _).alloc (Nat.le_refl _) _).trans (hb.mono (by simp))).trans (hb2.mono (by have := hb.size; simp at this; omega))⟩
  · have hd : spotD 4 j = j % 4 * 2 + j / 4 := by simp [spotD] <;> omega
    rw [hd]
    clear hd hp
    go_enter Try.func65, Try.ntmps65
    go_wp2_with (first | (go_at_call 39; refine (specOk_yes _ _ H.out _).mono ?_; rintro e w1 ⟨rfl, hb⟩; obtain ⟨hc, hf⟩ := bcell hb) | (go_at_call 23; (with_reducible refine (in_yes _ _ _ (by omega) (by omega) _).mono ?_); rintro e w' ⟨rfl, rfl⟩) | (go_at_call 81; (with_reducible refine (specBits_go 4 t 3 (by decide) H.out _).mono ?_); rintro e w2 ⟨rfl, hb2⟩) | (go_at_call 82; (with_reducible refine (turn31 j j0 (by omega) _).mono ?_); rintro e w' ⟨rfl, rfl⟩))
    go_ret
    exact ⟨ret_int (by simp), (((Below.refl _ _).alloc (Nat.le_refl _) _).trans (hb.mono (by simp))).trans (hb2.mono (by have := hb.size; simp at this; omega))⟩
  · have hd : spotD 8 j = j % 4 * 4 + j / 4 := by simp [spotD] <;> omega
    rw [hd]
    clear hd hp
    go_enter Try.func65, Try.ntmps65
    go_wp2_with (first | (go_at_call 39; refine (specOk_yes _ _ H.out _).mono ?_; rintro e w1 ⟨rfl, hb⟩; obtain ⟨hc, hf⟩ := bcell hb) | (go_at_call 23; (with_reducible refine (in_yes _ _ _ (by omega) (by omega) _).mono ?_); rintro e w' ⟨rfl, rfl⟩) | (go_at_call 81; (with_reducible refine (specBits_go 8 t 4 (by decide) H.out _).mono ?_); rintro e w2 ⟨rfl, hb2⟩) | (go_at_call 82; (with_reducible refine (turn42 j j0 (by omega) _).mono ?_); rintro e w' ⟨rfl, rfl⟩))
    go_ret
    exact ⟨ret_int (by simp), (((Below.refl _ _).alloc (Nat.le_refl _) _).trans (hb.mono (by simp))).trans (hb2.mono (by have := hb.size; simp at this; omega))⟩

theorem specSpot_no (s t j : Int) (h : ¬ okJ s t j) (w : World) :
    Calls Try.prog 65 #[.agg #[.int .i64 s, .int .i64 t], .int .i64 j] w fun e w' => e = .returned (.int .i64 (-1)) ∧ Below w.heap.size w w' := by
  by_cases hp : okP s t
  · have hj : j < 0 ∨ 2 * s - 1 < j := Decidable.byContradiction fun hx => h ⟨hp, by omega, by omega⟩
    obtain ⟨g1, g2⟩ := okP_le hp
    have H := Lib.hid hp
    have HJ := Lib.hid hj
    clear hp h hj
    go_enter Try.func65, Try.ntmps65
    go_wp2_with (first | (go_at_call 39; refine (specOk_yes _ _ H.out _).mono ?_; rintro e w1 ⟨rfl, hb⟩; obtain ⟨hc, hf⟩ := bcell hb) | (go_at_call 23; (with_reducible refine (in_no _ _ _ HJ.out _).mono ?_); rintro e w' ⟨rfl, rfl⟩))
    go_ret
    exact ⟨rfl, ((Below.refl _ _).alloc (Nat.le_refl _) _).trans (hb.mono (by simp))⟩
  · have H := Lib.hid hp
    clear hp h
    go_enter Try.func65, Try.ntmps65
    go_wp2_with (go_at_call 39; refine (specOk_no _ _ H.out _).mono ?_; rintro e w1 ⟨rfl, hb⟩; obtain ⟨hc, hf⟩ := bcell hb)
    go_ret
    exact ⟨rfl, ((Below.refl _ _).alloc (Nat.le_refl _) _).trans (hb.mono (by simp))⟩

theorem specSpot (s t j : Int) (w : World) :
    Calls Try.prog 65 #[.agg #[.int .i64 s, .int .i64 t], .int .i64 j] w fun e w' => e = .returned (.int .i64 (spotV s t j)) ∧ Below w.heap.size w w' := by
  by_cases h : okJ s t j
  · rw [show spotV s t j = spotD s j from if_pos h]; exact specSpot_yes s t j h w
  · rw [show spotV s t j = -1 from if_neg h]; exact specSpot_no s t j h w

end Go.Proofs.Ytdpahikbikiilaa
