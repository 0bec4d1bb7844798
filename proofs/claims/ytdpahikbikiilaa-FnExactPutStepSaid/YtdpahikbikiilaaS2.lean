/- The model of the words: what its functions answer. -/
import Derived.Test.YtdpahikbikiilaaS1
import Derived.RegionTactic
import Derived.BigRegion
namespace Go.Proofs.Ytdpahikbikiilaa
open Go.RowKit

/-- An entry that is right. -/
def okE (s t c i : Int) : Prop := okP s t ∧ 0 ≤ c ∧ c ≤ 1000000 ∧ 0 ≤ i ∧ i ≤ 2 * s - 1

instance (s t c i : Int) : Decidable (okE s t c i) := by unfold okE; infer_instance

def okEB (s t c i : Int) : Bool := decide (okE s t c i)

theorem okEB_yes {s t c i : Int} (h : okE s t c i) : okEB s t c i = true := decide_eq_true h

theorem okEB_no {s t c i : Int} (h : ¬ okE s t c i) : okEB s t c i = false := decide_eq_false h

def noneV (s t : Int) : Int := if okP s t then 2 * s - 1 else -1

theorem noneV_w64 (s t : Int) : W64 (noneV s t) := by
  unfold noneV
  split
  · rename_i h
    have := okP_le h
    exact w64_of (by omega) (by omega)
  · exact w64_of (by omega) (by omega)

set_option maxHeartbeats 400000 in
theorem specNone (s t : Int) (w : World) :
    Calls Try.prog 67 #[.agg #[.int .i64 s, .int .i64 t]] w fun e w' => e = .returned (.int .i64 (noneV s t)) ∧ Below w.heap.size w w' := by
  by_cases h : okP s t
  · rw [show noneV s t = 2 * s - 1 from if_pos h]
    obtain ⟨g1, g2⟩ := okP_le h
    have H := Lib.hid h
    clear h
    go_enter Try.func67, Try.ntmps67
    go_wp2_with (go_at_call 39; refine (specOk_yes _ _ H.out _).mono ?_; rintro e w1 ⟨rfl, hb⟩; obtain ⟨hc, hf⟩ := bcell hb)
    go_ret
    exact ⟨rfl, ((Below.refl _ _).alloc (Nat.le_refl _) _).trans (hb.mono (by simp))⟩
  · rw [show noneV s t = -1 from if_neg h]
    have H := Lib.hid h
    clear h
    go_enter Try.func67, Try.ntmps67
    go_wp2_with (go_at_call 39; refine (specOk_no _ _ H.out _).mono ?_; rintro e w1 ⟨rfl, hb⟩; obtain ⟨hc, hf⟩ := bcell hb)
    go_ret
    exact ⟨rfl, ((Below.refl _ _).alloc (Nat.le_refl _) _).trans (hb.mono (by simp))⟩

set_option maxHeartbeats 400000 in
theorem specEntryOk_yes (s t c i : Int) (b : Bool) (h : okE s t c i) (w : World) :
    Calls Try.prog 64 #[.agg #[.int .i64 s, .int .i64 t], .agg #[.int .i64 c, .bool b, .int .i64 i]] w fun e w' => e = .returned (.bool true) ∧ Below w.heap.size w w' := by
  obtain ⟨h, c0, c1, i0, i1⟩ := h
  obtain ⟨g1, g2⟩ := okP_le h
  have H := Lib.hid h
  clear h
  go_enter Try.func64, Try.ntmps64
  go_wp2_with (first | (go_at_call 39; refine (specOk_yes _ _ H.out _).mono ?_; rintro e w1 ⟨rfl, hb⟩; obtain ⟨hc, hf⟩ := bcell hb) | (go_at_call 23; refine (in_yes _ _ _ (by omega) (by omega) _).mono ?_; rintro e w' ⟨rfl, rfl⟩))
  go_ret
  exact ⟨rfl, ((((Below.refl _ _).alloc (Nat.le_refl _) _).alloc (by simp) _).trans (hb.mono (by simp; omega)))⟩

set_option maxHeartbeats 400000 in
theorem specEntryOk_no (s t c i : Int) (b : Bool) (h : ¬ okE s t c i) (w : World) :
    Calls Try.prog 64 #[.agg #[.int .i64 s, .int .i64 t], .agg #[.int .i64 c, .bool b, .int .i64 i]] w fun e w' => e = .returned (.bool false) ∧ Below w.heap.size w w' := by
  by_cases hp : okP s t
  · obtain ⟨g1, g2⟩ := okP_le hp
    by_cases hcc : 0 ≤ c ∧ c ≤ 1000000
    · have hi : i < 0 ∨ 2 * s - 1 < i := Decidable.byContradiction fun hn => h ⟨hp, hcc.1, hcc.2, by omega, by omega⟩
      have H := Lib.hid hp
      have HI := Lib.hid hi
      clear h hp hi
      obtain ⟨c0, c1⟩ := hcc
      go_enter Try.func64, Try.ntmps64
      go_wp2_with (first | (go_at_call 39; refine (specOk_yes _ _ H.out _).mono ?_; rintro e w1 ⟨rfl, hb⟩; obtain ⟨hc, hf⟩ := bcell hb) | (go_at_call 23; (with_reducible refine (in_yes c _ _ c0 c1 _).mono ?_); rintro e w' ⟨rfl, rfl⟩) | (go_at_call 23; (with_reducible refine (in_no i _ _ HI.out _).mono ?_); rintro e w' ⟨rfl, rfl⟩))
      go_ret
      exact ⟨rfl, ((((Below.refl _ _).alloc (Nat.le_refl _) _).alloc (by simp) _).trans (hb.mono (by simp; omega)))⟩
    · have hi : c < 0 ∨ 1000000 < c := by omega
      have H := Lib.hid hp
      have HI := Lib.hid hi
      clear h hp hi hcc
      go_enter Try.func64, Try.ntmps64
      go_wp2_with (first | (go_at_call 39; refine (specOk_yes _ _ H.out _).mono ?_; rintro e w1 ⟨rfl, hb⟩; obtain ⟨hc, hf⟩ := bcell hb) | (go_at_call 23; (with_reducible refine (in_no c _ _ HI.out _).mono ?_); rintro e w' ⟨rfl, rfl⟩))
      go_ret
      exact ⟨rfl, ((((Below.refl _ _).alloc (Nat.le_refl _) _).alloc (by simp) _).trans (hb.mono (by simp; omega)))⟩
  · have H := Lib.hid hp
    clear h hp
    go_enter Try.func64, Try.ntmps64
    go_wp2_with (first | (go_at_call 39; refine (specOk_no _ _ H.out _).mono ?_; rintro e w1 ⟨rfl, hb⟩; obtain ⟨hc, hf⟩ := bcell hb))
    go_ret
    exact ⟨rfl, ((((Below.refl _ _).alloc (Nat.le_refl _) _).alloc (by simp) _).trans (hb.mono (by simp; omega)))⟩

theorem specEntryOk (s t c i : Int) (b : Bool) (w : World) :
    Calls Try.prog 64 #[.agg #[.int .i64 s, .int .i64 t], .agg #[.int .i64 c, .bool b, .int .i64 i]] w fun e w' => e = .returned (.bool (okEB s t c i)) ∧ Below w.heap.size w w' := by
  by_cases h : okE s t c i
  · rw [okEB_yes h]; exact specEntryOk_yes s t c i b h w
  · rw [okEB_no h]; exact specEntryOk_no s t c i b h w

def wordD (s c i : Int) (b : Bool) : Int := 4 * s * c + i + if b then 2 * s else 0

set_option maxHeartbeats 400000 in
theorem specL2Word (s t c i : Int) (b : Bool) (h : okE s t c i) (w : World) :
    Calls Try.prog 68 #[.agg #[.int .i64 s, .int .i64 t], .agg #[.int .i64 c, .bool b, .int .i64 i]] w fun e w' => e = .returned (.int .i64 (wordD s c i b)) ∧ Below w.heap.size w w' := by
  obtain ⟨⟨h, -, -⟩, c0, c1, i0, i1⟩ := h
  rcases h with rfl | rfl | rfl | rfl <;> cases b
  all_goals
    go_enter Try.func68, Try.ntmps68
    go_wp2
    go_ret
    exact ⟨ret_int (by simp [wordD]), (((Below.refl _ _).alloc (Nat.le_refl _) _).alloc (by simp) _)⟩

def wordV (s t c i : Int) (b : Bool) : Int := if okE s t c i then wordD s c i b else -1

end Go.Proofs.Ytdpahikbikiilaa
