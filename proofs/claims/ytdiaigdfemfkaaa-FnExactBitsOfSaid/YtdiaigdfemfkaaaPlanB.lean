/- Contracts of the counts of a plan: the model's and the program's. -/
import Derived.Test.YtdiaigdfemfkaaaPlanA
import Derived.Test.YtdiaigdfemfkaaaCells
namespace Go.Proofs.Ytdiaigdfemfkaaa
open Go.RowKit

theorem okP_le {s t : Int} (h : okP s t) : 1 ≤ s ∧ s ≤ 8 := by unfold okP at h; omega

/-- Twice the size is two to the power of this. -/
def bitsD (s : Int) : Int := if s = 1 then 1 else if s = 2 then 2 else if s = 4 then 3 else 4

theorem slots_any (s t : Int) (h1 : 1 ≤ s) (h2 : s ≤ 8) (w : World) :
    Calls Try.prog 28 #[.agg #[.int .i64 s, .int .i64 t]] w fun e w' => e = .returned (.int .i64 (2 * s)) ∧ Below w.heap.size w w' := by
  go_enter Try.func28, Try.ntmps28
  go_wp2
  go_ret
  exact ⟨rfl, (Below.refl _ _).alloc (Nat.le_refl _) _⟩

theorem most_any (s t : Int) (h1 : 1 ≤ s) (h2 : s ≤ 8) (w : World) :
    Calls Try.prog 29 #[.agg #[.int .i64 s, .int .i64 t]] w fun e w' => e = .returned (.int .i64 (3 * s - 1)) ∧ Below w.heap.size w w' := by
  go_enter Try.func29, Try.ntmps29
  go_wp2
  go_ret
  exact ⟨rfl, (Below.refl _ _).alloc (Nat.le_refl _) _⟩

theorem specSlots_yes (s t : Int) (h : okP s t) (w : World) :
    Calls Try.prog 16 #[.agg #[.int .i64 s, .int .i64 t]] w fun e w' => e = .returned (.int .i64 (2 * s)) ∧ Below w.heap.size w w' := by
  obtain ⟨g1, g2⟩ := okP_le h
  have H := Lib.hid h
  clear h
  go_enter Try.func16, Try.ntmps16
  go_wp2_with (go_at_call 14; refine (specOk_yes _ _ H.out _).mono ?_; rintro e w1 ⟨rfl, hb⟩; obtain ⟨hc, hf⟩ := bcell hb)
  go_ret
  exact ⟨rfl, ((Below.refl _ _).alloc (Nat.le_refl _) _).trans (hb.mono (by simp))⟩

theorem specMost_yes (s t : Int) (h : okP s t) (w : World) :
    Calls Try.prog 19 #[.agg #[.int .i64 s, .int .i64 t]] w fun e w' => e = .returned (.int .i64 (3 * s - 1)) ∧ Below w.heap.size w w' := by
  obtain ⟨g1, g2⟩ := okP_le h
  have H := Lib.hid h
  clear h
  go_enter Try.func19, Try.ntmps19
  go_wp2_with (go_at_call 14; refine (specOk_yes _ _ H.out _).mono ?_; rintro e w1 ⟨rfl, hb⟩; obtain ⟨hc, hf⟩ := bcell hb)
  go_ret
  exact ⟨rfl, ((Below.refl _ _).alloc (Nat.le_refl _) _).trans (hb.mono (by simp))⟩

theorem specSlots_no (s t : Int) (h : ¬ okP s t) (w : World) :
    Calls Try.prog 16 #[.agg #[.int .i64 s, .int .i64 t]] w fun e w' => e = .returned (.int .i64 (-1)) ∧ Below w.heap.size w w' := by
  have H := Lib.hid h
  clear h
  go_enter Try.func16, Try.ntmps16
  go_wp2_with (go_at_call 14; refine (specOk_no _ _ H.out _).mono ?_; rintro e w1 ⟨rfl, hb⟩; obtain ⟨hc, hf⟩ := bcell hb)
  go_ret
  exact ⟨rfl, ((Below.refl _ _).alloc (Nat.le_refl _) _).trans (hb.mono (by simp))⟩

theorem specMost_no (s t : Int) (h : ¬ okP s t) (w : World) :
    Calls Try.prog 19 #[.agg #[.int .i64 s, .int .i64 t]] w fun e w' => e = .returned (.int .i64 (-1)) ∧ Below w.heap.size w w' := by
  have H := Lib.hid h
  clear h
  go_enter Try.func19, Try.ntmps19
  go_wp2_with (go_at_call 14; refine (specOk_no _ _ H.out _).mono ?_; rintro e w1 ⟨rfl, hb⟩; obtain ⟨hc, hf⟩ := bcell hb)
  go_ret
  exact ⟨rfl, ((Below.refl _ _).alloc (Nat.le_refl _) _).trans (hb.mono (by simp))⟩

theorem specBits_no (s t : Int) (h : ¬ okP s t) (w : World) :
    Calls Try.prog 17 #[.agg #[.int .i64 s, .int .i64 t]] w fun e w' => e = .returned (.int .i64 (-1)) ∧ Below w.heap.size w w' := by
  have H := Lib.hid h
  clear h
  go_enter Try.func17, Try.ntmps17
  go_wp2_with (go_at_call 14; refine (specOk_no _ _ H.out _).mono ?_; rintro e w1 ⟨rfl, hb⟩; obtain ⟨hc, hf⟩ := bcell hb)
  go_ret
  exact ⟨rfl, ((Below.refl _ _).alloc (Nat.le_refl _) _).trans (hb.mono (by simp))⟩

/-- The number of halvings that are left. -/
def halves (B : Int) (n k : Value) : Prop := ∃ a b : Int, n = .int .i64 a ∧ k = .int .i64 b ∧ ((b = 1 ∧ a = B) ∨ (b = 2 ∧ a = B - 1) ∨ (b = 4 ∧ a = B - 2) ∨ (b = 8 ∧ a = B - 3) ∨ (b = 16 ∧ a = B - 4))

theorem bitsD_of {s t : Int} (h : okP s t) : (s = 1 ∧ bitsD s = 1) ∨ (s = 2 ∧ bitsD s = 2) ∨ (s = 4 ∧ bitsD s = 3) ∨ (s = 8 ∧ bitsD s = 4) := by
  obtain ⟨h0, _, _⟩ := h
  rcases h0 with rfl | rfl | rfl | rfl <;> simp [bitsD]

theorem specBits_go (s t B : Int) (hB : (s = 1 ∧ B = 1) ∨ (s = 2 ∧ B = 2) ∨ (s = 4 ∧ B = 3) ∨ (s = 8 ∧ B = 4)) (h : okP s t) (w : World) :
    Calls Try.prog 17 #[.agg #[.int .i64 s, .int .i64 t]] w fun e w' => e = .returned (.int .i64 B) ∧ Below w.heap.size w w' := by
  have g1 : 1 ≤ B := by omega
  have g2 : B ≤ 4 := by omega
  have H := Lib.hid h
  have HB := Lib.hid hB
  clear h hB
  go_enter Try.func17, Try.ntmps17
  go_wp2_with (go_at_call 14; refine (specOk_yes _ _ H.out _).mono ?_; rintro e w1 ⟨rfl, hb⟩; obtain ⟨hc, hf⟩ := bcell hb)
  go_loop [3, 4] (fun n k => halves B n k) (fun _ k => (intOf k).toNat)
  case atStart => exact ⟨_, _, rfl, rfl, by have := HB.out; omega⟩
  case round =>
    obtain ⟨a, b, rfl, rfl, hab⟩ := hrel
    rcases hab with ⟨rfl, rfl⟩ | ⟨rfl, rfl⟩ | ⟨rfl, rfl⟩ | ⟨rfl, rfl⟩ | ⟨rfl, rfl⟩
    · go_wp2
      go_ret
      exact ⟨rfl, ((Below.refl _ _).alloc (Nat.le_refl _) _).trans (hb.mono (by simp))⟩
    all_goals
      go_wp2
      go_round
      case rel => exact ⟨_, _, rfl, rfl, by omega⟩
      case measure => simp [intOf]

theorem specBits_yes (s t : Int) (h : okP s t) (w : World) :
    Calls Try.prog 17 #[.agg #[.int .i64 s, .int .i64 t]] w fun e w' => e = .returned (.int .i64 (bitsD s)) ∧ Below w.heap.size w w' :=
  specBits_go s t (bitsD s) (bitsD_of h) h w

theorem bits_go (s t B : Int) (hB : (s = 1 ∧ B = 1) ∨ (s = 2 ∧ B = 2) ∨ (s = 4 ∧ B = 3) ∨ (s = 8 ∧ B = 4)) (w : World) :
    Calls Try.prog 25 #[.agg #[.int .i64 s, .int .i64 t]] w fun e w' => e = .returned (.int .i64 B) ∧ Below w.heap.size w w' := by
  have g1 : 1 ≤ B := by omega
  have g2 : B ≤ 4 := by omega
  have g3 : 1 ≤ s := by omega
  have g4 : s ≤ 8 := by omega
  have HB := Lib.hid hB
  clear hB
  go_enter Try.func25, Try.ntmps25
  go_wp2_with (go_at_call 28; refine (slots_any _ _ (by omega) (by omega) _).mono ?_; rintro e w1 ⟨rfl, hb⟩; obtain ⟨hc, hf⟩ := bcell hb)
  go_loop [3, 4] (fun n k => halves B n k) (fun _ k => (intOf k).toNat)
  case atStart => exact ⟨_, _, rfl, rfl, by have := HB.out; omega⟩
  case round =>
    obtain ⟨a, b, rfl, rfl, hab⟩ := hrel
    rcases hab with ⟨rfl, rfl⟩ | ⟨rfl, rfl⟩ | ⟨rfl, rfl⟩ | ⟨rfl, rfl⟩ | ⟨rfl, rfl⟩
    · go_wp2
      go_ret
      exact ⟨rfl, ((Below.refl _ _).alloc (Nat.le_refl _) _).trans (hb.mono (by simp))⟩
    all_goals
      go_wp2
      go_round
      case rel => exact ⟨_, _, rfl, rfl, by omega⟩
      case measure => simp [intOf]

theorem bits_any (s t : Int) (h : okP s t) (w : World) :
    Calls Try.prog 25 #[.agg #[.int .i64 s, .int .i64 t]] w fun e w' => e = .returned (.int .i64 (bitsD s)) ∧ Below w.heap.size w w' :=
  bits_go s t (bitsD s) (bitsD_of h) w

theorem slotsOf_yes (s t : Int) (h : okP s t) (w : World) :
    Calls Try.prog 15 #[.agg #[.int .i64 s, .int .i64 t]] w fun e w' => e = .returned (.int .i64 (2 * s)) ∧ Below w.heap.size w w' := by
  obtain ⟨g1, g2⟩ := okP_le h
  have H := Lib.hid h
  clear h
  have hmf : ∀ (fn : Fn) (first cap : Array Value) (w : World), (Instr.makeFunc fn first cap).run Try.prog w = .ok (.func fn first cap) w := fun _ _ _ _ => rfl
  go_enter Try.func15, Try.ntmps15
  go_wp2_with (first | (go_at_call 26; refine (right_yes _ _ H.out _).mono ?_; rintro e w1 ⟨rfl, hb⟩; obtain ⟨hc, hf⟩ := bcell hb) | (go_at_call 28; refine (slots_any _ _ (by omega) (by omega) _).mono ?_; rintro e w2 ⟨rfl, hb2⟩) | go_in)
  go_ret
  exact ⟨rfl, (((((Below.refl _ _).alloc (Nat.le_refl _) _).alloc (by simp) _).trans (hb.mono (by simp; omega)))).trans (hb2.mono (by have := hb.size; simp at this; omega))⟩

theorem slotsOf_no (s t : Int) (h : ¬ okP s t) (w : World) :
    Calls Try.prog 15 #[.agg #[.int .i64 s, .int .i64 t]] w fun e w' => e = .returned (.int .i64 (-1)) ∧ Below w.heap.size w w' := by
  have H := Lib.hid h
  clear h
  have hmf : ∀ (fn : Fn) (first cap : Array Value) (w : World), (Instr.makeFunc fn first cap).run Try.prog w = .ok (.func fn first cap) w := fun _ _ _ _ => rfl
  go_enter Try.func15, Try.ntmps15
  go_wp2_with (first | (go_at_call 26; refine (right_no _ _ H.out _).mono ?_; rintro e w1 ⟨rfl, hb⟩; obtain ⟨hc, hf⟩ := bcell hb) | go_in)
  go_ret
  exact ⟨rfl, ((((Below.refl _ _).alloc (Nat.le_refl _) _).alloc (by simp) _).trans (hb.mono (by simp; omega)))⟩

theorem mostOf_yes (s t : Int) (h : okP s t) (w : World) :
    Calls Try.prog 18 #[.agg #[.int .i64 s, .int .i64 t]] w fun e w' => e = .returned (.int .i64 (3 * s - 1)) ∧ Below w.heap.size w w' := by
  obtain ⟨g1, g2⟩ := okP_le h
  have H := Lib.hid h
  clear h
  have hmf : ∀ (fn : Fn) (first cap : Array Value) (w : World), (Instr.makeFunc fn first cap).run Try.prog w = .ok (.func fn first cap) w := fun _ _ _ _ => rfl
  go_enter Try.func18, Try.ntmps18
  go_wp2_with (first | (go_at_call 26; refine (right_yes _ _ H.out _).mono ?_; rintro e w1 ⟨rfl, hb⟩; obtain ⟨hc, hf⟩ := bcell hb) | (go_at_call 29; refine (most_any _ _ (by omega) (by omega) _).mono ?_; rintro e w2 ⟨rfl, hb2⟩) | go_in)
  go_ret
  exact ⟨rfl, (((((Below.refl _ _).alloc (Nat.le_refl _) _).alloc (by simp) _).trans (hb.mono (by simp; omega)))).trans (hb2.mono (by have := hb.size; simp at this; omega))⟩

theorem mostOf_no (s t : Int) (h : ¬ okP s t) (w : World) :
    Calls Try.prog 18 #[.agg #[.int .i64 s, .int .i64 t]] w fun e w' => e = .returned (.int .i64 (-1)) ∧ Below w.heap.size w w' := by
  have H := Lib.hid h
  clear h
  have hmf : ∀ (fn : Fn) (first cap : Array Value) (w : World), (Instr.makeFunc fn first cap).run Try.prog w = .ok (.func fn first cap) w := fun _ _ _ _ => rfl
  go_enter Try.func18, Try.ntmps18
  go_wp2_with (first | (go_at_call 26; refine (right_no _ _ H.out _).mono ?_; rintro e w1 ⟨rfl, hb⟩; obtain ⟨hc, hf⟩ := bcell hb) | go_in)
  go_ret
  exact ⟨rfl, ((((Below.refl _ _).alloc (Nat.le_refl _) _).alloc (by simp) _).trans (hb.mono (by simp; omega)))⟩

theorem bitsOf_yes (s t : Int) (h : okP s t) (w : World) :
    Calls Try.prog 12 #[.agg #[.int .i64 s, .int .i64 t]] w fun e w' => e = .returned (.int .i64 (bitsD s)) ∧ Below w.heap.size w w' := by
  obtain ⟨g1, g2⟩ := okP_le h
  have H := Lib.hid h
  clear h
  have hmf : ∀ (fn : Fn) (first cap : Array Value) (w : World), (Instr.makeFunc fn first cap).run Try.prog w = .ok (.func fn first cap) w := fun _ _ _ _ => rfl
  go_enter Try.func12, Try.ntmps12
  go_wp2_with (first | (go_at_call 26; refine (right_yes _ _ H.out _).mono ?_; rintro e w1 ⟨rfl, hb⟩; obtain ⟨hc, hf⟩ := bcell hb) | (go_at_call 25; refine (bits_any _ _ H.out _).mono ?_; rintro e w2 ⟨rfl, hb2⟩) | go_in)
  go_ret
  exact ⟨rfl, (((((Below.refl _ _).alloc (Nat.le_refl _) _).alloc (by simp) _).trans (hb.mono (by simp; omega)))).trans (hb2.mono (by have := hb.size; simp at this; omega))⟩

theorem bitsOf_no (s t : Int) (h : ¬ okP s t) (w : World) :
    Calls Try.prog 12 #[.agg #[.int .i64 s, .int .i64 t]] w fun e w' => e = .returned (.int .i64 (-1)) ∧ Below w.heap.size w w' := by
  have H := Lib.hid h
  clear h
  have hmf : ∀ (fn : Fn) (first cap : Array Value) (w : World), (Instr.makeFunc fn first cap).run Try.prog w = .ok (.func fn first cap) w := fun _ _ _ _ => rfl
  go_enter Try.func12, Try.ntmps12
  go_wp2_with (first | (go_at_call 26; refine (right_no _ _ H.out _).mono ?_; rintro e w1 ⟨rfl, hb⟩; obtain ⟨hc, hf⟩ := bcell hb) | go_in)
  go_ret
  exact ⟨rfl, ((((Below.refl _ _).alloc (Nat.le_refl _) _).alloc (by simp) _).trans (hb.mono (by simp; omega)))⟩

end Go.Proofs.Ytdiaigdfemfkaaa
