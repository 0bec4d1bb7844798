/- The model of the words: an entry out of a word. -/
import Derived.Test.YtcojafpjmifgcaaS2
namespace Go.Proofs.Ytcojafpjmifgcaa
open Go.RowKit

/-- A word that can be read. -/
def okW (s t n : Int) : Prop := okP s t ∧ 0 ≤ n ∧ n / (4 * s) ≤ 1000000

instance (s t n : Int) : Decidable (okW s t n) := by unfold okW; infer_instance

/-- What is read of a word. -/
def entD (s n : Int) : Value := .tuple #[.agg #[.int .i64 (n / (4 * s)), .bool (n / (2 * s) % 2 == 1), .int .i64 (n % (2 * s))], .bool true]

def okWB (s t n : Int) : Bool := decide (okW s t n)

def entC (s t n : Int) : Int := if okW s t n then n / (4 * s) else 0

def entS (s t n : Int) : Bool := if okW s t n then (n / (2 * s) % 2 == 1) else false

def entI (s t n : Int) : Int := if okW s t n then n % (2 * s) else 0

/-- What is made a word is read from it. -/
theorem ent_of_word {s t c i : Int} {b : Bool} (h : okE s t c i) : 0 ≤ wordD s c i b ∧ W64 (wordD s c i b) ∧ okWB s t (wordD s c i b) = true ∧ entC s t (wordD s c i b) = c ∧ entS s t (wordD s c i b) = b ∧ entI s t (wordD s c i b) = i := by
  obtain ⟨hp, c0, c1, i0, i1⟩ := h
  obtain ⟨hs, -, -⟩ := id hp
  have key : 0 ≤ wordD s c i b ∧ wordD s c i b ≤ 40000000 ∧ wordD s c i b / (4 * s) = c ∧ (wordD s c i b / (2 * s) % 2 == 1) = b ∧ wordD s c i b % (2 * s) = i := by
    rcases hs with rfl | rfl | rfl | rfl <;> cases b <;> simp [wordD] <;> omega
  obtain ⟨k0, k1, k2, k3, k4⟩ := key
  have hw : okW s t (wordD s c i b) := ⟨hp, k0, by omega⟩
  exact ⟨k0, w64_of (by omega) (by omega), decide_eq_true hw, by rw [show entC s t _ = _ from if_pos hw]; exact k2, by rw [show entS s t _ = _ from if_pos hw]; exact k3, by rw [show entI s t _ = _ from if_pos hw]; exact k4⟩

/-- Each word that can be read is made of what is read. -/
theorem word_of_ent {s t n : Int} (h : okW s t n) : wordV s t (entC s t n) (entI s t n) (entS s t n) = n := by
  obtain ⟨hp, n0, n1⟩ := id h
  obtain ⟨hs, -, -⟩ := id hp
  rw [show entC s t n = _ from if_pos h, show entS s t n = _ from if_pos h, show entI s t n = _ from if_pos h]
  have hE : okE s t (n / (4 * s)) (n % (2 * s)) := by
    rcases hs with rfl | rfl | rfl | rfl <;> exact ⟨hp, by omega, by omega, by omega, by omega⟩
  rw [show wordV s t _ _ _ = _ from if_pos hE]
  unfold wordD
  by_cases hb : n / (2 * s) % 2 = 1
  · rw [show (n / (2 * s) % 2 == 1) = true from by simpa using hb]
    rcases hs with rfl | rfl | rfl | rfl <;> simp <;> omega
  · rw [show (n / (2 * s) % 2 == 1) = false from by simpa using hb]
    rcases hs with rfl | rfl | rfl | rfl <;> simp <;> omega

end Go.Proofs.Ytcojafpjmifgcaa
