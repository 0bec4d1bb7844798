/- The model of the words: an entry out of a word. -/
import Derived.Test.YtdpahikbikiilaaS2
namespace Go.Proofs.Ytdpahikbikiilaa
open Go.RowKit

/-- A word that can be read. -/
def okW (s t n : Int) : Prop := okP s t ∧ 0 ≤ n ∧ n / (4 * s) ≤ 1000000

instance (s t n : Int) : Decidable (okW s t n) := by unfold okW; infer_instance

/-- What is read of a word. -/
def entD (s n : Int) : Value := .tuple #[.agg #[.int .i64 (n / (4 * s)), .bool (n / (2 * s) % 2 == 1), .int .i64 (n % (2 * s))], .bool true]

set_option maxHeartbeats 1000000 in
theorem specEntryOf_yes (s t n : Int) (h : okW s t n) (w : World) :
    Calls Try.prog 41 #[.agg #[.int .i64 s, .int .i64 t], .int .i64 n] w fun e w' => e = .returned (entD s n) ∧ Below w.heap.size w w' := by
  obtain ⟨hp, n0, n1⟩ := h
  obtain ⟨g0, g3, g4⟩ := id hp
  have HP := Lib.hid hp
  clear hp
  rcases g0 with rfl | rfl | rfl | rfl
  all_goals
    go_enter Try.func41, Try.ntmps41
    go_wp2_with fail
    refine (specOk_yes _ _ HP.out _).mono ?_
    rintro e w1 ⟨rfl, hb⟩
    obtain ⟨p0, p1, -, -⟩ := blk_two (blk_below (blk_alloc (blk_new w _)) hb (by simp; omega))
    have R1 := Lib.hid (blk_below (blk_new (w.alloc _) _) hb (by simp))
    obtain ⟨q0, q1, q2, e0, e1, e2⟩ := blk_three R1.out
    simp at q0 q1 q2 e0 e1 e2
    have z1 := hb.size
    simp at z1
    have za : w.heap.size < w1.heap.size := by omega
    have zb : w.heap.size + 1 < w1.heap.size := by omega
    go_wp2
    go_region
    go_wp2_with fail
    refine (specEntryOk_yes _ _ _ _ _ ⟨HP.out, by omega, by omega, by omega, by omega⟩ _).mono ?_
    rintro e w2 ⟨rfl, hb2⟩
    have z2 := hb2.size
    simp at z2
    obtain ⟨r0, r1, r2, -, -, -⟩ := blk_three (blk_below (w := (w1.alloc _).drew) (blk_new w1 _) hb2 (by simp))
    have R2 := Lib.hid (blk_below (w := (w1.alloc _).drew) (blk_alloc R1.out) hb2 (by simp; omega))
    simp at R2
    have HB := Lib.hid ((((((Below.refl w.heap.size w).alloc (Nat.le_refl _) _).alloc (by simp) _).trans (hb.mono (by simp; omega))).alloc (by omega) _).drew.trans (hb2.mono (by simp; omega)))
    clear hb2 hb q0 q1 q2 e0 e1 e2 p0 p1
    obtain ⟨q0, q1, q2, e0, e1, e2⟩ := blk_three R2.out
    go_wp2
    refine bodyPost_ret ?ret rfl ⟨rfl, ?bel⟩
    case ret => simp [results, Try.results41, go_sem, q0, q1, q2, entD]
    case bel => exact ((HB.out.setCell (by simp) _).setCell (by simp) _).setCell (by simp) _

set_option maxHeartbeats 1000000 in
theorem specEntryOf_no (s t n : Int) (hn64 : W64 n) (h : ¬ okW s t n) (w : World) :
    Calls Try.prog 41 #[.agg #[.int .i64 s, .int .i64 t], .int .i64 n] w fun e w' => e = .returned (.tuple #[.agg #[.int .i64 0, .bool false, .int .i64 0], .bool false]) ∧ Below w.heap.size w w' := by
  by_cases hp : okP s t
  · by_cases hn : n < 0
    · have HP := Lib.hid hp
      clear hp h
      go_enter Try.func41, Try.ntmps41
      go_wp2_with fail
      refine (specOk_yes _ _ HP.out _).mono ?_
      rintro e w1 ⟨rfl, hb⟩
      obtain ⟨q0, q1, q2, e0, e1, e2⟩ := blk_three (blk_below (blk_new (w.alloc _) _) hb (by simp))
      simp at q0 q1 q2 e0 e1 e2
      go_wp2
      refine bodyPost_ret ?ret rfl ⟨rfl, ?bel⟩
      case ret => simp [results, Try.results41, go_sem, q0, q1, q2]
      case bel => exact ((((((Below.refl w.heap.size w).alloc (Nat.le_refl _) _).alloc (by simp) _).trans (hb.mono (by simp; omega))).setCell (by simp) _).setCell (by simp) _).setCell (by simp) _
    · have n0 : 0 ≤ n := by omega
      have hdiv := w64_div hn64 n0
      have hbig : 1000000 < n / (4 * s) := Decidable.byContradiction fun hx => h ⟨hp, n0, by omega⟩
      obtain ⟨g0, g3, g4⟩ := id hp
      have HP := Lib.hid hp
      clear hp h hn
      rcases g0 with rfl | rfl | rfl | rfl
      all_goals
        have HN := Lib.hid hbig
        clear hbig
        go_enter Try.func41, Try.ntmps41
        go_wp2_with fail
        refine (specOk_yes _ _ HP.out _).mono ?_
        rintro e w1 ⟨rfl, hb⟩
        obtain ⟨p0, p1, -, -⟩ := blk_two (blk_below (blk_alloc (blk_new w _)) hb (by simp; omega))
        have R1 := Lib.hid (blk_below (blk_new (w.alloc _) _) hb (by simp))
        obtain ⟨q0, q1, q2, e0, e1, e2⟩ := blk_three R1.out
        simp at q0 q1 q2 e0 e1 e2
        have z1 := hb.size
        simp at z1
        have za : w.heap.size < w1.heap.size := by omega
        have zb : w.heap.size + 1 < w1.heap.size := by omega
        go_wp2
        go_region
        go_wp2_with fail
        refine (specEntryOk_no _ _ _ _ _ (fun hx => by have := HN.out; have := hx.2.2.1; omega) _).mono ?_
        rintro e w2 ⟨rfl, hb2⟩
        have z2 := hb2.size
        simp at z2
        have R2 := Lib.hid (blk_below (w := (w1.alloc _).drew) (blk_alloc R1.out) hb2 (by simp; omega))
        simp at R2
        have HB := Lib.hid ((((((Below.refl w.heap.size w).alloc (Nat.le_refl _) _).alloc (by simp) _).trans (hb.mono (by simp; omega))).alloc (by omega) _).drew.trans (hb2.mono (by simp; omega)))
        clear hb2 hb q0 q1 q2 e0 e1 e2 p0 p1
        obtain ⟨q0, q1, q2, e0, e1, e2⟩ := blk_three R2.out
        go_wp2
        refine bodyPost_ret ?ret rfl ⟨rfl, ?bel⟩
        case ret => simp [results, Try.results41, go_sem, q0, q1, q2]
        case bel => exact ((HB.out.setCell (by simp) _).setCell (by simp) _).setCell (by simp) _
  · have HP := Lib.hid hp
    clear hp h
    go_enter Try.func41, Try.ntmps41
    go_wp2_with fail
    refine (specOk_no _ _ HP.out _).mono ?_
    rintro e w1 ⟨rfl, hb⟩
    obtain ⟨q0, q1, q2, e0, e1, e2⟩ := blk_three (blk_below (blk_new (w.alloc _) _) hb (by simp))
    simp at q0 q1 q2 e0 e1 e2
    go_wp2
    refine bodyPost_ret ?ret rfl ⟨rfl, ?bel⟩
    case ret => simp [results, Try.results41, go_sem, q0, q1, q2]
    case bel => exact ((((((Below.refl w.heap.size w).alloc (Nat.le_refl _) _).alloc (by simp) _).trans (hb.mono (by simp; omega))).setCell (by simp) _).setCell (by simp) _).setCell (by simp) _

def okWB (s t n : Int) : Bool := decide (okW s t n)

def entC (s t n : Int) : Int := if okW s t n then n / (4 * s) else 0

def entS (s t n : Int) : Bool := if okW s t n then (n / (2 * s) % 2 == 1) else false

def entI (s t n : Int) : Int := if okW s t n then n % (2 * s) else 0

theorem specEntryOf (s t n : Int) (hn : W64 n) (w : World) :
    Calls Try.prog 41 #[.agg #[.int .i64 s, .int .i64 t], .int .i64 n] w fun e w' => e = .returned (.tuple #[.agg #[.int .i64 (entC s t n), .bool (entS s t n), .int .i64 (entI s t n)], .bool (okWB s t n)]) ∧ Below w.heap.size w w' := by
  by_cases h : okW s t n
  · rw [show entC s t n = _ from if_pos h, show entS s t n = _ from if_pos h, show entI s t n = _ from if_pos h, show okWB s t n = true from decide_eq_true h]; exact specEntryOf_yes s t n h w
  · rw [show entC s t n = _ from if_neg h, show entS s t n = _ from if_neg h, show entI s t n = _ from if_neg h, show okWB s t n = false from decide_eq_false h]; exact specEntryOf_no s t n hn h w

/-- What is made a word is read from it. -/
theorem ent_of_word {s t c i : Int} {b : Bool} (h : okE s t c i) : 0 ≤ wordD s c i b ∧ W64 (wordD s c i b) ∧ okWB s t (wordD s c i b) = true ∧ entC s t (wordD s c i b) = c ∧ entS s t (wordD s c i b) = b ∧ entI s t (wordD s c i b) = i := by
  obtain ⟨hp, c0, c1, i0, i1⟩ := h
  obtain ⟨hs, -, -⟩ := id hp
  have key : 0 ≤ wordD s c i b ∧ wordD s c i b ≤ 40000000 ∧ wordD s c i b / (4 * s) = c ∧ (wordD s c i b / (2 * s) % 2 == 1) = b ∧ wordD s c i b % (2 * s) = i := by
    rcases hs with rfl | rfl | rfl | rfl <;> cases b <;> simp [wordD] <;> omega
  obtain ⟨k0, k1, k2, k3, k4⟩ := key
  have hw : okW s t (wordD s c i b) := ⟨hp, k0, by omega⟩
  exact ⟨k0, w64_of (by omega) (by omega), decide_eq_true hw, by rw [show entC s t _ = _ from if_pos hw]; exact k2, by rw [show entS s t _ = _ from if_pos hw]; exact k3, by rw [show entI s t _ = _ from if_pos hw]; exact k4⟩

/-- Each word that can be read is made of what is read. -/
theorem word_of_ent {s t n : Int} (h : okW s t n) : wordV s t (entC s t n) (entI s t n) (entS s t n) = n := by
  obtain ⟨hp, n0, n1⟩ := id h
  obtain ⟨hs, -, -⟩ := id hp
  rw [show entC s t n = _ from if_pos h, show entS s t n = _ from if_pos h, show entI s t n = _ from if_pos h]
  have hE : okE s t (n / (4 * s)) (n % (2 * s)) := by
    rcases hs with rfl | rfl | rfl | rfl <;> exact ⟨hp, by omega, by omega, by omega, by omega⟩
  rw [show wordV s t _ _ _ = _ from if_pos hE]
  unfold wordD
  by_cases hb : n / (2 * s) % 2 = 1
  · rw [show (n / (2 * s) % 2 == 1) = true from by simpa using hb]
    rcases hs with rfl | rfl | rfl | rfl <;> simp <;> omega
  · rw [show (n / (2 * s) % 2 == 1) = false from by simpa using hb]
    rcases hs with rfl | rfl | rfl | rfl <;> simp <;> omega

end Go.Proofs.Ytdpahikbikiilaa
