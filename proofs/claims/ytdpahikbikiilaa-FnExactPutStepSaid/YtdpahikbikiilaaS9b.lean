/- The model of putting: where a task is then, is what was read an entry, a ring of one's own. -/
import Derived.Test.YtdpahikbikiilaaS9
import Derived.Test.YtdpahikbikiilaaApp
import Derived.Test.YtdpahikbikiilaaS2b
namespace Go.Proofs.Ytdpahikbikiilaa
open Go.RowKit

def byV (m a b c : Int) : Int := if m = 1 then a else if m = 2 then b else c

theorem spec9By (m a b c : Int) (w : World) :
    Calls Try.prog 47 #[.int .i64 m, .int .i64 a, .int .i64 b, .int .i64 c] w fun e w' => e = .returned (.int .i64 (byV m a b c)) ∧ w = w' := by
  by_cases h1 : m = 1
  · have hd : (m == 1) = true := by simp [h1]
    rw [show byV m a b c = a from if_pos h1]
    go_enter Try.func47, Try.ntmps47
    go_wp2
    go_ret
    exact ⟨rfl, rfl⟩
  · have hd : (m == 1) = false := by simp [h1]
    by_cases h2 : m = 2
    · have hd2 : (m == 2) = true := by simp [h2]
      rw [show byV m a b c = b by unfold byV; rw [if_neg h1, if_pos h2]]
      go_enter Try.func47, Try.ntmps47
      go_wp2
      go_ret
      exact ⟨rfl, rfl⟩
    · have hd2 : (m == 2) = false := by simp [h2]
      rw [show byV m a b c = c by unfold byV; rw [if_neg h1, if_neg h2]]
      go_enter Try.func47, Try.ntmps47
      go_wp2
      go_ret
      exact ⟨rfl, rfl⟩

def readB (s t : Int) (h : Hd) : Bool := if h.at_ ≠ 4 ∧ h.at_ ≠ 10 ∧ h.at_ ≠ 11 then true else okWB s t h.word

set_option maxRecDepth 100000 in
set_option maxHeartbeats 2000000 in
theorem spec9Read_yes (s t : Int) (h : Hd) (hq : h.at_ ≠ 4 ∧ h.at_ ≠ 10 ∧ h.at_ ≠ 11) (w : World) :
    Calls Try.prog 25 #[.agg #[.int .i64 s, .int .i64 t], .agg #[.int .i64 h.at_, .int .i64 h.code, .int .i64 h.val, .int .i64 h.ring, .int .i64 h.tick, .int .i64 h.word, .int .i64 h.tail, .int .i64 h.head, .int .i64 h.index, .int .i64 h.begin_, .int .i64 h.reply, .int .i64 h.out]] w fun e w' => e = .returned (.bool true) ∧ Below w.heap.size w w' := by
  have d1 : (h.at_ != 4) = true := by simp [hq.1]
  have d2 : (h.at_ != 10) = true := by simp [hq.2.1]
  have d3 : (h.at_ != 11) = true := by simp [hq.2.2]
  clear hq
  go_enter Try.func25, Try.ntmps25
  go_wp2
  go_ret
  exact ⟨rfl, ((Below.refl _ _).alloc (Nat.le_refl _) _).alloc (by simp) _⟩

set_option maxRecDepth 100000 in
set_option maxHeartbeats 2000000 in
theorem spec9Read_go (s t : Int) (h : Hd) (hw : W64 h.word) (hq : h.at_ = 4 ∨ h.at_ = 10 ∨ h.at_ = 11) (w : World) :
    Calls Try.prog 25 #[.agg #[.int .i64 s, .int .i64 t], .agg #[.int .i64 h.at_, .int .i64 h.code, .int .i64 h.val, .int .i64 h.ring, .int .i64 h.tick, .int .i64 h.word, .int .i64 h.tail, .int .i64 h.head, .int .i64 h.index, .int .i64 h.begin_, .int .i64 h.reply, .int .i64 h.out]] w fun e w' => e = .returned (.bool (okWB s t h.word)) ∧ Below w.heap.size w w' := by
  have HE := Lib.hid (specEntryOf s t h.word hw)
  have HQ := Lib.hid (((Held.start w).new (.cells #[.int .i64 s, .int .i64 t] 38)).new (.cells #[.int .i64 h.at_, .int .i64 h.code, .int .i64 h.val, .int .i64 h.ring, .int .i64 h.tick, .int .i64 h.word, .int .i64 h.tail, .int .i64 h.head, .int .i64 h.index, .int .i64 h.begin_, .int .i64 h.reply, .int .i64 h.out] 35))
  simp only [World.size_alloc] at HQ
  clear hw
  rcases hq with hq | hq | hq
  · have d1 : (h.at_ != 4) = false := by simp [hq]
    clear hq
    go_enter Try.func25, Try.ntmps25
    go_wp2_with (go_at_call 41; (with_reducible refine (HE.out _).mono ?_); rintro e w1 ⟨rfl, hb⟩; have HQ1 := Lib.hid (HQ.out.step hb); clear hb)
    go_ret
    exact ⟨rfl, (HQ1.out.alloc _).below⟩
  · have d1 : (h.at_ != 4) = true := by simp [hq]
    have d2 : (h.at_ != 10) = false := by simp [hq]
    clear hq
    go_enter Try.func25, Try.ntmps25
    go_wp2_with (go_at_call 41; (with_reducible refine (HE.out _).mono ?_); rintro e w1 ⟨rfl, hb⟩; have HQ1 := Lib.hid (HQ.out.step hb); clear hb)
    go_ret
    exact ⟨rfl, (HQ1.out.alloc _).below⟩
  · have d1 : (h.at_ != 4) = true := by simp [hq]
    have d2 : (h.at_ != 10) = true := by simp [hq]
    have d3 : (h.at_ != 11) = false := by simp [hq]
    clear hq
    go_enter Try.func25, Try.ntmps25
    go_wp2_with (go_at_call 41; (with_reducible refine (HE.out _).mono ?_); rintro e w1 ⟨rfl, hb⟩; have HQ1 := Lib.hid (HQ.out.step hb); clear hb)
    go_ret
    exact ⟨rfl, (HQ1.out.alloc _).below⟩

theorem spec9Read (s t : Int) (h : Hd) (hw : W64 h.word) (w : World) :
    Calls Try.prog 25 #[.agg #[.int .i64 s, .int .i64 t], .agg #[.int .i64 h.at_, .int .i64 h.code, .int .i64 h.val, .int .i64 h.ring, .int .i64 h.tick, .int .i64 h.word, .int .i64 h.tail, .int .i64 h.head, .int .i64 h.index, .int .i64 h.begin_, .int .i64 h.reply, .int .i64 h.out]] w fun e w' => e = .returned (.bool (readB s t h)) ∧ Below w.heap.size w w' := by
  by_cases hq : h.at_ ≠ 4 ∧ h.at_ ≠ 10 ∧ h.at_ ≠ 11
  · rw [show readB s t h = true from if_pos hq]
    exact spec9Read_yes s t h hq w
  · rw [show readB s t h = okWB s t h.word from if_neg hq]
    exact spec9Read_go s t h hw (by omega) w

/-- A ring with words of the call's own. -/
def GivesR (xs : List Int) (h tl l : Int) (w : World) (e : Ending) (w' : World) : Prop := ∃ v, e = .returned (.agg #[v, .int .i64 h, .int .i64 tl, .int .i64 l]) ∧ OwnI w.heap.size v xs w' ∧ Below w.heap.size w w'

set_option maxRecDepth 100000 in
set_option maxHeartbeats 2000000 in
theorem spec6Copy (a : Option Addr) (n cap : Nat) (xs : List Int) (h tl l : Int) (w : World) (hi : IntsW (a, n, xs) w) (hn : n ≤ 4194304) :
    Calls Try.prog 27 #[.agg #[.slice a n cap, .int .i64 h, .int .i64 tl, .int .i64 l]] w (GivesR xs h tl l w) := by
  have HQ := Lib.hid ((((Hold.start w).addI hi).new (.cells #[.slice a n cap, .int .i64 h, .int .i64 tl, .int .i64 l] 32)).new (.cells #[.slice none 0 0, .int .i64 0, .int .i64 0, .int .i64 0] 32))
  simp only [World.size_alloc] at HQ
  clear hi
  go_enter Try.func27, Try.ntmps27
  go_wp2_with fail
  refine (specCopy a n cap xs _ HQ.out.ints hn).mono ?_
  rintro e w1 ⟨vv, rfl, ho, hb⟩
  obtain ⟨av, nv, cv, rfl, -⟩ := OwnI.form2 ho
  have HQ1 := Lib.hid (HQ.out.step hb)
  have HO := Lib.hid ho
  have hlt := ho.lt
  have z1 := HQ1.out.size
  clear hb ho HQ
  obtain ⟨a0, a1, a2, a3, b0, b1, b2, b3⟩ := blk_four HQ1.out.hd
  obtain ⟨c0, c1, c2, c3, d0, d1, d2, d3⟩ := blk_four HQ1.out.tl.hd
  go_wp2
  refine bodyPost_ret (v := .agg #[.slice av nv cv, .int .i64 h, .int .i64 tl, .int .i64 l]) ?ret rfl ⟨.slice av nv cv, rfl, ?own, ?bel⟩
  case ret => simp [results, Try.results27, go_sem, a0, a1, a2, a3, c0, c1, c2, c3]
  case own =>
    refine OwnI.low ?_ (show w.heap.size ≤ w.heap.size + 1 + 1 by omega)
    simp only [World.size_alloc] at HO
    repeat' (first | with_reducible exact HO.out | ((with_reducible refine OwnI.setLow ?_ ?_); rotate_left; focus (first | (simp; done) | (simp; omega))))
  case bel => repeat' (first | with_reducible exact HQ1.out.below | ((with_reducible refine Below.setCell ?_ ?_ _); rotate_left; focus (first | (simp; done) | (simp; omega))))

end Go.Proofs.Ytdpahikbikiilaa
