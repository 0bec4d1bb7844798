/- Contracts of the draws: an odd number, any number, a plan that is right, any plan. -/
import Derived.Test.YtgcnfnmdemeaoaaDraw
import Derived.Test.YtgcnfnmdemeaoaaS1
namespace Go.Proofs.Ytgcnfnmdemeaoaa
open Go.RowKit

set_option maxHeartbeats 1000000 in
theorem odd_any {B c : Nat} {a : Option Addr} {n cap : Nat} {w : World} (hd : Drawer 98 .i64 B c a n cap w) :
    Calls Try.prog 98 #[.pointer (some ⟨c, 0, none⟩)] w (Drawn 98 .i64 B c a n cap AnyInt w) := by
  have HD := Lib.hid hd
  have hlt := hd.lt
  clear hd
  go_enter Try.func98, Try.ntmps98
  go_wp2_with fail
  refine (below_in (HD.out.grown (World.grownBy_alloc w _ none) (by simp)) 10 (by omega)).mono ?_
  rintro e w1 ⟨v, ⟨x, rfl, x0, x1⟩, rfl, hd1, hg1⟩
  obtain ⟨m, hw, hm⟩ : ∃ m, W64 m ∧ w1.cell? ⟨w.heap.size, x.toNat, none⟩ = some (.int .i64 m) := by
    rw [(gcell hg1).1 w.heap.size x.toNat (by simp) (by omega)]
    have hx : x = 0 ∨ x = 1 ∨ x = 2 ∨ x = 3 ∨ x = 4 ∨ x = 5 ∨ x = 6 ∨ x = 7 ∨ x = 8 ∨ x = 9 := by omega
    rcases hx with rfl | rfl | rfl | rfl | rfl | rfl | rfl | rfl | rfl | rfl
    · exact ⟨-1, by decide, by go_simp⟩
    · exact ⟨0, by decide, by go_simp⟩
    · exact ⟨1, by decide, by go_simp⟩
    · exact ⟨2147483648, by decide, by go_simp⟩
    · exact ⟨-2147483648, by decide, by go_simp⟩
    · exact ⟨1099511627776, by decide, by go_simp⟩
    · exact ⟨4611686018427387904, by decide, by go_simp⟩
    · exact ⟨-4611686018427387904, by decide, by go_simp⟩
    · exact ⟨9223372036854775807, by decide, by go_simp⟩
    · exact ⟨-9223372036854775808, by decide, by go_simp⟩
  have x2 : x < 10 := by omega
  clear HD
  have HD1 := Lib.hid hd1
  have HG1 := Lib.hid hg1
  clear hd1 hg1
  go_wp2
  go_ret
  exact ⟨_, ⟨_, rfl, hw⟩, rfl, HD1.out, grown_trans (World.grownBy_alloc w _ _) HG1.out⟩

def SameInt (w : World) (e : Ending) (w' : World) : Prop := ∃ v : Int, e = .returned (.int .i64 v) ∧ w = w'

theorem min_any (x y : Int) (w : World) : Calls Try.prog 92 #[.int .i64 x, .int .i64 y] w (SameInt w) := by
  by_cases h : x < y
  all_goals
    go_enter Try.func92, Try.ntmps92
    go_wp2
    go_ret
    exact ⟨_, rfl, rfl⟩

set_option maxHeartbeats 2000000 in
theorem num_any {B c : Nat} {a : Option Addr} {n cap : Nat} {w : World} (hd : Drawer 98 .i64 B c a n cap w) (most : Int) (hmost : W64 most) :
    Calls Try.prog 88 #[.pointer (some ⟨c, 0, none⟩), .int .i64 most] w (Drawn 98 .i64 B c a n cap AnyInt w) := by
  have HD := Lib.hid hd
  clear hd
  go_enter Try.func88, Try.ntmps88
  go_wp2_with fail
  refine (once_any HD.out _).mono ?_
  rintro e w1 ⟨v, ⟨x, rfl⟩, rfl, hd1, hg1⟩
  clear HD
  have HD1 := Lib.hid hd1
  have HG1 := Lib.hid hg1
  clear hd1 hg1
  cases x
  · go_wp2_with fail
    refine (once_any HD1.out _).mono ?_
    rintro e w2 ⟨v, ⟨x, rfl⟩, rfl, hd2, hg2⟩
    have HD2 := Lib.hid hd2
    have HG2 := Lib.hid (grown_trans HG1.out hg2)
    clear hd2 hg2 HD1 HG1
    cases x
    · go_wp2_with fail
      refine (below_int HD2.out _).mono ?_
      rintro e w3 ⟨v, ⟨x, rfl, hx⟩, rfl, hd3, hg3⟩
      have HD3 := Lib.hid hd3
      have HG3 := Lib.hid (grown_trans HG2.out hg3)
      clear hd3 hg3 HD2 HG2
      go_wp2
      go_ret
      exact ⟨_, ⟨_, rfl, hx⟩, rfl, HD3.out, HG3.out⟩
    · go_wp2_with fail
      refine (min_any _ _ _).mono ?_
      rintro e w' ⟨u, rfl, rfl⟩
      go_wp2_with fail
      refine (below_int HD2.out _).mono ?_
      rintro e w3 ⟨v, ⟨x, rfl, hx⟩, rfl, hd3, hg3⟩
      have HD3 := Lib.hid hd3
      have HG3 := Lib.hid (grown_trans HG2.out hg3)
      clear hd3 hg3 HD2 HG2
      go_wp2
      go_ret
      exact ⟨_, ⟨_, rfl, hx⟩, rfl, HD3.out, HG3.out⟩
  · go_wp2_with fail
    refine (odd_any HD1.out).mono ?_
    rintro e w2 ⟨v, ⟨y, rfl, hy⟩, rfl, hd2, hg2⟩
    have hlt := hd2.lt
    have HD2 := Lib.hid hd2
    have HG2 := Lib.hid (grown_trans HG1.out hg2)
    clear hd2 hg2 HD1 HG1
    go_wp2_with fail
    refine (below_in (HD2.out.grown (World.grownBy_alloc w2 _ none) (by simp)) 4 (by omega)).mono ?_
    rintro e w3 ⟨v, ⟨x, rfl, x0, x1⟩, rfl, hd3, hg3⟩
    obtain ⟨m, hx, hm⟩ : ∃ m, W64 m ∧ w3.cell? ⟨w2.heap.size, x.toNat, none⟩ = some (.int .i64 m) := by
      rw [(gcell hg3).1 w2.heap.size x.toNat (by simp) (by omega)]
      have hx : x = 0 ∨ x = 1 ∨ x = 2 ∨ x = 3 := by omega
      rcases hx with rfl | rfl | rfl | rfl
      · exact ⟨_, w64_of (x := -1) (by decide) (by decide), by go_simp⟩
      · exact ⟨_, hmost, by go_simp⟩
      · exact ⟨_, w64_wrap (most + 1), by go_simp⟩
      · exact ⟨_, hy, by go_simp⟩
    have x2 : x < 4 := by omega
    have HD3 := Lib.hid hd3
    have HG3 := Lib.hid (grown_trans (grown_alloc HG2.out _) hg3)
    clear hd3 hg3 HD2 HG2
    go_wp2
    go_ret
    exact ⟨_, ⟨_, rfl, hx⟩, rfl, HD3.out, HG3.out⟩

/-- A plan by value, as P says. -/
def PlanIs (P : Int → Int → Prop) (v : Value) : Prop := ∃ s t : Int, v = .agg #[.int .i64 s, .int .i64 t] ∧ P s t

set_option maxHeartbeats 2000000 in
theorem drawPlan_any {B c : Nat} {a : Option Addr} {n cap : Nat} {w : World} (hd : Drawer 98 .i64 B c a n cap w) :
    Calls Try.prog 52 #[.pointer (some ⟨c, 0, none⟩)] w (Drawn 98 .i64 B c a n cap (PlanIs okP) w) := by
  have HD := Lib.hid hd
  have hlt := hd.lt
  clear hd
  go_enter Try.func52, Try.ntmps52
  go_wp2_with fail
  refine (below_in (HD.out.grown (grown_alloc (World.grownBy_alloc w _ none) _) (by simp)) 5 (by omega)).mono ?_
  rintro e w1 ⟨v, ⟨x, rfl, x0, x1⟩, rfl, hd1, hg1⟩
  obtain ⟨s, hs, hm⟩ : ∃ s : Int, (s = 1 ∨ s = 2 ∨ s = 4 ∨ s = 8) ∧ w1.cell? ⟨w.heap.size + 1, x.toNat, none⟩ = some (.int .i64 s) := by
    rw [(gcell hg1).1 (w.heap.size + 1) x.toNat (by simp) (by omega)]
    have hx : x = 0 ∨ x = 1 ∨ x = 2 ∨ x = 3 ∨ x = 4 := by omega
    rcases hx with rfl | rfl | rfl | rfl | rfl
    · exact ⟨1, by omega, by go_simp⟩
    · exact ⟨2, by omega, by go_simp⟩
    · exact ⟨4, by omega, by go_simp⟩
    · exact ⟨4, by omega, by go_simp⟩
    · exact ⟨8, by omega, by go_simp⟩
  have s0 : 0 < s := by omega
  have s8 : s ≤ 8 := by omega
  have HS := Lib.hid hs
  clear hs
  have x2 : x < 5 := by omega
  have hlt1 := hd1.lt
  have z1 := hg1.size
  simp at z1
  have q0 : w1.cell? ⟨w.heap.size, 0, none⟩ = some (.int .i64 0) := by rw [(gcell hg1).1 w.heap.size 0 (by simp; omega) (by omega)]; go_simp
  have q1 : w1.cell? ⟨w.heap.size, 1, none⟩ = some (.int .i64 0) := by rw [(gcell hg1).1 w.heap.size 1 (by simp; omega) (by omega)]; go_simp
  have e0 : w1.frozen? ⟨w.heap.size, 0, none⟩ = false := by rw [(gcell hg1).2 w.heap.size 0 (by simp; omega) (by omega)]; go_simp
  have e1 : w1.frozen? ⟨w.heap.size, 1, none⟩ = false := by rw [(gcell hg1).2 w.heap.size 1 (by simp; omega) (by omega)]; go_simp
  have HD1 := Lib.hid hd1
  have HG1 := Lib.hid (grown_trans (grown_alloc (World.grownBy_alloc w _ _) _) hg1)
  clear hd1 hg1 HD
  go_wp2_with fail
  refine (below_in HD1.out s s0).mono ?_
  rintro e w2 ⟨v, ⟨t, rfl, t0, t1⟩, rfl, hd2, hg2⟩
  rw [← (gcell hg2).1 w.heap.size 0 (by omega) (by omega)] at q0
  rw [← (gcell hg2).1 w.heap.size 1 (by omega) (by omega)] at q1
  rw [← (gcell hg2).2 w.heap.size 0 (by omega) (by omega)] at e0
  rw [← (gcell hg2).2 w.heap.size 1 (by omega) (by omega)] at e1
  have HD2 := Lib.hid hd2
  have HG2 := Lib.hid (grown_trans HG1.out hg2)
  clear hd2 hg2 HD1 HG1 hm
  go_wp2
  have hg : w.grownBy ((w2.setCell ⟨w.heap.size, 0, none⟩ (.int .i64 s)).setCell ⟨w.heap.size, 1, none⟩ (.int .i64 (1 + t))) (some c) := grown_setNew (grown_setNew HG2.out (by simp) _) (by simp) _
  have hr : (w2).grownBy ((w2.setCell ⟨w.heap.size, 0, none⟩ (.int .i64 s)).setCell ⟨w.heap.size, 1, none⟩ (.int .i64 (1 + t))) (some w.heap.size) := grown_trans (grown_set _ _ _ _) (grown_set _ _ _ _)
  exact bodyPost_ret (v := .agg #[.int .i64 s, .int .i64 (1 + t)]) (by simp [results, Try.results52, go_sem, q0, q1]) rfl ⟨_, ⟨s, 1 + t, rfl, HS.out, by omega, by omega⟩, rfl, HD2.out.grown hr (by intro j hj; cases hj; have := HD2.out.low; omega), hg⟩
end Go.Proofs.Ytgcnfnmdemeaoaa
