/- The law of chapter 5 holds: whatever bytes are drawn from, the program's answers are the model's; what is taken by a ticket may be had by it alone, and taken again when it is emptied, by a later one: no condition. -/
import Derived.Test.YtgcnfnmdemeaoaaDice
import Derived.Test.YtgcnfnmdemeaoaaD5
import Derived.Test.YtgcnfnmdemeaoaaS5b
import Derived.Test.YtgcnfnmdemeaoaaI5
import Derived.Deep.RegionHeld3
import Derived.IntWalk
namespace Go.Proofs.Ytgcnfnmdemeaoaa
open Go.RowKit

/-- What is taken, left, emptied, and what may be done then. -/
theorem entries_pure {s t n i j : Int} (hp : okP s t) (n0 : 0 ≤ n) (n1 : n ≤ 499) (i0 : 0 ≤ i) (i1 : i ≤ s - 1) (j0 : 0 ≤ j) (j1 : j ≤ 2) :
    tbC s t n i = cycD s n ∧ tbB s t n i = true ∧ tbI s t n i = i ∧ lbC s t (cycD s n) i (n + 2 * s * (1 + j)) = cycD s n ∧ lbB s t (cycD s n) i (n + 2 * s * (1 + j)) true = false ∧ lbI s t (cycD s n) i (n + 2 * s * (1 + j)) = i ∧
    emC s t (cycD s n) i = cycD s n ∧ emB s t (cycD s n) i true = true ∧ emI s t (cycD s n) i = 2 * s - 1 ∧
    haveV s t (cycD s n) i n = 1 ∧ haveV s t (cycD s n) i (n + 2 * s * (1 + j)) = 2 ∧ haveV s t (cycD s n) i (n % (2 * s)) ≤ 1 ∧ takeV s t (cycD s n) i (n + 2 * s * (1 + j)) true = 0 ∧
    takeV s t (cycD s n) (2 * s - 1) (n + 2 * s * (1 + j)) true = 1 ∧ takeV s t (cycD s n) (2 * s - 1) n true = 0 := by
  have hj : j = 0 ∨ j = 1 ∨ j = 2 := by omega
  obtain ⟨hs, -, -⟩ := id hp
  have key : 0 ≤ cycD s n ∧ cycD s n ≤ 1000000 ∧ cycD s n < cycD s (n + 2 * s * (1 + j)) ∧ 0 ≤ n + 2 * s * (1 + j) ∧ n + 2 * s * (1 + j) ≤ 1000000 ∧ 0 ≤ n % (2 * s) ∧ n % (2 * s) ≤ 1000000 ∧ cycD s (n % (2 * s)) = 0 ∧ i ≤ 2 * s - 1 ∧ 0 ≤ 2 * s - 1 ∧ ¬ i = 2 * s - 1 := by
    unfold cycD
    rcases hs with rfl | rfl | rfl | rfl <;> rcases hj with rfl | rfl | rfl <;> omega
  clear hj hs
  generalize n + 2 * s * (1 + j) = L at *
  generalize hQ : n % (2 * s) = q at *
  obtain ⟨k0, k1, k2, k3, k4, k5, k6, k7, k8, k9, k10⟩ := key
  have hT : okTI s t n i := ⟨⟨hp, n0, by omega⟩, i0, k8⟩
  have hE : okE s t (cycD s n) i := ⟨hp, k0, k1, i0, k8⟩
  have hEn : okE s t (cycD s n) (2 * s - 1) := ⟨hp, k0, k1, k9, Int.le_refl _⟩
  have hL : okEK s t (cycD s n) i L := ⟨hE, k3, k4⟩
  have hN : okEK s t (cycD s n) i n := ⟨hE, n0, by omega⟩
  have hq : okEK s t (cycD s n) i q := ⟨hE, k5, k6⟩
  have hLn : okEK s t (cycD s n) (2 * s - 1) L := ⟨hEn, k3, k4⟩
  have hNn : okEK s t (cycD s n) (2 * s - 1) n := ⟨hEn, n0, by omega⟩
  refine ⟨if_pos hT, if_pos hT, if_pos hT, (if_pos hL).trans (if_neg k10), (if_pos hL).trans (if_neg k10), if_pos hL, if_pos hE, if_pos hE, if_pos hE, (if_pos hN).trans (if_pos rfl), (if_pos hL).trans ((if_neg (by omega)).trans (if_pos k2)), ?_, (if_pos hL).trans (if_neg fun h => k10 h.2), (if_pos hLn).trans (if_pos ⟨k2, rfl⟩), (if_pos hNn).trans (if_neg fun h => by have := h.1; omega)⟩
  rw [show haveV s t (cycD s n) i q = haveD s (cycD s n) q from if_pos hq]
  unfold haveD
  rw [k7]
  by_cases h0 : cycD s n = 0
  · rw [if_pos h0]; decide
  · rw [if_neg h0, if_neg (by omega)]; decide

/-- What the first statement keeps: a plan, an entry, another plan. -/
def E1 (B P Q : Nat) (s t x y s' t' : Int) (b : Bool) (base w : World) : Prop :=
  w.heap[P]? = some (.cells #[.int .i64 s, .int .i64 t] 25 (0, 0)) ∧ w.heap[P + 1]? = some (.cells #[.int .i64 x, .bool b, .int .i64 y] 38 (0, 0)) ∧ w.heap[Q]? = some (.cells #[.int .i64 s', .int .i64 t'] 25 (0, 0)) ∧ B ≤ P ∧ Below B base w

theorem E1.step {B P Q : Nat} {s t x y s' t' : Int} {b : Bool} {base w w' : World} (h : E1 B P Q s t x y s' t' b base w) (hb : Below w.heap.size w w') : E1 B P Q s t x y s' t' b base w' :=
  ⟨blk_below h.1 hb (blk_lt h.1), blk_below h.2.1 hb (blk_lt h.2.1), blk_below h.2.2.1 hb (blk_lt h.2.2.1), h.2.2.2.1, h.2.2.2.2.trans (hb.mono (by have := blk_lt h.1; have := h.2.2.2.1; omega))⟩

theorem E1.drew {B P Q : Nat} {s t x y s' t' : Int} {b : Bool} {base w : World} (h : E1 B P Q s t x y s' t' b base w) : E1 B P Q s t x y s' t' b base w.drew := ⟨h.1, h.2.1, h.2.2.1, h.2.2.2.1, h.2.2.2.2.drew⟩

theorem E1.facts {B P Q : Nat} {s t x y s' t' : Int} {b : Bool} {base w : World} (h : E1 B P Q s t x y s' t' b base w) :
    w.cell? ⟨P, 0, none⟩ = some (.int .i64 s) ∧ w.cell? ⟨P, 1, none⟩ = some (.int .i64 t) ∧ w.cell? ⟨P + 1, 0, none⟩ = some (.int .i64 x) ∧ w.cell? ⟨P + 1, 1, none⟩ = some (.bool b) ∧ w.cell? ⟨P + 1, 2, none⟩ = some (.int .i64 y) ∧ w.cell? ⟨Q, 0, none⟩ = some (.int .i64 s') ∧ w.cell? ⟨Q, 1, none⟩ = some (.int .i64 t') ∧ E1 B P Q s t x y s' t' b base w :=
  ⟨(blk_two h.1).1, (blk_two h.1).2.1, (blk_three h.2.1).1, (blk_three h.2.1).2.1, (blk_three h.2.1).2.2.1, (blk_two h.2.2.1).1, (blk_two h.2.2.1).2.1, h⟩

/-- What the second and third statements keep: a plan in block G, the dice. -/
structure E2 (B c : Nat) (a : Option Addr) (n cap G : Nat) (s t : Int) (base w' : World) : Prop where
  hc : c < G
  hB : B ≤ c
  hb : base.heap.size = G + 1
  plan : w'.heap[G]? = some (.cells #[.int .i64 s, .int .i64 t] 25 (0, 0))
  kept : Kept 77 .u64 B c a n cap base w'

theorem E2.drew {B c : Nat} {a : Option Addr} {n cap G : Nat} {s t : Int} {base w' : World} (h : E2 B c a n cap G s t base w') : E2 B c a n cap G s t base w'.drew := ⟨h.hc, h.hB, h.hb, h.plan, h.kept.drew⟩

theorem E2.call {B c : Nat} {a : Option Addr} {n cap G : Nat} {s t : Int} {base w1 w2 : World} (h : E2 B c a n cap G s t base w1) (hd : Drawer 77 .u64 B c a n cap w2) (hg : w1.grownBy w2 (some c)) : E2 B c a n cap G s t base w2 :=
  ⟨h.hc, h.hB, h.hb, blk_grown h.plan hg (by have := h.hc; simp; omega), h.kept.call hd hg⟩

theorem E2.below {B c : Nat} {a : Option Addr} {n cap G : Nat} {s t : Int} {base w1 w2 : World} (h : E2 B c a n cap G s t base w1) (hb : Below w1.heap.size w1 w2) : E2 B c a n cap G s t base w2 :=
  ⟨h.hc, h.hB, h.hb, blk_below h.plan hb (blk_lt h.plan), h.kept.below hb⟩

theorem E2.alloc {B c : Nat} {a : Option Addr} {n cap G : Nat} {s t : Int} {base w1 : World} (h : E2 B c a n cap G s t base w1) (x : Obj) : E2 B c a n cap G s t base (w1.alloc x) :=
  ⟨h.hc, h.hB, h.hb, blk_alloc h.plan, h.kept.alloc x⟩

theorem E2.set3 {B c : Nat} {a : Option Addr} {n cap G : Nat} {s t : Int} {base w1 : World} {g : Nat} {v0 v1 v2 : Value} (h : E2 B c a n cap G s t base w1) (hg : G < g) : E2 B c a n cap G s t base (((w1.setCell ⟨g, 0, none⟩ v0).setCell ⟨g, 1, none⟩ v1).setCell ⟨g, 2, none⟩ v2) := by
  obtain ⟨h1, h2, h3, h4, h5⟩ := h
  exact ⟨h1, h2, h3, blk_other (blk_other (blk_other h4 (by simp; omega)) (by simp; omega)) (by simp; omega), Kept.set3 (by omega) h5 (by omega) (by omega)⟩

theorem E2.facts {B c : Nat} {a : Option Addr} {n cap G : Nat} {s t : Int} {base w' : World} (h : E2 B c a n cap G s t base w') : w'.cell? ⟨G, 0, none⟩ = some (.int .i64 s) ∧ w'.cell? ⟨G, 1, none⟩ = some (.int .i64 t) ∧ G < w'.heap.size ∧ E2 B c a n cap G s t base w' :=
  ⟨(blk_two h.plan).1, (blk_two h.plan).2.1, blk_lt h.plan, h⟩

/-- What the third statement finds: an entry in a block of its own. -/
def E3 (B c : Nat) (a : Option Addr) (n cap G : Nat) (s t Y : Int) (base : World) (v : Value) (wx : World) : Prop := ∃ (g : Nat) (i : Int), v = .pointer (some ⟨g, 0, none⟩) ∧ 0 ≤ i ∧ i ≤ s - 1 ∧ G < g ∧ wx.heap[g]? = some (.cells #[.int .i64 Y, .bool true, .int .i64 i] 38 (0, 0)) ∧ E2 B c a n cap G s t base wx

theorem E3.mk {B c : Nat} {a : Option Addr} {n cap G : Nat} {s t Y : Int} {base : World} {wx : World} {g : Nat} {i : Int} (h0 : 0 ≤ i) (h1 : i ≤ s - 1) (hg : G < g) (hx : wx.heap[g]? = some (.cells #[.int .i64 Y, .bool true, .int .i64 i] 38 (0, 0))) (hk : E2 B c a n cap G s t base wx) : E3 B c a n cap G s t Y base (.pointer (some ⟨g, 0, none⟩)) wx := ⟨g, i, rfl, h0, h1, hg, hx, hk⟩

/-- .. and the number of a later ticket. -/
def E4 (B c : Nat) (a : Option Addr) (n cap G g : Nat) (s t Y m i : Int) (base : World) (v : Value) (wx : World) : Prop := ∃ j : Int, v = .int .i64 (m + 2 * s * (1 + j)) ∧ 0 ≤ j ∧ j ≤ 2 ∧ wx.heap[g]? = some (.cells #[.int .i64 Y, .bool true, .int .i64 i] 38 (0, 0)) ∧ E2 B c a n cap G s t base wx

/-- What the last statement keeps: a plan and three entries. -/
def E5 (B G g h k : Nat) (s t Y i M : Int) (base w : World) : Prop :=
  w.heap[G]? = some (.cells #[.int .i64 s, .int .i64 t] 25 (0, 0)) ∧ w.heap[g]? = some (.cells #[.int .i64 Y, .bool true, .int .i64 i] 38 (0, 0)) ∧ w.heap[h]? = some (.cells #[.int .i64 Y, .bool false, .int .i64 i] 38 (0, 0)) ∧ w.heap[k]? = some (.cells #[.int .i64 Y, .bool true, .int .i64 M] 38 (0, 0)) ∧ B ≤ G ∧ Below B base w

theorem E5.step {B G g h k : Nat} {s t Y i M : Int} {base w w' : World} (e : E5 B G g h k s t Y i M base w) (hb : Below w.heap.size w w') : E5 B G g h k s t Y i M base w' :=
  ⟨blk_below e.1 hb (blk_lt e.1), blk_below e.2.1 hb (blk_lt e.2.1), blk_below e.2.2.1 hb (blk_lt e.2.2.1), blk_below e.2.2.2.1 hb (blk_lt e.2.2.2.1), e.2.2.2.2.1, e.2.2.2.2.2.trans (hb.mono (by have := blk_lt e.1; have := e.2.2.2.2.1; omega))⟩

theorem E5.drew {B G g h k : Nat} {s t Y i M : Int} {base w : World} (e : E5 B G g h k s t Y i M base w) : E5 B G g h k s t Y i M base w.drew := ⟨e.1, e.2.1, e.2.2.1, e.2.2.2.1, e.2.2.2.2.1, e.2.2.2.2.2.drew⟩

theorem E5.facts {B G g h k : Nat} {s t Y i M : Int} {base w : World} (e : E5 B G g h k s t Y i M base w) :
    w.cell? ⟨G, 0, none⟩ = some (.int .i64 s) ∧ w.cell? ⟨G, 1, none⟩ = some (.int .i64 t) ∧ w.cell? ⟨g, 0, none⟩ = some (.int .i64 Y) ∧ w.cell? ⟨g, 1, none⟩ = some (.bool true) ∧ w.cell? ⟨g, 2, none⟩ = some (.int .i64 i) ∧ w.cell? ⟨h, 0, none⟩ = some (.int .i64 Y) ∧ w.cell? ⟨h, 1, none⟩ = some (.bool false) ∧ w.cell? ⟨h, 2, none⟩ = some (.int .i64 i) ∧ w.cell? ⟨k, 0, none⟩ = some (.int .i64 Y) ∧ w.cell? ⟨k, 1, none⟩ = some (.bool true) ∧ w.cell? ⟨k, 2, none⟩ = some (.int .i64 M) ∧ E5 B G g h k s t Y i M base w :=
  ⟨(blk_two e.1).1, (blk_two e.1).2.1, (blk_three e.2.1).1, (blk_three e.2.1).2.1, (blk_three e.2.1).2.2.1, (blk_three e.2.2.1).1, (blk_three e.2.2.1).2.1, (blk_three e.2.2.1).2.2.1, (blk_three e.2.2.2.1).1, (blk_three e.2.2.2.1).2.1, (blk_three e.2.2.2.1).2.2.1, e⟩

set_option maxRecDepth 100000 in
set_option maxHeartbeats 4000000 in
theorem entries_walk (a : Option Addr) (n cap : Nat) (w : World) (hn : n ≤ 4096) (hb : Bytes w.heap.size a n w) :
    Calls Try.prog 6 #[.slice a n cap] w fun e w' => e = .returned (.bool true) ∧ Below w.heap.size w w' := by
  have HB := Lib.hid hb
  clear hb
  go_enter Try.func6, Try.ntmps6
  go_wp2_with fail
  refine (big_no a n cap w hn).mono ?_
  rintro e w' ⟨rfl, rfl⟩
  go_wp2_with fail
  refine (drawMayTake_any a n cap w hn HB.out).mono ?_
  rintro e w1 ⟨v, ⟨s, t, x, y, k, b, rfl, hs, ht, hx, hy, hk⟩, rfl, hb1⟩
  have z1 := hb1.size
  have P1 := Lib.hid (blk_alloc (o' := .cells #[.int .i64 x, .bool b, .int .i64 y] 38) (blk_new w1 (.cells #[.int .i64 s, .int .i64 t] 25)))
  have E1' := Lib.hid (blk_new2 w1 (.cells #[.int .i64 s, .int .i64 t] 25) (.cells #[.int .i64 x, .bool b, .int .i64 y] 38))
  have HB1 := Lib.hid ((hb1.alloc z1 (.cells #[.int .i64 s, .int .i64 t] 25)).alloc (by simp; omega) (.cells #[.int .i64 x, .bool b, .int .i64 y] 38))
  clear hb1
  go_wp2_with fail
  refine (drawTakenBy_any a n cap _ hn ((HB.out.grown (grown_below HB1.out none) (by simp)).mono (by simp; omega))).mono ?_
  rintro e w2 ⟨v, ⟨s', t', k', i', rfl, hs', ht', hk', hi'⟩, rfl, hb2⟩
  have z2 := hb2.size
  simp at z2
  have P2 := Lib.hid (blk_alloc (o' := .cells #[.int .i64 s', .int .i64 t'] 25) (blk_below P1.out hb2 (by simp; omega)))
  have E2' := Lib.hid (blk_alloc (o' := .cells #[.int .i64 s', .int .i64 t'] 25) (blk_below E1'.out hb2 (by simp)))
  have HB2 := Lib.hid ((HB1.out.trans (hb2.mono (by simp; omega))).alloc (by omega) (.cells #[.int .i64 s', .int .i64 t'] 25))
  clear hb2 P1 E1' HB1
  have HE : Hid (E1 w.heap.size w1.heap.size w2.heap.size s t x y s' t' b w (w2.alloc (.cells #[.int .i64 s', .int .i64 t'] 25))) := Lib.hid ⟨P2.out, E2'.out, blk_new w2 _, z1, HB2.out⟩
  clear P2 E2' HB2
  obtain ⟨q0, q1, q2, q3, q4, q5, q6, -⟩ := HE.out.facts
  go_upto_region 5 with fail
  go_cut [80] (fun s80 wx => s80 = .bool false ∧ Below w.heap.size w wx)
  case first =>
    as_aux_lemma =>
      go_region_held3 (fun w' => w'.cell? ⟨w1.heap.size, 0, none⟩ = some (.int .i64 s) ∧ w'.cell? ⟨w1.heap.size, 1, none⟩ = some (.int .i64 t) ∧ w'.cell? ⟨w1.heap.size + 1, 0, none⟩ = some (.int .i64 x) ∧ w'.cell? ⟨w1.heap.size + 1, 1, none⟩ = some (.bool b) ∧ w'.cell? ⟨w1.heap.size + 1, 2, none⟩ = some (.int .i64 y) ∧ w'.cell? ⟨w2.heap.size, 0, none⟩ = some (.int .i64 s') ∧ w'.cell? ⟨w2.heap.size, 1, none⟩ = some (.int .i64 t') ∧ E1 w.heap.size w1.heap.size w2.heap.size s t x y s' t' b w w')
        (first
          | with_reducible exact HE.out.facts
          | with_reducible exact HE.out.drew.facts
          | with_reducible exact htc.facts)
        ((first
          | (go_at_call 28; (try go_split_ands); (with_reducible refine (iMayTake s t x y k b _).mono ?_); rintro e w3 ⟨rfl, hb3⟩; have htc := E1.step (by assumption) hb3)
          | (go_at_call 29; (try go_split_ands); (with_reducible refine (specMayTake s t x y k b _).mono ?_); rintro e w3 ⟨rfl, hb3⟩; have htc := E1.step (by assumption) hb3)
          | (go_at_call 30; (try go_split_ands); (with_reducible refine (iMayHave s t x y k b _).mono ?_); rintro e w3 ⟨rfl, hb3⟩; have htc := E1.step (by assumption) hb3)
          | (go_at_call 31; (try go_split_ands); (with_reducible refine (specMayHave s t x y k b _).mono ?_); rintro e w3 ⟨rfl, hb3⟩; have htc := E1.step (by assumption) hb3)
          | (go_at_call 32; (try go_split_ands); (with_reducible refine (iTakenBy s' t' k' i' _).mono ?_); rintro e w3 ⟨rfl, hb3⟩; have htc := E1.step (by assumption) hb3)
          | (go_at_call 33; (try go_split_ands); (with_reducible refine (specTakenBy s' t' k' i' _).mono ?_); rintro e w3 ⟨rfl, hb3⟩; have htc := E1.step (by assumption) hb3)
          | (go_at_call 34; (try go_split_ands); (with_reducible refine (iLeftBy s t x y k b _).mono ?_); rintro e w3 ⟨rfl, hb3⟩; have htc := E1.step (by assumption) hb3)
          | (go_at_call 35; (try go_split_ands); (with_reducible refine (specLeftBy s t x y k b _).mono ?_); rintro e w3 ⟨rfl, hb3⟩; have htc := E1.step (by assumption) hb3)
          | (go_at_call 36; (try go_split_ands); (with_reducible refine (iEmptied s t x y b _).mono ?_); rintro e w3 ⟨rfl, hb3⟩; have htc := E1.step (by assumption) hb3)
          | (go_at_call 37; (try go_split_ands); (with_reducible refine (specEmptied s t x y b _).mono ?_); rintro e w3 ⟨rfl, hb3⟩; have htc := E1.step (by assumption) hb3)))
      all_goals
        go_wp2_with fail
        go_meet
        exact ⟨rfl, htc.2.2.2.2⟩
  case rest =>
    obtain ⟨rfl, hb3⟩ := hcut
    clear q0 q1 q2 q3 q4 q5 q6 HE z2 z1
    have HB3 := Lib.hid hb3
    have z3 := hb3.size
    clear hb3
    go_wp2_with fail
    refine (roll_any w.heap.size a n cap 5 wc hn z3 (HB.out.grown (grown_below HB3.out none) (by simp))).mono ?_
    rintro e w4 ⟨c, rfl, hc, hd4, hb4⟩
    have HD4 := Lib.hid hd4
    have z4 := hb4.size
    have HB4 := Lib.hid (HB3.out.trans (hb4.mono z3))
    clear hd4 hb4 HB3
    go_wp2_with fail
    refine (scheme_any HD4.out).mono ?_
    rintro e w5 ⟨v, ⟨S, T, rfl, hst⟩, rfl, hd5, hg5⟩
    have z5 := hg5.size
    have hlt5 := hd5.lt
    have hlow5 := hd5.low
    have HD5 := Lib.hid (hd5.grown (World.grownBy_alloc w5 (.cells #[.int .i64 S, .int .i64 T] 25) none) (by simp))
    have HB5 := Lib.hid ((below_of_grown HB4.out hg5 (by omega) (by intro k hk; cases hk; omega)).alloc (by omega) (.cells #[.int .i64 S, .int .i64 T] 25))
    clear hd5 hg5 HD4 HB4
    have HK := Lib.hid hst
    obtain ⟨g1, g2⟩ := okP_le hst
    clear hst
    have HQ5 : Hid (E2 w.heap.size c a n cap w5.heap.size S T (w5.alloc (.cells #[.int .i64 S, .int .i64 T] 25)) (w5.alloc (.cells #[.int .i64 S, .int .i64 T] 25))) := Lib.hid ⟨hlt5, hlow5, by simp, blk_new w5 _, Kept.start HD5.out⟩
    clear HD5
    go_wp2_with fail
    refine (dice_pos HQ5.out.kept.drawer 500 (by decide)).mono ?_
    rintro e w6 ⟨v, ⟨m, rfl, m0, m1⟩, rfl, hd6, hg6⟩
    have HQ6 := Lib.hid (HQ5.out.call hd6 hg6)
    clear hd6 hg6 HQ5
    obtain ⟨q0, q1, y6, -⟩ := HQ6.out.facts
    have hS0 : 0 < S := by omega
    have hsd : w6.drew.heap.size = w6.heap.size := rfl
    go_upto_region 10 with fail
    go_cut [12] (fun s12 wx => E3 w.heap.size c a n cap w5.heap.size S T (cycD S m) (w5.alloc (.cells #[.int .i64 S, .int .i64 T] 25)) s12 wx)
    case first =>
      as_aux_lemma =>
        go_region_held3 (fun w' => w'.cell? ⟨w5.heap.size, 0, none⟩ = some (.int .i64 S) ∧ w'.cell? ⟨w5.heap.size, 1, none⟩ = some (.int .i64 T) ∧ w5.heap.size < w'.heap.size ∧ E2 w.heap.size c a n cap w5.heap.size S T (w5.alloc (.cells #[.int .i64 S, .int .i64 T] 25)) w')
          (first
            | with_reducible exact HQ6.out.facts
            | with_reducible exact HQ6.out.drew.facts
            | with_reducible exact htc.facts
            | with_reducible exact (HQ6.out.drew.alloc _).facts
            | with_reducible exact (HQ6.out.alloc _).drew.facts
            | with_reducible exact (htc.alloc _).facts
            | ((with_reducible refine (htc.set3 ?_).facts) <;> (first | omega | (simp; omega) | (simp; done)))
            | ((with_reducible refine ((htc.alloc _).set3 ?_).facts) <;> (first | omega | (simp; omega) | (simp; done)))
            | fail)
          ((first
            | (go_at_call 23; (try go_split_ands); have hdk := Kept.drawer (E2.kept (by assumption)); (with_reducible refine (dice_pos hdk S hS0).mono ?_); rintro e w7 ⟨v, ⟨i, rfl, i0, i1⟩, rfl, hd7, hg7⟩; have htc := E2.call (by assumption) hd7 hg7; have hgs := blk_lt htc.plan; (try (have hG := blk_grown (blk_new _ _) hg7 (by simp; omega))); (try (have hG := blk_grown (w := (World.alloc _ _).drew) (blk_new _ _) hg7 (by simp; omega))); have TI : Hid (tbC S T m i = cycD S m ∧ tbB S T m i = true ∧ tbI S T m i = i) := Lib.hid (by have h := entries_pure (j := 0) HK.out m0 (by omega) i0 i1 (by decide) (by decide); exact ⟨h.1, h.2.1, h.2.2.1⟩))
            | (go_at_call 32; (try go_split_ands); (with_reducible refine (iTakenBy S T m i _).mono ?_); rintro e w8 ⟨rfl, hb8⟩; rw [TI.out.1, TI.out.2.1, TI.out.2.2]; have htc := E2.below (by assumption) hb8; (try (have hG2 := blk_below hG hb8 (blk_lt hG); obtain ⟨x0, x1, x2, f0, f1, f2⟩ := blk_three hG2)); (try (have hG2 := blk_below (blk_new _ _) hb8 (by simp); obtain ⟨x0, x1, x2, f0, f1, f2⟩ := blk_three hG2)))))
        all_goals
          go_wp2_with fail
          go_meet
          (try go_split_ands)
          apply E3.mk i0 i1
          · first | omega | (have := blk_lt htc.plan; omega)
          · first
              | exact blk_new _ _
              | exact blk_set3 hG2
              | exact blk_set3 (blk_new _ _)
              | exact blk_set3 (w := World.alloc _ _) (blk_new _ _)
          · assumption
    case rest =>
      obtain ⟨g, i, rfl, i0, i1, hGg, hx, hk⟩ := hcut
      clear q0 q1 y6 HQ6 hsd z5 z4 z3
      have HX := Lib.hid hx
      have HQ7 := Lib.hid hk
      have hgl := blk_lt hx
      clear hx hk
      obtain ⟨q0, q1, y7, -⟩ := HQ7.out.facts
      have hw : IntKind.i64.wrap (2 * S) = 2 * S := IntWalk.i64_in _ (by omega)
      have hgc : g ≠ c := by omega
      go_upto_region 11 with fail
      go_cut [13] (fun s13 wx => E4 w.heap.size c a n cap w5.heap.size g S T (cycD S m) m i (w5.alloc (.cells #[.int .i64 S, .int .i64 T] 25)) s13 wx)
      case first =>
        as_aux_lemma =>
          go_region_held3 (fun w' => w'.cell? ⟨w5.heap.size, 0, none⟩ = some (.int .i64 S) ∧ w'.cell? ⟨w5.heap.size, 1, none⟩ = some (.int .i64 T) ∧ w5.heap.size < w'.heap.size ∧ E2 w.heap.size c a n cap w5.heap.size S T (w5.alloc (.cells #[.int .i64 S, .int .i64 T] 25)) w')
            (first
              | with_reducible exact HQ7.out.facts
              | with_reducible exact HQ7.out.drew.facts
              | with_reducible exact htc.facts
              | fail)
            ((first
              | (go_at_call 23; (try go_split_ands); have hdk := Kept.drawer (E2.kept (by assumption)); (with_reducible refine (dice_pos hdk 3 (by decide)).mono ?_); rintro e w8 ⟨v, ⟨j, rfl, j0, j1⟩, rfl, hd8, hg8⟩; have htc := E2.call (by assumption) hd8 hg8; have hG := blk_grown (w := World.drew _) HX.out hg8 (by simp; omega);
                 have hj : j = 0 ∨ j = 1 ∨ j = 2 := (by omega); have b1 : 0 ≤ 2 * S * (1 + j) ∧ 2 * S * (1 + j) ≤ 48 := (by rcases hj with rfl | rfl | rfl <;> omega); have e1 : IntKind.i64.wrap (1 + j) = 1 + j := IntWalk.i64_in _ (by omega); have e2 : IntKind.i64.wrap (2 * S * (1 + j)) = 2 * S * (1 + j) := IntWalk.i64_in _ (by omega); have e3 : IntKind.i64.wrap (m + 2 * S * (1 + j)) = m + 2 * S * (1 + j) := IntWalk.i64_in _ (by omega); clear hj b1)))
          all_goals
            go_wp2_with fail
            go_meet
            exact ⟨j, rfl, j0, j1, hG, htc⟩
      case rest =>
        as_aux_lemma =>
          obtain ⟨j, rfl, j0, j1, hx, hk⟩ := hcut
          have PURE := Lib.hid (entries_pure HK.out m0 (by omega) i0 i1 j0 j1)
          obtain ⟨L, hL⟩ : ∃ L, L = m + 2 * S * (1 + j) := ⟨_, rfl⟩
          rw [← hL] at PURE ⊢
          clear hL HX HQ7 q0 q1 y7 hgl
          have HX := Lib.hid hx
          have HG8 := Lib.hid hk.plan
          have HB8 := Lib.hid (below_of_grown HB5.out hk.kept.grown (by simp; omega) (by intro k hk; cases hk; omega))
          have hgl := blk_lt hx
          have hGl := blk_lt HG8.out
          clear hx hk HB5
          obtain ⟨q0, q1, -, -⟩ := blk_two HG8.out
          obtain ⟨x0, x1, x2, -, -, -⟩ := blk_three HX.out
          obtain ⟨-, -, -, hA, hB', hC, hD, hE, hF, hH1, hH2, hH3, hT1, hT2, hT3⟩ := PURE.out
          have HA := Lib.hid (And.intro hA (And.intro hB' hC))
          have HD := Lib.hid (And.intro hD (And.intro hE hF))
          have HH := Lib.hid (And.intro hH1 (And.intro hH2 hH3))
          have HT := Lib.hid (And.intro hT1 (And.intro hT2 hT3))
          clear hA hB' hC hD hE hF hH1 hH2 hH3 hT1 hT2 hT3 PURE
          go_wp2_with fail
          refine (iLeftBy S T (cycD S m) i L true _).mono ?_
          rintro e w9 ⟨rfl, hb9⟩
          rw [HA.out.1, HA.out.2.1, HA.out.2.2]
          have z9 := hb9.size
          have G9 := Lib.hid (blk_below HG8.out hb9 hGl)
          have X9 := Lib.hid (blk_below HX.out hb9 hgl)
          have B9 := Lib.hid (HB8.out.trans (hb9.mono (by have := HB8.out.size; omega)))
          clear hb9 HG8 HX HB8 q0 q1 x0 x1 x2
          obtain ⟨q0, q1, -, -⟩ := blk_two G9.out
          obtain ⟨x0, x1, x2, -, -, -⟩ := blk_three X9.out
          have y9 : w5.heap.size < w9.heap.size := blk_lt G9.out
          have y9' : g < w9.heap.size := blk_lt X9.out
          have zB := B9.out.size
          go_wp2_with fail
          refine (iEmptied S T (cycD S m) i true _).mono ?_
          rintro e w10 ⟨rfl, hb10⟩
          rw [HD.out.1, HD.out.2.1, HD.out.2.2]
          have z10 := hb10.size
          simp at z10
          obtain ⟨M, hM⟩ : ∃ M, M = 2 * S - 1 := ⟨_, rfl⟩
          rw [← hM] at HT ⊢
          have HE5 : Hid (E5 w.heap.size w5.heap.size g w9.heap.size w10.heap.size S T (cycD S m) i M w (w10.alloc (.cells #[.int .i64 (cycD S m), .bool true, .int .i64 M] 38))) := Lib.hid ⟨blk_alloc (blk_below (blk_alloc G9.out) hb10 (by simp; omega)), blk_alloc (blk_below (blk_alloc X9.out) hb10 (by simp; omega)), blk_alloc (blk_below (blk_new w9 _) hb10 (by simp)), blk_new w10 _, by omega, ((B9.out.alloc zB _).trans (hb10.mono (by simp; omega))).alloc (by omega) _⟩
          clear hb10 G9 X9 B9 q0 q1 x0 x1 x2 hM
          obtain ⟨q0, q1, x0, x1, x2, r0, r1, r2, u0, u1, u2, -⟩ := HE5.out.facts
          have hm : m.tmod (2 * S) = m % (2 * S) := Int.tmod_eq_emod_of_nonneg m0
          have hv1 : 0 ≤ m % (2 * S) := Int.emod_nonneg m (by omega)
          have hv2 : m % (2 * S) < 2 * S := Int.emod_lt_of_pos m (by omega)
          obtain ⟨R, hR⟩ : ∃ R, R = m % (2 * S) := ⟨_, rfl⟩
          rw [← hR] at hm hv1 hv2 HH
          have hv : IntKind.i64.wrap R = R := IntWalk.i64_in _ (by omega)
          have hs0 : ¬ S = 0 := by omega
          have hs2 : ¬ 2 * S = 0 := by omega
          have hh3 : decide (haveV S T (cycD S m) i R ≤ 1) = true := decide_eq_true HH.out.2.2
          clear hv1 hv2 hR
          go_wp2_with fail
          go_region_held3 (fun w' => w'.cell? ⟨w5.heap.size, 0, none⟩ = some (.int .i64 S) ∧ w'.cell? ⟨w5.heap.size, 1, none⟩ = some (.int .i64 T) ∧ w'.cell? ⟨g, 0, none⟩ = some (.int .i64 (cycD S m)) ∧ w'.cell? ⟨g, 1, none⟩ = some (.bool true) ∧ w'.cell? ⟨g, 2, none⟩ = some (.int .i64 i) ∧ w'.cell? ⟨w9.heap.size, 0, none⟩ = some (.int .i64 (cycD S m)) ∧ w'.cell? ⟨w9.heap.size, 1, none⟩ = some (.bool false) ∧ w'.cell? ⟨w9.heap.size, 2, none⟩ = some (.int .i64 i) ∧ w'.cell? ⟨w10.heap.size, 0, none⟩ = some (.int .i64 (cycD S m)) ∧ w'.cell? ⟨w10.heap.size, 1, none⟩ = some (.bool true) ∧ w'.cell? ⟨w10.heap.size, 2, none⟩ = some (.int .i64 M) ∧ E5 w.heap.size w5.heap.size g w9.heap.size w10.heap.size S T (cycD S m) i M w w')
            (first
              | with_reducible exact HE5.out.facts
              | with_reducible exact HE5.out.drew.facts
              | with_reducible exact htc.facts
              | fail)
            ((first
              | (go_at_call 30; (try go_split_ands); (with_reducible refine (iMayHave S T (cycD S m) i m true _).mono ?_); rintro e w11 ⟨rfl, hb11⟩; rw [HH.out.1]; have htc := E5.step (by assumption) hb11)
              | (go_at_call 30; (try go_split_ands); (with_reducible refine (iMayHave S T (cycD S m) i L true _).mono ?_); rintro e w11 ⟨rfl, hb11⟩; rw [HH.out.2.1]; have htc := E5.step (by assumption) hb11)
              | (go_at_call 30; (try go_split_ands); (with_reducible refine (iMayHave S T (cycD S m) i R true _).mono ?_); rintro e w11 ⟨rfl, hb11⟩; have htc := E5.step (by assumption) hb11)
              | (go_at_call 28; (try go_split_ands); (with_reducible refine (iMayTake S T (cycD S m) i L true _).mono ?_); rintro e w11 ⟨rfl, hb11⟩; rw [HT.out.1]; have htc := E5.step (by assumption) hb11)
              | (go_at_call 28; (try go_split_ands); (with_reducible refine (iMayTake S T (cycD S m) M L true _).mono ?_); rintro e w11 ⟨rfl, hb11⟩; rw [HT.out.2.1]; have htc := E5.step (by assumption) hb11)
              | (go_at_call 28; (try go_split_ands); (with_reducible refine (iMayTake S T (cycD S m) M m true _).mono ?_); rintro e w11 ⟨rfl, hb11⟩; rw [HT.out.2.2]; have htc := E5.step (by assumption) hb11)))
          all_goals
            go_wp2
            go_ret
            exact ⟨rfl, htc.2.2.2.2.2⟩

set_option maxRecDepth 100000 in
theorem entries_large (a : Option Addr) (n cap : Nat) (w : World) (hn : 4096 < n) :
    Calls Try.prog 6 #[.slice a n cap] w fun e w' => e = .returned (.bool true) ∧ Below w.heap.size w w' := by
  go_enter Try.func6, Try.ntmps6
  go_wp2_with fail
  refine (big_yes a n cap w hn).mono ?_
  rintro e w' ⟨rfl, rfl⟩
  go_wp2
  go_ret
  exact ⟨rfl, Below.refl _ _⟩

theorem entries_any (a : Option Addr) (n cap : Nat) (w : World) (hb : Bytes w.heap.size a n w) :
    Calls Try.prog 6 #[.slice a n cap] w fun e w' => e = .returned (.bool true) ∧ Below w.heap.size w w' := by
  by_cases hn : n ≤ 4096
  · exact entries_walk a n cap w hn hb
  · exact entries_large a n cap w (by omega)

end Go.Proofs.Ytgcnfnmdemeaoaa
