/- The exact laws of new rings hold: whatever comes in, the program's function answers as its model, with memory of its own: no condition. -/
import Derived.Test.YtgcnfnmdemeaoaaL6b
import Derived.Test.YtgcnfnmdemeaoaaS6d
import Derived.Test.YtgcnfnmdemeaoaaI6
import Derived.Test.YtgcnfnmdemeaoaaBytesRow
import Derived.Lib.SmallJoins
namespace Go.Proofs.Ytgcnfnmdemeaoaa
open Go.ChangeShapes Go.WideShapes Go.ChangeAt Go.RowKit Go.Joins

theorem nrW_len (s t : Int) : (nrW s t).length ≤ 16 := by
  unfold nrW
  by_cases h : okP s t
  · rw [if_pos h]; obtain ⟨g1, g2⟩ := okP_le h; simp [newWords]; omega
  · rw [if_neg h]; simp

theorem frW_len (s t : Int) : (frW s t).length ≤ 16 := by
  unfold frW
  by_cases h : okP s t
  · rw [if_pos h, fullW_len]; obtain ⟨g1, g2⟩ := okP_le h; omega
  · rw [if_neg h]; simp

set_option maxRecDepth 100000 in
set_option maxHeartbeats 4000000 in
theorem exactNewRing_walk (s0 t0 : Int) (w : World) :
    Calls Try.prog 13 #[.agg #[.int .i64 s0, .int .i64 t0]] w fun e w' => e = .returned (.bool true) ∧ Below w.heap.size w w' := by
  have hlen := Lib.hid (nrW_len s0 t0)
  go_enter Try.func13, Try.ntmps13
  go_wp2_with fail
  refine (toPlan_any s0 t0 _).mono ?_
  rintro e w1 ⟨rfl, hb1⟩
  have P1 := Lib.hid (blk_below (blk_new w _) hb1 (by simp))
  have B1 := Lib.hid (((Below.refl w.heap.size w).alloc (Nat.le_refl _) _).trans (hb1.mono (by simp)))
  clear hb1
  have z1 := blk_lt P1.out
  go_wp2_with fail
  refine (specNewRing s0 t0 _).mono ?_
  rintro e w2 ⟨a0, n0, cap0, rfl, ho0, hb2⟩
  have e0 := own_len ho0
  have hn0 : n0 ≤ 1048576 := by have := hlen.out; omega
  have I2 := Lib.hid (Ints.own ho0)
  have P2 := Lib.hid (blk_below P1.out hb2 z1)
  have B2 := Lib.hid (B1.out.trans (hb2.mono (by omega)))
  have z2 := blk_lt P2.out
  clear hb2 ho0 P1 B1
  have I2' := Lib.hid (I2.out.grown (World.grownBy_alloc w2 (.cells #[.slice a0 n0 cap0, .int .i64 (nrH s0 t0), .int .i64 (nrH s0 t0), .int .i64 (nrL s0 t0)] 58) none) (by simp))
  have P2' := Lib.hid (blk_alloc (o' := (.cells #[.slice a0 n0 cap0, .int .i64 (nrH s0 t0), .int .i64 (nrH s0 t0), .int .i64 (nrL s0 t0)] 58)) P2.out)
  have W2 := Lib.hid (blk_new w2 (.cells #[.slice a0 n0 cap0, .int .i64 (nrH s0 t0), .int .i64 (nrH s0 t0), .int .i64 (nrL s0 t0)] 58))
  have B2' := Lib.hid (B2.out.alloc (by omega) (.cells #[.slice a0 n0 cap0, .int .i64 (nrH s0 t0), .int .i64 (nrH s0 t0), .int .i64 (nrL s0 t0)] 58))
  obtain ⟨p0, p1, -, -⟩ := blk_two P2.out
  go_wp2_with fail
  refine (toPlan_any s0 t0 _).mono ?_
  rintro e w3 ⟨rfl, hb3⟩
  have z3 := hb3.size
  simp at z3
  have P3 := Lib.hid (blk_below P2'.out hb3 (by simp; omega))
  have W3 := Lib.hid (blk_below W2.out hb3 (by simp))
  have I3 := Lib.hid (I2'.out.below (hb3.mono (by simp)))
  have B3 := Lib.hid (B2'.out.trans (hb3.mono (by simp; omega)))
  clear hb3 P2 P2' W2 I2 I2' B2 B2' p0 p1
  go_wp2_with fail
  refine (iNewRing s0 t0 _).mono ?_
  rintro e w4 ⟨a1, n1, cap1, rfl, ho1, hb4⟩
  obtain rfl : n1 = n0 := by have := own_len ho1; omega
  have z4 := hb4.size
  have P4 := Lib.hid (blk_below P3.out hb4 (by omega))
  have W4 := Lib.hid (blk_below W3.out hb4 (by omega))
  have I4 := Lib.hid (I3.out.below (hb4.mono (by omega)))
  have B4 := Lib.hid (B3.out.trans (hb4.mono (by omega)))
  have O4 := Lib.hid ho1
  have hrow : ∀ k, (Value.slice a1 n1 cap1).ownBlock = some k → w3.heap.size ≤ k ∧ k < w4.heap.size := ho1.lt
  clear hb4 ho1 P3 W3 I3 B3
  have P4' := Lib.hid (blk_alloc (o' := (.cells #[.slice a1 n1 cap1, .int .i64 (nrH s0 t0), .int .i64 (nrH s0 t0), .int .i64 (nrL s0 t0)] 58)) P4.out)
  have W4' := Lib.hid (blk_alloc (o' := (.cells #[.slice a1 n1 cap1, .int .i64 (nrH s0 t0), .int .i64 (nrH s0 t0), .int .i64 (nrL s0 t0)] 58)) W4.out)
  have G4 := Lib.hid (blk_new w4 (.cells #[.slice a1 n1 cap1, .int .i64 (nrH s0 t0), .int .i64 (nrH s0 t0), .int .i64 (nrL s0 t0)] 58))
  have I4' := Lib.hid (I4.out.grown (World.grownBy_alloc w4 (.cells #[.slice a1 n1 cap1, .int .i64 (nrH s0 t0), .int .i64 (nrH s0 t0), .int .i64 (nrL s0 t0)] 58) none) (by simp))
  have O4' := Lib.hid (O4.out.alloc (.cells #[.slice a1 n1 cap1, .int .i64 (nrH s0 t0), .int .i64 (nrH s0 t0), .int .i64 (nrL s0 t0)] 58))
  have B4' := Lib.hid (B4.out.alloc (by omega) (.cells #[.slice a1 n1 cap1, .int .i64 (nrH s0 t0), .int .i64 (nrH s0 t0), .int .i64 (nrL s0 t0)] 58))
  clear P4 W4 I4 O4 B4
  obtain ⟨y0, y1, y2, y3, -, -, -, -⟩ := blk_four W4'.out
  go_wp2_with fail
  refine (eqRing_same (w4.heap.size + 1) a1 a0 n1 cap1 cap0 (nrW s0 t0) (nrH s0 t0) (nrH s0 t0) (nrL s0 t0) _ (Ints.own O4'.out |>.mono (by simp)) (I4'.out.mono (by omega)) (by simp) hn0).mono ?_
  rintro e w5 ⟨rfl, hb5⟩
  have z5 := hb5.size
  simp at z5
  have P5 := Lib.hid (blk_below P4'.out hb5 (by simp; omega))
  have W5 := Lib.hid (blk_below W4'.out hb5 (by simp; omega))
  have G5 := Lib.hid (blk_below G4.out hb5 (by simp))
  have I5 := Lib.hid (I4'.out.below (hb5.mono (by simp; omega)))
  have O5 := Lib.hid (own_grown O4'.out hb5)
  have B5 := Lib.hid (B4'.out.trans (hb5.mono (by simp; omega)))
  clear hb5 P4' W4' G4 I4' O4' B4' y0 y1 y2 y3
  obtain ⟨y0, y1, y2, y3, -, -, -, -⟩ := blk_four G5.out
  go_wp2_with fail
  refine (markRing_any _ a1 n1 cap1 1 (nrW s0 t0) (nrH s0 t0) (nrH s0 t0) (nrL s0 t0) _ O5.out (by decide) hn0).mono ?_
  rintro e w6 ⟨rfl, ho6, hg6⟩
  have z6 := hg6.size
  have P6 := Lib.hid (blk_grown P5.out hg6 (fun e => by have := hrow _ e.symm; omega))
  have W6 := Lib.hid (blk_grown W5.out hg6 (fun e => by have := hrow _ e.symm; omega))
  have G6 := Lib.hid (blk_grown G5.out hg6 (fun e => by have := hrow _ e.symm; omega))
  have I6 := Lib.hid (I5.out.grown hg6 (fun k e => by have := hrow k e; omega))
  have M6 := Lib.hid (Ints.own ho6)
  have B6 := Lib.hid (B5.out.grown hg6 (by omega) (fun k e => by have := hrow k e; omega))
  clear ho6 hg6 P5 W5 G5 I5 O5 B5 y0 y1 y2 y3
  obtain ⟨y0, y1, y2, y3, -, -, -, -⟩ := blk_four G6.out
  go_wp2_with fail
  refine (heldRing_any _ a1 n1 cap1 1 (nrH s0 t0) (nrH s0 t0) (nrL s0 t0) _ M6.out (Nat.le_refl _) (by decide) hn0).mono ?_
  rintro e w7 ⟨rfl, hb7⟩
  have z7 := hb7.size
  have P7 := Lib.hid (blk_below P6.out hb7 (by omega))
  have W7 := Lib.hid (blk_below W6.out hb7 (by omega))
  have G7 := Lib.hid (blk_below G6.out hb7 (by omega))
  have I7 := Lib.hid (I6.out.below (hb7.mono (by omega)))
  have M7 := Lib.hid (M6.out.below hb7)
  have B7 := Lib.hid (B6.out.trans (hb7.mono (by omega)))
  have hpos : (0 : Int) ≤ 1 + (n1 : Int) := by omega
  clear hb7 P6 W6 G6 I6 M6 B6 y0 y1 y2 y3
  obtain ⟨p0, p1, -, -⟩ := blk_two P7.out
  go_wp2_with fail
  refine (toPlan_any s0 t0 _).mono ?_
  rintro e w8 ⟨rfl, hb8⟩
  have z8 := hb8.size
  have W8 := Lib.hid (blk_below W7.out hb8 (by omega))
  have G8 := Lib.hid (blk_below G7.out hb8 (by omega))
  have I8 := Lib.hid (I7.out.below (hb8.mono (by omega)))
  have M8 := Lib.hid (M7.out.below (hb8.mono (by omega)))
  have B8 := Lib.hid (B7.out.trans (hb8.mono (by omega)))
  clear hb8 P7 W7 G7 I7 M7 B7 p0 p1
  go_wp2_with fail
  refine (iNewRing s0 t0 _).mono ?_
  rintro e w9 ⟨a2, n2, cap2, rfl, ho2, hb9⟩
  obtain rfl : n2 = n1 := by have := own_len ho2; omega
  have z9 := hb9.size
  have W9 := Lib.hid (blk_alloc (o' := (.cells #[.slice a2 n2 cap2, .int .i64 (nrH s0 t0), .int .i64 (nrH s0 t0), .int .i64 (nrL s0 t0)] 58)) (blk_below W8.out hb9 (by omega)))
  have G9 := Lib.hid (blk_alloc (o' := (.cells #[.slice a2 n2 cap2, .int .i64 (nrH s0 t0), .int .i64 (nrH s0 t0), .int .i64 (nrL s0 t0)] 58)) (blk_below G8.out hb9 (by omega)))
  have I9 := Lib.hid ((I8.out.below (hb9.mono (by omega))).grown (World.grownBy_alloc w9 (.cells #[.slice a2 n2 cap2, .int .i64 (nrH s0 t0), .int .i64 (nrH s0 t0), .int .i64 (nrL s0 t0)] 58) none) (by simp))
  have M9 := Lib.hid ((M8.out.below (hb9.mono (by omega))).grown (World.grownBy_alloc w9 (.cells #[.slice a2 n2 cap2, .int .i64 (nrH s0 t0), .int .i64 (nrH s0 t0), .int .i64 (nrL s0 t0)] 58) none) (by simp))
  have B9 := Lib.hid ((B8.out.trans (hb9.mono (by omega))).alloc (by omega) (.cells #[.slice a2 n2 cap2, .int .i64 (nrH s0 t0), .int .i64 (nrH s0 t0), .int .i64 (nrL s0 t0)] 58))
  have O9 := Lib.hid (ho2.alloc (.cells #[.slice a2 n2 cap2, .int .i64 (nrH s0 t0), .int .i64 (nrH s0 t0), .int .i64 (nrL s0 t0)] 58))
  clear hb9 ho2 W8 G8 I8 M8 B8
  obtain ⟨y0, y1, y2, y3, -, -, -, -⟩ := blk_four W9.out
  have zz : w2.heap.size < w9.heap.size := by omega
  go_wp2_with fail
  refine (eqRing_same (w9.heap.size + 1) a2 a0 n2 cap2 cap0 (nrW s0 t0) (nrH s0 t0) (nrH s0 t0) (nrL s0 t0) _ (Ints.own O9.out |>.mono (by simp)) (I9.out.mono (by omega)) (by simp) hn0).mono ?_
  rintro e w10 ⟨rfl, hb10⟩
  have z10 := hb10.size
  simp at z10
  have G10 := Lib.hid (blk_below G9.out hb10 (by simp; omega))
  have M10 := Lib.hid (M9.out.below (hb10.mono (by simp; omega)))
  have B10 := Lib.hid (B9.out.trans (hb10.mono (by simp; omega)))
  clear hb10 W9 G9 I9 M9 B9 O9 y0 y1 y2 y3
  obtain ⟨y0, y1, y2, y3, -, -, -, -⟩ := blk_four G10.out
  go_wp2_with fail
  refine (heldRing_any _ a1 n2 cap1 1 (nrH s0 t0) (nrH s0 t0) (nrL s0 t0) _ M10.out (by omega) (by decide) hn0).mono ?_
  rintro e w11 ⟨rfl, hb11⟩
  go_wp2
  go_ret
  exact ⟨rfl, B10.out.trans (hb11.mono (by omega))⟩

set_option maxRecDepth 100000 in
set_option maxHeartbeats 4000000 in
theorem exactFullRing_walk (s0 t0 : Int) (w : World) :
    Calls Try.prog 14 #[.agg #[.int .i64 s0, .int .i64 t0]] w fun e w' => e = .returned (.bool true) ∧ Below w.heap.size w w' := by
  have hlen := Lib.hid (frW_len s0 t0)
  go_enter Try.func14, Try.ntmps14
  go_wp2_with fail
  refine (toPlan_any s0 t0 _).mono ?_
  rintro e w1 ⟨rfl, hb1⟩
  have P1 := Lib.hid (blk_below (blk_new w _) hb1 (by simp))
  have B1 := Lib.hid (((Below.refl w.heap.size w).alloc (Nat.le_refl _) _).trans (hb1.mono (by simp)))
  clear hb1
  have z1 := blk_lt P1.out
  go_wp2_with fail
  refine (specFullRing s0 t0 _).mono ?_
  rintro e w2 ⟨a0, n0, cap0, rfl, ho0, hb2⟩
  have e0 := own_len ho0
  have hn0 : n0 ≤ 1048576 := by have := hlen.out; omega
  have I2 := Lib.hid (Ints.own ho0)
  have P2 := Lib.hid (blk_below P1.out hb2 z1)
  have B2 := Lib.hid (B1.out.trans (hb2.mono (by omega)))
  have z2 := blk_lt P2.out
  clear hb2 ho0 P1 B1
  have I2' := Lib.hid (I2.out.grown (World.grownBy_alloc w2 (.cells #[.slice a0 n0 cap0, .int .i64 (frH s0 t0), .int .i64 (frT s0 t0), .int .i64 (frL s0 t0)] 58) none) (by simp))
  have P2' := Lib.hid (blk_alloc (o' := (.cells #[.slice a0 n0 cap0, .int .i64 (frH s0 t0), .int .i64 (frT s0 t0), .int .i64 (frL s0 t0)] 58)) P2.out)
  have W2 := Lib.hid (blk_new w2 (.cells #[.slice a0 n0 cap0, .int .i64 (frH s0 t0), .int .i64 (frT s0 t0), .int .i64 (frL s0 t0)] 58))
  have B2' := Lib.hid (B2.out.alloc (by omega) (.cells #[.slice a0 n0 cap0, .int .i64 (frH s0 t0), .int .i64 (frT s0 t0), .int .i64 (frL s0 t0)] 58))
  obtain ⟨p0, p1, -, -⟩ := blk_two P2.out
  go_wp2_with fail
  refine (toPlan_any s0 t0 _).mono ?_
  rintro e w3 ⟨rfl, hb3⟩
  have z3 := hb3.size
  simp at z3
  have P3 := Lib.hid (blk_below P2'.out hb3 (by simp; omega))
  have W3 := Lib.hid (blk_below W2.out hb3 (by simp))
  have I3 := Lib.hid (I2'.out.below (hb3.mono (by simp)))
  have B3 := Lib.hid (B2'.out.trans (hb3.mono (by simp; omega)))
  clear hb3 P2 P2' W2 I2 I2' B2 B2' p0 p1
  go_wp2_with fail
  refine (iFullRing s0 t0 _).mono ?_
  rintro e w4 ⟨a1, n1, cap1, rfl, ho1, hb4⟩
  obtain rfl : n1 = n0 := by have := own_len ho1; omega
  have z4 := hb4.size
  have P4 := Lib.hid (blk_below P3.out hb4 (by omega))
  have W4 := Lib.hid (blk_below W3.out hb4 (by omega))
  have I4 := Lib.hid (I3.out.below (hb4.mono (by omega)))
  have B4 := Lib.hid (B3.out.trans (hb4.mono (by omega)))
  have O4 := Lib.hid ho1
  have hrow : ∀ k, (Value.slice a1 n1 cap1).ownBlock = some k → w3.heap.size ≤ k ∧ k < w4.heap.size := ho1.lt
  clear hb4 ho1 P3 W3 I3 B3
  have P4' := Lib.hid (blk_alloc (o' := (.cells #[.slice a1 n1 cap1, .int .i64 (frH s0 t0), .int .i64 (frT s0 t0), .int .i64 (frL s0 t0)] 58)) P4.out)
  have W4' := Lib.hid (blk_alloc (o' := (.cells #[.slice a1 n1 cap1, .int .i64 (frH s0 t0), .int .i64 (frT s0 t0), .int .i64 (frL s0 t0)] 58)) W4.out)
  have G4 := Lib.hid (blk_new w4 (.cells #[.slice a1 n1 cap1, .int .i64 (frH s0 t0), .int .i64 (frT s0 t0), .int .i64 (frL s0 t0)] 58))
  have I4' := Lib.hid (I4.out.grown (World.grownBy_alloc w4 (.cells #[.slice a1 n1 cap1, .int .i64 (frH s0 t0), .int .i64 (frT s0 t0), .int .i64 (frL s0 t0)] 58) none) (by simp))
  have O4' := Lib.hid (O4.out.alloc (.cells #[.slice a1 n1 cap1, .int .i64 (frH s0 t0), .int .i64 (frT s0 t0), .int .i64 (frL s0 t0)] 58))
  have B4' := Lib.hid (B4.out.alloc (by omega) (.cells #[.slice a1 n1 cap1, .int .i64 (frH s0 t0), .int .i64 (frT s0 t0), .int .i64 (frL s0 t0)] 58))
  clear P4 W4 I4 O4 B4
  obtain ⟨y0, y1, y2, y3, -, -, -, -⟩ := blk_four W4'.out
  go_wp2_with fail
  refine (eqRing_same (w4.heap.size + 1) a1 a0 n1 cap1 cap0 (frW s0 t0) (frH s0 t0) (frT s0 t0) (frL s0 t0) _ (Ints.own O4'.out |>.mono (by simp)) (I4'.out.mono (by omega)) (by simp) hn0).mono ?_
  rintro e w5 ⟨rfl, hb5⟩
  have z5 := hb5.size
  simp at z5
  have P5 := Lib.hid (blk_below P4'.out hb5 (by simp; omega))
  have W5 := Lib.hid (blk_below W4'.out hb5 (by simp; omega))
  have G5 := Lib.hid (blk_below G4.out hb5 (by simp))
  have I5 := Lib.hid (I4'.out.below (hb5.mono (by simp; omega)))
  have O5 := Lib.hid (own_grown O4'.out hb5)
  have B5 := Lib.hid (B4'.out.trans (hb5.mono (by simp; omega)))
  clear hb5 P4' W4' G4 I4' O4' B4' y0 y1 y2 y3
  obtain ⟨y0, y1, y2, y3, -, -, -, -⟩ := blk_four G5.out
  go_wp2_with fail
  refine (markRing_any _ a1 n1 cap1 1 (frW s0 t0) (frH s0 t0) (frT s0 t0) (frL s0 t0) _ O5.out (by decide) hn0).mono ?_
  rintro e w6 ⟨rfl, ho6, hg6⟩
  have z6 := hg6.size
  have P6 := Lib.hid (blk_grown P5.out hg6 (fun e => by have := hrow _ e.symm; omega))
  have W6 := Lib.hid (blk_grown W5.out hg6 (fun e => by have := hrow _ e.symm; omega))
  have G6 := Lib.hid (blk_grown G5.out hg6 (fun e => by have := hrow _ e.symm; omega))
  have I6 := Lib.hid (I5.out.grown hg6 (fun k e => by have := hrow k e; omega))
  have M6 := Lib.hid (Ints.own ho6)
  have B6 := Lib.hid (B5.out.grown hg6 (by omega) (fun k e => by have := hrow k e; omega))
  clear ho6 hg6 P5 W5 G5 I5 O5 B5 y0 y1 y2 y3
  obtain ⟨y0, y1, y2, y3, -, -, -, -⟩ := blk_four G6.out
  go_wp2_with fail
  refine (heldRing_any _ a1 n1 cap1 1 (frH s0 t0) (frT s0 t0) (frL s0 t0) _ M6.out (Nat.le_refl _) (by decide) hn0).mono ?_
  rintro e w7 ⟨rfl, hb7⟩
  have z7 := hb7.size
  have P7 := Lib.hid (blk_below P6.out hb7 (by omega))
  have W7 := Lib.hid (blk_below W6.out hb7 (by omega))
  have G7 := Lib.hid (blk_below G6.out hb7 (by omega))
  have I7 := Lib.hid (I6.out.below (hb7.mono (by omega)))
  have M7 := Lib.hid (M6.out.below hb7)
  have B7 := Lib.hid (B6.out.trans (hb7.mono (by omega)))
  have hpos : (0 : Int) ≤ 1 + (n1 : Int) := by omega
  clear hb7 P6 W6 G6 I6 M6 B6 y0 y1 y2 y3
  obtain ⟨p0, p1, -, -⟩ := blk_two P7.out
  go_wp2_with fail
  refine (toPlan_any s0 t0 _).mono ?_
  rintro e w8 ⟨rfl, hb8⟩
  have z8 := hb8.size
  have W8 := Lib.hid (blk_below W7.out hb8 (by omega))
  have G8 := Lib.hid (blk_below G7.out hb8 (by omega))
  have I8 := Lib.hid (I7.out.below (hb8.mono (by omega)))
  have M8 := Lib.hid (M7.out.below (hb8.mono (by omega)))
  have B8 := Lib.hid (B7.out.trans (hb8.mono (by omega)))
  clear hb8 P7 W7 G7 I7 M7 B7 p0 p1
  go_wp2_with fail
  refine (iFullRing s0 t0 _).mono ?_
  rintro e w9 ⟨a2, n2, cap2, rfl, ho2, hb9⟩
  obtain rfl : n2 = n1 := by have := own_len ho2; omega
  have z9 := hb9.size
  have W9 := Lib.hid (blk_alloc (o' := (.cells #[.slice a2 n2 cap2, .int .i64 (frH s0 t0), .int .i64 (frT s0 t0), .int .i64 (frL s0 t0)] 58)) (blk_below W8.out hb9 (by omega)))
  have G9 := Lib.hid (blk_alloc (o' := (.cells #[.slice a2 n2 cap2, .int .i64 (frH s0 t0), .int .i64 (frT s0 t0), .int .i64 (frL s0 t0)] 58)) (blk_below G8.out hb9 (by omega)))
  have I9 := Lib.hid ((I8.out.below (hb9.mono (by omega))).grown (World.grownBy_alloc w9 (.cells #[.slice a2 n2 cap2, .int .i64 (frH s0 t0), .int .i64 (frT s0 t0), .int .i64 (frL s0 t0)] 58) none) (by simp))
  have M9 := Lib.hid ((M8.out.below (hb9.mono (by omega))).grown (World.grownBy_alloc w9 (.cells #[.slice a2 n2 cap2, .int .i64 (frH s0 t0), .int .i64 (frT s0 t0), .int .i64 (frL s0 t0)] 58) none) (by simp))
  have B9 := Lib.hid ((B8.out.trans (hb9.mono (by omega))).alloc (by omega) (.cells #[.slice a2 n2 cap2, .int .i64 (frH s0 t0), .int .i64 (frT s0 t0), .int .i64 (frL s0 t0)] 58))
  have O9 := Lib.hid (ho2.alloc (.cells #[.slice a2 n2 cap2, .int .i64 (frH s0 t0), .int .i64 (frT s0 t0), .int .i64 (frL s0 t0)] 58))
  clear hb9 ho2 W8 G8 I8 M8 B8
  obtain ⟨y0, y1, y2, y3, -, -, -, -⟩ := blk_four W9.out
  have zz : w2.heap.size < w9.heap.size := by omega
  go_wp2_with fail
  refine (eqRing_same (w9.heap.size + 1) a2 a0 n2 cap2 cap0 (frW s0 t0) (frH s0 t0) (frT s0 t0) (frL s0 t0) _ (Ints.own O9.out |>.mono (by simp)) (I9.out.mono (by omega)) (by simp) hn0).mono ?_
  rintro e w10 ⟨rfl, hb10⟩
  have z10 := hb10.size
  simp at z10
  have G10 := Lib.hid (blk_below G9.out hb10 (by simp; omega))
  have M10 := Lib.hid (M9.out.below (hb10.mono (by simp; omega)))
  have B10 := Lib.hid (B9.out.trans (hb10.mono (by simp; omega)))
  clear hb10 W9 G9 I9 M9 B9 O9 y0 y1 y2 y3
  obtain ⟨y0, y1, y2, y3, -, -, -, -⟩ := blk_four G10.out
  go_wp2_with fail
  refine (heldRing_any _ a1 n2 cap1 1 (frH s0 t0) (frT s0 t0) (frL s0 t0) _ M10.out (by omega) (by decide) hn0).mono ?_
  rintro e w11 ⟨rfl, hb11⟩
  go_wp2
  go_ret
  exact ⟨rfl, B10.out.trans (hb11.mono (by omega))⟩

set_option maxRecDepth 100000 in
theorem liftedFnExactNewRing (os : Os) (started : os.Started) (H : Type) (enc : TypeId × Value → H) :
    ReturnsInHanded {} Try.checked os 13 .any (Rows.fnExactNewRingSpec.pre6 enc Try.prog Try.f13 Rows.fnExactNewRingRow.domain false) (Rows.fnExactNewRingSpec.post enc Try.prog Try.f13 false true false false) := by
  refine returnsInHanded_of_change (C := Try.checked) own started (by kernel_rfl) Try.func13
    (ChangeSpec.witness6 (enc := enc) (C := Try.checked) false ⟨#[], #[.agg #[.int .i64 0, .int .i64 0]], []⟩ 8 (by kernel_rfl) (by kernel_rfl) (by kernel_rfl) (by kernel_rfl)) ?_
  intro W base args ds gs before hval0 hW hcnd _
  have hval : ∀ (j : Nat) t v, Try.f13.params[j]? = some t → args[j]? = some v → Value.okWide Try.prog W .any base t v := hval0
  have hW' := hW
  obtain ⟨p, q, hA0, hV, rfl, hfz, hnd⟩ := hW
  have hA : DataW.TrodAll enc Try.prog W 0 (fun _ => true) true Try.f13.params.toList args.toList ds p := hA0
  rw [Try.params13] at hA hval
  obtain ⟨v0, vs0, d0, ds0, p0, q0, h0args, rfl, rfl, h0, r0⟩ := trodAll_cons hA
  obtain ⟨rfl, rfl, rfl⟩ := trodAll_nil r0
  obtain rfl : args = #[v0] := by cases args; simp_all
  obtain ⟨rfl, rfl⟩ := trodVars_none hV
  have k0 := h0
  have lt0 : ∀ x ∈ p0, x.block < W.heap.size := by obtain ⟨m, hm⟩ := k0; exact DataW.trod_lt m _ _ _ hm
  obtain ⟨s0, t0, rfl, ws0, wt0⟩ : ∃ x y : Int, v0 = .agg #[.int .i64 x, .int .i64 y] ∧ W64 x ∧ W64 y := by
    obtain ⟨x0, x1, y0, y1, m, hv, hd, hp, hy0, hy1⟩ := open_agg2 Try.underlying34 (by kernel_rfl) (by kernel_rfl) (hval 0 34 v0 rfl rfl) h0
    obtain ⟨x, e0, _, wa⟩ := DataW.trod_int Try.underlying2 hy0
    obtain ⟨y, e1, _, wb⟩ := DataW.trod_int Try.underlying2 hy1
    simp at e0 e1
    subst e0 e1
    exact ⟨x, y, hv, w64_wf wa, w64_wf wb⟩
  clear hA0 hval0
  refine (exactNewRing_walk s0 t0 W).mono fun e W' ⟨he, bel⟩ => ?_
  subst he
  exact ⟨_, rfl, _, _, _, [], _, [], hW', trodAll_mk1 (shut_bool Try.underlying4 _), (trodAll_cons_mk (Below.trod laidOut (by kernel_rfl) (of_decide_eq_true (by kernel_rfl)) k0 bel lt0) trodAll_mk0), rfl, bel.frame _, fun h => by cases h⟩

theorem exactNewRing_proved : Rows.FnExactNewRingSaid :=
  OpenClaim.holds_of_wide 13 Try.f13 rfl rfl rfl rfl rfl rfl rfl ⟨rfl, rfl, rfl, rfl, rfl⟩ rfl rfl rfl rfl rfl (by kernel_rfl) Try.func13 (by kernel_rfl)
    (of_decide_eq_true (by kernel_rfl)) (by unfold Func.isWrapper; first | (rw [if_pos (by decide +kernel)]; kernel_rfl) | (rw [if_neg (by decide +kernel)]; exact ⟨rfl, rfl⟩))
    (fun os started H enc _ => liftedFnExactNewRing os started H enc)

set_option maxRecDepth 100000 in
theorem liftedFnExactFullRing (os : Os) (started : os.Started) (H : Type) (enc : TypeId × Value → H) :
    ReturnsInHanded {} Try.checked os 14 .any (Rows.fnExactFullRingSpec.pre6 enc Try.prog Try.f14 Rows.fnExactFullRingRow.domain false) (Rows.fnExactFullRingSpec.post enc Try.prog Try.f14 false true false false) := by
  refine returnsInHanded_of_change (C := Try.checked) own started (by kernel_rfl) Try.func14
    (ChangeSpec.witness6 (enc := enc) (C := Try.checked) false ⟨#[], #[.agg #[.int .i64 0, .int .i64 0]], []⟩ 8 (by kernel_rfl) (by kernel_rfl) (by kernel_rfl) (by kernel_rfl)) ?_
  intro W base args ds gs before hval0 hW hcnd _
  have hval : ∀ (j : Nat) t v, Try.f14.params[j]? = some t → args[j]? = some v → Value.okWide Try.prog W .any base t v := hval0
  have hW' := hW
  obtain ⟨p, q, hA0, hV, rfl, hfz, hnd⟩ := hW
  have hA : DataW.TrodAll enc Try.prog W 0 (fun _ => true) true Try.f14.params.toList args.toList ds p := hA0
  rw [Try.params14] at hA hval
  obtain ⟨v0, vs0, d0, ds0, p0, q0, h0args, rfl, rfl, h0, r0⟩ := trodAll_cons hA
  obtain ⟨rfl, rfl, rfl⟩ := trodAll_nil r0
  obtain rfl : args = #[v0] := by cases args; simp_all
  obtain ⟨rfl, rfl⟩ := trodVars_none hV
  have k0 := h0
  have lt0 : ∀ x ∈ p0, x.block < W.heap.size := by obtain ⟨m, hm⟩ := k0; exact DataW.trod_lt m _ _ _ hm
  obtain ⟨s0, t0, rfl, ws0, wt0⟩ : ∃ x y : Int, v0 = .agg #[.int .i64 x, .int .i64 y] ∧ W64 x ∧ W64 y := by
    obtain ⟨x0, x1, y0, y1, m, hv, hd, hp, hy0, hy1⟩ := open_agg2 Try.underlying34 (by kernel_rfl) (by kernel_rfl) (hval 0 34 v0 rfl rfl) h0
    obtain ⟨x, e0, _, wa⟩ := DataW.trod_int Try.underlying2 hy0
    obtain ⟨y, e1, _, wb⟩ := DataW.trod_int Try.underlying2 hy1
    simp at e0 e1
    subst e0 e1
    exact ⟨x, y, hv, w64_wf wa, w64_wf wb⟩
  clear hA0 hval0
  refine (exactFullRing_walk s0 t0 W).mono fun e W' ⟨he, bel⟩ => ?_
  subst he
  exact ⟨_, rfl, _, _, _, [], _, [], hW', trodAll_mk1 (shut_bool Try.underlying4 _), (trodAll_cons_mk (Below.trod laidOut (by kernel_rfl) (of_decide_eq_true (by kernel_rfl)) k0 bel lt0) trodAll_mk0), rfl, bel.frame _, fun h => by cases h⟩

theorem exactFullRing_proved : Rows.FnExactFullRingSaid :=
  OpenClaim.holds_of_wide 14 Try.f14 rfl rfl rfl rfl rfl rfl rfl ⟨rfl, rfl, rfl, rfl, rfl⟩ rfl rfl rfl rfl rfl (by kernel_rfl) Try.func14 (by kernel_rfl)
    (of_decide_eq_true (by kernel_rfl)) (by unfold Func.isWrapper; first | (rw [if_pos (by decide +kernel)]; kernel_rfl) | (rw [if_neg (by decide +kernel)]; exact ⟨rfl, rfl⟩))
    (fun os started H enc _ => liftedFnExactFullRing os started H enc)

end Go.Proofs.Ytgcnfnmdemeaoaa
