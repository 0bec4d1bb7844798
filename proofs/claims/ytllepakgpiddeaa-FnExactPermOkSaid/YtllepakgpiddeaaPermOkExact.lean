/- FnExactPermOk: whatever comes in, the program's function answers as its model, and the lists read afterwards as before: no condition. -/
import Derived.Test.YtllepakgpiddeaaL6b
import Derived.Test.YtllepakgpiddeaaS7b
import Derived.Test.YtllepakgpiddeaaI7b
import Derived.Test.YtllepakgpiddeaaIntsRow
import Derived.Deep.RegionHeld3
import Derived.Deep.DeepCutAuto
namespace Go.Proofs.Ytllepakgpiddeaa
open Go.ChangeShapes Go.WideShapes Go.ChangeAt Go.RowKit Go.Joins

set_option maxRecDepth 100000 in
set_option maxHeartbeats 4000000 in
theorem exactPermOk_walk (s0 t0 : Int) (a b : Option Addr) (n m ca cb : Nat) (xs ys : List Int) (w : World) (ha : Ints w.heap.size a n xs w) (hb : Ints w.heap.size b m ys w) (hN : n ≤ maxLen) (hM : m ≤ maxLen) :
    Calls Try.prog 4 #[.agg #[.int .i64 s0, .int .i64 t0], .slice a n ca, .slice b m cb] w fun e w' => e = .returned (.bool true) ∧ Below w.heap.size w w' := by
  have HQ := Lib.hid ((((Hold.start w).addI (q := (a, n, xs)) ha).addI (q := (b, m, ys)) hb).new (.cells #[.int .i64 s0, .int .i64 t0] 23))
  have lx : xs.length = n := ha.1
  have ly : ys.length = m := hb.1
  unfold maxLen at hN hM
  clear ha hb
  by_cases hn : n ≤ 1048576
  case neg =>
    have hd : 1048576 < (n : Int) := by omega
    go_enter Try.func4, Try.ntmps4
    go_wp2
    go_ret
    exact ⟨rfl, (Below.refl _ _).alloc (Nat.le_refl _) _⟩
  by_cases hm : m ≤ 1048576
  case neg =>
    have hd : ¬ 1048576 < (n : Int) := by omega
    have hd2 : 1048576 < (m : Int) := by omega
    go_enter Try.func4, Try.ntmps4
    go_wp2
    go_ret
    exact ⟨rfl, (Below.refl _ _).alloc (Nat.le_refl _) _⟩
  have hd : ¬ 1048576 < (n : Int) := by omega
  have hd2 : ¬ 1048576 < (m : Int) := by omega
  go_enter Try.func4, Try.ntmps4
  obtain ⟨q0, q1, -, -⟩ := blk_two HQ.out.hd
  go_wp2_with fail
  refine (toPlan_any s0 t0 _).mono ?_
  rintro e w1 ⟨rfl, hb1⟩
  have HQ1 := Lib.hid (HQ.out.step hb1)
  clear hb1 HQ q0 q1
  go_wp2_with fail
  refine (toInt64S_any _ a n ca xs _ HQ1.out.itl.ihd (Nat.le_refl _) hn).mono ?_
  rintro e w2 ⟨rfl, hg, hb2⟩
  have HQ2 := Lib.hid ((HQ1.out.step hb2).addI (IntsW.at_block hg lx))
  clear hb2 hg HQ1
  go_wp2_with fail
  refine (toInt64S_any _ b m cb ys _ HQ2.out.itl.ihd (Nat.le_refl _) hm).mono ?_
  rintro e w3 ⟨rfl, hg, hb3⟩
  have HQ3 := Lib.hid ((HQ2.out.step hb3).addI (IntsW.at_block hg ly))
  clear hb3 hg HQ2
  go_wp2_with fail
  refine (specPermOk s0 t0 _ _ n m n m xs ys _ HQ3.out.itl.ints HQ3.out.ints hn hm).mono ?_
  rintro e w4 ⟨rfl, hb4⟩
  have HQ4 := Lib.hid (HQ3.out.step hb4).itl.itl
  clear hb4 HQ3
  go_wp2_with fail
  refine (toInt64S_any _ a n ca xs _ HQ4.out.itl.ihd (Nat.le_refl _) hn).mono ?_
  rintro e w5 ⟨rfl, hg, hb5⟩
  have HQ5 := Lib.hid ((HQ4.out.step hb5).addI (IntsW.at_block hg lx))
  clear hb5 hg HQ4
  go_wp2_with fail
  refine (toInt64S_any _ b m cb ys _ HQ5.out.itl.ihd (Nat.le_refl _) hm).mono ?_
  rintro e w6 ⟨rfl, hg, hb6⟩
  have HQ6 := Lib.hid ((HQ5.out.step hb6).addI (IntsW.at_block hg ly))
  clear hb6 hg HQ5
  obtain ⟨q0, q1, -, -⟩ := blk_two HQ6.out.hd
  go_wp2_with fail
  refine (toPlan_any s0 t0 _).mono ?_
  rintro e w7 ⟨rfl, hb7⟩
  have HQ7 := Lib.hid (HQ6.out.step hb7)
  clear hb7 HQ6 q0 q1
  go_wp2_with fail
  refine (iPermOk s0 t0 _ _ n m n m xs ys _ HQ7.out.itl.ints HQ7.out.ints hn hm).mono ?_
  rintro e w8 ⟨rfl, hb8⟩
  have HQ8 := Lib.hid (HQ7.out.step hb8)
  clear hb8 HQ7
  go_wp2_with fail
  refine (toInt64S_any _ a n ca xs _ HQ8.out.itl.itl.itl.ihd (Nat.le_refl _) hn).mono ?_
  rintro e w9 ⟨rfl, hg, hb9⟩
  have HQ9 := Lib.hid ((HQ8.out.step hb9).addI (IntsW.at_block hg lx))
  clear hb9 hg HQ8
  go_wp2_with fail
  refine (eqInt64S_same _ _ _ n _ _ xs _ HQ9.out.itl.itl.ihd HQ9.out.ihd hn).mono ?_
  rintro e w10 ⟨d9, rfl, rfl⟩
  have HQ10 := Lib.hid (HQ9.out.step (drewN_of w9 d9))
  clear HQ9
  go_wp2_with fail
  refine (toInt64S_any _ b m cb ys _ HQ10.out.itl.itl.itl.ihd (Nat.le_refl _) hm).mono ?_
  rintro e w11 ⟨rfl, hg, hb11⟩
  have HQ11 := Lib.hid ((HQ10.out.step hb11).addI (IntsW.at_block hg ly))
  clear hb11 hg HQ10
  go_wp2_with fail
  refine (eqInt64S_same _ _ _ m _ _ ys _ HQ11.out.itl.itl.ihd HQ11.out.ihd hm).mono ?_
  rintro e w12 ⟨d12, rfl, rfl⟩
  go_wp2
  go_ret
  exact ⟨rfl, (HQ11.out.step (drewN_of w11 d12)).below⟩

set_option maxRecDepth 100000 in
theorem liftedFnExactPermOk (os : Os) (started : os.Started) (H : Type) (enc : TypeId × Value → H) :
    ReturnsInHanded {} Try.checked os 4 .any (Rows.fnExactPermOkSpec.pre6 enc Try.prog Try.f4 Rows.fnExactPermOkRow.domain false) (Rows.fnExactPermOkSpec.post enc Try.prog Try.f4 false true false false) := by
  refine returnsInHanded_of_change (C := Try.checked) own started (by kernel_rfl) Try.func4
    (ChangeSpec.witness6 (enc := enc) (C := Try.checked) false ⟨#[], #[.agg #[.int .i64 0, .int .i64 0], .slice none 0 0, .slice none 0 0], []⟩ 8 (by kernel_rfl) (by kernel_rfl) (by kernel_rfl) (by kernel_rfl)) ?_
  intro W base args ds gs before hval0 hW hcnd _
  have hval : ∀ (j : Nat) t v, Try.f4.params[j]? = some t → args[j]? = some v → Value.okWide Try.prog W .any base t v := hval0
  have hW' := hW
  obtain ⟨p, q, hA0, hV, rfl, hfz, hnd⟩ := hW
  have hA : DataW.TrodAll enc Try.prog W 0 (fun _ => true) true Try.f4.params.toList args.toList ds p := hA0
  rw [Try.params4] at hA hval
  obtain ⟨v0, vs0, d0, ds0, p0, q0, h0args, rfl, rfl, h0, r0⟩ := trodAll_cons hA
  obtain ⟨v1, vs1, d1, ds1, p1, q1, h1args, rfl, rfl, h1, r1⟩ := trodAll_cons r0
  obtain ⟨v2, vs2, d2, ds2, p2, q2, h2args, rfl, rfl, h2, r2⟩ := trodAll_cons r1
  obtain ⟨rfl, rfl, rfl⟩ := trodAll_nil r2
  obtain rfl : args = #[v0, v1, v2] := by cases args; simp_all
  obtain ⟨rfl, rfl⟩ := trodVars_none hV
  have k0 := h0
  have lt0 : ∀ x ∈ p0, x.block < W.heap.size := by obtain ⟨m, hm⟩ := k0; exact DataW.trod_lt m _ _ _ hm
  obtain ⟨s0, t0, rfl, ws0, wt0⟩ : ∃ x y : Int, v0 = .agg #[.int .i64 x, .int .i64 y] ∧ W64 x ∧ W64 y := by
    obtain ⟨x0, x1, y0, y1, m, hv, hd, hp, hy0, hy1⟩ := open_agg2 Try.underlying23 (by kernel_rfl) (by kernel_rfl) (hval 0 23 v0 rfl rfl) h0
    obtain ⟨x, e0, _, wa⟩ := DataW.trod_int Try.underlying2 hy0
    obtain ⟨y, e1, _, wb⟩ := DataW.trod_int Try.underlying2 hy1
    simp at e0 e1
    subst e0 e1
    exact ⟨x, y, hv, w64_wf wa, w64_wf wb⟩
  have k1 := h1
  have lt1 : ∀ x ∈ p1, x.block < W.heap.size := by obtain ⟨m, hm⟩ := k1; exact DataW.trod_lt m _ _ _ hm
  obtain ⟨a1, l1, z1, xs1, rfl, hi1, hw1, hl1⟩ := slice_of (hval 1 24 v1 rfl rfl) h1
  have k2 := h2
  have lt2 : ∀ x ∈ p2, x.block < W.heap.size := by obtain ⟨m, hm⟩ := k2; exact DataW.trod_lt m _ _ _ hm
  obtain ⟨a2, l2, z2, xs2, rfl, hi2, hw2, hl2⟩ := slice_of (hval 2 24 v2 rfl rfl) h2
  clear hA0 hval0
  refine (exactPermOk_walk s0 t0 a1 a2 l1 l2 z1 z2 xs1 xs2  W hi1 hi2 hl1 hl2).mono fun e W' ⟨he, bel⟩ => ?_
  subst he
  exact ⟨_, rfl, _, _, _, [], _, [], hW', trodAll_mk1 (shut_bool Try.underlying4 _), (trodAll_cons_mk (Below.trod laidOut (by kernel_rfl) (of_decide_eq_true (by kernel_rfl)) k0 bel lt0) (trodAll_cons_mk (Below.trod laidOut (by kernel_rfl) (of_decide_eq_true (by kernel_rfl)) k1 bel lt1) (trodAll_cons_mk (Below.trod laidOut (by kernel_rfl) (of_decide_eq_true (by kernel_rfl)) k2 bel lt2) trodAll_mk0))), rfl, bel.frame _, fun h => by cases h⟩

theorem exactPermOk_proved : Rows.FnExactPermOkSaid :=
  OpenClaim.holds_of_wide 4 Try.f4 rfl rfl rfl rfl rfl rfl rfl ⟨rfl, rfl, rfl, rfl, rfl⟩ rfl rfl rfl rfl rfl (by kernel_rfl) Try.func4 (by kernel_rfl)
    (of_decide_eq_true (by kernel_rfl)) (by unfold Func.isWrapper; first | (rw [if_pos (by decide +kernel)]; kernel_rfl) | (rw [if_neg (by decide +kernel)]; exact ⟨rfl, rfl⟩))
    (fun os started H enc _ => liftedFnExactPermOk os started H enc)

end Go.Proofs.Ytllepakgpiddeaa
