/- The exact laws of the words' functions hold: whatever comes in, the program's function answers as its model: no condition. -/
import Derived.Test.YtakbkdeeablpjaaI2
import Derived.Test.YtakbkdeeablpjaaD2
import Derived.Test.YtakbkdeeablpjaaBytesRow
import Derived.Lib.SmallJoins
namespace Go.Proofs.Ytakbkdeeablpjaa
open Go.ChangeShapes Go.WideShapes Go.ChangeAt Go.RowKit Go.Joins

set_option maxHeartbeats 2000000 in
theorem exactNoneOf_walk (s0 t0 : Int) (w : World) :
    Calls Try.prog 7 #[.agg #[.int .i64 s0, .int .i64 t0]] w fun e w' => e = .returned (.bool true) ∧ Below w.heap.size w w' := by
  have hB0 := (Below.refl w.heap.size w).alloc (by first | exact Nat.le_refl _ | (simp; done) | (simp; omega)) (.cells #[.int .i64 s0, .int .i64 t0] 37)
  go_enter Try.func7, Try.ntmps7
  go_wp2_with (first | (go_at_call 19; refine (toPlan_any _ _ _).mono ?_; rintro e wx ⟨rfl, hbx⟩; obtain ⟨hcx, hfx⟩ := bcell hbx; have hzx := hbx.size; (try simp at hzx); have ha0 : w.heap.size < wx.heap.size := (by omega); have hBx : Below w.heap.size w wx := Below.trans (by first | assumption | exact Below.alloc (by assumption) (by omega) _) (hbx.mono (by first | omega | (simp; omega) | (simp; done)))) | (go_at_call 18; refine (specNone _ _ _).mono ?_; rintro e wx ⟨rfl, hbx⟩; obtain ⟨hcx, hfx⟩ := bcell hbx; have hzx := hbx.size; (try simp at hzx); have ha0 : w.heap.size < wx.heap.size := (by omega); have hBx : Below w.heap.size w wx := Below.trans (by first | assumption | exact Below.alloc (by assumption) (by omega) _) (hbx.mono (by first | omega | (simp; omega) | (simp; done)))) | (go_at_call 17; refine (iNone _ _ _).mono ?_; rintro e wx ⟨rfl, hbx⟩; obtain ⟨hcx, hfx⟩ := bcell hbx; have hzx := hbx.size; (try simp at hzx); have ha0 : w.heap.size < wx.heap.size := (by omega); have hBx : Below w.heap.size w wx := Below.trans (by first | assumption | exact Below.alloc (by assumption) (by omega) _) (hbx.mono (by first | omega | (simp; omega) | (simp; done)))))
  go_ret
  exact ⟨rfl, by first | assumption | exact Below.alloc (by assumption) (by omega) _⟩

set_option maxRecDepth 100000 in
set_option maxHeartbeats 2000000 in
theorem exactEntryOk_walk (s0 t0 : Int) (c1 : Int) (b1 : Bool) (i1 : Int) (w : World) :
    Calls Try.prog 4 #[.agg #[.int .i64 s0, .int .i64 t0], .agg #[.int .i64 c1, .bool b1, .int .i64 i1]] w fun e w' => e = .returned (.bool true) ∧ Below w.heap.size w w' := by
  have hB0 := ((Below.refl w.heap.size w).alloc (by first | exact Nat.le_refl _ | (simp; done) | (simp; omega)) (.cells #[.int .i64 s0, .int .i64 t0] 37)).alloc (by first | exact Nat.le_refl _ | (simp; done) | (simp; omega)) (.cells #[.int .i64 c1, .bool b1, .int .i64 i1] 38)
  have hz0 : w.heap.size + 2 ≤ ((w.alloc (.cells #[.int .i64 s0, .int .i64 t0] 37)).alloc (.cells #[.int .i64 c1, .bool b1, .int .i64 i1] 38)).heap.size := by simp
  obtain ⟨f00, f01, -, -⟩ := blk_two (blk_alloc (o' := (.cells #[.int .i64 c1, .bool b1, .int .i64 i1] 38)) (blk_new w (.cells #[.int .i64 s0, .int .i64 t0] 37)))
  have hh1 := blk_new (w.alloc (.cells #[.int .i64 s0, .int .i64 t0] 37)) (.cells #[.int .i64 c1, .bool b1, .int .i64 i1] 38)
  simp only [World.size_alloc] at hh1
  obtain ⟨f10, f11, f12, -, -, -⟩ := blk_three hh1
  clear hh1
  go_enter Try.func4, Try.ntmps4
  go_wp2_with fail
  go_region_held3 (fun w' => w'.cell? ⟨w.heap.size, 0, none⟩ = some (.int .i64 s0) ∧ w'.cell? ⟨w.heap.size, 1, none⟩ = some (.int .i64 t0) ∧ w'.cell? ⟨(w.heap.size + 1), 0, none⟩ = some (.int .i64 c1) ∧ w'.cell? ⟨(w.heap.size + 1), 1, none⟩ = some (.bool b1) ∧ w'.cell? ⟨(w.heap.size + 1), 2, none⟩ = some (.int .i64 i1) ∧ Below w.heap.size w w' ∧ w.heap.size + 2 ≤ w'.heap.size)
    (first
      | exact ⟨f00, f01, f10, f11, f12, hB0, hz0⟩
      | exact ⟨f00, f01, f10, f11, f12, hB0.drew, hz0⟩
      | ((try go_split_ands)
         have zz := hbx.size
         exact ⟨(hbx.cell (by first | omega | (simp; done) | (simp; omega))).trans (by assumption), (hbx.cell (by first | omega | (simp; done) | (simp; omega))).trans (by assumption), (hbx.cell (by first | omega | (simp; done) | (simp; omega))).trans (by assumption), (hbx.cell (by first | omega | (simp; done) | (simp; omega))).trans (by assumption), (hbx.cell (by first | omega | (simp; done) | (simp; omega))).trans (by assumption), Below.trans (by assumption) (hbx.mono (by first | omega | (simp; omega))), by first | omega | (simp at zz; omega)⟩))
    ((first
      | (go_at_call 20; (with_reducible refine (toEntry_any _ _ _ _).mono ?_); rintro e wx ⟨rfl, hbx⟩)
      | (go_at_call 19; (with_reducible refine (toPlan_any _ _ _).mono ?_); rintro e wx ⟨rfl, hbx⟩)
      | (go_at_call 16; (with_reducible refine (specEntryOk _ _ _ _ _ _).mono ?_); rintro e wx ⟨rfl, hbx⟩)))
  obtain ⟨wA, rfl⟩ : ∃ W, W = wx := ⟨_, rfl⟩
  obtain ⟨gf00, gf01, gf10, gf11, gf12, hB1, hz1⟩ : wA.cell? ⟨w.heap.size, 0, none⟩ = some (.int .i64 s0) ∧ wA.cell? ⟨w.heap.size, 1, none⟩ = some (.int .i64 t0) ∧ wA.cell? ⟨(w.heap.size + 1), 0, none⟩ = some (.int .i64 c1) ∧ wA.cell? ⟨(w.heap.size + 1), 1, none⟩ = some (.bool b1) ∧ wA.cell? ⟨(w.heap.size + 1), 2, none⟩ = some (.int .i64 i1) ∧ Below w.heap.size w wA ∧ w.heap.size + 2 ≤ wA.heap.size := by (try go_split_ands); exact ⟨by assumption, by assumption, by assumption, by assumption, by assumption, by assumption, by assumption⟩
  go_wp2_with fail
  go_region_held3 (fun w' => w'.cell? ⟨w.heap.size, 0, none⟩ = some (.int .i64 s0) ∧ w'.cell? ⟨w.heap.size, 1, none⟩ = some (.int .i64 t0) ∧ w'.cell? ⟨(w.heap.size + 1), 0, none⟩ = some (.int .i64 c1) ∧ w'.cell? ⟨(w.heap.size + 1), 1, none⟩ = some (.bool b1) ∧ w'.cell? ⟨(w.heap.size + 1), 2, none⟩ = some (.int .i64 i1) ∧ Below w.heap.size w w' ∧ w.heap.size + 2 ≤ w'.heap.size)
    (first
      | exact ⟨gf00, gf01, gf10, gf11, gf12, hB1, hz1⟩
      | exact ⟨gf00, gf01, gf10, gf11, gf12, hB1.drew, hz1⟩
      | ((try go_split_ands)
         have zz := hbx.size
         exact ⟨(hbx.cell (by first | omega | (simp; done) | (simp; omega))).trans (by assumption), (hbx.cell (by first | omega | (simp; done) | (simp; omega))).trans (by assumption), (hbx.cell (by first | omega | (simp; done) | (simp; omega))).trans (by assumption), (hbx.cell (by first | omega | (simp; done) | (simp; omega))).trans (by assumption), (hbx.cell (by first | omega | (simp; done) | (simp; omega))).trans (by assumption), Below.trans (by assumption) (hbx.mono (by first | omega | (simp; omega))), by first | omega | (simp at zz; omega)⟩))
    ((first
      | (go_at_call 20; (with_reducible refine (toEntry_any _ _ _ _).mono ?_); rintro e wx ⟨rfl, hbx⟩)
      | (go_at_call 19; (with_reducible refine (toPlan_any _ _ _).mono ?_); rintro e wx ⟨rfl, hbx⟩)
      | (go_at_call 15; (with_reducible refine (iEntryOk _ _ _ _ _ _).mono ?_); rintro e wx ⟨rfl, hbx⟩)))
  go_wp2
  go_ret
  (try go_split_ands)
  exact ⟨rfl, by assumption⟩

set_option maxRecDepth 100000 in
set_option maxHeartbeats 2000000 in
theorem exactWordOf_walk (s0 t0 : Int) (c1 : Int) (b1 : Bool) (i1 : Int) (w : World) :
    Calls Try.prog 5 #[.agg #[.int .i64 s0, .int .i64 t0], .agg #[.int .i64 c1, .bool b1, .int .i64 i1]] w fun e w' => e = .returned (.bool true) ∧ Below w.heap.size w w' := by
  have hB0 := ((Below.refl w.heap.size w).alloc (by first | exact Nat.le_refl _ | (simp; done) | (simp; omega)) (.cells #[.int .i64 s0, .int .i64 t0] 37)).alloc (by first | exact Nat.le_refl _ | (simp; done) | (simp; omega)) (.cells #[.int .i64 c1, .bool b1, .int .i64 i1] 38)
  have hz0 : w.heap.size + 2 ≤ ((w.alloc (.cells #[.int .i64 s0, .int .i64 t0] 37)).alloc (.cells #[.int .i64 c1, .bool b1, .int .i64 i1] 38)).heap.size := by simp
  obtain ⟨f00, f01, -, -⟩ := blk_two (blk_alloc (o' := (.cells #[.int .i64 c1, .bool b1, .int .i64 i1] 38)) (blk_new w (.cells #[.int .i64 s0, .int .i64 t0] 37)))
  have hh1 := blk_new (w.alloc (.cells #[.int .i64 s0, .int .i64 t0] 37)) (.cells #[.int .i64 c1, .bool b1, .int .i64 i1] 38)
  simp only [World.size_alloc] at hh1
  obtain ⟨f10, f11, f12, -, -, -⟩ := blk_three hh1
  clear hh1
  go_enter Try.func5, Try.ntmps5
  go_wp2_with fail
  go_region_held3 (fun w' => w'.cell? ⟨w.heap.size, 0, none⟩ = some (.int .i64 s0) ∧ w'.cell? ⟨w.heap.size, 1, none⟩ = some (.int .i64 t0) ∧ w'.cell? ⟨(w.heap.size + 1), 0, none⟩ = some (.int .i64 c1) ∧ w'.cell? ⟨(w.heap.size + 1), 1, none⟩ = some (.bool b1) ∧ w'.cell? ⟨(w.heap.size + 1), 2, none⟩ = some (.int .i64 i1) ∧ Below w.heap.size w w' ∧ w.heap.size + 2 ≤ w'.heap.size)
    (first
      | exact ⟨f00, f01, f10, f11, f12, hB0, hz0⟩
      | exact ⟨f00, f01, f10, f11, f12, hB0.drew, hz0⟩
      | ((try go_split_ands)
         have zz := hbx.size
         exact ⟨(hbx.cell (by first | omega | (simp; done) | (simp; omega))).trans (by assumption), (hbx.cell (by first | omega | (simp; done) | (simp; omega))).trans (by assumption), (hbx.cell (by first | omega | (simp; done) | (simp; omega))).trans (by assumption), (hbx.cell (by first | omega | (simp; done) | (simp; omega))).trans (by assumption), (hbx.cell (by first | omega | (simp; done) | (simp; omega))).trans (by assumption), Below.trans (by assumption) (hbx.mono (by first | omega | (simp; omega))), by first | omega | (simp at zz; omega)⟩))
    ((first
      | (go_at_call 20; (with_reducible refine (toEntry_any _ _ _ _).mono ?_); rintro e wx ⟨rfl, hbx⟩)
      | (go_at_call 19; (with_reducible refine (toPlan_any _ _ _).mono ?_); rintro e wx ⟨rfl, hbx⟩)
      | (go_at_call 14; (with_reducible refine (specWord _ _ _ _ _ _).mono ?_); rintro e wx ⟨rfl, hbx⟩)))
  obtain ⟨wA, rfl⟩ : ∃ W, W = wx := ⟨_, rfl⟩
  obtain ⟨gf00, gf01, gf10, gf11, gf12, hB1, hz1⟩ : wA.cell? ⟨w.heap.size, 0, none⟩ = some (.int .i64 s0) ∧ wA.cell? ⟨w.heap.size, 1, none⟩ = some (.int .i64 t0) ∧ wA.cell? ⟨(w.heap.size + 1), 0, none⟩ = some (.int .i64 c1) ∧ wA.cell? ⟨(w.heap.size + 1), 1, none⟩ = some (.bool b1) ∧ wA.cell? ⟨(w.heap.size + 1), 2, none⟩ = some (.int .i64 i1) ∧ Below w.heap.size w wA ∧ w.heap.size + 2 ≤ wA.heap.size := by (try go_split_ands); exact ⟨by assumption, by assumption, by assumption, by assumption, by assumption, by assumption, by assumption⟩
  go_wp2_with fail
  go_region_held3 (fun w' => w'.cell? ⟨w.heap.size, 0, none⟩ = some (.int .i64 s0) ∧ w'.cell? ⟨w.heap.size, 1, none⟩ = some (.int .i64 t0) ∧ w'.cell? ⟨(w.heap.size + 1), 0, none⟩ = some (.int .i64 c1) ∧ w'.cell? ⟨(w.heap.size + 1), 1, none⟩ = some (.bool b1) ∧ w'.cell? ⟨(w.heap.size + 1), 2, none⟩ = some (.int .i64 i1) ∧ Below w.heap.size w w' ∧ w.heap.size + 2 ≤ w'.heap.size)
    (first
      | exact ⟨gf00, gf01, gf10, gf11, gf12, hB1, hz1⟩
      | exact ⟨gf00, gf01, gf10, gf11, gf12, hB1.drew, hz1⟩
      | ((try go_split_ands)
         have zz := hbx.size
         exact ⟨(hbx.cell (by first | omega | (simp; done) | (simp; omega))).trans (by assumption), (hbx.cell (by first | omega | (simp; done) | (simp; omega))).trans (by assumption), (hbx.cell (by first | omega | (simp; done) | (simp; omega))).trans (by assumption), (hbx.cell (by first | omega | (simp; done) | (simp; omega))).trans (by assumption), (hbx.cell (by first | omega | (simp; done) | (simp; omega))).trans (by assumption), Below.trans (by assumption) (hbx.mono (by first | omega | (simp; omega))), by first | omega | (simp at zz; omega)⟩))
    ((first
      | (go_at_call 20; (with_reducible refine (toEntry_any _ _ _ _).mono ?_); rintro e wx ⟨rfl, hbx⟩)
      | (go_at_call 19; (with_reducible refine (toPlan_any _ _ _).mono ?_); rintro e wx ⟨rfl, hbx⟩)
      | (go_at_call 10; (with_reducible refine (iWord _ _ _ _ _ _).mono ?_); rintro e wx ⟨rfl, hbx⟩)))
  go_wp2
  go_ret
  (try go_split_ands)
  exact ⟨rfl, by assumption⟩

set_option maxHeartbeats 2000000 in
theorem exactEntryOf_walk (s0 t0 : Int) (n1 : Int) (hn : W64 n1) (w : World) :
    Calls Try.prog 6 #[.agg #[.int .i64 s0, .int .i64 t0], .int .i64 n1] w fun e w' => e = .returned (.bool true) ∧ Below w.heap.size w w' := by
  go_enter Try.func6, Try.ntmps6
  go_wp2_with fail
  refine (toPlan_any s0 t0 _).mono ?_
  rintro e w1 ⟨rfl, hb1⟩
  have P1 := Lib.hid (blk_below (blk_new w _) hb1 (by simp))
  have z1 := hb1.size
  simp at z1
  have HB1 := Lib.hid (((Below.refl w.heap.size w).alloc (Nat.le_refl _) _).trans (hb1.mono (by simp)))
  clear hb1
  go_wp2_with fail
  refine (specEntryOf s0 t0 n1 hn _).mono ?_
  rintro e w2 ⟨rfl, hb2⟩
  have P2 := Lib.hid (blk_below P1.out hb2 (by omega))
  have z2 := hb2.size
  have HB2 := Lib.hid (HB1.out.trans (hb2.mono (by omega)))
  clear hb2 HB1 P1
  obtain ⟨p0, p1, -, -⟩ := blk_two P2.out
  have y2 : w.heap.size < w2.heap.size := by omega
  go_wp2_with fail
  refine (toPlan_any s0 t0 _).mono ?_
  rintro e w3 ⟨rfl, hb3⟩
  have R3 := Lib.hid (blk_below (blk_new w2 _) hb3 (by simp))
  have z3 := hb3.size
  simp at z3
  have HB3 := Lib.hid ((HB2.out.alloc (by omega) _).trans (hb3.mono (by simp; omega)))
  clear hb3 HB2 P2 p0 p1
  go_wp2_with fail
  refine (iEntryOf s0 t0 n1 hn _).mono ?_
  rintro e w4 ⟨rfl, hb4⟩
  have R4 := Lib.hid (blk_below R3.out hb4 (by omega))
  have z4 := hb4.size
  have HB4 := Lib.hid (HB3.out.trans (hb4.mono (by omega)))
  clear hb4 HB3 R3
  obtain ⟨r0, r1, r2, -, -, -⟩ := blk_three R4.out
  have y4 : w2.heap.size < w4.heap.size := by omega
  go_wp2_with fail
  refine (eqEntry_same _ _ _ _).mono ?_
  rintro e w5 ⟨rfl, hb5⟩
  go_wp2
  go_ret
  exact ⟨rfl, (HB4.out.alloc (by omega) _).trans (hb5.mono (by simp; omega))⟩

set_option maxRecDepth 100000 in
theorem liftedFnExactNoneOf (os : Os) (started : os.Started) (H : Type) (enc : TypeId × Value → H) :
    ReturnsInHanded {} Try.checked os 7 .any (Rows.fnExactNoneOfSpec.pre6 enc Try.prog Try.f7 Rows.fnExactNoneOfRow.domain false) (Rows.fnExactNoneOfSpec.post enc Try.prog Try.f7 false true false false) := by
  refine returnsInHanded_of_change (C := Try.checked) own started (by kernel_rfl) Try.func7
    (ChangeSpec.witness6 (enc := enc) (C := Try.checked) false ⟨#[], #[.agg #[.int .i64 0, .int .i64 0]], []⟩ 8 (by kernel_rfl) (by kernel_rfl) (by kernel_rfl) (by kernel_rfl)) ?_
  intro W base args ds gs before hval0 hW hcnd _
  have hval : ∀ (j : Nat) t v, Try.f7.params[j]? = some t → args[j]? = some v → Value.okWide Try.prog W .any base t v := hval0
  have hW' := hW
  obtain ⟨p, q, hA0, hV, rfl, hfz, hnd⟩ := hW
  have hA : DataW.TrodAll enc Try.prog W 0 (fun _ => true) true Try.f7.params.toList args.toList ds p := hA0
  rw [Try.params7] at hA hval
  obtain ⟨v0, vs0, d0, ds0, p0, q0, h0args, rfl, rfl, h0, r0⟩ := trodAll_cons hA
  obtain ⟨rfl, rfl, rfl⟩ := trodAll_nil r0
  obtain rfl : args = #[v0] := by cases args; simp_all
  obtain ⟨rfl, rfl⟩ := trodVars_none hV
  have k0 := h0
  have lt0 : ∀ x ∈ p0, x.block < W.heap.size := by obtain ⟨m, hm⟩ := k0; exact DataW.trod_lt m _ _ _ hm
  obtain ⟨s0, t0, rfl, ws0, wt0⟩ : ∃ x y : Int, v0 = .agg #[.int .i64 x, .int .i64 y] ∧ W64 x ∧ W64 y := by
    obtain ⟨x0, x1, y0, y1, m, hv, hd, hp, hy0, hy1⟩ := open_agg2 Try.underlying37 (by kernel_rfl) (by kernel_rfl) (hval 0 37 v0 rfl rfl) h0
    obtain ⟨x, e0, _, wa⟩ := DataW.trod_int Try.underlying2 hy0
    obtain ⟨y, e1, _, wb⟩ := DataW.trod_int Try.underlying2 hy1
    simp at e0 e1
    subst e0 e1
    exact ⟨x, y, hv, w64_wf wa, w64_wf wb⟩
  clear hA0 hval0
  refine (exactNoneOf_walk s0 t0 W).mono fun e W' ⟨he, bel⟩ => ?_
  subst he
  exact ⟨_, rfl, _, _, _, [], _, [], hW', trodAll_mk1 (shut_bool Try.underlying4 _), (trodAll_cons_mk (Below.trod laidOut (by kernel_rfl) (of_decide_eq_true (by kernel_rfl)) k0 bel lt0) trodAll_mk0), rfl, bel.frame _, fun h => by cases h⟩

theorem exactNoneOf_proved : Rows.FnExactNoneOfSaid :=
  OpenClaim.holds_of_wide 7 Try.f7 rfl rfl rfl rfl rfl rfl rfl ⟨rfl, rfl, rfl, rfl, rfl⟩ rfl rfl rfl rfl rfl (by kernel_rfl) Try.func7 (by kernel_rfl)
    (of_decide_eq_true (by kernel_rfl)) (by unfold Func.isWrapper; first | (rw [if_pos (by decide +kernel)]; kernel_rfl) | (rw [if_neg (by decide +kernel)]; exact ⟨rfl, rfl⟩))
    (fun os started H enc _ => liftedFnExactNoneOf os started H enc)

set_option maxRecDepth 100000 in
theorem liftedFnExactEntryOk (os : Os) (started : os.Started) (H : Type) (enc : TypeId × Value → H) :
    ReturnsInHanded {} Try.checked os 4 .any (Rows.fnExactEntryOkSpec.pre6 enc Try.prog Try.f4 Rows.fnExactEntryOkRow.domain false) (Rows.fnExactEntryOkSpec.post enc Try.prog Try.f4 false true false false) := by
  refine returnsInHanded_of_change (C := Try.checked) own started (by kernel_rfl) Try.func4
    (ChangeSpec.witness6 (enc := enc) (C := Try.checked) false ⟨#[], #[.agg #[.int .i64 0, .int .i64 0], .agg #[.int .i64 0, .bool false, .int .i64 0]], []⟩ 8 (by kernel_rfl) (by kernel_rfl) (by kernel_rfl) (by kernel_rfl)) ?_
  intro W base args ds gs before hval0 hW hcnd _
  have hval : ∀ (j : Nat) t v, Try.f4.params[j]? = some t → args[j]? = some v → Value.okWide Try.prog W .any base t v := hval0
  have hW' := hW
  obtain ⟨p, q, hA0, hV, rfl, hfz, hnd⟩ := hW
  have hA : DataW.TrodAll enc Try.prog W 0 (fun _ => true) true Try.f4.params.toList args.toList ds p := hA0
  rw [Try.params4] at hA hval
  obtain ⟨v0, vs0, d0, ds0, p0, q0, h0args, rfl, rfl, h0, r0⟩ := trodAll_cons hA
  obtain ⟨v1, vs1, d1, ds1, p1, q1, h1args, rfl, rfl, h1, r1⟩ := trodAll_cons r0
  obtain ⟨rfl, rfl, rfl⟩ := trodAll_nil r1
  obtain rfl : args = #[v0, v1] := by cases args; simp_all
  obtain ⟨rfl, rfl⟩ := trodVars_none hV
  have k0 := h0
  have lt0 : ∀ x ∈ p0, x.block < W.heap.size := by obtain ⟨m, hm⟩ := k0; exact DataW.trod_lt m _ _ _ hm
  obtain ⟨s0, t0, rfl, ws0, wt0⟩ : ∃ x y : Int, v0 = .agg #[.int .i64 x, .int .i64 y] ∧ W64 x ∧ W64 y := by
    obtain ⟨x0, x1, y0, y1, m, hv, hd, hp, hy0, hy1⟩ := open_agg2 Try.underlying37 (by kernel_rfl) (by kernel_rfl) (hval 0 37 v0 rfl rfl) h0
    obtain ⟨x, e0, _, wa⟩ := DataW.trod_int Try.underlying2 hy0
    obtain ⟨y, e1, _, wb⟩ := DataW.trod_int Try.underlying2 hy1
    simp at e0 e1
    subst e0 e1
    exact ⟨x, y, hv, w64_wf wa, w64_wf wb⟩
  have k1 := h1
  have lt1 : ∀ x ∈ p1, x.block < W.heap.size := by obtain ⟨m, hm⟩ := k1; exact DataW.trod_lt m _ _ _ hm
  obtain ⟨c1, b1, i1, rfl, wc1, wi1⟩ : ∃ (x : Int) (z : Bool) (y : Int), v1 = .agg #[.int .i64 x, .bool z, .int .i64 y] ∧ W64 x ∧ W64 y := by
    obtain ⟨x0, x1, x2, y0, y1, y2, m, hv, hd, hp, hy0, hy1, hy2⟩ := open_agg3 Try.underlying38 (by kernel_rfl) (by kernel_rfl) (hval 1 38 v1 rfl rfl) h1
    obtain ⟨x, e0, _, wa⟩ := DataW.trod_int Try.underlying2 hy0
    obtain ⟨z, e1, _⟩ := DataW.trod_bool Try.underlying4 hy1
    obtain ⟨y, e2, _, wb⟩ := DataW.trod_int Try.underlying2 hy2
    simp at e0 e1 e2
    subst e0 e1 e2
    exact ⟨x, z, y, hv, w64_wf wa, w64_wf wb⟩
  clear hA0 hval0
  refine (exactEntryOk_walk s0 t0 c1 b1 i1 W).mono fun e W' ⟨he, bel⟩ => ?_
  subst he
  exact ⟨_, rfl, _, _, _, [], _, [], hW', trodAll_mk1 (shut_bool Try.underlying4 _), (trodAll_cons_mk (Below.trod laidOut (by kernel_rfl) (of_decide_eq_true (by kernel_rfl)) k0 bel lt0) (trodAll_cons_mk (Below.trod laidOut (by kernel_rfl) (of_decide_eq_true (by kernel_rfl)) k1 bel lt1) trodAll_mk0)), rfl, bel.frame _, fun h => by cases h⟩

theorem exactEntryOk_proved : Rows.FnExactEntryOkSaid :=
  OpenClaim.holds_of_wide 4 Try.f4 rfl rfl rfl rfl rfl rfl rfl ⟨rfl, rfl, rfl, rfl, rfl⟩ rfl rfl rfl rfl rfl (by kernel_rfl) Try.func4 (by kernel_rfl)
    (of_decide_eq_true (by kernel_rfl)) (by unfold Func.isWrapper; first | (rw [if_pos (by decide +kernel)]; kernel_rfl) | (rw [if_neg (by decide +kernel)]; exact ⟨rfl, rfl⟩))
    (fun os started H enc _ => liftedFnExactEntryOk os started H enc)

set_option maxRecDepth 100000 in
theorem liftedFnExactWordOf (os : Os) (started : os.Started) (H : Type) (enc : TypeId × Value → H) :
    ReturnsInHanded {} Try.checked os 5 .any (Rows.fnExactWordOfSpec.pre6 enc Try.prog Try.f5 Rows.fnExactWordOfRow.domain false) (Rows.fnExactWordOfSpec.post enc Try.prog Try.f5 false true false false) := by
  refine returnsInHanded_of_change (C := Try.checked) own started (by kernel_rfl) Try.func5
    (ChangeSpec.witness6 (enc := enc) (C := Try.checked) false ⟨#[], #[.agg #[.int .i64 0, .int .i64 0], .agg #[.int .i64 0, .bool false, .int .i64 0]], []⟩ 8 (by kernel_rfl) (by kernel_rfl) (by kernel_rfl) (by kernel_rfl)) ?_
  intro W base args ds gs before hval0 hW hcnd _
  have hval : ∀ (j : Nat) t v, Try.f5.params[j]? = some t → args[j]? = some v → Value.okWide Try.prog W .any base t v := hval0
  have hW' := hW
  obtain ⟨p, q, hA0, hV, rfl, hfz, hnd⟩ := hW
  have hA : DataW.TrodAll enc Try.prog W 0 (fun _ => true) true Try.f5.params.toList args.toList ds p := hA0
  rw [Try.params5] at hA hval
  obtain ⟨v0, vs0, d0, ds0, p0, q0, h0args, rfl, rfl, h0, r0⟩ := trodAll_cons hA
  obtain ⟨v1, vs1, d1, ds1, p1, q1, h1args, rfl, rfl, h1, r1⟩ := trodAll_cons r0
  obtain ⟨rfl, rfl, rfl⟩ := trodAll_nil r1
  obtain rfl : args = #[v0, v1] := by cases args; simp_all
  obtain ⟨rfl, rfl⟩ := trodVars_none hV
  have k0 := h0
  have lt0 : ∀ x ∈ p0, x.block < W.heap.size := by obtain ⟨m, hm⟩ := k0; exact DataW.trod_lt m _ _ _ hm
  obtain ⟨s0, t0, rfl, ws0, wt0⟩ : ∃ x y : Int, v0 = .agg #[.int .i64 x, .int .i64 y] ∧ W64 x ∧ W64 y := by
    obtain ⟨x0, x1, y0, y1, m, hv, hd, hp, hy0, hy1⟩ := open_agg2 Try.underlying37 (by kernel_rfl) (by kernel_rfl) (hval 0 37 v0 rfl rfl) h0
    obtain ⟨x, e0, _, wa⟩ := DataW.trod_int Try.underlying2 hy0
    obtain ⟨y, e1, _, wb⟩ := DataW.trod_int Try.underlying2 hy1
    simp at e0 e1
    subst e0 e1
    exact ⟨x, y, hv, w64_wf wa, w64_wf wb⟩
  have k1 := h1
  have lt1 : ∀ x ∈ p1, x.block < W.heap.size := by obtain ⟨m, hm⟩ := k1; exact DataW.trod_lt m _ _ _ hm
  obtain ⟨c1, b1, i1, rfl, wc1, wi1⟩ : ∃ (x : Int) (z : Bool) (y : Int), v1 = .agg #[.int .i64 x, .bool z, .int .i64 y] ∧ W64 x ∧ W64 y := by
    obtain ⟨x0, x1, x2, y0, y1, y2, m, hv, hd, hp, hy0, hy1, hy2⟩ := open_agg3 Try.underlying38 (by kernel_rfl) (by kernel_rfl) (hval 1 38 v1 rfl rfl) h1
    obtain ⟨x, e0, _, wa⟩ := DataW.trod_int Try.underlying2 hy0
    obtain ⟨z, e1, _⟩ := DataW.trod_bool Try.underlying4 hy1
    obtain ⟨y, e2, _, wb⟩ := DataW.trod_int Try.underlying2 hy2
    simp at e0 e1 e2
    subst e0 e1 e2
    exact ⟨x, z, y, hv, w64_wf wa, w64_wf wb⟩
  clear hA0 hval0
  refine (exactWordOf_walk s0 t0 c1 b1 i1 W).mono fun e W' ⟨he, bel⟩ => ?_
  subst he
  exact ⟨_, rfl, _, _, _, [], _, [], hW', trodAll_mk1 (shut_bool Try.underlying4 _), (trodAll_cons_mk (Below.trod laidOut (by kernel_rfl) (of_decide_eq_true (by kernel_rfl)) k0 bel lt0) (trodAll_cons_mk (Below.trod laidOut (by kernel_rfl) (of_decide_eq_true (by kernel_rfl)) k1 bel lt1) trodAll_mk0)), rfl, bel.frame _, fun h => by cases h⟩

theorem exactWordOf_proved : Rows.FnExactWordOfSaid :=
  OpenClaim.holds_of_wide 5 Try.f5 rfl rfl rfl rfl rfl rfl rfl ⟨rfl, rfl, rfl, rfl, rfl⟩ rfl rfl rfl rfl rfl (by kernel_rfl) Try.func5 (by kernel_rfl)
    (of_decide_eq_true (by kernel_rfl)) (by unfold Func.isWrapper; first | (rw [if_pos (by decide +kernel)]; kernel_rfl) | (rw [if_neg (by decide +kernel)]; exact ⟨rfl, rfl⟩))
    (fun os started H enc _ => liftedFnExactWordOf os started H enc)

set_option maxRecDepth 100000 in
theorem liftedFnExactEntryOf (os : Os) (started : os.Started) (H : Type) (enc : TypeId × Value → H) :
    ReturnsInHanded {} Try.checked os 6 .any (Rows.fnExactEntryOfSpec.pre6 enc Try.prog Try.f6 Rows.fnExactEntryOfRow.domain false) (Rows.fnExactEntryOfSpec.post enc Try.prog Try.f6 false true false false) := by
  refine returnsInHanded_of_change (C := Try.checked) own started (by kernel_rfl) Try.func6
    (ChangeSpec.witness6 (enc := enc) (C := Try.checked) false ⟨#[], #[.agg #[.int .i64 0, .int .i64 0], .int .i64 0], []⟩ 8 (by kernel_rfl) (by kernel_rfl) (by kernel_rfl) (by kernel_rfl)) ?_
  intro W base args ds gs before hval0 hW hcnd _
  have hval : ∀ (j : Nat) t v, Try.f6.params[j]? = some t → args[j]? = some v → Value.okWide Try.prog W .any base t v := hval0
  have hW' := hW
  obtain ⟨p, q, hA0, hV, rfl, hfz, hnd⟩ := hW
  have hA : DataW.TrodAll enc Try.prog W 0 (fun _ => true) true Try.f6.params.toList args.toList ds p := hA0
  rw [Try.params6] at hA hval
  obtain ⟨v0, vs0, d0, ds0, p0, q0, h0args, rfl, rfl, h0, r0⟩ := trodAll_cons hA
  obtain ⟨v1, vs1, d1, ds1, p1, q1, h1args, rfl, rfl, h1, r1⟩ := trodAll_cons r0
  obtain ⟨rfl, rfl, rfl⟩ := trodAll_nil r1
  obtain rfl : args = #[v0, v1] := by cases args; simp_all
  obtain ⟨rfl, rfl⟩ := trodVars_none hV
  have k0 := h0
  have lt0 : ∀ x ∈ p0, x.block < W.heap.size := by obtain ⟨m, hm⟩ := k0; exact DataW.trod_lt m _ _ _ hm
  obtain ⟨s0, t0, rfl, ws0, wt0⟩ : ∃ x y : Int, v0 = .agg #[.int .i64 x, .int .i64 y] ∧ W64 x ∧ W64 y := by
    obtain ⟨x0, x1, y0, y1, m, hv, hd, hp, hy0, hy1⟩ := open_agg2 Try.underlying37 (by kernel_rfl) (by kernel_rfl) (hval 0 37 v0 rfl rfl) h0
    obtain ⟨x, e0, _, wa⟩ := DataW.trod_int Try.underlying2 hy0
    obtain ⟨y, e1, _, wb⟩ := DataW.trod_int Try.underlying2 hy1
    simp at e0 e1
    subst e0 e1
    exact ⟨x, y, hv, w64_wf wa, w64_wf wb⟩
  have k1 := h1
  have lt1 : ∀ x ∈ p1, x.block < W.heap.size := by obtain ⟨m, hm⟩ := k1; exact DataW.trod_lt m _ _ _ hm
  obtain ⟨n1, rfl, wn1⟩ : ∃ x : Int, v1 = .int .i64 x ∧ W64 x := by
    obtain ⟨x, e1, _, _, wx⟩ := open_int Try.underlying2 (hval 1 2 v1 rfl rfl) h1
    exact ⟨x, e1, w64_wf wx⟩
  clear hA0 hval0
  refine (exactEntryOf_walk s0 t0 n1 wn1 W).mono fun e W' ⟨he, bel⟩ => ?_
  subst he
  exact ⟨_, rfl, _, _, _, [], _, [], hW', trodAll_mk1 (shut_bool Try.underlying4 _), (trodAll_cons_mk (Below.trod laidOut (by kernel_rfl) (of_decide_eq_true (by kernel_rfl)) k0 bel lt0) (trodAll_cons_mk (Below.trod laidOut (by kernel_rfl) (of_decide_eq_true (by kernel_rfl)) k1 bel lt1) trodAll_mk0)), rfl, bel.frame _, fun h => by cases h⟩

theorem exactEntryOf_proved : Rows.FnExactEntryOfSaid :=
  OpenClaim.holds_of_wide 6 Try.f6 rfl rfl rfl rfl rfl rfl rfl ⟨rfl, rfl, rfl, rfl, rfl⟩ rfl rfl rfl rfl rfl (by kernel_rfl) Try.func6 (by kernel_rfl)
    (of_decide_eq_true (by kernel_rfl)) (by unfold Func.isWrapper; first | (rw [if_pos (by decide +kernel)]; kernel_rfl) | (rw [if_neg (by decide +kernel)]; exact ⟨rfl, rfl⟩))
    (fun os started H enc _ => liftedFnExactEntryOf os started H enc)

end Go.Proofs.Ytakbkdeeablpjaa
