/- FnExactCallOk, FnExactHandOk, FnExactResting: whatever comes in, the program's function answers as its model: no condition. -/
import Derived.Test.YtapimkljpfoopaaL8
import Derived.Test.YtapimkljpfoopaaI8
import Derived.Test.YtapimkljpfoopaaHandRow
import Derived.Deep.RegionHeld3
import Derived.Deep.DeepCutAuto
namespace Go.Proofs.Ytapimkljpfoopaa
open Go.ChangeShapes Go.WideShapes Go.ChangeAt Go.RowKit Go.Joins

theorem exactCallOk_walk (k v : Int) (w : World) :
    Calls Try.prog 3 #[.agg #[.int .i64 k, .int .i64 v]] w fun e w' => e = .returned (.bool true) ∧ Below w.heap.size w w' := by
  have HQ := Lib.hid ((Hold.start w).new (.cells #[.int .i64 k, .int .i64 v] 23))
  have nq : (callB k v != callB k v) = false := by simp
  go_enter Try.func3, Try.ntmps3
  go_wp2_with fail
  refine (toCall_any k v _).mono ?_
  rintro e w1 ⟨rfl, hb1⟩
  have HQ1 := Lib.hid (HQ.out.step hb1)
  clear hb1 HQ
  go_wp2_with fail
  refine (specCallOk k v _).mono ?_
  rintro e w2 ⟨rfl, hb2⟩
  have HQ2 := Lib.hid (HQ1.out.step hb2)
  clear hb2 HQ1
  obtain ⟨q0, q1, -, -⟩ := blk_two HQ2.out.hd
  go_wp2_with fail
  refine (toCall_any k v _).mono ?_
  rintro e w3 ⟨rfl, hb3⟩
  have HQ3 := Lib.hid (HQ2.out.step hb3)
  clear hb3 HQ2 q0 q1
  go_wp2_with fail
  refine (iCallOk k v _).mono ?_
  rintro e w4 ⟨rfl, hb4⟩
  go_wp2
  go_ret
  exact ⟨rfl, (HQ3.out.step hb4).below⟩

set_option maxRecDepth 100000 in
theorem liftedFnExactCallOk (os : Os) (started : os.Started) (H : Type) (enc : TypeId × Value → H) :
    ReturnsInHanded {} Try.checked os 3 .any (Rows.fnExactCallOkSpec.pre6 enc Try.prog Try.f3 Rows.fnExactCallOkRow.domain false) (Rows.fnExactCallOkSpec.post enc Try.prog Try.f3 false true false false) := by
  refine returnsInHanded_of_change (C := Try.checked) own started (by kernel_rfl) Try.func3
    (ChangeSpec.witness6 (enc := enc) (C := Try.checked) false ⟨#[], #[.agg #[.int .i64 0, .int .i64 0]], []⟩ 8 (by kernel_rfl) (by kernel_rfl) (by kernel_rfl) (by kernel_rfl)) ?_
  intro W base args ds gs before hval0 hW hcnd _
  have hval : ∀ (j : Nat) t v, Try.f3.params[j]? = some t → args[j]? = some v → Value.okWide Try.prog W .any base t v := hval0
  have hW' := hW
  obtain ⟨p, q, hA0, hV, rfl, hfz, hnd⟩ := hW
  have hA : DataW.TrodAll enc Try.prog W 0 (fun _ => true) true Try.f3.params.toList args.toList ds p := hA0
  rw [Try.params3] at hA hval
  obtain ⟨v0, vs0, d0, ds0, p0, q0, h0args, rfl, rfl, h0, r0⟩ := trodAll_cons hA
  obtain ⟨rfl, rfl, rfl⟩ := trodAll_nil r0
  obtain rfl : args = #[v0] := by cases args; simp_all
  obtain ⟨rfl, rfl⟩ := trodVars_none hV
  have k0 := h0
  have lt0 : ∀ x ∈ p0, x.block < W.heap.size := by obtain ⟨m, hm⟩ := k0; exact DataW.trod_lt m _ _ _ hm
  obtain ⟨kc0, vc0, rfl, wk0, wv0⟩ := call_of (hval 0 23 v0 rfl rfl) h0
  clear hA0 hval0
  refine (exactCallOk_walk kc0 vc0 W).mono fun e W' ⟨he, bel⟩ => ?_
  subst he
  exact ⟨_, rfl, _, _, _, [], _, [], hW', trodAll_mk1 (shut_bool Try.underlying4 _), (trodAll_cons_mk (Below.trod laidOut (by kernel_rfl) (of_decide_eq_true (by kernel_rfl)) k0 bel lt0) trodAll_mk0), rfl, bel.frame _, fun h => by cases h⟩

theorem exactCallOk_proved : Rows.FnExactCallOkSaid :=
  OpenClaim.holds_of_wide 3 Try.f3 rfl rfl rfl rfl rfl rfl rfl ⟨rfl, rfl, rfl, rfl, rfl⟩ rfl rfl rfl rfl rfl (by kernel_rfl) Try.func3 (by kernel_rfl)
    (of_decide_eq_true (by kernel_rfl)) (by unfold Func.isWrapper; first | (rw [if_pos (by decide +kernel)]; kernel_rfl) | (rw [if_neg (by decide +kernel)]; exact ⟨rfl, rfl⟩))
    (fun os started H enc _ => liftedFnExactCallOk os started H enc)

set_option maxRecDepth 100000 in
set_option maxHeartbeats 4000000 in
theorem exactHandOk_walk (s0 t0 : Int) (h : Hd) (w : World) :
    Calls Try.prog 4 #[.agg #[.int .i64 s0, .int .i64 t0], .agg #[.int .i64 h.at_, .int .i64 h.code, .int .i64 h.val, .int .i64 h.ring, .int .i64 h.tick, .int .i64 h.word, .int .i64 h.tail, .int .i64 h.head, .int .i64 h.index, .int .i64 h.begin_, .int .i64 h.reply, .int .i64 h.out]] w fun e w' => e = .returned (.bool true) ∧ Below w.heap.size w w' := by
  have HQ := Lib.hid (((Hold.start w).new (.cells #[.int .i64 s0, .int .i64 t0] 29)).new (.cells #[.int .i64 h.at_, .int .i64 h.code, .int .i64 h.val, .int .i64 h.ring, .int .i64 h.tick, .int .i64 h.word, .int .i64 h.tail, .int .i64 h.head, .int .i64 h.index, .int .i64 h.begin_, .int .i64 h.reply, .int .i64 h.out] 31))
  simp only [World.size_alloc] at HQ
  have nq : (handB s0 t0 h != handB s0 t0 h) = false := by simp
  go_enter Try.func4, Try.ntmps4
  go_upto_region 1 with fail
  go_cut [5] (fun s1 wx => s1 = .bool (handB s0 t0 h) ∧ Hold w.heap.size (w.heap.size + 1 + 1) [(w.heap.size + 1, .cells #[.int .i64 h.at_, .int .i64 h.code, .int .i64 h.val, .int .i64 h.ring, .int .i64 h.tick, .int .i64 h.word, .int .i64 h.tail, .int .i64 h.head, .int .i64 h.index, .int .i64 h.begin_, .int .i64 h.reply, .int .i64 h.out] 31), (w.heap.size, .cells #[.int .i64 s0, .int .i64 t0] 29)] [] w wx)
  case first =>
    as_aux_lemma =>
      have hF : ∀ {w' : World}, Hold w.heap.size (w.heap.size + 1 + 1) [(w.heap.size + 1, .cells #[.int .i64 h.at_, .int .i64 h.code, .int .i64 h.val, .int .i64 h.ring, .int .i64 h.tick, .int .i64 h.word, .int .i64 h.tail, .int .i64 h.head, .int .i64 h.index, .int .i64 h.begin_, .int .i64 h.reply, .int .i64 h.out] 31), (w.heap.size, .cells #[.int .i64 s0, .int .i64 t0] 29)] [] w w' → w'.cell? ⟨w.heap.size + 1, 0, none⟩ = some (.int .i64 h.at_) ∧ w'.cell? ⟨w.heap.size + 1, 1, none⟩ = some (.int .i64 h.code) ∧ w'.cell? ⟨w.heap.size + 1, 2, none⟩ = some (.int .i64 h.val) ∧ w'.cell? ⟨w.heap.size + 1, 3, none⟩ = some (.int .i64 h.ring) ∧ w'.cell? ⟨w.heap.size + 1, 4, none⟩ = some (.int .i64 h.tick) ∧ w'.cell? ⟨w.heap.size + 1, 5, none⟩ = some (.int .i64 h.word) ∧ w'.cell? ⟨w.heap.size + 1, 6, none⟩ = some (.int .i64 h.tail) ∧ w'.cell? ⟨w.heap.size + 1, 7, none⟩ = some (.int .i64 h.head) ∧ w'.cell? ⟨w.heap.size + 1, 8, none⟩ = some (.int .i64 h.index) ∧ w'.cell? ⟨w.heap.size + 1, 9, none⟩ = some (.int .i64 h.begin_) ∧ w'.cell? ⟨w.heap.size + 1, 10, none⟩ = some (.int .i64 h.reply) ∧ w'.cell? ⟨w.heap.size + 1, 11, none⟩ = some (.int .i64 h.out) ∧ w'.cell? ⟨w.heap.size, 0, none⟩ = some (.int .i64 s0) ∧ w'.cell? ⟨w.heap.size, 1, none⟩ = some (.int .i64 t0) ∧ Hold w.heap.size (w.heap.size + 1 + 1) [(w.heap.size + 1, .cells #[.int .i64 h.at_, .int .i64 h.code, .int .i64 h.val, .int .i64 h.ring, .int .i64 h.tick, .int .i64 h.word, .int .i64 h.tail, .int .i64 h.head, .int .i64 h.index, .int .i64 h.begin_, .int .i64 h.reply, .int .i64 h.out] 31), (w.heap.size, .cells #[.int .i64 s0, .int .i64 t0] 29)] [] w w' := fun h => ⟨blk_is h.hd (by rfl), blk_is h.hd (by rfl), blk_is h.hd (by rfl), blk_is h.hd (by rfl), blk_is h.hd (by rfl), blk_is h.hd (by rfl), blk_is h.hd (by rfl), blk_is h.hd (by rfl), blk_is h.hd (by rfl), blk_is h.hd (by rfl), blk_is h.hd (by rfl), blk_is h.hd (by rfl), blk_is h.tl.hd (by rfl), blk_is h.tl.hd (by rfl), h⟩
      go_region_held3 (fun w' => w'.cell? ⟨w.heap.size + 1, 0, none⟩ = some (.int .i64 h.at_) ∧ w'.cell? ⟨w.heap.size + 1, 1, none⟩ = some (.int .i64 h.code) ∧ w'.cell? ⟨w.heap.size + 1, 2, none⟩ = some (.int .i64 h.val) ∧ w'.cell? ⟨w.heap.size + 1, 3, none⟩ = some (.int .i64 h.ring) ∧ w'.cell? ⟨w.heap.size + 1, 4, none⟩ = some (.int .i64 h.tick) ∧ w'.cell? ⟨w.heap.size + 1, 5, none⟩ = some (.int .i64 h.word) ∧ w'.cell? ⟨w.heap.size + 1, 6, none⟩ = some (.int .i64 h.tail) ∧ w'.cell? ⟨w.heap.size + 1, 7, none⟩ = some (.int .i64 h.head) ∧ w'.cell? ⟨w.heap.size + 1, 8, none⟩ = some (.int .i64 h.index) ∧ w'.cell? ⟨w.heap.size + 1, 9, none⟩ = some (.int .i64 h.begin_) ∧ w'.cell? ⟨w.heap.size + 1, 10, none⟩ = some (.int .i64 h.reply) ∧ w'.cell? ⟨w.heap.size + 1, 11, none⟩ = some (.int .i64 h.out) ∧ w'.cell? ⟨w.heap.size, 0, none⟩ = some (.int .i64 s0) ∧ w'.cell? ⟨w.heap.size, 1, none⟩ = some (.int .i64 t0) ∧ Hold w.heap.size (w.heap.size + 1 + 1) [(w.heap.size + 1, .cells #[.int .i64 h.at_, .int .i64 h.code, .int .i64 h.val, .int .i64 h.ring, .int .i64 h.tick, .int .i64 h.word, .int .i64 h.tail, .int .i64 h.head, .int .i64 h.index, .int .i64 h.begin_, .int .i64 h.reply, .int .i64 h.out] 31), (w.heap.size, .cells #[.int .i64 s0, .int .i64 t0] 29)] [] w w')
        (with_reducible refine hF ?_; repeat' (first | with_reducible exact HQ.out | with_reducible exact htc | with_reducible refine Hold.drew ?_ | with_reducible refine Hold.alloc ?_ _))
        ((first
          | (go_at_call 10; (try go_split_ands); (with_reducible refine (toPlan_any _ _ _).mono ?_); rintro e wx ⟨rfl, hbx⟩; have htc := Hold.step (by assumption) hbx)
          | (go_at_call 11; (try go_split_ands); (with_reducible refine (toHand_any h _).mono ?_); rintro e wx ⟨rfl, hbx⟩; have htc := Hold.step (by assumption) hbx)
          | (go_at_call 9; (try go_split_ands); (with_reducible refine (specHandOk s0 t0 h _).mono ?_); rintro e wx ⟨rfl, hbx⟩; have htc := Hold.step (by assumption) hbx)))
      all_goals
        go_wp2_with fail
        go_meet
        (try go_split_ands)
        exact ⟨rfl, by assumption⟩
  case rest =>
    obtain ⟨rfl, hk⟩ := hcut
    have HQ1 := Lib.hid hk
    clear hk HQ
    go_upto_region 2 with fail
    go_cut [6] (fun s1 wx => s1 = .bool (handB s0 t0 h) ∧ Hold w.heap.size (w.heap.size + 1 + 1) [(w.heap.size + 1, .cells #[.int .i64 h.at_, .int .i64 h.code, .int .i64 h.val, .int .i64 h.ring, .int .i64 h.tick, .int .i64 h.word, .int .i64 h.tail, .int .i64 h.head, .int .i64 h.index, .int .i64 h.begin_, .int .i64 h.reply, .int .i64 h.out] 31), (w.heap.size, .cells #[.int .i64 s0, .int .i64 t0] 29)] [] w wx)
    case first =>
      as_aux_lemma =>
        have hF : ∀ {w' : World}, Hold w.heap.size (w.heap.size + 1 + 1) [(w.heap.size + 1, .cells #[.int .i64 h.at_, .int .i64 h.code, .int .i64 h.val, .int .i64 h.ring, .int .i64 h.tick, .int .i64 h.word, .int .i64 h.tail, .int .i64 h.head, .int .i64 h.index, .int .i64 h.begin_, .int .i64 h.reply, .int .i64 h.out] 31), (w.heap.size, .cells #[.int .i64 s0, .int .i64 t0] 29)] [] w w' → w'.cell? ⟨w.heap.size + 1, 0, none⟩ = some (.int .i64 h.at_) ∧ w'.cell? ⟨w.heap.size + 1, 1, none⟩ = some (.int .i64 h.code) ∧ w'.cell? ⟨w.heap.size + 1, 2, none⟩ = some (.int .i64 h.val) ∧ w'.cell? ⟨w.heap.size + 1, 3, none⟩ = some (.int .i64 h.ring) ∧ w'.cell? ⟨w.heap.size + 1, 4, none⟩ = some (.int .i64 h.tick) ∧ w'.cell? ⟨w.heap.size + 1, 5, none⟩ = some (.int .i64 h.word) ∧ w'.cell? ⟨w.heap.size + 1, 6, none⟩ = some (.int .i64 h.tail) ∧ w'.cell? ⟨w.heap.size + 1, 7, none⟩ = some (.int .i64 h.head) ∧ w'.cell? ⟨w.heap.size + 1, 8, none⟩ = some (.int .i64 h.index) ∧ w'.cell? ⟨w.heap.size + 1, 9, none⟩ = some (.int .i64 h.begin_) ∧ w'.cell? ⟨w.heap.size + 1, 10, none⟩ = some (.int .i64 h.reply) ∧ w'.cell? ⟨w.heap.size + 1, 11, none⟩ = some (.int .i64 h.out) ∧ w'.cell? ⟨w.heap.size, 0, none⟩ = some (.int .i64 s0) ∧ w'.cell? ⟨w.heap.size, 1, none⟩ = some (.int .i64 t0) ∧ Hold w.heap.size (w.heap.size + 1 + 1) [(w.heap.size + 1, .cells #[.int .i64 h.at_, .int .i64 h.code, .int .i64 h.val, .int .i64 h.ring, .int .i64 h.tick, .int .i64 h.word, .int .i64 h.tail, .int .i64 h.head, .int .i64 h.index, .int .i64 h.begin_, .int .i64 h.reply, .int .i64 h.out] 31), (w.heap.size, .cells #[.int .i64 s0, .int .i64 t0] 29)] [] w w' := fun h => ⟨blk_is h.hd (by rfl), blk_is h.hd (by rfl), blk_is h.hd (by rfl), blk_is h.hd (by rfl), blk_is h.hd (by rfl), blk_is h.hd (by rfl), blk_is h.hd (by rfl), blk_is h.hd (by rfl), blk_is h.hd (by rfl), blk_is h.hd (by rfl), blk_is h.hd (by rfl), blk_is h.hd (by rfl), blk_is h.tl.hd (by rfl), blk_is h.tl.hd (by rfl), h⟩
        go_region_held3 (fun w' => w'.cell? ⟨w.heap.size + 1, 0, none⟩ = some (.int .i64 h.at_) ∧ w'.cell? ⟨w.heap.size + 1, 1, none⟩ = some (.int .i64 h.code) ∧ w'.cell? ⟨w.heap.size + 1, 2, none⟩ = some (.int .i64 h.val) ∧ w'.cell? ⟨w.heap.size + 1, 3, none⟩ = some (.int .i64 h.ring) ∧ w'.cell? ⟨w.heap.size + 1, 4, none⟩ = some (.int .i64 h.tick) ∧ w'.cell? ⟨w.heap.size + 1, 5, none⟩ = some (.int .i64 h.word) ∧ w'.cell? ⟨w.heap.size + 1, 6, none⟩ = some (.int .i64 h.tail) ∧ w'.cell? ⟨w.heap.size + 1, 7, none⟩ = some (.int .i64 h.head) ∧ w'.cell? ⟨w.heap.size + 1, 8, none⟩ = some (.int .i64 h.index) ∧ w'.cell? ⟨w.heap.size + 1, 9, none⟩ = some (.int .i64 h.begin_) ∧ w'.cell? ⟨w.heap.size + 1, 10, none⟩ = some (.int .i64 h.reply) ∧ w'.cell? ⟨w.heap.size + 1, 11, none⟩ = some (.int .i64 h.out) ∧ w'.cell? ⟨w.heap.size, 0, none⟩ = some (.int .i64 s0) ∧ w'.cell? ⟨w.heap.size, 1, none⟩ = some (.int .i64 t0) ∧ Hold w.heap.size (w.heap.size + 1 + 1) [(w.heap.size + 1, .cells #[.int .i64 h.at_, .int .i64 h.code, .int .i64 h.val, .int .i64 h.ring, .int .i64 h.tick, .int .i64 h.word, .int .i64 h.tail, .int .i64 h.head, .int .i64 h.index, .int .i64 h.begin_, .int .i64 h.reply, .int .i64 h.out] 31), (w.heap.size, .cells #[.int .i64 s0, .int .i64 t0] 29)] [] w w')
          (with_reducible refine hF ?_; repeat' (first | with_reducible exact HQ1.out | with_reducible exact htc | with_reducible refine Hold.drew ?_ | with_reducible refine Hold.alloc ?_ _))
          ((first
            | (go_at_call 10; (try go_split_ands); (with_reducible refine (toPlan_any _ _ _).mono ?_); rintro e wx ⟨rfl, hbx⟩; have htc := Hold.step (by assumption) hbx)
            | (go_at_call 11; (try go_split_ands); (with_reducible refine (toHand_any h _).mono ?_); rintro e wx ⟨rfl, hbx⟩; have htc := Hold.step (by assumption) hbx)
            | (go_at_call 12; (try go_split_ands); (with_reducible refine (iHandOk s0 t0 h _).mono ?_); rintro e wx ⟨rfl, hbx⟩; have htc := Hold.step (by assumption) hbx)))
        all_goals
          go_wp2_with fail
          go_meet
          (try go_split_ands)
          exact ⟨rfl, by assumption⟩
    case rest =>
      obtain ⟨rfl, hk⟩ := hcut
      go_wp2
      go_ret
      exact ⟨rfl, hk.below⟩

set_option maxRecDepth 100000 in
theorem liftedFnExactHandOk (os : Os) (started : os.Started) (H : Type) (enc : TypeId × Value → H) :
    ReturnsInHanded {} Try.checked os 4 .any (Rows.fnExactHandOkSpec.pre6 enc Try.prog Try.f4 Rows.fnExactHandOkRow.domain false) (Rows.fnExactHandOkSpec.post enc Try.prog Try.f4 false true false false) := by
  refine returnsInHanded_of_change (C := Try.checked) own started (by kernel_rfl) Try.func4
    (ChangeSpec.witness6 (enc := enc) (C := Try.checked) false ⟨#[], #[.agg #[.int .i64 0, .int .i64 0], .agg #[.int .i64 0, .int .i64 0, .int .i64 0, .int .i64 0, .int .i64 0, .int .i64 0, .int .i64 0, .int .i64 0, .int .i64 0, .int .i64 0, .int .i64 0, .int .i64 0]], []⟩ 8 (by kernel_rfl) (by kernel_rfl) (by kernel_rfl) (by kernel_rfl)) ?_
  intro W base args ds gs before hval0 hW hcnd _
  have hval : ∀ (j : Nat) t v, Try.f4.params[j]? = some t → args[j]? = some v → Value.okWide Try.prog W .any base t v := hval0
  have hW' := hW
  obtain ⟨p, q, hA0, hV, rfl, hfz, hnd⟩ := hW
  have hA : DataW.TrodAll enc Try.prog W 0 (fun _ => true) true Try.f4.params.toList args.toList ds p := hA0
  rw [Try.params4] at hA hval
  obtain ⟨v0, vs0, d0, ds0, p0, q0, h0args, rfl, rfl, h0, r0⟩ := trodAll_cons hA
  obtain ⟨v1, vs1, d1, ds1, p1, q1, h1args, rfl, rfl, h1, r1⟩ := trodAll_cons r0
  obtain ⟨rfl, rfl, rfl⟩ := trodAll_nil r1
  obtain rfl : args = #[v0, v1] := by cases args; simp_all
  obtain ⟨rfl, rfl⟩ := trodVars_none hV
  have k0 := h0
  have lt0 : ∀ x ∈ p0, x.block < W.heap.size := by obtain ⟨m, hm⟩ := k0; exact DataW.trod_lt m _ _ _ hm
  obtain ⟨s0, t0, rfl, ws0, wt0⟩ : ∃ x y : Int, v0 = .agg #[.int .i64 x, .int .i64 y] ∧ W64 x ∧ W64 y := by
    obtain ⟨x0, x1, y0, y1, m, hv, hd, hp, hy0, hy1⟩ := open_agg2 Try.underlying29 (by kernel_rfl) (by kernel_rfl) (hval 0 29 v0 rfl rfl) h0
    obtain ⟨x, e0, _, wa⟩ := DataW.trod_int Try.underlying2 hy0
    obtain ⟨y, e1, _, wb⟩ := DataW.trod_int Try.underlying2 hy1
    simp at e0 e1
    subst e0 e1
    exact ⟨x, y, hv, w64_wf wa, w64_wf wb⟩
  have k1 := h1
  have lt1 : ∀ x ∈ p1, x.block < W.heap.size := by obtain ⟨m, hm⟩ := k1; exact DataW.trod_lt m _ _ _ hm
  obtain ⟨hd1, rfl⟩ := hand_of (hval 1 31 v1 rfl rfl) h1
  clear hA0 hval0
  refine (exactHandOk_walk s0 t0 hd1 W).mono fun e W' ⟨he, bel⟩ => ?_
  subst he
  exact ⟨_, rfl, _, _, _, [], _, [], hW', trodAll_mk1 (shut_bool Try.underlying4 _), (trodAll_cons_mk (Below.trod laidOut (by kernel_rfl) (of_decide_eq_true (by kernel_rfl)) k0 bel lt0) (trodAll_cons_mk (Below.trod laidOut (by kernel_rfl) (of_decide_eq_true (by kernel_rfl)) k1 bel lt1) trodAll_mk0)), rfl, bel.frame _, fun h => by cases h⟩

theorem exactHandOk_proved : Rows.FnExactHandOkSaid :=
  OpenClaim.holds_of_wide 4 Try.f4 rfl rfl rfl rfl rfl rfl rfl ⟨rfl, rfl, rfl, rfl, rfl⟩ rfl rfl rfl rfl rfl (by kernel_rfl) Try.func4 (by kernel_rfl)
    (of_decide_eq_true (by kernel_rfl)) (by unfold Func.isWrapper; first | (rw [if_pos (by decide +kernel)]; kernel_rfl) | (rw [if_neg (by decide +kernel)]; exact ⟨rfl, rfl⟩))
    (fun os started H enc _ => liftedFnExactHandOk os started H enc)

set_option maxRecDepth 100000 in
set_option maxHeartbeats 4000000 in
theorem exactResting_walk (r o : Int) (w : World) :
    Calls Try.prog 5 #[.int .i64 r, .int .i64 o] w fun e w' => e = .returned (.bool true) ∧ Below w.heap.size w w' := by
  go_enter Try.func5, Try.ntmps5
  go_wp2_with fail
  refine (specResting r o _).mono ?_
  rintro e w1 ⟨rfl, hb1⟩
  have HQ1 := Lib.hid ((((Hold.start w).step hb1).new (.cells #[.int .i64 0, .int .i64 0, .int .i64 0, .int .i64 0, .int .i64 0, .int .i64 0, .int .i64 0, .int .i64 0, .int .i64 (-1), .int .i64 0, .int .i64 r, .int .i64 o] 36)))
  clear hb1
  go_wp2_with fail
  refine (iResting r o _).mono ?_
  rintro e w2 ⟨rfl, hb2⟩
  have HQ2 := Lib.hid ((HQ1.out.step hb2).new (.cells #[.int .i64 0, .int .i64 0, .int .i64 0, .int .i64 0, .int .i64 0, .int .i64 0, .int .i64 0, .int .i64 0, .int .i64 (-1), .int .i64 0, .int .i64 r, .int .i64 o] 36))
  clear hb2 HQ1
  obtain ⟨q0, q1, q2, q3, q4, q5, q6, q7, q8, q9, q10, q11, q12, q13, q14, q15, q16, q17, q18, q19, q20, q21, q22, q23⟩ : (w2.alloc (.cells #[.int .i64 0, .int .i64 0, .int .i64 0, .int .i64 0, .int .i64 0, .int .i64 0, .int .i64 0, .int .i64 0, .int .i64 (-1), .int .i64 0, .int .i64 r, .int .i64 o] 36)).cell? ⟨w2.heap.size, 0, none⟩ = some (.int .i64 0) ∧ (w2.alloc (.cells #[.int .i64 0, .int .i64 0, .int .i64 0, .int .i64 0, .int .i64 0, .int .i64 0, .int .i64 0, .int .i64 0, .int .i64 (-1), .int .i64 0, .int .i64 r, .int .i64 o] 36)).cell? ⟨w2.heap.size, 1, none⟩ = some (.int .i64 0) ∧ (w2.alloc (.cells #[.int .i64 0, .int .i64 0, .int .i64 0, .int .i64 0, .int .i64 0, .int .i64 0, .int .i64 0, .int .i64 0, .int .i64 (-1), .int .i64 0, .int .i64 r, .int .i64 o] 36)).cell? ⟨w2.heap.size, 2, none⟩ = some (.int .i64 0) ∧ (w2.alloc (.cells #[.int .i64 0, .int .i64 0, .int .i64 0, .int .i64 0, .int .i64 0, .int .i64 0, .int .i64 0, .int .i64 0, .int .i64 (-1), .int .i64 0, .int .i64 r, .int .i64 o] 36)).cell? ⟨w2.heap.size, 3, none⟩ = some (.int .i64 0) ∧ (w2.alloc (.cells #[.int .i64 0, .int .i64 0, .int .i64 0, .int .i64 0, .int .i64 0, .int .i64 0, .int .i64 0, .int .i64 0, .int .i64 (-1), .int .i64 0, .int .i64 r, .int .i64 o] 36)).cell? ⟨w2.heap.size, 4, none⟩ = some (.int .i64 0) ∧ (w2.alloc (.cells #[.int .i64 0, .int .i64 0, .int .i64 0, .int .i64 0, .int .i64 0, .int .i64 0, .int .i64 0, .int .i64 0, .int .i64 (-1), .int .i64 0, .int .i64 r, .int .i64 o] 36)).cell? ⟨w2.heap.size, 5, none⟩ = some (.int .i64 0) ∧ (w2.alloc (.cells #[.int .i64 0, .int .i64 0, .int .i64 0, .int .i64 0, .int .i64 0, .int .i64 0, .int .i64 0, .int .i64 0, .int .i64 (-1), .int .i64 0, .int .i64 r, .int .i64 o] 36)).cell? ⟨w2.heap.size, 6, none⟩ = some (.int .i64 0) ∧ (w2.alloc (.cells #[.int .i64 0, .int .i64 0, .int .i64 0, .int .i64 0, .int .i64 0, .int .i64 0, .int .i64 0, .int .i64 0, .int .i64 (-1), .int .i64 0, .int .i64 r, .int .i64 o] 36)).cell? ⟨w2.heap.size, 7, none⟩ = some (.int .i64 0) ∧ (w2.alloc (.cells #[.int .i64 0, .int .i64 0, .int .i64 0, .int .i64 0, .int .i64 0, .int .i64 0, .int .i64 0, .int .i64 0, .int .i64 (-1), .int .i64 0, .int .i64 r, .int .i64 o] 36)).cell? ⟨w2.heap.size, 8, none⟩ = some (.int .i64 (-1)) ∧ (w2.alloc (.cells #[.int .i64 0, .int .i64 0, .int .i64 0, .int .i64 0, .int .i64 0, .int .i64 0, .int .i64 0, .int .i64 0, .int .i64 (-1), .int .i64 0, .int .i64 r, .int .i64 o] 36)).cell? ⟨w2.heap.size, 9, none⟩ = some (.int .i64 0) ∧ (w2.alloc (.cells #[.int .i64 0, .int .i64 0, .int .i64 0, .int .i64 0, .int .i64 0, .int .i64 0, .int .i64 0, .int .i64 0, .int .i64 (-1), .int .i64 0, .int .i64 r, .int .i64 o] 36)).cell? ⟨w2.heap.size, 10, none⟩ = some (.int .i64 r) ∧ (w2.alloc (.cells #[.int .i64 0, .int .i64 0, .int .i64 0, .int .i64 0, .int .i64 0, .int .i64 0, .int .i64 0, .int .i64 0, .int .i64 (-1), .int .i64 0, .int .i64 r, .int .i64 o] 36)).cell? ⟨w2.heap.size, 11, none⟩ = some (.int .i64 o) ∧ (w2.alloc (.cells #[.int .i64 0, .int .i64 0, .int .i64 0, .int .i64 0, .int .i64 0, .int .i64 0, .int .i64 0, .int .i64 0, .int .i64 (-1), .int .i64 0, .int .i64 r, .int .i64 o] 36)).cell? ⟨w1.heap.size, 0, none⟩ = some (.int .i64 0) ∧ (w2.alloc (.cells #[.int .i64 0, .int .i64 0, .int .i64 0, .int .i64 0, .int .i64 0, .int .i64 0, .int .i64 0, .int .i64 0, .int .i64 (-1), .int .i64 0, .int .i64 r, .int .i64 o] 36)).cell? ⟨w1.heap.size, 1, none⟩ = some (.int .i64 0) ∧ (w2.alloc (.cells #[.int .i64 0, .int .i64 0, .int .i64 0, .int .i64 0, .int .i64 0, .int .i64 0, .int .i64 0, .int .i64 0, .int .i64 (-1), .int .i64 0, .int .i64 r, .int .i64 o] 36)).cell? ⟨w1.heap.size, 2, none⟩ = some (.int .i64 0) ∧ (w2.alloc (.cells #[.int .i64 0, .int .i64 0, .int .i64 0, .int .i64 0, .int .i64 0, .int .i64 0, .int .i64 0, .int .i64 0, .int .i64 (-1), .int .i64 0, .int .i64 r, .int .i64 o] 36)).cell? ⟨w1.heap.size, 3, none⟩ = some (.int .i64 0) ∧ (w2.alloc (.cells #[.int .i64 0, .int .i64 0, .int .i64 0, .int .i64 0, .int .i64 0, .int .i64 0, .int .i64 0, .int .i64 0, .int .i64 (-1), .int .i64 0, .int .i64 r, .int .i64 o] 36)).cell? ⟨w1.heap.size, 4, none⟩ = some (.int .i64 0) ∧ (w2.alloc (.cells #[.int .i64 0, .int .i64 0, .int .i64 0, .int .i64 0, .int .i64 0, .int .i64 0, .int .i64 0, .int .i64 0, .int .i64 (-1), .int .i64 0, .int .i64 r, .int .i64 o] 36)).cell? ⟨w1.heap.size, 5, none⟩ = some (.int .i64 0) ∧ (w2.alloc (.cells #[.int .i64 0, .int .i64 0, .int .i64 0, .int .i64 0, .int .i64 0, .int .i64 0, .int .i64 0, .int .i64 0, .int .i64 (-1), .int .i64 0, .int .i64 r, .int .i64 o] 36)).cell? ⟨w1.heap.size, 6, none⟩ = some (.int .i64 0) ∧ (w2.alloc (.cells #[.int .i64 0, .int .i64 0, .int .i64 0, .int .i64 0, .int .i64 0, .int .i64 0, .int .i64 0, .int .i64 0, .int .i64 (-1), .int .i64 0, .int .i64 r, .int .i64 o] 36)).cell? ⟨w1.heap.size, 7, none⟩ = some (.int .i64 0) ∧ (w2.alloc (.cells #[.int .i64 0, .int .i64 0, .int .i64 0, .int .i64 0, .int .i64 0, .int .i64 0, .int .i64 0, .int .i64 0, .int .i64 (-1), .int .i64 0, .int .i64 r, .int .i64 o] 36)).cell? ⟨w1.heap.size, 8, none⟩ = some (.int .i64 (-1)) ∧ (w2.alloc (.cells #[.int .i64 0, .int .i64 0, .int .i64 0, .int .i64 0, .int .i64 0, .int .i64 0, .int .i64 0, .int .i64 0, .int .i64 (-1), .int .i64 0, .int .i64 r, .int .i64 o] 36)).cell? ⟨w1.heap.size, 9, none⟩ = some (.int .i64 0) ∧ (w2.alloc (.cells #[.int .i64 0, .int .i64 0, .int .i64 0, .int .i64 0, .int .i64 0, .int .i64 0, .int .i64 0, .int .i64 0, .int .i64 (-1), .int .i64 0, .int .i64 r, .int .i64 o] 36)).cell? ⟨w1.heap.size, 10, none⟩ = some (.int .i64 r) ∧ (w2.alloc (.cells #[.int .i64 0, .int .i64 0, .int .i64 0, .int .i64 0, .int .i64 0, .int .i64 0, .int .i64 0, .int .i64 0, .int .i64 (-1), .int .i64 0, .int .i64 r, .int .i64 o] 36)).cell? ⟨w1.heap.size, 11, none⟩ = some (.int .i64 o) := by have hh := HQ2.out; exact ⟨blk_is hh.hd (by rfl), blk_is hh.hd (by rfl), blk_is hh.hd (by rfl), blk_is hh.hd (by rfl), blk_is hh.hd (by rfl), blk_is hh.hd (by rfl), blk_is hh.hd (by rfl), blk_is hh.hd (by rfl), blk_is hh.hd (by rfl), blk_is hh.hd (by rfl), blk_is hh.hd (by rfl), blk_is hh.hd (by rfl), blk_is hh.tl.hd (by rfl), blk_is hh.tl.hd (by rfl), blk_is hh.tl.hd (by rfl), blk_is hh.tl.hd (by rfl), blk_is hh.tl.hd (by rfl), blk_is hh.tl.hd (by rfl), blk_is hh.tl.hd (by rfl), blk_is hh.tl.hd (by rfl), blk_is hh.tl.hd (by rfl), blk_is hh.tl.hd (by rfl), blk_is hh.tl.hd (by rfl), blk_is hh.tl.hd (by rfl)⟩
  go_wp2_with fail
  refine (eqHand_same ⟨0, 0, 0, 0, 0, 0, 0, 0, -1, 0, r, o⟩ _).mono ?_
  rintro e w3 ⟨rfl, hb3⟩
  go_wp2
  go_ret
  exact ⟨rfl, (HQ2.out.step hb3).below⟩

set_option maxRecDepth 100000 in
theorem liftedFnExactResting (os : Os) (started : os.Started) (H : Type) (enc : TypeId × Value → H) :
    ReturnsInHanded {} Try.checked os 5 .any (Rows.fnExactRestingSpec.pre6 enc Try.prog Try.f5 Rows.fnExactRestingRow.domain false) (Rows.fnExactRestingSpec.post enc Try.prog Try.f5 false true false false) := by
  refine returnsInHanded_of_change (C := Try.checked) own started (by kernel_rfl) Try.func5
    (ChangeSpec.witness6 (enc := enc) (C := Try.checked) false ⟨#[], #[.int .i64 0, .int .i64 0], []⟩ 8 (by kernel_rfl) (by kernel_rfl) (by kernel_rfl) (by kernel_rfl)) ?_
  intro W base args ds gs before hval0 hW hcnd _
  have hval : ∀ (j : Nat) t v, Try.f5.params[j]? = some t → args[j]? = some v → Value.okWide Try.prog W .any base t v := hval0
  have hW' := hW
  obtain ⟨p, q, hA0, hV, rfl, hfz, hnd⟩ := hW
  have hA : DataW.TrodAll enc Try.prog W 0 (fun _ => true) true Try.f5.params.toList args.toList ds p := hA0
  rw [Try.params5] at hA hval
  obtain ⟨v0, vs0, d0, ds0, p0, q0, h0args, rfl, rfl, h0, r0⟩ := trodAll_cons hA
  obtain ⟨v1, vs1, d1, ds1, p1, q1, h1args, rfl, rfl, h1, r1⟩ := trodAll_cons r0
  obtain ⟨rfl, rfl, rfl⟩ := trodAll_nil r1
  obtain rfl : args = #[v0, v1] := by cases args; simp_all
  obtain ⟨rfl, rfl⟩ := trodVars_none hV
  have k0 := h0
  have lt0 : ∀ x ∈ p0, x.block < W.heap.size := by obtain ⟨m, hm⟩ := k0; exact DataW.trod_lt m _ _ _ hm
  obtain ⟨n0, rfl, wn0⟩ : ∃ x : Int, v0 = .int .i64 x ∧ W64 x := by
    obtain ⟨x, e1, _, _, wx⟩ := open_int Try.underlying2 (hval 0 2 v0 rfl rfl) h0
    exact ⟨x, e1, w64_wf wx⟩
  have k1 := h1
  have lt1 : ∀ x ∈ p1, x.block < W.heap.size := by obtain ⟨m, hm⟩ := k1; exact DataW.trod_lt m _ _ _ hm
  obtain ⟨n1, rfl, wn1⟩ : ∃ x : Int, v1 = .int .i64 x ∧ W64 x := by
    obtain ⟨x, e1, _, _, wx⟩ := open_int Try.underlying2 (hval 1 2 v1 rfl rfl) h1
    exact ⟨x, e1, w64_wf wx⟩
  clear hA0 hval0
  refine (exactResting_walk n0 n1 W).mono fun e W' ⟨he, bel⟩ => ?_
  subst he
  exact ⟨_, rfl, _, _, _, [], _, [], hW', trodAll_mk1 (shut_bool Try.underlying4 _), (trodAll_cons_mk (Below.trod laidOut (by kernel_rfl) (of_decide_eq_true (by kernel_rfl)) k0 bel lt0) (trodAll_cons_mk (Below.trod laidOut (by kernel_rfl) (of_decide_eq_true (by kernel_rfl)) k1 bel lt1) trodAll_mk0)), rfl, bel.frame _, fun h => by cases h⟩

theorem exactResting_proved : Rows.FnExactRestingSaid :=
  OpenClaim.holds_of_wide 5 Try.f5 rfl rfl rfl rfl rfl rfl rfl ⟨rfl, rfl, rfl, rfl, rfl⟩ rfl rfl rfl rfl rfl (by kernel_rfl) Try.func5 (by kernel_rfl)
    (of_decide_eq_true (by kernel_rfl)) (by unfold Func.isWrapper; first | (rw [if_pos (by decide +kernel)]; kernel_rfl) | (rw [if_neg (by decide +kernel)]; exact ⟨rfl, rfl⟩))
    (fun os started H enc _ => liftedFnExactResting os started H enc)

end Go.Proofs.Ytapimkljpfoopaa
