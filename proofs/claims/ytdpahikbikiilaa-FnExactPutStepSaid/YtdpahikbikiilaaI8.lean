/- The program's hands (commit b4afca1): calls, hands told apart by a comparison of structs, who rests. -/
import Derived.Test.YtdpahikbikiilaaS8
import Derived.Test.YtdpahikbikiilaaI1
import Derived.Test.YtdpahikbikiilaaWalk
import Derived.Laws.StructEq
namespace Go.Proofs.Ytdpahikbikiilaa
open Go.RowKit

theorem callRight (k v : Int) (w : World) :
    Calls Try.prog 85 #[.agg #[.int .i64 k, .int .i64 v]] w fun e w' => e = .returned (.bool (callB k v)) ∧ Below w.heap.size w w' := by
  go_enter Try.func85, Try.ntmps85
  go_wp2
  all_goals
    go_ret
    exact ⟨by (first | (simp [callB, inB, *]; done) | (simp [callB, inB, *]; omega)), (Below.refl _ _).alloc (Nat.le_refl _) _⟩

/-- A number, or the limit that it is past. -/
def cl (lo x hi : Int) : Int := if (if hi < x then hi else x) > lo then (if hi < x then hi else x) else lo

theorem cl_in {lo x hi : Int} (h : inB x lo hi = true) : cl lo x hi = x := by
  have := inB_iff.1 h
  unfold cl
  split <;> split at * <;> omega

theorem cl_eq {lo x hi : Int} (h : lo ≤ hi) : (x == cl lo x hi) = inB x lo hi := by
  rw [Bool.eq_iff_iff, beq_iff_eq, inB_iff]
  unfold cl
  constructor
  · intro e
    split at e <;> split at e <;> omega
  · intro e
    split <;> split at * <;> omega

theorem iBetween (lo x hi : Int) (w : World) :
    Calls Try.prog 95 #[.int .i64 lo, .int .i64 x, .int .i64 hi] w fun e w' => e = .returned (.int .i64 (cl lo x hi)) ∧ w = w' := by
  go_enter Try.func95, Try.ntmps95
  go_wp2
  all_goals
    go_ret
    exact ⟨by (first | (simp_all [cl]; done) | (simp_all [cl]; omega) | (simp_all [cl]; intros; split at * <;> omega)), rfl⟩

theorem eqlCall (a0 a1 b0 b1 : Int) (d : Nat) (w : World) : (Op.equalIn (d + 2) 33 (.agg #[.int .i64 a0, .int .i64 a1]) (.agg #[.int .i64 b0, .int .i64 b1])).run Try.prog w = .ok (a0 == b0 && a1 == b1) w := by
  have u3 := Try.underlying2
  have a3 := Try.isAgg2
  have z3 := Try.sizeOf2
  have hS : Try.prog.underlying 33 = some (.struct (Try.prog.fieldsOf 33)) := by kernel_rfl
  rw [show d + 2 = (d + 1) + 1 from rfl, run_equalIn_agg w (d + 1) 33 _ _ hS (by kernel_rfl)]
  simp only [Program.fieldsOf, Try.underlying33]
  go_simp
  by_cases h0 : a0 = b0 <;> by_cases h1 : a1 = b1 <;> simp [h0, h1]

set_option maxHeartbeats 2000000 in
theorem eqlHand (p0 p1 p2 p3 p4 p5 p6 p7 p8 p9 p10 p11 q0 q1 q2 q3 q4 q5 q6 q7 q8 q9 q10 q11 : Int) (w : World) : (Op.equalIn 10000 35 (.agg #[.int .i64 p0, .int .i64 p1, .int .i64 p2, .int .i64 p3, .int .i64 p4, .int .i64 p5, .int .i64 p6, .int .i64 p7, .int .i64 p8, .int .i64 p9, .int .i64 p10, .int .i64 p11]) (.agg #[.int .i64 q0, .int .i64 q1, .int .i64 q2, .int .i64 q3, .int .i64 q4, .int .i64 q5, .int .i64 q6, .int .i64 q7, .int .i64 q8, .int .i64 q9, .int .i64 q10, .int .i64 q11])).run Try.prog w = .ok (p0 == q0 && p1 == q1 && p2 == q2 && p3 == q3 && p4 == q4 && p5 == q5 && p6 == q6 && p7 == q7 && p8 == q8 && p9 == q9 && p10 == q10 && p11 == q11) w := by
  have u3 := Try.underlying2
  have a3 := Try.isAgg2
  have z3 := Try.sizeOf2
  have ac := Try.isAgg33
  have zc := Try.sizeOf33
  have hS : Try.prog.underlying 35 = some (.struct (Try.prog.fieldsOf 35)) := by kernel_rfl
  have hc := fun x0 x1 y0 y1 w => eqlCall x0 x1 y0 y1 9997 w
  rw [show (10000 : Nat) = 9999 + 1 from rfl, run_equalIn_agg w 9999 35 _ _ hS (by kernel_rfl)]
  simp only [Program.fieldsOf, Try.underlying35]
  go_simp
  by_cases h0 : p0 = q0
  case neg => simp [h0]
  by_cases h1 : p1 = q1
  case neg => simp [h0, h1]
  by_cases h2 : p2 = q2
  case neg => simp [h0, h1, h2]
  by_cases h3 : p3 = q3
  case neg => simp [h0, h1, h2, h3]
  by_cases h4 : p4 = q4
  case neg => simp [h0, h1, h2, h3, h4]
  by_cases h5 : p5 = q5
  case neg => simp [h0, h1, h2, h3, h4, h5]
  by_cases h6 : p6 = q6
  case neg => simp [h0, h1, h2, h3, h4, h5, h6]
  by_cases h7 : p7 = q7
  case neg => simp [h0, h1, h2, h3, h4, h5, h6, h7]
  by_cases h8 : p8 = q8
  case neg => simp [h0, h1, h2, h3, h4, h5, h6, h7, h8]
  by_cases h9 : p9 = q9
  case neg => simp [h0, h1, h2, h3, h4, h5, h6, h7, h8, h9]
  by_cases h10 : p10 = q10
  case neg => simp [h0, h1, h2, h3, h4, h5, h6, h7, h8, h9, h10]
  by_cases h11 : p11 = q11
  case neg => simp [h0, h1, h2, h3, h4, h5, h6, h7, h8, h9, h10, h11]
  simp [h0, h1, h2, h3, h4, h5, h6, h7, h8, h9, h10, h11]

set_option maxRecDepth 100000 in
set_option maxHeartbeats 4000000 in
theorem restsUn (h : Hd) (w : World) :
    Calls Try.prog 86 #[.agg #[.int .i64 h.at_, .int .i64 h.code, .int .i64 h.val, .int .i64 h.ring, .int .i64 h.tick, .int .i64 h.word, .int .i64 h.tail, .int .i64 h.head, .int .i64 h.index, .int .i64 h.begin_, .int .i64 h.reply, .int .i64 h.out]] w fun e w' => e = .returned (.bool (h.at_ == 0 && (h.code == 0 && h.val == 0))) ∧ Below w.heap.size w w' := by
  have hg : Try.prog.eqGuardType Try.prog.depth 33 = false := by kernel_rfl
  have he := fun x0 x1 y0 y1 w => eqlCall x0 x1 y0 y1 9998 w
  go_enter Try.func86, Try.ntmps86
  go_wp2
  all_goals
    go_ret
    exact ⟨by simp [*], (Below.refl _ _).alloc (Nat.le_refl _) _⟩

set_option maxRecDepth 100000 in
set_option maxHeartbeats 4000000 in
theorem within_go (s t : Int) (h : Hd) (hs : IntKind.i64.wrap (s - 1) = s - 1) (w : World) :
    Calls Try.prog 84 #[.agg #[.int .i64 h.at_, .int .i64 h.code, .int .i64 h.val, .int .i64 h.ring, .int .i64 h.tick, .int .i64 h.word, .int .i64 h.tail, .int .i64 h.head, .int .i64 h.index, .int .i64 h.begin_, .int .i64 h.reply, .int .i64 h.out], .agg #[.int .i64 s, .int .i64 t]] w fun e w' => e = .returned (.agg #[.int .i64 (cl 0 h.at_ 19), .int .i64 h.code, .int .i64 h.val, .int .i64 (cl 0 h.ring 1), .int .i64 (cl 0 h.tick 1000001), .int .i64 (cl 0 h.word 100000000), .int .i64 (cl 0 h.tail 1000001), .int .i64 (cl 0 h.head 1000001), .int .i64 (cl (-1) h.index (s - 1)), .int .i64 (cl 0 h.begin_ 20000), .int .i64 (cl 0 h.reply 4), .int .i64 (cl 0 h.out 999999)]) ∧ Below w.heap.size w w' := by
  have HM := Lib.hid (Mem.start [] w)
  go_enter Try.func84, Try.ntmps84
  go_wp2_with (first | ((first | refine gen_list (HM.out.new _) ?_ | refine gen_code (HM.out.new _) ?_); intro w' HM'; have hz := HM'.grownIn.size; replace HM := Lib.hid HM'; clear HM') | (refine wpl_loadc rfl 2 _ rfl rfl (by first | exact HM.out.at_ 0 rfl | exact HM.out.at_ 1 rfl | exact HM.out.at_ 2 rfl) (by first | rfl | assumption) Try.underlying2 rfl ?_; (try simp only [Act.put, List.setIfInBounds_toArray, List.set_cons_zero, List.set_cons_succ, List.getElem_toArray, List.getElem_cons_zero, List.getElem_cons_succ])) | (refine wpl_loadw rfl 38 _ rfl rfl (by first | exact HM.out.at_ 0 rfl | exact HM.out.at_ 1 rfl | exact HM.out.at_ 2 rfl) Try.underlying38 rfl (by kernel_rfl) ?_; (try simp only [Act.put, List.setIfInBounds_toArray, List.set_cons_zero, List.set_cons_succ, List.getElem_toArray, List.getElem_cons_zero, List.getElem_cons_succ])) | (refine wpl_loadw rfl 35 _ rfl rfl (by first | exact HM.out.at_ 0 rfl | exact HM.out.at_ 1 rfl | exact HM.out.at_ 2 rfl) Try.underlying35 rfl (by kernel_rfl) ?_; (try simp only [Act.put, List.setIfInBounds_toArray, List.set_cons_zero, List.set_cons_succ, List.getElem_toArray, List.getElem_cons_zero, List.getElem_cons_succ])) | (refine wpl_storec HM.out rfl 2 _ _ rfl rfl (by first | exact (rfl : (_ : List (Nat × Obj))[0]? = _) | exact (rfl : (_ : List (Nat × Obj))[1]? = _) | exact (rfl : (_ : List (Nat × Obj))[2]? = _)) (by first | (go_simp; done) | (go_simp; rfl) | rfl) (by first | (simp; done) | assumption) (by kernel_rfl) (by rfl) (by rfl) (by first | (left; omega) | (right; simp; done)) (by first | (simp only [List.setIfInBounds_toArray, List.set_cons_zero, List.set_cons_succ]; done) | (simp only [List.setIfInBounds_toArray, List.set_cons_zero, List.set_cons_succ]; rfl) | rfl) (by first | (simp only [List.setIfInBounds_toArray, List.set_cons_zero, List.set_cons_succ]; done) | (simp only [List.setIfInBounds_toArray, List.set_cons_zero, List.set_cons_succ]; rfl) | rfl) ?_; intro w' HM'; have hz := HM'.grownIn.size; replace HM := Lib.hid HM'; clear HM'; (try simp only [Act.put, List.setIfInBounds_toArray, List.set_cons_zero, List.set_cons_succ, List.getElem_toArray, List.getElem_cons_zero, List.getElem_cons_succ])) | (refine wpl_storew HM.out rfl 38 _ _ rfl rfl (by first | exact (rfl : (_ : List (Nat × Obj))[0]? = _) | exact (rfl : (_ : List (Nat × Obj))[1]? = _) | exact (rfl : (_ : List (Nat × Obj))[2]? = _)) (by first | (go_simp; done) | (go_simp; rfl) | rfl) (by kernel_rfl) (by rfl) (by simp [Value.oneCell']) (by first | (left; omega) | (right; simp; done)) (by first | (simp only [List.setIfInBounds_toArray, List.set_cons_zero, List.set_cons_succ]; done) | (simp only [List.setIfInBounds_toArray, List.set_cons_zero, List.set_cons_succ]; rfl) | rfl) ?_; intro w' HM'; have hz := HM'.grownIn.size; replace HM := Lib.hid HM'; clear HM'; (try simp only [Act.put, List.setIfInBounds_toArray, List.set_cons_zero, List.set_cons_succ, List.getElem_toArray, List.getElem_cons_zero, List.getElem_cons_succ])) | (refine wpl_storew HM.out rfl 35 _ _ rfl rfl (by first | exact (rfl : (_ : List (Nat × Obj))[0]? = _) | exact (rfl : (_ : List (Nat × Obj))[1]? = _) | exact (rfl : (_ : List (Nat × Obj))[2]? = _)) (by first | (go_simp; done) | (go_simp; rfl) | rfl) (by kernel_rfl) (by rfl) (by simp [Value.oneCell']) (by first | (left; omega) | (right; simp; done)) (by first | (simp only [List.setIfInBounds_toArray, List.set_cons_zero, List.set_cons_succ]; done) | (simp only [List.setIfInBounds_toArray, List.set_cons_zero, List.set_cons_succ]; rfl) | rfl) ?_; intro w' HM'; have hz := HM'.grownIn.size; replace HM := Lib.hid HM'; clear HM'; (try simp only [Act.put, List.setIfInBounds_toArray, List.set_cons_zero, List.set_cons_succ, List.getElem_toArray, List.getElem_cons_zero, List.getElem_cons_succ])) | (go_at_call 95; (with_reducible refine (iBetween _ _ _ _).mono ?_); rintro e wk ⟨rfl, rfl⟩))
  refine bodyPost_ret (results_c rfl rfl (load_back (HM.out.at_ 0 rfl) Try.underlying35 rfl (by kernel_rfl))) rfl ⟨rfl, HM.out.grownIn.below⟩

theorem exec_eqlH {o : Oper} {a : Act} {w : World} (x y : Operand) (ho : o.op = .binOp .eql 35 x y 35) {xs ys : Array Value} (hx : a.eval x = .agg xs) (hy : a.eval y = .agg ys) {b : Bool}
    (hb : (Op.equalIn 10000 35 (.agg xs) (.agg ys)).run Try.prog w = .ok b w) : (execOp a.eval o).run Try.prog w = .ok (.value (.bool b)) w := by
  have hg : Try.prog.eqGuardType Try.prog.depth 35 = false := by kernel_rfl
  unfold execOp
  simp only [ho, hx, hy, Sem.run_bind, Sem.run_pure, Result.andThen_ok, run_eqGuard_agg _ _ _ _ _ _ _ hg, run_eql_struct, hb]

theorem within_eq (s t : Int) (h : Hd) (hs : 0 ≤ s) (w : World) : (Op.equalIn 10000 35 (.agg #[.int .i64 h.at_, .int .i64 h.code, .int .i64 h.val, .int .i64 h.ring, .int .i64 h.tick, .int .i64 h.word, .int .i64 h.tail, .int .i64 h.head, .int .i64 h.index, .int .i64 h.begin_, .int .i64 h.reply, .int .i64 h.out]) (.agg #[.int .i64 (cl 0 h.at_ 19), .int .i64 h.code, .int .i64 h.val, .int .i64 (cl 0 h.ring 1), .int .i64 (cl 0 h.tick 1000001), .int .i64 (cl 0 h.word 100000000), .int .i64 (cl 0 h.tail 1000001), .int .i64 (cl 0 h.head 1000001), .int .i64 (cl (-1) h.index (s - 1)), .int .i64 (cl 0 h.begin_ 20000), .int .i64 (cl 0 h.reply 4), .int .i64 (cl 0 h.out 999999)])).run Try.prog w = .ok (inB h.at_ 0 19 && inB h.ring 0 1 && inB h.tick 0 1000001 && inB h.word 0 100000000 && inB h.tail 0 1000001 && inB h.head 0 1000001 && inB h.index (-1) (s - 1) && inB h.begin_ 0 20000 && inB h.reply 0 4 && inB h.out 0 999999) w := by
  rw [eqlHand]
  simp only [beq_self_eq_true, Bool.and_true, Bool.true_and, cl_eq (show (0 : Int) ≤ 19 by omega), cl_eq (show (0 : Int) ≤ 1 by omega), cl_eq (show (0 : Int) ≤ 1000001 by omega), cl_eq (show (0 : Int) ≤ 100000000 by omega), cl_eq (show (0 : Int) ≤ 1000001 by omega), cl_eq (show (0 : Int) ≤ 1000001 by omega), cl_eq (show ((-1) : Int) ≤ (s - 1) by omega), cl_eq (show (0 : Int) ≤ 20000 by omega), cl_eq (show (0 : Int) ≤ 4 by omega), cl_eq (show (0 : Int) ≤ 999999 by omega)]

theorem handB_in {s t : Int} {h : Hd} (hp : okP s t) (hi : (inB h.at_ 0 19 && inB h.ring 0 1 && inB h.tick 0 1000001 && inB h.word 0 100000000 && inB h.tail 0 1000001 && inB h.head 0 1000001 && inB h.index (-1) (s - 1) && inB h.begin_ 0 20000 && inB h.reply 0 4 && inB h.out 0 999999) = true) : handB s t h = (callB h.code h.val || (h.at_ == 0 && (h.code == 0 && h.val == 0))) := by
  simp only [Bool.and_eq_true] at hi
  obtain ⟨⟨⟨⟨⟨⟨⟨⟨⟨i0, i1⟩, i2⟩, i3⟩, i4⟩, i5⟩, i6⟩, i7⟩, i8⟩, i9⟩ := hi
  simp only [handB, okB_yes hp, i0, i1, i2, i3, i4, i5, i6, i7, i8, i9, Bool.and_true, Bool.true_and]

theorem handB_out {s t : Int} {h : Hd} (hi : (inB h.at_ 0 19 && inB h.ring 0 1 && inB h.tick 0 1000001 && inB h.word 0 100000000 && inB h.tail 0 1000001 && inB h.head 0 1000001 && inB h.index (-1) (s - 1) && inB h.begin_ 0 20000 && inB h.reply 0 4 && inB h.out 0 999999) = false) : handB s t h = false := by
  cases hc : handB s t h
  · rfl
  · simp only [handB, Bool.and_eq_true] at hc
    obtain ⟨⟨⟨⟨⟨⟨⟨⟨⟨⟨⟨-, i0⟩, -⟩, i1⟩, i2⟩, i3⟩, i4⟩, i5⟩, i6⟩, i7⟩, i8⟩, i9⟩ := hc
    simp only [i0, i1, i2, i3, i4, i5, i6, i7, i8, i9, Bool.and_true] at hi
    cases hi

set_option maxRecDepth 100000 in
set_option maxHeartbeats 4000000 in
theorem hRight_out (s t : Int) (h : Hd) (hp : okP s t) (hi : (inB h.at_ 0 19 && inB h.ring 0 1 && inB h.tick 0 1000001 && inB h.word 0 100000000 && inB h.tail 0 1000001 && inB h.head 0 1000001 && inB h.index (-1) (s - 1) && inB h.begin_ 0 20000 && inB h.reply 0 4 && inB h.out 0 999999) = false) (w : World) :
    Calls Try.prog 71 #[.agg #[.int .i64 h.at_, .int .i64 h.code, .int .i64 h.val, .int .i64 h.ring, .int .i64 h.tick, .int .i64 h.word, .int .i64 h.tail, .int .i64 h.head, .int .i64 h.index, .int .i64 h.begin_, .int .i64 h.reply, .int .i64 h.out], .agg #[.int .i64 s, .int .i64 t]] w fun e w' => e = .returned (.bool false) ∧ Below w.heap.size w w' := by
  obtain ⟨g1, g2⟩ := okP_le hp
  have HW := Lib.hid (show IntKind.i64.wrap (s - 1) = s - 1 by rw [IntKind.wrap_i64]; omega)
  have HE := Lib.hid (within_eq s t h (by omega))
  rw [hi] at HE
  have HM := Lib.hid (Mem.start [] w)
  clear hi hp g1 g2
  go_enter Try.func71, Try.ntmps71
  go_upto_region 1 with (first | ((first | refine gen_list (HM.out.new _) ?_ | refine gen_code (HM.out.new _) ?_); intro w' HM'; have hz := HM'.grownIn.size; replace HM := Lib.hid HM'; clear HM') | (refine wpl_loadc rfl 2 _ rfl rfl (by first | exact HM.out.at_ 0 rfl | exact HM.out.at_ 1 rfl) (by first | rfl | assumption) Try.underlying2 rfl ?_; (try simp only [Act.put, List.setIfInBounds_toArray, List.set_cons_zero, List.set_cons_succ, List.getElem_toArray, List.getElem_cons_zero, List.getElem_cons_succ])) | (refine wpl_loadw rfl 38 _ rfl rfl (by first | exact HM.out.at_ 0 rfl | exact HM.out.at_ 1 rfl) Try.underlying38 rfl (by kernel_rfl) ?_; (try simp only [Act.put, List.setIfInBounds_toArray, List.set_cons_zero, List.set_cons_succ, List.getElem_toArray, List.getElem_cons_zero, List.getElem_cons_succ])) | (refine wpl_loadw rfl 35 _ rfl rfl (by first | exact HM.out.at_ 0 rfl | exact HM.out.at_ 1 rfl) Try.underlying35 rfl (by kernel_rfl) ?_; (try simp only [Act.put, List.setIfInBounds_toArray, List.set_cons_zero, List.set_cons_succ, List.getElem_toArray, List.getElem_cons_zero, List.getElem_cons_succ])) | (refine wpl_loadw rfl 33 _ rfl rfl (by first | exact HM.out.at_ 0 rfl | exact HM.out.at_ 1 rfl) Try.underlying33 rfl (by kernel_rfl) ?_; (try simp only [Act.put, List.setIfInBounds_toArray, List.set_cons_zero, List.set_cons_succ, List.getElem_toArray, List.getElem_cons_zero, List.getElem_cons_succ])) | (refine wpl_storec HM.out rfl 2 _ _ rfl rfl (by first | exact (rfl : (_ : List (Nat × Obj))[0]? = _) | exact (rfl : (_ : List (Nat × Obj))[1]? = _)) (by first | (go_simp; done) | (go_simp; rfl) | rfl) (by first | (simp; done) | assumption) (by kernel_rfl) (by rfl) (by rfl) (by first | (left; omega) | (right; simp; done)) (by first | (simp only [List.setIfInBounds_toArray, List.set_cons_zero, List.set_cons_succ]; done) | (simp only [List.setIfInBounds_toArray, List.set_cons_zero, List.set_cons_succ]; rfl) | rfl) (by first | (simp only [List.setIfInBounds_toArray, List.set_cons_zero, List.set_cons_succ]; done) | (simp only [List.setIfInBounds_toArray, List.set_cons_zero, List.set_cons_succ]; rfl) | rfl) ?_; intro w' HM'; have hz := HM'.grownIn.size; replace HM := Lib.hid HM'; clear HM'; (try simp only [Act.put, List.setIfInBounds_toArray, List.set_cons_zero, List.set_cons_succ, List.getElem_toArray, List.getElem_cons_zero, List.getElem_cons_succ])) | (refine wpl_storew HM.out rfl 38 _ _ rfl rfl (by first | exact (rfl : (_ : List (Nat × Obj))[0]? = _) | exact (rfl : (_ : List (Nat × Obj))[1]? = _)) (by first | (go_simp; done) | (go_simp; rfl) | rfl) (by kernel_rfl) (by rfl) (by simp [Value.oneCell']) (by first | (left; omega) | (right; simp; done)) (by first | (simp only [List.setIfInBounds_toArray, List.set_cons_zero, List.set_cons_succ]; done) | (simp only [List.setIfInBounds_toArray, List.set_cons_zero, List.set_cons_succ]; rfl) | rfl) ?_; intro w' HM'; have hz := HM'.grownIn.size; replace HM := Lib.hid HM'; clear HM'; (try simp only [Act.put, List.setIfInBounds_toArray, List.set_cons_zero, List.set_cons_succ, List.getElem_toArray, List.getElem_cons_zero, List.getElem_cons_succ])) | (refine wpl_storew HM.out rfl 35 _ _ rfl rfl (by first | exact (rfl : (_ : List (Nat × Obj))[0]? = _) | exact (rfl : (_ : List (Nat × Obj))[1]? = _)) (by first | (go_simp; done) | (go_simp; rfl) | rfl) (by kernel_rfl) (by rfl) (by simp [Value.oneCell']) (by first | (left; omega) | (right; simp; done)) (by first | (simp only [List.setIfInBounds_toArray, List.set_cons_zero, List.set_cons_succ]; done) | (simp only [List.setIfInBounds_toArray, List.set_cons_zero, List.set_cons_succ]; rfl) | rfl) ?_; intro w' HM'; have hz := HM'.grownIn.size; replace HM := Lib.hid HM'; clear HM'; (try simp only [Act.put, List.setIfInBounds_toArray, List.set_cons_zero, List.set_cons_succ, List.getElem_toArray, List.getElem_cons_zero, List.getElem_cons_succ])) | (refine wpl_storew HM.out rfl 33 _ _ rfl rfl (by first | exact (rfl : (_ : List (Nat × Obj))[0]? = _) | exact (rfl : (_ : List (Nat × Obj))[1]? = _)) (by first | (go_simp; done) | (go_simp; rfl) | rfl) (by kernel_rfl) (by rfl) (by simp [Value.oneCell']) (by first | (left; omega) | (right; simp; done)) (by first | (simp only [List.setIfInBounds_toArray, List.set_cons_zero, List.set_cons_succ]; done) | (simp only [List.setIfInBounds_toArray, List.set_cons_zero, List.set_cons_succ]; rfl) | rfl) ?_; intro w' HM'; have hz := HM'.grownIn.size; replace HM := Lib.hid HM'; clear HM'; (try simp only [Act.put, List.setIfInBounds_toArray, List.set_cons_zero, List.set_cons_succ, List.getElem_toArray, List.getElem_cons_zero, List.getElem_cons_succ])))
  refine wp_region_noPanic ?_
  replace HM := Lib.hid HM.out.drew
  refine wp_region_held_drew (S := Keep2_0 _ _ _ _) (by kernel_rfl) (⟨HM.out.at_ 0 rfl, HM.out.at_ 1 rfl⟩) (fun hHeld => ?_)
  refine wpAnyH_take (i := 0) (v := ?_) rfl (by kernel_rfl) (by kernel_rfl) (by kernel_rfl) (fun _ _ _ h => h) (Or.inl ⟨by rfl, ?_⟩) (by assumption) ?_
  rotate_left
  · intro wS hSw; first | ((refine exec_load_row 35 (.tmp 2) ?_ ?_ hSw.1 Try.underlying35 rfl (by kernel_rfl)) <;> rfl) | ((refine exec_load_row 35 (.tmp 2) ?_ ?_ hSw.2 Try.underlying35 rfl (by kernel_rfl)) <;> rfl)
  (try simp only [Act.put, List.setIfInBounds_toArray, List.set_cons_zero, List.set_cons_succ, List.getElem_toArray, List.getElem_cons_zero, List.getElem_cons_succ])
  refine wpAnyH_take (i := 1) (v := ?_) rfl (by kernel_rfl) (by kernel_rfl) (by kernel_rfl) (fun _ _ _ h => h) (Or.inl ⟨by rfl, ?_⟩) (by assumption) ?_
  rotate_left
  · intro wS hSw; first | ((refine exec_load_row 35 (.tmp 2) ?_ ?_ hSw.1 Try.underlying35 rfl (by kernel_rfl)) <;> rfl) | ((refine exec_load_row 35 (.tmp 2) ?_ ?_ hSw.2 Try.underlying35 rfl (by kernel_rfl)) <;> rfl)
  (try simp only [Act.put, List.setIfInBounds_toArray, List.set_cons_zero, List.set_cons_succ, List.getElem_toArray, List.getElem_cons_zero, List.getElem_cons_succ])
  refine wpAnyH_take (i := 2) (v := ?_) rfl (by kernel_rfl) (by kernel_rfl) (by kernel_rfl) (fun _ _ _ h => h) (Or.inl ⟨by rfl, ?_⟩) (by assumption) ?_
  rotate_left
  · intro wS hSw; first | ((refine exec_load_row 38 (.tmp 3) ?_ ?_ hSw.1 Try.underlying38 rfl (by kernel_rfl)) <;> rfl) | ((refine exec_load_row 38 (.tmp 3) ?_ ?_ hSw.2 Try.underlying38 rfl (by kernel_rfl)) <;> rfl)
  (try simp only [Act.put, List.setIfInBounds_toArray, List.set_cons_zero, List.set_cons_succ, List.getElem_toArray, List.getElem_cons_zero, List.getElem_cons_succ])
  refine wpAnyH_ready (rs := [3]) (by kernel_rfl) (by simp) ?_
  refine AllReadyH.cons rfl (fun K hK => ?_) ?_
  · go_simp
    (first | (go_at_call 84; (with_reducible refine (within_go s t h HW.out _).mono ?_); rintro e wk ⟨rfl, hb⟩; have HM' := HM.out.step hb; have hz := HM'.grownIn.size; replace HM := Lib.hid HM'; clear HM') | (go_at_call 85; (with_reducible refine (HC.out _).mono ?_); rintro e wk ⟨rfl, hb⟩; have HM' := HM.out.step hb; have hz := HM'.grownIn.size; replace HM := Lib.hid HM'; clear HM') | (go_at_call 86; (with_reducible refine (HU.out _).mono ?_); rintro e wk ⟨rfl, hb⟩; have HM' := HM.out.step hb; have hz := HM'.grownIn.size; replace HM := Lib.hid HM'; clear HM'))
    (try (go_wp2_with fail))
    refine hK.out _ _ ?_ (fun hHeld => ?_)
    · exact ⟨HM.out.at_ 0 rfl, HM.out.at_ 1 rfl⟩
    clear hK K
    (try simp only [Act.put, List.setIfInBounds_toArray, List.set_cons_zero, List.set_cons_succ, List.getElem_toArray, List.getElem_cons_zero, List.getElem_cons_succ])
    refine wpAnyH_take (i := 4) (v := ?_) rfl (by kernel_rfl) (by kernel_rfl) (by kernel_rfl) (fun _ _ _ h => h) (Or.inl ⟨by rfl, ?_⟩) (by assumption) ?_
    rotate_left
    · intro wS hSw; (refine exec_eqlH (.tmp 5) (.tmp 8) ?_ ?_ ?_ (HE.out _)) <;> rfl
    (try simp only [Act.put, List.setIfInBounds_toArray, List.set_cons_zero, List.set_cons_succ, List.getElem_toArray, List.getElem_cons_zero, List.getElem_cons_succ])
    refine wpAnyH_take (i := 5) (v := ?_) rfl (by kernel_rfl) (by kernel_rfl) (by kernel_rfl) (fun _ _ _ h => h) (Or.inl ⟨by rfl, ?_⟩) (by assumption) ?_
    rotate_left
    · intro wS hSw; go_simp; (try (with_reducible rfl))
    (try simp only [Act.put, List.setIfInBounds_toArray, List.set_cons_zero, List.set_cons_succ, List.getElem_toArray, List.getElem_cons_zero, List.getElem_cons_succ])
    refine wpAnyH_take (i := 6) (v := undef) rfl (by kernel_rfl) (by kernel_rfl) (by kernel_rfl) (fun _ _ _ h => h) (Or.inr ⟨by rfl, rfl⟩) (by assumption) ?_
    (try simp only [Act.put, List.setIfInBounds_toArray, List.set_cons_zero, List.set_cons_succ, List.getElem_toArray, List.getElem_cons_zero, List.getElem_cons_succ])
    refine wpAnyH_take (i := 7) (v := undef) rfl (by kernel_rfl) (by kernel_rfl) (by kernel_rfl) (fun _ _ _ h => h) (Or.inr ⟨by rfl, rfl⟩) (by assumption) ?_
    (try simp only [Act.put, List.setIfInBounds_toArray, List.set_cons_zero, List.set_cons_succ, List.getElem_toArray, List.getElem_cons_zero, List.getElem_cons_succ])
    refine wpAnyH_take (i := 8) (v := undef) rfl (by kernel_rfl) (by kernel_rfl) (by kernel_rfl) (fun _ _ _ h => h) (Or.inr ⟨by rfl, rfl⟩) (by assumption) ?_
    (try simp only [Act.put, List.setIfInBounds_toArray, List.set_cons_zero, List.set_cons_succ, List.getElem_toArray, List.getElem_cons_zero, List.getElem_cons_succ])
    refine wpAnyH_take (i := 9) (v := undef) rfl (by kernel_rfl) (by kernel_rfl) (by kernel_rfl) (fun _ _ _ h => h) (Or.inr ⟨by rfl, rfl⟩) (by assumption) ?_
    (try simp only [Act.put, List.setIfInBounds_toArray, List.set_cons_zero, List.set_cons_succ, List.getElem_toArray, List.getElem_cons_zero, List.getElem_cons_succ])
    refine wpAnyH_take (i := 10) (v := undef) rfl (by kernel_rfl) (by kernel_rfl) (by kernel_rfl) (fun _ _ _ h => h) (Or.inr ⟨by rfl, rfl⟩) (by assumption) ?_
    (try simp only [Act.put, List.setIfInBounds_toArray, List.set_cons_zero, List.set_cons_succ, List.getElem_toArray, List.getElem_cons_zero, List.getElem_cons_succ])
    refine wpAnyH_take (i := 11) (v := undef) rfl (by kernel_rfl) (by kernel_rfl) (by kernel_rfl) (fun _ _ _ h => h) (Or.inr ⟨by rfl, rfl⟩) (by assumption) ?_
    (try simp only [Act.put, List.setIfInBounds_toArray, List.set_cons_zero, List.set_cons_succ, List.getElem_toArray, List.getElem_cons_zero, List.getElem_cons_succ])
    refine wpAnyH_take (i := 12) (v := undef) rfl (by kernel_rfl) (by kernel_rfl) (by kernel_rfl) (fun _ _ _ h => h) (Or.inr ⟨by rfl, rfl⟩) (by assumption) ?_
    (try simp only [Act.put, List.setIfInBounds_toArray, List.set_cons_zero, List.set_cons_succ, List.getElem_toArray, List.getElem_cons_zero, List.getElem_cons_succ])
    refine wpAnyH_take (i := 13) (v := ?_) rfl (by kernel_rfl) (by kernel_rfl) (by kernel_rfl) (fun _ _ _ h => h) (Or.inl ⟨by rfl, ?_⟩) (by assumption) ?_
    rotate_left
    · intro wS hSw; go_simp; (try (with_reducible rfl))
    (try simp only [Act.put, List.setIfInBounds_toArray, List.set_cons_zero, List.set_cons_succ, List.getElem_toArray, List.getElem_cons_zero, List.getElem_cons_succ])
    refine wpAnyH_take (i := 14) (v := ?_) rfl (by kernel_rfl) (by kernel_rfl) (by kernel_rfl) (fun _ _ _ h => h) (Or.inl ⟨by rfl, ?_⟩) (by assumption) ?_
    rotate_left
    · intro wS hSw; go_simp; (try (with_reducible rfl))
    (try simp only [Act.put, List.setIfInBounds_toArray, List.set_cons_zero, List.set_cons_succ, List.getElem_toArray, List.getElem_cons_zero, List.getElem_cons_succ])
    refine wpAnyH_done (by kernel_rfl) ?_ _
    refine NoPanic.normal ?_
    go_wp2_with fail
    go_ret
    exact ⟨rfl, HM.out.grownIn.below⟩
  exact AllReadyH.nil

set_option maxRecDepth 100000 in
set_option maxHeartbeats 4000000 in
theorem hRight_call (s t : Int) (h : Hd) (hp : okP s t) (hi : (inB h.at_ 0 19 && inB h.ring 0 1 && inB h.tick 0 1000001 && inB h.word 0 100000000 && inB h.tail 0 1000001 && inB h.head 0 1000001 && inB h.index (-1) (s - 1) && inB h.begin_ 0 20000 && inB h.reply 0 4 && inB h.out 0 999999) = true) (hc : callB h.code h.val = true) (w : World) :
    Calls Try.prog 71 #[.agg #[.int .i64 h.at_, .int .i64 h.code, .int .i64 h.val, .int .i64 h.ring, .int .i64 h.tick, .int .i64 h.word, .int .i64 h.tail, .int .i64 h.head, .int .i64 h.index, .int .i64 h.begin_, .int .i64 h.reply, .int .i64 h.out], .agg #[.int .i64 s, .int .i64 t]] w fun e w' => e = .returned (.bool true) ∧ Below w.heap.size w w' := by
  obtain ⟨g1, g2⟩ := okP_le hp
  have HW := Lib.hid (show IntKind.i64.wrap (s - 1) = s - 1 by rw [IntKind.wrap_i64]; omega)
  have HE := Lib.hid (within_eq s t h (by omega))
  rw [hi] at HE
  have HC := Lib.hid (callRight h.code h.val)
  rw [hc] at HC
  clear hc
  have HM := Lib.hid (Mem.start [] w)
  clear hi hp g1 g2
  go_enter Try.func71, Try.ntmps71
  go_upto_region 1 with (first | ((first | refine gen_list (HM.out.new _) ?_ | refine gen_code (HM.out.new _) ?_); intro w' HM'; have hz := HM'.grownIn.size; replace HM := Lib.hid HM'; clear HM') | (refine wpl_loadc rfl 2 _ rfl rfl (by first | exact HM.out.at_ 0 rfl | exact HM.out.at_ 1 rfl) (by first | rfl | assumption) Try.underlying2 rfl ?_; (try simp only [Act.put, List.setIfInBounds_toArray, List.set_cons_zero, List.set_cons_succ, List.getElem_toArray, List.getElem_cons_zero, List.getElem_cons_succ])) | (refine wpl_loadw rfl 38 _ rfl rfl (by first | exact HM.out.at_ 0 rfl | exact HM.out.at_ 1 rfl) Try.underlying38 rfl (by kernel_rfl) ?_; (try simp only [Act.put, List.setIfInBounds_toArray, List.set_cons_zero, List.set_cons_succ, List.getElem_toArray, List.getElem_cons_zero, List.getElem_cons_succ])) | (refine wpl_loadw rfl 35 _ rfl rfl (by first | exact HM.out.at_ 0 rfl | exact HM.out.at_ 1 rfl) Try.underlying35 rfl (by kernel_rfl) ?_; (try simp only [Act.put, List.setIfInBounds_toArray, List.set_cons_zero, List.set_cons_succ, List.getElem_toArray, List.getElem_cons_zero, List.getElem_cons_succ])) | (refine wpl_loadw rfl 33 _ rfl rfl (by first | exact HM.out.at_ 0 rfl | exact HM.out.at_ 1 rfl) Try.underlying33 rfl (by kernel_rfl) ?_; (try simp only [Act.put, List.setIfInBounds_toArray, List.set_cons_zero, List.set_cons_succ, List.getElem_toArray, List.getElem_cons_zero, List.getElem_cons_succ])) | (refine wpl_storec HM.out rfl 2 _ _ rfl rfl (by first | exact (rfl : (_ : List (Nat × Obj))[0]? = _) | exact (rfl : (_ : List (Nat × Obj))[1]? = _)) (by first | (go_simp; done) | (go_simp; rfl) | rfl) (by first | (simp; done) | assumption) (by kernel_rfl) (by rfl) (by rfl) (by first | (left; omega) | (right; simp; done)) (by first | (simp only [List.setIfInBounds_toArray, List.set_cons_zero, List.set_cons_succ]; done) | (simp only [List.setIfInBounds_toArray, List.set_cons_zero, List.set_cons_succ]; rfl) | rfl) (by first | (simp only [List.setIfInBounds_toArray, List.set_cons_zero, List.set_cons_succ]; done) | (simp only [List.setIfInBounds_toArray, List.set_cons_zero, List.set_cons_succ]; rfl) | rfl) ?_; intro w' HM'; have hz := HM'.grownIn.size; replace HM := Lib.hid HM'; clear HM'; (try simp only [Act.put, List.setIfInBounds_toArray, List.set_cons_zero, List.set_cons_succ, List.getElem_toArray, List.getElem_cons_zero, List.getElem_cons_succ])) | (refine wpl_storew HM.out rfl 38 _ _ rfl rfl (by first | exact (rfl : (_ : List (Nat × Obj))[0]? = _) | exact (rfl : (_ : List (Nat × Obj))[1]? = _)) (by first | (go_simp; done) | (go_simp; rfl) | rfl) (by kernel_rfl) (by rfl) (by simp [Value.oneCell']) (by first | (left; omega) | (right; simp; done)) (by first | (simp only [List.setIfInBounds_toArray, List.set_cons_zero, List.set_cons_succ]; done) | (simp only [List.setIfInBounds_toArray, List.set_cons_zero, List.set_cons_succ]; rfl) | rfl) ?_; intro w' HM'; have hz := HM'.grownIn.size; replace HM := Lib.hid HM'; clear HM'; (try simp only [Act.put, List.setIfInBounds_toArray, List.set_cons_zero, List.set_cons_succ, List.getElem_toArray, List.getElem_cons_zero, List.getElem_cons_succ])) | (refine wpl_storew HM.out rfl 35 _ _ rfl rfl (by first | exact (rfl : (_ : List (Nat × Obj))[0]? = _) | exact (rfl : (_ : List (Nat × Obj))[1]? = _)) (by first | (go_simp; done) | (go_simp; rfl) | rfl) (by kernel_rfl) (by rfl) (by simp [Value.oneCell']) (by first | (left; omega) | (right; simp; done)) (by first | (simp only [List.setIfInBounds_toArray, List.set_cons_zero, List.set_cons_succ]; done) | (simp only [List.setIfInBounds_toArray, List.set_cons_zero, List.set_cons_succ]; rfl) | rfl) ?_; intro w' HM'; have hz := HM'.grownIn.size; replace HM := Lib.hid HM'; clear HM'; (try simp only [Act.put, List.setIfInBounds_toArray, List.set_cons_zero, List.set_cons_succ, List.getElem_toArray, List.getElem_cons_zero, List.getElem_cons_succ])) | (refine wpl_storew HM.out rfl 33 _ _ rfl rfl (by first | exact (rfl : (_ : List (Nat × Obj))[0]? = _) | exact (rfl : (_ : List (Nat × Obj))[1]? = _)) (by first | (go_simp; done) | (go_simp; rfl) | rfl) (by kernel_rfl) (by rfl) (by simp [Value.oneCell']) (by first | (left; omega) | (right; simp; done)) (by first | (simp only [List.setIfInBounds_toArray, List.set_cons_zero, List.set_cons_succ]; done) | (simp only [List.setIfInBounds_toArray, List.set_cons_zero, List.set_cons_succ]; rfl) | rfl) ?_; intro w' HM'; have hz := HM'.grownIn.size; replace HM := Lib.hid HM'; clear HM'; (try simp only [Act.put, List.setIfInBounds_toArray, List.set_cons_zero, List.set_cons_succ, List.getElem_toArray, List.getElem_cons_zero, List.getElem_cons_succ])))
  refine wp_region_noPanic ?_
  replace HM := Lib.hid HM.out.drew
  refine wp_region_held_drew (S := Keep2_0 _ _ _ _) (by kernel_rfl) (⟨HM.out.at_ 0 rfl, HM.out.at_ 1 rfl⟩) (fun hHeld => ?_)
  refine wpAnyH_take (i := 0) (v := ?_) rfl (by kernel_rfl) (by kernel_rfl) (by kernel_rfl) (fun _ _ _ h => h) (Or.inl ⟨by rfl, ?_⟩) (by assumption) ?_
  rotate_left
  · intro wS hSw; first | ((refine exec_load_row 35 (.tmp 2) ?_ ?_ hSw.1 Try.underlying35 rfl (by kernel_rfl)) <;> rfl) | ((refine exec_load_row 35 (.tmp 2) ?_ ?_ hSw.2 Try.underlying35 rfl (by kernel_rfl)) <;> rfl)
  (try simp only [Act.put, List.setIfInBounds_toArray, List.set_cons_zero, List.set_cons_succ, List.getElem_toArray, List.getElem_cons_zero, List.getElem_cons_succ])
  refine wpAnyH_take (i := 1) (v := ?_) rfl (by kernel_rfl) (by kernel_rfl) (by kernel_rfl) (fun _ _ _ h => h) (Or.inl ⟨by rfl, ?_⟩) (by assumption) ?_
  rotate_left
  · intro wS hSw; first | ((refine exec_load_row 35 (.tmp 2) ?_ ?_ hSw.1 Try.underlying35 rfl (by kernel_rfl)) <;> rfl) | ((refine exec_load_row 35 (.tmp 2) ?_ ?_ hSw.2 Try.underlying35 rfl (by kernel_rfl)) <;> rfl)
  (try simp only [Act.put, List.setIfInBounds_toArray, List.set_cons_zero, List.set_cons_succ, List.getElem_toArray, List.getElem_cons_zero, List.getElem_cons_succ])
  refine wpAnyH_take (i := 2) (v := ?_) rfl (by kernel_rfl) (by kernel_rfl) (by kernel_rfl) (fun _ _ _ h => h) (Or.inl ⟨by rfl, ?_⟩) (by assumption) ?_
  rotate_left
  · intro wS hSw; first | ((refine exec_load_row 38 (.tmp 3) ?_ ?_ hSw.1 Try.underlying38 rfl (by kernel_rfl)) <;> rfl) | ((refine exec_load_row 38 (.tmp 3) ?_ ?_ hSw.2 Try.underlying38 rfl (by kernel_rfl)) <;> rfl)
  (try simp only [Act.put, List.setIfInBounds_toArray, List.set_cons_zero, List.set_cons_succ, List.getElem_toArray, List.getElem_cons_zero, List.getElem_cons_succ])
  refine wpAnyH_ready (rs := [3]) (by kernel_rfl) (by simp) ?_
  refine AllReadyH.cons rfl (fun K hK => ?_) ?_
  · go_simp
    (first | (go_at_call 84; (with_reducible refine (within_go s t h HW.out _).mono ?_); rintro e wk ⟨rfl, hb⟩; have HM' := HM.out.step hb; have hz := HM'.grownIn.size; replace HM := Lib.hid HM'; clear HM') | (go_at_call 85; (with_reducible refine (HC.out _).mono ?_); rintro e wk ⟨rfl, hb⟩; have HM' := HM.out.step hb; have hz := HM'.grownIn.size; replace HM := Lib.hid HM'; clear HM') | (go_at_call 86; (with_reducible refine (HU.out _).mono ?_); rintro e wk ⟨rfl, hb⟩; have HM' := HM.out.step hb; have hz := HM'.grownIn.size; replace HM := Lib.hid HM'; clear HM'))
    (try (go_wp2_with fail))
    refine hK.out _ _ ?_ (fun hHeld => ?_)
    · exact ⟨HM.out.at_ 0 rfl, HM.out.at_ 1 rfl⟩
    clear hK K
    (try simp only [Act.put, List.setIfInBounds_toArray, List.set_cons_zero, List.set_cons_succ, List.getElem_toArray, List.getElem_cons_zero, List.getElem_cons_succ])
    refine wpAnyH_take (i := 4) (v := ?_) rfl (by kernel_rfl) (by kernel_rfl) (by kernel_rfl) (fun _ _ _ h => h) (Or.inl ⟨by rfl, ?_⟩) (by assumption) ?_
    rotate_left
    · intro wS hSw; (refine exec_eqlH (.tmp 5) (.tmp 8) ?_ ?_ ?_ (HE.out _)) <;> rfl
    (try simp only [Act.put, List.setIfInBounds_toArray, List.set_cons_zero, List.set_cons_succ, List.getElem_toArray, List.getElem_cons_zero, List.getElem_cons_succ])
    refine wpAnyH_take (i := 5) (v := ?_) rfl (by kernel_rfl) (by kernel_rfl) (by kernel_rfl) (fun _ _ _ h => h) (Or.inl ⟨by rfl, ?_⟩) (by assumption) ?_
    rotate_left
    · intro wS hSw; go_simp; (try (with_reducible rfl))
    (try simp only [Act.put, List.setIfInBounds_toArray, List.set_cons_zero, List.set_cons_succ, List.getElem_toArray, List.getElem_cons_zero, List.getElem_cons_succ])
    refine wpAnyH_take (i := 6) (v := ?_) rfl (by kernel_rfl) (by kernel_rfl) (by kernel_rfl) (fun _ _ _ h => h) (Or.inl ⟨by rfl, ?_⟩) (by assumption) ?_
    rotate_left
    · intro wS hSw; go_simp; (try (with_reducible rfl))
    (try simp only [Act.put, List.setIfInBounds_toArray, List.set_cons_zero, List.set_cons_succ, List.getElem_toArray, List.getElem_cons_zero, List.getElem_cons_succ])
    refine wpAnyH_take (i := 7) (v := ?_) rfl (by kernel_rfl) (by kernel_rfl) (by kernel_rfl) (fun _ _ _ h => h) (Or.inl ⟨by rfl, ?_⟩) (by assumption) ?_
    rotate_left
    · intro wS hSw; (refine exec_loadm 33 (.tmp 11) ?_ ?_ hSw.2 (j := 1) (sub := #[.int .i64 h.code, .int .i64 h.val]) ?_ Try.underlying33 rfl (by kernel_rfl)) <;> rfl
    (try simp only [Act.put, List.setIfInBounds_toArray, List.set_cons_zero, List.set_cons_succ, List.getElem_toArray, List.getElem_cons_zero, List.getElem_cons_succ])
    refine wpAnyH_ready (rs := [8]) (by kernel_rfl) (by simp) ?_
    refine AllReadyH.cons rfl (fun K hK => ?_) ?_
    · go_simp
      (first | (go_at_call 84; (with_reducible refine (within_go s t h HW.out _).mono ?_); rintro e wk ⟨rfl, hb⟩; have HM' := HM.out.step hb; have hz := HM'.grownIn.size; replace HM := Lib.hid HM'; clear HM') | (go_at_call 85; (with_reducible refine (HC.out _).mono ?_); rintro e wk ⟨rfl, hb⟩; have HM' := HM.out.step hb; have hz := HM'.grownIn.size; replace HM := Lib.hid HM'; clear HM') | (go_at_call 86; (with_reducible refine (HU.out _).mono ?_); rintro e wk ⟨rfl, hb⟩; have HM' := HM.out.step hb; have hz := HM'.grownIn.size; replace HM := Lib.hid HM'; clear HM'))
      (try (go_wp2_with fail))
      refine hK.out _ _ ?_ (fun hHeld => ?_)
      · exact ⟨HM.out.at_ 0 rfl, HM.out.at_ 1 rfl⟩
      clear hK K
      (try simp only [Act.put, List.setIfInBounds_toArray, List.set_cons_zero, List.set_cons_succ, List.getElem_toArray, List.getElem_cons_zero, List.getElem_cons_succ])
      refine wpAnyH_take (i := 9) (v := ?_) rfl (by kernel_rfl) (by kernel_rfl) (by kernel_rfl) (fun _ _ _ h => h) (Or.inl ⟨by rfl, ?_⟩) (by assumption) ?_
      rotate_left
      · intro wS hSw; go_simp; (try (with_reducible rfl))
      (try simp only [Act.put, List.setIfInBounds_toArray, List.set_cons_zero, List.set_cons_succ, List.getElem_toArray, List.getElem_cons_zero, List.getElem_cons_succ])
      refine wpAnyH_take (i := 10) (v := undef) rfl (by kernel_rfl) (by kernel_rfl) (by kernel_rfl) (fun _ _ _ h => h) (Or.inr ⟨by rfl, rfl⟩) (by assumption) ?_
      (try simp only [Act.put, List.setIfInBounds_toArray, List.set_cons_zero, List.set_cons_succ, List.getElem_toArray, List.getElem_cons_zero, List.getElem_cons_succ])
      refine wpAnyH_take (i := 11) (v := undef) rfl (by kernel_rfl) (by kernel_rfl) (by kernel_rfl) (fun _ _ _ h => h) (Or.inr ⟨by rfl, rfl⟩) (by assumption) ?_
      (try simp only [Act.put, List.setIfInBounds_toArray, List.set_cons_zero, List.set_cons_succ, List.getElem_toArray, List.getElem_cons_zero, List.getElem_cons_succ])
      refine wpAnyH_take (i := 12) (v := ?_) rfl (by kernel_rfl) (by kernel_rfl) (by kernel_rfl) (fun _ _ _ h => h) (Or.inl ⟨by rfl, ?_⟩) (by assumption) ?_
      rotate_left
      · intro wS hSw; go_simp; (try (with_reducible rfl))
      (try simp only [Act.put, List.setIfInBounds_toArray, List.set_cons_zero, List.set_cons_succ, List.getElem_toArray, List.getElem_cons_zero, List.getElem_cons_succ])
      refine wpAnyH_take (i := 13) (v := ?_) rfl (by kernel_rfl) (by kernel_rfl) (by kernel_rfl) (fun _ _ _ h => h) (Or.inl ⟨by rfl, ?_⟩) (by assumption) ?_
      rotate_left
      · intro wS hSw; go_simp; (try (with_reducible rfl))
      (try simp only [Act.put, List.setIfInBounds_toArray, List.set_cons_zero, List.set_cons_succ, List.getElem_toArray, List.getElem_cons_zero, List.getElem_cons_succ])
      refine wpAnyH_take (i := 14) (v := ?_) rfl (by kernel_rfl) (by kernel_rfl) (by kernel_rfl) (fun _ _ _ h => h) (Or.inl ⟨by rfl, ?_⟩) (by assumption) ?_
      rotate_left
      · intro wS hSw; go_simp; (try (with_reducible rfl))
      (try simp only [Act.put, List.setIfInBounds_toArray, List.set_cons_zero, List.set_cons_succ, List.getElem_toArray, List.getElem_cons_zero, List.getElem_cons_succ])
      refine wpAnyH_done (by kernel_rfl) ?_ _
      refine NoPanic.normal ?_
      go_wp2_with fail
      go_ret
      exact ⟨rfl, HM.out.grownIn.below⟩
    exact AllReadyH.nil
  exact AllReadyH.nil

set_option maxRecDepth 100000 in
set_option maxHeartbeats 4000000 in
theorem hRight_rest (s t : Int) (h : Hd) (hp : okP s t) (hi : (inB h.at_ 0 19 && inB h.ring 0 1 && inB h.tick 0 1000001 && inB h.word 0 100000000 && inB h.tail 0 1000001 && inB h.head 0 1000001 && inB h.index (-1) (s - 1) && inB h.begin_ 0 20000 && inB h.reply 0 4 && inB h.out 0 999999) = true) (hc : callB h.code h.val = false) (w : World) :
    Calls Try.prog 71 #[.agg #[.int .i64 h.at_, .int .i64 h.code, .int .i64 h.val, .int .i64 h.ring, .int .i64 h.tick, .int .i64 h.word, .int .i64 h.tail, .int .i64 h.head, .int .i64 h.index, .int .i64 h.begin_, .int .i64 h.reply, .int .i64 h.out], .agg #[.int .i64 s, .int .i64 t]] w fun e w' => e = .returned (.bool (h.at_ == 0 && (h.code == 0 && h.val == 0))) ∧ Below w.heap.size w w' := by
  obtain ⟨g1, g2⟩ := okP_le hp
  have HW := Lib.hid (show IntKind.i64.wrap (s - 1) = s - 1 by rw [IntKind.wrap_i64]; omega)
  have HE := Lib.hid (within_eq s t h (by omega))
  rw [hi] at HE
  have HC := Lib.hid (callRight h.code h.val)
  rw [hc] at HC
  clear hc
  have HU := Lib.hid (restsUn h)
  generalize (h.at_ == 0 && (h.code == 0 && h.val == 0)) = U at *
  have HM := Lib.hid (Mem.start [] w)
  clear hi hp g1 g2
  go_enter Try.func71, Try.ntmps71
  go_upto_region 1 with (first | ((first | refine gen_list (HM.out.new _) ?_ | refine gen_code (HM.out.new _) ?_); intro w' HM'; have hz := HM'.grownIn.size; replace HM := Lib.hid HM'; clear HM') | (refine wpl_loadc rfl 2 _ rfl rfl (by first | exact HM.out.at_ 0 rfl | exact HM.out.at_ 1 rfl) (by first | rfl | assumption) Try.underlying2 rfl ?_; (try simp only [Act.put, List.setIfInBounds_toArray, List.set_cons_zero, List.set_cons_succ, List.getElem_toArray, List.getElem_cons_zero, List.getElem_cons_succ])) | (refine wpl_loadw rfl 38 _ rfl rfl (by first | exact HM.out.at_ 0 rfl | exact HM.out.at_ 1 rfl) Try.underlying38 rfl (by kernel_rfl) ?_; (try simp only [Act.put, List.setIfInBounds_toArray, List.set_cons_zero, List.set_cons_succ, List.getElem_toArray, List.getElem_cons_zero, List.getElem_cons_succ])) | (refine wpl_loadw rfl 35 _ rfl rfl (by first | exact HM.out.at_ 0 rfl | exact HM.out.at_ 1 rfl) Try.underlying35 rfl (by kernel_rfl) ?_; (try simp only [Act.put, List.setIfInBounds_toArray, List.set_cons_zero, List.set_cons_succ, List.getElem_toArray, List.getElem_cons_zero, List.getElem_cons_succ])) | (refine wpl_loadw rfl 33 _ rfl rfl (by first | exact HM.out.at_ 0 rfl | exact HM.out.at_ 1 rfl) Try.underlying33 rfl (by kernel_rfl) ?_; (try simp only [Act.put, List.setIfInBounds_toArray, List.set_cons_zero, List.set_cons_succ, List.getElem_toArray, List.getElem_cons_zero, List.getElem_cons_succ])) | (refine wpl_storec HM.out rfl 2 _ _ rfl rfl (by first | exact (rfl : (_ : List (Nat × Obj))[0]? = _) | exact (rfl : (_ : List (Nat × Obj))[1]? = _)) (by first | (go_simp; done) | (go_simp; rfl) | rfl) (by first | (simp; done) | assumption) (by kernel_rfl) (by rfl) (by rfl) (by first | (left; omega) | (right; simp; done)) (by first | (simp only [List.setIfInBounds_toArray, List.set_cons_zero, List.set_cons_succ]; done) | (simp only [List.setIfInBounds_toArray, List.set_cons_zero, List.set_cons_succ]; rfl) | rfl) (by first | (simp only [List.setIfInBounds_toArray, List.set_cons_zero, List.set_cons_succ]; done) | (simp only [List.setIfInBounds_toArray, List.set_cons_zero, List.set_cons_succ]; rfl) | rfl) ?_; intro w' HM'; have hz := HM'.grownIn.size; replace HM := Lib.hid HM'; clear HM'; (try simp only [Act.put, List.setIfInBounds_toArray, List.set_cons_zero, List.set_cons_succ, List.getElem_toArray, List.getElem_cons_zero, List.getElem_cons_succ])) | (refine wpl_storew HM.out rfl 38 _ _ rfl rfl (by first | exact (rfl : (_ : List (Nat × Obj))[0]? = _) | exact (rfl : (_ : List (Nat × Obj))[1]? = _)) (by first | (go_simp; done) | (go_simp; rfl) | rfl) (by kernel_rfl) (by rfl) (by simp [Value.oneCell']) (by first | (left; omega) | (right; simp; done)) (by first | (simp only [List.setIfInBounds_toArray, List.set_cons_zero, List.set_cons_succ]; done) | (simp only [List.setIfInBounds_toArray, List.set_cons_zero, List.set_cons_succ]; rfl) | rfl) ?_; intro w' HM'; have hz := HM'.grownIn.size; replace HM := Lib.hid HM'; clear HM'; (try simp only [Act.put, List.setIfInBounds_toArray, List.set_cons_zero, List.set_cons_succ, List.getElem_toArray, List.getElem_cons_zero, List.getElem_cons_succ])) | (refine wpl_storew HM.out rfl 35 _ _ rfl rfl (by first | exact (rfl : (_ : List (Nat × Obj))[0]? = _) | exact (rfl : (_ : List (Nat × Obj))[1]? = _)) (by first | (go_simp; done) | (go_simp; rfl) | rfl) (by kernel_rfl) (by rfl) (by simp [Value.oneCell']) (by first | (left; omega) | (right; simp; done)) (by first | (simp only [List.setIfInBounds_toArray, List.set_cons_zero, List.set_cons_succ]; done) | (simp only [List.setIfInBounds_toArray, List.set_cons_zero, List.set_cons_succ]; rfl) | rfl) ?_; intro w' HM'; have hz := HM'.grownIn.size; replace HM := Lib.hid HM'; clear HM'; (try simp only [Act.put, List.setIfInBounds_toArray, List.set_cons_zero, List.set_cons_succ, List.getElem_toArray, List.getElem_cons_zero, List.getElem_cons_succ])) | (refine wpl_storew HM.out rfl 33 _ _ rfl rfl (by first | exact (rfl : (_ : List (Nat × Obj))[0]? = _) | exact (rfl : (_ : List (Nat × Obj))[1]? = _)) (by first | (go_simp; done) | (go_simp; rfl) | rfl) (by kernel_rfl) (by rfl) (by simp [Value.oneCell']) (by first | (left; omega) | (right; simp; done)) (by first | (simp only [List.setIfInBounds_toArray, List.set_cons_zero, List.set_cons_succ]; done) | (simp only [List.setIfInBounds_toArray, List.set_cons_zero, List.set_cons_succ]; rfl) | rfl) ?_; intro w' HM'; have hz := HM'.grownIn.size; replace HM := Lib.hid HM'; clear HM'; (try simp only [Act.put, List.setIfInBounds_toArray, List.set_cons_zero, List.set_cons_succ, List.getElem_toArray, List.getElem_cons_zero, List.getElem_cons_succ])))
  refine wp_region_noPanic ?_
  replace HM := Lib.hid HM.out.drew
  refine wp_region_held_drew (S := Keep2_0 _ _ _ _) (by kernel_rfl) (⟨HM.out.at_ 0 rfl, HM.out.at_ 1 rfl⟩) (fun hHeld => ?_)
  refine wpAnyH_take (i := 0) (v := ?_) rfl (by kernel_rfl) (by kernel_rfl) (by kernel_rfl) (fun _ _ _ h => h) (Or.inl ⟨by rfl, ?_⟩) (by assumption) ?_
  rotate_left
  · intro wS hSw; first | ((refine exec_load_row 35 (.tmp 2) ?_ ?_ hSw.1 Try.underlying35 rfl (by kernel_rfl)) <;> rfl) | ((refine exec_load_row 35 (.tmp 2) ?_ ?_ hSw.2 Try.underlying35 rfl (by kernel_rfl)) <;> rfl)
  (try simp only [Act.put, List.setIfInBounds_toArray, List.set_cons_zero, List.set_cons_succ, List.getElem_toArray, List.getElem_cons_zero, List.getElem_cons_succ])
  refine wpAnyH_take (i := 1) (v := ?_) rfl (by kernel_rfl) (by kernel_rfl) (by kernel_rfl) (fun _ _ _ h => h) (Or.inl ⟨by rfl, ?_⟩) (by assumption) ?_
  rotate_left
  · intro wS hSw; first | ((refine exec_load_row 35 (.tmp 2) ?_ ?_ hSw.1 Try.underlying35 rfl (by kernel_rfl)) <;> rfl) | ((refine exec_load_row 35 (.tmp 2) ?_ ?_ hSw.2 Try.underlying35 rfl (by kernel_rfl)) <;> rfl)
  (try simp only [Act.put, List.setIfInBounds_toArray, List.set_cons_zero, List.set_cons_succ, List.getElem_toArray, List.getElem_cons_zero, List.getElem_cons_succ])
  refine wpAnyH_take (i := 2) (v := ?_) rfl (by kernel_rfl) (by kernel_rfl) (by kernel_rfl) (fun _ _ _ h => h) (Or.inl ⟨by rfl, ?_⟩) (by assumption) ?_
  rotate_left
  · intro wS hSw; first | ((refine exec_load_row 38 (.tmp 3) ?_ ?_ hSw.1 Try.underlying38 rfl (by kernel_rfl)) <;> rfl) | ((refine exec_load_row 38 (.tmp 3) ?_ ?_ hSw.2 Try.underlying38 rfl (by kernel_rfl)) <;> rfl)
  (try simp only [Act.put, List.setIfInBounds_toArray, List.set_cons_zero, List.set_cons_succ, List.getElem_toArray, List.getElem_cons_zero, List.getElem_cons_succ])
  refine wpAnyH_ready (rs := [3]) (by kernel_rfl) (by simp) ?_
  refine AllReadyH.cons rfl (fun K hK => ?_) ?_
  · go_simp
    (first | (go_at_call 84; (with_reducible refine (within_go s t h HW.out _).mono ?_); rintro e wk ⟨rfl, hb⟩; have HM' := HM.out.step hb; have hz := HM'.grownIn.size; replace HM := Lib.hid HM'; clear HM') | (go_at_call 85; (with_reducible refine (HC.out _).mono ?_); rintro e wk ⟨rfl, hb⟩; have HM' := HM.out.step hb; have hz := HM'.grownIn.size; replace HM := Lib.hid HM'; clear HM') | (go_at_call 86; (with_reducible refine (HU.out _).mono ?_); rintro e wk ⟨rfl, hb⟩; have HM' := HM.out.step hb; have hz := HM'.grownIn.size; replace HM := Lib.hid HM'; clear HM'))
    (try (go_wp2_with fail))
    refine hK.out _ _ ?_ (fun hHeld => ?_)
    · exact ⟨HM.out.at_ 0 rfl, HM.out.at_ 1 rfl⟩
    clear hK K
    (try simp only [Act.put, List.setIfInBounds_toArray, List.set_cons_zero, List.set_cons_succ, List.getElem_toArray, List.getElem_cons_zero, List.getElem_cons_succ])
    refine wpAnyH_take (i := 4) (v := ?_) rfl (by kernel_rfl) (by kernel_rfl) (by kernel_rfl) (fun _ _ _ h => h) (Or.inl ⟨by rfl, ?_⟩) (by assumption) ?_
    rotate_left
    · intro wS hSw; (refine exec_eqlH (.tmp 5) (.tmp 8) ?_ ?_ ?_ (HE.out _)) <;> rfl
    (try simp only [Act.put, List.setIfInBounds_toArray, List.set_cons_zero, List.set_cons_succ, List.getElem_toArray, List.getElem_cons_zero, List.getElem_cons_succ])
    refine wpAnyH_take (i := 5) (v := ?_) rfl (by kernel_rfl) (by kernel_rfl) (by kernel_rfl) (fun _ _ _ h => h) (Or.inl ⟨by rfl, ?_⟩) (by assumption) ?_
    rotate_left
    · intro wS hSw; go_simp; (try (with_reducible rfl))
    (try simp only [Act.put, List.setIfInBounds_toArray, List.set_cons_zero, List.set_cons_succ, List.getElem_toArray, List.getElem_cons_zero, List.getElem_cons_succ])
    refine wpAnyH_take (i := 6) (v := ?_) rfl (by kernel_rfl) (by kernel_rfl) (by kernel_rfl) (fun _ _ _ h => h) (Or.inl ⟨by rfl, ?_⟩) (by assumption) ?_
    rotate_left
    · intro wS hSw; go_simp; (try (with_reducible rfl))
    (try simp only [Act.put, List.setIfInBounds_toArray, List.set_cons_zero, List.set_cons_succ, List.getElem_toArray, List.getElem_cons_zero, List.getElem_cons_succ])
    refine wpAnyH_take (i := 7) (v := ?_) rfl (by kernel_rfl) (by kernel_rfl) (by kernel_rfl) (fun _ _ _ h => h) (Or.inl ⟨by rfl, ?_⟩) (by assumption) ?_
    rotate_left
    · intro wS hSw; (refine exec_loadm 33 (.tmp 11) ?_ ?_ hSw.2 (j := 1) (sub := #[.int .i64 h.code, .int .i64 h.val]) ?_ Try.underlying33 rfl (by kernel_rfl)) <;> rfl
    (try simp only [Act.put, List.setIfInBounds_toArray, List.set_cons_zero, List.set_cons_succ, List.getElem_toArray, List.getElem_cons_zero, List.getElem_cons_succ])
    refine wpAnyH_ready (rs := [8]) (by kernel_rfl) (by simp) ?_
    refine AllReadyH.cons rfl (fun K hK => ?_) ?_
    · go_simp
      (first | (go_at_call 84; (with_reducible refine (within_go s t h HW.out _).mono ?_); rintro e wk ⟨rfl, hb⟩; have HM' := HM.out.step hb; have hz := HM'.grownIn.size; replace HM := Lib.hid HM'; clear HM') | (go_at_call 85; (with_reducible refine (HC.out _).mono ?_); rintro e wk ⟨rfl, hb⟩; have HM' := HM.out.step hb; have hz := HM'.grownIn.size; replace HM := Lib.hid HM'; clear HM') | (go_at_call 86; (with_reducible refine (HU.out _).mono ?_); rintro e wk ⟨rfl, hb⟩; have HM' := HM.out.step hb; have hz := HM'.grownIn.size; replace HM := Lib.hid HM'; clear HM'))
      (try (go_wp2_with fail))
      refine hK.out _ _ ?_ (fun hHeld => ?_)
      · exact ⟨HM.out.at_ 0 rfl, HM.out.at_ 1 rfl⟩
      clear hK K
      (try simp only [Act.put, List.setIfInBounds_toArray, List.set_cons_zero, List.set_cons_succ, List.getElem_toArray, List.getElem_cons_zero, List.getElem_cons_succ])
      refine wpAnyH_take (i := 9) (v := ?_) rfl (by kernel_rfl) (by kernel_rfl) (by kernel_rfl) (fun _ _ _ h => h) (Or.inl ⟨by rfl, ?_⟩) (by assumption) ?_
      rotate_left
      · intro wS hSw; go_simp; (try (with_reducible rfl))
      (try simp only [Act.put, List.setIfInBounds_toArray, List.set_cons_zero, List.set_cons_succ, List.getElem_toArray, List.getElem_cons_zero, List.getElem_cons_succ])
      refine wpAnyH_take (i := 10) (v := ?_) rfl (by kernel_rfl) (by kernel_rfl) (by kernel_rfl) (fun _ _ _ h => h) (Or.inl ⟨by rfl, ?_⟩) (by assumption) ?_
      rotate_left
      · intro wS hSw; first | ((refine exec_load_row 35 (.tmp 2) ?_ ?_ hSw.1 Try.underlying35 rfl (by kernel_rfl)) <;> rfl) | ((refine exec_load_row 35 (.tmp 2) ?_ ?_ hSw.2 Try.underlying35 rfl (by kernel_rfl)) <;> rfl)
      (try simp only [Act.put, List.setIfInBounds_toArray, List.set_cons_zero, List.set_cons_succ, List.getElem_toArray, List.getElem_cons_zero, List.getElem_cons_succ])
      refine wpAnyH_ready (rs := [11]) (by kernel_rfl) (by simp) ?_
      refine AllReadyH.cons rfl (fun K hK => ?_) ?_
      · go_simp
        (first | (go_at_call 84; (with_reducible refine (within_go s t h HW.out _).mono ?_); rintro e wk ⟨rfl, hb⟩; have HM' := HM.out.step hb; have hz := HM'.grownIn.size; replace HM := Lib.hid HM'; clear HM') | (go_at_call 85; (with_reducible refine (HC.out _).mono ?_); rintro e wk ⟨rfl, hb⟩; have HM' := HM.out.step hb; have hz := HM'.grownIn.size; replace HM := Lib.hid HM'; clear HM') | (go_at_call 86; (with_reducible refine (HU.out _).mono ?_); rintro e wk ⟨rfl, hb⟩; have HM' := HM.out.step hb; have hz := HM'.grownIn.size; replace HM := Lib.hid HM'; clear HM'))
        (try (go_wp2_with fail))
        refine hK.out _ _ ?_ (fun hHeld => ?_)
        · exact ⟨HM.out.at_ 0 rfl, HM.out.at_ 1 rfl⟩
        clear hK K
        (try simp only [Act.put, List.setIfInBounds_toArray, List.set_cons_zero, List.set_cons_succ, List.getElem_toArray, List.getElem_cons_zero, List.getElem_cons_succ])
        refine wpAnyH_take (i := 12) (v := ?_) rfl (by kernel_rfl) (by kernel_rfl) (by kernel_rfl) (fun _ _ _ h => h) (Or.inl ⟨by rfl, ?_⟩) (by assumption) ?_
        rotate_left
        · intro wS hSw; go_simp; (try (with_reducible rfl))
        (try simp only [Act.put, List.setIfInBounds_toArray, List.set_cons_zero, List.set_cons_succ, List.getElem_toArray, List.getElem_cons_zero, List.getElem_cons_succ])
        refine wpAnyH_take (i := 13) (v := ?_) rfl (by kernel_rfl) (by kernel_rfl) (by kernel_rfl) (fun _ _ _ h => h) (Or.inl ⟨by rfl, ?_⟩) (by assumption) ?_
        rotate_left
        · intro wS hSw; go_simp; (try (with_reducible rfl))
        (try simp only [Act.put, List.setIfInBounds_toArray, List.set_cons_zero, List.set_cons_succ, List.getElem_toArray, List.getElem_cons_zero, List.getElem_cons_succ])
        refine wpAnyH_take (i := 14) (v := ?_) rfl (by kernel_rfl) (by kernel_rfl) (by kernel_rfl) (fun _ _ _ h => h) (Or.inl ⟨by rfl, ?_⟩) (by assumption) ?_
        rotate_left
        · intro wS hSw; go_simp; (try (with_reducible rfl))
        (try simp only [Act.put, List.setIfInBounds_toArray, List.set_cons_zero, List.set_cons_succ, List.getElem_toArray, List.getElem_cons_zero, List.getElem_cons_succ])
        refine wpAnyH_done (by kernel_rfl) ?_ _
        refine NoPanic.normal ?_
        go_wp2_with fail
        go_ret
        exact ⟨rfl, HM.out.grownIn.below⟩
      exact AllReadyH.nil
    exact AllReadyH.nil
  exact AllReadyH.nil

theorem hRight (s t : Int) (h : Hd) (hp : okP s t) (w : World) :
    Calls Try.prog 71 #[.agg #[.int .i64 h.at_, .int .i64 h.code, .int .i64 h.val, .int .i64 h.ring, .int .i64 h.tick, .int .i64 h.word, .int .i64 h.tail, .int .i64 h.head, .int .i64 h.index, .int .i64 h.begin_, .int .i64 h.reply, .int .i64 h.out], .agg #[.int .i64 s, .int .i64 t]] w fun e w' => e = .returned (.bool (handB s t h)) ∧ Below w.heap.size w w' := by
  cases hi : (inB h.at_ 0 19 && inB h.ring 0 1 && inB h.tick 0 1000001 && inB h.word 0 100000000 && inB h.tail 0 1000001 && inB h.head 0 1000001 && inB h.index (-1) (s - 1) && inB h.begin_ 0 20000 && inB h.reply 0 4 && inB h.out 0 999999)
  · rw [handB_out hi]; exact hRight_out s t h hp hi w
  · rw [handB_in hp hi]
    cases hc : callB h.code h.val
    · rw [Bool.false_or]; exact hRight_rest s t h hp hi hc w
    · rw [Bool.true_or]; exact hRight_call s t h hp hi hc w

theorem handOk_no (s t : Int) (h : Hd) (hp : ¬ okP s t) (w : World) :
    Calls Try.prog 54 #[.agg #[.int .i64 s, .int .i64 t], .agg #[.int .i64 h.at_, .int .i64 h.code, .int .i64 h.val, .int .i64 h.ring, .int .i64 h.tick, .int .i64 h.word, .int .i64 h.tail, .int .i64 h.head, .int .i64 h.index, .int .i64 h.begin_, .int .i64 h.reply, .int .i64 h.out]] w fun e w' => e = .returned (.bool false) ∧ Below w.heap.size w w' := by
  have HM := Lib.hid (Mem.start [] w)
  have HP := Lib.hid (right_no s t hp)
  clear hp
  go_enter Try.func54, Try.ntmps54
  go_wp2_with (first | ((first | refine gen_list (HM.out.new _) ?_ | refine gen_code (HM.out.new _) ?_); intro w' HM'; have hz := HM'.grownIn.size; replace HM := Lib.hid HM'; clear HM') | (refine wpl_loadc rfl 2 _ rfl rfl (by first | exact HM.out.at_ 0 rfl | exact HM.out.at_ 1 rfl) (by first | rfl | assumption) Try.underlying2 rfl ?_; (try simp only [Act.put, List.setIfInBounds_toArray, List.set_cons_zero, List.set_cons_succ, List.getElem_toArray, List.getElem_cons_zero, List.getElem_cons_succ])) | (refine wpl_loadw rfl 38 _ rfl rfl (by first | exact HM.out.at_ 0 rfl | exact HM.out.at_ 1 rfl) Try.underlying38 rfl (by kernel_rfl) ?_; (try simp only [Act.put, List.setIfInBounds_toArray, List.set_cons_zero, List.set_cons_succ, List.getElem_toArray, List.getElem_cons_zero, List.getElem_cons_succ])) | (refine wpl_loadw rfl 35 _ rfl rfl (by first | exact HM.out.at_ 0 rfl | exact HM.out.at_ 1 rfl) Try.underlying35 rfl (by kernel_rfl) ?_; (try simp only [Act.put, List.setIfInBounds_toArray, List.set_cons_zero, List.set_cons_succ, List.getElem_toArray, List.getElem_cons_zero, List.getElem_cons_succ])) | (refine wpl_storec HM.out rfl 2 _ _ rfl rfl (by first | exact (rfl : (_ : List (Nat × Obj))[0]? = _) | exact (rfl : (_ : List (Nat × Obj))[1]? = _)) (by first | (go_simp; done) | (go_simp; rfl) | rfl) (by first | (simp; done) | assumption) (by kernel_rfl) (by rfl) (by rfl) (by first | (left; omega) | (right; simp; done)) (by first | (simp only [List.setIfInBounds_toArray, List.set_cons_zero, List.set_cons_succ]; done) | (simp only [List.setIfInBounds_toArray, List.set_cons_zero, List.set_cons_succ]; rfl) | rfl) (by first | (simp only [List.setIfInBounds_toArray, List.set_cons_zero, List.set_cons_succ]; done) | (simp only [List.setIfInBounds_toArray, List.set_cons_zero, List.set_cons_succ]; rfl) | rfl) ?_; intro w' HM'; have hz := HM'.grownIn.size; replace HM := Lib.hid HM'; clear HM'; (try simp only [Act.put, List.setIfInBounds_toArray, List.set_cons_zero, List.set_cons_succ, List.getElem_toArray, List.getElem_cons_zero, List.getElem_cons_succ])) | (refine wpl_storew HM.out rfl 38 _ _ rfl rfl (by first | exact (rfl : (_ : List (Nat × Obj))[0]? = _) | exact (rfl : (_ : List (Nat × Obj))[1]? = _)) (by first | (go_simp; done) | (go_simp; rfl) | rfl) (by kernel_rfl) (by rfl) (by simp [Value.oneCell']) (by first | (left; omega) | (right; simp; done)) (by first | (simp only [List.setIfInBounds_toArray, List.set_cons_zero, List.set_cons_succ]; done) | (simp only [List.setIfInBounds_toArray, List.set_cons_zero, List.set_cons_succ]; rfl) | rfl) ?_; intro w' HM'; have hz := HM'.grownIn.size; replace HM := Lib.hid HM'; clear HM'; (try simp only [Act.put, List.setIfInBounds_toArray, List.set_cons_zero, List.set_cons_succ, List.getElem_toArray, List.getElem_cons_zero, List.getElem_cons_succ])) | (refine wpl_storew HM.out rfl 35 _ _ rfl rfl (by first | exact (rfl : (_ : List (Nat × Obj))[0]? = _) | exact (rfl : (_ : List (Nat × Obj))[1]? = _)) (by first | (go_simp; done) | (go_simp; rfl) | rfl) (by kernel_rfl) (by rfl) (by simp [Value.oneCell']) (by first | (left; omega) | (right; simp; done)) (by first | (simp only [List.setIfInBounds_toArray, List.set_cons_zero, List.set_cons_succ]; done) | (simp only [List.setIfInBounds_toArray, List.set_cons_zero, List.set_cons_succ]; rfl) | rfl) ?_; intro w' HM'; have hz := HM'.grownIn.size; replace HM := Lib.hid HM'; clear HM'; (try simp only [Act.put, List.setIfInBounds_toArray, List.set_cons_zero, List.set_cons_succ, List.getElem_toArray, List.getElem_cons_zero, List.getElem_cons_succ])) | (go_at_call 69; (with_reducible refine (HP.out _).mono ?_); rintro e wk ⟨rfl, hb⟩; have HM' := HM.out.step hb; have hz := HM'.grownIn.size; replace HM := Lib.hid HM'; clear HM'))
  go_ret
  exact ⟨rfl, HM.out.grownIn.below⟩

theorem handOk_yes (s t : Int) (h : Hd) (hp : okP s t) (w : World) :
    Calls Try.prog 54 #[.agg #[.int .i64 s, .int .i64 t], .agg #[.int .i64 h.at_, .int .i64 h.code, .int .i64 h.val, .int .i64 h.ring, .int .i64 h.tick, .int .i64 h.word, .int .i64 h.tail, .int .i64 h.head, .int .i64 h.index, .int .i64 h.begin_, .int .i64 h.reply, .int .i64 h.out]] w fun e w' => e = .returned (.bool (handB s t h)) ∧ Below w.heap.size w w' := by
  have HM := Lib.hid (Mem.start [] w)
  have HP := Lib.hid (right_yes s t hp)
  have HR := Lib.hid (hRight s t h hp)
  clear hp
  go_enter Try.func54, Try.ntmps54
  go_wp2_with (first | ((first | refine gen_list (HM.out.new _) ?_ | refine gen_code (HM.out.new _) ?_); intro w' HM'; have hz := HM'.grownIn.size; replace HM := Lib.hid HM'; clear HM') | (refine wpl_loadc rfl 2 _ rfl rfl (by first | exact HM.out.at_ 0 rfl | exact HM.out.at_ 1 rfl) (by first | rfl | assumption) Try.underlying2 rfl ?_; (try simp only [Act.put, List.setIfInBounds_toArray, List.set_cons_zero, List.set_cons_succ, List.getElem_toArray, List.getElem_cons_zero, List.getElem_cons_succ])) | (refine wpl_loadw rfl 38 _ rfl rfl (by first | exact HM.out.at_ 0 rfl | exact HM.out.at_ 1 rfl) Try.underlying38 rfl (by kernel_rfl) ?_; (try simp only [Act.put, List.setIfInBounds_toArray, List.set_cons_zero, List.set_cons_succ, List.getElem_toArray, List.getElem_cons_zero, List.getElem_cons_succ])) | (refine wpl_loadw rfl 35 _ rfl rfl (by first | exact HM.out.at_ 0 rfl | exact HM.out.at_ 1 rfl) Try.underlying35 rfl (by kernel_rfl) ?_; (try simp only [Act.put, List.setIfInBounds_toArray, List.set_cons_zero, List.set_cons_succ, List.getElem_toArray, List.getElem_cons_zero, List.getElem_cons_succ])) | (refine wpl_storec HM.out rfl 2 _ _ rfl rfl (by first | exact (rfl : (_ : List (Nat × Obj))[0]? = _) | exact (rfl : (_ : List (Nat × Obj))[1]? = _)) (by first | (go_simp; done) | (go_simp; rfl) | rfl) (by first | (simp; done) | assumption) (by kernel_rfl) (by rfl) (by rfl) (by first | (left; omega) | (right; simp; done)) (by first | (simp only [List.setIfInBounds_toArray, List.set_cons_zero, List.set_cons_succ]; done) | (simp only [List.setIfInBounds_toArray, List.set_cons_zero, List.set_cons_succ]; rfl) | rfl) (by first | (simp only [List.setIfInBounds_toArray, List.set_cons_zero, List.set_cons_succ]; done) | (simp only [List.setIfInBounds_toArray, List.set_cons_zero, List.set_cons_succ]; rfl) | rfl) ?_; intro w' HM'; have hz := HM'.grownIn.size; replace HM := Lib.hid HM'; clear HM'; (try simp only [Act.put, List.setIfInBounds_toArray, List.set_cons_zero, List.set_cons_succ, List.getElem_toArray, List.getElem_cons_zero, List.getElem_cons_succ])) | (refine wpl_storew HM.out rfl 38 _ _ rfl rfl (by first | exact (rfl : (_ : List (Nat × Obj))[0]? = _) | exact (rfl : (_ : List (Nat × Obj))[1]? = _)) (by first | (go_simp; done) | (go_simp; rfl) | rfl) (by kernel_rfl) (by rfl) (by simp [Value.oneCell']) (by first | (left; omega) | (right; simp; done)) (by first | (simp only [List.setIfInBounds_toArray, List.set_cons_zero, List.set_cons_succ]; done) | (simp only [List.setIfInBounds_toArray, List.set_cons_zero, List.set_cons_succ]; rfl) | rfl) ?_; intro w' HM'; have hz := HM'.grownIn.size; replace HM := Lib.hid HM'; clear HM'; (try simp only [Act.put, List.setIfInBounds_toArray, List.set_cons_zero, List.set_cons_succ, List.getElem_toArray, List.getElem_cons_zero, List.getElem_cons_succ])) | (refine wpl_storew HM.out rfl 35 _ _ rfl rfl (by first | exact (rfl : (_ : List (Nat × Obj))[0]? = _) | exact (rfl : (_ : List (Nat × Obj))[1]? = _)) (by first | (go_simp; done) | (go_simp; rfl) | rfl) (by kernel_rfl) (by rfl) (by simp [Value.oneCell']) (by first | (left; omega) | (right; simp; done)) (by first | (simp only [List.setIfInBounds_toArray, List.set_cons_zero, List.set_cons_succ]; done) | (simp only [List.setIfInBounds_toArray, List.set_cons_zero, List.set_cons_succ]; rfl) | rfl) ?_; intro w' HM'; have hz := HM'.grownIn.size; replace HM := Lib.hid HM'; clear HM'; (try simp only [Act.put, List.setIfInBounds_toArray, List.set_cons_zero, List.set_cons_succ, List.getElem_toArray, List.getElem_cons_zero, List.getElem_cons_succ])) | (go_at_call 69; (with_reducible refine (HP.out _).mono ?_); rintro e wk ⟨rfl, hb⟩; have HM' := HM.out.step hb; have hz := HM'.grownIn.size; replace HM := Lib.hid HM'; clear HM') | (go_at_call 71; (with_reducible refine (HR.out _).mono ?_); rintro e wk ⟨rfl, hb⟩; have HM' := HM.out.step hb; have hz := HM'.grownIn.size; replace HM := Lib.hid HM'; clear HM'))
  go_ret
  exact ⟨rfl, HM.out.grownIn.below⟩

theorem iHandOk (s t : Int) (h : Hd) (w : World) :
    Calls Try.prog 54 #[.agg #[.int .i64 s, .int .i64 t], .agg #[.int .i64 h.at_, .int .i64 h.code, .int .i64 h.val, .int .i64 h.ring, .int .i64 h.tick, .int .i64 h.word, .int .i64 h.tail, .int .i64 h.head, .int .i64 h.index, .int .i64 h.begin_, .int .i64 h.reply, .int .i64 h.out]] w fun e w' => e = .returned (.bool (handB s t h)) ∧ Below w.heap.size w w' := by
  by_cases hp : okP s t
  · exact handOk_yes s t h hp w
  · rw [show handB s t h = false by unfold handB; rw [okB_no hp]; rfl]
    exact handOk_no s t h hp w

end Go.Proofs.Ytdpahikbikiilaa
