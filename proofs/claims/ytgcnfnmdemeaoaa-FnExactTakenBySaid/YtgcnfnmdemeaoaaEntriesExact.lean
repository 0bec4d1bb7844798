/- The exact laws of the entries' functions hold: whatever comes in, the program's function answers as its model: no condition. -/
import Derived.Test.YtgcnfnmdemeaoaaI5
import Derived.Test.YtgcnfnmdemeaoaaHeld
import Derived.Test.YtgcnfnmdemeaoaaS5b
import Derived.Test.YtgcnfnmdemeaoaaBytesRow
import Derived.Lib.SmallJoins
import Derived.Deep.RegionHeld3
import Derived.Deep.DeepCutAuto
namespace Go.Proofs.Ytgcnfnmdemeaoaa
open Go.ChangeShapes Go.WideShapes Go.ChangeAt Go.RowKit Go.Joins

set_option maxRecDepth 100000 in
set_option maxHeartbeats 2000000 in
theorem exactMayTake_walk (s0 t0 : Int) (c1 : Int) (b1 : Bool) (i1 : Int) (n2 : Int) (w : World) :
    Calls Try.prog 7 #[.agg #[.int .i64 s0, .int .i64 t0], .agg #[.int .i64 c1, .bool b1, .int .i64 i1], .int .i64 n2] w fun e w' => e = .returned (.bool true) ∧ Below w.heap.size w w' := by
  have hB0 := ((Below.refl w.heap.size w).alloc (by first | exact Nat.le_refl _ | (simp; done) | (simp; omega)) (.cells #[.int .i64 s0, .int .i64 t0] 34)).alloc (by first | exact Nat.le_refl _ | (simp; done) | (simp; omega)) (.cells #[.int .i64 c1, .bool b1, .int .i64 i1] 47)
  have hz0 : w.heap.size + 2 ≤ ((w.alloc (.cells #[.int .i64 s0, .int .i64 t0] 34)).alloc (.cells #[.int .i64 c1, .bool b1, .int .i64 i1] 47)).heap.size := by simp
  obtain ⟨f00, f01, -, -⟩ := blk_two (blk_alloc (o' := (.cells #[.int .i64 c1, .bool b1, .int .i64 i1] 47)) (blk_new w (.cells #[.int .i64 s0, .int .i64 t0] 34)))
  have hh1 := blk_new (w.alloc (.cells #[.int .i64 s0, .int .i64 t0] 34)) (.cells #[.int .i64 c1, .bool b1, .int .i64 i1] 47)
  simp only [World.size_alloc] at hh1
  obtain ⟨f10, f11, f12, -, -, -⟩ := blk_three hh1
  clear hh1
  go_enter Try.func7, Try.ntmps7
  go_wp2_with fail
  go_region_held3 (fun w' => w'.cell? ⟨w.heap.size, 0, none⟩ = some (.int .i64 s0) ∧ w'.cell? ⟨w.heap.size, 1, none⟩ = some (.int .i64 t0) ∧ w'.cell? ⟨(w.heap.size + 1), 0, none⟩ = some (.int .i64 c1) ∧ w'.cell? ⟨(w.heap.size + 1), 1, none⟩ = some (.bool b1) ∧ w'.cell? ⟨(w.heap.size + 1), 2, none⟩ = some (.int .i64 i1) ∧ Below w.heap.size w w' ∧ w.heap.size + 2 ≤ w'.heap.size)
    (first
      | exact ⟨f00, f01, f10, f11, f12, hB0, hz0⟩
      | exact ⟨f00, f01, f10, f11, f12, hB0.drew, hz0⟩
      | ((try go_split_ands)
         have zz := hbx.size
         exact ⟨(hbx.cell (by first | omega | (simp; done) | (simp; omega))).trans (by assumption), (hbx.cell (by first | omega | (simp; done) | (simp; omega))).trans (by assumption), (hbx.cell (by first | omega | (simp; done) | (simp; omega))).trans (by assumption), (hbx.cell (by first | omega | (simp; done) | (simp; omega))).trans (by assumption), (hbx.cell (by first | omega | (simp; done) | (simp; omega))).trans (by assumption), Below.trans (by assumption) (hbx.mono (by first | omega | (simp; omega))), by first | omega | (simp at zz; omega)⟩))
    ((first
      | (go_at_call 38; (with_reducible refine (toEntry_any _ _ _ _).mono ?_); rintro e wx ⟨rfl, hbx⟩)
      | (go_at_call 25; (with_reducible refine (toPlan_any _ _ _).mono ?_); rintro e wx ⟨rfl, hbx⟩)
      | (go_at_call 29; (with_reducible refine (specMayTake _ _ _ _ _ _ _).mono ?_); rintro e wx ⟨rfl, hbx⟩)))
  obtain ⟨wA, rfl⟩ : ∃ W, W = wx := ⟨_, rfl⟩
  obtain ⟨gf00, gf01, gf10, gf11, gf12, hB1, hz1⟩ : wA.cell? ⟨w.heap.size, 0, none⟩ = some (.int .i64 s0) ∧ wA.cell? ⟨w.heap.size, 1, none⟩ = some (.int .i64 t0) ∧ wA.cell? ⟨(w.heap.size + 1), 0, none⟩ = some (.int .i64 c1) ∧ wA.cell? ⟨(w.heap.size + 1), 1, none⟩ = some (.bool b1) ∧ wA.cell? ⟨(w.heap.size + 1), 2, none⟩ = some (.int .i64 i1) ∧ Below w.heap.size w wA ∧ w.heap.size + 2 ≤ wA.heap.size := by (try go_split_ands); exact ⟨by assumption, by assumption, by assumption, by assumption, by assumption, by assumption, by assumption⟩
  go_wp2_with fail
  go_region_held3 (fun w' => w'.cell? ⟨w.heap.size, 0, none⟩ = some (.int .i64 s0) ∧ w'.cell? ⟨w.heap.size, 1, none⟩ = some (.int .i64 t0) ∧ w'.cell? ⟨(w.heap.size + 1), 0, none⟩ = some (.int .i64 c1) ∧ w'.cell? ⟨(w.heap.size + 1), 1, none⟩ = some (.bool b1) ∧ w'.cell? ⟨(w.heap.size + 1), 2, none⟩ = some (.int .i64 i1) ∧ Below w.heap.size w w' ∧ w.heap.size + 2 ≤ w'.heap.size)
    (first
      | exact ⟨gf00, gf01, gf10, gf11, gf12, hB1, hz1⟩
      | exact ⟨gf00, gf01, gf10, gf11, gf12, hB1.drew, hz1⟩
      | ((try go_split_ands)
         have zz := hbx.size
         exact ⟨(hbx.cell (by first | omega | (simp; done) | (simp; omega))).trans (by assumption), (hbx.cell (by first | omega | (simp; done) | (simp; omega))).trans (by assumption), (hbx.cell (by first | omega | (simp; done) | (simp; omega))).trans (by assumption), (hbx.cell (by first | omega | (simp; done) | (simp; omega))).trans (by assumption), (hbx.cell (by first | omega | (simp; done) | (simp; omega))).trans (by assumption), Below.trans (by assumption) (hbx.mono (by first | omega | (simp; omega))), by first | omega | (simp at zz; omega)⟩))
    ((first
      | (go_at_call 38; (with_reducible refine (toEntry_any _ _ _ _).mono ?_); rintro e wx ⟨rfl, hbx⟩)
      | (go_at_call 25; (with_reducible refine (toPlan_any _ _ _).mono ?_); rintro e wx ⟨rfl, hbx⟩)
      | (go_at_call 28; (with_reducible refine (iMayTake _ _ _ _ _ _ _).mono ?_); rintro e wx ⟨rfl, hbx⟩)))
  go_wp2
  go_ret
  (try go_split_ands)
  exact ⟨rfl, by assumption⟩

set_option maxRecDepth 100000 in
set_option maxHeartbeats 2000000 in
theorem exactMayHave_walk (s0 t0 : Int) (c1 : Int) (b1 : Bool) (i1 : Int) (n2 : Int) (w : World) :
    Calls Try.prog 8 #[.agg #[.int .i64 s0, .int .i64 t0], .agg #[.int .i64 c1, .bool b1, .int .i64 i1], .int .i64 n2] w fun e w' => e = .returned (.bool true) ∧ Below w.heap.size w w' := by
  have hB0 := ((Below.refl w.heap.size w).alloc (by first | exact Nat.le_refl _ | (simp; done) | (simp; omega)) (.cells #[.int .i64 s0, .int .i64 t0] 34)).alloc (by first | exact Nat.le_refl _ | (simp; done) | (simp; omega)) (.cells #[.int .i64 c1, .bool b1, .int .i64 i1] 47)
  have hz0 : w.heap.size + 2 ≤ ((w.alloc (.cells #[.int .i64 s0, .int .i64 t0] 34)).alloc (.cells #[.int .i64 c1, .bool b1, .int .i64 i1] 47)).heap.size := by simp
  obtain ⟨f00, f01, -, -⟩ := blk_two (blk_alloc (o' := (.cells #[.int .i64 c1, .bool b1, .int .i64 i1] 47)) (blk_new w (.cells #[.int .i64 s0, .int .i64 t0] 34)))
  have hh1 := blk_new (w.alloc (.cells #[.int .i64 s0, .int .i64 t0] 34)) (.cells #[.int .i64 c1, .bool b1, .int .i64 i1] 47)
  simp only [World.size_alloc] at hh1
  obtain ⟨f10, f11, f12, -, -, -⟩ := blk_three hh1
  clear hh1
  go_enter Try.func8, Try.ntmps8
  go_wp2_with fail
  go_region_held3 (fun w' => w'.cell? ⟨w.heap.size, 0, none⟩ = some (.int .i64 s0) ∧ w'.cell? ⟨w.heap.size, 1, none⟩ = some (.int .i64 t0) ∧ w'.cell? ⟨(w.heap.size + 1), 0, none⟩ = some (.int .i64 c1) ∧ w'.cell? ⟨(w.heap.size + 1), 1, none⟩ = some (.bool b1) ∧ w'.cell? ⟨(w.heap.size + 1), 2, none⟩ = some (.int .i64 i1) ∧ Below w.heap.size w w' ∧ w.heap.size + 2 ≤ w'.heap.size)
    (first
      | exact ⟨f00, f01, f10, f11, f12, hB0, hz0⟩
      | exact ⟨f00, f01, f10, f11, f12, hB0.drew, hz0⟩
      | ((try go_split_ands)
         have zz := hbx.size
         exact ⟨(hbx.cell (by first | omega | (simp; done) | (simp; omega))).trans (by assumption), (hbx.cell (by first | omega | (simp; done) | (simp; omega))).trans (by assumption), (hbx.cell (by first | omega | (simp; done) | (simp; omega))).trans (by assumption), (hbx.cell (by first | omega | (simp; done) | (simp; omega))).trans (by assumption), (hbx.cell (by first | omega | (simp; done) | (simp; omega))).trans (by assumption), Below.trans (by assumption) (hbx.mono (by first | omega | (simp; omega))), by first | omega | (simp at zz; omega)⟩))
    ((first
      | (go_at_call 38; (with_reducible refine (toEntry_any _ _ _ _).mono ?_); rintro e wx ⟨rfl, hbx⟩)
      | (go_at_call 25; (with_reducible refine (toPlan_any _ _ _).mono ?_); rintro e wx ⟨rfl, hbx⟩)
      | (go_at_call 31; (with_reducible refine (specMayHave _ _ _ _ _ _ _).mono ?_); rintro e wx ⟨rfl, hbx⟩)))
  obtain ⟨wA, rfl⟩ : ∃ W, W = wx := ⟨_, rfl⟩
  obtain ⟨gf00, gf01, gf10, gf11, gf12, hB1, hz1⟩ : wA.cell? ⟨w.heap.size, 0, none⟩ = some (.int .i64 s0) ∧ wA.cell? ⟨w.heap.size, 1, none⟩ = some (.int .i64 t0) ∧ wA.cell? ⟨(w.heap.size + 1), 0, none⟩ = some (.int .i64 c1) ∧ wA.cell? ⟨(w.heap.size + 1), 1, none⟩ = some (.bool b1) ∧ wA.cell? ⟨(w.heap.size + 1), 2, none⟩ = some (.int .i64 i1) ∧ Below w.heap.size w wA ∧ w.heap.size + 2 ≤ wA.heap.size := by (try go_split_ands); exact ⟨by assumption, by assumption, by assumption, by assumption, by assumption, by assumption, by assumption⟩
  go_wp2_with fail
  go_region_held3 (fun w' => w'.cell? ⟨w.heap.size, 0, none⟩ = some (.int .i64 s0) ∧ w'.cell? ⟨w.heap.size, 1, none⟩ = some (.int .i64 t0) ∧ w'.cell? ⟨(w.heap.size + 1), 0, none⟩ = some (.int .i64 c1) ∧ w'.cell? ⟨(w.heap.size + 1), 1, none⟩ = some (.bool b1) ∧ w'.cell? ⟨(w.heap.size + 1), 2, none⟩ = some (.int .i64 i1) ∧ Below w.heap.size w w' ∧ w.heap.size + 2 ≤ w'.heap.size)
    (first
      | exact ⟨gf00, gf01, gf10, gf11, gf12, hB1, hz1⟩
      | exact ⟨gf00, gf01, gf10, gf11, gf12, hB1.drew, hz1⟩
      | ((try go_split_ands)
         have zz := hbx.size
         exact ⟨(hbx.cell (by first | omega | (simp; done) | (simp; omega))).trans (by assumption), (hbx.cell (by first | omega | (simp; done) | (simp; omega))).trans (by assumption), (hbx.cell (by first | omega | (simp; done) | (simp; omega))).trans (by assumption), (hbx.cell (by first | omega | (simp; done) | (simp; omega))).trans (by assumption), (hbx.cell (by first | omega | (simp; done) | (simp; omega))).trans (by assumption), Below.trans (by assumption) (hbx.mono (by first | omega | (simp; omega))), by first | omega | (simp at zz; omega)⟩))
    ((first
      | (go_at_call 38; (with_reducible refine (toEntry_any _ _ _ _).mono ?_); rintro e wx ⟨rfl, hbx⟩)
      | (go_at_call 25; (with_reducible refine (toPlan_any _ _ _).mono ?_); rintro e wx ⟨rfl, hbx⟩)
      | (go_at_call 30; (with_reducible refine (iMayHave _ _ _ _ _ _ _).mono ?_); rintro e wx ⟨rfl, hbx⟩)))
  go_wp2
  go_ret
  (try go_split_ands)
  exact ⟨rfl, by assumption⟩

set_option maxHeartbeats 2000000 in
theorem exactTakenBy_walk (s0 t0 : Int) (n1 n2 : Int) (w : World) :
    Calls Try.prog 9 #[.agg #[.int .i64 s0, .int .i64 t0], .int .i64 n1, .int .i64 n2] w fun e w' => e = .returned (.bool true) ∧ Below w.heap.size w w' := by
  go_enter Try.func9, Try.ntmps9
  go_wp2_with fail
  refine (toPlan_any s0 t0 _).mono ?_
  rintro e w1 ⟨rfl, hb1⟩
  have H1 := Lib.hid (((Held.start w).new _).step hb1)
  clear hb1
  go_wp2_with fail
  refine (specTakenBy s0 t0 n1 n2 _).mono ?_
  rintro e w2 ⟨rfl, hb2⟩
  have H2 := Lib.hid (H1.out.step hb2)
  have y2 : w.heap.size < w2.heap.size := H2.out.size
  clear hb2 H1
  obtain ⟨p0, p1, -, -⟩ := blk_two H2.out.hd
  go_wp2_with fail
  refine (toPlan_any s0 t0 _).mono ?_
  rintro e w3 ⟨rfl, hb3⟩
  have H3 := Lib.hid ((H2.out.new _).step hb3)
  have y3 : w2.heap.size < w3.heap.size := H3.out.size
  clear hb3 H2 p0 p1
  go_wp2_with fail
  refine (iTakenBy s0 t0 n1 n2 _).mono ?_
  rintro e w4 ⟨rfl, hb4⟩
  have H4 := Lib.hid (H3.out.step hb4)
  have y4 : w2.heap.size < w4.heap.size := H4.out.size
  clear hb4 H3
  obtain ⟨r0, r1, r2, -, -, -⟩ := blk_three H4.out.hd
  go_wp2_with fail
  refine (eqEntry_same _ _ _ _).mono ?_
  rintro e w5 ⟨rfl, hb5⟩
  go_wp2
  go_ret
  exact ⟨rfl, ((H4.out.alloc _).step hb5).below⟩

set_option maxRecDepth 100000 in
set_option maxHeartbeats 4000000 in
theorem exactLeftBy_walk (s0 t0 : Int) (c1 : Int) (b1 : Bool) (i1 : Int) (n2 : Int) (w : World) :
    Calls Try.prog 10 #[.agg #[.int .i64 s0, .int .i64 t0], .agg #[.int .i64 c1, .bool b1, .int .i64 i1], .int .i64 n2] w fun e w' => e = .returned (.bool true) ∧ Below w.heap.size w w' := by
  have HQ := Lib.hid (((Held.start w).new (.cells #[.int .i64 s0, .int .i64 t0] 34)).new (.cells #[.int .i64 c1, .bool b1, .int .i64 i1] 47))
  simp only [World.size_alloc] at HQ
  obtain ⟨q0, q1, q2, q3, q4, -⟩ : ((w.alloc (.cells #[.int .i64 s0, .int .i64 t0] 34)).alloc (.cells #[.int .i64 c1, .bool b1, .int .i64 i1] 47)).cell? ⟨w.heap.size + 1, 0, none⟩ = some (.int .i64 c1) ∧ ((w.alloc (.cells #[.int .i64 s0, .int .i64 t0] 34)).alloc (.cells #[.int .i64 c1, .bool b1, .int .i64 i1] 47)).cell? ⟨w.heap.size + 1, 1, none⟩ = some (.bool b1) ∧ ((w.alloc (.cells #[.int .i64 s0, .int .i64 t0] 34)).alloc (.cells #[.int .i64 c1, .bool b1, .int .i64 i1] 47)).cell? ⟨w.heap.size + 1, 2, none⟩ = some (.int .i64 i1) ∧ ((w.alloc (.cells #[.int .i64 s0, .int .i64 t0] 34)).alloc (.cells #[.int .i64 c1, .bool b1, .int .i64 i1] 47)).cell? ⟨w.heap.size, 0, none⟩ = some (.int .i64 s0) ∧ ((w.alloc (.cells #[.int .i64 s0, .int .i64 t0] 34)).alloc (.cells #[.int .i64 c1, .bool b1, .int .i64 i1] 47)).cell? ⟨w.heap.size, 1, none⟩ = some (.int .i64 t0) ∧ True := by have h := HQ.out; exact ⟨(blk_three h.hd).1, (blk_three h.hd).2.1, (blk_three h.hd).2.2.1, (blk_two h.tl.hd).1, (blk_two h.tl.hd).2.1, trivial⟩
  go_enter Try.func10, Try.ntmps10
  go_upto_region 1 with fail
  go_cut [7] (fun s1 wx => Points (.cells #[.int .i64 (lbC s0 t0 c1 i1 n2), .bool (lbB s0 t0 c1 i1 n2 b1), .int .i64 (lbI s0 t0 c1 i1 n2)] 38) (fun _ w' => Held w.heap.size (w.heap.size + 1 + 1) ([(w.heap.size + 1, .cells #[.int .i64 c1, .bool b1, .int .i64 i1] 47), (w.heap.size, .cells #[.int .i64 s0, .int .i64 t0] 34)]) w w') s1 wx)
  case first =>
    as_aux_lemma =>
      have hF : ∀ {w' : World}, Held w.heap.size (w.heap.size + 1 + 1) ([(w.heap.size + 1, .cells #[.int .i64 c1, .bool b1, .int .i64 i1] 47), (w.heap.size, .cells #[.int .i64 s0, .int .i64 t0] 34)]) w w' → w'.cell? ⟨w.heap.size + 1, 0, none⟩ = some (.int .i64 c1) ∧ w'.cell? ⟨w.heap.size + 1, 1, none⟩ = some (.bool b1) ∧ w'.cell? ⟨w.heap.size + 1, 2, none⟩ = some (.int .i64 i1) ∧ w'.cell? ⟨w.heap.size, 0, none⟩ = some (.int .i64 s0) ∧ w'.cell? ⟨w.heap.size, 1, none⟩ = some (.int .i64 t0) ∧ Held w.heap.size (w.heap.size + 1 + 1) ([(w.heap.size + 1, .cells #[.int .i64 c1, .bool b1, .int .i64 i1] 47), (w.heap.size, .cells #[.int .i64 s0, .int .i64 t0] 34)]) w w' := fun h => ⟨(blk_three h.hd).1, (blk_three h.hd).2.1, (blk_three h.hd).2.2.1, (blk_two h.tl.hd).1, (blk_two h.tl.hd).2.1, h⟩
      go_region_held3 (fun w' => w'.cell? ⟨w.heap.size + 1, 0, none⟩ = some (.int .i64 c1) ∧ w'.cell? ⟨w.heap.size + 1, 1, none⟩ = some (.bool b1) ∧ w'.cell? ⟨w.heap.size + 1, 2, none⟩ = some (.int .i64 i1) ∧ w'.cell? ⟨w.heap.size, 0, none⟩ = some (.int .i64 s0) ∧ w'.cell? ⟨w.heap.size, 1, none⟩ = some (.int .i64 t0) ∧ Held w.heap.size (w.heap.size + 1 + 1) ([(w.heap.size + 1, .cells #[.int .i64 c1, .bool b1, .int .i64 i1] 47), (w.heap.size, .cells #[.int .i64 s0, .int .i64 t0] 34)]) w w')
        (first
          | with_reducible exact hF HQ.out
          | with_reducible exact hF HQ.out.drew
          | with_reducible exact hF htc
          | with_reducible exact hF (HQ.out.alloc _).drew
          | with_reducible exact hF (HQ.out.drew.alloc _)
          | with_reducible exact hF (htc.alloc _)
          | ((with_reducible refine hF (htc.set3 ?_)) <;> (first | omega | (simp; omega) | (simp; done)))
          | ((with_reducible refine hF ((htc.alloc _).set3 ?_)) <;> (first | omega | (simp; omega) | (simp; done)))
          | fail)
        ((first
            | (go_at_call 38; (try go_split_ands); (with_reducible refine (toEntry_any _ _ _ _).mono ?_); rintro e wx ⟨rfl, hbx⟩; have htc := Held.step (by assumption) hbx; (first | (have hG := blk_below hG hbx (blk_lt hG); obtain ⟨x0, x1, x2, f0, f1, f2⟩ := blk_three hG) | (have hG := new_below hbx; (try simp only [World.size_alloc] at hG); obtain ⟨x0, x1, x2, f0, f1, f2⟩ := blk_three hG) | (have hG := new_drew_below hbx; (try simp only [World.size_alloc] at hG); obtain ⟨x0, x1, x2, f0, f1, f2⟩ := blk_three hG) | skip); have hsw := Held.size htc)
            | (go_at_call 25; (try go_split_ands); (with_reducible refine (toPlan_any _ _ _).mono ?_); rintro e wx ⟨rfl, hbx⟩; have htc := Held.step (by assumption) hbx; (first | (have hG := blk_below hG hbx (blk_lt hG); obtain ⟨x0, x1, x2, f0, f1, f2⟩ := blk_three hG) | (have hG := new_below hbx; (try simp only [World.size_alloc] at hG); obtain ⟨x0, x1, x2, f0, f1, f2⟩ := blk_three hG) | (have hG := new_drew_below hbx; (try simp only [World.size_alloc] at hG); obtain ⟨x0, x1, x2, f0, f1, f2⟩ := blk_three hG) | skip); have hsw := Held.size htc)
            | (go_at_call 35; (try go_split_ands); (with_reducible refine (specLeftBy s0 t0 c1 i1 n2 b1 _).mono ?_); rintro e wx ⟨rfl, hbx⟩; have htc := Held.step (by assumption) hbx; (first | (have hG := blk_below hG hbx (blk_lt hG); obtain ⟨x0, x1, x2, f0, f1, f2⟩ := blk_three hG) | (have hG := new_below hbx; (try simp only [World.size_alloc] at hG); obtain ⟨x0, x1, x2, f0, f1, f2⟩ := blk_three hG) | (have hG := new_drew_below hbx; (try simp only [World.size_alloc] at hG); obtain ⟨x0, x1, x2, f0, f1, f2⟩ := blk_three hG) | skip); have hsw := Held.size htc)))
      all_goals
        go_wp2_with fail
        go_meet
        (try go_split_ands)
        refine ⟨_, rfl, ?_, by assumption⟩
        first
          | exact blk_new _ _
          | exact blk_set3 hG
          | exact blk_set3 (blk_new _ _)
  case rest =>
    obtain ⟨g, rfl, hg, hk⟩ := hcut
    clear q0 q1 q2 q3 q4 HQ
    have HR := Lib.hid (hk.add hg)
    clear hg hk
    obtain ⟨q0, q1, q2, q3, q4⟩ : wc.cell? ⟨w.heap.size + 1, 0, none⟩ = some (.int .i64 c1) ∧ wc.cell? ⟨w.heap.size + 1, 1, none⟩ = some (.bool b1) ∧ wc.cell? ⟨w.heap.size + 1, 2, none⟩ = some (.int .i64 i1) ∧ wc.cell? ⟨w.heap.size, 0, none⟩ = some (.int .i64 s0) ∧ wc.cell? ⟨w.heap.size, 1, none⟩ = some (.int .i64 t0) := by have h := HR.out.tl; exact ⟨(blk_three h.hd).1, (blk_three h.hd).2.1, (blk_three h.hd).2.2.1, (blk_two h.tl.hd).1, (blk_two h.tl.hd).2.1⟩
    go_upto_region 2 with fail
    go_cut [8] (fun s1 wx => Points (.cells #[.int .i64 (lbC s0 t0 c1 i1 n2), .bool (lbB s0 t0 c1 i1 n2 b1), .int .i64 (lbI s0 t0 c1 i1 n2)] 38) (fun _ w' => Held w.heap.size wc.heap.size ((g, .cells #[.int .i64 (lbC s0 t0 c1 i1 n2), .bool (lbB s0 t0 c1 i1 n2 b1), .int .i64 (lbI s0 t0 c1 i1 n2)] 38) :: [(w.heap.size + 1, .cells #[.int .i64 c1, .bool b1, .int .i64 i1] 47), (w.heap.size, .cells #[.int .i64 s0, .int .i64 t0] 34)]) w w') s1 wx)
    case first =>
      as_aux_lemma =>
        have hF : ∀ {w' : World}, Held w.heap.size (wc.heap.size) ((g, .cells #[.int .i64 (lbC s0 t0 c1 i1 n2), .bool (lbB s0 t0 c1 i1 n2 b1), .int .i64 (lbI s0 t0 c1 i1 n2)] 38) :: [(w.heap.size + 1, .cells #[.int .i64 c1, .bool b1, .int .i64 i1] 47), (w.heap.size, .cells #[.int .i64 s0, .int .i64 t0] 34)]) w w' → w'.cell? ⟨w.heap.size + 1, 0, none⟩ = some (.int .i64 c1) ∧ w'.cell? ⟨w.heap.size + 1, 1, none⟩ = some (.bool b1) ∧ w'.cell? ⟨w.heap.size + 1, 2, none⟩ = some (.int .i64 i1) ∧ w'.cell? ⟨w.heap.size, 0, none⟩ = some (.int .i64 s0) ∧ w'.cell? ⟨w.heap.size, 1, none⟩ = some (.int .i64 t0) ∧ Held w.heap.size (wc.heap.size) ((g, .cells #[.int .i64 (lbC s0 t0 c1 i1 n2), .bool (lbB s0 t0 c1 i1 n2 b1), .int .i64 (lbI s0 t0 c1 i1 n2)] 38) :: [(w.heap.size + 1, .cells #[.int .i64 c1, .bool b1, .int .i64 i1] 47), (w.heap.size, .cells #[.int .i64 s0, .int .i64 t0] 34)]) w w' := fun h => ⟨(blk_three h.tl.hd).1, (blk_three h.tl.hd).2.1, (blk_three h.tl.hd).2.2.1, (blk_two h.tl.tl.hd).1, (blk_two h.tl.tl.hd).2.1, h⟩
        go_region_held3 (fun w' => w'.cell? ⟨w.heap.size + 1, 0, none⟩ = some (.int .i64 c1) ∧ w'.cell? ⟨w.heap.size + 1, 1, none⟩ = some (.bool b1) ∧ w'.cell? ⟨w.heap.size + 1, 2, none⟩ = some (.int .i64 i1) ∧ w'.cell? ⟨w.heap.size, 0, none⟩ = some (.int .i64 s0) ∧ w'.cell? ⟨w.heap.size, 1, none⟩ = some (.int .i64 t0) ∧ Held w.heap.size (wc.heap.size) ((g, .cells #[.int .i64 (lbC s0 t0 c1 i1 n2), .bool (lbB s0 t0 c1 i1 n2 b1), .int .i64 (lbI s0 t0 c1 i1 n2)] 38) :: [(w.heap.size + 1, .cells #[.int .i64 c1, .bool b1, .int .i64 i1] 47), (w.heap.size, .cells #[.int .i64 s0, .int .i64 t0] 34)]) w w')
          (first
            | with_reducible exact hF HR.out
            | with_reducible exact hF HR.out.drew
            | with_reducible exact hF htc
            | with_reducible exact hF (HR.out.alloc _).drew
            | with_reducible exact hF (HR.out.drew.alloc _)
            | with_reducible exact hF (htc.alloc _)
            | ((with_reducible refine hF (htc.set3 ?_)) <;> (first | omega | (simp; omega) | (simp; done)))
            | ((with_reducible refine hF ((htc.alloc _).set3 ?_)) <;> (first | omega | (simp; omega) | (simp; done)))
            | fail)
          ((first
              | (go_at_call 38; (try go_split_ands); (with_reducible refine (toEntry_any _ _ _ _).mono ?_); rintro e wx ⟨rfl, hbx⟩; have htc := Held.step (by assumption) hbx; (first | (have hG := blk_below hG hbx (blk_lt hG); obtain ⟨x0, x1, x2, f0, f1, f2⟩ := blk_three hG) | (have hG := new_below hbx; (try simp only [World.size_alloc] at hG); obtain ⟨x0, x1, x2, f0, f1, f2⟩ := blk_three hG) | (have hG := new_drew_below hbx; (try simp only [World.size_alloc] at hG); obtain ⟨x0, x1, x2, f0, f1, f2⟩ := blk_three hG) | skip); have hsw := Held.size htc)
              | (go_at_call 25; (try go_split_ands); (with_reducible refine (toPlan_any _ _ _).mono ?_); rintro e wx ⟨rfl, hbx⟩; have htc := Held.step (by assumption) hbx; (first | (have hG := blk_below hG hbx (blk_lt hG); obtain ⟨x0, x1, x2, f0, f1, f2⟩ := blk_three hG) | (have hG := new_below hbx; (try simp only [World.size_alloc] at hG); obtain ⟨x0, x1, x2, f0, f1, f2⟩ := blk_three hG) | (have hG := new_drew_below hbx; (try simp only [World.size_alloc] at hG); obtain ⟨x0, x1, x2, f0, f1, f2⟩ := blk_three hG) | skip); have hsw := Held.size htc)
              | (go_at_call 34; (try go_split_ands); (with_reducible refine (iLeftBy s0 t0 c1 i1 n2 b1 _).mono ?_); rintro e wx ⟨rfl, hbx⟩; have htc := Held.step (by assumption) hbx; (first | (have hG := blk_below hG hbx (blk_lt hG); obtain ⟨x0, x1, x2, f0, f1, f2⟩ := blk_three hG) | (have hG := new_below hbx; (try simp only [World.size_alloc] at hG); obtain ⟨x0, x1, x2, f0, f1, f2⟩ := blk_three hG) | (have hG := new_drew_below hbx; (try simp only [World.size_alloc] at hG); obtain ⟨x0, x1, x2, f0, f1, f2⟩ := blk_three hG) | skip); have hsw := Held.size htc)))
        all_goals
          go_wp2_with fail
          go_meet
          (try go_split_ands)
          refine ⟨_, rfl, ?_, by assumption⟩
          first
            | exact blk_new _ _
            | exact blk_set3 hG
            | exact blk_set3 (blk_new _ _)
    case rest =>
      obtain ⟨g', rfl, hg', hk⟩ := hcut
      clear q0 q1 q2 q3 q4 HR
      have HS := Lib.hid hk
      have HG := Lib.hid hg'
      have y0 := blk_lt hg'
      have y1 := blk_lt hk.hd
      clear hg' hk
      obtain ⟨x0, x1, x2, -, -, -⟩ := blk_three HS.out.hd
      obtain ⟨x3, x4, x5, -, -, -⟩ := blk_three HG.out
      go_wp2_with fail
      refine (eqEntry_same _ _ _ _).mono ?_
      rintro e w5 ⟨rfl, hb5⟩
      go_wp2
      go_ret
      exact ⟨rfl, (HS.out.step hb5).below⟩

set_option maxRecDepth 100000 in
set_option maxHeartbeats 4000000 in
theorem exactEmptied_walk (s0 t0 : Int) (c1 : Int) (b1 : Bool) (i1 : Int) (w : World) :
    Calls Try.prog 11 #[.agg #[.int .i64 s0, .int .i64 t0], .agg #[.int .i64 c1, .bool b1, .int .i64 i1]] w fun e w' => e = .returned (.bool true) ∧ Below w.heap.size w w' := by
  have HQ := Lib.hid (((Held.start w).new (.cells #[.int .i64 s0, .int .i64 t0] 34)).new (.cells #[.int .i64 c1, .bool b1, .int .i64 i1] 47))
  simp only [World.size_alloc] at HQ
  obtain ⟨q0, q1, q2, q3, q4, -⟩ : ((w.alloc (.cells #[.int .i64 s0, .int .i64 t0] 34)).alloc (.cells #[.int .i64 c1, .bool b1, .int .i64 i1] 47)).cell? ⟨w.heap.size + 1, 0, none⟩ = some (.int .i64 c1) ∧ ((w.alloc (.cells #[.int .i64 s0, .int .i64 t0] 34)).alloc (.cells #[.int .i64 c1, .bool b1, .int .i64 i1] 47)).cell? ⟨w.heap.size + 1, 1, none⟩ = some (.bool b1) ∧ ((w.alloc (.cells #[.int .i64 s0, .int .i64 t0] 34)).alloc (.cells #[.int .i64 c1, .bool b1, .int .i64 i1] 47)).cell? ⟨w.heap.size + 1, 2, none⟩ = some (.int .i64 i1) ∧ ((w.alloc (.cells #[.int .i64 s0, .int .i64 t0] 34)).alloc (.cells #[.int .i64 c1, .bool b1, .int .i64 i1] 47)).cell? ⟨w.heap.size, 0, none⟩ = some (.int .i64 s0) ∧ ((w.alloc (.cells #[.int .i64 s0, .int .i64 t0] 34)).alloc (.cells #[.int .i64 c1, .bool b1, .int .i64 i1] 47)).cell? ⟨w.heap.size, 1, none⟩ = some (.int .i64 t0) ∧ True := by have h := HQ.out; exact ⟨(blk_three h.hd).1, (blk_three h.hd).2.1, (blk_three h.hd).2.2.1, (blk_two h.tl.hd).1, (blk_two h.tl.hd).2.1, trivial⟩
  go_enter Try.func11, Try.ntmps11
  go_upto_region 1 with fail
  go_cut [5] (fun s1 wx => Points (.cells #[.int .i64 (emC s0 t0 c1 i1), .bool (emB s0 t0 c1 i1 b1), .int .i64 (emI s0 t0 c1 i1)] 38) (fun _ w' => Held w.heap.size (w.heap.size + 1 + 1) ([(w.heap.size + 1, .cells #[.int .i64 c1, .bool b1, .int .i64 i1] 47), (w.heap.size, .cells #[.int .i64 s0, .int .i64 t0] 34)]) w w') s1 wx)
  case first =>
    as_aux_lemma =>
      have hF : ∀ {w' : World}, Held w.heap.size (w.heap.size + 1 + 1) ([(w.heap.size + 1, .cells #[.int .i64 c1, .bool b1, .int .i64 i1] 47), (w.heap.size, .cells #[.int .i64 s0, .int .i64 t0] 34)]) w w' → w'.cell? ⟨w.heap.size + 1, 0, none⟩ = some (.int .i64 c1) ∧ w'.cell? ⟨w.heap.size + 1, 1, none⟩ = some (.bool b1) ∧ w'.cell? ⟨w.heap.size + 1, 2, none⟩ = some (.int .i64 i1) ∧ w'.cell? ⟨w.heap.size, 0, none⟩ = some (.int .i64 s0) ∧ w'.cell? ⟨w.heap.size, 1, none⟩ = some (.int .i64 t0) ∧ Held w.heap.size (w.heap.size + 1 + 1) ([(w.heap.size + 1, .cells #[.int .i64 c1, .bool b1, .int .i64 i1] 47), (w.heap.size, .cells #[.int .i64 s0, .int .i64 t0] 34)]) w w' := fun h => ⟨(blk_three h.hd).1, (blk_three h.hd).2.1, (blk_three h.hd).2.2.1, (blk_two h.tl.hd).1, (blk_two h.tl.hd).2.1, h⟩
      go_region_held3 (fun w' => w'.cell? ⟨w.heap.size + 1, 0, none⟩ = some (.int .i64 c1) ∧ w'.cell? ⟨w.heap.size + 1, 1, none⟩ = some (.bool b1) ∧ w'.cell? ⟨w.heap.size + 1, 2, none⟩ = some (.int .i64 i1) ∧ w'.cell? ⟨w.heap.size, 0, none⟩ = some (.int .i64 s0) ∧ w'.cell? ⟨w.heap.size, 1, none⟩ = some (.int .i64 t0) ∧ Held w.heap.size (w.heap.size + 1 + 1) ([(w.heap.size + 1, .cells #[.int .i64 c1, .bool b1, .int .i64 i1] 47), (w.heap.size, .cells #[.int .i64 s0, .int .i64 t0] 34)]) w w')
        (first
          | with_reducible exact hF HQ.out
          | with_reducible exact hF HQ.out.drew
          | with_reducible exact hF htc
          | with_reducible exact hF (HQ.out.alloc _).drew
          | with_reducible exact hF (HQ.out.drew.alloc _)
          | with_reducible exact hF (htc.alloc _)
          | ((with_reducible refine hF (htc.set3 ?_)) <;> (first | omega | (simp; omega) | (simp; done)))
          | ((with_reducible refine hF ((htc.alloc _).set3 ?_)) <;> (first | omega | (simp; omega) | (simp; done)))
          | fail)
        ((first
            | (go_at_call 38; (try go_split_ands); (with_reducible refine (toEntry_any _ _ _ _).mono ?_); rintro e wx ⟨rfl, hbx⟩; have htc := Held.step (by assumption) hbx; (first | (have hG := blk_below hG hbx (blk_lt hG); obtain ⟨x0, x1, x2, f0, f1, f2⟩ := blk_three hG) | (have hG := new_below hbx; (try simp only [World.size_alloc] at hG); obtain ⟨x0, x1, x2, f0, f1, f2⟩ := blk_three hG) | (have hG := new_drew_below hbx; (try simp only [World.size_alloc] at hG); obtain ⟨x0, x1, x2, f0, f1, f2⟩ := blk_three hG) | skip); have hsw := Held.size htc)
            | (go_at_call 25; (try go_split_ands); (with_reducible refine (toPlan_any _ _ _).mono ?_); rintro e wx ⟨rfl, hbx⟩; have htc := Held.step (by assumption) hbx; (first | (have hG := blk_below hG hbx (blk_lt hG); obtain ⟨x0, x1, x2, f0, f1, f2⟩ := blk_three hG) | (have hG := new_below hbx; (try simp only [World.size_alloc] at hG); obtain ⟨x0, x1, x2, f0, f1, f2⟩ := blk_three hG) | (have hG := new_drew_below hbx; (try simp only [World.size_alloc] at hG); obtain ⟨x0, x1, x2, f0, f1, f2⟩ := blk_three hG) | skip); have hsw := Held.size htc)
            | (go_at_call 37; (try go_split_ands); (with_reducible refine (specEmptied s0 t0 c1 i1 b1 _).mono ?_); rintro e wx ⟨rfl, hbx⟩; have htc := Held.step (by assumption) hbx; (first | (have hG := blk_below hG hbx (blk_lt hG); obtain ⟨x0, x1, x2, f0, f1, f2⟩ := blk_three hG) | (have hG := new_below hbx; (try simp only [World.size_alloc] at hG); obtain ⟨x0, x1, x2, f0, f1, f2⟩ := blk_three hG) | (have hG := new_drew_below hbx; (try simp only [World.size_alloc] at hG); obtain ⟨x0, x1, x2, f0, f1, f2⟩ := blk_three hG) | skip); have hsw := Held.size htc)))
      all_goals
        go_wp2_with fail
        go_meet
        (try go_split_ands)
        refine ⟨_, rfl, ?_, by assumption⟩
        first
          | exact blk_new _ _
          | exact blk_set3 hG
          | exact blk_set3 (blk_new _ _)
  case rest =>
    obtain ⟨g, rfl, hg, hk⟩ := hcut
    clear q0 q1 q2 q3 q4 HQ
    have HR := Lib.hid (hk.add hg)
    clear hg hk
    obtain ⟨q0, q1, q2, q3, q4⟩ : wc.cell? ⟨w.heap.size + 1, 0, none⟩ = some (.int .i64 c1) ∧ wc.cell? ⟨w.heap.size + 1, 1, none⟩ = some (.bool b1) ∧ wc.cell? ⟨w.heap.size + 1, 2, none⟩ = some (.int .i64 i1) ∧ wc.cell? ⟨w.heap.size, 0, none⟩ = some (.int .i64 s0) ∧ wc.cell? ⟨w.heap.size, 1, none⟩ = some (.int .i64 t0) := by have h := HR.out.tl; exact ⟨(blk_three h.hd).1, (blk_three h.hd).2.1, (blk_three h.hd).2.2.1, (blk_two h.tl.hd).1, (blk_two h.tl.hd).2.1⟩
    go_upto_region 2 with fail
    go_cut [6] (fun s1 wx => Points (.cells #[.int .i64 (emC s0 t0 c1 i1), .bool (emB s0 t0 c1 i1 b1), .int .i64 (emI s0 t0 c1 i1)] 38) (fun _ w' => Held w.heap.size wc.heap.size ((g, .cells #[.int .i64 (emC s0 t0 c1 i1), .bool (emB s0 t0 c1 i1 b1), .int .i64 (emI s0 t0 c1 i1)] 38) :: [(w.heap.size + 1, .cells #[.int .i64 c1, .bool b1, .int .i64 i1] 47), (w.heap.size, .cells #[.int .i64 s0, .int .i64 t0] 34)]) w w') s1 wx)
    case first =>
      as_aux_lemma =>
        have hF : ∀ {w' : World}, Held w.heap.size (wc.heap.size) ((g, .cells #[.int .i64 (emC s0 t0 c1 i1), .bool (emB s0 t0 c1 i1 b1), .int .i64 (emI s0 t0 c1 i1)] 38) :: [(w.heap.size + 1, .cells #[.int .i64 c1, .bool b1, .int .i64 i1] 47), (w.heap.size, .cells #[.int .i64 s0, .int .i64 t0] 34)]) w w' → w'.cell? ⟨w.heap.size + 1, 0, none⟩ = some (.int .i64 c1) ∧ w'.cell? ⟨w.heap.size + 1, 1, none⟩ = some (.bool b1) ∧ w'.cell? ⟨w.heap.size + 1, 2, none⟩ = some (.int .i64 i1) ∧ w'.cell? ⟨w.heap.size, 0, none⟩ = some (.int .i64 s0) ∧ w'.cell? ⟨w.heap.size, 1, none⟩ = some (.int .i64 t0) ∧ Held w.heap.size (wc.heap.size) ((g, .cells #[.int .i64 (emC s0 t0 c1 i1), .bool (emB s0 t0 c1 i1 b1), .int .i64 (emI s0 t0 c1 i1)] 38) :: [(w.heap.size + 1, .cells #[.int .i64 c1, .bool b1, .int .i64 i1] 47), (w.heap.size, .cells #[.int .i64 s0, .int .i64 t0] 34)]) w w' := fun h => ⟨(blk_three h.tl.hd).1, (blk_three h.tl.hd).2.1, (blk_three h.tl.hd).2.2.1, (blk_two h.tl.tl.hd).1, (blk_two h.tl.tl.hd).2.1, h⟩
        go_region_held3 (fun w' => w'.cell? ⟨w.heap.size + 1, 0, none⟩ = some (.int .i64 c1) ∧ w'.cell? ⟨w.heap.size + 1, 1, none⟩ = some (.bool b1) ∧ w'.cell? ⟨w.heap.size + 1, 2, none⟩ = some (.int .i64 i1) ∧ w'.cell? ⟨w.heap.size, 0, none⟩ = some (.int .i64 s0) ∧ w'.cell? ⟨w.heap.size, 1, none⟩ = some (.int .i64 t0) ∧ Held w.heap.size (wc.heap.size) ((g, .cells #[.int .i64 (emC s0 t0 c1 i1), .bool (emB s0 t0 c1 i1 b1), .int .i64 (emI s0 t0 c1 i1)] 38) :: [(w.heap.size + 1, .cells #[.int .i64 c1, .bool b1, .int .i64 i1] 47), (w.heap.size, .cells #[.int .i64 s0, .int .i64 t0] 34)]) w w')
          (first
            | with_reducible exact hF HR.out
            | with_reducible exact hF HR.out.drew
            | with_reducible exact hF htc
            | with_reducible exact hF (HR.out.alloc _).drew
            | with_reducible exact hF (HR.out.drew.alloc _)
            | with_reducible exact hF (htc.alloc _)
            | ((with_reducible refine hF (htc.set3 ?_)) <;> (first | omega | (simp; omega) | (simp; done)))
            | ((with_reducible refine hF ((htc.alloc _).set3 ?_)) <;> (first | omega | (simp; omega) | (simp; done)))
            | fail)
          ((first
              | (go_at_call 38; (try go_split_ands); (with_reducible refine (toEntry_any _ _ _ _).mono ?_); rintro e wx ⟨rfl, hbx⟩; have htc := Held.step (by assumption) hbx; (first | (have hG := blk_below hG hbx (blk_lt hG); obtain ⟨x0, x1, x2, f0, f1, f2⟩ := blk_three hG) | (have hG := new_below hbx; (try simp only [World.size_alloc] at hG); obtain ⟨x0, x1, x2, f0, f1, f2⟩ := blk_three hG) | (have hG := new_drew_below hbx; (try simp only [World.size_alloc] at hG); obtain ⟨x0, x1, x2, f0, f1, f2⟩ := blk_three hG) | skip); have hsw := Held.size htc)
              | (go_at_call 25; (try go_split_ands); (with_reducible refine (toPlan_any _ _ _).mono ?_); rintro e wx ⟨rfl, hbx⟩; have htc := Held.step (by assumption) hbx; (first | (have hG := blk_below hG hbx (blk_lt hG); obtain ⟨x0, x1, x2, f0, f1, f2⟩ := blk_three hG) | (have hG := new_below hbx; (try simp only [World.size_alloc] at hG); obtain ⟨x0, x1, x2, f0, f1, f2⟩ := blk_three hG) | (have hG := new_drew_below hbx; (try simp only [World.size_alloc] at hG); obtain ⟨x0, x1, x2, f0, f1, f2⟩ := blk_three hG) | skip); have hsw := Held.size htc)
              | (go_at_call 36; (try go_split_ands); (with_reducible refine (iEmptied s0 t0 c1 i1 b1 _).mono ?_); rintro e wx ⟨rfl, hbx⟩; have htc := Held.step (by assumption) hbx; (first | (have hG := blk_below hG hbx (blk_lt hG); obtain ⟨x0, x1, x2, f0, f1, f2⟩ := blk_three hG) | (have hG := new_below hbx; (try simp only [World.size_alloc] at hG); obtain ⟨x0, x1, x2, f0, f1, f2⟩ := blk_three hG) | (have hG := new_drew_below hbx; (try simp only [World.size_alloc] at hG); obtain ⟨x0, x1, x2, f0, f1, f2⟩ := blk_three hG) | skip); have hsw := Held.size htc)))
        all_goals
          go_wp2_with fail
          go_meet
          (try go_split_ands)
          refine ⟨_, rfl, ?_, by assumption⟩
          first
            | exact blk_new _ _
            | exact blk_set3 hG
            | exact blk_set3 (blk_new _ _)
    case rest =>
      obtain ⟨g', rfl, hg', hk⟩ := hcut
      clear q0 q1 q2 q3 q4 HR
      have HS := Lib.hid hk
      have HG := Lib.hid hg'
      have y0 := blk_lt hg'
      have y1 := blk_lt hk.hd
      clear hg' hk
      obtain ⟨x0, x1, x2, -, -, -⟩ := blk_three HS.out.hd
      obtain ⟨x3, x4, x5, -, -, -⟩ := blk_three HG.out
      go_wp2_with fail
      refine (eqEntry_same _ _ _ _).mono ?_
      rintro e w5 ⟨rfl, hb5⟩
      go_wp2
      go_ret
      exact ⟨rfl, (HS.out.step hb5).below⟩

set_option maxRecDepth 100000 in
theorem liftedFnExactMayTake (os : Os) (started : os.Started) (H : Type) (enc : TypeId × Value → H) :
    ReturnsInHanded {} Try.checked os 7 .any (Rows.fnExactMayTakeSpec.pre6 enc Try.prog Try.f7 Rows.fnExactMayTakeRow.domain false) (Rows.fnExactMayTakeSpec.post enc Try.prog Try.f7 false true false false) := by
  refine returnsInHanded_of_change (C := Try.checked) own started (by kernel_rfl) Try.func7
    (ChangeSpec.witness6 (enc := enc) (C := Try.checked) false ⟨#[], #[.agg #[.int .i64 0, .int .i64 0], .agg #[.int .i64 0, .bool false, .int .i64 0], .int .i64 0], []⟩ 8 (by kernel_rfl) (by kernel_rfl) (by kernel_rfl) (by kernel_rfl)) ?_
  intro W base args ds gs before hval0 hW hcnd _
  have hval : ∀ (j : Nat) t v, Try.f7.params[j]? = some t → args[j]? = some v → Value.okWide Try.prog W .any base t v := hval0
  have hW' := hW
  obtain ⟨p, q, hA0, hV, rfl, hfz, hnd⟩ := hW
  have hA : DataW.TrodAll enc Try.prog W 0 (fun _ => true) true Try.f7.params.toList args.toList ds p := hA0
  rw [Try.params7] at hA hval
  obtain ⟨v0, vs0, d0, ds0, p0, q0, h0args, rfl, rfl, h0, r0⟩ := trodAll_cons hA
  obtain ⟨v1, vs1, d1, ds1, p1, q1, h1args, rfl, rfl, h1, r1⟩ := trodAll_cons r0
  obtain ⟨v2, vs2, d2, ds2, p2, q2, h2args, rfl, rfl, h2, r2⟩ := trodAll_cons r1
  obtain ⟨rfl, rfl, rfl⟩ := trodAll_nil r2
  obtain rfl : args = #[v0, v1, v2] := by cases args; simp_all
  obtain ⟨rfl, rfl⟩ := trodVars_none hV
  have k0 := h0
  have lt0 : ∀ x ∈ p0, x.block < W.heap.size := by obtain ⟨m, hm⟩ := k0; exact DataW.trod_lt m _ _ _ hm
  obtain ⟨s0, t0, rfl, ws0, wt0⟩ : ∃ x y : Int, v0 = .agg #[.int .i64 x, .int .i64 y] ∧ W64 x ∧ W64 y := by
    obtain ⟨x0, x1, y0, y1, m, hv, hd, hp, hy0, hy1⟩ := open_agg2 Try.underlying34 (by kernel_rfl) (by kernel_rfl) (hval 0 34 v0 rfl rfl) h0
    obtain ⟨x, e0, _, wa⟩ := DataW.trod_int Try.underlying2 hy0
    obtain ⟨y, e1, _, wb⟩ := DataW.trod_int Try.underlying2 hy1
    simp at e0 e1
    subst e0 e1
    exact ⟨x, y, hv, w64_wf wa, w64_wf wb⟩
  have k1 := h1
  have lt1 : ∀ x ∈ p1, x.block < W.heap.size := by obtain ⟨m, hm⟩ := k1; exact DataW.trod_lt m _ _ _ hm
  obtain ⟨c1, b1, i1, rfl, wc1, wi1⟩ : ∃ (x : Int) (z : Bool) (y : Int), v1 = .agg #[.int .i64 x, .bool z, .int .i64 y] ∧ W64 x ∧ W64 y := by
    obtain ⟨x0, x1, x2, y0, y1, y2, m, hv, hd, hp, hy0, hy1, hy2⟩ := open_agg3 Try.underlying47 (by kernel_rfl) (by kernel_rfl) (hval 1 47 v1 rfl rfl) h1
    obtain ⟨x, e0, _, wa⟩ := DataW.trod_int Try.underlying2 hy0
    obtain ⟨z, e1, _⟩ := DataW.trod_bool Try.underlying4 hy1
    obtain ⟨y, e2, _, wb⟩ := DataW.trod_int Try.underlying2 hy2
    simp at e0 e1 e2
    subst e0 e1 e2
    exact ⟨x, z, y, hv, w64_wf wa, w64_wf wb⟩
  have k2 := h2
  have lt2 : ∀ x ∈ p2, x.block < W.heap.size := by obtain ⟨m, hm⟩ := k2; exact DataW.trod_lt m _ _ _ hm
  obtain ⟨n2, rfl, wn2⟩ : ∃ x : Int, v2 = .int .i64 x ∧ W64 x := by
    obtain ⟨x, e1, _, _, wx⟩ := open_int Try.underlying2 (hval 2 2 v2 rfl rfl) h2
    exact ⟨x, e1, w64_wf wx⟩
  clear hA0 hval0
  refine (exactMayTake_walk s0 t0 c1 b1 i1 n2 W).mono fun e W' ⟨he, bel⟩ => ?_
  subst he
  exact ⟨_, rfl, _, _, _, [], _, [], hW', trodAll_mk1 (shut_bool Try.underlying4 _), (trodAll_cons_mk (Below.trod laidOut (by kernel_rfl) (of_decide_eq_true (by kernel_rfl)) k0 bel lt0) (trodAll_cons_mk (Below.trod laidOut (by kernel_rfl) (of_decide_eq_true (by kernel_rfl)) k1 bel lt1) (trodAll_cons_mk (Below.trod laidOut (by kernel_rfl) (of_decide_eq_true (by kernel_rfl)) k2 bel lt2) trodAll_mk0))), rfl, bel.frame _, fun h => by cases h⟩

theorem exactMayTake_proved : Rows.FnExactMayTakeSaid :=
  OpenClaim.holds_of_wide 7 Try.f7 rfl rfl rfl rfl rfl rfl rfl ⟨rfl, rfl, rfl, rfl, rfl⟩ rfl rfl rfl rfl rfl (by kernel_rfl) Try.func7 (by kernel_rfl)
    (of_decide_eq_true (by kernel_rfl)) (by unfold Func.isWrapper; first | (rw [if_pos (by decide +kernel)]; kernel_rfl) | (rw [if_neg (by decide +kernel)]; exact ⟨rfl, rfl⟩))
    (fun os started H enc _ => liftedFnExactMayTake os started H enc)

set_option maxRecDepth 100000 in
theorem liftedFnExactMayHave (os : Os) (started : os.Started) (H : Type) (enc : TypeId × Value → H) :
    ReturnsInHanded {} Try.checked os 8 .any (Rows.fnExactMayHaveSpec.pre6 enc Try.prog Try.f8 Rows.fnExactMayHaveRow.domain false) (Rows.fnExactMayHaveSpec.post enc Try.prog Try.f8 false true false false) := by
  refine returnsInHanded_of_change (C := Try.checked) own started (by kernel_rfl) Try.func8
    (ChangeSpec.witness6 (enc := enc) (C := Try.checked) false ⟨#[], #[.agg #[.int .i64 0, .int .i64 0], .agg #[.int .i64 0, .bool false, .int .i64 0], .int .i64 0], []⟩ 8 (by kernel_rfl) (by kernel_rfl) (by kernel_rfl) (by kernel_rfl)) ?_
  intro W base args ds gs before hval0 hW hcnd _
  have hval : ∀ (j : Nat) t v, Try.f8.params[j]? = some t → args[j]? = some v → Value.okWide Try.prog W .any base t v := hval0
  have hW' := hW
  obtain ⟨p, q, hA0, hV, rfl, hfz, hnd⟩ := hW
  have hA : DataW.TrodAll enc Try.prog W 0 (fun _ => true) true Try.f8.params.toList args.toList ds p := hA0
  rw [Try.params8] at hA hval
  obtain ⟨v0, vs0, d0, ds0, p0, q0, h0args, rfl, rfl, h0, r0⟩ := trodAll_cons hA
  obtain ⟨v1, vs1, d1, ds1, p1, q1, h1args, rfl, rfl, h1, r1⟩ := trodAll_cons r0
  obtain ⟨v2, vs2, d2, ds2, p2, q2, h2args, rfl, rfl, h2, r2⟩ := trodAll_cons r1
  obtain ⟨rfl, rfl, rfl⟩ := trodAll_nil r2
  obtain rfl : args = #[v0, v1, v2] := by cases args; simp_all
  obtain ⟨rfl, rfl⟩ := trodVars_none hV
  have k0 := h0
  have lt0 : ∀ x ∈ p0, x.block < W.heap.size := by obtain ⟨m, hm⟩ := k0; exact DataW.trod_lt m _ _ _ hm
  obtain ⟨s0, t0, rfl, ws0, wt0⟩ : ∃ x y : Int, v0 = .agg #[.int .i64 x, .int .i64 y] ∧ W64 x ∧ W64 y := by
    obtain ⟨x0, x1, y0, y1, m, hv, hd, hp, hy0, hy1⟩ := open_agg2 Try.underlying34 (by kernel_rfl) (by kernel_rfl) (hval 0 34 v0 rfl rfl) h0
    obtain ⟨x, e0, _, wa⟩ := DataW.trod_int Try.underlying2 hy0
    obtain ⟨y, e1, _, wb⟩ := DataW.trod_int Try.underlying2 hy1
    simp at e0 e1
    subst e0 e1
    exact ⟨x, y, hv, w64_wf wa, w64_wf wb⟩
  have k1 := h1
  have lt1 : ∀ x ∈ p1, x.block < W.heap.size := by obtain ⟨m, hm⟩ := k1; exact DataW.trod_lt m _ _ _ hm
  obtain ⟨c1, b1, i1, rfl, wc1, wi1⟩ : ∃ (x : Int) (z : Bool) (y : Int), v1 = .agg #[.int .i64 x, .bool z, .int .i64 y] ∧ W64 x ∧ W64 y := by
    obtain ⟨x0, x1, x2, y0, y1, y2, m, hv, hd, hp, hy0, hy1, hy2⟩ := open_agg3 Try.underlying47 (by kernel_rfl) (by kernel_rfl) (hval 1 47 v1 rfl rfl) h1
    obtain ⟨x, e0, _, wa⟩ := DataW.trod_int Try.underlying2 hy0
    obtain ⟨z, e1, _⟩ := DataW.trod_bool Try.underlying4 hy1
    obtain ⟨y, e2, _, wb⟩ := DataW.trod_int Try.underlying2 hy2
    simp at e0 e1 e2
    subst e0 e1 e2
    exact ⟨x, z, y, hv, w64_wf wa, w64_wf wb⟩
  have k2 := h2
  have lt2 : ∀ x ∈ p2, x.block < W.heap.size := by obtain ⟨m, hm⟩ := k2; exact DataW.trod_lt m _ _ _ hm
  obtain ⟨n2, rfl, wn2⟩ : ∃ x : Int, v2 = .int .i64 x ∧ W64 x := by
    obtain ⟨x, e1, _, _, wx⟩ := open_int Try.underlying2 (hval 2 2 v2 rfl rfl) h2
    exact ⟨x, e1, w64_wf wx⟩
  clear hA0 hval0
  refine (exactMayHave_walk s0 t0 c1 b1 i1 n2 W).mono fun e W' ⟨he, bel⟩ => ?_
  subst he
  exact ⟨_, rfl, _, _, _, [], _, [], hW', trodAll_mk1 (shut_bool Try.underlying4 _), (trodAll_cons_mk (Below.trod laidOut (by kernel_rfl) (of_decide_eq_true (by kernel_rfl)) k0 bel lt0) (trodAll_cons_mk (Below.trod laidOut (by kernel_rfl) (of_decide_eq_true (by kernel_rfl)) k1 bel lt1) (trodAll_cons_mk (Below.trod laidOut (by kernel_rfl) (of_decide_eq_true (by kernel_rfl)) k2 bel lt2) trodAll_mk0))), rfl, bel.frame _, fun h => by cases h⟩

theorem exactMayHave_proved : Rows.FnExactMayHaveSaid :=
  OpenClaim.holds_of_wide 8 Try.f8 rfl rfl rfl rfl rfl rfl rfl ⟨rfl, rfl, rfl, rfl, rfl⟩ rfl rfl rfl rfl rfl (by kernel_rfl) Try.func8 (by kernel_rfl)
    (of_decide_eq_true (by kernel_rfl)) (by unfold Func.isWrapper; first | (rw [if_pos (by decide +kernel)]; kernel_rfl) | (rw [if_neg (by decide +kernel)]; exact ⟨rfl, rfl⟩))
    (fun os started H enc _ => liftedFnExactMayHave os started H enc)

set_option maxRecDepth 100000 in
theorem liftedFnExactTakenBy (os : Os) (started : os.Started) (H : Type) (enc : TypeId × Value → H) :
    ReturnsInHanded {} Try.checked os 9 .any (Rows.fnExactTakenBySpec.pre6 enc Try.prog Try.f9 Rows.fnExactTakenByRow.domain false) (Rows.fnExactTakenBySpec.post enc Try.prog Try.f9 false true false false) := by
  refine returnsInHanded_of_change (C := Try.checked) own started (by kernel_rfl) Try.func9
    (ChangeSpec.witness6 (enc := enc) (C := Try.checked) false ⟨#[], #[.agg #[.int .i64 0, .int .i64 0], .int .i64 0, .int .i64 0], []⟩ 8 (by kernel_rfl) (by kernel_rfl) (by kernel_rfl) (by kernel_rfl)) ?_
  intro W base args ds gs before hval0 hW hcnd _
  have hval : ∀ (j : Nat) t v, Try.f9.params[j]? = some t → args[j]? = some v → Value.okWide Try.prog W .any base t v := hval0
  have hW' := hW
  obtain ⟨p, q, hA0, hV, rfl, hfz, hnd⟩ := hW
  have hA : DataW.TrodAll enc Try.prog W 0 (fun _ => true) true Try.f9.params.toList args.toList ds p := hA0
  rw [Try.params9] at hA hval
  obtain ⟨v0, vs0, d0, ds0, p0, q0, h0args, rfl, rfl, h0, r0⟩ := trodAll_cons hA
  obtain ⟨v1, vs1, d1, ds1, p1, q1, h1args, rfl, rfl, h1, r1⟩ := trodAll_cons r0
  obtain ⟨v2, vs2, d2, ds2, p2, q2, h2args, rfl, rfl, h2, r2⟩ := trodAll_cons r1
  obtain ⟨rfl, rfl, rfl⟩ := trodAll_nil r2
  obtain rfl : args = #[v0, v1, v2] := by cases args; simp_all
  obtain ⟨rfl, rfl⟩ := trodVars_none hV
  have k0 := h0
  have lt0 : ∀ x ∈ p0, x.block < W.heap.size := by obtain ⟨m, hm⟩ := k0; exact DataW.trod_lt m _ _ _ hm
  obtain ⟨s0, t0, rfl, ws0, wt0⟩ : ∃ x y : Int, v0 = .agg #[.int .i64 x, .int .i64 y] ∧ W64 x ∧ W64 y := by
    obtain ⟨x0, x1, y0, y1, m, hv, hd, hp, hy0, hy1⟩ := open_agg2 Try.underlying34 (by kernel_rfl) (by kernel_rfl) (hval 0 34 v0 rfl rfl) h0
    obtain ⟨x, e0, _, wa⟩ := DataW.trod_int Try.underlying2 hy0
    obtain ⟨y, e1, _, wb⟩ := DataW.trod_int Try.underlying2 hy1
    simp at e0 e1
    subst e0 e1
    exact ⟨x, y, hv, w64_wf wa, w64_wf wb⟩
  have k1 := h1
  have lt1 : ∀ x ∈ p1, x.block < W.heap.size := by obtain ⟨m, hm⟩ := k1; exact DataW.trod_lt m _ _ _ hm
  obtain ⟨n1, rfl, wn1⟩ : ∃ x : Int, v1 = .int .i64 x ∧ W64 x := by
    obtain ⟨x, e1, _, _, wx⟩ := open_int Try.underlying2 (hval 1 2 v1 rfl rfl) h1
    exact ⟨x, e1, w64_wf wx⟩
  have k2 := h2
  have lt2 : ∀ x ∈ p2, x.block < W.heap.size := by obtain ⟨m, hm⟩ := k2; exact DataW.trod_lt m _ _ _ hm
  obtain ⟨n2, rfl, wn2⟩ : ∃ x : Int, v2 = .int .i64 x ∧ W64 x := by
    obtain ⟨x, e1, _, _, wx⟩ := open_int Try.underlying2 (hval 2 2 v2 rfl rfl) h2
    exact ⟨x, e1, w64_wf wx⟩
  clear hA0 hval0
  refine (exactTakenBy_walk s0 t0 n1 n2 W).mono fun e W' ⟨he, bel⟩ => ?_
  subst he
  exact ⟨_, rfl, _, _, _, [], _, [], hW', trodAll_mk1 (shut_bool Try.underlying4 _), (trodAll_cons_mk (Below.trod laidOut (by kernel_rfl) (of_decide_eq_true (by kernel_rfl)) k0 bel lt0) (trodAll_cons_mk (Below.trod laidOut (by kernel_rfl) (of_decide_eq_true (by kernel_rfl)) k1 bel lt1) (trodAll_cons_mk (Below.trod laidOut (by kernel_rfl) (of_decide_eq_true (by kernel_rfl)) k2 bel lt2) trodAll_mk0))), rfl, bel.frame _, fun h => by cases h⟩

theorem exactTakenBy_proved : Rows.FnExactTakenBySaid :=
  OpenClaim.holds_of_wide 9 Try.f9 rfl rfl rfl rfl rfl rfl rfl ⟨rfl, rfl, rfl, rfl, rfl⟩ rfl rfl rfl rfl rfl (by kernel_rfl) Try.func9 (by kernel_rfl)
    (of_decide_eq_true (by kernel_rfl)) (by unfold Func.isWrapper; first | (rw [if_pos (by decide +kernel)]; kernel_rfl) | (rw [if_neg (by decide +kernel)]; exact ⟨rfl, rfl⟩))
    (fun os started H enc _ => liftedFnExactTakenBy os started H enc)

set_option maxRecDepth 100000 in
theorem liftedFnExactLeftBy (os : Os) (started : os.Started) (H : Type) (enc : TypeId × Value → H) :
    ReturnsInHanded {} Try.checked os 10 .any (Rows.fnExactLeftBySpec.pre6 enc Try.prog Try.f10 Rows.fnExactLeftByRow.domain false) (Rows.fnExactLeftBySpec.post enc Try.prog Try.f10 false true false false) := by
  refine returnsInHanded_of_change (C := Try.checked) own started (by kernel_rfl) Try.func10
    (ChangeSpec.witness6 (enc := enc) (C := Try.checked) false ⟨#[], #[.agg #[.int .i64 0, .int .i64 0], .agg #[.int .i64 0, .bool false, .int .i64 0], .int .i64 0], []⟩ 8 (by kernel_rfl) (by kernel_rfl) (by kernel_rfl) (by kernel_rfl)) ?_
  intro W base args ds gs before hval0 hW hcnd _
  have hval : ∀ (j : Nat) t v, Try.f10.params[j]? = some t → args[j]? = some v → Value.okWide Try.prog W .any base t v := hval0
  have hW' := hW
  obtain ⟨p, q, hA0, hV, rfl, hfz, hnd⟩ := hW
  have hA : DataW.TrodAll enc Try.prog W 0 (fun _ => true) true Try.f10.params.toList args.toList ds p := hA0
  rw [Try.params10] at hA hval
  obtain ⟨v0, vs0, d0, ds0, p0, q0, h0args, rfl, rfl, h0, r0⟩ := trodAll_cons hA
  obtain ⟨v1, vs1, d1, ds1, p1, q1, h1args, rfl, rfl, h1, r1⟩ := trodAll_cons r0
  obtain ⟨v2, vs2, d2, ds2, p2, q2, h2args, rfl, rfl, h2, r2⟩ := trodAll_cons r1
  obtain ⟨rfl, rfl, rfl⟩ := trodAll_nil r2
  obtain rfl : args = #[v0, v1, v2] := by cases args; simp_all
  obtain ⟨rfl, rfl⟩ := trodVars_none hV
  have k0 := h0
  have lt0 : ∀ x ∈ p0, x.block < W.heap.size := by obtain ⟨m, hm⟩ := k0; exact DataW.trod_lt m _ _ _ hm
  obtain ⟨s0, t0, rfl, ws0, wt0⟩ : ∃ x y : Int, v0 = .agg #[.int .i64 x, .int .i64 y] ∧ W64 x ∧ W64 y := by
    obtain ⟨x0, x1, y0, y1, m, hv, hd, hp, hy0, hy1⟩ := open_agg2 Try.underlying34 (by kernel_rfl) (by kernel_rfl) (hval 0 34 v0 rfl rfl) h0
    obtain ⟨x, e0, _, wa⟩ := DataW.trod_int Try.underlying2 hy0
    obtain ⟨y, e1, _, wb⟩ := DataW.trod_int Try.underlying2 hy1
    simp at e0 e1
    subst e0 e1
    exact ⟨x, y, hv, w64_wf wa, w64_wf wb⟩
  have k1 := h1
  have lt1 : ∀ x ∈ p1, x.block < W.heap.size := by obtain ⟨m, hm⟩ := k1; exact DataW.trod_lt m _ _ _ hm
  obtain ⟨c1, b1, i1, rfl, wc1, wi1⟩ : ∃ (x : Int) (z : Bool) (y : Int), v1 = .agg #[.int .i64 x, .bool z, .int .i64 y] ∧ W64 x ∧ W64 y := by
    obtain ⟨x0, x1, x2, y0, y1, y2, m, hv, hd, hp, hy0, hy1, hy2⟩ := open_agg3 Try.underlying47 (by kernel_rfl) (by kernel_rfl) (hval 1 47 v1 rfl rfl) h1
    obtain ⟨x, e0, _, wa⟩ := DataW.trod_int Try.underlying2 hy0
    obtain ⟨z, e1, _⟩ := DataW.trod_bool Try.underlying4 hy1
    obtain ⟨y, e2, _, wb⟩ := DataW.trod_int Try.underlying2 hy2
    simp at e0 e1 e2
    subst e0 e1 e2
    exact ⟨x, z, y, hv, w64_wf wa, w64_wf wb⟩
  have k2 := h2
  have lt2 : ∀ x ∈ p2, x.block < W.heap.size := by obtain ⟨m, hm⟩ := k2; exact DataW.trod_lt m _ _ _ hm
  obtain ⟨n2, rfl, wn2⟩ : ∃ x : Int, v2 = .int .i64 x ∧ W64 x := by
    obtain ⟨x, e1, _, _, wx⟩ := open_int Try.underlying2 (hval 2 2 v2 rfl rfl) h2
    exact ⟨x, e1, w64_wf wx⟩
  clear hA0 hval0
  refine (exactLeftBy_walk s0 t0 c1 b1 i1 n2 W).mono fun e W' ⟨he, bel⟩ => ?_
  subst he
  exact ⟨_, rfl, _, _, _, [], _, [], hW', trodAll_mk1 (shut_bool Try.underlying4 _), (trodAll_cons_mk (Below.trod laidOut (by kernel_rfl) (of_decide_eq_true (by kernel_rfl)) k0 bel lt0) (trodAll_cons_mk (Below.trod laidOut (by kernel_rfl) (of_decide_eq_true (by kernel_rfl)) k1 bel lt1) (trodAll_cons_mk (Below.trod laidOut (by kernel_rfl) (of_decide_eq_true (by kernel_rfl)) k2 bel lt2) trodAll_mk0))), rfl, bel.frame _, fun h => by cases h⟩

theorem exactLeftBy_proved : Rows.FnExactLeftBySaid :=
  OpenClaim.holds_of_wide 10 Try.f10 rfl rfl rfl rfl rfl rfl rfl ⟨rfl, rfl, rfl, rfl, rfl⟩ rfl rfl rfl rfl rfl (by kernel_rfl) Try.func10 (by kernel_rfl)
    (of_decide_eq_true (by kernel_rfl)) (by unfold Func.isWrapper; first | (rw [if_pos (by decide +kernel)]; kernel_rfl) | (rw [if_neg (by decide +kernel)]; exact ⟨rfl, rfl⟩))
    (fun os started H enc _ => liftedFnExactLeftBy os started H enc)

set_option maxRecDepth 100000 in
theorem liftedFnExactEmptied (os : Os) (started : os.Started) (H : Type) (enc : TypeId × Value → H) :
    ReturnsInHanded {} Try.checked os 11 .any (Rows.fnExactEmptiedSpec.pre6 enc Try.prog Try.f11 Rows.fnExactEmptiedRow.domain false) (Rows.fnExactEmptiedSpec.post enc Try.prog Try.f11 false true false false) := by
  refine returnsInHanded_of_change (C := Try.checked) own started (by kernel_rfl) Try.func11
    (ChangeSpec.witness6 (enc := enc) (C := Try.checked) false ⟨#[], #[.agg #[.int .i64 0, .int .i64 0], .agg #[.int .i64 0, .bool false, .int .i64 0]], []⟩ 8 (by kernel_rfl) (by kernel_rfl) (by kernel_rfl) (by kernel_rfl)) ?_
  intro W base args ds gs before hval0 hW hcnd _
  have hval : ∀ (j : Nat) t v, Try.f11.params[j]? = some t → args[j]? = some v → Value.okWide Try.prog W .any base t v := hval0
  have hW' := hW
  obtain ⟨p, q, hA0, hV, rfl, hfz, hnd⟩ := hW
  have hA : DataW.TrodAll enc Try.prog W 0 (fun _ => true) true Try.f11.params.toList args.toList ds p := hA0
  rw [Try.params11] at hA hval
  obtain ⟨v0, vs0, d0, ds0, p0, q0, h0args, rfl, rfl, h0, r0⟩ := trodAll_cons hA
  obtain ⟨v1, vs1, d1, ds1, p1, q1, h1args, rfl, rfl, h1, r1⟩ := trodAll_cons r0
  obtain ⟨rfl, rfl, rfl⟩ := trodAll_nil r1
  obtain rfl : args = #[v0, v1] := by cases args; simp_all
  obtain ⟨rfl, rfl⟩ := trodVars_none hV
  have k0 := h0
  have lt0 : ∀ x ∈ p0, x.block < W.heap.size := by obtain ⟨m, hm⟩ := k0; exact DataW.trod_lt m _ _ _ hm
  obtain ⟨s0, t0, rfl, ws0, wt0⟩ : ∃ x y : Int, v0 = .agg #[.int .i64 x, .int .i64 y] ∧ W64 x ∧ W64 y := by
    obtain ⟨x0, x1, y0, y1, m, hv, hd, hp, hy0, hy1⟩ := open_agg2 Try.underlying34 (by kernel_rfl) (by kernel_rfl) (hval 0 34 v0 rfl rfl) h0
    obtain ⟨x, e0, _, wa⟩ := DataW.trod_int Try.underlying2 hy0
    obtain ⟨y, e1, _, wb⟩ := DataW.trod_int Try.underlying2 hy1
    simp at e0 e1
    subst e0 e1
    exact ⟨x, y, hv, w64_wf wa, w64_wf wb⟩
  have k1 := h1
  have lt1 : ∀ x ∈ p1, x.block < W.heap.size := by obtain ⟨m, hm⟩ := k1; exact DataW.trod_lt m _ _ _ hm
  obtain ⟨c1, b1, i1, rfl, wc1, wi1⟩ : ∃ (x : Int) (z : Bool) (y : Int), v1 = .agg #[.int .i64 x, .bool z, .int .i64 y] ∧ W64 x ∧ W64 y := by
    obtain ⟨x0, x1, x2, y0, y1, y2, m, hv, hd, hp, hy0, hy1, hy2⟩ := open_agg3 Try.underlying47 (by kernel_rfl) (by kernel_rfl) (hval 1 47 v1 rfl rfl) h1
    obtain ⟨x, e0, _, wa⟩ := DataW.trod_int Try.underlying2 hy0
    obtain ⟨z, e1, _⟩ := DataW.trod_bool Try.underlying4 hy1
    obtain ⟨y, e2, _, wb⟩ := DataW.trod_int Try.underlying2 hy2
    simp at e0 e1 e2
    subst e0 e1 e2
    exact ⟨x, z, y, hv, w64_wf wa, w64_wf wb⟩
  clear hA0 hval0
  refine (exactEmptied_walk s0 t0 c1 b1 i1 W).mono fun e W' ⟨he, bel⟩ => ?_
  subst he
  exact ⟨_, rfl, _, _, _, [], _, [], hW', trodAll_mk1 (shut_bool Try.underlying4 _), (trodAll_cons_mk (Below.trod laidOut (by kernel_rfl) (of_decide_eq_true (by kernel_rfl)) k0 bel lt0) (trodAll_cons_mk (Below.trod laidOut (by kernel_rfl) (of_decide_eq_true (by kernel_rfl)) k1 bel lt1) trodAll_mk0)), rfl, bel.frame _, fun h => by cases h⟩

theorem exactEmptied_proved : Rows.FnExactEmptiedSaid :=
  OpenClaim.holds_of_wide 11 Try.f11 rfl rfl rfl rfl rfl rfl rfl ⟨rfl, rfl, rfl, rfl, rfl⟩ rfl rfl rfl rfl rfl (by kernel_rfl) Try.func11 (by kernel_rfl)
    (of_decide_eq_true (by kernel_rfl)) (by unfold Func.isWrapper; first | (rw [if_pos (by decide +kernel)]; kernel_rfl) | (rw [if_neg (by decide +kernel)]; exact ⟨rfl, rfl⟩))
    (fun os started H enc _ => liftedFnExactEmptied os started H enc)

end Go.Proofs.Ytgcnfnmdemeaoaa
