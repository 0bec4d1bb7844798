/- The program's entries (commit 69a45cb): its functions answer as the model's. -/
import Derived.Test.YtdpahikbikiilaaS5b
import Derived.Test.YtdpahikbikiilaaI4
import Derived.Test.YtdpahikbikiilaaI2
namespace Go.Proofs.Ytdpahikbikiilaa
open Go.RowKit

theorem okEK_iff {s t c i k : Int} : okEK s t c i k ↔ okT s t k ∧ okI s c i :=
  ⟨fun h => ⟨⟨h.1.1, h.2⟩, h.1.2⟩, fun h => ⟨⟨h.1.1, h.2⟩, h.1.2⟩⟩

set_option maxHeartbeats 1000000 in
theorem tWith_yes (s t c i k : Int) (b : Bool) (h : okEK s t c i k) (w : World) :
    Calls Try.prog 79 #[.agg #[.int .i64 s, .int .i64 t, .int .i64 k], .agg #[.int .i64 c, .bool b, .int .i64 i]] w fun e w' => e = .returned (.bool true) ∧ Below w.heap.size w w' := by
  obtain ⟨hT, hI⟩ := okEK_iff.1 h
  have HT := Lib.hid hT
  obtain ⟨g1, g2⟩ := okP_le hT.1
  have HR := Lib.hid (fun w => right_any s t c i b g1 g2 w)
  rw [okIB_yes hI] at HR
  clear h hT hI g1 g2
  have hQ := ((Held.start w).new (.cells #[.int .i64 s, .int .i64 t, .int .i64 k] 90)).new (.cells #[.int .i64 c, .bool b, .int .i64 i] 69)
  simp only [World.size_alloc] at hQ
  go_enter Try.func79, Try.ntmps79
  go_wp2_with (first | (go_at_call 93; (with_reducible refine (tRight_yes _ _ _ HT.out _).mono ?_); rintro e w1 ⟨rfl, hb⟩; have hQ1 := hQ.step hb; clear hQ hb; obtain ⟨q0, q1, q2, -⟩ := blk_tri hQ1.tl.hd; obtain ⟨r0, r1, r2, -⟩ := blk_tri hQ1.hd) | (go_at_call 89; (with_reducible refine (HR.out _).mono ?_); rintro e w2 ⟨rfl, hb2⟩))
  go_ret
  exact ⟨rfl, (hQ1.step hb2).below⟩

set_option maxHeartbeats 1000000 in
theorem tWith_no (s t c i k : Int) (b : Bool) (h : ¬ okEK s t c i k) (w : World) :
    Calls Try.prog 79 #[.agg #[.int .i64 s, .int .i64 t, .int .i64 k], .agg #[.int .i64 c, .bool b, .int .i64 i]] w fun e w' => e = .returned (.bool false) ∧ Below w.heap.size w w' := by
  have hQ := ((Held.start w).new (.cells #[.int .i64 s, .int .i64 t, .int .i64 k] 90)).new (.cells #[.int .i64 c, .bool b, .int .i64 i] 69)
  simp only [World.size_alloc] at hQ
  by_cases hT : okT s t k
  · have hI : ¬ okI s c i := fun hi => h (okEK_iff.2 ⟨hT, hi⟩)
    have HT := Lib.hid hT
    obtain ⟨g1, g2⟩ := okP_le hT.1
    have HR := Lib.hid (fun w => right_any s t c i b g1 g2 w)
    rw [okIB_no hI] at HR
    clear h hT hI g1 g2
    go_enter Try.func79, Try.ntmps79
    go_wp2_with (first | (go_at_call 93; (with_reducible refine (tRight_yes _ _ _ HT.out _).mono ?_); rintro e w1 ⟨rfl, hb⟩; have hQ1 := hQ.step hb; clear hQ hb; obtain ⟨q0, q1, q2, -⟩ := blk_tri hQ1.tl.hd; obtain ⟨r0, r1, r2, -⟩ := blk_tri hQ1.hd) | (go_at_call 89; (with_reducible refine (HR.out _).mono ?_); rintro e w2 ⟨rfl, hb2⟩))
    go_ret
    exact ⟨rfl, (hQ1.step hb2).below⟩
  · have HT := Lib.hid hT
    clear h hT
    go_enter Try.func79, Try.ntmps79
    go_wp2_with (go_at_call 93; (with_reducible refine (tRight_no _ _ _ HT.out _).mono ?_); rintro e w1 ⟨rfl, hb⟩; have hQ1 := hQ.step hb; clear hQ hb; obtain ⟨q0, q1, q2, -⟩ := blk_tri hQ1.tl.hd; obtain ⟨r0, r1, r2, -⟩ := blk_tri hQ1.hd)
    go_ret
    exact ⟨rfl, hQ1.below⟩

set_option maxRecDepth 100000 in
set_option maxHeartbeats 2000000 in
theorem iTake_a (s t c i k : Int) (b : Bool) (h : okEK s t c i k) (hi : ¬ i = 2 * s - 1) (w : World) :
    Calls Try.prog 74 #[.agg #[.int .i64 s, .int .i64 t], .agg #[.int .i64 c, .bool b, .int .i64 i], .int .i64 k] w fun e w' => e = .returned (.int .i64 (0)) ∧ Below w.heap.size w w' := by
  have HE := Lib.hid h
  have hT := (okEK_iff.1 h).1
  have HCY := Lib.hid (fun w => tcycle_yes s t k hT w)
  obtain ⟨g1, g2⟩ := okP_le hT.1
  have HNO := Lib.hid (fun w => none_any s t g1 g2 w)
  obtain ⟨Y, hY⟩ : ∃ Y, Y = cycD s k := ⟨_, rfl⟩
  obtain ⟨M, hM⟩ : ∃ M, M = 2 * s - 1 := ⟨_, rfl⟩
  rw [← hY] at HCY
  rw [← hM] at HNO
  have hd : (i != M) = true := by simp; omega
  clear h hT g1 g2 hY hM hi HCY
  have hQ := (((Held.start w).new (.cells #[.int .i64 s, .int .i64 t] 38)).new (.cells #[.int .i64 c, .bool b, .int .i64 i] 69)).new (.cells #[.int .i64 s, .int .i64 t, .int .i64 k] 90)
  simp only [World.size_alloc] at hQ
  have hF : ∀ {w' : World}, Held w.heap.size (w.heap.size + 1 + 1 + 1) [(w.heap.size + 1 + 1, .cells #[.int .i64 s, .int .i64 t, .int .i64 k] 90), (w.heap.size + 1, .cells #[.int .i64 c, .bool b, .int .i64 i] 69), (w.heap.size, .cells #[.int .i64 s, .int .i64 t] 38)] w w' → w'.cell? ⟨w.heap.size + 1 + 1, 0, none⟩ = some (.int .i64 s) ∧ w'.cell? ⟨w.heap.size + 1 + 1, 1, none⟩ = some (.int .i64 t) ∧ w'.cell? ⟨w.heap.size + 1 + 1, 2, none⟩ = some (.int .i64 k) ∧ w'.cell? ⟨w.heap.size + 1, 0, none⟩ = some (.int .i64 c) ∧ w'.cell? ⟨w.heap.size + 1, 1, none⟩ = some (.bool b) ∧ w'.cell? ⟨w.heap.size + 1, 2, none⟩ = some (.int .i64 i) ∧ Held w.heap.size (w.heap.size + 1 + 1 + 1) [(w.heap.size + 1 + 1, .cells #[.int .i64 s, .int .i64 t, .int .i64 k] 90), (w.heap.size + 1, .cells #[.int .i64 c, .bool b, .int .i64 i] 69), (w.heap.size, .cells #[.int .i64 s, .int .i64 t] 38)] w w' := fun h => ⟨(blk_tri h.hd).1, (blk_tri h.hd).2.1, (blk_tri h.hd).2.2.1, (blk_tri h.tl.hd).1, (blk_tri h.tl.hd).2.1, (blk_tri h.tl.hd).2.2.1, h⟩
  go_enter Try.func74, Try.ntmps74
  go_wp2_with (go_at_call 79; (with_reducible refine (tWith_yes _ _ _ _ _ _ HE.out _).mono ?_); rintro e w1 ⟨rfl, hb⟩; have HQ1 := Lib.hid (hQ.step hb); clear hb hQ; obtain ⟨q0, q1, q2, q3, q4, q5, -⟩ := hF HQ1.out)
  go_region_held3 (fun w' => w'.cell? ⟨w.heap.size + 1 + 1, 0, none⟩ = some (.int .i64 s) ∧ w'.cell? ⟨w.heap.size + 1 + 1, 1, none⟩ = some (.int .i64 t) ∧ w'.cell? ⟨w.heap.size + 1 + 1, 2, none⟩ = some (.int .i64 k) ∧ w'.cell? ⟨w.heap.size + 1, 0, none⟩ = some (.int .i64 c) ∧ w'.cell? ⟨w.heap.size + 1, 1, none⟩ = some (.bool b) ∧ w'.cell? ⟨w.heap.size + 1, 2, none⟩ = some (.int .i64 i) ∧ Held w.heap.size (w.heap.size + 1 + 1 + 1) [(w.heap.size + 1 + 1, .cells #[.int .i64 s, .int .i64 t, .int .i64 k] 90), (w.heap.size + 1, .cells #[.int .i64 c, .bool b, .int .i64 i] 69), (w.heap.size, .cells #[.int .i64 s, .int .i64 t] 38)] w w')
    (with_reducible refine hF ?_; repeat' (first | with_reducible exact HQ1.out | with_reducible exact htc | with_reducible refine Held.drew ?_))
    ((first | (go_at_call 87; (try go_split_ands); (with_reducible refine (HNO.out _).mono ?_); rintro e w2 ⟨rfl, hb2⟩; have htc := Held.step (by assumption) hb2)))
  go_wp2
  go_ret
  exact ⟨rfl, htc.below⟩

set_option maxRecDepth 100000 in
set_option maxHeartbeats 2000000 in
theorem iTake_b (s t c i k : Int) (b : Bool) (h : okEK s t c i k) (hi : i = 2 * s - 1) (hc : cycD s k ≤ c) (w : World) :
    Calls Try.prog 74 #[.agg #[.int .i64 s, .int .i64 t], .agg #[.int .i64 c, .bool b, .int .i64 i], .int .i64 k] w fun e w' => e = .returned (.int .i64 (0)) ∧ Below w.heap.size w w' := by
  have HE := Lib.hid h
  have hT := (okEK_iff.1 h).1
  have HCY := Lib.hid (fun w => tcycle_yes s t k hT w)
  obtain ⟨g1, g2⟩ := okP_le hT.1
  have HNO := Lib.hid (fun w => none_any s t g1 g2 w)
  obtain ⟨Y, hY⟩ : ∃ Y, Y = cycD s k := ⟨_, rfl⟩
  obtain ⟨M, hM⟩ : ∃ M, M = 2 * s - 1 := ⟨_, rfl⟩
  rw [← hY] at HCY
  rw [← hM] at HNO
  have hd : (i != M) = false := by simp; omega
  have hd2 : decide (Y ≤ c) = true := by exact decide_eq_true (by omega)
  clear h hT g1 g2 hY hM hi hc
  have hQ := (((Held.start w).new (.cells #[.int .i64 s, .int .i64 t] 38)).new (.cells #[.int .i64 c, .bool b, .int .i64 i] 69)).new (.cells #[.int .i64 s, .int .i64 t, .int .i64 k] 90)
  simp only [World.size_alloc] at hQ
  have hF : ∀ {w' : World}, Held w.heap.size (w.heap.size + 1 + 1 + 1) [(w.heap.size + 1 + 1, .cells #[.int .i64 s, .int .i64 t, .int .i64 k] 90), (w.heap.size + 1, .cells #[.int .i64 c, .bool b, .int .i64 i] 69), (w.heap.size, .cells #[.int .i64 s, .int .i64 t] 38)] w w' → w'.cell? ⟨w.heap.size + 1 + 1, 0, none⟩ = some (.int .i64 s) ∧ w'.cell? ⟨w.heap.size + 1 + 1, 1, none⟩ = some (.int .i64 t) ∧ w'.cell? ⟨w.heap.size + 1 + 1, 2, none⟩ = some (.int .i64 k) ∧ w'.cell? ⟨w.heap.size + 1, 0, none⟩ = some (.int .i64 c) ∧ w'.cell? ⟨w.heap.size + 1, 1, none⟩ = some (.bool b) ∧ w'.cell? ⟨w.heap.size + 1, 2, none⟩ = some (.int .i64 i) ∧ Held w.heap.size (w.heap.size + 1 + 1 + 1) [(w.heap.size + 1 + 1, .cells #[.int .i64 s, .int .i64 t, .int .i64 k] 90), (w.heap.size + 1, .cells #[.int .i64 c, .bool b, .int .i64 i] 69), (w.heap.size, .cells #[.int .i64 s, .int .i64 t] 38)] w w' := fun h => ⟨(blk_tri h.hd).1, (blk_tri h.hd).2.1, (blk_tri h.hd).2.2.1, (blk_tri h.tl.hd).1, (blk_tri h.tl.hd).2.1, (blk_tri h.tl.hd).2.2.1, h⟩
  go_enter Try.func74, Try.ntmps74
  go_wp2_with (go_at_call 79; (with_reducible refine (tWith_yes _ _ _ _ _ _ HE.out _).mono ?_); rintro e w1 ⟨rfl, hb⟩; have HQ1 := Lib.hid (hQ.step hb); clear hb hQ; obtain ⟨q0, q1, q2, q3, q4, q5, -⟩ := hF HQ1.out)
  go_region_held3 (fun w' => w'.cell? ⟨w.heap.size + 1 + 1, 0, none⟩ = some (.int .i64 s) ∧ w'.cell? ⟨w.heap.size + 1 + 1, 1, none⟩ = some (.int .i64 t) ∧ w'.cell? ⟨w.heap.size + 1 + 1, 2, none⟩ = some (.int .i64 k) ∧ w'.cell? ⟨w.heap.size + 1, 0, none⟩ = some (.int .i64 c) ∧ w'.cell? ⟨w.heap.size + 1, 1, none⟩ = some (.bool b) ∧ w'.cell? ⟨w.heap.size + 1, 2, none⟩ = some (.int .i64 i) ∧ Held w.heap.size (w.heap.size + 1 + 1 + 1) [(w.heap.size + 1 + 1, .cells #[.int .i64 s, .int .i64 t, .int .i64 k] 90), (w.heap.size + 1, .cells #[.int .i64 c, .bool b, .int .i64 i] 69), (w.heap.size, .cells #[.int .i64 s, .int .i64 t] 38)] w w')
    (with_reducible refine hF ?_; repeat' (first | with_reducible exact HQ1.out | with_reducible exact htc | with_reducible refine Held.drew ?_))
    ((first | (go_at_call 87; (try go_split_ands); (with_reducible refine (HNO.out _).mono ?_); rintro e w2 ⟨rfl, hb2⟩; have htc := Held.step (by assumption) hb2)))
  (try go_split_ands)
  have HQ1 := Lib.hid htc
  clear q0 q1 q2 q3 q4 q5
  obtain ⟨q0, q1, q2, q3, q4, q5, -⟩ := hF HQ1.out
  clear htc
  go_wp2
  go_region_held3 (fun w' => w'.cell? ⟨w.heap.size + 1 + 1, 0, none⟩ = some (.int .i64 s) ∧ w'.cell? ⟨w.heap.size + 1 + 1, 1, none⟩ = some (.int .i64 t) ∧ w'.cell? ⟨w.heap.size + 1 + 1, 2, none⟩ = some (.int .i64 k) ∧ w'.cell? ⟨w.heap.size + 1, 0, none⟩ = some (.int .i64 c) ∧ w'.cell? ⟨w.heap.size + 1, 1, none⟩ = some (.bool b) ∧ w'.cell? ⟨w.heap.size + 1, 2, none⟩ = some (.int .i64 i) ∧ Held w.heap.size (w.heap.size + 1 + 1 + 1) [(w.heap.size + 1 + 1, .cells #[.int .i64 s, .int .i64 t, .int .i64 k] 90), (w.heap.size + 1, .cells #[.int .i64 c, .bool b, .int .i64 i] 69), (w.heap.size, .cells #[.int .i64 s, .int .i64 t] 38)] w w')
    (with_reducible refine hF ?_; repeat' (first | with_reducible exact HQ1.out | with_reducible exact htc | with_reducible refine Held.drew ?_))
    ((first | (go_at_call 80; (try go_split_ands); (with_reducible refine (HCY.out _).mono ?_); rintro e w2 ⟨rfl, hb2⟩; have htc := Held.step (by assumption) hb2)))
  go_wp2
  go_ret
  exact ⟨rfl, htc.below⟩

set_option maxRecDepth 100000 in
set_option maxHeartbeats 2000000 in
theorem iTake_c (s t c i k : Int) (b : Bool) (h : okEK s t c i k) (hi : i = 2 * s - 1) (hc : c < cycD s k) (w : World) :
    Calls Try.prog 74 #[.agg #[.int .i64 s, .int .i64 t], .agg #[.int .i64 c, .bool b, .int .i64 i], .int .i64 k] w fun e w' => e = .returned (.int .i64 (if b then 1 else 2)) ∧ Below w.heap.size w w' := by
  have HE := Lib.hid h
  have hT := (okEK_iff.1 h).1
  have HCY := Lib.hid (fun w => tcycle_yes s t k hT w)
  obtain ⟨g1, g2⟩ := okP_le hT.1
  have HNO := Lib.hid (fun w => none_any s t g1 g2 w)
  obtain ⟨Y, hY⟩ : ∃ Y, Y = cycD s k := ⟨_, rfl⟩
  obtain ⟨M, hM⟩ : ∃ M, M = 2 * s - 1 := ⟨_, rfl⟩
  rw [← hY] at HCY
  rw [← hM] at HNO
  have hd : (i != M) = false := by simp; omega
  have hd2 : decide (Y ≤ c) = false := by exact decide_eq_false (by omega)
  clear h hT g1 g2 hY hM hi hc
  have hQ := (((Held.start w).new (.cells #[.int .i64 s, .int .i64 t] 38)).new (.cells #[.int .i64 c, .bool b, .int .i64 i] 69)).new (.cells #[.int .i64 s, .int .i64 t, .int .i64 k] 90)
  simp only [World.size_alloc] at hQ
  have hF : ∀ {w' : World}, Held w.heap.size (w.heap.size + 1 + 1 + 1) [(w.heap.size + 1 + 1, .cells #[.int .i64 s, .int .i64 t, .int .i64 k] 90), (w.heap.size + 1, .cells #[.int .i64 c, .bool b, .int .i64 i] 69), (w.heap.size, .cells #[.int .i64 s, .int .i64 t] 38)] w w' → w'.cell? ⟨w.heap.size + 1 + 1, 0, none⟩ = some (.int .i64 s) ∧ w'.cell? ⟨w.heap.size + 1 + 1, 1, none⟩ = some (.int .i64 t) ∧ w'.cell? ⟨w.heap.size + 1 + 1, 2, none⟩ = some (.int .i64 k) ∧ w'.cell? ⟨w.heap.size + 1, 0, none⟩ = some (.int .i64 c) ∧ w'.cell? ⟨w.heap.size + 1, 1, none⟩ = some (.bool b) ∧ w'.cell? ⟨w.heap.size + 1, 2, none⟩ = some (.int .i64 i) ∧ Held w.heap.size (w.heap.size + 1 + 1 + 1) [(w.heap.size + 1 + 1, .cells #[.int .i64 s, .int .i64 t, .int .i64 k] 90), (w.heap.size + 1, .cells #[.int .i64 c, .bool b, .int .i64 i] 69), (w.heap.size, .cells #[.int .i64 s, .int .i64 t] 38)] w w' := fun h => ⟨(blk_tri h.hd).1, (blk_tri h.hd).2.1, (blk_tri h.hd).2.2.1, (blk_tri h.tl.hd).1, (blk_tri h.tl.hd).2.1, (blk_tri h.tl.hd).2.2.1, h⟩
  go_enter Try.func74, Try.ntmps74
  go_wp2_with (go_at_call 79; (with_reducible refine (tWith_yes _ _ _ _ _ _ HE.out _).mono ?_); rintro e w1 ⟨rfl, hb⟩; have HQ1 := Lib.hid (hQ.step hb); clear hb hQ; obtain ⟨q0, q1, q2, q3, q4, q5, -⟩ := hF HQ1.out)
  go_region_held3 (fun w' => w'.cell? ⟨w.heap.size + 1 + 1, 0, none⟩ = some (.int .i64 s) ∧ w'.cell? ⟨w.heap.size + 1 + 1, 1, none⟩ = some (.int .i64 t) ∧ w'.cell? ⟨w.heap.size + 1 + 1, 2, none⟩ = some (.int .i64 k) ∧ w'.cell? ⟨w.heap.size + 1, 0, none⟩ = some (.int .i64 c) ∧ w'.cell? ⟨w.heap.size + 1, 1, none⟩ = some (.bool b) ∧ w'.cell? ⟨w.heap.size + 1, 2, none⟩ = some (.int .i64 i) ∧ Held w.heap.size (w.heap.size + 1 + 1 + 1) [(w.heap.size + 1 + 1, .cells #[.int .i64 s, .int .i64 t, .int .i64 k] 90), (w.heap.size + 1, .cells #[.int .i64 c, .bool b, .int .i64 i] 69), (w.heap.size, .cells #[.int .i64 s, .int .i64 t] 38)] w w')
    (with_reducible refine hF ?_; repeat' (first | with_reducible exact HQ1.out | with_reducible exact htc | with_reducible refine Held.drew ?_))
    ((first | (go_at_call 87; (try go_split_ands); (with_reducible refine (HNO.out _).mono ?_); rintro e w2 ⟨rfl, hb2⟩; have htc := Held.step (by assumption) hb2)))
  (try go_split_ands)
  have HQ1 := Lib.hid htc
  clear q0 q1 q2 q3 q4 q5
  obtain ⟨q0, q1, q2, q3, q4, q5, -⟩ := hF HQ1.out
  clear htc
  go_wp2
  go_region_held3 (fun w' => w'.cell? ⟨w.heap.size + 1 + 1, 0, none⟩ = some (.int .i64 s) ∧ w'.cell? ⟨w.heap.size + 1 + 1, 1, none⟩ = some (.int .i64 t) ∧ w'.cell? ⟨w.heap.size + 1 + 1, 2, none⟩ = some (.int .i64 k) ∧ w'.cell? ⟨w.heap.size + 1, 0, none⟩ = some (.int .i64 c) ∧ w'.cell? ⟨w.heap.size + 1, 1, none⟩ = some (.bool b) ∧ w'.cell? ⟨w.heap.size + 1, 2, none⟩ = some (.int .i64 i) ∧ Held w.heap.size (w.heap.size + 1 + 1 + 1) [(w.heap.size + 1 + 1, .cells #[.int .i64 s, .int .i64 t, .int .i64 k] 90), (w.heap.size + 1, .cells #[.int .i64 c, .bool b, .int .i64 i] 69), (w.heap.size, .cells #[.int .i64 s, .int .i64 t] 38)] w w')
    (with_reducible refine hF ?_; repeat' (first | with_reducible exact HQ1.out | with_reducible exact htc | with_reducible refine Held.drew ?_))
    ((first | (go_at_call 80; (try go_split_ands); (with_reducible refine (HCY.out _).mono ?_); rintro e w2 ⟨rfl, hb2⟩; have htc := Held.step (by assumption) hb2)))
  (try go_split_ands)
  have HQ1 := Lib.hid htc
  clear q0 q1 q2 q3 q4 q5
  obtain ⟨q0, q1, q2, q3, q4, q5, -⟩ := hF HQ1.out
  clear htc
  cases b
  all_goals
    go_wp2
    go_ret
    exact ⟨rfl, HQ1.out.below⟩

set_option maxHeartbeats 1000000 in
theorem iTake_no (s t c i k : Int) (b : Bool) (h : ¬ okEK s t c i k) (w : World) :
    Calls Try.prog 74 #[.agg #[.int .i64 s, .int .i64 t], .agg #[.int .i64 c, .bool b, .int .i64 i], .int .i64 k] w fun e w' => e = .returned (.int .i64 (-1)) ∧ Below w.heap.size w w' := by
  have HE := Lib.hid h
  clear h
  have hQ := (((Held.start w).new (.cells #[.int .i64 s, .int .i64 t] 38)).new (.cells #[.int .i64 c, .bool b, .int .i64 i] 69)).new (.cells #[.int .i64 s, .int .i64 t, .int .i64 k] 90)
  simp only [World.size_alloc] at hQ
  have hF : ∀ {w' : World}, Held w.heap.size (w.heap.size + 1 + 1 + 1) [(w.heap.size + 1 + 1, .cells #[.int .i64 s, .int .i64 t, .int .i64 k] 90), (w.heap.size + 1, .cells #[.int .i64 c, .bool b, .int .i64 i] 69), (w.heap.size, .cells #[.int .i64 s, .int .i64 t] 38)] w w' → w'.cell? ⟨w.heap.size + 1 + 1, 0, none⟩ = some (.int .i64 s) ∧ w'.cell? ⟨w.heap.size + 1 + 1, 1, none⟩ = some (.int .i64 t) ∧ w'.cell? ⟨w.heap.size + 1 + 1, 2, none⟩ = some (.int .i64 k) ∧ w'.cell? ⟨w.heap.size + 1, 0, none⟩ = some (.int .i64 c) ∧ w'.cell? ⟨w.heap.size + 1, 1, none⟩ = some (.bool b) ∧ w'.cell? ⟨w.heap.size + 1, 2, none⟩ = some (.int .i64 i) ∧ Held w.heap.size (w.heap.size + 1 + 1 + 1) [(w.heap.size + 1 + 1, .cells #[.int .i64 s, .int .i64 t, .int .i64 k] 90), (w.heap.size + 1, .cells #[.int .i64 c, .bool b, .int .i64 i] 69), (w.heap.size, .cells #[.int .i64 s, .int .i64 t] 38)] w w' := fun h => ⟨(blk_tri h.hd).1, (blk_tri h.hd).2.1, (blk_tri h.hd).2.2.1, (blk_tri h.tl.hd).1, (blk_tri h.tl.hd).2.1, (blk_tri h.tl.hd).2.2.1, h⟩
  go_enter Try.func74, Try.ntmps74
  go_wp2_with (go_at_call 79; (with_reducible refine (tWith_no _ _ _ _ _ _ HE.out _).mono ?_); rintro e w1 ⟨rfl, hb⟩; have HQ1 := Lib.hid (hQ.step hb); clear hb hQ; obtain ⟨q0, q1, q2, q3, q4, q5, -⟩ := hF HQ1.out)
  go_ret
  exact ⟨rfl, HQ1.out.below⟩

theorem iMayTake (s t c i k : Int) (b : Bool) (w : World) :
    Calls Try.prog 74 #[.agg #[.int .i64 s, .int .i64 t], .agg #[.int .i64 c, .bool b, .int .i64 i], .int .i64 k] w fun e w' => e = .returned (.int .i64 (takeV s t c i k b)) ∧ Below w.heap.size w w' := by
  by_cases h : okEK s t c i k
  · rw [show takeV s t c i k b = takeD s c i k b from if_pos h]
    by_cases hi : i = 2 * s - 1
    · by_cases hc : c < cycD s k
      · rw [show takeD s c i k b = if b then 1 else 2 from if_pos ⟨hc, hi⟩]; exact iTake_c s t c i k b h hi hc w
      · rw [show takeD s c i k b = 0 from if_neg (fun hx => hc hx.1)]; exact iTake_b s t c i k b h hi (by omega) w
    · rw [show takeD s c i k b = 0 from if_neg (fun hx => hi hx.2)]; exact iTake_a s t c i k b h hi w
  · rw [show takeV s t c i k b = -1 from if_neg h]; exact iTake_no s t c i k b h w

set_option maxHeartbeats 1000000 in
theorem iTaken_yes (s t k i : Int) (h : okEK s t 0 i k) (w : World) :
    Calls Try.prog 61 #[.agg #[.int .i64 s, .int .i64 t], .int .i64 k, .int .i64 i] w fun e w' => e = .returned (.agg #[.int .i64 (cycD s k), .bool true, .int .i64 i]) ∧ Below w.heap.size w w' := by
  have HE := Lib.hid h
  have HCY := Lib.hid (fun w => tcycle_yes s t k (okEK_iff.1 h).1 w)
  generalize cycD s k = Y at *
  clear h
  have hQ := (((((Held.start w).new (.cells #[.int .i64 s, .int .i64 t] 38)).new (.cells #[.int .i64 0, .bool false, .int .i64 0] 69)).new (.cells #[.int .i64 s, .int .i64 t, .int .i64 k] 90)).new (.cells #[.int .i64 0, .bool true, .int .i64 i] 69))
  simp only [World.size_alloc, World.size_setCell] at hQ
  go_enter Try.func61, Try.ntmps61
  go_wp2_with (first | (go_at_call 79; (with_reducible refine (tWith_yes _ _ _ _ _ _ HE.out _).mono ?_); rintro e w1 ⟨rfl, hb⟩; have HQ1 := Lib.hid (hQ.step hb); clear hb hQ; obtain ⟨q0, q1, q2, f0, f1, f2⟩ := blk_three HQ1.out.hd; obtain ⟨t0, t1, t2, -⟩ := blk_tri HQ1.out.tl.hd; obtain ⟨r0, r1, r2, g0, g1, g2⟩ := blk_three HQ1.out.tl.tl.hd; have y1 := HQ1.out.size) | (go_at_call 80; (with_reducible refine (HCY.out _).mono ?_); rintro e w2 ⟨rfl, hb2⟩; have HQ2 := Lib.hid (HQ1.out.step hb2); clear hb2 HQ1 q0 q1 q2 f0 f1 f2 t0 t1 t2 r0 r1 r2 g0 g1 g2 y1; have HQ1 := HQ2; clear HQ2; obtain ⟨q0, q1, q2, f0, f1, f2⟩ := blk_three HQ1.out.hd; obtain ⟨t0, t1, t2, -⟩ := blk_tri HQ1.out.tl.hd; obtain ⟨r0, r1, r2, g0, g1, g2⟩ := blk_three HQ1.out.tl.tl.hd; have y1 := HQ1.out.size))
  refine bodyPost_ret ?ret rfl ⟨rfl, ?bel⟩
  case ret => simp [results, Try.results61, go_sem, r0, r1, r2]
  case bel => exact (by repeat' (first | exact HQ1.out.below | refine Below.setCell ?_ (by first | (simp; done) | (simp; omega)) _))

set_option maxHeartbeats 1000000 in
theorem iTaken_no (s t k i : Int) (h : ¬ okEK s t 0 i k) (w : World) :
    Calls Try.prog 61 #[.agg #[.int .i64 s, .int .i64 t], .int .i64 k, .int .i64 i] w fun e w' => e = .returned (.agg #[.int .i64 0, .bool false, .int .i64 0]) ∧ Below w.heap.size w w' := by
  have HE := Lib.hid h
  clear h
  have hQ := (((((Held.start w).new (.cells #[.int .i64 s, .int .i64 t] 38)).new (.cells #[.int .i64 0, .bool false, .int .i64 0] 69)).new (.cells #[.int .i64 s, .int .i64 t, .int .i64 k] 90)).new (.cells #[.int .i64 0, .bool true, .int .i64 i] 69))
  simp only [World.size_alloc, World.size_setCell] at hQ
  go_enter Try.func61, Try.ntmps61
  go_wp2_with (go_at_call 79; (with_reducible refine (tWith_no _ _ _ _ _ _ HE.out _).mono ?_); rintro e w1 ⟨rfl, hb⟩; have HQ1 := Lib.hid (hQ.step hb); clear hb hQ; obtain ⟨q0, q1, q2, f0, f1, f2⟩ := blk_three HQ1.out.hd; obtain ⟨t0, t1, t2, -⟩ := blk_tri HQ1.out.tl.hd; obtain ⟨r0, r1, r2, g0, g1, g2⟩ := blk_three HQ1.out.tl.tl.hd; have y1 := HQ1.out.size)
  refine bodyPost_ret ?ret rfl ⟨rfl, ?bel⟩
  case ret => simp [results, Try.results61, go_sem, r0, r1, r2]
  case bel => exact (by repeat' (first | exact HQ1.out.below | refine Below.setCell ?_ (by first | (simp; done) | (simp; omega)) _))

theorem okTI_iff {s t k i : Int} : okEK s t 0 i k ↔ okTI s t k i :=
  okEK_iff.trans ⟨fun h => ⟨h.1, h.2.2.2⟩, fun h => ⟨h.1, by decide, by decide, h.2⟩⟩

theorem iTakenBy (s t k i : Int) (w : World) :
    Calls Try.prog 61 #[.agg #[.int .i64 s, .int .i64 t], .int .i64 k, .int .i64 i] w fun e w' => e = .returned (.agg #[.int .i64 (tbC s t k i), .bool (tbB s t k i), .int .i64 (tbI s t k i)]) ∧ Below w.heap.size w w' := by
  by_cases h : okTI s t k i
  · rw [show tbC s t k i = cycD s k from if_pos h, show tbB s t k i = true from if_pos h, show tbI s t k i = i from if_pos h]; exact iTaken_yes s t k i (okTI_iff.2 h) w
  · rw [show tbC s t k i = 0 from if_neg h, show tbB s t k i = false from if_neg h, show tbI s t k i = 0 from if_neg h]; exact iTaken_no s t k i (fun hx => h (okTI_iff.1 hx)) w

end Go.Proofs.Ytdpahikbikiilaa
