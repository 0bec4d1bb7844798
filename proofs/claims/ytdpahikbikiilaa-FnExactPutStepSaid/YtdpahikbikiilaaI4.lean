/- The program's tickets (commit c62366b): its functions answer as the model's. -/
import Derived.Test.YtdpahikbikiilaaS4
import Derived.Test.YtdpahikbikiilaaI3
namespace Go.Proofs.Ytdpahikbikiilaa
open Go.RowKit

theorem blk_tri {w : World} {b : Nat} {u0 u1 u2 : Value} {t : TypeId} (h : w.heap[b]? = some (.cells #[u0, u1, u2] t (0, 0))) :
    w.cell? ⟨b, 0, none⟩ = some u0 ∧ w.cell? ⟨b, 1, none⟩ = some u1 ∧ w.cell? ⟨b, 2, none⟩ = some u2 ∧ b < w.heap.size := ⟨by rw [blk_cell h]; rfl, by rw [blk_cell h]; rfl, by rw [blk_cell h]; rfl, blk_lt h⟩

set_option maxHeartbeats 1000000 in
theorem tcycle_yes (s t k : Int) (h : okT s t k) (w : World) :
    Calls Try.prog 80 #[.agg #[.int .i64 s, .int .i64 t, .int .i64 k]] w fun e w' => e = .returned (.int .i64 (cycD s k)) ∧ Below w.heap.size w w' := by
  have HJ := Lib.hid (okJ_mod h)
  obtain ⟨hp, hk⟩ := h
  obtain ⟨g1, g2⟩ := okP_le hp
  obtain ⟨k0, k1⟩ := hk
  rcases hp.1 with rfl | rfl | rfl | rfl
  · have HQ := Lib.hid ((Held.start w).new (.cells #[.int .i64 1, .int .i64 t, .int .i64 k] 90))
    have hm : k.tdiv 2 = k / 2 := Int.tdiv_eq_ediv_of_nonneg k0
    have hw : IntKind.i64.wrap 2 = 2 := by decide
    have hv : IntKind.i64.wrap (k / 2) = k / 2 := IntWalk.i64_in _ (by omega)
    have hv2 : wrap64 (k / 2) = k / 2 := by unfold wrap64; omega
    clear hp
    have hF : ∀ {w' : World}, Held w.heap.size (w.heap.size + 1) [(w.heap.size, .cells #[.int .i64 1, .int .i64 t, .int .i64 k] 90)] w w' → w'.cell? ⟨w.heap.size, 0, none⟩ = some (.int .i64 1) ∧ w'.cell? ⟨w.heap.size, 1, none⟩ = some (.int .i64 t) ∧ w'.cell? ⟨w.heap.size, 2, none⟩ = some (.int .i64 k) ∧ Held w.heap.size (w.heap.size + 1) [(w.heap.size, .cells #[.int .i64 1, .int .i64 t, .int .i64 k] 90)] w w' := fun h => ⟨(blk_tri h.hd).1, (blk_tri h.hd).2.1, (blk_tri h.hd).2.2.1, h⟩
    go_enter Try.func80, Try.ntmps80
    go_upto_region 1 with fail
    go_region_held3 (fun w' => w'.cell? ⟨w.heap.size, 0, none⟩ = some (.int .i64 1) ∧ w'.cell? ⟨w.heap.size, 1, none⟩ = some (.int .i64 t) ∧ w'.cell? ⟨w.heap.size, 2, none⟩ = some (.int .i64 k) ∧ Held w.heap.size (w.heap.size + 1) [(w.heap.size, .cells #[.int .i64 1, .int .i64 t, .int .i64 k] 90)] w w')
      (with_reducible refine hF ?_; repeat' (first | with_reducible exact HQ.out | with_reducible exact htc | with_reducible refine Held.drew ?_))
      ((first
        | (go_at_call 94; (try go_split_ands); (with_reducible refine (slots_any _ _ (by decide) (by decide) _).mono ?_); rintro e wx ⟨rfl, hbx⟩; have htc := Held.step (by assumption) hbx)))
    all_goals
      go_wp2
      go_ret
      exact ⟨rfl, htc.below⟩
  · have HQ := Lib.hid ((Held.start w).new (.cells #[.int .i64 2, .int .i64 t, .int .i64 k] 90))
    have hm : k.tdiv 4 = k / 4 := Int.tdiv_eq_ediv_of_nonneg k0
    have hw : IntKind.i64.wrap 4 = 4 := by decide
    have hv : IntKind.i64.wrap (k / 4) = k / 4 := IntWalk.i64_in _ (by omega)
    have hv2 : wrap64 (k / 4) = k / 4 := by unfold wrap64; omega
    clear hp
    have hF : ∀ {w' : World}, Held w.heap.size (w.heap.size + 1) [(w.heap.size, .cells #[.int .i64 2, .int .i64 t, .int .i64 k] 90)] w w' → w'.cell? ⟨w.heap.size, 0, none⟩ = some (.int .i64 2) ∧ w'.cell? ⟨w.heap.size, 1, none⟩ = some (.int .i64 t) ∧ w'.cell? ⟨w.heap.size, 2, none⟩ = some (.int .i64 k) ∧ Held w.heap.size (w.heap.size + 1) [(w.heap.size, .cells #[.int .i64 2, .int .i64 t, .int .i64 k] 90)] w w' := fun h => ⟨(blk_tri h.hd).1, (blk_tri h.hd).2.1, (blk_tri h.hd).2.2.1, h⟩
    go_enter Try.func80, Try.ntmps80
    go_upto_region 1 with fail
    go_region_held3 (fun w' => w'.cell? ⟨w.heap.size, 0, none⟩ = some (.int .i64 2) ∧ w'.cell? ⟨w.heap.size, 1, none⟩ = some (.int .i64 t) ∧ w'.cell? ⟨w.heap.size, 2, none⟩ = some (.int .i64 k) ∧ Held w.heap.size (w.heap.size + 1) [(w.heap.size, .cells #[.int .i64 2, .int .i64 t, .int .i64 k] 90)] w w')
      (with_reducible refine hF ?_; repeat' (first | with_reducible exact HQ.out | with_reducible exact htc | with_reducible refine Held.drew ?_))
      ((first
        | (go_at_call 94; (try go_split_ands); (with_reducible refine (slots_any _ _ (by decide) (by decide) _).mono ?_); rintro e wx ⟨rfl, hbx⟩; have htc := Held.step (by assumption) hbx)))
    all_goals
      go_wp2
      go_ret
      exact ⟨rfl, htc.below⟩
  · have HQ := Lib.hid ((Held.start w).new (.cells #[.int .i64 4, .int .i64 t, .int .i64 k] 90))
    have hm : k.tdiv 8 = k / 8 := Int.tdiv_eq_ediv_of_nonneg k0
    have hw : IntKind.i64.wrap 8 = 8 := by decide
    have hv : IntKind.i64.wrap (k / 8) = k / 8 := IntWalk.i64_in _ (by omega)
    have hv2 : wrap64 (k / 8) = k / 8 := by unfold wrap64; omega
    clear hp
    have hF : ∀ {w' : World}, Held w.heap.size (w.heap.size + 1) [(w.heap.size, .cells #[.int .i64 4, .int .i64 t, .int .i64 k] 90)] w w' → w'.cell? ⟨w.heap.size, 0, none⟩ = some (.int .i64 4) ∧ w'.cell? ⟨w.heap.size, 1, none⟩ = some (.int .i64 t) ∧ w'.cell? ⟨w.heap.size, 2, none⟩ = some (.int .i64 k) ∧ Held w.heap.size (w.heap.size + 1) [(w.heap.size, .cells #[.int .i64 4, .int .i64 t, .int .i64 k] 90)] w w' := fun h => ⟨(blk_tri h.hd).1, (blk_tri h.hd).2.1, (blk_tri h.hd).2.2.1, h⟩
    go_enter Try.func80, Try.ntmps80
    go_upto_region 1 with fail
    go_region_held3 (fun w' => w'.cell? ⟨w.heap.size, 0, none⟩ = some (.int .i64 4) ∧ w'.cell? ⟨w.heap.size, 1, none⟩ = some (.int .i64 t) ∧ w'.cell? ⟨w.heap.size, 2, none⟩ = some (.int .i64 k) ∧ Held w.heap.size (w.heap.size + 1) [(w.heap.size, .cells #[.int .i64 4, .int .i64 t, .int .i64 k] 90)] w w')
      (with_reducible refine hF ?_; repeat' (first | with_reducible exact HQ.out | with_reducible exact htc | with_reducible refine Held.drew ?_))
      ((first
        | (go_at_call 94; (try go_split_ands); (with_reducible refine (slots_any _ _ (by decide) (by decide) _).mono ?_); rintro e wx ⟨rfl, hbx⟩; have htc := Held.step (by assumption) hbx)))
    all_goals
      go_wp2
      go_ret
      exact ⟨rfl, htc.below⟩
  · have HQ := Lib.hid ((Held.start w).new (.cells #[.int .i64 8, .int .i64 t, .int .i64 k] 90))
    have hm : k.tdiv 16 = k / 16 := Int.tdiv_eq_ediv_of_nonneg k0
    have hw : IntKind.i64.wrap 16 = 16 := by decide
    have hv : IntKind.i64.wrap (k / 16) = k / 16 := IntWalk.i64_in _ (by omega)
    have hv2 : wrap64 (k / 16) = k / 16 := by unfold wrap64; omega
    clear hp
    have hF : ∀ {w' : World}, Held w.heap.size (w.heap.size + 1) [(w.heap.size, .cells #[.int .i64 8, .int .i64 t, .int .i64 k] 90)] w w' → w'.cell? ⟨w.heap.size, 0, none⟩ = some (.int .i64 8) ∧ w'.cell? ⟨w.heap.size, 1, none⟩ = some (.int .i64 t) ∧ w'.cell? ⟨w.heap.size, 2, none⟩ = some (.int .i64 k) ∧ Held w.heap.size (w.heap.size + 1) [(w.heap.size, .cells #[.int .i64 8, .int .i64 t, .int .i64 k] 90)] w w' := fun h => ⟨(blk_tri h.hd).1, (blk_tri h.hd).2.1, (blk_tri h.hd).2.2.1, h⟩
    go_enter Try.func80, Try.ntmps80
    go_upto_region 1 with fail
    go_region_held3 (fun w' => w'.cell? ⟨w.heap.size, 0, none⟩ = some (.int .i64 8) ∧ w'.cell? ⟨w.heap.size, 1, none⟩ = some (.int .i64 t) ∧ w'.cell? ⟨w.heap.size, 2, none⟩ = some (.int .i64 k) ∧ Held w.heap.size (w.heap.size + 1) [(w.heap.size, .cells #[.int .i64 8, .int .i64 t, .int .i64 k] 90)] w w')
      (with_reducible refine hF ?_; repeat' (first | with_reducible exact HQ.out | with_reducible exact htc | with_reducible refine Held.drew ?_))
      ((first
        | (go_at_call 94; (try go_split_ands); (with_reducible refine (slots_any _ _ (by decide) (by decide) _).mono ?_); rintro e wx ⟨rfl, hbx⟩; have htc := Held.step (by assumption) hbx)))
    all_goals
      go_wp2
      go_ret
      exact ⟨rfl, htc.below⟩

set_option maxHeartbeats 1000000 in
theorem tplace_yes (s t k : Int) (h : okT s t k) (w : World) :
    Calls Try.prog 100 #[.agg #[.int .i64 s, .int .i64 t, .int .i64 k]] w fun e w' => e = .returned (.int .i64 (placeD s k)) ∧ Below w.heap.size w w' := by
  have HJ := Lib.hid (okJ_mod h)
  obtain ⟨hp, hk⟩ := h
  obtain ⟨g1, g2⟩ := okP_le hp
  obtain ⟨k0, k1⟩ := hk
  rcases hp.1 with rfl | rfl | rfl | rfl
  · have HQ := Lib.hid ((Held.start w).new (.cells #[.int .i64 1, .int .i64 t, .int .i64 k] 90))
    have hm : k.tmod 2 = k % 2 := Int.tmod_eq_emod_of_nonneg k0
    have hw : IntKind.i64.wrap 2 = 2 := by decide
    have HJ2 : Hid (okJ 1 t (k % 2)) := Lib.hid HJ.out
    have hv : IntKind.i64.wrap (k % 2) = k % 2 := IntWalk.i64_in _ (by omega)
    clear hp
    have hF : ∀ {w' : World}, Held w.heap.size (w.heap.size + 1) [(w.heap.size, .cells #[.int .i64 1, .int .i64 t, .int .i64 k] 90)] w w' → w'.cell? ⟨w.heap.size, 0, none⟩ = some (.int .i64 1) ∧ w'.cell? ⟨w.heap.size, 1, none⟩ = some (.int .i64 t) ∧ w'.cell? ⟨w.heap.size, 2, none⟩ = some (.int .i64 k) ∧ Held w.heap.size (w.heap.size + 1) [(w.heap.size, .cells #[.int .i64 1, .int .i64 t, .int .i64 k] 90)] w w' := fun h => ⟨(blk_tri h.hd).1, (blk_tri h.hd).2.1, (blk_tri h.hd).2.2.1, h⟩
    go_enter Try.func100, Try.ntmps100
    go_upto_region 1 with fail
    go_region_held3 (fun w' => w'.cell? ⟨w.heap.size, 0, none⟩ = some (.int .i64 1) ∧ w'.cell? ⟨w.heap.size, 1, none⟩ = some (.int .i64 t) ∧ w'.cell? ⟨w.heap.size, 2, none⟩ = some (.int .i64 k) ∧ Held w.heap.size (w.heap.size + 1) [(w.heap.size, .cells #[.int .i64 1, .int .i64 t, .int .i64 k] 90)] w w')
      (with_reducible refine hF ?_; repeat' (first | with_reducible exact HQ.out | with_reducible exact htc | with_reducible refine Held.drew ?_))
      ((first
        | (go_at_call 94; (try go_split_ands); (with_reducible refine (slots_any _ _ (by decide) (by decide) _).mono ?_); rintro e wx ⟨rfl, hbx⟩; have htc := Held.step (by assumption) hbx)
        | (go_at_call 102; (try go_split_ands); (with_reducible refine (spot_yes 1 t (k % 2) HJ2.out _).mono ?_); rintro e wx ⟨rfl, hbx⟩; have htc := Held.step (by assumption) hbx)))
    all_goals
      go_wp2
      go_ret
      exact ⟨rfl, htc.below⟩
  · have HQ := Lib.hid ((Held.start w).new (.cells #[.int .i64 2, .int .i64 t, .int .i64 k] 90))
    have hm : k.tmod 4 = k % 4 := Int.tmod_eq_emod_of_nonneg k0
    have hw : IntKind.i64.wrap 4 = 4 := by decide
    have HJ2 : Hid (okJ 2 t (k % 4)) := Lib.hid HJ.out
    have hv : IntKind.i64.wrap (k % 4) = k % 4 := IntWalk.i64_in _ (by omega)
    clear hp
    have hF : ∀ {w' : World}, Held w.heap.size (w.heap.size + 1) [(w.heap.size, .cells #[.int .i64 2, .int .i64 t, .int .i64 k] 90)] w w' → w'.cell? ⟨w.heap.size, 0, none⟩ = some (.int .i64 2) ∧ w'.cell? ⟨w.heap.size, 1, none⟩ = some (.int .i64 t) ∧ w'.cell? ⟨w.heap.size, 2, none⟩ = some (.int .i64 k) ∧ Held w.heap.size (w.heap.size + 1) [(w.heap.size, .cells #[.int .i64 2, .int .i64 t, .int .i64 k] 90)] w w' := fun h => ⟨(blk_tri h.hd).1, (blk_tri h.hd).2.1, (blk_tri h.hd).2.2.1, h⟩
    go_enter Try.func100, Try.ntmps100
    go_upto_region 1 with fail
    go_region_held3 (fun w' => w'.cell? ⟨w.heap.size, 0, none⟩ = some (.int .i64 2) ∧ w'.cell? ⟨w.heap.size, 1, none⟩ = some (.int .i64 t) ∧ w'.cell? ⟨w.heap.size, 2, none⟩ = some (.int .i64 k) ∧ Held w.heap.size (w.heap.size + 1) [(w.heap.size, .cells #[.int .i64 2, .int .i64 t, .int .i64 k] 90)] w w')
      (with_reducible refine hF ?_; repeat' (first | with_reducible exact HQ.out | with_reducible exact htc | with_reducible refine Held.drew ?_))
      ((first
        | (go_at_call 94; (try go_split_ands); (with_reducible refine (slots_any _ _ (by decide) (by decide) _).mono ?_); rintro e wx ⟨rfl, hbx⟩; have htc := Held.step (by assumption) hbx)
        | (go_at_call 102; (try go_split_ands); (with_reducible refine (spot_yes 2 t (k % 4) HJ2.out _).mono ?_); rintro e wx ⟨rfl, hbx⟩; have htc := Held.step (by assumption) hbx)))
    all_goals
      go_wp2
      go_ret
      exact ⟨rfl, htc.below⟩
  · have HQ := Lib.hid ((Held.start w).new (.cells #[.int .i64 4, .int .i64 t, .int .i64 k] 90))
    have hm : k.tmod 8 = k % 8 := Int.tmod_eq_emod_of_nonneg k0
    have hw : IntKind.i64.wrap 8 = 8 := by decide
    have HJ2 : Hid (okJ 4 t (k % 8)) := Lib.hid HJ.out
    have hv : IntKind.i64.wrap (k % 8) = k % 8 := IntWalk.i64_in _ (by omega)
    clear hp
    have hF : ∀ {w' : World}, Held w.heap.size (w.heap.size + 1) [(w.heap.size, .cells #[.int .i64 4, .int .i64 t, .int .i64 k] 90)] w w' → w'.cell? ⟨w.heap.size, 0, none⟩ = some (.int .i64 4) ∧ w'.cell? ⟨w.heap.size, 1, none⟩ = some (.int .i64 t) ∧ w'.cell? ⟨w.heap.size, 2, none⟩ = some (.int .i64 k) ∧ Held w.heap.size (w.heap.size + 1) [(w.heap.size, .cells #[.int .i64 4, .int .i64 t, .int .i64 k] 90)] w w' := fun h => ⟨(blk_tri h.hd).1, (blk_tri h.hd).2.1, (blk_tri h.hd).2.2.1, h⟩
    go_enter Try.func100, Try.ntmps100
    go_upto_region 1 with fail
    go_region_held3 (fun w' => w'.cell? ⟨w.heap.size, 0, none⟩ = some (.int .i64 4) ∧ w'.cell? ⟨w.heap.size, 1, none⟩ = some (.int .i64 t) ∧ w'.cell? ⟨w.heap.size, 2, none⟩ = some (.int .i64 k) ∧ Held w.heap.size (w.heap.size + 1) [(w.heap.size, .cells #[.int .i64 4, .int .i64 t, .int .i64 k] 90)] w w')
      (with_reducible refine hF ?_; repeat' (first | with_reducible exact HQ.out | with_reducible exact htc | with_reducible refine Held.drew ?_))
      ((first
        | (go_at_call 94; (try go_split_ands); (with_reducible refine (slots_any _ _ (by decide) (by decide) _).mono ?_); rintro e wx ⟨rfl, hbx⟩; have htc := Held.step (by assumption) hbx)
        | (go_at_call 102; (try go_split_ands); (with_reducible refine (spot_yes 4 t (k % 8) HJ2.out _).mono ?_); rintro e wx ⟨rfl, hbx⟩; have htc := Held.step (by assumption) hbx)))
    all_goals
      go_wp2
      go_ret
      exact ⟨rfl, htc.below⟩
  · have HQ := Lib.hid ((Held.start w).new (.cells #[.int .i64 8, .int .i64 t, .int .i64 k] 90))
    have hm : k.tmod 16 = k % 16 := Int.tmod_eq_emod_of_nonneg k0
    have hw : IntKind.i64.wrap 16 = 16 := by decide
    have HJ2 : Hid (okJ 8 t (k % 16)) := Lib.hid HJ.out
    have hv : IntKind.i64.wrap (k % 16) = k % 16 := IntWalk.i64_in _ (by omega)
    clear hp
    have hF : ∀ {w' : World}, Held w.heap.size (w.heap.size + 1) [(w.heap.size, .cells #[.int .i64 8, .int .i64 t, .int .i64 k] 90)] w w' → w'.cell? ⟨w.heap.size, 0, none⟩ = some (.int .i64 8) ∧ w'.cell? ⟨w.heap.size, 1, none⟩ = some (.int .i64 t) ∧ w'.cell? ⟨w.heap.size, 2, none⟩ = some (.int .i64 k) ∧ Held w.heap.size (w.heap.size + 1) [(w.heap.size, .cells #[.int .i64 8, .int .i64 t, .int .i64 k] 90)] w w' := fun h => ⟨(blk_tri h.hd).1, (blk_tri h.hd).2.1, (blk_tri h.hd).2.2.1, h⟩
    go_enter Try.func100, Try.ntmps100
    go_upto_region 1 with fail
    go_region_held3 (fun w' => w'.cell? ⟨w.heap.size, 0, none⟩ = some (.int .i64 8) ∧ w'.cell? ⟨w.heap.size, 1, none⟩ = some (.int .i64 t) ∧ w'.cell? ⟨w.heap.size, 2, none⟩ = some (.int .i64 k) ∧ Held w.heap.size (w.heap.size + 1) [(w.heap.size, .cells #[.int .i64 8, .int .i64 t, .int .i64 k] 90)] w w')
      (with_reducible refine hF ?_; repeat' (first | with_reducible exact HQ.out | with_reducible exact htc | with_reducible refine Held.drew ?_))
      ((first
        | (go_at_call 94; (try go_split_ands); (with_reducible refine (slots_any _ _ (by decide) (by decide) _).mono ?_); rintro e wx ⟨rfl, hbx⟩; have htc := Held.step (by assumption) hbx)
        | (go_at_call 102; (try go_split_ands); (with_reducible refine (spot_yes 8 t (k % 16) HJ2.out _).mono ?_); rintro e wx ⟨rfl, hbx⟩; have htc := Held.step (by assumption) hbx)))
    all_goals
      go_wp2
      go_ret
      exact ⟨rfl, htc.below⟩

theorem isT_yes (k : Int) (k0 : 0 ≤ k) (k1 : k ≤ 1000000) (w : World) :
    Calls Try.prog 55 #[.int .i64 k] w fun e w' => e = .returned (.bool true) ∧ Below w.heap.size w w' := by
  have hd : decide (0 ≤ k) = true := decide_eq_true k0
  have hd2 : decide (k ≤ 1000000) = true := decide_eq_true k1
  clear k0 k1
  go_enter Try.func55, Try.ntmps55
  go_wp2
  go_ret
  exact ⟨rfl, Below.refl _ _⟩

theorem isT_no (k : Int) (h : ¬ (0 ≤ k ∧ k ≤ 1000000)) (w : World) :
    Calls Try.prog 55 #[.int .i64 k] w fun e w' => e = .returned (.bool false) ∧ Below w.heap.size w w' := by
  by_cases k0 : 0 ≤ k
  · have hd : decide (0 ≤ k) = true := decide_eq_true k0
    have hd2 : decide (k ≤ 1000000) = false := decide_eq_false (fun k1 => h ⟨k0, k1⟩)
    clear k0 h
    go_enter Try.func55, Try.ntmps55
    go_wp2
    go_ret
    exact ⟨rfl, Below.refl _ _⟩
  · have hd : decide (0 ≤ k) = false := decide_eq_false k0
    clear k0 h
    go_enter Try.func55, Try.ntmps55
    go_wp2
    go_ret
    exact ⟨rfl, Below.refl _ _⟩

theorem isT_any (k : Int) (w : World) :
    Calls Try.prog 55 #[.int .i64 k] w fun e w' => e = .returned (.bool (decide (0 ≤ k ∧ k ≤ 1000000))) ∧ Below w.heap.size w w' := by
  by_cases h : 0 ≤ k ∧ k ≤ 1000000
  · rw [decide_eq_true h]; exact isT_yes k h.1 h.2 w
  · rw [decide_eq_false h]; exact isT_no k h w

set_option maxHeartbeats 1000000 in
theorem tRight_yes (s t k : Int) (h : okT s t k) (w : World) :
    Calls Try.prog 93 #[.agg #[.int .i64 s, .int .i64 t, .int .i64 k]] w fun e w' => e = .returned (.bool true) ∧ Below w.heap.size w w' := by
  have HP := Lib.hid h.1
  have HK0 := Lib.hid h.2.1
  have HK1 := Lib.hid h.2.2
  clear h
  have hQ := (Held.start w).new (.cells #[.int .i64 s, .int .i64 t, .int .i64 k] 90)
  go_enter Try.func93, Try.ntmps93
  go_wp2_with (first | (go_at_call 69; (with_reducible refine (right_yes _ _ HP.out _).mono ?_); rintro e w1 ⟨rfl, hb⟩; have hQ1 := hQ.step hb; clear hQ hb; obtain ⟨q0, q1, q2, -⟩ := blk_tri hQ1.hd) | (go_at_call 55; (with_reducible refine (isT_yes _ HK0.out HK1.out _).mono ?_); rintro e w2 ⟨rfl, hb2⟩))
  go_ret
  exact ⟨rfl, (hQ1.step hb2).below⟩

set_option maxHeartbeats 1000000 in
theorem tRight_no (s t k : Int) (h : ¬ okT s t k) (w : World) :
    Calls Try.prog 93 #[.agg #[.int .i64 s, .int .i64 t, .int .i64 k]] w fun e w' => e = .returned (.bool false) ∧ Below w.heap.size w w' := by
  have hQ := (Held.start w).new (.cells #[.int .i64 s, .int .i64 t, .int .i64 k] 90)
  by_cases hp : okP s t
  · have HP := Lib.hid hp
    have HK := Lib.hid (show ¬ (0 ≤ k ∧ k ≤ 1000000) from fun hx => h ⟨hp, hx⟩)
    clear h hp
    go_enter Try.func93, Try.ntmps93
    go_wp2_with (first | (go_at_call 69; (with_reducible refine (right_yes _ _ HP.out _).mono ?_); rintro e w1 ⟨rfl, hb⟩; have hQ1 := hQ.step hb; clear hQ hb; obtain ⟨q0, q1, q2, -⟩ := blk_tri hQ1.hd) | (go_at_call 55; (with_reducible refine (isT_no _ HK.out _).mono ?_); rintro e w2 ⟨rfl, hb2⟩))
    go_ret
    exact ⟨rfl, (hQ1.step hb2).below⟩
  · have HP := Lib.hid hp
    clear h hp
    go_enter Try.func93, Try.ntmps93
    go_wp2_with (go_at_call 69; (with_reducible refine (right_no _ _ HP.out _).mono ?_); rintro e w1 ⟨rfl, hb⟩; obtain ⟨q0, q1, q2, -⟩ := blk_tri (hQ.step hb).hd)
    go_ret
    exact ⟨rfl, (hQ.step hb).below⟩

set_option maxHeartbeats 1000000 in
theorem iPlace_yes (s t k : Int) (h : okT s t k) (w : World) :
    Calls Try.prog 90 #[.agg #[.int .i64 s, .int .i64 t], .int .i64 k] w fun e w' => e = .returned (.int .i64 (placeD s k)) ∧ Below w.heap.size w w' := by
  have HT := Lib.hid h
  clear h
  have hmf : ∀ (fn : Fn) (first cap : Array Value) (w : World), (Instr.makeFunc fn first cap).run Try.prog w = .ok (.func fn first cap) w := fun _ _ _ _ => rfl
  go_enter Try.func90, Try.ntmps90
  go_wp2_with (first | (go_at_call 93; (with_reducible refine (tRight_yes _ _ _ HT.out _).mono ?_); rintro e w1 ⟨rfl, hb⟩; obtain ⟨hc, hf⟩ := bcell hb) | (go_at_call 100; (with_reducible refine (tplace_yes _ _ _ HT.out _).mono ?_); rintro e w2 ⟨rfl, hb2⟩) | go_in)
  go_ret
  have z1 := hb.size
  simp at z1
  exact ⟨rfl, (Below.trans (by repeat' (first | exact Below.refl _ _ | refine Below.alloc ?_ (by first | (simp; done) | (simp; omega)) _ | refine Below.setCell ?_ (by first | (simp; done) | (simp; omega)) _)) (hb.mono (by simp; omega))).trans (hb2.mono (by omega))⟩

set_option maxHeartbeats 1000000 in
theorem iPlace_no (s t k : Int) (h : ¬ okT s t k) (w : World) :
    Calls Try.prog 90 #[.agg #[.int .i64 s, .int .i64 t], .int .i64 k] w fun e w' => e = .returned (.int .i64 (-1)) ∧ Below w.heap.size w w' := by
  have HT := Lib.hid h
  clear h
  have hmf : ∀ (fn : Fn) (first cap : Array Value) (w : World), (Instr.makeFunc fn first cap).run Try.prog w = .ok (.func fn first cap) w := fun _ _ _ _ => rfl
  go_enter Try.func90, Try.ntmps90
  go_wp2_with (first | (go_at_call 93; (with_reducible refine (tRight_no _ _ _ HT.out _).mono ?_); rintro e w1 ⟨rfl, hb⟩; obtain ⟨hc, hf⟩ := bcell hb) | go_in)
  go_ret
  exact ⟨rfl, Below.trans (by repeat' (first | exact Below.refl _ _ | refine Below.alloc ?_ (by first | (simp; done) | (simp; omega)) _ | refine Below.setCell ?_ (by first | (simp; done) | (simp; omega)) _)) (hb.mono (by simp; omega))⟩

theorem iPlace (s t k : Int) (w : World) :
    Calls Try.prog 90 #[.agg #[.int .i64 s, .int .i64 t], .int .i64 k] w fun e w' => e = .returned (.int .i64 (placeV s t k)) ∧ Below w.heap.size w w' := by
  by_cases h : okT s t k
  · rw [show placeV s t k = placeD s k from if_pos h]; exact iPlace_yes s t k h w
  · rw [show placeV s t k = -1 from if_neg h]; exact iPlace_no s t k h w

end Go.Proofs.Ytdpahikbikiilaa
