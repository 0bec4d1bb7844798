/- The program's tickets (commit 69a45cb): its functions answer as the model's. -/
import Derived.Test.YtcojafpjmifgcaaS4
import Derived.Test.YtcojafpjmifgcaaI3
namespace Go.Proofs.Ytcojafpjmifgcaa
open Go.RowKit

theorem blk_tri {w : World} {b : Nat} {u0 u1 u2 : Value} {t : TypeId} (h : w.heap[b]? = some (.cells #[u0, u1, u2] t (0, 0))) :
    w.cell? ⟨b, 0, none⟩ = some u0 ∧ w.cell? ⟨b, 1, none⟩ = some u1 ∧ w.cell? ⟨b, 2, none⟩ = some u2 ∧ b < w.heap.size := ⟨by rw [blk_cell h]; rfl, by rw [blk_cell h]; rfl, by rw [blk_cell h]; rfl, blk_lt h⟩

set_option maxHeartbeats 1000000 in
theorem tcycle_yes (s t k : Int) (h : okT s t k) (w : World) :
    Calls Try.prog 43 #[.agg #[.int .i64 s, .int .i64 t, .int .i64 k]] w fun e w' => e = .returned (.int .i64 (cycD s k)) ∧ Below w.heap.size w w' := by
  have HJ := Lib.hid (okJ_mod h)
  obtain ⟨hp, hk⟩ := h
  obtain ⟨g1, g2⟩ := okP_le hp
  obtain ⟨k0, k1⟩ := hk
  rcases hp.1 with rfl | rfl | rfl | rfl
  · have HQ := Lib.hid ((Held.start w).new (.cells #[.int .i64 1, .int .i64 t, .int .i64 k] 59))
    have hm : k.tdiv 2 = k / 2 := Int.tdiv_eq_ediv_of_nonneg k0
    have hw : IntKind.i64.wrap 2 = 2 := by decide
    have hv : IntKind.i64.wrap (k / 2) = k / 2 := IntWalk.i64_in _ (by omega)
    have hv2 : wrap64 (k / 2) = k / 2 := by unfold wrap64; omega
    clear hp
    have hF : ∀ {w' : World}, Held w.heap.size (w.heap.size + 1) [(w.heap.size, .cells #[.int .i64 1, .int .i64 t, .int .i64 k] 59)] w w' → w'.cell? ⟨w.heap.size, 0, none⟩ = some (.int .i64 1) ∧ w'.cell? ⟨w.heap.size, 1, none⟩ = some (.int .i64 t) ∧ w'.cell? ⟨w.heap.size, 2, none⟩ = some (.int .i64 k) ∧ Held w.heap.size (w.heap.size + 1) [(w.heap.size, .cells #[.int .i64 1, .int .i64 t, .int .i64 k] 59)] w w' := fun h => ⟨(blk_tri h.hd).1, (blk_tri h.hd).2.1, (blk_tri h.hd).2.2.1, h⟩
    go_enter Try.func43, Try.ntmps43
    go_upto_region 1 with fail
    go_region_held3 (fun w' => w'.cell? ⟨w.heap.size, 0, none⟩ = some (.int .i64 1) ∧ w'.cell? ⟨w.heap.size, 1, none⟩ = some (.int .i64 t) ∧ w'.cell? ⟨w.heap.size, 2, none⟩ = some (.int .i64 k) ∧ Held w.heap.size (w.heap.size + 1) [(w.heap.size, .cells #[.int .i64 1, .int .i64 t, .int .i64 k] 59)] w w')
      (with_reducible refine hF ?_; repeat' (first | with_reducible exact HQ.out | with_reducible exact htc | with_reducible refine Held.drew ?_))
      ((first
        | (go_at_call 62; (try go_split_ands); (with_reducible refine (slots_any _ _ (by decide) (by decide) _).mono ?_); rintro e wx ⟨rfl, hbx⟩; have htc := Held.step (by assumption) hbx)))
    all_goals
      go_wp2
      go_ret
      exact ⟨rfl, htc.below⟩
  · have HQ := Lib.hid ((Held.start w).new (.cells #[.int .i64 2, .int .i64 t, .int .i64 k] 59))
    have hm : k.tdiv 4 = k / 4 := Int.tdiv_eq_ediv_of_nonneg k0
    have hw : IntKind.i64.wrap 4 = 4 := by decide
    have hv : IntKind.i64.wrap (k / 4) = k / 4 := IntWalk.i64_in _ (by omega)
    have hv2 : wrap64 (k / 4) = k / 4 := by unfold wrap64; omega
    clear hp
    have hF : ∀ {w' : World}, Held w.heap.size (w.heap.size + 1) [(w.heap.size, .cells #[.int .i64 2, .int .i64 t, .int .i64 k] 59)] w w' → w'.cell? ⟨w.heap.size, 0, none⟩ = some (.int .i64 2) ∧ w'.cell? ⟨w.heap.size, 1, none⟩ = some (.int .i64 t) ∧ w'.cell? ⟨w.heap.size, 2, none⟩ = some (.int .i64 k) ∧ Held w.heap.size (w.heap.size + 1) [(w.heap.size, .cells #[.int .i64 2, .int .i64 t, .int .i64 k] 59)] w w' := fun h => ⟨(blk_tri h.hd).1, (blk_tri h.hd).2.1, (blk_tri h.hd).2.2.1, h⟩
    go_enter Try.func43, Try.ntmps43
    go_upto_region 1 with fail
    go_region_held3 (fun w' => w'.cell? ⟨w.heap.size, 0, none⟩ = some (.int .i64 2) ∧ w'.cell? ⟨w.heap.size, 1, none⟩ = some (.int .i64 t) ∧ w'.cell? ⟨w.heap.size, 2, none⟩ = some (.int .i64 k) ∧ Held w.heap.size (w.heap.size + 1) [(w.heap.size, .cells #[.int .i64 2, .int .i64 t, .int .i64 k] 59)] w w')
      (with_reducible refine hF ?_; repeat' (first | with_reducible exact HQ.out | with_reducible exact htc | with_reducible refine Held.drew ?_))
      ((first
        | (go_at_call 62; (try go_split_ands); (with_reducible refine (slots_any _ _ (by decide) (by decide) _).mono ?_); rintro e wx ⟨rfl, hbx⟩; have htc := Held.step (by assumption) hbx)))
    all_goals
      go_wp2
      go_ret
      exact ⟨rfl, htc.below⟩
  · have HQ := Lib.hid ((Held.start w).new (.cells #[.int .i64 4, .int .i64 t, .int .i64 k] 59))
    have hm : k.tdiv 8 = k / 8 := Int.tdiv_eq_ediv_of_nonneg k0
    have hw : IntKind.i64.wrap 8 = 8 := by decide
    have hv : IntKind.i64.wrap (k / 8) = k / 8 := IntWalk.i64_in _ (by omega)
    have hv2 : wrap64 (k / 8) = k / 8 := by unfold wrap64; omega
    clear hp
    have hF : ∀ {w' : World}, Held w.heap.size (w.heap.size + 1) [(w.heap.size, .cells #[.int .i64 4, .int .i64 t, .int .i64 k] 59)] w w' → w'.cell? ⟨w.heap.size, 0, none⟩ = some (.int .i64 4) ∧ w'.cell? ⟨w.heap.size, 1, none⟩ = some (.int .i64 t) ∧ w'.cell? ⟨w.heap.size, 2, none⟩ = some (.int .i64 k) ∧ Held w.heap.size (w.heap.size + 1) [(w.heap.size, .cells #[.int .i64 4, .int .i64 t, .int .i64 k] 59)] w w' := fun h => ⟨(blk_tri h.hd).1, (blk_tri h.hd).2.1, (blk_tri h.hd).2.2.1, h⟩
    go_enter Try.func43, Try.ntmps43
    go_upto_region 1 with fail
    go_region_held3 (fun w' => w'.cell? ⟨w.heap.size, 0, none⟩ = some (.int .i64 4) ∧ w'.cell? ⟨w.heap.size, 1, none⟩ = some (.int .i64 t) ∧ w'.cell? ⟨w.heap.size, 2, none⟩ = some (.int .i64 k) ∧ Held w.heap.size (w.heap.size + 1) [(w.heap.size, .cells #[.int .i64 4, .int .i64 t, .int .i64 k] 59)] w w')
      (with_reducible refine hF ?_; repeat' (first | with_reducible exact HQ.out | with_reducible exact htc | with_reducible refine Held.drew ?_))
      ((first
        | (go_at_call 62; (try go_split_ands); (with_reducible refine (slots_any _ _ (by decide) (by decide) _).mono ?_); rintro e wx ⟨rfl, hbx⟩; have htc := Held.step (by assumption) hbx)))
    all_goals
      go_wp2
      go_ret
      exact ⟨rfl, htc.below⟩
  · have HQ := Lib.hid ((Held.start w).new (.cells #[.int .i64 8, .int .i64 t, .int .i64 k] 59))
    have hm : k.tdiv 16 = k / 16 := Int.tdiv_eq_ediv_of_nonneg k0
    have hw : IntKind.i64.wrap 16 = 16 := by decide
    have hv : IntKind.i64.wrap (k / 16) = k / 16 := IntWalk.i64_in _ (by omega)
    have hv2 : wrap64 (k / 16) = k / 16 := by unfold wrap64; omega
    clear hp
    have hF : ∀ {w' : World}, Held w.heap.size (w.heap.size + 1) [(w.heap.size, .cells #[.int .i64 8, .int .i64 t, .int .i64 k] 59)] w w' → w'.cell? ⟨w.heap.size, 0, none⟩ = some (.int .i64 8) ∧ w'.cell? ⟨w.heap.size, 1, none⟩ = some (.int .i64 t) ∧ w'.cell? ⟨w.heap.size, 2, none⟩ = some (.int .i64 k) ∧ Held w.heap.size (w.heap.size + 1) [(w.heap.size, .cells #[.int .i64 8, .int .i64 t, .int .i64 k] 59)] w w' := fun h => ⟨(blk_tri h.hd).1, (blk_tri h.hd).2.1, (blk_tri h.hd).2.2.1, h⟩
    go_enter Try.func43, Try.ntmps43
    go_upto_region 1 with fail
    go_region_held3 (fun w' => w'.cell? ⟨w.heap.size, 0, none⟩ = some (.int .i64 8) ∧ w'.cell? ⟨w.heap.size, 1, none⟩ = some (.int .i64 t) ∧ w'.cell? ⟨w.heap.size, 2, none⟩ = some (.int .i64 k) ∧ Held w.heap.size (w.heap.size + 1) [(w.heap.size, .cells #[.int .i64 8, .int .i64 t, .int .i64 k] 59)] w w')
      (with_reducible refine hF ?_; repeat' (first | with_reducible exact HQ.out | with_reducible exact htc | with_reducible refine Held.drew ?_))
      ((first
        | (go_at_call 62; (try go_split_ands); (with_reducible refine (slots_any _ _ (by decide) (by decide) _).mono ?_); rintro e wx ⟨rfl, hbx⟩; have htc := Held.step (by assumption) hbx)))
    all_goals
      go_wp2
      go_ret
      exact ⟨rfl, htc.below⟩

set_option maxHeartbeats 1000000 in
theorem tplace_yes (s t k : Int) (h : okT s t k) (w : World) :
    Calls Try.prog 46 #[.agg #[.int .i64 s, .int .i64 t, .int .i64 k]] w fun e w' => e = .returned (.int .i64 (placeD s k)) ∧ Below w.heap.size w w' := by
  have HJ := Lib.hid (okJ_mod h)
  obtain ⟨hp, hk⟩ := h
  obtain ⟨g1, g2⟩ := okP_le hp
  obtain ⟨k0, k1⟩ := hk
  rcases hp.1 with rfl | rfl | rfl | rfl
  · have HQ := Lib.hid ((Held.start w).new (.cells #[.int .i64 1, .int .i64 t, .int .i64 k] 59))
    have hm : k.tmod 2 = k % 2 := Int.tmod_eq_emod_of_nonneg k0
    have hw : IntKind.i64.wrap 2 = 2 := by decide
    have HJ2 : Hid (okJ 1 t (k % 2)) := Lib.hid HJ.out
    have hv : IntKind.i64.wrap (k % 2) = k % 2 := IntWalk.i64_in _ (by omega)
    clear hp
    have hF : ∀ {w' : World}, Held w.heap.size (w.heap.size + 1) [(w.heap.size, .cells #[.int .i64 1, .int .i64 t, .int .i64 k] 59)] w w' → w'.cell? ⟨w.heap.size, 0, none⟩ = some (.int .i64 1) ∧ w'.cell? ⟨w.heap.size, 1, none⟩ = some (.int .i64 t) ∧ w'.cell? ⟨w.heap.size, 2, none⟩ = some (.int .i64 k) ∧ Held w.heap.size (w.heap.size + 1) [(w.heap.size, .cells #[.int .i64 1, .int .i64 t, .int .i64 k] 59)] w w' := fun h => ⟨(blk_tri h.hd).1, (blk_tri h.hd).2.1, (blk_tri h.hd).2.2.1, h⟩
    go_enter Try.func46, Try.ntmps46
    go_upto_region 1 with fail
    go_region_held3 (fun w' => w'.cell? ⟨w.heap.size, 0, none⟩ = some (.int .i64 1) ∧ w'.cell? ⟨w.heap.size, 1, none⟩ = some (.int .i64 t) ∧ w'.cell? ⟨w.heap.size, 2, none⟩ = some (.int .i64 k) ∧ Held w.heap.size (w.heap.size + 1) [(w.heap.size, .cells #[.int .i64 1, .int .i64 t, .int .i64 k] 59)] w w')
      (with_reducible refine hF ?_; repeat' (first | with_reducible exact HQ.out | with_reducible exact htc | with_reducible refine Held.drew ?_))
      ((first
        | (go_at_call 62; (try go_split_ands); (with_reducible refine (slots_any _ _ (by decide) (by decide) _).mono ?_); rintro e wx ⟨rfl, hbx⟩; have htc := Held.step (by assumption) hbx)
        | (go_at_call 63; (try go_split_ands); (with_reducible refine (spot_yes 1 t (k % 2) HJ2.out _).mono ?_); rintro e wx ⟨rfl, hbx⟩; have htc := Held.step (by assumption) hbx)))
    all_goals
      go_wp2
      go_ret
      exact ⟨rfl, htc.below⟩
  · have HQ := Lib.hid ((Held.start w).new (.cells #[.int .i64 2, .int .i64 t, .int .i64 k] 59))
    have hm : k.tmod 4 = k % 4 := Int.tmod_eq_emod_of_nonneg k0
    have hw : IntKind.i64.wrap 4 = 4 := by decide
    have HJ2 : Hid (okJ 2 t (k % 4)) := Lib.hid HJ.out
    have hv : IntKind.i64.wrap (k % 4) = k % 4 := IntWalk.i64_in _ (by omega)
    clear hp
    have hF : ∀ {w' : World}, Held w.heap.size (w.heap.size + 1) [(w.heap.size, .cells #[.int .i64 2, .int .i64 t, .int .i64 k] 59)] w w' → w'.cell? ⟨w.heap.size, 0, none⟩ = some (.int .i64 2) ∧ w'.cell? ⟨w.heap.size, 1, none⟩ = some (.int .i64 t) ∧ w'.cell? ⟨w.heap.size, 2, none⟩ = some (.int .i64 k) ∧ Held w.heap.size (w.heap.size + 1) [(w.heap.size, .cells #[.int .i64 2, .int .i64 t, .int .i64 k] 59)] w w' := fun h => ⟨(blk_tri h.hd).1, (blk_tri h.hd).2.1, (blk_tri h.hd).2.2.1, h⟩
    go_enter Try.func46, Try.ntmps46
    go_upto_region 1 with fail
    go_region_held3 (fun w' => w'.cell? ⟨w.heap.size, 0, none⟩ = some (.int .i64 2) ∧ w'.cell? ⟨w.heap.size, 1, none⟩ = some (.int .i64 t) ∧ w'.cell? ⟨w.heap.size, 2, none⟩ = some (.int .i64 k) ∧ Held w.heap.size (w.heap.size + 1) [(w.heap.size, .cells #[.int .i64 2, .int .i64 t, .int .i64 k] 59)] w w')
      (with_reducible refine hF ?_; repeat' (first | with_reducible exact HQ.out | with_reducible exact htc | with_reducible refine Held.drew ?_))
      ((first
        | (go_at_call 62; (try go_split_ands); (with_reducible refine (slots_any _ _ (by decide) (by decide) _).mono ?_); rintro e wx ⟨rfl, hbx⟩; have htc := Held.step (by assumption) hbx)
        | (go_at_call 63; (try go_split_ands); (with_reducible refine (spot_yes 2 t (k % 4) HJ2.out _).mono ?_); rintro e wx ⟨rfl, hbx⟩; have htc := Held.step (by assumption) hbx)))
    all_goals
      go_wp2
      go_ret
      exact ⟨rfl, htc.below⟩
  · have HQ := Lib.hid ((Held.start w).new (.cells #[.int .i64 4, .int .i64 t, .int .i64 k] 59))
    have hm : k.tmod 8 = k % 8 := Int.tmod_eq_emod_of_nonneg k0
    have hw : IntKind.i64.wrap 8 = 8 := by decide
    have HJ2 : Hid (okJ 4 t (k % 8)) := Lib.hid HJ.out
    have hv : IntKind.i64.wrap (k % 8) = k % 8 := IntWalk.i64_in _ (by omega)
    clear hp
    have hF : ∀ {w' : World}, Held w.heap.size (w.heap.size + 1) [(w.heap.size, .cells #[.int .i64 4, .int .i64 t, .int .i64 k] 59)] w w' → w'.cell? ⟨w.heap.size, 0, none⟩ = some (.int .i64 4) ∧ w'.cell? ⟨w.heap.size, 1, none⟩ = some (.int .i64 t) ∧ w'.cell? ⟨w.heap.size, 2, none⟩ = some (.int .i64 k) ∧ Held w.heap.size (w.heap.size + 1) [(w.heap.size, .cells #[.int .i64 4, .int .i64 t, .int .i64 k] 59)] w w' := fun h => ⟨(blk_tri h.hd).1, (blk_tri h.hd).2.1, (blk_tri h.hd).2.2.1, h⟩
    go_enter Try.func46, Try.ntmps46
    go_upto_region 1 with fail
    go_region_held3 (fun w' => w'.cell? ⟨w.heap.size, 0, none⟩ = some (.int .i64 4) ∧ w'.cell? ⟨w.heap.size, 1, none⟩ = some (.int .i64 t) ∧ w'.cell? ⟨w.heap.size, 2, none⟩ = some (.int .i64 k) ∧ Held w.heap.size (w.heap.size + 1) [(w.heap.size, .cells #[.int .i64 4, .int .i64 t, .int .i64 k] 59)] w w')
      (with_reducible refine hF ?_; repeat' (first | with_reducible exact HQ.out | with_reducible exact htc | with_reducible refine Held.drew ?_))
      ((first
        | (go_at_call 62; (try go_split_ands); (with_reducible refine (slots_any _ _ (by decide) (by decide) _).mono ?_); rintro e wx ⟨rfl, hbx⟩; have htc := Held.step (by assumption) hbx)
        | (go_at_call 63; (try go_split_ands); (with_reducible refine (spot_yes 4 t (k % 8) HJ2.out _).mono ?_); rintro e wx ⟨rfl, hbx⟩; have htc := Held.step (by assumption) hbx)))
    all_goals
      go_wp2
      go_ret
      exact ⟨rfl, htc.below⟩
  · have HQ := Lib.hid ((Held.start w).new (.cells #[.int .i64 8, .int .i64 t, .int .i64 k] 59))
    have hm : k.tmod 16 = k % 16 := Int.tmod_eq_emod_of_nonneg k0
    have hw : IntKind.i64.wrap 16 = 16 := by decide
    have HJ2 : Hid (okJ 8 t (k % 16)) := Lib.hid HJ.out
    have hv : IntKind.i64.wrap (k % 16) = k % 16 := IntWalk.i64_in _ (by omega)
    clear hp
    have hF : ∀ {w' : World}, Held w.heap.size (w.heap.size + 1) [(w.heap.size, .cells #[.int .i64 8, .int .i64 t, .int .i64 k] 59)] w w' → w'.cell? ⟨w.heap.size, 0, none⟩ = some (.int .i64 8) ∧ w'.cell? ⟨w.heap.size, 1, none⟩ = some (.int .i64 t) ∧ w'.cell? ⟨w.heap.size, 2, none⟩ = some (.int .i64 k) ∧ Held w.heap.size (w.heap.size + 1) [(w.heap.size, .cells #[.int .i64 8, .int .i64 t, .int .i64 k] 59)] w w' := fun h => ⟨(blk_tri h.hd).1, (blk_tri h.hd).2.1, (blk_tri h.hd).2.2.1, h⟩
    go_enter Try.func46, Try.ntmps46
    go_upto_region 1 with fail
    go_region_held3 (fun w' => w'.cell? ⟨w.heap.size, 0, none⟩ = some (.int .i64 8) ∧ w'.cell? ⟨w.heap.size, 1, none⟩ = some (.int .i64 t) ∧ w'.cell? ⟨w.heap.size, 2, none⟩ = some (.int .i64 k) ∧ Held w.heap.size (w.heap.size + 1) [(w.heap.size, .cells #[.int .i64 8, .int .i64 t, .int .i64 k] 59)] w w')
      (with_reducible refine hF ?_; repeat' (first | with_reducible exact HQ.out | with_reducible exact htc | with_reducible refine Held.drew ?_))
      ((first
        | (go_at_call 62; (try go_split_ands); (with_reducible refine (slots_any _ _ (by decide) (by decide) _).mono ?_); rintro e wx ⟨rfl, hbx⟩; have htc := Held.step (by assumption) hbx)
        | (go_at_call 63; (try go_split_ands); (with_reducible refine (spot_yes 8 t (k % 16) HJ2.out _).mono ?_); rintro e wx ⟨rfl, hbx⟩; have htc := Held.step (by assumption) hbx)))
    all_goals
      go_wp2
      go_ret
      exact ⟨rfl, htc.below⟩

set_option maxHeartbeats 1000000 in
theorem tRight_yes (s t k : Int) (h : okT s t k) (w : World) :
    Calls Try.prog 61 #[.agg #[.int .i64 s, .int .i64 t, .int .i64 k]] w fun e w' => e = .returned (.bool true) ∧ Below w.heap.size w w' := by
  have HP := Lib.hid h.1
  obtain ⟨hp, k0, k1⟩ := h
  clear hp
  have hQ := (Held.start w).new (.cells #[.int .i64 s, .int .i64 t, .int .i64 k] 59)
  go_enter Try.func61, Try.ntmps61
  go_wp2_with (go_at_call 68; (with_reducible refine (right_yes _ _ HP.out _).mono ?_); rintro e w1 ⟨rfl, hb⟩; obtain ⟨q0, q1, q2, -⟩ := blk_tri (hQ.step hb).hd)
  go_ret
  exact ⟨rfl, (hQ.step hb).below⟩

set_option maxHeartbeats 1000000 in
theorem tRight_no (s t k : Int) (h : ¬ okT s t k) (w : World) :
    Calls Try.prog 61 #[.agg #[.int .i64 s, .int .i64 t, .int .i64 k]] w fun e w' => e = .returned (.bool false) ∧ Below w.heap.size w w' := by
  have hQ := (Held.start w).new (.cells #[.int .i64 s, .int .i64 t, .int .i64 k] 59)
  by_cases hp : okP s t
  · have HP := Lib.hid hp
    have hx : k < 0 ∨ (0 ≤ k ∧ 1000000 < k) := Decidable.byContradiction fun hx => h ⟨hp, by omega, by omega⟩
    clear h hp
    rcases hx with hx | ⟨hx, hx2⟩
    · have hd : decide (0 ≤ k) = false := decide_eq_false (by omega)
      clear hx
      go_enter Try.func61, Try.ntmps61
      go_wp2_with (go_at_call 68; (with_reducible refine (right_yes _ _ HP.out _).mono ?_); rintro e w1 ⟨rfl, hb⟩; obtain ⟨q0, q1, q2, -⟩ := blk_tri (hQ.step hb).hd)
      go_ret
      exact ⟨rfl, (hQ.step hb).below⟩
    · have hd : decide (0 ≤ k) = true := decide_eq_true hx
      have hd2 : decide (k ≤ 1000000) = false := decide_eq_false (by omega)
      clear hx hx2
      go_enter Try.func61, Try.ntmps61
      go_wp2_with (go_at_call 68; (with_reducible refine (right_yes _ _ HP.out _).mono ?_); rintro e w1 ⟨rfl, hb⟩; obtain ⟨q0, q1, q2, -⟩ := blk_tri (hQ.step hb).hd)
      go_ret
      exact ⟨rfl, (hQ.step hb).below⟩
  · have HP := Lib.hid hp
    clear h hp
    go_enter Try.func61, Try.ntmps61
    go_wp2_with (go_at_call 68; (with_reducible refine (right_no _ _ HP.out _).mono ?_); rintro e w1 ⟨rfl, hb⟩; obtain ⟨q0, q1, q2, -⟩ := blk_tri (hQ.step hb).hd)
    go_ret
    exact ⟨rfl, (hQ.step hb).below⟩

set_option maxHeartbeats 1000000 in
theorem iCyc_yes (s t k : Int) (h : okT s t k) (w : World) :
    Calls Try.prog 14 #[.agg #[.int .i64 s, .int .i64 t], .int .i64 k] w fun e w' => e = .returned (.int .i64 (cycD s k)) ∧ Below w.heap.size w w' := by
  have HT := Lib.hid h
  clear h
  have hmf : ∀ (fn : Fn) (first cap : Array Value) (w : World), (Instr.makeFunc fn first cap).run Try.prog w = .ok (.func fn first cap) w := fun _ _ _ _ => rfl
  go_enter Try.func14, Try.ntmps14
  go_wp2_with (first | (go_at_call 61; (with_reducible refine (tRight_yes _ _ _ HT.out _).mono ?_); rintro e w1 ⟨rfl, hb⟩; obtain ⟨hc, hf⟩ := bcell hb) | (go_at_call 43; (with_reducible refine (tcycle_yes _ _ _ HT.out _).mono ?_); rintro e w2 ⟨rfl, hb2⟩) | go_in)
  go_ret
  have z1 := hb.size
  simp at z1
  exact ⟨rfl, (Below.trans (by repeat' (first | exact Below.refl _ _ | refine Below.alloc ?_ (by first | (simp; done) | (simp; omega)) _ | refine Below.setCell ?_ (by first | (simp; done) | (simp; omega)) _)) (hb.mono (by simp; omega))).trans (hb2.mono (by omega))⟩

set_option maxHeartbeats 1000000 in
theorem iCyc_no (s t k : Int) (h : ¬ okT s t k) (w : World) :
    Calls Try.prog 14 #[.agg #[.int .i64 s, .int .i64 t], .int .i64 k] w fun e w' => e = .returned (.int .i64 (-1)) ∧ Below w.heap.size w w' := by
  have HT := Lib.hid h
  clear h
  have hmf : ∀ (fn : Fn) (first cap : Array Value) (w : World), (Instr.makeFunc fn first cap).run Try.prog w = .ok (.func fn first cap) w := fun _ _ _ _ => rfl
  go_enter Try.func14, Try.ntmps14
  go_wp2_with (first | (go_at_call 61; (with_reducible refine (tRight_no _ _ _ HT.out _).mono ?_); rintro e w1 ⟨rfl, hb⟩; obtain ⟨hc, hf⟩ := bcell hb) | go_in)
  go_ret
  exact ⟨rfl, Below.trans (by repeat' (first | exact Below.refl _ _ | refine Below.alloc ?_ (by first | (simp; done) | (simp; omega)) _ | refine Below.setCell ?_ (by first | (simp; done) | (simp; omega)) _)) (hb.mono (by simp; omega))⟩

theorem iCyc (s t k : Int) (w : World) :
    Calls Try.prog 14 #[.agg #[.int .i64 s, .int .i64 t], .int .i64 k] w fun e w' => e = .returned (.int .i64 (cycV s t k)) ∧ Below w.heap.size w w' := by
  by_cases h : okT s t k
  · rw [show cycV s t k = cycD s k from if_pos h]; exact iCyc_yes s t k h w
  · rw [show cycV s t k = -1 from if_neg h]; exact iCyc_no s t k h w

set_option maxHeartbeats 1000000 in
theorem iPlace_yes (s t k : Int) (h : okT s t k) (w : World) :
    Calls Try.prog 16 #[.agg #[.int .i64 s, .int .i64 t], .int .i64 k] w fun e w' => e = .returned (.int .i64 (placeD s k)) ∧ Below w.heap.size w w' := by
  have HT := Lib.hid h
  clear h
  have hmf : ∀ (fn : Fn) (first cap : Array Value) (w : World), (Instr.makeFunc fn first cap).run Try.prog w = .ok (.func fn first cap) w := fun _ _ _ _ => rfl
  go_enter Try.func16, Try.ntmps16
  go_wp2_with (first | (go_at_call 61; (with_reducible refine (tRight_yes _ _ _ HT.out _).mono ?_); rintro e w1 ⟨rfl, hb⟩; obtain ⟨hc, hf⟩ := bcell hb) | (go_at_call 46; (with_reducible refine (tplace_yes _ _ _ HT.out _).mono ?_); rintro e w2 ⟨rfl, hb2⟩) | go_in)
  go_ret
  have z1 := hb.size
  simp at z1
  exact ⟨rfl, (Below.trans (by repeat' (first | exact Below.refl _ _ | refine Below.alloc ?_ (by first | (simp; done) | (simp; omega)) _ | refine Below.setCell ?_ (by first | (simp; done) | (simp; omega)) _)) (hb.mono (by simp; omega))).trans (hb2.mono (by omega))⟩

set_option maxHeartbeats 1000000 in
theorem iPlace_no (s t k : Int) (h : ¬ okT s t k) (w : World) :
    Calls Try.prog 16 #[.agg #[.int .i64 s, .int .i64 t], .int .i64 k] w fun e w' => e = .returned (.int .i64 (-1)) ∧ Below w.heap.size w w' := by
  have HT := Lib.hid h
  clear h
  have hmf : ∀ (fn : Fn) (first cap : Array Value) (w : World), (Instr.makeFunc fn first cap).run Try.prog w = .ok (.func fn first cap) w := fun _ _ _ _ => rfl
  go_enter Try.func16, Try.ntmps16
  go_wp2_with (first | (go_at_call 61; (with_reducible refine (tRight_no _ _ _ HT.out _).mono ?_); rintro e w1 ⟨rfl, hb⟩; obtain ⟨hc, hf⟩ := bcell hb) | go_in)
  go_ret
  exact ⟨rfl, Below.trans (by repeat' (first | exact Below.refl _ _ | refine Below.alloc ?_ (by first | (simp; done) | (simp; omega)) _ | refine Below.setCell ?_ (by first | (simp; done) | (simp; omega)) _)) (hb.mono (by simp; omega))⟩

theorem iPlace (s t k : Int) (w : World) :
    Calls Try.prog 16 #[.agg #[.int .i64 s, .int .i64 t], .int .i64 k] w fun e w' => e = .returned (.int .i64 (placeV s t k)) ∧ Below w.heap.size w w' := by
  by_cases h : okT s t k
  · rw [show placeV s t k = placeD s k from if_pos h]; exact iPlace_yes s t k h w
  · rw [show placeV s t k = -1 from if_neg h]; exact iPlace_no s t k h w

end Go.Proofs.Ytcojafpjmifgcaa
