/- The program's tickets (commit 6b4b05b): its functions answer as the model's. -/
import Derived.Test.YtjokflmmdkekjaaS4
import Derived.Test.YtjokflmmdkekjaaI3
namespace Go.Proofs.Ytjokflmmdkekjaa
open Go.RowKit

theorem blk_tri {w : World} {b : Nat} {u0 u1 u2 : Value} {t : TypeId} (h : w.heap[b]? = some (.cells #[u0, u1, u2] t (0, 0))) :
    w.cell? ⟨b, 0, none⟩ = some u0 ∧ w.cell? ⟨b, 1, none⟩ = some u1 ∧ w.cell? ⟨b, 2, none⟩ = some u2 ∧ b < w.heap.size := ⟨by rw [blk_cell h]; rfl, by rw [blk_cell h]; rfl, by rw [blk_cell h]; rfl, blk_lt h⟩

set_option maxHeartbeats 1000000 in
theorem tcycle_yes (s t k : Int) (h : okT s t k) (w : World) :
    Calls Try.prog 23 #[.agg #[.int .i64 s, .int .i64 t, .int .i64 k]] w fun e w' => e = .returned (.int .i64 (cycD s k)) ∧ Below w.heap.size w w' := by
  have HJ := Lib.hid (okJ_mod h)
  obtain ⟨hp, hk⟩ := h
  obtain ⟨g1, g2⟩ := okP_le hp
  obtain ⟨k0, k1⟩ := hk
  rcases hp.1 with rfl | rfl | rfl | rfl
  · have HQ := Lib.hid ((Held.start w).new (.cells #[.int .i64 1, .int .i64 t, .int .i64 k] 43))
    have hm : k.tdiv 2 = k / 2 := Int.tdiv_eq_ediv_of_nonneg k0
    have hw : IntKind.i64.wrap 2 = 2 := by decide
    have hv : IntKind.i64.wrap (k / 2) = k / 2 := IntWalk.i64_in _ (by omega)
    have hv2 : wrap64 (k / 2) = k / 2 := by unfold wrap64; omega
    clear hp
    have hF : ∀ {w' : World}, Held w.heap.size (w.heap.size + 1) [(w.heap.size, .cells #[.int .i64 1, .int .i64 t, .int .i64 k] 43)] w w' → w'.cell? ⟨w.heap.size, 0, none⟩ = some (.int .i64 1) ∧ w'.cell? ⟨w.heap.size, 1, none⟩ = some (.int .i64 t) ∧ w'.cell? ⟨w.heap.size, 2, none⟩ = some (.int .i64 k) ∧ Held w.heap.size (w.heap.size + 1) [(w.heap.size, .cells #[.int .i64 1, .int .i64 t, .int .i64 k] 43)] w w' := fun h => ⟨(blk_tri h.hd).1, (blk_tri h.hd).2.1, (blk_tri h.hd).2.2.1, h⟩
    go_enter Try.func23, Try.ntmps23
    go_upto_region 1 with fail
    go_region_held3 (fun w' => w'.cell? ⟨w.heap.size, 0, none⟩ = some (.int .i64 1) ∧ w'.cell? ⟨w.heap.size, 1, none⟩ = some (.int .i64 t) ∧ w'.cell? ⟨w.heap.size, 2, none⟩ = some (.int .i64 k) ∧ Held w.heap.size (w.heap.size + 1) [(w.heap.size, .cells #[.int .i64 1, .int .i64 t, .int .i64 k] 43)] w w')
      (with_reducible refine hF ?_; repeat' (first | with_reducible exact HQ.out | with_reducible exact htc | with_reducible refine Held.drew ?_))
      ((first
        | (go_at_call 35; (try go_split_ands); (with_reducible refine (slots_any _ _ (by decide) (by decide) _).mono ?_); rintro e wx ⟨rfl, hbx⟩; have htc := Held.step (by assumption) hbx)))
    all_goals
      go_wp2
      go_ret
      exact ⟨rfl, htc.below⟩
  · have HQ := Lib.hid ((Held.start w).new (.cells #[.int .i64 2, .int .i64 t, .int .i64 k] 43))
    have hm : k.tdiv 4 = k / 4 := Int.tdiv_eq_ediv_of_nonneg k0
    have hw : IntKind.i64.wrap 4 = 4 := by decide
    have hv : IntKind.i64.wrap (k / 4) = k / 4 := IntWalk.i64_in _ (by omega)
    have hv2 : wrap64 (k / 4) = k / 4 := by unfold wrap64; omega
    clear hp
    have hF : ∀ {w' : World}, Held w.heap.size (w.heap.size + 1) [(w.heap.size, .cells #[.int .i64 2, .int .i64 t, .int .i64 k] 43)] w w' → w'.cell? ⟨w.heap.size, 0, none⟩ = some (.int .i64 2) ∧ w'.cell? ⟨w.heap.size, 1, none⟩ = some (.int .i64 t) ∧ w'.cell? ⟨w.heap.size, 2, none⟩ = some (.int .i64 k) ∧ Held w.heap.size (w.heap.size + 1) [(w.heap.size, .cells #[.int .i64 2, .int .i64 t, .int .i64 k] 43)] w w' := fun h => ⟨(blk_tri h.hd).1, (blk_tri h.hd).2.1, (blk_tri h.hd).2.2.1, h⟩
    go_enter Try.func23, Try.ntmps23
    go_upto_region 1 with fail
    go_region_held3 (fun w' => w'.cell? ⟨w.heap.size, 0, none⟩ = some (.int .i64 2) ∧ w'.cell? ⟨w.heap.size, 1, none⟩ = some (.int .i64 t) ∧ w'.cell? ⟨w.heap.size, 2, none⟩ = some (.int .i64 k) ∧ Held w.heap.size (w.heap.size + 1) [(w.heap.size, .cells #[.int .i64 2, .int .i64 t, .int .i64 k] 43)] w w')
      (with_reducible refine hF ?_; repeat' (first | with_reducible exact HQ.out | with_reducible exact htc | with_reducible refine Held.drew ?_))
      ((first
        | (go_at_call 35; (try go_split_ands); (with_reducible refine (slots_any _ _ (by decide) (by decide) _).mono ?_); rintro e wx ⟨rfl, hbx⟩; have htc := Held.step (by assumption) hbx)))
    all_goals
      go_wp2
      go_ret
      exact ⟨rfl, htc.below⟩
  · have HQ := Lib.hid ((Held.start w).new (.cells #[.int .i64 4, .int .i64 t, .int .i64 k] 43))
    have hm : k.tdiv 8 = k / 8 := Int.tdiv_eq_ediv_of_nonneg k0
    have hw : IntKind.i64.wrap 8 = 8 := by decide
    have hv : IntKind.i64.wrap (k / 8) = k / 8 := IntWalk.i64_in _ (by omega)
    have hv2 : wrap64 (k / 8) = k / 8 := by unfold wrap64; omega
    clear hp
    have hF : ∀ {w' : World}, Held w.heap.size (w.heap.size + 1) [(w.heap.size, .cells #[.int .i64 4, .int .i64 t, .int .i64 k] 43)] w w' → w'.cell? ⟨w.heap.size, 0, none⟩ = some (.int .i64 4) ∧ w'.cell? ⟨w.heap.size, 1, none⟩ = some (.int .i64 t) ∧ w'.cell? ⟨w.heap.size, 2, none⟩ = some (.int .i64 k) ∧ Held w.heap.size (w.heap.size + 1) [(w.heap.size, .cells #[.int .i64 4, .int .i64 t, .int .i64 k] 43)] w w' := fun h => ⟨(blk_tri h.hd).1, (blk_tri h.hd).2.1, (blk_tri h.hd).2.2.1, h⟩
    go_enter Try.func23, Try.ntmps23
    go_upto_region 1 with fail
    go_region_held3 (fun w' => w'.cell? ⟨w.heap.size, 0, none⟩ = some (.int .i64 4) ∧ w'.cell? ⟨w.heap.size, 1, none⟩ = some (.int .i64 t) ∧ w'.cell? ⟨w.heap.size, 2, none⟩ = some (.int .i64 k) ∧ Held w.heap.size (w.heap.size + 1) [(w.heap.size, .cells #[.int .i64 4, .int .i64 t, .int .i64 k] 43)] w w')
      (with_reducible refine hF ?_; repeat' (first | with_reducible exact HQ.out | with_reducible exact htc | with_reducible refine Held.drew ?_))
      ((first
        | (go_at_call 35; (try go_split_ands); (with_reducible refine (slots_any _ _ (by decide) (by decide) _).mono ?_); rintro e wx ⟨rfl, hbx⟩; have htc := Held.step (by assumption) hbx)))
    all_goals
      go_wp2
      go_ret
      exact ⟨rfl, htc.below⟩
  · have HQ := Lib.hid ((Held.start w).new (.cells #[.int .i64 8, .int .i64 t, .int .i64 k] 43))
    have hm : k.tdiv 16 = k / 16 := Int.tdiv_eq_ediv_of_nonneg k0
    have hw : IntKind.i64.wrap 16 = 16 := by decide
    have hv : IntKind.i64.wrap (k / 16) = k / 16 := IntWalk.i64_in _ (by omega)
    have hv2 : wrap64 (k / 16) = k / 16 := by unfold wrap64; omega
    clear hp
    have hF : ∀ {w' : World}, Held w.heap.size (w.heap.size + 1) [(w.heap.size, .cells #[.int .i64 8, .int .i64 t, .int .i64 k] 43)] w w' → w'.cell? ⟨w.heap.size, 0, none⟩ = some (.int .i64 8) ∧ w'.cell? ⟨w.heap.size, 1, none⟩ = some (.int .i64 t) ∧ w'.cell? ⟨w.heap.size, 2, none⟩ = some (.int .i64 k) ∧ Held w.heap.size (w.heap.size + 1) [(w.heap.size, .cells #[.int .i64 8, .int .i64 t, .int .i64 k] 43)] w w' := fun h => ⟨(blk_tri h.hd).1, (blk_tri h.hd).2.1, (blk_tri h.hd).2.2.1, h⟩
    go_enter Try.func23, Try.ntmps23
    go_upto_region 1 with fail
    go_region_held3 (fun w' => w'.cell? ⟨w.heap.size, 0, none⟩ = some (.int .i64 8) ∧ w'.cell? ⟨w.heap.size, 1, none⟩ = some (.int .i64 t) ∧ w'.cell? ⟨w.heap.size, 2, none⟩ = some (.int .i64 k) ∧ Held w.heap.size (w.heap.size + 1) [(w.heap.size, .cells #[.int .i64 8, .int .i64 t, .int .i64 k] 43)] w w')
      (with_reducible refine hF ?_; repeat' (first | with_reducible exact HQ.out | with_reducible exact htc | with_reducible refine Held.drew ?_))
      ((first
        | (go_at_call 35; (try go_split_ands); (with_reducible refine (slots_any _ _ (by decide) (by decide) _).mono ?_); rintro e wx ⟨rfl, hbx⟩; have htc := Held.step (by assumption) hbx)))
    all_goals
      go_wp2
      go_ret
      exact ⟨rfl, htc.below⟩

set_option maxHeartbeats 1000000 in
theorem tplace_yes (s t k : Int) (h : okT s t k) (w : World) :
    Calls Try.prog 26 #[.agg #[.int .i64 s, .int .i64 t, .int .i64 k]] w fun e w' => e = .returned (.int .i64 (placeD s k)) ∧ Below w.heap.size w w' := by
  have HJ := Lib.hid (okJ_mod h)
  obtain ⟨hp, hk⟩ := h
  obtain ⟨g1, g2⟩ := okP_le hp
  obtain ⟨k0, k1⟩ := hk
  rcases hp.1 with rfl | rfl | rfl | rfl
  · have HQ := Lib.hid ((Held.start w).new (.cells #[.int .i64 1, .int .i64 t, .int .i64 k] 43))
    have hm : k.tmod 2 = k % 2 := Int.tmod_eq_emod_of_nonneg k0
    have hw : IntKind.i64.wrap 2 = 2 := by decide
    have HJ2 : Hid (okJ 1 t (k % 2)) := Lib.hid HJ.out
    have hv : IntKind.i64.wrap (k % 2) = k % 2 := IntWalk.i64_in _ (by omega)
    clear hp
    have hF : ∀ {w' : World}, Held w.heap.size (w.heap.size + 1) [(w.heap.size, .cells #[.int .i64 1, .int .i64 t, .int .i64 k] 43)] w w' → w'.cell? ⟨w.heap.size, 0, none⟩ = some (.int .i64 1) ∧ w'.cell? ⟨w.heap.size, 1, none⟩ = some (.int .i64 t) ∧ w'.cell? ⟨w.heap.size, 2, none⟩ = some (.int .i64 k) ∧ Held w.heap.size (w.heap.size + 1) [(w.heap.size, .cells #[.int .i64 1, .int .i64 t, .int .i64 k] 43)] w w' := fun h => ⟨(blk_tri h.hd).1, (blk_tri h.hd).2.1, (blk_tri h.hd).2.2.1, h⟩
    go_enter Try.func26, Try.ntmps26
    go_upto_region 1 with fail
    go_region_held3 (fun w' => w'.cell? ⟨w.heap.size, 0, none⟩ = some (.int .i64 1) ∧ w'.cell? ⟨w.heap.size, 1, none⟩ = some (.int .i64 t) ∧ w'.cell? ⟨w.heap.size, 2, none⟩ = some (.int .i64 k) ∧ Held w.heap.size (w.heap.size + 1) [(w.heap.size, .cells #[.int .i64 1, .int .i64 t, .int .i64 k] 43)] w w')
      (with_reducible refine hF ?_; repeat' (first | with_reducible exact HQ.out | with_reducible exact htc | with_reducible refine Held.drew ?_))
      ((first
        | (go_at_call 35; (try go_split_ands); (with_reducible refine (slots_any _ _ (by decide) (by decide) _).mono ?_); rintro e wx ⟨rfl, hbx⟩; have htc := Held.step (by assumption) hbx)
        | (go_at_call 36; (try go_split_ands); (with_reducible refine (spot_yes 1 t (k % 2) HJ2.out _).mono ?_); rintro e wx ⟨rfl, hbx⟩; have htc := Held.step (by assumption) hbx)))
    all_goals
      go_wp2
      go_ret
      exact ⟨rfl, htc.below⟩
  · have HQ := Lib.hid ((Held.start w).new (.cells #[.int .i64 2, .int .i64 t, .int .i64 k] 43))
    have hm : k.tmod 4 = k % 4 := Int.tmod_eq_emod_of_nonneg k0
    have hw : IntKind.i64.wrap 4 = 4 := by decide
    have HJ2 : Hid (okJ 2 t (k % 4)) := Lib.hid HJ.out
    have hv : IntKind.i64.wrap (k % 4) = k % 4 := IntWalk.i64_in _ (by omega)
    clear hp
    have hF : ∀ {w' : World}, Held w.heap.size (w.heap.size + 1) [(w.heap.size, .cells #[.int .i64 2, .int .i64 t, .int .i64 k] 43)] w w' → w'.cell? ⟨w.heap.size, 0, none⟩ = some (.int .i64 2) ∧ w'.cell? ⟨w.heap.size, 1, none⟩ = some (.int .i64 t) ∧ w'.cell? ⟨w.heap.size, 2, none⟩ = some (.int .i64 k) ∧ Held w.heap.size (w.heap.size + 1) [(w.heap.size, .cells #[.int .i64 2, .int .i64 t, .int .i64 k] 43)] w w' := fun h => ⟨(blk_tri h.hd).1, (blk_tri h.hd).2.1, (blk_tri h.hd).2.2.1, h⟩
    go_enter Try.func26, Try.ntmps26
    go_upto_region 1 with fail
    go_region_held3 (fun w' => w'.cell? ⟨w.heap.size, 0, none⟩ = some (.int .i64 2) ∧ w'.cell? ⟨w.heap.size, 1, none⟩ = some (.int .i64 t) ∧ w'.cell? ⟨w.heap.size, 2, none⟩ = some (.int .i64 k) ∧ Held w.heap.size (w.heap.size + 1) [(w.heap.size, .cells #[.int .i64 2, .int .i64 t, .int .i64 k] 43)] w w')
      (with_reducible refine hF ?_; repeat' (first | with_reducible exact HQ.out | with_reducible exact htc | with_reducible refine Held.drew ?_))
      ((first
        | (go_at_call 35; (try go_split_ands); (with_reducible refine (slots_any _ _ (by decide) (by decide) _).mono ?_); rintro e wx ⟨rfl, hbx⟩; have htc := Held.step (by assumption) hbx)
        | (go_at_call 36; (try go_split_ands); (with_reducible refine (spot_yes 2 t (k % 4) HJ2.out _).mono ?_); rintro e wx ⟨rfl, hbx⟩; have htc := Held.step (by assumption) hbx)))
    all_goals
      go_wp2
      go_ret
      exact ⟨rfl, htc.below⟩
  · have HQ := Lib.hid ((Held.start w).new (.cells #[.int .i64 4, .int .i64 t, .int .i64 k] 43))
    have hm : k.tmod 8 = k % 8 := Int.tmod_eq_emod_of_nonneg k0
    have hw : IntKind.i64.wrap 8 = 8 := by decide
    have HJ2 : Hid (okJ 4 t (k % 8)) := Lib.hid HJ.out
    have hv : IntKind.i64.wrap (k % 8) = k % 8 := IntWalk.i64_in _ (by omega)
    clear hp
    have hF : ∀ {w' : World}, Held w.heap.size (w.heap.size + 1) [(w.heap.size, .cells #[.int .i64 4, .int .i64 t, .int .i64 k] 43)] w w' → w'.cell? ⟨w.heap.size, 0, none⟩ = some (.int .i64 4) ∧ w'.cell? ⟨w.heap.size, 1, none⟩ = some (.int .i64 t) ∧ w'.cell? ⟨w.heap.size, 2, none⟩ = some (.int .i64 k) ∧ Held w.heap.size (w.heap.size + 1) [(w.heap.size, .cells #[.int .i64 4, .int .i64 t, .int .i64 k] 43)] w w' := fun h => ⟨(blk_tri h.hd).1, (blk_tri h.hd).2.1, (blk_tri h.hd).2.2.1, h⟩
    go_enter Try.func26, Try.ntmps26
    go_upto_region 1 with fail
    go_region_held3 (fun w' => w'.cell? ⟨w.heap.size, 0, none⟩ = some (.int .i64 4) ∧ w'.cell? ⟨w.heap.size, 1, none⟩ = some (.int .i64 t) ∧ w'.cell? ⟨w.heap.size, 2, none⟩ = some (.int .i64 k) ∧ Held w.heap.size (w.heap.size + 1) [(w.heap.size, .cells #[.int .i64 4, .int .i64 t, .int .i64 k] 43)] w w')
      (with_reducible refine hF ?_; repeat' (first | with_reducible exact HQ.out | with_reducible exact htc | with_reducible refine Held.drew ?_))
      ((first
        | (go_at_call 35; (try go_split_ands); (with_reducible refine (slots_any _ _ (by decide) (by decide) _).mono ?_); rintro e wx ⟨rfl, hbx⟩; have htc := Held.step (by assumption) hbx)
        | (go_at_call 36; (try go_split_ands); (with_reducible refine (spot_yes 4 t (k % 8) HJ2.out _).mono ?_); rintro e wx ⟨rfl, hbx⟩; have htc := Held.step (by assumption) hbx)))
    all_goals
      go_wp2
      go_ret
      exact ⟨rfl, htc.below⟩
  · have HQ := Lib.hid ((Held.start w).new (.cells #[.int .i64 8, .int .i64 t, .int .i64 k] 43))
    have hm : k.tmod 16 = k % 16 := Int.tmod_eq_emod_of_nonneg k0
    have hw : IntKind.i64.wrap 16 = 16 := by decide
    have HJ2 : Hid (okJ 8 t (k % 16)) := Lib.hid HJ.out
    have hv : IntKind.i64.wrap (k % 16) = k % 16 := IntWalk.i64_in _ (by omega)
    clear hp
    have hF : ∀ {w' : World}, Held w.heap.size (w.heap.size + 1) [(w.heap.size, .cells #[.int .i64 8, .int .i64 t, .int .i64 k] 43)] w w' → w'.cell? ⟨w.heap.size, 0, none⟩ = some (.int .i64 8) ∧ w'.cell? ⟨w.heap.size, 1, none⟩ = some (.int .i64 t) ∧ w'.cell? ⟨w.heap.size, 2, none⟩ = some (.int .i64 k) ∧ Held w.heap.size (w.heap.size + 1) [(w.heap.size, .cells #[.int .i64 8, .int .i64 t, .int .i64 k] 43)] w w' := fun h => ⟨(blk_tri h.hd).1, (blk_tri h.hd).2.1, (blk_tri h.hd).2.2.1, h⟩
    go_enter Try.func26, Try.ntmps26
    go_upto_region 1 with fail
    go_region_held3 (fun w' => w'.cell? ⟨w.heap.size, 0, none⟩ = some (.int .i64 8) ∧ w'.cell? ⟨w.heap.size, 1, none⟩ = some (.int .i64 t) ∧ w'.cell? ⟨w.heap.size, 2, none⟩ = some (.int .i64 k) ∧ Held w.heap.size (w.heap.size + 1) [(w.heap.size, .cells #[.int .i64 8, .int .i64 t, .int .i64 k] 43)] w w')
      (with_reducible refine hF ?_; repeat' (first | with_reducible exact HQ.out | with_reducible exact htc | with_reducible refine Held.drew ?_))
      ((first
        | (go_at_call 35; (try go_split_ands); (with_reducible refine (slots_any _ _ (by decide) (by decide) _).mono ?_); rintro e wx ⟨rfl, hbx⟩; have htc := Held.step (by assumption) hbx)
        | (go_at_call 36; (try go_split_ands); (with_reducible refine (spot_yes 8 t (k % 16) HJ2.out _).mono ?_); rintro e wx ⟨rfl, hbx⟩; have htc := Held.step (by assumption) hbx)))
    all_goals
      go_wp2
      go_ret
      exact ⟨rfl, htc.below⟩

set_option maxHeartbeats 1000000 in
theorem iCyc_yes (s t k : Int) (h : okT s t k) (w : World) :
    Calls Try.prog 8 #[.agg #[.int .i64 s, .int .i64 t], .int .i64 k] w fun e w' => e = .returned (.int .i64 (cycD s k)) ∧ Below w.heap.size w w' := by
  have HT := Lib.hid h
  have HP := Lib.hid h.1
  obtain ⟨hp, k0, k1⟩ := h
  clear hp
  have hmf : ∀ (fn : Fn) (first cap : Array Value) (w : World), (Instr.makeFunc fn first cap).run Try.prog w = .ok (.func fn first cap) w := fun _ _ _ _ => rfl
  go_enter Try.func8, Try.ntmps8
  go_wp2_with (first | (go_at_call 40; refine (right_yes _ _ HP.out _).mono ?_; rintro e w1 ⟨rfl, hb⟩; obtain ⟨hc, hf⟩ := bcell hb) | (go_at_call 23; (with_reducible refine (tcycle_yes _ _ _ HT.out _).mono ?_); rintro e w2 ⟨rfl, hb2⟩) | go_in)
  go_ret
  have z1 := hb.size
  simp at z1
  exact ⟨rfl, (Below.trans (by repeat' (first | exact Below.refl _ _ | refine Below.alloc ?_ (by first | (simp; done) | (simp; omega)) _)) (hb.mono (by simp; omega))).trans (hb2.mono (by omega))⟩

set_option maxHeartbeats 1000000 in
theorem iCyc_nop (s t k : Int) (h : ¬ okP s t) (hk : okK k) (w : World) :
    Calls Try.prog 8 #[.agg #[.int .i64 s, .int .i64 t], .int .i64 k] w fun e w' => e = .returned (.int .i64 (-1)) ∧ Below w.heap.size w w' := by
  have HP := Lib.hid h
  obtain ⟨k0, k1⟩ := hk
  clear h
  have hmf : ∀ (fn : Fn) (first cap : Array Value) (w : World), (Instr.makeFunc fn first cap).run Try.prog w = .ok (.func fn first cap) w := fun _ _ _ _ => rfl
  go_enter Try.func8, Try.ntmps8
  go_wp2_with (first | (go_at_call 40; refine (right_no _ _ HP.out _).mono ?_; rintro e w1 ⟨rfl, hb⟩; obtain ⟨hc, hf⟩ := bcell hb) | go_in)
  go_ret
  exact ⟨rfl, Below.trans (by repeat' (first | exact Below.refl _ _ | refine Below.alloc ?_ (by first | (simp; done) | (simp; omega)) _)) (hb.mono (by simp; omega))⟩

set_option maxHeartbeats 1000000 in
theorem iCyc_nok (s t k : Int) (hk : ¬ okK k) (w : World) :
    Calls Try.prog 8 #[.agg #[.int .i64 s, .int .i64 t], .int .i64 k] w fun e w' => e = .returned (.int .i64 (-1)) ∧ Below w.heap.size w w' := by
  have hx : k < 0 ∨ (0 ≤ k ∧ 1000000 < k) := Decidable.byContradiction fun hx => hk ⟨by omega, by omega⟩
  clear hk
  have hmf : ∀ (fn : Fn) (first cap : Array Value) (w : World), (Instr.makeFunc fn first cap).run Try.prog w = .ok (.func fn first cap) w := fun _ _ _ _ => rfl
  rcases hx with hx | ⟨hx, hx2⟩
  all_goals
    go_enter Try.func8, Try.ntmps8
    go_wp2_with (first | go_in)
    go_ret
    exact ⟨rfl, by repeat' (first | exact Below.refl _ _ | refine Below.alloc ?_ (by first | (simp; done) | (simp; omega)) _)⟩

theorem iCyc (s t k : Int) (w : World) :
    Calls Try.prog 8 #[.agg #[.int .i64 s, .int .i64 t], .int .i64 k] w fun e w' => e = .returned (.int .i64 (cycV s t k)) ∧ Below w.heap.size w w' := by
  by_cases h : okT s t k
  · rw [show cycV s t k = cycD s k from if_pos h]; exact iCyc_yes s t k h w
  · rw [show cycV s t k = -1 from if_neg h]
    by_cases hk : okK k
    · exact iCyc_nop s t k (fun hp => h ⟨hp, hk⟩) hk w
    · exact iCyc_nok s t k hk w

set_option maxHeartbeats 1000000 in
theorem iPlace_yes (s t k : Int) (h : okT s t k) (w : World) :
    Calls Try.prog 10 #[.agg #[.int .i64 s, .int .i64 t], .int .i64 k] w fun e w' => e = .returned (.int .i64 (placeD s k)) ∧ Below w.heap.size w w' := by
  have HT := Lib.hid h
  have HP := Lib.hid h.1
  obtain ⟨hp, k0, k1⟩ := h
  clear hp
  have hmf : ∀ (fn : Fn) (first cap : Array Value) (w : World), (Instr.makeFunc fn first cap).run Try.prog w = .ok (.func fn first cap) w := fun _ _ _ _ => rfl
  go_enter Try.func10, Try.ntmps10
  go_wp2_with (first | (go_at_call 40; refine (right_yes _ _ HP.out _).mono ?_; rintro e w1 ⟨rfl, hb⟩; obtain ⟨hc, hf⟩ := bcell hb) | (go_at_call 26; (with_reducible refine (tplace_yes _ _ _ HT.out _).mono ?_); rintro e w2 ⟨rfl, hb2⟩) | go_in)
  go_ret
  have z1 := hb.size
  simp at z1
  exact ⟨rfl, (Below.trans (by repeat' (first | exact Below.refl _ _ | refine Below.alloc ?_ (by first | (simp; done) | (simp; omega)) _)) (hb.mono (by simp; omega))).trans (hb2.mono (by omega))⟩

set_option maxHeartbeats 1000000 in
theorem iPlace_nop (s t k : Int) (h : ¬ okP s t) (hk : okK k) (w : World) :
    Calls Try.prog 10 #[.agg #[.int .i64 s, .int .i64 t], .int .i64 k] w fun e w' => e = .returned (.int .i64 (-1)) ∧ Below w.heap.size w w' := by
  have HP := Lib.hid h
  obtain ⟨k0, k1⟩ := hk
  clear h
  have hmf : ∀ (fn : Fn) (first cap : Array Value) (w : World), (Instr.makeFunc fn first cap).run Try.prog w = .ok (.func fn first cap) w := fun _ _ _ _ => rfl
  go_enter Try.func10, Try.ntmps10
  go_wp2_with (first | (go_at_call 40; refine (right_no _ _ HP.out _).mono ?_; rintro e w1 ⟨rfl, hb⟩; obtain ⟨hc, hf⟩ := bcell hb) | go_in)
  go_ret
  exact ⟨rfl, Below.trans (by repeat' (first | exact Below.refl _ _ | refine Below.alloc ?_ (by first | (simp; done) | (simp; omega)) _)) (hb.mono (by simp; omega))⟩

set_option maxHeartbeats 1000000 in
theorem iPlace_nok (s t k : Int) (hk : ¬ okK k) (w : World) :
    Calls Try.prog 10 #[.agg #[.int .i64 s, .int .i64 t], .int .i64 k] w fun e w' => e = .returned (.int .i64 (-1)) ∧ Below w.heap.size w w' := by
  have hx : k < 0 ∨ (0 ≤ k ∧ 1000000 < k) := Decidable.byContradiction fun hx => hk ⟨by omega, by omega⟩
  clear hk
  have hmf : ∀ (fn : Fn) (first cap : Array Value) (w : World), (Instr.makeFunc fn first cap).run Try.prog w = .ok (.func fn first cap) w := fun _ _ _ _ => rfl
  rcases hx with hx | ⟨hx, hx2⟩
  all_goals
    go_enter Try.func10, Try.ntmps10
    go_wp2_with (first | go_in)
    go_ret
    exact ⟨rfl, by repeat' (first | exact Below.refl _ _ | refine Below.alloc ?_ (by first | (simp; done) | (simp; omega)) _)⟩

theorem iPlace (s t k : Int) (w : World) :
    Calls Try.prog 10 #[.agg #[.int .i64 s, .int .i64 t], .int .i64 k] w fun e w' => e = .returned (.int .i64 (placeV s t k)) ∧ Below w.heap.size w w' := by
  by_cases h : okT s t k
  · rw [show placeV s t k = placeD s k from if_pos h]; exact iPlace_yes s t k h w
  · rw [show placeV s t k = -1 from if_neg h]
    by_cases hk : okK k
    · exact iPlace_nop s t k (fun hp => h ⟨hp, hk⟩) hk w
    · exact iPlace_nok s t k hk w

end Go.Proofs.Ytjokflmmdkekjaa
