/- The law of chapter 1 holds: whatever bytes are drawn from, the program's functions on plans answer as their models, and twice the size of a plan that is right is two to the power of its bits: no condition. -/
import Derived.Test.YtdiaigdfemfkaaaDice
import Derived.Test.YtdiaigdfemfkaaaPlanB
import Derived.Deep.RegionHeld3
namespace Go.Proofs.Ytdiaigdfemfkaaa
open Go.RowKit

set_option maxRecDepth 100000 in
set_option maxHeartbeats 4000000 in
theorem plans_walk (a : Option Addr) (n cap : Nat) (w : World) (hn : n ≤ 4096) (hb : Bytes w.heap.size a n w) :
    Calls Try.prog 3 #[.slice a n cap] w fun e w' => e = .returned (.bool true) ∧ Below w.heap.size w w' := by
  have HB := Lib.hid hb
  clear hb
  go_enter Try.func3, Try.ntmps3
  go_wp2_with fail
  refine (big_no a n cap w hn).mono ?_
  rintro e w' ⟨rfl, rfl⟩
  go_wp2_with fail
  refine (drawPlanOk_any a n cap w hn HB.out).mono ?_
  rintro e w1 ⟨v, ⟨s, t, rfl, -⟩, rfl, hb1⟩
  have z1 := hb1.size
  have HB1 := Lib.hid hb1
  clear hb1
  go_wp2_with fail
  refine (roll_any w.heap.size a n cap _ _ hn (by simp; omega) (HB.out.grown (grown_below (HB1.out.alloc (by omega) _) none) (by simp))).mono ?_
  rintro e w2 ⟨c, rfl, hc, hd2, hb2⟩
  simp at hc
  have z2 := hb2.size
  simp at z2
  have HP2 := Lib.hid (blk_below (blk_new w1 _) hb2 (by simp))
  have HB2 := Lib.hid ((HB1.out.alloc (by omega) _).trans (hb2.mono (by simp; omega)))
  have HD2 := Lib.hid hd2
  clear hb2 hd2 HB1
  go_wp2_with fail
  refine (scheme_any HD2.out).mono ?_
  rintro e w3 ⟨v, ⟨s', t', rfl, hq⟩, rfl, hd3, hg3⟩
  have z3 := hg3.size
  have HP3 := Lib.hid (blk_grown HP2.out hg3 (by simp; omega))
  have HB3 := Lib.hid (below_of_grown HB2.out hg3 (by omega) (by intro k hk; cases hk; omega))
  have HQ := Lib.hid hq
  clear hg3 hd3 HB2 HD2 HP2
  obtain ⟨g1, g2⟩ := okP_le hq
  have hsq := bitsD_of hq
  clear hq
  go_wp2_with fail
  refine (bitsOf_yes _ _ HQ.out _).mono ?_
  rintro e w4 ⟨rfl, hb4⟩
  have z4 := hb4.size
  simp at z4
  have hsh : IntKind.i64.wrap (2 ^ min (IntKind.u64.wrap (bitsD s')).toNat 64) = 2 * s' := by
    rcases hsq with ⟨rfl, e⟩ | ⟨rfl, e⟩ | ⟨rfl, e⟩ | ⟨rfl, e⟩ <;> rw [e] <;> kernel_rfl
  have b1 : 1 ≤ bitsD s' := by omega
  have b2 : bitsD s' ≤ 4 := by omega
  have he1 : IntKind.i64.wrap (2 * s' + s') = 3 * s' := by rw [IntWalk.i64_in _ (by omega)]; omega
  have he2 : IntKind.i64.wrap (3 * s' - 1) = 3 * s' - 1 := IntWalk.i64_in _ (by omega)
  clear hsq
  generalize bitsD s' = bq at *
  have HP4 := Lib.hid (blk_below (blk_alloc HP3.out) hb4 (by simp; omega))
  have HQ4 := Lib.hid (blk_below (blk_new w3 _) hb4 (by simp))
  have HB4 := Lib.hid ((HB3.out.alloc (by omega) _).trans (hb4.mono (by simp; omega)))
  clear hb4 HP3 HB3
  obtain ⟨p0, p1, -, -⟩ := blk_two HP4.out
  obtain ⟨q0, q1, -, -⟩ := blk_two HQ4.out
  by_cases hk : okP s t
  · have HK := Lib.hid hk
    clear hk
    go_wp2_with fail
    go_region_held3 (fun w' => w'.cell? ⟨w1.heap.size, 0, none⟩ = some (.int .i64 s) ∧ w'.cell? ⟨w1.heap.size, 1, none⟩ = some (.int .i64 t) ∧ w'.cell? ⟨w3.heap.size, 0, none⟩ = some (.int .i64 s') ∧ w'.cell? ⟨w3.heap.size, 1, none⟩ = some (.int .i64 t') ∧
          Below w.heap.size w w' ∧ w3.heap.size + 1 ≤ w'.heap.size)
        (first
          | exact ⟨p0, p1, q0, q1, HB4.out, z4⟩
          | exact ⟨p0, p1, q0, q1, HB4.out.drew, z4⟩
          | (go_split_ands
             have zz := hbx.size
             exact ⟨(hbx.cell (by simp; omega)).trans (by assumption), (hbx.cell (by simp; omega)).trans (by assumption), (hbx.cell (by simp; omega)).trans (by assumption), (hbx.cell (by simp; omega)).trans (by assumption), Below.trans (by assumption) (hbx.mono (by omega)), by omega⟩))
        ((first
          | (go_at_call 13; (with_reducible refine (planOk_yes _ _ HK.out _).mono ?_); rintro e wx ⟨rfl, hbx⟩)
          | (go_at_call 14; (with_reducible refine (specOk_yes _ _ HK.out _).mono ?_); rintro e wx ⟨rfl, hbx⟩)
          | (go_at_call 15; (with_reducible refine (slotsOf_yes _ _ HK.out _).mono ?_); rintro e wx ⟨rfl, hbx⟩)
          | (go_at_call 16; (with_reducible refine (specSlots_yes _ _ HK.out _).mono ?_); rintro e wx ⟨rfl, hbx⟩)
          | (go_at_call 12; (with_reducible refine (bitsOf_yes _ _ HK.out _).mono ?_); rintro e wx ⟨rfl, hbx⟩)
          | (go_at_call 17; (with_reducible refine (specBits_yes _ _ HK.out _).mono ?_); rintro e wx ⟨rfl, hbx⟩)
          | (go_at_call 18; (with_reducible refine (mostOf_yes _ _ HK.out _).mono ?_); rintro e wx ⟨rfl, hbx⟩)
          | (go_at_call 19; (with_reducible refine (specMost_yes _ _ HK.out _).mono ?_); rintro e wx ⟨rfl, hbx⟩)
          | (go_at_call 15; (with_reducible refine (slotsOf_yes _ _ HQ.out _).mono ?_); rintro e wx ⟨rfl, hbx⟩)
          | (go_at_call 18; (with_reducible refine (mostOf_yes _ _ HQ.out _).mono ?_); rintro e wx ⟨rfl, hbx⟩)))
    go_wp2
    go_ret
    go_split_ands
    exact ⟨rfl, by assumption⟩
  · have HK := Lib.hid hk
    clear hk
    go_wp2_with fail
    go_region_held3 (fun w' => w'.cell? ⟨w1.heap.size, 0, none⟩ = some (.int .i64 s) ∧ w'.cell? ⟨w1.heap.size, 1, none⟩ = some (.int .i64 t) ∧ w'.cell? ⟨w3.heap.size, 0, none⟩ = some (.int .i64 s') ∧ w'.cell? ⟨w3.heap.size, 1, none⟩ = some (.int .i64 t') ∧
          Below w.heap.size w w' ∧ w3.heap.size + 1 ≤ w'.heap.size)
        (first
          | exact ⟨p0, p1, q0, q1, HB4.out, z4⟩
          | exact ⟨p0, p1, q0, q1, HB4.out.drew, z4⟩
          | (go_split_ands
             have zz := hbx.size
             exact ⟨(hbx.cell (by simp; omega)).trans (by assumption), (hbx.cell (by simp; omega)).trans (by assumption), (hbx.cell (by simp; omega)).trans (by assumption), (hbx.cell (by simp; omega)).trans (by assumption), Below.trans (by assumption) (hbx.mono (by omega)), by omega⟩))
        ((first
          | (go_at_call 13; (with_reducible refine (planOk_no _ _ HK.out _).mono ?_); rintro e wx ⟨rfl, hbx⟩)
          | (go_at_call 14; (with_reducible refine (specOk_no _ _ HK.out _).mono ?_); rintro e wx ⟨rfl, hbx⟩)
          | (go_at_call 15; (with_reducible refine (slotsOf_no _ _ HK.out _).mono ?_); rintro e wx ⟨rfl, hbx⟩)
          | (go_at_call 16; (with_reducible refine (specSlots_no _ _ HK.out _).mono ?_); rintro e wx ⟨rfl, hbx⟩)
          | (go_at_call 12; (with_reducible refine (bitsOf_no _ _ HK.out _).mono ?_); rintro e wx ⟨rfl, hbx⟩)
          | (go_at_call 17; (with_reducible refine (specBits_no _ _ HK.out _).mono ?_); rintro e wx ⟨rfl, hbx⟩)
          | (go_at_call 18; (with_reducible refine (mostOf_no _ _ HK.out _).mono ?_); rintro e wx ⟨rfl, hbx⟩)
          | (go_at_call 19; (with_reducible refine (specMost_no _ _ HK.out _).mono ?_); rintro e wx ⟨rfl, hbx⟩)
          | (go_at_call 15; (with_reducible refine (slotsOf_yes _ _ HQ.out _).mono ?_); rintro e wx ⟨rfl, hbx⟩)
          | (go_at_call 18; (with_reducible refine (mostOf_yes _ _ HQ.out _).mono ?_); rintro e wx ⟨rfl, hbx⟩)))
    go_wp2
    go_ret
    go_split_ands
    exact ⟨rfl, by assumption⟩

theorem plans_large (a : Option Addr) (n cap : Nat) (w : World) (hn : 4096 < n) :
    Calls Try.prog 3 #[.slice a n cap] w fun e w' => e = .returned (.bool true) ∧ Below w.heap.size w w' := by
  go_enter Try.func3, Try.ntmps3
  go_wp2_with fail
  refine (big_yes a n cap w hn).mono ?_
  rintro e w' ⟨rfl, rfl⟩
  go_wp2
  go_ret
  exact ⟨rfl, Below.refl _ _⟩

theorem plans_any (a : Option Addr) (n cap : Nat) (w : World) (hb : Bytes w.heap.size a n w) :
    Calls Try.prog 3 #[.slice a n cap] w fun e w' => e = .returned (.bool true) ∧ Below w.heap.size w w' := by
  by_cases hn : n ≤ 4096
  · exact plans_walk a n cap w hn hb
  · exact plans_large a n cap w (by omega)
end Go.Proofs.Ytdiaigdfemfkaaa
