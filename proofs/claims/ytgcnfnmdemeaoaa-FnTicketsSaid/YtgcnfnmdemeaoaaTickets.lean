/- The law of chapter 4 holds: whatever bytes are drawn from, a ticket is known by its cycle and its place, and the program's answers are the model's: no condition. -/
import Derived.Test.YtgcnfnmdemeaoaaDice
import Derived.Test.YtgcnfnmdemeaoaaD4
import Derived.Test.YtgcnfnmdemeaoaaS4
import Derived.Test.YtgcnfnmdemeaoaaI4
import Derived.Deep.RegionHeld3
import Derived.IntWalk
namespace Go.Proofs.Ytgcnfnmdemeaoaa
open Go.RowKit

set_option maxRecDepth 100000 in
set_option maxHeartbeats 4000000 in
theorem tickets_walk (a : Option Addr) (n cap : Nat) (w : World) (hn : n ≤ 4096) (hb : Bytes w.heap.size a n w) :
    Calls Try.prog 3 #[.slice a n cap] w fun e w' => e = .returned (.bool true) ∧ Below w.heap.size w w' := by
  have HB := Lib.hid hb
  clear hb
  go_enter Try.func3, Try.ntmps3
  go_wp2_with fail
  refine (big_no a n cap w hn).mono ?_
  rintro e w' ⟨rfl, rfl⟩
  go_wp2_with fail
  refine (drawCycleOf_any a n cap w hn HB.out).mono ?_
  rintro e w1 ⟨v, ⟨s, t, x, rfl, hs, ht, hx⟩, rfl, hb1⟩
  have HB1 := Lib.hid (hb1.alloc hb1.size (.cells #[.int .i64 s, .int .i64 t] 25))
  have z1 := hb1.size
  clear hb1
  obtain ⟨p0, p1, -, -⟩ := blk_two (blk_new w1 (.cells #[.int .i64 s, .int .i64 t] 25))
  have z2 : w1.heap.size + 1 ≤ (w1.alloc (.cells #[.int .i64 s, .int .i64 t] 25)).heap.size := by simp
  go_upto_region 4 with fail
  go_cut [30] (fun s30 wx => s30 = .bool false ∧ Below w.heap.size w wx)
  case first =>
    go_region_held3 (fun w' => w'.cell? ⟨w1.heap.size, 0, none⟩ = some (.int .i64 s) ∧ w'.cell? ⟨w1.heap.size, 1, none⟩ = some (.int .i64 t) ∧ Below w.heap.size w w' ∧ w1.heap.size + 1 ≤ w'.heap.size)
      (first
        | exact ⟨p0, p1, HB1.out, z2⟩
        | exact ⟨p0, p1, HB1.out.drew, z2⟩
        | ((try go_split_ands)
           have zz := hbx.size
           exact ⟨(hbx.cell (by first | omega | (simp; done) | (simp; omega))).trans (by assumption), (hbx.cell (by first | omega | (simp; done) | (simp; omega))).trans (by assumption), Below.trans (by assumption) (hbx.mono (by first | omega | (simp; omega))), by first | omega | (simp at zz; omega)⟩))
      ((first
        | (go_at_call 17; (with_reducible refine (iCyc _ _ _ _).mono ?_); rintro e wx ⟨rfl, hbx⟩)
        | (go_at_call 18; (with_reducible refine (specCyc _ _ _ _).mono ?_); rintro e wx ⟨rfl, hbx⟩)
        | (go_at_call 19; (with_reducible refine (iPlace _ _ _ _).mono ?_); rintro e wx ⟨rfl, hbx⟩)
        | (go_at_call 20; (with_reducible refine (specPlace _ _ _ _).mono ?_); rintro e wx ⟨rfl, hbx⟩)))
    all_goals
      go_wp2_with fail
      go_meet
      (try go_split_ands)
      exact ⟨rfl, by assumption⟩
  case rest =>
    obtain ⟨rfl, hb3⟩ := hcut
    have HB3 := Lib.hid hb3
    have z3 := hb3.size
    clear hb3 p0 p1 z2 HB1 z1
    go_wp2_with fail
    refine (roll_any w.heap.size a n cap 4 wc hn z3 (HB.out.grown (grown_below HB3.out none) (by simp))).mono ?_
    rintro e w4 ⟨c, rfl, hc, hd4, hb4⟩
    have HD4 := Lib.hid hd4
    have z4 := hb4.size
    have HB4 := Lib.hid (HB3.out.trans (hb4.mono z3))
    clear hd4 hb4 HB3
    go_wp2_with fail
    refine (scheme_any HD4.out).mono ?_
    rintro e w5 ⟨v, ⟨s', t', rfl, hst⟩, rfl, hd5, hg5⟩
    have z5 := hg5.size
    have hlt5 := hd5.lt
    have HD5 := Lib.hid (hd5.grown (World.grownBy_alloc w5 (.cells #[.int .i64 s', .int .i64 t'] 25) none) (by simp))
    have HB5 := Lib.hid ((below_of_grown HB4.out hg5 (by omega) (by intro k hk; cases hk; omega)).alloc (by omega) (.cells #[.int .i64 s', .int .i64 t'] 25))
    clear hd5 hg5 HD4 HB4
    have HK := Lib.hid hst
    obtain ⟨g1, g2⟩ := okP_le hst
    clear hst
    go_wp2_with fail
    refine (dice_pos HD5.out 5000 (by decide)).mono ?_
    rintro e w6 ⟨v, ⟨k, rfl, k0, k1⟩, rfl, hd6, hg6⟩
    have z6 := hg6.size
    simp at z6
    have P6 := Lib.hid (blk_grown (blk_new w5 _) hg6 (by simp; omega))
    have HB6 := Lib.hid (below_of_grown HB5.out hg6 (by simp; omega) (by intro k hk; cases hk; omega))
    clear hd6 hg6 HD5 HB5
    obtain ⟨p0, p1, -, -⟩ := blk_two P6.out
    have z7 : w5.heap.size + 1 ≤ w6.heap.size := by omega
    have hT : okT s' t' k := ⟨HK.out, by omega, by omega⟩
    have HKN := Lib.hid (ticket_known hT)
    obtain ⟨c0, c1⟩ := cyc_w64 hT
    rw [← show cycV s' t' k = cycD s' k from if_pos hT] at c0 c1
    have hJ := okJ_mod hT
    obtain ⟨a0, a1, -⟩ := spot_in hJ
    have hJ2 : okJ s' t' (placeD s' k) := ⟨HK.out, a0, a1⟩
    obtain ⟨-, -, -, b0, b1, -⟩ := spot_in hJ2
    have hU : unspotV s' t' (placeV s' t' k) = unspotD s' (placeD s' k) := by rw [show placeV s' t' k = placeD s' k from if_pos hT]; exact if_pos hJ2
    rw [← hU] at b0 b1
    clear hU hJ2 a0 a1 hJ hT
    obtain ⟨C, hC⟩ : ∃ C, C = cycV s' t' k := ⟨_, rfl⟩
    obtain ⟨PL, hPL⟩ : ∃ C, C = placeV s' t' k := ⟨_, rfl⟩
    obtain ⟨U, hU⟩ : ∃ C, C = unspotV s' t' PL := ⟨_, rfl⟩
    rw [← hC] at c0 c1
    rw [← hPL, ← hU] at b0 b1
    have hKN : C * 2 * s' + U = k := by have h := HKN.out; rw [← hC, ← hPL, ← hU] at h; exact h
    have e1 : IntKind.i64.wrap (C * 2) = C * 2 := IntWalk.i64_in _ (by omega)
    have hb1 : 0 ≤ C * 2 * s' := Int.mul_nonneg (by omega) (by omega)
    have hb2 : C * 2 * s' ≤ 4999 := by omega
    have e2 : IntKind.i64.wrap (C * 2 * s') = C * 2 * s' := IntWalk.i64_in _ (by omega)
    have e3 : IntKind.i64.wrap (C * 2 * s' + U) = k := by rw [hKN]; exact IntWalk.i64_in _ (by omega)
    have HC := Lib.hid hC.symm
    have HPL := Lib.hid hPL.symm
    have HU := Lib.hid hU.symm
    clear hC hPL hU hKN hb1 hb2
    go_wp2_with fail
    go_region_held3 (fun w' => w'.cell? ⟨w5.heap.size, 0, none⟩ = some (.int .i64 s') ∧ w'.cell? ⟨w5.heap.size, 1, none⟩ = some (.int .i64 t') ∧ Below w.heap.size w w' ∧ w5.heap.size + 1 ≤ w'.heap.size)
      (first
        | exact ⟨p0, p1, HB6.out, z7⟩
        | exact ⟨p0, p1, HB6.out.drew, z7⟩
        | ((try go_split_ands)
           have zz := hbx.size
           exact ⟨(hbx.cell (by first | omega | (simp; done) | (simp; omega))).trans (by assumption), (hbx.cell (by first | omega | (simp; done) | (simp; omega))).trans (by assumption), Below.trans (by assumption) (hbx.mono (by first | omega | (simp; omega))), by first | omega | (simp at zz; omega)⟩))
      ((first
        | (go_at_call 17; (with_reducible refine (iCyc s' t' k _).mono ?_); rintro e wx ⟨rfl, hbx⟩; rw [HC.out])
        | (go_at_call 19; (with_reducible refine (iPlace s' t' k _).mono ?_); rintro e wx ⟨rfl, hbx⟩; rw [HPL.out])
        | (go_at_call 24; (with_reducible refine (specUnspot s' t' PL _).mono ?_); rintro e wx ⟨rfl, hbx⟩; rw [HU.out])))
    all_goals
      go_wp2
      go_ret
      (try go_split_ands)
      exact ⟨rfl, by assumption⟩

theorem tickets_large (a : Option Addr) (n cap : Nat) (w : World) (hn : 4096 < n) :
    Calls Try.prog 3 #[.slice a n cap] w fun e w' => e = .returned (.bool true) ∧ Below w.heap.size w w' := by
  go_enter Try.func3, Try.ntmps3
  go_wp2_with fail
  refine (big_yes a n cap w hn).mono ?_
  rintro e w' ⟨rfl, rfl⟩
  go_wp2
  go_ret
  exact ⟨rfl, Below.refl _ _⟩

theorem tickets_any (a : Option Addr) (n cap : Nat) (w : World) (hb : Bytes w.heap.size a n w) :
    Calls Try.prog 3 #[.slice a n cap] w fun e w' => e = .returned (.bool true) ∧ Below w.heap.size w w' := by
  by_cases hn : n ≤ 4096
  · exact tickets_walk a n cap w hn hb
  · exact tickets_large a n cap w (by omega)

end Go.Proofs.Ytgcnfnmdemeaoaa
