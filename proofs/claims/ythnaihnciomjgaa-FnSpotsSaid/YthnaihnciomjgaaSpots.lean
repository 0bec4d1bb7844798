/- The law of chapter 3 holds: whatever bytes are drawn from, spots are a permutation, and the program's answers are the model's: no condition. -/
import Derived.Test.YthnaihnciomjgaaDice
import Derived.Test.YthnaihnciomjgaaD3
import Derived.Test.YthnaihnciomjgaaS3
import Derived.Test.YthnaihnciomjgaaI3
import Derived.Deep.RegionHeld3
namespace Go.Proofs.Ythnaihnciomjgaa
open Go.RowKit

/-- Which spots have been seen when k numbers have been asked for. -/
def seenL (s : Int) (m k : Nat) : Array Value := ((List.range m).map fun (j : Nat) => Value.bool (decide (unspotD s (j : Int) < (k : Int)))).toArray

theorem seen1_set (k r : Nat) (hk : k < 2) (hr : spotD 1 k = r) : (seenL 1 2 k).setIfInBounds r (.bool true) = seenL 1 2 (k + 1) := by
  obtain ⟨q, hq⟩ : ∃ q : Nat, q = (spotD 1 k).toNat := ⟨_, rfl⟩
  obtain rfl : r = q := by omega
  clear hr
  have hj : k = 0 ∨ k = 1 := by omega
  rcases hj with rfl | rfl
  all_goals (subst hq; exact Eq.symm (by kernel_rfl))

theorem seen1_at (k r : Nat) (hk : k < 2) (hr : spotD 1 k = r) : (seenL 1 2 k)[r]? = some (.bool false) := by
  obtain ⟨q, hq⟩ : ∃ q : Nat, q = (spotD 1 k).toNat := ⟨_, rfl⟩
  obtain rfl : r = q := by omega
  clear hr
  have hj : k = 0 ∨ k = 1 := by omega
  rcases hj with rfl | rfl
  all_goals (subst hq; exact Eq.symm (by kernel_rfl))

theorem seen2_set (k r : Nat) (hk : k < 4) (hr : spotD 2 k = r) : (seenL 2 4 k).setIfInBounds r (.bool true) = seenL 2 4 (k + 1) := by
  obtain ⟨q, hq⟩ : ∃ q : Nat, q = (spotD 2 k).toNat := ⟨_, rfl⟩
  obtain rfl : r = q := by omega
  clear hr
  have hj : k = 0 ∨ k = 1 ∨ k = 2 ∨ k = 3 := by omega
  rcases hj with rfl | rfl | rfl | rfl
  all_goals (subst hq; exact Eq.symm (by kernel_rfl))

theorem seen2_at (k r : Nat) (hk : k < 4) (hr : spotD 2 k = r) : (seenL 2 4 k)[r]? = some (.bool false) := by
  obtain ⟨q, hq⟩ : ∃ q : Nat, q = (spotD 2 k).toNat := ⟨_, rfl⟩
  obtain rfl : r = q := by omega
  clear hr
  have hj : k = 0 ∨ k = 1 ∨ k = 2 ∨ k = 3 := by omega
  rcases hj with rfl | rfl | rfl | rfl
  all_goals (subst hq; exact Eq.symm (by kernel_rfl))

theorem seen4_set (k r : Nat) (hk : k < 8) (hr : spotD 4 k = r) : (seenL 4 8 k).setIfInBounds r (.bool true) = seenL 4 8 (k + 1) := by
  obtain ⟨q, hq⟩ : ∃ q : Nat, q = (spotD 4 k).toNat := ⟨_, rfl⟩
  obtain rfl : r = q := by omega
  clear hr
  have hj : k = 0 ∨ k = 1 ∨ k = 2 ∨ k = 3 ∨ k = 4 ∨ k = 5 ∨ k = 6 ∨ k = 7 := by omega
  rcases hj with rfl | rfl | rfl | rfl | rfl | rfl | rfl | rfl
  all_goals (subst hq; exact Eq.symm (by kernel_rfl))

theorem seen4_at (k r : Nat) (hk : k < 8) (hr : spotD 4 k = r) : (seenL 4 8 k)[r]? = some (.bool false) := by
  obtain ⟨q, hq⟩ : ∃ q : Nat, q = (spotD 4 k).toNat := ⟨_, rfl⟩
  obtain rfl : r = q := by omega
  clear hr
  have hj : k = 0 ∨ k = 1 ∨ k = 2 ∨ k = 3 ∨ k = 4 ∨ k = 5 ∨ k = 6 ∨ k = 7 := by omega
  rcases hj with rfl | rfl | rfl | rfl | rfl | rfl | rfl | rfl
  all_goals (subst hq; exact Eq.symm (by kernel_rfl))

theorem seen8_set (k r : Nat) (hk : k < 16) (hr : spotD 8 k = r) : (seenL 8 16 k).setIfInBounds r (.bool true) = seenL 8 16 (k + 1) := by
  obtain ⟨q, hq⟩ : ∃ q : Nat, q = (spotD 8 k).toNat := ⟨_, rfl⟩
  obtain rfl : r = q := by omega
  clear hr
  have hj : k = 0 ∨ k = 1 ∨ k = 2 ∨ k = 3 ∨ k = 4 ∨ k = 5 ∨ k = 6 ∨ k = 7 ∨ k = 8 ∨ k = 9 ∨ k = 10 ∨ k = 11 ∨ k = 12 ∨ k = 13 ∨ k = 14 ∨ k = 15 := by omega
  rcases hj with rfl | rfl | rfl | rfl | rfl | rfl | rfl | rfl | rfl | rfl | rfl | rfl | rfl | rfl | rfl | rfl
  all_goals (subst hq; exact Eq.symm (by kernel_rfl))

theorem seen8_at (k r : Nat) (hk : k < 16) (hr : spotD 8 k = r) : (seenL 8 16 k)[r]? = some (.bool false) := by
  obtain ⟨q, hq⟩ : ∃ q : Nat, q = (spotD 8 k).toNat := ⟨_, rfl⟩
  obtain rfl : r = q := by omega
  clear hr
  have hj : k = 0 ∨ k = 1 ∨ k = 2 ∨ k = 3 ∨ k = 4 ∨ k = 5 ∨ k = 6 ∨ k = 7 ∨ k = 8 ∨ k = 9 ∨ k = 10 ∨ k = 11 ∨ k = 12 ∨ k = 13 ∨ k = 14 ∨ k = 15 := by omega
  rcases hj with rfl | rfl | rfl | rfl | rfl | rfl | rfl | rfl | rfl | rfl | rfl | rfl | rfl | rfl | rfl | rfl
  all_goals (subst hq; exact Eq.symm (by kernel_rfl))

set_option maxRecDepth 100000 in
set_option maxHeartbeats 4000000 in
theorem spots_walk (a : Option Addr) (n cap : Nat) (w : World) (hn : n ≤ 4096) (hb : Bytes w.heap.size a n w) :
    Calls Try.prog 3 #[.slice a n cap] w fun e w' => e = .returned (.bool true) ∧ Below w.heap.size w w' := by
  have HB := Lib.hid hb
  clear hb
  go_enter Try.func3, Try.ntmps3
  go_wp2_with fail
  refine (big_no a n cap w hn).mono ?_
  rintro e w' ⟨rfl, rfl⟩
  go_wp2_with fail
  refine (roll_any w.heap.size a n cap 3 w hn (Nat.le_refl _) HB.out).mono ?_
  rintro e w1 ⟨c, rfl, hc, hd1, hb1⟩
  have HD1 := Lib.hid hd1
  have HB1 := Lib.hid hb1
  clear hd1 hb1
  go_wp2_with fail
  refine (scheme_any HD1.out).mono ?_
  rintro e w2 ⟨v, ⟨s, t, rfl, hst⟩, rfl, hd2, hg2⟩
  have HB2 := Lib.hid (below_of_grown HB1.out hg2 HB1.out.size (by intro k hk; cases hk; omega))
  clear hd2 hg2 HD1 HB1
  have hz := HB2.out.size
  have HK := Lib.hid hst
  rcases hst.1 with rfl | rfl | rfl | rfl
  · clear hst
    have hmk : ∀ u : World, (Instr.makeSlice 30 (.int .i64 2) (.int .i64 2)).run Try.prog u = .ok (.slice (some ⟨u.heap.size, 0, none⟩) 2 2) (u.alloc (.cells #[.bool false, .bool false] 4)) := fun _ => by kernel_rfl
    go_wp2_with fail
    clear hmk
    go_loopw [5] (fun j wr => ∃ k : Nat, k ≤ 2 ∧ j = .int .i64 k ∧ wr.heap[w2.heap.size]? = some (.cells #[.int .i64 1, .int .i64 t] 25 (0, 0)) ∧ wr.heap[w2.heap.size + 1]? = some (.cells (seenL 1 2 k) 4 (0, 0)) ∧ Below w.heap.size w wr) (fun j _ => 2 - (intOf j).toNat)
    case atStart => exact ⟨0, Nat.zero_le _, rfl, blk_alloc (blk_new w2 _), by rw [show seenL 1 2 0 = #[.bool false, .bool false] by kernel_rfl]; exact blk_new2 w2 _ _, (HB2.out.alloc hz _).alloc (by simp; omega) _⟩
    case round =>
      obtain ⟨k, hk, rfl, hp, hsn, hbl⟩ := hrel
      have P := Lib.hid hp
      have SN := Lib.hid hsn
      have BL := Lib.hid hbl
      clear hp hsn hbl
      obtain ⟨p0, p1, -, -⟩ := blk_two P.out
      have y1 := blk_lt P.out
      have y2 := blk_lt SN.out
      by_cases hlt : k < 2
      · have hJ : okJ 1 t k := ⟨HK.out, by omega, by omega⟩
        obtain ⟨i0, i1, i2, -⟩ := spot_in hJ
        have hV : spotV 1 t k = spotD 1 k := if_pos hJ
        obtain ⟨r, hr⟩ : ∃ r : Nat, spotD 1 k = r := ⟨(spotD 1 k).toNat, by omega⟩
        have HA := Lib.hid (seen1_at k r hlt hr)
        have HS := Lib.hid (seen1_set k r hlt hr)
        rw [hr] at hV i0 i1 i2
        have hU : unspotV 1 t r = k := by rw [show unspotV 1 t r = unspotD 1 r from if_pos ⟨HK.out, by omega, by omega⟩]; exact i2
        have HV := Lib.hid hV
        have HU := Lib.hid hU
        clear hJ hr hV hU i2
        have hr2 : r < 2 := by omega
        go_wp2_with fail
        refine (iSpot _ _ _ _).mono ?_
        rintro e w3 ⟨rfl, hb3⟩
        rw [HV.out]
        have P3 := Lib.hid (blk_below P.out hb3 y1)
        have S3 := Lib.hid (blk_below SN.out hb3 y2)
        have B3 := Lib.hid (BL.out.trans (hb3.mono (by omega)))
        have z3 := hb3.size
        clear hb3 P SN BL p0 p1
        obtain ⟨p0, p1, -, -⟩ := blk_two P3.out
        have s0 : w3.cell? ⟨w2.heap.size + 1, r, none⟩ = some (.bool false) := by rw [blk_cell S3.out]; exact HA.out
        go_wp2_with fail
        refine (iUnspot _ _ _ _).mono ?_
        rintro e w4 ⟨rfl, hb4⟩
        rw [HU.out]
        have P4 := Lib.hid (blk_below P3.out hb4 (by omega))
        have S4 := Lib.hid (blk_below S3.out hb4 (by omega))
        have B4 := Lib.hid (B3.out.trans (hb4.mono (by omega)))
        clear hb4 P3 S3 B3 p0 p1 s0
        have s0 : w4.cell? ⟨w2.heap.size + 1, r, none⟩ = some (.bool false) := by rw [blk_cell S4.out]; exact HA.out
        have s1 : w4.frozen? ⟨w2.heap.size + 1, r, none⟩ = false := blk_free S4.out
        go_wp2
        go_roundw
        case rel => exact ⟨k + 1, by omega, by go_num, blk_other P4.out (by simp), by rw [← HS.out]; exact blk_set S4.out, B4.out.setCell (by simp; omega) _⟩
        case measure => simp [intOf]; omega
      · have hz2 : w.heap.size ≤ wr.heap.size := by omega
        go_wp2_with fail
        refine (drawSpotOf_any a n cap wr hn ((HB.out.grown (grown_below BL.out none) (by simp)).mono hz2)).mono ?_
        rintro e w5 ⟨v, ⟨s', t', x, rfl, hs', ht', hx⟩, rfl, hb5⟩
        have P5 := Lib.hid (blk_below P.out hb5 y1)
        have B5 := Lib.hid (BL.out.trans (hb5.mono hz2))
        have z5 := hb5.size
        clear hb5 P SN BL p0 p1
        have HN : Hid (spotV 1 t 2 = -1) := Lib.hid (if_neg (fun h => by have := h.2.2; omega))
        obtain ⟨p0, p1, -, -⟩ := blk_two (blk_alloc (o' := .cells #[.int .i64 s', .int .i64 t'] 25) P5.out)
        obtain ⟨r0, r1, -, -⟩ := blk_two (blk_new w5 (.cells #[.int .i64 s', .int .i64 t'] 25))
        have HB6 := Lib.hid (B5.out.alloc (by omega) (.cells #[.int .i64 s', .int .i64 t'] 25))
        have z6 : w5.heap.size + 1 ≤ (w5.alloc (.cells #[.int .i64 s', .int .i64 t'] 25)).heap.size := by simp
        have z7 : w2.heap.size + 1 ≤ (w5.alloc (.cells #[.int .i64 s', .int .i64 t'] 25)).heap.size := by simp; omega
        have hw : IntKind.i64.wrap 2 = 2 := by decide
        go_wp2_with fail
        go_region_held3 (fun w' => w'.cell? ⟨w2.heap.size, 0, none⟩ = some (.int .i64 1) ∧ w'.cell? ⟨w2.heap.size, 1, none⟩ = some (.int .i64 t) ∧ w'.cell? ⟨w5.heap.size, 0, none⟩ = some (.int .i64 s') ∧ w'.cell? ⟨w5.heap.size, 1, none⟩ = some (.int .i64 t') ∧ Below w.heap.size w w' ∧ w5.heap.size + 1 ≤ w'.heap.size ∧ w2.heap.size + 1 ≤ w'.heap.size)
          (first
            | exact ⟨p0, p1, r0, r1, HB6.out, z6, z7⟩
            | exact ⟨p0, p1, r0, r1, HB6.out.drew, z6, z7⟩
            | ((try go_split_ands)
               have zz := hbx.size
               exact ⟨(hbx.cell (by first | omega | (simp; done) | (simp; omega))).trans (by assumption), (hbx.cell (by first | omega | (simp; done) | (simp; omega))).trans (by assumption), (hbx.cell (by first | omega | (simp; done) | (simp; omega))).trans (by assumption), (hbx.cell (by first | omega | (simp; done) | (simp; omega))).trans (by assumption), Below.trans (by assumption) (hbx.mono (by first | omega | (simp; omega))), by first | omega | (simp at zz; omega), by first | omega | (simp at zz; omega)⟩))
          ((first
            | (go_at_call 9; (with_reducible refine (iSpot 1 t 2 _).mono ?_); rintro e wx ⟨rfl, hbx⟩; rw [HN.out])
            | (go_at_call 9; (with_reducible refine (iSpot s' t' x _).mono ?_); rintro e wx ⟨rfl, hbx⟩)
            | (go_at_call 12; (with_reducible refine (specSpot _ _ _ _).mono ?_); rintro e wx ⟨rfl, hbx⟩)
            | (go_at_call 10; (with_reducible refine (iUnspot _ _ _ _).mono ?_); rintro e wx ⟨rfl, hbx⟩)
            | (go_at_call 13; (with_reducible refine (specUnspot _ _ _ _).mono ?_); rintro e wx ⟨rfl, hbx⟩)))
        all_goals
          go_wp2
          go_ret
          (try go_split_ands)
          exact ⟨rfl, by assumption⟩
  · clear hst
    have hmk : ∀ u : World, (Instr.makeSlice 30 (.int .i64 4) (.int .i64 4)).run Try.prog u = .ok (.slice (some ⟨u.heap.size, 0, none⟩) 4 4) (u.alloc (.cells #[.bool false, .bool false, .bool false, .bool false] 4)) := fun _ => by kernel_rfl
    go_wp2_with fail
    clear hmk
    go_loopw [5] (fun j wr => ∃ k : Nat, k ≤ 4 ∧ j = .int .i64 k ∧ wr.heap[w2.heap.size]? = some (.cells #[.int .i64 2, .int .i64 t] 25 (0, 0)) ∧ wr.heap[w2.heap.size + 1]? = some (.cells (seenL 2 4 k) 4 (0, 0)) ∧ Below w.heap.size w wr) (fun j _ => 4 - (intOf j).toNat)
    case atStart => exact ⟨0, Nat.zero_le _, rfl, blk_alloc (blk_new w2 _), by rw [show seenL 2 4 0 = #[.bool false, .bool false, .bool false, .bool false] by kernel_rfl]; exact blk_new2 w2 _ _, (HB2.out.alloc hz _).alloc (by simp; omega) _⟩
    case round =>
      obtain ⟨k, hk, rfl, hp, hsn, hbl⟩ := hrel
      have P := Lib.hid hp
      have SN := Lib.hid hsn
      have BL := Lib.hid hbl
      clear hp hsn hbl
      obtain ⟨p0, p1, -, -⟩ := blk_two P.out
      have y1 := blk_lt P.out
      have y2 := blk_lt SN.out
      by_cases hlt : k < 4
      · have hJ : okJ 2 t k := ⟨HK.out, by omega, by omega⟩
        obtain ⟨i0, i1, i2, -⟩ := spot_in hJ
        have hV : spotV 2 t k = spotD 2 k := if_pos hJ
        obtain ⟨r, hr⟩ : ∃ r : Nat, spotD 2 k = r := ⟨(spotD 2 k).toNat, by omega⟩
        have HA := Lib.hid (seen2_at k r hlt hr)
        have HS := Lib.hid (seen2_set k r hlt hr)
        rw [hr] at hV i0 i1 i2
        have hU : unspotV 2 t r = k := by rw [show unspotV 2 t r = unspotD 2 r from if_pos ⟨HK.out, by omega, by omega⟩]; exact i2
        have HV := Lib.hid hV
        have HU := Lib.hid hU
        clear hJ hr hV hU i2
        have hr2 : r < 4 := by omega
        go_wp2_with fail
        refine (iSpot _ _ _ _).mono ?_
        rintro e w3 ⟨rfl, hb3⟩
        rw [HV.out]
        have P3 := Lib.hid (blk_below P.out hb3 y1)
        have S3 := Lib.hid (blk_below SN.out hb3 y2)
        have B3 := Lib.hid (BL.out.trans (hb3.mono (by omega)))
        have z3 := hb3.size
        clear hb3 P SN BL p0 p1
        obtain ⟨p0, p1, -, -⟩ := blk_two P3.out
        have s0 : w3.cell? ⟨w2.heap.size + 1, r, none⟩ = some (.bool false) := by rw [blk_cell S3.out]; exact HA.out
        go_wp2_with fail
        refine (iUnspot _ _ _ _).mono ?_
        rintro e w4 ⟨rfl, hb4⟩
        rw [HU.out]
        have P4 := Lib.hid (blk_below P3.out hb4 (by omega))
        have S4 := Lib.hid (blk_below S3.out hb4 (by omega))
        have B4 := Lib.hid (B3.out.trans (hb4.mono (by omega)))
        clear hb4 P3 S3 B3 p0 p1 s0
        have s0 : w4.cell? ⟨w2.heap.size + 1, r, none⟩ = some (.bool false) := by rw [blk_cell S4.out]; exact HA.out
        have s1 : w4.frozen? ⟨w2.heap.size + 1, r, none⟩ = false := blk_free S4.out
        go_wp2
        go_roundw
        case rel => exact ⟨k + 1, by omega, by go_num, blk_other P4.out (by simp), by rw [← HS.out]; exact blk_set S4.out, B4.out.setCell (by simp; omega) _⟩
        case measure => simp [intOf]; omega
      · have hz2 : w.heap.size ≤ wr.heap.size := by omega
        go_wp2_with fail
        refine (drawSpotOf_any a n cap wr hn ((HB.out.grown (grown_below BL.out none) (by simp)).mono hz2)).mono ?_
        rintro e w5 ⟨v, ⟨s', t', x, rfl, hs', ht', hx⟩, rfl, hb5⟩
        have P5 := Lib.hid (blk_below P.out hb5 y1)
        have B5 := Lib.hid (BL.out.trans (hb5.mono hz2))
        have z5 := hb5.size
        clear hb5 P SN BL p0 p1
        have HN : Hid (spotV 2 t 4 = -1) := Lib.hid (if_neg (fun h => by have := h.2.2; omega))
        obtain ⟨p0, p1, -, -⟩ := blk_two (blk_alloc (o' := .cells #[.int .i64 s', .int .i64 t'] 25) P5.out)
        obtain ⟨r0, r1, -, -⟩ := blk_two (blk_new w5 (.cells #[.int .i64 s', .int .i64 t'] 25))
        have HB6 := Lib.hid (B5.out.alloc (by omega) (.cells #[.int .i64 s', .int .i64 t'] 25))
        have z6 : w5.heap.size + 1 ≤ (w5.alloc (.cells #[.int .i64 s', .int .i64 t'] 25)).heap.size := by simp
        have z7 : w2.heap.size + 1 ≤ (w5.alloc (.cells #[.int .i64 s', .int .i64 t'] 25)).heap.size := by simp; omega
        have hw : IntKind.i64.wrap 4 = 4 := by decide
        go_wp2_with fail
        go_region_held3 (fun w' => w'.cell? ⟨w2.heap.size, 0, none⟩ = some (.int .i64 2) ∧ w'.cell? ⟨w2.heap.size, 1, none⟩ = some (.int .i64 t) ∧ w'.cell? ⟨w5.heap.size, 0, none⟩ = some (.int .i64 s') ∧ w'.cell? ⟨w5.heap.size, 1, none⟩ = some (.int .i64 t') ∧ Below w.heap.size w w' ∧ w5.heap.size + 1 ≤ w'.heap.size ∧ w2.heap.size + 1 ≤ w'.heap.size)
          (first
            | exact ⟨p0, p1, r0, r1, HB6.out, z6, z7⟩
            | exact ⟨p0, p1, r0, r1, HB6.out.drew, z6, z7⟩
            | ((try go_split_ands)
               have zz := hbx.size
               exact ⟨(hbx.cell (by first | omega | (simp; done) | (simp; omega))).trans (by assumption), (hbx.cell (by first | omega | (simp; done) | (simp; omega))).trans (by assumption), (hbx.cell (by first | omega | (simp; done) | (simp; omega))).trans (by assumption), (hbx.cell (by first | omega | (simp; done) | (simp; omega))).trans (by assumption), Below.trans (by assumption) (hbx.mono (by first | omega | (simp; omega))), by first | omega | (simp at zz; omega), by first | omega | (simp at zz; omega)⟩))
          ((first
            | (go_at_call 9; (with_reducible refine (iSpot 2 t 4 _).mono ?_); rintro e wx ⟨rfl, hbx⟩; rw [HN.out])
            | (go_at_call 9; (with_reducible refine (iSpot s' t' x _).mono ?_); rintro e wx ⟨rfl, hbx⟩)
            | (go_at_call 12; (with_reducible refine (specSpot _ _ _ _).mono ?_); rintro e wx ⟨rfl, hbx⟩)
            | (go_at_call 10; (with_reducible refine (iUnspot _ _ _ _).mono ?_); rintro e wx ⟨rfl, hbx⟩)
            | (go_at_call 13; (with_reducible refine (specUnspot _ _ _ _).mono ?_); rintro e wx ⟨rfl, hbx⟩)))
        all_goals
          go_wp2
          go_ret
          (try go_split_ands)
          exact ⟨rfl, by assumption⟩
  · clear hst
    have hmk : ∀ u : World, (Instr.makeSlice 30 (.int .i64 8) (.int .i64 8)).run Try.prog u = .ok (.slice (some ⟨u.heap.size, 0, none⟩) 8 8) (u.alloc (.cells #[.bool false, .bool false, .bool false, .bool false, .bool false, .bool false, .bool false, .bool false] 4)) := fun _ => by kernel_rfl
    go_wp2_with fail
    clear hmk
    go_loopw [5] (fun j wr => ∃ k : Nat, k ≤ 8 ∧ j = .int .i64 k ∧ wr.heap[w2.heap.size]? = some (.cells #[.int .i64 4, .int .i64 t] 25 (0, 0)) ∧ wr.heap[w2.heap.size + 1]? = some (.cells (seenL 4 8 k) 4 (0, 0)) ∧ Below w.heap.size w wr) (fun j _ => 8 - (intOf j).toNat)
    case atStart => exact ⟨0, Nat.zero_le _, rfl, blk_alloc (blk_new w2 _), by rw [show seenL 4 8 0 = #[.bool false, .bool false, .bool false, .bool false, .bool false, .bool false, .bool false, .bool false] by kernel_rfl]; exact blk_new2 w2 _ _, (HB2.out.alloc hz _).alloc (by simp; omega) _⟩
    case round =>
      obtain ⟨k, hk, rfl, hp, hsn, hbl⟩ := hrel
      have P := Lib.hid hp
      have SN := Lib.hid hsn
      have BL := Lib.hid hbl
      clear hp hsn hbl
      obtain ⟨p0, p1, -, -⟩ := blk_two P.out
      have y1 := blk_lt P.out
      have y2 := blk_lt SN.out
      by_cases hlt : k < 8
      · have hJ : okJ 4 t k := ⟨HK.out, by omega, by omega⟩
        obtain ⟨i0, i1, i2, -⟩ := spot_in hJ
        have hV : spotV 4 t k = spotD 4 k := if_pos hJ
        obtain ⟨r, hr⟩ : ∃ r : Nat, spotD 4 k = r := ⟨(spotD 4 k).toNat, by omega⟩
        have HA := Lib.hid (seen4_at k r hlt hr)
        have HS := Lib.hid (seen4_set k r hlt hr)
        rw [hr] at hV i0 i1 i2
        have hU : unspotV 4 t r = k := by rw [show unspotV 4 t r = unspotD 4 r from if_pos ⟨HK.out, by omega, by omega⟩]; exact i2
        have HV := Lib.hid hV
        have HU := Lib.hid hU
        clear hJ hr hV hU i2
        have hr2 : r < 8 := by omega
        go_wp2_with fail
        refine (iSpot _ _ _ _).mono ?_
        rintro e w3 ⟨rfl, hb3⟩
        rw [HV.out]
        have P3 := Lib.hid (blk_below P.out hb3 y1)
        have S3 := Lib.hid (blk_below SN.out hb3 y2)
        have B3 := Lib.hid (BL.out.trans (hb3.mono (by omega)))
        have z3 := hb3.size
        clear hb3 P SN BL p0 p1
        obtain ⟨p0, p1, -, -⟩ := blk_two P3.out
        have s0 : w3.cell? ⟨w2.heap.size + 1, r, none⟩ = some (.bool false) := by rw [blk_cell S3.out]; exact HA.out
        go_wp2_with fail
        refine (iUnspot _ _ _ _).mono ?_
        rintro e w4 ⟨rfl, hb4⟩
        rw [HU.out]
        have P4 := Lib.hid (blk_below P3.out hb4 (by omega))
        have S4 := Lib.hid (blk_below S3.out hb4 (by omega))
        have B4 := Lib.hid (B3.out.trans (hb4.mono (by omega)))
        clear hb4 P3 S3 B3 p0 p1 s0
        have s0 : w4.cell? ⟨w2.heap.size + 1, r, none⟩ = some (.bool false) := by rw [blk_cell S4.out]; exact HA.out
        have s1 : w4.frozen? ⟨w2.heap.size + 1, r, none⟩ = false := blk_free S4.out
        go_wp2
        go_roundw
        case rel => exact ⟨k + 1, by omega, by go_num, blk_other P4.out (by simp), by rw [← HS.out]; exact blk_set S4.out, B4.out.setCell (by simp; omega) _⟩
        case measure => simp [intOf]; omega
      · have hz2 : w.heap.size ≤ wr.heap.size := by omega
        go_wp2_with fail
        refine (drawSpotOf_any a n cap wr hn ((HB.out.grown (grown_below BL.out none) (by simp)).mono hz2)).mono ?_
        rintro e w5 ⟨v, ⟨s', t', x, rfl, hs', ht', hx⟩, rfl, hb5⟩
        have P5 := Lib.hid (blk_below P.out hb5 y1)
        have B5 := Lib.hid (BL.out.trans (hb5.mono hz2))
        have z5 := hb5.size
        clear hb5 P SN BL p0 p1
        have HN : Hid (spotV 4 t 8 = -1) := Lib.hid (if_neg (fun h => by have := h.2.2; omega))
        obtain ⟨p0, p1, -, -⟩ := blk_two (blk_alloc (o' := .cells #[.int .i64 s', .int .i64 t'] 25) P5.out)
        obtain ⟨r0, r1, -, -⟩ := blk_two (blk_new w5 (.cells #[.int .i64 s', .int .i64 t'] 25))
        have HB6 := Lib.hid (B5.out.alloc (by omega) (.cells #[.int .i64 s', .int .i64 t'] 25))
        have z6 : w5.heap.size + 1 ≤ (w5.alloc (.cells #[.int .i64 s', .int .i64 t'] 25)).heap.size := by simp
        have z7 : w2.heap.size + 1 ≤ (w5.alloc (.cells #[.int .i64 s', .int .i64 t'] 25)).heap.size := by simp; omega
        have hw : IntKind.i64.wrap 8 = 8 := by decide
        go_wp2_with fail
        go_region_held3 (fun w' => w'.cell? ⟨w2.heap.size, 0, none⟩ = some (.int .i64 4) ∧ w'.cell? ⟨w2.heap.size, 1, none⟩ = some (.int .i64 t) ∧ w'.cell? ⟨w5.heap.size, 0, none⟩ = some (.int .i64 s') ∧ w'.cell? ⟨w5.heap.size, 1, none⟩ = some (.int .i64 t') ∧ Below w.heap.size w w' ∧ w5.heap.size + 1 ≤ w'.heap.size ∧ w2.heap.size + 1 ≤ w'.heap.size)
          (first
            | exact ⟨p0, p1, r0, r1, HB6.out, z6, z7⟩
            | exact ⟨p0, p1, r0, r1, HB6.out.drew, z6, z7⟩
            | ((try go_split_ands)
               have zz := hbx.size
               exact ⟨(hbx.cell (by first | omega | (simp; done) | (simp; omega))).trans (by assumption), (hbx.cell (by first | omega | (simp; done) | (simp; omega))).trans (by assumption), (hbx.cell (by first | omega | (simp; done) | (simp; omega))).trans (by assumption), (hbx.cell (by first | omega | (simp; done) | (simp; omega))).trans (by assumption), Below.trans (by assumption) (hbx.mono (by first | omega | (simp; omega))), by first | omega | (simp at zz; omega), by first | omega | (simp at zz; omega)⟩))
          ((first
            | (go_at_call 9; (with_reducible refine (iSpot 4 t 8 _).mono ?_); rintro e wx ⟨rfl, hbx⟩; rw [HN.out])
            | (go_at_call 9; (with_reducible refine (iSpot s' t' x _).mono ?_); rintro e wx ⟨rfl, hbx⟩)
            | (go_at_call 12; (with_reducible refine (specSpot _ _ _ _).mono ?_); rintro e wx ⟨rfl, hbx⟩)
            | (go_at_call 10; (with_reducible refine (iUnspot _ _ _ _).mono ?_); rintro e wx ⟨rfl, hbx⟩)
            | (go_at_call 13; (with_reducible refine (specUnspot _ _ _ _).mono ?_); rintro e wx ⟨rfl, hbx⟩)))
        all_goals
          go_wp2
          go_ret
          (try go_split_ands)
          exact ⟨rfl, by assumption⟩
  · clear hst
    have hmk : ∀ u : World, (Instr.makeSlice 30 (.int .i64 16) (.int .i64 16)).run Try.prog u = .ok (.slice (some ⟨u.heap.size, 0, none⟩) 16 16) (u.alloc (.cells #[.bool false, .bool false, .bool false, .bool false, .bool false, .bool false, .bool false, .bool false, .bool false, .bool false, .bool false, .bool false, .bool false, .bool false, .bool false, .bool false] 4)) := fun _ => by kernel_rfl
    go_wp2_with fail
    clear hmk
    go_loopw [5] (fun j wr => ∃ k : Nat, k ≤ 16 ∧ j = .int .i64 k ∧ wr.heap[w2.heap.size]? = some (.cells #[.int .i64 8, .int .i64 t] 25 (0, 0)) ∧ wr.heap[w2.heap.size + 1]? = some (.cells (seenL 8 16 k) 4 (0, 0)) ∧ Below w.heap.size w wr) (fun j _ => 16 - (intOf j).toNat)
    case atStart => exact ⟨0, Nat.zero_le _, rfl, blk_alloc (blk_new w2 _), by rw [show seenL 8 16 0 = #[.bool false, .bool false, .bool false, .bool false, .bool false, .bool false, .bool false, .bool false, .bool false, .bool false, .bool false, .bool false, .bool false, .bool false, .bool false, .bool false] by kernel_rfl]; exact blk_new2 w2 _ _, (HB2.out.alloc hz _).alloc (by simp; omega) _⟩
    case round =>
      obtain ⟨k, hk, rfl, hp, hsn, hbl⟩ := hrel
      have P := Lib.hid hp
      have SN := Lib.hid hsn
      have BL := Lib.hid hbl
      clear hp hsn hbl
      obtain ⟨p0, p1, -, -⟩ := blk_two P.out
      have y1 := blk_lt P.out
      have y2 := blk_lt SN.out
      by_cases hlt : k < 16
      · have hJ : okJ 8 t k := ⟨HK.out, by omega, by omega⟩
        obtain ⟨i0, i1, i2, -⟩ := spot_in hJ
        have hV : spotV 8 t k = spotD 8 k := if_pos hJ
        obtain ⟨r, hr⟩ : ∃ r : Nat, spotD 8 k = r := ⟨(spotD 8 k).toNat, by omega⟩
        have HA := Lib.hid (seen8_at k r hlt hr)
        have HS := Lib.hid (seen8_set k r hlt hr)
        rw [hr] at hV i0 i1 i2
        have hU : unspotV 8 t r = k := by rw [show unspotV 8 t r = unspotD 8 r from if_pos ⟨HK.out, by omega, by omega⟩]; exact i2
        have HV := Lib.hid hV
        have HU := Lib.hid hU
        clear hJ hr hV hU i2
        have hr2 : r < 16 := by omega
        go_wp2_with fail
        refine (iSpot _ _ _ _).mono ?_
        rintro e w3 ⟨rfl, hb3⟩
        rw [HV.out]
        have P3 := Lib.hid (blk_below P.out hb3 y1)
        have S3 := Lib.hid (blk_below SN.out hb3 y2)
        have B3 := Lib.hid (BL.out.trans (hb3.mono (by omega)))
        have z3 := hb3.size
        clear hb3 P SN BL p0 p1
        obtain ⟨p0, p1, -, -⟩ := blk_two P3.out
        have s0 : w3.cell? ⟨w2.heap.size + 1, r, none⟩ = some (.bool false) := by rw [blk_cell S3.out]; exact HA.out
        go_wp2_with fail
        refine (iUnspot _ _ _ _).mono ?_
        rintro e w4 ⟨rfl, hb4⟩
        rw [HU.out]
        have P4 := Lib.hid (blk_below P3.out hb4 (by omega))
        have S4 := Lib.hid (blk_below S3.out hb4 (by omega))
        have B4 := Lib.hid (B3.out.trans (hb4.mono (by omega)))
        clear hb4 P3 S3 B3 p0 p1 s0
        have s0 : w4.cell? ⟨w2.heap.size + 1, r, none⟩ = some (.bool false) := by rw [blk_cell S4.out]; exact HA.out
        have s1 : w4.frozen? ⟨w2.heap.size + 1, r, none⟩ = false := blk_free S4.out
        go_wp2
        go_roundw
        case rel => exact ⟨k + 1, by omega, by go_num, blk_other P4.out (by simp), by rw [← HS.out]; exact blk_set S4.out, B4.out.setCell (by simp; omega) _⟩
        case measure => simp [intOf]; omega
      · have hz2 : w.heap.size ≤ wr.heap.size := by omega
        go_wp2_with fail
        refine (drawSpotOf_any a n cap wr hn ((HB.out.grown (grown_below BL.out none) (by simp)).mono hz2)).mono ?_
        rintro e w5 ⟨v, ⟨s', t', x, rfl, hs', ht', hx⟩, rfl, hb5⟩
        have P5 := Lib.hid (blk_below P.out hb5 y1)
        have B5 := Lib.hid (BL.out.trans (hb5.mono hz2))
        have z5 := hb5.size
        clear hb5 P SN BL p0 p1
        have HN : Hid (spotV 8 t 16 = -1) := Lib.hid (if_neg (fun h => by have := h.2.2; omega))
        obtain ⟨p0, p1, -, -⟩ := blk_two (blk_alloc (o' := .cells #[.int .i64 s', .int .i64 t'] 25) P5.out)
        obtain ⟨r0, r1, -, -⟩ := blk_two (blk_new w5 (.cells #[.int .i64 s', .int .i64 t'] 25))
        have HB6 := Lib.hid (B5.out.alloc (by omega) (.cells #[.int .i64 s', .int .i64 t'] 25))
        have z6 : w5.heap.size + 1 ≤ (w5.alloc (.cells #[.int .i64 s', .int .i64 t'] 25)).heap.size := by simp
        have z7 : w2.heap.size + 1 ≤ (w5.alloc (.cells #[.int .i64 s', .int .i64 t'] 25)).heap.size := by simp; omega
        have hw : IntKind.i64.wrap 16 = 16 := by decide
        go_wp2_with fail
        go_region_held3 (fun w' => w'.cell? ⟨w2.heap.size, 0, none⟩ = some (.int .i64 8) ∧ w'.cell? ⟨w2.heap.size, 1, none⟩ = some (.int .i64 t) ∧ w'.cell? ⟨w5.heap.size, 0, none⟩ = some (.int .i64 s') ∧ w'.cell? ⟨w5.heap.size, 1, none⟩ = some (.int .i64 t') ∧ Below w.heap.size w w' ∧ w5.heap.size + 1 ≤ w'.heap.size ∧ w2.heap.size + 1 ≤ w'.heap.size)
          (first
            | exact ⟨p0, p1, r0, r1, HB6.out, z6, z7⟩
            | exact ⟨p0, p1, r0, r1, HB6.out.drew, z6, z7⟩
            | ((try go_split_ands)
               have zz := hbx.size
               exact ⟨(hbx.cell (by first | omega | (simp; done) | (simp; omega))).trans (by assumption), (hbx.cell (by first | omega | (simp; done) | (simp; omega))).trans (by assumption), (hbx.cell (by first | omega | (simp; done) | (simp; omega))).trans (by assumption), (hbx.cell (by first | omega | (simp; done) | (simp; omega))).trans (by assumption), Below.trans (by assumption) (hbx.mono (by first | omega | (simp; omega))), by first | omega | (simp at zz; omega), by first | omega | (simp at zz; omega)⟩))
          ((first
            | (go_at_call 9; (with_reducible refine (iSpot 8 t 16 _).mono ?_); rintro e wx ⟨rfl, hbx⟩; rw [HN.out])
            | (go_at_call 9; (with_reducible refine (iSpot s' t' x _).mono ?_); rintro e wx ⟨rfl, hbx⟩)
            | (go_at_call 12; (with_reducible refine (specSpot _ _ _ _).mono ?_); rintro e wx ⟨rfl, hbx⟩)
            | (go_at_call 10; (with_reducible refine (iUnspot _ _ _ _).mono ?_); rintro e wx ⟨rfl, hbx⟩)
            | (go_at_call 13; (with_reducible refine (specUnspot _ _ _ _).mono ?_); rintro e wx ⟨rfl, hbx⟩)))
        all_goals
          go_wp2
          go_ret
          (try go_split_ands)
          exact ⟨rfl, by assumption⟩

theorem spots_large (a : Option Addr) (n cap : Nat) (w : World) (hn : 4096 < n) :
    Calls Try.prog 3 #[.slice a n cap] w fun e w' => e = .returned (.bool true) ∧ Below w.heap.size w w' := by
  go_enter Try.func3, Try.ntmps3
  go_wp2_with fail
  refine (big_yes a n cap w hn).mono ?_
  rintro e w' ⟨rfl, rfl⟩
  go_wp2
  go_ret
  exact ⟨rfl, Below.refl _ _⟩

theorem spots_any (a : Option Addr) (n cap : Nat) (w : World) (hb : Bytes w.heap.size a n w) :
    Calls Try.prog 3 #[.slice a n cap] w fun e w' => e = .returned (.bool true) ∧ Below w.heap.size w w' := by
  by_cases hn : n ≤ 4096
  · exact spots_walk a n cap w hn hb
  · exact spots_large a n cap w (by omega)

end Go.Proofs.Ythnaihnciomjgaa
