/- Contracts of the draws of chapter 4: a plan and a ticket. -/
import Derived.Test.YtgcnfnmdemeaoaaD2b
import Derived.Deep.RegionHeld3
import Derived.Deep.DeepCutAuto
namespace Go.Proofs.Ytgcnfnmdemeaoaa
open Go.RowKit

set_option maxHeartbeats 1000000 in
theorem l4Draw_any {B c : Nat} {a : Option Addr} {n cap : Nat} {w : World} (hd : Drawer 98 .i64 B c a n cap w) :
    Calls Try.prog 55 #[.pointer (some ⟨c, 0, none⟩)] w (Drawn 98 .i64 B c a n cap AnyInt w) := by
  have HD := Lib.hid hd
  clear hd
  go_enter Try.func55, Try.ntmps55
  go_wp2_with fail
  refine (once_any HD.out _).mono ?_
  rintro e w1 ⟨v, ⟨z, rfl⟩, rfl, hd1, hg1⟩
  clear HD
  have HD1 := Lib.hid hd1
  have HG1 := Lib.hid hg1
  clear hd1 hg1
  cases z
  · go_wp2_with fail
    refine (below_int HD1.out _).mono ?_
    rintro e w2 ⟨v, ⟨x, rfl, hx⟩, rfl, hd2, hg2⟩
    go_wp2
    go_ret
    exact ⟨_, ⟨_, rfl, hx⟩, rfl, hd2, grown_trans HG1.out hg2⟩
  · go_wp2_with fail
    refine (num_any HD1.out _ (by decide)).mono ?_
    rintro e w2 ⟨v, ⟨x, rfl, hx⟩, rfl, hd2, hg2⟩
    go_wp2
    go_ret
    exact ⟨_, ⟨_, rfl, hx⟩, rfl, hd2, grown_trans HG1.out hg2⟩

set_option maxHeartbeats 4000000 in
theorem drawCycleOf_any (a : Option Addr) (n cap : Nat) (w : World) (hn : n ≤ 4096) (hb : Bytes w.heap.size a n w) :
    Calls Try.prog 16 #[.slice a n cap] w (Gives (fun v => ∃ s t x : Int, v = .tuple #[.agg #[.int .i64 s, .int .i64 t], .int .i64 x] ∧ W64 s ∧ W64 t ∧ W64 x) w) := by
  have HB := Lib.hid (hb.grown (World.grownBy_alloc w (.cells #[.int .i64 0, .int .i64 0] 25) none) (by simp))
  clear hb
  go_enter Try.func16, Try.ntmps16
  go_wp2_with fail
  refine (new_any w.heap.size a n cap _ hn (by simp) HB.out).mono ?_
  rintro e w1 ⟨c, rfl, hc, hd1, hb1⟩
  simp at hc
  have hlt1 := hd1.lt
  have z1 := hb1.size
  simp at z1
  have R1 := Lib.hid (blk_below (blk_new w _) hb1 (by simp))
  have HD1 := Lib.hid hd1
  have HB1 := Lib.hid (grown_trans (World.grownBy_alloc w _ (some c)) (grown_below hb1 _))
  clear hd1 hb1 HB
  go_wp2_with fail
  refine (drawPlan_any HD1.out).mono ?_
  rintro e w2 ⟨v, ⟨s, t, rfl, hst⟩, rfl, hd2, hg2⟩
  have hs64 : W64 s := okP_w64 hst
  have ht64 : W64 t := okP_w64' hst
  have z2 := hg2.size
  have R2 := Lib.hid (blk_grown R1.out hg2 (by simp; omega))
  have HD2 := Lib.hid hd2
  have HG2 := Lib.hid (grown_trans HB1.out hg2)
  clear hd2 hg2 HD1 HB1 R1 hst
  go_wp2_with fail
  refine (once_any (HD2.out.grown (World.grownBy_alloc w2 _ none) (by simp)) _).mono ?_
  rintro e w3 ⟨v, ⟨z, rfl⟩, rfl, hd3, hg3⟩
  have z3 := hg3.size
  simp at z3
  have P3 := Lib.hid (blk_grown (blk_new w2 _) hg3 (by simp; omega))
  have R3 := Lib.hid (blk_grown (blk_alloc R2.out) hg3 (by simp; omega))
  have HD3 := Lib.hid hd3
  have HG3 := Lib.hid (grown_trans (grown_alloc HG2.out _) hg3)
  clear hd3 hg3 HD2 HG2 R2
  go_upto_if 11 with fail
  go_cut [11] (fun s11 wx => PlanHeld 25 w2.heap.size (fun w' => w'.heap[w.heap.size]? = some (.cells #[.int .i64 0, .int .i64 0] 25 (0, 0)) ∧ Kept 98 .i64 w.heap.size c a n cap w w') wx)
  case first =>
    cases z
    · go_wp2_with fail
      go_meet
      exact ⟨s, t, hs64, ht64, P3.out, R3.out, HD3.out, HG3.out⟩
    · go_wp2_with fail
      refine (drawAny_any HD3.out).mono ?_
      rintro e w4 ⟨v, ⟨s', t', rfl, hs', ht'⟩, rfl, hd4, hg4⟩
      have P4 := Lib.hid (blk_grown P3.out hg4 (by simp; omega))
      have R4 := Lib.hid (blk_grown R3.out hg4 (by simp; omega))
      have HD4 := Lib.hid hd4
      have HG4 := Lib.hid (grown_trans HG3.out hg4)
      clear hd4 hg4 HD3 HG3 P3 R3
      obtain ⟨q0, q1, f0, f1⟩ := blk_two P4.out
      go_wp2_with fail
      go_meet
      exact ⟨s', t', hs', ht', blk_set2 P4.out, blk_other (blk_other R4.out (by simp; omega)) (by simp; omega), HD4.out.set2 (by omega) (by omega), grown_setNew2 HG4.out (by omega)⟩
  case rest =>
    obtain ⟨s', t', hs', ht', P4, R4, hk4⟩ := hcut
    have P4 := Lib.hid P4
    have R4 := Lib.hid R4
    have K4 := Lib.hid hk4
    have zP := blk_lt P4.out
    clear hk4
    obtain ⟨p0, p1, -, -⟩ := blk_two P4.out
    obtain ⟨r0, r1, e0, e1⟩ := blk_two R4.out
    have z5 := K4.out.grown.size
    have hPR : w2.heap.size ≠ w.heap.size := by omega
    have hPc : w2.heap.size ≠ c := by omega
    have hRc : ¬ w.heap.size = c := by omega
    have hRl : w.heap.size < wc.heap.size := by omega
    have hPl : w2.heap.size + 1 ≤ wc.heap.size := by omega
    have hsd : wc.drew.heap.size = wc.heap.size := rfl
    go_wp2_with fail
    go_region_held3 (fun w' => w'.cell? ⟨w2.heap.size, 0, none⟩ = some (.int .i64 s') ∧ w'.cell? ⟨w2.heap.size, 1, none⟩ = some (.int .i64 t') ∧ w2.heap.size + 1 ≤ w'.heap.size ∧ Kept 98 .i64 w.heap.size c a n cap w w')
        (first
          | exact ⟨p0, p1, hPl, K4.out⟩
          | exact ⟨p0, p1, hPl, K4.out.drew⟩
          | ((try go_split_ands)
             have zz := hg1.size
             refine ⟨((gcell hg1).1 _ _ (by omega) hPc).trans (by assumption), ((gcell hg1).1 _ _ (by omega) hPc).trans (by assumption), by omega, Kept.call (by assumption) hd1 hg1⟩)
          | ((try go_split_ands)
             exact ⟨(cell_other hPR).trans ((cell_other hPR).trans (by assumption)), (cell_other hPR).trans ((cell_other hPR).trans (by assumption)), by simpa using (by assumption), Kept.set2 (Nat.le_refl _) (by assumption) (Nat.le_refl _) hRc⟩))
        ((first
          | (go_at_call 55; (try go_split_ands); refine (l4Draw_any (Kept.drawer (by assumption))).mono ?_; rintro e w1 ⟨v, ⟨x, rfl, hx⟩, rfl, hd1, hg1⟩; obtain ⟨hcx, hfx⟩ := gcell hg1)))
    all_goals
        go_wp2
        (try go_split_ands)
        have q0 : w1.cell? ⟨w.heap.size, 0, none⟩ = some (.int .i64 0) := (hcx _ 0 (by simpa using hRl) hRc).trans r0
        have q1 : w1.cell? ⟨w.heap.size, 1, none⟩ = some (.int .i64 0) := (hcx _ 1 (by simpa using hRl) hRc).trans r1
        refine bodyPost_ret ?ret rfl ⟨_, ⟨s', t', x, rfl, hs', ht', hx⟩, rfl, below_of_grown (Below.refl _ w) (Kept.grown (by assumption)) (Nat.le_refl _) (by intro k hk; cases hk; omega)⟩
        case ret => simp [results, Try.results16, go_sem, q0, q1]

end Go.Proofs.Ytgcnfnmdemeaoaa
