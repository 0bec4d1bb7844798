/- Contracts of the draws of chapter 2: a plan and a word. -/
import Derived.Test.YtakbkdeeablpjaaD2b
namespace Go.Proofs.Ytakbkdeeablpjaa
open Go.RowKit

set_option maxHeartbeats 4000000 in
theorem drawEntryOf_any (a : Option Addr) (n cap : Nat) (w : World) (hn : n ≤ 4096) (hb : Bytes w.heap.size a n w) :
    Calls Try.prog 11 #[.slice a n cap] w (Gives (fun v => ∃ s t x : Int, v = .tuple #[.agg #[.int .i64 s, .int .i64 t], .int .i64 x] ∧ W64 s ∧ W64 t ∧ W64 x) w) := by
  have HB := Lib.hid (hb.grown (World.grownBy_alloc w (.cells #[.int .i64 0, .int .i64 0] 25) none) (by simp))
  clear hb
  go_enter Try.func11, Try.ntmps11
  go_wp2_with fail
  refine (new_any w.heap.size a n cap _ hn (by simp) HB.out).mono ?_
  rintro e w1 ⟨c, rfl, hc, hd1, hb1⟩
  simp at hc
  have hlt1 := hd1.lt
  have z1 := hb1.size
  simp at z1
  have R1 := Lib.hid (blk_below (blk_new w _) hb1 (by simp))
  have HD1 := Lib.hid hd1
  have HB1 := Lib.hid (grown_trans (World.grownBy_alloc w _ (some c)) (grown_below hb1 _))
  clear hd1 hb1 HB
  go_wp2_with fail
  refine (drawPlan_any HD1.out).mono ?_
  rintro e w2 ⟨v, ⟨s, t, rfl, hst⟩, rfl, hd2, hg2⟩
  have hs64 : W64 s := okP_w64 hst
  have ht64 : W64 t := okP_w64' hst
  have z2 := hg2.size
  have R2 := Lib.hid (blk_grown R1.out hg2 (by simp; omega))
  have HD2 := Lib.hid hd2
  have HG2 := Lib.hid (grown_trans HB1.out hg2)
  clear hd2 hg2 HD1 HB1 R1 hst
  go_wp2_with fail
  refine (once_any (HD2.out.grown (World.grownBy_alloc w2 _ none) (by simp)) _).mono ?_
  rintro e w3 ⟨v, ⟨z, rfl⟩, rfl, hd3, hg3⟩
  have z3 := hg3.size
  simp at z3
  have P3 := Lib.hid (blk_grown (blk_new w2 _) hg3 (by simp; omega))
  have R3 := Lib.hid (blk_grown (blk_alloc R2.out) hg3 (by simp; omega))
  have HD3 := Lib.hid hd3
  have HG3 := Lib.hid (grown_trans (grown_alloc HG2.out _) hg3)
  clear hd3 hg3 HD2 HG2 R2
  go_upto_if 11 with fail
  go_cut [11] (fun s11 wx => PlanHeld 25 w2.heap.size (fun w' => w'.heap[w.heap.size]? = some (.cells #[.int .i64 0, .int .i64 0] 25 (0, 0)) ∧ Kept 63 .i64 w.heap.size c a n cap w w') wx)
  case first =>
    cases z
    · go_wp2_with fail
      go_meet
      exact ⟨s, t, hs64, ht64, P3.out, R3.out, HD3.out, HG3.out⟩
    · go_wp2_with fail
      refine (drawAny_any HD3.out).mono ?_
      rintro e w4 ⟨v, ⟨s', t', rfl, hs', ht'⟩, rfl, hd4, hg4⟩
      have P4 := Lib.hid (blk_grown P3.out hg4 (by simp; omega))
      have R4 := Lib.hid (blk_grown R3.out hg4 (by simp; omega))
      have HD4 := Lib.hid hd4
      have HG4 := Lib.hid (grown_trans HG3.out hg4)
      clear hd4 hg4 HD3 HG3 P3 R3
      obtain ⟨q0, q1, f0, f1⟩ := blk_two P4.out
      go_wp2_with fail
      go_meet
      exact ⟨s', t', hs', ht', blk_set2 P4.out, blk_other (blk_other R4.out (by simp; omega)) (by simp; omega), HD4.out.set2 (by omega) (by omega), grown_setNew2 HG4.out (by omega)⟩
  case rest =>
    obtain ⟨s', t', hs', ht', P4, R4, hk4⟩ := hcut
    have P4 := Lib.hid P4
    have R4 := Lib.hid R4
    have K4 := Lib.hid hk4
    have zP := blk_lt P4.out
    clear hk4
    go_wp2_with fail
    refine (once_any K4.out.drawer _).mono ?_
    rintro e w5 ⟨v, ⟨z, rfl⟩, rfl, hd5, hg5⟩
    have z5 := hg5.size
    have P5 := Lib.hid (blk_grown P4.out hg5 (by simp; omega))
    have R5 := Lib.hid (blk_grown R4.out hg5 (by simp; omega))
    have K5 := Lib.hid (K4.out.call hd5 hg5)
    clear hd5 hg5 K4 P4 R4
    obtain ⟨p0, p1, -, -⟩ := blk_two P5.out
    obtain ⟨r0, r1, e0, e1⟩ := blk_two R5.out
    have hPl : w2.heap.size + 1 ≤ w5.heap.size := by omega
    have hPR : w2.heap.size ≠ w.heap.size := by omega
    have hPc : w2.heap.size ≠ c := by omega
    have hRc : ¬ w.heap.size = c := by omega
    have hRl : w.heap.size < w5.heap.size := by omega
    have hsd : w5.drew.heap.size = w5.heap.size := rfl
    cases z
    · go_wp2_with fail
      go_region_held3 (fun w' => w'.cell? ⟨w2.heap.size, 0, none⟩ = some (.int .i64 s') ∧ w'.cell? ⟨w2.heap.size, 1, none⟩ = some (.int .i64 t') ∧ w2.heap.size + 1 ≤ w'.heap.size ∧ Kept 63 .i64 w.heap.size c a n cap w w')
        (first
          | exact ⟨p0, p1, hPl, K5.out⟩
          | exact ⟨p0, p1, hPl, K5.out.drew⟩
          | ((try go_split_ands)
             have zz := hg1.size
             refine ⟨((gcell hg1).1 _ _ (by omega) hPc).trans (by assumption), ((gcell hg1).1 _ _ (by omega) hPc).trans (by assumption), by omega, Kept.call (by assumption) hd1 hg1⟩)
          | ((try go_split_ands)
             exact ⟨(cell_other hPR).trans ((cell_other hPR).trans (by assumption)), (cell_other hPR).trans ((cell_other hPR).trans (by assumption)), by simpa using (by assumption), Kept.set2 (Nat.le_refl _) (by assumption) (Nat.le_refl _) hRc⟩))
        ((first
          | (go_at_call 30; (try go_split_ands); refine (below_int (Kept.drawer (by assumption)) _).mono ?_; rintro e w1 ⟨v, ⟨x, rfl, hx⟩, rfl, hd1, hg1⟩; obtain ⟨hcx, hfx⟩ := gcell hg1)))
      all_goals
        go_wp2
        (try go_split_ands)
        have q0 : w1.cell? ⟨w.heap.size, 0, none⟩ = some (.int .i64 0) := (hcx _ 0 (by simpa using hRl) hRc).trans r0
        have q1 : w1.cell? ⟨w.heap.size, 1, none⟩ = some (.int .i64 0) := (hcx _ 1 (by simpa using hRl) hRc).trans r1
        refine bodyPost_ret ?ret rfl ⟨_, ⟨s', t', x, rfl, hs', ht', hx⟩, rfl, below_of_grown (Below.refl _ w) (Kept.grown (by assumption)) (Nat.le_refl _) (by intro k hk; cases hk; omega)⟩
        case ret => simp [results, Try.results11, go_sem, q0, q1]
    · go_wp2_with fail
      refine wp_region_noPanic ?_
      refine wp_region_held_drew (S := (fun w' => w'.cell? ⟨w2.heap.size, 0, none⟩ = some (.int .i64 s') ∧ w'.cell? ⟨w2.heap.size, 1, none⟩ = some (.int .i64 t') ∧ w2.heap.size + 1 ≤ w'.heap.size ∧ Kept 63 .i64 w.heap.size c a n cap w w')) (by kernel_rfl) ?_ (fun hHeld => ?_)
      · (try dsimp only); (first | exact ⟨p0, p1, hPl, K5.out⟩ | exact ⟨p0, p1, hPl, K5.out.drew⟩ | ((try go_split_ands); have zz := hg1.size; refine ⟨((gcell hg1).1 _ _ (by omega) hPc).trans (by assumption), ((gcell hg1).1 _ _ (by omega) hPc).trans (by assumption), by omega, Kept.call (by assumption) hd1 hg1⟩) | ((try go_split_ands); exact ⟨cell_alloc (by assumption), cell_alloc (by assumption), size_alloc_le (by assumption), Kept.alloc (by assumption) _⟩) | ((try go_split_ands); exact ⟨(cell_other hPR).trans ((cell_other hPR).trans (by assumption)), (cell_other hPR).trans ((cell_other hPR).trans (by assumption)), by simpa using (by assumption), Kept.set2 (Nat.le_refl _) (by assumption) (Nat.le_refl _) hRc⟩) | ((try go_split_ands); exact ⟨cell_alloc ((cell_other hPR).trans ((cell_other hPR).trans (by assumption))), cell_alloc ((cell_other hPR).trans ((cell_other hPR).trans (by assumption))), size_alloc_le (size_set2_le (by assumption)), Kept.alloc (Kept.set2 (Nat.le_refl _) (by assumption) (Nat.le_refl _) hRc) _⟩))
      refine wpAnyH_take (i := 0) (v := ?_) rfl (by kernel_rfl) (by kernel_rfl) (by kernel_rfl) (fun _ _ _ h => h) (Or.inl ⟨by rfl, ?_⟩) (by assumption) ?_
      rotate_left
      · intro w hSw; (try dsimp only at hSw); go_simp; (try (with_reducible rfl))
      try simp only [Act.put, List.setIfInBounds_toArray, List.set_cons_zero, List.set_cons_succ]
      refine wpAnyH_take (i := 1) (v := ?_) rfl (by kernel_rfl) (by kernel_rfl) (by kernel_rfl) (fun _ _ _ h => h) (Or.inl ⟨by rfl, ?_⟩) (by assumption) ?_
      rotate_left
      · intro w hSw; (try dsimp only at hSw); go_simp; (try (with_reducible rfl))
      try simp only [Act.put, List.setIfInBounds_toArray, List.set_cons_zero, List.set_cons_succ]
      refine wpAnyH_take (i := 3) (v := ?_) rfl (by kernel_rfl) (by kernel_rfl) (by kernel_rfl) (fun _ _ _ h => h) (Or.inl ⟨by rfl, ?_⟩) (by assumption) ?_
      rotate_left
      · intro w hSw; (try dsimp only at hSw); go_simp; (try (with_reducible rfl))
      try simp only [Act.put, List.setIfInBounds_toArray, List.set_cons_zero, List.set_cons_succ]
      refine wpAnyH_take (i := 4) (v := ?_) rfl (by kernel_rfl) (by kernel_rfl) (by kernel_rfl) (fun _ _ _ h => h) (Or.inl ⟨by rfl, ?_⟩) (by assumption) ?_
      rotate_left
      · intro w hSw; (try dsimp only at hSw); go_simp; (try (with_reducible rfl))
      try simp only [Act.put, List.setIfInBounds_toArray, List.set_cons_zero, List.set_cons_succ]
      refine wpAnyH_take (i := 5) (v := ?_) rfl (by kernel_rfl) (by kernel_rfl) (by kernel_rfl) (fun _ _ _ h => h) (Or.inl ⟨by rfl, ?_⟩) (by assumption) ?_
      rotate_left
      · intro w hSw; (try dsimp only at hSw); go_simp; (try (with_reducible rfl))
      try simp only [Act.put, List.setIfInBounds_toArray, List.set_cons_zero, List.set_cons_succ]
      refine wpAnyH_take (i := 6) (v := ?_) rfl (by kernel_rfl) (by kernel_rfl) (by kernel_rfl) (fun _ _ _ h => h) (Or.inl ⟨by rfl, ?_⟩) (by assumption) ?_
      rotate_left
      · intro w hSw; (try dsimp only at hSw); go_simp; (try (with_reducible rfl))
      try simp only [Act.put, List.setIfInBounds_toArray, List.set_cons_zero, List.set_cons_succ]
      refine wpAnyH_take (i := 7) (v := ?_) rfl (by kernel_rfl) (by kernel_rfl) (by kernel_rfl) (fun _ _ _ h => h) (Or.inl ⟨by rfl, ?_⟩) (by assumption) ?_
      rotate_left
      · intro w hSw; (try dsimp only at hSw); go_simp; (try (with_reducible rfl))
      try simp only [Act.put, List.setIfInBounds_toArray, List.set_cons_zero, List.set_cons_succ]
      refine wpAnyH_take (i := 11) (v := ?_) rfl (by kernel_rfl) (by kernel_rfl) (by kernel_rfl) (fun _ _ _ h => h) (Or.inl ⟨by rfl, ?_⟩) (by assumption) ?_
      rotate_left
      · intro w hSw; (try dsimp only at hSw); go_simp; (try (with_reducible rfl))
      try simp only [Act.put, List.setIfInBounds_toArray, List.set_cons_zero, List.set_cons_succ]
      refine wpAnyH_ready (rs := [2]) (by kernel_rfl) (by simp) ?_
      refine AllReadyH.cons rfl (fun K hK => ?_) ?_
      · go_simp
        (((first | (go_at_call 28; (try go_split_ands); refine (odd_any (Kept.drawer (by assumption))).mono ?_; rintro e w1 ⟨v, ⟨x, rfl, hx⟩, rfl, hd1, hg1⟩; obtain ⟨hcx, hfx⟩ := gcell hg1) | (go_at_call 29; (try go_split_ands); refine (from_int (Kept.drawer (by assumption)) _ _).mono ?_; rintro e w1 ⟨v, ⟨y, rfl, hy⟩, rfl, hd1, hg1⟩; (have hgz := grown_trans (by assumption) hg1); obtain ⟨hcx, hfx⟩ := gcell hg1; obtain ⟨hcy, hfy⟩ := gcell hgz; have hnx : ¬ w1.heap.size = c := (by have := hd1.lt; omega); have hRx : w.heap.size < w1.heap.size := (by have := hg1.size; have := hgz.size; omega); have hRy : w.heap.size ≤ w1.heap.size := (by omega); have hnR : ¬ w1.heap.size = w.heap.size := (by omega); have hnS : ¬ w.heap.size = w1.heap.size := (by omega)) | (go_at_call 30; (try go_split_ands); refine (below_in (Kept.drawer (by assumption)) 3 (by omega)).mono ?_; rintro e w1 ⟨v, ⟨z, rfl, hz0, hz1⟩, rfl, hd1, hg1⟩; (try (have hgz := grown_trans (by assumption) hg1; obtain ⟨hcy, hfy⟩ := gcell hgz)); obtain ⟨hcx, hfx⟩ := gcell hg1; have hpk := pick3_at hz0 hz1; have hz3 : z < 3 := (by omega); have hnx : ¬ w1.heap.size = c := (by have := hd1.lt; omega); have hRx : w.heap.size < w1.heap.size := (by have := hg1.size; (try simp at this); omega); have hRy : w.heap.size ≤ w1.heap.size := (by omega); have hnR : ¬ w1.heap.size = w.heap.size := (by omega); have hnS : ¬ w.heap.size = w1.heap.size := (by omega)))))
        refine hK.out _ _ ?_ (fun hHeld => ?_)
        · (try dsimp only); (first | exact ⟨p0, p1, hPl, K5.out⟩ | exact ⟨p0, p1, hPl, K5.out.drew⟩ | ((try go_split_ands); have zz := hg1.size; refine ⟨((gcell hg1).1 _ _ (by omega) hPc).trans (by assumption), ((gcell hg1).1 _ _ (by omega) hPc).trans (by assumption), by omega, Kept.call (by assumption) hd1 hg1⟩) | ((try go_split_ands); exact ⟨cell_alloc (by assumption), cell_alloc (by assumption), size_alloc_le (by assumption), Kept.alloc (by assumption) _⟩) | ((try go_split_ands); exact ⟨(cell_other hPR).trans ((cell_other hPR).trans (by assumption)), (cell_other hPR).trans ((cell_other hPR).trans (by assumption)), by simpa using (by assumption), Kept.set2 (Nat.le_refl _) (by assumption) (Nat.le_refl _) hRc⟩) | ((try go_split_ands); exact ⟨cell_alloc ((cell_other hPR).trans ((cell_other hPR).trans (by assumption))), cell_alloc ((cell_other hPR).trans ((cell_other hPR).trans (by assumption))), size_alloc_le (size_set2_le (by assumption)), Kept.alloc (Kept.set2 (Nat.le_refl _) (by assumption) (Nat.le_refl _) hRc) _⟩))
        clear hK K
        try simp only [Act.put, List.setIfInBounds_toArray, List.set_cons_zero, List.set_cons_succ]
        refine wpAnyH_ready (rs := [8]) (by kernel_rfl) (by simp) ?_
        refine AllReadyH.cons rfl (fun K hK => ?_) ?_
        · go_simp
          (((first | (go_at_call 28; (try go_split_ands); refine (odd_any (Kept.drawer (by assumption))).mono ?_; rintro e w1 ⟨v, ⟨x, rfl, hx⟩, rfl, hd1, hg1⟩; obtain ⟨hcx, hfx⟩ := gcell hg1) | (go_at_call 29; (try go_split_ands); refine (from_int (Kept.drawer (by assumption)) _ _).mono ?_; rintro e w1 ⟨v, ⟨y, rfl, hy⟩, rfl, hd1, hg1⟩; (have hgz := grown_trans (by assumption) hg1); obtain ⟨hcx, hfx⟩ := gcell hg1; obtain ⟨hcy, hfy⟩ := gcell hgz; have hnx : ¬ w1.heap.size = c := (by have := hd1.lt; omega); have hRx : w.heap.size < w1.heap.size := (by have := hg1.size; have := hgz.size; omega); have hRy : w.heap.size ≤ w1.heap.size := (by omega); have hnR : ¬ w1.heap.size = w.heap.size := (by omega); have hnS : ¬ w.heap.size = w1.heap.size := (by omega)) | (go_at_call 30; (try go_split_ands); refine (below_in (Kept.drawer (by assumption)) 3 (by omega)).mono ?_; rintro e w1 ⟨v, ⟨z, rfl, hz0, hz1⟩, rfl, hd1, hg1⟩; (try (have hgz := grown_trans (by assumption) hg1; obtain ⟨hcy, hfy⟩ := gcell hgz)); obtain ⟨hcx, hfx⟩ := gcell hg1; have hpk := pick3_at hz0 hz1; have hz3 : z < 3 := (by omega); have hnx : ¬ w1.heap.size = c := (by have := hd1.lt; omega); have hRx : w.heap.size < w1.heap.size := (by have := hg1.size; (try simp at this); omega); have hRy : w.heap.size ≤ w1.heap.size := (by omega); have hnR : ¬ w1.heap.size = w.heap.size := (by omega); have hnS : ¬ w.heap.size = w1.heap.size := (by omega)))))
          refine hK.out _ _ ?_ (fun hHeld => ?_)
          · (try dsimp only); (first | exact ⟨p0, p1, hPl, K5.out⟩ | exact ⟨p0, p1, hPl, K5.out.drew⟩ | ((try go_split_ands); have zz := hg1.size; refine ⟨((gcell hg1).1 _ _ (by omega) hPc).trans (by assumption), ((gcell hg1).1 _ _ (by omega) hPc).trans (by assumption), by omega, Kept.call (by assumption) hd1 hg1⟩) | ((try go_split_ands); exact ⟨cell_alloc (by assumption), cell_alloc (by assumption), size_alloc_le (by assumption), Kept.alloc (by assumption) _⟩) | ((try go_split_ands); exact ⟨(cell_other hPR).trans ((cell_other hPR).trans (by assumption)), (cell_other hPR).trans ((cell_other hPR).trans (by assumption)), by simpa using (by assumption), Kept.set2 (Nat.le_refl _) (by assumption) (Nat.le_refl _) hRc⟩) | ((try go_split_ands); exact ⟨cell_alloc ((cell_other hPR).trans ((cell_other hPR).trans (by assumption))), cell_alloc ((cell_other hPR).trans ((cell_other hPR).trans (by assumption))), size_alloc_le (size_set2_le (by assumption)), Kept.alloc (Kept.set2 (Nat.le_refl _) (by assumption) (Nat.le_refl _) hRc) _⟩))
          clear hK K
          try simp only [Act.put, List.setIfInBounds_toArray, List.set_cons_zero, List.set_cons_succ]
          refine wpAnyH_take (i := 9) (v := ?_) rfl (by kernel_rfl) (by kernel_rfl) (by kernel_rfl) (fun _ _ _ h => h) (Or.inl ⟨by rfl, ?_⟩) (by assumption) ?_
          rotate_left
          · intro w hSw; (try dsimp only at hSw); go_simp; (try (with_reducible rfl))
          try simp only [Act.put, List.setIfInBounds_toArray, List.set_cons_zero, List.set_cons_succ]
          refine wpAnyH_ready (rs := [10, 12]) (by kernel_rfl) (by simp) ?_
          refine AllReadyH.cons rfl (fun K hK => ?_) ?_
          · go_simp
            (try (go_wp2_with fail))
            refine hK.out _ _ ?_ (fun hHeld => ?_)
            · (try dsimp only); (first | exact ⟨p0, p1, hPl, K5.out⟩ | exact ⟨p0, p1, hPl, K5.out.drew⟩ | ((try go_split_ands); have zz := hg1.size; refine ⟨((gcell hg1).1 _ _ (by omega) hPc).trans (by assumption), ((gcell hg1).1 _ _ (by omega) hPc).trans (by assumption), by omega, Kept.call (by assumption) hd1 hg1⟩) | ((try go_split_ands); exact ⟨cell_alloc (by assumption), cell_alloc (by assumption), size_alloc_le (by assumption), Kept.alloc (by assumption) _⟩) | ((try go_split_ands); exact ⟨(cell_other hPR).trans ((cell_other hPR).trans (by assumption)), (cell_other hPR).trans ((cell_other hPR).trans (by assumption)), by simpa using (by assumption), Kept.set2 (Nat.le_refl _) (by assumption) (Nat.le_refl _) hRc⟩) | ((try go_split_ands); exact ⟨cell_alloc ((cell_other hPR).trans ((cell_other hPR).trans (by assumption))), cell_alloc ((cell_other hPR).trans ((cell_other hPR).trans (by assumption))), size_alloc_le (size_set2_le (by assumption)), Kept.alloc (Kept.set2 (Nat.le_refl _) (by assumption) (Nat.le_refl _) hRc) _⟩))
            clear hK K
            try simp only [Act.put, List.setIfInBounds_toArray, List.set_cons_zero, List.set_cons_succ]
            refine wpAnyH_ready (rs := [12]) (by kernel_rfl) (by simp) ?_
            refine AllReadyH.cons rfl (fun K hK => ?_) ?_
            · go_simp
              (((first | (go_at_call 28; (try go_split_ands); refine (odd_any (Kept.drawer (by assumption))).mono ?_; rintro e w1 ⟨v, ⟨x, rfl, hx⟩, rfl, hd1, hg1⟩; obtain ⟨hcx, hfx⟩ := gcell hg1) | (go_at_call 29; (try go_split_ands); refine (from_int (Kept.drawer (by assumption)) _ _).mono ?_; rintro e w1 ⟨v, ⟨y, rfl, hy⟩, rfl, hd1, hg1⟩; (have hgz := grown_trans (by assumption) hg1); obtain ⟨hcx, hfx⟩ := gcell hg1; obtain ⟨hcy, hfy⟩ := gcell hgz; have hnx : ¬ w1.heap.size = c := (by have := hd1.lt; omega); have hRx : w.heap.size < w1.heap.size := (by have := hg1.size; have := hgz.size; omega); have hRy : w.heap.size ≤ w1.heap.size := (by omega); have hnR : ¬ w1.heap.size = w.heap.size := (by omega); have hnS : ¬ w.heap.size = w1.heap.size := (by omega)) | (go_at_call 30; (try go_split_ands); refine (below_in (Kept.drawer (by assumption)) 3 (by omega)).mono ?_; rintro e w1 ⟨v, ⟨z, rfl, hz0, hz1⟩, rfl, hd1, hg1⟩; (try (have hgz := grown_trans (by assumption) hg1; obtain ⟨hcy, hfy⟩ := gcell hgz)); obtain ⟨hcx, hfx⟩ := gcell hg1; have hpk := pick3_at hz0 hz1; have hz3 : z < 3 := (by omega); have hnx : ¬ w1.heap.size = c := (by have := hd1.lt; omega); have hRx : w.heap.size < w1.heap.size := (by have := hg1.size; (try simp at this); omega); have hRy : w.heap.size ≤ w1.heap.size := (by omega); have hnR : ¬ w1.heap.size = w.heap.size := (by omega); have hnS : ¬ w.heap.size = w1.heap.size := (by omega)))))
              refine hK.out _ _ ?_ (fun hHeld => ?_)
              · (try dsimp only); (first | exact ⟨p0, p1, hPl, K5.out⟩ | exact ⟨p0, p1, hPl, K5.out.drew⟩ | ((try go_split_ands); have zz := hg1.size; refine ⟨((gcell hg1).1 _ _ (by omega) hPc).trans (by assumption), ((gcell hg1).1 _ _ (by omega) hPc).trans (by assumption), by omega, Kept.call (by assumption) hd1 hg1⟩) | ((try go_split_ands); exact ⟨cell_alloc (by assumption), cell_alloc (by assumption), size_alloc_le (by assumption), Kept.alloc (by assumption) _⟩) | ((try go_split_ands); exact ⟨(cell_other hPR).trans ((cell_other hPR).trans (by assumption)), (cell_other hPR).trans ((cell_other hPR).trans (by assumption)), by simpa using (by assumption), Kept.set2 (Nat.le_refl _) (by assumption) (Nat.le_refl _) hRc⟩) | ((try go_split_ands); exact ⟨cell_alloc ((cell_other hPR).trans ((cell_other hPR).trans (by assumption))), cell_alloc ((cell_other hPR).trans ((cell_other hPR).trans (by assumption))), size_alloc_le (size_set2_le (by assumption)), Kept.alloc (Kept.set2 (Nat.le_refl _) (by assumption) (Nat.le_refl _) hRc) _⟩))
              clear hK K
              try simp only [Act.put, List.setIfInBounds_toArray, List.set_cons_zero, List.set_cons_succ]
              refine wpAnyH_take (i := 13) (v := ?_) rfl (by kernel_rfl) (by kernel_rfl) (by kernel_rfl) (fun _ _ _ h => h) (Or.inl ⟨by rfl, ?_⟩) (by assumption) ?_
              rotate_left
              · intro w hSw; (try dsimp only at hSw); go_simp; (try (with_reducible rfl))
              try simp only [Act.put, List.setIfInBounds_toArray, List.set_cons_zero, List.set_cons_succ]
              refine wpAnyH_ready (rs := [14, 15]) (by kernel_rfl) (by simp) ?_
              refine AllReadyH.cons rfl (fun K hK => ?_) ?_
              · go_simp
                (try (go_wp2_with fail))
                refine hK.out _ _ ?_ (fun hHeld => ?_)
                · (try dsimp only); (first | exact ⟨p0, p1, hPl, K5.out⟩ | exact ⟨p0, p1, hPl, K5.out.drew⟩ | ((try go_split_ands); have zz := hg1.size; refine ⟨((gcell hg1).1 _ _ (by omega) hPc).trans (by assumption), ((gcell hg1).1 _ _ (by omega) hPc).trans (by assumption), by omega, Kept.call (by assumption) hd1 hg1⟩) | ((try go_split_ands); exact ⟨cell_alloc (by assumption), cell_alloc (by assumption), size_alloc_le (by assumption), Kept.alloc (by assumption) _⟩) | ((try go_split_ands); exact ⟨(cell_other hPR).trans ((cell_other hPR).trans (by assumption)), (cell_other hPR).trans ((cell_other hPR).trans (by assumption)), by simpa using (by assumption), Kept.set2 (Nat.le_refl _) (by assumption) (Nat.le_refl _) hRc⟩) | ((try go_split_ands); exact ⟨cell_alloc ((cell_other hPR).trans ((cell_other hPR).trans (by assumption))), cell_alloc ((cell_other hPR).trans ((cell_other hPR).trans (by assumption))), size_alloc_le (size_set2_le (by assumption)), Kept.alloc (Kept.set2 (Nat.le_refl _) (by assumption) (Nat.le_refl _) hRc) _⟩))
                clear hK K
                try simp only [Act.put, List.setIfInBounds_toArray, List.set_cons_zero, List.set_cons_succ]
                refine wpAnyH_ready (rs := [15]) (by kernel_rfl) (by simp) ?_
                refine AllReadyH.cons rfl (fun K hK => ?_) ?_
                · go_simp
                  (try (go_wp2_with fail))
                  refine hK.out _ _ ?_ (fun hHeld => ?_)
                  · (try dsimp only); (first | exact ⟨p0, p1, hPl, K5.out⟩ | exact ⟨p0, p1, hPl, K5.out.drew⟩ | ((try go_split_ands); have zz := hg1.size; refine ⟨((gcell hg1).1 _ _ (by omega) hPc).trans (by assumption), ((gcell hg1).1 _ _ (by omega) hPc).trans (by assumption), by omega, Kept.call (by assumption) hd1 hg1⟩) | ((try go_split_ands); exact ⟨cell_alloc (by assumption), cell_alloc (by assumption), size_alloc_le (by assumption), Kept.alloc (by assumption) _⟩) | ((try go_split_ands); exact ⟨(cell_other hPR).trans ((cell_other hPR).trans (by assumption)), (cell_other hPR).trans ((cell_other hPR).trans (by assumption)), by simpa using (by assumption), Kept.set2 (Nat.le_refl _) (by assumption) (Nat.le_refl _) hRc⟩) | ((try go_split_ands); exact ⟨cell_alloc ((cell_other hPR).trans ((cell_other hPR).trans (by assumption))), cell_alloc ((cell_other hPR).trans ((cell_other hPR).trans (by assumption))), size_alloc_le (size_set2_le (by assumption)), Kept.alloc (Kept.set2 (Nat.le_refl _) (by assumption) (Nat.le_refl _) hRc) _⟩))
                  clear hK K
                  try simp only [Act.put, List.setIfInBounds_toArray, List.set_cons_zero, List.set_cons_succ]
                  refine wpAnyH_ready (rs := [16]) (by kernel_rfl) (by simp) ?_
                  refine AllReadyH.cons rfl (fun K hK => ?_) ?_
                  · go_simp
                    (try (go_wp2_with fail))
                    refine hK.out _ _ ?_ (fun hHeld => ?_)
                    · (try dsimp only); (first | exact ⟨p0, p1, hPl, K5.out⟩ | exact ⟨p0, p1, hPl, K5.out.drew⟩ | ((try go_split_ands); have zz := hg1.size; refine ⟨((gcell hg1).1 _ _ (by omega) hPc).trans (by assumption), ((gcell hg1).1 _ _ (by omega) hPc).trans (by assumption), by omega, Kept.call (by assumption) hd1 hg1⟩) | ((try go_split_ands); exact ⟨cell_alloc (by assumption), cell_alloc (by assumption), size_alloc_le (by assumption), Kept.alloc (by assumption) _⟩) | ((try go_split_ands); exact ⟨(cell_other hPR).trans ((cell_other hPR).trans (by assumption)), (cell_other hPR).trans ((cell_other hPR).trans (by assumption)), by simpa using (by assumption), Kept.set2 (Nat.le_refl _) (by assumption) (Nat.le_refl _) hRc⟩) | ((try go_split_ands); exact ⟨cell_alloc ((cell_other hPR).trans ((cell_other hPR).trans (by assumption))), cell_alloc ((cell_other hPR).trans ((cell_other hPR).trans (by assumption))), size_alloc_le (size_set2_le (by assumption)), Kept.alloc (Kept.set2 (Nat.le_refl _) (by assumption) (Nat.le_refl _) hRc) _⟩))
                    clear hK K
                    try simp only [Act.put, List.setIfInBounds_toArray, List.set_cons_zero, List.set_cons_succ]
                    refine wpAnyH_done (by kernel_rfl) ?_ _
                    refine NoPanic.normal ?_
                    go_wp2
                    (try go_split_ands)
                    have q0 : w1.cell? ⟨w.heap.size, 0, none⟩ = some (.int .i64 0) := by go_simp
                    have q1 : w1.cell? ⟨w.heap.size, 1, none⟩ = some (.int .i64 0) := by go_simp
                    refine bodyPost_ret ?_ rfl ⟨_, ⟨s', t', pick3 z (-1) x (IntKind.i64.wrap (IntKind.i64.wrap (IntKind.i64.wrap (4 * s') * 1000001) + y)), rfl, hs', ht', pick3_w64 (w64_of (by decide) (by decide)) hx (w64_iwrap _)⟩, rfl, below_of_grown (Below.refl _ w) (Kept.grown (by assumption)) (Nat.le_refl _) (by intro k hk; cases hk; omega)⟩
                    have hpl := pick3_list hz0 hz1
                    have m0 : ∀ o : Obj, (((w1.setCell ⟨w.heap.size, 0, none⟩ (.int .i64 s')).setCell ⟨w.heap.size, 1, none⟩ (.int .i64 t')).alloc o).cell? ⟨w.heap.size, 0, none⟩ = some (.int .i64 s') := fun o => cell_alloc (by go_simp)
                    have m1 : ∀ o : Obj, (((w1.setCell ⟨w.heap.size, 0, none⟩ (.int .i64 s')).setCell ⟨w.heap.size, 1, none⟩ (.int .i64 t')).alloc o).cell? ⟨w.heap.size, 1, none⟩ = some (.int .i64 t') := fun o => cell_alloc (by go_simp)
                    simp [results, Try.results11, go_sem, q0, q1, hpl, m0, m1]
                  exact AllReadyH.nil
                exact AllReadyH.nil
              refine AllReadyH.cons rfl (fun K hK => ?_) ?_
              · go_simp
                (try (go_wp2_with fail))
                refine hK.out _ _ ?_ (fun hHeld => ?_)
                · (try dsimp only); (first | exact ⟨p0, p1, hPl, K5.out⟩ | exact ⟨p0, p1, hPl, K5.out.drew⟩ | ((try go_split_ands); have zz := hg1.size; refine ⟨((gcell hg1).1 _ _ (by omega) hPc).trans (by assumption), ((gcell hg1).1 _ _ (by omega) hPc).trans (by assumption), by omega, Kept.call (by assumption) hd1 hg1⟩) | ((try go_split_ands); exact ⟨cell_alloc (by assumption), cell_alloc (by assumption), size_alloc_le (by assumption), Kept.alloc (by assumption) _⟩) | ((try go_split_ands); exact ⟨(cell_other hPR).trans ((cell_other hPR).trans (by assumption)), (cell_other hPR).trans ((cell_other hPR).trans (by assumption)), by simpa using (by assumption), Kept.set2 (Nat.le_refl _) (by assumption) (Nat.le_refl _) hRc⟩) | ((try go_split_ands); exact ⟨cell_alloc ((cell_other hPR).trans ((cell_other hPR).trans (by assumption))), cell_alloc ((cell_other hPR).trans ((cell_other hPR).trans (by assumption))), size_alloc_le (size_set2_le (by assumption)), Kept.alloc (Kept.set2 (Nat.le_refl _) (by assumption) (Nat.le_refl _) hRc) _⟩))
                clear hK K
                try simp only [Act.put, List.setIfInBounds_toArray, List.set_cons_zero, List.set_cons_succ]
                refine wpAnyH_ready (rs := [14]) (by kernel_rfl) (by simp) ?_
                refine AllReadyH.cons rfl (fun K hK => ?_) ?_
                · go_simp
                  (try (go_wp2_with fail))
                  refine hK.out _ _ ?_ (fun hHeld => ?_)
                  · (try dsimp only); (first | exact ⟨p0, p1, hPl, K5.out⟩ | exact ⟨p0, p1, hPl, K5.out.drew⟩ | ((try go_split_ands); have zz := hg1.size; refine ⟨((gcell hg1).1 _ _ (by omega) hPc).trans (by assumption), ((gcell hg1).1 _ _ (by omega) hPc).trans (by assumption), by omega, Kept.call (by assumption) hd1 hg1⟩) | ((try go_split_ands); exact ⟨cell_alloc (by assumption), cell_alloc (by assumption), size_alloc_le (by assumption), Kept.alloc (by assumption) _⟩) | ((try go_split_ands); exact ⟨(cell_other hPR).trans ((cell_other hPR).trans (by assumption)), (cell_other hPR).trans ((cell_other hPR).trans (by assumption)), by simpa using (by assumption), Kept.set2 (Nat.le_refl _) (by assumption) (Nat.le_refl _) hRc⟩) | ((try go_split_ands); exact ⟨cell_alloc ((cell_other hPR).trans ((cell_other hPR).trans (by assumption))), cell_alloc ((cell_other hPR).trans ((cell_other hPR).trans (by assumption))), size_alloc_le (size_set2_le (by assumption)), Kept.alloc (Kept.set2 (Nat.le_refl _) (by assumption) (Nat.le_refl _) hRc) _⟩))
                  clear hK K
                  try simp only [Act.put, List.setIfInBounds_toArray, List.set_cons_zero, List.set_cons_succ]
                  refine wpAnyH_ready (rs := [16]) (by kernel_rfl) (by simp) ?_
                  refine AllReadyH.cons rfl (fun K hK => ?_) ?_
                  · go_simp
                    (try (go_wp2_with fail))
                    refine hK.out _ _ ?_ (fun hHeld => ?_)
                    · (try dsimp only); (first | exact ⟨p0, p1, hPl, K5.out⟩ | exact ⟨p0, p1, hPl, K5.out.drew⟩ | ((try go_split_ands); have zz := hg1.size; refine ⟨((gcell hg1).1 _ _ (by omega) hPc).trans (by assumption), ((gcell hg1).1 _ _ (by omega) hPc).trans (by assumption), by omega, Kept.call (by assumption) hd1 hg1⟩) | ((try go_split_ands); exact ⟨cell_alloc (by assumption), cell_alloc (by assumption), size_alloc_le (by assumption), Kept.alloc (by assumption) _⟩) | ((try go_split_ands); exact ⟨(cell_other hPR).trans ((cell_other hPR).trans (by assumption)), (cell_other hPR).trans ((cell_other hPR).trans (by assumption)), by simpa using (by assumption), Kept.set2 (Nat.le_refl _) (by assumption) (Nat.le_refl _) hRc⟩) | ((try go_split_ands); exact ⟨cell_alloc ((cell_other hPR).trans ((cell_other hPR).trans (by assumption))), cell_alloc ((cell_other hPR).trans ((cell_other hPR).trans (by assumption))), size_alloc_le (size_set2_le (by assumption)), Kept.alloc (Kept.set2 (Nat.le_refl _) (by assumption) (Nat.le_refl _) hRc) _⟩))
                    clear hK K
                    try simp only [Act.put, List.setIfInBounds_toArray, List.set_cons_zero, List.set_cons_succ]
                    refine wpAnyH_done (by kernel_rfl) ?_ _
                    refine NoPanic.normal ?_
                    go_wp2
                    (try go_split_ands)
                    have q0 : w1.cell? ⟨w.heap.size, 0, none⟩ = some (.int .i64 0) := by go_simp
                    have q1 : w1.cell? ⟨w.heap.size, 1, none⟩ = some (.int .i64 0) := by go_simp
                    refine bodyPost_ret ?_ rfl ⟨_, ⟨s', t', pick3 z (-1) x (IntKind.i64.wrap (IntKind.i64.wrap (IntKind.i64.wrap (4 * s') * 1000001) + y)), rfl, hs', ht', pick3_w64 (w64_of (by decide) (by decide)) hx (w64_iwrap _)⟩, rfl, below_of_grown (Below.refl _ w) (Kept.grown (by assumption)) (Nat.le_refl _) (by intro k hk; cases hk; omega)⟩
                    have hpl := pick3_list hz0 hz1
                    have m0 : ∀ o : Obj, (((w1.setCell ⟨w.heap.size, 0, none⟩ (.int .i64 s')).setCell ⟨w.heap.size, 1, none⟩ (.int .i64 t')).alloc o).cell? ⟨w.heap.size, 0, none⟩ = some (.int .i64 s') := fun o => cell_alloc (by go_simp)
                    have m1 : ∀ o : Obj, (((w1.setCell ⟨w.heap.size, 0, none⟩ (.int .i64 s')).setCell ⟨w.heap.size, 1, none⟩ (.int .i64 t')).alloc o).cell? ⟨w.heap.size, 1, none⟩ = some (.int .i64 t') := fun o => cell_alloc (by go_simp)
                    simp [results, Try.results11, go_sem, q0, q1, hpl, m0, m1]
                  exact AllReadyH.nil
                exact AllReadyH.nil
              exact AllReadyH.nil
            exact AllReadyH.nil
          refine AllReadyH.cons rfl (fun K hK => ?_) ?_
          · go_simp
            (((first | (go_at_call 28; (try go_split_ands); refine (odd_any (Kept.drawer (by assumption))).mono ?_; rintro e w1 ⟨v, ⟨x, rfl, hx⟩, rfl, hd1, hg1⟩; obtain ⟨hcx, hfx⟩ := gcell hg1) | (go_at_call 29; (try go_split_ands); refine (from_int (Kept.drawer (by assumption)) _ _).mono ?_; rintro e w1 ⟨v, ⟨y, rfl, hy⟩, rfl, hd1, hg1⟩; (have hgz := grown_trans (by assumption) hg1); obtain ⟨hcx, hfx⟩ := gcell hg1; obtain ⟨hcy, hfy⟩ := gcell hgz; have hnx : ¬ w1.heap.size = c := (by have := hd1.lt; omega); have hRx : w.heap.size < w1.heap.size := (by have := hg1.size; have := hgz.size; omega); have hRy : w.heap.size ≤ w1.heap.size := (by omega); have hnR : ¬ w1.heap.size = w.heap.size := (by omega); have hnS : ¬ w.heap.size = w1.heap.size := (by omega)) | (go_at_call 30; (try go_split_ands); refine (below_in (Kept.drawer (by assumption)) 3 (by omega)).mono ?_; rintro e w1 ⟨v, ⟨z, rfl, hz0, hz1⟩, rfl, hd1, hg1⟩; (try (have hgz := grown_trans (by assumption) hg1; obtain ⟨hcy, hfy⟩ := gcell hgz)); obtain ⟨hcx, hfx⟩ := gcell hg1; have hpk := pick3_at hz0 hz1; have hz3 : z < 3 := (by omega); have hnx : ¬ w1.heap.size = c := (by have := hd1.lt; omega); have hRx : w.heap.size < w1.heap.size := (by have := hg1.size; (try simp at this); omega); have hRy : w.heap.size ≤ w1.heap.size := (by omega); have hnR : ¬ w1.heap.size = w.heap.size := (by omega); have hnS : ¬ w.heap.size = w1.heap.size := (by omega)))))
            refine hK.out _ _ ?_ (fun hHeld => ?_)
            · (try dsimp only); (first | exact ⟨p0, p1, hPl, K5.out⟩ | exact ⟨p0, p1, hPl, K5.out.drew⟩ | ((try go_split_ands); have zz := hg1.size; refine ⟨((gcell hg1).1 _ _ (by omega) hPc).trans (by assumption), ((gcell hg1).1 _ _ (by omega) hPc).trans (by assumption), by omega, Kept.call (by assumption) hd1 hg1⟩) | ((try go_split_ands); exact ⟨cell_alloc (by assumption), cell_alloc (by assumption), size_alloc_le (by assumption), Kept.alloc (by assumption) _⟩) | ((try go_split_ands); exact ⟨(cell_other hPR).trans ((cell_other hPR).trans (by assumption)), (cell_other hPR).trans ((cell_other hPR).trans (by assumption)), by simpa using (by assumption), Kept.set2 (Nat.le_refl _) (by assumption) (Nat.le_refl _) hRc⟩) | ((try go_split_ands); exact ⟨cell_alloc ((cell_other hPR).trans ((cell_other hPR).trans (by assumption))), cell_alloc ((cell_other hPR).trans ((cell_other hPR).trans (by assumption))), size_alloc_le (size_set2_le (by assumption)), Kept.alloc (Kept.set2 (Nat.le_refl _) (by assumption) (Nat.le_refl _) hRc) _⟩))
            clear hK K
            try simp only [Act.put, List.setIfInBounds_toArray, List.set_cons_zero, List.set_cons_succ]
            refine wpAnyH_ready (rs := [10, 15]) (by kernel_rfl) (by simp) ?_
            refine AllReadyH.cons rfl (fun K hK => ?_) ?_
            · go_simp
              (try (go_wp2_with fail))
              refine hK.out _ _ ?_ (fun hHeld => ?_)
              · (try dsimp only); (first | exact ⟨p0, p1, hPl, K5.out⟩ | exact ⟨p0, p1, hPl, K5.out.drew⟩ | ((try go_split_ands); have zz := hg1.size; refine ⟨((gcell hg1).1 _ _ (by omega) hPc).trans (by assumption), ((gcell hg1).1 _ _ (by omega) hPc).trans (by assumption), by omega, Kept.call (by assumption) hd1 hg1⟩) | ((try go_split_ands); exact ⟨cell_alloc (by assumption), cell_alloc (by assumption), size_alloc_le (by assumption), Kept.alloc (by assumption) _⟩) | ((try go_split_ands); exact ⟨(cell_other hPR).trans ((cell_other hPR).trans (by assumption)), (cell_other hPR).trans ((cell_other hPR).trans (by assumption)), by simpa using (by assumption), Kept.set2 (Nat.le_refl _) (by assumption) (Nat.le_refl _) hRc⟩) | ((try go_split_ands); exact ⟨cell_alloc ((cell_other hPR).trans ((cell_other hPR).trans (by assumption))), cell_alloc ((cell_other hPR).trans ((cell_other hPR).trans (by assumption))), size_alloc_le (size_set2_le (by assumption)), Kept.alloc (Kept.set2 (Nat.le_refl _) (by assumption) (Nat.le_refl _) hRc) _⟩))
              clear hK K
              try simp only [Act.put, List.setIfInBounds_toArray, List.set_cons_zero, List.set_cons_succ]
              refine wpAnyH_take (i := 13) (v := ?_) rfl (by kernel_rfl) (by kernel_rfl) (by kernel_rfl) (fun _ _ _ h => h) (Or.inl ⟨by rfl, ?_⟩) (by assumption) ?_
              rotate_left
              · intro w hSw; (try dsimp only at hSw); go_simp; (try (with_reducible rfl))
              try simp only [Act.put, List.setIfInBounds_toArray, List.set_cons_zero, List.set_cons_succ]
              refine wpAnyH_ready (rs := [14, 15]) (by kernel_rfl) (by simp) ?_
              refine AllReadyH.cons rfl (fun K hK => ?_) ?_
              · go_simp
                (try (go_wp2_with fail))
                refine hK.out _ _ ?_ (fun hHeld => ?_)
                · (try dsimp only); (first | exact ⟨p0, p1, hPl, K5.out⟩ | exact ⟨p0, p1, hPl, K5.out.drew⟩ | ((try go_split_ands); have zz := hg1.size; refine ⟨((gcell hg1).1 _ _ (by omega) hPc).trans (by assumption), ((gcell hg1).1 _ _ (by omega) hPc).trans (by assumption), by omega, Kept.call (by assumption) hd1 hg1⟩) | ((try go_split_ands); exact ⟨cell_alloc (by assumption), cell_alloc (by assumption), size_alloc_le (by assumption), Kept.alloc (by assumption) _⟩) | ((try go_split_ands); exact ⟨(cell_other hPR).trans ((cell_other hPR).trans (by assumption)), (cell_other hPR).trans ((cell_other hPR).trans (by assumption)), by simpa using (by assumption), Kept.set2 (Nat.le_refl _) (by assumption) (Nat.le_refl _) hRc⟩) | ((try go_split_ands); exact ⟨cell_alloc ((cell_other hPR).trans ((cell_other hPR).trans (by assumption))), cell_alloc ((cell_other hPR).trans ((cell_other hPR).trans (by assumption))), size_alloc_le (size_set2_le (by assumption)), Kept.alloc (Kept.set2 (Nat.le_refl _) (by assumption) (Nat.le_refl _) hRc) _⟩))
                clear hK K
                try simp only [Act.put, List.setIfInBounds_toArray, List.set_cons_zero, List.set_cons_succ]
                refine wpAnyH_ready (rs := [15]) (by kernel_rfl) (by simp) ?_
                refine AllReadyH.cons rfl (fun K hK => ?_) ?_
                · go_simp
                  (try (go_wp2_with fail))
                  refine hK.out _ _ ?_ (fun hHeld => ?_)
                  · (try dsimp only); (first | exact ⟨p0, p1, hPl, K5.out⟩ | exact ⟨p0, p1, hPl, K5.out.drew⟩ | ((try go_split_ands); have zz := hg1.size; refine ⟨((gcell hg1).1 _ _ (by omega) hPc).trans (by assumption), ((gcell hg1).1 _ _ (by omega) hPc).trans (by assumption), by omega, Kept.call (by assumption) hd1 hg1⟩) | ((try go_split_ands); exact ⟨cell_alloc (by assumption), cell_alloc (by assumption), size_alloc_le (by assumption), Kept.alloc (by assumption) _⟩) | ((try go_split_ands); exact ⟨(cell_other hPR).trans ((cell_other hPR).trans (by assumption)), (cell_other hPR).trans ((cell_other hPR).trans (by assumption)), by simpa using (by assumption), Kept.set2 (Nat.le_refl _) (by assumption) (Nat.le_refl _) hRc⟩) | ((try go_split_ands); exact ⟨cell_alloc ((cell_other hPR).trans ((cell_other hPR).trans (by assumption))), cell_alloc ((cell_other hPR).trans ((cell_other hPR).trans (by assumption))), size_alloc_le (size_set2_le (by assumption)), Kept.alloc (Kept.set2 (Nat.le_refl _) (by assumption) (Nat.le_refl _) hRc) _⟩))
                  clear hK K
                  try simp only [Act.put, List.setIfInBounds_toArray, List.set_cons_zero, List.set_cons_succ]
                  refine wpAnyH_ready (rs := [16]) (by kernel_rfl) (by simp) ?_
                  refine AllReadyH.cons rfl (fun K hK => ?_) ?_
                  · go_simp
                    (try (go_wp2_with fail))
                    refine hK.out _ _ ?_ (fun hHeld => ?_)
                    · (try dsimp only); (first | exact ⟨p0, p1, hPl, K5.out⟩ | exact ⟨p0, p1, hPl, K5.out.drew⟩ | ((try go_split_ands); have zz := hg1.size; refine ⟨((gcell hg1).1 _ _ (by omega) hPc).trans (by assumption), ((gcell hg1).1 _ _ (by omega) hPc).trans (by assumption), by omega, Kept.call (by assumption) hd1 hg1⟩) | ((try go_split_ands); exact ⟨cell_alloc (by assumption), cell_alloc (by assumption), size_alloc_le (by assumption), Kept.alloc (by assumption) _⟩) | ((try go_split_ands); exact ⟨(cell_other hPR).trans ((cell_other hPR).trans (by assumption)), (cell_other hPR).trans ((cell_other hPR).trans (by assumption)), by simpa using (by assumption), Kept.set2 (Nat.le_refl _) (by assumption) (Nat.le_refl _) hRc⟩) | ((try go_split_ands); exact ⟨cell_alloc ((cell_other hPR).trans ((cell_other hPR).trans (by assumption))), cell_alloc ((cell_other hPR).trans ((cell_other hPR).trans (by assumption))), size_alloc_le (size_set2_le (by assumption)), Kept.alloc (Kept.set2 (Nat.le_refl _) (by assumption) (Nat.le_refl _) hRc) _⟩))
                    clear hK K
                    try simp only [Act.put, List.setIfInBounds_toArray, List.set_cons_zero, List.set_cons_succ]
                    refine wpAnyH_done (by kernel_rfl) ?_ _
                    refine NoPanic.normal ?_
                    go_wp2
                    (try go_split_ands)
                    have q0 : w1.cell? ⟨w.heap.size, 0, none⟩ = some (.int .i64 0) := by go_simp
                    have q1 : w1.cell? ⟨w.heap.size, 1, none⟩ = some (.int .i64 0) := by go_simp
                    refine bodyPost_ret ?_ rfl ⟨_, ⟨s', t', pick3 z (-1) x (IntKind.i64.wrap (IntKind.i64.wrap (IntKind.i64.wrap (4 * s') * 1000001) + y)), rfl, hs', ht', pick3_w64 (w64_of (by decide) (by decide)) hx (w64_iwrap _)⟩, rfl, below_of_grown (Below.refl _ w) (Kept.grown (by assumption)) (Nat.le_refl _) (by intro k hk; cases hk; omega)⟩
                    have hpl := pick3_list hz0 hz1
                    have m0 : ∀ o : Obj, (((w1.setCell ⟨w.heap.size, 0, none⟩ (.int .i64 s')).setCell ⟨w.heap.size, 1, none⟩ (.int .i64 t')).alloc o).cell? ⟨w.heap.size, 0, none⟩ = some (.int .i64 s') := fun o => cell_alloc (by go_simp)
                    have m1 : ∀ o : Obj, (((w1.setCell ⟨w.heap.size, 0, none⟩ (.int .i64 s')).setCell ⟨w.heap.size, 1, none⟩ (.int .i64 t')).alloc o).cell? ⟨w.heap.size, 1, none⟩ = some (.int .i64 t') := fun o => cell_alloc (by go_simp)
                    simp [results, Try.results11, go_sem, q0, q1, hpl, m0, m1]
                  exact AllReadyH.nil
                exact AllReadyH.nil
              refine AllReadyH.cons rfl (fun K hK => ?_) ?_
              · go_simp
                (try (go_wp2_with fail))
                refine hK.out _ _ ?_ (fun hHeld => ?_)
                · (try dsimp only); (first | exact ⟨p0, p1, hPl, K5.out⟩ | exact ⟨p0, p1, hPl, K5.out.drew⟩ | ((try go_split_ands); have zz := hg1.size; refine ⟨((gcell hg1).1 _ _ (by omega) hPc).trans (by assumption), ((gcell hg1).1 _ _ (by omega) hPc).trans (by assumption), by omega, Kept.call (by assumption) hd1 hg1⟩) | ((try go_split_ands); exact ⟨cell_alloc (by assumption), cell_alloc (by assumption), size_alloc_le (by assumption), Kept.alloc (by assumption) _⟩) | ((try go_split_ands); exact ⟨(cell_other hPR).trans ((cell_other hPR).trans (by assumption)), (cell_other hPR).trans ((cell_other hPR).trans (by assumption)), by simpa using (by assumption), Kept.set2 (Nat.le_refl _) (by assumption) (Nat.le_refl _) hRc⟩) | ((try go_split_ands); exact ⟨cell_alloc ((cell_other hPR).trans ((cell_other hPR).trans (by assumption))), cell_alloc ((cell_other hPR).trans ((cell_other hPR).trans (by assumption))), size_alloc_le (size_set2_le (by assumption)), Kept.alloc (Kept.set2 (Nat.le_refl _) (by assumption) (Nat.le_refl _) hRc) _⟩))
                clear hK K
                try simp only [Act.put, List.setIfInBounds_toArray, List.set_cons_zero, List.set_cons_succ]
                refine wpAnyH_ready (rs := [14]) (by kernel_rfl) (by simp) ?_
                refine AllReadyH.cons rfl (fun K hK => ?_) ?_
                · go_simp
                  (try (go_wp2_with fail))
                  refine hK.out _ _ ?_ (fun hHeld => ?_)
                  · (try dsimp only); (first | exact ⟨p0, p1, hPl, K5.out⟩ | exact ⟨p0, p1, hPl, K5.out.drew⟩ | ((try go_split_ands); have zz := hg1.size; refine ⟨((gcell hg1).1 _ _ (by omega) hPc).trans (by assumption), ((gcell hg1).1 _ _ (by omega) hPc).trans (by assumption), by omega, Kept.call (by assumption) hd1 hg1⟩) | ((try go_split_ands); exact ⟨cell_alloc (by assumption), cell_alloc (by assumption), size_alloc_le (by assumption), Kept.alloc (by assumption) _⟩) | ((try go_split_ands); exact ⟨(cell_other hPR).trans ((cell_other hPR).trans (by assumption)), (cell_other hPR).trans ((cell_other hPR).trans (by assumption)), by simpa using (by assumption), Kept.set2 (Nat.le_refl _) (by assumption) (Nat.le_refl _) hRc⟩) | ((try go_split_ands); exact ⟨cell_alloc ((cell_other hPR).trans ((cell_other hPR).trans (by assumption))), cell_alloc ((cell_other hPR).trans ((cell_other hPR).trans (by assumption))), size_alloc_le (size_set2_le (by assumption)), Kept.alloc (Kept.set2 (Nat.le_refl _) (by assumption) (Nat.le_refl _) hRc) _⟩))
                  clear hK K
                  try simp only [Act.put, List.setIfInBounds_toArray, List.set_cons_zero, List.set_cons_succ]
                  refine wpAnyH_ready (rs := [16]) (by kernel_rfl) (by simp) ?_
                  refine AllReadyH.cons rfl (fun K hK => ?_) ?_
                  · go_simp
                    (try (go_wp2_with fail))
                    refine hK.out _ _ ?_ (fun hHeld => ?_)
                    · (try dsimp only); (first | exact ⟨p0, p1, hPl, K5.out⟩ | exact ⟨p0, p1, hPl, K5.out.drew⟩ | ((try go_split_ands); have zz := hg1.size; refine ⟨((gcell hg1).1 _ _ (by omega) hPc).trans (by assumption), ((gcell hg1).1 _ _ (by omega) hPc).trans (by assumption), by omega, Kept.call (by assumption) hd1 hg1⟩) | ((try go_split_ands); exact ⟨cell_alloc (by assumption), cell_alloc (by assumption), size_alloc_le (by assumption), Kept.alloc (by assumption) _⟩) | ((try go_split_ands); exact ⟨(cell_other hPR).trans ((cell_other hPR).trans (by assumption)), (cell_other hPR).trans ((cell_other hPR).trans (by assumption)), by simpa using (by assumption), Kept.set2 (Nat.le_refl _) (by assumption) (Nat.le_refl _) hRc⟩) | ((try go_split_ands); exact ⟨cell_alloc ((cell_other hPR).trans ((cell_other hPR).trans (by assumption))), cell_alloc ((cell_other hPR).trans ((cell_other hPR).trans (by assumption))), size_alloc_le (size_set2_le (by assumption)), Kept.alloc (Kept.set2 (Nat.le_refl _) (by assumption) (Nat.le_refl _) hRc) _⟩))
                    clear hK K
                    try simp only [Act.put, List.setIfInBounds_toArray, List.set_cons_zero, List.set_cons_succ]
                    refine wpAnyH_done (by kernel_rfl) ?_ _
                    refine NoPanic.normal ?_
                    go_wp2
                    (try go_split_ands)
                    have q0 : w1.cell? ⟨w.heap.size, 0, none⟩ = some (.int .i64 0) := by go_simp
                    have q1 : w1.cell? ⟨w.heap.size, 1, none⟩ = some (.int .i64 0) := by go_simp
                    refine bodyPost_ret ?_ rfl ⟨_, ⟨s', t', pick3 z (-1) x (IntKind.i64.wrap (IntKind.i64.wrap (IntKind.i64.wrap (4 * s') * 1000001) + y)), rfl, hs', ht', pick3_w64 (w64_of (by decide) (by decide)) hx (w64_iwrap _)⟩, rfl, below_of_grown (Below.refl _ w) (Kept.grown (by assumption)) (Nat.le_refl _) (by intro k hk; cases hk; omega)⟩
                    have hpl := pick3_list hz0 hz1
                    have m0 : ∀ o : Obj, (((w1.setCell ⟨w.heap.size, 0, none⟩ (.int .i64 s')).setCell ⟨w.heap.size, 1, none⟩ (.int .i64 t')).alloc o).cell? ⟨w.heap.size, 0, none⟩ = some (.int .i64 s') := fun o => cell_alloc (by go_simp)
                    have m1 : ∀ o : Obj, (((w1.setCell ⟨w.heap.size, 0, none⟩ (.int .i64 s')).setCell ⟨w.heap.size, 1, none⟩ (.int .i64 t')).alloc o).cell? ⟨w.heap.size, 1, none⟩ = some (.int .i64 t') := fun o => cell_alloc (by go_simp)
                    simp [results, Try.results11, go_sem, q0, q1, hpl, m0, m1]
                  exact AllReadyH.nil
                exact AllReadyH.nil
              exact AllReadyH.nil
            refine AllReadyH.cons rfl (fun K hK => ?_) ?_
            · go_simp
              (try (go_wp2_with fail))
              refine hK.out _ _ ?_ (fun hHeld => ?_)
              · (try dsimp only); (first | exact ⟨p0, p1, hPl, K5.out⟩ | exact ⟨p0, p1, hPl, K5.out.drew⟩ | ((try go_split_ands); have zz := hg1.size; refine ⟨((gcell hg1).1 _ _ (by omega) hPc).trans (by assumption), ((gcell hg1).1 _ _ (by omega) hPc).trans (by assumption), by omega, Kept.call (by assumption) hd1 hg1⟩) | ((try go_split_ands); exact ⟨cell_alloc (by assumption), cell_alloc (by assumption), size_alloc_le (by assumption), Kept.alloc (by assumption) _⟩) | ((try go_split_ands); exact ⟨(cell_other hPR).trans ((cell_other hPR).trans (by assumption)), (cell_other hPR).trans ((cell_other hPR).trans (by assumption)), by simpa using (by assumption), Kept.set2 (Nat.le_refl _) (by assumption) (Nat.le_refl _) hRc⟩) | ((try go_split_ands); exact ⟨cell_alloc ((cell_other hPR).trans ((cell_other hPR).trans (by assumption))), cell_alloc ((cell_other hPR).trans ((cell_other hPR).trans (by assumption))), size_alloc_le (size_set2_le (by assumption)), Kept.alloc (Kept.set2 (Nat.le_refl _) (by assumption) (Nat.le_refl _) hRc) _⟩))
              clear hK K
              try simp only [Act.put, List.setIfInBounds_toArray, List.set_cons_zero, List.set_cons_succ]
              refine wpAnyH_ready (rs := [10]) (by kernel_rfl) (by simp) ?_
              refine AllReadyH.cons rfl (fun K hK => ?_) ?_
              · go_simp
                (try (go_wp2_with fail))
                refine hK.out _ _ ?_ (fun hHeld => ?_)
                · (try dsimp only); (first | exact ⟨p0, p1, hPl, K5.out⟩ | exact ⟨p0, p1, hPl, K5.out.drew⟩ | ((try go_split_ands); have zz := hg1.size; refine ⟨((gcell hg1).1 _ _ (by omega) hPc).trans (by assumption), ((gcell hg1).1 _ _ (by omega) hPc).trans (by assumption), by omega, Kept.call (by assumption) hd1 hg1⟩) | ((try go_split_ands); exact ⟨cell_alloc (by assumption), cell_alloc (by assumption), size_alloc_le (by assumption), Kept.alloc (by assumption) _⟩) | ((try go_split_ands); exact ⟨(cell_other hPR).trans ((cell_other hPR).trans (by assumption)), (cell_other hPR).trans ((cell_other hPR).trans (by assumption)), by simpa using (by assumption), Kept.set2 (Nat.le_refl _) (by assumption) (Nat.le_refl _) hRc⟩) | ((try go_split_ands); exact ⟨cell_alloc ((cell_other hPR).trans ((cell_other hPR).trans (by assumption))), cell_alloc ((cell_other hPR).trans ((cell_other hPR).trans (by assumption))), size_alloc_le (size_set2_le (by assumption)), Kept.alloc (Kept.set2 (Nat.le_refl _) (by assumption) (Nat.le_refl _) hRc) _⟩))
                clear hK K
                try simp only [Act.put, List.setIfInBounds_toArray, List.set_cons_zero, List.set_cons_succ]
                refine wpAnyH_take (i := 13) (v := ?_) rfl (by kernel_rfl) (by kernel_rfl) (by kernel_rfl) (fun _ _ _ h => h) (Or.inl ⟨by rfl, ?_⟩) (by assumption) ?_
                rotate_left
                · intro w hSw; (try dsimp only at hSw); go_simp; (try (with_reducible rfl))
                try simp only [Act.put, List.setIfInBounds_toArray, List.set_cons_zero, List.set_cons_succ]
                refine wpAnyH_ready (rs := [14]) (by kernel_rfl) (by simp) ?_
                refine AllReadyH.cons rfl (fun K hK => ?_) ?_
                · go_simp
                  (try (go_wp2_with fail))
                  refine hK.out _ _ ?_ (fun hHeld => ?_)
                  · (try dsimp only); (first | exact ⟨p0, p1, hPl, K5.out⟩ | exact ⟨p0, p1, hPl, K5.out.drew⟩ | ((try go_split_ands); have zz := hg1.size; refine ⟨((gcell hg1).1 _ _ (by omega) hPc).trans (by assumption), ((gcell hg1).1 _ _ (by omega) hPc).trans (by assumption), by omega, Kept.call (by assumption) hd1 hg1⟩) | ((try go_split_ands); exact ⟨cell_alloc (by assumption), cell_alloc (by assumption), size_alloc_le (by assumption), Kept.alloc (by assumption) _⟩) | ((try go_split_ands); exact ⟨(cell_other hPR).trans ((cell_other hPR).trans (by assumption)), (cell_other hPR).trans ((cell_other hPR).trans (by assumption)), by simpa using (by assumption), Kept.set2 (Nat.le_refl _) (by assumption) (Nat.le_refl _) hRc⟩) | ((try go_split_ands); exact ⟨cell_alloc ((cell_other hPR).trans ((cell_other hPR).trans (by assumption))), cell_alloc ((cell_other hPR).trans ((cell_other hPR).trans (by assumption))), size_alloc_le (size_set2_le (by assumption)), Kept.alloc (Kept.set2 (Nat.le_refl _) (by assumption) (Nat.le_refl _) hRc) _⟩))
                  clear hK K
                  try simp only [Act.put, List.setIfInBounds_toArray, List.set_cons_zero, List.set_cons_succ]
                  refine wpAnyH_ready (rs := [16]) (by kernel_rfl) (by simp) ?_
                  refine AllReadyH.cons rfl (fun K hK => ?_) ?_
                  · go_simp
                    (try (go_wp2_with fail))
                    refine hK.out _ _ ?_ (fun hHeld => ?_)
                    · (try dsimp only); (first | exact ⟨p0, p1, hPl, K5.out⟩ | exact ⟨p0, p1, hPl, K5.out.drew⟩ | ((try go_split_ands); have zz := hg1.size; refine ⟨((gcell hg1).1 _ _ (by omega) hPc).trans (by assumption), ((gcell hg1).1 _ _ (by omega) hPc).trans (by assumption), by omega, Kept.call (by assumption) hd1 hg1⟩) | ((try go_split_ands); exact ⟨cell_alloc (by assumption), cell_alloc (by assumption), size_alloc_le (by assumption), Kept.alloc (by assumption) _⟩) | ((try go_split_ands); exact ⟨(cell_other hPR).trans ((cell_other hPR).trans (by assumption)), (cell_other hPR).trans ((cell_other hPR).trans (by assumption)), by simpa using (by assumption), Kept.set2 (Nat.le_refl _) (by assumption) (Nat.le_refl _) hRc⟩) | ((try go_split_ands); exact ⟨cell_alloc ((cell_other hPR).trans ((cell_other hPR).trans (by assumption))), cell_alloc ((cell_other hPR).trans ((cell_other hPR).trans (by assumption))), size_alloc_le (size_set2_le (by assumption)), Kept.alloc (Kept.set2 (Nat.le_refl _) (by assumption) (Nat.le_refl _) hRc) _⟩))
                    clear hK K
                    try simp only [Act.put, List.setIfInBounds_toArray, List.set_cons_zero, List.set_cons_succ]
                    refine wpAnyH_done (by kernel_rfl) ?_ _
                    refine NoPanic.normal ?_
                    go_wp2
                    (try go_split_ands)
                    have q0 : w1.cell? ⟨w.heap.size, 0, none⟩ = some (.int .i64 0) := by go_simp
                    have q1 : w1.cell? ⟨w.heap.size, 1, none⟩ = some (.int .i64 0) := by go_simp
                    refine bodyPost_ret ?_ rfl ⟨_, ⟨s', t', pick3 z (-1) x (IntKind.i64.wrap (IntKind.i64.wrap (IntKind.i64.wrap (4 * s') * 1000001) + y)), rfl, hs', ht', pick3_w64 (w64_of (by decide) (by decide)) hx (w64_iwrap _)⟩, rfl, below_of_grown (Below.refl _ w) (Kept.grown (by assumption)) (Nat.le_refl _) (by intro k hk; cases hk; omega)⟩
                    have hpl := pick3_list hz0 hz1
                    have m0 : ∀ o : Obj, (((w1.setCell ⟨w.heap.size, 0, none⟩ (.int .i64 s')).setCell ⟨w.heap.size, 1, none⟩ (.int .i64 t')).alloc o).cell? ⟨w.heap.size, 0, none⟩ = some (.int .i64 s') := fun o => cell_alloc (by go_simp)
                    have m1 : ∀ o : Obj, (((w1.setCell ⟨w.heap.size, 0, none⟩ (.int .i64 s')).setCell ⟨w.heap.size, 1, none⟩ (.int .i64 t')).alloc o).cell? ⟨w.heap.size, 1, none⟩ = some (.int .i64 t') := fun o => cell_alloc (by go_simp)
                    simp [results, Try.results11, go_sem, q0, q1, hpl, m0, m1]
                  exact AllReadyH.nil
                exact AllReadyH.nil
              exact AllReadyH.nil
            exact AllReadyH.nil
          exact AllReadyH.nil
        exact AllReadyH.nil
      exact AllReadyH.nil

end Go.Proofs.Ytakbkdeeablpjaa
