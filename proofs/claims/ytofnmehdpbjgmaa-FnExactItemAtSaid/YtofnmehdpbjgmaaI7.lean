/- The program's number at a ticket (commit b753dee): it answers as the model. -/
import Derived.Test.YtofnmehdpbjgmaaS7
import Derived.Test.YtofnmehdpbjgmaaI6
namespace Go.Proofs.Ytofnmehdpbjgmaa
open Go.RowKit

set_option maxHeartbeats 2000000 in
theorem iItemAt_no (s t : Int) (a : Option Addr) (n cap : Nat) (xs : List Int) (h tl l k : Int) (w : World) (hi : IntsW (a, n, xs) w) (hx64 : ∀ x ∈ xs, W64 x) (hn : n ≤ 1048576) (hr : ¬ (okR s t xs h tl l ∧ okK k)) : Calls Try.prog 10 #[.agg #[.int .i64 s, .int .i64 t], .agg #[.slice a n cap, .int .i64 h, .int .i64 tl, .int .i64 l], .int .i64 k] w fun e w' => e = .returned (.int .i64 (-1)) ∧ Below w.heap.size w w' := by
  have HQ := Lib.hid ((((((Hold.start w).addI hi).new (.cells #[.int .i64 s, .int .i64 t] 29)).new (.cells #[.slice a n cap, .int .i64 h, .int .i64 tl, .int .i64 l] 31))).new (.cells #[.int .i64 s, .int .i64 t, .int .i64 k] 52))
  simp only [World.size_alloc] at HQ
  by_cases hT : okT s t k
  · have hR : ¬ okR s t xs h tl l := fun hx => hr ⟨hx, hT.2⟩
    have HT := Lib.hid hT
    have HRR := Lib.hid (fun B w hi hB => rRight_any B s t a n cap xs h tl l w hi hB hx64 hT.1 hn)
    rw [show okRB s t xs h tl l = false from decide_eq_false hR] at HRR
    clear hi hx64 hr hR hT
    go_enter Try.func10, Try.ntmps10
    go_wp2_with (first | (go_at_call 28; (with_reducible refine (tRight_yes _ _ _ HT.out _).mono ?_); rintro e w1 ⟨rfl, hb⟩; have HQ1 := Lib.hid (HQ.out.step hb); clear hb HQ; obtain ⟨t0, t1, t2, -⟩ := blk_three HQ1.out.hd; obtain ⟨r0, r1, r2, r3, -⟩ := blk_four HQ1.out.tl.hd; obtain ⟨p0, p1, -⟩ := blk_two HQ1.out.tl.tl.hd) | (go_at_call 29; (with_reducible refine (HRR.out _ _ (Hold.ihd HQ1.out) (Nat.le_refl _)).mono ?_); rintro e w2 ⟨rfl, hb⟩; have HQ2 := Lib.hid (HQ1.out.step hb); clear hb HQ1))
    go_ret
    exact ⟨rfl, HQ2.out.below⟩
  · have HT := Lib.hid hT
    clear hi hx64 hr hT
    go_enter Try.func10, Try.ntmps10
    go_wp2_with (go_at_call 28; (with_reducible refine (tRight_no _ _ _ HT.out _).mono ?_); rintro e w1 ⟨rfl, hb⟩; have HQ1 := Lib.hid (HQ.out.step hb); clear hb HQ; obtain ⟨t0, t1, t2, -⟩ := blk_three HQ1.out.hd; obtain ⟨r0, r1, r2, r3, -⟩ := blk_four HQ1.out.tl.hd; obtain ⟨p0, p1, -⟩ := blk_two HQ1.out.tl.tl.hd)
    go_ret
    exact ⟨rfl, HQ1.out.below⟩

set_option maxRecDepth 100000 in
set_option maxHeartbeats 4000000 in
theorem iItemAt_yes (s t : Int) (a : Option Addr) (n cap : Nat) (xs : List Int) (h tl l k : Int) (w : World) (hi : IntsW (a, n, xs) w) (hx64 : ∀ x ∈ xs, W64 x) (hn : n ≤ 1048576) (hr : okR s t xs h tl l) (hk : okK k) (x : Int) (hx : xs[(placeD s k).toNat]? = some x) : Calls Try.prog 10 #[.agg #[.int .i64 s, .int .i64 t], .agg #[.slice a n cap, .int .i64 h, .int .i64 tl, .int .i64 l], .int .i64 k] w fun e w' => e = .returned (.int .i64 (if x / (4 * s) = cycD s k ∧ ¬ x % (2 * s) = 2 * s - 1 then x % (2 * s) else -1)) ∧ Below w.heap.size w w' := by
  have hp := hr.1
  have hT : okT s t k := ⟨hp, hk⟩
  obtain ⟨g1, g2⟩ := okP_le hp
  obtain ⟨P0, P1⟩ := place_in hT
  have hl : xs.length = n := hi.1
  have hlen : (n : Int) = 2 * s := by rw [← hl]; exact hr.2.1
  obtain ⟨b, off, rfl, -, -⟩ := Ints.at_ hi (k := (placeD s k).toNat) (by show (placeD s k).toNat < n; omega)
  have HQ := Lib.hid ((((((Hold.start w).addI hi).new (.cells #[.int .i64 s, .int .i64 t] 29)).new (.cells #[.slice (some ⟨b, off, none⟩) n cap, .int .i64 h, .int .i64 tl, .int .i64 l] 31))).new (.cells #[.int .i64 s, .int .i64 t, .int .i64 k] 52))
  simp only [World.size_alloc] at HQ
  have HT := Lib.hid hT
  have HRR := Lib.hid (fun B w hi hB => rRight_any B s t (some ⟨b, off, none⟩) n cap xs h tl l w hi hB hx64 hp hn)
  rw [show okRB s t xs h tl l = true from decide_eq_true hr] at HRR
  have HPL := Lib.hid (tplace_yes s t k hT)
  have HCY := Lib.hid (tcycle_yes s t k hT)
  have HNO := Lib.hid (none_any s t g1 g2)
  have HEN := Lib.hid (entry_any s t x hp)
  have HXX := Lib.hid hx
  obtain ⟨M, hM⟩ : ∃ M, M = 2 * s - 1 := ⟨_, rfl⟩
  rw [← hM] at HNO ⊢
  generalize placeD s k = P at *
  generalize cycD s k = Y at *
  generalize x / (4 * s) = C at *
  generalize (x / (2 * s) % 2 == 1) = Z at *
  generalize x % (2 * s) = I at *
  have hlt : P < n := by omega
  clear hi hx64 hr hk hp hT hx hM P1 hlen g1 g2
  go_enter Try.func10, Try.ntmps10
  go_wp2_with (first | (go_at_call 28; (with_reducible refine (tRight_yes _ _ _ HT.out _).mono ?_); rintro e w1 ⟨rfl, hb⟩; have HQ1 := Lib.hid (HQ.out.step hb); clear hb HQ; obtain ⟨t0, t1, t2, -⟩ := blk_three HQ1.out.hd; obtain ⟨r0, r1, r2, r3, -⟩ := blk_four HQ1.out.tl.hd; obtain ⟨p0, p1, -⟩ := blk_two HQ1.out.tl.tl.hd) | (go_at_call 29; (with_reducible refine (HRR.out _ _ (Hold.ihd HQ1.out) (Nat.le_refl _)).mono ?_); rintro e w2 ⟨rfl, hb⟩; have HQ2 := Lib.hid (HQ1.out.step hb); clear hb HQ1))
  go_cut [8] (fun s1 wx => Points (.cells #[.int .i64 C, .bool Z, .int .i64 I] 46) (fun _ w' => Hold w.heap.size (w.heap.size + 1 + 1 + 1) [(w.heap.size + 1 + 1, .cells #[.int .i64 s, .int .i64 t, .int .i64 k] 52), (w.heap.size + 1, .cells #[.slice (some ⟨b, off, none⟩) n cap, .int .i64 h, .int .i64 tl, .int .i64 l] 31), (w.heap.size, .cells #[.int .i64 s, .int .i64 t] 29)] [(some ⟨b, off, none⟩, n, xs)] w w') s1 wx)
  case first =>
    as_aux_lemma =>
      have hF : ∀ {w' : World}, Hold w.heap.size (w.heap.size + 1 + 1 + 1) [(w.heap.size + 1 + 1, .cells #[.int .i64 s, .int .i64 t, .int .i64 k] 52), (w.heap.size + 1, .cells #[.slice (some ⟨b, off, none⟩) n cap, .int .i64 h, .int .i64 tl, .int .i64 l] 31), (w.heap.size, .cells #[.int .i64 s, .int .i64 t] 29)] [(some ⟨b, off, none⟩, n, xs)] w w' → w'.cell? ⟨w.heap.size + 1 + 1, 0, none⟩ = some (.int .i64 s) ∧ w'.cell? ⟨w.heap.size + 1 + 1, 1, none⟩ = some (.int .i64 t) ∧ w'.cell? ⟨w.heap.size + 1 + 1, 2, none⟩ = some (.int .i64 k) ∧ w'.cell? ⟨w.heap.size + 1, 0, none⟩ = some (.slice (some ⟨b, off, none⟩) n cap) ∧ w'.cell? ⟨w.heap.size + 1, 1, none⟩ = some (.int .i64 h) ∧ w'.cell? ⟨w.heap.size + 1, 2, none⟩ = some (.int .i64 tl) ∧ w'.cell? ⟨w.heap.size + 1, 3, none⟩ = some (.int .i64 l) ∧ w'.cell? ⟨w.heap.size, 0, none⟩ = some (.int .i64 s) ∧ w'.cell? ⟨w.heap.size, 1, none⟩ = some (.int .i64 t) ∧ w'.cell? ⟨b, off + P.toNat, none⟩ = some (.int .i64 x) ∧ Hold w.heap.size (w.heap.size + 1 + 1 + 1) [(w.heap.size + 1 + 1, .cells #[.int .i64 s, .int .i64 t, .int .i64 k] 52), (w.heap.size + 1, .cells #[.slice (some ⟨b, off, none⟩) n cap, .int .i64 h, .int .i64 tl, .int .i64 l] 31), (w.heap.size, .cells #[.int .i64 s, .int .i64 t] 29)] [(some ⟨b, off, none⟩, n, xs)] w w' := fun h => ⟨blk_is h.hd (by rfl), blk_is h.hd (by rfl), blk_is h.hd (by rfl), blk_is h.tl.hd (by rfl), blk_is h.tl.hd (by rfl), blk_is h.tl.hd (by rfl), blk_is h.tl.hd (by rfl), blk_is h.tl.tl.hd (by rfl), blk_is h.tl.tl.hd (by rfl), IntsW.cell h.ints HXX.out, h⟩
      have hs0 := HQ2.out.size
      go_region_held3 (fun w' => w'.cell? ⟨w.heap.size + 1 + 1, 0, none⟩ = some (.int .i64 s) ∧ w'.cell? ⟨w.heap.size + 1 + 1, 1, none⟩ = some (.int .i64 t) ∧ w'.cell? ⟨w.heap.size + 1 + 1, 2, none⟩ = some (.int .i64 k) ∧ w'.cell? ⟨w.heap.size + 1, 0, none⟩ = some (.slice (some ⟨b, off, none⟩) n cap) ∧ w'.cell? ⟨w.heap.size + 1, 1, none⟩ = some (.int .i64 h) ∧ w'.cell? ⟨w.heap.size + 1, 2, none⟩ = some (.int .i64 tl) ∧ w'.cell? ⟨w.heap.size + 1, 3, none⟩ = some (.int .i64 l) ∧ w'.cell? ⟨w.heap.size, 0, none⟩ = some (.int .i64 s) ∧ w'.cell? ⟨w.heap.size, 1, none⟩ = some (.int .i64 t) ∧ w'.cell? ⟨b, off + P.toNat, none⟩ = some (.int .i64 x) ∧ Hold w.heap.size (w.heap.size + 1 + 1 + 1) [(w.heap.size + 1 + 1, .cells #[.int .i64 s, .int .i64 t, .int .i64 k] 52), (w.heap.size + 1, .cells #[.slice (some ⟨b, off, none⟩) n cap, .int .i64 h, .int .i64 tl, .int .i64 l] 31), (w.heap.size, .cells #[.int .i64 s, .int .i64 t] 29)] [(some ⟨b, off, none⟩, n, xs)] w w')
        (with_reducible refine hF ?_; repeat' (first | with_reducible exact HQ2.out | with_reducible exact htc | with_reducible refine Hold.drew ?_ | with_reducible refine Hold.alloc ?_ _ | ((with_reducible refine Hold.set ?_ ?_ _ _); rotate_left; focus (first | omega | (simp; done) | (simp; omega)))))
        ((first
          | (go_at_call 30; (try go_split_ands); (with_reducible refine (HPL.out _).mono ?_); rintro e wx ⟨rfl, hbx⟩; have htc := Hold.step (by assumption) hbx; (first | (have hG := blk_below hG hbx (blk_lt hG); obtain ⟨x0, x1, x2, f0, f1, f2⟩ := blk_three hG) | (have hG := new_below hbx; (try simp only [World.size_alloc] at hG); obtain ⟨x0, x1, x2, f0, f1, f2⟩ := blk_three hG) | (have hG := new_drew_below hbx; (try simp only [World.size_alloc] at hG); obtain ⟨x0, x1, x2, f0, f1, f2⟩ := blk_three hG) | skip); have hsw := Hold.size htc)
          | (go_at_call 31; (try go_split_ands); (with_reducible refine (HEN.out _).mono ?_); rintro e wx ⟨rfl, hbx⟩; have htc := Hold.step (by assumption) hbx; (first | (have hG := blk_below hG hbx (blk_lt hG); obtain ⟨x0, x1, x2, f0, f1, f2⟩ := blk_three hG) | (have hG := new_below hbx; (try simp only [World.size_alloc] at hG); obtain ⟨x0, x1, x2, f0, f1, f2⟩ := blk_three hG) | (have hG := new_drew_below hbx; (try simp only [World.size_alloc] at hG); obtain ⟨x0, x1, x2, f0, f1, f2⟩ := blk_three hG) | skip); have hsw := Hold.size htc)))
      all_goals
        go_wp2_with fail
        go_meet
        (try go_split_ands)
        refine ⟨_, rfl, ?_, by assumption⟩
        first
          | exact blk_new _ _
          | exact blk_set3 hG
          | exact blk_set3 (blk_new _ _)
  case rest =>
    obtain ⟨g, rfl, hg, hk⟩ := hcut
    have HQ3 := Lib.hid (hk.add hg)
    clear hg hk HQ2 t0 t1 t2 r0 r1 r2 r3 p0 p1
    by_cases hc : C = Y
    · have hd : (C != Y) = false := by simp [hc]
      go_upto_region 5 with fail
      go_cut [40] (fun s1 wx => s1 = .bool (I == M) ∧ Hold w.heap.size (wc.heap.size) [(g, .cells #[.int .i64 C, .bool Z, .int .i64 I] 46), (w.heap.size + 1 + 1, .cells #[.int .i64 s, .int .i64 t, .int .i64 k] 52), (w.heap.size + 1, .cells #[.slice (some ⟨b, off, none⟩) n cap, .int .i64 h, .int .i64 tl, .int .i64 l] 31), (w.heap.size, .cells #[.int .i64 s, .int .i64 t] 29)] [(some ⟨b, off, none⟩, n, xs)] w wx)
      case first =>
        as_aux_lemma =>
          have hF : ∀ {w' : World}, Hold w.heap.size (wc.heap.size) [(g, .cells #[.int .i64 C, .bool Z, .int .i64 I] 46), (w.heap.size + 1 + 1, .cells #[.int .i64 s, .int .i64 t, .int .i64 k] 52), (w.heap.size + 1, .cells #[.slice (some ⟨b, off, none⟩) n cap, .int .i64 h, .int .i64 tl, .int .i64 l] 31), (w.heap.size, .cells #[.int .i64 s, .int .i64 t] 29)] [(some ⟨b, off, none⟩, n, xs)] w w' → w'.cell? ⟨g, 0, none⟩ = some (.int .i64 C) ∧ w'.cell? ⟨g, 1, none⟩ = some (.bool Z) ∧ w'.cell? ⟨g, 2, none⟩ = some (.int .i64 I) ∧ w'.cell? ⟨w.heap.size + 1 + 1, 0, none⟩ = some (.int .i64 s) ∧ w'.cell? ⟨w.heap.size + 1 + 1, 1, none⟩ = some (.int .i64 t) ∧ w'.cell? ⟨w.heap.size + 1 + 1, 2, none⟩ = some (.int .i64 k) ∧ w'.cell? ⟨w.heap.size, 0, none⟩ = some (.int .i64 s) ∧ w'.cell? ⟨w.heap.size, 1, none⟩ = some (.int .i64 t) ∧ Hold w.heap.size (wc.heap.size) [(g, .cells #[.int .i64 C, .bool Z, .int .i64 I] 46), (w.heap.size + 1 + 1, .cells #[.int .i64 s, .int .i64 t, .int .i64 k] 52), (w.heap.size + 1, .cells #[.slice (some ⟨b, off, none⟩) n cap, .int .i64 h, .int .i64 tl, .int .i64 l] 31), (w.heap.size, .cells #[.int .i64 s, .int .i64 t] 29)] [(some ⟨b, off, none⟩, n, xs)] w w' := fun h => ⟨blk_is h.hd (by rfl), blk_is h.hd (by rfl), blk_is h.hd (by rfl), blk_is h.tl.hd (by rfl), blk_is h.tl.hd (by rfl), blk_is h.tl.hd (by rfl), blk_is h.tl.tl.tl.hd (by rfl), blk_is h.tl.tl.tl.hd (by rfl), h⟩
          go_region_held3 (fun w' => w'.cell? ⟨g, 0, none⟩ = some (.int .i64 C) ∧ w'.cell? ⟨g, 1, none⟩ = some (.bool Z) ∧ w'.cell? ⟨g, 2, none⟩ = some (.int .i64 I) ∧ w'.cell? ⟨w.heap.size + 1 + 1, 0, none⟩ = some (.int .i64 s) ∧ w'.cell? ⟨w.heap.size + 1 + 1, 1, none⟩ = some (.int .i64 t) ∧ w'.cell? ⟨w.heap.size + 1 + 1, 2, none⟩ = some (.int .i64 k) ∧ w'.cell? ⟨w.heap.size, 0, none⟩ = some (.int .i64 s) ∧ w'.cell? ⟨w.heap.size, 1, none⟩ = some (.int .i64 t) ∧ Hold w.heap.size (wc.heap.size) [(g, .cells #[.int .i64 C, .bool Z, .int .i64 I] 46), (w.heap.size + 1 + 1, .cells #[.int .i64 s, .int .i64 t, .int .i64 k] 52), (w.heap.size + 1, .cells #[.slice (some ⟨b, off, none⟩) n cap, .int .i64 h, .int .i64 tl, .int .i64 l] 31), (w.heap.size, .cells #[.int .i64 s, .int .i64 t] 29)] [(some ⟨b, off, none⟩, n, xs)] w w')
            (with_reducible refine hF ?_; repeat' (first | with_reducible exact HQ3.out | with_reducible exact htc | with_reducible refine Hold.drew ?_ | with_reducible refine Hold.alloc ?_ _))
            ((first
              | (go_at_call 32; (try go_split_ands); (with_reducible refine (HCY.out _).mono ?_); rintro e wx ⟨rfl, hbx⟩; have htc := Hold.step (by assumption) hbx)
              | (go_at_call 33; (try go_split_ands); (with_reducible refine (HNO.out _).mono ?_); rintro e wx ⟨rfl, hbx⟩; have htc := Hold.step (by assumption) hbx)))
          all_goals
            go_wp2_with fail
            go_meet
            (try go_split_ands)
            exact ⟨rfl, by assumption⟩
      case rest =>
        obtain ⟨rfl, hk⟩ := hcut
        have HQ4 := Lib.hid hk
        clear hk HQ3
        obtain ⟨q0, q1, q2, -⟩ := blk_three HQ4.out.hd
        by_cases hm : I = M
        · have hd2 : (I == M) = true := by simp [hm]
          go_wp2
          go_ret
          exact ⟨by simp [hc, hm], HQ4.out.below⟩
        · have hd2 : (I == M) = false := by simp [hm]
          go_wp2
          go_ret
          exact ⟨by simp [hc, hm], HQ4.out.below⟩
    · have hd : (C != Y) = true := by simp [hc]
      go_upto_region 5 with fail
      go_cut [40] (fun s1 wx => s1 = .bool true ∧ Hold w.heap.size (wc.heap.size) [(g, .cells #[.int .i64 C, .bool Z, .int .i64 I] 46), (w.heap.size + 1 + 1, .cells #[.int .i64 s, .int .i64 t, .int .i64 k] 52), (w.heap.size + 1, .cells #[.slice (some ⟨b, off, none⟩) n cap, .int .i64 h, .int .i64 tl, .int .i64 l] 31), (w.heap.size, .cells #[.int .i64 s, .int .i64 t] 29)] [(some ⟨b, off, none⟩, n, xs)] w wx)
      case first =>
        as_aux_lemma =>
          have hF : ∀ {w' : World}, Hold w.heap.size (wc.heap.size) [(g, .cells #[.int .i64 C, .bool Z, .int .i64 I] 46), (w.heap.size + 1 + 1, .cells #[.int .i64 s, .int .i64 t, .int .i64 k] 52), (w.heap.size + 1, .cells #[.slice (some ⟨b, off, none⟩) n cap, .int .i64 h, .int .i64 tl, .int .i64 l] 31), (w.heap.size, .cells #[.int .i64 s, .int .i64 t] 29)] [(some ⟨b, off, none⟩, n, xs)] w w' → w'.cell? ⟨g, 0, none⟩ = some (.int .i64 C) ∧ w'.cell? ⟨g, 1, none⟩ = some (.bool Z) ∧ w'.cell? ⟨g, 2, none⟩ = some (.int .i64 I) ∧ w'.cell? ⟨w.heap.size + 1 + 1, 0, none⟩ = some (.int .i64 s) ∧ w'.cell? ⟨w.heap.size + 1 + 1, 1, none⟩ = some (.int .i64 t) ∧ w'.cell? ⟨w.heap.size + 1 + 1, 2, none⟩ = some (.int .i64 k) ∧ w'.cell? ⟨w.heap.size, 0, none⟩ = some (.int .i64 s) ∧ w'.cell? ⟨w.heap.size, 1, none⟩ = some (.int .i64 t) ∧ Hold w.heap.size (wc.heap.size) [(g, .cells #[.int .i64 C, .bool Z, .int .i64 I] 46), (w.heap.size + 1 + 1, .cells #[.int .i64 s, .int .i64 t, .int .i64 k] 52), (w.heap.size + 1, .cells #[.slice (some ⟨b, off, none⟩) n cap, .int .i64 h, .int .i64 tl, .int .i64 l] 31), (w.heap.size, .cells #[.int .i64 s, .int .i64 t] 29)] [(some ⟨b, off, none⟩, n, xs)] w w' := fun h => ⟨blk_is h.hd (by rfl), blk_is h.hd (by rfl), blk_is h.hd (by rfl), blk_is h.tl.hd (by rfl), blk_is h.tl.hd (by rfl), blk_is h.tl.hd (by rfl), blk_is h.tl.tl.tl.hd (by rfl), blk_is h.tl.tl.tl.hd (by rfl), h⟩
          refine wp_region_noPanic ?_
          refine wp_region_held_drew (S := (fun w' => w'.cell? ⟨g, 0, none⟩ = some (.int .i64 C) ∧ w'.cell? ⟨g, 1, none⟩ = some (.bool Z) ∧ w'.cell? ⟨g, 2, none⟩ = some (.int .i64 I) ∧ w'.cell? ⟨w.heap.size + 1 + 1, 0, none⟩ = some (.int .i64 s) ∧ w'.cell? ⟨w.heap.size + 1 + 1, 1, none⟩ = some (.int .i64 t) ∧ w'.cell? ⟨w.heap.size + 1 + 1, 2, none⟩ = some (.int .i64 k) ∧ w'.cell? ⟨w.heap.size, 0, none⟩ = some (.int .i64 s) ∧ w'.cell? ⟨w.heap.size, 1, none⟩ = some (.int .i64 t) ∧ Hold w.heap.size (wc.heap.size) [(g, .cells #[.int .i64 C, .bool Z, .int .i64 I] 46), (w.heap.size + 1 + 1, .cells #[.int .i64 s, .int .i64 t, .int .i64 k] 52), (w.heap.size + 1, .cells #[.slice (some ⟨b, off, none⟩) n cap, .int .i64 h, .int .i64 tl, .int .i64 l] 31), (w.heap.size, .cells #[.int .i64 s, .int .i64 t] 29)] [(some ⟨b, off, none⟩, n, xs)] w w')) (by kernel_rfl) ?_ (fun hHeld => ?_)
          · (try dsimp only); (with_reducible refine hF ?_; repeat' (first | with_reducible exact HQ3.out | with_reducible exact htc | with_reducible refine Hold.drew ?_ | with_reducible refine Hold.alloc ?_ _))
          refine wpAnyH_take (i := 0) (v := ?_) rfl (by kernel_rfl) (by kernel_rfl) (by kernel_rfl) (fun _ _ _ h => h) (Or.inl ⟨by rfl, ?_⟩) (by assumption) ?_
          rotate_left
          · intro w hSw; (try dsimp only at hSw); go_simp; (try (with_reducible rfl))
          try simp only [Act.put, List.setIfInBounds_toArray, List.set_cons_zero, List.set_cons_succ, List.getElem_toArray, List.getElem_cons_zero, List.getElem_cons_succ]
          refine wpAnyH_take (i := 1) (v := ?_) rfl (by kernel_rfl) (by kernel_rfl) (by kernel_rfl) (fun _ _ _ h => h) (Or.inl ⟨by rfl, ?_⟩) (by assumption) ?_
          rotate_left
          · intro w hSw; (try dsimp only at hSw); go_simp; (try (with_reducible rfl))
          try simp only [Act.put, List.setIfInBounds_toArray, List.set_cons_zero, List.set_cons_succ, List.getElem_toArray, List.getElem_cons_zero, List.getElem_cons_succ]
          refine wpAnyH_take (i := 2) (v := ?_) rfl (by kernel_rfl) (by kernel_rfl) (by kernel_rfl) (fun _ _ _ h => h) (Or.inl ⟨by rfl, ?_⟩) (by assumption) ?_
          rotate_left
          · intro w hSw; (try dsimp only at hSw); go_simp; (try (with_reducible rfl))
          try simp only [Act.put, List.setIfInBounds_toArray, List.set_cons_zero, List.set_cons_succ, List.getElem_toArray, List.getElem_cons_zero, List.getElem_cons_succ]
          refine wpAnyH_ready (rs := [3]) (by kernel_rfl) (by simp) ?_
          refine AllReadyH.cons rfl (fun K hK => ?_) ?_
          · go_simp
            (first | (go_at_call 32; (try go_split_ands); (with_reducible refine (HCY.out _).mono ?_); rintro e wx ⟨rfl, hbx⟩; have htc := Hold.step (by assumption) hbx) | (go_at_call 33; (try go_split_ands); (with_reducible refine (HNO.out _).mono ?_); rintro e wx ⟨rfl, hbx⟩; have htc := Hold.step (by assumption) hbx))
            (try (go_wp2_with fail))
            refine hK.out _ _ ?_ (fun hHeld => ?_)
            · (try dsimp only); (with_reducible refine hF ?_; repeat' (first | with_reducible exact HQ3.out | with_reducible exact htc | with_reducible refine Hold.drew ?_ | with_reducible refine Hold.alloc ?_ _))
            clear hK K
            try simp only [Act.put, List.setIfInBounds_toArray, List.set_cons_zero, List.set_cons_succ, List.getElem_toArray, List.getElem_cons_zero, List.getElem_cons_succ]
            refine wpAnyH_take (i := 4) (v := ?_) rfl (by kernel_rfl) (by kernel_rfl) (by kernel_rfl) (fun _ _ _ h => h) (Or.inl ⟨by rfl, ?_⟩) (by assumption) ?_
            rotate_left
            · intro w hSw; (try dsimp only at hSw); go_simp; (try (with_reducible rfl))
            try simp only [Act.put, List.setIfInBounds_toArray, List.set_cons_zero, List.set_cons_succ, List.getElem_toArray, List.getElem_cons_zero, List.getElem_cons_succ]
            refine wpAnyH_take (i := 5) (v := ?_) rfl (by kernel_rfl) (by kernel_rfl) (by kernel_rfl) (fun _ _ _ h => h) (Or.inl ⟨by rfl, ?_⟩) (by assumption) ?_
            rotate_left
            · intro w hSw; (try dsimp only at hSw); go_simp; (try (with_reducible rfl))
            try simp only [Act.put, List.setIfInBounds_toArray, List.set_cons_zero, List.set_cons_succ, List.getElem_toArray, List.getElem_cons_zero, List.getElem_cons_succ]
            refine wpAnyH_take (i := 6) (v := undef) rfl (by kernel_rfl) (by kernel_rfl) (by kernel_rfl) (fun _ _ _ h => h) (Or.inr ⟨by rfl, rfl⟩) (by assumption) ?_
            try simp only [Act.put, List.setIfInBounds_toArray, List.set_cons_zero, List.set_cons_succ, List.getElem_toArray, List.getElem_cons_zero, List.getElem_cons_succ]
            refine wpAnyH_take (i := 7) (v := undef) rfl (by kernel_rfl) (by kernel_rfl) (by kernel_rfl) (fun _ _ _ h => h) (Or.inr ⟨by rfl, rfl⟩) (by assumption) ?_
            try simp only [Act.put, List.setIfInBounds_toArray, List.set_cons_zero, List.set_cons_succ, List.getElem_toArray, List.getElem_cons_zero, List.getElem_cons_succ]
            refine wpAnyH_take (i := 8) (v := undef) rfl (by kernel_rfl) (by kernel_rfl) (by kernel_rfl) (fun _ _ _ h => h) (Or.inr ⟨by rfl, rfl⟩) (by assumption) ?_
            try simp only [Act.put, List.setIfInBounds_toArray, List.set_cons_zero, List.set_cons_succ, List.getElem_toArray, List.getElem_cons_zero, List.getElem_cons_succ]
            refine wpAnyH_take (i := 9) (v := undef) rfl (by kernel_rfl) (by kernel_rfl) (by kernel_rfl) (fun _ _ _ h => h) (Or.inr ⟨by rfl, rfl⟩) (by assumption) ?_
            try simp only [Act.put, List.setIfInBounds_toArray, List.set_cons_zero, List.set_cons_succ, List.getElem_toArray, List.getElem_cons_zero, List.getElem_cons_succ]
            refine wpAnyH_take (i := 10) (v := undef) rfl (by kernel_rfl) (by kernel_rfl) (by kernel_rfl) (fun _ _ _ h => h) (Or.inr ⟨by rfl, rfl⟩) (by assumption) ?_
            try simp only [Act.put, List.setIfInBounds_toArray, List.set_cons_zero, List.set_cons_succ, List.getElem_toArray, List.getElem_cons_zero, List.getElem_cons_succ]
            refine wpAnyH_take (i := 11) (v := ?_) rfl (by kernel_rfl) (by kernel_rfl) (by kernel_rfl) (fun _ _ _ h => h) (Or.inl ⟨by rfl, ?_⟩) (by assumption) ?_
            rotate_left
            · intro w hSw; (try dsimp only at hSw); go_simp; (try (with_reducible rfl))
            try simp only [Act.put, List.setIfInBounds_toArray, List.set_cons_zero, List.set_cons_succ, List.getElem_toArray, List.getElem_cons_zero, List.getElem_cons_succ]
            refine wpAnyH_done (by kernel_rfl) ?_ _
            refine NoPanic.normal ?_
            go_wp2_with fail
            go_meet
            (try go_split_ands)
            exact ⟨rfl, by assumption⟩
          exact AllReadyH.nil
      case rest =>
        obtain ⟨rfl, hk⟩ := hcut
        go_wp2
        go_ret
        exact ⟨by simp [hc], hk.below⟩

theorem iItemAt (s t : Int) (a : Option Addr) (n cap : Nat) (xs : List Int) (h tl l k : Int) (w : World) (hi : IntsW (a, n, xs) w) (hx64 : ∀ x ∈ xs, W64 x) (hn : n ≤ 1048576) : Calls Try.prog 10 #[.agg #[.int .i64 s, .int .i64 t], .agg #[.slice a n cap, .int .i64 h, .int .i64 tl, .int .i64 l], .int .i64 k] w fun e w' => e = .returned (.int .i64 (itemV s t xs h tl l k)) ∧ Below w.heap.size w w' := by
  by_cases hr : okR s t xs h tl l ∧ okK k
  · obtain ⟨P0, P1⟩ := place_in ⟨hr.1.1, hr.2⟩
    have hlt : (placeD s k).toNat < xs.length := by have := hr.1.2.1; omega
    have hx := List.getElem?_eq_getElem hlt
    have := iItemAt_yes s t a n cap xs h tl l k w hi hx64 hn hr.1 hr.2 _ hx
    rw [show itemV s t xs h tl l k = _ from if_pos hr]
    rwa [show xs.getD (placeD s k).toNat 0 = xs[(placeD s k).toNat] by rw [List.getD_eq_getElem?_getD, hx]; rfl]
  · rw [show itemV s t xs h tl l k = _ from if_neg hr]
    exact iItemAt_no s t a n cap xs h tl l k w hi hx64 hn hr

end Go.Proofs.Ytofnmehdpbjgmaa
