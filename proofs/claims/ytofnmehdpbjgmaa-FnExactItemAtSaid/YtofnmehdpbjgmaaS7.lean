/- The model of what is in a ring: the number at a ticket. -/
import Derived.Test.YtofnmehdpbjgmaaS6b
import Derived.Test.YtofnmehdpbjgmaaS5b
import Derived.Test.YtofnmehdpbjgmaaHold
import Derived.Deep.RegionHeld3
import Derived.Deep.DeepCutAuto
namespace Go.Proofs.Ytofnmehdpbjgmaa
open Go.RowKit

theorem place_in {s t k : Int} (h : okT s t k) : 0 ≤ placeD s k ∧ placeD s k ≤ 2 * s - 1 := by
  have := spot_in (okJ_mod h)
  exact ⟨this.1, this.2.1⟩

theorem specRingW (s t : Int) (a : Option Addr) (n cap : Nat) (xs : List Int) (h tl l : Int) (hx64 : ∀ x ∈ xs, W64 x) (hn : n ≤ 1048576) (w : World) (hi : IntsW (a, n, xs) w) :
    Calls Try.prog 22 #[.agg #[.int .i64 s, .int .i64 t], .agg #[.slice a n cap, .int .i64 h, .int .i64 tl, .int .i64 l]] w fun e w' => e = .returned (.bool (okRB s t xs h tl l)) ∧ Below w.heap.size w w' :=
  specRingOk w.heap.size s t a n cap xs h tl l w hi (Nat.le_refl _) hx64 hn

theorem specRing_yes (s t : Int) (a : Option Addr) (n cap : Nat) (xs : List Int) (h tl l : Int) (hx64 : ∀ x ∈ xs, W64 x) (hn : n ≤ 1048576) (hr : okR s t xs h tl l) (w : World) (hi : IntsW (a, n, xs) w) :
    Calls Try.prog 22 #[.agg #[.int .i64 s, .int .i64 t], .agg #[.slice a n cap, .int .i64 h, .int .i64 tl, .int .i64 l]] w fun e w' => e = .returned (.bool true) ∧ Below w.heap.size w w' := by
  have := specRingW s t a n cap xs h tl l hx64 hn w hi
  rwa [show okRB s t xs h tl l = true from decide_eq_true hr] at this

theorem specRing_no (s t : Int) (a : Option Addr) (n cap : Nat) (xs : List Int) (h tl l : Int) (hx64 : ∀ x ∈ xs, W64 x) (hn : n ≤ 1048576) (hr : ¬ okR s t xs h tl l) (w : World) (hi : IntsW (a, n, xs) w) :
    Calls Try.prog 22 #[.agg #[.int .i64 s, .int .i64 t], .agg #[.slice a n cap, .int .i64 h, .int .i64 tl, .int .i64 l]] w fun e w' => e = .returned (.bool false) ∧ Below w.heap.size w w' := by
  have := specRingW s t a n cap xs h tl l hx64 hn w hi
  rwa [show okRB s t xs h tl l = false from decide_eq_false hr] at this

set_option maxRecDepth 100000 in
set_option maxHeartbeats 2000000 in
theorem itemAt_yes (s t : Int) (a : Option Addr) (n cap : Nat) (xs : List Int) (h tl l k : Int) (w : World) (hi : IntsW (a, n, xs) w) (hx64 : ∀ x ∈ xs, W64 x) (hn : n ≤ 1048576) (hr : okR s t xs h tl l) (hk : okK k) (x : Int) (hx : xs[(placeD s k).toNat]? = some x) :
    Calls Try.prog 7 #[.agg #[.int .i64 s, .int .i64 t], .agg #[.slice a n cap, .int .i64 h, .int .i64 tl, .int .i64 l], .int .i64 k] w fun e w' => e = .returned (.int .i64 (if x / (4 * s) = cycD s k ∧ ¬ x % (2 * s) = 2 * s - 1 then x % (2 * s) else -1)) ∧ Below w.heap.size w w' := by
  have hp := hr.1
  have hT : okT s t k := ⟨hp, hk⟩
  obtain ⟨P0, P1⟩ := place_in hT
  have hW : okW s t x := hr.2.2.2.2.2 x (List.mem_of_getElem? hx)
  have hl : xs.length = n := hi.1
  have hlen : (n : Int) = 2 * s := by rw [← hl]; exact hr.2.1
  obtain ⟨b, off, rfl, -, -⟩ := Ints.at_ hi (k := (placeD s k).toNat) (by show (placeD s k).toNat < n; omega)
  have HQ := Lib.hid ((((Hold.start w).addI hi).new (.cells #[.int .i64 s, .int .i64 t] 29)).new (.cells #[.slice (some ⟨b, off, none⟩) n cap, .int .i64 h, .int .i64 tl, .int .i64 l] 31))
  simp only [World.size_alloc] at HQ
  have HK := Lib.hid hk
  have HRK := Lib.hid (specRing_yes s t (some ⟨b, off, none⟩) n cap xs h tl l hx64 hn hr)
  have HPL := Lib.hid (specPlace_yes s t k hT)
  have HCY := Lib.hid (specCyc_yes s t k hT)
  have HNO := Lib.hid (specNone_yes s t hp)
  have HEN := Lib.hid (specEntryOf_yes s t x hW)
  have HXX := Lib.hid hx
  obtain ⟨M, hM⟩ : ∃ M, M = 2 * s - 1 := ⟨_, rfl⟩
  rw [← hM] at HNO ⊢
  unfold entD at HEN
  generalize placeD s k = P at *
  generalize cycD s k = Y at *
  generalize x / (4 * s) = C at *
  generalize (x / (2 * s) % 2 == 1) = Z at *
  generalize x % (2 * s) = I at *
  have hlt : P < n := by omega
  clear hi hx64 hr hk hp hT hW hx hM P1 hlen
  go_enter Try.func7, Try.ntmps7
  go_wp2_with (first | (go_at_call 22; (with_reducible refine (HRK.out _ (Hold.ints HQ.out)).mono ?_); rintro e w1 ⟨rfl, hb⟩; have HQ1 := Lib.hid (HQ.out.step hb); clear hb HQ) | (go_at_call 23; (with_reducible refine (specTicket_yes _ HK.out _).mono ?_); rintro e w' ⟨rfl, rfl⟩))
  go_cut [7] (fun s1 wx => Points (.cells #[.int .i64 C, .bool Z, .int .i64 I] 46) (fun _ w' => Hold w.heap.size (w.heap.size + 1 + 1) [(w.heap.size + 1, .cells #[.slice (some ⟨b, off, none⟩) n cap, .int .i64 h, .int .i64 tl, .int .i64 l] 31), (w.heap.size, .cells #[.int .i64 s, .int .i64 t] 29)] [(some ⟨b, off, none⟩, n, xs)] w w') s1 wx)
  case first =>
    as_aux_lemma =>
      have hF : ∀ {w' : World}, Hold w.heap.size (w.heap.size + 1 + 1) [(w.heap.size + 1, .cells #[.slice (some ⟨b, off, none⟩) n cap, .int .i64 h, .int .i64 tl, .int .i64 l] 31), (w.heap.size, .cells #[.int .i64 s, .int .i64 t] 29)] [(some ⟨b, off, none⟩, n, xs)] w w' → w'.cell? ⟨w.heap.size + 1, 0, none⟩ = some (.slice (some ⟨b, off, none⟩) n cap) ∧ w'.cell? ⟨w.heap.size + 1, 1, none⟩ = some (.int .i64 h) ∧ w'.cell? ⟨w.heap.size + 1, 2, none⟩ = some (.int .i64 tl) ∧ w'.cell? ⟨w.heap.size + 1, 3, none⟩ = some (.int .i64 l) ∧ w'.cell? ⟨w.heap.size, 0, none⟩ = some (.int .i64 s) ∧ w'.cell? ⟨w.heap.size, 1, none⟩ = some (.int .i64 t) ∧ w'.cell? ⟨b, off + P.toNat, none⟩ = some (.int .i64 x) ∧ Hold w.heap.size (w.heap.size + 1 + 1) [(w.heap.size + 1, .cells #[.slice (some ⟨b, off, none⟩) n cap, .int .i64 h, .int .i64 tl, .int .i64 l] 31), (w.heap.size, .cells #[.int .i64 s, .int .i64 t] 29)] [(some ⟨b, off, none⟩, n, xs)] w w' := fun h => ⟨blk_is h.hd (by rfl), blk_is h.hd (by rfl), blk_is h.hd (by rfl), blk_is h.hd (by rfl), blk_is h.tl.hd (by rfl), blk_is h.tl.hd (by rfl), IntsW.cell h.ints HXX.out, h⟩
      have hs0 := HQ1.out.size
      go_region_held3 (fun w' => w'.cell? ⟨w.heap.size + 1, 0, none⟩ = some (.slice (some ⟨b, off, none⟩) n cap) ∧ w'.cell? ⟨w.heap.size + 1, 1, none⟩ = some (.int .i64 h) ∧ w'.cell? ⟨w.heap.size + 1, 2, none⟩ = some (.int .i64 tl) ∧ w'.cell? ⟨w.heap.size + 1, 3, none⟩ = some (.int .i64 l) ∧ w'.cell? ⟨w.heap.size, 0, none⟩ = some (.int .i64 s) ∧ w'.cell? ⟨w.heap.size, 1, none⟩ = some (.int .i64 t) ∧ w'.cell? ⟨b, off + P.toNat, none⟩ = some (.int .i64 x) ∧ Hold w.heap.size (w.heap.size + 1 + 1) [(w.heap.size + 1, .cells #[.slice (some ⟨b, off, none⟩) n cap, .int .i64 h, .int .i64 tl, .int .i64 l] 31), (w.heap.size, .cells #[.int .i64 s, .int .i64 t] 29)] [(some ⟨b, off, none⟩, n, xs)] w w')
        (with_reducible refine hF ?_; repeat' (first | with_reducible exact HQ1.out | with_reducible exact htc | with_reducible refine Hold.drew ?_ | with_reducible refine Hold.alloc ?_ _ | ((with_reducible refine Hold.set ?_ ?_ _ _); rotate_left; focus (first | omega | (simp; done) | (simp; omega)))))
        ((first
          | (go_at_call 25; (try go_split_ands); (with_reducible refine (HPL.out _).mono ?_); rintro e wx ⟨rfl, hbx⟩; have htc := Hold.step (by assumption) hbx; (first | (have hG := blk_below hG hbx (blk_lt hG); obtain ⟨x0, x1, x2, f0, f1, f2⟩ := blk_three hG) | (have hG := new_below hbx; (try simp only [World.size_alloc] at hG); obtain ⟨x0, x1, x2, f0, f1, f2⟩ := blk_three hG) | (have hG := new_drew_below hbx; (try simp only [World.size_alloc] at hG); obtain ⟨x0, x1, x2, f0, f1, f2⟩ := blk_three hG) | skip); have hsw := Hold.size htc)
          | (go_at_call 24; (try go_split_ands); (with_reducible refine (HEN.out _).mono ?_); rintro e wx ⟨rfl, hbx⟩; have htc := Hold.step (by assumption) hbx; (first | (have hG := blk_below hG hbx (blk_lt hG); obtain ⟨x0, x1, x2, f0, f1, f2⟩ := blk_three hG) | (have hG := new_below hbx; (try simp only [World.size_alloc] at hG); obtain ⟨x0, x1, x2, f0, f1, f2⟩ := blk_three hG) | (have hG := new_drew_below hbx; (try simp only [World.size_alloc] at hG); obtain ⟨x0, x1, x2, f0, f1, f2⟩ := blk_three hG) | skip); have hsw := Hold.size htc)))
      all_goals
        go_wp2_with fail
        go_meet
        (try go_split_ands)
        refine ⟨_, rfl, ?_, by assumption⟩
        first
          | exact blk_new _ _
          | exact blk_set3 hG
          | exact blk_set3 (blk_new _ _)
  case rest =>
    obtain ⟨g, rfl, hg, hk⟩ := hcut
    have HQ2 := Lib.hid (hk.add hg)
    clear hg hk HQ1
    by_cases hc : C = Y
    · have hd : (C != Y) = false := by simp [hc]
      go_upto_region 4 with fail
      go_cut [42] (fun s1 wx => s1 = .bool (I == M) ∧ Hold w.heap.size (wc.heap.size) [(g, .cells #[.int .i64 C, .bool Z, .int .i64 I] 46), (w.heap.size + 1, .cells #[.slice (some ⟨b, off, none⟩) n cap, .int .i64 h, .int .i64 tl, .int .i64 l] 31), (w.heap.size, .cells #[.int .i64 s, .int .i64 t] 29)] [(some ⟨b, off, none⟩, n, xs)] w wx)
      case first =>
        as_aux_lemma =>
          have hF : ∀ {w' : World}, Hold w.heap.size (wc.heap.size) [(g, .cells #[.int .i64 C, .bool Z, .int .i64 I] 46), (w.heap.size + 1, .cells #[.slice (some ⟨b, off, none⟩) n cap, .int .i64 h, .int .i64 tl, .int .i64 l] 31), (w.heap.size, .cells #[.int .i64 s, .int .i64 t] 29)] [(some ⟨b, off, none⟩, n, xs)] w w' → w'.cell? ⟨g, 0, none⟩ = some (.int .i64 C) ∧ w'.cell? ⟨g, 1, none⟩ = some (.bool Z) ∧ w'.cell? ⟨g, 2, none⟩ = some (.int .i64 I) ∧ w'.cell? ⟨w.heap.size, 0, none⟩ = some (.int .i64 s) ∧ w'.cell? ⟨w.heap.size, 1, none⟩ = some (.int .i64 t) ∧ Hold w.heap.size (wc.heap.size) [(g, .cells #[.int .i64 C, .bool Z, .int .i64 I] 46), (w.heap.size + 1, .cells #[.slice (some ⟨b, off, none⟩) n cap, .int .i64 h, .int .i64 tl, .int .i64 l] 31), (w.heap.size, .cells #[.int .i64 s, .int .i64 t] 29)] [(some ⟨b, off, none⟩, n, xs)] w w' := fun h => ⟨blk_is h.hd (by rfl), blk_is h.hd (by rfl), blk_is h.hd (by rfl), blk_is h.tl.tl.hd (by rfl), blk_is h.tl.tl.hd (by rfl), h⟩
          go_region_held3 (fun w' => w'.cell? ⟨g, 0, none⟩ = some (.int .i64 C) ∧ w'.cell? ⟨g, 1, none⟩ = some (.bool Z) ∧ w'.cell? ⟨g, 2, none⟩ = some (.int .i64 I) ∧ w'.cell? ⟨w.heap.size, 0, none⟩ = some (.int .i64 s) ∧ w'.cell? ⟨w.heap.size, 1, none⟩ = some (.int .i64 t) ∧ Hold w.heap.size (wc.heap.size) [(g, .cells #[.int .i64 C, .bool Z, .int .i64 I] 46), (w.heap.size + 1, .cells #[.slice (some ⟨b, off, none⟩) n cap, .int .i64 h, .int .i64 tl, .int .i64 l] 31), (w.heap.size, .cells #[.int .i64 s, .int .i64 t] 29)] [(some ⟨b, off, none⟩, n, xs)] w w')
            (with_reducible refine hF ?_; repeat' (first | with_reducible exact HQ2.out | with_reducible exact htc | with_reducible refine Hold.drew ?_ | with_reducible refine Hold.alloc ?_ _))
            ((first
              | (go_at_call 26; (try go_split_ands); (with_reducible refine (HCY.out _).mono ?_); rintro e wx ⟨rfl, hbx⟩; have htc := Hold.step (by assumption) hbx)
              | (go_at_call 27; (try go_split_ands); (with_reducible refine (HNO.out _).mono ?_); rintro e wx ⟨rfl, hbx⟩; have htc := Hold.step (by assumption) hbx)))
          all_goals
            go_wp2_with fail
            go_meet
            (try go_split_ands)
            exact ⟨rfl, by assumption⟩
      case rest =>
        obtain ⟨rfl, hk⟩ := hcut
        have HQ3 := Lib.hid hk
        clear hk HQ2
        obtain ⟨q0, q1, q2⟩ := blk_three HQ3.out.hd
        by_cases hm : I = M
        · have hd2 : (I == M) = true := by simp [hm]
          go_wp2
          go_ret
          exact ⟨by simp [hc, hm], HQ3.out.below⟩
        · have hd2 : (I == M) = false := by simp [hm]
          go_wp2
          go_ret
          exact ⟨by simp [hc, hm], HQ3.out.below⟩
    · have hd : (C != Y) = true := by simp [hc]
      go_upto_region 4 with fail
      go_cut [42] (fun s1 wx => s1 = .bool true ∧ Hold w.heap.size (wc.heap.size) [(g, .cells #[.int .i64 C, .bool Z, .int .i64 I] 46), (w.heap.size + 1, .cells #[.slice (some ⟨b, off, none⟩) n cap, .int .i64 h, .int .i64 tl, .int .i64 l] 31), (w.heap.size, .cells #[.int .i64 s, .int .i64 t] 29)] [(some ⟨b, off, none⟩, n, xs)] w wx)
      case first =>
        as_aux_lemma =>
          have hF : ∀ {w' : World}, Hold w.heap.size (wc.heap.size) [(g, .cells #[.int .i64 C, .bool Z, .int .i64 I] 46), (w.heap.size + 1, .cells #[.slice (some ⟨b, off, none⟩) n cap, .int .i64 h, .int .i64 tl, .int .i64 l] 31), (w.heap.size, .cells #[.int .i64 s, .int .i64 t] 29)] [(some ⟨b, off, none⟩, n, xs)] w w' → w'.cell? ⟨g, 0, none⟩ = some (.int .i64 C) ∧ w'.cell? ⟨g, 1, none⟩ = some (.bool Z) ∧ w'.cell? ⟨g, 2, none⟩ = some (.int .i64 I) ∧ w'.cell? ⟨w.heap.size, 0, none⟩ = some (.int .i64 s) ∧ w'.cell? ⟨w.heap.size, 1, none⟩ = some (.int .i64 t) ∧ Hold w.heap.size (wc.heap.size) [(g, .cells #[.int .i64 C, .bool Z, .int .i64 I] 46), (w.heap.size + 1, .cells #[.slice (some ⟨b, off, none⟩) n cap, .int .i64 h, .int .i64 tl, .int .i64 l] 31), (w.heap.size, .cells #[.int .i64 s, .int .i64 t] 29)] [(some ⟨b, off, none⟩, n, xs)] w w' := fun h => ⟨blk_is h.hd (by rfl), blk_is h.hd (by rfl), blk_is h.hd (by rfl), blk_is h.tl.tl.hd (by rfl), blk_is h.tl.tl.hd (by rfl), h⟩
          refine wp_region_noPanic ?_
          refine wp_region_held_drew (S := (fun w' => w'.cell? ⟨g, 0, none⟩ = some (.int .i64 C) ∧ w'.cell? ⟨g, 1, none⟩ = some (.bool Z) ∧ w'.cell? ⟨g, 2, none⟩ = some (.int .i64 I) ∧ w'.cell? ⟨w.heap.size, 0, none⟩ = some (.int .i64 s) ∧ w'.cell? ⟨w.heap.size, 1, none⟩ = some (.int .i64 t) ∧ Hold w.heap.size (wc.heap.size) [(g, .cells #[.int .i64 C, .bool Z, .int .i64 I] 46), (w.heap.size + 1, .cells #[.slice (some ⟨b, off, none⟩) n cap, .int .i64 h, .int .i64 tl, .int .i64 l] 31), (w.heap.size, .cells #[.int .i64 s, .int .i64 t] 29)] [(some ⟨b, off, none⟩, n, xs)] w w')) (by kernel_rfl) ?_ (fun hHeld => ?_)
          · (try dsimp only); (with_reducible refine hF ?_; repeat' (first | with_reducible exact HQ2.out | with_reducible exact htc | with_reducible refine Hold.drew ?_ | with_reducible refine Hold.alloc ?_ _))
          refine wpAnyH_take (i := 0) (v := ?_) rfl (by kernel_rfl) (by kernel_rfl) (by kernel_rfl) (fun _ _ _ h => h) (Or.inl ⟨by rfl, ?_⟩) (by assumption) ?_
          rotate_left
          · intro w hSw; (try dsimp only at hSw); go_simp; (try (with_reducible rfl))
          try simp only [Act.put, List.setIfInBounds_toArray, List.set_cons_zero, List.set_cons_succ, List.getElem_toArray, List.getElem_cons_zero, List.getElem_cons_succ]
          refine wpAnyH_take (i := 1) (v := ?_) rfl (by kernel_rfl) (by kernel_rfl) (by kernel_rfl) (fun _ _ _ h => h) (Or.inl ⟨by rfl, ?_⟩) (by assumption) ?_
          rotate_left
          · intro w hSw; (try dsimp only at hSw); go_simp; (try (with_reducible rfl))
          try simp only [Act.put, List.setIfInBounds_toArray, List.set_cons_zero, List.set_cons_succ, List.getElem_toArray, List.getElem_cons_zero, List.getElem_cons_succ]
          refine wpAnyH_take (i := 2) (v := ?_) rfl (by kernel_rfl) (by kernel_rfl) (by kernel_rfl) (fun _ _ _ h => h) (Or.inl ⟨by rfl, ?_⟩) (by assumption) ?_
          rotate_left
          · intro w hSw; (try dsimp only at hSw); go_simp; (try (with_reducible rfl))
          try simp only [Act.put, List.setIfInBounds_toArray, List.set_cons_zero, List.set_cons_succ, List.getElem_toArray, List.getElem_cons_zero, List.getElem_cons_succ]
          refine wpAnyH_take (i := 3) (v := ?_) rfl (by kernel_rfl) (by kernel_rfl) (by kernel_rfl) (fun _ _ _ h => h) (Or.inl ⟨by rfl, ?_⟩) (by assumption) ?_
          rotate_left
          · intro w hSw; (try dsimp only at hSw); go_simp; (try (with_reducible rfl))
          try simp only [Act.put, List.setIfInBounds_toArray, List.set_cons_zero, List.set_cons_succ, List.getElem_toArray, List.getElem_cons_zero, List.getElem_cons_succ]
          refine wpAnyH_ready (rs := [4]) (by kernel_rfl) (by simp) ?_
          refine AllReadyH.cons rfl (fun K hK => ?_) ?_
          · go_simp
            (first | (go_at_call 26; (try go_split_ands); (with_reducible refine (HCY.out _).mono ?_); rintro e wx ⟨rfl, hbx⟩; have htc := Hold.step (by assumption) hbx))
            (try (go_wp2_with fail))
            refine hK.out _ _ ?_ (fun hHeld => ?_)
            · (try dsimp only); (with_reducible refine hF ?_; repeat' (first | with_reducible exact HQ2.out | with_reducible exact htc | with_reducible refine Hold.drew ?_ | with_reducible refine Hold.alloc ?_ _))
            clear hK K
            try simp only [Act.put, List.setIfInBounds_toArray, List.set_cons_zero, List.set_cons_succ, List.getElem_toArray, List.getElem_cons_zero, List.getElem_cons_succ]
            refine wpAnyH_take (i := 5) (v := ?_) rfl (by kernel_rfl) (by kernel_rfl) (by kernel_rfl) (fun _ _ _ h => h) (Or.inl ⟨by rfl, ?_⟩) (by assumption) ?_
            rotate_left
            · intro w hSw; (try dsimp only at hSw); go_simp; (try (with_reducible rfl))
            try simp only [Act.put, List.setIfInBounds_toArray, List.set_cons_zero, List.set_cons_succ, List.getElem_toArray, List.getElem_cons_zero, List.getElem_cons_succ]
            refine wpAnyH_take (i := 6) (v := ?_) rfl (by kernel_rfl) (by kernel_rfl) (by kernel_rfl) (fun _ _ _ h => h) (Or.inl ⟨by rfl, ?_⟩) (by assumption) ?_
            rotate_left
            · intro w hSw; (try dsimp only at hSw); go_simp; (try (with_reducible rfl))
            try simp only [Act.put, List.setIfInBounds_toArray, List.set_cons_zero, List.set_cons_succ, List.getElem_toArray, List.getElem_cons_zero, List.getElem_cons_succ]
            refine wpAnyH_take (i := 7) (v := undef) rfl (by kernel_rfl) (by kernel_rfl) (by kernel_rfl) (fun _ _ _ h => h) (Or.inr ⟨by rfl, rfl⟩) (by assumption) ?_
            try simp only [Act.put, List.setIfInBounds_toArray, List.set_cons_zero, List.set_cons_succ, List.getElem_toArray, List.getElem_cons_zero, List.getElem_cons_succ]
            refine wpAnyH_take (i := 8) (v := undef) rfl (by kernel_rfl) (by kernel_rfl) (by kernel_rfl) (fun _ _ _ h => h) (Or.inr ⟨by rfl, rfl⟩) (by assumption) ?_
            try simp only [Act.put, List.setIfInBounds_toArray, List.set_cons_zero, List.set_cons_succ, List.getElem_toArray, List.getElem_cons_zero, List.getElem_cons_succ]
            refine wpAnyH_take (i := 9) (v := undef) rfl (by kernel_rfl) (by kernel_rfl) (by kernel_rfl) (fun _ _ _ h => h) (Or.inr ⟨by rfl, rfl⟩) (by assumption) ?_
            try simp only [Act.put, List.setIfInBounds_toArray, List.set_cons_zero, List.set_cons_succ, List.getElem_toArray, List.getElem_cons_zero, List.getElem_cons_succ]
            refine wpAnyH_take (i := 10) (v := undef) rfl (by kernel_rfl) (by kernel_rfl) (by kernel_rfl) (fun _ _ _ h => h) (Or.inr ⟨by rfl, rfl⟩) (by assumption) ?_
            try simp only [Act.put, List.setIfInBounds_toArray, List.set_cons_zero, List.set_cons_succ, List.getElem_toArray, List.getElem_cons_zero, List.getElem_cons_succ]
            refine wpAnyH_take (i := 11) (v := undef) rfl (by kernel_rfl) (by kernel_rfl) (by kernel_rfl) (fun _ _ _ h => h) (Or.inr ⟨by rfl, rfl⟩) (by assumption) ?_
            try simp only [Act.put, List.setIfInBounds_toArray, List.set_cons_zero, List.set_cons_succ, List.getElem_toArray, List.getElem_cons_zero, List.getElem_cons_succ]
            refine wpAnyH_take (i := 12) (v := ?_) rfl (by kernel_rfl) (by kernel_rfl) (by kernel_rfl) (fun _ _ _ h => h) (Or.inl ⟨by rfl, ?_⟩) (by assumption) ?_
            rotate_left
            · intro w hSw; (try dsimp only at hSw); go_simp; (try (with_reducible rfl))
            try simp only [Act.put, List.setIfInBounds_toArray, List.set_cons_zero, List.set_cons_succ, List.getElem_toArray, List.getElem_cons_zero, List.getElem_cons_succ]
            refine wpAnyH_done (by kernel_rfl) ?_ _
            refine NoPanic.normal ?_
            go_wp2_with fail
            go_meet
            (try go_split_ands)
            exact ⟨rfl, by assumption⟩
          exact AllReadyH.nil
      case rest =>
        obtain ⟨rfl, hk⟩ := hcut
        go_wp2
        go_ret
        exact ⟨by simp [hc], hk.below⟩

theorem itemAt_no (s t : Int) (a : Option Addr) (n cap : Nat) (xs : List Int) (h tl l k : Int) (w : World) (hi : IntsW (a, n, xs) w) (hx64 : ∀ x ∈ xs, W64 x) (hn : n ≤ 1048576) (hr : ¬ (okR s t xs h tl l ∧ okK k)) :
    Calls Try.prog 7 #[.agg #[.int .i64 s, .int .i64 t], .agg #[.slice a n cap, .int .i64 h, .int .i64 tl, .int .i64 l], .int .i64 k] w fun e w' => e = .returned (.int .i64 (-1)) ∧ Below w.heap.size w w' := by
  have HQ := Lib.hid ((((Hold.start w).addI hi).new (.cells #[.int .i64 s, .int .i64 t] 29)).new (.cells #[.slice a n cap, .int .i64 h, .int .i64 tl, .int .i64 l] 31))
  simp only [World.size_alloc] at HQ
  by_cases hR : okR s t xs h tl l
  · have hk : ¬ okK k := fun hx => hr ⟨hR, hx⟩
    have HK := Lib.hid hk
    have HRK := Lib.hid (specRing_yes s t a n cap xs h tl l hx64 hn hR)
    clear hi hx64 hr hR hk
    go_enter Try.func7, Try.ntmps7
    go_wp2_with (first | (go_at_call 22; (with_reducible refine (HRK.out _ (Hold.ints HQ.out)).mono ?_); rintro e w1 ⟨rfl, hb⟩; have HQ1 := Lib.hid (HQ.out.step hb); clear hb HQ) | (go_at_call 23; (with_reducible refine (specTicket_no _ HK.out _).mono ?_); rintro e w' ⟨rfl, rfl⟩))
    go_ret
    exact ⟨rfl, HQ1.out.below⟩
  · have HRK := Lib.hid (specRing_no s t a n cap xs h tl l hx64 hn hR)
    clear hi hx64 hr hR
    go_enter Try.func7, Try.ntmps7
    go_wp2_with (go_at_call 22; (with_reducible refine (HRK.out _ (Hold.ints HQ.out)).mono ?_); rintro e w1 ⟨rfl, hb⟩; have HQ1 := Lib.hid (HQ.out.step hb); clear hb HQ)
    go_ret
    exact ⟨rfl, HQ1.out.below⟩

/-- The number at a ticket. -/
def itemV (s t : Int) (xs : List Int) (h tl l k : Int) : Int :=
  if okR s t xs h tl l ∧ okK k then (if xs.getD (placeD s k).toNat 0 / (4 * s) = cycD s k ∧ ¬ xs.getD (placeD s k).toNat 0 % (2 * s) = 2 * s - 1 then xs.getD (placeD s k).toNat 0 % (2 * s) else -1) else -1

theorem specItemAt (s t : Int) (a : Option Addr) (n cap : Nat) (xs : List Int) (h tl l k : Int) (w : World) (hi : IntsW (a, n, xs) w) (hx64 : ∀ x ∈ xs, W64 x) (hn : n ≤ 1048576) :
    Calls Try.prog 7 #[.agg #[.int .i64 s, .int .i64 t], .agg #[.slice a n cap, .int .i64 h, .int .i64 tl, .int .i64 l], .int .i64 k] w fun e w' => e = .returned (.int .i64 (itemV s t xs h tl l k)) ∧ Below w.heap.size w w' := by
  by_cases hr : okR s t xs h tl l ∧ okK k
  · obtain ⟨P0, P1⟩ := place_in ⟨hr.1.1, hr.2⟩
    have hlt : (placeD s k).toNat < xs.length := by have := hr.1.2.1; omega
    have hx := List.getElem?_eq_getElem hlt
    have := itemAt_yes s t a n cap xs h tl l k w hi hx64 hn hr.1 hr.2 _ hx
    rw [show itemV s t xs h tl l k = _ from if_pos hr]
    rwa [show xs.getD (placeD s k).toNat 0 = xs[(placeD s k).toNat] by rw [List.getD_eq_getElem?_getD, hx]; rfl]
  · rw [show itemV s t xs h tl l k = -1 from if_neg hr]
    exact itemAt_no s t a n cap xs h tl l k w hi hx64 hn hr

end Go.Proofs.Ytofnmehdpbjgmaa
