/- FnExactItemAt: whatever comes in, the program's function answers as its model, and the ring reads afterwards as before: no condition. -/
import Derived.Test.YtofnmehdpbjgmaaL6b
import Derived.Test.YtofnmehdpbjgmaaS7
import Derived.Test.YtofnmehdpbjgmaaI7
import Derived.Test.YtofnmehdpbjgmaaIntsRow
import Derived.Deep.RegionHeld3
import Derived.Deep.DeepCutAuto
namespace Go.Proofs.Ytofnmehdpbjgmaa
open Go.ChangeShapes Go.WideShapes Go.ChangeAt Go.RowKit Go.Joins

set_option maxRecDepth 100000 in
set_option maxHeartbeats 4000000 in
theorem exactItemAt_walk (s0 t0 : Int) (a : Option Addr) (n cap : Nat) (xs : List Int) (h tl l : Int) (k2 : Int) (w : World) (hi : Ints w.heap.size a n xs w) (hx64 : ∀ x ∈ xs, W64 x) (hn : n ≤ maxLen) :
    Calls Try.prog 3 #[.agg #[.int .i64 s0, .int .i64 t0], .agg #[.slice a n cap, .int .i64 h, .int .i64 tl, .int .i64 l], .int .i64 k2] w fun e w' => e = .returned (.bool true) ∧ Below w.heap.size w w' := by
  have HN := Lib.hid hn
  have HX := Lib.hid hx64
  have HQ := Lib.hid ((((Hold.start w).addI (q := (a, n, xs)) hi).new (.cells #[.int .i64 s0, .int .i64 t0] 23)).new (.cells #[.slice a n cap, .int .i64 h, .int .i64 tl, .int .i64 l] 26))
  simp only [World.size_alloc] at HQ
  clear hi hn hx64
  go_enter Try.func3, Try.ntmps3
  go_wp2_with fail
  refine (szRing_any a n cap h tl l 1048576 (by decide) (by decide) _ HN.out).mono ?_
  rintro e w1 ⟨rfl, hb1⟩
  have HQ1 := Lib.hid (HQ.out.step hb1)
  clear hb1 HQ
  by_cases hneg : leftV 1048576 n < 0
  · go_wp2
    go_ret
    exact ⟨rfl, HQ1.out.below⟩
  have hn : n ≤ 1048576 := by unfold leftV at hneg; by_cases hh : (1048576 : Int) - n < 0 <;> simp [hh] at hneg <;> omega
  have hlen : xs.length = n := HQ1.out.ihd.1
  go_upto_region 5 with fail
  go_cut [8] (fun s1 wx => s1 = .int .i64 (itemV s0 t0 xs h tl l k2) ∧ Hold w.heap.size (w.heap.size + 1 + 1) [(w.heap.size + 1, .cells #[.slice a n cap, .int .i64 h, .int .i64 tl, .int .i64 l] 26), (w.heap.size, .cells #[.int .i64 s0, .int .i64 t0] 23)] [(a, n, xs)] w wx)
  case first =>
    as_aux_lemma =>
      have hF : ∀ {w' : World}, Hold w.heap.size (w.heap.size + 1 + 1) [(w.heap.size + 1, .cells #[.slice a n cap, .int .i64 h, .int .i64 tl, .int .i64 l] 26), (w.heap.size, .cells #[.int .i64 s0, .int .i64 t0] 23)] [(a, n, xs)] w w' → w'.cell? ⟨w.heap.size + 1, 0, none⟩ = some (.slice a n cap) ∧ w'.cell? ⟨w.heap.size + 1, 1, none⟩ = some (.int .i64 h) ∧ w'.cell? ⟨w.heap.size + 1, 2, none⟩ = some (.int .i64 tl) ∧ w'.cell? ⟨w.heap.size + 1, 3, none⟩ = some (.int .i64 l) ∧ w'.cell? ⟨w.heap.size, 0, none⟩ = some (.int .i64 s0) ∧ w'.cell? ⟨w.heap.size, 1, none⟩ = some (.int .i64 t0) ∧ Hold w.heap.size (w.heap.size + 1 + 1) [(w.heap.size + 1, .cells #[.slice a n cap, .int .i64 h, .int .i64 tl, .int .i64 l] 26), (w.heap.size, .cells #[.int .i64 s0, .int .i64 t0] 23)] [(a, n, xs)] w w' := fun h => ⟨blk_is h.hd (by rfl), blk_is h.hd (by rfl), blk_is h.hd (by rfl), blk_is h.hd (by rfl), blk_is h.tl.hd (by rfl), blk_is h.tl.hd (by rfl), h⟩
      go_region_held3 (fun w' => w'.cell? ⟨w.heap.size + 1, 0, none⟩ = some (.slice a n cap) ∧ w'.cell? ⟨w.heap.size + 1, 1, none⟩ = some (.int .i64 h) ∧ w'.cell? ⟨w.heap.size + 1, 2, none⟩ = some (.int .i64 tl) ∧ w'.cell? ⟨w.heap.size + 1, 3, none⟩ = some (.int .i64 l) ∧ w'.cell? ⟨w.heap.size, 0, none⟩ = some (.int .i64 s0) ∧ w'.cell? ⟨w.heap.size, 1, none⟩ = some (.int .i64 t0) ∧ Hold w.heap.size (w.heap.size + 1 + 1) [(w.heap.size + 1, .cells #[.slice a n cap, .int .i64 h, .int .i64 tl, .int .i64 l] 26), (w.heap.size, .cells #[.int .i64 s0, .int .i64 t0] 23)] [(a, n, xs)] w w')
        (with_reducible refine hF ?_; repeat' (first | with_reducible exact HQ1.out | with_reducible exact htc | with_reducible refine Hold.drew ?_ | with_reducible refine Hold.alloc ?_ _))
        ((first
          | (go_at_call 8; (try go_split_ands); (with_reducible refine (toPlan_any _ _ _).mono ?_); rintro e wx ⟨rfl, hbx⟩; have htc := Hold.step (by assumption) hbx)
          | (go_at_call 9; (try go_split_ands); (with_reducible refine (toRing_any _ a n cap xs h tl l _ (Hold.ihd (by first | assumption | exact HQ1.out)) (Nat.le_refl _) hn).mono ?_); rintro e wx ⟨g, rfl, -, hg, hbx⟩; have htc := Hold.step (by assumption) hbx; have hG : IntsW (some ⟨g, 0, none⟩, n, xs) wx := IntsW.at_block hg hlen; have hJ : Ints wx.heap.size (some ⟨g, 0, none⟩) n xs wx := hG)
          | (go_at_call 7; (try go_split_ands); (with_reducible refine (specItemAt s0 t0 _ _ _ xs h tl l k2 _ hG HX.out hn).mono ?_); rintro e wx ⟨rfl, hbx⟩; have htc := Hold.step (by assumption) hbx)))
      all_goals
        go_wp2_with fail
        go_meet
        (try go_split_ands)
        exact ⟨rfl, by assumption⟩
  case rest =>
    obtain ⟨rfl, hk⟩ := hcut
    have HQ2 := Lib.hid hk
    clear hk HQ1
    obtain ⟨q0, q1, q2, q3, q4, q5⟩ : wc.cell? ⟨w.heap.size + 1, 0, none⟩ = some (.slice a n cap) ∧ wc.cell? ⟨w.heap.size + 1, 1, none⟩ = some (.int .i64 h) ∧ wc.cell? ⟨w.heap.size + 1, 2, none⟩ = some (.int .i64 tl) ∧ wc.cell? ⟨w.heap.size + 1, 3, none⟩ = some (.int .i64 l) ∧ wc.cell? ⟨w.heap.size, 0, none⟩ = some (.int .i64 s0) ∧ wc.cell? ⟨w.heap.size, 1, none⟩ = some (.int .i64 t0) := by have hh := HQ2.out; exact ⟨blk_is hh.hd (by rfl), blk_is hh.hd (by rfl), blk_is hh.hd (by rfl), blk_is hh.hd (by rfl), blk_is hh.tl.hd (by rfl), blk_is hh.tl.hd (by rfl)⟩
    go_wp2_with fail
    refine (toRing_any _ a n cap xs h tl l _ HQ2.out.ihd (Nat.le_refl _) hn).mono ?_
    rintro e w3 ⟨g, rfl, -, hg, hb3⟩
    have HQ3 := Lib.hid (((HQ2.out.step hb3).addI (IntsW.at_block hg hlen)).new (.cells #[.slice (some ⟨g, 0, none⟩) n n, .int .i64 h, .int .i64 tl, .int .i64 l] 31))
    clear hb3 hg HQ2
    clear q0 q1 q2 q3 q4 q5
    go_upto_region 7 with fail
    go_cut [10] (fun s1 wx => s1 = .int .i64 (itemV s0 t0 xs h tl l k2) ∧ Hold w.heap.size (w3.heap.size + 1) [(w3.heap.size, .cells #[.slice (some ⟨g, 0, none⟩) n n, .int .i64 h, .int .i64 tl, .int .i64 l] 31), (w.heap.size + 1, .cells #[.slice a n cap, .int .i64 h, .int .i64 tl, .int .i64 l] 26), (w.heap.size, .cells #[.int .i64 s0, .int .i64 t0] 23)] [(some ⟨g, 0, none⟩, n, xs), (a, n, xs)] w wx)
    case first =>
      as_aux_lemma =>
        have hF : ∀ {w' : World}, Hold w.heap.size (w3.heap.size + 1) [(w3.heap.size, .cells #[.slice (some ⟨g, 0, none⟩) n n, .int .i64 h, .int .i64 tl, .int .i64 l] 31), (w.heap.size + 1, .cells #[.slice a n cap, .int .i64 h, .int .i64 tl, .int .i64 l] 26), (w.heap.size, .cells #[.int .i64 s0, .int .i64 t0] 23)] [(some ⟨g, 0, none⟩, n, xs), (a, n, xs)] w w' → w'.cell? ⟨w3.heap.size, 0, none⟩ = some (.slice (some ⟨g, 0, none⟩) n n) ∧ w'.cell? ⟨w3.heap.size, 1, none⟩ = some (.int .i64 h) ∧ w'.cell? ⟨w3.heap.size, 2, none⟩ = some (.int .i64 tl) ∧ w'.cell? ⟨w3.heap.size, 3, none⟩ = some (.int .i64 l) ∧ w'.cell? ⟨w.heap.size, 0, none⟩ = some (.int .i64 s0) ∧ w'.cell? ⟨w.heap.size, 1, none⟩ = some (.int .i64 t0) ∧ Hold w.heap.size (w3.heap.size + 1) [(w3.heap.size, .cells #[.slice (some ⟨g, 0, none⟩) n n, .int .i64 h, .int .i64 tl, .int .i64 l] 31), (w.heap.size + 1, .cells #[.slice a n cap, .int .i64 h, .int .i64 tl, .int .i64 l] 26), (w.heap.size, .cells #[.int .i64 s0, .int .i64 t0] 23)] [(some ⟨g, 0, none⟩, n, xs), (a, n, xs)] w w' := fun h => ⟨blk_is h.hd (by rfl), blk_is h.hd (by rfl), blk_is h.hd (by rfl), blk_is h.hd (by rfl), blk_is h.tl.tl.hd (by rfl), blk_is h.tl.tl.hd (by rfl), h⟩
        go_region_held3 (fun w' => w'.cell? ⟨w3.heap.size, 0, none⟩ = some (.slice (some ⟨g, 0, none⟩) n n) ∧ w'.cell? ⟨w3.heap.size, 1, none⟩ = some (.int .i64 h) ∧ w'.cell? ⟨w3.heap.size, 2, none⟩ = some (.int .i64 tl) ∧ w'.cell? ⟨w3.heap.size, 3, none⟩ = some (.int .i64 l) ∧ w'.cell? ⟨w.heap.size, 0, none⟩ = some (.int .i64 s0) ∧ w'.cell? ⟨w.heap.size, 1, none⟩ = some (.int .i64 t0) ∧ Hold w.heap.size (w3.heap.size + 1) [(w3.heap.size, .cells #[.slice (some ⟨g, 0, none⟩) n n, .int .i64 h, .int .i64 tl, .int .i64 l] 31), (w.heap.size + 1, .cells #[.slice a n cap, .int .i64 h, .int .i64 tl, .int .i64 l] 26), (w.heap.size, .cells #[.int .i64 s0, .int .i64 t0] 23)] [(some ⟨g, 0, none⟩, n, xs), (a, n, xs)] w w')
          (with_reducible refine hF ?_; repeat' (first | with_reducible exact HQ3.out | with_reducible exact htc | with_reducible refine Hold.drew ?_ | with_reducible refine Hold.alloc ?_ _))
          ((first
            | (go_at_call 8; (try go_split_ands); (with_reducible refine (toPlan_any _ _ _).mono ?_); rintro e wx ⟨rfl, hbx⟩; have htc := Hold.step (by assumption) hbx)
            | (go_at_call 10; (try go_split_ands); (with_reducible refine (iItemAt s0 t0 _ _ _ xs h tl l k2 _ (Hold.ints (by first | assumption | exact HQ3.out)) HX.out hn).mono ?_); rintro e wx ⟨rfl, hbx⟩; have htc := Hold.step (by assumption) hbx)))
        all_goals
          go_wp2_with fail
          go_meet
          (try go_split_ands)
          exact ⟨rfl, by assumption⟩
    case rest =>
      obtain ⟨rfl, hk⟩ := hcut
      have HQ4 := Lib.hid hk
      clear hk HQ3
      go_upto_region 9 with fail
      go_cut [36] (fun s1 wx => s1 = .bool false ∧ Hold w.heap.size (w3.heap.size + 1) [(w3.heap.size, .cells #[.slice (some ⟨g, 0, none⟩) n n, .int .i64 h, .int .i64 tl, .int .i64 l] 31), (w.heap.size + 1, .cells #[.slice a n cap, .int .i64 h, .int .i64 tl, .int .i64 l] 26), (w.heap.size, .cells #[.int .i64 s0, .int .i64 t0] 23)] [(some ⟨g, 0, none⟩, n, xs), (a, n, xs)] w wx)
      case first =>
        as_aux_lemma =>
          have hF : ∀ {w' : World}, Hold w.heap.size (w3.heap.size + 1) [(w3.heap.size, .cells #[.slice (some ⟨g, 0, none⟩) n n, .int .i64 h, .int .i64 tl, .int .i64 l] 31), (w.heap.size + 1, .cells #[.slice a n cap, .int .i64 h, .int .i64 tl, .int .i64 l] 26), (w.heap.size, .cells #[.int .i64 s0, .int .i64 t0] 23)] [(some ⟨g, 0, none⟩, n, xs), (a, n, xs)] w w' → w'.cell? ⟨w3.heap.size, 0, none⟩ = some (.slice (some ⟨g, 0, none⟩) n n) ∧ w'.cell? ⟨w3.heap.size, 1, none⟩ = some (.int .i64 h) ∧ w'.cell? ⟨w3.heap.size, 2, none⟩ = some (.int .i64 tl) ∧ w'.cell? ⟨w3.heap.size, 3, none⟩ = some (.int .i64 l) ∧ w'.cell? ⟨w.heap.size + 1, 0, none⟩ = some (.slice a n cap) ∧ w'.cell? ⟨w.heap.size + 1, 1, none⟩ = some (.int .i64 h) ∧ w'.cell? ⟨w.heap.size + 1, 2, none⟩ = some (.int .i64 tl) ∧ w'.cell? ⟨w.heap.size + 1, 3, none⟩ = some (.int .i64 l) ∧ Hold w.heap.size (w3.heap.size + 1) [(w3.heap.size, .cells #[.slice (some ⟨g, 0, none⟩) n n, .int .i64 h, .int .i64 tl, .int .i64 l] 31), (w.heap.size + 1, .cells #[.slice a n cap, .int .i64 h, .int .i64 tl, .int .i64 l] 26), (w.heap.size, .cells #[.int .i64 s0, .int .i64 t0] 23)] [(some ⟨g, 0, none⟩, n, xs), (a, n, xs)] w w' := fun h => ⟨blk_is h.hd (by rfl), blk_is h.hd (by rfl), blk_is h.hd (by rfl), blk_is h.hd (by rfl), blk_is h.tl.hd (by rfl), blk_is h.tl.hd (by rfl), blk_is h.tl.hd (by rfl), blk_is h.tl.hd (by rfl), h⟩
          go_region_held3 (fun w' => w'.cell? ⟨w3.heap.size, 0, none⟩ = some (.slice (some ⟨g, 0, none⟩) n n) ∧ w'.cell? ⟨w3.heap.size, 1, none⟩ = some (.int .i64 h) ∧ w'.cell? ⟨w3.heap.size, 2, none⟩ = some (.int .i64 tl) ∧ w'.cell? ⟨w3.heap.size, 3, none⟩ = some (.int .i64 l) ∧ w'.cell? ⟨w.heap.size + 1, 0, none⟩ = some (.slice a n cap) ∧ w'.cell? ⟨w.heap.size + 1, 1, none⟩ = some (.int .i64 h) ∧ w'.cell? ⟨w.heap.size + 1, 2, none⟩ = some (.int .i64 tl) ∧ w'.cell? ⟨w.heap.size + 1, 3, none⟩ = some (.int .i64 l) ∧ Hold w.heap.size (w3.heap.size + 1) [(w3.heap.size, .cells #[.slice (some ⟨g, 0, none⟩) n n, .int .i64 h, .int .i64 tl, .int .i64 l] 31), (w.heap.size + 1, .cells #[.slice a n cap, .int .i64 h, .int .i64 tl, .int .i64 l] 26), (w.heap.size, .cells #[.int .i64 s0, .int .i64 t0] 23)] [(some ⟨g, 0, none⟩, n, xs), (a, n, xs)] w w')
            (with_reducible refine hF ?_; repeat' (first | with_reducible exact HQ4.out | with_reducible exact htc | with_reducible refine Hold.drew ?_ | with_reducible refine Hold.alloc ?_ _))
            ((first
              | (go_at_call 9; (try go_split_ands); (with_reducible refine (toRing_any _ a n cap xs h tl l _ (Hold.ihd (Hold.itl (by first | assumption | exact HQ4.out))) (Nat.le_refl _) hn).mono ?_); rintro e wx ⟨g2, rfl, -, hg, hbx⟩; have htc := Hold.step (by assumption) hbx; have hG : IntsW (some ⟨g2, 0, none⟩, n, xs) wx := IntsW.at_block hg hlen; have hJ : Ints wx.heap.size (some ⟨g2, 0, none⟩) n xs wx := hG)
              | (go_at_call 11; (try go_split_ands); (with_reducible refine (eqRing_same _ _ _ n _ _ xs h tl l _ (Hold.ihd (by assumption)) hJ (Nat.le_refl _) hn).mono ?_); rintro e wx ⟨rfl, hbx⟩; have htc := Hold.step (by assumption) hbx)))
          all_goals
            go_wp2_with fail
            go_meet
            (try go_split_ands)
            exact ⟨rfl, by assumption⟩
      case rest =>
        obtain ⟨rfl, hk⟩ := hcut
        go_wp2
        go_ret
        exact ⟨rfl, hk.below⟩

set_option maxRecDepth 100000 in
theorem liftedFnExactItemAt (os : Os) (started : os.Started) (H : Type) (enc : TypeId × Value → H) :
    ReturnsInHanded {} Try.checked os 3 .any (Rows.fnExactItemAtSpec.pre6 enc Try.prog Try.f3 Rows.fnExactItemAtRow.domain false) (Rows.fnExactItemAtSpec.post enc Try.prog Try.f3 false true false false) := by
  refine returnsInHanded_of_change (C := Try.checked) own started (by kernel_rfl) Try.func3
    (ChangeSpec.witness6 (enc := enc) (C := Try.checked) false ⟨#[], #[.agg #[.int .i64 0, .int .i64 0], .agg #[.slice none 0 0, .int .i64 0, .int .i64 0, .int .i64 0], .int .i64 0], []⟩ 8 (by kernel_rfl) (by kernel_rfl) (by kernel_rfl) (by kernel_rfl)) ?_
  intro W base args ds gs before hval0 hW hcnd _
  have hval : ∀ (j : Nat) t v, Try.f3.params[j]? = some t → args[j]? = some v → Value.okWide Try.prog W .any base t v := hval0
  have hW' := hW
  obtain ⟨p, q, hA0, hV, rfl, hfz, hnd⟩ := hW
  have hA : DataW.TrodAll enc Try.prog W 0 (fun _ => true) true Try.f3.params.toList args.toList ds p := hA0
  rw [Try.params3] at hA hval
  obtain ⟨v0, vs0, d0, ds0, p0, q0, h0args, rfl, rfl, h0, r0⟩ := trodAll_cons hA
  obtain ⟨v1, vs1, d1, ds1, p1, q1, h1args, rfl, rfl, h1, r1⟩ := trodAll_cons r0
  obtain ⟨v2, vs2, d2, ds2, p2, q2, h2args, rfl, rfl, h2, r2⟩ := trodAll_cons r1
  obtain ⟨rfl, rfl, rfl⟩ := trodAll_nil r2
  obtain rfl : args = #[v0, v1, v2] := by cases args; simp_all
  obtain ⟨rfl, rfl⟩ := trodVars_none hV
  have k0 := h0
  have lt0 : ∀ x ∈ p0, x.block < W.heap.size := by obtain ⟨m, hm⟩ := k0; exact DataW.trod_lt m _ _ _ hm
  obtain ⟨s0, t0, rfl, ws0, wt0⟩ : ∃ x y : Int, v0 = .agg #[.int .i64 x, .int .i64 y] ∧ W64 x ∧ W64 y := by
    obtain ⟨x0, x1, y0, y1, m, hv, hd, hp, hy0, hy1⟩ := open_agg2 Try.underlying23 (by kernel_rfl) (by kernel_rfl) (hval 0 23 v0 rfl rfl) h0
    obtain ⟨x, e0, _, wa⟩ := DataW.trod_int Try.underlying2 hy0
    obtain ⟨y, e1, _, wb⟩ := DataW.trod_int Try.underlying2 hy1
    simp at e0 e1
    subst e0 e1
    exact ⟨x, y, hv, w64_wf wa, w64_wf wb⟩
  have k1 := h1
  have lt1 : ∀ x ∈ p1, x.block < W.heap.size := by obtain ⟨m, hm⟩ := k1; exact DataW.trod_lt m _ _ _ hm
  obtain ⟨a1, l1, z1, xs1, x1, y1, u1, rfl, hi1, hw1, hl1, wx1, wy1, wu1⟩ := ring_of (hval 1 26 v1 rfl rfl) h1
  have k2 := h2
  have lt2 : ∀ x ∈ p2, x.block < W.heap.size := by obtain ⟨m, hm⟩ := k2; exact DataW.trod_lt m _ _ _ hm
  obtain ⟨n2, rfl, wn2⟩ : ∃ x : Int, v2 = .int .i64 x ∧ W64 x := by
    obtain ⟨x, e1, _, _, wx⟩ := open_int Try.underlying2 (hval 2 2 v2 rfl rfl) h2
    exact ⟨x, e1, w64_wf wx⟩
  clear hA0 hval0
  refine (exactItemAt_walk s0 t0 a1 l1 z1 xs1 x1 y1 u1 n2  W hi1 hw1 hl1).mono fun e W' ⟨he, bel⟩ => ?_
  subst he
  exact ⟨_, rfl, _, _, _, [], _, [], hW', trodAll_mk1 (shut_bool Try.underlying4 _), (trodAll_cons_mk (Below.trod laidOut (by kernel_rfl) (of_decide_eq_true (by kernel_rfl)) k0 bel lt0) (trodAll_cons_mk (Below.trod laidOut (by kernel_rfl) (of_decide_eq_true (by kernel_rfl)) k1 bel lt1) (trodAll_cons_mk (Below.trod laidOut (by kernel_rfl) (of_decide_eq_true (by kernel_rfl)) k2 bel lt2) trodAll_mk0))), rfl, bel.frame _, fun h => by cases h⟩

theorem exactItemAt_proved : Rows.FnExactItemAtSaid :=
  OpenClaim.holds_of_wide 3 Try.f3 rfl rfl rfl rfl rfl rfl rfl ⟨rfl, rfl, rfl, rfl, rfl⟩ rfl rfl rfl rfl rfl (by kernel_rfl) Try.func3 (by kernel_rfl)
    (of_decide_eq_true (by kernel_rfl)) (by unfold Func.isWrapper; first | (rw [if_pos (by decide +kernel)]; kernel_rfl) | (rw [if_neg (by decide +kernel)]; exact ⟨rfl, rfl⟩))
    (fun os started H enc _ => liftedFnExactItemAt os started H enc)

end Go.Proofs.Ytofnmehdpbjgmaa
