/- FnExactItemsOf: whatever comes in, the program's function answers as its model, with memory of its own, and the ring reads afterwards as before: no condition. -/
import Derived.Test.YtllepakgpiddeaaL6b
import Derived.Test.YtllepakgpiddeaaS7c
import Derived.Test.YtllepakgpiddeaaI7c
import Derived.Test.YtllepakgpiddeaaIntsRow
import Derived.Deep.RegionHeld3
import Derived.Deep.DeepCutAuto
namespace Go.Proofs.Ytllepakgpiddeaa
open Go.ChangeShapes Go.WideShapes Go.ChangeAt Go.RowKit Go.Joins

theorem OwnI.of_block {base g : Nat} {xs : List Int} {w : World} (h : w.heap[g]? = some (.cells (vals xs).toArray 2 (0, 0))) (hb : base ≤ g) (hm : xs.length ≤ maxLen) : OwnI base (.slice (some ⟨g, 0, none⟩) xs.length xs.length) xs w :=
  ⟨by simp [vals], Or.inr ⟨g, xs.length, _, rfl, hb, h, Nat.le_refl _, hm, by simp [vals], by simp [vals]; exact List.take_of_length_le (by simp)⟩⟩

theorem itemsV_len (s t : Int) (xs : List Int) (h tl l : Int) : (itemsV s t xs h tl l).length ≤ xs.length := by
  unfold itemsV
  split
  · exact (itemsTo_len s xs xs.length).2
  · simp

set_option maxRecDepth 100000 in
set_option maxHeartbeats 4000000 in
theorem exactItemsOf_walk (s0 t0 : Int) (a : Option Addr) (n cap : Nat) (xs : List Int) (h tl l : Int) (w : World) (hi : Ints w.heap.size a n xs w) (hx64 : ∀ x ∈ xs, W64 x) (hn : n ≤ maxLen) :
    Calls Try.prog 3 #[.agg #[.int .i64 s0, .int .i64 t0], .agg #[.slice a n cap, .int .i64 h, .int .i64 tl, .int .i64 l]] w fun e w' => e = .returned (.bool true) ∧ Below w.heap.size w w' := by
  have HN := Lib.hid hn
  have HX := Lib.hid hx64
  have HQ := Lib.hid ((((Hold.start w).addI (q := (a, n, xs)) hi).new (.cells #[.int .i64 s0, .int .i64 t0] 23)).new (.cells #[.slice a n cap, .int .i64 h, .int .i64 tl, .int .i64 l] 26))
  simp only [World.size_alloc] at HQ
  clear hi hn hx64
  go_enter Try.func3, Try.ntmps3
  go_wp2_with fail
  refine (szRing_any a n cap h tl l 1048576 (by decide) (by decide) _ HN.out).mono ?_
  rintro e w1 ⟨rfl, hb1⟩
  have HQ1 := Lib.hid (HQ.out.step hb1)
  clear hb1 HQ
  by_cases hneg : leftV 1048576 n < 0
  · go_wp2
    go_ret
    exact ⟨rfl, HQ1.out.below⟩
  have hn : n ≤ 1048576 := by unfold leftV at hneg; by_cases hh : (1048576 : Int) - n < 0 <;> simp [hh] at hneg <;> omega
  have hlen : xs.length = n := HQ1.out.ihd.1
  have SP := Lib.hid (fun (u : World) (b : Option Addr) (c : Nat) (hb : IntsW (b, n, xs) u) => specItemsOf s0 t0 b n c xs h tl l u hb HX.out hn)
  have IM := Lib.hid (fun (u : World) (b : Option Addr) (c : Nat) (hb : IntsW (b, n, xs) u) => iItemsOf s0 t0 b n c xs h tl l u hb HX.out hn)
  have hVn : (itemsV s0 t0 xs h tl l).length ≤ 1048576 := by have := itemsV_len s0 t0 xs h tl l; omega
  generalize itemsV s0 t0 xs h tl l = V at *
  go_upto_region 5 with fail
  go_cut [6] (fun s1 wx => ∃ a0 n0 c0, s1 = .slice a0 n0 c0 ∧ OwnI (w.heap.size + 1 + 1) (.slice a0 n0 c0) V wx ∧ Hold w.heap.size (w.heap.size + 1 + 1) [(w.heap.size + 1, .cells #[.slice a n cap, .int .i64 h, .int .i64 tl, .int .i64 l] 26), (w.heap.size, .cells #[.int .i64 s0, .int .i64 t0] 23)] [(a, n, xs)] w wx)
  case first =>
    as_aux_lemma =>
      have hF : ∀ {w' : World}, Hold w.heap.size (w.heap.size + 1 + 1) [(w.heap.size + 1, .cells #[.slice a n cap, .int .i64 h, .int .i64 tl, .int .i64 l] 26), (w.heap.size, .cells #[.int .i64 s0, .int .i64 t0] 23)] [(a, n, xs)] w w' → w'.cell? ⟨w.heap.size + 1, 0, none⟩ = some (.slice a n cap) ∧ w'.cell? ⟨w.heap.size + 1, 1, none⟩ = some (.int .i64 h) ∧ w'.cell? ⟨w.heap.size + 1, 2, none⟩ = some (.int .i64 tl) ∧ w'.cell? ⟨w.heap.size + 1, 3, none⟩ = some (.int .i64 l) ∧ w'.cell? ⟨w.heap.size, 0, none⟩ = some (.int .i64 s0) ∧ w'.cell? ⟨w.heap.size, 1, none⟩ = some (.int .i64 t0) ∧ Hold w.heap.size (w.heap.size + 1 + 1) [(w.heap.size + 1, .cells #[.slice a n cap, .int .i64 h, .int .i64 tl, .int .i64 l] 26), (w.heap.size, .cells #[.int .i64 s0, .int .i64 t0] 23)] [(a, n, xs)] w w' := fun h => ⟨blk_is h.hd (by rfl), blk_is h.hd (by rfl), blk_is h.hd (by rfl), blk_is h.hd (by rfl), blk_is h.tl.hd (by rfl), blk_is h.tl.hd (by rfl), h⟩
      go_region_held3 (fun w' => w'.cell? ⟨w.heap.size + 1, 0, none⟩ = some (.slice a n cap) ∧ w'.cell? ⟨w.heap.size + 1, 1, none⟩ = some (.int .i64 h) ∧ w'.cell? ⟨w.heap.size + 1, 2, none⟩ = some (.int .i64 tl) ∧ w'.cell? ⟨w.heap.size + 1, 3, none⟩ = some (.int .i64 l) ∧ w'.cell? ⟨w.heap.size, 0, none⟩ = some (.int .i64 s0) ∧ w'.cell? ⟨w.heap.size, 1, none⟩ = some (.int .i64 t0) ∧ Hold w.heap.size (w.heap.size + 1 + 1) [(w.heap.size + 1, .cells #[.slice a n cap, .int .i64 h, .int .i64 tl, .int .i64 l] 26), (w.heap.size, .cells #[.int .i64 s0, .int .i64 t0] 23)] [(a, n, xs)] w w')
        (with_reducible refine hF ?_; repeat' (first | with_reducible exact HQ1.out | with_reducible exact htc | with_reducible refine Hold.drew ?_ | with_reducible refine Hold.alloc ?_ _))
        ((first
          | (go_at_call 7; (try go_split_ands); (with_reducible refine (toPlan_any _ _ _).mono ?_); rintro e wx ⟨rfl, hbx⟩; have htc := Hold.step (by assumption) hbx)
          | (go_at_call 8; (try go_split_ands); (with_reducible refine (toRing_any _ a n cap xs h tl l _ (Hold.ihd (by first | assumption | exact HQ1.out)) (Nat.le_refl _) hn).mono ?_); rintro e wx ⟨g, rfl, -, hg, hbx⟩; have htc := Hold.step (by assumption) hbx; have hG : IntsW (some ⟨g, 0, none⟩, n, xs) wx := IntsW.at_block hg hlen; have hJ : Ints wx.heap.size (some ⟨g, 0, none⟩) n xs wx := hG)
          | (go_at_call 6; (try go_split_ands); (with_reducible refine (SP.out _ _ _ hG).mono ?_); rintro e wx ⟨v, rfl, ho, hbx⟩; have htc := Hold.step (by assumption) hbx; have hO := OwnI.low (base' := w.heap.size + 1 + 1) ho (Hold.size (by assumption)); obtain ⟨a0, n0, c0, rfl, -⟩ := OwnI.form2 hO)))
      all_goals
        go_wp2_with fail
        go_meet
        (try go_split_ands)
        exact ⟨_, _, _, rfl, by assumption, by assumption⟩
  case rest =>
    obtain ⟨a0, n0, c0, rfl, hO, hk⟩ := hcut
    obtain rfl : n0 = V.length := hO.len
    have HB := Lib.hid hk
    have W0 := Lib.hid hO
    have ltW := Lib.hid hO.lt
    clear hk hO HQ1
    generalize wc = wA at *
    have zA := HB.out.size
    obtain ⟨q0, q1, q2, q3, q4, q5⟩ : wA.cell? ⟨w.heap.size + 1, 0, none⟩ = some (.slice a n cap) ∧ wA.cell? ⟨w.heap.size + 1, 1, none⟩ = some (.int .i64 h) ∧ wA.cell? ⟨w.heap.size + 1, 2, none⟩ = some (.int .i64 tl) ∧ wA.cell? ⟨w.heap.size + 1, 3, none⟩ = some (.int .i64 l) ∧ wA.cell? ⟨w.heap.size, 0, none⟩ = some (.int .i64 s0) ∧ wA.cell? ⟨w.heap.size, 1, none⟩ = some (.int .i64 t0) := by have hh := HB.out; exact ⟨blk_is hh.hd (by rfl), blk_is hh.hd (by rfl), blk_is hh.hd (by rfl), blk_is hh.hd (by rfl), blk_is hh.tl.hd (by rfl), blk_is hh.tl.hd (by rfl)⟩
    go_wp2_with fail
    refine (toRing_any _ a n cap xs h tl l _ HB.out.ihd (Nat.le_refl _) hn).mono ?_
    rintro e w3 ⟨g, rfl, hgl, hg, hb3⟩
    have z3 := hb3.size
    have hgl3 := blk_lt hg
    have XG := Lib.hid (OwnI.alloc (OwnI.of_block (base := wA.heap.size) hg hgl (by unfold maxLen; omega)) (.cells #[.slice (some ⟨g, 0, none⟩) n n, .int .i64 h, .int .i64 tl, .int .i64 l] 31))
    have HB1 := Lib.hid ((HB.out.step hb3).alloc (.cells #[.slice (some ⟨g, 0, none⟩) n n, .int .i64 h, .int .i64 tl, .int .i64 l] 31))
    have W1 := Lib.hid (OwnI.alloc (OwnI.step W0.out hb3) (.cells #[.slice (some ⟨g, 0, none⟩) n n, .int .i64 h, .int .i64 tl, .int .i64 l] 31))
    have X1 := Lib.hid (blk_new w3 (.cells #[.slice (some ⟨g, 0, none⟩) n n, .int .i64 h, .int .i64 tl, .int .i64 l] 31))
    have zz : (w3.alloc (.cells #[.slice (some ⟨g, 0, none⟩) n n, .int .i64 h, .int .i64 tl, .int .i64 l] 31)).heap.size = w3.heap.size + 1 := by simp
    clear hg hb3 HB W0
    clear q0 q1 q2 q3 q4 q5
    go_upto_region 7 with fail
    obtain ⟨bx, hbx⟩ : ∃ bx, bx = w3.heap.size := ⟨_, rfl⟩
    obtain ⟨wB, hwB⟩ : ∃ wB, wB = w3.alloc (.cells #[.slice (some ⟨g, 0, none⟩) n n, .int .i64 h, .int .i64 tl, .int .i64 l] 31) := ⟨_, rfl⟩
    rw [← hwB] at XG HB1 W1 X1 zz ⊢
    rw [← hbx] at X1 zz hgl3 z3 ⊢
    clear hwB hbx
    rw [hlen] at XG
    have HR := Lib.hid ((HB1.out.add X1.out).addI XG.out.ints).rebase
    go_cut [8] (fun s1 wx => ∃ a1 n1 c1, s1 = .slice a1 n1 c1 ∧ OwnI wB.heap.size (.slice a1 n1 c1) V wx ∧ Hold wB.heap.size (wB.heap.size) [(bx, .cells #[.slice (some ⟨g, 0, none⟩) n n, .int .i64 h, .int .i64 tl, .int .i64 l] 31), (w.heap.size + 1, .cells #[.slice a n cap, .int .i64 h, .int .i64 tl, .int .i64 l] 26), (w.heap.size, .cells #[.int .i64 s0, .int .i64 t0] 23)] [(some ⟨g, 0, none⟩, n, xs), (a, n, xs)] wB wx)
    case first =>
      as_aux_lemma =>
        have hF : ∀ {w' : World}, Hold wB.heap.size (wB.heap.size) [(bx, .cells #[.slice (some ⟨g, 0, none⟩) n n, .int .i64 h, .int .i64 tl, .int .i64 l] 31), (w.heap.size + 1, .cells #[.slice a n cap, .int .i64 h, .int .i64 tl, .int .i64 l] 26), (w.heap.size, .cells #[.int .i64 s0, .int .i64 t0] 23)] [(some ⟨g, 0, none⟩, n, xs), (a, n, xs)] wB w' → w'.cell? ⟨bx, 0, none⟩ = some (.slice (some ⟨g, 0, none⟩) n n) ∧ w'.cell? ⟨bx, 1, none⟩ = some (.int .i64 h) ∧ w'.cell? ⟨bx, 2, none⟩ = some (.int .i64 tl) ∧ w'.cell? ⟨bx, 3, none⟩ = some (.int .i64 l) ∧ w'.cell? ⟨w.heap.size, 0, none⟩ = some (.int .i64 s0) ∧ w'.cell? ⟨w.heap.size, 1, none⟩ = some (.int .i64 t0) ∧ Hold wB.heap.size (wB.heap.size) [(bx, .cells #[.slice (some ⟨g, 0, none⟩) n n, .int .i64 h, .int .i64 tl, .int .i64 l] 31), (w.heap.size + 1, .cells #[.slice a n cap, .int .i64 h, .int .i64 tl, .int .i64 l] 26), (w.heap.size, .cells #[.int .i64 s0, .int .i64 t0] 23)] [(some ⟨g, 0, none⟩, n, xs), (a, n, xs)] wB w' := fun h => ⟨blk_is h.hd (by rfl), blk_is h.hd (by rfl), blk_is h.hd (by rfl), blk_is h.hd (by rfl), blk_is h.tl.tl.hd (by rfl), blk_is h.tl.tl.hd (by rfl), h⟩
        go_region_held3 (fun w' => w'.cell? ⟨bx, 0, none⟩ = some (.slice (some ⟨g, 0, none⟩) n n) ∧ w'.cell? ⟨bx, 1, none⟩ = some (.int .i64 h) ∧ w'.cell? ⟨bx, 2, none⟩ = some (.int .i64 tl) ∧ w'.cell? ⟨bx, 3, none⟩ = some (.int .i64 l) ∧ w'.cell? ⟨w.heap.size, 0, none⟩ = some (.int .i64 s0) ∧ w'.cell? ⟨w.heap.size, 1, none⟩ = some (.int .i64 t0) ∧ Hold wB.heap.size (wB.heap.size) [(bx, .cells #[.slice (some ⟨g, 0, none⟩) n n, .int .i64 h, .int .i64 tl, .int .i64 l] 31), (w.heap.size + 1, .cells #[.slice a n cap, .int .i64 h, .int .i64 tl, .int .i64 l] 26), (w.heap.size, .cells #[.int .i64 s0, .int .i64 t0] 23)] [(some ⟨g, 0, none⟩, n, xs), (a, n, xs)] wB w')
          (with_reducible refine hF ?_; repeat' (first | with_reducible exact HR.out | with_reducible exact htc | with_reducible refine Hold.drew ?_ | with_reducible refine Hold.alloc ?_ _))
          ((first
            | (go_at_call 7; (try go_split_ands); (with_reducible refine (toPlan_any _ _ _).mono ?_); rintro e wx ⟨rfl, hbx⟩; have htc := Hold.step (by assumption) hbx)
            | (go_at_call 9; (try go_split_ands); (with_reducible refine (IM.out _ _ _ (Hold.ints (by first | assumption | exact HR.out))).mono ?_); rintro e wx ⟨v, rfl, ho, hbx⟩; have htc := Hold.step (by assumption) hbx; have hO := OwnI.low (base' := wB.heap.size) ho (Hold.size (by assumption)); obtain ⟨a1, n1, c1, rfl, -⟩ := OwnI.form2 hO)))
        all_goals
          go_wp2_with fail
          go_meet
          (try go_split_ands)
          exact ⟨_, _, _, rfl, by assumption, by assumption⟩
    case rest =>
      obtain ⟨a1, n1, c1, rfl, hO, hk⟩ := hcut
      obtain rfl : n1 = V.length := hO.len
      have G2 := Lib.hid hO
      have ltG := Lib.hid hO.lt
      have HB2 := Lib.hid (HB1.out.step hk.below)
      have W2 := Lib.hid (OwnI.step W1.out hk.below)
      have XG2 := Lib.hid (OwnI.step XG.out hk.below)
      have X2 := Lib.hid (blk_below X1.out hk.below (blk_lt X1.out))
      clear hk hO HB1 W1 XG X1 HR
      generalize wc = wC at *
      go_wp2_with fail
      refine (eqInt64S_same _ _ _ V.length _ _ V _ G2.out.ints W2.out.ints hVn).mono ?_
      rintro e w' ⟨d1, rfl, rfl⟩
      have HB3 := Lib.hid (HB2.out.step (drewN_of wC d1))
      have W3 := Lib.hid (OwnI.step W2.out (drewN_of wC d1))
      have XG3 := Lib.hid (OwnI.step XG2.out (drewN_of wC d1))
      have X3 := Lib.hid (blk_below X2.out (drewN_of wC d1) (blk_lt X2.out))
      have G3 := Lib.hid (OwnI.step G2.out (drewN_of wC d1))
      clear HB2 W2 XG2 X2 G2
      generalize wC.drewN d1 = wD at *
      have HR3 := Lib.hid ((HB3.out.add X3.out).addI XG3.out.ints).rebase
      go_upto_region 10 with fail
      go_cut [37] (fun s1 wx => s1 = .bool false ∧ Hold wD.heap.size (wD.heap.size) [(bx, .cells #[.slice (some ⟨g, 0, none⟩) n n, .int .i64 h, .int .i64 tl, .int .i64 l] 31), (w.heap.size + 1, .cells #[.slice a n cap, .int .i64 h, .int .i64 tl, .int .i64 l] 26), (w.heap.size, .cells #[.int .i64 s0, .int .i64 t0] 23)] [(some ⟨g, 0, none⟩, n, xs), (a, n, xs)] wD wx)
      case first =>
        as_aux_lemma =>
          have hF : ∀ {w' : World}, Hold wD.heap.size (wD.heap.size) [(bx, .cells #[.slice (some ⟨g, 0, none⟩) n n, .int .i64 h, .int .i64 tl, .int .i64 l] 31), (w.heap.size + 1, .cells #[.slice a n cap, .int .i64 h, .int .i64 tl, .int .i64 l] 26), (w.heap.size, .cells #[.int .i64 s0, .int .i64 t0] 23)] [(some ⟨g, 0, none⟩, n, xs), (a, n, xs)] wD w' → w'.cell? ⟨bx, 0, none⟩ = some (.slice (some ⟨g, 0, none⟩) n n) ∧ w'.cell? ⟨bx, 1, none⟩ = some (.int .i64 h) ∧ w'.cell? ⟨bx, 2, none⟩ = some (.int .i64 tl) ∧ w'.cell? ⟨bx, 3, none⟩ = some (.int .i64 l) ∧ w'.cell? ⟨w.heap.size + 1, 0, none⟩ = some (.slice a n cap) ∧ w'.cell? ⟨w.heap.size + 1, 1, none⟩ = some (.int .i64 h) ∧ w'.cell? ⟨w.heap.size + 1, 2, none⟩ = some (.int .i64 tl) ∧ w'.cell? ⟨w.heap.size + 1, 3, none⟩ = some (.int .i64 l) ∧ Hold wD.heap.size (wD.heap.size) [(bx, .cells #[.slice (some ⟨g, 0, none⟩) n n, .int .i64 h, .int .i64 tl, .int .i64 l] 31), (w.heap.size + 1, .cells #[.slice a n cap, .int .i64 h, .int .i64 tl, .int .i64 l] 26), (w.heap.size, .cells #[.int .i64 s0, .int .i64 t0] 23)] [(some ⟨g, 0, none⟩, n, xs), (a, n, xs)] wD w' := fun h => ⟨blk_is h.hd (by rfl), blk_is h.hd (by rfl), blk_is h.hd (by rfl), blk_is h.hd (by rfl), blk_is h.tl.hd (by rfl), blk_is h.tl.hd (by rfl), blk_is h.tl.hd (by rfl), blk_is h.tl.hd (by rfl), h⟩
          go_region_held3 (fun w' => w'.cell? ⟨bx, 0, none⟩ = some (.slice (some ⟨g, 0, none⟩) n n) ∧ w'.cell? ⟨bx, 1, none⟩ = some (.int .i64 h) ∧ w'.cell? ⟨bx, 2, none⟩ = some (.int .i64 tl) ∧ w'.cell? ⟨bx, 3, none⟩ = some (.int .i64 l) ∧ w'.cell? ⟨w.heap.size + 1, 0, none⟩ = some (.slice a n cap) ∧ w'.cell? ⟨w.heap.size + 1, 1, none⟩ = some (.int .i64 h) ∧ w'.cell? ⟨w.heap.size + 1, 2, none⟩ = some (.int .i64 tl) ∧ w'.cell? ⟨w.heap.size + 1, 3, none⟩ = some (.int .i64 l) ∧ Hold wD.heap.size (wD.heap.size) [(bx, .cells #[.slice (some ⟨g, 0, none⟩) n n, .int .i64 h, .int .i64 tl, .int .i64 l] 31), (w.heap.size + 1, .cells #[.slice a n cap, .int .i64 h, .int .i64 tl, .int .i64 l] 26), (w.heap.size, .cells #[.int .i64 s0, .int .i64 t0] 23)] [(some ⟨g, 0, none⟩, n, xs), (a, n, xs)] wD w')
            (with_reducible refine hF ?_; repeat' (first | with_reducible exact HR3.out | with_reducible exact htc | with_reducible refine Hold.drew ?_ | with_reducible refine Hold.alloc ?_ _))
            ((first
              | (go_at_call 8; (try go_split_ands); (with_reducible refine (toRing_any _ a n cap xs h tl l _ (Hold.ihd (Hold.itl (by first | assumption | exact HR3.out))) (Nat.le_refl _) hn).mono ?_); rintro e wx ⟨g2, rfl, -, hg, hbx⟩; have htc := Hold.step (by assumption) hbx; have hG : IntsW (some ⟨g2, 0, none⟩, n, xs) wx := IntsW.at_block hg hlen; have hJ : Ints wx.heap.size (some ⟨g2, 0, none⟩) n xs wx := hG)
              | (go_at_call 11; (try go_split_ands); (with_reducible refine (eqRing_same _ _ _ n _ _ xs h tl l _ (Hold.ihd (by assumption)) hJ (Nat.le_refl _) hn).mono ?_); rintro e wx ⟨rfl, hbx⟩; have htc := Hold.step (by assumption) hbx)))
          all_goals
            go_wp2_with fail
            go_meet
            (try go_split_ands)
            exact ⟨rfl, by assumption⟩
      case rest =>
        obtain ⟨rfl, hk⟩ := hcut
        have HB4 := Lib.hid (HB3.out.step hk.below)
        have W4 := Lib.hid (OwnI.step W3.out hk.below)
        have XG4 := Lib.hid (OwnI.step XG3.out hk.below)
        have X4 := Lib.hid (blk_below X3.out hk.below (blk_lt X3.out))
        have G4 := Lib.hid (OwnI.step G3.out hk.below)
        clear hk HB3 W3 XG3 X3 G3 HR3
        generalize wc = wE at *
        obtain ⟨y0, y1, y2, y3, -, -, -, -⟩ := blk_four X4.out
        go_wp2_with fail
        refine (markRing_any wA.heap.size _ n n 1 xs h tl l _ (by have hh := XG4.out; unfold OwnI at hh; rwa [hlen] at hh) (by decide) hn).mono ?_
        rintro e wF ⟨rfl, -, hg5⟩
        have HB5 := Lib.hid (HB4.out.grown hg5 (fun k e => by have e3 : g = k := (by simpa [Value.ownBlock] using e); omega))
        have W5 := Lib.hid (OwnI.kept W4.out hg5 (fun k e e2 => by have e3 : g = k := (by simpa [Value.ownBlock] using e2); have := ltW.out _ e; omega))
        have G5 := Lib.hid (OwnI.kept G4.out hg5 (fun k e e2 => by have e3 : g = k := (by simpa [Value.ownBlock] using e2); have := ltG.out _ e; omega))
        have hp5 : ¬ ((1 + n : Nat) : Int) < 0 := by omega
        clear hg5 HB4 W4 XG4 X4 G4 y0 y1 y2 y3
        go_wp2_with fail
        refine (eqInt64S_same _ _ _ V.length _ _ V _ G5.out.ints W5.out.ints hVn).mono ?_
        rintro e w' ⟨d2, rfl, rfl⟩
        have HB6 := Lib.hid (HB5.out.step (drewN_of wF d2))
        have W6 := Lib.hid (OwnI.step W5.out (drewN_of wF d2))
        have G6 := Lib.hid (OwnI.step G5.out (drewN_of wF d2))
        clear HB5 W5 G5
        generalize wF.drewN d2 = wG at *
        go_wp2_with fail
        refine (markInt64S_any wB.heap.size a1 V.length c1 1 V _ G6.out (by decide) hVn).mono ?_
        rintro e wH ⟨rfl, ho7, hg7⟩
        have HB7 := Lib.hid (HB6.out.grown hg7 (fun k e => by have := ltG.out _ e; omega))
        have W7 := Lib.hid (OwnI.kept W6.out hg7 (fun k e e2 => by have h1 := ltW.out _ e; have h2 := ltG.out _ e2; omega))
        have M7 := Lib.hid (show IntsW (a1, V.length, marks 1 V.length) wH from Ints.own ho7)
        have hp7 : ¬ ((1 + V.length : Nat) : Int) < 0 := by omega
        clear hg7 ho7 HB6 W6 G6
        go_wp2_with fail
        refine (heldInt64S_any _ a1 V.length c1 1 _ M7.out (by decide) hVn).mono ?_
        rintro e w' ⟨rfl, rfl⟩
        have HR7 := Lib.hid HB7.out.rebase
        go_upto_region 24 with fail
        go_cut [12] (fun s1 wx => ∃ a2 n2 c2, s1 = .slice a2 n2 c2 ∧ OwnI wH.heap.size (.slice a2 n2 c2) V wx ∧ Hold wH.heap.size (wH.heap.size) [(w.heap.size + 1, .cells #[.slice a n cap, .int .i64 h, .int .i64 tl, .int .i64 l] 26), (w.heap.size, .cells #[.int .i64 s0, .int .i64 t0] 23)] [(a, n, xs)] wH wx)
        case first =>
          as_aux_lemma =>
            have hF : ∀ {w' : World}, Hold wH.heap.size (wH.heap.size) [(w.heap.size + 1, .cells #[.slice a n cap, .int .i64 h, .int .i64 tl, .int .i64 l] 26), (w.heap.size, .cells #[.int .i64 s0, .int .i64 t0] 23)] [(a, n, xs)] wH w' → w'.cell? ⟨w.heap.size + 1, 0, none⟩ = some (.slice a n cap) ∧ w'.cell? ⟨w.heap.size + 1, 1, none⟩ = some (.int .i64 h) ∧ w'.cell? ⟨w.heap.size + 1, 2, none⟩ = some (.int .i64 tl) ∧ w'.cell? ⟨w.heap.size + 1, 3, none⟩ = some (.int .i64 l) ∧ w'.cell? ⟨w.heap.size, 0, none⟩ = some (.int .i64 s0) ∧ w'.cell? ⟨w.heap.size, 1, none⟩ = some (.int .i64 t0) ∧ Hold wH.heap.size (wH.heap.size) [(w.heap.size + 1, .cells #[.slice a n cap, .int .i64 h, .int .i64 tl, .int .i64 l] 26), (w.heap.size, .cells #[.int .i64 s0, .int .i64 t0] 23)] [(a, n, xs)] wH w' := fun h => ⟨blk_is h.hd (by rfl), blk_is h.hd (by rfl), blk_is h.hd (by rfl), blk_is h.hd (by rfl), blk_is h.tl.hd (by rfl), blk_is h.tl.hd (by rfl), h⟩
            go_region_held3 (fun w' => w'.cell? ⟨w.heap.size + 1, 0, none⟩ = some (.slice a n cap) ∧ w'.cell? ⟨w.heap.size + 1, 1, none⟩ = some (.int .i64 h) ∧ w'.cell? ⟨w.heap.size + 1, 2, none⟩ = some (.int .i64 tl) ∧ w'.cell? ⟨w.heap.size + 1, 3, none⟩ = some (.int .i64 l) ∧ w'.cell? ⟨w.heap.size, 0, none⟩ = some (.int .i64 s0) ∧ w'.cell? ⟨w.heap.size, 1, none⟩ = some (.int .i64 t0) ∧ Hold wH.heap.size (wH.heap.size) [(w.heap.size + 1, .cells #[.slice a n cap, .int .i64 h, .int .i64 tl, .int .i64 l] 26), (w.heap.size, .cells #[.int .i64 s0, .int .i64 t0] 23)] [(a, n, xs)] wH w')
              (with_reducible refine hF ?_; repeat' (first | with_reducible exact HR7.out | with_reducible exact htc | with_reducible refine Hold.drew ?_ | with_reducible refine Hold.alloc ?_ _))
              ((first
                | (go_at_call 7; (try go_split_ands); (with_reducible refine (toPlan_any _ _ _).mono ?_); rintro e wx ⟨rfl, hbx⟩; have htc := Hold.step (by assumption) hbx)
                | (go_at_call 8; (try go_split_ands); (with_reducible refine (toRing_any _ a n cap xs h tl l _ (Hold.ihd (by first | assumption | exact HR7.out)) (Nat.le_refl _) hn).mono ?_); rintro e wx ⟨g3, rfl, -, hg, hbx⟩; have htc := Hold.step (by assumption) hbx; have hG : IntsW (some ⟨g3, 0, none⟩, n, xs) wx := IntsW.at_block hg hlen; have hJ : Ints wx.heap.size (some ⟨g3, 0, none⟩) n xs wx := hG)
                | (go_at_call 9; (try go_split_ands); (with_reducible refine (IM.out _ _ _ hG).mono ?_); rintro e wx ⟨v, rfl, ho, hbx⟩; have htc := Hold.step (by assumption) hbx; have hO := OwnI.low (base' := wH.heap.size) ho (Hold.size (by assumption)); obtain ⟨a2, n2, c2, rfl, -⟩ := OwnI.form2 hO)))
            all_goals
              go_wp2_with fail
              go_meet
              (try go_split_ands)
              exact ⟨_, _, _, rfl, by assumption, by assumption⟩
        case rest =>
          obtain ⟨a2, n2, c2, rfl, hO, hk⟩ := hcut
          obtain rfl : n2 = V.length := hO.len
          have G8 := Lib.hid hO
          have M8 := Lib.hid (M7.out.step hk.below)
          have HB8 := Lib.hid (HB7.out.step hk.below)
          have W8 := Lib.hid (OwnI.step W7.out hk.below)
          clear hk hO HB7 W7 M7 HR7
          generalize wc = wI at *
          go_wp2_with fail
          refine (eqInt64S_same _ _ _ V.length _ _ V _ G8.out.ints W8.out.ints hVn).mono ?_
          rintro e w' ⟨d3, rfl, rfl⟩
          have HB9 := Lib.hid (HB8.out.step (drewN_of wI d3))
          have M9 := Lib.hid (M8.out.step (drewN_of wI d3))
          clear HB8 W8 G8 M8
          go_wp2_with fail
          refine (heldInt64S_any _ a1 V.length c1 1 _ M9.out (by decide) hVn).mono ?_
          rintro e w' ⟨rfl, rfl⟩
          go_wp2
          go_ret
          exact ⟨rfl, HB9.out.below⟩

set_option maxRecDepth 100000 in
theorem liftedFnExactItemsOf (os : Os) (started : os.Started) (H : Type) (enc : TypeId × Value → H) :
    ReturnsInHanded {} Try.checked os 3 .any (Rows.fnExactItemsOfSpec.pre6 enc Try.prog Try.f3 Rows.fnExactItemsOfRow.domain false) (Rows.fnExactItemsOfSpec.post enc Try.prog Try.f3 false true false false) := by
  refine returnsInHanded_of_change (C := Try.checked) own started (by kernel_rfl) Try.func3
    (ChangeSpec.witness6 (enc := enc) (C := Try.checked) false ⟨#[], #[.agg #[.int .i64 0, .int .i64 0], .agg #[.slice none 0 0, .int .i64 0, .int .i64 0, .int .i64 0]], []⟩ 8 (by kernel_rfl) (by kernel_rfl) (by kernel_rfl) (by kernel_rfl)) ?_
  intro W base args ds gs before hval0 hW hcnd _
  have hval : ∀ (j : Nat) t v, Try.f3.params[j]? = some t → args[j]? = some v → Value.okWide Try.prog W .any base t v := hval0
  have hW' := hW
  obtain ⟨p, q, hA0, hV, rfl, hfz, hnd⟩ := hW
  have hA : DataW.TrodAll enc Try.prog W 0 (fun _ => true) true Try.f3.params.toList args.toList ds p := hA0
  rw [Try.params3] at hA hval
  obtain ⟨v0, vs0, d0, ds0, p0, q0, h0args, rfl, rfl, h0, r0⟩ := trodAll_cons hA
  obtain ⟨v1, vs1, d1, ds1, p1, q1, h1args, rfl, rfl, h1, r1⟩ := trodAll_cons r0
  obtain ⟨rfl, rfl, rfl⟩ := trodAll_nil r1
  obtain rfl : args = #[v0, v1] := by cases args; simp_all
  obtain ⟨rfl, rfl⟩ := trodVars_none hV
  have k0 := h0
  have lt0 : ∀ x ∈ p0, x.block < W.heap.size := by obtain ⟨m, hm⟩ := k0; exact DataW.trod_lt m _ _ _ hm
  obtain ⟨s0, t0, rfl, ws0, wt0⟩ : ∃ x y : Int, v0 = .agg #[.int .i64 x, .int .i64 y] ∧ W64 x ∧ W64 y := by
    obtain ⟨x0, x1, y0, y1, m, hv, hd, hp, hy0, hy1⟩ := open_agg2 Try.underlying23 (by kernel_rfl) (by kernel_rfl) (hval 0 23 v0 rfl rfl) h0
    obtain ⟨x, e0, _, wa⟩ := DataW.trod_int Try.underlying2 hy0
    obtain ⟨y, e1, _, wb⟩ := DataW.trod_int Try.underlying2 hy1
    simp at e0 e1
    subst e0 e1
    exact ⟨x, y, hv, w64_wf wa, w64_wf wb⟩
  have k1 := h1
  have lt1 : ∀ x ∈ p1, x.block < W.heap.size := by obtain ⟨m, hm⟩ := k1; exact DataW.trod_lt m _ _ _ hm
  obtain ⟨a1, l1, z1, xs1, x1, y1, u1, rfl, hi1, hw1, hl1, wx1, wy1, wu1⟩ := ring_of (hval 1 26 v1 rfl rfl) h1
  clear hA0 hval0
  refine (exactItemsOf_walk s0 t0 a1 l1 z1 xs1 x1 y1 u1  W hi1 hw1 hl1).mono fun e W' ⟨he, bel⟩ => ?_
  subst he
  exact ⟨_, rfl, _, _, _, [], _, [], hW', trodAll_mk1 (shut_bool Try.underlying4 _), (trodAll_cons_mk (Below.trod laidOut (by kernel_rfl) (of_decide_eq_true (by kernel_rfl)) k0 bel lt0) (trodAll_cons_mk (Below.trod laidOut (by kernel_rfl) (of_decide_eq_true (by kernel_rfl)) k1 bel lt1) trodAll_mk0)), rfl, bel.frame _, fun h => by cases h⟩

theorem exactItemsOf_proved : Rows.FnExactItemsOfSaid :=
  OpenClaim.holds_of_wide 3 Try.f3 rfl rfl rfl rfl rfl rfl rfl ⟨rfl, rfl, rfl, rfl, rfl⟩ rfl rfl rfl rfl rfl (by kernel_rfl) Try.func3 (by kernel_rfl)
    (of_decide_eq_true (by kernel_rfl)) (by unfold Func.isWrapper; first | (rw [if_pos (by decide +kernel)]; kernel_rfl) | (rw [if_neg (by decide +kernel)]; exact ⟨rfl, rfl⟩))
    (fun os started H enc _ => liftedFnExactItemsOf os started H enc)

end Go.Proofs.Ytllepakgpiddeaa
