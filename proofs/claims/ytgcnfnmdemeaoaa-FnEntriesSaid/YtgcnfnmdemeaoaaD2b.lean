/- Contracts of the draws of chapter 2: a plan and an entry. -/
import Derived.Test.YtgcnfnmdemeaoaaD2
namespace Go.Proofs.Ytgcnfnmdemeaoaa
open Go.RowKit

/-- A plan in a block, and what is kept beside it. -/
def PlanHeld (T : TypeId) (P : Nat) (K : World → Prop) (wx : World) : Prop := ∃ s t : Int, W64 s ∧ W64 t ∧ wx.heap[P]? = some (.cells #[.int .i64 s, .int .i64 t] T (0, 0)) ∧ K wx

/-- An entry in a block, and what is kept beside it. -/
def EntHeld (T : TypeId) (E : Nat) (K : World → Prop) (wx : World) : Prop := ∃ (x y : Int) (b : Bool), W64 x ∧ W64 y ∧ wx.heap[E]? = some (.cells #[.int .i64 x, .bool b, .int .i64 y] T (0, 0)) ∧ K wx

set_option maxHeartbeats 4000000 in
theorem l2DrawAny_any {B c : Nat} {a : Option Addr} {n cap : Nat} {w : World} (hd : Drawer 98 .i64 B c a n cap w) :
    Calls Try.prog 91 #[.pointer (some ⟨c, 0, none⟩)] w (Drawn 98 .i64 B c a n cap (fun v => ∃ (s t x y : Int) (b : Bool), v = .tuple #[.agg #[.int .i64 s, .int .i64 t], .agg #[.int .i64 x, .bool b, .int .i64 y]] ∧ W64 s ∧ W64 t ∧ W64 x ∧ W64 y) w) := by
  have HD := Lib.hid hd
  have hlt := hd.lt
  have hlow := hd.low
  clear hd
  go_enter Try.func91, Try.ntmps91
  go_wp2_with fail
  refine (drawPlan_any (HD.out.grown (grown_alloc (World.grownBy_alloc w _ none) _) (by simp))).mono ?_
  rintro e w1 ⟨v, ⟨s, t, rfl, hst⟩, rfl, hd1, hg1⟩
  have hs64 : W64 s := okP_w64 hst
  have ht64 : W64 t := okP_w64' hst
  have hlt1 := hd1.lt
  have z1 := hg1.size
  simp at z1
  have RP1 := Lib.hid (blk_grown (blk_alloc (blk_new w _)) hg1 (by simp; omega))
  have RE1 := Lib.hid (blk_grown (blk_new (w.alloc _) _) hg1 (by simp; omega))
  simp at RE1
  have HD1 := Lib.hid hd1
  have HG1 := Lib.hid (grown_trans (grown_alloc (World.grownBy_alloc w _ _) _) hg1)
  clear hd1 hg1 HD hst
  go_wp2_with fail
  refine (once_any (HD1.out.grown (World.grownBy_alloc w1 _ none) (by simp)) _).mono ?_
  rintro e w2 ⟨v, ⟨x, rfl⟩, rfl, hd2, hg2⟩
  have z2 := hg2.size
  simp at z2
  have P2 := Lib.hid (blk_grown (blk_new w1 _) hg2 (by simp; omega))
  have RP2 := Lib.hid (blk_grown (blk_alloc RP1.out) hg2 (by simp; omega))
  have RE2 := Lib.hid (blk_grown (blk_alloc RE1.out) hg2 (by simp; omega))
  have HD2 := Lib.hid hd2
  have HG2 := Lib.hid (grown_trans (grown_alloc HG1.out _) hg2)
  clear hd2 hg2 HD1 HG1 RP1 RE1
  go_upto_if 9 with fail
  go_cut [9] (fun s9 wx => PlanHeld 25 w1.heap.size (fun w' => w'.heap[w.heap.size]? = some (.cells #[.int .i64 0, .int .i64 0] 25 (0, 0)) ∧ w'.heap[w.heap.size + 1]? = some (.cells #[.int .i64 0, .bool false, .int .i64 0] 38 (0, 0)) ∧ Drawer 98 .i64 B c a n cap w' ∧ w.grownBy w' (some c)) wx)
  case first =>
    cases x
    · go_wp2_with fail
      go_meet
      exact ⟨s, t, hs64, ht64, P2.out, RP2.out, RE2.out, HD2.out, HG2.out⟩
    · go_wp2_with fail
      refine (drawAny_any HD2.out).mono ?_
      rintro e w3 ⟨v, ⟨s', t', rfl, hs', ht'⟩, rfl, hd3, hg3⟩
      have P3 := Lib.hid (blk_grown P2.out hg3 (by simp; omega))
      have RP3 := Lib.hid (blk_grown RP2.out hg3 (by simp; omega))
      have RE3 := Lib.hid (blk_grown RE2.out hg3 (by simp; omega))
      have HD3 := Lib.hid hd3
      have HG3 := Lib.hid (grown_trans HG2.out hg3)
      clear hd3 hg3 HD2 HG2 P2 RP2 RE2
      obtain ⟨q0, q1, f0, f1⟩ := blk_two P3.out
      go_wp2_with fail
      go_meet
      exact ⟨s', t', hs', ht', blk_set2 P3.out, blk_other (blk_other RP3.out (by simp; omega)) (by simp; omega), blk_other (blk_other RE3.out (by simp; omega)) (by simp; omega), HD3.out.set2 (by omega) (by omega), grown_setNew2 HG3.out (by omega)⟩
  case rest =>
    obtain ⟨s', t', hs', ht', P3, RP3, RE3, hd3, hg3⟩ := hcut
    have z3 := hg3.size
    have zP := blk_lt P3
    have P3 := Lib.hid P3
    have RP3 := Lib.hid RP3
    have RE3 := Lib.hid RE3
    have HD3 := Lib.hid hd3
    have HG3 := Lib.hid hg3
    clear hd3 hg3
    obtain ⟨q0, q1, -, -⟩ := blk_two P3.out
    go_wp2_with fail
    refine (l2Draw_any HD3.out s' t').mono ?_
    rintro e w4 ⟨v, ⟨x, b, y, rfl, hx, hy⟩, rfl, hd4, hg4⟩
    have z4 := hg4.size
    have P4 := Lib.hid (blk_grown P3.out hg4 (by simp; omega))
    have RP4 := Lib.hid (blk_grown RP3.out hg4 (by simp; omega))
    have RE4 := Lib.hid (blk_grown RE3.out hg4 (by simp; omega))
    have HD4 := Lib.hid hd4
    have HG4 := Lib.hid (grown_trans HG3.out hg4)
    clear hd4 hg4 HD3 HG3 P3 RP3 RE3 q0 q1
    go_wp2_with fail
    refine (once_any (HD4.out.grown (World.grownBy_alloc w4 _ none) (by simp)) _).mono ?_
    rintro e w5 ⟨v, ⟨z, rfl⟩, rfl, hd5, hg5⟩
    have z5 := hg5.size
    simp at z5
    have E5 := Lib.hid (blk_grown (blk_new w4 _) hg5 (by simp; omega))
    have P5 := Lib.hid (blk_grown (blk_alloc P4.out) hg5 (by simp; omega))
    have RP5 := Lib.hid (blk_grown (blk_alloc RP4.out) hg5 (by simp; omega))
    have RE5 := Lib.hid (blk_grown (blk_alloc RE4.out) hg5 (by simp; omega))
    have HD5 := Lib.hid hd5
    have HG5 := Lib.hid (grown_trans (grown_alloc HG4.out _) hg5)
    clear hd5 hg5 HD4 HG4 P4 RP4 RE4
    go_upto_if 16 with fail
    go_cut [16] (fun s16 wx => EntHeld 38 w4.heap.size (fun w' => w'.heap[w1.heap.size]? = some (.cells #[.int .i64 s', .int .i64 t'] 25 (0, 0)) ∧ w'.heap[w.heap.size]? = some (.cells #[.int .i64 0, .int .i64 0] 25 (0, 0)) ∧ w'.heap[w.heap.size + 1]? = some (.cells #[.int .i64 0, .bool false, .int .i64 0] 38 (0, 0)) ∧ Drawer 98 .i64 B c a n cap w' ∧ w.grownBy w' (some c)) wx)
    case first =>
      cases z
      · go_wp2_with fail
        go_meet
        exact ⟨x, y, b, hx, hy, E5.out, P5.out, RP5.out, RE5.out, HD5.out, HG5.out⟩
      · go_wp2_with fail
        refine (once_any HD5.out _).mono ?_
        rintro e w6 ⟨v, ⟨z, rfl⟩, rfl, hd6, hg6⟩
        have z6 := hg6.size
        have E6 := Lib.hid (blk_grown E5.out hg6 (by simp; omega))
        have P6 := Lib.hid (blk_grown P5.out hg6 (by simp; omega))
        have RP6 := Lib.hid (blk_grown RP5.out hg6 (by simp; omega))
        have RE6 := Lib.hid (blk_grown RE5.out hg6 (by simp; omega))
        have HD6 := Lib.hid hd6
        have HG6 := Lib.hid (grown_trans HG5.out hg6)
        clear hd6 hg6 HD5 HG5 E5 P5 RP5 RE5
        obtain ⟨p0, p1, -, -⟩ := blk_two P6.out
        cases z
        · go_wp2_with fail
          refine (from_int HD6.out _ _).mono ?_
          rintro e w7 ⟨v, ⟨u, rfl, hu⟩, rfl, hd7, hg7⟩
          have E7 := Lib.hid (blk_grown E6.out hg7 (by simp; omega))
          have P7 := Lib.hid (blk_grown P6.out hg7 (by simp; omega))
          have RP7 := Lib.hid (blk_grown RP6.out hg7 (by simp; omega))
          have RE7 := Lib.hid (blk_grown RE6.out hg7 (by simp; omega))
          have HD7 := Lib.hid hd7
          have HG7 := Lib.hid (grown_trans HG6.out hg7)
          clear hd7 hg7 HD6 HG6 E6 P6 RP6 RE6 p0 p1
          obtain ⟨q0, q1, q2, f0, f1, f2⟩ := blk_three E7.out
          go_wp2_with fail
          go_meet
          exact ⟨x, u, b, hx, hu, blk_set E7.out, blk_other P7.out (by simp; omega), blk_other RP7.out (by simp; omega), blk_other RE7.out (by simp; omega), HD7.out.set1 (by omega) (by omega), grown_setNew HG7.out (by simp; omega) _⟩
        · go_wp2_with fail
          refine (num_any HD6.out _ (w64_of (by omega) (by omega))).mono ?_
          rintro e w7 ⟨v, ⟨u, rfl, hu⟩, rfl, hd7, hg7⟩
          have E7 := Lib.hid (blk_grown E6.out hg7 (by simp; omega))
          have P7 := Lib.hid (blk_grown P6.out hg7 (by simp; omega))
          have RP7 := Lib.hid (blk_grown RP6.out hg7 (by simp; omega))
          have RE7 := Lib.hid (blk_grown RE6.out hg7 (by simp; omega))
          have HD7 := Lib.hid hd7
          have HG7 := Lib.hid (grown_trans HG6.out hg7)
          clear hd7 hg7 HD6 HG6 E6 P6 RP6 RE6 p0 p1
          obtain ⟨q0, q1, q2, f0, f1, f2⟩ := blk_three E7.out
          go_wp2_with fail
          go_meet
          exact ⟨u, y, b, hu, hy, blk_set E7.out, blk_other P7.out (by simp; omega), blk_other RP7.out (by simp; omega), blk_other RE7.out (by simp; omega), HD7.out.set1 (by omega) (by omega), grown_setNew HG7.out (by simp; omega) _⟩
    case rest =>
      obtain ⟨x', y', b', hx', hy', E6, P6, RP6, RE6, hd6, hg6⟩ := hcut
      have HD6 := Lib.hid hd6
      have HG6 := Lib.hid hg6
      have RP6' := Lib.hid RP6
      have RE6' := Lib.hid RE6
      clear hd6 hg6
      obtain ⟨p0, p1, -, -⟩ := blk_two P6
      obtain ⟨q0, q1, q2, -, -, -⟩ := blk_three E6
      obtain ⟨r0, r1, e0, e1⟩ := blk_two RP6
      obtain ⟨s0, s1, s2, g0, g1, g2⟩ := blk_three RE6
      clear P6 E6 RP6 RE6
      go_wp2_with fail
      go_region
      go_wp2
      refine bodyPost_ret ?ret rfl ⟨_, ⟨s', t', x', y', b', rfl, hs', ht', hx', hy'⟩, rfl, ((HD6.out.set2 (by omega) (by omega)).set3 (by omega) (by omega)).drew1, grown_trans (grown_setNew3 (grown_setNew2 HG6.out (Nat.le_refl _)) (by omega)) (grown_drew1 _ _)⟩
      case ret => simp [results, Try.results91, go_sem, r0, r1, s0, s1, s2]

end Go.Proofs.Ytgcnfnmdemeaoaa
