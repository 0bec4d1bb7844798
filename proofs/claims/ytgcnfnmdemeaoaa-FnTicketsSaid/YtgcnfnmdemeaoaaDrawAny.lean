/- Contracts of the draws: any plan; a new cursor; what the plan's laws draw. -/
import Derived.Test.YtgcnfnmdemeaoaaDrawPlan
namespace Go.Proofs.Ytgcnfnmdemeaoaa
open Go.RowKit

set_option maxHeartbeats 2000000 in
theorem drawAny_any {B c : Nat} {a : Option Addr} {n cap : Nat} {w : World} (hd : Drawer 98 .i64 B c a n cap w) :
    Calls Try.prog 54 #[.pointer (some ⟨c, 0, none⟩)] w (Drawn 98 .i64 B c a n cap (PlanIs fun s t => W64 s ∧ W64 t) w) := by
  have HD := Lib.hid hd
  have hlt := hd.lt
  have hlow := hd.low
  clear hd
  go_enter Try.func54, Try.ntmps54
  go_wp2_with fail
  refine (drawPlan_any (HD.out.grown (World.grownBy_alloc w _ none) (by simp))).mono ?_
  rintro e w1 ⟨v, ⟨s, t, rfl, hst⟩, rfl, hd1, hg1⟩
  have hs64 : W64 s := okP_w64 hst
  have ht64 : W64 t := okP_w64' hst
  clear hst
  have hlt1 := hd1.lt
  have z1 := hg1.size
  simp at z1
  have HR1 := Lib.hid (blk_grown (blk_new w _) hg1 (by simp; omega))
  have HD1 := Lib.hid hd1
  have HG1 := Lib.hid (grown_trans (World.grownBy_alloc w _ _) hg1)
  clear hd1 hg1 HD
  go_wp2_with fail
  refine (once_any (HD1.out.grown (World.grownBy_alloc w1 _ none) (by simp)) _).mono ?_
  rintro e w2 ⟨v, ⟨x, rfl⟩, rfl, hd2, hg2⟩
  have z2 := hg2.size
  simp at z2
  have HP2 := Lib.hid (blk_grown (blk_new w1 _) hg2 (by simp; omega))
  have HR2 := Lib.hid (blk_grown (blk_alloc HR1.out) hg2 (by simp; omega))
  have HD2 := Lib.hid hd2
  have HG2 := Lib.hid (grown_trans (grown_alloc HG1.out _) hg2)
  clear hd2 hg2 HD1 HG1 HR1
  -- the end, in whatever world the plan's block holds whatever plan
  have fin : ∀ (w3 : World) (s' t' : Int), w3.heap[w.heap.size]? = some (.cells #[.int .i64 0, .int .i64 0] 25 (0, 0)) → Drawer 98 .i64 B c a n cap w3 → w.grownBy w3 (some c) →
      (Drawer 98 .i64 B c a n cap ((w3.setCell ⟨w.heap.size, 0, none⟩ (.int .i64 s')).setCell ⟨w.heap.size, 1, none⟩ (.int .i64 t')) ∧ w.grownBy ((w3.setCell ⟨w.heap.size, 0, none⟩ (.int .i64 s')).setCell ⟨w.heap.size, 1, none⟩ (.int .i64 t')) (some c)) := by
    intro w3 s' t' hb hd hg
    have hr : w3.grownBy ((w3.setCell ⟨w.heap.size, 0, none⟩ (.int .i64 s')).setCell ⟨w.heap.size, 1, none⟩ (.int .i64 t')) (some w.heap.size) := grown_trans (grown_set _ _ _ _) (grown_set _ _ _ _)
    exact ⟨hd.grown hr (by intro j hj; cases hj; omega), grown_setNew (grown_setNew hg (by simp) _) (by simp) _⟩
  have FIN := Lib.hid fin
  clear fin
  cases x
  · obtain ⟨p0, p1, g0, g1⟩ := blk_two HP2.out
    obtain ⟨r0, r1, e0, e1⟩ := blk_two HR2.out
    have hne : w1.heap.size ≠ w.heap.size := by omega
    go_wp2
    obtain ⟨fd, fg⟩ := FIN.out w2 s t HR2.out HD2.out HG2.out
    exact bodyPost_ret (v := .agg #[.int .i64 s, .int .i64 t]) (by simp [results, Try.results54, go_sem, r0, r1]) rfl ⟨_, ⟨s, t, rfl, hs64, ht64⟩, rfl, fd, fg⟩
  · go_wp2_with fail
    refine (once_any HD2.out _).mono ?_
    rintro e w3 ⟨v, ⟨x, rfl⟩, rfl, hd3, hg3⟩
    have z3 := hg3.size
    have HP3 := Lib.hid (blk_grown HP2.out hg3 (by simp; omega))
    have HR3 := Lib.hid (blk_grown HR2.out hg3 (by simp; omega))
    have HD3 := Lib.hid hd3
    have HG3 := Lib.hid (grown_trans HG2.out hg3)
    clear hd3 hg3 HD2 HG2 HP2 HR2
    cases x
    · obtain ⟨p0, p1, g0, g1⟩ := blk_two HP3.out
      go_wp2_with fail
      refine (num_any HD3.out _ hs64).mono ?_
      rintro e w4 ⟨v, ⟨y, rfl, hy⟩, rfl, hd4, hg4⟩
      have HP4 := Lib.hid (blk_grown HP3.out hg4 (by simp; omega))
      have HR4 := Lib.hid (blk_grown HR3.out hg4 (by simp; omega))
      have HD4 := Lib.hid hd4
      have HG4 := Lib.hid (grown_trans HG3.out hg4)
      clear hd4 hg4 HD3 HG3 HP3 HR3 p0 p1 g0 g1
      obtain ⟨p0, p1, g0, g1⟩ := blk_two HP4.out
      obtain ⟨r0, r1, e0, e1⟩ := blk_two HR4.out
      have hne : w1.heap.size ≠ w.heap.size := by omega
      have hne' : w.heap.size ≠ w1.heap.size := by omega
      go_wp2
      obtain ⟨fd, fg⟩ := FIN.out (w4.setCell ⟨w1.heap.size, 1, none⟩ (.int .i64 y)) s y (blk_other HR4.out hne') (HD4.out.grown (grown_set w4 w1.heap.size 1 _) (by intro j hj; cases hj; omega)) (grown_setNew HG4.out (by simp; omega) _)
      exact bodyPost_ret (v := .agg #[.int .i64 s, .int .i64 y]) (by simp [results, Try.results54, go_sem, r0, r1]) rfl ⟨_, ⟨s, y, rfl, hs64, hy⟩, rfl, fd, fg⟩
    · go_wp2_with fail
      refine (from_int HD3.out _ _).mono ?_
      rintro e w4 ⟨v, ⟨y, rfl, hy⟩, rfl, hd4, hg4⟩
      have HP4 := Lib.hid (blk_grown HP3.out hg4 (by simp; omega))
      have HR4 := Lib.hid (blk_grown HR3.out hg4 (by simp; omega))
      have HD4 := Lib.hid hd4
      have HG4 := Lib.hid (grown_trans HG3.out hg4)
      clear hd4 hg4 HD3 HG3 HP3 HR3
      obtain ⟨p0, p1, g0, g1⟩ := blk_two HP4.out
      obtain ⟨r0, r1, e0, e1⟩ := blk_two HR4.out
      have hne : w1.heap.size ≠ w.heap.size := by omega
      have hne' : w.heap.size ≠ w1.heap.size := by omega
      go_wp2
      obtain ⟨fd, fg⟩ := FIN.out (w4.setCell ⟨w1.heap.size, 0, none⟩ (.int .i64 y)) y t (blk_other HR4.out hne') (HD4.out.grown (grown_set w4 w1.heap.size 0 _) (by intro j hj; cases hj; omega)) (grown_setNew HG4.out (by simp; omega) _)
      exact bodyPost_ret (v := .agg #[.int .i64 y, .int .i64 t]) (by simp [results, Try.results54, go_sem, r0, r1]) rfl ⟨_, ⟨y, t, rfl, hy, ht64⟩, rfl, fd, fg⟩

/-- A cursor that has just been made. -/
def NewDrawer (T : TypeId) (k : IntKind) (B : Nat) (a : Option Addr) (n cap : Nat) (w : World) (e : Ending) (w' : World) : Prop :=
  ∃ c, e = .returned (.pointer (some ⟨c, 0, none⟩)) ∧ w.heap.size ≤ c ∧ Drawer T k B c a n cap w' ∧ Below w.heap.size w w'

set_option maxHeartbeats 2000000 in
theorem new_any (B : Nat) (a : Option Addr) (n cap : Nat) (w : World) (hn : n ≤ 4096) (hB : B ≤ w.heap.size) (hb : Bytes B a n w) :
    Calls Try.prog 51 #[.slice a n cap] w (NewDrawer 98 .i64 B a n cap w) := by
  have HB := Lib.hid hb
  clear hb
  go_enter Try.func51, Try.ntmps51
  go_wp2
  go_loop [3, 4] (fun h i => ∃ (q : Int) (k : Nat), k ≤ n ∧ h = .int .i64 q ∧ i = .int .i64 k) (fun _ i => n - (intOf i).toNat)
  case atStart => exact ⟨_, 0, Nat.zero_le _, rfl, rfl⟩
  case round =>
    obtain ⟨q, k, hk, rfl, rfl⟩ := hrel
    by_cases hlt : k < n
    · obtain ⟨b, off, rfl, hbB, z, z0, z1, hz⟩ := HB.out k hlt
      go_wp2
      go_round
      case rel => exact ⟨_, k + 1, by omega, rfl, by go_num⟩
      case measure => simp [intOf]; omega
    · go_wp2
      go_ret
      exact ⟨_, rfl, Nat.le_refl _, ⟨hB, hn, HB.out.grown (World.grownBy_alloc w _ none) (by simp), 0, q, by omega, by omega, blk_new w _⟩, (Below.refl _ _).alloc (Nat.le_refl _) _⟩

/-- A value as P says, and nothing that was there is another one. -/
def Gives (P : Value → Prop) (w : World) (e : Ending) (w' : World) : Prop := ∃ v, P v ∧ e = .returned v ∧ Below w.heap.size w w'

end Go.Proofs.Ytgcnfnmdemeaoaa
