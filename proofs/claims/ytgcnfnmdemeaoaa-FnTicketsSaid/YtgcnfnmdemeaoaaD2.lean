/- Contracts of the draws of chapter 2. -/
import Derived.Test.YtgcnfnmdemeaoaaS2
import Derived.Test.YtgcnfnmdemeaoaaDrawAny
import Derived.Deep.RegionHeld3
import Derived.Deep.DeepCutAuto
namespace Go.Proofs.Ytgcnfnmdemeaoaa
open Go.RowKit

theorem max_any (x y : Int) (w : World) : Calls Try.prog 68 #[.int .i64 x, .int .i64 y] w (SameInt w) := by
  by_cases h : y < x
  all_goals
    go_enter Try.func68, Try.ntmps68
    go_wp2
    go_ret
    exact ⟨_, rfl, rfl⟩

/-- An entry by value, as P says. -/
def EntIs (P : Int → Bool → Int → Prop) (v : Value) : Prop := ∃ (c : Int) (b : Bool) (i : Int), v = .agg #[.int .i64 c, .bool b, .int .i64 i] ∧ P c b i

/-- What the drawn statement leaves: an entry in a block of its own. -/
def EntAt (T : TypeId) (lo c : Nat) (K : World → Prop) (v : Value) (wx : World) : Prop := ∃ (g : Nat) (x y : Int) (b : Bool), v = .pointer (some ⟨g, 0, none⟩) ∧ wx.heap[g]? = some (.cells #[.int .i64 x, .bool b, .int .i64 y] T (0, 0)) ∧ W64 x ∧ W64 y ∧ lo ≤ g ∧ g ≠ c ∧ K wx

theorem EntAt.mk {T : TypeId} {lo c : Nat} {K : World → Prop} {g : Nat} {x y : Int} {b : Bool} {wx : World} (h : wx.heap[g]? = some (.cells #[.int .i64 x, .bool b, .int .i64 y] T (0, 0))) (hx : W64 x) (hy : W64 y) (hl : lo ≤ g) (hc : g ≠ c) (hk : K wx) : EntAt T lo c K (.pointer (some ⟨g, 0, none⟩)) wx :=
  ⟨g, x, y, b, rfl, h, hx, hy, hl, hc, hk⟩

set_option maxHeartbeats 4000000 in
theorem l2Draw_any {B c : Nat} {a : Option Addr} {n cap : Nat} {w : World} (hd : Drawer 98 .i64 B c a n cap w) (s t : Int) :
    Calls Try.prog 102 #[.pointer (some ⟨c, 0, none⟩), .agg #[.int .i64 s, .int .i64 t]] w (Drawn 98 .i64 B c a n cap (EntIs fun x _ y => W64 x ∧ W64 y) w) := by
  have HD := Lib.hid hd
  have hlt := hd.lt
  have hlow := hd.low
  clear hd
  go_enter Try.func102, Try.ntmps102
  go_upto_region 1 with fail
  obtain ⟨p0, p1, -, -⟩ := blk_two (blk_alloc (o' := .cells #[.int .i64 0, .bool false, .int .i64 0] 38) (blk_new w (.cells #[.int .i64 s, .int .i64 t] 25)))
  have K0 := Lib.hid (Kept.start (HD.out.grown (grown_alloc (World.grownBy_alloc w (.cells #[.int .i64 s, .int .i64 t] 25) none) (.cells #[.int .i64 0, .bool false, .int .i64 0] 38)) (by simp)))
  have hne0 : ¬ w.heap.size + 1 + 1 = c := by omega
  have hpl : w.heap.size < ((w.alloc (.cells #[.int .i64 s, .int .i64 t] 25)).alloc (.cells #[.int .i64 0, .bool false, .int .i64 0] 38)).heap.size := by simp; omega
  have hpc : w.heap.size ≠ c := by omega
  have hbn := blk_new ((w.alloc (.cells #[.int .i64 s, .int .i64 t] 25)).alloc (.cells #[.int .i64 0, .bool false, .int .i64 0] 38)) (.cells #[.int .i64 0, .bool false, .int .i64 0] 38)
  rw [show ((w.alloc (.cells #[.int .i64 s, .int .i64 t] 25)).alloc (.cells #[.int .i64 0, .bool false, .int .i64 0] 38)).heap.size = w.heap.size + 1 + 1 from by simp] at hbn
  have hB0 : B ≤ ((w.alloc (.cells #[.int .i64 s, .int .i64 t] 25)).alloc (.cells #[.int .i64 0, .bool false, .int .i64 0] 38)).heap.size := by simp; omega
  go_cut [5] (fun s5 wx => EntAt 38 (w.heap.size + 2) c (Kept 98 .i64 B c a n cap ((w.alloc (.cells #[.int .i64 s, .int .i64 t] 25)).alloc (.cells #[.int .i64 0, .bool false, .int .i64 0] 38))) s5 wx)
  case first =>
    go_region_held3 (fun w' => w'.cell? ⟨w.heap.size, 0, none⟩ = some (.int .i64 s) ∧ Kept 98 .i64 B c a n cap ((w.alloc (.cells #[.int .i64 s, .int .i64 t] 25)).alloc (.cells #[.int .i64 0, .bool false, .int .i64 0] 38)) w')
      (first
        | exact ⟨p0, K0.out⟩
        | exact ⟨p0, K0.out.drew⟩
        | (try go_split_ands
           refine Kept.with1 hpl hpc p0 ?_
           first
             | (refine Kept.call ?_ hd1 hg1; assumption)
             | (refine Kept.alloc ?_ _; assumption)
             | (refine Kept.alloc (Kept.call ?_ hd1 hg1) _; assumption)
             | exact Kept.drew (Kept.alloc K0.out _)
             | (refine Kept.set3 hB0 (Kept.call ?_ hd1 hg1) ?_ ?_; all_goals (first | assumption | omega | (simp; done) | (simp; omega)))
             | (refine Kept.set3 hB0 ?_ ?_ ?_; all_goals (first | assumption | omega | (simp; done) | (simp; omega))))
        | fail)
      ((first
        | (go_at_call 67; (try go_split_ands); refine (below_int (Kept.drawer (by assumption)) _).mono ?_; rintro e w1 ⟨v, ⟨x, rfl, hx⟩, rfl, hd1, hg1⟩; obtain ⟨hcx, hfx⟩ := gcell hg1; have hnx : ¬ w1.heap.size = c := (by have := hd1.lt; omega); have hsx := hg1.size; have hsl := (fun g h => Nat.lt_of_lt_of_le h hsx : ∀ g, g < _ → g < w1.heap.size); (try simp at hsx); (try (have hgz := grown_trans (by assumption) hg1; obtain ⟨hcy, hfy⟩ := gcell hgz)))
        | (go_at_call 68; refine (max_any _ _ _).mono ?_; rintro e w' ⟨u, rfl, rfl⟩)
        | (go_at_call 53; (try go_split_ands); refine (once_any (Kept.drawer (by assumption)) _).mono ?_; rintro e w1 ⟨v, ⟨x, rfl⟩, rfl, hd1, hg1⟩; obtain ⟨hcx, hfx⟩ := gcell hg1; have hnx : ¬ w1.heap.size = c := (by have := hd1.lt; omega); have hsx := hg1.size; have hsl := (fun g h => Nat.lt_of_lt_of_le h hsx : ∀ g, g < _ → g < w1.heap.size); (try simp at hsx); (try (have hgz := grown_trans (by assumption) hg1; obtain ⟨hcy, hfy⟩ := gcell hgz)))))
    all_goals
      go_wp2_with fail
      go_meet
      (try go_split_ands)
      apply EntAt.mk
      · first
          | exact blk_new _ _
          | exact blk_set3 (blk_grown (blk_new _ _) hg1 (by simp; omega))
          | exact blk_set3 (blk_grown (blk_new _ _) hgz (by simp; omega))
          | exact blk_set3 (blk_grown (w := (World.alloc _ _).drew) hbn hgz (by simp; omega))
      · assumption
      · assumption
      · first | omega | (simp; done) | (simp; omega)
      · first | omega | (simp; omega)
      · assumption
  case rest =>
    obtain ⟨g, x, y, b, rfl, hg, hx, hy, hgl, hgc, hk⟩ := hcut
    have hsz := hk.grown.size
    simp at hsz
    have PB := Lib.hid (hk.blk (blk_alloc (blk_new w _)) (by omega))
    have RB := Lib.hid (hk.blk (blk_new (w.alloc _) _) (by simp; omega))
    have GB := Lib.hid hg
    simp at RB
    have HK := Lib.hid hk
    clear hg hk
    go_wp2_with fail
    refine (once_any HK.out.drawer _).mono ?_
    rintro e w2 ⟨v, ⟨z, rfl⟩, rfl, hd2, hg2⟩
    have PB2 := Lib.hid (blk_grown PB.out hg2 (by simp; omega))
    have RB2 := Lib.hid (blk_grown RB.out hg2 (by simp; omega))
    have GB2 := Lib.hid (blk_grown GB.out hg2 (by simp; omega))
    have hz2 := hg2.size
    have HK2 := Lib.hid (HK.out.call hd2 hg2)
    clear hd2 hg2 HK PB RB GB p0 p1
    obtain ⟨r0, r1, r2, e0, e1, e2⟩ := blk_three RB2.out
    obtain ⟨q0, q1, q2, f0, f1, f2⟩ := blk_three GB2.out
    obtain ⟨p0, p1, -, -⟩ := blk_two PB2.out
    have GW := Lib.hid (grown_trans (grown_alloc (World.grownBy_alloc w _ (some c)) _) HK2.out.grown)
    cases z
    · go_wp2
      refine bodyPost_ret ?ret rfl ⟨_, ⟨x, b, y, rfl, hx, hy⟩, rfl, HK2.out.drawer.set3 (by omega) (by omega), grown_setNew3 GW.out (by omega)⟩
      case ret => simp [results, Try.results102, go_sem, r0, r1, r2]
    · go_wp2_with fail
      refine (specNone s t _).mono ?_
      rintro e w3 ⟨rfl, hb3⟩
      have RB3 := Lib.hid (blk_below RB2.out hb3 (by omega))
      have GB3 := Lib.hid (blk_below GB2.out hb3 (blk_lt GB2.out))
      have HK3 := Lib.hid (HK2.out.below hb3)
      have GW3 := Lib.hid (grown_trans GW.out (grown_below hb3 _))
      clear hb3 r0 r1 r2 e0 e1 e2 q0 q1 q2 f0 f1 f2 p0 p1
      obtain ⟨r0, r1, r2, e0, e1, e2⟩ := blk_three RB3.out
      obtain ⟨q0, q1, q2, f0, f1, f2⟩ := blk_three GB3.out
      have hgr : g ≠ w.heap.size + 1 := by omega
      have hrg : w.heap.size + 1 ≠ g := by omega
      go_wp2
      refine bodyPost_ret ?ret2 rfl ⟨_, ⟨x, b, noneV s t, rfl, hx, noneV_w64 s t⟩, rfl, (HK3.out.drawer.set1 (by omega) hgc).set3 (by omega) (by omega), grown_setNew3 (grown_setNew GW3.out (by show _ ≤ g; omega) _) (by omega)⟩
      case ret2 => simp [results, Try.results102, go_sem, r0, r1, r2]

end Go.Proofs.Ytgcnfnmdemeaoaa
