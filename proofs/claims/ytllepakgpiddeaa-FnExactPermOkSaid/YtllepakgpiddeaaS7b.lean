/- The model of what is in a ring: is it a permutation. -/
import Derived.Test.YtllepakgpiddeaaApp
import Derived.Test.YtllepakgpiddeaaS1
namespace Go.Proofs.Ytllepakgpiddeaa
open Go.RowKit

def permL (L : List Int) (s : Int) : Prop := ∀ j, j < s.toNat → L.count ((j : Nat) : Int) = 1

instance (L : List Int) (s : Int) : Decidable (permL L s) := by unfold permL; infer_instance

def okPerm (s t : Int) (xs ys : List Int) : Prop := okP s t ∧ (xs.length : Int) + ys.length = s ∧ permL (xs ++ ys) s

instance (s t : Int) (xs ys : List Int) : Decidable (okPerm s t xs ys) := by unfold okPerm; infer_instance

def okPermB (s t : Int) (xs ys : List Int) : Bool := decide (okPerm s t xs ys)

theorem count_take (L : List Int) (k : Nat) (x i : Int) (hx : L[k]? = some x) : (L.take (k + 1)).count i = (L.take k).count i + (if x = i then 1 else 0) := by
  rw [List.take_add_one, hx, List.count_append]
  simp [List.count_cons]

set_option maxRecDepth 100000 in
set_option maxHeartbeats 2000000 in
theorem permOk_go (s t : Int) (a b : Option Addr) (n m ca cb : Nat) (xs ys : List Int) (w : World) (ha : IntsW (a, n, xs) w) (hb : IntsW (b, m, ys) w) (hp : okP s t) (hl : (n : Int) + m = s) :
    Calls Try.prog 15 #[.agg #[.int .i64 s, .int .i64 t], .slice a n ca, .slice b m cb] w fun e w' => e = .returned (.bool (decide (permL (xs ++ ys) s))) ∧ Below w.heap.size w w' := by
  obtain ⟨g1, g2⟩ := okP_le hp
  have HP := Lib.hid hp
  have HQ := Lib.hid (((((Hold.start w).addI ha).addI hb)).new (.cells #[.int .i64 s, .int .i64 t] 29))
  have lx : xs.length = n := ha.1
  have ly : ys.length = m := hb.1
  clear ha hb hp
  have e1 : wrap64 ((n : Int) + m) = s := by unfold wrap64; omega
  go_enter Try.func15, Try.ntmps15
  go_wp2_with (first | (go_at_call 27; (with_reducible refine (specOk_yes _ _ HP.out _).mono ?_); rintro e w1 ⟨rfl, hb⟩; have HQ1 := Lib.hid (HQ.out.step hb); have z1 := HQ1.out.size; clear hb HQ; obtain ⟨q0, q1, -, -⟩ := blk_two HQ1.out.hd) | (go_at_call 23; (with_reducible refine (specCopy a n ca xs _ HQ1.out.itl.ints (by omega)).mono ?_); rintro e w2 ⟨v2, rfl, ho2, hb2⟩; have HQ2 := Lib.hid (HQ1.out.step hb2); have HO2 := Lib.hid ho2; have z2 := hb2.size; clear hb2 HQ1 q0 q1 ho2; obtain ⟨q0, q1, -, -⟩ := blk_two HQ2.out.hd) | (refine wpList_app (by rfl) _ _ (by rfl) w1.heap.size _ xs ys b m cb (by rfl) (by rfl) HO2.out HQ2.out.ints (by omega) z2 ?_; intro v3 w3 ho3 hg3 hv3; have hlt3 := HO2.out.lt; have HQ3 := Lib.hid (HQ2.out.grown hg3 (fun k e => by have := hlt3 k e; omega)); have HO3 := Lib.hid ho3; clear ho3 hg3 q0 q1 hlt3 hv3 HQ2 HO2; obtain ⟨q0, q1, -, -⟩ := blk_two HQ3.out.hd))
  obtain ⟨c, cc, rfl, hL⟩ := HO3.out.form
  clear HO3
  have hll : (xs ++ ys).length = s.toNat := by simp; omega
  generalize hLL : xs ++ ys = L at *
  rw [hll] at hL
  rw [hll]
  have HL := Lib.hid hL
  have hs64 : (s.toNat : Int) = s := by omega
  go_loop [8] (fun i => ∃ k : Nat, k ≤ s.toNat ∧ i = .int .i64 k ∧ ∀ j, j < k → L.count ((j : Nat) : Int) = 1) (fun i => s.toNat - (intOf i).toNat)
  case atStart => exact ⟨0, Nat.zero_le _, rfl, fun j hj => by omega⟩
  case round =>
    obtain ⟨k, hk, rfl, hone⟩ := hrel
    have HONE := Lib.hid hone
    clear hone
    by_cases hlt : k < s.toNat
    · have hlt' : (k : Int) < s := by omega
      go_wp2
      go_loop [9, 10] (fun n i => ∃ d e : Nat, d ≤ s.toNat ∧ e ≤ d ∧ i = .int .i64 d ∧ n = .int .i64 e ∧ e = (L.take d).count (k : Int)) (fun _ i => s.toNat - (intOf i).toNat)
      case atStart => exact ⟨0, 0, Nat.zero_le _, Nat.le_refl _, rfl, rfl, by simp⟩
      case round =>
        obtain ⟨d, e, hd, he, rfl, rfl, hc⟩ := hrel
        by_cases hdl : d < s.toNat
        · obtain ⟨b', off', rfl, -, x, hx, hcell⟩ := Ints.at_ HL.out (k := d) hdl
          have hstep := count_take L d x k hx
          rw [← hc] at hstep
          by_cases hxk : x = k
          · rw [if_pos hxk] at hstep
            have hxb : (x == (k : Int)) = true := by simp [hxk]
            go_wp2
            go_round
            case rel => exact ⟨d + 1, e + 1, by omega, by omega, by go_num, by go_num, hstep.symm⟩
            case measure => simp [intOf]; omega
          · rw [if_neg hxk] at hstep
            have hxb : (x == (k : Int)) = false := by simp [hxk]
            go_wp2
            go_round
            case rel => exact ⟨d + 1, e, by omega, by omega, by go_num, rfl, hstep.symm⟩
            case measure => simp [intOf]; omega
        · have hds : d = s.toNat := by omega
          subst hds
          have hfull : (L.take s.toNat) = L := List.take_of_length_le (by rw [← hLL]; simp; omega)
          rw [hfull] at hc
          by_cases h1 : e = 1
          · have hb1 : ((e : Int) != 1) = false := by simp [h1]
            go_wp2
            go_round
            case rel =>
              refine ⟨k + 1, by omega, by go_num, fun j hj => ?_⟩
              by_cases hjk : j = k
              · subst hjk; rw [← hc]; exact h1
              · exact HONE.out j (by omega)
            case measure => simp [intOf]; omega
          · have hb1 : ((e : Int) != 1) = true := by simp; omega
            go_wp2
            go_ret
            have hno : ¬ permL (xs ++ ys) s := fun hx => h1 (by rw [hc, ← hLL]; exact hx k hlt)
            exact ⟨by rw [show decide (permL L s) = false from decide_eq_false (by rw [← hLL]; exact hno)]; rfl, HQ3.out.below⟩
    · have hks : k = s.toNat := by omega
      subst hks
      have hlt' : ¬ ((s.toNat : Nat) : Int) < s := by omega
      go_wp2
      go_ret
      have hyes : permL (xs ++ ys) s := fun j hj => by rw [hLL]; exact HONE.out j hj
      exact ⟨by rw [show decide (permL L s) = true from decide_eq_true (by rw [← hLL]; exact hyes)]; rfl, HQ3.out.below⟩

theorem permOk_no (s t : Int) (a b : Option Addr) (n m ca cb : Nat) (xs ys : List Int) (w : World) (lx : xs.length = n) (ly : ys.length = m) (hn : n ≤ 1048576) (hm : m ≤ 1048576) (hno : ¬ (okP s t ∧ (n : Int) + m = s)) :
    Calls Try.prog 15 #[.agg #[.int .i64 s, .int .i64 t], .slice a n ca, .slice b m cb] w fun e w' => e = .returned (.bool false) ∧ Below w.heap.size w w' := by
  have e1 : wrap64 ((n : Int) + m) = (n : Int) + m := by unfold wrap64; omega
  by_cases hp : okP s t
  · have HP := Lib.hid hp
    have hne : ¬ (n : Int) + m = s := fun hx => hno ⟨hp, hx⟩
    have hd : (((n : Int) + m) != s) = true := by simpa using hne
    have HQ := Lib.hid (blk_new w (.cells #[.int .i64 s, .int .i64 t] 29))
    clear hp hno hne
    go_enter Try.func15, Try.ntmps15
    go_wp2_with (go_at_call 27; (with_reducible refine (specOk_yes _ _ HP.out _).mono ?_); rintro e w1 ⟨rfl, hb⟩; have HQ1 := Lib.hid (blk_below HQ.out hb (by simp)); obtain ⟨q0, q1, -, -⟩ := blk_two HQ1.out)
    go_ret
    exact ⟨rfl, ((Below.refl _ _).alloc (Nat.le_refl _) _).trans (hb.mono (by simp))⟩
  · have HP := Lib.hid hp
    clear hp hno
    go_enter Try.func15, Try.ntmps15
    go_wp2_with (go_at_call 27; (with_reducible refine (specOk_no _ _ HP.out _).mono ?_); rintro e w1 ⟨rfl, hb⟩)
    go_ret
    exact ⟨rfl, ((Below.refl _ _).alloc (Nat.le_refl _) _).trans (hb.mono (by simp))⟩

theorem specPermOk (s t : Int) (a b : Option Addr) (n m ca cb : Nat) (xs ys : List Int) (w : World) (ha : IntsW (a, n, xs) w) (hb : IntsW (b, m, ys) w) (hn : n ≤ 1048576) (hm : m ≤ 1048576) :
    Calls Try.prog 15 #[.agg #[.int .i64 s, .int .i64 t], .slice a n ca, .slice b m cb] w fun e w' => e = .returned (.bool (okPermB s t xs ys)) ∧ Below w.heap.size w w' := by
  have lx : xs.length = n := ha.1
  have ly : ys.length = m := hb.1
  by_cases h : okP s t ∧ (n : Int) + m = s
  · have := permOk_go s t a b n m ca cb xs ys w ha hb h.1 h.2
    rwa [show okPermB s t xs ys = decide (permL (xs ++ ys) s) from decide_eq_decide.mpr ⟨fun hx => hx.2.2, fun hx => ⟨h.1, by rw [lx, ly]; exact h.2, hx⟩⟩]
  · have := permOk_no s t a b n m ca cb xs ys w lx ly hn hm h
    rwa [show okPermB s t xs ys = false from decide_eq_false (fun hx => h ⟨hx.1, by rw [← lx, ← ly]; exact hx.2.1⟩)]

end Go.Proofs.Ytllepakgpiddeaa
