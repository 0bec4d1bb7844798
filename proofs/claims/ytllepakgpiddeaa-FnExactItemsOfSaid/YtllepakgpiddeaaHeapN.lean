/- The program's heap of waiting items: down, Push and Pop. -/
import Derived.Test.YtllepakgpiddeaaHeapM
namespace Go.Proofs.Ytllepakgpiddeaa
open Go.RowKit

/-- Nothing that was there has turned but two blocks. -/
structure Kept2 (p : Nat) (r : Option Nat) (w w' : World) : Prop where
  os : w'.os = w.os
  tape : w'.tape = w.tape
  output : w'.output = w.output
  size : w.heap.size ≤ w'.heap.size
  block : ∀ k, k < w.heap.size → k ≠ p → r ≠ some k → w'.heap[k]? = w.heap[k]?

theorem Kept2.grown {p : Nat} {r : Option Nat} {w w' : World} (h : w.grownBy w' r) : Kept2 p r w w' := ⟨h.1, h.2, h.3, h.4, fun k hk _ hr => h.5 k hk (fun e => hr e.symm)⟩

theorem Kept2.var {p : Nat} {r : Option Nat} {w w' : World} (h : w.grownBy w' (some p)) : Kept2 p r w w' := ⟨h.1, h.2, h.3, h.4, fun k hk hp _ => h.5 k hk (fun e => hp (Option.some.inj e))⟩

theorem Kept2.trans {p : Nat} {r s : Option Nat} {a b c : World} (h : Kept2 p r a b) (g : Kept2 p s b c) (hs : s = r ∨ ∀ k, s = some k → a.heap.size ≤ k) : Kept2 p r a c :=
  ⟨g.os.trans h.os, g.tape.trans h.tape, g.output.trans h.output, Nat.le_trans h.size g.size, fun k hk hp hr => (g.block k (Nat.lt_of_lt_of_le hk h.size) hp (by
    rcases hs with rfl | hs
    · exact hr
    · intro e; have := hs k e; omega)).trans (h.block k hk hp hr)⟩

theorem Kept2.below {B p : Nat} {r : Option Nat} {a w w' : World} (h : Below B a w) (g : Kept2 p r w w') (hB : B ≤ w.heap.size) (hp : B ≤ p) (hr : ∀ k, r = some k → B ≤ k) : Below B a w' :=
  h.trans ⟨g.os, g.tape, g.output, g.size, fun k hk => g.block k (by omega) (by omega) (fun e => by have := hr k e; omega)⟩

theorem Kept2.blk {p b : Nat} {r : Option Nat} {w w' : World} {o : Obj} (g : Kept2 p r w w') (h : w.heap[b]? = some o) (hp : b ≠ p) (hr : r ≠ some b) : w'.heap[b]? = some o := (g.block b (blk_lt h) hp hr).trans h

theorem lenC (p base : Nat) (v : Value) (L : List (Int × Int)) (w : World) (h : HW p base v L w) (h64 : L.length ≤ 64) : Calls Try.prog 97 #[v] w fun e w' => e = .returned (.int .i64 L.length) ∧ w = w' := by
  obtain ⟨a, cap, rfl⟩ := h.2.form2
  exact len_at a L.length cap h64 w

def DownEnd (p base : Nat) (v : Value) (L : List (Int × Int)) (n : Nat) (w : World) (e : Ending) (w' : World) : Prop := ∃ b : Bool, e = .returned (.bool b) ∧ ∃ M, M.Perm L ∧ heapN n M ∧ M.getD n (0, 0) = L.getD n (0, 0) ∧ HW p base v M w' ∧ w.grownBy w' v.ownBlock

set_option maxRecDepth 100000 in
set_option maxHeartbeats 4000000 in
theorem downC (p base : Nat) (v : Value) (L : List (Int × Int)) (i0 n : Nat) (w : World) (h : HW p base v L w) (hn : n ≤ L.length) (h64 : L.length ≤ 64) (hi0 : i0 ≤ n) (hd : downInv n L i0) :
    Calls Try.prog 45 #[.iface 54 (.pointer (some ⟨p, 0, none⟩)), .int .i64 i0, .int .i64 n] w (DownEnd p base v L n w) := by
  have HH := Lib.hid h
  have HU := Lib.hid hd
  clear h hd
  have eLen : ∀ args w, Sem.run Try.prog (callFunc 97 args) w = .ok (.enter 97 args) w := enters_of Try.func97 (by kernel_rfl) rfl
  have eLess : ∀ args w, Sem.run Try.prog (callFunc 98 args) w = .ok (.enter 98 args) w := enters_of Try.func98 (by kernel_rfl) rfl
  have eSwap : ∀ args w, Sem.run Try.prog (callFunc 99 args) w = .ok (.enter 99 args) w := enters_of Try.func99 (by kernel_rfl) rfl
  have ePop : ∀ args w, Sem.run Try.prog (callFunc 100 args) w = .ok (.enter 100 args) w := enters_of Try.func100 (by kernel_rfl) rfl
  have ePush : ∀ args w, Sem.run Try.prog (callFunc 101 args) w = .ok (.enter 101 args) w := enters_of Try.func101 (by kernel_rfl) rfl
  go_enter Try.func45, Try.ntmps45
  go_wp2
  go_loopw [7] (fun jv wr => ∃ (k : Nat) (M : List (Int × Int)), jv = .int .i64 k ∧ k ≤ n ∧ M.Perm L ∧ downInv n M k ∧ Hid (M.getD n (0, 0) = L.getD n (0, 0)) ∧ HW p base v M wr ∧ w.grownBy wr v.ownBlock) (fun jv _ => n - (intOf jv).toNat)
  case atStart => exact ⟨i0, L, rfl, hi0, List.Perm.refl _, HU.out, Lib.hid rfl, HH.out, World.grownBy.refl _ _⟩
  case round =>
    obtain ⟨k, M, rfl, hk, hp, hu, HT, hh, hg⟩ := hrel
    have hl : M.length = L.length := hp.length_eq
    have HP := Lib.hid hp
    have HM := Lib.hid hu
    have HR := Lib.hid hh
    have HRg := Lib.hid hg
    clear hp hu hh hg
    by_cases hA : n ≤ 2 * k + 1
    · have hAi : (n : Int) ≤ 2 * (k : Int) + 1 := by omega
      go_wp2
      go_ret
      exact ⟨_, rfl, M, HP.out, down_done HM.out (fun c c0 c1 c2 => by omega), HT.out, HR.out, HRg.out⟩
    · have hAi : ¬ (n : Int) ≤ 2 * (k : Int) + 1 := by omega
      have hA0 : ¬ 2 * (k : Int) + 1 < 0 := by omega
      have hne : M ≠ [] := fun e => by subst e; simp at hl; omega
      by_cases hB : n ≤ 2 * k + 2
      · -- one child
        have hBi : ¬ 2 * (k : Int) + 1 + 1 < (n : Int) := by omega
        by_cases hlt : tk M (2 * k + 1) < tk M k
        · have hdec : decide (tk M (2 * k + 1) < tk M k) = true := decide_eq_true hlt
          have HLT := Lib.hid hlt
          clear hlt
          go_wp2_with (first | (refine wpl_meth2 "Less" (by rfl) _ _ _ _ (by rfl) _ _ _ _ (by rfl) (reach_less p v _ (HR.out.var.1)) eLess _ (by rfl) _ (by rfl) _ (lessC p base v _ _ HR.out (2 * k + 1) k (by omega) (by omega) (by omega)) ?_; rintro e w2 ⟨rfl, hh, hb⟩; refine ⟨_, rfl, ?_⟩; have HB := Lib.hid hh; have HBg := Lib.hid (grown_trans HRg.out (grown_below hb _)); clear hh hb) | (refine wpl_meth2 "Swap" (by rfl) _ _ _ _ (by rfl) _ _ _ _ (by rfl) (reach_swap p v _ (HB.out.var.1)) eSwap _ (by rfl) _ (by rfl) _ (swapC p base v _ _ HB.out k (2 * k + 1) (by omega) (by omega) (by omega)) ?_; rintro e w3 ⟨rfl, hh, hg⟩; refine ⟨_, rfl, ?_⟩; have HC := Lib.hid hh; have HCg := Lib.hid (grown_trans HBg.out hg); clear hh hg))
          go_roundw
          case rel => exact ⟨(2 * k + 1), swp M k (2 * k + 1), by go_num, by omega, (swp_perm M k (2 * k + 1) (by omega) (by omega)).trans HP.out, down_step HM.out (by omega) (by omega) (by omega) (by omega) (fun d (d0 : 0 < d) (d1 : d < n) (d2 : (d - 1) / 2 = k) => by rw [show d = 2 * k + 1 from by omega]; exact Int.le_refl _) HLT.out, Lib.hid (by rw [swp_at M k (2 * k + 1) n (by omega) (by omega), if_neg (by omega), if_neg (by omega)]; exact HT.out), HC.out, HCg.out⟩
          case measure => simp [intOf]; omega
        · have hdec : decide (tk M (2 * k + 1) < tk M k) = false := decide_eq_false hlt
          have HLT := Lib.hid (Int.not_lt.1 hlt)
          clear hlt
          go_wp2_with (first | (refine wpl_meth2 "Less" (by rfl) _ _ _ _ (by rfl) _ _ _ _ (by rfl) (reach_less p v _ (HR.out.var.1)) eLess _ (by rfl) _ (by rfl) _ (lessC p base v _ _ HR.out (2 * k + 1) k (by omega) (by omega) (by omega)) ?_; rintro e w2 ⟨rfl, hh, hb⟩; refine ⟨_, rfl, ?_⟩; have HB := Lib.hid hh; have HBg := Lib.hid (grown_trans HRg.out (grown_below hb _)); clear hh hb))
          go_ret
          exact ⟨_, rfl, M, HP.out, down_done HM.out (fun c c0 c1 c2 => Int.le_trans HLT.out ((show ∀ d, 0 < d → d < n → (d - 1) / 2 = k → tk M (2 * k + 1) ≤ tk M d from (fun d (d0 : 0 < d) (d1 : d < n) (d2 : (d - 1) / 2 = k) => by rw [show d = 2 * k + 1 from by omega]; exact Int.le_refl _)) c c0 c1 c2)), HT.out, HB.out, HBg.out⟩
      · have hBi : 2 * (k : Int) + 1 + 1 < (n : Int) := by omega
        by_cases hlt2 : tk M (2 * k + 2) < tk M (2 * k + 1)
        · have hdec2 : decide (tk M (2 * k + 2) < tk M (2 * k + 1)) = true := decide_eq_true hlt2
          have HLT2 := Lib.hid hlt2
          clear hlt2
          by_cases hlt : tk M (2 * k + 2) < tk M k
          · have hdec : decide (tk M (2 * k + 2) < tk M k) = true := decide_eq_true hlt
            have HLT := Lib.hid hlt
            clear hlt
            go_wp2_with (first | (refine wpl_meth2 "Less" (by rfl) _ _ _ _ (by rfl) _ _ _ _ (by rfl) (reach_less p v _ (HR.out.var.1)) eLess _ (by rfl) _ (by rfl) _ (lessC p base v _ _ HR.out (2 * k + 2) (2 * k + 1) (by omega) (by omega) (by omega)) ?_; rintro e w1 ⟨rfl, hh, hb⟩; refine ⟨_, rfl, ?_⟩; have HA := Lib.hid hh; have HAg := Lib.hid (grown_trans HRg.out (grown_below hb _)); clear hh hb) | (refine wpl_meth2 "Less" (by rfl) _ _ _ _ (by rfl) _ _ _ _ (by rfl) (reach_less p v _ (HA.out.var.1)) eLess _ (by rfl) _ (by rfl) _ (lessC p base v _ _ HA.out (2 * k + 2) k (by omega) (by omega) (by omega)) ?_; rintro e w2 ⟨rfl, hh, hb⟩; refine ⟨_, rfl, ?_⟩; have HB := Lib.hid hh; have HBg := Lib.hid (grown_trans HAg.out (grown_below hb _)); clear hh hb) | (refine wpl_meth2 "Swap" (by rfl) _ _ _ _ (by rfl) _ _ _ _ (by rfl) (reach_swap p v _ (HB.out.var.1)) eSwap _ (by rfl) _ (by rfl) _ (swapC p base v _ _ HB.out k (2 * k + 2) (by omega) (by omega) (by omega)) ?_; rintro e w3 ⟨rfl, hh, hg⟩; refine ⟨_, rfl, ?_⟩; have HC := Lib.hid hh; have HCg := Lib.hid (grown_trans HBg.out hg); clear hh hg))
            go_roundw
            case rel => exact ⟨(2 * k + 2), swp M k (2 * k + 2), by go_num, by omega, (swp_perm M k (2 * k + 2) (by omega) (by omega)).trans HP.out, down_step HM.out (by omega) (by omega) (by omega) (by omega) (fun d (d0 : 0 < d) (d1 : d < n) (d2 : (d - 1) / 2 = k) => by rcases (show d = 2 * k + 2 ∨ d = 2 * k + 1 from by omega) with e | e <;> rw [e] <;> first | exact Int.le_refl _ | exact Int.le_of_lt HLT2.out) HLT.out, Lib.hid (by rw [swp_at M k (2 * k + 2) n (by omega) (by omega), if_neg (by omega), if_neg (by omega)]; exact HT.out), HC.out, HCg.out⟩
            case measure => simp [intOf]; omega
          · have hdec : decide (tk M (2 * k + 2) < tk M k) = false := decide_eq_false hlt
            have HLT := Lib.hid (Int.not_lt.1 hlt)
            clear hlt
            go_wp2_with (first | (refine wpl_meth2 "Less" (by rfl) _ _ _ _ (by rfl) _ _ _ _ (by rfl) (reach_less p v _ (HR.out.var.1)) eLess _ (by rfl) _ (by rfl) _ (lessC p base v _ _ HR.out (2 * k + 2) (2 * k + 1) (by omega) (by omega) (by omega)) ?_; rintro e w1 ⟨rfl, hh, hb⟩; refine ⟨_, rfl, ?_⟩; have HA := Lib.hid hh; have HAg := Lib.hid (grown_trans HRg.out (grown_below hb _)); clear hh hb) | (refine wpl_meth2 "Less" (by rfl) _ _ _ _ (by rfl) _ _ _ _ (by rfl) (reach_less p v _ (HA.out.var.1)) eLess _ (by rfl) _ (by rfl) _ (lessC p base v _ _ HA.out (2 * k + 2) k (by omega) (by omega) (by omega)) ?_; rintro e w2 ⟨rfl, hh, hb⟩; refine ⟨_, rfl, ?_⟩; have HB := Lib.hid hh; have HBg := Lib.hid (grown_trans HAg.out (grown_below hb _)); clear hh hb))
            go_ret
            exact ⟨_, rfl, M, HP.out, down_done HM.out (fun c c0 c1 c2 => Int.le_trans HLT.out ((show ∀ d, 0 < d → d < n → (d - 1) / 2 = k → tk M (2 * k + 2) ≤ tk M d from (fun d (d0 : 0 < d) (d1 : d < n) (d2 : (d - 1) / 2 = k) => by rcases (show d = 2 * k + 2 ∨ d = 2 * k + 1 from by omega) with e | e <;> rw [e] <;> first | exact Int.le_refl _ | exact Int.le_of_lt HLT2.out)) c c0 c1 c2)), HT.out, HB.out, HBg.out⟩
        · have hdec2 : decide (tk M (2 * k + 2) < tk M (2 * k + 1)) = false := decide_eq_false hlt2
          have HLT2 := Lib.hid (Int.not_lt.1 hlt2)
          clear hlt2
          by_cases hlt : tk M (2 * k + 1) < tk M k
          · have hdec : decide (tk M (2 * k + 1) < tk M k) = true := decide_eq_true hlt
            have HLT := Lib.hid hlt
            clear hlt
            go_wp2_with (first | (refine wpl_meth2 "Less" (by rfl) _ _ _ _ (by rfl) _ _ _ _ (by rfl) (reach_less p v _ (HR.out.var.1)) eLess _ (by rfl) _ (by rfl) _ (lessC p base v _ _ HR.out (2 * k + 2) (2 * k + 1) (by omega) (by omega) (by omega)) ?_; rintro e w1 ⟨rfl, hh, hb⟩; refine ⟨_, rfl, ?_⟩; have HA := Lib.hid hh; have HAg := Lib.hid (grown_trans HRg.out (grown_below hb _)); clear hh hb) | (refine wpl_meth2 "Less" (by rfl) _ _ _ _ (by rfl) _ _ _ _ (by rfl) (reach_less p v _ (HA.out.var.1)) eLess _ (by rfl) _ (by rfl) _ (lessC p base v _ _ HA.out (2 * k + 1) k (by omega) (by omega) (by omega)) ?_; rintro e w2 ⟨rfl, hh, hb⟩; refine ⟨_, rfl, ?_⟩; have HB := Lib.hid hh; have HBg := Lib.hid (grown_trans HAg.out (grown_below hb _)); clear hh hb) | (refine wpl_meth2 "Swap" (by rfl) _ _ _ _ (by rfl) _ _ _ _ (by rfl) (reach_swap p v _ (HB.out.var.1)) eSwap _ (by rfl) _ (by rfl) _ (swapC p base v _ _ HB.out k (2 * k + 1) (by omega) (by omega) (by omega)) ?_; rintro e w3 ⟨rfl, hh, hg⟩; refine ⟨_, rfl, ?_⟩; have HC := Lib.hid hh; have HCg := Lib.hid (grown_trans HBg.out hg); clear hh hg))
            go_roundw
            case rel => exact ⟨(2 * k + 1), swp M k (2 * k + 1), by go_num, by omega, (swp_perm M k (2 * k + 1) (by omega) (by omega)).trans HP.out, down_step HM.out (by omega) (by omega) (by omega) (by omega) (fun d (d0 : 0 < d) (d1 : d < n) (d2 : (d - 1) / 2 = k) => by rcases (show d = 2 * k + 1 ∨ d = 2 * k + 2 from by omega) with e | e <;> rw [e] <;> first | exact Int.le_refl _ | exact HLT2.out) HLT.out, Lib.hid (by rw [swp_at M k (2 * k + 1) n (by omega) (by omega), if_neg (by omega), if_neg (by omega)]; exact HT.out), HC.out, HCg.out⟩
            case measure => simp [intOf]; omega
          · have hdec : decide (tk M (2 * k + 1) < tk M k) = false := decide_eq_false hlt
            have HLT := Lib.hid (Int.not_lt.1 hlt)
            clear hlt
            go_wp2_with (first | (refine wpl_meth2 "Less" (by rfl) _ _ _ _ (by rfl) _ _ _ _ (by rfl) (reach_less p v _ (HR.out.var.1)) eLess _ (by rfl) _ (by rfl) _ (lessC p base v _ _ HR.out (2 * k + 2) (2 * k + 1) (by omega) (by omega) (by omega)) ?_; rintro e w1 ⟨rfl, hh, hb⟩; refine ⟨_, rfl, ?_⟩; have HA := Lib.hid hh; have HAg := Lib.hid (grown_trans HRg.out (grown_below hb _)); clear hh hb) | (refine wpl_meth2 "Less" (by rfl) _ _ _ _ (by rfl) _ _ _ _ (by rfl) (reach_less p v _ (HA.out.var.1)) eLess _ (by rfl) _ (by rfl) _ (lessC p base v _ _ HA.out (2 * k + 1) k (by omega) (by omega) (by omega)) ?_; rintro e w2 ⟨rfl, hh, hb⟩; refine ⟨_, rfl, ?_⟩; have HB := Lib.hid hh; have HBg := Lib.hid (grown_trans HAg.out (grown_below hb _)); clear hh hb))
            go_ret
            exact ⟨_, rfl, M, HP.out, down_done HM.out (fun c c0 c1 c2 => Int.le_trans HLT.out ((show ∀ d, 0 < d → d < n → (d - 1) / 2 = k → tk M (2 * k + 1) ≤ tk M d from (fun d (d0 : 0 < d) (d1 : d < n) (d2 : (d - 1) / 2 = k) => by rcases (show d = 2 * k + 1 ∨ d = 2 * k + 2 from by omega) with e | e <;> rw [e] <;> first | exact Int.le_refl _ | exact HLT2.out)) c c0 c1 c2)), HT.out, HB.out, HBg.out⟩

def PopEnd (p base : Nat) (v : Value) (L : List (Int × Int)) (n : Nat) (w w' : World) : Prop := ∃ v', HW p base v' (L.take n) w' ∧ v'.ownBlock = v.ownBlock ∧ w.grownBy w' (some p)

set_option maxRecDepth 100000 in
set_option maxHeartbeats 4000000 in
theorem popM (p base : Nat) (v : Value) (L : List (Int × Int)) (n : Nat) (w : World) (h : HW p base v L w) (hn : L.length = n + 1) (h64 : n < 64) :
    Calls Try.prog 100 #[.pointer (some ⟨p, 0, none⟩)] w fun e w' => e = .returned (.iface 52 (.agg #[.int .i64 (L.getD n (0, 0)).1, .int .i64 (L.getD n (0, 0)).2])) ∧ PopEnd p base v L n w w' := by
  have hlt : n < L.length := by omega
  obtain ⟨g, cap, cur, rfl, -⟩ := RowW.form h.2 hlt
  obtain ⟨c0, c1, -, -⟩ := h.2.cell hlt
  obtain ⟨p0, p1⟩ := h.var
  have hcap : L.length ≤ cap := by obtain ⟨g', cap', cur', e, -, -, h3, -⟩ := RowW.form h.2 hlt; cases e; exact h3
  have HH := Lib.hid h
  rw [hn] at p0 hcap ⊢
  have HN := Lib.hid hn
  have y0 := blk_lt h.1
  clear h hn hlt
  generalize (L.getD n (0, 0)).1 = T at *
  generalize (L.getD n (0, 0)).2 = X at *
  go_enter Try.func100, Try.ntmps100
  go_wp2
  go_ret
  have hg : w.grownBy ((w.setCell ⟨p, 0, none⟩ (.slice (some ⟨g, 0, none⟩) n cap)).alloc (.cells #[.int .i64 T, .int .i64 X] 52)) (some p) := grown_alloc (grown_set _ _ _ _) _
  have hap := HH.out.apart
  exact ⟨rfl, .slice (some ⟨g, 0, none⟩) n cap, ⟨blk_alloc (blk_set HH.out.1), (HH.out.2.pre (by rw [HN.out]; omega)).kept hg (fun k e e' => hap (e.trans e'.symm))⟩, rfl, hg⟩

theorem run_app2 (base : Nat) (v : Value) (L : List (Int × Int)) (b : Nat) (x : Int × Int) (ty : TypeId) (w : World) (ho : RowW base v L w) (hs : w.heap[b]? = some (.cells #[.int .i64 x.1, .int .i64 x.2] 52 (0, 0))) (hn : L.length ≤ 64) (hb : base ≤ w.heap.size) :
    ∃ v' w', (Builtin.append_ #[49, 49] ty #[v, .slice (some ⟨b, 0, none⟩) 1 1]).run Try.prog w = .ok v' w' ∧ RowW base v' (L ++ [x]) w' ∧ w.grownBy w' v.ownBlock ∧ (v'.ownBlock = v.ownBlock ∨ v'.ownBlock = some w.heap.size) := by
  obtain ⟨i0, hi0, hz0, hz1, hz2⟩ := info_parts (P := Try.prog) (e := 52) (z := .agg #[.int .i64 0, .int .i64 0]) (size := 2) (bytes := 16) (by kernel_rfl)
  have hcell : ∀ j u, (its [x])[j]? = some u → w.cell? ((⟨b, 0, none⟩ : Addr).add j) = some u := by
    intro j u hu
    rw [Addr.add_lit, Nat.zero_add]
    refine blk_is hs ?_
    rw [← Array.getElem?_toList]
    exact hu
  obtain ⟨v', w', hr, h2, h3, -, h5⟩ := run_append_own_at (P := Try.prog) w base 49 ty 52 i0 _ 2 16 Try.underlying49 hi0 hz0 hz1 hz2 rfl (by omega) v L.length (its L) ho ⟨b, 0, none⟩ 1 1 (its [x]) rfl hcell (by intro u hu; simp [its] at hu; rcases hu with rfl | rfl <;> rfl) (by unfold maxLen; omega) (by omega) hb
  refine ⟨v', w', hr, ?_, h3, h5⟩
  unfold RowW
  rw [its_app, List.length_append]
  exact h2

/-- At the operation of a region that draws. -/
theorem step_app2 {ops : Array Oper} {o : Oper} {a0 : Act} {K : Act → World → Prop} {Q : Exit → Act → World → Prop} {E : Prop} {w : World} (hgd : o.guard = none) (s x : Operand)
    (ho : o.op = .call { callee := .builtin .append, args := #[s, x], argTypes := #[49, 49] })
    (base : Nat) (v : Value) (L : List (Int × Int)) (b : Nat) (y : Int × Int) (hv : a0.eval s = v) (hx : a0.eval x = .slice (some ⟨b, 0, none⟩) 1 1) (hown : RowW base v L w) (hs : w.heap[b]? = some (.cells #[.int .i64 y.1, .int .i64 y.2] 52 (0, 0))) (hn : L.length ≤ 64) (hb : base ≤ w.heap.size)
    (h : ∀ v' w', RowW base v' (L ++ [y]) w' → w.grownBy w' v.ownBlock → (v'.ownBlock = v.ownBlock ∨ v'.ownBlock = some w.heap.size) → K (a0.put o.dst v') w') : if Region.wanted o (yielded ops a0.tmps) = true then Oper.wp Try.prog o a0 w K Q else E := by
  have hw : Region.wanted o (yielded ops a0.tmps) = true := by simp [Region.wanted, hgd]
  rw [if_pos hw]
  obtain ⟨v', w', hr, h2, h3, h4⟩ := run_app2 base v L b y o.type w hown hs hn hb
  unfold Oper.wp execOp
  simp only [ho, resolve, invoke, builtin, Sem.run_bind, Sem.run_pure, Result.andThen_ok, List.map_toArray, List.map_cons, List.map_nil, hv, hx, hr]
  exact h v' w' h2 h3 h4

def PushEnd (p base : Nat) (v : Value) (M : List (Int × Int)) (w w' : World) : Prop := ∃ v', HW p base v' M w' ∧ Kept2 p v.ownBlock w w'

theorem push_end (p base : Nat) (v : Value) (L : List (Int × Int)) (x : Int × Int) (w w1 : World) (v1 : Value) (o : Obj) (h : HW p base v L w) (u1 : RowW base v1 (L ++ [x]) w1) (u2 : (w.alloc o).drew.grownBy w1 v.ownBlock) (u4 : w1.heap[p]? = some (.cells #[v] 49 (0, 0))) : PushEnd p base v (L ++ [x]) w (w1.setCell ⟨p, 0, none⟩ v1) := by
  have h0 : w.grownBy w1 v.ownBlock := grown_trans (grown_below ((Below.refl _ _).alloc (Nat.le_refl _) _).drew _) u2
  have hap : v1.ownBlock ≠ some p := HW.apart (p := p) (v := v1) (L := L ++ [x]) (w := w1.setCell ⟨p, 0, none⟩ v1) (base := base) ⟨blk_set u4, by
    have hne : v1.ownBlock ≠ some p := by
      intro e
      rcases u1.2 with ⟨rfl, -⟩ | ⟨g, c, cur, rfl, h1, h2, -⟩
      · cases e
      · have e' : g = p := Option.some.inj e
        subst e'
        have := u4.symm.trans h2
        simp at this
    exact u1.kept (grown_set _ _ _ _) (fun k e e' => hne (e.trans e'.symm))⟩
  exact ⟨v1, ⟨blk_set u4, u1.kept (grown_set _ _ _ _) (fun k e e' => hap (e.trans e'.symm))⟩, (Kept2.grown h0).trans (Kept2.var (r := v.ownBlock) (grown_set _ _ _ _)) (Or.inl rfl)⟩

set_option maxRecDepth 100000 in
set_option maxHeartbeats 4000000 in
theorem pushM (p base : Nat) (v : Value) (L : List (Int × Int)) (x : Int × Int) (w : World) (h : HW p base v L w) (h64 : L.length < 64) (hbp : base ≤ w.heap.size) :
    Calls Try.prog 101 #[.pointer (some ⟨p, 0, none⟩), .iface 52 (.agg #[.int .i64 x.1, .int .i64 x.2])] w fun e w' => e = .returned (.tuple #[]) ∧ PushEnd p base v (L ++ [x]) w w' := by
  obtain ⟨p0, p1⟩ := h.var
  have HH := Lib.hid h
  have y0 := blk_lt h.1
  clear h
  obtain ⟨T, X⟩ := x
  go_enter Try.func101, Try.ntmps101
  go_wp2
  have V1 := Lib.hid (show RowW base v L (w.alloc (.cells #[.int .i64 T, .int .i64 X] 52)).drew from HH.out.2.step ((Below.refl _ _).alloc (Nat.le_refl _) _).drew)
  have V2 := Lib.hid (show (w.alloc (.cells #[.int .i64 T, .int .i64 X] 52)).drew.heap[w.heap.size]? = some (.cells #[.int .i64 T, .int .i64 X] 52 (0, 0)) from blk_new w _)
  have V3 := Lib.hid (show (w.alloc (.cells #[.int .i64 T, .int .i64 X] 52)).drew.heap[p]? = some (.cells #[v] 49 (0, 0)) from blk_alloc HH.out.1)
  have gW : (w.alloc (.cells #[.int .i64 T, .int .i64 X] 52)).drew.cell? ⟨p, 0, none⟩ = some v := blk_is V3.out rfl
  have zW : (w.alloc (.cells #[.int .i64 T, .int .i64 X] 52)).drew.heap.size = w.heap.size + 1 := by show (w.alloc _).heap.size = _; simp
  have HAP := Lib.hid HH.out.apart
  have hta : ∀ w : World, Sem.run Try.prog (Instr.typeAssert (.iface 52 (.agg #[.int .i64 T, .int .i64 X])) 20 52 false) w = .ok (.agg #[.int .i64 T, .int .i64 X]) w := fun w => by kernel_rfl
  go_region_law (first | (refine step_app2 (by rfl) _ _ (by rfl) base v L w.heap.size (T, X) (by rfl) (by rfl) V1.out V2.out (by omega) (by omega) ?_; intro v1 w1 ho1 hg1 hv1; obtain ⟨a1, c1, rfl⟩ := ho1.form2; have U1 := Lib.hid ho1; have U2 := Lib.hid hg1; have U3 := Lib.hid hv1; have U4 := Lib.hid (blk_grown V3.out hg1 (fun e => HAP.out e.symm)); have q0 := blk_is (o := 0) U4.out rfl; have q1 := blk_free (o := 0) U4.out; clear ho1 hg1 hv1))
  all_goals (try go_wp2)
  all_goals go_end0
  all_goals exact ⟨rfl, push_end p base v L (T, X) w w1 _ _ HH.out (by have := U1.out; rwa [show (L ++ [(T, X)]).length = L.length + 1 by simp] at this) U2.out U4.out⟩

theorem down0 (p base : Nat) (v : Value) (L : List (Int × Int)) (n : Nat) (w : World) (h : HW p base v L w) (hn : n ≤ L.length) (h64 : L.length ≤ 64) (hd : downInv n L 0) :
    Calls Try.prog 45 #[.iface 54 (.pointer (some ⟨p, 0, none⟩)), .int .i64 0, .int .i64 n] w (DownEnd p base v L n w) := downC p base v L 0 n w h hn h64 (Nat.zero_le _) hd

/-- What heap.Pop leaves: the least item, and a heap of the others. -/
def HPop (p base : Nat) (v : Value) (L : List (Int × Int)) (w : World) (e : Ending) (w' : World) : Prop := ∃ (x : Int × Int) (M : List (Int × Int)) (v' : Value), e = .returned (.iface 52 (.agg #[.int .i64 x.1, .int .i64 x.2])) ∧ L.Perm (x :: M) ∧ heapN M.length M ∧ (∀ y ∈ M, x.1 ≤ y.1) ∧ HW p base v' M w' ∧ v'.ownBlock = v.ownBlock ∧ Kept2 p v.ownBlock w w'

/-- What heap.Push leaves. -/
def HPush (p base : Nat) (v : Value) (L : List (Int × Int)) (x : Int × Int) (w : World) (e : Ending) (w' : World) : Prop := ∃ (M : List (Int × Int)) (v' : Value), e = .returned (.tuple #[]) ∧ M.Perm (x :: L) ∧ heapN M.length M ∧ HW p base v' M w' ∧ ∃ u : World, Kept2 p v.ownBlock w u ∧ u.grownBy w' v'.ownBlock

set_option maxRecDepth 100000 in
set_option maxHeartbeats 4000000 in
theorem heapPop (p base : Nat) (v : Value) (L : List (Int × Int)) (n : Nat) (w : World) (h : HW p base v L w) (hn : L.length = n + 1) (h64 : n < 64) (hh : heapN L.length L) :
    Calls Try.prog 26 #[.iface 54 (.pointer (some ⟨p, 0, none⟩))] w (HPop p base v L w) := by
  have HH := Lib.hid h
  have HP := Lib.hid hh
  have HN := Lib.hid hn
  have hln : n < L.length := by omega
  clear h hh
  have eLen : ∀ args w, Sem.run Try.prog (callFunc 97 args) w = .ok (.enter 97 args) w := enters_of Try.func97 (by kernel_rfl) rfl
  have eLess : ∀ args w, Sem.run Try.prog (callFunc 98 args) w = .ok (.enter 98 args) w := enters_of Try.func98 (by kernel_rfl) rfl
  have eSwap : ∀ args w, Sem.run Try.prog (callFunc 99 args) w = .ok (.enter 99 args) w := enters_of Try.func99 (by kernel_rfl) rfl
  have ePop : ∀ args w, Sem.run Try.prog (callFunc 100 args) w = .ok (.enter 100 args) w := enters_of Try.func100 (by kernel_rfl) rfl
  have ePush : ∀ args w, Sem.run Try.prog (callFunc 101 args) w = .ok (.enter 101 args) w := enters_of Try.func101 (by kernel_rfl) rfl
  go_enter Try.func26, Try.ntmps26
  rw [show L.length = n + 1 from hn] at HP
  clear hn
  go_wp2_with (first
    | (refine wpl_meth0 "Len" (by rfl) _ _ (by rfl) _ _ _ _ (by rfl) (reach_len p v _ (HH.out.var.1)) eLen _ (lenC p base v _ _ HH.out (by rw [HN.out]; omega)) ?_; rintro e w1 ⟨rfl, rfl⟩; rw [HN.out]; refine ⟨_, rfl, ?_⟩)
    | (refine wpl_meth2 "Swap" (by rfl) _ _ _ _ (by rfl) _ _ _ _ (by rfl) (reach_swap p v _ (HH.out.var.1)) eSwap _ (by rfl) _ (by rfl) _ (swapC p base v _ _ HH.out 0 n (by omega) (by omega) (by rw [HN.out]; omega)) ?_; rintro e w1 ⟨rfl, ha, hg⟩; refine ⟨_, rfl, ?_⟩; have HA := Lib.hid ha; have HAg := Lib.hid hg; clear ha hg)
    | (go_at_call 45; (with_reducible refine (down0 p base v _ n _ HA.out (by rw [swp_len]; omega) (by rw [swp_len, HN.out]; omega) (down_start HN.out HP.out)).mono ?_); rintro e w2 ⟨b, rfl, M, hMp, hMh, hMn, hb, hbg⟩; have HB := Lib.hid hb; have HBg := Lib.hid (grown_trans HAg.out hbg); have HM := Lib.hid (And.intro hMp (And.intro hMh hMn)); clear hMp hMh hMn hb hbg)
    | (refine wpl_meth0 "Pop" (by rfl) _ _ (by rfl) _ _ _ _ (by rfl) (reach_pop p _) ePop _ (popM p base v M n _ HB.out (by rw [HM.out.1.length_eq, swp_len, HN.out]) h64) ?_; rintro e w3 ⟨rfl, v', hc, hv', hcg⟩; refine ⟨_, rfl, ?_⟩; have HC := Lib.hid hc; have HCg := Lib.hid hcg; have HV := Lib.hid hv'; clear hc hcg hv'))
  go_ret
  obtain ⟨k1, k2, k3⟩ := pop_is HN.out HP.out HM.out.1 HM.out.2.1 HM.out.2.2
  exact ⟨_, M.take n, _, rfl, k1, k2, k3, HC.out, HV.out, (Kept2.grown HBg.out).trans (Kept2.var (r := v.ownBlock) HCg.out) (Or.inl rfl)⟩

set_option maxRecDepth 100000 in
set_option maxHeartbeats 4000000 in
theorem heapPush (p base : Nat) (v : Value) (L : List (Int × Int)) (x : Int × Int) (w : World) (h : HW p base v L w) (h64 : L.length < 63) (hbp : base ≤ w.heap.size) (hh : heapN L.length L) :
    Calls Try.prog 44 #[.iface 54 (.pointer (some ⟨p, 0, none⟩)), .iface 52 (.agg #[.int .i64 x.1, .int .i64 x.2])] w (HPush p base v L x w) := by
  have HH := Lib.hid h
  have HP := Lib.hid hh
  clear h hh
  have eLen : ∀ args w, Sem.run Try.prog (callFunc 97 args) w = .ok (.enter 97 args) w := enters_of Try.func97 (by kernel_rfl) rfl
  have eLess : ∀ args w, Sem.run Try.prog (callFunc 98 args) w = .ok (.enter 98 args) w := enters_of Try.func98 (by kernel_rfl) rfl
  have eSwap : ∀ args w, Sem.run Try.prog (callFunc 99 args) w = .ok (.enter 99 args) w := enters_of Try.func99 (by kernel_rfl) rfl
  have ePop : ∀ args w, Sem.run Try.prog (callFunc 100 args) w = .ok (.enter 100 args) w := enters_of Try.func100 (by kernel_rfl) rfl
  have ePush : ∀ args w, Sem.run Try.prog (callFunc 101 args) w = .ok (.enter 101 args) w := enters_of Try.func101 (by kernel_rfl) rfl
  have hlen : (L ++ [x]).length = L.length + 1 := by simp
  have HLEN := Lib.hid hlen
  clear hlen
  go_enter Try.func44, Try.ntmps44
  go_wp2_with (first
    | (refine wpl_meth1 "Push" (by rfl) _ _ _ (by rfl) _ _ _ _ (by rfl) (reach_push p _) ePush _ (by rfl) _ (pushM p base v L x _ HH.out (by omega) hbp) ?_; rintro e w1 ⟨rfl, v1, ha, hg⟩; refine ⟨_, rfl, ?_⟩; have HA := Lib.hid ha; have HAg := Lib.hid hg; clear ha hg)
    | (refine wpl_meth0 "Len" (by rfl) _ _ (by rfl) _ _ _ _ (by rfl) (reach_len p v1 _ (HA.out.var.1)) eLen _ (lenC p base v1 _ _ HA.out (by rw [HLEN.out]; omega)) ?_; rintro e w2 ⟨rfl, rfl⟩; rw [HLEN.out]; refine ⟨_, rfl, ?_⟩)
    | (go_at_call 59; (with_reducible refine (upC p base v1 _ L.length _ HA.out (by rw [HLEN.out]; omega) (by rw [HLEN.out]; omega) (up_start x HP.out)).mono ?_); rintro e w3 ⟨rfl, M, hMp, hMh, hb, hbg⟩; have HB := Lib.hid hb; have HBg := Lib.hid hbg; have HM := Lib.hid (And.intro hMp hMh); clear hMp hMh hb hbg))
  go_end0
  exact ⟨M, v1, rfl, HM.out.1.trans (List.perm_append_singleton _ _), HM.out.2, HB.out, w1, HAg.out, HBg.out⟩

end Go.Proofs.Ytllepakgpiddeaa
