/- The program's items in order (commit b753dee): they wait in a heap; it answers as the model. -/
import Derived.Test.YtllepakgpiddeaaHeapN
import Derived.Test.YtllepakgpiddeaaHeapS
import Derived.Test.YtllepakgpiddeaaI6
namespace Go.Proofs.Ytllepakgpiddeaa
open Go.RowKit

theorem Hold.deep {B N : Nat} {l : List (Nat × Obj)} {is : List (Option Addr × Nat × List Int)} {base w w' : World} (h : Hold B N l is base w) (hb : Below N w w') (hs : w.heap.size ≤ w'.heap.size) : Hold B N l is base w' :=
  ⟨⟨fun p hp => ⟨(h.1.1 p hp).1, blk_below (h.1.1 p hp).2 hb (h.1.1 p hp).1⟩, h.1.2.1, Nat.le_trans h.size hs, h.below.trans (hb.mono h.1.2.1)⟩, fun q hq => (h.2 q hq).below hb⟩

theorem RowW.low {base base' : Nat} {v : Value} {L : List (Int × Int)} {w : World} (h : RowW base v L w) (hb : base' ≤ base) : RowW base' v L w :=
  ⟨h.1, h.2.imp id (fun ⟨g, cap, cur, h0, h1, h2⟩ => ⟨g, cap, cur, h0, Nat.le_trans hb h1, h2⟩)⟩

theorem push_hold {B N p : Nat} {r r' : Option Nat} {l : List (Nat × Obj)} {is : List (Option Addr × Nat × List Int)} {base w u w' : World} (h : Hold B N l is base w) (hk : Kept2 p r w u) (hg : u.grownBy w' r') (hp : N ≤ p) (hr : ∀ k, r = some k → N ≤ k) (hr' : ∀ k, r' = some k → N ≤ k) : Hold B N l is base w' :=
  h.deep (Below.grown (Kept2.below (Below.refl N w) hk h.size hp hr) hg (Nat.le_trans h.size hk.size) hr') (Nat.le_trans hk.size hg.4)

/-- What waits. -/
def WaitEnd (A : List (Int × Int)) (w : World) (e : Ending) (w' : World) : Prop := ∃ (v : Value) (M : List (Int × Int)), e = .returned v ∧ M.Perm A ∧ heapN M.length M ∧ RowW w.heap.size v M w' ∧ Below w.heap.size w w'

set_option maxRecDepth 100000 in
set_option maxHeartbeats 8000000 in
theorem waitC (s t : Int) (a : Option Addr) (n cap : Nat) (xs : List Int) (h tl l : Int) (w : World) (hi : IntsW (a, n, xs) w) (hx64 : ∀ x ∈ xs, W64 x) (hr : okR s t xs h tl l) : Calls Try.prog 25 #[.agg #[.slice a n cap, .int .i64 h, .int .i64 tl, .int .i64 l], .agg #[.int .i64 s, .int .i64 t]] w (WaitEnd (wItems s xs n) w) := by
  have hp := hr.1
  obtain ⟨g1, g2⟩ := okP_le hp
  have hl : xs.length = n := hi.1
  have hlen : (n : Int) = 2 * s := by rw [← hl]; exact hr.2.1
  have HOK := Lib.hid hr.2.2.2.2.2
  have HP := Lib.hid hp
  have HL := Lib.hid hl
  have HLE := Lib.hid hlen
  have hn16 : n ≤ 16 := by omega
  have HSL := Lib.hid (slots_any s t g1 g2)
  obtain ⟨NO, hNO⟩ : ∃ M, M = 2 * s - 1 := ⟨_, rfl⟩
  have HNO := Lib.hid (none_any s t g1 g2)
  rw [← hNO] at HNO
  have HN := Lib.hid hNO
  have HQ := Lib.hid ((((Hold.start w).addI hi).new (.cells #[.slice a n cap, .int .i64 h, .int .i64 tl, .int .i64 l] 31)).new (.cells #[.int .i64 s, .int .i64 t] 29))
  simp only [World.size_alloc] at HQ
  have HH := Lib.hid (show HW (w.heap.size + 1 + 1) (w.heap.size + 1 + 1) (.slice none 0 0) [] (((w.alloc (.cells #[.slice a n cap, .int .i64 h, .int .i64 tl, .int .i64 l] 31)).alloc (.cells #[.int .i64 s, .int .i64 t] 29)).alloc (.cells #[.slice none 0 0] 49)) from ⟨by have := blk_new ((w.alloc (.cells #[.slice a n cap, .int .i64 h, .int .i64 tl, .int .i64 l] 31)).alloc (.cells #[.int .i64 s, .int .i64 t] 29)) (.cells #[.slice none 0 0] 49); simpa using this, RowW.nil _ _⟩)
  have HQ1 := Lib.hid (HQ.out.alloc (.cells #[.slice none 0 0] 49))
  obtain ⟨r0, -⟩ := blk_four HQ1.out.tl.hd
  clear hi hx64 hr hp hl hlen hNO HQ
  go_enter Try.func25, Try.ntmps25
  go_wp2
  clear r0
  go_loopw [13] (fun i wr => ∃ (k : Nat) (v : Value) (M : List (Int × Int)), k ≤ n ∧ i = .int .i64 k ∧ M.Perm (wItems s xs k) ∧ heapN M.length M ∧ HW (w.heap.size + 1 + 1) (w.heap.size + 1 + 1) v M wr ∧ Hold w.heap.size (w.heap.size + 1 + 1) [(w.heap.size + 1, .cells #[.int .i64 s, .int .i64 t] 29), (w.heap.size, .cells #[.slice a n cap, .int .i64 h, .int .i64 tl, .int .i64 l] 31)] [(a, n, xs)] w wr) (fun i _ => n - (intOf i).toNat)
  case atStart => exact ⟨0, _, [], Nat.zero_le _, rfl, List.Perm.refl _, fun k k0 k1 => by simp at k1, HH.out, HQ1.out⟩
  case round =>
    obtain ⟨k, v, M, hk, rfl, hM, hMh, hh, hq⟩ := hrel
    have HM := Lib.hid hM
    have HMh := Lib.hid hMh
    have HWr := Lib.hid hh
    have HRr := Lib.hid hq
    clear hM hMh hh hq
    by_cases hlt : k < n
    · obtain ⟨b, off, rfl, hbB, x, hx, hc⟩ := (HRr.out.ihd).at_ hlt
      have hW : okW s t x := HOK.out x (List.mem_of_getElem? hx)
      have hxd : xs.getD k 0 = x := by rw [List.getD_eq_getElem?_getD, hx]; rfl
      have HIT := Lib.hid (show itemK s xs k = (x / (4 * s) * 2 * s + unspotD s k, x % (2 * s)) by unfold itemK; rw [hxd])
      have hsame : x % (2 * s) = 2 * s - 1 → wItems s xs (k + 1) = wItems s xs k := fun e => wItems_same s xs k (by rw [hxd]; exact e)
      have hmore : ¬ x % (2 * s) = 2 * s - 1 → wItems s xs (k + 1) = itemK s xs k :: wItems s xs k := fun e => wItems_more s xs k (by rw [hxd]; exact e)
      rw [← HN.out] at hsame hmore
      have HSA := Lib.hid hsame
      have HMO := Lib.hid hmore
      have hC0 : 0 ≤ x / (4 * s) := Int.ediv_nonneg hW.2.1 (by omega)
      have hC1 : x / (4 * s) ≤ 1000000 := hW.2.2
      have HEN := Lib.hid (entry_any s t x HP.out)
      have hJ : okJ s t (k : Int) := ⟨HP.out, by omega, by have := HLE.out; omega⟩
      have HUN : Hid (∀ w, Calls Try.prog 43 #[.agg #[.int .i64 s, .int .i64 t], .int .i64 (k : Int)] w fun e w' => e = .returned (.int .i64 (unspotD s k)) ∧ Below w.heap.size w w') := Lib.hid (fun w => by
        have h := iUnspot s t k w
        rwa [show unspotV s t k = unspotD s k from if_pos hJ] at h)
      obtain ⟨u0, u1⟩ : 0 ≤ unspotD s k ∧ unspotD s k ≤ 2 * s - 1 := ⟨(spot_in hJ).2.2.2.1, (spot_in hJ).2.2.2.2.1⟩
      generalize unspotD s (k : Int) = U at *
      generalize x / (4 * s) = C at *
      generalize (x / (2 * s) % 2 == 1) = Z at *
      generalize x % (2 * s) = I at *
      have hq1 : 0 ≤ C * (2 * s) := Int.mul_nonneg hC0 (by omega)
      have hq2 : C * (2 * s) ≤ 1000000 * 16 := Int.mul_le_mul hC1 (by omega) (by omega) (by omega)
      obtain ⟨Q, hQ⟩ : ∃ Q, Q = C * (2 * s) := ⟨_, rfl⟩
      have hw1 : IntKind.i64.wrap (C * (2 * s)) = Q := by rw [hQ]; exact IntWalk.i64_in _ (by omega)
      obtain ⟨T, hTT⟩ : ∃ T, T = Q + U := ⟨_, rfl⟩
      have hw2 : IntKind.i64.wrap (Q + U) = T := by rw [hTT]; exact IntWalk.i64_in _ (by omega)
      rw [show C * 2 * s + U = T by rw [hTT, hQ, Int.mul_assoc]] at HIT
      have h63 : M.length < 63 := by have := HM.out.length_eq; have := wItems_len s xs k; omega
      clear hx hW hxd hsame hmore hC0 hC1 hJ hQ hTT hq1 hq2
      obtain ⟨p0', p1', -⟩ := blk_two HRr.out.hd
      go_wp2_with (go_at_call 40; (with_reducible refine (HEN.out _).mono ?_); rintro e w2 ⟨rfl, hb⟩; have HR2 := Lib.hid (HRr.out.step hb); have HW2 := Lib.hid (HWr.out.step hb); clear hb HRr HWr p0' p1' hc)
      have HR3 := Lib.hid (HR2.out.alloc (.cells #[.int .i64 C, .bool Z, .int .i64 I] 43))
      have HW3 := Lib.hid (HW2.out.step ((Below.refl _ _).alloc (Nat.le_refl _) (.cells #[.int .i64 C, .bool Z, .int .i64 I] 43)))
      have HQ6 := Lib.hid (HR3.out.rebase.add (blk_new w2 (.cells #[.int .i64 C, .bool Z, .int .i64 I] 43)))
      have zp := HR2.out.size
      clear HR2 HW2
      go_cut [25] (fun s1 wx => s1 = .bool (I != NO) ∧ Hold (w2.alloc (.cells #[.int .i64 C, .bool Z, .int .i64 I] 43)).heap.size ((w2.alloc (.cells #[.int .i64 C, .bool Z, .int .i64 I] 43)).heap.size) [(w2.heap.size, .cells #[.int .i64 C, .bool Z, .int .i64 I] 43), (w.heap.size + 1, .cells #[.int .i64 s, .int .i64 t] 29), (w.heap.size, .cells #[.slice (some ⟨b, off, none⟩) n cap, .int .i64 h, .int .i64 tl, .int .i64 l] 31)] [(some ⟨b, off, none⟩, n, xs)] (w2.alloc (.cells #[.int .i64 C, .bool Z, .int .i64 I] 43)) wx)
      case first =>
        as_aux_lemma =>
          have hF : ∀ {w' : World}, Hold (w2.alloc (.cells #[.int .i64 C, .bool Z, .int .i64 I] 43)).heap.size ((w2.alloc (.cells #[.int .i64 C, .bool Z, .int .i64 I] 43)).heap.size) [(w2.heap.size, .cells #[.int .i64 C, .bool Z, .int .i64 I] 43), (w.heap.size + 1, .cells #[.int .i64 s, .int .i64 t] 29), (w.heap.size, .cells #[.slice (some ⟨b, off, none⟩) n cap, .int .i64 h, .int .i64 tl, .int .i64 l] 31)] [(some ⟨b, off, none⟩, n, xs)] (w2.alloc (.cells #[.int .i64 C, .bool Z, .int .i64 I] 43)) w' → w'.cell? ⟨w2.heap.size, 0, none⟩ = some (.int .i64 C) ∧ w'.cell? ⟨w2.heap.size, 1, none⟩ = some (.bool Z) ∧ w'.cell? ⟨w2.heap.size, 2, none⟩ = some (.int .i64 I) ∧ w'.cell? ⟨w.heap.size + 1, 0, none⟩ = some (.int .i64 s) ∧ w'.cell? ⟨w.heap.size + 1, 1, none⟩ = some (.int .i64 t) ∧ Hold (w2.alloc (.cells #[.int .i64 C, .bool Z, .int .i64 I] 43)).heap.size ((w2.alloc (.cells #[.int .i64 C, .bool Z, .int .i64 I] 43)).heap.size) [(w2.heap.size, .cells #[.int .i64 C, .bool Z, .int .i64 I] 43), (w.heap.size + 1, .cells #[.int .i64 s, .int .i64 t] 29), (w.heap.size, .cells #[.slice (some ⟨b, off, none⟩) n cap, .int .i64 h, .int .i64 tl, .int .i64 l] 31)] [(some ⟨b, off, none⟩, n, xs)] (w2.alloc (.cells #[.int .i64 C, .bool Z, .int .i64 I] 43)) w' := fun h => ⟨blk_is h.hd (by rfl), blk_is h.hd (by rfl), blk_is h.hd (by rfl), blk_is h.tl.hd (by rfl), blk_is h.tl.hd (by rfl), h⟩
          go_region_held3 (fun w' => w'.cell? ⟨w2.heap.size, 0, none⟩ = some (.int .i64 C) ∧ w'.cell? ⟨w2.heap.size, 1, none⟩ = some (.bool Z) ∧ w'.cell? ⟨w2.heap.size, 2, none⟩ = some (.int .i64 I) ∧ w'.cell? ⟨w.heap.size + 1, 0, none⟩ = some (.int .i64 s) ∧ w'.cell? ⟨w.heap.size + 1, 1, none⟩ = some (.int .i64 t) ∧ Hold (w2.alloc (.cells #[.int .i64 C, .bool Z, .int .i64 I] 43)).heap.size ((w2.alloc (.cells #[.int .i64 C, .bool Z, .int .i64 I] 43)).heap.size) [(w2.heap.size, .cells #[.int .i64 C, .bool Z, .int .i64 I] 43), (w.heap.size + 1, .cells #[.int .i64 s, .int .i64 t] 29), (w.heap.size, .cells #[.slice (some ⟨b, off, none⟩) n cap, .int .i64 h, .int .i64 tl, .int .i64 l] 31)] [(some ⟨b, off, none⟩, n, xs)] (w2.alloc (.cells #[.int .i64 C, .bool Z, .int .i64 I] 43)) w')
            (with_reducible refine hF ?_; repeat' (first | with_reducible exact HQ6.out | with_reducible exact htc | with_reducible refine Hold.drew ?_ | with_reducible refine Hold.alloc ?_ _))
            ((first
              | (go_at_call 41; (try go_split_ands); (with_reducible refine (HNO.out _).mono ?_); rintro e wx ⟨rfl, hbx⟩; have htc := Hold.step (by assumption) hbx)))
          all_goals
            go_wp2_with fail
            go_meet
            (try go_split_ands)
            exact ⟨rfl, by assumption⟩
      case rest =>
        obtain ⟨rfl, hk6⟩ := hcut
        generalize wc = wd at *
        have HR4 := Lib.hid (HR3.out.step hk6.below)
        have HW4 := Lib.hid (HW3.out.step hk6.below)
        have HQ7 := Lib.hid hk6.rebase
        clear HR3 HW3 HQ6 hk6
        by_cases hno : I = NO
        · have hd : (I != NO) = false := by simp [hno]
          go_wp2
          go_roundw
          case rel => exact ⟨k + 1, v, M, by omega, by go_num, by rw [HSA.out hno]; exact HM.out, HMh.out, HW4.out, HR4.out⟩
          case measure => simp [intOf]; omega
        · have hd : (I != NO) = true := by simp [hno]
          go_upto_region 7 with fail
          go_cut [9] (fun s1 wx => s1 = .int .i64 T ∧ Hold wd.heap.size (wd.heap.size) [(w2.heap.size, .cells #[.int .i64 C, .bool Z, .int .i64 I] 43), (w.heap.size + 1, .cells #[.int .i64 s, .int .i64 t] 29), (w.heap.size, .cells #[.slice (some ⟨b, off, none⟩) n cap, .int .i64 h, .int .i64 tl, .int .i64 l] 31)] [(some ⟨b, off, none⟩, n, xs)] wd wx)
          case first =>
            as_aux_lemma =>
              have hF : ∀ {w' : World}, Hold wd.heap.size (wd.heap.size) [(w2.heap.size, .cells #[.int .i64 C, .bool Z, .int .i64 I] 43), (w.heap.size + 1, .cells #[.int .i64 s, .int .i64 t] 29), (w.heap.size, .cells #[.slice (some ⟨b, off, none⟩) n cap, .int .i64 h, .int .i64 tl, .int .i64 l] 31)] [(some ⟨b, off, none⟩, n, xs)] wd w' → w'.cell? ⟨w2.heap.size, 0, none⟩ = some (.int .i64 C) ∧ w'.cell? ⟨w2.heap.size, 1, none⟩ = some (.bool Z) ∧ w'.cell? ⟨w2.heap.size, 2, none⟩ = some (.int .i64 I) ∧ w'.cell? ⟨w.heap.size + 1, 0, none⟩ = some (.int .i64 s) ∧ w'.cell? ⟨w.heap.size + 1, 1, none⟩ = some (.int .i64 t) ∧ Hold wd.heap.size (wd.heap.size) [(w2.heap.size, .cells #[.int .i64 C, .bool Z, .int .i64 I] 43), (w.heap.size + 1, .cells #[.int .i64 s, .int .i64 t] 29), (w.heap.size, .cells #[.slice (some ⟨b, off, none⟩) n cap, .int .i64 h, .int .i64 tl, .int .i64 l] 31)] [(some ⟨b, off, none⟩, n, xs)] wd w' := fun h => ⟨blk_is h.hd (by rfl), blk_is h.hd (by rfl), blk_is h.hd (by rfl), blk_is h.tl.hd (by rfl), blk_is h.tl.hd (by rfl), h⟩
              go_region_held3 (fun w' => w'.cell? ⟨w2.heap.size, 0, none⟩ = some (.int .i64 C) ∧ w'.cell? ⟨w2.heap.size, 1, none⟩ = some (.bool Z) ∧ w'.cell? ⟨w2.heap.size, 2, none⟩ = some (.int .i64 I) ∧ w'.cell? ⟨w.heap.size + 1, 0, none⟩ = some (.int .i64 s) ∧ w'.cell? ⟨w.heap.size + 1, 1, none⟩ = some (.int .i64 t) ∧ Hold wd.heap.size (wd.heap.size) [(w2.heap.size, .cells #[.int .i64 C, .bool Z, .int .i64 I] 43), (w.heap.size + 1, .cells #[.int .i64 s, .int .i64 t] 29), (w.heap.size, .cells #[.slice (some ⟨b, off, none⟩) n cap, .int .i64 h, .int .i64 tl, .int .i64 l] 31)] [(some ⟨b, off, none⟩, n, xs)] wd w')
                (with_reducible refine hF ?_; repeat' (first | with_reducible exact HQ7.out | with_reducible exact htc | with_reducible refine Hold.drew ?_ | with_reducible refine Hold.alloc ?_ _))
                ((first
                  | (go_at_call 42; (try go_split_ands); (with_reducible refine (HSL.out _).mono ?_); rintro e wx ⟨rfl, hbx⟩; have htc := Hold.step (by assumption) hbx)
                  | (go_at_call 43; (try go_split_ands); (with_reducible refine (HUN.out _).mono ?_); rintro e wx ⟨rfl, hbx⟩; have htc := Hold.step (by assumption) hbx)))
              all_goals
                go_wp2_with fail
                go_meet
                (try go_split_ands)
                exact ⟨rfl, by assumption⟩
          case rest =>
            obtain ⟨rfl, hk7⟩ := hcut
            generalize wc = we at *
            have HR5 := Lib.hid (HR4.out.step hk7.below)
            have HW5 := Lib.hid (HW4.out.step hk7.below)
            have HE := Lib.hid hk7.hd
            have hsz : w.heap.size + 1 + 1 ≤ we.heap.size := HR5.out.size
            clear HR4 HW4 HQ7 hk7
            obtain ⟨q0, q1, q2, -⟩ := blk_three HE.out
            go_wp2_with (go_at_call 44; (with_reducible refine (heapPush _ _ v M (T, I) _ HW5.out h63 hsz HMh.out).mono ?_); rintro e w3 ⟨M', v', rfl, hMp, hMh', hh', u, hku, hgu⟩; have HM2 := Lib.hid hMp; have HMh2 := Lib.hid hMh'; have HW6 := Lib.hid hh'; have HR6 := Lib.hid (push_hold HR5.out hku hgu (Nat.le_refl _) (fun j e => (HW5.out.2.lt j e).1) (fun j e => (hh'.2.lt j e).1)); clear hMp hMh' hh' hku hgu)
            go_roundw
            case rel => exact ⟨k + 1, v', M', by omega, by go_num, by rw [HMO.out hno, HIT.out]; exact HM2.out.trans (List.Perm.cons _ HM.out), HMh2.out, HW6.out, HR6.out⟩
            case measure => simp [intOf]; omega
    · have e : n = k := by omega
      have HE := Lib.hid e
      clear e
      obtain ⟨c0, c1⟩ := HWr.out.var
      go_wp2
      go_ret
      exact ⟨v, M, rfl, by rw [HE.out]; exact HM.out, HMh.out, HWr.out.2.low (by omega), HRr.out.below⟩

/-- A list of the call's own lies apart from the heap. -/
theorem apartL {base base' p : Nat} {lv v : Value} {xs : List Int} {M : List (Int × Int)} {w : World} (h : OwnI base lv xs w) (hh : HW p base' v M w) : ∀ k, lv.ownBlock = some k → k ≠ p ∧ v.ownBlock ≠ some k := by
  intro k hk
  rcases h.2 with ⟨rfl, -⟩ | ⟨g, c, cur, rfl, h1, h2, -⟩
  · cases hk
  · have e : g = k := Option.some.inj hk
    subst e
    refine ⟨fun e => ?_, fun e => ?_⟩
    · subst e
      have := h2.symm.trans hh.1
      simp at this
    · rcases hh.2.2 with ⟨rfl, -⟩ | ⟨g', c', cur', rfl, h1', h2', -⟩
      · cases e
      · have e' : g' = g := Option.some.inj e
        subst e'
        have := h2.symm.trans h2'
        simp at this

theorem OwnI.kept2 {base p : Nat} {r : Option Nat} {lv : Value} {xs : List Int} {w w' : World} (h : OwnI base lv xs w) (hk : Kept2 p r w w') (ha : ∀ k, lv.ownBlock = some k → k ≠ p ∧ r ≠ some k) : OwnI base lv xs w' := by
  refine ⟨h.1, h.2.imp id (fun ⟨g, cap, cur, h0, h1, h2, h3⟩ => ⟨g, cap, cur, h0, h1, ?_, h3⟩)⟩
  have := ha g (by rw [h0]; rfl)
  exact hk.blk h2 this.1 this.2

theorem HW.kept {base p : Nat} {row : Option Nat} {v : Value} {M : List (Int × Int)} {w w' : World} (h : HW p base v M w) (hg : w.grownBy w' row) (hp : row ≠ some p) (hv : ∀ k, v.ownBlock = some k → row ≠ some k) : HW p base v M w' := ⟨blk_grown h.1 hg (fun e => hp e.symm), h.2.kept hg hv⟩

def slen : Value → Nat
  | .slice _ k _ => k
  | _ => 0

theorem made0 (m : Nat) (hm : m ≤ 64) : ∀ u : World, (Instr.makeSlice 24 (.int .i64 0) (.int .i64 (m : Int))).run Try.prog u = .ok (.slice (some ⟨u.heap.size, 0, none⟩) 0 m) (u.alloc (.cells (madeCells #[Value.int .i64 0] m) 2)) := fun u => by
  obtain ⟨i0, hi0, hz0, hz1, hz2⟩ := info_parts (P := Try.prog) (e := 2) (z := .int .i64 0) (size := 1) (bytes := 8) (by kernel_rfl)
  have h := run_make (P := Try.prog) u 24 2 i0 (.int .i64 0) Try.underlying24 hi0 hz0 .i64 .i64 0 (m : Int) (by omega) (by omega) (by rw [hz2]; omega) (by omega)
  rw [hz1, Nat.mul_one, Int.toNat_natCast] at h
  exact h

/-- What was told and what still waits. -/
def Told (A O M : List (Int × Int)) : Prop := (O ++ M).Perm A ∧ heapN M.length M ∧ O.Pairwise byT ∧ ∀ o ∈ O, ∀ m ∈ M, byT o m

theorem told_next {A O M M' : List (Int × Int)} {x : Int × Int} (h : Told A O M) (hp : M.Perm (x :: M')) (hh : heapN M'.length M') (hx : ∀ y ∈ M', x.1 ≤ y.1) : Told A (O ++ [x]) M' := by
  obtain ⟨h1, h2, h3, h4⟩ := h
  refine ⟨?_, hh, ?_, fun o ho m hm => ?_⟩
  · refine List.Perm.trans ?_ h1
    rw [List.append_assoc]
    exact List.Perm.append_left O hp.symm
  · rw [List.pairwise_append]
    exact ⟨h3, by simp, fun a ha b hb => by rw [List.mem_singleton.1 hb]; exact h4 a ha x (hp.mem_iff.2 List.mem_cons_self)⟩
  · rcases List.mem_append.1 ho with ho | ho
    · exact h4 o ho m (hp.mem_iff.2 (List.mem_cons_of_mem _ hm))
    · rw [List.mem_singleton.1 ho]; exact hx m hm

set_option maxRecDepth 100000 in
set_option maxHeartbeats 8000000 in
theorem iItemsOf_yes (s t : Int) (a : Option Addr) (n cap : Nat) (xs : List Int) (h tl l : Int) (w : World) (hi : IntsW (a, n, xs) w) (hx64 : ∀ x ∈ xs, W64 x) (hr : okR s t xs h tl l) : Calls Try.prog 9 #[.agg #[.int .i64 s, .int .i64 t], .agg #[.slice a n cap, .int .i64 h, .int .i64 tl, .int .i64 l]] w (GivesI (itemsTo s xs n).1 w) := by
  have hp := hr.1
  have hl : xs.length = n := hi.1
  have hlen : (n : Int) = 2 * s := by rw [← hl]; exact hr.2.1
  obtain ⟨g1, g2⟩ := okP_le hp
  have hn16 : n ≤ 16 := by omega
  have HOD : Hid (∀ O : List (Int × Int), Told (wItems s xs n) O [] → O.map Prod.snd = (itemsTo s xs n).1) := Lib.hid (fun O h => items_order hp (by omega) (by have := h.1; rwa [List.append_nil] at this) h.2.2.1)
  have HOL := Lib.hid (wItems_len s xs n)
  have HRK := Lib.hid (fun w (hi : IntsW (a, n, xs) w) => iRingOk w.heap.size s t a n cap xs h tl l w hi (Nat.le_refl _) hx64 (by omega))
  rw [show okRB s t xs h tl l = true from decide_eq_true hr] at HRK
  have HWA := Lib.hid (fun w hi => waitC s t a n cap xs h tl l w hi hx64 hr)
  have HQ := Lib.hid ((((Hold.start w).addI hi).new (.cells #[.int .i64 s, .int .i64 t] 29)).new (.cells #[.slice a n cap, .int .i64 h, .int .i64 tl, .int .i64 l] 31))
  simp only [World.size_alloc] at HQ
  generalize wItems s xs n = A at *
  clear hi hx64 hr hp hl hlen
  go_enter Try.func9, Try.ntmps9
  go_wp2_with (first
    | (go_at_call 24; (with_reducible refine (HRK.out _ HQ.out.ints).mono ?_); rintro e w1 ⟨rfl, hb⟩; have HQ1 := Lib.hid (HQ.out.step hb); clear hb HQ; obtain ⟨r0, r1, r2, r3, -⟩ := blk_four HQ1.out.hd; obtain ⟨p0, p1, -⟩ := blk_two HQ1.out.tl.hd)
    | (go_at_call 25; (with_reducible refine (HWA.out _ HQ1.out.ints).mono ?_); (rintro e w2 ⟨v, M0, rfl, hM, hMh, hv, hb⟩; obtain ⟨a2, c2, rfl⟩ := hv.form2; have HT0 := Lib.hid (show Told A [] M0 from ⟨hM, hMh, List.Pairwise.nil, fun o ho => by cases ho⟩); have HV := Lib.hid hv; have HQ2 := Lib.hid (HQ1.out.step hb); have hm0 := hM.length_eq; have hm16 : M0.length ≤ 16 := (by have := HOL.out; omega); have hmk := made0 M0.length (by omega); have z1 := HQ1.out.size; have z2 := hb.size; clear hM hMh hv hb HQ1 hm0 r0 r1 r2 r3 p0 p1)))
  clear hmk
  have HL0 := Lib.hid (show OwnI w.heap.size (.slice (some ⟨(w2.alloc (.cells #[.slice a2 M0.length c2] 49)).heap.size, 0, none⟩) 0 M0.length) [] ((w2.alloc (.cells #[.slice a2 M0.length c2] 49)).alloc (.cells (madeCells #[Value.int .i64 0] M0.length) 2)) from World.ownsRow_made _ _ _ (by simp; omega) (by unfold maxLen; omega) (by simp [size_madeCells]))
  have HH0 := Lib.hid (show HW w2.heap.size w.heap.size (.slice a2 M0.length c2) M0 ((w2.alloc (.cells #[.slice a2 M0.length c2] 49)).alloc (.cells (madeCells #[Value.int .i64 0] M0.length) 2)) from ⟨blk_alloc (blk_new w2 _), (HV.out.low (by omega)).step (((Below.refl _ _).alloc (Nat.le_refl _) _).alloc (by simp) _)⟩)
  have HB0 := Lib.hid ((HQ2.out.below.alloc (by omega) (.cells #[.slice a2 M0.length c2] 49)).alloc (by simp; omega) (.cells (madeCells #[Value.int .i64 0] M0.length) 2))
  have zz : w.heap.size ≤ w2.heap.size := by omega
  clear HV HQ2
  go_loopw [6] (fun lv wr => ∃ (O M : List (Int × Int)) (v : Value), OwnI w.heap.size lv (O.map Prod.snd) wr ∧ HW w2.heap.size w.heap.size v M wr ∧ Told A O M ∧ Below w.heap.size w wr) (fun lv _ => n + 1 - slen lv)
  case atStart => exact ⟨[], M0, _, by simpa using HL0.out, HH0.out, HT0.out, HB0.out⟩
  case round =>
    obtain ⟨O, M, v, ho, hh, ht, hb⟩ := hrel
    obtain ⟨a3, c3, rfl⟩ := hh.2.form2
    obtain ⟨a4, c4, e4⟩ := ho.form
    obtain ⟨e4, -⟩ := e4
    rw [List.length_map] at e4
    subst e4
    have HO := Lib.hid ho
    have HHr := Lib.hid hh
    have HT := Lib.hid ht
    obtain ⟨ht1, ht2, -⟩ := ht
    have HTH := Lib.hid ht2
    have HB := Lib.hid hb
    obtain ⟨c0, c1⟩ := hh.var
    have hA : (O ++ M).length = A.length := ht1.length_eq
    rw [List.length_append] at hA
    have hOM : O.length + M.length ≤ n := by have := HOL.out; omega
    clear ho hh ht1 ht2 hb hA
    cases M with
    | nil =>
      go_wp2
      go_ret
      exact ⟨_, rfl, by rw [← HOD.out O HT.out]; exact HO.out, HB.out⟩
    | cons y M' =>
      have hm1 : (y :: M').length = M'.length + 1 := rfl
      have hm2 : M'.length + 1 ≤ 16 := by simp at hOM; omega
      have hta : ∀ (X Y : Int) (w : World), Sem.run Try.prog (Instr.typeAssert (.iface 52 (.agg #[.int .i64 X, .int .i64 Y])) 20 52 false) w = .ok (.agg #[.int .i64 X, .int .i64 Y]) w := fun X Y w => by kernel_rfl
      have hfd : ∀ (X Y : Int) (w : World), Sem.run Try.prog (Instr.field 52 (.agg #[.int .i64 X, .int .i64 Y]) 1) w = .ok (.int .i64 Y) w := fun X Y w => by kernel_rfl
      have HM1 := Lib.hid hm1
      clear hm1
      go_wp2_with (first
        | (go_at_call 26; (with_reducible refine (heapPop _ _ _ _ M'.length _ HHr.out HM1.out (by omega) HTH.out).mono ?_); rintro e w3 ⟨x, M2, v2, rfl, hp, hh2, hx, hw, hv2, hk2⟩; have HO3 := Lib.hid (OwnI.kept2 HO.out hk2 (apartL HO.out HHr.out)); have HH3 := Lib.hid hw; have HB3 := Lib.hid (Kept2.below HB.out hk2 HB.out.size zz (fun j e => (HHr.out.2.lt j e).1)); have HT3 := Lib.hid (told_next HT.out hp hh2 hx); have HOM := Lib.hid hp.length_eq; have V1 := Lib.hid (HO3.out.alloc (.cells #[.int .i64 x.2] 2)); have V2 := Lib.hid (show IntsW (some ⟨w3.heap.size, 0, none⟩, 1, [x.2]) (w3.alloc (.cells #[.int .i64 x.2] 2)) from IntsW.at_block (t := 2) (blk_new w3 _) rfl); have V3 := Lib.hid (HH3.out.step ((Below.refl _ _).alloc (Nat.le_refl _) (.cells #[.int .i64 x.2] 2))); have V4 := Lib.hid (HB3.out.alloc HB3.out.size (.cells #[.int .i64 x.2] 2)); have V5 := V4.out.size; clear hp hh2 hx hw hv2 hk2)
        | (refine wpList_app (by rfl) _ _ (by rfl) w.heap.size _ (O.map Prod.snd) [x.2] (some ⟨w3.heap.size, 0, none⟩) 1 1 (by rfl) (by rfl) V1.out V2.out (by rw [List.length_map]; omega) V5 ?_; intro v' w' ho hg hv; have HO4 := Lib.hid ho; have HH4 := Lib.hid (V3.out.kept hg (fun e => (apartL V1.out V3.out _ e).1 rfl) (fun j ej e => (apartL V1.out V3.out j e).2 ej)); have HB4 := Lib.hid (Below.grown V4.out hg V5 (fun j e => (V1.out.lt j e).1)); clear ho hg hv))
      obtain ⟨a5, c5, e5, -⟩ := HO4.out.form
      subst e5
      go_roundw
      case rel => exact ⟨O ++ [x], M2, v2, by rw [List.map_append]; exact HO4.out, HH4.out, HT3.out, HB4.out⟩
      case measure => simp [slen]; simp at hOM; omega

theorem iItemsOf (s t : Int) (a : Option Addr) (n cap : Nat) (xs : List Int) (h tl l : Int) (w : World) (hi : IntsW (a, n, xs) w) (hx64 : ∀ x ∈ xs, W64 x) (hn : n ≤ 1048576) : Calls Try.prog 9 #[.agg #[.int .i64 s, .int .i64 t], .agg #[.slice a n cap, .int .i64 h, .int .i64 tl, .int .i64 l]] w (GivesI (itemsV s t xs h tl l) w) := by
  have hl : xs.length = n := hi.1
  by_cases hr : okR s t xs h tl l
  · rw [show itemsV s t xs h tl l = (itemsTo s xs n).1 by unfold itemsV; rw [if_pos hr, hl]]
    exact iItemsOf_yes s t a n cap xs h tl l w hi hx64 hr
  · rw [show itemsV s t xs h tl l = [] from if_neg hr]
    have HRK := Lib.hid (fun w (hi : IntsW (a, n, xs) w) => iRingOk w.heap.size s t a n cap xs h tl l w hi (Nat.le_refl _) hx64 hn)
    rw [show okRB s t xs h tl l = false from decide_eq_false hr] at HRK
    have HQ := Lib.hid ((((Hold.start w).addI hi).new (.cells #[.int .i64 s, .int .i64 t] 29)).new (.cells #[.slice a n cap, .int .i64 h, .int .i64 tl, .int .i64 l] 31))
    simp only [World.size_alloc] at HQ
    clear hi hx64 hr hl
    go_enter Try.func9, Try.ntmps9
    go_wp2_with (go_at_call 24; (with_reducible refine (HRK.out _ HQ.out.ints).mono ?_); rintro e w1 ⟨rfl, hb⟩; have HQ1 := Lib.hid (HQ.out.step hb); clear hb HQ)
    go_ret
    exact ⟨_, rfl, World.ownsRow_nil _ _ _ _, HQ1.out.below⟩

end Go.Proofs.Ytllepakgpiddeaa
