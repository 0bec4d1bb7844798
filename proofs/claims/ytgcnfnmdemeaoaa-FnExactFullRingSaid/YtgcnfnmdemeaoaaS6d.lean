/- The model of the rings: a full one. -/
import Derived.Test.YtgcnfnmdemeaoaaS6c
import Derived.Test.YtgcnfnmdemeaoaaS5b
import Derived.Deep.RegionHeld3
import Derived.OneCell
namespace Go.Proofs.Ytgcnfnmdemeaoaa
open Go.RowKit

/-- The words of a full ring when k numbers have been laid into it. -/
def fullW (s : Int) : Nat → List Int
  | 0 => newWords s (2 * s).toNat
  | k + 1 => (fullW s k).set (placeD s (2 * s + k)).toNat (wordD s (cycD s (2 * s + k)) k true)

theorem fullW_len (s : Int) (k : Nat) : (fullW s k).length = (2 * s).toNat := by
  induction k with
  | zero => simp [fullW, newWords]
  | succ k ih => simp [fullW, ih]

theorem vals_set (xs : List Int) (j : Nat) (x : Int) : (vals xs).set j (.int .i64 x) = vals (xs.set j x) := by simp [vals, List.map_set]

/-- What a round keeps: the plan, room for the answer, the ring that is filled. -/
def FR (w : World) (s t : Int) (g cap k R : Nat) (w' : World) : Prop :=
  Held w.heap.size (w.heap.size + 1 + 1) [(w.heap.size + 1, .cells #[.slice none 0 0, .int .i64 0, .int .i64 0, .int .i64 0] 58), (w.heap.size, .cells #[.int .i64 s, .int .i64 t] 25)] w w' ∧
  w'.heap[R]? = some (.cells #[.slice (some ⟨g, 0, none⟩) (2 * s).toNat cap, .int .i64 (2 * s), .int .i64 (2 * s + k), .int .i64 (-1)] 58 (0, 0))

theorem FR.mk {w : World} {s t : Int} {g cap k R : Nat} {w' : World} (h1 : Held w.heap.size (w.heap.size + 1 + 1) [(w.heap.size + 1, .cells #[.slice none 0 0, .int .i64 0, .int .i64 0, .int .i64 0] 58), (w.heap.size, .cells #[.int .i64 s, .int .i64 t] 25)] w w')
    (h2 : w'.heap[R]? = some (.cells #[.slice (some ⟨g, 0, none⟩) (2 * s).toNat cap, .int .i64 (2 * s), .int .i64 (2 * s + k), .int .i64 (-1)] 58 (0, 0))) : FR w s t g cap k R w' := ⟨h1, h2⟩

theorem FR.step {w : World} {s t : Int} {g cap k R : Nat} {w1 w2 : World} (h : FR w s t g cap k R w1) (hb : Below w1.heap.size w1 w2) : FR w s t g cap k R w2 := ⟨h.1.step hb, blk_below h.2 hb (blk_lt h.2)⟩

theorem FR.set {w : World} {s t : Int} {g cap k R : Nat} {w1 : World} {o : Nat} {v : Value} (h : FR w s t g cap k R w1) (hg : w.heap.size + 1 + 1 ≤ g) (hR : R ≠ g) : FR w s t g cap k R (w1.setCell ⟨g, o, none⟩ v) := ⟨h.1.set hg o v, blk_other h.2 hR⟩

theorem FR.facts {w : World} {s t : Int} {g cap k R : Nat} {w' : World} (h : FR w s t g cap k R w') :
    w'.cell? ⟨w.heap.size, 0, none⟩ = some (.int .i64 s) ∧ w'.cell? ⟨w.heap.size, 1, none⟩ = some (.int .i64 t) ∧ w'.cell? ⟨R, 0, none⟩ = some (.slice (some ⟨g, 0, none⟩) (2 * s).toNat cap) ∧ w'.cell? ⟨R, 2, none⟩ = some (.int .i64 (2 * s + k)) ∧ FR w s t g cap k R w' :=
  ⟨(blk_two h.1.tl.hd).1, (blk_two h.1.tl.hd).2.1, (blk_four h.2).1, (blk_four h.2).2.2.1, h⟩

set_option maxRecDepth 100000 in
set_option maxHeartbeats 4000000 in
theorem fullRing_yes (s t : Int) (hp : okP s t) (w : World) :
    Calls Try.prog 49 #[.agg #[.int .i64 s, .int .i64 t]] w (GivesRing (fullW s s.toNat) (2 * s) (3 * s) (3 * s - 1) w) := by
  obtain ⟨g1, g2⟩ := okP_le hp
  have HP := Lib.hid hp
  have HNR := Lib.hid (newRing_yes s t hp)
  have HMO := Lib.hid (specMost_is s t hp)
  clear hp
  have HQ := Lib.hid (((Held.start w).new (.cells #[.int .i64 s, .int .i64 t] 25)).new (.cells #[.slice none 0 0, .int .i64 0, .int .i64 0, .int .i64 0] 58))
  simp only [World.size_alloc] at HQ
  go_enter Try.func49, Try.ntmps49
  go_wp2_with fail
  refine (specOk_yes _ _ HP.out _).mono ?_
  rintro e w1 ⟨rfl, hb1⟩
  have HQ1 := Lib.hid (HQ.out.step hb1)
  have y1 := HQ1.out.size
  clear hb1 HQ
  obtain ⟨p0, p1, -, -⟩ := blk_two HQ1.out.tl.hd
  go_wp2_with fail
  refine (HNR.out _).mono ?_
  rintro e w2 ⟨a, n, cap, rfl, ho, hb2⟩
  have hn := own_len ho
  have e0 : n = (2 * s).toNat := by rw [← hn]; simp [newWords]
  obtain ⟨g, rfl⟩ := own_some ho (by omega)
  have HO2 := Lib.hid ho
  have hgb := (World.ownsRow.lt ho g rfl)
  have hg1 : w1.heap.size ≤ g := hgb.1
  have hg2 : g < w2.heap.size := hgb.2
  have HQ2 := Lib.hid (HQ1.out.step hb2)
  clear ho hn hb2 HQ1 p0 p1 hgb
  subst e0
  have y2 := HQ2.out.size
  have ya : w.heap.size < w2.heap.size := by omega
  have yb : w.heap.size + 1 < w2.heap.size := by omega
  go_wp2_with fail
  go_loopw [4] (fun i wr => ∃ k : Nat, k ≤ s.toNat ∧ i = .int .i64 k ∧ Held w.heap.size (w.heap.size + 1 + 1) [(w.heap.size + 1, .cells #[.slice none 0 0, .int .i64 0, .int .i64 0, .int .i64 0] 58), (w.heap.size, .cells #[.int .i64 s, .int .i64 t] 25)] w wr ∧
      wr.heap[w2.heap.size]? = some (.cells #[.slice (some ⟨g, 0, none⟩) (2 * s).toNat cap, .int .i64 (2 * s), .int .i64 (2 * s + k), .int .i64 (-1)] 58 (0, 0)) ∧ wr.ownsRow w1.heap.size 2 1 (.slice (some ⟨g, 0, none⟩) (2 * s).toNat cap) (2 * s).toNat (vals (fullW s k))) (fun i _ => s.toNat - (intOf i).toNat)
  case atStart => exact ⟨0, Nat.zero_le _, rfl, HQ2.out.alloc _, by simpa using blk_new w2 _, HO2.out.alloc _⟩
  case round =>
    obtain ⟨k, hk, rfl, hq, hr, ho⟩ := hrel
    have HQ3 := Lib.hid hq
    have HR := Lib.hid hr
    have HO := Lib.hid ho
    have yr := blk_lt hr
    clear hq hr ho
    obtain ⟨p0, p1, -, -⟩ := blk_two HQ3.out.tl.hd
    obtain ⟨r0, r1, r2, r3, f0, f1, f2, f3⟩ := blk_four HR.out
    by_cases hlt : k < s.toNat
    · have hlt2 : (k : Int) < s := by omega
      have hT : okT s t (2 * s + k) := ⟨HP.out, by omega, by omega⟩
      have hTI : okTI s t (2 * s + k) k := ⟨hT, by omega, by omega⟩
      have hc := cyc_w64 hT
      have HPL := Lib.hid (specPlace_yes s t (2 * s + k) hT)
      have HTB : Hid (∀ w, Calls Try.prog 33 #[.agg #[.int .i64 s, .int .i64 t], .int .i64 (2 * s + k), .int .i64 k] w fun e w' => e = .returned (.agg #[.int .i64 (cycD s (2 * s + k)), .bool true, .int .i64 k]) ∧ Below w.heap.size w w') := Lib.hid (fun w => by
        have h := specTakenBy s t (2 * s + k) k w
        rwa [show tbC s t (2 * s + k) k = _ from if_pos hTI, show tbB s t (2 * s + k) k = _ from if_pos hTI, show tbI s t (2 * s + k) k = _ from if_pos hTI] at h)
      have HWD := Lib.hid (specL2Word s t (cycD s (2 * s + k)) k true ⟨HP.out, hc.1, hc.2, by omega, by omega⟩)
      obtain ⟨a0, a1, -⟩ := spot_in (okJ_mod hT)
      obtain ⟨pl, hpl⟩ : ∃ pl : Nat, placeD s (2 * s + k) = pl := ⟨(placeD s (2 * s + k)).toNat, by unfold placeD; omega⟩
      have hpl2 : pl < (2 * s).toNat := by have : placeD s (2 * s + k) ≤ 2 * s - 1 := a1; omega
      have HST : Hid ((fullW s k).set pl (wordD s (cycD s (2 * s + k)) k true) = fullW s (k + 1)) := Lib.hid (by simp [fullW, hpl])
      rw [hpl] at HPL
      clear hT hTI hc a0 a1 hpl
      have hpl0 : (0 : Int) ≤ (pl : Int) := by omega
      have hpl3 : (pl : Int) < (((2 * s).toNat : Nat) : Int) := by omega
      have hpl4 : (pl : Int) < max (2 * s) 0 := by omega
      have hRg : w2.heap.size ≠ g := by omega
      go_wp2_with fail
      go_region_held3 (fun w' => w'.cell? ⟨w.heap.size, 0, none⟩ = some (.int .i64 s) ∧ w'.cell? ⟨w.heap.size, 1, none⟩ = some (.int .i64 t) ∧ w'.cell? ⟨w2.heap.size, 0, none⟩ = some (.slice (some ⟨g, 0, none⟩) (2 * s).toNat cap) ∧ w'.cell? ⟨w2.heap.size, 2, none⟩ = some (.int .i64 (2 * s + k)) ∧ FR w s t g cap k w2.heap.size w')
        (first
          | with_reducible exact (FR.mk HQ3.out HR.out).facts
          | with_reducible exact (FR.mk HQ3.out.drew (w' := wr.drew) HR.out).facts
          | with_reducible exact htc.facts
          | ((with_reducible refine (htc.set ?_ ?_).facts) <;> (first | omega | assumption))
          | fail)
        ((first
          | (go_at_call 20; (try go_split_ands); (with_reducible refine (HPL.out _).mono ?_); rintro e w3 ⟨rfl, hb3⟩; have htc := FR.step (by assumption) hb3; have ho3 := own_grown HO.out.drew hb3)
          | (go_at_call 33; (try go_split_ands); (with_reducible refine (HTB.out _).mono ?_); rintro e w4 ⟨rfl, hb4⟩; have htc := FR.step (by assumption) hb4; have ho4 := own_grown ho3 hb4)
          | (go_at_call 81; (try go_split_ands); (with_reducible refine (HWD.out _).mono ?_); rintro e w5 ⟨rfl, hb5⟩; have htc := FR.step (by assumption) hb5; have ho5 := own_grown ho4 hb5; have hfz := ho5.frozenAt pl; obtain ⟨u, hu⟩ : ∃ u, w5.cell? ⟨g, pl, none⟩ = some u := (by rw [ho5.cellAt pl (by omega)]; exact ⟨_, List.getElem?_eq_getElem (by have := ho5.1; omega)⟩))))
      (try go_split_ands)
      have hset := (ho5.stored pl (.int .i64 (wordD s (cycD s (2 * s + k)) k true))).1
      rw [vals_set, HST.out] at hset
      have htc6 := htc.set (v := .int .i64 (wordD s (cycD s (2 * s + k)) k true)) (o := pl) (by omega) hRg
      have HF := Lib.hid htc6
      have HS := Lib.hid hset
      clear htc6 hset htc ho3 ho4 ho5 hfz hu p0 p1 r0 r1 r2 r3 f0 f1 f2 f3
      obtain ⟨r0, r1, r2, r3, f0, f1, f2, f3⟩ := blk_four HF.out.2
      have yR := blk_lt HF.out.2
      have hkk : IntKind.i64.wrap (2 * s + (k : Int) + 1) = 2 * s + (k : Int) + 1 := IntWalk.i64_in _ (by omega)
      go_wp2
      go_roundw
      case rel => exact ⟨k + 1, by omega, by go_num, HF.out.1.set (by omega) 2 _, by rw [show 2 * s + ((k + 1 : Nat) : Int) = 2 * s + (k : Int) + 1 by omega]; exact blk_set HF.out.2, ownsRow_setCell_other HS.out (by simp [Value.ownBlock]; omega) _⟩
      case measure => simp [intOf]; omega
    · have e : k = s.toNat := by omega
      subst e
      have hnlt : ¬ ((s.toNat : Nat) : Int) < s := by omega
      have hsn : 2 * s + ((s.toNat : Nat) : Int) = 3 * s := by omega
      rw [hsn] at HR
      clear r0 r1 r2 r3 f0 f1 f2 f3 hsn
      go_wp2_with fail
      refine (HMO.out _).mono ?_
      rintro e w6 ⟨rfl, hb6⟩
      have HQ6 := Lib.hid (HQ3.out.step hb6)
      have HR6 := Lib.hid (blk_below HR.out hb6 yr)
      have HO6 := Lib.hid (own_grown HO.out hb6)
      have y6 := blk_lt HR6.out
      clear hb6 HQ3 HR HO
      obtain ⟨u0, u1, u2, u3, e0, e1, e2, e3⟩ := blk_four HQ6.out.hd
      obtain ⟨r0, r1, r2, r3, f0, f1, f2, f3⟩ := blk_four HR6.out
      have hR2 : w2.heap.size ≠ w.heap.size + 1 := by omega
      go_wp2
      refine bodyPost_ret ?ret rfl ⟨some ⟨g, 0, none⟩, (2 * s).toNat, cap, rfl, ?own, ?bel⟩
      case ret => simp [results, Try.results49, go_sem, u0, u1, u2, u3]
      case own =>
        have hne : ∀ b : Nat, b ≠ g → ∀ o : Nat, (Value.slice (some ⟨g, 0, none⟩) (2 * s).toNat cap).ownBlock ≠ some (⟨b, o, none⟩ : Addr).block := fun b hb o => by simp [Value.ownBlock]; omega
        exact own_low (ownsRow_setCell_other (ownsRow_setCell_other (ownsRow_setCell_other (ownsRow_setCell_other (ownsRow_setCell_other HO6.out (hne _ (by omega) 3) _) (hne _ (by omega) 0) _) (hne _ (by omega) 1) _) (hne _ (by omega) 2) _) (hne _ (by omega) 3) _) (by omega)
      case bel => exact ((((HQ6.out.below.setCell (by simp; omega) _).setCell (by simp) _).setCell (by simp) _).setCell (by simp) _).setCell (by simp) _

set_option maxHeartbeats 1000000 in
theorem fullRing_no (s t : Int) (hp : ¬ okP s t) (w : World) :
    Calls Try.prog 49 #[.agg #[.int .i64 s, .int .i64 t]] w (GivesRing [] 0 0 0 w) := by
  have HP := Lib.hid hp
  clear hp
  have HQ := Lib.hid (((Held.start w).new (.cells #[.int .i64 s, .int .i64 t] 25)).new (.cells #[.slice none 0 0, .int .i64 0, .int .i64 0, .int .i64 0] 58))
  simp only [World.size_alloc] at HQ
  go_enter Try.func49, Try.ntmps49
  go_wp2_with fail
  refine (specOk_no _ _ HP.out _).mono ?_
  rintro e w1 ⟨rfl, hb1⟩
  have HQ1 := Lib.hid (HQ.out.step hb1)
  clear hb1 HQ
  obtain ⟨u0, u1, u2, u3, e0, e1, e2, e3⟩ := blk_four HQ1.out.hd
  go_wp2
  refine bodyPost_ret ?ret rfl ⟨none, 0, 0, rfl, World.ownsRow_nil _ _ _ _, ?bel⟩
  case ret => simp [results, Try.results49, go_sem, u0, u1, u2, u3]
  case bel => exact (((HQ1.out.below.setCell (by simp) _).setCell (by simp) _).setCell (by simp) _).setCell (by simp) _

def frW (s t : Int) : List Int := if okP s t then fullW s s.toNat else []

def frH (s t : Int) : Int := if okP s t then 2 * s else 0

def frT (s t : Int) : Int := if okP s t then 3 * s else 0

def frL (s t : Int) : Int := if okP s t then 3 * s - 1 else 0

theorem specFullRing (s t : Int) (w : World) :
    Calls Try.prog 49 #[.agg #[.int .i64 s, .int .i64 t]] w (GivesRing (frW s t) (frH s t) (frT s t) (frL s t) w) := by
  by_cases h : okP s t
  · rw [show frW s t = _ from if_pos h, show frH s t = _ from if_pos h, show frT s t = _ from if_pos h, show frL s t = _ from if_pos h]; exact fullRing_yes s t h w
  · rw [show frW s t = _ from if_neg h, show frH s t = _ from if_neg h, show frT s t = _ from if_neg h, show frL s t = _ from if_neg h]; exact fullRing_no s t h w

end Go.Proofs.Ytgcnfnmdemeaoaa
