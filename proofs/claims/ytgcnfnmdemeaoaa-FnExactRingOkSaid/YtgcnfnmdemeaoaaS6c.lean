/- The model of the rings: a new one. -/
import Derived.Test.YtgcnfnmdemeaoaaS6
import Derived.Deep.AppendLies
import Derived.Deep.RegionLaw
import Derived.OwnWalk
namespace Go.Proofs.Ytgcnfnmdemeaoaa
open Go.RowKit

theorem own_grown {base : Nat} {E : TypeId} {v : Value} {n : Nat} {xs : List Value} {w w' : World} (h : w.ownsRow base E 1 v n xs) (hb : Below w.heap.size w w') : w'.ownsRow base E 1 v n xs :=
  h.kept (grown_below hb none) (by
    by_cases e : v.ownBlock = none
    · exact Or.inl e
    · exact Or.inr e)

theorem own_low {base base' : Nat} {E : TypeId} {v : Value} {n : Nat} {xs : List Value} {w : World} (h : w.ownsRow base E 1 v n xs) (hb : base' ≤ base) : w.ownsRow base' E 1 v n xs := by
  obtain ⟨hl, h⟩ := h
  refine ⟨hl, ?_⟩
  rcases h with h | ⟨g, cap, cur, h1, h2, h3⟩
  · exact Or.inl h
  · exact Or.inr ⟨g, cap, cur, h1, Nat.le_trans hb h2, h3⟩

theorem Held.grown {B N : Nat} {l : List (Nat × Obj)} {base w w' : World} {row : Option Nat} (h : Held B N l base w) (hg : w.grownBy w' row) (hr : ∀ k, row = some k → N ≤ k) : Held B N l base w' :=
  ⟨fun p hp => ⟨(h.1 p hp).1, blk_grown (h.1 p hp).2 hg (fun e => by have := hr p.1 e.symm; have := (h.1 p hp).1; omega)⟩, h.2.1, Nat.le_trans h.2.2.1 hg.size, h.2.2.2.grown hg (Nat.le_trans h.2.1 h.2.2.1) (fun k e => Nat.le_trans h.2.1 (hr k e))⟩

/-- A ring's numbers are all the word of an empty entry. -/
def newWords (s : Int) (k : Nat) : List Int := List.replicate k (4 * s - 1)

theorem newWords_step (s : Int) (k : Nat) : vals (newWords s k) ++ [Value.int .i64 (4 * s - 1)] = vals (newWords s (k + 1)) := by
  simp [vals, newWords, List.replicate_succ']

/-- A ring of new memory. -/
def GivesRing (xs : List Int) (h tl l : Int) (w : World) (e : Ending) (w' : World) : Prop :=
  ∃ a n cap, e = .returned (.agg #[.slice a n cap, .int .i64 h, .int .i64 tl, .int .i64 l]) ∧ w'.ownsRow w.heap.size 2 1 (.slice a n cap) n (vals xs) ∧ Below w.heap.size w w'

theorem specL2New (s t : Int) (h : okP s t) (w : World) :
    Calls Try.prog 81 #[.agg #[.int .i64 s, .int .i64 t], .agg #[.int .i64 0, .bool true, .int .i64 (2 * s - 1)]] w fun e w' => e = .returned (.int .i64 (4 * s - 1)) ∧ Below w.heap.size w w' := by
  obtain ⟨g1, g2⟩ := okP_le h
  have := specL2Word s t 0 (2 * s - 1) true ⟨h, by decide, by decide, by omega, Int.le_refl _⟩ w
  rwa [show wordD s 0 (2 * s - 1) true = 4 * s - 1 by simp [wordD]; omega] at this

set_option maxRecDepth 100000 in
set_option maxHeartbeats 4000000 in
theorem newRing_yes (s t : Int) (hp : okP s t) (w : World) :
    Calls Try.prog 45 #[.agg #[.int .i64 s, .int .i64 t]] w (GivesRing (newWords s (2 * s).toNat) (2 * s) (2 * s) (-1) w) := by
  obtain ⟨g1, g2⟩ := okP_le hp
  have HP := Lib.hid hp
  have HNO := Lib.hid (specNone_yes s t hp)
  have HL2 := Lib.hid (specL2New s t hp)
  have hw : IntKind.i64.wrap (2 * s) = 2 * s := IntWalk.i64_in _ (by omega)
  clear hp
  obtain ⟨i0, hi0, hz0, hz1, hz2⟩ := info_parts (P := Try.prog) (e := 2) (z := .int .i64 0) (size := 1) (bytes := 8) (by kernel_rfl)
  have HQ := Lib.hid (((Held.start w).new (.cells #[.int .i64 s, .int .i64 t] 25)).new (.cells #[.slice none 0 0, .int .i64 0, .int .i64 0, .int .i64 0] 58))
  simp only [World.size_alloc] at HQ
  go_enter Try.func45, Try.ntmps45
  go_wp2_with fail
  refine (specOk_yes _ _ HP.out _).mono ?_
  rintro e w1 ⟨rfl, hb1⟩
  have HQ1 := Lib.hid (HQ.out.step hb1)
  have y1 := HQ1.out.size
  have ya : w.heap.size < w1.heap.size := by omega
  have yb : w.heap.size + 1 < w1.heap.size := by omega
  clear hb1 HQ
  obtain ⟨p0, p1, -, -⟩ := blk_two HQ1.out.tl.hd
  go_wp2_with fail
  clear p0 p1
  go_loopw [4] (fun i wr => ∃ (k : Nat) (a : Option Addr) (cap : Nat), k ≤ (2 * s).toNat ∧ i = .int .i64 k ∧ Held w.heap.size (w.heap.size + 1 + 1) [(w.heap.size + 1, .cells #[.slice none 0 0, .int .i64 0, .int .i64 0, .int .i64 0] 58), (w.heap.size, .cells #[.int .i64 s, .int .i64 t] 25)] w wr ∧
      wr.heap[w1.heap.size]? = some (.cells #[.slice a k cap, .int .i64 (2 * s), .int .i64 (2 * s), .int .i64 (-1)] 58 (0, 0)) ∧ wr.ownsRow (w1.heap.size + 1) 2 1 (.slice a k cap) k (vals (newWords s k))) (fun i _ => (2 * s).toNat - (intOf i).toNat)
  case atStart => exact ⟨0, none, 0, Nat.zero_le _, rfl, HQ1.out.alloc _, blk_new w1 _, World.ownsRow_nil _ _ _ _⟩
  case round =>
    obtain ⟨k, a, cap, hk, rfl, hq, hr, ho⟩ := hrel
    have HQ2 := Lib.hid hq
    have HR := Lib.hid hr
    have HO := Lib.hid ho
    have yr := blk_lt hr
    clear hq hr ho
    obtain ⟨p0, p1, -, -⟩ := blk_two HQ2.out.tl.hd
    obtain ⟨r0, r1, r2, r3, f0, f1, f2, f3⟩ := blk_four HR.out
    by_cases hlt : k < (2 * s).toNat
    · have hlt2 : (k : Int) < 2 * s := by omega
      go_wp2_with fail
      go_region_law (first
        | (refine step_append_lies _ (by rfl) _ _ _ (by rfl) (w1.heap.size + 1) 2 i0 _ 1 8 Try.underlying53 hi0 hz0 hz1 hz2 rfl (by omega) (.slice a k cap) k _ (by rfl) (ho3.alloc _)
            ⟨wy.heap.size, 0, none⟩ 1 1 [.int .i64 (4 * s - 1)] (by rfl) (by rfl) (World.news_of_block (cs := #[.int .i64 (4 * s - 1)]) (t := 2) (fr := (0, 0)) (heap_alloc_new wy _)) (by simp [Value.oneCell']) (by omega) (by unfold maxLen; omega) (by omega) (by simp; omega) (wy.heap.size + 1) (by simp) ?_; intro gg cp w9 hown9 hgrow hat hlt9; have hrow := (fun k e => (World.ownsRow.lt ho3 k e).1 : ∀ k', (Value.slice a k cap).ownBlock = some k' → w1.heap.size + 1 ≤ k'); have hr5 := blk_grown (blk_alloc hr4) hgrow (by intro e; have := hrow _ e.symm; omega); have hq5 := (hq4.alloc _).grown hgrow (fun k e => by have := hrow k e; omega); obtain ⟨r0, r1, r2, r3, f0, f1, f2, f3⟩ := blk_four hr5)
        | (go_simp; go_at_call 72; (with_reducible refine (HNO.out _).mono ?_); rintro e wx ⟨rfl, hbx⟩; have hq3 := HQ2.out.drew.step hbx; have hr3 := blk_below (w := wr.drew) HR.out hbx yr; have ho2 := own_grown HO.out.drew hbx; obtain ⟨p0, p1, -, -⟩ := blk_two hq3.tl.hd; obtain ⟨r0, r1, r2, r3, f0, f1, f2, f3⟩ := blk_four hr3)
        | (go_simp; go_at_call 81; (with_reducible refine (HL2.out _).mono ?_); rintro e wy ⟨rfl, hby⟩; have hq4 := hq3.step hby; have hr4 := blk_below hr3 hby (blk_lt hr3); have ho3 := own_grown ho2 hby; have yy := blk_lt hr4; obtain ⟨p0, p1, -, -⟩ := blk_two hq4.tl.hd; obtain ⟨r0, r1, r2, r3, f0, f1, f2, f3⟩ := blk_four hr4))
      all_goals
        go_wp2
        go_roundw
        case rel =>
          rw [newWords_step] at hown9
          exact ⟨k + 1, _, _, by omega, by go_num, hq5.set (by omega) 0 _, blk_set hr5, ownsRow_setCell_below hown9 (by simp) _⟩
        case measure => simp [intOf]; omega
    · have e : k = (2 * s).toNat := by omega
      subst e
      have hnlt : ¬ (((2 * s).toNat : Nat) : Int) < 2 * s := by omega
      obtain ⟨u0, u1, u2, u3, e0, e1, e2, e3⟩ := blk_four HQ2.out.hd
      go_wp2
      refine bodyPost_ret ?ret rfl ⟨a, (2 * s).toNat, cap, rfl, ?own, ?bel⟩
      case ret => simp [results, Try.results45, go_sem, u0, u1, u2, u3]
      case own => exact own_low (ownsRow_setCell_below (ownsRow_setCell_below (ownsRow_setCell_below (ownsRow_setCell_below HO.out (by simp; omega) _) (by simp; omega) _) (by simp; omega) _) (by simp; omega) _) (by omega)
      case bel => exact (((HQ2.out.below.setCell (by simp) _).setCell (by simp) _).setCell (by simp) _).setCell (by simp) _

set_option maxHeartbeats 1000000 in
theorem newRing_no (s t : Int) (hp : ¬ okP s t) (w : World) :
    Calls Try.prog 45 #[.agg #[.int .i64 s, .int .i64 t]] w (GivesRing [] 0 0 0 w) := by
  have HP := Lib.hid hp
  clear hp
  have HQ := Lib.hid (((Held.start w).new (.cells #[.int .i64 s, .int .i64 t] 25)).new (.cells #[.slice none 0 0, .int .i64 0, .int .i64 0, .int .i64 0] 58))
  simp only [World.size_alloc] at HQ
  go_enter Try.func45, Try.ntmps45
  go_wp2_with fail
  refine (specOk_no _ _ HP.out _).mono ?_
  rintro e w1 ⟨rfl, hb1⟩
  have HQ1 := Lib.hid (HQ.out.step hb1)
  clear hb1 HQ
  obtain ⟨u0, u1, u2, u3, e0, e1, e2, e3⟩ := blk_four HQ1.out.hd
  go_wp2
  refine bodyPost_ret ?ret rfl ⟨none, 0, 0, rfl, World.ownsRow_nil _ _ _ _, ?bel⟩
  case ret => simp [results, Try.results45, go_sem, u0, u1, u2, u3]
  case bel => exact (((HQ1.out.below.setCell (by simp) _).setCell (by simp) _).setCell (by simp) _).setCell (by simp) _

def nrW (s t : Int) : List Int := if okP s t then newWords s (2 * s).toNat else []

def nrH (s t : Int) : Int := if okP s t then 2 * s else 0

def nrL (s t : Int) : Int := if okP s t then -1 else 0

theorem specNewRing (s t : Int) (w : World) :
    Calls Try.prog 45 #[.agg #[.int .i64 s, .int .i64 t]] w (GivesRing (nrW s t) (nrH s t) (nrH s t) (nrL s t) w) := by
  by_cases h : okP s t
  · rw [show nrW s t = _ from if_pos h, show nrH s t = _ from if_pos h, show nrL s t = _ from if_pos h]; exact newRing_yes s t h w
  · rw [show nrW s t = _ from if_neg h, show nrH s t = _ from if_neg h, show nrL s t = _ from if_neg h]; exact newRing_no s t h w

end Go.Proofs.Ytgcnfnmdemeaoaa
