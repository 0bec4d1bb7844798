/- Contracts of the draws of chapter 5: a plan, an entry, a ticket. -/
import Derived.Test.YtgcnfnmdemeaoaaD4
namespace Go.Proofs.Ytgcnfnmdemeaoaa
open Go.RowKit

/-- What a walk of the draw keeps: the drawn plan and entry from block P on, room for the answer from block R on, the drawer. -/
structure L5 (c : Nat) (a : Option Addr) (n cap B R P : Nat) (s t x y : Int) (b : Bool) (base w' : World) : Prop where
  hc : c < R
  hR : R + 2 ≤ P
  hb : base.heap.size = R
  hB : B ≤ R
  plan : w'.heap[P]? = some (.cells #[.int .i64 s, .int .i64 t] 25 (0, 0))
  ent : w'.heap[P + 1]? = some (.cells #[.int .i64 x, .bool b, .int .i64 y] 38 (0, 0))
  rp : ∃ u0 u1, w'.heap[R]? = some (.cells #[u0, u1] 25 (0, 0))
  re : ∃ u0 u1 u2, w'.heap[R + 1]? = some (.cells #[u0, u1, u2] 38 (0, 0))
  kept : Kept 98 .i64 B c a n cap base w'

theorem L5.drew {c : Nat} {a : Option Addr} {n cap B R P : Nat} {s t x y : Int} {b : Bool} {base w' : World} (h : L5 c a n cap B R P s t x y b base w') : L5 c a n cap B R P s t x y b base w'.drew :=
  ⟨h.hc, h.hR, h.hb, h.hB, h.plan, h.ent, h.rp, h.re, h.kept.drew⟩

theorem L5.call {c : Nat} {a : Option Addr} {n cap B R P : Nat} {s t x y : Int} {b : Bool} {base w1 w2 : World} (h : L5 c a n cap B R P s t x y b base w1) (hd : Drawer 98 .i64 B c a n cap w2) (hg : w1.grownBy w2 (some c)) : L5 c a n cap B R P s t x y b base w2 := by
  obtain ⟨h1, h2, h3, h4, h5, h6, ⟨u0, u1, h7⟩, ⟨v0, v1, v2, h8⟩, h9⟩ := h
  exact ⟨h1, h2, h3, h4, blk_grown h5 hg (by simp; omega), blk_grown h6 hg (by simp; omega), ⟨u0, u1, blk_grown h7 hg (by simp; omega)⟩, ⟨v0, v1, v2, blk_grown h8 hg (by simp; omega)⟩, h9.call hd hg⟩

theorem L5.facts {c : Nat} {a : Option Addr} {n cap B R P : Nat} {s t x y : Int} {b : Bool} {base w' : World} (h : L5 c a n cap B R P s t x y b base w') :
    w'.cell? ⟨P, 0, none⟩ = some (.int .i64 s) ∧ w'.cell? ⟨P, 1, none⟩ = some (.int .i64 t) ∧ w'.cell? ⟨P + 1, 0, none⟩ = some (.int .i64 x) ∧ w'.cell? ⟨P + 1, 1, none⟩ = some (.bool b) ∧ w'.cell? ⟨P + 1, 2, none⟩ = some (.int .i64 y) ∧ L5 c a n cap B R P s t x y b base w' :=
  ⟨(blk_two h.plan).1, (blk_two h.plan).2.1, (blk_three h.ent).1, (blk_three h.ent).2.1, (blk_three h.ent).2.2.1, h⟩

/-- The room for the answer can be written. -/
theorem L5.free {c : Nat} {a : Option Addr} {n cap B R P : Nat} {s t x y : Int} {b : Bool} {base w' : World} (h : L5 c a n cap B R P s t x y b base w') :
    ∃ u0 u1 u2 u3 u4, w'.cell? ⟨R, 0, none⟩ = some u0 ∧ w'.cell? ⟨R, 1, none⟩ = some u1 ∧ w'.frozen? ⟨R, 0, none⟩ = false ∧ w'.frozen? ⟨R, 1, none⟩ = false ∧ w'.cell? ⟨R + 1, 0, none⟩ = some u2 ∧ w'.cell? ⟨R + 1, 1, none⟩ = some u3 ∧ w'.cell? ⟨R + 1, 2, none⟩ = some u4 ∧ w'.frozen? ⟨R + 1, 0, none⟩ = false ∧ w'.frozen? ⟨R + 1, 1, none⟩ = false ∧ w'.frozen? ⟨R + 1, 2, none⟩ = false := by
  obtain ⟨u0, u1, h7⟩ := h.rp
  obtain ⟨v0, v1, v2, h8⟩ := h.re
  exact ⟨u0, u1, v0, v1, v2, (blk_two h7).1, (blk_two h7).2.1, (blk_two h7).2.2.1, (blk_two h7).2.2.2, (blk_three h8).1, (blk_three h8).2.1, (blk_three h8).2.2.1, (blk_three h8).2.2.2.1, (blk_three h8).2.2.2.2.1, (blk_three h8).2.2.2.2.2⟩

theorem L5.setP {c : Nat} {a : Option Addr} {n cap B R P : Nat} {s t x y : Int} {b : Bool} {base w' : World} {v0 v1 : Value} (h : L5 c a n cap B R P s t x y b base w') : L5 c a n cap B R P s t x y b base ((w'.setCell ⟨R, 0, none⟩ v0).setCell ⟨R, 1, none⟩ v1) := by
  obtain ⟨h1, h2, h3, h4, h5, h6, ⟨u0, u1, h7⟩, ⟨w0, w1, w2, h8⟩, h9⟩ := h
  exact ⟨h1, h2, h3, h4, blk_other (blk_other h5 (by simp; omega)) (by simp; omega), blk_other (blk_other h6 (by simp; omega)) (by simp; omega), ⟨_, _, blk_set2 h7⟩, ⟨_, _, _, blk_other (blk_other h8 (by simp)) (by simp)⟩, Kept.set2 (by omega) h9 (by omega) (by omega)⟩

theorem L5.setE {c : Nat} {a : Option Addr} {n cap B R P : Nat} {s t x y : Int} {b : Bool} {base w' : World} {v0 v1 v2 : Value} (h : L5 c a n cap B R P s t x y b base w') : L5 c a n cap B R P s t x y b base (((w'.setCell ⟨R + 1, 0, none⟩ v0).setCell ⟨R + 1, 1, none⟩ v1).setCell ⟨R + 1, 2, none⟩ v2) := by
  obtain ⟨h1, h2, h3, h4, h5, h6, ⟨u0, u1, h7⟩, ⟨w0, w1, w2, h8⟩, h9⟩ := h
  exact ⟨h1, h2, h3, h4, blk_other (blk_other (blk_other h5 (by simp; omega)) (by simp; omega)) (by simp; omega), blk_other (blk_other (blk_other h6 (by simp; omega)) (by simp; omega)) (by simp; omega), ⟨_, _, blk_other (blk_other (blk_other h7 (by simp)) (by simp)) (by simp)⟩, ⟨_, _, _, blk_set3 h8⟩, Kept.set3 (by omega) h9 (by omega) (by omega)⟩

def PickInt (x y : Int) (w : World) (e : Ending) (w' : World) : Prop := ∃ v : Int, (v = x ∨ v = y) ∧ e = .returned (.int .i64 v) ∧ w = w'

theorem max_pick (x y : Int) (w : World) : Calls Try.prog 68 #[.int .i64 x, .int .i64 y] w (PickInt x y w) := by
  by_cases h : y < x
  · go_enter Try.func68, Try.ntmps68
    go_wp2
    go_ret
    exact ⟨x, Or.inl rfl, rfl, rfl⟩
  · go_enter Try.func68, Try.ntmps68
    go_wp2
    go_ret
    exact ⟨y, Or.inr rfl, rfl, rfl⟩

theorem pick_w64 {v x y : Int} (h : v = x ∨ v = y) (hx : W64 x) (hy : W64 y) : W64 v := by rcases h with rfl | rfl <;> assumption

/-- What is drawn. -/
def PETIs (v : Value) : Prop := ∃ (s t x y k : Int) (b : Bool), v = .tuple #[.agg #[.int .i64 s, .int .i64 t], .agg #[.int .i64 x, .bool b, .int .i64 y], .int .i64 k] ∧ W64 s ∧ W64 t ∧ W64 x ∧ W64 y ∧ W64 k

set_option maxRecDepth 100000 in
set_option maxHeartbeats 4000000 in
theorem l5Draw_any {B c : Nat} {a : Option Addr} {n cap : Nat} {w : World} (hd : Drawer 98 .i64 B c a n cap w) :
    Calls Try.prog 65 #[.pointer (some ⟨c, 0, none⟩)] w (Drawn 98 .i64 B c a n cap PETIs w) := by
  have HD := Lib.hid (hd.grown (grown_alloc (World.grownBy_alloc w (.cells #[.int .i64 0, .int .i64 0] 25) none) (.cells #[.int .i64 0, .bool false, .int .i64 0] 38)) (by simp))
  have hlt := hd.lt
  have hlow := hd.low
  clear hd
  go_enter Try.func65, Try.ntmps65
  go_wp2_with fail
  refine (l2DrawAny_any HD.out).mono ?_
  rintro e w1 ⟨v, ⟨s, t, x, y, b, rfl, hs, ht, hx, hy⟩, rfl, hd1, hg1⟩
  have z1 := hg1.size
  simp at z1
  have RP1 := Lib.hid (blk_grown (blk_alloc (blk_new w _)) hg1 (by simp; omega))
  have RE1 := Lib.hid (blk_grown (blk_new (w.alloc _) _) hg1 (by simp; omega))
  simp at RE1
  have HD1 := Lib.hid (hd1.grown (grown_alloc (World.grownBy_alloc w1 (.cells #[.int .i64 s, .int .i64 t] 25) none) (.cells #[.int .i64 x, .bool b, .int .i64 y] 38)) (by simp))
  have HG1 := Lib.hid (grown_alloc (grown_alloc (grown_trans (grown_alloc (World.grownBy_alloc w _ _) _) hg1) (.cells #[.int .i64 s, .int .i64 t] 25)) (.cells #[.int .i64 x, .bool b, .int .i64 y] 38))
  clear hd1 hg1 HD
  have HL1 : Hid (L5 c a n cap B w.heap.size w1.heap.size s t x y b w ((w1.alloc (.cells #[.int .i64 s, .int .i64 t] 25)).alloc (.cells #[.int .i64 x, .bool b, .int .i64 y] 38))) := Lib.hid ⟨hlt, by omega, rfl, by omega, blk_alloc (blk_new w1 _), by have := blk_new (w1.alloc (.cells #[.int .i64 s, .int .i64 t] 25)) (.cells #[.int .i64 x, .bool b, .int .i64 y] 38); simpa using this, ⟨_, _, blk_alloc (blk_alloc RP1.out)⟩, ⟨_, _, _, blk_alloc (blk_alloc RE1.out)⟩, ⟨HD1.out, HG1.out⟩⟩
  clear HD1 HG1 RP1 RE1
  go_wp2_with fail
  refine (once_any HL1.out.kept.drawer _).mono ?_
  rintro e w2 ⟨v, ⟨z, rfl⟩, rfl, hd2, hg2⟩
  have HL2 := Lib.hid (HL1.out.call hd2 hg2)
  clear hd2 hg2 HL1
  obtain ⟨q0, q1, q2, q3, q4, -⟩ := HL2.out.facts
  cases z
  · go_wp2_with fail
    go_region_held3 (fun w' => w'.cell? ⟨w1.heap.size, 0, none⟩ = some (.int .i64 s) ∧ w'.cell? ⟨w1.heap.size, 1, none⟩ = some (.int .i64 t) ∧ w'.cell? ⟨w1.heap.size + 1, 0, none⟩ = some (.int .i64 x) ∧ w'.cell? ⟨w1.heap.size + 1, 1, none⟩ = some (.bool b) ∧ w'.cell? ⟨w1.heap.size + 1, 2, none⟩ = some (.int .i64 y) ∧ L5 c a n cap B w.heap.size w1.heap.size s t x y b w w')
      (first
        | with_reducible exact HL2.out.facts
        | with_reducible exact HL2.out.drew.facts
        | with_reducible exact htc.facts
        | with_reducible exact htc.setP.facts
        | with_reducible exact htc.setE.facts
        | with_reducible exact htc.setP.setE.facts
        | with_reducible exact htc.setE.setP.facts
        | (with_reducible exact ⟨by assumption, by assumption, by assumption, by assumption, by assumption, by assumption⟩)
        | ((try go_split_ands); with_reducible exact ⟨by assumption, by assumption, by assumption, by assumption, by assumption, by assumption⟩))
      ((first
        | (go_at_call 92; (with_reducible refine (min_any _ _ _).mono ?_); rintro e w' ⟨v, rfl, rfl⟩)
        | (go_at_call 68; (with_reducible refine (max_pick _ _ _).mono ?_); rintro e w' ⟨v, hv, rfl, rfl⟩)
        | (go_at_call 66; (try go_split_ands); have hdk := Kept.drawer (L5.kept (by assumption)); (with_reducible refine (from_int hdk _ _).mono ?_); rintro e w3 ⟨v, ⟨k1, rfl, hk1⟩, rfl, hd3, hg3⟩; have htc := L5.call (by assumption) hd3 hg3)
        | (go_at_call 67; (try go_split_ands); have hdk := Kept.drawer (L5.kept (by assumption)); (with_reducible refine (below_int hdk _).mono ?_); rintro e w3 ⟨v, ⟨k2, rfl, hk2⟩, rfl, hd3, hg3⟩; have htc := L5.call (by assumption) hd3 hg3; obtain ⟨u0, u1, u2, u3, u4, r0, r1, f0, f1, s0, s1, s2, g0, g1, g2⟩ := htc.free)))
    all_goals
      go_wp2
      refine bodyPost_ret ?ret rfl ⟨_, ⟨s, t, x, y, v, b, rfl, hs, ht, hx, hy, pick_w64 hv (by decide) (w64_iwrap _)⟩, rfl, htc.setP.setE.kept.drawer, htc.setP.setE.kept.grown⟩
      case ret => simp [results, Try.results65, go_sem, r0, r1, s0, s1, s2]
  · go_wp2_with fail
    go_region_held3 (fun w' => w'.cell? ⟨w1.heap.size, 0, none⟩ = some (.int .i64 s) ∧ w'.cell? ⟨w1.heap.size, 1, none⟩ = some (.int .i64 t) ∧ w'.cell? ⟨w1.heap.size + 1, 0, none⟩ = some (.int .i64 x) ∧ w'.cell? ⟨w1.heap.size + 1, 1, none⟩ = some (.bool b) ∧ w'.cell? ⟨w1.heap.size + 1, 2, none⟩ = some (.int .i64 y) ∧ L5 c a n cap B w.heap.size w1.heap.size s t x y b w w')
      (first
        | with_reducible exact HL2.out.facts
        | with_reducible exact HL2.out.drew.facts
        | with_reducible exact htc.facts
        | with_reducible exact htc.setP.facts
        | with_reducible exact htc.setE.facts
        | with_reducible exact htc.setP.setE.facts
        | with_reducible exact htc.setE.setP.facts
        | (with_reducible exact ⟨by assumption, by assumption, by assumption, by assumption, by assumption, by assumption⟩)
        | ((try go_split_ands); with_reducible exact ⟨by assumption, by assumption, by assumption, by assumption, by assumption, by assumption⟩))
      ((first
        | (go_at_call 55; (try go_split_ands); have hdk := Kept.drawer (L5.kept (by assumption)); (with_reducible refine (l4Draw_any hdk).mono ?_); rintro e w3 ⟨v, ⟨k2, rfl, hk2⟩, rfl, hd3, hg3⟩; have htc := L5.call (by assumption) hd3 hg3; obtain ⟨u0, u1, u2, u3, u4, r0, r1, f0, f1, s0, s1, s2, g0, g1, g2⟩ := htc.free)))
    all_goals
      go_wp2
      refine bodyPost_ret ?ret rfl ⟨_, ⟨s, t, x, y, k2, b, rfl, hs, ht, hx, hy, hk2⟩, rfl, htc.setP.setE.kept.drawer, htc.setP.setE.kept.grown⟩
      case ret => simp [results, Try.results65, go_sem, r0, r1, s0, s1, s2]

set_option maxHeartbeats 2000000 in
theorem drawMayTake_any (a : Option Addr) (n cap : Nat) (w : World) (hn : n ≤ 4096) (hb : Bytes w.heap.size a n w) :
    Calls Try.prog 26 #[.slice a n cap] w (Gives PETIs w) := by
  have HB := Lib.hid (hb.grown (grown_alloc (World.grownBy_alloc w (.cells #[.int .i64 0, .int .i64 0] 25) none) (.cells #[.int .i64 0, .bool false, .int .i64 0] 38)) (by simp))
  clear hb
  go_enter Try.func26, Try.ntmps26
  go_wp2_with fail
  refine (new_any w.heap.size a n cap _ hn (by simp; omega) HB.out).mono ?_
  rintro e w1 ⟨c, rfl, hc, hd1, hb1⟩
  simp at hc
  have RP1 := Lib.hid (blk_below (blk_alloc (blk_new w _)) hb1 (by simp; omega))
  have RE1 := Lib.hid (blk_below (blk_new (w.alloc _) _) hb1 (by simp))
  simp at RE1
  have HD1 := Lib.hid hd1
  have HB1 := Lib.hid ((((Below.refl w.heap.size w).alloc (Nat.le_refl _) _).alloc (by simp) _).trans (hb1.mono (by simp; omega)))
  clear hd1 hb1 HB
  go_wp2_with fail
  refine (l5Draw_any HD1.out).mono ?_
  rintro e w2 ⟨v, ⟨s, t, x, y, k, b, rfl, hs, ht, hx, hy, hk⟩, rfl, hd2, hg2⟩
  have RP2 := Lib.hid (blk_grown RP1.out hg2 (by simp; omega))
  have RE2 := Lib.hid (blk_grown RE1.out hg2 (by simp; omega))
  have HB2 := Lib.hid (below_of_grown HB1.out hg2 HB1.out.size (by intro k hk; cases hk; omega))
  clear hd2 hg2 HD1 HB1 RP1 RE1
  obtain ⟨r0, r1, e0, e1⟩ := blk_two RP2.out
  obtain ⟨s0, s1, s2, g0, g1, g2⟩ := blk_three RE2.out
  go_wp2
  refine bodyPost_ret ?ret rfl ⟨_, ⟨s, t, x, y, k, b, rfl, hs, ht, hx, hy, hk⟩, rfl, (((((HB2.out.setCell (by simp) _).setCell (by simp) _).setCell (by simp) _).setCell (by simp) _).setCell (by simp) _)⟩
  case ret => simp [results, Try.results26, go_sem, r0, r1, s0, s1, s2]

/-- What a walk of the draw keeps: the drawn plan in block P, room for the answer in block R, the drawer. -/
structure L5t (c : Nat) (a : Option Addr) (n cap R P : Nat) (s t : Int) (base w' : World) : Prop where
  hc : R < c
  hP : c < P
  hb : base.heap.size = R
  plan : w'.heap[P]? = some (.cells #[.int .i64 s, .int .i64 t] 25 (0, 0))
  rp : ∃ u0 u1, w'.heap[R]? = some (.cells #[u0, u1] 25 (0, 0))
  kept : Kept 98 .i64 R c a n cap base w'

theorem L5t.drew {c : Nat} {a : Option Addr} {n cap R P : Nat} {s t : Int} {base w' : World} (h : L5t c a n cap R P s t base w') : L5t c a n cap R P s t base w'.drew := ⟨h.hc, h.hP, h.hb, h.plan, h.rp, h.kept.drew⟩

theorem L5t.call {c : Nat} {a : Option Addr} {n cap R P : Nat} {s t : Int} {base w1 w2 : World} (h : L5t c a n cap R P s t base w1) (hd : Drawer 98 .i64 R c a n cap w2) (hg : w1.grownBy w2 (some c)) : L5t c a n cap R P s t base w2 := by
  obtain ⟨h1, h2, h3, h5, ⟨u0, u1, h7⟩, h9⟩ := h
  exact ⟨h1, h2, h3, blk_grown h5 hg (by simp; omega), ⟨u0, u1, blk_grown h7 hg (by simp; omega)⟩, h9.call hd hg⟩

theorem L5t.facts {c : Nat} {a : Option Addr} {n cap R P : Nat} {s t : Int} {base w' : World} (h : L5t c a n cap R P s t base w') :
    w'.cell? ⟨P, 0, none⟩ = some (.int .i64 s) ∧ w'.cell? ⟨P, 1, none⟩ = some (.int .i64 t) ∧ L5t c a n cap R P s t base w' := ⟨(blk_two h.plan).1, (blk_two h.plan).2.1, h⟩

theorem L5t.free {c : Nat} {a : Option Addr} {n cap R P : Nat} {s t : Int} {base w' : World} (h : L5t c a n cap R P s t base w') :
    ∃ u0 u1, w'.cell? ⟨R, 0, none⟩ = some u0 ∧ w'.cell? ⟨R, 1, none⟩ = some u1 ∧ w'.frozen? ⟨R, 0, none⟩ = false ∧ w'.frozen? ⟨R, 1, none⟩ = false := by
  obtain ⟨u0, u1, h7⟩ := h.rp
  exact ⟨u0, u1, (blk_two h7).1, (blk_two h7).2.1, (blk_two h7).2.2.1, (blk_two h7).2.2.2⟩

theorem L5t.setP {c : Nat} {a : Option Addr} {n cap R P : Nat} {s t : Int} {base w' : World} {v0 v1 : Value} (h : L5t c a n cap R P s t base w') : L5t c a n cap R P s t base ((w'.setCell ⟨R, 0, none⟩ v0).setCell ⟨R, 1, none⟩ v1) := by
  obtain ⟨h1, h2, h3, h5, ⟨u0, u1, h7⟩, h9⟩ := h
  exact ⟨h1, h2, h3, blk_other (blk_other h5 (by simp; omega)) (by simp; omega), ⟨_, _, blk_set2 h7⟩, Kept.set2 (by omega) h9 (by omega) (by omega)⟩

/-- A plan and two numbers. -/
def PTTIs (v : Value) : Prop := ∃ s t k i : Int, v = .tuple #[.agg #[.int .i64 s, .int .i64 t], .int .i64 k, .int .i64 i] ∧ W64 s ∧ W64 t ∧ W64 k ∧ W64 i

set_option maxRecDepth 100000 in
set_option maxHeartbeats 4000000 in
theorem drawTakenBy_any (a : Option Addr) (n cap : Nat) (w : World) (hn : n ≤ 4096) (hb : Bytes w.heap.size a n w) :
    Calls Try.prog 27 #[.slice a n cap] w (Gives PTTIs w) := by
  have HB := Lib.hid (hb.grown (World.grownBy_alloc w (.cells #[.int .i64 0, .int .i64 0] 25) none) (by simp))
  clear hb
  go_enter Try.func27, Try.ntmps27
  go_wp2_with fail
  refine (new_any w.heap.size a n cap _ hn (by simp) HB.out).mono ?_
  rintro e w1 ⟨c, rfl, hc, hd1, hb1⟩
  simp at hc
  have hlt1 := hd1.lt
  have z1 := hb1.size
  simp at z1
  have R1 := Lib.hid (blk_below (blk_new w _) hb1 (by simp))
  have HD1 := Lib.hid hd1
  have HB1 := Lib.hid (grown_trans (World.grownBy_alloc w _ (some c)) (grown_below hb1 _))
  clear hd1 hb1 HB
  go_wp2_with fail
  refine (l5Draw_any HD1.out).mono ?_
  rintro e w2 ⟨v, ⟨s, t, x, y, k, b, rfl, hs, ht, hx, hy, hk⟩, rfl, hd2, hg2⟩
  have z2 := hg2.size
  have R2 := Lib.hid (blk_grown R1.out hg2 (by simp; omega))
  have HD2 := Lib.hid (hd2.grown (grown_alloc (World.grownBy_alloc w2 (.cells #[.int .i64 s, .int .i64 t] 25) none) (.cells #[.int .i64 x, .bool b, .int .i64 y] 38)) (by simp))
  have HG2 := Lib.hid (grown_alloc (grown_alloc (grown_trans HB1.out hg2) (.cells #[.int .i64 s, .int .i64 t] 25)) (.cells #[.int .i64 x, .bool b, .int .i64 y] 38))
  clear hd2 hg2 HD1 HB1 R1
  have HL2 : Hid (L5t c a n cap w.heap.size w2.heap.size s t w ((w2.alloc (.cells #[.int .i64 s, .int .i64 t] 25)).alloc (.cells #[.int .i64 x, .bool b, .int .i64 y] 38))) := Lib.hid ⟨by omega, by omega, rfl, blk_alloc (blk_new w2 _), ⟨_, _, blk_alloc (blk_alloc R2.out)⟩, ⟨HD2.out, HG2.out⟩⟩
  clear HD2 HG2 R2
  go_wp2_with fail
  refine (once_any HL2.out.kept.drawer _).mono ?_
  rintro e w3 ⟨v, ⟨z, rfl⟩, rfl, hd3, hg3⟩
  have HL3 := Lib.hid (HL2.out.call hd3 hg3)
  clear hd3 hg3 HL2
  obtain ⟨q0, q1, -⟩ := HL3.out.facts
  cases z
  · go_wp2_with fail
    go_region_held3 (fun w' => w'.cell? ⟨w2.heap.size, 0, none⟩ = some (.int .i64 s) ∧ w'.cell? ⟨w2.heap.size, 1, none⟩ = some (.int .i64 t) ∧ L5t c a n cap w.heap.size w2.heap.size s t w w')
      (first
        | with_reducible exact HL3.out.facts
        | with_reducible exact HL3.out.drew.facts
        | with_reducible exact htc.facts
        | with_reducible exact htc.setP.facts
        | (with_reducible exact ⟨by assumption, by assumption, by assumption⟩)
        | ((try go_split_ands); with_reducible exact ⟨by assumption, by assumption, by assumption⟩))
      ((first
        | (go_at_call 68; (with_reducible refine (max_any _ _ _).mono ?_); rintro e w' ⟨v, rfl, rfl⟩)
        | (go_at_call 67; (try go_split_ands); have hdk := Kept.drawer (L5t.kept (by assumption)); (with_reducible refine (below_int hdk _).mono ?_); rintro e w4 ⟨v, ⟨i, rfl, hi⟩, rfl, hd4, hg4⟩; have htc := L5t.call (by assumption) hd4 hg4; obtain ⟨u0, u1, r0, r1, f0, f1⟩ := htc.free)))
    all_goals
      go_wp2
      refine bodyPost_ret ?ret rfl ⟨_, ⟨s, t, k, i, rfl, hs, ht, hk, hi⟩, rfl, below_of_grown (Below.refl _ w) htc.setP.kept.grown (Nat.le_refl _) (by intro k hk; cases hk; omega)⟩
      case ret => simp [results, Try.results27, go_sem, r0, r1]
  · go_wp2_with fail
    go_region_held3 (fun w' => w'.cell? ⟨w2.heap.size, 0, none⟩ = some (.int .i64 s) ∧ w'.cell? ⟨w2.heap.size, 1, none⟩ = some (.int .i64 t) ∧ L5t c a n cap w.heap.size w2.heap.size s t w w')
      (first
        | with_reducible exact HL3.out.facts
        | with_reducible exact HL3.out.drew.facts
        | with_reducible exact htc.facts
        | with_reducible exact htc.setP.facts
        | (with_reducible exact ⟨by assumption, by assumption, by assumption⟩)
        | ((try go_split_ands); with_reducible exact ⟨by assumption, by assumption, by assumption⟩))
      ((first
        | (go_at_call 66; (try go_split_ands); have hdk := Kept.drawer (L5t.kept (by assumption)); (with_reducible refine (from_int hdk _ _).mono ?_); rintro e w4 ⟨v, ⟨i, rfl, hi⟩, rfl, hd4, hg4⟩; have htc := L5t.call (by assumption) hd4 hg4; obtain ⟨u0, u1, r0, r1, f0, f1⟩ := htc.free)))
    all_goals
      go_wp2
      refine bodyPost_ret ?ret rfl ⟨_, ⟨s, t, k, i, rfl, hs, ht, hk, hi⟩, rfl, below_of_grown (Below.refl _ w) htc.setP.kept.grown (Nat.le_refl _) (by intro k hk; cases hk; omega)⟩
      case ret => simp [results, Try.results27, go_sem, r0, r1]

end Go.Proofs.Ytgcnfnmdemeaoaa
