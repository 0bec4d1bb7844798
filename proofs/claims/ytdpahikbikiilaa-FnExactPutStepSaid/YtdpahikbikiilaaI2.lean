/- The program's words (commit db718a3): its functions answer as the model's. -/
import Derived.Test.YtdpahikbikiilaaI1
import Derived.Test.YtdpahikbikiilaaS2b
import Derived.Deep.RegionHeld3
import Derived.Deep.QuietTactic
import Derived.BigQuiet
import Derived.Laws.BitsLemmas
namespace Go.Proofs.Ytdpahikbikiilaa
open Go.RowKit

theorem wraps_i64 (n : Int) (h₀ : 0 ≤ n) (h₁ : n < 2 ^ 63) : IntKind.i64.wrap n = n := by rw [IntKind.wrap_i64]; omega

theorem i64_or (i : Nat) (x y : Int) (hx0 : 0 ≤ x) (hx : x % 2 ^ i = 0) (hx1 : x < 2 ^ 63) (hy0 : 0 ≤ y) (hy : y < 2 ^ i) (hy1 : y < 2 ^ 63) : bits .or .i64 x y = x + y :=
  bits_join .i64 63 (by decide) wraps_i64 i x y hx0 hx hx1 hy0 hy hy1

theorem i64_and1 (n : Int) : bits .and .i64 n 1 = n % 2 := by
  have hm : (BitVec.ofInt 64 1).toNat = 2 ^ 1 - 1 := by decide
  have key : (BitVec.ofInt 64 n &&& BitVec.ofInt 64 1).toNat = (n % ((2 ^ 64 : Nat) : Int)).toNat % 2 ^ 1 := by
    rw [BitVec.toNat_and, BitVec.toNat_ofInt, hm, Nat.and_two_pow_sub_one_eq_mod]
  show IntKind.i64.wrap ((BitVec.ofInt 64 n &&& BitVec.ofInt 64 1).toNat : Nat) = n % 2
  rw [key, IntKind.wrap_i64]
  omega

theorem i64_and3 (n : Int) : bits .and .i64 n 3 = n % 4 := by
  have hm : (BitVec.ofInt 64 3).toNat = 2 ^ 2 - 1 := by decide
  have key : (BitVec.ofInt 64 n &&& BitVec.ofInt 64 3).toNat = (n % ((2 ^ 64 : Nat) : Int)).toNat % 2 ^ 2 := by
    rw [BitVec.toNat_and, BitVec.toNat_ofInt, hm, Nat.and_two_pow_sub_one_eq_mod]
  show IntKind.i64.wrap ((BitVec.ofInt 64 n &&& BitVec.ofInt 64 3).toNat : Nat) = n % 4
  rw [key, IntKind.wrap_i64]
  omega

theorem i64_and7 (n : Int) : bits .and .i64 n 7 = n % 8 := by
  have hm : (BitVec.ofInt 64 7).toNat = 2 ^ 3 - 1 := by decide
  have key : (BitVec.ofInt 64 n &&& BitVec.ofInt 64 7).toNat = (n % ((2 ^ 64 : Nat) : Int)).toNat % 2 ^ 3 := by
    rw [BitVec.toNat_and, BitVec.toNat_ofInt, hm, Nat.and_two_pow_sub_one_eq_mod]
  show IntKind.i64.wrap ((BitVec.ofInt 64 n &&& BitVec.ofInt 64 7).toNat : Nat) = n % 8
  rw [key, IntKind.wrap_i64]
  omega

theorem i64_and15 (n : Int) : bits .and .i64 n 15 = n % 16 := by
  have hm : (BitVec.ofInt 64 15).toNat = 2 ^ 4 - 1 := by decide
  have key : (BitVec.ofInt 64 n &&& BitVec.ofInt 64 15).toNat = (n % ((2 ^ 64 : Nat) : Int)).toNat % 2 ^ 4 := by
    rw [BitVec.toNat_and, BitVec.toNat_ofInt, hm, Nat.and_two_pow_sub_one_eq_mod]
  show IntKind.i64.wrap ((BitVec.ofInt 64 n &&& BitVec.ofInt 64 15).toNat : Nat) = n % 16
  rw [key, IntKind.wrap_i64]
  omega

set_option maxHeartbeats 400000 in
theorem cycle_any (s t n : Int) (h : okP s t) (w : World) :
    Calls Try.prog 96 #[.int .i64 n, .agg #[.int .i64 s, .int .i64 t]] w fun e w' => e = .returned (.int .i64 (n / (4 * s))) ∧ Below w.heap.size w w' := by
  rcases h.1 with rfl | rfl | rfl | rfl
  · have hd : n / (4 * 1) = n / 2 / 2 := by omega
    rw [hd]
    clear hd h
    go_enter Try.func96, Try.ntmps96
    go_wp2_with (go_at_call 101; (with_reducible refine (bits_go 1 t 1 (by decide) _).mono ?_); rintro e w1 ⟨rfl, hb⟩)
    go_ret
    exact ⟨rfl, ((Below.refl _ _).alloc (Nat.le_refl _) _).trans (hb.mono (by simp))⟩
  · have hd : n / (4 * 2) = n / 4 / 2 := by omega
    rw [hd]
    clear hd h
    go_enter Try.func96, Try.ntmps96
    go_wp2_with (go_at_call 101; (with_reducible refine (bits_go 2 t 2 (by decide) _).mono ?_); rintro e w1 ⟨rfl, hb⟩)
    go_ret
    exact ⟨rfl, ((Below.refl _ _).alloc (Nat.le_refl _) _).trans (hb.mono (by simp))⟩
  · have hd : n / (4 * 4) = n / 8 / 2 := by omega
    rw [hd]
    clear hd h
    go_enter Try.func96, Try.ntmps96
    go_wp2_with (go_at_call 101; (with_reducible refine (bits_go 4 t 3 (by decide) _).mono ?_); rintro e w1 ⟨rfl, hb⟩)
    go_ret
    exact ⟨rfl, ((Below.refl _ _).alloc (Nat.le_refl _) _).trans (hb.mono (by simp))⟩
  · have hd : n / (4 * 8) = n / 16 / 2 := by omega
    rw [hd]
    clear hd h
    go_enter Try.func96, Try.ntmps96
    go_wp2_with (go_at_call 101; (with_reducible refine (bits_go 8 t 4 (by decide) _).mono ?_); rintro e w1 ⟨rfl, hb⟩)
    go_ret
    exact ⟨rfl, ((Below.refl _ _).alloc (Nat.le_refl _) _).trans (hb.mono (by simp))⟩

set_option maxHeartbeats 400000 in
theorem safe_any (s t n : Int) (h : okP s t) (w : World) :
    Calls Try.prog 97 #[.int .i64 n, .agg #[.int .i64 s, .int .i64 t]] w fun e w' => e = .returned (.bool (n / (2 * s) % 2 == 1)) ∧ Below w.heap.size w w' := by
  rcases h.1 with rfl | rfl | rfl | rfl
  · have hd : n / (2 * 1) = n / 2 := by omega
    rw [hd]
    clear hd h
    go_enter Try.func97, Try.ntmps97
    go_wp2_with (go_at_call 101; (with_reducible refine (bits_go 1 t 1 (by decide) _).mono ?_); rintro e w1 ⟨rfl, hb⟩)
    go_ret
    exact ⟨by rw [i64_and1]; rfl, ((Below.refl _ _).alloc (Nat.le_refl _) _).trans (hb.mono (by simp))⟩
  · have hd : n / (2 * 2) = n / 4 := by omega
    rw [hd]
    clear hd h
    go_enter Try.func97, Try.ntmps97
    go_wp2_with (go_at_call 101; (with_reducible refine (bits_go 2 t 2 (by decide) _).mono ?_); rintro e w1 ⟨rfl, hb⟩)
    go_ret
    exact ⟨by rw [i64_and1]; rfl, ((Below.refl _ _).alloc (Nat.le_refl _) _).trans (hb.mono (by simp))⟩
  · have hd : n / (2 * 4) = n / 8 := by omega
    rw [hd]
    clear hd h
    go_enter Try.func97, Try.ntmps97
    go_wp2_with (go_at_call 101; (with_reducible refine (bits_go 4 t 3 (by decide) _).mono ?_); rintro e w1 ⟨rfl, hb⟩)
    go_ret
    exact ⟨by rw [i64_and1]; rfl, ((Below.refl _ _).alloc (Nat.le_refl _) _).trans (hb.mono (by simp))⟩
  · have hd : n / (2 * 8) = n / 16 := by omega
    rw [hd]
    clear hd h
    go_enter Try.func97, Try.ntmps97
    go_wp2_with (go_at_call 101; (with_reducible refine (bits_go 8 t 4 (by decide) _).mono ?_); rintro e w1 ⟨rfl, hb⟩)
    go_ret
    exact ⟨by rw [i64_and1]; rfl, ((Below.refl _ _).alloc (Nat.le_refl _) _).trans (hb.mono (by simp))⟩

theorem none_any (s t : Int) (h1 : 1 ≤ s) (h2 : s ≤ 8) (w : World) :
    Calls Try.prog 87 #[.agg #[.int .i64 s, .int .i64 t]] w fun e w' => e = .returned (.int .i64 (2 * s - 1)) ∧ Below w.heap.size w w' := by
  go_enter Try.func87, Try.ntmps87
  go_wp2_with (go_at_call 94; refine (slots_any _ _ h1 h2 _).mono ?_; rintro e w1 ⟨rfl, hb⟩)
  go_ret
  exact ⟨rfl, ((Below.refl _ _).alloc (Nat.le_refl _) _).trans (hb.mono (by simp))⟩

set_option maxHeartbeats 400000 in
theorem index_any (s t n : Int) (h : okP s t) (w : World) :
    Calls Try.prog 98 #[.int .i64 n, .agg #[.int .i64 s, .int .i64 t]] w fun e w' => e = .returned (.int .i64 (n % (2 * s))) ∧ Below w.heap.size w w' := by
  rcases h.1 with rfl | rfl | rfl | rfl
  · clear h
    go_enter Try.func98, Try.ntmps98
    go_wp2_with (go_at_call 87; refine (none_any 1 _ (by decide) (by decide) _).mono ?_; rintro e w1 ⟨rfl, hb⟩)
    go_ret
    exact ⟨ret_int (i64_and1 n), ((Below.refl _ _).alloc (Nat.le_refl _) _).trans (hb.mono (by simp))⟩
  · clear h
    go_enter Try.func98, Try.ntmps98
    go_wp2_with (go_at_call 87; refine (none_any 2 _ (by decide) (by decide) _).mono ?_; rintro e w1 ⟨rfl, hb⟩)
    go_ret
    exact ⟨ret_int (i64_and3 n), ((Below.refl _ _).alloc (Nat.le_refl _) _).trans (hb.mono (by simp))⟩
  · clear h
    go_enter Try.func98, Try.ntmps98
    go_wp2_with (go_at_call 87; refine (none_any 4 _ (by decide) (by decide) _).mono ?_; rintro e w1 ⟨rfl, hb⟩)
    go_ret
    exact ⟨ret_int (i64_and7 n), ((Below.refl _ _).alloc (Nat.le_refl _) _).trans (hb.mono (by simp))⟩
  · clear h
    go_enter Try.func98, Try.ntmps98
    go_wp2_with (go_at_call 87; refine (none_any 8 _ (by decide) (by decide) _).mono ?_; rintro e w1 ⟨rfl, hb⟩)
    go_ret
    exact ⟨ret_int (i64_and15 n), ((Below.refl _ _).alloc (Nat.le_refl _) _).trans (hb.mono (by simp))⟩

/-- What the walk keeps: the plan's cells, a block for the entry, and all that was below. -/
def EntCells (B : Nat) (s t : Int) (base w : World) : Prop :=
  w.heap[B]? = some (.cells #[.int .i64 s, .int .i64 t] 38 (0, 0)) ∧ (∃ u0 u1 u2, w.heap[B + 1]? = some (.cells #[u0, u1, u2] 69 (0, 0))) ∧ Below B base w

theorem EntCells.step {B : Nat} {s t : Int} {base w w' : World} (h : EntCells B s t base w) (hb : Below w.heap.size w w') : EntCells B s t base w' := by
  obtain ⟨h1, ⟨u0, u1, u2, h2⟩, h3⟩ := h
  exact ⟨blk_below h1 hb (blk_lt h1), ⟨u0, u1, u2, blk_below h2 hb (blk_lt h2)⟩, h3.trans (hb.mono (Nat.le_of_lt (blk_lt h1)))⟩

theorem EntCells.drew {B : Nat} {s t : Int} {base w : World} (h : EntCells B s t base w) : EntCells B s t base w.drew := ⟨h.1, h.2.1, h.2.2.drew⟩

theorem EntCells.start (w : World) (s t : Int) : EntCells w.heap.size s t w ((w.alloc (.cells #[.int .i64 s, .int .i64 t] 38)).alloc (.cells #[.int .i64 0, .bool false, .int .i64 0] 69)) :=
  ⟨blk_alloc (blk_new w _), ⟨_, _, _, by have := blk_new (w.alloc (.cells #[.int .i64 s, .int .i64 t] 38)) (.cells #[.int .i64 0, .bool false, .int .i64 0] 69); simpa using this⟩, ((Below.refl _ _).alloc (Nat.le_refl _) _).alloc (by simp) _⟩

theorem EntCells.set {B : Nat} {s t : Int} {base w : World} {v0 v1 v2 : Value} (h : EntCells B s t base w) : EntCells B s t base (((w.setCell ⟨B + 1, 0, none⟩ v0).setCell ⟨B + 1, 1, none⟩ v1).setCell ⟨B + 1, 2, none⟩ v2) := by
  obtain ⟨h1, ⟨u0, u1, u2, h2⟩, h3⟩ := h
  exact ⟨blk_other (blk_other (blk_other h1 (by simp)) (by simp)) (by simp), ⟨_, _, _, blk_set3 h2⟩, ((h3.setCell (by simp) _).setCell (by simp) _).setCell (by simp) _⟩

theorem EntCells.facts {B : Nat} {s t : Int} {base w : World} (h : EntCells B s t base w) : w.cell? ⟨B, 0, none⟩ = some (.int .i64 s) ∧ w.cell? ⟨B, 1, none⟩ = some (.int .i64 t) ∧ EntCells B s t base w :=
  ⟨(blk_two h.1).1, (blk_two h.1).2.1, h⟩

set_option maxRecDepth 100000 in
set_option maxHeartbeats 2000000 in
theorem entry_any (s t n : Int) (h : okP s t) (w : World) :
    Calls Try.prog 88 #[.int .i64 n, .agg #[.int .i64 s, .int .i64 t]] w fun e w' => e = .returned (.agg #[.int .i64 (n / (4 * s)), .bool (n / (2 * s) % 2 == 1), .int .i64 (n % (2 * s))]) ∧ Below w.heap.size w w' := by
  have H := Lib.hid h
  clear h
  have hst := (EntCells.start w s t).facts
  have hsd := (EntCells.start w s t).drew.facts
  go_enter Try.func88, Try.ntmps88
  go_wp2_with fail
  go_region_held3 (fun w' => w'.cell? ⟨w.heap.size, 0, none⟩ = some (.int .i64 s) ∧ w'.cell? ⟨w.heap.size, 1, none⟩ = some (.int .i64 t) ∧ EntCells w.heap.size s t w w')
    (first
      | exact hst
      | exact hsd
      | exact htc.facts
      | exact (EntCells.set htc).facts
      | exact (EntCells.set htc.drew).facts)
    ((first
      | (go_at_call 96; (try go_split_ands); (with_reducible refine (cycle_any s t n H.out _).mono ?_); rintro e wx ⟨rfl, hbx⟩; have htc := EntCells.step (by assumption) hbx; obtain ⟨u0, u1, u2, hcc⟩ := htc.2.1; obtain ⟨q0, q1, q2, f0, f1, f2⟩ := blk_three hcc)
      | (go_at_call 97; (try go_split_ands); (with_reducible refine (safe_any s t n H.out _).mono ?_); rintro e wx ⟨rfl, hbx⟩; have htc := EntCells.step (by assumption) hbx; obtain ⟨u0, u1, u2, hcc⟩ := htc.2.1; obtain ⟨q0, q1, q2, f0, f1, f2⟩ := blk_three hcc)
      | (go_at_call 98; (try go_split_ands); (with_reducible refine (index_any s t n H.out _).mono ?_); rintro e wx ⟨rfl, hbx⟩; have htc := EntCells.step (by assumption) hbx; obtain ⟨u0, u1, u2, hcc⟩ := htc.2.1; obtain ⟨q0, q1, q2, f0, f1, f2⟩ := blk_three hcc)))
  all_goals
    go_wp2
    refine bodyPost_ret (v := .agg #[.int .i64 (n / (4 * s)), .bool (n / (2 * s) % 2 == 1), .int .i64 (n % (2 * s))]) ?ret rfl ⟨rfl, (EntCells.set htc).2.2⟩
    case ret => simp [results, Try.results88, go_sem, q0, q1, q2]

/-- The plan's and the entry's cells, as two parameters in the order of the methods' receivers: the entry first. -/
def EP (B : Nat) (c i s t : Int) (b : Bool) (base w : World) : Prop :=
  w.heap[B]? = some (.cells #[.int .i64 c, .bool b, .int .i64 i] 69 (0, 0)) ∧ w.heap[B + 1]? = some (.cells #[.int .i64 s, .int .i64 t] 38 (0, 0)) ∧ Below B base w

theorem EP.step {B : Nat} {c i s t : Int} {b : Bool} {base w w' : World} (h : EP B c i s t b base w) (hb : Below w.heap.size w w') : EP B c i s t b base w' := by
  obtain ⟨h1, h2, h3⟩ := h
  exact ⟨blk_below h1 hb (blk_lt h1), blk_below h2 hb (blk_lt h2), h3.trans (hb.mono (Nat.le_of_lt (blk_lt h1)))⟩

theorem EP.drew {B : Nat} {c i s t : Int} {b : Bool} {base w : World} (h : EP B c i s t b base w) : EP B c i s t b base w.drew := ⟨h.1, h.2.1, h.2.2.drew⟩

theorem EP.start (w : World) (c i s t : Int) (b : Bool) : EP w.heap.size c i s t b w ((w.alloc (.cells #[.int .i64 c, .bool b, .int .i64 i] 69)).alloc (.cells #[.int .i64 s, .int .i64 t] 38)) :=
  ⟨blk_alloc (blk_new w _), by have := blk_new (w.alloc (.cells #[.int .i64 c, .bool b, .int .i64 i] 69)) (.cells #[.int .i64 s, .int .i64 t] 38); simpa using this, ((Below.refl _ _).alloc (Nat.le_refl _) _).alloc (by simp) _⟩

theorem EP.facts {B : Nat} {c i s t : Int} {b : Bool} {base w : World} (h : EP B c i s t b base w) : w.cell? ⟨B, 0, none⟩ = some (.int .i64 c) ∧ w.cell? ⟨B, 2, none⟩ = some (.int .i64 i) ∧ w.cell? ⟨B + 1, 0, none⟩ = some (.int .i64 s) ∧ w.cell? ⟨B + 1, 1, none⟩ = some (.int .i64 t) ∧ EP B c i s t b base w :=
  ⟨(blk_three h.1).1, (blk_three h.1).2.2.1, (blk_two h.2.1).1, (blk_two h.2.1).2.1, h⟩

theorem Below.drewN {B : Nat} {a w : World} (h : Below B a w) (n : Nat) : Below B a (w.drewN n) := h.trans ⟨rfl, rfl, rfl, Nat.le_refl _, fun _ _ => rfl⟩

def okI (s c i : Int) : Prop := 0 ≤ c ∧ c ≤ 1000000 ∧ 0 ≤ i ∧ i ≤ 2 * s - 1

instance (s c i : Int) : Decidable (okI s c i) := by unfold okI; infer_instance

def okIB (s c i : Int) : Bool := decide (okI s c i)

theorem okIB_yes {s c i : Int} (h : okI s c i) : okIB s c i = true := decide_eq_true h

theorem okIB_no {s c i : Int} (h : ¬ okI s c i) : okIB s c i = false := decide_eq_false h

set_option maxRecDepth 100000 in
set_option maxHeartbeats 2000000 in
theorem right_all (s t c i : Int) (b : Bool) (h1 : 1 ≤ s) (h2 : s ≤ 8) (hc0 : 0 ≤ c) (hc1 : c ≤ 1000000) (hi0 : 0 ≤ i) (hi1 : i ≤ 2 * s - 1) (w : World) :
    Calls Try.prog 89 #[.agg #[.int .i64 c, .bool b, .int .i64 i], .agg #[.int .i64 s, .int .i64 t]] w fun e w' => e = .returned (.bool true) ∧ Below w.heap.size w w' := by
  have d0 : decide (0 ≤ c) = true := decide_eq_true hc0
  have d1 : decide (c ≤ 1000000) = true := decide_eq_true hc1
  have d2 : decide (0 ≤ i) = true := decide_eq_true hi0
  have d3 : decide (i ≤ 2 * s - 1) = true := decide_eq_true hi1
  have hst := (EP.start w c i s t b).facts
  have hsd := (EP.start w c i s t b).drew.facts
  go_enter Try.func89, Try.ntmps89
  go_wp2_with fail
  go_region_held3 (fun w' => w'.cell? ⟨w.heap.size, 0, none⟩ = some (.int .i64 c) ∧ w'.cell? ⟨w.heap.size, 2, none⟩ = some (.int .i64 i) ∧ w'.cell? ⟨w.heap.size + 1, 0, none⟩ = some (.int .i64 s) ∧ w'.cell? ⟨w.heap.size + 1, 1, none⟩ = some (.int .i64 t) ∧ EP w.heap.size c i s t b w w')
    (first
      | exact hst
      | exact hsd
      | exact htc.facts)
    ((first
      | (go_at_call 87; (try go_split_ands); (with_reducible refine (none_any _ _ h1 h2 _).mono ?_); rintro e wx ⟨rfl, hbx⟩; have htc := EP.step (by assumption) hbx)))
  all_goals
    go_wp2
    go_ret
    (try go_split_ands)
    exact ⟨rfl, EP.step (by assumption) (Below.refl _ _) |>.2.2⟩

set_option maxRecDepth 100000 in
set_option maxHeartbeats 2000000 in
theorem right_c0 (s t c i : Int) (b : Bool) (hc0 : c < 0) (w : World) :
    Calls Try.prog 89 #[.agg #[.int .i64 c, .bool b, .int .i64 i], .agg #[.int .i64 s, .int .i64 t]] w fun e w' => e = .returned (.bool false) ∧ Below w.heap.size w w' := by
  have hd : decide (0 ≤ c) = false := decide_eq_false (by omega)
  go_enter Try.func89, Try.ntmps89
  go_wp2_with fail
  go_quiet (fail)
  go_wp2
  go_ret
  exact ⟨rfl, Below.drewN (((Below.refl _ _).alloc (Nat.le_refl _) _).alloc (by simp) _) _⟩

set_option maxRecDepth 100000 in
set_option maxHeartbeats 2000000 in
theorem right_c1 (s t c i : Int) (b : Bool) (hc0 : 0 ≤ c) (hc1 : 1000000 < c) (w : World) :
    Calls Try.prog 89 #[.agg #[.int .i64 c, .bool b, .int .i64 i], .agg #[.int .i64 s, .int .i64 t]] w fun e w' => e = .returned (.bool false) ∧ Below w.heap.size w w' := by
  have d0 : decide (0 ≤ c) = true := decide_eq_true hc0
  have hd : decide (c ≤ 1000000) = false := decide_eq_false (by omega)
  go_enter Try.func89, Try.ntmps89
  go_wp2_with fail
  go_quiet (fail)
  go_wp2
  go_ret
  exact ⟨rfl, Below.drewN (((Below.refl _ _).alloc (Nat.le_refl _) _).alloc (by simp) _) _⟩

set_option maxRecDepth 100000 in
set_option maxHeartbeats 2000000 in
theorem right_i0 (s t c i : Int) (b : Bool) (hc0 : 0 ≤ c) (hc1 : c ≤ 1000000) (hi0 : i < 0) (w : World) :
    Calls Try.prog 89 #[.agg #[.int .i64 c, .bool b, .int .i64 i], .agg #[.int .i64 s, .int .i64 t]] w fun e w' => e = .returned (.bool false) ∧ Below w.heap.size w w' := by
  have d0 : decide (0 ≤ c) = true := decide_eq_true hc0
  have d1 : decide (c ≤ 1000000) = true := decide_eq_true hc1
  have hd : decide (0 ≤ i) = false := decide_eq_false (by omega)
  go_enter Try.func89, Try.ntmps89
  go_wp2_with fail
  go_quiet (fail)
  go_wp2
  go_ret
  exact ⟨rfl, Below.drewN (((Below.refl _ _).alloc (Nat.le_refl _) _).alloc (by simp) _) _⟩

set_option maxRecDepth 100000 in
set_option maxHeartbeats 2000000 in
theorem right_i1 (s t c i : Int) (b : Bool) (h1 : 1 ≤ s) (h2 : s ≤ 8) (hc0 : 0 ≤ c) (hc1 : c ≤ 1000000) (hi0 : 0 ≤ i) (hi1 : 2 * s - 1 < i) (w : World) :
    Calls Try.prog 89 #[.agg #[.int .i64 c, .bool b, .int .i64 i], .agg #[.int .i64 s, .int .i64 t]] w fun e w' => e = .returned (.bool false) ∧ Below w.heap.size w w' := by
  have d0 : decide (0 ≤ c) = true := decide_eq_true hc0
  have d1 : decide (c ≤ 1000000) = true := decide_eq_true hc1
  have d2 : decide (0 ≤ i) = true := decide_eq_true hi0
  have hd : decide (i ≤ 2 * s - 1) = false := decide_eq_false (by omega)
  have hst := (EP.start w c i s t b).facts
  have hsd := (EP.start w c i s t b).drew.facts
  go_enter Try.func89, Try.ntmps89
  go_wp2_with fail
  go_region_held3 (fun w' => w'.cell? ⟨w.heap.size, 0, none⟩ = some (.int .i64 c) ∧ w'.cell? ⟨w.heap.size, 2, none⟩ = some (.int .i64 i) ∧ w'.cell? ⟨w.heap.size + 1, 0, none⟩ = some (.int .i64 s) ∧ w'.cell? ⟨w.heap.size + 1, 1, none⟩ = some (.int .i64 t) ∧ EP w.heap.size c i s t b w w')
    (first
      | exact hst
      | exact hsd
      | exact htc.facts)
    ((first
      | (go_at_call 87; (try go_split_ands); (with_reducible refine (none_any _ _ h1 h2 _).mono ?_); rintro e wx ⟨rfl, hbx⟩; have htc := EP.step (by assumption) hbx)))
  all_goals
    go_wp2
    go_ret
    (try go_split_ands)
    exact ⟨rfl, EP.step (by assumption) (Below.refl _ _) |>.2.2⟩

theorem right_any (s t c i : Int) (b : Bool) (h1 : 1 ≤ s) (h2 : s ≤ 8) (w : World) :
    Calls Try.prog 89 #[.agg #[.int .i64 c, .bool b, .int .i64 i], .agg #[.int .i64 s, .int .i64 t]] w fun e w' => e = .returned (.bool (okIB s c i)) ∧ Below w.heap.size w w' := by
  by_cases hc0 : c < 0
  · rw [okIB_no (fun h => by have := h.1; omega)]; exact right_c0 s t c i b hc0 w
  by_cases hc1 : 1000000 < c
  · rw [okIB_no (fun h => by have := h.2.1; omega)]; exact right_c1 s t c i b (by omega) hc1 w
  by_cases hi0 : i < 0
  · rw [okIB_no (fun h => by have := h.2.2.1; omega)]; exact right_i0 s t c i b (by omega) (by omega) hi0 w
  by_cases hi1 : 2 * s - 1 < i
  · rw [okIB_no (fun h => by have := h.2.2.2; omega)]; exact right_i1 s t c i b h1 h2 (by omega) (by omega) (by omega) hi1 w
  · rw [okIB_yes ⟨by omega, by omega, by omega, by omega⟩]; exact right_all s t c i b h1 h2 (by omega) (by omega) (by omega) (by omega) w

set_option maxRecDepth 100000 in
set_option maxHeartbeats 2000000 in
theorem word_any (s t c i : Int) (b : Bool) (h : okE s t c i) (w : World) :
    Calls Try.prog 92 #[.agg #[.int .i64 c, .bool b, .int .i64 i], .agg #[.int .i64 s, .int .i64 t]] w fun e w' => e = .returned (.int .i64 (wordD s c i b)) ∧ Below w.heap.size w w' := by
  obtain ⟨hp, c0, c1, i0, i1⟩ := h
  rcases hp.1 with rfl | rfl | rfl | rfl <;> cases b
  · have hW : wordD 1 c i false = (c * 2) * 2 + i := by simp [wordD]; omega
    have hO : Hid (bits .or .i64 (IntKind.i64.wrap ((c * 2) * 2)) i = (c * 2) * 2 + i) := Lib.hid (by rw [wraps_i64 _ (by omega) (by omega)]; exact i64_or 1 ((c * 2) * 2) i (by omega) (by omega) (by omega) (by omega) (by omega) (by omega))
    rw [hW]
    clear hW hp
    have hst := (EP.start w c i 1 t false).facts
    have hsd := (EP.start w c i 1 t false).drew.facts
    go_enter Try.func92, Try.ntmps92
    go_wp2_with fail
    go_region_held3 (fun w' => w'.cell? ⟨w.heap.size, 0, none⟩ = some (.int .i64 c) ∧ w'.cell? ⟨w.heap.size, 2, none⟩ = some (.int .i64 i) ∧ w'.cell? ⟨w.heap.size + 1, 0, none⟩ = some (.int .i64 1) ∧ w'.cell? ⟨w.heap.size + 1, 1, none⟩ = some (.int .i64 t) ∧ EP w.heap.size c i 1 t false w w')
      (first
        | exact hst
        | exact hsd
        | exact htc.facts)
      ((first
        | (go_at_call 101; (try go_split_ands); (with_reducible refine (bits_go 1 t 1 (by decide) _).mono ?_); rintro e wx ⟨rfl, hbx⟩; have htc := EP.step (by assumption) hbx)))
    all_goals
      go_wp2
      go_ret
      (try go_split_ands)
      exact ⟨ret_int hO.out, EP.step (by assumption) (Below.refl _ _) |>.2.2⟩
  · have hW : wordD 1 c i true = (c * 2 + 1) * 2 + i := by simp [wordD]; omega
    have hO : Hid (bits .or .i64 (IntKind.i64.wrap ((c * 2 + 1) * 2)) i = (c * 2 + 1) * 2 + i) := Lib.hid (by rw [wraps_i64 _ (by omega) (by omega)]; exact i64_or 1 ((c * 2 + 1) * 2) i (by omega) (by omega) (by omega) (by omega) (by omega) (by omega))
    have hP := i64_or 1 (c * 2) 1 (by omega) (by omega) (by omega) (by omega) (by omega) (by omega)
    rw [hW]
    clear hW hp
    have hst := (EP.start w c i 1 t true).facts
    have hsd := (EP.start w c i 1 t true).drew.facts
    go_enter Try.func92, Try.ntmps92
    go_wp2_with fail
    go_region_held3 (fun w' => w'.cell? ⟨w.heap.size, 0, none⟩ = some (.int .i64 c) ∧ w'.cell? ⟨w.heap.size, 2, none⟩ = some (.int .i64 i) ∧ w'.cell? ⟨w.heap.size + 1, 0, none⟩ = some (.int .i64 1) ∧ w'.cell? ⟨w.heap.size + 1, 1, none⟩ = some (.int .i64 t) ∧ EP w.heap.size c i 1 t true w w')
      (first
        | exact hst
        | exact hsd
        | exact htc.facts)
      ((first
        | (go_at_call 101; (try go_split_ands); (with_reducible refine (bits_go 1 t 1 (by decide) _).mono ?_); rintro e wx ⟨rfl, hbx⟩; have htc := EP.step (by assumption) hbx)))
    all_goals
      go_wp2
      go_ret
      (try go_split_ands)
      exact ⟨ret_int hO.out, EP.step (by assumption) (Below.refl _ _) |>.2.2⟩
  · have hW : wordD 2 c i false = (c * 2) * 4 + i := by simp [wordD]; omega
    have hO : Hid (bits .or .i64 (IntKind.i64.wrap ((c * 2) * 4)) i = (c * 2) * 4 + i) := Lib.hid (by rw [wraps_i64 _ (by omega) (by omega)]; exact i64_or 2 ((c * 2) * 4) i (by omega) (by omega) (by omega) (by omega) (by omega) (by omega))
    rw [hW]
    clear hW hp
    have hst := (EP.start w c i 2 t false).facts
    have hsd := (EP.start w c i 2 t false).drew.facts
    go_enter Try.func92, Try.ntmps92
    go_wp2_with fail
    go_region_held3 (fun w' => w'.cell? ⟨w.heap.size, 0, none⟩ = some (.int .i64 c) ∧ w'.cell? ⟨w.heap.size, 2, none⟩ = some (.int .i64 i) ∧ w'.cell? ⟨w.heap.size + 1, 0, none⟩ = some (.int .i64 2) ∧ w'.cell? ⟨w.heap.size + 1, 1, none⟩ = some (.int .i64 t) ∧ EP w.heap.size c i 2 t false w w')
      (first
        | exact hst
        | exact hsd
        | exact htc.facts)
      ((first
        | (go_at_call 101; (try go_split_ands); (with_reducible refine (bits_go 2 t 2 (by decide) _).mono ?_); rintro e wx ⟨rfl, hbx⟩; have htc := EP.step (by assumption) hbx)))
    all_goals
      go_wp2
      go_ret
      (try go_split_ands)
      exact ⟨ret_int hO.out, EP.step (by assumption) (Below.refl _ _) |>.2.2⟩
  · have hW : wordD 2 c i true = (c * 2 + 1) * 4 + i := by simp [wordD]; omega
    have hO : Hid (bits .or .i64 (IntKind.i64.wrap ((c * 2 + 1) * 4)) i = (c * 2 + 1) * 4 + i) := Lib.hid (by rw [wraps_i64 _ (by omega) (by omega)]; exact i64_or 2 ((c * 2 + 1) * 4) i (by omega) (by omega) (by omega) (by omega) (by omega) (by omega))
    have hP := i64_or 1 (c * 2) 1 (by omega) (by omega) (by omega) (by omega) (by omega) (by omega)
    rw [hW]
    clear hW hp
    have hst := (EP.start w c i 2 t true).facts
    have hsd := (EP.start w c i 2 t true).drew.facts
    go_enter Try.func92, Try.ntmps92
    go_wp2_with fail
    go_region_held3 (fun w' => w'.cell? ⟨w.heap.size, 0, none⟩ = some (.int .i64 c) ∧ w'.cell? ⟨w.heap.size, 2, none⟩ = some (.int .i64 i) ∧ w'.cell? ⟨w.heap.size + 1, 0, none⟩ = some (.int .i64 2) ∧ w'.cell? ⟨w.heap.size + 1, 1, none⟩ = some (.int .i64 t) ∧ EP w.heap.size c i 2 t true w w')
      (first
        | exact hst
        | exact hsd
        | exact htc.facts)
      ((first
        | (go_at_call 101; (try go_split_ands); (with_reducible refine (bits_go 2 t 2 (by decide) _).mono ?_); rintro e wx ⟨rfl, hbx⟩; have htc := EP.step (by assumption) hbx)))
    all_goals
      go_wp2
      go_ret
      (try go_split_ands)
      exact ⟨ret_int hO.out, EP.step (by assumption) (Below.refl _ _) |>.2.2⟩
  · have hW : wordD 4 c i false = (c * 2) * 8 + i := by simp [wordD]; omega
    have hO : Hid (bits .or .i64 (IntKind.i64.wrap ((c * 2) * 8)) i = (c * 2) * 8 + i) := Lib.hid (by rw [wraps_i64 _ (by omega) (by omega)]; exact i64_or 3 ((c * 2) * 8) i (by omega) (by omega) (by omega) (by omega) (by omega) (by omega))
    rw [hW]
    clear hW hp
    have hst := (EP.start w c i 4 t false).facts
    have hsd := (EP.start w c i 4 t false).drew.facts
    go_enter Try.func92, Try.ntmps92
    go_wp2_with fail
    go_region_held3 (fun w' => w'.cell? ⟨w.heap.size, 0, none⟩ = some (.int .i64 c) ∧ w'.cell? ⟨w.heap.size, 2, none⟩ = some (.int .i64 i) ∧ w'.cell? ⟨w.heap.size + 1, 0, none⟩ = some (.int .i64 4) ∧ w'.cell? ⟨w.heap.size + 1, 1, none⟩ = some (.int .i64 t) ∧ EP w.heap.size c i 4 t false w w')
      (first
        | exact hst
        | exact hsd
        | exact htc.facts)
      ((first
        | (go_at_call 101; (try go_split_ands); (with_reducible refine (bits_go 4 t 3 (by decide) _).mono ?_); rintro e wx ⟨rfl, hbx⟩; have htc := EP.step (by assumption) hbx)))
    all_goals
      go_wp2
      go_ret
      (try go_split_ands)
      exact ⟨ret_int hO.out, EP.step (by assumption) (Below.refl _ _) |>.2.2⟩
  · have hW : wordD 4 c i true = (c * 2 + 1) * 8 + i := by simp [wordD]; omega
    have hO : Hid (bits .or .i64 (IntKind.i64.wrap ((c * 2 + 1) * 8)) i = (c * 2 + 1) * 8 + i) := Lib.hid (by rw [wraps_i64 _ (by omega) (by omega)]; exact i64_or 3 ((c * 2 + 1) * 8) i (by omega) (by omega) (by omega) (by omega) (by omega) (by omega))
    have hP := i64_or 1 (c * 2) 1 (by omega) (by omega) (by omega) (by omega) (by omega) (by omega)
    rw [hW]
    clear hW hp
    have hst := (EP.start w c i 4 t true).facts
    have hsd := (EP.start w c i 4 t true).drew.facts
    go_enter Try.func92, Try.ntmps92
    go_wp2_with fail
    go_region_held3 (fun w' => w'.cell? ⟨w.heap.size, 0, none⟩ = some (.int .i64 c) ∧ w'.cell? ⟨w.heap.size, 2, none⟩ = some (.int .i64 i) ∧ w'.cell? ⟨w.heap.size + 1, 0, none⟩ = some (.int .i64 4) ∧ w'.cell? ⟨w.heap.size + 1, 1, none⟩ = some (.int .i64 t) ∧ EP w.heap.size c i 4 t true w w')
      (first
        | exact hst
        | exact hsd
        | exact htc.facts)
      ((first
        | (go_at_call 101; (try go_split_ands); (with_reducible refine (bits_go 4 t 3 (by decide) _).mono ?_); rintro e wx ⟨rfl, hbx⟩; have htc := EP.step (by assumption) hbx)))
    all_goals
      go_wp2
      go_ret
      (try go_split_ands)
      exact ⟨ret_int hO.out, EP.step (by assumption) (Below.refl _ _) |>.2.2⟩
  · have hW : wordD 8 c i false = (c * 2) * 16 + i := by simp [wordD]; omega
    have hO : Hid (bits .or .i64 (IntKind.i64.wrap ((c * 2) * 16)) i = (c * 2) * 16 + i) := Lib.hid (by rw [wraps_i64 _ (by omega) (by omega)]; exact i64_or 4 ((c * 2) * 16) i (by omega) (by omega) (by omega) (by omega) (by omega) (by omega))
    rw [hW]
    clear hW hp
    have hst := (EP.start w c i 8 t false).facts
    have hsd := (EP.start w c i 8 t false).drew.facts
    go_enter Try.func92, Try.ntmps92
    go_wp2_with fail
    go_region_held3 (fun w' => w'.cell? ⟨w.heap.size, 0, none⟩ = some (.int .i64 c) ∧ w'.cell? ⟨w.heap.size, 2, none⟩ = some (.int .i64 i) ∧ w'.cell? ⟨w.heap.size + 1, 0, none⟩ = some (.int .i64 8) ∧ w'.cell? ⟨w.heap.size + 1, 1, none⟩ = some (.int .i64 t) ∧ EP w.heap.size c i 8 t false w w')
      (first
        | exact hst
        | exact hsd
        | exact htc.facts)
      ((first
        | (go_at_call 101; (try go_split_ands); (with_reducible refine (bits_go 8 t 4 (by decide) _).mono ?_); rintro e wx ⟨rfl, hbx⟩; have htc := EP.step (by assumption) hbx)))
    all_goals
      go_wp2
      go_ret
      (try go_split_ands)
      exact ⟨ret_int hO.out, EP.step (by assumption) (Below.refl _ _) |>.2.2⟩
  · have hW : wordD 8 c i true = (c * 2 + 1) * 16 + i := by simp [wordD]; omega
    have hO : Hid (bits .or .i64 (IntKind.i64.wrap ((c * 2 + 1) * 16)) i = (c * 2 + 1) * 16 + i) := Lib.hid (by rw [wraps_i64 _ (by omega) (by omega)]; exact i64_or 4 ((c * 2 + 1) * 16) i (by omega) (by omega) (by omega) (by omega) (by omega) (by omega))
    have hP := i64_or 1 (c * 2) 1 (by omega) (by omega) (by omega) (by omega) (by omega) (by omega)
    rw [hW]
    clear hW hp
    have hst := (EP.start w c i 8 t true).facts
    have hsd := (EP.start w c i 8 t true).drew.facts
    go_enter Try.func92, Try.ntmps92
    go_wp2_with fail
    go_region_held3 (fun w' => w'.cell? ⟨w.heap.size, 0, none⟩ = some (.int .i64 c) ∧ w'.cell? ⟨w.heap.size, 2, none⟩ = some (.int .i64 i) ∧ w'.cell? ⟨w.heap.size + 1, 0, none⟩ = some (.int .i64 8) ∧ w'.cell? ⟨w.heap.size + 1, 1, none⟩ = some (.int .i64 t) ∧ EP w.heap.size c i 8 t true w w')
      (first
        | exact hst
        | exact hsd
        | exact htc.facts)
      ((first
        | (go_at_call 101; (try go_split_ands); (with_reducible refine (bits_go 8 t 4 (by decide) _).mono ?_); rintro e wx ⟨rfl, hbx⟩; have htc := EP.step (by assumption) hbx)))
    all_goals
      go_wp2
      go_ret
      (try go_split_ands)
      exact ⟨ret_int hO.out, EP.step (by assumption) (Below.refl _ _) |>.2.2⟩

set_option maxHeartbeats 400000 in
theorem entryOk_yes (s t c i : Int) (b : Bool) (h : okP s t) (w : World) :
    Calls Try.prog 91 #[.agg #[.int .i64 s, .int .i64 t], .agg #[.int .i64 c, .bool b, .int .i64 i]] w fun e w' => e = .returned (.bool (okIB s c i)) ∧ Below w.heap.size w w' := by
  obtain ⟨g1, g2⟩ := okP_le h
  have H := Lib.hid h
  clear h
  go_enter Try.func91, Try.ntmps91
  go_wp2_with fail
  refine (right_yes _ _ H.out _).mono ?_
  rintro e w1 ⟨rfl, hb⟩
  obtain ⟨p0, p1, -, -⟩ := blk_two (blk_below (blk_alloc (blk_new w _)) hb (by simp; omega))
  obtain ⟨q0, q1, q2, -, -, -⟩ := blk_three (blk_below (blk_new (w.alloc _) _) hb (by simp))
  simp at q0 q1 q2
  go_wp2_with fail
  refine (right_any _ _ _ _ _ g1 g2 _).mono ?_
  rintro e w2 ⟨rfl, hb2⟩
  go_wp2
  go_ret
  exact ⟨rfl, ((((Below.refl _ _).alloc (Nat.le_refl _) _).alloc (by simp) _).trans (hb.mono (by simp; omega))).trans (hb2.mono (by have := hb.size; simp at this; omega))⟩

set_option maxHeartbeats 400000 in
theorem entryOk_no (s t c i : Int) (b : Bool) (h : ¬ okP s t) (w : World) :
    Calls Try.prog 91 #[.agg #[.int .i64 s, .int .i64 t], .agg #[.int .i64 c, .bool b, .int .i64 i]] w fun e w' => e = .returned (.bool false) ∧ Below w.heap.size w w' := by
  have H := Lib.hid h
  clear h
  go_enter Try.func91, Try.ntmps91
  go_wp2_with (go_at_call 69; refine (right_no _ _ H.out _).mono ?_; rintro e w1 ⟨rfl, hb⟩; obtain ⟨hc, hf⟩ := bcell hb)
  go_ret
  exact ⟨rfl, ((((Below.refl _ _).alloc (Nat.le_refl _) _).alloc (by simp) _).trans (hb.mono (by simp; omega)))⟩

theorem iEntryOk (s t c i : Int) (b : Bool) (w : World) :
    Calls Try.prog 91 #[.agg #[.int .i64 s, .int .i64 t], .agg #[.int .i64 c, .bool b, .int .i64 i]] w fun e w' => e = .returned (.bool (okEB s t c i)) ∧ Below w.heap.size w w' := by
  by_cases h : okP s t
  · have he : okEB s t c i = okIB s c i := by
      unfold okEB okIB okE okI
      exact decide_eq_decide.mpr ⟨fun h => h.2, fun h' => ⟨h, h'⟩⟩
    rw [he]; exact entryOk_yes s t c i b h w
  · rw [okEB_no (fun h' => h h'.1)]; exact entryOk_no s t c i b h w

set_option maxHeartbeats 400000 in
theorem iWord (s t c i : Int) (b : Bool) (w : World) :
    Calls Try.prog 78 #[.agg #[.int .i64 s, .int .i64 t], .agg #[.int .i64 c, .bool b, .int .i64 i]] w fun e w' => e = .returned (.int .i64 (wordV s t c i b)) ∧ Below w.heap.size w w' := by
  have hok := iEntryOk s t c i b
  by_cases h : okE s t c i
  · rw [show wordV s t c i b = wordD s c i b from if_pos h]
    rw [okEB_yes h] at hok
    have H := Lib.hid h
    clear h
    have HK := Lib.hid hok
    clear hok
    go_enter Try.func78, Try.ntmps78
    go_wp2_with fail
    refine (HK.out _).mono ?_
    rintro e w1 ⟨rfl, hb⟩
    obtain ⟨p0, p1, -, -⟩ := blk_two (blk_below (blk_alloc (blk_new w _)) hb (by simp; omega))
    obtain ⟨q0, q1, q2, -, -, -⟩ := blk_three (blk_below (blk_new (w.alloc _) _) hb (by simp))
    simp at q0 q1 q2
    go_wp2_with fail
    refine (word_any _ _ _ _ _ H.out _).mono ?_
    rintro e w2 ⟨rfl, hb2⟩
    go_wp2
    go_ret
    exact ⟨rfl, ((((Below.refl _ _).alloc (Nat.le_refl _) _).alloc (by simp) _).trans (hb.mono (by simp; omega))).trans (hb2.mono (by have := hb.size; simp at this; omega))⟩
  · rw [show wordV s t c i b = -1 from if_neg h]
    rw [okEB_no h] at hok
    have HK := Lib.hid hok
    clear hok h
    go_enter Try.func78, Try.ntmps78
    go_wp2_with fail
    refine (HK.out _).mono ?_
    rintro e w1 ⟨rfl, hb⟩
    go_wp2
    go_ret
    exact ⟨rfl, ((((Below.refl _ _).alloc (Nat.le_refl _) _).alloc (by simp) _).trans (hb.mono (by simp; omega)))⟩

theorem okW_iff {s t n : Int} (hp : okP s t) : okW s t n ↔ okI s (n / (4 * s)) (n % (2 * s)) := by
  obtain ⟨hs, -, -⟩ := id hp
  unfold okW okI
  rcases hs with rfl | rfl | rfl | rfl
  all_goals exact ⟨fun h => ⟨by omega, h.2.2, by omega, by omega⟩, fun h => ⟨hp, by omega, h.2.1⟩⟩

set_option maxHeartbeats 1000000 in
theorem iEntryOf_no0 (s t n : Int) (h : ¬ okP s t) (w : World) :
    Calls Try.prog 76 #[.agg #[.int .i64 s, .int .i64 t], .int .i64 n] w fun e w' => e = .returned (.tuple #[.agg #[.int .i64 0, .bool false, .int .i64 0], .bool false]) ∧ Below w.heap.size w w' := by
  have HP := Lib.hid h
  clear h
  go_enter Try.func76, Try.ntmps76
  go_wp2_with fail
  refine (right_no _ _ HP.out _).mono ?_
  rintro e w1 ⟨rfl, hb⟩
  obtain ⟨q0, q1, q2, e0, e1, e2⟩ := blk_three (blk_below (blk_new (w.alloc _) _) hb (by simp))
  simp at q0 q1 q2 e0 e1 e2
  go_wp2
  refine bodyPost_ret ?ret rfl ⟨rfl, ?bel⟩
  case ret => simp [results, Try.results76, go_sem, q0, q1, q2]
  case bel => exact ((((((Below.refl w.heap.size w).alloc (Nat.le_refl _) _).alloc (by simp) _).trans (hb.mono (by simp; omega))).setCell (by simp) _).setCell (by simp) _).setCell (by simp) _

set_option maxHeartbeats 1000000 in
theorem iEntryOf_go (s t n : Int) (h : okP s t) (z : Bool) (hz : okIB s (n / (4 * s)) (n % (2 * s)) = z) (w : World) :
    Calls Try.prog 76 #[.agg #[.int .i64 s, .int .i64 t], .int .i64 n] w fun e w' => e = .returned (if z then entD s n else .tuple #[.agg #[.int .i64 0, .bool false, .int .i64 0], .bool false]) ∧ Below w.heap.size w w' := by
  obtain ⟨g1, g2⟩ := okP_le h
  have HP := Lib.hid h
  clear h
  have HZ := Lib.hid hz
  clear hz
  go_enter Try.func76, Try.ntmps76
  go_wp2_with fail
  refine (right_yes _ _ HP.out _).mono ?_
  rintro e w1 ⟨rfl, hb⟩
  have P1 := Lib.hid (blk_below (blk_alloc (blk_new w _)) hb (by simp; omega))
  have R1 := Lib.hid (blk_below (blk_new (w.alloc _) _) hb (by simp))
  simp at R1
  have z1 := hb.size
  simp at z1
  have HB1 := Lib.hid ((((Below.refl w.heap.size w).alloc (Nat.le_refl _) _).alloc (by simp) _).trans (hb.mono (by simp; omega)))
  clear hb
  obtain ⟨p0, p1, -, -⟩ := blk_two P1.out
  go_wp2_with fail
  refine (entry_any s t n HP.out _).mono ?_
  rintro e w2 ⟨rfl, hb2⟩
  have z2 := hb2.size
  have P2 := Lib.hid (blk_below P1.out hb2 (by omega))
  have R2 := Lib.hid (blk_below R1.out hb2 (by omega))
  have HB2 := Lib.hid (HB1.out.trans (hb2.mono (by omega)))
  clear hb2 P1 R1 HB1 p0 p1
  obtain ⟨p0, p1, -, -⟩ := blk_two P2.out
  have y2 : w.heap.size < w2.heap.size := by omega
  go_wp2_with fail
  refine (right_any _ _ _ _ _ g1 g2 _).mono ?_
  rintro e w3 ⟨rfl, hb3⟩
  rw [HZ.out]
  have z3 := hb3.size
  simp at z3
  have R3 := Lib.hid (blk_below (blk_alloc R2.out) hb3 (by simp; omega))
  have E3 := Lib.hid (blk_below (blk_new w2 _) hb3 (by simp))
  have HB3 := Lib.hid ((HB2.out.alloc (by omega) _).trans (hb3.mono (by simp; omega)))
  clear hb3 R2 P2 HB2 p0 p1
  obtain ⟨q0, q1, q2, e0, e1, e2⟩ := blk_three R3.out
  obtain ⟨x0, x1, x2, -, -, -⟩ := blk_three E3.out
  have y3 : w2.heap.size < w3.heap.size := by omega
  cases z
  all_goals
    go_wp2
    refine bodyPost_ret ?ret rfl ⟨rfl, ?bel⟩
    case ret => simp [results, Try.results76, go_sem, q0, q1, q2, entD]
    case bel => exact ((HB3.out.setCell (by simp) _).setCell (by simp) _).setCell (by simp) _

theorem iEntryOf (s t n : Int) (hn : W64 n) (w : World) :
    Calls Try.prog 76 #[.agg #[.int .i64 s, .int .i64 t], .int .i64 n] w fun e w' => e = .returned (.tuple #[.agg #[.int .i64 (entC s t n), .bool (entS s t n), .int .i64 (entI s t n)], .bool (okWB s t n)]) ∧ Below w.heap.size w w' := by
  by_cases h : okP s t
  · by_cases hw : okW s t n
    · rw [show entC s t n = _ from if_pos hw, show entS s t n = _ from if_pos hw, show entI s t n = _ from if_pos hw, show okWB s t n = true from decide_eq_true hw]
      exact iEntryOf_go s t n h true (okIB_yes ((okW_iff h).mp hw)) w
    · rw [show entC s t n = _ from if_neg hw, show entS s t n = _ from if_neg hw, show entI s t n = _ from if_neg hw, show okWB s t n = false from decide_eq_false hw]
      exact iEntryOf_go s t n h false (okIB_no (fun hx => hw ((okW_iff h).mpr hx))) w
  · have hw : ¬ okW s t n := fun hx => h hx.1
    rw [show entC s t n = _ from if_neg hw, show entS s t n = _ from if_neg hw, show entI s t n = _ from if_neg hw, show okWB s t n = false from decide_eq_false hw]
    exact iEntryOf_no0 s t n h w

end Go.Proofs.Ytdpahikbikiilaa
