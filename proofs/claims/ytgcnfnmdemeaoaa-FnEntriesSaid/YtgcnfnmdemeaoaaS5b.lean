/- The model of the entries: what is taken, left, emptied. -/
import Derived.Test.YtgcnfnmdemeaoaaS5
namespace Go.Proofs.Ytgcnfnmdemeaoaa
open Go.RowKit

theorem cycE {s t k : Int} : cycV s t k = if okT s t k then cycD s k else -1 := rfl

def okTI (s t k i : Int) : Prop := okT s t k ∧ 0 ≤ i ∧ i ≤ 2 * s - 1

instance (s t k i : Int) : Decidable (okTI s t k i) := by unfold okTI; infer_instance

def tbC (s t k i : Int) : Int := if okTI s t k i then cycD s k else 0

def tbB (s t k i : Int) : Bool := if okTI s t k i then true else false

def tbI (s t k i : Int) : Int := if okTI s t k i then i else 0

theorem okE_taken {s t k i : Int} : okE s t (cycV s t k) i ↔ okTI s t k i := by
  constructor
  · intro h
    obtain ⟨hp, c0, c1, i0, i1⟩ := h
    by_cases hT : okT s t k
    · exact ⟨hT, i0, i1⟩
    · rw [show cycV s t k = -1 from if_neg hT] at c0; omega
  · intro h
    obtain ⟨hT, i0, i1⟩ := h
    obtain ⟨c0, c1⟩ := cyc_w64 hT
    rw [show cycV s t k = cycD s k from if_pos hT]
    exact ⟨hT.1, c0, c1, i0, i1⟩

set_option maxHeartbeats 1000000 in
theorem takenBy_go (s t k i : Int) (z : Bool) (hz : okEB s t (cycV s t k) i = z) (w : World) :
    Calls Try.prog 33 #[.agg #[.int .i64 s, .int .i64 t], .int .i64 k, .int .i64 i] w fun e w' => e = .returned (if z then .agg #[.int .i64 (cycV s t k), .bool true, .int .i64 i] else .agg #[.int .i64 0, .bool false, .int .i64 0]) ∧ Below w.heap.size w w' := by
  have HZ := Lib.hid hz
  clear hz
  go_enter Try.func33, Try.ntmps33
  go_wp2_with fail
  refine (specCyc _ _ _ _).mono ?_
  rintro e w1 ⟨rfl, hb⟩
  have z1 := hb.size
  simp at z1
  have P1 := Lib.hid (blk_below (blk_alloc (blk_new w _)) hb (by simp; omega))
  have R1 := Lib.hid (blk_below (blk_new (w.alloc _) _) hb (by simp))
  simp at R1
  have HB1 := Lib.hid ((((Below.refl w.heap.size w).alloc (Nat.le_refl _) _).alloc (by simp) _).trans (hb.mono (by simp; omega)))
  clear hb
  obtain ⟨p0, p1, -, -⟩ := blk_two P1.out
  have y1 : w.heap.size < w1.heap.size := by omega
  go_wp2_with fail
  refine (specEntryOk _ _ _ _ _ _).mono ?_
  rintro e w2 ⟨rfl, hb2⟩
  rw [HZ.out]
  have z2 := hb2.size
  simp at z2
  have R2 := Lib.hid (blk_below (blk_alloc R1.out) hb2 (by simp; omega))
  have E2 := Lib.hid (blk_below (blk_new w1 _) hb2 (by simp))
  have HB2 := Lib.hid ((HB1.out.alloc (by omega) _).trans (hb2.mono (by simp; omega)))
  clear hb2 R1 P1 HB1 p0 p1
  obtain ⟨q0, q1, q2, e0, e1, e2⟩ := blk_three R2.out
  obtain ⟨x0, x1, x2, -, -, -⟩ := blk_three E2.out
  have y2 : w1.heap.size < w2.heap.size := by omega
  cases z
  all_goals
    go_wp2
    refine bodyPost_ret ?ret rfl ⟨rfl, ?bel⟩
    case ret => simp [results, Try.results33, go_sem, q0, q1, q2]
    case bel => exact ((HB2.out.setCell (by simp) _).setCell (by simp) _).setCell (by simp) _

theorem specTakenBy (s t k i : Int) (w : World) :
    Calls Try.prog 33 #[.agg #[.int .i64 s, .int .i64 t], .int .i64 k, .int .i64 i] w fun e w' => e = .returned (.agg #[.int .i64 (tbC s t k i), .bool (tbB s t k i), .int .i64 (tbI s t k i)]) ∧ Below w.heap.size w w' := by
  by_cases h : okTI s t k i
  · rw [show tbC s t k i = cycD s k from if_pos h, show tbB s t k i = true from if_pos h, show tbI s t k i = i from if_pos h]
    have := takenBy_go s t k i true (okEB_yes (okE_taken.mpr h)) w
    rwa [show cycV s t k = cycD s k from if_pos h.1] at this
  · rw [show tbC s t k i = 0 from if_neg h, show tbB s t k i = false from if_neg h, show tbI s t k i = 0 from if_neg h]
    exact takenBy_go s t k i false (okEB_no (fun hx => h (okE_taken.mp hx))) w

def lbC (s t c i k : Int) : Int := if okEK s t c i k then (if i = 2 * s - 1 then cycD s k else c) else 0

def lbB (s t c i k : Int) (b : Bool) : Bool := if okEK s t c i k then (if i = 2 * s - 1 then b else false) else false

def lbI (s t c i k : Int) : Int := if okEK s t c i k then i else 0

/-- A plan, an entry and an entry that is to be answered in a call's first three blocks. -/
def PEE (B : Nat) (s t c i : Int) (b : Bool) (base w : World) : Prop :=
  w.heap[B]? = some (.cells #[.int .i64 s, .int .i64 t] 25 (0, 0)) ∧ w.heap[B + 1]? = some (.cells #[.int .i64 c, .bool b, .int .i64 i] 38 (0, 0)) ∧ w.heap[B + 1 + 1]? = some (.cells #[.int .i64 0, .bool false, .int .i64 0] 38 (0, 0)) ∧ Below B base w

theorem PEE.step {B : Nat} {s t c i : Int} {b : Bool} {base w w' : World} (h : PEE B s t c i b base w) (hb : Below w.heap.size w w') : PEE B s t c i b base w' :=
  ⟨blk_below h.1 hb (blk_lt h.1), blk_below h.2.1 hb (blk_lt h.2.1), blk_below h.2.2.1 hb (blk_lt h.2.2.1), h.2.2.2.trans (hb.mono (Nat.le_of_lt (blk_lt h.1)))⟩

theorem PEE.drew {B : Nat} {s t c i : Int} {b : Bool} {base w : World} (h : PEE B s t c i b base w) : PEE B s t c i b base w.drew := ⟨h.1, h.2.1, h.2.2.1, h.2.2.2.drew⟩

theorem PEE.start (w : World) (s t c i : Int) (b : Bool) : PEE w.heap.size s t c i b w (((w.alloc (.cells #[.int .i64 s, .int .i64 t] 25)).alloc (.cells #[.int .i64 c, .bool b, .int .i64 i] 38)).alloc (.cells #[.int .i64 0, .bool false, .int .i64 0] 38)) := by
  have h := PE.start w s t c i b
  refine ⟨blk_alloc h.1, blk_alloc h.2.1, ?_, h.2.2.alloc (by simp; omega) _⟩
  have := blk_new ((w.alloc (.cells #[.int .i64 s, .int .i64 t] 25)).alloc (.cells #[.int .i64 c, .bool b, .int .i64 i] 38)) (.cells #[.int .i64 0, .bool false, .int .i64 0] 38)
  simpa using this

theorem PEE.facts {B : Nat} {s t c i : Int} {b : Bool} {base w : World} (h : PEE B s t c i b base w) : w.cell? ⟨B, 0, none⟩ = some (.int .i64 s) ∧ w.cell? ⟨B, 1, none⟩ = some (.int .i64 t) ∧ w.cell? ⟨B + 1, 0, none⟩ = some (.int .i64 c) ∧ w.cell? ⟨B + 1, 1, none⟩ = some (.bool b) ∧ w.cell? ⟨B + 1, 2, none⟩ = some (.int .i64 i) ∧ PEE B s t c i b base w :=
  ⟨(blk_two h.1).1, (blk_two h.1).2.1, (blk_three h.2.1).1, (blk_three h.2.1).2.1, (blk_three h.2.1).2.2.1, h⟩

/-- The cells that are written: of the entry and of the answer. -/
theorem PEE.free {B : Nat} {s t c i : Int} {b : Bool} {base w : World} (h : PEE B s t c i b base w) : w.frozen? ⟨B + 1, 0, none⟩ = false ∧ w.frozen? ⟨B + 1, 1, none⟩ = false ∧ w.frozen? ⟨B + 1, 2, none⟩ = false ∧ w.cell? ⟨B + 1 + 1, 0, none⟩ = some (.int .i64 0) ∧ w.cell? ⟨B + 1 + 1, 1, none⟩ = some (.bool false) ∧ w.cell? ⟨B + 1 + 1, 2, none⟩ = some (.int .i64 0) ∧ w.frozen? ⟨B + 1 + 1, 0, none⟩ = false ∧ w.frozen? ⟨B + 1 + 1, 1, none⟩ = false ∧ w.frozen? ⟨B + 1 + 1, 2, none⟩ = false ∧ B + 1 + 1 < w.heap.size :=
  ⟨(blk_three h.2.1).2.2.2.1, (blk_three h.2.1).2.2.2.2.1, (blk_three h.2.1).2.2.2.2.2, (blk_three h.2.2.1).1, (blk_three h.2.2.1).2.1, (blk_three h.2.2.1).2.2.1, (blk_three h.2.2.1).2.2.2.1, (blk_three h.2.2.1).2.2.2.2.1, (blk_three h.2.2.1).2.2.2.2.2, blk_lt h.2.2.1⟩

set_option maxRecDepth 100000 in
set_option maxHeartbeats 2000000 in
theorem leftBy_a (s t c i k : Int) (b : Bool) (h : okEK s t c i k) (hi : i = 2 * s - 1) (w : World) :
    Calls Try.prog 35 #[.agg #[.int .i64 s, .int .i64 t], .agg #[.int .i64 c, .bool b, .int .i64 i], .int .i64 k] w fun e w' => e = .returned (.agg #[.int .i64 (cycD s k), .bool b, .int .i64 i]) ∧ Below w.heap.size w w' := by
  obtain ⟨hE, hK⟩ := h
  have hp := hE.1
  have HE := Lib.hid hE
  have HK := Lib.hid hK
  have HCY := Lib.hid (specCyc_yes s t k ⟨hp, hK⟩)
  have HNO := Lib.hid (specNone_yes s t hp)
  obtain ⟨M, hM⟩ : ∃ M, M = 2 * s - 1 := ⟨_, rfl⟩
  rw [← hM] at HNO
  generalize cycD s k = Y at *
  have hd : (i == M) = true := by simp; omega
  clear hE hK hp hM hi
  have HQ := Lib.hid (PEE.start w s t c i b)
  go_enter Try.func35, Try.ntmps35
  go_wp2_with (first | (go_at_call 71; (with_reducible refine (specEntryOk_yes _ _ _ _ _ HE.out _).mono ?_); rintro e w1 ⟨rfl, hb⟩; have HQ1 := Lib.hid (HQ.out.step hb); clear hb HQ; obtain ⟨q0, q1, q2, q3, q4, -⟩ := HQ1.out.facts) | (go_at_call 59; (with_reducible refine (specTicket_yes _ HK.out _).mono ?_); rintro e w' ⟨rfl, rfl⟩))
  go_region_held3 (fun w' => w'.cell? ⟨w.heap.size, 0, none⟩ = some (.int .i64 s) ∧ w'.cell? ⟨w.heap.size, 1, none⟩ = some (.int .i64 t) ∧ w'.cell? ⟨w.heap.size + 1, 0, none⟩ = some (.int .i64 c) ∧ w'.cell? ⟨w.heap.size + 1, 1, none⟩ = some (.bool b) ∧ w'.cell? ⟨w.heap.size + 1, 2, none⟩ = some (.int .i64 i) ∧ PEE w.heap.size s t c i b w w')
    (first | exact HQ1.out.facts | exact HQ1.out.drew.facts | exact htc.facts)
    ((first | (go_at_call 72; (try go_split_ands); (with_reducible refine (HNO.out _).mono ?_); rintro e w2 ⟨rfl, hb2⟩; have htc := PEE.step (by assumption) hb2)))
  clear q0 q1 q2 q3 q4 HQ1
  have HQ2 := Lib.hid htc
  (try go_split_ands)
  clear htc
  obtain ⟨q0, q1, q2, q3, q4, -⟩ := HQ2.out.facts
  go_wp2_with fail
  refine (HCY.out _).mono ?_
  rintro e w3 ⟨rfl, hb3⟩
  have HQ3 := Lib.hid (HQ2.out.step hb3)
  clear hb3 q0 q1 q2 q3 q4 HQ2
  obtain ⟨q0, q1, q2, q3, q4, -⟩ := HQ3.out.facts
  obtain ⟨f0, f1, f2, r0, r1, r2, g0, g1, g2, y3⟩ := HQ3.out.free
  go_wp2
  refine bodyPost_ret ?ret rfl ⟨rfl, ?bel⟩
  case ret => simp [results, Try.results35, go_sem, r0, r1, r2]
  case bel => exact (((HQ3.out.2.2.2.setCell (by simp) _).setCell (by simp; omega) _).setCell (by simp; omega) _).setCell (by simp; omega) _

set_option maxRecDepth 100000 in
set_option maxHeartbeats 2000000 in
theorem leftBy_b (s t c i k : Int) (b : Bool) (h : okEK s t c i k) (hi : ¬ i = 2 * s - 1) (w : World) :
    Calls Try.prog 35 #[.agg #[.int .i64 s, .int .i64 t], .agg #[.int .i64 c, .bool b, .int .i64 i], .int .i64 k] w fun e w' => e = .returned (.agg #[.int .i64 c, .bool false, .int .i64 i]) ∧ Below w.heap.size w w' := by
  obtain ⟨hE, hK⟩ := h
  have hp := hE.1
  have HE := Lib.hid hE
  have HK := Lib.hid hK
  have HCY := Lib.hid (specCyc_yes s t k ⟨hp, hK⟩)
  have HNO := Lib.hid (specNone_yes s t hp)
  obtain ⟨M, hM⟩ : ∃ M, M = 2 * s - 1 := ⟨_, rfl⟩
  rw [← hM] at HNO
  have hd : (i == M) = false := by simp; omega
  clear hE hK hp hM hi HCY
  have HQ := Lib.hid (PEE.start w s t c i b)
  go_enter Try.func35, Try.ntmps35
  go_wp2_with (first | (go_at_call 71; (with_reducible refine (specEntryOk_yes _ _ _ _ _ HE.out _).mono ?_); rintro e w1 ⟨rfl, hb⟩; have HQ1 := Lib.hid (HQ.out.step hb); clear hb HQ; obtain ⟨q0, q1, q2, q3, q4, -⟩ := HQ1.out.facts) | (go_at_call 59; (with_reducible refine (specTicket_yes _ HK.out _).mono ?_); rintro e w' ⟨rfl, rfl⟩))
  go_region_held3 (fun w' => w'.cell? ⟨w.heap.size, 0, none⟩ = some (.int .i64 s) ∧ w'.cell? ⟨w.heap.size, 1, none⟩ = some (.int .i64 t) ∧ w'.cell? ⟨w.heap.size + 1, 0, none⟩ = some (.int .i64 c) ∧ w'.cell? ⟨w.heap.size + 1, 1, none⟩ = some (.bool b) ∧ w'.cell? ⟨w.heap.size + 1, 2, none⟩ = some (.int .i64 i) ∧ PEE w.heap.size s t c i b w w')
    (first | exact HQ1.out.facts | exact HQ1.out.drew.facts | exact htc.facts)
    ((first | (go_at_call 72; (try go_split_ands); (with_reducible refine (HNO.out _).mono ?_); rintro e w2 ⟨rfl, hb2⟩; have htc := PEE.step (by assumption) hb2)))
  clear q0 q1 q2 q3 q4 HQ1
  have HQ2 := Lib.hid htc
  (try go_split_ands)
  clear htc
  obtain ⟨q0, q1, q2, q3, q4, -⟩ := HQ2.out.facts
  obtain ⟨f0, f1, f2, r0, r1, r2, g0, g1, g2, y3⟩ := HQ2.out.free
  go_wp2
  refine bodyPost_ret ?ret rfl ⟨rfl, ?bel⟩
  case ret => simp [results, Try.results35, go_sem, r0, r1, r2]
  case bel => exact (((HQ2.out.2.2.2.setCell (by simp) _).setCell (by simp; omega) _).setCell (by simp; omega) _).setCell (by simp; omega) _

set_option maxHeartbeats 1000000 in
theorem leftBy_no (s t c i k : Int) (b : Bool) (h : ¬ okEK s t c i k) (w : World) :
    Calls Try.prog 35 #[.agg #[.int .i64 s, .int .i64 t], .agg #[.int .i64 c, .bool b, .int .i64 i], .int .i64 k] w fun e w' => e = .returned (.agg #[.int .i64 0, .bool false, .int .i64 0]) ∧ Below w.heap.size w w' := by
  have HQ := Lib.hid (PEE.start w s t c i b)
  by_cases hE : okE s t c i
  · have HK := Lib.hid (fun hx => h ⟨hE, hx⟩ : ¬ okK k)
    have HE := Lib.hid hE
    clear h hE
    go_enter Try.func35, Try.ntmps35
    go_wp2_with (first | (go_at_call 71; (with_reducible refine (specEntryOk_yes _ _ _ _ _ HE.out _).mono ?_); rintro e w1 ⟨rfl, hb⟩; have HQ1 := Lib.hid (HQ.out.step hb); clear hb HQ; obtain ⟨f0, f1, f2, r0, r1, r2, g0, g1, g2, y3⟩ := HQ1.out.free) | (go_at_call 59; (with_reducible refine (specTicket_no _ HK.out _).mono ?_); rintro e w' ⟨rfl, rfl⟩))
    refine bodyPost_ret ?ret rfl ⟨rfl, ?bel⟩
    case ret => simp [results, Try.results35, go_sem, r0, r1, r2]
    case bel => exact ((HQ1.out.2.2.2.setCell (by simp; omega) _).setCell (by simp; omega) _).setCell (by simp; omega) _
  · have HE := Lib.hid hE
    clear h hE
    go_enter Try.func35, Try.ntmps35
    go_wp2_with ((go_at_call 71; (with_reducible refine (specEntryOk_no _ _ _ _ _ HE.out _).mono ?_); rintro e w1 ⟨rfl, hb⟩; have HQ1 := Lib.hid (HQ.out.step hb); clear hb HQ; obtain ⟨f0, f1, f2, r0, r1, r2, g0, g1, g2, y3⟩ := HQ1.out.free))
    refine bodyPost_ret ?ret rfl ⟨rfl, ?bel⟩
    case ret => simp [results, Try.results35, go_sem, r0, r1, r2]
    case bel => exact ((HQ1.out.2.2.2.setCell (by simp; omega) _).setCell (by simp; omega) _).setCell (by simp; omega) _

theorem specLeftBy (s t c i k : Int) (b : Bool) (w : World) :
    Calls Try.prog 35 #[.agg #[.int .i64 s, .int .i64 t], .agg #[.int .i64 c, .bool b, .int .i64 i], .int .i64 k] w fun e w' => e = .returned (.agg #[.int .i64 (lbC s t c i k), .bool (lbB s t c i k b), .int .i64 (lbI s t c i k)]) ∧ Below w.heap.size w w' := by
  by_cases h : okEK s t c i k
  · rw [show lbI s t c i k = i from if_pos h]
    by_cases hi : i = 2 * s - 1
    · rw [show lbC s t c i k = cycD s k from (if_pos h).trans (if_pos hi), show lbB s t c i k b = b from (if_pos h).trans (if_pos hi)]; exact leftBy_a s t c i k b h hi w
    · rw [show lbC s t c i k = c from (if_pos h).trans (if_neg hi), show lbB s t c i k b = false from (if_pos h).trans (if_neg hi)]; exact leftBy_b s t c i k b h hi w
  · rw [show lbC s t c i k = 0 from if_neg h, show lbB s t c i k b = false from if_neg h, show lbI s t c i k = 0 from if_neg h]; exact leftBy_no s t c i k b h w

def emC (s t c i : Int) : Int := if okE s t c i then c else 0

def emB (s t c i : Int) (b : Bool) : Bool := if okE s t c i then b else false

def emI (s t c i : Int) : Int := if okE s t c i then 2 * s - 1 else 0

set_option maxHeartbeats 1000000 in
theorem specEmptied (s t c i : Int) (b : Bool) (w : World) :
    Calls Try.prog 37 #[.agg #[.int .i64 s, .int .i64 t], .agg #[.int .i64 c, .bool b, .int .i64 i]] w fun e w' => e = .returned (.agg #[.int .i64 (emC s t c i), .bool (emB s t c i b), .int .i64 (emI s t c i)]) ∧ Below w.heap.size w w' := by
  have HQ := Lib.hid (PEE.start w s t c i b)
  by_cases h : okE s t c i
  · rw [show emC s t c i = c from if_pos h, show emB s t c i b = b from if_pos h, show emI s t c i = 2 * s - 1 from if_pos h]
    have HE := Lib.hid h
    have HNO := Lib.hid (specNone_yes s t h.1)
    clear h
    go_enter Try.func37, Try.ntmps37
    go_wp2_with fail
    refine (specEntryOk_yes _ _ _ _ _ HE.out _).mono ?_
    rintro e w1 ⟨rfl, hb⟩
    have HQ1 := Lib.hid (HQ.out.step hb)
    clear hb HQ
    obtain ⟨q0, q1, q2, q3, q4, -⟩ := HQ1.out.facts
    go_wp2_with fail
    refine (HNO.out _).mono ?_
    rintro e w2 ⟨rfl, hb2⟩
    have HQ2 := Lib.hid (HQ1.out.step hb2)
    clear hb2 HQ1 q0 q1 q2 q3 q4
    obtain ⟨q0, q1, q2, q3, q4, -⟩ := HQ2.out.facts
    obtain ⟨f0, f1, f2, r0, r1, r2, g0, g1, g2, y3⟩ := HQ2.out.free
    go_wp2
    refine bodyPost_ret ?ret rfl ⟨rfl, ?bel⟩
    case ret => simp [results, Try.results37, go_sem, r0, r1, r2]
    case bel => exact (((HQ2.out.2.2.2.setCell (by simp) _).setCell (by simp; omega) _).setCell (by simp; omega) _).setCell (by simp; omega) _
  · rw [show emC s t c i = 0 from if_neg h, show emB s t c i b = false from if_neg h, show emI s t c i = 0 from if_neg h]
    have HE := Lib.hid h
    clear h
    go_enter Try.func37, Try.ntmps37
    go_wp2_with fail
    refine (specEntryOk_no _ _ _ _ _ HE.out _).mono ?_
    rintro e w1 ⟨rfl, hb⟩
    have HQ1 := Lib.hid (HQ.out.step hb)
    clear hb HQ
    obtain ⟨f0, f1, f2, r0, r1, r2, g0, g1, g2, y3⟩ := HQ1.out.free
    go_wp2
    refine bodyPost_ret ?ret rfl ⟨rfl, ?bel⟩
    case ret => simp [results, Try.results37, go_sem, r0, r1, r2]
    case bel => exact ((HQ1.out.2.2.2.setCell (by simp; omega) _).setCell (by simp; omega) _).setCell (by simp; omega) _

end Go.Proofs.Ytgcnfnmdemeaoaa
