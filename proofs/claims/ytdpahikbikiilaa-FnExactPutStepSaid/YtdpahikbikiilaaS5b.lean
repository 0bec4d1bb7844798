/- The model of the entries: what is taken, left, emptied. -/
import Derived.Test.YtdpahikbikiilaaS5
namespace Go.Proofs.Ytdpahikbikiilaa
open Go.RowKit

theorem cycE {s t k : Int} : cycV s t k = if okT s t k then cycD s k else -1 := rfl

def okTI (s t k i : Int) : Prop := okT s t k ∧ 0 ≤ i ∧ i ≤ 2 * s - 1

instance (s t k i : Int) : Decidable (okTI s t k i) := by unfold okTI; infer_instance

def tbC (s t k i : Int) : Int := if okTI s t k i then cycD s k else 0

def tbB (s t k i : Int) : Bool := if okTI s t k i then true else false

def tbI (s t k i : Int) : Int := if okTI s t k i then i else 0

theorem okE_taken {s t k i : Int} : okE s t (cycV s t k) i ↔ okTI s t k i := by
  constructor
  · intro h
    obtain ⟨hp, c0, c1, i0, i1⟩ := h
    by_cases hT : okT s t k
    · exact ⟨hT, i0, i1⟩
    · rw [show cycV s t k = -1 from if_neg hT] at c0; omega
  · intro h
    obtain ⟨hT, i0, i1⟩ := h
    obtain ⟨c0, c1⟩ := cyc_w64 hT
    rw [show cycV s t k = cycD s k from if_pos hT]
    exact ⟨hT.1, c0, c1, i0, i1⟩

set_option maxHeartbeats 1000000 in
theorem takenBy_go (s t k i : Int) (z : Bool) (hz : okEB s t (cycV s t k) i = z) (w : World) :
    Calls Try.prog 50 #[.agg #[.int .i64 s, .int .i64 t], .int .i64 k, .int .i64 i] w fun e w' => e = .returned (if z then .agg #[.int .i64 (cycV s t k), .bool true, .int .i64 i] else .agg #[.int .i64 0, .bool false, .int .i64 0]) ∧ Below w.heap.size w w' := by
  have HZ := Lib.hid hz
  clear hz
  go_enter Try.func50, Try.ntmps50
  go_wp2_with fail
  refine (specCyc _ _ _ _).mono ?_
  rintro e w1 ⟨rfl, hb⟩
  have z1 := hb.size
  simp at z1
  have P1 := Lib.hid (blk_below (blk_alloc (blk_new w _)) hb (by simp; omega))
  have R1 := Lib.hid (blk_below (blk_new (w.alloc _) _) hb (by simp))
  simp at R1
  have HB1 := Lib.hid ((((Below.refl w.heap.size w).alloc (Nat.le_refl _) _).alloc (by simp) _).trans (hb.mono (by simp; omega)))
  clear hb
  obtain ⟨p0, p1, -, -⟩ := blk_two P1.out
  have y1 : w.heap.size < w1.heap.size := by omega
  go_wp2_with fail
  refine (specEntryOk _ _ _ _ _ _).mono ?_
  rintro e w2 ⟨rfl, hb2⟩
  rw [HZ.out]
  have z2 := hb2.size
  simp at z2
  have R2 := Lib.hid (blk_below (blk_alloc R1.out) hb2 (by simp; omega))
  have E2 := Lib.hid (blk_below (blk_new w1 _) hb2 (by simp))
  have HB2 := Lib.hid ((HB1.out.alloc (by omega) _).trans (hb2.mono (by simp; omega)))
  clear hb2 R1 P1 HB1 p0 p1
  obtain ⟨q0, q1, q2, e0, e1, e2⟩ := blk_three R2.out
  obtain ⟨x0, x1, x2, -, -, -⟩ := blk_three E2.out
  have y2 : w1.heap.size < w2.heap.size := by omega
  cases z
  all_goals
    go_wp2
    refine bodyPost_ret ?ret rfl ⟨rfl, ?bel⟩
    case ret => simp [results, Try.results50, go_sem, q0, q1, q2]
    case bel => exact ((HB2.out.setCell (by simp) _).setCell (by simp) _).setCell (by simp) _

theorem specTakenBy (s t k i : Int) (w : World) :
    Calls Try.prog 50 #[.agg #[.int .i64 s, .int .i64 t], .int .i64 k, .int .i64 i] w fun e w' => e = .returned (.agg #[.int .i64 (tbC s t k i), .bool (tbB s t k i), .int .i64 (tbI s t k i)]) ∧ Below w.heap.size w w' := by
  by_cases h : okTI s t k i
  · rw [show tbC s t k i = cycD s k from if_pos h, show tbB s t k i = true from if_pos h, show tbI s t k i = i from if_pos h]
    have := takenBy_go s t k i true (okEB_yes (okE_taken.mpr h)) w
    rwa [show cycV s t k = cycD s k from if_pos h.1] at this
  · rw [show tbC s t k i = 0 from if_neg h, show tbB s t k i = false from if_neg h, show tbI s t k i = 0 from if_neg h]
    exact takenBy_go s t k i false (okEB_no (fun hx => h (okE_taken.mp hx))) w

def lbC (s t c i k : Int) : Int := if okEK s t c i k then (if i = 2 * s - 1 then cycD s k else c) else 0

def lbB (s t c i k : Int) (b : Bool) : Bool := if okEK s t c i k then (if i = 2 * s - 1 then b else false) else false

def lbI (s t c i k : Int) : Int := if okEK s t c i k then i else 0

/-- A plan, an entry and an entry that is to be answered in a call's first three blocks. -/
def PEE (B : Nat) (s t c i : Int) (b : Bool) (base w : World) : Prop :=
  w.heap[B]? = some (.cells #[.int .i64 s, .int .i64 t] 38 (0, 0)) ∧ w.heap[B + 1]? = some (.cells #[.int .i64 c, .bool b, .int .i64 i] 69 (0, 0)) ∧ w.heap[B + 1 + 1]? = some (.cells #[.int .i64 0, .bool false, .int .i64 0] 69 (0, 0)) ∧ Below B base w

theorem PEE.step {B : Nat} {s t c i : Int} {b : Bool} {base w w' : World} (h : PEE B s t c i b base w) (hb : Below w.heap.size w w') : PEE B s t c i b base w' :=
  ⟨blk_below h.1 hb (blk_lt h.1), blk_below h.2.1 hb (blk_lt h.2.1), blk_below h.2.2.1 hb (blk_lt h.2.2.1), h.2.2.2.trans (hb.mono (Nat.le_of_lt (blk_lt h.1)))⟩

theorem PEE.drew {B : Nat} {s t c i : Int} {b : Bool} {base w : World} (h : PEE B s t c i b base w) : PEE B s t c i b base w.drew := ⟨h.1, h.2.1, h.2.2.1, h.2.2.2.drew⟩

theorem PEE.start (w : World) (s t c i : Int) (b : Bool) : PEE w.heap.size s t c i b w (((w.alloc (.cells #[.int .i64 s, .int .i64 t] 38)).alloc (.cells #[.int .i64 c, .bool b, .int .i64 i] 69)).alloc (.cells #[.int .i64 0, .bool false, .int .i64 0] 69)) := by
  have h := PE.start w s t c i b
  refine ⟨blk_alloc h.1, blk_alloc h.2.1, ?_, h.2.2.alloc (by simp; omega) _⟩
  have := blk_new ((w.alloc (.cells #[.int .i64 s, .int .i64 t] 38)).alloc (.cells #[.int .i64 c, .bool b, .int .i64 i] 69)) (.cells #[.int .i64 0, .bool false, .int .i64 0] 69)
  simpa using this

theorem PEE.facts {B : Nat} {s t c i : Int} {b : Bool} {base w : World} (h : PEE B s t c i b base w) : w.cell? ⟨B, 0, none⟩ = some (.int .i64 s) ∧ w.cell? ⟨B, 1, none⟩ = some (.int .i64 t) ∧ w.cell? ⟨B + 1, 0, none⟩ = some (.int .i64 c) ∧ w.cell? ⟨B + 1, 1, none⟩ = some (.bool b) ∧ w.cell? ⟨B + 1, 2, none⟩ = some (.int .i64 i) ∧ PEE B s t c i b base w :=
  ⟨(blk_two h.1).1, (blk_two h.1).2.1, (blk_three h.2.1).1, (blk_three h.2.1).2.1, (blk_three h.2.1).2.2.1, h⟩

/-- The cells that are written: of the entry and of the answer. -/
theorem PEE.free {B : Nat} {s t c i : Int} {b : Bool} {base w : World} (h : PEE B s t c i b base w) : w.frozen? ⟨B + 1, 0, none⟩ = false ∧ w.frozen? ⟨B + 1, 1, none⟩ = false ∧ w.frozen? ⟨B + 1, 2, none⟩ = false ∧ w.cell? ⟨B + 1 + 1, 0, none⟩ = some (.int .i64 0) ∧ w.cell? ⟨B + 1 + 1, 1, none⟩ = some (.bool false) ∧ w.cell? ⟨B + 1 + 1, 2, none⟩ = some (.int .i64 0) ∧ w.frozen? ⟨B + 1 + 1, 0, none⟩ = false ∧ w.frozen? ⟨B + 1 + 1, 1, none⟩ = false ∧ w.frozen? ⟨B + 1 + 1, 2, none⟩ = false ∧ B + 1 + 1 < w.heap.size :=
  ⟨(blk_three h.2.1).2.2.2.1, (blk_three h.2.1).2.2.2.2.1, (blk_three h.2.1).2.2.2.2.2, (blk_three h.2.2.1).1, (blk_three h.2.2.1).2.1, (blk_three h.2.2.1).2.2.1, (blk_three h.2.2.1).2.2.2.1, (blk_three h.2.2.1).2.2.2.2.1, (blk_three h.2.2.1).2.2.2.2.2, blk_lt h.2.2.1⟩

def emC (s t c i : Int) : Int := if okE s t c i then c else 0

def emB (s t c i : Int) (b : Bool) : Bool := if okE s t c i then b else false

def emI (s t c i : Int) : Int := if okE s t c i then 2 * s - 1 else 0

end Go.Proofs.Ytdpahikbikiilaa
