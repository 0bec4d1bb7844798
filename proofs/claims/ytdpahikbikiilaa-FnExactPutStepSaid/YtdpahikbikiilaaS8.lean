/- The model of the hands: calls, hands, who rests. -/
import Derived.Test.YtdpahikbikiilaaS4
import Derived.Test.YtdpahikbikiilaaHold
import Derived.Deep.RegionHeld3
import Derived.Deep.DeepCutAuto
namespace Go.Proofs.Ytdpahikbikiilaa
open Go.RowKit



def inB (x lo hi : Int) : Bool := decide (lo ≤ x) && decide (x ≤ hi)

theorem inB_iff {x lo hi : Int} : inB x lo hi = true ↔ lo ≤ x ∧ x ≤ hi := by unfold inB; simp

theorem inB_no {x lo hi : Int} : inB x lo hi = false ↔ x < lo ∨ hi < x := by
  unfold inB; simp; omega

theorem specIn (x lo hi : Int) (w : World) :
    Calls Try.prog 23 #[.int .i64 x, .int .i64 lo, .int .i64 hi] w fun e w' => e = .returned (.bool (inB x lo hi)) ∧ w = w' := by
  by_cases h : lo ≤ x ∧ x ≤ hi
  · rw [inB_iff.mpr h]; exact in_yes x lo hi h.1 h.2 w
  · have h' : x < lo ∨ hi < x := by omega
    rw [inB_no.mpr h']; exact in_no x lo hi h' w

theorem specValue (x : Int) (w : World) :
    Calls Try.prog 45 #[.int .i64 x] w fun e w' => e = .returned (.bool (inB x 0 999999)) ∧ w = w' := by
  go_enter Try.func45, Try.ntmps45
  go_wp2_with (go_at_call 23; (with_reducible refine (specIn _ _ _ _).mono ?_); rintro e w' ⟨rfl, rfl⟩)
  go_ret
  exact ⟨rfl, rfl⟩

theorem specTick8 (x : Int) (w : World) :
    Calls Try.prog 44 #[.int .i64 x] w fun e w' => e = .returned (.bool (inB x 0 1000001)) ∧ w = w' := by
  go_enter Try.func44, Try.ntmps44
  go_wp2_with (go_at_call 23; (with_reducible refine (specIn _ _ _ _).mono ?_); rintro e w' ⟨rfl, rfl⟩)
  go_ret
  exact ⟨rfl, rfl⟩

def callB (k v : Int) : Bool := if k == 1 then inB v 0 999999 else if k == 2 then v == 0 else false

theorem specCallOk (k v : Int) (w : World) :
    Calls Try.prog 42 #[.agg #[.int .i64 k, .int .i64 v]] w fun e w' => e = .returned (.bool (callB k v)) ∧ Below w.heap.size w w' := by
  go_enter Try.func42, Try.ntmps42
  go_wp2_with (go_at_call 45; (with_reducible refine (specValue _ _).mono ?_); rintro e w' ⟨rfl, rfl⟩)
  all_goals
    go_ret
    exact ⟨by simp [callB, *], (Below.refl _ _).alloc (Nat.le_refl _) _⟩

theorem specNone8 (k v : Int) (w : World) :
    Calls Try.prog 43 #[.agg #[.int .i64 k, .int .i64 v]] w fun e w' => e = .returned (.bool (k == 0 && v == 0)) ∧ Below w.heap.size w w' := by
  go_enter Try.func43, Try.ntmps43
  go_wp2
  all_goals
    go_ret
    exact ⟨by simp [*], (Below.refl _ _).alloc (Nat.le_refl _) _⟩

/-- A hand. -/
structure Hd where
  at_ : Int
  code : Int
  val : Int
  ring : Int
  tick : Int
  word : Int
  tail : Int
  head : Int
  index : Int
  begin_ : Int
  reply : Int
  out : Int

def handB (s t : Int) (h : Hd) : Bool := okB s t && inB h.at_ 0 19 && (callB h.code h.val || (h.at_ == 0 && (h.code == 0 && h.val == 0))) && inB h.ring 0 1 && inB h.tick 0 1000001 && inB h.tail 0 1000001 && inB h.head 0 1000001 && inB h.word 0 100000000 && inB h.index (-1) (s - 1) && inB h.begin_ 0 20000 && inB h.reply 0 4 && inB h.out 0 999999

theorem handOk_p (s t : Int) (h : Hd) (hp : ¬ okP s t) (w : World) :
    Calls Try.prog 22 #[.agg #[.int .i64 s, .int .i64 t], .agg #[.int .i64 h.at_, .int .i64 h.code, .int .i64 h.val, .int .i64 h.ring, .int .i64 h.tick, .int .i64 h.word, .int .i64 h.tail, .int .i64 h.head, .int .i64 h.index, .int .i64 h.begin_, .int .i64 h.reply, .int .i64 h.out]] w fun e w' => e = .returned (.bool false) ∧ Below w.heap.size w w' := by
  have HP := Lib.hid hp
  clear hp
  go_enter Try.func22, Try.ntmps22
  go_wp2_with (go_at_call 39; (with_reducible refine (specOk_no _ _ HP.out _).mono ?_); rintro e w1 ⟨rfl, hb⟩)
  go_ret
  exact ⟨rfl, (((Below.refl _ _).alloc (Nat.le_refl _) _).alloc (by simp) _).trans (hb.mono (by simp; omega))⟩

set_option maxRecDepth 100000 in
set_option maxHeartbeats 4000000 in
theorem handOk_go (s t : Int) (h : Hd) (hp : okP s t) (w : World) :
    Calls Try.prog 22 #[.agg #[.int .i64 s, .int .i64 t], .agg #[.int .i64 h.at_, .int .i64 h.code, .int .i64 h.val, .int .i64 h.ring, .int .i64 h.tick, .int .i64 h.word, .int .i64 h.tail, .int .i64 h.head, .int .i64 h.index, .int .i64 h.begin_, .int .i64 h.reply, .int .i64 h.out]] w fun e w' => e = .returned (.bool (handB s t h)) ∧ Below w.heap.size w w' := by
  obtain ⟨g1, g2⟩ := okP_le hp
  have HP := Lib.hid hp
  have hok := Lib.hid (okB_yes hp)
  have e1 : IntKind.i64.wrap (s - 1) = s - 1 := by rw [IntKind.wrap_i64]; omega
  have HQ := Lib.hid (((Held.start w).new (.cells #[.int .i64 s, .int .i64 t] 38)).new (.cells #[.int .i64 h.at_, .int .i64 h.code, .int .i64 h.val, .int .i64 h.ring, .int .i64 h.tick, .int .i64 h.word, .int .i64 h.tail, .int .i64 h.head, .int .i64 h.index, .int .i64 h.begin_, .int .i64 h.reply, .int .i64 h.out] 35))
  simp only [World.size_alloc] at HQ
  clear hp
  go_enter Try.func22, Try.ntmps22
  go_wp2_with (first | (go_at_call 39; (with_reducible refine (specOk_yes _ _ HP.out _).mono ?_); rintro e w1 ⟨rfl, hb⟩; have HQ0 := HQ; clear HQ; have HQ := Lib.hid (HQ0.out.step hb); clear HQ0 hb; (try clear q0 q1 q2 q3 q4 q5 q6 q7 q8 q9 q10 q11 q12 q13); (obtain ⟨q0, q1, q2, q3, q4, q5, q6, q7, q8, q9, q10, q11, q12, q13⟩ : w1.cell? ⟨w.heap.size, 0, none⟩ = some (.int .i64 s) ∧ w1.cell? ⟨w.heap.size, 1, none⟩ = some (.int .i64 t) ∧ w1.cell? ⟨w.heap.size + 1, 0, none⟩ = some (.int .i64 h.at_) ∧ w1.cell? ⟨w.heap.size + 1, 1, none⟩ = some (.int .i64 h.code) ∧ w1.cell? ⟨w.heap.size + 1, 2, none⟩ = some (.int .i64 h.val) ∧ w1.cell? ⟨w.heap.size + 1, 3, none⟩ = some (.int .i64 h.ring) ∧ w1.cell? ⟨w.heap.size + 1, 4, none⟩ = some (.int .i64 h.tick) ∧ w1.cell? ⟨w.heap.size + 1, 5, none⟩ = some (.int .i64 h.word) ∧ w1.cell? ⟨w.heap.size + 1, 6, none⟩ = some (.int .i64 h.tail) ∧ w1.cell? ⟨w.heap.size + 1, 7, none⟩ = some (.int .i64 h.head) ∧ w1.cell? ⟨w.heap.size + 1, 8, none⟩ = some (.int .i64 h.index) ∧ w1.cell? ⟨w.heap.size + 1, 9, none⟩ = some (.int .i64 h.begin_) ∧ w1.cell? ⟨w.heap.size + 1, 10, none⟩ = some (.int .i64 h.reply) ∧ w1.cell? ⟨w.heap.size + 1, 11, none⟩ = some (.int .i64 h.out) := by have hh := HQ.out; exact ⟨blk_is hh.tl.hd (by rfl), blk_is hh.tl.hd (by rfl), blk_is hh.hd (by rfl), blk_is hh.hd (by rfl), blk_is hh.hd (by rfl), blk_is hh.hd (by rfl), blk_is hh.hd (by rfl), blk_is hh.hd (by rfl), blk_is hh.hd (by rfl), blk_is hh.hd (by rfl), blk_is hh.hd (by rfl), blk_is hh.hd (by rfl), blk_is hh.hd (by rfl), blk_is hh.hd (by rfl)⟩)) | (go_at_call 23; (with_reducible refine (specIn _ _ _ _).mono ?_); rintro e w' ⟨rfl, rfl⟩) | (go_at_call 44; (with_reducible refine (specTick8 _ _).mono ?_); rintro e w' ⟨rfl, rfl⟩) | (go_at_call 45; (with_reducible refine (specValue _ _).mono ?_); rintro e w' ⟨rfl, rfl⟩) | (go_at_call 42; (with_reducible refine (specCallOk _ _ _).mono ?_); rintro e w2 ⟨rfl, hb⟩; have HQ0 := HQ; clear HQ; have HQ := Lib.hid (HQ0.out.step hb); clear HQ0 hb; (try clear q0 q1 q2 q3 q4 q5 q6 q7 q8 q9 q10 q11 q12 q13); (obtain ⟨q0, q1, q2, q3, q4, q5, q6, q7, q8, q9, q10, q11, q12, q13⟩ : w2.cell? ⟨w.heap.size, 0, none⟩ = some (.int .i64 s) ∧ w2.cell? ⟨w.heap.size, 1, none⟩ = some (.int .i64 t) ∧ w2.cell? ⟨w.heap.size + 1, 0, none⟩ = some (.int .i64 h.at_) ∧ w2.cell? ⟨w.heap.size + 1, 1, none⟩ = some (.int .i64 h.code) ∧ w2.cell? ⟨w.heap.size + 1, 2, none⟩ = some (.int .i64 h.val) ∧ w2.cell? ⟨w.heap.size + 1, 3, none⟩ = some (.int .i64 h.ring) ∧ w2.cell? ⟨w.heap.size + 1, 4, none⟩ = some (.int .i64 h.tick) ∧ w2.cell? ⟨w.heap.size + 1, 5, none⟩ = some (.int .i64 h.word) ∧ w2.cell? ⟨w.heap.size + 1, 6, none⟩ = some (.int .i64 h.tail) ∧ w2.cell? ⟨w.heap.size + 1, 7, none⟩ = some (.int .i64 h.head) ∧ w2.cell? ⟨w.heap.size + 1, 8, none⟩ = some (.int .i64 h.index) ∧ w2.cell? ⟨w.heap.size + 1, 9, none⟩ = some (.int .i64 h.begin_) ∧ w2.cell? ⟨w.heap.size + 1, 10, none⟩ = some (.int .i64 h.reply) ∧ w2.cell? ⟨w.heap.size + 1, 11, none⟩ = some (.int .i64 h.out) := by have hh := HQ.out; exact ⟨blk_is hh.tl.hd (by rfl), blk_is hh.tl.hd (by rfl), blk_is hh.hd (by rfl), blk_is hh.hd (by rfl), blk_is hh.hd (by rfl), blk_is hh.hd (by rfl), blk_is hh.hd (by rfl), blk_is hh.hd (by rfl), blk_is hh.hd (by rfl), blk_is hh.hd (by rfl), blk_is hh.hd (by rfl), blk_is hh.hd (by rfl), blk_is hh.hd (by rfl), blk_is hh.hd (by rfl)⟩)) | (go_at_call 43; (with_reducible refine (specNone8 _ _ _).mono ?_); rintro e w3 ⟨rfl, hb⟩; have HQ0 := HQ; clear HQ; have HQ := Lib.hid (HQ0.out.step hb); clear HQ0 hb; (try clear q0 q1 q2 q3 q4 q5 q6 q7 q8 q9 q10 q11 q12 q13); (obtain ⟨q0, q1, q2, q3, q4, q5, q6, q7, q8, q9, q10, q11, q12, q13⟩ : w3.cell? ⟨w.heap.size, 0, none⟩ = some (.int .i64 s) ∧ w3.cell? ⟨w.heap.size, 1, none⟩ = some (.int .i64 t) ∧ w3.cell? ⟨w.heap.size + 1, 0, none⟩ = some (.int .i64 h.at_) ∧ w3.cell? ⟨w.heap.size + 1, 1, none⟩ = some (.int .i64 h.code) ∧ w3.cell? ⟨w.heap.size + 1, 2, none⟩ = some (.int .i64 h.val) ∧ w3.cell? ⟨w.heap.size + 1, 3, none⟩ = some (.int .i64 h.ring) ∧ w3.cell? ⟨w.heap.size + 1, 4, none⟩ = some (.int .i64 h.tick) ∧ w3.cell? ⟨w.heap.size + 1, 5, none⟩ = some (.int .i64 h.word) ∧ w3.cell? ⟨w.heap.size + 1, 6, none⟩ = some (.int .i64 h.tail) ∧ w3.cell? ⟨w.heap.size + 1, 7, none⟩ = some (.int .i64 h.head) ∧ w3.cell? ⟨w.heap.size + 1, 8, none⟩ = some (.int .i64 h.index) ∧ w3.cell? ⟨w.heap.size + 1, 9, none⟩ = some (.int .i64 h.begin_) ∧ w3.cell? ⟨w.heap.size + 1, 10, none⟩ = some (.int .i64 h.reply) ∧ w3.cell? ⟨w.heap.size + 1, 11, none⟩ = some (.int .i64 h.out) := by have hh := HQ.out; exact ⟨blk_is hh.tl.hd (by rfl), blk_is hh.tl.hd (by rfl), blk_is hh.hd (by rfl), blk_is hh.hd (by rfl), blk_is hh.hd (by rfl), blk_is hh.hd (by rfl), blk_is hh.hd (by rfl), blk_is hh.hd (by rfl), blk_is hh.hd (by rfl), blk_is hh.hd (by rfl), blk_is hh.hd (by rfl), blk_is hh.hd (by rfl), blk_is hh.hd (by rfl), blk_is hh.hd (by rfl)⟩)))
  all_goals
    go_ret
    exact ⟨by have hk := hok.out; first | (simp [handB, show inB 0 0 19 = true from rfl, show callB 0 0 = false from rfl, *]; done) | (clear HQ HP q0 q1 q2 q3 q4 q5 q6 q7 q8 q9 q10 q11 q12 q13; simp_all [handB]; done), HQ.out.below⟩

theorem specHandOk (s t : Int) (h : Hd) (w : World) :
    Calls Try.prog 22 #[.agg #[.int .i64 s, .int .i64 t], .agg #[.int .i64 h.at_, .int .i64 h.code, .int .i64 h.val, .int .i64 h.ring, .int .i64 h.tick, .int .i64 h.word, .int .i64 h.tail, .int .i64 h.head, .int .i64 h.index, .int .i64 h.begin_, .int .i64 h.reply, .int .i64 h.out]] w fun e w' => e = .returned (.bool (handB s t h)) ∧ Below w.heap.size w w' := by
  by_cases hp : okP s t
  · exact handOk_go s t h hp w
  · have := handOk_p s t h hp w
    rwa [show handB s t h = false by unfold handB; rw [okB_no hp]; rfl]

end Go.Proofs.Ytdpahikbikiilaa
