/- The model of the entries: contracts of its functions, and what is taken by a ticket. -/
import Derived.Test.YtllepakgpiddeaaS4
import Derived.Deep.RegionHeld3
namespace Go.Proofs.Ytllepakgpiddeaa
open Go.RowKit

/-- A plan and an entry in a call's first two blocks. -/
def PE (B : Nat) (s t c i : Int) (b : Bool) (base w : World) : Prop :=
  w.heap[B]? = some (.cells #[.int .i64 s, .int .i64 t] 29 (0, 0)) ∧ w.heap[B + 1]? = some (.cells #[.int .i64 c, .bool b, .int .i64 i] 43 (0, 0)) ∧ Below B base w

theorem PE.step {B : Nat} {s t c i : Int} {b : Bool} {base w w' : World} (h : PE B s t c i b base w) (hb : Below w.heap.size w w') : PE B s t c i b base w' :=
  ⟨blk_below h.1 hb (blk_lt h.1), blk_below h.2.1 hb (blk_lt h.2.1), h.2.2.trans (hb.mono (Nat.le_of_lt (blk_lt h.1)))⟩

theorem PE.drew {B : Nat} {s t c i : Int} {b : Bool} {base w : World} (h : PE B s t c i b base w) : PE B s t c i b base w.drew := ⟨h.1, h.2.1, h.2.2.drew⟩

theorem PE.alloc {B : Nat} {s t c i : Int} {b : Bool} {base w : World} (h : PE B s t c i b base w) (x : Obj) : PE B s t c i b base (w.alloc x) := ⟨blk_alloc h.1, blk_alloc h.2.1, h.2.2.alloc (Nat.le_of_lt (blk_lt h.1)) _⟩

theorem PE.start (w : World) (s t c i : Int) (b : Bool) : PE w.heap.size s t c i b w ((w.alloc (.cells #[.int .i64 s, .int .i64 t] 29)).alloc (.cells #[.int .i64 c, .bool b, .int .i64 i] 43)) :=
  ⟨blk_alloc (blk_new w _), by have := blk_new (w.alloc (.cells #[.int .i64 s, .int .i64 t] 29)) (.cells #[.int .i64 c, .bool b, .int .i64 i] 43); simpa using this, ((Below.refl _ _).alloc (Nat.le_refl _) _).alloc (by simp) _⟩

theorem PE.facts {B : Nat} {s t c i : Int} {b : Bool} {base w : World} (h : PE B s t c i b base w) : w.cell? ⟨B, 0, none⟩ = some (.int .i64 s) ∧ w.cell? ⟨B, 1, none⟩ = some (.int .i64 t) ∧ w.cell? ⟨B + 1, 0, none⟩ = some (.int .i64 c) ∧ w.cell? ⟨B + 1, 1, none⟩ = some (.bool b) ∧ w.cell? ⟨B + 1, 2, none⟩ = some (.int .i64 i) ∧ PE B s t c i b base w :=
  ⟨(blk_two h.1).1, (blk_two h.1).2.1, (blk_three h.2.1).1, (blk_three h.2.1).2.1, (blk_three h.2.1).2.2.1, h⟩

def okEK (s t c i k : Int) : Prop := okE s t c i ∧ okK k

instance (s t c i k : Int) : Decidable (okEK s t c i k) := by unfold okEK; infer_instance

theorem specNone_yes (s t : Int) (h : okP s t) (w : World) :
    Calls Try.prog 21 #[.agg #[.int .i64 s, .int .i64 t]] w fun e w' => e = .returned (.int .i64 (2 * s - 1)) ∧ Below w.heap.size w w' := by
  have := specNone s t w
  rwa [show noneV s t = 2 * s - 1 from if_pos h] at this

def takeD (s c i k : Int) (b : Bool) : Int := if c < cycD s k ∧ i = 2 * s - 1 then (if b then 1 else 2) else 0

def takeV (s t c i k : Int) (b : Bool) : Int := if okEK s t c i k then takeD s c i k b else -1

def haveD (s c k : Int) : Int := if c = cycD s k then 1 else if c < cycD s k then 2 else 0

def haveV (s t c i k : Int) : Int := if okEK s t c i k then haveD s c k else -1

end Go.Proofs.Ytllepakgpiddeaa
