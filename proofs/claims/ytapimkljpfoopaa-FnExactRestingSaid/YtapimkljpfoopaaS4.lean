/- The model of the tickets: contracts of its functions. -/
import Derived.Test.YtapimkljpfoopaaS3
import Derived.Deep.RegionHeld3
namespace Go.Proofs.Ytapimkljpfoopaa
open Go.RowKit

def okK (k : Int) : Prop := 0 ≤ k ∧ k ≤ 1000000

instance (k : Int) : Decidable (okK k) := by unfold okK; infer_instance

def okKB (k : Int) : Bool := decide (okK k)

theorem okKB_yes {k : Int} (h : okK k) : okKB k = true := decide_eq_true h

theorem okKB_no {k : Int} (h : ¬ okK k) : okKB k = false := decide_eq_false h

def okT (s t k : Int) : Prop := okP s t ∧ okK k

instance (s t k : Int) : Decidable (okT s t k) := by unfold okT; infer_instance

def cycD (s k : Int) : Int := k / (2 * s)

def placeD (s k : Int) : Int := spotD s (k % (2 * s))

def cycV (s t k : Int) : Int := if okT s t k then cycD s k else -1

def placeV (s t k : Int) : Int := if okT s t k then placeD s k else -1

theorem okJ_mod {s t k : Int} (h : okT s t k) : okJ s t (k % (2 * s)) := by
  obtain ⟨hp, h0, h1⟩ := h
  obtain ⟨hs, -, -⟩ := id hp
  refine ⟨hp, ?_⟩
  rcases hs with rfl | rfl | rfl | rfl <;> omega

theorem cyc_w64 {s t k : Int} (h : okT s t k) : 0 ≤ cycD s k ∧ cycD s k ≤ 1000000 := by
  obtain ⟨⟨hs, -, -⟩, h0, h1⟩ := h
  unfold cycD
  rcases hs with rfl | rfl | rfl | rfl <;> omega

/-- A ticket is known by its cycle and its place. -/
theorem ticket_known {s t k : Int} (h : okT s t k) : cycV s t k * 2 * s + unspotV s t (placeV s t k) = k := by
  have hJ := okJ_mod h
  obtain ⟨a0, a1, a2, -⟩ := spot_in hJ
  have hJ2 : okJ s t (placeD s k) := ⟨h.1, a0, a1⟩
  rw [show cycV s t k = cycD s k from if_pos h, show placeV s t k = placeD s k from if_pos h, show unspotV s t (placeD s k) = unspotD s (placeD s k) from if_pos hJ2]
  unfold placeD cycD
  rw [a2]
  obtain ⟨⟨hs, -, -⟩, h0, h1⟩ := h
  rcases hs with rfl | rfl | rfl | rfl <;> omega

/-- What a walk keeps of a plan in its first block. -/
def P1 (T : TypeId) (B : Nat) (s t : Int) (base w : World) : Prop := w.heap[B]? = some (.cells #[.int .i64 s, .int .i64 t] T (0, 0)) ∧ Below B base w

theorem P1.step {T : TypeId} {B : Nat} {s t : Int} {base w w' : World} (h : P1 T B s t base w) (hb : Below w.heap.size w w') : P1 T B s t base w' :=
  ⟨blk_below h.1 hb (blk_lt h.1), h.2.trans (hb.mono (Nat.le_of_lt (blk_lt h.1)))⟩

theorem P1.drew {T : TypeId} {B : Nat} {s t : Int} {base w : World} (h : P1 T B s t base w) : P1 T B s t base w.drew := ⟨h.1, h.2.drew⟩

theorem P1.start (T : TypeId) (w : World) (s t : Int) : P1 T w.heap.size s t w (w.alloc (.cells #[.int .i64 s, .int .i64 t] T)) := ⟨blk_new w _, (Below.refl _ _).alloc (Nat.le_refl _) _⟩

theorem P1.facts {T : TypeId} {B : Nat} {s t : Int} {base w : World} (h : P1 T B s t base w) : w.cell? ⟨B, 0, none⟩ = some (.int .i64 s) ∧ w.cell? ⟨B, 1, none⟩ = some (.int .i64 t) ∧ P1 T B s t base w := ⟨(blk_two h.1).1, (blk_two h.1).2.1, h⟩

end Go.Proofs.Ytapimkljpfoopaa
