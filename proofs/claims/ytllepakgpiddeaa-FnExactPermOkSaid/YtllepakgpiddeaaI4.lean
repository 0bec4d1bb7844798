/- The program's tickets (commit c62366b): its functions answer as the model's. -/
import Derived.Test.YtllepakgpiddeaaS4
import Derived.Test.YtllepakgpiddeaaI3
namespace Go.Proofs.Ytllepakgpiddeaa
open Go.RowKit

theorem blk_tri {w : World} {b : Nat} {u0 u1 u2 : Value} {t : TypeId} (h : w.heap[b]? = some (.cells #[u0, u1, u2] t (0, 0))) :
    w.cell? ⟨b, 0, none⟩ = some u0 ∧ w.cell? ⟨b, 1, none⟩ = some u1 ∧ w.cell? ⟨b, 2, none⟩ = some u2 ∧ b < w.heap.size := ⟨by rw [blk_cell h]; rfl, by rw [blk_cell h]; rfl, by rw [blk_cell h]; rfl, blk_lt h⟩

theorem isT_yes (k : Int) (k0 : 0 ≤ k) (k1 : k ≤ 1000000) (w : World) :
    Calls Try.prog 50 #[.int .i64 k] w fun e w' => e = .returned (.bool true) ∧ Below w.heap.size w w' := by
  have hd : decide (0 ≤ k) = true := decide_eq_true k0
  have hd2 : decide (k ≤ 1000000) = true := decide_eq_true k1
  clear k0 k1
  go_enter Try.func50, Try.ntmps50
  go_wp2
  go_ret
  exact ⟨rfl, Below.refl _ _⟩

theorem isT_no (k : Int) (h : ¬ (0 ≤ k ∧ k ≤ 1000000)) (w : World) :
    Calls Try.prog 50 #[.int .i64 k] w fun e w' => e = .returned (.bool false) ∧ Below w.heap.size w w' := by
  by_cases k0 : 0 ≤ k
  · have hd : decide (0 ≤ k) = true := decide_eq_true k0
    have hd2 : decide (k ≤ 1000000) = false := decide_eq_false (fun k1 => h ⟨k0, k1⟩)
    clear k0 h
    go_enter Try.func50, Try.ntmps50
    go_wp2
    go_ret
    exact ⟨rfl, Below.refl _ _⟩
  · have hd : decide (0 ≤ k) = false := decide_eq_false k0
    clear k0 h
    go_enter Try.func50, Try.ntmps50
    go_wp2
    go_ret
    exact ⟨rfl, Below.refl _ _⟩

theorem isT_any (k : Int) (w : World) :
    Calls Try.prog 50 #[.int .i64 k] w fun e w' => e = .returned (.bool (decide (0 ≤ k ∧ k ≤ 1000000))) ∧ Below w.heap.size w w' := by
  by_cases h : 0 ≤ k ∧ k ≤ 1000000
  · rw [decide_eq_true h]; exact isT_yes k h.1 h.2 w
  · rw [decide_eq_false h]; exact isT_no k h w

end Go.Proofs.Ytllepakgpiddeaa
