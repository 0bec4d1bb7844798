/- What laws over rings want of the row: slices of numbers and rings opened. -/
import Derived.Test.YtdpahikbikiilaaHold
import Derived.Test.YtdpahikbikiilaaBytesRow
import Derived.Lib.SmallJoins
namespace Go.Proofs.Ytdpahikbikiilaa
open Go.ChangeShapes Go.WideShapes Go.ChangeAt Go.RowKit Go.Joins

/-- A slice of numbers that came in, opened. -/
theorem ints_of {H : Type} {enc : TypeId × Value → H} {W : World} {m fuel : Nat} {sp : Nat → Bool} {hd : Bool} {v : Value} {y : DataW H × List MemPlace} (h : DataW.trod enc Try.prog W m sp hd fuel 24 [v] = some y) :
    ∃ a len cap xs, v = .slice a len cap ∧ Ints W.heap.size a len xs W ∧ (∀ x ∈ xs, W64 x) ∧ len ≤ maxLen := by
  rcases open_ints Try.underlying24 Try.underlying2 (by kernel_rfl) h with ⟨hcs, _⟩ | ⟨x, l, c, zs, hcs, hp, hl, hm, hz, _, hcell, hwz⟩
  · simp at hcs
    subst hcs
    exact ⟨none, 0, 0, [], rfl, ⟨rfl, fun i x hx => by simp at hx⟩, fun x hx => (by cases hx), Nat.zero_le _⟩
  · simp at hcs
    subst hcs
    have hlz : l ≤ zs.length := by rw [hz]; split <;> omega
    refine ⟨some x, l, c, zs.take l, rfl, ⟨by simp; omega, fun i z hx => ?_⟩, fun z hz' => w64_wf (hwz z (List.mem_of_mem_take hz')), Nat.le_trans hl hm⟩
    have hi : i < l := by
      rcases Nat.lt_or_ge i (zs.take l).length with h' | h'
      · simp at h'; omega
      · simp [List.getElem?_eq_none h'] at hx
    have hzi : zs[i]? = some z := by rw [List.getElem?_take_of_lt hi] at hx; exact hx
    obtain ⟨b, off, rfl, hc⟩ := ints_at hcell (by omega)
    have hci := hc i (by omega)
    rw [List.getD_eq_getElem?_getD, hzi] at hci
    exact ⟨b, off, rfl, World.block_lt_of_cell? W _ hci, hci⟩

set_option maxRecDepth 100000 in
/-- A list that came in, opened. -/
theorem slice_of {H : Type} {enc : TypeId × Value → H} {W : World} {m : Nat} {sp : Nat → Bool} {hd : Bool} {r : Reach} {b0 : Nat} {v : Value} {d : DataW H} {p : List MemPlace} (hv : Value.okWide Try.prog W r b0 24 v) (h : DataW.Trod enc Try.prog W m sp hd 24 v d p) :
    ∃ (a : Option Addr) (len cap : Nat) (xs : List Int), v = .slice a len cap ∧ Ints W.heap.size a len xs W ∧ (∀ x ∈ xs, W64 x) ∧ len ≤ maxLen := by
  obtain ⟨a, len, cap, rfl⟩ := okWide_slice Try.underlying24 hv
  obtain ⟨fuel, hf⟩ := h
  obtain ⟨a', len', cap', xs, e, hi, hw, hl⟩ := ints_of (fuel := fuel) (v := .slice a len cap) (by simpa [Value.cells] using hf)
  cases e
  exact ⟨a, len, cap, xs, rfl, hi, hw, hl⟩

set_option maxRecDepth 100000 in
/-- A ring that came in, opened. -/
theorem ring_of {H : Type} {enc : TypeId × Value → H} {W : World} {m : Nat} {sp : Nat → Bool} {hd : Bool} {r : Reach} {b0 : Nat} {v : Value} {d : DataW H} {p : List MemPlace} (hv : Value.okWide Try.prog W r b0 26 v) (h : DataW.Trod enc Try.prog W m sp hd 26 v d p) :
    ∃ (a : Option Addr) (len cap : Nat) (xs : List Int) (x y z : Int), v = .agg #[.slice a len cap, .int .i64 x, .int .i64 y, .int .i64 z] ∧ Ints W.heap.size a len xs W ∧ (∀ x ∈ xs, W64 x) ∧ len ≤ maxLen ∧ W64 x ∧ W64 y ∧ W64 z := by
  obtain ⟨x0, x1, x2, x3, y0, y1, y2, y3, n, rfl, -, -, h0, h1, h2, h3⟩ := open_agg4 Try.underlying26 (by kernel_rfl) (by kernel_rfl) hv h
  obtain ⟨a, len, cap, xs, rfl, hi, hw, hl⟩ := ints_of h0
  obtain ⟨x, e1, _, w1⟩ := DataW.trod_int Try.underlying2 h1
  obtain ⟨y, e2, _, w2⟩ := DataW.trod_int Try.underlying2 h2
  obtain ⟨z, e3, _, w3⟩ := DataW.trod_int Try.underlying2 h3
  simp at e1 e2 e3
  subst e1 e2 e3
  exact ⟨a, len, cap, xs, x, y, z, rfl, hi, hw, hl, w64_wf w1, w64_wf w2, w64_wf w3⟩

end Go.Proofs.Ytdpahikbikiilaa
