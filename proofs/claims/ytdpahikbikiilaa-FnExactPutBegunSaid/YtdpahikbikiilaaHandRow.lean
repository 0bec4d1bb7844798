/- What laws over hands want of the row: calls and hands opened. -/
import Derived.Test.YtdpahikbikiilaaS8
import Derived.Test.YtdpahikbikiilaaIntsRow
namespace Go.Proofs.Ytdpahikbikiilaa
open Go.ChangeShapes Go.WideShapes Go.ChangeAt Go.RowKit Go.Joins

theorem array12 (T : Array Value) (h : T.size = 12) : ∃ v0 v1 v2 v3 v4 v5 v6 v7 v8 v9 v10 v11 : Value, T = #[v0, v1, v2, v3, v4, v5, v6, v7, v8, v9, v10, v11] := by
  obtain ⟨l⟩ := T
  match l, h with
  | [v0, v1, v2, v3, v4, v5, v6, v7, v8, v9, v10, v11], _ => exact ⟨v0, v1, v2, v3, v4, v5, v6, v7, v8, v9, v10, v11, rfl⟩

theorem int_field {H : Type} {enc : TypeId × Value → H} {W : World} {m n : Nat} {sp : Nat → Bool} {hd : Bool} {fs : Array Field} {cs : List Value} {xs : List (DataW H × List MemPlace)}
    (hff : ∀ (i : Nat) (f : Field), fs[i]? = some f → DataW.trod enc Try.prog W m sp hd n f.type ((cs.drop f.offset).take (Try.prog.cellsOf f.type)) = xs[i]?) (i : Nat) (f : Field) (hi : fs[i]? = some f) (ht : f.type = 2) (hx : i < xs.length) :
    ∃ x, cs[f.offset]? = some (.int .i64 x) ∧ W64 x := by
  have h := hff i f hi
  rw [List.getElem?_eq_getElem hx, ht] at h
  obtain ⟨x, e, _, hw⟩ := DataW.trod_int Try.underlying2 h
  rw [show Try.prog.cellsOf 2 = 1 by kernel_rfl] at e
  refine ⟨x, ?_, w64_wf hw⟩
  have e2 := congrArg (fun l => l[0]?) e
  simpa [List.getElem?_take, List.getElem?_drop] using e2

set_option maxRecDepth 100000 in
/-- A call that came in, opened. -/
theorem call_of {H : Type} {enc : TypeId × Value → H} {W : World} {m : Nat} {sp : Nat → Bool} {hd : Bool} {r : Reach} {b0 : Nat} {v : Value} {d : DataW H} {p : List MemPlace} (hv : Value.okWide Try.prog W r b0 28 v) (h : DataW.Trod enc Try.prog W m sp hd 28 v d p) :
    ∃ x y : Int, v = .agg #[.int .i64 x, .int .i64 y] ∧ W64 x ∧ W64 y := by
  obtain ⟨x0, x1, y0, y1, n, rfl, -, -, h0, h1⟩ := open_agg2 Try.underlying28 (by kernel_rfl) (by kernel_rfl) hv h
  obtain ⟨x, e0, _, w0⟩ := DataW.trod_int Try.underlying2 h0
  obtain ⟨y, e1, _, w1⟩ := DataW.trod_int Try.underlying2 h1
  simp at e0 e1
  subst e0 e1
  exact ⟨x, y, rfl, w64_wf w0, w64_wf w1⟩

set_option maxRecDepth 100000 in
/-- A hand that came in, opened. -/
theorem hand_of {H : Type} {enc : TypeId × Value → H} {W : World} {m : Nat} {sp : Nat → Bool} {hd : Bool} {r : Reach} {b0 : Nat} {v : Value} {d : DataW H} {p : List MemPlace} (hv : Value.okWide Try.prog W r b0 30 v) (h : DataW.Trod enc Try.prog W m sp hd 30 v d p) :
    ∃ h : Hd, v = .agg #[.int .i64 h.at_, .int .i64 h.code, .int .i64 h.val, .int .i64 h.ring, .int .i64 h.tick, .int .i64 h.word, .int .i64 h.tail, .int .i64 h.head, .int .i64 h.index, .int .i64 h.begin_, .int .i64 h.reply, .int .i64 h.out] := by
  obtain ⟨cs, rfl, hsz⟩ := okWide_struct Try.underlying30 hv
  obtain ⟨c0, c1, c2, c3, c4, c5, c6, c7, c8, c9, c10, c11, rfl⟩ := array12 cs (hsz.trans (by kernel_rfl))
  obtain ⟨fuel, hf⟩ := h
  obtain ⟨xs, n, -, -, -, hlen, hff⟩ := DataW.trod_struct Try.underlying30 hf
  simp at hlen
  obtain ⟨x0, e0, -⟩ := int_field hff 0 _ rfl rfl (by omega)
  obtain ⟨x3, e3, -⟩ := int_field hff 2 _ rfl rfl (by omega)
  obtain ⟨x4, e4, -⟩ := int_field hff 3 _ rfl rfl (by omega)
  obtain ⟨x5, e5, -⟩ := int_field hff 4 _ rfl rfl (by omega)
  obtain ⟨x6, e6, -⟩ := int_field hff 5 _ rfl rfl (by omega)
  obtain ⟨x7, e7, -⟩ := int_field hff 6 _ rfl rfl (by omega)
  obtain ⟨x8, e8, -⟩ := int_field hff 7 _ rfl rfl (by omega)
  obtain ⟨x9, e9, -⟩ := int_field hff 8 _ rfl rfl (by omega)
  obtain ⟨x10, e10, -⟩ := int_field hff 9 _ rfl rfl (by omega)
  obtain ⟨x11, e11, -⟩ := int_field hff 10 _ rfl rfl (by omega)
  have h1 : DataW.trod enc Try.prog W m sp hd n 28 (([c0, c1, c2, c3, c4, c5, c6, c7, c8, c9, c10, c11].drop 1).take (Try.prog.cellsOf 28)) = xs[1]? := hff 1 _ rfl
  rw [List.getElem?_eq_getElem (show 1 < xs.length by omega)] at h1
  obtain ⟨y0, y1, k, -, -, hy0, hy1⟩ := trod_struct2 Try.underlying28 h1
  replace hy0 : DataW.trod enc Try.prog W m sp hd k 2 (((([c0, c1, c2, c3, c4, c5, c6, c7, c8, c9, c10, c11].drop 1).take (Try.prog.cellsOf 28)).drop 0).take (Try.prog.cellsOf 2)) = some y0 := hy0
  replace hy1 : DataW.trod enc Try.prog W m sp hd k 2 (((([c0, c1, c2, c3, c4, c5, c6, c7, c8, c9, c10, c11].drop 1).take (Try.prog.cellsOf 28)).drop 1).take (Try.prog.cellsOf 2)) = some y1 := hy1
  rw [show Try.prog.cellsOf 28 = 2 by kernel_rfl] at hy0 hy1
  obtain ⟨x1, e1, _, -⟩ := DataW.trod_int Try.underlying2 hy0
  obtain ⟨x2, e2, _, -⟩ := DataW.trod_int Try.underlying2 hy1
  rw [show Try.prog.cellsOf 2 = 1 by kernel_rfl] at e1 e2
  simp [Value.cells] at e0 e1 e2 e3 e4 e5 e6 e7 e8 e9 e10 e11
  subst e0 e1 e2 e3 e4 e5 e6 e7 e8 e9 e10 e11
  exact ⟨⟨x0, x1, x2, x3, x4, x5, x6, x7, x8, x9, x10, x11⟩, rfl⟩

end Go.Proofs.Ytdpahikbikiilaa
