/- A walk by reckoning: slices of numbers of the call's own. It speaks of no function. -/
import Derived.Test.YtdpahikbikiilaaSxg
import Derived.Test.YtdpahikbikiilaaInts
namespace Go.Proofs.Ytdpahikbikiilaa
open Go.RowKit
namespace Sx

/-! Conditions of the way, said plainly. -/
theorem beqT {x y : Int} (h : Value.bool (x == y) = .bool true) : x = y := by simpa using h
theorem beqF {x y : Int} (h : Value.bool (x == y) = .bool false) : ¬ x = y := by simpa using h
theorem ltT {x y : Int} (h : Value.bool (decide (x < y)) = .bool true) : x < y := by simpa using h
theorem ltF {x y : Int} (h : Value.bool (decide (x < y)) = .bool false) : ¬ x < y := by simpa using h
theorem boT {b c : Bool} (h : Value.bool b = .bool c) : b = c := by simpa using h

/-- A row of numbers: the slice, its block, what stands there. -/
def OwnL (E : TypeId) (xs : List Int) (v : Value) (g : Nat) (o : Obj) : Prop := ∃ c cur, v = .slice (some ⟨g, 0, none⟩) xs.length c ∧ o = .cells cur E (0, 0) ∧ xs.length ≤ c ∧ c ≤ maxLen ∧ cur.size = c ∧ cur.toList.take xs.length = vals xs

theorem OwnL.of_own {base : Nat} {E : TypeId} {v : Value} {xs : List Int} {w : World} (h : w.ownsRow base E 1 v xs.length (vals xs)) (h0 : 0 < xs.length) : ∃ g o, w.heap[g]? = some o ∧ base ≤ g ∧ OwnL E xs v g o := by
  rcases h.2 with ⟨-, h1⟩ | ⟨g, cap, cur, rfl, hb, hg, hc, hm, hs, ht⟩
  · omega
  · refine ⟨g, _, hg, hb, cap, cur, rfl, rfl, hc, hm, by omega, ?_⟩
    simpa using ht

theorem OwnL.slice {E : TypeId} {v : Value} {xs : List Int} {g : Nat} {o : Obj} (h : OwnL E xs v g o) : ∃ c, asSlice v = .slice (some ⟨g, 0, none⟩) xs.length c := by
  obtain ⟨c, cur, rfl, -⟩ := h
  exact ⟨c, rfl⟩

theorem OwnL.owns {base : Nat} {E : TypeId} {v : Value} {xs : List Int} {g : Nat} {o : Obj} {w : World} (h : OwnL E xs v g o) (hb : base ≤ g) (hg : w.heap[g]? = some o) : w.ownsRow base E 1 (asSlice v) xs.length (vals xs) := by
  obtain ⟨c, cur, rfl, rfl, h1, h2, h3, h4⟩ := h
  exact ⟨by simp [vals], .inr ⟨g, c, cur, rfl, hb, hg, h1, h2, by omega, by simpa using h4⟩⟩

theorem OwnL.at_ {E : TypeId} {v : Value} {xs : List Int} {g j : Nat} {o : Obj} (h : OwnL E xs v g o) (hj : j < xs.length) : ∃ cur, o = .cells cur E (0, 0) ∧ cur[j]? = some (.int .i64 (xs.getD j 0)) := by
  obtain ⟨c, cur, rfl, rfl, h1, h2, h3, h4⟩ := h
  refine ⟨cur, rfl, ?_⟩
  have hx : (vals xs)[j]? = some (.int .i64 (xs.getD j 0)) := by simp [vals, List.getD_eq_getElem?_getD, List.getElem?_eq_getElem hj]
  rw [← h4, List.getElem?_take, if_pos hj] at hx
  rw [← Array.getElem?_toList]; exact hx

theorem OwnL.ints {E : TypeId} {v : Value} {xs : List Int} {g : Nat} {o : Obj} {w : World} (h : OwnL E xs v g o) (hg : w.heap[g]? = some o) : Ints w.heap.size (some ⟨g, 0, none⟩) xs.length xs w :=
  ⟨rfl, fun i x hx => ⟨g, 0, rfl, blk_lt hg, by
    have hi : i < xs.length := (List.getElem?_eq_some_iff.1 hx).1
    obtain ⟨cur, rfl, hc⟩ := h.at_ hi
    have he : xs.getD i 0 = x := by rw [List.getD_eq_getElem?_getD, hx]; rfl
    rw [Nat.zero_add, blk_cell hg, hc, he]⟩⟩

/-- An element's address. -/
theorem exec_index {P : Program} {o : Oper} {a : Act} {w : World} {t e : TypeId} {x y : Operand} (ho : o.op = .indexAddr t x y) (hu : P.underlying t = some (.slice e)) (hs : (P.info? e).map (·.size) = some 1) {b off len cap : Nat} {k : IntKind} {i : Int}
    (hx : a.eval x = .slice (some ⟨b, off, none⟩) len cap) (hy : a.eval y = .int k i) (h0 : 0 ≤ i) (h1 : i < len) : (execOp a.eval o).run P w = .ok (.value (.pointer (some ⟨b, off + i.toNat, none⟩))) w := by
  cases hi : P.info? e with
  | none => simp [hi] at hs
  | some ie =>
    have hs1 : ie.size = 1 := by simpa [hi] using hs
    have hrun : (Instr.indexAt t (.slice (some ⟨b, off, none⟩) len cap) (.int k i)).run P w = .ok (.pointer (some ⟨b, off + i.toNat, none⟩)) w := by
      unfold Instr.indexAt
      simp only [asIntOf, Sem.run_bind, Sem.run_pure, Result.andThen_ok, run_underlying hu]
      rw [if_pos ⟨h0, h1⟩]
      simp only [Sem.run_bind, sizeOf, typeInfo, program, Sem.run, hi, Sem.run_pure, Result.andThen_ok, hs1, Nat.mul_one, Addr.add]
      split
      · rename_i hz
        simp [hz]
      · rfl
    unfold execOp
    simp only [ho, hx, hy, Sem.run_bind, hrun, Result.andThen_ok, Sem.run_pure]

/-- An element is read. -/
theorem OwnL.load {P : Program} {o : Oper} {a : Act} {w : World} {E ty : TypeId} {d : TypeDesc} {x : Operand} (ho : o.op = .load ty x) (hu : P.underlying ty = some d) (hd : d.isRow = false) {v : Value} {xs : List Int} {g j : Nat} {ob : Obj} (h : OwnL E xs v g ob) (hg : w.heap[g]? = some ob) (hj : j < xs.length)
    (hx : a.eval x = .pointer (some ⟨g, j, none⟩)) : (execOp a.eval o).run P w = .ok (.value (.int .i64 (xs.getD j 0))) w := by
  obtain ⟨cur, rfl, hc⟩ := h.at_ hj
  exact exec_loadc ty x ho hx hg hc hu hd

/-- An element is written. -/
theorem OwnL.store {P : Program} {o : Oper} {a : Act} {w : World} {K : Act → World → Prop} {Q : Exit → Act → World → Prop} {E ty : TypeId} {x y : Operand} (ho : o.op = .store ty x y) (hz : (P.info? ty).map (·.size) = some 1) {v : Value} {xs : List Int} {g j : Nat} {ob : Obj} {l : List (Nat × Obj)} {G : List Nat} {base : World}
    (h : OwnL E xs v g ob) (hM : Mem ((g, ob) :: l) G base w) (hm : base.heap.size ≤ g ∨ g ∈ G) (hj : j < xs.length) (hx : a.eval x = .pointer (some ⟨g, j, none⟩)) {z : Int} (hy : a.eval y = .int .i64 z)
    (hk : ∀ ob' w', OwnL E (xs.set j z) v g ob' → Mem ((g, ob') :: l) G base w' → K (a.put o.dst undef) w') : o.wp P a w K Q := by
  obtain ⟨c, cur, rfl, rfl, h1, h2, h3, h4⟩ := h
  refine wp_storec ty x y ho hx hy hM.hd (by omega) hz rfl rfl (hk _ _ ?_ (hM.put 0 rfl hm rfl))
  refine ⟨c, _, by rw [List.length_set], rfl, by rw [List.length_set]; exact h1, h2, by simp [h3], ?_⟩
  rw [List.length_set, Array.toList_setIfInBounds, List.take_set, h4]
  simp [vals, List.map_set]

/-- One block. -/
def block1 (ds : List Dy) : List (Nat × Obj) := [((ds.headD default).n, (ds.headD default).o)]

/-- A call that gives up. -/
theorem ob_pan {P : Program} {X : Ctx} {f : Nat} {args : List V} {pc : List (T × Bool)} {fs : List (Nat × List Nat)} {ret : V} {j : Nat} {vs : Array Value} (h : ∀ w, Calls P f vs w fun e w' => e = .panicked [{ v := X.E.pan j, recovered := false }] ∧ w = w') (hv : ∀ δ : Dl, (args.map (V.den X.E δ)).toArray = vs := by intro δ; rfl) :
    (Ob.call f args pc fs [] [] { ret := ret, pan := some j }).holds P X := by
  intro δ w l hpre
  rw [hv δ]
  refine (h w).mono fun e w' ⟨he, hw⟩ => ⟨δ, ⟨Agree.refl _ _, fun f hf => (by cases hf), hw ▸ hpre.blk, fun d hd => (by cases hd)⟩, he⟩

/-! Calls that give a new row. -/

def upd (δ : Dl) (d : Nat) (x : Dy) : Dl := fun k => if k = d then x else δ k

theorem upd_same (δ : Dl) (d : Nat) (x : Dy) : upd δ d x d = x := by simp [upd]

theorem upd_agree (δ : Dl) (d : Nat) (x : Dy) : Agree [d] δ (upd δ d x) := fun k hk => by
  have : k ≠ d := by simpa using hk
  simp [upd, this]

theorem ob_new1 {P : Program} {X : Ctx} {f : Nat} {args : List V} {pc : List (T × Bool)} {fs : List (Nat × List Nat)} {ret : V} {d j k : Nat} (hj : X.E.ob j = Sx.block1)
    (h : ∀ δ w l, Pcs X.E δ pc → Fss X.E δ fs → Mem l X.G X.base w → Calls P f (args.map (V.den X.E δ)).toArray w fun e w' => ∃ x : Dy, e = .returned (ret.den X.E (upd δ d x)) ∧ w'.heap[x.n]? = some x.o ∧ w.heap.size ≤ x.n ∧ X.E.fact k [x] ∧ Below w.heap.size w w') :
    (Ob.call f args pc fs [] [] { ret := ret, news := [d], obs := [(d, j, [d])], fs := [(k, [d])] }).holds P X := by
  intro δ w l hpre
  refine (h δ w l (Each.of hpre.pc) (Each.of hpre.fs) hpre.blk).mono fun e w' ⟨x, he, hx, hn, hf, hb⟩ => ⟨upd δ d x, ⟨upd_agree δ d x, fun f hm => ?_, ?_, fun q hq => ?_⟩, he⟩
  · have : f = (k, [d]) := by simpa using hm
    subst this
    simpa [upd_same] using hf
  · have e : rows X.E (upd δ d x) [] [(d, j, [d])] = [(x.n, x.o)] := by simp [rows, oRow, upd_same, hj, block1]
    simp only [e]
    exact Mem.made hpre.blk hb hx hn
  · have e : rows X.E (upd δ d x) [] [(d, j, [d])] = [(x.n, x.o)] := by simp [rows, oRow, upd_same, hj, block1]
    simp only [e] at hq
    have : q = (x.n, x.o) := by simpa using hq
    subst this
    left
    have := hpre.blk.grownIn.size
    show X.base.heap.size ≤ x.n
    omega

end Sx
end Go.Proofs.Ytdpahikbikiilaa
