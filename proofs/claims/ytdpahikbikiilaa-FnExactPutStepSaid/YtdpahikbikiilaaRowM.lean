/- A struct written into the middle of a row, over memory known by blocks. It speaks of no function. -/
import Derived.Test.YtdpahikbikiilaaWalk
import Derived.Laws.CopyRow
namespace Go.Proofs.Ytdpahikbikiilaa
open Go.RowKit

/-- A row with other cells from place o on. -/
def splice : Array Value → Nat → List Value → Array Value
  | cur, _, [] => cur
  | cur, o, v :: r => splice (cur.setIfInBounds o v) (o + 1) r

theorem setCells_row {b : Nat} {t : TypeId} {fr : Nat × Nat} : ∀ (vs : List Value) (o : Nat) (cur : Array Value) (w : World), w.heap[b]? = some (.cells cur t fr) → w.setCells b o vs = w.setRow b (splice cur o vs)
  | [], _, cur, w, h => (setRow_self w b cur t fr h).symm
  | v :: r, o, cur, w, h => by
    rw [World.setCells, setCell_eq_setRow w b o cur t fr v h, setCells_row r (o + 1) (cur.setIfInBounds o v) _ (setRow_heap w b cur _ t fr h), setRow_setRow]
    rfl

section
variable {P : Program} {ops : Array Oper} {rest : List Oper} {o : Oper} {a : Act} {w : World} {K : Act → World → Prop} {Q : Exit → Act → World → Prop}
variable {l l' : List (Nat × Obj)} {G : List Nat} {base : World}

theorem wp_storem {b j : Nat} {t : TypeId} {old cells : Array Value} (ty : TypeId) (x y : Operand) (ho : o.op = .store ty x y) (hx : a.eval x = .pointer (some ⟨b, j, none⟩)) (hy : a.eval y = .agg cells) (hb : w.heap[b]? = some (.cells old t (0, 0)))
    (hj : j + cells.size ≤ old.size) (hi : (P.info? ty).map (·.size) = some cells.size) (h1 : cells.all (·.oneCell') = true) (h : K (a.put o.dst undef) (w.setRow b (splice old j cells.toList))) : o.wp P a w K Q := by
  have ht : w.there b j cells.size := fun k hk => ⟨by rw [blk_cell hb, Array.getElem?_eq_getElem (by omega)]; rfl, blk_free hb⟩
  unfold Oper.wp execOp
  simp only [ho, hx, hy, Instr.storeAt, Instr.sureAddr, Sem.run_bind, Sem.run_pure, Result.andThen_ok, run_storeVar_mid w b j ty cells ht hi h1, setCells_row _ _ _ _ hb]
  exact h

theorem wpl_storem (h : Mem l G base w) (hgd : Region.wanted o (yielded ops a.tmps) = true) (ty : TypeId) (x y : Operand) (ho : o.op = .store ty x y) {b j : Nat} (hx : a.eval x = .pointer (some ⟨b, j, none⟩)) {old cs cells : Array Value} {t : TypeId}
    (hU : Upd b l (.cells old t (0, 0)) (.cells cs t (0, 0)) l') (hy : a.eval y = .agg cells) (hj : j + cells.size ≤ old.size) (hz : (P.info? ty).map (·.size) = some cells.size) (h1 : cells.all (·.oneCell') = true) (hb : base.heap.size ≤ b ∨ b ∈ G) (hc : splice old j cells.toList = cs)
    (hk : ∀ w', Mem l' G base w' → wpList P ops Q rest (a.put o.dst undef) w') : wpList P ops Q (o :: rest) a w := by
  subst hc
  obtain ⟨i, hi, hl⟩ := hU
  exact wpl_want hgd fun K hK => wp_storem ty x y ho hx hy (h.at_ i hi) hj hz h1 (hK _ _ (hk _ (h.put i hi hb hl)))

theorem wpo_storem (h : Mem l G base w) (ty : TypeId) (x y : Operand) (ho : o.op = .store ty x y) {b j : Nat} (hx : a.eval x = .pointer (some ⟨b, j, none⟩)) {old cs cells : Array Value} {t : TypeId}
    (hU : Upd b l (.cells old t (0, 0)) (.cells cs t (0, 0)) l') (hy : a.eval y = .agg cells) (hj : j + cells.size ≤ old.size) (hz : (P.info? ty).map (·.size) = some cells.size) (h1 : cells.all (·.oneCell') = true) (hb : base.heap.size ≤ b ∨ b ∈ G) (hc : splice old j cells.toList = cs)
    (hk : ∀ w', Mem l' G base w' → K (a.put o.dst undef) w') : o.wp P a w K Q := by
  subst hc
  obtain ⟨i, hi, hl⟩ := hU
  exact wp_storem ty x y ho hx hy (h.at_ i hi) hj hz h1 (hk _ (h.put i hi hb hl))

theorem exec_build (t : TypeId) (parts : Array (Nat × Operand)) (ho : o.op = .build t parts) {vs : Array Value} (hf : P.built t (parts.map fun (i, x) => (i, a.eval x)).toList = some vs) : (execOp a.eval o).run P w = .ok (.value (.agg vs)) w := by
  unfold execOp
  simp only [ho, Sem.run_bind, run_build w t _ vs hf, Result.andThen_ok, Sem.run_pure]

end

end Go.Proofs.Ytdpahikbikiilaa
