/- Single operations over memory by blocks: loads, stores, new blocks, what a function gives back. It speaks of no function. -/
import Derived.Test.YtdpahikbikiilaaMem
namespace Go.Proofs.Ytdpahikbikiilaa
open Go.RowKit

/-! What a region keeps: these blocks are such, these cells hold such. -/
abbrev Keep0_1 (a0 : Addr) (v0 : Value) : World → Prop := fun w => w.cell? a0 = some v0
abbrev Keep0_2 (a0 : Addr) (v0 : Value) (a1 : Addr) (v1 : Value) : World → Prop := fun w => w.cell? a0 = some v0 ∧ w.cell? a1 = some v1
abbrev Keep0_3 (a0 : Addr) (v0 : Value) (a1 : Addr) (v1 : Value) (a2 : Addr) (v2 : Value) : World → Prop := fun w => w.cell? a0 = some v0 ∧ w.cell? a1 = some v1 ∧ w.cell? a2 = some v2
abbrev Keep1_0 (b0 : Nat) (o0 : Obj) : World → Prop := fun w => w.heap[b0]? = some o0
abbrev Keep1_1 (b0 : Nat) (o0 : Obj) (a0 : Addr) (v0 : Value) : World → Prop := fun w => w.heap[b0]? = some o0 ∧ w.cell? a0 = some v0
abbrev Keep1_2 (b0 : Nat) (o0 : Obj) (a0 : Addr) (v0 : Value) (a1 : Addr) (v1 : Value) : World → Prop := fun w => w.heap[b0]? = some o0 ∧ w.cell? a0 = some v0 ∧ w.cell? a1 = some v1
abbrev Keep1_3 (b0 : Nat) (o0 : Obj) (a0 : Addr) (v0 : Value) (a1 : Addr) (v1 : Value) (a2 : Addr) (v2 : Value) : World → Prop := fun w => w.heap[b0]? = some o0 ∧ w.cell? a0 = some v0 ∧ w.cell? a1 = some v1 ∧ w.cell? a2 = some v2
abbrev Keep2_0 (b0 : Nat) (o0 : Obj) (b1 : Nat) (o1 : Obj) : World → Prop := fun w => w.heap[b0]? = some o0 ∧ w.heap[b1]? = some o1
abbrev Keep2_1 (b0 : Nat) (o0 : Obj) (b1 : Nat) (o1 : Obj) (a0 : Addr) (v0 : Value) : World → Prop := fun w => w.heap[b0]? = some o0 ∧ w.heap[b1]? = some o1 ∧ w.cell? a0 = some v0
abbrev Keep2_2 (b0 : Nat) (o0 : Obj) (b1 : Nat) (o1 : Obj) (a0 : Addr) (v0 : Value) (a1 : Addr) (v1 : Value) : World → Prop := fun w => w.heap[b0]? = some o0 ∧ w.heap[b1]? = some o1 ∧ w.cell? a0 = some v0 ∧ w.cell? a1 = some v1
abbrev Keep2_3 (b0 : Nat) (o0 : Obj) (b1 : Nat) (o1 : Obj) (a0 : Addr) (v0 : Value) (a1 : Addr) (v1 : Value) (a2 : Addr) (v2 : Value) : World → Prop := fun w => w.heap[b0]? = some o0 ∧ w.heap[b1]? = some o1 ∧ w.cell? a0 = some v0 ∧ w.cell? a1 = some v1 ∧ w.cell? a2 = some v2
abbrev Keep3_0 (b0 : Nat) (o0 : Obj) (b1 : Nat) (o1 : Obj) (b2 : Nat) (o2 : Obj) : World → Prop := fun w => w.heap[b0]? = some o0 ∧ w.heap[b1]? = some o1 ∧ w.heap[b2]? = some o2
abbrev Keep3_1 (b0 : Nat) (o0 : Obj) (b1 : Nat) (o1 : Obj) (b2 : Nat) (o2 : Obj) (a0 : Addr) (v0 : Value) : World → Prop := fun w => w.heap[b0]? = some o0 ∧ w.heap[b1]? = some o1 ∧ w.heap[b2]? = some o2 ∧ w.cell? a0 = some v0
abbrev Keep3_2 (b0 : Nat) (o0 : Obj) (b1 : Nat) (o1 : Obj) (b2 : Nat) (o2 : Obj) (a0 : Addr) (v0 : Value) (a1 : Addr) (v1 : Value) : World → Prop := fun w => w.heap[b0]? = some o0 ∧ w.heap[b1]? = some o1 ∧ w.heap[b2]? = some o2 ∧ w.cell? a0 = some v0 ∧ w.cell? a1 = some v1
abbrev Keep3_3 (b0 : Nat) (o0 : Obj) (b1 : Nat) (o1 : Obj) (b2 : Nat) (o2 : Obj) (a0 : Addr) (v0 : Value) (a1 : Addr) (v1 : Value) (a2 : Addr) (v2 : Value) : World → Prop := fun w => w.heap[b0]? = some o0 ∧ w.heap[b1]? = some o1 ∧ w.heap[b2]? = some o2 ∧ w.cell? a0 = some v0 ∧ w.cell? a1 = some v1 ∧ w.cell? a2 = some v2
abbrev Keep4_0 (b0 : Nat) (o0 : Obj) (b1 : Nat) (o1 : Obj) (b2 : Nat) (o2 : Obj) (b3 : Nat) (o3 : Obj) : World → Prop := fun w => w.heap[b0]? = some o0 ∧ w.heap[b1]? = some o1 ∧ w.heap[b2]? = some o2 ∧ w.heap[b3]? = some o3
abbrev Keep4_1 (b0 : Nat) (o0 : Obj) (b1 : Nat) (o1 : Obj) (b2 : Nat) (o2 : Obj) (b3 : Nat) (o3 : Obj) (a0 : Addr) (v0 : Value) : World → Prop := fun w => w.heap[b0]? = some o0 ∧ w.heap[b1]? = some o1 ∧ w.heap[b2]? = some o2 ∧ w.heap[b3]? = some o3 ∧ w.cell? a0 = some v0
abbrev Keep4_2 (b0 : Nat) (o0 : Obj) (b1 : Nat) (o1 : Obj) (b2 : Nat) (o2 : Obj) (b3 : Nat) (o3 : Obj) (a0 : Addr) (v0 : Value) (a1 : Addr) (v1 : Value) : World → Prop := fun w => w.heap[b0]? = some o0 ∧ w.heap[b1]? = some o1 ∧ w.heap[b2]? = some o2 ∧ w.heap[b3]? = some o3 ∧ w.cell? a0 = some v0 ∧ w.cell? a1 = some v1
abbrev Keep4_3 (b0 : Nat) (o0 : Obj) (b1 : Nat) (o1 : Obj) (b2 : Nat) (o2 : Obj) (b3 : Nat) (o3 : Obj) (a0 : Addr) (v0 : Value) (a1 : Addr) (v1 : Value) (a2 : Addr) (v2 : Value) : World → Prop := fun w => w.heap[b0]? = some o0 ∧ w.heap[b1]? = some o1 ∧ w.heap[b2]? = some o2 ∧ w.heap[b3]? = some o3 ∧ w.cell? a0 = some v0 ∧ w.cell? a1 = some v1 ∧ w.cell? a2 = some v2
abbrev Keep5_0 (b0 : Nat) (o0 : Obj) (b1 : Nat) (o1 : Obj) (b2 : Nat) (o2 : Obj) (b3 : Nat) (o3 : Obj) (b4 : Nat) (o4 : Obj) : World → Prop := fun w => w.heap[b0]? = some o0 ∧ w.heap[b1]? = some o1 ∧ w.heap[b2]? = some o2 ∧ w.heap[b3]? = some o3 ∧ w.heap[b4]? = some o4
abbrev Keep5_1 (b0 : Nat) (o0 : Obj) (b1 : Nat) (o1 : Obj) (b2 : Nat) (o2 : Obj) (b3 : Nat) (o3 : Obj) (b4 : Nat) (o4 : Obj) (a0 : Addr) (v0 : Value) : World → Prop := fun w => w.heap[b0]? = some o0 ∧ w.heap[b1]? = some o1 ∧ w.heap[b2]? = some o2 ∧ w.heap[b3]? = some o3 ∧ w.heap[b4]? = some o4 ∧ w.cell? a0 = some v0
abbrev Keep5_2 (b0 : Nat) (o0 : Obj) (b1 : Nat) (o1 : Obj) (b2 : Nat) (o2 : Obj) (b3 : Nat) (o3 : Obj) (b4 : Nat) (o4 : Obj) (a0 : Addr) (v0 : Value) (a1 : Addr) (v1 : Value) : World → Prop := fun w => w.heap[b0]? = some o0 ∧ w.heap[b1]? = some o1 ∧ w.heap[b2]? = some o2 ∧ w.heap[b3]? = some o3 ∧ w.heap[b4]? = some o4 ∧ w.cell? a0 = some v0 ∧ w.cell? a1 = some v1
abbrev Keep5_3 (b0 : Nat) (o0 : Obj) (b1 : Nat) (o1 : Obj) (b2 : Nat) (o2 : Obj) (b3 : Nat) (o3 : Obj) (b4 : Nat) (o4 : Obj) (a0 : Addr) (v0 : Value) (a1 : Addr) (v1 : Value) (a2 : Addr) (v2 : Value) : World → Prop := fun w => w.heap[b0]? = some o0 ∧ w.heap[b1]? = some o1 ∧ w.heap[b2]? = some o2 ∧ w.heap[b3]? = some o3 ∧ w.heap[b4]? = some o4 ∧ w.cell? a0 = some v0 ∧ w.cell? a1 = some v1 ∧ w.cell? a2 = some v2
abbrev Keep6_0 (b0 : Nat) (o0 : Obj) (b1 : Nat) (o1 : Obj) (b2 : Nat) (o2 : Obj) (b3 : Nat) (o3 : Obj) (b4 : Nat) (o4 : Obj) (b5 : Nat) (o5 : Obj) : World → Prop := fun w => w.heap[b0]? = some o0 ∧ w.heap[b1]? = some o1 ∧ w.heap[b2]? = some o2 ∧ w.heap[b3]? = some o3 ∧ w.heap[b4]? = some o4 ∧ w.heap[b5]? = some o5
abbrev Keep6_1 (b0 : Nat) (o0 : Obj) (b1 : Nat) (o1 : Obj) (b2 : Nat) (o2 : Obj) (b3 : Nat) (o3 : Obj) (b4 : Nat) (o4 : Obj) (b5 : Nat) (o5 : Obj) (a0 : Addr) (v0 : Value) : World → Prop := fun w => w.heap[b0]? = some o0 ∧ w.heap[b1]? = some o1 ∧ w.heap[b2]? = some o2 ∧ w.heap[b3]? = some o3 ∧ w.heap[b4]? = some o4 ∧ w.heap[b5]? = some o5 ∧ w.cell? a0 = some v0
abbrev Keep6_2 (b0 : Nat) (o0 : Obj) (b1 : Nat) (o1 : Obj) (b2 : Nat) (o2 : Obj) (b3 : Nat) (o3 : Obj) (b4 : Nat) (o4 : Obj) (b5 : Nat) (o5 : Obj) (a0 : Addr) (v0 : Value) (a1 : Addr) (v1 : Value) : World → Prop := fun w => w.heap[b0]? = some o0 ∧ w.heap[b1]? = some o1 ∧ w.heap[b2]? = some o2 ∧ w.heap[b3]? = some o3 ∧ w.heap[b4]? = some o4 ∧ w.heap[b5]? = some o5 ∧ w.cell? a0 = some v0 ∧ w.cell? a1 = some v1
abbrev Keep6_3 (b0 : Nat) (o0 : Obj) (b1 : Nat) (o1 : Obj) (b2 : Nat) (o2 : Obj) (b3 : Nat) (o3 : Obj) (b4 : Nat) (o4 : Obj) (b5 : Nat) (o5 : Obj) (a0 : Addr) (v0 : Value) (a1 : Addr) (v1 : Value) (a2 : Addr) (v2 : Value) : World → Prop := fun w => w.heap[b0]? = some o0 ∧ w.heap[b1]? = some o1 ∧ w.heap[b2]? = some o2 ∧ w.heap[b3]? = some o3 ∧ w.heap[b4]? = some o4 ∧ w.heap[b5]? = some o5 ∧ w.cell? a0 = some v0 ∧ w.cell? a1 = some v1 ∧ w.cell? a2 = some v2

section
variable {P : Program} {ops : Array Oper} {rest : List Oper} {o : Oper} {a : Act} {w : World} {K : Act → World → Prop} {Q : Exit → Act → World → Prop}
variable {l l' : List (Nat × Obj)} {G : List Nat} {base : World}

theorem Mem.at_ (i : Nat) {p : Nat × Obj} (h : Mem l G base w) (hi : l[i]? = some p) : w.heap[p.1]? = some p.2 := h.1 p (List.mem_of_getElem? hi)

/-- A single cell is read. -/
theorem run_loadVar_one (w : World) (b j : Nat) (ty : TypeId) (v : Value) (d : TypeDesc) (hc : w.cell? ⟨b, j, none⟩ = some v) (hu : P.underlying ty = some d) (hd : d.isRow = false) :
    (loadVar ty ⟨b, j, none⟩).run P w = .ok v w := by
  have hagg : (isAgg ty).run P w = .ok false w := by
    unfold isAgg
    rw [Sem.run_bind, run_underlying hu w]
    cases d <;> simp_all
  simp [loadVar, Sem.run_bind, hagg, load, Sem.run, hc]

/-- Some cells in the middle of a row are read. -/
theorem exec_loadc {b j : Nat} {t : TypeId} {cs : Array Value} {v : Value} {d : TypeDesc} (ty : TypeId) (x : Operand) (ho : o.op = .load ty x) (hx : a.eval x = .pointer (some ⟨b, j, none⟩)) (hb : w.heap[b]? = some (.cells cs t (0, 0)))
    (hv : cs[j]? = some v) (hu : P.underlying ty = some d) (hd : d.isRow = false) : (execOp a.eval o).run P w = .ok (.value v) w := by
  have h := run_loadVar_one (P := P) w b j ty v d (by rw [blk_cell hb]; exact hv) hu hd
  unfold execOp
  simp only [ho, hx, Instr.loadAt, Instr.sureAddr, Sem.run_bind, Sem.run_pure, Result.andThen_ok, h]

theorem exec_loadcell {b j : Nat} {v u : Value} {d : TypeDesc} (ty : TypeId) (x : Operand) (ho : o.op = .load ty x) (hx : a.eval x = .pointer (some ⟨b, j, none⟩)) (hc : w.cell? ⟨b, j, none⟩ = some u) (huv : u = v)
    (hu : P.underlying ty = some d) (hd : d.isRow = false) : (execOp a.eval o).run P w = .ok (.value v) w := by
  subst huv
  have h := run_loadVar_one (P := P) w b j ty u d hc hu hd
  unfold execOp
  simp only [ho, hx, Instr.loadAt, Instr.sureAddr, Sem.run_bind, Sem.run_pure, Result.andThen_ok, h]

theorem Mem.cellAt (i j : Nat) {b : Nat} {cs : Array Value} {t : TypeId} {v : Value} (h : Mem l G base w) (hi : l[i]? = some (b, .cells cs t (0, 0))) (hv : cs[j]? = some v) : w.cell? ⟨b, j, none⟩ = some v := by
  rw [blk_cell (h.at_ i hi)]; exact hv

theorem exec_loadm {b j : Nat} {t : TypeId} {cs sub : Array Value} {d : TypeDesc} (ty : TypeId) (x : Operand) (ho : o.op = .load ty x) (hx : a.eval x = .pointer (some ⟨b, j, none⟩)) (hb : w.heap[b]? = some (.cells cs t (0, 0)))
    (hv : (cs.toList.drop j).take sub.size = sub.toList) (hu : P.underlying ty = some d) (hd : d.isRow = true) (hi : (P.info? ty).map (·.size) = some sub.size) : (execOp a.eval o).run P w = .ok (.value (.agg sub)) w := by
  have hr : w.rangeAt b j sub.toList := fun k v hk => by
    rw [blk_cell hb]
    rw [← hv, List.getElem?_take, List.getElem?_drop] at hk
    split at hk
    · rw [← Array.getElem?_toList]; exact hk
    · cases hk
  have h := run_loadVar_mid (P := P) w b j ty sub.toList d hr hu hd (by simpa using hi)
  unfold execOp
  simp only [ho, hx, Instr.loadAt, Instr.sureAddr, Sem.run_bind, Sem.run_pure, Result.andThen_ok, h]

/-- A single cell is written. -/
theorem run_storeVar_one (w : World) (b j : Nat) (t ty : TypeId) (old : Array Value) (v : Value) (hb : w.heap[b]? = some (.cells old t (0, 0))) (hj : j < old.size) (hi : (P.info? ty).map (·.size) = some 1) (hv : v.cells = #[v]) (h1 : v.oneCell' = true) :
    (storeVar ty ⟨b, j, none⟩ v).run P w = .ok () (w.setRow b (old.setIfInBounds j v)) := by
  have h := run_storeCells_cells (P := P) b j [v] 0 w (fun k hk => by
    have : k = 0 := by simp at hk; exact hk
    subst this
    simp only [Nat.add_zero]
    rw [blk_cell hb, Array.getElem?_eq_getElem hj]; rfl) (fun k hk => by
    have : k = 0 := by simp at hk; exact hk
    subst this
    exact blk_free hb) (fun u hu => by
    have : u = v := by simpa using hu
    subst this; exact h1)
  cases hq : P.info? ty with
  | none => simp [hq] at hi
  | some i =>
    have hs : i.size = 1 := by simpa [hq] using hi
    simp only [Nat.add_zero] at h
    rw [← setCell_eq_setRow w b j old t (0, 0) v hb]
    simpa [storeVar, sizeOf, typeInfo, hq, hv, hs, World.setCells] using h

theorem wp_storec {b j : Nat} {t : TypeId} {old : Array Value} {v : Value} (ty : TypeId) (x y : Operand) (ho : o.op = .store ty x y) (hx : a.eval x = .pointer (some ⟨b, j, none⟩)) (hy : a.eval y = v) (hb : w.heap[b]? = some (.cells old t (0, 0)))
    (hj : j < old.size) (hi : (P.info? ty).map (·.size) = some 1) (hv : v.cells = #[v]) (h1 : v.oneCell' = true) (h : K (a.put o.dst undef) (w.setRow b (old.setIfInBounds j v))) : o.wp P a w K Q := by
  unfold Oper.wp execOp
  simp only [ho, hx, hy, Instr.storeAt, Instr.sureAddr, Sem.run_bind, Sem.run_pure, Result.andThen_ok, run_storeVar_one w b j t ty old v hb hj hi hv h1]
  exact h

/-! The same over memory known by blocks; behind a store the world gets a letter of its own. -/

theorem wpl_want (hw : Region.wanted o (yielded ops a.tmps) = true) (h : ∀ K : Act → World → Prop, (∀ a w, wpList P ops Q rest a w → K a w) → o.wp P a w K Q) : wpList P ops Q (o :: rest) a w :=
  wpList_step fun K hK => by rw [if_pos hw]; exact h K hK

theorem wpl_loadc (hgd : Region.wanted o (yielded ops a.tmps) = true) (ty : TypeId) (x : Operand) (ho : o.op = .load ty x) {b j : Nat} (hx : a.eval x = .pointer (some ⟨b, j, none⟩)) {cs : Array Value} {t : TypeId} (hb : w.heap[b]? = some (.cells cs t (0, 0)))
    {v : Value} (hv : cs[j]? = some v) {d : TypeDesc} (hu : P.underlying ty = some d) (hd : d.isRow = false) (hk : wpList P ops Q rest (a.put o.dst v) w) : wpList P ops Q (o :: rest) a w :=
  wpl_want hgd fun K hK => by
    unfold Oper.wp
    simp only [exec_loadc ty x ho hx hb hv hu hd]
    exact hK _ _ hk

theorem wpl_loadw (hgd : Region.wanted o (yielded ops a.tmps) = true) (ty : TypeId) (x : Operand) (ho : o.op = .load ty x) {b : Nat} (hx : a.eval x = .pointer (some ⟨b, 0, none⟩)) {cs : Array Value} {t : TypeId} (hb : w.heap[b]? = some (.cells cs t (0, 0)))
    {d : TypeDesc} (hu : P.underlying ty = some d) (hd : d.isRow = true) (hz : (P.info? ty).map (·.size) = some cs.size) (hk : wpList P ops Q rest (a.put o.dst (.agg cs)) w) : wpList P ops Q (o :: rest) a w :=
  wpl_want hgd fun K hK => by
    unfold Oper.wp
    simp only [exec_load_row ty x ho hx hb hu hd hz]
    exact hK _ _ hk

theorem wpl_storec (h : Mem l G base w) (hgd : Region.wanted o (yielded ops a.tmps) = true) (ty : TypeId) (x y : Operand) (ho : o.op = .store ty x y) {b j : Nat} (hx : a.eval x = .pointer (some ⟨b, j, none⟩)) {old cs : Array Value} {t : TypeId} {i : Nat} (hi : l[i]? = some (b, .cells old t (0, 0)))
    {v : Value} (hy : a.eval y = v) (hj : j < old.size) (hz : (P.info? ty).map (·.size) = some 1) (hv : v.cells = #[v]) (h1 : v.oneCell' = true) (hb : base.heap.size ≤ b ∨ b ∈ G) (hc : old.setIfInBounds j v = cs) (hl : l.set i (b, .cells cs t (0, 0)) = l')
    (hk : ∀ w', Mem l' G base w' → wpList P ops Q rest (a.put o.dst undef) w') : wpList P ops Q (o :: rest) a w :=
  wpl_want hgd fun K hK => by
    subst hc
    exact wp_storec ty x y ho hx hy (h.at_ i hi) hj hz hv h1 (hK _ _ (hk _ (h.put i hi hb hl)))

theorem wpl_storew (h : Mem l G base w) (hgd : Region.wanted o (yielded ops a.tmps) = true) (ty : TypeId) (x y : Operand) (ho : o.op = .store ty x y) {b : Nat} (hx : a.eval x = .pointer (some ⟨b, 0, none⟩)) {old cells : Array Value} {t : TypeId} {i : Nat} (hi : l[i]? = some (b, .cells old t (0, 0)))
    (hy : a.eval y = .agg cells) (hz : (P.info? ty).map (·.size) = some cells.size) (hs : old.size = cells.size) (h1 : cells.all (·.oneCell') = true) (hb : base.heap.size ≤ b ∨ b ∈ G) (hl : l.set i (b, .cells cells t (0, 0)) = l')
    (hk : ∀ w', Mem l' G base w' → wpList P ops Q rest (a.put o.dst undef) w') : wpList P ops Q (o :: rest) a w :=
  wpl_want hgd fun K hK => wp_store_row ty x y ho b cells hx hy t old (h.at_ i hi) hz hs h1 (hK _ _ (hk _ (h.put i hi hb hl)))

theorem wpo_storec (h : Mem l G base w) (ty : TypeId) (x y : Operand) (ho : o.op = .store ty x y) {b j : Nat} (hx : a.eval x = .pointer (some ⟨b, j, none⟩)) {old cs : Array Value} {t : TypeId} {i : Nat} (hi : l[i]? = some (b, .cells old t (0, 0)))
    {v : Value} (hy : a.eval y = v) (hj : j < old.size) (hz : (P.info? ty).map (·.size) = some 1) (hv : v.cells = #[v]) (h1 : v.oneCell' = true) (hb : base.heap.size ≤ b ∨ b ∈ G) (hc : old.setIfInBounds j v = cs) (hl : l.set i (b, .cells cs t (0, 0)) = l')
    (hk : ∀ w', Mem l' G base w' → K (a.put o.dst undef) w') : o.wp P a w K Q := by
  subst hc
  exact wp_storec ty x y ho hx hy (h.at_ i hi) hj hz hv h1 (hk _ (h.put i hi hb hl))

theorem wpo_storew (h : Mem l G base w) (ty : TypeId) (x y : Operand) (ho : o.op = .store ty x y) {b : Nat} (hx : a.eval x = .pointer (some ⟨b, 0, none⟩)) {old cells : Array Value} {t : TypeId} {i : Nat} (hi : l[i]? = some (b, .cells old t (0, 0)))
    (hy : a.eval y = .agg cells) (hz : (P.info? ty).map (·.size) = some cells.size) (hs : old.size = cells.size) (h1 : cells.all (·.oneCell') = true) (hb : base.heap.size ≤ b ∨ b ∈ G) (hl : l.set i (b, .cells cells t (0, 0)) = l')
    (hk : ∀ w', Mem l' G base w' → K (a.put o.dst undef) w') : o.wp P a w K Q :=
  wp_store_row ty x y ho b cells hx hy t old (h.at_ i hi) hz hs h1 (hk _ (h.put i hi hb hl))

theorem gen_k {w0 : World} (h : Mem l' G base w0) (hk : ∀ w', Mem l' G base w' → K a w') : K a w0 := hk w0 h

theorem gen_list {w0 : World} (h : Mem l' G base w0) (hk : ∀ w', Mem l' G base w' → wpList P ops Q rest a w') : wpList P ops Q rest a w0 := hk w0 h

theorem gen_code {c : Code} {w0 : World} (h : Mem l' G base w0) (hk : ∀ w', Mem l' G base w' → c.wp P Q a w') : c.wp P Q a w0 := hk w0 h

/-! What a function gives back. -/

theorem load_back {b : Nat} {t ty : TypeId} {cs : Array Value} {d : TypeDesc} (hb : w.heap[b]? = some (.cells cs t (0, 0))) (hu : P.underlying ty = some d) (hd : d.isRow = true) (hi : (P.info? ty).map (·.size) = some cs.size) : (loadVar ty ⟨b, 0, none⟩).run P w = .ok (.agg cs) w := by
  have hr : w.rangeAt b 0 cs.toList := fun j v hv => by
    rw [Nat.zero_add, blk_cell hb]
    simpa using hv
  have h := run_loadVar_mid (P := P) w b 0 ty cs.toList d hr hu hd (by simpa using hi)
  simpa using h

theorem results_c {fn : Func} {x : Tmp} {tx : TypeId} {b : Nat} {v : Value} {tmps : Array Value} (h : fn.results = #[.cell x tx]) (hx : tmps.getD x undef = .pointer (some ⟨b, 0, none⟩)) (h1 : (loadVar tx ⟨b, 0, none⟩).run P w = .ok v w) : (results fn tmps).run P w = .ok v w := by
  simp only [Array.getD_eq_getD_getElem?] at *
  simp [results, h, hx, asAddr, Sem.run_bind, h1]

theorem results_cc {fn : Func} {x y : Tmp} {tx ty : TypeId} {b c : Nat} {v u : Value} {tmps : Array Value} (h : fn.results = #[.cell x tx, .cell y ty]) (hx : tmps.getD x undef = .pointer (some ⟨b, 0, none⟩)) (hy : tmps.getD y undef = .pointer (some ⟨c, 0, none⟩))
    (h1 : (loadVar tx ⟨b, 0, none⟩).run P w = .ok v w) (h2 : (loadVar ty ⟨c, 0, none⟩).run P w = .ok u w) : (results fn tmps).run P w = .ok (.tuple #[v, u]) w := by
  simp only [Array.getD_eq_getD_getElem?] at *
  simp [results, h, hx, hy, asAddr, Sem.run_bind, h1, h2]

theorem results_cct {fn : Func} {x y z : Tmp} {tx ty : TypeId} {b c : Nat} {v u : Value} {tmps : Array Value} (h : fn.results = #[.cell x tx, .cell y ty, .tmp z]) (hx : tmps.getD x undef = .pointer (some ⟨b, 0, none⟩)) (hy : tmps.getD y undef = .pointer (some ⟨c, 0, none⟩))
    (h1 : (loadVar tx ⟨b, 0, none⟩).run P w = .ok v w) (h2 : (loadVar ty ⟨c, 0, none⟩).run P w = .ok u w) : (results fn tmps).run P w = .ok (.tuple #[v, u, tmps.getD z undef]) w := by
  simp only [Array.getD_eq_getD_getElem?] at *
  simp [results, h, hx, hy, asAddr, Sem.run_bind, h1, h2]

theorem results_ct {fn : Func} {x z : Tmp} {tx : TypeId} {b : Nat} {v : Value} {tmps : Array Value} (h : fn.results = #[.cell x tx, .tmp z]) (hx : tmps.getD x undef = .pointer (some ⟨b, 0, none⟩))
    (h1 : (loadVar tx ⟨b, 0, none⟩).run P w = .ok v w) : (results fn tmps).run P w = .ok (.tuple #[v, tmps.getD z undef]) w := by
  simp only [Array.getD_eq_getD_getElem?] at *
  simp [results, h, hx, asAddr, Sem.run_bind, h1]

/-! Blocks found by their numbers. -/

theorem Mem.get {b : Nat} {o : Obj} (h : Mem l G base w) (hm : (b, o) ∈ l) : w.heap[b]? = some o := h.1 (b, o) hm

theorem Mem.getc (j : Nat) {b : Nat} {cs : Array Value} {t : TypeId} {v : Value} (h : Mem l G base w) (hm : (b, Obj.cells cs t (0, 0)) ∈ l) (hv : cs[j]? = some v) : w.cell? ⟨b, j, none⟩ = some v := by
  rw [blk_cell (h.get hm)]; exact hv

/-- The list with another object at the block. -/
def Upd (b : Nat) (l : List (Nat × Obj)) (o o' : Obj) (l' : List (Nat × Obj)) : Prop := ∃ i, l[i]? = some (b, o) ∧ l.set i (b, o') = l'

theorem Upd.hd {b : Nat} {o o' : Obj} {l : List (Nat × Obj)} : Upd b ((b, o) :: l) o o' ((b, o') :: l) := ⟨0, rfl, rfl⟩

theorem Upd.tl {b : Nat} {o o' : Obj} {p : Nat × Obj} {l l' : List (Nat × Obj)} (h : Upd b l o o' l') : Upd b (p :: l) o o' (p :: l') := by
  obtain ⟨i, h1, h2⟩ := h
  exact ⟨i + 1, h1, by rw [List.set_cons_succ, h2]⟩

theorem Mem.upd {b : Nat} {old cs : Array Value} {t : TypeId} (h : Mem l G base w) (hU : Upd b l (.cells old t (0, 0)) (.cells cs t (0, 0)) l') (hb : base.heap.size ≤ b ∨ b ∈ G) : Mem l' G base (w.setRow b cs) := by
  obtain ⟨i, h1, h2⟩ := hU
  exact h.put i h1 hb h2

/-- A call that turns one block alone, and makes memory. -/
theorem Mem.turnU {g : Nat} {o o' : Obj} {w' : World} (h : Mem l G base w) (hg : w.grownBy w' (some g)) (ho : w'.heap[g]? = some o') (hU : Upd g l o o' l') (hb : base.heap.size ≤ g ∨ g ∈ G) : Mem l' G base w' := by
  obtain ⟨i, h1, h2⟩ := hU
  exact h.turnAt i h1 hg ho hb h2

theorem wpl_storec2 (h : Mem l G base w) (hgd : Region.wanted o (yielded ops a.tmps) = true) (ty : TypeId) (x y : Operand) (ho : o.op = .store ty x y) {b j : Nat} (hx : a.eval x = .pointer (some ⟨b, j, none⟩)) {old cs : Array Value} {t : TypeId}
    {v : Value} (hU : Upd b l (.cells old t (0, 0)) (.cells cs t (0, 0)) l') (hy : a.eval y = v) (hj : j < old.size) (hz : (P.info? ty).map (·.size) = some 1) (hv : v.cells = #[v]) (h1 : v.oneCell' = true) (hb : base.heap.size ≤ b ∨ b ∈ G) (hc : old.setIfInBounds j v = cs)
    (hk : ∀ w', Mem l' G base w' → wpList P ops Q rest (a.put o.dst undef) w') : wpList P ops Q (o :: rest) a w := by
  obtain ⟨i, hi, hl⟩ := hU
  exact wpl_storec h hgd ty x y ho hx hi hy hj hz hv h1 hb hc hl hk

theorem wpl_storew2 (h : Mem l G base w) (hgd : Region.wanted o (yielded ops a.tmps) = true) (ty : TypeId) (x y : Operand) (ho : o.op = .store ty x y) {b : Nat} (hx : a.eval x = .pointer (some ⟨b, 0, none⟩)) {old cells : Array Value} {t : TypeId}
    (hU : Upd b l (.cells old t (0, 0)) (.cells cells t (0, 0)) l') (hy : a.eval y = .agg cells) (hz : (P.info? ty).map (·.size) = some cells.size) (hs : old.size = cells.size) (h1 : cells.all (·.oneCell') = true) (hb : base.heap.size ≤ b ∨ b ∈ G)
    (hk : ∀ w', Mem l' G base w' → wpList P ops Q rest (a.put o.dst undef) w') : wpList P ops Q (o :: rest) a w := by
  obtain ⟨i, hi, hl⟩ := hU
  exact wpl_storew h hgd ty x y ho hx hi hy hz hs h1 hb hl hk

theorem wpo_storec2 (h : Mem l G base w) (ty : TypeId) (x y : Operand) (ho : o.op = .store ty x y) {b j : Nat} (hx : a.eval x = .pointer (some ⟨b, j, none⟩)) {old cs : Array Value} {t : TypeId}
    {v : Value} (hU : Upd b l (.cells old t (0, 0)) (.cells cs t (0, 0)) l') (hy : a.eval y = v) (hj : j < old.size) (hz : (P.info? ty).map (·.size) = some 1) (hv : v.cells = #[v]) (h1 : v.oneCell' = true) (hb : base.heap.size ≤ b ∨ b ∈ G) (hc : old.setIfInBounds j v = cs)
    (hk : ∀ w', Mem l' G base w' → K (a.put o.dst undef) w') : o.wp P a w K Q := by
  obtain ⟨i, hi, hl⟩ := hU
  exact wpo_storec h ty x y ho hx hi hy hj hz hv h1 hb hc hl hk

theorem wpo_storew2 (h : Mem l G base w) (ty : TypeId) (x y : Operand) (ho : o.op = .store ty x y) {b : Nat} (hx : a.eval x = .pointer (some ⟨b, 0, none⟩)) {old cells : Array Value} {t : TypeId}
    (hU : Upd b l (.cells old t (0, 0)) (.cells cells t (0, 0)) l') (hy : a.eval y = .agg cells) (hz : (P.info? ty).map (·.size) = some cells.size) (hs : old.size = cells.size) (h1 : cells.all (·.oneCell') = true) (hb : base.heap.size ≤ b ∨ b ∈ G)
    (hk : ∀ w', Mem l' G base w' → K (a.put o.dst undef) w') : o.wp P a w K Q := by
  obtain ⟨i, hi, hl⟩ := hU
  exact wpo_storew h ty x y ho hx hi hy hz hs h1 hb hl hk

end

end Go.Proofs.Ytdpahikbikiilaa
