/- The program's heap of waiting items in memory: its methods and container/heap over them. -/
import Derived.Test.YtllepakgpiddeaaHeapP
import Derived.Test.YtllepakgpiddeaaHold
import Derived.ChangeKeysEq
import Derived.Deep.QuietTactic
import Derived.RegionTactic
import Derived.Shelf.GgSortMore.Iface
import Derived.Sort.WalkB12
import Derived.Deep.RegionHeldLaw
import Derived.Deep.RegionLaw
import Derived.Deep.RegionHeld3
namespace Go.Proofs.Ytllepakgpiddeaa
open Go.RowKit

theorem quiet_b {B : Nat} {a w : World} (h : Below B a w) (n : Nat) : Below B a (w.drewN n) := h.trans ⟨rfl, rfl, rfl, Nat.le_refl _, fun _ _ => rfl⟩

/-- The cells of items. -/
def its (L : List (Int × Int)) : List Value := L.flatMap fun x => [.int .i64 x.1, .int .i64 x.2]

theorem its_len (L : List (Int × Int)) : (its L).length = L.length * 2 := by
  induction L with
  | nil => rfl
  | cons x L ih => unfold its at *; rw [List.flatMap_cons, List.length_append, ih]; simp; omega

theorem its_app (L M : List (Int × Int)) : its (L ++ M) = its L ++ its M := by simp [its]

theorem its_cons (x : Int × Int) (L : List (Int × Int)) : its (x :: L) = .int .i64 x.1 :: .int .i64 x.2 :: its L := by simp [its]

theorem its_at (L : List (Int × Int)) (k : Nat) (h : k < L.length) : (its L)[k * 2]? = some (.int .i64 (L.getD k (0, 0)).1) ∧ (its L)[k * 2 + 1]? = some (.int .i64 (L.getD k (0, 0)).2) := by
  induction L generalizing k with
  | nil => simp at h
  | cons x L ih =>
    rw [its_cons]
    cases k with
    | zero => simp
    | succ k =>
      have := ih k (by simpa using h)
      rw [show (k + 1) * 2 = k * 2 + 1 + 1 by omega]
      simpa using this

theorem its_set (L : List (Int × Int)) (k : Nat) (x : Int × Int) : its (L.set k x) = ((its L).set (k * 2) (.int .i64 x.1)).set (k * 2 + 1) (.int .i64 x.2) := by
  induction L generalizing k with
  | nil => simp [its]
  | cons y L ih =>
    cases k with
    | zero => simp [its_cons]
    | succ k => rw [List.set_cons_succ, its_cons, its_cons, ih, show (k + 1) * 2 = k * 2 + 1 + 1 by omega]; simp

theorem its_take (L : List (Int × Int)) (k : Nat) (h : k ≤ L.length) : (its L).take (k * 2) = its (L.take k) := by
  induction L generalizing k with
  | nil => simp at h; subst h; simp [its]
  | cons y L ih =>
    cases k with
    | zero => simp [its]
    | succ k =>
      have := ih k (by simpa using h)
      rw [List.take_succ_cons, its_cons, its_cons, show (k + 1) * 2 = k * 2 + 1 + 1 by omega]
      simp [this]

/-- A slice of items of the call's own. -/
def RowW (base : Nat) (v : Value) (L : List (Int × Int)) (w : World) : Prop := w.ownsRow base 52 2 v L.length (its L)

theorem RowW.kept {base : Nat} {v : Value} {L : List (Int × Int)} {w w' : World} {row : Option Nat} (h : RowW base v L w) (hg : w.grownBy w' row) (hne : ∀ k, v.ownBlock = some k → row ≠ some k) : RowW base v L w' :=
  World.ownsRow.kept h hg (by
    cases hv : v.ownBlock with
    | none => exact Or.inl rfl
    | some k => exact Or.inr (fun e => hne k hv e.symm))

theorem RowW.step {base : Nat} {v : Value} {L : List (Int × Int)} {w w' : World} (h : RowW base v L w) (hb : Below w.heap.size w w') : RowW base v L w' := h.kept (grown_below hb none) (by simp)

theorem RowW.form {base : Nat} {v : Value} {L : List (Int × Int)} {w : World} (h : RowW base v L w) {i : Nat} (hi : i < L.length) :
    ∃ g cap cur, v = .slice (some ⟨g, 0, none⟩) L.length cap ∧ base ≤ g ∧ w.heap[g]? = some (.cells cur 52 (0, 0)) ∧ L.length ≤ cap ∧ cap ≤ maxLen ∧ cur.size = cap * 2 ∧ cur.toList.take (L.length * 2) = its L := by
  rcases h.2 with ⟨-, h0⟩ | ⟨g, cap, cur, e, h1, h2, h3, h4, h5, h6⟩
  · omega
  · exact ⟨g, cap, cur, e, h1, h2, h3, h4, h5, h6⟩

theorem RowW.cell {base g n cap : Nat} {L : List (Int × Int)} {w : World} (h : RowW base (.slice (some ⟨g, 0, none⟩) n cap) L w) {k : Nat} (hk : k < L.length) :
    w.cell? ⟨g, k * 2, none⟩ = some (.int .i64 (L.getD k (0, 0)).1) ∧ w.cell? ⟨g, k * 2 + 1, none⟩ = some (.int .i64 (L.getD k (0, 0)).2) ∧ w.frozen? ⟨g, k * 2, none⟩ = false ∧ w.frozen? ⟨g, k * 2 + 1, none⟩ = false := by
  obtain ⟨g', cap', cur, e, h1, h2, h3, h4, h5, h6⟩ := RowW.form h hk
  cases e
  obtain ⟨a, b⟩ := its_at L k hk
  rw [← h6] at a b
  rw [List.getElem?_take_of_lt (by omega), Array.getElem?_toList] at a b
  exact ⟨(blk_cell h2).trans a, (blk_cell h2).trans b, blk_free h2, blk_free h2⟩

theorem RowW.lt {base : Nat} {v : Value} {L : List (Int × Int)} {w : World} (h : RowW base v L w) : ∀ k, v.ownBlock = some k → base ≤ k ∧ k < w.heap.size := World.ownsRow.lt h

theorem RowW.len {base n cap : Nat} {a : Option Addr} {L : List (Int × Int)} {w : World} (h : RowW base (.slice a n cap) L w) : n = L.length := by
  rcases h.2 with ⟨e, h0⟩ | ⟨g, c, cur, e, -⟩
  · cases e; exact h0.symm
  · cases e; rfl

theorem RowW.form2 {base : Nat} {v : Value} {L : List (Int × Int)} {w : World} (h : RowW base v L w) : ∃ a cap, v = .slice a L.length cap := by
  rcases h.2 with ⟨e, h0⟩ | ⟨g, c, cur, e, -⟩
  · exact ⟨none, 0, by rw [e, h0]⟩
  · exact ⟨_, _, e⟩

theorem RowW.nil (base : Nat) (w : World) : RowW base (.slice none 0 0) [] w := ⟨rfl, Or.inl ⟨rfl, rfl⟩⟩

theorem RowW.set {base g n cap k : Nat} {L M : List (Int × Int)} {w : World} {u : Value} (h : w.ownsRow base 52 2 (.slice (some ⟨g, 0, none⟩) n cap) n (its L)) (hk : k < n * 2) :
    (w.setCell ⟨g, k, none⟩ u).ownsRow base 52 2 (.slice (some ⟨g, 0, none⟩) n cap) n ((its L).set k u) := by
  rcases h.2 with ⟨e, -⟩ | ⟨g', c, cur, e, h1, h2, h3, h4, h5, h6⟩
  · cases e
  · cases e
    refine ⟨by rw [List.length_set]; exact h.1, Or.inr ⟨g, cap, _, rfl, h1, blk_set h2, h3, h4, by simpa using h5, ?_⟩⟩
    rw [← h6, Array.toList_setIfInBounds, List.take_set]

theorem row_set {base g n cap k : Nat} {xs : List Value} {w : World} {u : Value} (h : w.ownsRow base 52 2 (.slice (some ⟨g, 0, none⟩) n cap) n xs) :
    (w.setCell ⟨g, k, none⟩ u).ownsRow base 52 2 (.slice (some ⟨g, 0, none⟩) n cap) n (xs.set k u) := by
  rcases h.2 with ⟨e, -⟩ | ⟨g', c, cur, e, h1, h2, h3, h4, h5, h6⟩
  · cases e
  · cases e
    refine ⟨by rw [List.length_set]; exact h.1, Or.inr ⟨g, cap, _, rfl, h1, blk_set h2, h3, h4, by simpa using h5, ?_⟩⟩
    rw [← h6, Array.toList_setIfInBounds, List.take_set]

theorem row_drewN {base n : Nat} {v : Value} {xs : List Value} {w : World} (h : w.ownsRow base 52 2 v n xs) (q : Nat) : (w.drewN q).ownsRow base 52 2 v n xs := h

theorem RowW.pre {base g n cap k : Nat} {L : List (Int × Int)} {w : World} (h : RowW base (.slice (some ⟨g, 0, none⟩) n cap) L w) (hk : k ≤ L.length) : RowW base (.slice (some ⟨g, 0, none⟩) k cap) (L.take k) w := by
  rcases h.2 with ⟨e, -⟩ | ⟨g', c, cur, e, h1, h2, h3, h4, h5, h6⟩
  · cases e
  · cases e
    have hl : (L.take k).length = k := by simp; omega
    refine ⟨by rw [its_len], Or.inr ⟨g, cap, cur, by rw [hl], h1, h2, by omega, h4, h5, ?_⟩⟩
    rw [hl, ← its_take L k hk, ← h6, List.take_take]
    congr 1
    omega

theorem cell_some {w : World} {p q : Addr} {x v : Value} (h : w.cell? q = some v) : ∃ v', (w.setCell p x).cell? q = some v' := cell?_setCell_some h

-- the methods
theorem len_at (a : Option Addr) (n cap : Nat) (hn : n ≤ 64) (w : World) : Calls Try.prog 97 #[.slice a n cap] w fun e w' => e = .returned (.int .i64 n) ∧ w = w' := by
  go_enter Try.func97, Try.ntmps97
  go_wp2
  go_ret
  exact ⟨rfl, rfl⟩

set_option maxHeartbeats 2000000 in
theorem less_at (g n cap i j : Nat) (a c : Int) (w : World) (hi : i < n) (hj : j < n) (hn : n ≤ 64) (ci : w.cell? ⟨g, i * 2, none⟩ = some (.int .i64 a)) (cj : w.cell? ⟨g, j * 2, none⟩ = some (.int .i64 c)) :
    Calls Try.prog 98 #[.slice (some ⟨g, 0, none⟩) n cap, .int .i64 i, .int .i64 j] w fun e w' => e = .returned (.bool (decide (a < c))) ∧ Below w.heap.size w w' := by
  go_enter Try.func98, Try.ntmps98
  go_wp2
  go_quiet (fail)
  go_wp2
  go_ret
  exact ⟨rfl, quiet_b (Below.refl _ _) nq⟩

set_option maxHeartbeats 2000000 in
theorem swap_at (g n cap i j : Nat) (a b c d : Int) (w : World) (hi : i < n) (hj : j < n) (hn : n ≤ 64) (ci : w.cell? ⟨g, i * 2, none⟩ = some (.int .i64 a)) (cj : w.cell? ⟨g, j * 2, none⟩ = some (.int .i64 c))
   (ci1 : w.cell? ⟨g, i * 2 + 1, none⟩ = some (.int .i64 b)) (cj1 : w.cell? ⟨g, j * 2 + 1, none⟩ = some (.int .i64 d))
   (fi : w.frozen? ⟨g, i * 2, none⟩ = false) (fj : w.frozen? ⟨g, j * 2, none⟩ = false)
   (fi1 : w.frozen? ⟨g, i * 2 + 1, none⟩ = false) (fj1 : w.frozen? ⟨g, j * 2 + 1, none⟩ = false)  :
    Calls Try.prog 99 #[.slice (some ⟨g, 0, none⟩) n cap, .int .i64 i, .int .i64 j] w fun e w' => e = .returned (.tuple #[]) ∧ ∃ q, w' = ((((w.setCell ⟨g, i * 2, none⟩ (.int .i64 c)).setCell ⟨g, i * 2 + 1, none⟩ (.int .i64 d)).setCell ⟨g, j * 2, none⟩ (.int .i64 a)).setCell ⟨g, j * 2 + 1, none⟩ (.int .i64 b)).drewN q := by
  obtain ⟨v1, h1⟩ := cell_some (w := w) (p := ⟨g, i * 2, none⟩) (x := .int .i64 c) (q := ⟨g, j * 2, none⟩) cj
  obtain ⟨v2, h2⟩ : ∃ v, ((w.setCell ⟨g, i * 2, none⟩ (.int .i64 c)).setCell ⟨g, i * 2 + 1, none⟩ (.int .i64 d)).cell? ⟨g, j * 2 + 1, none⟩ = some v := by
    obtain ⟨v3, h3⟩ := cell_some (w := w) (p := ⟨g, i * 2, none⟩) (x := .int .i64 c) (q := ⟨g, j * 2 + 1, none⟩) cj1
    exact cell_some h3
  go_enter Try.func99, Try.ntmps99
  go_wp2
  go_region
  all_goals (try go_wp2)
  all_goals go_end0
  all_goals exact ⟨rfl, 1, rfl⟩

/-- A heap's variable and its row. -/
def HW (p base : Nat) (v : Value) (L : List (Int × Int)) (w : World) : Prop := w.heap[p]? = some (.cells #[v] 49 (0, 0)) ∧ RowW base v L w

theorem HW.step {p base : Nat} {v : Value} {L : List (Int × Int)} {w w' : World} (h : HW p base v L w) (hb : Below w.heap.size w w') : HW p base v L w' := ⟨blk_below h.1 hb (blk_lt h.1), h.2.step hb⟩

theorem HW.var {p base : Nat} {v : Value} {L : List (Int × Int)} {w : World} (h : HW p base v L w) : w.cell? ⟨p, 0, none⟩ = some v ∧ w.frozen? ⟨p, 0, none⟩ = false := ⟨blk_is h.1 rfl, blk_free h.1⟩

theorem HW.apart {p base : Nat} {v : Value} {L : List (Int × Int)} {w : World} (h : HW p base v L w) : v.ownBlock ≠ some p := by
  intro e
  rcases h.2.2 with ⟨rfl, -⟩ | ⟨g, c, cur, rfl, h1, h2, -⟩
  · cases e
  · have e' : g = p := Option.some.inj e
    subst e'
    have := h.1.symm.trans h2
    simp at this

theorem lessC (p base : Nat) (v : Value) (L : List (Int × Int)) (w : World) (h : HW p base v L w) (i j : Nat) (hi : i < L.length) (hj : j < L.length) (h64 : L.length ≤ 64) :
    Calls Try.prog 98 #[v, .int .i64 i, .int .i64 j] w fun e w' => e = .returned (.bool (decide (tk L i < tk L j))) ∧ HW p base v L w' ∧ Below w.heap.size w w' := by
  obtain ⟨g, cap, cur, rfl, -⟩ := RowW.form h.2 hi
  refine (less_at g L.length cap i j _ _ w hi hj h64 (h.2.cell hi).1 (h.2.cell hj).1).mono ?_
  rintro e w' ⟨rfl, hb⟩
  exact ⟨rfl, h.step hb, hb⟩

theorem swapC (p base : Nat) (v : Value) (L : List (Int × Int)) (w : World) (h : HW p base v L w) (i j : Nat) (hi : i < L.length) (hj : j < L.length) (h64 : L.length ≤ 64) :
    Calls Try.prog 99 #[v, .int .i64 i, .int .i64 j] w fun e w' => e = .returned (.tuple #[]) ∧ HW p base v (swp L i j) w' ∧ w.grownBy w' v.ownBlock := by
  have hap := h.apart
  obtain ⟨g, cap, cur, rfl, -⟩ := RowW.form h.2 hi
  obtain ⟨i0, i1, i2, i3⟩ := h.2.cell hi
  obtain ⟨j0, j1, j2, j3⟩ := h.2.cell hj
  refine (swap_at g L.length cap i j _ _ _ _ w hi hj h64 i0 j0 i1 j1 i2 j2 i3 j3).mono ?_
  rintro e w' ⟨rfl, q, rfl⟩
  have hgr : w.grownBy (((((w.setCell ⟨g, i * 2, none⟩ (.int .i64 (L.getD j (0, 0)).1)).setCell ⟨g, i * 2 + 1, none⟩ (.int .i64 (L.getD j (0, 0)).2)).setCell ⟨g, j * 2, none⟩ (.int .i64 (L.getD i (0, 0)).1)).setCell ⟨g, j * 2 + 1, none⟩ (.int .i64 (L.getD i (0, 0)).2)).drewN q) (some g) :=
    grown_drewN (grown_trans (grown_trans (grown_trans (grown_set _ _ _ _) (grown_set _ _ _ _)) (grown_set _ _ _ _)) (grown_set _ _ _ _)) q
  refine ⟨rfl, ⟨blk_grown h.1 hgr (fun e => hap e.symm), ?_⟩, hgr⟩
  have := row_drewN (row_set (k := j * 2 + 1) (u := .int .i64 (L.getD i (0, 0)).2) (row_set (k := j * 2) (u := .int .i64 (L.getD i (0, 0)).1) (row_set (k := i * 2 + 1) (u := .int .i64 (L.getD j (0, 0)).2) (row_set (k := i * 2) (u := .int .i64 (L.getD j (0, 0)).1) h.2)))) q
  rw [← its_set, ← its_set] at this
  unfold RowW
  rw [swp_len]
  exact this

-- how a method is reached
theorem wrap_run (P : Program) (a b : TypeId) (ad : Addr) (s m : String) (w : World) : Sem.run P (Builtin.ssaWrapNilChk_ #[a] b #[.pointer (some ad), strVal s, strVal m]) w = .ok (.pointer (some ad)) w := rfl

theorem reach_v (name : String) (f : Nat) (hm : ((Try.prog.info? 54).bind fun i => (i.methods.find? (·.name == name)).map (fun m => (m.path, m.func))) = some (#[], some (f, false))) (p : Nat) (v : Value) (w : World) (h : w.cell? ⟨p, 0, none⟩ = some v) :
    Sem.run Try.prog (method (Try.prog.types.size + 100) 54 (.pointer (some ⟨p, 0, none⟩)) name) w = .ok (f, v) w := by
  obtain ⟨i, hi, hm⟩ := Option.bind_eq_some_iff.1 hm
  obtain ⟨m, hm1, hm2⟩ := Option.map_eq_some_iff.1 hm
  have e1 : m.path = #[] := congrArg Prod.fst hm2
  have e2 : m.func = some (f, false) := congrArg Prod.snd hm2
  unfold method
  simp [Sem.run_bind, run_typeInfo w hi, hm1, e1, e2, follow, receiverAt, run_underlying Try.underlying54, Place.get, wrap_run, asAddr, go_sem, h]

theorem reach_len (p : Nat) (v : Value) (w : World) (h : w.cell? ⟨p, 0, none⟩ = some v) : Sem.run Try.prog (method (Try.prog.types.size + 100) 54 (.pointer (some ⟨p, 0, none⟩)) "Len") w = .ok (97, v) w := reach_v "Len" 97 (by kernel_rfl) p v w h

theorem reach_less (p : Nat) (v : Value) (w : World) (h : w.cell? ⟨p, 0, none⟩ = some v) : Sem.run Try.prog (method (Try.prog.types.size + 100) 54 (.pointer (some ⟨p, 0, none⟩)) "Less") w = .ok (98, v) w := reach_v "Less" 98 (by kernel_rfl) p v w h

theorem reach_swap (p : Nat) (v : Value) (w : World) (h : w.cell? ⟨p, 0, none⟩ = some v) : Sem.run Try.prog (method (Try.prog.types.size + 100) 54 (.pointer (some ⟨p, 0, none⟩)) "Swap") w = .ok (99, v) w := reach_v "Swap" 99 (by kernel_rfl) p v w h

theorem reach_pop (p : Nat) : ∀ w : World, Sem.run Try.prog (method (Try.prog.types.size + 100) 54 (.pointer (some ⟨p, 0, none⟩)) "Pop") w = .ok (100, .pointer (some ⟨p, 0, none⟩)) w := fun w => by kernel_rfl

theorem reach_push (p : Nat) : ∀ w : World, Sem.run Try.prog (method (Try.prog.types.size + 100) 54 (.pointer (some ⟨p, 0, none⟩)) "Push") w = .ok (101, .pointer (some ⟨p, 0, none⟩)) w := fun w => by kernel_rfl

theorem extract_one (x : Value) (ys : Array Value) : (#[x] ++ ys).extract 1 (#[x] ++ ys).size = ys := by
  apply Array.ext_getElem?
  intro i
  simp [Array.getElem?_extract, Array.getElem?_append]

theorem first_one (x : Value) (ys : Array Value) : (#[x] ++ ys)[0]? = some x := by simp [Array.getElem?_append]

theorem wpl_meth {P : Program} {ops : Array Oper} {rest : List Oper} {o : Oper} {a0 : Act} {Q : Exit → Act → World → Prop} {w : World} (name : String) (hgd : Region.wanted o (yielded ops a0.tmps) = true) (recv : Operand) (xs : Array Operand) (ts : Array TypeId)
    (ho : o.op = .call { callee := .invoke recv name, args := xs, argTypes := ts }) (T : TypeId) (rv r : Value) (f : Nat) (hrv : a0.eval recv = .iface T rv)
    (hm : Sem.run P (method (P.types.size + 100) T rv name) w = .ok (f, r) w) (he : ∀ args w, Sem.run P (callFunc f args) w = .ok (.enter f args) w)
    (args : Array Value) (hargs : #[r] ++ xs.map a0.eval = args) (post : Ending → World → Prop) (hc : Calls P f args w post) (h : ∀ e w', post e w' → ∃ v, e = .returned v ∧ wpList P ops Q rest (a0.put o.dst v) w') : wpList P ops Q (o :: rest) a0 w :=
  wpList_step fun K hK => by
    rw [if_pos hgd]
    subst hargs
    unfold Oper.wp execOp
    simp only [ho, resolve, invoke, callMethod, Sem.run_bind, Sem.run_pure, Result.andThen_ok, hrv, first_one, extract_one, run_program]
    rw [show Made.depth = 100 from rfl, hm]
    simp only [Result.andThen_ok, he, Oper.upon_enter]
    refine hc.mono ?_
    rintro e w' hp
    obtain ⟨v, rfl, hw⟩ := h e w' hp
    exact hK _ _ hw

theorem wpl_meth0 {P : Program} {ops : Array Oper} {rest : List Oper} {o : Oper} {a0 : Act} {Q : Exit → Act → World → Prop} {w : World} (name : String) (hgd : Region.wanted o (yielded ops a0.tmps) = true) (recv : Operand)  (ts : Array TypeId)
    (ho : o.op = .call { callee := .invoke recv name, args := #[], argTypes := ts }) (T : TypeId) (rv r : Value) (f : Nat) (hrv : a0.eval recv = .iface T rv)
    (hm : Sem.run P (method (P.types.size + 100) T rv name) w = .ok (f, r) w) (he : ∀ args w, Sem.run P (callFunc f args) w = .ok (.enter f args) w)
     (post : Ending → World → Prop) (hc : Calls P f #[r] w post) (h : ∀ e w', post e w' → ∃ v, e = .returned v ∧ wpList P ops Q rest (a0.put o.dst v) w') : wpList P ops Q (o :: rest) a0 w :=
  wpl_meth name hgd recv _ ts ho T rv r f hrv hm he _ (by simp []) post hc h

theorem wpl_meth1 {P : Program} {ops : Array Oper} {rest : List Oper} {o : Oper} {a0 : Act} {Q : Exit → Act → World → Prop} {w : World} (name : String) (hgd : Region.wanted o (yielded ops a0.tmps) = true) (recv : Operand) (x0 : Operand) (ts : Array TypeId)
    (ho : o.op = .call { callee := .invoke recv name, args := #[x0], argTypes := ts }) (T : TypeId) (rv r : Value) (f : Nat) (hrv : a0.eval recv = .iface T rv)
    (hm : Sem.run P (method (P.types.size + 100) T rv name) w = .ok (f, r) w) (he : ∀ args w, Sem.run P (callFunc f args) w = .ok (.enter f args) w)
    (u0 : Value) (h0 : a0.eval x0 = u0) (post : Ending → World → Prop) (hc : Calls P f #[r, u0] w post) (h : ∀ e w', post e w' → ∃ v, e = .returned v ∧ wpList P ops Q rest (a0.put o.dst v) w') : wpList P ops Q (o :: rest) a0 w :=
  wpl_meth name hgd recv _ ts ho T rv r f hrv hm he _ (by simp [h0]) post hc h

theorem wpl_meth2 {P : Program} {ops : Array Oper} {rest : List Oper} {o : Oper} {a0 : Act} {Q : Exit → Act → World → Prop} {w : World} (name : String) (hgd : Region.wanted o (yielded ops a0.tmps) = true) (recv : Operand) (x0 : Operand) (x1 : Operand) (ts : Array TypeId)
    (ho : o.op = .call { callee := .invoke recv name, args := #[x0, x1], argTypes := ts }) (T : TypeId) (rv r : Value) (f : Nat) (hrv : a0.eval recv = .iface T rv)
    (hm : Sem.run P (method (P.types.size + 100) T rv name) w = .ok (f, r) w) (he : ∀ args w, Sem.run P (callFunc f args) w = .ok (.enter f args) w)
    (u0 : Value) (h0 : a0.eval x0 = u0) (u1 : Value) (h1 : a0.eval x1 = u1) (post : Ending → World → Prop) (hc : Calls P f #[r, u0, u1] w post) (h : ∀ e w', post e w' → ∃ v, e = .returned v ∧ wpList P ops Q rest (a0.put o.dst v) w') : wpList P ops Q (o :: rest) a0 w :=
  wpl_meth name hgd recv _ ts ho T rv r f hrv hm he _ (by simp [h0, h1]) post hc h

set_option maxRecDepth 100000 in
set_option maxHeartbeats 4000000 in
theorem upC (p base : Nat) (v : Value) (L : List (Int × Int)) (j : Nat) (w : World) (h : HW p base v L w) (hj : j < L.length) (h64 : L.length ≤ 64) (hu : upInv L j) :
    Calls Try.prog 59 #[.iface 54 (.pointer (some ⟨p, 0, none⟩)), .int .i64 j] w fun e w' => e = .returned (.tuple #[]) ∧ ∃ L', L'.Perm L ∧ heapN L'.length L' ∧ HW p base v L' w' ∧ w.grownBy w' v.ownBlock := by
  have HH := Lib.hid h
  have HU := Lib.hid hu
  clear h hu
  have eLen : ∀ args w, Sem.run Try.prog (callFunc 97 args) w = .ok (.enter 97 args) w := enters_of Try.func97 (by kernel_rfl) rfl
  have eLess : ∀ args w, Sem.run Try.prog (callFunc 98 args) w = .ok (.enter 98 args) w := enters_of Try.func98 (by kernel_rfl) rfl
  have eSwap : ∀ args w, Sem.run Try.prog (callFunc 99 args) w = .ok (.enter 99 args) w := enters_of Try.func99 (by kernel_rfl) rfl
  have ePop : ∀ args w, Sem.run Try.prog (callFunc 100 args) w = .ok (.enter 100 args) w := enters_of Try.func100 (by kernel_rfl) rfl
  have ePush : ∀ args w, Sem.run Try.prog (callFunc 101 args) w = .ok (.enter 101 args) w := enters_of Try.func101 (by kernel_rfl) rfl
  go_enter Try.func59, Try.ntmps59
  go_wp2
  go_loopw [1] (fun jv wr => ∃ (k : Nat) (M : List (Int × Int)), jv = .int .i64 k ∧ k < L.length ∧ M.Perm L ∧ upInv M k ∧ HW p base v M wr ∧ w.grownBy wr v.ownBlock) (fun jv _ => (intOf jv).toNat)
  case atStart => exact ⟨j, L, rfl, hj, List.Perm.refl _, HU.out, HH.out, World.grownBy.refl _ _⟩
  case round =>
    obtain ⟨k, M, rfl, hk, hp, hu, hh, hg⟩ := hrel
    have hl : M.length = L.length := hp.length_eq
    have HP := Lib.hid hp
    have HM := Lib.hid hu
    have HR := Lib.hid hh
    have HRg := Lib.hid hg
    clear hp hu hh hg
    by_cases h0 : k = 0
    · subst h0
      go_wp2
      go_end0
      exact ⟨rfl, M, HP.out, up_done HM.out (Or.inl rfl), HR.out, HRg.out⟩
    · obtain ⟨i, hi, hi1, hi2⟩ : ∃ i, i = (k - 1) / 2 ∧ 2 * i + 1 ≤ k ∧ k ≤ 2 * i + 2 := ⟨_, rfl, by omega, by omega⟩
      have HI := Lib.hid hi
      have hI2 : i < M.length := by omega
      have hI1 : k < M.length := by omega
      have ed2 : ((k : Int) - 1) / 2 = (i : Int) := by omega
      have ed : ((k : Int) - 1).tdiv 2 = (i : Int) := by rw [Int.tdiv_eq_ediv_of_nonneg (by omega)]; exact ed2
      have hne : ((i : Int) == (k : Int)) = false := by simp; omega
      clear hi
      by_cases hlt : tk M k < tk M i
      · have hdec : decide (tk M k < tk M i) = true := decide_eq_true hlt
        have HLT := Lib.hid hlt
        clear hlt
        go_wp2_with (first | (refine wpl_meth2 "Less" (by rfl) _ _ _ _ (by rfl) _ _ _ _ (by rfl) (reach_less p v _ (HR.out.var.1)) eLess _ (by rfl) _ (by rfl) _ (lessC p base v _ _ HR.out k i (by omega) (by omega) (by omega)) ?_; rintro e w1 ⟨rfl, hh, hb⟩; refine ⟨_, rfl, ?_⟩; have HA := Lib.hid hh; have HAg := Lib.hid (grown_trans HRg.out (grown_below hb _)); clear hh hb) | (refine wpl_meth2 "Swap" (by rfl) _ _ _ _ (by rfl) _ _ _ _ (by rfl) (reach_swap p v _ (HA.out.var.1)) eSwap _ (by rfl) _ (by rfl) _ (swapC p base v _ _ HA.out i k (by omega) (by omega) (by omega)) ?_; rintro e w2 ⟨rfl, hh, hg⟩; refine ⟨_, rfl, ?_⟩; have HB := Lib.hid hh; have HBg := Lib.hid (grown_trans HAg.out hg); clear hh hg))
        go_roundw
        case rel => exact ⟨i, swp M i k, rfl, by omega, (swp_perm M i k (by omega) (by omega)).trans HP.out, by
          have := up_step HM.out (by omega) hI1 (by rw [← HI.out]; exact HLT.out)
          rwa [← HI.out] at this, HB.out, HBg.out⟩
        case measure => simp [intOf]; omega
      · have hdec : decide (tk M k < tk M i) = false := decide_eq_false hlt
        have HLT := Lib.hid hlt
        clear hlt
        go_wp2_with (first | (refine wpl_meth2 "Less" (by rfl) _ _ _ _ (by rfl) _ _ _ _ (by rfl) (reach_less p v _ (HR.out.var.1)) eLess _ (by rfl) _ (by rfl) _ (lessC p base v _ _ HR.out k i (by omega) (by omega) (by omega)) ?_; rintro e w1 ⟨rfl, hh, hb⟩; refine ⟨_, rfl, ?_⟩; have HA := Lib.hid hh; have HAg := Lib.hid (grown_trans HRg.out (grown_below hb _)); clear hh hb))
        go_end0
        exact ⟨rfl, M, HP.out, up_done HM.out (Or.inr (by rw [← HI.out]; exact Int.not_lt.2 HLT.out)), HA.out, HAg.out⟩

end Go.Proofs.Ytllepakgpiddeaa
