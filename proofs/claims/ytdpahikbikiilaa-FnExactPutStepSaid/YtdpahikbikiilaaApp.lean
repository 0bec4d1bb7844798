/- Numbers appended to a slice of the call's own: one number, or all of another slice. -/
import Derived.Test.YtdpahikbikiilaaS6c
import Derived.Test.YtdpahikbikiilaaHold
import Derived.Deep.RegionHeld3
import Derived.Deep.DeepCutAuto
namespace Go.Proofs.Ytdpahikbikiilaa
open Go.RowKit

/-- A slice of the call's own that reads as a list of numbers. -/
def OwnI (base : Nat) (v : Value) (xs : List Int) (w : World) : Prop := w.ownsRow base 2 1 v xs.length (vals xs)

theorem OwnI.form {base : Nat} {v : Value} {xs : List Int} {w : World} (h : OwnI base v xs w) : ∃ a cap, v = .slice a xs.length cap ∧ IntsW (a, xs.length, xs) w := by
  rcases h.2 with ⟨rfl, h0⟩ | ⟨g, cap, cur, rfl, hb, hg, hc, hm, hs, ht⟩
  · refine ⟨none, 0, by rw [h0], rfl, fun i x hx => ?_⟩
    have : xs = [] := List.eq_nil_of_length_eq_zero h0
    subst this
    simp at hx
  · exact ⟨_, _, rfl, Ints.own h⟩

theorem OwnI.form2 {base : Nat} {v : Value} {xs : List Int} {w : World} (h : OwnI base v xs w) : ∃ a n cap, v = .slice a n cap ∧ IntsW (a, n, xs) w := by
  obtain ⟨a, c, e, hi⟩ := OwnI.form h
  exact ⟨a, _, c, e, hi⟩

theorem OwnI.step {base : Nat} {v : Value} {xs : List Int} {w w' : World} (h : OwnI base v xs w) (hb : Below w.heap.size w w') : OwnI base v xs w' := own_grown h hb

theorem OwnI.low {base base' : Nat} {v : Value} {xs : List Int} {w : World} (h : OwnI base v xs w) (hb : base' ≤ base) : OwnI base' v xs w := own_low h hb

theorem OwnI.alloc {base : Nat} {v : Value} {xs : List Int} {w : World} (h : OwnI base v xs w) (o : Obj) : OwnI base v xs (w.alloc o) := World.ownsRow.alloc h o

theorem vals_app (xs ys : List Int) : vals xs ++ vals ys = vals (xs ++ ys) := by simp [vals]

theorem run_app (base : Nat) (v : Value) (xs ys : List Int) (a : Option Addr) (m c : Nat) (ty : TypeId) (w : World) (ho : OwnI base v xs w) (hs : IntsW (a, m, ys) w) (hn : xs.length + m ≤ 8388608) (hb : base ≤ w.heap.size) :
    ∃ v' w', (Builtin.append_ #[24, 24] ty #[v, .slice a m c]).run Try.prog w = .ok v' w' ∧ OwnI base v' (xs ++ ys) w' ∧ w.grownBy w' v.ownBlock ∧ (v'.ownBlock = v.ownBlock ∨ v'.ownBlock = some w.heap.size) := by
  obtain ⟨i0, hi0, hz0, hz1, hz2⟩ := info_parts (P := Try.prog) (e := 2) (z := .int .i64 0) (size := 1) (bytes := 8) (by kernel_rfl)
  have hl : ys.length = m := hs.1
  cases a with
  | none =>
    have h0 : ys = [] := by
      cases ys with
      | nil => rfl
      | cons y ys => obtain ⟨b, off, e, -, -⟩ := hs.2 0 y rfl; cases e
    subst h0
    simp at hl
    subst hl
    refine ⟨v, w, ?_, by rw [List.append_nil]; exact ho, World.grownBy.refl _ _, Or.inl rfl⟩
    rcases ho.2 with ⟨rfl, h0⟩ | ⟨g, cap, cur, rfl, _, _, hnc, _⟩
    · simp [Builtin.append_, run_underlying Try.underlying24, sizeOf, typeInfo, hi0, Builtin.lenOf, Builtin.firstCells]
    · simp [Builtin.append_, run_underlying Try.underlying24, sizeOf, typeInfo, hi0, Builtin.lenOf, Builtin.firstCells, hnc, storeCells]
  | some ad =>
    have hcell : ∀ j u, (vals ys)[j]? = some u → w.cell? (ad.add j) = some u := by
      intro j u hu
      have hj : j < ys.length := by
        rcases Nat.lt_or_ge j ys.length with h' | h'
        · exact h'
        · simp [vals, List.getElem?_eq_none h'] at hu
      obtain ⟨b, off, e, -, hc⟩ := hs.2 j ys[j] (List.getElem?_eq_getElem hj)
      cases e
      have : u = .int .i64 ys[j] := by simpa [vals, List.getElem?_eq_getElem hj] using hu.symm
      rw [this, ← hc, Addr.add_lit]
    obtain ⟨v', w', hr, h2, h3, -, h5⟩ := run_append_own_at (P := Try.prog) w base 24 ty 2 i0 _ 1 8 Try.underlying24 hi0 hz0 hz1 hz2 rfl (by omega) v xs.length (vals xs) ho ad m c (vals ys) (by simp [vals, hl]) hcell (by intro u hu; simp [vals] at hu; obtain ⟨x, -, rfl⟩ := hu; rfl) (by unfold maxLen; omega) (by omega) hb
    refine ⟨v', w', hr, ?_, h3, h5⟩
    unfold OwnI
    rw [← vals_app, List.length_append, hl]
    exact h2

/-- At the operation. -/
theorem wp_app {o : Oper} {a0 : Act} {K : Act → World → Prop} {Q : Exit → Act → World → Prop} {w : World} (s x : Operand)
    (ho : o.op = .call { callee := .builtin .append, args := #[s, x], argTypes := #[24, 24] })
    (base : Nat) (v : Value) (xs ys : List Int) (a : Option Addr) (m c : Nat) (hv : a0.eval s = v) (hx : a0.eval x = .slice a m c) (hown : OwnI base v xs w) (hs : IntsW (a, m, ys) w) (hn : xs.length + m ≤ 8388608) (hb : base ≤ w.heap.size)
    (h : ∀ v' w', OwnI base v' (xs ++ ys) w' → w.grownBy w' v.ownBlock → (v'.ownBlock = v.ownBlock ∨ v'.ownBlock = some w.heap.size) → K (a0.put o.dst v') w') : o.wp Try.prog a0 w K Q := by
  obtain ⟨v', w', hr, h2, h3, h4⟩ := run_app base v xs ys a m c o.type w hown hs hn hb
  unfold Oper.wp execOp
  simp only [ho, resolve, invoke, builtin, Sem.run_bind, Sem.run_pure, Result.andThen_ok, List.map_toArray, List.map_cons, List.map_nil, hv, hx, hr]
  exact h v' w' h2 h3 h4

/-- At the list of a plain region's operations. -/
theorem wpList_app {ops : Array Oper} {rest : List Oper} {o : Oper} {a0 : Act} {Q : Exit → Act → World → Prop} {w : World} (hgd : o.guard = none) (s x : Operand)
    (ho : o.op = .call { callee := .builtin .append, args := #[s, x], argTypes := #[24, 24] })
    (base : Nat) (v : Value) (xs ys : List Int) (a : Option Addr) (m c : Nat) (hv : a0.eval s = v) (hx : a0.eval x = .slice a m c) (hown : OwnI base v xs w) (hs : IntsW (a, m, ys) w) (hn : xs.length + m ≤ 8388608) (hb : base ≤ w.heap.size)
    (h : ∀ v' w', OwnI base v' (xs ++ ys) w' → w.grownBy w' v.ownBlock → (v'.ownBlock = v.ownBlock ∨ v'.ownBlock = some w.heap.size) → wpList Try.prog ops Q rest (a0.put o.dst v') w') : wpList Try.prog ops Q (o :: rest) a0 w :=
  wpList_plain hgd fun _ hK => wp_app s x ho base v xs ys a m c hv hx hown hs hn hb fun v' w' h2 h3 h4 => hK _ _ (h v' w' h2 h3 h4)

/-- At a step of a region that draws its order. -/
theorem step_app {ops : Array Oper} {o : Oper} {a0 : Act} {K : Act → World → Prop} {Q : Exit → Act → World → Prop} {E : Prop} {w : World} (hgd : o.guard = none) (s x : Operand)
    (ho : o.op = .call { callee := .builtin .append, args := #[s, x], argTypes := #[24, 24] })
    (base : Nat) (v : Value) (xs ys : List Int) (a : Option Addr) (m c : Nat) (hv : a0.eval s = v) (hx : a0.eval x = .slice a m c) (hown : OwnI base v xs w) (hs : IntsW (a, m, ys) w) (hn : xs.length + m ≤ 8388608) (hb : base ≤ w.heap.size)
    (h : ∀ v' w', OwnI base v' (xs ++ ys) w' → w.grownBy w' v.ownBlock → (v'.ownBlock = v.ownBlock ∨ v'.ownBlock = some w.heap.size) → K (a0.put o.dst v') w') : if Region.wanted o (yielded ops a0.tmps) = true then Oper.wp Try.prog o a0 w K Q else E := by
  have hw : Region.wanted o (yielded ops a0.tmps) = true := by simp [Region.wanted, hgd]
  rw [if_pos hw]
  exact wp_app s x ho base v xs ys a m c hv hx hown hs hn hb h

theorem OwnI.ints {base : Nat} {a : Option Addr} {n c : Nat} {xs : List Int} {w : World} (h : OwnI base (.slice a n c) xs w) : IntsW (a, n, xs) w := by
  obtain ⟨a', c', e, hi⟩ := OwnI.form h
  cases e
  exact hi

theorem OwnI.len {base : Nat} {a : Option Addr} {n c : Nat} {xs : List Int} {w : World} (h : OwnI base (.slice a n c) xs w) : n = xs.length := (OwnI.ints h).1.symm

/-- It is as it was where another row was written. -/
theorem OwnI.kept {base : Nat} {v : Value} {xs : List Int} {w w' : World} {row : Option Nat} (h : OwnI base v xs w) (hg : w.grownBy w' row) (hne : ∀ k, v.ownBlock = some k → row ≠ some k) : OwnI base v xs w' :=
  World.ownsRow.kept h hg (by
    cases hv : v.ownBlock with
    | none => exact Or.inl rfl
    | some k => exact Or.inr (fun e => hne k hv e.symm))

theorem OwnI.lt {base : Nat} {v : Value} {xs : List Int} {w : World} (h : OwnI base v xs w) : ∀ k, v.ownBlock = some k → base ≤ k ∧ k < w.heap.size := World.ownsRow.lt h

/-- A write to a block below its own. -/
theorem OwnI.setLow {base : Nat} {v : Value} {xs : List Int} {w : World} {p : Addr} {u : Value} (h : OwnI base v xs w) (hp : p.block < base) : OwnI base v xs (w.setCell p u) := ownsRow_setCell_below h hp u

/-- A copy of a slice. -/
def GivesI (xs : List Int) (w : World) (e : Ending) (w' : World) : Prop := ∃ v, e = .returned v ∧ OwnI w.heap.size v xs w' ∧ Below w.heap.size w w'

theorem specCopy (a : Option Addr) (n cap : Nat) (xs : List Int) (w : World) (h : IntsW (a, n, xs) w) (hn : n ≤ 4194304) :
    Calls Try.prog 51 #[.slice a n cap] w (GivesI xs w) := by
  have H := Lib.hid h
  clear h
  have H0 := Lib.hid (show OwnI w.heap.size (.slice (some ⟨w.heap.size, 0, none⟩) 0 0) [] (w.alloc (.cells #[] 2)) from World.ownsRow_made w #[] 0 (Nat.le_refl _) (Nat.zero_le _) rfl)
  go_enter Try.func51, Try.ntmps51
  go_wp2_with (refine wpList_app (by rfl) _ _ (by rfl) w.heap.size _ [] xs a n cap (by rfl) (by rfl) H0.out (H.out.alloc _) (by simp; omega) (by simp) ?_; intro v' w' ho hg hv)
  go_ret
  exact ⟨v', rfl, by simpa using ho, Below.grown ((Below.refl _ _).alloc (Nat.le_refl _) _) hg (by simp) (fun k e => by cases e; exact Nat.le_refl _)⟩

end Go.Proofs.Ytdpahikbikiilaa
