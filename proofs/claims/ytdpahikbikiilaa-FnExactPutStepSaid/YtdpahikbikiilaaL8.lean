/- Contracts of the laws' helpers on calls and hands. -/
import Derived.Test.YtdpahikbikiilaaS8
namespace Go.Proofs.Ytdpahikbikiilaa
open Go.RowKit

theorem toCall_any (k v : Int) (w : World) :
    Calls Try.prog 29 #[.agg #[.int .i64 k, .int .i64 v]] w fun e w' => e = .returned (.agg #[.int .i64 k, .int .i64 v]) ∧ Below w.heap.size w w' := by
  go_enter Try.func29, Try.ntmps29
  go_wp2
  refine bodyPost_ret ?ret rfl ⟨rfl, ?bel⟩
  case ret => simp [results, Try.results29, go_sem]
  case bel => first | exact (((Below.refl w.heap.size w).alloc (Nat.le_refl _) _).alloc (by simp) _).alloc (by simp; omega) _ | exact ((Below.refl w.heap.size w).alloc (Nat.le_refl _) _).alloc (by simp) _

theorem eqCall_same (k v : Int) (w : World) :
    Calls Try.prog 35 #[.agg #[.int .i64 k, .int .i64 v], .agg #[.int .i64 k, .int .i64 v]] w fun e w' => e = .returned (.bool true) ∧ Below w.heap.size w w' := by
  go_enter Try.func35, Try.ntmps35
  go_wp2
  go_ret
  exact ⟨rfl, ((Below.refl w.heap.size w).alloc (Nat.le_refl _) _).alloc (by simp) _⟩

theorem blk_put {w : World} {b o : Nat} {cs cs' : Array Value} {t : TypeId} {u : Value} (h : w.heap[b]? = some (.cells cs t (0, 0))) (hc : cs.setIfInBounds o u = cs') : (w.setCell ⟨b, o, none⟩ u).heap[b]? = some (.cells cs' t (0, 0)) := by
  subst hc; exact blk_set h

theorem blk_fill11 {w : World} {g : Nat} {u0 u1 u2 u3 u4 u5 u6 u7 u8 u9 u10 u11 v1 v2 v3 v4 v5 v6 v7 v8 v9 v10 v11 : Value} {t : TypeId} (h : w.heap[g]? = some (.cells #[u0, u1, u2, u3, u4, u5, u6, u7, u8, u9, u10, u11] t (0, 0))) : (((((((((((w.setCell ⟨g, 1, none⟩ v1).setCell ⟨g, 2, none⟩ v2).setCell ⟨g, 3, none⟩ v3).setCell ⟨g, 4, none⟩ v4).setCell ⟨g, 5, none⟩ v5).setCell ⟨g, 6, none⟩ v6).setCell ⟨g, 7, none⟩ v7).setCell ⟨g, 8, none⟩ v8).setCell ⟨g, 9, none⟩ v9).setCell ⟨g, 10, none⟩ v10).setCell ⟨g, 11, none⟩ v11).heap[g]? = some (.cells #[u0, v1, v2, v3, v4, v5, v6, v7, v8, v9, v10, v11] t (0, 0)) := by
  replace h := blk_put (o := 1) (u := v1) (cs' := #[u0, v1, u2, u3, u4, u5, u6, u7, u8, u9, u10, u11]) h rfl
  replace h := blk_put (o := 2) (u := v2) (cs' := #[u0, v1, v2, u3, u4, u5, u6, u7, u8, u9, u10, u11]) h rfl
  replace h := blk_put (o := 3) (u := v3) (cs' := #[u0, v1, v2, v3, u4, u5, u6, u7, u8, u9, u10, u11]) h rfl
  replace h := blk_put (o := 4) (u := v4) (cs' := #[u0, v1, v2, v3, v4, u5, u6, u7, u8, u9, u10, u11]) h rfl
  replace h := blk_put (o := 5) (u := v5) (cs' := #[u0, v1, v2, v3, v4, v5, u6, u7, u8, u9, u10, u11]) h rfl
  replace h := blk_put (o := 6) (u := v6) (cs' := #[u0, v1, v2, v3, v4, v5, v6, u7, u8, u9, u10, u11]) h rfl
  replace h := blk_put (o := 7) (u := v7) (cs' := #[u0, v1, v2, v3, v4, v5, v6, v7, u8, u9, u10, u11]) h rfl
  replace h := blk_put (o := 8) (u := v8) (cs' := #[u0, v1, v2, v3, v4, v5, v6, v7, v8, u9, u10, u11]) h rfl
  replace h := blk_put (o := 9) (u := v9) (cs' := #[u0, v1, v2, v3, v4, v5, v6, v7, v8, v9, u10, u11]) h rfl
  replace h := blk_put (o := 10) (u := v10) (cs' := #[u0, v1, v2, v3, v4, v5, v6, v7, v8, v9, v10, u11]) h rfl
  replace h := blk_put (o := 11) (u := v11) (cs' := #[u0, v1, v2, v3, v4, v5, v6, v7, v8, v9, v10, v11]) h rfl
  exact h

theorem blk_fill11_below {a w : World} {B g : Nat} {v1 v2 v3 v4 v5 v6 v7 v8 v9 v10 v11 : Value} (h : Below B a w) (hg : B ≤ g) : Below B a (((((((((((w.setCell ⟨g, 1, none⟩ v1).setCell ⟨g, 2, none⟩ v2).setCell ⟨g, 3, none⟩ v3).setCell ⟨g, 4, none⟩ v4).setCell ⟨g, 5, none⟩ v5).setCell ⟨g, 6, none⟩ v6).setCell ⟨g, 7, none⟩ v7).setCell ⟨g, 8, none⟩ v8).setCell ⟨g, 9, none⟩ v9).setCell ⟨g, 10, none⟩ v10).setCell ⟨g, 11, none⟩ v11) := by
  replace h := h.setCell (p := ⟨g, 1, none⟩) hg v1
  replace h := h.setCell (p := ⟨g, 2, none⟩) hg v2
  replace h := h.setCell (p := ⟨g, 3, none⟩) hg v3
  replace h := h.setCell (p := ⟨g, 4, none⟩) hg v4
  replace h := h.setCell (p := ⟨g, 5, none⟩) hg v5
  replace h := h.setCell (p := ⟨g, 6, none⟩) hg v6
  replace h := h.setCell (p := ⟨g, 7, none⟩) hg v7
  replace h := h.setCell (p := ⟨g, 8, none⟩) hg v8
  replace h := h.setCell (p := ⟨g, 9, none⟩) hg v9
  replace h := h.setCell (p := ⟨g, 10, none⟩) hg v10
  replace h := h.setCell (p := ⟨g, 11, none⟩) hg v11
  exact h

theorem blk_fill11_other {w : World} {g b : Nat} {v1 v2 v3 v4 v5 v6 v7 v8 v9 v10 v11 : Value} {x : Obj} (h : w.heap[b]? = some x) (hg : b ≠ g) : (((((((((((w.setCell ⟨g, 1, none⟩ v1).setCell ⟨g, 2, none⟩ v2).setCell ⟨g, 3, none⟩ v3).setCell ⟨g, 4, none⟩ v4).setCell ⟨g, 5, none⟩ v5).setCell ⟨g, 6, none⟩ v6).setCell ⟨g, 7, none⟩ v7).setCell ⟨g, 8, none⟩ v8).setCell ⟨g, 9, none⟩ v9).setCell ⟨g, 10, none⟩ v10).setCell ⟨g, 11, none⟩ v11).heap[b]? = some x := by
  replace h := blk_other (p := ⟨g, 1, none⟩) (v := v1) h hg
  replace h := blk_other (p := ⟨g, 2, none⟩) (v := v2) h hg
  replace h := blk_other (p := ⟨g, 3, none⟩) (v := v3) h hg
  replace h := blk_other (p := ⟨g, 4, none⟩) (v := v4) h hg
  replace h := blk_other (p := ⟨g, 5, none⟩) (v := v5) h hg
  replace h := blk_other (p := ⟨g, 6, none⟩) (v := v6) h hg
  replace h := blk_other (p := ⟨g, 7, none⟩) (v := v7) h hg
  replace h := blk_other (p := ⟨g, 8, none⟩) (v := v8) h hg
  replace h := blk_other (p := ⟨g, 9, none⟩) (v := v9) h hg
  replace h := blk_other (p := ⟨g, 10, none⟩) (v := v10) h hg
  replace h := blk_other (p := ⟨g, 11, none⟩) (v := v11) h hg
  exact h

theorem blk_fill12 {w : World} {g : Nat} {u0 u1 u2 u3 u4 u5 u6 u7 u8 u9 u10 u11 v0 v1 v2 v3 v4 v5 v6 v7 v8 v9 v10 v11 : Value} {t : TypeId} (h : w.heap[g]? = some (.cells #[u0, u1, u2, u3, u4, u5, u6, u7, u8, u9, u10, u11] t (0, 0))) : ((((((((((((w.setCell ⟨g, 0, none⟩ v0).setCell ⟨g, 1, none⟩ v1).setCell ⟨g, 2, none⟩ v2).setCell ⟨g, 3, none⟩ v3).setCell ⟨g, 4, none⟩ v4).setCell ⟨g, 5, none⟩ v5).setCell ⟨g, 6, none⟩ v6).setCell ⟨g, 7, none⟩ v7).setCell ⟨g, 8, none⟩ v8).setCell ⟨g, 9, none⟩ v9).setCell ⟨g, 10, none⟩ v10).setCell ⟨g, 11, none⟩ v11).heap[g]? = some (.cells #[v0, v1, v2, v3, v4, v5, v6, v7, v8, v9, v10, v11] t (0, 0)) := by
  replace h := blk_put (o := 0) (u := v0) (cs' := #[v0, u1, u2, u3, u4, u5, u6, u7, u8, u9, u10, u11]) h rfl
  replace h := blk_put (o := 1) (u := v1) (cs' := #[v0, v1, u2, u3, u4, u5, u6, u7, u8, u9, u10, u11]) h rfl
  replace h := blk_put (o := 2) (u := v2) (cs' := #[v0, v1, v2, u3, u4, u5, u6, u7, u8, u9, u10, u11]) h rfl
  replace h := blk_put (o := 3) (u := v3) (cs' := #[v0, v1, v2, v3, u4, u5, u6, u7, u8, u9, u10, u11]) h rfl
  replace h := blk_put (o := 4) (u := v4) (cs' := #[v0, v1, v2, v3, v4, u5, u6, u7, u8, u9, u10, u11]) h rfl
  replace h := blk_put (o := 5) (u := v5) (cs' := #[v0, v1, v2, v3, v4, v5, u6, u7, u8, u9, u10, u11]) h rfl
  replace h := blk_put (o := 6) (u := v6) (cs' := #[v0, v1, v2, v3, v4, v5, v6, u7, u8, u9, u10, u11]) h rfl
  replace h := blk_put (o := 7) (u := v7) (cs' := #[v0, v1, v2, v3, v4, v5, v6, v7, u8, u9, u10, u11]) h rfl
  replace h := blk_put (o := 8) (u := v8) (cs' := #[v0, v1, v2, v3, v4, v5, v6, v7, v8, u9, u10, u11]) h rfl
  replace h := blk_put (o := 9) (u := v9) (cs' := #[v0, v1, v2, v3, v4, v5, v6, v7, v8, v9, u10, u11]) h rfl
  replace h := blk_put (o := 10) (u := v10) (cs' := #[v0, v1, v2, v3, v4, v5, v6, v7, v8, v9, v10, u11]) h rfl
  replace h := blk_put (o := 11) (u := v11) (cs' := #[v0, v1, v2, v3, v4, v5, v6, v7, v8, v9, v10, v11]) h rfl
  exact h

theorem blk_fill12_below {a w : World} {B g : Nat} {v0 v1 v2 v3 v4 v5 v6 v7 v8 v9 v10 v11 : Value} (h : Below B a w) (hg : B ≤ g) : Below B a ((((((((((((w.setCell ⟨g, 0, none⟩ v0).setCell ⟨g, 1, none⟩ v1).setCell ⟨g, 2, none⟩ v2).setCell ⟨g, 3, none⟩ v3).setCell ⟨g, 4, none⟩ v4).setCell ⟨g, 5, none⟩ v5).setCell ⟨g, 6, none⟩ v6).setCell ⟨g, 7, none⟩ v7).setCell ⟨g, 8, none⟩ v8).setCell ⟨g, 9, none⟩ v9).setCell ⟨g, 10, none⟩ v10).setCell ⟨g, 11, none⟩ v11) := by
  replace h := h.setCell (p := ⟨g, 0, none⟩) hg v0
  replace h := h.setCell (p := ⟨g, 1, none⟩) hg v1
  replace h := h.setCell (p := ⟨g, 2, none⟩) hg v2
  replace h := h.setCell (p := ⟨g, 3, none⟩) hg v3
  replace h := h.setCell (p := ⟨g, 4, none⟩) hg v4
  replace h := h.setCell (p := ⟨g, 5, none⟩) hg v5
  replace h := h.setCell (p := ⟨g, 6, none⟩) hg v6
  replace h := h.setCell (p := ⟨g, 7, none⟩) hg v7
  replace h := h.setCell (p := ⟨g, 8, none⟩) hg v8
  replace h := h.setCell (p := ⟨g, 9, none⟩) hg v9
  replace h := h.setCell (p := ⟨g, 10, none⟩) hg v10
  replace h := h.setCell (p := ⟨g, 11, none⟩) hg v11
  exact h

theorem blk_fill12_other {w : World} {g b : Nat} {v0 v1 v2 v3 v4 v5 v6 v7 v8 v9 v10 v11 : Value} {x : Obj} (h : w.heap[b]? = some x) (hg : b ≠ g) : ((((((((((((w.setCell ⟨g, 0, none⟩ v0).setCell ⟨g, 1, none⟩ v1).setCell ⟨g, 2, none⟩ v2).setCell ⟨g, 3, none⟩ v3).setCell ⟨g, 4, none⟩ v4).setCell ⟨g, 5, none⟩ v5).setCell ⟨g, 6, none⟩ v6).setCell ⟨g, 7, none⟩ v7).setCell ⟨g, 8, none⟩ v8).setCell ⟨g, 9, none⟩ v9).setCell ⟨g, 10, none⟩ v10).setCell ⟨g, 11, none⟩ v11).heap[b]? = some x := by
  replace h := blk_other (p := ⟨g, 0, none⟩) (v := v0) h hg
  replace h := blk_other (p := ⟨g, 1, none⟩) (v := v1) h hg
  replace h := blk_other (p := ⟨g, 2, none⟩) (v := v2) h hg
  replace h := blk_other (p := ⟨g, 3, none⟩) (v := v3) h hg
  replace h := blk_other (p := ⟨g, 4, none⟩) (v := v4) h hg
  replace h := blk_other (p := ⟨g, 5, none⟩) (v := v5) h hg
  replace h := blk_other (p := ⟨g, 6, none⟩) (v := v6) h hg
  replace h := blk_other (p := ⟨g, 7, none⟩) (v := v7) h hg
  replace h := blk_other (p := ⟨g, 8, none⟩) (v := v8) h hg
  replace h := blk_other (p := ⟨g, 9, none⟩) (v := v9) h hg
  replace h := blk_other (p := ⟨g, 10, none⟩) (v := v10) h hg
  replace h := blk_other (p := ⟨g, 11, none⟩) (v := v11) h hg
  exact h


set_option maxRecDepth 100000 in
set_option maxHeartbeats 2000000 in
theorem toHand_any (h : Hd) (w : World) :
    Calls Try.prog 10 #[.agg #[.int .i64 h.at_, .int .i64 h.code, .int .i64 h.val, .int .i64 h.ring, .int .i64 h.tick, .int .i64 h.word, .int .i64 h.tail, .int .i64 h.head, .int .i64 h.index, .int .i64 h.begin_, .int .i64 h.reply, .int .i64 h.out]] w fun e w' => e = .returned (.agg #[.int .i64 h.at_, .int .i64 h.code, .int .i64 h.val, .int .i64 h.ring, .int .i64 h.tick, .int .i64 h.word, .int .i64 h.tail, .int .i64 h.head, .int .i64 h.index, .int .i64 h.begin_, .int .i64 h.reply, .int .i64 h.out]) ∧ Below w.heap.size w w' := by
  have HQ := Lib.hid ((((Held.start w).new (.cells #[.int .i64 h.at_, .int .i64 h.code, .int .i64 h.val, .int .i64 h.ring, .int .i64 h.tick, .int .i64 h.word, .int .i64 h.tail, .int .i64 h.head, .int .i64 h.index, .int .i64 h.begin_, .int .i64 h.reply, .int .i64 h.out] 30)).new (.cells #[.int .i64 0, .int .i64 0, .int .i64 0, .int .i64 0, .int .i64 0, .int .i64 0, .int .i64 0, .int .i64 0, .int .i64 0, .int .i64 0, .int .i64 0, .int .i64 0] 35)).new (.cells #[.int .i64 h.at_, .int .i64 0, .int .i64 0, .int .i64 0, .int .i64 0, .int .i64 0, .int .i64 0, .int .i64 0, .int .i64 0, .int .i64 0, .int .i64 0, .int .i64 0] 35))
  simp only [World.size_alloc] at HQ
  go_enter Try.func10, Try.ntmps10
  go_wp2_with fail
  refine (toCall_any h.code h.val _).mono ?_
  rintro e w1 ⟨rfl, hb⟩
  have HQ1 := Lib.hid (HQ.out.step hb)
  clear hb HQ
  obtain ⟨q0, q1, q2, q3, q4, q5, q6, q7, q8, q9, q10, q11, q12, q13, q14, q15, q16, q17, q18, q19, q20, q21, q22, q23, q24, q25, q26, q27, q28, q29, q30, q31, q32, q33, q34, q35, q36, q37, q38, q39, q40, q41, q42, q43, q44, q45, q46, q47, q48, q49, q50, q51, q52, q53, q54, q55, q56, q57, q58, q59⟩ : w1.cell? ⟨w.heap.size, 0, none⟩ = some (.int .i64 h.at_) ∧ w1.cell? ⟨w.heap.size, 1, none⟩ = some (.int .i64 h.code) ∧ w1.cell? ⟨w.heap.size, 2, none⟩ = some (.int .i64 h.val) ∧ w1.cell? ⟨w.heap.size, 3, none⟩ = some (.int .i64 h.ring) ∧ w1.cell? ⟨w.heap.size, 4, none⟩ = some (.int .i64 h.tick) ∧ w1.cell? ⟨w.heap.size, 5, none⟩ = some (.int .i64 h.word) ∧ w1.cell? ⟨w.heap.size, 6, none⟩ = some (.int .i64 h.tail) ∧ w1.cell? ⟨w.heap.size, 7, none⟩ = some (.int .i64 h.head) ∧ w1.cell? ⟨w.heap.size, 8, none⟩ = some (.int .i64 h.index) ∧ w1.cell? ⟨w.heap.size, 9, none⟩ = some (.int .i64 h.begin_) ∧ w1.cell? ⟨w.heap.size, 10, none⟩ = some (.int .i64 h.reply) ∧ w1.cell? ⟨w.heap.size, 11, none⟩ = some (.int .i64 h.out) ∧ w1.cell? ⟨w.heap.size + 1, 0, none⟩ = some (.int .i64 0) ∧ w1.frozen? ⟨w.heap.size + 1, 0, none⟩ = false ∧ w1.cell? ⟨w.heap.size + 1, 1, none⟩ = some (.int .i64 0) ∧ w1.frozen? ⟨w.heap.size + 1, 1, none⟩ = false ∧ w1.cell? ⟨w.heap.size + 1, 2, none⟩ = some (.int .i64 0) ∧ w1.frozen? ⟨w.heap.size + 1, 2, none⟩ = false ∧ w1.cell? ⟨w.heap.size + 1, 3, none⟩ = some (.int .i64 0) ∧ w1.frozen? ⟨w.heap.size + 1, 3, none⟩ = false ∧ w1.cell? ⟨w.heap.size + 1, 4, none⟩ = some (.int .i64 0) ∧ w1.frozen? ⟨w.heap.size + 1, 4, none⟩ = false ∧ w1.cell? ⟨w.heap.size + 1, 5, none⟩ = some (.int .i64 0) ∧ w1.frozen? ⟨w.heap.size + 1, 5, none⟩ = false ∧ w1.cell? ⟨w.heap.size + 1, 6, none⟩ = some (.int .i64 0) ∧ w1.frozen? ⟨w.heap.size + 1, 6, none⟩ = false ∧ w1.cell? ⟨w.heap.size + 1, 7, none⟩ = some (.int .i64 0) ∧ w1.frozen? ⟨w.heap.size + 1, 7, none⟩ = false ∧ w1.cell? ⟨w.heap.size + 1, 8, none⟩ = some (.int .i64 0) ∧ w1.frozen? ⟨w.heap.size + 1, 8, none⟩ = false ∧ w1.cell? ⟨w.heap.size + 1, 9, none⟩ = some (.int .i64 0) ∧ w1.frozen? ⟨w.heap.size + 1, 9, none⟩ = false ∧ w1.cell? ⟨w.heap.size + 1, 10, none⟩ = some (.int .i64 0) ∧ w1.frozen? ⟨w.heap.size + 1, 10, none⟩ = false ∧ w1.cell? ⟨w.heap.size + 1, 11, none⟩ = some (.int .i64 0) ∧ w1.frozen? ⟨w.heap.size + 1, 11, none⟩ = false ∧ w1.cell? ⟨w.heap.size + 1 + 1, 0, none⟩ = some (.int .i64 h.at_) ∧ w1.frozen? ⟨w.heap.size + 1 + 1, 0, none⟩ = false ∧ w1.cell? ⟨w.heap.size + 1 + 1, 1, none⟩ = some (.int .i64 0) ∧ w1.frozen? ⟨w.heap.size + 1 + 1, 1, none⟩ = false ∧ w1.cell? ⟨w.heap.size + 1 + 1, 2, none⟩ = some (.int .i64 0) ∧ w1.frozen? ⟨w.heap.size + 1 + 1, 2, none⟩ = false ∧ w1.cell? ⟨w.heap.size + 1 + 1, 3, none⟩ = some (.int .i64 0) ∧ w1.frozen? ⟨w.heap.size + 1 + 1, 3, none⟩ = false ∧ w1.cell? ⟨w.heap.size + 1 + 1, 4, none⟩ = some (.int .i64 0) ∧ w1.frozen? ⟨w.heap.size + 1 + 1, 4, none⟩ = false ∧ w1.cell? ⟨w.heap.size + 1 + 1, 5, none⟩ = some (.int .i64 0) ∧ w1.frozen? ⟨w.heap.size + 1 + 1, 5, none⟩ = false ∧ w1.cell? ⟨w.heap.size + 1 + 1, 6, none⟩ = some (.int .i64 0) ∧ w1.frozen? ⟨w.heap.size + 1 + 1, 6, none⟩ = false ∧ w1.cell? ⟨w.heap.size + 1 + 1, 7, none⟩ = some (.int .i64 0) ∧ w1.frozen? ⟨w.heap.size + 1 + 1, 7, none⟩ = false ∧ w1.cell? ⟨w.heap.size + 1 + 1, 8, none⟩ = some (.int .i64 0) ∧ w1.frozen? ⟨w.heap.size + 1 + 1, 8, none⟩ = false ∧ w1.cell? ⟨w.heap.size + 1 + 1, 9, none⟩ = some (.int .i64 0) ∧ w1.frozen? ⟨w.heap.size + 1 + 1, 9, none⟩ = false ∧ w1.cell? ⟨w.heap.size + 1 + 1, 10, none⟩ = some (.int .i64 0) ∧ w1.frozen? ⟨w.heap.size + 1 + 1, 10, none⟩ = false ∧ w1.cell? ⟨w.heap.size + 1 + 1, 11, none⟩ = some (.int .i64 0) ∧ w1.frozen? ⟨w.heap.size + 1 + 1, 11, none⟩ = false := by have hh := HQ1.out; exact ⟨blk_is hh.tl.tl.hd (by rfl), blk_is hh.tl.tl.hd (by rfl), blk_is hh.tl.tl.hd (by rfl), blk_is hh.tl.tl.hd (by rfl), blk_is hh.tl.tl.hd (by rfl), blk_is hh.tl.tl.hd (by rfl), blk_is hh.tl.tl.hd (by rfl), blk_is hh.tl.tl.hd (by rfl), blk_is hh.tl.tl.hd (by rfl), blk_is hh.tl.tl.hd (by rfl), blk_is hh.tl.tl.hd (by rfl), blk_is hh.tl.tl.hd (by rfl), blk_is hh.tl.hd (by rfl), blk_free hh.tl.hd, blk_is hh.tl.hd (by rfl), blk_free hh.tl.hd, blk_is hh.tl.hd (by rfl), blk_free hh.tl.hd, blk_is hh.tl.hd (by rfl), blk_free hh.tl.hd, blk_is hh.tl.hd (by rfl), blk_free hh.tl.hd, blk_is hh.tl.hd (by rfl), blk_free hh.tl.hd, blk_is hh.tl.hd (by rfl), blk_free hh.tl.hd, blk_is hh.tl.hd (by rfl), blk_free hh.tl.hd, blk_is hh.tl.hd (by rfl), blk_free hh.tl.hd, blk_is hh.tl.hd (by rfl), blk_free hh.tl.hd, blk_is hh.tl.hd (by rfl), blk_free hh.tl.hd, blk_is hh.tl.hd (by rfl), blk_free hh.tl.hd, blk_is hh.hd (by rfl), blk_free hh.hd, blk_is hh.hd (by rfl), blk_free hh.hd, blk_is hh.hd (by rfl), blk_free hh.hd, blk_is hh.hd (by rfl), blk_free hh.hd, blk_is hh.hd (by rfl), blk_free hh.hd, blk_is hh.hd (by rfl), blk_free hh.hd, blk_is hh.hd (by rfl), blk_free hh.hd, blk_is hh.hd (by rfl), blk_free hh.hd, blk_is hh.hd (by rfl), blk_free hh.hd, blk_is hh.hd (by rfl), blk_free hh.hd, blk_is hh.hd (by rfl), blk_free hh.hd, blk_is hh.hd (by rfl), blk_free hh.hd⟩
  have z1 := HQ1.out.size
  have P1 := Lib.hid HQ1.out.tl.hd
  have P2 := Lib.hid HQ1.out.hd
  have HB := Lib.hid HQ1.out.below
  clear HQ1
  go_upto_region 13 with fail
  generalize hW : (((((((((((w1.setCell ⟨w.heap.size + 1 + 1, 1, none⟩ (.int .i64 h.code)).setCell ⟨w.heap.size + 1 + 1, 2, none⟩ (.int .i64 h.val)).setCell ⟨w.heap.size + 1 + 1, 3, none⟩ (.int .i64 h.ring)).setCell ⟨w.heap.size + 1 + 1, 4, none⟩ (.int .i64 h.tick)).setCell ⟨w.heap.size + 1 + 1, 5, none⟩ (.int .i64 h.word)).setCell ⟨w.heap.size + 1 + 1, 6, none⟩ (.int .i64 h.tail)).setCell ⟨w.heap.size + 1 + 1, 7, none⟩ (.int .i64 h.head)).setCell ⟨w.heap.size + 1 + 1, 8, none⟩ (.int .i64 h.index)).setCell ⟨w.heap.size + 1 + 1, 9, none⟩ (.int .i64 h.begin_)).setCell ⟨w.heap.size + 1 + 1, 10, none⟩ (.int .i64 h.reply)).setCell ⟨w.heap.size + 1 + 1, 11, none⟩ (.int .i64 h.out)) = W
  have R1 := Lib.hid (show W.heap[w.heap.size + 1]? = some (.cells #[.int .i64 0, .int .i64 0, .int .i64 0, .int .i64 0, .int .i64 0, .int .i64 0, .int .i64 0, .int .i64 0, .int .i64 0, .int .i64 0, .int .i64 0, .int .i64 0] 35 (0, 0)) from by
    rw [← hW]; exact blk_fill11_other P1.out (by omega))
  have R2 := Lib.hid (show W.heap[w.heap.size + 1 + 1]? = some (.cells #[.int .i64 h.at_, .int .i64 h.code, .int .i64 h.val, .int .i64 h.ring, .int .i64 h.tick, .int .i64 h.word, .int .i64 h.tail, .int .i64 h.head, .int .i64 h.index, .int .i64 h.begin_, .int .i64 h.reply, .int .i64 h.out] 35 (0, 0)) from by
    rw [← hW]; exact blk_fill11 P2.out)
  have RB := Lib.hid (show Below w.heap.size w W from by
    rw [← hW]; exact blk_fill11_below HB.out (by omega))
  clear q0 q1 q2 q3 q4 q5 q6 q7 q8 q9 q10 q11 q12 q13 q14 q15 q16 q17 q18 q19 q20 q21 q22 q23 q24 q25 q26 q27 q28 q29 q30 q31 q32 q33 q34 q35 q36 q37 q38 q39 q40 q41 q42 q43 q44 q45 q46 q47 q48 q49 q50 q51 q52 q53 q54 q55 q56 q57 q58 q59 hW P1 P2 HB
  obtain ⟨q0, q1, q2, q3, q4, q5, q6, q7, q8, q9, q10, q11, q12, q13, q14, q15, q16, q17, q18, q19, q20, q21, q22, q23, q24, q25, q26, q27, q28, q29, q30, q31, q32, q33, q34, q35⟩ : W.cell? ⟨w.heap.size + 1 + 1, 0, none⟩ = some (.int .i64 h.at_) ∧ W.cell? ⟨w.heap.size + 1, 0, none⟩ = some (.int .i64 0) ∧ W.frozen? ⟨w.heap.size + 1, 0, none⟩ = false ∧ W.cell? ⟨w.heap.size + 1 + 1, 1, none⟩ = some (.int .i64 h.code) ∧ W.cell? ⟨w.heap.size + 1, 1, none⟩ = some (.int .i64 0) ∧ W.frozen? ⟨w.heap.size + 1, 1, none⟩ = false ∧ W.cell? ⟨w.heap.size + 1 + 1, 2, none⟩ = some (.int .i64 h.val) ∧ W.cell? ⟨w.heap.size + 1, 2, none⟩ = some (.int .i64 0) ∧ W.frozen? ⟨w.heap.size + 1, 2, none⟩ = false ∧ W.cell? ⟨w.heap.size + 1 + 1, 3, none⟩ = some (.int .i64 h.ring) ∧ W.cell? ⟨w.heap.size + 1, 3, none⟩ = some (.int .i64 0) ∧ W.frozen? ⟨w.heap.size + 1, 3, none⟩ = false ∧ W.cell? ⟨w.heap.size + 1 + 1, 4, none⟩ = some (.int .i64 h.tick) ∧ W.cell? ⟨w.heap.size + 1, 4, none⟩ = some (.int .i64 0) ∧ W.frozen? ⟨w.heap.size + 1, 4, none⟩ = false ∧ W.cell? ⟨w.heap.size + 1 + 1, 5, none⟩ = some (.int .i64 h.word) ∧ W.cell? ⟨w.heap.size + 1, 5, none⟩ = some (.int .i64 0) ∧ W.frozen? ⟨w.heap.size + 1, 5, none⟩ = false ∧ W.cell? ⟨w.heap.size + 1 + 1, 6, none⟩ = some (.int .i64 h.tail) ∧ W.cell? ⟨w.heap.size + 1, 6, none⟩ = some (.int .i64 0) ∧ W.frozen? ⟨w.heap.size + 1, 6, none⟩ = false ∧ W.cell? ⟨w.heap.size + 1 + 1, 7, none⟩ = some (.int .i64 h.head) ∧ W.cell? ⟨w.heap.size + 1, 7, none⟩ = some (.int .i64 0) ∧ W.frozen? ⟨w.heap.size + 1, 7, none⟩ = false ∧ W.cell? ⟨w.heap.size + 1 + 1, 8, none⟩ = some (.int .i64 h.index) ∧ W.cell? ⟨w.heap.size + 1, 8, none⟩ = some (.int .i64 0) ∧ W.frozen? ⟨w.heap.size + 1, 8, none⟩ = false ∧ W.cell? ⟨w.heap.size + 1 + 1, 9, none⟩ = some (.int .i64 h.begin_) ∧ W.cell? ⟨w.heap.size + 1, 9, none⟩ = some (.int .i64 0) ∧ W.frozen? ⟨w.heap.size + 1, 9, none⟩ = false ∧ W.cell? ⟨w.heap.size + 1 + 1, 10, none⟩ = some (.int .i64 h.reply) ∧ W.cell? ⟨w.heap.size + 1, 10, none⟩ = some (.int .i64 0) ∧ W.frozen? ⟨w.heap.size + 1, 10, none⟩ = false ∧ W.cell? ⟨w.heap.size + 1 + 1, 11, none⟩ = some (.int .i64 h.out) ∧ W.cell? ⟨w.heap.size + 1, 11, none⟩ = some (.int .i64 0) ∧ W.frozen? ⟨w.heap.size + 1, 11, none⟩ = false := ⟨blk_is R2.out (by rfl), blk_is R1.out (by rfl), blk_free R1.out, blk_is R2.out (by rfl), blk_is R1.out (by rfl), blk_free R1.out, blk_is R2.out (by rfl), blk_is R1.out (by rfl), blk_free R1.out, blk_is R2.out (by rfl), blk_is R1.out (by rfl), blk_free R1.out, blk_is R2.out (by rfl), blk_is R1.out (by rfl), blk_free R1.out, blk_is R2.out (by rfl), blk_is R1.out (by rfl), blk_free R1.out, blk_is R2.out (by rfl), blk_is R1.out (by rfl), blk_free R1.out, blk_is R2.out (by rfl), blk_is R1.out (by rfl), blk_free R1.out, blk_is R2.out (by rfl), blk_is R1.out (by rfl), blk_free R1.out, blk_is R2.out (by rfl), blk_is R1.out (by rfl), blk_free R1.out, blk_is R2.out (by rfl), blk_is R1.out (by rfl), blk_free R1.out, blk_is R2.out (by rfl), blk_is R1.out (by rfl), blk_free R1.out⟩
  go_wp2
  generalize hW2 : ((((((((((((W.setCell ⟨w.heap.size + 1, 0, none⟩ (.int .i64 h.at_)).setCell ⟨w.heap.size + 1, 1, none⟩ (.int .i64 h.code)).setCell ⟨w.heap.size + 1, 2, none⟩ (.int .i64 h.val)).setCell ⟨w.heap.size + 1, 3, none⟩ (.int .i64 h.ring)).setCell ⟨w.heap.size + 1, 4, none⟩ (.int .i64 h.tick)).setCell ⟨w.heap.size + 1, 5, none⟩ (.int .i64 h.word)).setCell ⟨w.heap.size + 1, 6, none⟩ (.int .i64 h.tail)).setCell ⟨w.heap.size + 1, 7, none⟩ (.int .i64 h.head)).setCell ⟨w.heap.size + 1, 8, none⟩ (.int .i64 h.index)).setCell ⟨w.heap.size + 1, 9, none⟩ (.int .i64 h.begin_)).setCell ⟨w.heap.size + 1, 10, none⟩ (.int .i64 h.reply)).setCell ⟨w.heap.size + 1, 11, none⟩ (.int .i64 h.out)) = W2
  have S1 := Lib.hid (show W2.heap[w.heap.size + 1]? = some (.cells #[.int .i64 h.at_, .int .i64 h.code, .int .i64 h.val, .int .i64 h.ring, .int .i64 h.tick, .int .i64 h.word, .int .i64 h.tail, .int .i64 h.head, .int .i64 h.index, .int .i64 h.begin_, .int .i64 h.reply, .int .i64 h.out] 35 (0, 0)) from by
    rw [← hW2]; exact blk_fill12 R1.out)
  have SB := Lib.hid (show Below w.heap.size w W2 from by
    rw [← hW2]; exact blk_fill12_below RB.out (by omega))
  clear q0 q1 q2 q3 q4 q5 q6 q7 q8 q9 q10 q11 q12 q13 q14 q15 q16 q17 q18 q19 q20 q21 q22 q23 q24 q25 q26 q27 q28 q29 q30 q31 q32 q33 q34 q35 hW2 R1 R2 RB
  obtain ⟨q0, q1, q2, q3, q4, q5, q6, q7, q8, q9, q10, q11⟩ : W2.cell? ⟨w.heap.size + 1, 0, none⟩ = some (.int .i64 h.at_) ∧ W2.cell? ⟨w.heap.size + 1, 1, none⟩ = some (.int .i64 h.code) ∧ W2.cell? ⟨w.heap.size + 1, 2, none⟩ = some (.int .i64 h.val) ∧ W2.cell? ⟨w.heap.size + 1, 3, none⟩ = some (.int .i64 h.ring) ∧ W2.cell? ⟨w.heap.size + 1, 4, none⟩ = some (.int .i64 h.tick) ∧ W2.cell? ⟨w.heap.size + 1, 5, none⟩ = some (.int .i64 h.word) ∧ W2.cell? ⟨w.heap.size + 1, 6, none⟩ = some (.int .i64 h.tail) ∧ W2.cell? ⟨w.heap.size + 1, 7, none⟩ = some (.int .i64 h.head) ∧ W2.cell? ⟨w.heap.size + 1, 8, none⟩ = some (.int .i64 h.index) ∧ W2.cell? ⟨w.heap.size + 1, 9, none⟩ = some (.int .i64 h.begin_) ∧ W2.cell? ⟨w.heap.size + 1, 10, none⟩ = some (.int .i64 h.reply) ∧ W2.cell? ⟨w.heap.size + 1, 11, none⟩ = some (.int .i64 h.out) := ⟨blk_is S1.out (by rfl), blk_is S1.out (by rfl), blk_is S1.out (by rfl), blk_is S1.out (by rfl), blk_is S1.out (by rfl), blk_is S1.out (by rfl), blk_is S1.out (by rfl), blk_is S1.out (by rfl), blk_is S1.out (by rfl), blk_is S1.out (by rfl), blk_is S1.out (by rfl), blk_is S1.out (by rfl)⟩
  refine bodyPost_ret (v := .agg #[.int .i64 h.at_, .int .i64 h.code, .int .i64 h.val, .int .i64 h.ring, .int .i64 h.tick, .int .i64 h.word, .int .i64 h.tail, .int .i64 h.head, .int .i64 h.index, .int .i64 h.begin_, .int .i64 h.reply, .int .i64 h.out]) ?ret rfl ⟨rfl, SB.out⟩
  case ret => simp [results, Try.results10, go_sem, q0, q1, q2, q3, q4, q5, q6, q7, q8, q9, q10, q11]

set_option maxRecDepth 100000 in
set_option maxHeartbeats 2000000 in
theorem eqHand_same (h : Hd) (w : World) :
    Calls Try.prog 13 #[.agg #[.int .i64 h.at_, .int .i64 h.code, .int .i64 h.val, .int .i64 h.ring, .int .i64 h.tick, .int .i64 h.word, .int .i64 h.tail, .int .i64 h.head, .int .i64 h.index, .int .i64 h.begin_, .int .i64 h.reply, .int .i64 h.out], .agg #[.int .i64 h.at_, .int .i64 h.code, .int .i64 h.val, .int .i64 h.ring, .int .i64 h.tick, .int .i64 h.word, .int .i64 h.tail, .int .i64 h.head, .int .i64 h.index, .int .i64 h.begin_, .int .i64 h.reply, .int .i64 h.out]] w fun e w' => e = .returned (.bool true) ∧ Below w.heap.size w w' := by
  have HQ := Lib.hid (((Held.start w).new (.cells #[.int .i64 h.at_, .int .i64 h.code, .int .i64 h.val, .int .i64 h.ring, .int .i64 h.tick, .int .i64 h.word, .int .i64 h.tail, .int .i64 h.head, .int .i64 h.index, .int .i64 h.begin_, .int .i64 h.reply, .int .i64 h.out] 35)).new (.cells #[.int .i64 h.at_, .int .i64 h.code, .int .i64 h.val, .int .i64 h.ring, .int .i64 h.tick, .int .i64 h.word, .int .i64 h.tail, .int .i64 h.head, .int .i64 h.index, .int .i64 h.begin_, .int .i64 h.reply, .int .i64 h.out] 35))
  simp only [World.size_alloc] at HQ
  go_enter Try.func13, Try.ntmps13
  go_wp2_with fail
  refine (eqCall_same h.code h.val _).mono ?_
  rintro e w1 ⟨rfl, hb⟩
  have HQ1 := Lib.hid (HQ.out.step hb)
  clear hb HQ
  obtain ⟨q0, q1, q2, q3, q4, q5, q6, q7, q8, q9, q10, q11, q12, q13, q14, q15, q16, q17, q18, q19, q20, q21, q22, q23⟩ : w1.cell? ⟨w.heap.size + 1, 0, none⟩ = some (.int .i64 h.at_) ∧ w1.cell? ⟨w.heap.size + 1, 1, none⟩ = some (.int .i64 h.code) ∧ w1.cell? ⟨w.heap.size + 1, 2, none⟩ = some (.int .i64 h.val) ∧ w1.cell? ⟨w.heap.size + 1, 3, none⟩ = some (.int .i64 h.ring) ∧ w1.cell? ⟨w.heap.size + 1, 4, none⟩ = some (.int .i64 h.tick) ∧ w1.cell? ⟨w.heap.size + 1, 5, none⟩ = some (.int .i64 h.word) ∧ w1.cell? ⟨w.heap.size + 1, 6, none⟩ = some (.int .i64 h.tail) ∧ w1.cell? ⟨w.heap.size + 1, 7, none⟩ = some (.int .i64 h.head) ∧ w1.cell? ⟨w.heap.size + 1, 8, none⟩ = some (.int .i64 h.index) ∧ w1.cell? ⟨w.heap.size + 1, 9, none⟩ = some (.int .i64 h.begin_) ∧ w1.cell? ⟨w.heap.size + 1, 10, none⟩ = some (.int .i64 h.reply) ∧ w1.cell? ⟨w.heap.size + 1, 11, none⟩ = some (.int .i64 h.out) ∧ w1.cell? ⟨w.heap.size, 0, none⟩ = some (.int .i64 h.at_) ∧ w1.cell? ⟨w.heap.size, 1, none⟩ = some (.int .i64 h.code) ∧ w1.cell? ⟨w.heap.size, 2, none⟩ = some (.int .i64 h.val) ∧ w1.cell? ⟨w.heap.size, 3, none⟩ = some (.int .i64 h.ring) ∧ w1.cell? ⟨w.heap.size, 4, none⟩ = some (.int .i64 h.tick) ∧ w1.cell? ⟨w.heap.size, 5, none⟩ = some (.int .i64 h.word) ∧ w1.cell? ⟨w.heap.size, 6, none⟩ = some (.int .i64 h.tail) ∧ w1.cell? ⟨w.heap.size, 7, none⟩ = some (.int .i64 h.head) ∧ w1.cell? ⟨w.heap.size, 8, none⟩ = some (.int .i64 h.index) ∧ w1.cell? ⟨w.heap.size, 9, none⟩ = some (.int .i64 h.begin_) ∧ w1.cell? ⟨w.heap.size, 10, none⟩ = some (.int .i64 h.reply) ∧ w1.cell? ⟨w.heap.size, 11, none⟩ = some (.int .i64 h.out) := by have hh := HQ1.out; exact ⟨blk_is hh.hd (by rfl), blk_is hh.hd (by rfl), blk_is hh.hd (by rfl), blk_is hh.hd (by rfl), blk_is hh.hd (by rfl), blk_is hh.hd (by rfl), blk_is hh.hd (by rfl), blk_is hh.hd (by rfl), blk_is hh.hd (by rfl), blk_is hh.hd (by rfl), blk_is hh.hd (by rfl), blk_is hh.hd (by rfl), blk_is hh.tl.hd (by rfl), blk_is hh.tl.hd (by rfl), blk_is hh.tl.hd (by rfl), blk_is hh.tl.hd (by rfl), blk_is hh.tl.hd (by rfl), blk_is hh.tl.hd (by rfl), blk_is hh.tl.hd (by rfl), blk_is hh.tl.hd (by rfl), blk_is hh.tl.hd (by rfl), blk_is hh.tl.hd (by rfl), blk_is hh.tl.hd (by rfl), blk_is hh.tl.hd (by rfl)⟩
  go_wp2
  go_ret
  exact ⟨rfl, HQ1.out.below⟩

end Go.Proofs.Ytdpahikbikiilaa
