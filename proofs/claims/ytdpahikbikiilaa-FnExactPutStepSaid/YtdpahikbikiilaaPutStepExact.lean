/- FnExactPutStep: whatever comes in, the program's function answers as its model, with memory of its own, and the ring reads afterwards as before: no condition. -/
import Derived.Test.YtdpahikbikiilaaPutStepLaw
import Derived.Test.YtdpahikbikiilaaS9n
import Derived.Test.YtdpahikbikiilaaI9n
import Derived.Test.YtdpahikbikiilaaIntsRow
namespace Go.Proofs.Ytdpahikbikiilaa
open Go.ChangeShapes Go.WideShapes Go.ChangeAt Go.RowKit Go.Joins

theorem array12 (T : Array Value) (h : T.size = 12) : ∃ v0 v1 v2 v3 v4 v5 v6 v7 v8 v9 v10 v11 : Value, T = #[v0, v1, v2, v3, v4, v5, v6, v7, v8, v9, v10, v11] := by
  obtain ⟨l⟩ := T
  match l, h with
  | [v0, v1, v2, v3, v4, v5, v6, v7, v8, v9, v10, v11], _ => exact ⟨v0, v1, v2, v3, v4, v5, v6, v7, v8, v9, v10, v11, rfl⟩

theorem int_field {H : Type} {enc : TypeId × Value → H} {W : World} {m n : Nat} {sp : Nat → Bool} {hd : Bool} {fs : Array Field} {cs : List Value} {xs : List (DataW H × List MemPlace)}
    (hff : ∀ (i : Nat) (f : Field), fs[i]? = some f → DataW.trod enc Try.prog W m sp hd n f.type ((cs.drop f.offset).take (Try.prog.cellsOf f.type)) = xs[i]?) (i : Nat) (f : Field) (hi : fs[i]? = some f) (ht : f.type = 2) (hx : i < xs.length) :
    ∃ x, cs[f.offset]? = some (.int .i64 x) ∧ W64 x := by
  have h := hff i f hi
  rw [List.getElem?_eq_getElem hx, ht] at h
  obtain ⟨x, e, _, hw⟩ := DataW.trod_int Try.underlying2 h
  rw [show Try.prog.cellsOf 2 = 1 by kernel_rfl] at e
  refine ⟨x, ?_, w64_wf hw⟩
  have e2 := congrArg (fun l => l[0]?) e
  simpa [List.getElem?_take, List.getElem?_drop] using e2


set_option maxRecDepth 100000 in
theorem hand_of64 {H : Type} {enc : TypeId × Value → H} {W : World} {m : Nat} {sp : Nat → Bool} {hd : Bool} {r : Reach} {b0 : Nat} {v : Value} {d : DataW H} {p : List MemPlace} (hv : Value.okWide Try.prog W r b0 30 v) (h : DataW.Trod enc Try.prog W m sp hd 30 v d p) :
    ∃ h : Hd, v = .agg #[.int .i64 h.at_, .int .i64 h.code, .int .i64 h.val, .int .i64 h.ring, .int .i64 h.tick, .int .i64 h.word, .int .i64 h.tail, .int .i64 h.head, .int .i64 h.index, .int .i64 h.begin_, .int .i64 h.reply, .int .i64 h.out] ∧ W64 h.word := by
  obtain ⟨cs, rfl, hsz⟩ := okWide_struct Try.underlying30 hv
  obtain ⟨c0, c1, c2, c3, c4, c5, c6, c7, c8, c9, c10, c11, rfl⟩ := array12 cs (hsz.trans (by kernel_rfl))
  obtain ⟨fuel, hf⟩ := h
  obtain ⟨xs, n, -, -, -, hlen, hff⟩ := DataW.trod_struct Try.underlying30 hf
  simp at hlen
  obtain ⟨x0, e0, -⟩ := int_field hff 0 _ rfl rfl (by omega)
  obtain ⟨x3, e3, -⟩ := int_field hff 2 _ rfl rfl (by omega)
  obtain ⟨x4, e4, -⟩ := int_field hff 3 _ rfl rfl (by omega)
  obtain ⟨x5, e5, w5⟩ := int_field hff 4 _ rfl rfl (by omega)
  obtain ⟨x6, e6, -⟩ := int_field hff 5 _ rfl rfl (by omega)
  obtain ⟨x7, e7, -⟩ := int_field hff 6 _ rfl rfl (by omega)
  obtain ⟨x8, e8, -⟩ := int_field hff 7 _ rfl rfl (by omega)
  obtain ⟨x9, e9, -⟩ := int_field hff 8 _ rfl rfl (by omega)
  obtain ⟨x10, e10, -⟩ := int_field hff 9 _ rfl rfl (by omega)
  obtain ⟨x11, e11, -⟩ := int_field hff 10 _ rfl rfl (by omega)
  have h1 : DataW.trod enc Try.prog W m sp hd n 28 (([c0, c1, c2, c3, c4, c5, c6, c7, c8, c9, c10, c11].drop 1).take (Try.prog.cellsOf 28)) = xs[1]? := hff 1 _ rfl
  rw [List.getElem?_eq_getElem (show 1 < xs.length by omega)] at h1
  obtain ⟨y0, y1, k, -, -, hy0, hy1⟩ := trod_struct2 Try.underlying28 h1
  replace hy0 : DataW.trod enc Try.prog W m sp hd k 2 (((([c0, c1, c2, c3, c4, c5, c6, c7, c8, c9, c10, c11].drop 1).take (Try.prog.cellsOf 28)).drop 0).take (Try.prog.cellsOf 2)) = some y0 := hy0
  replace hy1 : DataW.trod enc Try.prog W m sp hd k 2 (((([c0, c1, c2, c3, c4, c5, c6, c7, c8, c9, c10, c11].drop 1).take (Try.prog.cellsOf 28)).drop 1).take (Try.prog.cellsOf 2)) = some y1 := hy1
  rw [show Try.prog.cellsOf 28 = 2 by kernel_rfl] at hy0 hy1
  obtain ⟨x1, e1, _, -⟩ := DataW.trod_int Try.underlying2 hy0
  obtain ⟨x2, e2, _, -⟩ := DataW.trod_int Try.underlying2 hy1
  rw [show Try.prog.cellsOf 2 = 1 by kernel_rfl] at e1 e2
  simp [Value.cells] at e0 e1 e2 e3 e4 e5 e6 e7 e8 e9 e10 e11
  subst e0 e1 e2 e3 e4 e5 e6 e7 e8 e9 e10 e11
  exact ⟨⟨x0, x1, x2, x3, x4, x5, x6, x7, x8, x9, x10, x11⟩, rfl, w5⟩

theorem GivesStep.got {X : List Int} {h t l : Int} {D : Hd} {Z : Bool} {w : World} {e : Ending} {w' : World} (hg : GivesStep X h t l D Z w e w') : GotStep X h t l (.agg #[.int .i64 D.at_, .int .i64 D.code, .int .i64 D.val, .int .i64 D.ring, .int .i64 D.tick, .int .i64 D.word, .int .i64 D.tail, .int .i64 D.head, .int .i64 D.index, .int .i64 D.begin_, .int .i64 D.reply, .int .i64 D.out]) Z w e w' := by
  obtain ⟨a, n, c, he, ho, hb⟩ := hg
  have hl : n = X.length := (own_len ho).symm
  subst hl
  obtain ⟨fl, h1, h2, h3⟩ := OwnI.parts (base := w.heap.size) (show OwnI w.heap.size (.slice a X.length c) X w' from ho)
  exact ⟨a, X.length, c, fl, he, h1, h2, h3, hb⟩

theorem exactPutStep_walk (s0 t0 : Int) (a : Option Addr) (n cap : Nat) (xs : List Int) (h tl l : Int) (d : Hd) (w : World) (hi : Ints w.heap.size a n xs w) (hx64 : ∀ x ∈ xs, W64 x) (hn : n ≤ maxLen) (hw64 : W64 d.word) :
    Calls Try.prog 3 #[.agg #[.int .i64 s0, .int .i64 t0], .agg #[.slice a n cap, .int .i64 h, .int .i64 tl, .int .i64 l], .agg #[.int .i64 d.at_, .int .i64 d.code, .int .i64 d.val, .int .i64 d.ring, .int .i64 d.tick, .int .i64 d.word, .int .i64 d.tail, .int .i64 d.head, .int .i64 d.index, .int .i64 d.begin_, .int .i64 d.reply, .int .i64 d.out]] w fun e w' => e = .returned (.bool true) ∧ Below w.heap.size w w' := by
  by_cases hb : n ≤ 1048576
  · have hxl : xs.length = n := hi.1
    by_cases hg : psGood s0 t0 xs h tl l d
    · refine exactPutStep_small s0 t0 a n cap xs h tl l d (pvX s0 xs d) h (pvT tl d) (pvL s0 l d) (pvD s0 t0 xs h tl l d) true w hi hb (by rw [pvX_len]; omega) (fun u b c hu => ?_) (fun u b c hu => ?_)
      · have hc := specPutStep u.heap.size s0 t0 b n c xs h tl l d u hu (Nat.le_refl _) hx64 hb hw64
        rw [if_pos hg] at hc
        exact hc.mono fun e w' hq => hq.got
      · have hc := iPutStep u.heap.size s0 t0 b n c xs h tl l d u hu (Nat.le_refl _) hx64 hb hw64
        rw [if_pos hg] at hc
        exact hc.mono fun e w' hq => hq.got
    · refine exactPutStep_small s0 t0 a n cap xs h tl l d [] 0 0 0 zH false w hi hb (by simp) (fun u b c hu => ?_) (fun u b c hu => ?_)
      · have hc := specPutStep u.heap.size s0 t0 b n c xs h tl l d u hu (Nat.le_refl _) hx64 hb hw64
        rw [if_neg hg] at hc
        exact hc.mono fun e w' hq => hq.got
      · have hc := iPutStep u.heap.size s0 t0 b n c xs h tl l d u hu (Nat.le_refl _) hx64 hb hw64
        rw [if_neg hg] at hc
        exact hc.mono fun e w' hq => hq.got
  · exact exactPutStep_big s0 t0 a n cap xs h tl l d w hn hb

set_option maxRecDepth 100000 in
theorem liftedFnExactPutStep (os : Os) (started : os.Started) (H : Type) (enc : TypeId × Value → H) :
    ReturnsInHanded {} Try.checked os 3 .any (Rows.fnExactPutStepSpec.pre6 enc Try.prog Try.f3 Rows.fnExactPutStepRow.domain false) (Rows.fnExactPutStepSpec.post enc Try.prog Try.f3 false true false false) := by
  refine returnsInHanded_of_change (C := Try.checked) own started (by kernel_rfl) Try.func3
    (ChangeSpec.witness6 (enc := enc) (C := Try.checked) false ⟨#[], #[.agg #[.int .i64 0, .int .i64 0], .agg #[.slice none 0 0, .int .i64 0, .int .i64 0, .int .i64 0], .agg #[.int .i64 0, .int .i64 0, .int .i64 0, .int .i64 0, .int .i64 0, .int .i64 0, .int .i64 0, .int .i64 0, .int .i64 0, .int .i64 0, .int .i64 0, .int .i64 0]], []⟩ 8 (by kernel_rfl) (by kernel_rfl) (by kernel_rfl) (by kernel_rfl)) ?_
  intro W base args ds gs before hval0 hW hcnd _
  have hval : ∀ (j : Nat) t v, Try.f3.params[j]? = some t → args[j]? = some v → Value.okWide Try.prog W .any base t v := hval0
  have hW' := hW
  obtain ⟨p, q, hA0, hV, rfl, hfz, hnd⟩ := hW
  have hA : DataW.TrodAll enc Try.prog W 0 (fun _ => true) true Try.f3.params.toList args.toList ds p := hA0
  rw [Try.params3] at hA hval
  obtain ⟨v0, vs0, d0, ds0, p0, q0, h0args, rfl, rfl, h0, r0⟩ := trodAll_cons hA
  obtain ⟨v1, vs1, d1, ds1, p1, q1, h1args, rfl, rfl, h1, r1⟩ := trodAll_cons r0
  obtain ⟨v2, vs2, d2, ds2, p2, q2, h2args, rfl, rfl, h2, r2⟩ := trodAll_cons r1
  obtain ⟨rfl, rfl, rfl⟩ := trodAll_nil r2
  obtain rfl : args = #[v0, v1, v2] := by cases args; simp_all
  obtain ⟨rfl, rfl⟩ := trodVars_none hV
  have k0 := h0
  have lt0 : ∀ x ∈ p0, x.block < W.heap.size := by obtain ⟨m, hm⟩ := k0; exact DataW.trod_lt m _ _ _ hm
  obtain ⟨s0, t0, rfl, ws0, wt0⟩ : ∃ x y : Int, v0 = .agg #[.int .i64 x, .int .i64 y] ∧ W64 x ∧ W64 y := by
    obtain ⟨x0, x1, y0, y1, m, hv, hd, hp, hy0, hy1⟩ := open_agg2 Try.underlying23 (by kernel_rfl) (by kernel_rfl) (hval 0 23 v0 rfl rfl) h0
    obtain ⟨x, e0, _, wa⟩ := DataW.trod_int Try.underlying2 hy0
    obtain ⟨y, e1, _, wb⟩ := DataW.trod_int Try.underlying2 hy1
    simp at e0 e1
    subst e0 e1
    exact ⟨x, y, hv, w64_wf wa, w64_wf wb⟩
  have k1 := h1
  have lt1 : ∀ x ∈ p1, x.block < W.heap.size := by obtain ⟨m, hm⟩ := k1; exact DataW.trod_lt m _ _ _ hm
  obtain ⟨a1, l1, z1, xs1, x1, y1, u1, rfl, hi1, hw1, hl1, wx1, wy1, wu1⟩ := ring_of (hval 1 26 v1 rfl rfl) h1
  have k2 := h2
  have lt2 : ∀ x ∈ p2, x.block < W.heap.size := by obtain ⟨m, hm⟩ := k2; exact DataW.trod_lt m _ _ _ hm
  obtain ⟨hd2, rfl, wd2⟩ := hand_of64 (hval 2 30 v2 rfl rfl) h2
  clear hA0 hval0
  refine (exactPutStep_walk s0 t0 a1 l1 z1 xs1 x1 y1 u1 hd2  W hi1 hw1 hl1 wd2).mono fun e W' ⟨he, bel⟩ => ?_
  subst he
  exact ⟨_, rfl, _, _, _, [], _, [], hW', trodAll_mk1 (shut_bool Try.underlying4 _), (trodAll_cons_mk (Below.trod laidOut (by kernel_rfl) (of_decide_eq_true (by kernel_rfl)) k0 bel lt0) (trodAll_cons_mk (Below.trod laidOut (by kernel_rfl) (of_decide_eq_true (by kernel_rfl)) k1 bel lt1) (trodAll_cons_mk (Below.trod laidOut (by kernel_rfl) (of_decide_eq_true (by kernel_rfl)) k2 bel lt2) trodAll_mk0))), rfl, bel.frame _, fun h => by cases h⟩

theorem exactPutStep_proved : Rows.FnExactPutStepSaid :=
  OpenClaim.holds_of_wide 3 Try.f3 rfl rfl rfl rfl rfl rfl rfl ⟨rfl, rfl, rfl, rfl, rfl⟩ rfl rfl rfl rfl rfl (by kernel_rfl) Try.func3 (by kernel_rfl)
    (of_decide_eq_true (by kernel_rfl)) (by unfold Func.isWrapper; first | (rw [if_pos (by decide +kernel)]; kernel_rfl) | (rw [if_neg (by decide +kernel)]; exact ⟨rfl, rfl⟩))
    (fun os started H enc _ => liftedFnExactPutStep os started H enc)

end Go.Proofs.Ytdpahikbikiilaa
