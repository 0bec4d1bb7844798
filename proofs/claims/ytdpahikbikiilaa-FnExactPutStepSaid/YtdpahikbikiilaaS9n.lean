/- The model of putting: a step, by reckoning. -/
import Derived.Test.YtdpahikbikiilaaP9
import Derived.Test.YtdpahikbikiilaaSxi
import Derived.KernelRfl
namespace Go.Proofs.Ytdpahikbikiilaa
open Go.RowKit

def so9 : List Sx.So := [.i .i64, .i .i64, .o, .i .i64, .i .i64, .i .i64, .i .i64, .i .i64, .i .i64, .i .i64, .i .i64, .i .i64, .i .i64, .i .i64, .i .i64, .i .i64, .i .i64, .i .i64, .b, .b, .i .i64, .i .i64, .i .i64, .b, .i .i64, .b, .i .i64, .b, .i .i64, .b, .i .i64, .i .i64, .b, .i .i64, .i .i64, .i .i64, .b, .b, .b, .b]

def ra (i : Nat) : Sx.V := .v (.one (.a i))

def rp (v : Sx.V) : Option Sx.Hint := some (.eff {} { ret := v })

/-- Laws that the walk of putting (the model's) calls for. -/
def hint9 : Sx.Hints := fun _ op c st =>
  match c with
  | some (f, [_, .v (.agg [w, _, tl, l])]) =>
    if f = 21 then
      if w = .a 2 then rp (ra 18)
      else some (.eff { wo := [7, 8], fk := [0, 1] } { ret := if tl ≠ .a 4 then ra 36 else if l ≠ .a 5 then ra 37 else if st.fs.any (·.1 == 1) then ra 38 else ra 18, obs := st.obs })
    else some .inl
  | some (f, args) =>
    if f = 22 then rp (ra 19)
    else if f = 27 then some (.eff { pk := [.a 18] } { ret := .v (.agg [.fn 0 [7], .a 3, .a 4, .a 5]), news := [7], obs := [(7, 0, [7])], fs := [(0, [7])] })
    else if f = 41 then (if args[1]? = some (ra 21) then rp (.tup [.agg [.a 22, .a 23, .a 24], .one (.a 25)]) else rp (.tup [.agg [.a 28, .a 29, .a 30], .one (.a 27)]))
    else if f = 46 then rp (ra 20)
    else if f = 48 then rp (ra 26)
    else if f = 50 then rp (.v (.agg [.a 31, .a 32, .a 33]))
    else if f = 68 then some (.eff { pk := [.a 18, .a 19, .a 39, .bin .lss (.a 14) (.int .i64 0)] } { ret := ra 34 })
    else if f = 40 then rp (ra 35)
    else if f = 24 then rp (ra 39)
    else some .inl
  | none =>
    match op with
    | .indexAddr _ x _ => match Sx.evalO st.tm x with | some (.v (.one (.fn 0 ds))) => some (.val { pk := [.a 18, .a 39], fk := [0] } (.v (.one (.fn 1 ds)))) | _ => none
    | .load _ x => match Sx.evalO st.tm x with | some (.v (.one (.fn 1 [d]))) => some (.val { wo := [d], pk := [.a 18, .a 39], fk := [0] } (ra 21)) | _ => none
    | .store _ x _ => match Sx.evalO st.tm x with | some (.v (.one (.fn 1 [d]))) => some (.eff { wo := [d], pk := [.a 18, .a 39], fk := [0] } { ret := .undef, news := [8], obs := [(8, 0, [8])], fs := [(1, [d, 8])] }) | _ => none
    | _ => none

theorem mine_new {E : Sx.Env} {w : World} {n : Nat} (h : Sx.Mine ⟨E, [], [], w⟩ n) : w.heap.size ≤ n := h.resolve_right (by simp)

theorem most9 {s t : Int} (h : okP s t) : mostV s t = 3 * s - 1 := if_pos h

theorem w64_tb {s t k i : Int} : W64 (wordD s (tbC s t k i) (tbI s t k i) (tbB s t k i)) := by
  by_cases h : okTI s t k i
  · rw [show tbC s t k i = cycD s k from if_pos h, show tbI s t k i = i from if_pos h, show tbB s t k i = true from if_pos h]
    have hc := cyc_w64 h.1
    have hi := h.2
    have hs := h.1.1.1
    unfold W64 wordD
    simp only [if_true]
    rcases hs with rfl | rfl | rfl | rfl <;> omega
  · rw [show tbC s t k i = 0 from if_neg h, show tbI s t k i = 0 from if_neg h, show tbB s t k i = false from if_neg h]
    unfold W64 wordD
    simp

theorem place_len {s t : Int} {xs : List Int} {h tl l : Int} {d : Hd} (q1 : okRB s t xs h tl l = true) (q0 : okKB d.tick = true) : (placeD s d.tick).toNat < xs.length := by
  have hR := okRB_t q1
  have := place_in ⟨hR.1, okKB_t q0⟩
  have := hR.2.1
  omega

theorem place9 {s t : Int} {xs : List Int} {h tl l : Int} {d : Hd} (q1 : okRB s t xs h tl l = true) (q0 : okKB d.tick = true) {x : Sx.Dy} {o : Oper} {a : Act} {w : World} {y z : Operand} (own : Sx.OwnL 2 xs x.v x.n x.o) (ho : o.op = .indexAddr 24 y z)
    (hv : [a.eval y, a.eval z] = [Sx.asSlice x.v, .int .i64 (placeV s t d.tick)]) : (execOp a.eval o).run Try.prog w = .ok (.value (.pointer (some ⟨x.n, (placeD s d.tick).toNat, none⟩))) w := by
  obtain ⟨c, hc⟩ := own.slice
  rw [hc] at hv
  have hT : okT s t d.tick := ⟨(okRB_t q1).1, okKB_t q0⟩
  have hp := place_in hT
  have hl := (okRB_t q1).2.1
  have h := Sx.exec_index (P := Try.prog) (w := w) ho Try.underlying24 (by kernel_rfl) (List.cons.inj hv).1 (List.cons.inj (List.cons.inj hv).2).1 (by rw [placeV, if_pos hT]; omega) (by rw [placeV, if_pos hT]; omega)
  rw [h, placeV, if_pos hT, Nat.zero_add]

theorem step_none {s t : Int} {xs : List Int} {h tl l : Int} {d : Hd} {w w1 : World} (hno : ¬ psGood s t xs h tl l d) (hb : Below w.heap.size w w1) :
    (if psGood s t xs h tl l d then GivesStep (pvX s xs d) h (pvT tl d) (pvL s l d) (pvD s t xs h tl l d) true w else GivesStep [] 0 0 0 zH false w) (.returned (.tuple #[.agg #[.slice none 0 0, .int .i64 0, .int .i64 0, .int .i64 0], hv zH, .bool false])) w1 := by
  rw [if_neg hno]
  exact ⟨none, 0, 0, rfl, World.ownsRow_nil _ _ _ _, hb⟩

theorem step_some {s t : Int} {xs : List Int} {h tl l : Int} {d : Hd} {w w1 : World} (hg : psGood s t xs h tl l d) {ys : List Int} {tl' l' k tk wd : Int} {v : Value} {g : Nat} {o : Obj} (own : Sx.OwnL 2 ys v g o) (hrow : w1.heap[g]? = some o) (hge : w.heap.size ≤ g)
    (e1 : pvX s xs d = ys) (e2 : pvT tl d = tl') (e3 : pvL s l d = l') (e4 : pvAt s t xs h l d = k) (e5 : (if d.at_ = 1 then tl else d.tick) = tk) (e6 : (if d.at_ = 2 then wordAt s xs d.tick else d.word) = wd) (hb : Below w.heap.size w w1) :
    (if psGood s t xs h tl l d then GivesStep (pvX s xs d) h (pvT tl d) (pvL s l d) (pvD s t xs h tl l d) true w else GivesStep [] 0 0 0 zH false w) (.returned (.tuple #[.agg #[Sx.asSlice v, .int .i64 h, .int .i64 tl', .int .i64 l'], .agg #[.int .i64 k, .int .i64 d.code, .int .i64 d.val, .int .i64 d.ring, .int .i64 tk, .int .i64 wd, .int .i64 d.tail, .int .i64 d.head, .int .i64 d.index, .int .i64 d.begin_, .int .i64 d.reply, .int .i64 d.out], .bool true])) w1 := by
  subst e1; subst e2; subst e3; subst e4; subst e5; subst e6
  rw [if_pos hg]
  have ho := own.owns hge hrow
  obtain ⟨c, hc⟩ := own.slice
  rw [hc] at ho ⊢
  exact ⟨_, _, _, rfl, ho, hb⟩

set_option maxRecDepth 100000 in
set_option maxHeartbeats 4000000 in
theorem specPutStep (B : Nat) (s t : Int) (a : Option Addr) (n cap : Nat) (xs : List Int) (h tl l : Int) (d : Hd) (w : World) (hi : Ints B a n xs w) (hB : B ≤ w.heap.size) (hx64 : ∀ x ∈ xs, W64 x) (hn : n ≤ 1048576) (hw64 : W64 d.word) :
    Calls Try.prog 7 #[.agg #[.int .i64 s, .int .i64 t], .agg #[.slice a n cap, .int .i64 h, .int .i64 tl, .int .i64 l], hv d] w (if psGood s t xs h tl l d then GivesStep (pvX s xs d) h (pvT tl d) (pvL s l d) (pvD s t xs h tl l d) true w else GivesStep [] 0 0 0 zH false w) := by
  refine Sx.walk (ls := so9) (fs := [.o, .o]) (wr := fun _ => []) (hint := hint9) (loops := Sx.noLoops) (keep := []) (cat := [])
    { ls := [.i s, .i t, .sl a n cap, .i h, .i tl, .i l, .i d.at_, .i d.code, .i d.val, .i d.ring, .i d.tick, .i d.word, .i d.tail, .i d.head, .i d.index, .i d.begin_, .i d.reply, .i d.out, .b (okRB s t xs h tl l), .b (handB s t d), .i (placeV s t d.tick), .i (wordAt s xs d.tick), .i (entC s t (wordAt s xs d.tick)), .b (entS s t (wordAt s xs d.tick)), .i (entI s t (wordAt s xs d.tick)), .b (okWB s t (wordAt s xs d.tick)), .i (takeV s t (entC s t (wordAt s xs d.tick)) (entI s t (wordAt s xs d.tick)) d.tick (entS s t (wordAt s xs d.tick))), .b (okWB s t d.word), .i (entC s t d.word), .b (entS s t d.word), .i (entI s t d.word), .i (tbC s t d.tick d.index), .b (tbB s t d.tick d.index), .i (tbI s t d.tick d.index), .i (wordD s (tbC s t d.tick d.index) (tbI s t d.tick d.index) (tbB s t d.tick d.index)), .i (mostV s t), .b (okRB s t xs h (IntKind.i64.wrap (tl + 1)) l), .b (okRB s t xs h tl (mostV s t)), .b (okRB s t (xs.set (placeD s d.tick).toNat (wordD s (tbC s t d.tick d.index) (tbI s t d.tick d.index) (tbB s t d.tick d.index))) h tl l), .b (okKB d.tick)], fs := [.sv, .pt (placeD s d.tick).toNat], ob := [Sx.block1], fact := [fun ds => match ds with | [x] => Sx.OwnL 2 xs x.v x.n x.o | _ => True, fun ds => match ds with | [x, y] => y.n = x.n ∧ Sx.OwnL 2 (xs.set (placeD s d.tick).toNat (wordD s (tbC s t d.tick d.index) (tbI s t d.tick d.index) (tbB s t d.tick d.index))) x.v x.n y.o | _ => True] }
    9 7 [.v (.agg [.a 0, .a 1]), .v (.agg [.a 2, .a 3, .a 4, .a 5]), .v (.agg [.a 6, .a 7, .a 8, .a 9, .a 10, .a 11, .a 12, .a 13, .a 14, .a 15, .a 16, .a 17])]
    (obs := [(.call 21 [(.v (.agg [(.a 0), (.a 1)])), (.v (.agg [(.a 2), (.a 3), (.a 4), (.a 5)]))] [] [] [] [] ⟨(.v (.one (.a 18))), [], [], [], [], .none⟩),
      (.call 22 [(.v (.agg [(.a 0), (.a 1)])), (.v (.agg [(.a 6), (.a 7), (.a 8), (.a 9), (.a 10), (.a 11), (.a 12), (.a 13), (.a 14), (.a 15), (.a 16), (.a 17)]))] [] [] [] [] ⟨(.v (.one (.a 19))), [], [], [], [], .none⟩),
      (.call 24 [(.v (.one (.a 10)))] [] [] [] [] ⟨(.v (.one (.a 39))), [], [], [], [], .none⟩),
      (.call 41 [(.v (.agg [(.a 0), (.a 1)])), (.v (.one (.a 11)))] [] [] [] [] ⟨(.tup [(.agg [(.a 28), (.a 29), (.a 30)]), (.one (.a 27))]), [], [], [], [], .none⟩),
      (.val (.indexAddr 24 (.tmp 25) (.tmp 29)) 0 [(.v (.one (.fn 0 [7]))), (.v (.one (.a 20)))] [((.a 39), true), ((.a 18), true)] [(0, [7])] [] [] (.v (.one (.fn 1 [7])))),
      (.val (.load 2 (.tmp 30)) 2 [(.v (.one (.fn 1 [7])))] [((.a 39), true), ((.a 18), true)] [(0, [7])] [] [(7, (0, [7]))] (.v (.one (.a 21)))),
      (.call 41 [(.v (.agg [(.a 0), (.a 1)])), (.v (.one (.a 21)))] [] [] [] [] ⟨(.tup [(.agg [(.a 22), (.a 23), (.a 24)]), (.one (.a 25))]), [], [], [], [], .none⟩),
      (.call 48 [(.v (.agg [(.a 0), (.a 1)])), (.v (.agg [(.a 22), (.a 23), (.a 24)])), (.v (.one (.a 10)))] [] [] [] [] ⟨(.v (.one (.a 26))), [], [], [], [], .none⟩),
      (.call 40 [(.v (.agg [(.a 0), (.a 1)]))] [] [] [] [] ⟨(.v (.one (.a 35))), [], [], [], [], .none⟩),
      (.call 21 [(.v (.agg [(.a 0), (.a 1)])), (.v (.agg [(.fn 0 [7]), (.a 3), (.bin .add (.a 4) (.int .i64 1)), (.a 5)]))] [] [(0, [7])] [] [(7, (0, [7]))] ⟨(.v (.one (.a 36))), [], [], [(7, (0, [7]))], [], .none⟩),
      (.call 21 [(.v (.agg [(.a 0), (.a 1)])), (.v (.agg [(.fn 0 [7]), (.a 3), (.a 4), (.a 35)]))] [] [(0, [7])] [] [(7, (0, [7]))] ⟨(.v (.one (.a 37))), [], [], [(7, (0, [7]))], [], .none⟩),
      (.call 27 [(.v (.agg [(.a 2), (.a 3), (.a 4), (.a 5)]))] [((.a 18), true)] [] [] [] ⟨(.v (.agg [(.fn 0 [7]), (.a 3), (.a 4), (.a 5)])), [7], [], [(7, (0, [7]))], [(0, [7])], .none⟩),
      (.call 50 [(.v (.agg [(.a 0), (.a 1)])), (.v (.one (.a 10))), (.v (.one (.a 14)))] [] [] [] [] ⟨(.v (.agg [(.a 31), (.a 32), (.a 33)])), [], [], [], [], .none⟩),
      (.call 46 [(.v (.agg [(.a 0), (.a 1)])), (.v (.one (.a 10)))] [] [] [] [] ⟨(.v (.one (.a 20))), [], [], [], [], .none⟩),
      (.val (.indexAddr 24 (.tmp 20) (.tmp 21)) 0 [(.v (.one (.fn 0 [7]))), (.v (.one (.a 20)))] [((.a 39), true), ((.a 18), true)] [(0, [7])] [] [] (.v (.one (.fn 1 [7])))),
      (.val (.load 2 (.tmp 22)) 2 [(.v (.one (.fn 1 [7])))] [((.a 39), true), ((.a 18), true)] [(0, [7])] [] [(7, (0, [7]))] (.v (.one (.a 21)))),
      (.call 68 [(.v (.agg [(.a 0), (.a 1)])), (.v (.agg [(.a 31), (.a 32), (.a 33)]))] [((.a 39), true), ((.bin .lss (.a 14) (.int .i64 0)), false), ((.a 19), true), ((.a 18), true)] [] [] [] ⟨(.v (.one (.a 34))), [], [], [], [], .none⟩),
      (.val (.indexAddr 24 (.tmp 28) (.tmp 29)) 0 [(.v (.one (.fn 0 [7]))), (.v (.one (.a 20)))] [((.a 39), true), ((.a 18), true)] [(0, [7])] [] [] (.v (.one (.fn 1 [7])))),
      (.act (.store 2 (.tmp 33) (.tmp 32)) 0 [(.v (.one (.fn 1 [7]))), (.v (.one (.a 34)))] [((.a 39), true), ((.a 18), true)] [(0, [7])] [] [(7, (0, [7]))] ⟨(.tup []), [8], [], [(8, (0, [8]))], [(1, [7, 8])], .none⟩),
      (.call 21 [(.v (.agg [(.a 0), (.a 1)])), (.v (.agg [(.fn 0 [7]), (.a 3), (.a 4), (.a 5)]))] [] [(0, [7]), (1, [7, 8])] [] [(8, (0, [8]))] ⟨(.v (.one (.a 38))), [], [], [(8, (0, [8]))], [], .none⟩),
      (.call 21 [(.v (.agg [(.a 0), (.a 1)])), (.v (.agg [(.fn 0 [7]), (.a 3), (.a 4), (.a 5)]))] [] [(0, [7])] [] [(7, (0, [7]))] ⟨(.v (.one (.a 18))), [], [], [(7, (0, [7]))], [], .none⟩)])
    (ends := [⟨(.ret (.tup [(.agg [(.nil 1), (.int .i64 0), (.int .i64 0), (.int .i64 0)]), (.agg [(.int .i64 0), (.int .i64 0), (.int .i64 0), (.int .i64 0), (.int .i64 0), (.int .i64 0), (.int .i64 0), (.int .i64 0), (.int .i64 0), (.int .i64 0), (.int .i64 0), (.int .i64 0)]), (.one (.bool false))])), [], [], [((.a 18), false)], []⟩,
      ⟨(.ret (.tup [(.agg [(.nil 1), (.int .i64 0), (.int .i64 0), (.int .i64 0)]), (.agg [(.int .i64 0), (.int .i64 0), (.int .i64 0), (.int .i64 0), (.int .i64 0), (.int .i64 0), (.int .i64 0), (.int .i64 0), (.int .i64 0), (.int .i64 0), (.int .i64 0), (.int .i64 0)]), (.one (.bool false))])), [], [], [((.a 19), false), ((.a 18), true)], []⟩,
      ⟨(.ret (.tup [(.agg [(.nil 1), (.int .i64 0), (.int .i64 0), (.int .i64 0)]), (.agg [(.int .i64 0), (.int .i64 0), (.int .i64 0), (.int .i64 0), (.int .i64 0), (.int .i64 0), (.int .i64 0), (.int .i64 0), (.int .i64 0), (.int .i64 0), (.int .i64 0), (.int .i64 0)]), (.one (.bool false))])), [], [], [((.bin .lss (.int .i64 6) (.a 6)), true), ((.bin .lss (.a 6) (.int .i64 1)), false), ((.a 19), true), ((.a 18), true)], []⟩,
      ⟨(.ret (.tup [(.agg [(.nil 1), (.int .i64 0), (.int .i64 0), (.int .i64 0)]), (.agg [(.int .i64 0), (.int .i64 0), (.int .i64 0), (.int .i64 0), (.int .i64 0), (.int .i64 0), (.int .i64 0), (.int .i64 0), (.int .i64 0), (.int .i64 0), (.int .i64 0), (.int .i64 0)]), (.one (.bool false))])), [], [], [((.bin .lss (.a 14) (.int .i64 0)), true), ((.bin .lss (.int .i64 6) (.a 6)), false), ((.bin .lss (.a 6) (.int .i64 1)), false), ((.a 19), true), ((.a 18), true)], []⟩,
      ⟨(.ret (.tup [(.agg [(.nil 1), (.int .i64 0), (.int .i64 0), (.int .i64 0)]), (.agg [(.int .i64 0), (.int .i64 0), (.int .i64 0), (.int .i64 0), (.int .i64 0), (.int .i64 0), (.int .i64 0), (.int .i64 0), (.int .i64 0), (.int .i64 0), (.int .i64 0), (.int .i64 0)]), (.one (.bool false))])), [], [], [((.a 39), false), ((.bin .lss (.a 14) (.int .i64 0)), false), ((.bin .lss (.int .i64 6) (.a 6)), false), ((.bin .lss (.a 6) (.int .i64 1)), false), ((.a 19), true), ((.a 18), true)], []⟩,
      ⟨(.ret (.tup [(.agg [(.nil 1), (.int .i64 0), (.int .i64 0), (.int .i64 0)]), (.agg [(.int .i64 0), (.int .i64 0), (.int .i64 0), (.int .i64 0), (.int .i64 0), (.int .i64 0), (.int .i64 0), (.int .i64 0), (.int .i64 0), (.int .i64 0), (.int .i64 0), (.int .i64 0)]), (.one (.bool false))])), [], [(7, (0, [7]))], [((.a 36), false), ((.bin .eql (.a 6) (.int .i64 1)), true), ((.bin .eql (.a 6) (.int .i64 4)), false), ((.a 39), true), ((.bin .lss (.a 14) (.int .i64 0)), false), ((.bin .lss (.int .i64 6) (.a 6)), false), ((.bin .lss (.a 6) (.int .i64 1)), false), ((.a 19), true), ((.a 18), true)], [(0, [7])]⟩,
      ⟨(.ret (.tup [(.agg [(.fn 0 [7]), (.a 3), (.bin .add (.a 4) (.int .i64 1)), (.a 5)]), (.agg [(.int .i64 2), (.a 7), (.a 8), (.a 9), (.a 4), (.a 11), (.a 12), (.a 13), (.a 14), (.a 15), (.a 16), (.a 17)]), (.one (.bool true))])), [], [(7, (0, [7]))], [((.a 36), true), ((.bin .eql (.a 6) (.int .i64 1)), true), ((.bin .eql (.a 6) (.int .i64 4)), false), ((.a 39), true), ((.bin .lss (.a 14) (.int .i64 0)), false), ((.bin .lss (.int .i64 6) (.a 6)), false), ((.bin .lss (.a 6) (.int .i64 1)), false), ((.a 19), true), ((.a 18), true)], [(0, [7])]⟩,
      ⟨(.ret (.tup [(.agg [(.fn 0 [7]), (.a 3), (.a 4), (.a 5)]), (.agg [(.int .i64 4), (.a 7), (.a 8), (.a 9), (.a 10), (.a 21), (.a 12), (.a 13), (.a 14), (.a 15), (.a 16), (.a 17)]), (.one (.bool true))])), [], [(7, (0, [7]))], [((.bin .eql (.a 26) (.int .i64 1)), true), ((.bin .eql (.a 6) (.int .i64 2)), true), ((.bin .eql (.a 6) (.int .i64 1)), false), ((.bin .eql (.a 6) (.int .i64 4)), false), ((.a 39), true), ((.bin .lss (.a 14) (.int .i64 0)), false), ((.bin .lss (.int .i64 6) (.a 6)), false), ((.bin .lss (.a 6) (.int .i64 1)), false), ((.a 19), true), ((.a 18), true)], [(0, [7])]⟩,
      ⟨(.ret (.tup [(.agg [(.fn 0 [7]), (.a 3), (.a 4), (.a 5)]), (.agg [(.int .i64 3), (.a 7), (.a 8), (.a 9), (.a 10), (.a 21), (.a 12), (.a 13), (.a 14), (.a 15), (.a 16), (.a 17)]), (.one (.bool true))])), [], [(7, (0, [7]))], [((.bin .eql (.a 26) (.int .i64 2)), true), ((.bin .eql (.a 26) (.int .i64 1)), false), ((.bin .eql (.a 6) (.int .i64 2)), true), ((.bin .eql (.a 6) (.int .i64 1)), false), ((.bin .eql (.a 6) (.int .i64 4)), false), ((.a 39), true), ((.bin .lss (.a 14) (.int .i64 0)), false), ((.bin .lss (.int .i64 6) (.a 6)), false), ((.bin .lss (.a 6) (.int .i64 1)), false), ((.a 19), true), ((.a 18), true)], [(0, [7])]⟩,
      ⟨(.ret (.tup [(.agg [(.fn 0 [7]), (.a 3), (.a 4), (.a 5)]), (.agg [(.int .i64 1), (.a 7), (.a 8), (.a 9), (.a 10), (.a 21), (.a 12), (.a 13), (.a 14), (.a 15), (.a 16), (.a 17)]), (.one (.bool true))])), [], [(7, (0, [7]))], [((.bin .eql (.a 26) (.int .i64 2)), false), ((.bin .eql (.a 26) (.int .i64 1)), false), ((.bin .eql (.a 6) (.int .i64 2)), true), ((.bin .eql (.a 6) (.int .i64 1)), false), ((.bin .eql (.a 6) (.int .i64 4)), false), ((.a 39), true), ((.bin .lss (.a 14) (.int .i64 0)), false), ((.bin .lss (.int .i64 6) (.a 6)), false), ((.bin .lss (.a 6) (.int .i64 1)), false), ((.a 19), true), ((.a 18), true)], [(0, [7])]⟩,
      ⟨(.ret (.tup [(.agg [(.fn 0 [7]), (.a 3), (.a 4), (.a 5)]), (.agg [(.int .i64 4), (.a 7), (.a 8), (.a 9), (.a 10), (.a 11), (.a 12), (.a 13), (.a 14), (.a 15), (.a 16), (.a 17)]), (.one (.bool true))])), [], [(7, (0, [7]))], [((.bin .lss (.a 10) (.a 3)), false), ((.bin .eql (.a 6) (.int .i64 3)), true), ((.bin .eql (.a 6) (.int .i64 2)), false), ((.bin .eql (.a 6) (.int .i64 1)), false), ((.bin .eql (.a 6) (.int .i64 4)), false), ((.a 39), true), ((.bin .lss (.a 14) (.int .i64 0)), false), ((.bin .lss (.int .i64 6) (.a 6)), false), ((.bin .lss (.a 6) (.int .i64 1)), false), ((.a 19), true), ((.a 18), true)], [(0, [7])]⟩,
      ⟨(.ret (.tup [(.agg [(.fn 0 [7]), (.a 3), (.a 4), (.a 5)]), (.agg [(.int .i64 1), (.a 7), (.a 8), (.a 9), (.a 10), (.a 11), (.a 12), (.a 13), (.a 14), (.a 15), (.a 16), (.a 17)]), (.one (.bool true))])), [], [(7, (0, [7]))], [((.bin .lss (.a 10) (.a 3)), true), ((.bin .eql (.a 6) (.int .i64 3)), true), ((.bin .eql (.a 6) (.int .i64 2)), false), ((.bin .eql (.a 6) (.int .i64 1)), false), ((.bin .eql (.a 6) (.int .i64 4)), false), ((.a 39), true), ((.bin .lss (.a 14) (.int .i64 0)), false), ((.bin .lss (.int .i64 6) (.a 6)), false), ((.bin .lss (.a 6) (.int .i64 1)), false), ((.a 19), true), ((.a 18), true)], [(0, [7])]⟩,
      ⟨(.ret (.tup [(.agg [(.fn 0 [7]), (.a 3), (.a 4), (.a 5)]), (.agg [(.int .i64 20), (.a 7), (.a 8), (.a 9), (.a 10), (.a 11), (.a 12), (.a 13), (.a 14), (.a 15), (.a 16), (.a 17)]), (.one (.bool true))])), [], [(7, (0, [7]))], [((.bin .eql (.a 5) (.a 35)), true), ((.bin .eql (.a 6) (.int .i64 5)), true), ((.bin .eql (.a 6) (.int .i64 3)), false), ((.bin .eql (.a 6) (.int .i64 2)), false), ((.bin .eql (.a 6) (.int .i64 1)), false), ((.bin .eql (.a 6) (.int .i64 4)), false), ((.a 39), true), ((.bin .lss (.a 14) (.int .i64 0)), false), ((.bin .lss (.int .i64 6) (.a 6)), false), ((.bin .lss (.a 6) (.int .i64 1)), false), ((.a 19), true), ((.a 18), true)], [(0, [7])]⟩,
      ⟨(.ret (.tup [(.agg [(.fn 0 [7]), (.a 3), (.a 4), (.a 5)]), (.agg [(.int .i64 6), (.a 7), (.a 8), (.a 9), (.a 10), (.a 11), (.a 12), (.a 13), (.a 14), (.a 15), (.a 16), (.a 17)]), (.one (.bool true))])), [], [(7, (0, [7]))], [((.bin .eql (.a 5) (.a 35)), false), ((.bin .eql (.a 6) (.int .i64 5)), true), ((.bin .eql (.a 6) (.int .i64 3)), false), ((.bin .eql (.a 6) (.int .i64 2)), false), ((.bin .eql (.a 6) (.int .i64 1)), false), ((.bin .eql (.a 6) (.int .i64 4)), false), ((.a 39), true), ((.bin .lss (.a 14) (.int .i64 0)), false), ((.bin .lss (.int .i64 6) (.a 6)), false), ((.bin .lss (.a 6) (.int .i64 1)), false), ((.a 19), true), ((.a 18), true)], [(0, [7])]⟩,
      ⟨(.ret (.tup [(.agg [(.nil 1), (.int .i64 0), (.int .i64 0), (.int .i64 0)]), (.agg [(.int .i64 0), (.int .i64 0), (.int .i64 0), (.int .i64 0), (.int .i64 0), (.int .i64 0), (.int .i64 0), (.int .i64 0), (.int .i64 0), (.int .i64 0), (.int .i64 0), (.int .i64 0)]), (.one (.bool false))])), [], [(7, (0, [7]))], [((.a 37), false), ((.bin .eql (.a 6) (.int .i64 6)), true), ((.bin .eql (.a 6) (.int .i64 5)), false), ((.bin .eql (.a 6) (.int .i64 3)), false), ((.bin .eql (.a 6) (.int .i64 2)), false), ((.bin .eql (.a 6) (.int .i64 1)), false), ((.bin .eql (.a 6) (.int .i64 4)), false), ((.a 39), true), ((.bin .lss (.a 14) (.int .i64 0)), false), ((.bin .lss (.int .i64 6) (.a 6)), false), ((.bin .lss (.a 6) (.int .i64 1)), false), ((.a 19), true), ((.a 18), true)], [(0, [7])]⟩,
      ⟨(.ret (.tup [(.agg [(.fn 0 [7]), (.a 3), (.a 4), (.a 35)]), (.agg [(.int .i64 20), (.a 7), (.a 8), (.a 9), (.a 10), (.a 11), (.a 12), (.a 13), (.a 14), (.a 15), (.a 16), (.a 17)]), (.one (.bool true))])), [], [(7, (0, [7]))], [((.a 37), true), ((.bin .eql (.a 6) (.int .i64 6)), true), ((.bin .eql (.a 6) (.int .i64 5)), false), ((.bin .eql (.a 6) (.int .i64 3)), false), ((.bin .eql (.a 6) (.int .i64 2)), false), ((.bin .eql (.a 6) (.int .i64 1)), false), ((.bin .eql (.a 6) (.int .i64 4)), false), ((.a 39), true), ((.bin .lss (.a 14) (.int .i64 0)), false), ((.bin .lss (.int .i64 6) (.a 6)), false), ((.bin .lss (.a 6) (.int .i64 1)), false), ((.a 19), true), ((.a 18), true)], [(0, [7])]⟩,
      ⟨(.ret (.tup [(.agg [(.fn 0 [7]), (.a 3), (.a 4), (.a 5)]), (.agg [(.a 6), (.a 7), (.a 8), (.a 9), (.a 10), (.a 11), (.a 12), (.a 13), (.a 14), (.a 15), (.a 16), (.a 17)]), (.one (.bool true))])), [], [(7, (0, [7]))], [((.bin .eql (.a 6) (.int .i64 6)), false), ((.bin .eql (.a 6) (.int .i64 5)), false), ((.bin .eql (.a 6) (.int .i64 3)), false), ((.bin .eql (.a 6) (.int .i64 2)), false), ((.bin .eql (.a 6) (.int .i64 1)), false), ((.bin .eql (.a 6) (.int .i64 4)), false), ((.a 39), true), ((.bin .lss (.a 14) (.int .i64 0)), false), ((.bin .lss (.int .i64 6) (.a 6)), false), ((.bin .lss (.a 6) (.int .i64 1)), false), ((.a 19), true), ((.a 18), true)], [(0, [7])]⟩,
      ⟨(.ret (.tup [(.agg [(.nil 1), (.int .i64 0), (.int .i64 0), (.int .i64 0)]), (.agg [(.int .i64 0), (.int .i64 0), (.int .i64 0), (.int .i64 0), (.int .i64 0), (.int .i64 0), (.int .i64 0), (.int .i64 0), (.int .i64 0), (.int .i64 0), (.int .i64 0), (.int .i64 0)]), (.one (.bool false))])), [], [], [((.a 27), false), ((.bin .eql (.a 6) (.int .i64 4)), true), ((.a 39), true), ((.bin .lss (.a 14) (.int .i64 0)), false), ((.bin .lss (.int .i64 6) (.a 6)), false), ((.bin .lss (.a 6) (.int .i64 1)), false), ((.a 19), true), ((.a 18), true)], []⟩,
      ⟨(.ret (.tup [(.agg [(.nil 1), (.int .i64 0), (.int .i64 0), (.int .i64 0)]), (.agg [(.int .i64 0), (.int .i64 0), (.int .i64 0), (.int .i64 0), (.int .i64 0), (.int .i64 0), (.int .i64 0), (.int .i64 0), (.int .i64 0), (.int .i64 0), (.int .i64 0), (.int .i64 0)]), (.one (.bool false))])), [], [(8, (0, [8]))], [((.a 38), false), ((.bin .eql (.a 21) (.a 11)), true), ((.a 27), true), ((.bin .eql (.a 6) (.int .i64 4)), true), ((.a 39), true), ((.bin .lss (.a 14) (.int .i64 0)), false), ((.bin .lss (.int .i64 6) (.a 6)), false), ((.bin .lss (.a 6) (.int .i64 1)), false), ((.a 19), true), ((.a 18), true)], [(0, [7]), (1, [7, 8])]⟩,
      ⟨(.ret (.tup [(.agg [(.fn 0 [7]), (.a 3), (.a 4), (.a 5)]), (.agg [(.int .i64 5), (.a 7), (.a 8), (.a 9), (.a 10), (.a 11), (.a 12), (.a 13), (.a 14), (.a 15), (.a 16), (.a 17)]), (.one (.bool true))])), [], [(8, (0, [8]))], [((.a 38), true), ((.bin .eql (.a 21) (.a 11)), true), ((.a 27), true), ((.bin .eql (.a 6) (.int .i64 4)), true), ((.a 39), true), ((.bin .lss (.a 14) (.int .i64 0)), false), ((.bin .lss (.int .i64 6) (.a 6)), false), ((.bin .lss (.a 6) (.int .i64 1)), false), ((.a 19), true), ((.a 18), true)], [(0, [7]), (1, [7, 8])]⟩,
      ⟨(.ret (.tup [(.agg [(.fn 0 [7]), (.a 3), (.a 4), (.a 5)]), (.agg [(.int .i64 2), (.a 7), (.a 8), (.a 9), (.a 10), (.a 11), (.a 12), (.a 13), (.a 14), (.a 15), (.a 16), (.a 17)]), (.one (.bool true))])), [], [(7, (0, [7]))], [((.bin .eql (.a 21) (.a 11)), false), ((.a 27), true), ((.bin .eql (.a 6) (.int .i64 4)), true), ((.a 39), true), ((.bin .lss (.a 14) (.int .i64 0)), false), ((.bin .lss (.int .i64 6) (.a 6)), false), ((.bin .lss (.a 6) (.int .i64 1)), false), ((.a 19), true), ((.a 18), true)], [(0, [7])]⟩,
      ⟨(.ret (.tup [(.agg [(.nil 1), (.int .i64 0), (.int .i64 0), (.int .i64 0)]), (.agg [(.int .i64 0), (.int .i64 0), (.int .i64 0), (.int .i64 0), (.int .i64 0), (.int .i64 0), (.int .i64 0), (.int .i64 0), (.int .i64 0), (.int .i64 0), (.int .i64 0), (.int .i64 0)]), (.one (.bool false))])), [], [], [((.bin .lss (.a 6) (.int .i64 1)), true), ((.a 19), true), ((.a 18), true)], []⟩])
    (by kernel_rfl) rfl rfl [] rfl ?obs ?ends
  case obs =>
    refine ⟨?_, ?_, ?_, ?_, ?_, ?_, ?_, ?_, ?_, ?_, ?_, ?_, ?_, ?_, ?_, ?_, ?_, ?_, ?_, ?_, ?_, trivial⟩
    · exact Sx.ob_call fun _ w1 _ _ _ hm => specRingOk w.heap.size s t a n cap xs h tl l w1 ((hi.mono hB).below hm.grownIn.below) hm.grownIn.size hx64 hn
    · exact Sx.ob_call fun _ w1 _ _ _ _ => specHandOk s t d w1
    · exact Sx.ob_call fun _ w1 _ _ _ _ => (specTicket d.tick w1).mono fun _ _ ⟨e1, e2⟩ => ⟨e1, e2 ▸ Below.refl _ _⟩
    · exact Sx.ob_call fun _ w1 _ _ _ _ => specEntryOf s t _ hw64 w1
    · intro δ w1 l1 av o hpre ho _ hv
      have hp := Sx.Each.of hpre.pc
      obtain ⟨p0, p1, -⟩ := hp
      have q0 : (okKB d.tick) = true := Sx.boT p0
      have q1 : (okRB s t xs h tl l) = true := Sx.boT p1
      clear p0 p1
      have own := hpre.fs (0, [7]) List.mem_cons_self
      replace own : Sx.OwnL 2 xs (δ 7).v (δ 7).n (δ 7).o := own
      exact place9 q1 q0 own ho hv
    · intro δ w1 l1 av o hpre ho _ hv
      have hp := Sx.Each.of hpre.pc
      obtain ⟨p0, p1, -⟩ := hp
      have q0 : (okKB d.tick) = true := Sx.boT p0
      have q1 : (okRB s t xs h tl l) = true := Sx.boT p1
      clear p0 p1
      have own := hpre.fs (0, [7]) List.mem_cons_self
      replace own : Sx.OwnL 2 xs (δ 7).v (δ 7).n (δ 7).o := own
      exact own.load ho Try.underlying2 rfl (Mem.hd (b := (δ 7).n) (o := (δ 7).o) hpre.blk) (place_len q1 q0) (List.cons.inj hv).1
    · exact Sx.ob_call fun _ w1 _ _ _ _ => specEntryOf s t _ (w64_wordAt hx64) w1
    · exact Sx.ob_call fun _ w1 _ _ _ _ => specMayTake s t _ _ _ _ w1
    · exact Sx.ob_call fun _ w1 _ _ _ _ => specMost s t w1
    · refine Sx.ob_call fun δ w1 l1 _ hf hm => ?_
      obtain ⟨own, -⟩ := hf
      have hlen : xs.length ≤ 1048576 := by have := hi.1; omega
      have hx2 := hx64
      have nn : (δ 7).n = (δ 7).n := rfl
      obtain ⟨c1, hc1⟩ := own.slice
      have hg : w1.heap[(δ 7).n]? = some (δ 7).o := Mem.hd (b := (δ 7).n) (o := (δ 7).o) hm
      show Calls Try.prog 21 #[.agg #[.int .i64 s, .int .i64 t], .agg #[Sx.asSlice (δ 7).v, .int .i64 h, .int .i64 (IntKind.i64.wrap (tl + 1)), .int .i64 l]] w1 _
      rw [hc1]
      exact specRingOk w1.heap.size s t _ _ c1 _ h _ _ w1 (own.ints (hg)) (Nat.le_refl _) hx2 hlen
    · refine Sx.ob_call fun δ w1 l1 _ hf hm => ?_
      obtain ⟨own, -⟩ := hf
      have hlen : xs.length ≤ 1048576 := by have := hi.1; omega
      have hx2 := hx64
      have nn : (δ 7).n = (δ 7).n := rfl
      obtain ⟨c1, hc1⟩ := own.slice
      have hg : w1.heap[(δ 7).n]? = some (δ 7).o := Mem.hd (b := (δ 7).n) (o := (δ 7).o) hm
      show Calls Try.prog 21 #[.agg #[.int .i64 s, .int .i64 t], .agg #[Sx.asSlice (δ 7).v, .int .i64 h, .int .i64 tl, .int .i64 (mostV s t)]] w1 _
      rw [hc1]
      exact specRingOk w1.heap.size s t _ _ c1 _ h _ _ w1 (own.ints (hg)) (Nat.le_refl _) hx2 hlen
    · refine Sx.ob_new1 rfl fun δ w1 l1 hp _ hm => ?_
      obtain ⟨p0, -⟩ := hp
      have q0 : (okRB s t xs h tl l) = true := Sx.boT p0
      clear p0
      have h0 : 0 < xs.length := by have := (okRB_t q0).2.1; have := okP_le (okRB_t q0).1; omega
      have hi1 : Ints w1.heap.size a n xs w1 := ((hi.mono hB).below hm.grownIn.below).mono hm.grownIn.size
      refine (spec6Copy a n cap xs h tl l w1 hi1 (by omega)).mono fun e w2 ⟨v, he, hown, hb⟩ => ?_
      obtain ⟨g, o, hg, hge, hO⟩ := Sx.OwnL.of_own hown h0
      obtain ⟨c1, hc1⟩ := hO.slice
      refine ⟨⟨g, o, v, [], []⟩, ?_, hg, hge, hO, hb⟩
      rw [he]
      obtain ⟨c2, cur, hv, -⟩ := hO
      subst hv
      rfl
    · exact Sx.ob_call fun _ w1 _ _ _ _ => specTakenBy s t _ _ w1
    · exact Sx.ob_call fun _ w1 _ _ _ _ => specPlace s t _ w1
    · intro δ w1 l1 av o hpre ho _ hv
      have hp := Sx.Each.of hpre.pc
      obtain ⟨p0, p1, -⟩ := hp
      have q0 : (okKB d.tick) = true := Sx.boT p0
      have q1 : (okRB s t xs h tl l) = true := Sx.boT p1
      clear p0 p1
      have own := hpre.fs (0, [7]) List.mem_cons_self
      replace own : Sx.OwnL 2 xs (δ 7).v (δ 7).n (δ 7).o := own
      exact place9 q1 q0 own ho hv
    · intro δ w1 l1 av o hpre ho _ hv
      have hp := Sx.Each.of hpre.pc
      obtain ⟨p0, p1, -⟩ := hp
      have q0 : (okKB d.tick) = true := Sx.boT p0
      have q1 : (okRB s t xs h tl l) = true := Sx.boT p1
      clear p0 p1
      have own := hpre.fs (0, [7]) List.mem_cons_self
      replace own : Sx.OwnL 2 xs (δ 7).v (δ 7).n (δ 7).o := own
      exact own.load ho Try.underlying2 rfl (Mem.hd (b := (δ 7).n) (o := (δ 7).o) hpre.blk) (place_len q1 q0) (List.cons.inj hv).1
    · refine Sx.ob_call fun δ w1 l1 hp _ _ => ?_
      obtain ⟨p0, p1, p2, p3, -⟩ := hp
      have q0 : (okKB d.tick) = true := Sx.boT p0
      have q1 : ¬ d.index < 0 := Sx.ltF p1
      have q2 : (handB s t d) = true := Sx.boT p2
      have q3 : (okRB s t xs h tl l) = true := Sx.boT p3
      clear p0 p1 p2 p3
      obtain ⟨e1, e2, e3⟩ := tb_vals (okRB_t q3).1 (okKB_t q0) (i := d.index) ⟨by omega, by have := hand_index q2; have := okP_le (okRB_t q3).1; omega⟩
      refine specL2Word s t _ _ _ ?_ w1
      rw [e1, e3]
      exact ⟨(okRB_t q3).1, (cyc_w64 ⟨(okRB_t q3).1, okKB_t q0⟩).1, (cyc_w64 ⟨(okRB_t q3).1, okKB_t q0⟩).2, by omega, by have := hand_index q2; have := okP_le (okRB_t q3).1; omega⟩
    · intro δ w1 l1 av o hpre ho _ hv
      have hp := Sx.Each.of hpre.pc
      obtain ⟨p0, p1, -⟩ := hp
      have q0 : (okKB d.tick) = true := Sx.boT p0
      have q1 : (okRB s t xs h tl l) = true := Sx.boT p1
      clear p0 p1
      have own := hpre.fs (0, [7]) List.mem_cons_self
      replace own : Sx.OwnL 2 xs (δ 7).v (δ 7).n (δ 7).o := own
      exact place9 q1 q0 own ho hv
    · intro δ w1 l1 av o K Q hpre ho _ hv hk
      have hp := Sx.Each.of hpre.pc
      obtain ⟨p0, p1, -⟩ := hp
      have q0 : (okKB d.tick) = true := Sx.boT p0
      have q1 : (okRB s t xs h tl l) = true := Sx.boT p1
      clear p0 p1
      have own := hpre.fs (0, [7]) List.mem_cons_self
      replace own : Sx.OwnL 2 xs (δ 7).v (δ 7).n (δ 7).o := own
      refine own.store ho (by kernel_rfl) (l := l1) (show Mem (((δ 7).n, (δ 7).o) :: l1) _ _ _ from hpre.blk) (hpre.mine ((δ 7).n, (δ 7).o) List.mem_cons_self) (place_len q1 q0) (List.cons.inj hv).1 (List.cons.inj (List.cons.inj hv).2).1 fun ob w2 own2 hm2 => ?_
      refine hk (Sx.upd δ 8 ⟨(δ 7).n, ob, (δ 7).v, [], []⟩) w2 ⟨Sx.upd_agree _ _ _, fun f hf => ?_, ?_, fun q hq => ?_⟩
      · have : f = (1, [7, 8]) := by simpa using hf
        subst this
        exact ⟨rfl, own2⟩
      · exact hm2
      · have hq1 : q ∈ [((δ 7).n, ob)] := hq
        rw [List.mem_singleton.1 hq1]
        exact hpre.mine ((δ 7).n, (δ 7).o) List.mem_cons_self
    · refine Sx.ob_call fun δ w1 l1 _ hf hm => ?_
      obtain ⟨-, ⟨nn, own⟩, -⟩ := hf
      have hlen : (xs.set (placeD s d.tick).toNat (wordD s (tbC s t d.tick d.index) (tbI s t d.tick d.index) (tbB s t d.tick d.index))).length ≤ 1048576 := by have := hi.1; rw [List.length_set]; omega
      have hx2 : ∀ x ∈ (xs.set (placeD s d.tick).toNat (wordD s (tbC s t d.tick d.index) (tbI s t d.tick d.index) (tbB s t d.tick d.index))), W64 x := fun x hx => (List.mem_or_eq_of_mem_set hx).elim (hx64 x) (fun e => e ▸ w64_tb)
      obtain ⟨c1, hc1⟩ := own.slice
      have hg : w1.heap[(δ 8).n]? = some (δ 8).o := Mem.hd (b := (δ 8).n) (o := (δ 8).o) hm
      show Calls Try.prog 21 #[.agg #[.int .i64 s, .int .i64 t], .agg #[Sx.asSlice (δ 7).v, .int .i64 h, .int .i64 tl, .int .i64 l]] w1 _
      rw [hc1]
      exact specRingOk w1.heap.size s t _ _ c1 _ h _ _ w1 (own.ints (nn ▸ hg)) (Nat.le_refl _) hx2 hlen
    · refine Sx.ob_call fun δ w1 l1 _ hf hm => ?_
      obtain ⟨own, -⟩ := hf
      have hlen : xs.length ≤ 1048576 := by have := hi.1; omega
      have hx2 := hx64
      have nn : (δ 7).n = (δ 7).n := rfl
      obtain ⟨c1, hc1⟩ := own.slice
      have hg : w1.heap[(δ 7).n]? = some (δ 7).o := Mem.hd (b := (δ 7).n) (o := (δ 7).o) hm
      show Calls Try.prog 21 #[.agg #[.int .i64 s, .int .i64 t], .agg #[Sx.asSlice (δ 7).v, .int .i64 h, .int .i64 tl, .int .i64 l]] w1 _
      rw [hc1]
      exact specRingOk w1.heap.size s t _ _ c1 _ h _ _ w1 (own.ints (hg)) (Nat.le_refl _) hx2 hlen
  case ends =>
    refine ⟨?_, ?_, ?_, ?_, ?_, ?_, ?_, ?_, ?_, ?_, ?_, ?_, ?_, ?_, ?_, ?_, ?_, ?_, ?_, ?_, ?_, ?_, trivial⟩
    · intro δ w1 hM hp hf
      obtain ⟨p0, -⟩ := hp
      have q0 : (okRB s t xs h tl l) = false := Sx.boT p0
      clear p0
      exact step_none (fun g => okRB_f q0 g.1.1) (hM.below rfl)
    · intro δ w1 hM hp hf
      obtain ⟨p0, p1, -⟩ := hp
      have q0 : (handB s t d) = false := Sx.boT p0
      have q1 : (okRB s t xs h tl l) = true := Sx.boT p1
      clear p0 p1
      exact step_none (fun g => by have := g.1.2.1; rw [q0] at this; cases this) (hM.below rfl)
    · intro δ w1 hM hp hf
      obtain ⟨p0, p1, p2, p3, -⟩ := hp
      have q0 : 6 < d.at_ := Sx.ltT p0
      have q1 : ¬ d.at_ < 1 := Sx.ltF p1
      have q2 : (handB s t d) = true := Sx.boT p2
      have q3 : (okRB s t xs h tl l) = true := Sx.boT p3
      clear p0 p1 p2 p3
      exact step_none (fun g => by have := g.1.2.2.1.2; omega) (hM.below rfl)
    · intro δ w1 hM hp hf
      obtain ⟨p0, p1, p2, p3, p4, -⟩ := hp
      have q0 : d.index < 0 := Sx.ltT p0
      have q1 : ¬ 6 < d.at_ := Sx.ltF p1
      have q2 : ¬ d.at_ < 1 := Sx.ltF p2
      have q3 : (handB s t d) = true := Sx.boT p3
      have q4 : (okRB s t xs h tl l) = true := Sx.boT p4
      clear p0 p1 p2 p3 p4
      exact step_none (fun g => by have := g.1.2.2.2.1; omega) (hM.below rfl)
    · intro δ w1 hM hp hf
      obtain ⟨p0, p1, p2, p3, p4, p5, -⟩ := hp
      have q0 : (okKB d.tick) = false := Sx.boT p0
      have q1 : ¬ d.index < 0 := Sx.ltF p1
      have q2 : ¬ 6 < d.at_ := Sx.ltF p2
      have q3 : ¬ d.at_ < 1 := Sx.ltF p3
      have q4 : (handB s t d) = true := Sx.boT p4
      have q5 : (okRB s t xs h tl l) = true := Sx.boT p5
      clear p0 p1 p2 p3 p4 p5
      exact step_none (fun g => okKB_f q0 g.1.2.2.2.2.1) (hM.below rfl)
    · intro δ w1 hM hp hf
      obtain ⟨p0, p1, p2, p3, p4, p5, p6, p7, p8, -⟩ := hp
      have q0 : (okRB s t xs h (IntKind.i64.wrap (tl + 1)) l) = false := Sx.boT p0
      have q1 : d.at_ = 1 := Sx.beqT p1
      have q2 : ¬ d.at_ = 4 := Sx.beqF p2
      have q3 : (okKB d.tick) = true := Sx.boT p3
      have q4 : ¬ d.index < 0 := Sx.ltF p4
      have q5 : ¬ 6 < d.at_ := Sx.ltF p5
      have q6 : ¬ d.at_ < 1 := Sx.ltF p6
      have q7 : (handB s t d) = true := Sx.boT p7
      have q8 : (okRB s t xs h tl l) = true := Sx.boT p8
      clear p0 p1 p2 p3 p4 p5 p6 p7 p8
      have e1 : pvX s xs d = xs := if_neg (fun c => by have := c.1; omega)
      have e2 : pvT tl d = IntKind.i64.wrap (tl + 1) := by have := (okRB_t q8).2.2.2.1; unfold okK at this; rw [pvT, if_pos q1, IntKind.wrap_i64]; omega
      have e3 : pvL s l d = l := if_neg (by omega)
      exact step_none (fun g => by have := g.2; rw [e1, e2, e3, q0] at this; cases this) (hM.below rfl)
    · intro δ w1 hM hp hf
      obtain ⟨p0, p1, p2, p3, p4, p5, p6, p7, p8, -⟩ := hp
      have q0 : (okRB s t xs h (IntKind.i64.wrap (tl + 1)) l) = true := Sx.boT p0
      have q1 : d.at_ = 1 := Sx.beqT p1
      have q2 : ¬ d.at_ = 4 := Sx.beqF p2
      have q3 : (okKB d.tick) = true := Sx.boT p3
      have q4 : ¬ d.index < 0 := Sx.ltF p4
      have q5 : ¬ 6 < d.at_ := Sx.ltF p5
      have q6 : ¬ d.at_ < 1 := Sx.ltF p6
      have q7 : (handB s t d) = true := Sx.boT p7
      have q8 : (okRB s t xs h tl l) = true := Sx.boT p8
      clear p0 p1 p2 p3 p4 p5 p6 p7 p8
      have e1 : pvX s xs d = xs := if_neg (fun c => by have := c.1; omega)
      have e2 : pvT tl d = IntKind.i64.wrap (tl + 1) := by have := (okRB_t q8).2.2.2.1; unfold okK at this; rw [pvT, if_pos q1, IntKind.wrap_i64]; omega
      have e3 : pvL s l d = l := if_neg (by omega)
      have good : psGood s t xs h tl l d := ⟨⟨okRB_t q8, q7, ⟨by omega, by omega⟩, by omega, okKB_t q3, by rw [readB, if_pos ⟨by omega, by omega, by omega⟩]⟩, by rw [e1, e2, e3]; exact q0⟩
      obtain ⟨own, -⟩ := hf
      have hg : w1.heap[(δ 7).n]? = some (δ 7).o := Mem.hd (b := (δ 7).n) (o := (δ 7).o) hM.blk
      have hm : w.heap.size ≤ (δ 7).n := mine_new (hM.mine ((δ 7).n, (δ 7).o) List.mem_cons_self)
      exact step_some good own hg hm e1 e2 e3 (show pvAt s t xs h l d = 2 by rw [pvAt, if_pos q1]) (if_pos q1) (if_neg (by omega)) (hM.below rfl)
    · intro δ w1 hM hp hf
      obtain ⟨p0, p1, p2, p3, p4, p5, p6, p7, p8, p9, -⟩ := hp
      have q0 : (takeV s t (entC s t (wordAt s xs d.tick)) (entI s t (wordAt s xs d.tick)) d.tick (entS s t (wordAt s xs d.tick))) = 1 := Sx.beqT p0
      have q1 : d.at_ = 2 := Sx.beqT p1
      have q2 : ¬ d.at_ = 1 := Sx.beqF p2
      have q3 : ¬ d.at_ = 4 := Sx.beqF p3
      have q4 : (okKB d.tick) = true := Sx.boT p4
      have q5 : ¬ d.index < 0 := Sx.ltF p5
      have q6 : ¬ 6 < d.at_ := Sx.ltF p6
      have q7 : ¬ d.at_ < 1 := Sx.ltF p7
      have q8 : (handB s t d) = true := Sx.boT p8
      have q9 : (okRB s t xs h tl l) = true := Sx.boT p9
      clear p0 p1 p2 p3 p4 p5 p6 p7 p8 p9
      have e1 : pvX s xs d = xs := if_neg (fun c => by have := c.1; omega)
      have e2 : pvT tl d = tl := if_neg (by omega)
      have e3 : pvL s l d = l := if_neg (by omega)
      have good : psGood s t xs h tl l d := ⟨⟨okRB_t q9, q8, ⟨by omega, by omega⟩, by omega, okKB_t q4, by rw [readB, if_pos ⟨by omega, by omega, by omega⟩]⟩, by rw [e1, e2, e3]; exact q9⟩
      obtain ⟨own, -⟩ := hf
      have hg : w1.heap[(δ 7).n]? = some (δ 7).o := Mem.hd (b := (δ 7).n) (o := (δ 7).o) hM.blk
      have hm : w.heap.size ≤ (δ 7).n := mine_new (hM.mine ((δ 7).n, (δ 7).o) List.mem_cons_self)
      exact step_some good own hg hm e1 e2 e3 (show pvAt s t xs h l d = 4 by rw [pvAt, if_neg (by omega), if_pos q1]; simp [byV, q0]) (if_neg (by omega)) (if_pos q1) (hM.below rfl)
    · intro δ w1 hM hp hf
      obtain ⟨p0, p1, p2, p3, p4, p5, p6, p7, p8, p9, p10, -⟩ := hp
      have q0 : (takeV s t (entC s t (wordAt s xs d.tick)) (entI s t (wordAt s xs d.tick)) d.tick (entS s t (wordAt s xs d.tick))) = 2 := Sx.beqT p0
      have q1 : ¬ (takeV s t (entC s t (wordAt s xs d.tick)) (entI s t (wordAt s xs d.tick)) d.tick (entS s t (wordAt s xs d.tick))) = 1 := Sx.beqF p1
      have q2 : d.at_ = 2 := Sx.beqT p2
      have q3 : ¬ d.at_ = 1 := Sx.beqF p3
      have q4 : ¬ d.at_ = 4 := Sx.beqF p4
      have q5 : (okKB d.tick) = true := Sx.boT p5
      have q6 : ¬ d.index < 0 := Sx.ltF p6
      have q7 : ¬ 6 < d.at_ := Sx.ltF p7
      have q8 : ¬ d.at_ < 1 := Sx.ltF p8
      have q9 : (handB s t d) = true := Sx.boT p9
      have q10 : (okRB s t xs h tl l) = true := Sx.boT p10
      clear p0 p1 p2 p3 p4 p5 p6 p7 p8 p9 p10
      have e1 : pvX s xs d = xs := if_neg (fun c => by have := c.1; omega)
      have e2 : pvT tl d = tl := if_neg (by omega)
      have e3 : pvL s l d = l := if_neg (by omega)
      have good : psGood s t xs h tl l d := ⟨⟨okRB_t q10, q9, ⟨by omega, by omega⟩, by omega, okKB_t q5, by rw [readB, if_pos ⟨by omega, by omega, by omega⟩]⟩, by rw [e1, e2, e3]; exact q10⟩
      obtain ⟨own, -⟩ := hf
      have hg : w1.heap[(δ 7).n]? = some (δ 7).o := Mem.hd (b := (δ 7).n) (o := (δ 7).o) hM.blk
      have hm : w.heap.size ≤ (δ 7).n := mine_new (hM.mine ((δ 7).n, (δ 7).o) List.mem_cons_self)
      exact step_some good own hg hm e1 e2 e3 (show pvAt s t xs h l d = 3 by rw [pvAt, if_neg (by omega), if_pos q2]; simp [byV, q0, q1]) (if_neg (by omega)) (if_pos q2) (hM.below rfl)
    · intro δ w1 hM hp hf
      obtain ⟨p0, p1, p2, p3, p4, p5, p6, p7, p8, p9, p10, -⟩ := hp
      have q0 : ¬ (takeV s t (entC s t (wordAt s xs d.tick)) (entI s t (wordAt s xs d.tick)) d.tick (entS s t (wordAt s xs d.tick))) = 2 := Sx.beqF p0
      have q1 : ¬ (takeV s t (entC s t (wordAt s xs d.tick)) (entI s t (wordAt s xs d.tick)) d.tick (entS s t (wordAt s xs d.tick))) = 1 := Sx.beqF p1
      have q2 : d.at_ = 2 := Sx.beqT p2
      have q3 : ¬ d.at_ = 1 := Sx.beqF p3
      have q4 : ¬ d.at_ = 4 := Sx.beqF p4
      have q5 : (okKB d.tick) = true := Sx.boT p5
      have q6 : ¬ d.index < 0 := Sx.ltF p6
      have q7 : ¬ 6 < d.at_ := Sx.ltF p7
      have q8 : ¬ d.at_ < 1 := Sx.ltF p8
      have q9 : (handB s t d) = true := Sx.boT p9
      have q10 : (okRB s t xs h tl l) = true := Sx.boT p10
      clear p0 p1 p2 p3 p4 p5 p6 p7 p8 p9 p10
      have e1 : pvX s xs d = xs := if_neg (fun c => by have := c.1; omega)
      have e2 : pvT tl d = tl := if_neg (by omega)
      have e3 : pvL s l d = l := if_neg (by omega)
      have good : psGood s t xs h tl l d := ⟨⟨okRB_t q10, q9, ⟨by omega, by omega⟩, by omega, okKB_t q5, by rw [readB, if_pos ⟨by omega, by omega, by omega⟩]⟩, by rw [e1, e2, e3]; exact q10⟩
      obtain ⟨own, -⟩ := hf
      have hg : w1.heap[(δ 7).n]? = some (δ 7).o := Mem.hd (b := (δ 7).n) (o := (δ 7).o) hM.blk
      have hm : w.heap.size ≤ (δ 7).n := mine_new (hM.mine ((δ 7).n, (δ 7).o) List.mem_cons_self)
      exact step_some good own hg hm e1 e2 e3 (show pvAt s t xs h l d = 1 by rw [pvAt, if_neg (by omega), if_pos q2]; simp [byV, q0, q1]) (if_neg (by omega)) (if_pos q2) (hM.below rfl)
    · intro δ w1 hM hp hf
      obtain ⟨p0, p1, p2, p3, p4, p5, p6, p7, p8, p9, p10, -⟩ := hp
      have q0 : ¬ d.tick < h := Sx.ltF p0
      have q1 : d.at_ = 3 := Sx.beqT p1
      have q2 : ¬ d.at_ = 2 := Sx.beqF p2
      have q3 : ¬ d.at_ = 1 := Sx.beqF p3
      have q4 : ¬ d.at_ = 4 := Sx.beqF p4
      have q5 : (okKB d.tick) = true := Sx.boT p5
      have q6 : ¬ d.index < 0 := Sx.ltF p6
      have q7 : ¬ 6 < d.at_ := Sx.ltF p7
      have q8 : ¬ d.at_ < 1 := Sx.ltF p8
      have q9 : (handB s t d) = true := Sx.boT p9
      have q10 : (okRB s t xs h tl l) = true := Sx.boT p10
      clear p0 p1 p2 p3 p4 p5 p6 p7 p8 p9 p10
      have e1 : pvX s xs d = xs := if_neg (fun c => by have := c.1; omega)
      have e2 : pvT tl d = tl := if_neg (by omega)
      have e3 : pvL s l d = l := if_neg (by omega)
      have good : psGood s t xs h tl l d := ⟨⟨okRB_t q10, q9, ⟨by omega, by omega⟩, by omega, okKB_t q5, by rw [readB, if_pos ⟨by omega, by omega, by omega⟩]⟩, by rw [e1, e2, e3]; exact q10⟩
      obtain ⟨own, -⟩ := hf
      have hg : w1.heap[(δ 7).n]? = some (δ 7).o := Mem.hd (b := (δ 7).n) (o := (δ 7).o) hM.blk
      have hm : w.heap.size ≤ (δ 7).n := mine_new (hM.mine ((δ 7).n, (δ 7).o) List.mem_cons_self)
      exact step_some good own hg hm e1 e2 e3 (show pvAt s t xs h l d = 4 by rw [pvAt, if_neg (by omega), if_neg (by omega), if_pos q1, if_pos (by omega)]) (if_neg (by omega)) (if_neg (by omega)) (hM.below rfl)
    · intro δ w1 hM hp hf
      obtain ⟨p0, p1, p2, p3, p4, p5, p6, p7, p8, p9, p10, -⟩ := hp
      have q0 : d.tick < h := Sx.ltT p0
      have q1 : d.at_ = 3 := Sx.beqT p1
      have q2 : ¬ d.at_ = 2 := Sx.beqF p2
      have q3 : ¬ d.at_ = 1 := Sx.beqF p3
      have q4 : ¬ d.at_ = 4 := Sx.beqF p4
      have q5 : (okKB d.tick) = true := Sx.boT p5
      have q6 : ¬ d.index < 0 := Sx.ltF p6
      have q7 : ¬ 6 < d.at_ := Sx.ltF p7
      have q8 : ¬ d.at_ < 1 := Sx.ltF p8
      have q9 : (handB s t d) = true := Sx.boT p9
      have q10 : (okRB s t xs h tl l) = true := Sx.boT p10
      clear p0 p1 p2 p3 p4 p5 p6 p7 p8 p9 p10
      have e1 : pvX s xs d = xs := if_neg (fun c => by have := c.1; omega)
      have e2 : pvT tl d = tl := if_neg (by omega)
      have e3 : pvL s l d = l := if_neg (by omega)
      have good : psGood s t xs h tl l d := ⟨⟨okRB_t q10, q9, ⟨by omega, by omega⟩, by omega, okKB_t q5, by rw [readB, if_pos ⟨by omega, by omega, by omega⟩]⟩, by rw [e1, e2, e3]; exact q10⟩
      obtain ⟨own, -⟩ := hf
      have hg : w1.heap[(δ 7).n]? = some (δ 7).o := Mem.hd (b := (δ 7).n) (o := (δ 7).o) hM.blk
      have hm : w.heap.size ≤ (δ 7).n := mine_new (hM.mine ((δ 7).n, (δ 7).o) List.mem_cons_self)
      exact step_some good own hg hm e1 e2 e3 (show pvAt s t xs h l d = 1 by rw [pvAt, if_neg (by omega), if_neg (by omega), if_pos q1, if_neg (by omega)]) (if_neg (by omega)) (if_neg (by omega)) (hM.below rfl)
    · intro δ w1 hM hp hf
      obtain ⟨p0, p1, p2, p3, p4, p5, p6, p7, p8, p9, p10, p11, -⟩ := hp
      have q0 : l = (mostV s t) := Sx.beqT p0
      have q1 : d.at_ = 5 := Sx.beqT p1
      have q2 : ¬ d.at_ = 3 := Sx.beqF p2
      have q3 : ¬ d.at_ = 2 := Sx.beqF p3
      have q4 : ¬ d.at_ = 1 := Sx.beqF p4
      have q5 : ¬ d.at_ = 4 := Sx.beqF p5
      have q6 : (okKB d.tick) = true := Sx.boT p6
      have q7 : ¬ d.index < 0 := Sx.ltF p7
      have q8 : ¬ 6 < d.at_ := Sx.ltF p8
      have q9 : ¬ d.at_ < 1 := Sx.ltF p9
      have q10 : (handB s t d) = true := Sx.boT p10
      have q11 : (okRB s t xs h tl l) = true := Sx.boT p11
      clear p0 p1 p2 p3 p4 p5 p6 p7 p8 p9 p10 p11
      have e1 : pvX s xs d = xs := if_neg (fun c => by have := c.1; omega)
      have e2 : pvT tl d = tl := if_neg (by omega)
      have e3 : pvL s l d = l := if_neg (by omega)
      have good : psGood s t xs h tl l d := ⟨⟨okRB_t q11, q10, ⟨by omega, by omega⟩, by omega, okKB_t q6, by rw [readB, if_pos ⟨by omega, by omega, by omega⟩]⟩, by rw [e1, e2, e3]; exact q11⟩
      obtain ⟨own, -⟩ := hf
      have hg : w1.heap[(δ 7).n]? = some (δ 7).o := Mem.hd (b := (δ 7).n) (o := (δ 7).o) hM.blk
      have hm : w.heap.size ≤ (δ 7).n := mine_new (hM.mine ((δ 7).n, (δ 7).o) List.mem_cons_self)
      exact step_some good own hg hm e1 e2 e3 (show pvAt s t xs h l d = 20 by rw [pvAt, if_neg (by omega), if_neg (by omega), if_neg (by omega), if_neg (by omega), if_pos q1, if_pos (by rw [← most9 (okRB_t q11).1]; exact q0)]) (if_neg (by omega)) (if_neg (by omega)) (hM.below rfl)
    · intro δ w1 hM hp hf
      obtain ⟨p0, p1, p2, p3, p4, p5, p6, p7, p8, p9, p10, p11, -⟩ := hp
      have q0 : ¬ l = (mostV s t) := Sx.beqF p0
      have q1 : d.at_ = 5 := Sx.beqT p1
      have q2 : ¬ d.at_ = 3 := Sx.beqF p2
      have q3 : ¬ d.at_ = 2 := Sx.beqF p3
      have q4 : ¬ d.at_ = 1 := Sx.beqF p4
      have q5 : ¬ d.at_ = 4 := Sx.beqF p5
      have q6 : (okKB d.tick) = true := Sx.boT p6
      have q7 : ¬ d.index < 0 := Sx.ltF p7
      have q8 : ¬ 6 < d.at_ := Sx.ltF p8
      have q9 : ¬ d.at_ < 1 := Sx.ltF p9
      have q10 : (handB s t d) = true := Sx.boT p10
      have q11 : (okRB s t xs h tl l) = true := Sx.boT p11
      clear p0 p1 p2 p3 p4 p5 p6 p7 p8 p9 p10 p11
      have e1 : pvX s xs d = xs := if_neg (fun c => by have := c.1; omega)
      have e2 : pvT tl d = tl := if_neg (by omega)
      have e3 : pvL s l d = l := if_neg (by omega)
      have good : psGood s t xs h tl l d := ⟨⟨okRB_t q11, q10, ⟨by omega, by omega⟩, by omega, okKB_t q6, by rw [readB, if_pos ⟨by omega, by omega, by omega⟩]⟩, by rw [e1, e2, e3]; exact q11⟩
      obtain ⟨own, -⟩ := hf
      have hg : w1.heap[(δ 7).n]? = some (δ 7).o := Mem.hd (b := (δ 7).n) (o := (δ 7).o) hM.blk
      have hm : w.heap.size ≤ (δ 7).n := mine_new (hM.mine ((δ 7).n, (δ 7).o) List.mem_cons_self)
      exact step_some good own hg hm e1 e2 e3 (show pvAt s t xs h l d = 6 by rw [pvAt, if_neg (by omega), if_neg (by omega), if_neg (by omega), if_neg (by omega), if_pos q1, if_neg (by rw [← most9 (okRB_t q11).1]; exact q0)]) (if_neg (by omega)) (if_neg (by omega)) (hM.below rfl)
    · intro δ w1 hM hp hf
      obtain ⟨p0, p1, p2, p3, p4, p5, p6, p7, p8, p9, p10, p11, p12, -⟩ := hp
      have q0 : (okRB s t xs h tl (mostV s t)) = false := Sx.boT p0
      have q1 : d.at_ = 6 := Sx.beqT p1
      have q2 : ¬ d.at_ = 5 := Sx.beqF p2
      have q3 : ¬ d.at_ = 3 := Sx.beqF p3
      have q4 : ¬ d.at_ = 2 := Sx.beqF p4
      have q5 : ¬ d.at_ = 1 := Sx.beqF p5
      have q6 : ¬ d.at_ = 4 := Sx.beqF p6
      have q7 : (okKB d.tick) = true := Sx.boT p7
      have q8 : ¬ d.index < 0 := Sx.ltF p8
      have q9 : ¬ 6 < d.at_ := Sx.ltF p9
      have q10 : ¬ d.at_ < 1 := Sx.ltF p10
      have q11 : (handB s t d) = true := Sx.boT p11
      have q12 : (okRB s t xs h tl l) = true := Sx.boT p12
      clear p0 p1 p2 p3 p4 p5 p6 p7 p8 p9 p10 p11 p12
      have e1 : pvX s xs d = xs := if_neg (fun c => by have := c.1; omega)
      have e2 : pvT tl d = tl := if_neg (by omega)
      have e3 : pvL s l d = mostV s t := by rw [pvL, if_pos q1, mostV, if_pos (okRB_t q12).1]
      exact step_none (fun g => by have := g.2; rw [e1, e2, e3, q0] at this; cases this) (hM.below rfl)
    · intro δ w1 hM hp hf
      obtain ⟨p0, p1, p2, p3, p4, p5, p6, p7, p8, p9, p10, p11, p12, -⟩ := hp
      have q0 : (okRB s t xs h tl (mostV s t)) = true := Sx.boT p0
      have q1 : d.at_ = 6 := Sx.beqT p1
      have q2 : ¬ d.at_ = 5 := Sx.beqF p2
      have q3 : ¬ d.at_ = 3 := Sx.beqF p3
      have q4 : ¬ d.at_ = 2 := Sx.beqF p4
      have q5 : ¬ d.at_ = 1 := Sx.beqF p5
      have q6 : ¬ d.at_ = 4 := Sx.beqF p6
      have q7 : (okKB d.tick) = true := Sx.boT p7
      have q8 : ¬ d.index < 0 := Sx.ltF p8
      have q9 : ¬ 6 < d.at_ := Sx.ltF p9
      have q10 : ¬ d.at_ < 1 := Sx.ltF p10
      have q11 : (handB s t d) = true := Sx.boT p11
      have q12 : (okRB s t xs h tl l) = true := Sx.boT p12
      clear p0 p1 p2 p3 p4 p5 p6 p7 p8 p9 p10 p11 p12
      have e1 : pvX s xs d = xs := if_neg (fun c => by have := c.1; omega)
      have e2 : pvT tl d = tl := if_neg (by omega)
      have e3 : pvL s l d = mostV s t := by rw [pvL, if_pos q1, mostV, if_pos (okRB_t q12).1]
      have good : psGood s t xs h tl l d := ⟨⟨okRB_t q12, q11, ⟨by omega, by omega⟩, by omega, okKB_t q7, by rw [readB, if_pos ⟨by omega, by omega, by omega⟩]⟩, by rw [e1, e2, e3]; exact q0⟩
      obtain ⟨own, -⟩ := hf
      have hg : w1.heap[(δ 7).n]? = some (δ 7).o := Mem.hd (b := (δ 7).n) (o := (δ 7).o) hM.blk
      have hm : w.heap.size ≤ (δ 7).n := mine_new (hM.mine ((δ 7).n, (δ 7).o) List.mem_cons_self)
      exact step_some good own hg hm e1 e2 e3 (show pvAt s t xs h l d = 20 by rw [pvAt, if_neg (by omega), if_neg (by omega), if_neg (by omega), if_neg (by omega), if_neg (by omega)]) (if_neg (by omega)) (if_neg (by omega)) (hM.below rfl)
    · intro δ w1 hM hp hf
      obtain ⟨p0, p1, p2, p3, p4, p5, p6, p7, p8, p9, p10, p11, -⟩ := hp
      have q0 : ¬ d.at_ = 6 := Sx.beqF p0
      have q1 : ¬ d.at_ = 5 := Sx.beqF p1
      have q2 : ¬ d.at_ = 3 := Sx.beqF p2
      have q3 : ¬ d.at_ = 2 := Sx.beqF p3
      have q4 : ¬ d.at_ = 1 := Sx.beqF p4
      have q5 : ¬ d.at_ = 4 := Sx.beqF p5
      have q6 : (okKB d.tick) = true := Sx.boT p6
      have q7 : ¬ d.index < 0 := Sx.ltF p7
      have q8 : ¬ 6 < d.at_ := Sx.ltF p8
      have q9 : ¬ d.at_ < 1 := Sx.ltF p9
      have q10 : (handB s t d) = true := Sx.boT p10
      have q11 : (okRB s t xs h tl l) = true := Sx.boT p11
      clear p0 p1 p2 p3 p4 p5 p6 p7 p8 p9 p10 p11
      omega
    · intro δ w1 hM hp hf
      obtain ⟨p0, p1, p2, p3, p4, p5, p6, p7, -⟩ := hp
      have q0 : (okWB s t d.word) = false := Sx.boT p0
      have q1 : d.at_ = 4 := Sx.beqT p1
      have q2 : (okKB d.tick) = true := Sx.boT p2
      have q3 : ¬ d.index < 0 := Sx.ltF p3
      have q4 : ¬ 6 < d.at_ := Sx.ltF p4
      have q5 : ¬ d.at_ < 1 := Sx.ltF p5
      have q6 : (handB s t d) = true := Sx.boT p6
      have q7 : (okRB s t xs h tl l) = true := Sx.boT p7
      clear p0 p1 p2 p3 p4 p5 p6 p7
      exact step_none (fun g => by have := g.1.2.2.2.2.2; rw [readB, if_neg (by omega), q0] at this; cases this) (hM.below rfl)
    · intro δ w1 hM hp hf
      obtain ⟨p0, p1, p2, p3, p4, p5, p6, p7, p8, p9, -⟩ := hp
      have q0 : (okRB s t (xs.set (placeD s d.tick).toNat (wordD s (tbC s t d.tick d.index) (tbI s t d.tick d.index) (tbB s t d.tick d.index))) h tl l) = false := Sx.boT p0
      have q1 : (wordAt s xs d.tick) = d.word := Sx.beqT p1
      have q2 : (okWB s t d.word) = true := Sx.boT p2
      have q3 : d.at_ = 4 := Sx.beqT p3
      have q4 : (okKB d.tick) = true := Sx.boT p4
      have q5 : ¬ d.index < 0 := Sx.ltF p5
      have q6 : ¬ 6 < d.at_ := Sx.ltF p6
      have q7 : ¬ d.at_ < 1 := Sx.ltF p7
      have q8 : (handB s t d) = true := Sx.boT p8
      have q9 : (okRB s t xs h tl l) = true := Sx.boT p9
      clear p0 p1 p2 p3 p4 p5 p6 p7 p8 p9
      obtain ⟨t1, t2, t3⟩ := tb_vals (okRB_t q9).1 (okKB_t q4) (i := d.index) ⟨by omega, by have := hand_index q8; have := okP_le (okRB_t q9).1; omega⟩
      have e1 : pvX s xs d = (xs.set (placeD s d.tick).toNat (wordD s (tbC s t d.tick d.index) (tbI s t d.tick d.index) (tbB s t d.tick d.index))) := by rw [pvX, if_pos ⟨q3, q1⟩, t1, t2, t3]
      have e2 : pvT tl d = tl := if_neg (by omega)
      have e3 : pvL s l d = l := if_neg (by omega)
      exact step_none (fun g => by have := g.2; rw [e1, e2, e3, q0] at this; cases this) (hM.below rfl)
    · intro δ w1 hM hp hf
      obtain ⟨p0, p1, p2, p3, p4, p5, p6, p7, p8, p9, -⟩ := hp
      have q0 : (okRB s t (xs.set (placeD s d.tick).toNat (wordD s (tbC s t d.tick d.index) (tbI s t d.tick d.index) (tbB s t d.tick d.index))) h tl l) = true := Sx.boT p0
      have q1 : (wordAt s xs d.tick) = d.word := Sx.beqT p1
      have q2 : (okWB s t d.word) = true := Sx.boT p2
      have q3 : d.at_ = 4 := Sx.beqT p3
      have q4 : (okKB d.tick) = true := Sx.boT p4
      have q5 : ¬ d.index < 0 := Sx.ltF p5
      have q6 : ¬ 6 < d.at_ := Sx.ltF p6
      have q7 : ¬ d.at_ < 1 := Sx.ltF p7
      have q8 : (handB s t d) = true := Sx.boT p8
      have q9 : (okRB s t xs h tl l) = true := Sx.boT p9
      clear p0 p1 p2 p3 p4 p5 p6 p7 p8 p9
      obtain ⟨t1, t2, t3⟩ := tb_vals (okRB_t q9).1 (okKB_t q4) (i := d.index) ⟨by omega, by have := hand_index q8; have := okP_le (okRB_t q9).1; omega⟩
      have e1 : pvX s xs d = (xs.set (placeD s d.tick).toNat (wordD s (tbC s t d.tick d.index) (tbI s t d.tick d.index) (tbB s t d.tick d.index))) := by rw [pvX, if_pos ⟨q3, q1⟩, t1, t2, t3]
      have e2 : pvT tl d = tl := if_neg (by omega)
      have e3 : pvL s l d = l := if_neg (by omega)
      have good : psGood s t xs h tl l d := ⟨⟨okRB_t q9, q8, ⟨by omega, by omega⟩, by omega, okKB_t q4, by rw [readB, if_neg (by omega)]; exact q2⟩, by rw [e1, e2, e3]; exact q0⟩
      obtain ⟨-, ⟨nn, own⟩, -⟩ := hf
      have hg : w1.heap[(δ 7).n]? = some (δ 8).o := nn ▸ Mem.hd (b := (δ 8).n) (o := (δ 8).o) hM.blk
      have hm : w.heap.size ≤ (δ 7).n := nn ▸ mine_new (hM.mine ((δ 8).n, (δ 8).o) List.mem_cons_self)
      exact step_some good own hg hm e1 e2 e3 (show pvAt s t xs h l d = 5 by rw [pvAt, if_neg (by omega), if_neg (by omega), if_neg (by omega), if_pos q3, if_pos q1]) (if_neg (by omega)) (if_neg (by omega)) (hM.below rfl)
    · intro δ w1 hM hp hf
      obtain ⟨p0, p1, p2, p3, p4, p5, p6, p7, p8, -⟩ := hp
      have q0 : ¬ (wordAt s xs d.tick) = d.word := Sx.beqF p0
      have q1 : (okWB s t d.word) = true := Sx.boT p1
      have q2 : d.at_ = 4 := Sx.beqT p2
      have q3 : (okKB d.tick) = true := Sx.boT p3
      have q4 : ¬ d.index < 0 := Sx.ltF p4
      have q5 : ¬ 6 < d.at_ := Sx.ltF p5
      have q6 : ¬ d.at_ < 1 := Sx.ltF p6
      have q7 : (handB s t d) = true := Sx.boT p7
      have q8 : (okRB s t xs h tl l) = true := Sx.boT p8
      clear p0 p1 p2 p3 p4 p5 p6 p7 p8
      have e1 : pvX s xs d = xs := if_neg (fun c => q0 c.2)
      have e2 : pvT tl d = tl := if_neg (by omega)
      have e3 : pvL s l d = l := if_neg (by omega)
      have good : psGood s t xs h tl l d := ⟨⟨okRB_t q8, q7, ⟨by omega, by omega⟩, by omega, okKB_t q3, by rw [readB, if_neg (by omega)]; exact q1⟩, by rw [e1, e2, e3]; exact q8⟩
      obtain ⟨own, -⟩ := hf
      have hg : w1.heap[(δ 7).n]? = some (δ 7).o := Mem.hd (b := (δ 7).n) (o := (δ 7).o) hM.blk
      have hm : w.heap.size ≤ (δ 7).n := mine_new (hM.mine ((δ 7).n, (δ 7).o) List.mem_cons_self)
      exact step_some good own hg hm e1 e2 e3 (show pvAt s t xs h l d = 2 by rw [pvAt, if_neg (by omega), if_neg (by omega), if_neg (by omega), if_pos q2, if_neg q0]) (if_neg (by omega)) (if_neg (by omega)) (hM.below rfl)
    · intro δ w1 hM hp hf
      obtain ⟨p0, p1, p2, -⟩ := hp
      have q0 : d.at_ < 1 := Sx.ltT p0
      have q1 : (handB s t d) = true := Sx.boT p1
      have q2 : (okRB s t xs h tl l) = true := Sx.boT p2
      clear p0 p1 p2
      exact step_none (fun g => by have := g.1.2.2.1.1; omega) (hM.below rfl)

end Go.Proofs.Ytdpahikbikiilaa
