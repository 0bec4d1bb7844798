/- FnExactPutStep: the law's walk, whatever both answer, by reckoning. -/
import Derived.Test.YtdpahikbikiilaaSxp
import Derived.Test.YtdpahikbikiilaaS8
import Derived.KernelRfl
namespace Go.Proofs.Ytdpahikbikiilaa
open Go.RowKit

def soPutStep : List Sx.So := [.i .i64, .i .i64, .o] ++ List.replicate 30 (.i .i64) ++ [.b, .i .i64, .i .i64, .i .i64]

/-- Laws that the walk of the law calls for. -/
def hintPutStep : Sx.Hints := fun key _ c st =>
  let d := 1000 + key.2.1 * 256 + key.2.2
  match c with
  | some (f, [_, .v (.agg (.fn 0 [d1] :: _)), _]) =>
    if f = 7 ∨ f = 11 then some (.eff { wo := [d1], fk := [0] } { ret := .tup [.agg [.fn 0 [d], .a 18, .a 19, .a 20], .agg [.a 21, .a 22, .a 23, .a 24, .a 25, .a 26, .a 27, .a 28, .a 29, .a 30, .a 31, .a 32], .one (.a 33)], news := [d], obs := [(d1, 0, [d1]), (d, 0, [d])], fs := [(1, [d])] })
    else some .inl
  | some (f, [.v (.agg (.fn 0 [d1] :: _)), .v (.agg (.fn 0 [d2] :: _))]) =>
    if f = 12 then some (.eff { wo := [d1, d2], fk := [0, 1] } { ret := .v (.one (.bool true)), obs := Sx.handO [d1, d2] st.obs })
    else some .inl
  | some (f, [.v (.agg (.fn 0 [d1] :: _)), _]) =>
    if f = 14 then
      if st.fs.contains (0, [d1]) then some (.eff { wo := [d1], fk := [0] } { ret := .v (.one (.a 35)), news := [d], obs := [(d, 0, [d])], fs := [(2, [d1, d])] })
      else some (.eff { wo := [d1], fk := [1] } { ret := .v (.one (.a 36)), news := [d], obs := [(d, 0, [d])], fs := [(3, [d1, d])] })
    else if f = 15 then
      match st.fs.find? (fun q => q.1 == 3) with
      | some (_, [_, d2]) => some (.eff { wo := [d2], fk := [3] } { ret := .v (.one (.a 36)), obs := [(d2, 0, [d2])] })
      | _ => none
    else some .inl
  | some (f, [_]) =>
    if f = 9 then some (.eff {} { ret := .v (.agg [.fn 0 [d], .a 3, .a 4, .a 5]), news := [d], obs := [(d, 0, [d])], fs := [(0, [d])] })
    else some .inl
  | some (f, _) => if f = 6 then some (.eff {} { ret := .v (.one (.a 34)) }) else some .inl
  | none => none

/-- A part that has been marked. -/
def Marked (X : List Int) (x y : Sx.Dy) : Prop := ∃ a c, x.v = .slice a X.length c ∧ OwnS y.p (marks 1 X.length) a X.length c

set_option maxRecDepth 100000 in
set_option maxHeartbeats 4000000 in
theorem exactPutStep_small (s0 t0 : Int) (a : Option Addr) (n cap : Nat) (xs : List Int) (h tl l : Int) (d : Hd) (X : List Int) (H' T' L' : Int) (D : Hd) (Z : Bool) (w : World) (hi : IntsW (a, n, xs) w) (hn : n ≤ 1048576) (hX : X.length ≤ 1048576)
    (SP : (∀ (u : World) (b : Option Addr) (c : Nat), IntsW (b, n, xs) u → Calls Try.prog 7 #[.agg #[.int .i64 s0, .int .i64 t0], .agg #[.slice b n c, .int .i64 h, .int .i64 tl, .int .i64 l], .agg #[.int .i64 d.at_, .int .i64 d.code, .int .i64 d.val, .int .i64 d.ring, .int .i64 d.tick, .int .i64 d.word, .int .i64 d.tail, .int .i64 d.head, .int .i64 d.index, .int .i64 d.begin_, .int .i64 d.reply, .int .i64 d.out]] u (GotStep X H' T' L' (.agg #[.int .i64 D.at_, .int .i64 D.code, .int .i64 D.val, .int .i64 D.ring, .int .i64 D.tick, .int .i64 D.word, .int .i64 D.tail, .int .i64 D.head, .int .i64 D.index, .int .i64 D.begin_, .int .i64 D.reply, .int .i64 D.out]) Z u)))
    (IM : (∀ (u : World) (b : Option Addr) (c : Nat), IntsW (b, n, xs) u → Calls Try.prog 11 #[.agg #[.int .i64 s0, .int .i64 t0], .agg #[.slice b n c, .int .i64 h, .int .i64 tl, .int .i64 l], .agg #[.int .i64 d.at_, .int .i64 d.code, .int .i64 d.val, .int .i64 d.ring, .int .i64 d.tick, .int .i64 d.word, .int .i64 d.tail, .int .i64 d.head, .int .i64 d.index, .int .i64 d.begin_, .int .i64 d.reply, .int .i64 d.out]] u (GotStep X H' T' L' (.agg #[.int .i64 D.at_, .int .i64 D.code, .int .i64 D.val, .int .i64 D.ring, .int .i64 D.tick, .int .i64 D.word, .int .i64 D.tail, .int .i64 D.head, .int .i64 D.index, .int .i64 D.begin_, .int .i64 D.reply, .int .i64 D.out]) Z u))) :
    Calls Try.prog 3 #[.agg #[.int .i64 s0, .int .i64 t0], .agg #[.slice a n cap, .int .i64 h, .int .i64 tl, .int .i64 l], .agg #[.int .i64 d.at_, .int .i64 d.code, .int .i64 d.val, .int .i64 d.ring, .int .i64 d.tick, .int .i64 d.word, .int .i64 d.tail, .int .i64 d.head, .int .i64 d.index, .int .i64 d.begin_, .int .i64 d.reply, .int .i64 d.out]] w fun e w' => e = .returned (.bool true) ∧ Below w.heap.size w w' := by
  have hm : n ≤ maxLen := by unfold maxLen; omega
  refine Sx.walk (ls := soPutStep) (fs := [.o]) (wr := fun _ => []) (hint := hintPutStep) (loops := Sx.noLoops) (keep := []) (cat := [])
    { ls := [.i s0, .i t0, .sl a n cap, .i h, .i tl, .i l, .i d.at_, .i d.code, .i d.val, .i d.ring, .i d.tick, .i d.word, .i d.tail, .i d.head, .i d.index, .i d.begin_, .i d.reply, .i d.out, .i H', .i T', .i L', .i D.at_, .i D.code, .i D.val, .i D.ring, .i D.tick, .i D.word, .i D.tail, .i D.head, .i D.index, .i D.begin_, .i D.reply, .i D.out, .b Z, .i (leftV 1048576 n), .i (1 + (n : Int)), .i (1 + (X.length : Int))], fs := [.sv], ob := [Sx.partP], fact := [fun ds => match ds with | [x] => Sx.PartOf xs x | _ => True, fun ds => match ds with | [x] => Sx.PartOf X x | _ => True, fun ds => match ds with | [x, y] => Marked xs x y | _ => True, fun ds => match ds with | [x, y] => Marked X x y | _ => True] }
    9 3 [.v (.agg [.a 0, .a 1]), .v (.agg [.a 2, .a 3, .a 4, .a 5]), .v (.agg [.a 6, .a 7, .a 8, .a 9, .a 10, .a 11, .a 12, .a 13, .a 14, .a 15, .a 16, .a 17])]
    (obs := [(.call 6 [(.v (.agg [(.a 2), (.a 3), (.a 4), (.a 5)])), (.v (.one (.int .i64 1048576)))] [] [] [] [] ⟨(.v (.one (.a 34))), [], [], [], [], .none⟩),
      (.call 9 [(.v (.agg [(.a 2), (.a 3), (.a 4), (.a 5)]))] [] [] [] [] ⟨(.v (.agg [(.fn 0 [2283]), (.a 3), (.a 4), (.a 5)])), [2283], [], [(2283, (0, [2283]))], [(0, [2283])], .none⟩),
      (.call 7 [(.v (.agg [(.a 0), (.a 1)])), (.v (.agg [(.fn 0 [2283]), (.a 3), (.a 4), (.a 5)])), (.v (.agg [(.a 6), (.a 7), (.a 8), (.a 9), (.a 10), (.a 11), (.a 12), (.a 13), (.a 14), (.a 15), (.a 16), (.a 17)]))] [] [(0, [2283])] [] [(2283, (0, [2283]))] ⟨(.tup [(.agg [(.fn 0 [2286]), (.a 18), (.a 19), (.a 20)]), (.agg [(.a 21), (.a 22), (.a 23), (.a 24), (.a 25), (.a 26), (.a 27), (.a 28), (.a 29), (.a 30), (.a 31), (.a 32)]), (.one (.a 33))]), [2286], [], [(2283, (0, [2283])), (2286, (0, [2286]))], [(1, [2286])], .none⟩),
      (.call 9 [(.v (.agg [(.a 2), (.a 3), (.a 4), (.a 5)]))] [] [] [] [] ⟨(.v (.agg [(.fn 0 [2537]), (.a 3), (.a 4), (.a 5)])), [2537], [], [(2537, (0, [2537]))], [(0, [2537])], .none⟩),
      (.call 11 [(.v (.agg [(.a 0), (.a 1)])), (.v (.agg [(.fn 0 [2537]), (.a 3), (.a 4), (.a 5)])), (.v (.agg [(.a 6), (.a 7), (.a 8), (.a 9), (.a 10), (.a 11), (.a 12), (.a 13), (.a 14), (.a 15), (.a 16), (.a 17)]))] [] [(0, [2537]), (0, [2283])] [] [(2537, (0, [2537]))] ⟨(.tup [(.agg [(.fn 0 [2797]), (.a 18), (.a 19), (.a 20)]), (.agg [(.a 21), (.a 22), (.a 23), (.a 24), (.a 25), (.a 26), (.a 27), (.a 28), (.a 29), (.a 30), (.a 31), (.a 32)]), (.one (.a 33))]), [2797], [], [(2537, (0, [2537])), (2797, (0, [2797]))], [(1, [2797])], .none⟩),
      (.call 12 [(.v (.agg [(.fn 0 [2797]), (.a 18), (.a 19), (.a 20)])), (.v (.agg [(.fn 0 [2286]), (.a 18), (.a 19), (.a 20)]))] [] [(0, [2537]), (0, [2283]), (1, [2797]), (1, [2286])] [] [(2286, (0, [2286])), (2797, (0, [2797]))] ⟨(.v (.one (.bool true))), [], [], [(2286, (0, [2286])), (2797, (0, [2797]))], [], .none⟩),
      (.call 9 [(.v (.agg [(.a 2), (.a 3), (.a 4), (.a 5)]))] [] [] [] [] ⟨(.v (.agg [(.fn 0 [3562]), (.a 3), (.a 4), (.a 5)])), [3562], [], [(3562, (0, [3562]))], [(0, [3562])], .none⟩),
      (.call 12 [(.v (.agg [(.fn 0 [2537]), (.a 3), (.a 4), (.a 5)])), (.v (.agg [(.fn 0 [3562]), (.a 3), (.a 4), (.a 5)]))] [] [(0, [3562]), (0, [2537]), (0, [2283]), (1, [2797]), (1, [2286])] [] [(2537, (0, [2537])), (3562, (0, [3562]))] ⟨(.v (.one (.bool true))), [], [], [(2537, (0, [2537])), (3562, (0, [3562]))], [], .none⟩),
      (.call 14 [(.v (.agg [(.fn 0 [2537]), (.a 3), (.a 4), (.a 5)])), (.v (.one (.int .i64 1)))] [] [(0, [3562]), (0, [2537]), (0, [2283])] [] [(2537, (0, [2537]))] ⟨(.v (.one (.a 35))), [4330], [], [(4330, (0, [4330]))], [(2, [2537, 4330])], .none⟩),
      (.call 12 [(.v (.agg [(.fn 0 [2797]), (.a 18), (.a 19), (.a 20)])), (.v (.agg [(.fn 0 [2286]), (.a 18), (.a 19), (.a 20)]))] [] [(0, [3562]), (0, [2537]), (0, [2283]), (1, [2797]), (1, [2286])] [] [(2286, (0, [2286])), (2797, (0, [2797]))] ⟨(.v (.one (.bool true))), [], [], [(2286, (0, [2286])), (2797, (0, [2797]))], [], .none⟩),
      (.call 14 [(.v (.agg [(.fn 0 [2797]), (.a 18), (.a 19), (.a 20)])), (.v (.one (.int .i64 1)))] [] [(1, [2797]), (1, [2286])] [] [(2797, (0, [2797]))] ⟨(.v (.one (.a 36))), [5354], [], [(5354, (0, [5354]))], [(3, [2797, 5354])], .none⟩),
      (.call 9 [(.v (.agg [(.a 2), (.a 3), (.a 4), (.a 5)]))] [] [] [] [] ⟨(.v (.agg [(.fn 0 [7147]), (.a 3), (.a 4), (.a 5)])), [7147], [], [(7147, (0, [7147]))], [(0, [7147])], .none⟩),
      (.call 11 [(.v (.agg [(.a 0), (.a 1)])), (.v (.agg [(.fn 0 [7147]), (.a 3), (.a 4), (.a 5)])), (.v (.agg [(.a 6), (.a 7), (.a 8), (.a 9), (.a 10), (.a 11), (.a 12), (.a 13), (.a 14), (.a 15), (.a 16), (.a 17)]))] [] [(0, [7147]), (0, [3562]), (0, [2537]), (0, [2283])] [] [(7147, (0, [7147]))] ⟨(.tup [(.agg [(.fn 0 [7150]), (.a 18), (.a 19), (.a 20)]), (.agg [(.a 21), (.a 22), (.a 23), (.a 24), (.a 25), (.a 26), (.a 27), (.a 28), (.a 29), (.a 30), (.a 31), (.a 32)]), (.one (.a 33))]), [7150], [], [(7147, (0, [7147])), (7150, (0, [7150]))], [(1, [7150])], .none⟩),
      (.call 12 [(.v (.agg [(.fn 0 [7150]), (.a 18), (.a 19), (.a 20)])), (.v (.agg [(.fn 0 [2286]), (.a 18), (.a 19), (.a 20)]))] [] [(0, [7147]), (0, [3562]), (0, [2537]), (0, [2283]), (1, [7150]), (1, [2797]), (1, [2286])] [] [(2286, (0, [2286])), (7150, (0, [7150]))] ⟨(.v (.one (.bool true))), [], [], [(2286, (0, [2286])), (7150, (0, [7150]))], [], .none⟩),
      (.call 15 [(.v (.agg [(.fn 0 [2797]), (.a 18), (.a 19), (.a 20)])), (.v (.one (.int .i64 1)))] [] [(3, [2797, 5354])] [] [(5354, (0, [5354]))] ⟨(.v (.one (.a 36))), [], [], [(5354, (0, [5354]))], [], .none⟩)])
    (ends := [⟨(.ret (.v (.one (.bool true)))), [], [], [((.bin .lss (.a 34) (.int .i64 0)), true)], []⟩,
      ⟨(.ret (.v (.one (.bool false)))), [], [(2283, (0, [2283])), (2286, (0, [2286])), (2797, (0, [2797])), (3562, (0, [3562])), (4330, (0, [4330]))], [((.bin .lss (.a 35) (.int .i64 0)), true), ((.bin .lss (.a 34) (.int .i64 0)), false)], [(0, [3562]), (0, [2537]), (0, [2283]), (1, [2797]), (1, [2286]), (2, [2537, 4330])]⟩,
      ⟨(.ret (.v (.one (.bool false)))), [], [(2283, (0, [2283])), (2286, (0, [2286])), (3562, (0, [3562])), (4330, (0, [4330])), (5354, (0, [5354]))], [((.bin .lss (.a 36) (.int .i64 0)), true), ((.bin .lss (.a 35) (.int .i64 0)), false), ((.bin .lss (.a 34) (.int .i64 0)), false)], [(0, [3562]), (0, [2537]), (0, [2283]), (1, [2797]), (1, [2286]), (2, [2537, 4330]), (3, [2797, 5354])]⟩,
      ⟨(.ret (.v (.one (.bool true)))), [], [(2283, (0, [2283])), (2286, (0, [2286])), (3562, (0, [3562])), (4330, (0, [4330])), (5354, (0, [5354])), (7147, (0, [7147])), (7150, (0, [7150]))], [((.bin .lss (.a 36) (.int .i64 0)), false), ((.bin .lss (.a 35) (.int .i64 0)), false), ((.bin .lss (.a 34) (.int .i64 0)), false)], [(0, [7147]), (0, [3562]), (0, [2537]), (0, [2283]), (1, [7150]), (1, [2797]), (1, [2286]), (2, [2537, 4330]), (3, [2797, 5354])]⟩])
    (by kernel_rfl) rfl rfl [] rfl ?obs ?ends
  case obs =>
    refine ⟨?_, ?_, ?_, ?_, ?_, ?_, ?_, ?_, ?_, ?_, ?_, ?_, ?_, ?_, ?_, trivial⟩
    · exact Sx.ob_call fun _ w1 _ _ _ _ => szRing_any a n cap h tl l 1048576 (by decide) (by decide) w1 hm
    · refine Sx.ob_newP rfl rfl rfl fun δ w1 l1 _ hf hM => ?_
      have hi1 : IntsW (a, n, xs) w1 := (hi.below hM.grownIn.below).mono hM.grownIn.size
      refine (toRing_got a n cap xs h tl l w1 hi1 hn).mono fun e w2 ⟨b, c, fl, he, hS, hr, hge, hb⟩ => ?_
      have hl : xs.length = n := hi.1
      refine ⟨⟨0, default, .slice b n c, [], fl⟩, by rw [he]; rfl, hr, hS.nodup, hge, ⟨b, c, by rw [hl], by rw [hl]; exact hS⟩, hb⟩
    · refine Sx.ob_newP rfl rfl rfl fun δ w1 l1 _ hf hM => ?_
      obtain ⟨a1, c1, v1, o1⟩ : Sx.PartOf xs (δ 2283) := (Sx.fact_of hf (k := 0) (ds := [2283]) (by simp))
      have hl : xs.length = n := hi.1
      have hr1 : Rows (δ 2283).p w1 := fun p hp => hM.1 p (by simp [Sx.rows, Sx.oRow, Sx.D.env, Sx.at_, Sx.partP, hp])
      have hi1 := o1.intsW hr1
      rw [hl] at v1 hi1
      show Calls Try.prog 7 #[.agg #[.int .i64 s0, .int .i64 t0], .agg #[Sx.asSlice (δ 2283).v, .int .i64 h, .int .i64 tl, .int .i64 l], .agg #[.int .i64 d.at_, .int .i64 d.code, .int .i64 d.val, .int .i64 d.ring, .int .i64 d.tick, .int .i64 d.word, .int .i64 d.tail, .int .i64 d.head, .int .i64 d.index, .int .i64 d.begin_, .int .i64 d.reply, .int .i64 d.out]] w1 _
      rw [show Sx.asSlice (δ 2283).v = .slice a1 n c1 by rw [v1]; rfl]
      refine (SP w1 a1 c1 hi1).mono fun e w2 ⟨b, m, c, fl, he, hS, hr, hge, hb⟩ => ?_
      obtain rfl : X.length = m := hS.len
      exact ⟨⟨0, default, .slice b X.length c, [], fl⟩, by rw [he]; rfl, hr, hS.nodup, hge, ⟨b, c, rfl, hS⟩, hb⟩
    · refine Sx.ob_newP rfl rfl rfl fun δ w1 l1 _ hf hM => ?_
      have hi1 : IntsW (a, n, xs) w1 := (hi.below hM.grownIn.below).mono hM.grownIn.size
      refine (toRing_got a n cap xs h tl l w1 hi1 hn).mono fun e w2 ⟨b, c, fl, he, hS, hr, hge, hb⟩ => ?_
      have hl : xs.length = n := hi.1
      refine ⟨⟨0, default, .slice b n c, [], fl⟩, by rw [he]; rfl, hr, hS.nodup, hge, ⟨b, c, by rw [hl], by rw [hl]; exact hS⟩, hb⟩
    · refine Sx.ob_newP rfl rfl rfl fun δ w1 l1 _ hf hM => ?_
      obtain ⟨a1, c1, v1, o1⟩ : Sx.PartOf xs (δ 2537) := (Sx.fact_of hf (k := 0) (ds := [2537]) (by simp))
      have hl : xs.length = n := hi.1
      have hr1 : Rows (δ 2537).p w1 := fun p hp => hM.1 p (by simp [Sx.rows, Sx.oRow, Sx.D.env, Sx.at_, Sx.partP, hp])
      have hi1 := o1.intsW hr1
      rw [hl] at v1 hi1
      show Calls Try.prog 11 #[.agg #[.int .i64 s0, .int .i64 t0], .agg #[Sx.asSlice (δ 2537).v, .int .i64 h, .int .i64 tl, .int .i64 l], .agg #[.int .i64 d.at_, .int .i64 d.code, .int .i64 d.val, .int .i64 d.ring, .int .i64 d.tick, .int .i64 d.word, .int .i64 d.tail, .int .i64 d.head, .int .i64 d.index, .int .i64 d.begin_, .int .i64 d.reply, .int .i64 d.out]] w1 _
      rw [show Sx.asSlice (δ 2537).v = .slice a1 n c1 by rw [v1]; rfl]
      refine (IM w1 a1 c1 hi1).mono fun e w2 ⟨b, m, c, fl, he, hS, hr, hge, hb⟩ => ?_
      obtain rfl : X.length = m := hS.len
      exact ⟨⟨0, default, .slice b X.length c, [], fl⟩, by rw [he]; rfl, hr, hS.nodup, hge, ⟨b, c, rfl, hS⟩, hb⟩
    · refine Sx.ob_call fun δ w1 l1 _ hf hM => ?_
      obtain ⟨a1, c1, v1, o1⟩ : Sx.PartOf X (δ 2797) := (Sx.fact_of hf (k := 1) (ds := [2797]) (by simp))
      obtain ⟨a2, c2, v2, o2⟩ : Sx.PartOf X (δ 2286) := (Sx.fact_of hf (k := 1) (ds := [2286]) (by simp))
      have hr1 : Rows (δ 2797).p w1 := fun p hp => hM.1 p (by simp [Sx.rows, Sx.oRow, Sx.D.env, Sx.at_, Sx.partP, hp])
      have hr2 : Rows (δ 2286).p w1 := fun p hp => hM.1 p (by simp [Sx.rows, Sx.oRow, Sx.D.env, Sx.at_, Sx.partP, hp])
      show Calls Try.prog 12 #[.agg #[Sx.asSlice (δ 2797).v, .int .i64 H', .int .i64 T', .int .i64 L'], .agg #[Sx.asSlice (δ 2286).v, .int .i64 H', .int .i64 T', .int .i64 L']] w1 _
      rw [show Sx.asSlice (δ 2797).v = .slice a1 X.length c1 by rw [v1]; rfl, show Sx.asSlice (δ 2286).v = .slice a2 X.length c2 by rw [v2]; rfl]
      exact eqRing_part _ _ a1 a2 _ _ c1 c2 X _ _ _ w1 o1 hr1 o2 hr2 (hX)
    · refine Sx.ob_newP rfl rfl rfl fun δ w1 l1 _ hf hM => ?_
      have hi1 : IntsW (a, n, xs) w1 := (hi.below hM.grownIn.below).mono hM.grownIn.size
      refine (toRing_got a n cap xs h tl l w1 hi1 hn).mono fun e w2 ⟨b, c, fl, he, hS, hr, hge, hb⟩ => ?_
      have hl : xs.length = n := hi.1
      refine ⟨⟨0, default, .slice b n c, [], fl⟩, by rw [he]; rfl, hr, hS.nodup, hge, ⟨b, c, by rw [hl], by rw [hl]; exact hS⟩, hb⟩
    · refine Sx.ob_call fun δ w1 l1 _ hf hM => ?_
      obtain ⟨a1, c1, v1, o1⟩ : Sx.PartOf xs (δ 2537) := (Sx.fact_of hf (k := 0) (ds := [2537]) (by simp))
      obtain ⟨a2, c2, v2, o2⟩ : Sx.PartOf xs (δ 3562) := (Sx.fact_of hf (k := 0) (ds := [3562]) (by simp))
      have hr1 : Rows (δ 2537).p w1 := fun p hp => hM.1 p (by simp [Sx.rows, Sx.oRow, Sx.D.env, Sx.at_, Sx.partP, hp])
      have hr2 : Rows (δ 3562).p w1 := fun p hp => hM.1 p (by simp [Sx.rows, Sx.oRow, Sx.D.env, Sx.at_, Sx.partP, hp])
      show Calls Try.prog 12 #[.agg #[Sx.asSlice (δ 2537).v, .int .i64 h, .int .i64 tl, .int .i64 l], .agg #[Sx.asSlice (δ 3562).v, .int .i64 h, .int .i64 tl, .int .i64 l]] w1 _
      rw [show Sx.asSlice (δ 2537).v = .slice a1 xs.length c1 by rw [v1]; rfl, show Sx.asSlice (δ 3562).v = .slice a2 xs.length c2 by rw [v2]; rfl]
      exact eqRing_part _ _ a1 a2 _ _ c1 c2 xs _ _ _ w1 o1 hr1 o2 hr2 (by have : xs.length = n := hi.1; omega)
    · refine Sx.ob_turnP rfl rfl (by decide) fun δ w1 l1 _ hf hM => ?_
      obtain ⟨a1, c1, v1, o1⟩ : Sx.PartOf xs (δ 2537) := (Sx.fact_of hf (k := 0) (ds := [2537]) (by simp))
      have hl : xs.length = n := hi.1
      have hle : xs.length ≤ 1048576 := by omega
      have hr1 : Rows (δ 2537).p w1 := fun p hp => hM.1 p (List.mem_append_left _ hp)
      show Calls Try.prog 14 #[.agg #[Sx.asSlice (δ 2537).v, .int .i64 h, .int .i64 tl, .int .i64 l], .int .i64 1] w1 _
      rw [show Sx.asSlice (δ 2537).v = .slice a1 xs.length c1 by rw [v1]; rfl]
      refine (markRing_one (δ 2537).p a1 xs.length c1 xs _ _ _ w1 o1 hr1 hle).mono fun e w2 ⟨fl, he, hS, hr, hfst, hg⟩ => ?_
      refine ⟨⟨0, default, .slice none 0 0, [], fl⟩, ?_, hfst, hr, hg, ⟨a1, c1, v1, hS⟩⟩
      rw [he, hl]
      rfl
    · refine Sx.ob_call fun δ w1 l1 _ hf hM => ?_
      obtain ⟨a1, c1, v1, o1⟩ : Sx.PartOf X (δ 2797) := (Sx.fact_of hf (k := 1) (ds := [2797]) (by simp))
      obtain ⟨a2, c2, v2, o2⟩ : Sx.PartOf X (δ 2286) := (Sx.fact_of hf (k := 1) (ds := [2286]) (by simp))
      have hr1 : Rows (δ 2797).p w1 := fun p hp => hM.1 p (by simp [Sx.rows, Sx.oRow, Sx.D.env, Sx.at_, Sx.partP, hp])
      have hr2 : Rows (δ 2286).p w1 := fun p hp => hM.1 p (by simp [Sx.rows, Sx.oRow, Sx.D.env, Sx.at_, Sx.partP, hp])
      show Calls Try.prog 12 #[.agg #[Sx.asSlice (δ 2797).v, .int .i64 H', .int .i64 T', .int .i64 L'], .agg #[Sx.asSlice (δ 2286).v, .int .i64 H', .int .i64 T', .int .i64 L']] w1 _
      rw [show Sx.asSlice (δ 2797).v = .slice a1 X.length c1 by rw [v1]; rfl, show Sx.asSlice (δ 2286).v = .slice a2 X.length c2 by rw [v2]; rfl]
      exact eqRing_part _ _ a1 a2 _ _ c1 c2 X _ _ _ w1 o1 hr1 o2 hr2 (hX)
    · refine Sx.ob_turnP rfl rfl (by decide) fun δ w1 l1 _ hf hM => ?_
      obtain ⟨a1, c1, v1, o1⟩ : Sx.PartOf X (δ 2797) := (Sx.fact_of hf (k := 1) (ds := [2797]) (by simp))
      have hle := hX
      have hr1 : Rows (δ 2797).p w1 := fun p hp => hM.1 p (List.mem_append_left _ hp)
      show Calls Try.prog 14 #[.agg #[Sx.asSlice (δ 2797).v, .int .i64 H', .int .i64 T', .int .i64 L'], .int .i64 1] w1 _
      rw [show Sx.asSlice (δ 2797).v = .slice a1 X.length c1 by rw [v1]; rfl]
      refine (markRing_one (δ 2797).p a1 X.length c1 X _ _ _ w1 o1 hr1 hle).mono fun e w2 ⟨fl, he, hS, hr, hfst, hg⟩ => ?_
      refine ⟨⟨0, default, .slice none 0 0, [], fl⟩, ?_, hfst, hr, hg, ⟨a1, c1, v1, hS⟩⟩
      rw [he]
      rfl
    · refine Sx.ob_newP rfl rfl rfl fun δ w1 l1 _ hf hM => ?_
      have hi1 : IntsW (a, n, xs) w1 := (hi.below hM.grownIn.below).mono hM.grownIn.size
      refine (toRing_got a n cap xs h tl l w1 hi1 hn).mono fun e w2 ⟨b, c, fl, he, hS, hr, hge, hb⟩ => ?_
      have hl : xs.length = n := hi.1
      refine ⟨⟨0, default, .slice b n c, [], fl⟩, by rw [he]; rfl, hr, hS.nodup, hge, ⟨b, c, by rw [hl], by rw [hl]; exact hS⟩, hb⟩
    · refine Sx.ob_newP rfl rfl rfl fun δ w1 l1 _ hf hM => ?_
      obtain ⟨a1, c1, v1, o1⟩ : Sx.PartOf xs (δ 7147) := (Sx.fact_of hf (k := 0) (ds := [7147]) (by simp))
      have hl : xs.length = n := hi.1
      have hr1 : Rows (δ 7147).p w1 := fun p hp => hM.1 p (by simp [Sx.rows, Sx.oRow, Sx.D.env, Sx.at_, Sx.partP, hp])
      have hi1 := o1.intsW hr1
      rw [hl] at v1 hi1
      show Calls Try.prog 11 #[.agg #[.int .i64 s0, .int .i64 t0], .agg #[Sx.asSlice (δ 7147).v, .int .i64 h, .int .i64 tl, .int .i64 l], .agg #[.int .i64 d.at_, .int .i64 d.code, .int .i64 d.val, .int .i64 d.ring, .int .i64 d.tick, .int .i64 d.word, .int .i64 d.tail, .int .i64 d.head, .int .i64 d.index, .int .i64 d.begin_, .int .i64 d.reply, .int .i64 d.out]] w1 _
      rw [show Sx.asSlice (δ 7147).v = .slice a1 n c1 by rw [v1]; rfl]
      refine (IM w1 a1 c1 hi1).mono fun e w2 ⟨b, m, c, fl, he, hS, hr, hge, hb⟩ => ?_
      obtain rfl : X.length = m := hS.len
      exact ⟨⟨0, default, .slice b X.length c, [], fl⟩, by rw [he]; rfl, hr, hS.nodup, hge, ⟨b, c, rfl, hS⟩, hb⟩
    · refine Sx.ob_call fun δ w1 l1 _ hf hM => ?_
      obtain ⟨a1, c1, v1, o1⟩ : Sx.PartOf X (δ 7150) := (Sx.fact_of hf (k := 1) (ds := [7150]) (by simp))
      obtain ⟨a2, c2, v2, o2⟩ : Sx.PartOf X (δ 2286) := (Sx.fact_of hf (k := 1) (ds := [2286]) (by simp))
      have hr1 : Rows (δ 7150).p w1 := fun p hp => hM.1 p (by simp [Sx.rows, Sx.oRow, Sx.D.env, Sx.at_, Sx.partP, hp])
      have hr2 : Rows (δ 2286).p w1 := fun p hp => hM.1 p (by simp [Sx.rows, Sx.oRow, Sx.D.env, Sx.at_, Sx.partP, hp])
      show Calls Try.prog 12 #[.agg #[Sx.asSlice (δ 7150).v, .int .i64 H', .int .i64 T', .int .i64 L'], .agg #[Sx.asSlice (δ 2286).v, .int .i64 H', .int .i64 T', .int .i64 L']] w1 _
      rw [show Sx.asSlice (δ 7150).v = .slice a1 X.length c1 by rw [v1]; rfl, show Sx.asSlice (δ 2286).v = .slice a2 X.length c2 by rw [v2]; rfl]
      exact eqRing_part _ _ a1 a2 _ _ c1 c2 X _ _ _ w1 o1 hr1 o2 hr2 (hX)
    · refine Sx.ob_call fun δ w1 l1 _ hf hM => ?_
      obtain ⟨a1, c1, v1, o1⟩ : Marked X (δ 2797) (δ 5354) := (Sx.fact_of hf (k := 3) (ds := [2797, 5354]) (by simp))
      have hr1 : Rows (δ 5354).p w1 := fun p hp => hM.1 p (by simp [Sx.rows, Sx.oRow, Sx.D.env, Sx.at_, Sx.partP, hp])
      show Calls Try.prog 15 #[.agg #[Sx.asSlice (δ 2797).v, .int .i64 H', .int .i64 T', .int .i64 L'], .int .i64 1] w1 _
      rw [show Sx.asSlice (δ 2797).v = .slice a1 X.length c1 by rw [v1]; rfl]
      exact heldRing_one (δ 5354).p a1 X.length c1 _ _ _ w1 o1 hr1 hX
  case ends =>
    refine ⟨?_, ?_, ?_, ?_, trivial⟩
    · intro δ w1 hM hp hf
      exact ⟨rfl, hM.below rfl⟩
    · intro δ w1 hM hp hf
      obtain ⟨p0, p1, -⟩ := hp
      have q0 : (1 + (n : Int)) < 0 := Sx.ltT p0
      have q1 : ¬ (leftV 1048576 n) < 0 := Sx.ltF p1
      clear p0 p1
      omega
    · intro δ w1 hM hp hf
      obtain ⟨p0, p1, p2, -⟩ := hp
      have q0 : (1 + (X.length : Int)) < 0 := Sx.ltT p0
      have q1 : ¬ (1 + (n : Int)) < 0 := Sx.ltF p1
      have q2 : ¬ (leftV 1048576 n) < 0 := Sx.ltF p2
      clear p0 p1 p2
      omega
    · intro δ w1 hM hp hf
      exact ⟨rfl, hM.below rfl⟩

/-- What is too large is not tried. -/
def hintBigPutStep : Sx.Hints := fun _ _ c _ =>
  match c with
  | some (f, _) => if f = 6 then some (.eff {} { ret := .v (.one (.int .i64 (-1))) }) else none
  | none => none

set_option maxRecDepth 100000 in
theorem exactPutStep_big (s0 t0 : Int) (a : Option Addr) (n cap : Nat) (_ : List Int) (h tl l : Int) (d : Hd) (w : World) (hn : n ≤ maxLen) (hbig : ¬ n ≤ 1048576) :
    Calls Try.prog 3 #[.agg #[.int .i64 s0, .int .i64 t0], .agg #[.slice a n cap, .int .i64 h, .int .i64 tl, .int .i64 l], .agg #[.int .i64 d.at_, .int .i64 d.code, .int .i64 d.val, .int .i64 d.ring, .int .i64 d.tick, .int .i64 d.word, .int .i64 d.tail, .int .i64 d.head, .int .i64 d.index, .int .i64 d.begin_, .int .i64 d.reply, .int .i64 d.out]] w fun e w' => e = .returned (.bool true) ∧ Below w.heap.size w w' :=
  Sx.walk (ls := [.i .i64, .i .i64, .o] ++ List.replicate 15 (.i .i64)) (fs := []) (wr := fun _ => []) (hint := hintBigPutStep) (loops := Sx.noLoops) (keep := []) (cat := [])
    { ls := [.i s0, .i t0, .sl a n cap, .i h, .i tl, .i l, .i d.at_, .i d.code, .i d.val, .i d.ring, .i d.tick, .i d.word, .i d.tail, .i d.head, .i d.index, .i d.begin_, .i d.reply, .i d.out] } 9 3 [.v (.agg [.a 0, .a 1]), .v (.agg [.a 2, .a 3, .a 4, .a 5]), .v (.agg [.a 6, .a 7, .a 8, .a 9, .a 10, .a 11, .a 12, .a 13, .a 14, .a 15, .a 16, .a 17])]
    (obs := [(.call 6 [(.v (.agg [(.a 2), (.a 3), (.a 4), (.a 5)])), (.v (.one (.int .i64 1048576)))] [] [] [] [] ⟨(.v (.one (.int .i64 (-1)))), [], [], [], [], .none⟩)]) (ends := [⟨.ret (.v (.one (.bool true))), [], [], [], []⟩]) (by kernel_rfl) rfl rfl [] rfl
    ⟨Sx.ob_call fun _ w1 _ _ _ _ => (by
      have h1 := szRing_any a n cap h tl l 1048576 (by decide) (by decide) w1 hn
      rw [show leftV 1048576 n = -1 by unfold leftV; rw [if_pos (by omega)]] at h1
      exact h1), trivial⟩ ⟨fun _ _ hM _ _ => ⟨rfl, hM.below rfl⟩, trivial⟩

end Go.Proofs.Ytdpahikbikiilaa
