/- Contracts of the laws' own helpers: copies of slices of numbers, and what compares them. -/
import Derived.Test.YtdpahikbikiilaaInts
import Derived.Deep.OwnRows
import Derived.Deep.QuietTactic
import Derived.BigQuiet
namespace Go.Proofs.Ytdpahikbikiilaa
open Go.RowKit

theorem made_zero (n : Nat) : madeCells #[Value.int .i64 0] n = (List.replicate n (Value.int .i64 0)).toArray := by
  apply Array.ext
  · simp [size_madeCells]
  · intro i h1 h2
    simp [madeCells, Nat.mod_one]

/-- The first k numbers, and noughts behind them. -/
def part (xs : List Int) (n k : Nat) : Array Value := (vals (xs.take k) ++ List.replicate (n - k) (Value.int .i64 0)).toArray

theorem part_start (xs : List Int) (n : Nat) : part xs n 0 = (List.replicate n (Value.int .i64 0)).toArray := by simp [part, vals]

theorem part_end (xs : List Int) (n : Nat) (h : xs.length = n) : part xs n n = (vals xs).toArray := by
  subst h
  simp [part, vals]

theorem part_step (xs : List Int) (n k : Nat) (x : Int) (h : xs.length = n) (hk : k < n) (hx : xs[k]? = some x) : (part xs n k).setIfInBounds k (.int .i64 x) = part xs n (k + 1) := by
  have hkl : k < xs.length := by omega
  have e : xs[k] = x := by rw [List.getElem?_eq_getElem hkl] at hx; exact Option.some.inj hx
  apply Array.ext
  · simp [part, vals]; omega
  · intro i h1 h2
    simp only [part, List.setIfInBounds_toArray, List.getElem_toArray]
    have hl : (vals (xs.take k)).length = k := by simp [vals]; omega
    have hl2 : (vals (xs.take (k + 1))).length = k + 1 := by simp [vals]; omega
    rw [List.getElem_set]
    by_cases hik : k = i
    · subst hik
      rw [if_pos rfl, List.getElem_append_left (by omega)]
      simp [vals, e]
    · rw [if_neg hik]
      rcases Nat.lt_or_ge i k with h' | h'
      · rw [List.getElem_append_left (by omega), List.getElem_append_left (by omega)]
        simp [vals]
      · rw [List.getElem_append_right (by omega), List.getElem_append_right (by omega)]
        simp

set_option maxHeartbeats 1000000 in
theorem toInt64S_any (B : Nat) (a : Option Addr) (n cap : Nat) (xs : List Int) (w : World) (h : Ints B a n xs w) (hB : B ≤ w.heap.size) (hn : n ≤ 1048576) :
    Calls Try.prog 28 #[.slice a n cap] w fun e w' => e = .returned (.slice (some ⟨w.heap.size, 0, none⟩) n n) ∧ w'.heap[w.heap.size]? = some (.cells (vals xs).toArray 2 (0, 0)) ∧ Below w.heap.size w w' := by
  have H := Lib.hid h
  clear h
  have hmk : ∀ u : World, (Instr.makeSlice 24 (.int .i64 (n : Int)) (.int .i64 (n : Int))).run Try.prog u = .ok (.slice (some ⟨u.heap.size, 0, none⟩) n n) (u.alloc (.cells (madeCells #[Value.int .i64 0] n) 2)) :=
    run_make_row' (P := Try.prog) 24 2 (.int .i64 0) 8 Try.underlying24 (by kernel_rfl) rfl .i64 .i64 n (by omega) (by omega)
  go_enter Try.func28, Try.ntmps28
  go_wp2
  clear hmk
  go_loopw [4] (fun i wr => ∃ k : Nat, k ≤ n ∧ i = .int .i64 k ∧ wr.heap[w.heap.size]? = some (.cells (part xs n k) 2 (0, 0)) ∧ Below w.heap.size w wr) (fun i _ => n - (intOf i).toNat)
  case atStart => exact ⟨0, Nat.zero_le _, rfl, by rw [part_start, ← made_zero]; exact blk_new w _, (Below.refl _ _).alloc (Nat.le_refl _) _⟩
  case round =>
    obtain ⟨k, hk, rfl, hb, hbl⟩ := hrel
    have HS := Lib.hid hb
    have HL := Lib.hid hbl
    have y := blk_lt hb
    clear hb hbl
    by_cases hlt : k < n
    · obtain ⟨b, off, rfl, hbB, x, hx, hc⟩ := H.out.at_ hlt
      rw [← HL.out.cell (p := ⟨b, off + k, none⟩) (by simp; omega)] at hc
      have HX := Lib.hid hx
      clear hx
      have f0 : wr.frozen? ⟨w.heap.size, k, none⟩ = false := blk_free HS.out
      obtain ⟨u, hu⟩ : ∃ u, wr.cell? ⟨w.heap.size, k, none⟩ = some u := by
        rw [blk_cell HS.out]
        exact ⟨_, Array.getElem?_eq_getElem (by have := H.out.1; simp [part, vals]; omega)⟩
      go_wp2
      go_roundw
      case rel => exact ⟨k + 1, by omega, by go_num, by rw [← part_step xs n k x H.out.1 hlt HX.out]; exact blk_set HS.out, HL.out.setCell (by simp) _⟩
      case measure => simp [intOf]; omega
    · go_wp2
      go_ret
      have e : k = n := by omega
      subst e
      exact ⟨rfl, by rw [← part_end xs k H.out.1]; exact HS.out, HL.out⟩

/-- A ring by value. -/
def ringV (a : Option Addr) (n cap : Nat) (h t l : Int) : Value := .agg #[.slice a n cap, .int .i64 h, .int .i64 t, .int .i64 l]

set_option maxHeartbeats 1000000 in
theorem toRing_any (B : Nat) (a : Option Addr) (n cap : Nat) (xs : List Int) (h t l : Int) (w : World) (hi : Ints B a n xs w) (hB : B ≤ w.heap.size) (hn : n ≤ 1048576) :
    Calls Try.prog 9 #[.agg #[.slice a n cap, .int .i64 h, .int .i64 t, .int .i64 l]] w fun e w' => ∃ g, e = .returned (.agg #[.slice (some ⟨g, 0, none⟩) n n, .int .i64 h, .int .i64 t, .int .i64 l]) ∧ w.heap.size ≤ g ∧ w'.heap[g]? = some (.cells (vals xs).toArray 2 (0, 0)) ∧ Below w.heap.size w w' := by
  have H := Lib.hid hi
  clear hi
  have HQ := Lib.hid ((((Held.start w).new (.cells #[.slice a n cap, .int .i64 h, .int .i64 t, .int .i64 l] 26)).new (.cells #[.slice none 0 0, .int .i64 0, .int .i64 0, .int .i64 0] 32)).new (.cells #[.slice none 0 0, .int .i64 0, .int .i64 0, .int .i64 0] 32))
  simp only [World.size_alloc] at HQ
  go_enter Try.func9, Try.ntmps9
  go_wp2_with fail
  refine (toInt64S_any B a n cap xs _ (H.out.below (HQ.out.below.mono hB)) (by simp; omega) hn).mono ?_
  rintro e w1 ⟨rfl, hg, hb1⟩
  have HQ1 := Lib.hid (HQ.out.step hb1)
  have HG := Lib.hid hg
  have yg := blk_lt hg
  clear hb1 hg HQ
  obtain ⟨l0, l1, l2, l3, f0, f1, f2, f3⟩ := blk_four HQ1.out.hd
  obtain ⟨r0, r1, r2, r3, g0, g1, g2, g3⟩ := blk_four HQ1.out.tl.hd
  obtain ⟨a0, a1, a2, a3, -, -, -, -⟩ := blk_four HQ1.out.tl.tl.hd
  simp only [World.size_alloc] at *
  go_wp2
  refine bodyPost_ret ?ret rfl ⟨w.heap.size + 1 + 1 + 1, rfl, by omega, ?hg, ?bel⟩
  case ret => simp [results, Try.results9, go_sem, r0, r1, r2, r3]
  case hg =>
    iterate 8 refine blk_other ?_ (by simp <;> omega)
    exact HG.out
  case bel => exact (((((((HQ1.out.below.setCell (by simp; omega) _).setCell (by simp; omega) _).setCell (by simp; omega) _).setCell (by simp; omega) _).setCell (by simp) _).setCell (by simp) _).setCell (by simp) _).setCell (by simp) _

/-- What is left of a count. -/
def leftV (k : Int) (n : Nat) : Int := if k - n < 0 then -1 else k - n

set_option maxHeartbeats 1000000 in
theorem szInt64S_any (a : Option Addr) (n cap : Nat) (k : Int) (k0 : 0 ≤ k) (k1 : k ≤ 1048576) (w : World) (hn : n ≤ maxLen) :
    Calls Try.prog 20 #[.slice a n cap, .int .i64 k] w fun e w' => e = .returned (.int .i64 (leftV k n)) ∧ w = w' := by
  unfold maxLen at hn
  by_cases h : k - n < 0
  · rw [show leftV k n = -1 from if_pos h]
    go_enter Try.func20, Try.ntmps20
    go_wp2
    go_ret
    exact ⟨rfl, rfl⟩
  · rw [show leftV k n = k - n from if_neg h]
    go_enter Try.func20, Try.ntmps20
    go_wp2
    go_ret
    exact ⟨rfl, rfl⟩

set_option maxHeartbeats 1000000 in
theorem szRing_any (a : Option Addr) (n cap : Nat) (h t l : Int) (k : Int) (k0 : 0 ≤ k) (k1 : k ≤ 1048576) (w : World) (hn : n ≤ maxLen) :
    Calls Try.prog 6 #[.agg #[.slice a n cap, .int .i64 h, .int .i64 t, .int .i64 l], .int .i64 k] w fun e w' => e = .returned (.int .i64 (leftV k n)) ∧ Below w.heap.size w w' := by
  have hl : leftV k n < 0 → leftV k n = -1 := by unfold leftV; by_cases hh : k - n < 0 <;> simp [hh]
  have HN := Lib.hid hn
  by_cases hneg : leftV k n < 0
  · have HL := Lib.hid (hl hneg)
    clear hl hn
    go_enter Try.func6, Try.ntmps6
    go_wp2_with (go_at_call 20; (with_reducible refine (szInt64S_any _ _ _ _ k0 k1 _ HN.out).mono ?_); rintro e w' ⟨rfl, rfl⟩)
    go_ret
    exact ⟨by rw [HL.out]; rfl, (Below.refl _ _).alloc (Nat.le_refl _) _⟩
  · clear hl hn
    go_enter Try.func6, Try.ntmps6
    go_wp2_with (go_at_call 20; (with_reducible refine (szInt64S_any _ _ _ _ k0 k1 _ HN.out).mono ?_); rintro e w' ⟨rfl, rfl⟩)
    go_ret
    exact ⟨rfl, (Below.refl _ _).alloc (Nat.le_refl _) _⟩

/-- Two slices that read as the same list are alike. -/
theorem eqInt64S_same (B : Nat) (a a' : Option Addr) (n cap cap' : Nat) (xs : List Int) (w : World) (h : Ints B a n xs w) (h' : Ints B a' n xs w) (hn : n ≤ 1048576) :
    Calls Try.prog 34 #[.slice a n cap, .slice a' n cap'] w fun e w' => ∃ k, e = .returned (.bool true) ∧ w' = w.drewN k := by
  have H := Lib.hid h
  have H' := Lib.hid h'
  clear h h'
  go_enter Try.func34, Try.ntmps34
  go_wp2
  go_loopw [5] (fun i wr => ∃ k d : Nat, k ≤ n ∧ i = .int .i64 k ∧ wr = w.drewN d) (fun i _ => n - (intOf i).toNat)
  case atStart => exact ⟨0, 0, Nat.zero_le _, rfl, rfl⟩
  case round =>
    obtain ⟨k, d, hk, rfl, rfl⟩ := hrel
    by_cases hlt : k < n
    · obtain ⟨b, off, rfl, hbB, x, hx, hc⟩ := H.out.at_ hlt
      obtain ⟨b', off', rfl, hbB', x', hx', hc'⟩ := H'.out.at_ hlt
      obtain rfl : x = x' := by rw [hx] at hx'; exact Option.some.inj hx'
      clear hx hx'
      go_wp2
      go_quiet (fail)
      go_wp2
      go_roundw
      case rel => exact ⟨k + 1, d + nq, by omega, by go_num, rfl⟩
      case measure => simp [intOf]; omega
    · go_wp2
      go_ret
      exact ⟨d, rfl, rfl⟩

theorem drewN_of (w : World) (k : Nat) : Below w.heap.size w (w.drewN k) := ⟨rfl, rfl, rfl, Nat.le_refl _, fun _ _ => rfl⟩

set_option maxHeartbeats 1000000 in
theorem eqRing_same (B : Nat) (a a' : Option Addr) (n cap cap' : Nat) (xs : List Int) (h t l : Int) (w : World) (hi : Ints B a n xs w) (hi' : Ints B a' n xs w) (hB : B ≤ w.heap.size) (hn : n ≤ 1048576) :
    Calls Try.prog 12 #[.agg #[.slice a n cap, .int .i64 h, .int .i64 t, .int .i64 l], .agg #[.slice a' n cap', .int .i64 h, .int .i64 t, .int .i64 l]] w fun e w' => e = .returned (.bool true) ∧ Below w.heap.size w w' := by
  have H := Lib.hid hi
  have H' := Lib.hid hi'
  clear hi hi'
  have HQ := Lib.hid (((Held.start w).new (.cells #[.slice a n cap, .int .i64 h, .int .i64 t, .int .i64 l] 32)).new (.cells #[.slice a' n cap', .int .i64 h, .int .i64 t, .int .i64 l] 32))
  simp only [World.size_alloc] at HQ
  go_enter Try.func12, Try.ntmps12
  go_wp2_with fail
  refine (eqInt64S_same B a a' n cap cap' xs _ (H.out.below (HQ.out.below.mono hB)) (H'.out.below (HQ.out.below.mono hB)) hn).mono ?_
  rintro e w1 ⟨k, rfl, rfl⟩
  go_wp2
  go_ret
  exact ⟨rfl, HQ.out.below.trans (drewN_of _ _ |>.mono (by simp; omega))⟩

/-- What stands in a list when j marks from k on have been laid. -/
def markd (xs : List Int) (k j : Nat) : List Int := (List.range j).map (fun i => ((k + i : Nat) : Int)) ++ xs.drop j

theorem markd_start (xs : List Int) (k : Nat) : markd xs k 0 = xs := by simp [markd]

theorem markd_step (xs : List Int) (k j : Nat) (hj : j < xs.length) : (vals (markd xs k j)).set j (.int .i64 ((k + j : Nat) : Int)) = vals (markd xs k (j + 1)) := by
  apply List.ext_getElem
  · simp [vals, markd]; omega
  · intro i h1 h2
    rw [List.getElem_set]
    by_cases hij : j = i
    · subst hij
      rw [if_pos rfl]
      simp [vals, markd]
    · rw [if_neg hij]
      simp only [vals, List.getElem_map, markd]
      rcases Nat.lt_or_ge i j with h' | h'
      · rw [List.getElem_append_left (by simp; omega), List.getElem_append_left (by simp; omega)]
        simp
      · rw [List.getElem_append_right (by simp; omega), List.getElem_append_right (by simp; omega)]
        simp only [List.getElem_drop, List.length_map, List.length_range]
        congr 2
        omega

/-- The marks themselves. -/
def marks (k n : Nat) : List Int := (List.range n).map (fun i => ((k + i : Nat) : Int))

theorem markd_end (xs : List Int) (k n : Nat) (h : xs.length = n) : markd xs k n = marks k n := by subst h; simp [markd, marks]

set_option maxHeartbeats 1000000 in
theorem markInt64S_any (base : Nat) (a : Option Addr) (n cap k : Nat) (xs : List Int) (w : World) (h : w.ownsRow base 2 1 (.slice a n cap) n (vals xs)) (hk : k ≤ 1048576) (hn : n ≤ 1048576) :
    Calls Try.prog 36 #[.slice a n cap, .int .i64 (k : Int)] w fun e w' => e = .returned (.int .i64 ((k + n : Nat) : Int)) ∧ w'.ownsRow base 2 1 (.slice a n cap) n (vals (marks k n)) ∧ w.grownBy w' (Value.slice a n cap).ownBlock := by
  have hl := own_len h
  have H := Lib.hid h
  have HL := Lib.hid hl
  clear h hl
  go_enter Try.func36, Try.ntmps36
  go_wp2
  go_loopw [1, 5] (fun m i wr => ∃ j : Nat, j ≤ n ∧ i = .int .i64 j ∧ m = .int .i64 ((k + j : Nat) : Int) ∧ wr.ownsRow base 2 1 (.slice a n cap) n (vals (markd xs k j)) ∧ w.grownBy wr (Value.slice a n cap).ownBlock) (fun _ i _ => n - (intOf i).toNat)
  case atStart => exact ⟨0, Nat.zero_le _, rfl, rfl, by rw [markd_start]; exact H.out, World.grownBy.refl _ _⟩
  case round =>
    obtain ⟨j, hj, rfl, rfl, ho, hg⟩ := hrel
    have HO := Lib.hid ho
    have HG := Lib.hid hg
    clear ho hg
    by_cases hlt : j < n
    · obtain ⟨g, rfl⟩ := own_some HO.out (by omega)
      have f0 : wr.frozen? ⟨g, j, none⟩ = false := HO.out.frozenAt j
      obtain ⟨u, hu⟩ : ∃ u, wr.cell? ⟨g, j, none⟩ = some u := by
        rw [HO.out.cellAt j (by omega)]
        exact ⟨_, List.getElem?_eq_getElem (by have := HO.out.1; omega)⟩
      go_wp2
      go_roundw
      case rel =>
        have hs := HO.out.stored j (.int .i64 ((k + j : Nat) : Int))
        rw [markd_step xs k j (by rw [HL.out]; exact hlt)] at hs
        exact ⟨j + 1, by omega, by go_num, by go_num, by simpa using hs.1, by simpa [Value.ownBlock] using grown_trans HG.out hs.2⟩
      case measure => simp [intOf]; omega
    · go_wp2
      go_ret
      have e : j = n := by omega
      subst e
      exact ⟨rfl, by rw [← markd_end xs k j HL.out]; exact HO.out, HG.out⟩

set_option maxHeartbeats 1000000 in
theorem heldInt64S_any (B : Nat) (a : Option Addr) (n cap k : Nat) (w : World) (h : Ints B a n (marks k n) w) (hk : k ≤ 1048576) (hn : n ≤ 1048576) :
    Calls Try.prog 37 #[.slice a n cap, .int .i64 (k : Int)] w fun e w' => e = .returned (.int .i64 ((k + n : Nat) : Int)) ∧ w = w' := by
  have H := Lib.hid h
  clear h
  go_enter Try.func37, Try.ntmps37
  go_wp2
  go_loop [1, 5] (fun m i => ∃ j : Nat, j ≤ n ∧ i = .int .i64 j ∧ m = .int .i64 ((k + j : Nat) : Int)) (fun _ i => n - (intOf i).toNat)
  case atStart => exact ⟨0, Nat.zero_le _, rfl, rfl⟩
  case round =>
    obtain ⟨j, hj, rfl, rfl⟩ := hrel
    by_cases hlt : j < n
    · obtain ⟨b, off, rfl, hbB, x, hx, hc⟩ := H.out.at_ hlt
      obtain rfl : x = ((k + j : Nat) : Int) := by
        simp [marks, hlt] at hx; omega
      clear hx
      go_wp2
      go_round
      case rel => exact ⟨j + 1, by omega, by go_num, by go_num⟩
      case measure => simp [intOf]; omega
    · go_wp2
      go_ret
      have e : j = n := by omega
      subst e
      exact ⟨rfl, rfl⟩

end Go.Proofs.Ytdpahikbikiilaa
