/- The model of the rings: is one right (the loop over its words). -/
import Derived.Test.YtdpahikbikiilaaS6
import Derived.Deep.RegionHeld3
namespace Go.Proofs.Ytdpahikbikiilaa
open Go.RowKit

set_option maxRecDepth 100000 in
set_option maxHeartbeats 4000000 in
theorem ringOk_loop (B : Nat) (s t : Int) (a : Option Addr) (n cap : Nat) (xs : List Int) (h tl l : Int) (w : World) (hi : Ints B a n xs w) (hB : B ≤ w.heap.size) (hx64 : ∀ x ∈ xs, W64 x) (hp : okP s t) (hn : n ≤ 1048576) (hne : (n : Int) = 2 * s) (hh : okK h) (ht : okK tl) (hl0 : -1000000 ≤ l) (hl1 : l ≤ 3 * s - 1) : Calls Try.prog 21 #[.agg #[.int .i64 s, .int .i64 t], .agg #[.slice a n cap, .int .i64 h, .int .i64 tl, .int .i64 l]] w fun e w' => e = .returned (.bool (decide (∀ x ∈ xs, okW s t x))) ∧ Below w.heap.size w w' := by
  have HP := Lib.hid hp
  obtain ⟨g1, g2⟩ := okP_le hp
  have hw : IntKind.i64.wrap (2 * s) = 2 * s := IntWalk.i64_in _ (by omega)
  have hd : ((n : Int) != 2 * s) = false := by simpa using hne
  have Hh := Lib.hid hh
  have Htl := Lib.hid ht
  have HI := Lib.hid hi
  have HX := Lib.hid hx64
  clear hp hne hh ht hi hx64
  have HQ := Lib.hid (((Held.start w).new (.cells #[.int .i64 s, .int .i64 t] 38)).new (.cells #[.slice a n cap, .int .i64 h, .int .i64 tl, .int .i64 l] 32))
  simp only [World.size_alloc] at HQ
  have hF : ∀ {w' : World}, Held w.heap.size (w.heap.size + 1 + 1) [(w.heap.size + 1, .cells #[.slice a n cap, .int .i64 h, .int .i64 tl, .int .i64 l] 32), (w.heap.size, .cells #[.int .i64 s, .int .i64 t] 38)] w w' → w'.cell? ⟨w.heap.size, 0, none⟩ = some (.int .i64 s) ∧ w'.cell? ⟨w.heap.size, 1, none⟩ = some (.int .i64 t) ∧ w'.cell? ⟨w.heap.size + 1, 0, none⟩ = some (.slice a n cap) ∧ w'.cell? ⟨w.heap.size + 1, 1, none⟩ = some (.int .i64 h) ∧ w'.cell? ⟨w.heap.size + 1, 2, none⟩ = some (.int .i64 tl) ∧ w'.cell? ⟨w.heap.size + 1, 3, none⟩ = some (.int .i64 l) ∧ Held w.heap.size (w.heap.size + 1 + 1) [(w.heap.size + 1, .cells #[.slice a n cap, .int .i64 h, .int .i64 tl, .int .i64 l] 32), (w.heap.size, .cells #[.int .i64 s, .int .i64 t] 38)] w w' := fun h => ⟨(blk_two h.tl.hd).1, (blk_two h.tl.hd).2.1, (blk_four h.hd).1, (blk_four h.hd).2.1, (blk_four h.hd).2.2.1, (blk_four h.hd).2.2.2.1, h⟩
  go_enter Try.func21, Try.ntmps21
  go_wp2_with fail
  go_region_held3 (fun w' => w'.cell? ⟨w.heap.size, 0, none⟩ = some (.int .i64 s) ∧ w'.cell? ⟨w.heap.size, 1, none⟩ = some (.int .i64 t) ∧ w'.cell? ⟨w.heap.size + 1, 0, none⟩ = some (.slice a n cap) ∧ w'.cell? ⟨w.heap.size + 1, 1, none⟩ = some (.int .i64 h) ∧ w'.cell? ⟨w.heap.size + 1, 2, none⟩ = some (.int .i64 tl) ∧ w'.cell? ⟨w.heap.size + 1, 3, none⟩ = some (.int .i64 l) ∧ Held w.heap.size (w.heap.size + 1 + 1) [(w.heap.size + 1, .cells #[.slice a n cap, .int .i64 h, .int .i64 tl, .int .i64 l] 32), (w.heap.size, .cells #[.int .i64 s, .int .i64 t] 38)] w w')
    (first | with_reducible exact hF HQ.out | with_reducible exact hF HQ.out.drew | with_reducible exact hF htc | fail)
    ((first | (go_at_call 39; (try go_split_ands); (with_reducible refine (specOk_yes _ _ HP.out _).mono ?_); rintro e wx ⟨rfl, hbx⟩; have htc := Held.step (by assumption) hbx) | (go_at_call 24; (with_reducible refine (specTicket_yes h Hh.out _).mono ?_); rintro e w' ⟨rfl, rfl⟩) | (go_at_call 24; (with_reducible refine (specTicket_yes tl Htl.out _).mono ?_); rintro e w' ⟨rfl, rfl⟩) | (go_at_call 40; (try go_split_ands); (with_reducible refine (specMost_is s t HP.out _).mono ?_); rintro e wx ⟨rfl, hbx⟩; have htc := Held.step (by assumption) hbx) | (go_at_call 23; (with_reducible refine (in_yes l _ _ hl0 hl1 _).mono ?_); rintro e w' ⟨rfl, rfl⟩)))
  have HQ1 := Lib.hid htc
  clear htc hF HQ hbx
  (try go_split_ands)
  obtain ⟨q0, q1, r0, r1, r2, r3⟩ : wx.cell? ⟨w.heap.size, 0, none⟩ = some (.int .i64 s) ∧ wx.cell? ⟨w.heap.size, 1, none⟩ = some (.int .i64 t) ∧ wx.cell? ⟨w.heap.size + 1, 0, none⟩ = some (.slice a n cap) ∧ wx.cell? ⟨w.heap.size + 1, 1, none⟩ = some (.int .i64 h) ∧ wx.cell? ⟨w.heap.size + 1, 2, none⟩ = some (.int .i64 tl) ∧ wx.cell? ⟨w.heap.size + 1, 3, none⟩ = some (.int .i64 l) := by have h := HQ1.out; exact ⟨(blk_two h.tl.hd).1, (blk_two h.tl.hd).2.1, (blk_four h.hd).1, (blk_four h.hd).2.1, (blk_four h.hd).2.2.1, (blk_four h.hd).2.2.2.1⟩
  go_wp2
  clear q0 q1 r0 r1 r2 r3
  go_loopw [5] (fun i wr => ∃ k : Nat, k ≤ n ∧ i = .int .i64 k ∧ (∀ j x, j < k → xs[j]? = some x → okW s t x) ∧ Held w.heap.size (w.heap.size + 1 + 1) [(w.heap.size + 1, .cells #[.slice a n cap, .int .i64 h, .int .i64 tl, .int .i64 l] 32), (w.heap.size, .cells #[.int .i64 s, .int .i64 t] 38)] w wr) (fun i _ => n - (intOf i).toNat)
  case atStart => exact ⟨0, Nat.zero_le _, rfl, (fun j x hj => absurd hj (Nat.not_lt_zero j)), HQ1.out⟩
  case round =>
    obtain ⟨k, hk, rfl, hall, hq⟩ := hrel
    have HA := Lib.hid hall
    have HR := Lib.hid hq
    clear hall hq
    obtain ⟨r0, r1, r2, r3, -, -, -, -⟩ := blk_four HR.out.hd
    by_cases hlt : k < n
    · obtain ⟨b, off, rfl, hbB, x, hx, hc⟩ := HI.out.at_ hlt
      have hmem : x ∈ xs := List.mem_of_getElem? hx
      have hx6 := HX.out x hmem
      have HXX := Lib.hid hx
      have HM := Lib.hid hmem
      clear hx hmem
      have hF : ∀ {w' : World}, Held w.heap.size (w.heap.size + 1 + 1) [(w.heap.size + 1, .cells #[.slice (some ⟨b, off, none⟩) n cap, .int .i64 h, .int .i64 tl, .int .i64 l] 32), (w.heap.size, .cells #[.int .i64 s, .int .i64 t] 38)] w w' → w'.cell? ⟨w.heap.size, 0, none⟩ = some (.int .i64 s) ∧ w'.cell? ⟨w.heap.size, 1, none⟩ = some (.int .i64 t) ∧ w'.cell? ⟨w.heap.size + 1, 0, none⟩ = some (.slice (some ⟨b, off, none⟩) n cap) ∧ w'.cell? ⟨w.heap.size + 1, 1, none⟩ = some (.int .i64 h) ∧ w'.cell? ⟨w.heap.size + 1, 2, none⟩ = some (.int .i64 tl) ∧ w'.cell? ⟨w.heap.size + 1, 3, none⟩ = some (.int .i64 l) ∧ Held w.heap.size (w.heap.size + 1 + 1) [(w.heap.size + 1, .cells #[.slice (some ⟨b, off, none⟩) n cap, .int .i64 h, .int .i64 tl, .int .i64 l] 32), (w.heap.size, .cells #[.int .i64 s, .int .i64 t] 38)] w w' ∧ w'.cell? ⟨b, off + k, none⟩ = some (.int .i64 x) := fun h => ⟨(blk_two h.tl.hd).1, (blk_two h.tl.hd).2.1, (blk_four h.hd).1, (blk_four h.hd).2.1, (blk_four h.hd).2.2.1, (blk_four h.hd).2.2.2.1, h, (h.below.cell (p := ⟨b, off + k, none⟩) (by show b < _; omega)).trans hc⟩
      have hk0 : (0 : Int) ≤ (k : Int) := by omega
      have hk1 : (k : Int) < (n : Int) := by omega
      have yN := Held.size HR.out
      go_upto_region 6 with fail
      clear r0 r1 r2 r3
      go_cut [7] (fun s7 wq => s7 = .bool (okWB s t x) ∧ Held w.heap.size (w.heap.size + 1 + 1) [(w.heap.size + 1, .cells #[.slice (some ⟨b, off, none⟩) n cap, .int .i64 h, .int .i64 tl, .int .i64 l] 32), (w.heap.size, .cells #[.int .i64 s, .int .i64 t] 38)] w wq)
      case first =>
        as_aux_lemma =>
          go_region_held3 (fun w' => w'.cell? ⟨w.heap.size, 0, none⟩ = some (.int .i64 s) ∧ w'.cell? ⟨w.heap.size, 1, none⟩ = some (.int .i64 t) ∧ w'.cell? ⟨w.heap.size + 1, 0, none⟩ = some (.slice (some ⟨b, off, none⟩) n cap) ∧ w'.cell? ⟨w.heap.size + 1, 1, none⟩ = some (.int .i64 h) ∧ w'.cell? ⟨w.heap.size + 1, 2, none⟩ = some (.int .i64 tl) ∧ w'.cell? ⟨w.heap.size + 1, 3, none⟩ = some (.int .i64 l) ∧ Held w.heap.size (w.heap.size + 1 + 1) [(w.heap.size + 1, .cells #[.slice (some ⟨b, off, none⟩) n cap, .int .i64 h, .int .i64 tl, .int .i64 l] 32), (w.heap.size, .cells #[.int .i64 s, .int .i64 t] 38)] w w' ∧ w'.cell? ⟨b, off + k, none⟩ = some (.int .i64 x))
            (first
              | with_reducible exact hF HR.out
              | with_reducible exact hF HR.out.drew
              | with_reducible exact hF htc
              | with_reducible exact hF (HR.out.alloc _).drew
              | with_reducible exact hF (HR.out.drew.alloc _)
              | with_reducible exact hF (htc.alloc _)
              | ((with_reducible refine hF (htc.set3 ?_)) <;> (first | omega | (simp; omega) | (simp; done)))
              | ((with_reducible refine hF ((htc.alloc _).set3 ?_)) <;> (first | omega | (simp; omega) | (simp; done)))
              | fail)
            ((first
              | (go_at_call 41; (try go_split_ands); (with_reducible refine (specEntryOf s t x hx6 _).mono ?_); rintro e wx ⟨rfl, hbx⟩; have htc := Held.step (by assumption) hbx; (first | (have hG := blk_below hG hbx (blk_lt hG); obtain ⟨x0, x1, x2, f0, f1, f2⟩ := blk_three hG) | (have hG := new_below hbx; (try simp only [World.size_alloc] at hG); obtain ⟨x0, x1, x2, f0, f1, f2⟩ := blk_three hG) | (have hG := new_drew_below hbx; (try simp only [World.size_alloc] at hG); obtain ⟨x0, x1, x2, f0, f1, f2⟩ := blk_three hG) | skip); have hsw := Held.size htc)))
          all_goals
            go_wp2_with fail
            go_meet
            (try go_split_ands)
            exact ⟨rfl, by assumption⟩
      case rest =>
        obtain ⟨rfl, hq⟩ := hcut
        have HR2 := Lib.hid hq
        clear hq HR hF
        by_cases hok : okW s t x
        · rw [show okWB s t x = true from decide_eq_true hok]
          have HO := Lib.hid hok
          clear hok
          go_wp2
          go_roundw
          case rel => exact ⟨k + 1, by omega, by go_num, (fun j y hj hy => by
            rcases Nat.lt_or_ge j k with h' | h'
            · exact HA.out j y h' hy
            · obtain rfl : j = k := by omega
              rw [HXX.out] at hy
              exact Option.some.inj hy ▸ HO.out), HR2.out⟩
          case measure => simp [intOf]; omega
        · rw [show okWB s t x = false from decide_eq_false hok]
          have HO := Lib.hid hok
          clear hok
          go_wp2
          go_ret
          exact ⟨by rw [decide_eq_false (fun hall => HO.out (hall x HM.out))]; rfl, HR2.out.below⟩
    · go_wp2
      go_ret
      have e : k = n := by omega
      subst e
      have hall : ∀ x ∈ xs, okW s t x := fun x hx => by
        obtain ⟨j, hj, rfl⟩ := List.mem_iff_getElem.1 hx
        exact HA.out j _ (by rw [← HI.out.1]; exact hj) (List.getElem?_eq_getElem hj)
      exact ⟨by rw [decide_eq_true hall]; rfl, HR.out.below⟩

theorem specRingOk (B : Nat) (s t : Int) (a : Option Addr) (n cap : Nat) (xs : List Int) (h tl l : Int) (w : World) (hi : Ints B a n xs w) (hB : B ≤ w.heap.size) (hx64 : ∀ x ∈ xs, W64 x) (hn : n ≤ 1048576) : Calls Try.prog 21 #[.agg #[.int .i64 s, .int .i64 t], .agg #[.slice a n cap, .int .i64 h, .int .i64 tl, .int .i64 l]] w fun e w' => e = .returned (.bool (okRB s t xs h tl l)) ∧ Below w.heap.size w w' := by
  have hlen := hi.1
  by_cases hp : okP s t
  · by_cases hne : (n : Int) = 2 * s
    · by_cases hh : okK h
      · by_cases ht : okK tl
        · by_cases hl : -1000000 ≤ l ∧ l ≤ 3 * s - 1
          · have e : okRB s t xs h tl l = decide (∀ x ∈ xs, okW s t x) := by
              unfold okRB okR
              exact decide_eq_decide.mpr ⟨fun g => g.2.2.2.2.2, fun g => ⟨hp, by rw [hlen]; exact hne, hh, ht, hl, g⟩⟩
            rw [e]; exact ringOk_loop B s t a n cap xs h tl l w hi hB hx64 hp hn hne hh ht hl.1 hl.2
          · rw [show okRB s t xs h tl l = false from decide_eq_false (fun g => hl g.2.2.2.2.1)]; exact ringOk_l B s t a n cap xs h tl l w hp hn hne hh ht (by omega)
        · rw [show okRB s t xs h tl l = false from decide_eq_false (fun g => ht g.2.2.2.1)]; exact ringOk_t B s t a n cap xs h tl l w hp hn hne hh ht
      · rw [show okRB s t xs h tl l = false from decide_eq_false (fun g => hh g.2.2.1)]; exact ringOk_h B s t a n cap xs h tl l w hp hn hne hh
    · rw [show okRB s t xs h tl l = false from decide_eq_false (fun g => hne (by rw [← hlen]; exact g.2.1))]; exact ringOk_n B s t a n cap xs h tl l w hp hn hne
  · rw [show okRB s t xs h tl l = false from decide_eq_false (fun g => hp g.1)]; exact ringOk_p B s t a n cap xs h tl l w hp

end Go.Proofs.Ytdpahikbikiilaa
