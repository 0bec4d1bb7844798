/- The law of chapter 2 holds: whatever bytes are drawn from, what is made a word is read from it, and each word that can be read is made of what is read: no condition. -/
import Derived.Test.YtakbkdeeablpjaaDice
import Derived.Test.YtakbkdeeablpjaaD2c
import Derived.Test.YtakbkdeeablpjaaS2b
import Derived.Test.YtakbkdeeablpjaaI2
import Derived.Deep.RegionHeld3
namespace Go.Proofs.Ytakbkdeeablpjaa
open Go.RowKit

theorem Bytes.mono {B B' : Nat} {a : Option Addr} {n : Nat} {w : World} (h : Bytes B a n w) (hB : B ≤ B') : Bytes B' a n w := by
  intro i hi
  obtain ⟨b, off, e, hb, r⟩ := h i hi
  exact ⟨b, off, e, by omega, r⟩

set_option maxRecDepth 100000 in
set_option maxHeartbeats 4000000 in
theorem words_walk (a : Option Addr) (n cap : Nat) (w : World) (hn : n ≤ 4096) (hb : Bytes w.heap.size a n w) :
    Calls Try.prog 3 #[.slice a n cap] w fun e w' => e = .returned (.bool true) ∧ Below w.heap.size w w' := by
  have HB := Lib.hid hb
  clear hb
  go_enter Try.func3, Try.ntmps3
  go_wp2_with fail
  refine (big_no a n cap w hn).mono ?_
  rintro e w' ⟨rfl, rfl⟩
  go_wp2_with fail
  refine (drawWordOf_any a n cap w hn HB.out).mono ?_
  rintro e w1 ⟨v, ⟨s, t, c, i, b, rfl, hs, ht, hc, hi⟩, rfl, hb1⟩
  have z1 := hb1.size
  have HB1 := Lib.hid hb1
  clear hb1
  go_wp2_with fail
  refine (iWord s t c i b _).mono ?_
  rintro e w2 ⟨rfl, hb2⟩
  have z2 := hb2.size
  simp at z2
  have P2 := Lib.hid (blk_below (blk_alloc (blk_new w1 _)) hb2 (by simp; omega))
  have E2 := Lib.hid (blk_below (blk_new (w1.alloc _) _) hb2 (by simp))
  simp at E2
  have HB2 := Lib.hid (((HB1.out.alloc (by omega) _).alloc (by simp; omega) _).trans (hb2.mono (by simp; omega)))
  clear hb2 HB1
  go_wp2_with fail
  refine (drawEntryOf_any a n cap w2 hn ((HB.out.grown (grown_below HB2.out none) (by simp)).mono (by omega))).mono ?_
  rintro e w3 ⟨v, ⟨s', t', m, rfl, hs', ht', hm⟩, rfl, hb3⟩
  have z3 := hb3.size
  have P3 := Lib.hid (blk_below P2.out hb3 (by omega))
  have E3 := Lib.hid (blk_below E2.out hb3 (by omega))
  have HB3 := Lib.hid (HB2.out.trans (hb3.mono (by omega)))
  clear hb3 HB2 P2 E2
  go_wp2_with fail
  refine (iEntryOf s' t' m hm _).mono ?_
  rintro e w4 ⟨rfl, hb4⟩
  have z4 := hb4.size
  simp at z4
  have P4 := Lib.hid (blk_below (blk_alloc P3.out) hb4 (by simp; omega))
  have E4 := Lib.hid (blk_below (blk_alloc E3.out) hb4 (by simp; omega))
  have Q4 := Lib.hid (blk_below (blk_new w3 _) hb4 (by simp))
  have HB4 := Lib.hid ((HB3.out.alloc (by omega) _).trans (hb4.mono (by simp; omega)))
  clear hb4 HB3 P3 E3
  obtain ⟨q0, q1, -, -⟩ := blk_two Q4.out
  have hne1 : w3.heap.size < w4.heap.size := by omega
  go_wp2_with fail
  refine (specEntryOf s' t' m hm _).mono ?_
  rintro e w5 ⟨rfl, hb5⟩
  have z5 := hb5.size
  simp at z5
  have P5 := Lib.hid (blk_below (blk_alloc P4.out) hb5 (by simp; omega))
  have E5 := Lib.hid (blk_below (blk_alloc E4.out) hb5 (by simp; omega))
  have Q5 := Lib.hid (blk_below (blk_alloc Q4.out) hb5 (by simp; omega))
  have X5 := Lib.hid (blk_below (blk_new w4 _) hb5 (by simp))
  have HB5 := Lib.hid ((HB4.out.alloc (by omega) _).trans (hb5.mono (by simp; omega)))
  clear hb5 HB4 P4 E4 Q4 q0 q1 hne1
  go_upto_region 8 with fail
  obtain ⟨p0, p1, -, -⟩ := blk_two (blk_alloc (o' := .cells #[.int .i64 (entC s' t' m), .bool (entS s' t' m), .int .i64 (entI s' t' m)] 27) P5.out)
  obtain ⟨e0, e1, e2, -, -, -⟩ := blk_three (blk_alloc (o' := .cells #[.int .i64 (entC s' t' m), .bool (entS s' t' m), .int .i64 (entI s' t' m)] 27) E5.out)
  obtain ⟨x0, x1, x2, -, -, -⟩ := blk_three (blk_alloc (o' := .cells #[.int .i64 (entC s' t' m), .bool (entS s' t' m), .int .i64 (entI s' t' m)] 27) X5.out)
  obtain ⟨y0, y1, y2, -, -, -⟩ := blk_three (blk_new w5 (.cells #[.int .i64 (entC s' t' m), .bool (entS s' t' m), .int .i64 (entI s' t' m)] 27))
  have HB6 := Lib.hid (HB5.out.alloc (by omega) (.cells #[.int .i64 (entC s' t' m), .bool (entS s' t' m), .int .i64 (entI s' t' m)] 27))
  have z6 : w5.heap.size + 1 ≤ (w5.alloc (.cells #[.int .i64 (entC s' t' m), .bool (entS s' t' m), .int .i64 (entI s' t' m)] 27)).heap.size := by simp
  go_cut [71] (fun s71 wx => s71 = .bool false ∧ Below (w5.heap.size + 1) (w5.alloc (.cells #[.int .i64 (entC s' t' m), .bool (entS s' t' m), .int .i64 (entI s' t' m)] 27)) wx)
  case first =>
    go_region_held3 (fun w' => w'.cell? ⟨w1.heap.size, 0, none⟩ = some (.int .i64 s) ∧ w'.cell? ⟨w1.heap.size, 1, none⟩ = some (.int .i64 t) ∧ w'.cell? ⟨(w1.heap.size + 1), 0, none⟩ = some (.int .i64 c) ∧ w'.cell? ⟨(w1.heap.size + 1), 1, none⟩ = some (.bool b) ∧ w'.cell? ⟨(w1.heap.size + 1), 2, none⟩ = some (.int .i64 i) ∧ w'.cell? ⟨w4.heap.size, 0, none⟩ = some (.int .i64 (entC s' t' m)) ∧ w'.cell? ⟨w4.heap.size, 1, none⟩ = some (.bool (entS s' t' m)) ∧ w'.cell? ⟨w4.heap.size, 2, none⟩ = some (.int .i64 (entI s' t' m)) ∧ w'.cell? ⟨w5.heap.size, 0, none⟩ = some (.int .i64 (entC s' t' m)) ∧ w'.cell? ⟨w5.heap.size, 1, none⟩ = some (.bool (entS s' t' m)) ∧ w'.cell? ⟨w5.heap.size, 2, none⟩ = some (.int .i64 (entI s' t' m)) ∧ Below (w5.heap.size + 1) (w5.alloc (.cells #[.int .i64 (entC s' t' m), .bool (entS s' t' m), .int .i64 (entI s' t' m)] 27)) w' ∧ w5.heap.size + 1 ≤ w'.heap.size)
      (first
        | exact ⟨p0, p1, e0, e1, e2, x0, x1, x2, y0, y1, y2, Below.refl _ _, z6⟩
        | exact ⟨p0, p1, e0, e1, e2, x0, x1, x2, y0, y1, y2, (Below.refl _ _).drew, z6⟩
        | ((try go_split_ands)
           have zz := hbx.size
           exact ⟨(hbx.cell (by first | omega | (simp; done) | (simp; omega))).trans (by assumption), (hbx.cell (by first | omega | (simp; done) | (simp; omega))).trans (by assumption), (hbx.cell (by first | omega | (simp; done) | (simp; omega))).trans (by assumption), (hbx.cell (by first | omega | (simp; done) | (simp; omega))).trans (by assumption), (hbx.cell (by first | omega | (simp; done) | (simp; omega))).trans (by assumption), (hbx.cell (by first | omega | (simp; done) | (simp; omega))).trans (by assumption), (hbx.cell (by first | omega | (simp; done) | (simp; omega))).trans (by assumption), (hbx.cell (by first | omega | (simp; done) | (simp; omega))).trans (by assumption), (hbx.cell (by first | omega | (simp; done) | (simp; omega))).trans (by assumption), (hbx.cell (by first | omega | (simp; done) | (simp; omega))).trans (by assumption), (hbx.cell (by first | omega | (simp; done) | (simp; omega))).trans (by assumption), Below.trans (by assumption) (hbx.mono (by omega)), by omega⟩))
      ((first
        | (go_at_call 14; (with_reducible refine (specWord _ _ _ _ _ _).mono ?_); rintro e wx ⟨rfl, hbx⟩)
        | (go_at_call 15; (with_reducible refine (iEntryOk _ _ _ _ _ _).mono ?_); rintro e wx ⟨rfl, hbx⟩)
        | (go_at_call 16; (with_reducible refine (specEntryOk _ _ _ _ _ _).mono ?_); rintro e wx ⟨rfl, hbx⟩)
        | (go_at_call 17; (with_reducible refine (iNone _ _ _).mono ?_); rintro e wx ⟨rfl, hbx⟩)
        | (go_at_call 18; (with_reducible refine (specNone _ _ _).mono ?_); rintro e wx ⟨rfl, hbx⟩)))
    go_wp2_with fail
    go_meet
    (try go_split_ands)
    exact ⟨rfl, by assumption⟩
  case rest =>
    obtain ⟨rfl, hb6⟩ := hcut
    have z7 := hb6.size
    simp at z7
    have P6 := Lib.hid (blk_below (blk_alloc P5.out) hb6 (by omega))
    have E6 := Lib.hid (blk_below (blk_alloc E5.out) hb6 (by omega))
    have Q6 := Lib.hid (blk_below (blk_alloc Q5.out) hb6 (by omega))
    have X6 := Lib.hid (blk_below (blk_alloc X5.out) hb6 (by omega))
    have HB7 := Lib.hid (HB6.out.trans (hb6.mono (by omega)))
    clear hb6 p0 p1 e0 e1 e2 x0 x1 x2 y0 y1 y2 z6
    obtain ⟨p0, p1, -, -⟩ := blk_two P6.out
    obtain ⟨e0, e1, e2, -, -, -⟩ := blk_three E6.out
    by_cases hE : okE s t c i
    · obtain ⟨k0, k64, k1, k2, k3, k4⟩ := ent_of_word (b := b) hE
      rw [show wordV s t c i b = wordD s c i b from if_pos hE]
      clear hE
      generalize wordD s c i b = N at *
      go_wp2_with fail
      refine (iEntryOf s t N k64 _).mono ?_
      rintro e w8 ⟨rfl, hb8⟩
      rw [k1, k2, k3, k4]
      have z8 := hb8.size
      have E8 := Lib.hid (blk_below E6.out hb8 (by omega))
      have Q8 := Lib.hid (blk_below Q6.out hb8 (by omega))
      have X8 := Lib.hid (blk_below X6.out hb8 (by omega))
      have HB8 := Lib.hid (HB7.out.trans (hb8.mono (by omega)))
      clear hb8 p0 p1 e0 e1 e2 k1 k2 k3 k4
      obtain ⟨e0, e1, e2, -, -, -⟩ := blk_three E8.out
      obtain ⟨q0, q1, -, -⟩ := blk_two Q8.out
      obtain ⟨x0, x1, x2, -, -, -⟩ := blk_three X8.out
      have h1 : w1.heap.size + 1 < w8.heap.size := by omega
      have h3 : w3.heap.size < w8.heap.size := by omega
      have h4 : w4.heap.size < w8.heap.size := by omega
      go_wp2_with fail
      · refine (iWord s' t' _ _ _ _).mono ?_
        rintro e w9 ⟨rfl, hb9⟩
        rw [word_of_ent (of_decide_eq_true (by assumption))]
        go_wp2
        go_ret
        exact ⟨rfl, (HB8.out.alloc (by omega) _).trans (hb9.mono (by simp; omega))⟩
      · go_ret
        exact ⟨rfl, HB8.out.alloc (by omega) _⟩
    · rw [show wordV s t c i b = -1 from if_neg hE]
      clear hE e0 e1 e2 p0 p1
      obtain ⟨q0, q1, -, -⟩ := blk_two Q6.out
      obtain ⟨x0, x1, x2, -, -, -⟩ := blk_three X6.out
      go_wp2_with fail
      · refine (iWord s' t' _ _ _ _).mono ?_
        rintro e w9 ⟨rfl, hb9⟩
        rw [word_of_ent (of_decide_eq_true (by assumption))]
        go_wp2
        go_ret
        exact ⟨rfl, HB7.out.trans (hb9.mono (by omega))⟩
      · go_ret
        exact ⟨rfl, HB7.out⟩

theorem words_large (a : Option Addr) (n cap : Nat) (w : World) (hn : 4096 < n) :
    Calls Try.prog 3 #[.slice a n cap] w fun e w' => e = .returned (.bool true) ∧ Below w.heap.size w w' := by
  go_enter Try.func3, Try.ntmps3
  go_wp2_with fail
  refine (big_yes a n cap w hn).mono ?_
  rintro e w' ⟨rfl, rfl⟩
  go_wp2
  go_ret
  exact ⟨rfl, Below.refl _ _⟩

theorem words_any (a : Option Addr) (n cap : Nat) (w : World) (hb : Bytes w.heap.size a n w) :
    Calls Try.prog 3 #[.slice a n cap] w fun e w' => e = .returned (.bool true) ∧ Below w.heap.size w w' := by
  by_cases hn : n ≤ 4096
  · exact words_walk a n cap w hn hb
  · exact words_large a n cap w (by omega)

end Go.Proofs.Ytakbkdeeablpjaa
