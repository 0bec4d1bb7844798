/- Contracts of the dice: a new one, a number below another one, a plan that is right. -/
import Derived.Test.YtgcnfnmdemeaoaaDrawAny
import Derived.RegionTactic
import Derived.BigRegion
namespace Go.Proofs.Ytgcnfnmdemeaoaa
open Go.RowKit

theorem Bytes.mono {B B' : Nat} {a : Option Addr} {n : Nat} {w : World} (h : Bytes B a n w) (hB : B ≤ B') : Bytes B' a n w := by
  intro i hi
  obtain ⟨b, off, e, hb, r⟩ := h i hi
  exact ⟨b, off, e, by omega, r⟩

set_option maxHeartbeats 2000000 in
theorem roll_any (B : Nat) (a : Option Addr) (n cap : Nat) (seed : Int) (w : World) (hn : n ≤ 4096) (hB : B ≤ w.heap.size) (hb : Bytes B a n w) :
    Calls Try.prog 21 #[.slice a n cap, .int .u64 seed] w (NewDrawer 77 .u64 B a n cap w) := by
  have HB := Lib.hid hb
  clear hb
  go_enter Try.func21, Try.ntmps21
  go_wp2
  go_loopw [6] (fun i wr => ∃ (q : Int) (k : Nat), k ≤ n ∧ i = .int .i64 k ∧ wr.heap[w.heap.size]? = some (.cells #[.slice a n cap, .int .i64 0, .int .u64 q] 77 (0, 0)) ∧ Below w.heap.size w wr) (fun i _ => n - (intOf i).toNat)
  case atStart => exact ⟨_, 0, Nat.zero_le _, rfl, blk_new w _, (Below.refl _ _).alloc (Nat.le_refl _) _⟩
  case round =>
    obtain ⟨q, k, hk, rfl, hblk, hbel⟩ := hrel
    have H := Lib.hid hblk
    have HL := Lib.hid hbel
    obtain ⟨c0, c1, c2, f0, f1, f2⟩ := blk_three hblk
    by_cases hlt : k < n
    · obtain ⟨b, off, rfl, hbB, z, z0, z1, hz⟩ := HB.out k hlt
      rw [← hbel.cell (p := ⟨b, off + k, none⟩) (by simp; omega)] at hz
      clear hblk hbel
      go_wp2
      go_region
      go_wp2
      go_roundw
      case rel => exact ⟨_, k + 1, by omega, by go_num, blk_set (w := wr.drew) H.out, HL.out.drew.setCell (by simp) _⟩
      case measure => simp [intOf]; omega
    · clear hblk hbel
      go_wp2
      go_ret
      exact ⟨_, rfl, Nat.le_refl _, ⟨hB, hn, HB.out.grown (grown_below HL.out none) (by simp), 0, q, by omega, by omega, H.out⟩, HL.out⟩

set_option maxHeartbeats 2000000 in
theorem dice_pos {B c : Nat} {a : Option Addr} {n cap : Nat} {w : World} (hd : Drawer 77 .u64 B c a n cap w) (m : Int) (h0 : 0 < m) :
    Calls Try.prog 23 #[.pointer (some ⟨c, 0, none⟩), .int .i64 m] w (Drawn 77 .u64 B c a n cap (IntIn 0 (m - 1)) w) := by
  obtain ⟨low, len, bytes, i, q, i0, i1, hblk⟩ := id hd
  have H := Lib.hid hblk
  have HD := Lib.hid hd
  clear hd
  obtain ⟨c0, c1, c2, f0, f1, f2⟩ := blk_three hblk
  clear hblk
  have h24 := u64_and24
  by_cases hi : i < n
  · obtain ⟨b, off, rfl, hbB, z, z0, z1, hz⟩ := bytes i.toNat (by omega)
    have hbc : b ≠ c := by omega
    go_enter Try.func23, Try.ntmps23
    go_wp2
    generalize IntKind.u64.wrap (IntKind.u64.wrap (q * 6364136223846793005) + 1442695040888963407) = q1
    obtain ⟨x, hx⟩ : ∃ x, q1 / 8589934592 % 16777216 = x := ⟨_, rfl⟩
    have hx0 : 0 ≤ x := by omega
    have hx1 : x ≤ 16777215 := by omega
    rw [hx]
    clear hx
    go_quiet (fail)
    obtain ⟨n1, rfl⟩ : ∃ n', n' = nq := ⟨_, rfl⟩
    go_wp2
    go_quiet (fail)
    obtain ⟨n2, rfl⟩ : ∃ n', n' = nq := ⟨_, rfl⟩
    go_wp2
    go_ret
    have hg : w.grownBy (((w.setCell { block := c, off := 2 } (Value.int IntKind.u64 q1)).drewN (n1 + n2)).setCell { block := c, off := 1 } (Value.int IntKind.i64 (i + 1))) (some c) := grown_trans (grown_drewN (grown_set _ _ _ _) _) (grown_set _ _ _ _)
    have g1 := Int.emod_nonneg (x + z) (show m ≠ 0 by omega)
    have g2 := Int.emod_lt_of_pos (x + z) h0
    exact ⟨_, ⟨_, rfl, g1, by omega⟩, rfl, HD.out.put hg (by omega) (by omega) (blk_set (w := (w.setCell _ _).drewN _) (blk_set H.out)), hg⟩
  · go_enter Try.func23, Try.ntmps23
    go_wp2
    generalize IntKind.u64.wrap (IntKind.u64.wrap (q * 6364136223846793005) + 1442695040888963407) = q1
    obtain ⟨x, hx⟩ : ∃ x, q1 / 8589934592 % 16777216 = x := ⟨_, rfl⟩
    have hx0 : 0 ≤ x := by omega
    have hx1 : x ≤ 16777215 := by omega
    rw [hx]
    clear hx
    go_quiet (fail)
    obtain ⟨n1, rfl⟩ : ∃ n', n' = nq := ⟨_, rfl⟩
    go_wp2
    go_ret
    have hg : w.grownBy ((w.setCell { block := c, off := 2 } (Value.int IntKind.u64 q1)).drewN n1) (some c) := grown_drewN (grown_set _ _ _ _) _
    have g1 := Int.emod_nonneg x (show m ≠ 0 by omega)
    have g2 := Int.emod_lt_of_pos x h0
    exact ⟨_, ⟨_, rfl, g1, by omega⟩, rfl, HD.out.put hg i0 i1 (blk_set H.out), hg⟩

set_option maxHeartbeats 2000000 in
/-- A plan that is right is drawn. -/
theorem scheme_any {B c : Nat} {a : Option Addr} {n cap : Nat} {w : World} (hd : Drawer 77 .u64 B c a n cap w) :
    Calls Try.prog 22 #[.pointer (some ⟨c, 0, none⟩)] w (Drawn 77 .u64 B c a n cap (PlanIs okP) w) := by
  have HD := Lib.hid hd
  have hlt := hd.lt
  clear hd
  go_enter Try.func22, Try.ntmps22
  go_wp2_with fail
  refine (dice_pos (HD.out.grown (grown_alloc (World.grownBy_alloc w _ none) _) (by simp)) 6 (by omega)).mono ?_
  rintro e w1 ⟨v, ⟨x, rfl, x0, x1⟩, rfl, hd1, hg1⟩
  obtain ⟨s, hs, hm⟩ : ∃ s : Int, (s = 1 ∨ s = 2 ∨ s = 4 ∨ s = 8) ∧ w1.cell? ⟨w.heap.size + 1, x.toNat, none⟩ = some (.int .i64 s) := by
    rw [(gcell hg1).1 (w.heap.size + 1) x.toNat (by simp) (by omega)]
    have hx : x = 0 ∨ x = 1 ∨ x = 2 ∨ x = 3 ∨ x = 4 ∨ x = 5 := by omega
    rcases hx with rfl | rfl | rfl | rfl | rfl | rfl
    · exact ⟨1, by omega, by go_simp⟩
    · exact ⟨2, by omega, by go_simp⟩
    · exact ⟨2, by omega, by go_simp⟩
    · exact ⟨4, by omega, by go_simp⟩
    · exact ⟨4, by omega, by go_simp⟩
    · exact ⟨8, by omega, by go_simp⟩
  have s0 : 0 < s := by omega
  have s8 : s ≤ 8 := by omega
  have HS := Lib.hid hs
  clear hs
  have x2 : x < 6 := by omega
  have HR1 := Lib.hid (blk_grown (blk_alloc (blk_new w _)) hg1 (by simp; omega))
  have HD1 := Lib.hid hd1
  have HG1 := Lib.hid (grown_trans (grown_alloc (World.grownBy_alloc w _ _) _) hg1)
  clear hd1 hg1 HD
  go_wp2_with fail
  refine (dice_pos HD1.out s s0).mono ?_
  rintro e w2 ⟨v, ⟨t, rfl, t0, t1⟩, rfl, hd2, hg2⟩
  have HR2 := Lib.hid (blk_grown HR1.out hg2 (by simp; omega))
  have HD2 := Lib.hid hd2
  have HG2 := Lib.hid (grown_trans HG1.out hg2)
  clear hd2 hg2 HD1 HG1 HR1 hm
  obtain ⟨r0, r1, e0, e1⟩ := blk_two HR2.out
  go_wp2
  have hg : w.grownBy ((w2.setCell ⟨w.heap.size, 0, none⟩ (.int .i64 s)).setCell ⟨w.heap.size, 1, none⟩ (.int .i64 (1 + t))) (some c) := grown_setNew (grown_setNew HG2.out (by simp) _) (by simp) _
  have hr : (w2).grownBy ((w2.setCell ⟨w.heap.size, 0, none⟩ (.int .i64 s)).setCell ⟨w.heap.size, 1, none⟩ (.int .i64 (1 + t))) (some w.heap.size) := grown_trans (grown_set _ _ _ _) (grown_set _ _ _ _)
  exact bodyPost_ret (v := .agg #[.int .i64 s, .int .i64 (1 + t)]) (by simp [results, Try.results22, go_sem, r0, r1]) rfl ⟨_, ⟨s, 1 + t, rfl, HS.out, by omega, by omega⟩, rfl, HD2.out.grown hr (by intro j hj; cases hj; have := HD2.out.low; omega), hg⟩

theorem big_no (a : Option Addr) (n cap : Nat) (w : World) (hn : n ≤ 4096) :
    Calls Try.prog 15 #[.slice a n cap] w fun e w' => e = .returned (.bool false) ∧ w = w' := by
  go_enter Try.func15, Try.ntmps15
  go_wp2
  go_ret
  exact ⟨by simp; omega, rfl⟩

theorem big_yes (a : Option Addr) (n cap : Nat) (w : World) (hn : 4096 < n) :
    Calls Try.prog 15 #[.slice a n cap] w fun e w' => e = .returned (.bool true) ∧ w = w' := by
  go_enter Try.func15, Try.ntmps15
  go_wp2
  go_ret
  exact ⟨by simp; omega, rfl⟩
end Go.Proofs.Ytgcnfnmdemeaoaa
