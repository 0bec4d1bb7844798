/- Contracts of the draws: a byte, a number below another one. -/
import Derived.Test.YtgcnfnmdemeaoaaCells
import Derived.Deep.QuietTactic
import Derived.BigQuiet
namespace Go.Proofs.Ytgcnfnmdemeaoaa
open Go.RowKit

set_option maxHeartbeats 1000000 in
theorem byte_more (B c : Nat) (n cap : Nat) (w : World) (b off : Nat) (i q z : Int) (hi0 : 0 ≤ i) (hi1 : i < n) (hn : n ≤ 4096) (hz0 : 0 ≤ z) (hz1 : z ≤ 255)
    (hblk : w.heap[c]? = some (.cells #[.slice (some ⟨b, off, none⟩) n cap, .int .i64 i, .int .i64 q] 98 (0, 0)))
    (hd : Drawer 98 .i64 B c (some ⟨b, off, none⟩) n cap w) (hbc : b ≠ c) (hz : w.cell? ⟨b, off + i.toNat, none⟩ = some (.int .u8 z)) :
    Calls Try.prog 93 #[.pointer (some ⟨c, 0, none⟩)] w (Drawn 98 .i64 B c (some ⟨b, off, none⟩) n cap (IntIn 0 255) w) := by
  have H := Lib.hid hblk
  have HD := Lib.hid hd
  clear hd
  have c0 := blk_cell (o := 0) hblk
  have c1 := blk_cell (o := 1) hblk
  have c2 := blk_cell (o := 2) hblk
  have f1 := blk_free (o := 1) hblk
  have f2 := blk_free (o := 2) hblk
  simp at c0 c1 c2
  clear hblk
  go_enter Try.func93, Try.ntmps93
  have h255 := i64_and255
  go_wp2
  generalize wrap64 (wrap64 (q * 6364136223846793005) + 1442695040888963407) = q1
  go_quiet (fail)
  obtain ⟨n1, rfl⟩ : ∃ n', n' = nq := ⟨_, rfl⟩
  obtain ⟨x, hx⟩ : ∃ x, bits BinOp.xor IntKind.i64 (q1 / 8589934592) (q1 / 35184372088832) % 256 = x := ⟨_, rfl⟩
  have hx0 : 0 ≤ x := by omega
  have hx1 : x ≤ 255 := by omega
  rw [hx]
  clear hx
  go_wp2
  go_quiet (fail)
  obtain ⟨n2, rfl⟩ : ∃ n', n' = nq := ⟨_, rfl⟩
  go_wp2
  go_quiet (fail)
  obtain ⟨n3, rfl⟩ : ∃ n', n' = nq := ⟨_, rfl⟩
  go_wp2
  go_ret
  have hg : w.grownBy (((w.setCell { block := c, off := 2 } (Value.int IntKind.i64 q1)).drewN (n1 + n2 + n3)).setCell { block := c, off := 1 } (Value.int IntKind.i64 (i + 1))) (some c) := grown_trans (grown_drewN (grown_set _ _ _ _) _) (grown_set _ _ _ _)
  exact ⟨_, ⟨_, rfl, by omega, by omega⟩, rfl, HD.out.put hg (by omega) (by omega) (blk_set (w := (w.setCell _ _).drewN _) (blk_set H.out)), hg⟩

set_option maxHeartbeats 1000000 in
theorem byte_last (B c : Nat) (a : Option Addr) (n cap : Nat) (w : World) (i q : Int) (hi0 : 0 ≤ i) (hi1 : ¬ i < n) (hi2 : i ≤ n)
    (hblk : w.heap[c]? = some (.cells #[.slice a n cap, .int .i64 i, .int .i64 q] 98 (0, 0)))
    (hd : Drawer 98 .i64 B c a n cap w) :
    Calls Try.prog 93 #[.pointer (some ⟨c, 0, none⟩)] w (Drawn 98 .i64 B c a n cap (IntIn 0 255) w) := by
  have H := Lib.hid hblk
  have HD := Lib.hid hd
  clear hd
  have c0 := blk_cell (o := 0) hblk
  have c1 := blk_cell (o := 1) hblk
  have c2 := blk_cell (o := 2) hblk
  have f1 := blk_free (o := 1) hblk
  have f2 := blk_free (o := 2) hblk
  simp at c0 c1 c2
  clear hblk
  go_enter Try.func93, Try.ntmps93
  have h255 := i64_and255
  go_wp2
  generalize wrap64 (wrap64 (q * 6364136223846793005) + 1442695040888963407) = q1
  go_quiet (fail)
  obtain ⟨n1, rfl⟩ : ∃ n', n' = nq := ⟨_, rfl⟩
  obtain ⟨x, hx⟩ : ∃ x, bits BinOp.xor IntKind.i64 (q1 / 8589934592) (q1 / 35184372088832) % 256 = x := ⟨_, rfl⟩
  have hx0 : 0 ≤ x := by omega
  have hx1 : x ≤ 255 := by omega
  rw [hx]
  clear hx
  go_wp2
  go_quiet (fail)
  obtain ⟨n2, rfl⟩ : ∃ n', n' = nq := ⟨_, rfl⟩
  go_wp2
  go_ret
  have hg : w.grownBy (((w.setCell { block := c, off := 2 } (Value.int IntKind.i64 q1)).drewN n1).drewN n2) (some c) := grown_drewN (grown_drewN (grown_set _ _ _ _) _) _
  exact ⟨_, ⟨_, rfl, by omega, by omega⟩, rfl, HD.out.put hg hi0 hi2 (blk_set H.out), hg⟩

/-- A byte is drawn. -/
theorem byte_any {B c : Nat} {a : Option Addr} {n cap : Nat} {w : World} (hd : Drawer 98 .i64 B c a n cap w) :
    Calls Try.prog 93 #[.pointer (some ⟨c, 0, none⟩)] w (Drawn 98 .i64 B c a n cap (IntIn 0 255) w) := by
  obtain ⟨low, len, bytes, i, q, i0, i1, hb⟩ := id hd
  by_cases hi : i < n
  · obtain ⟨b, off, rfl, hbB, z, z0, z1, hz⟩ := bytes i.toNat (by omega)
    exact byte_more B c n cap w b off i q z i0 hi len z0 z1 hb hd (by omega) hz
  · exact byte_last B c a n cap w i q i0 hi i1 hb hd

set_option maxHeartbeats 1000000 in
/-- A number below m is drawn, from 0 on. -/
theorem below_pos {B c : Nat} {a : Option Addr} {n cap : Nat} {w : World} (hd : Drawer 98 .i64 B c a n cap w) (m : Int) (h0 : 0 < m) (h1 : m ≤ 256) :
    Calls Try.prog 67 #[.pointer (some ⟨c, 0, none⟩), .int .i64 m] w (Drawn 98 .i64 B c a n cap (IntIn 0 (m - 1)) w) := by
  have HD := Lib.hid hd
  have h2 : ¬ m ≤ 0 := by omega
  clear hd
  go_enter Try.func67, Try.ntmps67
  go_wp2_with fail
  refine (byte_any HD.out).mono ?_
  rintro e w1 ⟨v, ⟨x, rfl, x0, x1⟩, rfl, hd1, hg1⟩
  clear HD
  have HD1 := Lib.hid hd1
  have HG1 := Lib.hid hg1
  clear hd1 hg1
  go_wp2
  go_ret
  have g1 := Int.emod_nonneg x (show m ≠ 0 by omega)
  have g2 := Int.emod_lt_of_pos x h0
  exact ⟨_, ⟨_, rfl, g1, by omega⟩, rfl, HD1.out, HG1.out⟩

set_option maxHeartbeats 1000000 in
theorem below_neg {B c : Nat} {a : Option Addr} {n cap : Nat} {w : World} (hd : Drawer 98 .i64 B c a n cap w) (m : Int) (h0 : m ≤ 0) :
    Calls Try.prog 67 #[.pointer (some ⟨c, 0, none⟩), .int .i64 m] w (Drawn 98 .i64 B c a n cap (IntIn 0 0) w) := by
  have HD := Lib.hid hd
  clear hd
  go_enter Try.func67, Try.ntmps67
  go_wp2
  go_ret
  exact ⟨_, ⟨_, rfl, by omega, by omega⟩, rfl, HD.out, World.grownBy.refl _ _⟩

set_option maxHeartbeats 2000000 in
theorem below_big {B c : Nat} {a : Option Addr} {n cap : Nat} {w : World} (hd : Drawer 98 .i64 B c a n cap w) (m : Int) (h0 : 256 < m) :
    Calls Try.prog 67 #[.pointer (some ⟨c, 0, none⟩), .int .i64 m] w (Drawn 98 .i64 B c a n cap (fun v => ∃ x : Int, v = .int .i64 x ∧ 0 ≤ x ∧ x ≤ m - 1 ∧ x ≤ 4294967295) w) := by
  have HD := Lib.hid hd
  have h2 : ¬ m ≤ 0 := by omega
  have h3 : ¬ m ≤ 256 := by omega
  have h4 : 0 < m := by omega
  clear hd
  go_enter Try.func67, Try.ntmps67
  go_wp2_with fail
  refine (byte_any HD.out).mono ?_
  rintro e w1 ⟨v, ⟨x, rfl, x0, x1⟩, rfl, hd1, hg1⟩
  clear HD
  have HD1 := Lib.hid hd1
  have HG1 := Lib.hid hg1
  clear hd1 hg1
  go_wp2_with fail
  refine (byte_any HD1.out).mono ?_
  rintro e w2 ⟨v, ⟨y, rfl, y0, y1⟩, rfl, hd2, hg2⟩
  have HD2 := Lib.hid hd2
  have HG2 := Lib.hid (grown_trans HG1.out hg2)
  clear hd2 hg2 HD1 HG1
  go_wp2_with fail
  refine (byte_any HD2.out).mono ?_
  rintro e w3 ⟨v, ⟨z, rfl, z0, z1⟩, rfl, hd3, hg3⟩
  have HD3 := Lib.hid hd3
  have HG3 := Lib.hid (grown_trans HG2.out hg3)
  clear hd3 hg3 HD2 HG2
  go_wp2_with fail
  refine (byte_any HD3.out).mono ?_
  rintro e w4 ⟨v, ⟨u, rfl, u0, u1⟩, rfl, hd4, hg4⟩
  have HD4 := Lib.hid hd4
  have HG4 := Lib.hid (grown_trans HG3.out hg4)
  clear hd4 hg4 HD3 HG3
  go_wp2
  go_ret
  have g1 := Int.emod_nonneg (x * 16777216 + y * 65536 + z * 256 + u) (show m ≠ 0 by omega)
  have g2 := Int.emod_lt_of_pos (x * 16777216 + y * 65536 + z * 256 + u) h4
  have g3 : (x * 16777216 + y * 65536 + z * 256 + u) % m ≤ x * 16777216 + y * 65536 + z * 256 + u := by
    by_cases hm : x * 16777216 + y * 65536 + z * 256 + u < m
    · rw [Int.emod_eq_of_lt (by omega) hm]; exact Int.le_refl _
    · omega
  exact ⟨_, ⟨_, rfl, g1, by omega, by omega⟩, rfl, HD4.out, HG4.out⟩

theorem Drawn.weaken {T : TypeId} {k : IntKind} {B c : Nat} {a : Option Addr} {n cap : Nat} {P Q : Value → Prop} {w w' : World} {e : Ending} (h : Drawn T k B c a n cap P w e w') (hPQ : ∀ v, P v → Q v) : Drawn T k B c a n cap Q w e w' := by
  obtain ⟨v, hp, r⟩ := h; exact ⟨v, hPQ v hp, r⟩

/-- A number below m, whatever m is. -/
theorem below_any {B c : Nat} {a : Option Addr} {n cap : Nat} {w : World} (hd : Drawer 98 .i64 B c a n cap w) (m : Int) :
    Calls Try.prog 67 #[.pointer (some ⟨c, 0, none⟩), .int .i64 m] w (Drawn 98 .i64 B c a n cap (fun v => ∃ x : Int, v = .int .i64 x ∧ 0 ≤ x ∧ (0 < m → x ≤ m - 1) ∧ x ≤ 4294967295) w) := by
  by_cases h0 : m ≤ 0
  · exact (below_neg hd m h0).mono fun _ _ h => h.weaken fun v ⟨x, hx, g0, g1⟩ => ⟨x, hx, g0, by omega, by omega⟩
  · by_cases h1 : m ≤ 256
    · exact (below_pos hd m (by omega) h1).mono fun _ _ h => h.weaken fun v ⟨x, hx, g0, g1⟩ => ⟨x, hx, g0, by omega, by omega⟩
    · exact (below_big hd m (by omega)).mono fun _ _ h => h.weaken fun v ⟨x, hx, g0, g1, g2⟩ => ⟨x, hx, g0, by omega, g2⟩

theorem below_in {B c : Nat} {a : Option Addr} {n cap : Nat} {w : World} (hd : Drawer 98 .i64 B c a n cap w) (m : Int) (h0 : 0 < m) :
    Calls Try.prog 67 #[.pointer (some ⟨c, 0, none⟩), .int .i64 m] w (Drawn 98 .i64 B c a n cap (IntIn 0 (m - 1)) w) :=
  (below_any hd m).mono fun _ _ h => h.weaken fun v ⟨x, hx, g0, g1, g2⟩ => ⟨x, hx, g0, g1 h0⟩

theorem below_int {B c : Nat} {a : Option Addr} {n cap : Nat} {w : World} (hd : Drawer 98 .i64 B c a n cap w) (m : Int) :
    Calls Try.prog 67 #[.pointer (some ⟨c, 0, none⟩), .int .i64 m] w (Drawn 98 .i64 B c a n cap AnyInt w) :=
  (below_any hd m).mono fun _ _ h => h.weaken fun v ⟨x, hx, g0, g1, g2⟩ => ⟨x, hx, w64_of (by omega) (by omega)⟩

set_option maxHeartbeats 1000000 in
theorem once_any {B c : Nat} {a : Option Addr} {n cap : Nat} {w : World} (hd : Drawer 98 .i64 B c a n cap w) (m : Int) :
    Calls Try.prog 53 #[.pointer (some ⟨c, 0, none⟩), .int .i64 m] w (Drawn 98 .i64 B c a n cap AnyBool w) := by
  have HD := Lib.hid hd
  clear hd
  go_enter Try.func53, Try.ntmps53
  go_wp2_with fail
  refine (below_int HD.out m).mono ?_
  rintro e w1 ⟨v, ⟨x, rfl, -⟩, rfl, hd1, hg1⟩
  clear HD
  have HD1 := Lib.hid hd1
  have HG1 := Lib.hid hg1
  clear hd1 hg1
  go_wp2
  go_ret
  exact ⟨_, ⟨_, rfl⟩, rfl, HD1.out, HG1.out⟩

set_option maxHeartbeats 1000000 in
theorem from_int {B c : Nat} {a : Option Addr} {n cap : Nat} {w : World} (hd : Drawer 98 .i64 B c a n cap w) (lo hi : Int) :
    Calls Try.prog 66 #[.pointer (some ⟨c, 0, none⟩), .int .i64 lo, .int .i64 hi] w (Drawn 98 .i64 B c a n cap AnyInt w) := by
  have HD := Lib.hid hd
  clear hd
  go_enter Try.func66, Try.ntmps66
  go_wp2_with fail
  refine (below_int HD.out _).mono ?_
  rintro e w1 ⟨v, ⟨x, rfl, -⟩, rfl, hd1, hg1⟩
  clear HD
  have HD1 := Lib.hid hd1
  have HG1 := Lib.hid hg1
  clear hd1 hg1
  go_wp2
  go_ret
  exact ⟨_, ⟨_, rfl, w64_wrap _⟩, rfl, HD1.out, HG1.out⟩
end Go.Proofs.Ytgcnfnmdemeaoaa
