/- The program's spots (commit f41a829): its functions answer as the model's. -/
import Derived.Test.YtdpahikbikiilaaS3
import Derived.Test.YtdpahikbikiilaaI1
import Derived.Test.YtdpahikbikiilaaHeld
import Derived.Deep.RegionHeld3
import Derived.Deep.DeepCutAuto
import Derived.Deep.QuietTactic
import Derived.BigQuiet
namespace Go.Proofs.Ytdpahikbikiilaa
open Go.RowKit

theorem quiet_below {B : Nat} {a w : World} (h : Below B a w) (n : Nat) : Below B a (w.drewN n) := h.trans ⟨rfl, rfl, rfl, Nat.le_refl _, fun _ _ => rfl⟩

/-- What the closure gives. -/
def turnedV (n up mask down : Int) : Int := bits .or .i64 (bits .and .i64 (wrap64 (n * 2 ^ min up.toNat 64)) mask) (n / 2 ^ min down.toNat 64)

theorem turned_any (n up mask down : Int) (bu bm bd : Nat) (hu : 0 ≤ up) (hd : 0 ≤ down) (w : World) (h1 : w.cell? ⟨bu, 0, none⟩ = some (.int .i64 up)) (h2 : w.cell? ⟨bm, 0, none⟩ = some (.int .i64 mask)) (h3 : w.cell? ⟨bd, 0, none⟩ = some (.int .i64 down)) :
    Calls Try.prog 106 #[.int .i64 n, .pointer (some ⟨bu, 0, none⟩), .pointer (some ⟨bm, 0, none⟩), .pointer (some ⟨bd, 0, none⟩)] w fun e w' => e = .returned (.int .i64 (turnedV n up mask down)) ∧ Below w.heap.size w w' := by
  go_enter Try.func106, Try.ntmps106
  go_wp2
  go_quiet (fail)
  go_wp2
  go_ret
  exact ⟨rfl, quiet_below (Below.refl _ _) _⟩

theorem new_below2 {W wx : World} {a b : Obj} (hb : Below ((W.alloc a).alloc b).heap.size ((W.alloc a).alloc b) wx) : wx.heap[W.heap.size]? = some a := blk_below (blk_alloc (blk_new W a)) hb (by simp; omega)

theorem new_drew_below2 {W wx : World} {a b : Obj} (hb : Below ((W.alloc a).alloc b).drew.heap.size ((W.alloc a).alloc b).drew wx) : wx.heap[W.heap.size]? = some a :=
  blk_below (w := ((W.alloc a).alloc b).drew) (blk_alloc (blk_new W a)) hb (by show W.heap.size < ((W.alloc a).alloc b).heap.size; simp; omega)

theorem old_below0 {W wx : World} {g : Nat} {o : Obj} (h : W.heap[g]? = some o) (hb : Below W.heap.size W wx) : wx.heap[g]? = some o := blk_below h hb (blk_lt h)

theorem old_below1 {W wx : World} {g : Nat} {o a : Obj} (h : W.heap[g]? = some o) (hb : Below (W.alloc a).heap.size (W.alloc a) wx) : wx.heap[g]? = some o := old_below0 (blk_alloc h) hb

theorem old_below2 {W wx : World} {g : Nat} {o a b : Obj} (h : W.heap[g]? = some o) (hb : Below ((W.alloc a).alloc b).heap.size ((W.alloc a).alloc b) wx) : wx.heap[g]? = some o := old_below0 (blk_alloc (blk_alloc h)) hb

/-- What the walk asks of a block of one cell. -/
theorem blk_one {w : World} {b : Nat} {u0 : Value} {t : TypeId} (h : w.heap[b]? = some (.cells #[u0] t (0, 0))) : w.cell? ⟨b, 0, none⟩ = some u0 ∧ w.frozen? ⟨b, 0, none⟩ = false ∧ b < w.heap.size :=
  ⟨by rw [blk_cell h]; rfl, blk_free h, blk_lt h⟩

theorem blk_set1 {w : World} {g : Nat} {u0 v0 : Value} {t : TypeId} (h : w.heap[g]? = some (.cells #[u0] t (0, 0))) : (w.setCell ⟨g, 0, none⟩ v0).heap[g]? = some (.cells #[v0] t (0, 0)) := blk_set h

theorem blk_at_new {w : World} {o : Obj} {g : Nat} (h : g = w.heap.size) : (w.alloc o).heap[g]? = some o := by rw [h]; exact blk_new w o

/-- A closure that turns numbers round. -/
def Turner (s b up : Int) (w : World) (e : Ending) (w' : World) : Prop := ∃ f g h, e = .returned (.func (.func 106) #[] #[.pointer (some ⟨f, 0, none⟩), .pointer (some ⟨g, 0, none⟩), .pointer (some ⟨h, 0, none⟩)]) ∧ w'.heap[f]? = some (.cells #[.int .i64 up] 2 (0, 0)) ∧ w'.heap[g]? = some (.cells #[.int .i64 (2 * s - 1)] 2 (0, 0)) ∧ w'.heap[h]? = some (.cells #[.int .i64 (b - up)] 2 (0, 0)) ∧ Below w.heap.size w w'

/-- Two variables of the call's own. -/
def Two (T : TypeId) (m d : Int) (K : World → Prop) (v1 v2 : Value) (wx : World) : Prop := ∃ g h, v1 = .pointer (some ⟨g, 0, none⟩) ∧ v2 = .pointer (some ⟨h, 0, none⟩) ∧ wx.heap[g]? = some (.cells #[.int .i64 m] T (0, 0)) ∧ wx.heap[h]? = some (.cells #[.int .i64 d] T (0, 0)) ∧ K wx

set_option maxHeartbeats 1000000 in
theorem turner_any (s t up b : Int) (h1 : 1 ≤ s) (h2 : s ≤ 8) (hB : (s = 1 ∧ b = 1) ∨ (s = 2 ∧ b = 2) ∨ (s = 4 ∧ b = 3) ∨ (s = 8 ∧ b = 4)) (hu : 0 ≤ up) (hu1 : up ≤ 4) (w : World) :
    Calls Try.prog 104 #[.agg #[.int .i64 s, .int .i64 t], .int .i64 up] w (Turner s b up w) := by
  have HB := Lib.hid hB
  clear hB
  have e1 : IntKind.i64.wrap (2 * s - 1) = 2 * s - 1 := by rw [IntKind.wrap_i64]; omega
  have e2 : IntKind.i64.wrap (b - up) = b - up := by have := HB.out; rw [IntKind.wrap_i64]; omega
  have HQ := Lib.hid (((Held.start w).new (.cells #[.int .i64 s, .int .i64 t] 38)).new (.cells #[.int .i64 up] 2))
  simp only [World.size_alloc] at HQ
  have hmf : ∀ (fn : Fn) (first cap : Array Value) (w : World), (Instr.makeFunc fn first cap).run Try.prog w = .ok (.func fn first cap) w := fun _ _ _ _ => rfl
  go_enter Try.func104, Try.ntmps104
  go_upto_region 1 with fail
  go_cut [5, 6] (fun s1 s2 wx => Two 2 (2 * s - 1) (b - up) (fun w' => Held w.heap.size (w.heap.size + 1 + 1) ([(w.heap.size + 1, .cells #[.int .i64 up] 2), (w.heap.size, .cells #[.int .i64 s, .int .i64 t] 38)]) w w') s1 s2 wx)
  case first =>
    as_aux_lemma =>
      have hF : ∀ {w' : World}, Held w.heap.size (w.heap.size + 1 + 1) ([(w.heap.size + 1, .cells #[.int .i64 up] 2), (w.heap.size, .cells #[.int .i64 s, .int .i64 t] 38)]) w w' → w'.cell? ⟨w.heap.size, 0, none⟩ = some (.int .i64 s) ∧ w'.cell? ⟨w.heap.size, 1, none⟩ = some (.int .i64 t) ∧ w'.cell? ⟨w.heap.size + 1, 0, none⟩ = some (.int .i64 up) ∧ Held w.heap.size (w.heap.size + 1 + 1) ([(w.heap.size + 1, .cells #[.int .i64 up] 2), (w.heap.size, .cells #[.int .i64 s, .int .i64 t] 38)]) w w' := fun h => ⟨(blk_two h.tl.hd).1, (blk_two h.tl.hd).2.1, by rw [blk_cell h.hd]; rfl, h⟩
      go_region_held3 (fun w' => w'.cell? ⟨w.heap.size, 0, none⟩ = some (.int .i64 s) ∧ w'.cell? ⟨w.heap.size, 1, none⟩ = some (.int .i64 t) ∧ w'.cell? ⟨w.heap.size + 1, 0, none⟩ = some (.int .i64 up) ∧ Held w.heap.size (w.heap.size + 1 + 1) ([(w.heap.size + 1, .cells #[.int .i64 up] 2), (w.heap.size, .cells #[.int .i64 s, .int .i64 t] 38)]) w w')
        (with_reducible refine hF ?_; repeat' (first | with_reducible exact HQ.out | with_reducible exact htc | with_reducible refine Held.drew ?_ | with_reducible refine Held.alloc ?_ _ | (with_reducible refine Held.set ?_ ?_ _ _; rotate_left; (first | omega | (simp; omega) | (simp; done)))))
        ((first
          | (go_at_call 94; (try go_split_ands); (with_reducible refine (slots_any _ _ h1 h2 _).mono ?_); rintro e wx ⟨rfl, hbx⟩; have htc := Held.step (by assumption) hbx; have hsw := Held.size htc; (try (have hA := new_drew_below hbx; (try simp only [World.size_alloc] at hA); obtain ⟨x0, f0, l0⟩ := blk_one hA)); (try (have hC := new_drew_below2 hbx; (try simp only [World.size_alloc] at hC); obtain ⟨x1, f1, l1⟩ := blk_one hC)))
          | (go_at_call 101; (try go_split_ands); (with_reducible refine (bits_go _ _ _ HB.out _).mono ?_); rintro e wx ⟨rfl, hbx⟩; have htc := Held.step (by assumption) hbx; have hsw := Held.size htc; (try (first | (have hA := old_below0 hA hbx; obtain ⟨x0, f0, l0⟩ := blk_one hA) | (have hA := old_below1 hA hbx; obtain ⟨x0, f0, l0⟩ := blk_one hA) | (have hA := old_below2 hA hbx; obtain ⟨x0, f0, l0⟩ := blk_one hA))); (try (first | (have hC := old_below0 hC hbx; obtain ⟨x1, f1, l1⟩ := blk_one hC) | (have hC := old_below1 hC hbx; obtain ⟨x1, f1, l1⟩ := blk_one hC) | (have hC := old_below2 hC hbx; obtain ⟨x1, f1, l1⟩ := blk_one hC))); (try (have hD := new_below hbx; (try simp only [World.size_alloc] at hD); obtain ⟨x2, f2, l2⟩ := blk_one hD)); (try (have hE := new_below2 hbx; (try simp only [World.size_alloc] at hE); obtain ⟨x3, f3, l3⟩ := blk_one hE)))))
      all_goals
        go_wp2_with fail
        go_meet
        (try go_split_ands)
        refine ⟨_, _, rfl, rfl, ?_, ?_, by assumption⟩
        all_goals
          repeat' (first | assumption | (with_reducible refine blk_at_new (by first | rfl | (simp; done))) | (with_reducible apply blk_set1) | (with_reducible refine blk_alloc ?_) | ((with_reducible refine blk_other ?_ ?_); rotate_left; focus (first | (simp; done) | (simp; omega))))
  case rest =>
    obtain ⟨g, h, rfl, rfl, hg, hh, hk⟩ := hcut
    go_wp2
    go_ret
    exact ⟨_, _, _, rfl, hk.hd, hg, hh, hk.below⟩

theorem lift_go (s t b : Int) (hB : (s = 1 ∧ b = 1) ∨ (s = 2 ∧ b = 2) ∨ (s = 4 ∧ b = 3) ∨ (s = 8 ∧ b = 4)) (w : World) :
    Calls Try.prog 105 #[.agg #[.int .i64 s, .int .i64 t]] w fun e w' => e = .returned (.int .i64 (b / 2)) ∧ Below w.heap.size w w' := by
  have HB := Lib.hid hB
  have e1 : wrap64 (b.tdiv 2) = b / 2 := by rcases hB with ⟨-, rfl⟩ | ⟨-, rfl⟩ | ⟨-, rfl⟩ | ⟨-, rfl⟩ <;> decide +kernel
  clear hB
  go_enter Try.func105, Try.ntmps105
  go_wp2_with (go_at_call 101; (with_reducible refine (bits_go s t b HB.out _).mono ?_); rintro e w1 ⟨rfl, hb⟩)
  go_ret
  exact ⟨ret_int e1, ((Below.refl _ _).alloc (Nat.le_refl _) _).trans (hb.mono (by simp))⟩

theorem hasSlot_yes (s t n : Int) (h : okJ s t n) (w : World) :
    Calls Try.prog 103 #[.agg #[.int .i64 s, .int .i64 t], .int .i64 n] w fun e w' => e = .returned (.bool true) ∧ Below w.heap.size w w' := by
  obtain ⟨hp, j0, j1⟩ := h
  obtain ⟨g1, g2⟩ := okP_le hp
  have j2 : n < 2 * s := by omega
  have H := Lib.hid hp
  clear hp
  go_enter Try.func103, Try.ntmps103
  go_wp2_with (first | (go_at_call 69; refine (right_yes _ _ H.out _).mono ?_; rintro e w1 ⟨rfl, hb⟩; obtain ⟨hc, hf⟩ := bcell hb) | (go_at_call 94; (with_reducible refine (slots_any _ _ g1 g2 _).mono ?_); rintro e w2 ⟨rfl, hb2⟩))
  go_ret
  exact ⟨rfl, (((Below.refl _ _).alloc (Nat.le_refl _) _).trans (hb.mono (by simp))).trans (hb2.mono (by have := hb.size; simp at this; omega))⟩

theorem hasSlot_no (s t n : Int) (h : ¬ okJ s t n) (w : World) :
    Calls Try.prog 103 #[.agg #[.int .i64 s, .int .i64 t], .int .i64 n] w fun e w' => e = .returned (.bool false) ∧ Below w.heap.size w w' := by
  by_cases hp : okP s t
  · obtain ⟨g1, g2⟩ := okP_le hp
    have H := Lib.hid hp
    by_cases j0 : 0 ≤ n
    · have j2 : ¬ n < 2 * s := fun hx => h ⟨hp, j0, by omega⟩
      clear hp h
      go_enter Try.func103, Try.ntmps103
      go_wp2_with (first | (go_at_call 69; refine (right_yes _ _ H.out _).mono ?_; rintro e w1 ⟨rfl, hb⟩; obtain ⟨hc, hf⟩ := bcell hb) | (go_at_call 94; (with_reducible refine (slots_any _ _ g1 g2 _).mono ?_); rintro e w2 ⟨rfl, hb2⟩))
      go_ret
      exact ⟨by simp; omega, (((Below.refl _ _).alloc (Nat.le_refl _) _).trans (hb.mono (by simp))).trans (hb2.mono (by have := hb.size; simp at this; omega))⟩
    · clear hp h
      go_enter Try.func103, Try.ntmps103
      go_wp2_with (go_at_call 69; refine (right_yes _ _ H.out _).mono ?_; rintro e w1 ⟨rfl, hb⟩; obtain ⟨hc, hf⟩ := bcell hb)
      go_ret
      exact ⟨rfl, ((Below.refl _ _).alloc (Nat.le_refl _) _).trans (hb.mono (by simp))⟩
  · have H := Lib.hid hp
    clear hp h
    go_enter Try.func103, Try.ntmps103
    go_wp2_with (go_at_call 69; refine (right_no _ _ H.out _).mono ?_; rintro e w1 ⟨rfl, hb⟩; obtain ⟨hc, hf⟩ := bcell hb)
    go_ret
    exact ⟨rfl, ((Below.refl _ _).alloc (Nat.le_refl _) _).trans (hb.mono (by simp))⟩

theorem one_cell {w : World} {b : Nat} {u : Value} {t : TypeId} (h : w.heap[b]? = some (.cells #[u] t (0, 0))) : w.cell? ⟨b, 0, none⟩ = some u := (blk_one h).1

set_option maxHeartbeats 1000000 in
theorem spot_go (s t j b : Int) (hB : (s = 1 ∧ b = 1) ∨ (s = 2 ∧ b = 2) ∨ (s = 4 ∧ b = 3) ∨ (s = 8 ∧ b = 4)) (h : okJ s t j) (w : World) :
    Calls Try.prog 102 #[.agg #[.int .i64 s, .int .i64 t], .int .i64 j] w fun e w' => e = .returned (.int .i64 (turnedV j (b / 2) (2 * s - 1) (b - (b / 2)))) ∧ Below w.heap.size w w' := by
  obtain ⟨g1, g2⟩ := okP_le h.1
  have HB := Lib.hid hB
  have H := Lib.hid h
  have u0 : 0 ≤ b / 2 := by omega
  have u1 : b / 2 ≤ 4 := by omega
  have u2 : 0 ≤ b - (b / 2) := by omega
  have e1 : IntKind.i64.wrap (b - b / 2) = b - b / 2 := by rw [IntKind.wrap_i64]; omega
  have HQ := Lib.hid ((Held.start w).new (.cells #[.int .i64 s, .int .i64 t] 38))
  clear hB h
  go_enter Try.func102, Try.ntmps102
  go_wp2_with (go_at_call 103; refine (hasSlot_yes _ _ _ H.out _).mono ?_; rintro e w1 ⟨rfl, hb⟩; have HR := Lib.hid (HQ.out.step hb); clear HQ hb)
  have hF : ∀ {w' : World}, Held w.heap.size (w.heap.size + 1) [(w.heap.size, .cells #[.int .i64 s, .int .i64 t] 38)] w w' → w'.cell? ⟨w.heap.size, 0, none⟩ = some (.int .i64 s) ∧ w'.cell? ⟨w.heap.size, 1, none⟩ = some (.int .i64 t) ∧ Held w.heap.size (w.heap.size + 1) [(w.heap.size, .cells #[.int .i64 s, .int .i64 t] 38)] w w' := fun h => ⟨(blk_two h.hd).1, (blk_two h.hd).2.1, h⟩
  go_region_held3 (fun w' => w'.cell? ⟨w.heap.size, 0, none⟩ = some (.int .i64 s) ∧ w'.cell? ⟨w.heap.size, 1, none⟩ = some (.int .i64 t) ∧ Held w.heap.size (w.heap.size + 1) [(w.heap.size, .cells #[.int .i64 s, .int .i64 t] 38)] w w')
    (with_reducible refine hF ?_; repeat' (first | with_reducible exact HR.out | with_reducible exact htc | with_reducible refine Held.drew ?_))
    ((first
      | (go_at_call 105; (try go_split_ands); (with_reducible refine (lift_go _ _ _ HB.out _).mono ?_); rintro e wx ⟨rfl, hbx⟩; have htc := Held.step (by assumption) hbx)
      | (go_at_call 104; (try go_split_ands); (with_reducible refine (turner_any _ _ _ _ g1 g2 HB.out u0 u1 _).mono ?_); rintro e wx ⟨f, g, h, rfl, xf, xg, xh, hbx⟩; have htc := Held.step (by assumption) hbx)
      | (go_at_call 106; (try go_split_ands); (with_reducible refine (turned_any _ _ _ _ _ _ _ u0 u2 _ (one_cell xf) (one_cell xg) (one_cell xh)).mono ?_); rintro e wx ⟨rfl, hbx⟩; have htc := Held.step (by assumption) hbx)))
  all_goals
    go_wp2
    refine bodyPost_ret (v := .int .i64 (turnedV j (b / 2) (2 * s - 1) (b - (b / 2)))) ?ret rfl ⟨rfl, htc.below⟩
    case ret => simp [results, Try.results102, go_sem]

theorem spot_yes (s t j : Int) (h : okJ s t j) (w : World) :
    Calls Try.prog 102 #[.agg #[.int .i64 s, .int .i64 t], .int .i64 j] w fun e w' => e = .returned (.int .i64 (spotD s j)) ∧ Below w.heap.size w w' := by
  have h0 := h
  obtain ⟨hp, j0, j1⟩ := h0
  rcases hp.1 with rfl | rfl | rfl | rfl
  · have hd : spotD 1 j = turnedV j (1 / 2) (2 * 1 - 1) (1 - (1 / 2)) := by
      have hj : j = 0 ∨ j = 1 := by omega
      rcases hj with rfl | rfl <;> decide +kernel
    rw [hd]; exact spot_go 1 t j 1 (by decide) h w
  · have hd : spotD 2 j = turnedV j (2 / 2) (2 * 2 - 1) (2 - (2 / 2)) := by
      have hj : j = 0 ∨ j = 1 ∨ j = 2 ∨ j = 3 := by omega
      rcases hj with rfl | rfl | rfl | rfl <;> decide +kernel
    rw [hd]; exact spot_go 2 t j 2 (by decide) h w
  · have hd : spotD 4 j = turnedV j (3 / 2) (2 * 4 - 1) (3 - (3 / 2)) := by
      have hj : j = 0 ∨ j = 1 ∨ j = 2 ∨ j = 3 ∨ j = 4 ∨ j = 5 ∨ j = 6 ∨ j = 7 := by omega
      rcases hj with rfl | rfl | rfl | rfl | rfl | rfl | rfl | rfl <;> decide +kernel
    rw [hd]; exact spot_go 4 t j 3 (by decide) h w
  · have hd : spotD 8 j = turnedV j (4 / 2) (2 * 8 - 1) (4 - (4 / 2)) := by
      have hj : j = 0 ∨ j = 1 ∨ j = 2 ∨ j = 3 ∨ j = 4 ∨ j = 5 ∨ j = 6 ∨ j = 7 ∨ j = 8 ∨ j = 9 ∨ j = 10 ∨ j = 11 ∨ j = 12 ∨ j = 13 ∨ j = 14 ∨ j = 15 := by omega
      rcases hj with rfl | rfl | rfl | rfl | rfl | rfl | rfl | rfl | rfl | rfl | rfl | rfl | rfl | rfl | rfl | rfl <;> decide +kernel
    rw [hd]; exact spot_go 8 t j 4 (by decide) h w

theorem spot_no (s t j : Int) (h : ¬ okJ s t j) (w : World) :
    Calls Try.prog 102 #[.agg #[.int .i64 s, .int .i64 t], .int .i64 j] w fun e w' => e = .returned (.int .i64 (-1)) ∧ Below w.heap.size w w' := by
  have H := Lib.hid h
  clear h
  go_enter Try.func102, Try.ntmps102
  go_wp2_with (go_at_call 103; refine (hasSlot_no _ _ _ H.out _).mono ?_; rintro e w1 ⟨rfl, hb⟩)
  go_ret
  exact ⟨rfl, ((Below.refl _ _).alloc (Nat.le_refl _) _).trans (hb.mono (by simp))⟩

theorem iSpot (s t j : Int) (w : World) :
    Calls Try.prog 102 #[.agg #[.int .i64 s, .int .i64 t], .int .i64 j] w fun e w' => e = .returned (.int .i64 (spotV s t j)) ∧ Below w.heap.size w w' := by
  by_cases h : okJ s t j
  · rw [show spotV s t j = spotD s j from if_pos h]; exact spot_yes s t j h w
  · rw [show spotV s t j = -1 from if_neg h]; exact spot_no s t j h w

end Go.Proofs.Ytdpahikbikiilaa
