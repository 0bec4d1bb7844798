/- The program's permutation (commit b753dee): it answers as the model. -/
import Derived.Test.YtllepakgpiddeaaSh
import Derived.Test.YtllepakgpiddeaaS7b
import Derived.Test.YtllepakgpiddeaaI6
import Derived.Sort.OwnSortedInts
namespace Go.Proofs.Ytllepakgpiddeaa
open Go.RowKit Go.Sort

/-- The library's sort of a slice of the call's own. -/
def srt (L : List Int) : List Int := L.mergeSort fun x y => decide (x ≤ y)

theorem srt_len (L : List Int) : (srt L).length = L.length := List.length_mergeSort L

theorem iSort (base : Nat) (v : Value) (L : List Int) (w : World) (h : OwnI base v L w) (hn : L.length ≤ 8388608) :
    Calls Try.prog 30 #[v] w fun e w' => e = .returned (.tuple #[]) ∧ OwnI base v (srt L) w' ∧ w.grownBy w' v.ownBlock := by
  rcases h.2 with ⟨rfl, h0⟩ | ⟨g, cap, cur, rfl, hb, hg, hn1, hc, hz, ht⟩
  · have e : L = [] := List.length_eq_zero_iff.1 h0
    subst e
    refine (AnyM.slices_Sort_int_none Try.sortI none 0 w).mono ?_
    rintro e w' ⟨rfl, rfl⟩
    exact ⟨rfl, by simpa [srt] using h, World.grownBy.refl _ _⟩
  · refine (AnyM.slices_Sort_int Try.sortI g 0 cap L w (holds_of_blockI hg (by rw [Nat.mul_one] at ht; exact ht)) (blk_lt hg) (by omega)).mono ?_
    rintro e w' ⟨rfl, n, os, rfl⟩
    refine ⟨rfl, ?_, grownBy_sortedI _⟩
    have := ownsRow_sortedI (w := w) (base := base) (cap := cap) (n := n) (os := os) (ss := L) (ts := srt L) (srt_len L) hb hg hn1 hc hz
    unfold OwnI
    rw [srt_len]
    exact this

theorem allEq_is (xs ys : List Int) : Lib.allEq (fun x y => x == y) xs ys = decide (xs = ys) := by
  induction xs generalizing ys with
  | nil => cases ys <;> simp [Lib.allEq]
  | cons x xs ih => cases ys with
    | nil => simp [Lib.allEq]
    | cons y ys => rw [Lib.allEq, ih]; by_cases h : x = y <;> by_cases h2 : xs = ys <;> simp [h, h2]

theorem iEqual (a b : Nat) (o1 o2 n c m d : Nat) (xs ys : List Int) (w : World) (ha : IntsW (some ⟨a, o1, none⟩, n, xs) w) (hb : IntsW (some ⟨b, o2, none⟩, m, ys) w) (hn : n ≤ 8388608) (hm : m ≤ 8388608) :
    Calls Try.prog 31 #[.slice (some ⟨a, o1, none⟩) n c, .slice (some ⟨b, o2, none⟩) m d] w fun e w' => e = .returned (.bool (decide (xs = ys))) ∧ Below w.heap.size w w' := by
  have lx : xs.length = n := ha.1
  have ly : ys.length = m := hb.1
  refine (AnyE.slices_Equal Try.equalI (Value.int .i64) (fun x y => x == y) (NeqAt.int _ _ _) a o1 n c b o2 m d xs ys w (by omega) (by omega) (by omega) (by omega) (fun j hj => ?_) (fun j hj => ?_)).mono ?_
  · rw [getElem!_pos xs j hj]; exact IntsW.cell ha (List.getElem?_eq_getElem hj)
  · rw [getElem!_pos ys j hj]; exact IntsW.cell hb (List.getElem?_eq_getElem hj)
  · rintro e w' ⟨rfl, q, rfl⟩
    exact ⟨by rw [List.take_of_length_le (by omega), List.take_of_length_le (by omega), allEq_is], quiet_below (Below.refl _ _) q⟩

theorem iGrow (k : Nat) (h1 : 1 ≤ k) (h8 : k ≤ 8388608) (w : World) :
    Calls Try.prog 46 #[.slice none 0 0, .int .i64 (k : Int)] w (GivesI [] w) := by
  obtain ⟨i0, hi0, hz0, hz1, hz2⟩ := info_parts (P := Try.prog) (e := 2) (z := .int .i64 0) (size := 1) (bytes := 8) (by kernel_rfl)
  refine (Any8.slices_Grow_grow Try.growI i0 (.int .i64 0) hi0 hz0 (by omega) none 0 0 k [] w (Nat.le_refl _) (by omega) (by rw [hz2]; omega) (by omega) (by simp) (fun _ => rfl) (fun a ha => by cases ha)).mono ?_
  rintro e w' ⟨rfl, rfl⟩
  refine ⟨_, rfl, ⟨rfl, Or.inr ⟨w.heap.size, _, _, rfl, Nat.le_refl _, blk_new w.drew _, Nat.zero_le _, grownCap_le_maxLen _ _ _ _ (by unfold maxLen; omega), ?_, by simp [vals]⟩⟩, (Below.refl _ _).drew.alloc (Nat.le_refl _) _⟩
  have := grownCap_ge w (0 + k) 0 (Try.growI_ren.t 25)
  simp [size_zeroCells, Value.cells]
  rw [Nat.zero_add] at this
  omega

theorem flat_step (LL : List (List Int)) (k : Nat) (zs : List Int) (h : LL[k]? = some zs) : (LL.take (k + 1)).flatten = (LL.take k).flatten ++ zs := by
  rw [List.take_add_one, h, List.flatten_append]
  simp

/-- The slices of a block, each of them a list. -/
def Rows (B : Nat) (LL : List (List Int)) (w : World) : Prop := ∀ k zs, LL[k]? = some zs → ∃ a n c, w.cell? ⟨B, k, none⟩ = some (.slice a n c) ∧ IntsW (a, n, zs) w ∧ n ≤ 1048576

set_option maxHeartbeats 2000000 in
theorem iConcat (B g N : Nat) (LL : List (List Int)) (w : World) (hl : LL.length = N) (hg : B < w.heap.size) (hR : ∀ w', Below w.heap.size w w' → Rows B LL w') (h1 : 1 ≤ LL.flatten.length) (h8 : LL.flatten.length ≤ 4194304) (hN : N ≤ 8) :
    Calls Try.prog 29 #[.slice (some ⟨B, 0, none⟩) N g] w (GivesI LL.flatten w) := by
  have HR := Lib.hid hR
  have hle : ∀ k, (LL.take k).flatten.length ≤ LL.flatten.length := fun k => by
    have e : LL.flatten.length = (LL.take k).flatten.length + (LL.drop k).flatten.length := by rw [← List.length_append, ← List.flatten_append, List.take_append_drop]
    omega
  have HLE := Lib.hid hle
  have HL := Lib.hid hl
  clear hR hle
  obtain ⟨F, hF⟩ : ∃ F, F = LL.flatten.length := ⟨_, rfl⟩
  rw [← hF] at h1 h8 HLE
  have HF := Lib.hid hF
  clear hF hl
  go_enter Try.func29, Try.ntmps29
  go_wp2
  go_loop [3, 11] (fun sz i => ∃ k z : Nat, k ≤ N ∧ i = .int .i64 k ∧ sz = .int .i64 z ∧ Hid (z = (LL.take k).flatten.length)) (fun _ i => N - (intOf i).toNat)
  case atStart => exact ⟨0, 0, Nat.zero_le _, rfl, rfl, Lib.hid (by simp)⟩
  case round =>
    obtain ⟨k, z, hk, rfl, rfl, HZ⟩ := hrel
    have hz8 : z ≤ F := by rw [HZ.out]; exact HLE.out k
    by_cases hlt : k < N
    · obtain ⟨zs, hzs⟩ : ∃ zs, LL[k]? = some zs := ⟨_, List.getElem?_eq_getElem (by rw [HL.out]; exact hlt)⟩
      obtain ⟨a, n, c, hc, hi, hn⟩ := HR.out w (Below.refl _ _) k zs hzs
      have hzn : z + n ≤ F := by
        have := HLE.out (k + 1)
        rw [flat_step LL k zs hzs, List.length_append, ← HZ.out, (show zs.length = n from hi.1)] at this
        exact this
      have HS : Hid (z + n = (LL.take (k + 1)).flatten.length) := Lib.hid (by rw [flat_step LL k zs hzs, List.length_append, (show zs.length = n from hi.1)]; have := HZ.out; omega)
      clear hzs hi
      go_wp2
      go_round
      case rel => exact ⟨k + 1, z + n, by omega, by go_num, by go_num, HS⟩
      case measure => simp [intOf]; omega
    · have e : N = k := by omega
      subst e
      have ez : F = z := by rw [HZ.out, HF.out, List.take_of_length_le (by rw [HL.out]; exact Nat.le_refl _)]
      subst ez
      clear HZ
      go_wp2_with (go_at_call 46; (with_reducible refine (iGrow _ h1 (by omega) _).mono ?_); rintro e w1 ⟨v1, rfl, ho, hb⟩; have HO := Lib.hid ho; have HB := Lib.hid hb; clear ho hb)
      go_loopw [6, 27] (fun v i wr => ∃ k : Nat, k ≤ N ∧ i = .int .i64 k ∧ OwnI w.heap.size v (LL.take k).flatten wr ∧ Below w.heap.size w wr) (fun _ i _ => N - (intOf i).toNat)
      case atStart => exact ⟨0, Nat.zero_le _, rfl, by simpa using HO.out, HB.out⟩
      case round =>
        obtain ⟨k, hk, rfl, ho, hb⟩ := hrel
        have HO := Lib.hid ho
        have HB := Lib.hid hb
        clear ho hb
        by_cases hlt : k < N
        · obtain ⟨zs, hzs⟩ : ∃ zs, LL[k]? = some zs := ⟨_, List.getElem?_eq_getElem (by rw [HL.out]; exact hlt)⟩
          obtain ⟨a, n, c, hc, hi, hn⟩ := HR.out wr HB.out k zs hzs
          have HI := Lib.hid hi
          have HS := Lib.hid (flat_step LL k zs hzs)
          have hlk := HLE.out k
          clear hzs hi
          go_wp2_with (refine wpList_app (by rfl) _ _ (by rfl) w.heap.size _ (LL.take k).flatten zs a n c (by rfl) (by rfl) HO.out HI.out (by omega) HB.out.size ?_; intro v' w' ho hg hv; have HO2 := Lib.hid ho; have HB2 := Lib.hid (Below.grown HB.out hg HB.out.size (fun j hj => (HO.out.lt j hj).1)); clear ho hg hv)
          go_roundw
          case rel => exact ⟨k + 1, by omega, by go_num, by rw [HS.out]; exact HO2.out, HB2.out⟩
          case measure => simp [intOf]; omega
        · have e : N = k := by omega
          subst e
          go_wp2
          go_ret
          exact ⟨_, rfl, by have := HO.out; rwa [List.take_of_length_le (by rw [HL.out]; exact Nat.le_refl _)] at this, HB.out⟩

theorem nums_snoc (n : Nat) : nums (n + 1) = nums n ++ [(n : Int)] := by simp [nums, List.range_succ]

theorem perm_nums (n : Nat) (L : List Int) (hl : L.length = n) (hc : ∀ j, j < n → 1 ≤ L.count ((j : Nat) : Int)) : L.Perm (nums n) := by
  induction n generalizing L with
  | zero => rw [List.length_eq_zero_iff.1 hl]; exact List.Perm.refl _
  | succ n ih =>
    have hm : ((n : Nat) : Int) ∈ L := List.count_pos_iff.1 (hc n (Nat.lt_succ_self _))
    have h1 : (L.erase (n : Int)).length = n := by rw [List.length_erase_of_mem hm, hl]; rfl
    have h2 := ih (L.erase (n : Int)) h1 (fun j hj => by
      rw [List.count_erase_of_ne (by omega)]
      exact hc j (by omega))
    rw [nums_snoc]
    exact (List.perm_cons_erase hm).trans ((List.Perm.cons _ h2).trans (List.perm_append_singleton _ _).symm)

theorem nums_count {n j : Nat} (h : j < n) : (nums n).count (j : Int) = 1 := by
  induction n with
  | zero => omega
  | succ n ih =>
    rw [nums_snoc, List.count_append]
    by_cases e : j = n
    · subst e
      have h0 : (nums j).count (j : Int) = 0 := List.count_eq_zero.2 (fun hm => by
        obtain ⟨i, hi, e⟩ := List.mem_map.1 hm
        have := List.mem_range.1 hi
        have : (i : Int) = (j : Int) := e
        omega)
      simp [h0]
    · rw [ih (by omega)]
      simp [List.count_cons]
      omega

theorem nums_sorted (n : Nat) : (nums n).Pairwise fun x y => decide (x ≤ y) = true := by
  induction n with
  | zero => simp [nums]
  | succ n ih =>
    rw [nums_snoc, List.pairwise_append]
    refine ⟨ih, by simp, fun x hx y hy => ?_⟩
    obtain ⟨i, hi, rfl⟩ := List.mem_map.1 hx
    have := List.mem_range.1 hi
    rw [List.mem_singleton.1 hy]
    simp
    omega

theorem srt_nums (L : List Int) (n : Nat) (hl : L.length = n) : srt L = nums n ↔ ∀ j, j < n → L.count ((j : Nat) : Int) = 1 := by
  constructor
  · intro h j hj
    rw [← (List.mergeSort_perm L _).count_eq, show L.mergeSort _ = nums n from h]
    exact nums_count hj
  · intro h
    have hp : (srt L).Perm (nums n) := (List.mergeSort_perm L _).trans (perm_nums n L hl (fun j hj => by rw [h j hj]; exact Nat.le_refl _))
    refine List.Perm.eq_of_pairwise (le := fun x y => decide (x ≤ y) = true) (fun a b _ _ h1 h2 => ?_) (List.pairwise_mergeSort (fun a b c h1 h2 => ?_) (fun a b => ?_) L) (nums_sorted n) hp
    · simp at h1 h2; omega
    · simp at h1 h2 ⊢; omega
    · simp; omega

set_option maxRecDepth 100000 in
set_option maxHeartbeats 4000000 in
theorem iPermOk_go (s t : Int) (a b : Option Addr) (n m ca cb : Nat) (xs ys : List Int) (w : World) (ha : IntsW (a, n, xs) w) (hb : IntsW (b, m, ys) w) (hp : okP s t) (hl : (n : Int) + m = s) :
    Calls Try.prog 17 #[.agg #[.int .i64 s, .int .i64 t], .slice a n ca, .slice b m cb] w fun e w' => e = .returned (.bool (decide (permL (xs ++ ys) s))) ∧ Below w.heap.size w w' := by
  obtain ⟨g1, g2⟩ := okP_le hp
  have HP := Lib.hid hp
  have HQ := Lib.hid (((((Hold.start w).addI ha).addI hb)).new (.cells #[.int .i64 s, .int .i64 t] 29))
  have lx : xs.length = n := ha.1
  have ly : ys.length = m := hb.1
  clear ha hb hp
  have e1 : wrap64 ((n : Int) + m) = s := by unfold wrap64; omega
  have e2 : (s != s) = false := by simp
  have hlen : ([xs, ys].flatten).length = s.toNat := by simp; omega
  have HNU : Hid (∀ w, Calls Try.prog 32 #[.agg #[.int .i64 s, .int .i64 t]] w fun e w' => e = .returned (.slice (some ⟨w.heap.size + 1, 0, none⟩) s.toNat s.toNat) ∧ w'.heap[w.heap.size + 1]? = some (.cells (vals (nums s.toNat)).toArray 2 (0, 0)) ∧ Below w.heap.size w w') := Lib.hid (fun w => by
    have h := iNumbers s.toNat t (by omega) w
    rwa [show ((s.toNat : Nat) : Int) = s by omega] at h)
  have HFIN : Hid (decide (srt (xs ++ ys) = nums s.toNat) = decide (permL (xs ++ ys) s)) := Lib.hid (decide_eq_decide.mpr (srt_nums _ _ (by simpa using hlen)))
  have HLEN := Lib.hid hlen
  have HLX := Lib.hid lx
  have HLY := Lib.hid ly
  clear lx ly hlen
  go_enter Try.func17, Try.ntmps17
  go_wp2_with (go_at_call 28; (with_reducible refine (right_yes _ _ HP.out _).mono ?_); rintro e w1 ⟨rfl, hb⟩; have HQ1 := Lib.hid (HQ.out.step hb); clear hb HQ; obtain ⟨q0, q1, -, -⟩ := blk_two HQ1.out.hd)
  have HRW : Hid (∀ w', Below (w1.alloc (.cells #[.slice a n ca, .slice b m cb] 24)).heap.size (w1.alloc (.cells #[.slice a n ca, .slice b m cb] 24)) w' → Rows w1.heap.size [xs, ys] w') := Lib.hid (fun w' hw k zs hk => by
    have hq := (HQ1.out.alloc (.cells #[.slice a n ca, .slice b m cb] 24)).step hw
    have hc := new_below hw
    match k, hk with
    | 0, hk => cases hk; exact ⟨a, n, ca, blk_is hc rfl, hq.itl.ints, by omega⟩
    | 1, hk => cases hk; exact ⟨b, m, cb, blk_is hc rfl, hq.ints, by omega⟩
    | k + 2, hk => cases hk)
  refine (iConcat w1.heap.size 2 2 [xs, ys] _ rfl (by simp) HRW.out (by rw [HLEN.out]; omega) (by rw [HLEN.out]; omega) (by omega)).mono ?_
  rintro e w2 ⟨v2, rfl, ho2, hb2⟩
  have HQ2 := Lib.hid ((HQ1.out.alloc _).step hb2)
  have z1 := HQ1.out.size
  have hfl : [xs, ys].flatten = xs ++ ys := by simp
  have hl2 : (xs ++ ys).length = s.toNat := by rw [← hfl]; exact HLEN.out
  rw [hfl] at ho2
  clear hb2 HRW HQ1 hfl q0 q1
  obtain ⟨a2, c2, rfl, -⟩ := ho2.form
  obtain ⟨g, rfl⟩ := own_some ho2 (by omega)
  have hlt := ho2.lt g rfl
  have HO2 := Lib.hid ho2
  clear ho2
  generalize hL : xs ++ ys = L at *
  have HL := Lib.hid hL
  clear hL
  have hl8 : L.length ≤ 8 := by omega
  have HL2 := Lib.hid hl2
  clear hl2
  have hgB : w.heap.size + 1 ≤ g := by have := hlt.1; simp at this; omega
  go_wp2_with (first
    | (go_at_call 30; (with_reducible refine (iSort _ _ L _ HO2.out (by omega)).mono ?_); rintro e w3 ⟨rfl, ho3, hg3⟩; have HQ3 := Lib.hid (HQ2.out.grown hg3 (fun k e => by cases e; exact hgB)); have HO3 := Lib.hid ho3; clear ho3 hg3 HQ2 HO2; obtain ⟨q0, q1, -, -⟩ := blk_two HQ3.out.hd)
    | (go_at_call 32; (with_reducible refine (HNU.out _).mono ?_); rintro e w4 ⟨rfl, hN, hb4⟩; have HQ4 := Lib.hid (HQ3.out.step hb4); have HO4 := Lib.hid (HO3.out.step hb4); have HN := Lib.hid hN; clear hN hb4 HQ3 HO3)
    | (go_at_call 31; (with_reducible refine (iEqual _ _ _ _ _ _ _ _ _ _ _ HO4.out.ints (IntsW.at_block HN.out (nums_len _)) (by omega) (by omega)).mono ?_); rintro e w5 ⟨rfl, hb5⟩))
  go_ret
  exact ⟨by rw [HFIN.out, HL.out]; rfl, (HQ4.out.step hb5).below⟩

set_option maxHeartbeats 1000000 in
theorem iPermOk_no (s t : Int) (a b : Option Addr) (n m ca cb : Nat) (xs ys : List Int) (w : World) (hn : n ≤ 1048576) (hm : m ≤ 1048576) (hno : ¬ (okP s t ∧ (n : Int) + m = s)) :
    Calls Try.prog 17 #[.agg #[.int .i64 s, .int .i64 t], .slice a n ca, .slice b m cb] w fun e w' => e = .returned (.bool false) ∧ Below w.heap.size w w' := by
  have e1 : wrap64 ((n : Int) + m) = (n : Int) + m := by unfold wrap64; omega
  have HQ := Lib.hid (blk_new w (.cells #[.int .i64 s, .int .i64 t] 29))
  by_cases hp : okP s t
  · have HP := Lib.hid hp
    have hne : ¬ (n : Int) + m = s := fun hx => hno ⟨hp, hx⟩
    have hd : (((n : Int) + m) != s) = true := by simpa using hne
    clear hp hno hne
    go_enter Try.func17, Try.ntmps17
    go_wp2_with (go_at_call 28; (with_reducible refine (right_yes _ _ HP.out _).mono ?_); rintro e w1 ⟨rfl, hb⟩; have HQ1 := Lib.hid (blk_below HQ.out hb (by simp)); obtain ⟨q0, q1, -, -⟩ := blk_two HQ1.out)
    go_ret
    exact ⟨rfl, ((Below.refl _ _).alloc (Nat.le_refl _) _).trans (hb.mono (by simp))⟩
  · have HP := Lib.hid hp
    clear hp hno
    go_enter Try.func17, Try.ntmps17
    go_wp2_with (go_at_call 28; (with_reducible refine (right_no _ _ HP.out _).mono ?_); rintro e w1 ⟨rfl, hb⟩)
    go_ret
    exact ⟨rfl, ((Below.refl _ _).alloc (Nat.le_refl _) _).trans (hb.mono (by simp))⟩

theorem iPermOk (s t : Int) (a b : Option Addr) (n m ca cb : Nat) (xs ys : List Int) (w : World) (ha : IntsW (a, n, xs) w) (hb : IntsW (b, m, ys) w) (hn : n ≤ 1048576) (hm : m ≤ 1048576) :
    Calls Try.prog 17 #[.agg #[.int .i64 s, .int .i64 t], .slice a n ca, .slice b m cb] w fun e w' => e = .returned (.bool (okPermB s t xs ys)) ∧ Below w.heap.size w w' := by
  have lx : xs.length = n := ha.1
  have ly : ys.length = m := hb.1
  by_cases h : okP s t ∧ (n : Int) + m = s
  · have := iPermOk_go s t a b n m ca cb xs ys w ha hb h.1 h.2
    rwa [show okPermB s t xs ys = decide (permL (xs ++ ys) s) from decide_eq_decide.mpr ⟨fun hx => hx.2.2, fun hx => ⟨h.1, by rw [lx, ly]; exact h.2, hx⟩⟩]
  · have := iPermOk_no s t a b n m ca cb xs ys w hn hm h
    rwa [show okPermB s t xs ys = false from decide_eq_false (fun hx => h ⟨hx.1, by rw [← lx, ← ly]; exact hx.2.1⟩)]

end Go.Proofs.Ytllepakgpiddeaa
