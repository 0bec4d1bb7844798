/- The model of the entries: contracts of its functions, and what is taken by a ticket. -/
import Derived.Test.YtdpahikbikiilaaS4
import Derived.Deep.RegionHeld3
namespace Go.Proofs.Ytdpahikbikiilaa
open Go.RowKit

/-- A plan and an entry in a call's first two blocks. -/
def PE (B : Nat) (s t c i : Int) (b : Bool) (base w : World) : Prop :=
  w.heap[B]? = some (.cells #[.int .i64 s, .int .i64 t] 38 (0, 0)) ∧ w.heap[B + 1]? = some (.cells #[.int .i64 c, .bool b, .int .i64 i] 69 (0, 0)) ∧ Below B base w

theorem PE.step {B : Nat} {s t c i : Int} {b : Bool} {base w w' : World} (h : PE B s t c i b base w) (hb : Below w.heap.size w w') : PE B s t c i b base w' :=
  ⟨blk_below h.1 hb (blk_lt h.1), blk_below h.2.1 hb (blk_lt h.2.1), h.2.2.trans (hb.mono (Nat.le_of_lt (blk_lt h.1)))⟩

theorem PE.drew {B : Nat} {s t c i : Int} {b : Bool} {base w : World} (h : PE B s t c i b base w) : PE B s t c i b base w.drew := ⟨h.1, h.2.1, h.2.2.drew⟩

theorem PE.alloc {B : Nat} {s t c i : Int} {b : Bool} {base w : World} (h : PE B s t c i b base w) (x : Obj) : PE B s t c i b base (w.alloc x) := ⟨blk_alloc h.1, blk_alloc h.2.1, h.2.2.alloc (Nat.le_of_lt (blk_lt h.1)) _⟩

theorem PE.start (w : World) (s t c i : Int) (b : Bool) : PE w.heap.size s t c i b w ((w.alloc (.cells #[.int .i64 s, .int .i64 t] 38)).alloc (.cells #[.int .i64 c, .bool b, .int .i64 i] 69)) :=
  ⟨blk_alloc (blk_new w _), by have := blk_new (w.alloc (.cells #[.int .i64 s, .int .i64 t] 38)) (.cells #[.int .i64 c, .bool b, .int .i64 i] 69); simpa using this, ((Below.refl _ _).alloc (Nat.le_refl _) _).alloc (by simp) _⟩

theorem PE.facts {B : Nat} {s t c i : Int} {b : Bool} {base w : World} (h : PE B s t c i b base w) : w.cell? ⟨B, 0, none⟩ = some (.int .i64 s) ∧ w.cell? ⟨B, 1, none⟩ = some (.int .i64 t) ∧ w.cell? ⟨B + 1, 0, none⟩ = some (.int .i64 c) ∧ w.cell? ⟨B + 1, 1, none⟩ = some (.bool b) ∧ w.cell? ⟨B + 1, 2, none⟩ = some (.int .i64 i) ∧ PE B s t c i b base w :=
  ⟨(blk_two h.1).1, (blk_two h.1).2.1, (blk_three h.2.1).1, (blk_three h.2.1).2.1, (blk_three h.2.1).2.2.1, h⟩

def okEK (s t c i k : Int) : Prop := okE s t c i ∧ okK k

instance (s t c i k : Int) : Decidable (okEK s t c i k) := by unfold okEK; infer_instance

theorem specNone_yes (s t : Int) (h : okP s t) (w : World) :
    Calls Try.prog 67 #[.agg #[.int .i64 s, .int .i64 t]] w fun e w' => e = .returned (.int .i64 (2 * s - 1)) ∧ Below w.heap.size w w' := by
  have := specNone s t w
  rwa [show noneV s t = 2 * s - 1 from if_pos h] at this

def takeD (s c i k : Int) (b : Bool) : Int := if c < cycD s k ∧ i = 2 * s - 1 then (if b then 1 else 2) else 0

def takeV (s t c i k : Int) (b : Bool) : Int := if okEK s t c i k then takeD s c i k b else -1

def haveD (s c k : Int) : Int := if c = cycD s k then 1 else if c < cycD s k then 2 else 0

def haveV (s t c i k : Int) : Int := if okEK s t c i k then haveD s c k else -1

set_option maxRecDepth 100000 in
set_option maxHeartbeats 2000000 in
theorem mayTake_a (s t c i k : Int) (b : Bool) (h : okEK s t c i k) (hc : cycD s k ≤ c) (w : World) :
    Calls Try.prog 48 #[.agg #[.int .i64 s, .int .i64 t], .agg #[.int .i64 c, .bool b, .int .i64 i], .int .i64 k] w fun e w' => e = .returned (.int .i64 0) ∧ Below w.heap.size w w' := by
  obtain ⟨hE, hK⟩ := h
  have hp := hE.1
  have HE := Lib.hid hE
  have HK := Lib.hid hK
  have HCY := Lib.hid (specCyc_yes s t k ⟨hp, hK⟩)
  have HNO := Lib.hid (specNone_yes s t hp)
  obtain ⟨Y, hY⟩ : ∃ Y, Y = cycD s k := ⟨_, rfl⟩
  obtain ⟨M, hM⟩ : ∃ M, M = 2 * s - 1 := ⟨_, rfl⟩
  rw [← hY] at HCY
  rw [← hM] at HNO
  have hd : decide (Y ≤ c) = true := decide_eq_true (by omega)
  clear hE hK hp hY hM hc
  have HQ := Lib.hid (PE.start w s t c i b)
  go_enter Try.func48, Try.ntmps48
  go_wp2_with (first | (go_at_call 64; (with_reducible refine (specEntryOk_yes _ _ _ _ _ HE.out _).mono ?_); rintro e w1 ⟨rfl, hb⟩; have HQ1 := Lib.hid (HQ.out.step hb); clear hb HQ; obtain ⟨q0, q1, q2, q3, q4, -⟩ := HQ1.out.facts) | (go_at_call 24; (with_reducible refine (specTicket_yes _ HK.out _).mono ?_); rintro e w' ⟨rfl, rfl⟩))
  refine wp_region_held_drew (S := (fun w' => w'.cell? ⟨w.heap.size, 0, none⟩ = some (.int .i64 s) ∧ w'.cell? ⟨w.heap.size, 1, none⟩ = some (.int .i64 t) ∧ w'.cell? ⟨w.heap.size + 1, 0, none⟩ = some (.int .i64 c) ∧ w'.cell? ⟨w.heap.size + 1, 1, none⟩ = some (.bool b) ∧ w'.cell? ⟨w.heap.size + 1, 2, none⟩ = some (.int .i64 i) ∧ PE w.heap.size s t c i b w w')) (by kernel_rfl) ?_ (fun hHeld => ?_)
  · (try dsimp only); (first | exact HQ1.out.facts | exact HQ1.out.drew.facts | exact htc.facts)
  refine wpAnyH_take (i := 0) (v := ?_) rfl (by kernel_rfl) (by kernel_rfl) (by kernel_rfl) (fun _ _ _ h => h) (Or.inl ⟨by rfl, ?_⟩) (by assumption) ?_
  rotate_left
  · intro w hSw; (try dsimp only at hSw); go_simp; (try (with_reducible rfl))
  try simp only [Act.put, List.setIfInBounds_toArray, List.set_cons_zero, List.set_cons_succ, List.getElem_toArray, List.getElem_cons_zero, List.getElem_cons_succ]
  refine wpAnyH_take (i := 1) (v := ?_) rfl (by kernel_rfl) (by kernel_rfl) (by kernel_rfl) (fun _ _ _ h => h) (Or.inl ⟨by rfl, ?_⟩) (by assumption) ?_
  rotate_left
  · intro w hSw; (try dsimp only at hSw); go_simp; (try (with_reducible rfl))
  try simp only [Act.put, List.setIfInBounds_toArray, List.set_cons_zero, List.set_cons_succ, List.getElem_toArray, List.getElem_cons_zero, List.getElem_cons_succ]
  refine wpAnyH_take (i := 2) (v := ?_) rfl (by kernel_rfl) (by kernel_rfl) (by kernel_rfl) (fun _ _ _ h => h) (Or.inl ⟨by rfl, ?_⟩) (by assumption) ?_
  rotate_left
  · intro w hSw; (try dsimp only at hSw); go_simp; (try (with_reducible rfl))
  try simp only [Act.put, List.setIfInBounds_toArray, List.set_cons_zero, List.set_cons_succ, List.getElem_toArray, List.getElem_cons_zero, List.getElem_cons_succ]
  refine wpAnyH_take (i := 3) (v := ?_) rfl (by kernel_rfl) (by kernel_rfl) (by kernel_rfl) (fun _ _ _ h => h) (Or.inl ⟨by rfl, ?_⟩) (by assumption) ?_
  rotate_left
  · intro w hSw; (try dsimp only at hSw); go_simp; (try (with_reducible rfl))
  try simp only [Act.put, List.setIfInBounds_toArray, List.set_cons_zero, List.set_cons_succ, List.getElem_toArray, List.getElem_cons_zero, List.getElem_cons_succ]
  refine wpAnyH_ready (rs := [4]) (by kernel_rfl) (by simp) ?_
  refine AllReadyH.cons rfl (fun K hK => ?_) ?_
  · go_simp
    ((go_at_call 66; (try go_split_ands); (with_reducible refine (HCY.out _).mono ?_); rintro e w2 ⟨rfl, hb2⟩; have htc := PE.step (by assumption) hb2))
    (try (go_wp2_with fail))
    refine hK.out _ _ ?_ (fun hHeld => ?_)
    · (try dsimp only); (first | exact HQ1.out.facts | exact HQ1.out.drew.facts | exact htc.facts)
    clear hK K
    try simp only [Act.put, List.setIfInBounds_toArray, List.set_cons_zero, List.set_cons_succ, List.getElem_toArray, List.getElem_cons_zero, List.getElem_cons_succ]
    refine wpAnyH_take (i := 5) (v := ?_) rfl (by kernel_rfl) (by kernel_rfl) (by kernel_rfl) (fun _ _ _ h => h) (Or.inl ⟨by rfl, ?_⟩) (by assumption) ?_
    rotate_left
    · intro w hSw; (try dsimp only at hSw); go_simp; (try (with_reducible rfl))
    try simp only [Act.put, List.setIfInBounds_toArray, List.set_cons_zero, List.set_cons_succ, List.getElem_toArray, List.getElem_cons_zero, List.getElem_cons_succ]
    refine wpAnyH_take (i := 6) (v := ?_) rfl (by kernel_rfl) (by kernel_rfl) (by kernel_rfl) (fun _ _ _ h => h) (Or.inl ⟨by rfl, ?_⟩) (by assumption) ?_
    rotate_left
    · intro w hSw; (try dsimp only at hSw); go_simp; (try (with_reducible rfl))
    try simp only [Act.put, List.setIfInBounds_toArray, List.set_cons_zero, List.set_cons_succ, List.getElem_toArray, List.getElem_cons_zero, List.getElem_cons_succ]
    refine wpAnyH_take (i := 7) (v := undef) rfl (by kernel_rfl) (by kernel_rfl) (by kernel_rfl) (fun _ _ _ h => h) (Or.inr ⟨by rfl, rfl⟩) (by assumption) ?_
    try simp only [Act.put, List.setIfInBounds_toArray, List.set_cons_zero, List.set_cons_succ, List.getElem_toArray, List.getElem_cons_zero, List.getElem_cons_succ]
    refine wpAnyH_take (i := 8) (v := undef) rfl (by kernel_rfl) (by kernel_rfl) (by kernel_rfl) (fun _ _ _ h => h) (Or.inr ⟨by rfl, rfl⟩) (by assumption) ?_
    try simp only [Act.put, List.setIfInBounds_toArray, List.set_cons_zero, List.set_cons_succ, List.getElem_toArray, List.getElem_cons_zero, List.getElem_cons_succ]
    refine wpAnyH_take (i := 9) (v := undef) rfl (by kernel_rfl) (by kernel_rfl) (by kernel_rfl) (fun _ _ _ h => h) (Or.inr ⟨by rfl, rfl⟩) (by assumption) ?_
    try simp only [Act.put, List.setIfInBounds_toArray, List.set_cons_zero, List.set_cons_succ, List.getElem_toArray, List.getElem_cons_zero, List.getElem_cons_succ]
    refine wpAnyH_take (i := 10) (v := undef) rfl (by kernel_rfl) (by kernel_rfl) (by kernel_rfl) (fun _ _ _ h => h) (Or.inr ⟨by rfl, rfl⟩) (by assumption) ?_
    try simp only [Act.put, List.setIfInBounds_toArray, List.set_cons_zero, List.set_cons_succ, List.getElem_toArray, List.getElem_cons_zero, List.getElem_cons_succ]
    refine wpAnyH_take (i := 11) (v := undef) rfl (by kernel_rfl) (by kernel_rfl) (by kernel_rfl) (fun _ _ _ h => h) (Or.inr ⟨by rfl, rfl⟩) (by assumption) ?_
    try simp only [Act.put, List.setIfInBounds_toArray, List.set_cons_zero, List.set_cons_succ, List.getElem_toArray, List.getElem_cons_zero, List.getElem_cons_succ]
    refine wpAnyH_take (i := 12) (v := ?_) rfl (by kernel_rfl) (by kernel_rfl) (by kernel_rfl) (fun _ _ _ h => h) (Or.inl ⟨by rfl, ?_⟩) (by assumption) ?_
    rotate_left
    · intro w hSw; (try dsimp only at hSw); go_simp; (try (with_reducible rfl))
    try simp only [Act.put, List.setIfInBounds_toArray, List.set_cons_zero, List.set_cons_succ, List.getElem_toArray, List.getElem_cons_zero, List.getElem_cons_succ]
    refine wpAnyH_done (by kernel_rfl) ?_ _
    go_wp2
    go_ret
    (try go_split_ands)
    exact ⟨rfl, htc.2.2⟩
  exact AllReadyH.nil

set_option maxRecDepth 100000 in
set_option maxHeartbeats 2000000 in
theorem mayTake_b (s t c i k : Int) (b : Bool) (h : okEK s t c i k) (hc : c < cycD s k) (hi : ¬ i = 2 * s - 1) (w : World) :
    Calls Try.prog 48 #[.agg #[.int .i64 s, .int .i64 t], .agg #[.int .i64 c, .bool b, .int .i64 i], .int .i64 k] w fun e w' => e = .returned (.int .i64 0) ∧ Below w.heap.size w w' := by
  obtain ⟨hE, hK⟩ := h
  have hp := hE.1
  have HE := Lib.hid hE
  have HK := Lib.hid hK
  have HCY := Lib.hid (specCyc_yes s t k ⟨hp, hK⟩)
  have HNO := Lib.hid (specNone_yes s t hp)
  obtain ⟨Y, hY⟩ : ∃ Y, Y = cycD s k := ⟨_, rfl⟩
  obtain ⟨M, hM⟩ : ∃ M, M = 2 * s - 1 := ⟨_, rfl⟩
  rw [← hY] at HCY
  rw [← hM] at HNO
  have hd : decide (Y ≤ c) = false := decide_eq_false (by omega)
  have hd2 : (i != M) = true := by simp; omega
  clear hE hK hp hY hM hc hi
  have HQ := Lib.hid (PE.start w s t c i b)
  go_enter Try.func48, Try.ntmps48
  go_wp2_with (first | (go_at_call 64; (with_reducible refine (specEntryOk_yes _ _ _ _ _ HE.out _).mono ?_); rintro e w1 ⟨rfl, hb⟩; have HQ1 := Lib.hid (HQ.out.step hb); clear hb HQ; obtain ⟨q0, q1, q2, q3, q4, -⟩ := HQ1.out.facts) | (go_at_call 24; (with_reducible refine (specTicket_yes _ HK.out _).mono ?_); rintro e w' ⟨rfl, rfl⟩))
  go_region_held3 (fun w' => w'.cell? ⟨w.heap.size, 0, none⟩ = some (.int .i64 s) ∧ w'.cell? ⟨w.heap.size, 1, none⟩ = some (.int .i64 t) ∧ w'.cell? ⟨w.heap.size + 1, 0, none⟩ = some (.int .i64 c) ∧ w'.cell? ⟨w.heap.size + 1, 1, none⟩ = some (.bool b) ∧ w'.cell? ⟨w.heap.size + 1, 2, none⟩ = some (.int .i64 i) ∧ PE w.heap.size s t c i b w w')
    (first | exact HQ1.out.facts | exact HQ1.out.drew.facts | exact htc.facts)
    ((first | (go_at_call 66; (try go_split_ands); (with_reducible refine (HCY.out _).mono ?_); rintro e w2 ⟨rfl, hb2⟩; have htc := PE.step (by assumption) hb2) | (go_at_call 67; (try go_split_ands); (with_reducible refine (HNO.out _).mono ?_); rintro e w2 ⟨rfl, hb2⟩; have htc := PE.step (by assumption) hb2)))
  all_goals
    go_wp2
    go_ret
    (try go_split_ands)
    exact ⟨rfl, htc.2.2⟩

set_option maxRecDepth 100000 in
set_option maxHeartbeats 2000000 in
theorem mayTake_c (s t c i k : Int) (b : Bool) (h : okEK s t c i k) (hc : c < cycD s k) (hi : i = 2 * s - 1) (w : World) :
    Calls Try.prog 48 #[.agg #[.int .i64 s, .int .i64 t], .agg #[.int .i64 c, .bool b, .int .i64 i], .int .i64 k] w fun e w' => e = .returned (.int .i64 (if b then 1 else 2)) ∧ Below w.heap.size w w' := by
  obtain ⟨hE, hK⟩ := h
  have hp := hE.1
  have HE := Lib.hid hE
  have HK := Lib.hid hK
  have HCY := Lib.hid (specCyc_yes s t k ⟨hp, hK⟩)
  have HNO := Lib.hid (specNone_yes s t hp)
  obtain ⟨Y, hY⟩ : ∃ Y, Y = cycD s k := ⟨_, rfl⟩
  obtain ⟨M, hM⟩ : ∃ M, M = 2 * s - 1 := ⟨_, rfl⟩
  rw [← hY] at HCY
  rw [← hM] at HNO
  have hd : decide (Y ≤ c) = false := decide_eq_false (by omega)
  have hd2 : (i != M) = false := by simp; omega
  clear hE hK hp hY hM hc hi
  have HQ := Lib.hid (PE.start w s t c i b)
  cases b
  · go_enter Try.func48, Try.ntmps48
    go_wp2_with (first | (go_at_call 64; (with_reducible refine (specEntryOk_yes _ _ _ _ _ HE.out _).mono ?_); rintro e w1 ⟨rfl, hb⟩; have HQ1 := Lib.hid (HQ.out.step hb); clear hb HQ; obtain ⟨q0, q1, q2, q3, q4, -⟩ := HQ1.out.facts) | (go_at_call 24; (with_reducible refine (specTicket_yes _ HK.out _).mono ?_); rintro e w' ⟨rfl, rfl⟩))
    go_region_held3 (fun w' => w'.cell? ⟨w.heap.size, 0, none⟩ = some (.int .i64 s) ∧ w'.cell? ⟨w.heap.size, 1, none⟩ = some (.int .i64 t) ∧ w'.cell? ⟨w.heap.size + 1, 0, none⟩ = some (.int .i64 c) ∧ w'.cell? ⟨w.heap.size + 1, 1, none⟩ = some (.bool false) ∧ w'.cell? ⟨w.heap.size + 1, 2, none⟩ = some (.int .i64 i) ∧ PE w.heap.size s t c i false w w')
      (first | exact HQ1.out.facts | exact HQ1.out.drew.facts | exact htc.facts)
      ((first | (go_at_call 66; (try go_split_ands); (with_reducible refine (HCY.out _).mono ?_); rintro e w2 ⟨rfl, hb2⟩; have htc := PE.step (by assumption) hb2) | (go_at_call 67; (try go_split_ands); (with_reducible refine (HNO.out _).mono ?_); rintro e w2 ⟨rfl, hb2⟩; have htc := PE.step (by assumption) hb2)))
    all_goals
      obtain ⟨q0, q1, q2, q3, q4, -⟩ := htc.facts
      go_wp2
      go_ret
      exact ⟨rfl, htc.2.2⟩
  · go_enter Try.func48, Try.ntmps48
    go_wp2_with (first | (go_at_call 64; (with_reducible refine (specEntryOk_yes _ _ _ _ _ HE.out _).mono ?_); rintro e w1 ⟨rfl, hb⟩; have HQ1 := Lib.hid (HQ.out.step hb); clear hb HQ; obtain ⟨q0, q1, q2, q3, q4, -⟩ := HQ1.out.facts) | (go_at_call 24; (with_reducible refine (specTicket_yes _ HK.out _).mono ?_); rintro e w' ⟨rfl, rfl⟩))
    go_region_held3 (fun w' => w'.cell? ⟨w.heap.size, 0, none⟩ = some (.int .i64 s) ∧ w'.cell? ⟨w.heap.size, 1, none⟩ = some (.int .i64 t) ∧ w'.cell? ⟨w.heap.size + 1, 0, none⟩ = some (.int .i64 c) ∧ w'.cell? ⟨w.heap.size + 1, 1, none⟩ = some (.bool true) ∧ w'.cell? ⟨w.heap.size + 1, 2, none⟩ = some (.int .i64 i) ∧ PE w.heap.size s t c i true w w')
      (first | exact HQ1.out.facts | exact HQ1.out.drew.facts | exact htc.facts)
      ((first | (go_at_call 66; (try go_split_ands); (with_reducible refine (HCY.out _).mono ?_); rintro e w2 ⟨rfl, hb2⟩; have htc := PE.step (by assumption) hb2) | (go_at_call 67; (try go_split_ands); (with_reducible refine (HNO.out _).mono ?_); rintro e w2 ⟨rfl, hb2⟩; have htc := PE.step (by assumption) hb2)))
    all_goals
      obtain ⟨q0, q1, q2, q3, q4, -⟩ := htc.facts
      go_wp2
      go_ret
      exact ⟨rfl, htc.2.2⟩

theorem mayTake_yes (s t c i k : Int) (b : Bool) (h : okEK s t c i k) (w : World) :
    Calls Try.prog 48 #[.agg #[.int .i64 s, .int .i64 t], .agg #[.int .i64 c, .bool b, .int .i64 i], .int .i64 k] w fun e w' => e = .returned (.int .i64 (takeD s c i k b)) ∧ Below w.heap.size w w' := by
  by_cases hc : cycD s k ≤ c
  · rw [show takeD s c i k b = 0 from if_neg (fun h => by have := h.1; omega)]; exact mayTake_a s t c i k b h hc w
  · by_cases hi : i = 2 * s - 1
    · rw [show takeD s c i k b = if b then 1 else 2 from if_pos ⟨by omega, hi⟩]; exact mayTake_c s t c i k b h (by omega) hi w
    · rw [show takeD s c i k b = 0 from if_neg (fun h => hi h.2)]; exact mayTake_b s t c i k b h (by omega) hi w

set_option maxHeartbeats 1000000 in
theorem mayTake_no (s t c i k : Int) (b : Bool) (h : ¬ okEK s t c i k) (w : World) :
    Calls Try.prog 48 #[.agg #[.int .i64 s, .int .i64 t], .agg #[.int .i64 c, .bool b, .int .i64 i], .int .i64 k] w fun e w' => e = .returned (.int .i64 (-1)) ∧ Below w.heap.size w w' := by
  by_cases hE : okE s t c i
  · have HK := Lib.hid (fun hx => h ⟨hE, hx⟩ : ¬ okK k)
    have HE := Lib.hid hE
    clear h hE
    go_enter Try.func48, Try.ntmps48
    go_wp2_with (first | (go_at_call 64; (with_reducible refine (specEntryOk_yes _ _ _ _ _ HE.out _).mono ?_); rintro e w1 ⟨rfl, hb⟩; obtain ⟨hc, hf⟩ := bcell hb) | (go_at_call 24; (with_reducible refine (specTicket_no _ HK.out _).mono ?_); rintro e w' ⟨rfl, rfl⟩))
    go_ret
    exact ⟨rfl, ((((Below.refl _ _).alloc (Nat.le_refl _) _).alloc (by simp) _).trans (hb.mono (by simp; omega)))⟩
  · have HE := Lib.hid hE
    clear h hE
    go_enter Try.func48, Try.ntmps48
    go_wp2_with ((go_at_call 64; (with_reducible refine (specEntryOk_no _ _ _ _ _ HE.out _).mono ?_); rintro e w1 ⟨rfl, hb⟩; obtain ⟨hc, hf⟩ := bcell hb))
    go_ret
    exact ⟨rfl, ((((Below.refl _ _).alloc (Nat.le_refl _) _).alloc (by simp) _).trans (hb.mono (by simp; omega)))⟩

theorem specMayTake (s t c i k : Int) (b : Bool) (w : World) :
    Calls Try.prog 48 #[.agg #[.int .i64 s, .int .i64 t], .agg #[.int .i64 c, .bool b, .int .i64 i], .int .i64 k] w fun e w' => e = .returned (.int .i64 (takeV s t c i k b)) ∧ Below w.heap.size w w' := by
  by_cases h : okEK s t c i k
  · rw [show takeV s t c i k b = takeD s c i k b from if_pos h]; exact mayTake_yes s t c i k b h w
  · rw [show takeV s t c i k b = -1 from if_neg h]; exact mayTake_no s t c i k b h w

end Go.Proofs.Ytdpahikbikiilaa
