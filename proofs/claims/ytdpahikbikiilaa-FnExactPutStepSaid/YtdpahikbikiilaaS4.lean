/- The model of the tickets: contracts of its functions. -/
import Derived.Test.YtdpahikbikiilaaS3
import Derived.Deep.RegionHeld3
namespace Go.Proofs.Ytdpahikbikiilaa
open Go.RowKit

def okK (k : Int) : Prop := 0 ≤ k ∧ k ≤ 1000000

instance (k : Int) : Decidable (okK k) := by unfold okK; infer_instance

def okKB (k : Int) : Bool := decide (okK k)

theorem okKB_yes {k : Int} (h : okK k) : okKB k = true := decide_eq_true h

theorem okKB_no {k : Int} (h : ¬ okK k) : okKB k = false := decide_eq_false h

theorem specTicket_yes (k : Int) (h : okK k) (w : World) :
    Calls Try.prog 24 #[.int .i64 k] w fun e w' => e = .returned (.bool true) ∧ w = w' := by
  obtain ⟨k0, k1⟩ := h
  go_enter Try.func24, Try.ntmps24
  go_wp2_with (go_at_call 23; (with_reducible refine (in_yes _ _ _ k0 k1 _).mono ?_); rintro e w' ⟨rfl, rfl⟩)
  go_ret
  exact ⟨rfl, rfl⟩

theorem specTicket_no (k : Int) (h : ¬ okK k) (w : World) :
    Calls Try.prog 24 #[.int .i64 k] w fun e w' => e = .returned (.bool false) ∧ w = w' := by
  have hk : k < 0 ∨ 1000000 < k := Decidable.byContradiction fun hx => h ⟨by omega, by omega⟩
  have H := Lib.hid hk
  clear h hk
  go_enter Try.func24, Try.ntmps24
  go_wp2_with (go_at_call 23; (with_reducible refine (in_no _ _ _ H.out _).mono ?_); rintro e w' ⟨rfl, rfl⟩)
  go_ret
  exact ⟨rfl, rfl⟩

theorem specTicket (k : Int) (w : World) :
    Calls Try.prog 24 #[.int .i64 k] w fun e w' => e = .returned (.bool (okKB k)) ∧ w = w' := by
  by_cases h : okK k
  · rw [okKB_yes h]; exact specTicket_yes k h w
  · rw [okKB_no h]; exact specTicket_no k h w

def okT (s t k : Int) : Prop := okP s t ∧ okK k

instance (s t k : Int) : Decidable (okT s t k) := by unfold okT; infer_instance

def cycD (s k : Int) : Int := k / (2 * s)

def placeD (s k : Int) : Int := spotD s (k % (2 * s))

def cycV (s t k : Int) : Int := if okT s t k then cycD s k else -1

def placeV (s t k : Int) : Int := if okT s t k then placeD s k else -1

theorem okJ_mod {s t k : Int} (h : okT s t k) : okJ s t (k % (2 * s)) := by
  obtain ⟨hp, h0, h1⟩ := h
  obtain ⟨hs, -, -⟩ := id hp
  refine ⟨hp, ?_⟩
  rcases hs with rfl | rfl | rfl | rfl <;> omega

theorem cyc_w64 {s t k : Int} (h : okT s t k) : 0 ≤ cycD s k ∧ cycD s k ≤ 1000000 := by
  obtain ⟨⟨hs, -, -⟩, h0, h1⟩ := h
  unfold cycD
  rcases hs with rfl | rfl | rfl | rfl <;> omega

/-- A ticket is known by its cycle and its place. -/
theorem ticket_known {s t k : Int} (h : okT s t k) : cycV s t k * 2 * s + unspotV s t (placeV s t k) = k := by
  have hJ := okJ_mod h
  obtain ⟨a0, a1, a2, -⟩ := spot_in hJ
  have hJ2 : okJ s t (placeD s k) := ⟨h.1, a0, a1⟩
  rw [show cycV s t k = cycD s k from if_pos h, show placeV s t k = placeD s k from if_pos h, show unspotV s t (placeD s k) = unspotD s (placeD s k) from if_pos hJ2]
  unfold placeD cycD
  rw [a2]
  obtain ⟨⟨hs, -, -⟩, h0, h1⟩ := h
  rcases hs with rfl | rfl | rfl | rfl <;> omega

/-- What a walk keeps of a plan in its first block. -/
def P1 (T : TypeId) (B : Nat) (s t : Int) (base w : World) : Prop := w.heap[B]? = some (.cells #[.int .i64 s, .int .i64 t] T (0, 0)) ∧ Below B base w

theorem P1.step {T : TypeId} {B : Nat} {s t : Int} {base w w' : World} (h : P1 T B s t base w) (hb : Below w.heap.size w w') : P1 T B s t base w' :=
  ⟨blk_below h.1 hb (blk_lt h.1), h.2.trans (hb.mono (Nat.le_of_lt (blk_lt h.1)))⟩

theorem P1.drew {T : TypeId} {B : Nat} {s t : Int} {base w : World} (h : P1 T B s t base w) : P1 T B s t base w.drew := ⟨h.1, h.2.drew⟩

theorem P1.start (T : TypeId) (w : World) (s t : Int) : P1 T w.heap.size s t w (w.alloc (.cells #[.int .i64 s, .int .i64 t] T)) := ⟨blk_new w _, (Below.refl _ _).alloc (Nat.le_refl _) _⟩

theorem P1.facts {T : TypeId} {B : Nat} {s t : Int} {base w : World} (h : P1 T B s t base w) : w.cell? ⟨B, 0, none⟩ = some (.int .i64 s) ∧ w.cell? ⟨B, 1, none⟩ = some (.int .i64 t) ∧ P1 T B s t base w := ⟨(blk_two h.1).1, (blk_two h.1).2.1, h⟩

set_option maxHeartbeats 1000000 in
theorem specPlace_yes (s t k : Int) (h : okT s t k) (w : World) :
    Calls Try.prog 46 #[.agg #[.int .i64 s, .int .i64 t], .int .i64 k] w fun e w' => e = .returned (.int .i64 (placeD s k)) ∧ Below w.heap.size w w' := by
  have HJ := Lib.hid (okJ_mod h)
  obtain ⟨hp, hk⟩ := h
  have H := Lib.hid hp
  have HK := Lib.hid hk
  obtain ⟨k0, k1⟩ := hk
  rcases hp.1 with rfl | rfl | rfl | rfl
  · have HQ := Lib.hid (P1.start 38 w 1 t)
    have hm : k.tmod 2 = k % 2 := Int.tmod_eq_emod_of_nonneg k0
    have hw : IntKind.i64.wrap 2 = 2 := by decide
    have HJ2 : Hid (okJ 1 t (k % 2)) := Lib.hid HJ.out
    have hv : IntKind.i64.wrap (k % 2) = k % 2 := IntWalk.i64_in _ (by omega)
    clear hp
    go_enter Try.func46, Try.ntmps46
    go_wp2_with (first | (go_at_call 39; refine (specOk_yes _ _ H.out _).mono ?_; rintro e w1 ⟨rfl, hb⟩; have HQ1 := Lib.hid (HQ.out.step hb); clear hb HQ; obtain ⟨q0, q1, -⟩ := HQ1.out.facts) | (go_at_call 24; (with_reducible refine (specTicket_yes _ HK.out _).mono ?_); rintro e w' ⟨rfl, rfl⟩))
    go_region_held3 (fun w' => w'.cell? ⟨w.heap.size, 0, none⟩ = some (.int .i64 1) ∧ w'.cell? ⟨w.heap.size, 1, none⟩ = some (.int .i64 t) ∧ P1 38 w.heap.size 1 t w w')
      (first
        | exact HQ1.out.facts
        | exact HQ1.out.drew.facts
        | exact htc.facts)
      ((first
        | (go_at_call 65; (try go_split_ands); (with_reducible refine (specSpot_yes 1 t (k % 2) HJ2.out _).mono ?_); rintro e w2 ⟨rfl, hb2⟩; have htc := P1.step (by assumption) hb2)))
    go_wp2
    go_ret
    exact ⟨rfl, htc.2⟩
  · have HQ := Lib.hid (P1.start 38 w 2 t)
    have hm : k.tmod 4 = k % 4 := Int.tmod_eq_emod_of_nonneg k0
    have hw : IntKind.i64.wrap 4 = 4 := by decide
    have HJ2 : Hid (okJ 2 t (k % 4)) := Lib.hid HJ.out
    have hv : IntKind.i64.wrap (k % 4) = k % 4 := IntWalk.i64_in _ (by omega)
    clear hp
    go_enter Try.func46, Try.ntmps46
    go_wp2_with (first | (go_at_call 39; refine (specOk_yes _ _ H.out _).mono ?_; rintro e w1 ⟨rfl, hb⟩; have HQ1 := Lib.hid (HQ.out.step hb); clear hb HQ; obtain ⟨q0, q1, -⟩ := HQ1.out.facts) | (go_at_call 24; (with_reducible refine (specTicket_yes _ HK.out _).mono ?_); rintro e w' ⟨rfl, rfl⟩))
    go_region_held3 (fun w' => w'.cell? ⟨w.heap.size, 0, none⟩ = some (.int .i64 2) ∧ w'.cell? ⟨w.heap.size, 1, none⟩ = some (.int .i64 t) ∧ P1 38 w.heap.size 2 t w w')
      (first
        | exact HQ1.out.facts
        | exact HQ1.out.drew.facts
        | exact htc.facts)
      ((first
        | (go_at_call 65; (try go_split_ands); (with_reducible refine (specSpot_yes 2 t (k % 4) HJ2.out _).mono ?_); rintro e w2 ⟨rfl, hb2⟩; have htc := P1.step (by assumption) hb2)))
    go_wp2
    go_ret
    exact ⟨rfl, htc.2⟩
  · have HQ := Lib.hid (P1.start 38 w 4 t)
    have hm : k.tmod 8 = k % 8 := Int.tmod_eq_emod_of_nonneg k0
    have hw : IntKind.i64.wrap 8 = 8 := by decide
    have HJ2 : Hid (okJ 4 t (k % 8)) := Lib.hid HJ.out
    have hv : IntKind.i64.wrap (k % 8) = k % 8 := IntWalk.i64_in _ (by omega)
    clear hp
    go_enter Try.func46, Try.ntmps46
    go_wp2_with (first | (go_at_call 39; refine (specOk_yes _ _ H.out _).mono ?_; rintro e w1 ⟨rfl, hb⟩; have HQ1 := Lib.hid (HQ.out.step hb); clear hb HQ; obtain ⟨q0, q1, -⟩ := HQ1.out.facts) | (go_at_call 24; (with_reducible refine (specTicket_yes _ HK.out _).mono ?_); rintro e w' ⟨rfl, rfl⟩))
    go_region_held3 (fun w' => w'.cell? ⟨w.heap.size, 0, none⟩ = some (.int .i64 4) ∧ w'.cell? ⟨w.heap.size, 1, none⟩ = some (.int .i64 t) ∧ P1 38 w.heap.size 4 t w w')
      (first
        | exact HQ1.out.facts
        | exact HQ1.out.drew.facts
        | exact htc.facts)
      ((first
        | (go_at_call 65; (try go_split_ands); (with_reducible refine (specSpot_yes 4 t (k % 8) HJ2.out _).mono ?_); rintro e w2 ⟨rfl, hb2⟩; have htc := P1.step (by assumption) hb2)))
    go_wp2
    go_ret
    exact ⟨rfl, htc.2⟩
  · have HQ := Lib.hid (P1.start 38 w 8 t)
    have hm : k.tmod 16 = k % 16 := Int.tmod_eq_emod_of_nonneg k0
    have hw : IntKind.i64.wrap 16 = 16 := by decide
    have HJ2 : Hid (okJ 8 t (k % 16)) := Lib.hid HJ.out
    have hv : IntKind.i64.wrap (k % 16) = k % 16 := IntWalk.i64_in _ (by omega)
    clear hp
    go_enter Try.func46, Try.ntmps46
    go_wp2_with (first | (go_at_call 39; refine (specOk_yes _ _ H.out _).mono ?_; rintro e w1 ⟨rfl, hb⟩; have HQ1 := Lib.hid (HQ.out.step hb); clear hb HQ; obtain ⟨q0, q1, -⟩ := HQ1.out.facts) | (go_at_call 24; (with_reducible refine (specTicket_yes _ HK.out _).mono ?_); rintro e w' ⟨rfl, rfl⟩))
    go_region_held3 (fun w' => w'.cell? ⟨w.heap.size, 0, none⟩ = some (.int .i64 8) ∧ w'.cell? ⟨w.heap.size, 1, none⟩ = some (.int .i64 t) ∧ P1 38 w.heap.size 8 t w w')
      (first
        | exact HQ1.out.facts
        | exact HQ1.out.drew.facts
        | exact htc.facts)
      ((first
        | (go_at_call 65; (try go_split_ands); (with_reducible refine (specSpot_yes 8 t (k % 16) HJ2.out _).mono ?_); rintro e w2 ⟨rfl, hb2⟩; have htc := P1.step (by assumption) hb2)))
    go_wp2
    go_ret
    exact ⟨rfl, htc.2⟩

set_option maxHeartbeats 400000 in
theorem specCyc_yes (s t k : Int) (h : okT s t k) (w : World) :
    Calls Try.prog 66 #[.agg #[.int .i64 s, .int .i64 t], .int .i64 k] w fun e w' => e = .returned (.int .i64 (cycD s k)) ∧ Below w.heap.size w w' := by
  have HJ := Lib.hid (okJ_mod h)
  obtain ⟨hp, hk⟩ := h
  have H := Lib.hid hp
  have HK := Lib.hid hk
  obtain ⟨k0, k1⟩ := hk
  rcases hp.1 with rfl | rfl | rfl | rfl
  all_goals
    clear hp
    go_enter Try.func66, Try.ntmps66
    go_wp2_with (first | (go_at_call 39; refine (specOk_yes _ _ H.out _).mono ?_; rintro e w1 ⟨rfl, hb⟩; obtain ⟨hc, hf⟩ := bcell hb) | (go_at_call 24; (with_reducible refine (specTicket_yes _ HK.out _).mono ?_); rintro e w' ⟨rfl, rfl⟩))
    go_ret
    exact ⟨rfl, ((Below.refl _ _).alloc (Nat.le_refl _) _).trans (hb.mono (by simp))⟩

theorem specCyc_no (s t k : Int) (h : ¬ okT s t k) (w : World) :
    Calls Try.prog 66 #[.agg #[.int .i64 s, .int .i64 t], .int .i64 k] w fun e w' => e = .returned (.int .i64 (-1)) ∧ Below w.heap.size w w' := by
  by_cases hp : okP s t
  · have hk : ¬ okK k := fun hx => h ⟨hp, hx⟩
    have H := Lib.hid hp
    have HK := Lib.hid hk
    clear hp h hk
    go_enter Try.func66, Try.ntmps66
    go_wp2_with (first | (go_at_call 39; refine (specOk_yes _ _ H.out _).mono ?_; rintro e w1 ⟨rfl, hb⟩; obtain ⟨hc, hf⟩ := bcell hb) | (go_at_call 24; (with_reducible refine (specTicket_no _ HK.out _).mono ?_); rintro e w' ⟨rfl, rfl⟩))
    go_ret
    exact ⟨rfl, ((Below.refl _ _).alloc (Nat.le_refl _) _).trans (hb.mono (by simp))⟩
  · have H := Lib.hid hp
    clear hp h
    go_enter Try.func66, Try.ntmps66
    go_wp2_with (go_at_call 39; refine (specOk_no _ _ H.out _).mono ?_; rintro e w1 ⟨rfl, hb⟩; obtain ⟨hc, hf⟩ := bcell hb)
    go_ret
    exact ⟨rfl, ((Below.refl _ _).alloc (Nat.le_refl _) _).trans (hb.mono (by simp))⟩

theorem specCyc (s t k : Int) (w : World) :
    Calls Try.prog 66 #[.agg #[.int .i64 s, .int .i64 t], .int .i64 k] w fun e w' => e = .returned (.int .i64 (cycV s t k)) ∧ Below w.heap.size w w' := by
  by_cases h : okT s t k
  · rw [show cycV s t k = cycD s k from if_pos h]; exact specCyc_yes s t k h w
  · rw [show cycV s t k = -1 from if_neg h]; exact specCyc_no s t k h w

theorem specPlace_no (s t k : Int) (h : ¬ okT s t k) (w : World) :
    Calls Try.prog 46 #[.agg #[.int .i64 s, .int .i64 t], .int .i64 k] w fun e w' => e = .returned (.int .i64 (-1)) ∧ Below w.heap.size w w' := by
  by_cases hp : okP s t
  · have hk : ¬ okK k := fun hx => h ⟨hp, hx⟩
    have H := Lib.hid hp
    have HK := Lib.hid hk
    clear hp h hk
    go_enter Try.func46, Try.ntmps46
    go_wp2_with (first | (go_at_call 39; refine (specOk_yes _ _ H.out _).mono ?_; rintro e w1 ⟨rfl, hb⟩; obtain ⟨hc, hf⟩ := bcell hb) | (go_at_call 24; (with_reducible refine (specTicket_no _ HK.out _).mono ?_); rintro e w' ⟨rfl, rfl⟩))
    go_ret
    exact ⟨rfl, ((Below.refl _ _).alloc (Nat.le_refl _) _).trans (hb.mono (by simp))⟩
  · have H := Lib.hid hp
    clear hp h
    go_enter Try.func46, Try.ntmps46
    go_wp2_with (go_at_call 39; refine (specOk_no _ _ H.out _).mono ?_; rintro e w1 ⟨rfl, hb⟩; obtain ⟨hc, hf⟩ := bcell hb)
    go_ret
    exact ⟨rfl, ((Below.refl _ _).alloc (Nat.le_refl _) _).trans (hb.mono (by simp))⟩

theorem specPlace (s t k : Int) (w : World) :
    Calls Try.prog 46 #[.agg #[.int .i64 s, .int .i64 t], .int .i64 k] w fun e w' => e = .returned (.int .i64 (placeV s t k)) ∧ Below w.heap.size w w' := by
  by_cases h : okT s t k
  · rw [show placeV s t k = placeD s k from if_pos h]; exact specPlace_yes s t k h w
  · rw [show placeV s t k = -1 from if_neg h]; exact specPlace_no s t k h w

end Go.Proofs.Ytdpahikbikiilaa
