/- Numbers of the call's own as parts of memory known by blocks: what the laws' helpers do with them. -/
import Derived.Test.YtdpahikbikiilaaOwn
import Derived.Test.YtdpahikbikiilaaL6b
import Derived.Test.YtdpahikbikiilaaApp
namespace Go.Proofs.Ytdpahikbikiilaa
open Go.RowKit

/-- A slice of the call's own reads as xs out of the blocks fl. -/
def OwnS (fl : List (Nat × Obj)) (xs : List Int) (a : Option Addr) (n c : Nat) : Prop :=
  (fl = [] ∧ a = none ∧ n = 0 ∧ c = 0 ∧ xs = []) ∨ ∃ g cur, fl = [(g, .cells cur 2 (0, 0))] ∧ a = some ⟨g, 0, none⟩ ∧ xs.length = n ∧ n ≤ c ∧ c ≤ maxLen ∧ cur.size = c ∧ cur.toList.take n = vals xs

theorem OwnS.len {fl : List (Nat × Obj)} {xs : List Int} {a : Option Addr} {n c : Nat} (h : OwnS fl xs a n c) : xs.length = n := by
  rcases h with ⟨-, -, rfl, -, rfl⟩ | ⟨g, cur, -, -, h, -⟩
  · rfl
  · exact h

theorem OwnS.nodup {fl : List (Nat × Obj)} {xs : List Int} {a : Option Addr} {n c : Nat} (h : OwnS fl xs a n c) : (fl.map Prod.fst).Nodup := by
  rcases h with ⟨rfl, -⟩ | ⟨g, cur, rfl, -⟩ <;> simp

theorem OwnI.parts {base : Nat} {xs : List Int} {a : Option Addr} {n c : Nat} {w : World} (h : OwnI base (.slice a n c) xs w) : ∃ fl, OwnS fl xs a n c ∧ Rows fl w ∧ ∀ p ∈ fl, base ≤ p.1 := by
  have hl := OwnI.len h
  rcases h.2 with ⟨hv, h0⟩ | ⟨g, cap, cur, hv, hb, hg, hc, hm, hs, ht⟩
  · cases hv
    have : xs = [] := List.eq_nil_of_length_eq_zero h0
    exact ⟨[], Or.inl ⟨rfl, rfl, rfl, rfl, this⟩, (fun p hp => by cases hp), (fun p hp => by cases hp)⟩
  · cases hv
    refine ⟨[(g, .cells cur 2 (0, 0))], Or.inr ⟨g, cur, rfl, rfl, rfl, hc, hm, by simpa using hs, by simpa using ht⟩, fun p hp => ?_, fun p hp => ?_⟩
    · rw [List.mem_singleton] at hp; subst hp; exact hg
    · rw [List.mem_singleton] at hp; subst hp; exact hb

theorem OwnS.own {fl : List (Nat × Obj)} {base : Nat} {xs : List Int} {a : Option Addr} {n c : Nat} {w : World} (h : OwnS fl xs a n c) (hr : Rows fl w) (hb : ∀ p ∈ fl, base ≤ p.1) : w.ownsRow base 2 1 (.slice a n c) n (vals xs) := by
  rcases h with ⟨rfl, rfl, rfl, rfl, rfl⟩ | ⟨g, cur, rfl, rfl, h1, h2, h3, h4, h5⟩
  · exact World.ownsRow_nil _ _ _ _
  · exact ⟨by simp [vals, h1], Or.inr ⟨g, c, cur, rfl, hb _ List.mem_cons_self, hr _ List.mem_cons_self, h2, h3, by rw [h4, Nat.mul_one], by rw [Nat.mul_one]; exact h5⟩⟩

theorem OwnS.ints {fl : List (Nat × Obj)} {xs : List Int} {a : Option Addr} {n c : Nat} {w : World} (h : OwnS fl xs a n c) (hr : Rows fl w) : Ints w.heap.size a n xs w := Ints.own (h.own (base := 0) hr (fun _ _ => Nat.zero_le _))

theorem OwnS.intsW {fl : List (Nat × Obj)} {xs : List Int} {a : Option Addr} {n c : Nat} {w : World} (h : OwnS fl xs a n c) (hr : Rows fl w) : IntsW (a, n, xs) w := h.ints hr

theorem OwnS.of_block {g n : Nat} {xs : List Int} (hl : xs.length = n) (hn : n ≤ maxLen) : OwnS [(g, .cells (vals xs).toArray 2 (0, 0))] xs (some ⟨g, 0, none⟩) n n :=
  Or.inr ⟨g, _, rfl, rfl, hl, Nat.le_refl _, hn, by simp [vals, hl], by simp [vals]; exact List.take_of_length_le (by simp [hl])⟩

theorem marks_len (k n : Nat) : (marks k n).length = n := by simp [marks]

/-- What is got. -/
def GivesPart (xs : List Int) (h t l : Int) (w : World) (e : Ending) (w' : World) : Prop :=
  ∃ a n c fl, e = .returned (.agg #[.slice a n c, .int .i64 h, .int .i64 t, .int .i64 l]) ∧ OwnS fl xs a n c ∧ Rows fl w' ∧ (∀ p ∈ fl, w.heap.size ≤ p.1) ∧ Below w.heap.size w w'

theorem toRing_part (a : Option Addr) (n cap : Nat) (xs : List Int) (h t l : Int) (w : World) (hi : IntsW (a, n, xs) w) (hn : n ≤ 1048576) :
    Calls Try.prog 9 #[.agg #[.slice a n cap, .int .i64 h, .int .i64 t, .int .i64 l]] w (GivesPart xs h t l w) :=
  (toRing_any w.heap.size a n cap xs h t l w hi (Nat.le_refl _) hn).mono fun e w' ⟨g, he, hg, hh, hb⟩ => ⟨_, _, _, _, he, OwnS.of_block hi.1 (by unfold maxLen; omega), fun p hp => by rw [List.mem_singleton] at hp; subst hp; exact hh, fun p hp => by rw [List.mem_singleton] at hp; subst hp; exact hg, hb⟩

theorem markRing_part (fl : List (Nat × Obj)) (a : Option Addr) (n cap k : Nat) (xs : List Int) (h t l : Int) (w : World) (hS : OwnS fl xs a n cap) (hr : Rows fl w) (hk : k ≤ 1048576) (hn : n ≤ 1048576) :
    Calls Try.prog 14 #[.agg #[.slice a n cap, .int .i64 h, .int .i64 t, .int .i64 l], .int .i64 (k : Int)] w fun e w' => ∃ fl', e = .returned (.int .i64 ((k + n : Nat) : Int)) ∧ OwnS fl' (marks k n) a n cap ∧ Rows fl' w' ∧ fl'.map Prod.fst = fl.map Prod.fst ∧ GrownIn (fl.map Prod.fst) w w' :=
  (markRing_any 0 a n cap k xs h t l w (hS.own hr (fun _ _ => Nat.zero_le _)) hk hn).mono fun e w' ⟨he, ho, hg⟩ => by
    obtain ⟨fl', h1, h2, -⟩ := OwnI.parts (base := 0) (show OwnI 0 (.slice a n cap) (marks k n) w' by unfold OwnI; rw [marks_len]; exact ho)
    refine ⟨fl', he, h1, h2, ?_⟩
    rcases hS with ⟨rfl, rfl, rfl, rfl, rfl⟩ | ⟨g, cur, rfl, rfl, -⟩
    · rcases h1 with ⟨rfl, -⟩ | ⟨g, cur, -, h, -⟩
      · exact ⟨rfl, ⟨hg.os, hg.tape, hg.output, hg.size, fun j hj _ => hg.block j hj (by simp [Value.ownBlock])⟩⟩
      · cases h
    · rcases h1 with ⟨-, h, -⟩ | ⟨g', cur', rfl, h, -⟩
      · cases h
      · cases h
        exact ⟨rfl, GrownIn.of_one hg⟩

theorem heldRing_part (fl : List (Nat × Obj)) (a : Option Addr) (n cap k : Nat) (h t l : Int) (w : World) (hS : OwnS fl (marks k n) a n cap) (hr : Rows fl w) (hk : k ≤ 1048576) (hn : n ≤ 1048576) :
    Calls Try.prog 15 #[.agg #[.slice a n cap, .int .i64 h, .int .i64 t, .int .i64 l], .int .i64 (k : Int)] w fun e w' => e = .returned (.int .i64 ((k + n : Nat) : Int)) ∧ Below w.heap.size w w' :=
  heldRing_any w.heap.size a n cap k h t l w (hS.ints hr) (Nat.le_refl _) hk hn

theorem eqRing_part (fl fl' : List (Nat × Obj)) (a a' : Option Addr) (n n' cap cap' : Nat) (xs : List Int) (h t l : Int) (w : World) (hS : OwnS fl xs a n cap) (hr : Rows fl w) (hS' : OwnS fl' xs a' n' cap') (hr' : Rows fl' w) (hn : xs.length ≤ 1048576) :
    Calls Try.prog 12 #[.agg #[.slice a n cap, .int .i64 h, .int .i64 t, .int .i64 l], .agg #[.slice a' n' cap', .int .i64 h, .int .i64 t, .int .i64 l]] w fun e w' => e = .returned (.bool true) ∧ Below w.heap.size w w' := by
  obtain rfl : n' = n := hS'.len.symm.trans hS.len
  exact eqRing_same w.heap.size a a' n' cap cap' xs h t l w (hS.ints hr) (hS'.ints hr') (Nat.le_refl _) (by have := hS.len; omega)

theorem Has.end_ {fl : List (Nat × Obj)} : Has fl fl := ⟨[], [], by simp⟩

theorem Swap.end_ {fl fl' : List (Nat × Obj)} : Swap fl fl' fl fl' := ⟨[], [], by simp, by simp⟩

/-- A part that a call has marked. -/
theorem Mem.mark {l l' fl fl' : List (Nat × Obj)} {G : List Nat} {base w w' : World} (h : Mem l G base w) (hS : Swap fl fl' l l') (hg : GrownIn (fl.map Prod.fst) w w') (hr : Rows fl' w') (he : fl'.map Prod.fst = fl.map Prod.fst) (hn : (fl.map Prod.fst).Nodup) (hb : ∀ p ∈ fl, base.heap.size ≤ p.1) : Mem l' G base w' :=
  h.swap hS hg hr (by rw [he]; exact hn) (fun p hp => Or.inl (by rw [← he]; exact List.mem_map_of_mem hp)) hb

theorem parts_ge {fl fl' : List (Nat × Obj)} {B : Nat} (he : fl'.map Prod.fst = fl.map Prod.fst) (hb : ∀ p ∈ fl, B ≤ p.1) : ∀ p ∈ fl', B ≤ p.1 := fun p hp => by
  have : p.1 ∈ fl.map Prod.fst := by rw [← he]; exact List.mem_map_of_mem hp
  obtain ⟨q, hq, e⟩ := List.mem_map.1 this
  rw [← e]; exact hb q hq

theorem Mem.left {l m : List (Nat × Obj)} {G : List Nat} {base w : World} (h : Mem (l ++ m) G base w) : Mem l G base w :=
  ⟨fun p hp => h.1 p (List.mem_append_left _ hp), by have h2 := h.2.1; rw [List.map_append] at h2; exact (List.nodup_append.1 h2).1, h.2.2⟩

theorem sum_count [DecidableEq (Nat × Obj)] (x : Nat × Obj) (l : List (Nat × Obj)) : (l.map fun y => if y = x then 1 else 0).sum = l.count x := by
  induction l with
  | nil => rfl
  | cons y l ih =>
    simp only [List.map_cons, List.sum_cons, ih, List.count_cons, beq_iff_eq]
    omega

/-- The same blocks in another order. -/
theorem permS {l m : List (Nat × Obj)} (h : ∀ f : Nat × Obj → Nat, (l.map f).sum = (m.map f).sum) : l.Perm m := by
  letI : DecidableEq (Nat × Obj) := fun a b => Classical.propDecidable (a = b)
  letI : BEq (Nat × Obj) := instBEqOfDecidableEq
  rw [List.perm_iff_count (α := Nat × Obj)]
  intro x
  exact (sum_count x l).symm.trans ((h _).trans (sum_count x m))

/-- A ring that was got for the call's own. -/
def GotRing (n : Nat) (xs : List Int) (h t l : Int) (w : World) (e : Ending) (w' : World) : Prop :=
  ∃ a c fl, e = .returned (.agg #[.slice a n c, .int .i64 h, .int .i64 t, .int .i64 l]) ∧ OwnS fl xs a n c ∧ Rows fl w' ∧ (∀ p ∈ fl, w.heap.size ≤ p.1) ∧ Below w.heap.size w w'

theorem toRing_got (a : Option Addr) (n cap : Nat) (xs : List Int) (h t l : Int) (w : World) (hi : IntsW (a, n, xs) w) (hn : n ≤ 1048576) :
    Calls Try.prog 9 #[.agg #[.slice a n cap, .int .i64 h, .int .i64 t, .int .i64 l]] w (GotRing n xs h t l w) :=
  (toRing_any w.heap.size a n cap xs h t l w hi (Nat.le_refl _) hn).mono fun e w' ⟨g, he, hg, hh, hb⟩ => ⟨_, _, _, he, OwnS.of_block hi.1 (by unfold maxLen; omega), fun p hp => by rw [List.mem_singleton] at hp; subst hp; exact hh, fun p hp => by rw [List.mem_singleton] at hp; subst hp; exact hg, hb⟩

theorem markRing_one (fl : List (Nat × Obj)) (a : Option Addr) (n cap : Nat) (xs : List Int) (h t l : Int) (w : World) (hS : OwnS fl xs a n cap) (hr : Rows fl w) (hn : n ≤ 1048576) :
    Calls Try.prog 14 #[.agg #[.slice a n cap, .int .i64 h, .int .i64 t, .int .i64 l], .int .i64 1] w fun e w' => ∃ fl', e = .returned (.int .i64 (1 + (n : Int))) ∧ OwnS fl' (marks 1 n) a n cap ∧ Rows fl' w' ∧ fl'.map Prod.fst = fl.map Prod.fst ∧ GrownIn (fl.map Prod.fst) w w' :=
  (markRing_part fl a n cap 1 xs h t l w hS hr (by decide) hn).mono fun e w' ⟨fl', he, r⟩ => ⟨fl', by rw [he]; simp, r⟩

theorem heldRing_one (fl : List (Nat × Obj)) (a : Option Addr) (n cap : Nat) (h t l : Int) (w : World) (hS : OwnS fl (marks 1 n) a n cap) (hr : Rows fl w) (hn : n ≤ 1048576) :
    Calls Try.prog 15 #[.agg #[.slice a n cap, .int .i64 h, .int .i64 t, .int .i64 l], .int .i64 1] w fun e w' => e = .returned (.int .i64 (1 + (n : Int))) ∧ Below w.heap.size w w' :=
  (heldRing_part fl a n cap 1 h t l w hS hr (by decide) hn).mono fun e w' ⟨he, hb⟩ => ⟨by rw [he]; simp, hb⟩

/-- A ring of the call's own, a hand, a flag. -/
def GotStep (X : List Int) (h t l : Int) (D : Value) (Z : Bool) (w : World) (e : Ending) (w' : World) : Prop :=
  ∃ a n c fl, e = .returned (.tuple #[.agg #[.slice a n c, .int .i64 h, .int .i64 t, .int .i64 l], D, .bool Z]) ∧ OwnS fl X a n c ∧ Rows fl w' ∧ (∀ p ∈ fl, w.heap.size ≤ p.1) ∧ Below w.heap.size w w'

end Go.Proofs.Ytdpahikbikiilaa
