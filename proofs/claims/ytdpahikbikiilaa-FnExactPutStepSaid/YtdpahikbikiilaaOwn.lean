/- Memory by blocks with parts of the call's own whose blocks are a list that is not looked into. It speaks of no function. -/
import Derived.Test.YtdpahikbikiilaaWalk
namespace Go.Proofs.Ytdpahikbikiilaa
open Go.RowKit

/-- The rows of a list of blocks stand in a world. -/
def Rows (fl : List (Nat × Obj)) (w : World) : Prop := ∀ p ∈ fl, w.heap[p.1]? = some p.2

/-- A part of a list. -/
def Has (fl l : List (Nat × Obj)) : Prop := ∃ A C, l = A ++ (fl ++ C)

theorem Has.here {fl l : List (Nat × Obj)} : Has fl (fl ++ l) := ⟨[], l, rfl⟩

theorem Has.tl {fl l : List (Nat × Obj)} {p : Nat × Obj} (h : Has fl l) : Has fl (p :: l) := by
  obtain ⟨A, C, rfl⟩ := h
  exact ⟨p :: A, C, rfl⟩

theorem Has.app {fl l m : List (Nat × Obj)} (h : Has fl l) : Has fl (m ++ l) := by
  obtain ⟨A, C, rfl⟩ := h
  exact ⟨m ++ A, C, by rw [List.append_assoc]⟩

/-- A part is another one. -/
def Swap (fl fl' l l' : List (Nat × Obj)) : Prop := ∃ A C, l = A ++ (fl ++ C) ∧ l' = A ++ (fl' ++ C)

theorem Swap.here {fl fl' l : List (Nat × Obj)} : Swap fl fl' (fl ++ l) (fl' ++ l) := ⟨[], l, rfl, rfl⟩

theorem Swap.one {p q : Nat × Obj} {l : List (Nat × Obj)} : Swap [p] [q] (p :: l) (q :: l) := ⟨[], l, rfl, rfl⟩

theorem Swap.tl {fl fl' l l' : List (Nat × Obj)} {p : Nat × Obj} (h : Swap fl fl' l l') : Swap fl fl' (p :: l) (p :: l') := by
  obtain ⟨A, C, rfl, rfl⟩ := h
  exact ⟨p :: A, C, rfl, rfl⟩

theorem Swap.app {fl fl' l l' m : List (Nat × Obj)} (h : Swap fl fl' l l') : Swap fl fl' (m ++ l) (m ++ l') := by
  obtain ⟨A, C, rfl, rfl⟩ := h
  exact ⟨m ++ A, C, by rw [List.append_assoc], by rw [List.append_assoc]⟩

theorem Upd.app {b : Nat} {o o' : Obj} {l l' m : List (Nat × Obj)} (h : Upd b l o o' l') : Upd b (m ++ l) o o' (m ++ l') := by
  obtain ⟨i, h1, h2⟩ := h
  refine ⟨m.length + i, by rw [List.getElem?_append_right (by omega)]; simpa using h1, ?_⟩
  rw [List.set_append_right _ _ (by omega)]
  simp [h2]

section
variable {l l' fl fl' : List (Nat × Obj)} {G : List Nat} {base w w' : World}

theorem Mem.rows (h : Mem l G base w) (hS : Has fl l) : Rows fl w := by
  obtain ⟨A, C, rfl⟩ := hS
  exact fun p hp => h.1 p (List.mem_append_right _ (List.mem_append_left _ hp))

/-- New blocks that a call has made. -/
theorem Mem.madeL (h : Mem l G base w) (hs : Below w.heap.size w w') (hr : Rows fl w') (hn : (fl.map Prod.fst).Nodup) (hb : ∀ p ∈ fl, w.heap.size ≤ p.1) : Mem (fl ++ l) G base w' := by
  have h1 := h.step hs
  refine ⟨fun p hp => ?_, ?_, h1.2.2⟩
  · rcases List.mem_append.1 hp with hp | hp
    · exact hr p hp
    · exact h1.1 p hp
  · rw [List.map_append]
    refine List.nodup_append.2 ⟨hn, h1.2.1, fun a ha b hb' e => ?_⟩
    obtain ⟨p, hp, rfl⟩ := List.mem_map.1 ha
    obtain ⟨q, hq, rfl⟩ := List.mem_map.1 hb'
    have := hb p hp
    have := h.ltAll q hq
    omega

/-- A call that turns a part alone, whose blocks may be others then. -/
theorem Mem.swap (h : Mem l G base w) (hS : Swap fl fl' l l') (hg : GrownIn (fl.map Prod.fst) w w') (hr : Rows fl' w') (hn : (fl'.map Prod.fst).Nodup) (hf : ∀ p ∈ fl', p.1 ∈ fl.map Prod.fst ∨ w.heap.size ≤ p.1) (hb : ∀ p ∈ fl, base.heap.size ≤ p.1) : Mem l' G base w' := by
  obtain ⟨A, C, rfl, rfl⟩ := hS
  obtain ⟨hrow, hnd, hgr⟩ := h
  rw [List.map_append, List.map_append] at hnd
  obtain ⟨nA, nFC, dA⟩ := List.nodup_append.1 hnd
  obtain ⟨nF, nC, dF⟩ := List.nodup_append.1 nFC
  have old : ∀ p, p ∈ A ∨ p ∈ C → p.1 ∉ fl.map Prod.fst ∧ p.1 < w.heap.size ∧ w'.heap[p.1]? = some p.2 := fun p hp => by
    have h1 : w.heap[p.1]? = some p.2 := hrow p (by
      rcases hp with hp | hp
      · exact List.mem_append_left _ hp
      · exact List.mem_append_right _ (List.mem_append_right _ hp))
    have h2 : p.1 ∉ fl.map Prod.fst := fun hm => by
      rcases hp with hp | hp
      · exact dA p.1 (List.mem_map_of_mem hp) p.1 (List.mem_append_left _ hm) rfl
      · exact dF p.1 hm p.1 (List.mem_map_of_mem hp) rfl
    exact ⟨h2, blk_lt h1, by rw [hg.block p.1 (blk_lt h1) h2]; exact h1⟩
  have new : ∀ q ∈ fl', ∀ p, p ∈ A ∨ p ∈ C → q.1 ≠ p.1 := fun q hq p hp e => by
    obtain ⟨h2, h3, -⟩ := old p hp
    rcases hf q hq with hm | hm
    · exact h2 (e ▸ hm)
    · omega
  refine ⟨fun p hp => ?_, ?_, ⟨hg.os.trans hgr.os, hg.tape.trans hgr.tape, hg.output.trans hgr.output, Nat.le_trans hgr.size hg.size, fun k hk hk2 => ?_⟩⟩
  · rcases List.mem_append.1 hp with hp | hp
    · exact (old p (Or.inl hp)).2.2
    · rcases List.mem_append.1 hp with hp | hp
      · exact hr p hp
      · exact (old p (Or.inr hp)).2.2
  · rw [List.map_append, List.map_append]
    refine List.nodup_append.2 ⟨nA, List.nodup_append.2 ⟨hn, nC, fun a ha b hb' e => ?_⟩, fun a ha b hb' e => ?_⟩
    · obtain ⟨q, hq, rfl⟩ := List.mem_map.1 ha
      obtain ⟨p, hp, rfl⟩ := List.mem_map.1 hb'
      exact new q hq p (Or.inr hp) e
    · obtain ⟨p, hp, rfl⟩ := List.mem_map.1 ha
      rcases List.mem_append.1 hb' with hb' | hb'
      · obtain ⟨q, hq, rfl⟩ := List.mem_map.1 hb'
        exact new q hq p (Or.inl hp) e.symm
      · exact dA p.1 ha b (List.mem_append_right _ hb') e
  · rw [hg.block k (Nat.lt_of_lt_of_le hk hgr.size) (fun hm => by
      obtain ⟨p, hp, rfl⟩ := List.mem_map.1 hm
      have := hb p hp
      omega)]
    exact hgr.block k hk hk2

end

end Go.Proofs.Ytdpahikbikiilaa
