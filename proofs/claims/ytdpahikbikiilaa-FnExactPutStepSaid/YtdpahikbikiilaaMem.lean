/- Memory by blocks known whole: a list of them, each block once, and what may have turned of what was there. It speaks of no function. -/
import Derived.Test.YtdpahikbikiilaaRow1
namespace Go.Proofs.Ytdpahikbikiilaa
open Go.RowKit

/-- Of what was there only the blocks of G have turned; new ones may have been made. -/
structure GrownIn (G : List Nat) (w w' : World) : Prop where
  os : w'.os = w.os
  tape : w'.tape = w.tape
  output : w'.output = w.output
  size : w.heap.size ≤ w'.heap.size
  block : ∀ k, k < w.heap.size → k ∉ G → w'.heap[k]? = w.heap[k]?

theorem GrownIn.refl (G : List Nat) (w : World) : GrownIn G w w := ⟨rfl, rfl, rfl, Nat.le_refl _, fun _ _ _ => rfl⟩

theorem GrownIn.trans {G : List Nat} {w w' w'' : World} (h : GrownIn G w w') (h' : GrownIn G w' w'') : GrownIn G w w'' :=
  ⟨h'.os.trans h.os, h'.tape.trans h.tape, h'.output.trans h.output, Nat.le_trans h.size h'.size, fun k hk hg => (h'.block k (Nat.lt_of_lt_of_le hk h.size) hg).trans (h.block k hk hg)⟩

theorem GrownIn.below {w w' : World} (h : GrownIn [] w w') : Below w.heap.size w w' := ⟨h.os, h.tape, h.output, h.size, fun k hk => h.block k hk (by simp)⟩

theorem GrownIn.of_below {G : List Nat} {w w' : World} (h : Below w.heap.size w w') : GrownIn G w w' := ⟨h.os, h.tape, h.output, h.size, fun k hk _ => h.block k hk⟩

theorem GrownIn.one {g : Nat} {w w' : World} (h : GrownIn [g] w w') : w.grownBy w' (some g) := ⟨h.os, h.tape, h.output, h.size, fun k hk hg => h.block k hk (by simp; exact fun e => hg (by rw [e]))⟩

theorem GrownIn.of_one {g : Nat} {w w' : World} (h : w.grownBy w' (some g)) : GrownIn [g] w w' := ⟨h.os, h.tape, h.output, h.size, fun k hk hg => h.block k hk (by simp at hg; simpa using hg)⟩

theorem GrownIn.weak {G G' : List Nat} {w w' : World} (h : GrownIn G w w') (hg : ∀ k ∈ G, k < w.heap.size → k ∈ G') : GrownIn G' w w' :=
  ⟨h.os, h.tape, h.output, h.size, fun k hk hn => h.block k hk (fun hm => hn (hg k hm hk))⟩

/-- The blocks of the list hold what it says, each block stands in it once; since base only the blocks of G have turned. -/
def Mem (l : List (Nat × Obj)) (G : List Nat) (base w : World) : Prop := (∀ p ∈ l, w.heap[p.1]? = some p.2) ∧ (l.map Prod.fst).Nodup ∧ GrownIn G base w

theorem Mem.start (G : List Nat) (w : World) : Mem [] G w w := ⟨fun p hp => (by cases hp), List.nodup_nil, GrownIn.refl G w⟩

theorem Mem.grownIn {l : List (Nat × Obj)} {G : List Nat} {base w : World} (h : Mem l G base w) : GrownIn G base w := h.2.2

theorem Mem.hd {b : Nat} {o : Obj} {l : List (Nat × Obj)} {G : List Nat} {base w : World} (h : Mem ((b, o) :: l) G base w) : w.heap[b]? = some o := h.1 (b, o) List.mem_cons_self

theorem Mem.tl {p : Nat × Obj} {l : List (Nat × Obj)} {G : List Nat} {base w : World} (h : Mem (p :: l) G base w) : Mem l G base w := ⟨fun q hq => h.1 q (List.mem_cons_of_mem _ hq), (List.nodup_cons.1 h.2.1).2, h.2.2⟩

theorem Mem.lt {b : Nat} {o : Obj} {l : List (Nat × Obj)} {G : List Nat} {base w : World} (h : Mem ((b, o) :: l) G base w) : b < w.heap.size := blk_lt h.hd

theorem Mem.ltAll {l : List (Nat × Obj)} {G : List Nat} {base w : World} (h : Mem l G base w) : ∀ p ∈ l, p.1 < w.heap.size := fun p hp => blk_lt (h.1 p hp)

theorem Mem.step {l : List (Nat × Obj)} {G : List Nat} {base w w' : World} (h : Mem l G base w) (hb : Below w.heap.size w w') : Mem l G base w' :=
  ⟨fun p hp => blk_below (h.1 p hp) hb (blk_lt (h.1 p hp)), h.2.1, h.2.2.trans (GrownIn.of_below hb)⟩

theorem Mem.drew {l : List (Nat × Obj)} {G : List Nat} {base w : World} (h : Mem l G base w) : Mem l G base w.drew := ⟨h.1, h.2.1, h.2.2.trans ⟨rfl, rfl, rfl, Nat.le_refl _, fun _ _ _ => rfl⟩⟩

theorem Mem.drewN {l : List (Nat × Obj)} {G : List Nat} {base w : World} (h : Mem l G base w) (n : Nat) : Mem l G base (w.drewN n) := ⟨h.1, h.2.1, h.2.2.trans ⟨rfl, rfl, rfl, Nat.le_refl _, fun _ _ _ => rfl⟩⟩

/-- A block that is known besides. -/
theorem Mem.add {b : Nat} {o : Obj} {l : List (Nat × Obj)} {G : List Nat} {base w : World} (h : Mem l G base w) (hb : w.heap[b]? = some o) (hn : b ∉ l.map Prod.fst) : Mem ((b, o) :: l) G base w :=
  ⟨fun p hp => by
    rcases List.mem_cons.1 hp with rfl | hp
    · exact hb
    · exact h.1 p hp, List.nodup_cons.2 ⟨hn, h.2.1⟩, h.2.2⟩

/-- A new block. -/
theorem Mem.new {l : List (Nat × Obj)} {G : List Nat} {base w : World} (h : Mem l G base w) (o : Obj) : Mem ((w.heap.size, o) :: l) G base (w.alloc o) := by
  have h1 : Mem l G base (w.alloc o) := ⟨fun p hp => blk_alloc (h.1 p hp), h.2.1, h.2.2.trans ⟨rfl, rfl, rfl, by simp, fun k hk _ => heap_alloc_old w o hk⟩⟩
  refine h1.add (blk_new w o) (fun hm => ?_)
  obtain ⟨p, hp, e⟩ := List.mem_map.1 hm
  have := h.ltAll p hp
  omega

/-- A block that a call has made. -/
theorem Mem.made {b : Nat} {o : Obj} {l : List (Nat × Obj)} {G : List Nat} {base w w' : World} (h : Mem l G base w) (hs : Below w.heap.size w w') (hb : w'.heap[b]? = some o) (hn : w.heap.size ≤ b) : Mem ((b, o) :: l) G base w' := by
  refine (h.step hs).add hb (fun hm => ?_)
  obtain ⟨p, hp, e⟩ := List.mem_map.1 hm
  have := h.ltAll p hp
  omega

theorem List.set_fst {l : List (Nat × Obj)} {i b : Nat} {o o' : Obj} (h : l[i]? = some (b, o)) : (l.set i (b, o')).map Prod.fst = l.map Prod.fst := by
  apply List.ext_getElem?
  intro j
  rw [List.getElem?_map, List.getElem?_map, List.getElem?_set]
  by_cases hij : i = j
  · subst hij
    rw [if_pos rfl, h]
    have : i < l.length := (List.getElem?_eq_some_iff.1 h).1
    rw [if_pos this]; rfl
  · rw [if_neg hij]

theorem List.nodup_at {l : List (Nat × Obj)} {i j b : Nat} {o o' : Obj} (hn : (l.map Prod.fst).Nodup) (hi : l[i]? = some (b, o)) (hj : l[j]? = some (b, o')) : i = j := by
  have h1 : (l.map Prod.fst)[i]? = some b := by rw [List.getElem?_map, hi]; rfl
  have h2 : (l.map Prod.fst)[j]? = some b := by rw [List.getElem?_map, hj]; rfl
  obtain ⟨hi1, e1⟩ := List.getElem?_eq_some_iff.1 h1
  obtain ⟨hj1, e2⟩ := List.getElem?_eq_some_iff.1 h2
  have hp := List.pairwise_iff_getElem.1 hn
  rcases Nat.lt_trichotomy i j with hlt | he | hlt
  · exact absurd (e1.trans e2.symm) (hp i j hi1 hj1 hlt)
  · exact he
  · exact absurd (e2.trans e1.symm) (hp j i hj1 hi1 hlt)

/-- The block at place i holds another row now. -/
theorem Mem.put (i : Nat) {b : Nat} {old cs : Array Value} {t : TypeId} {l l' : List (Nat × Obj)} {G : List Nat} {base w : World} (h : Mem l G base w) (hi : l[i]? = some (b, .cells old t (0, 0))) (hb : base.heap.size ≤ b ∨ b ∈ G) (hl : l.set i (b, .cells cs t (0, 0)) = l') : Mem l' G base (w.setRow b cs) := by
  subst hl
  have hbb := h.1 _ (List.mem_of_getElem? hi)
  refine ⟨fun p hp => ?_, by rw [List.set_fst hi]; exact h.2.1, ⟨h.2.2.os, h.2.2.tape, h.2.2.output, by rw [setRow_size]; exact h.2.2.size, fun k hk hg => ?_⟩⟩
  · obtain ⟨j, hj⟩ := List.mem_iff_getElem?.1 hp
    rw [List.getElem?_set] at hj
    by_cases hij : i = j
    · subst hij
      have : i < l.length := (List.getElem?_eq_some_iff.1 hi).1
      rw [if_pos rfl, if_pos this] at hj
      cases hj
      exact blk_row hbb
    · rw [if_neg hij] at hj
      refine blk_row_other (h.1 p (List.mem_of_getElem? hj)) (fun e => hij ?_)
      obtain ⟨pb, po⟩ := p
      simp only at e
      subst e
      exact List.nodup_at h.2.1 hi hj
  · rw [setRow_other _ _ _ _ (fun e => by
      subst e
      rcases hb with hb | hb
      · omega
      · exact hg hb)]
    exact h.2.2.block k hk hg

/-- One cell of the block at place i. -/
theorem Mem.putc (i : Nat) {b o : Nat} {old cs : Array Value} {v : Value} {t : TypeId} {l l' : List (Nat × Obj)} {G : List Nat} {base w : World} (h : Mem l G base w) (hi : l[i]? = some (b, .cells old t (0, 0))) (hb : base.heap.size ≤ b ∨ b ∈ G) (hc : old.setIfInBounds o v = cs) (hl : l.set i (b, .cells cs t (0, 0)) = l') : Mem l' G base (w.setCell ⟨b, o, none⟩ v) := by
  subst hc
  rw [setCell_eq_setRow w b o old t (0, 0) v (h.1 _ (List.mem_of_getElem? hi))]
  exact h.put i hi hb hl

/-- The same list in another order, or less of it. -/
theorem Mem.sub {l l' : List (Nat × Obj)} {G : List Nat} {base w : World} (h : Mem l G base w) (hl : ∀ p ∈ l', p ∈ l) (hn : (l'.map Prod.fst).Nodup) : Mem l' G base w := ⟨fun p hp => h.1 p (hl p hp), hn, h.2.2⟩

theorem Mem.perm {l l' : List (Nat × Obj)} {G : List Nat} {base w : World} (h : Mem l G base w) (hp : l'.Perm l) : Mem l' G base w :=
  ⟨fun p hm => h.1 p (hp.mem_iff.1 hm), (hp.map Prod.fst).nodup_iff.2 h.2.1, h.2.2⟩

theorem Mem.p213 {p q : Nat × Obj} {l : List (Nat × Obj)} {G : List Nat} {base w : World} (h : Mem (p :: q :: l) G base w) : Mem (q :: p :: l) G base w := h.perm (List.Perm.swap _ _ _)

theorem Mem.p132 {p q r : Nat × Obj} {l : List (Nat × Obj)} {G : List Nat} {base w : World} (h : Mem (p :: q :: r :: l) G base w) : Mem (p :: r :: q :: l) G base w := h.perm ((List.Perm.swap _ _ _).cons _)

/-- A call that turns block g alone (at the head of the list), and makes memory. -/
theorem Mem.turn {g : Nat} {o o' : Obj} {l : List (Nat × Obj)} {G : List Nat} {base w w' : World} (h : Mem ((g, o) :: l) G base w) (hg : w.grownBy w' (some g)) (ho : w'.heap[g]? = some o') (hb : base.heap.size ≤ g ∨ g ∈ G) : Mem ((g, o') :: l) G base w' := by
  have hnd := List.nodup_cons.1 h.2.1
  refine ⟨fun p hp => ?_, h.2.1, ⟨hg.os.trans h.2.2.os, hg.tape.trans h.2.2.tape, hg.output.trans h.2.2.output, Nat.le_trans h.2.2.size hg.size, fun k hk hk2 => ?_⟩⟩
  · rcases List.mem_cons.1 hp with rfl | hpl
    · exact ho
    · have hp' := h.1 p (List.mem_cons_of_mem _ hpl)
      rw [hg.block p.1 (blk_lt hp') (fun e => by
        cases e
        exact hnd.1 (List.mem_map.2 ⟨p, hpl, rfl⟩))]
      exact hp'
  · rw [hg.block k (Nat.lt_of_lt_of_le hk h.2.2.size) (fun e => by
      cases e
      rcases hb with hb | hb
      · omega
      · exact hk2 hb)]
    exact h.2.2.block k hk hk2

/-- A call that turns the block at place i alone, and makes memory. -/
theorem Mem.turnAt (i : Nat) {g : Nat} {o o' : Obj} {l l' : List (Nat × Obj)} {G : List Nat} {base w w' : World} (h : Mem l G base w) (hi : l[i]? = some (g, o)) (hg : w.grownBy w' (some g)) (ho : w'.heap[g]? = some o') (hb : base.heap.size ≤ g ∨ g ∈ G) (hl : l.set i (g, o') = l') : Mem l' G base w' := by
  subst hl
  refine ⟨fun p hp => ?_, by rw [List.set_fst hi]; exact h.2.1, ⟨hg.os.trans h.2.2.os, hg.tape.trans h.2.2.tape, hg.output.trans h.2.2.output, Nat.le_trans h.2.2.size hg.size, fun k hk hk2 => ?_⟩⟩
  · obtain ⟨j, hj⟩ := List.mem_iff_getElem?.1 hp
    rw [List.getElem?_set] at hj
    by_cases hij : i = j
    · subst hij
      have : i < l.length := (List.getElem?_eq_some_iff.1 hi).1
      rw [if_pos rfl, if_pos this] at hj
      cases hj
      exact ho
    · rw [if_neg hij] at hj
      have hp' := h.1 p (List.mem_of_getElem? hj)
      rw [hg.block p.1 (blk_lt hp') (fun e => hij ?_)]
      · exact hp'
      · obtain ⟨pb, po⟩ := p
        cases e
        exact List.nodup_at h.2.1 hi hj
  · rw [hg.block k (Nat.lt_of_lt_of_le hk h.2.2.size) (fun e => by
      cases e
      rcases hb with hb | hb
      · omega
      · exact hk2 hb)]
    exact h.2.2.block k hk hk2

/-- What was there and may not have turned is as it was. -/
theorem Mem.old {k o : Nat} {v : Value} {l : List (Nat × Obj)} {G : List Nat} {base w : World} (h : Mem l G base w) (hk : k < base.heap.size) (hg : k ∉ G) (hc : base.cell? ⟨k, o, none⟩ = some v) : w.cell? ⟨k, o, none⟩ = some v :=
  (World.cell?_of_block (h.2.2.block k hk hg)).trans hc

/-- The world gets a letter of its own. -/
theorem gen_region {P : Program} {id : Nat} {ops : Array Oper} {b : Bool} {Q : Exit → Act → World → Prop} {a : Act} {w0 : World} {M : World → Prop} (h : M w0) (hr : ∀ w', M w' → (Code.region id ops b).wp P Q a w') : (Code.region id ops b).wp P Q a w0 := hr w0 h

end Go.Proofs.Ytdpahikbikiilaa
