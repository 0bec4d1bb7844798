/- What a step of putting gives, as functions of what was. -/
import Derived.Test.YtdpahikbikiilaaS9b
import Derived.Test.YtdpahikbikiilaaS5
import Derived.Test.YtdpahikbikiilaaS5b
import Derived.Test.YtdpahikbikiilaaS6b
import Derived.Test.YtdpahikbikiilaaS7
namespace Go.Proofs.Ytdpahikbikiilaa
open Go.RowKit

/-- A hand as a value. -/
def hv (d : Hd) : Value := .agg #[.int .i64 d.at_, .int .i64 d.code, .int .i64 d.val, .int .i64 d.ring, .int .i64 d.tick, .int .i64 d.word, .int .i64 d.tail, .int .i64 d.head, .int .i64 d.index, .int .i64 d.begin_, .int .i64 d.reply, .int .i64 d.out]

/-- The word at a ticket's place. -/
def wordAt (s : Int) (xs : List Int) (k : Int) : Int := xs.getD (placeD s k).toNat 0

def pvX (s : Int) (xs : List Int) (d : Hd) : List Int := if d.at_ = 4 ∧ wordAt s xs d.tick = d.word then xs.set (placeD s d.tick).toNat (wordD s (cycD s d.tick) d.index true) else xs

def pvT (tl : Int) (d : Hd) : Int := if d.at_ = 1 then tl + 1 else tl

def pvL (s l : Int) (d : Hd) : Int := if d.at_ = 6 then 3 * s - 1 else l

def pvAt (s t : Int) (xs : List Int) (h l : Int) (d : Hd) : Int :=
  if d.at_ = 1 then 2
  else if d.at_ = 2 then byV (takeV s t (entC s t (wordAt s xs d.tick)) (entI s t (wordAt s xs d.tick)) d.tick (entS s t (wordAt s xs d.tick))) 4 3 1
  else if d.at_ = 3 then (if h ≤ d.tick then 4 else 1)
  else if d.at_ = 4 then (if wordAt s xs d.tick = d.word then 5 else 2)
  else if d.at_ = 5 then (if l = 3 * s - 1 then 20 else 6)
  else 20

/-- The hand behind a step. -/
def pvD (s t : Int) (xs : List Int) (h tl l : Int) (d : Hd) : Hd :=
  { d with at_ := pvAt s t xs h l d, tick := if d.at_ = 1 then tl else d.tick, word := if d.at_ = 2 then wordAt s xs d.tick else d.word }

theorem take_at {cur : Array Value} {n j : Nat} {xs : List Int} (h : cur.toList.take n = vals xs) (hj : j < xs.length) : cur[j]? = some (.int .i64 (xs.getD j 0)) := by
  have hx : (vals xs)[j]? = some (.int .i64 (xs.getD j 0)) := by
    simp [vals, List.getD_eq_getElem?_getD, List.getElem?_eq_getElem hj]
  rw [← h, List.getElem?_take] at hx
  split at hx
  · rw [← Array.getElem?_toList]; exact hx
  · cases hx

theorem take_set {cur : Array Value} {n j : Nat} {xs : List Int} {y : Int} (h : cur.toList.take n = vals xs) : (cur.setIfInBounds j (.int .i64 y)).toList.take n = vals (xs.set j y) := by
  rw [Array.toList_setIfInBounds, List.take_set, h]; simp [vals, List.map_set]

theorem w64_okW {s t x : Int} (h : okW s t x) : W64 x := by
  obtain ⟨hp, h0, h1⟩ := h
  obtain ⟨g1, g2⟩ := okP_le hp
  refine w64_of (by omega) ?_
  rcases hp.1 with rfl | rfl | rfl | rfl <;> omega

def zH : Hd := ⟨0, 0, 0, 0, 0, 0, 0, 0, 0, 0, 0, 0⟩

/-- A ring with words of the call's own, a hand, a flag. -/
def GivesStep (xs : List Int) (h tl l : Int) (d : Hd) (b : Bool) (w : World) (e : Ending) (w' : World) : Prop :=
  ∃ a n cap, e = .returned (.tuple #[.agg #[.slice a n cap, .int .i64 h, .int .i64 tl, .int .i64 l], hv d, .bool b]) ∧ w'.ownsRow w.heap.size 2 1 (.slice a n cap) n (vals xs) ∧ Below w.heap.size w w'

/-- May a step of putting be made? -/
def psOk (s t : Int) (xs : List Int) (h tl l : Int) (d : Hd) : Prop := okR s t xs h tl l ∧ handB s t d = true ∧ (1 ≤ d.at_ ∧ d.at_ ≤ 6) ∧ 0 ≤ d.index ∧ okK d.tick ∧ readB s t d = true

theorem row_ints {g n : Nat} {t : TypeId} {cur : Array Value} {xs : List Int} {w : World} (h : w.heap[g]? = some (.cells cur t (0, 0))) (ht : cur.toList.take n = vals xs) (hn : xs.length = n) : Ints w.heap.size (some ⟨g, 0, none⟩) n xs w :=
  ⟨hn, fun i x hx => ⟨g, 0, rfl, blk_lt h, by
    have hi : i < xs.length := (List.getElem?_eq_some_iff.1 hx).1
    have he : xs.getD i 0 = x := by rw [List.getD_eq_getElem?_getD, hx]; rfl
    rw [Nat.zero_add, blk_cell h, take_at ht hi, he]⟩⟩

theorem pvX_len (s : Int) (xs : List Int) (d : Hd) : (pvX s xs d).length = xs.length := by
  unfold pvX
  split <;> simp

instance (s t : Int) (xs : List Int) (h tl l : Int) (d : Hd) : Decidable (psOk s t xs h tl l d) := by unfold psOk; infer_instance

/-- A step of putting is made. -/
def psGood (s t : Int) (xs : List Int) (h tl l : Int) (d : Hd) : Prop := psOk s t xs h tl l d ∧ okRB s t (pvX s xs d) h (pvT tl d) (pvL s l d) = true

instance (s t : Int) (xs : List Int) (h tl l : Int) (d : Hd) : Decidable (psGood s t xs h tl l d) := by unfold psGood; infer_instance

theorem hand_index {s t : Int} {d : Hd} (h : handB s t d = true) : d.index ≤ s - 1 := by
  simp only [handB, Bool.and_eq_true] at h
  have := h.1.1.1.2
  simp [inB] at this
  omega

theorem okRB_t {s t : Int} {xs : List Int} {h tl l : Int} (q : okRB s t xs h tl l = true) : okR s t xs h tl l := by simpa [okRB] using q

theorem okRB_f {s t : Int} {xs : List Int} {h tl l : Int} (q : okRB s t xs h tl l = false) : ¬ okR s t xs h tl l := by simpa [okRB] using q

theorem okKB_t {k : Int} (q : okKB k = true) : okK k := by simpa [okKB] using q

theorem okKB_f {k : Int} (q : okKB k = false) : ¬ okK k := by simpa [okKB] using q

theorem w64_wordAt {s : Int} {xs : List Int} {k : Int} (h : ∀ x ∈ xs, W64 x) : W64 (wordAt s xs k) := by
  unfold wordAt
  by_cases hl : (placeD s k).toNat < xs.length
  · rw [List.getD_eq_getElem?_getD, List.getElem?_eq_getElem hl]; exact h _ (List.getElem_mem hl)
  · rw [List.getD_eq_getElem?_getD, List.getElem?_eq_none (by omega)]; exact ⟨by decide, by decide⟩

theorem tb_vals {s t k i : Int} (hp : okP s t) (hk : okK k) (hi : 0 ≤ i ∧ i ≤ 2 * s - 1) : tbC s t k i = cycD s k ∧ tbB s t k i = true ∧ tbI s t k i = i := by
  have h : okTI s t k i := ⟨⟨hp, hk⟩, hi⟩
  exact ⟨if_pos h, if_pos h, if_pos h⟩

end Go.Proofs.Ytdpahikbikiilaa
