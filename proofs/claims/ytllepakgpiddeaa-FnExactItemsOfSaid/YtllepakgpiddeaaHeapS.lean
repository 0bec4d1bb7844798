/- What waits in a ring, as a list; in the order of the tickets it is the model's answer. -/
import Derived.Test.YtllepakgpiddeaaS7c
import Derived.Test.YtllepakgpiddeaaHeapP
namespace Go.Proofs.Ytllepakgpiddeaa
open Go.RowKit

/-- The item of a word at a place: its ticket, its number. -/
def itemK (s : Int) (xs : List Int) (k : Nat) : Int × Int := (xs.getD k 0 / (4 * s) * 2 * s + unspotD s k, xs.getD k 0 % (2 * s))

/-- The items of the first k words. -/
def wItems (s : Int) (xs : List Int) : Nat → List (Int × Int)
  | 0 => []
  | k + 1 => if xs.getD k 0 % (2 * s) = 2 * s - 1 then wItems s xs k else itemK s xs k :: wItems s xs k

theorem wItems_same (s : Int) (xs : List Int) (k : Nat) (h : xs.getD k 0 % (2 * s) = 2 * s - 1) : wItems s xs (k + 1) = wItems s xs k := by
  conv => lhs; unfold wItems
  rw [if_pos h]

theorem wItems_more (s : Int) (xs : List Int) (k : Nat) (h : ¬ xs.getD k 0 % (2 * s) = 2 * s - 1) : wItems s xs (k + 1) = itemK s xs k :: wItems s xs k := by
  conv => lhs; unfold wItems
  rw [if_neg h]

theorem wItems_len (s : Int) (xs : List Int) (k : Nat) : (wItems s xs k).length ≤ k := by
  induction k with
  | zero => exact Nat.le_refl _
  | succ k ih =>
    unfold wItems
    split
    · omega
    · simp; omega

theorem wItems_mem {s : Int} {xs : List Int} {n : Nat} {a : Int × Int} (h : a ∈ wItems s xs n) : ∃ k, k < n ∧ a = itemK s xs k := by
  induction n with
  | zero => cases h
  | succ n ih =>
    unfold wItems at h
    split at h
    · obtain ⟨k, hk, e⟩ := ih h; exact ⟨k, by omega, e⟩
    · rcases List.mem_cons.1 h with e | h
      · exact ⟨n, by omega, e⟩
      · obtain ⟨k, hk, e⟩ := ih h; exact ⟨k, by omega, e⟩

theorem item_mod {s t : Int} {xs : List Int} {k : Nat} (hp : okP s t) (hk : (k : Int) < 2 * s) : (itemK s xs k).1 % (2 * s) = unspotD s k := by
  have h := spot_in (s := s) (t := t) (j := k) ⟨hp, by omega, by omega⟩
  have hs : 0 < 2 * s := by omega
  show (xs.getD k 0 / (4 * s) * 2 * s + unspotD s k) % (2 * s) = _
  rw [show xs.getD k 0 / (4 * s) * 2 * s + unspotD s k = unspotD s k + 2 * s * (xs.getD k 0 / (4 * s)) by
    rw [Int.add_comm, Int.mul_assoc, Int.mul_comm (xs.getD k 0 / (4 * s))], Int.add_mul_emod_self_left]
  exact Int.emod_eq_of_lt h.2.2.2.1 (by omega)

theorem items_apart {s t : Int} {xs : List Int} {n : Nat} (hp : okP s t) (hn : (n : Int) ≤ 2 * s) {a b : Int × Int} (ha : a ∈ wItems s xs n) (hb : b ∈ wItems s xs n) (e : a.1 = b.1) : a = b := by
  obtain ⟨i, hi, rfl⟩ := wItems_mem ha
  obtain ⟨j, hj, rfl⟩ := wItems_mem hb
  have h1 := item_mod (xs := xs) (k := i) hp (by omega)
  have h2 := item_mod (xs := xs) (k := j) hp (by omega)
  rw [e, h2] at h1
  have a1 := (spot_in (s := s) (t := t) (j := i) ⟨hp, by omega, by omega⟩).2.2.2.2.2
  have a2 := (spot_in (s := s) (t := t) (j := j) ⟨hp, by omega, by omega⟩).2.2.2.2.2
  have : (i : Int) = j := by rw [← a1, ← a2, h1]
  have : i = j := by omega
  rw [this]

def byT (a b : Int × Int) : Prop := a.1 ≤ b.1

theorem insK_hi (ts : List Int) (T : Int) (k i : Nat) (h1 : insK ts T k ≤ i) (h2 : i < k) : T < ts.getD i 0 := by
  induction k with
  | zero => omega
  | succ k ih =>
    unfold insK at h1
    split at h1
    · by_cases e : i = k
      · subst e; assumption
      · exact ih h1 (by omega)
    · omega

theorem insK_lo (ts : List Int) (T : Int) (k : Nat) (h : 0 < insK ts T k) : ts.getD (insK ts T k - 1) 0 ≤ T := by
  induction k with
  | zero => simp [insK] at h
  | succ k ih =>
    unfold insK at h ⊢
    split
    · rename_i hc
      rw [if_pos hc] at h
      exact ih h
    · rename_i hc
      simpa using Int.not_lt.1 hc

theorem itemsTo_same (s : Int) (xs : List Int) (k : Nat) (h : xs.getD k 0 % (2 * s) = 2 * s - 1) : itemsTo s xs (k + 1) = itemsTo s xs k := by
  conv => lhs; unfold itemsTo
  rw [if_pos h]

/-- The model's list with its tickets. -/
def zItems (s : Int) (xs : List Int) (k : Nat) : List (Int × Int) := (itemsTo s xs k).2.zip (itemsTo s xs k).1

theorem zItems_len (s : Int) (xs : List Int) (k : Nat) : (zItems s xs k).length = (itemsTo s xs k).1.length := by
  have := itemsTo_len s xs k
  simp [zItems, List.length_zip]; omega

theorem zItems_step (s : Int) (xs : List Int) (k : Nat) (h : ¬ xs.getD k 0 % (2 * s) = 2 * s - 1) :
    ∃ J, J = insK (itemsTo s xs k).2 (itemK s xs k).1 (itemsTo s xs k).1.length ∧ zItems s xs (k + 1) = (zItems s xs k).take J ++ itemK s xs k :: (zItems s xs k).drop J := by
  refine ⟨_, rfl, ?_⟩
  have hl := itemsTo_len s xs k
  unfold zItems
  rw [show itemsTo s xs (k + 1) = ((itemsTo s xs k).1.take (insK (itemsTo s xs k).2 (itemK s xs k).1 (itemsTo s xs k).1.length) ++ xs.getD k 0 % (2 * s) :: (itemsTo s xs k).1.drop (insK (itemsTo s xs k).2 (itemK s xs k).1 (itemsTo s xs k).1.length), (itemsTo s xs k).2.take (insK (itemsTo s xs k).2 (itemK s xs k).1 (itemsTo s xs k).1.length) ++ (itemK s xs k).1 :: (itemsTo s xs k).2.drop (insK (itemsTo s xs k).2 (itemK s xs k).1 (itemsTo s xs k).1.length)) from by
    conv => lhs; unfold itemsTo
    rw [if_neg h]
    rfl]
  rw [List.zip_append (by simp; omega), List.zip_cons_cons]
  rw [List.zip_eq_zipWith, List.zip_eq_zipWith, List.zip_eq_zipWith, List.take_zipWith, List.drop_zipWith]
  rfl

theorem zItems_perm (s : Int) (xs : List Int) (k : Nat) : (zItems s xs k).Perm (wItems s xs k) := by
  induction k with
  | zero => exact List.Perm.refl _
  | succ k ih =>
    by_cases h : xs.getD k 0 % (2 * s) = 2 * s - 1
    · rw [show zItems s xs (k + 1) = zItems s xs k by unfold zItems; rw [itemsTo_same s xs k h], wItems_same s xs k h]
      exact ih
    · obtain ⟨J, -, e⟩ := zItems_step s xs k h
      rw [e, wItems_more s xs k h]
      refine List.perm_middle.trans ?_
      rw [List.take_append_drop]
      exact List.Perm.cons _ ih

theorem zItems_sorted (s : Int) (xs : List Int) (k : Nat) : (zItems s xs k).Pairwise byT := by
  induction k with
  | zero => exact List.Pairwise.nil
  | succ k ih =>
    by_cases h : xs.getD k 0 % (2 * s) = 2 * s - 1
    · rw [show zItems s xs (k + 1) = zItems s xs k by unfold zItems; rw [itemsTo_same s xs k h]]
      exact ih
    · obtain ⟨J, hJ, e⟩ := zItems_step s xs k h
      have hl := itemsTo_len s xs k
      have hJl : J ≤ (itemsTo s xs k).1.length := by rw [hJ]; exact insK_le _ _ _
      have hz := zItems_len s xs k
      have tick : ∀ i (hi : i < (zItems s xs k).length), ((zItems s xs k)[i]).1 = (itemsTo s xs k).2.getD i 0 := fun i hi => by
        have h2 : i < (itemsTo s xs k).2.length := by omega
        simp [zItems, h2]
      have hlo : ∀ y ∈ (zItems s xs k).take J, y.1 ≤ (itemK s xs k).1 := fun y hy => by
        obtain ⟨i, hi, rfl⟩ := List.mem_iff_getElem.1 hy
        have hi2 : i < J := by simp at hi; omega
        have hb := insK_lo (itemsTo s xs k).2 (itemK s xs k).1 (itemsTo s xs k).1.length (by omega)
        rw [← hJ] at hb
        rw [← tick (J - 1) (by omega)] at hb
        rw [List.getElem_take]
        refine Int.le_trans ?_ hb
        by_cases e1 : i = J - 1
        · subst e1; exact Int.le_refl _
        · exact List.pairwise_iff_getElem.1 ih i (J - 1) (by omega) (by omega) (by omega)
      have hhi : ∀ y ∈ (zItems s xs k).drop J, (itemK s xs k).1 ≤ y.1 := fun y hy => by
        obtain ⟨i, hi, rfl⟩ := List.mem_iff_getElem.1 hy
        simp at hi
        rw [List.getElem_drop, tick (J + i) (by omega)]
        exact Int.le_of_lt (insK_hi _ _ (itemsTo s xs k).1.length (J + i) (by omega) (by omega))
      rw [e, List.pairwise_append]
      refine ⟨List.Pairwise.sublist (List.take_sublist _ _) ih, ?_, fun a ha b hb => ?_⟩
      · rw [List.pairwise_cons]
        exact ⟨hhi, List.Pairwise.sublist (List.drop_sublist _ _) ih⟩
      · rcases List.mem_cons.1 hb with rfl | hb
        · exact hlo a ha
        · exact Int.le_trans (hlo a ha) (hhi b hb)

/-- What is told in the order of the tickets is the model's list. -/
theorem items_order {s t : Int} {xs : List Int} {n : Nat} {O : List (Int × Int)} (hp : okP s t) (hn : (n : Int) ≤ 2 * s) (hO : O.Perm (wItems s xs n)) (hs : O.Pairwise byT) : O.map Prod.snd = (itemsTo s xs n).1 := by
  have hz := zItems_perm s xs n
  have e : O = zItems s xs n := List.Perm.eq_of_pairwise (le := byT) (fun a b ha hb h1 h2 => items_apart hp hn (hO.mem_iff.1 ha) (hz.mem_iff.1 hb) (Int.le_antisymm h1 h2)) hs (zItems_sorted s xs n) (hO.trans hz.symm)
  rw [e]
  have hl := itemsTo_len s xs n
  exact List.map_snd_zip (by omega)

end Go.Proofs.Ytllepakgpiddeaa
