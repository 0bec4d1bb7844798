/- A heap of items (a ticket and a number), as lists: what a step up and a step down leave. -/
import Derived.Test.YtllepakgpiddeaaCells
namespace Go.Proofs.Ytllepakgpiddeaa
open Go.RowKit

/-- The ticket at a place. -/
def tk (L : List (Int × Int)) (k : Nat) : Int := (L.getD k (0, 0)).1

/-- Two items change places. -/
def swp (L : List (Int × Int)) (i j : Nat) : List (Int × Int) := (L.set i (L.getD j (0, 0))).set j (L.getD i (0, 0))

theorem swp_len (L : List (Int × Int)) (i j : Nat) : (swp L i j).length = L.length := by simp [swp]

theorem swp_at (L : List (Int × Int)) (i j k : Nat) (hi : i < L.length) (hj : j < L.length) : (swp L i j).getD k (0, 0) = if k = j then L.getD i (0, 0) else if k = i then L.getD j (0, 0) else L.getD k (0, 0) := by
  unfold swp
  by_cases h1 : k = j
  · subst h1; simp [List.getD_eq_getElem?_getD, hj]
  · rw [if_neg h1]
    by_cases h2 : k = i
    · subst h2
      have : ¬ j = k := fun e => h1 e.symm
      simp [List.getD_eq_getElem?_getD, List.getElem?_set, hi, this]
    · rw [if_neg h2]
      have a : ¬ j = k := fun e => h1 e.symm
      have b : ¬ i = k := fun e => h2 e.symm
      simp [List.getD_eq_getElem?_getD, List.getElem?_set, a, b]

theorem tk_swp (L : List (Int × Int)) (i j k : Nat) (hi : i < L.length) (hj : j < L.length) : tk (swp L i j) k = if k = j then tk L i else if k = i then tk L j else tk L k := by
  unfold tk
  rw [swp_at L i j k hi hj]
  split
  · rfl
  · split <;> rfl

theorem swp_perm (L : List (Int × Int)) (i j : Nat) (hi : i < L.length) (hj : j < L.length) : (swp L i j).Perm L := by
  have h := Array.swap_perm (xs := L.toArray) (i := i) (j := j) (by simpa using hi) (by simpa using hj)
  have h2 := Array.perm_iff_toList_perm.1 h
  have e : (L.toArray.swap i j (by simpa using hi) (by simpa using hj)).toList = swp L i j := by
    simp [swp, List.getD_eq_getElem?_getD, hi, hj]
  rw [e] at h2
  exact h2

/-- Of the first n places each one is no less than its parent. -/
def heapN (n : Nat) (L : List (Int × Int)) : Prop := ∀ k, 0 < k → k < n → tk L ((k - 1) / 2) ≤ tk L k

theorem heap_min {n : Nat} {L : List (Int × Int)} (h : heapN n L) : ∀ k, k < n → tk L 0 ≤ tk L k := by
  intro k
  induction k using Nat.strongRecOn with
  | _ k ih =>
    intro hk
    by_cases h0 : k = 0
    · subst h0; exact Int.le_refl _
    · exact Int.le_trans (ih ((k - 1) / 2) (by omega) (by omega)) (h k (by omega) hk)

def upInv (L : List (Int × Int)) (j : Nat) : Prop :=
  (∀ k, 0 < k → k < L.length → k ≠ j → tk L ((k - 1) / 2) ≤ tk L k) ∧ (∀ k, 0 < k → k < L.length → (k - 1) / 2 = j → 0 < j → tk L ((j - 1) / 2) ≤ tk L k)

theorem up_start {L : List (Int × Int)} (x : Int × Int) (h : heapN L.length L) : upInv (L ++ [x]) L.length := by
  have e : ∀ k, k < L.length → tk (L ++ [x]) k = tk L k := fun k hk => by simp [tk, List.getD_eq_getElem?_getD, List.getElem?_append_left hk]
  refine ⟨fun k h0 h1 h2 => ?_, fun k h0 h1 h2 h3 => ?_⟩
  · simp at h1
    rw [e _ (by omega), e _ (by omega)]
    exact h k h0 (by omega)
  · simp at h1; omega

theorem up_step {L : List (Int × Int)} {j : Nat} (h : upInv L j) (h0 : 0 < j) (hj : j < L.length) (hlt : tk L j < tk L ((j - 1) / 2)) : upInv (swp L ((j - 1) / 2) j) ((j - 1) / 2) := by
  obtain ⟨i, hi⟩ : ∃ i, i = (j - 1) / 2 := ⟨_, rfl⟩
  rw [← hi] at hlt ⊢
  have hij : i < j := by omega
  have T := tk_swp L i j
  have T' : ∀ k, tk (swp L i j) k = if k = j then tk L i else if k = i then tk L j else tk L k := fun k => T k (by omega) hj
  have ei : tk (swp L i j) i = tk L j := by rw [T', if_neg (by omega), if_pos rfl]
  have ej : tk (swp L i j) j = tk L i := by rw [T', if_pos rfl]
  have eo : ∀ k, k ≠ i → k ≠ j → tk (swp L i j) k = tk L k := fun k a b => by rw [T', if_neg b, if_neg a]
  obtain ⟨A, B⟩ := h
  refine ⟨fun k k0 k1 k2 => ?_, fun k k0 k1 k2 k3 => ?_⟩
  · rw [swp_len] at k1
    by_cases a : k = j
    · subst a; rw [← hi, ei, ej]; omega
    · rw [eo k k2 a]
      by_cases b : (k - 1) / 2 = i
      · rw [b, ei]
        have := A k k0 k1 a
        rw [b] at this
        omega
      · by_cases c : (k - 1) / 2 = j
        · rw [c, ej]
          have := B k k0 k1 c h0
          rw [← hi] at this
          exact this
        · rw [eo _ b c]; exact A k k0 k1 a
  · rw [swp_len] at k1
    have g1 : tk (swp L i j) ((i - 1) / 2) = tk L ((i - 1) / 2) := eo _ (by omega) (by omega)
    rw [g1]
    have gi := A i k3 (by omega) (by omega)
    by_cases a : k = j
    · subst a; rw [ej]; exact gi
    · rw [eo k (by omega) a]
      have := A k k0 k1 a
      rw [k2] at this
      omega

theorem up_done {L : List (Int × Int)} {j : Nat} (h : upInv L j) (hd : j = 0 ∨ ¬ tk L j < tk L ((j - 1) / 2)) : heapN L.length L := by
  intro k k0 k1
  by_cases a : k = j
  · subst a
    rcases hd with h | h <;> omega
  · exact h.1 k k0 k1 a

def downInv (n : Nat) (L : List (Int × Int)) (i : Nat) : Prop :=
  (∀ k, 0 < k → k < n → (k - 1) / 2 ≠ i → tk L ((k - 1) / 2) ≤ tk L k) ∧ (∀ k, 0 < k → k < n → (k - 1) / 2 = i → 0 < i → tk L ((i - 1) / 2) ≤ tk L k)

theorem down_start {n : Nat} {L : List (Int × Int)} (hl : L.length = n + 1) (h : heapN (n + 1) L) : downInv n (swp L 0 n) 0 := by
  refine ⟨fun k k0 k1 k2 => ?_, fun k k0 k1 k2 k3 => by omega⟩
  rw [tk_swp L 0 n _ (by omega) (by omega), tk_swp L 0 n _ (by omega) (by omega), if_neg (by omega), if_neg k2, if_neg (by omega), if_neg (by omega)]
  exact h k k0 (by omega)

theorem down_step {n : Nat} {L : List (Int × Int)} {i j : Nat} (h : downInv n L i) (hn : n ≤ L.length) (hj : j < n) (hp : (j - 1) / 2 = i) (h0 : 0 < j)
    (hm : ∀ c, 0 < c → c < n → (c - 1) / 2 = i → tk L j ≤ tk L c) (hlt : tk L j < tk L i) : downInv n (swp L i j) j := by
  have hij : i < j := by omega
  have T' : ∀ k, tk (swp L i j) k = if k = j then tk L i else if k = i then tk L j else tk L k := fun k => tk_swp L i j k (by omega) (by omega)
  have ei : tk (swp L i j) i = tk L j := by rw [T', if_neg (by omega), if_pos rfl]
  have ej : tk (swp L i j) j = tk L i := by rw [T', if_pos rfl]
  have eo : ∀ k, k ≠ i → k ≠ j → tk (swp L i j) k = tk L k := fun k a b => by rw [T', if_neg b, if_neg a]
  obtain ⟨A, B⟩ := h
  refine ⟨fun k k0 k1 k2 => ?_, fun k k0 k1 k2 k3 => ?_⟩
  · by_cases b : (k - 1) / 2 = i
    · rw [b, ei]
      by_cases a : k = j
      · subst a; rw [ej]; omega
      · rw [eo k (by omega) a]; exact hm k k0 k1 b
    · by_cases a : k = i
      · subst a
        rw [ei, eo _ (by omega) (by omega)]
        exact B j h0 hj hp k0
      · have c : k ≠ j := fun e => b (by rw [e]; exact hp)
        rw [eo k a c, eo _ b k2]
        exact A k k0 k1 b
  · rw [hp, ei, eo k (by omega) (by omega)]
    have := A k k0 k1 (by omega)
    rw [k2] at this
    exact this

theorem down_done {n : Nat} {L : List (Int × Int)} {i : Nat} (h : downInv n L i) (hd : ∀ c, 0 < c → c < n → (c - 1) / 2 = i → tk L i ≤ tk L c) : heapN n L := by
  intro k k0 k1
  by_cases a : (k - 1) / 2 = i
  · rw [a]; exact hd k k0 k1 a
  · exact h.1 k k0 k1 a

theorem heapN_take {n : Nat} {L : List (Int × Int)} (hn : n ≤ L.length) (h : heapN n L) : heapN (L.take n).length (L.take n) := by
  have e : ∀ k, k < n → tk (L.take n) k = tk L k := fun k hk => by simp [tk, List.getD_eq_getElem?_getD, List.getElem?_take_of_lt hk]
  intro k k0 k1
  simp at k1
  rw [e _ (by omega), e _ (by omega)]
  exact h k k0 (by omega)

/-- What is taken out is the least one, and what is left is a heap. -/
theorem pop_is {n : Nat} {L M : List (Int × Int)} (hl : L.length = n + 1) (h : heapN (n + 1) L) (hp : M.Perm (swp L 0 n)) (hM : heapN n M) (hx : M.getD n (0, 0) = (swp L 0 n).getD n (0, 0)) :
    L.Perm (M.getD n (0, 0) :: M.take n) ∧ heapN (M.take n).length (M.take n) ∧ (∀ y ∈ M.take n, (M.getD n (0, 0)).1 ≤ y.1) := by
  have hml : M.length = n + 1 := by rw [hp.length_eq, swp_len, hl]
  have e : M = M.take n ++ [M.getD n (0, 0)] := by
    have h1 : M.drop n = [M.getD n (0, 0)] := by
      rw [List.drop_eq_getElem_cons (by omega), List.drop_of_length_le (by omega)]
      simp [List.getD_eq_getElem?_getD, hml]
    rw [← h1, List.take_append_drop]
  have hperm : L.Perm (M.getD n (0, 0) :: M.take n) := by
    refine (swp_perm L 0 n (by omega) (by omega)).symm.trans (hp.symm.trans ?_)
    conv => lhs; rw [e]
    exact List.perm_append_singleton _ _
  refine ⟨hperm, heapN_take (by omega) hM, fun y hy => ?_⟩
  have hy2 : y ∈ L := hperm.mem_iff.2 (List.mem_cons_of_mem _ hy)
  obtain ⟨k, hk, rfl⟩ := List.mem_iff_getElem.1 hy2
  have := heap_min h k (by omega)
  rw [hx, swp_at L 0 n n (by omega) (by omega), if_pos rfl]
  simpa [tk, List.getD_eq_getElem?_getD, hk] using this

end Go.Proofs.Ytllepakgpiddeaa
