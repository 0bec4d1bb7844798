/- The program's steps: giving up, what is caught, a copy of the words. -/
import Derived.Test.YtdpahikbikiilaaSxi
import Derived.Test.YtdpahikbikiilaaApp
import Derived.Recover
import Derived.WalkLawsBesides
namespace Go.Proofs.Ytdpahikbikiilaa
open Go.RowKit

set_option maxRecDepth 100000 in
set_option maxHeartbeats 4000000 in
theorem iClone (ad : Addr) (n cap : Nat) (xs : List Int) (w : World) (h : IntsW (some ad, n, xs) w) (hn : n ≤ 4194304) :
    Calls Try.prog 56 #[.slice (some ad) n cap] w (GivesI xs w) := by
  have H := Lib.hid h
  clear h
  have H0 := Lib.hid (show OwnI w.heap.size (.slice (some ⟨w.heap.size, 0, none⟩) 0 0) [] (w.alloc (.cells #[] 2)) from World.ownsRow_made w #[] 0 (Nat.le_refl _) (Nat.zero_le _) rfl)
  have hnil : ∀ w, (binOp .eql 24 (.slice (some ad) n cap) (.slice none 0 0)).run Try.prog w = .ok (.bool false) w := fun w => by kernel_rfl
  go_enter Try.func56, Try.ntmps56
  go_wp2_with (refine wpList_app (by rfl) _ _ (by rfl) w.heap.size _ [] xs (some ad) n cap (by rfl) (by rfl) H0.out (H.out.alloc _) (by simp; omega) (by simp) ?_; intro v' w' ho hg hv)
  go_ret
  exact ⟨v', rfl, by simpa using ho, Below.grown ((Below.refl _ _).alloc (Nat.le_refl _) _) hg (by simp) (fun k e => by cases e; exact Nat.le_refl _)⟩

/-- A copy, its row known whole. -/
theorem iCloneRow (a : Option Addr) (n cap : Nat) (xs : List Int) (w : World) (h : IntsW (a, n, xs) w) (hn : n ≤ 4194304) (h0 : 0 < n) :
    Calls Try.prog 56 #[.slice a n cap] w fun e w' => ∃ (gw cc : Nat) (cur : Array Value), e = .returned (.slice (some ⟨gw, 0, none⟩) n cc) ∧ w.heap.size ≤ gw ∧ w'.heap[gw]? = some (.cells cur 2 (0, 0)) ∧ cur.toList.take n = vals xs ∧ (n ≤ cc ∧ cc ≤ maxLen ∧ cur.size = cc) ∧ Below w.heap.size w w' := by
  have hxl : xs.length = n := h.1
  obtain ⟨x, hx⟩ : ∃ x, xs[0]? = some x := ⟨xs[0], List.getElem?_eq_getElem (by omega)⟩
  obtain ⟨b, off, rfl, -, -⟩ := h.2 0 x hx
  exact (iClone ⟨b, off, none⟩ n cap xs w h hn).mono fun e w' ⟨v, he, ho, hb⟩ => by
    obtain ⟨-, ho⟩ := ho
    rcases ho with ⟨-, h1⟩ | ⟨gw, cc, cur, hv, hg, hh, hc1, hc2, hc3, ht⟩
    · omega
    · subst hv
      exact ⟨gw, cc, cur, by rw [he, hxl], hg, hh, by rw [hxl, Nat.mul_one] at ht; exact ht, ⟨by omega, hc2, by omega⟩, hb⟩

/-- What is given up with. -/
def gaveV : Value := .iface 9 (.string ⟨#[116, 104, 105, 115, 32, 115, 116, 101, 112, 32, 99, 97, 110, 39, 116, 32, 98, 101, 32, 100, 111, 110, 101]⟩)

theorem iGiveUp (w : World) : Calls Try.prog 63 #[] w fun e w' => e = .panicked [{ v := gaveV, recovered := false }] ∧ w = w' := by
  go_enter Try.func63, Try.ntmps63
  go_wp2
  exact ⟨rfl, rfl, rfl⟩

theorem iCatch (v : Value) (w : World) : CallsD Try.prog 30 #[] (.panicking [{ v := v, recovered := false }]) w fun e u' w' => e = .returned (.tuple #[]) ∧ u' = .panicking [{ v := v, recovered := true }] ∧ w' = w := by
  refine callsD_of_wpS Try.func30 rfl fun c₀ cs hu => ?_
  apply wpS_region
  simp [wpOpsS, go_sem, recoverD, hu, Try.ntmps30, bodyPostS, results, Try.results30]

theorem iIdle (w : World) : CallsD Try.prog 30 #[] .returning w fun e u' w' => e = .returned (.tuple #[]) ∧ u' = .returning ∧ w' = w := by
  refine callsD_of_wpS Try.func30 rfl fun c₀ cs hu => ?_
  apply wpS_region
  simp [wpOpsS, go_sem, recoverD, hu, Try.ntmps30, bodyPostS, results, Try.results30]
  cases c₀
  simp_all

theorem catPut : ∀ f ∈ [30], Sx.CatOk Try.prog f := fun f hf => by
  have : f = 30 := by simpa using hf
  subst this
  exact ⟨by kernel_rfl, iCatch, iIdle⟩

end Go.Proofs.Ytdpahikbikiilaa
