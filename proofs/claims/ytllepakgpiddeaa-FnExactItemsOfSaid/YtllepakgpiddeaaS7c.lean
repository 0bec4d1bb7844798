/- The model of what is in a ring: its items. -/
import Derived.Test.YtllepakgpiddeaaS7
import Derived.Test.YtllepakgpiddeaaApp
import Derived.Deep.RegionHeldLaw
import Derived.Deep.CutBlock
namespace Go.Proofs.Ytllepakgpiddeaa
open Go.RowKit

/-- Where a ticket comes in. -/
def insK (ts : List Int) (t : Int) : Nat → Nat
  | 0 => 0
  | k + 1 => if t < ts.getD k 0 then insK ts t k else k + 1

theorem insK_le (ts : List Int) (t : Int) (k : Nat) : insK ts t k ≤ k := by
  induction k with
  | zero => exact Nat.le_refl _
  | succ k ih =>
    unfold insK
    split
    · omega
    · exact Nat.le_refl _

/-- Numbers and their tickets, of the first k words. -/
def itemsTo (s : Int) (xs : List Int) : Nat → List Int × List Int
  | 0 => ([], [])
  | k + 1 =>
    if xs.getD k 0 % (2 * s) = 2 * s - 1 then itemsTo s xs k else
      let T := xs.getD k 0 / (4 * s) * 2 * s + unspotD s k
      let J := insK (itemsTo s xs k).2 T (itemsTo s xs k).1.length
      ((itemsTo s xs k).1.take J ++ xs.getD k 0 % (2 * s) :: (itemsTo s xs k).1.drop J, (itemsTo s xs k).2.take J ++ T :: (itemsTo s xs k).2.drop J)

theorem itemsTo_len (s : Int) (xs : List Int) (k : Nat) : (itemsTo s xs k).1.length = (itemsTo s xs k).2.length ∧ (itemsTo s xs k).1.length ≤ k := by
  induction k with
  | zero => exact ⟨rfl, Nat.le_refl _⟩
  | succ k ih =>
    unfold itemsTo
    split
    · exact ⟨ih.1, by omega⟩
    · have := insK_le (itemsTo s xs k).2 (xs.getD k 0 / (4 * s) * 2 * s + unspotD s k) (itemsTo s xs k).1.length
      simp
      omega

theorem hr_sizes {s t : Int} (h : okP s t) : s = 1 ∨ s = 2 ∨ s = 4 ∨ s = 8 := h.1

/-- A slice of the call's own that is not nil. -/
def OwnS (base g cap : Nat) (xs : List Int) (w : World) : Prop := OwnI base (.slice (some ⟨g, 0, none⟩) xs.length cap) xs w

theorem OwnS.facts {base g cap : Nat} {xs : List Int} {w : World} (h : OwnS base g cap xs w) : base ≤ g ∧ g < w.heap.size ∧ xs.length ≤ cap ∧ cap ≤ maxLen := by
  rcases h.2 with ⟨h', _⟩ | ⟨g', cap', cur, h', hb, hg, hc, hm, _⟩
  · cases h'
  · cases h'
    exact ⟨hb, blk_lt hg, hc, hm⟩

theorem OwnS.cell {base g cap : Nat} {xs : List Int} {w : World} (h : OwnS base g cap xs w) {i : Nat} {x : Int} (hx : xs[i]? = some x) : w.cell? ⟨g, i, none⟩ = some (.int .i64 x) := by
  obtain ⟨a, c, e, hi⟩ := OwnI.form h
  cases e
  have := IntsW.cell hi hx
  simpa using this

theorem OwnS.pre {base g cap : Nat} {xs : List Int} {w : World} (h : OwnS base g cap xs w) {k : Nat} (hk : k ≤ xs.length) : OwnI base (.slice (some ⟨g, 0, none⟩) k cap) (xs.take k) w := by
  rcases h.2 with ⟨h', _⟩ | ⟨g', cap', cur, h', hb, hg, hc, hm, hs, ht⟩
  · cases h'
  · cases h'
    have hl : (xs.take k).length = k := by simp; omega
    refine ⟨by simp [vals], Or.inr ⟨g, cap, cur, by rw [hl], hb, hg, by rw [hl]; omega, hm, hs, ?_⟩⟩
    rw [hl]
    have : (cur.toList.take (xs.length * 1)).take k = (vals xs).take k := by rw [ht]
    rw [List.take_take] at this
    simpa [vals, List.map_take, Nat.min_eq_left hk] using this

theorem OwnS.step {base g cap : Nat} {xs : List Int} {w w' : World} (h : OwnS base g cap xs w) (hb : Below w.heap.size w w') : OwnS base g cap xs w' := OwnI.step h hb

theorem OwnS.kept {base g cap : Nat} {xs : List Int} {w w' : World} {row : Option Nat} (h : OwnS base g cap xs w) (hg : w.grownBy w' row) (hr : row ≠ some g) : OwnS base g cap xs w' :=
  World.ownsRow.kept h hg (Or.inr (fun e => hr (by rw [← e]; rfl)))

theorem OwnS.of_some {base g : Nat} {v : Value} {xs : List Int} {w : World} (h : OwnI base v xs w) (hv : v.ownBlock = some g) : ∃ cap, v = .slice (some ⟨g, 0, none⟩) xs.length cap ∧ OwnS base g cap xs w := by
  have h0 := h
  rcases h.2 with ⟨rfl, _⟩ | ⟨g', cap', cur, rfl, -⟩
  · cases hv
  · simp [Value.ownBlock] at hv
    subst hv
    exact ⟨_, rfl, h0⟩

/-- The end of a slice. -/
theorem OwnS.suf {base g cap : Nat} {xs : List Int} {w : World} (h : OwnS base g cap xs w) {k : Nat} (hk : k ≤ xs.length) {a : Option Addr} (ha : k < xs.length → a = some ⟨g, k, none⟩) : IntsW (a, xs.length - k, xs.drop k) w := by
  have hi := OwnI.form h
  obtain ⟨a', c', e, hi⟩ := hi
  cases e
  refine ⟨by simp, fun i x hx => ?_⟩
  rw [List.getElem?_drop] at hx
  have hlt : k + i < xs.length := by
    rcases Nat.lt_or_ge (k + i) xs.length with h' | h'
    · exact h'
    · simp [List.getElem?_eq_none h'] at hx
  refine ⟨g, k, ha (by omega), h.facts.2.1, ?_⟩
  exact h.cell hx

theorem OwnS.ne_block {base g cap b : Nat} {xs : List Int} {w : World} {cs : Array Value} {T : TypeId} (h : OwnS base g cap xs w) (hb : w.heap[b]? = some (.cells cs T (0, 0))) (hT : T ≠ 2) : g ≠ b := by
  intro e
  subst e
  rcases h.2 with ⟨h', _⟩ | ⟨g', cap', cur, h', _, hg, _⟩
  · cases h'
  · cases h'
    rw [hg] at hb
    cases hb
    exact hT rfl

theorem OwnS.sufL {base g cap L : Nat} {xs : List Int} {w : World} (h : OwnS base g cap xs w) (hL : L = xs.length) {k : Nat} (hk : k ≤ L) {a : Option Addr} (ha : k < L → a = some ⟨g, k, none⟩) : IntsW (a, L - k, xs.drop k) w := by
  subst hL; exact h.suf hk ha

/-- The rows that are not one of block k's. -/
def Apart (N gt g : Nat) (va vb : Value) (k : Nat) : Prop := N ≤ k ∧ k ≠ gt ∧ k ≠ g ∧ (∀ j, va.ownBlock = some j → k ≠ j) ∧ (∀ j, vb.ownBlock = some j → k ≠ j)

/-- What a write to one row apart leaves. -/
theorem keep5 {N gt g ct : Nat} {ts xa xb : List Int} {ba bb : Nat} {va vb i : Value} {B : Nat} {l : List (Nat × Obj)} {is : List (Option Addr × Nat × List Int)} {base w w' : World} {row : Option Nat} (hg : w.grownBy w' row)
    (hr : ∀ k, row = some k → Apart N gt g va vb k) (hT : OwnS N gt ct ts w) (hA : OwnI ba va xa w) (hB : OwnI bb vb xb w) (hQ : Hold B N l is base w) (hc : w.cell? ⟨g, 2, none⟩ = some i) :
    w'.cell? ⟨g, 2, none⟩ = some i ∧ OwnS N gt ct ts w' ∧ OwnI ba va xa w' ∧ OwnI bb vb xb w' ∧ Hold B N l is base w' ∧ w.heap.size ≤ w'.heap.size :=
  ⟨hg.cell hc (fun e => (hr g e.symm).2.2.1 rfl), OwnS.kept hT hg (fun e => (hr gt e).2.1 rfl), OwnI.kept hA hg (fun k e e2 => (hr k e2).2.2.2.1 k e rfl), OwnI.kept hB hg (fun k e e2 => (hr k e2).2.2.2.2 k e rfl), hQ.grown hg (fun k e => (hr k e).1), hg.size⟩

theorem row_next {v v' : Value} {r H H' : Nat} (h : v'.ownBlock = v.ownBlock ∨ v'.ownBlock = some H) (hv : v.ownBlock = some r) (hH : H = H') : v'.ownBlock = some r ∨ v'.ownBlock = some H' := by
  rcases h with h | h
  · exact Or.inl (h.trans hv)
  · exact Or.inr (by rw [h, hH])

theorem row_next2 {v v' : Value} {r H H' : Nat} (h : v'.ownBlock = v.ownBlock ∨ v'.ownBlock = some H') (hv : v.ownBlock = some r ∨ v.ownBlock = some H) : v'.ownBlock = some r ∨ v'.ownBlock = some H ∨ v'.ownBlock = some H' := by
  rcases h with h | h
  · rcases hv with hv | hv
    · exact Or.inl (h.trans hv)
    · exact Or.inr (Or.inl (h.trans hv))
  · exact Or.inr (Or.inr h)

theorem apart_or {N gt g : Nat} {va vb v : Value} {r H : Nat} (h : v.ownBlock = some r ∨ v.ownBlock = some H) (h1 : Apart N gt g va vb r) (h2 : Apart N gt g va vb H) : ∀ k, v.ownBlock = some k → Apart N gt g va vb k := by
  intro k e
  rcases h with h | h
  · rw [h] at e; cases e; exact h1
  · rw [h] at e; cases e; exact h2

set_option maxRecDepth 100000 in
set_option maxHeartbeats 4000000 in
theorem itemsOf_yes (s t : Int) (a : Option Addr) (n cap : Nat) (xs : List Int) (h tl l : Int) (w : World) (hi : IntsW (a, n, xs) w) (hx64 : ∀ x ∈ xs, W64 x) (hn : n ≤ 1048576) (hr : okR s t xs h tl l) :
    Calls Try.prog 6 #[.agg #[.int .i64 s, .int .i64 t], .agg #[.slice a n cap, .int .i64 h, .int .i64 tl, .int .i64 l]] w (GivesI (itemsTo s xs n).1 w) := by
  have hp := hr.1
  obtain ⟨g1, g2⟩ := okP_le hp
  have hl : xs.length = n := hi.1
  have hlen : (n : Int) = 2 * s := by rw [← hl]; exact hr.2.1
  have HQ := Lib.hid ((((Hold.start w).addI hi).new (.cells #[.int .i64 s, .int .i64 t] 29)).new (.cells #[.slice a n cap, .int .i64 h, .int .i64 tl, .int .i64 l] 31))
  have HO := Lib.hid (show OwnI (w.heap.size + 1 + 1) (.slice (some ⟨w.heap.size + 1 + 1, 0, none⟩) 0 0) [] ((((w.alloc (.cells #[.int .i64 s, .int .i64 t] 29)).alloc (.cells #[.slice a n cap, .int .i64 h, .int .i64 tl, .int .i64 l] 31)).alloc (.cells #[] 2))) from by
    have := World.ownsRow_made (base := w.heap.size + 1 + 1) (e := 2) (size := 1) ((w.alloc (.cells #[.int .i64 s, .int .i64 t] 29)).alloc (.cells #[.slice a n cap, .int .i64 h, .int .i64 tl, .int .i64 l] 31)) #[] 0 (by simp) (Nat.zero_le _) rfl
    simpa [OwnI, vals] using this)
  simp only [World.size_alloc] at HQ
  have HRK := Lib.hid (specRing_yes s t a n cap xs h tl l hx64 hn hr)
  have HP := Lib.hid hp
  have HNO := Lib.hid (specNone_yes s t hp)
  have HWX := Lib.hid hr.2.2.2.2.2
  clear hi hx64 hr hp
  go_enter Try.func6, Try.ntmps6
  go_wp2_with (go_at_call 19; (with_reducible refine (HRK.out _ ((HQ.out.alloc _).ints)).mono ?_); rintro e w1 ⟨rfl, hb⟩; have HQ1 := Lib.hid ((HQ.out.alloc _).step hb); have HO1 := Lib.hid (HO.out.step hb); have z1 := HQ1.out.size; clear hb HQ HO; obtain ⟨q0, q1, q2, q3, -, -, -, -⟩ := blk_four HQ1.out.hd)
  go_loopw [5, 6, 7] (fun vo vt i wr => ∃ k go co gt ct : Nat, k ≤ n ∧ i = .int .i64 k ∧ vo = .slice (some ⟨go, 0, none⟩) (itemsTo s xs k).1.length co ∧ vt = .slice (some ⟨gt, 0, none⟩) (itemsTo s xs k).2.length ct ∧ Hold w.heap.size (w.heap.size + 1 + 1) [(w.heap.size + 1, .cells #[.slice a n cap, .int .i64 h, .int .i64 tl, .int .i64 l] 31), (w.heap.size, .cells #[.int .i64 s, .int .i64 t] 29)] [(a, n, xs)] w wr ∧ OwnS (w.heap.size + 1 + 1) go co (itemsTo s xs k).1 wr ∧ OwnS (w.heap.size + 1 + 1) gt ct (itemsTo s xs k).2 wr ∧ go ≠ gt) (fun _ _ i _ => n - (intOf i).toNat)
  case atStart =>
    refine ⟨0, w.heap.size + 1 + 1, 0, w1.heap.size, 0, Nat.zero_le _, rfl, rfl, rfl, HQ1.out.alloc _, OwnI.alloc HO1.out _, ?_, ?_⟩
    · exact World.ownsRow_made w1 #[] 0 z1 (Nat.zero_le _) rfl
    · have := (OwnS.facts (cap := 0) (xs := []) HO1.out).2.1; omega
  case round =>
    obtain ⟨k, go, co, gt, ct, hk, rfl, rfl, rfl, hq, ho, ht, hne⟩ := hrel
    have HQ2 := Lib.hid hq
    have HO2 := Lib.hid ho
    have HT2 := Lib.hid ht
    have hlens := itemsTo_len s xs k
    clear hq ho ht q0 q1 q2 q3 HQ1 HO1
    by_cases hlt : k < n
    case neg =>
      have e : k = n := by omega
      subst e
      obtain ⟨q0, q1, q2, q3, -, -, -, -⟩ := blk_four HQ2.out.hd
      go_wp2
      go_ret
      exact ⟨_, rfl, OwnI.low HO2.out (by omega), HQ2.out.below⟩
    have hlt' : (k : Int) < n := by omega
    obtain ⟨b, off, rfl, -, x, hx, -⟩ := Ints.at_ HQ2.out.ints hlt
    have hW : okW s t x := HWX.out x (List.mem_of_getElem? hx)
    have HEN := Lib.hid (specEntryOf_yes s t x hW)
    have HXX := Lib.hid hx
    have hxd : xs.getD k 0 = x := by rw [List.getD_eq_getElem?_getD, hx]; rfl
    have HST := Lib.hid (show itemsTo s xs (k + 1) = if x % (2 * s) = 2 * s - 1 then itemsTo s xs k else
      ((itemsTo s xs k).1.take (insK (itemsTo s xs k).2 (x / (4 * s) * 2 * s + unspotD s k) (itemsTo s xs k).1.length) ++ x % (2 * s) :: (itemsTo s xs k).1.drop (insK (itemsTo s xs k).2 (x / (4 * s) * 2 * s + unspotD s k) (itemsTo s xs k).1.length), (itemsTo s xs k).2.take (insK (itemsTo s xs k).2 (x / (4 * s) * 2 * s + unspotD s k) (itemsTo s xs k).1.length) ++ (x / (4 * s) * 2 * s + unspotD s k) :: (itemsTo s xs k).2.drop (insK (itemsTo s xs k).2 (x / (4 * s) * 2 * s + unspotD s k) (itemsTo s xs k).1.length)) by rw [← hxd]; rfl)
    have C0 : 0 ≤ x / (4 * s) := Int.ediv_nonneg hW.2.1 (by omega)
    have C1 := hW.2.2
    have hJ : okJ s t k := ⟨HP.out, by omega, by omega⟩
    obtain ⟨-, -, -, U0, U1, -⟩ := spot_in hJ
    have HUN := Lib.hid (specUnspot_yes s t k hJ)
    obtain ⟨M, hM⟩ : ∃ M, M = 2 * s - 1 := ⟨_, rfl⟩
    rw [← hM] at HNO HST
    unfold entD at HEN
    generalize unspotD s k = U at *
    generalize x / (4 * s) = C at *
    generalize (x / (2 * s) % 2 == 1) = Z at *
    generalize x % (2 * s) = I at *
    generalize hst : itemsTo s xs k = st at *
    obtain ⟨os, ts⟩ := st
    simp only at hlens HST HO2 HT2 ⊢
    have HL1 := Lib.hid hlens.1.symm
    have hLk : os.length ≤ k := hlens.2
    obtain ⟨L, hLo⟩ : ∃ L, L = os.length := ⟨_, rfl⟩
    have hLt : L = ts.length := by rw [hLo]; exact hlens.1
    rw [← hLo] at hLk
    rw [← hLo, ← hLt]
    have HLO := Lib.hid hLo
    have HLT := Lib.hid hLt
    clear hlens hLo hLt
    clear hW hJ hx hxd hM
    have HR2 := Lib.hid HQ2.out.rebase
    obtain ⟨q0, q1, q2, q3, -, -, -, -⟩ := blk_four HQ2.out.hd
    go_upto_region 8 with fail
    clear q0 q1 q2 q3
    go_cut [8] (fun s1 wx => Points (.cells #[.int .i64 C, .bool Z, .int .i64 I] 43) (fun _ w' => Hold wr.heap.size (wr.heap.size) [(w.heap.size + 1, .cells #[.slice (some ⟨b, off, none⟩) n cap, .int .i64 h, .int .i64 tl, .int .i64 l] 31), (w.heap.size, .cells #[.int .i64 s, .int .i64 t] 29)] [(some ⟨b, off, none⟩, n, xs)] wr w') s1 wx)
    case first =>
      as_aux_lemma =>
        have hF : ∀ {w' : World}, Hold wr.heap.size (wr.heap.size) [(w.heap.size + 1, .cells #[.slice (some ⟨b, off, none⟩) n cap, .int .i64 h, .int .i64 tl, .int .i64 l] 31), (w.heap.size, .cells #[.int .i64 s, .int .i64 t] 29)] [(some ⟨b, off, none⟩, n, xs)] wr w' → w'.cell? ⟨w.heap.size + 1, 0, none⟩ = some (.slice (some ⟨b, off, none⟩) n cap) ∧ w'.cell? ⟨w.heap.size + 1, 1, none⟩ = some (.int .i64 h) ∧ w'.cell? ⟨w.heap.size + 1, 2, none⟩ = some (.int .i64 tl) ∧ w'.cell? ⟨w.heap.size + 1, 3, none⟩ = some (.int .i64 l) ∧ w'.cell? ⟨w.heap.size, 0, none⟩ = some (.int .i64 s) ∧ w'.cell? ⟨w.heap.size, 1, none⟩ = some (.int .i64 t) ∧ w'.cell? ⟨b, off + k, none⟩ = some (.int .i64 x) ∧ Hold wr.heap.size (wr.heap.size) [(w.heap.size + 1, .cells #[.slice (some ⟨b, off, none⟩) n cap, .int .i64 h, .int .i64 tl, .int .i64 l] 31), (w.heap.size, .cells #[.int .i64 s, .int .i64 t] 29)] [(some ⟨b, off, none⟩, n, xs)] wr w' := fun h => ⟨blk_is h.hd (by rfl), blk_is h.hd (by rfl), blk_is h.hd (by rfl), blk_is h.hd (by rfl), blk_is h.tl.hd (by rfl), blk_is h.tl.hd (by rfl), IntsW.cell h.ints HXX.out, h⟩
        have hs0 := HR2.out.size
        go_region_held3 (fun w' => w'.cell? ⟨w.heap.size + 1, 0, none⟩ = some (.slice (some ⟨b, off, none⟩) n cap) ∧ w'.cell? ⟨w.heap.size + 1, 1, none⟩ = some (.int .i64 h) ∧ w'.cell? ⟨w.heap.size + 1, 2, none⟩ = some (.int .i64 tl) ∧ w'.cell? ⟨w.heap.size + 1, 3, none⟩ = some (.int .i64 l) ∧ w'.cell? ⟨w.heap.size, 0, none⟩ = some (.int .i64 s) ∧ w'.cell? ⟨w.heap.size, 1, none⟩ = some (.int .i64 t) ∧ w'.cell? ⟨b, off + k, none⟩ = some (.int .i64 x) ∧ Hold wr.heap.size (wr.heap.size) [(w.heap.size + 1, .cells #[.slice (some ⟨b, off, none⟩) n cap, .int .i64 h, .int .i64 tl, .int .i64 l] 31), (w.heap.size, .cells #[.int .i64 s, .int .i64 t] 29)] [(some ⟨b, off, none⟩, n, xs)] wr w')
          (with_reducible refine hF ?_; repeat' (first | with_reducible exact HR2.out | with_reducible exact htc | with_reducible refine Hold.drew ?_ | with_reducible refine Hold.alloc ?_ _ | ((with_reducible refine Hold.set ?_ ?_ _ _); rotate_left; focus (first | omega | (simp; done) | (simp; omega)))))
          ((first
            | (go_at_call 20; (try go_split_ands); (with_reducible refine (HEN.out _).mono ?_); rintro e wx ⟨rfl, hbx⟩; have htc := Hold.step (by assumption) hbx; (first | (have hG := blk_below hG hbx (blk_lt hG); obtain ⟨x0, x1, x2, f0, f1, f2⟩ := blk_three hG) | (have hG := new_below hbx; (try simp only [World.size_alloc] at hG); obtain ⟨x0, x1, x2, f0, f1, f2⟩ := blk_three hG) | (have hG := new_drew_below hbx; (try simp only [World.size_alloc] at hG); obtain ⟨x0, x1, x2, f0, f1, f2⟩ := blk_three hG) | skip); have hsw := Hold.size htc)))
        all_goals
          go_wp2_with fail
          go_meet
          (try go_split_ands)
          refine ⟨_, rfl, ?_, by assumption⟩
          first
            | exact blk_new _ _
            | exact blk_set3 hG
            | exact blk_set3 (blk_new _ _)
    case rest =>
      obtain ⟨g, rfl, hg, hk⟩ := hcut
      have HQ3 := Lib.hid ((HQ2.out.step hk.below))
      have HO3 := Lib.hid (HO2.out.step hk.below)
      have HT3 := Lib.hid (HT2.out.step hk.below)
      have HR3 := Lib.hid ((hk.rebase).add hg)
      clear hg hk HQ2 HO2 HT2 HR2
      generalize wc = wA at *
      go_upto_region 9 with fail
      go_cut [42] (fun s1 wx => s1 = .bool (I == M) ∧ Hold wA.heap.size (wA.heap.size) [(g, .cells #[.int .i64 C, .bool Z, .int .i64 I] 43), (w.heap.size + 1, .cells #[.slice (some ⟨b, off, none⟩) n cap, .int .i64 h, .int .i64 tl, .int .i64 l] 31), (w.heap.size, .cells #[.int .i64 s, .int .i64 t] 29)] [(some ⟨b, off, none⟩, n, xs)] wA wx)
      case first =>
        as_aux_lemma =>
          have hF : ∀ {w' : World}, Hold wA.heap.size (wA.heap.size) [(g, .cells #[.int .i64 C, .bool Z, .int .i64 I] 43), (w.heap.size + 1, .cells #[.slice (some ⟨b, off, none⟩) n cap, .int .i64 h, .int .i64 tl, .int .i64 l] 31), (w.heap.size, .cells #[.int .i64 s, .int .i64 t] 29)] [(some ⟨b, off, none⟩, n, xs)] wA w' → w'.cell? ⟨g, 0, none⟩ = some (.int .i64 C) ∧ w'.cell? ⟨g, 1, none⟩ = some (.bool Z) ∧ w'.cell? ⟨g, 2, none⟩ = some (.int .i64 I) ∧ w'.cell? ⟨w.heap.size, 0, none⟩ = some (.int .i64 s) ∧ w'.cell? ⟨w.heap.size, 1, none⟩ = some (.int .i64 t) ∧ Hold wA.heap.size (wA.heap.size) [(g, .cells #[.int .i64 C, .bool Z, .int .i64 I] 43), (w.heap.size + 1, .cells #[.slice (some ⟨b, off, none⟩) n cap, .int .i64 h, .int .i64 tl, .int .i64 l] 31), (w.heap.size, .cells #[.int .i64 s, .int .i64 t] 29)] [(some ⟨b, off, none⟩, n, xs)] wA w' := fun h => ⟨blk_is h.hd (by rfl), blk_is h.hd (by rfl), blk_is h.hd (by rfl), blk_is h.tl.tl.hd (by rfl), blk_is h.tl.tl.hd (by rfl), h⟩
          go_region_held3 (fun w' => w'.cell? ⟨g, 0, none⟩ = some (.int .i64 C) ∧ w'.cell? ⟨g, 1, none⟩ = some (.bool Z) ∧ w'.cell? ⟨g, 2, none⟩ = some (.int .i64 I) ∧ w'.cell? ⟨w.heap.size, 0, none⟩ = some (.int .i64 s) ∧ w'.cell? ⟨w.heap.size, 1, none⟩ = some (.int .i64 t) ∧ Hold wA.heap.size (wA.heap.size) [(g, .cells #[.int .i64 C, .bool Z, .int .i64 I] 43), (w.heap.size + 1, .cells #[.slice (some ⟨b, off, none⟩) n cap, .int .i64 h, .int .i64 tl, .int .i64 l] 31), (w.heap.size, .cells #[.int .i64 s, .int .i64 t] 29)] [(some ⟨b, off, none⟩, n, xs)] wA w')
            (with_reducible refine hF ?_; repeat' (first | with_reducible exact HR3.out | with_reducible exact htc | with_reducible refine Hold.drew ?_ | with_reducible refine Hold.alloc ?_ _))
            ((first
              | (go_at_call 21; (try go_split_ands); (with_reducible refine (HNO.out _).mono ?_); rintro e wx ⟨rfl, hbx⟩; have htc := Hold.step (by assumption) hbx)))
          all_goals
            go_wp2_with fail
            go_meet
            (try go_split_ands)
            exact ⟨rfl, by assumption⟩
      case rest =>
        obtain ⟨rfl, hk⟩ := hcut
        have HQ4 := Lib.hid ((HQ3.out.step hk.below))
        have HO4 := Lib.hid (HO3.out.step hk.below)
        have HT4 := Lib.hid (HT3.out.step hk.below)
        have HR4 := Lib.hid hk.rebase
        clear hk HQ3 HO3 HT3 HR3
        by_cases hm : I = M
        case pos =>
          have hd2 : (I == M) = true := by simp [hm]
          have he := HST.out
          rw [if_pos hm] at he
          go_wp2
          go_roundw
          case rel => exact ⟨k + 1, go, co, gt, ct, by omega, by go_num, by rw [he, HLO.out], by rw [he, HLT.out], HQ4.out, by rw [he]; exact HO4.out, by rw [he]; exact HT4.out, hne⟩
          case measure => simp [intOf]; omega
        have hd2 : (I == M) = false := by simp [hm]
        have HST2 := Lib.hid (HST.out.trans (if_neg hm))
        clear HST
        have e1 : IntKind.i64.wrap (C * 2) = C * 2 := by rw [IntKind.wrap_i64]; omega
        have hcs : 0 ≤ C * 2 * s ∧ C * 2 * s ≤ 16000000 := by
          have := hr_sizes HP.out
          rcases this with rfl | rfl | rfl | rfl <;> omega
        have e2 : IntKind.i64.wrap (C * 2 * s) = C * 2 * s := by rw [IntKind.wrap_i64]; omega
        have e3 : IntKind.i64.wrap (C * 2 * s + U) = C * 2 * s + U := by rw [IntKind.wrap_i64]; omega
        generalize wc = wB at *
        go_upto_region 10 with fail
        go_cut [10] (fun s1 wx => s1 = .int .i64 (C * 2 * s + U) ∧ Hold wB.heap.size (wB.heap.size) [(g, .cells #[.int .i64 C, .bool Z, .int .i64 I] 43), (w.heap.size + 1, .cells #[.slice (some ⟨b, off, none⟩) n cap, .int .i64 h, .int .i64 tl, .int .i64 l] 31), (w.heap.size, .cells #[.int .i64 s, .int .i64 t] 29)] [(some ⟨b, off, none⟩, n, xs)] wB wx)
        case first =>
          as_aux_lemma =>
            have hF : ∀ {w' : World}, Hold wB.heap.size (wB.heap.size) [(g, .cells #[.int .i64 C, .bool Z, .int .i64 I] 43), (w.heap.size + 1, .cells #[.slice (some ⟨b, off, none⟩) n cap, .int .i64 h, .int .i64 tl, .int .i64 l] 31), (w.heap.size, .cells #[.int .i64 s, .int .i64 t] 29)] [(some ⟨b, off, none⟩, n, xs)] wB w' → w'.cell? ⟨g, 0, none⟩ = some (.int .i64 C) ∧ w'.cell? ⟨g, 1, none⟩ = some (.bool Z) ∧ w'.cell? ⟨g, 2, none⟩ = some (.int .i64 I) ∧ w'.cell? ⟨w.heap.size, 0, none⟩ = some (.int .i64 s) ∧ w'.cell? ⟨w.heap.size, 1, none⟩ = some (.int .i64 t) ∧ Hold wB.heap.size (wB.heap.size) [(g, .cells #[.int .i64 C, .bool Z, .int .i64 I] 43), (w.heap.size + 1, .cells #[.slice (some ⟨b, off, none⟩) n cap, .int .i64 h, .int .i64 tl, .int .i64 l] 31), (w.heap.size, .cells #[.int .i64 s, .int .i64 t] 29)] [(some ⟨b, off, none⟩, n, xs)] wB w' := fun h => ⟨blk_is h.hd (by rfl), blk_is h.hd (by rfl), blk_is h.hd (by rfl), blk_is h.tl.tl.hd (by rfl), blk_is h.tl.tl.hd (by rfl), h⟩
            go_region_held3 (fun w' => w'.cell? ⟨g, 0, none⟩ = some (.int .i64 C) ∧ w'.cell? ⟨g, 1, none⟩ = some (.bool Z) ∧ w'.cell? ⟨g, 2, none⟩ = some (.int .i64 I) ∧ w'.cell? ⟨w.heap.size, 0, none⟩ = some (.int .i64 s) ∧ w'.cell? ⟨w.heap.size, 1, none⟩ = some (.int .i64 t) ∧ Hold wB.heap.size (wB.heap.size) [(g, .cells #[.int .i64 C, .bool Z, .int .i64 I] 43), (w.heap.size + 1, .cells #[.slice (some ⟨b, off, none⟩) n cap, .int .i64 h, .int .i64 tl, .int .i64 l] 31), (w.heap.size, .cells #[.int .i64 s, .int .i64 t] 29)] [(some ⟨b, off, none⟩, n, xs)] wB w')
              (with_reducible refine hF ?_; repeat' (first | with_reducible exact HR4.out | with_reducible exact htc | with_reducible refine Hold.drew ?_ | with_reducible refine Hold.alloc ?_ _))
              ((first
                | (go_at_call 22; (try go_split_ands); (with_reducible refine (HUN.out _).mono ?_); rintro e wx ⟨rfl, hbx⟩; have htc := Hold.step (by assumption) hbx)))
            all_goals
              go_wp2_with fail
              go_meet
              (try go_split_ands)
              exact ⟨rfl, by assumption⟩
        case rest =>
          obtain ⟨rfl, hk⟩ := hcut
          have HQ5 := Lib.hid ((HQ4.out.step hk.below))
          have HO5 := Lib.hid (HO4.out.step hk.below)
          have HT5 := Lib.hid (HT4.out.step hk.below)
          have HR5 := Lib.hid hk.rebase
          clear hk HQ4 HO4 HT4 HR4
          generalize C * 2 * s + U = T at *
          generalize wc = wC at *
          go_upto_block 2 with fail
          go_cut [11] (fun s1 wx => wx = wC ∧ s1 = .int .i64 ((insK ts T L : Nat) : Int))
          case first =>
            as_aux_lemma =>
              go_wp2_with fail
              go_loop [11] (fun kk => ∃ j : Nat, j ≤ L ∧ kk = .int .i64 j ∧ insK ts T j = insK ts T L) (fun kk => (intOf kk).toNat)
              case atStart => exact ⟨L, Nat.le_refl _, rfl, rfl⟩
              case round =>
                obtain ⟨j, hj, rfl, hins⟩ := hrel
                cases j with
                | zero =>
                  go_wp2
                  go_meet
                  exact ⟨rfl, by rw [← hins]; rfl⟩
                | succ j =>
                  have hjl : j < ts.length := by rw [← HLT.out]; omega
                  have hc := OwnS.cell HT5.out (List.getElem?_eq_getElem hjl)
                  have hyd : ts.getD j 0 = ts[j] := by rw [List.getD_eq_getElem?_getD, List.getElem?_eq_getElem hjl]; rfl
                  have hsub : wrap64 (((j + 1 : Nat) : Int) - 1) = (j : Int) := by unfold wrap64; omega
                  have hsub2 : IntKind.i64.wrap (((j + 1 : Nat) : Int) - 1) = (j : Int) := by rw [IntKind.wrap_i64]; omega
                  have hlen' := (OwnS.facts HT5.out).2.2
                  generalize ts[j] = y at *
                  by_cases hy : T < y
                  · have hi2 := Lib.hid (show insK ts T j = insK ts T L from by rw [← hins]; show _ = if T < ts.getD j 0 then _ else _; rw [hyd, if_pos hy])
                    clear hins
                    go_wp2
                    go_round
                    case rel => exact ⟨j, by omega, by go_num, hi2.out⟩
                    case measure => simp [intOf]
                  · have hi2 := Lib.hid (show (j + 1 : Nat) = insK ts T L from by rw [← hins]; show _ = if T < ts.getD j 0 then _ else _; rw [hyd, if_neg hy])
                    clear hins
                    go_wp2
                    go_meet
                    exact ⟨rfl, by rw [← hi2.out]; simp⟩
          case rest =>
            obtain ⟨rfl, rfl⟩ := hcut
            have hJL : insK ts T L ≤ L := insK_le ts T L
            have HJ := Lib.hid (rfl : insK ts T L = insK ts T L)
            rw [← HLO.out] at HST2
            generalize hJJ : insK ts T L = J at *
            clear hJJ HJ
            have fo := OwnS.facts HO5.out
            have ft := OwnS.facts HT5.out
            rw [← HLO.out] at fo
            rw [← HLT.out] at ft
            have mo := fo.2.2.2
            have mt := ft.2.2.2
            unfold maxLen at mo mt
            have co1 := fo.2.2.1
            have ct1 := ft.2.2.1
            generalize wc = wC at *
            go_upto_region 14 with fail
            go_cut [5, 12] (fun s0 s1 wx => s0 = .slice (some ⟨go, 0, none⟩) L co ∧ OwnI wC.heap.size s1 (os.drop J) wx ∧ Below wC.heap.size wC wx)
            case first =>
              as_aux_lemma =>
                go_wp2_with (go_at_call 23; (refine (specCopy _ _ _ (os.drop J) _ (OwnS.sufL HO5.out HLO.out hJL (fun hx => by first | rfl | (exfalso; omega))) (by omega)).mono ?_); rintro e w2 ⟨v2, rfl, ho2, hb2⟩)
                all_goals
                  go_meet
                  exact ⟨by first | rfl | (simp; omega), ho2, hb2⟩
            case rest =>
              obtain ⟨rfl, hcp, hbl⟩ := hcut
              have HQ6 := Lib.hid (HQ5.out.step hbl)
              have HO6 := Lib.hid (HO5.out.step hbl)
              have HT6 := Lib.hid (HT5.out.step hbl)
              have HR6 := Lib.hid (HR5.out.step hbl).rebase
              have HA6 := Lib.hid hcp
              have z6 := hbl.size
              clear hcp hbl HQ5 HO5 HT5 HR5
              generalize wc = wD at *
              go_upto_region 15 with fail
              go_cut [6, 13] (fun s0 s1 wx => s0 = .slice (some ⟨gt, 0, none⟩) L ct ∧ OwnI wD.heap.size s1 (ts.drop J) wx ∧ Below wD.heap.size wD wx)
              case first =>
                as_aux_lemma =>
                  go_wp2_with (go_at_call 23; (refine (specCopy _ _ _ (ts.drop J) _ (OwnS.sufL HT6.out HLT.out hJL (fun hx => by first | rfl | (exfalso; omega))) (by omega)).mono ?_); rintro e w2 ⟨v2, rfl, ho2, hb2⟩)
                  all_goals
                    go_meet
                    exact ⟨by first | rfl | (simp; omega), ho2, hb2⟩
              case rest =>
                obtain ⟨rfl, hcp, hbl⟩ := hcut
                have HQ7 := Lib.hid (HQ6.out.step hbl)
                have HO7 := Lib.hid (HO6.out.step hbl)
                have HT7 := Lib.hid (HT6.out.step hbl)
                have HR7 := Lib.hid (HR6.out.step hbl).rebase
                have HA7 := Lib.hid (OwnI.step HA6.out hbl)
                have HB7 := Lib.hid hcp
                have z7 := hbl.size
                clear hcp hbl HQ6 HO6 HT6 HR6 HA6
                generalize wc = wE at *
                obtain ⟨aA, dA, cA, rfl, hiA⟩ := HA7.out.form2
                obtain ⟨aB, dB, cB, rfl, hiB⟩ := HB7.out.form2
                have hdA : dA ≤ 1048576 := by have := hiA.1; simp at this; rw [← this, ← HLO.out]; omega
                have hdB : dB ≤ 1048576 := by have := hiB.1; simp at this; rw [← this, ← HLT.out]; omega
                have HIA := Lib.hid hiA
                have ltA := Lib.hid HA7.out.lt
                have ltB := Lib.hid HB7.out.lt
                clear hiA hiB
                have gE : wE.cell? ⟨g, 2, none⟩ = some (.int .i64 I) := blk_is HR7.out.hd (by rfl)
                have ngo : go ≠ g := OwnS.ne_block HO7.out HR7.out.hd (by decide)
                have ngt : gt ≠ g := OwnS.ne_block HT7.out HR7.out.hd (by decide)
                have hgl : g < wE.heap.size := blk_lt HR7.out.hd
                have f1 := fo.1
                have f2 := fo.2.1
                have f3 := ft.1
                have f4 := ft.2.1
                clear fo ft
                have zN := HQ7.out.size
                have hJo : J ≤ os.length := by rw [← HLO.out]; exact hJL
                have bW : Below wE.heap.size wE (wE.alloc (.cells #[.int .i64 I] 2)).drew := ((Below.refl _ _).alloc (Nat.le_refl _) _).drew
                have V1 := Lib.hid (OwnS.pre (OwnS.step HO7.out bW) hJo)
                have V2 := Lib.hid (show IntsW (some ⟨wE.heap.size, 0, none⟩, 1, [I]) (wE.alloc (.cells #[.int .i64 I] 2)).drew from IntsW.at_block (t := 2) (blk_new wE _) rfl)
                have V3 := Lib.hid (OwnS.step HT7.out bW)
                have V4 := Lib.hid (OwnI.step HA7.out bW)
                have V5 := Lib.hid (OwnI.step HB7.out bW)
                have V6 := Lib.hid (HQ7.out.step bW)
                have V7 := Lib.hid (blk_below HR7.out.hd bW hgl)
                have hJos : (os.take J).length = J := by simp; omega
                clear HO7 HT7 HA7 HB7 HQ7
                have AP1 : Apart (w.heap.size + 1 + 1) gt g (.slice aA dA cA) (.slice aB dB cB) go := ⟨f1, hne, ngo, fun j e => by have := ltA j e; omega, fun j e => by have := ltB j e; omega⟩
                have AP2 : Apart (w.heap.size + 1 + 1) gt g (.slice aA dA cA) (.slice aB dB cB) (wE.heap.size + 1) := ⟨by omega, by omega, by omega, fun j e => by have := ltA j e; omega, fun j e => by have := ltB j e; omega⟩
                have AP1' : ∀ k, (Value.slice (some ⟨go, 0, none⟩) J co).ownBlock = some k → Apart (w.heap.size + 1 + 1) gt g (.slice aA dA cA) (.slice aB dB cB) k := fun k e => by cases e; exact AP1
                have gW : (wE.alloc (.cells #[.int .i64 I] 2)).drew.cell? ⟨g, 2, none⟩ = some (.int .i64 I) := cell_alloc gE
                have zW : (wE.alloc (.cells #[.int .i64 I] 2)).drew.heap.size = wE.heap.size + 1 := by show (wE.alloc _).heap.size = _; simp
                go_upto_region 16 with fail
                go_region_held_law (fun w' => w'.cell? ⟨g, 2, none⟩ = some (.int .i64 I))
                  (first | assumption | exact gE | exact gW)
                  (first
                    | (refine step_app (by rfl) _ _ (by rfl) (w.heap.size + 1 + 1) (.slice (some ⟨go, 0, none⟩) J co) (os.take J) [I] (some ⟨wE.heap.size, 0, none⟩) 1 1 (by rfl) (by rfl) V1.out V2.out (by omega) (by simp; omega) ?_; intro v1 w1' ho1 hg1 hv1; obtain ⟨hcE, T1, A1, B1, Q1, s1⟩ := keep5 hg1 AP1' V3.out V4.out V5.out V6.out gW; have hw1 := row_next hv1 (by rfl) zW; have HO1' := Lib.hid ho1; have HK1 := Lib.hid (And.intro T1 (And.intro A1 (And.intro B1 Q1))); have AP3 := apart_or hw1 AP1 AP2; clear hv1 hg1 ho1 T1 A1 B1 Q1)
                    | (refine step_app (by rfl) _ _ (by rfl) (w.heap.size + 1 + 1) v1 (os.take J ++ [I]) (os.drop J) aA dA cA (by rfl) (by rfl) HO1'.out (OwnI.ints HK1.out.2.1) (by simp; omega) (by have := HK1.out.2.2.2.size; omega) ?_; intro v2 w2' ho2 hg2 hv2; obtain ⟨hcE2, T2, A2, B2, Q2, s2⟩ := keep5 hg2 AP3 HK1.out.1 HK1.out.2.1 HK1.out.2.2.1 HK1.out.2.2.2 hcE; have hw2 := row_next2 hv2 hw1; have HO2' := Lib.hid ho2; have HK2 := Lib.hid (And.intro T2 (And.intro B2 Q2)); clear hv2 hg2 ho2 T2 A2 B2 Q2))
                all_goals
                  have hs1 : wE.heap.size + 1 ≤ w1'.heap.size := by rw [zW] at s1; exact s1
                  obtain ⟨g', hg', hne', hlo'⟩ : ∃ g', v2.ownBlock = some g' ∧ g' ≠ gt ∧ (g' = go ∨ wE.heap.size ≤ g') := by
                    rcases hw2 with e | e | e
                    · exact ⟨go, e, hne, Or.inl rfl⟩
                    · exact ⟨_, e, by omega, Or.inr (by omega)⟩
                    · exact ⟨_, e, by omega, Or.inr (by omega)⟩
                  obtain ⟨c', rfl, hS2⟩ := OwnS.of_some HO2'.out hg'
                  have glt := (OwnS.facts hS2).2.1
                  have hll : (os.take J ++ [I] ++ os.drop J).length = L + 1 := by simp; rw [← HLO.out]; omega
                  have hJt : J ≤ ts.length := by rw [← HLT.out]; exact hJL
                  have hJts : (ts.take J).length = J := by simp; omega
                  have hJtd : (ts.take J ++ [T]).length = J + 1 := by simp; omega
                  have U1 := Lib.hid (OwnS.pre (OwnI.alloc HK2.out.1 (.cells #[.int .i64 T] 2)) hJt)
                  have U2 := Lib.hid (show IntsW (some ⟨w2'.heap.size, 0, none⟩, 1, [T]) (w2'.alloc (.cells #[.int .i64 T] 2)) from IntsW.at_block (t := 2) (blk_new w2' _) rfl)
                  have U3 : OwnS (w.heap.size + 1 + 1) g' c' (os.take J ++ [I] ++ os.drop J) (w2'.alloc (.cells #[.int .i64 T] 2)) := OwnI.alloc hS2 _
                  have U4 := OwnI.alloc HK2.out.2.1 (.cells #[.int .i64 T] 2)
                  have U5 := HK2.out.2.2.alloc (.cells #[.int .i64 T] 2)
                  have hN2 := HK2.out.2.2.size
                  have gE2 : (w2'.alloc (.cells #[.int .i64 T] 2)).cell? ⟨g, 2, none⟩ = some (.int .i64 I) := cell_alloc hcE2
                  have HU := Lib.hid (And.intro U3 (And.intro U4 (And.intro U5 gE2)))
                  have AQ1 : Apart (w.heap.size + 1 + 1) g' g (.slice aB dB cB) (.slice aB dB cB) gt := ⟨f3, fun e => hne' e.symm, ngt, fun j e => by have := ltB j e; omega, fun j e => by have := ltB j e; omega⟩
                  have AQ2 : Apart (w.heap.size + 1 + 1) g' g (.slice aB dB cB) (.slice aB dB cB) (w2'.heap.size + 1) := ⟨by omega, by omega, by omega, fun j e => by have := ltB j e; omega, fun j e => by have := ltB j e; omega⟩
                  have AQ1' : ∀ k, (Value.slice (some ⟨gt, 0, none⟩) J ct).ownBlock = some k → Apart (w.heap.size + 1 + 1) g' g (.slice aB dB cB) (.slice aB dB cB) k := fun k e => by cases e; exact AQ1
                  have hz3 : (w2'.alloc (.cells #[.int .i64 T] 2)).heap.size = w2'.heap.size + 1 := by simp
                  rw [hll]
                  clear hS2 U3 U4 U5 gE2 HK2 hw2 hg' hll V1 V2 V3 V4 V5 V6 hcE hcE2 HK1 HO1' hw1 AP3
                  go_wp2_with (first | (refine wpList_app (by rfl) _ _ (by rfl) (w.heap.size + 1 + 1) (.slice (some ⟨gt, 0, none⟩) J ct) (ts.take J) [T] (some ⟨w2'.heap.size, 0, none⟩) 1 1 (by rfl) (by rfl) U1.out U2.out (by omega) (by simp; omega) ?_; intro v3 w3' ho3 hg3 hv3; obtain ⟨hcE3, S3, B3, -, Q3, s3⟩ := keep5 hg3 AQ1' HU.out.1 HU.out.2.1 HU.out.2.1 HU.out.2.2.1 HU.out.2.2.2; have hw3 := row_next hv3 (by rfl) hz3; have HO3' := Lib.hid ho3; have HK3 := Lib.hid (And.intro S3 (And.intro B3 Q3)); have AQ3 := apart_or hw3 AQ1 AQ2; clear hv3 hg3 ho3 S3 B3 Q3) | (refine wpList_app (by rfl) _ _ (by rfl) (w.heap.size + 1 + 1) v3 (ts.take J ++ [T]) (ts.drop J) aB dB cB (by rfl) (by rfl) HO3'.out (OwnI.ints HK3.out.2.1) (by omega) (by have := HK3.out.2.2.size; omega) ?_; intro v4 w4' ho4 hg4 hv4; obtain ⟨hcE4, S4, B4, -, Q4, s4⟩ := keep5 hg4 AQ3 HK3.out.1 HK3.out.2.1 HK3.out.2.1 HK3.out.2.2 hcE3; have hw4 := row_next2 hv4 hw3; have HO4' := Lib.hid ho4; have HK4 := Lib.hid (And.intro S4 Q4); clear hv4 hg4 ho4 S4 B4 Q4))
                  obtain ⟨gt', hgt', hneq⟩ : ∃ gt', v4.ownBlock = some gt' ∧ g' ≠ gt' := by
                    rcases hw4 with e | e | e
                    · exact ⟨gt, e, hne'⟩
                    · exact ⟨_, e, by omega⟩
                    · exact ⟨_, e, by omega⟩
                  obtain ⟨ct', rfl, hT4⟩ := OwnS.of_some HO4'.out hgt'
                  have HT4' := Lib.hid hT4
                  have hos := Lib.hid (show os.take J ++ [I] ++ os.drop J = (itemsTo s xs (k + 1)).1 from by rw [HST2.out]; simp)
                  have hts := Lib.hid (show ts.take J ++ [T] ++ ts.drop J = (itemsTo s xs (k + 1)).2 from by rw [HST2.out]; simp)
                  have hll := Lib.hid (show (os.take J ++ [I] ++ os.drop J).length = L + 1 from by simp; rw [← HLO.out]; omega)
                  clear hT4 hw4 hgt'
                  go_roundw
                  case rel => exact ⟨k + 1, g', c', gt', ct', by omega, by go_num, by rw [← hos.out, hll.out], by rw [← hts.out], HK4.out.2, by rw [← hos.out]; exact HK4.out.1, by rw [← hts.out]; exact HT4'.out, hneq⟩
                  case measure => simp [intOf]; omega

theorem itemsOf_no (s t : Int) (a : Option Addr) (n cap : Nat) (xs : List Int) (h tl l : Int) (w : World) (hi : IntsW (a, n, xs) w) (hx64 : ∀ x ∈ xs, W64 x) (hn : n ≤ 1048576) (hr : ¬ okR s t xs h tl l) :
    Calls Try.prog 6 #[.agg #[.int .i64 s, .int .i64 t], .agg #[.slice a n cap, .int .i64 h, .int .i64 tl, .int .i64 l]] w (GivesI [] w) := by
  have HQ := Lib.hid ((((Hold.start w).addI hi).new (.cells #[.int .i64 s, .int .i64 t] 29)).new (.cells #[.slice a n cap, .int .i64 h, .int .i64 tl, .int .i64 l] 31))
  have HO := Lib.hid (show OwnI (w.heap.size + 1 + 1) (.slice (some ⟨w.heap.size + 1 + 1, 0, none⟩) 0 0) [] ((((w.alloc (.cells #[.int .i64 s, .int .i64 t] 29)).alloc (.cells #[.slice a n cap, .int .i64 h, .int .i64 tl, .int .i64 l] 31)).alloc (.cells #[] 2))) from by
    have := World.ownsRow_made (base := w.heap.size + 1 + 1) (e := 2) (size := 1) ((w.alloc (.cells #[.int .i64 s, .int .i64 t] 29)).alloc (.cells #[.slice a n cap, .int .i64 h, .int .i64 tl, .int .i64 l] 31)) #[] 0 (by simp) (Nat.zero_le _) rfl
    simpa [OwnI, vals] using this)
  simp only [World.size_alloc] at HQ
  have HRK := Lib.hid (specRing_no s t a n cap xs h tl l hx64 hn hr)
  clear hi hx64 hr
  go_enter Try.func6, Try.ntmps6
  go_wp2_with (go_at_call 19; (with_reducible refine (HRK.out _ ((HQ.out.alloc _).ints)).mono ?_); rintro e w1 ⟨rfl, hb⟩; have HQ1 := Lib.hid ((HQ.out.alloc _).step hb); have HO1 := Lib.hid (HO.out.step hb); clear hb HQ HO)
  go_ret
  exact ⟨_, rfl, OwnI.low HO1.out (by omega), HQ1.out.below⟩

def itemsV (s t : Int) (xs : List Int) (h tl l : Int) : List Int := if okR s t xs h tl l then (itemsTo s xs xs.length).1 else []

theorem specItemsOf (s t : Int) (a : Option Addr) (n cap : Nat) (xs : List Int) (h tl l : Int) (w : World) (hi : IntsW (a, n, xs) w) (hx64 : ∀ x ∈ xs, W64 x) (hn : n ≤ 1048576) :
    Calls Try.prog 6 #[.agg #[.int .i64 s, .int .i64 t], .agg #[.slice a n cap, .int .i64 h, .int .i64 tl, .int .i64 l]] w (GivesI (itemsV s t xs h tl l) w) := by
  have hl : xs.length = n := hi.1
  by_cases hr : okR s t xs h tl l
  · rw [show itemsV s t xs h tl l = (itemsTo s xs n).1 by unfold itemsV; rw [if_pos hr, hl]]
    exact itemsOf_yes s t a n cap xs h tl l w hi hx64 hn hr
  · rw [show itemsV s t xs h tl l = [] from if_neg hr]
    exact itemsOf_no s t a n cap xs h tl l w hi hx64 hn hr

end Go.Proofs.Ytllepakgpiddeaa
