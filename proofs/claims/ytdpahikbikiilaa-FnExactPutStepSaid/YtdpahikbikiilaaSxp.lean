/- A walk by reckoning: parts of the call's own (rings of a law). It speaks of the laws' helpers of rings alone. -/
import Derived.Test.YtdpahikbikiilaaSxi
import Derived.Test.YtdpahikbikiilaaParts
namespace Go.Proofs.Ytdpahikbikiilaa
open Go.RowKit
namespace Sx

/-- A part. -/
def partP (ds : List Dy) : List (Nat × Obj) := (ds.headD default).p

/-- A slice of numbers with its blocks. -/
def PartOf (xs : List Int) (x : Dy) : Prop := ∃ a c, x.v = .slice a xs.length c ∧ OwnS x.p xs a xs.length c

theorem rows_app (E : Env) (δ : Dl) (m : List MRow) (o o' : List ORow) : rows E δ m (o ++ o') = rows E δ m o ++ o'.flatMap (oRow E δ) := by
  unfold rows
  rw [List.flatMap_append, List.append_assoc]

theorem obs_free {E : Env} {ns : List Nat} {δ δ' : Dl} (h : Agree ns δ δ') {obs : List ORow} (hf : freeO ns obs = true) : rows E δ' [] obs = rows E δ [] obs := rows_free h (mem := []) rfl hf

/-- A call that gives a new part. -/
theorem ob_newP {P : Program} {X : Ctx} {f : Nat} {args : List V} {pc : List (T × Bool)} {fs : List (Nat × List Nat)} {obs obs' : List ORow} {ret : V} {d j k : Nat} (hj : X.E.ob j = partP) (hfr : freeO [d] obs = true) (ho : obs' = obs ++ [(d, j, [d])])
    (h : ∀ δ w l, Pcs X.E δ pc → Fss X.E δ fs → Mem (rows X.E δ [] obs ++ l) X.G X.base w → Calls P f (args.map (V.den X.E δ)).toArray w fun e w' => ∃ x : Dy, e = .returned (ret.den X.E (upd δ d x)) ∧ Rows x.p w' ∧ (x.p.map Prod.fst).Nodup ∧ (∀ p ∈ x.p, w.heap.size ≤ p.1) ∧ X.E.fact k [x] ∧ Below w.heap.size w w') :
    (Ob.call f args pc fs [] obs { ret := ret, news := [d], obs := obs', fs := [(k, [d])] }).holds P X := by
  subst ho
  intro δ w l hpre
  refine (h δ w l (Each.of hpre.pc) (Each.of hpre.fs) hpre.blk).mono fun e w' ⟨x, he, hx, hnd, hn, hf, hb⟩ => ?_
  have ho : rows X.E (upd δ d x) [] (obs ++ [(d, j, [d])]) = rows X.E δ [] obs ++ x.p := by
    rw [rows_app, obs_free (upd_agree δ d x) hfr]
    simp [oRow, hj, partP, upd_same]
  refine ⟨upd δ d x, ⟨upd_agree δ d x, fun f hm => ?_, ?_, fun q hq => ?_⟩, he⟩
  · have : f = (k, [d]) := by simpa using hm
    subst this
    simpa [upd_same] using hf
  · simp only [ho]
    have := Mem.madeL hpre.blk hb hx hnd hn
    refine Mem.permOf this ?_
    rw [List.append_assoc]
    exact List.perm_append_comm_assoc _ _ _
  · simp only [ho] at hq
    rcases List.mem_append.1 hq with hq | hq
    · exact hpre.mine q hq
    · left
      have h1 := hpre.blk.grownIn.size
      have h2 := hn q hq
      omega

/-- A call that turns a part. -/
theorem ob_turnP {P : Program} {X : Ctx} (hG : X.G = []) {f : Nat} {args : List V} {pc : List (T × Bool)} {fs : List (Nat × List Nat)} {ret : V} {d1 d j k : Nat} (hj : X.E.ob j = partP) (hne : d1 ≠ d)
    (h : ∀ δ w l, Pcs X.E δ pc → Fss X.E δ fs → Mem ((δ d1).p ++ l) X.G X.base w → Calls P f (args.map (V.den X.E δ)).toArray w fun e w' => ∃ x : Dy, e = .returned (ret.den X.E (upd δ d x)) ∧ x.p.map Prod.fst = (δ d1).p.map Prod.fst ∧ Rows x.p w' ∧ GrownIn ((δ d1).p.map Prod.fst) w w' ∧ X.E.fact k [δ d1, x]) :
    (Ob.call f args pc fs [] [(d1, j, [d1])] { ret := ret, news := [d], obs := [(d, j, [d])], fs := [(k, [d1, d])] }).holds P X := by
  intro δ w l hpre
  have e0 : rows X.E δ [] [(d1, j, [d1])] = (δ d1).p := by simp [rows, oRow, hj, partP]
  have hblk : Mem ((δ d1).p ++ l) X.G X.base w := by have := hpre.blk; rwa [e0] at this
  have hmine : ∀ p ∈ (δ d1).p, X.base.heap.size ≤ p.1 := fun p hp => by
    have h1 := hpre.mine p (by rw [e0]; exact hp)
    unfold Mine at h1
    rw [hG] at h1
    simpa using h1
  have hnd : ((δ d1).p.map Prod.fst).Nodup := by
    have h2 := hblk.2.1
    rw [List.map_append] at h2
    exact (List.nodup_append.1 h2).1
  refine (h δ w l (Each.of hpre.pc) (Each.of hpre.fs) hblk).mono fun e w' ⟨x, he, hx, hr, hg, hf⟩ => ?_
  have e1 : rows X.E (upd δ d x) [] [(d, j, [d])] = x.p := by simp [rows, oRow, hj, partP, upd_same]
  refine ⟨upd δ d x, ⟨upd_agree δ d x, fun f hm => ?_, ?_, fun q hq => ?_⟩, he⟩
  · have : f = (k, [d1, d]) := by simpa using hm
    subst this
    have hd1 : upd δ d x d1 = δ d1 := by simp [upd, hne]
    simpa [upd_same, hd1] using hf
  · simp only [e1]
    exact Mem.mark hblk ⟨[], l, rfl, rfl⟩ hg hr hx hnd hmine
  · simp only [e1] at hq
    left
    have : q.1 ∈ (δ d1).p.map Prod.fst := by rw [← hx]; exact List.mem_map_of_mem hq
    obtain ⟨r, hr1, e2⟩ := List.mem_map.1 this
    rw [← e2]
    exact hmine r hr1

theorem fact_of {E : Env} {δ : Dl} {fs : List (Nat × List Nat)} (h : Fss E δ fs) {k : Nat} {ds : List Nat} (hm : (k, ds) ∈ fs) : E.fact k (ds.map δ) := h.all (k, ds) hm

theorem PartOf.ints {xs : List Int} {x : Dy} {w : World} (h : PartOf xs x) (hr : Rows x.p w) : ∃ a c, asSlice x.v = .slice a xs.length c ∧ IntsW (a, xs.length, xs) w := by
  obtain ⟨a, c, hv, ho⟩ := h
  exact ⟨a, c, by rw [hv]; rfl, ho.intsW hr⟩

end Sx
end Go.Proofs.Ytdpahikbikiilaa
