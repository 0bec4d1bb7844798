/- A walk by reckoning: regions that draw their order, code, functions. It speaks of no function. -/
import Derived.Test.YtdpahikbikiilaaSxd
namespace Go.Proofs.Ytdpahikbikiilaa
open Go.RowKit
namespace Sx

def dedup {α : Type} [DecidableEq α] : List α → List α
  | [] => []
  | x :: xs => let r := dedup xs; if r.contains x then r else x :: r

theorem mem_dedup {α : Type} [DecidableEq α] {x : α} : ∀ {l : List α}, x ∈ l → x ∈ dedup l
  | [], h => by cases h
  | y :: ys, h => by
    simp only [dedup]
    split
    · rename_i hc
      rcases List.mem_cons.1 h with rfl | h
      · simpa using hc
      · exact mem_dedup h
    · rcases List.mem_cons.1 h with rfl | h
      · exact List.mem_cons_self
      · exact List.mem_cons_of_mem _ (mem_dedup h)

/-! Rows that a region reads and leaves as they are. -/

def frameR (R : List MRow) : List (Option V) := R.map fun r => some (.tup [.one (.ptr r.1 0), .agg r.2.2])

def SR (E : Env) (R : List MRow) (kR : Array Value) (w : World) : Prop := ∀ δ, Frame1 E δ (frameR R) kR → RowsAt E δ R w

theorem SR_of {E : Env} {R : List MRow} {kR : Array Value} {δ : Dl} {w : World} (hF : Frame1 E δ (frameR R) kR) (hR : RowsAt E δ R w) : SR E R kR w := by
  intro δ2 hF2 r hr
  obtain ⟨i, hi⟩ := List.mem_iff_getElem?.1 hr
  have hfi : (frameR R)[i]? = some (some (.tup [.one (.ptr r.1 0), .agg r.2.2])) := by
    unfold frameR
    rw [List.getElem?_map, hi]; rfl
  have h1 := hF.2 i _ hfi
  have h2 := hF2.2 i _ hfi
  rw [h1] at h2
  simp only [Option.some.injEq, V.den, V0.den, T.den, List.map_cons, List.map_nil, Value.tuple.injEq, List.toArray_eq_toArray_eq, List.cons.injEq, Value.pointer.injEq, Addr.mk.injEq, Value.agg.injEq, and_true] at h2
  have h3 := hR r hr
  rw [h2.1, h2.2] at h3
  exact h3

def dstFree (rs : List Nat) (d : Option Tmp) : Bool := match d with | some d => !rs.contains d | none => true

/-- What may be taken first: its value does not hang on what comes up meanwhile. -/
def takeO (C : Cfg) (hint : Hints) (f reg : Nat) (rs : List Nat) (ops : Array Oper) (R : List MRow) (ls : List Bool) (st : St) (i : Nat) : Option (Option Tmp × V) :=
  match ops[i]? with
  | none => none
  | some o =>
    if Region.free .any ops ls.toArray i && dstFree rs o.dst then
      match wantT C.σ ops o st with
      | some [(false, pc)] => if pc = st.pc then some (o.dst, .undef) else none
      | some [(true, pc)] =>
        if pc = st.pc ∧ (hint (f, reg, i) o.op (callOf st.tm o.op) st).isNone then
          match pureO C { st with mem := R } o.op with
          | some v => some (o.dst, v)
          | none => none
        else none
      | _ => none
    else none

theorem takeO_yields {C : Cfg} {X : Ctx} (hE : X.E.ok C.σ) {hint : Hints} {f reg : Nat} {rs : List Nat} {ops : Array Oper} {R : List MRow} {kR : Array Value} {ls : List Bool} {st : St} {i : Nat} {dv : Option Tmp × V} (h : takeO C hint f reg rs ops R ls st i = some dv) {δ : Dl} {a : Act}
    (hF : Frame1 X.E δ st.tm a.tmps) (hp : PcOk X.E δ st.pc) (hR : Frame1 X.E δ (frameR R) kR) : ∃ o, ops[i]? = some o ∧ o.dst = dv.1 ∧ Region.free .any ops ls.toArray i = true ∧ (∀ d, o.dst = some d → d ∉ rs) ∧ YieldsIf C.P ops (SR X.E R kR) o (dv.2.den X.E δ) a := by
  unfold takeO at h
  split at h
  · cases h
  · rename_i o hi
    split at h
    · rename_i hf
      rw [Bool.and_eq_true] at hf
      have hd : ∀ d, o.dst = some d → d ∉ rs := fun d hd => by
        have := hf.2
        rw [hd] at this
        simpa [dstFree] using this
      split at h
      · rename_i pc hw
        split at h
        · simp only [Option.some.injEq] at h; subst h
          obtain ⟨x, hx, h1, h2⟩ := wantT_den hE hw hF hp
          have hx1 : x = (false, pc) := by simpa using hx
          subst hx1
          exact ⟨o, hi, rfl, hf.1, hd, .inr ⟨h1, rfl⟩⟩
        · cases h
      · rename_i pc hw
        split at h
        · rename_i hh
          split at h
          · rename_i v hv
            simp only [Option.some.injEq] at h; subst h
            obtain ⟨x, hx, h1, h2⟩ := wantT_den hE hw hF hp
            have hx1 : x = (true, pc) := by simpa using hx
            subst hx1
            exact ⟨o, hi, rfl, hf.1, hd, .inl ⟨h1, fun w hw => pureO_run (st := { st with mem := R }) hE hp hF (hw δ hR) hv⟩⟩
          · cases h
        · cases h
      · cases h
    · cases h

/-- One operation more, whichever comes up. -/
def stepLv (C : Cfg) (hint : Hints) (inl : Inl) (f reg pre : Nat) (rs : List Nat) (ops : Array Oper) (R : List MRow) (x : List Bool × St) : Option (List Ob × List (Ex × List Bool × St)) :=
  let rd := Region.ready .any ops x.1.toArray
  if rd.isEmpty then some ([], [(.ret, x.1, x.2)])
  else
    match rd.findSome? fun i => (takeO C hint f reg rs ops R x.1 x.2 i).map fun v => (i, v) with
    | some (i, dv) => some ([], [(.normal, x.1.set i true, { x.2 with tm := putT x.2.tm dv.1 dv.2 })])
    | none => go rd
where
  go : List Nat → Option (List Ob × List (Ex × List Bool × St))
    | [] => some ([], [])
    | i :: is =>
      match opG C hint inl f reg pre ops i x.2, go is with
      | some r, some r2 => if r.2.all fun y => decide (y.2.kp = x.2.kp) && R.all fun q => y.2.mem.contains q then some (r.1 ++ r2.1, r.2.map (fun y => (y.1, x.1.set i true, y.2)) ++ r2.2) else none
      | _, _ => none

def runLv (C : Cfg) (hint : Hints) (inl : Inl) (f reg pre : Nat) (rs : List Nat) (ops : Array Oper) (R : List MRow) : Nat → List (List Bool × St) → Option Out
  | 0, fr => if fr.all fun x => (Region.ready .any ops x.1.toArray).isEmpty then some ([], fr.map fun x => (.normal, x.2)) else none
  | n + 1, fr =>
    match all fr with
    | some r =>
      match runLv C hint inl f reg pre rs ops R n (dedup (r.2.filterMap fun y => match y.1 with | .normal => some y.2 | _ => none)) with
      | some r2 => some (r.1 ++ r2.1, dedup ((r.2.filterMap fun y => match y.1 with | .normal => none | .ret => some (.normal, y.2.2) | e => some (e, y.2.2)) ++ r2.2))
      | none => none
    | none => none
where
  all : List (List Bool × St) → Option (List Ob × List (Ex × List Bool × St))
    | [] => some ([], [])
    | x :: xs => match stepLv C hint inl f reg pre rs ops R x, all xs with | some r, some r2 => some (r.1 ++ r2.1, r.2 ++ r2.2) | _, _ => none

section
variable {C : Cfg} {X : Ctx} (hE : X.E.ok C.σ) {hint : Hints} {inl : Inl} (hI : InlOk C.P X inl)
include hE hI

omit hE hI in
theorem all_mem {f reg pre : Nat} {rs : List Nat} {ops : Array Oper} {R : List MRow} : ∀ {fr : List (List Bool × St)} {r : List Ob × List (Ex × List Bool × St)}, runLv.all C hint inl f reg pre rs ops R fr = some r → ∀ x ∈ fr, ∃ r', stepLv C hint inl f reg pre rs ops R x = some r' ∧ (∀ b ∈ r'.1, b ∈ r.1) ∧ (∀ y ∈ r'.2, y ∈ r.2)
  | [], _, _, x, hx => by cases hx
  | y :: ys, r, h, x, hx => by
    simp only [runLv.all] at h
    split at h
    · rename_i r1 rs h1 h2
      simp only [Option.some.injEq] at h; subst h
      rcases List.mem_cons.1 hx with rfl | hx
      · exact ⟨r1, h1, fun b hb => List.mem_append_left _ hb, fun z hz => List.mem_append_left _ hz⟩
      · obtain ⟨r', h3, h4, h5⟩ := all_mem h2 x hx
        exact ⟨r', h3, fun b hb => List.mem_append_right _ (h4 b hb), fun z hz => List.mem_append_right _ (h5 z hz)⟩
    · cases h

omit hE hI in
theorem go_mem {f reg pre : Nat} {ops : Array Oper} {R : List MRow} {x : List Bool × St} : ∀ {is : List Nat} {r : List Ob × List (Ex × List Bool × St)}, stepLv.go C hint inl f reg pre ops R x is = some r → ∀ i ∈ is, ∃ r', opG C hint inl f reg pre ops i x.2 = some r' ∧ (∀ b ∈ r'.1, b ∈ r.1) ∧ (∀ y ∈ r'.2, (y.1, x.1.set i true, y.2) ∈ r.2 ∧ y.2.kp = x.2.kp ∧ ∀ q ∈ R, q ∈ y.2.mem)
  | [], _, _, i, hi => by cases hi
  | j :: js, r, h, i, hi => by
    simp only [stepLv.go] at h
    split at h
    · rename_i r1 r2 h1 h2
      split at h
      · rename_i hc
        simp only [Option.some.injEq] at h; subst h
        rcases List.mem_cons.1 hi with rfl | hi
        · have hc1 := List.all_eq_true.1 hc
          simp only [Bool.and_eq_true, decide_eq_true_eq] at hc1
          refine ⟨r1, h1, fun b hb => List.mem_append_left _ hb, fun y hy => ⟨List.mem_append_left _ (List.mem_map.2 ⟨y, hy, rfl⟩), (hc1 y hy).1, fun q hq => ?_⟩⟩
          have := List.all_eq_true.1 (hc1 y hy).2 q hq
          simpa using this
        · obtain ⟨r', h3, h4, h5⟩ := go_mem h2 i hi
          exact ⟨r', h3, fun b hb => List.mem_append_right _ (h4 b hb), fun y hy => ⟨List.mem_append_right _ (h5 y hy).1, (h5 y hy).2⟩⟩
      · cases h
    · cases h

theorem runLv_wp {f reg pre : Nat} {rs : List Nat} {ops : Array Oper} {R : List MRow} {kR : Array Value} (hsel : Region.noSelect ops = true) : ∀ {n : Nat} {fr : List (List Bool × St)} {r : Out}, runLv C hint inl f reg pre rs ops R n fr = some r → (∀ b ∈ r.1, b.holds C.P X) →
    ∀ {x : List Bool × St}, x ∈ fr → ∀ {ks : List (Array Value × List Deferred)} {δ : Dl} {a : Act} {w : World}, Sat X ((kR, []) :: ks) δ x.2 a w → (∃ kp, x.2.kp = (frameR R, []) :: kp) → SR X.E R kR w →
    ∀ {Q : Exit → Act → World → Prop}, QOk rs Q → (∀ y ∈ r.2, ∀ δ' a' w', Sat X ((kR, []) :: ks) δ' y.2 a' w' → Q (y.1.den X.E) a' w') → wpAnyH C.P .any ops Q (SR X.E R kR) n x.1.toArray a w
  | 0, fr, r, h, hob, x, hx, ks, δ, a, w, hS, hkp, hSR, Q, hQo, hQ => by
    simp only [runLv] at h
    split at h
    · rename_i hall
      simp only [Option.some.injEq] at h; subst h
      have h1 := List.all_eq_true.1 hall x hx
      exact wpAnyH_done (by simpa using h1) (hQ (.normal, x.2) (List.mem_map.2 ⟨x, hx, rfl⟩) δ a w hS) 0
    · cases h
  | n + 1, fr, r, h, hob, x, hx, ks, δ, a, w, hS, hkp, hSR, Q, hQo, hQ => by
    simp only [runLv] at h
    split at h
    · rename_i r1 h1
      split at h
      · rename_i r2 h2
        simp only [Option.some.injEq] at h; subst h
        obtain ⟨r', h3, h4, h5⟩ := all_mem h1 x hx
        have hfr : Frame1 X.E δ (frameR R) kR := by
          obtain ⟨kp, hk⟩ := hkp
          have := hS.kp
          rw [hk] at this
          exact this.1.1
        unfold stepLv at h3
        simp only at h3
        split at h3
        · rename_i hemp
          simp only [Option.some.injEq] at h3; subst h3
          refine wpAnyH_done (by simpa using hemp) (hQ (.normal, x.2) (mem_dedup (List.mem_append_left _ (List.mem_filterMap.2 ⟨_, h5 _ List.mem_cons_self, rfl⟩))) δ a w hS) _
        · rename_i hne
          split at h3
          · rename_i i dv htake
            simp only [Option.some.injEq] at h3; subst h3
            obtain ⟨i', hi', ht⟩ := List.exists_of_findSome?_eq_some htake
            cases htk : takeO C hint f reg rs ops R x.1 x.2 i' with
            | none => rw [htk] at ht; cases ht
            | some dv' =>
              rw [htk] at ht
              simp only [Option.map_some, Option.some.injEq, Prod.mk.injEq] at ht
              obtain ⟨rfl, rfl⟩ := ht
              obtain ⟨o, ho, hdst, hfree, hrs, hy⟩ := takeO_yields hE htk hS.tm hS.pc hfr
              have hS' := hS.put dv'.1 dv'.2
              have hrec := runLv_wp hsel h2 (fun b hb => hob b (List.mem_append_right _ hb)) (x := (x.1.set i' true, { x.2 with tm := putT x.2.tm dv'.1 dv'.2 })) (mem_dedup (List.mem_filterMap.2 ⟨_, h5 _ List.mem_cons_self, rfl⟩)) hS' hkp hSR hQo (fun y hy => hQ y (mem_dedup (List.mem_append_right _ hy)))
              refine wpAnyH_take ho hsel hfree (by simpa using hi') (fun c a w hq => ?_) hy hSR ?_
              · refine hQo c _ _ w (by cases o.dst <;> rfl) (fun t ht => ?_) hq
                cases hd : o.dst with
                | none => rfl
                | some d =>
                  have hne : d ≠ t := fun e => hrs d hd (e ▸ ht)
                  simp only [Act.put]
                  rw [Array.getElem?_setIfInBounds_ne hne]
              · rw [hdst]
                simp only [List.setIfInBounds_toArray]
                exact hrec
          · rename_i hnt
            refine wpAnyH_all rfl (by simpa using hne) (fun i hi => ?_)
            obtain ⟨ro, h6, h7, h8⟩ := go_mem h3 i hi
            refine opG_wp hE hI h6 (fun b hb => hob b (List.mem_append_left _ (h4 b (h7 b hb)))) hS (fun s hs δ' a' w' hS' => ?_) (fun j s hs δ' a' w' hS' => ?_)
            · have hm := h8 _ hs
              have hkp' : ∃ kp, s.kp = (frameR R, []) :: kp := by
                obtain ⟨kp, hk⟩ := hkp
                exact ⟨kp, hm.2.1.trans hk⟩
              have hfr' : Frame1 X.E δ' (frameR R) kR := by
                obtain ⟨kp, hk⟩ := hkp'
                have := hS'.kp
                rw [hk] at this
                exact this.1.1
              have hSR' : SR X.E R kR w' := SR_of hfr' (fun q hq => hS'.m.rowsAt q (hm.2.2 q hq))
              refine ⟨hSR', ?_⟩
              have hrec := runLv_wp hsel h2 (fun b hb => hob b (List.mem_append_right _ hb)) (x := (x.1.set i true, s)) (mem_dedup (List.mem_filterMap.2 ⟨_, h5 _ hm.1, rfl⟩)) hS' hkp' hSR' hQo (fun y hy => hQ y (mem_dedup (List.mem_append_right _ hy)))
              simp only [List.setIfInBounds_toArray]
              exact hrec
            · exact hQ (.panic j, s) (mem_dedup (List.mem_append_left _ (List.mem_filterMap.2 ⟨_, h5 _ (h8 _ hs).1, rfl⟩))) δ' a' w' hS'
      · cases h
    · cases h

end

end Sx
end Go.Proofs.Ytdpahikbikiilaa
