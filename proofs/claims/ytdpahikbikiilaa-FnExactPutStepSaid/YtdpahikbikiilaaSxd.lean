/- A walk by reckoning: one operation, its guard, regions in order. It speaks of no function. -/
import Derived.Test.YtdpahikbikiilaaSxc
namespace Go.Proofs.Ytdpahikbikiilaa
open Go.RowKit
namespace Sx

abbrev Key := Nat × Nat × Nat
abbrev Hints := Key → Op → Option (Nat × List V) → St → Option Hint
abbrev Out := List Ob × List (Ex × St)

def idOf (pre : Nat) (key : Key) : Nat := pre * 65536 + key.2.1 * 256 + key.2.2 + 1

def endNxt (dst : Option Tmp) (ends : List (End × St)) : List St := ends.filterMap fun x => match x.1 with | .ret v => some { x.2 with tm := putT x.2.tm dst v } | .pan _ => none
def endPan (ends : List (End × St)) : List (Nat × St) := ends.filterMap fun x => match x.1 with | .ret _ => none | .pan j => some (j, x.2)

/-- One operation. -/
def doOp (C : Cfg) (hint : Hints) (inl : Inl) (key : Key) (pre : Nat) (o : Oper) (st : St) : Option Res :=
  match hint key o.op (callOf st.tm o.op) st with
  | some (.val n v) =>
    match evals st.tm o.op.operands.toList with
    | some vals => some ⟨[.val o.op o.type vals (handP n.pk st.pc) (handF n.fk st.fs) (handM n.ws st.mem) (handO n.wo st.obs) v], [{ st with tm := putT st.tm o.dst v }], []⟩
    | none => none
  | some (.eff n e) =>
    match st.after n.ws n.wo e with
    | none => none
    | some st' =>
      match callOf st.tm o.op with
      | some (f, args) =>
        if enterOk C.P f then
          match e.pan with
          | none => some ⟨[.call f args (handP n.pk st.pc) (handF n.fk st.fs) (handM n.ws st.mem) (handO n.wo st.obs) e], [{ st' with tm := putT st'.tm o.dst e.ret }], []⟩
          | some j => some ⟨[.call f args (handP n.pk st.pc) (handF n.fk st.fs) (handM n.ws st.mem) (handO n.wo st.obs) e], [], [(j, st')]⟩
        else none
      | none =>
        match e.pan, evals st.tm o.op.operands.toList with
        | none, some vals => some ⟨[.act o.op o.type vals (handP n.pk st.pc) (handF n.fk st.fs) (handM n.ws st.mem) (handO n.wo st.obs) e], [{ st' with tm := putT st'.tm o.dst e.ret }], []⟩
        | _, _ => none
  | some .inl =>
    match callOf st.tm o.op with
    | some (f, args) =>
      if enterOk C.P f then
        match inl (idOf pre key) f args st with
        | some r => some ⟨r.1, endNxt o.dst r.2, endPan r.2⟩
        | none => none
      else none
    | none => none
  | none =>
    match pureO C st o.op with
    | some v => some (.one { st with tm := putT st.tm o.dst v })
    | none =>
      match o.op with
      | .alloc ty => match zeroT C.P ty with | some z => newO st (idOf pre key) ty z o.dst (.v (.one (.ptr (idOf pre key) 0))) | none => none
      | .box ty x => match evalO st.tm x with | some (.v v) => if v.good C.σ then newO st (idOf pre key) ty v.cells o.dst (.v (.one (.ptr (idOf pre key) 0))) else none | _ => none
      | .store ty x y =>
        match evalO st.tm x, evalO st.tm y with
        | some (.v (.one (.ptr d off))), some (.v v) => match storeO C st ty d off v with | some st' => some (.one { st' with tm := putT st'.tm o.dst .undef }) | none => none
        | _, _ => none
      | .defer ⟨.value (.func f), ⟨[]⟩, _⟩ => some (.one { st with tm := putT st.tm o.dst .undef, df := f :: st.df })
      | _ => none

theorem run_newRow {P : Program} (ty : TypeId) (cells : Array Value) (w : World) : (newRow ty cells).run P w = .ok ⟨w.heap.size, 0, none⟩ (w.alloc (.cells cells ty (0, 0))) := rfl

section
variable {C : Cfg} {X : Ctx} (hE : X.E.ok C.σ) {hint : Hints} {inl : Inl} (hI : InlOk C.P X inl)
include hE hI

theorem doOp_wp {key : Key} {pre : Nat} {o : Oper} {st : St} {r : Res} (h : doOp C hint inl key pre o st = some r) (hob : ∀ b ∈ r.obs, b.holds C.P X) {ks : List (Array Value × List Deferred)} {δ : Dl} {a : Act} {w : World} (hS : Sat X ks δ st a w)
    {K : Act → World → Prop} {Q : Exit → Act → World → Prop} (hk : ∀ s ∈ r.nxt, ∀ δ' a' w', Sat X ks δ' s a' w' → K a' w') (hp : ∀ p ∈ r.pan, ∀ δ' a' w', Sat X ks δ' p.2 a' w' → Q (.panic [{ v := X.E.pan p.1, recovered := false }]) a' w') : o.wp C.P a w K Q := by
  unfold doOp at h
  split at h
  · rename_i n v _
    split at h
    · rename_i vals hv
      simp only [Option.some.injEq] at h; subst h
      have := hob _ List.mem_cons_self δ w _ a o (SatM.pre hS n.pk n.fk n.ws n.wo) rfl rfl (evals_den hS.tm hv)
      unfold Oper.wp
      rw [this]
      exact hk _ List.mem_cons_self δ _ _ (hS.put o.dst v)
    · cases h
  · rename_i n e _
    split at h
    · cases h
    · rename_i st' hst
      split at h
      · rename_i f args hc
        split at h
        · rename_i hen
          have hx := callOf_exec (P := C.P) hS.tm hc hen w
          split at h
          · rename_i hpan
            simp only [Option.some.injEq] at h; subst h
            have hcall := hob _ List.mem_cons_self δ w _ (SatM.pre hS n.pk n.fk n.ws n.wo)
            refine Calls.wpOf hcall hx fun en w' ⟨δ', hA, hen'⟩ => ?_
            rw [hpan] at hen'
            exact .inl ⟨_, hen', hk _ List.mem_cons_self δ' _ _ ((hS.after hst hA).put o.dst e.ret)⟩
          · rename_i j hpan
            simp only [Option.some.injEq] at h; subst h
            have hcall := hob _ List.mem_cons_self δ w _ (SatM.pre hS n.pk n.fk n.ws n.wo)
            refine Calls.wpOf hcall hx fun en w' ⟨δ', hA, hen'⟩ => ?_
            rw [hpan] at hen'
            exact .inr ⟨_, hen', hp _ List.mem_cons_self δ' _ _ (hS.after hst hA)⟩
        · cases h
      · split at h
        · rename_i hpan hv
          simp only [Option.some.injEq] at h; subst h
          exact hob _ List.mem_cons_self δ w _ a o K Q (SatM.pre hS n.pk n.fk n.ws n.wo) rfl rfl (evals_den hS.tm hv) fun δ' w' hA => hk _ List.mem_cons_self δ' _ _ ((hS.after hst hA).put o.dst e.ret)
        · cases h
  · split at h
    · rename_i f args hc
      split at h
      · rename_i hen
        split at h
        · rename_i r' hr
          simp only [Option.some.injEq] at h; subst h
          have hcall := hI _ f args st r' hr hob ks δ a w hS
          refine Calls.wpOf hcall (callOf_exec (P := C.P) hS.tm hc hen w) fun en w' ⟨x, hx, δ', hS', hen'⟩ => ?_
          obtain ⟨e, s⟩ := x
          cases e with
          | ret v => exact .inl ⟨_, hen', hk _ (List.mem_filterMap.2 ⟨_, hx, rfl⟩) δ' _ _ (hS'.put o.dst v)⟩
          | pan j => exact .inr ⟨_, hen', hp (j, s) (List.mem_filterMap.2 ⟨_, hx, rfl⟩) δ' _ _ hS'⟩
        · cases h
      · cases h
    · cases h
  · split at h
    · rename_i v hv
      simp only [Option.some.injEq] at h; subst h
      unfold Oper.wp
      rw [pureO_run hE hS.pc hS.tm hS.m.rowsAt hv]
      exact hk _ List.mem_cons_self δ _ _ (hS.put o.dst v)
    · split at h
      · rename_i ty hop
        split at h
        · rename_i z hz
          obtain ⟨zv, hzr, hzc⟩ := zeroT_run (E := X.E) (δ := δ) hz
          obtain ⟨st', rfl, δ', hS'⟩ := newO_sat hS h (u := .pointer (some ⟨w.heap.size, 0, none⟩)) (fun δ' hd => by simp only [V.den, V0.den, T.den, hd])
          unfold Oper.wp execOp
          simp only [hop, Instr.alloc, newVar, Sem.run_bind, hzr, Result.andThen_ok, run_newRow, Sem.run_pure, hzc]
          exact hk _ List.mem_cons_self δ' _ _ hS'
        · cases h
      · rename_i ty x hop
        split at h
        · rename_i v hx
          split at h
          · rename_i hg
            obtain ⟨st', rfl, δ', hS'⟩ := newO_sat hS h (u := .pointer (some ⟨w.heap.size, 0, none⟩)) (fun δ' hd => by simp only [V.den, V0.den, T.den, hd])
            have hc := (V0.cells_den hE δ v hg).1
            unfold Oper.wp execOp
            simp only [hop, Instr.box, newVar, evalO_den hS.tm hx, V.den, hc, Sem.run_bind, Result.andThen_ok, run_newRow, Sem.run_pure]
            exact hk _ List.mem_cons_self δ' _ _ hS'
          · cases h
        · cases h
      · rename_i ty x y hop
        split at h
        · rename_i d off v hx hy
          split at h
          · rename_i st' hst
            simp only [Option.some.injEq] at h; subst h
            exact storeO_wp hE hS hst (evalO_den hS.tm hx) (evalO_den hS.tm hy) hop fun w' hS' => hk _ List.mem_cons_self δ _ _ hS'
          · cases h
        · cases h
      · rename_i f ts hop
        simp only [Option.some.injEq] at h; subst h
        unfold Oper.wp execOp
        have hz : (#[] ++ Array.map a.eval ⟨[]⟩ : Array Value) = #[] := by simp
        simp only [hop, resolve, Act.eval, Deferred.ofValue, Sem.run_bind, Sem.run_pure, Result.andThen_ok]
        rw [hz]
        refine hk _ List.mem_cons_self δ _ _ ⟨?_, ?_, hS.m, hS.pc, hS.fs, hS.kp⟩
        · have h2 := hS.tm.put o.dst .undef
          revert h2
          cases o.dst <;> exact id
        · have h3 : ∀ d : Deferred, (({ a with defers := d :: a.defers } : Act).put o.dst undef).defers = d :: a.defers := fun d => by cases o.dst <;> rfl
          show (({ a with defers := dfOf f :: a.defers } : Act).put o.dst undef).defers = _
          rw [h3, hS.df]; rfl
      · cases h

end

/-- Is an operation wanted? -/
def wantT (σ : Sorts) (ops : Array Oper) (o : Oper) (st : St) : Option (List (Bool × List (T × Bool))) :=
  match o.guard with
  | none => some [(true, st.pc)]
  | some (j, want) =>
    match (ops[j]?).bind (·.dst) with
    | none => some [(false, st.pc)]
    | some d =>
      match st.tm[d]? with
      | some (some (.v (.one t))) => match condT σ st.pc t with | some l => some (l.map fun x => (x.1 == want, x.2)) | none => none
      | some (some (.tup _)) => some [(false, st.pc)]
      | some (some (.v (.agg _))) => some [(false, st.pc)]
      | _ => none

theorem wantT_den {E : Env} {σ : Sorts} (hE : E.ok σ) {δ : Dl} {ops : Array Oper} {o : Oper} {st : St} {l : List (Bool × List (T × Bool))} (h : wantT σ ops o st = some l) {ts : Array Value} (hF : Frame1 E δ st.tm ts) (hp : PcOk E δ st.pc) : ∃ x ∈ l, Region.wanted o (yielded ops ts) = x.1 ∧ PcOk E δ x.2 := by
  unfold wantT at h
  unfold Region.wanted
  split at h
  · rename_i hg
    simp only [Option.some.injEq] at h; subst h
    exact ⟨_, List.mem_cons_self, by rw [hg], hp⟩
  · rename_i j want hg
    simp only [hg]
    unfold yielded
    split at h
    · rename_i hd
      simp only [Option.some.injEq] at h; subst h
      exact ⟨_, List.mem_cons_self, by simp only [hd, Option.bind_none]; rfl, hp⟩
    · rename_i d hd
      simp only [hd, Option.bind_some]
      split at h
      · rename_i t ht
        split at h
        · rename_i l' hl
          simp only [Option.some.injEq] at h; subst h
          obtain ⟨x, hx, h1, h2⟩ := condT_den hE (δ := δ) hl hp
          refine ⟨_, List.mem_map.2 ⟨x, hx, rfl⟩, ?_, h2⟩
          rw [hF.2 d _ ht]
          simp only [V.den, V0.den, h1]
          cases x.1 <;> cases want <;> rfl
        · cases h
      · rename_i l' ht
        simp only [Option.some.injEq] at h; subst h
        refine ⟨_, List.mem_cons_self, ?_, hp⟩
        rw [hF.2 d _ ht]
        rfl
      · rename_i l' ht
        simp only [Option.some.injEq] at h; subst h
        refine ⟨_, List.mem_cons_self, ?_, hp⟩
        rw [hF.2 d _ ht]
        rfl
      · cases h

/-! One operation with its guard. -/

def Res.out (r : Res) : Out := (r.obs, r.nxt.map (fun s => (Ex.normal, s)) ++ r.pan.map fun p => (Ex.panic p.1, p.2))

/-- All of a list, what is left to be shown put together. -/
def allL {α : Type} (f : α → Option Out) : List α → Option Out
  | [] => some ([], [])
  | x :: xs => match f x, allL f xs with | some r, some rs => some (r.1 ++ rs.1, r.2 ++ rs.2) | _, _ => none

theorem allL_mem {α : Type} {f : α → Option Out} : ∀ {l : List α} {r : Out}, allL f l = some r → ∀ x ∈ l, ∃ r', f x = some r' ∧ (∀ b ∈ r'.1, b ∈ r.1) ∧ (∀ y ∈ r'.2, y ∈ r.2)
  | [], _, _, x, hx => by cases hx
  | y :: ys, r, h, x, hx => by
    simp only [allL] at h
    split at h
    · rename_i r1 rs h1 h2
      simp only [Option.some.injEq] at h; subst h
      rcases List.mem_cons.1 hx with rfl | hx
      · exact ⟨r1, h1, fun b hb => List.mem_append_left _ hb, fun z hz => List.mem_append_left _ hz⟩
      · obtain ⟨r', h3, h4, h5⟩ := allL_mem h2 x hx
        exact ⟨r', h3, fun b hb => List.mem_append_right _ (h4 b hb), fun z hz => List.mem_append_right _ (h5 z hz)⟩
    · cases h

def opG (C : Cfg) (hint : Hints) (inl : Inl) (f reg pre : Nat) (ops : Array Oper) (i : Nat) (st : St) : Option Out :=
  match ops[i]? with
  | none => some ([], [(.normal, st)])
  | some o =>
    match wantT C.σ ops o st with
    | some l => allL (fun x : Bool × List (T × Bool) => if x.1 then (doOp C hint inl (f, reg, i) pre o { st with pc := x.2 }).map Res.out else some ([], [(.normal, { st with tm := putT st.tm o.dst .undef, pc := x.2 })])) l
    | none => none

section
variable {C : Cfg} {X : Ctx} (hE : X.E.ok C.σ) {hint : Hints} {inl : Inl} (hI : InlOk C.P X inl)
include hE hI

theorem opG_wp {f reg pre : Nat} {ops : Array Oper} {i : Nat} {st : St} {r : Out} (h : opG C hint inl f reg pre ops i st = some r) (hob : ∀ b ∈ r.1, b.holds C.P X) {ks : List (Array Value × List Deferred)} {δ : Dl} {a : Act} {w : World} (hS : Sat X ks δ st a w)
    {K : Act → World → Prop} {Q : Exit → Act → World → Prop} (hk : ∀ s, (Ex.normal, s) ∈ r.2 → ∀ δ' a' w', Sat X ks δ' s a' w' → K a' w') (hp : ∀ j s, (Ex.panic j, s) ∈ r.2 → ∀ δ' a' w', Sat X ks δ' s a' w' → Q (.panic [{ v := X.E.pan j, recovered := false }]) a' w') : wpOp C.P ops Q i K a w := by
  unfold opG at h
  unfold wpOp
  split at h
  · rename_i hi
    simp only [Option.some.injEq] at h; subst h
    simp only [hi]
    exact hk _ List.mem_cons_self δ a w hS
  · rename_i o hi
    simp only [hi]
    split at h
    · rename_i l hl
      obtain ⟨x, hx, hw, hpc⟩ := wantT_den hE hl hS.tm hS.pc
      obtain ⟨r', h1, h2, h3⟩ := allL_mem h x hx
      rw [hw]
      have hS' : Sat X ks δ { st with pc := x.2 } a w := ⟨hS.tm, hS.df, hS.m, hpc, hS.fs, hS.kp⟩
      split at h1
      · rename_i ht
        rw [if_pos ht]
        cases hd : doOp C hint inl (f, reg, i) pre o { st with pc := x.2 } with
        | none => rw [hd] at h1; cases h1
        | some rr =>
          rw [hd] at h1
          simp only [Option.map_some, Option.some.injEq] at h1
          subst h1
          exact .inl (doOp_wp hE hI hd (fun b hb => hob b (h2 b hb)) hS' (fun s hs => hk s (h3 _ (List.mem_append_left _ (List.mem_map.2 ⟨s, hs, rfl⟩)))) (fun p hp' => hp p.1 p.2 (h3 _ (List.mem_append_right _ (List.mem_map.2 ⟨p, hp', rfl⟩)))))
      · rename_i ht
        simp only [Option.some.injEq] at h1; subst h1
        rw [if_neg ht]
        exact hk _ (h3 _ List.mem_cons_self) δ _ _ (hS'.put o.dst .undef)
    · cases h

/-- What is left behind the first part goes on. -/
def bindN (l : List (Ex × St)) (f : St → Option Out) : Option Out := allL (fun x : Ex × St => match x.1 with | .normal => f x.2 | _ => some ([], [x])) l

omit hE hI in
theorem bindN_normal {l : List (Ex × St)} {f : St → Option Out} {r : Out} (h : bindN l f = some r) {s : St} (hs : (Ex.normal, s) ∈ l) : ∃ r', f s = some r' ∧ (∀ b ∈ r'.1, b ∈ r.1) ∧ (∀ y ∈ r'.2, y ∈ r.2) := allL_mem h _ hs

omit hE hI in
theorem bindN_other {l : List (Ex × St)} {f : St → Option Out} {r : Out} (h : bindN l f = some r) {x : Ex × St} (hx : x ∈ l) (hn : x.1 ≠ .normal) : x ∈ r.2 := by
  obtain ⟨r', h1, _, h3⟩ := allL_mem h x hx
  obtain ⟨e, s⟩ := x
  cases e <;> first | (exact absurd rfl hn) | (simp only [Option.some.injEq] at h1; subst h1; exact h3 _ List.mem_cons_self)

def runSeq (C : Cfg) (hint : Hints) (inl : Inl) (f reg pre : Nat) (ops : Array Oper) : List Nat → St → Option Out
  | [], st => some ([], [(.normal, st)])
  | i :: is, st =>
    match opG C hint inl f reg pre ops i st with
    | some r => match bindN r.2 (runSeq C hint inl f reg pre ops is) with | some r2 => some (r.1 ++ r2.1, r2.2) | none => none
    | none => none

theorem runSeq_wp {f reg pre : Nat} {ops : Array Oper} : ∀ {is : List Nat} {st : St} {r : Out}, runSeq C hint inl f reg pre ops is st = some r → (∀ b ∈ r.1, b.holds C.P X) → ∀ {ks : List (Array Value × List Deferred)} {δ : Dl} {a : Act} {w : World}, Sat X ks δ st a w →
    ∀ {Q : Exit → Act → World → Prop}, (∀ x ∈ r.2, ∀ δ' a' w', Sat X ks δ' x.2 a' w' → Q (x.1.den X.E) a' w') → wpOps C.P ops Q is a w
  | [], st, r, h, _, ks, δ, a, w, hS, Q, hQ => by
    simp only [runSeq, Option.some.injEq] at h; subst h
    exact hQ _ List.mem_cons_self δ a w hS
  | i :: is, st, r, h, hob, ks, δ, a, w, hS, Q, hQ => by
    simp only [runSeq] at h
    split at h
    · rename_i r1 h1
      split at h
      · rename_i r2 h2
        simp only [Option.some.injEq] at h; subst h
        rw [wpOps_cons]
        refine opG_wp hE hI h1 (fun b hb => hob b (List.mem_append_left _ hb)) hS (fun s hs δ' a' w' hS' => ?_) (fun j s hs δ' a' w' hS' => ?_)
        · obtain ⟨r', h3, h4, h5⟩ := bindN_normal h2 hs
          exact runSeq_wp h3 (fun b hb => hob b (List.mem_append_right _ (h4 b hb))) hS' fun x hx => hQ x (h5 x hx)
        · exact hQ (Ex.panic j, s) (bindN_other h2 hs (by simp)) δ' a' w' hS'
      · cases h
    · cases h

end

end Sx
end Go.Proofs.Ytdpahikbikiilaa
