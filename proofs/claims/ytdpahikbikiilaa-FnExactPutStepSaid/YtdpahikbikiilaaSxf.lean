/- A walk by reckoning: code, functions. It speaks of no function. -/
import Derived.Test.YtdpahikbikiilaaSxe
namespace Go.Proofs.Ytdpahikbikiilaa
open Go.RowKit
namespace Sx

/-- The row that a slot points into. -/
def target (ops : Array Oper) (tm : List (Option V)) : Nat → Operand → List Nat
  | 0, _ => []
  | n + 1, x =>
    match evalO tm x with
    | some (.v (.one (.ptr d _))) => [d]
    | _ =>
      match x with
      | .tmp t => match ops.toList.find? (fun o => o.dst == some t) with | some o => (match o.op with | .fieldAddr _ y _ => target ops tm n y | .nilCheck y => target ops tm n y | .move y => target ops tm n y | _ => []) | none => []
      | _ => []

def written (ops : Array Oper) (tm : List (Option V)) : List Nat := ops.toList.flatMap fun o => match o.op with | .store _ x _ => target ops tm 9 x | _ => []

def runDrawR (C : Cfg) (hint : Hints) (inl : Inl) (f reg pre : Nat) (rs : List Nat) (ops : Array Oper) (R : List MRow) (st : St) : Option Out :=
  if C.P.follows .mixedOrders && Region.noSelect ops && R.all (fun q => st.mem.contains q) then
    match runLv C hint inl f reg pre rs ops R ops.size [(List.replicate ops.size false, { st with kp := (frameR R, []) :: st.kp })] with
    | some r => some (r.1, r.2.map fun y => (y.1, { y.2 with kp := y.2.kp.tail }))
    | none => none
  else none

def runDraw (C : Cfg) (hint : Hints) (inl : Inl) (f reg pre : Nat) (rs : List Nat) (ops : Array Oper) (st : St) : Option Out :=
  let ws := written ops st.tm ++ C.wr (f, reg)
  runDrawR C hint inl f reg pre rs ops (st.mem.filter fun q => !ws.contains q.1) st

section
variable {C : Cfg} {X : Ctx} (hE : X.E.ok C.σ) {hint : Hints} {inl : Inl} (hI : InlOk C.P X inl)
include hE hI

omit hE hI in
theorem Frame1.ofR (E : Env) (δ : Dl) (tm : List (Option V)) : Frame1 E δ tm (tm.map fun o => match o with | some v => v.den E δ | none => undef).toArray :=
  ⟨by simp, fun i v hv => by simp [hv]⟩

theorem runDraw_wp {f reg pre : Nat} {rs : List Nat} {ops : Array Oper} {id : Nat} {st : St} {r : Out} (h : runDraw C hint inl f reg pre rs ops st = some r) (hob : ∀ b ∈ r.1, b.holds C.P X) {ks : List (Array Value × List Deferred)} {δ : Dl} {a : Act} {w : World} (hS : Sat X ks δ st a w)
    {Q : Exit → Act → World → Prop} (hQo : QOk rs Q) (hQ : ∀ x ∈ r.2, ∀ δ' a' w', Sat X ks δ' x.2 a' w' → Q (x.1.den X.E) a' w') : (Code.region id ops true).wp C.P Q a w := by
  unfold runDraw at h
  simp only at h
  generalize (st.mem.filter fun q => !(written ops st.tm ++ C.wr (f, reg)).contains q.1) = R at h
  unfold runDrawR at h
  split at h
  · rename_i hc
    simp only [Bool.and_eq_true] at hc
    obtain ⟨⟨hm, hsel⟩, hR⟩ := hc
    split at h
    · rename_i r1 h1
      simp only [Option.some.injEq] at h; subst h
      have hF := Frame1.ofR X.E δ (frameR R)
      have hd : Sat X ks δ st a w.drew := ⟨hS.tm, hS.df, ⟨hS.m.blk.drew, hS.m.mine⟩, hS.pc, hS.fs, hS.kp⟩
      have hS1 : Sat X ((((frameR R).map fun o => match o with | some v => v.den X.E δ | none => undef).toArray, []) :: ks) δ { st with kp := (frameR R, []) :: st.kp } a w.drew := ⟨hd.tm, hd.df, hd.m, hd.pc, hd.fs, ⟨hF, rfl⟩, hd.kp⟩
      have hSR := SR_of hF (w := w.drew) fun q hq => hd.m.rowsAt q (by have := List.all_eq_true.1 hR q hq; simpa using this)
      refine wp_region_held (S := SR X.E R ((frameR R).map fun o => match o with | some v => v.den X.E δ | none => undef).toArray) hm ?_
      have := runLv_wp hE hI hsel h1 hob (x := (List.replicate ops.size false, { st with kp := (frameR R, []) :: st.kp })) List.mem_cons_self hS1 ⟨_, rfl⟩ hSR hQo (fun y hy δ' a' w' hS' => by
        refine hQ (y.1, { y.2 with kp := y.2.kp.tail }) (List.mem_map.2 ⟨y, hy, rfl⟩) δ' a' w' ⟨hS'.tm, hS'.df, hS'.m, hS'.pc, hS'.fs, ?_⟩
        have hk := hS'.kp
        cases hkk : y.2.kp with
        | nil => rw [hkk] at hk; exact hk.elim
        | cons t ts => rw [hkk] at hk; exact hk.2)
      rw [List.toArray_replicate] at this
      exact this
    · cases h
  · cases h

end

/-! Code. -/

abbrev Loops := Nat → Code → St → Option (List (Ex × St))

def runCode (C : Cfg) (hint : Hints) (loops : Loops) (inl : Inl) (f pre : Nat) (rs : List Nat) : Code → St → Option Out
  | .skip, st => some ([], [(.normal, st)])
  | .region id ops draw, st =>
    if draw then runDraw C hint inl f id pre rs ops st
    else match runSeq C hint inl f id pre ops (List.range ops.size) st with | some r => some (r.1, dedup r.2) | none => none
  | .seq x y, st =>
    match runCode C hint loops inl f pre rs x st with
    | some r => match bindN r.2 (runCode C hint loops inl f pre rs y) with | some r2 => some (r.1 ++ r2.1, dedup r2.2) | none => none
    | none => none
  | .cond c x y, st =>
    match evalO st.tm c with
    | some (.v (.one t)) =>
      match condT C.σ st.pc t with
      | some l => allL (fun b : Bool × List (T × Bool) => if b.1 then runCode C hint loops inl f pre rs x { st with pc := b.2 } else runCode C hint loops inl f pre rs y { st with pc := b.2 }) l
      | none => none
    | _ => none
  | .block id c, st =>
    match runCode C hint loops inl f pre rs c st with
    | some r => some (r.1, dedup (r.2.map fun x => (if x.1 = .exit id then .normal else x.1, x.2)))
    | none => none
  | .exit id, st => some ([], [(.exit id, st)])
  | .ret, st => some ([], [(.ret, st)])
  | .loop c, st => match loops f c st with | some lv => some ([.loop rs c st lv], lv) | none => none
  | _, _ => none

theorem QOk.then {rs : List Nat} {Q : Exit → Act → World → Prop} (h : QOk rs Q) (K : Act → World → Prop) : QOk rs (Exit.then K Q) := fun c a a' w h1 h2 h3 => h c a a' w h1 h2 h3

theorem QOk.inBlock {rs : List Nat} {Q : Exit → Act → World → Prop} (h : QOk rs Q) (id : Nat) : QOk rs (Exit.inBlock id Q) := fun c a a' w h1 h2 h3 => h c a a' w h1 h2 h3

section
variable {C : Cfg} {X : Ctx} (hE : X.E.ok C.σ) {hint : Hints} {loops : Loops} {inl : Inl} (hI : InlOk C.P X inl)
include hE hI

theorem runCode_wp {f pre : Nat} {rs : List Nat} : ∀ {c : Code} {st : St} {r : Out}, runCode C hint loops inl f pre rs c st = some r → (∀ b ∈ r.1, b.holds C.P X) → ∀ {ks : List (Array Value × List Deferred)} {δ : Dl} {a : Act} {w : World}, Sat X ks δ st a w →
    ∀ {Q : Exit → Act → World → Prop}, QOk rs Q → (∀ x ∈ r.2, ∀ δ' a' w', Sat X ks δ' x.2 a' w' → Q (x.1.den X.E) a' w') → c.wp C.P Q a w
  | .skip, st, r, h, hob, ks, δ, a, w, hS, Q, hQo, hQ => by
    simp only [runCode, Option.some.injEq] at h; subst h
    exact wp_skip (hQ _ List.mem_cons_self δ a w hS)
  | .region id ops draw, st, r, h, hob, ks, δ, a, w, hS, Q, hQo, hQ => by
    simp only [runCode] at h
    split at h
    · rename_i hd
      subst hd
      exact runDraw_wp hE hI h hob hS hQo hQ
    · rename_i hd
      have hd' : draw = false := by simpa using hd
      subst hd'
      split at h
      · rename_i r1 h1
        simp only [Option.some.injEq] at h; subst h
        exact wp_region (runSeq_wp hE hI h1 hob hS fun x hx => hQ x (mem_dedup hx))
      · cases h
  | .seq x y, st, r, h, hob, ks, δ, a, w, hS, Q, hQo, hQ => by
    simp only [runCode] at h
    split at h
    · rename_i r1 h1
      split at h
      · rename_i r2 h2
        simp only [Option.some.injEq] at h; subst h
        refine wp_seq (runCode_wp h1 (fun b hb => hob b (List.mem_append_left _ hb)) hS (hQo.then _) fun z hz δ' a' w' hS' => ?_)
        obtain ⟨e, s⟩ := z
        cases e with
        | normal =>
          obtain ⟨r', h3, h4, h5⟩ := bindN_normal h2 hz
          exact runCode_wp h3 (fun b hb => hob b (List.mem_append_right _ (h4 b hb))) hS' hQo fun q hq => hQ q (mem_dedup (h5 q hq))
        | exit id => exact hQ (.exit id, s) (mem_dedup (bindN_other h2 hz (by simp))) δ' a' w' hS'
        | ret => exact hQ (.ret, s) (mem_dedup (bindN_other h2 hz (by simp))) δ' a' w' hS'
        | panic j => exact hQ (.panic j, s) (mem_dedup (bindN_other h2 hz (by simp))) δ' a' w' hS'
      · cases h
    · cases h
  | .cond c x y, st, r, h, hob, ks, δ, a, w, hS, Q, hQo, hQ => by
    simp only [runCode] at h
    split at h
    · rename_i t ht
      split at h
      · rename_i l hl
        obtain ⟨b, hb, h1, hpc⟩ := condT_den hE (δ := δ) hl hS.pc
        obtain ⟨r', h2, h3, h4⟩ := allL_mem h b hb
        have hS' : Sat X ks δ { st with pc := b.2 } a w := ⟨hS.tm, hS.df, hS.m, hpc, hS.fs, hS.kp⟩
        have hv : a.eval c = .bool b.1 := by rw [evalO_den hS.tm ht]; exact h1
        refine wp_cond hv ?_
        split at h2
        · rename_i hbt
          rw [if_pos hbt]
          exact runCode_wp h2 (fun q hq => hob q (h3 q hq)) hS' hQo fun q hq => hQ q (h4 q hq)
        · rename_i hbt
          rw [if_neg hbt]
          exact runCode_wp h2 (fun q hq => hob q (h3 q hq)) hS' hQo fun q hq => hQ q (h4 q hq)
      · cases h
    · cases h
  | .block id c, st, r, h, hob, ks, δ, a, w, hS, Q, hQo, hQ => by
    simp only [runCode] at h
    split at h
    · rename_i r1 h1
      simp only [Option.some.injEq] at h; subst h
      refine wp_block (runCode_wp h1 hob hS (hQo.inBlock id) fun z hz δ' a' w' hS' => ?_)
      obtain ⟨e, s⟩ := z
      have hm := hQ _ (mem_dedup (List.mem_map.2 ⟨(e, s), hz, rfl⟩)) δ' a' w' hS'
      cases e with
      | exit id' =>
        simp only [Ex.den, Exit.inBlock] at hm ⊢
        by_cases he : id' = id
        · subst he
          rw [if_pos rfl]
          simpa using hm
        · rw [if_neg he]
          have he2 : ¬ (Ex.exit id' = Ex.exit id) := fun h => he (by cases h; rfl)
          rw [if_neg he2] at hm
          exact hm
      | normal =>
        have h2 : Q .normal a' w' := by simpa [Ex.den] using hm
        exact h2
      | ret =>
        have h2 : Q .ret a' w' := by simpa [Ex.den] using hm
        exact h2
      | panic j =>
        have h2 : Q (.panic [{ v := X.E.pan j, recovered := false }]) a' w' := by simpa [Ex.den] using hm
        exact h2
    · cases h
  | .exit id, st, r, h, hob, ks, δ, a, w, hS, Q, hQo, hQ => by
    simp only [runCode, Option.some.injEq] at h; subst h
    exact wp_exit (hQ _ List.mem_cons_self δ a w hS)
  | .ret, st, r, h, hob, ks, δ, a, w, hS, Q, hQo, hQ => by
    simp only [runCode, Option.some.injEq] at h; subst h
    exact wp_ret (hQ _ List.mem_cons_self δ a w hS)
  | .loop c, st, r, h, hob, ks, δ, a, w, hS, Q, hQo, hQ => by
    simp only [runCode] at h
    split at h
    · rename_i lv hlv
      simp only [Option.some.injEq] at h; subst h
      exact hob _ List.mem_cons_self ks δ a w Q hS hQo hQ
    · cases h
  | .rangeFunc _ _ _ _, _, _, h, _, _, _, _, _, _, _, _, _ | .scope _, _, _, h, _, _, _, _, _, _, _, _, _ | .label _, _, _, h, _, _, _, _, _, _, _, _, _ | .goto _, _, _, h, _, _, _, _, _, _, _, _, _ | .refuse _, _, _, h, _, _, _, _, _, _, _, _, _ => by cases h

end

/-! Functions. -/

def resV (C : Cfg) (st : St) : List ResultVar → Option (List V0)
  | [] => some []
  | .tmp t :: xs => match evalO st.tm (.tmp t), resV C st xs with | some (.v v), some vs => some (v :: vs) | _, _ => none
  | .cell p ty :: xs =>
    match evalO st.tm (.tmp p), resV C st xs with
    | some (.v (.one (.ptr d off))), some vs => match loadO C st.mem ty d off with | some (.v v) => some (v :: vs) | _ => none
    | _, _ => none

def retV : List V0 → V
  | [v] => .v v
  | vs => .tup vs

def resOne (ts : Array Value) (x : ResultVar) : Sem Value := match x with | .tmp t => pure (ts.getD t undef) | .cell a t => do loadVar t (← asAddr (ts.getD a undef))

theorem resOne_tmp (ts : Array Value) (t : Tmp) : resOne ts (.tmp t) = pure (ts.getD t undef) := rfl

theorem resOne_cell (ts : Array Value) (p : Tmp) (t : TypeId) : resOne ts (.cell p t) = (asAddr (ts.getD p undef) >>= loadVar t) := rfl

theorem resV_run {C : Cfg} {E : Env} {δ : Dl} {st : St} {ts : Array Value} {w : World} (hF : Frame1 E δ st.tm ts) (hM : RowsAt E δ st.mem w) : ∀ {rs : List ResultVar} {vs : List V0}, resV C st rs = some vs →
    (rs.mapM (resOne ts)).run C.P w = .ok (vs.map (V0.den E δ)) w
  | [], vs, h => by simp only [resV, Option.some.injEq] at h; subst h; simp
  | .tmp t :: rs, vs, h => by
    simp only [resV] at h
    split at h
    · rename_i v us h1 h2
      simp only [Option.some.injEq] at h; subst h
      have he := evalO_den (E := E) (δ := δ) (a := ⟨ts, []⟩) hF h1
      simp only [Act.eval] at he
      simp only [List.mapM_cons, resOne_tmp, Sem.run_bind, Sem.run_pure, Result.andThen_ok, resV_run hF hM h2, he]
      rfl
    · cases h
  | .cell p ty :: rs, vs, h => by
    simp only [resV] at h
    split at h
    · rename_i d off us h1 h2
      split at h
      · rename_i v hv
        simp only [Option.some.injEq] at h; subst h
        have he := evalO_den (E := E) (δ := δ) (a := ⟨ts, []⟩) hF h1
        simp only [Act.eval, V.den, V0.den, T.den] at he
        have ha : (asAddr (ts.getD p undef)).run C.P w = .ok ⟨(δ d).n, off, none⟩ w := by rw [he]; rfl
        simp only [List.mapM_cons, resOne_cell, Sem.run_bind, Sem.run_pure, Result.andThen_ok, ha, resV_run hF hM h2, loadO_var hM hv]
        rfl
      · cases h
    · cases h

theorem results_of {C : Cfg} {E : Env} {δ : Dl} {st : St} {ts : Array Value} {w : World} (hF : Frame1 E δ st.tm ts) (hM : RowsAt E δ st.mem w) {fn : Func} {vs : List V0} (h : resV C st fn.results.toList = some vs) : (results fn ts).run C.P w = .ok ((retV vs).den E δ) w := by
  have h1 := resV_run hF hM h
  have h0 : results fn ts = (fn.results.mapM (resOne ts) >>= fun vs => pure (if h : vs.size = 1 then vs[0] else .tuple vs)) := rfl
  have h2 : fn.results.mapM (resOne ts) = (List.toArray <$> fn.results.toList.mapM (resOne ts)) := by
    generalize fn.results = l
    cases l
    simp only [List.mapM_toArray]
  rw [h0, h2]
  simp only [map_eq_pure_bind, Sem.run_bind, h1, Result.andThen_ok, Sem.run_pure]
  match vs with
  | [] => rfl
  | [v] => rfl
  | v :: u :: us => rfl

/-- The slots that a function's results are read from. -/
def resTmps (fn : Func) : List Nat := fn.results.toList.map fun x => match x with | .tmp t => t | .cell p _ => p

theorem resOne_congr {ts ts' : Array Value} {x : ResultVar} (h : ts[(match x with | .tmp t => t | .cell p _ => p)]? = ts'[(match x with | .tmp t => t | .cell p _ => p)]?) : resOne ts x = resOne ts' x := by
  cases x with
  | tmp t => simp only [resOne, Array.getD_eq_getD_getElem?] at h ⊢; rw [h]
  | cell p t => simp only [resOne, Array.getD_eq_getD_getElem?] at h ⊢; rw [h]

theorem mapM_same {f g : ResultVar → Sem Value} : ∀ {l : List ResultVar}, (∀ x ∈ l, f x = g x) → l.mapM f = l.mapM g
  | [], _ => rfl
  | x :: xs, h => by
    rw [List.mapM_cons, List.mapM_cons, h x List.mem_cons_self, mapM_same fun y hy => h y (List.mem_cons_of_mem _ hy)]

theorem results_congr {fn : Func} {ts ts' : Array Value} (h : ∀ t ∈ resTmps fn, ts[t]? = ts'[t]?) : results fn ts = results fn ts' := by
  have h1 : fn.results.toList.mapM (resOne ts) = fn.results.toList.mapM (resOne ts') := mapM_same fun x hx => resOne_congr (h _ (List.mem_map.2 ⟨x, hx, rfl⟩))
  have h0 : ∀ ts : Array Value, results fn ts = (fn.results.mapM (resOne ts) >>= fun vs => pure (if h : vs.size = 1 then vs[0] else .tuple vs)) := fun _ => rfl
  have h2 : ∀ ts : Array Value, fn.results.mapM (resOne ts) = (List.toArray <$> fn.results.toList.mapM (resOne ts)) := fun ts => by
    generalize fn.results = l
    cases l
    simp only [List.mapM_toArray]
  rw [h0, h0, h2, h2, h1]

theorem leaves_congr {P : Program} {fn : Func} {ts ts' : Array Value} {R : Ending → World → Prop} (h : results fn ts = results fn ts') : ∀ (ds : List Deferred), Leaves P fn ts R ds = Leaves P fn ts' R ds
  | [] => by
    funext u w
    cases u <;> simp only [Leaves, h]
  | d :: ds => by
    have ih := leaves_congr (P := P) (R := R) h ds
    funext u w
    simp only [Leaves, ih]

/-- A deferred function that catches a panic, and does nothing else. -/
structure CatOk (P : Program) (f : Nat) : Prop where
  en : enterOk P f = true
  caught : ∀ v w, CallsD P f #[] (.panicking [{ v := v, recovered := false }]) w fun e u' w' => e = .returned (.tuple #[]) ∧ u' = .panicking [{ v := v, recovered := true }] ∧ w' = w
  idle : ∀ w, CallsD P f #[] .returning w fun e u' w' => e = .returned (.tuple #[]) ∧ u' = .returning ∧ w' = w

theorem CatOk.enters {P : Program} {f : Nat} (h : CatOk P f) (w : World) : (invoke (.fn (.func f) #[]) #[]).run P w = .ok (.enter f #[]) w := by
  have := enterOk_run h.en #[] w
  simpa [invoke] using this

theorem leaves_idle1 {P : Program} {f : Nat} (h : CatOk P f) {fn : Func} {ts : Array Value} {R : Ending → World → Prop} {w : World} {v : Value} (hr : (results fn ts).run P w = .ok v w) (hR : R (.returned v) w) : Leaves P fn ts R [dfOf f] .returning w := by
  refine leaves_cons (f := f) (args := #[]) (by simp) (h.enters w) ?_
  refine (h.idle w).mono ?_
  rintro e u' w' ⟨rfl, rfl, rfl⟩
  exact ⟨_, hr, hR⟩

theorem leaves_caught1 {P : Program} {f : Nat} (h : CatOk P f) {fn : Func} {ts : Array Value} {R : Ending → World → Prop} {w : World} {u v : Value} (hr : (results fn ts).run P w = .ok v w) (hR : R (.returned v) w) : Leaves P fn ts R [dfOf f] (.panicking [{ v := u, recovered := false }]) w := by
  refine leaves_cons (f := f) (args := #[]) (by simp) (h.enters w) ?_
  refine (h.caught u w).mono ?_
  rintro e u' w' ⟨rfl, rfl, rfl⟩
  exact ⟨_, hr, hR⟩

/-- How a function ends from here. -/
def finish (C : Cfg) (fn : Func) (e : Ex) (s : St) : Option End :=
  match s.df with
  | [] =>
    match e with
    | .normal | .ret => (resV C s fn.results.toList).map fun vs => .ret (retV vs)
    | .panic j => some (.pan j)
    | .exit _ => none
  | [f] =>
    if C.cat.contains f then
      match e with
      | .normal | .ret | .panic _ => (resV C s fn.results.toList).map fun vs => .ret (retV vs)
      | .exit _ => none
    else none
  | _ => none

def St.leave (s : St) : St := { s with tm := (s.kp.head?.getD ([], [])).1, df := (s.kp.head?.getD ([], [])).2, kp := s.kp.tail }

def endsOf (C : Cfg) (fn : Func) : List (Ex × St) → Option (List (End × St))
  | [] => some []
  | (e, s) :: xs => match finish C fn e s, endsOf C fn xs with | some en, some r => some ((en, s.leave) :: r) | _, _ => none

theorem endsOf_mem {C : Cfg} {fn : Func} : ∀ {l : List (Ex × St)} {r : List (End × St)}, endsOf C fn l = some r → ∀ x ∈ l, ∃ en, finish C fn x.1 x.2 = some en ∧ (en, x.2.leave) ∈ r
  | [], _, _, x, hx => by cases hx
  | (e, s) :: xs, r, h, x, hx => by
    simp only [endsOf] at h
    split at h
    · rename_i en r1 h1 h2
      simp only [Option.some.injEq] at h; subst h
      rcases List.mem_cons.1 hx with rfl | hx
      · exact ⟨en, h1, List.mem_cons_self⟩
      · obtain ⟨en', h3, h4⟩ := endsOf_mem h2 x hx
        exact ⟨en', h3, List.mem_cons_of_mem _ h4⟩
    · cases h

def callee (fn : Func) (args : List V) (st : St) : St := { st with tm := args.map some ++ List.replicate (fn.ntmps - args.length) (some .undef), kp := (st.tm, st.df) :: st.kp, df := [] }

def runFn (C : Cfg) (hint : Hints) (loops : Loops) : Nat → Inl
  | 0, _, _, _, _ => none
  | n + 1, pre, f, args, st =>
    match C.P.funcs[f]? with
    | none => none
    | some fn =>
      match fn.body with
      | none => none
      | some c =>
        match runCode C hint loops (runFn C hint loops n) f pre (resTmps fn) c (callee fn args st) with
        | none => none
        | some r => match endsOf C fn r.2 with | some es => some (r.1, dedup es) | none => none

theorem callee_frame {X : Ctx} {ks : List (Array Value × List Deferred)} {δ : Dl} {st : St} {a : Act} {w : World} (hS : Sat X ks δ st a w) (fn : Func) (args : List V) : Sat X ((a.tmps, a.defers) :: ks) δ (callee fn args st) { tmps := (args.map (V.den X.E δ)).toArray ++ Array.replicate (fn.ntmps - (args.map (V.den X.E δ)).toArray.size) undef, defers := [] } w := by
  refine ⟨⟨by simp [callee], fun i v hv => ?_⟩, rfl, hS.m, hS.pc, hS.fs, ⟨hS.tm, hS.df⟩, hS.kp⟩
  simp only [callee] at hv
  simp only
  by_cases hi : i < args.length
  · rw [List.getElem?_append_left (by simpa using hi), List.getElem?_map] at hv
    rw [Array.getElem?_append_left (by simpa using hi)]
    cases ha : args[i]? with
    | none => rw [ha] at hv; cases hv
    | some u =>
      rw [ha] at hv
      simp only [Option.map_some, Option.some.injEq] at hv
      subst hv
      simp [ha]
  · rw [List.getElem?_append_right (by simp; omega)] at hv
    rw [Array.getElem?_append_right (by simp; omega)]
    rw [List.getElem?_replicate] at hv
    simp only [List.length_map] at hv
    split at hv
    · rename_i hlt
      simp only [Option.some.injEq] at hv
      subst hv
      simp [hlt, V.den, undef]
    · cases hv

theorem runFn_ok {C : Cfg} {X : Ctx} (hE : X.E.ok C.σ) (hC : ∀ f ∈ C.cat, CatOk C.P f) {hint : Hints} {loops : Loops} : ∀ n, InlOk C.P X (runFn C hint loops n)
  | 0 => fun _ _ _ _ _ h => by cases h
  | n + 1 => fun pre f args st r h hob ks δ a w hS => by
    simp only [runFn] at h
    split at h
    · cases h
    · rename_i fn hf
      split at h
      · cases h
      · rename_i c hc
        split at h
        · cases h
        · rename_i r1 h1
          split at h
          · rename_i es hes
            simp only [Option.some.injEq] at h; subst h
            refine calls_of_wp_defers hf hc ?_
            refine runCode_wp hE (runFn_ok hE hC n) h1 hob (callee_frame hS fn args) ?_ fun x hx δ' a' w' hS' => ?_
            · intro c a a' w h1 h2 h3
              show Leaves C.P fn a'.tmps _ a'.defers _ w
              rw [← h1, ← leaves_congr (results_congr h2)]
              exact h3
            · have hsat : Sat X ks δ' x.2.leave a w' := by
                have hk := hS'.kp
                cases hkk : x.2.kp with
                | nil => rw [hkk] at hk; exact hk.elim
                | cons t ts =>
                  rw [hkk] at hk
                  unfold St.leave
                  rw [hkk]
                  exact ⟨hk.1.1, hk.1.2, hS'.m, hS'.pc, hS'.fs, hk.2⟩
              obtain ⟨en, h2, h3⟩ := endsOf_mem hes x hx
              have hdf := hS'.df
              have hres := fun vs (h : resV C x.2 fn.results.toList = some vs) => results_of (C := C) hS'.tm hS'.m.rowsAt h
              have hin : ∀ en', en' = en → ∃ y ∈ (dedup es), ∃ δ'', Sat X ks δ'' y.2 a w' ∧ en'.den X.E δ' = y.1.den X.E δ'' := fun en' he => ⟨_, mem_dedup h3, δ', hsat, by rw [he]⟩
              unfold finish at h2
              split at h2
              · rename_i hd0
                rw [hd0] at hdf
                split at h2
                · rename_i he0
                  cases hv : resV C x.2 fn.results.toList with
                  | none => rw [hv] at h2; cases h2
                  | some vs =>
                    rw [hv] at h2
                    simp only [Option.map_some, Option.some.injEq] at h2
                    rw [he0]
                    show Leaves C.P fn a'.tmps _ a'.defers .returning w'
                    rw [hdf]
                    exact ⟨_, hres vs hv, hin _ h2⟩
                · rename_i he0
                  cases hv : resV C x.2 fn.results.toList with
                  | none => rw [hv] at h2; cases h2
                  | some vs =>
                    rw [hv] at h2
                    simp only [Option.map_some, Option.some.injEq] at h2
                    rw [he0]
                    show Leaves C.P fn a'.tmps _ a'.defers .returning w'
                    rw [hdf]
                    exact ⟨_, hres vs hv, hin _ h2⟩
                · rename_i j he0
                  simp only [Option.some.injEq] at h2
                  rw [he0]
                  show Leaves C.P fn a'.tmps _ a'.defers _ w'
                  rw [hdf]
                  exact hin _ h2
                · cases h2
              · rename_i f1 hd0
                rw [hd0] at hdf
                split at h2
                · rename_i hcat
                  have hcok := hC f1 (by simpa using hcat)
                  split at h2
                  · rename_i he0
                    cases hv : resV C x.2 fn.results.toList with
                    | none => rw [hv] at h2; cases h2
                    | some vs =>
                      rw [hv] at h2
                      simp only [Option.map_some, Option.some.injEq] at h2
                      rw [he0]
                      show Leaves C.P fn a'.tmps _ a'.defers .returning w'
                      rw [hdf]
                      exact leaves_idle1 hcok (hres vs hv) (hin _ h2)
                  · rename_i he0
                    cases hv : resV C x.2 fn.results.toList with
                    | none => rw [hv] at h2; cases h2
                    | some vs =>
                      rw [hv] at h2
                      simp only [Option.map_some, Option.some.injEq] at h2
                      rw [he0]
                      show Leaves C.P fn a'.tmps _ a'.defers .returning w'
                      rw [hdf]
                      exact leaves_idle1 hcok (hres vs hv) (hin _ h2)
                  · rename_i j he0
                    cases hv : resV C x.2 fn.results.toList with
                    | none => rw [hv] at h2; cases h2
                    | some vs =>
                      rw [hv] at h2
                      simp only [Option.map_some, Option.some.injEq] at h2
                      rw [he0]
                      show Leaves C.P fn a'.tmps _ a'.defers _ w'
                      rw [hdf]
                      exact leaves_caught1 hcok (hres vs hv) (hin _ h2)
                  · cases h2
                · cases h2
              · cases h2
          · cases h

/-! The law. -/

/-- What is known at the beginning: slots of nobody. -/
def st0 (fs : List (Nat × List Nat)) : St := ⟨[], [], [], [], fs, [], []⟩

/-- A call, walked by reckoning: what is left are the obligations and the ends. -/
theorem calls {P : Program} {σ : Sorts} {wr : Nat × Nat → List Nat} {cat : List Nat} (hC : ∀ f ∈ cat, CatOk P f) {hint : Hints} {loops : Loops} (E : Env) (n f : Nat) (args : List V) {obs : List Ob} {ends : List (End × St)} (hr : runFn ⟨P, σ, wr, cat⟩ hint loops n 0 f args (st0 []) = some (obs, ends)) (hE : E.ok σ) (G : List Nat) (w : World)
    {vs : Array Value} (hv : (args.map (V.den E fun _ => default)).toArray = vs) {R : Ending → World → Prop} (hob : ∀ b ∈ obs, b.holds P ⟨E, [], G, w⟩) (hend : ∀ x ∈ ends, ∀ δ w', SatM ⟨E, [], G, w⟩ δ x.2.mem x.2.obs w' → PcOk E δ x.2.pc → FsOk E δ x.2.fs → R (x.1.den E δ) w') : Calls P f vs w R := by
  subst hv
  have h0 : Sat ⟨E, [], G, w⟩ [] (fun _ => default) (st0 []) ⟨#[], []⟩ w := ⟨⟨rfl, fun i v h => by simp [st0] at h⟩, rfl, ⟨Mem.start G w, fun p hp => (by cases hp)⟩, fun p hp => (by cases hp), fun p hp => (by cases hp), trivial⟩
  refine (runFn_ok (C := ⟨P, σ, wr, cat⟩) hE hC n 0 f args _ _ hr hob [] _ _ w h0).mono fun en w' ⟨x, hx, δ', hS, he⟩ => ?_
  rw [he]
  exact hend x hx δ' w' hS.m hS.pc hS.fs

end Sx
end Go.Proofs.Ytdpahikbikiilaa
