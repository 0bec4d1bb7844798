/- A walk by reckoning: operations that turn memory, calls, what is left to be shown of these. It speaks of no function. -/
import Derived.Test.YtdpahikbikiilaaSxb
import Derived.Shelf.Abstract
namespace Go.Proofs.Ytdpahikbikiilaa
open Go.RowKit
namespace Sx

/-- What a call (or an operation by a law of one's own) leaves: its value, new numbers, the rows handed to it as they are then and new ones, facts, or that it gives up. -/
structure Eff where
  ret : V
  news : List Nat := []
  mem : List MRow := []
  obs : List ORow := []
  fs : List (Nat × List Nat) := []
  pan : Option Nat := none
  deriving DecidableEq, Repr, Inhabited

inductive Ex where
  | normal
  | exit (id : Nat)
  | ret
  | panic (j : Nat)
  deriving DecidableEq, Repr, Inhabited

def Ex.den (E : Env) : Ex → Exit
  | .normal => .normal
  | .exit id => .exit id
  | .ret => .ret
  | .panic j => .panic [{ v := E.pan j, recovered := false }]

/-- What is left to be shown. -/
inductive Ob where
  | call (f : Nat) (args : List V) (pc : List (T × Bool)) (fs : List (Nat × List Nat)) (mem : List MRow) (obs : List ORow) (e : Eff)
  | val (op : Op) (ty : TypeId) (vals : List V) (pc : List (T × Bool)) (fs : List (Nat × List Nat)) (mem : List MRow) (obs : List ORow) (v : V)
  | act (op : Op) (ty : TypeId) (vals : List V) (pc : List (T × Bool)) (fs : List (Nat × List Nat)) (mem : List MRow) (obs : List ORow) (e : Eff)
  | loop (rs : List Nat) (c : Code) (st : St) (lv : List (Ex × St))

structure Pre (X : Ctx) (δ : Dl) (w : World) (l : List (Nat × Obj)) (pc : List (T × Bool)) (fs : List (Nat × List Nat)) (mem : List MRow) (obs : List ORow) : Prop where
  pc : PcOk X.E δ pc
  fs : FsOk X.E δ fs
  blk : Mem (rows X.E δ mem obs ++ l) X.G X.base w
  mine : ∀ p ∈ rows X.E δ mem obs, Mine X p.1

structure After (X : Ctx) (e : Eff) (δ : Dl) (l : List (Nat × Obj)) (w' : World) (δ' : Dl) : Prop where
  agree : Agree e.news δ δ'
  fs : FsOk X.E δ' e.fs
  blk : Mem (rows X.E δ' e.mem e.obs ++ l) X.G X.base w'
  mine : ∀ p ∈ rows X.E δ' e.mem e.obs, Mine X p.1

/-- What gives up may be told before some slots are written. -/
def QOk (rs : List Nat) (Q : Exit → Act → World → Prop) : Prop := ∀ c a a' w, a.defers = a'.defers → (∀ t ∈ rs, a.tmps[t]? = a'.tmps[t]?) → Q (.panic c) a w → Q (.panic c) a' w

def Ob.holds (P : Program) (X : Ctx) : Ob → Prop
  | .call f args pc fs mem obs e => ∀ δ w l, Pre X δ w l pc fs mem obs → Calls P f (args.map (V.den X.E δ)).toArray w fun en w' => ∃ δ', After X e δ l w' δ' ∧ en = match e.pan with | none => .returned (e.ret.den X.E δ') | some j => .panicked [{ v := X.E.pan j, recovered := false }]
  | .val op ty vals pc fs mem obs v => ∀ δ w l (a : Act) (o : Oper), Pre X δ w l pc fs mem obs → o.op = op → o.type = ty → op.operands.toList.map a.eval = vals.map (V.den X.E δ) → (execOp a.eval o).run P w = .ok (.value (v.den X.E δ)) w
  | .act op ty vals pc fs mem obs e => ∀ δ w l (a : Act) (o : Oper) K Q, Pre X δ w l pc fs mem obs → o.op = op → o.type = ty → op.operands.toList.map a.eval = vals.map (V.den X.E δ) → (∀ δ' w', After X e δ l w' δ' → K (a.put o.dst (e.ret.den X.E δ')) w') → o.wp P a w K Q
  | .loop rs c st lv => ∀ ks δ a w Q, Sat X ks δ st a w → QOk rs Q → (∀ x ∈ lv, ∀ δ' a' w', Sat X ks δ' x.2 a' w' → Q (x.1.den X.E) a' w') → (Code.loop c).wp P Q a w

/-! Rows put in by their numbers. -/

def insM (r : MRow) : List MRow → List MRow
  | [] => [r]
  | x :: xs => if r.1 ≤ x.1 then r :: x :: xs else x :: insM r xs

theorem insM_perm (r : MRow) : ∀ l : List MRow, (insM r l).Perm (r :: l)
  | [] => List.Perm.refl _
  | x :: xs => by
    unfold insM
    split
    · exact List.Perm.refl _
    · exact ((insM_perm r xs).cons x).trans (List.Perm.swap _ _ _)

def insO (r : ORow) : List ORow → List ORow
  | [] => [r]
  | x :: xs => if r.1 ≤ x.1 then r :: x :: xs else x :: insO r xs

theorem insO_perm (r : ORow) : ∀ l : List ORow, (insO r l).Perm (r :: l)
  | [] => List.Perm.refl _
  | x :: xs => by
    unfold insO
    split
    · exact List.Perm.refl _
    · exact ((insO_perm r xs).cons x).trans (List.Perm.swap _ _ _)

theorem insMs_perm : ∀ (rs l : List MRow), (rs.foldr insM l).Perm (rs ++ l)
  | [], l => List.Perm.refl _
  | r :: rs, l => (insM_perm r _).trans ((insMs_perm rs l).cons r)

theorem insOs_perm : ∀ (rs l : List ORow), (rs.foldr insO l).Perm (rs ++ l)
  | [], l => List.Perm.refl _
  | r :: rs, l => (insO_perm r _).trans ((insOs_perm rs l).cons r)

def insF (f : Nat × List Nat) : List (Nat × List Nat) → List (Nat × List Nat)
  | [] => [f]
  | x :: xs => if f = x then x :: xs else if f.1 ≤ x.1 then f :: x :: xs else x :: insF f xs

theorem insF_mem {f g : Nat × List Nat} : ∀ {l : List (Nat × List Nat)}, g ∈ insF f l → g = f ∨ g ∈ l
  | [], h => by simp only [insF, List.mem_singleton] at h; exact .inl h
  | x :: xs, h => by
    unfold insF at h
    split at h
    · exact .inr h
    · split at h
      · rcases List.mem_cons.1 h with h | h
        · exact .inl h
        · exact .inr h
      · rcases List.mem_cons.1 h with h | h
        · exact .inr (h ▸ List.mem_cons_self)
        · rcases insF_mem h with h | h
          · exact .inl h
          · exact .inr (List.mem_cons_of_mem _ h)

theorem insFs_mem {g : Nat × List Nat} : ∀ {fs l : List (Nat × List Nat)}, g ∈ fs.foldr insF l → g ∈ fs ∨ g ∈ l
  | [], _, h => .inr h
  | f :: fs, l, h => by
    rcases insF_mem h with h | h
    · exact .inl (h ▸ List.mem_cons_self)
    · rcases insFs_mem h with h | h
      · exact .inl (List.mem_cons_of_mem _ h)
      · exact .inr h

/-- The rows with these numbers, and the others. -/
def handM (ws : List Nat) (mem : List MRow) : List MRow := mem.filter fun r => ws.contains r.1
def restM (ws : List Nat) (mem : List MRow) : List MRow := mem.filter fun r => !ws.contains r.1
def handO (ws : List Nat) (obs : List ORow) : List ORow := obs.filter fun r => ws.contains r.1
def restO (ws : List Nat) (obs : List ORow) : List ORow := obs.filter fun r => !ws.contains r.1

theorem parts_perm (E : Env) (δ : Dl) (m1 m2 : List MRow) (o1 o2 : List ORow) (l : List (Nat × Obj)) {mem : List MRow} {obs : List ORow} (hm : mem.Perm (m1 ++ m2)) (ho : obs.Perm (o1 ++ o2)) : (rows E δ mem obs ++ l).Perm (rows E δ m1 o1 ++ (rows E δ m2 o2 ++ l)) := by
  have h1 := (hm.map (mRow E δ)).append (ho.flatMap_right (oRow E δ))
  rw [List.map_append, List.flatMap_append] at h1
  refine (h1.append_right l).trans ?_
  unfold rows
  simp only [List.append_assoc]
  refine List.Perm.append_left _ ?_
  exact List.perm_append_comm_assoc _ _ _

theorem hand_perm (ws : List Nat) (mem : List MRow) : mem.Perm (handM ws mem ++ restM ws mem) := (List.filter_append_perm _ _).symm

theorem handO_perm (ws : List Nat) (obs : List ORow) : obs.Perm (handO ws obs ++ restO ws obs) := (List.filter_append_perm _ _).symm

theorem Mem.permOf {l l' : List (Nat × Obj)} {G : List Nat} {base w : World} (h : Mem l G base w) (hp : l.Perm l') : Mem l' G base w := h.perm hp.symm

theorem T.free_nil : ∀ t : T, t.free [] = true
  | .fn _ ds => by simp [T.free]
  | .ptr _ _ => rfl
  | .bin _ x y => by simp only [T.free, free_nil x, free_nil y, Bool.and_self]
  | .not x => free_nil x
  | .pick c x y => by simp only [T.free, free_nil c, free_nil x, free_nil y, Bool.and_self]
  | .int _ _ | .bool _ | .nil _ | .func _ | .a _ => rfl

theorem V0.free_nil (v : V0) : v.free [] = true := by
  cases v
  · exact T.free_nil _
  · exact List.all_eq_true.2 fun t _ => T.free_nil t

theorem V.free_nil (v : V) : v.free [] = true := by
  cases v
  · exact V0.free_nil _
  · exact List.all_eq_true.2 fun t _ => V0.free_nil t

theorem freeT_nil (tm : List (Option V)) : freeT [] tm = true := List.all_eq_true.2 fun o _ => by cases o <;> first | rfl | exact V.free_nil _

theorem St.free_nil (st : St) : st.free [] = true := by
  unfold St.free
  have h1 : freeM [] st.mem = true := List.all_eq_true.2 fun r _ => by
    rw [Bool.and_eq_true]; exact ⟨rfl, List.all_eq_true.2 fun t _ => T.free_nil t⟩
  have h2 : freeO [] st.obs = true := List.all_eq_true.2 fun r _ => by
    rw [Bool.and_eq_true]; exact ⟨rfl, List.all_eq_true.2 fun t _ => rfl⟩
  have h3 : freeP [] st.pc = true := List.all_eq_true.2 fun r _ => T.free_nil r.1
  have h4 : freeF [] st.fs = true := List.all_eq_true.2 fun r _ => List.all_eq_true.2 fun t _ => rfl
  have h5 : (st.kp.all fun t => freeT [] t.1) = true := List.all_eq_true.2 fun r _ => freeT_nil r.1
  rw [freeT_nil, h1, h2, h3, h4, h5]; rfl

/-- A state behind what a call does. -/
def St.after (st : St) (ws wo : List Nat) (e : Eff) : Option St :=
  if e.news.isEmpty || st.free e.news then some { st with mem := e.mem.foldr insM (restM ws st.mem), obs := e.obs.foldr insO (restO wo st.obs), fs := e.fs.foldr insF st.fs } else none

/-- What a law of one's own wants of the state: rows, conditions of the way, facts. -/
structure Need where
  ws : List Nat := []
  wo : List Nat := []
  pk : List T := []
  fk : List Nat := []

def handP (pk : List T) (pc : List (T × Bool)) : List (T × Bool) := pc.filter fun p => pk.contains p.1
def handF (fk : List Nat) (fs : List (Nat × List Nat)) : List (Nat × List Nat) := fs.filter fun f => fk.contains f.1

theorem rows_sub {E : Env} {δ : Dl} {m m' : List MRow} {o o' : List ORow} (hm : ∀ r ∈ m, r ∈ m') (ho : ∀ r ∈ o, r ∈ o') {p : Nat × Obj} (h : p ∈ rows E δ m o) : p ∈ rows E δ m' o' := by
  unfold rows at *
  rcases List.mem_append.1 h with h | h
  · obtain ⟨r, hr, rfl⟩ := List.mem_map.1 h
    exact List.mem_append_left _ (List.mem_map.2 ⟨r, hm r hr, rfl⟩)
  · obtain ⟨r, hr, hp⟩ := List.mem_flatMap.1 h
    exact List.mem_append_right _ (List.mem_flatMap.2 ⟨r, ho r hr, hp⟩)

theorem SatM.pre {X : Ctx} {ks : List (Array Value × List Deferred)} {δ : Dl} {st : St} {a : Act} {w : World} (h : Sat X ks δ st a w) (pk : List T) (fk : List Nat) (ws wo : List Nat) : Pre X δ w (rows X.E δ (restM ws st.mem) (restO wo st.obs) ++ X.l0) (handP pk st.pc) (handF fk st.fs) (handM ws st.mem) (handO wo st.obs) :=
  ⟨fun p hp => h.pc p (List.mem_filter.1 hp).1, fun f hf => h.fs f (List.mem_filter.1 hf).1, Mem.permOf h.m.blk (parts_perm X.E δ _ _ _ _ X.l0 (hand_perm ws st.mem) (handO_perm wo st.obs)), fun p hp => h.m.mine p (rows_sub (fun _ hr => (List.mem_filter.1 hr).1) (fun _ hr => (List.mem_filter.1 hr).1) hp)⟩

theorem all_filter {α : Type} {p q : α → Bool} {l : List α} (h : l.all p = true) : (l.filter q).all p = true := by
  rw [List.all_eq_true] at *
  exact fun x hx => h x (List.mem_filter.1 hx).1

theorem Sat.after {X : Ctx} {ks : List (Array Value × List Deferred)} {δ δ' : Dl} {st st' : St} {a : Act} {w w' : World} (h : Sat X ks δ st a w) {ws wo : List Nat} {e : Eff} (hs : st.after ws wo e = some st')
    (hA : After X e δ (rows X.E δ (restM ws st.mem) (restO wo st.obs) ++ X.l0) w' δ') : Sat X ks δ' st' a w' := by
  unfold St.after at hs
  split at hs
  · rename_i hf0
    have hf : st.free e.news = true := by
      rcases Bool.or_eq_true _ _ ▸ hf0 with h0 | h0
      · rw [List.isEmpty_iff.1 h0]; exact St.free_nil st
      · exact h0
    simp only [Option.some.injEq] at hs; subst hs
    have h' := h.free hA.agree hf
    unfold St.free at hf
    simp only [Bool.and_eq_true] at hf
    refine ⟨h'.tm, h'.df, ⟨?_, ?_⟩, h'.pc, ?_, h'.kp⟩
    · have hb := hA.blk
      rw [← rows_free hA.agree (mem := restM ws st.mem) (obs := restO wo st.obs) (all_filter hf.1.1.1.1.2) (all_filter hf.1.1.1.2)] at hb
      exact Mem.permOf hb (parts_perm X.E δ' _ _ _ _ X.l0 (insMs_perm _ _) (insOs_perm _ _)).symm
    · intro p hp
      unfold rows at hp
      rcases List.mem_append.1 hp with hp | hp
      · obtain ⟨r, hr, rfl⟩ := List.mem_map.1 hp
        rcases List.mem_append.1 ((insMs_perm _ _).mem_iff.1 hr) with hr | hr
        · exact hA.mine _ (List.mem_append_left _ (List.mem_map.2 ⟨r, hr, rfl⟩))
        · exact h'.m.mine _ (List.mem_append_left _ (List.mem_map.2 ⟨r, (List.mem_filter.1 hr).1, rfl⟩))
      · obtain ⟨r, hr, hp⟩ := List.mem_flatMap.1 hp
        rcases List.mem_append.1 ((insOs_perm _ _).mem_iff.1 hr) with hr | hr
        · exact hA.mine _ (List.mem_append_right _ (List.mem_flatMap.2 ⟨r, hr, hp⟩))
        · exact h'.m.mine _ (List.mem_append_right _ (List.mem_flatMap.2 ⟨r, (List.mem_filter.1 hr).1, hp⟩))
    · intro f hf1
      rcases insFs_mem hf1 with hf1 | hf1
      · exact hA.fs f hf1
      · exact h'.fs f hf1
  · cases hs

/-! What an operation may do. -/

structure Res where
  obs : List Ob
  nxt : List St
  pan : List (Nat × St)

def Res.one (st : St) : Res := ⟨[], [st], []⟩

inductive Hint where
  | inl
  | eff (n : Need) (e : Eff)
  | val (n : Need) (v : V)

inductive End where
  | ret (v : V)
  | pan (j : Nat)
  deriving DecidableEq, Repr, Inhabited

def End.den (E : Env) (δ : Dl) : End → Ending
  | .ret v => .returned (v.den E δ)
  | .pan j => .panicked [{ v := E.pan j, recovered := false }]

abbrev Inl := Nat → Nat → List V → St → Option (List Ob × List (End × St))

def InlOk (P : Program) (X : Ctx) (inl : Inl) : Prop := ∀ pre f args st r, inl pre f args st = some r → (∀ b ∈ r.1, b.holds P X) → ∀ ks δ a w, Sat X ks δ st a w →
  Calls P f (args.map (V.den X.E δ)).toArray w fun en w' => ∃ x ∈ r.2, ∃ δ', Sat X ks δ' x.2 a w' ∧ en = x.1.den X.E δ'

/-- A direct call. -/
def callOf (tm : List (Option V)) : Op → Option (Nat × List V)
  | .call { callee := .value (.func f), args := xs, .. } => (evals tm xs.toList).map fun vs => (f, vs)
  | _ => none

def enterOk (P : Program) (f : Nat) : Bool :=
  match P.funcs[f]? with
  | some fn => !(fn.name == "runtime.NumGoroutine") && fn.body.isSome
  | none => false

theorem enterOk_run {P : Program} {f : Nat} (h : enterOk P f = true) (args : Array Value) (w : World) : (callFunc f args).run P w = .ok (.enter f args) w := by
  unfold enterOk at h
  split at h
  · rename_i fn hf
    rw [Bool.and_eq_true] at h
    obtain ⟨c, hc⟩ := Option.isSome_iff_exists.1 h.2
    exact enters_of hf (by simpa using h.1) hc args w
  · cases h

theorem callOf_exec {P : Program} {E : Env} {δ : Dl} {tm : List (Option V)} {a : Act} (hF : Frame1 E δ tm a.tmps) {o : Oper} {f : Nat} {vs : List V} (h : callOf tm o.op = some (f, vs)) (hn : enterOk P f = true) (w : World) :
    (execOp a.eval o).run P w = .ok (.enter f (vs.map (V.den E δ)).toArray) w := by
  unfold callOf at h
  split at h
  · rename_i f1 xs ts hop
    cases hv : evals tm xs.toList with
    | none => rw [hv] at h; cases h
    | some us =>
      rw [hv] at h
      simp only [Option.map_some, Option.some.injEq, Prod.mk.injEq] at h
      obtain ⟨rfl, rfl⟩ := h
      have he := evals_den hF hv
      unfold execOp
      simp only [hop, resolve, invoke, Act.eval, Deferred.ofValue, Sem.run_bind, Sem.run_pure, Result.andThen_ok]
      have h2 : xs.map a.eval = (us.map (V.den E δ)).toArray := by
        rw [← he, ← Array.toList_map, Array.toArray_toList]
      simp only [Array.empty_append, Array.append_empty]
      show (callFunc f1 (xs.map a.eval)).run P w = _
      rw [h2]
      exact enterOk_run hn _ w
  · cases h

theorem Calls.wpOf {P : Program} {f : Nat} {args : Array Value} {w : World} {R : Ending → World → Prop} (hc : Calls P f args w R) {a : Act} {o : Oper} {K : Act → World → Prop} {Q : Exit → Act → World → Prop} (hx : (execOp a.eval o).run P w = .ok (.enter f args) w)
    (h : ∀ e w', R e w' → (∃ v, e = .returned v ∧ K (a.put o.dst v) w') ∨ (∃ c, e = .panicked c ∧ Q (.panic c) a w')) : o.wp P a w K Q := by
  unfold Oper.wp
  rw [hx, Oper.upon_enter]
  refine hc.mono fun e w' hr => ?_
  rcases h e w' hr with ⟨v, rfl, hk⟩ | ⟨c, rfl, hk⟩
  · exact hk
  · exact hk

/-- A row's cells turned. -/
def updM (d : Nat) (f : List T → Option (List T)) : List MRow → Option (List MRow)
  | [] => none
  | r :: rs =>
    if r.1 == d then match f r.2.2 with | some new => some ((r.1, r.2.1, new) :: rs) | none => none
    else match updM d f rs with | some rs' => some (r :: rs') | none => none

theorem updM_at {d : Nat} {f : List T → Option (List T)} : ∀ {mem mem' : List MRow}, updM d f mem = some mem' → ∃ i r new, mem[i]? = some r ∧ r.1 = d ∧ f r.2.2 = some new ∧ mem' = mem.set i (d, r.2.1, new)
  | [], _, h => by cases h
  | r :: rs, mem', h => by
    unfold updM at h
    split at h
    · rename_i hd
      split at h
      · rename_i new hn
        simp only [Option.some.injEq] at h; subst h
        have hd' : r.1 = d := by simpa using hd
        exact ⟨0, r, new, rfl, hd', hn, by subst hd'; rfl⟩
      · cases h
    · split at h
      · rename_i rs' hr
        simp only [Option.some.injEq] at h; subst h
        obtain ⟨i, r1, new, h1, h2, h3, rfl⟩ := updM_at hr
        exact ⟨i + 1, r1, new, h1, h2, h3, rfl⟩
      · cases h

def spliceT (off : Nat) (vs : List T) (old : List T) : Option (List T) := if off + vs.length ≤ old.length then some (overlay old off vs) else none

theorem splice_den (E : Env) (δ : Dl) : ∀ (vs : List T) (off : Nat) (old : List T), splice (old.map (T.den E δ)).toArray off (vs.map (T.den E δ)) = ((overlay old off vs).map (T.den E δ)).toArray
  | [], _, _ => rfl
  | v :: r, off, old => by
    rw [List.map_cons, splice, overlay]
    rw [List.setIfInBounds_toArray, ← List.map_set]
    exact splice_den E δ r (off + 1) (old.set off v)

/-- A store into a row that is known. -/
def storeO (C : Cfg) (st : St) (ty : TypeId) (d off : Nat) (v : V0) : Option St :=
  if v.good C.σ && szOf C.P ty == some v.cells.length then
    match updM d (spliceT off v.cells) st.mem with
    | some mem => some { st with mem := mem }
    | none => none
  else none

theorem rows_set (E : Env) (δ : Dl) (mem : List MRow) (obs : List ORow) (l0 : List (Nat × Obj)) {i : Nat} {r : MRow} (hi : i < mem.length) : (rows E δ mem obs ++ l0).set i (mRow E δ r) = rows E δ (mem.set i r) obs ++ l0 := by
  unfold rows
  rw [List.set_append_left _ _ (by rw [List.length_append, List.length_map]; omega), List.set_append_left _ _ (by rw [List.length_map]; exact hi), List.map_set]

theorem storeO_wp {C : Cfg} {X : Ctx} (hE : X.E.ok C.σ) {ks : List (Array Value × List Deferred)} {δ : Dl} {st st' : St} {a : Act} {w : World} (hS : Sat X ks δ st a w) {ty : TypeId} {d off : Nat} {v : V0} (h : storeO C st ty d off v = some st')
    {x y : Operand} (hx : a.eval x = .pointer (some ⟨(δ d).n, off, none⟩)) (hy : a.eval y = v.den X.E δ) {o : Oper} (ho : o.op = .store ty x y) {K : Act → World → Prop} {Q : Exit → Act → World → Prop}
    (hk : ∀ w', Sat X ks δ { st' with tm := putT st'.tm o.dst .undef } (a.put o.dst undef) w' → K (a.put o.dst undef) w') : o.wp C.P a w K Q := by
  unfold storeO at h
  split at h
  · rename_i hg
    rw [Bool.and_eq_true] at hg
    have hsz : (C.P.info? ty).map (·.size) = some v.cells.length := by simpa [szOf] using hg.2
    split at h
    · rename_i mem' hm
      simp only [Option.some.injEq] at h; subst h
      obtain ⟨i, r, new, hi, hd, hf, rfl⟩ := updM_at hm
      subst hd
      unfold spliceT at hf
      split at hf
      · rename_i hlen
        simp only [Option.some.injEq] at hf; subst hf
        have hil : i < st.mem.length := (List.getElem?_eq_some_iff.1 hi).1
        have hb := hS.m.row (List.mem_of_getElem? hi)
        obtain ⟨hc, h1⟩ := V0.cells_den hE δ v hg.1
        have hrow : (rows X.E δ st.mem st.obs ++ X.l0)[i]? = some ((δ r.1).n, .cells (r.2.2.map (T.den X.E δ)).toArray r.2.1 (0, 0)) := by
          unfold rows
          rw [List.getElem?_append_left (by rw [List.length_append, List.length_map]; omega), List.getElem?_append_left (by rw [List.length_map]; exact hil), List.getElem?_map, hi]
          rfl
        have hmine := hS.m.mine (mRow X.E δ r) (List.mem_append_left _ (List.mem_map.2 ⟨r, List.mem_of_getElem? hi, rfl⟩))
        have hput := hS.m.blk.put i hrow hmine (rows_set X.E δ st.mem st.obs X.l0 (r := (r.1, r.2.1, overlay r.2.2 off v.cells)) hil)
        have hK := hk (w.setRow (δ r.1).n ((overlay r.2.2 off v.cells).map (T.den X.E δ)).toArray) ⟨hS.tm.put o.dst .undef, by cases o.dst <;> exact hS.df, ⟨hput, fun p hp => by
          unfold rows at hp
          rcases List.mem_append.1 hp with hp | hp
          · obtain ⟨q, hq, rfl⟩ := List.mem_map.1 hp
            rcases List.mem_or_eq_of_mem_set hq with hq | rfl
            · exact hS.m.mine _ (List.mem_append_left _ (List.mem_map.2 ⟨q, hq, rfl⟩))
            · exact hmine
          · exact hS.m.mine _ (List.mem_append_right _ hp)⟩, hS.pc, hS.fs, hS.kp⟩
        cases v with
        | one t =>
          have hv : (t.den X.E δ).cells = #[t.den X.E δ] := by simpa [V0.cells, V0.den] using hc
          have ho1 : (t.den X.E δ).oneCell' = true := by simpa [V0.cells] using h1
          refine wp_storec ty x y ho hx hy hb (by simp [V0.cells] at hlen ⊢; omega) (by simpa [V0.cells] using hsz) hv ho1 ?_
          have := splice_den X.E δ [t] off r.2.2
          simp only [List.map_cons, List.map_nil, splice] at this
          rw [show V0.den X.E δ (V0.one t) = t.den X.E δ from rfl, this]
          exact hK
        | agg l =>
          refine wp_storem ty x y ho hx hy hb (by simpa [V0.cells] using hlen) (by simpa [V0.cells] using hsz) (by rw [List.all_toArray]; simpa [V0.cells] using h1) ?_
          have := splice_den X.E δ l off r.2.2
          simp only at this ⊢
          rw [this]
          exact hK
      · cases hf
    · cases h
  · cases h

/-- A new row. -/
def newO (st : St) (d : Nat) (ty : TypeId) (cells : List T) (dst : Option Tmp) (v : V) : Option Res :=
  if st.free [d] && cells.all (T.free [d]) then some (.one { st with tm := putT st.tm dst v, mem := insM (d, ty, cells) st.mem }) else none

theorem newO_sat {X : Ctx} {ks : List (Array Value × List Deferred)} {δ : Dl} {st : St} {a : Act} {w : World} (hS : Sat X ks δ st a w) {d : Nat} {ty : TypeId} {cells : List T} {dst : Option Tmp} {v : V} {r : Res} (h : newO st d ty cells dst v = some r)
    {u : Value} (hu : ∀ δ' : Dl, (δ' d).n = w.heap.size → v.den X.E δ' = u) : ∃ st', r = .one st' ∧ ∃ δ', Sat X ks δ' st' (a.put dst u) (w.alloc (.cells (cells.map (T.den X.E δ)).toArray ty (0, 0))) := by
  unfold newO at h
  split at h
  · rename_i hf
    rw [Bool.and_eq_true] at hf
    simp only [Option.some.injEq] at h; subst h
    refine ⟨_, rfl, fun k => if k = d then ⟨w.heap.size, default, default, [], []⟩ else δ k, ?_⟩
    generalize hδ : (fun k => if k = d then ⟨w.heap.size, default, default, [], []⟩ else δ k) = δ'
    have hag : Agree [d] δ δ' := fun k hk => by
      subst hδ
      have : k ≠ d := by simpa using hk
      simp [this]
    have hd : (δ' d).n = w.heap.size := by subst hδ; simp
    have h' := hS.free hag hf.1
    have hc : cells.map (T.den X.E δ') = cells.map (T.den X.E δ) := List.map_congr_left fun t ht => T.den_free hag t (List.all_eq_true.1 hf.2 t ht)
    have hnew := h'.m.blk.new (.cells (cells.map (T.den X.E δ)).toArray ty (0, 0))
    have hb : X.base.heap.size ≤ w.heap.size := h'.m.blk.grownIn.size
    refine ⟨by have := h'.tm.put dst v; rw [hu δ' hd] at this; exact this, by cases dst <;> exact h'.df, ⟨?_, ?_⟩, h'.pc, h'.fs, h'.kp⟩
    · refine Mem.permOf hnew ?_
      have e : (w.heap.size, Obj.cells (cells.map (T.den X.E δ)).toArray ty (0, 0)) = mRow X.E δ' (d, ty, cells) := by unfold mRow; rw [hd, hc]
      rw [e]
      unfold rows
      have hp := (insM_perm (d, ty, cells) st.mem).map (mRow X.E δ')
      rw [List.map_cons] at hp
      have h2 := (hp.append_right (st.obs.flatMap (oRow X.E δ'))).append_right X.l0
      exact h2.symm
    · intro p hp
      unfold rows at hp
      rcases List.mem_append.1 hp with hp | hp
      · obtain ⟨r, hr, rfl⟩ := List.mem_map.1 hp
        rcases List.mem_cons.1 ((insM_perm _ _).mem_iff.1 hr) with rfl | hr
        · left
          show X.base.heap.size ≤ (δ' d).n
          rw [hd]; exact hb
        · exact h'.m.mine _ (List.mem_append_left _ (List.mem_map.2 ⟨r, hr, rfl⟩))
      · exact h'.m.mine _ (List.mem_append_right _ hp)
  · cases h

end Sx
end Go.Proofs.Ytdpahikbikiilaa
