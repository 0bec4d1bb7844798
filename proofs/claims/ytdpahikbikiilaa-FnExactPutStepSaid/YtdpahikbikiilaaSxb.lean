/- A walk by reckoning: single operations. It speaks of no function. -/
import Derived.Test.YtdpahikbikiilaaSxa
namespace Go.Proofs.Ytdpahikbikiilaa
open Go.RowKit
namespace Sx

structure Cfg where
  P : Program
  σ : Sorts
  /-- numbers of rows that a region turns by calls -/
  wr : Nat × Nat → List Nat := fun _ => []
  /-- deferred functions that catch a panic -/
  cat : List Nat := []

/-! Operations that give a value and leave the world as it is. -/

def constT : Value → Option T
  | .int k n => some (.int k n)
  | .bool b => some (.bool b)
  | .pointer none => some (.nil 0)
  | .slice none 0 0 => some (.nil 1)
  | .nilIface => some (.nil 2)
  | .nilFunc => some (.nil 3)
  | _ => none

theorem constT_den {E : Env} {δ : Dl} {x : Value} {v : T} (h : constT x = some v) : v.den E δ = x := by
  unfold constT at h
  split at h <;> first | (simp only [Option.some.injEq] at h; subst h; rfl) | cases h

theorem constT_good {σ : Sorts} {x : Value} {v : T} (h : constT x = some v) : (v.so σ).isSome = true := by
  unfold constT at h
  split at h <;> first | (simp only [Option.some.injEq] at h; subst h; rfl) | cases h

def constTs : List Value → Option (List T)
  | [] => some []
  | x :: xs => match constT x, constTs xs with | some t, some ts => some (t :: ts) | _, _ => none

theorem constTs_den {E : Env} {δ : Dl} : ∀ {xs : List Value} {ts : List T}, constTs xs = some ts → ts.map (T.den E δ) = xs
  | [], ts, h => by simp only [constTs, Option.some.injEq] at h; subst h; rfl
  | x :: xs, ts, h => by
    simp only [constTs] at h
    split at h
    · rename_i t us h1 h2
      simp only [Option.some.injEq] at h; subst h
      rw [List.map_cons, constT_den h1, constTs_den h2]
    · cases h

/-- A type's zero cells. -/
def zeroT (P : Program) (t : TypeId) : Option (List T) :=
  match P.info? t with
  | some i => match i.zero with | some z => constTs z.cells.toList | none => none
  | none => none

theorem zeroT_run {P : Program} {t : TypeId} {ts : List T} {E : Env} {δ : Dl} (h : zeroT P t = some ts) : ∃ z, (∀ w, (zeroValue t).run P w = .ok z w) ∧ z.cells = (ts.map (T.den E δ)).toArray := by
  unfold zeroT at h
  split at h
  · rename_i i hi
    split at h
    · rename_i z hz
      refine ⟨z, fun w => ?_, ?_⟩
      · simp [zeroValue, typeInfo, hi, hz]
      · rw [constTs_den h, Array.toArray_toList]
    · cases h
  · cases h

def intBin : BinOp → Bool
  | .add | .sub | .mul | .eql | .neq | .lss | .leq | .gtr | .geq => true
  | _ => false

def divBin : BinOp → Bool
  | .quo | .rem => true
  | _ => false

theorem run_bin_int {P : Program} {op : BinOp} (xT : TypeId) {k : IntKind} {m n : Int} (h : intBin op = true) (w : World) : (binOp op xT (.int k m) (.int k n)).run P w = .ok (binV op (.int k m) (.int k n)) w := by
  cases op <;> first | (cases h; done) | (simp [binOp, binV, Op.intArith, Op.intCmp])

theorem run_bin_div {P : Program} {op : BinOp} (xT : TypeId) {k : IntKind} {m n : Int} (h : divBin op = true) (hn : n ≠ 0) (w : World) : (binOp op xT (.int k m) (.int k n)).run P w = .ok (binV op (.int k m) (.int k n)) w := by
  cases op <;> first | (cases h; done) | (simp [binOp, binV, Op.intDiv, hn])

theorem run_bin_bool {P : Program} {op : BinOp} {xT : TypeId} {m n : Bool} (hu : P.underlying xT = some .bool) (h : op = .eql ∨ op = .neq) (w : World) : (binOp op xT (.bool m) (.bool n)).run P w = .ok (binV op (.bool m) (.bool n)) w := by
  have he0 : ∀ d, (Op.equalIn (d + 1) xT (.bool m) (.bool n)).run P w = .ok (m == n) w := fun d => by
    rw [Op.equalIn]
    simp only [Sem.run_bind, run_underlying hu, Result.andThen_ok, Sem.run_pure]
  have he : (Op.equal xT (.bool m) (.bool n)).run P w = .ok (m == n) w := he0 9999
  rcases h with rfl | rfl
  · simp only [binOp, binV, Sem.run_bind, he, Result.andThen_ok, Sem.run_pure]
  · simp only [binOp, binV, Sem.run_bind, he, Result.andThen_ok, Sem.run_pure]
    cases m <;> cases n <;> rfl

/-- A number that the way has told. -/
def T.known (pc : List (T × Bool)) (t : T) : T :=
  match t with
  | .int k n => .int k n
  | t => match pc.findSome? fun p => match p with | (.bin .eql x (.int k n), true) => if x = t then some (T.int k n) else none | _ => none with | some u => u | none => t

theorem T.known_den {E : Env} {σ : Sorts} (hE : E.ok σ) {δ : Dl} {pc : List (T × Bool)} (hp : PcOk E δ pc) {t : T} {k : IntKind} (hs : t.so σ = some (.i k)) (hk : (t.known pc).so σ = some (.i k)) : (t.known pc).den E δ = t.den E δ := by
  unfold T.known at hk ⊢
  split
  · rfl
  · split
    · rename_i u hu
      simp only [hu] at hk
      obtain ⟨p, hp1, h1⟩ := List.exists_of_findSome?_eq_some hu
      have h2 := hp p hp1
      split at h1
      · rename_i x k' n
        split at h1
        · rename_i hx
          subst hx
          simp only [Option.some.injEq] at h1; subst h1
          obtain ⟨-, -, m, hm⟩ := T.den_so hE δ _ _ hs
          simp only [T.so, Option.some.injEq, So.i.injEq] at hk
          subst hk
          simp only [T.den, hm, binV, Value.bool.injEq, beq_iff_eq] at h2
          simp only [T.den, hm, h2]
        · cases h1
      · cases h1
    · rfl

/-- Two equal terms compared. -/
def sameO (op : BinOp) (s t : T) : Option T :=
  if s = t then
    match op with
    | .eql | .leq | .geq => some (.bool true)
    | .neq | .lss | .gtr => some (.bool false)
    | _ => none
  else none

theorem sameO_int {E : Env} {δ : Dl} {op : BinOp} {s t u : T} (h : sameO op s t = some u) {k : IntKind} {m : Int} (hs : s.den E δ = .int k m) : u.den E δ = binV op (s.den E δ) (t.den E δ) := by
  unfold sameO at h
  split at h
  · rename_i e
    subst e
    cases op <;> simp only [Option.some.injEq] at h <;> first | (cases h; done) | (subst h; simp [T.den, hs, binV])
  · cases h

theorem sameO_bool {E : Env} {δ : Dl} {op : BinOp} {s t u : T} (h : sameO op s t = some u) (ho : op = .eql ∨ op = .neq) {b : Bool} (hs : s.den E δ = .bool b) : u.den E δ = binV op (s.den E δ) (t.den E δ) := by
  unfold sameO at h
  split at h
  · rename_i e
    subst e
    rcases ho with rfl | rfl <;> simp only [Option.some.injEq] at h <;> subst h <;> simp [T.den, hs, binV]
  · cases h

/-- The value of an operation of two operands, where it can't give up. -/
def binO (C : Cfg) (pc : List (T × Bool)) (op : BinOp) (xT : TypeId) (x y : V) : Option V :=
  match x, y with
  | .v (.one s), .v (.one t) =>
    match s.so C.σ, t.so C.σ with
    | some (.i k), some (.i k') =>
      if k = k' then
        if intBin op then
          match sameO op s t with
          | some u => some (.v (.one u))
          | none => if (s.known pc).so C.σ = some (.i k) ∧ (t.known pc).so C.σ = some (.i k) then some (.v (.one (T.mkBin op (s.known pc) (t.known pc)))) else some (.v (.one (T.mkBin op s t)))
        else if divBin op then match t with | .int _ n => if n = 0 then none else some (.v (.one (T.mkBin op s t))) | _ => none
        else none
      else none
    | some .b, some .b =>
      match C.P.underlying xT with
      | some .bool =>
        if op = .eql ∨ op = .neq then
          match sameO op s t with
          | some u => some (.v (.one u))
          | none => some (.v (.one (T.mkBin op s t)))
        else none
      | _ => none
    | _, _ => none
  | _, _ => none

theorem eqGuard_int {P : Program} {op : BinOp} {t : TypeId} {x y : Operand} {k k' : IntKind} {m n : Int} (w : World) : (eqGuard op t x y (.int k m) (.int k' n)).run P w = .ok () w := by
  cases op <;> simp [eqGuard]

theorem eqGuard_bool {P : Program} {op : BinOp} {t : TypeId} {x y : Operand} {m n : Bool} (w : World) : (eqGuard op t x y (.bool m) (.bool n)).run P w = .ok () w := by
  cases op <;> simp [eqGuard]

theorem binO_run {C : Cfg} {E : Env} (hE : E.ok C.σ) {δ : Dl} {pc : List (T × Bool)} (hp : PcOk E δ pc) {op : BinOp} {xT yT : TypeId} {x y : V} {v : V} (h : binO C pc op xT x y = some v) {a : Act} {ox oy : Operand} (hx : a.eval ox = x.den E δ) (hy : a.eval oy = y.den E δ)
    {o : Oper} (ho : o.op = .binOp op xT ox oy yT) (w : World) : (execOp a.eval o).run C.P w = .ok (.value (v.den E δ)) w := by
  unfold binO at h
  split at h
  · rename_i s t
    simp only [V.den, V0.den] at hx hy
    split at h
    · rename_i k k' hs ht
      split at h
      · rename_i hk
        subst hk
        obtain ⟨-, -, m, hm⟩ := T.den_so hE δ s _ hs
        obtain ⟨-, -, n, hn⟩ := T.den_so hE δ t _ ht
        split at h
        · rename_i hi
          have key : v.den E δ = binV op (s.den E δ) (t.den E δ) := by
            split at h
            · rename_i u hu
              simp only [Option.some.injEq] at h; subst h
              exact sameO_int hu hm
            · split at h
              · rename_i hk
                simp only [Option.some.injEq] at h; subst h
                simp only [V.den, V0.den, T.den_mkBin, T.known_den hE hp hs hk.1, T.known_den hE hp ht hk.2]
              · simp only [Option.some.injEq] at h; subst h
                simp only [V.den, V0.den, T.den_mkBin]
          unfold execOp
          simp only [ho, hx, hy, key, hm, hn, Sem.run_bind, eqGuard_int, Result.andThen_ok, run_bin_int xT hi, Sem.run_pure]
        · split at h
          · rename_i hd
            split at h
            · rename_i k2 n2
              split at h
              · cases h
              · rename_i hne
                simp only [Option.some.injEq] at h; subst h
                have he : n = n2 := by simp only [T.den] at hn; cases hn; rfl
                simp only [V.den, V0.den, T.den_mkBin]
                unfold execOp
                simp only [ho, hx, hy, hm, hn, Sem.run_bind, eqGuard_int, Result.andThen_ok, run_bin_div xT hd (he ▸ hne), Sem.run_pure]
            · cases h
          · cases h
      · cases h
    · rename_i hs ht
      obtain ⟨-, -, m, hm⟩ := T.den_so hE δ s _ hs
      obtain ⟨-, -, n, hn⟩ := T.den_so hE δ t _ ht
      split at h
      · rename_i hu
        split at h
        · rename_i hop
          have key : v.den E δ = binV op (s.den E δ) (t.den E δ) := by
            split at h
            · rename_i u hu2
              simp only [Option.some.injEq] at h; subst h
              exact sameO_bool hu2 hop hm
            · simp only [Option.some.injEq] at h; subst h
              simp only [V.den, V0.den, T.den_mkBin]
          unfold execOp
          simp only [ho, hx, hy, key, hm, hn, Sem.run_bind, eqGuard_bool, Result.andThen_ok, run_bin_bool hu hop, Sem.run_pure]
        · cases h
      · cases h
    · cases h
  · cases h

/-- A field of a struct's value. -/
def fieldO (P : Program) (xT : TypeId) (f : Nat) (l : List T) : Option V :=
  match P.underlying xT with
  | some (.struct fs) =>
    match fs[f]? with
    | some fd =>
      match P.underlying fd.type, P.info? fd.type with
      | some d, some i =>
        if d.isRow then some (.v (.agg (l.extract fd.offset (fd.offset + i.size))))
        else match l[fd.offset]? with | some t => some (.v (.one t)) | none => none
      | _, _ => none
    | none => none
  | _ => none

theorem run_isAgg {P : Program} {t : TypeId} {d : TypeDesc} (hu : P.underlying t = some d) (w : World) : (isAgg t).run P w = .ok d.isRow w := by
  unfold isAgg
  rw [Sem.run_bind, run_underlying hu w]
  cases d <;> rfl

theorem fieldO_run {P : Program} {E : Env} {δ : Dl} {xT : TypeId} {f : Nat} {l : List T} {v : V} (h : fieldO P xT f l = some v) (w : World) : (Instr.field xT (.agg (l.map (T.den E δ)).toArray) f).run P w = .ok (v.den E δ) w := by
  unfold fieldO at h
  split at h
  · rename_i fs hu
    split at h
    · rename_i fd hf
      split at h
      · rename_i d i hd hi
        unfold Instr.field
        rw [Sem.run_bind, run_underlying hu w]
        simp only [Result.andThen_ok, hf, part, Sem.run_bind, run_isAgg hd, asAgg, Sem.run_pure]
        split at h
        · rename_i hr
          simp only [Option.some.injEq] at h; subst h
          simp [hr, sizeOf, typeInfo, hi, V.den, V0.den, List.extract_eq_take_drop, List.map_take, List.map_drop]
        · rename_i hr
          split at h
          · rename_i t ht
            simp only [Option.some.injEq] at h; subst h
            have h1 : ((l.map (T.den E δ)).toArray)[fd.offset]? = some (t.den E δ) := by simp [ht]
            simp only [Bool.not_eq_true] at hr
            simp [hr, h1, V.den, V0.den]
          · cases h
      · cases h
    · cases h
  · cases h

/-- A field's address. -/
def fieldAt (P : Program) (xT : TypeId) (f : Nat) : Option Nat :=
  match P.underlying xT with
  | some (.struct fs) => match fs[f]? with | some fd => (match P.info? fd.type with | some i => if i.size = 0 then none else some fd.offset | none => none) | none => none
  | _ => none

theorem fieldAt_run {P : Program} {xT : TypeId} {f n : Nat} (h : fieldAt P xT f = some n) (b off : Nat) (w : World) : (Instr.fieldAt xT (.pointer (some ⟨b, off, none⟩)) f).run P w = .ok (.pointer (some ⟨b, off + n, none⟩)) w := by
  unfold fieldAt at h
  split at h
  · rename_i fs hu
    split at h
    · rename_i fd hf
      split at h
      · rename_i i hi
        split at h
        · cases h
        · rename_i hne
          simp only [Option.some.injEq] at h; subst h
          unfold Instr.fieldAt
          rw [Sem.run_bind, run_underlying hu w]
          simp only [Result.andThen_ok, hf, Instr.sureAddr, Sem.run_bind, Sem.run_pure, fieldPlace, sizeOf, typeInfo]
          simp only [program, Sem.run, hi]
          simp [hne, Addr.add]
          split <;> simp_all
      · cases h
    · cases h
  · cases h

/-! A struct that is built. -/

def overlay (cells : List T) (off : Nat) : List T → List T
  | [] => cells
  | v :: r => overlay (cells.set off v) (off + 1) r

def fillT (place : Nat → Option (Nat × Nat)) (cells : List T) : List (Nat × V0) → Option (List T)
  | [] => some cells
  | (i, v) :: rest =>
    match place i with
    | none => none
    | some (off, size) =>
      if v.cells.length ≠ size || off + v.cells.length > cells.length then none
      else fillT place (overlay cells off v.cells) rest

theorem overlay_len (cells : List T) (off : Nat) (vs : List T) : (overlay cells off vs).length = cells.length := by
  induction vs generalizing cells off with
  | nil => rfl
  | cons v r ih => rw [overlay, ih, List.length_set]

theorem overlay_fold (E : Env) (δ : Dl) (off : Nat) : ∀ (vs : List T) (k : Nat) (cells : List T), (((vs.map (T.den E δ)).zipIdx k).foldl (fun cs (c, j) => cs.setIfInBounds (off + j) c) (cells.map (T.den E δ)).toArray) = ((overlay cells (off + k) vs).map (T.den E δ)).toArray
  | [], k, cells => rfl
  | v :: r, k, cells => by
    rw [List.map_cons, List.zipIdx_cons, List.foldl_cons]
    have h1 : ((cells.map (T.den E δ)).toArray.setIfInBounds (off + k) (v.den E δ)) = (((cells.set (off + k) v).map (T.den E δ))).toArray := by
      rw [List.setIfInBounds_toArray, List.map_set]
    simp only [h1]
    rw [overlay_fold E δ off r (k + 1) (cells.set (off + k) v)]
    rfl

theorem fillT_fill {E : Env} {σ : Sorts} (hE : E.ok σ) {δ : Dl} {place : Nat → Option (Nat × Nat)} : ∀ {parts : List (Nat × V0)} {cells cells' : List T}, (parts.all fun p => p.2.good σ) = true → fillT place cells parts = some cells' →
    Instr.fill place (cells.map (T.den E δ)).toArray (parts.map fun p => (p.1, p.2.den E δ)) = some (cells'.map (T.den E δ)).toArray
  | [], cells, cells', _, h => by simp only [fillT, Option.some.injEq] at h; subst h; rfl
  | (i, v) :: rest, cells, cells', hg, h => by
    rw [List.all_cons, Bool.and_eq_true] at hg
    simp only [fillT] at h
    rw [List.map_cons, Instr.fill]
    split at h
    · cases h
    · rename_i off size hp
      simp only [hp]
      split at h
      · cases h
      · rename_i hc
        have hv := (V0.cells_den hE δ v hg.1).1
        simp only [hv, List.size_toArray, List.length_map]
        rw [if_neg hc]
        have := overlay_fold E δ off v.cells 0 cells
        rw [← Array.foldl_toList, Array.toList_zipIdx, this]
        exact fillT_fill hE hg.2 h

def placesT (P : Program) : List Field → Option (List (Nat × Nat))
  | fs => fs.mapM fun f => (P.info? f.type).map fun i => (f.offset, i.size)

def buildO (C : Cfg) (t : TypeId) (parts : List (Nat × V0)) : Option V :=
  if parts.all fun p => p.2.good C.σ then
    match zeroT C.P t, C.P.underlying t with
    | some z, some (.struct fs) =>
      match placesT C.P fs.toList with
      | some places => match fillT (places.toArray[·]?) z parts with | some l => some (.v (.agg l)) | none => none
      | none => none
    | some z, some (.array _ e) =>
      match C.P.info? e with
      | some ie => match fillT (fun i => some (i * ie.size, ie.size)) z parts with | some l => some (.v (.agg l)) | none => none
      | none => none
    | _, _ => none
  else none

theorem buildO_run {C : Cfg} {E : Env} (hE : E.ok C.σ) {δ : Dl} {t : TypeId} {parts : List (Nat × V0)} {v : V} (h : buildO C t parts = some v) (vs : Array (Nat × Value)) (hv : vs.toList = parts.map fun p => (p.1, p.2.den E δ)) (w : World) : (Instr.build t vs).run C.P w = .ok (v.den E δ) w := by
  unfold buildO at h
  split at h
  · rename_i hg
    split at h
    · rename_i z fs hz hu
      split at h
      · rename_i places hp
        split at h
        · rename_i l hl
          simp only [Option.some.injEq] at h; subst h
          refine run_build w t vs _ ?_
          unfold Program.built
          unfold zeroT at hz
          cases hi : C.P.info? t with
          | none => simp [hi] at hz
          | some it =>
            simp only [hi] at hz
            cases hz1 : it.zero with
            | none => simp [hz1] at hz
            | some z1 =>
              simp only [hz1] at hz
              have hp' : fs.toList.mapM (fun f => (C.P.info? f.type).map fun i => (f.offset, i.size)) = some places := hp
              simp only [hu, hz1, hp', hv]
              rw [show z1.cells = (z.map (T.den E δ)).toArray from by rw [constTs_den hz, Array.toArray_toList]]
              exact fillT_fill hE hg hl
        · cases h
      · cases h
    · rename_i z n e hz hu
      split at h
      · rename_i ie hie
        split at h
        · rename_i l hl
          simp only [Option.some.injEq] at h; subst h
          refine run_build w t vs _ ?_
          unfold Program.built
          unfold zeroT at hz
          cases hi : C.P.info? t with
          | none => simp [hi] at hz
          | some it =>
            simp only [hi] at hz
            cases hz1 : it.zero with
            | none => simp [hz1] at hz
            | some z1 =>
              simp only [hz1] at hz
              simp only [hu, hz1, hie, hv]
              rw [show z1.cells = (z.map (T.den E δ)).toArray from by rw [constTs_den hz, Array.toArray_toList]]
              exact fillT_fill hE hg hl
        · cases h
      · cases h
    · cases h
  · cases h

def evals (tm : List (Option V)) : List Operand → Option (List V)
  | [] => some []
  | x :: xs => match evalO tm x, evals tm xs with | some v, some vs => some (v :: vs) | _, _ => none

theorem evals_den {E : Env} {δ : Dl} {tm : List (Option V)} {a : Act} (h : Frame1 E δ tm a.tmps) : ∀ {xs : List Operand} {vs : List V}, evals tm xs = some vs → xs.map a.eval = vs.map (V.den E δ)
  | [], vs, hv => by simp only [evals, Option.some.injEq] at hv; subst hv; rfl
  | x :: xs, vs, hv => by
    simp only [evals] at hv
    split at hv
    · rename_i v us h1 h2
      simp only [Option.some.injEq] at hv; subst hv
      rw [List.map_cons, List.map_cons, evalO_den h h1, evals_den h h2]
    · cases hv

def parts0 (tm : List (Option V)) : List (Nat × Operand) → Option (List (Nat × V0))
  | [] => some []
  | (i, x) :: xs => match evalO tm x, parts0 tm xs with | some (.v v), some vs => some ((i, v) :: vs) | _, _ => none

theorem parts0_den {E : Env} {δ : Dl} {tm : List (Option V)} {a : Act} (h : Frame1 E δ tm a.tmps) : ∀ {xs : List (Nat × Operand)} {vs : List (Nat × V0)}, parts0 tm xs = some vs → (xs.map fun (i, x) => (i, a.eval x)) = vs.map fun p => (p.1, p.2.den E δ)
  | [], vs, hv => by simp only [parts0, Option.some.injEq] at hv; subst hv; rfl
  | (i, x) :: xs, vs, hv => by
    simp only [parts0] at hv
    split at hv
    · rename_i v us h1 h2
      simp only [Option.some.injEq] at hv; subst hv
      rw [List.map_cons, List.map_cons, parts0_den h h2]
      show (i, a.eval x) :: _ = _
      rw [evalO_den h h1]
      rfl
    · cases hv

def szOf (P : Program) (t : TypeId) : Option Nat := (P.info? t).map (·.size)

/-- A load out of a row that is known. -/
def loadO (C : Cfg) (mem : List MRow) (ty : TypeId) (d off : Nat) : Option V :=
  match mem.find? (fun r => r.1 == d) with
  | some r =>
    match C.P.underlying ty, szOf C.P ty with
    | some td, some n =>
      if td.isRow then
        let sub := (r.2.2.drop off).take n
        if sub.length = n then some (.v (.agg sub)) else none
      else match r.2.2[off]? with | some t => some (.v (.one t)) | none => none
    | _, _ => none
  | none => none

theorem find_row {mem : List MRow} {d : Nat} {r : MRow} (h : mem.find? (fun r => r.1 == d) = some r) : r ∈ mem ∧ r.1 = d :=
  ⟨List.mem_of_find?_eq_some h, by have := List.find?_some h; simpa using this⟩

theorem SatM.row {X : Ctx} {δ : Dl} {mem : List MRow} {obs : List ORow} {w : World} (h : SatM X δ mem obs w) {r : MRow} (hr : r ∈ mem) : w.heap[(δ r.1).n]? = some (.cells (r.2.2.map (T.den X.E δ)).toArray r.2.1 (0, 0)) :=
  h.blk.get (List.mem_append_left _ (List.mem_append_left _ (List.mem_map.2 ⟨r, hr, rfl⟩)))

/-- These rows stand in the world. -/
def RowsAt (E : Env) (δ : Dl) (mem : List MRow) (w : World) : Prop := ∀ r ∈ mem, w.heap[(δ r.1).n]? = some (.cells (r.2.2.map (T.den E δ)).toArray r.2.1 (0, 0))

theorem SatM.rowsAt {X : Ctx} {δ : Dl} {mem : List MRow} {obs : List ORow} {w : World} (h : SatM X δ mem obs w) : RowsAt X.E δ mem w := fun _ hr => h.row hr

theorem loadO_var {C : Cfg} {E : Env} {δ : Dl} {mem : List MRow} {w : World} (hM : RowsAt E δ mem w) {ty : TypeId} {d off : Nat} {v : V} (h : loadO C mem ty d off = some v) : (loadVar ty ⟨(δ d).n, off, none⟩).run C.P w = .ok (v.den E δ) w := by
  unfold loadO at h
  split at h
  · rename_i r hr
    obtain ⟨hr1, rfl⟩ := find_row hr
    have hb := hM r hr1
    split at h
    · rename_i td n hu hn
      split at h
      · rename_i hrow
        simp only at h
        split at h
        · rename_i hlen
          simp only [Option.some.injEq] at h; subst h
          refine run_loadVar_mid (P := C.P) w (δ r.1).n off ty (((r.2.2.drop off).take n).map (T.den E δ)) td (fun j v hv => ?_) hu hrow ?_
          · rw [blk_cell hb]
            rw [List.getElem?_map, List.getElem?_take, List.getElem?_drop] at hv
            split at hv
            · simpa using hv
            · cases hv
          · rw [List.length_map, hlen]; exact hn
        · cases h
      · rename_i hrow
        split at h
        · rename_i t ht
          simp only [Option.some.injEq] at h; subst h
          exact run_loadVar_one (P := C.P) w (δ r.1).n off ty (t.den E δ) td (by rw [blk_cell hb]; simp [ht]) hu (by simpa using hrow)
        · cases h
    · cases h
  · cases h

theorem loadO_run {C : Cfg} {E : Env} {δ : Dl} {mem : List MRow} {w : World} (hM : RowsAt E δ mem w) {ty : TypeId} {d off : Nat} {v : V} (h : loadO C mem ty d off = some v) {a : Act} {x : Operand} (hx : a.eval x = .pointer (some ⟨(δ d).n, off, none⟩))
    {o : Oper} (ho : o.op = .load ty x) : (execOp a.eval o).run C.P w = .ok (.value (v.den E δ)) w := by
  unfold execOp
  simp only [ho, hx, Instr.loadAt, Instr.sureAddr, Sem.run_bind, Sem.run_pure, Result.andThen_ok, loadO_var hM h]

/-! Conditions. -/

/-- The term that is asked, and its answer where the whole is true. -/
def T.norm : T → T × Bool
  | .not x => (x.norm.1, !x.norm.2)
  | .bin .neq x y => (.bin .eql x y, false)
  | .bin .gtr x y => (.bin .lss y x, true)
  | .bin .leq x y => (.bin .lss y x, false)
  | .bin .geq x y => (.bin .lss x y, false)
  | t => (t, true)

theorem bin_ints {E : Env} {σ : Sorts} (hE : E.ok σ) (δ : Dl) {op : BinOp} {x y : T} (h : (T.bin op x y).so σ = some .b) (hne : op ≠ .eql ∧ op ≠ .neq) : ∃ k m n, x.den E δ = .int k m ∧ y.den E δ = .int k n := by
  simp only [T.so] at h
  split at h
  · rename_i s s' hx hy
    have h1 := T.den_so hE δ x _ hx
    have h2 := T.den_so hE δ y _ hy
    cases s <;> cases s' <;> simp only [binSo] at h <;> try (cases h; done)
    · rename_i k k'
      split at h
      · rename_i hk
        subst hk
        obtain ⟨-, -, m, hm⟩ := h1
        obtain ⟨-, -, n, hn⟩ := h2
        exact ⟨k, m, n, hm, hn⟩
      · cases h
    · cases op <;> simp_all
  · cases h

theorem bin_eql {E : Env} {σ : Sorts} (hE : E.ok σ) (δ : Dl) {x y : T} (h : (T.bin .neq x y).so σ = some .b) : ∃ b, (T.bin .neq x y).den E δ = .bool b ∧ (T.bin .eql x y).den E δ = .bool (!b) := by
  simp only [T.so] at h
  split at h
  · rename_i s s' hx hy
    have h1 := T.den_so hE δ x _ hx
    have h2 := T.den_so hE δ y _ hy
    cases s <;> cases s' <;> simp only [binSo] at h <;> try (cases h; done)
    · rename_i k k'
      split at h
      · rename_i hk
        subst hk
        obtain ⟨-, -, m, hm⟩ := h1
        obtain ⟨-, -, n, hn⟩ := h2
        refine ⟨m != n, by simp only [T.den, hm, hn, binV], ?_⟩
        simp only [T.den, hm, hn, binV, bne, Bool.not_not]
      · cases h
    · obtain ⟨-, -, m, hm⟩ := h1
      obtain ⟨-, -, n, hn⟩ := h2
      refine ⟨m != n, by simp only [T.den, hm, hn, binV], ?_⟩
      simp only [T.den, hm, hn, binV, bne, Bool.not_not]
  · cases h

theorem T.norm_den {E : Env} {σ : Sorts} (hE : E.ok σ) (δ : Dl) : ∀ (t : T) (b : Bool), t.so σ = some .b → t.den E δ = .bool b → t.norm.1.den E δ = .bool (b == t.norm.2)
  | .not x, b, hs, h => by
    simp only [T.so] at hs
    split at hs
    · rename_i hx
      obtain ⟨-, -, c, hc⟩ := T.den_so hE δ x _ hx
      simp only [T.den, hc, notV, Value.bool.injEq] at h
      subst h
      have := norm_den hE δ x c hx hc
      simp only [T.norm, this]
      cases c <;> cases x.norm.2 <;> rfl
    · cases hs
  | .bin op x y, b, hs, h => by
    cases op
    case neq =>
      obtain ⟨c, h1, h2⟩ := bin_eql hE δ hs
      rw [h1] at h
      cases h
      simp only [T.norm, h2]
      cases b <;> rfl
    case gtr =>
      obtain ⟨k, m, n, h1, h2⟩ := bin_ints hE δ hs ⟨by simp, by simp⟩
      simp only [T.den, h1, h2, binV, Value.bool.injEq] at h
      subst h
      simp only [T.norm, T.den, h1, h2, binV, gt_iff_lt, beq_true]
    case leq =>
      obtain ⟨k, m, n, h1, h2⟩ := bin_ints hE δ hs ⟨by simp, by simp⟩
      simp only [T.den, h1, h2, binV, Value.bool.injEq] at h
      subst h
      simp only [T.norm, T.den, h1, h2, binV, Value.bool.injEq]
      by_cases hlt : n < m
      · have : ¬ m ≤ n := by omega
        simp [hlt]
      · have : m ≤ n := by omega
        simp [this]
    case geq =>
      obtain ⟨k, m, n, h1, h2⟩ := bin_ints hE δ hs ⟨by simp, by simp⟩
      simp only [T.den, h1, h2, binV, Value.bool.injEq] at h
      subst h
      simp only [T.norm, T.den, h1, h2, binV, Value.bool.injEq]
      by_cases hlt : m < n
      · have : ¬ m ≥ n := by omega
        simp [hlt]
      · have : m ≥ n := by omega
        simp [this]
    all_goals (simp only [T.norm, h]; cases b <;> rfl)
  | .int _ _, b, _, h | .bool _, b, _, h | .nil _, b, _, h | .func _, b, _, h | .a _, b, _, h | .fn _ _, b, _, h | .ptr _ _, b, _, h | .pick _ _ _, b, _, h => by
    simp only [T.norm, h]; cases b <;> rfl

/-- x is the literal m (known), so it is no other. -/
def clash (pc : List (T × Bool)) (u : T) : Bool :=
  match u with
  | .bin .eql x (.int _ n) => pc.any fun p => match p with | (.bin .eql x' (.int _ m), true) => x' == x && m != n | _ => false
  | _ => false

theorem clash_den {E : Env} {σ : Sorts} (hE : E.ok σ) {δ : Dl} {pc : List (T × Bool)} {u : T} (hu : u.so σ = some .b) (h : clash pc u = true) (hp : PcOk E δ pc) : u.den E δ = .bool false := by
  unfold clash at h
  split at h
  · rename_i x k n
    obtain ⟨p, hp1, h1⟩ := List.any_eq_true.1 h
    have h2 := hp p hp1
    split at h1
    · rename_i x' k' m
      simp only [Bool.and_eq_true, beq_iff_eq, bne_iff_ne] at h1
      obtain ⟨rfl, hne⟩ := h1
      have hx : ∃ kx q, x'.den E δ = .int kx q := by
        simp only [T.so] at hu
        split at hu
        · rename_i s s' hx hy
          have h3 := T.den_so hE δ x' _ hx
          simp only [Option.some.injEq] at hy
          subst hy
          cases s <;> simp only [binSo] at hu <;> try (cases hu; done)
          obtain ⟨-, -, q, hq⟩ := h3
          exact ⟨_, q, hq⟩
        · cases hu
      obtain ⟨kx, q, hq⟩ := hx
      simp only [T.den, hq, binV, Value.bool.injEq, beq_iff_eq] at h2
      subst h2
      simp only [T.den, hq, binV, Value.bool.injEq, beq_eq_false_iff_ne]
      exact hne
    · cases h1
  · cases h

/-! Bounds that the way has told. -/

def loB (x : T) : List (T × Bool) → Option Int
  | [] => none
  | p :: ps =>
    let r := loB x ps
    let c := match p with
      | (.bin .lss y (.int _ c), false) => if y = x then some c else none
      | (.bin .lss (.int _ c) y, true) => if y = x then some (c + 1) else none
      | (.bin .eql y (.int _ c), true) => if y = x then some c else none
      | _ => none
    match c, r with
    | some c, some d => some (if c < d then d else c)
    | some c, none => some c
    | none, r => r

def hiB (x : T) : List (T × Bool) → Option Int
  | [] => none
  | p :: ps =>
    let r := hiB x ps
    let c := match p with
      | (.bin .lss (.int _ c) y, false) => if y = x then some c else none
      | (.bin .lss y (.int _ c), true) => if y = x then some (c - 1) else none
      | (.bin .eql y (.int _ c), true) => if y = x then some c else none
      | _ => none
    match c, r with
    | some c, some d => some (if d < c then d else c)
    | some c, none => some c
    | none, r => r

theorem loB_le {E : Env} {δ : Dl} {x : T} {k : IntKind} {m : Int} (hx : x.den E δ = .int k m) : ∀ {pc : List (T × Bool)} {c : Int}, PcOk E δ pc → loB x pc = some c → c ≤ m
  | [], c, _, h => by cases h
  | p :: ps, c, hp, h => by
    have hp0 := hp p List.mem_cons_self
    have ih := fun d (hd : loB x ps = some d) => loB_le hx (c := d) (fun q hq => hp q (List.mem_cons_of_mem _ hq)) hd
    simp only [loB] at h
    split at h
    · rename_i c1 d1 hc hd
      have h1 : c1 ≤ m := by
        split at hc
        · split at hc
          · rename_i e; subst e
            simp only [Option.some.injEq] at hc; subst hc
            simp only [T.den, hx, binV, Value.bool.injEq, decide_eq_false_iff_not] at hp0
            omega
          · cases hc
        · split at hc
          · rename_i e; subst e
            simp only [Option.some.injEq] at hc; subst hc
            simp only [T.den, hx, binV, Value.bool.injEq, decide_eq_true_eq] at hp0
            omega
          · cases hc
        · split at hc
          · rename_i e; subst e
            simp only [Option.some.injEq] at hc; subst hc
            simp only [T.den, hx, binV, Value.bool.injEq, beq_iff_eq] at hp0
            omega
          · cases hc
        · cases hc
      have h2 := ih d1 hd
      simp only [Option.some.injEq] at h; subst h
      split <;> assumption
    · rename_i c1 hc hd
      simp only [Option.some.injEq] at h; subst h
      split at hc
      · split at hc
        · rename_i e; subst e
          simp only [Option.some.injEq] at hc; subst hc
          simp only [T.den, hx, binV, Value.bool.injEq, decide_eq_false_iff_not] at hp0
          omega
        · cases hc
      · split at hc
        · rename_i e; subst e
          simp only [Option.some.injEq] at hc; subst hc
          simp only [T.den, hx, binV, Value.bool.injEq, decide_eq_true_eq] at hp0
          omega
        · cases hc
      · split at hc
        · rename_i e; subst e
          simp only [Option.some.injEq] at hc; subst hc
          simp only [T.den, hx, binV, Value.bool.injEq, beq_iff_eq] at hp0
          omega
        · cases hc
      · cases hc
    · exact ih c h

theorem hiB_le {E : Env} {δ : Dl} {x : T} {k : IntKind} {m : Int} (hx : x.den E δ = .int k m) : ∀ {pc : List (T × Bool)} {c : Int}, PcOk E δ pc → hiB x pc = some c → m ≤ c
  | [], c, _, h => by cases h
  | p :: ps, c, hp, h => by
    have hp0 := hp p List.mem_cons_self
    have ih := fun d (hd : hiB x ps = some d) => hiB_le hx (c := d) (fun q hq => hp q (List.mem_cons_of_mem _ hq)) hd
    simp only [hiB] at h
    split at h
    · rename_i c1 d1 hc hd
      have h1 : m ≤ c1 := by
        split at hc
        · split at hc
          · rename_i e; subst e
            simp only [Option.some.injEq] at hc; subst hc
            simp only [T.den, hx, binV, Value.bool.injEq, decide_eq_false_iff_not] at hp0
            omega
          · cases hc
        · split at hc
          · rename_i e; subst e
            simp only [Option.some.injEq] at hc; subst hc
            simp only [T.den, hx, binV, Value.bool.injEq, decide_eq_true_eq] at hp0
            omega
          · cases hc
        · split at hc
          · rename_i e; subst e
            simp only [Option.some.injEq] at hc; subst hc
            simp only [T.den, hx, binV, Value.bool.injEq, beq_iff_eq] at hp0
            omega
          · cases hc
        · cases hc
      have h2 := ih d1 hd
      simp only [Option.some.injEq] at h; subst h
      split <;> assumption
    · rename_i c1 hc hd
      simp only [Option.some.injEq] at h; subst h
      split at hc
      · split at hc
        · rename_i e; subst e
          simp only [Option.some.injEq] at hc; subst hc
          simp only [T.den, hx, binV, Value.bool.injEq, decide_eq_false_iff_not] at hp0
          omega
        · cases hc
      · split at hc
        · rename_i e; subst e
          simp only [Option.some.injEq] at hc; subst hc
          simp only [T.den, hx, binV, Value.bool.injEq, decide_eq_true_eq] at hp0
          omega
        · cases hc
      · split at hc
        · rename_i e; subst e
          simp only [Option.some.injEq] at hc; subst hc
          simp only [T.den, hx, binV, Value.bool.injEq, beq_iff_eq] at hp0
          omega
        · cases hc
      · cases hc
    · exact ih c h

def optLt (a b : Option Int) : Bool := match a, b with | some a, some b => decide (a < b) | _, _ => false

/-- What is known of a condition by bounds. -/
def bndT (σ : Sorts) (pc : List (T × Bool)) (u : T) : Option Bool :=
  match u with
  | .bin .eql x (.int k n) => if x.so σ = some (.i k) then (if optLt (hiB x pc) (some n) || optLt (some n) (loB x pc) then some false else none) else none
  | .bin .lss x (.int k n) => if x.so σ = some (.i k) then (if optLt (hiB x pc) (some n) then some true else if optLt (some (n - 1)) (loB x pc) then some false else none) else none
  | .bin .lss (.int k n) x => if x.so σ = some (.i k) then (if optLt (some n) (loB x pc) then some true else if optLt (hiB x pc) (some (n + 1)) then some false else none) else none
  | _ => none

theorem optLt_spec {a b : Option Int} (h : optLt a b = true) : ∃ m n, a = some m ∧ b = some n ∧ m < n := by
  unfold optLt at h
  split at h
  · exact ⟨_, _, rfl, rfl, by simpa using h⟩
  · cases h

theorem bndT_den {E : Env} {σ : Sorts} (hE : E.ok σ) {δ : Dl} {pc : List (T × Bool)} {u : T} {b : Bool} (h : bndT σ pc u = some b) (hp : PcOk E δ pc) : u.den E δ = .bool b := by
  unfold bndT at h
  split at h
  · rename_i x k n
    split at h
    · rename_i hs
      obtain ⟨-, -, m, hm⟩ := T.den_so hE δ x _ hs
      split at h
      · rename_i hc
        simp only [Option.some.injEq] at h; subst h
        simp only [T.den, hm, binV, Value.bool.injEq, beq_eq_false_iff_ne]
        rcases Bool.or_eq_true _ _ ▸ hc with hc | hc
        · obtain ⟨c, d, h1, h2, h3⟩ := optLt_spec hc
          have := hiB_le hm hp h1
          cases h2; omega
        · obtain ⟨c, d, h1, h2, h3⟩ := optLt_spec hc
          have := loB_le hm hp h2
          cases h1; omega
      · cases h
    · cases h
  · rename_i x k n
    split at h
    · rename_i hs
      obtain ⟨-, -, m, hm⟩ := T.den_so hE δ x _ hs
      split at h
      · rename_i hc
        simp only [Option.some.injEq] at h; subst h
        obtain ⟨c, d, h1, h2, h3⟩ := optLt_spec hc
        have := hiB_le hm hp h1
        cases h2
        simp only [T.den, hm, binV, Value.bool.injEq, decide_eq_true_eq]; omega
      · split at h
        · rename_i hc
          simp only [Option.some.injEq] at h; subst h
          obtain ⟨c, d, h1, h2, h3⟩ := optLt_spec hc
          have := loB_le hm hp h2
          cases h1
          simp only [T.den, hm, binV, Value.bool.injEq, decide_eq_false_iff_not]; omega
        · cases h
    · cases h
  · rename_i k n x _
    split at h
    · rename_i hs
      obtain ⟨-, -, m, hm⟩ := T.den_so hE δ x _ hs
      split at h
      · rename_i hc
        simp only [Option.some.injEq] at h; subst h
        obtain ⟨c, d, h1, h2, h3⟩ := optLt_spec hc
        have := loB_le hm hp h2
        cases h1
        simp only [T.den, hm, binV, Value.bool.injEq, decide_eq_true_eq]; omega
      · split at h
        · rename_i hc
          simp only [Option.some.injEq] at h; subst h
          obtain ⟨c, d, h1, h2, h3⟩ := optLt_spec hc
          have := hiB_le hm hp h1
          cases h2
          simp only [T.den, hm, binV, Value.bool.injEq, decide_eq_false_iff_not]; omega
        · cases h
    · cases h
  · cases h

def condT (σ : Sorts) (pc : List (T × Bool)) (t : T) : Option (List (Bool × List (T × Bool))) :=
  match t with
  | .bool b => some [(b, pc)]
  | t =>
    if t.so σ = some .b ∧ t.norm.1.so σ = some .b then
      if pc.contains t.norm then some [(true, pc)]
      else if pc.contains (t.norm.1, !t.norm.2) then some [(false, pc)]
      else if clash pc t.norm.1 then some [(!t.norm.2, pc)]
      else match bndT σ pc t.norm.1 with
      | some b => some [(b == t.norm.2, pc)]
      | none =>
        some [(true, t.norm :: pc), (false, (t.norm.1, !t.norm.2) :: pc)]
    else none

theorem condT_den {E : Env} {σ : Sorts} (hE : E.ok σ) {δ : Dl} {pc : List (T × Bool)} {t : T} {l : List (Bool × List (T × Bool))} (h : condT σ pc t = some l) (hp : PcOk E δ pc) : ∃ x ∈ l, t.den E δ = .bool x.1 ∧ PcOk E δ x.2 := by
  unfold condT at h
  split at h
  · simp only [Option.some.injEq] at h; subst h
    exact ⟨_, List.mem_cons_self, rfl, hp⟩
  · split at h
    · rename_i hs
      obtain ⟨-, -, b, hb⟩ := T.den_so hE δ t _ hs.1
      have hn := T.norm_den hE δ t b hs.1 hb
      split at h
      · rename_i hc
        simp only [Option.some.injEq] at h; subst h
        have h1 := hp _ (by simpa using hc)
        rw [hn] at h1
        refine ⟨_, List.mem_cons_self, ?_, hp⟩
        rw [hb]
        cases b <;> cases t.norm.2 <;> simp_all
      · split at h
        · rename_i hc
          simp only [Option.some.injEq] at h; subst h
          have h1 := hp _ (by simpa using hc)
          rw [hn] at h1
          refine ⟨_, List.mem_cons_self, ?_, hp⟩
          rw [hb]
          cases b <;> cases t.norm.2 <;> simp_all
        · split at h
          · rename_i hc
            simp only [Option.some.injEq] at h; subst h
            have h1 := clash_den hE hs.2 hc hp
            rw [hn] at h1
            refine ⟨_, List.mem_cons_self, ?_, hp⟩
            rw [hb]
            simp only [T.den, Value.bool.injEq] at h1 ⊢
            generalize t.norm.2 = q at h1 ⊢
            cases b <;> cases q <;> first | rfl | cases h1
          · split at h
            · rename_i b1 hb1
              simp only [Option.some.injEq] at h; subst h
              have h1 := bndT_den hE hb1 hp
              rw [hn] at h1
              refine ⟨_, List.mem_cons_self, ?_, hp⟩
              rw [hb]
              simp only [Value.bool.injEq] at h1 ⊢
              subst h1
              generalize t.norm.2 = q
              cases b <;> cases q <;> rfl
            · simp only [Option.some.injEq] at h; subst h
              cases b
              · refine ⟨_, List.mem_cons_of_mem _ List.mem_cons_self, hb, fun p hm => ?_⟩
                rcases List.mem_cons.1 hm with rfl | hm
                · simp only [hn]; cases t.norm.2 <;> rfl
                · exact hp p hm
              · refine ⟨_, List.mem_cons_self, hb, fun p hm => ?_⟩
                rcases List.mem_cons.1 hm with rfl | hm
                · simp only [hn]; cases t.norm.2 <;> rfl
                · exact hp p hm
    · cases h

def pickO (σ : Sorts) (pc : List (T × Bool)) (c : T) (x y : V) : Option V :=
  match condT σ pc c with
  | some [(b, _)] => some (if b then x else y)
  | _ => match x, y with | .v (.one x), .v (.one y) => if c.so σ = some .b then some (.v (.one (.pick c x y))) else none | _, _ => none

theorem pickO_den {E : Env} {σ : Sorts} (hE : E.ok σ) {δ : Dl} {pc : List (T × Bool)} (hp : PcOk E δ pc) {c : T} {x y v : V} (h : pickO σ pc c x y = some v) : ∃ b, c.den E δ = .bool b ∧ v.den E δ = if b then x.den E δ else y.den E δ := by
  unfold pickO at h
  split at h
  · rename_i b pc' hc
    simp only [Option.some.injEq] at h; subst h
    obtain ⟨z, hz, h1, -⟩ := condT_den hE (δ := δ) hc hp
    have hz1 : z = (b, pc') := by simpa using hz
    subst hz1
    exact ⟨b, h1, by cases b <;> rfl⟩
  · split at h
    · split at h
      · rename_i hs
        simp only [Option.some.injEq] at h; subst h
        obtain ⟨-, -, b, hb⟩ := T.den_so hE δ _ _ hs
        exact ⟨b, hb, by simp only [V.den, V0.den, T.den, hb, pickV]⟩
      · cases h
    · cases h

/-- The value of an operation that leaves the world as it is. -/
def pureO (C : Cfg) (st : St) (op : Op) : Option V :=
  match op with
  | .move x | .assign x => evalO st.tm x
  | .pick c x y =>
    match evalO st.tm c, evalO st.tm x, evalO st.tm y with
    | some (.v (.one c)), some x, some y => pickO C.σ st.pc c x y
    | _, _, _ => none
  | .binOp op xT x y _ => match evalO st.tm x, evalO st.tm y with | some x, some y => binO C st.pc op xT x y | _, _ => none
  | .unOp .not _ x => match evalO st.tm x with | some (.v (.one t)) => if t.so C.σ = some .b then some (.v (.one (T.mkNot t))) else none | _ => none
  | .unOp .neg _ x => match evalO st.tm x with | some (.v (.one t)) => (match t.so C.σ with | some (.i k) => some (.v (.one (T.mkBin .sub (.int k 0) t))) | _ => none) | _ => none
  | .extract x i => match evalO st.tm x with | some (.tup l) => (match l[i]? with | some v => some (.v v) | none => none) | _ => none
  | .field xT x f => match evalO st.tm x with | some (.v (.agg l)) => fieldO C.P xT f l | _ => none
  | .fieldAddr xT x f => match evalO st.tm x, fieldAt C.P xT f with | some (.v (.one (.ptr d off))), some n => some (.v (.one (.ptr d (off + n)))) | _, _ => none
  | .build t parts => match parts0 st.tm parts.toList with | some ps => buildO C t ps | none => none
  | .load ty x => match evalO st.tm x with | some (.v (.one (.ptr d off))) => loadO C st.mem ty d off | _ => none
  | .nilCheck x => match evalO st.tm x with | some (.v (.one (.ptr d off))) => some (.v (.one (.ptr d off))) | _ => none
  | _ => none

theorem pureO_run {C : Cfg} {X : Ctx} (hE : X.E.ok C.σ) {δ : Dl} {st : St} {a : Act} {w : World} (hp : PcOk X.E δ st.pc) (hF : Frame1 X.E δ st.tm a.tmps) (hM : RowsAt X.E δ st.mem w) {o : Oper} {v : V} (h : pureO C st o.op = some v) : (execOp a.eval o).run C.P w = .ok (.value (v.den X.E δ)) w := by
  cases hop : o.op <;> rw [hop] at h <;> simp only [pureO] at h <;> try (cases h; done)
  case move x => unfold execOp; simp only [hop, evalO_den hF h, Sem.run_pure]
  case assign x => unfold execOp; simp only [hop, evalO_den hF h, Sem.run_pure]
  case pick c x y =>
    split at h
    · rename_i c1 x1 y1 hc hx hy
      obtain ⟨b, hb, hv⟩ := pickO_den hE hp h
      unfold execOp
      simp only [hop, evalO_den hF hc, evalO_den hF hx, evalO_den hF hy, hv, Sem.run_bind]
      rw [show (V.v (V0.one c1)).den X.E δ = .bool b from hb]
      simp only [asBool, Sem.run_pure, Result.andThen_ok]
    · cases h
  case binOp op xT x y yT =>
    split at h
    · rename_i x1 y1 hx hy
      exact binO_run hE hp h (evalO_den hF hx) (evalO_den hF hy) hop w
    · cases h
  case unOp u xT x =>
    cases u <;> simp only at h <;> try (cases h; done)
    · split at h
      · rename_i t hx
        split at h
        · rename_i k hs
          simp only [Option.some.injEq] at h; subst h
          obtain ⟨-, -, n, hn⟩ := T.den_so hE δ t _ hs
          unfold execOp
          simp only [hop, evalO_den hF hx, V.den, V0.den, T.den_mkBin, hn, Op.unary, Op.intArith, Sem.run_bind, Sem.run_pure, Result.andThen_ok, T.den, binV]
        · cases h
      · cases h
    · split at h
      · rename_i t hx
        split at h
        · rename_i hs
          simp only [Option.some.injEq] at h; subst h
          obtain ⟨-, -, b, hb⟩ := T.den_so hE δ t _ hs
          unfold execOp
          simp only [hop, evalO_den hF hx, V.den, V0.den, T.den_mkNot, hb, Op.unary, Sem.run_bind, Sem.run_pure, Result.andThen_ok, notV]
        · cases h
      · cases h
  case extract x i =>
    split at h
    · rename_i l hx
      split at h
      · rename_i u hu
        simp only [Option.some.injEq] at h; subst h
        unfold execOp
        have h1 : ((l.map (V0.den X.E δ)).toArray)[i]? = some (u.den X.E δ) := by simp [hu]
        simp only [hop, evalO_den hF hx, V.den, Instr.extract, h1, Sem.run_bind, Sem.run_pure, Result.andThen_ok]
      · cases h
    · cases h
  case field xT x f =>
    split at h
    · rename_i l hx
      unfold execOp
      simp only [hop, evalO_den hF hx, Sem.run_bind]
      rw [show (V.v (V0.agg l)).den X.E δ = .agg (l.map (T.den X.E δ)).toArray from rfl, fieldO_run h w]
      rfl
    · cases h
  case fieldAddr xT x f =>
    split at h
    · rename_i d off n hx hf
      simp only [Option.some.injEq] at h; subst h
      unfold execOp
      simp only [hop, evalO_den hF hx, Sem.run_bind]
      rw [show (V.v (V0.one (T.ptr d off))).den X.E δ = .pointer (some ⟨(δ d).n, off, none⟩) from rfl, fieldAt_run hf]
      rfl
    · cases h
  case build t parts =>
    split at h
    · rename_i ps hp
      unfold execOp
      simp only [hop, Sem.run_bind]
      rw [buildO_run hE (δ := δ) h _ (by rw [Array.toList_map]; exact parts0_den hF hp) w]
      rfl
    · cases h
  case load ty x =>
    split at h
    · rename_i d off hx
      exact loadO_run hM h (evalO_den hF hx) hop
    · cases h
  case nilCheck x =>
    split at h
    · rename_i d off hx
      simp only [Option.some.injEq] at h; subst h
      unfold execOp
      simp only [hop, evalO_den hF hx, V.den, V0.den, T.den, Sem.run_pure]
    · cases h

end Sx
end Go.Proofs.Ytdpahikbikiilaa
