/- A walk by reckoning: terms for values, what is known of the slots and of the memory. It speaks of no function. -/
import Derived.Test.YtdpahikbikiilaaRowM
namespace Go.Proofs.Ytdpahikbikiilaa
namespace Sx

/-- The value of one cell. -/
inductive T where
  | int (k : IntKind) (n : Int)
  | bool (b : Bool)
  | nil (k : Nat)
  | func (f : Nat)
  | a (i : Nat)
  | fn (j : Nat) (ds : List Nat)
  | ptr (d : Nat) (off : Nat)
  | bin (op : BinOp) (x y : T)
  | not (x : T)
  | pick (c x y : T)
  deriving DecidableEq, Repr, Inhabited

/-- What kind of value. -/
inductive So where
  | i (k : IntKind)
  | b
  | o
  deriving DecidableEq, Repr, Inhabited

/-- What is met along the way: a number (of a block, say), an object, a value, a list, some blocks. -/
structure Dy where
  n : Nat
  o : Obj
  v : Value
  l : List Int
  p : List (Nat × Obj) := []
  deriving Inhabited

abbrev Dl := Nat → Dy

/-- What the letters stand for. -/
structure Env where
  a : Nat → Value
  f : Nat → List Dy → Value
  ob : Nat → List Dy → List (Nat × Obj)
  fact : Nat → List Dy → Prop
  pan : Nat → Value

def binV (op : BinOp) (x y : Value) : Value :=
  match x, y with
  | .int k m, .int _ n =>
    match op with
    | .add => .int k (k.wrap (m + n))
    | .sub => .int k (k.wrap (m - n))
    | .mul => .int k (k.wrap (m * n))
    | .quo => .int k (k.wrap (m.tdiv n))
    | .rem => .int k (m.tmod n)
    | .eql => .bool (m == n)
    | .neq => .bool (m != n)
    | .lss => .bool (decide (m < n))
    | .leq => .bool (decide (m ≤ n))
    | .gtr => .bool (decide (m > n))
    | .geq => .bool (decide (m ≥ n))
    | _ => .bool false
  | .bool m, .bool n =>
    match op with
    | .eql => .bool (m == n)
    | .neq => .bool (m != n)
    | _ => .bool false
  | _, _ => .bool false

def notV (x : Value) : Value := match x with | .bool b => .bool (!b) | _ => .bool false

def pickV (c x y : Value) : Value := match c with | .bool b => if b then x else y | _ => x

def nilV (k : Nat) : Value := match k with | 0 => .pointer none | 1 => .slice none 0 0 | 2 => .nilIface | _ => .nilFunc

def T.den (E : Env) (δ : Dl) : T → Value
  | .int k n => .int k n
  | .bool b => .bool b
  | .nil k => nilV k
  | .func f => .func (.func f) #[] #[]
  | .a i => E.a i
  | .fn j ds => E.f j (ds.map δ)
  | .ptr d off => .pointer (some ⟨(δ d).n, off, none⟩)
  | .bin op x y => binV op (x.den E δ) (y.den E δ)
  | .not x => notV (x.den E δ)
  | .pick c x y => pickV (c.den E δ) (x.den E δ) (y.den E δ)

/-- None of these numbers stands in it. -/
def T.free (ns : List Nat) : T → Bool
  | .fn _ ds => ds.all fun d => !ns.contains d
  | .ptr d _ => !ns.contains d
  | .bin _ x y => x.free ns && y.free ns
  | .not x => x.free ns
  | .pick c x y => c.free ns && x.free ns && y.free ns
  | _ => true

/-- The same but for these numbers. -/
def Agree (ns : List Nat) (δ δ' : Dl) : Prop := ∀ d, d ∉ ns → δ' d = δ d

theorem Agree.refl (ns : List Nat) (δ : Dl) : Agree ns δ δ := fun _ _ => rfl

theorem Agree.map {ns : List Nat} {δ δ' : Dl} (h : Agree ns δ δ') {ds : List Nat} (hd : (ds.all fun d => !ns.contains d) = true) : ds.map δ' = ds.map δ := by
  refine List.map_congr_left fun d hm => h d ?_
  have := List.all_eq_true.1 hd d hm
  simpa using this

theorem T.den_free {E : Env} {ns : List Nat} {δ δ' : Dl} (h : Agree ns δ δ') : ∀ t : T, t.free ns = true → t.den E δ' = t.den E δ
  | .fn j ds, hf => by simp only [T.den, h.map hf]
  | .ptr d off, hf => by simp only [T.den, h d (by simpa [T.free] using hf)]
  | .bin op x y, hf => by
    simp only [T.free, Bool.and_eq_true] at hf
    simp only [T.den, den_free h x hf.1, den_free h y hf.2]
  | .not x, hf => by
    simp only [T.free] at hf
    simp only [T.den, den_free h x hf]
  | .pick c x y, hf => by
    simp only [T.free, Bool.and_eq_true] at hf
    simp only [T.den, den_free h c hf.1.1, den_free h x hf.1.2, den_free h y hf.2]
  | .int _ _, _ | .bool _, _ | .nil _, _ | .func _, _ | .a _, _ => rfl

/-! What kind of value a term is. -/

structure Sorts where
  a : Nat → So
  f : Nat → So

def HasSo (v : Value) (s : So) : Prop :=
  v.oneCell' = true ∧ v.cells = #[v] ∧ match s with | .i k => ∃ n, v = .int k n | .b => ∃ b, v = .bool b | .o => True

def binSo (op : BinOp) (x y : So) : Option So :=
  match x, y with
  | .i k, .i k' =>
    if k = k' then
      match op with
      | .add | .sub | .mul | .quo | .rem => some (.i k)
      | .eql | .neq | .lss | .leq | .gtr | .geq => some .b
      | _ => none
    else none
  | .b, .b => match op with | .eql | .neq => some .b | _ => none
  | _, _ => none

def T.so (σ : Sorts) : T → Option So
  | .int k _ => some (.i k)
  | .bool _ => some .b
  | .nil _ | .func _ | .ptr _ _ => some .o
  | .a i => some (σ.a i)
  | .fn j _ => some (σ.f j)
  | .bin op x y => match x.so σ, y.so σ with | some s, some s' => binSo op s s' | _, _ => none
  | .not x => if x.so σ = some .b then some .b else none
  | .pick c x y => if c.so σ = some .b ∧ x.so σ = y.so σ then x.so σ else none

def Env.ok (E : Env) (σ : Sorts) : Prop := (∀ i, HasSo (E.a i) (σ.a i)) ∧ (∀ j ds, HasSo (E.f j ds) (σ.f j))

theorem hasSo_int (k : IntKind) (n : Int) : HasSo (.int k n) (.i k) := ⟨rfl, rfl, n, rfl⟩

theorem hasSo_bool (b : Bool) : HasSo (.bool b) .b := ⟨rfl, rfl, b, rfl⟩

theorem binV_so {op : BinOp} {x y : Value} {s s' r : So} (hx : HasSo x s) (hy : HasSo y s') (h : binSo op s s' = some r) : HasSo (binV op x y) r := by
  obtain ⟨_, _, hx⟩ := hx
  obtain ⟨_, _, hy⟩ := hy
  cases s <;> cases s' <;> simp only [binSo] at h <;> try (cases h; done)
  · split at h
    · rename_i hk
      subst hk
      obtain ⟨m, rfl⟩ := hx
      obtain ⟨n, rfl⟩ := hy
      cases op <;> simp only [Option.some.injEq] at h <;> first | (subst h; first | exact hasSo_int _ _ | exact hasSo_bool _) | (cases h; done)
    · cases h
  · obtain ⟨m, rfl⟩ := hx
    obtain ⟨n, rfl⟩ := hy
    cases op <;> simp only [Option.some.injEq] at h <;> first | (subst h; exact hasSo_bool _) | (cases h; done)

theorem T.den_so {E : Env} {σ : Sorts} (hE : E.ok σ) (δ : Dl) : ∀ (t : T) (s : So), t.so σ = some s → HasSo (t.den E δ) s
  | .int k n, s, h => by simp only [T.so, Option.some.injEq] at h; subst h; exact hasSo_int _ _
  | .bool b, s, h => by simp only [T.so, Option.some.injEq] at h; subst h; exact hasSo_bool _
  | .nil k, s, h => by
    simp only [T.so, Option.some.injEq] at h; subst h
    unfold T.den nilV
    split <;> exact ⟨rfl, rfl, trivial⟩
  | .func f, s, h => by simp only [T.so, Option.some.injEq] at h; subst h; exact ⟨rfl, rfl, trivial⟩
  | .ptr d off, s, h => by simp only [T.so, Option.some.injEq] at h; subst h; exact ⟨rfl, rfl, trivial⟩
  | .a i, s, h => by simp only [T.so, Option.some.injEq] at h; subst h; exact hE.1 i
  | .fn j ds, s, h => by simp only [T.so, Option.some.injEq] at h; subst h; exact hE.2 j _
  | .bin op x y, s, h => by
    simp only [T.so] at h
    split at h
    · rename_i s1 s2 h1 h2
      exact binV_so (den_so hE δ x _ h1) (den_so hE δ y _ h2) h
    · cases h
  | .not x, s, h => by
    simp only [T.so] at h
    split at h
    · rename_i h1
      simp only [Option.some.injEq] at h; subst h
      obtain ⟨_, _, b, hb⟩ := den_so hE δ x _ h1
      simp only [T.den, hb, notV]
      exact hasSo_bool _
    · cases h
  | .pick c x y, s, h => by
    simp only [T.so] at h
    split at h
    · rename_i h1
      obtain ⟨_, _, b, hb⟩ := den_so hE δ c _ h1.1
      simp only [T.den, hb, pickV]
      split
      · exact den_so hE δ x _ h
      · exact den_so hE δ y _ (h1.2 ▸ h)
    · cases h

/-! Terms that are reckoned as far as they can be. -/

def binL (op : BinOp) (k : IntKind) (m n : Int) : Option T :=
  match op with
  | .add => some (.int k (k.wrap (m + n)))
  | .sub => some (.int k (k.wrap (m - n)))
  | .mul => some (.int k (k.wrap (m * n)))
  | .eql => some (.bool (m == n))
  | .neq => some (.bool (m != n))
  | .lss => some (.bool (decide (m < n)))
  | .leq => some (.bool (decide (m ≤ n)))
  | .gtr => some (.bool (decide (m > n)))
  | .geq => some (.bool (decide (m ≥ n)))
  | _ => none

def T.mkBin (op : BinOp) (x y : T) : T :=
  match x, y with
  | .int k m, .int _ n => (binL op k m n).getD (.bin op x y)
  | _, _ => .bin op x y

theorem T.den_mkBin (E : Env) (δ : Dl) (op : BinOp) (x y : T) : (T.mkBin op x y).den E δ = binV op (x.den E δ) (y.den E δ) := by
  unfold T.mkBin
  split
  · cases op <;> rfl
  · rfl

def T.mkNot (x : T) : T := match x with | .bool b => .bool (!b) | _ => .not x

theorem T.den_mkNot (E : Env) (δ : Dl) (x : T) : (T.mkNot x).den E δ = notV (x.den E δ) := by
  unfold T.mkNot
  split <;> rfl

def T.mkPick (c x y : T) : T := match c with | .bool b => if b then x else y | _ => .pick c x y

theorem T.den_mkPick (E : Env) (δ : Dl) (c x y : T) : (T.mkPick c x y).den E δ = pickV (c.den E δ) (x.den E δ) (y.den E δ) := by
  unfold T.mkPick
  split
  · rename_i b
    cases b <;> rfl
  · rfl

/-! Values: one cell, a struct's cells, several of these. -/

inductive V0 where
  | one (t : T)
  | agg (l : List T)
  deriving DecidableEq, Repr, Inhabited

inductive V where
  | v (x : V0)
  | tup (l : List V0)
  deriving DecidableEq, Repr, Inhabited

def V0.den (E : Env) (δ : Dl) : V0 → Value
  | .one t => t.den E δ
  | .agg l => .agg (l.map (T.den E δ)).toArray

def V.den (E : Env) (δ : Dl) : V → Value
  | .v x => x.den E δ
  | .tup l => .tuple (l.map (V0.den E δ)).toArray

def V0.free (ns : List Nat) : V0 → Bool
  | .one t => t.free ns
  | .agg l => l.all (T.free ns)

def V.free (ns : List Nat) : V → Bool
  | .v x => x.free ns
  | .tup l => l.all (V0.free ns)

theorem V0.den_free {E : Env} {ns : List Nat} {δ δ' : Dl} (h : Agree ns δ δ') (x : V0) (hf : x.free ns = true) : x.den E δ' = x.den E δ := by
  cases x with
  | one t => exact T.den_free h t hf
  | agg l =>
    simp only [V0.den]
    rw [List.map_congr_left fun t ht => T.den_free h t (List.all_eq_true.1 hf t ht)]

theorem V.den_free {E : Env} {ns : List Nat} {δ δ' : Dl} (h : Agree ns δ δ') (x : V) (hf : x.free ns = true) : x.den E δ' = x.den E δ := by
  cases x with
  | v x => exact V0.den_free h x hf
  | tup l =>
    simp only [V.den]
    rw [List.map_congr_left fun t ht => V0.den_free h t (List.all_eq_true.1 hf t ht)]

abbrev V.undef : V := .tup []

/-- The cells of a value. -/
def V0.cells : V0 → List T
  | .one t => [t]
  | .agg l => l

def V0.good (σ : Sorts) (x : V0) : Bool := x.cells.all fun t => (t.so σ).isSome

theorem V0.cells_den {E : Env} {σ : Sorts} (hE : E.ok σ) (δ : Dl) (x : V0) (h : x.good σ = true) : (x.den E δ).cells = (x.cells.map (T.den E δ)).toArray ∧ (x.cells.map (T.den E δ)).all (·.oneCell') = true := by
  have h1 : (x.cells.map (T.den E δ)).all (·.oneCell') = true := by
    rw [List.all_eq_true]
    intro v hv
    obtain ⟨t, ht, rfl⟩ := List.mem_map.1 hv
    have hs := List.all_eq_true.1 h t ht
    obtain ⟨s, hs⟩ := Option.isSome_iff_exists.1 hs
    exact (T.den_so hE δ t s hs).1
  refine ⟨?_, h1⟩
  cases x with
  | one t =>
    have hs := List.all_eq_true.1 h t List.mem_cons_self
    obtain ⟨s, hs⟩ := Option.isSome_iff_exists.1 hs
    exact (T.den_so hE δ t s hs).2.1
  | agg l => rfl

/-! What is known: the slots, the memory of the call's own, the way, facts; slots of the callers. -/

abbrev MRow := Nat × TypeId × List T
abbrev ORow := Nat × Nat × List Nat

structure St where
  tm : List (Option V)
  mem : List MRow
  obs : List ORow
  pc : List (T × Bool)
  fs : List (Nat × List Nat)
  kp : List (List (Option V) × List Nat)
  df : List Nat
  deriving DecidableEq, Repr, Inhabited

/-- What does not turn along the way. -/
structure Ctx where
  E : Env
  l0 : List (Nat × Obj)
  G : List Nat
  base : World

def mRow (E : Env) (δ : Dl) (r : MRow) : Nat × Obj := ((δ r.1).n, .cells (r.2.2.map (T.den E δ)).toArray r.2.1 (0, 0))
def oRow (E : Env) (δ : Dl) (r : ORow) : List (Nat × Obj) := E.ob r.2.1 (r.2.2.map δ)

def rows (E : Env) (δ : Dl) (mem : List MRow) (obs : List ORow) : List (Nat × Obj) := mem.map (mRow E δ) ++ obs.flatMap (oRow E δ)

def Mine (X : Ctx) (b : Nat) : Prop := X.base.heap.size ≤ b ∨ b ∈ X.G

def PcOk (E : Env) (δ : Dl) (pc : List (T × Bool)) : Prop := ∀ p ∈ pc, p.1.den E δ = .bool p.2
def FsOk (E : Env) (δ : Dl) (fs : List (Nat × List Nat)) : Prop := ∀ f ∈ fs, E.fact f.1 (f.2.map δ)

def Frame1 (E : Env) (δ : Dl) (tm : List (Option V)) (ts : Array Value) : Prop := ts.size = tm.length ∧ ∀ (i : Nat) (v : V), tm[i]? = some (some v) → ts[i]? = some (v.den E δ)

/-- A deferred call of a function of no arguments. -/
def dfOf (f : Nat) : Deferred := { target := .fn (.func f) #[], args := #[] }

def Kept1 (E : Env) (δ : Dl) : List (List (Option V) × List Nat) → List (Array Value × List Deferred) → Prop
  | [], [] => True
  | t :: ts, u :: us => (Frame1 E δ t.1 u.1 ∧ u.2 = t.2.map dfOf) ∧ Kept1 E δ ts us
  | _, _ => False

/-- What is known of memory. -/
structure SatM (X : Ctx) (δ : Dl) (mem : List MRow) (obs : List ORow) (w : World) : Prop where
  blk : Mem (rows X.E δ mem obs ++ X.l0) X.G X.base w
  mine : ∀ p ∈ rows X.E δ mem obs, Mine X p.1

structure Sat (X : Ctx) (ks : List (Array Value × List Deferred)) (δ : Dl) (st : St) (a : Act) (w : World) : Prop where
  tm : Frame1 X.E δ st.tm a.tmps
  df : a.defers = st.df.map dfOf
  m : SatM X δ st.mem st.obs w
  pc : PcOk X.E δ st.pc
  fs : FsOk X.E δ st.fs
  kp : Kept1 X.E δ st.kp ks

/-! Fresh numbers. -/

def freeT (ns : List Nat) (tm : List (Option V)) : Bool := tm.all fun o => match o with | some v => v.free ns | none => true
def freeM (ns : List Nat) (mem : List MRow) : Bool := mem.all fun r => !ns.contains r.1 && r.2.2.all (T.free ns)
def freeO (ns : List Nat) (obs : List ORow) : Bool := obs.all fun r => !ns.contains r.1 && r.2.2.all fun d => !ns.contains d
def freeP (ns : List Nat) (pc : List (T × Bool)) : Bool := pc.all fun p => p.1.free ns
def freeF (ns : List Nat) (fs : List (Nat × List Nat)) : Bool := fs.all fun f => f.2.all fun d => !ns.contains d

theorem Frame1.free {E : Env} {ns : List Nat} {δ δ' : Dl} (h : Agree ns δ δ') {tm : List (Option V)} {ts : Array Value} (hf : freeT ns tm = true) (hk : Frame1 E δ tm ts) : Frame1 E δ' tm ts :=
  ⟨hk.1, fun i v hv => by
    rw [hk.2 i v hv, V.den_free h v]
    have := List.all_eq_true.1 hf (some v) (List.mem_of_getElem? hv)
    exact this⟩

theorem Kept1.free {E : Env} {ns : List Nat} {δ δ' : Dl} (h : Agree ns δ δ') : ∀ {kp : List (List (Option V) × List Nat)} {ks : List (Array Value × List Deferred)}, (kp.all fun t => freeT ns t.1) = true → Kept1 E δ kp ks → Kept1 E δ' kp ks
  | [], [], _, _ => trivial
  | t :: ts, u :: us, hf, hk => by
    rw [List.all_cons, Bool.and_eq_true] at hf
    exact ⟨⟨hk.1.1.free h hf.1, hk.1.2⟩, Kept1.free h hf.2 hk.2⟩
  | [], _ :: _, _, hk => hk.elim
  | _ :: _, [], _, hk => hk.elim

theorem PcOk.free {E : Env} {ns : List Nat} {δ δ' : Dl} (h : Agree ns δ δ') {pc : List (T × Bool)} (hf : freeP ns pc = true) (hk : PcOk E δ pc) : PcOk E δ' pc := fun p hp => by
  rw [T.den_free h p.1 (List.all_eq_true.1 hf p hp)]; exact hk p hp

theorem FsOk.free {E : Env} {ns : List Nat} {δ δ' : Dl} (h : Agree ns δ δ') {fs : List (Nat × List Nat)} (hf : freeF ns fs = true) (hk : FsOk E δ fs) : FsOk E δ' fs := fun f hm => by
  rw [h.map (List.all_eq_true.1 hf f hm)]; exact hk f hm

theorem mRow_free {E : Env} {ns : List Nat} {δ δ' : Dl} (h : Agree ns δ δ') {r : MRow} (hf : (!ns.contains r.1 && r.2.2.all (T.free ns)) = true) : mRow E δ' r = mRow E δ r := by
  rw [Bool.and_eq_true] at hf
  unfold mRow
  rw [h r.1 (by simpa using hf.1), List.map_congr_left fun t ht => T.den_free h t (List.all_eq_true.1 hf.2 t ht)]

theorem oRow_free {E : Env} {ns : List Nat} {δ δ' : Dl} (h : Agree ns δ δ') {r : ORow} (hf : (!ns.contains r.1 && r.2.2.all fun d => !ns.contains d) = true) : oRow E δ' r = oRow E δ r := by
  rw [Bool.and_eq_true] at hf
  unfold oRow
  rw [h.map hf.2]

theorem flatMap_congr {α β : Type} {f g : α → List β} : ∀ {l : List α}, (∀ x ∈ l, f x = g x) → l.flatMap f = l.flatMap g
  | [], _ => rfl
  | x :: xs, h => by rw [List.flatMap_cons, List.flatMap_cons, h x List.mem_cons_self, flatMap_congr fun y hy => h y (List.mem_cons_of_mem _ hy)]

theorem rows_free {E : Env} {ns : List Nat} {δ δ' : Dl} (h : Agree ns δ δ') {mem : List MRow} {obs : List ORow} (hm : freeM ns mem = true) (ho : freeO ns obs = true) : rows E δ' mem obs = rows E δ mem obs := by
  unfold rows
  rw [List.map_congr_left fun r hr => mRow_free h (List.all_eq_true.1 hm r hr), flatMap_congr fun r hr => oRow_free h (List.all_eq_true.1 ho r hr)]

theorem SatM.free {X : Ctx} {ns : List Nat} {δ δ' : Dl} (h : Agree ns δ δ') {mem : List MRow} {obs : List ORow} {w : World} (hm : freeM ns mem = true) (ho : freeO ns obs = true) (hk : SatM X δ mem obs w) : SatM X δ' mem obs w :=
  ⟨by rw [rows_free h hm ho]; exact hk.blk, by rw [rows_free h hm ho]; exact hk.mine⟩

def St.free (ns : List Nat) (st : St) : Bool := freeT ns st.tm && freeM ns st.mem && freeO ns st.obs && freeP ns st.pc && freeF ns st.fs && st.kp.all fun t => freeT ns t.1

theorem Sat.free {X : Ctx} {ks : List (Array Value × List Deferred)} {ns : List Nat} {δ δ' : Dl} (h : Agree ns δ δ') {st : St} {a : Act} {w : World} (hf : st.free ns = true) (hk : Sat X ks δ st a w) : Sat X ks δ' st a w := by
  unfold St.free at hf
  simp only [Bool.and_eq_true] at hf
  obtain ⟨⟨⟨⟨⟨h1, h2⟩, h3⟩, h4⟩, h5⟩, h6⟩ := hf
  exact ⟨hk.tm.free h h1, hk.df, hk.m.free h h2 h3, hk.pc.free h h4, hk.fs.free h h5, hk.kp.free h h6⟩

/-- A slot is written. -/
def putT (tm : List (Option V)) (d : Option Tmp) (v : V) : List (Option V) := match d with | some t => tm.set t (some v) | none => tm

theorem Frame1.put {E : Env} {δ : Dl} {tm : List (Option V)} {a : Act} (h : Frame1 E δ tm a.tmps) (d : Option Tmp) (v : V) : Frame1 E δ (putT tm d v) (a.put d (v.den E δ)).tmps := by
  cases d with
  | none => exact h
  | some t =>
    refine ⟨by simp [putT, Act.put, h.1], fun i u hu => ?_⟩
    simp only [putT, Act.put] at hu ⊢
    rw [List.getElem?_set] at hu
    rw [Array.getElem?_setIfInBounds]
    split at hu
    · rename_i e
      subst e
      split at hu
      · rename_i hlt
        simp only [Option.some.injEq] at hu
        subst hu
        rw [if_pos rfl, if_pos (by rw [h.1]; exact hlt)]
      · cases hu
    · rename_i e
      rw [if_neg e]
      exact h.2 i u hu

theorem Sat.put {X : Ctx} {ks : List (Array Value × List Deferred)} {δ : Dl} {st : St} {a : Act} {w : World} (h : Sat X ks δ st a w) (d : Option Tmp) (v : V) : Sat X ks δ { st with tm := putT st.tm d v } (a.put d (v.den X.E δ)) w :=
  ⟨h.tm.put d v, by cases d <;> exact h.df, h.m, h.pc, h.fs, h.kp⟩

/-! Operands. -/

def constV : Value → Option V
  | .int k n => some (.v (.one (.int k n)))
  | .bool b => some (.v (.one (.bool b)))
  | .pointer none => some (.v (.one (.nil 0)))
  | .slice none 0 0 => some (.v (.one (.nil 1)))
  | .nilIface => some (.v (.one (.nil 2)))
  | .nilFunc => some (.v (.one (.nil 3)))
  | _ => none

theorem constV_den {E : Env} {δ : Dl} {x : Value} {v : V} (h : constV x = some v) : v.den E δ = x := by
  unfold constV at h
  split at h <;> first | (simp only [Option.some.injEq] at h; subst h; rfl) | cases h

def evalO (tm : List (Option V)) : Operand → Option V
  | .tmp t => (tm[t]?).join
  | .const v => constV v
  | .func f => some (.v (.one (.func f)))
  | .global _ => none

theorem evalO_den {E : Env} {δ : Dl} {tm : List (Option V)} {a : Act} (h : Frame1 E δ tm a.tmps) {x : Operand} {v : V} (hv : evalO tm x = some v) : a.eval x = v.den E δ := by
  cases x with
  | tmp t =>
    simp only [evalO] at hv
    have : tm[t]? = some (some v) := by
      cases ht : tm[t]? with
      | none => rw [ht] at hv; cases hv
      | some o => rw [ht] at hv; simp only [Option.join] at hv; cases o <;> simp_all
    have := h.2 t v this
    simp only [Act.eval, Array.getD_eq_getD_getElem?, this, Option.getD_some]
  | const c => exact (constV_den hv).symm
  | func f => simp only [evalO, Option.some.injEq] at hv; subst hv; rfl
  | global g => cases hv

end Sx
end Go.Proofs.Ytdpahikbikiilaa
