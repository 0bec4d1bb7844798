/- A walk by reckoning: letters, and the laws as they are used. It speaks of no function. -/
import Derived.Test.YtdpahikbikiilaaSxf
namespace Go.Proofs.Ytdpahikbikiilaa
open Go.RowKit
namespace Sx

def Each {α : Type} (p : α → Prop) : List α → Prop
  | [] => True
  | x :: xs => p x ∧ Each p xs

theorem Each.all {α : Type} {p : α → Prop} : ∀ {l : List α}, Each p l → ∀ x ∈ l, p x
  | [], _, x, hx => by cases hx
  | y :: ys, h, x, hx => by
    rcases List.mem_cons.1 hx with rfl | hx
    · exact h.1
    · exact h.2.all x hx

theorem Each.of {α : Type} {p : α → Prop} : ∀ {l : List α}, (∀ x ∈ l, p x) → Each p l
  | [], _ => trivial
  | y :: ys, h => ⟨h y List.mem_cons_self, Each.of fun x hx => h x (List.mem_cons_of_mem _ hx)⟩

theorem Each.imp {α : Type} {p q : α → Prop} {l : List α} (h : Each p l) (hpq : ∀ x ∈ l, p x → q x) : Each q l := Each.of fun x hx => hpq x hx (h.all x hx)

/-! Letters. -/

inductive A where
  | i (n : Int)
  | k (q : IntKind) (n : Int)
  | b (b : Bool)
  | sl (a : Option Addr) (n c : Nat)
  | p (a : Option Addr)
  | s (s : ByteArray)
  | o (v : Value) (h : HasSo v .o)

def A.val : A → Value
  | .i m => .int .i64 m
  | .k q m => .int q m
  | .b z => .bool z
  | .sl z n c => .slice z n c
  | .p z => .pointer z
  | .s z => .string z
  | .o z _ => z

def A.so : A → So
  | .i _ => .i .i64
  | .k q _ => .i q
  | .b _ => .b
  | _ => .o

theorem A.ok (x : A) : HasSo x.val x.so := by
  cases x
  case i n => exact hasSo_int _ _
  case k k n => exact hasSo_int _ _
  case b b => exact hasSo_bool _
  case o v h => exact h
  all_goals exact ⟨rfl, rfl, trivial⟩

def asSlice (v : Value) : Value := match v with | .slice a n c => .slice a n c | _ => .slice none 0 0

/-- Values that hang on new numbers. -/
inductive F where
  | sv
  | pt (off : Nat)
  | sl (n c : Nat)
  | slc (n : Nat)
  | nat (g : List Dy → Int)
  | bool (g : List Dy → Bool)
  | o (g : List Dy → Value) (h : ∀ ds, HasSo (g ds) .o)

def F.val : F → List Dy → Value
  | .sv, ds => asSlice (ds.headD default).v
  | .pt off, ds => .pointer (some ⟨(ds.headD default).n, off, none⟩)
  | .sl n c, ds => .slice (some ⟨(ds.headD default).n, 0, none⟩) n c
  | .slc n, ds => .slice (some ⟨(ds.headD default).n, 0, none⟩) n (ds.tail.headD default).n
  | .nat g, ds => .int .i64 (g ds)
  | .bool g, ds => .bool (g ds)
  | .o g _, ds => g ds

def F.so : F → So
  | .nat _ => .i .i64
  | .bool _ => .b
  | _ => .o

theorem F.ok (x : F) (ds : List Dy) : HasSo (x.val ds) x.so := by
  cases x
  case nat g => exact hasSo_int _ _
  case bool g => exact hasSo_bool _
  case o g h => exact h ds
  case sv =>
    show HasSo (asSlice _) .o
    unfold asSlice
    split <;> exact ⟨rfl, rfl, trivial⟩
  all_goals exact ⟨rfl, rfl, trivial⟩

def at_ {α : Type} (d : α) : List α → Nat → α
  | [], _ => d
  | x :: _, 0 => x
  | _ :: xs, n + 1 => at_ d xs n

theorem at_map {α β : Type} (g : α → β) (d : α) : ∀ (l : List α) (i : Nat), at_ (g d) (l.map g) i = g (at_ d l i)
  | [], _ => rfl
  | _ :: _, 0 => rfl
  | _ :: xs, n + 1 => at_map g d xs n

structure D where
  ls : List A := []
  fs : List F := []
  ob : List (List Dy → List (Nat × Obj)) := []
  fact : List (List Dy → Prop) := []
  pan : List Value := []

def D.env (d : D) : Env := ⟨fun i => (at_ (.i 0) d.ls i).val, fun j => (at_ (.nat fun _ => 0) d.fs j).val, fun j ds => at_ (fun _ => []) d.ob j ds, fun j ds => at_ (fun _ => True) d.fact j ds, fun j => at_ undef d.pan j⟩

def sorts (ls fs : List So) : Sorts := ⟨at_ (.i .i64) ls, at_ (.i .i64) fs⟩

theorem D.ok (d : D) {ls fs : List So} (ha : d.ls.map A.so = ls) (hf : d.fs.map F.so = fs) : d.env.ok (sorts ls fs) := by
  subst ha; subst hf
  refine ⟨fun i => ?_, fun j ds => ?_⟩
  · show HasSo (at_ (.i 0) d.ls i).val (at_ (.i .i64) (d.ls.map A.so) i)
    rw [show (So.i .i64) = A.so (.i 0) from rfl, at_map]
    exact A.ok _
  · show HasSo ((at_ (.nat fun _ => 0) d.fs j).val ds) (at_ (.i .i64) (d.fs.map F.so) j)
    rw [show (So.i .i64) = F.so (.nat fun _ => 0) from rfl, at_map]
    exact F.ok _ ds

/-! Ends, with what they reach of memory. -/

def T.ids : T → List Nat
  | .fn _ ds => ds
  | .ptr d _ => [d]
  | .bin _ x y => x.ids ++ y.ids
  | .not x => x.ids
  | .pick c x y => c.ids ++ x.ids ++ y.ids
  | _ => []

def V0.ids : V0 → List Nat
  | .one t => t.ids
  | .agg l => l.flatMap T.ids

def V.ids : V → List Nat
  | .v x => x.ids
  | .tup l => l.flatMap V0.ids

def End.ids : End → List Nat
  | .ret v => v.ids
  | .pan _ => []

def reach (mem : List MRow) : Nat → List Nat → List Nat
  | 0, ids => ids
  | n + 1, ids => reach mem n (mem.foldr (fun r acc => if acc.contains r.1 then r.2.2.flatMap T.ids ++ acc else acc) ids)

structure Fin where
  en : End
  mem : List MRow
  obs : List ORow
  pc : List (T × Bool)
  fs : List (Nat × List Nat)
  deriving DecidableEq, Repr, Inhabited

def finOf (keep : List Nat) (x : End × St) : Fin :=
  let ids := reach x.2.mem 2 (x.1.ids ++ keep ++ x.2.fs.flatMap (·.2))
  ⟨x.1, x.2.mem.filter fun r => ids.contains r.1, x.2.obs.filter fun r => ids.contains r.1, x.2.pc, x.2.fs⟩

theorem sub_flatMap {α β : Type} {l l' : List α} (h : l.Sublist l') (f : α → List β) : (l.flatMap f).Sublist (l'.flatMap f) := by
  induction h with
  | slnil => exact List.Sublist.refl _
  | cons a _ ih => rw [List.flatMap_cons]; exact ih.trans (List.sublist_append_right _ _)
  | cons_cons a _ ih => rw [List.flatMap_cons, List.flatMap_cons]; exact (List.Sublist.refl _).append ih

theorem filter_rows (E : Env) (δ : Dl) (mem : List MRow) (obs : List ORow) (p : MRow → Bool) (q : ORow → Bool) (l : List (Nat × Obj)) : (rows E δ (mem.filter p) (obs.filter q) ++ l).Sublist (rows E δ mem obs ++ l) := by
  unfold rows
  exact ((List.filter_sublist.map _).append (sub_flatMap List.filter_sublist _)).append (List.Sublist.refl _)

theorem SatM.filter {X : Ctx} {δ : Dl} {mem : List MRow} {obs : List ORow} {w : World} (h : SatM X δ mem obs w) (p : MRow → Bool) (q : ORow → Bool) : SatM X δ (mem.filter p) (obs.filter q) w :=
  ⟨Mem.sub h.blk (fun x hx => (filter_rows X.E δ mem obs p q X.l0).subset hx) (((filter_rows X.E δ mem obs p q X.l0).map Prod.fst).nodup h.blk.2.1), fun p hp => h.mine p (rows_sub (fun _ hr => (List.mem_filter.1 hr).1) (fun _ hr => (List.mem_filter.1 hr).1) hp)⟩

theorem SatM.below {X : Ctx} {δ : Dl} {mem : List MRow} {obs : List ORow} {w : World} (h : SatM X δ mem obs w) (hG : X.G = []) : Below X.base.heap.size X.base w := by
  have := h.blk.grownIn
  rw [hG] at this
  exact this.below

/-! What is left to be shown, each once. -/

def oprSame : Operand → Operand → Bool
  | .tmp a, .tmp b => a == b
  | .func a, .func b => a == b
  | .const (.int k m), .const (.int k' n) => k == k' && m == n
  | _, _ => false

theorem oprSame_eq {x y : Operand} (h : oprSame x y = true) : x = y := by
  unfold oprSame at h
  split at h
  · simp only [beq_iff_eq] at h; rw [h]
  · simp only [beq_iff_eq] at h; rw [h]
  · simp only [Bool.and_eq_true, beq_iff_eq] at h; rw [h.1, h.2]
  · cases h

def opSame : Op → Op → Bool
  | .load t x, .load u y => t == u && oprSame x y
  | .store t x z, .store u y v => t == u && oprSame x y && oprSame z v
  | .indexAddr t x z, .indexAddr u y v => t == u && oprSame x y && oprSame z v
  | .index t x z, .index u y v => t == u && oprSame x y && oprSame z v
  | .binOp o t x z u, .binOp o' t' x' z' u' => o == o' && t == t' && oprSame x x' && oprSame z z' && u == u'
  | .call ⟨.builtin .len, xs, ts⟩, .call ⟨.builtin .len, ys, us⟩ => match xs.toList, ys.toList with | [x], [y] => oprSame x y && ts == us | _, _ => false
  | _, _ => false

theorem opSame_eq {x y : Op} (h : opSame x y = true) : x = y := by
  unfold opSame at h
  split at h
  · simp only [Bool.and_eq_true, beq_iff_eq] at h; rw [h.1, oprSame_eq h.2]
  · simp only [Bool.and_eq_true, beq_iff_eq] at h; rw [h.1.1, oprSame_eq h.1.2, oprSame_eq h.2]
  · simp only [Bool.and_eq_true, beq_iff_eq] at h; rw [h.1.1, oprSame_eq h.1.2, oprSame_eq h.2]
  · simp only [Bool.and_eq_true, beq_iff_eq] at h; rw [h.1.1, oprSame_eq h.1.2, oprSame_eq h.2]
  · simp only [Bool.and_eq_true, beq_iff_eq] at h
    obtain ⟨⟨⟨⟨rfl, rfl⟩, h3⟩, h4⟩, rfl⟩ := h
    rw [oprSame_eq h3, oprSame_eq h4]
  · rename_i xs ts ys us
    split at h
    · rename_i x y hx hy
      simp only [Bool.and_eq_true, beq_iff_eq] at h
      have h1 : xs = ys := by
        apply Array.ext'
        rw [hx, hy, oprSame_eq h.1]
      rw [h1, h.2]
    · cases h
  · cases h

def Ob.same : Ob → Ob → Bool
  | .call f a p q m o e, .call f' a' p' q' m' o' e' => decide (f = f' ∧ a = a' ∧ p = p' ∧ q = q' ∧ m = m' ∧ o = o' ∧ e = e')
  | .val x t a p q m o e, .val x' t' a' p' q' m' o' e' => opSame x x' && decide (t = t' ∧ a = a' ∧ p = p' ∧ q = q' ∧ m = m' ∧ o = o' ∧ e = e')
  | .act x t a p q m o e, .act x' t' a' p' q' m' o' e' => opSame x x' && decide (t = t' ∧ a = a' ∧ p = p' ∧ q = q' ∧ m = m' ∧ o = o' ∧ e = e')
  | _, _ => false

theorem Ob.same_eq {x y : Ob} (h : x.same y = true) : x = y := by
  unfold Ob.same at h
  split at h
  · simp only [decide_eq_true_eq] at h; obtain ⟨rfl, rfl, rfl, rfl, rfl, rfl, rfl⟩ := h; rfl
  · simp only [Bool.and_eq_true, decide_eq_true_eq] at h; obtain ⟨h0, rfl, rfl, rfl, rfl, rfl, rfl, rfl⟩ := h; rw [opSame_eq h0]
  · simp only [Bool.and_eq_true, decide_eq_true_eq] at h; obtain ⟨h0, rfl, rfl, rfl, rfl, rfl, rfl, rfl⟩ := h; rw [opSame_eq h0]
  · cases h

def once : List Ob → List Ob
  | [] => []
  | x :: xs => let r := once xs; if r.any (Ob.same x) then r else x :: r

theorem mem_once {x : Ob} : ∀ {l : List Ob}, x ∈ l → x ∈ once l
  | [], h => by cases h
  | y :: ys, h => by
    simp only [once]
    split
    · rename_i hc
      rcases List.mem_cons.1 h with rfl | h
      · obtain ⟨z, hz, h1⟩ := List.any_eq_true.1 hc
        rw [Ob.same_eq h1]; exact hz
      · exact mem_once h
    · rcases List.mem_cons.1 h with rfl | h
      · exact List.mem_cons_self
      · exact List.mem_cons_of_mem _ (mem_once h)

/-- What is reckoned of a function. -/
def fins (P : Program) (σ : Sorts) (wr : Nat × Nat → List Nat) (hint : Hints) (loops : Loops) (keep : List Nat) (n f : Nat) (args : List V) (st : St) (cat : List Nat := []) : Option (List Ob × List Fin) :=
  match runFn ⟨P, σ, wr, cat⟩ hint loops n 0 f args st with
  | some r => some (once r.1, dedup (r.2.map (finOf keep)))
  | none => none

def Pcs (E : Env) (δ : Dl) (pc : List (T × Bool)) : Prop := Each (fun p : T × Bool => p.1.den E δ = .bool p.2) pc
def Fss (E : Env) (δ : Dl) (fs : List (Nat × List Nat)) : Prop := Each (fun f : Nat × List Nat => E.fact f.1 (f.2.map δ)) fs

/-- A call, walked by reckoning. -/
theorem walk {P : Program} {ls fs : List So} {wr : Nat × Nat → List Nat} {hint : Hints} {loops : Loops} {keep cat : List Nat} (d : D) (n f : Nat) (args : List V) {obs : List Ob} {ends : List Fin} (hr : fins P (sorts ls fs) wr hint loops keep n f args (st0 []) cat = some (obs, ends)) (ha : d.ls.map A.so = ls) (hf : d.fs.map F.so = fs) (G : List Nat) {w : World}
    {vs : Array Value} (hv : (args.map (V.den d.env fun _ => default)).toArray = vs) {R : Ending → World → Prop} (hob : Each (Ob.holds P ⟨d.env, [], G, w⟩) obs)
    (hend : Each (fun x : Fin => ∀ δ w', SatM ⟨d.env, [], G, w⟩ δ x.mem x.obs w' → Pcs d.env δ x.pc → Fss d.env δ x.fs → R (x.en.den d.env δ) w') ends) (hC : ∀ f ∈ cat, CatOk P f := by simp) : Calls P f vs w R := by
  unfold fins at hr
  split at hr
  · rename_i r hr1
    simp only [Option.some.injEq, Prod.mk.injEq] at hr
    obtain ⟨rfl, rfl⟩ := hr
    refine calls hC d.env n f args hr1 (d.ok ha hf) G w hv (fun b hb => hob.all b (mem_once hb)) fun x hx δ w' hM hp hfs => ?_
    have := hend.all (finOf keep x) (mem_dedup (List.mem_map.2 ⟨x, hx, rfl⟩))
    exact this δ w' (hM.filter _ _) (Each.of hp) (Each.of hfs)
  · cases hr

/-- Every direct call is walked into. -/
def allIn : Hints := fun _ _ c _ => if c.isSome then some .inl else none
def noLoops : Loops := fun _ _ _ => none

/-! What is left to be shown of a call. -/

theorem Pre.grown {X : Ctx} {δ : Dl} {w : World} {l : List (Nat × Obj)} {pc : List (T × Bool)} {fs : List (Nat × List Nat)} {mem : List MRow} {obs : List ORow} (h : Pre X δ w l pc fs mem obs) : GrownIn X.G X.base w := h.blk.grownIn

/-- A call that leaves what was there and gives a value. -/
theorem ob_call {P : Program} {X : Ctx} {f : Nat} {args : List V} {pc : List (T × Bool)} {fs : List (Nat × List Nat)} {mem : List MRow} {obs : List ORow} {ret : V}
    (h : ∀ δ w l, Pcs X.E δ pc → Fss X.E δ fs → Mem (rows X.E δ mem obs ++ l) X.G X.base w → Calls P f (args.map (V.den X.E δ)).toArray w fun e w' => e = .returned (ret.den X.E δ) ∧ Below w.heap.size w w') : (Ob.call f args pc fs mem obs { ret := ret, mem := mem, obs := obs }).holds P X := by
  intro δ w l hpre
  refine (h δ w l (Each.of hpre.pc) (Each.of hpre.fs) hpre.blk).mono fun e w' ⟨he, hb⟩ => ⟨δ, ⟨Agree.refl _ _, fun f hf => (by cases hf), hpre.blk.step hb, hpre.mine⟩, he⟩

end Sx
end Go.Proofs.Ytdpahikbikiilaa
