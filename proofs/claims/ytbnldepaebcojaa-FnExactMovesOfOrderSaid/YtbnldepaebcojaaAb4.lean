/- The other operations that only read; all of them in one function and one theorem. -/
import Derived.Test.YtbnldepaebcojaaAb3
import Derived.Laws.CopyRow
namespace Go.Ab
set_option linter.all false
open Go Go.RowKit

/-- A number that is an index: at least 0, less than a length. -/
def rUn (op : UnOp) (x : AV) (K : AV → Prop) : Prop :=
  match op, x with
  | .not, .val (.bool b) => K (.val (.bool (!b)))
  | .neg, .val (.int k a) => InR k (0 - a) ∧ K (.val (.int k (0 - a)))
  | _, _ => False

def rConv (tab : Tab) (s d : TypeId) (x : AV) (K : AV → Prop) : Prop :=
  match tyOf tab d, x with
  | some (.int k), .val (.int _ n) => (tab s).isSome = true ∧ InR k n ∧ K (.val (.int k n))
  | _, .val v => ∃ u, (∀ P : Program, TabOk P tab → ∀ w, (convert s d v).run P w = .ok u w) ∧ K (.val u)
  | _, _ => False

def rNil (x : AV) (K : AV → Prop) : Prop :=
  match x with
  | .ref o k => K (.ref o k)
  | .pref o i k => K (.pref o i k)
  | .val (.func (.func f) a b) => K (.val (.func (.func f) a b))
  | .clo (.func f) a b => K (.clo (.func f) a b)
  | _ => False

def rFieldAddr (tab : Tab) (st : TypeId) (x : AV) (f : Nat) (K : AV → Prop) : Prop :=
  match tyOf tab st, x with
  | some (.struct fs), .ref o k => match fs[f]? with
    | some p => (szOf tab p.2).any (0 < ·) = true ∧ K (.ref o (k + p.1))
    | none => False
  | _, _ => False

/-- A part of the cells of a struct or an array. -/
def partOf (tab : Tab) (t : TypeId) (as : List AV) (off : Nat) (K : AV → Prop) : Prop :=
  match tab t with
  | some i => if i.ty.isAgg then off + i.size ≤ as.length ∧ K (.agg ((as.drop off).take i.size))
    else if i.ty.one then (match as[off]? with
      | some a => K a
      | none => False)
    else False
  | none => False

def rField (tab : Tab) (st : TypeId) (x : AV) (f : Nat) (K : AV → Prop) : Prop :=
  match tyOf tab st, x with
  | some (.struct fs), .agg as => match fs[f]? with
    | some p => partOf tab p.2 as p.1 K
    | none => False
  | _, _ => False

def rIndexAddr (tab : Tab) (t : TypeId) (x i : AV) (K : AV → Prop) : Prop :=
  match tyOf tab t, x, i with
  | some (.slice e), .sl o off len _ _, .val (.int _ n) => ∃ s, szOf tab e = some s ∧ 0 ≤ n ∧ n < len ∧ K (.ref o (off + n.toNat * s))
  | some (.slice e), .psl o j off len _, .val (.int _ n) => szOf tab e = some 1 ∧ 0 ≤ n ∧ n < len ∧ K (.pref o j (off + n.toNat))
  | some (.array len e), .ref o k, .val (.int _ n) => ∃ s, szOf tab e = some s ∧ 0 ≤ n ∧ n < len ∧ K (.ref o (k + n.toNat * s))
  | _, _, _ => False

def rIndex (tab : Tab) (t : TypeId) (x i : AV) (K : AV → Prop) : Prop :=
  match tyOf tab t, x, i with
  | some .string, .val (.string s), .val (.int _ n) => 0 ≤ n ∧ ∃ h : n.toNat < s.size, K (.val (.int .u8 (s[n.toNat]'h).toNat))
  | _, _, _ => False

/-- One cell. -/
def cellOf (o : Nat) (c : Cont) (k : Nat) (K : AV → Prop) : Prop :=
  match c with
  | .cells as => match as[k]? with
    | some a => K a
    | none => False
  | .ints ik xs => k < xs.length ∧ K (.val (.int ik (xs.getD k 0)))
  | .strs ss => k < ss.length ∧ K (.val (.string (ss.getD k ByteArray.empty)))
  | .bools bs => k < bs.length ∧ K (.val (.bool (bs.getD k false)))
  | .rows _ xss hole => k < xss.length ∧ hole ≠ some k ∧ K (.psl o k 0 (xss.getD k []).length none)
  | .raw _ => False
  | .same _ _ => False

def rLoad (tab : Tab) (h : Nat → Option Ob) (t : TypeId) (x : AV) (K : AV → Prop) : Prop :=
  match tab t with
  | none => False
  | some i => if i.ty.isAgg then (match x with
      | .ref o k => ∃ ob, h o = some ob ∧ k + i.size ≤ (ob.cont.flat o).length ∧ K (.agg (((ob.cont.flat o).drop k).take i.size))
      | _ => False)
    else if i.ty.one then (match x with
      | .ref o k => ∃ ob, h o = some ob ∧ cellOf o ob.cont k K
      | .pref o j k => ∃ ob, h o = some ob ∧ (match ob.cont with
        | .rows ik xss hole => j < xss.length ∧ hole ≠ some j ∧ k < (xss.getD j []).length ∧ K (.val (.int ik ((xss.getD j []).getD k 0)))
        | _ => False)
      | _ => False)
    else False

def loOf : Option AV → Option Int
  | none => some 0
  | some (.val (.int _ n)) => some n
  | _ => none

def rSliceL (tab : Tab) (h : Nat → Option Ob) (t : TypeId) (x : AV) (l : Int) (hi : Option AV) (K : AV → Prop) : Prop :=
  match tyOf tab t, x with
  | some (.slice e), .sl o off len es none => (match hi with
    | none => szOf tab e = some es ∧ 0 ≤ l ∧ l ≤ len ∧ K (.sl o (off + l.toNat * es) (len - l.toNat) es none)
    | some (.val (.int _ h)) => szOf tab e = some es ∧ 0 ≤ l ∧ l ≤ h ∧ h ≤ len ∧ K (.sl o (off + l.toNat * es) (h - l).toNat es none)
    | _ => False)
  | some (.slice e), .sl o off len es (some k) => (match hi with
    | none => szOf tab e = some es ∧ 0 ≤ l ∧ l ≤ len ∧ K (.sl o (off + l.toNat * es) (len - l.toNat) es (some (k - l.toNat)))
    | some (.val (.int _ h)) => szOf tab e = some es ∧ 0 ≤ l ∧ l ≤ h ∧ h ≤ len ∧ K (.sl o (off + l.toNat * es) (h - l).toNat es (some (k - l.toNat)))
    | _ => False)
  | some (.slice e), .psl o i off len lim => (match hi with
    | none => szOf tab e = some 1 ∧ 0 ≤ l ∧ l ≤ len ∧ lim = none ∧ K (.psl o i (off + l.toNat) (len - l.toNat) none)
    | some (.val (.int _ h)) => szOf tab e = some 1 ∧ 0 ≤ l ∧ l ≤ h ∧ h ≤ len ∧ lim = none ∧ K (.psl o i (off + l.toNat) (h - l).toNat none)
    | _ => False)
  | some (.slice e), .val (.slice none 0 0) => (match hi with
    | none => (szOf tab e).isSome = true ∧ l = 0 ∧ K (.val (.slice none 0 0))
    | some (.val (.int _ h)) => (szOf tab e).isSome = true ∧ l = 0 ∧ h = 0 ∧ K (.val (.slice none 0 0))
    | _ => False)
  | some .string, .val (.string s) => (match hi with
    | none => 0 ≤ l ∧ l ≤ s.size ∧ K (.val (.string (s.extract l.toNat s.size)))
    | some (.val (.int _ h)) => 0 ≤ l ∧ l ≤ h ∧ h ≤ s.size ∧ K (.val (.string (s.extract l.toNat h.toNat)))
    | _ => False)
  | some (.array n e), .ref o k => (match hi with
    | none => ∃ s ob, szOf tab e = some s ∧ h o = some ob ∧ l = 0 ∧ 0 < n ∧ k + n * s ≤ (ob.cont.flat o).length ∧ K (.sl o k n s (some n))
    | _ => False)
  | _, _ => False

/-- With a bound for the capacity. -/
def rSlice3 (tab : Tab) (t : TypeId) (x : AV) (l : Int) (hi : Option AV) (mm : Int) (K : AV → Prop) : Prop :=
  match tyOf tab t, x, hi with
  | some (.slice e), .sl o off len es _, some (.val (.int _ h)) => szOf tab e = some es ∧ 0 ≤ l ∧ l ≤ h ∧ h ≤ mm ∧ mm ≤ len ∧ K (.sl o (off + l.toNat * es) (h - l).toNat es (some (mm - l).toNat))
  | _, _, _ => False

def rSlice (tab : Tab) (h : Nat → Option Ob) (t : TypeId) (x : AV) (lo hi mx : Option AV) (K : AV → Prop) : Prop :=
  match mx with
  | none => ∃ l, loOf lo = some l ∧ rSliceL tab h t x l hi K
  | some (.val (.int _ mm)) => ∃ l, loOf lo = some l ∧ rSlice3 tab t x l hi mm K
  | _ => False

def rExtract (x : AV) (i : Nat) (K : AV → Prop) : Prop :=
  match x with
  | .tup as => match as[i]? with
    | some a => K a
    | none => False
  | _ => False

def rMax (mx : Bool) : AV → List AV → (AV → Prop) → Prop
  | x, [], K => K x
  | .val (.int k a), .val (.int _ b) :: rest, K => rMax mx (.val (.int k (if mx then max a b else min a b))) rest K
  | _, _, _ => False

def rBuiltin (tab : Tab) (b : Builtin) (ts : List TypeId) (as : List AV) (K : AV → Prop) : Prop :=
  match b, ts, as with
  | .len, [t], [x] => (match tyOf tab t, x with
    | some (.slice _), .sl _ _ len _ _ => K (.val (.int .i64 len))
    | some (.slice _), .psl _ _ _ len _ => K (.val (.int .i64 len))
    | some (.slice _), .val (.slice _ len _) => K (.val (.int .i64 len))
    | some .string, .val (.string s) => K (.val (.int .i64 s.size))
    | _, _ => False)
  | .cap, [t], [x] => (match tyOf tab t, x with
    | some (.slice _), .val (.slice none 0 0) => K (.val (.int .i64 0))
    | _, _ => False)
  | .max, _, x :: rest => rMax true x rest K
  | .min, _, x :: rest => rMax false x rest K
  | _, _, _ => False

/-- Values that lie in one cell. -/
def AV.cell : AV → Bool
  | .any | .agg _ | .tup _ => false
  | .val v => v.oneCell'
  | _ => true

theorem cell_one {m : Lm} {a : AV} {v : Value} (h : a.cell = true) (hr : Rep m a v) : v.oneCell' = true := by
  cases a <;> simp only [AV.cell, Bool.false_eq_true] at h <;> simp only [Rep] at hr
  case val => subst hr; exact h
  case ref => obtain ⟨_, _, rfl⟩ := hr; rfl
  case sl => obtain ⟨_, _, _, _, rfl, _⟩ := hr; rfl
  case pref => obtain ⟨_, _, _, _, rfl⟩ := hr; rfl
  case psl => obtain ⟨_, _, _, _, _, _, rfl, _⟩ := hr; rfl
  case ifc => obtain ⟨_, rfl, _⟩ := hr; rfl
  case clo => obtain ⟨_, _, rfl, _⟩ := hr; rfl
  case mp => obtain ⟨_, _, rfl⟩ := hr; rfl
  case yl => obtain ⟨_, _, rfl⟩ := hr; rfl

theorem one_cells {v : Value} (h : v.oneCell' = true) : v.cells = #[v] := by cases v <;> simp [Value.oneCell'] at h <;> rfl

/-- The cells of a value. -/
def AV.parts : AV → List AV
  | .agg as => as
  | a => [a]

theorem parts_rep {m : Lm} {a : AV} {v : Value} (h : a.parts.all AV.cell = true) (hr : Rep m a v) : RepL m a.parts v.cells.toList ∧ ∀ u ∈ v.cells.toList, u.oneCell' = true := by
  have one : a.cell = true → a.parts = [a] → RepL m a.parts v.cells.toList ∧ ∀ u ∈ v.cells.toList, u.oneCell' = true := fun h1 h2 => by
    have := cell_one h1 hr
    rw [h2, one_cells this]
    simp only [RepL, and_true]
    exact ⟨hr, by simpa using this⟩
  cases a with
  | agg as =>
    simp only [AV.parts] at h ⊢
    simp only [Rep] at hr
    obtain ⟨xs, rfl, hxs⟩ := hr
    refine ⟨by simpa [Value.cells] using hxs, fun u hu => ?_⟩
    have hu' : u ∈ xs := by simpa [Value.cells] using hu
    obtain ⟨i, hi⟩ := List.mem_iff_getElem?.1 hu'
    have hlt : i < as.length := by rw [hxs.length]; exact (List.getElem?_eq_some_iff.1 hi).1
    obtain ⟨y, hy, hrep⟩ := hxs.get (List.getElem?_eq_getElem hlt)
    rw [hi] at hy
    cases hy
    exact cell_one (List.all_eq_true.1 h _ (List.getElem_mem hlt)) hrep
  | tup _ => simp [AV.parts, AV.cell] at h
  | any => simp [AV.parts, AV.cell] at h
  | _ => exact one (by simpa [AV.parts] using h) rfl

theorem repL_vals {m : Lm} : ∀ (vs : List Value), RepL m (vs.map .val) vs
  | [] => by simp [RepL]
  | v :: vs => by simp only [List.map_cons, RepL, Rep, true_and]; exact repL_vals vs


/-- A struct's cells, with the parts that are told. -/
def fillA (tab : Tab) (fs : List (Nat × TypeId)) : List AV → List (Nat × AV) → Option (List AV)
  | as, [] => some as
  | as, (i, a) :: rest => match fs[i]? with
    | none => none
    | some f => match szOf tab f.2 with
      | none => none
      | some s => if a.parts.all AV.cell = true then (if s = a.parts.length then (if f.1 + a.parts.length ≤ as.length then fillA tab fs (as.take f.1 ++ a.parts ++ as.drop (f.1 + a.parts.length)) rest else none) else none) else none

def rBuild (tab : Tab) (t : TypeId) (parts : List (Nat × AV)) (K : AV → Prop) : Prop :=
  match tab t with
  | some i => (match i.ty with
    | .struct fs => fs.all (fun f => (szOf tab f.2).isSome) = true ∧ (match fillA tab fs (i.zero.map .val) parts with
      | some as => K (.agg as)
      | none => False)
    | _ => False)
  | none => False

theorem foldl_set (v : List Value) : ∀ (k off : Nat) (cells : Array Value), off + k + v.length ≤ cells.size →
    ((v.zipIdx k).foldl (fun cs (x : Value × Nat) => cs.setIfInBounds (off + x.2) x.1) cells).toList = cells.toList.take (off + k) ++ v ++ cells.toList.drop (off + k + v.length) := by
  induction v with
  | nil => intro k off cells _; simp
  | cons x v ih =>
    intro k off cells h
    simp only [List.length_cons] at h
    simp only [List.zipIdx_cons, List.foldl_cons]
    rw [ih (k + 1) off _ (by simp; omega)]
    have hk : off + k < cells.toList.length := by simp; omega
    simp only [Array.toList_setIfInBounds, List.length_cons]
    have e := list_seg_step cells.toList (off + k) x v (by simp; omega)
    rw [show off + (k + 1) = off + k + 1 by omega]
    exact e

theorem repL_take {m : Lm} : ∀ (n : Nat) {as : List AV} {xs : List Value}, RepL m as xs → RepL m (as.take n) (xs.take n)
  | 0, _, _, _ => by simp [RepL]
  | n + 1, [], [], _ => by simp [RepL]
  | n + 1, [], _ :: _, h => by simp [RepL] at h
  | n + 1, _ :: _, [], h => by simp [RepL] at h
  | n + 1, a :: as, x :: xs, h => by simp only [RepL, List.take_succ_cons] at h ⊢; exact ⟨h.1, repL_take n h.2⟩
theorem repL_drop {m : Lm} : ∀ (n : Nat) {as : List AV} {xs : List Value}, RepL m as xs → RepL m (as.drop n) (xs.drop n)
  | 0, _, _, h => by simpa using h
  | n + 1, [], [], _ => by simp [RepL]
  | n + 1, [], _ :: _, h => by simp [RepL] at h
  | n + 1, _ :: _, [], h => by simp [RepL] at h
  | n + 1, a :: as, x :: xs, h => by simp only [RepL] at h; simpa using repL_drop n h.2
theorem repL_append {m : Lm} : ∀ {as bs : List AV} {xs ys : List Value}, RepL m as xs → RepL m bs ys → RepL m (as ++ bs) (xs ++ ys)
  | [], _, [], _, _, h => h
  | [], _, _ :: _, _, h, _ => by simp [RepL] at h
  | _ :: _, _, [], _, h, _ => by simp [RepL] at h
  | a :: as, bs, x :: xs, ys, h, k => by simp only [RepL, List.cons_append] at h ⊢; exact ⟨h.1, repL_append h.2 k⟩

theorem fillA_sound {m : Lm} {tab : Tab} {fs : List (Nat × TypeId)} {pl : Nat → Option (Nat × Nat)} (hpl : ∀ i f s, fs[i]? = some f → szOf tab f.2 = some s → pl i = some (f.1, s)) :
    ∀ (parts : List (Nat × AV)) (vs : List Value) (as : List AV) (cells : Array Value) (as' : List AV), RepL m as cells.toList → RepL m (parts.map (·.2)) vs → fillA tab fs as parts = some as' →
      ∃ cells', Instr.fill pl cells ((parts.map (·.1)).zip vs) = some cells' ∧ RepL m as' cells'.toList
  | [], [], as, cells, as', hc, _, h => by simp only [fillA, Option.some.injEq] at h; subst h; exact ⟨cells, by simp [Instr.fill], hc⟩
  | [], _ :: _, _, _, _, _, h, _ => by simp [RepL] at h
  | _ :: _, [], _, _, _, _, h, _ => by simp [RepL] at h
  | (i, a) :: parts, v :: vs, as, cells, as', hc, hp, h => by
    simp only [List.map_cons, RepL] at hp
    simp only [fillA] at h
    split at h
    · cases h
    · rename_i f hf
      split at h
      · cases h
      · rename_i s hs
        split at h
        · rename_i hcell
          split at h
          · rename_i hlen
            split at h
            · rename_i hle
              obtain ⟨hr, _⟩ := parts_rep hcell hp.1
              have hvl : v.cells.size = a.parts.length := by have := hr.length; simpa using this.symm
              have hcl : cells.size = as.length := by have := hc.length; simpa using this.symm
              have hfold := foldl_set v.cells.toList 0 f.1 cells (by simp; omega)
              simp only [Nat.add_zero] at hfold
              have hz : v.cells.zipIdx.foldl (fun cs (c, j) => cs.setIfInBounds (f.1 + j) c) cells = (v.cells.toList.zipIdx 0).foldl (fun cs (x : Value × Nat) => cs.setIfInBounds (f.1 + x.2) x.1) cells := by
                rw [← Array.foldl_toList]
                simp
              have hnew : RepL m (as.take f.1 ++ a.parts ++ as.drop (f.1 + a.parts.length)) (v.cells.zipIdx.foldl (fun cs (c, j) => cs.setIfInBounds (f.1 + j) c) cells).toList := by
                rw [hz, hfold]
                have : v.cells.toList.length = a.parts.length := by simpa using hvl
                rw [this]
                exact repL_append (repL_append (repL_take _ hc) hr) (repL_drop _ hc)
              obtain ⟨cells', h1, h2⟩ := fillA_sound hpl parts vs _ _ as' hnew hp.2 h
              refine ⟨cells', ?_, h2⟩
              simp only [List.map_cons, List.zip_cons_cons, Instr.fill, hpl i f s hf hs]
              have e1 : ¬ ((decide (v.cells.size ≠ s) || decide (f.1 + v.cells.size > cells.size)) = true) := by simp; omega
              rw [if_neg e1]
              exact h1
            · cases h
          · cases h
        · cases h

theorem run_places {P : Program} {tab : Tab} (ht : TabOk P tab) (w : World) : ∀ (l : List Field), (∀ f ∈ l, (szOf tab f.type).isSome = true) →
    (l.mapM fun f => (do pure (f.offset, ← sizeOf f.type) : Sem (Nat × Nat))).run P w = .ok (l.map fun f => (f.offset, (szOf tab f.type).getD 0)) w
  | [], _ => by simp
  | f :: l, h => by
    have hf := h f (by simp)
    obtain ⟨s, hs⟩ := Option.isSome_iff_exists.1 hf
    obtain ⟨inf, hinf, hsz⟩ := tab_size ht hs
    have ih := run_places ht w l (fun g hg => h g (by simp [hg]))
    rw [List.mapM_cons]
    simp only [Sem.run_bind, sizeOf, typeInfo, run_program, hinf, Result.andThen_ok, Sem.run_pure, hsz, List.map_cons, hs, Option.getD_some]
    simp only [sizeOf, typeInfo] at ih
    rw [ih]
    simp

theorem zip_map_snd (l : List (Nat × Operand)) (ρ : Operand → Value) : ((l.map fun p => (p.1, ρ p.2))) = (l.map (·.1)).zip (l.map fun p => ρ p.2) := by
  induction l with
  | nil => rfl
  | cons x l ih => simp [ih]

theorem rBuild_sound {P : Program} {tab : Tab} (ht : TabOk P tab) {m : Lm} {t : TypeId} {parts : List (Nat × AV)} {vs : List Value} {K : AV → Prop} (hr : rBuild tab t parts K) (hp : RepL m (parts.map (·.2)) vs) :
    ∃ a v, K a ∧ Rep m a v ∧ ∀ w, (Instr.build t ((parts.map (·.1)).zip vs).toArray).run P w = .ok v w := by
  unfold rBuild at hr
  split at hr
  · rename_i i hi
    split at hr
    · rename_i fs hty
      obtain ⟨hall, hr⟩ := hr
      split at hr
      · rename_i as hfill
        obtain ⟨d, inf, z, hd, hf, hinf, _, _, hz, hzc, _⟩ := ht t i hi
        rw [hty] at hf
        obtain ⟨fa, rfl, hfs⟩ := hf
        have hfall : ∀ f ∈ fa.toList, (szOf tab f.type).isSome = true := fun f hf => by
          have := List.all_eq_true.1 hall (f.offset, f.type) (by rw [← hfs]; exact List.mem_map.2 ⟨f, hf, rfl⟩)
          simpa using this
        have hpl : ∀ (i : Nat) (f : Nat × TypeId) (s : Nat), fs[i]? = some f → szOf tab f.2 = some s → (fa.toList.map fun f => (f.offset, (szOf tab f.type).getD 0)).toArray[i]? = some (f.1, s) := fun i f s h1 h2 => by
          rw [← hfs, List.getElem?_map, Option.map_eq_some_iff] at h1
          obtain ⟨g, hg, rfl⟩ := h1
          simp only at h2
          simp only [List.getElem?_toArray, List.getElem?_map, hg, Option.map_some, h2, Option.getD_some]
        obtain ⟨cells', h1, h2⟩ := fillA_sound (m := m) hpl parts vs _ z.cells as (by rw [hzc]; exact repL_vals _) hp hfill
        refine ⟨_, .agg cells', hr, by simp only [Rep]; exact ⟨cells'.toList, by simp, h2⟩, fun w => ?_⟩
        have hm := run_places ht w fa.toList hfall
        have hma : (fa.mapM fun f => (do pure (f.offset, ← sizeOf f.type) : Sem (Nat × Nat))).run P w = .ok (fa.toList.map fun f => (f.offset, (szOf tab f.type).getD 0)).toArray w := by
          rw [Array.mapM_eq_mapM_toList]
          simp only [Sem.run_map, hm]
          rfl
        simp only [Instr.build, Sem.run_bind, zeroValue, typeInfo, run_program, Result.andThen_ok, hinf, hz, Sem.run_pure, run_underlying hd, hma, h1]
      · exact hr.elim
    · exact hr.elim
  · exact hr.elim

/-- What a map of strings holds at a string. -/
def lookS (k : ByteArray) : List MapEntry → Option Value
  | [] => none
  | e :: es => match e.key with
    | .string b => if (k == b) = true then some e.val else lookS k es
    | _ => none
def strKeys (es : List MapEntry) : Bool := es.all fun e => match e.key with | .string _ => true | _ => false
def rLookup (tab : Tab) (h : Nat → Option Ob) (t : TypeId) (x i : AV) (ok : Bool) (K : AV → Prop) : Prop :=
  match tyOf tab t, x, i with
  | some (.map kt et), .mp o, .val (.string k) => ok = true ∧ tyOf tab kt = some .string ∧ ∃ r es c ie, h o = some ⟨r, .raw (.map es c)⟩ ∧ strKeys es.toList = true ∧ tab et = some ie ∧
      K (.tup [(match lookS k es.toList with | some v => .val v | none => .any), .val (.bool (lookS k es.toList).isSome)])
  | _, _, _ => False

/-- Types that are no interfaces. -/
def Ty.conc : Ty → Bool
  | .iface | .other => false
  | _ => true
theorem Ty.conc_not {ty : Ty} {d : TypeDesc} (h : ty.conc = true) (hf : ty.fits d) : ∀ ms, d ≠ .interface ms := by
  intro ms e
  subst e
  cases ty <;> simp [Ty.conc] at h <;> simp [Ty.fits] at hf
def rMkI (tab : Tab) (t : TypeId) (x : AV) (K : AV → Prop) : Prop :=
  match tyOf tab t with
  | some ty => ty.conc = true ∧ K (.ifc t x)
  | none => False
def rAssert (tab : Tab) (t : TypeId) (x : AV) (ok : Bool) (K : AV → Prop) : Prop :=
  match tyOf tab t with
  | some ty => ok = true ∧ ty.conc = true ∧ (match x with
    | .ifc t' a => if t' = t then K (.tup [a, .val (.bool true)]) else K (.tup [.any, .val (.bool false)])
    | .val .nilIface => K (.tup [.any, .val (.bool false)])
    | _ => False)
  | none => False
/-- An interface is compared with nil. -/
def rNilI (tab : Tab) (op : BinOp) (t : TypeId) (x : AV) (K : AV → Prop) : Prop :=
  tyOf tab t = some .iface ∧ (match op, x with
    | .eql, .ifc _ _ => K (.val (.bool false))
    | .neq, .ifc _ _ => K (.val (.bool true))
    | .eql, .val .nilIface => K (.val (.bool true))
    | .neq, .val .nilIface => K (.val (.bool false))
    | _, _ => False)

def rop (tab : Tab) (h : Nat → Option Ob) (ev : Operand → AV) (op : Op) (K : AV → Prop) : Prop :=
  match op with
  | .move x => K (ev x)
  | .assign x => K (ev x)
  | .pick c x y => ∃ b, ev c = .val (.bool b) ∧ (b = true → K (ev x)) ∧ (b = false → K (ev y))
  | .binOp op t x y _ => (match y with
    | .const .nilIface => ev y = .val .nilIface ∧ rNilI tab op t (ev x) K
    | _ => rBin tab op t (ev x) (ev y) K)
  | .unOp op _ x => rUn op (ev x) K
  | .convert s d x => rConv tab s d (ev x) K
  | .nilCheck x => rNil (ev x) K
  | .fieldAddr st x f => rFieldAddr tab st (ev x) f K
  | .field st x f => rField tab st (ev x) f K
  | .indexAddr t x i => rIndexAddr tab t (ev x) (ev i) K
  | .index t x i => rIndex tab t (ev x) (ev i) K
  | .load t x => rLoad tab h t (ev x) K
  | .slice t x lo hi mx => rSlice tab h t (ev x) (lo.map ev) (hi.map ev) (mx.map ev) K
  | .makeFunc fn first caps => K (.clo fn (first.toList.map ev) (caps.toList.map ev))
  | .build t parts => rBuild tab t (parts.toList.map fun p => (p.1, ev p.2)) K
  | .extract x i => rExtract (ev x) i K
  | .lookup t x i ok => rLookup tab h t (ev x) (ev i) ok K
  | .makeInterface t x => rMkI tab t (ev x) K
  | .typeAssert x _ t ok => rAssert tab t (ev x) ok K
  | .call c => match c.callee with
    | .builtin b => rBuiltin tab b c.argTypes.toList (c.args.toList.map ev) K
    | _ => False
  | _ => False

/-- A value that an operation that only reads yields, in this world and in all that it grows into. -/
def Gives (P : Program) (m : Lm) (w : World) (ρ : Operand → Value) (o : Oper) (K : AV → Prop) : Prop :=
  ∃ a v, K a ∧ Rep m a v ∧ ∀ w', Grow w w' → (execOp ρ o).run P w' = .ok (.value v) w'

theorem gives_of {P : Program} {m : Lm} {w : World} {ρ : Operand → Value} {o : Oper} {K : AV → Prop} (S : Sem Value) (hS : execOp ρ o = (do let x ← S; pure (.value x)))
    (h : ∃ a v, K a ∧ Rep m a v ∧ ∀ w', Grow w w' → S.run P w' = .ok v w') : Gives P m w ρ o K := by
  obtain ⟨a, v, hK, hr, hv⟩ := h
  exact ⟨a, v, hK, hr, fun w' hw => by rw [hS]; simp [hv w' hw]⟩


theorem addr_add (b o n : Nat) : (⟨b, o, none⟩ : Addr).add n = ⟨b, o + n, none⟩ := by
  unfold Addr.add
  split
  · next h => simp [h]
  · rfl

theorem run_isAgg_one {P : Program} {t : TypeId} {ty : Ty} {d : TypeDesc} (h : P.underlying t = some d) (hf : ty.fits d) (ho : ty.one = true) (w : World) : (isAgg t).run P w = .ok false w := by
  cases ty <;> simp [Ty.one] at ho <;> simp only [Ty.fits] at hf
  all_goals
    first
    | (subst hf; simp [Go.isAgg, run_underlying h])
    | (obtain ⟨_, _, _, rfl⟩ := hf; simp [Go.isAgg, run_underlying h])
    | (obtain ⟨_, rfl⟩ := hf; simp [Go.isAgg, run_underlying h])

theorem run_isAgg_agg {P : Program} {t : TypeId} {ty : Ty} {d : TypeDesc} (h : P.underlying t = some d) (hf : ty.fits d) (ho : ty.isAgg = true) (w : World) : (isAgg t).run P w = .ok true w := by
  cases ty <;> simp [Ty.isAgg] at ho <;> simp only [Ty.fits] at hf
  · subst hf; simp [Go.isAgg, run_underlying h]
  · obtain ⟨fa, rfl, _⟩ := hf; simp [Go.isAgg, run_underlying h]

theorem cellOf_flat {o : Nat} {c : Cont} {k : Nat} {K : AV → Prop} (h : cellOf o c k K) : ∃ a, (c.flat o)[k]? = some a ∧ K a := by
  cases c with
  | cells as =>
    simp only [cellOf] at h
    split at h
    · rename_i a ha; exact ⟨a, ha, h⟩
    · exact h.elim
  | ints ik xs =>
    obtain ⟨hk, hK⟩ := h
    refine ⟨_, ?_, hK⟩
    simp [Cont.flat, List.getElem?_eq_getElem hk, List.getD_eq_getElem?_getD]
  | strs ss =>
    obtain ⟨hk, hK⟩ := h
    refine ⟨_, ?_, hK⟩
    simp [Cont.flat, List.getElem?_eq_getElem hk, List.getD_eq_getElem?_getD]
  | bools bs =>
    obtain ⟨hk, hK⟩ := h
    refine ⟨_, ?_, hK⟩
    simp [Cont.flat, List.getElem?_eq_getElem hk, List.getD_eq_getElem?_getD]
  | rows ik xss hole =>
    obtain ⟨hk, hh, hK⟩ := h
    refine ⟨_, ?_, hK⟩
    simp [Cont.flat, List.getElem?_eq_getElem hk, List.getD_eq_getElem?_getD, hh]
  | raw b => exact h.elim
  | same o q => exact h.elim

section
variable {P : Program} {tab : Tab} {F : Fr} {W w : World} {m : Lm} {h : Nat → Option Ob} {next : Nat}

theorem rLoad_sound (ht : TabOk P tab) (hs : Sim F W m h next w) {t : TypeId} {x : AV} {vx : Value} {K : AV → Prop} (hr : rLoad tab h t x K) (hx : Rep m x vx) :
    ∃ a v, K a ∧ Rep m a v ∧ ∀ w', Grow w w' → (Instr.loadAt t vx).run P w' = .ok v w' := by
  unfold rLoad at hr
  split at hr
  · exact hr.elim
  · rename_i i hi
    obtain ⟨d, inf, z, hd, hf, hinf, hsz, _⟩ := ht t i hi
    split at hr
    · rename_i hty
      split at hr
      · rename_i o k
        obtain ⟨ob, hob, hlen, hK⟩ := hr
        obtain ⟨l, hl, rfl⟩ := hx
        obtain ⟨l', hl', hok⟩ := hs.obj o ob hob
        have : l' = l := Option.some.inj (hl'.symm.trans hl)
        subst this
        let g : Nat → Value := fun j => (w.cell? ⟨l'.blk, l'.base + (k + j), none⟩).getD undef
        have hg : ∀ j, j < i.size → ∃ a, (ob.cont.flat o)[k + j]? = some a ∧ Rep m a (g j) ∧ ∀ w', Grow w w' → w'.cell? ⟨l'.blk, l'.base + (k + j), none⟩ = some (g j) := fun j hj => by
          have hlt : k + j < (ob.cont.flat o).length := by omega
          obtain ⟨l2, v, hl2, hrep, _, hv⟩ := hs.read hob (List.getElem?_eq_getElem hlt)
          have : l2 = l' := Option.some.inj (hl2.symm.trans hl')
          subst this
          have h0 := hv w (Grow.refl w)
          have hgv : g j = v := by show (w.cell? ⟨l2.blk, l2.base + (k + j), none⟩).getD undef = v; rw [h0]; rfl
          exact ⟨_, List.getElem?_eq_getElem hlt, hgv ▸ hrep, fun w' hw => by rw [hgv]; exact hv w' hw⟩
        refine ⟨_, .agg ((List.range i.size).map g).toArray, hK, ?_, fun w' hw => ?_⟩
        · simp only [Rep]
          refine ⟨_, rfl, RepL.of_get (by simp; omega) fun j a x h1 h2 => ?_⟩
          have hj : j < i.size := by have := (List.getElem?_eq_some_iff.1 h2).1; simpa using this
          simp only [List.getElem?_take, hj, if_true, List.getElem?_drop] at h1
          simp [hj] at h2
          obtain ⟨b, hb, hrep, _⟩ := hg j hj
          rw [hb] at h1
          cases h1
          subst h2
          exact hrep
        · have hc := run_loadCells (P := P) (w := w') ⟨l'.blk, l'.base + k, none⟩ i.size g (fun j hj => by rw [addr_add, Nat.add_assoc]; exact (hg j hj).choose_spec.2.2 w' hw)
          simp [Instr.loadAt, Instr.sureAddr, loadVar, run_isAgg_agg hd hf hty, sizeOf, typeInfo, hinf, hsz, hc]
      · exact hr.elim
    · split at hr
      · rename_i hty
        split at hr
        · rename_i o k
          obtain ⟨ob, hob, hc⟩ := hr
          obtain ⟨a, ha, hK⟩ := cellOf_flat hc
          obtain ⟨l, hl, rfl⟩ := hx
          obtain ⟨l2, v, hl2, hrep, _, hv⟩ := hs.read hob ha
          have : l2 = l := Option.some.inj (hl2.symm.trans hl)
          subst this
          refine ⟨a, v, hK, hrep, fun w' hw => ?_⟩
          simp [Instr.loadAt, Instr.sureAddr, loadVar, run_isAgg_one hd hf hty, hv w' hw]
        · rename_i o j k
          obtain ⟨ob, hob, hc⟩ := hr
          obtain ⟨r, cont⟩ := ob
          cases cont with
          | rows ik xss hole =>
            obtain ⟨h1, h2, h3, hK⟩ := hc
            obtain ⟨l, li, hl, hli, rfl⟩ := hx
            have e1 : xss[j]? = some (xss.getD j []) := by simp [List.getElem?_eq_getElem h1, List.getD_eq_getElem?_getD]
            have e2 : (xss.getD j [])[k]? = some ((xss.getD j []).getD k 0) := by rw [List.getD_eq_getElem?_getD (l := xss.getD j []), List.getElem?_eq_getElem h3]; rfl
            obtain ⟨l2, li2, hl2, hli2, hv⟩ := hs.readIn hob e1 h2 e2
            have : l2 = l := Option.some.inj (hl2.symm.trans hl)
            subst this
            have : li2 = li := Option.some.inj (hli2.symm.trans hli)
            subst this
            refine ⟨_, .int ik ((xss.getD j []).getD k 0), hK, by simp only [Rep], fun w' hw => ?_⟩
            simp [Instr.loadAt, Instr.sureAddr, loadVar, run_isAgg_one hd hf hty, hv w' hw]
          | _ => exact hc.elim
        · exact hr.elim
      · exact hr.elim

theorem len_mul {n : Int} {len : Nat} (h0 : 0 ≤ n) (h1 : n < len) : n.toNat < len := by omega

theorem rIndexAddr_sound (ht : TabOk P tab) {t : TypeId} {x i : AV} {vx vi : Value} {K : AV → Prop} (hr : rIndexAddr tab t x i K) (hx : Rep m x vx) (hi : Rep m i vi) :
    ∃ a v, K a ∧ Rep m a v ∧ ∀ w, (Instr.indexAt t vx vi).run P w = .ok v w := by
  unfold rIndexAddr at hr
  split at hr
  · rename_i e o off len es lim ik n hty
    obtain ⟨s, hs, h0, h1, hK⟩ := hr
    obtain ⟨d, hd, hf⟩ := tab_ty ht hty
    simp only [Ty.fits] at hf
    subst hf
    obtain ⟨inf, hinf, hsz⟩ := tab_size ht hs
    simp only [Rep] at hx hi
    subst hi
    obtain ⟨l, hl, a, c, rfl, hle, hc, _⟩ := hx
    have hc0 : c ≠ 0 := by omega
    rw [hc hc0]
    refine ⟨_, .pointer (some ⟨l.blk, l.base + (off + n.toNat * s), none⟩), hK, by simp only [Rep]; exact ⟨l, hl, rfl⟩, fun w => ?_⟩
    simp [Instr.indexAt, asIntOf, run_underlying hd, sizeOf, typeInfo, hinf, hsz, h0, h1, addr_add, Nat.add_assoc]
  · rename_i e o j off len lim ik n hty
    obtain ⟨hs, h0, h1, hK⟩ := hr
    obtain ⟨d, hd, hf⟩ := tab_ty ht hty
    simp only [Ty.fits] at hf
    subst hf
    obtain ⟨inf, hinf, hsz⟩ := tab_size ht hs
    simp only [Rep] at hx hi
    subst hi
    obtain ⟨l, li, hl, hli, a, c, rfl, hle, hc, _⟩ := hx
    have hc0 : c ≠ 0 := by omega
    rw [hc hc0]
    refine ⟨_, .pointer (some ⟨li.blk, li.base + (off + n.toNat), none⟩), hK, by simp only [Rep]; exact ⟨l, li, hl, hli, rfl⟩, fun w => ?_⟩
    simp [Instr.indexAt, asIntOf, run_underlying hd, sizeOf, typeInfo, hinf, hsz, h0, h1, addr_add, Nat.add_assoc]
  · rename_i len e o k ik n hty
    obtain ⟨s, hs, h0, h1, hK⟩ := hr
    obtain ⟨d, hd, hf⟩ := tab_ty ht hty
    simp only [Ty.fits] at hf
    subst hf
    obtain ⟨inf, hinf, hsz⟩ := tab_size ht hs
    simp only [Rep] at hx hi
    subst hi
    obtain ⟨l, hl, rfl⟩ := hx
    refine ⟨_, .pointer (some ⟨l.blk, l.base + (k + n.toNat * s), none⟩), hK, by simp only [Rep]; exact ⟨l, hl, rfl⟩, fun w => ?_⟩
    simp [Instr.indexAt, Instr.sureAddr, asIntOf, run_underlying hd, sizeOf, typeInfo, hinf, hsz, h0, h1, addr_add, Nat.add_assoc]
  · exact hr.elim

theorem rUn_sound {op : UnOp} {x : AV} {vx : Value} {K : AV → Prop} (hr : rUn op x K) (hx : Rep m x vx) : ∃ a v, K a ∧ Rep m a v ∧ ∀ w, (Op.unary op vx).run P w = .ok v w := by
  unfold rUn at hr
  split at hr
  · simp only [Rep] at hx; subst hx; exact ⟨_, _, hr, by simp only [Rep]; rfl, fun w => by simp [Op.unary]⟩
  · simp only [Rep] at hx; subst hx
    obtain ⟨h1, hK⟩ := hr
    refine ⟨_, _, hK, by simp only [Rep]; rfl, fun w => ?_⟩
    simp only [Op.unary, Op.intArith, wrap_in h1]
    rfl
  · exact hr.elim

theorem rConv_sound (ht : TabOk P tab) {s d : TypeId} {x : AV} {vx : Value} {K : AV → Prop} (hr : rConv tab s d x K) (hx : Rep m x vx) : ∃ a v, K a ∧ Rep m a v ∧ ∀ w, (convert s d vx).run P w = .ok v w := by
  unfold rConv at hr
  split at hr
  · rename_i k k' n hty
    obtain ⟨hs, h1, hK⟩ := hr
    obtain ⟨dd, hd, hf⟩ := tab_ty ht hty
    simp only [Ty.fits] at hf
    subst hf
    obtain ⟨i, hi⟩ := Option.isSome_iff_exists.1 hs
    obtain ⟨ds, _, _, hds, _⟩ := ht s i hi
    simp only [Rep] at hx
    subst hx
    refine ⟨_, .int k n, hK, by simp only [Rep], fun w => ?_⟩
    have : (Conv.intToInt k n).run P w = .ok (.int k n) w := by simp [Conv.intToInt, wrap_in h1]
    simp only [convert, Sem.run_bind, run_underlying hds, run_underlying hd, Result.andThen_ok]
    exact this
  · obtain ⟨u, hu, hK⟩ := hr
    simp only [Rep] at hx
    subst hx
    exact ⟨_, u, hK, by simp only [Rep], fun w => hu P ht w⟩
  · exact hr.elim

theorem rFieldAddr_sound (ht : TabOk P tab) {st : TypeId} {x : AV} {vx : Value} {f : Nat} {K : AV → Prop} (hr : rFieldAddr tab st x f K) (hx : Rep m x vx) :
    ∃ a v, K a ∧ Rep m a v ∧ ∀ w, (Instr.fieldAt st vx f).run P w = .ok v w := by
  unfold rFieldAddr at hr
  split at hr
  · rename_i fs o k hty
    split at hr
    · rename_i p hp
      obtain ⟨d, hd, hf⟩ := tab_ty ht hty
      obtain ⟨fa, rfl, hfs⟩ := hf
      simp only [Rep] at hx
      obtain ⟨l, hl, rfl⟩ := hx
      rw [← hfs] at hp
      simp only [List.getElem?_map, Option.map_eq_some_iff] at hp
      obtain ⟨fl, hfl, rfl⟩ := hp
      have hfl' : fa[f]? = some fl := by simpa using hfl
      obtain ⟨hsz, hK⟩ := hr
      obtain ⟨sz, hsz1, hsz2⟩ := Option.any_eq_true .. |>.1 hsz
      obtain ⟨inf, hinf, hs2⟩ := tab_size ht hsz1
      have hne : ¬ inf.size = 0 := by rw [hs2]; have := of_decide_eq_true hsz2; omega
      refine ⟨_, .pointer (some ⟨l.blk, l.base + (k + fl.offset), none⟩), hK, by simp only [Rep]; exact ⟨l, hl, rfl⟩, fun w => ?_⟩
      simp [Instr.fieldAt, run_underlying hd, hfl', Instr.sureAddr, fieldPlace, addr_add, Nat.add_assoc, sizeOf, typeInfo, hinf, hne]
    · exact hr.elim
  · exact hr.elim

theorem part_sound (ht : TabOk P tab) {t : TypeId} {as : List AV} {xs : List Value} {off : Nat} {K : AV → Prop} (hr : partOf tab t as off K) (hx : RepL m as xs) :
    ∃ a v, K a ∧ Rep m a v ∧ ∀ w, (part t xs.toArray off).run P w = .ok v w := by
  unfold partOf at hr
  split at hr
  · rename_i i hi
    obtain ⟨d, inf, z, hd, hf, hinf, hsz, _⟩ := ht t i hi
    split at hr
    · rename_i hty
      obtain ⟨hlen, hK⟩ := hr
      refine ⟨_, .agg ((xs.drop off).take i.size).toArray, hK, ?_, fun w => ?_⟩
      · simp only [Rep]
        refine ⟨_, rfl, RepL.of_get (by simp [hx.length]) fun j a x h1 h2 => ?_⟩
        simp only [List.getElem?_take, List.getElem?_drop] at h1 h2
        split at h1
        · rename_i hj
          simp only [hj, if_true] at h2
          obtain ⟨y, hy, hrep⟩ := hx.get h1
          rw [hy] at h2; cases h2; exact hrep
        · cases h1
      · simp [part, run_isAgg_agg hd hf hty, sizeOf, typeInfo, hinf, hsz]
    · split at hr
      · rename_i hty
        split at hr
        · rename_i a ha
          obtain ⟨v, hv, hrep⟩ := hx.get ha
          exact ⟨a, v, hr, hrep, fun w => by simp [part, run_isAgg_one hd hf hty, hv]⟩
        · exact hr.elim
      · exact hr.elim
  · exact hr.elim

theorem rField_sound (ht : TabOk P tab) {st : TypeId} {x : AV} {vx : Value} {f : Nat} {K : AV → Prop} (hr : rField tab st x f K) (hx : Rep m x vx) :
    ∃ a v, K a ∧ Rep m a v ∧ ∀ w, (Instr.field st vx f).run P w = .ok v w := by
  unfold rField at hr
  split at hr
  · rename_i fs as hty
    split at hr
    · rename_i p hp
      obtain ⟨d, hd, hf⟩ := tab_ty ht hty
      obtain ⟨fa, rfl, hfs⟩ := hf
      simp only [Rep] at hx
      obtain ⟨xs, rfl, hxs⟩ := hx
      rw [← hfs] at hp
      simp only [List.getElem?_map, Option.map_eq_some_iff] at hp
      obtain ⟨fl, hfl, rfl⟩ := hp
      have hfl' : fa[f]? = some fl := by simpa using hfl
      obtain ⟨a, v, hK, hrep, hv⟩ := part_sound ht hr hxs
      exact ⟨a, v, hK, hrep, fun w => by simp [Instr.field, run_underlying hd, hfl', asAgg, hv]⟩
    · exact hr.elim
  · exact hr.elim

theorem rIndex_sound (ht : TabOk P tab) {t : TypeId} {x i : AV} {vx vi : Value} {K : AV → Prop} (hr : rIndex tab t x i K) (hx : Rep m x vx) (hi : Rep m i vi) :
    ∃ a v, K a ∧ Rep m a v ∧ ∀ w, (Instr.index t vx vi).run P w = .ok v w := by
  unfold rIndex at hr
  split at hr
  · rename_i s ik n hty
    obtain ⟨h0, h1, hK⟩ := hr
    obtain ⟨d, hd, hf⟩ := tab_ty ht hty
    simp only [Ty.fits] at hf
    subst hf
    simp only [Rep] at hx hi
    subst hx hi
    refine ⟨_, .int .u8 (s[n.toNat]'h1).toNat, hK, by simp only [Rep], fun w => ?_⟩
    have : s[n.toNat]? = some (s[n.toNat]'h1) := by simp [h1]
    simp [Instr.index, asIntOf, run_underlying hd, h0, this]
  · exact hr.elim

theorem rExtract_sound {x : AV} {vx : Value} {i : Nat} {K : AV → Prop} (hr : rExtract x i K) (hx : Rep m x vx) : ∃ a v, K a ∧ Rep m a v ∧ ∀ w, (Instr.extract vx i).run P w = .ok v w := by
  unfold rExtract at hr
  split at hr
  · split at hr
    · rename_i as _ a ha
      simp only [Rep] at hx
      obtain ⟨xs, rfl, hxs⟩ := hx
      obtain ⟨v, hv, hrep⟩ := hxs.get ha
      exact ⟨a, v, hr, hrep, fun w => by simp [Instr.extract, hv]⟩
    · exact hr.elim
  · exact hr.elim

theorem run_bound (v : Int) (k : IntKind) (y : Nat) (code : BoundsCode) (h0 : 0 ≤ v) (h1 : v ≤ y) (w : World) : (Instr.sliceBound (.int k v) y code).run P w = .ok v.toNat w := by
  simp [Instr.sliceBound, asIntOf, h0, h1]

theorem rSlice_sound (ht : TabOk P tab) (hsim : Sim F W m h next w) {t : TypeId} {x : AV} {vx : Value} {lo hi mx : Option AV} {vlo vhi vmx : Option Value} {K : AV → Prop} (hr : rSlice tab h t x lo hi mx K) (hx : Rep m x vx)
    (hlo : ∀ a, lo = some a → ∃ v, vlo = some v ∧ Rep m a v) (hlo0 : lo = none → vlo = none) (hhi : ∀ a, hi = some a → ∃ v, vhi = some v ∧ Rep m a v) (hhi0 : hi = none → vhi = none) (hmx0 : mx = none → vmx = none) (hmx : ∀ a, mx = some a → ∃ v, vmx = some v ∧ Rep m a v) :
    ∃ a v, K a ∧ Rep m a v ∧ ∀ w, (Instr.sliceAt t vx vlo vhi vmx).run P w = .ok v w := by
  have hvl' : ∀ l, loOf lo = some l → (vlo = none ∧ l = 0) ∨ ∃ k, vlo = some (.int k l) := fun l hl => by
    unfold loOf at hl
    split at hl
    · cases hl; exact .inl ⟨hlo0 rfl, rfl⟩
    · cases hl
      obtain ⟨v, hv, hrep⟩ := hlo _ rfl
      simp only [Rep] at hrep
      subst hrep
      exact .inr ⟨_, hv⟩
    · cases hl
  unfold rSlice at hr
  split at hr
  rotate_left
  · rename_i mk mm
    obtain ⟨l, hl, hr⟩ := hr
    have hvl := hvl' l hl
    obtain ⟨vm, rfl, hrm⟩ := hmx _ rfl
    simp only [Rep] at hrm
    subst hrm
    unfold rSlice3 at hr
    split at hr
    · rename_i e o off len s lim hk hh hty
      obtain ⟨hs, h0, h1, h2, h3, hK⟩ := hr
      obtain ⟨d, hd, hf⟩ := tab_ty ht hty
      simp only [Ty.fits] at hf
      subst hf
      simp only [Rep] at hx
      obtain ⟨lc, hlc, a, c, rfl, hle, hca, hcap⟩ := hx
      obtain ⟨inf, hinf, hsz⟩ := tab_size ht hs
      obtain ⟨v, rfl, hrep⟩ := hhi _ rfl
      simp only [Rep] at hrep
      subst hrep
      have hcs : off + c * s ≤ lc.capc := by
        cases lim with
        | none => simp only at hcap; omega
        | some k => simp only at hcap; obtain ⟨rfl, hcap⟩ := hcap; exact hcap
      refine ⟨_, .slice (if mm.toNat = l.toNat then a else a.map (·.add (l.toNat * s))) (hh - l).toNat (mm - l).toNat, hK, ?_, fun w => ?_⟩
      · simp only [Rep]
        refine ⟨lc, hlc, _, _, rfl, by omega, fun hne => ?_, rfl, ?_⟩
        · rw [if_neg (by omega), hca (by omega)]
          simp [addr_add, Nat.add_assoc]
        · have e1 : l.toNat * s + (mm - l).toNat * s = mm.toNat * s := by rw [← Nat.add_mul]; congr 1; omega
          have e2 : mm.toNat * s ≤ c * s := Nat.mul_le_mul_right _ (by omega)
          omega
      · have e1 := run_bound (P := P) mm mk c .slice3Acap (by omega) (by omega)
        have e2 := run_bound (P := P) hh hk mm.toNat .slice3B (by omega) (by omega)
        have e3 : hh.toNat - l.toNat = (hh - l).toNat := by omega
        have e4 : mm.toNat - l.toNat = (mm - l).toNat := by omega
        rcases hvl with ⟨rfl, rfl⟩ | ⟨k, rfl⟩
        · simp [Instr.sliceAt, Instr.slice, Instr.sliceBounds, run_underlying hd, sizeOf, typeInfo, hinf, hsz, e1, e2]
        · simp [Instr.sliceAt, Instr.slice, Instr.sliceBounds, run_underlying hd, sizeOf, typeInfo, hinf, hsz, e1, e2, e3, e4, run_bound l k hh.toNat .slice3C h0 (by omega)]
    · exact hr.elim
  · exact hr.elim
  obtain ⟨l, hl, hr⟩ := hr
  have hvl : (vlo = none ∧ l = 0) ∨ ∃ k, vlo = some (.int k l) := by
    unfold loOf at hl
    split at hl
    · cases hl; exact .inl ⟨hlo0 rfl, rfl⟩
    · cases hl
      obtain ⟨v, hv, hrep⟩ := hlo _ rfl
      simp only [Rep] at hrep
      subst hrep
      exact .inr ⟨_, hv⟩
    · cases hl
  rw [hmx0 rfl]
  unfold rSliceL at hr
  split at hr
  · rename_i e o off len s hty
    obtain ⟨d, hd, hf⟩ := tab_ty ht hty
    simp only [Ty.fits] at hf
    subst hf
    simp only [Rep] at hx
    obtain ⟨lc, hlc, a, c, rfl, hle, hca, hcap⟩ := hx
    split at hr
    · obtain ⟨hs, h0, h1, hK⟩ := hr
      obtain ⟨inf, hinf, hsz⟩ := tab_size ht hs
      rw [hhi0 rfl]
      refine ⟨_, .slice (if c = l.toNat then a else a.map (·.add (l.toNat * s))) (len - l.toNat) (c - l.toNat), hK, ?_, fun w => ?_⟩
      · simp only [Rep]
        refine ⟨lc, hlc, _, _, rfl, by omega, fun hne => ?_, ?_⟩
        · rw [if_neg (by omega), hca (by omega)]
          simp [addr_add, Nat.add_assoc]
        · simp only at hcap ⊢
          have : c = l.toNat + (c - l.toNat) := by omega
          rw [← hcap, Nat.add_assoc, ← Nat.add_mul, ← this]
      · rcases hvl with ⟨rfl, rfl⟩ | ⟨k, rfl⟩
        · simp [Instr.sliceAt, Instr.slice, Instr.sliceBounds, run_underlying hd, sizeOf, typeInfo, hinf]
        · simp [Instr.sliceAt, Instr.slice, Instr.sliceBounds, run_underlying hd, sizeOf, typeInfo, hinf, hsz, run_bound l k len .sliceB h0 h1]
    · rename_i ik hh
      obtain ⟨hs, h0, h1, h2, hK⟩ := hr
      obtain ⟨inf, hinf, hsz⟩ := tab_size ht hs
      obtain ⟨v, rfl, hrep⟩ := hhi _ rfl
      simp only [Rep] at hrep
      subst hrep
      refine ⟨_, .slice (if c = l.toNat then a else a.map (·.add (l.toNat * s))) (hh - l).toNat (c - l.toNat), hK, ?_, fun w => ?_⟩
      · simp only [Rep]
        refine ⟨lc, hlc, _, _, rfl, by omega, fun hne => ?_, ?_⟩
        · rw [if_neg (by omega), hca (by omega)]
          simp [addr_add, Nat.add_assoc]
        · simp only at hcap ⊢
          have : c = l.toNat + (c - l.toNat) := by omega
          rw [← hcap, Nat.add_assoc, ← Nat.add_mul, ← this]
      · have e2 := run_bound (P := P) hh ik c .sliceAcap (by omega) (by omega)
        rcases hvl with ⟨rfl, rfl⟩ | ⟨k, rfl⟩
        · simp [Instr.sliceAt, Instr.slice, Instr.sliceBounds, run_underlying hd, sizeOf, typeInfo, hinf, e2]
        · have e3 : hh.toNat - l.toNat = (hh - l).toNat := by omega
          simp [Instr.sliceAt, Instr.slice, Instr.sliceBounds, run_underlying hd, sizeOf, typeInfo, hinf, hsz, e2, e3, run_bound l k hh.toNat .sliceB h0 (by omega)]
    · exact hr.elim
  · rename_i e o off len s k0 hty
    obtain ⟨d, hd, hf⟩ := tab_ty ht hty
    simp only [Ty.fits] at hf
    subst hf
    simp only [Rep] at hx
    obtain ⟨lc, hlc, a, c, rfl, hle, hca, hcap⟩ := hx
    split at hr
    · obtain ⟨hs, h0, h1, hK⟩ := hr
      obtain ⟨inf, hinf, hsz⟩ := tab_size ht hs
      rw [hhi0 rfl]
      refine ⟨_, .slice (if c = l.toNat then a else a.map (·.add (l.toNat * s))) (len - l.toNat) (c - l.toNat), hK, ?_, fun w => ?_⟩
      · simp only [Rep]
        refine ⟨lc, hlc, _, _, rfl, by omega, fun hne => ?_, ?_⟩
        · rw [if_neg (by omega), hca (by omega)]
          simp [addr_add, Nat.add_assoc]
        · simp only at hcap ⊢
          obtain ⟨rfl, hcap⟩ := hcap
          have e0 : l.toNat + (c - l.toNat) = c := by omega
          refine ⟨rfl, ?_⟩
          rw [Nat.add_assoc, ← Nat.add_mul, e0]; exact hcap
      · rcases hvl with ⟨rfl, rfl⟩ | ⟨k, rfl⟩
        · simp [Instr.sliceAt, Instr.slice, Instr.sliceBounds, run_underlying hd, sizeOf, typeInfo, hinf]
        · simp [Instr.sliceAt, Instr.slice, Instr.sliceBounds, run_underlying hd, sizeOf, typeInfo, hinf, hsz, run_bound l k len .sliceB h0 h1]
    · rename_i ik hh
      obtain ⟨hs, h0, h1, h2, hK⟩ := hr
      obtain ⟨inf, hinf, hsz⟩ := tab_size ht hs
      obtain ⟨v, rfl, hrep⟩ := hhi _ rfl
      simp only [Rep] at hrep
      subst hrep
      refine ⟨_, .slice (if c = l.toNat then a else a.map (·.add (l.toNat * s))) (hh - l).toNat (c - l.toNat), hK, ?_, fun w => ?_⟩
      · simp only [Rep]
        refine ⟨lc, hlc, _, _, rfl, by omega, fun hne => ?_, ?_⟩
        · rw [if_neg (by omega), hca (by omega)]
          simp [addr_add, Nat.add_assoc]
        · simp only at hcap ⊢
          obtain ⟨rfl, hcap⟩ := hcap
          have e0 : l.toNat + (c - l.toNat) = c := by omega
          refine ⟨rfl, ?_⟩
          rw [Nat.add_assoc, ← Nat.add_mul, e0]; exact hcap
      · have e2 := run_bound (P := P) hh ik c .sliceAcap (by omega) (by omega)
        rcases hvl with ⟨rfl, rfl⟩ | ⟨k, rfl⟩
        · simp [Instr.sliceAt, Instr.slice, Instr.sliceBounds, run_underlying hd, sizeOf, typeInfo, hinf, e2]
        · have e3 : hh.toNat - l.toNat = (hh - l).toNat := by omega
          simp [Instr.sliceAt, Instr.slice, Instr.sliceBounds, run_underlying hd, sizeOf, typeInfo, hinf, hsz, e2, e3, run_bound l k hh.toNat .sliceB h0 (by omega)]
    · exact hr.elim
  · rename_i e o i off len lim hty
    obtain ⟨d, hd, hf⟩ := tab_ty ht hty
    simp only [Ty.fits] at hf
    subst hf
    simp only [Rep] at hx
    obtain ⟨lc, li, hlc, hli, a, c, rfl, hle, hca, hcap⟩ := hx
    split at hr
    · obtain ⟨hs, h0, h1, rfl, hK⟩ := hr
      obtain ⟨inf, hinf, hsz⟩ := tab_size ht hs
      rw [hhi0 rfl]
      refine ⟨_, .slice (if c = l.toNat then a else a.map (·.add (l.toNat * 1))) (len - l.toNat) (c - l.toNat), hK, ?_, fun w => ?_⟩
      · simp only [Rep]
        refine ⟨lc, li, hlc, hli, _, _, rfl, by omega, fun hne => ?_, ?_⟩
        · rw [if_neg (by omega), hca (by omega)]
          simp [addr_add, Nat.add_assoc]
        · simp only at hcap ⊢
          omega
      · rcases hvl with ⟨rfl, rfl⟩ | ⟨k, rfl⟩
        · simp [Instr.sliceAt, Instr.slice, Instr.sliceBounds, run_underlying hd, sizeOf, typeInfo, hinf]
        · simp [Instr.sliceAt, Instr.slice, Instr.sliceBounds, run_underlying hd, sizeOf, typeInfo, hinf, hsz, run_bound l k len .sliceB h0 h1]
    · rename_i ik hh
      obtain ⟨hs, h0, h1, h2, rfl, hK⟩ := hr
      obtain ⟨inf, hinf, hsz⟩ := tab_size ht hs
      obtain ⟨v, rfl, hrep⟩ := hhi _ rfl
      simp only [Rep] at hrep
      subst hrep
      refine ⟨_, .slice (if c = l.toNat then a else a.map (·.add (l.toNat * 1))) (hh - l).toNat (c - l.toNat), hK, ?_, fun w => ?_⟩
      · simp only [Rep]
        refine ⟨lc, li, hlc, hli, _, _, rfl, by omega, fun hne => ?_, ?_⟩
        · rw [if_neg (by omega), hca (by omega)]
          simp [addr_add, Nat.add_assoc]
        · simp only at hcap ⊢
          omega
      · have e2 := run_bound (P := P) hh ik c .sliceAcap (by omega) (by omega)
        rcases hvl with ⟨rfl, rfl⟩ | ⟨k, rfl⟩
        · simp [Instr.sliceAt, Instr.slice, Instr.sliceBounds, run_underlying hd, sizeOf, typeInfo, hinf, e2]
        · have e3 : hh.toNat - l.toNat = (hh - l).toNat := by omega
          simp [Instr.sliceAt, Instr.slice, Instr.sliceBounds, run_underlying hd, sizeOf, typeInfo, hinf, hsz, e2, e3, run_bound l k hh.toNat .sliceB h0 (by omega)]
    · exact hr.elim
  · rename_i e hty
    obtain ⟨d, hd, hf⟩ := tab_ty ht hty
    simp only [Ty.fits] at hf
    subst hf
    simp only [Rep] at hx
    subst hx
    split at hr
    · obtain ⟨hs, rfl, hK⟩ := hr
      obtain ⟨sz, hs⟩ := Option.isSome_iff_exists.1 hs
      obtain ⟨inf, hinf, hsz⟩ := tab_size ht hs
      rw [hhi0 rfl]
      refine ⟨_, .slice none 0 0, hK, by simp only [Rep], fun w => ?_⟩
      rcases hvl with ⟨rfl, _⟩ | ⟨k, rfl⟩
      · simp [Instr.sliceAt, Instr.slice, Instr.sliceBounds, run_underlying hd, sizeOf, typeInfo, hinf]
      · simp [Instr.sliceAt, Instr.slice, Instr.sliceBounds, run_underlying hd, sizeOf, typeInfo, hinf, hsz, run_bound 0 k 0 .sliceB (by omega) (by omega)]
    · rename_i ik hh
      obtain ⟨hs, rfl, rfl, hK⟩ := hr
      obtain ⟨sz, hs⟩ := Option.isSome_iff_exists.1 hs
      obtain ⟨inf, hinf, hsz⟩ := tab_size ht hs
      obtain ⟨v, rfl, hrep⟩ := hhi _ rfl
      simp only [Rep] at hrep
      subst hrep
      refine ⟨_, .slice none 0 0, hK, by simp only [Rep], fun w => ?_⟩
      have e2 := run_bound (P := P) 0 ik 0 .sliceAcap (by omega) (by omega)
      rcases hvl with ⟨rfl, _⟩ | ⟨k, rfl⟩
      · simp [Instr.sliceAt, Instr.slice, Instr.sliceBounds, run_underlying hd, sizeOf, typeInfo, hinf, e2]
      · simp [Instr.sliceAt, Instr.slice, Instr.sliceBounds, run_underlying hd, sizeOf, typeInfo, hinf, hsz, e2, run_bound 0 k 0 .sliceB (by omega) (by omega)]
    · exact hr.elim
  · rename_i s hty
    obtain ⟨d, hd, hf⟩ := tab_ty ht hty
    simp only [Ty.fits] at hf
    subst hf
    simp only [Rep] at hx
    subst hx
    split at hr
    · obtain ⟨h0, h1, hK⟩ := hr
      rw [hhi0 rfl]
      refine ⟨_, .string (s.extract l.toNat s.size), hK, by simp only [Rep], fun w => ?_⟩
      rcases hvl with ⟨rfl, rfl⟩ | ⟨k, rfl⟩
      · simp [Instr.sliceAt, Instr.slice, Instr.sliceBounds, run_underlying hd]
      · simp [Instr.sliceAt, Instr.slice, Instr.sliceBounds, run_underlying hd, run_bound l k s.size .sliceB h0 h1]
    · rename_i ik hh
      obtain ⟨h0, h1, h2, hK⟩ := hr
      obtain ⟨v, rfl, hrep⟩ := hhi _ rfl
      simp only [Rep] at hrep
      subst hrep
      refine ⟨_, .string (s.extract l.toNat hh.toNat), hK, by simp only [Rep], fun w => ?_⟩
      have e2 := run_bound (P := P) hh ik s.size .sliceAlen (by omega) (by omega)
      rcases hvl with ⟨rfl, rfl⟩ | ⟨k, rfl⟩
      · simp [Instr.sliceAt, Instr.slice, Instr.sliceBounds, run_underlying hd, e2]
      · simp [Instr.sliceAt, Instr.slice, Instr.sliceBounds, run_underlying hd, e2, run_bound l k hh.toNat .sliceB h0 (by omega)]
    · exact hr.elim
  · rename_i n e o k hty
    obtain ⟨d, hd, hf⟩ := tab_ty ht hty
    simp only [Ty.fits] at hf
    subst hf
    simp only [Rep] at hx
    obtain ⟨lc, hlc, rfl⟩ := hx
    split at hr
    · obtain ⟨s, ob, hs, hob, rfl, hn, hlen, hK⟩ := hr
      obtain ⟨inf, hinf, hsz⟩ := tab_size ht hs
      obtain ⟨lc', hlc', hok⟩ := hsim.obj o ob hob
      have : lc' = lc := Option.some.inj (hlc'.symm.trans hlc)
      subst this
      have hl2 := hok.len
      rw [hhi0 rfl]
      refine ⟨_, .slice (some ⟨lc'.blk, lc'.base + k, none⟩) n n, hK, ?_, fun w => ?_⟩
      · simp only [Rep]
        exact ⟨lc', hlc, _, _, rfl, Nat.le_refl _, fun _ => rfl, rfl, by omega⟩
      · have hn0 : ¬ n = 0 := by omega
        rcases hvl with ⟨rfl, _⟩ | ⟨k, rfl⟩
        · simp [Instr.sliceAt, Instr.sureAddr, Instr.sliceBounds, run_underlying hd, sizeOf, typeInfo, hinf, hn0, addr_add]
        · simp [Instr.sliceAt, Instr.sureAddr, Instr.sliceBounds, run_underlying hd, sizeOf, typeInfo, hinf, hn0, addr_add, run_bound 0 k n .sliceB (by omega) (by omega)]
    · exact hr.elim
  · exact hr.elim

theorem rNil_sound {x : AV} {vx : Value} {K : AV → Prop} (hr : rNil x K) (hx : Rep m x vx) {ρ : Operand → Value} {ox : Operand} (hox : ρ ox = vx) {o : Oper} (ho : o.op = .nilCheck ox) :
    ∃ a v, K a ∧ Rep m a v ∧ ∀ w, (execOp ρ o).run P w = .ok (.value v) w := by
  unfold rNil at hr
  split at hr
  all_goals first | exact hr.elim | skip
  · refine ⟨_, vx, hr, hx, fun w => ?_⟩
    simp only [Rep] at hx
    obtain ⟨l, hl, rfl⟩ := hx
    simp [execOp, ho, hox]
  · refine ⟨_, vx, hr, hx, fun w => ?_⟩
    simp only [Rep] at hx
    obtain ⟨l, li, hl, hli, rfl⟩ := hx
    simp [execOp, ho, hox]
  · refine ⟨_, vx, hr, hx, fun w => ?_⟩
    simp only [Rep] at hx
    subst hx
    simp [execOp, ho, hox]
  · refine ⟨_, vx, hr, hx, fun w => ?_⟩
    simp only [Rep] at hx
    obtain ⟨ys, zs, rfl, _⟩ := hx
    simp [execOp, ho, hox]

theorem rMax_sound {mx : Bool} : ∀ {rest : List AV} {xs : List Value} {x : AV} {vx : Value} {K : AV → Prop}, rMax mx x rest K → Rep m x vx → RepL m rest xs →
    ∃ a v, K a ∧ Rep m a v ∧ ∀ w, (xs.foldlM (if mx then Builtin.max2 else Builtin.min2) vx : Sem Value).run P w = .ok v w
  | [], [], x, vx, K, hr, hx, _ => ⟨x, vx, by simpa [rMax] using hr, hx, fun w => by simp⟩
  | [], _ :: _, _, _, _, _, _, hl => by simp [RepL] at hl
  | _ :: _, [], _, _, _, _, _, hl => by simp [RepL] at hl
  | y :: rest, v :: xs, x, vx, K, hr, hx, hl => by
    unfold rMax at hr
    split at hr
    · rename_i h; cases h
    · rename_i k a k' b rest' h
      cases h
      simp only [RepL] at hl
      obtain ⟨hy, hl⟩ := hl
      simp only [Rep] at hx hy
      subst hx hy
      obtain ⟨u, w, hK, hrep, hv⟩ := rMax_sound hr (vx := .int k (if mx then max a b else min a b)) (by simp only [Rep]) hl
      refine ⟨u, w, hK, hrep, fun w' => ?_⟩
      rw [List.foldlM_cons]
      have : ((if mx then Builtin.max2 else Builtin.min2) (.int k a) (.int k' b) : Sem Value) = pure (.int k (if mx then max a b else min a b)) := by
        cases mx
        · simp only [Bool.false_eq_true, if_false, Builtin.min2]; congr 2; split <;> omega
        · simp only [if_true, Builtin.max2]; congr 2; split <;> omega
      rw [this]
      simpa using hv w'
    · exact hr.elim

theorem rBuiltin_sound (ht : TabOk P tab) {b : Builtin} {ts : Array TypeId} {ty : TypeId} {cs : Array Bool} {as : List AV} {xs : List Value} {K : AV → Prop} (hr : rBuiltin tab b ts.toList as K) (hx : RepL m as xs) :
    ∃ a v, K a ∧ Rep m a v ∧ ∀ w, (builtin b ts ty cs xs.toArray).run P w = .ok (.value v) w := by
  unfold rBuiltin at hr
  split at hr
  · rename_i t x hts
    have hts' : ts = #[t] := by apply Array.ext'; simpa using hts
    subst hts'
    cases xs with
    | nil => simp [RepL] at hx
    | cons v xs =>
      cases xs with
      | cons _ _ => simp [RepL] at hx
      | nil =>
        simp only [RepL, and_true] at hx
        split at hr
        · rename_i e o off len es lim hty
          obtain ⟨d, hd, hf⟩ := tab_ty ht hty
          simp only [Ty.fits] at hf
          subst hf
          simp only [Rep] at hx
          obtain ⟨l, hl, a, c, rfl, _⟩ := hx
          exact ⟨_, .int .i64 len, hr, by simp only [Rep], fun w => by simp [builtin, Builtin.len_, run_underlying hd, goInt]⟩
        · rename_i e o j off len lim hty
          obtain ⟨d, hd, hf⟩ := tab_ty ht hty
          simp only [Ty.fits] at hf
          subst hf
          simp only [Rep] at hx
          obtain ⟨l, li, hl, hli, a, c, rfl, _⟩ := hx
          exact ⟨_, .int .i64 len, hr, by simp only [Rep], fun w => by simp [builtin, Builtin.len_, run_underlying hd, goInt]⟩
        · rename_i e a len c hty
          obtain ⟨d, hd, hf⟩ := tab_ty ht hty
          simp only [Ty.fits] at hf
          subst hf
          simp only [Rep] at hx
          subst hx
          exact ⟨_, .int .i64 len, hr, by simp only [Rep], fun w => by simp [builtin, Builtin.len_, run_underlying hd, goInt]⟩
        · rename_i s hty
          obtain ⟨d, hd, hf⟩ := tab_ty ht hty
          simp only [Ty.fits] at hf
          subst hf
          simp only [Rep] at hx
          subst hx
          exact ⟨_, .int .i64 s.size, hr, by simp only [Rep], fun w => by simp [builtin, Builtin.len_, run_underlying hd, goInt]⟩
        · exact hr.elim
  · rename_i t x hts
    have hts' : ts = #[t] := by apply Array.ext'; simpa using hts
    subst hts'
    cases xs with
    | nil => simp [RepL] at hx
    | cons v xs =>
      cases xs with
      | cons _ _ => simp [RepL] at hx
      | nil =>
        simp only [RepL, and_true] at hx
        split at hr
        · rename_i e hty
          obtain ⟨d, hd, hf⟩ := tab_ty ht hty
          simp only [Ty.fits] at hf
          subst hf
          simp only [Rep] at hx
          subst hx
          exact ⟨_, .int .i64 0, hr, by simp only [Rep], fun w => by simp [builtin, Builtin.cap_, run_underlying hd, goInt]⟩
        · exact hr.elim
  · rename_i x rest
    cases xs with
    | nil => simp [RepL] at hx
    | cons v xs =>
      simp only [RepL] at hx
      obtain ⟨a, u, hK, hrep, hv⟩ := rMax_sound (P := P) hr hx.1 hx.2
      refine ⟨a, u, hK, hrep, fun w => ?_⟩
      have := hv w
      simp only [if_true] at this
      simp [builtin, Builtin.max_, this]
  · rename_i x rest
    cases xs with
    | nil => simp [RepL] at hx
    | cons v xs =>
      simp only [RepL] at hx
      obtain ⟨a, u, hK, hrep, hv⟩ := rMax_sound (P := P) hr hx.1 hx.2
      refine ⟨a, u, hK, hrep, fun w => ?_⟩
      have := hv w
      simp only [Bool.false_eq_true, if_false] at this
      simp [builtin, Builtin.min_, this]
  · exact hr.elim

theorem arr_map (ρ : Operand → Value) (A : Array Operand) : A.map ρ = (A.toList.map ρ).toArray := by apply Array.ext'; simp

theorem repL_map {ev : Operand → AV} {ρ : Operand → Value} (he : ∀ x, Rep m (ev x) (ρ x)) : ∀ (l : List Operand), RepL m (l.map ev) (l.map ρ)
  | [] => by simp [RepL]
  | x :: l => by simp only [List.map_cons, RepL]; exact ⟨he x, repL_map he l⟩

/-- What an operation that only reads yields. -/
theorem findNow_str {k : ByteArray} : ∀ {es : List MapEntry} (i : Nat), strKeys es = true → ∃ r, Instr.findNow .string (.string k) es i = some r ∧ r.map (·.2) = lookS k es
  | [], _, _ => ⟨none, rfl, rfl⟩
  | e :: es, i, h => by
    simp only [strKeys, List.all_cons, Bool.and_eq_true] at h
    obtain ⟨h1, h2⟩ := h
    split at h1
    · rename_i b hb
      cases hkb : (k == b) with
      | true => exact ⟨some (i, e.val), by simp only [Instr.findNow, Instr.sameNow, hb, hkb], by simp only [lookS, hb, hkb, if_true, Option.map_some]⟩
      | false =>
        obtain ⟨r, g1, g2⟩ := findNow_str (k := k) (es := es) (i + 1) h2
        exact ⟨r, by simp only [Instr.findNow, Instr.sameNow, hb, hkb]; exact g1, by simp only [lookS, hb, hkb, Bool.false_eq_true, if_false]; exact g2⟩
    · cases h1
theorem run_checkKey_str {P : Program} {t : TypeId} {k : ByteArray} {e : Bool} {n : Nat} (hd : P.underlying t = some .string) (w : World) : (Instr.checkKey e (n + 1) t (.string k)).run P w = .ok () w := by
  simp [Instr.checkKey, run_underlying hd]
theorem getObj_map {P : Program} {w : World} {r : Nat} {es : Array MapEntry} {c : Nat} (hb : w.heap[r]? = some (.map es c)) : (getObj r).run P w = .ok (.map es c) w := by simp [getObj, Sem.run, hb]
theorem setObj_map {P : Program} {w : World} {r : Nat} {es : Array MapEntry} {c : Nat} (o : Obj) (hb : w.heap[r]? = some (.map es c)) : (setObj r o).run P w = .ok () { w with heap := w.heap.setIfInBounds r o } := by simp [setObj, Sem.run, hb]
theorem rLookup_sound (ht : TabOk P tab) (hs : Sim F W m h next w) {t : TypeId} {x i : AV} {vx vi : Value} {ok : Bool} {K : AV → Prop} (hr : rLookup tab h t x i ok K) (hx : Rep m x vx) (hi : Rep m i vi) :
    ∃ a v, K a ∧ Rep m a v ∧ ∀ w', Grow w w' → (Instr.lookup t vx vi ok).run P w' = .ok v w' := by
  unfold rLookup at hr
  split at hr
  · rename_i kt et o k hty
    obtain ⟨rfl, hkt, r0, es, c, ie, hob, hk, hie, hK⟩ := hr
    simp only [Rep] at hx hi
    obtain ⟨l, hl, rfl⟩ := hx
    subst hi
    obtain ⟨l', hl', hok⟩ := hs.obj o _ hob
    have : l' = l := Option.some.inj (hl'.symm.trans hl)
    subst this
    have hcell : w.heap[l'.blk]? = some (.map es c) := hok.cells.2
    have hlt : l'.blk < w.heap.size := (Array.getElem?_eq_some_iff.1 hcell).1
    obtain ⟨d, hd, hf⟩ := tab_ty ht hty
    simp only [Ty.fits] at hf
    subst hf
    obtain ⟨d2, hd2, hf2⟩ := tab_ty ht hkt
    simp only [Ty.fits] at hf2
    subst hf2
    obtain ⟨_, inf, zv, _, _, hinf, _, _, hz, _⟩ := ht et ie hie
    obtain ⟨r, g1, g2⟩ := findNow_str (k := k) 0 hk
    have hck : ∀ w' : World, (Instr.checkKey es.isEmpty 10000 kt (.string k)).run P w' = .ok () w' := fun w' => run_checkKey_str (n := 9999) hd2 w'
    have hfk : ∀ w' : World, (Instr.findKey kt (.string k) es.toList).run P w' = .ok r w' := fun w' => by
      simp only [Instr.findKey, Sem.run_bind, run_underlying hd2, Result.andThen_ok, g1, Sem.run_pure]
    cases r with
    | none =>
      have e : lookS k es.toList = none := by rw [← g2]; rfl
      rw [e] at hK
      refine ⟨_, .tuple #[zv, .bool false], hK, by simp only [Rep]; exact ⟨[zv, .bool false], rfl, by simp [RepL, Rep]⟩, fun w' hw => ?_⟩
      have hb : w'.heap[l'.blk]? = some (.map es c) := by rw [hw.block _ hlt]; exact hcell
      simp [Instr.lookup, run_underlying hd, getObj_map hb, hck, hfk, zeroValue, typeInfo, hinf, hz]
    | some p =>
      have e : lookS k es.toList = some p.2 := by rw [← g2]; rfl
      rw [e] at hK
      refine ⟨_, .tuple #[p.2, .bool true], hK, by simp only [Rep]; exact ⟨[p.2, .bool true], rfl, by simp [RepL, Rep]⟩, fun w' hw => ?_⟩
      have hb : w'.heap[l'.blk]? = some (.map es c) := by rw [hw.block _ hlt]; exact hcell
      simp [Instr.lookup, run_underlying hd, getObj_map hb, hck, hfk]
  · exact hr.elim
theorem rMkI_sound (ht : TabOk P tab) {t : TypeId} {x : AV} {vx : Value} {K : AV → Prop} (hr : rMkI tab t x K) (hx : Rep m x vx) : ∃ a v, K a ∧ Rep m a v ∧ ∀ w, (Instr.makeInterface t vx).run P w = .ok v w := by
  unfold rMkI at hr
  split at hr
  · rename_i ty hty
    obtain ⟨hc, hK⟩ := hr
    obtain ⟨d, hd, hf⟩ := tab_ty ht hty
    have hn := Ty.conc_not hc hf
    refine ⟨_, .iface t vx, hK, by simp only [Rep]; exact ⟨vx, rfl, hx⟩, fun w => ?_⟩
    simp only [Instr.makeInterface, Sem.run_bind, run_underlying hd, Result.andThen_ok]
    cases d <;> first | exact absurd rfl (hn _) | simp
  · exact hr.elim
theorem rAssert_sound (ht : TabOk P tab) {t xt : TypeId} {x : AV} {vx : Value} {ok : Bool} {K : AV → Prop} (hr : rAssert tab t x ok K) (hx : Rep m x vx) : ∃ a v, K a ∧ Rep m a v ∧ ∀ w, (Instr.typeAssert vx xt t ok).run P w = .ok v w := by
  unfold rAssert at hr
  split at hr
  · rename_i ty hty
    obtain ⟨rfl, hc, hr⟩ := hr
    obtain ⟨d, hd, hf⟩ := tab_ty ht hty
    have hn := Ty.conc_not hc hf
    obtain ⟨i, hi⟩ : ∃ i, tab t = some i := by
      unfold tyOf at hty
      split at hty
      · rename_i i hi; exact ⟨i, hi⟩
      · cases hty
    obtain ⟨_, inf, zv, _, _, hinf, _, _, hz, _⟩ := ht t i hi
    have hzero : ∀ w : World, (zeroValue t).run P w = .ok zv w := fun w => by simp [zeroValue, typeInfo, hinf, hz]
    have rep2 : ∀ (a : AV) (v : Value) (b : Bool), Rep m a v → Rep m (.tup [a, .val (.bool b)]) (.tuple #[v, .bool b]) := fun a v b h => by simp only [Rep]; exact ⟨[v, .bool b], rfl, by simp only [RepL, Rep, and_true]; exact h⟩
    split at hr
    · rename_i t' a
      simp only [Rep] at hx
      obtain ⟨y, rfl, hy⟩ := hx
      by_cases e : t' = t
      · rw [if_pos e] at hr
        refine ⟨_, _, hr, rep2 _ y true hy, fun w => ?_⟩
        simp only [Instr.typeAssert, Sem.run_bind, run_underlying hd, Result.andThen_ok]
        cases d <;> first | exact absurd rfl (hn _) | simp [e]
      · rw [if_neg e] at hr
        refine ⟨_, _, hr, rep2 _ zv false (by simp [Rep]), fun w => ?_⟩
        simp only [Instr.typeAssert, Sem.run_bind, run_underlying hd, Result.andThen_ok]
        cases d <;> first | exact absurd rfl (hn _) | simp [e, hzero]
    · simp only [Rep] at hx
      subst hx
      refine ⟨_, _, hr, rep2 _ zv false (by simp [Rep]), fun w => ?_⟩
      simp only [Instr.typeAssert, Sem.run_bind, run_underlying hd, Result.andThen_ok]
      cases d <;> first | exact absurd rfl (hn _) | simp [hzero]
    · exact hr.elim
  · exact hr.elim
theorem run_equalInI {P : Program} {t : TypeId} {ms : Array (String × TypeId)} (h : P.underlying t = some (.interface ms)) (d : Nat) (w : World) : (Op.equalIn (d + 1) t .nilIface .nilIface).run P w = .ok true w ∧ ∀ t' v, (Op.equalIn (d + 1) t (.iface t' v) .nilIface).run P w = .ok false w := by
  constructor
  · simp only [Op.equalIn]
    simp [run_underlying h]
  · intro t' v
    simp only [Op.equalIn]
    simp [run_underlying h]
theorem run_equalI {P : Program} {t : TypeId} {ms : Array (String × TypeId)} (h : P.underlying t = some (.interface ms)) (w : World) : (Op.equal t .nilIface .nilIface).run P w = .ok true w ∧ ∀ t' v, (Op.equal t (.iface t' v) .nilIface).run P w = .ok false w :=
  run_equalInI h 9999 w
theorem rNilI_sound (ht : TabOk P tab) {op : BinOp} {t : TypeId} {x : AV} {ox : Operand} {vx : Value} {K : AV → Prop} (hr : rNilI tab op t x K) (hx : Rep m x vx) :
    ∃ a v, K a ∧ Rep m a v ∧ ∀ w, (do eqGuard op t ox (.const .nilIface) vx .nilIface; binOp op t vx .nilIface : Sem Value).run P w = .ok v w := by
  obtain ⟨hty, hr⟩ := hr
  obtain ⟨d, hd, hf⟩ := tab_ty ht hty
  simp only [Ty.fits] at hf
  obtain ⟨ms, rfl⟩ := hf
  split at hr
  · simp only [Rep] at hx
    obtain ⟨y, rfl, _⟩ := hx
    exact ⟨_, .bool false, hr, by simp only [Rep], fun w => by simp [eqGuard, binOp, (run_equalI hd w).2]⟩
  · simp only [Rep] at hx
    obtain ⟨y, rfl, _⟩ := hx
    exact ⟨_, .bool true, hr, by simp only [Rep], fun w => by simp [eqGuard, binOp, (run_equalI hd w).2]⟩
  · simp only [Rep] at hx
    subst hx
    exact ⟨_, .bool true, hr, by simp only [Rep], fun w => by simp [eqGuard, binOp, (run_equalI hd w).1]⟩
  · simp only [Rep] at hx
    subst hx
    exact ⟨_, .bool false, hr, by simp only [Rep], fun w => by simp [eqGuard, binOp, (run_equalI hd w).1]⟩
  · exact hr.elim
theorem rop_sound (ht : TabOk P tab) (hs : Sim F W m h next w) {ev : Operand → AV} {ρ : Operand → Value} (he : ∀ x, Rep m (ev x) (ρ x)) {o : Oper} {K : AV → Prop} (hr : rop tab h ev o.op K) : Gives P m w ρ o K := by
  unfold rop at hr
  have all : ∀ {S : Sem Value}, execOp ρ o = (do let x ← S; pure (.value x)) → (∃ a v, K a ∧ Rep m a v ∧ ∀ w, S.run P w = .ok v w) → Gives P m w ρ o K :=
    fun hS ⟨a, v, hK, hr, hv⟩ => gives_of _ hS ⟨a, v, hK, hr, fun w' _ => hv w'⟩
  split at hr
  case h_1 x ho => exact ⟨_, ρ x, hr, he x, fun w' _ => by simp [execOp, ho]⟩
  case h_2 x ho => exact ⟨_, ρ x, hr, he x, fun w' _ => by simp [execOp, ho]⟩
  case h_3 c x y ho =>
    obtain ⟨b, hb, h1, h2⟩ := hr
    have hc := he c
    rw [hb] at hc
    simp only [Rep] at hc
    cases b
    · exact ⟨_, ρ y, h2 rfl, he y, fun w' _ => by simp [execOp, ho, hc, asBool]⟩
    · exact ⟨_, ρ x, h1 rfl, he x, fun w' _ => by simp [execOp, ho, hc, asBool]⟩
  case h_4 op t x y yt ho =>
    split at hr
    · obtain ⟨hy, hr⟩ := hr
      have hv := he (.const .nilIface)
      rw [hy] at hv
      simp only [Rep] at hv
      refine all (S := do eqGuard op t x (.const .nilIface) (ρ x) (ρ (.const .nilIface)); binOp op t (ρ x) (ρ (.const .nilIface))) (by simp only [execOp, ho]) ?_
      rw [hv]
      exact rNilI_sound ht hr (he x)
    exact all (S := do eqGuard op t x y (ρ x) (ρ y); binOp op t (ρ x) (ρ y)) (by simp only [execOp, ho]) (rBin_sound ht hr (he x) (he y))
  case h_5 op t x ho => exact all (by simp only [execOp, ho]) (rUn_sound hr (he x))
  case h_6 s d x ho => exact all (by simp only [execOp, ho]) (rConv_sound ht hr (he x))
  case h_7 x ho =>
    obtain ⟨a, v, hK, hrep, hv⟩ := rNil_sound (P := P) hr (he x) rfl ho
    exact ⟨a, v, hK, hrep, fun w' _ => hv w'⟩
  case h_8 st x f ho => exact all (by simp only [execOp, ho]) (rFieldAddr_sound ht hr (he x))
  case h_9 st x f ho => exact all (by simp only [execOp, ho]) (rField_sound ht hr (he x))
  case h_10 t x i ho => exact all (by simp only [execOp, ho]) (rIndexAddr_sound ht hr (he x) (he i))
  case h_11 t x i ho => exact all (by simp only [execOp, ho]) (rIndex_sound ht hr (he x) (he i))
  case h_12 t x ho => exact gives_of _ (by simp only [execOp, ho]) (rLoad_sound ht hs hr (he x))
  case h_13 t x lo hi mx ho =>
    refine all (S := Instr.sliceAt t (ρ x) (lo.map ρ) (hi.map ρ) (mx.map ρ)) (by simp only [execOp, ho]) (rSlice_sound ht hs hr (he x) ?_ ?_ ?_ ?_ ?_ ?_)
    · intro a ha; cases lo with
      | none => cases ha
      | some y => cases ha; exact ⟨_, rfl, he y⟩
    · intro h0; cases lo with
      | none => rfl
      | some y => cases h0
    · intro a ha; cases hi with
      | none => cases ha
      | some y => cases ha; exact ⟨_, rfl, he y⟩
    · intro h0; cases hi with
      | none => rfl
      | some y => cases h0
    · intro h0; cases mx with
      | none => rfl
      | some y => cases h0
    · intro a ha; cases mx with
      | none => cases ha
      | some y => cases ha; exact ⟨_, rfl, he y⟩
  case h_14 fn first caps ho =>
    refine ⟨_, .func fn (first.toList.map ρ).toArray (caps.toList.map ρ).toArray, hr, ?_, fun w' _ => by simp only [execOp, ho, Instr.makeFunc, arr_map]; rfl⟩
    simp only [Rep]
    exact ⟨first.toList.map ρ, caps.toList.map ρ, rfl, repL_map he _, repL_map he _⟩
  case h_15 t parts ho =>
    have hp : RepL m ((parts.toList.map fun p => (p.1, ev p.2)).map (·.2)) (parts.toList.map fun p => ρ p.2) := by
      rw [List.map_map]
      have := repL_map (m := m) he (parts.toList.map (·.2))
      simpa [List.map_map, Function.comp_def] using this
    have e1 : (parts.map fun (i, x) => (i, ρ x)) = (((parts.toList.map fun p => (p.1, ev p.2)).map (·.1)).zip (parts.toList.map fun p => ρ p.2)).toArray := by
      apply Array.ext'
      simp only [Array.toList_map, List.map_map, Function.comp_def]
      exact zip_map_snd _ _
    exact all (S := Instr.build t (((parts.toList.map fun p => (p.1, ev p.2)).map (·.1)).zip (parts.toList.map fun p => ρ p.2)).toArray) (by simp only [execOp, ho]; rw [e1]) (rBuild_sound ht hr hp)
  case h_16 x i ho => exact all (by simp only [execOp, ho]) (rExtract_sound hr (he x))
  case h_17 t x i ok ho => exact gives_of _ (by simp only [execOp, ho]) (rLookup_sound ht hs hr (he x) (he i))
  case h_18 t x ho => exact all (by simp only [execOp, ho]) (rMkI_sound ht hr (he x))
  case h_19 x xt t ok ho => exact all (S := Instr.typeAssert (ρ x) xt t ok) (by simp only [execOp, ho]) (rAssert_sound ht hr (he x))
  case h_20 c ho =>
    split at hr
    · rename_i b hb
      obtain ⟨a, v, hK, hrep, hv⟩ := rBuiltin_sound (P := P) (ty := o.type) (cs := c.args.map fun | .const _ => true | _ => false) ht hr (repL_map he c.args.toList)
      refine ⟨a, v, hK, hrep, fun w' _ => ?_⟩
      have := hv w'
      simp only [← arr_map] at this
      simp only [execOp, ho, resolve, hb]
      simp only [pure_bind, invoke]
      exact this
    · exact hr.elim
  case h_21 => exact hr.elim
end
end Go.Ab
