/- An abstract state for the program's memory: rows of numbers, of texts, of rows of numbers, and cells; what it says of a world; how a world may change under it. Plain lemmas over the model, for every program. -/
import Derived.Below
import Derived.Calls
import Derived.Laws.Append
import Derived.Laws.AppendOwn
import Derived.Laws.MakeOwn
import Derived.Laws.CopyRow
import Derived.Laws.Rows
import Derived.Laws.Entries
import Derived.Laws.Tables
import Derived.Deep.Quiet
import Derived.KernelRfl
namespace Go.Ab
set_option linter.all false
open Go Go.RowKit

inductive AV where
  | any
  | val (v : Value)
  | ref (o k : Nat)
  | sl (o off len es : Nat) (lim : Option Nat)
  | pref (o i k : Nat)
  | psl (o i off len : Nat) (lim : Option Nat)
  | agg (as : List AV)
  | tup (as : List AV)
  | ifc (t : TypeId) (a : AV)
  | clo (f : Fn) (first caps : List AV)
  | mp (o : Nat)
  | yl (o : Nat)
  deriving Inhabited

inductive Cont where
  | cells (as : List AV)
  | ints (k : IntKind) (xs : List Int)
  | strs (ss : List ByteArray)
  | bools (bs : List Bool)
  | rows (k : IntKind) (xss : List (List Int)) (hole : Option Nat)
  | raw (b : Obj)
  | same (o q : Nat)

structure Ob where
  rw : Bool
  cont : Cont

structure In where
  blk : Nat
  base : Nat
  capc : Nat

structure Loc where
  blk : Nat
  base : Nat
  capc : Nat
  inner : List In

abbrev Lm := Nat → Option Loc

def SlRep (blk base capc es off len : Nat) (lim : Option Nat) (x : Value) : Prop :=
  ∃ a c, x = .slice a len c ∧ len ≤ c ∧ (c ≠ 0 → a = some ⟨blk, base + off, none⟩) ∧
    match lim with
    | none => off + c * es = capc
    | some k => c = k ∧ off + k * es ≤ capc

mutual
def Rep (m : Lm) : AV → Value → Prop
  | .any, _ => True
  | .val v, x => x = v
  | .ref o k, x => ∃ l, m o = some l ∧ x = .pointer (some ⟨l.blk, l.base + k, none⟩)
  | .sl o off len es lim, x => ∃ l, m o = some l ∧ SlRep l.blk l.base l.capc es off len lim x
  | .pref o i k, x => ∃ l li, m o = some l ∧ l.inner[i]? = some li ∧ x = .pointer (some ⟨li.blk, li.base + k, none⟩)
  | .psl o i off len lim, x => ∃ l li, m o = some l ∧ l.inner[i]? = some li ∧ SlRep li.blk li.base li.capc 1 off len lim x
  | .agg as, x => ∃ xs : List Value, x = .agg xs.toArray ∧ RepL m as xs
  | .tup as, x => ∃ xs : List Value, x = .tuple xs.toArray ∧ RepL m as xs
  | .ifc t a, x => ∃ y, x = .iface t y ∧ Rep m a y
  | .clo f first caps, x => ∃ ys zs : List Value, x = .func f ys.toArray zs.toArray ∧ RepL m first ys ∧ RepL m caps zs
  | .mp o, x => ∃ l, m o = some l ∧ x = .map (some l.blk)
  | .yl o, x => ∃ l, m o = some l ∧ x = .func (.yield l.blk) #[] #[]
def RepL (m : Lm) : List AV → List Value → Prop
  | [], [] => True
  | a :: as, x :: xs => Rep m a x ∧ RepL m as xs
  | _, _ => False
end

mutual
theorem Rep.mono {m m' : Lm} (h : ∀ o l, m o = some l → m' o = some l) : ∀ (a : AV) (x : Value), Rep m a x → Rep m' a x
  | .any, _, _ => by simp [Rep]
  | .val _, _, hr => by simpa [Rep] using hr
  | .ref _ _, _, hr => by simp only [Rep] at hr ⊢; obtain ⟨l, h1, h2⟩ := hr; exact ⟨l, h _ _ h1, h2⟩
  | .sl _ _ _ _ _, _, hr => by simp only [Rep] at hr ⊢; obtain ⟨l, h1, h2⟩ := hr; exact ⟨l, h _ _ h1, h2⟩
  | .pref _ _ _, _, hr => by simp only [Rep] at hr ⊢; obtain ⟨l, li, h1, h2⟩ := hr; exact ⟨l, li, h _ _ h1, h2⟩
  | .psl _ _ _ _ _, _, hr => by simp only [Rep] at hr ⊢; obtain ⟨l, li, h1, h2⟩ := hr; exact ⟨l, li, h _ _ h1, h2⟩
  | .agg as, _, hr => by simp only [Rep] at hr ⊢; obtain ⟨xs, h1, h2⟩ := hr; exact ⟨xs, h1, RepL.mono h as xs h2⟩
  | .tup as, _, hr => by simp only [Rep] at hr ⊢; obtain ⟨xs, h1, h2⟩ := hr; exact ⟨xs, h1, RepL.mono h as xs h2⟩
  | .ifc _ a, _, hr => by simp only [Rep] at hr ⊢; obtain ⟨y, h1, h2⟩ := hr; exact ⟨y, h1, Rep.mono h a y h2⟩
  | .clo _ fs cs, _, hr => by simp only [Rep] at hr ⊢; obtain ⟨ys, zs, h1, h2, h3⟩ := hr; exact ⟨ys, zs, h1, RepL.mono h fs ys h2, RepL.mono h cs zs h3⟩
  | .mp _, _, hr => by simp only [Rep] at hr ⊢; obtain ⟨l, h1, h2⟩ := hr; exact ⟨l, h _ _ h1, h2⟩
  | .yl _, _, hr => by simp only [Rep] at hr ⊢; obtain ⟨l, h1, h2⟩ := hr; exact ⟨l, h _ _ h1, h2⟩
theorem RepL.mono {m m' : Lm} (h : ∀ o l, m o = some l → m' o = some l) : ∀ (as : List AV) (xs : List Value), RepL m as xs → RepL m' as xs
  | [], [], _ => by simp [RepL]
  | [], _ :: _, hr => by simp [RepL] at hr
  | _ :: _, [], hr => by simp [RepL] at hr
  | a :: as, x :: xs, hr => by simp only [RepL] at hr ⊢; exact ⟨Rep.mono h a x hr.1, RepL.mono h as xs hr.2⟩
end

theorem RepL.length {m : Lm} : ∀ {as : List AV} {xs : List Value}, RepL m as xs → as.length = xs.length
  | [], [], _ => rfl
  | [], _ :: _, hr => by simp [RepL] at hr
  | _ :: _, [], hr => by simp [RepL] at hr
  | _ :: as, _ :: xs, hr => by simp only [RepL] at hr; simp [RepL.length hr.2]

theorem RepL.get {m : Lm} : ∀ {as : List AV} {xs : List Value}, RepL m as xs → ∀ {i : Nat} {a : AV}, as[i]? = some a → ∃ x, xs[i]? = some x ∧ Rep m a x
  | [], [], _, i, a, h => by simp at h
  | [], _ :: _, hr, _, _, _ => by simp [RepL] at hr
  | _ :: _, [], hr, _, _, _ => by simp [RepL] at hr
  | a :: as, x :: xs, hr, 0, b, h => by simp only [RepL] at hr; simp at h; subst h; exact ⟨x, rfl, hr.1⟩
  | a :: as, x :: xs, hr, i + 1, b, h => by simp only [RepL] at hr; simp at h; simpa using RepL.get hr.2 h

theorem RepL.of_get {m : Lm} : ∀ {as : List AV} {xs : List Value}, as.length = xs.length → (∀ (i : Nat) (a : AV) (x : Value), as[i]? = some a → xs[i]? = some x → Rep m a x) → RepL m as xs
  | [], [], _, _ => by simp [RepL]
  | [], _ :: _, h, _ => by simp at h
  | _ :: _, [], h, _ => by simp at h
  | a :: as, x :: xs, hl, h => by
    simp only [RepL]
    exact ⟨h 0 a x rfl rfl, RepL.of_get (by simpa using hl) fun i b y h1 h2 => h (i + 1) b y (by simpa using h1) (by simpa using h2)⟩

/-- The cells of a content, one abstract value each. -/
def Cont.flat (o : Nat) : Cont → List AV
  | .cells as => as
  | .ints k xs => xs.map fun n => .val (.int k n)
  | .strs ss => ss.map fun s => .val (.string s)
  | .bools bs => bs.map fun b => .val (.bool b)
  | .rows _ xss hole => xss.zipIdx.map fun p => if hole = some p.2 then .any else .psl o p.2 0 p.1.length none
  | .raw _ => []
  | .same _ _ => []

/-- The blocks that an object lies in. -/
def blks (l : Loc) (c : Cont) : List Nat :=
  (if l.capc = 0 then [] else [l.blk]) ++
  match c with
  | .rows _ _ hole => l.inner.zipIdx.filterMap fun p => if p.1.capc = 0 ∨ hole = some p.2 then none else some p.1.blk
  | .raw _ => [l.blk]
  | _ => []

/-- Which blocks may be written; which ones bear what is told and are nobody's (deferred calls' blocks, the record of a loop whose round runs). -/
structure Fr where
  f : Nat → Prop
  p : List (Nat × Obj)
instance : CoeFun Fr (fun _ => Nat → Prop) := ⟨Fr.f⟩
def Fr.pb (F : Fr) (k : Nat) : Prop := ∃ o, (k, o) ∈ F.p

structure Below' (F : Fr) (W w : World) : Prop where
  os : w.os = W.os
  tape : w.tape = W.tape
  output : w.output = W.output
  size : W.heap.size ≤ w.heap.size
  block : ∀ k, k < W.heap.size → ¬ F k → w.heap[k]? = W.heap[k]?

/-- What an object's cells hold in a world. -/
def CellsAt (w : World) (m : Lm) (o : Nat) (l : Loc) (c : Cont) : Prop :=
  (∀ i a, (c.flat o)[i]? = some a → ∃ v, w.cell? ⟨l.blk, l.base + i, none⟩ = some v ∧ v.oneCell' = true ∧ Rep m a v) ∧
  match c with
  | .rows k xss hole => ∀ i xs, xss[i]? = some xs → hole ≠ some i → ∃ li, l.inner[i]? = some li ∧ xs.length ≤ li.capc ∧
      ∀ j n, xs[j]? = some n → w.cell? ⟨li.blk, li.base + j, none⟩ = some (.int k n)
  | .raw b => w.heap[l.blk]? = some b
  | .same o q => ∃ l1 l2, m o = some l1 ∧ m q = some l2 ∧ l1.blk = l2.blk ∧ l1.base = l2.base ∧ l1.capc = l2.capc
  | _ => True

/-- An object may be written: its blocks are rows of cells that are no string's. -/
def Open (w : World) (l : Loc) (c : Cont) : Prop :=
  l.base = 0 ∧ (l.capc ≠ 0 → ∃ cur e, w.heap[l.blk]? = some (.cells cur e (0, 0)) ∧ cur.size = l.capc) ∧
  match c with
  | .rows _ xss hole => ∀ i li, l.inner[i]? = some li → i < xss.length → hole ≠ some i → li.base = 0 ∧ (li.capc ≠ 0 → ∃ cur e, w.heap[li.blk]? = some (.cells cur e (0, 0)) ∧ cur.size = li.capc)
  | _ => True

structure ObjOk (F : Fr) (W w : World) (m : Lm) (o : Nat) (l : Loc) (ob : Ob) : Prop where
  len : (ob.cont.flat o).length ≤ l.capc
  cells : CellsAt w m o l ob.cont
  lt : ∀ k ∈ blks l ob.cont, k < w.heap.size
  nodup : ob.rw = true → (blks l ob.cont).Nodup
  opn : ob.rw = true → Open w l ob.cont
  mine : ob.rw = true → ∀ k ∈ blks l ob.cont, F k ∨ W.heap.size ≤ k
  ro : ob.rw = false → ∀ k ∈ blks l ob.cont, k < W.heap.size ∧ ¬ F k
  np : ∀ k ∈ blks l ob.cont, ¬ F.pb k

structure Sim (F : Fr) (W : World) (m : Lm) (h : Nat → Option Ob) (next : Nat) (w : World) : Prop where
  kept : Below' F W w
  obj : ∀ o ob, h o = some ob → ∃ l, m o = some l ∧ ObjOk F W w m o l ob
  sep : ∀ o ob o' ob' l l' k, o ≠ o' → h o = some ob → h o' = some ob' → ob.rw = true → ob'.rw = true → m o = some l → m o' = some l' → k ∈ blks l ob.cont → k ∉ blks l' ob'.cont
  fresh : ∀ o, next ≤ o → m o = none
  prot : ∀ b o, (b, o) ∈ F.p → w.heap[b]? = some o
  pnd : (F.p.map (·.1)).Nodup

theorem flat_rows_len {o : Nat} {k : IntKind} {xss : List (List Int)} {hole : Option Nat} : ((Cont.rows k xss hole).flat o).length = xss.length := by simp [Cont.flat]

theorem blk_mem {l : Loc} {c : Cont} (h : l.capc ≠ 0) : l.blk ∈ blks l c := by simp [blks, h]

theorem inner_mem {l : Loc} {k : IntKind} {xss : List (List Int)} {hole : Option Nat} {i : Nat} {li : In} (hi : l.inner[i]? = some li) (hc : li.capc ≠ 0) (hh : hole ≠ some i) : li.blk ∈ blks l (.rows k xss hole) := by
  simp only [blks]
  apply List.mem_append_right
  simp only [List.mem_filterMap]
  exact ⟨(li, i), by simp [List.mem_zipIdx_iff_getElem?, hi], by simp [hc, hh]⟩

/-- What an object is in a world hangs on its blocks alone. -/
theorem CellsAt.local {w w' : World} {m : Lm} {o : Nat} {l : Loc} {c : Cont} (hlen : (c.flat o).length ≤ l.capc) (h : CellsAt w m o l c) (hk : ∀ k ∈ blks l c, w'.heap[k]? = w.heap[k]?) : CellsAt w' m o l c := by
  obtain ⟨h1, h2⟩ := h
  refine ⟨fun i a hi => ?_, ?_⟩
  · obtain ⟨v, hv, hr⟩ := h1 i a hi
    have hlt : i < (c.flat o).length := (List.getElem?_eq_some_iff.1 hi).1
    refine ⟨v, ?_, hr⟩
    rw [World.cell?_of_block (w := w)]
    · exact hv
    · exact hk _ (blk_mem (by omega))
  · cases c with
    | rows k xss hole =>
      intro i xs hx hh
      obtain ⟨li, hli, hl, hj⟩ := h2 i xs hx hh
      refine ⟨li, hli, hl, fun j n hn => ?_⟩
      have hlt : j < xs.length := (List.getElem?_eq_some_iff.1 hn).1
      rw [World.cell?_of_block (w := w)]
      · exact hj j n hn
      · exact hk _ (inner_mem hli (by omega) hh)
    | raw b => exact (hk _ (by simp [blks])).trans h2
    | same o q => exact h2
    | _ => trivial

theorem Open.local {w w' : World} {l : Loc} {c : Cont} (h : Open w l c) (hk : ∀ k ∈ blks l c, w'.heap[k]? = w.heap[k]?) : Open w' l c := by
  obtain ⟨h0, h1, h2⟩ := h
  refine ⟨h0, fun hc => ?_, ?_⟩
  · rw [hk _ (blk_mem hc)]; exact h1 hc
  · cases c with
    | rows k xss hole =>
      intro i li hli hi hh
      obtain ⟨a, b⟩ := h2 i li hli hi hh
      exact ⟨a, fun hc => by rw [hk _ (inner_mem hli hc hh)]; exact b hc⟩
    | _ => trivial

theorem CellsAt.mono {w : World} {m m' : Lm} {o : Nat} {l : Loc} {c : Cont} (hm : ∀ o l, m o = some l → m' o = some l) (h : CellsAt w m o l c) : CellsAt w m' o l c := by
  obtain ⟨h1, h2⟩ := h
  refine ⟨fun i a hi => ?_, ?_⟩
  · obtain ⟨v, hv, h1, hr⟩ := h1 i a hi
    exact ⟨v, hv, h1, hr.mono hm⟩
  · cases c with
    | same o q => obtain ⟨l1, l2, e1, e2, e3⟩ := h2; exact ⟨l1, l2, hm _ _ e1, hm _ _ e2, e3⟩
    | _ => exact h2

theorem ObjOk.local {F : Fr} {W w w' : World} {m m' : Lm} {o : Nat} {l : Loc} {ob : Ob} (h : ObjOk F W w m o l ob) (hm : ∀ o l, m o = some l → m' o = some l) (hsz : w.heap.size ≤ w'.heap.size)
    (hk : ∀ k ∈ blks l ob.cont, w'.heap[k]? = w.heap[k]?) : ObjOk F W w' m' o l ob :=
  ⟨h.len, (h.cells.local h.len hk).mono hm, fun k hkk => Nat.lt_of_lt_of_le (h.lt k hkk) hsz, h.nodup, fun hr => (h.opn hr).local hk, h.mine, h.ro, h.np⟩

def upd {α : Type} (f : Nat → α) (i : Nat) (x : α) (j : Nat) : α := if j = i then x else f j
@[simp] theorem upd_same {α : Type} (f : Nat → α) (i : Nat) (x : α) : upd f i x i = x := by simp [upd]
theorem upd_ne {α : Type} (f : Nat → α) {i j : Nat} (x : α) (h : j ≠ i) : upd f i x j = f j := by simp [upd, h]

theorem Sim.prot_lt {F : Fr} {W w : World} {m : Lm} {h : Nat → Option Ob} {next : Nat} (hs : Sim F W m h next w) {b : Nat} {o : Obj} (hb : (b, o) ∈ F.p) : b < w.heap.size :=
  (Array.getElem?_eq_some_iff.1 (hs.prot b o hb)).1

/-- The world grows, and nothing that was there turns. -/
theorem Sim.grow {F : Fr} {W w w' : World} {m : Lm} {h : Nat → Option Ob} {next : Nat} (hs : Sim F W m h next w) (hb : Below w.heap.size w w') : Sim F W m h next w' := by
  refine ⟨⟨hb.os.trans hs.kept.os, hb.tape.trans hs.kept.tape, hb.output.trans hs.kept.output, Nat.le_trans hs.kept.size hb.size, fun k hk hf => ?_⟩, fun o ob ho => ?_, hs.sep, hs.fresh, fun b o h => (hb.block b (hs.prot_lt h)).trans (hs.prot b o h), hs.pnd⟩
  · rw [hb.block k (Nat.lt_of_lt_of_le hk hs.kept.size)]; exact hs.kept.block k hk hf
  · obtain ⟨l, hl, hok⟩ := hs.obj o ob ho
    exact ⟨l, hl, hok.local (fun _ _ h => h) hb.size fun k hk => hb.block k (hok.lt k hk)⟩

/-- Objects are forgotten. -/
theorem Sim.drop {F : Fr} {W w : World} {m : Lm} {h h' : Nat → Option Ob} {next : Nat} (hs : Sim F W m h next w) (hh : ∀ o ob, h' o = some ob → h o = some ob) : Sim F W m h' next w :=
  ⟨hs.kept, fun o ob ho => hs.obj o ob (hh o ob ho), fun o ob o' ob' l l' k hne ho ho' => hs.sep o ob o' ob' l l' k hne (hh _ _ ho) (hh _ _ ho'), hs.fresh, hs.prot, hs.pnd⟩

/-- A new object, in blocks that are new or those of an object that goes (D). -/
theorem Sim.add {F : Fr} {W w w' : World} {m : Lm} {h : Nat → Option Ob} {next : Nat} (hs : Sim F W m h next w) (D : List Nat)
    (hos : w'.os = w.os) (htape : w'.tape = w.tape) (hout : w'.output = w.output) (hsz : w.heap.size ≤ w'.heap.size)
    (hblk : ∀ k, k < w.heap.size → k ∉ D → w'.heap[k]? = w.heap[k]?)
    (hD : ∀ k ∈ D, (F k ∨ W.heap.size ≤ k) ∧ ¬ F.pb k)
    (hfar : ∀ o ob l, h o = some ob → m o = some l → ∀ k ∈ blks l ob.cont, k ∉ D)
    (l : Loc) (ob : Ob) (hrw : ob.rw = true) (hin : ∀ k ∈ blks l ob.cont, (k ∈ D ∨ w.heap.size ≤ k)) (hnd : (blks l ob.cont).Nodup)
    (hlt : ∀ k ∈ blks l ob.cont, k < w'.heap.size) (hlen : (ob.cont.flat next).length ≤ l.capc)
    (hcells : CellsAt w' (upd m next (some l)) next l ob.cont) (hopn : Open w' l ob.cont) :
    Sim F W (upd m next (some l)) (upd h next (some ob)) (next + 1) w' := by
  have hm : ∀ o l', m o = some l' → upd m next (some l) o = some l' := fun o l' ho => by
    by_cases e : o = next
    · subst e; rw [hs.fresh o (Nat.le_refl _)] at ho; cases ho
    · rw [upd_ne _ _ e]; exact ho
  have hlt' : ∀ o ob', h o = some ob' → o ≠ next := fun o ob' ho e => by
    subst e
    obtain ⟨l', hl', _⟩ := hs.obj o ob' ho
    rw [hs.fresh o (Nat.le_refl _)] at hl'; cases hl'
  have hnew : ∀ o ob' l', h o = some ob' → ob'.rw = true → m o = some l' → ∀ k ∈ blks l' ob'.cont, k ∉ blks l ob.cont := fun o ob' l' ho hr hl' k hk hk' => by
    rcases hin k hk' with hd | hge
    · exact hfar o ob' l' ho hl' k hk hd
    · obtain ⟨l2, hl2, hok⟩ := hs.obj o ob' ho
      have : l2 = l' := Option.some.inj (hl2.symm.trans hl')
      subst this
      have := hok.lt k hk
      omega
  refine ⟨⟨hos.trans hs.kept.os, htape.trans hs.kept.tape, hout.trans hs.kept.output, Nat.le_trans hs.kept.size hsz, fun k hk hf => ?_⟩, fun o ob' ho => ?_, ?_, fun o ho => ?_, fun b ob hb => (hblk b (hs.prot_lt hb) fun hd => (hD b hd).2 ⟨ob, hb⟩).trans (hs.prot b ob hb), hs.pnd⟩
  · rw [hblk k (Nat.lt_of_lt_of_le hk hs.kept.size) (fun hd => by rcases (hD k hd).1 with h1 | h1; exact hf h1; omega)]
    exact hs.kept.block k hk hf
  · by_cases e : o = next
    · subst e
      rw [upd_same] at ho
      cases ho
      refine ⟨l, by simp, hlen, hcells, hlt, fun _ => hnd, fun _ => hopn, fun _ k hk => ?_, fun hr => (by rw [hrw] at hr; cases hr), fun k hk => ?_⟩
      · rcases hin k hk with hd | hge
        · exact (hD k hd).1
        · exact .inr (Nat.le_trans hs.kept.size hge)
      · rcases hin k hk with hd | hge
        · exact (hD k hd).2
        · rintro ⟨o', ho'⟩; have := hs.prot_lt ho'; omega
    · rw [upd_ne _ _ e] at ho
      obtain ⟨l', hl', hok⟩ := hs.obj o ob' ho
      exact ⟨l', hm _ _ hl', hok.local hm hsz fun k hk => hblk k (hok.lt k hk) (hfar o ob' l' ho hl' k hk)⟩
  · intro o ob1 o' ob2 l1 l2 k hne ho ho' hr1 hr2 hl1 hl2 hk
    by_cases e : o = next
    · subst e
      rw [upd_same] at ho hl1
      cases ho; cases hl1
      rw [upd_ne _ _ (Ne.symm hne)] at ho' hl2
      exact fun hk2 => hnew o' ob2 l2 ho' hr2 hl2 k hk2 hk
    · rw [upd_ne _ _ e] at ho hl1
      by_cases e' : o' = next
      · subst e'
        rw [upd_same] at ho' hl2
        cases ho'; cases hl2
        exact hnew o ob1 l1 ho hr1 hl1 k hk
      · rw [upd_ne _ _ e'] at ho' hl2
        exact hs.sep o ob1 o' ob2 l1 l2 k hne ho ho' hr1 hr2 hl1 hl2 hk
  · rw [upd_ne _ _ (by omega)]
    exact hs.fresh o (by omega)

/-- An object is written in place. -/
theorem Sim.write {F : Fr} {W w w' : World} {m : Lm} {h : Nat → Option Ob} {next : Nat} (hs : Sim F W m h next w) {o : Nat} {ob ob' : Ob} {l : Loc}
    (ho : h o = some ob) (hrw : ob.rw = true) (hrw' : ob'.rw = true) (hl : m o = some l) (hsame : blks l ob'.cont = blks l ob.cont)
    (hos : w'.os = w.os) (htape : w'.tape = w.tape) (hout : w'.output = w.output) (hsz : w.heap.size ≤ w'.heap.size)
    (hblk : ∀ k, k < w.heap.size → k ∉ blks l ob.cont → w'.heap[k]? = w.heap[k]?)
    (hlen : (ob'.cont.flat o).length ≤ l.capc) (hcells : CellsAt w' m o l ob'.cont) (hopn : Open w' l ob'.cont) :
    Sim F W m (upd h o (some ob')) next w' := by
  obtain ⟨l0, hl0, hok0⟩ := hs.obj o ob ho
  have : l0 = l := Option.some.inj (hl0.symm.trans hl)
  subst this
  refine ⟨⟨hos.trans hs.kept.os, htape.trans hs.kept.tape, hout.trans hs.kept.output, Nat.le_trans hs.kept.size hsz, fun k hk hf => ?_⟩, fun o1 ob1 ho1 => ?_, ?_, hs.fresh, fun b ob2 hb => (hblk b (hs.prot_lt hb) fun hd => hok0.np b hd ⟨ob2, hb⟩).trans (hs.prot b ob2 hb), hs.pnd⟩
  · rw [hblk k (Nat.lt_of_lt_of_le hk hs.kept.size) (fun hd => by rcases hok0.mine hrw k hd with h1 | h1; exact hf h1; omega)]
    exact hs.kept.block k hk hf
  · by_cases e : o1 = o
    · subst e
      rw [upd_same] at ho1
      cases ho1
      exact ⟨l0, hl, hlen, hcells, fun k hk => Nat.lt_of_lt_of_le (hok0.lt k (hsame ▸ hk)) hsz, fun _ => hsame ▸ hok0.nodup hrw, fun _ => hopn, fun _ k hk => hok0.mine hrw k (hsame ▸ hk), fun hr => (by rw [hrw'] at hr; cases hr), fun k hk => hok0.np k (hsame ▸ hk)⟩
    · rw [upd_ne _ _ e] at ho1
      obtain ⟨l1, hl1, hok⟩ := hs.obj o1 ob1 ho1
      refine ⟨l1, hl1, hok.local (fun _ _ h => h) hsz fun k hk => hblk k (hok.lt k hk) fun hd => ?_⟩
      cases hr : ob1.rw with
      | true => exact hs.sep o1 ob1 o ob l1 l0 k e ho1 ho hr hrw hl1 hl hk hd
      | false =>
        obtain ⟨h1, h2⟩ := hok.ro hr k hk
        rcases hok0.mine hrw k hd with h3 | h3
        · exact h2 h3
        · omega
  · intro o1 ob1 o2 ob2 l1 l2 k hne h1 h2 r1 r2 m1 m2 hk
    have key : ∀ o3 ob3, upd h o (some ob') o3 = some ob3 → ∃ ob4, h o3 = some ob4 ∧ (ob3.rw = true → ob4.rw = true) ∧ ∀ l3, m o3 = some l3 → blks l3 ob3.cont = blks l3 ob4.cont := fun o3 ob3 h3 => by
      by_cases e : o3 = o
      · subst e
        rw [upd_same] at h3
        cases h3
        exact ⟨ob, ho, fun _ => hrw, fun l3 hl3 => by have : l0 = l3 := Option.some.inj (hl.symm.trans hl3); subst this; exact hsame⟩
      · rw [upd_ne _ _ e] at h3
        exact ⟨ob3, h3, id, fun _ _ => rfl⟩
    obtain ⟨a1, q1, q2, q3⟩ := key _ _ h1
    obtain ⟨a2, p1, p2, p3⟩ := key _ _ h2
    rw [q3 l1 m1] at hk
    rw [p3 l2 m2]
    exact hs.sep o1 a1 o2 a2 l1 l2 k hne q1 p1 (q2 r1) (p2 r2) m1 m2 hk

/-- A cell of an object reads alike in every world that the present one grows into. -/
theorem Sim.read {F : Fr} {W w : World} {m : Lm} {h : Nat → Option Ob} {next : Nat} (hs : Sim F W m h next w) {o i : Nat} {ob : Ob} {a : AV} (ho : h o = some ob) (hi : (ob.cont.flat o)[i]? = some a) :
    ∃ l v, m o = some l ∧ Rep m a v ∧ v.oneCell' = true ∧ ∀ w', Below w.heap.size w w' → w'.cell? ⟨l.blk, l.base + i, none⟩ = some v := by
  obtain ⟨l, hl, hok⟩ := hs.obj o ob ho
  obtain ⟨v, hv, h1, hr⟩ := hok.cells.1 i a hi
  have hlt : i < (ob.cont.flat o).length := (List.getElem?_eq_some_iff.1 hi).1
  have hlen := hok.len
  refine ⟨l, v, hl, hr, h1, fun w' hb => ?_⟩
  rw [World.cell?_of_block (w := w)]
  · exact hv
  · exact hb.block _ (hok.lt _ (blk_mem (by omega)))

theorem Sim.readIn {F : Fr} {W w : World} {m : Lm} {h : Nat → Option Ob} {next : Nat} (hs : Sim F W m h next w) {o i j : Nat} {r : Bool} {k : IntKind} {xss : List (List Int)} {hole : Option Nat} {xs : List Int} {n : Int}
    (ho : h o = some ⟨r, .rows k xss hole⟩) (hi : xss[i]? = some xs) (hh : hole ≠ some i) (hj : xs[j]? = some n) :
    ∃ l li, m o = some l ∧ l.inner[i]? = some li ∧ ∀ w', Below w.heap.size w w' → w'.cell? ⟨li.blk, li.base + j, none⟩ = some (.int k n) := by
  obtain ⟨l, hl, hok⟩ := hs.obj o _ ho
  obtain ⟨li, hli, hlen, hc⟩ := hok.cells.2 i xs hi hh
  have hlt : j < xs.length := (List.getElem?_eq_some_iff.1 hj).1
  refine ⟨l, li, hl, hli, fun w' hb => ?_⟩
  rw [World.cell?_of_block (w := w)]
  · exact hc j n hj
  · exact hb.block _ (hok.lt _ (inner_mem hli (by omega) hh))
end Go.Ab
