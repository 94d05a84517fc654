/- Operations that make or write memory, said over abstract values. -/
import Derived.Test.YtiihfngieobjeaaAb4
namespace Go.Ab
set_option linter.all false
open Go Go.RowKit

abbrev Hp := Nat → Option Ob

/-- What an operation that acts leaves. -/
def Acts (F : Fr) (W : World) (m : Lm) (w : World) (tame : Bool) (K : AV → Hp → Nat → Prop) (v : Value) (w' : World) : Prop :=
  ∃ m' a h' n', K a h' n' ∧ Rep m' a v ∧ Sim F W m' h' n' w' ∧ (∀ o l, m o = some l → m' o = some l) ∧ (tame = true → Grow w w')

def Cont.simple : Cont → Bool
  | .rows .. => false
  | .raw _ => false
  | _ => true

/-- The values that a content's cells may be. -/
def Fits (m : Lm) (o : Nat) (c : Cont) (vs : Array Value) : Prop :=
  (c.flat o).length ≤ vs.size ∧ ∀ (i : Nat) (a : AV), (c.flat o)[i]? = some a → ∃ v, vs[i]? = some v ∧ v.oneCell' = true ∧ Rep m a v

theorem blks_simple {l : Loc} {c : Cont} (h : c.simple = true) : blks l c = if l.capc = 0 then [] else [l.blk] := by
  cases c <;> simp [Cont.simple] at h <;> simp [blks]

theorem cellsAt_simple {w : World} {m : Lm} {o : Nat} {l : Loc} {c : Cont} {vs : Array Value} {e : TypeId} (h : c.simple = true) (hb : l.base = 0) (hw : w.heap[l.blk]? = some (.cells vs e (0, 0))) (hf : Fits m o c vs) : CellsAt w m o l c := by
  refine ⟨fun i a ha => ?_, by cases c <;> simp [Cont.simple] at h <;> trivial⟩
  obtain ⟨v, hv, h1, hr⟩ := hf.2 i a ha
  exact ⟨v, by rw [hb, Nat.zero_add, cell_of_row w l.blk i vs e (0, 0) hw]; exact hv, h1, hr⟩

theorem open_simple {w : World} {l : Loc} {c : Cont} {vs : Array Value} {e : TypeId} (h : c.simple = true) (hb : l.base = 0) (hw : w.heap[l.blk]? = some (.cells vs e (0, 0))) (hs : vs.size = l.capc) : Open w l c :=
  ⟨hb, fun _ => ⟨vs, e, hw, hs⟩, by cases c <;> simp [Cont.simple] at h <;> trivial⟩

section
variable {F : Fr} {W w w' : World} {m : Lm} {h : Hp} {next : Nat}

theorem Sim.mono_next (hs : Sim F W m h next w) (l : Loc) : ∀ o l', m o = some l' → upd m next (some l) o = some l' := fun o l' ho => by
  by_cases e : o = next
  · subst e; rw [hs.fresh o (Nat.le_refl _)] at ho; cases ho
  · rw [upd_ne _ _ e]; exact ho

/-- A new block, of which the world behind is told by what it holds. -/
theorem Sim.newBlk (hs : Sim F W m h next w) (hos : w'.os = w.os) (htape : w'.tape = w.tape) (hout : w'.output = w.output) (hsz : w'.heap.size = w.heap.size + 1)
    (hblk : ∀ k, k < w.heap.size → w'.heap[k]? = w.heap[k]?) {vs : Array Value} {e : TypeId} (hnew : w'.heap[w.heap.size]? = some (.cells vs e (0, 0))) {c : Cont} (hc : c.simple = true)
    (hf : Fits (upd m next (some ⟨w.heap.size, 0, vs.size, []⟩)) next c vs) :
    Sim F W (upd m next (some ⟨w.heap.size, 0, vs.size, []⟩)) (upd h next (some ⟨true, c⟩)) (next + 1) w' := by
  refine hs.add [] hos htape hout (by omega) (fun k hk _ => hblk k hk) (by simp) (by simp) ⟨w.heap.size, 0, vs.size, []⟩ ⟨true, c⟩ rfl ?_ ?_ ?_ hf.1 (cellsAt_simple hc rfl hnew hf) (open_simple hc rfl hnew rfl)
  · intro k hk
    simp only [blks_simple hc] at hk
    split at hk <;> simp at hk
    omega
  · simp only [blks_simple hc]
    split <;> simp
  · intro k hk
    simp only [blks_simple hc] at hk
    split at hk <;> simp at hk
    omega

theorem Sim.alloc (hs : Sim F W m h next w) {vs : Array Value} {e : TypeId} {c : Cont} (hc : c.simple = true) (hf : Fits (upd m next (some ⟨w.heap.size, 0, vs.size, []⟩)) next c vs) :
    Sim F W (upd m next (some ⟨w.heap.size, 0, vs.size, []⟩)) (upd h next (some ⟨true, c⟩)) (next + 1) (w.alloc (.cells vs e)) :=
  hs.newBlk (w' := w.alloc (.cells vs e)) rfl rfl rfl (by simp) (fun k hk => heap_alloc_old w _ k hk) (heap_alloc_new w _) hc hf

theorem grow_alloc (w : World) (o : Obj) : Grow w (w.alloc o) := (Below.refl _ _).alloc (Nat.le_refl _) o

/-- An object in one block is written. -/
theorem Sim.writeBlk (hs : Sim F W m h next w) {o : Nat} {ob : Ob} {l : Loc} (ho : h o = some ob) (hrw : ob.rw = true) (hc0 : ob.cont.simple = true) (hl : m o = some l) (hcap : l.capc ≠ 0)
    (hos : w'.os = w.os) (htape : w'.tape = w.tape) (hout : w'.output = w.output) (hsz : w'.heap.size = w.heap.size) (hblk : ∀ k, k ≠ l.blk → w'.heap[k]? = w.heap[k]?)
    {vs : Array Value} {e : TypeId} (hnew : w'.heap[l.blk]? = some (.cells vs e (0, 0))) (hvs : vs.size = l.capc) {c : Cont} (hc : c.simple = true) (hf : Fits m o c vs) :
    Sim F W m (upd h o (some ⟨true, c⟩)) next w' := by
  obtain ⟨l', hl', hok⟩ := hs.obj o ob ho
  have : l' = l := Option.some.inj (hl'.symm.trans hl)
  subst this
  have hb := (hok.opn hrw).1
  refine hs.write ho hrw rfl hl (by rw [blks_simple hc, blks_simple hc0]) hos htape hout (by omega) (fun k _ hk => hblk k fun e => hk ?_) (by rw [← hvs]; exact hf.1) (cellsAt_simple hc hb hnew hf) (open_simple hc hb hnew hvs)
  subst e
  exact blk_mem hcap
end

def aAlloc (tab : Tab) (h : Hp) (n : Nat) (e : TypeId) (c : Cont) (K : AV → Hp → Nat → Prop) : Prop :=
  ∃ i, tab e = some i ∧ c.simple = true ∧ c.flat n = i.zero.map .val ∧ i.zero.all Value.oneCell' = true ∧ K (.ref n 0) (upd h n (some ⟨true, c⟩)) (n + 1)

/-- The content of a new variable. -/
def zcont (tab : Tab) (e : TypeId) : Cont :=
  match tab e with
  | some i => (match i.ty with
    | .array k e => (match tyOf tab e with
      | some (.int ik) => .ints ik (List.replicate k 0)
      | some .bool => .bools (List.replicate k false)
      | _ => .cells (i.zero.map .val))
    | _ => .cells (i.zero.map .val))
  | none => .cells []

def aBox (h : Hp) (n : Nat) (v : AV) (K : AV → Hp → Nat → Prop) : Prop :=
  v.parts.all AV.cell = true ∧ K (.ref n 0) (upd h n (some ⟨true, .cells v.parts⟩)) (n + 1)

def setIn (c : Cont) (k : Nat) (v : AV) (K : Cont → Prop) : Prop :=
  match c with
  | .cells as => k < as.length ∧ v.cell = true ∧ K (.cells (as.set k v))
  | .ints ik xs => (match v with
    | .val (.int ik' n) => ik' = ik ∧ k < xs.length ∧ K (.ints ik (xs.set k n))
    | _ => False)
  | .bools bs => (match v with
    | .val (.bool b) => k < bs.length ∧ K (.bools (bs.set k b))
    | _ => False)
  | .strs ss => (match v with
    | .val (.string s) => k < ss.length ∧ K (.strs (ss.set k s))
    | _ => False)
  | .rows .. => False
  | .raw _ => False

def aStore (tab : Tab) (h : Hp) (n : Nat) (t : TypeId) (x v : AV) (K : AV → Hp → Nat → Prop) : Prop :=
  match x with
  | .ref o k => ∃ ob, h o = some ob ∧ ob.rw = true ∧ szOf tab t = some 1 ∧ setIn ob.cont k v (fun c' => K .any (upd h o (some ⟨true, c'⟩)) n)
  | _ => False

/-- A whole variable of many cells is stored. -/
def aStoreAll (tab : Tab) (h : Hp) (n : Nat) (t : TypeId) (x v : AV) (c' : Cont) (K : AV → Hp → Nat → Prop) : Prop :=
  match x, v with
  | .ref o 0, .agg as => ∃ ob, h o = some ob ∧ ob.rw = true ∧ ob.cont.simple = true ∧ c'.simple = true ∧ 0 < as.length ∧ (ob.cont.flat o).length = as.length ∧ szOf tab t = some as.length ∧ as.all AV.cell = true ∧ c'.flat o = as ∧
      K .any (upd h o (some ⟨true, c'⟩)) n
  | _, _ => False

theorem setIn_spec {o : Nat} {c : Cont} {k : Nat} {v : AV} {K : Cont → Prop} (h : setIn c k v K) : ∃ c', K c' ∧ c.simple = true ∧ c'.simple = true ∧ k < (c.flat o).length ∧ v.cell = true ∧ c'.flat o = (c.flat o).set k v := by
  cases c with
  | cells as => obtain ⟨h1, h2, hK⟩ := h; exact ⟨_, hK, rfl, rfl, h1, h2, rfl⟩
  | ints ik xs =>
    simp only [setIn] at h
    split at h
    · obtain ⟨rfl, h2, hK⟩ := h; exact ⟨_, hK, rfl, rfl, by simpa [Cont.flat] using h2, rfl, by simp [Cont.flat, List.map_set]⟩
    · exact h.elim
  | bools bs =>
    simp only [setIn] at h
    split at h
    · obtain ⟨h2, hK⟩ := h; exact ⟨_, hK, rfl, rfl, by simpa [Cont.flat] using h2, rfl, by simp [Cont.flat, List.map_set]⟩
    · exact h.elim
  | strs ss =>
    simp only [setIn] at h
    split at h
    · obtain ⟨h2, hK⟩ := h; exact ⟨_, hK, rfl, rfl, by simpa [Cont.flat] using h2, rfl, by simp [Cont.flat, List.map_set]⟩
    · exact h.elim
  | rows ik xss hole => exact h.elim
  | raw b => exact h.elim

section
variable {P : Program} {tab : Tab} {F : Fr} {W w : World} {m : Lm} {h : Hp} {next : Nat}

theorem fits_of_repL {m : Lm} {o : Nat} {c : Cont} {vs : Array Value} (h : RepL m (c.flat o) vs.toList) (h1 : ∀ u ∈ vs.toList, u.oneCell' = true) : Fits m o c vs := by
  refine ⟨by have := h.length; simp at this; omega, fun i a ha => ?_⟩
  obtain ⟨x, hx, hr⟩ := h.get ha
  exact ⟨x, by simpa using hx, h1 x (List.mem_of_getElem? hx), hr⟩

theorem aAlloc_sound (ht : TabOk P tab) (hs : Sim F W m h next w) {e : TypeId} {c : Cont} {K : AV → Hp → Nat → Prop} (hr : aAlloc tab h next e c K) :
    ∃ v w', (Instr.alloc e true (.tuple #[])).run P w = .ok v w' ∧ Acts F W m w true K v w' := by
  obtain ⟨i, hi, hc, hflat, hone, hK⟩ := hr
  obtain ⟨d, inf, z, _, _, hinf, _, _, hz, hzc, _⟩ := ht e i hi
  refine ⟨.pointer (some ⟨w.heap.size, 0, none⟩), w.alloc (.cells z.cells e), ?_, upd m next (some ⟨w.heap.size, 0, z.cells.size, []⟩), _, _, _, hK, ?_, hs.alloc hc ?_, hs.mono_next _, fun _ => grow_alloc _ _⟩
  · simp [Instr.alloc, zeroValue, typeInfo, hinf, hz, newVar, newRow]
  · simp only [Rep]; exact ⟨_, upd_same _ _ _, rfl⟩
  · refine fits_of_repL ?_ ?_
    · rw [hflat, hzc]; exact repL_vals _
    · rw [hzc]; exact List.all_eq_true.1 hone

theorem aBox_sound (hs : Sim F W m h next w) {e : TypeId} {a : AV} {va : Value} {K : AV → Hp → Nat → Prop} (hr : aBox h next a K) (ha : Rep m a va) :
    ∃ v w', (Instr.box e va).run P w = .ok v w' ∧ Acts F W m w true K v w' := by
  obtain ⟨hc, hK⟩ := hr
  obtain ⟨hp, hone⟩ := parts_rep hc ha
  refine ⟨.pointer (some ⟨w.heap.size, 0, none⟩), w.alloc (.cells va.cells e), ?_, upd m next (some ⟨w.heap.size, 0, va.cells.size, []⟩), _, _, _, hK, ?_, hs.alloc rfl ?_, hs.mono_next _, fun _ => grow_alloc _ _⟩
  · simp [Instr.box, newVar, newRow]
  · simp only [Rep]; exact ⟨_, upd_same _ _ _, rfl⟩
  · exact fits_of_repL (hp.mono (hs.mono_next _)) hone

theorem aStore_sound (ht : TabOk P tab) (hs : Sim F W m h next w) {t : TypeId} {x a : AV} {vx va : Value} {K : AV → Hp → Nat → Prop} (hr : aStore tab h next t x a K) (hx : Rep m x vx) (ha : Rep m a va) :
    ∃ w', (Instr.storeAt t vx va).run P w = .ok () w' ∧ Acts F W m w false K undef w' := by
  unfold aStore at hr
  split at hr
  · rename_i o k
    obtain ⟨ob, hob, hrw, hsz, hset⟩ := hr
    obtain ⟨c', hK, hc, hc', hk, hcell, hflat⟩ := setIn_spec (o := o) hset
    obtain ⟨inf, hinf, hs1⟩ := tab_size ht hsz
    simp only [Rep] at hx
    obtain ⟨l, hl, rfl⟩ := hx
    obtain ⟨l', hl', hok⟩ := hs.obj o ob hob
    have : l' = l := Option.some.inj (hl'.symm.trans hl)
    subst this
    obtain ⟨hb0, hop, _⟩ := hok.opn hrw
    have hlen := hok.len
    have hcap : l'.capc ≠ 0 := by omega
    obtain ⟨cur, e, hcur, hcs⟩ := hop hcap
    have h1 := cell_one hcell ha
    have hread : w.cell? ⟨l'.blk, k, none⟩ = some (cur[k]'(by omega)) := by rw [cell_of_row w l'.blk k cur e (0, 0) hcur]; simp
    have hfree := frozen_of_row w l'.blk k cur e hcur
    refine ⟨w.setCell ⟨l'.blk, k, none⟩ va, ?_, m, _, _, _, hK, by simp [Rep], ?_, fun _ _ h => h, fun h => by cases h⟩
    · have e1 : va.cells.toList = [va] := by rw [one_cells h1]
      simp [Instr.storeAt, Instr.sureAddr, storeVar, sizeOf, typeInfo, hinf, hs1, one_cells h1, storeCells, run_store, h1, hb0, addr_add, hread, hfree]
    · refine hs.writeBlk (w' := w.setCell ⟨l'.blk, k, none⟩ va) hob hrw hc hl hcap rfl rfl rfl (by simp) (fun k' hk' => heap_setCell_other w _ k' va hk') (heap_setCell_same w l'.blk k cur e va hcur) (by simpa using hcs) hc' ?_
      refine ⟨by rw [hflat]; simp only [List.length_set, Array.size_setIfInBounds]; omega, fun i b hi => ?_⟩
      rw [hflat] at hi
      by_cases hik : i = k
      · subst hik
        rw [List.getElem?_set_self hk] at hi
        cases hi
        exact ⟨va, by rw [Array.getElem?_setIfInBounds_self_of_lt (by omega)], h1, ha⟩
      · rw [List.getElem?_set_ne (Ne.symm hik)] at hi
        obtain ⟨v, hv, h2, hrep⟩ := hok.cells.1 i b hi
        rw [hb0, Nat.zero_add, cell_of_row w l'.blk i cur e (0, 0) hcur] at hv
        exact ⟨v, by rw [Array.getElem?_setIfInBounds_ne (Ne.symm hik)]; exact hv, h2, hrep⟩
  · exact hr.elim

theorem aStoreAll_sound (ht : TabOk P tab) (hs : Sim F W m h next w) {t : TypeId} {x a : AV} {vx va : Value} {c' : Cont} {K : AV → Hp → Nat → Prop} (hr : aStoreAll tab h next t x a c' K) (hx : Rep m x vx) (ha : Rep m a va) :
    ∃ w', (Instr.storeAt t vx va).run P w = .ok () w' ∧ Acts F W m w false K undef w' := by
  unfold aStoreAll at hr
  split at hr
  · rename_i o as
    obtain ⟨ob, hob, hrw, hc, hc', hpos, hlen, hsz, hcell, hflat, hK⟩ := hr
    obtain ⟨inf, hinf, hs1⟩ := tab_size ht hsz
    simp only [Rep] at hx
    obtain ⟨l, hl, rfl⟩ := hx
    obtain ⟨l', hl', hok⟩ := hs.obj o ob hob
    have : l' = l := Option.some.inj (hl'.symm.trans hl)
    subst this
    obtain ⟨hb0, hop, _⟩ := hok.opn hrw
    have hlen' := hok.len
    have hcap : l'.capc ≠ 0 := by omega
    obtain ⟨cur, e, hcur, hcs⟩ := hop hcap
    obtain ⟨hp, hone⟩ := parts_rep (a := .agg as) (by simpa [AV.parts] using hcell) ha
    simp only [AV.parts] at hp
    have hvl : va.cells.toList.length = as.length := hp.length.symm
    have hst := run_storeCells_at P l'.blk 0 e va.cells.toList 0 cur w hcur (by omega) hone
    have hvs : va.cells.size = as.length := by simpa using hvl
    simp only [Nat.zero_add, List.take_zero, List.nil_append] at hst
    refine ⟨w.setRow l'.blk (va.cells.toList ++ cur.toList.drop va.cells.toList.length).toArray, ?_, m, _, _, _, hK, by simp [Rep], ?_, fun _ _ h => h, fun h => by cases h⟩
    · simp only [Instr.storeAt, Instr.sureAddr, storeVar, sizeOf, typeInfo, Sem.run_bind, Sem.run_pure, Result.andThen_ok, run_program, hinf, hs1, hvs, hb0, Nat.add_zero]
      simpa using hst
    · refine hs.writeBlk (w' := w.setRow l'.blk (va.cells.toList ++ cur.toList.drop va.cells.toList.length).toArray) hob hrw hc hl hcap rfl rfl rfl (by simp) (fun k' hk' => setRow_other w _ k' _ hk') (setRow_heap w l'.blk cur _ e (0, 0) hcur) (by simp; omega) hc' ?_
      refine ⟨by rw [hflat]; simp; omega, fun i b hi => ?_⟩
      rw [hflat] at hi
      obtain ⟨v, hv, hrep⟩ := hp.get hi
      have hlt := (List.getElem?_eq_some_iff.1 hv).1
      refine ⟨v, ?_, hone v (List.mem_of_getElem? hv), hrep⟩
      simp only [List.getElem?_toArray]
      rw [List.getElem?_append_left hlt]
      exact hv
  · exact hr.elim
end
end Go.Ab
