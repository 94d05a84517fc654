/- Operations that make or write memory, said over abstract values. -/
import Derived.Test.YtbnldepaebcojaaAb4
namespace Go.Ab
set_option linter.all false
open Go Go.RowKit

abbrev Hp := Nat → Option Ob

/-- What an operation that acts leaves. -/
def Acts (F : Fr) (W : World) (m : Lm) (w : World) (tame : Bool) (K : AV → Hp → Nat → Prop) (v : Value) (w' : World) : Prop :=
  ∃ m' a h' n', K a h' n' ∧ Rep m' a v ∧ Sim F W m' h' n' w' ∧ (∀ o l, m o = some l → m' o = some l) ∧ (tame = true → Grow w w')

def Cont.simple : Cont → Bool
  | .rows .. => false
  | .raw _ => false
  | .same _ _ => false
  | _ => true

/-- The values that a content's cells may be. -/
def Fits (m : Lm) (o : Nat) (c : Cont) (vs : Array Value) : Prop :=
  (c.flat o).length ≤ vs.size ∧ ∀ (i : Nat) (a : AV), (c.flat o)[i]? = some a → ∃ v, vs[i]? = some v ∧ v.oneCell' = true ∧ Rep m a v

theorem blks_simple {l : Loc} {c : Cont} (h : c.simple = true) : blks l c = if l.capc = 0 then [] else [l.blk] := by
  cases c <;> simp [Cont.simple] at h <;> simp [blks]

theorem cellsAt_simple {w : World} {m : Lm} {o : Nat} {l : Loc} {c : Cont} {vs : Array Value} {e : TypeId} (h : c.simple = true) (hb : l.base = 0) (hw : w.heap[l.blk]? = some (.cells vs e (0, 0))) (hf : Fits m o c vs) : CellsAt w m o l c := by
  refine ⟨fun i a ha => ?_, by cases c <;> simp [Cont.simple] at h <;> trivial⟩
  obtain ⟨v, hv, h1, hr⟩ := hf.2 i a ha
  exact ⟨v, by rw [hb, Nat.zero_add, cell_of_row w l.blk i vs e (0, 0) hw]; exact hv, h1, hr⟩

theorem open_simple {w : World} {l : Loc} {c : Cont} {vs : Array Value} {e : TypeId} (h : c.simple = true) (hb : l.base = 0) (hw : w.heap[l.blk]? = some (.cells vs e (0, 0))) (hs : vs.size = l.capc) : Open w l c :=
  ⟨hb, fun _ => ⟨vs, e, hw, hs⟩, by cases c <;> simp [Cont.simple] at h <;> trivial⟩

section
variable {F : Fr} {W w w' : World} {m : Lm} {h : Hp} {next : Nat}

theorem Sim.mono_next (hs : Sim F W m h next w) (l : Loc) : ∀ o l', m o = some l' → upd m next (some l) o = some l' := fun o l' ho => by
  by_cases e : o = next
  · subst e; rw [hs.fresh o (Nat.le_refl _)] at ho; cases ho
  · rw [upd_ne _ _ e]; exact ho

/-- A new block, of which the world behind is told by what it holds. -/
theorem Sim.newBlk (hs : Sim F W m h next w) (hos : w'.os = w.os) (htape : w'.tape = w.tape) (hout : w'.output = w.output) (hsz : w'.heap.size = w.heap.size + 1)
    (hblk : ∀ k, k < w.heap.size → w'.heap[k]? = w.heap[k]?) {vs : Array Value} {e : TypeId} (hnew : w'.heap[w.heap.size]? = some (.cells vs e (0, 0))) {c : Cont} (hc : c.simple = true)
    (hf : Fits (upd m next (some ⟨w.heap.size, 0, vs.size, []⟩)) next c vs) :
    Sim F W (upd m next (some ⟨w.heap.size, 0, vs.size, []⟩)) (upd h next (some ⟨true, c⟩)) (next + 1) w' := by
  refine hs.add [] hos htape hout (by omega) (fun k hk _ => hblk k hk) (by simp) (by simp) ⟨w.heap.size, 0, vs.size, []⟩ ⟨true, c⟩ rfl ?_ ?_ ?_ hf.1 (cellsAt_simple hc rfl hnew hf) (open_simple hc rfl hnew rfl)
  · intro k hk
    simp only [blks_simple hc] at hk
    split at hk <;> simp at hk
    omega
  · simp only [blks_simple hc]
    split <;> simp
  · intro k hk
    simp only [blks_simple hc] at hk
    split at hk <;> simp at hk
    omega

theorem Sim.alloc (hs : Sim F W m h next w) {vs : Array Value} {e : TypeId} {c : Cont} (hc : c.simple = true) (hf : Fits (upd m next (some ⟨w.heap.size, 0, vs.size, []⟩)) next c vs) :
    Sim F W (upd m next (some ⟨w.heap.size, 0, vs.size, []⟩)) (upd h next (some ⟨true, c⟩)) (next + 1) (w.alloc (.cells vs e)) :=
  hs.newBlk (w' := w.alloc (.cells vs e)) rfl rfl rfl (by simp) (fun k hk => heap_alloc_old w _ k hk) (heap_alloc_new w _) hc hf

theorem grow_alloc (w : World) (o : Obj) : Grow w (w.alloc o) := (Below.refl _ _).alloc (Nat.le_refl _) o

/-- An object in one block is written. -/
theorem Sim.writeBlk (hs : Sim F W m h next w) {o : Nat} {ob : Ob} {l : Loc} (ho : h o = some ob) (hrw : ob.rw = true) (hc0 : ob.cont.simple = true) (hl : m o = some l) (hcap : l.capc ≠ 0)
    (hos : w'.os = w.os) (htape : w'.tape = w.tape) (hout : w'.output = w.output) (hsz : w'.heap.size = w.heap.size) (hblk : ∀ k, k ≠ l.blk → w'.heap[k]? = w.heap[k]?)
    {vs : Array Value} {e : TypeId} (hnew : w'.heap[l.blk]? = some (.cells vs e (0, 0))) (hvs : vs.size = l.capc) {c : Cont} (hc : c.simple = true) (hf : Fits m o c vs) :
    Sim F W m (upd h o (some ⟨true, c⟩)) next w' := by
  obtain ⟨l', hl', hok⟩ := hs.obj o ob ho
  have : l' = l := Option.some.inj (hl'.symm.trans hl)
  subst this
  have hb := (hok.opn hrw).1
  refine hs.write ho hrw rfl hl (by rw [blks_simple hc, blks_simple hc0]) hos htape hout (by omega) (fun k _ hk => hblk k fun e => hk ?_) (by rw [← hvs]; exact hf.1) (cellsAt_simple hc hb hnew hf) (open_simple hc hb hnew hvs)
  subst e
  exact blk_mem hcap
end

section
variable {F : Fr} {W w : World} {m : Lm} {h : Hp} {next : Nat}
theorem Sim.apart (hs : Sim F W m h next w) {o o' : Nat} {ob ob' : Ob} {l l' : Loc} (hne : o ≠ o') (ho : h o = some ob) (hrw : ob.rw = true) (hl : m o = some l) (ho' : h o' = some ob') (hl' : m o' = some l') {k : Nat} (hk : k ∈ blks l' ob'.cont) : k ∉ blks l ob.cont := by
  intro hk2
  cases hr : ob'.rw with
  | true => exact hs.sep o' ob' o ob l' l k (Ne.symm hne) ho' ho hr hrw hl' hl hk hk2
  | false =>
    obtain ⟨l1, e1, ok1⟩ := hs.obj o ob ho
    obtain ⟨l2, e2, ok2⟩ := hs.obj o' ob' ho'
    have : l1 = l := Option.some.inj (e1.symm.trans hl)
    subst this
    have : l2 = l' := Option.some.inj (e2.symm.trans hl')
    subst this
    obtain ⟨h1, h2⟩ := ok2.ro hr k hk
    rcases ok1.mine hrw k hk2 with h3 | h3
    · exact h2 h3
    · omega

end

/-! ### Rows of rows of one's own: a row is taken out, another one is put in -/

theorem inB_iff {l : List In} {hole : Option Nat} {k : Nat} : k ∈ (l.zipIdx.filterMap fun p => if p.1.capc = 0 ∨ hole = some p.2 then none else some p.1.blk) ↔ ∃ (i : Nat) (li : In), l[i]? = some li ∧ li.capc ≠ 0 ∧ hole ≠ some i ∧ li.blk = k := by
  simp only [List.mem_filterMap, Prod.exists]
  constructor
  · rintro ⟨li, i, h1, h2⟩
    rw [List.mem_zipIdx_iff_getElem?] at h1
    split at h2
    · cases h2
    · rename_i hc
      cases h2
      exact ⟨i, li, h1, fun e => hc (.inl e), fun e => hc (.inr e), rfl⟩
  · rintro ⟨i, li, h1, h2, h3, rfl⟩
    exact ⟨li, i, by rw [List.mem_zipIdx_iff_getElem?]; exact h1, by rw [if_neg (by simp [h2, h3])]⟩

theorem inB_nodup {l : List In} {hole : Option Nat} (h : (l.zipIdx.filterMap fun p => if p.1.capc = 0 ∨ hole = some p.2 then none else some p.1.blk).Nodup) {i j : Nat} {li lj : In} (hi : l[i]? = some li) (hj : l[j]? = some lj) (ci : li.capc ≠ 0) (cj : lj.capc ≠ 0) (hhi : hole ≠ some i) (hhj : hole ≠ some j) (hij : i ≠ j) : li.blk ≠ lj.blk := by
  have key : ∀ i j li lj, i < j → l[i]? = some li → l[j]? = some lj → li.capc ≠ 0 → lj.capc ≠ 0 → hole ≠ some i → hole ≠ some j → li.blk ≠ lj.blk := by
    intro i j li lj hlt hi hj ci cj hhi hhj
    rw [List.Nodup, List.pairwise_filterMap, List.pairwise_iff_getElem] at h
    have hjl := (List.getElem?_eq_some_iff.1 hj).1
    have := h i j (by simp; omega) (by simpa using hjl) hlt
    simp only [List.getElem_zipIdx, Nat.zero_add] at this
    have e1 : l[i]'(by omega) = li := by rw [List.getElem?_eq_getElem (by omega)] at hi; exact Option.some.inj hi
    have e2 : l[j]'hjl = lj := by rw [List.getElem?_eq_getElem hjl] at hj; exact Option.some.inj hj
    rw [e1, e2] at this
    exact this _ (by rw [if_neg (by simp [ci, hhi])]) _ (by rw [if_neg (by simp [cj, hhj])])
  rcases Nat.lt_or_gt_of_ne hij with h1 | h1
  · exact key i j li lj h1 hi hj ci cj hhi hhj
  · exact fun e => key j i lj li h1 hj hi cj ci hhj hhi e.symm

theorem inB_nodup_mk {l : List In} {hole : Option Nat} (h : ∀ (i j : Nat) (li lj : In), i < j → l[i]? = some li → l[j]? = some lj → li.capc ≠ 0 → lj.capc ≠ 0 → hole ≠ some i → hole ≠ some j → li.blk ≠ lj.blk) : (l.zipIdx.filterMap fun p => if p.1.capc = 0 ∨ hole = some p.2 then none else some p.1.blk).Nodup := by
  rw [List.Nodup, List.pairwise_filterMap, List.pairwise_iff_getElem]
  intro i j hi hj hlt
  simp only [List.getElem_zipIdx, Nat.zero_add]
  simp only [List.length_zipIdx] at hi hj
  intro a ha b hb
  split at ha
  · cases ha
  · rename_i c1
    split at hb
    · cases hb
    · rename_i c2
      cases ha; cases hb
      rw [not_or] at c1 c2
      exact h i j _ _ hlt (List.getElem?_eq_getElem hi) (List.getElem?_eq_getElem hj) c1.1 c2.1 c1.2 c2.2

section
variable {F : Fr} {W w : World} {m : Lm} {h : Hp} {next : Nat}

/-- A row is taken out of rows of one's own: an object by itself. -/
theorem Sim.detach (hs : Sim F W m h next w) {o i : Nat} {ik : IntKind} {xss : List (List Int)} (ho : h o = some ⟨true, .rows ik xss none⟩) (hi : i < xss.length) {lo : Loc} (hlo : m o = some lo) :
    ∃ li, lo.inner[i]? = some li ∧ Sim F W (upd m next (some ⟨li.blk, li.base, li.capc, []⟩)) (upd (upd h o (some ⟨true, .rows ik xss (some i)⟩)) next (some ⟨true, .ints ik (xss.getD i [])⟩)) (next + 1) w := by
  obtain ⟨l', hl', hok⟩ := hs.obj o _ ho
  have : l' = lo := Option.some.inj (hl'.symm.trans hlo)
  subst this
  have hx : xss[i]? = some (xss.getD i []) := by simp [List.getElem?_eq_getElem hi, List.getD_eq_getElem?_getD]
  obtain ⟨li, hli, hle, hcell⟩ := hok.cells.2 i _ hx (by simp)
  refine ⟨li, hli, ?_⟩
  have hnd := hok.nodup rfl
  simp only [blks] at hnd
  rw [List.nodup_append] at hnd
  obtain ⟨n1, n2, n3⟩ := hnd
  obtain ⟨hb0, hop, hopi⟩ := hok.opn rfl
  obtain ⟨hib, hio⟩ := hopi i li hli hi (by simp)
  have hon : o ≠ next := fun e => by subst e; rw [hs.fresh _ (Nat.le_refl _)] at hl'; cases hl'
  -- the blocks of what stays lie among those that were
  have hsub : ∀ k ∈ blks l' (.rows ik xss (some i)), k ∈ blks l' (.rows ik xss none) ∧ (li.capc ≠ 0 → k ≠ li.blk) := fun k hk => by
    simp only [blks, List.mem_append] at hk ⊢
    rcases hk with hk | hk
    · refine ⟨.inl hk, fun hc e => n3 k hk li.blk (inB_iff.2 ⟨i, li, hli, hc, by simp, rfl⟩) e⟩
    · obtain ⟨j, lj, e1, e2, e3, rfl⟩ := inB_iff.1 hk
      refine ⟨.inr (inB_iff.2 ⟨j, lj, e1, e2, by simp, rfl⟩), fun hc e => ?_⟩
      exact inB_nodup n2 e1 hli e2 hc (by simp) (by simp) (fun e => e3 (by rw [e])) e
  have hmem : li.capc ≠ 0 → li.blk ∈ blks l' (.rows ik xss none) := fun hc => by
    simp only [blks, List.mem_append]
    exact .inr (inB_iff.2 ⟨i, li, hli, hc, by simp, rfl⟩)
  have h1 : Sim F W m (upd h o (some ⟨true, .rows ik xss (some i)⟩)) next w := by
    refine ⟨hs.kept, fun o1 ob1 e1 => ?_, fun o1 ob1 o2 ob2 l1 l2 k hne e1 e2 r1 r2 q1 q2 hk => ?_, hs.fresh, hs.prot, hs.pnd⟩
    · by_cases e : o1 = o
      · subst e
        rw [upd_same] at e1
        cases e1
        refine ⟨l', hl', by rw [flat_rows_len]; have := hok.len; rwa [flat_rows_len] at this, ⟨fun j a ha => ?_, fun j xs hj hh => hok.cells.2 j xs hj (by simp)⟩, fun k hk => hok.lt k (hsub k hk).1, fun _ => ?_, fun _ => ⟨hb0, hop, fun j lj hj hjl hh => hopi j lj hj hjl (by simp)⟩, fun _ k hk => hok.mine rfl k (hsub k hk).1, fun h => (by cases h), fun k hk => hok.np k (hsub k hk).1⟩
        · simp only [Cont.flat, List.getElem?_map, Option.map_eq_some_iff] at ha
          obtain ⟨⟨ys, j'⟩, hy, rfl⟩ := ha
          obtain ⟨v, hv, h1, hr⟩ := hok.cells.1 j (.psl o1 j' 0 ys.length none) (by simp only [Cont.flat, reduceCtorEq, if_false, List.getElem?_map, hy, Option.map_some])
          refine ⟨v, hv, h1, ?_⟩
          split
          · simp [Rep]
          · exact hr
        · simp only [blks]
          rw [List.nodup_append]
          refine ⟨n1, inB_nodup_mk fun a b la lb hlt ea eb ca cb ha hb => inB_nodup n2 ea eb ca cb (by simp) (by simp) (by omega), fun k hk k' hk' => ?_⟩
          obtain ⟨j, lj, e1, e2, e3, rfl⟩ := inB_iff.1 hk'
          exact n3 k hk _ (inB_iff.2 ⟨j, lj, e1, e2, by simp, rfl⟩)
      · rw [upd_ne _ _ e] at e1; exact hs.obj o1 ob1 e1
    · have key : ∀ o3 ob3 l3, upd h o (some ⟨true, .rows ik xss (some i)⟩) o3 = some ob3 → m o3 = some l3 → ∃ ob4, h o3 = some ob4 ∧ (ob3.rw = true → ob4.rw = true) ∧ ∀ k ∈ blks l3 ob3.cont, k ∈ blks l3 ob4.cont := fun o3 ob3 l3 h3 hm3 => by
        by_cases e : o3 = o
        · subst e
          rw [upd_same] at h3
          cases h3
          have : l' = l3 := Option.some.inj (hl'.symm.trans hm3)
          subst this
          exact ⟨_, ho, fun _ => rfl, fun k hk => (hsub k hk).1⟩
        · rw [upd_ne _ _ e] at h3
          exact ⟨ob3, h3, id, fun _ h => h⟩
      obtain ⟨a1, p1, p2, p3⟩ := key _ _ _ e1 q1
      obtain ⟨a2, p4, p5, p6⟩ := key _ _ _ e2 q2
      exact fun hk2 => hs.sep o1 a1 o2 a2 l1 l2 k hne p1 p4 (p2 r1) (p5 r2) q1 q2 (p3 k hk) (p6 k hk2)
  refine h1.add (if li.capc = 0 then [] else [li.blk]) rfl rfl rfl (Nat.le_refl _) (fun _ _ _ => rfl) (fun k hk => ?_) (fun o1 ob1 l1 e1 q1 k hk hk2 => ?_) ⟨li.blk, li.base, li.capc, []⟩ ⟨true, .ints ik (xss.getD i [])⟩ rfl (fun k hk => ?_) ?_ (fun k hk => ?_) (by simpa [Cont.flat] using hle) ⟨fun j a ha => ?_, trivial⟩ ⟨hib, hio, trivial⟩
  · split at hk
    · simp at hk
    · rename_i hc
      simp only [List.mem_singleton] at hk
      subst hk
      exact ⟨hok.mine rfl _ (hmem hc), hok.np _ (hmem hc)⟩
  · split at hk2
    · simp at hk2
    · rename_i hc
      simp only [List.mem_singleton] at hk2
      subst hk2
      by_cases e : o1 = o
      · subst e
        rw [upd_same] at e1
        cases e1
        have : l' = l1 := Option.some.inj (hl'.symm.trans q1)
        subst this
        exact (hsub _ hk).2 hc rfl
      · rw [upd_ne _ _ e] at e1
        exact hs.apart (Ne.symm e) ho rfl hl' e1 q1 hk (hmem hc)
  · rw [blks_simple rfl] at hk
    simp only at hk
    exact .inl hk
  · rw [blks_simple rfl]; simp only; split <;> simp
  · rw [blks_simple rfl] at hk
    simp only at hk
    split at hk
    · simp at hk
    · rename_i hc
      simp only [List.mem_singleton] at hk
      subst hk
      exact hok.lt _ (hmem hc)
  · simp only [Cont.flat, List.getElem?_map, Option.map_eq_some_iff] at ha
    obtain ⟨n, hn, rfl⟩ := ha
    exact ⟨.int ik n, hcell j n hn, rfl, by simp [Rep]⟩

def insPut (lo : Loc) (n k : Nat) (li : In) : List In := (List.range n).map fun i => if i = k then li else lo.inner.getD i ⟨0, 0, 0⟩
theorem insPut_get {lo : Loc} {n k : Nat} {li lj : In} {j : Nat} : (insPut lo n k li)[j]? = some lj ↔ j < n ∧ lj = if j = k then li else lo.inner.getD j ⟨0, 0, 0⟩ := by
  unfold insPut
  rw [List.getElem?_map, Option.map_eq_some_iff]
  constructor
  · rintro ⟨a, h1, rfl⟩
    obtain ⟨h2, rfl⟩ := List.getElem?_eq_some_iff.1 h1
    simp only [List.length_range] at h2
    exact ⟨h2, by simp⟩
  · rintro ⟨h1, rfl⟩
    exact ⟨j, by rw [List.getElem?_range h1], rfl⟩

/-- A row of one's own is stored among rows of one's own. -/
theorem Sim.putRow (hs : Sim F W m h next w) {o p k : Nat} {ik : IntKind} {xss : List (List Int)} {hole : Option Nat} {ys : List Int} (ho : h o = some ⟨true, .rows ik xss hole⟩) (hp : h p = some ⟨true, .ints ik ys⟩) (hk : k < xss.length) (hh : hole = none ∨ hole = some k)
    {lo lp : Loc} (hlo : m o = some lo) (hlp : m p = some lp) {va : Value} (hva : SlRep lp.blk lp.base lp.capc 1 0 ys.length none va) (h1 : va.oneCell' = true) :
    Sim F W (upd (upd m next (some ⟨lo.blk, lo.base, lo.capc, insPut lo xss.length k ⟨lp.blk, lp.base, lp.capc⟩⟩)) (next + 1) (some ⟨0, 0, 0, []⟩)) (upd (upd (upd (upd h p none) o none) next (some ⟨true, .rows ik (xss.set k ys) none⟩)) (next + 1) (some ⟨true, .same o next⟩)) (next + 2) (w.setCell ⟨lo.blk, k, none⟩ va) := by
  obtain ⟨l', hl', hok⟩ := hs.obj o _ ho
  have : l' = lo := Option.some.inj (hl'.symm.trans hlo)
  subst this
  obtain ⟨l'', hl'', hokp⟩ := hs.obj p _ hp
  have : l'' = lp := Option.some.inj (hl''.symm.trans hlp)
  subst this
  have hop : o ≠ p := fun e => by subst e; rw [ho] at hp; cases hp
  have hon : o ≠ next := fun e => by subst e; rw [hs.fresh _ (Nat.le_refl _)] at hl'; cases hl'
  obtain ⟨hb0, hopn, hopi⟩ := hok.opn rfl
  obtain ⟨pb0, popn, _⟩ := hokp.opn rfl
  have hlen := hok.len
  rw [flat_rows_len] at hlen
  have hcap : l'.capc ≠ 0 := by omega
  obtain ⟨cur, e, hcur, hcs⟩ := hopn hcap
  have hnd := hok.nodup rfl
  simp only [blks] at hnd
  rw [List.nodup_append] at hnd
  obtain ⟨n1, n2, n3⟩ := hnd
  have hout : l'.blk ∈ blks l' (.rows ik xss hole) := blk_mem hcap
  have hin : ∀ (i : Nat) (li : In), i ≠ k → l'.inner[i]? = some li → li.capc ≠ 0 → li.blk ∈ blks l' (.rows ik xss hole) := fun i li hik hli hc => by
    simp only [blks, List.mem_append]
    exact .inr (inB_iff.2 ⟨i, li, hli, hc, by rcases hh with h | h <;> rw [h] <;> simp; omega, rfl⟩)
  have hin2 : ∀ (i : Nat) (li : In), i ≠ k → l'.inner[i]? = some li → li.capc ≠ 0 → li.blk ≠ l'.blk := fun i li hik hli hc e => by
    have := n3 l'.blk (by rw [if_neg hcap]; simp) li.blk (inB_iff.2 ⟨i, li, hli, hc, by rcases hh with h | h <;> rw [h] <;> simp; omega, rfl⟩)
    exact this e.symm
  have hpm : l''.capc ≠ 0 → l''.blk ∈ blks l'' (.ints ik ys) := fun hc => blk_mem hc
  have hpo : l''.capc ≠ 0 → l''.blk ∉ blks l' (.rows ik xss hole) := fun hc => hs.sep p _ o _ l'' l' _ (Ne.symm hop) hp ho rfl rfl hlp hlo (hpm hc)
  have hpo' : l''.capc ≠ 0 → ∀ b ∈ blks l' (.rows ik xss hole), l''.blk ≠ b := fun hc b hb e => hpo hc (by rw [e]; exact hb)
  have hdrop : Sim F W m (upd (upd h p none) o none) next w := hs.drop fun o1 ob1 e1 => by
    by_cases a : o1 = o
    · subst a; simp at e1
    · rw [upd_ne _ _ a] at e1
      by_cases b : o1 = p
      · subst b; simp at e1
      · rwa [upd_ne _ _ b] at e1
  -- what lies where in the list of rows
  have hget : ∀ (j : Nat) (lj : In), (insPut l' xss.length k ⟨l''.blk, l''.base, l''.capc⟩)[j]? = some lj → lj.capc ≠ 0 → (j = k ∧ lj = ⟨l''.blk, l''.base, l''.capc⟩) ∨ (j ≠ k ∧ l'.inner[j]? = some lj) := fun j lj hj hc => by
    obtain ⟨g1, g2⟩ := insPut_get.1 hj
    by_cases e : j = k
    · rw [if_pos e] at g2; exact .inl ⟨e, g2⟩
    · rw [if_neg e] at g2
      refine .inr ⟨e, ?_⟩
      cases hq : l'.inner[j]? with
      | none => rw [List.getD_eq_getElem?_getD, hq] at g2; rw [g2] at hc; simp at hc
      | some lq => rw [List.getD_eq_getElem?_getD, hq] at g2; rw [g2]; rfl
  have hmemD : ∀ b ∈ blks ⟨l'.blk, l'.base, l'.capc, insPut l' xss.length k ⟨l''.blk, l''.base, l''.capc⟩⟩ (.rows ik (xss.set k ys) none), b ∈ blks l' (.rows ik xss hole) ++ blks l'' (.ints ik ys) := fun b hb => by
    simp only [blks, List.mem_append] at hb
    rw [List.mem_append]
    rcases hb with hb | hb
    · rw [if_neg hcap, List.mem_singleton] at hb
      subst hb
      exact .inl hout
    · obtain ⟨j, lj, e1, e2, _, rfl⟩ := inB_iff.1 hb
      rcases hget j lj e1 e2 with ⟨_, rfl⟩ | ⟨hj, hl⟩
      · exact .inr (hpm e2)
      · exact .inl (hin j lj hj hl e2)
  have hw0 : ∀ b, b ≠ l'.blk → (w.setCell ⟨l'.blk, k, none⟩ va).heap[b]? = w.heap[b]? := fun b hb => heap_setCell_other w _ b va hb
  have hw1 := heap_setCell_same w l'.blk k cur e va hcur
  have hcell0 : ∀ b off, b ≠ l'.blk → (w.setCell ⟨l'.blk, k, none⟩ va).cell? ⟨b, off, none⟩ = w.cell? ⟨b, off, none⟩ := fun b off hb => World.cell?_of_block (hw0 b hb)
  have hadd := hdrop.add (w' := w.setCell ⟨l'.blk, k, none⟩ va) (blks l' (.rows ik xss hole) ++ blks l'' (.ints ik ys)) rfl rfl rfl (by simp) (fun b _ hb => hw0 b (fun e => hb (List.mem_append_left _ (e ▸ hout))))
    (fun b hb => by
      rcases List.mem_append.1 hb with hb | hb
      · exact ⟨hok.mine rfl b hb, hok.np b hb⟩
      · exact ⟨hokp.mine rfl b hb, hokp.np b hb⟩)
    (fun o1 ob1 l1 e1 q1 b hb hb2 => by
      by_cases a : o1 = o
      · subst a; simp at e1
      · rw [upd_ne _ _ a] at e1
        by_cases c : o1 = p
        · subst c; simp at e1
        · rw [upd_ne _ _ c] at e1
          rcases List.mem_append.1 hb2 with hb2 | hb2
          · exact hs.apart (Ne.symm a) ho rfl hlo e1 q1 hb hb2
          · exact hs.apart (Ne.symm c) hp rfl hlp e1 q1 hb hb2)
    ⟨l'.blk, l'.base, l'.capc, insPut l' xss.length k ⟨l''.blk, l''.base, l''.capc⟩⟩ ⟨true, .rows ik (xss.set k ys) none⟩ rfl (fun b hb => .inl (hmemD b hb)) ?_ (fun b hb => ?_) (by rw [flat_rows_len, List.length_set]; exact hlen) ⟨fun j a ha => ?_, fun j zs hj _ => ?_⟩ ⟨hb0, fun _ => ⟨_, e, hw1, by simpa using hcs⟩, fun j lj hj hjl _ => ?_⟩
  rotate_left
  · simp only [blks]
    rw [List.nodup_append]
    refine ⟨n1, inB_nodup_mk fun a b la lb hlt ea eb ca cb _ _ => ?_, fun b hb b' hb' => ?_⟩
    · rcases hget a la ea ca with ⟨ha, rfl⟩ | ⟨ha, ea2⟩ <;> rcases hget b lb eb cb with ⟨hb, rfl⟩ | ⟨hb, eb2⟩
      · omega
      · exact hpo' ca _ (hin b lb hb eb2 cb)
      · exact Ne.symm (hpo' cb _ (hin a la ha ea2 ca))
      · exact inB_nodup n2 ea2 eb2 ca cb (by rcases hh with h | h <;> rw [h] <;> simp; omega) (by rcases hh with h | h <;> rw [h] <;> simp; omega) (by omega)
    · rw [if_neg hcap, List.mem_singleton] at hb
      subst hb
      obtain ⟨j, lj, e1, e2, _, rfl⟩ := inB_iff.1 hb'
      rcases hget j lj e1 e2 with ⟨_, rfl⟩ | ⟨hj, hl⟩
      · exact Ne.symm (hpo' e2 _ hout)
      · exact Ne.symm (hin2 j lj hj hl e2)
  · rcases List.mem_append.1 (hmemD b hb) with hb | hb
    · have := hok.lt b hb; simpa using this
    · have := hokp.lt b hb; simpa using this
  · simp only [Cont.flat, reduceCtorEq, if_false, List.getElem?_map, Option.map_eq_some_iff] at ha
    obtain ⟨⟨zs, j'⟩, hz, rfl⟩ := ha
    rw [List.getElem?_zipIdx, Option.map_eq_some_iff] at hz
    obtain ⟨zs', hz1, hz2⟩ := hz
    simp only [Nat.zero_add, Prod.mk.injEq] at hz2
    obtain ⟨rfl, rfl⟩ := hz2
    have hjl : j < xss.length := by have := (List.getElem?_eq_some_iff.1 hz1).1; simpa using this
    rw [hb0, Nat.zero_add, cell_of_row _ l'.blk j _ e (0, 0) hw1]
    by_cases ej : j = k
    · subst ej
      rw [List.getElem?_set_self hk] at hz1
      cases hz1
      refine ⟨va, by rw [Array.getElem?_setIfInBounds_self_of_lt (by omega)], h1, ?_⟩
      simp only [Rep]
      exact ⟨_, ⟨l''.blk, l''.base, l''.capc⟩, upd_same _ _ _, insPut_get.2 ⟨hjl, by rw [if_pos rfl]⟩, hva⟩
    · rw [List.getElem?_set_ne (Ne.symm ej)] at hz1
      obtain ⟨v, hv, hv1, hr⟩ := hok.cells.1 j (if hole = some j then .any else .psl o j 0 zs'.length none) (by simp only [Cont.flat, List.getElem?_map, List.getElem?_zipIdx, hz1, Option.map_some, Nat.zero_add])
      rw [hb0, Nat.zero_add, cell_of_row w l'.blk j cur e (0, 0) hcur] at hv
      rw [if_neg (by rcases hh with h | h <;> rw [h] <;> simp; omega)] at hr
      refine ⟨v, by rw [Array.getElem?_setIfInBounds_ne (Ne.symm ej)]; exact hv, hv1, ?_⟩
      simp only [Rep] at hr ⊢
      obtain ⟨l1, li, q1, q2, q3⟩ := hr
      have : l1 = l' := Option.some.inj (q1.symm.trans hlo)
      subst this
      exact ⟨_, li, upd_same _ _ _, insPut_get.2 ⟨hjl, by rw [if_neg ej, List.getD_eq_getElem?_getD, q2]; rfl⟩, q3⟩
  · have hjl : j < xss.length := by have := (List.getElem?_eq_some_iff.1 hj).1; simpa using this
    by_cases ej : j = k
    · subst ej
      rw [List.getElem?_set_self hk] at hj
      cases hj
      refine ⟨⟨l''.blk, l''.base, l''.capc⟩, insPut_get.2 ⟨hjl, by rw [if_pos rfl]⟩, by have := hokp.len; simpa [Cont.flat] using this, fun i n hi => ?_⟩
      have hil := (List.getElem?_eq_some_iff.1 hi).1
      have hpc : l''.capc ≠ 0 := by have := hokp.len; simp [Cont.flat] at this; omega
      rw [hcell0 _ _ (hpo' hpc _ hout)]
      obtain ⟨v, hv, _, hr⟩ := hokp.cells.1 i (.val (.int ik n)) (by simp [Cont.flat, hi])
      simp only [Rep] at hr
      subst hr
      exact hv
    · rw [List.getElem?_set_ne (Ne.symm ej)] at hj
      obtain ⟨li, hli, hle, hcl⟩ := hok.cells.2 j zs hj (by rcases hh with h | h <;> rw [h] <;> simp; omega)
      refine ⟨li, insPut_get.2 ⟨hjl, by rw [if_neg ej, List.getD_eq_getElem?_getD, hli]; rfl⟩, hle, fun i n hi => ?_⟩
      have hil := (List.getElem?_eq_some_iff.1 hi).1
      rw [hcell0 _ _ (hin2 j li ej hli (by omega))]
      exact hcl i n hi
  · rw [List.length_set] at hjl
    obtain ⟨g1, g2⟩ := insPut_get.1 hj
    by_cases ej : j = k
    · rw [if_pos ej] at g2
      subst g2
      exact ⟨pb0, fun hc => by obtain ⟨c1, e1, c2, c3⟩ := popn hc; exact ⟨c1, e1, by rw [hw0 _ (hpo' hc _ hout)]; exact c2, c3⟩⟩
    · rw [if_neg ej] at g2
      have hx : ∃ zs, xss[j]? = some zs := ⟨_, List.getElem?_eq_getElem hjl⟩
      obtain ⟨zs, hz⟩ := hx
      obtain ⟨li, hli, _, _⟩ := hok.cells.2 j zs hz (by rcases hh with h | h <;> rw [h] <;> simp; omega)
      rw [List.getD_eq_getElem?_getD, hli] at g2
      simp only [Option.getD_some] at g2
      subst g2
      obtain ⟨ib, io⟩ := hopi j lj hli hjl (by rcases hh with h | h <;> rw [h] <;> simp; omega)
      exact ⟨ib, fun hc => by rw [hw0 _ (hin2 j lj ej hli hc)]; exact io hc⟩
  · have hm2 : (upd m next (some ⟨l'.blk, l'.base, l'.capc, insPut l' xss.length k ⟨l''.blk, l''.base, l''.capc⟩⟩)) o = some l' := by rw [upd_ne _ _ hon]; exact hlo
    refine hadd.add [] rfl rfl rfl (Nat.le_refl _) (fun _ _ _ => rfl) (by simp) (by simp) ⟨0, 0, 0, []⟩ ⟨true, .same o next⟩ rfl (by simp [blks]) (by simp [blks]) (by simp [blks]) (by simp [Cont.flat]) ⟨fun i a hi => by simp [Cont.flat] at hi, ?_⟩ ⟨rfl, fun h => absurd rfl h, trivial⟩
    refine ⟨l', ⟨l'.blk, l'.base, l'.capc, insPut l' xss.length k ⟨l''.blk, l''.base, l''.capc⟩⟩, ?_, ?_, rfl, rfl, rfl⟩
    · rw [upd_ne _ _ (by intro e; have := hs.fresh o (by omega); rw [hlo] at this; cases this)]; exact hm2
    · rw [upd_ne _ _ (by omega)]; exact upd_same _ _ _
end

def aAlloc (tab : Tab) (h : Hp) (n : Nat) (e : TypeId) (c : Cont) (K : AV → Hp → Nat → Prop) : Prop :=
  ∃ i, tab e = some i ∧ c.simple = true ∧ c.flat n = i.zero.map .val ∧ i.zero.all Value.oneCell' = true ∧ K (.ref n 0) (upd h n (some ⟨true, c⟩)) (n + 1)

/-- The content of a new variable. -/
def zcont (tab : Tab) (e : TypeId) : Cont :=
  match tab e with
  | some i => (match i.ty with
    | .array k e => (match tyOf tab e with
      | some (.int ik) => .ints ik (List.replicate k 0)
      | some .bool => .bools (List.replicate k false)
      | _ => .cells (i.zero.map .val))
    | _ => .cells (i.zero.map .val))
  | none => .cells []

def aBox (h : Hp) (n : Nat) (v : AV) (K : AV → Hp → Nat → Prop) : Prop :=
  v.parts.all AV.cell = true ∧ K (.ref n 0) (upd h n (some ⟨true, .cells v.parts⟩)) (n + 1)

def setIn (c : Cont) (k : Nat) (v : AV) (K : Cont → Prop) : Prop :=
  match c with
  | .cells as => k < as.length ∧ v.cell = true ∧ K (.cells (as.set k v))
  | .ints ik xs => (match v with
    | .val (.int ik' n) => ik' = ik ∧ k < xs.length ∧ K (.ints ik (xs.set k n))
    | _ => False)
  | .bools bs => (match v with
    | .val (.bool b) => k < bs.length ∧ K (.bools (bs.set k b))
    | _ => False)
  | .strs ss => (match v with
    | .val (.string s) => k < ss.length ∧ K (.strs (ss.set k s))
    | _ => False)
  | .rows .. => False
  | .raw _ => False
  | .same _ _ => False

def aStore (tab : Tab) (h : Hp) (n : Nat) (t : TypeId) (x v : AV) (K : AV → Hp → Nat → Prop) : Prop :=
  match x with
  | .ref o k => ∃ ob, h o = some ob ∧ ob.rw = true ∧ szOf tab t = some 1 ∧ (match ob.cont with
    | .rows ik xss hole => (match v with
      | .sl p 0 len 1 none => ∃ ys, h p = some ⟨true, .ints ik ys⟩ ∧ len = ys.length ∧ k < xss.length ∧ (hole = none ∨ hole = some k) ∧
          K .any (upd (upd (upd (upd h p none) o none) n (some ⟨true, .rows ik (xss.set k ys) none⟩)) (n + 1) (some ⟨true, .same o n⟩)) (n + 2)
      | _ => False)
    | c => setIn c k v (fun c' => K .any (upd h o (some ⟨true, c'⟩)) n))
  | _ => False

/-- A whole variable of many cells is stored. -/
def aStoreAll0 (tab : Tab) (h : Hp) (n : Nat) (t : TypeId) (x v : AV) (c' : Cont) (K : AV → Hp → Nat → Prop) : Prop :=
  match x, v with
  | .ref o 0, .agg as => ∃ ob, h o = some ob ∧ ob.rw = true ∧ ob.cont.simple = true ∧ c'.simple = true ∧ 0 < as.length ∧ (ob.cont.flat o).length = as.length ∧ szOf tab t = some as.length ∧ as.all AV.cell = true ∧ c'.flat o = as ∧
      K .any (upd h o (some ⟨true, c'⟩)) n
  | _, _ => False

/-- Several cells of a row are stored. -/
def aStoreAt (tab : Tab) (h : Hp) (n : Nat) (t : TypeId) (x v : AV) (c' : Cont) (K : AV → Hp → Nat → Prop) : Prop :=
  match x, v with
  | .ref o p, .agg as => ∃ ob, h o = some ob ∧ ob.rw = true ∧ ob.cont.simple = true ∧ c'.simple = true ∧ 0 < as.length ∧ p + as.length ≤ (ob.cont.flat o).length ∧ szOf tab t = some as.length ∧ as.all AV.cell = true ∧ c'.flat o = (ob.cont.flat o).take p ++ as ++ (ob.cont.flat o).drop (p + as.length) ∧
      K .any (upd h o (some ⟨true, c'⟩)) n
  | _, _ => False
def aStoreAll (tab : Tab) (h : Hp) (n : Nat) (t : TypeId) (x v : AV) (c' : Cont) (K : AV → Hp → Nat → Prop) : Prop := aStoreAll0 tab h n t x v c' K ∨ aStoreAt tab h n t x v c' K

theorem setIn_spec {o : Nat} {c : Cont} {k : Nat} {v : AV} {K : Cont → Prop} (h : setIn c k v K) : ∃ c', K c' ∧ c.simple = true ∧ c'.simple = true ∧ k < (c.flat o).length ∧ v.cell = true ∧ c'.flat o = (c.flat o).set k v := by
  cases c with
  | cells as => obtain ⟨h1, h2, hK⟩ := h; exact ⟨_, hK, rfl, rfl, h1, h2, rfl⟩
  | ints ik xs =>
    simp only [setIn] at h
    split at h
    · obtain ⟨rfl, h2, hK⟩ := h; exact ⟨_, hK, rfl, rfl, by simpa [Cont.flat] using h2, rfl, by simp [Cont.flat, List.map_set]⟩
    · exact h.elim
  | bools bs =>
    simp only [setIn] at h
    split at h
    · obtain ⟨h2, hK⟩ := h; exact ⟨_, hK, rfl, rfl, by simpa [Cont.flat] using h2, rfl, by simp [Cont.flat, List.map_set]⟩
    · exact h.elim
  | strs ss =>
    simp only [setIn] at h
    split at h
    · obtain ⟨h2, hK⟩ := h; exact ⟨_, hK, rfl, rfl, by simpa [Cont.flat] using h2, rfl, by simp [Cont.flat, List.map_set]⟩
    · exact h.elim
  | rows ik xss hole => exact h.elim
  | raw b => exact h.elim
  | same o q => exact h.elim

section
variable {P : Program} {tab : Tab} {F : Fr} {W w : World} {m : Lm} {h : Hp} {next : Nat}

theorem fits_of_repL {m : Lm} {o : Nat} {c : Cont} {vs : Array Value} (h : RepL m (c.flat o) vs.toList) (h1 : ∀ u ∈ vs.toList, u.oneCell' = true) : Fits m o c vs := by
  refine ⟨by have := h.length; simp at this; omega, fun i a ha => ?_⟩
  obtain ⟨x, hx, hr⟩ := h.get ha
  exact ⟨x, by simpa using hx, h1 x (List.mem_of_getElem? hx), hr⟩

theorem aAlloc_sound (ht : TabOk P tab) (hs : Sim F W m h next w) {e : TypeId} {c : Cont} {K : AV → Hp → Nat → Prop} (hr : aAlloc tab h next e c K) :
    ∃ v w', (Instr.alloc e true (.tuple #[])).run P w = .ok v w' ∧ Acts F W m w true K v w' := by
  obtain ⟨i, hi, hc, hflat, hone, hK⟩ := hr
  obtain ⟨d, inf, z, _, _, hinf, _, _, hz, hzc, _⟩ := ht e i hi
  refine ⟨.pointer (some ⟨w.heap.size, 0, none⟩), w.alloc (.cells z.cells e), ?_, upd m next (some ⟨w.heap.size, 0, z.cells.size, []⟩), _, _, _, hK, ?_, hs.alloc hc ?_, hs.mono_next _, fun _ => grow_alloc _ _⟩
  · simp [Instr.alloc, zeroValue, typeInfo, hinf, hz, newVar, newRow]
  · simp only [Rep]; exact ⟨_, upd_same _ _ _, rfl⟩
  · refine fits_of_repL ?_ ?_
    · rw [hflat, hzc]; exact repL_vals _
    · rw [hzc]; exact List.all_eq_true.1 hone

theorem aBox_sound (hs : Sim F W m h next w) {e : TypeId} {a : AV} {va : Value} {K : AV → Hp → Nat → Prop} (hr : aBox h next a K) (ha : Rep m a va) :
    ∃ v w', (Instr.box e va).run P w = .ok v w' ∧ Acts F W m w true K v w' := by
  obtain ⟨hc, hK⟩ := hr
  obtain ⟨hp, hone⟩ := parts_rep hc ha
  refine ⟨.pointer (some ⟨w.heap.size, 0, none⟩), w.alloc (.cells va.cells e), ?_, upd m next (some ⟨w.heap.size, 0, va.cells.size, []⟩), _, _, _, hK, ?_, hs.alloc rfl ?_, hs.mono_next _, fun _ => grow_alloc _ _⟩
  · simp [Instr.box, newVar, newRow]
  · simp only [Rep]; exact ⟨_, upd_same _ _ _, rfl⟩
  · exact fits_of_repL (hp.mono (hs.mono_next _)) hone

theorem aStore_sound (ht : TabOk P tab) (hs : Sim F W m h next w) {t : TypeId} {x a : AV} {vx va : Value} {K : AV → Hp → Nat → Prop} (hr : aStore tab h next t x a K) (hx : Rep m x vx) (ha : Rep m a va) :
    ∃ w', (Instr.storeAt t vx va).run P w = .ok () w' ∧ Acts F W m w false K undef w' := by
  unfold aStore at hr
  split at hr
  · rename_i o k
    obtain ⟨ob, hob, hrw, hsz, hset⟩ := hr
    obtain ⟨inf, hinf, hs1⟩ := tab_size ht hsz
    simp only [Rep] at hx
    obtain ⟨l, hl, rfl⟩ := hx
    by_cases hrows : ∃ ik xss hole, ob.cont = .rows ik xss hole
    · obtain ⟨ik, xss, hole, hcont⟩ := hrows
      obtain ⟨rw0, c0⟩ := ob
      simp only at hcont hrw
      subst hcont hrw
      simp only at hset
      split at hset
      · rename_i p len
        obtain ⟨ys, hp, rfl, hk, hh, hK⟩ := hset
        obtain ⟨l', hl', hok⟩ := hs.obj o _ hob
        have : l' = l := Option.some.inj (hl'.symm.trans hl)
        subst this
        obtain ⟨hb0, hop, _⟩ := hok.opn rfl
        have hlen := hok.len
        rw [flat_rows_len] at hlen
        have hcap : l'.capc ≠ 0 := by omega
        obtain ⟨cur, e, hcur, hcs⟩ := hop hcap
        simp only [Rep] at ha
        obtain ⟨lp, hlp, hva⟩ := ha
        have h1 : va.oneCell' = true := by obtain ⟨_, _, rfl, _⟩ := hva; rfl
        have hread : w.cell? ⟨l'.blk, k, none⟩ = some (cur[k]'(by omega)) := by rw [cell_of_row w l'.blk k cur e (0, 0) hcur]; simp
        have hfree := frozen_of_row w l'.blk k cur e hcur
        refine ⟨w.setCell ⟨l'.blk, k, none⟩ va, ?_, _, _, _, _, hK, by simp [Rep], hs.putRow hob hp hk hh hl hlp hva h1, fun u lu hu => ?_, fun h => by cases h⟩
        · have e1 : va.cells.toList = [va] := by rw [one_cells h1]
          simp [Instr.storeAt, Instr.sureAddr, storeVar, sizeOf, typeInfo, hinf, hs1, one_cells h1, storeCells, run_store, h1, hb0, addr_add, hread, hfree]
        · have h2 : u < next := by
            rcases Nat.lt_or_ge u next with h3 | h3
            · exact h3
            · rw [hs.fresh u h3] at hu; cases hu
          rw [upd_ne _ _ (by omega), upd_ne _ _ (by omega)]; exact hu
      · exact hset.elim
    have hset : setIn ob.cont k a (fun c' => K .any (upd h o (some ⟨true, c'⟩)) next) := by
      cases hcc : ob.cont with
      | rows ik xss hole => exact absurd ⟨ik, xss, hole, hcc⟩ hrows
      | _ => rw [hcc] at hset; exact hset
    obtain ⟨c', hK, hc, hc', hk, hcell, hflat⟩ := setIn_spec (o := o) hset
    obtain ⟨l', hl', hok⟩ := hs.obj o ob hob
    have : l' = l := Option.some.inj (hl'.symm.trans hl)
    subst this
    obtain ⟨hb0, hop, _⟩ := hok.opn hrw
    have hlen := hok.len
    have hcap : l'.capc ≠ 0 := by omega
    obtain ⟨cur, e, hcur, hcs⟩ := hop hcap
    have h1 := cell_one hcell ha
    have hread : w.cell? ⟨l'.blk, k, none⟩ = some (cur[k]'(by omega)) := by rw [cell_of_row w l'.blk k cur e (0, 0) hcur]; simp
    have hfree := frozen_of_row w l'.blk k cur e hcur
    refine ⟨w.setCell ⟨l'.blk, k, none⟩ va, ?_, m, _, _, _, hK, by simp [Rep], ?_, fun _ _ h => h, fun h => by cases h⟩
    · have e1 : va.cells.toList = [va] := by rw [one_cells h1]
      simp [Instr.storeAt, Instr.sureAddr, storeVar, sizeOf, typeInfo, hinf, hs1, one_cells h1, storeCells, run_store, h1, hb0, addr_add, hread, hfree]
    · refine hs.writeBlk (w' := w.setCell ⟨l'.blk, k, none⟩ va) hob hrw hc hl hcap rfl rfl rfl (by simp) (fun k' hk' => heap_setCell_other w _ k' va hk') (heap_setCell_same w l'.blk k cur e va hcur) (by simpa using hcs) hc' ?_
      refine ⟨by rw [hflat]; simp only [List.length_set, Array.size_setIfInBounds]; omega, fun i b hi => ?_⟩
      rw [hflat] at hi
      by_cases hik : i = k
      · subst hik
        rw [List.getElem?_set_self hk] at hi
        cases hi
        exact ⟨va, by rw [Array.getElem?_setIfInBounds_self_of_lt (by omega)], h1, ha⟩
      · rw [List.getElem?_set_ne (Ne.symm hik)] at hi
        obtain ⟨v, hv, h2, hrep⟩ := hok.cells.1 i b hi
        rw [hb0, Nat.zero_add, cell_of_row w l'.blk i cur e (0, 0) hcur] at hv
        exact ⟨v, by rw [Array.getElem?_setIfInBounds_ne (Ne.symm hik)]; exact hv, h2, hrep⟩
  · exact hr.elim

theorem aStoreAll0_sound (ht : TabOk P tab) (hs : Sim F W m h next w) {t : TypeId} {x a : AV} {vx va : Value} {c' : Cont} {K : AV → Hp → Nat → Prop} (hr : aStoreAll0 tab h next t x a c' K) (hx : Rep m x vx) (ha : Rep m a va) :
    ∃ w', (Instr.storeAt t vx va).run P w = .ok () w' ∧ Acts F W m w false K undef w' := by
  unfold aStoreAll0 at hr
  split at hr
  · rename_i o as
    obtain ⟨ob, hob, hrw, hc, hc', hpos, hlen, hsz, hcell, hflat, hK⟩ := hr
    obtain ⟨inf, hinf, hs1⟩ := tab_size ht hsz
    simp only [Rep] at hx
    obtain ⟨l, hl, rfl⟩ := hx
    obtain ⟨l', hl', hok⟩ := hs.obj o ob hob
    have : l' = l := Option.some.inj (hl'.symm.trans hl)
    subst this
    obtain ⟨hb0, hop, _⟩ := hok.opn hrw
    have hlen' := hok.len
    have hcap : l'.capc ≠ 0 := by omega
    obtain ⟨cur, e, hcur, hcs⟩ := hop hcap
    obtain ⟨hp, hone⟩ := parts_rep (a := .agg as) (by simpa [AV.parts] using hcell) ha
    simp only [AV.parts] at hp
    have hvl : va.cells.toList.length = as.length := hp.length.symm
    have hst := run_storeCells_at P l'.blk 0 e va.cells.toList 0 cur w hcur (by omega) hone
    have hvs : va.cells.size = as.length := by simpa using hvl
    simp only [Nat.zero_add, List.take_zero, List.nil_append] at hst
    refine ⟨w.setRow l'.blk (va.cells.toList ++ cur.toList.drop va.cells.toList.length).toArray, ?_, m, _, _, _, hK, by simp [Rep], ?_, fun _ _ h => h, fun h => by cases h⟩
    · simp only [Instr.storeAt, Instr.sureAddr, storeVar, sizeOf, typeInfo, Sem.run_bind, Sem.run_pure, Result.andThen_ok, run_program, hinf, hs1, hvs, hb0, Nat.add_zero]
      simpa using hst
    · refine hs.writeBlk (w' := w.setRow l'.blk (va.cells.toList ++ cur.toList.drop va.cells.toList.length).toArray) hob hrw hc hl hcap rfl rfl rfl (by simp) (fun k' hk' => setRow_other w _ k' _ hk') (setRow_heap w l'.blk cur _ e (0, 0) hcur) (by simp; omega) hc' ?_
      refine ⟨by rw [hflat]; simp; omega, fun i b hi => ?_⟩
      rw [hflat] at hi
      obtain ⟨v, hv, hrep⟩ := hp.get hi
      have hlt := (List.getElem?_eq_some_iff.1 hv).1
      refine ⟨v, ?_, hone v (List.mem_of_getElem? hv), hrep⟩
      simp only [List.getElem?_toArray]
      rw [List.getElem?_append_left hlt]
      exact hv
  · exact hr.elim
theorem aStoreAt_sound (ht : TabOk P tab) (hs : Sim F W m h next w) {t : TypeId} {x a : AV} {vx va : Value} {c' : Cont} {K : AV → Hp → Nat → Prop} (hr : aStoreAt tab h next t x a c' K) (hx : Rep m x vx) (ha : Rep m a va) :
    ∃ w', (Instr.storeAt t vx va).run P w = .ok () w' ∧ Acts F W m w false K undef w' := by
  unfold aStoreAt at hr
  split at hr
  · rename_i o p as
    obtain ⟨ob, hob, hrw, hc, hc', hpos, hlen, hsz, hcell, hflat, hK⟩ := hr
    obtain ⟨inf, hinf, hs1⟩ := tab_size ht hsz
    simp only [Rep] at hx
    obtain ⟨l, hl, rfl⟩ := hx
    obtain ⟨l', hl', hok⟩ := hs.obj o ob hob
    have : l' = l := Option.some.inj (hl'.symm.trans hl)
    subst this
    obtain ⟨hb0, hop, _⟩ := hok.opn hrw
    have hlen' := hok.len
    have hcap : l'.capc ≠ 0 := by omega
    obtain ⟨cur, e, hcur, hcs⟩ := hop hcap
    obtain ⟨hp, hone⟩ := parts_rep (a := .agg as) (by simpa [AV.parts] using hcell) ha
    simp only [AV.parts] at hp
    have hvl : va.cells.toList.length = as.length := hp.length.symm
    have hst := run_storeCells_at P l'.blk p e va.cells.toList 0 cur w hcur (by omega) hone
    have hvs : va.cells.size = as.length := by simpa using hvl
    simp only [Nat.add_zero] at hst
    refine ⟨w.setRow l'.blk (cur.toList.take p ++ va.cells.toList ++ cur.toList.drop (p + va.cells.toList.length)).toArray, ?_, m, _, _, _, hK, by simp [Rep], ?_, fun _ _ h => h, fun h => by cases h⟩
    · simp only [Instr.storeAt, Instr.sureAddr, storeVar, sizeOf, typeInfo, Sem.run_bind, Sem.run_pure, Result.andThen_ok, run_program, hinf, hs1, hvs, hb0, Nat.zero_add]
      simpa using hst
    · refine hs.writeBlk (w' := w.setRow l'.blk (cur.toList.take p ++ va.cells.toList ++ cur.toList.drop (p + va.cells.toList.length)).toArray) hob hrw hc hl hcap rfl rfl rfl (by simp) (fun k' hk' => setRow_other w _ k' _ hk') (setRow_heap w l'.blk cur _ e (0, 0) hcur) (by simp; omega) hc' ?_
      have hwas : ∀ (i : Nat) (b : AV), (ob.cont.flat o)[i]? = some b → ∃ v, cur[i]? = some v ∧ v.oneCell' = true ∧ Rep m b v := fun i b hi => by
        obtain ⟨v, hv, h1, h2⟩ := hok.cells.1 i b hi
        rw [hb0, Nat.zero_add, cell_of_row w l'.blk i cur e (0, 0) hcur] at hv
        exact ⟨v, hv, h1, h2⟩
      have hctl : (cur.toList.take p).length = p := by rw [List.length_take]; simp; omega
      have hftl : ((ob.cont.flat o).take p).length = p := by rw [List.length_take]; omega
      refine ⟨by rw [hflat]; simp; omega, fun i b hi => ?_⟩
      rw [hflat] at hi
      simp only [List.getElem?_toArray]
      rcases Nat.lt_or_ge i p with h1 | h1
      · rw [List.append_assoc, List.getElem?_append_left (by omega), List.getElem?_take, if_pos h1] at hi
        rw [List.append_assoc, List.getElem?_append_left (by omega), List.getElem?_take, if_pos h1]
        obtain ⟨v, hv, q1, q2⟩ := hwas i b hi
        exact ⟨v, by simpa using hv, q1, q2⟩
      · rw [List.append_assoc, List.getElem?_append_right (by omega), hftl] at hi
        rw [List.append_assoc, List.getElem?_append_right (by omega), hctl]
        rcases Nat.lt_or_ge (i - p) as.length with h2 | h2
        · rw [List.getElem?_append_left h2] at hi
          rw [List.getElem?_append_left (by omega)]
          obtain ⟨v, hv, hrep⟩ := hp.get hi
          exact ⟨v, hv, hone v (List.mem_of_getElem? hv), hrep⟩
        · rw [List.getElem?_append_right h2, List.getElem?_drop] at hi
          rw [List.getElem?_append_right (by omega), List.getElem?_drop]
          obtain ⟨v, hv, q1, q2⟩ := hwas _ b hi
          rw [hvl, show p + as.length + (i - p - as.length) = p + as.length + (i - p - as.length) from rfl]
          exact ⟨v, by simpa using hv, q1, q2⟩
  · exact hr.elim
theorem aStoreAll_sound (ht : TabOk P tab) (hs : Sim F W m h next w) {t : TypeId} {x a : AV} {vx va : Value} {c' : Cont} {K : AV → Hp → Nat → Prop} (hr : aStoreAll tab h next t x a c' K) (hx : Rep m x vx) (ha : Rep m a va) :
    ∃ w', (Instr.storeAt t vx va).run P w = .ok () w' ∧ Acts F W m w false K undef w' :=
  hr.elim (fun hr => aStoreAll0_sound ht hs hr hx ha) fun hr => aStoreAt_sound ht hs hr hx ha

end
end Go.Ab
