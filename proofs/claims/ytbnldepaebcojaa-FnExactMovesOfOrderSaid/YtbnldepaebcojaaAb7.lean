/- Contracts: what a function is handed and hands back, by value; and how a caller meets one. -/
import Derived.Test.YtbnldepaebcojaaAb6
namespace Go.Ab
set_option linter.all false
open Go Go.RowKit

inductive DV where
  | val (v : Value)
  | row (c : Cont)
  | agg (ds : List DV)
  | tup (ds : List DV)

def Cont.len : Cont → Nat
  | .cells as => as.length
  | .ints _ xs => xs.length
  | .strs ss => ss.length
  | .bools bs => bs.length
  | .rows _ xss _ => xss.length
  | .raw _ => 0
  | .same _ _ => 0

theorem flat_len (c : Cont) (o : Nat) : (c.flat o).length = c.len := by cases c <;> simp [Cont.flat, Cont.len]

def AV.closed : AV → Bool
  | .val _ => true
  | _ => false

/-- Contents that name no object. -/
def Cont.closed : Cont → Bool
  | .cells as => as.all AV.closed
  | .rows _ _ hole => hole.isNone
  | .raw _ => false
  | .same _ _ => false
  | _ => true

abbrev lone1 (l : Loc) : Lm := fun _ => some l

/-- A row of values that is read. -/
def RoRow (w : World) (c : Cont) (x : Value) : Prop :=
  ∃ l : Loc, SlRep l.blk l.base l.capc 1 0 c.len none x ∧ CellsAt w (lone1 l) 0 l c ∧ c.len ≤ l.capc ∧ (∀ k ∈ blks l c, k < w.heap.size)

mutual
def View (w : World) : DV → Value → Prop
  | .val v, x => x = v
  | .row c, x => c.closed = true ∧ RoRow w c x
  | .agg ds, x => ∃ xs : List Value, x = .agg xs.toArray ∧ ViewL w ds xs
  | .tup ds, x => ∃ xs : List Value, x = .tuple xs.toArray ∧ ViewL w ds xs
def ViewL (w : World) : List DV → List Value → Prop
  | [], [] => True
  | d :: ds, x :: xs => View w d x ∧ ViewL w ds xs
  | _, _ => False
end

/-- A row of values of one's own. -/
def OwnedRow (w : World) (c : Cont) (x : Value) (bs : List Nat) : Prop :=
  ∃ l : Loc, SlRep l.blk l.base l.capc 1 0 c.len none x ∧ CellsAt w (lone1 l) 0 l c ∧ c.len ≤ l.capc ∧ Open w l c ∧ bs = blks l c

mutual
def Fresh (w : World) : DV → Value → List Nat → Prop
  | .val v, x, bs => x = v ∧ bs = []
  | .row c, x, bs => c.closed = true ∧ OwnedRow w c x bs
  | .agg ds, x, bs => ∃ xs : List Value, x = .agg xs.toArray ∧ FreshL w ds xs bs
  | .tup ds, x, bs => ∃ xs : List Value, x = .tuple xs.toArray ∧ FreshL w ds xs bs
def FreshL (w : World) : List DV → List Value → List Nat → Prop
  | [], [], bs => bs = []
  | d :: ds, x :: xs, bs => ∃ b1 b2, bs = b1 ++ b2 ∧ Fresh w d x b1 ∧ FreshL w ds xs b2
  | _, _, _ => False
end

abbrev Ctr := List DV → (DV → Prop) → Prop

/-- A function keeps a contract. -/
def Sat (P : Program) (f : FuncId) (S : Ctr) : Prop :=
  ∀ (w : World) (args : List Value) (ds : List DV) (Q : DV → Prop), ViewL w ds args → S ds Q →
    Calls P f args.toArray w fun e w' => ∃ v r bs, e = .returned v ∧ Q r ∧ Grow w w' ∧ Fresh w' r v bs ∧ bs.Nodup ∧ ∀ k ∈ bs, w.heap.size ≤ k ∧ k < w'.heap.size

theorem cells_re {w : World} {m m' : Lm} {o o' : Nat} {l : Loc} {c : Cont} (hc : c.closed = true) (hm : m o = some l) (hm' : m' o' = some l) (h : CellsAt w m o l c) : CellsAt w m' o' l c := by
  refine ⟨fun i a ha => ?_, by cases c <;> first | (simp [Cont.closed] at hc; done) | exact h.2⟩
  cases c with
  | cells as =>
    obtain ⟨v, hv, h1, hr⟩ := h.1 i a ha
    have hcl := List.all_eq_true.1 hc a (List.mem_of_getElem? ha)
    refine ⟨v, hv, h1, ?_⟩
    cases a <;> simp only [AV.closed, Bool.false_eq_true] at hcl
    simpa [Rep] using hr
  | rows k xss hole =>
    have hh : hole = none := by simpa [Cont.closed] using hc
    subst hh
    simp only [Cont.flat, reduceCtorEq, if_false, List.getElem?_map, Option.map_eq_some_iff] at ha
    obtain ⟨⟨xs, j⟩, hx, rfl⟩ := ha
    obtain ⟨v, hv, h1, hr⟩ := h.1 i (.psl o j 0 xs.length none) (by simp only [Cont.flat, reduceCtorEq, if_false, List.getElem?_map, hx, Option.map_some])
    refine ⟨v, hv, h1, ?_⟩
    simp only [Rep] at hr ⊢
    obtain ⟨l1, li, e1, e2, e3⟩ := hr
    have : l1 = l := Option.some.inj (e1.symm.trans hm)
    subst this
    exact ⟨l1, li, hm', e2, e3⟩
  | ints k xs =>
    obtain ⟨v, hv, h1, hr⟩ := h.1 i a ha
    refine ⟨v, hv, h1, ?_⟩
    simp only [Cont.flat, List.getElem?_map, Option.map_eq_some_iff] at ha
    obtain ⟨_, _, rfl⟩ := ha
    simpa [Rep] using hr
  | strs ss =>
    obtain ⟨v, hv, h1, hr⟩ := h.1 i a ha
    refine ⟨v, hv, h1, ?_⟩
    simp only [Cont.flat, List.getElem?_map, Option.map_eq_some_iff] at ha
    obtain ⟨_, _, rfl⟩ := ha
    simpa [Rep] using hr
  | bools bs =>
    obtain ⟨v, hv, h1, hr⟩ := h.1 i a ha
    refine ⟨v, hv, h1, ?_⟩
    simp only [Cont.flat, List.getElem?_map, Option.map_eq_some_iff] at ha
    obtain ⟨_, _, rfl⟩ := ha
    simpa [Rep] using hr
  | raw b => simp [Cont.closed] at hc
  | same o q => simp [Cont.closed] at hc

/-! ### How a caller's values read -/

def viewC (c : Cont) (off len : Nat) (K : DV → Prop) : Prop :=
  match c with
  | .cells as => off + len ≤ as.length ∧ as.all AV.closed = true ∧ K (.row (.cells ((as.drop off).take len)))
  | .ints k xs => off + len ≤ xs.length ∧ K (.row (.ints k ((xs.drop off).take len)))
  | .strs ss => off + len ≤ ss.length ∧ K (.row (.strs ((ss.drop off).take len)))
  | .bools bs => off + len ≤ bs.length ∧ K (.row (.bools ((bs.drop off).take len)))
  | .rows k xss hole => hole = none ∧ off + len ≤ xss.length ∧ K (.row (.rows k ((xss.drop off).take len) none))
  | .raw _ => False
  | .same _ _ => False

mutual
def viewK (h : Hp) : AV → (DV → Prop) → Prop
  | .val (.slice none 0 0), K => ∃ c, c.simple = true ∧ c.closed = true ∧ c.len = 0 ∧ K (.row c)
  | .val v, K => K (.val v)
  | .sl o off len 1 _, K => ∃ ob, h o = some ob ∧ viewC ob.cont off len K
  | .psl o i off len _, K => ∃ r k xss hole, h o = some ⟨r, .rows k xss hole⟩ ∧ i < xss.length ∧ hole ≠ some i ∧ off + len ≤ (xss.getD i []).length ∧ K (.row (.ints k (((xss.getD i []).drop off).take len)))
  | .agg as, K => viewsK h as fun ds => K (.agg ds)
  | _, _ => False
def viewsK (h : Hp) : List AV → (List DV → Prop) → Prop
  | [], K => K []
  | a :: as, K => viewK h a fun d => viewsK h as fun ds => K (d :: ds)
end

/-! A row of slices is handed over as rows. -/
def rowsK (h : Hp) (ik : IntKind) : List AV → (List (List Int) → Prop) → Prop
  | [], K => K []
  | .sl o off len 1 _ :: as, K => ∃ r xs, h o = some ⟨r, .ints ik xs⟩ ∧ off + len ≤ xs.length ∧ rowsK h ik as fun xss => K (((xs.drop off).take len) :: xss)
  | .psl o i off len _ :: as, K => ∃ r yss hole, h o = some ⟨r, .rows ik yss hole⟩ ∧ i < yss.length ∧ hole ≠ some i ∧ off + len ≤ (yss.getD i []).length ∧ rowsK h ik as fun xss => K ((((yss.getD i []).drop off).take len) :: xss)
  | .val (.slice none 0 0) :: as, K => rowsK h ik as fun xss => K ([] :: xss)
  | _ :: _, _ => False
def viewKR (h : Hp) : AV → (DV → Prop) → Prop
  | .sl o off len 1 _, K => ∃ ob, h o = some ob ∧ (match ob.cont with
    | .cells as => off + len ≤ as.length ∧ rowsK h .i64 ((as.drop off).take len) fun xss => K (.row (.rows .i64 xss none))
    | c => viewC c off len K)
  | a, K => viewK h a K
def viewsKR (h : Hp) : List AV → (List DV → Prop) → Prop
  | [], K => K []
  | a :: as, K => viewKR h a fun d => viewsKR h as fun ds => K (d :: ds)

/-- Objects are laid for what a value holds. -/
def mat (rw : Bool) : DV → Hp → Nat → AV × Hp × Nat
  | .val v, h, n => (.val v, h, n)
  | .row c, h, n => (.sl n 0 c.len 1 none, upd h n (some ⟨rw, c⟩), n + 1)
  | .agg ds, h, n => let r := matL rw ds h n; (.agg r.1, r.2.1, r.2.2)
  | .tup ds, h, n => let r := matL rw ds h n; (.tup r.1, r.2.1, r.2.2)
where
  matL (rw : Bool) : List DV → Hp → Nat → List AV × Hp × Nat
  | [], h, n => ([], h, n)
  | d :: ds, h, n => let r := mat rw d h n; let q := matL rw ds r.2.1 r.2.2; (r.1 :: q.1, q.2.1, q.2.2)

def aCall (P : Program) (f : FuncId) (h : Hp) (n : Nat) (as : List AV) (K : AV → Hp → Nat → Prop) : Prop :=
  ∃ S, Sat P f S ∧ viewsK h as fun ds => S ds fun r => K (mat true r h n).1 (mat true r h n).2.1 (mat true r h n).2.2

section
variable {P : Program} {F : Fr} {W w : World} {m : Lm} {h : Hp} {next : Nat}

theorem slRep_win {blk base capc off len : Nat} {lim : Option Nat} {x : Value} (hx : SlRep blk base capc 1 off len lim x) : ∃ c, SlRep blk (base + off) c 1 0 len none x ∧ len ≤ c ∧ off + c ≤ capc := by
  obtain ⟨a, c, rfl, h1, h2, h3⟩ := hx
  refine ⟨c, ⟨a, c, rfl, h1, fun hc => by simpa using h2 hc, by simp⟩, h1, ?_⟩
  cases lim with
  | none => simp only at h3; omega
  | some k => simp only at h3; omega

theorem viewC_sound (hs : Sim F W m h next w) {o off len : Nat} {lim : Option Nat} {ob : Ob} {x : Value} {K : DV → Prop} (ho : h o = some ob) (hx : Rep m (.sl o off len 1 lim) x) (hv : viewC ob.cont off len K) : ∃ d, K d ∧ View w d x := by
  simp only [Rep] at hx
  obtain ⟨l, hl, hsl⟩ := hx
  obtain ⟨l', hl', hok⟩ := hs.obj o ob ho
  have : l' = l := Option.some.inj (hl'.symm.trans hl)
  subst this
  obtain ⟨c, hsl', hlc, hcc⟩ := slRep_win hsl
  have flat : ∀ d : Cont, d.simple = true → d.closed = true → ob.cont.simple = true → off + len ≤ (ob.cont.flat o).length → (∀ o', d.flat o' = ((ob.cont.flat o).drop off).take len) → (∀ a ∈ d.flat 0, AV.closed a = true) → View w (.row d) x := by
    intro d hd hcl hcs hlen hfl hclosed
    simp only [View]
    have hdl : d.len = len := by rw [← flat_len d 0, hfl]; simp; omega
    refine ⟨hcl, ⟨l'.blk, l'.base + off, c, []⟩, by rw [hdl]; exact hsl', ⟨fun i a ha => ?_, by cases d <;> simp [Cont.simple] at hd <;> trivial⟩, by rw [hdl]; exact hlc, fun k hk => ?_⟩
    · have hi : i < len := by have := (List.getElem?_eq_some_iff.1 ha).1; rw [flat_len, hdl] at this; exact this
      have ha2 := ha
      rw [hfl, List.getElem?_take, if_pos hi, List.getElem?_drop] at ha
      obtain ⟨v, hv, h1, hr⟩ := hok.cells.1 _ _ ha
      refine ⟨v, by rw [Nat.add_assoc]; exact hv, h1, ?_⟩
      have := hclosed a (List.mem_of_getElem? ha2)
      cases a <;> simp only [AV.closed, Bool.false_eq_true] at this
      simpa [Rep] using hr
    · rw [blks_simple hd] at hk
      split at hk <;> simp at hk
      subst hk
      simp only at *
      have : l'.capc ≠ 0 := by omega
      exact hok.lt _ (blk_mem this)
  unfold viewC at hv
  cases hcont : ob.cont with
  | cells as =>
    rw [hcont] at hv flat
    obtain ⟨h1, h2, hK⟩ := hv
    refine ⟨_, hK, flat _ rfl ?_ rfl (by simpa [Cont.flat] using h1) (fun _ => rfl) ?_⟩
    · simp only [Cont.closed]
      exact List.all_eq_true.2 fun a ha => List.all_eq_true.1 h2 a (List.mem_of_mem_drop (List.mem_of_mem_take ha))
    · intro a ha
      exact List.all_eq_true.1 h2 a (List.mem_of_mem_drop (List.mem_of_mem_take ha))
  | ints k xs =>
    rw [hcont] at hv flat
    obtain ⟨h1, hK⟩ := hv
    exact ⟨_, hK, flat _ rfl rfl rfl (by simpa [Cont.flat] using h1) (fun _ => by simp [Cont.flat, List.map_drop, List.map_take]) (fun a ha => by
      simp only [Cont.flat, List.mem_map] at ha; obtain ⟨_, _, rfl⟩ := ha; rfl)⟩
  | strs xs =>
    rw [hcont] at hv flat
    obtain ⟨h1, hK⟩ := hv
    exact ⟨_, hK, flat _ rfl rfl rfl (by simpa [Cont.flat] using h1) (fun _ => by simp [Cont.flat, List.map_drop, List.map_take]) (fun a ha => by
      simp only [Cont.flat, List.mem_map] at ha; obtain ⟨_, _, rfl⟩ := ha; rfl)⟩
  | bools xs =>
    rw [hcont] at hv flat
    obtain ⟨h1, hK⟩ := hv
    exact ⟨_, hK, flat _ rfl rfl rfl (by simpa [Cont.flat] using h1) (fun _ => by simp [Cont.flat, List.map_drop, List.map_take]) (fun a ha => by
      simp only [Cont.flat, List.mem_map] at ha; obtain ⟨_, _, rfl⟩ := ha; rfl)⟩
  | raw b => rw [hcont] at hv; exact hv.elim
  | same o q => rw [hcont] at hv; exact hv.elim
  | rows k xss hole =>
    rw [hcont] at hv
    obtain ⟨rfl, hle, hK⟩ := hv
    refine ⟨_, hK, ?_⟩
    simp only [View]
    have hc2 := hok.cells
    have hl2 := hok.len
    have hlt := hok.lt
    rw [hcont] at hc2 hl2 hlt
    have hwl : ((xss.drop off).take len).length = len := by rw [List.length_take, List.length_drop]; omega
    have hget : ∀ i ys, ((xss.drop off).take len)[i]? = some ys → xss[off + i]? = some ys ∧ i < len := fun i ys h => by
      rw [List.getElem?_take] at h
      split at h
      · rename_i hi; rw [List.getElem?_drop] at h; exact ⟨h, hi⟩
      · cases h
    have hlen2 : (Cont.rows k ((xss.drop off).take len) none).len = len := hwl
    refine ⟨rfl, ⟨l'.blk, l'.base + off, c, l'.inner.drop off⟩, by rw [hlen2]; exact hsl', ⟨fun i b hb => ?_, fun i ys hi _ => ?_⟩, by rw [hlen2]; exact hlc, fun kk hk => ?_⟩
    · simp only [Cont.flat, reduceCtorEq, if_false, List.getElem?_map, Option.map_eq_some_iff] at hb
      obtain ⟨⟨ys, j⟩, hx, rfl⟩ := hb
      rw [List.getElem?_zipIdx, Option.map_eq_some_iff] at hx
      obtain ⟨zs, hz, he⟩ := hx
      simp only [Nat.zero_add, Prod.mk.injEq] at he
      obtain ⟨rfl, rfl⟩ := he
      obtain ⟨hz1, hz2⟩ := hget _ _ hz
      obtain ⟨v, hv, h1, hr⟩ := hc2.1 (off + i) (.psl o (off + i) 0 zs.length none) (by simp only [Cont.flat, reduceCtorEq, if_false, List.getElem?_map, List.getElem?_zipIdx, hz1, Option.map_some, Nat.zero_add])
      refine ⟨v, by simp only; rw [Nat.add_assoc]; exact hv, h1, ?_⟩
      simp only [Rep] at hr ⊢
      obtain ⟨l1, li, e1, e2, e3⟩ := hr
      have : l1 = l' := Option.some.inj (e1.symm.trans hl)
      subst this
      exact ⟨_, li, rfl, by simp only [List.getElem?_drop]; exact e2, e3⟩
    · obtain ⟨hz1, hz2⟩ := hget _ _ hi
      obtain ⟨li, e1, e2, e3⟩ := hc2.2 _ _ hz1 (by simp)
      exact ⟨li, by simp only [List.getElem?_drop]; exact e1, e2, e3⟩
    · apply hlt
      simp only [blks, List.mem_append] at hk ⊢
      rcases hk with hk | hk
      · left
        split at hk <;> simp at hk
        subst hk
        have : l'.capc ≠ 0 := by omega
        simp [this]
      · right
        simp only [List.mem_filterMap] at hk ⊢
        obtain ⟨⟨li, i⟩, hmem, hcond⟩ := hk
        rw [List.mem_zipIdx_iff_getElem?] at hmem
        simp only [List.getElem?_drop] at hmem
        refine ⟨(li, off + i), by rw [List.mem_zipIdx_iff_getElem?]; exact hmem, ?_⟩
        simpa using hcond

def InnerOk (w : World) (ik : IntKind) (xs : List Int) (li : In) (v : Value) : Prop :=
  SlRep li.blk li.base li.capc 1 0 xs.length none v ∧ xs.length ≤ li.capc ∧ (∀ (j : Nat) (n : Int), xs[j]? = some n → w.cell? ⟨li.blk, li.base + j, none⟩ = some (.int ik n)) ∧ (li.capc ≠ 0 → li.blk < w.heap.size)
def InnersOk (w : World) (ik : IntKind) : List (List Int) → List In → List Value → Prop
  | [], [], [] => True
  | xs :: xss, li :: ls, v :: vs => InnerOk w ik xs li v ∧ InnersOk w ik xss ls vs
  | _, _, _ => False
theorem InnersOk.get {w : World} {ik : IntKind} : ∀ {xss : List (List Int)} {ls : List In} {vs : List Value}, InnersOk w ik xss ls vs → xss.length = ls.length ∧ xss.length = vs.length ∧ ∀ (i : Nat) (xs : List Int), xss[i]? = some xs → ∃ li v, ls[i]? = some li ∧ vs[i]? = some v ∧ InnerOk w ik xs li v
  | [], [], [], _ => ⟨rfl, rfl, fun i xs h => by simp at h⟩
  | xs :: xss, li :: ls, v :: vs, h => by
    simp only [InnersOk] at h
    obtain ⟨h1, h2, h3⟩ := h.2.get
    refine ⟨by simp [h1], by simp [h2], fun i ys hi => ?_⟩
    cases i with
    | zero => simp at hi; subst hi; exact ⟨li, v, rfl, rfl, h.1⟩
    | succ i => simpa using h3 i ys (by simpa using hi)
  | [], [], _ :: _, h => by simp [InnersOk] at h
  | [], _ :: _, _, h => by simp [InnersOk] at h
  | _ :: _, [], _, h => by simp [InnersOk] at h
  | _ :: _, _ :: _, [], h => by simp [InnersOk] at h

theorem rowsK_sound (hs : Sim F W m h next w) {ik : IntKind} : ∀ (as : List AV) (vs : List Value) (K : List (List Int) → Prop), RepL m as vs → rowsK h ik as K → ∃ xss ls, K xss ∧ InnersOk w ik xss ls vs
  | [], [], K, _, hk => ⟨[], [], hk, by simp [InnersOk]⟩
  | [], _ :: _, _, hr, _ => by simp [RepL] at hr
  | _ :: _, [], _, hr, _ => by simp [RepL] at hr
  | a :: as, v :: vs, K, hr, hk => by
    simp only [RepL] at hr
    unfold rowsK at hk
    split at hk
    · rename_i h1; cases h1
    · rename_i o off len lim as' h1
      cases h1
      obtain ⟨r, xs, ho, hlen, hk⟩ := hk
      obtain ⟨xss, ls, hK, hin⟩ := rowsK_sound hs _ vs _ hr.2 hk
      have hx := hr.1
      simp only [Rep] at hx
      obtain ⟨l, hl, hsl⟩ := hx
      obtain ⟨l', hl', hok⟩ := hs.obj o _ ho
      have : l' = l := Option.some.inj (hl'.symm.trans hl)
      subst this
      obtain ⟨c, hsl', hlc, hcc⟩ := slRep_win hsl
      have hwl : ((xs.drop off).take len).length = len := by rw [List.length_take, List.length_drop]; omega
      refine ⟨_, ⟨l'.blk, l'.base + off, c⟩ :: ls, hK, ?_⟩
      simp only [InnersOk]
      refine ⟨⟨by rw [hwl]; exact hsl', by rw [hwl]; exact hlc, fun j n hj => ?_, fun hc => ?_⟩, hin⟩
      · simp only [List.getElem?_take, List.getElem?_drop] at hj
        split at hj
        · obtain ⟨u, hu, _, hrep⟩ := hok.cells.1 (off + j) (.val (.int ik n)) (by simp [Cont.flat, hj])
          simp only [Rep] at hrep
          subst hrep
          simp only at hu ⊢
          rw [Nat.add_assoc]; exact hu
        · cases hj
      · simp only at hc ⊢
        exact hok.lt _ (blk_mem (by omega))
    · rename_i o i off len lim as' h1
      cases h1
      obtain ⟨r, yss, hole, ho, hi, hh, hlen, hk⟩ := hk
      obtain ⟨xss, ls, hK, hin⟩ := rowsK_sound hs _ vs _ hr.2 hk
      have hx := hr.1
      simp only [Rep] at hx
      obtain ⟨l, li, hl, hli, hsl⟩ := hx
      obtain ⟨l', hl', hok⟩ := hs.obj o _ ho
      have : l' = l := Option.some.inj (hl'.symm.trans hl)
      subst this
      obtain ⟨c, hsl', hlc, hcc⟩ := slRep_win hsl
      have e1 : yss[i]? = some (yss.getD i []) := by simp [List.getElem?_eq_getElem hi, List.getD_eq_getElem?_getD]
      obtain ⟨li2, hli2, hle, hcell⟩ := hok.cells.2 i _ e1 hh
      have : li2 = li := Option.some.inj (hli2.symm.trans hli)
      subst this
      have hwl : (((yss.getD i []).drop off).take len).length = len := by rw [List.length_take, List.length_drop]; omega
      refine ⟨_, ⟨li2.blk, li2.base + off, c⟩ :: ls, hK, ?_⟩
      simp only [InnersOk]
      refine ⟨⟨by rw [hwl]; exact hsl', by rw [hwl]; exact hlc, fun j n hj => ?_, fun hc => ?_⟩, hin⟩
      · simp only [List.getElem?_take, List.getElem?_drop] at hj
        split at hj
        · have := hcell _ _ hj
          simp only
          rw [Nat.add_assoc]; exact this
        · cases hj
      · simp only at hc ⊢
        exact hok.lt _ (inner_mem hli (by omega) hh)
    · rename_i as' h1
      cases h1
      obtain ⟨xss, ls, hK, hin⟩ := rowsK_sound hs _ vs _ hr.2 hk
      have hx := hr.1
      simp only [Rep] at hx
      subst hx
      refine ⟨_, ⟨0, 0, 0⟩ :: ls, hK, ?_⟩
      simp only [InnersOk]
      exact ⟨⟨⟨none, 0, rfl, by simp, fun h => absurd rfl h, by simp⟩, by simp, fun j n hj => by simp at hj, fun h => absurd rfl h⟩, hin⟩
    · exact hk.elim

theorem rowsView_sound (hs : Sim F W m h next w) {o off len : Nat} {lim : Option Nat} {r : Bool} {as : List AV} {x : Value} {K : DV → Prop} (ho : h o = some ⟨r, .cells as⟩) (hx : Rep m (.sl o off len 1 lim) x) (hlen : off + len ≤ as.length) (hk : rowsK h .i64 ((as.drop off).take len) fun xss => K (.row (.rows .i64 xss none))) : ∃ d, K d ∧ View w d x := by
  simp only [Rep] at hx
  obtain ⟨l, hl, hsl⟩ := hx
  obtain ⟨l', hl', hok⟩ := hs.obj o _ ho
  have : l' = l := Option.some.inj (hl'.symm.trans hl)
  subst this
  obtain ⟨c, hsl', hlc, hcc⟩ := slRep_win hsl
  -- the values in the cells
  obtain ⟨news, hnl, hnews, hnrep, hn1⟩ := hs.readWin ho hl (off := off) (k := len) (by simpa [Cont.flat] using hlen)
  obtain ⟨xss, ls, hK, hin⟩ := rowsK_sound hs _ news _ hnrep hk
  obtain ⟨q1, q2, q3⟩ := hin.get
  have hxl : xss.length = len := by omega
  refine ⟨_, hK, ?_⟩
  simp only [View]
  have hlen2 : (Cont.rows IntKind.i64 xss none).len = len := by simp only [Cont.len]; exact hxl
  refine ⟨rfl, ⟨l'.blk, l'.base + off, c, ls⟩, by rw [hlen2]; exact hsl', ⟨fun i a ha => ?_, fun i xs hi _ => ?_⟩, by rw [hlen2]; exact hlc, fun k hk => ?_⟩
  · simp only [Cont.flat, reduceCtorEq, if_false, List.getElem?_map, Option.map_eq_some_iff] at ha
    obtain ⟨⟨xs, j⟩, hx, rfl⟩ := ha
    rw [List.getElem?_zipIdx, Option.map_eq_some_iff] at hx
    obtain ⟨ys, hy, he⟩ := hx
    simp only [Nat.zero_add, Prod.mk.injEq] at he
    obtain ⟨rfl, rfl⟩ := he
    obtain ⟨li, v, e1, e2, e3⟩ := q3 _ _ hy
    refine ⟨v, by have := hnews _ v e2 w (Below.refl _ _); simp only at this ⊢; rw [Nat.add_assoc]; exact this, hn1 v (List.mem_of_getElem? e2), ?_⟩
    simp only [Rep]
    exact ⟨_, li, rfl, e1, e3.1⟩
  · obtain ⟨li, v, e1, e2, e3⟩ := q3 _ _ hi
    exact ⟨li, e1, e3.2.1, e3.2.2.1⟩
  · simp only [blks, List.mem_append] at hk
    rcases hk with hk | hk
    · split at hk <;> simp at hk
      subst hk
      exact hok.lt _ (blk_mem (by omega))
    · simp only [List.mem_filterMap] at hk
      obtain ⟨⟨li, i⟩, hmem, hcond⟩ := hk
      rw [List.mem_zipIdx_iff_getElem?] at hmem
      simp only at hmem
      split at hcond
      · cases hcond
      · rename_i hne
        cases hcond
        have hi : i < xss.length := by rw [q1]; exact (List.getElem?_eq_some_iff.1 hmem).1
        obtain ⟨li2, v, e1, e2, e3⟩ := q3 i _ (List.getElem?_eq_getElem hi)
        have : li2 = li := Option.some.inj (e1.symm.trans hmem)
        subst this
        exact e3.2.2.2 (fun h => hne (.inl h))
end
end Go.Ab
