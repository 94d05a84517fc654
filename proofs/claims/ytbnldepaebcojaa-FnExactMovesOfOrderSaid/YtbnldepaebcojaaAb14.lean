/- Rows of slices of one's own, gathered into one object; states of which less is told. -/
import Derived.Test.YtbnldepaebcojaaAb13
namespace Go.Ab
set_option linter.all false
open Go Go.RowKit

/-- Slots and objects are forgotten; names stay. -/
theorem Wk.sub {Γ : Ctx} {s s' : St} (ht : ∀ t, s'.tmps t = .any ∨ s'.tmps t = s.tmps t) (hh : ∀ o ob, s'.heap o = some ob → s.heap o = some ob) (hn : s'.next = s.next) : Wk Γ s s' := fun C nt m a w hs =>
  ⟨m, ⟨by rw [hn]; exact hs.sim.drop hh, hs.keep, hs.size, hs.defers, fun t => by
    rcases ht t with h | h
    · rw [h]; exact rep_any _ _
    · rw [h]; exact hs.tmps t⟩⟩

/-- Slices of whole rows of one's own, or none. -/
inductive Gat (h : Hp) (ik : IntKind) : List AV → List Nat → List (List Int) → Prop
  | nil : Gat h ik [] [] []
  | own {p len : Nat} {xs : List Int} {l : List AV} {ps : List Nat} {xss : List (List Int)} (hp : h p = some ⟨true, .ints ik xs⟩) (hl : len = xs.length) (r : Gat h ik l ps xss) : Gat h ik (.sl p 0 len 1 Option.none :: l) (p :: ps) (xs :: xss)
  | none {l : List AV} {ps : List Nat} {xss : List (List Int)} (r : Gat h ik l ps xss) : Gat h ik (.val (.slice Option.none 0 0) :: l) ps ([] :: xss)

def dropL (h : Hp) (ps : List Nat) : Hp := fun o => if o ∈ ps then Option.none else h o
theorem dropL_sub {h : Hp} {ps : List Nat} {o : Nat} {ob : Ob} (e : dropL h ps o = some ob) : h o = some ob ∧ o ∉ ps := by
  unfold dropL at e
  split at e
  · cases e
  · rename_i hn; exact ⟨e, hn⟩

def insB (ls : List In) : List Nat := ls.filterMap fun li => if li.capc = 0 then Option.none else some li.blk

theorem insB_zip (ls : List In) : ∀ n, ((ls.zipIdx n).filterMap fun p => if p.1.capc = 0 ∨ (Option.none : Option Nat) = some p.2 then Option.none else some p.1.blk) = insB ls := by
  induction ls with
  | nil => intro n; rfl
  | cons li ls ih =>
    intro n
    simp only [insB, List.zipIdx_cons, List.filterMap_cons, reduceCtorEq, or_false] at ih ⊢
    split <;> rename_i h <;> rw [ih (n + 1)]

section
variable {P : Program} {F : Fr} {W w : World} {m : Lm} {h : Hp} {next : Nat} {ik : IntKind}

theorem gat_ins (hs : Sim F W m h next w) : ∀ {l : List AV} {ps : List Nat} {xss : List (List Int)}, Gat h ik l ps xss → ps.Nodup → ∃ ls : List In,
    ls.length = l.length ∧ xss.length = l.length ∧
    (∀ (i : Nat) (a : AV), l[i]? = some a → ∃ li xs, ls[i]? = some li ∧ xss[i]? = some xs ∧ (∀ v, Rep m a v → SlRep li.blk li.base li.capc 1 0 xs.length Option.none v) ∧ xs.length ≤ li.capc ∧ (∀ (j : Nat) (n : Int), xs[j]? = some n → w.cell? ⟨li.blk, li.base + j, Option.none⟩ = some (.int ik n)) ∧ li.base = 0 ∧ (li.capc ≠ 0 → ∃ cur e, w.heap[li.blk]? = some (.cells cur e (0, 0)) ∧ cur.size = li.capc)) ∧
    (insB ls).Nodup ∧ ∀ k ∈ insB ls, ∃ p ∈ ps, ∃ xs lp, h p = some ⟨true, .ints ik xs⟩ ∧ m p = some lp ∧ k ∈ blks lp (.ints ik xs) := by
  intro l ps xss hg
  induction hg with
  | nil => intro _; exact ⟨[], rfl, rfl, fun i a hi => by simp at hi, by simp [insB], fun k hk => by simp [insB] at hk⟩
  | @own p len xs l ps xss hp hl _ ih =>
    intro hnd
    rw [List.nodup_cons] at hnd
    obtain ⟨ls, h1, h2, h3, h4, h5⟩ := ih hnd.2
    obtain ⟨lp, hlp, hok⟩ := hs.obj p _ hp
    obtain ⟨hb0, hop, _⟩ := hok.opn rfl
    have hlen := hok.len
    simp only [Cont.flat, List.length_map] at hlen
    refine ⟨⟨lp.blk, lp.base, lp.capc⟩ :: ls, by simp [h1], by simp [h2], fun i a hi => ?_, ?_, fun k hk => ?_⟩
    · cases i with
      | zero =>
        simp only [List.getElem?_cons_zero, Option.some.injEq] at hi
        subst hi
        refine ⟨_, xs, rfl, rfl, fun v hv => ?_, hlen, fun j n hj => ?_, hb0, hop⟩
        · simp only [Rep] at hv
          obtain ⟨l0, e1, e2⟩ := hv
          have : l0 = lp := Option.some.inj (e1.symm.trans hlp)
          subst this
          rw [← hl]; exact e2
        · obtain ⟨v, hv, _, hr⟩ := hok.cells.1 j (.val (.int ik n)) (by simp [Cont.flat, hj])
          simp only [Rep] at hr
          subst hr
          exact hv
      | succ i => simpa using h3 i a (by simpa using hi)
    · simp only [insB, List.filterMap_cons]
      by_cases hc : lp.capc = 0
      · rw [if_pos hc]; exact h4
      · rw [if_neg hc]
        simp only [List.nodup_cons]
        refine ⟨fun hm => ?_, h4⟩
        obtain ⟨q, hq, ys, lq, e1, e2, e3⟩ := h5 _ hm
        have hne : p ≠ q := fun e => hnd.1 (e ▸ hq)
        exact hs.sep p _ q _ lp lq lp.blk hne hp e1 rfl rfl hlp e2 (blk_mem hc) e3
    · simp only [insB, List.filterMap_cons] at hk
      by_cases hc : lp.capc = 0
      · rw [if_pos hc] at hk
        obtain ⟨q, hq, r⟩ := h5 k hk
        exact ⟨q, List.mem_cons_of_mem _ hq, r⟩
      · rw [if_neg hc] at hk
        simp only [List.mem_cons] at hk
        rcases hk with rfl | hk
        · exact ⟨p, List.mem_cons_self, xs, lp, hp, hlp, blk_mem hc⟩
        · obtain ⟨q, hq, r⟩ := h5 k hk
          exact ⟨q, List.mem_cons_of_mem _ hq, r⟩
  | @none l ps xss _ ih =>
    intro hnd
    obtain ⟨ls, h1, h2, h3, h4, h5⟩ := ih hnd
    refine ⟨⟨0, 0, 0⟩ :: ls, by simp [h1], by simp [h2], fun i a hi => ?_, by simpa [insB] using h4, fun k hk => h5 k (by simpa [insB] using hk)⟩
    cases i with
    | zero =>
      simp only [List.getElem?_cons_zero, Option.some.injEq] at hi
      subst hi
      refine ⟨_, [], rfl, rfl, fun v hv => ?_, Nat.le_refl _, fun j n hj => by simp at hj, rfl, fun h => absurd rfl h⟩
      simp only [Rep] at hv
      subst hv
      exact ⟨Option.none, 0, rfl, Nat.le_refl _, fun h => absurd rfl h, rfl⟩
    | succ i => simpa using h3 i a (by simpa using hi)

/-- A row of slices of rows of one's own, all together. -/
theorem Sim.gather (hs : Sim F W m h next w) {o : Nat} {l : List AV} {ps : List Nat} {xss : List (List Int)} (ho : h o = some ⟨true, .cells l⟩) (hg : Gat h ik l ps xss) (hnd : (o :: ps).Nodup) :
    ∃ lo ls, m o = some lo ∧ Sim F W (upd m next (some ⟨lo.blk, lo.base, lo.capc, ls⟩)) (upd (dropL h (o :: ps)) next (some ⟨true, .rows ik xss Option.none⟩)) (next + 1) w := by
  rw [List.nodup_cons] at hnd
  obtain ⟨ls, h1, h2, h3, h4, h5⟩ := gat_ins hs hg hnd.2
  obtain ⟨lo, hlo, hok⟩ := hs.obj o _ ho
  obtain ⟨hb0, hop, _⟩ := hok.opn rfl
  have hlen := hok.len
  simp only [Cont.flat] at hlen
  have hdrop : Sim F W m (dropL h (o :: ps)) next w := hs.drop fun o1 ob1 e => (dropL_sub e).1
  have hbl : blks ⟨lo.blk, lo.base, lo.capc, ls⟩ (.rows ik xss Option.none) = blks lo (.cells l) ++ insB ls := by
    simp only [blks, List.append_nil]
    rw [insB_zip ls 0]
  have hfar : ∀ o1 ob1 l1, dropL h (o :: ps) o1 = some ob1 → m o1 = some l1 → ∀ k ∈ blks l1 ob1.cont, k ∉ blks lo (.cells l) ++ insB ls := fun o1 ob1 l1 e hl1 k hk hk2 => by
    obtain ⟨e1, e2⟩ := dropL_sub e
    rw [List.mem_cons, not_or] at e2
    rcases List.mem_append.1 hk2 with hk2 | hk2
    · exact hs.apart (Ne.symm e2.1) ho rfl hlo e1 hl1 hk hk2
    · obtain ⟨p, hp, xs, lp, q1, q2, q3⟩ := h5 k hk2
      exact hs.apart (o := p) (o' := o1) (fun e => e2.2 (by rw [← e]; exact hp)) q1 rfl q2 e1 hl1 hk q3
  refine ⟨lo, ls, hlo, hdrop.add (blks lo (.cells l) ++ insB ls) rfl rfl rfl (Nat.le_refl _) (fun _ _ _ => rfl) (fun k hk => ?_) hfar ⟨lo.blk, lo.base, lo.capc, ls⟩ ⟨true, .rows ik xss Option.none⟩ rfl (fun k hk => .inl (by rw [← hbl]; exact hk)) ?_ (fun k hk => ?_) (by rw [flat_rows_len, h2]; exact hlen) ⟨fun i a ha => ?_, fun i xs hi _ => ?_⟩ ⟨hb0, hop, fun i li hli hi _ => ?_⟩⟩
  · rcases List.mem_append.1 hk with hk | hk
    · exact ⟨hok.mine rfl k hk, hok.np k hk⟩
    · obtain ⟨p, hp, xs, lp, q1, q2, q3⟩ := h5 k hk
      obtain ⟨lp2, q4, hok2⟩ := hs.obj p _ q1
      have : lp2 = lp := Option.some.inj (q4.symm.trans q2)
      subst this
      exact ⟨hok2.mine rfl k q3, hok2.np k q3⟩
  · simp only [hbl]
    rw [List.nodup_append]
    refine ⟨hok.nodup rfl, h4, fun a ha b hb e => ?_⟩
    subst e
    obtain ⟨p, hp, xs, lp, q1, q2, q3⟩ := h5 a hb
    exact hs.sep o _ p _ lo lp a (fun e => hnd.1 (e ▸ hp)) ho q1 rfl rfl hlo q2 ha q3
  · rw [hbl] at hk
    rcases List.mem_append.1 hk with hk | hk
    · exact hok.lt k hk
    · obtain ⟨p, hp, xs, lp, q1, q2, q3⟩ := h5 k hk
      obtain ⟨lp2, q4, hok2⟩ := hs.obj p _ q1
      have : lp2 = lp := Option.some.inj (q4.symm.trans q2)
      subst this
      exact hok2.lt k q3
  · simp only [Cont.flat, reduceCtorEq, if_false, List.getElem?_map, Option.map_eq_some_iff] at ha
    obtain ⟨⟨xs, j⟩, hx, rfl⟩ := ha
    rw [List.getElem?_zipIdx, Option.map_eq_some_iff] at hx
    obtain ⟨zs, hz, he⟩ := hx
    simp only [Nat.zero_add, Prod.mk.injEq] at he
    obtain ⟨rfl, rfl⟩ := he
    have hi : i < l.length := by rw [← h2]; exact (List.getElem?_eq_some_iff.1 hz).1
    obtain ⟨v, hv, hv1, hr⟩ := hok.cells.1 i _ (List.getElem?_eq_getElem hi)
    obtain ⟨li, ys, e1, e2, e3, _⟩ := h3 i _ (List.getElem?_eq_getElem hi)
    have : ys = zs := Option.some.inj (e2.symm.trans hz)
    subst this
    refine ⟨v, hv, hv1, ?_⟩
    simp only [Rep]
    exact ⟨_, li, upd_same _ _ _, e1, e3 v hr⟩
  · have hi' : i < l.length := by rw [← h2]; exact (List.getElem?_eq_some_iff.1 hi).1
    obtain ⟨li, ys, e1, e2, e3, e4, e5, _⟩ := h3 i _ (List.getElem?_eq_getElem hi')
    have : ys = xs := Option.some.inj (e2.symm.trans hi)
    subst this
    exact ⟨li, e1, e4, e5⟩
  · obtain ⟨li2, ys, e1, e2, e3, e4, e5, e6, e7⟩ := h3 i _ (List.getElem?_eq_getElem (show i < l.length by omega))
    have : li2 = li := Option.some.inj (e1.symm.trans hli)
    subst this
    exact ⟨e6, e7⟩
end

section
variable {P : Program} {Γ : Ctx} {nt : Nat} {Q : Exit → St → Prop} {s : St}
theorem awp_gather {c : Code} {ik : IntKind} (t : Tmp) (o : Nat) {l : List AV} {ps : List Nat} {xss : List (List Int)} {len : Nat} (ht : s.tmps t = .sl o 0 len 1 Option.none) (ho : s.heap o = some ⟨true, .cells l⟩) (hg : Gat s.heap ik l ps xss) (hnd : (o :: ps).Nodup)
    (h : AWP Γ nt P c Q ⟨upd s.tmps t (.sl s.next 0 len 1 Option.none), upd (dropL s.heap (o :: ps)) s.next (some ⟨true, .rows ik xss Option.none⟩), s.next + 1⟩) : AWP Γ nt P c Q s := by
  intro hS C hC hr m a w hs
  obtain ⟨lo, ls, hlo, hsim⟩ := hs.sim.gather ho hg hnd
  have hm := hs.sim.mono_next (⟨lo.blk, lo.base, lo.capc, ls⟩ : Loc)
  refine h hS C hC hr _ a w ⟨hsim, fun o l ho => hm _ _ (hs.keep o l ho), hs.size, hs.defers, fun u => ?_⟩
  by_cases e : u = t
  · subst e
    have := hs.tmps u
    rw [ht] at this
    simp only [upd_same, Rep] at this ⊢
    obtain ⟨l1, e1, e2⟩ := this
    have : l1 = lo := Option.some.inj (e1.symm.trans hlo)
    subst this
    exact ⟨_, rfl, e2⟩
  · simp only [upd_ne _ _ e]
    exact (hs.tmps u).mono hm
end

theorem rowsK_gat {h : Hp} {ik : IntKind} : ∀ {l : List AV} {ps : List Nat} {xss : List (List Int)}, Gat h ik l ps xss → ∀ K : List (List Int) → Prop, K xss → rowsK h ik l K := by
  intro l ps xss hg
  induction hg with
  | nil => intro K hK; exact hK
  | own hp hl _ ih =>
    intro K hK
    refine ⟨_, _, hp, by omega, ih _ ?_⟩
    simp only [List.drop_zero]
    rw [List.take_of_length_le (by omega)]
    exact hK
  | none _ ih => intro K hK; exact ih _ hK
end Go.Ab
