/- Rows of rows of one's own in code: slices are renamed, rows are taken out, nil rows are rows. -/
import Derived.Test.YtbnldepaebcojaaAb15
namespace Go.Ab
set_option linter.all false
open Go Go.RowKit

section
variable {F : Fr} {W w : World} {m : Lm} {h : Hp} {next : Nat}
/-- A cell is told in another way. -/
theorem Sim.recell (hs : Sim F W m h next w) {b i : Nat} {as : List AV} {a a' : AV} (hb : h b = some ⟨true, .cells as⟩) (hi : as[i]? = some a) (ha : ∀ v, Rep m a v → Rep m a' v) : Sim F W m (upd h b (some ⟨true, .cells (as.set i a')⟩)) next w := by
  obtain ⟨l, hl, hok⟩ := hs.obj b _ hb
  refine hs.write hb rfl rfl hl (by simp [blks]) rfl rfl rfl (Nat.le_refl _) (fun _ _ _ => rfl) (by have := hok.len; simpa [Cont.flat] using this) ⟨fun j x hj => ?_, trivial⟩ ⟨(hok.opn rfl).1, (hok.opn rfl).2.1, trivial⟩
  simp only [Cont.flat] at hj
  by_cases e : i = j
  · subst e
    have hlt : i < as.length := (List.getElem?_eq_some_iff.1 hi).1
    rw [List.getElem?_set_self hlt] at hj
    cases hj
    obtain ⟨v, hv, h1, hr⟩ := hok.cells.1 i a (by simpa [Cont.flat] using hi)
    exact ⟨v, hv, h1, ha v hr⟩
  · rw [List.getElem?_set_ne e] at hj
    exact hok.cells.1 j x (by simpa [Cont.flat] using hj)

theorem Sim.sameRep (hs : Sim F W m h next w) {j o q off len es : Nat} {lim : Option Nat} (hj : h j = some ⟨true, .same o q⟩) : ∀ v, Rep m (.sl o off len es lim) v → Rep m (.sl q off len es lim) v := fun v hv => by
  obtain ⟨l, hl, hok⟩ := hs.obj j _ hj
  obtain ⟨l1, l2, e1, e2, e3, e4, e5⟩ := hok.cells.2
  simp only [Rep] at hv ⊢
  obtain ⟨l0, g1, g2⟩ := hv
  have : l0 = l1 := Option.some.inj (g1.symm.trans e1)
  subst this
  exact ⟨l2, e2, by rw [← e3, ← e4, ← e5]; exact g2⟩
end

theorem gat_nils {h : Hp} {ik : IntKind} : ∀ n : Nat, Gat h ik (List.replicate n (.val (.slice Option.none 0 0))) [] (List.replicate n [])
  | 0 => .nil
  | n + 1 => .none (gat_nils n)

section
variable {P : Program} {Γ : Ctx} {nt : Nat} {Q : Exit → St → Prop} {s : St}

/-- Rows were moved: a slice of them in a cell bears the new name. -/
theorem awp_same {c : Code} (j b i : Nat) {o q off len es : Nat} {lim : Option Nat} {as : List AV} (hj : s.heap j = some ⟨true, .same o q⟩) (hb : s.heap b = some ⟨true, .cells as⟩) (hi : as[i]? = some (.sl o off len es lim))
    (h : AWP Γ nt P c Q ⟨s.tmps, upd s.heap b (some ⟨true, .cells (as.set i (.sl q off len es lim))⟩), s.next⟩) : AWP Γ nt P c Q s := fun hS C hC hr m a w hs =>
  h hS C hC hr m a w ⟨hs.sim.recell hb hi (hs.sim.sameRep hj), hs.keep, hs.size, hs.defers, hs.tmps⟩
/-- The same, in a slot. -/
theorem awp_sameT {c : Code} (j : Nat) (t : Tmp) {o q off len es : Nat} {lim : Option Nat} (hj : s.heap j = some ⟨true, .same o q⟩) (ht : s.tmps t = .sl o off len es lim)
    (h : AWP Γ nt P c Q ⟨upd s.tmps t (.sl q off len es lim), s.heap, s.next⟩) : AWP Γ nt P c Q s := fun hS C hC hr m a w hs =>
  h hS C hC hr m a w ⟨hs.sim, hs.keep, hs.size, hs.defers, fun u => by
    by_cases e : u = t
    · subst e; simp only [upd_same]; have := hs.tmps u; rw [ht] at this; exact hs.sim.sameRep hj _ this
    · simp only [upd_ne _ _ e]; exact hs.tmps u⟩
/-- A row in a slot is taken out of its rows. -/
theorem awp_detach {c : Code} (t : Tmp) {o j len : Nat} {ik : IntKind} {xss : List (List Int)} (ht : s.tmps t = .psl o j 0 len Option.none) (ho : s.heap o = some ⟨true, .rows ik xss Option.none⟩) (hj : j < xss.length)
    (h : AWP Γ nt P c Q ⟨upd s.tmps t (.sl s.next 0 len 1 Option.none), upd (upd s.heap o (some ⟨true, .rows ik xss (some j)⟩)) s.next (some ⟨true, .ints ik (xss.getD j [])⟩), s.next + 1⟩) : AWP Γ nt P c Q s := by
  intro hS C hC hr m a w hs
  have hv := hs.tmps t
  rw [ht] at hv
  simp only [Rep] at hv
  obtain ⟨lo, li, hlo, hli, hva⟩ := hv
  obtain ⟨li', hli', hs1⟩ := hs.sim.detach ho hj hlo
  have : li' = li := Option.some.inj (hli'.symm.trans hli)
  subst this
  have hm := hs.sim.mono_next (⟨li'.blk, li'.base, li'.capc, []⟩ : Loc)
  refine h hS C hC hr _ a w ⟨hs1, fun u l hu => hm _ _ (hs.keep u l hu), hs.size, hs.defers, fun u => ?_⟩
  by_cases e : u = t
  · subst e; simp only [upd_same, Rep]; exact ⟨_, rfl, hva⟩
  · simp only [upd_ne _ _ e]; exact (hs.tmps u).mono hm
/-- Slices of rows of one's own, or none, in a cell: all together they are rows. -/
theorem awp_gatherC {c : Code} {ik : IntKind} (b i o : Nat) {as l : List AV} {ps : List Nat} {xss : List (List Int)} {len : Nat} (hb : s.heap b = some ⟨true, .cells as⟩) (hi : as[i]? = some (.sl o 0 len 1 Option.none)) (ho : s.heap o = some ⟨true, .cells l⟩) (hg : Gat s.heap ik l ps xss) (hnd : (o :: ps).Nodup) (hbo : b ∉ o :: ps)
    (h : AWP Γ nt P c Q ⟨s.tmps, upd (upd (dropL s.heap (o :: ps)) s.next (some ⟨true, .rows ik xss Option.none⟩)) b (some ⟨true, .cells (as.set i (.sl s.next 0 len 1 Option.none))⟩), s.next + 1⟩) : AWP Γ nt P c Q s := by
  intro hS C hC hr m a w hs
  obtain ⟨lo, ls, hlo, hsim⟩ := hs.sim.gather ho hg hnd
  have hm := hs.sim.mono_next (⟨lo.blk, lo.base, lo.capc, ls⟩ : Loc)
  have hbn : b ≠ s.next := fun e => by
    obtain ⟨l1, e1, _⟩ := hs.sim.obj b _ hb
    rw [e, hs.sim.fresh _ (Nat.le_refl _)] at e1; cases e1
  have hb2 : (upd (dropL s.heap (o :: ps)) s.next (some ⟨true, .rows ik xss Option.none⟩)) b = some ⟨true, .cells as⟩ := by
    rw [upd_ne _ _ hbn, dropL, if_neg hbo]; exact hb
  refine h hS C hC hr _ a w ⟨hsim.recell hb2 hi fun v hv => ?_, fun u l hu => hm _ _ (hs.keep u l hu), hs.size, hs.defers, fun u => (hs.tmps u).mono hm⟩
  have hne : o ≠ s.next := fun e => by rw [e, hs.sim.fresh _ (Nat.le_refl _)] at hlo; cases hlo
  simp only [Rep] at hv ⊢
  rw [upd_ne _ _ hne] at hv
  obtain ⟨l0, g1, g2⟩ := hv
  have : l0 = lo := Option.some.inj (g1.symm.trans hlo)
  subst this
  exact ⟨_, upd_same _ _ _, g2⟩
end
end Go.Ab
