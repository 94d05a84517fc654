/- A contract out of a function's body. -/
import Derived.Test.YtbnldepaebcojaaAb10
import Derived.RangeFuncRecord
namespace Go.Ab
set_option linter.all false
open Go Go.RowKit

abbrev noF : Fr := ⟨fun _ => False, []⟩

section
variable {W : World} {m : Lm} {h : Hp} {next : Nat}

/-- A row that came in is read. -/
theorem Sim.addRo (hs : Sim noF W m h next W) {l : Loc} {c : Cont} (hlen : c.len ≤ l.capc) (hcl : c.closed = true) (hcells : CellsAt W (lone1 l) 0 l c) (hlt : ∀ k ∈ blks l c, k < W.heap.size) :
    Sim noF W (upd m next (some l)) (upd h next (some ⟨false, c⟩)) (next + 1) W := by
  have hm := hs.mono_next l
  have hlt' : ∀ o ob', h o = some ob' → o ≠ next := fun o ob' ho e => by
    subst e
    obtain ⟨l', hl', _⟩ := hs.obj o ob' ho
    rw [hs.fresh o (Nat.le_refl _)] at hl'; cases hl'
  refine ⟨hs.kept, fun o ob' ho => ?_, ?_, fun o ho => ?_, fun _ _ h => (by cases h), by simp⟩
  · by_cases e : o = next
    · subst e
      rw [upd_same] at ho
      cases ho
      exact ⟨l, by simp, by rw [flat_len]; exact hlen, cells_re hcl rfl (upd_same _ _ _) hcells, hlt, fun h => (by cases h), fun h => (by cases h), fun h => (by cases h), fun _ k hk => ⟨hlt k hk, fun h => h⟩, fun k _ ⟨_, h⟩ => by cases h⟩
    · rw [upd_ne _ _ e] at ho
      obtain ⟨l', hl', hok⟩ := hs.obj o ob' ho
      exact ⟨l', hm _ _ hl', hok.local hm (Nat.le_refl _) fun _ _ => rfl⟩
  · intro o ob1 o' ob2 l1 l2 k hne ho ho' hr1 hr2 hl1 hl2 hk
    by_cases e : o = next
    · subst e; rw [upd_same] at ho; cases ho; cases hr1
    · by_cases e' : o' = next
      · subst e'; rw [upd_same] at ho'; cases ho'; cases hr2
      · rw [upd_ne _ _ e] at ho hl1
        rw [upd_ne _ _ e'] at ho' hl2
        exact hs.sep o ob1 o' ob2 l1 l2 k hne ho ho' hr1 hr2 hl1 hl2 hk
  · rw [upd_ne _ _ (by omega)]
    exact hs.fresh o (by omega)

mutual
theorem matRo : ∀ (d : DV) (x : Value) (m : Lm) (h : Hp) (next : Nat), Sim noF W m h next W → View W d x →
    ∃ m', Rep m' (mat false d h next).1 x ∧ Sim noF W m' (mat false d h next).2.1 (mat false d h next).2.2 W ∧ (∀ o l, m o = some l → m' o = some l)
  | .val v, x, m, h, next, hs, hv => by
    simp only [View] at hv
    subst hv
    exact ⟨m, by simp only [mat, Rep], by simpa [mat] using hs, fun _ _ h => h⟩
  | .row c, x, m, h, next, hs, hv => by
    simp only [View] at hv
    obtain ⟨hcl, l, hsl, hcells, hlen, hlt⟩ := hv
    exact ⟨upd m next (some l), by simp only [mat, Rep]; exact ⟨l, upd_same _ _ _, hsl⟩, by simp only [mat]; exact hs.addRo hlen hcl hcells hlt, hs.mono_next l⟩
  | .agg ds, x, m, h, next, hs, hv => by
    simp only [View] at hv
    obtain ⟨xs, rfl, hxs⟩ := hv
    obtain ⟨m', h1, h2, h3⟩ := matRoL ds xs m h next hs hxs
    exact ⟨m', by simp only [mat, Rep]; exact ⟨xs, rfl, h1⟩, by simpa [mat] using h2, h3⟩
  | .tup ds, x, m, h, next, hs, hv => by
    simp only [View] at hv
    obtain ⟨xs, rfl, hxs⟩ := hv
    obtain ⟨m', h1, h2, h3⟩ := matRoL ds xs m h next hs hxs
    exact ⟨m', by simp only [mat, Rep]; exact ⟨xs, rfl, h1⟩, by simpa [mat] using h2, h3⟩
theorem matRoL : ∀ (ds : List DV) (xs : List Value) (m : Lm) (h : Hp) (next : Nat), Sim noF W m h next W → ViewL W ds xs →
    ∃ m', RepL m' (mat.matL false ds h next).1 xs ∧ Sim noF W m' (mat.matL false ds h next).2.1 (mat.matL false ds h next).2.2 W ∧ (∀ o l, m o = some l → m' o = some l)
  | [], [], m, h, next, hs, _ => ⟨m, by simp [mat.matL, RepL], by simpa [mat.matL] using hs, fun _ _ h => h⟩
  | [], _ :: _, _, _, _, _, hv => by simp [ViewL] at hv
  | _ :: _, [], _, _, _, _, hv => by simp [ViewL] at hv
  | d :: ds, x :: xs, m, h, next, hs, hv => by
    simp only [ViewL] at hv
    obtain ⟨m1, h1, h2, h3⟩ := matRo d x m h next hs hv.1
    obtain ⟨m2, g1, g2, g3⟩ := matRoL ds xs m1 _ _ h2 hv.2
    exact ⟨m2, by simp only [mat.matL, RepL]; exact ⟨h1.mono g3, g1⟩, by simpa [mat.matL] using g2, fun o l ho => g3 _ _ (h3 _ _ ho)⟩
end
end

/-- The state in which a function begins. -/
def initT : List AV → Nat → Nat → AV
  | [], _ => bot
  | a :: as, k => upd (initT as (k + 1)) k a
def initS (ds : List DV) : St :=
  ⟨initT (mat.matL false ds none' 0).1 0, (mat.matL false ds none' 0).2.1, (mat.matL false ds none' 0).2.2⟩

theorem initT_get : ∀ (as : List AV) (k t : Nat), initT as k (k + t) = (as[t]?).getD .any
  | [], _, _ => by simp [initT, bot]
  | a :: as, k, 0 => by simp [initT]
  | a :: as, k, t + 1 => by
    simp only [initT]
    rw [upd_ne _ _ (by omega), show k + (t + 1) = (k + 1) + t by omega, initT_get as (k + 1) t]
    simp

theorem sim_none (W : World) : Sim noF W (fun _ => none) none' 0 W :=
  ⟨⟨rfl, rfl, rfl, Nat.le_refl _, fun _ _ _ => rfl⟩, fun _ _ h => (by cases h), fun _ _ _ _ _ _ _ _ h => (by cases h), fun _ _ => rfl, fun _ _ h => (by cases h), by simp⟩

/-! ### What is handed back -/

mutual
def retK (h : Hp) : AV → (DV → Prop) → Prop
  | .val (.slice none 0 0), K => ∃ c, c.simple = true ∧ c.closed = true ∧ c.len = 0 ∧ K (.row c)
  | .val v, K => K (.val v)
  | .sl o off len es lim, K => ∃ ob, h o = some ob ∧ ob.rw = true ∧ ob.cont.closed = true ∧ off = 0 ∧ es = 1 ∧ lim = none ∧ len = ob.cont.len ∧ K (.row ob.cont)
  | .agg as, K => retsK h as fun ds => K (.agg ds)
  | .tup as, K => retsK h as fun ds => K (.tup ds)
  | _, _ => False
def retsK (h : Hp) : List AV → (List DV → Prop) → Prop
  | [], K => K []
  | a :: as, K => retK h a fun d => retsK h as fun ds => K (d :: ds)
end

mutual
def AV.ids : AV → List Nat
  | .sl o _ _ _ _ => [o]
  | .agg as => AV.idsL as
  | .tup as => AV.idsL as
  | _ => []
def AV.idsL : List AV → List Nat
  | [] => []
  | a :: as => AV.ids a ++ AV.idsL as
end

def BsOk (W w : World) (m : Lm) (h : Hp) (ids bs : List Nat) : Prop :=
  bs.Nodup ∧ ∀ k ∈ bs, W.heap.size ≤ k ∧ k < w.heap.size ∧ ∃ o ∈ ids, ∃ ob l, h o = some ob ∧ ob.rw = true ∧ m o = some l ∧ k ∈ blks l ob.cont

section
variable {W w : World} {m : Lm} {h : Hp} {next : Nat}

theorem nil_fresh (w : World) {c : Cont} (hc : c.simple = true) (hcl : c.closed = true) (h0 : c.len = 0) : Fresh w (.row c) (.slice none 0 0) [] := by
  simp only [Fresh]
  have hf : c.flat 0 = [] := List.eq_nil_of_length_eq_zero (by rw [flat_len]; exact h0)
  refine ⟨hcl, ⟨0, 0, 0, []⟩, ⟨none, 0, by rw [h0], by omega, fun h => absurd rfl h, rfl⟩, ⟨fun i a ha => by rw [hf] at ha; simp at ha, by cases c <;> simp [Cont.simple] at hc <;> trivial⟩, by omega, ⟨rfl, fun h => absurd rfl h, by cases c <;> simp [Cont.simple] at hc <;> trivial⟩, by rw [blks_simple hc]; simp⟩

mutual
theorem retK_sound (hs : Sim noF W m h next w) : ∀ (a : AV) (x : Value) (K : DV → Prop), Rep m a x → retK h a K → (a.ids).Nodup → ∃ d bs, K d ∧ Fresh w d x bs ∧ BsOk W w m h a.ids bs
  | .val v, x, K, hr, hv, _ => by
    simp only [Rep] at hr
    subst hr
    unfold retK at hv
    split at hv
    case h_1 =>
      rename_i h1
      cases h1
      obtain ⟨c, h1, h2, h3, hK⟩ := hv
      exact ⟨_, [], hK, nil_fresh w h1 h2 h3, by simp [BsOk]⟩
    case h_2 =>
      rename_i h1
      cases h1
      exact ⟨_, [], hv, by simp [Fresh], by simp [BsOk]⟩
    case h_6 => exact hv.elim
    all_goals rename_i h1; cases h1
  | .sl o off len es lim, x, K, hr, hv, _ => by
    simp only [retK] at hv
    obtain ⟨ob, hob, hrw, hcl, rfl, rfl, rfl, rfl, hK⟩ := hv
    simp only [Rep] at hr
    obtain ⟨l, hl, hsl⟩ := hr
    obtain ⟨l', hl', hok⟩ := hs.obj o ob hob
    have : l' = l := Option.some.inj (hl'.symm.trans hl)
    subst this
    refine ⟨_, blks l' ob.cont, hK, ?_, hok.nodup hrw, fun k hk => ⟨?_, hok.lt k hk, o, by simp [AV.ids], ob, l', hob, hrw, hl, hk⟩⟩
    · simp only [Fresh]
      exact ⟨hcl, l', hsl, cells_re hcl hl rfl hok.cells, by rw [← flat_len ob.cont o]; exact hok.len, hok.opn hrw, rfl⟩
    · rcases hok.mine hrw k hk with h1 | h1
      · exact h1.elim
      · exact h1
  | .agg as, x, K, hr, hv, hn => by
    simp only [retK] at hv
    simp only [Rep] at hr
    obtain ⟨xs, rfl, hxs⟩ := hr
    obtain ⟨ds, bs, hK, hf, hb⟩ := retsK_sound hs as xs _ hxs hv (by simpa [AV.ids] using hn)
    exact ⟨_, bs, hK, by simp only [Fresh]; exact ⟨xs, rfl, hf⟩, by simpa [AV.ids] using hb⟩
  | .tup as, x, K, hr, hv, hn => by
    simp only [retK] at hv
    simp only [Rep] at hr
    obtain ⟨xs, rfl, hxs⟩ := hr
    obtain ⟨ds, bs, hK, hf, hb⟩ := retsK_sound hs as xs _ hxs hv (by simpa [AV.ids] using hn)
    exact ⟨_, bs, hK, by simp only [Fresh]; exact ⟨xs, rfl, hf⟩, by simpa [AV.ids] using hb⟩
  | .any, _, _, _, hv, _ => by simp [retK] at hv
  | .ref _ _, _, _, _, hv, _ => by simp [retK] at hv
  | .pref _ _ _, _, _, _, hv, _ => by simp [retK] at hv
  | .psl _ _ _ _ _, _, _, _, hv, _ => by simp [retK] at hv
  | .ifc _ _, _, _, _, hv, _ => by simp [retK] at hv
  | .clo _ _ _, _, _, _, hv, _ => by simp [retK] at hv
  | .mp _, _, _, _, hv, _ => by simp [retK] at hv
  | .yl _, _, _, _, hv, _ => by simp [retK] at hv
theorem retsK_sound (hs : Sim noF W m h next w) : ∀ (as : List AV) (xs : List Value) (K : List DV → Prop), RepL m as xs → retsK h as K → (AV.idsL as).Nodup → ∃ ds bs, K ds ∧ FreshL w ds xs bs ∧ BsOk W w m h (AV.idsL as) bs
  | [], [], K, _, hv, _ => ⟨[], [], by simpa [retsK] using hv, by simp [FreshL], by simp [BsOk]⟩
  | [], _ :: _, _, hr, _, _ => by simp [RepL] at hr
  | _ :: _, [], _, hr, _, _ => by simp [RepL] at hr
  | a :: as, x :: xs, K, hr, hv, hn => by
    simp only [RepL] at hr
    simp only [retsK] at hv
    simp only [AV.idsL, List.nodup_append] at hn
    obtain ⟨d, b1, hv', hf1, hb1⟩ := retK_sound hs a x _ hr.1 hv hn.1
    obtain ⟨ds, b2, hK, hf2, hb2⟩ := retsK_sound hs as xs _ hr.2 hv' hn.2.1
    refine ⟨d :: ds, b1 ++ b2, hK, by simp only [FreshL]; exact ⟨b1, b2, rfl, hf1, hf2⟩, ?_, fun k hk => ?_⟩
    · rw [List.nodup_append]
      refine ⟨hb1.1, hb2.1, fun k hk k' hk' he => ?_⟩
      subst he
      obtain ⟨_, _, o1, ho1, ob1, l1, p1, p2, p3, p4⟩ := hb1.2 k hk
      obtain ⟨_, _, o2, ho2, ob2, l2, q1, q2, q3, q4⟩ := hb2.2 k hk'
      exact hs.sep o1 ob1 o2 ob2 l1 l2 k (hn.2.2 o1 ho1 o2 ho2) p1 q1 p2 q2 p3 q3 p4 q4
    · rcases List.mem_append.1 hk with h1 | h1
      · obtain ⟨e1, e2, o, ho, r⟩ := hb1.2 k h1
        exact ⟨e1, e2, o, by simp [AV.idsL, ho], r⟩
      · obtain ⟨e1, e2, o, ho, r⟩ := hb2.2 k h1
        exact ⟨e1, e2, o, by simp [AV.idsL, ho], r⟩
end
end

/-- One result of a function. -/
def resK (tab : Tab) (s : St) : ResultVar → (AV → Prop) → Prop
  | .tmp t, K => K (s.tmps t)
  | .cell p t, K => rLoad tab s.heap t (s.tmps p) K
def ressK (tab : Tab) (s : St) : List ResultVar → (List AV → Prop) → Prop
  | [], K => K []
  | r :: rs, K => resK tab s r fun a => ressK tab s rs fun as => K (a :: as)

def wrapR : List AV → AV
  | [a] => a
  | as => .tup as

/-- What a function must leave at its end. -/
def doneQ (tab : Tab) (rs : List ResultVar) (Q : DV → Prop) : Exit → St → Prop
  | .normal, s => ressK tab s rs fun as => (AV.ids (wrapR as)).Nodup ∧ retK s.heap (wrapR as) Q
  | .ret, s => ressK tab s rs fun as => (AV.ids (wrapR as)).Nodup ∧ retK s.heap (wrapR as) Q
  | _, _ => False

def resM (tmps : Array Value) : ResultVar → Sem Value
  | .tmp t => pure (tmps.getD t undef)
  | .cell a t => do loadVar t (← asAddr (tmps.getD a undef))

def wrapV : List Value → Value
  | [v] => v
  | vs => .tuple vs.toArray

theorem results_eq (fn : Func) (tmps : Array Value) : results fn tmps = (do let vs ← fn.results.mapM (resM tmps); pure (if h : vs.size = 1 then vs[0] else .tuple vs)) := by
  unfold results
  congr 1

theorem run_results_list {P : Program} {tmps : Array Value} {w : World} : ∀ (rs : List ResultVar) (vs : List Value),
    (∀ (i : Nat) (r : ResultVar), rs[i]? = some r → ∃ v, vs[i]? = some v ∧ (resM tmps r).run P w = .ok v w) → rs.length = vs.length →
    (rs.mapM (resM tmps)).run P w = .ok vs w
  | [], [], _, _ => by simp
  | [], _ :: _, _, hl => by simp at hl
  | _ :: _, [], _, hl => by simp at hl
  | r :: rs, v :: vs, h, hl => by
    obtain ⟨v', hv', hrun⟩ := h 0 r rfl
    simp at hv'
    subst hv'
    have ih := run_results_list (P := P) (tmps := tmps) (w := w) rs vs (fun i r hi => by simpa using h (i + 1) r (by simpa using hi)) (by simpa using hl)
    rw [List.mapM_cons]
    simp only [Sem.run_bind, hrun, Result.andThen_ok, ih, Sem.run_pure]

section
variable {P : Program} {tab : Tab}

theorem run_results {fn : Func} {tmps : Array Value} {w : World} {vs : List Value} (h : ∀ (i : Nat) (r : ResultVar), fn.results.toList[i]? = some r → ∃ v, vs[i]? = some v ∧ (resM tmps r).run P w = .ok v w) (hl : fn.results.toList.length = vs.length) :
    (results fn tmps).run P w = .ok (wrapV vs) w := by
  rw [results_eq, Array.mapM_eq_mapM_toList]
  have := run_results_list (P := P) (tmps := tmps) (w := w) fn.results.toList vs h hl
  simp only [Sem.run_bind, Sem.run_map]
  rw [this]
  simp only [Result.andThen_ok, Sem.run_pure]
  congr 1
  split
  · rename_i h1
    cases vs with
    | nil => simp at h1
    | cons v vs =>
      cases vs with
      | nil => simp [wrapV]
      | cons _ _ => simp at h1
  · rename_i h1
    cases vs with
    | nil => rfl
    | cons v vs =>
      cases vs with
      | nil => simp at h1
      | cons _ _ => rfl

theorem ressK_sound (ht : TabOk P tab) {Γ : Ctx} {C : Cx} {nt : Nat} {m : Lm} {s : St} {a : Act} {w : World} (hs : SimS Γ C nt m s a w) : ∀ (rs : List ResultVar) (K : List AV → Prop), ressK tab s rs K →
    ∃ (as : List AV) (vs : List Value), K as ∧ RepL m as vs ∧ rs.length = vs.length ∧ ∀ (i : Nat) (r : ResultVar), rs[i]? = some r → ∃ v, vs[i]? = some v ∧ (resM a.tmps r).run P w = .ok v w
  | [], K, h => ⟨[], [], h, by simp [RepL], rfl, fun i r hi => by simp at hi⟩
  | r :: rs, K, h => by
    simp only [ressK] at h
    have one : ∃ x v, ressK tab s rs (fun as => K (x :: as)) ∧ Rep m x v ∧ (resM a.tmps r).run P w = .ok v w := by
      cases r with
      | tmp t => exact ⟨_, a.tmps.getD t undef, h, hs.tmps t, by simp [resM]⟩
      | cell p t =>
        simp only [resK] at h
        obtain ⟨x, v, hK, hr, hv⟩ := rLoad_sound ht hs.sim h (hs.tmps p)
        refine ⟨x, v, hK, hr, ?_⟩
        have := hv w (Grow.refl w)
        simp only [resM, Instr.loadAt, Sem.run_bind] at this ⊢
        cases hp : a.tmps.getD p undef with
        | pointer q =>
          rw [hp] at this
          cases q with
          | none => simp [Instr.sureAddr] at this
          | some q => simpa [Instr.sureAddr, asAddr] using this
        | _ => rw [hp] at this; simp [Instr.sureAddr] at this
    obtain ⟨x, v, hrest, hr, hv⟩ := one
    obtain ⟨as, vs, hK, hrep, hlen, hall⟩ := ressK_sound ht hs rs _ hrest
    refine ⟨x :: as, v :: vs, hK, by simp only [RepL]; exact ⟨hr, hrep⟩, by simp [hlen], fun i r' hi => ?_⟩
    cases i with
    | zero => simp at hi; subst hi; exact ⟨v, rfl, hv⟩
    | succ i => simpa using hall i r' (by simpa using hi)

/-- The marks among a frame's deferred calls are taken on its way out. -/
theorem takeMarks {Fc : Fence} {kk : Nat} {fn : Func} {tmps : Array Value} {R : Ending → World → Prop} {F : Fr} {W : World} {m : Lm} {h : Hp} {n : Nat} (hend : ∀ w2, Sim F W m h n w2 → ∃ v, (results fn tmps).run P w2 = .ok v w2 ∧ R (.returned v) w2) :
    ∀ (Ds : List Nat) (w : World), Sim ⟨F.f, Ds.map pmark ++ F.p⟩ W m h n w → (∀ b ∈ Ds, W.heap.size ≤ b) → LeavesInM Fc kk P fn tmps R (Ds.map mark) .returning w
  | [], w, hs, _ => hend w hs
  | b :: Ds, w, hs, hge => by
    have hb : w.heap[b]? = some (.deferred (some [])) := hs.prot b _ (by simp only [List.map_cons, List.cons_append]; exact List.mem_cons_self)
    have hlt : b < w.heap.size := (Array.getElem?_eq_some_iff.1 hb).1
    have hWb : W.heap.size ≤ b := hge b (by simp)
    refine ⟨by simp, .inl ⟨b, _, rfl, run_takeDeferred hb, takeMarks hend Ds _ ?_ fun b' hb' => hge b' (by simp [hb'])⟩⟩
    have hnp : ∀ o ob l, h o = some ob → m o = some l → ∀ k ∈ blks l ob.cont, k ≠ b := fun o ob l ho hl k hk e => by
      obtain ⟨l', hl', hok⟩ := hs.obj o ob ho
      have : l' = l := Option.some.inj (hl'.symm.trans hl)
      subst this
      exact hok.np k hk ⟨.deferred (some []), by rw [e]; simp only [List.map_cons, List.cons_append]; exact List.mem_cons_self⟩
    have hnd := hs.pnd
    simp only [List.map_cons, List.cons_append, List.nodup_cons] at hnd
    refine ⟨⟨hs.kept.os, hs.kept.tape, hs.kept.output, by simpa using hs.kept.size, fun k hk hf => ?_⟩, fun o ob ho => ?_, hs.sep, hs.fresh, fun b' o' h' => ?_, hnd.2⟩
    · rw [World.putObj_heap_other (by omega)]; exact hs.kept.block k hk hf
    · obtain ⟨l, hl, hok⟩ := hs.obj o ob ho
      have hk2 := hok.local (w' := w.putObj b (.deferred none)) (fun _ _ h => h) (by simp) fun k hk => World.putObj_heap_other (hnp o ob l ho hl k hk)
      exact ⟨l, hl, hk2.len, hk2.cells, hk2.lt, hk2.nodup, hk2.opn, hk2.mine, hk2.ro, fun k hk ⟨o', ho'⟩ => hk2.np k hk ⟨o', by simp only [List.map_cons, List.cons_append]; exact List.mem_cons_of_mem _ ho'⟩⟩
    · have hne : b' ≠ b := fun e => hnd.1 (by rw [← e]; exact List.mem_map.2 ⟨_, h', rfl⟩)
      rw [World.putObj_heap_other hne]
      exact hs.prot b' o' (by simp only [List.map_cons, List.cons_append]; exact List.mem_cons_of_mem _ h')

/-- A contract out of a body. -/
theorem sat_intro (ht : TabOk P tab) {f : FuncId} {fn : Func} {c : Code} {S : Ctr} (hf : P.funcs[f]? = some fn) (hb : fn.body = some c) (nt : Nat) (hnt : fn.ntmps = nt) (rs : List ResultVar) (hrs : fn.results = rs.toArray)
    (h : ∀ (ds : List DV) (Q : DV → Prop) (_ : Unit), S ds Q → ds.length ≤ nt ∧ AWP ⟨false, [], fun _ => none⟩ nt P c (doneQ tab rs Q) (initS ds)) : Sat P f S := by
  intro w args ds Q hv hS
  obtain ⟨hlen, hawp⟩ := h ds Q () hS
  obtain ⟨m, hrep, hsim, _⟩ := matRoL ds args (fun _ => none) none' 0 (sim_none w) hv
  have hal : args.length = ds.length := by
    have : ∀ (ds : List DV) (xs : List Value), ViewL w ds xs → xs.length = ds.length := by
      intro ds
      induction ds with
      | nil => intro xs h; cases xs with | nil => rfl | cons _ _ => simp [ViewL] at h
      | cons d ds ih => intro xs h; cases xs with | nil => simp [ViewL] at h | cons x xs => simp only [ViewL] at h; simp [ih xs h.2]
    exact this ds args hv
  have hsize : (args.toArray ++ Array.replicate (fn.ntmps - args.toArray.size) undef).size = nt := by simp [hnt]; omega
  have hinit : SimS ⟨false, [], fun _ => none⟩ ⟨noF, w, [], none⟩ nt m (initS ds) { tmps := args.toArray ++ Array.replicate (fn.ntmps - args.toArray.size) undef, defers := [] } w := by
    refine ⟨hsim, fun o l h => (by cases h), hsize, rfl, fun t => ?_⟩
    have hg := initT_get (mat.matL false ds none' 0).1 0 t
    rw [Nat.zero_add] at hg
    simp only [initS, hg]
    cases ha : (mat.matL false ds none' 0).1[t]? with
    | none => exact rep_any _ _
    | some a =>
      obtain ⟨x, hx, hr⟩ := hrep.get ha
      have hlt := (List.getElem?_eq_some_iff.1 hx).1
      have : (args.toArray ++ Array.replicate (fn.ntmps - args.toArray.size) undef).getD t undef = x := by
        rw [Array.getD_eq_getD_getElem?, Array.getElem?_append_left (by simpa using hlt)]
        simp [hx]
      simp only [Option.getD_some]
      rw [this]
      exact hr
  refine (callsIn_wide (n := 0)).1 (callsIn_of_wp_marks hf hb trivial (wpIn_mono (hawp (by simp) ⟨noF, w, [], none⟩ ⟨by simp, by simp, by simp⟩ rfl m _ w hinit) fun e a' w' ⟨Ds, hD1, hD2, m', s', hs', hq⟩ => ?_) rfl)
  have fin : (ressK tab s' rs fun as => (AV.ids (wrapR as)).Nodup ∧ retK s'.heap (wrapR as) Q) → LeavesInM (rF none) 0 P fn a'.tmps (fun e w' => ∃ v1 r bs, e = .returned v1 ∧ Q r ∧ Grow w w' ∧ Fresh w' r v1 bs ∧ bs.Nodup ∧ ∀ k ∈ bs, w.heap.size ≤ k ∧ k < w'.heap.size) a'.defers .returning w' := fun hq => by
    rw [hs'.defers]
    simp only [Cx.add, List.append_nil]
    refine takeMarks (F := noF) (fun w2 hs2 => ?_) Ds w' hs'.sim hD2
    have hs3 : SimS ⟨false, [], fun _ => none⟩ ⟨noF, w, [], none⟩ nt m' s' { a' with defers := [] } w2 := ⟨hs2, hs'.keep, hs'.size, rfl, hs'.tmps⟩
    obtain ⟨as, vs, ⟨hnd, hret⟩, hrep', hlen', hall⟩ := ressK_sound ht hs3 rs _ hq
    have hrun := run_results (P := P) (fn := fn) (tmps := a'.tmps) (w := w2) (vs := vs) (by rw [hrs]; simpa using hall) (by rw [hrs]; simpa using hlen')
    refine ⟨_, hrun, ?_⟩
    have hwrap : Rep m' (wrapR as) (wrapV vs) := by
      cases as with
      | nil => cases vs with
        | nil => simp only [wrapR, wrapV, Rep]; exact ⟨[], rfl, by simp [RepL]⟩
        | cons _ _ => simp [RepL] at hrep'
      | cons x as => cases as with
        | nil => cases vs with
          | nil => simp [RepL] at hrep'
          | cons v vs => cases vs with
            | nil => simp only [RepL, and_true] at hrep'; exact hrep'
            | cons _ _ => simp [RepL] at hrep'
        | cons y as => cases vs with
          | nil => simp [RepL] at hrep'
          | cons v vs => cases vs with
            | nil => simp [RepL] at hrep'
            | cons u vs => simp only [wrapR, wrapV, Rep]; exact ⟨_, rfl, hrep'⟩
    obtain ⟨d, bs, hQ, hfr, hnd2, hbs⟩ := retK_sound hs3.sim _ _ _ hwrap hret hnd
    have hk := hs3.sim.kept
    exact ⟨_, d, bs, rfl, hQ, ⟨hk.os, hk.tape, hk.output, hk.size, fun k hlt => hk.block k hlt (fun h => h)⟩, hfr, hnd2, fun k hk => ⟨(hbs k hk).1, (hbs k hk).2.1⟩⟩
  cases e with
  | normal => exact fin hq
  | ret => exact fin hq
  | _ => exact hq.elim

def doneH (tab : Tab) (rs : List ResultVar) (K : AV → Hp → Nat → Prop) : Exit → St → Prop
  | .normal, s => ressK tab s rs fun as => K (wrapR as) s.heap s.next
  | .ret, s => ressK tab s rs fun as => K (wrapR as) s.heap s.next
  | _, _ => False

mutual
theorem rep_lt {m : Lm} {n : Nat} (hm : ∀ o l, m o = some l → o < n) : ∀ (a : AV) (x : Value), Rep m a x → a.lt n = true
  | .any, _, _ => rfl
  | .val _, _, _ => rfl
  | .ref o _, _, h => by simp only [Rep] at h; obtain ⟨l, h, _⟩ := h; simpa [AV.lt] using hm _ _ h
  | .sl o _ _ _ _, _, h => by simp only [Rep] at h; obtain ⟨l, h, _⟩ := h; simpa [AV.lt] using hm _ _ h
  | .pref o _ _, _, h => by simp only [Rep] at h; obtain ⟨l, _, h, _⟩ := h; simpa [AV.lt] using hm _ _ h
  | .psl o _ _ _ _, _, h => by simp only [Rep] at h; obtain ⟨l, _, h, _⟩ := h; simpa [AV.lt] using hm _ _ h
  | .mp o, _, h => by simp only [Rep] at h; obtain ⟨l, h, _⟩ := h; simpa [AV.lt] using hm _ _ h
  | .yl o, _, h => by simp only [Rep] at h; obtain ⟨l, h, _⟩ := h; simpa [AV.lt] using hm _ _ h
  | .agg as, _, h => by simp only [Rep] at h; obtain ⟨xs, _, h⟩ := h; simpa [AV.lt] using repL_lt hm as xs h
  | .tup as, _, h => by simp only [Rep] at h; obtain ⟨xs, _, h⟩ := h; simpa [AV.lt] using repL_lt hm as xs h
  | .ifc _ a, _, h => by simp only [Rep] at h; obtain ⟨y, _, h⟩ := h; simpa [AV.lt] using rep_lt hm a y h
  | .clo _ xs ys, _, h => by simp only [Rep] at h; obtain ⟨us, vs, _, h1, h2⟩ := h; simp only [AV.lt, Bool.and_eq_true]; exact ⟨repL_lt hm xs us h1, repL_lt hm ys vs h2⟩
theorem repL_lt {m : Lm} {n : Nat} (hm : ∀ o l, m o = some l → o < n) : ∀ (as : List AV) (xs : List Value), RepL m as xs → AV.ltL n as = true
  | [], _, _ => rfl
  | _ :: _, [], h => by simp [RepL] at h
  | a :: as, x :: xs, h => by simp only [RepL] at h; simp only [AV.ltL, Bool.and_eq_true]; exact ⟨rep_lt hm a x h.1, repL_lt hm as xs h.2⟩
end

theorem sim_closed {F : Fr} {W w : World} {m : Lm} {h : Hp} {n : Nat} (hs : Sim F W m h n w) : HClosed h n := fun o ob ho => by
  have hm : ∀ o l, m o = some l → o < n := fun o l h => m0_lt hs.fresh h
  obtain ⟨l, hl, hok⟩ := hs.obj o ob ho
  refine ⟨hm o l hl, ?_⟩
  cases hc : ob.cont with
  | cells as =>
    have hk := hok.cells
    rw [hc] at hk
    simp only [Cont.lt]
    have : ∀ (bs : List AV), (∀ a ∈ bs, a.lt n = true) → AV.ltL n bs = true := by
      intro bs
      induction bs with
      | nil => intro _; rfl
      | cons b bs ih => intro h; simp only [AV.ltL, Bool.and_eq_true]; exact ⟨h b (by simp), ih fun a ha => h a (by simp [ha])⟩
    refine this as fun a ha => ?_
    obtain ⟨i, hi⟩ := List.mem_iff_getElem?.1 ha
    obtain ⟨v, _, _, hr⟩ := hk.1 i a hi
    exact rep_lt hm a v hr
  | same o q =>
    have hk := hok.cells
    rw [hc] at hk
    obtain ⟨l1, l2, e1, e2, _⟩ := hk.2
    simp only [Cont.lt, Bool.and_eq_true, decide_eq_true_eq]
    exact ⟨hm _ _ e1, hm _ _ e2⟩
  | _ => rfl

/-- A call is made by running the body of the function, in the caller's state. -/
theorem callH_inline (ht : TabOk P tab) {f : FuncId} {fn : Func} {c : Code} (hf : P.funcs[f]? = some fn) (hb : fn.body = some c) (nt : Nat) (hnt : fn.ntmps = nt) (rs : List ResultVar) (hrs : fn.results = rs.toArray)
    {fl : Bool} {S : List Snap} {h : Hp} {n : Nat} {as : List AV} {K : AV → Hp → Nat → Prop} (hlen : as.length ≤ nt)
    (hk : ∀ m0 : Lm, (∀ o, n ≤ o → m0 o = none) → HClosed h n → AV.ltL n as = true → AWP ⟨false, S, m0⟩ nt P c (doneH tab rs K) ⟨initT as 0, h, n⟩) : aCallH P fl S f h n as K := by
  intro F W m xs w hS hsim hrep
  have hal : xs.length = as.length := hrep.length.symm
  have hsize : (xs.toArray ++ Array.replicate (fn.ntmps - xs.toArray.size) undef).size = nt := by simp [hnt]; omega
  have hinit : SimS ⟨false, S, m⟩ ⟨F, W, [], none⟩ nt m ⟨initT as 0, h, n⟩ { tmps := xs.toArray ++ Array.replicate (fn.ntmps - xs.toArray.size) undef, defers := [] } w := by
    refine ⟨hsim, fun o l h => h, hsize, rfl, fun t => ?_⟩
    have hg := initT_get as 0 t
    rw [Nat.zero_add] at hg
    simp only [hg]
    cases ha : as[t]? with
    | none => exact rep_any _ _
    | some a =>
      obtain ⟨x, hx, hr⟩ := hrep.get ha
      have hlt := (List.getElem?_eq_some_iff.1 hx).1
      have : (xs.toArray ++ Array.replicate (fn.ntmps - xs.toArray.size) undef).getD t undef = x := by
        rw [Array.getD_eq_getD_getElem?, Array.getElem?_append_left (by simpa using hlt)]
        simp [hx]
      simp only [Option.getD_some]
      rw [this]
      exact hr
  have hm : ∀ o l, m o = some l → o < n := fun o l h => m0_lt hsim.fresh h
  refine (callsIn_wide (n := 0)).1 (callsIn_of_wp_marks hf hb trivial (wpIn_mono (hk m hsim.fresh (sim_closed hsim) (repL_lt hm as xs hrep) hS ⟨F, W, [], none⟩ ⟨by simp, by simp, by simp⟩ rfl m _ w hinit) fun e a' w' ⟨Ds, hD1, hD2, m', s', hs', hq⟩ => ?_) rfl)
  have fin : (ressK tab s' rs fun as => K (wrapR as) s'.heap s'.next) → LeavesInM (rF none) 0 P fn a'.tmps (fun e w' => ∃ v1, e = .returned v1 ∧ Acts F W m w false K v1 w') a'.defers .returning w' := fun hq => by
    rw [hs'.defers]
    simp only [Cx.add, List.append_nil]
    refine takeMarks (F := F) (fun w2 hs2 => ?_) Ds w' hs'.sim hD2
    have hs3 : SimS ⟨false, S, m⟩ ⟨F, W, [], none⟩ nt m' s' { a' with defers := [] } w2 := ⟨hs2, hs'.keep, hs'.size, rfl, hs'.tmps⟩
    obtain ⟨as, vs, hret, hrep', hlen', hall⟩ := ressK_sound ht hs3 rs _ hq
    have hrun := run_results (P := P) (fn := fn) (tmps := a'.tmps) (w := w2) (vs := vs) (by rw [hrs]; simpa using hall) (by rw [hrs]; simpa using hlen')
    refine ⟨_, hrun, _, rfl, m', wrapR as, _, _, hret, ?_, hs2, hs'.keep, fun h => by cases h⟩
    cases as with
    | nil => cases vs with
      | nil => simp only [wrapR, wrapV, Rep]; exact ⟨[], rfl, by simp [RepL]⟩
      | cons _ _ => simp [RepL] at hrep'
    | cons x as => cases as with
      | nil => cases vs with
        | nil => simp [RepL] at hrep'
        | cons v vs => cases vs with
          | nil => simp only [RepL, and_true] at hrep'; exact hrep'
          | cons _ _ => simp [RepL] at hrep'
      | cons y as => cases vs with
        | nil => simp [RepL] at hrep'
        | cons v vs => cases vs with
          | nil => simp [RepL] at hrep'
          | cons u vs => simp only [wrapR, wrapV, Rep]; exact ⟨_, rfl, hrep'⟩
  cases e with
  | normal => exact fin hq
  | ret => exact fin hq
  | _ => exact hq.elim

/-! A call of a function that only reads: its body is run in the caller's state, of which nothing may be written. -/
def ro (h : Hp) : Hp := fun o => (h o).map fun ob => ⟨false, ob.cont⟩
theorem ro_upd (h : Hp) (o : Nat) (b : Bool) (c : Cont) : ro (upd h o (some ⟨b, c⟩)) = upd (ro h) o (some ⟨false, c⟩) := by
  funext k; unfold ro upd; split <;> rfl
theorem ro_none (h : Hp) (o : Nat) : ro (upd h o none) = upd (ro h) o none := by
  funext k; unfold ro upd; split <;> rfl
theorem ro_nil : ro none' = none' := rfl
mutual
def AV.known : AV → Bool
  | .val _ => true
  | .tup as => AV.knownL as
  | .agg as => AV.knownL as
  | _ => false
def AV.knownL : List AV → Bool
  | [] => true
  | a :: as => AV.known a && AV.knownL as
end
mutual
theorem rep_known {m m' : Lm} : ∀ (a : AV) (x : Value), a.known = true → Rep m a x → Rep m' a x
  | .val _, _, _, h => by simpa [Rep] using h
  | .tup as, _, hk, h => by simp only [AV.known] at hk; simp only [Rep] at h ⊢; obtain ⟨xs, h1, h2⟩ := h; exact ⟨xs, h1, repL_known as xs hk h2⟩
  | .agg as, _, hk, h => by simp only [AV.known] at hk; simp only [Rep] at h ⊢; obtain ⟨xs, h1, h2⟩ := h; exact ⟨xs, h1, repL_known as xs hk h2⟩
  | .any, _, hk, _ => by simp [AV.known] at hk
  | .ref _ _, _, hk, _ => by simp [AV.known] at hk
  | .sl _ _ _ _ _, _, hk, _ => by simp [AV.known] at hk
  | .pref _ _ _, _, hk, _ => by simp [AV.known] at hk
  | .psl _ _ _ _ _, _, hk, _ => by simp [AV.known] at hk
  | .mp _, _, hk, _ => by simp [AV.known] at hk
  | .yl _, _, hk, _ => by simp [AV.known] at hk
  | .ifc _ _, _, hk, _ => by simp [AV.known] at hk
  | .clo _ _ _, _, hk, _ => by simp [AV.known] at hk
theorem repL_known {m m' : Lm} : ∀ (as : List AV) (xs : List Value), AV.knownL as = true → RepL m as xs → RepL m' as xs
  | [], [], _, _ => by simp [RepL]
  | [], _ :: _, _, h => by simp [RepL] at h
  | _ :: _, [], _, h => by simp [RepL] at h
  | a :: as, x :: xs, hk, h => by
    simp only [AV.knownL, Bool.and_eq_true] at hk
    simp only [RepL] at h ⊢
    exact ⟨rep_known a x hk.1 h.1, repL_known as xs hk.2 h.2⟩
end
theorem sim_ro {F : Fr} {W w : World} {m : Lm} {h : Hp} {n : Nat} (hs : Sim F W m h n w) : Sim noF w m (ro h) n w := by
  have key : ∀ o ob', ro h o = some ob' → ∃ ob, h o = some ob ∧ ob' = ⟨false, ob.cont⟩ := fun o ob' ho => by
    simp only [ro, Option.map_eq_some_iff] at ho
    obtain ⟨ob, h1, h2⟩ := ho
    exact ⟨ob, h1, h2.symm⟩
  refine ⟨⟨rfl, rfl, rfl, Nat.le_refl _, fun _ _ _ => rfl⟩, fun o ob' ho => ?_, fun o ob o' ob' l l' k _ ho _ hr => ?_, hs.fresh, fun _ _ h => (by cases h), by simp⟩
  · obtain ⟨ob, h1, rfl⟩ := key o ob' ho
    obtain ⟨l, hl, hok⟩ := hs.obj o ob h1
    exact ⟨l, hl, hok.len, hok.cells, hok.lt, fun h => (by cases h), fun h => (by cases h), fun h => (by cases h), fun _ k hk => ⟨hok.lt k hk, fun h => h⟩, fun k _ ⟨_, h⟩ => by cases h⟩
  · obtain ⟨ob1, _, rfl⟩ := key o ob ho
    cases hr
def doneT (tab : Tab) (rs : List ResultVar) (K : AV → Prop) : Exit → St → Prop
  | .normal, s => ressK tab s rs fun as => (wrapR as).known = true ∧ K (wrapR as)
  | .ret, s => ressK tab s rs fun as => (wrapR as).known = true ∧ K (wrapR as)
  | _, _ => False
theorem callT_inline (ht : TabOk P tab) {f : FuncId} {fn : Func} {c : Code} (hf : P.funcs[f]? = some fn) (hb : fn.body = some c) (nt : Nat) (hnt : fn.ntmps = nt) (rs : List ResultVar) (hrs : fn.results = rs.toArray)
    {fl : Bool} {S : List Snap} {h : Hp} {n : Nat} {as : List AV} {K : AV → Hp → Nat → Prop} (hlen : as.length ≤ nt)
    (hk : ∀ (_ : Unit) (m0 : Lm), (∀ o, n ≤ o → m0 o = none) → HClosed h n → AV.ltL n as = true → AWP ⟨false, S, m0⟩ nt P c (doneT tab rs fun a => K a h n) ⟨initT as 0, ro h, n⟩) : aCallT P fl S f h n as K := by
  intro F W m xs w hS hsim hrep
  have hm : ∀ o l, m o = some l → o < n := fun o l h => m0_lt hsim.fresh h
  have hH : aCallH P fl S f (ro h) n as (fun a _ _ => a.known = true ∧ K a h n) :=
    callH_inline ht hf hb nt hnt rs hrs hlen fun m0 hm0 _ hlt => by
      have := hk () m0 hm0 (sim_closed hsim) hlt
      exact this.mono fun e s hq => by cases e <;> exact hq
  refine (hH noF w m xs w hS (sim_ro hsim) hrep).mono fun e w' ⟨v, he, m', a, h', n', ⟨q1, q0⟩, q2, q3, q4, _⟩ => ?_
  have hg : Grow w w' := ⟨q3.kept.os, q3.kept.tape, q3.kept.output, q3.kept.size, fun k hlt => q3.kept.block k hlt (fun h => h)⟩
  exact ⟨v, he, m, a, h, n, q0, rep_known a v q1 q2, hsim.grow hg, fun _ _ h => h, fun _ => hg⟩

/-- What a function does to the state in which it is called. -/
abbrev CtrH := List AV → Hp → Nat → (AV → Hp → Nat → Prop) → Prop
def SatH (P : Program) (f : FuncId) (S : CtrH) : Prop := ∀ (F : Bool) (W : List Snap) h n as K, S as h n K → aCallH P F W f h n as K
theorem callX_satH {F : Bool} {W : List Snap} {h : Hp} {n : Nat} {f : FuncId} {S : CtrH} {as : List AV} {K : AV → Hp → Nat → Prop} (hS : SatH P f S) (hs : S as h n K) : aCallX P F W true f h n as K := callX_h (hS _ _ _ _ _ _ hs)
theorem satH_intro (ht : TabOk P tab) {f : FuncId} {fn : Func} {c : Code} {S : CtrH} (hf : P.funcs[f]? = some fn) (hb : fn.body = some c) (nt : Nat) (hnt : fn.ntmps = nt) (rs : List ResultVar) (hrs : fn.results = rs.toArray)
    (hk : ∀ (F : Bool) (W : List Snap) h n as K, S as h n K → as.length ≤ nt ∧ ∀ m0 : Lm, (∀ o, n ≤ o → m0 o = none) → HClosed h n → AV.ltL n as = true → AWP ⟨false, W, m0⟩ nt P c (doneH tab rs K) ⟨initT as 0, h, n⟩) : SatH P f S := fun F W h n as K hS => by
  obtain ⟨h1, h2⟩ := hk F W h n as K hS
  exact callH_inline ht hf hb nt hnt rs hrs h1 h2
end
end Go.Ab
