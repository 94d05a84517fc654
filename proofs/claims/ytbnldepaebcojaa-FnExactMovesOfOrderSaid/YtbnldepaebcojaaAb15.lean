/- Ranges over functions: the statement, and a round. -/
import Derived.Test.YtbnldepaebcojaaAb14
import Derived.RangeFuncNested
namespace Go.Ab
set_option linter.all false
open Go Go.RowKit

section
variable {F : Fr} {W w : World} {m : Lm} {h : Hp} {next : Nat}

/-- Blocks are no longer told. -/
theorem Sim.unprot {f : Nat → Prop} {p p' : List (Nat × Obj)} (hs : Sim ⟨f, p⟩ W m h next w) (hp : p'.Sublist p) : Sim ⟨f, p'⟩ W m h next w :=
  ⟨⟨hs.kept.os, hs.kept.tape, hs.kept.output, hs.kept.size, hs.kept.block⟩, fun o ob ho => by
    obtain ⟨l, hl, hok⟩ := hs.obj o ob ho
    exact ⟨l, hl, hok.len, hok.cells, hok.lt, hok.nodup, hok.opn, hok.mine, hok.ro, fun k hk ⟨o', ho'⟩ => hok.np k hk ⟨o', hp.subset ho'⟩⟩,
    hs.sep, hs.fresh, fun b o hb => hs.prot b o (hp.subset hb), (hp.map _).nodup hs.pnd⟩

/-- A block that is nobody's is told from now on. -/
theorem Sim.protNew (hs : Sim F W m h next w) {b : Nat} {ob : Obj} (hb : w.heap[b]? = some ob) (hf : ∀ o ob' l, h o = some ob' → m o = some l → b ∉ blks l ob'.cont) (hp : ∀ o, (b, o) ∉ F.p) : Sim ⟨F.f, (b, ob) :: F.p⟩ W m h next w := by
  refine ⟨⟨hs.kept.os, hs.kept.tape, hs.kept.output, hs.kept.size, hs.kept.block⟩, fun o ob' ho => ?_, hs.sep, hs.fresh, fun b' o' h' => ?_, ?_⟩
  · obtain ⟨l, hl, hok⟩ := hs.obj o ob' ho
    refine ⟨l, hl, hok.len, hok.cells, hok.lt, hok.nodup, hok.opn, hok.mine, hok.ro, fun k hk ⟨o', ho'⟩ => ?_⟩
    rcases List.mem_cons.1 ho' with e | e
    · cases e; exact hf o ob' l ho hl hk
    · exact hok.np k hk ⟨o', e⟩
  · rcases List.mem_cons.1 h' with e | e
    · cases e; exact hb
    · exact hs.prot b' o' e
  · simp only [List.map_cons, List.nodup_cons]
    refine ⟨fun hm => ?_, hs.pnd⟩
    obtain ⟨⟨b', o'⟩, h1, h2⟩ := List.mem_map.1 hm
    simp only at h2
    subst h2
    exact hp o' h1

/-- An object of one's own that is no row is given up, and told from now on. -/
theorem Sim.protRaw (hs : Sim F W m h next w) {o : Nat} {b : Obj} {l : Loc} (ho : h o = some ⟨true, .raw b⟩) (hl : m o = some l) : Sim ⟨F.f, (l.blk, b) :: F.p⟩ W m (upd h o none) next w := by
  obtain ⟨l', hl', hok⟩ := hs.obj o _ ho
  have : l' = l := Option.some.inj (hl'.symm.trans hl)
  subst this
  have hdrop : Sim F W m (upd h o none) next w := hs.drop fun o1 ob1 h1 => by
    by_cases e : o1 = o
    · subst e; simp at h1
    · rwa [upd_ne _ _ e] at h1
  have hmem : l'.blk ∈ blks l' (.raw b) := by simp [blks]
  refine hdrop.protNew hok.cells.2 (fun o1 ob1 l1 h1 h2 hk => ?_) fun o' ho' => hok.np _ hmem ⟨o', ho'⟩
  by_cases e : o1 = o
  · subst e; simp at h1
  · rw [upd_ne _ _ e] at h1
    exact hs.apart (Ne.symm e) ho rfl hl h1 h2 hk hmem

/-- What a told block holds is changed. -/
theorem Sim.reprot {f : Nat → Prop} {p1 p2 : List (Nat × Obj)} {b : Nat} {ob ob' : Obj} (hs : Sim ⟨f, p1 ++ (b, ob) :: p2⟩ W m h next w) (hmine : f b ∨ W.heap.size ≤ b) : Sim ⟨f, p1 ++ (b, ob') :: p2⟩ W m h next (w.putObj b ob') := by
  have hb := hs.prot b ob (by simp)
  have hlt : b < w.heap.size := (Array.getElem?_eq_some_iff.1 hb).1
  have hnd := hs.pnd
  refine ⟨⟨hs.kept.os, hs.kept.tape, hs.kept.output, by simpa using hs.kept.size, fun k hk hf => ?_⟩, fun o obj ho => ?_, hs.sep, hs.fresh, fun b' o' h' => ?_, by simpa using hnd⟩
  · rw [World.putObj_heap_other (fun e => by subst e; rcases hmine with h1 | h1; exact hf h1; omega)]; exact hs.kept.block k hk hf
  · obtain ⟨l, hl, hok⟩ := hs.obj o obj ho
    have hk2 := hok.local (w' := w.putObj b ob') (fun _ _ h => h) (by simp) fun k hk => World.putObj_heap_other (fun e => hok.np k hk ⟨ob, by rw [e]; simp⟩)
    refine ⟨l, hl, hk2.len, hk2.cells, hk2.lt, hk2.nodup, hk2.opn, hk2.mine, hk2.ro, fun k hk ⟨o', ho'⟩ => ?_⟩
    rcases List.mem_append.1 ho' with h1 | h1
    · exact hk2.np k hk ⟨o', List.mem_append_left _ h1⟩
    · rcases List.mem_cons.1 h1 with h1 | h1
      · cases h1; exact hk2.np b hk ⟨ob, by simp⟩
      · exact hk2.np k hk ⟨o', List.mem_append_right _ (List.mem_cons_of_mem _ h1)⟩
  · simp only [List.map_append, List.map_cons] at hnd
    rw [List.nodup_append] at hnd
    obtain ⟨n1, n2, n3⟩ := hnd
    simp only [List.nodup_cons] at n2
    rcases List.mem_append.1 h' with h1 | h1
    · rw [World.putObj_heap_other (fun e => n3 b' (List.mem_map.2 ⟨_, h1, rfl⟩) b (by simp) e)]
      exact hs.prot b' o' (List.mem_append_left _ h1)
    · rcases List.mem_cons.1 h1 with h1 | h1
      · cases h1; exact World.putObj_heap_same hlt
      · rw [World.putObj_heap_other (fun e => n2.1 (by rw [← e]; exact List.mem_map.2 ⟨_, h1, rfl⟩))]
        exact hs.prot b' o' (List.mem_append_right _ (List.mem_cons_of_mem _ h1))

/-- A told block is an object again, that holds what it holds now. -/
theorem Sim.unprotRaw {f : Nat → Prop} {p : List (Nat × Obj)} {b : Nat} {ob ob' : Obj} {o : Nat} {l : Loc} (hs : Sim ⟨f, (b, ob) :: p⟩ W m h next w) (hl : m o = some l) (hb : l.blk = b) (hc : l.capc = 0) (hb0 : l.base = 0) (hmine : f b ∨ W.heap.size ≤ b) :
    Sim ⟨f, p⟩ W m (upd h o (some ⟨true, .raw ob'⟩)) next (w.putObj b ob') := by
  have h1 : Sim ⟨f, (b, ob') :: p⟩ W m h next (w.putObj b ob') := hs.reprot (p1 := []) hmine
  have hpn := h1.pnd
  simp only [List.map_cons, List.nodup_cons] at hpn
  have h2 : Sim ⟨f, p⟩ W m h next (w.putObj b ob') := h1.unprot (List.sublist_cons_self _ _)
  have hbk : blks l (.raw ob') = [b] := by simp [blks, hc, hb]
  have hfree : ∀ o1 ob1 l1, h o1 = some ob1 → m o1 = some l1 → b ∉ blks l1 ob1.cont := fun o1 ob1 l1 e1 e2 hk => by
    obtain ⟨l2, q1, q2⟩ := h1.obj o1 ob1 e1
    have : l2 = l1 := Option.some.inj (q1.symm.trans e2)
    subst this
    exact q2.np b hk ⟨ob', by simp⟩
  have hhb := h1.prot b ob' (by simp)
  refine ⟨h2.kept, fun o1 ob1 e1 => ?_, fun o1 ob1 o2 ob2 l1 l2 k hne e1 e2 r1 r2 q1 q2 hk => ?_, h2.fresh, h2.prot, h2.pnd⟩
  · by_cases e : o1 = o
    · subst e
      rw [upd_same] at e1
      cases e1
      refine ⟨l, hl, by simp [Cont.flat], ⟨fun i a hi => by simp [Cont.flat] at hi, by rw [hb]; exact hhb⟩, fun k hk => ?_, fun _ => by simp [hbk], fun _ => ⟨hb0, fun h => absurd hc h, trivial⟩, fun _ k hk => ?_, fun h => (by cases h), fun k hk => ?_⟩
      · simp only [hbk, List.mem_singleton] at hk; subst hk; exact (Array.getElem?_eq_some_iff.1 hhb).1
      · simp only [hbk, List.mem_singleton] at hk; subst hk; exact hmine
      · simp only [hbk, List.mem_singleton] at hk; subst hk
        rintro ⟨o', ho'⟩
        exact hpn.1 (List.mem_map.2 ⟨_, ho', rfl⟩)
    · rw [upd_ne _ _ e] at e1; exact h2.obj o1 ob1 e1
  · by_cases a1 : o1 = o
    · subst a1
      rw [upd_same] at e1
      cases e1
      have : l1 = l := Option.some.inj (q1.symm.trans hl)
      subst this
      simp only [hbk, List.mem_singleton] at hk
      subst hk
      rw [upd_ne _ _ (Ne.symm hne)] at e2
      exact hfree o2 ob2 l2 e2 q2
    · rw [upd_ne _ _ a1] at e1
      by_cases a2 : o2 = o
      · subst a2
        rw [upd_same] at e2
        cases e2
        have : l2 = l := Option.some.inj (q2.symm.trans hl)
        subst this
        simp only [hbk, List.mem_singleton]
        rintro rfl
        exact hfree o1 ob1 l1 e1 q1 hk
      · rw [upd_ne _ _ a2] at e2
        exact h2.sep o1 ob1 o2 ob2 l1 l2 k hne e1 e2 r1 r2 q1 q2 hk

/-- A new object that is no row. -/
theorem Sim.addRaw (hs : Sim F W m h next w) (ob : Obj) : Sim F W (upd m next (some ⟨w.heap.size, 0, 0, []⟩)) (upd h next (some ⟨true, .raw ob⟩)) (next + 1) (w.alloc ob) := by
  have hnew : (w.alloc ob).heap[w.heap.size]? = some ob := World.alloc_heap_new w ob
  refine hs.add (w' := w.alloc ob) [] rfl rfl rfl (by simp) (fun k hk _ => Below.heap_alloc w ob k hk) (by simp) (by simp) ⟨w.heap.size, 0, 0, []⟩ ⟨true, .raw ob⟩ rfl ?_ ?_ ?_ (by simp [Cont.flat]) ⟨fun i a hi => by simp [Cont.flat] at hi, hnew⟩ ⟨rfl, fun h => absurd rfl h, trivial⟩
  · intro k hk; simp [blks] at hk; omega
  · simp [blks]
  · intro k hk; simp [blks] at hk; subst hk; simp

/-- A block that is nobody's is changed. -/
theorem Sim.putFree (hs : Sim F W m h next w) {b : Nat} (ob : Obj) (hmine : F b ∨ W.heap.size ≤ b) (hf : ∀ o ob' l, h o = some ob' → m o = some l → b ∉ blks l ob'.cont) (hp : ∀ o, (b, o) ∉ F.p) : Sim F W m h next (w.putObj b ob) := by
  refine ⟨⟨hs.kept.os, hs.kept.tape, hs.kept.output, by simpa using hs.kept.size, fun k hk hfk => ?_⟩, fun o obj ho => ?_, hs.sep, hs.fresh, fun b' o' h' => ?_, hs.pnd⟩
  · rw [World.putObj_heap_other (fun e => by subst e; rcases hmine with h1 | h1; exact hfk h1; omega)]; exact hs.kept.block k hk hfk
  · obtain ⟨l, hl, hok⟩ := hs.obj o obj ho
    exact ⟨l, hl, hok.local (fun _ _ h => h) (by simp) fun k hk => World.putObj_heap_other (fun e => hf o obj l ho hl (e ▸ hk))⟩
  · rw [World.putObj_heap_other (fun e => hp o' (by rw [← e]; exact h'))]; exact hs.prot b' o' h'
end

/-- The slots of a round: yield's arguments lie in the loop's parameters. -/
def zipT (f : Nat → AV) : List Tmp → List AV → Nat → AV
  | t :: ts, a :: as => zipT (upd f t a) ts as
  | _, _ => f

theorem zipT_rep {m : Lm} {nt : Nat} : ∀ (ts : List Tmp) (as : List AV) (xs : List Value) (f : Nat → AV) (tmps : Array Value), tmps.size = nt → (∀ t ∈ ts, t < nt) → ts.length = as.length → RepL m as xs → (∀ t, Rep m (f t) (tmps.getD t undef)) →
    ((ts.zip xs).foldl (fun tmps p => tmps.setIfInBounds p.1 p.2) tmps).size = nt ∧ ∀ t, Rep m (zipT f ts as t) (((ts.zip xs).foldl (fun tmps p => tmps.setIfInBounds p.1 p.2) tmps).getD t undef)
  | [], [], [], _, _, hn, _, _, _, h => ⟨by simpa using hn, by simpa [zipT] using h⟩
  | [], [], _ :: _, _, _, _, _, _, hr, _ => by simp [RepL] at hr
  | [], _ :: _, _, _, _, _, _, hl, _, _ => by simp at hl
  | _ :: _, [], _, _, _, _, _, hl, _, _ => by simp at hl
  | _ :: _, _ :: _, [], _, _, _, _, _, hr, _ => by simp [RepL] at hr
  | t :: ts, a :: as, x :: xs, f, tmps, hn, hlt, hl, hr, h => by
    simp only [RepL] at hr
    simp only [zipT, List.zip_cons_cons, List.foldl_cons]
    refine zipT_rep ts as xs (upd f t a) (tmps.setIfInBounds t x) (by simpa using hn) (fun u hu => hlt u (by simp [hu])) (by simpa using hl) hr.2 fun u => ?_
    by_cases e : u = t
    · subst e
      have hlt' : u < tmps.size := by rw [hn]; exact hlt u (by simp)
      rw [upd_same]
      simpa [hlt'] using hr.1
    · rw [upd_ne _ _ e]
      have : (tmps.setIfInBounds t x).getD u undef = tmps.getD u undef := by
        simp [Array.getElem?_setIfInBounds_ne (Ne.symm e)]
      rw [this]
      exact h u

/-- What a round leaves: yield's answer; the loop's record. -/
def roundA (o : Nat) (lp : Loop) (K : AV → Hp → Nat → Prop) : Exit → St → Prop
  | .normal, s => K (.val (.bool true)) (upd s.heap o (some ⟨true, .raw (.loop lp)⟩)) s.next
  | .ret, s => K (.val (.bool false)) (upd s.heap o (some ⟨true, .raw (.loop { lp with state := .done, pending := some .ret })⟩)) s.next
  | .exit id, s => K (.val (.bool false)) (upd s.heap o (some ⟨true, .raw (.loop { lp with state := .done, pending := some (.exit id) })⟩)) s.next
  | .goto t, s => K (.val (.bool false)) (upd s.heap o (some ⟨true, .raw (.loop { lp with state := .done, pending := some (.goto t) })⟩)) s.next
  | _, _ => False
def noA : Exit → St → Prop := fun _ _ => False
theorem roundA_normal {o : Nat} {lp : Loop} {K : AV → Hp → Nat → Prop} {s : St} (h : K (.val (.bool true)) (upd s.heap o (some ⟨true, .raw (.loop lp)⟩)) s.next) : roundA o lp K .normal s := h
theorem roundA_ret {o : Nat} {lp : Loop} {K : AV → Hp → Nat → Prop} {s : St} (h : K (.val (.bool false)) (upd s.heap o (some ⟨true, .raw (.loop { lp with state := .done, pending := some .ret })⟩)) s.next) : roundA o lp K .ret s := h
theorem roundA_exit {o : Nat} {lp : Loop} {K : AV → Hp → Nat → Prop} {s : St} {id : Nat} (h : K (.val (.bool false)) (upd s.heap o (some ⟨true, .raw (.loop { lp with state := .done, pending := some (.exit id) })⟩)) s.next) : roundA o lp K (.exit id) s := h

theorem awp_unroll_post {Γ : Ctx} {C : Cx} {nt : Nat} {Q : Exit → St → Prop} {e : Exit} {a : Act} {w : World} (h : PostA Γ C nt Q e a w) : ∃ Ds, (C.add Ds).ok ∧ ∃ m' s', SimS Γ (C.add Ds) nt m' s' a w ∧ Q e s' :=
  let ⟨Ds, h1, _, m', s', h3, h4⟩ := h; ⟨Ds, h1, m', s', h3, h4⟩

section
variable {P : Program}

/-- A call of yield: the round is run on the loop's slots as they were, with yield's arguments. -/
theorem yield_round {S : List Snap} {o : Nat} {h : Hp} {n : Nat} {as : List AV} {K : AV → Hp → Nat → Prop} {lp : Loop} {nt : Nat} {tm : Nat → AV} (ho : h o = some ⟨true, .raw (.loop lp)⟩) (hst : lp.state = .ready) (hpe : lp.pending = none) (hS0 : (⟨lp, nt, tm⟩ : Snap) ∈ S)
    (hlen : lp.params.toList.length = as.length) (hpl : ∀ t ∈ lp.params.toList, t < nt)
    (hk : ∀ m0 : Lm, (∀ u, n ≤ u → m0 u = none) → HClosed (upd h o none) n → AV.ltL n as = true → AWP ⟨true, S, m0⟩ nt P lp.assign (thenA (AWP ⟨true, S, m0⟩ nt P lp.body (roundA o lp K)) noA) ⟨zipT tm lp.params.toList as, upd h o none, n⟩) : aYield P S o h n as K := by
  intro F W m l xs w hS hs hl hrep
  obtain ⟨l', hl', hok⟩ := hs.obj o _ ho
  have : l' = l := Option.some.inj (hl'.symm.trans hl)
  subst this
  have hrec : w.heap[l'.blk]? = some (.loop lp) := hok.cells.2
  have hmem : l'.blk ∈ blks l' (.raw (.loop lp)) := by simp [blks]
  have hmine := hok.mine rfl _ hmem
  have hcap : l'.capc = 0 := by
    by_cases hc : l'.capc = 0
    · exact hc
    · have := hok.nodup rfl
      simp [blks, hc] at this
  have hbase := (hok.opn rfl).1
  have hxl : xs.toArray.size = lp.params.size := by
    have := hrep.length
    simp only [Array.length_toList] at hlen
    simp [← this, hlen]
  refine ⟨lp.fn, _, lp.assign, lp.body, run_yield hrec hxl, ?_⟩
  have hpr := hs.protRaw ho hl
  obtain ⟨hsz, htm⟩ := hS _ hS0
  have hm : ∀ u l, m u = some l → u < n := fun u l h => m0_lt hs.fresh h
  have hz := zipT_rep lp.params.toList as xs tm lp.tmps hsz hpl hlen hrep htm
  have e0 : (lp.params.zip xs.toArray).foldl (fun tmps (t, a) => tmps.setIfInBounds t a) lp.tmps = (lp.params.toList.zip xs).foldl (fun tmps p => tmps.setIfInBounds p.1 p.2) lp.tmps := by
    rw [← Array.foldl_toList, Array.toList_zip]
  rw [e0]
  have hinit : SimS ⟨true, S, m⟩ ⟨⟨F.f, (l'.blk, .loop lp) :: F.p⟩, W, [], some l'.blk⟩ nt m ⟨zipT tm lp.params.toList as, upd h o none, n⟩ { tmps := (lp.params.toList.zip xs).foldl (fun tmps p => tmps.setIfInBounds p.1 p.2) lp.tmps, defers := [] } w :=
    ⟨hpr, fun _ _ h => h, hz.1, rfl, hz.2⟩
  have hC1 : Cx.ok ⟨⟨F.f, (l'.blk, .loop lp) :: F.p⟩, W, [], some l'.blk⟩ := ⟨by simp, by simp, fun l h => by cases h; exact ⟨lp, by simp⟩⟩
  refine roundIn_of_wpIn (F := Fence.wide) trivial ?_
  refine wpIn_mono (hk m hs.fresh (sim_closed hpr) (repL_lt hm as xs hrep) hS _ hC1 rfl m _ w hinit) fun e a1 w1 hp => ?_
  obtain ⟨D1, d1, m1, s1, hs1, hq1⟩ := awp_unroll_post hp
  cases e with
  | normal =>
    have hs1s : Sim ⟨F.f, D1.map pmark ++ (l'.blk, .loop lp) :: F.p⟩ W m1 s1.heap s1.next w1 := hs1.sim
    have hr1 : w1.heap[l'.blk]? = some (.loop lp) := hs1s.prot _ _ (by simp)
    refine ⟨_, run_beginRound hr1 hst, ?_⟩
    have hs2s := hs1s.reprot (ob' := .loop { lp with state := .busy }) hmine
    have hC2 : Cx.ok ⟨⟨F.f, D1.map pmark ++ (l'.blk, .loop { lp with state := .busy }) :: F.p⟩, W, D1, some l'.blk⟩ := by
      refine ⟨fun b hb => by simp only [List.mem_append, List.mem_map]; exact .inl ⟨b, hb, rfl⟩, by simpa [Cx.add] using d1.nodup, fun l h => by cases h; exact ⟨{ lp with state := .busy }, by simp⟩⟩
    have hs2 : SimS ⟨true, S, m⟩ ⟨⟨F.f, D1.map pmark ++ (l'.blk, .loop { lp with state := .busy }) :: F.p⟩, W, D1, some l'.blk⟩ nt m1 s1 a1 (w1.putObj l'.blk (.loop { lp with state := .busy })) :=
      ⟨hs2s, hs1.keep, hs1.size, by simpa [Cx.add] using hs1.defers, hs1.tmps⟩
    refine wpIn_mono (hq1 hS _ hC2 rfl m1 a1 _ hs2) fun e a3 w3 hp3 => ?_
    obtain ⟨D3, d3, m3, s3, hs3, hq3⟩ := awp_unroll_post hp3
    have hs3s : Sim ⟨F.f, (l'.blk, .loop { lp with state := .busy }) :: F.p⟩ W m3 s3.heap s3.next w3 := by
      have h3 : Sim ⟨F.f, D3.map pmark ++ (D1.map pmark ++ (l'.blk, .loop { lp with state := .busy }) :: F.p)⟩ W m3 s3.heap s3.next w3 := hs3.sim
      exact h3.unprot ((List.sublist_append_right _ _).trans (List.sublist_append_right _ _))
    have hr3 : w3.heap[l'.blk]? = some (.loop { lp with state := .busy }) := hs3s.prot _ _ (by simp)
    have hl3 : m3 o = some l' := hs3.keep _ _ hl
    have fin : ∀ (jump : Option Code) (lp' : Loop), lp' = { lp with state := if jump.isNone then .ready else .done, pending := jump } → K (.val (.bool jump.isNone)) (upd s3.heap o (some ⟨true, .raw (.loop lp')⟩)) s3.next →
        ∃ v w', (Instr.endRound l'.blk jump).run P w3 = .ok v w' ∧ ∃ v', Ending.returned v = .returned v' ∧ Acts F W m w false K v' w' := fun jump lp' e hK => by
      subst e
      exact ⟨_, _, run_endRound jump hr3, _, rfl, m3, _, _, _, hK, by simp [Rep], hs3s.unprotRaw hl3 rfl hcap hbase hmine, hs3.keep, fun h => by cases h⟩
    cases e with
    | normal => exact fin none lp (by cases lp; simp_all) hq3
    | ret => exact fin (some .ret) _ rfl hq3
    | exit id => exact fin (some (.exit id)) _ rfl hq3
    | goto t => exact fin (some (.goto t)) _ rfl hq3
    | panic ch => exact hq3.elim
    | outgrown => exact hq3.elim
  | _ => exact hq1.elim

/-- What comes behind a loop over a function: the jump that a round has left, or none. -/
def afterA (j : Option Code) (Q : Exit → St → Prop) (s : St) : Prop :=
  match j with
  | none => Q .normal s
  | some .ret => Q .ret s
  | some (.exit id) => Q (.exit id) s
  | some (.goto t) => Q (.goto t) s
  | _ => False
/-- What is asked when the function that was ranged over has returned. -/
def endA (o : Nat) (tm : Nat → AV) (Q : Exit → St → Prop) (_ : AV) (h : Hp) (n : Nat) : Prop :=
  ∃ lp : Loop, h o = some ⟨true, .raw (.loop lp)⟩ ∧ lp.state ≠ .busy ∧ afterA lp.pending Q ⟨tm, upd h o none, n⟩
theorem endA_go {o : Nat} {tm : Nat → AV} {Q : Exit → St → Prop} {a : AV} {h : Hp} {n : Nat} {lp : Loop} (ho : h o = some ⟨true, .raw (.loop lp)⟩) (hs : lp.state = .ready) (hp : lp.pending = none) (hq : Q .normal ⟨tm, upd h o none, n⟩) : endA o tm Q a h n :=
  ⟨lp, ho, by rw [hs]; simp, by rw [hp]; exact hq⟩
theorem endA_jump {o : Nat} {tm : Nat → AV} {Q : Exit → St → Prop} {a : AV} {h : Hp} {n : Nat} {lp : Loop} (j : Code) (ho : h o = some ⟨true, .raw (.loop { lp with state := .done, pending := some j })⟩) (hq : afterA (some j) Q ⟨tm, upd h o none, n⟩) : endA o tm Q a h n :=
  ⟨_, ho, by simp, hq⟩

/-- A function value: its function, what it has captured. -/
def FnV (a : AV) (gf : FuncId) (first caps : List AV) : Prop := ∀ m x, Rep m a x → ∃ ys zs : List Value, x = .func (.func gf) ys.toArray zs.toArray ∧ RepL m first ys ∧ RepL m caps zs
theorem fnV_clo {gf : FuncId} {first caps : List AV} : FnV (.clo (.func gf) first caps) gf first caps := fun m x h => by simpa only [Rep] using h
theorem fnV_val {gf : FuncId} : FnV (.val (.func (.func gf) #[] #[])) gf [] [] := fun m x h => by
  simp only [Rep] at h
  exact ⟨[], [], h, by simp [RepL], by simp [RepL]⟩

theorem awp_range {Γ : Ctx} {nt : Nat} {Q : Exit → St → Prop} {s : St} {g : Operand} {ps : Array Tmp} {assign body : Code} {gf : FuncId} {first caps : List AV} (hg : FnV (s.ev g) gf first caps) (hent : enters P gf)
    (hk : ∀ lp : Loop, lp.state = .ready → lp.pending = none → lp.params = ps → lp.assign = assign → lp.body = body →
      aCallX P false (⟨lp, nt, s.tmps⟩ :: Γ.W) true gf (upd s.heap s.next (some ⟨true, .raw (.loop lp)⟩)) (s.next + 1) (first ++ [.yl s.next] ++ caps) (endA s.next s.tmps Q)) : AWP Γ nt P (.rangeFunc g ps assign body) Q s := by
  intro hS C hC hr m a w hs
  obtain ⟨ys, zs, hev, hys, hzs⟩ := hg m _ (hs.ev g)
  -- what is common to both: from the world in which the record lies to the end
  have main : ∀ (C1 : Cx) (w1 : World) (lp : Loop) (mk : List Deferred), lp.state = .ready → lp.pending = none → lp.params = ps → lp.assign = assign → lp.body = body → lp.tmps = a.tmps → C1.ok → C1.F.f = C.F.f → C1.W = C.W → C1.r = C.r → mk ++ a.defers = C1.D.map mark →
      Sim C1.F C1.W m s.heap s.next w1 → (∀ e a' w', PostA Γ C1 nt Q e a' w' → PostA Γ C nt Q e a' w') →
      ∃ (d : Deferred) (w1' : World) (f : FuncId) (args : Array Value) (w2 : World),
        (resolve a.eval (rangeCall g w1.heap.size) 0).run P (w1.alloc (.loop lp)) = .ok d w1' ∧ (∀ f', Target.leads P w1' d.target d.args = some f' → (rF C.r).fn f') ∧ (invoke d.target d.args).run P w1' = .ok (.enter f args) w2 ∧
        ((rF C.r).depth.isSome = true → 1 ≤ 0) ∧ CallsIn (rF C.r) (0 - 1) P f args w2 (rangePost (rF C.r) 0 P w1.heap.size (PostA Γ C nt Q) { a with defers := mk ++ a.defers }) := by
    intro C1 w1 lp mk l1 l2 l3 l4 l5 l6 hC1 hf hW hr1 hmk hsim hpost
    have hraw := hsim.addRaw (.loop lp)
    have hm1 := hsim.mono_next (⟨w1.heap.size, 0, 0, []⟩ : Loc)
    have hrec : ∀ p ∈ (⟨lp, nt, s.tmps⟩ : Snap) :: Γ.W, RecOk (upd m s.next (some ⟨w1.heap.size, 0, 0, []⟩)) p := by
      intro p hp
      rcases List.mem_cons.1 hp with rfl | hp
      · exact ⟨by simp only [l6]; exact hs.size, fun t => by simp only [l6]; exact (hs.tmps t).mono hm1⟩
      · exact ((hS p hp).mono hs.keep).mono hm1
    have hargs : RepL (upd m s.next (some ⟨w1.heap.size, 0, 0, []⟩)) (first ++ [.yl s.next] ++ caps) (ys ++ [Value.func (.yield w1.heap.size) #[] #[]] ++ zs) :=
      repL_append (repL_append (hys.mono hm1) (by simp only [RepL, Rep, and_true]; exact ⟨_, upd_same _ _ _, rfl⟩)) (hzs.mono hm1)
    have hcall := aCallX_sound hrec hraw (hk lp l1 l2 l3 l4 l5) hargs
    refine ⟨{ target := .fn (.func gf) zs.toArray, args := ys.toArray ++ #[Value.func (.yield w1.heap.size) #[] #[]] }, w1.alloc (.loop lp), gf, (ys ++ [Value.func (.yield w1.heap.size) #[] #[]] ++ zs).toArray, w1.alloc (.loop lp), ?_, ?_, ?_, fun h => by simp [Fence.wide] at h, ?_⟩
    · simp only [resolve, hev]
      simp [go_sem, Act.eval]
    · intro f' _; trivial
    · have e2 : ys.toArray ++ #[Value.func (.yield w1.heap.size) #[] #[]] ++ zs.toArray = (ys ++ [Value.func (.yield w1.heap.size) #[] #[]] ++ zs).toArray := by apply Array.ext'; simp
      simp only [invoke]
      rw [e2]
      exact hent _ _
    · have hc2 := (callsIn_wide (n := 0 - 1)).2 hcall
      have hc3 : CallsIn (rF C.r) (0 - 1) P gf (ys ++ [Value.func (.yield w1.heap.size) #[] #[]] ++ zs).toArray (w1.alloc (.loop lp)) _ := hc2
      refine hc3.mono ?_
      rintro e w3 ⟨v, rfl, m3, av, h3, n3, ⟨lp', hl', hb', haft⟩, _, hs3, hm3, _⟩
      have hmo : m3 s.next = some ⟨w1.heap.size, 0, 0, []⟩ := hm3 _ _ (upd_same _ _ _)
      obtain ⟨lo, hlo, hok⟩ := hs3.obj _ _ hl'
      have : lo = ⟨w1.heap.size, 0, 0, []⟩ := Option.some.inj (hlo.symm.trans hmo)
      subst this
      have hrec3 : w3.heap[w1.heap.size]? = some (.loop lp') := hok.cells.2
      have hmem : w1.heap.size ∈ blks ⟨w1.heap.size, 0, 0, []⟩ (.raw (.loop lp')) := by simp [blks]
      have hdrop : Sim C1.F C1.W m3 (upd h3 s.next none) n3 w3 := hs3.drop fun o1 ob1 h1 => by
        by_cases e : o1 = s.next
        · subst e; simp at h1
        · rwa [upd_ne _ _ e] at h1
      have hs4 : Sim C1.F C1.W m3 (upd h3 s.next none) n3 (w3.putObj w1.heap.size (.loop { lp' with state := .exhausted })) := by
        refine hdrop.putFree _ (hok.mine rfl _ hmem) (fun o1 ob1 ll e1 e2 hk1 => ?_) fun o' ho' => hok.np _ hmem ⟨o', ho'⟩
        by_cases e : o1 = s.next
        · subst e; simp at e1
        · rw [upd_ne _ _ e] at e1
          exact hs3.apart (Ne.symm e) hl' rfl hmo e1 e2 hk1 hmem
      have hsS : SimS Γ C1 nt m3 ⟨s.tmps, upd h3 s.next none, n3⟩ { a with defers := mk ++ a.defers } (w3.putObj w1.heap.size (.loop { lp' with state := .exhausted })) :=
        ⟨hs4, fun o l h => hm3 _ _ (hm1 _ _ (hs.keep o l h)), hs.size, hmk, fun t => ((hs.tmps t).mono hm1).mono hm3⟩
      refine ⟨lp'.pending, _, run_endLoop hrec3 hb', ?_⟩
      revert hsS
      generalize w3.putObj w1.heap.size (.loop { lp' with state := .exhausted }) = w4
      intro hsS
      cases hp : lp'.pending with
      | none => rw [hp] at haft; exact hpost _ _ _ (.same hC1 hsS haft)
      | some j =>
        rw [hp] at haft
        cases j <;> simp only [afterA] at haft
        case ret => exact wpIn_ret (hpost _ _ _ (.same hC1 hsS haft))
        case exit id => exact wpIn_exit (hpost _ _ _ (.same hC1 hsS haft))
        case goto t => exact wpIn_goto (hpost _ _ _ (.same hC1 hsS haft))
  refine wpIn_rangeFunc ?_
  intro fn _
  cases hCr : C.r with
  | none =>
    have hfree : ∀ o ob l, s.heap o = some ob → m o = some l → w.heap.size ∉ blks l ob.cont := fun o ob l h1 h2 hk => by
      obtain ⟨l', q1, q2⟩ := hs.sim.obj o ob h1
      have : l' = l := Option.some.inj (q1.symm.trans h2)
      subst this
      have := q2.lt _ hk
      omega
    have hnp : ∀ o, (w.heap.size, o) ∉ C.F.p := fun o h => by have := hs.sim.prot_lt h; omega
    have hs1 : Sim C.F C.W m s.heap s.next (w.alloc (.deferred (some []))) := hs.sim.grow (grow_alloc w _)
    have hs2 : Sim (C.add [w.heap.size]).F C.W m s.heap s.next (w.alloc (.deferred (some []))) := hs1.protNew (World.alloc_heap_new w _) hfree hnp
    have hD : ∀ b ∈ [w.heap.size], C.W.heap.size ≤ b := fun b hb => by simp at hb; subst hb; exact hs.sim.kept.size
    have hC1 : (C.add [w.heap.size]).ok := by
      refine ⟨fun b hb => ?_, ?_, fun l h => by simp [Cx.add, hCr] at h⟩
      · simp only [Cx.add, List.map_cons, List.map_nil, List.cons_append, List.nil_append, List.mem_cons] at hb ⊢
        rcases hb with rfl | hb
        · exact .inl rfl
        · exact .inr (hC.marks b hb)
      · simp only [Cx.add, List.cons_append, List.nil_append, List.nodup_cons]
        exact ⟨fun h => hnp _ (hC.marks _ h), hC.nodup⟩
    obtain ⟨d, w1', f, args, w2, q1, q2, q3, q4, q5⟩ := main (C.add [w.heap.size]) (w.alloc (.deferred (some []))) { state := .ready, pending := none, fn, tmps := a.tmps, params := ps, assign, body, defers := w.heap.size } [mark w.heap.size] rfl rfl rfl rfl rfl rfl hC1 rfl rfl rfl (by rw [hs.defers]; rfl) hs2 (fun e a' w' h => h.add hD)
    rw [hCr] at q2 q4 q5
    simp only [World.size_alloc] at q1 q5
    exact ⟨w.heap.size + 1, [mark w.heap.size], _, d, w1', f, args, w2, run_enterLoop_outer _ _ _ _ _, q1, q2, q3, q4, q5⟩
  | some l0 =>
    obtain ⟨r0, hr0⟩ := hC.round l0 hCr
    have hl0 := hs.sim.prot _ _ hr0
    obtain ⟨d, w1', f, args, w2, q1, q2, q3, q4, q5⟩ := main C w { state := .ready, pending := none, fn, tmps := a.tmps, params := ps, assign, body, defers := r0.defers } [] rfl rfl rfl rfl rfl rfl hC rfl rfl rfl hs.defers hs.sim (fun e a' w' h => h)
    rw [hCr] at q2 q4 q5
    exact ⟨w.heap.size, [], _, d, w1', f, args, w2, run_enterLoop_inner hl0 _ _ _ _ _, q1, q2, q3, q4, q5⟩

end
end Go.Ab
