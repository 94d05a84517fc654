/- Regions in which several operations act: trees of orders. -/
import Derived.Test.YtbnldepaebcojaaAb12
namespace Go.Ab
set_option linter.all false
open Go Go.RowKit
/-- What neither reads memory nor hangs on it. -/
def pureS (o : Oper) : Bool := match o.op with | .move _ => true | .slice .. => true | _ => false
def freeS (ops : Array Oper) (wilds : List Nat) (listed : Array Bool) (i : Nat) : Bool :=
  match ops[i]? with
  | none => false
  | some oi => (List.range ops.size).all fun j => j == i || listed.getD j true || (match ops[j]? with
      | some oj => oi.apart ops oj && (!wilds.contains j || pureS oi)
      | none => true) || waits ops ops.size j i
def YieldsT (P : Program) (ops : Array Oper) (o : Oper) (v : Value) (a : Act) (w : World) : Prop :=
  (Region.wanted o (yielded ops a.tmps) = true ∧ ∀ w', (Grow w w' ∨ pureS o = true) → (execOp a.eval o).run P w' = .ok (.value v) w') ∨
  (Region.wanted o (yielded ops a.tmps) = false ∧ v = undef)
theorem YieldsT.toX {P : Program} {ops : Array Oper} {o : Oper} {v : Value} {a : Act} {w : World} (h : YieldsT P ops o v a w) : YieldsX P ops o v a w :=
  h.imp (fun ⟨x, y⟩ => ⟨x, fun w' hg => y w' (.inl hg)⟩) id
theorem YieldsT.put {P : Program} {ops : Array Oper} {o oj : Oper} {v u : Value} {a : Act} {w w' : World} (hs : ∀ cs b, o.op ≠ .select cs b) (hap : o.apart ops oj = true) (hy : YieldsT P ops o v a w) (hg : Grow w w' ∨ pureS o = true) : YieldsT P ops o v (a.put oj.dst u) w' := by
  obtain ⟨_, _, h3⟩ := Oper.apart_spec hap
  unfold YieldsT at *
  rw [wanted_put o a oj.dst u h3, execOp_put o hs a oj.dst u h3]
  refine hy.imp (fun ⟨x, y⟩ => ⟨x, fun w'' h => y w'' ?_⟩) id
  rcases hg with hg | hg
  · exact h.imp (fun h => hg.trans h) id
  · exact .inr hg
theorem anyG_firstT {P : Program} {ops : Array Oper} {wilds : List Nat} {Q : Act → World → Prop} {i : Nat} {oi : Oper} {v : Value} (hi : ops[i]? = some oi) (hsel : ∀ (j : Nat) (o : Oper) cs b, ops[j]? = some o → o.op ≠ .select cs b) :
    ∀ (f : Nat) (listed : Array Bool) (a : Act) (w : World), ClosedB ops listed →
      (∀ j oj, ops[j]? = some oj → j ≠ i → listed.getD j true = false → waits ops ops.size j i = false → oi.apart ops oj = true ∧ (j ∉ wilds ∨ pureS oi = true)) →
      i ∈ Region.ready .any ops listed → YieldsT P ops oi v a w →
      anyG P ops wilds Q f (listed.setIfInBounds i true) (a.put oi.dst v) w → anyG P ops wilds Q (f + 1) listed a w := by
  intro f
  induction f with
  | zero =>
    intro listed a w _ _ hr hy H
    refine ⟨fun h => (by rw [h] at hr; cases hr), fun j hj => ?_⟩
    by_cases hji : j = i
    · subst hji; exact hy.toX.opG hi ⟨fun _ => Grow.refl _, H⟩
    · have := ready_mono hj hji
      rw [H.1] at this
      cases this
  | succ f ih =>
    intro listed a w hc hfree hr hy H
    have hun := (mem_ready.1 hr).1
    refine ⟨fun h => (by rw [h] at hr; cases hr), fun j hj => ?_⟩
    by_cases hji : j = i
    · subst hji; exact hy.toX.opG hi ⟨fun _ => Grow.refl _, H⟩
    · have h1 := H.2 j (ready_mono hj hji)
      obtain ⟨hjun, oj, hoj, hall⟩ := mem_ready.1 hj
      have hnot : waits ops ops.size j i = false := by
        cases hw : waits ops ops.size j i with
        | false => rfl
        | true =>
          have := waits_listed hc ops.size j i (fun oj' hoj' e he hb => by
            have : oj' = oj := Option.some.inj (hoj'.symm.trans hoj)
            subst this
            exact hall e he hb) hw
          rw [getD_ft hun] at this
          cases this
      obtain ⟨hap, hwild⟩ := hfree j oj hoj hji hjun hnot
      refine (opG_put hoj hap (fun cs b => hsel j oj cs b hoj) h1).mono fun a' w' ⟨⟨u, hu⟩, hg, hK⟩ => ?_
      subst hu
      refine ⟨fun h => hg h, ih _ _ _ (hc.set hj) (fun k ok hk hki hkun hkw => hfree k ok hk hki ?_ hkw) (ready_mono hr (Ne.symm hji)) (hy.put (fun cs b => hsel i oi cs b hi) hap (hwild.imp hg id)) ?_⟩
      · by_cases hjk : j = k
        · subst hjk; exact hjun
        · rw [getD_set_ne true hjk] at hkun; exact hkun
      · rw [Array.setIfInBounds_comm _ _ hji]
        exact hK
/-- Orders of a region, with more than one operation that acts at a time: what may come first, each with all that comes behind it. -/
inductive OT where
  | leaf
  | quiet (i : Nat) (w : Bool) (t : OT)
  | one (i : Nat) (w : Bool) (t more : OT)
  | stop
def OT.alts : OT → List Nat
  | .one i _ _ more => i :: more.alts
  | _ => []
def OT.named : OT → List (Nat × Bool)
  | .leaf => []
  | .quiet i w t => (i, w) :: t.named
  | .one i w t more => (i, w) :: (t.named ++ more.named)
  | .stop => []
section
variable (P : Program) (ops : Array Oper) (wilds : List Nat)
def chkT : OT → Bool → Nat → Array Bool → Bool
  | .leaf, root, n, listed => root && n == 0 && (Region.ready .any ops listed).isEmpty
  | .quiet i _ t, root, n, listed => root && (Region.ready .any ops listed).contains i && freeS ops wilds listed i && (match n with | 0 => false | n + 1 => chkT t true n (listed.setIfInBounds i true))
  | .one i w t more, root, n, listed => (!root || (Region.ready .any ops listed == i :: more.alts)) && (match n with | 0 => false | k + 1 => chkT t true k (listed.setIfInBounds i true) && chkT more false (k + 1) listed)
  | .stop, root, _, _ => !root
def treeG (Q : Act → World → Prop) : OT → Act → World → Prop
  | .leaf, a, w => Q a w
  | .quiet i _ t, a, w => ∃ o v, ops[i]? = some o ∧ YieldsT P ops o v a w ∧ treeG Q t (a.put o.dst v) w
  | .one i _ t more, a, w => opG P ops i (fun a' w' => (i ∉ wilds → Grow w w') ∧ treeG Q t a' w') a w ∧ treeG Q more a w
  | .stop, _, _ => True
end
section
variable {P : Program} {ops : Array Oper} {wilds : List Nat}
theorem anyG_of_tree {Q : Act → World → Prop} (hsel : ∀ (j : Nat) (o : Oper) cs b, ops[j]? = some o → o.op ≠ .select cs b) : ∀ (t : OT),
    (∀ n listed a w, ClosedB ops listed → chkT ops wilds t true n listed = true → treeG P ops wilds Q t a w → anyG P ops wilds Q n listed a w) ∧
    (∀ n listed a w, ClosedB ops listed → chkT ops wilds t false (n + 1) listed = true → (∀ j ∈ t.alts, j ∈ Region.ready .any ops listed) → treeG P ops wilds Q t a w → ∀ j ∈ t.alts, opG P ops j (fun a' w' => (j ∉ wilds → Grow w w') ∧ anyG P ops wilds Q n (listed.setIfInBounds j true) a' w') a w) := by
  intro t
  induction t with
  | leaf =>
    refine ⟨fun n listed a w _ hB h => ?_, fun n listed a w _ _ _ _ j hj => by simp [OT.alts] at hj⟩
    simp only [chkT, Bool.true_and, Bool.and_eq_true, beq_iff_eq] at hB
    obtain ⟨rfl, hB⟩ := hB
    exact ⟨by simpa using hB, h⟩
  | stop => exact ⟨fun n listed a w _ hB _ => by simp [chkT] at hB, fun n listed a w _ _ _ _ j hj => by simp [OT.alts] at hj⟩
  | quiet i wl t ih =>
    refine ⟨fun n listed a w hc hB h => ?_, fun n listed a w _ _ _ _ j hj => by simp [OT.alts] at hj⟩
    cases n with
    | zero => simp [chkT] at hB
    | succ n =>
      simp only [chkT, Bool.true_and, Bool.and_eq_true] at hB
      obtain ⟨⟨hr, hf⟩, hB'⟩ := hB
      obtain ⟨o, v, ho, hy, hK⟩ := h
      have hr' : i ∈ Region.ready .any ops listed := by simpa using hr
      refine anyG_firstT ho hsel n listed a w hc (fun j oj hj hji hun hw => ?_) hr' hy (ih.1 _ _ _ _ (hc.set hr') hB' hK)
      unfold freeS at hf
      simp only [ho] at hf
      have hlt : j < ops.size := (Array.getElem?_eq_some_iff.1 hj).1
      have := List.all_eq_true.1 hf j (List.mem_range.2 hlt)
      simpa [hji, hun, hw, hj, beq_eq_false_iff_ne] using this
  | one i wl t more ih ihm =>
    have part2 : ∀ n listed a w, ClosedB ops listed → (chkT ops wilds t true n (listed.setIfInBounds i true) && chkT ops wilds more false (n + 1) listed) = true → (∀ j ∈ (OT.one i wl t more).alts, j ∈ Region.ready .any ops listed) → treeG P ops wilds Q (.one i wl t more) a w → ∀ j ∈ (OT.one i wl t more).alts, opG P ops j (fun a' w' => (j ∉ wilds → Grow w w') ∧ anyG P ops wilds Q n (listed.setIfInBounds j true) a' w') a w := by
      intro n listed a w hc hB hr h j hj
      rw [Bool.and_eq_true] at hB
      simp only [OT.alts, List.mem_cons] at hj hr
      rcases hj with rfl | hj
      · exact opG.mono h.1 fun a' w' ⟨hg, hK⟩ => ⟨hg, ih.1 _ _ _ _ (hc.set (hr _ (.inl rfl))) hB.1 hK⟩
      · exact ihm.2 n listed a w hc hB.2 (fun k hk => hr k (.inr hk)) h.2 j hj
    refine ⟨fun n listed a w hc hB h => ?_, fun n listed a w hc hB hr h => ?_⟩
    · cases n with
      | zero => simp [chkT] at hB
      | succ n =>
        simp only [chkT, Bool.not_true, Bool.false_or, Bool.and_eq_true, beq_iff_eq] at hB
        obtain ⟨hr, hB'⟩ := hB
        refine ⟨by rw [hr]; simp, fun j hj => ?_⟩
        have hall : ∀ k ∈ (OT.one i wl t more).alts, k ∈ Region.ready .any ops listed := fun k hk => by rw [hr]; simpa [OT.alts] using hk
        exact part2 n listed a w hc (by rw [Bool.and_eq_true]; exact hB') hall h j (by rw [hr] at hj; simpa [OT.alts] using hj)
    · simp only [chkT, Bool.not_false, Bool.true_or, Bool.true_and] at hB
      exact part2 n listed a w hc hB hr h
theorem treeG.mono {K K' : Act → World → Prop} (hk : ∀ a w, K a w → K' a w) : ∀ {t : OT} {a : Act} {w : World}, treeG P ops wilds K t a w → treeG P ops wilds K' t a w
  | .leaf, _, _, h => hk _ _ h
  | .stop, _, _, _ => trivial
  | .quiet _ _ _, _, _, h => let ⟨o, v, h1, h2, h3⟩ := h; ⟨o, v, h1, h2, treeG.mono hk h3⟩
  | .one _ _ _ _, _, _, h => ⟨opG.mono h.1 fun _ _ ⟨h1, h'⟩ => ⟨h1, treeG.mono hk h'⟩, treeG.mono hk h.2⟩
theorem wpIn_region_tree {r : Option Nat} {id : Nat} {Q : Exit → Act → World → Prop} {a : Act} {w : World} (t : OT) (hm : P.follows .mixedOrders = true) (hs : Region.noSelect ops = true)
    (hB : chkT ops wilds t true ops.size (Array.replicate ops.size false) = true)
    (h : treeG P ops wilds (fun a' w' => Q .normal a' w') t a { w with drawn := w.drawn + 1 }) : (Code.region id ops true).wpIn (rF r) 0 P Q a w :=
  wpIn_region_anyG (wilds := wilds) hm ((anyG_of_tree (wilds := wilds) (fun j o cs b ho => Region.noSelect_spec hs j o cs b ho) t).1 _ _ _ _ closedB_init hB h)
end
def opT (P : Program) (tab : Tab) (Γ : Ctx) (ops : Array Oper) (q : Bool) (i : Nat) (w : Bool) (s : St) (K : St → Prop) : Prop :=
  match (prep ops)[i]? with
  | some (o, g) => stepA P tab Γ q w o g s K
  | none => False
/-- Both ways. -/
def Both (A B : Prop) : Prop := A ∧ B
theorem both {A B : Prop} (h1 : A) (h2 : B) : Both A B := ⟨h1, h2⟩
def aordT (P : Program) (tab : Tab) (Γ : Ctx) (ops : Array Oper) : OT → (St → Prop) → St → Prop
  | .leaf, K, s => K s
  | .quiet i w t, K, s => opT P tab Γ ops true i w s (aordT P tab Γ ops t K)
  | .one i w t more, K, s => Both (opT P tab Γ ops false i w s (aordT P tab Γ ops t K)) (aordT P tab Γ ops more K s)
  | .stop, _, _ => True
section
variable {P : Program} {tab : Tab} {Γ : Ctx} {C : Cx} {nt : Nat} {ops : Array Oper}
theorem aordT_plain {q w : Bool} {i : Nat} {o : Oper} {K0 : St → Prop} {s : St} (ho : (prep ops)[i]? = some (o, none)) (h : ∀ K' : St → Prop, (∀ s', K0 s' → K' s') → step1 P tab Γ q w o s K') : opT P tab Γ ops q i w s K0 := by
  unfold opT; rw [ho]; exact h K0 fun _ h => h
theorem sop_sound {F : Fr} {W w : World} {m : Lm} {h : Nat → Option Ob} {next : Nat} (ht : TabOk P tab) (hs : Sim F W m h next w) {ev : Operand → AV} {ρ : Operand → Value} (he : ∀ x, Rep m (ev x) (ρ x)) {o : Oper} {K : AV → Prop} (hr : rop tab h ev o.op K) :
    ∃ a v, K a ∧ Rep m a v ∧ ∀ w', (Grow w w' ∨ pureS o = true) → (execOp ρ o).run P w' = .ok (.value v) w' := by
  by_cases hp : pureS o = true
  · unfold pureS at hp
    split at hp
    · rename_i z hz
      rw [hz] at hr
      exact ⟨_, _, hr, he z, fun w' _ => by simp only [execOp, hz, Sem.run_pure]⟩
    · rename_i t x lo hi mx hz
      rw [hz] at hr
      obtain ⟨a, v, h1, h2, h3⟩ := rSlice_sound ht hs hr (he x) (vlo := lo.map ρ) (vhi := hi.map ρ) (vmx := mx.map ρ) (by
        intro a ha; cases lo with
        | none => cases ha
        | some y => cases ha; exact ⟨_, rfl, he y⟩) (by
        intro h0; cases lo with
        | none => rfl
        | some y => cases h0) (by
        intro a ha; cases hi with
        | none => cases ha
        | some y => cases ha; exact ⟨_, rfl, he y⟩) (by
        intro h0; cases hi with
        | none => rfl
        | some y => cases h0) (by
        intro h0; cases mx with
        | none => rfl
        | some y => cases h0) (by
        intro a ha; cases mx with
        | none => cases ha
        | some y => cases ha; exact ⟨_, rfl, he y⟩)
      exact ⟨a, v, h1, h2, fun w' _ => by simp only [execOp, hz, Sem.run_bind, h3 w', Result.andThen_ok, Sem.run_pure]⟩
    · cases hp
  · obtain ⟨a, v, h1, h2, h3⟩ := rop_sound ht hs he hr
    exact ⟨a, v, h1, h2, fun w' hg => h3 w' (hg.resolve_right hp)⟩
theorem quiet_step {wilds : List Nat} {K Q' : St → Prop} {t : OT} (ht : TabOk P tab) (hd : dstOk nt ops = true) {i : Nat} {wl : Bool} (hlt : i < ops.size) {m : Lm} {s : St} {a : Act} {w : World} (hs : SimS Γ C nt m s a w) (h : opT P tab Γ ops true i wl s K)
    (ih : ∀ {m : Lm} {s : St} {a : Act} {w : World}, SimS Γ C nt m s a w → K s → treeG P ops wilds (fun a' w' => ∃ m' s', SimS Γ C nt m' s' a' w' ∧ Q' s') t a w) :
    ∃ o v, ops[i]? = some o ∧ YieldsT P ops o v a w ∧ treeG P ops wilds (fun a' w' => ∃ m' s', SimS Γ C nt m' s' a' w' ∧ Q' s') t (a.put o.dst v) w := by
  have hlen : (prep ops).length = ops.size := by simp [prep]
  obtain ⟨⟨o, g⟩, hi⟩ : ∃ p, (prep ops)[i]? = some p := ⟨_, List.getElem?_eq_getElem (by omega)⟩
  simp only [opT, hi] at h
  obtain ⟨ho, hg⟩ := prep_get hi
  have yes : step1 P tab Γ true wl o s K → Region.wanted o (yielded ops a.tmps) = true → ∃ o v, ops[i]? = some o ∧ YieldsT P ops o v a w ∧ treeG P ops wilds (fun a' w' => ∃ m' s', SimS Γ C nt m' s' a' w' ∧ Q' s') t (a.put o.dst v) w := fun h1 hw => by
    simp only [step1, if_true] at h1
    obtain ⟨x, v, hK, hr, hv⟩ := sop_sound ht hs.sim (fun x => hs.ev x) h1
    exact ⟨o, v, ho, .inl ⟨hw, hv⟩, ih (hs.set (dst_lt hd ho) hr hs.sim (fun _ _ h => h)) hK⟩
  unfold stepA at h
  split at h
  · have : o.guard = none := by
      cases hgo : o.guard with
      | none => rfl
      | some p => rw [hgo] at hg; cases hg
    exact yes h (by simp [Region.wanted, this])
  · rename_i t' want
    cases hgo : o.guard with
    | none => rw [hgo] at hg; cases hg
    | some p =>
      obtain ⟨j, w1⟩ := p
      rw [hgo] at hg
      simp only [Option.some.injEq, Prod.mk.injEq] at hg
      obtain ⟨e1, rfl⟩ := hg
      rcases h with ⟨b, hb, h1, h2⟩ | ⟨hb, h2⟩
      case inr =>
        exact ⟨o, undef, ho, .inr ⟨not_wanted hs hgo e1.symm hb, rfl⟩, ih (hs.set (dst_lt hd ho) (rep_undef _) hs.sim (fun _ _ h => h)) h2⟩
      have hwt := wanted_of hs hgo e1.symm hb
      by_cases hbw : b = want
      · exact yes (h1 hbw) (by rw [hwt, hbw]; simp)
      · have : (b == want) = false := by simpa using hbw
        exact ⟨o, undef, ho, .inr ⟨by rw [hwt, this], rfl⟩, ih (hs.set (dst_lt hd ho) (rep_undef _) hs.sim (fun _ _ h => h)) (h2 (by cases b <;> cases want <;> simp_all))⟩
  · exact h.elim
def wildsT (ops : Array Oper) (t : OT) : List Nat := (List.range ops.size).filter fun i => match ops[i]? with | some o => !tameB (t.named.any fun p => p.1 == i && p.2) o | none => false
theorem tree_sound {full : OT} (ht : TabOk P tab) (hS : ∀ p ∈ Γ.W, RecOk Γ.m0 p) (hd : dstOk nt ops = true) {K : St → Prop} : ∀ (t : OT), (∀ p ∈ t.named, p.1 < ops.size ∧ p ∈ full.named) → ∀ {m : Lm} {s : St} {a : Act} {w : World}, SimS Γ C nt m s a w → aordT P tab Γ ops t K s →
    treeG P ops (wildsT ops full) (fun a' w' => ∃ m' s', SimS Γ C nt m' s' a' w' ∧ K s') t a w
  | .leaf, _, m, s, a, w, hs, h => ⟨m, s, hs, h⟩
  | .stop, _, _, _, _, _, _, _ => trivial
  | .quiet i wl t, hl, m, s, a, w, hs, h => quiet_step ht hd (hl (i, wl) (by simp [OT.named])).1 hs h fun hs' hK => tree_sound ht hS hd t (fun p hp => hl p (by simp [OT.named, hp])) hs' hK
  | .one i wl t more, hl, m, s, a, w, hs, h => by
    have hlt : i < ops.size := (hl (i, wl) (by simp [OT.named])).1
    have hfull : (i, wl) ∈ full.named := (hl (i, wl) (by simp [OT.named])).2
    refine ⟨?_, tree_sound ht hS hd more (fun p hp => hl p (by simp [OT.named, hp])) hs h.2⟩
    have h1 := h.1
    have hlen : (prep ops).length = ops.size := by simp [prep]
    obtain ⟨⟨o, g⟩, hi⟩ : ∃ p, (prep ops)[i]? = some p := ⟨_, List.getElem?_eq_getElem (by omega)⟩
    simp only [opT, hi] at h1
    obtain ⟨ho, hg⟩ := prep_get hi
    refine opG.mono (opG_of ht hS hd hs hi h1) fun a' w' ⟨hgr, m', s', hs', hK⟩ => ⟨fun hw => hgr ?_, tree_sound ht hS hd t (fun p hp => hl p (by simp [OT.named, hp])) hs' hK⟩
    cases htm : tameB wl o with
    | true => rfl
    | false =>
      exfalso
      apply hw
      simp only [wildsT, List.mem_filter, List.mem_range]
      refine ⟨hlt, ?_⟩
      have e1 : tameB (full.named.any fun p => p.1 == i && p.2) o = false := by
        cases wl with
        | true =>
          have : (full.named.any fun p => p.1 == i && p.2) = true := List.any_eq_true.2 ⟨_, hfull, by simp⟩
          rw [this]; exact htm
        | false =>
          cases (full.named.any fun p => p.1 == i && p.2) with
          | false => exact htm
          | true => exact tameB_any htm
      simp [ho, e1]
theorem awp_region_tree (ht : TabOk P tab) {id : Nat} {Q : Exit → St → Prop} {s : St} (t : OT) (hm : P.follows .mixedOrders = true) (hd : dstOk nt ops = true)
    (hB : (Region.noSelect ops && t.named.all (fun p => p.1 < ops.size) && chkT ops (wildsT ops t) t true ops.size (Array.replicate ops.size false)) = true)
    (h : aordT P tab Γ ops t (fun s' => Q .normal s') s) : AWP Γ nt P (.region id ops true) Q s := by
  intro hS C hC _ m a w hs
  simp only [Bool.and_eq_true, List.all_eq_true, decide_eq_true_eq] at hB
  obtain ⟨⟨h1, h3⟩, h4⟩ := hB
  have hs' : SimS Γ C nt m s a { w with drawn := w.drawn + 1 } := ⟨hs.sim.grow ((Go.RowKit.Below.refl _ _).drew), hs.keep, hs.size, hs.defers, hs.tmps⟩
  exact wpIn_region_tree t hm h1 h4 (treeG.mono (fun a' w' ⟨m', s', g1, g2⟩ => PostA.same hC g1 g2) (tree_sound ht hS hd t (fun p hp => ⟨h3 p hp, hp⟩) hs' h))
end
theorem isRetQ {P : Program} {Γ : Ctx} {nt : Nat} {Q : Exit → St → Prop} {s : St} (h : AWP Γ nt P .ret Q s) : AWP Γ nt P .ret Q s := h
end Go.Ab
