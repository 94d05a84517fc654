/- Regions: one order that is checked serves every order that the model may draw. -/
import Derived.Test.YtbnldepaebcojaaAb1
import Derived.Orders
import Derived.OrdersIn
import Derived.CallsIn
import Derived.Tactics
namespace Go.Ab
set_option linter.all false
open Go Go.RowKit

abbrev Grow (w w' : World) : Prop := Below w.heap.size w w'
theorem Grow.refl (w : World) : Grow w w := Below.refl _ _
theorem Grow.trans {a b c : World} (h : Grow a b) (k : Grow b c) : Grow a c := Below.trans h (Below.mono k h.size)

/-- What an operation must do: yield a value, or call a function that returns. -/
def goodUpon (P : Program) (K : Value → World → Prop) : Result Next → Prop
  | .ok (.value v) w' => K v w'
  | .ok .skip w' => K undef w'
  | .ok (.enter f args) w' => Calls P f args w' (fun e w'' => ∃ v, e = .returned v ∧ K v w'')
  | .ok (.round l f tmps assign body) w' => RoundIn Fence.wide 0 P l f tmps assign body w' (fun e w'' => ∃ v, e = .returned v ∧ K v w'')
  | _ => False

def good (P : Program) (o : Oper) (a : Act) (w : World) (K : Value → World → Prop) : Prop := goodUpon P K ((execOp a.eval o).run P w)

theorem good.mono {P : Program} {o : Oper} {a : Act} {w : World} {K K' : Value → World → Prop} (h : good P o a w K) (hk : ∀ v w', K v w' → K' v w') : good P o a w K' := by
  unfold good at *
  generalize (execOp a.eval o).run P w = r at *
  cases r with
  | ok n w' =>
    cases n <;> simp only [goodUpon] at h ⊢
    case value => exact hk _ _ h
    case skip => exact hk _ _ h
    case enter => exact h.mono fun e w'' ⟨v, hv, hK⟩ => ⟨v, hv, hk _ _ hK⟩
    case round => exact h.mono fun e w'' ⟨v, hv, hK⟩ => ⟨v, hv, hk _ _ hK⟩
  | halt x w' => simp only [goodUpon] at h

/-- Everything is let in; the frame is a round's, or none's. -/
abbrev rF (r : Option Nat) : Fence := { Fence.wide with round := r }
theorem good_defer {P : Program} {o : Oper} {a : Act} {w : World} {K : Value → World → Prop} {c : Call} (hc : o.op = .defer c) : ¬ good P o a w K := by
  unfold good
  intro h
  have : ∀ r, (execOp a.eval o).run P w = r → ¬ goodUpon P K r := by
    intro r hr hg
    unfold execOp at hr
    rw [hc] at hr
    simp only [Sem.run_bind, Sem.run_pure] at hr
    cases hx : Sem.run P (resolve a.eval c (o.type)) w with
    | ok d w' => rw [hx] at hr; simp at hr; subst hr; exact hg
    | halt x w' => rw [hx] at hr; simp at hr; subst hr; exact hg
  exact this _ rfl h
theorem roundIn_r {P : Program} {l : Nat} {f : FuncId} {tmps : Array Value} {assign body : Code} {w : World} {R : Ending → World → Prop} (r : Option Nat) (h : RoundIn Fence.wide 0 P l f tmps assign body w R) : RoundIn (rF r) 0 P l f tmps assign body w R := h
theorem good.wpIn {P : Program} {r : Option Nat} {o : Oper} {a : Act} {w : World} {K : Act → World → Prop} {Q : Exit → Act → World → Prop} (h : good P o a w fun v w' => K (a.put o.dst v) w') : o.wpIn (rF r) 0 P a w K Q := by
  refine ⟨fun _ _ => trivial, ?_⟩
  rw [Oper.semAt_eq _ _ _ (fun c hc => good_defer hc h)]
  unfold good at h
  generalize (execOp a.eval o).run P w = x at *
  cases x with
  | ok n w' =>
    cases n <;> simp only [goodUpon] at h <;> simp only [Oper.uponIn]
    case value => exact h
    case skip => exact h
    case enter f args =>
      refine ⟨fun h => by simp [Fence.wide] at h, ?_⟩
      have := (callsIn_wide (n := 0 - 1)).2 (h.mono (R' := fun e w'' => match e with | .returned v => K (a.put o.dst v) w'' | .panicked chain => Q (.panic chain) a w'' | .outgrown => LetsOut Q) fun e w'' ⟨v, hv, hK⟩ => by subst hv; exact hK)
      have h2 : CallsIn (rF r) (0 - 1) P f args w' _ := this
      exact CallsIn.mono h2 fun e w'' he => by cases e <;> exact he
    case round l f tmps assign body =>
      refine ⟨fun h => by simp [Fence.wide] at h, ?_⟩
      have h2 : RoundIn (rF r) (0 - 1) P l f tmps assign body w' _ := roundIn_r r h
      exact h2.mono fun e w'' ⟨v, hv, hK⟩ => by subst hv; exact hK
  | halt x w' => simp only [goodUpon] at h

section
variable (P : Program) (ops : Array Oper) (wilds : List Nat)

def opG (i : Nat) (K : Act → World → Prop) (a : Act) (w : World) : Prop :=
  match ops[i]? with
  | none => False
  | some o => if Region.wanted o (yielded ops a.tmps) then good P o a w fun v w' => K (a.put o.dst v) w' else K (a.put o.dst undef) w

def anyG (Q : Act → World → Prop) : Nat → Array Bool → Act → World → Prop
  | 0, listed, a, w => Region.ready .any ops listed = [] ∧ Q a w
  | f + 1, listed, a, w => Region.ready .any ops listed ≠ [] ∧ ∀ i ∈ Region.ready .any ops listed,
      opG P ops i (fun a' w' => (i ∉ wilds → Grow w w') ∧ anyG Q f (listed.setIfInBounds i true) a' w') a w

def YieldsX (o : Oper) (v : Value) (a : Act) (w : World) : Prop :=
  (Region.wanted o (yielded ops a.tmps) = true ∧ ∀ w', Grow w w' → (execOp a.eval o).run P w' = .ok (.value v) w') ∨
  (Region.wanted o (yielded ops a.tmps) = false ∧ v = undef)

def waits : Nat → Nat → Nat → Bool
  | 0, _, _ => false
  | n + 1, j, i => match ops[j]? with
    | none => false
    | some o => (o.after.any fun e => Region.binds .any e && e.on == i) || (o.after.any fun e => Region.binds .any e && waits n e.on i)   -- the near ones first: all ways may be very many

/-- What reads no memory. -/
def pureOp (o : Oper) : Bool := match o.op with | .move _ => true | _ => false

def freeX (listed : Array Bool) (i : Nat) : Bool :=
  match ops[i]? with
  | none => false
  | some oi => (List.range ops.size).all fun j => j == i || listed.getD j true || (match ops[j]? with
      | some oj => oi.apart ops oj && (!wilds.contains j || pureOp oi)
      | none => true) || waits ops ops.size j i

def chkO : List (Nat × Bool) → Array Bool → Bool
  | [], listed => (Region.ready .any ops listed).isEmpty
  | (i, true) :: l, listed => (Region.ready .any ops listed).contains i && freeX ops wilds listed i && chkO l (listed.setIfInBounds i true)
  | (i, false) :: l, listed => (Region.ready .any ops listed == [i]) && chkO l (listed.setIfInBounds i true)

def ordG (Q : Act → World → Prop) : List (Nat × Bool) → Act → World → Prop
  | [], a, w => Q a w
  | (i, true) :: l, a, w => ∃ o v, ops[i]? = some o ∧ YieldsX P ops o v a w ∧ ordG Q l (a.put o.dst v) w
  | (i, false) :: l, a, w => opG P ops i (fun a' w' => (i ∉ wilds → Grow w w') ∧ ordG Q l a' w') a w
end

section
variable {P : Program} {ops : Array Oper} {wilds : List Nat}

theorem opG.mono {i : Nat} {K K' : Act → World → Prop} {a : Act} {w : World} (h : opG P ops i K a w) (hk : ∀ a w, K a w → K' a w) : opG P ops i K' a w := by
  unfold opG at *
  split at h
  · exact h.elim
  · rename_i o ho
    simp only [ho] at *
    split at h
    · rename_i hw; simp only [hw, if_true]; exact h.mono fun v w' => hk _ _
    · rename_i hw; simp only [hw]; exact hk _ _ h

theorem opG.wpOpIn {r : Option Nat} {i : Nat} {K : Act → World → Prop} {Q : Exit → Act → World → Prop} {a : Act} {w : World} (h : opG P ops i K a w) : wpOpIn (rF r) 0 P ops Q i K a w := by
  unfold opG at h
  unfold Go.wpOpIn
  split at h
  · exact h.elim
  · rename_i o ho
    simp only [ho]
    split at h
    · rename_i hw; rw [if_pos hw]; exact good.wpIn h
    · rename_i hw; rw [if_neg hw]; exact ⟨fun _ _ => trivial, h⟩

theorem YieldsX.opG {i : Nat} {o : Oper} {v : Value} {K : Act → World → Prop} {a : Act} {w : World} (ho : ops[i]? = some o) (hy : YieldsX P ops o v a w) (h : K (a.put o.dst v) w) : opG P ops i K a w := by
  unfold Ab.opG
  simp only [ho]
  rcases hy with ⟨hw, hr⟩ | ⟨hw, rfl⟩
  · simp only [hw, if_true, good, hr w (Grow.refl w), goodUpon]; exact h
  · simp only [hw]; exact h

theorem opG_put {j : Nat} {oi oj : Oper} {v : Value} (hj : ops[j]? = some oj) (hap : oi.apart ops oj = true) (hsj : ∀ cs b, oj.op ≠ .select cs b)
    {K : Act → World → Prop} {a : Act} {w : World} (h : opG P ops j K (a.put oi.dst v) w) : opG P ops j (fun a' w' => (∃ u, a' = a.put oj.dst u) ∧ K (a'.put oi.dst v) w') a w := by
  obtain ⟨h1, h2, _⟩ := Oper.apart_spec hap
  unfold opG at *
  simp only [hj] at *
  rw [wanted_put oj a oi.dst v h1] at h
  split
  · rename_i hw
    simp only [hw, if_true] at h
    unfold good at h ⊢
    rw [execOp_put oj hsj a oi.dst v h1] at h
    generalize (execOp a.eval oj).run P w = r at *
    cases r with
    | ok n w' =>
      cases n <;> simp only [goodUpon] at h ⊢
      case value u => exact ⟨⟨u, rfl⟩, by rw [← Act.put_comm a v u h2]; exact h⟩
      case skip => exact ⟨⟨_, rfl⟩, by rw [← Act.put_comm a v undef h2]; exact h⟩
      case enter f args => exact h.mono fun e w'' ⟨u, hu, hK⟩ => ⟨u, hu, ⟨u, rfl⟩, by rw [← Act.put_comm a v u h2]; exact hK⟩
      case round => exact h.mono fun e w'' ⟨u, hu, hK⟩ => ⟨u, hu, ⟨u, rfl⟩, by rw [← Act.put_comm a v u h2]; exact hK⟩
    | halt x w' => simp only [goodUpon] at h
  · rename_i hw
    simp only [hw] at h
    exact ⟨⟨_, rfl⟩, by rw [← Act.put_comm a v undef h2]; exact h⟩

theorem YieldsX.put {o oj : Oper} {v u : Value} {a : Act} {w w' : World} (hs : ∀ cs b, o.op ≠ .select cs b) (hap : o.apart ops oj = true) (hy : YieldsX P ops o v a w) (hg : Grow w w' ∨ pureOp o = true) : YieldsX P ops o v (a.put oj.dst u) w' := by
  obtain ⟨_, _, h3⟩ := Oper.apart_spec hap
  unfold YieldsX at *
  rw [wanted_put o a oj.dst u h3, execOp_put o hs a oj.dst u h3]
  refine hy.imp (fun ⟨x, y⟩ => ⟨x, fun w'' h => ?_⟩) id
  rcases hg with hg | hg
  · exact y w'' (hg.trans h)
  · unfold pureOp at hg
    split at hg
    · rename_i z hz
      have := y w (Grow.refl w)
      simp only [execOp, hz, Sem.run_pure] at this ⊢
      cases this
      rfl
    · cases hg

def ClosedB (ops : Array Oper) (listed : Array Bool) : Prop :=
  ∀ j oj, ops[j]? = some oj → listed.getD j false = true → ∀ e ∈ oj.after, Region.binds .any e = true → listed.getD e.on false = true

theorem waits_listed {listed : Array Bool} (hc : ClosedB ops listed) : ∀ (n j i : Nat), (∀ oj, ops[j]? = some oj → ∀ e ∈ oj.after, Region.binds .any e = true → listed.getD e.on false = true) → waits ops n j i = true → listed.getD i false = true
  | 0, _, _, _, h => by simp [waits] at h
  | n + 1, j, i, hj, h => by
    simp only [waits] at h
    split at h
    · cases h
    · rename_i o ho
      rw [Bool.or_eq_true] at h
      rcases h with h | h
      · obtain ⟨e, he, hb⟩ := Array.any_eq_true'.1 h
        simp only [Bool.and_eq_true, beq_iff_eq] at hb
        rw [← hb.2]; exact hj o ho e he hb.1
      · obtain ⟨e, he, hb⟩ := Array.any_eq_true'.1 h
        simp only [Bool.and_eq_true] at hb
        have hl := hj o ho e he hb.1
        exact waits_listed hc n e.on i (fun oj hoj e' he' hb' => hc _ _ hoj hl e' he' hb') hb.2

theorem ClosedB.set {i : Nat} {listed : Array Bool} (hc : ClosedB ops listed) (hi : i ∈ Region.ready .any ops listed) : ClosedB ops (listed.setIfInBounds i true) := by
  obtain ⟨_, oi, hoi, hall⟩ := mem_ready.1 hi
  intro j oj hj hl e he hb
  by_cases hij : i = j
  · subst hij
    have : oj = oi := Option.some.inj (hj.symm.trans hoi)
    subst this
    exact getD_set_true (hall e he hb)
  · rw [getD_set_ne false hij] at hl
    exact getD_set_true (hc j oj hj hl e he hb)

theorem getD_ft {listed : Array Bool} {i : Nat} (h : listed.getD i true = false) : listed.getD i false = false := by
  rcases Nat.lt_or_ge i listed.size with h' | h'
  · simp [h'] at h ⊢; exact h
  · simp [Array.getElem?_eq_none h'] at h

theorem anyG_first {Q : Act → World → Prop} {i : Nat} {oi : Oper} {v : Value} (hi : ops[i]? = some oi) (hsel : ∀ (j : Nat) (o : Oper) cs b, ops[j]? = some o → o.op ≠ .select cs b) :
    ∀ (f : Nat) (listed : Array Bool) (a : Act) (w : World), ClosedB ops listed →
      (∀ j oj, ops[j]? = some oj → j ≠ i → listed.getD j true = false → waits ops ops.size j i = false → oi.apart ops oj = true ∧ (j ∉ wilds ∨ pureOp oi = true)) →
      i ∈ Region.ready .any ops listed → YieldsX P ops oi v a w →
      anyG P ops wilds Q f (listed.setIfInBounds i true) (a.put oi.dst v) w → anyG P ops wilds Q (f + 1) listed a w := by
  intro f
  induction f with
  | zero =>
    intro listed a w _ _ hr hy H
    refine ⟨fun h => (by rw [h] at hr; cases hr), fun j hj => ?_⟩
    by_cases hji : j = i
    · subst hji; exact hy.opG hi ⟨fun _ => Grow.refl _, H⟩
    · have := ready_mono hj hji
      rw [H.1] at this
      cases this
  | succ f ih =>
    intro listed a w hc hfree hr hy H
    have hun := (mem_ready.1 hr).1
    refine ⟨fun h => (by rw [h] at hr; cases hr), fun j hj => ?_⟩
    by_cases hji : j = i
    · subst hji; exact hy.opG hi ⟨fun _ => Grow.refl _, H⟩
    · have h1 := H.2 j (ready_mono hj hji)
      obtain ⟨hjun, oj, hoj, hall⟩ := mem_ready.1 hj
      have hnot : waits ops ops.size j i = false := by
        cases hw : waits ops ops.size j i with
        | false => rfl
        | true =>
          have := waits_listed hc ops.size j i (fun oj' hoj' e he hb => by
            have : oj' = oj := Option.some.inj (hoj'.symm.trans hoj)
            subst this
            exact hall e he hb) hw
          rw [getD_ft hun] at this
          cases this
      obtain ⟨hap, hwild⟩ := hfree j oj hoj hji hjun hnot
      refine (opG_put hoj hap (fun cs b => hsel j oj cs b hoj) h1).mono fun a' w' ⟨⟨u, hu⟩, hg, hK⟩ => ?_
      subst hu
      refine ⟨fun h => hg h, ih _ _ _ (hc.set hj) (fun k ok hk hki hkun hkw => hfree k ok hk hki ?_ hkw) (ready_mono hr (Ne.symm hji)) (hy.put (fun cs b => hsel i oi cs b hi) hap (hwild.imp hg id)) ?_⟩
      · by_cases hjk : j = k
        · subst hjk; exact hjun
        · rw [getD_set_ne true hjk] at hkun; exact hkun
      · rw [Array.setIfInBounds_comm _ _ hji]
        exact hK

theorem anyG_of_ord {Q : Act → World → Prop} (hsel : ∀ (j : Nat) (o : Oper) cs b, ops[j]? = some o → o.op ≠ .select cs b) :
    ∀ (l : List (Nat × Bool)) (listed : Array Bool) (a : Act) (w : World), ClosedB ops listed → chkO ops wilds l listed = true → ordG P ops wilds Q l a w → anyG P ops wilds Q l.length listed a w
  | [], listed, a, w, _, hB, h => ⟨by simpa [chkO] using hB, h⟩
  | (i, true) :: l, listed, a, w, hc, hB, h => by
    simp only [chkO, Bool.and_eq_true] at hB
    obtain ⟨⟨hr, hf⟩, hB'⟩ := hB
    obtain ⟨o, v, ho, hy, hK⟩ := h
    have hr' : i ∈ Region.ready .any ops listed := by simpa using hr
    refine anyG_first ho hsel l.length listed a w hc (fun j oj hj hji hun hw => ?_) hr' hy (anyG_of_ord hsel l _ _ _ (hc.set hr') hB' hK)
    unfold freeX at hf
    simp only [ho] at hf
    have hlt : j < ops.size := (Array.getElem?_eq_some_iff.1 hj).1
    have := List.all_eq_true.1 hf j (List.mem_range.2 hlt)
    simpa [hji, hun, hw, hj, beq_eq_false_iff_ne] using this
  | (i, false) :: l, listed, a, w, hc, hB, h => by
    simp only [chkO, Bool.and_eq_true, beq_iff_eq] at hB
    obtain ⟨hr, hB'⟩ := hB
    refine ⟨by rw [hr]; simp, fun j hj => ?_⟩
    have hj' := hj
    rw [hr] at hj
    have hji : j = i := by simpa using hj
    subst hji
    exact opG.mono h fun a' w' ⟨hg, hK⟩ => ⟨hg, anyG_of_ord hsel l _ _ _ (hc.set hj') hB' hK⟩

theorem wpAnyIn_of_anyG {r : Option Nat} {Q : Act → World → Prop} {Q' : Exit → Act → World → Prop} (hQ : ∀ a w, Q a w → Q' .normal a w) : ∀ (f : Nat) (listed : Array Bool) (a : Act) (w : World), anyG P ops wilds Q f listed a w → wpAnyIn (rF r) 0 P .any ops Q' f listed a w
  | 0, _, _, _, h => ⟨h.1, hQ _ _ h.2⟩
  | f + 1, _, _, _, h => ⟨fun h0 => absurd h0 h.1, fun i hi => opG.wpOpIn (opG.mono (h.2 i hi) fun a' w' ⟨_, hK⟩ => wpAnyIn_of_anyG hQ f _ a' w' hK)⟩
/-- Any order, shown by 'anyG'. -/
theorem wpIn_region_anyG {r : Option Nat} {id : Nat} {Q : Exit → Act → World → Prop} {a : Act} {w : World} (hm : P.follows .mixedOrders = true)
    (h : anyG P ops wilds (fun a' w' => Q .normal a' w') ops.size (Array.replicate ops.size false) a { w with drawn := w.drawn + 1 }) : (Code.region id ops true).wpIn (rF r) 0 P Q a w :=
  wpIn_region_any hm (wpAnyIn_of_anyG (fun _ _ h => h) _ _ _ _ h)

theorem closedB_init : ClosedB ops (Array.replicate ops.size false) := fun j oj _ hl => by
  exfalso
  rcases Nat.lt_or_ge j ops.size with h | h <;> simp [h] at hl

theorem wpIn_region_ord {r : Option Nat} {id : Nat} {Q : Exit → Act → World → Prop} {a : Act} {w : World} (l : List (Nat × Bool)) (hm : P.follows .mixedOrders = true) (hs : Region.noSelect ops = true)
    (hl : l.length = ops.size) (hB : chkO ops wilds l (Array.replicate ops.size false) = true)
    (h : ordG P ops wilds (fun a' w' => Q .normal a' w') l a { w with drawn := w.drawn + 1 }) : (Code.region id ops true).wpIn (rF r) 0 P Q a w := by
  refine wpIn_region_anyG (wilds := wilds) hm ?_
  have := anyG_of_ord (wilds := wilds) (fun j o cs b ho => Region.noSelect_spec hs j o cs b ho) l _ _ _ closedB_init hB h
  rw [hl] at this
  exact this

/-- The plain order. -/
def seqG (P : Program) (ops : Array Oper) (Q : Act → World → Prop) : List Nat → Act → World → Prop
  | [], a, w => Q a w
  | i :: l, a, w => opG P ops i (seqG P ops Q l) a w

theorem seqG.mono {K K' : Act → World → Prop} : ∀ {l : List Nat} {a : Act} {w : World}, seqG P ops K l a w → (∀ a w, K a w → K' a w) → seqG P ops K' l a w
  | [], _, _, h, hk => hk _ _ h
  | _ :: _, _, _, h, hk => opG.mono h fun _ _ h' => seqG.mono h' hk
theorem ordG.mono {wilds : List Nat} {K K' : Act → World → Prop} : ∀ {l : List (Nat × Bool)} {a : Act} {w : World}, ordG P ops wilds K l a w → (∀ a w, K a w → K' a w) → ordG P ops wilds K' l a w
  | [], _, _, h, hk => hk _ _ h
  | (_, true) :: _, _, _, h, hk => let ⟨o, v, h1, h2, h3⟩ := h; ⟨o, v, h1, h2, ordG.mono h3 hk⟩
  | (_, false) :: _, _, _, h, hk => opG.mono h fun _ _ ⟨h1, h'⟩ => ⟨h1, ordG.mono h' hk⟩
theorem anyG.mono {wilds : List Nat} {K K' : Act → World → Prop} (hk : ∀ a w, K a w → K' a w) : ∀ {f : Nat} {listed : Array Bool} {a : Act} {w : World}, anyG P ops wilds K f listed a w → anyG P ops wilds K' f listed a w
  | 0, _, _, _, h => ⟨h.1, hk _ _ h.2⟩
  | _ + 1, _, _, _, h => ⟨h.1, fun i hi => opG.mono (h.2 i hi) fun _ _ ⟨h1, h'⟩ => ⟨h1, anyG.mono hk h'⟩⟩

theorem wpOpsIn_of_seqG {r : Option Nat} {Q : Act → World → Prop} {Q' : Exit → Act → World → Prop} (hQ : ∀ a w, Q a w → Q' .normal a w) : ∀ (l : List Nat) (a : Act) (w : World), seqG P ops Q l a w → wpOpsIn (rF r) 0 P ops Q' l a w
  | [], _, _, h => hQ _ _ h
  | i :: l, a, w, h => by
    rw [wpOpsIn_cons]
    exact opG.wpOpIn (opG.mono h fun a' w' hK => wpOpsIn_of_seqG hQ l a' w' hK)

theorem wpIn_region_seq {r : Option Nat} {id : Nat} {Q : Exit → Act → World → Prop} {a : Act} {w : World} (h : seqG P ops (fun a' w' => Q .normal a' w') (List.range ops.size) a w) : (Code.region id ops false).wpIn (rF r) 0 P Q a w :=
  wpIn_region (wpOpsIn_of_seqG (fun _ _ h => h) _ _ _ h)
end
end Go.Ab
