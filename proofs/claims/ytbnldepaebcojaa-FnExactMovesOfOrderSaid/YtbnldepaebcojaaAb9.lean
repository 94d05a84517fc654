/- The code of a function over abstract states: its rules, and how a contract is proved. -/
import Derived.Test.YtbnldepaebcojaaAb8
import Derived.Laws.ResultCell
namespace Go.Ab
set_option linter.all false
open Go Go.RowKit

structure St where
  tmps : Nat → AV
  heap : Hp
  next : Nat

/-- What code is shown in: whether its frame is a round's; the records of loops that are known; the names that must stay. -/
structure Ctx where
  F : Bool
  W : List Snap
  m0 : Lm

abbrev mark (b : Nat) : Deferred := { target := .collected b, args := #[] }
abbrev pmark (b : Nat) : Nat × Obj := (b, .deferred (some []))

/-- What code is run in: which blocks may be written, the world that is kept, the marks among the frame's deferred calls, the loop whose round it is. -/
structure Cx where
  F : Fr
  W : World
  D : List Nat
  r : Option Nat
structure Cx.ok (C : Cx) : Prop where
  marks : ∀ b ∈ C.D, pmark b ∈ C.F.p
  nodup : C.D.Nodup
  round : ∀ l, C.r = some l → ∃ rec, (l, .loop rec) ∈ C.F.p
def Cx.add (C : Cx) (Ds : List Nat) : Cx := ⟨⟨C.F.f, Ds.map pmark ++ C.F.p⟩, C.W, Ds ++ C.D, C.r⟩
theorem Cx.add_nil (C : Cx) : C.add [] = C := rfl
theorem Cx.add_add (C : Cx) (D1 D2 : List Nat) : (C.add D1).add D2 = C.add (D2 ++ D1) := by simp [Cx.add]

structure SimS (Γ : Ctx) (C : Cx) (nt : Nat) (m : Lm) (s : St) (a : Act) (w : World) : Prop where
  sim : Sim C.F C.W m s.heap s.next w
  keep : ∀ o l, Γ.m0 o = some l → m o = some l
  size : a.tmps.size = nt
  defers : a.defers = C.D.map mark
  tmps : ∀ t, Rep m (s.tmps t) (a.tmps.getD t undef)

def St.ev (s : St) : Operand → AV
  | .tmp t => s.tmps t
  | .const v => .val v
  | .global g => .val (.pointer (some ⟨g, 0, none⟩))
  | .func f => .val (.func (.func f) #[] #[])

def St.set (s : St) (dst : Option Tmp) (a : AV) (h : Hp) (n : Nat) : St :=
  ⟨match dst with | some d => upd s.tmps d a | none => s.tmps, h, n⟩

theorem SimS.ev {Γ : Ctx} {C : Cx} {nt : Nat} {m : Lm} {s : St} {a : Act} {w : World} (h : SimS Γ C nt m s a w) (x : Operand) : Rep m (s.ev x) (a.eval x) := by
  cases x <;> simp only [St.ev, Act.eval]
  · exact h.tmps _
  all_goals simp [Rep]

theorem SimS.set {Γ : Ctx} {C : Cx} {nt : Nat} {m m' : Lm} {s : St} {a : Act} {w w' : World} (h : SimS Γ C nt m s a w) {dst : Option Tmp} (hd : ∀ d, dst = some d → d < nt) {x : AV} {v : Value} {hp : Hp} {n : Nat}
    (hr : Rep m' x v) (hs : Sim C.F C.W m' hp n w') (hm : ∀ o l, m o = some l → m' o = some l) : SimS Γ C nt m' (s.set dst x hp n) (a.put dst v) w' := by
  refine ⟨hs, fun o l ho => hm _ _ (h.keep o l ho), ?_, ?_, fun t => ?_⟩
  · cases dst <;> simp [Act.put, h.size]
  · cases dst <;> simp [Act.put, h.defers]
  · cases dst with
    | none => simpa [St.set, Act.put] using (h.tmps t).mono hm
    | some d =>
      have hlt : d < a.tmps.size := by rw [h.size]; exact hd d rfl
      by_cases e : t = d
      · subst e
        simp only [St.set, upd_same, Act.put]
        simpa [hlt] using hr
      · simp only [St.set, upd_ne _ _ e, Act.put]
        have : (a.tmps.setIfInBounds d v).getD t undef = a.tmps.getD t undef := by
          simp [Array.getElem?_setIfInBounds_ne (Ne.symm e)]
        rw [this]
        exact (h.tmps t).mono hm

/-- Calls by value of a function that is known. -/
def enters (P : Program) (f : FuncId) : Prop := ∀ args w, (callFunc f args).run P w = .ok (.enter f args) w

def tabAgg (tab : Tab) (t : TypeId) : Bool := match tab t with | some i => i.ty.isAgg | none => false

def aop (P : Program) (tab : Tab) (Γ : Ctx) (wild : Bool) (o : Oper) (s : St) (K : AV → Hp → Nat → Prop) : Prop :=
  match o.op with
  | .alloc e => aAlloc tab s.heap s.next e (zcont tab e) K
  | .box _ x => aBox s.heap s.next (s.ev x) K
  | .store t x v => if tabAgg tab t then (if szOf tab t = some 0 then aStoreNone tab s.heap s.next t (s.ev x) (s.ev v) K else (∃ c', aStoreAll tab s.heap s.next t (s.ev x) (s.ev v) c' K)) else aStore tab s.heap s.next t (s.ev x) (s.ev v) K
  | .makeSlice t l c => (match tyOf tab t with
    | some (.slice e) => if szOf tab e = some 2 then aMake2 tab s.heap s.next t (s.ev l) (s.ev c) K else aMake tab s.heap s.next t (s.ev l) (s.ev c) K
    | _ => False)
  | .buildSlice t len parts => (match tyOf tab t with
    | some (.slice e) => if szOf tab e = some 1 then aBuildSlice tab s.heap s.next t len (parts.toList.map fun p => (p.1, s.ev p.2)) K else aBuildSliceE tab s.heap s.next t len (parts.toList.map fun p => (p.1, s.ev p.2)) K
    | _ => False)
  | .makeMap _ r => r = none ∧ aMakeMap s.heap s.next K
  | .range t x => aRange tab s.heap s.next t (s.ev x) K
  | .next x isS => aNext s.heap s.next (s.ev x) isS K
  | .insert t x k v => aInsert tab s.heap s.next t (s.ev x) (s.ev k) (s.ev v) K
  | .call c => (match c.callee with
    | .builtin .append => (match c.args.toList, c.argTypes.toList with
      | [x, y], [t, t'] => (match tyOf tab t' with
        | some (.int _) => aAppendZ tab s.heap s.next t (s.ev x) (s.ev y) K
        | _ => t' = t ∧ aAppend tab s.heap s.next t (s.ev x) (s.ev y) K)
      | _, _ => False)
    | .builtin .copy => (match c.args.toList, c.argTypes.toList with
      | [x, y], [t, _] => aCopy tab s.heap s.next t (s.ev x) (s.ev y) K
      | _, _ => False)
    | .builtin _ => rop tab s.heap s.ev o.op fun a => K a s.heap s.next
    | .value f => (match s.ev f with
      | .val (.func (.func g) first caps) => enters P g ∧ aCallX P Γ.F Γ.W wild g s.heap s.next (first.toList.map .val ++ c.args.toList.map s.ev ++ caps.toList.map .val) K
      | .clo (.func g) first caps => enters P g ∧ aCallX P Γ.F Γ.W wild g s.heap s.next (first ++ c.args.toList.map s.ev ++ caps) K
      | .yl o => wild = true ∧ aYield P Γ.W o s.heap s.next (c.args.toList.map s.ev) K
      | _ => False)
    | _ => False)
  | _ => rop tab s.heap s.ev o.op fun a => K a s.heap s.next

def tameB (wild : Bool) (o : Oper) : Bool :=
  match o.op with
  | .store .. => false
  | .insert .. => false
  | .next .. => false
  | .call c => (match c.callee with | .builtin .append => false | .builtin .copy => false | .builtin _ => true | _ => !wild)
  | _ => true

section
variable {P : Program} {tab : Tab} {Γ : Ctx} {C : Cx} {nt : Nat} {m : Lm} {s : St} {a : Act} {w : World}

theorem gives_acts {F : Fr} {W : World} {ρ : Operand → Value} {o : Oper} {h : Hp} {n : Nat} {K : AV → Hp → Nat → Prop} (hs : Sim F W m h n w) (hg : Gives P m w ρ o fun a => K a h n) :
    ∃ v, (execOp ρ o).run P w = .ok (.value v) w ∧ Acts F W m w true K v w := by
  obtain ⟨a, v, hK, hr, hv⟩ := hg
  exact ⟨v, hv w (Grow.refl w), m, a, h, n, hK, hr, hs, fun _ _ h => h, fun _ => Grow.refl w⟩

theorem aop_sound {wild : Bool} (ht : TabOk P tab) (hS : ∀ p ∈ Γ.W, RecOk m p) (hs : SimS Γ C nt m s a w) {o : Oper} {K : AV → Hp → Nat → Prop} (hr : aop P tab Γ wild o s K) :
    good P o a w fun v w' => Acts C.F C.W m w (tameB wild o) K v w' := by
  have rcase : (rop tab s.heap s.ev o.op fun a => K a s.heap s.next) → good P o a w fun v w' => Acts C.F C.W m w (tameB wild o) K v w' := fun h => by
    obtain ⟨v, hv, m', x, h', n', q1, q2, q3, q4, q5⟩ := gives_acts hs.sim (rop_sound ht hs.sim (fun x => hs.ev x) h)
    unfold good
    rw [hv]
    exact ⟨m', x, h', n', q1, q2, q3, q4, fun _ => q5 rfl⟩
  unfold aop at hr
  split at hr
  case h_1 e ho =>
    obtain ⟨v, w', hv, hK⟩ := aAlloc_sound ht hs.sim hr
    unfold good
    have : tameB wild o = true := by simp [tameB, ho]
    rw [this]
    simp only [execOp, ho, Sem.run_bind, hv, Result.andThen_ok, Sem.run_pure, goodUpon]
    exact hK
  case h_2 e x ho =>
    obtain ⟨v, w', hv, hK⟩ := aBox_sound (P := P) (e := e) hs.sim hr (hs.ev x)
    unfold good
    have : tameB wild o = true := by simp [tameB, ho]
    rw [this]
    simp only [execOp, ho, Sem.run_bind, hv, Result.andThen_ok, Sem.run_pure, goodUpon]
    exact hK
  case h_3 t x y ho =>
    unfold good
    have : tameB wild o = false := by simp [tameB, ho]
    rw [this]
    split at hr
    · split at hr
      · obtain ⟨w', hv, hK⟩ := aStoreNone_sound ht hs.sim hr (hs.ev x) (hs.ev y)
        simp only [execOp, ho, Sem.run_bind, hv, Result.andThen_ok, Sem.run_pure, goodUpon]
        exact hK
      obtain ⟨c', hr⟩ := hr
      obtain ⟨w', hv, hK⟩ := aStoreAll_sound ht hs.sim hr (hs.ev x) (hs.ev y)
      simp only [execOp, ho, Sem.run_bind, hv, Result.andThen_ok, Sem.run_pure, goodUpon]
      exact hK
    · obtain ⟨w', hv, hK⟩ := aStore_sound ht hs.sim hr (hs.ev x) (hs.ev y)
      simp only [execOp, ho, Sem.run_bind, hv, Result.andThen_ok, Sem.run_pure, goodUpon]
      exact hK
  case h_4 t x y ho =>
    have hmk : ∃ v w', (Instr.makeSlice t (a.eval x) (a.eval y)).run P w = .ok v w' ∧ Acts C.F C.W m w true K v w' := by
      split at hr
      · split at hr
        · exact aMake2_sound ht hs.sim hr (hs.ev x) (hs.ev y)
        · exact aMake_sound ht hs.sim hr (hs.ev x) (hs.ev y)
      · exact hr.elim
    obtain ⟨v, w', hv, hK⟩ := hmk
    unfold good
    have : tameB wild o = true := by simp [tameB, ho]
    rw [this]
    simp only [execOp, ho, Sem.run_bind, hv, Result.andThen_ok, Sem.run_pure, goodUpon]
    exact hK
  case h_5 t len parts ho =>
    have hp : RepL m ((parts.toList.map fun p => (p.1, s.ev p.2)).map (·.2)) (parts.toList.map fun p => a.eval p.2) := by
      rw [List.map_map]
      have := repL_map (m := m) (fun x => hs.ev x) (parts.toList.map (·.2))
      simpa [List.map_map, Function.comp_def] using this
    have key : ∃ v w', (Instr.buildSlice t len (((parts.toList.map fun p => (p.1, s.ev p.2)).map (·.1)).zip (parts.toList.map fun p => a.eval p.2)).toArray).run P w = .ok v w' ∧ Acts C.F C.W m w true K v w' := by
      split at hr
      · split at hr
        · exact aBuildSlice_sound ht hs.sim hr hp
        · exact aBuildSliceE_sound ht hs.sim hr hp
      · exact hr.elim
    obtain ⟨v, w', hv, hK⟩ := key
    unfold good
    have : tameB wild o = true := by simp [tameB, ho]
    rw [this]
    have e1 : (parts.map fun (i, x) => (i, a.eval x)) = (((parts.toList.map fun p => (p.1, s.ev p.2)).map (·.1)).zip (parts.toList.map fun p => a.eval p.2)).toArray := by
      apply Array.ext'
      simp only [Array.toList_map, List.map_map, Function.comp_def]
      exact zip_map_snd _ _
    simp only [execOp, ho]
    rw [e1]
    simp only [Sem.run_bind, hv, Result.andThen_ok, Sem.run_pure, goodUpon]
    exact hK
  case h_6 t r ho =>
    obtain ⟨rfl, hr⟩ := hr
    obtain ⟨v, w', hv, hK⟩ := aMakeMap_sound (P := P) (t := t) hs.sim hr
    unfold good
    have : tameB wild o = true := by simp [tameB, ho]
    rw [this]
    simp only [execOp, ho, Option.map_none, Sem.run_bind, hv, Result.andThen_ok, Sem.run_pure, goodUpon]
    exact hK
  case h_7 t x ho =>
    obtain ⟨v, w', hv, hK⟩ := aRange_sound ht hs.sim hr (hs.ev x)
    unfold good
    have : tameB wild o = true := by simp [tameB, ho]
    rw [this]
    simp only [execOp, ho, Sem.run_bind, hv, Result.andThen_ok, Sem.run_pure, goodUpon]
    exact hK
  case h_8 x isS ho =>
    obtain ⟨v, w', hv, hK⟩ := aNext_sound (P := P) (t := o.type) hs.sim hr (hs.ev x)
    unfold good
    have : tameB wild o = false := by simp [tameB, ho]
    rw [this]
    simp only [execOp, ho, Sem.run_bind, hv, Result.andThen_ok, Sem.run_pure, goodUpon]
    exact hK
  case h_9 t x k v ho =>
    unfold good
    have : tameB wild o = false := by simp [tameB, ho]
    rw [this]
    obtain ⟨w', hv, hK⟩ := aInsert_sound ht hs.sim hr (hs.ev x) (hs.ev k) (hs.ev v)
    simp only [execOp, ho, Sem.run_bind, hv, Result.andThen_ok, Sem.run_pure, goodUpon]
    exact hK
  case h_10 c ho =>
    split at hr
    · rename_i hb
      split at hr
      · rename_i x y t t' hx hty
        have e1 : c.args = #[x, y] := by apply Array.ext'; simpa using hx
        have e2 : c.argTypes = #[t, t'] := by apply Array.ext'; simpa using hty
        have e3 : Array.map a.eval #[x, y] = #[a.eval x, a.eval y] := by simp
        have key : ∃ v w', (Builtin.append_ #[t, t'] o.type #[a.eval x, a.eval y]).run P w = .ok v w' ∧ Acts C.F C.W m w false K v w' := by
          split at hr
          · rename_i ik hik
            exact aAppendZ_sound (ty := o.type) ht hs.sim hik hr (hs.ev x) (hs.ev y)
          · obtain ⟨rfl, hr⟩ := hr
            exact aAppend_sound (ty := o.type) ht hs.sim hr (hs.ev x) (hs.ev y)
        obtain ⟨v, w', hv, hK⟩ := key
        unfold good
        have : tameB wild o = false := by simp [tameB, ho, hb]
        rw [this]
        simp only [execOp, ho, resolve, hb, e1, e2]
        simp only [pure_bind, invoke, builtin, Sem.run_bind]
        rw [e3, hv]
        simpa [goodUpon] using hK
      · exact hr.elim
    · rename_i hb
      split at hr
      · rename_i x y t t' hx hty
        obtain ⟨v, w', hv, hK⟩ := aCopy_sound (ty := o.type) (t' := t') ht hs.sim hr (hs.ev x) (hs.ev y)
        unfold good
        have : tameB wild o = false := by simp [tameB, ho, hb]
        rw [this]
        have e1 : c.args = #[x, y] := by apply Array.ext'; simpa using hx
        have e2 : c.argTypes = #[t, t'] := by apply Array.ext'; simpa using hty
        simp only [execOp, ho, resolve, hb, e1, e2]
        simp only [pure_bind, invoke, builtin, Sem.run_bind]
        have e3 : Array.map a.eval #[x, y] = #[a.eval x, a.eval y] := by simp
        rw [e3, hv]
        simpa [goodUpon] using hK
      · exact hr.elim
    · rename_i hnb1 hnb2 hb
      have hcp : tameB wild o = true := by
        simp only [tameB, ho, hb]
      rw [hcp]
      have hr' := rcase hr
      rw [hcp] at hr'
      exact hr'
    · rename_i f hb
      split at hr
      · rename_i g first caps hf
        obtain ⟨hent, hr⟩ := hr
        have hfv := hs.ev f
        rw [hf] at hfv
        simp only [Rep] at hfv
        have hargs := repL_append (repL_append (repL_vals (m := m) first.toList) (repL_map (m := m) (fun x => hs.ev x) c.args.toList)) (repL_vals (m := m) caps.toList)
        have hcall := aCallX_sound hS hs.sim hr hargs
        unfold good
        have ht1 : tameB wild o = !wild := by simp [tameB, ho, hb]
        rw [ht1]
        have e1 : (execOp a.eval o).run P w = .ok (.enter g (first.toList ++ c.args.toList.map a.eval ++ caps.toList).toArray) w := by
          simp only [execOp, ho, resolve, hb, hfv, Deferred.ofValue, pure_bind, invoke]
          have e2 : first ++ Array.map a.eval c.args ++ caps = (first.toList ++ c.args.toList.map a.eval ++ caps.toList).toArray := by apply Array.ext'; simp
          rw [e2]
          exact hent _ _
        rw [e1]
        exact hcall
      · rename_i g first caps hf
        obtain ⟨hent, hr⟩ := hr
        have hfv := hs.ev f
        rw [hf] at hfv
        simp only [Rep] at hfv
        obtain ⟨ys, zs, hfv, hys, hzs⟩ := hfv
        have hargs := repL_append (repL_append hys (repL_map (m := m) (fun x => hs.ev x) c.args.toList)) hzs
        have hcall := aCallX_sound hS hs.sim hr hargs
        unfold good
        have ht1 : tameB wild o = !wild := by simp [tameB, ho, hb]
        rw [ht1]
        have e1 : (execOp a.eval o).run P w = .ok (.enter g (ys ++ c.args.toList.map a.eval ++ zs).toArray) w := by
          simp only [execOp, ho, resolve, hb, hfv, Deferred.ofValue, pure_bind, invoke]
          have e2 : ys.toArray ++ Array.map a.eval c.args ++ zs.toArray = (ys ++ c.args.toList.map a.eval ++ zs).toArray := by apply Array.ext'; simp
          rw [e2]
          exact hent _ _
        rw [e1]
        exact hcall
      · rename_i oy hf
        obtain ⟨rfl, hr⟩ := hr
        have hfv := hs.ev f
        rw [hf] at hfv
        simp only [Rep] at hfv
        obtain ⟨l, hl, hfv⟩ := hfv
        obtain ⟨fn, tm, asg, bd, hy, hround⟩ := hr _ _ m l _ w hS hs.sim hl (repL_map (m := m) (fun x => hs.ev x) c.args.toList)
        unfold good
        have ht1 : tameB true o = false := by simp [tameB, ho, hb]
        rw [ht1]
        have e1 : (execOp a.eval o).run P w = .ok (.round l.blk fn tm asg bd) w := by
          have e2 : (c.args.toList.map a.eval).toArray = #[] ++ Array.map a.eval c.args ++ #[] := by apply Array.ext'; simp
          rw [e2] at hy
          simp only [execOp, ho, resolve, hb, hfv, Deferred.ofValue, pure_bind, invoke]
          exact hy
        rw [e1]
        exact hround
      · exact hr.elim
    · exact hr.elim
  case h_11 => exact rcase hr
end

/-! ### Regions -/

abbrev Guard := Option (Option Tmp × Bool)
def prep (ops : Array Oper) : List (Oper × Guard) := ops.toList.map fun o => (o, match o.guard with | none => none | some (j, want) => some ((ops[j]?).bind (·.dst), want))

def step1 (P : Program) (tab : Tab) (Γ : Ctx) (q wild : Bool) (o : Oper) (s : St) (K : St → Prop) : Prop :=
  if q then rop tab s.heap s.ev o.op fun a => K (s.set o.dst a s.heap s.next) else aop P tab Γ wild o s fun a h n => K (s.set o.dst a h n)

def stepA (P : Program) (tab : Tab) (Γ : Ctx) (q wild : Bool) (o : Oper) (g : Guard) (s : St) (K : St → Prop) : Prop :=
  match g with
  | none => step1 P tab Γ q wild o s K
  | some (some t, want) => (∃ b, s.tmps t = .val (.bool b) ∧ (b = want → step1 P tab Γ q wild o s K) ∧ (b = !want → K (s.set o.dst (.tup []) s.heap s.next))) ∨ (s.tmps t = .tup [] ∧ K (s.set o.dst (.tup []) s.heap s.next))
  | some (none, _) => False

def aord (P : Program) (tab : Tab) (Γ : Ctx) : List (Bool × Bool × Oper × Guard) → (St → Prop) → St → Prop
  | [], K, s => K s
  | (q, wild, o, g) :: l, K, s => stepA P tab Γ q wild o g s (aord P tab Γ l K)

theorem aord_nil {P : Program} {tab : Tab} {Γ : Ctx} {K : St → Prop} {s : St} (h : K s) : aord P tab Γ [] K s := h
theorem aord_plain {P : Program} {tab : Tab} {Γ : Ctx} {q wild : Bool} {o : Oper} {l : List (Bool × Bool × Oper × Guard)} {K : St → Prop} {s : St} (h : ∀ K' : St → Prop, (∀ s', aord P tab Γ l K s' → K' s') → step1 P tab Γ q wild o s K') : aord P tab Γ ((q, wild, o, none) :: l) K s :=
  h _ fun _ h => h
theorem aord_guard {P : Program} {tab : Tab} {Γ : Ctx} {q wild : Bool} {o : Oper} {l : List (Bool × Bool × Oper × Guard)} {K : St → Prop} {s : St} {t : Tmp} {want b : Bool} (hb : s.tmps t = .val (.bool b))
    (h1 : b = want → ∀ K' : St → Prop, (∀ s', aord P tab Γ l K s' → K' s') → step1 P tab Γ q wild o s K') (h2 : b = !want → aord P tab Γ l K (s.set o.dst (.tup []) s.heap s.next)) : aord P tab Γ ((q, wild, o, some (some t, want)) :: l) K s :=
  .inl ⟨b, hb, fun e => h1 e _ fun _ h => h, h2⟩
theorem aord_skip {P : Program} {tab : Tab} {Γ : Ctx} {q wild : Bool} {o : Oper} {l : List (Bool × Bool × Oper × Guard)} {K : St → Prop} {s : St} {t : Tmp} {want : Bool} (hb : s.tmps t = .tup []) (h : aord P tab Γ l K (s.set o.dst (.tup []) s.heap s.next)) : aord P tab Γ ((q, wild, o, some (some t, want)) :: l) K s :=
  .inr ⟨hb, h⟩

def dstOk (nt : Nat) (ops : Array Oper) : Bool := ops.toList.all fun o => match o.dst with | none => true | some d => Nat.blt d nt

/-- What code leaves: more marks, at most. -/
def PostA (Γ : Ctx) (C : Cx) (nt : Nat) (Q : Exit → St → Prop) (e : Exit) (a' : Act) (w' : World) : Prop :=
  ∃ Ds, (C.add Ds).ok ∧ (∀ b ∈ Ds, C.W.heap.size ≤ b) ∧ ∃ m' s', SimS Γ (C.add Ds) nt m' s' a' w' ∧ Q e s'
theorem PostA.same {Γ : Ctx} {C : Cx} {nt : Nat} {Q : Exit → St → Prop} {e : Exit} {a' : Act} {w' : World} (hC : C.ok) {m' : Lm} {s' : St} (h : SimS Γ C nt m' s' a' w') (hq : Q e s') : PostA Γ C nt Q e a' w' := ⟨[], hC, by simp, m', s', h, hq⟩

/-- Code over abstract states. -/
def AWP (Γ : Ctx) (nt : Nat) (P : Program) (c : Code) (Q : Exit → St → Prop) (s : St) : Prop :=
  (∀ p ∈ Γ.W, RecOk Γ.m0 p) → ∀ C : Cx, C.ok → C.r.isSome = Γ.F → ∀ m a w, SimS Γ C nt m s a w → c.wpIn (rF C.r) 0 P (PostA Γ C nt Q) a w

theorem SimS.recs {Γ : Ctx} {C : Cx} {nt : Nat} {m : Lm} {s : St} {a : Act} {w : World} (h : SimS Γ C nt m s a w) (hS : ∀ p ∈ Γ.W, RecOk Γ.m0 p) : ∀ p ∈ Γ.W, RecOk m p := fun p hp => (hS p hp).mono h.keep

section
variable {P : Program} {tab : Tab} {Γ : Ctx} {C : Cx} {nt : Nat} {ops : Array Oper}

theorem dst_lt (hd : dstOk nt ops = true) {i : Nat} {o : Oper} (ho : ops[i]? = some o) : ∀ d, o.dst = some d → d < nt := by
  intro d hdd
  have := List.all_eq_true.1 hd o (Array.mem_toList_iff.2 (Array.mem_of_getElem? ho))
  simpa [hdd, Nat.blt_eq] using this

theorem prep_get {i : Nat} {o : Oper} {g : Guard} (h : (prep ops)[i]? = some (o, g)) : ops[i]? = some o ∧ g = (match o.guard with | none => none | some (j, want) => some ((ops[j]?).bind (·.dst), want)) := by
  simp only [prep, List.getElem?_map, Option.map_eq_some_iff] at h
  obtain ⟨o', ho, he⟩ := h
  cases he
  exact ⟨by simpa using ho, rfl⟩

theorem wanted_of {m : Lm} {s : St} {a : Act} {w : World} (hs : SimS Γ C nt m s a w) {o : Oper} {j : Nat} {want : Bool} {t : Tmp} {b : Bool} (hg : o.guard = some (j, want)) (hj : (ops[j]?).bind (·.dst) = some t) (hb : s.tmps t = .val (.bool b)) :
    Region.wanted o (yielded ops a.tmps) = (b == want) := by
  have h := hs.tmps t
  rw [hb] at h
  simp only [Rep] at h
  have h2 : a.tmps[t]? = some (.bool b) := by
    rw [Array.getD_eq_getD_getElem?] at h
    cases h3 : a.tmps[t]? with
    | none => rw [h3] at h; simp [undef] at h
    | some v => rw [h3] at h; simp at h; rw [h]
  simp only [Region.wanted, hg, yielded, hj, Option.bind_some, h2]
  cases b <;> cases want <;> rfl

theorem not_wanted {m : Lm} {s : St} {a : Act} {w : World} (hs : SimS Γ C nt m s a w) {o : Oper} {j : Nat} {want : Bool} {t : Tmp} (hg : o.guard = some (j, want)) (hj : (ops[j]?).bind (·.dst) = some t) (hb : s.tmps t = .tup []) :
    Region.wanted o (yielded ops a.tmps) = false := by
  have h := hs.tmps t
  rw [hb] at h
  simp only [Rep] at h
  obtain ⟨xs, h, _⟩ := h
  simp only [Region.wanted, hg, yielded, hj, Option.bind_some]
  cases h3 : a.tmps[t]? with
  | none => rfl
  | some v =>
    rw [Array.getD_eq_getD_getElem?, h3] at h
    simp only [Option.getD_some] at h
    subst h
    rfl

theorem rep_undef (m : Lm) : Rep m (.tup []) undef := by
  simp only [Rep]
  exact ⟨[], rfl, by simp [RepL]⟩
theorem rep_any (m : Lm) (v : Value) : Rep m .any v := by simp [Rep]

/-- One operation in the plain order. -/
theorem opG_of {m : Lm} {s : St} {a : Act} {w : World} (ht : TabOk P tab) (hS : ∀ p ∈ Γ.W, RecOk Γ.m0 p) (hd : dstOk nt ops = true) (hs : SimS Γ C nt m s a w) {i : Nat} {o : Oper} {g : Guard} {q wild : Bool} (hi : (prep ops)[i]? = some (o, g)) {K : St → Prop} (h : stepA P tab Γ q wild o g s K) :
    opG P ops i (fun a' w' => (tameB wild o = true → Grow w w') ∧ ∃ m' s', SimS Γ C nt m' s' a' w' ∧ K s') a w := by
  obtain ⟨ho, hg⟩ := prep_get hi
  have run : step1 P tab Γ q wild o s K → good P o a w fun v w' => (tameB wild o = true → Grow w w') ∧ ∃ m' s', SimS Γ C nt m' s' (a.put o.dst v) w' ∧ K s' := fun h1 => by
    unfold step1 at h1
    split at h1
    · obtain ⟨v, hv, m', x, h', n', q1, q2, q3, q4, q5⟩ := gives_acts (K := fun x h n => K (s.set o.dst x h n)) hs.sim (rop_sound ht hs.sim (fun x => hs.ev x) h1)
      unfold good
      rw [hv]
      exact ⟨fun _ => q5 rfl, m', _, hs.set (dst_lt hd ho) q2 q3 q4, q1⟩
    · refine (aop_sound ht (hs.recs hS) hs h1).mono fun v w' hK => ?_
      obtain ⟨m', x, h', n', q1, q2, q3, q4, q5⟩ := hK
      exact ⟨q5, m', _, hs.set (dst_lt hd ho) q2 q3 q4, q1⟩
  unfold opG
  simp only [ho]
  unfold stepA at h
  split at h
  · rename_i hgn
    have : o.guard = none := by
      cases hgo : o.guard with
      | none => rfl
      | some p => rw [hgo] at hg; cases hg
    simp only [Region.wanted, this, if_true]
    exact run h
  · rename_i t want
    cases hgo : o.guard with
    | none => rw [hgo] at hg; cases hg
    | some p =>
      obtain ⟨j, w1⟩ := p
      rw [hgo] at hg
      simp only [Option.some.injEq, Prod.mk.injEq] at hg
      obtain ⟨e1, rfl⟩ := hg
      rcases h with ⟨b, hb, h1, h2⟩ | ⟨hb, h2⟩
      case inr =>
        rw [not_wanted hs hgo e1.symm hb]
        simp only [Bool.false_eq_true, if_false]
        exact ⟨fun _ => Grow.refl w, m, _, hs.set (dst_lt hd ho) (rep_undef _) hs.sim (fun _ _ h => h), h2⟩
      rw [wanted_of hs hgo e1.symm hb]
      by_cases hbw : b = want
      · rw [hbw]; simp only [beq_self_eq_true, if_true]; exact run (h1 hbw)
      · have : (b == want) = false := by simpa using hbw
        rw [this]
        simp only [Bool.false_eq_true, if_false]
        exact ⟨fun _ => Grow.refl w, m, _, hs.set (dst_lt hd ho) (rep_undef _) hs.sim (fun _ _ h => h), h2 (by cases b <;> cases want <;> simp_all)⟩
  · exact h.elim

theorem seq_sound (ht : TabOk P tab) (hS : ∀ p ∈ Γ.W, RecOk Γ.m0 p) (hd : dstOk nt ops = true) {K : St → Prop} : ∀ (l : List (Oper × Guard)) (k : Nat), (∀ j : Nat, l[j]? = (prep ops)[k + j]?) → ∀ {m : Lm} {s : St} {a : Act} {w : World}, SimS Γ C nt m s a w → aord P tab Γ (l.map fun p => (false, true, p)) K s →
    seqG P ops (fun a' w' => ∃ m' s', SimS Γ C nt m' s' a' w' ∧ K s') (List.range' k l.length) a w
  | [], k, _, m, s, a, w, hs, h => ⟨m, s, hs, h⟩
  | (o, g) :: l, k, hl, m, s, a, w, hs, h => by
    simp only [List.length_cons, List.range'_succ]
    have hi : (prep ops)[k]? = some (o, g) := by simpa using (hl 0).symm
    refine opG.mono (opG_of ht hS hd hs hi h) fun a' w' ⟨_, m', s', hs', hK⟩ => ?_
    exact seq_sound ht hS hd l (k + 1) (fun j => by have := hl (j + 1); simpa [Nat.add_assoc, Nat.add_comm 1 j] using this) hs' hK

theorem awp_region (ht : TabOk P tab) {id : Nat} {Q : Exit → St → Prop} {s : St} (hd : dstOk nt ops = true) (h : aord P tab Γ ((prep ops).map fun p => (false, true, p)) (fun s' => Q .normal s') s) : AWP Γ nt P (.region id ops false) Q s := by
  intro hS C hC _ m a w hs
  refine wpIn_region_seq ?_
  have hlen : (prep ops).length = ops.size := by simp [prep]
  refine seqG.mono (K := fun a' w' => ∃ m' s', SimS Γ C nt m' s' a' w' ∧ Q .normal s') ?_ fun a' w' ⟨m', s', h1, h2⟩ => PostA.same hC h1 h2
  have := seq_sound ht hS hd (prep ops) 0 (fun j => by simp) hs h
  rw [hlen, ← List.range_eq_range'] at this
  exact this

/-- The operations in the order that is given. -/
def pickO (ops : Array Oper) : List (Nat × Bool × Bool) → List (Bool × Bool × Oper × Guard)
  | [] => []
  | (i, q, wild) :: l => match (prep ops)[i]? with
    | some p => (q, wild, p) :: pickO ops l
    | none => []

def wildsOf (ops : Array Oper) (ord : List (Nat × Bool × Bool)) : List Nat := (List.range ops.size).filter fun i => match ops[i]? with | some o => !tameB (ord.any fun p => p.1 == i && p.2.2) o | none => false
def ord2 (ord : List (Nat × Bool × Bool)) : List (Nat × Bool) := ord.map fun p => (p.1, p.2.1)

theorem tameB_any {o : Oper} {b : Bool} (h : tameB b o = false) : tameB true o = false := by
  unfold tameB at h ⊢
  split <;> simp_all
  split <;> simp_all

theorem ord_sound {full : List (Nat × Bool × Bool)} (ht : TabOk P tab) (hS : ∀ p ∈ Γ.W, RecOk Γ.m0 p) (hd : dstOk nt ops = true) {K : St → Prop} : ∀ (l : List (Nat × Bool × Bool)), (∀ p ∈ l, p.1 < ops.size ∧ p ∈ full) → ∀ {m : Lm} {s : St} {a : Act} {w : World}, SimS Γ C nt m s a w → aord P tab Γ (pickO ops l) K s →
    ordG P ops (wildsOf ops full) (fun a' w' => ∃ m' s', SimS Γ C nt m' s' a' w' ∧ K s') (ord2 l) a w
  | [], _, m, s, a, w, hs, h => ⟨m, s, hs, h⟩
  | (i, q, wild) :: l, hl, m, s, a, w, hs, h => by
    have hlt : i < ops.size := (hl (i, q, wild) (by simp)).1
    have hfull : (i, q, wild) ∈ full := (hl (i, q, wild) (by simp)).2
    simp only [ord2, List.map_cons]
    have hlen : (prep ops).length = ops.size := by simp [prep]
    obtain ⟨⟨o, g⟩, hi⟩ : ∃ p, (prep ops)[i]? = some p := ⟨_, List.getElem?_eq_getElem (by omega)⟩
    simp only [pickO, hi, aord] at h
    obtain ⟨ho, hg⟩ := prep_get hi
    cases q with
    | false =>
      refine opG.mono (opG_of ht hS hd hs hi h) fun a' w' ⟨hgr, m', s', hs', hK⟩ => ⟨fun hw => hgr ?_, ord_sound ht hS hd l (fun p hp => hl p (by simp [hp])) hs' hK⟩
      cases htm : tameB wild o with
      | true => rfl
      | false =>
        exfalso
        apply hw
        simp only [wildsOf, List.mem_filter, List.mem_range]
        refine ⟨hlt, ?_⟩
        have e1 : tameB (full.any fun p => p.1 == i && p.2.2) o = false := by
          cases wild with
          | true =>
            have : (full.any fun p => p.1 == i && p.2.2) = true := List.any_eq_true.2 ⟨_, hfull, by simp⟩
            rw [this]; exact htm
          | false =>
            cases (full.any fun p => p.1 == i && p.2.2) with
            | false => exact htm
            | true => exact tameB_any htm
        simp [ho, e1]
    | true =>
      simp only [ordG]
      have yes : step1 P tab Γ true wild o s (aord P tab Γ (pickO ops l) K) → Region.wanted o (yielded ops a.tmps) = true → ∃ o v, ops[i]? = some o ∧ YieldsX P ops o v a w ∧ ordG P ops (wildsOf ops full) (fun a' w' => ∃ m' s', SimS Γ C nt m' s' a' w' ∧ K s') (ord2 l) (a.put o.dst v) w := fun h1 hw => by
        simp only [step1, if_true] at h1
        obtain ⟨x, v, hK, hr, hv⟩ := rop_sound ht hs.sim (fun x => hs.ev x) h1
        exact ⟨o, v, ho, .inl ⟨hw, hv⟩, ord_sound ht hS hd l (fun p hp => hl p (by simp [hp])) (hs.set (dst_lt hd ho) hr hs.sim (fun _ _ h => h)) hK⟩
      unfold stepA at h
      split at h
      · have : o.guard = none := by
          cases hgo : o.guard with
          | none => rfl
          | some p => rw [hgo] at hg; cases hg
        exact yes h (by simp [Region.wanted, this])
      · rename_i t want
        cases hgo : o.guard with
        | none => rw [hgo] at hg; cases hg
        | some p =>
          obtain ⟨j, w1⟩ := p
          rw [hgo] at hg
          simp only [Option.some.injEq, Prod.mk.injEq] at hg
          obtain ⟨e1, rfl⟩ := hg
          rcases h with ⟨b, hb, h1, h2⟩ | ⟨hb, h2⟩
          case inr =>
            exact ⟨o, undef, ho, .inr ⟨not_wanted hs hgo e1.symm hb, rfl⟩, ord_sound ht hS hd l (fun p hp => hl p (by simp [hp])) (hs.set (dst_lt hd ho) (rep_undef _) hs.sim (fun _ _ h => h)) h2⟩
          have hwt := wanted_of hs hgo e1.symm hb
          by_cases hbw : b = want
          · exact yes (h1 hbw) (by rw [hwt, hbw]; simp)
          · have : (b == want) = false := by simpa using hbw
            exact ⟨o, undef, ho, .inr ⟨by rw [hwt, this], rfl⟩, ord_sound ht hS hd l (fun p hp => hl p (by simp [hp])) (hs.set (dst_lt hd ho) (rep_undef _) hs.sim (fun _ _ h => h)) (h2 (by cases b <;> cases want <;> simp_all))⟩
      · exact h.elim

theorem awp_region_draw (ht : TabOk P tab) {id : Nat} {Q : Exit → St → Prop} {s : St} (ord : List (Nat × Bool × Bool)) (hm : P.follows .mixedOrders = true) (hd : dstOk nt ops = true)
    (hB : (Region.noSelect ops && ord.length == ops.size && ord.all (fun p => p.1 < ops.size) && chkO ops (wildsOf ops ord) (ord2 ord) (Array.replicate ops.size false)) = true)
    (h : aord P tab Γ (pickO ops ord) (fun s' => Q .normal s') s) : AWP Γ nt P (.region id ops true) Q s := by
  intro hS C hC _ m a w hs
  simp only [Bool.and_eq_true, beq_iff_eq, List.all_eq_true, decide_eq_true_eq] at hB
  obtain ⟨⟨⟨h1, h2⟩, h3⟩, h4⟩ := hB
  have hs' : SimS Γ C nt m s a { w with drawn := w.drawn + 1 } := ⟨hs.sim.grow ((Below.refl _ _).drew), hs.keep, hs.size, hs.defers, hs.tmps⟩
  refine wpIn_region_ord (wilds := wildsOf ops ord) (ord2 ord) hm h1 (by simpa [ord2] using h2) h4 ?_
  refine ordG.mono (K := fun a' w' => ∃ m' s', SimS Γ C nt m' s' a' w' ∧ Q .normal s') ?_ fun a' w' ⟨m', s', h1, h2⟩ => PostA.same hC h1 h2
  exact ord_sound ht hS hd ord (fun p hp => ⟨h3 p hp, hp⟩) hs' h
end
end Go.Ab
