/- The rules of a function's code; weakening of a state; a contract out of a function's body. -/
import Derived.Test.YtbnldepaebcojaaAb9
namespace Go.Ab
set_option linter.all false
open Go Go.RowKit

section
variable {P : Program} {Γ : Ctx} {nt : Nat} {Q : Exit → St → Prop} {s : St}

theorem PostA.mono {C : Cx} {Q' : Exit → St → Prop} {e : Exit} {a : Act} {w : World} (h : PostA Γ C nt Q e a w) (hq : ∀ s, Q e s → Q' e s) : PostA Γ C nt Q' e a w :=
  let ⟨Ds, h1, h2, m', s', h3, h4⟩ := h; ⟨Ds, h1, h2, m', s', h3, hq _ h4⟩
/-- What is left behind more marks. -/
theorem PostA.add {C : Cx} {Ds : List Nat} {e : Exit} {a : Act} {w : World} (hlt : ∀ b ∈ Ds, C.W.heap.size ≤ b) (h : PostA Γ (C.add Ds) nt Q e a w) : PostA Γ C nt Q e a w := by
  obtain ⟨D2, h1, h2, m', s', h3, h4⟩ := h
  rw [Cx.add_add] at h1 h3
  exact ⟨D2 ++ Ds, h1, fun b hb => (List.mem_append.1 hb).elim (h2 b) (hlt b), m', s', h3, h4⟩

theorem AWP.mono {c : Code} {Q' : Exit → St → Prop} (h : AWP Γ nt P c Q s) (hq : ∀ e s, Q e s → Q' e s) : AWP Γ nt P c Q' s :=
  fun hS C hC hr m a w hs => wpIn_mono (h hS C hC hr m a w hs) fun e _ _ h => h.mono (hq e)

theorem awp_skip (h : Q .normal s) : AWP Γ nt P .skip Q s := fun _ _ hC _ _ _ _ hs => wpIn_skip (.same hC hs h)
theorem awp_label {l : Nat} (h : Q .normal s) : AWP Γ nt P (.label l) Q s := fun _ _ hC _ _ _ _ hs => wpIn_label (.same hC hs h)
theorem awp_exit {id : Nat} (h : Q (.exit id) s) : AWP Γ nt P (.exit id) Q s := fun _ _ hC _ _ _ _ hs => wpIn_exit (.same hC hs h)
theorem awp_goto {l : Nat} (h : Q (.goto l) s) : AWP Γ nt P (.goto l) Q s := fun _ _ hC _ _ _ _ hs => wpIn_goto (.same hC hs h)
theorem awp_ret (h : Q .ret s) : AWP Γ nt P .ret Q s := fun _ _ hC _ _ _ _ hs => wpIn_ret (.same hC hs h)

/-- What follows, and what leaves. -/
def thenA (K : St → Prop) (Q : Exit → St → Prop) : Exit → St → Prop
  | .normal, s => K s
  | e, s => Q e s

@[simp] theorem thenA_normal (K : St → Prop) (Q : Exit → St → Prop) (s : St) : thenA K Q .normal s = K s := rfl
@[simp] theorem thenA_exit (K : St → Prop) (Q : Exit → St → Prop) (s : St) (i : Nat) : thenA K Q (.exit i) s = Q (.exit i) s := rfl
@[simp] theorem thenA_goto (K : St → Prop) (Q : Exit → St → Prop) (s : St) (i : Nat) : thenA K Q (.goto i) s = Q (.goto i) s := rfl
@[simp] theorem thenA_ret (K : St → Prop) (Q : Exit → St → Prop) (s : St) : thenA K Q .ret s = Q .ret s := rfl

theorem awp_seq {x y : Code} (h : AWP Γ nt P x (thenA (AWP Γ nt P y Q) Q) s) : AWP Γ nt P (.seq x y) Q s := by
  intro hS C hC hr m a w hs
  refine wpIn_seq (wpIn_mono (h hS C hC hr m a w hs) fun e a' w' hp => ?_)
  cases e with
  | normal =>
    obtain ⟨Ds, h1, h2, m', s', h3, h4⟩ := hp
    exact wpIn_mono (h4 hS (C.add Ds) h1 hr m' a' w' h3) fun _ _ _ h => h.add h2
  | _ => exact hp

theorem awp_seq_k {x y : Code} (h : ∀ K : St → Prop, (∀ s, AWP Γ nt P y Q s → K s) → AWP Γ nt P x (thenA K Q) s) : AWP Γ nt P (.seq x y) Q s := awp_seq (h _ fun _ h => h)

theorem awp_cond {c : Operand} {x y : Code} {b : Bool} (hc : s.ev c = .val (.bool b)) (ht : b = true → AWP Γ nt P x Q s) (hf : b = false → AWP Γ nt P y Q s) : AWP Γ nt P (.cond c x y) Q s := by
  intro hS C hC hr m a w hs
  have h := hs.ev c
  rw [hc] at h
  simp only [Rep] at h
  exact wpIn_cond_split h (fun e => ht e hS C hC hr m a w hs) (fun e => hf e hS C hC hr m a w hs)

def blockA (id : Nat) (Q : Exit → St → Prop) : Exit → St → Prop
  | .exit id', s => if id' = id then Q .normal s else Q (.exit id') s
  | e, s => Q e s

@[simp] theorem blockA_normal (id : Nat) (Q : Exit → St → Prop) (s : St) : blockA id Q .normal s = Q .normal s := rfl
@[simp] theorem blockA_same (id : Nat) (Q : Exit → St → Prop) (s : St) : blockA id Q (.exit id) s = Q .normal s := by simp [blockA]
theorem blockA_exit (id : Nat) (Q : Exit → St → Prop) (s : St) (i : Nat) : blockA id Q (.exit i) s = if i = id then Q .normal s else Q (.exit i) s := rfl
@[simp] theorem blockA_goto (id : Nat) (Q : Exit → St → Prop) (s : St) (i : Nat) : blockA id Q (.goto i) s = Q (.goto i) s := rfl
@[simp] theorem blockA_ret (id : Nat) (Q : Exit → St → Prop) (s : St) : blockA id Q .ret s = Q .ret s := rfl

theorem awp_block {id : Nat} {c : Code} (h : AWP Γ nt P c (blockA id Q) s) : AWP Γ nt P (.block id c) Q s := by
  intro hS C hC hr m a w hs
  refine wpIn_block (wpIn_mono (h hS C hC hr m a w hs) fun e a' w' hp => ?_)
  cases e with
  | exit id' =>
    obtain ⟨Ds, g1, g2, m', s', h1, h2⟩ := hp
    simp only [Exit.inBlock, blockA] at h2 ⊢
    split at h2
    · rename_i hid; simp only [hid, if_true]; exact ⟨Ds, g1, g2, m', s', h1, h2⟩
    · rename_i hid; simp only [hid, if_false]; exact ⟨Ds, g1, g2, m', s', h1, h2⟩
  | _ => exact hp

/-- A loop, with a count that every round lowers. -/
theorem wpIn_loop_rel {F : Fence} {m : Nat} {P : Program} {c : Code} {Q : Exit → Act → World → Prop} (I : Nat → Act → World → Prop) (round : ∀ n a w, I n a w → c.wpIn F m P (Exit.then (fun a' w' => ∃ k, k < n ∧ I k a' w') Q) a w) {n : Nat} {a : Act} {w : World} (h0 : I n a w) : (Code.loop c).wpIn F m P Q a w := by
  intro b k cs hro hb hr
  have key : ∀ n a w, I n a w → ∃ e a' w', Q e a' w' ∧ ArrivesIn (Machine.fenced P F) P (lone (b.atR a (.code c :: .inLoop c :: k)) cs w) b k cs e a' w' := by
    intro n
    induction n using Nat.strongRecOn with
    | _ n ih =>
      intro a w hI
      obtain ⟨e, a1, w1, hq, harr⟩ := round n a w hI b (.inLoop c :: k) cs hro hb hr
      cases e with
      | normal =>
        obtain ⟨j, hj, hI1⟩ := hq
        obtain ⟨e2, a2, w2, hq2, harr2⟩ := ih j hj a1 w1 hI1
        exact ⟨e2, a2, w2, hq2, .of_steps (StepsIn.trans harr (.one (fenced_calm hb hr rfl) stepR_inLoop)) harr2⟩
      | exit id => exact ⟨_, a1, w1, hq, .pass (x := .inLoop c) rfl (fun _ _ => .inl (by simp)) harr⟩
      | goto l => exact ⟨_, a1, w1, hq, .pass (x := .inLoop c) rfl (fun _ _ => .inl (by simp)) harr⟩
      | ret => exact ⟨_, a1, w1, hq, .pass (x := .inLoop c) rfl (fun _ _ => .inl (by simp)) harr⟩
      | panic ch => exact ⟨_, a1, w1, hq, .pass (x := .inLoop c) rfl (fun _ _ => .inl (by simp)) harr⟩
      | outgrown => exact ⟨_, a1, w1, hq, .pass (x := .inLoop c) rfl (fun _ _ => .inl (by simp)) harr⟩
  obtain ⟨e, a', w', hq, harr⟩ := key n a w h0
  exact ⟨e, a', w', hq, .of_steps (.one (fenced_calm hb hr rfl) stepR_loop) harr⟩
end

/-! ### Weakening: names are changed, values and objects forgotten -/

mutual
def ren (ρ : Nat → Nat) : AV → AV
  | .ref o k => .ref (ρ o) k
  | .sl o off len es lim => .sl (ρ o) off len es lim
  | .pref o i k => .pref (ρ o) i k
  | .psl o i off len lim => .psl (ρ o) i off len lim
  | .agg as => .agg (renL ρ as)
  | .tup as => .tup (renL ρ as)
  | .ifc t a => .ifc t (ren ρ a)
  | .clo f xs ys => .clo f (renL ρ xs) (renL ρ ys)
  | .mp o => .mp (ρ o)
  | .yl o => .yl (ρ o)
  | .val v => .val v
  | .any => .any
def renL (ρ : Nat → Nat) : List AV → List AV
  | [] => []
  | a :: as => ren ρ a :: renL ρ as
end

mutual
/-- All names are less than n. -/
def AV.lt (n : Nat) : AV → Bool
  | .ref o _ => o < n
  | .sl o _ _ _ _ => o < n
  | .pref o _ _ => o < n
  | .psl o _ _ _ _ => o < n
  | .agg as => AV.ltL n as
  | .tup as => AV.ltL n as
  | .ifc _ a => AV.lt n a
  | .clo _ xs ys => AV.ltL n xs && AV.ltL n ys
  | .mp o => o < n
  | .yl o => o < n
  | .val _ => true
  | .any => true
def AV.ltL (n : Nat) : List AV → Bool
  | [] => true
  | a :: as => AV.lt n a && AV.ltL n as
end

def renM (ρ : Nat → Nat) (n : Nat) (m : Lm) : Lm := fun o => if o < n then m (ρ o) else none

mutual
theorem rep_ren {ρ : Nat → Nat} {n : Nat} {m : Lm} : ∀ (a : AV) (x : Value), a.lt n = true → Rep m (ren ρ a) x → Rep (renM ρ n m) a x
  | .any, _, _, _ => by simp [Rep]
  | .val _, _, _, h => by simpa [Rep, ren] using h
  | .ref o k, _, hl, h => by simp only [AV.lt, decide_eq_true_eq] at hl; simp only [Rep, ren, renM, hl, if_true] at h ⊢; exact h
  | .sl o _ _ _ _, _, hl, h => by simp only [AV.lt, decide_eq_true_eq] at hl; simp only [Rep, ren, renM, hl, if_true] at h ⊢; exact h
  | .pref o _ _, _, hl, h => by simp only [AV.lt, decide_eq_true_eq] at hl; simp only [Rep, ren, renM, hl, if_true] at h ⊢; exact h
  | .psl o _ _ _ _, _, hl, h => by simp only [AV.lt, decide_eq_true_eq] at hl; simp only [Rep, ren, renM, hl, if_true] at h ⊢; exact h
  | .mp o, _, hl, h => by simp only [AV.lt, decide_eq_true_eq] at hl; simp only [Rep, ren, renM, hl, if_true] at h ⊢; exact h
  | .yl o, _, hl, h => by simp only [AV.lt, decide_eq_true_eq] at hl; simp only [Rep, ren, renM, hl, if_true] at h ⊢; exact h
  | .agg as, _, hl, h => by simp only [AV.lt] at hl; simp only [Rep, ren] at h ⊢; obtain ⟨xs, h1, h2⟩ := h; exact ⟨xs, h1, repL_ren as xs hl h2⟩
  | .tup as, _, hl, h => by simp only [AV.lt] at hl; simp only [Rep, ren] at h ⊢; obtain ⟨xs, h1, h2⟩ := h; exact ⟨xs, h1, repL_ren as xs hl h2⟩
  | .ifc _ a, _, hl, h => by simp only [AV.lt] at hl; simp only [Rep, ren] at h ⊢; obtain ⟨y, h1, h2⟩ := h; exact ⟨y, h1, rep_ren a y hl h2⟩
  | .clo _ xs ys, _, hl, h => by
    simp only [AV.lt, Bool.and_eq_true] at hl
    simp only [Rep, ren] at h ⊢
    obtain ⟨us, vs, h1, h2, h3⟩ := h
    exact ⟨us, vs, h1, repL_ren xs us hl.1 h2, repL_ren ys vs hl.2 h3⟩
theorem repL_ren {ρ : Nat → Nat} {n : Nat} {m : Lm} : ∀ (as : List AV) (xs : List Value), AV.ltL n as = true → RepL m (renL ρ as) xs → RepL (renM ρ n m) as xs
  | [], [], _, _ => by simp [RepL]
  | [], _ :: _, _, h => by simp [RepL, renL] at h
  | _ :: _, [], _, h => by simp [RepL, renL] at h
  | a :: as, x :: xs, hl, h => by
    simp only [AV.ltL, Bool.and_eq_true] at hl
    simp only [RepL, renL] at h ⊢
    exact ⟨rep_ren a x hl.1 h.1, repL_ren as xs hl.2 h.2⟩
end

def TmpLe (ρ : Nat → Nat) (n : Nat) (f' f : Nat → AV) : Prop := ∀ t, f' t = .any ∨ (f t = ren ρ (f' t) ∧ (f' t).lt n = true)

def bot : Nat → AV := fun _ => .any
theorem TmpLe.bot {ρ : Nat → Nat} {n : Nat} {f : Nat → AV} : TmpLe ρ n Ab.bot f := fun _ => .inl rfl
theorem TmpLe.upd {ρ : Nat → Nat} {n : Nat} {f g : Nat → AV} {t : Nat} {a : AV} (h1 : f t = ren ρ a) (h2 : a.lt n = true) (h : TmpLe ρ n g f) : TmpLe ρ n (upd g t a) f := fun u => by
  by_cases e : u = t
  · subst e; rw [upd_same]; exact .inr ⟨h1, h2⟩
  · rw [upd_ne _ _ e]; exact h u

/-- A content may be taken for another one. -/
def ContLe (ρ : Nat → Nat) (n : Nat) (c' c : Cont) : Prop :=
  match c' with
  | .cells as' => ∃ as, c = .cells as ∧ as.length = as'.length ∧ ∀ (i : Nat) (a' : AV), as'[i]? = some a' → a' = .any ∨ (as[i]? = some (ren ρ a') ∧ a'.lt n = true)
  | .same o' q' => c = .same (ρ o') (ρ q') ∧ o' < n ∧ q' < n
  | c' => c = c'

theorem contLe_vals {ρ : Nat → Nat} {n : Nat} {vs : List Value} : ContLe ρ n (.cells (vs.map .val)) (.cells (vs.map .val)) := by
  refine ⟨_, rfl, rfl, fun i a' h => .inr ?_⟩
  simp only [List.getElem?_map, Option.map_eq_some_iff] at h
  obtain ⟨v, hv, rfl⟩ := h
  exact ⟨by simp [hv, ren], rfl⟩
theorem contLe_nil {ρ : Nat → Nat} {n : Nat} : ContLe ρ n (.cells []) (.cells []) := ⟨_, rfl, rfl, fun i a' h => by simp at h⟩
theorem contLe_cons {ρ : Nat → Nat} {n : Nat} {a a' : AV} {as as' : List AV} (h : a' = .any ∨ (a = ren ρ a' ∧ a'.lt n = true)) (ht : ContLe ρ n (.cells as') (.cells as)) : ContLe ρ n (.cells (a' :: as')) (.cells (a :: as)) := by
  obtain ⟨_, h1, h2, h3⟩ := ht
  cases h1
  refine ⟨_, rfl, by simp [h2], fun i b hb => ?_⟩
  cases i with
  | zero => simp at hb; subst hb; rcases h with h | ⟨h, h'⟩; exact .inl h; exact .inr ⟨by simp [h], h'⟩
  | succ i => simpa using h3 i b (by simpa using hb)

def none' : Hp := fun _ => none

/-- Objects under n0 keep their names; the others are told one by one (dom); those of 'ex' have been told. -/
def HeapX (ρ : Nat → Nat) (n n0 : Nat) (dom ex : List Nat) (h' h : Hp) : Prop :=
  ∀ o ob', o ∉ ex → h' o = some ob' → o < n ∧ ((o < n0 ∧ ρ o = o) ∨ o ∈ dom) ∧ ∃ ob, h (ρ o) = some ob ∧ ob.rw = ob'.rw ∧ ContLe ρ n ob'.cont ob.cont

theorem HeapX.bot {ρ : Nat → Nat} {n n0 : Nat} {ex : List Nat} {h : Hp} : HeapX ρ n n0 [] ex none' h := fun _ _ _ h => by cases h
theorem HeapX.skip {ρ : Nat → Nat} {n n0 : Nat} {dom ex : List Nat} {g h : Hp} {o : Nat} {x : Option Ob} (hx : o ∈ ex) (hh : HeapX ρ n n0 dom ex g h) : HeapX ρ n n0 dom ex (Ab.upd g o x) h := fun u ob' hu h1 => by
  by_cases e : u = o
  · subst e; exact absurd hx hu
  · rw [upd_ne _ _ e] at h1; exact hh u ob' hu h1
theorem HeapX.none {ρ : Nat → Nat} {n n0 : Nat} {dom ex : List Nat} {g h : Hp} {o : Nat} (hh : HeapX ρ n n0 dom (o :: ex) g h) : HeapX ρ n n0 dom ex (Ab.upd g o .none) h := fun u ob' hu h1 => by
  by_cases e : u = o
  · subst e; rw [upd_same] at h1; cases h1
  · rw [upd_ne _ _ e] at h1; exact hh u ob' (by simp [e, hu]) h1
theorem HeapX.upd {ρ : Nat → Nat} {n n0 : Nat} {dom ex : List Nat} {g h : Hp} {o : Nat} {rw : Bool} {c' c : Cont} (h1 : h (ρ o) = some ⟨rw, c⟩) (h2 : ContLe ρ n c' c) (h3 : o < n) (hh : HeapX ρ n n0 dom (o :: ex) g h) : HeapX ρ n n0 (o :: dom) ex (Ab.upd g o (some ⟨rw, c'⟩)) h := fun u ob' hx hu => by
  by_cases e : u = o
  · subst e; rw [upd_same] at hu; cases hu; exact ⟨h3, .inr (by simp), _, h1, rfl, h2⟩
  · rw [upd_ne _ _ e] at hu
    obtain ⟨a, b, c⟩ := hh u ob' (by simp [e, hx]) hu
    exact ⟨a, b.imp id (fun b => by simp [b]), c⟩
theorem HeapX.old {ρ : Nat → Nat} {n n0 : Nat} {dom ex : List Nat} {g h : Hp} {o : Nat} {rw : Bool} {c' c : Cont} (h0 : o < n0) (hn : n0 ≤ n) (hr : ρ o = o) (h1 : h o = some ⟨rw, c⟩) (h2 : ContLe ρ n c' c) (hh : HeapX ρ n n0 dom (o :: ex) g h) : HeapX ρ n n0 dom ex (Ab.upd g o (some ⟨rw, c'⟩)) h := fun u ob' hx hu => by
  by_cases e : u = o
  · subst e; rw [upd_same] at hu; cases hu; exact ⟨by omega, .inl ⟨h0, hr⟩, ⟨rw, c⟩, by rw [hr]; exact h1, rfl, h2⟩
  · rw [upd_ne _ _ e] at hu
    exact hh u ob' (by simp [e, hx]) hu

def Cont.lt (n : Nat) : Cont → Bool
  | .cells as => AV.ltL n as
  | .same o q => decide (o < n) && decide (q < n)
  | _ => true
/-- A state that names nothing but what it has. -/
def HClosed (h : Hp) (n : Nat) : Prop := ∀ o ob, h o = some ob → o < n ∧ ob.cont.lt n = true

mutual
theorem ren_same {ρ : Nat → Nat} {n : Nat} (hρ : ∀ k, k < n → ρ k = k) : ∀ (a : AV), a.lt n = true → ren ρ a = a
  | .any, _ => rfl
  | .val _, _ => rfl
  | .ref o k, h => by simp only [AV.lt, decide_eq_true_eq] at h; simp [ren, hρ o h]
  | .sl o _ _ _ _, h => by simp only [AV.lt, decide_eq_true_eq] at h; simp [ren, hρ o h]
  | .pref o _ _, h => by simp only [AV.lt, decide_eq_true_eq] at h; simp [ren, hρ o h]
  | .psl o _ _ _ _, h => by simp only [AV.lt, decide_eq_true_eq] at h; simp [ren, hρ o h]
  | .mp o, h => by simp only [AV.lt, decide_eq_true_eq] at h; simp [ren, hρ o h]
  | .yl o, h => by simp only [AV.lt, decide_eq_true_eq] at h; simp [ren, hρ o h]
  | .agg as, h => by simp only [AV.lt] at h; simp [ren, renL_same hρ as h]
  | .tup as, h => by simp only [AV.lt] at h; simp [ren, renL_same hρ as h]
  | .ifc _ a, h => by simp only [AV.lt] at h; simp [ren, ren_same hρ a h]
  | .clo _ xs ys, h => by simp only [AV.lt, Bool.and_eq_true] at h; simp [ren, renL_same hρ xs h.1, renL_same hρ ys h.2]
theorem renL_same {ρ : Nat → Nat} {n : Nat} (hρ : ∀ k, k < n → ρ k = k) : ∀ (as : List AV), AV.ltL n as = true → renL ρ as = as
  | [], _ => rfl
  | a :: as, h => by simp only [AV.ltL, Bool.and_eq_true] at h; simp [renL, ren_same hρ a h.1, renL_same hρ as h.2]
end
mutual
theorem lt_mono {n k : Nat} (hk : n ≤ k) : ∀ (a : AV), a.lt n = true → a.lt k = true
  | .any, _ => rfl
  | .val _, _ => rfl
  | .ref o _, h => by simp only [AV.lt, decide_eq_true_eq] at h ⊢; omega
  | .sl o _ _ _ _, h => by simp only [AV.lt, decide_eq_true_eq] at h ⊢; omega
  | .pref o _ _, h => by simp only [AV.lt, decide_eq_true_eq] at h ⊢; omega
  | .psl o _ _ _ _, h => by simp only [AV.lt, decide_eq_true_eq] at h ⊢; omega
  | .mp o, h => by simp only [AV.lt, decide_eq_true_eq] at h ⊢; omega
  | .yl o, h => by simp only [AV.lt, decide_eq_true_eq] at h ⊢; omega
  | .agg as, h => by simp only [AV.lt] at h ⊢; exact ltL_mono hk as h
  | .tup as, h => by simp only [AV.lt] at h ⊢; exact ltL_mono hk as h
  | .ifc _ a, h => by simp only [AV.lt] at h ⊢; exact lt_mono hk a h
  | .clo _ xs ys, h => by simp only [AV.lt, Bool.and_eq_true] at h ⊢; exact ⟨ltL_mono hk xs h.1, ltL_mono hk ys h.2⟩
theorem ltL_mono {n k : Nat} (hk : n ≤ k) : ∀ (as : List AV), AV.ltL n as = true → AV.ltL k as = true
  | [], _ => rfl
  | a :: as, h => by simp only [AV.ltL, Bool.and_eq_true] at h ⊢; exact ⟨lt_mono hk a h.1, ltL_mono hk as h.2⟩
end
theorem ltL_get {n : Nat} : ∀ {as : List AV} {i : Nat} {a : AV}, AV.ltL n as = true → as[i]? = some a → a.lt n = true
  | a :: as, 0, b, h, hi => by simp only [AV.ltL, Bool.and_eq_true] at h; simp at hi; subst hi; exact h.1
  | a :: as, i + 1, b, h, hi => by simp only [AV.ltL, Bool.and_eq_true] at h; exact ltL_get h.2 (by simpa using hi)
  | [], _, _, _, hi => by simp at hi

theorem contLe_refl {ρ : Nat → Nat} {n n0 : Nat} (hρ : ∀ k, k < n0 → ρ k = k) (hn : n0 ≤ n) {c : Cont} (h : c.lt n0 = true) : ContLe ρ n c c := by
  cases c with
  | cells as =>
    refine ⟨as, rfl, rfl, fun i a' ha => .inr ?_⟩
    have := ltL_get h ha
    exact ⟨by rw [ren_same hρ a' this]; exact ha, lt_mono hn a' this⟩
  | same o q =>
    simp only [Cont.lt, Bool.and_eq_true, decide_eq_true_eq] at h
    exact ⟨by rw [hρ o h.1, hρ q h.2], by omega, by omega⟩
  | _ => rfl

/-- The rest of a state, of which nothing is known but that it is closed. -/
theorem HeapX.base {ρ : Nat → Nat} {n n0 : Nat} {ex : List Nat} {h0 h : Hp} (hc : HClosed h0 n0) (hn : n0 ≤ n) (hρ : ∀ k, k < n0 → ρ k = k) (hh : ∀ o, o ∉ ex → o < n0 → h o = h0 o) : HeapX ρ n n0 [] ex h0 h := fun o ob' hx ho => by
  obtain ⟨h1, h2⟩ := hc o ob' ho
  exact ⟨by omega, .inl ⟨h1, hρ o h1⟩, ob', by rw [hρ o h1, hh o hx h1]; exact ho, rfl, contLe_refl hρ hn h2⟩

structure WkX (Γ : Ctx) (s s' : St) : Prop where
  ex : ∃ (ρ : Nat → Nat) (n0 : Nat) (dom : List Nat), TmpLe ρ s'.next s'.tmps s.tmps ∧ HeapX ρ s'.next n0 dom [] s'.heap s.heap ∧ (dom.map ρ).Nodup ∧ (∀ d ∈ dom, n0 ≤ ρ d) ∧ ∀ o l, Γ.m0 o = some l → ρ o = o ∧ o < s'.next

theorem m0_lt {m0 : Lm} {n : Nat} (h : ∀ o, n ≤ o → m0 o = none) {o : Nat} {l : Loc} (ho : m0 o = some l) : o < n := by
  rcases Nat.lt_or_ge o n with h1 | h1
  · exact h1
  · rw [h o h1] at ho; cases ho

theorem cellsAt_ren {ρ : Nat → Nat} {n : Nat} {m : Lm} {w : World} {o : Nat} {l : Loc} {c c' : Cont} (ho : o < n) (hl : m (ρ o) = some l) (hc : ContLe ρ n c' c) (h : CellsAt w m (ρ o) l c) : CellsAt w (renM ρ n m) o l c' := by
  have hm : renM ρ n m o = some l := by simp [renM, ho, hl]
  cases c' with
  | cells as' =>
    obtain ⟨as, rfl, hlen, hcl⟩ := hc
    refine ⟨fun i a ha => ?_, trivial⟩
    have hi : i < as.length := by rw [hlen]; exact (List.getElem?_eq_some_iff.1 ha).1
    obtain ⟨v, hv, h1, hr⟩ := h.1 i _ (List.getElem?_eq_getElem hi)
    refine ⟨v, hv, h1, ?_⟩
    rcases hcl i a ha with rfl | ⟨h2, h3⟩
    · exact rep_any _ _
    · have hr : Rep m (as[i]) v := hr
      have : as[i] = ren ρ a := by rw [List.getElem?_eq_getElem hi] at h2; exact Option.some.inj h2
      rw [this] at hr
      exact rep_ren a v h3 hr
  | rows k xss hole =>
    simp only [ContLe] at hc
    subst hc
    refine ⟨fun i a ha => ?_, h.2⟩
    simp only [Cont.flat, List.getElem?_map, Option.map_eq_some_iff] at ha
    obtain ⟨⟨xs, j⟩, hx, rfl⟩ := ha
    obtain ⟨v, hv, h1, hr⟩ := h.1 i (if hole = some j then .any else .psl (ρ o) j 0 xs.length none) (by simp only [Cont.flat, List.getElem?_map, hx, Option.map_some])
    refine ⟨v, hv, h1, ?_⟩
    split
    · simp [Rep]
    · rename_i hh
      rw [if_neg hh] at hr
      simp only [Rep] at hr ⊢
      obtain ⟨l1, li, e1, e2, e3⟩ := hr
      have : l1 = l := Option.some.inj (e1.symm.trans hl)
      subst this
      exact ⟨l1, li, hm, e2, e3⟩
  | ints k xs => simp only [ContLe] at hc; subst hc; exact cells_re rfl hl hm h
  | strs ss => simp only [ContLe] at hc; subst hc; exact cells_re rfl hl hm h
  | bools bs => simp only [ContLe] at hc; subst hc; exact cells_re rfl hl hm h
  | raw b => simp only [ContLe] at hc; subst hc; exact ⟨fun i a ha => by simp [Cont.flat] at ha, h.2⟩
  | same o' q' =>
    obtain ⟨rfl, h1, h2⟩ := hc
    obtain ⟨l1, l2, e1, e2, e3⟩ := h.2
    exact ⟨fun i a ha => by simp [Cont.flat] at ha, l1, l2, by simp [renM, h1, e1], by simp [renM, h2, e2], e3⟩

theorem contLe_len {ρ : Nat → Nat} {n : Nat} {c c' : Cont} (h : ContLe ρ n c' c) : c'.len = c.len := by
  cases c' with
  | cells as' => obtain ⟨as, rfl, hl, _⟩ := h; simp [Cont.len, hl]
  | same o q => obtain ⟨rfl, _⟩ := h; rfl
  | _ => simp only [ContLe] at h; subst h; rfl

theorem contLe_blks {ρ : Nat → Nat} {n : Nat} {c c' : Cont} (h : ContLe ρ n c' c) (l : Loc) : blks l c' = blks l c := by
  cases c' with
  | cells as' => obtain ⟨as, rfl, _⟩ := h; simp [blks]
  | same o q => obtain ⟨rfl, _⟩ := h; simp [blks]
  | _ => simp only [ContLe] at h; subst h; rfl

theorem contLe_open {ρ : Nat → Nat} {n : Nat} {c c' : Cont} (h : ContLe ρ n c' c) {w : World} {l : Loc} (ho : Open w l c) : Open w l c' := by
  cases c' with
  | cells as' => obtain ⟨as, rfl, _⟩ := h; exact ho
  | same o q => obtain ⟨rfl, _⟩ := h; exact ⟨ho.1, ho.2.1, trivial⟩
  | _ => simp only [ContLe] at h; subst h; exact ho

theorem SimS.weakenX {Γ : Ctx} {C : Cx} {nt : Nat} {m : Lm} {s s' : St} {a : Act} {w : World} (hs : SimS Γ C nt m s a w) (hw : WkX Γ s s') : ∃ m', SimS Γ C nt m' s' a w := by
  obtain ⟨ρ, n0, dom, ht, hh, hnd, hge, hk⟩ := hw.ex
  have inj1 : ∀ o o', o ∈ dom → o' ∈ dom → ρ o = ρ o' → o = o' := by
    have : ∀ l : List Nat, (l.map ρ).Nodup → ∀ o o', o ∈ l → o' ∈ l → ρ o = ρ o' → o = o' := by
      intro l
      induction l with
      | nil => intro _ o o' h; simp at h
      | cons x l ih =>
        intro hn o o' ho ho' he
        simp only [List.map_cons, List.nodup_cons, List.mem_map, not_exists, not_and] at hn
        rcases List.mem_cons.1 ho with h1 | h1
        · rcases List.mem_cons.1 ho' with h2 | h2
          · rw [h1, h2]
          · subst h1; exact absurd he.symm (hn.1 o' h2)
        · rcases List.mem_cons.1 ho' with h2 | h2
          · subst h2; exact absurd he (hn.1 o h1)
          · exact ih hn.2 o o' h1 h2 he
    exact this dom hnd
  have inj : ∀ o o', ((o < n0 ∧ ρ o = o) ∨ o ∈ dom) → ((o' < n0 ∧ ρ o' = o') ∨ o' ∈ dom) → ρ o = ρ o' → o = o' := by
    intro o o' h1 h2 he
    rcases h1 with ⟨a1, b1⟩ | h1 <;> rcases h2 with ⟨a2, b2⟩ | h2
    · rw [← b1, ← b2]; exact he
    · have := hge o' h2; omega
    · have := hge o h1; omega
    · exact inj1 o o' h1 h2 he
  refine ⟨renM ρ s'.next m, ⟨⟨hs.sim.kept, fun o ob' ho => ?_, fun o1 ob1 o2 ob2 l1 l2 k hne h1 h2 r1 r2 e1 e2 hk1 => ?_, fun o ho => (by simp [renM]; omega), hs.sim.prot, hs.sim.pnd⟩, fun o l ho => ?_, hs.size, hs.defers, fun t => ?_⟩⟩
  · obtain ⟨hlt, hd, ob, hob, hrw, hc⟩ := hh o ob' (by simp) ho
    obtain ⟨l, hl, hok⟩ := hs.sim.obj (ρ o) ob hob
    refine ⟨l, by simp [renM, hlt, hl], ?_, cellsAt_ren hlt hl hc hok.cells, ?_, ?_, ?_, ?_, ?_, ?_⟩
    · rw [flat_len, contLe_len hc, ← flat_len ob.cont (ρ o)]; exact hok.len
    · rw [contLe_blks hc]; exact hok.lt
    · rw [contLe_blks hc]; exact fun h => hok.nodup (hrw.trans h)
    · exact fun h => contLe_open hc (hok.opn (hrw.trans h))
    · rw [contLe_blks hc]; exact fun h => hok.mine (hrw.trans h)
    · rw [contLe_blks hc]; exact fun h => hok.ro (hrw.trans h)
    · rw [contLe_blks hc]; exact hok.np
  · obtain ⟨lt1, d1, ob1', g1, w1, c1⟩ := hh o1 ob1 (by simp) h1
    obtain ⟨lt2, d2, ob2', g2, w2, c2⟩ := hh o2 ob2 (by simp) h2
    simp only [renM, lt1, lt2, if_true] at e1 e2
    rw [contLe_blks c1] at hk1
    rw [contLe_blks c2]
    exact hs.sim.sep (ρ o1) ob1' (ρ o2) ob2' l1 l2 k (fun e => hne (inj o1 o2 d1 d2 e)) g1 g2 (w1.trans r1) (w2.trans r2) e1 e2 hk1
  · obtain ⟨e1, e2⟩ := hk o l ho
    simp only [renM, e2, if_true, e1]
    exact hs.keep o l ho
  · rcases ht t with h | ⟨h1, h2⟩
    · rw [h]; simp [Rep]
    · have := hs.tmps t
      rw [h1] at this
      exact rep_ren _ _ h2 this

/-- What holds of a state holds of another one, of which less is known. -/
def Wk (Γ : Ctx) (s s' : St) : Prop := ∀ (C : Cx) (nt : Nat) (m : Lm) (a : Act) (w : World), SimS Γ C nt m s a w → ∃ m', SimS Γ C nt m' s' a w
theorem SimS.weaken {Γ : Ctx} {C : Cx} {nt : Nat} {m : Lm} {s s' : St} {a : Act} {w : World} (hs : SimS Γ C nt m s a w) (hw : Wk Γ s s') : ∃ m', SimS Γ C nt m' s' a w := hw C nt m a w hs
theorem WkX.wk {Γ : Ctx} {s s' : St} (h : WkX Γ s s') : Wk Γ s s' := fun _ _ _ _ _ hs => hs.weakenX h
theorem Wk.same {Γ : Ctx} {s s' : St} {dom : List Nat} (h1 : TmpLe id s'.next s'.tmps s.tmps) (h2 : HeapX id s'.next 0 dom [] s'.heap s.heap) (h3 : (dom.map id).Nodup) (h4 : ∀ o l, Γ.m0 o = some l → o < s'.next) : Wk Γ s s' :=
  WkX.wk ⟨id, 0, dom, h1, h2, h3, fun _ _ => Nat.zero_le _, fun o l h => ⟨rfl, h4 o l h⟩⟩
theorem Wk.named {Γ : Ctx} {s s' : St} (ρ : Nat → Nat) {dom : List Nat} (h1 : TmpLe ρ s'.next s'.tmps s.tmps) (h2 : HeapX ρ s'.next 0 dom [] s'.heap s.heap) (h3 : (dom.map ρ).Nodup) (h4 : ∀ o l, Γ.m0 o = some l → ρ o = o ∧ o < s'.next) : Wk Γ s s' :=
  WkX.wk ⟨ρ, 0, dom, h1, h2, h3, fun _ _ => Nat.zero_le _, h4⟩
/-- Over a state of which only a part is known. -/
theorem Wk.over {Γ : Ctx} {s s' : St} (ρ : Nat → Nat) (n0 : Nat) {dom : List Nat} (h1 : TmpLe ρ s'.next s'.tmps s.tmps) (h2 : HeapX ρ s'.next n0 dom [] s'.heap s.heap) (h3 : (dom.map ρ).Nodup) (h5 : ∀ d ∈ dom, n0 ≤ ρ d) (h4 : ∀ o l, Γ.m0 o = some l → ρ o = o ∧ o < s'.next) : Wk Γ s s' :=
  WkX.wk ⟨ρ, n0, dom, h1, h2, h3, h5, h4⟩

/-- The end of a row is forgotten. -/
theorem simS_trunc {Γ : Ctx} {C : Cx} {nt : Nat} {m : Lm} {s : St} {a : Act} {w : World} {o : Nat} {b : Bool} {k : IntKind} {xs ys : List Int} (hs : SimS Γ C nt m s a w) (ho : s.heap o = some ⟨b, .ints k (xs ++ ys)⟩) : SimS Γ C nt m ⟨s.tmps, upd s.heap o (some ⟨b, .ints k xs⟩), s.next⟩ a w := by
  have key : ∀ o' ob', upd s.heap o (some ⟨b, .ints k xs⟩) o' = some ob' → ∃ ob, s.heap o' = some ob ∧ ob.rw = ob'.rw ∧ ∀ l, blks l ob'.cont = blks l ob.cont := fun o' ob' h => by
    by_cases e : o' = o
    · subst e; rw [upd_same] at h; cases h; exact ⟨_, ho, rfl, fun _ => rfl⟩
    · rw [upd_ne _ _ e] at h; exact ⟨_, h, rfl, fun _ => rfl⟩
  refine ⟨⟨hs.sim.kept, fun o' ob' h => ?_, fun o1 ob1 o2 ob2 l1 l2 k' hne h1 h2 r1 r2 e1 e2 hk1 => ?_, hs.sim.fresh, hs.sim.prot, hs.sim.pnd⟩, hs.keep, hs.size, hs.defers, hs.tmps⟩
  · replace h : upd s.heap o (some ⟨b, .ints k xs⟩) o' = some ob' := h
    by_cases e : o' = o
    · subst e
      rw [upd_same] at h; cases h
      obtain ⟨l, hl, hok⟩ := hs.sim.obj _ _ ho
      refine ⟨l, hl, ?_, ⟨fun i a ha => ?_, trivial⟩, hok.lt, hok.nodup, hok.opn, hok.mine, hok.ro, hok.np⟩
      · have := hok.len; simp only [Cont.flat, List.map_append, List.length_append] at this ⊢; omega
      · refine hok.cells.1 i a ?_
        simp only [Cont.flat, List.map_append] at ha ⊢
        rw [List.getElem?_append_left (List.getElem?_eq_some_iff.1 ha).1]; exact ha
    · rw [upd_ne _ _ e] at h; exact hs.sim.obj o' ob' h
  · obtain ⟨a1, q1, q2, q3⟩ := key _ _ h1
    obtain ⟨a2, p1, p2, p3⟩ := key _ _ h2
    rw [q3 l1] at hk1
    rw [p3 l2]
    exact hs.sim.sep o1 a1 o2 a2 l1 l2 k' hne q1 p1 (q2.trans r1) (p2.trans r2) e1 e2 hk1
theorem Wk.trunc {Γ : Ctx} {s s' : St} (o : Nat) {b : Bool} {k : IntKind} {zs : List Int} (xs ys : List Int) (ho : s.heap o = some ⟨b, .ints k zs⟩) (he : zs = xs ++ ys) (h : Wk Γ ⟨s.tmps, upd s.heap o (some ⟨b, .ints k xs⟩), s.next⟩ s') : Wk Γ s s' :=
  fun C nt m a w hs => h C nt m a w (simS_trunc hs (by rw [ho, he]))
/-- The same, by how many numbers are kept. -/
theorem Wk.keep {Γ : Ctx} {s s' : St} (o n : Nat) {b : Bool} {k : IntKind} {zs : List Int} (ho : s.heap o = some ⟨b, .ints k zs⟩) (h : Wk Γ ⟨s.tmps, upd s.heap o (some ⟨b, .ints k (zs.take n)⟩), s.next⟩ s') : Wk Γ s s' :=
  Wk.trunc o (zs.take n) (zs.drop n) ho (by simp) h

section
variable {P : Program} {Γ : Ctx} {nt : Nat} {Q : Exit → St → Prop} {s s' : St}

theorem awp_weaken {c : Code} (hw : Wk Γ s s') (h : AWP Γ nt P c Q s') : AWP Γ nt P c Q s := fun hS C hC hr _ a w hs => by
  obtain ⟨m', hs'⟩ := hs.weaken hw
  exact h hS C hC hr m' a w hs'

theorem awp_keep {c : Code} (o n : Nat) {b : Bool} {k : IntKind} {zs : List Int} (ho : s.heap o = some ⟨b, .ints k zs⟩) (h : AWP Γ nt P c Q ⟨s.tmps, upd s.heap o (some ⟨b, .ints k (zs.take n)⟩), s.next⟩) : AWP Γ nt P c Q s :=
  fun hS C hC hr m a w hs => h hS C hC hr m a w (simS_trunc (xs := zs.take n) (ys := zs.drop n) hs (by rw [ho, List.take_append_drop]))

/-- A loop by a family of states. -/
theorem awp_loop {α : Type} {c : Code} (inv : α → St) (p : α → Prop) (μ : α → Nat) (x0 : α) (h0 : p x0) (hw : Wk Γ s (inv x0))
    (round : ∀ x, p x → AWP Γ nt P c (thenA (fun s' => ∃ y, p y ∧ μ y < μ x ∧ Wk Γ s' (inv y)) Q) (inv x)) : AWP Γ nt P (.loop c) Q s := by
  intro hS C hC hr m a w hs
  obtain ⟨m1, hs1⟩ := hs.weaken hw
  refine wpIn_loop_rel (fun n a w => ∃ Ds, (C.add Ds).ok ∧ (∀ b ∈ Ds, C.W.heap.size ≤ b) ∧ ∃ m x, p x ∧ μ x = n ∧ SimS Γ (C.add Ds) nt m (inv x) a w) ?_ ⟨[], hC, by simp, m1, x0, h0, rfl, hs1⟩
  rintro n a w ⟨Ds, d1, d2, m, x, hp, rfl, hs⟩
  refine wpIn_mono (round x hp hS (C.add Ds) d1 hr m a w hs) fun e a' w' hpo => ?_
  cases e with
  | normal =>
    obtain ⟨D2, e1, e2, m', s', h1, y, hy, hlt, hwk⟩ := hpo
    obtain ⟨m2, hs2⟩ := h1.weaken hwk
    rw [Cx.add_add] at e1 hs2
    exact ⟨μ y, hlt, D2 ++ Ds, e1, fun b hb => (List.mem_append.1 hb).elim (e2 b) (d2 b), m2, y, hy, rfl, hs2⟩
  | _ => exact PostA.add d2 hpo

/-- The same; the family is written over the state in which the loop begins. -/
theorem awp_loopE {α : Type} {c : Code} (inv : St → α → St) (fam : α → St) (hf : ∀ x, inv s x = fam x) (p : α → Prop) (μ : α → Nat) (x0 : α) (h0 : p x0) (hw : Wk Γ s (fam x0))
    (round : ∀ x, p x → AWP Γ nt P c (thenA (fun s' => ∃ y, p y ∧ μ y < μ x ∧ Wk Γ s' (fam y)) Q) (fam x)) : AWP Γ nt P (.loop c) Q s := awp_loop fam p μ x0 h0 hw round

/-- A loop, a few rounds of it one by one. -/
def AU (Γ : Ctx) (nt : Nat) (P : Program) (c : Code) (Q : Exit → St → Prop) : Nat → St → Prop
  | 0, _ => False
  | n + 1, s => AWP Γ nt P c (thenA (AU Γ nt P c Q n) Q) s
theorem awp_unroll {c : Code} (n : Nat) (h : AU Γ nt P c Q n s) : AWP Γ nt P (.loop c) Q s := by
  intro hS C hC hr m a w hs
  refine wpIn_loop_rel (fun n a w => ∃ Ds, (C.add Ds).ok ∧ (∀ b ∈ Ds, C.W.heap.size ≤ b) ∧ ∃ m s, SimS Γ (C.add Ds) nt m s a w ∧ AU Γ nt P c Q n s) ?_ ⟨[], hC, by simp, m, s, hs, h⟩
  rintro n a w ⟨Ds, d1, d2, m, s, hs, hu⟩
  cases n with
  | zero => exact hu.elim
  | succ n =>
    refine wpIn_mono (hu hS (C.add Ds) d1 hr m a w hs) fun e a' w' hpo => ?_
    cases e with
    | normal =>
      obtain ⟨D2, e1, e2, m', s', h1, h2⟩ := hpo
      rw [Cx.add_add] at e1 h1
      exact ⟨n, Nat.lt_succ_self n, D2 ++ Ds, e1, fun b hb => (List.mem_append.1 hb).elim (e2 b) (d2 b), m', s', h1, h2⟩
    | _ => exact PostA.add d2 hpo

/-- No slice is taken for an empty one of one's own. -/
theorem awp_nil {c : Code} (t : Tmp) (ct : Cont) (hc : ct.simple = true) (h0 : ct.len = 0) (ht : s.tmps t = .val (.slice none 0 0))
    (h : AWP Γ nt P c Q ⟨upd s.tmps t (.sl s.next 0 0 1 none), upd s.heap s.next (some ⟨true, ct⟩), s.next + 1⟩) : AWP Γ nt P c Q s := by
  intro hS C hC hr m a w hs
  have hm := hs.sim.mono_next (⟨0, 0, 0, []⟩ : Loc)
  have hf : ∀ o, ct.flat o = [] := fun o => List.eq_nil_of_length_eq_zero (by rw [flat_len]; exact h0)
  refine h hS C hC hr (upd m s.next (some ⟨0, 0, 0, []⟩)) a w ⟨?_, fun o l ho => hm _ _ (hs.keep o l ho), hs.size, hs.defers, fun u => ?_⟩
  · exact hs.sim.add [] rfl rfl rfl (Nat.le_refl _) (fun _ _ _ => rfl) (by simp) (by simp) ⟨0, 0, 0, []⟩ ⟨true, ct⟩ rfl (by simp [blks_simple hc]) (by simp [blks_simple hc]) (by simp [blks_simple hc]) (by simp [hf])
      ⟨fun j a hj => (by rw [hf] at hj; simp at hj), by cases ct <;> simp [Cont.simple] at hc <;> trivial⟩ ⟨rfl, fun h => absurd rfl h, by cases ct <;> simp [Cont.simple] at hc <;> trivial⟩
  · by_cases e : u = t
    · subst e
      have := hs.tmps u
      rw [ht] at this
      simp only [Rep] at this
      simp only [upd_same, Rep]
      exact ⟨_, rfl, none, 0, this, Nat.le_refl _, fun h => absurd rfl h, rfl⟩
    · simp only [upd_ne _ _ e]
      exact (hs.tmps u).mono hm

/-- The same for elements of several cells. -/
theorem awp_nilE {c : Code} (es : Nat) (t : Tmp) (ct : Cont) (hc : ct.simple = true) (h0 : ct.len = 0) (ht : s.tmps t = .val (.slice none 0 0))
    (h : AWP Γ nt P c Q ⟨upd s.tmps t (.sl s.next 0 0 es none), upd s.heap s.next (some ⟨true, ct⟩), s.next + 1⟩) : AWP Γ nt P c Q s := by
  intro hS C hC hr m a w hs
  have hm := hs.sim.mono_next (⟨0, 0, 0, []⟩ : Loc)
  have hf : ∀ o, ct.flat o = [] := fun o => List.eq_nil_of_length_eq_zero (by rw [flat_len]; exact h0)
  refine h hS C hC hr (upd m s.next (some ⟨0, 0, 0, []⟩)) a w ⟨?_, fun o l ho => hm _ _ (hs.keep o l ho), hs.size, hs.defers, fun u => ?_⟩
  · exact hs.sim.add [] rfl rfl rfl (Nat.le_refl _) (fun _ _ _ => rfl) (by simp) (by simp) ⟨0, 0, 0, []⟩ ⟨true, ct⟩ rfl (by simp [blks_simple hc]) (by simp [blks_simple hc]) (by simp [blks_simple hc]) (by simp [hf])
      ⟨fun j a hj => (by rw [hf] at hj; simp at hj), by cases ct <;> simp [Cont.simple] at hc <;> trivial⟩ ⟨rfl, fun h => absurd rfl h, by cases ct <;> simp [Cont.simple] at hc <;> trivial⟩
  · by_cases e : u = t
    · subst e
      have := hs.tmps u
      rw [ht] at this
      simp only [Rep] at this
      simp only [upd_same, Rep]
      exact ⟨_, rfl, none, 0, this, Nat.le_refl _, fun h => absurd rfl h, Nat.zero_add _ ▸ Nat.zero_mul _⟩
    · simp only [upd_ne _ _ e]
      exact (hs.tmps u).mono hm

/-- No slice in a cell is taken for an empty one of one's own. -/
theorem awp_nilcell {c : Code} (o i : Nat) (as : List AV) (ct : Cont) (hc : ct.simple = true) (h0 : ct.len = 0) (ho : s.heap o = some ⟨true, .cells as⟩) (hi : as[i]? = some (.val (.slice none 0 0)))
    (h : AWP Γ nt P c Q ⟨s.tmps, upd (upd s.heap o (some ⟨true, .cells (as.set i (.sl s.next 0 0 1 none))⟩)) s.next (some ⟨true, ct⟩), s.next + 1⟩) : AWP Γ nt P c Q s := by
  intro hS C hC hr m a w hs
  have hm := hs.sim.mono_next (⟨0, 0, 0, []⟩ : Loc)
  have hf : ∀ o, ct.flat o = [] := fun o => List.eq_nil_of_length_eq_zero (by rw [flat_len]; exact h0)
  have hadd : Sim C.F C.W (upd m s.next (some ⟨0, 0, 0, []⟩)) (upd s.heap s.next (some ⟨true, ct⟩)) (s.next + 1) w :=
    hs.sim.add [] rfl rfl rfl (Nat.le_refl _) (fun _ _ _ => rfl) (by simp) (by simp) ⟨0, 0, 0, []⟩ ⟨true, ct⟩ rfl (by simp [blks_simple hc]) (by simp [blks_simple hc]) (by simp [blks_simple hc]) (by simp [hf])
      ⟨fun j a hj => (by rw [hf] at hj; simp at hj), by cases ct <;> simp [Cont.simple] at hc <;> trivial⟩ ⟨rfl, fun h => absurd rfl h, by cases ct <;> simp [Cont.simple] at hc <;> trivial⟩
  obtain ⟨l, hl, hok⟩ := hs.sim.obj o _ ho
  have hon : o ≠ s.next := fun e => by subst e; rw [hs.sim.fresh _ (Nat.le_refl _)] at hl; cases hl
  have ho2 : (upd s.heap s.next (some ⟨true, ct⟩)) o = some ⟨true, .cells as⟩ := by rw [upd_ne _ _ hon]; exact ho
  obtain ⟨l2, hl2, hok2⟩ := hadd.obj o _ ho2
  have hnew : Sim C.F C.W (upd m s.next (some ⟨0, 0, 0, []⟩)) (upd (upd s.heap s.next (some ⟨true, ct⟩)) o (some ⟨true, .cells (as.set i (.sl s.next 0 0 1 none))⟩)) (s.next + 1) w := by
    have hcells : CellsAt w (upd m s.next (some ⟨0, 0, 0, []⟩)) o l2 (.cells (as.set i (.sl s.next 0 0 1 none))) := by
      refine ⟨fun j a hj => ?_, trivial⟩
      simp only [Cont.flat] at hj
      by_cases e : i = j
      · subst e
        have hlt : i < as.length := (List.getElem?_eq_some_iff.1 hi).1
        rw [List.getElem?_set_self hlt] at hj
        cases hj
        obtain ⟨v, hv, h1, hr⟩ := hok2.cells.1 i _ (by simpa [Cont.flat] using hi)
        refine ⟨v, hv, h1, ?_⟩
        simp only [Rep] at hr ⊢
        exact ⟨_, upd_same _ _ _, none, 0, hr, Nat.le_refl _, fun h => absurd rfl h, rfl⟩
      · rw [List.getElem?_set_ne e] at hj
        exact hok2.cells.1 j a (by simpa [Cont.flat] using hj)
    refine hadd.write ho2 rfl rfl hl2 (by simp [blks]) rfl rfl rfl (Nat.le_refl _) (fun _ _ _ => rfl) (by have := hok2.len; simpa [Cont.flat] using this) hcells ?_
    obtain ⟨q1, q2, q3⟩ := hok2.opn rfl
    exact ⟨q1, q2, trivial⟩
  have hcomm : upd (upd s.heap o (some ⟨true, .cells (as.set i (.sl s.next 0 0 1 none))⟩)) s.next (some ⟨true, ct⟩) = upd (upd s.heap s.next (some ⟨true, ct⟩)) o (some ⟨true, .cells (as.set i (.sl s.next 0 0 1 none))⟩) := by
    funext j
    simp only [upd]
    by_cases e1 : j = s.next
    · by_cases e2 : j = o
      · exact absurd (e2.symm.trans e1) hon
      · simp [e1, e2, Ne.symm hon]
    · simp [e1]
  refine h hS C hC hr (upd m s.next (some ⟨0, 0, 0, []⟩)) a w ⟨?_, fun o l ho => hm _ _ (hs.keep o l ho), hs.size, hs.defers, fun u => (hs.tmps u).mono hm⟩
  simp only [hcomm]
  exact hnew
end
end Go.Ab
