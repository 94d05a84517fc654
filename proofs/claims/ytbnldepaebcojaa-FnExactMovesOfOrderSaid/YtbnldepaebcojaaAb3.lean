/- What the operations that only read yield, said over abstract values. -/
import Derived.Test.YtbnldepaebcojaaAb2
import Derived.IntWalk
import Derived.ChangeKeysEq
import Derived.Laws.StructEq
namespace Go.Ab
set_option linter.all false
open Go Go.RowKit

inductive Ty where
  | int (k : IntKind) | bool | string | slice (e : TypeId) | array (n : Nat) (e : TypeId) | struct (fs : List (Nat × TypeId)) | ptr (e : TypeId) | func | map (k e : TypeId) | iface | other

structure TI where
  ty : Ty
  size : Nat
  bytes : Nat
  zero : List Value
  eqok : Bool

def Ty.fits : Ty → TypeDesc → Prop
  | .int k, d => d = .int k
  | .bool, d => d = .bool
  | .string, d => d = .string
  | .slice e, d => d = .slice e
  | .array n e, d => d = .array n e
  | .struct fs, d => ∃ fa, d = .struct fa ∧ fa.toList.map (fun f => (f.offset, f.type)) = fs
  | .ptr e, d => d = .pointer e
  | .func, d => ∃ a b c, d = .func a b c
  | .map k e, d => d = .map k e
  | .iface, d => ∃ ms, d = .interface ms
  | .other, _ => True

abbrev Tab := TypeId → Option TI
def TabOk (P : Program) (tab : Tab) : Prop := ∀ t i, tab t = some i → ∃ d inf z, P.underlying t = some d ∧ i.ty.fits d ∧ P.info? t = some inf ∧ inf.size = i.size ∧ inf.bytes = i.bytes ∧ inf.zero = some z ∧ z.cells.toList = i.zero ∧ (i.eqok = true → P.eqGuardType P.depth t = false ∧ P.stoodInHeld t = false ∧ (P.fieldsOf t).toList.all (fun f => f.name != "_") = true)

def tyOf (tab : Tab) (t : TypeId) : Option Ty := match tab t with | some i => some i.ty | none => none
def szOf (tab : Tab) (t : TypeId) : Option Nat := match tab t with | some i => some i.size | none => none

/-- The types whose values are one cell. -/
def Ty.one : Ty → Bool
  | .struct _ | .array _ _ | .other => false
  | _ => true
def Ty.isAgg : Ty → Bool
  | .struct _ | .array _ _ => true
  | _ => false

def InR : IntKind → Int → Prop
  | .i64, n => -9223372036854775808 ≤ n ∧ n ≤ 9223372036854775807
  | .i32, n => -2147483648 ≤ n ∧ n ≤ 2147483647
  | .i16, n => -32768 ≤ n ∧ n ≤ 32767
  | .i8, n => -128 ≤ n ∧ n ≤ 127
  | .u8, n => 0 ≤ n ∧ n ≤ 255
  | .u16, n => 0 ≤ n ∧ n ≤ 65535
  | .u32, n => 0 ≤ n ∧ n ≤ 4294967295
  | .u64, n => 0 ≤ n ∧ n ≤ 18446744073709551615

theorem wrap_in {k : IntKind} {n : Int} (h : InR k n) : k.wrap n = n := by
  cases k <;> simp only [InR] at h
  · exact IntWalk.i8_in n h
  · exact IntWalk.i16_in n h
  · exact IntWalk.i32_in n h
  · exact IntWalk.i64_in n h
  · exact IntWalk.u8_in n h
  · exact IntWalk.u16_in n h
  · exact IntWalk.u32_in n h
  · exact IntWalk.u64_in n h

/-- Arrays of integers are compared. -/
def rEqAgg (tab : Tab) (t : TypeId) (as bs : List AV) (K : Bool → Prop) : Prop :=
  (∃ (i : TI) (k : IntKind) (xs ys : List Int) (n : Nat) (e : TypeId), tab t = some i ∧ i.eqok = true ∧ i.ty = .array n e ∧ tyOf tab e = some (.int k) ∧ szOf tab e = some 1 ∧ as = xs.map (fun n => .val (.int k n)) ∧ bs = ys.map (fun n => .val (.int k n)) ∧ xs.length = n ∧ ys.length = n ∧ K (decide (xs = ys))) ∨
  ∃ (i : TI) (k : IntKind) (a b c d : Int) (e : TypeId), tab t = some i ∧ i.eqok = true ∧ i.ty = .struct [(0, e), (1, e)] ∧ tyOf tab e = some (.int k) ∧ as = [.val (.int k a), .val (.int k b)] ∧ bs = [.val (.int k c), .val (.int k d)] ∧ K (decide (a = c ∧ b = d))

def rBin (tab : Tab) (op : BinOp) (t : TypeId) (x y : AV) (K : AV → Prop) : Prop :=
  match op, x, y with
  | .add, .val (.int k a), .val (.int k' b) => k = k' ∧ InR k (a + b) ∧ K (.val (.int k (a + b)))
  | .sub, .val (.int k a), .val (.int k' b) => k = k' ∧ InR k (a - b) ∧ K (.val (.int k (a - b)))
  | .mul, .val (.int k a), .val (.int k' b) => k = k' ∧ InR k (a * b) ∧ K (.val (.int k (a * b)))
  | .quo, .val (.int k a), .val (.int k' b) => k = k' ∧ (0 ≤ a ∧ 0 < b ∧ InR k (a / b)) ∧ K (.val (.int k (a / b)))
  | .rem, .val (.int k a), .val (.int k' b) => k = k' ∧ (0 ≤ a ∧ 0 < b) ∧ K (.val (.int k (a % b)))
  | .eql, .val (.int k a), .val (.int k' b) => k = k' ∧ True ∧ K (.val (.bool (a == b)))
  | .neq, .val (.int k a), .val (.int k' b) => k = k' ∧ True ∧ K (.val (.bool (a != b)))
  | .lss, .val (.int k a), .val (.int k' b) => k = k' ∧ True ∧ K (.val (.bool (decide (a < b))))
  | .leq, .val (.int k a), .val (.int k' b) => k = k' ∧ True ∧ K (.val (.bool (decide (a ≤ b))))
  | .gtr, .val (.int k a), .val (.int k' b) => k = k' ∧ True ∧ K (.val (.bool (decide (a > b))))
  | .geq, .val (.int k a), .val (.int k' b) => k = k' ∧ True ∧ K (.val (.bool (decide (a ≥ b))))
  | .eql, .val (.bool a), .val (.bool b) => tyOf tab t = some .bool ∧ True ∧ K (.val (.bool (a == b)))
  | .neq, .val (.bool a), .val (.bool b) => tyOf tab t = some .bool ∧ True ∧ K (.val (.bool (a != b)))
  | .eql, .val (.string a), .val (.string b) => True ∧ True ∧ K (.val (.bool (a.toList == b.toList)))
  | .neq, .val (.string a), .val (.string b) => True ∧ True ∧ K (.val (.bool (!(a.toList == b.toList))))
  | .add, .val (.string a), .val (.string b) => True ∧ ((a.size + b.size : Nat) : Int) ≤ 9223372036854775807 ∧ K (.val (.string (a ++ b)))
  | .eql, .val (.pointer none), .val (.pointer none) => (∃ e, tyOf tab t = some (.ptr e)) ∧ K (.val (.bool true))
  | .neq, .val (.pointer none), .val (.pointer none) => (∃ e, tyOf tab t = some (.ptr e)) ∧ K (.val (.bool false))
  | op, .val a, .val b => ∃ v, (∀ P w, (binOp op t a b).run P w = .ok v w) ∧ (op ≠ .eql ∧ op ≠ .neq) ∧ K (.val v)
  | .eql, .agg as, .agg bs => rEqAgg tab t as bs fun b => K (.val (.bool b))
  | .neq, .agg as, .agg bs => rEqAgg tab t as bs fun b => K (.val (.bool (!b)))
  | .eql, .sl _ _ len _ _, .val (.slice none 0 0) => (∃ e, tyOf tab t = some (.slice e)) ∧ ∀ b : Bool, (0 < len → b = false) → K (.val (.bool b))
  | .neq, .sl _ _ len _ _, .val (.slice none 0 0) => (∃ e, tyOf tab t = some (.slice e)) ∧ ∀ b : Bool, (0 < len → b = true) → K (.val (.bool b))
  | .eql, .ref _ _, .val (.pointer none) => (∃ e, tyOf tab t = some (.ptr e)) ∧ K (.val (.bool false))
  | .neq, .ref _ _, .val (.pointer none) => (∃ e, tyOf tab t = some (.ptr e)) ∧ K (.val (.bool true))
  | _, _, _ => False

theorem repL_ints {m : Lm} {k : IntKind} : ∀ {xs : List Int} {vs : List Value}, RepL m (xs.map fun n => .val (.int k n)) vs → vs = xs.map fun n => .int k n
  | [], [], _ => rfl
  | [], _ :: _, h => by simp [RepL] at h
  | _ :: _, [], h => by simp [RepL] at h
  | x :: xs, v :: vs, h => by simp only [List.map_cons, RepL, Rep] at h; rw [h.1, repL_ints h.2]; rfl

theorem run_eqItems_ints {P : Program} (w : World) (d : Nat) {e : TypeId} {k : IntKind} (he : P.underlying e = some (.int k)) (xs ys : List Int) : ∀ (is : List Nat), (∀ i ∈ is, i < xs.length ∧ i < ys.length) →
    (Op.eqItems (d + 1) e 1 (xs.map fun n => Value.int k n).toArray (ys.map fun n => Value.int k n).toArray is).run P w = .ok (decide (∀ i ∈ is, xs.getD i 0 = ys.getD i 0)) w
  | [], _ => by simp [Op.eqItems]
  | i :: is, h => by
    obtain ⟨h1, h2⟩ := h i (by simp)
    have ih := run_eqItems_ints w d he xs ys is (fun j hj => h j (by simp [hj]))
    have p : ∀ (zs : List Int), i < zs.length → (part e (zs.map fun n => Value.int k n).toArray (i * 1)).run P w = .ok (.int k (zs.getD i 0)) w := fun zs hz => by
      simp [part, isAgg, run_underlying he, hz]
    simp only [Op.eqItems, Sem.run_bind, p xs h1, p ys h2, Result.andThen_ok, run_equalIn_int w d e k k _ _ he]
    by_cases hx : xs.getD i 0 = ys.getD i 0
    · have : (xs.getD i 0 == ys.getD i 0) = true := by simpa using hx
      rw [this]; simp only [Bool.not_true, Bool.false_eq_true, if_false, ih, List.forall_mem_cons, hx, true_and]
    · have : (xs.getD i 0 == ys.getD i 0) = false := by simpa using hx
      rw [this]; simp only [Bool.not_false, if_true, Sem.run_pure, List.forall_mem_cons, hx, false_and, decide_false]

theorem run_equalIn_bool {P : Program} {t : TypeId} (h : P.underlying t = some .bool) (d : Nat) (a b : Bool) (w : World) : (Op.equalIn (d + 1) t (.bool a) (.bool b)).run P w = .ok (a == b) w := by
  simp only [Op.equalIn]
  simp [run_underlying h]
theorem run_equal_bool {P : Program} {t : TypeId} (h : P.underlying t = some .bool) (a b : Bool) (w : World) : (Op.equal t (.bool a) (.bool b)).run P w = .ok (a == b) w :=
  run_equalIn_bool h 9999 a b w

theorem binOp_eql_bool (t : TypeId) (a b : Bool) : binOp .eql t (.bool a) (.bool b) = (do pure (.bool (← Op.equal t (.bool a) (.bool b)))) := rfl
theorem binOp_neq_bool (t : TypeId) (a b : Bool) : binOp .neq t (.bool a) (.bool b) = (do pure (.bool (!(← Op.equal t (.bool a) (.bool b))))) := rfl
theorem eqGuard_none (op : BinOp) (t : TypeId) (x y : Operand) (a b : Value) (h : op ≠ .eql ∧ op ≠ .neq) : eqGuard op t x y a b = pure () := by
  unfold eqGuard
  cases op <;> simp_all

theorem tab_ty {P : Program} {tab : Tab} (ht : TabOk P tab) {t : TypeId} {ty : Ty} (h : tyOf tab t = some ty) : ∃ d, P.underlying t = some d ∧ ty.fits d := by
  unfold tyOf at h
  split at h
  · rename_i i hi
    cases h
    obtain ⟨d, inf, z, hd, hf, _⟩ := ht t i hi
    exact ⟨d, hd, hf⟩
  · cases h

theorem tab_size {P : Program} {tab : Tab} (ht : TabOk P tab) {t : TypeId} {s : Nat} (h : szOf tab t = some s) : ∃ inf, P.info? t = some inf ∧ inf.size = s := by
  unfold szOf at h
  split at h
  · rename_i i hi
    cases h
    obtain ⟨d, inf, z, _, _, h1, h2, _⟩ := ht t i hi
    exact ⟨inf, h1, h2⟩
  · cases h

theorem run_eqArr {P : Program} {tab : Tab} (ht : TabOk P tab) {m : Lm} {t e : TypeId} {i : TI} {k : IntKind} {n : Nat} {xs ys : List Int} {X Y : List Value} (q1 : tab t = some i) (q2 : i.eqok = true) (q3 : i.ty = .array n e) (q4 : tyOf tab e = some (.int k)) (q5 : szOf tab e = some 1)
    (hX : RepL m (xs.map fun n => .val (.int k n)) X) (hY : RepL m (ys.map fun n => .val (.int k n)) Y) (q6 : xs.length = n) (q7 : ys.length = n) (ox oy : Operand) :
    ((∀ w, (eqGuard .eql t ox oy (.agg X.toArray) (.agg Y.toArray)).run P w = .ok () w) ∧ ∀ w, (eqGuard .neq t ox oy (.agg X.toArray) (.agg Y.toArray)).run P w = .ok () w) ∧
    ∀ w, (binOp .eql t (.agg X.toArray) (.agg Y.toArray)).run P w = .ok (.bool (decide (xs = ys))) w ∧ (binOp .neq t (.agg X.toArray) (.agg Y.toArray)).run P w = .ok (.bool (!decide (xs = ys))) w := by
  rw [repL_ints hX, repL_ints hY]
  obtain ⟨d, inf, z, hd, hf, hinf, hsz, _, _, _, hg⟩ := ht t i q1
  rw [q3] at hf
  simp only [Ty.fits] at hf
  subst hf
  obtain ⟨de, hde, hfe⟩ := tab_ty ht q4
  simp only [Ty.fits] at hfe
  subst hfe
  obtain ⟨ie, hie, hse⟩ := tab_size ht q5
  have hg := (hg q2).1
  refine ⟨⟨fun w => run_eqGuard_agg w _ _ _ _ _ _ hg, fun w => run_eqGuard_agg w _ _ _ _ _ _ hg⟩, fun w => ?_⟩
  have hc : P.cellsOf e = 1 := by simp [Program.cellsOf, hie, hse]
  have hr : (Op.equal t (.agg (xs.map fun n => Value.int k n).toArray) (.agg (ys.map fun n => Value.int k n).toArray)).run P w = .ok (decide (xs = ys)) w := by
    show (Op.equalIn (9999 + 1) t _ _).run P w = _
    rw [run_equalIn_array w 9999 _ _ hd hie, hc, run_eqItems_ints w 9998 hde xs ys _ (fun i hi => by rw [List.mem_range] at hi; omega)]
    congr 1
    apply decide_eq_decide.2
    constructor
    · intro h
      apply List.ext_getElem (by omega)
      intro j h1 h2
      have := h j (List.mem_range.2 (by omega))
      simpa [List.getD_eq_getElem?_getD, h1, h2] using this
    · rintro rfl _ _; rfl
  have b1 : binOp .eql t (.agg (xs.map fun n => Value.int k n).toArray) (.agg (ys.map fun n => Value.int k n).toArray) = (do pure (.bool (← Op.equal t (.agg (xs.map fun n => Value.int k n).toArray) (.agg (ys.map fun n => Value.int k n).toArray)))) := rfl
  have b2 : binOp .neq t (.agg (xs.map fun n => Value.int k n).toArray) (.agg (ys.map fun n => Value.int k n).toArray) = (do pure (.bool (!(← Op.equal t (.agg (xs.map fun n => Value.int k n).toArray) (.agg (ys.map fun n => Value.int k n).toArray))))) := rfl
  rw [b1, b2]
  simp only [Sem.run_bind, hr, Result.andThen_ok, Sem.run_pure, and_self]

theorem run_eqStr {P : Program} {tab : Tab} (ht : TabOk P tab) {t e : TypeId} {i : TI} {k : IntKind} {a b c d : Int} (q1 : tab t = some i) (q2 : i.eqok = true) (q3 : i.ty = .struct [(0, e), (1, e)]) (q4 : tyOf tab e = some (.int k)) (ox oy : Operand) :
    ((∀ w, (eqGuard .eql t ox oy (.agg #[.int k a, .int k b]) (.agg #[.int k c, .int k d])).run P w = .ok () w) ∧ ∀ w, (eqGuard .neq t ox oy (.agg #[.int k a, .int k b]) (.agg #[.int k c, .int k d])).run P w = .ok () w) ∧
    ∀ w, (binOp .eql t (.agg #[.int k a, .int k b]) (.agg #[.int k c, .int k d])).run P w = .ok (.bool (decide (a = c ∧ b = d))) w ∧ (binOp .neq t (.agg #[.int k a, .int k b]) (.agg #[.int k c, .int k d])).run P w = .ok (.bool (!decide (a = c ∧ b = d))) w := by
  obtain ⟨dd, inf, z, hd, hf, hinf, hsz, _, _, _, hg⟩ := ht t i q1
  rw [q3] at hf
  simp only [Ty.fits] at hf
  obtain ⟨fa, rfl, hfa⟩ := hf
  obtain ⟨de, hde, hfe⟩ := tab_ty ht q4
  simp only [Ty.fits] at hfe
  subst hfe
  obtain ⟨g1, g2, g3⟩ := hg q2
  refine ⟨⟨fun w => run_eqGuard_agg w _ _ _ _ _ _ g1, fun w => run_eqGuard_agg w _ _ _ _ _ _ g1⟩, fun w => ?_⟩
  have hfo : P.fieldsOf t = fa := by simp [Program.fieldsOf, hd]
  have hr : (Op.equal t (.agg #[.int k a, .int k b]) (.agg #[.int k c, .int k d])).run P w = .ok (decide (a = c ∧ b = d)) w := by
    show (Op.equalIn (9999 + 1) t _ _).run P w = _
    rw [run_equalIn_struct w 9999 t _ _ (by rw [hfo]; exact hd) g2]
    rw [hfo] at g3 ⊢
    have h1 := hfa
    have h2 := g3
    generalize fa.toList = L at h1 h2 ⊢
    rcases L with _ | ⟨f1, _ | ⟨f2, _ | ⟨f3, L⟩⟩⟩
    · simp at h1
    · simp at h1
    · skip
      simp only [List.map_cons, List.map_nil, List.cons.injEq, Prod.mk.injEq, and_true] at h1
      obtain ⟨⟨o1, t1⟩, o2, t2⟩ := h1
      simp only [List.all_cons, List.all_nil, Bool.and_true, Bool.and_eq_true, bne_iff_ne, ne_eq] at h2
      have p1 : ∀ x y : Int, (part e #[Value.int k x, Value.int k y] 0).run P w = .ok (.int k x) w := fun x y => by simp [part, isAgg, run_underlying hde]
      have p2 : ∀ x y : Int, (part e #[Value.int k x, Value.int k y] 1).run P w = .ok (.int k y) w := fun x y => by simp [part, isAgg, run_underlying hde]
      simp only [Op.eqFields, ne_eq, h2.1, h2.2, not_false_eq_true, if_true, o1, o2, t1, t2, Sem.run_bind, p1, p2, Result.andThen_ok, run_equalIn_int w 9998 e k k _ _ hde]
      by_cases e1 : a = c
      · by_cases e2 : b = d
        · simp [e1, e2, p2, run_equalIn_int w 9998 e k k _ _ hde]
        · have : (b == d) = false := by simpa using e2
          simp [e1, e2, this, p2, run_equalIn_int w 9998 e k k _ _ hde]
      · have : (a == c) = false := by simpa using e1
        simp [e1, this]
    · simp at h1
  have b1 : binOp .eql t (.agg #[.int k a, .int k b]) (.agg #[.int k c, .int k d]) = (do pure (.bool (← Op.equal t (.agg #[.int k a, .int k b]) (.agg #[.int k c, .int k d])))) := rfl
  have b2 : binOp .neq t (.agg #[.int k a, .int k b]) (.agg #[.int k c, .int k d]) = (do pure (.bool (!(← Op.equal t (.agg #[.int k a, .int k b]) (.agg #[.int k c, .int k d]))))) := rfl
  rw [b1, b2]
  simp only [Sem.run_bind, hr, Result.andThen_ok, Sem.run_pure, and_self]
theorem repL_two {m : Lm} {k : IntKind} {a b : Int} {vs : List Value} (h : RepL m [.val (.int k a), .val (.int k b)] vs) : vs = [.int k a, .int k b] := repL_ints (xs := [a, b]) h

theorem run_equalIn_nil {P : Program} {t e : TypeId} (h : P.underlying t = some (.slice e)) (d : Nat) (a : Option Addr) (l c : Nat) (w : World) : (Op.equalIn (d + 1) t (.slice a l c) (.slice none 0 0)).run P w = .ok a.isNone w := by
  cases a <;> simp [Op.equalIn, run_underlying h]
theorem run_equal_nil {P : Program} {t e : TypeId} (h : P.underlying t = some (.slice e)) (a : Option Addr) (l c : Nat) (w : World) : (Op.equal t (.slice a l c) (.slice none 0 0)).run P w = .ok a.isNone w :=
  run_equalIn_nil h _ a l c w
theorem binOp_eql_slice (t : TypeId) (a : Option Addr) (l c : Nat) : binOp .eql t (.slice a l c) (.slice none 0 0) = (do pure (.bool (← Op.equal t (.slice a l c) (.slice none 0 0)))) := rfl
theorem binOp_neq_slice (t : TypeId) (a : Option Addr) (l c : Nat) : binOp .neq t (.slice a l c) (.slice none 0 0) = (do pure (.bool (!(← Op.equal t (.slice a l c) (.slice none 0 0))))) := rfl

theorem run_equalIn_pnil {P : Program} {t e : TypeId} (h : P.underlying t = some (.pointer e)) (d : Nat) (a : Option Addr) (w : World) : (Op.equalIn (d + 1) t (.pointer a) (.pointer none)).run P w = .ok a.isNone w := by
  cases a <;> simp [Op.equalIn, run_underlying h]
theorem run_equal_pnil {P : Program} {t e : TypeId} (h : P.underlying t = some (.pointer e)) (a : Option Addr) (w : World) : (Op.equal t (.pointer a) (.pointer none)).run P w = .ok a.isNone w :=
  run_equalIn_pnil h _ a w
theorem binOp_eql_ptr (t : TypeId) (a : Option Addr) : binOp .eql t (.pointer a) (.pointer none) = (do pure (.bool (← Op.equal t (.pointer a) (.pointer none)))) := rfl
theorem binOp_neq_ptr (t : TypeId) (a : Option Addr) : binOp .neq t (.pointer a) (.pointer none) = (do pure (.bool (!(← Op.equal t (.pointer a) (.pointer none))))) := rfl

set_option maxHeartbeats 1000000 in
theorem rBin_sound {P : Program} {tab : Tab} (ht : TabOk P tab) {m : Lm} {op : BinOp} {t : TypeId} {ox oy : Operand} {x y : AV} {vx vy : Value} {K : AV → Prop}
    (h : rBin tab op t x y K) (hx : Rep m x vx) (hy : Rep m y vy) :
    ∃ a v, K a ∧ Rep m a v ∧ ∀ w, (do eqGuard op t ox oy vx vy; binOp op t vx vy : Sem Value).run P w = .ok v w := by
  unfold rBin at h
  split at h
  case h_19 =>
    obtain ⟨v, hv, hne, hK⟩ := h
    simp only [Rep] at hx hy
    subst hx hy
    refine ⟨_, v, hK, by simp [Rep], fun w => ?_⟩
    rw [eqGuard_none _ _ _ _ _ _ hne]
    simpa using hv P w
  case h_26 => exact h.elim
  case h_17 =>
    obtain ⟨⟨e, he⟩, hK⟩ := h
    obtain ⟨d, hd, hf⟩ := tab_ty ht he
    simp only [Ty.fits] at hf
    subst hf
    simp only [Rep] at hx hy
    subst hx hy
    refine ⟨_, .bool true, hK, by simp only [Rep], fun w => ?_⟩
    rw [binOp_eql_ptr]
    simp [eqGuard, run_equal_pnil hd none]
  case h_18 =>
    obtain ⟨⟨e, he⟩, hK⟩ := h
    obtain ⟨d, hd, hf⟩ := tab_ty ht he
    simp only [Ty.fits] at hf
    subst hf
    simp only [Rep] at hx hy
    subst hx hy
    refine ⟨_, .bool false, hK, by simp only [Rep], fun w => ?_⟩
    rw [binOp_neq_ptr]
    simp [eqGuard, run_equal_pnil hd none]
  case h_24 =>
    obtain ⟨⟨e, he⟩, hK⟩ := h
    obtain ⟨d, hd, hf⟩ := tab_ty ht he
    simp only [Ty.fits] at hf
    subst hf
    simp only [Rep] at hx hy
    subst hy
    obtain ⟨l, _, rfl⟩ := hx
    refine ⟨_, .bool false, hK, by simp only [Rep], fun w => ?_⟩
    rw [binOp_eql_ptr]
    simp [eqGuard, run_equal_pnil hd (some _)]
  case h_25 =>
    obtain ⟨⟨e, he⟩, hK⟩ := h
    obtain ⟨d, hd, hf⟩ := tab_ty ht he
    simp only [Ty.fits] at hf
    subst hf
    simp only [Rep] at hx hy
    subst hy
    obtain ⟨l, _, rfl⟩ := hx
    refine ⟨_, .bool true, hK, by simp only [Rep], fun w => ?_⟩
    rw [binOp_neq_ptr]
    simp [eqGuard, run_equal_pnil hd (some _)]
  case h_22 =>
    obtain ⟨⟨e, he⟩, hK⟩ := h
    obtain ⟨d, hd, hf⟩ := tab_ty ht he
    simp only [Ty.fits] at hf
    subst hf
    simp only [Rep] at hx hy
    subst hy
    obtain ⟨l, _, a, c, rfl, h1, h2, _⟩ := hx
    refine ⟨_, .bool a.isNone, hK a.isNone (fun h => by rw [h2 (by omega)]; rfl), by simp only [Rep], fun w => ?_⟩
    rw [binOp_eql_slice]
    simp [eqGuard, run_equal_nil hd a]
  case h_23 =>
    obtain ⟨⟨e, he⟩, hK⟩ := h
    obtain ⟨d, hd, hf⟩ := tab_ty ht he
    simp only [Ty.fits] at hf
    subst hf
    simp only [Rep] at hx hy
    subst hy
    obtain ⟨l, _, a, c, rfl, h1, h2, _⟩ := hx
    refine ⟨_, .bool (!a.isNone), hK (!a.isNone) (fun h => by rw [h2 (by omega)]; rfl), by simp only [Rep], fun w => ?_⟩
    rw [binOp_neq_slice]
    simp [eqGuard, run_equal_nil hd a]
  case h_20 =>
    simp only [Rep] at hx hy
    obtain ⟨X, rfl, hX⟩ := hx
    obtain ⟨Y, rfl, hY⟩ := hy
    rcases h with ⟨i, k, xs, ys, n, e, q1, q2, q3, q4, q5, rfl, rfl, q6, q7, hK⟩ | ⟨i, k, a, b, c, d, e, q1, q2, q3, q4, rfl, rfl, hK⟩
    rotate_left
    · rw [repL_two hX, repL_two hY]
      obtain ⟨h1, h2⟩ := run_eqStr (a := a) (b := b) (c := c) (d := d) ht q1 q2 q3 q4 ox oy
      exact ⟨_, .bool (decide (a = c ∧ b = d)), hK, by simp only [Rep], fun w => by rw [Sem.run_bind, h1.1 w]; exact (h2 w).1⟩
    obtain ⟨h1, h2⟩ := run_eqArr ht q1 q2 q3 q4 q5 hX hY q6 q7 ox oy
    exact ⟨_, .bool (decide (xs = ys)), hK, by simp only [Rep], fun w => by rw [Sem.run_bind, h1.1 w]; exact (h2 w).1⟩
  case h_21 =>
    simp only [Rep] at hx hy
    obtain ⟨X, rfl, hX⟩ := hx
    obtain ⟨Y, rfl, hY⟩ := hy
    rcases h with ⟨i, k, xs, ys, n, e, q1, q2, q3, q4, q5, rfl, rfl, q6, q7, hK⟩ | ⟨i, k, a, b, c, d, e, q1, q2, q3, q4, rfl, rfl, hK⟩
    rotate_left
    · rw [repL_two hX, repL_two hY]
      obtain ⟨h1, h2⟩ := run_eqStr (a := a) (b := b) (c := c) (d := d) ht q1 q2 q3 q4 ox oy
      exact ⟨_, .bool (!decide (a = c ∧ b = d)), hK, by simp only [Rep], fun w => by rw [Sem.run_bind, h1.2 w]; exact (h2 w).2⟩
    obtain ⟨h1, h2⟩ := run_eqArr ht q1 q2 q3 q4 q5 hX hY q6 q7 ox oy
    exact ⟨_, .bool (!decide (xs = ys)), hK, by simp only [Rep], fun w => by rw [Sem.run_bind, h1.2 w]; exact (h2 w).2⟩
  all_goals
    simp only [Rep] at hx hy
    subst hx hy
    obtain ⟨h1, h2, hK⟩ := h
    try subst h1
    refine ⟨_, _, hK, by simp only [Rep]; rfl, fun w => ?_⟩
  case h_1 => simp [eqGuard, binOp, Op.intArith, wrap_in h2]
  case h_2 => simp [eqGuard, binOp, Op.intArith, wrap_in h2]
  case h_3 => simp [eqGuard, binOp, Op.intArith, wrap_in h2]
  case h_4 =>
    obtain ⟨h3, h4, h5⟩ := h2
    have : ¬ (_ : Int) = 0 := Int.ne_of_gt h4
    simp [eqGuard, binOp, Op.intDiv, this, Int.tdiv_eq_ediv_of_nonneg h3, wrap_in h5]
  case h_5 =>
    obtain ⟨h3, h4⟩ := h2
    have : ¬ (_ : Int) = 0 := Int.ne_of_gt h4
    simp [eqGuard, binOp, Op.intDiv, this, Int.tmod_eq_emod_of_nonneg h3]
  case h_6 => simp [eqGuard, binOp, Op.intCmp]
  case h_7 => simp [eqGuard, binOp, Op.intCmp]
  case h_8 => simp [eqGuard, binOp, Op.intCmp]
  case h_9 => simp [eqGuard, binOp, Op.intCmp]
  case h_10 => simp [eqGuard, binOp, Op.intCmp]
  case h_11 => simp [eqGuard, binOp, Op.intCmp]
  case h_12 =>
    obtain ⟨d, hd, hf⟩ := tab_ty ht h1
    simp only [Ty.fits] at hf
    subst hf
    rw [binOp_eql_bool]
    simp [eqGuard, run_equal_bool hd]
  case h_13 =>
    obtain ⟨d, hd, hf⟩ := tab_ty ht h1
    simp only [Ty.fits] at hf
    subst hf
    rw [binOp_neq_bool]
    simp [eqGuard, run_equal_bool hd, bne]
  case h_14 => simp [eqGuard, binOp, Op.stringOp]
  case h_15 => simp [eqGuard, binOp, Op.stringOp]
  case h_16 =>
    simp only [eqGuard, binOp, Op.stringOp]
    have h3 : ¬ IntKind.i64.max < _ := Int.not_lt.2 (Int.le_trans h2 (by decide))
    rw [if_neg h3]
    simp
end Go.Ab
