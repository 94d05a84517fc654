/- What the operations that only read yield, said over abstract values. -/
import Derived.Test.YtpjkmoiaobafoabAb2
import Derived.IntWalk
namespace Go.Ab
set_option linter.all false
open Go Go.RowKit

inductive Ty where
  | int (k : IntKind) | bool | string | slice (e : TypeId) | array (n : Nat) (e : TypeId) | struct (fs : List (Nat × TypeId)) | ptr (e : TypeId) | func | map (k e : TypeId) | iface | other

structure TI where
  ty : Ty
  size : Nat
  bytes : Nat
  zero : List Value

def Ty.fits : Ty → TypeDesc → Prop
  | .int k, d => d = .int k
  | .bool, d => d = .bool
  | .string, d => d = .string
  | .slice e, d => d = .slice e
  | .array n e, d => d = .array n e
  | .struct fs, d => ∃ fa, d = .struct fa ∧ fa.toList.map (fun f => (f.offset, f.type)) = fs
  | .ptr e, d => d = .pointer e
  | .func, d => ∃ a b c, d = .func a b c
  | .map k e, d => d = .map k e
  | .iface, d => ∃ ms, d = .interface ms
  | .other, _ => True

abbrev Tab := TypeId → Option TI
def TabOk (P : Program) (tab : Tab) : Prop := ∀ t i, tab t = some i → ∃ d inf z, P.underlying t = some d ∧ i.ty.fits d ∧ P.info? t = some inf ∧ inf.size = i.size ∧ inf.bytes = i.bytes ∧ inf.zero = some z ∧ z.cells.toList = i.zero

def tyOf (tab : Tab) (t : TypeId) : Option Ty := match tab t with | some i => some i.ty | none => none
def szOf (tab : Tab) (t : TypeId) : Option Nat := match tab t with | some i => some i.size | none => none

/-- The types whose values are one cell. -/
def Ty.one : Ty → Bool
  | .struct _ | .array _ _ | .other => false
  | _ => true
def Ty.isAgg : Ty → Bool
  | .struct _ | .array _ _ => true
  | _ => false

def InR : IntKind → Int → Prop
  | .i64, n => -9223372036854775808 ≤ n ∧ n ≤ 9223372036854775807
  | .i32, n => -2147483648 ≤ n ∧ n ≤ 2147483647
  | .i16, n => -32768 ≤ n ∧ n ≤ 32767
  | .i8, n => -128 ≤ n ∧ n ≤ 127
  | .u8, n => 0 ≤ n ∧ n ≤ 255
  | .u16, n => 0 ≤ n ∧ n ≤ 65535
  | .u32, n => 0 ≤ n ∧ n ≤ 4294967295
  | .u64, n => 0 ≤ n ∧ n ≤ 18446744073709551615

theorem wrap_in {k : IntKind} {n : Int} (h : InR k n) : k.wrap n = n := by
  cases k <;> simp only [InR] at h
  · exact IntWalk.i8_in n h
  · exact IntWalk.i16_in n h
  · exact IntWalk.i32_in n h
  · exact IntWalk.i64_in n h
  · exact IntWalk.u8_in n h
  · exact IntWalk.u16_in n h
  · exact IntWalk.u32_in n h
  · exact IntWalk.u64_in n h

def rBin (tab : Tab) (op : BinOp) (t : TypeId) (x y : AV) (K : AV → Prop) : Prop :=
  match op, x, y with
  | .add, .val (.int k a), .val (.int k' b) => k = k' ∧ InR k (a + b) ∧ K (.val (.int k (a + b)))
  | .sub, .val (.int k a), .val (.int k' b) => k = k' ∧ InR k (a - b) ∧ K (.val (.int k (a - b)))
  | .mul, .val (.int k a), .val (.int k' b) => k = k' ∧ InR k (a * b) ∧ K (.val (.int k (a * b)))
  | .quo, .val (.int k a), .val (.int k' b) => k = k' ∧ (0 ≤ a ∧ 0 < b ∧ InR k (a / b)) ∧ K (.val (.int k (a / b)))
  | .rem, .val (.int k a), .val (.int k' b) => k = k' ∧ (0 ≤ a ∧ 0 < b) ∧ K (.val (.int k (a % b)))
  | .eql, .val (.int k a), .val (.int k' b) => k = k' ∧ True ∧ K (.val (.bool (a == b)))
  | .neq, .val (.int k a), .val (.int k' b) => k = k' ∧ True ∧ K (.val (.bool (a != b)))
  | .lss, .val (.int k a), .val (.int k' b) => k = k' ∧ True ∧ K (.val (.bool (decide (a < b))))
  | .leq, .val (.int k a), .val (.int k' b) => k = k' ∧ True ∧ K (.val (.bool (decide (a ≤ b))))
  | .gtr, .val (.int k a), .val (.int k' b) => k = k' ∧ True ∧ K (.val (.bool (decide (a > b))))
  | .geq, .val (.int k a), .val (.int k' b) => k = k' ∧ True ∧ K (.val (.bool (decide (a ≥ b))))
  | .eql, .val (.bool a), .val (.bool b) => tyOf tab t = some .bool ∧ True ∧ K (.val (.bool (a == b)))
  | .neq, .val (.bool a), .val (.bool b) => tyOf tab t = some .bool ∧ True ∧ K (.val (.bool (a != b)))
  | .eql, .val (.string a), .val (.string b) => True ∧ True ∧ K (.val (.bool (a.toList == b.toList)))
  | .neq, .val (.string a), .val (.string b) => True ∧ True ∧ K (.val (.bool (!(a.toList == b.toList))))
  | .add, .val (.string a), .val (.string b) => True ∧ ((a.size + b.size : Nat) : Int) ≤ 9223372036854775807 ∧ K (.val (.string (a ++ b)))
  | op, .val a, .val b => ∃ v, (∀ P w, (binOp op t a b).run P w = .ok v w) ∧ (op ≠ .eql ∧ op ≠ .neq) ∧ K (.val v)
  | _, _, _ => False

theorem run_equalIn_bool {P : Program} {t : TypeId} (h : P.underlying t = some .bool) (d : Nat) (a b : Bool) (w : World) : (Op.equalIn (d + 1) t (.bool a) (.bool b)).run P w = .ok (a == b) w := by
  simp only [Op.equalIn]
  simp [run_underlying h]
theorem run_equal_bool {P : Program} {t : TypeId} (h : P.underlying t = some .bool) (a b : Bool) (w : World) : (Op.equal t (.bool a) (.bool b)).run P w = .ok (a == b) w :=
  run_equalIn_bool h 9999 a b w

theorem binOp_eql_bool (t : TypeId) (a b : Bool) : binOp .eql t (.bool a) (.bool b) = (do pure (.bool (← Op.equal t (.bool a) (.bool b)))) := rfl
theorem binOp_neq_bool (t : TypeId) (a b : Bool) : binOp .neq t (.bool a) (.bool b) = (do pure (.bool (!(← Op.equal t (.bool a) (.bool b))))) := rfl
theorem eqGuard_none (op : BinOp) (t : TypeId) (x y : Operand) (a b : Value) (h : op ≠ .eql ∧ op ≠ .neq) : eqGuard op t x y a b = pure () := by
  unfold eqGuard
  cases op <;> simp_all

theorem tab_ty {P : Program} {tab : Tab} (ht : TabOk P tab) {t : TypeId} {ty : Ty} (h : tyOf tab t = some ty) : ∃ d, P.underlying t = some d ∧ ty.fits d := by
  unfold tyOf at h
  split at h
  · rename_i i hi
    cases h
    obtain ⟨d, inf, z, hd, hf, _⟩ := ht t i hi
    exact ⟨d, hd, hf⟩
  · cases h

theorem tab_size {P : Program} {tab : Tab} (ht : TabOk P tab) {t : TypeId} {s : Nat} (h : szOf tab t = some s) : ∃ inf, P.info? t = some inf ∧ inf.size = s := by
  unfold szOf at h
  split at h
  · rename_i i hi
    cases h
    obtain ⟨d, inf, z, _, _, h1, h2, _⟩ := ht t i hi
    exact ⟨inf, h1, h2⟩
  · cases h

set_option maxHeartbeats 1000000 in
theorem rBin_sound {P : Program} {tab : Tab} (ht : TabOk P tab) {m : Lm} {op : BinOp} {t : TypeId} {ox oy : Operand} {x y : AV} {vx vy : Value} {K : AV → Prop}
    (h : rBin tab op t x y K) (hx : Rep m x vx) (hy : Rep m y vy) :
    ∃ a v, K a ∧ Rep m a v ∧ ∀ w, (do eqGuard op t ox oy vx vy; binOp op t vx vy : Sem Value).run P w = .ok v w := by
  unfold rBin at h
  split at h
  case h_17 =>
    obtain ⟨v, hv, hne, hK⟩ := h
    simp only [Rep] at hx hy
    subst hx hy
    refine ⟨_, v, hK, by simp [Rep], fun w => ?_⟩
    rw [eqGuard_none _ _ _ _ _ _ hne]
    simpa using hv P w
  case h_18 => exact h.elim
  all_goals
    simp only [Rep] at hx hy
    subst hx hy
    obtain ⟨h1, h2, hK⟩ := h
    try subst h1
    refine ⟨_, _, hK, by simp only [Rep]; rfl, fun w => ?_⟩
  case h_1 => simp [eqGuard, binOp, Op.intArith, wrap_in h2]
  case h_2 => simp [eqGuard, binOp, Op.intArith, wrap_in h2]
  case h_3 => simp [eqGuard, binOp, Op.intArith, wrap_in h2]
  case h_4 =>
    obtain ⟨h3, h4, h5⟩ := h2
    have : ¬ (_ : Int) = 0 := Int.ne_of_gt h4
    simp [eqGuard, binOp, Op.intDiv, this, Int.tdiv_eq_ediv_of_nonneg h3, wrap_in h5]
  case h_5 =>
    obtain ⟨h3, h4⟩ := h2
    have : ¬ (_ : Int) = 0 := Int.ne_of_gt h4
    simp [eqGuard, binOp, Op.intDiv, this, Int.tmod_eq_emod_of_nonneg h3]
  case h_6 => simp [eqGuard, binOp, Op.intCmp]
  case h_7 => simp [eqGuard, binOp, Op.intCmp]
  case h_8 => simp [eqGuard, binOp, Op.intCmp]
  case h_9 => simp [eqGuard, binOp, Op.intCmp]
  case h_10 => simp [eqGuard, binOp, Op.intCmp]
  case h_11 => simp [eqGuard, binOp, Op.intCmp]
  case h_12 =>
    obtain ⟨d, hd, hf⟩ := tab_ty ht h1
    simp only [Ty.fits] at hf
    subst hf
    rw [binOp_eql_bool]
    simp [eqGuard, run_equal_bool hd]
  case h_13 =>
    obtain ⟨d, hd, hf⟩ := tab_ty ht h1
    simp only [Ty.fits] at hf
    subst hf
    rw [binOp_neq_bool]
    simp [eqGuard, run_equal_bool hd, bne]
  case h_14 => simp [eqGuard, binOp, Op.stringOp]
  case h_15 => simp [eqGuard, binOp, Op.stringOp]
  case h_16 =>
    simp only [eqGuard, binOp, Op.stringOp]
    have h3 : ¬ IntKind.i64.max < _ := Int.not_lt.2 (Int.le_trans h2 (by decide))
    rw [if_neg h3]
    simp
end Go.Ab
