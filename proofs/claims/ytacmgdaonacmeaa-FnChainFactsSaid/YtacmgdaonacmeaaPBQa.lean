/- Contracts of functions of the program. -/
import Derived.Test.YtacmgdaonacmeaaTab
import Derived.ScopeJumps
namespace Go.Proofs.Ytacmgdaonacmeaa
open Go Go.Ab
set_option linter.all false
set_option maxHeartbeats 4000000
theorem rdA : (∀ (K : St → Prop) (Q : Exit → St → Prop) (s : St), thenA K Q .normal s = K s) ∧ (∀ (K : St → Prop) (Q : Exit → St → Prop) (s : St) (i : Nat), thenA K Q (.exit i) s = Q (.exit i) s) ∧ (∀ (K : St → Prop) (Q : Exit → St → Prop) (s : St) (i : Nat), thenA K Q (.goto i) s = Q (.goto i) s) ∧ (∀ (K : St → Prop) (Q : Exit → St → Prop) (s : St), thenA K Q .ret s = Q .ret s) ∧ (∀ (id : Nat) (Q : Exit → St → Prop) (s : St), blockA id Q .normal s = Q .normal s) ∧ (∀ (id : Nat) (Q : Exit → St → Prop) (s : St), blockA id Q (.exit id) s = Q .normal s) ∧ (∀ (id : Nat) (Q : Exit → St → Prop) (s : St) (i : Nat), blockA id Q (.exit i) s = if i = id then Q .normal s else Q (.exit i) s) ∧ (∀ (id : Nat) (Q : Exit → St → Prop) (s : St) (i : Nat), blockA id Q (.goto i) s = Q (.goto i) s) ∧ (∀ (id : Nat) (Q : Exit → St → Prop) (s : St), blockA id Q .ret s = Q .ret s) := ⟨thenA_normal, thenA_exit, thenA_goto, thenA_ret, blockA_normal, blockA_same, blockA_exit, blockA_goto, blockA_ret⟩
theorem dcA : (∀ (p : Prop) [Decidable p], (decide p = true) = p) ∧ (∀ (p : Prop) [Decidable p], (decide p = false) = ¬ p) ∧ (∀ a b : Int, (¬ a < b) = (b ≤ a)) ∧ (∀ a b : Int, (¬ a ≤ b) = (b < a)) := ⟨fun _ _ => decide_eq_true_eq, fun _ _ => propext decide_eq_false_iff_not, fun _ _ => propext Int.not_lt, fun _ _ => propext Int.not_le⟩
theorem nmA : (∀ a b : Nat, (a + b = a) = (b = 0)) ∧ (∀ a b : Nat, (a = a + b) = (b = 0)) ∧ (∀ a b c : Nat, a + b + c = a + (b + c)) := ⟨fun _ _ => propext Nat.add_eq_left, fun _ _ => propext Nat.left_eq_add, Nat.add_assoc⟩
theorem ifA {α : Sort _} {h : Decidable False} (t e : α) : (@ite α False h t e) = e := if_false t e
theorem ifB {α : Sort _} {h : Decidable True} (t e : α) : (@ite α True h t e) = t := if_true t e
theorem dcB {α : Type _} [BEq α] [LawfulBEq α] {a b : α} : a == b ↔ a = b := beq_iff_eq
theorem dcC {α : Type _} [BEq α] [LawfulBEq α] {a b : α} : a != b ↔ a ≠ b := bne_iff_ne
theorem dcD {α : Type _} [BEq α] [LawfulBEq α] {a b : α} : (a == b) = false ↔ a ≠ b := beq_eq_false_iff_ne
theorem dcE {α : Type _} [BEq α] [LawfulBEq α] {a b : α} : (a != b) = false ↔ a = b := bne_eq_false_iff_eq
theorem lsA {α : Type _} {β : Type _} {f : α → β} {a : α} {l : List α} : (a :: l).map f = f a :: l.map f := List.map_cons
theorem lsB {α : Type _} {β : Type _} {f : α → β} : ([] : List α).map f = [] := List.map_nil
theorem lsC {α : Type _} {xs : List α} {i : Nat} : xs.toArray[i]? = xs[i]? := List.getElem?_toArray
theorem lsD {α : Type _} {a : α} {l : List α} {n : Nat} : (a :: l)[n + 1]? = l[n]? := List.getElem?_cons_succ
theorem lsE {α : Type _} {a : α} {l : List α} : (a :: l)[0]? = some a := List.getElem?_cons_zero
theorem lsF {α : Type _} {β : Type _} (a : α) (f : α → Option β) : (some a).bind f = f a := Option.bind_some a f
theorem lsG {α : Type _} {β : Type _} (a : α) (f : α → β) : (some a).map f = some (f a) := Option.map_some a f
attribute [go_sem] AV.parts List.length_set List.set_cons_zero List.set_cons_succ List.getElem?_cons_zero List.getElem?_cons_succ Option.any_some Nat.lt_add_one tab List.nil_append List.append_nil

theorem inRange_sat : Sat Try.prog 65 (fun ds Q => ∃ n lo hi, ds = [.val (.int .i64 n), .val (.int .i64 lo), .val (.int .i64 hi)] ∧ Q (.val (.bool (decide (lo ≤ n) && decide (n ≤ hi))))) := by
  refine sat_intro tabOk Try.func65 rfl 15 rfl [.tmp 6] rfl ?_
  rintro ds Q W ⟨n, lo, hi, rfl, hQ⟩
  refine ⟨Nat.le_of_ble_eq_true rfl, ?_⟩
  simp only [initS, initT, mat.matL, mat]
  repeat' (first | refine awp_seq_k fun K hK => ?_ | ((with_reducible refine hK _ ?_); clear hK K) | ((with_reducible refine aord_plain fun K hK => ?_); simp only [go_sem, Nat.reduceAdd, Nat.reduceMul, Nat.reduceEqDiff, Nat.reduceLT, reduceIte, reduceCtorEq]) | ((with_reducible apply aord_guard); (focus (simp only [St.ev, St.set, upd, Nat.reduceEqDiff, reduceIte, ifA, ifB]; exact rfl)); all_goals (intro hb; (try simp only [Bool.not_true, Bool.not_false] at hb); first | (cases hb; done) | ((try rw [hb]); (try simp only [Bool.not_eq_true', Bool.not_eq_false', Bool.and_eq_true, dcA, dcB, dcC, dcD, dcE] at hb); (try (revert hb; with_reducible refine true_imp_iff.2 ?_)); first | (intro K hK; simp only [go_sem, Nat.reduceAdd, Nat.reduceMul, Nat.reduceEqDiff, Nat.reduceLT, reduceIte, reduceCtorEq]) | (simp only [St.ev, St.set, upd, Nat.reduceEqDiff, reduceIte, ifA, ifB]) | skip))) | ((first | with_reducible refine aord_nil ?_ | refine awp_skip ?_ | refine awp_exit ?_ | refine awp_ret ?_); try simp only [rdA, Nat.reduceEqDiff, ifA, ifB, reduceIte]) | (refine awp_region tabOk rfl ?_; simp only [prep, pickO, lsA, lsB, lsC, lsD, lsE, lsF, lsG]) | fail)
  all_goals simp only [St.set, St.ev, doneQ, doneH, ressK, resK, wrapR, AV.ids, AV.idsL, retK, retsK, upd, Nat.reduceEqDiff, reduceIte, ifA, ifB, List.nodup_nil, List.nodup_cons, List.not_mem_nil, not_false_eq_true, true_and, and_true, exists_eq_left', Option.some.injEq, rLoad, cellOf, tab, Ty.isAgg, Ty.one, Bool.false_eq_true]
  · simp_all
  · simpa [show ¬ lo ≤ n by omega] using hQ



def inB (n : Int) : Bool := decide (-99 ≤ n) && decide (n ≤ 99)
def validB (xs : List Int) : Bool := xs.all inB && decide (xs.length ≤ 8)

theorem getD_set_same {α : Type} {l : List α} {i : Nat} {a d : α} (h : i < l.length) : (l.set i a).getD i d = a := by simp [List.getD_eq_getElem?_getD, h]
theorem getD_set_ne' {α : Type} {l : List α} {i j : Nat} {a d : α} (h : i ≠ j) : (l.set i a).getD j d = l.getD j d := by simp [List.getD_eq_getElem?_getD, List.getElem?_set_ne h]
theorem ext_getD {l m : List Int} (h : l.length = m.length) (hh : ∀ j, j < l.length → l.getD j 0 = m.getD j 0) : l = m := by
  apply List.ext_getElem h
  intro j h1 h2
  have := hh j h1
  simpa [List.getD_eq_getElem?_getD, h1, h2] using this


/-- How many of the first k places hold a key less than that of place i, or an equal one and are ahead of it. -/
def plC (xs : List Int) (i : Nat) : Nat → Int
  | 0 => 0
  | k + 1 => plC xs i k + (if xs.getD k 0 < xs.getD i 0 ∨ (xs.getD k 0 = xs.getD i 0 ∧ k < i) then 1 else 0)
def placesL (xs : List Int) : List Int := (List.range xs.length).map fun i => plC xs i xs.length
theorem plC_nonneg (xs : List Int) (i : Nat) : ∀ k, 0 ≤ plC xs i k
  | 0 => Int.le_refl 0
  | k + 1 => by have := plC_nonneg xs i k; rw [plC]; split <;> omega
theorem plC_le (xs : List Int) (i : Nat) : ∀ k, plC xs i k ≤ k
  | 0 => Int.le_refl 0
  | k + 1 => by have := plC_le xs i k; rw [plC]; split <;> omega
theorem plC_own (xs : List Int) (i : Nat) : ∀ k, i < k → plC xs i k + 1 ≤ k
  | k + 1, h => by
    rw [plC]
    rcases Nat.lt_or_ge i k with h1 | h1
    · have := plC_own xs i k h1; split <;> omega
    · have e : k = i := by omega
      subst e
      have := plC_le xs k k
      rw [if_neg (by omega)]
      omega
theorem plC_up {xs : List Int} {i k : Nat} (h : xs.getD k 0 < xs.getD i 0 ∨ (xs.getD k 0 = xs.getD i 0 ∧ k < i)) : plC xs i (k + 1) = plC xs i k + 1 := by rw [plC, if_pos h]
theorem plC_stay {xs : List Int} {i k : Nat} (h : ¬ (xs.getD k 0 < xs.getD i 0 ∨ (xs.getD k 0 = xs.getD i 0 ∧ k < i))) : plC xs i (k + 1) = plC xs i k := by rw [plC, if_neg h]; omega
theorem placesL_len (xs : List Int) : (placesL xs).length = xs.length := by simp [placesL]
theorem placesL_get {xs : List Int} {i : Nat} (h : i < xs.length) : (placesL xs).getD i 0 = plC xs i xs.length := by
  rw [List.getD_eq_getElem?_getD, List.getElem?_eq_getElem (by rw [placesL_len]; exact h)]
  simp [placesL]
theorem getD_app_lo {l m : List Int} {i : Nat} (h : i < l.length) : (l ++ m).getD i 0 = l.getD i 0 := by
  simp [List.getD_eq_getElem?_getD, List.getElem?_append_left h]
theorem getD_app_at {l : List Int} {a : Int} {i : Nat} (h : i = l.length) : (l ++ [a]).getD i 0 = a := by
  subst h; simp [List.getD_eq_getElem?_getD]


/-- The numbers that are laid into a list, from k on. -/
def marks (k : Int) (m : Nat) : List Int := (List.range m).map fun i => k + Int.ofNat i
theorem marks_len (k : Int) (m : Nat) : (marks k m).length = m := by simp [marks]
theorem marks_get {k : Int} {m i : Nat} (h : i < m) : (marks k m).getD i 0 = k + i := by
  rw [List.getD_eq_getElem?_getD, List.getElem?_eq_getElem (by rw [marks_len]; exact h)]
  simp [marks]

theorem set_step {ys : List Int} {f : Nat → Int} {i : Nat} {v : Int} (hi : i < ys.length) (hj : ∀ j, j < i → ys.getD j 0 = f j) (hv : v = f i) : ∀ j, j < i + 1 → (ys.set i v).getD j 0 = f j := fun j h => by
  rcases Nat.lt_or_ge j i with h1 | h1
  · rw [getD_set_ne' (by omega)]; exact hj j h1
  · rw [show j = i by omega, getD_set_same hi]; exact hv
theorem app_step {ys : List Int} {f : Nat → Int} {i : Nat} {v : Int} (hi : ys.length = i) (hj : ∀ j, j < i → ys.getD j 0 = f j) (hv : v = f i) : ∀ j, j < i + 1 → (ys ++ [v]).getD j 0 = f j := fun j h => by
  rcases Nat.lt_or_ge j i with h1 | h1
  · rw [getD_app_lo (by omega)]; exact hj j h1
  · rw [show j = i by omega, getD_app_at (by omega)]; exact hv
theorem all_step {p : Nat → Prop} {i : Nat} (hj : ∀ j, j < i → p j) (hv : p i) : ∀ j, j < i + 1 → p j := fun j h => by
  rcases Nat.lt_or_ge j i with h1 | h1
  · exact hj j h1
  · rw [show j = i by omega]; exact hv


/-- Facts as the cells that they lie in. -/
def flF : List (Int × Int) → List Int
  | [] => []
  | a :: l => a.1 :: a.2 :: flF l
theorem flF_len : ∀ l : List (Int × Int), (flF l).length = l.length * 2
  | [] => rfl
  | a :: l => by simp only [flF, List.length_cons, flF_len l]; omega
theorem flF_app : ∀ l m : List (Int × Int), flF (l ++ m) = flF l ++ flF m
  | [], _ => rfl
  | a :: l, m => by simp only [List.cons_append, flF, flF_app l m]
theorem flF_get : ∀ {l : List (Int × Int)} {i : Nat}, i < l.length → (flF l).getD (i * 2) 0 = (l.getD i (0, 0)).1 ∧ (flF l).getD (i * 2 + 1) 0 = (l.getD i (0, 0)).2
  | [], i, h => by simp at h
  | a :: l, 0, h => by simp [flF]
  | a :: l, i + 1, h => by
    have := flF_get (l := l) (i := i) (by simpa using h)
    rw [show (i + 1) * 2 = i * 2 + 1 + 1 by omega]
    simpa [flF] using this
theorem flF_take : ∀ {l : List (Int × Int)} {i : Nat}, i < l.length → (((flF l).map fun n => AV.val (.int .i64 n)).drop (i * 2)).take 2 = [.val (.int .i64 (l.getD i (0, 0)).1), .val (.int .i64 (l.getD i (0, 0)).2)]
  | [], i, h => by simp at h
  | a :: l, 0, h => by simp [flF]
  | a :: l, i + 1, h => by
    have := flF_take (l := l) (i := i) (by simpa using h)
    rw [show (i + 1) * 2 = i * 2 + 1 + 1 by omega]
    simpa [flF] using this
theorem flF_inj : ∀ {l m : List (Int × Int)}, flF l = flF m → l = m
  | [], [], _ => rfl
  | [], _ :: _, h => by simp [flF] at h
  | _ :: _, [], h => by simp [flF] at h
  | a :: l, b :: m, h => by
    simp only [flF, List.cons.injEq] at h
    rw [flF_inj h.2.2, Prod.ext h.1 h.2.1]
theorem pair_ext {xs ys : List (Int × Int)} (h : xs.length = ys.length) (hj : ∀ j, j < xs.length → xs.getD j (0, 0) = ys.getD j (0, 0)) : xs = ys := by
  refine List.ext_getElem h fun i h1 h2 => ?_
  have := hj i h1
  rw [List.getD_eq_getElem?_getD, List.getD_eq_getElem?_getD, List.getElem?_eq_getElem h1, List.getElem?_eq_getElem h2] at this
  exact this


/-- The facts of two chains, of the first items. -/
def chTo (m : Nat) : Nat → List (Int × Int)
  | 0 => []
  | t + 1 => if t + 1 = m then chTo m t else chTo m t ++ [((t : Int), (t : Int) + 1)]
theorem chTo_go {m t : Nat} (h : t + 1 ≠ m) : chTo m (t + 1) = chTo m t ++ [((t : Int), (t : Int) + 1)] := by rw [chTo, if_neg h]
theorem chTo_no {m : Nat} : chTo m m = chTo m (m - 1) := by
  cases m with
  | zero => rfl
  | succ m => rw [chTo, if_pos rfl]; rfl
theorem chTo_len (m : Nat) : ∀ t, (chTo m t).length ≤ t
  | 0 => Nat.le_refl _
  | t + 1 => by
    have := chTo_len m t
    rw [chTo]
    split
    · omega
    · rw [List.length_append, List.length_singleton]; omega

theorem upd2 {h : Hp} {o : Nat} {a b : Option Ob} : upd (upd h o a) o b = upd h o b := by
  funext u
  unfold upd
  split <;> rfl
theorem ch_go {m j : Nat} (h : j + 1 ≠ m) : flF (chTo m j) ++ [(j : Int) + 1 - 1, (j : Int) + 1] = flF (chTo m (j + 1)) ∧ (chTo m (j + 1)).length = (chTo m j).length + 1 := by
  rw [chTo_go h, flF_app, List.length_append]
  refine ⟨?_, rfl⟩
  simp only [flF, Int.add_sub_cancel]
theorem ch_go1 {m j : Nat} (h : j + 1 ≠ m) : flF (chTo m j) ++ [(j : Int), (j : Int) + 1] = flF (chTo m (j + 1)) ∧ (chTo m (j + 1)).length = (chTo m j).length + 1 := by
  rw [chTo_go h, flF_app, List.length_append]
  exact ⟨rfl, rfl⟩
theorem ch_go2 {m j : Nat} : flF (chTo m (m + j)) ++ [(m : Int) + (j : Int), (m : Int) + (j : Int) + 1] = flF (chTo m (m + (j + 1))) ∧ (chTo m (m + (j + 1))).length = (chTo m (m + j)).length + 1 := by
  rw [← Nat.add_assoc, chTo_go (by omega), flF_app, List.length_append]
  refine ⟨?_, rfl⟩
  simp only [flF, Int.natCast_add]
/-- The facts of ChainFacts. -/
def chB (m k : Int) : Bool := decide (0 ≤ m ∧ m ≤ 5 ∧ 0 ≤ k ∧ k ≤ 5 ∧ m + k ≤ 5)
def chL (m k : Int) : List (Int × Int) := if chB m k then chTo m.toNat (m + k - 1).toNat else []


theorem specChainFacts_sat : SatH Try.prog 32 (fun al h n K => ∃ (m k : Int), al = [.val (.int .i64 (m)), .val (.int .i64 (k))] ∧ (-9223372036854775808 ≤ m ∧ m ≤ 9223372036854775807 ∧ -9223372036854775808 ≤ k ∧ k ≤ 9223372036854775807) ∧ K (.sl n 0 (chL m k).length 2 none) (upd h n (some ⟨true, .ints .i64 (flF (chL m k))⟩)) (n + 1)) := by
  refine satH_intro tabOk Try.func32 rfl 54 rfl [.tmp 4] rfl ?_
  rintro F W h n al K0 ⟨m, k, rfl, hm, hQ⟩
  refine ⟨Nat.le_of_ble_eq_true rfl, fun m0 hm0 hcl hlt => ?_⟩
  simp only [initT]
  cases hv : chB m k with
  | false =>
    have hv2 := of_decide_eq_false hv
    have e0 : chL m k = [] := by rw [chL, hv]; rfl
    rw [e0] at hQ
    repeat' ((fail_if_success (with_reducible refine isRetQ ?_)); (first | refine awp_seq_k fun K hK => ?_ | ((with_reducible refine hK _ ?_); clear hK K) | ((with_reducible refine aord_plain fun K hK => ?_); simp only [go_sem, Nat.reduceAdd, Nat.reduceMul, Nat.reduceEqDiff, Nat.reduceLT, reduceIte, reduceCtorEq]) | ((with_reducible apply aord_guard); (focus (simp only [St.ev, St.set, upd, Nat.reduceEqDiff, reduceIte, ifA, ifB]; exact rfl)); all_goals (intro hb; (try simp only [Bool.not_true, Bool.not_false] at hb); first | (cases hb; done) | ((try rw [hb]); (try simp only [Bool.not_eq_true', Bool.not_eq_false', Bool.and_eq_true, dcA, dcB, dcC, dcD, dcE] at hb); (try (revert hb; with_reducible refine true_imp_iff.2 ?_)); first | (intro K hK; simp only [go_sem, Nat.reduceAdd, Nat.reduceMul, Nat.reduceEqDiff, Nat.reduceLT, reduceIte, reduceCtorEq]) | (simp only [St.ev, St.set, upd, Nat.reduceEqDiff, reduceIte, ifA, ifB]) | skip))) | ((first | with_reducible refine aord_nil ?_ | refine awp_skip ?_ | refine awp_exit ?_ | refine awp_ret ?_); try simp only [rdA, Nat.reduceEqDiff, ifA, ifB, reduceIte]) | (refine awp_region tabOk rfl ?_; simp only [prep, pickO, lsA, lsB, lsC, lsD, lsE, lsF, lsG]) | ((with_reducible apply awp_cond); (focus (simp only [St.ev, St.set, upd, Nat.reduceEqDiff, reduceIte, ifA, ifB]; exact rfl)); all_goals (intro hb; first | (cases hb; done) | ((try rw [hb]); (try simp only [dcA, dcB, dcC, dcD, dcE, Bool.not_eq_true', Bool.not_eq_false'] at hb)))) | ((with_reducible refine And.intro ?_ ?_); (focus omega)) | ((with_reducible refine And.intro (?_ : enters Try.prog 65) ?_); (focus exact Try.call65); (refine callX_sat inRange_sat ?_); simp only [go_sem, and_assoc, List.nil_append, List.append_nil, List.cons_append, Nat.reduceEqDiff, reduceIte, reduceCtorEq]) | (exfalso; omega) | fail))
    all_goals (
      refine awp_nilE 2 4 (.ints .i64 []) rfl rfl (by simp only [St.ev, St.set, upd, Nat.reduceEqDiff, reduceIte, ifA, ifB]) ?_
      simp only [St.ev, St.set, upd, Nat.reduceEqDiff, reduceIte, ifA, ifB])
    repeat' (first | ((first | with_reducible refine aord_nil ?_ | refine awp_skip ?_ | refine awp_exit ?_ | refine awp_ret ?_); try simp only [rdA, Nat.reduceEqDiff, ifA, ifB, reduceIte]) | (simp only [doneH]; simp only [ressK, resK, wrapR, go_sem, Nat.reduceAdd, Nat.reduceMul, Nat.reduceEqDiff, Nat.reduceLT, reduceIte, reduceCtorEq]) | fail)
    all_goals exact hQ
  | true =>
    have hv2 := of_decide_eq_true hv
    obtain ⟨m, rfl⟩ : ∃ j : Nat, m = j := ⟨m.toNat, by omega⟩
    obtain ⟨k, rfl⟩ : ∃ j : Nat, k = j := ⟨k.toNat, by omega⟩
    have q1 : decide ((0 : Int) ≤ (m : Int)) = true := decide_eq_true (by omega)
    have q2 : decide ((m : Int) ≤ 5) = true := decide_eq_true (by omega)
    have q3 : decide ((0 : Int) ≤ (k : Int)) = true := decide_eq_true (by omega)
    have q4 : decide ((k : Int) ≤ 5) = true := decide_eq_true (by omega)
    have q5 : decide ((5 : Int) < (m : Int) + (k : Int)) = false := decide_eq_false (by omega)
    have e0 : chL m k = chTo m (m + k - 1) := by rw [chL, hv, if_pos rfl]; congr 1; omega
    rw [e0] at hQ

    repeat' (first | refine awp_seq_k fun K hK => ?_ | ((with_reducible refine hK _ ?_); clear hK K) | ((with_reducible refine aord_plain fun K hK => ?_); simp only [go_sem, Nat.reduceAdd, Nat.reduceMul, Nat.reduceEqDiff, Nat.reduceLT, reduceIte, reduceCtorEq, q1, q2, q3, q4, q5, Bool.and_self, Bool.not_true]) | ((with_reducible apply aord_guard); (focus (simp only [St.ev, St.set, upd, Nat.reduceEqDiff, reduceIte, ifA, ifB]; exact rfl)); all_goals (intro hb; (try simp only [Bool.not_true, Bool.not_false] at hb); first | (cases hb; done) | ((try rw [hb]); (try simp only [Bool.not_eq_true', Bool.not_eq_false', Bool.and_eq_true, dcA, dcB, dcC, dcD, dcE] at hb); (try (revert hb; with_reducible refine true_imp_iff.2 ?_)); first | (intro K hK; simp only [go_sem, Nat.reduceAdd, Nat.reduceMul, Nat.reduceEqDiff, Nat.reduceLT, reduceIte, reduceCtorEq]) | (simp only [St.ev, St.set, upd, Nat.reduceEqDiff, reduceIte, ifA, ifB]) | skip))) | ((first | with_reducible refine aord_nil ?_ | refine awp_skip ?_ | refine awp_exit ?_ | refine awp_ret ?_); try simp only [rdA, Nat.reduceEqDiff, ifA, ifB, reduceIte]) | (refine awp_region tabOk rfl ?_; simp only [prep, pickO, lsA, lsB, lsC, lsD, lsE, lsF, lsG]) | ((with_reducible apply awp_cond); (focus (simp only [St.ev, St.set, upd, Nat.reduceEqDiff, reduceIte, ifA, ifB]; exact rfl)); all_goals (intro hb; first | (cases hb; done) | ((try rw [hb]); (try simp only [dcA, dcB, dcC, dcD, dcE, Bool.not_eq_true', Bool.not_eq_false'] at hb)))) | ((with_reducible refine And.intro ?_ ?_); (focus omega)) | ((with_reducible refine And.intro (?_ : enters Try.prog 65) ?_); (focus exact Try.call65); (refine callX_sat inRange_sat ?_); simp only [go_sem, and_assoc, List.nil_append, List.append_nil, List.cons_append, Nat.reduceEqDiff, reduceIte, reduceCtorEq, q1, q2, q3, q4, q5, Bool.and_self, Bool.not_true]) | fail)
    refine ⟨_, _, ⟨rfl, rfl⟩, Nat.le_of_ble_eq_true rfl, ?_⟩
    dsimp only
    repeat' (first | refine awp_seq_k fun K hK => ?_ | ((with_reducible refine hK _ ?_); clear hK K) | ((with_reducible refine aord_plain fun K hK => ?_); simp only [go_sem, Nat.reduceAdd, Nat.reduceMul, Nat.reduceEqDiff, Nat.reduceLT, reduceIte, reduceCtorEq, q1, q2, q3, q4, q5, Bool.and_self, Bool.not_true]) | refine awp_block ?_ | ((first | with_reducible refine aord_nil ?_ | refine awp_skip ?_ | refine awp_exit ?_ | refine awp_ret ?_); try simp only [rdA, Nat.reduceEqDiff, ifA, ifB, reduceIte]) | (refine awp_region tabOk rfl ?_; simp only [prep, pickO, lsA, lsB, lsC, lsD, lsE, lsF, lsG]) | fail)
    refine awp_loopE (α := Nat) (fun s p => ⟨(upd (upd (upd (upd bot 0 (s.tmps 0)) 1 (s.tmps 1)) 5 (.sl n 0 (chTo m p).length 2 none)) 6 (.val (.int .i64 (p)))), (upd s.heap n (some ⟨true, .ints .i64 ((flF (chTo m p)))⟩)), s.next⟩) _ (fun p => by simp only [St.ev, St.set, upd, Nat.reduceEqDiff, reduceIte, ifA, ifB]; exact rfl) (fun p => (p + 1 ≤ m ∨ p = 0)) (fun p => m - p) (0) ?_ ?_ ?_
    · (try simp only); (refine ?_ <;> (first | omega | (simp only; omega) | rfl | (simp; done) | skip))
    · (apply Wk.over (id) n; (case' h2 => (focus ((repeat' (first | (with_reducible exact HeapX.bot) | (exact HeapX.base (by first | exact hcl | assumption) (by first | exact Nat.le_refl _ | omega | (simp only; omega)) (fun k hk => by first | rfl | (simp only [id]; done) | ((repeat rw [if_neg (by omega)]); done)) (by intro u hu hlt'; first | rfl | (simp only [List.mem_cons, List.not_mem_nil, or_false, not_or] at hu; first | (simp [upd, hu]; done) | (simp only [upd]; (repeat rw [if_neg (by omega)]))))) | (with_reducible (apply HeapX.skip; (case hx => (simp; done)))) | (with_reducible apply HeapX.none) | (with_reducible apply HeapX.old (by first | assumption | omega) (by first | exact Nat.le_refl _ | omega | (simp only; omega)) (by first | rfl | (simp only [id]; done) | ((repeat rw [if_neg (by omega)]); done))) | (with_reducible apply HeapX.upd))); all_goals (first | rfl | omega | assumption | exact Nat.le_of_ble_eq_true rfl | (simp only; omega) | (simp only [St.set, St.ev, upd, ren, renL, id, Nat.reduceEqDiff, reduceIte]; rfl) | (simp only [St.set, St.ev, upd, ren, renL, id, Nat.reduceEqDiff, reduceIte, ContLe]; done) | (exact And.intro rfl (And.intro (by first | exact Nat.le_of_ble_eq_true rfl | omega) (by first | exact Nat.le_of_ble_eq_true rfl | omega))) | (first | (simp only [St.set, St.ev, upd, ren, renL, id, Nat.reduceEqDiff, reduceIte]; exact contLe_nil) | ((repeat' (first | exact contLe_nil | refine contLe_cons (.inr ⟨?_, rfl⟩) ?_ | exact contLe_refl (n0 := n) (fun k hk => by first | rfl | (simp only [id]; done) | ((repeat rw [if_neg (by omega)]); done)) (by first | exact Nat.le_refl _ | omega | (simp only; omega)) (by assumption))); all_goals (first | rfl | (simp only [St.set, St.ev, upd, ren, renL, id, Nat.reduceEqDiff, reduceIte]; done) | ((try simp only [St.set, St.ev, upd, ren, renL, id, Nat.reduceEqDiff, reduceIte]); first | (with_reducible exact av_int (by omega)) | (with_reducible exact av_sl (by first | omega | (simp; done) | (simp; omega)) (by first | omega | (simp; done) | (simp; omega)))) | (simp only [St.set, St.ev, upd, ren, renL, id, Nat.reduceEqDiff, reduceIte, Int.natCast_add, Int.natCast_one, Int.cast_ofNat_Int, Int.natCast_zero]; done) | (simp only [St.set, St.ev, upd, ren, renL, id, Nat.reduceEqDiff, reduceIte]) | skip); done)) | (simp only [St.set, St.ev, upd, ren, renL, id, Nat.reduceEqDiff, reduceIte, ContLe]) | skip)))); (case' h1 => (focus ((repeat' (with_reducible first | exact TmpLe.bot | refine TmpLe.upd ?_ (by first | rfl | (simp only [AV.lt, decide_eq_true_eq]; first | done | omega)) ?_)); all_goals (first | rfl | (simp only [St.set, St.ev, upd, ren, renL, id, Nat.reduceEqDiff, reduceIte]; done) | ((try simp only [St.set, St.ev, upd, ren, renL, id, Nat.reduceEqDiff, reduceIte]); first | (with_reducible exact av_int (by omega)) | (with_reducible exact av_sl (by first | omega | (simp; done) | (simp; omega)) (by first | omega | (simp; done) | (simp; omega)))) | (simp only [St.set, St.ev, upd, ren, renL, id, Nat.reduceEqDiff, reduceIte, Int.natCast_add, Int.natCast_one, Int.cast_ofNat_Int, Int.natCast_zero]; done) | (simp only [St.set, St.ev, upd, ren, renL, id, Nat.reduceEqDiff, reduceIte]) | skip)))); (case h3 => (focus (first | (simp only [id, List.map_cons, List.map_nil]; decide) | decide | (simp; done) | (simp; omega) | fail))); (case h5 => (intro d hd; first | (simp at hd; done) | (simp only [List.mem_cons, List.not_mem_nil, or_false] at hd; first | (simp only [id]; omega) | (split <;> omega) | ((repeat' split) <;> omega) | ((try simp only); repeat' split; all_goals omega)))); (case h4 => (intro o l h; first | (cases h; done) | (have hlt0 := m0_lt (by assumption) h; (try (simp only at hlt0)); first | omega | (simp only; omega) | exact ⟨by (first | rfl | (simp only [id]; done) | ((repeat rw [if_neg (by omega)]); done)), by first | omega | (simp only; omega)⟩))))
    rintro j hj
    try simp only at hj
    have hcl2 := chTo_len m j
    have hfl := flF_len (chTo m j)
    have hgo := fun h : j + 1 ≠ m => ch_go1 h
    repeat' (first | refine awp_seq_k fun K hK => ?_ | ((with_reducible refine hK _ ?_); clear hK K) | (clear hK K; (with_reducible refine hK _ ?_); clear hK K) | ((with_reducible refine aord_plain fun K hK => ?_); simp only [go_sem, Nat.reduceAdd, Nat.reduceMul, Nat.reduceEqDiff, Nat.reduceLT, reduceIte, reduceCtorEq, q1, q2, q3, q4, q5, Bool.and_self, Bool.not_true]) | refine awp_block ?_ | ((first | with_reducible refine aord_nil ?_ | refine awp_skip ?_ | refine awp_exit ?_ | refine awp_ret ?_); try simp only [rdA, Nat.reduceEqDiff, ifA, ifB, reduceIte]) | (refine awp_region tabOk rfl ?_; simp only [prep, pickO, lsA, lsB, lsC, lsD, lsE, lsF, lsG]) | ((with_reducible apply awp_cond); (focus (simp only [St.ev, St.set, upd, Nat.reduceEqDiff, reduceIte, ifA, ifB]; exact rfl)); all_goals (intro hb; first | (cases hb; done) | ((try rw [hb]); (try simp only [dcA, dcB, dcC, dcD, dcE, Bool.not_eq_true', Bool.not_eq_false'] at hb)))) | ((with_reducible refine And.intro ?_ ?_); (focus omega)) | (simp only [rBuild]; simp only [fillA, Nat.reduceLeDiff, List.getElem?_cons_zero, List.getElem?_cons_succ, List.drop_succ_cons, List.drop_nil, List.take_nil, List.cons_append, Option.isSome_some, go_sem, Nat.reduceAdd, Nat.reduceMul, Nat.reduceEqDiff, Nat.reduceLT, reduceIte, reduceCtorEq]) | fail)
    · refine ⟨_, _, ⟨rfl, rfl⟩, Nat.le_of_ble_eq_true rfl, ?_⟩
      (try dsimp only)
      repeat' (first | ((with_reducible refine hK _ ?_); clear hK K) | ((with_reducible refine aord_plain fun K hK => ?_); simp only [go_sem, Nat.reduceAdd, Nat.reduceMul, Nat.reduceEqDiff, Nat.reduceLT, reduceIte, reduceCtorEq, q1, q2, q3, q4, q5, Bool.and_self, Bool.not_true]) | fail)
      refine aAppendE_ints rfl rfl rfl rfl (Nat.le_of_ble_eq_true rfl) (by decide) (by decide) (by (try dsimp only); (repeat (first | rw [upd_same] | rw [upd_ne _ _ (by omega)]))) (by (try dsimp only); (repeat (first | rw [upd_same] | rw [upd_ne _ _ (by omega)]))) hfl rfl (by decide) (by omega) ?_
      obtain ⟨g1, g2⟩ := hgo (by omega)
      rw [g1, ← g2]
      repeat' (first | ((with_reducible refine hK _ ?_); clear hK K) | ((with_reducible refine aord_plain fun K hK => ?_); simp only [go_sem, Nat.reduceAdd, Nat.reduceMul, Nat.reduceEqDiff, Nat.reduceLT, reduceIte, reduceCtorEq, q1, q2, q3, q4, q5, Bool.and_self, Bool.not_true]) | ((first | with_reducible refine aord_nil ?_ | refine awp_skip ?_ | refine awp_exit ?_ | refine awp_ret ?_); try simp only [rdA, Nat.reduceEqDiff, ifA, ifB, reduceIte]) | (refine awp_region tabOk rfl ?_; simp only [prep, pickO, lsA, lsB, lsC, lsD, lsE, lsF, lsG]) | ((with_reducible refine And.intro ?_ ?_); (focus omega)) | fail)
      ((refine Exists.intro (j + 1) ?_); (refine nxt ?_ ?_ ?_); (focus ((apply Wk.over (fun o => if o = n then n+2 else o) n; (case' h2 => (focus ((repeat' (first | (with_reducible exact HeapX.bot) | (exact HeapX.base (by first | exact hcl | assumption) (by first | exact Nat.le_refl _ | omega | (simp only; omega)) (fun k hk => by first | rfl | (simp only [id]; done) | ((repeat rw [if_neg (by omega)]); done)) (by intro u hu hlt'; first | rfl | (simp only [List.mem_cons, List.not_mem_nil, or_false, not_or] at hu; first | (simp [upd, hu]; done) | (simp only [upd]; (repeat rw [if_neg (by omega)]))))) | (with_reducible (apply HeapX.skip; (case hx => (simp; done)))) | (with_reducible apply HeapX.none) | (with_reducible apply HeapX.old (by first | assumption | omega) (by first | exact Nat.le_refl _ | omega | (simp only; omega)) (by first | rfl | (simp only [id]; done) | ((repeat rw [if_neg (by omega)]); done))) | (with_reducible apply HeapX.upd))); all_goals (first | rfl | omega | assumption | exact Nat.le_of_ble_eq_true rfl | (simp only; omega) | (simp only [St.set, St.ev, upd, ren, renL, id, Nat.reduceEqDiff, reduceIte]; rfl) | (simp only [St.set, St.ev, upd, ren, renL, id, Nat.reduceEqDiff, reduceIte, ContLe]; done) | (exact And.intro rfl (And.intro (by first | exact Nat.le_of_ble_eq_true rfl | omega) (by first | exact Nat.le_of_ble_eq_true rfl | omega))) | (first | (simp only [St.set, St.ev, upd, ren, renL, id, Nat.reduceEqDiff, reduceIte]; exact contLe_nil) | ((repeat' (first | exact contLe_nil | refine contLe_cons (.inr ⟨?_, rfl⟩) ?_ | exact contLe_refl (n0 := n) (fun k hk => by first | rfl | (simp only [id]; done) | ((repeat rw [if_neg (by omega)]); done)) (by first | exact Nat.le_refl _ | omega | (simp only; omega)) (by assumption))); all_goals (first | rfl | (simp only [St.set, St.ev, upd, ren, renL, id, Nat.reduceEqDiff, reduceIte]; done) | ((try simp only [St.set, St.ev, upd, ren, renL, id, Nat.reduceEqDiff, reduceIte]); first | (with_reducible exact av_int (by omega)) | (with_reducible exact av_sl (by first | omega | (simp; done) | (simp; omega)) (by first | omega | (simp; done) | (simp; omega)))) | (simp only [St.set, St.ev, upd, ren, renL, id, Nat.reduceEqDiff, reduceIte, Int.natCast_add, Int.natCast_one, Int.cast_ofNat_Int, Int.natCast_zero]; done) | (simp only [St.set, St.ev, upd, ren, renL, id, Nat.reduceEqDiff, reduceIte]) | skip); done)) | (simp only [St.set, St.ev, upd, ren, renL, id, Nat.reduceEqDiff, reduceIte, ContLe]) | skip)))); (case' h1 => (focus ((repeat' (with_reducible first | exact TmpLe.bot | refine TmpLe.upd ?_ (by first | rfl | (simp only [AV.lt, decide_eq_true_eq]; first | done | omega)) ?_)); all_goals (first | rfl | (simp only [St.set, St.ev, upd, ren, renL, id, Nat.reduceEqDiff, reduceIte]; done) | ((try simp only [St.set, St.ev, upd, ren, renL, id, Nat.reduceEqDiff, reduceIte]); first | (with_reducible exact av_int (by omega)) | (with_reducible exact av_sl (by first | omega | (simp; done) | (simp; omega)) (by first | omega | (simp; done) | (simp; omega)))) | (simp only [St.set, St.ev, upd, ren, renL, id, Nat.reduceEqDiff, reduceIte, Int.natCast_add, Int.natCast_one, Int.cast_ofNat_Int, Int.natCast_zero]; done) | (simp only [St.set, St.ev, upd, ren, renL, id, Nat.reduceEqDiff, reduceIte]) | skip)))); (case h3 => (focus (first | (simp only [id, List.map_cons, List.map_nil]; decide) | decide | (simp; done) | (simp; omega) | fail))); (case h5 => (intro d hd; first | (simp at hd; done) | (simp only [List.mem_cons, List.not_mem_nil, or_false] at hd; first | (simp only [id]; omega) | (split <;> omega) | ((repeat' split) <;> omega) | ((try simp only); repeat' split; all_goals omega)))); (case h4 => (intro o l h; first | (cases h; done) | (have hlt0 := m0_lt (by assumption) h; (try (simp only at hlt0)); first | omega | (simp only; omega) | exact ⟨by (first | rfl | (simp only [id]; done) | ((repeat rw [if_neg (by omega)]); done)), by first | omega | (simp only; omega)⟩)))))); (focus (first | omega | (simp only; omega) | (simp only [List.length_take]; omega) | (simp; done) | (simp; omega))); ((repeat' (with_reducible apply And.intro)) <;> (first | omega | (simp only; omega) | assumption | rfl | (simp only))))
    · have e1 : chTo m j = chTo m (m + 0) := by rw [Nat.add_zero, chTo_no]; congr 1; omega
      rw [e1]
      refine awp_loopE (α := Nat) (fun s p => ⟨(upd (upd (upd (upd bot 0 (s.tmps 0)) 1 (s.tmps 1)) 5 (.sl n 0 (chTo m (m + p)).length 2 none)) 7 (.val (.int .i64 (p)))), (upd s.heap n (some ⟨true, .ints .i64 ((flF (chTo m (m + p))))⟩)), s.next⟩) _ (fun p => by simp only [St.ev, St.set, upd, Nat.reduceEqDiff, reduceIte, ifA, ifB]; exact rfl) (fun p => (p + 1 ≤ k ∨ p = 0)) (fun p => k - p) (0) ?_ ?_ ?_
      · (try simp only); (refine ?_ <;> (first | omega | (simp only; omega) | rfl | (simp; done) | skip))
      · (apply Wk.over (id) n; (case' h2 => (focus ((repeat' (first | (with_reducible exact HeapX.bot) | (exact HeapX.base (by first | exact hcl | assumption) (by first | exact Nat.le_refl _ | omega | (simp only; omega)) (fun k hk => by first | rfl | (simp only [id]; done) | ((repeat rw [if_neg (by omega)]); done)) (by intro u hu hlt'; first | rfl | (simp only [List.mem_cons, List.not_mem_nil, or_false, not_or] at hu; first | (simp [upd, hu]; done) | (simp only [upd]; (repeat rw [if_neg (by omega)]))))) | (with_reducible (apply HeapX.skip; (case hx => (simp; done)))) | (with_reducible apply HeapX.none) | (with_reducible apply HeapX.old (by first | assumption | omega) (by first | exact Nat.le_refl _ | omega | (simp only; omega)) (by first | rfl | (simp only [id]; done) | ((repeat rw [if_neg (by omega)]); done))) | (with_reducible apply HeapX.upd))); all_goals (first | rfl | omega | assumption | exact Nat.le_of_ble_eq_true rfl | (simp only; omega) | (simp only [St.set, St.ev, upd, ren, renL, id, Nat.reduceEqDiff, reduceIte]; rfl) | (simp only [St.set, St.ev, upd, ren, renL, id, Nat.reduceEqDiff, reduceIte, ContLe]; done) | (exact And.intro rfl (And.intro (by first | exact Nat.le_of_ble_eq_true rfl | omega) (by first | exact Nat.le_of_ble_eq_true rfl | omega))) | (first | (simp only [St.set, St.ev, upd, ren, renL, id, Nat.reduceEqDiff, reduceIte]; exact contLe_nil) | ((repeat' (first | exact contLe_nil | refine contLe_cons (.inr ⟨?_, rfl⟩) ?_ | exact contLe_refl (n0 := n) (fun k hk => by first | rfl | (simp only [id]; done) | ((repeat rw [if_neg (by omega)]); done)) (by first | exact Nat.le_refl _ | omega | (simp only; omega)) (by assumption))); all_goals (first | rfl | (simp only [St.set, St.ev, upd, ren, renL, id, Nat.reduceEqDiff, reduceIte]; done) | ((try simp only [St.set, St.ev, upd, ren, renL, id, Nat.reduceEqDiff, reduceIte]); first | (with_reducible exact av_int (by omega)) | (with_reducible exact av_sl (by first | omega | (simp; done) | (simp; omega)) (by first | omega | (simp; done) | (simp; omega)))) | (simp only [St.set, St.ev, upd, ren, renL, id, Nat.reduceEqDiff, reduceIte, Int.natCast_add, Int.natCast_one, Int.cast_ofNat_Int, Int.natCast_zero]; done) | (simp only [St.set, St.ev, upd, ren, renL, id, Nat.reduceEqDiff, reduceIte]) | skip); done)) | (simp only [St.set, St.ev, upd, ren, renL, id, Nat.reduceEqDiff, reduceIte, ContLe]) | skip)))); (case' h1 => (focus ((repeat' (with_reducible first | exact TmpLe.bot | refine TmpLe.upd ?_ (by first | rfl | (simp only [AV.lt, decide_eq_true_eq]; first | done | omega)) ?_)); all_goals (first | rfl | (simp only [St.set, St.ev, upd, ren, renL, id, Nat.reduceEqDiff, reduceIte]; done) | ((try simp only [St.set, St.ev, upd, ren, renL, id, Nat.reduceEqDiff, reduceIte]); first | (with_reducible exact av_int (by omega)) | (with_reducible exact av_sl (by first | omega | (simp; done) | (simp; omega)) (by first | omega | (simp; done) | (simp; omega)))) | (simp only [St.set, St.ev, upd, ren, renL, id, Nat.reduceEqDiff, reduceIte, Int.natCast_add, Int.natCast_one, Int.cast_ofNat_Int, Int.natCast_zero]; done) | (simp only [St.set, St.ev, upd, ren, renL, id, Nat.reduceEqDiff, reduceIte]) | skip)))); (case h3 => (focus (first | (simp only [id, List.map_cons, List.map_nil]; decide) | decide | (simp; done) | (simp; omega) | fail))); (case h5 => (intro d hd; first | (simp at hd; done) | (simp only [List.mem_cons, List.not_mem_nil, or_false] at hd; first | (simp only [id]; omega) | (split <;> omega) | ((repeat' split) <;> omega) | ((try simp only); repeat' split; all_goals omega)))); (case h4 => (intro o l h; first | (cases h; done) | (have hlt0 := m0_lt (by assumption) h; (try (simp only at hlt0)); first | omega | (simp only; omega) | exact ⟨by (first | rfl | (simp only [id]; done) | ((repeat rw [if_neg (by omega)]); done)), by first | omega | (simp only; omega)⟩))))
      rintro i hi
      try simp only at hi
      have hcl2 := chTo_len m (m + i)
      have hfl := flF_len (chTo m (m + i))
      obtain ⟨g1, g2⟩ := ch_go2 (m := m) (j := i)
      repeat' (first | refine awp_seq_k fun K hK => ?_ | ((with_reducible refine hK _ ?_); clear hK K) | (clear hK K; (with_reducible refine hK _ ?_); clear hK K) | ((with_reducible refine aord_plain fun K hK => ?_); simp only [go_sem, Nat.reduceAdd, Nat.reduceMul, Nat.reduceEqDiff, Nat.reduceLT, reduceIte, reduceCtorEq, q1, q2, q3, q4, q5, Bool.and_self, Bool.not_true]) | refine awp_block ?_ | ((first | with_reducible refine aord_nil ?_ | refine awp_skip ?_ | refine awp_exit ?_ | refine awp_ret ?_); try simp only [rdA, Nat.reduceEqDiff, ifA, ifB, reduceIte]) | (refine awp_region tabOk rfl ?_; simp only [prep, pickO, lsA, lsB, lsC, lsD, lsE, lsF, lsG]) | ((with_reducible apply awp_cond); (focus (simp only [St.ev, St.set, upd, Nat.reduceEqDiff, reduceIte, ifA, ifB]; exact rfl)); all_goals (intro hb; first | (cases hb; done) | ((try rw [hb]); (try simp only [dcA, dcB, dcC, dcD, dcE, Bool.not_eq_true', Bool.not_eq_false'] at hb)))) | ((with_reducible refine And.intro ?_ ?_); (focus omega)) | (simp only [rBuild]; simp only [fillA, Nat.reduceLeDiff, List.getElem?_cons_zero, List.getElem?_cons_succ, List.drop_succ_cons, List.drop_nil, List.take_nil, List.cons_append, Option.isSome_some, go_sem, Nat.reduceAdd, Nat.reduceMul, Nat.reduceEqDiff, Nat.reduceLT, reduceIte, reduceCtorEq]) | (simp only [doneH]; simp only [ressK, resK, wrapR, go_sem, Nat.reduceAdd, Nat.reduceMul, Nat.reduceEqDiff, Nat.reduceLT, reduceIte, reduceCtorEq]) | fail)
      · refine ⟨_, _, ⟨rfl, rfl⟩, Nat.le_of_ble_eq_true rfl, ?_⟩
        (try dsimp only)
        repeat' (first | ((with_reducible refine hK _ ?_); clear hK K) | ((with_reducible refine aord_plain fun K hK => ?_); simp only [go_sem, Nat.reduceAdd, Nat.reduceMul, Nat.reduceEqDiff, Nat.reduceLT, reduceIte, reduceCtorEq, q1, q2, q3, q4, q5, Bool.and_self, Bool.not_true]) | fail)
        refine aAppendE_ints rfl rfl rfl rfl (Nat.le_of_ble_eq_true rfl) (by decide) (by decide) (by (try dsimp only); (repeat (first | rw [upd_same] | rw [upd_ne _ _ (by omega)]))) (by (try dsimp only); (repeat (first | rw [upd_same] | rw [upd_ne _ _ (by omega)]))) hfl rfl (by decide) (by omega) ?_
        rw [g1, ← g2]
        repeat' (first | ((with_reducible refine hK _ ?_); clear hK K) | ((with_reducible refine aord_plain fun K hK => ?_); simp only [go_sem, Nat.reduceAdd, Nat.reduceMul, Nat.reduceEqDiff, Nat.reduceLT, reduceIte, reduceCtorEq, q1, q2, q3, q4, q5, Bool.and_self, Bool.not_true]) | ((first | with_reducible refine aord_nil ?_ | refine awp_skip ?_ | refine awp_exit ?_ | refine awp_ret ?_); try simp only [rdA, Nat.reduceEqDiff, ifA, ifB, reduceIte]) | (refine awp_region tabOk rfl ?_; simp only [prep, pickO, lsA, lsB, lsC, lsD, lsE, lsF, lsG]) | ((with_reducible refine And.intro ?_ ?_); (focus omega)) | fail)
        ((refine Exists.intro (i + 1) ?_); (refine nxt ?_ ?_ ?_); (focus ((apply Wk.over (fun o => if o = n then n+2 else o) n; (case' h2 => (focus ((repeat' (first | (with_reducible exact HeapX.bot) | (exact HeapX.base (by first | exact hcl | assumption) (by first | exact Nat.le_refl _ | omega | (simp only; omega)) (fun k hk => by first | rfl | (simp only [id]; done) | ((repeat rw [if_neg (by omega)]); done)) (by intro u hu hlt'; first | rfl | (simp only [List.mem_cons, List.not_mem_nil, or_false, not_or] at hu; first | (simp [upd, hu]; done) | (simp only [upd]; (repeat rw [if_neg (by omega)]))))) | (with_reducible (apply HeapX.skip; (case hx => (simp; done)))) | (with_reducible apply HeapX.none) | (with_reducible apply HeapX.old (by first | assumption | omega) (by first | exact Nat.le_refl _ | omega | (simp only; omega)) (by first | rfl | (simp only [id]; done) | ((repeat rw [if_neg (by omega)]); done))) | (with_reducible apply HeapX.upd))); all_goals (first | rfl | omega | assumption | exact Nat.le_of_ble_eq_true rfl | (simp only; omega) | (simp only [St.set, St.ev, upd, ren, renL, id, Nat.reduceEqDiff, reduceIte]; rfl) | (simp only [St.set, St.ev, upd, ren, renL, id, Nat.reduceEqDiff, reduceIte, ContLe]; done) | (exact And.intro rfl (And.intro (by first | exact Nat.le_of_ble_eq_true rfl | omega) (by first | exact Nat.le_of_ble_eq_true rfl | omega))) | (first | (simp only [St.set, St.ev, upd, ren, renL, id, Nat.reduceEqDiff, reduceIte]; exact contLe_nil) | ((repeat' (first | exact contLe_nil | refine contLe_cons (.inr ⟨?_, rfl⟩) ?_ | exact contLe_refl (n0 := n) (fun k hk => by first | rfl | (simp only [id]; done) | ((repeat rw [if_neg (by omega)]); done)) (by first | exact Nat.le_refl _ | omega | (simp only; omega)) (by assumption))); all_goals (first | rfl | (simp only [St.set, St.ev, upd, ren, renL, id, Nat.reduceEqDiff, reduceIte]; done) | ((try simp only [St.set, St.ev, upd, ren, renL, id, Nat.reduceEqDiff, reduceIte]); first | (with_reducible exact av_int (by omega)) | (with_reducible exact av_sl (by first | omega | (simp; done) | (simp; omega)) (by first | omega | (simp; done) | (simp; omega)))) | (simp only [St.set, St.ev, upd, ren, renL, id, Nat.reduceEqDiff, reduceIte, Int.natCast_add, Int.natCast_one, Int.cast_ofNat_Int, Int.natCast_zero]; done) | (simp only [St.set, St.ev, upd, ren, renL, id, Nat.reduceEqDiff, reduceIte]) | skip); done)) | (simp only [St.set, St.ev, upd, ren, renL, id, Nat.reduceEqDiff, reduceIte, ContLe]) | skip)))); (case' h1 => (focus ((repeat' (with_reducible first | exact TmpLe.bot | refine TmpLe.upd ?_ (by first | rfl | (simp only [AV.lt, decide_eq_true_eq]; first | done | omega)) ?_)); all_goals (first | rfl | (simp only [St.set, St.ev, upd, ren, renL, id, Nat.reduceEqDiff, reduceIte]; done) | ((try simp only [St.set, St.ev, upd, ren, renL, id, Nat.reduceEqDiff, reduceIte]); first | (with_reducible exact av_int (by omega)) | (with_reducible exact av_sl (by first | omega | (simp; done) | (simp; omega)) (by first | omega | (simp; done) | (simp; omega)))) | (simp only [St.set, St.ev, upd, ren, renL, id, Nat.reduceEqDiff, reduceIte, Int.natCast_add, Int.natCast_one, Int.cast_ofNat_Int, Int.natCast_zero]; done) | (simp only [St.set, St.ev, upd, ren, renL, id, Nat.reduceEqDiff, reduceIte]) | skip)))); (case h3 => (focus (first | (simp only [id, List.map_cons, List.map_nil]; decide) | decide | (simp; done) | (simp; omega) | fail))); (case h5 => (intro d hd; first | (simp at hd; done) | (simp only [List.mem_cons, List.not_mem_nil, or_false] at hd; first | (simp only [id]; omega) | (split <;> omega) | ((repeat' split) <;> omega) | ((try simp only); repeat' split; all_goals omega)))); (case h4 => (intro o l h; first | (cases h; done) | (have hlt0 := m0_lt (by assumption) h; (try (simp only at hlt0)); first | omega | (simp only; omega) | exact ⟨by (first | rfl | (simp only [id]; done) | ((repeat rw [if_neg (by omega)]); done)), by first | omega | (simp only; omega)⟩)))))); (focus (first | omega | (simp only; omega) | (simp only [List.length_take]; omega) | (simp; done) | (simp; omega))); ((repeat' (with_reducible apply And.intro)) <;> (first | omega | (simp only; omega) | assumption | rfl | (simp only))))
      · have e2 : chTo m (m + i) = chTo m (m + k - 1) := by
          rcases Nat.eq_zero_or_pos k with h0 | h0
          · rw [show m + i = m by omega, show m + k - 1 = m - 1 by omega, chTo_no]
          · congr 1; omega
        rw [← e2] at hQ
        simp only [upd2]
        exact hQ


theorem implChainFacts_sat : SatH Try.prog 31 (fun al h n K => ∃ (m k : Int), al = [.val (.int .i64 (m)), .val (.int .i64 (k))] ∧ (-9223372036854775808 ≤ m ∧ m ≤ 9223372036854775807 ∧ -9223372036854775808 ≤ k ∧ k ≤ 9223372036854775807) ∧ K (.sl n 0 (chL m k).length 2 none) (upd h n (some ⟨true, .ints .i64 (flF (chL m k))⟩)) (n + 1)) := by
  refine satH_intro tabOk Try.func31 rfl 37 rfl [.tmp 4] rfl ?_
  rintro F W h n al K0 ⟨m, k, rfl, hm, hQ⟩
  refine ⟨Nat.le_of_ble_eq_true rfl, fun m0 hm0 hcl hlt => ?_⟩
  simp only [initT]
  cases hv : chB m k with
  | false =>
    have hv2 := of_decide_eq_false hv
    have e0 : chL m k = [] := by rw [chL, hv]; rfl
    rw [e0] at hQ
    repeat' ((fail_if_success (with_reducible refine isRetQ ?_)); (first | refine awp_seq_k fun K hK => ?_ | ((with_reducible refine hK _ ?_); clear hK K) | ((with_reducible refine aord_plain fun K hK => ?_); simp only [go_sem, Nat.reduceAdd, Nat.reduceMul, Nat.reduceEqDiff, Nat.reduceLT, reduceIte, reduceCtorEq]) | ((with_reducible apply aord_guard); (focus (simp only [St.ev, St.set, upd, Nat.reduceEqDiff, reduceIte, ifA, ifB]; exact rfl)); all_goals (intro hb; (try simp only [Bool.not_true, Bool.not_false] at hb); first | (cases hb; done) | ((try rw [hb]); (try simp only [Bool.not_eq_true', Bool.not_eq_false', Bool.and_eq_true, dcA, dcB, dcC, dcD, dcE] at hb); (try (revert hb; with_reducible refine true_imp_iff.2 ?_)); first | (intro K hK; simp only [go_sem, Nat.reduceAdd, Nat.reduceMul, Nat.reduceEqDiff, Nat.reduceLT, reduceIte, reduceCtorEq]) | (simp only [St.ev, St.set, upd, Nat.reduceEqDiff, reduceIte, ifA, ifB]) | skip))) | refine awp_block ?_ | ((first | with_reducible refine aord_nil ?_ | refine awp_skip ?_ | refine awp_exit ?_ | refine awp_ret ?_); try simp only [rdA, Nat.reduceEqDiff, ifA, ifB, reduceIte]) | (refine awp_region tabOk rfl ?_; simp only [prep, pickO, lsA, lsB, lsC, lsD, lsE, lsF, lsG]) | ((with_reducible apply awp_cond); (focus (simp only [St.ev, St.set, upd, Nat.reduceEqDiff, reduceIte, ifA, ifB]; exact rfl)); all_goals (intro hb; first | (cases hb; done) | ((try rw [hb]); (try simp only [dcA, dcB, dcC, dcD, dcE, Bool.not_eq_true', Bool.not_eq_false'] at hb)))) | ((with_reducible refine And.intro ?_ ?_); (focus omega)) | (exfalso; omega) | fail))
    all_goals (
      refine awp_nilE 2 4 (.ints .i64 []) rfl rfl (by simp only [St.ev, St.set, upd, Nat.reduceEqDiff, reduceIte, ifA, ifB]) ?_
      simp only [St.ev, St.set, upd, Nat.reduceEqDiff, reduceIte, ifA, ifB])
    repeat' (first | ((first | with_reducible refine aord_nil ?_ | refine awp_skip ?_ | refine awp_exit ?_ | refine awp_ret ?_); try simp only [rdA, Nat.reduceEqDiff, ifA, ifB, reduceIte]) | (simp only [doneH]; simp only [ressK, resK, wrapR, go_sem, Nat.reduceAdd, Nat.reduceMul, Nat.reduceEqDiff, Nat.reduceLT, reduceIte, reduceCtorEq]) | fail)
    all_goals exact hQ
  | true =>
    have hv2 := of_decide_eq_true hv
    obtain ⟨m, rfl⟩ : ∃ j : Nat, m = j := ⟨m.toNat, by omega⟩
    obtain ⟨k, rfl⟩ : ∃ j : Nat, k = j := ⟨k.toNat, by omega⟩
    have e0 : chL m k = chTo m (m + k - 1) := by rw [chL, hv, if_pos rfl]; congr 1; omega
    rw [e0] at hQ
    repeat' (first | refine awp_seq_k fun K hK => ?_ | ((with_reducible refine hK _ ?_); clear hK K) | ((with_reducible refine aord_plain fun K hK => ?_); simp only [go_sem, Nat.reduceAdd, Nat.reduceMul, Nat.reduceEqDiff, Nat.reduceLT, reduceIte, reduceCtorEq]) | ((with_reducible apply aord_guard); (focus (simp only [St.ev, St.set, upd, Nat.reduceEqDiff, reduceIte, ifA, ifB]; exact rfl)); all_goals (intro hb; (try simp only [Bool.not_true, Bool.not_false] at hb); first | (cases hb; done) | ((try rw [hb]); (try simp only [Bool.not_eq_true', Bool.not_eq_false', Bool.and_eq_true, dcA, dcB, dcC, dcD, dcE] at hb); (try (revert hb; with_reducible refine true_imp_iff.2 ?_)); first | (intro K hK; simp only [go_sem, Nat.reduceAdd, Nat.reduceMul, Nat.reduceEqDiff, Nat.reduceLT, reduceIte, reduceCtorEq]) | (simp only [St.ev, St.set, upd, Nat.reduceEqDiff, reduceIte, ifA, ifB]) | skip))) | refine awp_block ?_ | ((first | with_reducible refine aord_nil ?_ | refine awp_skip ?_ | refine awp_exit ?_ | refine awp_ret ?_); try simp only [rdA, Nat.reduceEqDiff, ifA, ifB, reduceIte]) | (refine awp_region tabOk rfl ?_; simp only [prep, pickO, lsA, lsB, lsC, lsD, lsE, lsF, lsG]) | ((with_reducible apply awp_cond); (focus (simp only [St.ev, St.set, upd, Nat.reduceEqDiff, reduceIte, ifA, ifB]; exact rfl)); all_goals (intro hb; first | (cases hb; done) | ((try rw [hb]); (try simp only [dcA, dcB, dcC, dcD, dcE, Bool.not_eq_true', Bool.not_eq_false'] at hb)))) | ((with_reducible refine And.intro ?_ ?_); (focus omega)) | (simp only [doneH]; simp only [ressK, resK, wrapR, go_sem, Nat.reduceAdd, Nat.reduceMul, Nat.reduceEqDiff, Nat.reduceLT, reduceIte, reduceCtorEq]) | (exfalso; omega) | fail)
    refine awp_nilE 2 5 (.ints .i64 []) rfl rfl (by simp only [St.ev, St.set, upd, Nat.reduceEqDiff, reduceIte, ifA, ifB]) ?_
    simp only [St.ev, St.set, upd, Nat.reduceEqDiff, reduceIte, ifA, ifB]
    refine awp_loopE (α := Nat) (fun s p => ⟨(upd (upd (upd (upd bot 0 (s.tmps 0)) 1 (s.tmps 1)) 5 (.sl n 0 (chTo m p).length 2 none)) 6 (.val (.int .i64 (((p : Int) + 1))))), (upd s.heap n (some ⟨true, .ints .i64 ((flF (chTo m p)))⟩)), s.next⟩) _ (fun p => by simp only [St.ev, St.set, upd, Nat.reduceEqDiff, reduceIte, ifA, ifB]; exact rfl) (fun p => (p + 1 ≤ m + k ∨ p = 0)) (fun p => m + k - p) (0) ?_ ?_ ?_
    · (try simp only); (refine ?_ <;> (first | omega | (simp only; omega) | rfl | (simp; done) | skip))
    · (apply Wk.over (id) n; (case' h2 => (focus ((repeat' (first | (with_reducible exact HeapX.bot) | (exact HeapX.base (by first | exact hcl | assumption) (by first | exact Nat.le_refl _ | omega | (simp only; omega)) (fun k hk => by first | rfl | (simp only [id]; done) | ((repeat rw [if_neg (by omega)]); done)) (by intro u hu hlt'; first | rfl | (simp only [List.mem_cons, List.not_mem_nil, or_false, not_or] at hu; first | (simp [upd, hu]; done) | (simp only [upd]; (repeat rw [if_neg (by omega)]))))) | (with_reducible (apply HeapX.skip; (case hx => (simp; done)))) | (with_reducible apply HeapX.none) | (with_reducible apply HeapX.old (by first | assumption | omega) (by first | exact Nat.le_refl _ | omega | (simp only; omega)) (by first | rfl | (simp only [id]; done) | ((repeat rw [if_neg (by omega)]); done))) | (with_reducible apply HeapX.upd))); all_goals (first | rfl | omega | assumption | exact Nat.le_of_ble_eq_true rfl | (simp only; omega) | (simp only [St.set, St.ev, upd, ren, renL, id, Nat.reduceEqDiff, reduceIte]; rfl) | (simp only [St.set, St.ev, upd, ren, renL, id, Nat.reduceEqDiff, reduceIte, ContLe]; done) | (exact And.intro rfl (And.intro (by first | exact Nat.le_of_ble_eq_true rfl | omega) (by first | exact Nat.le_of_ble_eq_true rfl | omega))) | (first | (simp only [St.set, St.ev, upd, ren, renL, id, Nat.reduceEqDiff, reduceIte]; exact contLe_nil) | ((repeat' (first | exact contLe_nil | refine contLe_cons (.inr ⟨?_, rfl⟩) ?_ | exact contLe_refl (n0 := n) (fun k hk => by first | rfl | (simp only [id]; done) | ((repeat rw [if_neg (by omega)]); done)) (by first | exact Nat.le_refl _ | omega | (simp only; omega)) (by assumption))); all_goals (first | rfl | (simp only [St.set, St.ev, upd, ren, renL, id, Nat.reduceEqDiff, reduceIte]; done) | ((try simp only [St.set, St.ev, upd, ren, renL, id, Nat.reduceEqDiff, reduceIte]); first | (with_reducible exact av_int (by omega)) | (with_reducible exact av_sl (by first | omega | (simp; done) | (simp; omega)) (by first | omega | (simp; done) | (simp; omega)))) | (simp only [St.set, St.ev, upd, ren, renL, id, Nat.reduceEqDiff, reduceIte, Int.natCast_add, Int.natCast_one, Int.cast_ofNat_Int, Int.natCast_zero]; done) | (simp only [St.set, St.ev, upd, ren, renL, id, Nat.reduceEqDiff, reduceIte]) | skip); done)) | (simp only [St.set, St.ev, upd, ren, renL, id, Nat.reduceEqDiff, reduceIte, ContLe]) | skip)))); (case' h1 => (focus ((repeat' (with_reducible first | exact TmpLe.bot | refine TmpLe.upd ?_ (by first | rfl | (simp only [AV.lt, decide_eq_true_eq]; first | done | omega)) ?_)); all_goals (first | rfl | (simp only [St.set, St.ev, upd, ren, renL, id, Nat.reduceEqDiff, reduceIte]; done) | ((try simp only [St.set, St.ev, upd, ren, renL, id, Nat.reduceEqDiff, reduceIte]); first | (with_reducible exact av_int (by omega)) | (with_reducible exact av_sl (by first | omega | (simp; done) | (simp; omega)) (by first | omega | (simp; done) | (simp; omega)))) | (simp only [St.set, St.ev, upd, ren, renL, id, Nat.reduceEqDiff, reduceIte, Int.natCast_add, Int.natCast_one, Int.cast_ofNat_Int, Int.natCast_zero]; done) | (simp only [St.set, St.ev, upd, ren, renL, id, Nat.reduceEqDiff, reduceIte]) | skip)))); (case h3 => (focus (first | (simp only [id, List.map_cons, List.map_nil]; decide) | decide | (simp; done) | (simp; omega) | fail))); (case h5 => (intro d hd; first | (simp at hd; done) | (simp only [List.mem_cons, List.not_mem_nil, or_false] at hd; first | (simp only [id]; omega) | (split <;> omega) | ((repeat' split) <;> omega) | ((try simp only); repeat' split; all_goals omega)))); (case h4 => (intro o l h; first | (cases h; done) | (have hlt0 := m0_lt (by assumption) h; (try (simp only at hlt0)); first | omega | (simp only; omega) | exact ⟨by (first | rfl | (simp only [id]; done) | ((repeat rw [if_neg (by omega)]); done)), by first | omega | (simp only; omega)⟩))))
    rintro j hj
    try simp only at hj
    have hcl2 := chTo_len m j
    have hfl := flF_len (chTo m j)
    have hgo := fun h : j + 1 ≠ m => ch_go h
    repeat' (first | refine awp_seq_k fun K hK => ?_ | ((with_reducible refine hK _ ?_); clear hK K) | (clear hK K; (with_reducible refine hK _ ?_); clear hK K) | ((with_reducible refine aord_plain fun K hK => ?_); simp only [go_sem, Nat.reduceAdd, Nat.reduceMul, Nat.reduceEqDiff, Nat.reduceLT, reduceIte, reduceCtorEq]) | refine awp_block ?_ | ((first | with_reducible refine aord_nil ?_ | refine awp_skip ?_ | refine awp_exit ?_ | refine awp_ret ?_); try simp only [rdA, Nat.reduceEqDiff, ifA, ifB, reduceIte]) | (refine awp_region tabOk rfl ?_; simp only [prep, pickO, lsA, lsB, lsC, lsD, lsE, lsF, lsG]) | ((with_reducible apply awp_cond); (focus (simp only [St.ev, St.set, upd, Nat.reduceEqDiff, reduceIte, ifA, ifB]; exact rfl)); all_goals (intro hb; first | (cases hb; done) | ((try rw [hb]); (try simp only [dcA, dcB, dcC, dcD, dcE, Bool.not_eq_true', Bool.not_eq_false'] at hb)))) | ((with_reducible refine And.intro ?_ ?_); (focus omega)) | (simp only [rBuild]; simp only [fillA, Nat.reduceLeDiff, List.getElem?_cons_zero, List.getElem?_cons_succ, List.drop_succ_cons, List.drop_nil, List.take_nil, List.cons_append, Option.isSome_some, go_sem, Nat.reduceAdd, Nat.reduceMul, Nat.reduceEqDiff, Nat.reduceLT, reduceIte, reduceCtorEq]) | (simp only [doneH]; simp only [ressK, resK, wrapR, go_sem, Nat.reduceAdd, Nat.reduceMul, Nat.reduceEqDiff, Nat.reduceLT, reduceIte, reduceCtorEq]) | fail)
    · refine ⟨_, _, ⟨rfl, rfl⟩, Nat.le_of_ble_eq_true rfl, ?_⟩
      (try dsimp only)
      repeat' (first | ((with_reducible refine hK _ ?_); clear hK K) | ((with_reducible refine aord_plain fun K hK => ?_); simp only [go_sem, Nat.reduceAdd, Nat.reduceMul, Nat.reduceEqDiff, Nat.reduceLT, reduceIte, reduceCtorEq]) | fail)
      refine aAppendE_ints rfl rfl rfl rfl (Nat.le_of_ble_eq_true rfl) (by decide) (by decide) (by (try dsimp only); (repeat (first | rw [upd_same] | rw [upd_ne _ _ (by omega)]))) (by (try dsimp only); (repeat (first | rw [upd_same] | rw [upd_ne _ _ (by omega)]))) hfl rfl (by decide) (by omega) ?_
      obtain ⟨g1, g2⟩ := hgo (by omega)
      rw [g1, ← g2]
      repeat' (first | ((with_reducible refine hK _ ?_); clear hK K) | ((with_reducible refine aord_plain fun K hK => ?_); simp only [go_sem, Nat.reduceAdd, Nat.reduceMul, Nat.reduceEqDiff, Nat.reduceLT, reduceIte, reduceCtorEq]) | ((first | with_reducible refine aord_nil ?_ | refine awp_skip ?_ | refine awp_exit ?_ | refine awp_ret ?_); try simp only [rdA, Nat.reduceEqDiff, ifA, ifB, reduceIte]) | (refine awp_region tabOk rfl ?_; simp only [prep, pickO, lsA, lsB, lsC, lsD, lsE, lsF, lsG]) | ((with_reducible refine And.intro ?_ ?_); (focus omega)) | fail)
      ((refine Exists.intro (j + 1) ?_); (refine nxt ?_ ?_ ?_); (focus ((apply Wk.over (fun o => if o = n then n+2 else o) n; (case' h2 => (focus ((repeat' (first | (with_reducible exact HeapX.bot) | (exact HeapX.base (by first | exact hcl | assumption) (by first | exact Nat.le_refl _ | omega | (simp only; omega)) (fun k hk => by first | rfl | (simp only [id]; done) | ((repeat rw [if_neg (by omega)]); done)) (by intro u hu hlt'; first | rfl | (simp only [List.mem_cons, List.not_mem_nil, or_false, not_or] at hu; first | (simp [upd, hu]; done) | (simp only [upd]; (repeat rw [if_neg (by omega)]))))) | (with_reducible (apply HeapX.skip; (case hx => (simp; done)))) | (with_reducible apply HeapX.none) | (with_reducible apply HeapX.old (by first | assumption | omega) (by first | exact Nat.le_refl _ | omega | (simp only; omega)) (by first | rfl | (simp only [id]; done) | ((repeat rw [if_neg (by omega)]); done))) | (with_reducible apply HeapX.upd))); all_goals (first | rfl | omega | assumption | exact Nat.le_of_ble_eq_true rfl | (simp only; omega) | (simp only [St.set, St.ev, upd, ren, renL, id, Nat.reduceEqDiff, reduceIte]; rfl) | (simp only [St.set, St.ev, upd, ren, renL, id, Nat.reduceEqDiff, reduceIte, ContLe]; done) | (exact And.intro rfl (And.intro (by first | exact Nat.le_of_ble_eq_true rfl | omega) (by first | exact Nat.le_of_ble_eq_true rfl | omega))) | (first | (simp only [St.set, St.ev, upd, ren, renL, id, Nat.reduceEqDiff, reduceIte]; exact contLe_nil) | ((repeat' (first | exact contLe_nil | refine contLe_cons (.inr ⟨?_, rfl⟩) ?_ | exact contLe_refl (n0 := n) (fun k hk => by first | rfl | (simp only [id]; done) | ((repeat rw [if_neg (by omega)]); done)) (by first | exact Nat.le_refl _ | omega | (simp only; omega)) (by assumption))); all_goals (first | rfl | (simp only [St.set, St.ev, upd, ren, renL, id, Nat.reduceEqDiff, reduceIte]; done) | ((try simp only [St.set, St.ev, upd, ren, renL, id, Nat.reduceEqDiff, reduceIte]); first | (with_reducible exact av_int (by omega)) | (with_reducible exact av_sl (by first | omega | (simp; done) | (simp; omega)) (by first | omega | (simp; done) | (simp; omega)))) | (simp only [St.set, St.ev, upd, ren, renL, id, Nat.reduceEqDiff, reduceIte, Int.natCast_add, Int.natCast_one, Int.cast_ofNat_Int, Int.natCast_zero]; done) | (simp only [St.set, St.ev, upd, ren, renL, id, Nat.reduceEqDiff, reduceIte]) | skip); done)) | (simp only [St.set, St.ev, upd, ren, renL, id, Nat.reduceEqDiff, reduceIte, ContLe]) | skip)))); (case' h1 => (focus ((repeat' (with_reducible first | exact TmpLe.bot | refine TmpLe.upd ?_ (by first | rfl | (simp only [AV.lt, decide_eq_true_eq]; first | done | omega)) ?_)); all_goals (first | rfl | (simp only [St.set, St.ev, upd, ren, renL, id, Nat.reduceEqDiff, reduceIte]; done) | ((try simp only [St.set, St.ev, upd, ren, renL, id, Nat.reduceEqDiff, reduceIte]); first | (with_reducible exact av_int (by omega)) | (with_reducible exact av_sl (by first | omega | (simp; done) | (simp; omega)) (by first | omega | (simp; done) | (simp; omega)))) | (simp only [St.set, St.ev, upd, ren, renL, id, Nat.reduceEqDiff, reduceIte, Int.natCast_add, Int.natCast_one, Int.cast_ofNat_Int, Int.natCast_zero]; done) | (simp only [St.set, St.ev, upd, ren, renL, id, Nat.reduceEqDiff, reduceIte]) | skip)))); (case h3 => (focus (first | (simp only [id, List.map_cons, List.map_nil]; decide) | decide | (simp; done) | (simp; omega) | fail))); (case h5 => (intro d hd; first | (simp at hd; done) | (simp only [List.mem_cons, List.not_mem_nil, or_false] at hd; first | (simp only [id]; omega) | (split <;> omega) | ((repeat' split) <;> omega) | ((try simp only); repeat' split; all_goals omega)))); (case h4 => (intro o l h; first | (cases h; done) | (have hlt0 := m0_lt (by assumption) h; (try (simp only at hlt0)); first | omega | (simp only; omega) | exact ⟨by (first | rfl | (simp only [id]; done) | ((repeat rw [if_neg (by omega)]); done)), by first | omega | (simp only; omega)⟩)))))); (focus (first | omega | (simp only; omega) | (simp only [List.length_take]; omega) | (simp; done) | (simp; omega))); ((repeat' (with_reducible apply And.intro)) <;> (first | omega | (simp only; omega) | assumption | rfl | (simp only))))
    · have g1 : chTo m (j + 1) = chTo m j := by rw [chTo, if_pos (by omega)]
      rw [← g1]
      ((refine Exists.intro (j + 1) ?_); (refine nxt ?_ ?_ ?_); (focus ((apply Wk.over (id) n; (case' h2 => (focus ((repeat' (first | (with_reducible exact HeapX.bot) | (exact HeapX.base (by first | exact hcl | assumption) (by first | exact Nat.le_refl _ | omega | (simp only; omega)) (fun k hk => by first | rfl | (simp only [id]; done) | ((repeat rw [if_neg (by omega)]); done)) (by intro u hu hlt'; first | rfl | (simp only [List.mem_cons, List.not_mem_nil, or_false, not_or] at hu; first | (simp [upd, hu]; done) | (simp only [upd]; (repeat rw [if_neg (by omega)]))))) | (with_reducible (apply HeapX.skip; (case hx => (simp; done)))) | (with_reducible apply HeapX.none) | (with_reducible apply HeapX.old (by first | assumption | omega) (by first | exact Nat.le_refl _ | omega | (simp only; omega)) (by first | rfl | (simp only [id]; done) | ((repeat rw [if_neg (by omega)]); done))) | (with_reducible apply HeapX.upd))); all_goals (first | rfl | omega | assumption | exact Nat.le_of_ble_eq_true rfl | (simp only; omega) | (simp only [St.set, St.ev, upd, ren, renL, id, Nat.reduceEqDiff, reduceIte]; rfl) | (simp only [St.set, St.ev, upd, ren, renL, id, Nat.reduceEqDiff, reduceIte, ContLe]; done) | (exact And.intro rfl (And.intro (by first | exact Nat.le_of_ble_eq_true rfl | omega) (by first | exact Nat.le_of_ble_eq_true rfl | omega))) | (first | (simp only [St.set, St.ev, upd, ren, renL, id, Nat.reduceEqDiff, reduceIte]; exact contLe_nil) | ((repeat' (first | exact contLe_nil | refine contLe_cons (.inr ⟨?_, rfl⟩) ?_ | exact contLe_refl (n0 := n) (fun k hk => by first | rfl | (simp only [id]; done) | ((repeat rw [if_neg (by omega)]); done)) (by first | exact Nat.le_refl _ | omega | (simp only; omega)) (by assumption))); all_goals (first | rfl | (simp only [St.set, St.ev, upd, ren, renL, id, Nat.reduceEqDiff, reduceIte]; done) | ((try simp only [St.set, St.ev, upd, ren, renL, id, Nat.reduceEqDiff, reduceIte]); first | (with_reducible exact av_int (by omega)) | (with_reducible exact av_sl (by first | omega | (simp; done) | (simp; omega)) (by first | omega | (simp; done) | (simp; omega)))) | (simp only [St.set, St.ev, upd, ren, renL, id, Nat.reduceEqDiff, reduceIte, Int.natCast_add, Int.natCast_one, Int.cast_ofNat_Int, Int.natCast_zero]; done) | (simp only [St.set, St.ev, upd, ren, renL, id, Nat.reduceEqDiff, reduceIte]) | skip); done)) | (simp only [St.set, St.ev, upd, ren, renL, id, Nat.reduceEqDiff, reduceIte, ContLe]) | skip)))); (case' h1 => (focus ((repeat' (with_reducible first | exact TmpLe.bot | refine TmpLe.upd ?_ (by first | rfl | (simp only [AV.lt, decide_eq_true_eq]; first | done | omega)) ?_)); all_goals (first | rfl | (simp only [St.set, St.ev, upd, ren, renL, id, Nat.reduceEqDiff, reduceIte]; done) | ((try simp only [St.set, St.ev, upd, ren, renL, id, Nat.reduceEqDiff, reduceIte]); first | (with_reducible exact av_int (by omega)) | (with_reducible exact av_sl (by first | omega | (simp; done) | (simp; omega)) (by first | omega | (simp; done) | (simp; omega)))) | (simp only [St.set, St.ev, upd, ren, renL, id, Nat.reduceEqDiff, reduceIte, Int.natCast_add, Int.natCast_one, Int.cast_ofNat_Int, Int.natCast_zero]; done) | (simp only [St.set, St.ev, upd, ren, renL, id, Nat.reduceEqDiff, reduceIte]) | skip)))); (case h3 => (focus (first | (simp only [id, List.map_cons, List.map_nil]; decide) | decide | (simp; done) | (simp; omega) | fail))); (case h5 => (intro d hd; first | (simp at hd; done) | (simp only [List.mem_cons, List.not_mem_nil, or_false] at hd; first | (simp only [id]; omega) | (split <;> omega) | ((repeat' split) <;> omega) | ((try simp only); repeat' split; all_goals omega)))); (case h4 => (intro o l h; first | (cases h; done) | (have hlt0 := m0_lt (by assumption) h; (try (simp only at hlt0)); first | omega | (simp only; omega) | exact ⟨by (first | rfl | (simp only [id]; done) | ((repeat rw [if_neg (by omega)]); done)), by first | omega | (simp only; omega)⟩)))))); (focus (first | omega | (simp only; omega) | (simp only [List.length_take]; omega) | (simp; done) | (simp; omega))); ((repeat' (with_reducible apply And.intro)) <;> (first | omega | (simp only; omega) | assumption | rfl | (simp only))))
    · rw [upd2]
      rw [show m + k - 1 = j by omega] at hQ
      exact hQ

/-- What is known by way of the first items (Warshall's way). -/
def wT (fs : List (Int × Int)) : Nat → Nat → Nat → Bool
  | 0, i, j => decide (((i : Int), (j : Int)) ∈ fs)
  | k + 1, i, j => wT fs k i j || (wT fs k i k && wT fs k k j)
/-- What follows from facts. -/
inductive Tc (fs : List (Int × Int)) : Int → Int → Prop
  | base {a b : Int} (h : (a, b) ∈ fs) : Tc fs a b
  | step {a b c : Int} (h : Tc fs a b) (g : Tc fs b c) : Tc fs a c
theorem wT_up {fs : List (Int × Int)} {k i j : Nat} : wT fs (k + 1) i j = true ↔ wT fs k i j = true ∨ (wT fs k i k = true ∧ wT fs k k j = true) := by
  simp [wT]
theorem wT_mono {fs : List (Int × Int)} {i j : Nat} : ∀ {k d : Nat}, wT fs k i j = true → wT fs (k + d) i j = true
  | _, 0, h => h
  | k, d + 1, h => wT_up.2 (.inl (wT_mono (k := k) (d := d) h))
theorem wT_row {fs : List (Int × Int)} {k i : Nat} : wT fs (k + 1) i k = wT fs k i k := by
  rw [wT]; cases wT fs k i k <;> simp
theorem wT_col {fs : List (Int × Int)} {k j : Nat} : wT fs (k + 1) k j = wT fs k k j := by
  rw [wT]; cases wT fs k k j <;> simp
theorem wT_sound {fs : List (Int × Int)} : ∀ {k i j : Nat}, wT fs k i j = true → Tc fs i j
  | 0, i, j, h => .base (by simpa [wT] using h)
  | k + 1, i, j, h => by
    rcases wT_up.1 h with h | ⟨h1, h2⟩
    · exact wT_sound h
    · exact .step (wT_sound h1) (wT_sound h2)
theorem wT_trans {fs : List (Int × Int)} : ∀ {k m i j : Nat}, m < k → wT fs k i m = true → wT fs k m j = true → wT fs k i j = true
  | k + 1, m, i, j, hm, h1, h2 => by
    rcases Nat.lt_or_ge m k with h | h
    · rcases wT_up.1 h1 with a | ⟨a1, a2⟩
      · rcases wT_up.1 h2 with b | ⟨b1, b2⟩
        · exact wT_up.2 (.inl (wT_trans h a b))
        · exact wT_up.2 (.inr ⟨wT_trans h a b1, b2⟩)
      · rcases wT_up.1 h2 with b | ⟨b1, b2⟩
        · exact wT_up.2 (.inr ⟨a1, wT_trans h a2 b⟩)
        · exact wT_up.2 (.inr ⟨a1, b2⟩)
    · have e : m = k := by omega
      subst e
      rw [wT_row] at h1
      rw [wT_col] at h2
      exact wT_up.2 (.inr ⟨h1, h2⟩)
/-- All items are among n. -/
def itemsIn (n : Nat) (fs : List (Int × Int)) : Prop := ∀ f, f ∈ fs → (0 ≤ f.1 ∧ f.1 < n) ∧ (0 ≤ f.2 ∧ f.2 < n)
theorem Tc_in {fs : List (Int × Int)} {n : Nat} (h : itemsIn n fs) : ∀ {a b : Int}, Tc fs a b → (0 ≤ a ∧ a < n) ∧ (0 ≤ b ∧ b < n) := by
  intro a b t
  induction t with
  | base t => exact h _ t
  | step _ _ h1 h2 => exact ⟨h1.1, h2.2⟩
theorem wT_all {fs : List (Int × Int)} {n : Nat} (h : itemsIn n fs) {a b : Int} (t : Tc fs a b) : wT fs n a.toNat b.toNat = true := by
  induction t with
  | @base x y t =>
    have hi : (0 ≤ x ∧ x < (n : Int)) ∧ (0 ≤ y ∧ y < (n : Int)) := h _ t
    have : wT fs (0 + n) x.toNat y.toNat = true := wT_mono (k := 0) (d := n) (by simp only [wT, decide_eq_true_eq]; rw [Int.toNat_of_nonneg hi.1.1, Int.toNat_of_nonneg hi.2.1]; exact t)
    rwa [Nat.zero_add] at this
  | step t1 t2 h1 h2 =>
    have := Tc_in h t1
    exact wT_trans (by omega) h1 h2
theorem wT_iff {fs : List (Int × Int)} {n : Nat} (h : itemsIn n fs) {i j : Nat} : wT fs n i j = true ↔ Tc fs i j := ⟨wT_sound, fun t => by have := wT_all h t; rwa [Int.toNat_natCast, Int.toNat_natCast] at this⟩
/-- A closed list of facts is all that follows. -/
theorem Tc_mem {fs kn : List (Int × Int)} (h1 : ∀ f, f ∈ fs → f ∈ kn) (h2 : ∀ f, f ∈ kn → Tc fs f.1 f.2) (h3 : ∀ f g, f ∈ kn → g ∈ kn → f.2 = g.1 → (f.1, g.2) ∈ kn) {a b : Int} : (a, b) ∈ kn ↔ Tc fs a b := by
  refine ⟨fun h => h2 _ h, fun t => ?_⟩
  induction t with
  | base t => exact h1 _ t
  | step _ _ g1 g2 => exact h3 _ _ g1 g2 rfl

theorem tsd {f g : Nat → AV} {t0 : Nat} {v : AV} (h : ∀ t, f t = .any ∨ f t = g t) (hv : v = g t0) : ∀ t, upd f t0 v t = .any ∨ upd f t0 v t = g t := fun t => by
  unfold upd
  split
  · rename_i e; subst e; exact .inr hv
  · exact h t
theorem tsd0 {g : Nat → AV} : ∀ t, bot t = .any ∨ bot t = g t := fun _ => .inl rfl
def mRow (n : Nat) (g : Nat → Bool) : List Bool := (List.range n).map g
theorem mRow_len {n : Nat} {g : Nat → Bool} : (mRow n g).length = n := by simp [mRow]
theorem mRow_get {n : Nat} {g : Nat → Bool} {j : Nat} (h : j < n) : (mRow n g).getD j false = g j := by
  simp [mRow, List.getD_eq_getElem?_getD, h]
theorem mRow_congr {n : Nat} {g g' : Nat → Bool} (h : ∀ j, j < n → g j = g' j) : mRow n g = mRow n g' := by
  unfold mRow
  exact List.map_congr_left fun j hj => h j (List.mem_range.1 hj)
theorem mRow_set {n : Nat} {g : Nat → Bool} {b : Nat} {v : Bool} : (mRow n g).set b v = mRow n (fun j => if j = b then v else g j) := by
  refine List.ext_getElem (by simp [mRow]) fun j h1 h2 => ?_
  simp only [mRow, List.getElem_set, List.getElem_map, List.getElem_range]
  by_cases e : b = j
  · rw [if_pos e, if_pos e.symm]
  · rw [if_neg e, if_neg (fun h => e h.symm)]
theorem mRow_false {n : Nat} : mRow n (fun _ => false) = List.replicate n false := by simp [mRow, List.map_const']
def mCell (f : Nat → Nat) (n k : Nat) : List AV := (List.range k).map fun i => .sl (f i) 0 n 1 none
theorem mCell_len {f : Nat → Nat} {n k : Nat} : (mCell f n k).length = k := by simp [mCell]
theorem mCell_get {f : Nat → Nat} {n k i : Nat} (h : i < k) : (mCell f n k)[i]? = some (.sl (f i) 0 n 1 none) := by simp [mCell, h]
theorem mCell_snoc {f : Nat → Nat} {n k m : Nat} : mCell f n k ++ [.sl m 0 n 1 none] = mCell (fun i => if i = k then m else f i) n (k + 1) := by
  unfold mCell
  rw [List.range_succ, List.map_append]
  congr 1
  · refine List.map_congr_left fun i hi => ?_
    have := List.mem_range.1 hi
    simp only [if_neg (Nat.ne_of_lt this)]
  · simp
/-- A table of truths in the heap: its rows are one's own. -/
structure MatOf (H : Hp) (N O : Nat) (f : Nat → Nat) (n k : Nat) (r : Nat → Nat → Bool) : Prop where
  out : H O = some ⟨true, .cells (mCell f n k)⟩
  outn : O < N
  row : ∀ i, i < k → H (f i) = some ⟨true, .bools (mRow n (r i))⟩
  lt : ∀ i, i < k → f i < N ∧ f i ≠ O
  inj : ∀ i j, i < k → j < k → f i = f j → i = j
theorem MatOf.congr {H : Hp} {N O : Nat} {f : Nat → Nat} {n k : Nat} {r r' : Nat → Nat → Bool} (h : MatOf H N O f n k r) (e : ∀ i j, i < k → j < n → r i j = r' i j) : MatOf H N O f n k r' :=
  ⟨h.out, h.outn, fun i hi => by rw [h.row i hi, mRow_congr (fun j hj => e i j hi hj)], h.lt, h.inj⟩
theorem MatOf.set {H : Hp} {N O : Nat} {f : Nat → Nat} {n k : Nat} {r : Nat → Nat → Bool} (h : MatOf H N O f n k r) {a b : Nat} (ha : a < k) {v : Bool} : MatOf (upd H (f a) (some ⟨true, .bools ((mRow n (r a)).set b v)⟩)) N O f n k (fun i j => if i = a ∧ j = b then v else r i j) := by
  refine ⟨by rw [upd_ne _ _ (Ne.symm (h.lt a ha).2)]; exact h.out, h.outn, fun i hi => ?_, h.lt, h.inj⟩
  by_cases e : i = a
  · subst e
    rw [upd_same, mRow_set]
    congr 3
    exact mRow_congr fun j _ => by by_cases e : j = b <;> simp [e]
  · rw [upd_ne _ _ (fun q => e (h.inj i a hi ha q)), h.row i hi]
    congr 3
    exact mRow_congr fun j _ => by simp [e]
theorem MatOf.push {H G : Hp} {N O O2 M m : Nat} {f : Nat → Nat} {n k : Nat} {r : Nat → Nat → Bool} (h : MatOf H N O f n k r) (hm : N ≤ m) (hmM : m < M) (hO2 : N ≤ O2) (hOM : O2 < M) (hne : m ≠ O2) (gO : G O2 = some ⟨true, .cells (mCell f n k ++ [.sl m 0 n 1 none])⟩) (gm : G m = some ⟨true, .bools (mRow n (r k))⟩) (gk : ∀ u, u < N → u ≠ O → G u = H u) : MatOf G M O2 (fun i => if i = k then m else f i) n (k + 1) r := by
  refine ⟨by rw [gO, mCell_snoc], hOM, fun i hi => ?_, fun i hi => ?_, fun i j hi hj e => ?_⟩
  · by_cases e : i = k
    · subst e; simp only [if_true]; exact gm
    · have := h.lt i (by omega)
      simp only [if_neg e]
      rw [gk _ this.1 this.2]; exact h.row i (by omega)
  · by_cases e : i = k
    · simp only [if_pos e]; exact ⟨hmM, hne⟩
    · have := h.lt i (by omega)
      simp only [if_neg e]; omega
  · by_cases e1 : i = k <;> by_cases e2 : j = k
    · omega
    · have := h.lt j (by omega)
      rw [if_pos e1, if_neg e2] at e; omega
    · have := h.lt i (by omega)
      rw [if_neg e1, if_pos e2] at e; omega
    · rw [if_neg e1, if_neg e2] at e; exact h.inj i j (by omega) (by omega) e


theorem specReach_sat : SatH Try.prog 46 (fun al h n K => ∃ (d A : Nat) (b : Bool) (fs : List (Int × Int)), al = [.val (.int .i64 (d)), .sl A 0 fs.length 2 none] ∧ (h A = some ⟨b, .ints .i64 (flF fs)⟩) ∧ (d ≤ 5) ∧ (fs.length ≤ 1000) ∧ (itemsIn d fs) ∧ ∀ (H : Hp) (N O : Nat) (f : Nat → Nat), MatOf H N O f d d (fun i j => wT fs d i j) → (∀ u, u < n → H u = h u) → n ≤ N → n ≤ O → K (.sl O 0 d 1 none) (H) (N)) := by
  refine satH_intro tabOk Try.func46 rfl 80 rfl [.tmp 4] rfl ?_
  rintro F W h n al K0 ⟨d, A, b, fs, rfl, hA, hd, hl, hi, hQ⟩
  refine ⟨Nat.le_of_ble_eq_true rfl, fun m0 hm0 hcl hlt => ?_⟩
  simp only [initT]
  have hAn := (hcl A _ hA).1
  have hfl := flF_len fs
  have a1 : (A = n) = False := eq_false (by omega)
  have a2 : (n = A) = False := eq_false (by omega)


  repeat' (first | refine awp_seq_k fun K hK => ?_ | ((with_reducible refine hK _ ?_); clear hK K) | ((with_reducible refine aord_plain fun K hK => ?_); simp only [go_sem, Nat.reduceAdd, Nat.reduceMul, Nat.reduceEqDiff, Nat.reduceLT, reduceIte, reduceCtorEq, hA, a1, a2, nmA, Nat.reduceAdd, ifA, ifB, hA]) | refine awp_block ?_ | ((first | with_reducible refine aord_nil ?_ | refine awp_skip ?_ | refine awp_exit ?_ | refine awp_ret ?_); try simp only [rdA, Nat.reduceEqDiff, ifA, ifB, reduceIte]) | (refine awp_region tabOk rfl ?_; simp only [prep, pickO, lsA, lsB, lsC, lsD, lsE, lsF, lsG]) | ((with_reducible refine And.intro ?_ ?_); (focus omega)) | fail)
  refine awp_loop (fun p : Hp × Nat × Nat × (Nat → Nat) × Nat => ⟨upd (upd (upd (upd bot 6 (.val (.int .i64 p.2.2.2.2))) 5 (.sl p.2.2.1 0 p.2.2.2.2 1 none)) 1 (.sl A 0 fs.length 2 none)) 0 (.val (.int .i64 d)), p.1, p.2.1⟩) (fun p => p.2.2.2.2 ≤ d ∧ (∀ u, u < n → p.1 u = h u) ∧ n ≤ p.2.1 ∧ n ≤ p.2.2.1 ∧ (∀ j, j < p.2.2.2.2 → n ≤ p.2.2.2.1 j) ∧ MatOf p.1 p.2.1 p.2.2.1 p.2.2.2.1 d p.2.2.2.2 (fun _ _ => false)) (fun p => d - p.2.2.2.2) (upd h n (some ⟨true, .cells []⟩), n + 1, n, fun _ => 0, 0) ⟨Nat.zero_le _, fun u hu => upd_ne _ _ (by omega), Nat.le_succ n, Nat.le_refl n, fun j (h : j < 0) => absurd h (Nat.not_lt_zero j), ⟨upd_same _ _ _, Nat.lt_succ_self _, fun j h => by simp at h, fun j h => by simp at h, fun i j h => by simp at h⟩⟩ ?_ ?_
  · exact Wk.sub (tsd (tsd (tsd (tsd tsd0 rfl) rfl) rfl) rfl) (fun _ _ h => h) rfl
  rintro ⟨H, N, O, f, i⟩ ⟨hid, hfr, hnN, hnO, hfn, hM⟩
  dsimp only at hid hfr hnN hnO hfn hM ⊢
  have HA := (hfr A hAn).trans hA
  have hO := hM.out
  have hOn := hM.outn
  have hml : (mCell f d i).length = i := mCell_len
  have m1 : (A = N) = False := eq_false (by omega)
  have m2 : ∀ k, (A = N + k) = False := fun k => eq_false (by omega)
  have m5 : (O = N) = False := eq_false (by omega)
  have m6 : ∀ k, (O = N + k) = False := fun k => eq_false (by omega)
  have m7 : (N = O) = False := eq_false (by omega)
  have m8 : ∀ k, (N + k = O) = False := fun k => eq_false (by omega)
  have m9 : (O = A) = False := eq_false (by omega)
  have ma : (A = O) = False := eq_false (by omega)
  have hNm := And.intro HA (And.intro hO (And.intro m1 (And.intro m2 (And.intro m5 (And.intro m6 (And.intro m7 (And.intro m8 (And.intro m9 ma))))))))
  rcases Nat.lt_or_ge i d with hlt | hge
  · skip


    repeat' (first | refine awp_seq_k fun K hK => ?_ | ((with_reducible refine hK _ ?_); clear hK K) | (clear hK K; (with_reducible refine hK _ ?_); clear hK K) | ((with_reducible refine aord_plain fun K hK => ?_); simp only [go_sem, Nat.reduceAdd, Nat.reduceMul, Nat.reduceEqDiff, Nat.reduceLT, reduceIte, reduceCtorEq, hNm, nmA, Nat.reduceAdd, ifA, ifB, hNm, hml]) | refine awp_block ?_ | ((first | with_reducible refine aord_nil ?_ | refine awp_skip ?_ | refine awp_exit ?_ | refine awp_ret ?_); try simp only [rdA, Nat.reduceEqDiff, ifA, ifB, reduceIte]) | (refine awp_region tabOk rfl ?_; simp only [prep, pickO, lsA, lsB, lsC, lsD, lsE, lsF, lsG]) | ((with_reducible apply awp_cond); (focus (simp only [St.ev, St.set, upd, Nat.reduceEqDiff, reduceIte, ifA, ifB, hNm, nmA, Nat.reduceAdd, ifA, ifB]; exact rfl)); all_goals (intro hb; first | (cases hb; done) | ((try rw [hb]); (try simp only [dcA, dcB, dcC, dcD, dcE, Bool.not_eq_true', Bool.not_eq_false'] at hb)))) | ((with_reducible refine And.intro ?_ ?_); (focus omega)) | (exfalso; omega) | fail)
    refine aAppendE_cells rfl rfl rfl rfl (Nat.le_of_ble_eq_true rfl) (by decide) (by decide) (by (try dsimp only); (repeat (first | rw [upd_same] | rw [upd_ne _ _ (by omega)]))) (by (try dsimp only); (repeat (first | rw [upd_same] | rw [upd_ne _ _ (by omega)])); exact hO) (by rw [hml, Nat.mul_one]) rfl (by decide) (by omega) ?_
    repeat' (first | ((with_reducible refine hK _ ?_); clear hK K) | ((with_reducible refine aord_plain fun K hK => ?_); simp only [go_sem, Nat.reduceAdd, Nat.reduceMul, Nat.reduceEqDiff, Nat.reduceLT, reduceIte, reduceCtorEq, hNm, nmA, Nat.reduceAdd, ifA, ifB, hNm, hml]) | ((first | with_reducible refine aord_nil ?_ | refine awp_skip ?_ | refine awp_exit ?_ | refine awp_ret ?_); try simp only [rdA, Nat.reduceEqDiff, ifA, ifB, reduceIte]) | (refine awp_region tabOk rfl ?_; simp only [prep, pickO, lsA, lsB, lsC, lsD, lsE, lsF, lsG]) | ((with_reducible refine And.intro ?_ ?_); (focus omega)) | fail)
    refine ⟨((upd (upd (upd (upd H N (some ⟨true, .bools (List.replicate d false)⟩)) (N + 1) (some ⟨true, .cells [.sl N 0 d 1 none]⟩)) O none) (N + 2) (some ⟨true, .cells (mCell f d i ++ [.sl N 0 d 1 none])⟩)), N + 3, N + 2, (fun j => if j = i then N else f j), i + 1), ⟨by dsimp only; omega, fun u hu => ?_, by dsimp only; omega, by dsimp only; omega, fun j hj => ?_, ?_⟩, by dsimp only; omega, Wk.sub (tsd (tsd (tsd (tsd tsd0 rfl) rfl) rfl) rfl) (fun _ _ h => h) rfl⟩
    · (try dsimp only); (repeat (first | rw [upd_same] | rw [upd_ne _ _ (by omega)])); exact hfr u hu
    · dsimp only at hj ⊢
      split
      · omega
      · exact hfn j (by omega)
    · dsimp only
      refine hM.push (Nat.le_refl _) (by omega) (by omega) (by omega) (by omega) ?_ ?_ (fun u h1 h2 => ?_)
      · (try dsimp only); (repeat (first | rw [upd_same] | rw [upd_ne _ _ (by omega)]))
      · (try dsimp only); (repeat (first | rw [upd_same] | rw [upd_ne _ _ (by omega)])); rw [mRow_false]
      · (try dsimp only); (repeat (first | rw [upd_same] | rw [upd_ne _ _ (by omega)]))
  · skip
    have hid2 : d = i := by omega
    subst hid2


    repeat' (first | refine awp_seq_k fun K hK => ?_ | ((with_reducible refine hK _ ?_); clear hK K) | (clear hK K; (with_reducible refine hK _ ?_); clear hK K) | ((with_reducible refine aord_plain fun K hK => ?_); simp only [go_sem, Nat.reduceAdd, Nat.reduceMul, Nat.reduceEqDiff, Nat.reduceLT, reduceIte, reduceCtorEq, hNm, nmA, Nat.reduceAdd, ifA, ifB, hNm, hml]) | refine awp_block ?_ | ((first | with_reducible refine aord_nil ?_ | refine awp_skip ?_ | refine awp_exit ?_ | refine awp_ret ?_); try simp only [rdA, Nat.reduceEqDiff, ifA, ifB, reduceIte]) | (refine awp_region tabOk rfl ?_; simp only [prep, pickO, lsA, lsB, lsC, lsD, lsE, lsF, lsG]) | ((with_reducible apply awp_cond); (focus (simp only [St.ev, St.set, upd, Nat.reduceEqDiff, reduceIte, ifA, ifB, hNm, nmA, Nat.reduceAdd, ifA, ifB]; exact rfl)); all_goals (intro hb; first | (cases hb; done) | ((try rw [hb]); (try simp only [dcA, dcB, dcC, dcD, dcE, Bool.not_eq_true', Bool.not_eq_false'] at hb)))) | ((with_reducible refine And.intro ?_ ?_); (focus omega)) | (exfalso; omega) | fail)
    clear hNm hO HA hml
    refine awp_loop (fun p : Hp × Nat => ⟨upd (upd (upd (upd bot 7 (.val (.int .i64 p.2))) 5 (.sl O 0 d 1 none)) 1 (.sl A 0 fs.length 2 none)) 0 (.val (.int .i64 d)), p.1, N⟩) (fun p => p.2 ≤ fs.length ∧ (∀ u, u < n → p.1 u = h u) ∧ MatOf p.1 N O f d d (fun a b => decide (((a : Int), (b : Int)) ∈ fs.take p.2))) (fun p => fs.length - p.2) (H, 0) ⟨Nat.zero_le _, hfr, hM.congr fun a b _ _ => by simp⟩ ?_ ?_
    · exact Wk.sub (tsd (tsd (tsd (tsd tsd0 rfl) rfl) rfl) rfl) (fun _ _ h => h) rfl
    clear hM hfr
    rintro ⟨H, j⟩ ⟨hj, hfr, hM⟩
    dsimp only at hj hfr hM ⊢
    have HA := (hfr A hAn).trans hA
    have hO := hM.out
    have hml : (mCell f d d).length = d := mCell_len
    rcases Nat.lt_or_ge j fs.length with hlt | hge
    · have hmem : fs.getD j (0, 0) ∈ fs := by rw [List.getD_eq_getElem?_getD, List.getElem?_eq_getElem hlt]; exact List.getElem_mem hlt
      obtain ⟨⟨w1, w2⟩, w3, w4⟩ := hi _ hmem
      obtain ⟨g1, g2⟩ := flF_get hlt
      obtain ⟨x, hx⟩ : ∃ x : Nat, (fs.getD j (0, 0)).1 = x := ⟨_, (Int.toNat_of_nonneg w1).symm⟩
      obtain ⟨y, hy⟩ : ∃ y : Nat, (fs.getD j (0, 0)).2 = y := ⟨_, (Int.toNat_of_nonneg w3).symm⟩
      rw [hx] at g1 w2
      rw [hy] at g2 w4
      have hc := mCell_get (f := f) (n := d) (show x < d by omega)
      have hrow := hM.row x (by omega)
      have hrl : (mRow d (fun b => decide (((x : Int), (b : Int)) ∈ fs.take j))).length = d := mRow_len
      have htk : fs.take (j + 1) = fs.take j ++ [((x : Int), (y : Int))] := by
        rw [List.take_succ_eq_append_getElem hlt]
        congr 2
        rw [List.getD_eq_getElem?_getD, List.getElem?_eq_getElem hlt] at hx hy
        exact Prod.ext hx hy
      have hset := hM.set (a := x) (b := y) (v := true) (by omega)
      have hfx := hfn x (by omega)
      generalize hR : f x = R at *
      have hNm := And.intro HA (And.intro hO hrow)


      repeat' (first | refine awp_seq_k fun K hK => ?_ | ((with_reducible refine hK _ ?_); clear hK K) | (clear hK K; (with_reducible refine hK _ ?_); clear hK K) | ((with_reducible refine aord_plain fun K hK => ?_); simp only [go_sem, Nat.reduceAdd, Nat.reduceMul, Nat.reduceEqDiff, Nat.reduceLT, reduceIte, reduceCtorEq, hNm, nmA, Nat.reduceAdd, ifA, ifB, hNm, hml, hc, g1, g2, hrl, Int.toNat_natCast]) | refine awp_block ?_ | ((first | with_reducible refine aord_nil ?_ | refine awp_skip ?_ | refine awp_exit ?_ | refine awp_ret ?_); try simp only [rdA, Nat.reduceEqDiff, ifA, ifB, reduceIte]) | (refine awp_region tabOk rfl ?_; simp only [prep, pickO, lsA, lsB, lsC, lsD, lsE, lsF, lsG]) | (refine awp_region_draw (nt := 80) (id := 9) tabOk [(0, true, false), (1, true, false), (2, true, false), (3, true, false), (4, true, false), (5, true, false), (6, true, false), (7, true, false), (8, true, false), (9, true, false), (10, true, false), (11, true, false), (12, true, false), (13, true, false), (14, false, false)] (by kernel_rfl) rfl (by kernel_rfl) ?_; simp only [prep, pickO, lsA, lsB, lsC, lsD, lsE, lsF, lsG]) | ((with_reducible apply awp_cond); (focus (simp only [St.ev, St.set, upd, Nat.reduceEqDiff, reduceIte, ifA, ifB, hNm, nmA, Nat.reduceAdd, ifA, ifB]; exact rfl)); all_goals (intro hb; first | (cases hb; done) | ((try rw [hb]); (try simp only [dcA, dcB, dcC, dcD, dcE, Bool.not_eq_true', Bool.not_eq_false'] at hb)))) | ((with_reducible refine And.intro ?_ ?_); (focus omega)) | (exfalso; omega) | fail)
      refine ⟨(upd H R (some ⟨true, .bools ((mRow d fun b => decide (((x : Int), (b : Int)) ∈ fs.take j)).set y true)⟩), j + 1), ⟨by dsimp only; omega, fun u hu => by dsimp only; rw [upd_ne _ _ (by omega)]; exact hfr u hu, ?_⟩, by dsimp only; omega, Wk.sub (tsd (tsd (tsd (tsd tsd0 rfl) rfl) rfl) rfl) (fun _ _ h => h) rfl⟩
      dsimp only
      refine hset.congr fun a b _ _ => ?_
      rw [htk]
      by_cases e : a = x ∧ b = y
      · rw [if_pos e, e.1, e.2]; simp
      · rw [if_neg e]
        refine decide_eq_decide.2 ?_
        rw [List.mem_append, List.mem_singleton, Prod.mk.injEq]
        exact ⟨Or.inl, fun h => h.elim id fun h => absurd ⟨by omega, by omega⟩ e⟩
    · have hjl : fs.take j = fs := List.take_of_length_le (by omega)
      rw [hjl] at hM
      clear hO HA hml


      repeat' (first | refine awp_seq_k fun K hK => ?_ | ((with_reducible refine hK _ ?_); clear hK K) | (clear hK K; (with_reducible refine hK _ ?_); clear hK K) | ((with_reducible refine aord_plain fun K hK => ?_); simp only [go_sem, Nat.reduceAdd, Nat.reduceMul, Nat.reduceEqDiff, Nat.reduceLT, reduceIte, reduceCtorEq]) | refine awp_block ?_ | ((first | with_reducible refine aord_nil ?_ | refine awp_skip ?_ | refine awp_exit ?_ | refine awp_ret ?_); try simp only [rdA, Nat.reduceEqDiff, ifA, ifB, reduceIte]) | (refine awp_region tabOk rfl ?_; simp only [prep, pickO, lsA, lsB, lsC, lsD, lsE, lsF, lsG]) | (refine awp_region_draw (nt := 80) (id := 9) tabOk [(0, true, false), (1, true, false), (2, true, false), (3, true, false), (4, true, false), (5, true, false), (6, true, false), (7, true, false), (8, true, false), (9, true, false), (10, true, false), (11, true, false), (12, true, false), (13, true, false), (14, false, false)] (by kernel_rfl) rfl (by kernel_rfl) ?_; simp only [prep, pickO, lsA, lsB, lsC, lsD, lsE, lsF, lsG]) | ((with_reducible apply awp_cond); (focus (simp only [St.ev, St.set, upd, Nat.reduceEqDiff, reduceIte, ifA, ifB]; exact rfl)); all_goals (intro hb; first | (cases hb; done) | ((try rw [hb]); (try simp only [dcA, dcB, dcC, dcD, dcE, Bool.not_eq_true', Bool.not_eq_false'] at hb)))) | ((with_reducible refine And.intro ?_ ?_); (focus omega)) | (exfalso; omega) | fail)
      refine awp_loop (fun p : Hp × Nat => ⟨upd (upd (upd bot 8 (.val (.int .i64 p.2))) 5 (.sl O 0 d 1 none)) 0 (.val (.int .i64 d)), p.1, N⟩) (fun p => p.2 ≤ d ∧ (∀ u, u < n → p.1 u = h u) ∧ MatOf p.1 N O f d d (fun a b => wT fs p.2 a b)) (fun p => d - p.2) (H, 0) ⟨Nat.zero_le _, hfr, hM.congr fun a b _ _ => rfl⟩ ?_ ?_
      · exact Wk.sub (tsd (tsd (tsd tsd0 rfl) rfl) rfl) (fun _ _ h => h) rfl
      clear hM hfr
      rintro ⟨H, k⟩ ⟨hk, hfr, hM⟩
      dsimp only at hk hfr hM ⊢
      rcases Nat.lt_or_ge k d with hkd | hkd
      · repeat' (first | refine awp_seq_k fun K hK => ?_ | ((with_reducible refine hK _ ?_); clear hK K) | (clear hK K; (with_reducible refine hK _ ?_); clear hK K) | ((with_reducible refine aord_plain fun K hK => ?_); simp only [go_sem, Nat.reduceAdd, Nat.reduceMul, Nat.reduceEqDiff, Nat.reduceLT, reduceIte, reduceCtorEq]) | refine awp_block ?_ | ((first | with_reducible refine aord_nil ?_ | refine awp_skip ?_ | refine awp_exit ?_ | refine awp_ret ?_); try simp only [rdA, Nat.reduceEqDiff, ifA, ifB, reduceIte]) | (refine awp_region tabOk rfl ?_; simp only [prep, pickO, lsA, lsB, lsC, lsD, lsE, lsF, lsG]) | ((with_reducible apply awp_cond); (focus (simp only [St.ev, St.set, upd, Nat.reduceEqDiff, reduceIte, ifA, ifB]; exact rfl)); all_goals (intro hb; first | (cases hb; done) | ((try rw [hb]); (try simp only [dcA, dcB, dcC, dcD, dcE, Bool.not_eq_true', Bool.not_eq_false'] at hb)))) | (simp only [doneH]; simp only [ressK, resK, wrapR, go_sem, Nat.reduceAdd, Nat.reduceMul, Nat.reduceEqDiff, Nat.reduceLT, reduceIte, reduceCtorEq]) | (exfalso; omega) | fail)
        refine awp_loop (fun p : Hp × Nat => ⟨upd (upd (upd (upd bot 9 (.val (.int .i64 p.2))) 8 (.val (.int .i64 k))) 5 (.sl O 0 d 1 none)) 0 (.val (.int .i64 d)), p.1, N⟩) (fun p => p.2 ≤ d ∧ (∀ u, u < n → p.1 u = h u) ∧ MatOf p.1 N O f d d (fun a b => if a < p.2 then wT fs (k + 1) a b else wT fs k a b)) (fun p => d - p.2) (H, 0) ⟨Nat.zero_le _, hfr, hM.congr fun a b _ _ => rfl⟩ ?_ ?_
        · exact Wk.sub (tsd (tsd (tsd (tsd tsd0 rfl) rfl) rfl) rfl) (fun _ _ h => h) rfl
        clear hM hfr
        rintro ⟨H, i⟩ ⟨hid, hfr, hM⟩
        dsimp only at hid hfr hM ⊢
        rcases Nat.lt_or_ge i d with hlt | hge
        · repeat' (first | refine awp_seq_k fun K hK => ?_ | ((with_reducible refine hK _ ?_); clear hK K) | (clear hK K; (with_reducible refine hK _ ?_); clear hK K) | ((with_reducible refine aord_plain fun K hK => ?_); simp only [go_sem, Nat.reduceAdd, Nat.reduceMul, Nat.reduceEqDiff, Nat.reduceLT, reduceIte, reduceCtorEq]) | refine awp_block ?_ | ((first | with_reducible refine aord_nil ?_ | refine awp_skip ?_ | refine awp_exit ?_ | refine awp_ret ?_); try simp only [rdA, Nat.reduceEqDiff, ifA, ifB, reduceIte]) | (refine awp_region tabOk rfl ?_; simp only [prep, pickO, lsA, lsB, lsC, lsD, lsE, lsF, lsG]) | ((with_reducible apply awp_cond); (focus (simp only [St.ev, St.set, upd, Nat.reduceEqDiff, reduceIte, ifA, ifB]; exact rfl)); all_goals (intro hb; first | (cases hb; done) | ((try rw [hb]); (try simp only [dcA, dcB, dcC, dcD, dcE, Bool.not_eq_true', Bool.not_eq_false'] at hb)))) | ((with_reducible refine And.intro ?_ ?_); (focus omega)) | (exfalso; omega) | fail)
          refine awp_loop (fun p : Hp × Nat => ⟨upd (upd (upd (upd (upd bot 10 (.val (.int .i64 p.2))) 9 (.val (.int .i64 i))) 8 (.val (.int .i64 k))) 5 (.sl O 0 d 1 none)) 0 (.val (.int .i64 d)), p.1, N⟩) (fun p => p.2 ≤ d ∧ (∀ u, u < n → p.1 u = h u) ∧ MatOf p.1 N O f d d (fun a b => if a < i ∨ (a = i ∧ b < p.2) then wT fs (k + 1) a b else wT fs k a b)) (fun p => d - p.2) (H, 0) ⟨Nat.zero_le _, hfr, hM.congr fun a b _ _ => by simp⟩ ?_ ?_
          · exact Wk.sub (tsd (tsd (tsd (tsd (tsd tsd0 rfl) rfl) rfl) rfl) rfl) (fun _ _ h => h) rfl
          clear hM hfr
          rintro ⟨H, j⟩ ⟨hj, hfr, hM⟩
          dsimp only at hj hfr hM ⊢
          rcases Nat.lt_or_ge j d with hjd | hjd
          · have hO := hM.out
            have hml : (mCell f d d).length = d := mCell_len
            have hci := mCell_get (f := f) (n := d) hlt
            have hck := mCell_get (f := f) (n := d) hkd
            have hri := hM.row i hlt
            have hrk := hM.row k hkd
            have hli : (mRow d (fun b => if i < i ∨ (i = i ∧ b < j) then wT fs (k + 1) i b else wT fs k i b)).length = d := mRow_len
            have hlk : (mRow d (fun b => if k < i ∨ (k = i ∧ b < j) then wT fs (k + 1) k b else wT fs k k b)).length = d := mRow_len
            have hgi : (mRow d (fun b => if i < i ∨ (i = i ∧ b < j) then wT fs (k + 1) i b else wT fs k i b)).getD k false = wT fs k i k := by
              rw [mRow_get hkd]
              split
              · exact wT_row
              · rfl
            have hgk : (mRow d (fun b => if k < i ∨ (k = i ∧ b < j) then wT fs (k + 1) k b else wT fs k k b)).getD j false = wT fs k k j := by
              rw [mRow_get hjd]
              split
              · exact wT_col
              · rfl
            have hset := hM.set (a := i) (b := j) (v := true) hlt
            have hfx := hfn i hlt
            generalize hgi0 : mRow d (fun b => if i < i ∨ (i = i ∧ b < j) then wT fs (k + 1) i b else wT fs k i b) = ri at *
            generalize hgk0 : mRow d (fun b => if k < i ∨ (k = i ∧ b < j) then wT fs (k + 1) k b else wT fs k k b) = rk at *
            have hNm := And.intro hO (And.intro hri hrk)
            have hgo : ∀ (c : Bool), (wT fs k i k && wT fs k k j) = c → wT fs (k + 1) i j = (wT fs k i j || c) := fun c h => by rw [wT, h]


            repeat' (first | refine awp_seq_k fun K hK => ?_ | ((with_reducible refine hK _ ?_); clear hK K) | (clear hK K; (with_reducible refine hK _ ?_); clear hK K) | ((with_reducible refine aord_plain fun K hK => ?_); simp only [go_sem, Nat.reduceAdd, Nat.reduceMul, Nat.reduceEqDiff, Nat.reduceLT, reduceIte, reduceCtorEq, hNm, hml, hci, hck, hgi, hgk, hli, hlk, nmA, Nat.reduceAdd, ifA, ifB, hNm, hml, hci, hck, hgi, hgk, hli, hlk]) | ((with_reducible apply aord_guard); (focus (simp only [St.ev, St.set, upd, Nat.reduceEqDiff, reduceIte, ifA, ifB, hNm, hml, hci, hck, hgi, hgk, hli, hlk, nmA, Nat.reduceAdd, ifA, ifB]; exact rfl)); all_goals (intro hb; (try simp only [Bool.not_true, Bool.not_false] at hb); first | (cases hb; done) | ((try rw [hb]); (try simp only [Bool.not_eq_true', Bool.not_eq_false', Bool.and_eq_true, dcA, dcB, dcC, dcD, dcE] at hb); (try (revert hb; with_reducible refine true_imp_iff.2 ?_)); first | (intro K hK; simp only [go_sem, Nat.reduceAdd, Nat.reduceMul, Nat.reduceEqDiff, Nat.reduceLT, reduceIte, reduceCtorEq, hNm, hml, hci, hck, hgi, hgk, hli, hlk, nmA, Nat.reduceAdd, ifA, ifB]) | (simp only [St.ev, St.set, upd, Nat.reduceEqDiff, reduceIte, ifA, ifB, hNm, hml, hci, hck, hgi, hgk, hli, hlk, nmA, Nat.reduceAdd, ifA, ifB]) | skip))) | refine awp_block ?_ | ((first | with_reducible refine aord_nil ?_ | refine awp_skip ?_ | refine awp_exit ?_ | refine awp_ret ?_); try simp only [rdA, Nat.reduceEqDiff, ifA, ifB, reduceIte]) | (refine awp_region tabOk rfl ?_; simp only [prep, pickO, lsA, lsB, lsC, lsD, lsE, lsF, lsG]) | ((with_reducible apply awp_cond); (focus (simp only [St.ev, St.set, upd, Nat.reduceEqDiff, reduceIte, ifA, ifB, hNm, hml, hci, hck, hgi, hgk, hli, hlk, nmA, Nat.reduceAdd, ifA, ifB]; exact rfl)); all_goals (intro hb; first | (cases hb; done) | ((try rw [hb]); (try simp only [dcA, dcB, dcC, dcD, dcE, Bool.not_eq_true', Bool.not_eq_false'] at hb)))) | ((with_reducible refine And.intro ?_ ?_); (focus omega)) | (exfalso; omega) | fail)
            · have hc := hgo true (by rw [‹wT fs k i k = true›, ‹wT fs k k j = true›]; rfl)
              refine ⟨(upd H (f i) (some ⟨true, .bools (ri.set j true)⟩), j + 1), ⟨by dsimp only; omega, fun u hu => by dsimp only; rw [upd_ne _ _ (by omega)]; exact hfr u hu, ?_⟩, by dsimp only; omega, Wk.sub (tsd (tsd (tsd (tsd (tsd tsd0 rfl) rfl) rfl) rfl) rfl) (fun _ _ h => h) rfl⟩
              dsimp only
              refine hset.congr fun a b _ _ => ?_
              by_cases e : a = i ∧ b = j
              · rw [if_pos e, if_pos (by omega), e.1, e.2, hc]; simp
              · rw [if_neg e]
                by_cases e2 : a < i ∨ (a = i ∧ b < j)
                · rw [if_pos e2, if_pos (by omega)]
                · rw [if_neg e2, if_neg (by omega)]
            all_goals (
              have hc := hgo false (by first | (rw [‹wT fs k k j = false›, Bool.and_false]; done) | (rw [‹wT fs k i k = false›]; rfl))
              refine ⟨(H, j + 1), ⟨by dsimp only; omega, hfr, ?_⟩, by dsimp only; omega, Wk.sub (tsd (tsd (tsd (tsd (tsd tsd0 rfl) rfl) rfl) rfl) rfl) (fun _ _ h => h) rfl⟩
              dsimp only
              refine hM.congr fun a b _ _ => ?_
              by_cases e : a = i ∧ b = j
              · rw [if_neg (by omega), if_pos (by omega), e.1, e.2, hc]; simp
              · by_cases e2 : a < i ∨ (a = i ∧ b < j)
                · rw [if_pos e2, if_pos (by omega)]
                · rw [if_neg e2, if_neg (by omega)])
          · skip


            repeat' (first | refine awp_seq_k fun K hK => ?_ | ((with_reducible refine hK _ ?_); clear hK K) | (clear hK K; (with_reducible refine hK _ ?_); clear hK K) | ((with_reducible refine aord_plain fun K hK => ?_); simp only [go_sem, Nat.reduceAdd, Nat.reduceMul, Nat.reduceEqDiff, Nat.reduceLT, reduceIte, reduceCtorEq]) | refine awp_block ?_ | ((first | with_reducible refine aord_nil ?_ | refine awp_skip ?_ | refine awp_exit ?_ | refine awp_ret ?_); try simp only [rdA, Nat.reduceEqDiff, ifA, ifB, reduceIte]) | (refine awp_region tabOk rfl ?_; simp only [prep, pickO, lsA, lsB, lsC, lsD, lsE, lsF, lsG]) | ((with_reducible apply awp_cond); (focus (simp only [St.ev, St.set, upd, Nat.reduceEqDiff, reduceIte, ifA, ifB]; exact rfl)); all_goals (intro hb; first | (cases hb; done) | ((try rw [hb]); (try simp only [dcA, dcB, dcC, dcD, dcE, Bool.not_eq_true', Bool.not_eq_false'] at hb)))) | ((with_reducible refine And.intro ?_ ?_); (focus omega)) | (exfalso; omega) | fail)
            refine ⟨(H, i + 1), ⟨by dsimp only; omega, hfr, ?_⟩, by dsimp only; omega, Wk.sub (tsd (tsd (tsd (tsd tsd0 rfl) rfl) rfl) rfl) (fun _ _ h => h) rfl⟩
            dsimp only
            refine hM.congr fun a b _ _ => ?_
            by_cases e2 : a < i ∨ (a = i ∧ b < j)
            · rw [if_pos e2, if_pos (by omega)]
            · rw [if_neg e2, if_neg (by omega)]
        · repeat' (first | refine awp_seq_k fun K hK => ?_ | ((with_reducible refine hK _ ?_); clear hK K) | (clear hK K; (with_reducible refine hK _ ?_); clear hK K) | ((with_reducible refine aord_plain fun K hK => ?_); simp only [go_sem, Nat.reduceAdd, Nat.reduceMul, Nat.reduceEqDiff, Nat.reduceLT, reduceIte, reduceCtorEq]) | refine awp_block ?_ | ((first | with_reducible refine aord_nil ?_ | refine awp_skip ?_ | refine awp_exit ?_ | refine awp_ret ?_); try simp only [rdA, Nat.reduceEqDiff, ifA, ifB, reduceIte]) | (refine awp_region tabOk rfl ?_; simp only [prep, pickO, lsA, lsB, lsC, lsD, lsE, lsF, lsG]) | ((with_reducible apply awp_cond); (focus (simp only [St.ev, St.set, upd, Nat.reduceEqDiff, reduceIte, ifA, ifB]; exact rfl)); all_goals (intro hb; first | (cases hb; done) | ((try rw [hb]); (try simp only [dcA, dcB, dcC, dcD, dcE, Bool.not_eq_true', Bool.not_eq_false'] at hb)))) | ((with_reducible refine And.intro ?_ ?_); (focus omega)) | (exfalso; omega) | fail)
          refine ⟨(H, k + 1), ⟨by dsimp only; omega, hfr, ?_⟩, by dsimp only; omega, Wk.sub (tsd (tsd (tsd tsd0 rfl) rfl) rfl) (fun _ _ h => h) rfl⟩
          dsimp only
          exact hM.congr fun a b _ _ => by rw [if_pos (by omega)]
      · repeat' (first | refine awp_seq_k fun K hK => ?_ | ((with_reducible refine hK _ ?_); clear hK K) | (clear hK K; (with_reducible refine hK _ ?_); clear hK K) | ((with_reducible refine aord_plain fun K hK => ?_); simp only [go_sem, Nat.reduceAdd, Nat.reduceMul, Nat.reduceEqDiff, Nat.reduceLT, reduceIte, reduceCtorEq]) | refine awp_block ?_ | ((first | with_reducible refine aord_nil ?_ | refine awp_skip ?_ | refine awp_exit ?_ | refine awp_ret ?_); try simp only [rdA, Nat.reduceEqDiff, ifA, ifB, reduceIte]) | (refine awp_region tabOk rfl ?_; simp only [prep, pickO, lsA, lsB, lsC, lsD, lsE, lsF, lsG]) | ((with_reducible apply awp_cond); (focus (simp only [St.ev, St.set, upd, Nat.reduceEqDiff, reduceIte, ifA, ifB]; exact rfl)); all_goals (intro hb; first | (cases hb; done) | ((try rw [hb]); (try simp only [dcA, dcB, dcC, dcD, dcE, Bool.not_eq_true', Bool.not_eq_false'] at hb)))) | (simp only [doneH]; simp only [ressK, resK, wrapR, go_sem, Nat.reduceAdd, Nat.reduceMul, Nat.reduceEqDiff, Nat.reduceLT, reduceIte, reduceCtorEq]) | (exfalso; omega) | fail)
        have e : k = d := by omega
        subst e
        exact hQ H N O f hM hfr hnN hnO

/-- Facts that may all be true. -/
def VF (z : Int) (fs : List (Int × Int)) : Prop := (0 ≤ z ∧ z ≤ 5) ∧ fs.length ≤ 20 ∧ itemsIn z.toNat fs ∧ ∀ x, ¬ Tc fs x x
theorem itemsIn_up {d j : Nat} {fs : List (Int × Int)} (hj : j < fs.length) (h : itemsIn d (fs.take j)) (h1 : 0 ≤ (fs.getD j (0, 0)).1 ∧ (fs.getD j (0, 0)).1 < d) (h2 : 0 ≤ (fs.getD j (0, 0)).2 ∧ (fs.getD j (0, 0)).2 < d) : itemsIn d (fs.take (j + 1)) := by
  intro f hf
  rw [List.take_succ_eq_append_getElem hj] at hf
  rcases List.mem_append.1 hf with h3 | h3
  · exact h f h3
  · have e : f = fs.getD j (0, 0) := by rw [List.mem_singleton.1 h3, List.getD_eq_getElem?_getD, List.getElem?_eq_getElem hj]; rfl
    rw [e]; exact ⟨h1, h2⟩
theorem getD_memF {fs : List (Int × Int)} {j : Nat} (hj : j < fs.length) : fs.getD j (0, 0) ∈ fs := by
  rw [List.getD_eq_getElem?_getD, List.getElem?_eq_getElem hj]; exact List.getElem_mem hj


theorem specvalidFacts_sat : SatH Try.prog 44 (fun al h n K => ∃ (z : Int) (A : Nat) (b : Bool) (fs : List (Int × Int)), al = [.val (.int .i64 (z)), .sl A 0 fs.length 2 none] ∧ (h A = some ⟨b, .ints .i64 (flF fs)⟩) ∧ (fs.length ≤ 1099511627776) ∧ ∀ (v : Bool) (N : Nat), (v = true ↔ VF z fs) → n ≤ N → K (.val (.bool (v))) (h) (N)) := by
  refine satH_intro tabOk Try.func44 rfl 57 rfl [.tmp 4] rfl ?_
  rintro F W h n al K0 ⟨z, A, b, fs, rfl, hA, hl, hQ⟩
  refine ⟨Nat.le_of_ble_eq_true rfl, fun m0 hm0 hcl hlt => ?_⟩
  simp only [initT]
  have hAn := (hcl A _ hA).1
  have hfl := flF_len fs
  by_cases h0 : (0 ≤ z ∧ z ≤ 5) ∧ fs.length ≤ 20
  · obtain ⟨d, rfl⟩ : ∃ d : Nat, z = d := ⟨z.toNat, by omega⟩
    have q1 : decide ((0 : Int) ≤ (d : Int)) = true := decide_eq_true (by omega)
    have q2 : decide ((d : Int) ≤ 5) = true := decide_eq_true (by omega)
    have q3 : decide ((20 : Int) < (fs.length : Int)) = false := decide_eq_false (by omega)


    repeat' (first | refine awp_seq_k fun K hK => ?_ | ((with_reducible refine hK _ ?_); clear hK K) | ((with_reducible refine aord_plain fun K hK => ?_); simp only [go_sem, Nat.reduceAdd, Nat.reduceMul, Nat.reduceEqDiff, Nat.reduceLT, reduceIte, reduceCtorEq, hA, nmA, Nat.reduceAdd, ifA, ifB, hA, q1, q2, q3, Bool.and_self, Bool.not_true]) | ((with_reducible apply aord_guard); (focus (simp only [St.ev, St.set, upd, Nat.reduceEqDiff, reduceIte, ifA, ifB, hA, nmA, Nat.reduceAdd, ifA, ifB]; exact rfl)); all_goals (intro hb; (try simp only [Bool.not_true, Bool.not_false] at hb); first | (cases hb; done) | ((try rw [hb]); (try simp only [Bool.not_eq_true', Bool.not_eq_false', Bool.and_eq_true, dcA, dcB, dcC, dcD, dcE] at hb); (try (revert hb; with_reducible refine true_imp_iff.2 ?_)); first | (intro K hK; simp only [go_sem, Nat.reduceAdd, Nat.reduceMul, Nat.reduceEqDiff, Nat.reduceLT, reduceIte, reduceCtorEq, hA, nmA, Nat.reduceAdd, ifA, ifB]) | (simp only [St.ev, St.set, upd, Nat.reduceEqDiff, reduceIte, ifA, ifB, hA, nmA, Nat.reduceAdd, ifA, ifB]) | skip))) | refine awp_block ?_ | ((first | with_reducible refine aord_nil ?_ | refine awp_skip ?_ | refine awp_exit ?_ | refine awp_ret ?_); try simp only [rdA, Nat.reduceEqDiff, ifA, ifB, reduceIte]) | (refine awp_region tabOk rfl ?_; simp only [prep, pickO, lsA, lsB, lsC, lsD, lsE, lsF, lsG]) | ((with_reducible apply awp_cond); (focus (simp only [St.ev, St.set, upd, Nat.reduceEqDiff, reduceIte, ifA, ifB, hA, nmA, Nat.reduceAdd, ifA, ifB]; exact rfl)); all_goals (intro hb; first | (cases hb; done) | ((try rw [hb]); (try simp only [dcA, dcB, dcC, dcD, dcE, Bool.not_eq_true', Bool.not_eq_false'] at hb)))) | ((with_reducible refine And.intro (?_ : enters Try.prog 65) ?_); (focus exact Try.call65); (refine callX_sat inRange_sat ?_); simp only [go_sem, and_assoc, List.nil_append, List.append_nil, List.cons_append, Nat.reduceEqDiff, reduceIte, reduceCtorEq, hA, nmA, Nat.reduceAdd, ifA, ifB, hA, q1, q2, q3, Bool.and_self, Bool.not_true]) | fail)
    refine awp_loopE (α := Nat) (fun s p => ⟨(upd (upd (upd bot 0 (s.tmps 0)) 1 (s.tmps 1)) 5 (.val (.int .i64 (p)))), s.heap, s.next⟩) _ (fun p => by simp only [St.ev, St.set, upd, Nat.reduceEqDiff, reduceIte, ifA, ifB, hA, nmA, Nat.reduceAdd, ifA, ifB]; exact rfl) (fun p => (p ≤ fs.length) ∧ (itemsIn d (fs.take p))) (fun p => fs.length - p) (0) ?_ ?_ ?_
    · (try simp only); (refine ⟨?_, ?_⟩ <;> (first | omega | (intro f hf; simp at hf)))
    · (apply Wk.over (id) n; (case' h2 => (focus ((repeat' (first | (with_reducible exact HeapX.bot) | (exact HeapX.base (by first | exact hcl | assumption) (by first | exact Nat.le_refl _ | omega | (simp only; omega)) (fun k hk => by first | rfl | (simp only [id]; done) | ((repeat rw [if_neg (by omega)]); done)) (by intro u hu hlt'; first | rfl | (simp only [List.mem_cons, List.not_mem_nil, or_false, not_or] at hu; first | (simp [upd, hu]; done) | (simp only [upd]; (repeat rw [if_neg (by omega)]))))) | (with_reducible (apply HeapX.skip; (case hx => (simp; done)))) | (with_reducible apply HeapX.none) | (with_reducible apply HeapX.old (by first | assumption | omega) (by first | exact Nat.le_refl _ | omega | (simp only; omega)) (by first | rfl | (simp only [id]; done) | ((repeat rw [if_neg (by omega)]); done))) | (with_reducible apply HeapX.upd))); all_goals (first | rfl | omega | assumption | exact Nat.le_of_ble_eq_true rfl | (simp only; omega) | (simp only [St.set, St.ev, upd, ren, renL, id, Nat.reduceEqDiff, reduceIte, hA, nmA, Nat.reduceAdd, ifA, ifB]; rfl) | (simp only [St.set, St.ev, upd, ren, renL, id, Nat.reduceEqDiff, reduceIte, hA, nmA, Nat.reduceAdd, ifA, ifB, ContLe]; done) | (exact And.intro rfl (And.intro (by first | exact Nat.le_of_ble_eq_true rfl | omega) (by first | exact Nat.le_of_ble_eq_true rfl | omega))) | (first | (simp only [St.set, St.ev, upd, ren, renL, id, Nat.reduceEqDiff, reduceIte, hA, nmA, Nat.reduceAdd, ifA, ifB]; exact contLe_nil) | ((repeat' (first | exact contLe_nil | refine contLe_cons (.inr ⟨?_, rfl⟩) ?_ | exact contLe_refl (n0 := n) (fun k hk => by first | rfl | (simp only [id]; done) | ((repeat rw [if_neg (by omega)]); done)) (by first | exact Nat.le_refl _ | omega | (simp only; omega)) (by assumption))); all_goals (first | rfl | (simp only [St.set, St.ev, upd, ren, renL, id, Nat.reduceEqDiff, reduceIte, hA, nmA, Nat.reduceAdd, ifA, ifB]; done) | ((try simp only [St.set, St.ev, upd, ren, renL, id, Nat.reduceEqDiff, reduceIte, hA, nmA, Nat.reduceAdd, ifA, ifB]); first | (with_reducible exact av_int (by omega)) | (with_reducible exact av_sl (by first | omega | (simp; done) | (simp; omega)) (by first | omega | (simp; done) | (simp; omega)))) | (simp only [St.set, St.ev, upd, ren, renL, id, Nat.reduceEqDiff, reduceIte, hA, nmA, Nat.reduceAdd, ifA, ifB, Int.natCast_add, Int.natCast_one, Int.cast_ofNat_Int, Int.natCast_zero]; done) | (simp only [St.set, St.ev, upd, ren, renL, id, Nat.reduceEqDiff, reduceIte, hA, nmA, Nat.reduceAdd, ifA, ifB]) | skip); done)) | (simp only [St.set, St.ev, upd, ren, renL, id, Nat.reduceEqDiff, reduceIte, hA, nmA, Nat.reduceAdd, ifA, ifB, ContLe]) | skip)))); (case' h1 => (focus ((repeat' (with_reducible first | exact TmpLe.bot | refine TmpLe.upd ?_ (by first | rfl | (simp only [AV.lt, decide_eq_true_eq]; first | done | omega)) ?_)); all_goals (first | rfl | (simp only [St.set, St.ev, upd, ren, renL, id, Nat.reduceEqDiff, reduceIte, hA, nmA, Nat.reduceAdd, ifA, ifB]; done) | ((try simp only [St.set, St.ev, upd, ren, renL, id, Nat.reduceEqDiff, reduceIte, hA, nmA, Nat.reduceAdd, ifA, ifB]); first | (with_reducible exact av_int (by omega)) | (with_reducible exact av_sl (by first | omega | (simp; done) | (simp; omega)) (by first | omega | (simp; done) | (simp; omega)))) | (simp only [St.set, St.ev, upd, ren, renL, id, Nat.reduceEqDiff, reduceIte, hA, nmA, Nat.reduceAdd, ifA, ifB, Int.natCast_add, Int.natCast_one, Int.cast_ofNat_Int, Int.natCast_zero]; done) | (simp only [St.set, St.ev, upd, ren, renL, id, Nat.reduceEqDiff, reduceIte, hA, nmA, Nat.reduceAdd, ifA, ifB]) | skip)))); (case h3 => (focus (first | (simp only [id, List.map_cons, List.map_nil]; decide) | decide | (simp; done) | (simp; omega) | fail))); (case h5 => (intro d hd; first | (simp at hd; done) | (simp only [List.mem_cons, List.not_mem_nil, or_false] at hd; first | (simp only [id]; omega) | (split <;> omega) | ((repeat' split) <;> omega) | ((try simp only); repeat' split; all_goals omega)))); (case h4 => (intro o l h; first | (cases h; done) | (have hlt0 := m0_lt (by assumption) h; (try (simp only at hlt0)); first | omega | (simp only; omega) | exact ⟨by (first | rfl | (simp only [id]; done) | ((repeat rw [if_neg (by omega)]); done)), by first | omega | (simp only; omega)⟩))))
    rintro i ⟨hi, hit⟩
    try simp only at hi hit
    rcases Nat.lt_or_ge i fs.length with hlt | hge
    · obtain ⟨g1, g2⟩ := flF_get hlt
      have hup := itemsIn_up hlt hit
      have hmem := getD_memF hlt
      obtain ⟨c1, hq1⟩ : ∃ c, (decide (0 ≤ (fs.getD i (0, 0)).1) && decide ((fs.getD i (0, 0)).1 ≤ (d : Int) - 1)) = c := ⟨_, rfl⟩
      obtain ⟨c2, hq2⟩ : ∃ c, (decide (0 ≤ (fs.getD i (0, 0)).2) && decide ((fs.getD i (0, 0)).2 ≤ (d : Int) - 1)) = c := ⟨_, rfl⟩
      have hc1 : c1 = true ↔ 0 ≤ (fs.getD i (0, 0)).1 ∧ (fs.getD i (0, 0)).1 < (d : Int) := by rw [← hq1, Bool.and_eq_true, decide_eq_true_eq, decide_eq_true_eq]; omega
      have hc2 : c2 = true ↔ 0 ≤ (fs.getD i (0, 0)).2 ∧ (fs.getD i (0, 0)).2 < (d : Int) := by rw [← hq2, Bool.and_eq_true, decide_eq_true_eq, decide_eq_true_eq]; omega
      have hbad : ¬ (c1 = true ∧ c2 = true) → ¬ VF d fs := fun h hv => by
        have := hv.2.2.1 _ hmem
        rw [Int.toNat_natCast] at this
        exact h ⟨hc1.2 (by omega), hc2.2 (by omega)⟩
      cases c1 <;> cases c2
      all_goals (


        repeat' (first | refine awp_seq_k fun K hK => ?_ | ((with_reducible refine hK _ ?_); clear hK K) | (clear hK K; (with_reducible refine hK _ ?_); clear hK K) | ((with_reducible refine aord_plain fun K hK => ?_); simp only [go_sem, Nat.reduceAdd, Nat.reduceMul, Nat.reduceEqDiff, Nat.reduceLT, reduceIte, reduceCtorEq, hA, g1, g2, hq1, hq2, nmA, Nat.reduceAdd, ifA, ifB, hA, g1, g2, hq1, hq2]) | ((with_reducible apply aord_guard); (focus (simp only [St.ev, St.set, upd, Nat.reduceEqDiff, reduceIte, ifA, ifB, hA, g1, g2, hq1, hq2, nmA, Nat.reduceAdd, ifA, ifB]; exact rfl)); all_goals (intro hb; (try simp only [Bool.not_true, Bool.not_false] at hb); first | (cases hb; done) | ((try rw [hb]); (try simp only [Bool.not_eq_true', Bool.not_eq_false', Bool.and_eq_true, dcA, dcB, dcC, dcD, dcE] at hb); (try (revert hb; with_reducible refine true_imp_iff.2 ?_)); first | (intro K hK; simp only [go_sem, Nat.reduceAdd, Nat.reduceMul, Nat.reduceEqDiff, Nat.reduceLT, reduceIte, reduceCtorEq, hA, g1, g2, hq1, hq2, nmA, Nat.reduceAdd, ifA, ifB]) | (simp only [St.ev, St.set, upd, Nat.reduceEqDiff, reduceIte, ifA, ifB, hA, g1, g2, hq1, hq2, nmA, Nat.reduceAdd, ifA, ifB]) | skip))) | refine awp_block ?_ | ((first | with_reducible refine aord_nil ?_ | refine awp_skip ?_ | refine awp_exit ?_ | refine awp_ret ?_); try simp only [rdA, Nat.reduceEqDiff, ifA, ifB, reduceIte]) | (refine awp_region tabOk rfl ?_; simp only [prep, pickO, lsA, lsB, lsC, lsD, lsE, lsF, lsG]) | ((with_reducible apply awp_cond); (focus (simp only [St.ev, St.set, upd, Nat.reduceEqDiff, reduceIte, ifA, ifB, hA, g1, g2, hq1, hq2, nmA, Nat.reduceAdd, ifA, ifB]; exact rfl)); all_goals (intro hb; first | (cases hb; done) | ((try rw [hb]); (try simp only [dcA, dcB, dcC, dcD, dcE, Bool.not_eq_true', Bool.not_eq_false'] at hb)))) | ((with_reducible refine And.intro ?_ ?_); (focus omega)) | ((with_reducible refine And.intro (?_ : enters Try.prog 65) ?_); (focus exact Try.call65); (refine callX_sat inRange_sat ?_); simp only [go_sem, and_assoc, List.nil_append, List.append_nil, List.cons_append, Nat.reduceEqDiff, reduceIte, reduceCtorEq, hA, g1, g2, hq1, hq2, nmA, Nat.reduceAdd, ifA, ifB, hA, g1, g2, hq1, hq2]) | (simp only [doneH]; simp only [ressK, resK, wrapR, go_sem, Nat.reduceAdd, Nat.reduceMul, Nat.reduceEqDiff, Nat.reduceLT, reduceIte, reduceCtorEq, hA, g1, g2, hq1, hq2, nmA, Nat.reduceAdd, ifA, ifB]) | (exfalso; omega) | fail))
      all_goals first | (exact hQ false n (by simp only [Bool.false_eq_true, false_iff]; exact hbad (by simp)) (Nat.le_refl _)) | skip
      have g3 := hup (hc1.1 rfl) (hc2.1 rfl)
      ((refine Exists.intro (i + 1) ?_); (refine nxt ?_ ?_ ?_); (focus ((apply Wk.over (id) n; (case' h2 => (focus ((repeat' (first | (with_reducible exact HeapX.bot) | (exact HeapX.base (by first | exact hcl | assumption) (by first | exact Nat.le_refl _ | omega | (simp only; omega)) (fun k hk => by first | rfl | (simp only [id]; done) | ((repeat rw [if_neg (by omega)]); done)) (by intro u hu hlt'; first | rfl | (simp only [List.mem_cons, List.not_mem_nil, or_false, not_or] at hu; first | (simp [upd, hu]; done) | (simp only [upd]; (repeat rw [if_neg (by omega)]))))) | (with_reducible (apply HeapX.skip; (case hx => (simp; done)))) | (with_reducible apply HeapX.none) | (with_reducible apply HeapX.old (by first | assumption | omega) (by first | exact Nat.le_refl _ | omega | (simp only; omega)) (by first | rfl | (simp only [id]; done) | ((repeat rw [if_neg (by omega)]); done))) | (with_reducible apply HeapX.upd))); all_goals (first | rfl | omega | assumption | exact Nat.le_of_ble_eq_true rfl | (simp only; omega) | (simp only [St.set, St.ev, upd, ren, renL, id, Nat.reduceEqDiff, reduceIte, hA, g1, g2, hq1, hq2, nmA, Nat.reduceAdd, ifA, ifB]; rfl) | (simp only [St.set, St.ev, upd, ren, renL, id, Nat.reduceEqDiff, reduceIte, hA, g1, g2, hq1, hq2, nmA, Nat.reduceAdd, ifA, ifB, ContLe]; done) | (exact And.intro rfl (And.intro (by first | exact Nat.le_of_ble_eq_true rfl | omega) (by first | exact Nat.le_of_ble_eq_true rfl | omega))) | (first | (simp only [St.set, St.ev, upd, ren, renL, id, Nat.reduceEqDiff, reduceIte, hA, g1, g2, hq1, hq2, nmA, Nat.reduceAdd, ifA, ifB]; exact contLe_nil) | ((repeat' (first | exact contLe_nil | refine contLe_cons (.inr ⟨?_, rfl⟩) ?_ | exact contLe_refl (n0 := n) (fun k hk => by first | rfl | (simp only [id]; done) | ((repeat rw [if_neg (by omega)]); done)) (by first | exact Nat.le_refl _ | omega | (simp only; omega)) (by assumption))); all_goals (first | rfl | (simp only [St.set, St.ev, upd, ren, renL, id, Nat.reduceEqDiff, reduceIte, hA, g1, g2, hq1, hq2, nmA, Nat.reduceAdd, ifA, ifB]; done) | ((try simp only [St.set, St.ev, upd, ren, renL, id, Nat.reduceEqDiff, reduceIte, hA, g1, g2, hq1, hq2, nmA, Nat.reduceAdd, ifA, ifB]); first | (with_reducible exact av_int (by omega)) | (with_reducible exact av_sl (by first | omega | (simp; done) | (simp; omega)) (by first | omega | (simp; done) | (simp; omega)))) | (simp only [St.set, St.ev, upd, ren, renL, id, Nat.reduceEqDiff, reduceIte, hA, g1, g2, hq1, hq2, nmA, Nat.reduceAdd, ifA, ifB, Int.natCast_add, Int.natCast_one, Int.cast_ofNat_Int, Int.natCast_zero]; done) | (simp only [St.set, St.ev, upd, ren, renL, id, Nat.reduceEqDiff, reduceIte, hA, g1, g2, hq1, hq2, nmA, Nat.reduceAdd, ifA, ifB]) | skip); done)) | (simp only [St.set, St.ev, upd, ren, renL, id, Nat.reduceEqDiff, reduceIte, hA, g1, g2, hq1, hq2, nmA, Nat.reduceAdd, ifA, ifB, ContLe]) | skip)))); (case' h1 => (focus ((repeat' (with_reducible first | exact TmpLe.bot | refine TmpLe.upd ?_ (by first | rfl | (simp only [AV.lt, decide_eq_true_eq]; first | done | omega)) ?_)); all_goals (first | rfl | (simp only [St.set, St.ev, upd, ren, renL, id, Nat.reduceEqDiff, reduceIte, hA, g1, g2, hq1, hq2, nmA, Nat.reduceAdd, ifA, ifB]; done) | ((try simp only [St.set, St.ev, upd, ren, renL, id, Nat.reduceEqDiff, reduceIte, hA, g1, g2, hq1, hq2, nmA, Nat.reduceAdd, ifA, ifB]); first | (with_reducible exact av_int (by omega)) | (with_reducible exact av_sl (by first | omega | (simp; done) | (simp; omega)) (by first | omega | (simp; done) | (simp; omega)))) | (simp only [St.set, St.ev, upd, ren, renL, id, Nat.reduceEqDiff, reduceIte, hA, g1, g2, hq1, hq2, nmA, Nat.reduceAdd, ifA, ifB, Int.natCast_add, Int.natCast_one, Int.cast_ofNat_Int, Int.natCast_zero]; done) | (simp only [St.set, St.ev, upd, ren, renL, id, Nat.reduceEqDiff, reduceIte, hA, g1, g2, hq1, hq2, nmA, Nat.reduceAdd, ifA, ifB]) | skip)))); (case h3 => (focus (first | (simp only [id, List.map_cons, List.map_nil]; decide) | decide | (simp; done) | (simp; omega) | fail))); (case h5 => (intro d hd; first | (simp at hd; done) | (simp only [List.mem_cons, List.not_mem_nil, or_false] at hd; first | (simp only [id]; omega) | (split <;> omega) | ((repeat' split) <;> omega) | ((try simp only); repeat' split; all_goals omega)))); (case h4 => (intro o l h; first | (cases h; done) | (have hlt0 := m0_lt (by assumption) h; (try (simp only at hlt0)); first | omega | (simp only; omega) | exact ⟨by (first | rfl | (simp only [id]; done) | ((repeat rw [if_neg (by omega)]); done)), by first | omega | (simp only; omega)⟩)))))); (focus (first | omega | (simp only; omega) | (simp only [List.length_take]; omega) | (simp; done) | (simp; omega))); ((repeat' (with_reducible apply And.intro)) <;> (first | omega | (simp only; omega) | assumption | rfl | (simp only))))
    · have htl : fs.take i = fs := List.take_of_length_le (by omega)
      rw [htl] at hit


      repeat' (first | refine awp_seq_k fun K hK => ?_ | ((with_reducible refine hK _ ?_); clear hK K) | (clear hK K; (with_reducible refine hK _ ?_); clear hK K) | ((with_reducible refine aord_plain fun K hK => ?_); simp only [go_sem, Nat.reduceAdd, Nat.reduceMul, Nat.reduceEqDiff, Nat.reduceLT, reduceIte, reduceCtorEq, hA, nmA, Nat.reduceAdd, ifA, ifB, hA]) | refine awp_block ?_ | ((first | with_reducible refine aord_nil ?_ | refine awp_skip ?_ | refine awp_exit ?_ | refine awp_ret ?_); try simp only [rdA, Nat.reduceEqDiff, ifA, ifB, reduceIte]) | (refine awp_region tabOk rfl ?_; simp only [prep, pickO, lsA, lsB, lsC, lsD, lsE, lsF, lsG]) | ((with_reducible apply awp_cond); (focus (simp only [St.ev, St.set, upd, Nat.reduceEqDiff, reduceIte, ifA, ifB, hA, nmA, Nat.reduceAdd, ifA, ifB]; exact rfl)); all_goals (intro hb; first | (cases hb; done) | ((try rw [hb]); (try simp only [dcA, dcB, dcC, dcD, dcE, Bool.not_eq_true', Bool.not_eq_false'] at hb)))) | ((with_reducible refine And.intro ?_ ?_); (focus omega)) | ((with_reducible refine And.intro (?_ : enters Try.prog 46) ?_); (focus exact Try.call46); (refine callX_satH specReach_sat ?_); simp only [go_sem, and_assoc, List.nil_append, List.append_nil, List.cons_append, Nat.reduceEqDiff, reduceIte, reduceCtorEq, hA, nmA, Nat.reduceAdd, ifA, ifB, hA]) | (exfalso; omega) | fail)
      refine ⟨d, rfl, b, fs, rfl, rfl, rfl, by omega, by omega, hit, fun H N O f hM hfr hnN hnO => ?_⟩
      have HA := (hfr A hAn).trans hA


      repeat' (first | refine awp_seq_k fun K hK => ?_ | ((with_reducible refine hK _ ?_); clear hK K) | ((with_reducible refine aord_plain fun K hK => ?_); simp only [go_sem, Nat.reduceAdd, Nat.reduceMul, Nat.reduceEqDiff, Nat.reduceLT, reduceIte, reduceCtorEq, HA, nmA, Nat.reduceAdd, ifA, ifB, HA]) | refine awp_block ?_ | ((first | with_reducible refine aord_nil ?_ | refine awp_skip ?_ | refine awp_exit ?_ | refine awp_ret ?_); try simp only [rdA, Nat.reduceEqDiff, ifA, ifB, reduceIte]) | (refine awp_region tabOk rfl ?_; simp only [prep, pickO, lsA, lsB, lsC, lsD, lsE, lsF, lsG]) | fail)
      refine awp_loop (fun i : Nat => ⟨upd (upd (upd bot 7 (.val (.int .i64 i))) 6 (.sl O 0 d 1 none)) 0 (.val (.int .i64 d)), H, N⟩) (fun i => i ≤ d ∧ ∀ x, x < i → wT fs d x x = false) (fun i => d - i) 0 ⟨Nat.zero_le _, fun x h => absurd h (Nat.not_lt_zero x)⟩ ?_ ?_
      · exact Wk.sub (tsd (tsd (tsd tsd0 rfl) rfl) rfl) (fun _ _ h => h) rfl
      rintro i ⟨hid, hno⟩
      have hO := hM.out
      have hml : (mCell f d d).length = d := mCell_len
      have hdrop : ∀ (o : Nat) (ob : Ob), h o = some ob → H o = some ob := fun o ob ho => by rw [hfr o (hcl o _ ho).1]; exact ho
      rcases Nat.lt_or_ge i d with hlt | hge
      · have hc := mCell_get (f := f) (n := d) hlt
        have hrow := hM.row i hlt
        have hrl : (mRow d (fun b => wT fs d i b)).length = d := mRow_len
        have hget : (mRow d (fun b => wT fs d i b)).getD i false = wT fs d i i := mRow_get hlt
        cases hw : wT fs d i i with
        | true =>


          repeat' ((fail_if_success (with_reducible refine isRetQ ?_)); (first | refine awp_seq_k fun K hK => ?_ | ((with_reducible refine hK _ ?_); clear hK K) | (clear hK K; (with_reducible refine hK _ ?_); clear hK K) | ((with_reducible refine aord_plain fun K hK => ?_); simp only [go_sem, Nat.reduceAdd, Nat.reduceMul, Nat.reduceEqDiff, Nat.reduceLT, reduceIte, reduceCtorEq, HA, hO, hml, hc, hrow, hrl, hget, hw, nmA, Nat.reduceAdd, ifA, ifB, HA, hO, hml, hc, hrow, hrl, hget, hw]) | refine awp_block ?_ | ((first | with_reducible refine aord_nil ?_ | refine awp_skip ?_ | refine awp_exit ?_ | refine awp_ret ?_); try simp only [rdA, Nat.reduceEqDiff, ifA, ifB, reduceIte]) | (refine awp_region tabOk rfl ?_; simp only [prep, pickO, lsA, lsB, lsC, lsD, lsE, lsF, lsG]) | ((with_reducible apply awp_cond); (focus (simp only [St.ev, St.set, upd, Nat.reduceEqDiff, reduceIte, ifA, ifB, HA, hO, hml, hc, hrow, hrl, hget, hw, nmA, Nat.reduceAdd, ifA, ifB]; exact rfl)); all_goals (intro hb; first | (cases hb; done) | ((try rw [hb]); (try simp only [dcA, dcB, dcC, dcD, dcE, Bool.not_eq_true', Bool.not_eq_false'] at hb)))) | ((with_reducible refine And.intro ?_ ?_); (focus omega)) | fail))
          refine awp_weaken (s' := ⟨upd bot 4 (.val (.bool false)), h, N⟩) (Wk.sub (tsd tsd0 rfl) hdrop rfl) ?_
          repeat' (first | ((first | with_reducible refine aord_nil ?_ | refine awp_skip ?_ | refine awp_exit ?_ | refine awp_ret ?_); try simp only [rdA, Nat.reduceEqDiff, ifA, ifB, reduceIte]) | (simp only [doneH]; simp only [ressK, resK, wrapR, go_sem, Nat.reduceAdd, Nat.reduceMul, Nat.reduceEqDiff, Nat.reduceLT, reduceIte, reduceCtorEq, HA, hO, hml, hc, hrow, hrl, hget, hw, nmA, Nat.reduceAdd, ifA, ifB]) | (exfalso; omega) | fail)
          exact hQ false N (by simp only [Bool.false_eq_true, false_iff]; exact fun hv => hv.2.2.2 _ (wT_sound hw)) hnN
        | false =>


          repeat' (first | refine awp_seq_k fun K hK => ?_ | ((with_reducible refine hK _ ?_); clear hK K) | (clear hK K; (with_reducible refine hK _ ?_); clear hK K) | ((with_reducible refine aord_plain fun K hK => ?_); simp only [go_sem, Nat.reduceAdd, Nat.reduceMul, Nat.reduceEqDiff, Nat.reduceLT, reduceIte, reduceCtorEq, HA, hO, hml, hc, hrow, hrl, hget, hw, nmA, Nat.reduceAdd, ifA, ifB, HA, hO, hml, hc, hrow, hrl, hget, hw]) | refine awp_block ?_ | ((first | with_reducible refine aord_nil ?_ | refine awp_skip ?_ | refine awp_exit ?_ | refine awp_ret ?_); try simp only [rdA, Nat.reduceEqDiff, ifA, ifB, reduceIte]) | (refine awp_region tabOk rfl ?_; simp only [prep, pickO, lsA, lsB, lsC, lsD, lsE, lsF, lsG]) | ((with_reducible apply awp_cond); (focus (simp only [St.ev, St.set, upd, Nat.reduceEqDiff, reduceIte, ifA, ifB, HA, hO, hml, hc, hrow, hrl, hget, hw, nmA, Nat.reduceAdd, ifA, ifB]; exact rfl)); all_goals (intro hb; first | (cases hb; done) | ((try rw [hb]); (try simp only [dcA, dcB, dcC, dcD, dcE, Bool.not_eq_true', Bool.not_eq_false'] at hb)))) | ((with_reducible refine And.intro ?_ ?_); (focus omega)) | (simp only [doneH]; simp only [ressK, resK, wrapR, go_sem, Nat.reduceAdd, Nat.reduceMul, Nat.reduceEqDiff, Nat.reduceLT, reduceIte, reduceCtorEq, HA, hO, hml, hc, hrow, hrl, hget, hw, nmA, Nat.reduceAdd, ifA, ifB]) | (exfalso; omega) | fail)
          refine ⟨i + 1, ⟨by omega, fun x hx => ?_⟩, by omega, Wk.sub (tsd (tsd (tsd tsd0 rfl) rfl) rfl) (fun _ _ h => h) rfl⟩
          rcases Nat.lt_or_ge x i with h1 | h1
          · exact hno x h1
          · obtain rfl : x = i := by omega
            exact hw
      · skip


        repeat' ((fail_if_success (with_reducible refine isRetQ ?_)); (first | refine awp_seq_k fun K hK => ?_ | ((with_reducible refine hK _ ?_); clear hK K) | (clear hK K; (with_reducible refine hK _ ?_); clear hK K) | ((with_reducible refine aord_plain fun K hK => ?_); simp only [go_sem, Nat.reduceAdd, Nat.reduceMul, Nat.reduceEqDiff, Nat.reduceLT, reduceIte, reduceCtorEq, HA, nmA, Nat.reduceAdd, ifA, ifB, HA]) | refine awp_block ?_ | ((first | with_reducible refine aord_nil ?_ | refine awp_skip ?_ | refine awp_exit ?_ | refine awp_ret ?_); try simp only [rdA, Nat.reduceEqDiff, ifA, ifB, reduceIte]) | (refine awp_region tabOk rfl ?_; simp only [prep, pickO, lsA, lsB, lsC, lsD, lsE, lsF, lsG]) | ((with_reducible apply awp_cond); (focus (simp only [St.ev, St.set, upd, Nat.reduceEqDiff, reduceIte, ifA, ifB, HA, nmA, Nat.reduceAdd, ifA, ifB]; exact rfl)); all_goals (intro hb; first | (cases hb; done) | ((try rw [hb]); (try simp only [dcA, dcB, dcC, dcD, dcE, Bool.not_eq_true', Bool.not_eq_false'] at hb)))) | ((with_reducible refine And.intro ?_ ?_); (focus omega)) | (exfalso; omega) | fail))
        refine awp_weaken (s' := ⟨upd bot 4 (.val (.bool true)), h, N⟩) (Wk.sub (tsd tsd0 rfl) hdrop rfl) ?_
        repeat' (first | ((first | with_reducible refine aord_nil ?_ | refine awp_skip ?_ | refine awp_exit ?_ | refine awp_ret ?_); try simp only [rdA, Nat.reduceEqDiff, ifA, ifB, reduceIte]) | (simp only [doneH]; simp only [ressK, resK, wrapR, go_sem, Nat.reduceAdd, Nat.reduceMul, Nat.reduceEqDiff, Nat.reduceLT, reduceIte, reduceCtorEq, HA, nmA, Nat.reduceAdd, ifA, ifB]) | fail)
        refine hQ true N ⟨fun _ => ⟨h0.1, h0.2, by rw [Int.toNat_natCast]; exact hit, fun x hx => ?_⟩, fun _ => rfl⟩ hnN
        have hxi := (Tc_in hit hx).1
        have h1 := wT_all hit hx
        rw [hno x.toNat (by omega)] at h1
        cases h1
  · skip
    have hno : ¬ VF z fs := fun h => h0 ⟨h.1, h.2.1⟩


    repeat' (first | refine awp_seq_k fun K hK => ?_ | ((with_reducible refine hK _ ?_); clear hK K) | ((with_reducible refine aord_plain fun K hK => ?_); simp only [go_sem, Nat.reduceAdd, Nat.reduceMul, Nat.reduceEqDiff, Nat.reduceLT, reduceIte, reduceCtorEq, hA, nmA, Nat.reduceAdd, ifA, ifB, hA]) | ((with_reducible apply aord_guard); (focus (simp only [St.ev, St.set, upd, Nat.reduceEqDiff, reduceIte, ifA, ifB, hA, nmA, Nat.reduceAdd, ifA, ifB]; exact rfl)); all_goals (intro hb; (try simp only [Bool.not_true, Bool.not_false] at hb); first | (cases hb; done) | ((try rw [hb]); (try simp only [Bool.not_eq_true', Bool.not_eq_false', Bool.and_eq_true, dcA, dcB, dcC, dcD, dcE] at hb); (try (revert hb; with_reducible refine true_imp_iff.2 ?_)); first | (intro K hK; simp only [go_sem, Nat.reduceAdd, Nat.reduceMul, Nat.reduceEqDiff, Nat.reduceLT, reduceIte, reduceCtorEq, hA, nmA, Nat.reduceAdd, ifA, ifB]) | (simp only [St.ev, St.set, upd, Nat.reduceEqDiff, reduceIte, ifA, ifB, hA, nmA, Nat.reduceAdd, ifA, ifB]) | skip))) | refine awp_block ?_ | ((first | with_reducible refine aord_nil ?_ | refine awp_skip ?_ | refine awp_exit ?_ | refine awp_ret ?_); try simp only [rdA, Nat.reduceEqDiff, ifA, ifB, reduceIte]) | (refine awp_region tabOk rfl ?_; simp only [prep, pickO, lsA, lsB, lsC, lsD, lsE, lsF, lsG]) | ((with_reducible apply awp_cond); (focus (simp only [St.ev, St.set, upd, Nat.reduceEqDiff, reduceIte, ifA, ifB, hA, nmA, Nat.reduceAdd, ifA, ifB]; exact rfl)); all_goals (intro hb; first | (cases hb; done) | ((try rw [hb]); (try simp only [dcA, dcB, dcC, dcD, dcE, Bool.not_eq_true', Bool.not_eq_false'] at hb)))) | ((with_reducible refine And.intro (?_ : enters Try.prog 65) ?_); (focus exact Try.call65); (refine callX_sat inRange_sat ?_); simp only [go_sem, and_assoc, List.nil_append, List.append_nil, List.cons_append, Nat.reduceEqDiff, reduceIte, reduceCtorEq, hA, nmA, Nat.reduceAdd, ifA, ifB, hA]) | (simp only [doneH]; simp only [ressK, resK, wrapR, go_sem, Nat.reduceAdd, Nat.reduceMul, Nat.reduceEqDiff, Nat.reduceLT, reduceIte, reduceCtorEq, hA, nmA, Nat.reduceAdd, ifA, ifB]) | (exfalso; omega) | fail)
    all_goals (first | (exact hQ false n (by simp [hno]) (Nat.le_refl _)) | skip)
    trace_state

/-- No slice in a cell is taken for an empty one of elements of several cells. -/
theorem awp_nilcellE {P : Program} {Γ : Ctx} {nt : Nat} {Q : Exit → St → Prop} {s : St} {c : Code} (es o i : Nat) (zs : List AV) (ct : Cont) (hc : ct.simple = true) (h0 : ct.len = 0) (ho : s.heap o = some ⟨true, .cells zs⟩) (hi : zs[i]? = some (.val (.slice none 0 0)))
    (h : AWP Γ nt P c Q ⟨s.tmps, upd (upd s.heap o (some ⟨true, .cells (zs.set i (.sl s.next 0 0 es none))⟩)) s.next (some ⟨true, ct⟩), s.next + 1⟩) : AWP Γ nt P c Q s := by
  intro hS C hC hr m a w hs
  have hm := hs.sim.mono_next (⟨0, 0, 0, []⟩ : Ab.Loc)
  have hf : ∀ o, ct.flat o = [] := fun o => List.eq_nil_of_length_eq_zero (by rw [flat_len]; exact h0)
  have hadd : Sim C.F C.W (upd m s.next (some ⟨0, 0, 0, []⟩)) (upd s.heap s.next (some ⟨true, ct⟩)) (s.next + 1) w :=
    hs.sim.add [] rfl rfl rfl (Nat.le_refl _) (fun _ _ _ => rfl) (by simp) (by simp) ⟨0, 0, 0, []⟩ ⟨true, ct⟩ rfl (by simp [blks_simple hc]) (by simp [blks_simple hc]) (by simp [blks_simple hc]) (by simp [hf])
      ⟨fun j a hj => (by rw [hf] at hj; simp at hj), by cases ct <;> simp [Cont.simple] at hc <;> trivial⟩ ⟨rfl, fun h => absurd rfl h, by cases ct <;> simp [Cont.simple] at hc <;> trivial⟩
  obtain ⟨l, hl, hok⟩ := hs.sim.obj o _ ho
  have hon : o ≠ s.next := fun e => by subst e; rw [hs.sim.fresh _ (Nat.le_refl _)] at hl; cases hl
  have ho2 : (upd s.heap s.next (some ⟨true, ct⟩)) o = some ⟨true, .cells zs⟩ := by rw [upd_ne _ _ hon]; exact ho
  obtain ⟨l2, hl2, hok2⟩ := hadd.obj o _ ho2
  have hnew : Sim C.F C.W (upd m s.next (some ⟨0, 0, 0, []⟩)) (upd (upd s.heap s.next (some ⟨true, ct⟩)) o (some ⟨true, .cells (zs.set i (.sl s.next 0 0 es none))⟩)) (s.next + 1) w := by
    have hcells : CellsAt w (upd m s.next (some ⟨0, 0, 0, []⟩)) o l2 (.cells (zs.set i (.sl s.next 0 0 es none))) := by
      refine ⟨fun j a hj => ?_, trivial⟩
      simp only [Cont.flat] at hj
      by_cases e : i = j
      · subst e
        have hlt : i < zs.length := (List.getElem?_eq_some_iff.1 hi).1
        rw [List.getElem?_set_self hlt] at hj
        cases hj
        obtain ⟨v, hv, h1, hr⟩ := hok2.cells.1 i _ (by simpa [Cont.flat] using hi)
        refine ⟨v, hv, h1, ?_⟩
        simp only [Rep] at hr ⊢
        exact ⟨_, upd_same _ _ _, none, 0, hr, Nat.le_refl _, fun h => absurd rfl h, Nat.zero_add _ ▸ Nat.zero_mul _⟩
      · rw [List.getElem?_set_ne e] at hj
        exact hok2.cells.1 j a (by simpa [Cont.flat] using hj)
    refine hadd.write ho2 rfl rfl hl2 (by simp [blks]) rfl rfl rfl (Nat.le_refl _) (fun _ _ _ => rfl) (by have := hok2.len; simpa [Cont.flat] using this) hcells ?_
    obtain ⟨q1, q2, q3⟩ := hok2.opn rfl
    exact ⟨q1, q2, trivial⟩
  have hcomm : upd (upd s.heap o (some ⟨true, .cells (zs.set i (.sl s.next 0 0 es none))⟩)) s.next (some ⟨true, ct⟩) = upd (upd s.heap s.next (some ⟨true, ct⟩)) o (some ⟨true, .cells (zs.set i (.sl s.next 0 0 es none))⟩) := by
    funext j
    simp only [upd]
    by_cases e1 : j = s.next
    · by_cases e2 : j = o
      · exact absurd (e2.symm.trans e1) hon
      · simp [e1, e2, Ne.symm hon]
    · simp [e1]
  refine h hS C hC hr (upd m s.next (some ⟨0, 0, 0, []⟩)) a w ⟨?_, fun o l ho => hm _ _ (hs.keep o l ho), hs.size, hs.defers, fun u => (hs.tmps u).mono hm⟩
  simp only [hcomm]
  exact hnew
theorem tk_snoc {kn : List (Int × Int)} {i : Nat} (h : i < kn.length) : kn.take (i + 1) = kn.take i ++ [kn.getD i (0, 0)] := by
  rw [List.take_succ_eq_append_getElem h, List.getD_eq_getElem?_getD, List.getElem?_eq_getElem h]; rfl
def learnK (kn : List (Int × Int)) (f : Int × Int) : List (Int × Int) := if f ∈ kn then kn else kn ++ [f]
theorem learnK_pre (kn : List (Int × Int)) (f : Int × Int) : ∃ ys, learnK kn f = kn ++ ys := by
  unfold learnK
  split
  · exact ⟨[], by simp⟩
  · exact ⟨_, rfl⟩
theorem learnK_mem {kn : List (Int × Int)} {f g : Int × Int} : g ∈ learnK kn f ↔ g ∈ kn ∨ g = f := by
  unfold learnK
  split
  · rename_i h
    exact ⟨.inl, fun h2 => h2.elim id fun e => e ▸ h⟩
  · simp
theorem learnK_nodup {kn : List (Int × Int)} {f : Int × Int} (h : kn.Nodup) : (learnK kn f).Nodup := by
  unfold learnK
  split
  · exact h
  · rename_i hn
    rw [List.nodup_append]
    exact ⟨h, by simp, fun a ha b hb e => hn (by rw [List.mem_singleton.1 hb] at e; exact e ▸ ha)⟩
theorem no_injF : ∀ (m n : Nat) (f : Nat → Nat), (∀ a, a < n → f a < m) → (∀ a b, a < n → b < n → f a = f b → a = b) → n ≤ m
  | 0, n, f, h, _ => by
    rcases Nat.eq_zero_or_pos n with h0 | h0
    · omega
    · have := h 0 h0; omega
  | m + 1, n, f, h, hi => by
    by_cases hx : ∃ a, a < n ∧ f a = m
    · obtain ⟨a0, ha0, hf0⟩ := hx
      have := no_injF m (n - 1) (fun a => f (if a < a0 then a else a + 1)) (fun a ha => by
        have h1 := h (if a < a0 then a else a + 1) (by split <;> omega)
        have h2 : f (if a < a0 then a else a + 1) ≠ m := fun e => by
          have := hi (if a < a0 then a else a + 1) a0 (by split <;> omega) ha0 (by rw [e, hf0])
          split at this <;> omega
        show f (if a < a0 then a else a + 1) < m
        omega) (fun a b ha hb hab => by
        have := hi (if a < a0 then a else a + 1) (if b < a0 then b else b + 1) (by split <;> omega) (by split <;> omega) hab
        split at this <;> split at this <;> omega)
      omega
    · have := no_injF m n f (fun a ha => by
        have := h a ha
        have : f a ≠ m := fun e => hx ⟨a, ha, e⟩
        omega) hi
      omega
theorem kn_len {kn : List (Int × Int)} {n : Nat} (hn : n ≤ 5) (h : itemsIn n kn) (hd : kn.Nodup) : kn.length ≤ 25 := by
  refine no_injF 25 kn.length (fun i => (kn.getD i (0, 0)).1.toNat * 5 + (kn.getD i (0, 0)).2.toNat) (fun a ha => ?_) fun a b ha hb e => ?_
  · have hm : kn.getD a (0, 0) ∈ kn := by rw [List.getD_eq_getElem?_getD, List.getElem?_eq_getElem ha]; exact List.getElem_mem ha
    have := h _ hm
    omega
  · have hm : kn.getD a (0, 0) ∈ kn := by rw [List.getD_eq_getElem?_getD, List.getElem?_eq_getElem ha]; exact List.getElem_mem ha
    have hm2 : kn.getD b (0, 0) ∈ kn := by rw [List.getD_eq_getElem?_getD, List.getElem?_eq_getElem hb]; exact List.getElem_mem hb
    have i1 := h _ hm
    have i2 := h _ hm2
    have e2 : kn.getD a (0, 0) = kn.getD b (0, 0) := Prod.ext (by omega) (by omega)
    rw [List.getD_eq_getElem?_getD, List.getD_eq_getElem?_getD, List.getElem?_eq_getElem hb, List.getElem?_eq_getElem ha] at e2
    have hp := (List.nodup_iff_pairwise_ne.1 hd)
    rw [List.pairwise_iff_getElem] at hp
    simp only [Option.getD_some] at e2
    rcases Nat.lt_trichotomy a b with h1 | h1 | h1
    · exact absurd e2 (hp a b ha hb h1)
    · exact h1
    · exact absurd e2.symm (hp b a hb ha h1)

/-- What is known so far: a cell that holds the slice, the row that it lies in. -/
structure KnOf (H : Hp) (N kb O : Nat) (kn : List (Int × Int)) : Prop where
  cell : H kb = some ⟨true, .cells [.sl O 0 kn.length 2 none]⟩
  row : H O = some ⟨true, .ints .i64 (flF kn)⟩
  ne : O ≠ kb
  lt : O < N ∧ kb < N


theorem factIndex_sat : SatH Try.prog 83 (fun al h n K => ∃ (A : Nat) (b : Bool) (kn : List (Int × Int)) (x y : Int), al = [.sl A 0 kn.length 2 none, .agg [.val (.int .i64 x), .val (.int .i64 y)]] ∧ (h A = some ⟨b, .ints .i64 (flF kn)⟩) ∧ (kn.length ≤ 1099511627776) ∧ ∀ (r : Int) (N : Nat), (0 ≤ r ↔ (x, y) ∈ kn) → -1 ≤ r ∧ r ≤ 1099511627776 → n ≤ N → K (.val (.int .i64 (r))) (h) (N)) := by
  refine satH_intro tabOk Try.func83 rfl 19 rfl [.tmp 4] rfl ?_
  rintro F W h n al K0 ⟨A, b, kn, x, y, rfl, hA, hl, hQ⟩
  refine ⟨Nat.le_of_ble_eq_true rfl, fun m0 hm0 hcl hlt => ?_⟩
  simp only [initT]
  have hAn := (hcl A _ hA).1
  have hfl := flF_len kn
  have a1 : (A = n) = False := eq_false (by omega)
  have a2 : (n = A) = False := eq_false (by omega)
  have hdrop : ∀ (o : Nat) (ob : Ob), h o = some ob → upd h n (some ⟨true, .cells [.val (.int .i64 x), .val (.int .i64 y)]⟩) o = some ob := fun o ob ho => by rw [upd_ne _ _ (by have := (hcl o _ ho).1; omega)]; exact ho


  repeat' (first | refine awp_seq_k fun K hK => ?_ | ((with_reducible refine hK _ ?_); clear hK K) | ((with_reducible refine aord_plain fun K hK => ?_); simp only [go_sem, Nat.reduceAdd, Nat.reduceMul, Nat.reduceEqDiff, Nat.reduceLT, reduceIte, reduceCtorEq, hA, a1, a2, nmA, Nat.reduceAdd, ifA, ifB, hA]) | refine awp_block ?_ | ((first | with_reducible refine aord_nil ?_ | refine awp_skip ?_ | refine awp_exit ?_ | refine awp_ret ?_); try simp only [rdA, Nat.reduceEqDiff, ifA, ifB, reduceIte]) | (refine awp_region tabOk rfl ?_; simp only [prep, pickO, lsA, lsB, lsC, lsD, lsE, lsF, lsG]) | fail)
  refine awp_loopE (α := Nat) (fun s p => ⟨(upd (upd (upd (upd bot 0 (s.tmps 0)) 3 (s.tmps 3)) 7 (s.tmps 7)) 8 (.val (.int .i64 (p)))), s.heap, s.next⟩) _ (fun p => by simp only [St.ev, St.set, upd, Nat.reduceEqDiff, reduceIte, ifA, ifB, hA, a1, a2, nmA, Nat.reduceAdd, ifA, ifB]; exact rfl) (fun p => (p ≤ kn.length) ∧ (∀ f, f ∈ kn.take p → f ≠ (x, y))) (fun p => kn.length - p) (0) ?_ ?_ ?_
  · (try simp only); (refine ⟨?_, ?_⟩ <;> (first | omega | (intro f hf; simp at hf)))
  · (apply Wk.over (id) n; (case' h2 => (focus ((repeat' (first | (with_reducible exact HeapX.bot) | (exact HeapX.base (by first | exact hcl | assumption) (by first | exact Nat.le_refl _ | omega | (simp only; omega)) (fun k hk => by first | rfl | (simp only [id]; done) | ((repeat rw [if_neg (by omega)]); done)) (by intro u hu hlt'; first | rfl | (simp only [List.mem_cons, List.not_mem_nil, or_false, not_or] at hu; first | (simp [upd, hu]; done) | (simp only [upd]; (repeat rw [if_neg (by omega)]))))) | (with_reducible (apply HeapX.skip; (case hx => (simp; done)))) | (with_reducible apply HeapX.none) | (with_reducible apply HeapX.old (by first | assumption | omega) (by first | exact Nat.le_refl _ | omega | (simp only; omega)) (by first | rfl | (simp only [id]; done) | ((repeat rw [if_neg (by omega)]); done))) | (with_reducible apply HeapX.upd))); all_goals (first | rfl | omega | assumption | exact Nat.le_of_ble_eq_true rfl | (simp only; omega) | (simp only [St.set, St.ev, upd, ren, renL, id, Nat.reduceEqDiff, reduceIte, hA, a1, a2, nmA, Nat.reduceAdd, ifA, ifB]; rfl) | (simp only [St.set, St.ev, upd, ren, renL, id, Nat.reduceEqDiff, reduceIte, hA, a1, a2, nmA, Nat.reduceAdd, ifA, ifB, ContLe]; done) | (exact And.intro rfl (And.intro (by first | exact Nat.le_of_ble_eq_true rfl | omega) (by first | exact Nat.le_of_ble_eq_true rfl | omega))) | (first | (simp only [St.set, St.ev, upd, ren, renL, id, Nat.reduceEqDiff, reduceIte, hA, a1, a2, nmA, Nat.reduceAdd, ifA, ifB]; exact contLe_nil) | ((repeat' (first | exact contLe_nil | refine contLe_cons (.inr ⟨?_, rfl⟩) ?_ | exact contLe_refl (n0 := n) (fun k hk => by first | rfl | (simp only [id]; done) | ((repeat rw [if_neg (by omega)]); done)) (by first | exact Nat.le_refl _ | omega | (simp only; omega)) (by assumption))); all_goals (first | rfl | (simp only [St.set, St.ev, upd, ren, renL, id, Nat.reduceEqDiff, reduceIte, hA, a1, a2, nmA, Nat.reduceAdd, ifA, ifB]; done) | ((try simp only [St.set, St.ev, upd, ren, renL, id, Nat.reduceEqDiff, reduceIte, hA, a1, a2, nmA, Nat.reduceAdd, ifA, ifB]); first | (with_reducible exact av_int (by omega)) | (with_reducible exact av_sl (by first | omega | (simp; done) | (simp; omega)) (by first | omega | (simp; done) | (simp; omega)))) | (simp only [St.set, St.ev, upd, ren, renL, id, Nat.reduceEqDiff, reduceIte, hA, a1, a2, nmA, Nat.reduceAdd, ifA, ifB, Int.natCast_add, Int.natCast_one, Int.cast_ofNat_Int, Int.natCast_zero]; done) | (simp only [St.set, St.ev, upd, ren, renL, id, Nat.reduceEqDiff, reduceIte, hA, a1, a2, nmA, Nat.reduceAdd, ifA, ifB]) | skip); done)) | (simp only [St.set, St.ev, upd, ren, renL, id, Nat.reduceEqDiff, reduceIte, hA, a1, a2, nmA, Nat.reduceAdd, ifA, ifB, ContLe]) | skip)))); (case' h1 => (focus ((repeat' (with_reducible first | exact TmpLe.bot | refine TmpLe.upd ?_ (by first | rfl | (simp only [AV.lt, decide_eq_true_eq]; first | done | omega)) ?_)); all_goals (first | rfl | (simp only [St.set, St.ev, upd, ren, renL, id, Nat.reduceEqDiff, reduceIte, hA, a1, a2, nmA, Nat.reduceAdd, ifA, ifB]; done) | ((try simp only [St.set, St.ev, upd, ren, renL, id, Nat.reduceEqDiff, reduceIte, hA, a1, a2, nmA, Nat.reduceAdd, ifA, ifB]); first | (with_reducible exact av_int (by omega)) | (with_reducible exact av_sl (by first | omega | (simp; done) | (simp; omega)) (by first | omega | (simp; done) | (simp; omega)))) | (simp only [St.set, St.ev, upd, ren, renL, id, Nat.reduceEqDiff, reduceIte, hA, a1, a2, nmA, Nat.reduceAdd, ifA, ifB, Int.natCast_add, Int.natCast_one, Int.cast_ofNat_Int, Int.natCast_zero]; done) | (simp only [St.set, St.ev, upd, ren, renL, id, Nat.reduceEqDiff, reduceIte, hA, a1, a2, nmA, Nat.reduceAdd, ifA, ifB]) | skip)))); (case h3 => (focus (first | (simp only [id, List.map_cons, List.map_nil]; decide) | decide | (simp; done) | (simp; omega) | fail))); (case h5 => (intro d hd; first | (simp at hd; done) | (simp only [List.mem_cons, List.not_mem_nil, or_false] at hd; first | (simp only [id]; omega) | (split <;> omega) | ((repeat' split) <;> omega) | ((try simp only); repeat' split; all_goals omega)))); (case h4 => (intro o l h; first | (cases h; done) | (have hlt0 := m0_lt (by assumption) h; (try (simp only at hlt0)); first | omega | (simp only; omega) | exact ⟨by (first | rfl | (simp only [id]; done) | ((repeat rw [if_neg (by omega)]); done)), by first | omega | (simp only; omega)⟩))))
  rintro i ⟨hi, hno⟩
  try simp only at hi hno
  rcases Nat.lt_or_ge i kn.length with hlt | hge
  · have hg := flF_take hlt
    have hmem := getD_memF hlt


    repeat' (first | refine awp_seq_k fun K hK => ?_ | ((with_reducible refine hK _ ?_); clear hK K) | (clear hK K; (with_reducible refine hK _ ?_); clear hK K) | ((with_reducible refine aord_plain fun K hK => ?_); simp only [go_sem, Nat.reduceAdd, Nat.reduceMul, Nat.reduceEqDiff, Nat.reduceLT, reduceIte, reduceCtorEq, hA, a1, a2, hg, nmA, Nat.reduceAdd, ifA, ifB, hA, a1, a2, hg]) | refine awp_block ?_ | ((first | with_reducible refine aord_nil ?_ | refine awp_skip ?_ | refine awp_exit ?_ | refine awp_ret ?_); try simp only [rdA, Nat.reduceEqDiff, ifA, ifB, reduceIte]) | (refine awp_region tabOk rfl ?_; simp only [prep, pickO, lsA, lsB, lsC, lsD, lsE, lsF, lsG]) | (refine awp_region_draw (nt := 19) (id := 4) tabOk [(0, true, false), (1, true, false), (2, true, false), (3, true, false), (4, true, false), (5, true, false)] (by kernel_rfl) rfl (by kernel_rfl) ?_; simp only [prep, pickO, lsA, lsB, lsC, lsD, lsE, lsF, lsG]) | ((with_reducible apply awp_cond); (focus (simp only [St.ev, St.set, upd, Nat.reduceEqDiff, reduceIte, ifA, ifB, hA, a1, a2, hg, nmA, Nat.reduceAdd, ifA, ifB]; exact rfl)); all_goals (intro hb; first | (cases hb; done) | ((try rw [hb]); (try simp only [dcA, dcB, dcC, dcD, dcE, Bool.not_eq_true', Bool.not_eq_false'] at hb)))) | ((with_reducible refine And.intro ?_ ?_); (focus omega)) | (simp only [doneH]; simp only [ressK, resK, wrapR, go_sem, Nat.reduceAdd, Nat.reduceMul, Nat.reduceEqDiff, Nat.reduceLT, reduceIte, reduceCtorEq, hA, a1, a2, hg, nmA, Nat.reduceAdd, ifA, ifB]) | (exfalso; omega) | fail)
    refine .inr ⟨_, .i64, x, y, _, _, _, rfl, rfl, rfl, rfl, rfl, rfl, ?_⟩
    repeat' ((fail_if_success (with_reducible refine isRetQ ?_)); (first | refine awp_seq_k fun K hK => ?_ | ((with_reducible refine hK _ ?_); clear hK K) | ((with_reducible refine aord_plain fun K hK => ?_); simp only [go_sem, Nat.reduceAdd, Nat.reduceMul, Nat.reduceEqDiff, Nat.reduceLT, reduceIte, reduceCtorEq, hA, a1, a2, hg, nmA, Nat.reduceAdd, ifA, ifB, hA, a1, a2, hg]) | ((first | with_reducible refine aord_nil ?_ | refine awp_skip ?_ | refine awp_exit ?_ | refine awp_ret ?_); try simp only [rdA, Nat.reduceEqDiff, ifA, ifB, reduceIte]) | (refine awp_region tabOk rfl ?_; simp only [prep, pickO, lsA, lsB, lsC, lsD, lsE, lsF, lsG]) | ((with_reducible apply awp_cond); (focus (simp only [St.ev, St.set, upd, Nat.reduceEqDiff, reduceIte, ifA, ifB, hA, a1, a2, hg, nmA, Nat.reduceAdd, ifA, ifB]; exact rfl)); all_goals (intro hb; first | (cases hb; done) | ((try rw [hb]); (try simp only [dcA, dcB, dcC, dcD, dcE, Bool.not_eq_true', Bool.not_eq_false'] at hb)))) | ((with_reducible refine And.intro ?_ ?_); (focus omega)) | fail))
    · refine awp_weaken (s' := ⟨upd bot 4 (.val (.int .i64 i)), h, n + 1⟩) (Wk.sub (tsd tsd0 rfl) hdrop rfl) ?_
      repeat' (first | ((first | with_reducible refine aord_nil ?_ | refine awp_skip ?_ | refine awp_exit ?_ | refine awp_ret ?_); try simp only [rdA, Nat.reduceEqDiff, ifA, ifB, reduceIte]) | (simp only [doneH]; simp only [ressK, resK, wrapR, go_sem, Nat.reduceAdd, Nat.reduceMul, Nat.reduceEqDiff, Nat.reduceLT, reduceIte, reduceCtorEq, hA, a1, a2, hg, nmA, Nat.reduceAdd, ifA, ifB]) | fail)
      have e : (x, y) = kn.getD i (0, 0) := Prod.ext (by dsimp only; omega) (by dsimp only; omega)
      exact hQ i (n + 1) ⟨fun _ => e ▸ hmem, fun _ => by omega⟩ (by omega) (by omega)
    · refine ⟨i + 1, ⟨by omega, fun f hf => ?_⟩, by omega, Wk.sub (tsd (tsd (tsd (tsd tsd0 rfl) rfl) rfl) rfl) (fun _ _ h => h) rfl⟩
      rw [tk_snoc hlt] at hf
      rcases List.mem_append.1 hf with h1 | h1
      · exact hno f h1
      · rw [List.mem_singleton.1 h1]
        intro e
        have e1 := congrArg Prod.fst e
        have e2 := congrArg Prod.snd e
        dsimp only at e1 e2
        omega
  · skip


    repeat' ((fail_if_success (with_reducible refine isRetQ ?_)); (first | refine awp_seq_k fun K hK => ?_ | ((with_reducible refine hK _ ?_); clear hK K) | (clear hK K; (with_reducible refine hK _ ?_); clear hK K) | ((with_reducible refine aord_plain fun K hK => ?_); simp only [go_sem, Nat.reduceAdd, Nat.reduceMul, Nat.reduceEqDiff, Nat.reduceLT, reduceIte, reduceCtorEq, hA, a1, a2, nmA, Nat.reduceAdd, ifA, ifB, hA]) | refine awp_block ?_ | ((first | with_reducible refine aord_nil ?_ | refine awp_skip ?_ | refine awp_exit ?_ | refine awp_ret ?_); try simp only [rdA, Nat.reduceEqDiff, ifA, ifB, reduceIte]) | (refine awp_region tabOk rfl ?_; simp only [prep, pickO, lsA, lsB, lsC, lsD, lsE, lsF, lsG]) | (refine awp_region_draw (nt := 19) (id := 4) tabOk [(0, true, false), (1, true, false), (2, true, false), (3, true, false), (4, true, false), (5, true, false)] (by kernel_rfl) rfl (by kernel_rfl) ?_; simp only [prep, pickO, lsA, lsB, lsC, lsD, lsE, lsF, lsG]) | ((with_reducible apply awp_cond); (focus (simp only [St.ev, St.set, upd, Nat.reduceEqDiff, reduceIte, ifA, ifB, hA, a1, a2, nmA, Nat.reduceAdd, ifA, ifB]; exact rfl)); all_goals (intro hb; first | (cases hb; done) | ((try rw [hb]); (try simp only [dcA, dcB, dcC, dcD, dcE, Bool.not_eq_true', Bool.not_eq_false'] at hb)))) | ((with_reducible refine And.intro ?_ ?_); (focus omega)) | (exfalso; omega) | fail))
    refine awp_weaken (s' := ⟨upd bot 4 (.val (.int .i64 (-1))), h, n + 1⟩) (Wk.sub (tsd tsd0 rfl) hdrop rfl) ?_
    repeat' (first | ((first | with_reducible refine aord_nil ?_ | refine awp_skip ?_ | refine awp_exit ?_ | refine awp_ret ?_); try simp only [rdA, Nat.reduceEqDiff, ifA, ifB, reduceIte]) | (simp only [doneH]; simp only [ressK, resK, wrapR, go_sem, Nat.reduceAdd, Nat.reduceMul, Nat.reduceEqDiff, Nat.reduceLT, reduceIte, reduceCtorEq, hA, a1, a2, nmA, Nat.reduceAdd, ifA, ifB]) | fail)
    rw [List.take_of_length_le (by omega)] at hno
    exact hQ (-1) (n + 1) ⟨fun h => by omega, fun h => absurd rfl (hno _ h)⟩ (by omega) (by omega)


theorem factContains_sat : SatH Try.prog 62 (fun al h n K => ∃ (A : Nat) (b : Bool) (kn : List (Int × Int)) (x y : Int), al = [.sl A 0 kn.length 2 none, .agg [.val (.int .i64 x), .val (.int .i64 y)]] ∧ (h A = some ⟨b, .ints .i64 (flF kn)⟩) ∧ (kn.length ≤ 1099511627776) ∧ ∀ N : Nat, n ≤ N → K (.val (.bool ((decide ((x, y) ∈ kn))))) (h) (N)) := by
  refine satH_intro tabOk Try.func62 rfl 9 rfl [.tmp 4] rfl ?_
  rintro F W h n al K0 ⟨A, b, kn, x, y, rfl, hA, hl, hQ⟩
  refine ⟨Nat.le_of_ble_eq_true rfl, fun m0 hm0 hcl hlt => ?_⟩
  simp only [initT]
  have hAn := (hcl A _ hA).1
  have hfl := flF_len kn
  have a1 : (A = n) = False := eq_false (by omega)
  have a2 : (n = A) = False := eq_false (by omega)
  have hdrop : ∀ (o : Nat) (ob : Ob), h o = some ob → upd h n (some ⟨true, .cells [.val (.int .i64 x), .val (.int .i64 y)]⟩) o = some ob := fun o ob ho => by rw [upd_ne _ _ (by have := (hcl o _ ho).1; omega)]; exact ho


  repeat' (first | refine awp_seq_k fun K hK => ?_ | ((with_reducible refine hK _ ?_); clear hK K) | ((with_reducible refine aord_plain fun K hK => ?_); simp only [go_sem, Nat.reduceAdd, Nat.reduceMul, Nat.reduceEqDiff, Nat.reduceLT, reduceIte, reduceCtorEq, hA, a1, a2, nmA, Nat.reduceAdd, ifA, ifB, hA]) | ((first | with_reducible refine aord_nil ?_ | refine awp_skip ?_ | refine awp_exit ?_ | refine awp_ret ?_); try simp only [rdA, Nat.reduceEqDiff, ifA, ifB, reduceIte]) | (refine awp_region tabOk rfl ?_; simp only [prep, pickO, lsA, lsB, lsC, lsD, lsE, lsF, lsG]) | ((with_reducible refine And.intro (?_ : enters Try.prog 83) ?_); (focus exact Try.call83); (refine callX_satH factIndex_sat ?_); simp only [go_sem, and_assoc, List.nil_append, List.append_nil, List.cons_append, Nat.reduceEqDiff, reduceIte, reduceCtorEq, hA, a1, a2, nmA, Nat.reduceAdd, ifA, ifB, hA]) | fail)
  refine ⟨b, kn, rfl, x, y, rfl, rfl, rfl, hl, fun r N hr hr2 hN => ?_⟩
  have hrd : decide (r ≥ 0) = decide ((x, y) ∈ kn) := decide_eq_decide.2 hr

  repeat' ((fail_if_success (with_reducible refine isRetQ ?_)); (first | ((with_reducible refine hK _ ?_); clear hK K) | ((with_reducible refine aord_plain fun K hK => ?_); simp only [go_sem, Nat.reduceAdd, Nat.reduceMul, Nat.reduceEqDiff, Nat.reduceLT, reduceIte, reduceCtorEq, hA, a1, a2, nmA, Nat.reduceAdd, ifA, ifB, hrd]) | ((first | with_reducible refine aord_nil ?_ | refine awp_skip ?_ | refine awp_exit ?_ | refine awp_ret ?_); try simp only [rdA, Nat.reduceEqDiff, ifA, ifB, reduceIte]) | fail))
  refine awp_weaken (s' := ⟨upd bot 4 (.val (.bool (decide ((x, y) ∈ kn)))), h, N⟩) (Wk.sub (tsd tsd0 ?_) hdrop rfl) ?_
  · rfl
  repeat' (first | ((first | with_reducible refine aord_nil ?_ | refine awp_skip ?_ | refine awp_exit ?_ | refine awp_ret ?_); try simp only [rdA, Nat.reduceEqDiff, ifA, ifB, reduceIte]) | (simp only [doneH]; simp only [ressK, resK, wrapR, go_sem, Nat.reduceAdd, Nat.reduceMul, Nat.reduceEqDiff, Nat.reduceLT, reduceIte, reduceCtorEq, hA, a1, a2, nmA, Nat.reduceAdd, ifA, ifB]) | fail)
  exact hQ N (by omega)


theorem learn_sat : SatH Try.prog 79 (fun al h n K => ∃ (kb O : Nat) (kn : List (Int × Int)) (x y : Int), al = [.agg [.val (.int .i64 x), .val (.int .i64 y)], .ref kb 0] ∧ (KnOf h n kb O kn) ∧ (kn.length ≤ 100) ∧ ∀ (H : Hp) (N O2 : Nat), KnOf H N kb O2 (learnK kn (x, y)) → (∀ u, u < n → u ≠ kb → u ≠ O → H u = h u) → (∃ ys, H O = some ⟨true, .ints .i64 (flF (kn ++ ys))⟩) → (O2 = O ∨ n ≤ O2) → n ≤ N → K (.tup []) (H) (N)) := by
  refine satH_intro tabOk Try.func79 rfl 11 rfl [] rfl ?_
  rintro F W h n al K0 ⟨kb, O, kn, x, y, rfl, hK, hl, hQ⟩
  refine ⟨Nat.le_of_ble_eq_true rfl, fun m0 hm0 hcl hlt => ?_⟩
  simp only [initT]
  obtain ⟨hc, hr, hne, hOn, hkn⟩ := hK
  have hfl := flF_len kn
  have a1 : (kb = n) = False := eq_false (by omega)
  have a2 : (n = kb) = False := eq_false (by omega)
  have a3 : (O = n) = False := eq_false (by omega)
  have a4 : (n = O) = False := eq_false (by omega)
  have a5 : (O = kb) = False := eq_false hne
  have a6 : (kb = O) = False := eq_false (Ne.symm hne)


  repeat' (first | refine awp_seq_k fun K hK => ?_ | ((with_reducible refine hK _ ?_); clear hK K) | ((with_reducible refine aord_plain fun K hK => ?_); simp only [go_sem, Nat.reduceAdd, Nat.reduceMul, Nat.reduceEqDiff, Nat.reduceLT, reduceIte, reduceCtorEq, hc, hr, a1, a2, a3, a4, a5, a6, nmA, Nat.reduceAdd, ifA, ifB, hc, hr]) | ((first | with_reducible refine aord_nil ?_ | refine awp_skip ?_ | refine awp_exit ?_ | refine awp_ret ?_); try simp only [rdA, Nat.reduceEqDiff, ifA, ifB, reduceIte]) | (refine awp_region tabOk rfl ?_; simp only [prep, pickO, lsA, lsB, lsC, lsD, lsE, lsF, lsG]) | ((with_reducible refine And.intro (?_ : enters Try.prog 62) ?_); (focus exact Try.call62); (refine callX_satH factContains_sat ?_); simp only [go_sem, and_assoc, List.nil_append, List.append_nil, List.cons_append, Nat.reduceEqDiff, reduceIte, reduceCtorEq, hc, hr, a1, a2, a3, a4, a5, a6, nmA, Nat.reduceAdd, ifA, ifB, hc, hr]) | fail)
  refine ⟨true, kn, rfl, x, y, rfl, rfl, rfl, by omega, fun N hN => ?_⟩
  have b1 : (kb = N) = False := eq_false (by omega)
  have b2 : ∀ k, (kb = N + k) = False := fun k => eq_false (by omega)
  have b3 : (N = kb) = False := eq_false (by omega)
  have b4 : ∀ k, (N + k = kb) = False := fun k => eq_false (by omega)
  have b5 : (O = N) = False := eq_false (by omega)
  have b6 : ∀ k, (O = N + k) = False := fun k => eq_false (by omega)
  have b7 : (N = O) = False := eq_false (by omega)
  have b8 : ∀ k, (N + k = O) = False := fun k => eq_false (by omega)
  have b9 : (n = N) = False := eq_false (by omega)
  have c1 : ∀ k, (n = N + k) = False := fun k => eq_false (by omega)
  have c2 : (N = n) = False := eq_false (by omega)
  have c3 : ∀ k, (N + k = n) = False := fun k => eq_false (by omega)
  have hNm := And.intro hc (And.intro hr (And.intro a1 (And.intro a2 (And.intro a3 (And.intro a4 (And.intro a5 (And.intro a6 (And.intro b1 (And.intro b2 (And.intro b3 (And.intro b4 (And.intro b5 (And.intro b6 (And.intro b7 (And.intro b8 (And.intro b9 (And.intro c1 (And.intro c2 c3))))))))))))))))))
  by_cases hm : (x, y) ∈ kn
  · have hd : decide ((x, y) ∈ kn) = true := decide_eq_true hm
    have el : learnK kn (x, y) = kn := by rw [learnK, if_pos hm]
    rw [el] at hQ


    repeat' (first | ((with_reducible refine hK _ ?_); clear hK K) | ((with_reducible refine aord_plain fun K hK => ?_); simp only [go_sem, Nat.reduceAdd, Nat.reduceMul, Nat.reduceEqDiff, Nat.reduceLT, reduceIte, reduceCtorEq, hNm, nmA, Nat.reduceAdd, ifA, ifB, hNm, hd]) | ((first | with_reducible refine aord_nil ?_ | refine awp_skip ?_ | refine awp_exit ?_ | refine awp_ret ?_); try simp only [rdA, Nat.reduceEqDiff, ifA, ifB, reduceIte]) | ((with_reducible apply awp_cond); (focus (simp only [St.ev, St.set, upd, Nat.reduceEqDiff, reduceIte, ifA, ifB, hNm, nmA, Nat.reduceAdd, ifA, ifB]; exact rfl)); all_goals (intro hb; first | (cases hb; done) | ((try rw [hb]); (try simp only [dcA, dcB, dcC, dcD, dcE, Bool.not_eq_true', Bool.not_eq_false'] at hb)))) | (simp only [doneH]; simp only [ressK, resK, wrapR, go_sem, Nat.reduceAdd, Nat.reduceMul, Nat.reduceEqDiff, Nat.reduceLT, reduceIte, reduceCtorEq, hNm, nmA, Nat.reduceAdd, ifA, ifB]) | fail)
    exact hQ (upd h n (some ⟨true, .cells [.val (.int .i64 x), .val (.int .i64 y)]⟩)) N O ⟨by rw [upd_ne _ _ (by omega)]; exact hc, by rw [upd_ne _ _ (by omega)]; exact hr, hne, by omega, by omega⟩ (fun u hu _ _ => upd_ne _ _ (by omega)) ⟨[], by rw [upd_ne _ _ (by omega), List.append_nil]; exact hr⟩ (.inl rfl) (by omega)
  · have hd : decide ((x, y) ∈ kn) = false := decide_eq_false hm
    have el : learnK kn (x, y) = kn ++ [(x, y)] := by rw [learnK, if_neg hm]
    have efl : flF (kn ++ [(x, y)]) = flF kn ++ [x, y] := by rw [flF_app]; rfl
    have ell : (kn ++ [(x, y)]).length = kn.length + 1 := by rw [List.length_append]; rfl
    rw [el] at hQ


    repeat' (first | ((with_reducible refine hK _ ?_); clear hK K) | ((with_reducible refine aord_plain fun K hK => ?_); simp only [go_sem, Nat.reduceAdd, Nat.reduceMul, Nat.reduceEqDiff, Nat.reduceLT, reduceIte, reduceCtorEq, hNm, nmA, Nat.reduceAdd, ifA, ifB, hNm, hd]) | ((first | with_reducible refine aord_nil ?_ | refine awp_skip ?_ | refine awp_exit ?_ | refine awp_ret ?_); try simp only [rdA, Nat.reduceEqDiff, ifA, ifB, reduceIte]) | (refine awp_region tabOk rfl ?_; simp only [prep, pickO, lsA, lsB, lsC, lsD, lsE, lsF, lsG]) | ((with_reducible apply awp_cond); (focus (simp only [St.ev, St.set, upd, Nat.reduceEqDiff, reduceIte, ifA, ifB, hNm, nmA, Nat.reduceAdd, ifA, ifB]; exact rfl)); all_goals (intro hb; first | (cases hb; done) | ((try rw [hb]); (try simp only [dcA, dcB, dcC, dcD, dcE, Bool.not_eq_true', Bool.not_eq_false'] at hb)))) | fail)
    refine ⟨_, _, ⟨rfl, rfl⟩, Nat.le_of_ble_eq_true rfl, ?_⟩
    (try dsimp only)
    repeat' (first | ((with_reducible refine hK _ ?_); clear hK K) | ((with_reducible refine aord_plain fun K hK => ?_); simp only [go_sem, Nat.reduceAdd, Nat.reduceMul, Nat.reduceEqDiff, Nat.reduceLT, reduceIte, reduceCtorEq, hNm, nmA, Nat.reduceAdd, ifA, ifB, hNm, hd]) | fail)
    refine aAppendB_ints rfl rfl rfl rfl (Nat.le_of_ble_eq_true rfl) (by decide) (by decide) (by omega) (by (try dsimp only); (repeat (first | rw [upd_same] | rw [upd_ne _ _ (by omega)]))) (by (try dsimp only); (repeat (first | rw [upd_same] | rw [upd_ne _ _ (by omega)])); exact hr) hfl rfl (by decide) (by omega) ?_ ?_
    · repeat' (first | ((with_reducible refine hK _ ?_); clear hK K) | ((with_reducible refine aord_plain fun K hK => ?_); simp only [go_sem, Nat.reduceAdd, Nat.reduceMul, Nat.reduceEqDiff, Nat.reduceLT, reduceIte, reduceCtorEq, hNm, nmA, Nat.reduceAdd, ifA, ifB, hNm, hd]) | ((first | with_reducible refine aord_nil ?_ | refine awp_skip ?_ | refine awp_exit ?_ | refine awp_ret ?_); try simp only [rdA, Nat.reduceEqDiff, ifA, ifB, reduceIte]) | (simp only [doneH]; simp only [ressK, resK, wrapR, go_sem, Nat.reduceAdd, Nat.reduceMul, Nat.reduceEqDiff, Nat.reduceLT, reduceIte, reduceCtorEq, hNm, nmA, Nat.reduceAdd, ifA, ifB]) | fail)
      refine hQ _ (N + 2) (N + 1) ⟨?_, ?_, by omega, by omega, by omega⟩ (fun u h1 h2 h3 => ?_) ⟨[], ?_⟩ (.inr (by omega)) (by omega)
      · (try dsimp only); (repeat (first | rw [upd_same] | rw [upd_ne _ _ (by omega)])); rw [ell]
      · (try dsimp only); (repeat (first | rw [upd_same] | rw [upd_ne _ _ (by omega)])); rw [efl]
      · (try dsimp only); (repeat (first | rw [upd_same] | rw [upd_ne _ _ (by omega)]))
      · (try dsimp only); (repeat (first | rw [upd_same] | rw [upd_ne _ _ (by omega)])); rw [List.append_nil]; exact hr
    · repeat' (first | ((with_reducible refine hK _ ?_); clear hK K) | ((with_reducible refine aord_plain fun K hK => ?_); simp only [go_sem, Nat.reduceAdd, Nat.reduceMul, Nat.reduceEqDiff, Nat.reduceLT, reduceIte, reduceCtorEq, hNm, nmA, Nat.reduceAdd, ifA, ifB, hNm, hd]) | ((first | with_reducible refine aord_nil ?_ | refine awp_skip ?_ | refine awp_exit ?_ | refine awp_ret ?_); try simp only [rdA, Nat.reduceEqDiff, ifA, ifB, reduceIte]) | (simp only [doneH]; simp only [ressK, resK, wrapR, go_sem, Nat.reduceAdd, Nat.reduceMul, Nat.reduceEqDiff, Nat.reduceLT, reduceIte, reduceCtorEq, hNm, nmA, Nat.reduceAdd, ifA, ifB]) | fail)
      refine hQ _ (N + 1) O ⟨?_, ?_, hne, by omega, by omega⟩ (fun u h1 h2 h3 => ?_) ⟨[(x, y)], ?_⟩ (.inl rfl) (by omega)
      · (try dsimp only); (repeat (first | rw [upd_same] | rw [upd_ne _ _ (by omega)])); rw [ell]
      · (try dsimp only); (repeat (first | rw [upd_same] | rw [upd_ne _ _ (by omega)])); rw [efl]
      · (try dsimp only); (repeat (first | rw [upd_same] | rw [upd_ne _ _ (by omega)]))
      · (try dsimp only); (repeat (first | rw [upd_same] | rw [upd_ne _ _ (by omega)])); rw [efl]

end Go.Proofs.Ytacmgdaonacmeaa
