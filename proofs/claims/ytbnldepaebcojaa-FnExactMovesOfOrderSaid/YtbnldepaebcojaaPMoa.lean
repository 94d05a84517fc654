/- Contracts of functions of the program. -/
import Derived.Test.YtbnldepaebcojaaTab
import Derived.Test.YtbnldepaebcojaaW1
import Derived.ScopeJumps
namespace Go.Proofs.Ytbnldepaebcojaa
open Go Go.Ab
set_option linter.all false
set_option maxHeartbeats 4000000
theorem rdA : (∀ (K : St → Prop) (Q : Exit → St → Prop) (s : St), thenA K Q .normal s = K s) ∧ (∀ (K : St → Prop) (Q : Exit → St → Prop) (s : St) (i : Nat), thenA K Q (.exit i) s = Q (.exit i) s) ∧ (∀ (K : St → Prop) (Q : Exit → St → Prop) (s : St) (i : Nat), thenA K Q (.goto i) s = Q (.goto i) s) ∧ (∀ (K : St → Prop) (Q : Exit → St → Prop) (s : St), thenA K Q .ret s = Q .ret s) ∧ (∀ (id : Nat) (Q : Exit → St → Prop) (s : St), blockA id Q .normal s = Q .normal s) ∧ (∀ (id : Nat) (Q : Exit → St → Prop) (s : St), blockA id Q (.exit id) s = Q .normal s) ∧ (∀ (id : Nat) (Q : Exit → St → Prop) (s : St) (i : Nat), blockA id Q (.exit i) s = if i = id then Q .normal s else Q (.exit i) s) ∧ (∀ (id : Nat) (Q : Exit → St → Prop) (s : St) (i : Nat), blockA id Q (.goto i) s = Q (.goto i) s) ∧ (∀ (id : Nat) (Q : Exit → St → Prop) (s : St), blockA id Q .ret s = Q .ret s) := ⟨thenA_normal, thenA_exit, thenA_goto, thenA_ret, blockA_normal, blockA_same, blockA_exit, blockA_goto, blockA_ret⟩
theorem dcA : (∀ (p : Prop) [Decidable p], (decide p = true) = p) ∧ (∀ (p : Prop) [Decidable p], (decide p = false) = ¬ p) ∧ (∀ a b : Int, (¬ a < b) = (b ≤ a)) ∧ (∀ a b : Int, (¬ a ≤ b) = (b < a)) := ⟨fun _ _ => decide_eq_true_eq, fun _ _ => propext decide_eq_false_iff_not, fun _ _ => propext Int.not_lt, fun _ _ => propext Int.not_le⟩
theorem nmA : (∀ a b : Nat, (a + b = a) = (b = 0)) ∧ (∀ a b : Nat, (a = a + b) = (b = 0)) ∧ (∀ a b c : Nat, a + b + c = a + (b + c)) := ⟨fun _ _ => propext Nat.add_eq_left, fun _ _ => propext Nat.left_eq_add, Nat.add_assoc⟩
theorem ifA {α : Sort _} {h : Decidable False} (t e : α) : (@ite α False h t e) = e := if_false t e
theorem ifB {α : Sort _} {h : Decidable True} (t e : α) : (@ite α True h t e) = t := if_true t e
theorem dcB {α : Type _} [BEq α] [LawfulBEq α] {a b : α} : a == b ↔ a = b := beq_iff_eq
theorem dcC {α : Type _} [BEq α] [LawfulBEq α] {a b : α} : a != b ↔ a ≠ b := bne_iff_ne
theorem dcD {α : Type _} [BEq α] [LawfulBEq α] {a b : α} : (a == b) = false ↔ a ≠ b := beq_eq_false_iff_ne
theorem dcE {α : Type _} [BEq α] [LawfulBEq α] {a b : α} : (a != b) = false ↔ a = b := bne_eq_false_iff_eq
theorem lsA {α : Type _} {β : Type _} {f : α → β} {a : α} {l : List α} : (a :: l).map f = f a :: l.map f := List.map_cons
theorem lsB {α : Type _} {β : Type _} {f : α → β} : ([] : List α).map f = [] := List.map_nil
theorem lsC {α : Type _} {xs : List α} {i : Nat} : xs.toArray[i]? = xs[i]? := List.getElem?_toArray
theorem lsD {α : Type _} {a : α} {l : List α} {n : Nat} : (a :: l)[n + 1]? = l[n]? := List.getElem?_cons_succ
theorem lsE {α : Type _} {a : α} {l : List α} : (a :: l)[0]? = some a := List.getElem?_cons_zero
theorem lsF {α : Type _} {β : Type _} (a : α) (f : α → Option β) : (some a).bind f = f a := Option.bind_some a f
theorem lsG {α : Type _} {β : Type _} (a : α) (f : α → β) : (some a).map f = some (f a) := Option.map_some a f
attribute [go_sem] AV.parts List.length_set List.set_cons_zero List.set_cons_succ List.getElem?_cons_zero List.getElem?_cons_succ Option.any_some Nat.lt_add_one tab List.nil_append List.append_nil

theorem inRange_sat : Sat Try.prog 25 (fun ds Q => ∃ n lo hi, ds = [.val (.int .i64 n), .val (.int .i64 lo), .val (.int .i64 hi)] ∧ Q (.val (.bool (decide (lo ≤ n) && decide (n ≤ hi))))) := by
  refine sat_intro tabOk Try.func25 rfl 15 rfl [.tmp 6] rfl ?_
  rintro ds Q W ⟨n, lo, hi, rfl, hQ⟩
  refine ⟨Nat.le_of_ble_eq_true rfl, ?_⟩
  simp only [initS, initT, mat.matL, mat]
  repeat' (first | refine awp_seq_k fun K hK => ?_ | ((with_reducible refine hK _ ?_); clear hK K) | ((with_reducible refine aord_plain fun K hK => ?_); simp only [go_sem, Nat.reduceAdd, Nat.reduceMul, Nat.reduceEqDiff, Nat.reduceLT, reduceIte, reduceCtorEq]) | ((with_reducible apply aord_guard); (focus (simp only [St.ev, St.set, upd, Nat.reduceEqDiff, reduceIte, ifA, ifB]; exact rfl)); all_goals (intro hb; (try simp only [Bool.not_true, Bool.not_false] at hb); first | (cases hb; done) | ((try rw [hb]); (try simp only [Bool.not_eq_true', Bool.not_eq_false', Bool.and_eq_true, dcA, dcB, dcC, dcD, dcE] at hb); (try (revert hb; with_reducible refine true_imp_iff.2 ?_)); first | (intro K hK; simp only [go_sem, Nat.reduceAdd, Nat.reduceMul, Nat.reduceEqDiff, Nat.reduceLT, reduceIte, reduceCtorEq]) | (simp only [St.ev, St.set, upd, Nat.reduceEqDiff, reduceIte, ifA, ifB]) | skip))) | ((first | with_reducible refine aord_nil ?_ | refine awp_skip ?_ | refine awp_exit ?_ | refine awp_ret ?_); try simp only [rdA, Nat.reduceEqDiff, ifA, ifB, reduceIte]) | (refine awp_region tabOk rfl ?_; simp only [prep, pickO, lsA, lsB, lsC, lsD, lsE, lsF, lsG]) | fail)
  all_goals simp only [St.set, St.ev, doneQ, doneH, ressK, resK, wrapR, AV.ids, AV.idsL, retK, retsK, upd, Nat.reduceEqDiff, reduceIte, ifA, ifB, List.nodup_nil, List.nodup_cons, List.not_mem_nil, not_false_eq_true, true_and, and_true, exists_eq_left', Option.some.injEq, rLoad, cellOf, tab, Ty.isAgg, Ty.one, Bool.false_eq_true]
  · simp_all
  · simpa [show ¬ lo ≤ n by omega] using hQ



theorem getD_set_same {α : Type} {l : List α} {i : Nat} {a d : α} (h : i < l.length) : (l.set i a).getD i d = a := by simp [List.getD_eq_getElem?_getD, h]
theorem getD_set_ne' {α : Type} {l : List α} {i j : Nat} {a d : α} (h : i ≠ j) : (l.set i a).getD j d = l.getD j d := by simp [List.getD_eq_getElem?_getD, List.getElem?_set_ne h]
theorem ext_getD {l m : List Int} (h : l.length = m.length) (hh : ∀ j, j < l.length → l.getD j 0 = m.getD j 0) : l = m := by
  apply List.ext_getElem h
  intro j h1 h2
  have := hh j h1
  simpa [List.getD_eq_getElem?_getD, h1, h2] using this


theorem toIntS_sat : Sat Try.prog 12 (fun ds Q => ∃ xs, ds = [.row (.ints .i64 xs)] ∧ xs.length ≤ 1099511627776 ∧ Q (.row (.ints .i64 xs))) := by
  refine sat_intro tabOk Try.func12 rfl 22 rfl [.tmp 2] rfl ?_
  rintro ds Q W ⟨xs, rfl, hlen, hQ⟩
  refine ⟨Nat.le_of_ble_eq_true rfl, ?_⟩
  simp only [initS, initT, mat.matL, mat, Cont.len]
  repeat' (first | refine awp_seq_k fun K hK => ?_ | ((with_reducible refine hK _ ?_); clear hK K) | ((with_reducible refine aord_plain fun K hK => ?_); simp only [go_sem, Nat.reduceAdd, Nat.reduceMul, Nat.reduceEqDiff, Nat.reduceLT, reduceIte, reduceCtorEq]) | refine awp_block ?_ | ((first | with_reducible refine aord_nil ?_ | refine awp_skip ?_ | refine awp_exit ?_ | refine awp_ret ?_); try simp only [rdA, Nat.reduceEqDiff, ifA, ifB, reduceIte]) | (refine awp_region tabOk rfl ?_; simp only [prep, pickO, lsA, lsB, lsC, lsD, lsE, lsF, lsG]) | ((with_reducible refine And.intro ?_ ?_); (focus omega)) | fail)
  · refine awp_loop (fun p : Nat × List Int => ⟨upd (upd (upd bot 4 (.val (.int .i64 p.1))) 3 (.sl 1 0 xs.length 1 none)) 0 (.sl 0 0 xs.length 1 none), upd (upd none' 0 (some ⟨false, .ints .i64 xs⟩)) 1 (some ⟨true, .ints .i64 p.2⟩), 2⟩) (fun p => p.1 ≤ xs.length ∧ p.2.length = xs.length ∧ ∀ j, j < p.1 → p.2.getD j 0 = xs.getD j 0) (fun p => xs.length - p.1) (0, List.replicate xs.length 0) ⟨by simp, by simp, by simp⟩ ?_ ?_
    · (apply Wk.same; (case' h2 => (focus ((repeat' (with_reducible first | exact HeapX.bot | (apply HeapX.skip; (case hx => (simp; done))) | apply HeapX.none | apply HeapX.upd)); all_goals (first | rfl | exact Nat.le_of_ble_eq_true rfl | (simp only [St.set, St.ev, upd, ren, renL, id, Nat.reduceEqDiff, reduceIte, ContLe]; done) | (exact And.intro rfl (And.intro (by first | exact Nat.le_of_ble_eq_true rfl | omega) (by first | exact Nat.le_of_ble_eq_true rfl | omega))) | (first | (simp only [St.set, St.ev, upd, ren, renL, id, Nat.reduceEqDiff, reduceIte]; exact contLe_nil) | ((repeat' (first | exact contLe_nil | refine contLe_cons (.inr ⟨?_, rfl⟩) ?_)); all_goals (first | rfl | (simp only [St.set, St.ev, upd, ren, renL, id, Nat.reduceEqDiff, reduceIte]; done) | ((try simp only [St.set, St.ev, upd, ren, renL, id, Nat.reduceEqDiff, reduceIte]); first | (with_reducible exact av_int (by omega)) | (with_reducible exact av_sl (by first | omega | (simp; done) | (simp; omega)) (by first | omega | (simp; done) | (simp; omega)))) | (simp only [St.set, St.ev, upd, ren, renL, id, Nat.reduceEqDiff, reduceIte, Int.natCast_add, Int.natCast_one, Int.cast_ofNat_Int, Int.natCast_zero]; done) | (simp only [St.set, St.ev, upd, ren, renL, id, Nat.reduceEqDiff, reduceIte]) | skip); done)) | (simp only [St.set, St.ev, upd, ren, renL, id, Nat.reduceEqDiff, reduceIte, ContLe]) | skip)))); (case' h1 => (focus ((repeat' (with_reducible first | exact TmpLe.bot | refine TmpLe.upd ?_ rfl ?_)); all_goals (first | rfl | (simp only [St.set, St.ev, upd, ren, renL, id, Nat.reduceEqDiff, reduceIte]; done) | ((try simp only [St.set, St.ev, upd, ren, renL, id, Nat.reduceEqDiff, reduceIte]); first | (with_reducible exact av_int (by omega)) | (with_reducible exact av_sl (by first | omega | (simp; done) | (simp; omega)) (by first | omega | (simp; done) | (simp; omega)))) | (simp only [St.set, St.ev, upd, ren, renL, id, Nat.reduceEqDiff, reduceIte, Int.natCast_add, Int.natCast_one, Int.cast_ofNat_Int, Int.natCast_zero]; done) | (simp only [St.set, St.ev, upd, ren, renL, id, Nat.reduceEqDiff, reduceIte]) | skip)))); (case h3 => (focus (first | (simp only [id, List.map_cons, List.map_nil]; decide) | decide | (simp; done) | (simp; omega) | fail))); (case h4 => (intro o l h; first | (cases h; done) | (have hlt0 := m0_lt (by assumption) h; (try (simp only at hlt0)); first | omega | (simp only; omega) | exact ⟨by (first | rfl | (simp only [id]; done) | ((repeat rw [if_neg (by omega)]); done)), by first | omega | (simp only; omega)⟩))))
    · rintro ⟨i, ys⟩ ⟨hi, hl, hj⟩
      simp only at hi hl hj
      repeat' (first | refine awp_seq_k fun K hK => ?_ | ((with_reducible refine hK _ ?_); clear hK K) | (clear hK K; (with_reducible refine hK _ ?_); clear hK K) | ((with_reducible refine aord_plain fun K hK => ?_); simp only [go_sem, Nat.reduceAdd, Nat.reduceMul, Nat.reduceEqDiff, Nat.reduceLT, reduceIte, reduceCtorEq]) | refine awp_block ?_ | ((first | with_reducible refine aord_nil ?_ | refine awp_skip ?_ | refine awp_exit ?_ | refine awp_ret ?_); try simp only [rdA, Nat.reduceEqDiff, ifA, ifB, reduceIte]) | (refine awp_region tabOk rfl ?_; simp only [prep, pickO, lsA, lsB, lsC, lsD, lsE, lsF, lsG]) | ((with_reducible apply awp_cond); (focus (simp only [St.ev, St.set, upd, Nat.reduceEqDiff, reduceIte, ifA, ifB]; exact rfl)); all_goals (intro hb; first | (cases hb; done) | ((try rw [hb]); (try simp only [dcA, dcB, dcC, dcD, dcE, Bool.not_eq_true', Bool.not_eq_false'] at hb)))) | ((with_reducible refine And.intro ?_ ?_); (focus omega)) | fail)
      · refine ⟨(i + 1, ys.set i (xs.getD i 0)), ⟨by omega, by simp [hl], fun j h => ?_⟩, by simp only; omega, ?_⟩
        · rcases Nat.lt_or_ge j i with h1 | h1
          · rw [getD_set_ne' (by omega)]; exact hj j h1
          · have : j = i := by simp only at h; omega
            subst this
            exact getD_set_same (by omega)
        · (apply Wk.same; (case' h2 => (focus ((repeat' (with_reducible first | exact HeapX.bot | (apply HeapX.skip; (case hx => (simp; done))) | apply HeapX.none | apply HeapX.upd)); all_goals (first | rfl | exact Nat.le_of_ble_eq_true rfl | (simp only [St.set, St.ev, upd, ren, renL, id, Nat.reduceEqDiff, reduceIte, ContLe]; done) | (exact And.intro rfl (And.intro (by first | exact Nat.le_of_ble_eq_true rfl | omega) (by first | exact Nat.le_of_ble_eq_true rfl | omega))) | (first | (simp only [St.set, St.ev, upd, ren, renL, id, Nat.reduceEqDiff, reduceIte]; exact contLe_nil) | ((repeat' (first | exact contLe_nil | refine contLe_cons (.inr ⟨?_, rfl⟩) ?_)); all_goals (first | rfl | (simp only [St.set, St.ev, upd, ren, renL, id, Nat.reduceEqDiff, reduceIte]; done) | ((try simp only [St.set, St.ev, upd, ren, renL, id, Nat.reduceEqDiff, reduceIte]); first | (with_reducible exact av_int (by omega)) | (with_reducible exact av_sl (by first | omega | (simp; done) | (simp; omega)) (by first | omega | (simp; done) | (simp; omega)))) | (simp only [St.set, St.ev, upd, ren, renL, id, Nat.reduceEqDiff, reduceIte, Int.natCast_add, Int.natCast_one, Int.cast_ofNat_Int, Int.natCast_zero]; done) | (simp only [St.set, St.ev, upd, ren, renL, id, Nat.reduceEqDiff, reduceIte]) | skip); done)) | (simp only [St.set, St.ev, upd, ren, renL, id, Nat.reduceEqDiff, reduceIte, ContLe]) | skip)))); (case' h1 => (focus ((repeat' (with_reducible first | exact TmpLe.bot | refine TmpLe.upd ?_ rfl ?_)); all_goals (first | rfl | (simp only [St.set, St.ev, upd, ren, renL, id, Nat.reduceEqDiff, reduceIte]; done) | ((try simp only [St.set, St.ev, upd, ren, renL, id, Nat.reduceEqDiff, reduceIte]); first | (with_reducible exact av_int (by omega)) | (with_reducible exact av_sl (by first | omega | (simp; done) | (simp; omega)) (by first | omega | (simp; done) | (simp; omega)))) | (simp only [St.set, St.ev, upd, ren, renL, id, Nat.reduceEqDiff, reduceIte, Int.natCast_add, Int.natCast_one, Int.cast_ofNat_Int, Int.natCast_zero]; done) | (simp only [St.set, St.ev, upd, ren, renL, id, Nat.reduceEqDiff, reduceIte]) | skip)))); (case h3 => (focus (first | (simp only [id, List.map_cons, List.map_nil]; decide) | decide | (simp; done) | (simp; omega) | fail))); (case h4 => (intro o l h; first | (cases h; done) | (have hlt0 := m0_lt (by assumption) h; (try (simp only at hlt0)); first | omega | (simp only; omega) | exact ⟨by (first | rfl | (simp only [id]; done) | ((repeat rw [if_neg (by omega)]); done)), by first | omega | (simp only; omega)⟩))))
      · simp only [St.set, St.ev, doneQ, doneH, ressK, resK, wrapR, AV.ids, AV.idsL, retK, retsK, upd, Nat.reduceEqDiff, reduceIte, ifA, ifB, List.nodup_nil, List.nodup_cons, List.not_mem_nil, not_false_eq_true, true_and, and_true, exists_eq_left', Option.some.injEq, rLoad, cellOf, tab, Ty.isAgg, Ty.one, Bool.false_eq_true]
        have : ys = xs := ext_getD hl fun j h => hj j (by omega)
        subst this
        simp only [Cont.closed, Cont.len, true_and]
        exact hQ


theorem eqIntS_sat : Sat Try.prog 13 (fun ds Q => ∃ xs ys, ds = [.row (.ints .i64 xs), .row (.ints .i64 ys)] ∧ xs.length ≤ 1099511627776 ∧ ys.length ≤ 1099511627776 ∧ Q (.val (.bool (decide (xs = ys))))) := by
  refine sat_intro tabOk Try.func13 rfl 26 rfl [.tmp 4] rfl ?_
  rintro ds Q W ⟨xs, ys, rfl, hlx, hly, hQ⟩
  refine ⟨Nat.le_of_ble_eq_true rfl, ?_⟩
  simp only [initS, initT, mat.matL, mat, Cont.len]
  repeat' (first | refine awp_seq_k fun K hK => ?_ | ((with_reducible refine hK _ ?_); clear hK K) | ((with_reducible refine aord_plain fun K hK => ?_); simp only [go_sem, Nat.reduceAdd, Nat.reduceMul, Nat.reduceEqDiff, Nat.reduceLT, reduceIte, reduceCtorEq]) | refine awp_block ?_ | ((first | with_reducible refine aord_nil ?_ | refine awp_skip ?_ | refine awp_exit ?_ | refine awp_ret ?_); try simp only [rdA, Nat.reduceEqDiff, ifA, ifB, reduceIte]) | (refine awp_region tabOk rfl ?_; simp only [prep, pickO, lsA, lsB, lsC, lsD, lsE, lsF, lsG]) | ((with_reducible apply awp_cond); (focus (simp only [St.ev, St.set, upd, Nat.reduceEqDiff, reduceIte, ifA, ifB]; exact rfl)); all_goals (intro hb; first | (cases hb; done) | ((try rw [hb]); (try simp only [dcA, dcB, dcC, dcD, dcE, Bool.not_eq_true', Bool.not_eq_false'] at hb)))) | fail)
  · simp only [St.set, St.ev, doneQ, doneH, ressK, resK, wrapR, AV.ids, AV.idsL, retK, retsK, upd, Nat.reduceEqDiff, reduceIte, ifA, ifB, List.nodup_nil, List.nodup_cons, List.not_mem_nil, not_false_eq_true, true_and, and_true, exists_eq_left', Option.some.injEq, rLoad, cellOf, tab, Ty.isAgg, Ty.one, Bool.false_eq_true]
    have : decide (xs = ys) = false := decide_eq_false (fun h => hb (by rw [h]))
    rw [this] at hQ
    exact hQ
  · have hlen : ys.length = xs.length := by omega
    refine awp_loop (fun i : Nat => ⟨upd (upd (upd bot 5 (.val (.int .i64 i))) 1 (.sl 1 0 ys.length 1 none)) 0 (.sl 0 0 xs.length 1 none), upd (upd none' 0 (some ⟨false, .ints .i64 xs⟩)) 1 (some ⟨false, .ints .i64 ys⟩), 2⟩) (fun i => i ≤ xs.length ∧ ∀ j, j < i → xs.getD j 0 = ys.getD j 0) (fun i => xs.length - i) 0 ⟨by omega, by omega⟩ ?_ ?_
    · (apply Wk.same; (case' h2 => (focus ((repeat' (with_reducible first | exact HeapX.bot | (apply HeapX.skip; (case hx => (simp; done))) | apply HeapX.none | apply HeapX.upd)); all_goals (first | rfl | exact Nat.le_of_ble_eq_true rfl | (simp only [St.set, St.ev, upd, ren, renL, id, Nat.reduceEqDiff, reduceIte, ContLe]; done) | (exact And.intro rfl (And.intro (by first | exact Nat.le_of_ble_eq_true rfl | omega) (by first | exact Nat.le_of_ble_eq_true rfl | omega))) | (first | (simp only [St.set, St.ev, upd, ren, renL, id, Nat.reduceEqDiff, reduceIte]; exact contLe_nil) | ((repeat' (first | exact contLe_nil | refine contLe_cons (.inr ⟨?_, rfl⟩) ?_)); all_goals (first | rfl | (simp only [St.set, St.ev, upd, ren, renL, id, Nat.reduceEqDiff, reduceIte]; done) | ((try simp only [St.set, St.ev, upd, ren, renL, id, Nat.reduceEqDiff, reduceIte]); first | (with_reducible exact av_int (by omega)) | (with_reducible exact av_sl (by first | omega | (simp; done) | (simp; omega)) (by first | omega | (simp; done) | (simp; omega)))) | (simp only [St.set, St.ev, upd, ren, renL, id, Nat.reduceEqDiff, reduceIte, Int.natCast_add, Int.natCast_one, Int.cast_ofNat_Int, Int.natCast_zero]; done) | (simp only [St.set, St.ev, upd, ren, renL, id, Nat.reduceEqDiff, reduceIte]) | skip); done)) | (simp only [St.set, St.ev, upd, ren, renL, id, Nat.reduceEqDiff, reduceIte, ContLe]) | skip)))); (case' h1 => (focus ((repeat' (with_reducible first | exact TmpLe.bot | refine TmpLe.upd ?_ rfl ?_)); all_goals (first | rfl | (simp only [St.set, St.ev, upd, ren, renL, id, Nat.reduceEqDiff, reduceIte]; done) | ((try simp only [St.set, St.ev, upd, ren, renL, id, Nat.reduceEqDiff, reduceIte]); first | (with_reducible exact av_int (by omega)) | (with_reducible exact av_sl (by first | omega | (simp; done) | (simp; omega)) (by first | omega | (simp; done) | (simp; omega)))) | (simp only [St.set, St.ev, upd, ren, renL, id, Nat.reduceEqDiff, reduceIte, Int.natCast_add, Int.natCast_one, Int.cast_ofNat_Int, Int.natCast_zero]; done) | (simp only [St.set, St.ev, upd, ren, renL, id, Nat.reduceEqDiff, reduceIte]) | skip)))); (case h3 => (focus (first | (simp only [id, List.map_cons, List.map_nil]; decide) | decide | (simp; done) | (simp; omega) | fail))); (case h4 => (intro o l h; first | (cases h; done) | (have hlt0 := m0_lt (by assumption) h; (try (simp only at hlt0)); first | omega | (simp only; omega) | exact ⟨by (first | rfl | (simp only [id]; done) | ((repeat rw [if_neg (by omega)]); done)), by first | omega | (simp only; omega)⟩))))
    · rintro i ⟨hi, hj⟩
      repeat' (first | refine awp_seq_k fun K hK => ?_ | ((with_reducible refine hK _ ?_); clear hK K) | (clear hK K; (with_reducible refine hK _ ?_); clear hK K) | ((with_reducible refine aord_plain fun K hK => ?_); simp only [go_sem, Nat.reduceAdd, Nat.reduceMul, Nat.reduceEqDiff, Nat.reduceLT, reduceIte, reduceCtorEq]) | refine awp_block ?_ | ((first | with_reducible refine aord_nil ?_ | refine awp_skip ?_ | refine awp_exit ?_ | refine awp_ret ?_); try simp only [rdA, Nat.reduceEqDiff, ifA, ifB, reduceIte]) | (refine awp_region tabOk rfl ?_; simp only [prep, pickO, lsA, lsB, lsC, lsD, lsE, lsF, lsG]) | (refine awp_region_draw (nt := 26) (id := 6) tabOk [(0, true, false), (1, true, false), (2, true, false), (3, true, false), (4, true, false), (5, true, false), (6, true, false), (7, true, false), (8, true, false)] (by kernel_rfl) rfl (by kernel_rfl) ?_; simp only [prep, pickO, lsA, lsB, lsC, lsD, lsE, lsF, lsG]) | ((with_reducible apply awp_cond); (focus (simp only [St.ev, St.set, upd, Nat.reduceEqDiff, reduceIte, ifA, ifB]; exact rfl)); all_goals (intro hb; first | (cases hb; done) | ((try rw [hb]); (try simp only [dcA, dcB, dcC, dcD, dcE, Bool.not_eq_true', Bool.not_eq_false'] at hb)))) | ((with_reducible refine And.intro ?_ ?_); (focus omega)) | fail)
      · simp only [St.set, St.ev, doneQ, doneH, ressK, resK, wrapR, AV.ids, AV.idsL, retK, retsK, upd, Nat.reduceEqDiff, reduceIte, ifA, ifB, List.nodup_nil, List.nodup_cons, List.not_mem_nil, not_false_eq_true, true_and, and_true, exists_eq_left', Option.some.injEq, rLoad, cellOf, tab, Ty.isAgg, Ty.one, Bool.false_eq_true]
        have : decide (xs = ys) = false := decide_eq_false (fun h => hb (by rw [h]))
        rw [this] at hQ
        exact hQ
      · refine ⟨i + 1, ⟨by omega, fun j h => ?_⟩, by omega, ?_⟩
        · rcases Nat.lt_or_ge j i with h1 | h1
          · exact hj j h1
          · have : j = i := by omega
            subst this
            exact hb
        · (apply Wk.same; (case' h2 => (focus ((repeat' (with_reducible first | exact HeapX.bot | (apply HeapX.skip; (case hx => (simp; done))) | apply HeapX.none | apply HeapX.upd)); all_goals (first | rfl | exact Nat.le_of_ble_eq_true rfl | (simp only [St.set, St.ev, upd, ren, renL, id, Nat.reduceEqDiff, reduceIte, ContLe]; done) | (exact And.intro rfl (And.intro (by first | exact Nat.le_of_ble_eq_true rfl | omega) (by first | exact Nat.le_of_ble_eq_true rfl | omega))) | (first | (simp only [St.set, St.ev, upd, ren, renL, id, Nat.reduceEqDiff, reduceIte]; exact contLe_nil) | ((repeat' (first | exact contLe_nil | refine contLe_cons (.inr ⟨?_, rfl⟩) ?_)); all_goals (first | rfl | (simp only [St.set, St.ev, upd, ren, renL, id, Nat.reduceEqDiff, reduceIte]; done) | ((try simp only [St.set, St.ev, upd, ren, renL, id, Nat.reduceEqDiff, reduceIte]); first | (with_reducible exact av_int (by omega)) | (with_reducible exact av_sl (by first | omega | (simp; done) | (simp; omega)) (by first | omega | (simp; done) | (simp; omega)))) | (simp only [St.set, St.ev, upd, ren, renL, id, Nat.reduceEqDiff, reduceIte, Int.natCast_add, Int.natCast_one, Int.cast_ofNat_Int, Int.natCast_zero]; done) | (simp only [St.set, St.ev, upd, ren, renL, id, Nat.reduceEqDiff, reduceIte]) | skip); done)) | (simp only [St.set, St.ev, upd, ren, renL, id, Nat.reduceEqDiff, reduceIte, ContLe]) | skip)))); (case' h1 => (focus ((repeat' (with_reducible first | exact TmpLe.bot | refine TmpLe.upd ?_ rfl ?_)); all_goals (first | rfl | (simp only [St.set, St.ev, upd, ren, renL, id, Nat.reduceEqDiff, reduceIte]; done) | ((try simp only [St.set, St.ev, upd, ren, renL, id, Nat.reduceEqDiff, reduceIte]); first | (with_reducible exact av_int (by omega)) | (with_reducible exact av_sl (by first | omega | (simp; done) | (simp; omega)) (by first | omega | (simp; done) | (simp; omega)))) | (simp only [St.set, St.ev, upd, ren, renL, id, Nat.reduceEqDiff, reduceIte, Int.natCast_add, Int.natCast_one, Int.cast_ofNat_Int, Int.natCast_zero]; done) | (simp only [St.set, St.ev, upd, ren, renL, id, Nat.reduceEqDiff, reduceIte]) | skip)))); (case h3 => (focus (first | (simp only [id, List.map_cons, List.map_nil]; decide) | decide | (simp; done) | (simp; omega) | fail))); (case h4 => (intro o l h; first | (cases h; done) | (have hlt0 := m0_lt (by assumption) h; (try (simp only at hlt0)); first | omega | (simp only; omega) | exact ⟨by (first | rfl | (simp only [id]; done) | ((repeat rw [if_neg (by omega)]); done)), by first | omega | (simp only; omega)⟩))))
      · simp only [St.set, St.ev, doneQ, doneH, ressK, resK, wrapR, AV.ids, AV.idsL, retK, retsK, upd, Nat.reduceEqDiff, reduceIte, ifA, ifB, List.nodup_nil, List.nodup_cons, List.not_mem_nil, not_false_eq_true, true_and, and_true, exists_eq_left', Option.some.injEq, rLoad, cellOf, tab, Ty.isAgg, Ty.one, Bool.false_eq_true]
        have : decide (xs = ys) = true := decide_eq_true (ext_getD hlen.symm fun j h => hj j (by omega))
        rw [this] at hQ
        exact hQ


/-- How many of the first k places hold a key less than that of place i, or an equal one and are ahead of it. -/
def plC (xs : List Int) (i : Nat) : Nat → Int
  | 0 => 0
  | k + 1 => plC xs i k + (if xs.getD k 0 < xs.getD i 0 ∨ (xs.getD k 0 = xs.getD i 0 ∧ k < i) then 1 else 0)
def placesL (xs : List Int) : List Int := (List.range xs.length).map fun i => plC xs i xs.length
theorem plC_nonneg (xs : List Int) (i : Nat) : ∀ k, 0 ≤ plC xs i k
  | 0 => Int.le_refl 0
  | k + 1 => by have := plC_nonneg xs i k; rw [plC]; split <;> omega
theorem plC_le (xs : List Int) (i : Nat) : ∀ k, plC xs i k ≤ k
  | 0 => Int.le_refl 0
  | k + 1 => by have := plC_le xs i k; rw [plC]; split <;> omega
theorem plC_own (xs : List Int) (i : Nat) : ∀ k, i < k → plC xs i k + 1 ≤ k
  | k + 1, h => by
    rw [plC]
    rcases Nat.lt_or_ge i k with h1 | h1
    · have := plC_own xs i k h1; split <;> omega
    · have e : k = i := by omega
      subst e
      have := plC_le xs k k
      rw [if_neg (by omega)]
      omega
theorem plC_up {xs : List Int} {i k : Nat} (h : xs.getD k 0 < xs.getD i 0 ∨ (xs.getD k 0 = xs.getD i 0 ∧ k < i)) : plC xs i (k + 1) = plC xs i k + 1 := by rw [plC, if_pos h]
theorem plC_stay {xs : List Int} {i k : Nat} (h : ¬ (xs.getD k 0 < xs.getD i 0 ∨ (xs.getD k 0 = xs.getD i 0 ∧ k < i))) : plC xs i (k + 1) = plC xs i k := by rw [plC, if_neg h]; omega
theorem placesL_len (xs : List Int) : (placesL xs).length = xs.length := by simp [placesL]
theorem placesL_get {xs : List Int} {i : Nat} (h : i < xs.length) : (placesL xs).getD i 0 = plC xs i xs.length := by
  rw [List.getD_eq_getElem?_getD, List.getElem?_eq_getElem (by rw [placesL_len]; exact h)]
  simp [placesL]
theorem getD_app_lo {l m : List Int} {i : Nat} (h : i < l.length) : (l ++ m).getD i 0 = l.getD i 0 := by
  simp [List.getD_eq_getElem?_getD, List.getElem?_append_left h]
theorem getD_app_at {l : List Int} {a : Int} {i : Nat} (h : i = l.length) : (l ++ [a]).getD i 0 = a := by
  subst h; simp [List.getD_eq_getElem?_getD]


/-- The numbers that are laid into a list, from k on. -/
def marks (k : Int) (m : Nat) : List Int := (List.range m).map fun i => k + Int.ofNat i
theorem marks_len (k : Int) (m : Nat) : (marks k m).length = m := by simp [marks]
theorem marks_get {k : Int} {m i : Nat} (h : i < m) : (marks k m).getD i 0 = k + i := by
  rw [List.getD_eq_getElem?_getD, List.getElem?_eq_getElem (by rw [marks_len]; exact h)]
  simp [marks]

theorem set_step {ys : List Int} {f : Nat → Int} {i : Nat} {v : Int} (hi : i < ys.length) (hj : ∀ j, j < i → ys.getD j 0 = f j) (hv : v = f i) : ∀ j, j < i + 1 → (ys.set i v).getD j 0 = f j := fun j h => by
  rcases Nat.lt_or_ge j i with h1 | h1
  · rw [getD_set_ne' (by omega)]; exact hj j h1
  · rw [show j = i by omega, getD_set_same hi]; exact hv
theorem app_step {ys : List Int} {f : Nat → Int} {i : Nat} {v : Int} (hi : ys.length = i) (hj : ∀ j, j < i → ys.getD j 0 = f j) (hv : v = f i) : ∀ j, j < i + 1 → (ys ++ [v]).getD j 0 = f j := fun j h => by
  rcases Nat.lt_or_ge j i with h1 | h1
  · rw [getD_app_lo (by omega)]; exact hj j h1
  · rw [show j = i by omega, getD_app_at (by omega)]; exact hv
theorem all_step {p : Nat → Prop} {i : Nat} (hj : ∀ j, j < i → p j) (hv : p i) : ∀ j, j < i + 1 → p j := fun j h => by
  rcases Nat.lt_or_ge j i with h1 | h1
  · exact hj j h1
  · rw [show j = i by omega]; exact hv


theorem aStoreAll_cells {tab : Tab} {h : Hp} {n : Nat} {t : TypeId} {o : Nat} {old al : List AV} {K : AV → Hp → Nat → Prop} (ho : h o = some ⟨true, .cells old⟩) (hl : old.length = al.length) (hp : 0 < al.length) (hsz : szOf tab t = some al.length) (hc : al.all AV.cell = true)
    (hK : K .any (upd h o (some ⟨true, .cells al⟩)) n) : ∃ c', aStoreAll tab h n t (.ref o 0) (.agg al) c' K :=
  ⟨.cells al, .inl ⟨_, ho, rfl, rfl, rfl, hp, by simpa [Cont.flat] using hl, by simpa using hsz, hc, rfl, hK⟩⟩
/-- A piece of code with labels, through which one goes without a goto. -/
def noGotoA (Q : Exit → St → Prop) : Exit → St → Prop
  | .goto _, _ => False
  | e, s => Q e s
theorem noGotoA_normal (Q : Exit → St → Prop) (s : St) : noGotoA Q .normal s = Q .normal s := rfl
theorem noGotoA_exit (Q : Exit → St → Prop) (s : St) (i : Nat) : noGotoA Q (.exit i) s = Q (.exit i) s := rfl
theorem noGotoA_ret (Q : Exit → St → Prop) (s : St) : noGotoA Q .ret s = Q .ret s := rfl
theorem awp_scope {P : Program} {Γ : Ctx} {nt : Nat} {Q : Exit → St → Prop} {s : St} {c : Code} (h : AWP Γ nt P c (noGotoA Q) s) (hF : Γ.F = false := by rfl) : AWP Γ nt P (.scope c) Q s := fun hS C hC hr m a w hs => by
  have hn : C.r = none := by rw [hF] at hr; cases hc : C.r with | none => rfl | some l => rw [hc] at hr; cases hr
  have h1 := h hS C hC hr m a w hs
  rw [hn] at h1 ⊢
  refine (wpIn_wide (n := 0)).2 (wp_scope_straight (wp_mono ((wpIn_wide (n := 0)).1 h1) fun e a' w' hp => ?_))
  cases e with
  | goto l => obtain ⟨_, _, _, _, _, _, hq⟩ := hp; exact hq.elim
  | _ => exact hp
def swp (xs : List Int) (a b : Nat) : List Int := (xs.set a (xs.getD b 0)).set b (xs.getD a 0)
theorem swp_len (xs : List Int) (a b : Nat) : (swp xs a b).length = xs.length := by simp [swp]
/-- A key goes ahead by steps: what is there, how often was asked, how often moved. -/
def insIn (st : Nat) (k : Nat) (xs : List Int) (a m : Int) : List Int × Int × Int :=
  if h : 0 < st ∧ st ≤ k then (if xs.getD (k - st) 0 ≤ xs.getD k 0 then (xs, a + 1, m) else insIn st (k - st) (swp xs (k - st) k) (a + 1) (m + 1)) else (xs, a, m)
termination_by k
decreasing_by omega
theorem insIn_end {st k : Nat} {xs : List Int} {a m : Int} (h : k < st) : insIn st k xs a m = (xs, a, m) := by rw [insIn, dif_neg (by omega)]
theorem insIn_stop {st k : Nat} {xs : List Int} {a m : Int} (h0 : 0 < st) (h : st ≤ k) (hle : xs.getD (k - st) 0 ≤ xs.getD k 0) : insIn st k xs a m = (xs, a + 1, m) := by rw [insIn, dif_pos ⟨h0, h⟩, if_pos hle]
theorem insIn_go {st k : Nat} {xs : List Int} {a m : Int} (h0 : 0 < st) (h : st ≤ k) (hle : xs.getD k 0 < xs.getD (k - st) 0) : insIn st k xs a m = insIn st (k - st) (swp xs (k - st) k) (a + 1) (m + 1) := by rw [insIn, dif_pos ⟨h0, h⟩, if_neg (by omega)]
theorem insIn_in {st : Nat} : ∀ (f k : Nat) (xs : List Int) (a m : Int), k < f → (insIn st k xs a m).1.length = xs.length ∧ a ≤ (insIn st k xs a m).2.1 ∧ (insIn st k xs a m).2.1 ≤ a + k + 1 ∧ m ≤ (insIn st k xs a m).2.2 ∧ (insIn st k xs a m).2.2 ≤ m + k + 1
  | 0, k, xs, a, m, h => by omega
  | f + 1, k, xs, a, m, h => by
    by_cases h1 : 0 < st ∧ st ≤ k
    · rcases Int.lt_or_le (xs.getD k 0) (xs.getD (k - st) 0) with h2 | h2
      · rw [insIn_go h1.1 h1.2 h2]
        have := insIn_in (st := st) f (k - st) (swp xs (k - st) k) (a + 1) (m + 1) (by omega)
        rw [swp_len] at this
        omega
      · rw [insIn_stop h1.1 h1.2 h2]
        exact ⟨rfl, by simp only; omega, by simp only; omega, by simp only; omega, by simp only; omega⟩
    · rw [insIn, dif_neg h1]
      exact ⟨rfl, by simp only; omega, by simp only; omega, by simp only; omega, by simp only; omega⟩
def insTo (st : Nat) (s : List Int × Int × Int) : Nat → List Int × Int × Int
  | 0 => s
  | j + 1 => insIn st (st + j) (insTo st s j).1 (insTo st s j).2.1 (insTo st s j).2.2
theorem insTo_in {st : Nat} {s : List Int × Int × Int} (hn : s.1.length ≤ 8) : ∀ j, st + j ≤ s.1.length ∨ j = 0 → (insTo st s j).1.length = s.1.length ∧ s.2.1 ≤ (insTo st s j).2.1 ∧ (insTo st s j).2.1 ≤ s.2.1 + 9 * j ∧ s.2.2 ≤ (insTo st s j).2.2 ∧ (insTo st s j).2.2 ≤ s.2.2 + 9 * j
  | 0, _ => by simp [insTo]
  | j + 1, h => by
    have ih := insTo_in (st := st) hn j (by omega)
    have := insIn_in (st := st) (st + j + 1) (st + j) (insTo st s j).1 (insTo st s j).2.1 (insTo st s j).2.2 (by omega)
    rw [insTo]
    omega


/-- What is laid at the places, of the first k keys. -/
def scN (P xs : List Int) : Nat → List Int
  | 0 => List.replicate xs.length 0
  | k + 1 => (scN P xs k).set (P.getD k 0).toNat (xs.getD k 0)
theorem scN_len (P xs : List Int) : ∀ k, (scN P xs k).length = xs.length
  | 0 => by simp [scN]
  | k + 1 => by simp [scN, scN_len P xs k]
def ordL (xs : List Int) : List Int := scN (placesL xs) xs xs.length
theorem ordL_len (xs : List Int) : (ordL xs).length = xs.length := scN_len _ _ _

theorem placesL_lt {xs : List Int} {i : Nat} (h : i < xs.length) : 0 ≤ (placesL xs).getD i 0 ∧ (placesL xs).getD i 0 < xs.length := by
  rw [placesL_get h]
  have := plC_nonneg xs i xs.length
  have := plC_own xs i xs.length h
  omega


theorem no_inj : ∀ (m n : Nat) (f : Nat → Nat), (∀ a, a < n → f a < m) → (∀ a b, a < n → b < n → f a = f b → a = b) → n ≤ m
  | 0, n, f, h, _ => by
    rcases Nat.eq_zero_or_pos n with h0 | h0
    · omega
    · have := h 0 h0; omega
  | m + 1, n, f, h, hi => by
    by_cases hx : ∃ a, a < n ∧ f a = m
    · obtain ⟨a0, ha0, hf0⟩ := hx
      have := no_inj m (n - 1) (fun a => f (if a < a0 then a else a + 1)) (fun a ha => by
        have h1 := h (if a < a0 then a else a + 1) (by split <;> omega)
        have h2 : f (if a < a0 then a else a + 1) ≠ m := fun e => by
          have := hi (if a < a0 then a else a + 1) a0 (by split <;> omega) ha0 (by rw [e, hf0])
          split at this <;> omega
        show f (if a < a0 then a else a + 1) < m
        omega) (fun a b ha hb hab => by
        have := hi (if a < a0 then a else a + 1) (if b < a0 then b else b + 1) (by split <;> omega) (by split <;> omega) hab
        split at this <;> split at this <;> omega)
      omega
    · have := no_inj m n f (fun a ha => by
        have := h a ha
        have : f a ≠ m := fun e => hx ⟨a, ha, e⟩
        omega) hi
      omega
theorem inj_surj {n : Nat} {f : Nat → Nat} (h : ∀ a, a < n → f a < n) (hi : ∀ a b, a < n → b < n → f a = f b → a = b) {b : Nat} (hb : b < n) : ∃ a, a < n ∧ f a = b := by
  by_cases hx : ∃ a, a < n ∧ f a = b
  · exact hx
  · exfalso
    have hne : ∀ a, a < n → f a ≠ b := fun a ha e => hx ⟨a, ha, e⟩
    have := no_inj (n - 1) n (fun a => if f a < b then f a else f a - 1) (fun a ha => by
      have := h a ha; have := hne a ha
      show (if f a < b then f a else f a - 1) < n - 1
      split <;> omega) (fun a c ha hc hac => by
      have h1 := hne a ha; have h2 := hne c hc
      apply hi a c ha hc
      have hac : (if f a < b then f a else f a - 1) = (if f c < b then f c else f c - 1) := hac
      split at hac <;> split at hac <;> omega)
    omega
/-- A key comes ahead of another one: it is less, or equal and ahead. -/
def ltK (xs : List Int) (i k : Nat) : Prop := xs.getD i 0 < xs.getD k 0 ∨ (xs.getD i 0 = xs.getD k 0 ∧ i < k)
theorem plC_mono {xs : List Int} {i k : Nat} (h : ltK xs i k) : ∀ m, plC xs i m + (if i < m then 1 else 0) ≤ plC xs k m
  | 0 => by simp [plC]
  | m + 1 => by
    have ih := plC_mono h m
    unfold ltK at h
    rw [plC, plC]
    by_cases h1 : m = i
    · subst h1
      rw [if_neg (by omega)] at ih
      rw [if_neg (by omega), if_pos (by omega), if_pos h]
      omega
    · by_cases h2 : xs.getD m 0 < xs.getD i 0 ∨ (xs.getD m 0 = xs.getD i 0 ∧ m < i)
      · have h3 : xs.getD m 0 < xs.getD k 0 ∨ (xs.getD m 0 = xs.getD k 0 ∧ m < k) := by omega
        rw [if_pos h2, if_pos h3]
        split at ih <;> split <;> omega
      · rw [if_neg h2]
        split at ih <;> split <;> split <;> omega
def plN (xs : List Int) (i : Nat) : Nat := (plC xs i xs.length).toNat
theorem plN_lt {xs : List Int} {i : Nat} (h : i < xs.length) : plN xs i < xs.length := by
  have := plC_own xs i xs.length h
  have := plC_nonneg xs i xs.length
  unfold plN; omega
theorem plN_mono {xs : List Int} {i k : Nat} (hi : i < xs.length) (h : ltK xs i k) : plN xs i < plN xs k := by
  have := plC_mono h xs.length
  have := plC_nonneg xs i xs.length
  rw [if_pos hi] at *
  unfold plN; omega
theorem plN_inj {xs : List Int} {i k : Nat} (hi : i < xs.length) (hk : k < xs.length) (h : plN xs i = plN xs k) : i = k := by
  by_cases e : i = k
  · exact e
  · exfalso
    have : ltK xs i k ∨ ltK xs k i := by unfold ltK; omega
    rcases this with h1 | h1
    · have := plN_mono hi h1; omega
    · have := plN_mono hk h1; omega
theorem plN_get {xs : List Int} {i : Nat} (h : i < xs.length) : ((placesL xs).getD i 0).toNat = plN xs i := by rw [placesL_get h]; rfl
theorem scN_at {xs : List Int} : ∀ k, k ≤ xs.length → ∀ a, a < k → (scN (placesL xs) xs k).getD (plN xs a) 0 = xs.getD a 0
  | 0, _, a, h => by omega
  | k + 1, hk, a, h => by
    rw [scN, plN_get (by omega)]
    by_cases e : a = k
    · subst e
      exact getD_set_same (by rw [scN_len]; exact plN_lt (by omega))
    · rw [getD_set_ne' (fun h1 => e (plN_inj (by omega) (by omega) h1.symm))]
      exact scN_at k (by omega) a (by omega)
theorem ord_at {xs : List Int} {a : Nat} (h : a < xs.length) : (ordL xs).getD (plN xs a) 0 = xs.getD a 0 := scN_at xs.length (Nat.le_refl _) a h
theorem ord_from {xs : List Int} {b : Nat} (h : b < xs.length) : ∃ a, a < xs.length ∧ plN xs a = b := inj_surj (fun a ha => plN_lt ha) (fun a b ha hb h => plN_inj ha hb h) h
theorem ord_mono {xs : List Int} {p q : Nat} (hpq : p < q) (hq : q < xs.length) : (ordL xs).getD p 0 ≤ (ordL xs).getD q 0 := by
  obtain ⟨a, ha, rfl⟩ := ord_from (xs := xs) (b := p) (by omega)
  obtain ⟨b, hb, rfl⟩ := ord_from (xs := xs) hq
  rw [ord_at ha, ord_at hb]
  by_cases h : xs.getD a 0 ≤ xs.getD b 0
  · exact h
  · have : ltK xs b a := .inl (by omega)
    have := plN_mono hb this
    omega
/-- No key is less than the one ahead. -/
def srt (xs : List Int) : Bool := (List.range (xs.length - 1)).all fun j => decide (xs.getD j 0 ≤ xs.getD (j + 1) 0)
theorem srt_iff {xs : List Int} : srt xs = true ↔ ∀ j, j + 1 < xs.length → xs.getD j 0 ≤ xs.getD (j + 1) 0 := by
  unfold srt
  rw [List.all_eq_true]
  constructor
  · intro h j hj; have := h j (List.mem_range.2 (by omega)); simpa using this
  · intro h j hj; have := List.mem_range.1 hj; simpa using h j (by omega)
theorem srt_le {xs : List Int} (h : srt xs = true) : ∀ {d i : Nat}, i + d < xs.length → xs.getD i 0 ≤ xs.getD (i + d) 0
  | 0, i, _ => Int.le_refl _
  | d + 1, i, hd => by have := srt_le h (d := d) (i := i) (by omega); have := srt_iff.1 h (i + d) (by omega); rw [← Nat.add_assoc]; omega
theorem srt_ltK {xs : List Int} (h : srt xs = true) {i k : Nat} (hi : i < xs.length) (hk : k < xs.length) : ltK xs i k ↔ i < k := by
  unfold ltK
  constructor
  · intro h1
    rcases Nat.lt_or_ge i k with h2 | h2
    · exact h2
    · have := srt_le h (i := k) (d := i - k) (by omega)
      rw [show k + (i - k) = i by omega] at this
      omega
  · intro h1
    have := srt_le h (i := i) (d := k - i) (by omega)
    rw [show i + (k - i) = k by omega] at this
    omega
theorem srt_pl {xs : List Int} (h : srt xs = true) {i : Nat} (hi : i < xs.length) : ∀ m, m ≤ xs.length → plC xs i m = (min i m : Nat)
  | 0, _ => by simp [plC]
  | m + 1, hm => by
    have ih := srt_pl h hi m (by omega)
    have := srt_ltK h (i := m) (k := i) (by omega) hi
    unfold ltK at this
    rw [plC, ih]
    split <;> rename_i h1
    · have := this.1 h1; omega
    · have : ¬ m < i := fun h2 => h1 (this.2 h2)
      omega
theorem srt_ord {xs : List Int} (h : srt xs = true) : ordL xs = xs := by
  apply ext_getD (ordL_len xs)
  intro j hj
  rw [ordL_len] at hj
  have e : plN xs j = j := by unfold plN; rw [srt_pl h hj xs.length (Nat.le_refl _)]; omega
  have := ord_at hj
  rw [e] at this
  exact this
theorem ord_srt {xs : List Int} : srt (ordL xs) = true := srt_iff.2 fun j hj => ord_mono (by omega) (by rw [ordL_len] at hj; exact hj)
theorem srt_eq {xs : List Int} : srt xs = decide (xs = ordL xs) := by
  by_cases h : srt xs = true
  · rw [h, srt_ord h]; simp
  · have : xs ≠ ordL xs := fun e => h (by rw [e]; exact ord_srt)
    simp only [Bool.not_eq_true] at h
    rw [h]; simp [this]
/-- Zeros behind the keys. -/
def padL (xs : List Int) : List Int := xs ++ List.replicate (8 - xs.length) 0
theorem padL_len {xs : List Int} (h : xs.length ≤ 8) : (padL xs).length = 8 := by simp [padL]; omega
theorem padL_inj {xs ys : List Int} (h : xs.length = ys.length) : padL xs = padL ys ↔ xs = ys := by
  constructor
  · intro e; exact (List.append_inj e h).1
  · rintro rfl; rfl


theorem aAppend_cells {tab : Tab} {h : Hp} {n : Nat} {t e : TypeId} {i : TI} {z : Value} {o p len kk : Nat} {lim : Option Nat} {rw2 : Bool} {xs ys : List AV} {K : AV → Hp → Nat → Prop} (hty : tyOf tab t = some (.slice e)) (hi : tab e = some i) (h1 : i.size = 1) (hz : i.zero = [z]) (hb : i.bytes ≤ 24)
    (hp : h p = some ⟨rw2, .cells ys⟩) (ho : h o = some ⟨true, .cells xs⟩) (hne : o ≠ p) (hl : xs.length = len) (hk : ys.length = kk) (hle : len + kk ≤ 1000)
    (hK : K (.sl n 0 (len + kk) 1 none) (upd (upd h o none) n (some ⟨true, .cells (xs ++ ys)⟩)) (n + 1)) : aAppend tab h n t (.sl o 0 len 1 none) (.sl p 0 kk 1 lim) K := by
  refine .inl ⟨e, i, z, kk, .cells ys, hty, hi, h1, hz, .inl ⟨p, 0, lim, _, rfl, hp, ?_, ?_⟩, .inr ⟨o, len, _, .cells xs, _, rfl, ho, rfl, ?_, ?_, ?_, by omega, ?_, hK⟩⟩
  · simp [winOf, ← hk]
  · simp [Cont.flat, hk]
  · simp [Cont.flat, hl]
  · simp [winOf, ← hl]
  · simp [catOf]
  · have := Nat.mul_le_mul hle hb
    omega

/-- Slices of whole rows whose objects a function names. -/
def slsN (f : Nat → Nat) : Nat → List (List Int) → List AV
  | _, [] => []
  | k, x :: xs => .sl (f k) 0 x.length 1 none :: slsN f (k + 1) xs
theorem slsN_len {f : Nat → Nat} : ∀ {xss : List (List Int)} {b : Nat}, (slsN f b xss).length = xss.length
  | [], _ => rfl
  | x :: xs, b => by simp [slsN, slsN_len]
theorem slsN_app {f : Nat → Nat} : ∀ {xss yss : List (List Int)} {b : Nat}, slsN f b (xss ++ yss) = slsN f b xss ++ slsN f (b + xss.length) yss
  | [], _, _ => by simp [slsN]
  | x :: xs, yss, b => by rw [List.cons_append, slsN, slsN, slsN_app, List.cons_append, List.length_cons, show b + 1 + xs.length = b + (xs.length + 1) by omega]
theorem slsN_get {f : Nat → Nat} : ∀ {xss : List (List Int)} {b i : Nat}, i < xss.length → (slsN f b xss)[i]? = some (.sl (f (b + i)) 0 (xss.getD i []).length 1 none)
  | [], _, i, h => by simp at h
  | x :: xs, b, 0, _ => by simp [slsN]
  | x :: xs, b, i + 1, h => by
    rw [slsN, List.getElem?_cons_succ, slsN_get (by simpa using h), show b + 1 + i = b + (i + 1) by omega]
    simp
theorem slsN_lt {f : Nat → Nat} {n : Nat} : ∀ {xss : List (List Int)} {b : Nat}, (∀ i, i < xss.length → f (b + i) < n) → AV.ltL n (slsN f b xss) = true
  | [], _, _ => rfl
  | x :: xs, b, h => by
    have h0 := h 0 (by simp)
    simp only [slsN, AV.ltL, AV.lt, Bool.and_eq_true, decide_eq_true_eq]
    refine ⟨h0, slsN_lt fun i hi => ?_⟩
    have := h (i + 1) (by simp; omega)
    rw [show b + 1 + i = b + (i + 1) by omega]; exact this
theorem gat_slsN {h : Hp} {ik : IntKind} {f : Nat → Nat} : ∀ {xss : List (List Int)} {b : Nat}, (∀ i, i < xss.length → h (f (b + i)) = some ⟨true, .ints ik (xss.getD i [])⟩) → Gat h ik (slsN f b xss) ((List.range' b xss.length).map f) xss
  | [], _, _ => .nil
  | x :: xs, b, hh => by
    have h0 := hh 0 (by simp)
    simp only [Nat.add_zero, List.getD_cons_zero] at h0
    rw [slsN, List.length_cons, List.range'_succ, List.map_cons]
    refine .own h0 rfl (gat_slsN fun i hi => ?_)
    have := hh (i + 1) (by simp; omega)
    rw [show b + 1 + i = b + (i + 1) by omega]
    simpa using this
theorem gat_app {h : Hp} {ik : IntKind} {l l2 : List AV} {ps ps2 : List Nat} {xss yss : List (List Int)} (a : Gat h ik l ps xss) (b : Gat h ik l2 ps2 yss) : Gat h ik (l ++ l2) (ps ++ ps2) (xss ++ yss) := by
  induction a with
  | nil => exact b
  | own hp hl _ ih => exact .own hp hl ih
  | none _ ih => exact .none ih

/-- What comes back is a row of rows of one's own; of the caller's state only objects under n0 are kept. -/
theorem awp_gatherW {P : Program} {Γ : Ctx} {nt : Nat} {c : Code} {Q : Exit → St → Prop} {s : St} {h : Hp} {n0 o len : Nat} {ik : IntKind} {l : List AV} {ps : List Nat} {xss : List (List Int)} (t : Tmp) (ht : s.tmps t = .sl o 0 len 1 none) (ho : s.heap o = some ⟨true, .cells l⟩) (hg : Gat s.heap ik l ps xss) (hnd : (o :: ps).Nodup)
    (hn : n0 ≤ s.next) (hcl : HClosed h n0) (hm0 : ∀ u, n0 ≤ u → Γ.m0 u = none) (hps : ∀ p ∈ o :: ps, n0 ≤ p) (hsub : ∀ u ob, u < n0 → h u = some ob → s.heap u = some ob)
    (hK : AWP Γ nt P c Q ⟨upd bot t (.sl n0 0 len 1 none), upd h n0 (some ⟨true, .rows ik xss none⟩), n0 + 1⟩) : AWP Γ nt P c Q s := by
  refine awp_gather t o ht ho hg hnd (awp_weaken (Wk.over (dom := [n0]) (fun u => if u = n0 then s.next else u) n0 ?_ ?_ ?_ ?_ ?_) hK)
  · refine TmpLe.upd ?_ (by simp [AV.lt]) TmpLe.bot
    simp only [upd_same, ren, if_true]
  · refine HeapX.upd (c := .rows ik xss none) ?_ rfl (Nat.lt_succ_self _) (fun u ob' hx hu => ?_)
    · simp only [if_true, upd_same]
    · obtain ⟨a, b⟩ := hcl u ob' hu
      have hne : u ≠ n0 := by omega
      refine ⟨by show u < n0 + 1; omega, .inl ⟨a, if_neg hne⟩, ob', ?_, rfl, contLe_refl (fun k hk => if_neg (by omega)) (Nat.le_succ _) b⟩
      rw [if_neg hne]
      simp only
      rw [upd_ne _ _ (by omega), dropL, if_neg (fun hm => by have := hps u hm; omega)]
      exact hsub u ob' a hu
  · simp
  · intro d hd
    simp only [List.mem_singleton] at hd
    subst hd
    simpa using hn
  · intro u l hu
    have : u < n0 := by
      by_cases e : u < n0
      · exact e
      · rw [hm0 u (by omega)] at hu; cases hu
    exact ⟨if_neg (by omega), by show u < n0 + 1; omega⟩
theorem slsN_congr {f g : Nat → Nat} : ∀ {xss : List (List Int)} {b : Nat}, (∀ j, j < xss.length → f (b + j) = g (b + j)) → slsN f b xss = slsN g b xss
  | [], _, _ => rfl
  | x :: xs, b, h => by
    have h0 := h 0 (by simp)
    rw [Nat.add_zero] at h0
    have ih := slsN_congr (f := f) (g := g) (xss := xs) (b := b + 1) fun j hj => by
      have := h (j + 1) (by simp; omega)
      rw [show b + 1 + j = b + (j + 1) by omega]; exact this
    show AV.sl (f b) 0 x.length 1 none :: slsN f (b + 1) xs = AV.sl (g b) 0 x.length 1 none :: slsN g (b + 1) xs
    rw [h0, ih]
theorem slsN_set {f : Nat → Nat} {r : List Int} {m : Nat} : ∀ {xss : List (List Int)} {b k : Nat}, k < xss.length → (slsN f b xss).set k (.sl m 0 r.length 1 none) = slsN (fun j => if j = b + k then m else f j) b (xss.set k r)
  | [], _, _, h => by simp at h
  | x :: xs, b, 0, _ => by
    show AV.sl m 0 r.length 1 none :: slsN f (b + 1) xs = AV.sl (if b = b + 0 then m else f b) 0 r.length 1 none :: slsN (fun j => if j = b + 0 then m else f j) (b + 1) xs
    rw [if_pos (Nat.add_zero b).symm]
    congr 1
    exact slsN_congr fun j _ => by rw [if_neg (by omega)]
  | x :: xs, b, k + 1, h => by
    show AV.sl (f b) 0 x.length 1 none :: (slsN f (b + 1) xs).set k (.sl m 0 r.length 1 none) = AV.sl (if b = b + (k + 1) then m else f b) 0 x.length 1 none :: slsN (fun j => if j = b + (k + 1) then m else f j) (b + 1) (xs.set k r)
    rw [if_neg (by omega), slsN_set (by simpa using h)]
    congr 1
    exact slsN_congr fun j _ => by rw [show b + 1 + k = b + (k + 1) by omega]
/-- The pile that a key is put on: the first one whose last key is not greater. -/
def pilA : List (List Int) → Int → Nat
  | [], _ => 0
  | r :: xss, x => if r.getD (r.length - 1) 0 ≤ x then 0 else pilA xss x + 1
theorem pilA_le (x : Int) : ∀ xss, pilA xss x ≤ xss.length
  | [] => Nat.le_refl _
  | r :: xss => by have := pilA_le x xss; rw [pilA]; split <;> simp <;> omega
theorem pilA_is {x : Int} : ∀ {xss : List (List Int)} {k : Nat}, (∀ j, j < k → x < (xss.getD j []).getD ((xss.getD j []).length - 1) 0) → k ≤ xss.length → (k = xss.length ∨ (xss.getD k []).getD ((xss.getD k []).length - 1) 0 ≤ x) → pilA xss x = k
  | [], k, _, h, _ => by simp at h; subst h; rfl
  | r :: xss, 0, _, _, h3 => by
    rcases h3 with h3 | h3
    · simp at h3
    · rw [pilA, if_pos (by simpa using h3)]
  | r :: xss, k + 1, h1, h2, h3 => by
    have h0 := h1 0 (by omega)
    simp only [List.getD_cons_zero] at h0
    rw [pilA, if_neg (by omega), pilA_is (k := k) (fun j hj => by have := h1 (j + 1) (by omega); simpa using this) (by simpa using h2) (by rcases h3 with h3 | h3; exact .inl (by simpa using h3); exact .inr (by simpa using h3))]
def pilPut (xss : List (List Int)) (x : Int) : List (List Int) := if pilA xss x = xss.length then xss ++ [[x]] else xss.set (pilA xss x) (xss.getD (pilA xss x) [] ++ [x])
def pilTo (xs : List Int) : Nat → List (List Int)
  | 0 => []
  | i + 1 => pilPut (pilTo xs i) (xs.getD i 0)
theorem pilPut_new {xss : List (List Int)} {x : Int} (h : pilA xss x = xss.length) : pilPut xss x = xss ++ [[x]] := if_pos h
theorem pilPut_old {xss : List (List Int)} {x : Int} {k : Nat} (h : pilA xss x = k) (hk : k < xss.length) : pilPut xss x = xss.set k (xss.getD k [] ++ [x]) := by
  subst h; exact if_neg (by omega)
theorem pil_in {xs : List Int} : ∀ i, (pilTo xs i).length ≤ i ∧ ∀ j, j < (pilTo xs i).length → 1 ≤ ((pilTo xs i).getD j []).length ∧ ((pilTo xs i).getD j []).length ≤ i
  | 0 => ⟨Nat.le_refl _, fun j h => by simp [pilTo] at h⟩
  | i + 1 => by
    obtain ⟨h1, h2⟩ := pil_in (xs := xs) i
    have hle := pilA_le (xs.getD i 0) (pilTo xs i)
    rw [pilTo]
    by_cases e : pilA (pilTo xs i) (xs.getD i 0) = (pilTo xs i).length
    · rw [pilPut_new e]
      refine ⟨by simp; omega, fun j hj => ?_⟩
      by_cases c : j < (pilTo xs i).length
      · have : (pilTo xs i ++ [[xs.getD i 0]]).getD j [] = (pilTo xs i).getD j [] := by simp only [List.getD_eq_getElem?_getD]; rw [List.getElem?_append_left c]
        rw [this]; have := h2 j c; omega
      · have c2 : j = (pilTo xs i).length := by simp at hj; omega
        subst c2
        have : (pilTo xs i ++ [[xs.getD i 0]]).getD (pilTo xs i).length [] = [xs.getD i 0] := by simp [List.getD_eq_getElem?_getD]
        rw [this]; simp
    · rw [pilPut_old rfl (by omega)]
      refine ⟨by simp; omega, fun j hj => ?_⟩
      rw [List.length_set] at hj
      have hj2 := h2 j hj
      by_cases c : pilA (pilTo xs i) (xs.getD i 0) = j
      · rw [c, List.getD_eq_getElem?_getD, List.getElem?_set_self hj]
        simp only [Option.getD_some, List.length_append, List.length_singleton]; omega
      · rw [List.getD_eq_getElem?_getD, List.getElem?_set_ne c, ← List.getD_eq_getElem?_getD]; omega
/-- What is known of a heap that holds such rows. -/
structure RowsOf (H : Hp) (n O : Nat) (f : Nat → Nat) (xss : List (List Int)) : Prop where
  out : H O = some ⟨true, .cells (slsN f 0 xss)⟩
  outn : O < n
  row : ∀ j, j < xss.length → H (f j) = some ⟨true, .ints .i64 (xss.getD j [])⟩
  lt : ∀ j, j < xss.length → f j < n ∧ f j ≠ O
  inj : ∀ j l, j < xss.length → l < xss.length → f j = f l → j = l
theorem RowsOf.get {H : Hp} {n O : Nat} {f : Nat → Nat} {xss : List (List Int)} (h : RowsOf H n O f xss) {k : Nat} (hk : k < xss.length) : (slsN f 0 xss)[k]? = some (.sl (f k) 0 (xss.getD k []).length 1 none) := by
  have := slsN_get (f := f) (b := 0) hk
  rw [Nat.zero_add] at this; exact this
theorem RowsOf.gat {H : Hp} {n O : Nat} {f : Nat → Nat} {xss : List (List Int)} (h : RowsOf H n O f xss) : Gat H .i64 (slsN f 0 xss) ((List.range' 0 xss.length).map f) xss := gat_slsN fun j hj => by rw [Nat.zero_add]; exact h.row j hj
theorem RowsOf.nodup {H : Hp} {n O : Nat} {f : Nat → Nat} {xss : List (List Int)} (h : RowsOf H n O f xss) : (O :: (List.range' 0 xss.length).map f).Nodup := by
  refine List.nodup_cons.2 ⟨fun e => ?_, ?_⟩
  · obtain ⟨j, hj, e2⟩ := List.mem_map.1 e
    simp [List.mem_range'] at hj
    exact (h.lt j (by omega)).2 e2
  · refine List.pairwise_map.2 (List.Pairwise.imp_of_mem (fun {a b} ha hb hne e => hne ?_) (List.nodup_range' (s := 0) (n := xss.length)))
    simp [List.mem_range'] at ha hb
    exact h.inj a b (by omega) (by omega) e
theorem RowsOf.set {H G : Hp} {n O k : Nat} {f : Nat → Nat} {xss : List (List Int)} {x : Int} (h : RowsOf H n O f xss) (hk : k < xss.length) (gO : G O = some ⟨true, .cells ((slsN f 0 xss).set k (.sl (n + 1) 0 ((xss.getD k []).length + 1) 1 none))⟩) (gn : G (n + 1) = some ⟨true, .ints .i64 (xss.getD k [] ++ [x])⟩) (gk : ∀ u, u < n → u ≠ O → u ≠ f k → G u = H u) : RowsOf G (n + 2) O (fun j => if j = k then n + 1 else f j) (xss.set k (xss.getD k [] ++ [x])) := by
  have hOn := h.outn
  refine ⟨?_, by omega, fun j hj => ?_, fun j hj => ?_, fun j l hj hl e => ?_⟩
  · have := slsN_set (f := f) (r := xss.getD k [] ++ [x]) (m := n + 1) (b := 0) hk
    rw [List.length_append, List.length_singleton] at this
    rw [gO, this]
    simp only [Nat.zero_add]
  · rw [List.length_set] at hj
    by_cases c : j = k
    · subst c
      rw [if_pos rfl, gn, List.getD_eq_getElem?_getD (l := xss.set j _), List.getElem?_set_self hj]; rfl
    · rw [if_neg c, gk _ (h.lt j hj).1 (h.lt j hj).2 (fun e => c (h.inj j k hj hk e)), h.row j hj, List.getD_eq_getElem?_getD (l := xss.set k _), List.getElem?_set_ne (Ne.symm c), ← List.getD_eq_getElem?_getD]
  · rw [List.length_set] at hj
    have := h.lt j hj
    split <;> omega
  · rw [List.length_set] at hj hl
    have a := h.lt j hj
    have b := h.lt l hl
    by_cases c : j = k <;> by_cases d : l = k
    · omega
    · rw [if_pos c, if_neg d] at e; omega
    · rw [if_neg c, if_pos d] at e; omega
    · rw [if_neg c, if_neg d] at e; exact h.inj j l hj hl e
theorem RowsOf.push {H G : Hp} {n O : Nat} {f : Nat → Nat} {xss : List (List Int)} {r : List Int} {m nn : Nat} (h : RowsOf H n O f xss) (hm : n ≤ m) (hmn : m < nn) (gO : G (nn) = some ⟨true, .cells (slsN f 0 xss ++ [.sl m 0 r.length 1 none])⟩) (gn : G m = some ⟨true, .ints .i64 r⟩) (gk : ∀ u, u < n → u ≠ O → G u = H u) : RowsOf G (nn + 1) nn (fun j => if j = xss.length then m else f j) (xss ++ [r]) := by
  refine ⟨?_, by omega, fun j hj => ?_, fun j hj => ?_, fun j l hj hl e => ?_⟩
  · rw [gO, slsN_app, Nat.zero_add]
    have e1 : slsN f 0 xss = slsN (fun j => if j = xss.length then m else f j) 0 xss := slsN_congr fun j hj => by rw [if_neg (by omega)]
    rw [← e1]
    simp only [slsN, if_true]
  · simp only [List.length_append, List.length_singleton] at hj
    by_cases c : j = xss.length
    · subst c
      rw [if_pos rfl, gn]
      simp [List.getD_eq_getElem?_getD]
    · have hj2 : j < xss.length := by omega
      rw [if_neg c, gk _ (h.lt j hj2).1 (h.lt j hj2).2, h.row j hj2]
      simp only [List.getD_eq_getElem?_getD]; rw [List.getElem?_append_left hj2]
  · simp only [List.length_append, List.length_singleton] at hj
    by_cases c : j = xss.length
    · rw [if_pos c]; omega
    · rw [if_neg c]; have := h.lt j (by omega); omega
  · simp only [List.length_append, List.length_singleton] at hj hl
    by_cases c : j = xss.length <;> by_cases d : l = xss.length
    · omega
    · rw [if_pos c, if_neg d] at e; have := h.lt l (by omega); omega
    · rw [if_neg c, if_pos d] at e; have := h.lt j (by omega); omega
    · rw [if_neg c, if_neg d] at e; exact h.inj j l (by omega) (by omega) e
theorem RowsOf.push2 {H G : Hp} {n O m O2 N : Nat} {f : Nat → Nat} {xss : List (List Int)} {r : List Int} (h : RowsOf H n O f xss) (hm : n ≤ m) (hO2 : n ≤ O2) (hne : m ≠ O2) (hmN : m < N) (hON : O2 < N) (gO : G O2 = some ⟨true, .cells (slsN f 0 xss ++ [.sl m 0 r.length 1 none])⟩) (gn : G m = some ⟨true, .ints .i64 r⟩) (gk : ∀ u, u < n → u ≠ O → G u = H u) : RowsOf G N O2 (fun j => if j = xss.length then m else f j) (xss ++ [r]) := by
  refine ⟨?_, hON, fun j hj => ?_, fun j hj => ?_, fun j l hj hl e => ?_⟩
  · rw [gO, slsN_app, Nat.zero_add]
    have e1 : slsN f 0 xss = slsN (fun j => if j = xss.length then m else f j) 0 xss := slsN_congr fun j hj => by rw [if_neg (by omega)]
    rw [← e1]
    simp only [slsN, if_true]
  · simp only [List.length_append, List.length_singleton] at hj
    by_cases c : j = xss.length
    · subst c
      rw [if_pos rfl, gn]
      simp [List.getD_eq_getElem?_getD]
    · have hj2 : j < xss.length := by omega
      rw [if_neg c, gk _ (h.lt j hj2).1 (h.lt j hj2).2, h.row j hj2]
      simp only [List.getD_eq_getElem?_getD]; rw [List.getElem?_append_left hj2]
  · simp only [List.length_append, List.length_singleton] at hj
    by_cases c : j = xss.length
    · rw [if_pos c]; omega
    · rw [if_neg c]; have := h.lt j (by omega); omega
  · simp only [List.length_append, List.length_singleton] at hj hl
    by_cases c : j = xss.length <;> by_cases d : l = xss.length
    · omega
    · rw [if_pos c, if_neg d] at e; have := h.lt l (by omega); omega
    · rw [if_neg c, if_pos d] at e; have := h.lt j (by omega); omega
    · rw [if_neg c, if_neg d] at e; exact h.inj j l (by omega) (by omega) e


/-- Numbers are an order: few, each of 0 and so on up to their number less 1, and no two alike. -/
def isOrd (p : List Int) : Prop := p.length ≤ 5 ∧ (∀ i, i < p.length → 0 ≤ p.getD i 0 ∧ p.getD i 0 < p.length) ∧ ∀ a b, a < b → b < p.length → p.getD a 0 ≠ p.getD b 0
/-- Each of 0 and so on up to their number less 1, once. -/
def isOnce (p : List Int) : Prop := (∀ i, i < p.length → 0 ≤ p.getD i 0 ∧ p.getD i 0 < p.length) ∧ ∀ a b, a < b → b < p.length → p.getD a 0 ≠ p.getD b 0
noncomputable def onceB (p : List Int) : Bool := @decide (isOnce p) (Classical.propDecidable _)
theorem onceB_iff {p : List Int} : onceB p = true ↔ isOnce p := by unfold onceB; simp
theorem onceB_no {p : List Int} (h : ¬ isOnce p) : onceB p = false := by
  cases e : onceB p with
  | false => rfl
  | true => exact (h (onceB_iff.1 e)).elim
noncomputable def ordB (p : List Int) : Bool := @decide (isOrd p) (Classical.propDecidable _)
theorem ordB_iff {p : List Int} : ordB p = true ↔ isOrd p := by unfold ordB; simp
theorem ordB_no {p : List Int} (h : ¬ isOrd p) : ordB p = false := by
  cases e : ordB p with
  | false => rfl
  | true => exact (h (ordB_iff.1 e)).elim
/-- The first of the first k places with a value, -1 if there is none. -/
def fstAt (p : List Int) (v : Int) : Nat → Int
  | 0 => -1
  | k + 1 => if 0 ≤ fstAt p v k then fstAt p v k else if p.getD k 0 = v then (k : Int) else -1
theorem fst_none {p : List Int} {v : Int} : ∀ n, (∀ j, j < n → p.getD j 0 ≠ v) → fstAt p v n = -1
  | 0, _ => rfl
  | n + 1, h => by rw [fstAt, fst_none n fun j hj => h j (by omega), if_neg (by omega), if_neg (h n (by omega))]
theorem fst_keep {p : List Int} {v : Int} {k : Nat} (h : 0 ≤ fstAt p v k) : ∀ d, fstAt p v (k + d) = fstAt p v k
  | 0 => rfl
  | d + 1 => by rw [← Nat.add_assoc, fstAt, fst_keep h d, if_pos h]
theorem fst_at {p : List Int} {v : Int} {i n : Nat} (hi : i < n) (hv : p.getD i 0 = v) (hn : ∀ j, j < i → p.getD j 0 ≠ v) : fstAt p v n = i := by
  have h1 : fstAt p v (i + 1) = i := by rw [fstAt, fst_none i hn, if_neg (by omega), if_pos hv]
  have h2 := fst_keep (p := p) (v := v) (k := i + 1) (by omega) (n - (i + 1))
  rw [show i + 1 + (n - (i + 1)) = n by omega, h1] at h2
  exact h2
theorem fst_in {p : List Int} {v : Int} : ∀ n, -1 ≤ fstAt p v n ∧ fstAt p v n < n ∧ (0 ≤ fstAt p v n → p.getD (fstAt p v n).toNat 0 = v)
  | 0 => ⟨by simp [fstAt], by simp [fstAt], fun h => by simp [fstAt] at h⟩
  | n + 1 => by
    have ih := fst_in (p := p) (v := v) n
    rw [fstAt]
    split
    · exact ⟨by omega, by omega, ih.2.2⟩
    · split
      · rename_i h; exact ⟨by omega, by omega, fun _ => by rw [show ((n : Int)).toNat = n by omega]; exact h⟩
      · exact ⟨by omega, by omega, fun h => by omega⟩
theorem fst_some {p : List Int} {v : Int} {i n : Nat} (hi : i < n) (hv : p.getD i 0 = v) : 0 ≤ fstAt p v n := by
  have h1 : 0 ≤ fstAt p v (i + 1) := by
    rw [fstAt]
    split
    · assumption
    · first | (rw [if_pos hv]; omega) | omega
  have h2 := fst_keep h1 (n - (i + 1))
  rw [show i + 1 + (n - (i + 1)) = n by omega] at h2
  omega
/-- An order has each number once; the place of a number. -/
theorem once_has {p : List Int} (h : isOnce p) {v : Nat} (hv : v < p.length) : ∃ i, i < p.length ∧ p.getD i 0 = v := by
  obtain ⟨h2, h3⟩ := h
  obtain ⟨i, hi, he⟩ := inj_surj (n := p.length) (f := fun i => (p.getD i 0).toNat) (fun a ha => by have := h2 a ha; show (p.getD a 0).toNat < _; omega) (fun a b ha hb hab => by
    have hab : (p.getD a 0).toNat = (p.getD b 0).toNat := hab
    have := h2 a ha
    have := h2 b hb
    rcases Nat.lt_trichotomy a b with q | q | q
    · exact (h3 a b q hb (by omega)).elim
    · exact q
    · exact (h3 b a q ha (by omega)).elim) hv
  have := h2 i hi
  have he : (p.getD i 0).toNat = v := he
  exact ⟨i, hi, by omega⟩
theorem ord_has {p : List Int} (h : isOrd p) {v : Nat} (hv : v < p.length) : ∃ i, i < p.length ∧ p.getD i 0 = v := once_has h.2 hv
theorem once_of {p : List Int} (h : ∀ v, v < p.length → ∃ i, i < p.length ∧ p.getD i 0 = (v : Int)) : isOnce p := by
  have hf : ∀ v, ∃ i, v < p.length → i < p.length ∧ p.getD i 0 = (v : Int) := fun v => by
    by_cases hv : v < p.length
    · obtain ⟨i, hi⟩ := h v hv; exact ⟨i, fun _ => hi⟩
    · exact ⟨0, fun h => (hv h).elim⟩
  let f : Nat → Nat := fun v => (hf v).choose
  have hfs : ∀ v, v < p.length → f v < p.length ∧ p.getD (f v) 0 = (v : Int) := fun v => (hf v).choose_spec
  have hsur : ∀ i, i < p.length → ∃ v, v < p.length ∧ f v = i := fun i hi => inj_surj (n := p.length) (f := f) (fun a ha => (hfs a ha).1) (fun a b ha hb hab => by
    have h1 := (hfs a ha).2
    have h2 := (hfs b hb).2
    rw [hab] at h1
    omega) hi
  refine ⟨fun i hi => ?_, fun a b hab hb he => ?_⟩
  · obtain ⟨v, hv, rfl⟩ := hsur i hi
    rw [(hfs v hv).2]; omega
  · obtain ⟨u, hu, rfl⟩ := hsur a (by omega)
    obtain ⟨v, hv, rfl⟩ := hsur b hb
    rw [(hfs u hu).2, (hfs v hv).2] at he
    have : u = v := by omega
    subst this
    omega
theorem ord_of {p : List Int} (h5 : p.length ≤ 5) (h : ∀ v, v < p.length → ∃ i, i < p.length ∧ p.getD i 0 = (v : Int)) : isOrd p := ⟨h5, once_of h⟩
theorem ordB_eq (p : List Int) : ordB p = (decide (p.length ≤ 5) && onceB p) := by
  by_cases h : isOrd p
  · rw [ordB_iff.2 h, onceB_iff.2 h.2, decide_eq_true h.1]; rfl
  · rw [ordB_no h]
    by_cases h5 : p.length ≤ 5
    · rw [onceB_no (fun h2 => h ⟨h5, h2⟩), Bool.and_false]
    · rw [decide_eq_false h5, Bool.false_and]
/-- The places of the numbers of one order in another one. -/
def relL (p q : List Int) : List Int := (List.range p.length).map fun i => fstAt q (p.getD i 0) q.length
theorem relL_len (p q : List Int) : (relL p q).length = p.length := by simp [relL]
theorem relL_get {p q : List Int} {i : Nat} (h : i < p.length) : (relL p q).getD i 0 = fstAt q (p.getD i 0) q.length := by
  rw [List.getD_eq_getElem?_getD, List.getElem?_eq_getElem (by rw [relL_len]; exact h)]; simp [relL]
theorem relL_up {p q : List Int} {i : Nat} (h : i < p.length) : (relL p q).take i ++ [fstAt q (p.getD i 0) q.length] = (relL p q).take (i + 1) := by
  rw [List.take_succ_eq_append_getElem (by rw [relL_len]; exact h)]
  congr 2
  have := relL_get (q := q) h
  rw [List.getD_eq_getElem?_getD, List.getElem?_eq_getElem (by rw [relL_len]; exact h)] at this
  simpa using this.symm
/-- What is there behind i numbers and k places of the next one. -/
def relIn (p q : List Int) (i k : Nat) : List Int := (relL p q).take i ++ (if 0 ≤ fstAt q (p.getD i 0) k then [fstAt q (p.getD i 0) k] else [])
theorem relIn_zero (p q : List Int) (i : Nat) : relIn p q i 0 = (relL p q).take i := by unfold relIn; rw [show fstAt q (p.getD i 0) 0 = -1 from rfl, if_neg (by omega), List.append_nil]
theorem relIn_hit {p q : List Int} {i k : Nat} (hq : isOrd q) (hk : k < q.length) (h : q.getD k 0 = p.getD i 0) : relIn p q i k ++ [(k : Int)] = relIn p q i (k + 1) := by
  have h0 : fstAt q (p.getD i 0) k = -1 := fst_none k fun j hj he => hq.2.2 j k hj hk (by omega)
  unfold relIn
  have h1 : fstAt q (p.getD i 0) (k + 1) = k := by rw [fstAt, h0, if_neg (by omega), if_pos h]
  rw [h1, h0, if_neg (by omega), if_pos (by omega), List.append_nil]
theorem relIn_miss {p q : List Int} {i k : Nat} (h : q.getD k 0 ≠ p.getD i 0) : relIn p q i (k + 1) = relIn p q i k := by
  unfold relIn
  rw [fstAt]
  by_cases h0 : 0 ≤ fstAt q (p.getD i 0) k
  · rw [if_pos h0]
  · rw [if_neg h0, if_neg h, if_neg (by omega), if_neg h0]
theorem rel_ord {p q : List Int} (hp : isOrd p) (hq : isOrd q) (hl : p.length = q.length) {i : Nat} (hi : i < p.length) : 0 ≤ fstAt q (p.getD i 0) q.length := by
  have h1 := hp.2.1 i hi
  obtain ⟨k, hk, he⟩ := ord_has hq (v := (p.getD i 0).toNat) (by omega)
  exact fst_some hk (by omega)
theorem relIn_end {p q : List Int} (hp : isOrd p) (hq : isOrd q) (hl : p.length = q.length) {i : Nat} (hi : i < p.length) : relIn p q i q.length = (relL p q).take (i + 1) := by
  unfold relIn
  rw [if_pos (rel_ord hp hq hl hi), relL_up hi]
theorem relIn_len {p q : List Int} {i k : Nat} (hi : i < p.length) (hk : k ≤ q.length) (h5 : q.length ≤ 5) : (relIn p q i k).length ≤ i + 1 := by
  unfold relIn
  have : ((relL p q).take i).length ≤ i := by rw [List.length_take]; omega
  split <;> simp <;> omega
/-- Both fine, and of one length. -/
noncomputable def ord2B (p q : List Int) : Bool := @decide (isOrd p ∧ isOrd q ∧ p.length = q.length) (Classical.propDecidable _)
theorem ord2B_iff {p q : List Int} : ord2B p q = true ↔ isOrd p ∧ isOrd q ∧ p.length = q.length := by unfold ord2B; simp
theorem ord2B_no {p q : List Int} (h : ¬ (isOrd p ∧ isOrd q ∧ p.length = q.length)) : ord2B p q = false := by
  cases e : ord2B p q with
  | false => rfl
  | true => exact (h (ord2B_iff.1 e)).elim

theorem ord2B_eq (p q : List Int) : ord2B p q = (decide ((p.length : Int) = q.length) && ordB p && ordB q) := by
  by_cases h : isOrd p ∧ isOrd q ∧ p.length = q.length
  · rw [ord2B_iff.2 h, ordB_iff.2 h.1, ordB_iff.2 h.2.1, decide_eq_true (by omega)]; rfl
  · rw [ord2B_no h]
    cases hp : ordB p with
    | false => simp
    | true =>
      cases hq : ordB q with
      | false => simp
      | true => rw [decide_eq_false (fun e => h ⟨ordB_iff.1 hp, ordB_iff.1 hq, by omega⟩)]; rfl


theorem slIndex_sat : Sat Try.prog 36 (fun ds Q => ∃ (xs : List Int) (v : Int), ds = [.row (.ints .i64 (xs)), .val (.int .i64 (v))] ∧ (xs.length ≤ 1099511627776) ∧ Q (.val (.int .i64 ((fstAt xs v xs.length))))) := by
  refine sat_intro tabOk Try.func36 rfl 19 rfl [.tmp 4] rfl ?_
  rintro ds Q W ⟨xs, v, rfl, hl, hQ⟩
  refine ⟨Nat.le_of_ble_eq_true rfl, ?_⟩
  simp only [initS, initT, mat.matL, mat, Cont.len]
  repeat' (first | refine awp_seq_k fun K hK => ?_ | ((with_reducible refine hK _ ?_); clear hK K) | ((with_reducible refine aord_plain fun K hK => ?_); simp only [go_sem, Nat.reduceAdd, Nat.reduceMul, Nat.reduceEqDiff, Nat.reduceLT, reduceIte, reduceCtorEq]) | refine awp_block ?_ | ((first | with_reducible refine aord_nil ?_ | refine awp_skip ?_ | refine awp_exit ?_ | refine awp_ret ?_); try simp only [rdA, Nat.reduceEqDiff, ifA, ifB, reduceIte]) | (refine awp_region tabOk rfl ?_; simp only [prep, pickO, lsA, lsB, lsC, lsD, lsE, lsF, lsG]) | fail)
  refine awp_loopE (α := Nat) (fun s p => ⟨(upd (upd (upd (upd bot 0 (s.tmps 0)) 1 (s.tmps 1)) 7 (s.tmps 7)) 8 (.val (.int .i64 (p)))), s.heap, s.next⟩) _ (fun p => by simp only [St.ev, St.set, upd, Nat.reduceEqDiff, reduceIte, ifA, ifB]; exact rfl) (fun p => (p ≤ xs.length) ∧ (∀ j, j < p → xs.getD j 0 ≠ v)) (fun p => xs.length - p) (0) ?_ ?_ ?_
  · (try simp only); (refine ⟨?_, ?_⟩ <;> (first | omega | (intro j h; omega)))
  · (apply Wk.same; (case' h2 => (focus ((repeat' (with_reducible first | exact HeapX.bot | (apply HeapX.skip; (case hx => (simp; done))) | apply HeapX.none | apply HeapX.upd)); all_goals (first | rfl | exact Nat.le_of_ble_eq_true rfl | (simp only [St.set, St.ev, upd, ren, renL, id, Nat.reduceEqDiff, reduceIte, ContLe]; done) | (exact And.intro rfl (And.intro (by first | exact Nat.le_of_ble_eq_true rfl | omega) (by first | exact Nat.le_of_ble_eq_true rfl | omega))) | (first | (simp only [St.set, St.ev, upd, ren, renL, id, Nat.reduceEqDiff, reduceIte]; exact contLe_nil) | ((repeat' (first | exact contLe_nil | refine contLe_cons (.inr ⟨?_, rfl⟩) ?_)); all_goals (first | rfl | (simp only [St.set, St.ev, upd, ren, renL, id, Nat.reduceEqDiff, reduceIte]; done) | ((try simp only [St.set, St.ev, upd, ren, renL, id, Nat.reduceEqDiff, reduceIte]); first | (with_reducible exact av_int (by omega)) | (with_reducible exact av_sl (by first | omega | (simp; done) | (simp; omega)) (by first | omega | (simp; done) | (simp; omega)))) | (simp only [St.set, St.ev, upd, ren, renL, id, Nat.reduceEqDiff, reduceIte, Int.natCast_add, Int.natCast_one, Int.cast_ofNat_Int, Int.natCast_zero]; done) | (simp only [St.set, St.ev, upd, ren, renL, id, Nat.reduceEqDiff, reduceIte]) | skip); done)) | (simp only [St.set, St.ev, upd, ren, renL, id, Nat.reduceEqDiff, reduceIte, ContLe]) | skip)))); (case' h1 => (focus ((repeat' (with_reducible first | exact TmpLe.bot | refine TmpLe.upd ?_ rfl ?_)); all_goals (first | rfl | (simp only [St.set, St.ev, upd, ren, renL, id, Nat.reduceEqDiff, reduceIte]; done) | ((try simp only [St.set, St.ev, upd, ren, renL, id, Nat.reduceEqDiff, reduceIte]); first | (with_reducible exact av_int (by omega)) | (with_reducible exact av_sl (by first | omega | (simp; done) | (simp; omega)) (by first | omega | (simp; done) | (simp; omega)))) | (simp only [St.set, St.ev, upd, ren, renL, id, Nat.reduceEqDiff, reduceIte, Int.natCast_add, Int.natCast_one, Int.cast_ofNat_Int, Int.natCast_zero]; done) | (simp only [St.set, St.ev, upd, ren, renL, id, Nat.reduceEqDiff, reduceIte]) | skip)))); (case h3 => (focus (first | (simp only [id, List.map_cons, List.map_nil]; decide) | decide | (simp; done) | (simp; omega) | fail))); (case h4 => (intro o l h; first | (cases h; done) | (have hlt0 := m0_lt (by assumption) h; (try (simp only at hlt0)); first | omega | (simp only; omega) | exact ⟨by (first | rfl | (simp only [id]; done) | ((repeat rw [if_neg (by omega)]); done)), by first | omega | (simp only; omega)⟩))))
  rintro i ⟨hi, hn⟩
  try simp only at hi hn
  repeat' (first | refine awp_seq_k fun K hK => ?_ | ((with_reducible refine hK _ ?_); clear hK K) | (clear hK K; (with_reducible refine hK _ ?_); clear hK K) | ((with_reducible refine aord_plain fun K hK => ?_); simp only [go_sem, Nat.reduceAdd, Nat.reduceMul, Nat.reduceEqDiff, Nat.reduceLT, reduceIte, reduceCtorEq]) | refine awp_block ?_ | ((first | with_reducible refine aord_nil ?_ | refine awp_skip ?_ | refine awp_exit ?_ | refine awp_ret ?_); try simp only [rdA, Nat.reduceEqDiff, ifA, ifB, reduceIte]) | (refine awp_region tabOk rfl ?_; simp only [prep, pickO, lsA, lsB, lsC, lsD, lsE, lsF, lsG]) | ((with_reducible apply awp_cond); (focus (simp only [St.ev, St.set, upd, Nat.reduceEqDiff, reduceIte, ifA, ifB]; exact rfl)); all_goals (intro hb; first | (cases hb; done) | ((try rw [hb]); (try simp only [dcA, dcB, dcC, dcD, dcE, Bool.not_eq_true', Bool.not_eq_false'] at hb)))) | ((with_reducible refine And.intro ?_ ?_); (focus omega)) | fail)
  · simp only [St.set, St.ev, doneQ, doneH, ressK, resK, wrapR, AV.ids, AV.idsL, retK, retsK, upd, Nat.reduceEqDiff, reduceIte, ifA, ifB, List.nodup_nil, List.nodup_cons, List.not_mem_nil, not_false_eq_true, true_and, and_true, exists_eq_left', Option.some.injEq, rLoad, cellOf, tab, Ty.isAgg, Ty.one, Bool.false_eq_true]
    rw [fst_at (i := i) (n := xs.length) (by omega) (by omega) hn] at hQ
    exact hQ
  · ((refine Exists.intro (i + 1) ?_); (refine nxt ?_ ?_ ?_); (focus ((apply Wk.same; (case' h2 => (focus ((repeat' (with_reducible first | exact HeapX.bot | (apply HeapX.skip; (case hx => (simp; done))) | apply HeapX.none | apply HeapX.upd)); all_goals (first | rfl | exact Nat.le_of_ble_eq_true rfl | (simp only [St.set, St.ev, upd, ren, renL, id, Nat.reduceEqDiff, reduceIte, ContLe]; done) | (exact And.intro rfl (And.intro (by first | exact Nat.le_of_ble_eq_true rfl | omega) (by first | exact Nat.le_of_ble_eq_true rfl | omega))) | (first | (simp only [St.set, St.ev, upd, ren, renL, id, Nat.reduceEqDiff, reduceIte]; exact contLe_nil) | ((repeat' (first | exact contLe_nil | refine contLe_cons (.inr ⟨?_, rfl⟩) ?_)); all_goals (first | rfl | (simp only [St.set, St.ev, upd, ren, renL, id, Nat.reduceEqDiff, reduceIte]; done) | ((try simp only [St.set, St.ev, upd, ren, renL, id, Nat.reduceEqDiff, reduceIte]); first | (with_reducible exact av_int (by omega)) | (with_reducible exact av_sl (by first | omega | (simp; done) | (simp; omega)) (by first | omega | (simp; done) | (simp; omega)))) | (simp only [St.set, St.ev, upd, ren, renL, id, Nat.reduceEqDiff, reduceIte, Int.natCast_add, Int.natCast_one, Int.cast_ofNat_Int, Int.natCast_zero]; done) | (simp only [St.set, St.ev, upd, ren, renL, id, Nat.reduceEqDiff, reduceIte]) | skip); done)) | (simp only [St.set, St.ev, upd, ren, renL, id, Nat.reduceEqDiff, reduceIte, ContLe]) | skip)))); (case' h1 => (focus ((repeat' (with_reducible first | exact TmpLe.bot | refine TmpLe.upd ?_ rfl ?_)); all_goals (first | rfl | (simp only [St.set, St.ev, upd, ren, renL, id, Nat.reduceEqDiff, reduceIte]; done) | ((try simp only [St.set, St.ev, upd, ren, renL, id, Nat.reduceEqDiff, reduceIte]); first | (with_reducible exact av_int (by omega)) | (with_reducible exact av_sl (by first | omega | (simp; done) | (simp; omega)) (by first | omega | (simp; done) | (simp; omega)))) | (simp only [St.set, St.ev, upd, ren, renL, id, Nat.reduceEqDiff, reduceIte, Int.natCast_add, Int.natCast_one, Int.cast_ofNat_Int, Int.natCast_zero]; done) | (simp only [St.set, St.ev, upd, ren, renL, id, Nat.reduceEqDiff, reduceIte]) | skip)))); (case h3 => (focus (first | (simp only [id, List.map_cons, List.map_nil]; decide) | decide | (simp; done) | (simp; omega) | fail))); (case h4 => (intro o l h; first | (cases h; done) | (have hlt0 := m0_lt (by assumption) h; (try (simp only at hlt0)); first | omega | (simp only; omega) | exact ⟨by (first | rfl | (simp only [id]; done) | ((repeat rw [if_neg (by omega)]); done)), by first | omega | (simp only; omega)⟩)))))); (focus (first | omega | (simp only; omega) | (simp only [List.length_take]; omega) | (simp; done) | (simp; omega))); ((repeat' (with_reducible apply And.intro)) <;> (first | omega | (simp only; omega) | assumption | rfl | ((try simp only); exact all_step hn (by omega)) | skip)))
  · simp only [St.set, St.ev, doneQ, doneH, ressK, resK, wrapR, AV.ids, AV.idsL, retK, retsK, upd, Nat.reduceEqDiff, reduceIte, ifA, ifB, List.nodup_nil, List.nodup_cons, List.not_mem_nil, not_false_eq_true, true_and, and_true, exists_eq_left', Option.some.injEq, rLoad, cellOf, tab, Ty.isAgg, Ty.one, Bool.false_eq_true]
    rw [fst_none xs.length (fun j hj => hn j (by omega))] at hQ
    exact hQ


theorem slContains_sat : Sat Try.prog 31 (fun ds Q => ∃ (xs : List Int) (v : Int), ds = [.row (.ints .i64 (xs)), .val (.int .i64 (v))] ∧ (xs.length ≤ 1099511627776) ∧ Q (.val (.bool ((decide (fstAt xs v xs.length ≥ 0)))))) := by
  refine sat_intro tabOk Try.func31 rfl 9 rfl [.tmp 4] rfl ?_
  rintro ds Q W ⟨xs, v, rfl, hl, hQ⟩
  refine ⟨Nat.le_of_ble_eq_true rfl, ?_⟩
  simp only [initS, initT, mat.matL, mat, Cont.len]
  repeat' (first | refine awp_seq_k fun K hK => ?_ | ((with_reducible refine hK _ ?_); clear hK K) | ((with_reducible refine aord_plain fun K hK => ?_); simp only [go_sem, Nat.reduceAdd, Nat.reduceMul, Nat.reduceEqDiff, Nat.reduceLT, reduceIte, reduceCtorEq]) | ((first | with_reducible refine aord_nil ?_ | refine awp_skip ?_ | refine awp_exit ?_ | refine awp_ret ?_); try simp only [rdA, Nat.reduceEqDiff, ifA, ifB, reduceIte]) | (refine awp_region tabOk rfl ?_; simp only [prep, pickO, lsA, lsB, lsC, lsD, lsE, lsF, lsG]) | ((with_reducible refine And.intro ?_ ?_); (focus omega)) | ((with_reducible refine And.intro (?_ : enters Try.prog 36) ?_); (focus exact Try.call36); (refine callX_sat slIndex_sat ?_); simp only [go_sem, and_assoc, List.nil_append, List.append_nil, List.cons_append, Nat.reduceEqDiff, reduceIte, reduceCtorEq]) | fail)
  simp only [St.set, St.ev, doneQ, doneH, ressK, resK, wrapR, AV.ids, AV.idsL, retK, retsK, upd, Nat.reduceEqDiff, reduceIte, ifA, ifB, List.nodup_nil, List.nodup_cons, List.not_mem_nil, not_false_eq_true, true_and, and_true, exists_eq_left', Option.some.injEq, rLoad, cellOf, tab, Ty.isAgg, Ty.one, Bool.false_eq_true]
  exact hQ


theorem comeOnce_sat : Sat Try.prog 21 (fun ds Q => ∃ (us : List Int), ds = [.row (.ints .i64 (us))] ∧ (us.length ≤ 1099511627776) ∧ Q (.val (.bool ((onceB us))))) := by
  refine sat_intro tabOk Try.func21 rfl 14 rfl [.tmp 2] rfl ?_
  rintro ds Q W ⟨us, rfl, hl, hQ⟩
  refine ⟨Nat.le_of_ble_eq_true rfl, ?_⟩
  simp only [initS, initT, mat.matL, mat, Cont.len]
  repeat' (first | refine awp_seq_k fun K hK => ?_ | ((with_reducible refine hK _ ?_); clear hK K) | (clear hK K; (with_reducible refine hK _ ?_); clear hK K) | (clear hK K; clear hK K; (with_reducible refine hK _ ?_); clear hK K) | (clear hK K; clear hK K; clear hK K; (with_reducible refine hK _ ?_); clear hK K) | (clear hK K; clear hK K; clear hK K; clear hK K; (with_reducible refine hK _ ?_); clear hK K) | (clear hK K; clear hK K; clear hK K; clear hK K; clear hK K; (with_reducible refine hK _ ?_); clear hK K) | ((with_reducible refine aord_plain fun K hK => ?_); simp only [go_sem, Nat.reduceAdd, Nat.reduceMul, Nat.reduceEqDiff, Nat.reduceLT, reduceIte, reduceCtorEq]) | refine awp_block ?_ | ((first | with_reducible refine aord_nil ?_ | refine awp_skip ?_ | refine awp_exit ?_ | refine awp_ret ?_); try simp only [rdA, Nat.reduceEqDiff, ifA, ifB, reduceIte]) | (refine awp_region tabOk rfl ?_; simp only [prep, pickO, lsA, lsB, lsC, lsD, lsE, lsF, lsG]) | ((with_reducible apply awp_cond); (focus (simp only [St.ev, St.set, upd, Nat.reduceEqDiff, reduceIte, ifA, ifB]; exact rfl)); all_goals (intro hb; first | (cases hb; done) | ((try rw [hb]); (try simp only [dcA, dcB, dcC, dcD, dcE, Bool.not_eq_true', Bool.not_eq_false'] at hb)))) | ((with_reducible refine And.intro ?_ ?_); (focus omega)) | ((with_reducible refine And.intro ?_ ?_); (focus (exact rfl))) | ((with_reducible refine And.intro (?_ : enters Try.prog 31) ?_); (focus exact Try.call31); (refine callX_sat slContains_sat ?_); simp only [go_sem, and_assoc, List.nil_append, List.append_nil, List.cons_append, Nat.reduceEqDiff, reduceIte, reduceCtorEq]) | (with_reducible refine And.intro (fun hb => ?_) (fun hb => ?_)) | (exfalso; omega) | fail)
  · skip
    refine awp_loopE (α := Nat) (fun s p => ⟨(upd (upd (upd bot 0 (s.tmps 0)) 5 (s.tmps 5)) 6 (.val (.int .i64 (p)))), s.heap, s.next⟩) _ (fun p => by simp only [St.ev, St.set, upd, Nat.reduceEqDiff, reduceIte, ifA, ifB]; exact rfl) (fun p => (p ≤ us.length) ∧ (∀ v : Nat, v < p → 0 ≤ fstAt us v us.length)) (fun p => us.length - p) (0) ?_ ?_ ?_
    · (try simp only); (refine ⟨?_, ?_⟩ <;> (first | omega | (intro j h; omega)))
    · (apply Wk.same; (case' h2 => (focus ((repeat' (with_reducible first | exact HeapX.bot | (apply HeapX.skip; (case hx => (simp; done))) | apply HeapX.none | apply HeapX.upd)); all_goals (first | rfl | exact Nat.le_of_ble_eq_true rfl | (simp only [St.set, St.ev, upd, ren, renL, id, Nat.reduceEqDiff, reduceIte, ContLe]; done) | (exact And.intro rfl (And.intro (by first | exact Nat.le_of_ble_eq_true rfl | omega) (by first | exact Nat.le_of_ble_eq_true rfl | omega))) | (first | (simp only [St.set, St.ev, upd, ren, renL, id, Nat.reduceEqDiff, reduceIte]; exact contLe_nil) | ((repeat' (first | exact contLe_nil | refine contLe_cons (.inr ⟨?_, rfl⟩) ?_)); all_goals (first | rfl | (simp only [St.set, St.ev, upd, ren, renL, id, Nat.reduceEqDiff, reduceIte]; done) | ((try simp only [St.set, St.ev, upd, ren, renL, id, Nat.reduceEqDiff, reduceIte]); first | (with_reducible exact av_int (by omega)) | (with_reducible exact av_sl (by first | omega | (simp; done) | (simp; omega)) (by first | omega | (simp; done) | (simp; omega)))) | (simp only [St.set, St.ev, upd, ren, renL, id, Nat.reduceEqDiff, reduceIte, Int.natCast_add, Int.natCast_one, Int.cast_ofNat_Int, Int.natCast_zero]; done) | (simp only [St.set, St.ev, upd, ren, renL, id, Nat.reduceEqDiff, reduceIte]) | skip); done)) | (simp only [St.set, St.ev, upd, ren, renL, id, Nat.reduceEqDiff, reduceIte, ContLe]) | skip)))); (case' h1 => (focus ((repeat' (with_reducible first | exact TmpLe.bot | refine TmpLe.upd ?_ rfl ?_)); all_goals (first | rfl | (simp only [St.set, St.ev, upd, ren, renL, id, Nat.reduceEqDiff, reduceIte]; done) | ((try simp only [St.set, St.ev, upd, ren, renL, id, Nat.reduceEqDiff, reduceIte]); first | (with_reducible exact av_int (by omega)) | (with_reducible exact av_sl (by first | omega | (simp; done) | (simp; omega)) (by first | omega | (simp; done) | (simp; omega)))) | (simp only [St.set, St.ev, upd, ren, renL, id, Nat.reduceEqDiff, reduceIte, Int.natCast_add, Int.natCast_one, Int.cast_ofNat_Int, Int.natCast_zero]; done) | (simp only [St.set, St.ev, upd, ren, renL, id, Nat.reduceEqDiff, reduceIte]) | skip)))); (case h3 => (focus (first | (simp only [id, List.map_cons, List.map_nil]; decide) | decide | (simp; done) | (simp; omega) | fail))); (case h4 => (intro o l h; first | (cases h; done) | (have hlt0 := m0_lt (by assumption) h; (try (simp only at hlt0)); first | omega | (simp only; omega) | exact ⟨by (first | rfl | (simp only [id]; done) | ((repeat rw [if_neg (by omega)]); done)), by first | omega | (simp only; omega)⟩))))
    rintro i ⟨hi, hn⟩
    try simp only at hi hn
    repeat' (first | refine awp_seq_k fun K hK => ?_ | ((with_reducible refine hK _ ?_); clear hK K) | (clear hK K; (with_reducible refine hK _ ?_); clear hK K) | (clear hK K; clear hK K; (with_reducible refine hK _ ?_); clear hK K) | (clear hK K; clear hK K; clear hK K; (with_reducible refine hK _ ?_); clear hK K) | (clear hK K; clear hK K; clear hK K; clear hK K; (with_reducible refine hK _ ?_); clear hK K) | (clear hK K; clear hK K; clear hK K; clear hK K; clear hK K; (with_reducible refine hK _ ?_); clear hK K) | ((with_reducible refine aord_plain fun K hK => ?_); simp only [go_sem, Nat.reduceAdd, Nat.reduceMul, Nat.reduceEqDiff, Nat.reduceLT, reduceIte, reduceCtorEq]) | refine awp_block ?_ | ((first | with_reducible refine aord_nil ?_ | refine awp_skip ?_ | refine awp_exit ?_ | refine awp_ret ?_); try simp only [rdA, Nat.reduceEqDiff, ifA, ifB, reduceIte]) | (refine awp_region tabOk rfl ?_; simp only [prep, pickO, lsA, lsB, lsC, lsD, lsE, lsF, lsG]) | ((with_reducible apply awp_cond); (focus (simp only [St.ev, St.set, upd, Nat.reduceEqDiff, reduceIte, ifA, ifB]; exact rfl)); all_goals (intro hb; first | (cases hb; done) | ((try rw [hb]); (try simp only [dcA, dcB, dcC, dcD, dcE, Bool.not_eq_true', Bool.not_eq_false'] at hb)))) | ((with_reducible refine And.intro ?_ ?_); (focus omega)) | ((with_reducible refine And.intro ?_ ?_); (focus (exact rfl))) | ((with_reducible refine And.intro (?_ : enters Try.prog 31) ?_); (focus exact Try.call31); (refine callX_sat slContains_sat ?_); simp only [go_sem, and_assoc, List.nil_append, List.append_nil, List.cons_append, Nat.reduceEqDiff, reduceIte, reduceCtorEq]) | (with_reducible refine And.intro (fun hb => ?_) (fun hb => ?_)) | (exfalso; omega) | fail)
    · simp only [St.set, St.ev, doneQ, doneH, ressK, resK, wrapR, AV.ids, AV.idsL, retK, retsK, upd, Nat.reduceEqDiff, reduceIte, ifA, ifB, List.nodup_nil, List.nodup_cons, List.not_mem_nil, not_false_eq_true, true_and, and_true, exists_eq_left', Option.some.injEq, rLoad, cellOf, tab, Ty.isAgg, Ty.one, Bool.false_eq_true]
      rw [onceB_no (fun h => by obtain ⟨k, hk, he⟩ := once_has h (v := i) (by omega); have := fst_some hk he; omega)] at hQ
      exact hQ
    · ((refine Exists.intro (i + 1) ?_); (refine nxt ?_ ?_ ?_); (focus ((apply Wk.same; (case' h2 => (focus ((repeat' (with_reducible first | exact HeapX.bot | (apply HeapX.skip; (case hx => (simp; done))) | apply HeapX.none | apply HeapX.upd)); all_goals (first | rfl | exact Nat.le_of_ble_eq_true rfl | (simp only [St.set, St.ev, upd, ren, renL, id, Nat.reduceEqDiff, reduceIte, ContLe]; done) | (exact And.intro rfl (And.intro (by first | exact Nat.le_of_ble_eq_true rfl | omega) (by first | exact Nat.le_of_ble_eq_true rfl | omega))) | (first | (simp only [St.set, St.ev, upd, ren, renL, id, Nat.reduceEqDiff, reduceIte]; exact contLe_nil) | ((repeat' (first | exact contLe_nil | refine contLe_cons (.inr ⟨?_, rfl⟩) ?_)); all_goals (first | rfl | (simp only [St.set, St.ev, upd, ren, renL, id, Nat.reduceEqDiff, reduceIte]; done) | ((try simp only [St.set, St.ev, upd, ren, renL, id, Nat.reduceEqDiff, reduceIte]); first | (with_reducible exact av_int (by omega)) | (with_reducible exact av_sl (by first | omega | (simp; done) | (simp; omega)) (by first | omega | (simp; done) | (simp; omega)))) | (simp only [St.set, St.ev, upd, ren, renL, id, Nat.reduceEqDiff, reduceIte, Int.natCast_add, Int.natCast_one, Int.cast_ofNat_Int, Int.natCast_zero]; done) | (simp only [St.set, St.ev, upd, ren, renL, id, Nat.reduceEqDiff, reduceIte]) | skip); done)) | (simp only [St.set, St.ev, upd, ren, renL, id, Nat.reduceEqDiff, reduceIte, ContLe]) | skip)))); (case' h1 => (focus ((repeat' (with_reducible first | exact TmpLe.bot | refine TmpLe.upd ?_ rfl ?_)); all_goals (first | rfl | (simp only [St.set, St.ev, upd, ren, renL, id, Nat.reduceEqDiff, reduceIte]; done) | ((try simp only [St.set, St.ev, upd, ren, renL, id, Nat.reduceEqDiff, reduceIte]); first | (with_reducible exact av_int (by omega)) | (with_reducible exact av_sl (by first | omega | (simp; done) | (simp; omega)) (by first | omega | (simp; done) | (simp; omega)))) | (simp only [St.set, St.ev, upd, ren, renL, id, Nat.reduceEqDiff, reduceIte, Int.natCast_add, Int.natCast_one, Int.cast_ofNat_Int, Int.natCast_zero]; done) | (simp only [St.set, St.ev, upd, ren, renL, id, Nat.reduceEqDiff, reduceIte]) | skip)))); (case h3 => (focus (first | (simp only [id, List.map_cons, List.map_nil]; decide) | decide | (simp; done) | (simp; omega) | fail))); (case h4 => (intro o l h; first | (cases h; done) | (have hlt0 := m0_lt (by assumption) h; (try (simp only at hlt0)); first | omega | (simp only; omega) | exact ⟨by (first | rfl | (simp only [id]; done) | ((repeat rw [if_neg (by omega)]); done)), by first | omega | (simp only; omega)⟩)))))); (focus (first | omega | (simp only; omega) | (simp only [List.length_take]; omega) | (simp; done) | (simp; omega))); ((repeat' (with_reducible apply And.intro)) <;> (first | omega | (simp only; omega) | assumption | rfl | ((try simp only); exact all_step (p := fun v : Nat => 0 ≤ fstAt us v us.length) hn (by show 0 ≤ fstAt us i us.length; omega)) | skip)))
    · simp only [St.set, St.ev, doneQ, doneH, ressK, resK, wrapR, AV.ids, AV.idsL, retK, retsK, upd, Nat.reduceEqDiff, reduceIte, ifA, ifB, List.nodup_nil, List.nodup_cons, List.not_mem_nil, not_false_eq_true, true_and, and_true, exists_eq_left', Option.some.injEq, rLoad, cellOf, tab, Ty.isAgg, Ty.one, Bool.false_eq_true]
      rw [onceB_iff.2 (once_of fun v hv => by
        have h1 := hn v (by omega)
        have h2 := fst_in (p := us) (v := v) us.length
        exact ⟨(fstAt us v us.length).toNat, by omega, h2.2.2 h1⟩)] at hQ
      exact hQ


/-- A letter of a text. -/
def lt8 (s : ByteArray) (i : Nat) : Nat := (s.data.toList.getD i 0).toNat
theorem lt_get {s : ByteArray} {i : Nat} (h : i < s.size) : (s[i]'h).toNat = lt8 s i := by
  have h2 : i < s.data.toList.length := by simpa using h
  unfold lt8
  rw [List.getD_eq_getElem?_getD, List.getElem?_eq_getElem h2]
  rfl
theorem lt_le (s : ByteArray) (i : Nat) : lt8 s i < 256 := UInt8.toNat_lt _
/-- The numbers that have left, the stack, and the next number, when so many moves are done. -/
def mvS (s : ByteArray) : Nat → Option (List Int × List Int × Nat)
  | 0 => some ([], [], 0)
  | i + 1 => match mvS s i with
    | none => none
    | some (o, st, nx) => if lt8 s i = 105 then some (o, st ++ [(nx : Int)], nx + 1) else if lt8 s i = 111 then (if st.length = 0 then none else some (o ++ [st.getD (st.length - 1) 0], st.take (st.length - 1), nx)) else none
theorem mvS_put {s : ByteArray} {i : Nat} {o st : List Int} {nx : Nat} (h : mvS s i = some (o, st, nx)) (hl : lt8 s i = 105) : mvS s (i + 1) = some (o, st ++ [(nx : Int)], nx + 1) := by rw [mvS, h]; simp only; rw [if_pos hl]
theorem mvS_pop {s : ByteArray} {i : Nat} {o st : List Int} {nx : Nat} (h : mvS s i = some (o, st, nx)) (hl : lt8 s i = 111) (h0 : 0 < st.length) : mvS s (i + 1) = some (o ++ [st.getD (st.length - 1) 0], st.take (st.length - 1), nx) := by rw [mvS, h]; simp only; rw [if_neg (by omega), if_pos hl, if_neg (by omega)]
theorem mvS_bad {s : ByteArray} {i : Nat} {o st : List Int} {nx : Nat} (h : mvS s i = some (o, st, nx)) (hl : lt8 s i ≠ 105) (hb : lt8 s i ≠ 111 ∨ st.length = 0) : mvS s (i + 1) = none := by
  rw [mvS, h]; simp only; rw [if_neg hl]; split
  · rw [if_pos (by omega)]
  · rfl
theorem mvS_none {s : ByteArray} {i : Nat} (h : mvS s i = none) : ∀ d, mvS s (i + d) = none
  | 0 => h
  | d + 1 => by rw [← Nat.add_assoc, mvS, mvS_none h d]
theorem mvS_some {s : ByteArray} {n : Nat} {x : List Int × List Int × Nat} (h : mvS s n = some x) {i : Nat} (hi : i ≤ n) : ∃ o st nx, mvS s i = some (o, st, nx) := by
  cases e : mvS s i with
  | some y => exact ⟨y.1, y.2.1, y.2.2, rfl⟩
  | none => have := mvS_none e (n - i); rw [show i + (n - i) = n by omega, h] at this; cases this
theorem mvS_len {s : ByteArray} : ∀ {i : Nat} {o st : List Int} {nx : Nat}, mvS s i = some (o, st, nx) → st.length + o.length = nx ∧ nx + o.length = i := by
  intro i
  induction i with
  | zero => intro o st nx h; simp only [mvS, Option.some.injEq, Prod.mk.injEq] at h; obtain ⟨rfl, rfl, rfl⟩ := h; simp
  | succ i ih =>
    intro o st nx h
    cases e : mvS s i with
    | none => rw [mvS, e] at h; cases h
    | some y =>
      obtain ⟨o', st', nx'⟩ := y
      have a := ih e
      by_cases h1 : lt8 s i = 105
      · rw [mvS_put e h1] at h; simp only [Option.some.injEq, Prod.mk.injEq] at h; obtain ⟨rfl, rfl, rfl⟩ := h; simp only [List.length_append, List.length_singleton]; omega
      · by_cases h2 : lt8 s i = 111 ∧ 0 < st'.length
        · rw [mvS_pop e h2.1 h2.2] at h; simp only [Option.some.injEq, Prod.mk.injEq] at h; obtain ⟨rfl, rfl, rfl⟩ := h; simp only [List.length_append, List.length_singleton, List.length_take]; omega
        · rw [mvS_bad e h1 (by omega)] at h; cases h
def mvB (s : ByteArray) : Bool := (match mvS s s.size with | some (_, st, _) => decide (st.length = 0) | none => false) && decide (s.size ≤ 16)
def mvR (s : ByteArray) : List Int := if mvB s then (match mvS s s.size with | some (o, _, _) => o | none => []) else []
theorem mvB_no {s : ByteArray} {i : Nat} (h : mvS s i = none) (hi : i ≤ s.size) : mvB s = false := by
  have := mvS_none h (s.size - i)
  rw [show i + (s.size - i) = s.size by omega] at this
  unfold mvB; rw [this]; rfl
theorem mvB_end {s : ByteArray} {o st : List Int} {nx : Nat} (h : mvS s s.size = some (o, st, nx)) : mvB s = (decide (st.length = 0) && decide (s.size ≤ 16)) := by unfold mvB; rw [h]
theorem mvB_yes {s : ByteArray} (h : mvB s = true) : s.size ≤ 16 ∧ ∃ o nx, mvS s s.size = some (o, [], nx) ∧ mvR s = o := by
  cases e : mvS s s.size with
  | none => rw [mvB_no e (Nat.le_refl _)] at h; cases h
  | some y =>
    obtain ⟨o, st, nx⟩ := y
    have h2 := h
    rw [mvB_end e, Bool.and_eq_true, decide_eq_true_eq, decide_eq_true_eq] at h2
    have : st = [] := List.eq_nil_of_length_eq_zero h2.1
    subst this
    exact ⟨h2.2, o, nx, rfl, by unfold mvR; rw [if_pos h, e]⟩
theorem mvR_no {s : ByteArray} (h : mvB s = false) : mvR s = [] := by unfold mvR; rw [h]; rfl


theorem dec_lt {s : ByteArray} {i : Nat} (h : i < s.size) (hl : lt8 s i < 128) : Utf8.decode s i = (lt8 s i, 1) := by
  have e : (s.get! (i + 0)).toNat = lt8 s i := by
    rw [← lt_get h]
    show (s.data[i]!).toNat = _
    rw [getElem!_pos s.data i h]; rfl
  unfold Utf8.decode
  simp only [e]
  rw [if_pos (by omega)]
theorem dec_ge {s : ByteArray} {i : Nat} (h : i < s.size) (hl : 128 ≤ lt8 s i) : 128 ≤ (Utf8.decode s i).1 := by
  have e : (s.get! (i + 0)).toNat = lt8 s i := by
    rw [← lt_get h]
    show (s.data[i]!).toNat = _
    rw [getElem!_pos s.data i h]; rfl
  unfold Utf8.decode
  simp only [e]
  rw [if_neg (by omega)]
  have hre : 128 ≤ Utf8.runeError := by decide
  repeat' split
  all_goals first | exact hre | (simp only; omega) | (simp_all; omega) | skip

/-! The letters of the moves toward an order, and what leaves the stack by them. -/
def stp (s : Option (List Int × List Int × Nat)) (c : UInt8) : Option (List Int × List Int × Nat) := match s with
  | none => none
  | some (o, st, nx) => if c.toNat = 105 then some (o, st ++ [(nx : Int)], nx + 1) else if c.toNat = 111 then (if st.length = 0 then none else some (o ++ [st.getD (st.length - 1) 0], st.take (st.length - 1), nx)) else none
theorem mvS_fold (s : ByteArray) : ∀ i, i ≤ s.size → mvS s i = (s.data.toList.take i).foldl stp (some ([], [], 0))
  | 0, _ => by simp [mvS]
  | i + 1, h => by
    have hl : i < s.data.toList.length := by
      have h2 : i < s.size := by omega
      simpa using h2
    have ih := mvS_fold s i (by omega)
    rw [List.take_succ_eq_append_getElem hl, List.foldl_append, ← ih, mvS]
    have e : lt8 s i = (s.data.toList[i]).toNat := by unfold lt8; rw [List.getD_eq_getElem?_getD, List.getElem?_eq_getElem hl]; rfl
    rw [e]
    cases mvS s i with
    | none => rfl
    | some y => obtain ⟨o, st, nx⟩ := y; rfl
def letM (nx : Nat) : List Int → List UInt8
  | [] => []
  | x :: p => List.replicate (x.toNat + 1 - nx) 105 ++ 111 :: letM (max nx (x.toNat + 1)) p
/-- A stack with so many numbers more. -/
def pushI (st : List Int) (nx : Nat) : Nat → List Int
  | 0 => st
  | k + 1 => pushI st nx k ++ [((nx + k : Nat) : Int)]
theorem pushI_len {st : List Int} {nx : Nat} : ∀ k, (pushI st nx k).length = st.length + k
  | 0 => rfl
  | k + 1 => by rw [pushI, List.length_append, pushI_len k]; simp only [List.length_cons, List.length_nil]; omega
theorem fold_push {o st : List Int} {nx : Nat} : ∀ k, (List.replicate k (105 : UInt8)).foldl stp (some (o, st, nx)) = some (o, pushI st nx k, nx + k)
  | 0 => rfl
  | k + 1 => by
    rw [List.replicate_succ', List.foldl_append, fold_push k]
    simp only [List.foldl_cons, List.foldl_nil, stp, pushI]
    rw [if_pos (by decide)]
    rfl
def outM : List Int → List Int → Nat → List Int
  | [], _, _ => []
  | x :: p, st, nx => (pushI st nx (x.toNat + 1 - nx)).getD ((pushI st nx (x.toNat + 1 - nx)).length - 1) 0 :: outM p ((pushI st nx (x.toNat + 1 - nx)).take ((pushI st nx (x.toNat + 1 - nx)).length - 1)) (max nx (x.toNat + 1))
/-- The stack at the end. -/
def endM : List Int → List Int → Nat → List Int
  | [], st, _ => st
  | x :: p, st, nx => endM p ((pushI st nx (x.toNat + 1 - nx)).take ((pushI st nx (x.toNat + 1 - nx)).length - 1)) (max nx (x.toNat + 1))
def maxM : List Int → Nat → Nat
  | [], nx => nx
  | x :: p, nx => maxM p (max nx (x.toNat + 1))
theorem maxM_ge : ∀ (p : List Int) (nx : Nat), nx ≤ maxM p nx ∧ ∀ x, x ∈ p → x.toNat + 1 ≤ maxM p nx
  | [], nx => ⟨Nat.le_refl _, fun x h => by simp at h⟩
  | y :: p, nx => by
    obtain ⟨h1, h2⟩ := maxM_ge p (max nx (y.toNat + 1))
    rw [maxM]
    refine ⟨by omega, fun x hx => ?_⟩
    rcases List.mem_cons.1 hx with e | e
    · subst e; omega
    · exact h2 x e
theorem maxM_le {b : Nat} : ∀ (p : List Int) (nx : Nat), nx ≤ b → (∀ x, x ∈ p → x.toNat + 1 ≤ b) → maxM p nx ≤ b
  | [], nx, h, _ => h
  | y :: p, nx, h, hx => by
    rw [maxM]
    exact maxM_le p _ (by have := hx y (by simp); omega) fun x hm => hx x (by simp [hm])
theorem fold_let : ∀ (p : List Int) {o st : List Int} {nx k : Nat}, nx = st.length + k → (∀ j, j < p.length → k + j + 1 ≤ maxM (p.take (j + 1)) nx) → (letM nx p).foldl stp (some (o, st, nx)) = some (o ++ outM p st nx, endM p st nx, maxM p nx) ∧ (endM p st nx).length + (k + p.length) = maxM p nx
  | [], o, st, nx, k, h, _ => ⟨by simp [letM, outM, endM, maxM], by simp [endM, maxM]; omega⟩
  | x :: p, o, st, nx, k, h, hk => by
    have h0 := hk 0 (by simp)
    simp only [List.take_succ_cons, List.take_zero, maxM] at h0
    have hl := pushI_len (st := st) (nx := nx) (x.toNat + 1 - nx)
    have hm : max nx (x.toNat + 1) = nx + (x.toNat + 1 - nx) := by omega
    rw [letM, outM, endM, maxM, List.foldl_append, fold_push, List.foldl_cons]
    have hs : stp (some (o, pushI st nx (x.toNat + 1 - nx), nx + (x.toNat + 1 - nx))) 111 = some (o ++ [(pushI st nx (x.toNat + 1 - nx)).getD ((pushI st nx (x.toNat + 1 - nx)).length - 1) 0], (pushI st nx (x.toNat + 1 - nx)).take ((pushI st nx (x.toNat + 1 - nx)).length - 1), max nx (x.toNat + 1)) := by
      unfold stp
      simp only
      rw [if_neg (by decide), if_pos (by decide), if_neg (by omega), hm]
    rw [hs]
    generalize hst : pushI st nx (x.toNat + 1 - nx) = st1 at *
    obtain ⟨r1, r2⟩ := fold_let p (o := o ++ [st1.getD (st1.length - 1) 0]) (st := st1.take (st1.length - 1)) (nx := max nx (x.toNat + 1)) (k := k + 1) (by rw [List.length_take]; omega) (fun j hj => by
      have := hk (j + 1) (by simp; omega)
      rw [List.take_succ_cons, maxM] at this
      omega)
    refine ⟨by rw [r1, List.append_assoc]; rfl, ?_⟩
    rw [List.length_cons]; omega
theorem letM_len : ∀ (p : List Int) (nx : Nat), (letM nx p).length + nx = maxM p nx + p.length
  | [], nx => by simp [letM, maxM]
  | x :: p, nx => by
    have := letM_len p (max nx (x.toNat + 1))
    rw [letM, maxM, List.length_append, List.length_replicate, List.length_cons, List.length_cons]
    omega
theorem once_max {p : List Int} (h : isOnce p) : (∀ j, j < p.length → 0 + j + 1 ≤ maxM (p.take (j + 1)) 0) ∧ maxM p 0 = p.length := by
  have hmem : ∀ i, i < p.length → p.getD i 0 ∈ p := fun i hi => by rw [List.getD_eq_getElem?_getD, List.getElem?_eq_getElem hi]; exact List.getElem_mem hi
  have h1 : ∀ j, j < p.length → 0 + j + 1 ≤ maxM (p.take (j + 1)) 0 := fun j hj => by
    have := no_inj (maxM (p.take (j + 1)) 0) (j + 1) (fun i => (p.getD i 0).toNat) (fun i hi => by
      have hm : p.getD i 0 ∈ p.take (j + 1) := by
        rw [List.getD_eq_getElem?_getD, List.getElem?_eq_getElem (show i < p.length by omega)]
        exact List.mem_take_iff_getElem.2 ⟨i, by omega, rfl⟩
      have := (maxM_ge (p.take (j + 1)) 0).2 _ hm
      show (p.getD i 0).toNat < _
      omega) (fun a b ha hb e => by
      have h3 := h.1 a (by omega)
      have h4 := h.1 b (by omega)
      have e2 : p.getD a 0 = p.getD b 0 := by
        have e3 : (p.getD a 0).toNat = (p.getD b 0).toNat := e
        omega
      rcases Nat.lt_trichotomy a b with c | c | c
      · exact (h.2 a b c (by omega) e2).elim
      · exact c
      · exact (h.2 b a c (by omega) e2.symm).elim)
    omega
  refine ⟨h1, ?_⟩
  have h2 : maxM p 0 ≤ p.length := maxM_le p 0 (Nat.zero_le _) fun x hx => by
    obtain ⟨i, hi, e⟩ := List.getElem_of_mem hx
    have := h.1 i hi
    rw [List.getD_eq_getElem?_getD, List.getElem?_eq_getElem hi, Option.getD_some, e] at this
    omega
  rcases Nat.eq_zero_or_pos p.length with h0 | h0
  · omega
  · have := h1 (p.length - 1) (by omega)
    rw [show p.length - 1 + 1 = p.length by omega, List.take_length] at this
    omega
/-- The text of the moves toward an order: it is moves, and these numbers leave by them. -/
def txM (p : List Int) : ByteArray := ⟨(letM 0 p).toArray⟩
theorem txM_size {p : List Int} (h : isOnce p) : (txM p).size = 2 * p.length := by
  have := letM_len p 0
  rw [(once_max h).2] at this
  have e : (txM p).size = (letM 0 p).length := by unfold txM; simp [ByteArray.size]
  omega
theorem txM_moves {p : List Int} (h : isOnce p) (h8 : p.length ≤ 8) : mvB (txM p) = true ∧ mvR (txM p) = outM p [] 0 := by
  obtain ⟨h1, h2⟩ := once_max h
  obtain ⟨f1, f2⟩ := fold_let p (o := []) (st := []) (nx := 0) (k := 0) rfl h1
  have hs := txM_size h
  have hf := mvS_fold (txM p) (txM p).size (Nat.le_refl _)
  have ed : (txM p).data.toList = letM 0 p := by unfold txM; simp
  have el : (txM p).size = (letM 0 p).length := by unfold txM; simp [ByteArray.size]
  rw [ed, el, List.take_length, f1, List.nil_append] at hf
  have e0 : endM p [] 0 = [] := List.eq_nil_of_length_eq_zero (by omega)
  rw [e0, ← el] at hf
  have hb : mvB (txM p) = true := by
    rw [mvB_end hf, decide_eq_true (show ([] : List Int).length = 0 from rfl), decide_eq_true (show (txM p).size ≤ 16 by omega)]; rfl
  refine ⟨hb, ?_⟩
  unfold mvR
  rw [hb, if_pos rfl, hf]
theorem outM_app : ∀ (l r st : List Int) (nx : Nat), outM (l ++ r) st nx = outM l st nx ++ outM r (endM l st nx) (maxM l nx)
  | [], r, st, nx => rfl
  | x :: l, r, st, nx => by rw [List.cons_append, outM, outM, endM, maxM, outM_app l, List.cons_append]
theorem endM_app : ∀ (l r st : List Int) (nx : Nat), endM (l ++ r) st nx = endM r (endM l st nx) (maxM l nx)
  | [], r, st, nx => rfl
  | x :: l, r, st, nx => by rw [List.cons_append, endM, endM, maxM, endM_app l]
theorem maxM_app : ∀ (l r : List Int) (nx : Nat), maxM (l ++ r) nx = maxM r (maxM l nx)
  | [], r, nx => rfl
  | x :: l, r, nx => by rw [List.cons_append, maxM, maxM, maxM_app l]
theorem letM_app : ∀ (l r : List Int) (nx : Nat), letM nx (l ++ r) = letM nx l ++ letM (maxM l nx) r
  | [], r, nx => rfl
  | x :: l, r, nx => by rw [List.cons_append, letM, letM, maxM, letM_app l, List.append_assoc, List.cons_append]
theorem outM_len : ∀ (l st : List Int) (nx : Nat), (outM l st nx).length = l.length
  | [], _, _ => rfl
  | x :: l, st, nx => by rw [outM, List.length_cons, List.length_cons, outM_len l]

/-- The letter of a move behind the interface; the move itself as the model has it. -/
def letC (c : AV) : UInt8 := match c with | .ifc t _ => if t = 62 then 105 else 111 | _ => 111
def valC (c : AV) : Value := match c with | .ifc t (.agg ys) => .iface t (.agg (ys.map fun a => match a with | .val v => v | _ => .nilIface).toArray) | _ => .nilIface
def isMv (c : AV) : Prop := (∃ k : Int, c = .ifc 62 (.agg [.val (.int .i64 k)])) ∨ c = .ifc 64 (.agg [])
theorem valC_rep {m : Lm} {c : AV} {v : Value} (h : isMv c) (hr : Rep m c v) : v = valC c := by
  rcases h with ⟨k, rfl⟩ | rfl
  · simp only [Rep] at hr
    obtain ⟨y, rfl, xs, rfl, hx⟩ := hr
    match xs, hx with
    | [x], hx => simp only [RepL, Rep, and_true] at hx; subst hx; rfl
  · simp only [Rep] at hr
    obtain ⟨y, rfl, xs, rfl, hx⟩ := hr
    match xs, hx with
    | [], _ => rfl


theorem textOfMoves_sat : SatH Try.prog 22 (fun al h n K => ∃ (A : Nat) (b : Bool) (cs : List AV), al = [.sl A 0 cs.length 1 none] ∧ h A = some ⟨b, .cells cs⟩ ∧ cs.length ≤ 1000 ∧ (∀ c, c ∈ cs → isMv c) ∧ K (.val (.string ⟨(cs.map letC).toArray⟩)) h n) := by
  rintro F' S' h n al K ⟨A, b, cs, rfl, hA, hl, hm, hK⟩
  intro F W m xs w hS hs hr
  obtain ⟨l, hml, hok⟩ := hs.obj A _ hA
  match xs, hr with
  | [x], hr =>
    simp only [RepL, Rep, and_true] at hr
    obtain ⟨l2, hl2, hsl⟩ := hr
    obtain rfl : l2 = l := Option.some.inj (hl2.symm.trans hml)
    obtain ⟨a, c, rfl, hlc, hac, hcap⟩ := hsl
    have fin : ∀ (e : Ending) (w' : World), (e = .returned (.string ⟨(cs.map letC).toArray⟩) ∧ RowKit.Below w.heap.size w w') → ∃ v, e = .returned v ∧ Acts F W m w false K v w' := fun e w' ⟨he, hb⟩ => ⟨_, he, m, _, h, n, hK, by simp only [Rep], hs.grow hb, fun _ _ h => h, fun h => by cases h⟩
    rcases Nat.eq_zero_or_pos cs.length with h0 | h0
    · have e0 : cs = [] := List.eq_nil_of_length_eq_zero h0
      subst e0
      exact (Try.textOfMoves_none a c w).mono fun e w' => fin e w'
    · have ha := hac (by omega)
      subst ha
      have hlen := hok.len
      simp only [Cont.flat] at hlen
      have hblk := hok.lt l2.blk (blk_mem (by omega))
      have hcell : ∀ (j : Nat) (hj : j < cs.length), w.cell? ⟨l2.blk, l2.base + j, none⟩ = some (valC cs[j]) := fun j hj => by
        obtain ⟨v, h1, _, h3⟩ := hok.cells.1 j cs[j] (by simp only [Cont.flat]; exact List.getElem?_eq_getElem hj)
        rw [h1, valC_rep (hm _ (List.getElem_mem hj)) h3]
      have hmap : (cs.map valC).map Try.letV = cs.map letC := by
        rw [List.map_map]
        refine List.map_congr_left fun d hd => ?_
        rcases hm d hd with ⟨k, rfl⟩ | rfl <;> rfl
      have hw := Try.textOfMoves_walk ⟨l2.blk, l2.base + 0, none⟩ cs.length c (cs.map valC) w hblk (by simp) hl (fun j hj => ⟨valC cs[j], by rw [Addr.add_lit, Nat.add_zero]; exact hcell j hj, by rw [List.getElem?_map, List.getElem?_eq_getElem hj]; rfl⟩) (fun v hv => by
        obtain ⟨d, hd, rfl⟩ := List.mem_map.1 hv
        rcases hm d hd with ⟨k, rfl⟩ | rfl
        · exact .inl ⟨k, rfl⟩
        · exact .inr rfl)
      rw [hmap] at hw
      exact hw.mono fun e w' => fin e w'


/-- The moves toward an order, as cells. -/
def putC (nx : Nat) : Nat → List AV
  | 0 => []
  | k + 1 => putC nx k ++ [.ifc 62 (.agg [.val (.int .i64 ((nx + k : Nat) : Int))])]
def mvL (nx : Nat) : List Int → List AV
  | [] => []
  | x :: p => putC nx (x.toNat + 1 - nx) ++ .ifc 64 (.agg []) :: mvL (max nx (x.toNat + 1)) p
theorem putC_len (nx : Nat) : ∀ k, (putC nx k).length = k
  | 0 => rfl
  | k + 1 => by rw [putC, List.length_append, putC_len nx k]; rfl
theorem putC_mv (nx : Nat) : ∀ k, (∀ c, c ∈ putC nx k → isMv c) ∧ (putC nx k).map letC = List.replicate k 105
  | 0 => ⟨fun c h => by simp [putC] at h, rfl⟩
  | k + 1 => by
    obtain ⟨h1, h2⟩ := putC_mv nx k
    refine ⟨fun c h => ?_, ?_⟩
    · rw [putC] at h
      rcases List.mem_append.1 h with h | h
      · exact h1 c h
      · rw [List.mem_singleton.1 h]; exact .inl ⟨_, rfl⟩
    · rw [putC, List.map_append, h2, List.replicate_succ']; rfl
theorem mvL_mv : ∀ (p : List Int) (nx : Nat), (∀ c, c ∈ mvL nx p → isMv c) ∧ (mvL nx p).map letC = letM nx p
  | [], nx => ⟨fun c h => by simp [mvL] at h, rfl⟩
  | x :: p, nx => by
    obtain ⟨h1, h2⟩ := mvL_mv p (max nx (x.toNat + 1))
    obtain ⟨h3, h4⟩ := putC_mv nx (x.toNat + 1 - nx)
    refine ⟨fun c h => ?_, ?_⟩
    · rw [mvL] at h
      rcases List.mem_append.1 h with h | h
      · exact h3 c h
      · rcases List.mem_cons.1 h with h | h
        · rw [h]; exact .inr rfl
        · exact h1 c h
    · rw [mvL, letM, List.map_append, h4, List.map_cons, h2]; rfl
theorem mvL_app : ∀ (l r : List Int) (nx : Nat), mvL nx (l ++ r) = mvL nx l ++ mvL (maxM l nx) r
  | [], r, nx => rfl
  | x :: l, r, nx => by rw [List.cons_append, mvL, mvL, maxM, mvL_app l, List.append_assoc, List.cons_append]
theorem mvL_len {p : List Int} {nx : Nat} : (mvL nx p).length + nx = maxM p nx + p.length := by
  have h := letM_len p nx
  rw [← (mvL_mv p nx).2, List.length_map] at h
  exact h
theorem cellsLt {n : Nat} : ∀ {cs : List AV}, (∀ c, c ∈ cs → isMv c) → (Cont.cells cs).lt n = true
  | [], _ => rfl
  | c :: cs, h => by
    have ih : AV.ltL n cs = true := cellsLt (n := n) fun d hd => h d (by simp [hd])
    show AV.ltL n (c :: cs) = true
    simp only [AV.ltL, Bool.and_eq_true]
    refine ⟨?_, ih⟩
    rcases h c (by simp) with ⟨k, rfl⟩ | rfl <;> rfl

/-- The moves of the first letters, and how many numbers have been put. -/
def mvC (s : ByteArray) : Nat → List AV × Nat
  | 0 => ([], 0)
  | i + 1 => if lt8 s i = 105 then ((mvC s i).1 ++ [.ifc 62 (.agg [.val (.int .i64 ((mvC s i).2 : Nat))])], (mvC s i).2 + 1) else ((mvC s i).1 ++ [.ifc 64 (.agg [])], (mvC s i).2)
theorem mvC_len (s : ByteArray) : ∀ i, (mvC s i).1.length = i ∧ (mvC s i).2 ≤ i
  | 0 => ⟨rfl, Nat.le_refl _⟩
  | i + 1 => by have := mvC_len s i; rw [mvC]; split <;> (simp only [List.length_append, List.length_singleton]; omega)
theorem mvC_get (s : ByteArray) : ∀ {n j : Nat}, j < n → (mvC s n).1[j]? = some (if lt8 s j = 105 then .ifc 62 (.agg [.val (.int .i64 ((mvC s j).2 : Nat))]) else .ifc 64 (.agg []))
  | 0, j, h => by omega
  | n + 1, j, h => by
    have hl := (mvC_len s n).1
    by_cases e : j < n
    · have ih := mvC_get s e
      rw [mvC]; split <;> (simp only; rw [List.getElem?_append_left (by omega)]; exact ih)
    · obtain rfl : j = n := by omega
      rw [mvC]; split <;> (simp only; rw [List.getElem?_append_right (by omega), hl, Nat.sub_self]; rfl)
theorem mvS_next {s : ByteArray} : ∀ {i : Nat} {o st : List Int} {nx : Nat}, mvS s i = some (o, st, nx) → (mvC s i).2 = nx := by
  intro i
  induction i with
  | zero => intro o st nx h; simp only [mvS, Option.some.injEq, Prod.mk.injEq] at h; exact h.2.2
  | succ i ih =>
    intro o st nx h
    cases e : mvS s i with
    | none => rw [mvS, e] at h; cases h
    | some y =>
      obtain ⟨o', st', nx'⟩ := y
      have a := ih e
      by_cases h1 : lt8 s i = 105
      · rw [mvS_put e h1] at h; simp only [Option.some.injEq, Prod.mk.injEq] at h; rw [mvC, if_pos h1]; simp only; omega
      · by_cases h2 : lt8 s i = 111 ∧ 0 < st'.length
        · rw [mvS_pop e h2.1 h2.2] at h; simp only [Option.some.injEq, Prod.mk.injEq] at h; rw [mvC, if_neg h1]; simp only; omega
        · rw [mvS_bad e h1 (by omega)] at h; cases h
theorem mvS_badl {s : ByteArray} {i : Nat} (h1 : lt8 s i ≠ 105) (h2 : lt8 s i ≠ 111) : mvS s (i + 1) = none := by
  rw [mvS]
  split
  · rfl
  · rw [if_neg h1, if_neg h2]
theorem mvB_big {s : ByteArray} (h : ¬ s.size ≤ 16) : mvB s = false := by unfold mvB; rw [decide_eq_false h, Bool.and_false]
theorem dec_bad {s : ByteArray} {i : Nat} (h : i < s.size) (h1 : lt8 s i ≠ 105) (h2 : lt8 s i ≠ 111) : ∃ c w : Nat, Utf8.decode s i = (c, w) ∧ c ≠ 105 ∧ c ≠ 111 := by
  refine ⟨(Utf8.decode s i).1, (Utf8.decode s i).2, rfl, ?_⟩
  by_cases hl : lt8 s i < 128
  · rw [dec_lt h hl]; exact ⟨h1, h2⟩
  · have := dec_ge h (by omega); omega
theorem ltL_snoc {n : Nat} : ∀ {l : List AV} {a : AV}, AV.ltL n l = true → a.lt n = true → AV.ltL n (l ++ [a]) = true
  | [], a, _, h => by simp only [List.nil_append, AV.ltL, h, Bool.and_self]
  | b :: l, a, h1, h => by
    simp only [AV.ltL, Bool.and_eq_true] at h1
    simp only [List.cons_append, AV.ltL, Bool.and_eq_true]
    exact ⟨h1.1, ltL_snoc h1.2 h⟩
theorem mvC_lt (s : ByteArray) (n : Nat) : ∀ i, (Cont.cells (mvC s i).1).lt n = true
  | 0 => rfl
  | i + 1 => by
    have ih : AV.ltL n (mvC s i).1 = true := mvC_lt s n i
    show AV.ltL n (mvC s (i + 1)).1 = true
    rw [mvC]; split
    · exact ltL_snoc ih rfl
    · exact ltL_snoc ih rfl


end Go.Proofs.Ytbnldepaebcojaa
