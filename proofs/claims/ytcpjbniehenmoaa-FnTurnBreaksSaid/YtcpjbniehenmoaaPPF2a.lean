/- Contracts of functions of the program. -/
import Derived.Test.YtcpjbniehenmoaaTab
import Derived.ScopeJumps
namespace Go.Proofs.Ytcpjbniehenmoaa
open Go Go.Ab
set_option linter.all false
set_option maxHeartbeats 4000000
attribute [go_sem] AV.parts List.length_set List.set_cons_zero List.set_cons_succ List.getElem?_cons_zero List.getElem?_cons_succ Option.any_some Nat.lt_add_one tab List.nil_append List.append_nil

theorem inRange_sat : Sat Try.prog 76 (fun ds Q => ∃ n lo hi, ds = [.val (.int .i64 n), .val (.int .i64 lo), .val (.int .i64 hi)] ∧ Q (.val (.bool (decide (lo ≤ n) && decide (n ≤ hi))))) := by
  refine sat_intro tabOk Try.func76 rfl 15 rfl [.tmp 6] rfl ?_
  rintro ds Q W ⟨n, lo, hi, rfl, hQ⟩
  refine ⟨Nat.le_of_ble_eq_true rfl, ?_⟩
  simp only [initS, initT, mat.matL, mat]
  repeat' (first | refine awp_seq_k fun K hK => ?_ | ((with_reducible refine hK _ ?_); clear hK K) | (clear hK K; (with_reducible refine hK _ ?_); clear hK K) | (clear hK K; clear hK K; (with_reducible refine hK _ ?_); clear hK K) | (clear hK K; clear hK K; clear hK K; (with_reducible refine hK _ ?_); clear hK K) | (clear hK K; clear hK K; clear hK K; clear hK K; (with_reducible refine hK _ ?_); clear hK K) | (clear hK K; clear hK K; clear hK K; clear hK K; clear hK K; (with_reducible refine hK _ ?_); clear hK K) | ((with_reducible refine aord_plain fun K hK => ?_); simp only [go_sem, Nat.reduceAdd, Nat.reduceMul, Nat.reduceEqDiff, Nat.reduceLT, reduceIte, reduceCtorEq]) | ((with_reducible apply aord_guard); (focus (simp only [St.ev, St.set, upd, Nat.reduceEqDiff, reduceIte, if_false, if_true]; exact rfl)); all_goals (intro hb; (try simp only [Bool.not_true, Bool.not_false] at hb); first | (cases hb; done) | ((try rw [hb]); (try simp only [Bool.not_eq_true', Bool.not_eq_false', Bool.and_eq_true, decide_eq_true_eq, decide_eq_false_iff_not, beq_iff_eq, bne_iff_ne, beq_eq_false_iff_ne, bne_eq_false_iff_eq, Int.not_lt, Int.not_le] at hb); (try (revert hb; with_reducible refine true_imp_iff.2 ?_)); first | (intro K hK; simp only [go_sem, Nat.reduceAdd, Nat.reduceMul, Nat.reduceEqDiff, Nat.reduceLT, reduceIte, reduceCtorEq]) | (simp only [St.ev, St.set, upd, Nat.reduceEqDiff, reduceIte, if_false, if_true]) | skip))) | ((with_reducible apply aord_skip); (focus (simp only [St.ev, St.set, upd, Nat.reduceEqDiff, reduceIte, if_false, if_true]; done)); (simp only [St.ev, St.set, upd, Nat.reduceEqDiff, reduceIte, if_false, if_true])) | refine awp_block ?_ | ((first | with_reducible refine aord_nil ?_ | refine awp_skip ?_ | refine awp_exit ?_ | refine awp_ret ?_); try simp only [thenA_normal, thenA_exit, thenA_goto, thenA_ret, blockA_normal, blockA_same, blockA_exit, blockA_goto, blockA_ret, Nat.reduceEqDiff, if_false, if_true, reduceIte]) | (refine awp_region tabOk rfl ?_; simp only [prep, pickO, List.map_cons, List.map_nil, List.getElem?_toArray, List.getElem?_cons_succ, List.getElem?_cons_zero, Option.bind_some, Option.map_some]) | ((with_reducible refine And.intro ?_ ?_); (focus omega)) | ((with_reducible refine And.intro ?_ ?_); (focus (exact rfl))) | (with_reducible refine And.intro (fun hb => ?_) (fun hb => ?_)) | (exfalso; omega) | fail)
  all_goals simp only [St.set, St.ev, doneQ, doneH, ressK, resK, wrapR, AV.ids, AV.idsL, retK, retsK, upd, Nat.reduceEqDiff, reduceIte, if_false, if_true, List.nodup_nil, List.nodup_cons, List.not_mem_nil, not_false_eq_true, true_and, and_true, exists_eq_left', Option.some.injEq, rLoad, cellOf, tab, Ty.isAgg, Ty.one, Bool.false_eq_true]
  · simp_all
  · simpa [show ¬ lo ≤ n by omega] using hQ



def inB (n : Int) : Bool := decide (-99 ≤ n) && decide (n ≤ 99)
def validB (xs : List Int) : Bool := xs.all inB && decide (xs.length ≤ 8)

theorem getD_set_same {α : Type} {l : List α} {i : Nat} {a d : α} (h : i < l.length) : (l.set i a).getD i d = a := by simp [List.getD_eq_getElem?_getD, h]
theorem getD_set_ne' {α : Type} {l : List α} {i j : Nat} {a d : α} (h : i ≠ j) : (l.set i a).getD j d = l.getD j d := by simp [List.getD_eq_getElem?_getD, List.getElem?_set_ne h]
theorem ext_getD {l m : List Int} (h : l.length = m.length) (hh : ∀ j, j < l.length → l.getD j 0 = m.getD j 0) : l = m := by
  apply List.ext_getElem h
  intro j h1 h2
  have := hh j h1
  simpa [List.getD_eq_getElem?_getD, h1, h2] using this


theorem valid_all {xs : List Int} (h8 : xs.length ≤ 8) (h : ∀ j, j < xs.length → inB (xs.getD j 0) = true) : validB xs = true := by
  unfold validB
  rw [decide_eq_true h8, Bool.and_true, List.all_eq_true]
  intro x hx
  obtain ⟨j, hj1, hj2⟩ := List.mem_iff_getElem.1 hx
  have := h j hj1
  rw [List.getD_eq_getElem?_getD, List.getElem?_eq_getElem hj1] at this
  simpa [hj2] using this
theorem valid_not {xs : List Int} {i : Nat} (hi : i < xs.length) (h : inB (xs.getD i 0) = false) : validB xs = false := by
  unfold validB
  rw [Bool.and_eq_false_iff]
  left
  rw [List.all_eq_false]
  refine ⟨xs.getD i 0, ?_, by rw [h]; simp⟩
  rw [List.getD_eq_getElem?_getD, List.getElem?_eq_getElem hi]; simp


theorem implValidKeys_sat : Sat Try.prog 31 (fun ds Q => ∃ xs, ds = [.row (.ints .i64 xs)] ∧ xs.length ≤ 1099511627776 ∧ Q (.val (.bool (validB xs)))) := by
  refine sat_intro tabOk Try.func31 rfl 21 rfl [.tmp 2] rfl ?_
  rintro ds Q W ⟨xs, rfl, hlen, hQ⟩
  refine ⟨Nat.le_of_ble_eq_true rfl, ?_⟩
  simp only [initS, initT, mat.matL, mat, Cont.len]
  repeat' (first | refine awp_seq_k fun K hK => ?_ | ((with_reducible refine hK _ ?_); clear hK K) | (clear hK K; (with_reducible refine hK _ ?_); clear hK K) | (clear hK K; clear hK K; (with_reducible refine hK _ ?_); clear hK K) | (clear hK K; clear hK K; clear hK K; (with_reducible refine hK _ ?_); clear hK K) | (clear hK K; clear hK K; clear hK K; clear hK K; (with_reducible refine hK _ ?_); clear hK K) | (clear hK K; clear hK K; clear hK K; clear hK K; clear hK K; (with_reducible refine hK _ ?_); clear hK K) | ((with_reducible refine aord_plain fun K hK => ?_); simp only [go_sem, Nat.reduceAdd, Nat.reduceMul, Nat.reduceEqDiff, Nat.reduceLT, reduceIte, reduceCtorEq]) | ((with_reducible apply aord_guard); (focus (simp only [St.ev, St.set, upd, Nat.reduceEqDiff, reduceIte, if_false, if_true]; exact rfl)); all_goals (intro hb; (try simp only [Bool.not_true, Bool.not_false] at hb); first | (cases hb; done) | ((try rw [hb]); (try simp only [Bool.not_eq_true', Bool.not_eq_false', Bool.and_eq_true, decide_eq_true_eq, decide_eq_false_iff_not, beq_iff_eq, bne_iff_ne, beq_eq_false_iff_ne, bne_eq_false_iff_eq, Int.not_lt, Int.not_le] at hb); (try (revert hb; with_reducible refine true_imp_iff.2 ?_)); first | (intro K hK; simp only [go_sem, Nat.reduceAdd, Nat.reduceMul, Nat.reduceEqDiff, Nat.reduceLT, reduceIte, reduceCtorEq]) | (simp only [St.ev, St.set, upd, Nat.reduceEqDiff, reduceIte, if_false, if_true]) | skip))) | ((with_reducible apply aord_skip); (focus (simp only [St.ev, St.set, upd, Nat.reduceEqDiff, reduceIte, if_false, if_true]; done)); (simp only [St.ev, St.set, upd, Nat.reduceEqDiff, reduceIte, if_false, if_true])) | refine awp_block ?_ | ((first | with_reducible refine aord_nil ?_ | refine awp_skip ?_ | refine awp_exit ?_ | refine awp_ret ?_); try simp only [thenA_normal, thenA_exit, thenA_goto, thenA_ret, blockA_normal, blockA_same, blockA_exit, blockA_goto, blockA_ret, Nat.reduceEqDiff, if_false, if_true, reduceIte]) | (refine awp_region tabOk rfl ?_; simp only [prep, pickO, List.map_cons, List.map_nil, List.getElem?_toArray, List.getElem?_cons_succ, List.getElem?_cons_zero, Option.bind_some, Option.map_some]) | ((with_reducible apply awp_cond); (focus (simp only [St.ev, St.set, upd, Nat.reduceEqDiff, reduceIte, if_false, if_true]; exact rfl)); all_goals (intro hb; first | (cases hb; done) | ((try rw [hb]); (try simp only [decide_eq_true_eq, decide_eq_false_iff_not, beq_iff_eq, bne_iff_ne, beq_eq_false_iff_ne, bne_eq_false_iff_eq, Int.not_lt, Int.not_le, Bool.not_eq_true', Bool.not_eq_false'] at hb)))) | ((with_reducible refine And.intro ?_ ?_); (focus omega)) | ((with_reducible refine And.intro ?_ ?_); (focus (exact rfl))) | (with_reducible refine And.intro (fun hb => ?_) (fun hb => ?_)) | (exfalso; omega) | fail)
  · simp only [St.set, St.ev, doneQ, doneH, ressK, resK, wrapR, AV.ids, AV.idsL, retK, retsK, upd, Nat.reduceEqDiff, reduceIte, if_false, if_true, List.nodup_nil, List.nodup_cons, List.not_mem_nil, not_false_eq_true, true_and, and_true, exists_eq_left', Option.some.injEq, rLoad, cellOf, tab, Ty.isAgg, Ty.one, Bool.false_eq_true]
    have : validB xs = false := by unfold validB; rw [decide_eq_false (by omega)]; simp
    rw [this] at hQ
    exact hQ
  · refine awp_loop (fun i : Nat => ⟨upd (upd (upd bot 10 (.val (.int .i64 i))) 9 (.val (.int .i64 xs.length))) 8 (.sl 0 0 xs.length 1 none), upd none' 0 (some ⟨false, .ints .i64 xs⟩), 1⟩) (fun i => i ≤ xs.length ∧ ∀ j, j < i → inB (xs.getD j 0) = true) (fun i => xs.length - i) 0 ⟨by omega, by omega⟩ ?_ ?_
    · (apply Wk.same; (case' h2 => (focus ((repeat' (with_reducible first | exact HeapX.bot | (apply HeapX.skip; (case hx => (simp; done))) | apply HeapX.none | apply HeapX.upd)); all_goals (first | rfl | exact Nat.le_of_ble_eq_true rfl | (simp only [St.set, St.ev, upd, ren, renL, id, Nat.reduceEqDiff, reduceIte, ContLe]; done) | (first | (simp only [St.set, St.ev, upd, ren, renL, id, Nat.reduceEqDiff, reduceIte]; exact contLe_nil) | ((repeat' (first | exact contLe_nil | refine contLe_cons (.inr ⟨?_, rfl⟩) ?_)); all_goals (first | rfl | (simp only [St.set, St.ev, upd, ren, renL, id, Nat.reduceEqDiff, reduceIte]; done) | ((try simp only [St.set, St.ev, upd, ren, renL, id, Nat.reduceEqDiff, reduceIte]); first | (with_reducible exact av_int (by omega)) | (with_reducible exact av_sl (by first | omega | (simp; done) | (simp; omega)) (by first | omega | (simp; done) | (simp; omega)))) | (simp only [St.set, St.ev, upd, ren, renL, id, Nat.reduceEqDiff, reduceIte, Int.natCast_add, Int.natCast_one, Int.cast_ofNat_Int, Int.natCast_zero]; done) | (simp only [St.set, St.ev, upd, ren, renL, id, Nat.reduceEqDiff, reduceIte]) | skip); done)) | (simp only [St.set, St.ev, upd, ren, renL, id, Nat.reduceEqDiff, reduceIte, ContLe]) | skip)))); (case' h1 => (focus ((repeat' (with_reducible first | exact TmpLe.bot | refine TmpLe.upd ?_ rfl ?_)); all_goals (first | rfl | (simp only [St.set, St.ev, upd, ren, renL, id, Nat.reduceEqDiff, reduceIte]; done) | ((try simp only [St.set, St.ev, upd, ren, renL, id, Nat.reduceEqDiff, reduceIte]); first | (with_reducible exact av_int (by omega)) | (with_reducible exact av_sl (by first | omega | (simp; done) | (simp; omega)) (by first | omega | (simp; done) | (simp; omega)))) | (simp only [St.set, St.ev, upd, ren, renL, id, Nat.reduceEqDiff, reduceIte, Int.natCast_add, Int.natCast_one, Int.cast_ofNat_Int, Int.natCast_zero]; done) | (simp only [St.set, St.ev, upd, ren, renL, id, Nat.reduceEqDiff, reduceIte]) | skip)))); (case h3 => (focus (first | (simp only [id, List.map_cons, List.map_nil]; decide) | decide))); (case h4 => (intro o l h; first | (cases h; done) | (have hlt0 := m0_lt (by assumption) h; first | omega | (simp only; omega) | exact ⟨by (first | rfl | (simp only [id]; done) | (rw [if_neg (by omega)])), by first | omega | (simp only; omega)⟩))))
    · rintro i ⟨hi, hj⟩
      repeat' (first | refine awp_seq_k fun K hK => ?_ | ((with_reducible refine hK _ ?_); clear hK K) | (clear hK K; (with_reducible refine hK _ ?_); clear hK K) | (clear hK K; clear hK K; (with_reducible refine hK _ ?_); clear hK K) | (clear hK K; clear hK K; clear hK K; (with_reducible refine hK _ ?_); clear hK K) | (clear hK K; clear hK K; clear hK K; clear hK K; (with_reducible refine hK _ ?_); clear hK K) | (clear hK K; clear hK K; clear hK K; clear hK K; clear hK K; (with_reducible refine hK _ ?_); clear hK K) | ((with_reducible refine aord_plain fun K hK => ?_); simp only [go_sem, Nat.reduceAdd, Nat.reduceMul, Nat.reduceEqDiff, Nat.reduceLT, reduceIte, reduceCtorEq]) | ((with_reducible apply aord_guard); (focus (simp only [St.ev, St.set, upd, Nat.reduceEqDiff, reduceIte, if_false, if_true]; exact rfl)); all_goals (intro hb; (try simp only [Bool.not_true, Bool.not_false] at hb); first | (cases hb; done) | ((try rw [hb]); (try simp only [Bool.not_eq_true', Bool.not_eq_false', Bool.and_eq_true, decide_eq_true_eq, decide_eq_false_iff_not, beq_iff_eq, bne_iff_ne, beq_eq_false_iff_ne, bne_eq_false_iff_eq, Int.not_lt, Int.not_le] at hb); (try (revert hb; with_reducible refine true_imp_iff.2 ?_)); first | (intro K hK; simp only [go_sem, Nat.reduceAdd, Nat.reduceMul, Nat.reduceEqDiff, Nat.reduceLT, reduceIte, reduceCtorEq]) | (simp only [St.ev, St.set, upd, Nat.reduceEqDiff, reduceIte, if_false, if_true]) | skip))) | ((with_reducible apply aord_skip); (focus (simp only [St.ev, St.set, upd, Nat.reduceEqDiff, reduceIte, if_false, if_true]; done)); (simp only [St.ev, St.set, upd, Nat.reduceEqDiff, reduceIte, if_false, if_true])) | refine awp_block ?_ | ((first | with_reducible refine aord_nil ?_ | refine awp_skip ?_ | refine awp_exit ?_ | refine awp_ret ?_); try simp only [thenA_normal, thenA_exit, thenA_goto, thenA_ret, blockA_normal, blockA_same, blockA_exit, blockA_goto, blockA_ret, Nat.reduceEqDiff, if_false, if_true, reduceIte]) | (refine awp_region tabOk rfl ?_; simp only [prep, pickO, List.map_cons, List.map_nil, List.getElem?_toArray, List.getElem?_cons_succ, List.getElem?_cons_zero, Option.bind_some, Option.map_some]) | ((with_reducible apply awp_cond); (focus (simp only [St.ev, St.set, upd, Nat.reduceEqDiff, reduceIte, if_false, if_true]; exact rfl)); all_goals (intro hb; first | (cases hb; done) | ((try rw [hb]); (try simp only [decide_eq_true_eq, decide_eq_false_iff_not, beq_iff_eq, bne_iff_ne, beq_eq_false_iff_ne, bne_eq_false_iff_eq, Int.not_lt, Int.not_le, Bool.not_eq_true', Bool.not_eq_false'] at hb)))) | ((with_reducible refine And.intro ?_ ?_); (focus omega)) | ((with_reducible refine And.intro ?_ ?_); (focus (exact rfl))) | (with_reducible refine And.intro (fun hb => ?_) (fun hb => ?_)) | (exfalso; omega) | fail)
      · simp only [St.set, St.ev, doneQ, doneH, ressK, resK, wrapR, AV.ids, AV.idsL, retK, retsK, upd, Nat.reduceEqDiff, reduceIte, if_false, if_true, List.nodup_nil, List.nodup_cons, List.not_mem_nil, not_false_eq_true, true_and, and_true, exists_eq_left', Option.some.injEq, rLoad, cellOf, tab, Ty.isAgg, Ty.one, Bool.false_eq_true]
        rw [valid_not (i := i) (by omega) (by unfold inB; rw [decide_eq_false (by omega : ¬ xs.getD i 0 ≤ 99)]; simp)] at hQ
        exact hQ
      · refine ⟨i + 1, ⟨by omega, fun j h => ?_⟩, by omega, ?_⟩
        · rcases Nat.lt_or_ge j i with h1 | h1
          · exact hj j h1
          · have : j = i := by omega
            subst this
            unfold inB
            rw [decide_eq_true (by omega), decide_eq_true (by omega)]; rfl
        · (apply Wk.same; (case' h2 => (focus ((repeat' (with_reducible first | exact HeapX.bot | (apply HeapX.skip; (case hx => (simp; done))) | apply HeapX.none | apply HeapX.upd)); all_goals (first | rfl | exact Nat.le_of_ble_eq_true rfl | (simp only [St.set, St.ev, upd, ren, renL, id, Nat.reduceEqDiff, reduceIte, ContLe]; done) | (first | (simp only [St.set, St.ev, upd, ren, renL, id, Nat.reduceEqDiff, reduceIte]; exact contLe_nil) | ((repeat' (first | exact contLe_nil | refine contLe_cons (.inr ⟨?_, rfl⟩) ?_)); all_goals (first | rfl | (simp only [St.set, St.ev, upd, ren, renL, id, Nat.reduceEqDiff, reduceIte]; done) | ((try simp only [St.set, St.ev, upd, ren, renL, id, Nat.reduceEqDiff, reduceIte]); first | (with_reducible exact av_int (by omega)) | (with_reducible exact av_sl (by first | omega | (simp; done) | (simp; omega)) (by first | omega | (simp; done) | (simp; omega)))) | (simp only [St.set, St.ev, upd, ren, renL, id, Nat.reduceEqDiff, reduceIte, Int.natCast_add, Int.natCast_one, Int.cast_ofNat_Int, Int.natCast_zero]; done) | (simp only [St.set, St.ev, upd, ren, renL, id, Nat.reduceEqDiff, reduceIte]) | skip); done)) | (simp only [St.set, St.ev, upd, ren, renL, id, Nat.reduceEqDiff, reduceIte, ContLe]) | skip)))); (case' h1 => (focus ((repeat' (with_reducible first | exact TmpLe.bot | refine TmpLe.upd ?_ rfl ?_)); all_goals (first | rfl | (simp only [St.set, St.ev, upd, ren, renL, id, Nat.reduceEqDiff, reduceIte]; done) | ((try simp only [St.set, St.ev, upd, ren, renL, id, Nat.reduceEqDiff, reduceIte]); first | (with_reducible exact av_int (by omega)) | (with_reducible exact av_sl (by first | omega | (simp; done) | (simp; omega)) (by first | omega | (simp; done) | (simp; omega)))) | (simp only [St.set, St.ev, upd, ren, renL, id, Nat.reduceEqDiff, reduceIte, Int.natCast_add, Int.natCast_one, Int.cast_ofNat_Int, Int.natCast_zero]; done) | (simp only [St.set, St.ev, upd, ren, renL, id, Nat.reduceEqDiff, reduceIte]) | skip)))); (case h3 => (focus (first | (simp only [id, List.map_cons, List.map_nil]; decide) | decide))); (case h4 => (intro o l h; first | (cases h; done) | (have hlt0 := m0_lt (by assumption) h; first | omega | (simp only; omega) | exact ⟨by (first | rfl | (simp only [id]; done) | (rw [if_neg (by omega)])), by first | omega | (simp only; omega)⟩))))
      · simp only [St.set, St.ev, doneQ, doneH, ressK, resK, wrapR, AV.ids, AV.idsL, retK, retsK, upd, Nat.reduceEqDiff, reduceIte, if_false, if_true, List.nodup_nil, List.nodup_cons, List.not_mem_nil, not_false_eq_true, true_and, and_true, exists_eq_left', Option.some.injEq, rLoad, cellOf, tab, Ty.isAgg, Ty.one, Bool.false_eq_true]
        rw [valid_not (i := i) (by omega) (by unfold inB; rw [decide_eq_false (by omega : ¬ -99 ≤ xs.getD i 0)]; simp)] at hQ
        exact hQ
      · simp only [St.set, St.ev, doneQ, doneH, ressK, resK, wrapR, AV.ids, AV.idsL, retK, retsK, upd, Nat.reduceEqDiff, reduceIte, if_false, if_true, List.nodup_nil, List.nodup_cons, List.not_mem_nil, not_false_eq_true, true_and, and_true, exists_eq_left', Option.some.injEq, rLoad, cellOf, tab, Ty.isAgg, Ty.one, Bool.false_eq_true]
        rw [valid_all (by omega) (fun j h => hj j (by omega))] at hQ
        exact hQ


/-- How many of the first k places ahead of which place i stands hold a lesser key than place i. -/
def invRow (xs : List Int) (i : Nat) : Nat → Int
  | 0 => 0
  | k + 1 => invRow xs i k + (if i < k ∧ xs.getD k 0 < xs.getD i 0 then 1 else 0)
/-- How many pairs with their first place under i stand the wrong way round. -/
def invTo (xs : List Int) : Nat → Int
  | 0 => 0
  | i + 1 => invTo xs i + invRow xs i xs.length
theorem valid_len {xs : List Int} (h : validB xs = true) : xs.length ≤ 8 := by unfold validB at h; simp only [Bool.and_eq_true, decide_eq_true_eq] at h; exact h.2
theorem invRow_low (xs : List Int) (i : Nat) : ∀ k, k ≤ i + 1 → invRow xs i k = 0
  | 0, _ => rfl
  | k + 1, h => by rw [invRow, invRow_low xs i k (by omega), if_neg (by omega)]; rfl
theorem invRow_step {xs : List Int} {i k : Nat} (h : i < k) (hh : xs.getD k 0 < xs.getD i 0) : invRow xs i (k + 1) = invRow xs i k + 1 := by rw [invRow, if_pos ⟨h, hh⟩]
theorem invRow_stay {xs : List Int} {i k : Nat} (hh : xs.getD i 0 ≤ xs.getD k 0) : invRow xs i (k + 1) = invRow xs i k := by rw [invRow, if_neg (by omega)]; omega


theorem falls_sat : Sat Try.prog 59 (fun ds Q => ∃ a b, ds = [.val (.int .i64 a), .val (.int .i64 b)] ∧ Q (.val (.bool (decide (b < a))))) := by
  refine sat_intro tabOk Try.func59 rfl 8 rfl [.tmp 4] rfl ?_
  rintro ds Q W ⟨a, b, rfl, hQ⟩
  refine ⟨Nat.le_of_ble_eq_true rfl, ?_⟩
  simp only [initS, initT, mat.matL, mat, Cont.len]
  repeat' (first | refine awp_seq_k fun K hK => ?_ | ((with_reducible refine hK _ ?_); clear hK K) | (clear hK K; (with_reducible refine hK _ ?_); clear hK K) | (clear hK K; clear hK K; (with_reducible refine hK _ ?_); clear hK K) | (clear hK K; clear hK K; clear hK K; (with_reducible refine hK _ ?_); clear hK K) | (clear hK K; clear hK K; clear hK K; clear hK K; (with_reducible refine hK _ ?_); clear hK K) | (clear hK K; clear hK K; clear hK K; clear hK K; clear hK K; (with_reducible refine hK _ ?_); clear hK K) | ((with_reducible refine aord_plain fun K hK => ?_); simp only [go_sem, Nat.reduceAdd, Nat.reduceMul, Nat.reduceEqDiff, Nat.reduceLT, reduceIte, reduceCtorEq]) | refine awp_block ?_ | ((first | with_reducible refine aord_nil ?_ | refine awp_skip ?_ | refine awp_exit ?_ | refine awp_ret ?_); try simp only [thenA_normal, thenA_exit, thenA_goto, thenA_ret, blockA_normal, blockA_same, blockA_exit, blockA_goto, blockA_ret, Nat.reduceEqDiff, if_false, if_true, reduceIte]) | (refine awp_region tabOk rfl ?_; simp only [prep, pickO, List.map_cons, List.map_nil, List.getElem?_toArray, List.getElem?_cons_succ, List.getElem?_cons_zero, Option.bind_some, Option.map_some]) | ((with_reducible refine And.intro ?_ ?_); (focus omega)) | ((with_reducible refine And.intro ?_ ?_); (focus (exact rfl))) | (with_reducible refine And.intro (fun hb => ?_) (fun hb => ?_)) | (exfalso; omega) | fail)
  all_goals simp only [St.set, St.ev, doneQ, doneH, ressK, resK, wrapR, AV.ids, AV.idsL, retK, retsK, upd, Nat.reduceEqDiff, reduceIte, if_false, if_true, List.nodup_nil, List.nodup_cons, List.not_mem_nil, not_false_eq_true, true_and, and_true, exists_eq_left', Option.some.injEq, rLoad, cellOf, tab, Ty.isAgg, Ty.one, Bool.false_eq_true]
  exact hQ


theorem implInversionsOf_sat : Sat Try.prog 22 (fun ds Q => ∃ xs, ds = [.row (.ints .i64 xs)] ∧ xs.length ≤ 1099511627776 ∧ Q (.val (.int .i64 (if validB xs then invTo xs xs.length else -1)))) := by
  refine sat_intro tabOk Try.func22 rfl 35 rfl [.tmp 2] rfl ?_
  rintro ds Q W ⟨xs, rfl, hlen, hQ⟩
  refine ⟨Nat.le_of_ble_eq_true rfl, ?_⟩
  simp only [initS, initT, mat.matL, mat, Cont.len]
  repeat' (first | refine awp_seq_k fun K hK => ?_ | ((with_reducible refine hK _ ?_); clear hK K) | (clear hK K; (with_reducible refine hK _ ?_); clear hK K) | (clear hK K; clear hK K; (with_reducible refine hK _ ?_); clear hK K) | (clear hK K; clear hK K; clear hK K; (with_reducible refine hK _ ?_); clear hK K) | (clear hK K; clear hK K; clear hK K; clear hK K; (with_reducible refine hK _ ?_); clear hK K) | (clear hK K; clear hK K; clear hK K; clear hK K; clear hK K; (with_reducible refine hK _ ?_); clear hK K) | ((with_reducible refine aord_plain fun K hK => ?_); simp only [go_sem, Nat.reduceAdd, Nat.reduceMul, Nat.reduceEqDiff, Nat.reduceLT, reduceIte, reduceCtorEq]) | refine awp_block ?_ | ((first | with_reducible refine aord_nil ?_ | refine awp_skip ?_ | refine awp_exit ?_ | refine awp_ret ?_); try simp only [thenA_normal, thenA_exit, thenA_goto, thenA_ret, blockA_normal, blockA_same, blockA_exit, blockA_goto, blockA_ret, Nat.reduceEqDiff, if_false, if_true, reduceIte]) | (refine awp_region tabOk rfl ?_; simp only [prep, pickO, List.map_cons, List.map_nil, List.getElem?_toArray, List.getElem?_cons_succ, List.getElem?_cons_zero, Option.bind_some, Option.map_some]) | (refine awp_region_draw (nt := 35) (id := 10) tabOk [(0, true, false), (1, true, false), (2, true, false), (3, true, false), (4, true, false), (5, true, false), (6, true, false), (7, true, false), (8, false, false)] (by kernel_rfl) rfl (by kernel_rfl) ?_; simp only [prep, pickO, List.map_cons, List.map_nil, List.getElem?_toArray, List.getElem?_cons_succ, List.getElem?_cons_zero, Option.bind_some, Option.map_some]) | ((with_reducible apply awp_cond); (focus (simp only [St.ev, St.set, upd, Nat.reduceEqDiff, reduceIte, if_false, if_true]; exact rfl)); all_goals (intro hb; first | (cases hb; done) | ((try rw [hb]); (try simp only [decide_eq_true_eq, decide_eq_false_iff_not, beq_iff_eq, bne_iff_ne, beq_eq_false_iff_ne, bne_eq_false_iff_eq, Int.not_lt, Int.not_le, Bool.not_eq_true', Bool.not_eq_false'] at hb)))) | ((with_reducible refine And.intro ?_ ?_); (focus omega)) | ((with_reducible refine And.intro ?_ ?_); (focus (exact rfl))) | ((with_reducible refine And.intro (?_ : enters Try.prog 31) ?_); (focus exact Try.call31); (refine callX_sat implValidKeys_sat ?_); simp only [go_sem, and_assoc, List.nil_append, List.append_nil, List.cons_append, Nat.reduceEqDiff, reduceIte, reduceCtorEq]) | ((with_reducible refine And.intro (?_ : enters Try.prog 59) ?_); (focus exact Try.call59); (refine callX_sat falls_sat ?_); simp only [go_sem, and_assoc, List.nil_append, List.append_nil, List.cons_append, Nat.reduceEqDiff, reduceIte, reduceCtorEq]) | (with_reducible refine And.intro (fun hb => ?_) (fun hb => ?_)) | (exfalso; omega) | fail)
  · simp only [St.set, St.ev, doneQ, doneH, ressK, resK, wrapR, AV.ids, AV.idsL, retK, retsK, upd, Nat.reduceEqDiff, reduceIte, if_false, if_true, List.nodup_nil, List.nodup_cons, List.not_mem_nil, not_false_eq_true, true_and, and_true, exists_eq_left', Option.some.injEq, rLoad, cellOf, tab, Ty.isAgg, Ty.one, Bool.false_eq_true]
    simp only [hb] at hQ
    exact hQ
  · have h8 := valid_len hb
    rw [if_pos hb] at hQ
    refine awp_loop (fun p : Nat × Int => ⟨upd (upd (upd (upd bot 11 (.val (.int .i64 p.1))) 10 (.val (.int .i64 xs.length))) 3 (.val (.int .i64 p.2))) 0 (.sl 0 0 xs.length 1 none), upd none' 0 (some ⟨false, .ints .i64 xs⟩), 1⟩) (fun p => p.1 ≤ xs.length ∧ p.2 = invTo xs p.1 ∧ 0 ≤ p.2 ∧ p.2 ≤ 8 * p.1) (fun p => xs.length - p.1) (0, 0) ⟨by simp, rfl, by simp, by simp⟩ ?_ ?_
    · (apply Wk.same; (case' h2 => (focus ((repeat' (with_reducible first | exact HeapX.bot | (apply HeapX.skip; (case hx => (simp; done))) | apply HeapX.none | apply HeapX.upd)); all_goals (first | rfl | exact Nat.le_of_ble_eq_true rfl | (simp only [St.set, St.ev, upd, ren, renL, id, Nat.reduceEqDiff, reduceIte, ContLe]; done) | (first | (simp only [St.set, St.ev, upd, ren, renL, id, Nat.reduceEqDiff, reduceIte]; exact contLe_nil) | ((repeat' (first | exact contLe_nil | refine contLe_cons (.inr ⟨?_, rfl⟩) ?_)); all_goals (first | rfl | (simp only [St.set, St.ev, upd, ren, renL, id, Nat.reduceEqDiff, reduceIte]; done) | ((try simp only [St.set, St.ev, upd, ren, renL, id, Nat.reduceEqDiff, reduceIte]); first | (with_reducible exact av_int (by omega)) | (with_reducible exact av_sl (by first | omega | (simp; done) | (simp; omega)) (by first | omega | (simp; done) | (simp; omega)))) | (simp only [St.set, St.ev, upd, ren, renL, id, Nat.reduceEqDiff, reduceIte, Int.natCast_add, Int.natCast_one, Int.cast_ofNat_Int, Int.natCast_zero]; done) | (simp only [St.set, St.ev, upd, ren, renL, id, Nat.reduceEqDiff, reduceIte]) | skip); done)) | (simp only [St.set, St.ev, upd, ren, renL, id, Nat.reduceEqDiff, reduceIte, ContLe]) | skip)))); (case' h1 => (focus ((repeat' (with_reducible first | exact TmpLe.bot | refine TmpLe.upd ?_ rfl ?_)); all_goals (first | rfl | (simp only [St.set, St.ev, upd, ren, renL, id, Nat.reduceEqDiff, reduceIte]; done) | ((try simp only [St.set, St.ev, upd, ren, renL, id, Nat.reduceEqDiff, reduceIte]); first | (with_reducible exact av_int (by omega)) | (with_reducible exact av_sl (by first | omega | (simp; done) | (simp; omega)) (by first | omega | (simp; done) | (simp; omega)))) | (simp only [St.set, St.ev, upd, ren, renL, id, Nat.reduceEqDiff, reduceIte, Int.natCast_add, Int.natCast_one, Int.cast_ofNat_Int, Int.natCast_zero]; done) | (simp only [St.set, St.ev, upd, ren, renL, id, Nat.reduceEqDiff, reduceIte]) | skip)))); (case h3 => (focus (first | (simp only [id, List.map_cons, List.map_nil]; decide) | decide))); (case h4 => (intro o l h; first | (cases h; done) | (have hlt0 := m0_lt (by assumption) h; first | omega | (simp only; omega) | exact ⟨by (first | rfl | (simp only [id]; done) | (rw [if_neg (by omega)])), by first | omega | (simp only; omega)⟩))))
    · rintro ⟨i, n⟩ ⟨hi, hn, hn0, hn8⟩
      simp only at hi hn hn0 hn8
      repeat' (first | refine awp_seq_k fun K hK => ?_ | ((with_reducible refine hK _ ?_); clear hK K) | (clear hK K; (with_reducible refine hK _ ?_); clear hK K) | (clear hK K; clear hK K; (with_reducible refine hK _ ?_); clear hK K) | (clear hK K; clear hK K; clear hK K; (with_reducible refine hK _ ?_); clear hK K) | (clear hK K; clear hK K; clear hK K; clear hK K; (with_reducible refine hK _ ?_); clear hK K) | (clear hK K; clear hK K; clear hK K; clear hK K; clear hK K; (with_reducible refine hK _ ?_); clear hK K) | ((with_reducible refine aord_plain fun K hK => ?_); simp only [go_sem, Nat.reduceAdd, Nat.reduceMul, Nat.reduceEqDiff, Nat.reduceLT, reduceIte, reduceCtorEq]) | refine awp_block ?_ | ((first | with_reducible refine aord_nil ?_ | refine awp_skip ?_ | refine awp_exit ?_ | refine awp_ret ?_); try simp only [thenA_normal, thenA_exit, thenA_goto, thenA_ret, blockA_normal, blockA_same, blockA_exit, blockA_goto, blockA_ret, Nat.reduceEqDiff, if_false, if_true, reduceIte]) | (refine awp_region tabOk rfl ?_; simp only [prep, pickO, List.map_cons, List.map_nil, List.getElem?_toArray, List.getElem?_cons_succ, List.getElem?_cons_zero, Option.bind_some, Option.map_some]) | (refine awp_region_draw (nt := 35) (id := 10) tabOk [(0, true, false), (1, true, false), (2, true, false), (3, true, false), (4, true, false), (5, true, false), (6, true, false), (7, true, false), (8, false, false)] (by kernel_rfl) rfl (by kernel_rfl) ?_; simp only [prep, pickO, List.map_cons, List.map_nil, List.getElem?_toArray, List.getElem?_cons_succ, List.getElem?_cons_zero, Option.bind_some, Option.map_some]) | ((with_reducible apply awp_cond); (focus (simp only [St.ev, St.set, upd, Nat.reduceEqDiff, reduceIte, if_false, if_true]; exact rfl)); all_goals (intro hb; first | (cases hb; done) | ((try rw [hb]); (try simp only [decide_eq_true_eq, decide_eq_false_iff_not, beq_iff_eq, bne_iff_ne, beq_eq_false_iff_ne, bne_eq_false_iff_eq, Int.not_lt, Int.not_le, Bool.not_eq_true', Bool.not_eq_false'] at hb)))) | ((with_reducible refine And.intro ?_ ?_); (focus omega)) | ((with_reducible refine And.intro ?_ ?_); (focus (exact rfl))) | ((with_reducible refine And.intro (?_ : enters Try.prog 31) ?_); (focus exact Try.call31); (refine callX_sat implValidKeys_sat ?_); simp only [go_sem, and_assoc, List.nil_append, List.append_nil, List.cons_append, Nat.reduceEqDiff, reduceIte, reduceCtorEq]) | ((with_reducible refine And.intro (?_ : enters Try.prog 59) ?_); (focus exact Try.call59); (refine callX_sat falls_sat ?_); simp only [go_sem, and_assoc, List.nil_append, List.append_nil, List.cons_append, Nat.reduceEqDiff, reduceIte, reduceCtorEq]) | (with_reducible refine And.intro (fun hb => ?_) (fun hb => ?_)) | (exfalso; omega) | fail)
      · refine awp_loop (fun p : Nat × Int => ⟨upd (upd (upd (upd (upd (upd bot 5 (.val (.int .i64 p.1))) 4 (.val (.int .i64 i))) 3 (.val (.int .i64 p.2))) 11 (.val (.int .i64 i))) 10 (.val (.int .i64 xs.length))) 0 (.sl 0 0 xs.length 1 none), upd none' 0 (some ⟨false, .ints .i64 xs⟩), 1⟩) (fun p => i < p.1 ∧ p.1 ≤ xs.length ∧ p.2 = n + invRow xs i p.1 ∧ 0 ≤ p.2 ∧ p.2 ≤ 8 * i + p.1) (fun p => xs.length - p.1) (i + 1, n) ⟨by simp, by simp only; omega, by simp only; rw [invRow_low xs i (i + 1) (by omega)]; omega, hn0, by simp only; omega⟩ ?_ ?_
        · (apply Wk.same; (case' h2 => (focus ((repeat' (with_reducible first | exact HeapX.bot | (apply HeapX.skip; (case hx => (simp; done))) | apply HeapX.none | apply HeapX.upd)); all_goals (first | rfl | exact Nat.le_of_ble_eq_true rfl | (simp only [St.set, St.ev, upd, ren, renL, id, Nat.reduceEqDiff, reduceIte, ContLe]; done) | (first | (simp only [St.set, St.ev, upd, ren, renL, id, Nat.reduceEqDiff, reduceIte]; exact contLe_nil) | ((repeat' (first | exact contLe_nil | refine contLe_cons (.inr ⟨?_, rfl⟩) ?_)); all_goals (first | rfl | (simp only [St.set, St.ev, upd, ren, renL, id, Nat.reduceEqDiff, reduceIte]; done) | ((try simp only [St.set, St.ev, upd, ren, renL, id, Nat.reduceEqDiff, reduceIte]); first | (with_reducible exact av_int (by omega)) | (with_reducible exact av_sl (by first | omega | (simp; done) | (simp; omega)) (by first | omega | (simp; done) | (simp; omega)))) | (simp only [St.set, St.ev, upd, ren, renL, id, Nat.reduceEqDiff, reduceIte, Int.natCast_add, Int.natCast_one, Int.cast_ofNat_Int, Int.natCast_zero]; done) | (simp only [St.set, St.ev, upd, ren, renL, id, Nat.reduceEqDiff, reduceIte]) | skip); done)) | (simp only [St.set, St.ev, upd, ren, renL, id, Nat.reduceEqDiff, reduceIte, ContLe]) | skip)))); (case' h1 => (focus ((repeat' (with_reducible first | exact TmpLe.bot | refine TmpLe.upd ?_ rfl ?_)); all_goals (first | rfl | (simp only [St.set, St.ev, upd, ren, renL, id, Nat.reduceEqDiff, reduceIte]; done) | ((try simp only [St.set, St.ev, upd, ren, renL, id, Nat.reduceEqDiff, reduceIte]); first | (with_reducible exact av_int (by omega)) | (with_reducible exact av_sl (by first | omega | (simp; done) | (simp; omega)) (by first | omega | (simp; done) | (simp; omega)))) | (simp only [St.set, St.ev, upd, ren, renL, id, Nat.reduceEqDiff, reduceIte, Int.natCast_add, Int.natCast_one, Int.cast_ofNat_Int, Int.natCast_zero]; done) | (simp only [St.set, St.ev, upd, ren, renL, id, Nat.reduceEqDiff, reduceIte]) | skip)))); (case h3 => (focus (first | (simp only [id, List.map_cons, List.map_nil]; decide) | decide))); (case h4 => (intro o l h; first | (cases h; done) | (have hlt0 := m0_lt (by assumption) h; first | omega | (simp only; omega) | exact ⟨by (first | rfl | (simp only [id]; done) | (rw [if_neg (by omega)])), by first | omega | (simp only; omega)⟩))))
        · rintro ⟨j, m⟩ ⟨hj, hjl, hm, hm0, hm8⟩
          simp only at hj hjl hm hm0 hm8
          repeat' (first | refine awp_seq_k fun K hK => ?_ | ((with_reducible refine hK _ ?_); clear hK K) | (clear hK K; (with_reducible refine hK _ ?_); clear hK K) | (clear hK K; clear hK K; (with_reducible refine hK _ ?_); clear hK K) | (clear hK K; clear hK K; clear hK K; (with_reducible refine hK _ ?_); clear hK K) | (clear hK K; clear hK K; clear hK K; clear hK K; (with_reducible refine hK _ ?_); clear hK K) | (clear hK K; clear hK K; clear hK K; clear hK K; clear hK K; (with_reducible refine hK _ ?_); clear hK K) | ((with_reducible refine aord_plain fun K hK => ?_); simp only [go_sem, Nat.reduceAdd, Nat.reduceMul, Nat.reduceEqDiff, Nat.reduceLT, reduceIte, reduceCtorEq]) | refine awp_block ?_ | ((first | with_reducible refine aord_nil ?_ | refine awp_skip ?_ | refine awp_exit ?_ | refine awp_ret ?_); try simp only [thenA_normal, thenA_exit, thenA_goto, thenA_ret, blockA_normal, blockA_same, blockA_exit, blockA_goto, blockA_ret, Nat.reduceEqDiff, if_false, if_true, reduceIte]) | (refine awp_region tabOk rfl ?_; simp only [prep, pickO, List.map_cons, List.map_nil, List.getElem?_toArray, List.getElem?_cons_succ, List.getElem?_cons_zero, Option.bind_some, Option.map_some]) | (refine awp_region_draw (nt := 35) (id := 10) tabOk [(0, true, false), (1, true, false), (2, true, false), (3, true, false), (4, true, false), (5, true, false), (6, true, false), (7, true, false), (8, false, false)] (by kernel_rfl) rfl (by kernel_rfl) ?_; simp only [prep, pickO, List.map_cons, List.map_nil, List.getElem?_toArray, List.getElem?_cons_succ, List.getElem?_cons_zero, Option.bind_some, Option.map_some]) | ((with_reducible apply awp_cond); (focus (simp only [St.ev, St.set, upd, Nat.reduceEqDiff, reduceIte, if_false, if_true]; exact rfl)); all_goals (intro hb; first | (cases hb; done) | ((try rw [hb]); (try simp only [decide_eq_true_eq, decide_eq_false_iff_not, beq_iff_eq, bne_iff_ne, beq_eq_false_iff_ne, bne_eq_false_iff_eq, Int.not_lt, Int.not_le, Bool.not_eq_true', Bool.not_eq_false'] at hb)))) | ((with_reducible refine And.intro ?_ ?_); (focus omega)) | ((with_reducible refine And.intro ?_ ?_); (focus (exact rfl))) | ((with_reducible refine And.intro (?_ : enters Try.prog 31) ?_); (focus exact Try.call31); (refine callX_sat implValidKeys_sat ?_); simp only [go_sem, and_assoc, List.nil_append, List.append_nil, List.cons_append, Nat.reduceEqDiff, reduceIte, reduceCtorEq]) | ((with_reducible refine And.intro (?_ : enters Try.prog 59) ?_); (focus exact Try.call59); (refine callX_sat falls_sat ?_); simp only [go_sem, and_assoc, List.nil_append, List.append_nil, List.cons_append, Nat.reduceEqDiff, reduceIte, reduceCtorEq]) | (with_reducible refine And.intro (fun hb => ?_) (fun hb => ?_)) | (exfalso; omega) | fail)
          · refine ⟨(j + 1, m + 1), ⟨by simp only; omega, by simp only; omega, by simp only; rw [invRow_step hj (by omega)]; omega, by simp only; omega, by simp only; omega⟩, by simp only; omega, ?_⟩
            (apply Wk.same; (case' h2 => (focus ((repeat' (with_reducible first | exact HeapX.bot | (apply HeapX.skip; (case hx => (simp; done))) | apply HeapX.none | apply HeapX.upd)); all_goals (first | rfl | exact Nat.le_of_ble_eq_true rfl | (simp only [St.set, St.ev, upd, ren, renL, id, Nat.reduceEqDiff, reduceIte, ContLe]; done) | (first | (simp only [St.set, St.ev, upd, ren, renL, id, Nat.reduceEqDiff, reduceIte]; exact contLe_nil) | ((repeat' (first | exact contLe_nil | refine contLe_cons (.inr ⟨?_, rfl⟩) ?_)); all_goals (first | rfl | (simp only [St.set, St.ev, upd, ren, renL, id, Nat.reduceEqDiff, reduceIte]; done) | ((try simp only [St.set, St.ev, upd, ren, renL, id, Nat.reduceEqDiff, reduceIte]); first | (with_reducible exact av_int (by omega)) | (with_reducible exact av_sl (by first | omega | (simp; done) | (simp; omega)) (by first | omega | (simp; done) | (simp; omega)))) | (simp only [St.set, St.ev, upd, ren, renL, id, Nat.reduceEqDiff, reduceIte, Int.natCast_add, Int.natCast_one, Int.cast_ofNat_Int, Int.natCast_zero]; done) | (simp only [St.set, St.ev, upd, ren, renL, id, Nat.reduceEqDiff, reduceIte]) | skip); done)) | (simp only [St.set, St.ev, upd, ren, renL, id, Nat.reduceEqDiff, reduceIte, ContLe]) | skip)))); (case' h1 => (focus ((repeat' (with_reducible first | exact TmpLe.bot | refine TmpLe.upd ?_ rfl ?_)); all_goals (first | rfl | (simp only [St.set, St.ev, upd, ren, renL, id, Nat.reduceEqDiff, reduceIte]; done) | ((try simp only [St.set, St.ev, upd, ren, renL, id, Nat.reduceEqDiff, reduceIte]); first | (with_reducible exact av_int (by omega)) | (with_reducible exact av_sl (by first | omega | (simp; done) | (simp; omega)) (by first | omega | (simp; done) | (simp; omega)))) | (simp only [St.set, St.ev, upd, ren, renL, id, Nat.reduceEqDiff, reduceIte, Int.natCast_add, Int.natCast_one, Int.cast_ofNat_Int, Int.natCast_zero]; done) | (simp only [St.set, St.ev, upd, ren, renL, id, Nat.reduceEqDiff, reduceIte]) | skip)))); (case h3 => (focus (first | (simp only [id, List.map_cons, List.map_nil]; decide) | decide))); (case h4 => (intro o l h; first | (cases h; done) | (have hlt0 := m0_lt (by assumption) h; first | omega | (simp only; omega) | exact ⟨by (first | rfl | (simp only [id]; done) | (rw [if_neg (by omega)])), by first | omega | (simp only; omega)⟩))))
          · refine ⟨(j + 1, m), ⟨by simp only; omega, by simp only; omega, by simp only; rw [invRow_stay (by omega)]; omega, by simp only; omega, by simp only; omega⟩, by simp only; omega, ?_⟩
            (apply Wk.same; (case' h2 => (focus ((repeat' (with_reducible first | exact HeapX.bot | (apply HeapX.skip; (case hx => (simp; done))) | apply HeapX.none | apply HeapX.upd)); all_goals (first | rfl | exact Nat.le_of_ble_eq_true rfl | (simp only [St.set, St.ev, upd, ren, renL, id, Nat.reduceEqDiff, reduceIte, ContLe]; done) | (first | (simp only [St.set, St.ev, upd, ren, renL, id, Nat.reduceEqDiff, reduceIte]; exact contLe_nil) | ((repeat' (first | exact contLe_nil | refine contLe_cons (.inr ⟨?_, rfl⟩) ?_)); all_goals (first | rfl | (simp only [St.set, St.ev, upd, ren, renL, id, Nat.reduceEqDiff, reduceIte]; done) | ((try simp only [St.set, St.ev, upd, ren, renL, id, Nat.reduceEqDiff, reduceIte]); first | (with_reducible exact av_int (by omega)) | (with_reducible exact av_sl (by first | omega | (simp; done) | (simp; omega)) (by first | omega | (simp; done) | (simp; omega)))) | (simp only [St.set, St.ev, upd, ren, renL, id, Nat.reduceEqDiff, reduceIte, Int.natCast_add, Int.natCast_one, Int.cast_ofNat_Int, Int.natCast_zero]; done) | (simp only [St.set, St.ev, upd, ren, renL, id, Nat.reduceEqDiff, reduceIte]) | skip); done)) | (simp only [St.set, St.ev, upd, ren, renL, id, Nat.reduceEqDiff, reduceIte, ContLe]) | skip)))); (case' h1 => (focus ((repeat' (with_reducible first | exact TmpLe.bot | refine TmpLe.upd ?_ rfl ?_)); all_goals (first | rfl | (simp only [St.set, St.ev, upd, ren, renL, id, Nat.reduceEqDiff, reduceIte]; done) | ((try simp only [St.set, St.ev, upd, ren, renL, id, Nat.reduceEqDiff, reduceIte]); first | (with_reducible exact av_int (by omega)) | (with_reducible exact av_sl (by first | omega | (simp; done) | (simp; omega)) (by first | omega | (simp; done) | (simp; omega)))) | (simp only [St.set, St.ev, upd, ren, renL, id, Nat.reduceEqDiff, reduceIte, Int.natCast_add, Int.natCast_one, Int.cast_ofNat_Int, Int.natCast_zero]; done) | (simp only [St.set, St.ev, upd, ren, renL, id, Nat.reduceEqDiff, reduceIte]) | skip)))); (case h3 => (focus (first | (simp only [id, List.map_cons, List.map_nil]; decide) | decide))); (case h4 => (intro o l h; first | (cases h; done) | (have hlt0 := m0_lt (by assumption) h; first | omega | (simp only; omega) | exact ⟨by (first | rfl | (simp only [id]; done) | (rw [if_neg (by omega)])), by first | omega | (simp only; omega)⟩))))
          · refine ⟨(i + 1, m), ⟨by simp only; omega, by simp only; rw [invTo, hm, hn, show j = xs.length by omega], by simp only; omega, by simp only; omega⟩, by simp only; omega, ?_⟩
            (apply Wk.same; (case' h2 => (focus ((repeat' (with_reducible first | exact HeapX.bot | (apply HeapX.skip; (case hx => (simp; done))) | apply HeapX.none | apply HeapX.upd)); all_goals (first | rfl | exact Nat.le_of_ble_eq_true rfl | (simp only [St.set, St.ev, upd, ren, renL, id, Nat.reduceEqDiff, reduceIte, ContLe]; done) | (first | (simp only [St.set, St.ev, upd, ren, renL, id, Nat.reduceEqDiff, reduceIte]; exact contLe_nil) | ((repeat' (first | exact contLe_nil | refine contLe_cons (.inr ⟨?_, rfl⟩) ?_)); all_goals (first | rfl | (simp only [St.set, St.ev, upd, ren, renL, id, Nat.reduceEqDiff, reduceIte]; done) | ((try simp only [St.set, St.ev, upd, ren, renL, id, Nat.reduceEqDiff, reduceIte]); first | (with_reducible exact av_int (by omega)) | (with_reducible exact av_sl (by first | omega | (simp; done) | (simp; omega)) (by first | omega | (simp; done) | (simp; omega)))) | (simp only [St.set, St.ev, upd, ren, renL, id, Nat.reduceEqDiff, reduceIte, Int.natCast_add, Int.natCast_one, Int.cast_ofNat_Int, Int.natCast_zero]; done) | (simp only [St.set, St.ev, upd, ren, renL, id, Nat.reduceEqDiff, reduceIte]) | skip); done)) | (simp only [St.set, St.ev, upd, ren, renL, id, Nat.reduceEqDiff, reduceIte, ContLe]) | skip)))); (case' h1 => (focus ((repeat' (with_reducible first | exact TmpLe.bot | refine TmpLe.upd ?_ rfl ?_)); all_goals (first | rfl | (simp only [St.set, St.ev, upd, ren, renL, id, Nat.reduceEqDiff, reduceIte]; done) | ((try simp only [St.set, St.ev, upd, ren, renL, id, Nat.reduceEqDiff, reduceIte]); first | (with_reducible exact av_int (by omega)) | (with_reducible exact av_sl (by first | omega | (simp; done) | (simp; omega)) (by first | omega | (simp; done) | (simp; omega)))) | (simp only [St.set, St.ev, upd, ren, renL, id, Nat.reduceEqDiff, reduceIte, Int.natCast_add, Int.natCast_one, Int.cast_ofNat_Int, Int.natCast_zero]; done) | (simp only [St.set, St.ev, upd, ren, renL, id, Nat.reduceEqDiff, reduceIte]) | skip)))); (case h3 => (focus (first | (simp only [id, List.map_cons, List.map_nil]; decide) | decide))); (case h4 => (intro o l h; first | (cases h; done) | (have hlt0 := m0_lt (by assumption) h; first | omega | (simp only; omega) | exact ⟨by (first | rfl | (simp only [id]; done) | (rw [if_neg (by omega)])), by first | omega | (simp only; omega)⟩))))
      · simp only [St.set, St.ev, doneQ, doneH, ressK, resK, wrapR, AV.ids, AV.idsL, retK, retsK, upd, Nat.reduceEqDiff, reduceIte, if_false, if_true, List.nodup_nil, List.nodup_cons, List.not_mem_nil, not_false_eq_true, true_and, and_true, exists_eq_left', Option.some.injEq, rLoad, cellOf, tab, Ty.isAgg, Ty.one, Bool.false_eq_true]
        rw [hn, show i = xs.length by omega]
        exact hQ


/-- How many of the first k places hold a key less than that of place i, or an equal one and are ahead of it. -/
def plC (xs : List Int) (i : Nat) : Nat → Int
  | 0 => 0
  | k + 1 => plC xs i k + (if xs.getD k 0 < xs.getD i 0 ∨ (xs.getD k 0 = xs.getD i 0 ∧ k < i) then 1 else 0)
def placesL (xs : List Int) : List Int := (List.range xs.length).map fun i => plC xs i xs.length
theorem plC_nonneg (xs : List Int) (i : Nat) : ∀ k, 0 ≤ plC xs i k
  | 0 => Int.le_refl 0
  | k + 1 => by have := plC_nonneg xs i k; rw [plC]; split <;> omega
theorem plC_le (xs : List Int) (i : Nat) : ∀ k, plC xs i k ≤ k
  | 0 => Int.le_refl 0
  | k + 1 => by have := plC_le xs i k; rw [plC]; split <;> omega
theorem plC_own (xs : List Int) (i : Nat) : ∀ k, i < k → plC xs i k + 1 ≤ k
  | k + 1, h => by
    rw [plC]
    rcases Nat.lt_or_ge i k with h1 | h1
    · have := plC_own xs i k h1; split <;> omega
    · have e : k = i := by omega
      subst e
      have := plC_le xs k k
      rw [if_neg (by omega)]
      omega
theorem plC_up {xs : List Int} {i k : Nat} (h : xs.getD k 0 < xs.getD i 0 ∨ (xs.getD k 0 = xs.getD i 0 ∧ k < i)) : plC xs i (k + 1) = plC xs i k + 1 := by rw [plC, if_pos h]
theorem plC_stay {xs : List Int} {i k : Nat} (h : ¬ (xs.getD k 0 < xs.getD i 0 ∨ (xs.getD k 0 = xs.getD i 0 ∧ k < i))) : plC xs i (k + 1) = plC xs i k := by rw [plC, if_neg h]; omega
theorem placesL_len (xs : List Int) : (placesL xs).length = xs.length := by simp [placesL]
theorem placesL_get {xs : List Int} {i : Nat} (h : i < xs.length) : (placesL xs).getD i 0 = plC xs i xs.length := by
  rw [List.getD_eq_getElem?_getD, List.getElem?_eq_getElem (by rw [placesL_len]; exact h)]
  simp [placesL]
theorem getD_app_lo {l m : List Int} {i : Nat} (h : i < l.length) : (l ++ m).getD i 0 = l.getD i 0 := by
  simp [List.getD_eq_getElem?_getD, List.getElem?_append_left h]
theorem getD_app_at {l : List Int} {a : Int} {i : Nat} (h : i = l.length) : (l ++ [a]).getD i 0 = a := by
  subst h; simp [List.getD_eq_getElem?_getD]


theorem getD_rep {n j : Nat} : (List.replicate n (0 : Int)).getD j 0 = 0 := by
  rw [List.getD_eq_getElem?_getD, List.getElem?_replicate]; split <;> rfl


theorem implPlacesOf_sat : Sat Try.prog 17 (fun ds Q => ∃ xs, ds = [.row (.ints .i64 xs)] ∧ xs.length ≤ 1099511627776 ∧ Q (.row (.ints .i64 (if validB xs then placesL xs else [])))) := by
  refine sat_intro tabOk Try.func17 rfl 50 rfl [.tmp 2] rfl ?_
  rintro ds Q W ⟨xs, rfl, hlen, hQ⟩
  refine ⟨Nat.le_of_ble_eq_true rfl, ?_⟩
  simp only [initS, initT, mat.matL, mat, Cont.len]
  repeat' (first | refine awp_seq_k fun K hK => ?_ | ((with_reducible refine hK _ ?_); clear hK K) | (clear hK K; (with_reducible refine hK _ ?_); clear hK K) | (clear hK K; clear hK K; (with_reducible refine hK _ ?_); clear hK K) | (clear hK K; clear hK K; clear hK K; (with_reducible refine hK _ ?_); clear hK K) | (clear hK K; clear hK K; clear hK K; clear hK K; (with_reducible refine hK _ ?_); clear hK K) | (clear hK K; clear hK K; clear hK K; clear hK K; clear hK K; (with_reducible refine hK _ ?_); clear hK K) | ((with_reducible refine aord_plain fun K hK => ?_); simp only [go_sem, Nat.reduceAdd, Nat.reduceMul, Nat.reduceEqDiff, Nat.reduceLT, reduceIte, reduceCtorEq]) | ((with_reducible apply aord_guard); (focus (simp only [St.ev, St.set, upd, Nat.reduceEqDiff, reduceIte, if_false, if_true]; exact rfl)); all_goals (intro hb; (try simp only [Bool.not_true, Bool.not_false] at hb); first | (cases hb; done) | ((try rw [hb]); (try simp only [Bool.not_eq_true', Bool.not_eq_false', Bool.and_eq_true, decide_eq_true_eq, decide_eq_false_iff_not, beq_iff_eq, bne_iff_ne, beq_eq_false_iff_ne, bne_eq_false_iff_eq, Int.not_lt, Int.not_le] at hb); (try (revert hb; with_reducible refine true_imp_iff.2 ?_)); first | (intro K hK; simp only [go_sem, Nat.reduceAdd, Nat.reduceMul, Nat.reduceEqDiff, Nat.reduceLT, reduceIte, reduceCtorEq]) | (simp only [St.ev, St.set, upd, Nat.reduceEqDiff, reduceIte, if_false, if_true]) | skip))) | ((with_reducible apply aord_skip); (focus (simp only [St.ev, St.set, upd, Nat.reduceEqDiff, reduceIte, if_false, if_true]; done)); (simp only [St.ev, St.set, upd, Nat.reduceEqDiff, reduceIte, if_false, if_true])) | refine awp_block ?_ | ((first | with_reducible refine aord_nil ?_ | refine awp_skip ?_ | refine awp_exit ?_ | refine awp_ret ?_); try simp only [thenA_normal, thenA_exit, thenA_goto, thenA_ret, blockA_normal, blockA_same, blockA_exit, blockA_goto, blockA_ret, Nat.reduceEqDiff, if_false, if_true, reduceIte]) | (refine awp_region tabOk rfl ?_; simp only [prep, pickO, List.map_cons, List.map_nil, List.getElem?_toArray, List.getElem?_cons_succ, List.getElem?_cons_zero, Option.bind_some, Option.map_some]) | ((with_reducible apply awp_cond); (focus (simp only [St.ev, St.set, upd, Nat.reduceEqDiff, reduceIte, if_false, if_true]; exact rfl)); all_goals (intro hb; first | (cases hb; done) | ((try rw [hb]); (try simp only [decide_eq_true_eq, decide_eq_false_iff_not, beq_iff_eq, bne_iff_ne, beq_eq_false_iff_ne, bne_eq_false_iff_eq, Int.not_lt, Int.not_le, Bool.not_eq_true', Bool.not_eq_false'] at hb)))) | ((with_reducible refine And.intro ?_ ?_); (focus omega)) | ((with_reducible refine And.intro ?_ ?_); (focus (exact rfl))) | ((with_reducible refine And.intro (?_ : enters Try.prog 31) ?_); (focus exact Try.call31); (refine callX_sat implValidKeys_sat ?_); simp only [go_sem, and_assoc, List.nil_append, List.append_nil, List.cons_append, Nat.reduceEqDiff, reduceIte, reduceCtorEq]) | (refine aStoreAll_ints (by simp only [St.ev, St.set, upd, Nat.reduceEqDiff, reduceIte, if_false, if_true]; exact rfl) ?_ ?_ ?_ ?_; (focus (first | rfl | omega | (simp; done) | (simp; omega) | (simp [szOf, tab]; done) | (simp [szOf, tab]; omega))); (focus (first | rfl | omega | (simp; done) | (simp; omega) | (simp [szOf, tab]; done) | (simp [szOf, tab]; omega))); (focus (first | rfl | omega | (simp; done) | (simp; omega) | (simp [szOf, tab]; done) | (simp [szOf, tab]; omega))); (try simp only [go_sem, Nat.reduceAdd, Nat.reduceMul, Nat.reduceEqDiff, Nat.reduceLT, reduceIte, reduceCtorEq])) | (refine aStoreAll_cells (by simp only [St.ev, St.set, upd, Nat.reduceEqDiff, reduceIte, if_false, if_true]; exact rfl) ?_ ?_ ?_ ?_ ?_; (focus (first | rfl | omega | (simp; done) | (simp; omega) | (simp [szOf, tab]; done) | (simp [szOf, tab]; omega))); (focus (first | rfl | omega | (simp; done) | (simp; omega) | (simp [szOf, tab]; done) | (simp [szOf, tab]; omega))); (focus (first | rfl | omega | (simp; done) | (simp; omega) | (simp [szOf, tab]; done) | (simp [szOf, tab]; omega))); (focus (first | rfl | (simp [AV.cell, Value.oneCell']; done))); (try simp only [go_sem, Nat.reduceAdd, Nat.reduceMul, Nat.reduceEqDiff, Nat.reduceLT, reduceIte, reduceCtorEq])) | (with_reducible refine And.intro (fun hb => ?_) (fun hb => ?_)) | (exfalso; omega) | fail)
  · simp only [St.set, St.ev, doneQ, doneH, ressK, resK, wrapR, AV.ids, AV.idsL, retK, retsK, upd, Nat.reduceEqDiff, reduceIte, if_false, if_true, List.nodup_nil, List.nodup_cons, List.not_mem_nil, not_false_eq_true, true_and, and_true, exists_eq_left', Option.some.injEq, rLoad, cellOf, tab, Ty.isAgg, Ty.one, Bool.false_eq_true]
    simp only [hb] at hQ
    exact ⟨.ints .i64 [], rfl, rfl, rfl, hQ⟩
  · have h8 := valid_len hb
    rw [if_pos hb] at hQ
    refine awp_loop (fun p : Nat × List Int => ⟨upd (upd (upd (upd (upd bot 16 (.val (.int .i64 p.1))) 15 (.val (.int .i64 xs.length))) 14 (.sl 0 0 xs.length 1 none)) 3 (.sl 1 0 xs.length 1 none)) 0 (.sl 0 0 xs.length 1 none), upd (upd none' 0 (some ⟨false, .ints .i64 xs⟩)) 1 (some ⟨true, .ints .i64 p.2⟩), 2⟩) (fun p => p.1 ≤ xs.length ∧ p.2.length = xs.length ∧ (∀ j, j < p.1 → p.2.getD j 0 = plC xs j xs.length) ∧ ∀ j, p.1 ≤ j → p.2.getD j 0 = 0) (fun p => xs.length - p.1) (0, List.replicate xs.length 0) ⟨by simp, by simp, by simp, fun j _ => getD_rep⟩ ?_ ?_
    · (apply Wk.same; (case' h2 => (focus ((repeat' (with_reducible first | exact HeapX.bot | (apply HeapX.skip; (case hx => (simp; done))) | apply HeapX.none | apply HeapX.upd)); all_goals (first | rfl | exact Nat.le_of_ble_eq_true rfl | (simp only [St.set, St.ev, upd, ren, renL, id, Nat.reduceEqDiff, reduceIte, ContLe]; done) | (first | (simp only [St.set, St.ev, upd, ren, renL, id, Nat.reduceEqDiff, reduceIte]; exact contLe_nil) | ((repeat' (first | exact contLe_nil | refine contLe_cons (.inr ⟨?_, rfl⟩) ?_)); all_goals (first | rfl | (simp only [St.set, St.ev, upd, ren, renL, id, Nat.reduceEqDiff, reduceIte]; done) | ((try simp only [St.set, St.ev, upd, ren, renL, id, Nat.reduceEqDiff, reduceIte]); first | (with_reducible exact av_int (by omega)) | (with_reducible exact av_sl (by first | omega | (simp; done) | (simp; omega)) (by first | omega | (simp; done) | (simp; omega)))) | (simp only [St.set, St.ev, upd, ren, renL, id, Nat.reduceEqDiff, reduceIte, Int.natCast_add, Int.natCast_one, Int.cast_ofNat_Int, Int.natCast_zero]; done) | (simp only [St.set, St.ev, upd, ren, renL, id, Nat.reduceEqDiff, reduceIte]) | skip); done)) | (simp only [St.set, St.ev, upd, ren, renL, id, Nat.reduceEqDiff, reduceIte, ContLe]) | skip)))); (case' h1 => (focus ((repeat' (with_reducible first | exact TmpLe.bot | refine TmpLe.upd ?_ rfl ?_)); all_goals (first | rfl | (simp only [St.set, St.ev, upd, ren, renL, id, Nat.reduceEqDiff, reduceIte]; done) | ((try simp only [St.set, St.ev, upd, ren, renL, id, Nat.reduceEqDiff, reduceIte]); first | (with_reducible exact av_int (by omega)) | (with_reducible exact av_sl (by first | omega | (simp; done) | (simp; omega)) (by first | omega | (simp; done) | (simp; omega)))) | (simp only [St.set, St.ev, upd, ren, renL, id, Nat.reduceEqDiff, reduceIte, Int.natCast_add, Int.natCast_one, Int.cast_ofNat_Int, Int.natCast_zero]; done) | (simp only [St.set, St.ev, upd, ren, renL, id, Nat.reduceEqDiff, reduceIte]) | skip)))); (case h3 => (focus (first | (simp only [id, List.map_cons, List.map_nil]; decide) | decide))); (case h4 => (intro o l h; first | (cases h; done) | (have hlt0 := m0_lt (by assumption) h; first | omega | (simp only; omega) | exact ⟨by (first | rfl | (simp only [id]; done) | (rw [if_neg (by omega)])), by first | omega | (simp only; omega)⟩))))
    · rintro ⟨i, ys⟩ ⟨hi, hl, hj, hz⟩
      simp only at hi hl hj hz
      repeat' (first | refine awp_seq_k fun K hK => ?_ | ((with_reducible refine hK _ ?_); clear hK K) | (clear hK K; (with_reducible refine hK _ ?_); clear hK K) | (clear hK K; clear hK K; (with_reducible refine hK _ ?_); clear hK K) | (clear hK K; clear hK K; clear hK K; (with_reducible refine hK _ ?_); clear hK K) | (clear hK K; clear hK K; clear hK K; clear hK K; (with_reducible refine hK _ ?_); clear hK K) | (clear hK K; clear hK K; clear hK K; clear hK K; clear hK K; (with_reducible refine hK _ ?_); clear hK K) | ((with_reducible refine aord_plain fun K hK => ?_); simp only [go_sem, Nat.reduceAdd, Nat.reduceMul, Nat.reduceEqDiff, Nat.reduceLT, reduceIte, reduceCtorEq]) | ((with_reducible apply aord_guard); (focus (simp only [St.ev, St.set, upd, Nat.reduceEqDiff, reduceIte, if_false, if_true]; exact rfl)); all_goals (intro hb; (try simp only [Bool.not_true, Bool.not_false] at hb); first | (cases hb; done) | ((try rw [hb]); (try simp only [Bool.not_eq_true', Bool.not_eq_false', Bool.and_eq_true, decide_eq_true_eq, decide_eq_false_iff_not, beq_iff_eq, bne_iff_ne, beq_eq_false_iff_ne, bne_eq_false_iff_eq, Int.not_lt, Int.not_le] at hb); (try (revert hb; with_reducible refine true_imp_iff.2 ?_)); first | (intro K hK; simp only [go_sem, Nat.reduceAdd, Nat.reduceMul, Nat.reduceEqDiff, Nat.reduceLT, reduceIte, reduceCtorEq]) | (simp only [St.ev, St.set, upd, Nat.reduceEqDiff, reduceIte, if_false, if_true]) | skip))) | ((with_reducible apply aord_skip); (focus (simp only [St.ev, St.set, upd, Nat.reduceEqDiff, reduceIte, if_false, if_true]; done)); (simp only [St.ev, St.set, upd, Nat.reduceEqDiff, reduceIte, if_false, if_true])) | refine awp_block ?_ | ((first | with_reducible refine aord_nil ?_ | refine awp_skip ?_ | refine awp_exit ?_ | refine awp_ret ?_); try simp only [thenA_normal, thenA_exit, thenA_goto, thenA_ret, blockA_normal, blockA_same, blockA_exit, blockA_goto, blockA_ret, Nat.reduceEqDiff, if_false, if_true, reduceIte]) | (refine awp_region tabOk rfl ?_; simp only [prep, pickO, List.map_cons, List.map_nil, List.getElem?_toArray, List.getElem?_cons_succ, List.getElem?_cons_zero, Option.bind_some, Option.map_some]) | ((with_reducible apply awp_cond); (focus (simp only [St.ev, St.set, upd, Nat.reduceEqDiff, reduceIte, if_false, if_true]; exact rfl)); all_goals (intro hb; first | (cases hb; done) | ((try rw [hb]); (try simp only [decide_eq_true_eq, decide_eq_false_iff_not, beq_iff_eq, bne_iff_ne, beq_eq_false_iff_ne, bne_eq_false_iff_eq, Int.not_lt, Int.not_le, Bool.not_eq_true', Bool.not_eq_false'] at hb)))) | ((with_reducible refine And.intro ?_ ?_); (focus omega)) | ((with_reducible refine And.intro ?_ ?_); (focus (exact rfl))) | ((with_reducible refine And.intro (?_ : enters Try.prog 31) ?_); (focus exact Try.call31); (refine callX_sat implValidKeys_sat ?_); simp only [go_sem, and_assoc, List.nil_append, List.append_nil, List.cons_append, Nat.reduceEqDiff, reduceIte, reduceCtorEq]) | (refine aStoreAll_ints (by simp only [St.ev, St.set, upd, Nat.reduceEqDiff, reduceIte, if_false, if_true]; exact rfl) ?_ ?_ ?_ ?_; (focus (first | rfl | omega | (simp; done) | (simp; omega) | (simp [szOf, tab]; done) | (simp [szOf, tab]; omega))); (focus (first | rfl | omega | (simp; done) | (simp; omega) | (simp [szOf, tab]; done) | (simp [szOf, tab]; omega))); (focus (first | rfl | omega | (simp; done) | (simp; omega) | (simp [szOf, tab]; done) | (simp [szOf, tab]; omega))); (try simp only [go_sem, Nat.reduceAdd, Nat.reduceMul, Nat.reduceEqDiff, Nat.reduceLT, reduceIte, reduceCtorEq])) | (refine aStoreAll_cells (by simp only [St.ev, St.set, upd, Nat.reduceEqDiff, reduceIte, if_false, if_true]; exact rfl) ?_ ?_ ?_ ?_ ?_; (focus (first | rfl | omega | (simp; done) | (simp; omega) | (simp [szOf, tab]; done) | (simp [szOf, tab]; omega))); (focus (first | rfl | omega | (simp; done) | (simp; omega) | (simp [szOf, tab]; done) | (simp [szOf, tab]; omega))); (focus (first | rfl | omega | (simp; done) | (simp; omega) | (simp [szOf, tab]; done) | (simp [szOf, tab]; omega))); (focus (first | rfl | (simp [AV.cell, Value.oneCell']; done))); (try simp only [go_sem, Nat.reduceAdd, Nat.reduceMul, Nat.reduceEqDiff, Nat.reduceLT, reduceIte, reduceCtorEq])) | (with_reducible refine And.intro (fun hb => ?_) (fun hb => ?_)) | (exfalso; omega) | fail)
      · refine awp_loop (fun p : Nat × List Int => ⟨upd (upd (upd (upd (upd (upd (upd (upd (upd (upd bot 23 (.val (.int .i64 p.1))) 22 (.val (.int .i64 xs.length))) 21 (.sl 0 0 xs.length 1 none)) 5 (.val (.int .i64 (xs.getD i 0)))) 4 (.val (.int .i64 i))) 16 (.val (.int .i64 i))) 15 (.val (.int .i64 xs.length))) 14 (.sl 0 0 xs.length 1 none)) 3 (.sl 1 0 xs.length 1 none)) 0 (.sl 0 0 xs.length 1 none), upd (upd none' 0 (some ⟨false, .ints .i64 xs⟩)) 1 (some ⟨true, .ints .i64 p.2⟩), 2⟩) (fun p => p.1 ≤ xs.length ∧ p.2.length = xs.length ∧ p.2.getD i 0 = plC xs i p.1 ∧ 0 ≤ p.2.getD i 0 ∧ p.2.getD i 0 ≤ p.1 ∧ ∀ j, j ≠ i → p.2.getD j 0 = ys.getD j 0) (fun p => xs.length - p.1) (0, ys) ⟨by simp, hl, by rw [hz i (Nat.le_refl i)]; rfl, by rw [hz i (Nat.le_refl i)]; simp, by rw [hz i (Nat.le_refl i)]; simp, fun _ _ => rfl⟩ ?_ ?_
        · (apply Wk.same; (case' h2 => (focus ((repeat' (with_reducible first | exact HeapX.bot | (apply HeapX.skip; (case hx => (simp; done))) | apply HeapX.none | apply HeapX.upd)); all_goals (first | rfl | exact Nat.le_of_ble_eq_true rfl | (simp only [St.set, St.ev, upd, ren, renL, id, Nat.reduceEqDiff, reduceIte, ContLe]; done) | (first | (simp only [St.set, St.ev, upd, ren, renL, id, Nat.reduceEqDiff, reduceIte]; exact contLe_nil) | ((repeat' (first | exact contLe_nil | refine contLe_cons (.inr ⟨?_, rfl⟩) ?_)); all_goals (first | rfl | (simp only [St.set, St.ev, upd, ren, renL, id, Nat.reduceEqDiff, reduceIte]; done) | ((try simp only [St.set, St.ev, upd, ren, renL, id, Nat.reduceEqDiff, reduceIte]); first | (with_reducible exact av_int (by omega)) | (with_reducible exact av_sl (by first | omega | (simp; done) | (simp; omega)) (by first | omega | (simp; done) | (simp; omega)))) | (simp only [St.set, St.ev, upd, ren, renL, id, Nat.reduceEqDiff, reduceIte, Int.natCast_add, Int.natCast_one, Int.cast_ofNat_Int, Int.natCast_zero]; done) | (simp only [St.set, St.ev, upd, ren, renL, id, Nat.reduceEqDiff, reduceIte]) | skip); done)) | (simp only [St.set, St.ev, upd, ren, renL, id, Nat.reduceEqDiff, reduceIte, ContLe]) | skip)))); (case' h1 => (focus ((repeat' (with_reducible first | exact TmpLe.bot | refine TmpLe.upd ?_ rfl ?_)); all_goals (first | rfl | (simp only [St.set, St.ev, upd, ren, renL, id, Nat.reduceEqDiff, reduceIte]; done) | ((try simp only [St.set, St.ev, upd, ren, renL, id, Nat.reduceEqDiff, reduceIte]); first | (with_reducible exact av_int (by omega)) | (with_reducible exact av_sl (by first | omega | (simp; done) | (simp; omega)) (by first | omega | (simp; done) | (simp; omega)))) | (simp only [St.set, St.ev, upd, ren, renL, id, Nat.reduceEqDiff, reduceIte, Int.natCast_add, Int.natCast_one, Int.cast_ofNat_Int, Int.natCast_zero]; done) | (simp only [St.set, St.ev, upd, ren, renL, id, Nat.reduceEqDiff, reduceIte]) | skip)))); (case h3 => (focus (first | (simp only [id, List.map_cons, List.map_nil]; decide) | decide))); (case h4 => (intro o l h; first | (cases h; done) | (have hlt0 := m0_lt (by assumption) h; first | omega | (simp only; omega) | exact ⟨by (first | rfl | (simp only [id]; done) | (rw [if_neg (by omega)])), by first | omega | (simp only; omega)⟩))))
        · rintro ⟨k, zs⟩ ⟨hk, hzl, hn, hn0, hn8, ho⟩
          simp only at hk hzl hn hn0 hn8 ho
          have hli : i < zs.length := by omega
          repeat' (first | refine awp_seq_k fun K hK => ?_ | ((with_reducible refine hK _ ?_); clear hK K) | (clear hK K; (with_reducible refine hK _ ?_); clear hK K) | (clear hK K; clear hK K; (with_reducible refine hK _ ?_); clear hK K) | (clear hK K; clear hK K; clear hK K; (with_reducible refine hK _ ?_); clear hK K) | (clear hK K; clear hK K; clear hK K; clear hK K; (with_reducible refine hK _ ?_); clear hK K) | (clear hK K; clear hK K; clear hK K; clear hK K; clear hK K; (with_reducible refine hK _ ?_); clear hK K) | ((with_reducible refine aord_plain fun K hK => ?_); simp only [go_sem, Nat.reduceAdd, Nat.reduceMul, Nat.reduceEqDiff, Nat.reduceLT, reduceIte, reduceCtorEq]) | ((with_reducible apply aord_guard); (focus (simp only [St.ev, St.set, upd, Nat.reduceEqDiff, reduceIte, if_false, if_true]; exact rfl)); all_goals (intro hb; (try simp only [Bool.not_true, Bool.not_false] at hb); first | (cases hb; done) | ((try rw [hb]); (try simp only [Bool.not_eq_true', Bool.not_eq_false', Bool.and_eq_true, decide_eq_true_eq, decide_eq_false_iff_not, beq_iff_eq, bne_iff_ne, beq_eq_false_iff_ne, bne_eq_false_iff_eq, Int.not_lt, Int.not_le] at hb); (try (revert hb; with_reducible refine true_imp_iff.2 ?_)); first | (intro K hK; simp only [go_sem, Nat.reduceAdd, Nat.reduceMul, Nat.reduceEqDiff, Nat.reduceLT, reduceIte, reduceCtorEq]) | (simp only [St.ev, St.set, upd, Nat.reduceEqDiff, reduceIte, if_false, if_true]) | skip))) | ((with_reducible apply aord_skip); (focus (simp only [St.ev, St.set, upd, Nat.reduceEqDiff, reduceIte, if_false, if_true]; done)); (simp only [St.ev, St.set, upd, Nat.reduceEqDiff, reduceIte, if_false, if_true])) | refine awp_block ?_ | ((first | with_reducible refine aord_nil ?_ | refine awp_skip ?_ | refine awp_exit ?_ | refine awp_ret ?_); try simp only [thenA_normal, thenA_exit, thenA_goto, thenA_ret, blockA_normal, blockA_same, blockA_exit, blockA_goto, blockA_ret, Nat.reduceEqDiff, if_false, if_true, reduceIte]) | (refine awp_region tabOk rfl ?_; simp only [prep, pickO, List.map_cons, List.map_nil, List.getElem?_toArray, List.getElem?_cons_succ, List.getElem?_cons_zero, Option.bind_some, Option.map_some]) | ((with_reducible apply awp_cond); (focus (simp only [St.ev, St.set, upd, Nat.reduceEqDiff, reduceIte, if_false, if_true]; exact rfl)); all_goals (intro hb; first | (cases hb; done) | ((try rw [hb]); (try simp only [decide_eq_true_eq, decide_eq_false_iff_not, beq_iff_eq, bne_iff_ne, beq_eq_false_iff_ne, bne_eq_false_iff_eq, Int.not_lt, Int.not_le, Bool.not_eq_true', Bool.not_eq_false'] at hb)))) | ((with_reducible refine And.intro ?_ ?_); (focus omega)) | ((with_reducible refine And.intro ?_ ?_); (focus (exact rfl))) | ((with_reducible refine And.intro (?_ : enters Try.prog 31) ?_); (focus exact Try.call31); (refine callX_sat implValidKeys_sat ?_); simp only [go_sem, and_assoc, List.nil_append, List.append_nil, List.cons_append, Nat.reduceEqDiff, reduceIte, reduceCtorEq]) | (refine aStoreAll_ints (by simp only [St.ev, St.set, upd, Nat.reduceEqDiff, reduceIte, if_false, if_true]; exact rfl) ?_ ?_ ?_ ?_; (focus (first | rfl | omega | (simp; done) | (simp; omega) | (simp [szOf, tab]; done) | (simp [szOf, tab]; omega))); (focus (first | rfl | omega | (simp; done) | (simp; omega) | (simp [szOf, tab]; done) | (simp [szOf, tab]; omega))); (focus (first | rfl | omega | (simp; done) | (simp; omega) | (simp [szOf, tab]; done) | (simp [szOf, tab]; omega))); (try simp only [go_sem, Nat.reduceAdd, Nat.reduceMul, Nat.reduceEqDiff, Nat.reduceLT, reduceIte, reduceCtorEq])) | (refine aStoreAll_cells (by simp only [St.ev, St.set, upd, Nat.reduceEqDiff, reduceIte, if_false, if_true]; exact rfl) ?_ ?_ ?_ ?_ ?_; (focus (first | rfl | omega | (simp; done) | (simp; omega) | (simp [szOf, tab]; done) | (simp [szOf, tab]; omega))); (focus (first | rfl | omega | (simp; done) | (simp; omega) | (simp [szOf, tab]; done) | (simp [szOf, tab]; omega))); (focus (first | rfl | omega | (simp; done) | (simp; omega) | (simp [szOf, tab]; done) | (simp [szOf, tab]; omega))); (focus (first | rfl | (simp [AV.cell, Value.oneCell']; done))); (try simp only [go_sem, Nat.reduceAdd, Nat.reduceMul, Nat.reduceEqDiff, Nat.reduceLT, reduceIte, reduceCtorEq])) | (with_reducible refine And.intro (fun hb => ?_) (fun hb => ?_)) | (exfalso; omega) | fail)
          all_goals first
            | (refine ⟨(k + 1, zs.set i (zs.getD i 0 + 1)), ⟨by simp only; omega, by simp only [List.length_set]; exact hzl, by simp only; rw [getD_set_same hli, plC_up (by omega)]; omega, by simp only; rw [getD_set_same hli]; omega, by simp only; rw [getD_set_same hli]; omega, fun j hj' => by simp only; rw [getD_set_ne' (Ne.symm hj')]; exact ho j hj'⟩, by simp only; omega, ?_⟩
               (apply Wk.same; (case' h2 => (focus ((repeat' (with_reducible first | exact HeapX.bot | (apply HeapX.skip; (case hx => (simp; done))) | apply HeapX.none | apply HeapX.upd)); all_goals (first | rfl | exact Nat.le_of_ble_eq_true rfl | (simp only [St.set, St.ev, upd, ren, renL, id, Nat.reduceEqDiff, reduceIte, ContLe]; done) | (first | (simp only [St.set, St.ev, upd, ren, renL, id, Nat.reduceEqDiff, reduceIte]; exact contLe_nil) | ((repeat' (first | exact contLe_nil | refine contLe_cons (.inr ⟨?_, rfl⟩) ?_)); all_goals (first | rfl | (simp only [St.set, St.ev, upd, ren, renL, id, Nat.reduceEqDiff, reduceIte]; done) | ((try simp only [St.set, St.ev, upd, ren, renL, id, Nat.reduceEqDiff, reduceIte]); first | (with_reducible exact av_int (by omega)) | (with_reducible exact av_sl (by first | omega | (simp; done) | (simp; omega)) (by first | omega | (simp; done) | (simp; omega)))) | (simp only [St.set, St.ev, upd, ren, renL, id, Nat.reduceEqDiff, reduceIte, Int.natCast_add, Int.natCast_one, Int.cast_ofNat_Int, Int.natCast_zero]; done) | (simp only [St.set, St.ev, upd, ren, renL, id, Nat.reduceEqDiff, reduceIte]) | skip); done)) | (simp only [St.set, St.ev, upd, ren, renL, id, Nat.reduceEqDiff, reduceIte, ContLe]) | skip)))); (case' h1 => (focus ((repeat' (with_reducible first | exact TmpLe.bot | refine TmpLe.upd ?_ rfl ?_)); all_goals (first | rfl | (simp only [St.set, St.ev, upd, ren, renL, id, Nat.reduceEqDiff, reduceIte]; done) | ((try simp only [St.set, St.ev, upd, ren, renL, id, Nat.reduceEqDiff, reduceIte]); first | (with_reducible exact av_int (by omega)) | (with_reducible exact av_sl (by first | omega | (simp; done) | (simp; omega)) (by first | omega | (simp; done) | (simp; omega)))) | (simp only [St.set, St.ev, upd, ren, renL, id, Nat.reduceEqDiff, reduceIte, Int.natCast_add, Int.natCast_one, Int.cast_ofNat_Int, Int.natCast_zero]; done) | (simp only [St.set, St.ev, upd, ren, renL, id, Nat.reduceEqDiff, reduceIte]) | skip)))); (case h3 => (focus (first | (simp only [id, List.map_cons, List.map_nil]; decide) | decide))); (case h4 => (intro o l h; first | (cases h; done) | (have hlt0 := m0_lt (by assumption) h; first | omega | (simp only; omega) | exact ⟨by (first | rfl | (simp only [id]; done) | (rw [if_neg (by omega)])), by first | omega | (simp only; omega)⟩)))))
            | (refine ⟨(k + 1, zs), ⟨by simp only; omega, hzl, by simp only; rw [plC_stay (by omega)]; omega, hn0, by simp only; omega, ho⟩, by simp only; omega, ?_⟩
               (apply Wk.same; (case' h2 => (focus ((repeat' (with_reducible first | exact HeapX.bot | (apply HeapX.skip; (case hx => (simp; done))) | apply HeapX.none | apply HeapX.upd)); all_goals (first | rfl | exact Nat.le_of_ble_eq_true rfl | (simp only [St.set, St.ev, upd, ren, renL, id, Nat.reduceEqDiff, reduceIte, ContLe]; done) | (first | (simp only [St.set, St.ev, upd, ren, renL, id, Nat.reduceEqDiff, reduceIte]; exact contLe_nil) | ((repeat' (first | exact contLe_nil | refine contLe_cons (.inr ⟨?_, rfl⟩) ?_)); all_goals (first | rfl | (simp only [St.set, St.ev, upd, ren, renL, id, Nat.reduceEqDiff, reduceIte]; done) | ((try simp only [St.set, St.ev, upd, ren, renL, id, Nat.reduceEqDiff, reduceIte]); first | (with_reducible exact av_int (by omega)) | (with_reducible exact av_sl (by first | omega | (simp; done) | (simp; omega)) (by first | omega | (simp; done) | (simp; omega)))) | (simp only [St.set, St.ev, upd, ren, renL, id, Nat.reduceEqDiff, reduceIte, Int.natCast_add, Int.natCast_one, Int.cast_ofNat_Int, Int.natCast_zero]; done) | (simp only [St.set, St.ev, upd, ren, renL, id, Nat.reduceEqDiff, reduceIte]) | skip); done)) | (simp only [St.set, St.ev, upd, ren, renL, id, Nat.reduceEqDiff, reduceIte, ContLe]) | skip)))); (case' h1 => (focus ((repeat' (with_reducible first | exact TmpLe.bot | refine TmpLe.upd ?_ rfl ?_)); all_goals (first | rfl | (simp only [St.set, St.ev, upd, ren, renL, id, Nat.reduceEqDiff, reduceIte]; done) | ((try simp only [St.set, St.ev, upd, ren, renL, id, Nat.reduceEqDiff, reduceIte]); first | (with_reducible exact av_int (by omega)) | (with_reducible exact av_sl (by first | omega | (simp; done) | (simp; omega)) (by first | omega | (simp; done) | (simp; omega)))) | (simp only [St.set, St.ev, upd, ren, renL, id, Nat.reduceEqDiff, reduceIte, Int.natCast_add, Int.natCast_one, Int.cast_ofNat_Int, Int.natCast_zero]; done) | (simp only [St.set, St.ev, upd, ren, renL, id, Nat.reduceEqDiff, reduceIte]) | skip)))); (case h3 => (focus (first | (simp only [id, List.map_cons, List.map_nil]; decide) | decide))); (case h4 => (intro o l h; first | (cases h; done) | (have hlt0 := m0_lt (by assumption) h; first | omega | (simp only; omega) | exact ⟨by (first | rfl | (simp only [id]; done) | (rw [if_neg (by omega)])), by first | omega | (simp only; omega)⟩)))))
            | skip
          refine ⟨(i + 1, zs), ⟨by simp only; omega, hzl, fun j h => ?_, fun j h => ?_⟩, by simp only; omega, ?_⟩
          · simp only at h ⊢
            rcases Nat.lt_or_ge j i with h1 | h1
            · rw [ho j (by omega)]; exact hj j h1
            · rw [show j = i by omega, hn, show k = xs.length by omega]
          · simp only at h ⊢
            rw [ho j (by omega)]; exact hz j (by omega)
          · (apply Wk.same; (case' h2 => (focus ((repeat' (with_reducible first | exact HeapX.bot | (apply HeapX.skip; (case hx => (simp; done))) | apply HeapX.none | apply HeapX.upd)); all_goals (first | rfl | exact Nat.le_of_ble_eq_true rfl | (simp only [St.set, St.ev, upd, ren, renL, id, Nat.reduceEqDiff, reduceIte, ContLe]; done) | (first | (simp only [St.set, St.ev, upd, ren, renL, id, Nat.reduceEqDiff, reduceIte]; exact contLe_nil) | ((repeat' (first | exact contLe_nil | refine contLe_cons (.inr ⟨?_, rfl⟩) ?_)); all_goals (first | rfl | (simp only [St.set, St.ev, upd, ren, renL, id, Nat.reduceEqDiff, reduceIte]; done) | ((try simp only [St.set, St.ev, upd, ren, renL, id, Nat.reduceEqDiff, reduceIte]); first | (with_reducible exact av_int (by omega)) | (with_reducible exact av_sl (by first | omega | (simp; done) | (simp; omega)) (by first | omega | (simp; done) | (simp; omega)))) | (simp only [St.set, St.ev, upd, ren, renL, id, Nat.reduceEqDiff, reduceIte, Int.natCast_add, Int.natCast_one, Int.cast_ofNat_Int, Int.natCast_zero]; done) | (simp only [St.set, St.ev, upd, ren, renL, id, Nat.reduceEqDiff, reduceIte]) | skip); done)) | (simp only [St.set, St.ev, upd, ren, renL, id, Nat.reduceEqDiff, reduceIte, ContLe]) | skip)))); (case' h1 => (focus ((repeat' (with_reducible first | exact TmpLe.bot | refine TmpLe.upd ?_ rfl ?_)); all_goals (first | rfl | (simp only [St.set, St.ev, upd, ren, renL, id, Nat.reduceEqDiff, reduceIte]; done) | ((try simp only [St.set, St.ev, upd, ren, renL, id, Nat.reduceEqDiff, reduceIte]); first | (with_reducible exact av_int (by omega)) | (with_reducible exact av_sl (by first | omega | (simp; done) | (simp; omega)) (by first | omega | (simp; done) | (simp; omega)))) | (simp only [St.set, St.ev, upd, ren, renL, id, Nat.reduceEqDiff, reduceIte, Int.natCast_add, Int.natCast_one, Int.cast_ofNat_Int, Int.natCast_zero]; done) | (simp only [St.set, St.ev, upd, ren, renL, id, Nat.reduceEqDiff, reduceIte]) | skip)))); (case h3 => (focus (first | (simp only [id, List.map_cons, List.map_nil]; decide) | decide))); (case h4 => (intro o l h; first | (cases h; done) | (have hlt0 := m0_lt (by assumption) h; first | omega | (simp only; omega) | exact ⟨by (first | rfl | (simp only [id]; done) | (rw [if_neg (by omega)])), by first | omega | (simp only; omega)⟩))))
      · simp only [St.set, St.ev, doneQ, doneH, ressK, resK, wrapR, AV.ids, AV.idsL, retK, retsK, upd, Nat.reduceEqDiff, reduceIte, if_false, if_true, List.nodup_nil, List.nodup_cons, List.not_mem_nil, not_false_eq_true, true_and, and_true, exists_eq_left', Option.some.injEq, rLoad, cellOf, tab, Ty.isAgg, Ty.one, Bool.false_eq_true]
        have : ys = placesL xs := ext_getD (by rw [placesL_len]; omega) fun j h => by rw [hj j (by omega), placesL_get (by omega)]
        subst this
        simp only [Cont.closed, Cont.len, true_and]
        first | exact hQ | exact ⟨hl.symm, hQ⟩

/-- How many of the first i numbers are not their own indices. -/
def misN (P : List Int) : Nat → Int
  | 0 => 0
  | i + 1 => misN P i + (if P.getD i 0 = i then 0 else 1)


/-- How far the first i numbers are from their indices at most. -/
def farN (P : List Int) : Nat → Int
  | 0 => 0
  | i + 1 => max (max (farN P i) (P.getD i 0 - i)) (i - P.getD i 0)
theorem placesL_in {xs : List Int} {i : Nat} (h : i < xs.length) : 0 ≤ (placesL xs).getD i 0 ∧ (placesL xs).getD i 0 ≤ xs.length := by
  rw [placesL_get h]; exact ⟨plC_nonneg _ _ _, plC_le _ _ _⟩


/-- The number ahead of index i, -1 ahead of the first one. -/
def prevAt (P : List Int) (i : Nat) : Int := if i = 0 then -1 else P.getD (i - 1) 0
/-- How many of the first i numbers are not 1 more than the one ahead of them. -/
def brkN (P : List Int) : Nat → Int
  | 0 => 0
  | i + 1 => brkN P i + (if P.getD i 0 = prevAt P i + 1 then 0 else 1)
theorem brk_up {P : List Int} {i : Nat} (h : P.getD i 0 ≠ prevAt P i + 1) : brkN P (i + 1) = brkN P i + 1 := by rw [brkN, if_neg h]
theorem brk_stay {P : List Int} {i : Nat} (h : P.getD i 0 = prevAt P i + 1) : brkN P (i + 1) = brkN P i := by rw [brkN, if_pos h]; omega
def brkL (xs : List Int) : List Int := placesL xs ++ [(xs.length : Int)]
theorem brkL_len (xs : List Int) : (brkL xs).length = xs.length + 1 := by simp [brkL, placesL_len]
theorem brkL_lo {xs : List Int} {i : Nat} (h : i < xs.length) : (brkL xs).getD i 0 = (placesL xs).getD i 0 := getD_app_lo (by rw [placesL_len]; exact h)
theorem brkL_at {xs : List Int} {i : Nat} (h : i = xs.length) : (brkL xs).getD i 0 = xs.length := getD_app_at (by rw [placesL_len]; exact h)
theorem brkL_in {xs : List Int} {i : Nat} (h : i < xs.length + 1) : 0 ≤ (brkL xs).getD i 0 ∧ (brkL xs).getD i 0 ≤ xs.length := by
  rcases Nat.lt_or_ge i xs.length with h1 | h1
  · rw [brkL_lo h1]; exact placesL_in h1
  · rw [brkL_at (by omega)]; omega
theorem prev_in {xs : List Int} {i : Nat} (h : i ≤ xs.length + 1) : -1 ≤ prevAt (brkL xs) i ∧ prevAt (brkL xs) i ≤ xs.length := by
  unfold prevAt
  split
  · omega
  · have := brkL_in (xs := xs) (i := i - 1) (by omega); omega
theorem prev_pos {P : List Int} {i : Nat} (h : 0 < i) : prevAt P i = P.getD (i - 1) 0 := by unfold prevAt; rw [if_neg (by omega)]
theorem prev_zero {P : List Int} : prevAt P 0 = -1 := rfl


/-- How many of the first i numbers do not follow the one ahead of them. -/
def brkR (r : Int → Int → Bool) (P : List Int) : Nat → Int
  | 0 => 0
  | i + 1 => brkR r P i + (if r (prevAt P i) (P.getD i 0) = true then 0 else 1)
theorem brkR_up {r : Int → Int → Bool} {P : List Int} {i : Nat} (h : r (prevAt P i) (P.getD i 0) = false) : brkR r P (i + 1) = brkR r P i + 1 := by rw [brkR, h]; rfl
theorem brkR_stay {r : Int → Int → Bool} {P : List Int} {i : Nat} (h : r (prevAt P i) (P.getD i 0) = true) : brkR r P (i + 1) = brkR r P i := by rw [brkR, if_pos h]; omega
theorem brkR_in (r : Int → Int → Bool) (P : List Int) : ∀ k, 0 ≤ brkR r P k ∧ brkR r P k ≤ k
  | 0 => by simp [brkR]
  | k + 1 => by have := brkR_in r P k; rw [brkR]; split <;> omega
def folB (a b : Int) : Bool := b == a + 1
theorem brkR_fol (P : List Int) : ∀ k, brkR folB P k = brkN P k
  | 0 => rfl
  | k + 1 => by
    rw [brkR, brkN, brkR_fol P k]
    unfold folB
    by_cases h : P.getD k 0 = prevAt P k + 1
    · rw [if_pos h, if_pos (by simpa using h)]
    · rw [if_neg h, if_neg (by simpa using h)]
/-- Numbers with their number behind them. -/
def endL (P : List Int) : List Int := P ++ [(P.length : Int)]
theorem endL_len (P : List Int) : (endL P).length = P.length + 1 := by simp [endL]
theorem endL_in {P : List Int} (h8 : P.length ≤ 8) (h : ∀ j, j < P.length → -1 ≤ P.getD j 0 ∧ P.getD j 0 ≤ 1000) (j : Nat) : -1 ≤ (endL P).getD j 0 ∧ (endL P).getD j 0 ≤ 1000 := by
  rcases Nat.lt_trichotomy j P.length with h1 | h1 | h1
  · unfold endL; rw [getD_app_lo h1]; exact h j h1
  · unfold endL; rw [getD_app_at h1]; omega
  · rw [List.getD_eq_getElem?_getD, List.getElem?_eq_none (by rw [endL_len]; omega)]; simp
theorem endPrev_in {P : List Int} (h8 : P.length ≤ 8) (h : ∀ j, j < P.length → -1 ≤ P.getD j 0 ∧ P.getD j 0 ≤ 1000) (i : Nat) : -1 ≤ prevAt (endL P) i ∧ prevAt (endL P) i ≤ 1000 := by
  unfold prevAt
  split
  · omega
  · exact endL_in h8 h _
theorem endL_places (xs : List Int) : endL (placesL xs) = brkL xs := by unfold endL brkL; rw [placesL_len]


theorem slClone_sat : Sat Try.prog 78 (fun ds Q => ∃ (xs : List Int), ds = [.row (.ints .i64 (xs))] ∧ (xs.length ≤ 1000000) ∧ Q (.row (.ints .i64 (xs)))) := by
  refine sat_intro tabOk Try.func78 rfl 8 rfl [.tmp 2] rfl ?_
  rintro ds Q W ⟨xs, rfl, hl, hQ⟩
  refine ⟨Nat.le_of_ble_eq_true rfl, ?_⟩
  simp only [initS, initT, mat.matL, mat, Cont.len]
  repeat' (first | refine awp_seq_k fun K hK => ?_ | ((with_reducible refine hK _ ?_); clear hK K) | (clear hK K; (with_reducible refine hK _ ?_); clear hK K) | (clear hK K; clear hK K; (with_reducible refine hK _ ?_); clear hK K) | (clear hK K; clear hK K; clear hK K; (with_reducible refine hK _ ?_); clear hK K) | (clear hK K; clear hK K; clear hK K; clear hK K; (with_reducible refine hK _ ?_); clear hK K) | (clear hK K; clear hK K; clear hK K; clear hK K; clear hK K; (with_reducible refine hK _ ?_); clear hK K) | ((with_reducible refine aord_plain fun K hK => ?_); simp only [go_sem, Nat.reduceAdd, Nat.reduceMul, Nat.reduceEqDiff, Nat.reduceLT, reduceIte, reduceCtorEq]) | refine awp_block ?_ | ((first | with_reducible refine aord_nil ?_ | refine awp_skip ?_ | refine awp_exit ?_ | refine awp_ret ?_); try simp only [thenA_normal, thenA_exit, thenA_goto, thenA_ret, blockA_normal, blockA_same, blockA_exit, blockA_goto, blockA_ret, Nat.reduceEqDiff, if_false, if_true, reduceIte]) | (refine awp_region tabOk rfl ?_; simp only [prep, pickO, List.map_cons, List.map_nil, List.getElem?_toArray, List.getElem?_cons_succ, List.getElem?_cons_zero, Option.bind_some, Option.map_some]) | ((with_reducible apply awp_cond); (focus (simp only [St.ev, St.set, upd, Nat.reduceEqDiff, reduceIte, if_false, if_true]; exact rfl)); all_goals (intro hb; first | (cases hb; done) | ((try rw [hb]); (try simp only [decide_eq_true_eq, decide_eq_false_iff_not, beq_iff_eq, bne_iff_ne, beq_eq_false_iff_ne, bne_eq_false_iff_eq, Int.not_lt, Int.not_le, Bool.not_eq_true', Bool.not_eq_false'] at hb)))) | ((with_reducible refine And.intro ?_ ?_); (focus omega)) | ((with_reducible refine And.intro ?_ ?_); (focus (exact rfl))) | (refine aAppend_ints rfl rfl rfl rfl (Nat.le_of_ble_eq_true rfl) (by simp only [St.ev, St.set, upd, Nat.reduceEqDiff, reduceIte, if_false, if_true]; exact rfl) (by simp only [St.ev, St.set, upd, Nat.reduceEqDiff, reduceIte, if_false, if_true]; exact rfl) rfl (by decide) ?_ ?_ ?_ ?_; (focus (first | rfl | omega | (simp; done) | (simp; omega) | (simp [szOf, tab]; done) | (simp [szOf, tab]; omega))); (focus (first | rfl | omega | (simp; done) | (simp; omega) | (simp [szOf, tab]; done) | (simp [szOf, tab]; omega))); (focus (first | rfl | omega | (simp; done) | (simp; omega) | (simp [szOf, tab]; done) | (simp [szOf, tab]; omega))); (try simp only [go_sem, Nat.reduceAdd, Nat.reduceMul, Nat.reduceEqDiff, Nat.reduceLT, reduceIte, reduceCtorEq])) | (refine aAppend_none rfl rfl rfl rfl (Nat.le_of_ble_eq_true rfl) (by simp only [St.ev, St.set, upd, Nat.reduceEqDiff, reduceIte, if_false, if_true]; exact rfl) ?_ ?_ ?_; (focus (first | rfl | omega | (simp; done) | (simp; omega) | (simp [szOf, tab]; done) | (simp [szOf, tab]; omega))); (focus (first | rfl | omega | (simp; done) | (simp; omega) | (simp [szOf, tab]; done) | (simp [szOf, tab]; omega))); (try simp only [go_sem, Nat.reduceAdd, Nat.reduceMul, Nat.reduceEqDiff, Nat.reduceLT, reduceIte, reduceCtorEq])) | (with_reducible refine And.intro (fun hb => ?_) (fun hb => ?_)) | (exfalso; omega) | fail)
  refine ⟨⟨_, rfl⟩, fun b hbn => ?_⟩
  refine hK _ ?_
  clear hK K
  repeat' (first | refine awp_seq_k fun K hK => ?_ | ((with_reducible refine hK _ ?_); clear hK K) | (clear hK K; (with_reducible refine hK _ ?_); clear hK K) | (clear hK K; clear hK K; (with_reducible refine hK _ ?_); clear hK K) | (clear hK K; clear hK K; clear hK K; (with_reducible refine hK _ ?_); clear hK K) | (clear hK K; clear hK K; clear hK K; clear hK K; (with_reducible refine hK _ ?_); clear hK K) | (clear hK K; clear hK K; clear hK K; clear hK K; clear hK K; (with_reducible refine hK _ ?_); clear hK K) | ((with_reducible refine aord_plain fun K hK => ?_); simp only [go_sem, Nat.reduceAdd, Nat.reduceMul, Nat.reduceEqDiff, Nat.reduceLT, reduceIte, reduceCtorEq]) | refine awp_block ?_ | ((first | with_reducible refine aord_nil ?_ | refine awp_skip ?_ | refine awp_exit ?_ | refine awp_ret ?_); try simp only [thenA_normal, thenA_exit, thenA_goto, thenA_ret, blockA_normal, blockA_same, blockA_exit, blockA_goto, blockA_ret, Nat.reduceEqDiff, if_false, if_true, reduceIte]) | (refine awp_region tabOk rfl ?_; simp only [prep, pickO, List.map_cons, List.map_nil, List.getElem?_toArray, List.getElem?_cons_succ, List.getElem?_cons_zero, Option.bind_some, Option.map_some]) | ((with_reducible apply awp_cond); (focus (simp only [St.ev, St.set, upd, Nat.reduceEqDiff, reduceIte, if_false, if_true]; exact rfl)); all_goals (intro hb; first | (cases hb; done) | ((try rw [hb]); (try simp only [decide_eq_true_eq, decide_eq_false_iff_not, beq_iff_eq, bne_iff_ne, beq_eq_false_iff_ne, bne_eq_false_iff_eq, Int.not_lt, Int.not_le, Bool.not_eq_true', Bool.not_eq_false'] at hb)))) | ((with_reducible refine And.intro ?_ ?_); (focus omega)) | ((with_reducible refine And.intro ?_ ?_); (focus (exact rfl))) | (refine aAppend_ints rfl rfl rfl rfl (Nat.le_of_ble_eq_true rfl) (by simp only [St.ev, St.set, upd, Nat.reduceEqDiff, reduceIte, if_false, if_true]; exact rfl) (by simp only [St.ev, St.set, upd, Nat.reduceEqDiff, reduceIte, if_false, if_true]; exact rfl) rfl (by decide) ?_ ?_ ?_ ?_; (focus (first | rfl | omega | (simp; done) | (simp; omega) | (simp [szOf, tab]; done) | (simp [szOf, tab]; omega))); (focus (first | rfl | omega | (simp; done) | (simp; omega) | (simp [szOf, tab]; done) | (simp [szOf, tab]; omega))); (focus (first | rfl | omega | (simp; done) | (simp; omega) | (simp [szOf, tab]; done) | (simp [szOf, tab]; omega))); (try simp only [go_sem, Nat.reduceAdd, Nat.reduceMul, Nat.reduceEqDiff, Nat.reduceLT, reduceIte, reduceCtorEq])) | (refine aAppend_none rfl rfl rfl rfl (Nat.le_of_ble_eq_true rfl) (by simp only [St.ev, St.set, upd, Nat.reduceEqDiff, reduceIte, if_false, if_true]; exact rfl) ?_ ?_ ?_; (focus (first | rfl | omega | (simp; done) | (simp; omega) | (simp [szOf, tab]; done) | (simp [szOf, tab]; omega))); (focus (first | rfl | omega | (simp; done) | (simp; omega) | (simp [szOf, tab]; done) | (simp [szOf, tab]; omega))); (try simp only [go_sem, Nat.reduceAdd, Nat.reduceMul, Nat.reduceEqDiff, Nat.reduceLT, reduceIte, reduceCtorEq])) | (with_reducible refine And.intro (fun hb => ?_) (fun hb => ?_)) | (exfalso; omega) | fail)
  · simp only [St.set, St.ev, doneQ, doneH, ressK, resK, wrapR, AV.ids, AV.idsL, retK, retsK, upd, Nat.reduceEqDiff, reduceIte, if_false, if_true, List.nodup_nil, List.nodup_cons, List.not_mem_nil, not_false_eq_true, true_and, and_true, exists_eq_left', Option.some.injEq, rLoad, cellOf, tab, Ty.isAgg, Ty.one, Bool.false_eq_true]
    have : xs.length = 0 := by
      rcases Nat.eq_zero_or_pos xs.length with h | h
      · exact h
      · have := hbn h; simp_all
    have : xs = [] := List.eq_nil_of_length_eq_zero this
    subst this
    exact ⟨.ints .i64 [], rfl, rfl, rfl, hQ⟩
  · simp only [St.set, St.ev, doneQ, doneH, ressK, resK, wrapR, AV.ids, AV.idsL, retK, retsK, upd, Nat.reduceEqDiff, reduceIte, if_false, if_true, List.nodup_nil, List.nodup_cons, List.not_mem_nil, not_false_eq_true, true_and, and_true, exists_eq_left', Option.some.injEq, rLoad, cellOf, tab, Ty.isAgg, Ty.one, Bool.false_eq_true]
    simp only [Cont.closed, Cont.len, true_and]
    exact hQ


theorem breaksIn_sat (r : Int → Int → Bool) (g : FuncId) (hen : enters Try.prog g) (hg : Sat Try.prog g (fun ds Q => ∃ a b, ds = [.val (.int .i64 a), .val (.int .i64 b)] ∧ (-1000 ≤ a ∧ a ≤ 1000) ∧ Q (.val (.bool (r a b))))) : Sat Try.prog 60 (fun ds Q => ∃ P, ds = [.row (.ints .i64 P), .val (.func (.func g) #[] #[])] ∧ P.length ≤ 8 ∧ (∀ j, j < P.length → -1 ≤ P.getD j 0 ∧ P.getD j 0 ≤ 1000) ∧ Q (.val (.int .i64 (brkR r (endL P) (P.length + 1))))) := by
  refine sat_intro tabOk Try.func60 rfl 30 rfl [.tmp 4] rfl ?_
  rintro ds Q W ⟨P, rfl, hlen, hin, hQ⟩
  refine ⟨Nat.le_of_ble_eq_true rfl, ?_⟩
  simp only [initS, initT, mat.matL, mat, Cont.len]
  have hel := endL_len P
  repeat' (first | refine awp_seq_k fun K hK => ?_ | ((with_reducible refine hK _ ?_); clear hK K) | (clear hK K; (with_reducible refine hK _ ?_); clear hK K) | (clear hK K; clear hK K; (with_reducible refine hK _ ?_); clear hK K) | (clear hK K; clear hK K; clear hK K; (with_reducible refine hK _ ?_); clear hK K) | (clear hK K; clear hK K; clear hK K; clear hK K; (with_reducible refine hK _ ?_); clear hK K) | (clear hK K; clear hK K; clear hK K; clear hK K; clear hK K; (with_reducible refine hK _ ?_); clear hK K) | ((with_reducible refine aord_plain fun K hK => ?_); simp only [go_sem, Nat.reduceAdd, Nat.reduceMul, Nat.reduceEqDiff, Nat.reduceLT, reduceIte, reduceCtorEq]) | refine awp_block ?_ | ((first | with_reducible refine aord_nil ?_ | refine awp_skip ?_ | refine awp_exit ?_ | refine awp_ret ?_); try simp only [thenA_normal, thenA_exit, thenA_goto, thenA_ret, blockA_normal, blockA_same, blockA_exit, blockA_goto, blockA_ret, Nat.reduceEqDiff, if_false, if_true, reduceIte]) | (refine awp_region tabOk rfl ?_; simp only [prep, pickO, List.map_cons, List.map_nil, List.getElem?_toArray, List.getElem?_cons_succ, List.getElem?_cons_zero, Option.bind_some, Option.map_some]) | ((with_reducible apply awp_cond); (focus (simp only [St.ev, St.set, upd, Nat.reduceEqDiff, reduceIte, if_false, if_true]; exact rfl)); all_goals (intro hb; first | (cases hb; done) | ((try rw [hb]); (try simp only [decide_eq_true_eq, decide_eq_false_iff_not, beq_iff_eq, bne_iff_ne, beq_eq_false_iff_ne, bne_eq_false_iff_eq, Int.not_lt, Int.not_le, Bool.not_eq_true', Bool.not_eq_false'] at hb)))) | ((with_reducible refine And.intro ?_ ?_); (focus omega)) | ((with_reducible refine And.intro ?_ ?_); (focus (exact rfl))) | ((with_reducible refine And.intro (?_ : enters Try.prog 78) ?_); (focus exact Try.call78); (refine callX_sat slClone_sat ?_); simp only [go_sem, and_assoc, List.nil_append, List.append_nil, List.cons_append, Nat.reduceEqDiff, reduceIte, reduceCtorEq]) | (refine ⟨hen, callX_sat hg ?_⟩; simp only [go_sem, and_assoc, List.nil_append, List.append_nil, List.cons_append, Nat.reduceEqDiff, reduceIte, reduceCtorEq]) | (refine callX_sat hg ?_; simp only [go_sem, and_assoc, List.nil_append, List.append_nil, List.cons_append, Nat.reduceEqDiff, reduceIte, reduceCtorEq]) | (refine aAppend_ints rfl rfl rfl rfl (Nat.le_of_ble_eq_true rfl) (by simp only [St.ev, St.set, upd, Nat.reduceEqDiff, reduceIte, if_false, if_true]; exact rfl) (by simp only [St.ev, St.set, upd, Nat.reduceEqDiff, reduceIte, if_false, if_true]; exact rfl) rfl (by decide) ?_ ?_ ?_ ?_; (focus (first | rfl | omega | (simp; done) | (simp; omega) | (simp [szOf, tab]; done) | (simp [szOf, tab]; omega))); (focus (first | rfl | omega | (simp; done) | (simp; omega) | (simp [szOf, tab]; done) | (simp [szOf, tab]; omega))); (focus (first | rfl | omega | (simp; done) | (simp; omega) | (simp [szOf, tab]; done) | (simp [szOf, tab]; omega))); (try simp only [go_sem, Nat.reduceAdd, Nat.reduceMul, Nat.reduceEqDiff, Nat.reduceLT, reduceIte, reduceCtorEq])) | (refine aAppend_none rfl rfl rfl rfl (Nat.le_of_ble_eq_true rfl) (by simp only [St.ev, St.set, upd, Nat.reduceEqDiff, reduceIte, if_false, if_true]; exact rfl) ?_ ?_ ?_; (focus (first | rfl | omega | (simp; done) | (simp; omega) | (simp [szOf, tab]; done) | (simp [szOf, tab]; omega))); (focus (first | rfl | omega | (simp; done) | (simp; omega) | (simp [szOf, tab]; done) | (simp [szOf, tab]; omega))); (try simp only [go_sem, Nat.reduceAdd, Nat.reduceMul, Nat.reduceEqDiff, Nat.reduceLT, reduceIte, reduceCtorEq])) | (with_reducible refine And.intro (fun hb => ?_) (fun hb => ?_)) | (exfalso; omega) | fail)
  refine awp_loopE (α := (Nat) × (Int)) (fun s p => ⟨(upd (upd (upd (upd (upd (upd bot 1 (s.tmps 1)) 5 (.val (.int .i64 ((p.2))))) 6 (.val (.int .i64 ((prevAt (endL P) (p.1)))))) 14 (s.tmps 14)) 15 (s.tmps 15)) 16 (.val (.int .i64 ((p.1))))), s.heap, s.next⟩) _ (fun p => by simp only [St.ev, St.set, upd, Nat.reduceEqDiff, reduceIte, if_false, if_true]; exact rfl) (fun p => ((p.1) ≤ P.length + 1) ∧ ((p.2) = brkR r (endL P) (p.1))) (fun p => P.length + 1 - (p.1)) (0, 0) ?_ ?_ ?_
  · (try simp only); (refine ⟨?_, ?_⟩ <;> (first | omega | (simp only; omega) | rfl | (simp; done) | skip))
  · (apply Wk.same; (case' h2 => (focus ((repeat' (with_reducible first | exact HeapX.bot | (apply HeapX.skip; (case hx => (simp; done))) | apply HeapX.none | apply HeapX.upd)); all_goals (first | rfl | exact Nat.le_of_ble_eq_true rfl | (simp only [St.set, St.ev, upd, ren, renL, id, Nat.reduceEqDiff, reduceIte, ContLe]; done) | (first | (simp only [St.set, St.ev, upd, ren, renL, id, Nat.reduceEqDiff, reduceIte]; exact contLe_nil) | ((repeat' (first | exact contLe_nil | refine contLe_cons (.inr ⟨?_, rfl⟩) ?_)); all_goals (first | rfl | (simp only [St.set, St.ev, upd, ren, renL, id, Nat.reduceEqDiff, reduceIte]; done) | ((try simp only [St.set, St.ev, upd, ren, renL, id, Nat.reduceEqDiff, reduceIte]); first | (with_reducible exact av_int (by omega)) | (with_reducible exact av_sl (by first | omega | (simp; done) | (simp; omega)) (by first | omega | (simp; done) | (simp; omega)))) | (simp only [St.set, St.ev, upd, ren, renL, id, Nat.reduceEqDiff, reduceIte, Int.natCast_add, Int.natCast_one, Int.cast_ofNat_Int, Int.natCast_zero]; done) | (simp only [St.set, St.ev, upd, ren, renL, id, Nat.reduceEqDiff, reduceIte]) | skip); done)) | (simp only [St.set, St.ev, upd, ren, renL, id, Nat.reduceEqDiff, reduceIte, ContLe]) | skip)))); (case' h1 => (focus ((repeat' (with_reducible first | exact TmpLe.bot | refine TmpLe.upd ?_ rfl ?_)); all_goals (first | rfl | (simp only [St.set, St.ev, upd, ren, renL, id, Nat.reduceEqDiff, reduceIte]; done) | ((try simp only [St.set, St.ev, upd, ren, renL, id, Nat.reduceEqDiff, reduceIte]); first | (with_reducible exact av_int (by omega)) | (with_reducible exact av_sl (by first | omega | (simp; done) | (simp; omega)) (by first | omega | (simp; done) | (simp; omega)))) | (simp only [St.set, St.ev, upd, ren, renL, id, Nat.reduceEqDiff, reduceIte, Int.natCast_add, Int.natCast_one, Int.cast_ofNat_Int, Int.natCast_zero]; done) | (simp only [St.set, St.ev, upd, ren, renL, id, Nat.reduceEqDiff, reduceIte]) | skip)))); (case h3 => (focus (first | (simp only [id, List.map_cons, List.map_nil]; decide) | decide))); (case h4 => (intro o l h; first | (cases h; done) | (have hlt0 := m0_lt (by assumption) h; first | omega | (simp only; omega) | exact ⟨by (first | rfl | (simp only [id]; done) | (rw [if_neg (by omega)])), by first | omega | (simp only; omega)⟩))))
  rintro ⟨i, k⟩ ⟨hi, hn⟩
  try simp only at hi hn
  have hbi := brkR_in r (endL P) i
  have hei := endL_in hlen hin i
  have hpi := endPrev_in hlen hin i
  have hps : prevAt (endL P) (i + 1) = (endL P).getD i 0 := prev_pos (Nat.succ_pos i)
  have hpp : P ++ [(P.length : Int)] = endL P := rfl

  simp only [hpp]
  repeat' (first | refine awp_seq_k fun K hK => ?_ | ((with_reducible refine hK _ ?_); clear hK K) | (clear hK K; (with_reducible refine hK _ ?_); clear hK K) | (clear hK K; clear hK K; (with_reducible refine hK _ ?_); clear hK K) | (clear hK K; clear hK K; clear hK K; (with_reducible refine hK _ ?_); clear hK K) | (clear hK K; clear hK K; clear hK K; clear hK K; (with_reducible refine hK _ ?_); clear hK K) | (clear hK K; clear hK K; clear hK K; clear hK K; clear hK K; (with_reducible refine hK _ ?_); clear hK K) | ((with_reducible refine aord_plain fun K hK => ?_); simp only [go_sem, Nat.reduceAdd, Nat.reduceMul, Nat.reduceEqDiff, Nat.reduceLT, reduceIte, reduceCtorEq, hpp, hps]) | refine awp_block ?_ | ((first | with_reducible refine aord_nil ?_ | refine awp_skip ?_ | refine awp_exit ?_ | refine awp_ret ?_); try simp only [thenA_normal, thenA_exit, thenA_goto, thenA_ret, blockA_normal, blockA_same, blockA_exit, blockA_goto, blockA_ret, Nat.reduceEqDiff, if_false, if_true, reduceIte]) | (refine awp_region tabOk rfl ?_; simp only [prep, pickO, List.map_cons, List.map_nil, List.getElem?_toArray, List.getElem?_cons_succ, List.getElem?_cons_zero, Option.bind_some, Option.map_some]) | ((with_reducible apply awp_cond); (focus (simp only [St.ev, St.set, upd, Nat.reduceEqDiff, reduceIte, if_false, if_true]; exact rfl)); all_goals (intro hb; first | (cases hb; done) | ((try rw [hb]); (try simp only [decide_eq_true_eq, decide_eq_false_iff_not, beq_iff_eq, bne_iff_ne, beq_eq_false_iff_ne, bne_eq_false_iff_eq, Int.not_lt, Int.not_le, Bool.not_eq_true', Bool.not_eq_false'] at hb)))) | ((with_reducible refine And.intro ?_ ?_); (focus omega)) | ((with_reducible refine And.intro ?_ ?_); (focus (exact rfl))) | ((with_reducible refine And.intro (?_ : enters Try.prog 78) ?_); (focus exact Try.call78); (refine callX_sat slClone_sat ?_); simp only [go_sem, and_assoc, List.nil_append, List.append_nil, List.cons_append, Nat.reduceEqDiff, reduceIte, reduceCtorEq, hpp, hps]) | (refine ⟨hen, callX_sat hg ?_⟩; simp only [go_sem, and_assoc, List.nil_append, List.append_nil, List.cons_append, Nat.reduceEqDiff, reduceIte, reduceCtorEq, hpp, hps]) | (refine callX_sat hg ?_; simp only [go_sem, and_assoc, List.nil_append, List.append_nil, List.cons_append, Nat.reduceEqDiff, reduceIte, reduceCtorEq, hpp, hps]) | (refine aAppend_ints rfl rfl rfl rfl (Nat.le_of_ble_eq_true rfl) (by simp only [St.ev, St.set, upd, Nat.reduceEqDiff, reduceIte, if_false, if_true]; exact rfl) (by simp only [St.ev, St.set, upd, Nat.reduceEqDiff, reduceIte, if_false, if_true]; exact rfl) rfl (by decide) ?_ ?_ ?_ ?_; (focus (first | rfl | omega | (simp; done) | (simp; omega) | (simp [szOf, tab]; done) | (simp [szOf, tab]; omega))); (focus (first | rfl | omega | (simp; done) | (simp; omega) | (simp [szOf, tab]; done) | (simp [szOf, tab]; omega))); (focus (first | rfl | omega | (simp; done) | (simp; omega) | (simp [szOf, tab]; done) | (simp [szOf, tab]; omega))); (try simp only [go_sem, Nat.reduceAdd, Nat.reduceMul, Nat.reduceEqDiff, Nat.reduceLT, reduceIte, reduceCtorEq])) | (refine aAppend_none rfl rfl rfl rfl (Nat.le_of_ble_eq_true rfl) (by simp only [St.ev, St.set, upd, Nat.reduceEqDiff, reduceIte, if_false, if_true]; exact rfl) ?_ ?_ ?_; (focus (first | rfl | omega | (simp; done) | (simp; omega) | (simp [szOf, tab]; done) | (simp [szOf, tab]; omega))); (focus (first | rfl | omega | (simp; done) | (simp; omega) | (simp [szOf, tab]; done) | (simp [szOf, tab]; omega))); (try simp only [go_sem, Nat.reduceAdd, Nat.reduceMul, Nat.reduceEqDiff, Nat.reduceLT, reduceIte, reduceCtorEq])) | (with_reducible refine And.intro (fun hb => ?_) (fun hb => ?_)) | (exfalso; omega) | fail)
  · ((refine Exists.intro (i + 1, k + 1) ?_); (refine nxt ?_ ?_ ?_); (focus ((apply Wk.same; (case' h2 => (focus ((repeat' (with_reducible first | exact HeapX.bot | (apply HeapX.skip; (case hx => (simp; done))) | apply HeapX.none | apply HeapX.upd)); all_goals (first | rfl | exact Nat.le_of_ble_eq_true rfl | (simp only [St.set, St.ev, upd, ren, renL, id, Nat.reduceEqDiff, reduceIte, ContLe]; done) | (first | (simp only [St.set, St.ev, upd, ren, renL, id, Nat.reduceEqDiff, reduceIte]; exact contLe_nil) | ((repeat' (first | exact contLe_nil | refine contLe_cons (.inr ⟨?_, rfl⟩) ?_)); all_goals (first | rfl | (simp only [St.set, St.ev, upd, ren, renL, id, Nat.reduceEqDiff, reduceIte]; done) | ((try simp only [St.set, St.ev, upd, ren, renL, id, Nat.reduceEqDiff, reduceIte]); first | (with_reducible exact av_int (by omega)) | (with_reducible exact av_sl (by first | omega | (simp; done) | (simp; omega)) (by first | omega | (simp; done) | (simp; omega)))) | (simp only [St.set, St.ev, upd, ren, renL, id, Nat.reduceEqDiff, reduceIte, Int.natCast_add, Int.natCast_one, Int.cast_ofNat_Int, Int.natCast_zero]; done) | (simp only [St.set, St.ev, upd, ren, renL, id, Nat.reduceEqDiff, reduceIte]) | skip); done)) | (simp only [St.set, St.ev, upd, ren, renL, id, Nat.reduceEqDiff, reduceIte, ContLe]) | skip)))); (case' h1 => (focus ((repeat' (with_reducible first | exact TmpLe.bot | refine TmpLe.upd ?_ rfl ?_)); all_goals (first | rfl | (simp only [St.set, St.ev, upd, ren, renL, id, Nat.reduceEqDiff, reduceIte]; done) | ((try simp only [St.set, St.ev, upd, ren, renL, id, Nat.reduceEqDiff, reduceIte]); first | (with_reducible exact av_int (by omega)) | (with_reducible exact av_sl (by first | omega | (simp; done) | (simp; omega)) (by first | omega | (simp; done) | (simp; omega)))) | (simp only [St.set, St.ev, upd, ren, renL, id, Nat.reduceEqDiff, reduceIte, Int.natCast_add, Int.natCast_one, Int.cast_ofNat_Int, Int.natCast_zero]; done) | (simp only [St.set, St.ev, upd, ren, renL, id, Nat.reduceEqDiff, reduceIte]) | skip)))); (case h3 => (focus (first | (simp only [id, List.map_cons, List.map_nil]; decide) | decide))); (case h4 => (intro o l h; first | (cases h; done) | (have hlt0 := m0_lt (by assumption) h; first | omega | (simp only; omega) | exact ⟨by (first | rfl | (simp only [id]; done) | (rw [if_neg (by omega)])), by first | omega | (simp only; omega)⟩)))))); (focus (first | omega | (simp only; omega) | (simp only [List.length_take]; omega) | (simp; omega))); ((repeat' (with_reducible apply And.intro)) <;> (first | omega | (simp only; omega) | assumption | rfl | ((try simp only); (rw [brkR_up hb, hn])) | skip)))
  · ((refine Exists.intro (i + 1, k) ?_); (refine nxt ?_ ?_ ?_); (focus ((apply Wk.same; (case' h2 => (focus ((repeat' (with_reducible first | exact HeapX.bot | (apply HeapX.skip; (case hx => (simp; done))) | apply HeapX.none | apply HeapX.upd)); all_goals (first | rfl | exact Nat.le_of_ble_eq_true rfl | (simp only [St.set, St.ev, upd, ren, renL, id, Nat.reduceEqDiff, reduceIte, ContLe]; done) | (first | (simp only [St.set, St.ev, upd, ren, renL, id, Nat.reduceEqDiff, reduceIte]; exact contLe_nil) | ((repeat' (first | exact contLe_nil | refine contLe_cons (.inr ⟨?_, rfl⟩) ?_)); all_goals (first | rfl | (simp only [St.set, St.ev, upd, ren, renL, id, Nat.reduceEqDiff, reduceIte]; done) | ((try simp only [St.set, St.ev, upd, ren, renL, id, Nat.reduceEqDiff, reduceIte]); first | (with_reducible exact av_int (by omega)) | (with_reducible exact av_sl (by first | omega | (simp; done) | (simp; omega)) (by first | omega | (simp; done) | (simp; omega)))) | (simp only [St.set, St.ev, upd, ren, renL, id, Nat.reduceEqDiff, reduceIte, Int.natCast_add, Int.natCast_one, Int.cast_ofNat_Int, Int.natCast_zero]; done) | (simp only [St.set, St.ev, upd, ren, renL, id, Nat.reduceEqDiff, reduceIte]) | skip); done)) | (simp only [St.set, St.ev, upd, ren, renL, id, Nat.reduceEqDiff, reduceIte, ContLe]) | skip)))); (case' h1 => (focus ((repeat' (with_reducible first | exact TmpLe.bot | refine TmpLe.upd ?_ rfl ?_)); all_goals (first | rfl | (simp only [St.set, St.ev, upd, ren, renL, id, Nat.reduceEqDiff, reduceIte]; done) | ((try simp only [St.set, St.ev, upd, ren, renL, id, Nat.reduceEqDiff, reduceIte]); first | (with_reducible exact av_int (by omega)) | (with_reducible exact av_sl (by first | omega | (simp; done) | (simp; omega)) (by first | omega | (simp; done) | (simp; omega)))) | (simp only [St.set, St.ev, upd, ren, renL, id, Nat.reduceEqDiff, reduceIte, Int.natCast_add, Int.natCast_one, Int.cast_ofNat_Int, Int.natCast_zero]; done) | (simp only [St.set, St.ev, upd, ren, renL, id, Nat.reduceEqDiff, reduceIte]) | skip)))); (case h3 => (focus (first | (simp only [id, List.map_cons, List.map_nil]; decide) | decide))); (case h4 => (intro o l h; first | (cases h; done) | (have hlt0 := m0_lt (by assumption) h; first | omega | (simp only; omega) | exact ⟨by (first | rfl | (simp only [id]; done) | (rw [if_neg (by omega)])), by first | omega | (simp only; omega)⟩)))))); (focus (first | omega | (simp only; omega) | (simp only [List.length_take]; omega) | (simp; omega))); ((repeat' (with_reducible apply And.intro)) <;> (first | omega | (simp only; omega) | assumption | rfl | ((try simp only); (rw [brkR_stay hb, hn])) | skip)))
  · simp only [St.set, St.ev, doneQ, doneH, ressK, resK, wrapR, AV.ids, AV.idsL, retK, retsK, upd, Nat.reduceEqDiff, reduceIte, if_false, if_true, List.nodup_nil, List.nodup_cons, List.not_mem_nil, not_false_eq_true, true_and, and_true, exists_eq_left', Option.some.injEq, rLoad, cellOf, tab, Ty.isAgg, Ty.one, Bool.false_eq_true]
    rw [hn, show i = P.length + 1 by omega]
    exact hQ


theorem brFollows_sat : Sat Try.prog 62 (fun ds Q => ∃ (a b : Int), ds = [.val (.int .i64 (a)), .val (.int .i64 (b))] ∧ (-1000 ≤ a ∧ a ≤ 1000) ∧ Q (.val (.bool ((folB a b))))) := by
  refine sat_intro tabOk Try.func62 rfl 9 rfl [.tmp 4] rfl ?_
  rintro ds Q W ⟨a, b, rfl, ha, hQ⟩
  refine ⟨Nat.le_of_ble_eq_true rfl, ?_⟩
  simp only [initS, initT, mat.matL, mat, Cont.len]
  repeat' (first | refine awp_seq_k fun K hK => ?_ | ((with_reducible refine hK _ ?_); clear hK K) | (clear hK K; (with_reducible refine hK _ ?_); clear hK K) | (clear hK K; clear hK K; (with_reducible refine hK _ ?_); clear hK K) | (clear hK K; clear hK K; clear hK K; (with_reducible refine hK _ ?_); clear hK K) | (clear hK K; clear hK K; clear hK K; clear hK K; (with_reducible refine hK _ ?_); clear hK K) | (clear hK K; clear hK K; clear hK K; clear hK K; clear hK K; (with_reducible refine hK _ ?_); clear hK K) | ((with_reducible refine aord_plain fun K hK => ?_); simp only [go_sem, Nat.reduceAdd, Nat.reduceMul, Nat.reduceEqDiff, Nat.reduceLT, reduceIte, reduceCtorEq]) | refine awp_block ?_ | ((first | with_reducible refine aord_nil ?_ | refine awp_skip ?_ | refine awp_exit ?_ | refine awp_ret ?_); try simp only [thenA_normal, thenA_exit, thenA_goto, thenA_ret, blockA_normal, blockA_same, blockA_exit, blockA_goto, blockA_ret, Nat.reduceEqDiff, if_false, if_true, reduceIte]) | (refine awp_region tabOk rfl ?_; simp only [prep, pickO, List.map_cons, List.map_nil, List.getElem?_toArray, List.getElem?_cons_succ, List.getElem?_cons_zero, Option.bind_some, Option.map_some]) | ((with_reducible refine And.intro ?_ ?_); (focus omega)) | ((with_reducible refine And.intro ?_ ?_); (focus (exact rfl))) | (with_reducible refine And.intro (fun hb => ?_) (fun hb => ?_)) | (exfalso; omega) | fail)
  simp only [St.set, St.ev, doneQ, doneH, ressK, resK, wrapR, AV.ids, AV.idsL, retK, retsK, upd, Nat.reduceEqDiff, reduceIte, if_false, if_true, List.nodup_nil, List.nodup_cons, List.not_mem_nil, not_false_eq_true, true_and, and_true, exists_eq_left', Option.some.injEq, rLoad, cellOf, tab, Ty.isAgg, Ty.one, Bool.false_eq_true]
  exact hQ


theorem implBreaksOf_sat : Sat Try.prog 26 (fun ds Q => ∃ xs, ds = [.row (.ints .i64 xs)] ∧ xs.length ≤ 1099511627776 ∧ Q (.val (.int .i64 (if validB xs then brkN (brkL xs) (xs.length + 1) else -1)))) := by
  have hbr := breaksIn_sat folB 62 Try.call62 brFollows_sat
  refine sat_intro tabOk Try.func26 rfl 9 rfl [.tmp 2] rfl ?_
  rintro ds Q W ⟨xs, rfl, hlen, hQ⟩
  refine ⟨Nat.le_of_ble_eq_true rfl, ?_⟩
  simp only [initS, initT, mat.matL, mat, Cont.len]
  have hpl := placesL_len xs
  repeat' (first | refine awp_seq_k fun K hK => ?_ | ((with_reducible refine hK _ ?_); clear hK K) | (clear hK K; (with_reducible refine hK _ ?_); clear hK K) | (clear hK K; clear hK K; (with_reducible refine hK _ ?_); clear hK K) | (clear hK K; clear hK K; clear hK K; (with_reducible refine hK _ ?_); clear hK K) | (clear hK K; clear hK K; clear hK K; clear hK K; (with_reducible refine hK _ ?_); clear hK K) | (clear hK K; clear hK K; clear hK K; clear hK K; clear hK K; (with_reducible refine hK _ ?_); clear hK K) | ((with_reducible refine aord_plain fun K hK => ?_); simp only [go_sem, Nat.reduceAdd, Nat.reduceMul, Nat.reduceEqDiff, Nat.reduceLT, reduceIte, reduceCtorEq]) | refine awp_block ?_ | ((first | with_reducible refine aord_nil ?_ | refine awp_skip ?_ | refine awp_exit ?_ | refine awp_ret ?_); try simp only [thenA_normal, thenA_exit, thenA_goto, thenA_ret, blockA_normal, blockA_same, blockA_exit, blockA_goto, blockA_ret, Nat.reduceEqDiff, if_false, if_true, reduceIte]) | (refine awp_region tabOk rfl ?_; simp only [prep, pickO, List.map_cons, List.map_nil, List.getElem?_toArray, List.getElem?_cons_succ, List.getElem?_cons_zero, Option.bind_some, Option.map_some]) | ((with_reducible apply awp_cond); (focus (simp only [St.ev, St.set, upd, Nat.reduceEqDiff, reduceIte, if_false, if_true]; exact rfl)); all_goals (intro hb; first | (cases hb; done) | ((try rw [hb]); (try simp only [decide_eq_true_eq, decide_eq_false_iff_not, beq_iff_eq, bne_iff_ne, beq_eq_false_iff_ne, bne_eq_false_iff_eq, Int.not_lt, Int.not_le, Bool.not_eq_true', Bool.not_eq_false'] at hb)))) | ((with_reducible refine And.intro ?_ ?_); (focus omega)) | ((with_reducible refine And.intro ?_ ?_); (focus (exact rfl))) | ((with_reducible refine And.intro (?_ : enters Try.prog 31) ?_); (focus exact Try.call31); (refine callX_sat implValidKeys_sat ?_); simp only [go_sem, and_assoc, List.nil_append, List.append_nil, List.cons_append, Nat.reduceEqDiff, reduceIte, reduceCtorEq]) | ((with_reducible refine And.intro (?_ : enters Try.prog 17) ?_); (focus exact Try.call17); (refine callX_sat implPlacesOf_sat ?_); simp only [go_sem, and_assoc, List.nil_append, List.append_nil, List.cons_append, Nat.reduceEqDiff, reduceIte, reduceCtorEq]) | ((with_reducible refine And.intro (?_ : enters Try.prog 60) ?_); (focus exact Try.call60); (refine callX_sat hbr ?_); simp only [go_sem, and_assoc, List.nil_append, List.append_nil, List.cons_append, Nat.reduceEqDiff, reduceIte, reduceCtorEq]) | ((with_reducible refine And.intro (?_ : enters Try.prog 62) ?_); (focus exact Try.call62); (refine callX_sat brFollows_sat ?_); simp only [go_sem, and_assoc, List.nil_append, List.append_nil, List.cons_append, Nat.reduceEqDiff, reduceIte, reduceCtorEq]) | (with_reducible refine And.intro (fun hb => ?_) (fun hb => ?_)) | (exfalso; omega) | fail)
  · simp only [St.set, St.ev, doneQ, doneH, ressK, resK, wrapR, AV.ids, AV.idsL, retK, retsK, upd, Nat.reduceEqDiff, reduceIte, if_false, if_true, List.nodup_nil, List.nodup_cons, List.not_mem_nil, not_false_eq_true, true_and, and_true, exists_eq_left', Option.some.injEq, rLoad, cellOf, tab, Ty.isAgg, Ty.one, Bool.false_eq_true]
    simp only [hb] at hQ
    exact hQ
  · have h8 := valid_len hb
    rw [if_pos hb] at hQ
    simp only [if_pos hb]
    repeat' (first | refine awp_seq_k fun K hK => ?_ | ((with_reducible refine hK _ ?_); clear hK K) | (clear hK K; (with_reducible refine hK _ ?_); clear hK K) | (clear hK K; clear hK K; (with_reducible refine hK _ ?_); clear hK K) | (clear hK K; clear hK K; clear hK K; (with_reducible refine hK _ ?_); clear hK K) | (clear hK K; clear hK K; clear hK K; clear hK K; (with_reducible refine hK _ ?_); clear hK K) | (clear hK K; clear hK K; clear hK K; clear hK K; clear hK K; (with_reducible refine hK _ ?_); clear hK K) | ((with_reducible refine aord_plain fun K hK => ?_); simp only [go_sem, Nat.reduceAdd, Nat.reduceMul, Nat.reduceEqDiff, Nat.reduceLT, reduceIte, reduceCtorEq]) | refine awp_block ?_ | ((first | with_reducible refine aord_nil ?_ | refine awp_skip ?_ | refine awp_exit ?_ | refine awp_ret ?_); try simp only [thenA_normal, thenA_exit, thenA_goto, thenA_ret, blockA_normal, blockA_same, blockA_exit, blockA_goto, blockA_ret, Nat.reduceEqDiff, if_false, if_true, reduceIte]) | (refine awp_region tabOk rfl ?_; simp only [prep, pickO, List.map_cons, List.map_nil, List.getElem?_toArray, List.getElem?_cons_succ, List.getElem?_cons_zero, Option.bind_some, Option.map_some]) | ((with_reducible apply awp_cond); (focus (simp only [St.ev, St.set, upd, Nat.reduceEqDiff, reduceIte, if_false, if_true]; exact rfl)); all_goals (intro hb; first | (cases hb; done) | ((try rw [hb]); (try simp only [decide_eq_true_eq, decide_eq_false_iff_not, beq_iff_eq, bne_iff_ne, beq_eq_false_iff_ne, bne_eq_false_iff_eq, Int.not_lt, Int.not_le, Bool.not_eq_true', Bool.not_eq_false'] at hb)))) | ((with_reducible refine And.intro ?_ ?_); (focus omega)) | ((with_reducible refine And.intro ?_ ?_); (focus (exact rfl))) | ((with_reducible refine And.intro (?_ : enters Try.prog 31) ?_); (focus exact Try.call31); (refine callX_sat implValidKeys_sat ?_); simp only [go_sem, and_assoc, List.nil_append, List.append_nil, List.cons_append, Nat.reduceEqDiff, reduceIte, reduceCtorEq]) | ((with_reducible refine And.intro (?_ : enters Try.prog 17) ?_); (focus exact Try.call17); (refine callX_sat implPlacesOf_sat ?_); simp only [go_sem, and_assoc, List.nil_append, List.append_nil, List.cons_append, Nat.reduceEqDiff, reduceIte, reduceCtorEq]) | ((with_reducible refine And.intro (?_ : enters Try.prog 60) ?_); (focus exact Try.call60); (refine callX_sat hbr ?_); simp only [go_sem, and_assoc, List.nil_append, List.append_nil, List.cons_append, Nat.reduceEqDiff, reduceIte, reduceCtorEq]) | ((with_reducible refine And.intro (?_ : enters Try.prog 62) ?_); (focus exact Try.call62); (refine callX_sat brFollows_sat ?_); simp only [go_sem, and_assoc, List.nil_append, List.append_nil, List.cons_append, Nat.reduceEqDiff, reduceIte, reduceCtorEq]) | (with_reducible refine And.intro (fun hb => ?_) (fun hb => ?_)) | (exfalso; omega) | fail)
    refine ⟨fun j hj => by have := placesL_in (xs := xs) (i := j) (by omega); omega, ?_⟩
    simp only [endL_places, brkR_fol, hpl]
    repeat' (first | refine awp_seq_k fun K hK => ?_ | ((with_reducible refine hK _ ?_); clear hK K) | (clear hK K; (with_reducible refine hK _ ?_); clear hK K) | (clear hK K; clear hK K; (with_reducible refine hK _ ?_); clear hK K) | (clear hK K; clear hK K; clear hK K; (with_reducible refine hK _ ?_); clear hK K) | (clear hK K; clear hK K; clear hK K; clear hK K; (with_reducible refine hK _ ?_); clear hK K) | (clear hK K; clear hK K; clear hK K; clear hK K; clear hK K; (with_reducible refine hK _ ?_); clear hK K) | ((with_reducible refine aord_plain fun K hK => ?_); simp only [go_sem, Nat.reduceAdd, Nat.reduceMul, Nat.reduceEqDiff, Nat.reduceLT, reduceIte, reduceCtorEq]) | refine awp_block ?_ | ((first | with_reducible refine aord_nil ?_ | refine awp_skip ?_ | refine awp_exit ?_ | refine awp_ret ?_); try simp only [thenA_normal, thenA_exit, thenA_goto, thenA_ret, blockA_normal, blockA_same, blockA_exit, blockA_goto, blockA_ret, Nat.reduceEqDiff, if_false, if_true, reduceIte]) | (refine awp_region tabOk rfl ?_; simp only [prep, pickO, List.map_cons, List.map_nil, List.getElem?_toArray, List.getElem?_cons_succ, List.getElem?_cons_zero, Option.bind_some, Option.map_some]) | ((with_reducible apply awp_cond); (focus (simp only [St.ev, St.set, upd, Nat.reduceEqDiff, reduceIte, if_false, if_true]; exact rfl)); all_goals (intro hb; first | (cases hb; done) | ((try rw [hb]); (try simp only [decide_eq_true_eq, decide_eq_false_iff_not, beq_iff_eq, bne_iff_ne, beq_eq_false_iff_ne, bne_eq_false_iff_eq, Int.not_lt, Int.not_le, Bool.not_eq_true', Bool.not_eq_false'] at hb)))) | ((with_reducible refine And.intro ?_ ?_); (focus omega)) | ((with_reducible refine And.intro ?_ ?_); (focus (exact rfl))) | ((with_reducible refine And.intro (?_ : enters Try.prog 31) ?_); (focus exact Try.call31); (refine callX_sat implValidKeys_sat ?_); simp only [go_sem, and_assoc, List.nil_append, List.append_nil, List.cons_append, Nat.reduceEqDiff, reduceIte, reduceCtorEq]) | ((with_reducible refine And.intro (?_ : enters Try.prog 17) ?_); (focus exact Try.call17); (refine callX_sat implPlacesOf_sat ?_); simp only [go_sem, and_assoc, List.nil_append, List.append_nil, List.cons_append, Nat.reduceEqDiff, reduceIte, reduceCtorEq]) | ((with_reducible refine And.intro (?_ : enters Try.prog 60) ?_); (focus exact Try.call60); (refine callX_sat hbr ?_); simp only [go_sem, and_assoc, List.nil_append, List.append_nil, List.cons_append, Nat.reduceEqDiff, reduceIte, reduceCtorEq]) | ((with_reducible refine And.intro (?_ : enters Try.prog 62) ?_); (focus exact Try.call62); (refine callX_sat brFollows_sat ?_); simp only [go_sem, and_assoc, List.nil_append, List.append_nil, List.cons_append, Nat.reduceEqDiff, reduceIte, reduceCtorEq]) | (with_reducible refine And.intro (fun hb => ?_) (fun hb => ?_)) | (exfalso; omega) | fail)
    simp only [St.set, St.ev, doneQ, doneH, ressK, resK, wrapR, AV.ids, AV.idsL, retK, retsK, upd, Nat.reduceEqDiff, reduceIte, if_false, if_true, List.nodup_nil, List.nodup_cons, List.not_mem_nil, not_false_eq_true, true_and, and_true, exists_eq_left', Option.some.injEq, rLoad, cellOf, tab, Ty.isAgg, Ty.one, Bool.false_eq_true]
    exact hQ


/-- How many of the first k keys are greater than one of a and b and less than the other one. -/
def btwC (xs : List Int) (a b : Int) : Nat → Int
  | 0 => 0
  | k + 1 => btwC xs a b k + (if min a b < xs.getD k 0 ∧ xs.getD k 0 < max a b then 1 else 0)
def swTo (xs : List Int) : Nat → Int
  | 0 => 0
  | i + 1 => swTo xs i + btwC xs (xs.getD i 0) (xs.getD (i + 1) 0) xs.length
theorem btw_up {xs : List Int} {a b : Int} {k : Nat} (h : min a b < xs.getD k 0 ∧ xs.getD k 0 < max a b) : btwC xs a b (k + 1) = btwC xs a b k + 1 := by rw [btwC, if_pos h]
theorem btw_stay {xs : List Int} {a b : Int} {k : Nat} (h : ¬ (min a b < xs.getD k 0 ∧ xs.getD k 0 < max a b)) : btwC xs a b (k + 1) = btwC xs a b k := by rw [btwC, if_neg h]; omega
theorem btw_in (xs : List Int) (a b : Int) : ∀ k, 0 ≤ btwC xs a b k ∧ btwC xs a b k ≤ k
  | 0 => ⟨Int.le_refl 0, Int.le_refl 0⟩
  | k + 1 => by have := btw_in xs a b k; rw [btwC]; split <;> omega


/-- The best of the values of g at the first k places that are behind place i and follow its key. -/
def best (r : Int → Int → Bool) (xs : List Int) (g : Nat → Int) (i : Nat) : Nat → Int
  | 0 => 0
  | k + 1 => if i < k ∧ r (xs.getD i 0) (xs.getD k 0) = true then max (best r xs g i k) (g k) else best r xs g i k
/-- How many keys the longest row has that begins at a place, f + 1 keys at most. -/
def chn (r : Int → Int → Bool) (xs : List Int) : Nat → Nat → Int
  | 0 => fun _ => 1
  | f + 1 => fun i => best r xs (chn r xs f) i xs.length + 1
theorem best_low {r : Int → Int → Bool} {xs : List Int} {g : Nat → Int} {i : Nat} : ∀ k, k ≤ i + 1 → best r xs g i k = 0
  | 0, _ => rfl
  | k + 1, h => by rw [best, if_neg (by omega), best_low k (by omega)]
theorem best_up {r : Int → Int → Bool} {xs : List Int} {g : Nat → Int} {i k : Nat} (h : i < k) (hr : r (xs.getD i 0) (xs.getD k 0) = true) : best r xs g i (k + 1) = max (best r xs g i k) (g k) := by rw [best, if_pos ⟨h, hr⟩]
theorem best_stay {r : Int → Int → Bool} {xs : List Int} {g : Nat → Int} {i k : Nat} (hr : ¬ r (xs.getD i 0) (xs.getD k 0) = true) : best r xs g i (k + 1) = best r xs g i k := by rw [best, if_neg (fun h => hr h.2)]
theorem best_in {r : Int → Int → Bool} {xs : List Int} {g : Nat → Int} {i : Nat} {B : Int} (hB : 0 ≤ B) (hg : ∀ k, 0 ≤ g k ∧ g k ≤ B) : ∀ k, 0 ≤ best r xs g i k ∧ best r xs g i k ≤ B
  | 0 => ⟨Int.le_refl 0, hB⟩
  | k + 1 => by have := best_in (r := r) (xs := xs) (i := i) hB hg k; have := hg k; rw [best]; split <;> omega
theorem chn_in {r : Int → Int → Bool} {xs : List Int} : ∀ (f i : Nat), 0 ≤ chn r xs f i ∧ chn r xs f i ≤ f + 1
  | 0, _ => by simp [chn]
  | f + 1, i => by
    have := best_in (r := r) (xs := xs) (i := i) (g := chn r xs f) (B := f + 1) (by omega) (fun k => chn_in f k) xs.length
    simp only [chn]
    omega
def gtB (a b : Int) : Bool := decide (b < a)
def leB (a b : Int) : Bool := decide (a ≤ b)


/-- The most of the values of the first k places. -/
def mostN (g : Nat → Int) : Nat → Int
  | 0 => 0
  | k + 1 => max (mostN g k) (g k)


/-- The lengths as chainsFrom lays them: zeros behind the keys. -/
theorem best_same {r : Int → Int → Bool} {xs : List Int} {g g' : Nat → Int} {i : Nat} : ∀ n, (∀ k, i < k → k < n → g k = g' k) → best r xs g i n = best r xs g' i n
  | 0, _ => rfl
  | n + 1, h => by
    rw [best, best, best_same n (fun k h1 h2 => h k h1 (by omega))]
    split
    · rename_i hc; rw [h n hc.1 (by omega)]
    · rfl
theorem chn_more {r : Int → Int → Bool} {xs : List Int} : ∀ (f i : Nat), xs.length ≤ i + f + 1 → chn r xs (f + 1) i = chn r xs f i
  | 0, i, h => by
    simp only [chn]
    rw [best_low xs.length (by omega)]; rfl
  | f + 1, i, h => by
    have := best_same (r := r) (xs := xs) (g := chn r xs (f + 1)) (g' := chn r xs f) (i := i) xs.length (fun k h1 _ => chn_more f k (by omega))
    show best r xs (chn r xs (f + 1)) i xs.length + 1 = best r xs (chn r xs f) i xs.length + 1
    rw [this]
theorem chn_eight {r : Int → Int → Bool} {xs : List Int} (i : Nat) (h : xs.length ≤ 8) : best r xs (chn r xs 8) i xs.length + 1 = chn r xs 8 i := chn_more 8 i (by omega)
def chL (r : Int → Int → Bool) (xs : List Int) : List Int := (List.range 8).map fun i => if i < xs.length then chn r xs 8 i else 0



/-- The numbers that are laid into a list, from k on. -/
def marks (k : Int) (m : Nat) : List Int := (List.range m).map fun i => k + Int.ofNat i
theorem marks_len (k : Int) (m : Nat) : (marks k m).length = m := by simp [marks]
theorem marks_get {k : Int} {m i : Nat} (h : i < m) : (marks k m).getD i 0 = k + i := by
  rw [List.getD_eq_getElem?_getD, List.getElem?_eq_getElem (by rw [marks_len]; exact h)]
  simp [marks]

theorem set_step {ys : List Int} {f : Nat → Int} {i : Nat} {v : Int} (hi : i < ys.length) (hj : ∀ j, j < i → ys.getD j 0 = f j) (hv : v = f i) : ∀ j, j < i + 1 → (ys.set i v).getD j 0 = f j := fun j h => by
  rcases Nat.lt_or_ge j i with h1 | h1
  · rw [getD_set_ne' (by omega)]; exact hj j h1
  · rw [show j = i by omega, getD_set_same hi]; exact hv
theorem app_step {ys : List Int} {f : Nat → Int} {i : Nat} {v : Int} (hi : ys.length = i) (hj : ∀ j, j < i → ys.getD j 0 = f j) (hv : v = f i) : ∀ j, j < i + 1 → (ys ++ [v]).getD j 0 = f j := fun j h => by
  rcases Nat.lt_or_ge j i with h1 | h1
  · rw [getD_app_lo (by omega)]; exact hj j h1
  · rw [show j = i by omega, getD_app_at (by omega)]; exact hv
theorem all_step {p : Nat → Prop} {i : Nat} (hj : ∀ j, j < i → p j) (hv : p i) : ∀ j, j < i + 1 → p j := fun j h => by
  rcases Nat.lt_or_ge j i with h1 | h1
  · exact hj j h1
  · rw [show j = i by omega]; exact hv


/-- What is laid at the places, of the first k keys. -/
def scN (P xs : List Int) : Nat → List Int
  | 0 => List.replicate xs.length 0
  | k + 1 => (scN P xs k).set (P.getD k 0).toNat (xs.getD k 0)
theorem scN_len (P xs : List Int) : ∀ k, (scN P xs k).length = xs.length
  | 0 => by simp [scN]
  | k + 1 => by simp [scN, scN_len P xs k]
def ordL (xs : List Int) : List Int := scN (placesL xs) xs xs.length
theorem ordL_len (xs : List Int) : (ordL xs).length = xs.length := scN_len _ _ _

theorem placesL_lt {xs : List Int} {i : Nat} (h : i < xs.length) : 0 ≤ (placesL xs).getD i 0 ∧ (placesL xs).getD i 0 < xs.length := by
  rw [placesL_get h]
  have := plC_nonneg xs i xs.length
  have := plC_own xs i xs.length h
  omega


theorem implSortedKeys_sat : Sat Try.prog 32 (fun ds Q => ∃ (xs : List Int), ds = [.row (.ints .i64 (xs))] ∧ (xs.length ≤ 1099511627776) ∧ Q (.row (.ints .i64 ((if validB xs then ordL xs else []))))) := by
  refine sat_intro tabOk Try.func32 rfl 29 rfl [.tmp 2] rfl ?_
  rintro ds Q W ⟨xs, rfl, hlen, hQ⟩
  refine ⟨Nat.le_of_ble_eq_true rfl, ?_⟩
  simp only [initS, initT, mat.matL, mat, Cont.len]
  have hpl := placesL_len xs
  repeat' (first | refine awp_seq_k fun K hK => ?_ | ((with_reducible refine hK _ ?_); clear hK K) | (clear hK K; (with_reducible refine hK _ ?_); clear hK K) | (clear hK K; clear hK K; (with_reducible refine hK _ ?_); clear hK K) | (clear hK K; clear hK K; clear hK K; (with_reducible refine hK _ ?_); clear hK K) | (clear hK K; clear hK K; clear hK K; clear hK K; (with_reducible refine hK _ ?_); clear hK K) | (clear hK K; clear hK K; clear hK K; clear hK K; clear hK K; (with_reducible refine hK _ ?_); clear hK K) | ((with_reducible refine aord_plain fun K hK => ?_); simp only [go_sem, Nat.reduceAdd, Nat.reduceMul, Nat.reduceEqDiff, Nat.reduceLT, reduceIte, reduceCtorEq]) | refine awp_block ?_ | ((first | with_reducible refine aord_nil ?_ | refine awp_skip ?_ | refine awp_exit ?_ | refine awp_ret ?_); try simp only [thenA_normal, thenA_exit, thenA_goto, thenA_ret, blockA_normal, blockA_same, blockA_exit, blockA_goto, blockA_ret, Nat.reduceEqDiff, if_false, if_true, reduceIte]) | (refine awp_region tabOk rfl ?_; simp only [prep, pickO, List.map_cons, List.map_nil, List.getElem?_toArray, List.getElem?_cons_succ, List.getElem?_cons_zero, Option.bind_some, Option.map_some]) | ((with_reducible apply awp_cond); (focus (simp only [St.ev, St.set, upd, Nat.reduceEqDiff, reduceIte, if_false, if_true]; exact rfl)); all_goals (intro hb; first | (cases hb; done) | ((try rw [hb]); (try simp only [decide_eq_true_eq, decide_eq_false_iff_not, beq_iff_eq, bne_iff_ne, beq_eq_false_iff_ne, bne_eq_false_iff_eq, Int.not_lt, Int.not_le, Bool.not_eq_true', Bool.not_eq_false'] at hb)))) | ((with_reducible refine And.intro ?_ ?_); (focus omega)) | ((with_reducible refine And.intro ?_ ?_); (focus (exact rfl))) | ((with_reducible refine And.intro (?_ : enters Try.prog 31) ?_); (focus exact Try.call31); (refine callX_sat implValidKeys_sat ?_); simp only [go_sem, and_assoc, List.nil_append, List.append_nil, List.cons_append, Nat.reduceEqDiff, reduceIte, reduceCtorEq]) | ((with_reducible refine And.intro (?_ : enters Try.prog 17) ?_); (focus exact Try.call17); (refine callX_sat implPlacesOf_sat ?_); simp only [go_sem, and_assoc, List.nil_append, List.append_nil, List.cons_append, Nat.reduceEqDiff, reduceIte, reduceCtorEq]) | (refine aStoreAll_ints (by simp only [St.ev, St.set, upd, Nat.reduceEqDiff, reduceIte, if_false, if_true]; exact rfl) ?_ ?_ ?_ ?_; (focus (first | rfl | omega | (simp; done) | (simp; omega) | (simp [szOf, tab]; done) | (simp [szOf, tab]; omega))); (focus (first | rfl | omega | (simp; done) | (simp; omega) | (simp [szOf, tab]; done) | (simp [szOf, tab]; omega))); (focus (first | rfl | omega | (simp; done) | (simp; omega) | (simp [szOf, tab]; done) | (simp [szOf, tab]; omega))); (try simp only [go_sem, Nat.reduceAdd, Nat.reduceMul, Nat.reduceEqDiff, Nat.reduceLT, reduceIte, reduceCtorEq])) | (refine aStoreAll_cells (by simp only [St.ev, St.set, upd, Nat.reduceEqDiff, reduceIte, if_false, if_true]; exact rfl) ?_ ?_ ?_ ?_ ?_; (focus (first | rfl | omega | (simp; done) | (simp; omega) | (simp [szOf, tab]; done) | (simp [szOf, tab]; omega))); (focus (first | rfl | omega | (simp; done) | (simp; omega) | (simp [szOf, tab]; done) | (simp [szOf, tab]; omega))); (focus (first | rfl | omega | (simp; done) | (simp; omega) | (simp [szOf, tab]; done) | (simp [szOf, tab]; omega))); (focus (first | rfl | (simp [AV.cell, Value.oneCell']; done))); (try simp only [go_sem, Nat.reduceAdd, Nat.reduceMul, Nat.reduceEqDiff, Nat.reduceLT, reduceIte, reduceCtorEq])) | (with_reducible refine And.intro (fun hb => ?_) (fun hb => ?_)) | (exfalso; omega) | fail)
  · simp only [St.set, St.ev, doneQ, doneH, ressK, resK, wrapR, AV.ids, AV.idsL, retK, retsK, upd, Nat.reduceEqDiff, reduceIte, if_false, if_true, List.nodup_nil, List.nodup_cons, List.not_mem_nil, not_false_eq_true, true_and, and_true, exists_eq_left', Option.some.injEq, rLoad, cellOf, tab, Ty.isAgg, Ty.one, Bool.false_eq_true]
    simp only [hb] at hQ
    exact ⟨.ints .i64 [], rfl, rfl, rfl, hQ⟩
  · rw [if_pos hb] at hQ
    have h8 := valid_len hb
    simp only [if_pos hb]
    refine awp_loopE (α := Nat) (fun s p => ⟨(upd (upd (upd (upd (upd bot 0 (s.tmps 0)) 3 (s.tmps 3)) 13 (s.tmps 13)) 14 (s.tmps 14)) 15 (.val (.int .i64 (p)))), (upd s.heap 1 (some ⟨true, .ints .i64 (scN (placesL xs) xs p)⟩)), s.next⟩) _ (fun p => by simp only [St.ev, St.set, upd, Nat.reduceEqDiff, reduceIte, if_false, if_true]; exact rfl) (fun p => (p ≤ xs.length)) (fun p => xs.length - p) (0) ?_ ?_ ?_
    · (try simp only); (refine ?_ <;> (first | omega | (simp only; omega) | rfl | (simp; done) | skip))
    · (apply Wk.same; (case' h2 => (focus ((repeat' (with_reducible first | exact HeapX.bot | (apply HeapX.skip; (case hx => (simp; done))) | apply HeapX.none | apply HeapX.upd)); all_goals (first | rfl | exact Nat.le_of_ble_eq_true rfl | (simp only [St.set, St.ev, upd, ren, renL, id, Nat.reduceEqDiff, reduceIte, ContLe]; done) | (first | (simp only [St.set, St.ev, upd, ren, renL, id, Nat.reduceEqDiff, reduceIte]; exact contLe_nil) | ((repeat' (first | exact contLe_nil | refine contLe_cons (.inr ⟨?_, rfl⟩) ?_)); all_goals (first | rfl | (simp only [St.set, St.ev, upd, ren, renL, id, Nat.reduceEqDiff, reduceIte]; done) | ((try simp only [St.set, St.ev, upd, ren, renL, id, Nat.reduceEqDiff, reduceIte]); first | (with_reducible exact av_int (by omega)) | (with_reducible exact av_sl (by first | omega | (simp; done) | (simp; omega)) (by first | omega | (simp; done) | (simp; omega)))) | (simp only [St.set, St.ev, upd, ren, renL, id, Nat.reduceEqDiff, reduceIte, Int.natCast_add, Int.natCast_one, Int.cast_ofNat_Int, Int.natCast_zero]; done) | (simp only [St.set, St.ev, upd, ren, renL, id, Nat.reduceEqDiff, reduceIte]) | skip); done)) | (simp only [St.set, St.ev, upd, ren, renL, id, Nat.reduceEqDiff, reduceIte, ContLe]) | skip)))); (case' h1 => (focus ((repeat' (with_reducible first | exact TmpLe.bot | refine TmpLe.upd ?_ rfl ?_)); all_goals (first | rfl | (simp only [St.set, St.ev, upd, ren, renL, id, Nat.reduceEqDiff, reduceIte]; done) | ((try simp only [St.set, St.ev, upd, ren, renL, id, Nat.reduceEqDiff, reduceIte]); first | (with_reducible exact av_int (by omega)) | (with_reducible exact av_sl (by first | omega | (simp; done) | (simp; omega)) (by first | omega | (simp; done) | (simp; omega)))) | (simp only [St.set, St.ev, upd, ren, renL, id, Nat.reduceEqDiff, reduceIte, Int.natCast_add, Int.natCast_one, Int.cast_ofNat_Int, Int.natCast_zero]; done) | (simp only [St.set, St.ev, upd, ren, renL, id, Nat.reduceEqDiff, reduceIte]) | skip)))); (case h3 => (focus (first | (simp only [id, List.map_cons, List.map_nil]; decide) | decide))); (case h4 => (intro o l h; first | (cases h; done) | (have hlt0 := m0_lt (by assumption) h; first | omega | (simp only; omega) | exact ⟨by (first | rfl | (simp only [id]; done) | (rw [if_neg (by omega)])), by first | omega | (simp only; omega)⟩))))
    rintro i hi
    try simp only at hi
    have hsl := scN_len (placesL xs) xs i
    have hpi : i < xs.length → 0 ≤ (placesL xs).getD i 0 ∧ (placesL xs).getD i 0 < xs.length := fun h => placesL_lt h
    repeat' (first | refine awp_seq_k fun K hK => ?_ | ((with_reducible refine hK _ ?_); clear hK K) | (clear hK K; (with_reducible refine hK _ ?_); clear hK K) | (clear hK K; clear hK K; (with_reducible refine hK _ ?_); clear hK K) | (clear hK K; clear hK K; clear hK K; (with_reducible refine hK _ ?_); clear hK K) | (clear hK K; clear hK K; clear hK K; clear hK K; (with_reducible refine hK _ ?_); clear hK K) | (clear hK K; clear hK K; clear hK K; clear hK K; clear hK K; (with_reducible refine hK _ ?_); clear hK K) | ((with_reducible refine aord_plain fun K hK => ?_); simp only [go_sem, Nat.reduceAdd, Nat.reduceMul, Nat.reduceEqDiff, Nat.reduceLT, reduceIte, reduceCtorEq]) | refine awp_block ?_ | ((first | with_reducible refine aord_nil ?_ | refine awp_skip ?_ | refine awp_exit ?_ | refine awp_ret ?_); try simp only [thenA_normal, thenA_exit, thenA_goto, thenA_ret, blockA_normal, blockA_same, blockA_exit, blockA_goto, blockA_ret, Nat.reduceEqDiff, if_false, if_true, reduceIte]) | (refine awp_region tabOk rfl ?_; simp only [prep, pickO, List.map_cons, List.map_nil, List.getElem?_toArray, List.getElem?_cons_succ, List.getElem?_cons_zero, Option.bind_some, Option.map_some]) | ((with_reducible apply awp_cond); (focus (simp only [St.ev, St.set, upd, Nat.reduceEqDiff, reduceIte, if_false, if_true]; exact rfl)); all_goals (intro hb; first | (cases hb; done) | ((try rw [hb]); (try simp only [decide_eq_true_eq, decide_eq_false_iff_not, beq_iff_eq, bne_iff_ne, beq_eq_false_iff_ne, bne_eq_false_iff_eq, Int.not_lt, Int.not_le, Bool.not_eq_true', Bool.not_eq_false'] at hb)))) | ((with_reducible refine And.intro ?_ ?_); (focus omega)) | ((with_reducible refine And.intro ?_ ?_); (focus (exact rfl))) | ((with_reducible refine And.intro (?_ : enters Try.prog 31) ?_); (focus exact Try.call31); (refine callX_sat implValidKeys_sat ?_); simp only [go_sem, and_assoc, List.nil_append, List.append_nil, List.cons_append, Nat.reduceEqDiff, reduceIte, reduceCtorEq]) | ((with_reducible refine And.intro (?_ : enters Try.prog 17) ?_); (focus exact Try.call17); (refine callX_sat implPlacesOf_sat ?_); simp only [go_sem, and_assoc, List.nil_append, List.append_nil, List.cons_append, Nat.reduceEqDiff, reduceIte, reduceCtorEq]) | (refine aStoreAll_ints (by simp only [St.ev, St.set, upd, Nat.reduceEqDiff, reduceIte, if_false, if_true]; exact rfl) ?_ ?_ ?_ ?_; (focus (first | rfl | omega | (simp; done) | (simp; omega) | (simp [szOf, tab]; done) | (simp [szOf, tab]; omega))); (focus (first | rfl | omega | (simp; done) | (simp; omega) | (simp [szOf, tab]; done) | (simp [szOf, tab]; omega))); (focus (first | rfl | omega | (simp; done) | (simp; omega) | (simp [szOf, tab]; done) | (simp [szOf, tab]; omega))); (try simp only [go_sem, Nat.reduceAdd, Nat.reduceMul, Nat.reduceEqDiff, Nat.reduceLT, reduceIte, reduceCtorEq])) | (refine aStoreAll_cells (by simp only [St.ev, St.set, upd, Nat.reduceEqDiff, reduceIte, if_false, if_true]; exact rfl) ?_ ?_ ?_ ?_ ?_; (focus (first | rfl | omega | (simp; done) | (simp; omega) | (simp [szOf, tab]; done) | (simp [szOf, tab]; omega))); (focus (first | rfl | omega | (simp; done) | (simp; omega) | (simp [szOf, tab]; done) | (simp [szOf, tab]; omega))); (focus (first | rfl | omega | (simp; done) | (simp; omega) | (simp [szOf, tab]; done) | (simp [szOf, tab]; omega))); (focus (first | rfl | (simp [AV.cell, Value.oneCell']; done))); (try simp only [go_sem, Nat.reduceAdd, Nat.reduceMul, Nat.reduceEqDiff, Nat.reduceLT, reduceIte, reduceCtorEq])) | (with_reducible refine And.intro (fun hb => ?_) (fun hb => ?_)) | (exfalso; omega) | fail)
    · ((refine Exists.intro (i + 1) ?_); (refine nxt ?_ ?_ ?_); (focus ((apply Wk.same; (case' h2 => (focus ((repeat' (with_reducible first | exact HeapX.bot | (apply HeapX.skip; (case hx => (simp; done))) | apply HeapX.none | apply HeapX.upd)); all_goals (first | rfl | exact Nat.le_of_ble_eq_true rfl | (simp only [St.set, St.ev, upd, ren, renL, id, Nat.reduceEqDiff, reduceIte, ContLe]; done) | (first | (simp only [St.set, St.ev, upd, ren, renL, id, Nat.reduceEqDiff, reduceIte]; exact contLe_nil) | ((repeat' (first | exact contLe_nil | refine contLe_cons (.inr ⟨?_, rfl⟩) ?_)); all_goals (first | rfl | (simp only [St.set, St.ev, upd, ren, renL, id, Nat.reduceEqDiff, reduceIte]; done) | ((try simp only [St.set, St.ev, upd, ren, renL, id, Nat.reduceEqDiff, reduceIte]); first | (with_reducible exact av_int (by omega)) | (with_reducible exact av_sl (by first | omega | (simp; done) | (simp; omega)) (by first | omega | (simp; done) | (simp; omega)))) | (simp only [St.set, St.ev, upd, ren, renL, id, Nat.reduceEqDiff, reduceIte, Int.natCast_add, Int.natCast_one, Int.cast_ofNat_Int, Int.natCast_zero]; done) | (simp only [St.set, St.ev, upd, ren, renL, id, Nat.reduceEqDiff, reduceIte]) | skip); done)) | (simp only [St.set, St.ev, upd, ren, renL, id, Nat.reduceEqDiff, reduceIte, ContLe]) | skip)))); (case' h1 => (focus ((repeat' (with_reducible first | exact TmpLe.bot | refine TmpLe.upd ?_ rfl ?_)); all_goals (first | rfl | (simp only [St.set, St.ev, upd, ren, renL, id, Nat.reduceEqDiff, reduceIte]; done) | ((try simp only [St.set, St.ev, upd, ren, renL, id, Nat.reduceEqDiff, reduceIte]); first | (with_reducible exact av_int (by omega)) | (with_reducible exact av_sl (by first | omega | (simp; done) | (simp; omega)) (by first | omega | (simp; done) | (simp; omega)))) | (simp only [St.set, St.ev, upd, ren, renL, id, Nat.reduceEqDiff, reduceIte, Int.natCast_add, Int.natCast_one, Int.cast_ofNat_Int, Int.natCast_zero]; done) | (simp only [St.set, St.ev, upd, ren, renL, id, Nat.reduceEqDiff, reduceIte]) | skip)))); (case h3 => (focus (first | (simp only [id, List.map_cons, List.map_nil]; decide) | decide))); (case h4 => (intro o l h; first | (cases h; done) | (have hlt0 := m0_lt (by assumption) h; first | omega | (simp only; omega) | exact ⟨by (first | rfl | (simp only [id]; done) | (rw [if_neg (by omega)])), by first | omega | (simp only; omega)⟩)))))); (focus (first | omega | (simp only; omega) | (simp only [List.length_take]; omega) | (simp; omega))); ((repeat' (with_reducible apply And.intro)) <;> (first | omega | (simp only; omega) | assumption | rfl | (simp only))))
    · simp only [St.set, St.ev, doneQ, doneH, ressK, resK, wrapR, AV.ids, AV.idsL, retK, retsK, upd, Nat.reduceEqDiff, reduceIte, if_false, if_true, List.nodup_nil, List.nodup_cons, List.not_mem_nil, not_false_eq_true, true_and, and_true, exists_eq_left', Option.some.injEq, rLoad, cellOf, tab, Ty.isAgg, Ty.one, Bool.false_eq_true]
      simp only [Cont.closed, Cont.len, true_and, scN_len]
      obtain rfl : i = xs.length := by omega
      exact hQ


/-- An index may be put behind those that are there. -/
def cmpR (xs out : List Int) (k : Nat) : Bool := decide (out.length = 0) || decide (xs.getD (out.getD (out.length - 1) 0).toNat 0 ≤ xs.getD k 0)
/-- The longest row of those that begin at a place of i .. k-1 and may be put there. -/
def mostC (xs out : List Int) (i : Nat) : Nat → Int
  | 0 => 0
  | k + 1 => if i ≤ k ∧ cmpR xs out k = true then max (mostC xs out i k) (chn leB xs 8 k) else mostC xs out i k
def riseTo (xs : List Int) : Nat → List Int
  | 0 => []
  | i + 1 => if cmpR xs (riseTo xs i) i = true ∧ chn leB xs 8 i = mostC xs (riseTo xs i) i xs.length then riseTo xs i ++ [(i : Int)] else riseTo xs i
theorem mostC_in {xs out : List Int} {i : Nat} : ∀ k, 0 ≤ mostC xs out i k ∧ mostC xs out i k ≤ 9
  | 0 => by simp [mostC]
  | k + 1 => by
    have := mostC_in (xs := xs) (out := out) (i := i) k
    have := chn_in (r := leB) (xs := xs) 8 k
    rw [mostC]; split <;> omega
theorem mostC_low {xs out : List Int} {i : Nat} : ∀ k, k ≤ i → mostC xs out i k = 0
  | 0, _ => rfl
  | k + 1, h => by rw [mostC, if_neg (by omega), mostC_low k (by omega)]
theorem mostC_split {xs out : List Int} {i : Nat} : ∀ n, i < n → mostC xs out i n = if cmpR xs out i = true then max (mostC xs out (i + 1) n) (chn leB xs 8 i) else mostC xs out (i + 1) n
  | 0, h => by omega
  | n + 1, h => by
    rcases Nat.lt_or_ge i n with h1 | h1
    · have ih := mostC_split (xs := xs) (out := out) n h1
      rw [mostC, mostC, ih]
      have e1 : (i + 1 ≤ n ∧ cmpR xs out n = true) ↔ (i ≤ n ∧ cmpR xs out n = true) := by constructor <;> (intro ⟨a, b⟩; exact ⟨by omega, b⟩)
      simp only [e1]
      split <;> split <;> omega
    · have e : n = i := by omega
      subst e
      rw [mostC, mostC, mostC_low n (Nat.le_refl n), mostC_low n (by omega)]
      have := chn_in (r := leB) (xs := xs) 8 n
      simp only [Nat.le_refl, true_and, show ¬ (n + 1 ≤ n) by omega, false_and, if_false]
theorem cmp_app {xs out : List Int} {i k : Nat} : cmpR xs (out ++ [(i : Int)]) k = leB (xs.getD i 0) (xs.getD k 0) := by
  unfold cmpR leB
  have : (out ++ [(i : Int)]).getD ((out ++ [(i : Int)]).length - 1) 0 = i := getD_app_at (by simp)
  rw [this]
  simp
theorem mostC_best {xs out : List Int} {i : Nat} : ∀ n, mostC xs (out ++ [(i : Int)]) (i + 1) n = best leB xs (chn leB xs 8) i n
  | 0 => rfl
  | n + 1 => by
    rw [mostC, best, mostC_best n, cmp_app]
    rfl
theorem rise_take {xs : List Int} (h8 : xs.length ≤ 8) {out : List Int} {i : Nat} (h : chn leB xs 8 i = mostC xs out i xs.length) : mostC xs (out ++ [(i : Int)]) (i + 1) xs.length = mostC xs out i xs.length - 1 := by
  rw [mostC_best, ← h]
  have := chn_eight (r := leB) (xs := xs) i h8
  omega
theorem rise_pass {xs out : List Int} {i : Nat} (hi : i < xs.length) (h : cmpR xs out i = false ∨ chn leB xs 8 i ≠ mostC xs out i xs.length) : mostC xs out (i + 1) xs.length = mostC xs out i xs.length := by
  have := mostC_split (xs := xs) (out := out) (i := i) xs.length hi
  rw [this]
  split
  · rename_i hc
    rw [hc] at h
    simp only [Bool.true_eq_false, false_or] at h
    rw [this, if_pos hc] at h
    omega
  · rfl
theorem riseTo_len (xs : List Int) : ∀ i, (riseTo xs i).length ≤ i
  | 0 => by simp [riseTo]
  | i + 1 => by have := riseTo_len xs i; rw [riseTo]; split <;> simp <;> omega
theorem riseTo_in (xs : List Int) : ∀ i j, j < (riseTo xs i).length → 0 ≤ (riseTo xs i).getD j 0 ∧ (riseTo xs i).getD j 0 < i
  | 0, j, h => by simp [riseTo] at h
  | i + 1, j, h => by
    rw [riseTo] at h ⊢
    split at h
    · rename_i hc
      rw [if_pos hc]
      simp only [List.length_append, List.length_cons, List.length_nil] at h
      rcases Nat.lt_or_ge j (riseTo xs i).length with h1 | h1
      · rw [getD_app_lo h1]; have := riseTo_in xs i j h1; omega
      · rw [getD_app_at (by omega)]; omega
    · rename_i hc
      rw [if_neg hc]
      have := riseTo_in xs i j h
      omega
theorem mostC_none (xs : List Int) : ∀ k, mostC xs [] 0 k = mostN (chn leB xs 8) k
  | 0 => rfl
  | k + 1 => by rw [mostC, mostN, mostC_none xs k]; simp [cmpR]


theorem no_inj : ∀ (m n : Nat) (f : Nat → Nat), (∀ a, a < n → f a < m) → (∀ a b, a < n → b < n → f a = f b → a = b) → n ≤ m
  | 0, n, f, h, _ => by
    rcases Nat.eq_zero_or_pos n with h0 | h0
    · omega
    · have := h 0 h0; omega
  | m + 1, n, f, h, hi => by
    by_cases hx : ∃ a, a < n ∧ f a = m
    · obtain ⟨a0, ha0, hf0⟩ := hx
      have := no_inj m (n - 1) (fun a => f (if a < a0 then a else a + 1)) (fun a ha => by
        have h1 := h (if a < a0 then a else a + 1) (by split <;> omega)
        have h2 : f (if a < a0 then a else a + 1) ≠ m := fun e => by
          have := hi (if a < a0 then a else a + 1) a0 (by split <;> omega) ha0 (by rw [e, hf0])
          split at this <;> omega
        show f (if a < a0 then a else a + 1) < m
        omega) (fun a b ha hb hab => by
        have := hi (if a < a0 then a else a + 1) (if b < a0 then b else b + 1) (by split <;> omega) (by split <;> omega) hab
        split at this <;> split at this <;> omega)
      omega
    · have := no_inj m n f (fun a ha => by
        have := h a ha
        have : f a ≠ m := fun e => hx ⟨a, ha, e⟩
        omega) hi
      omega
theorem inj_surj {n : Nat} {f : Nat → Nat} (h : ∀ a, a < n → f a < n) (hi : ∀ a b, a < n → b < n → f a = f b → a = b) {b : Nat} (hb : b < n) : ∃ a, a < n ∧ f a = b := by
  by_cases hx : ∃ a, a < n ∧ f a = b
  · exact hx
  · exfalso
    have hne : ∀ a, a < n → f a ≠ b := fun a ha e => hx ⟨a, ha, e⟩
    have := no_inj (n - 1) n (fun a => if f a < b then f a else f a - 1) (fun a ha => by
      have := h a ha; have := hne a ha
      show (if f a < b then f a else f a - 1) < n - 1
      split <;> omega) (fun a c ha hc hac => by
      have h1 := hne a ha; have h2 := hne c hc
      apply hi a c ha hc
      have hac : (if f a < b then f a else f a - 1) = (if f c < b then f c else f c - 1) := hac
      split at hac <;> split at hac <;> omega)
    omega
/-- A key comes ahead of another one: it is less, or equal and ahead. -/
def ltK (xs : List Int) (i k : Nat) : Prop := xs.getD i 0 < xs.getD k 0 ∨ (xs.getD i 0 = xs.getD k 0 ∧ i < k)
theorem plC_mono {xs : List Int} {i k : Nat} (h : ltK xs i k) : ∀ m, plC xs i m + (if i < m then 1 else 0) ≤ plC xs k m
  | 0 => by simp [plC]
  | m + 1 => by
    have ih := plC_mono h m
    unfold ltK at h
    rw [plC, plC]
    by_cases h1 : m = i
    · subst h1
      rw [if_neg (by omega)] at ih
      rw [if_neg (by omega), if_pos (by omega), if_pos h]
      omega
    · by_cases h2 : xs.getD m 0 < xs.getD i 0 ∨ (xs.getD m 0 = xs.getD i 0 ∧ m < i)
      · have h3 : xs.getD m 0 < xs.getD k 0 ∨ (xs.getD m 0 = xs.getD k 0 ∧ m < k) := by omega
        rw [if_pos h2, if_pos h3]
        split at ih <;> split <;> omega
      · rw [if_neg h2]
        split at ih <;> split <;> split <;> omega
def plN (xs : List Int) (i : Nat) : Nat := (plC xs i xs.length).toNat
theorem plN_lt {xs : List Int} {i : Nat} (h : i < xs.length) : plN xs i < xs.length := by
  have := plC_own xs i xs.length h
  have := plC_nonneg xs i xs.length
  unfold plN; omega
theorem plN_mono {xs : List Int} {i k : Nat} (hi : i < xs.length) (h : ltK xs i k) : plN xs i < plN xs k := by
  have := plC_mono h xs.length
  have := plC_nonneg xs i xs.length
  rw [if_pos hi] at *
  unfold plN; omega
theorem plN_inj {xs : List Int} {i k : Nat} (hi : i < xs.length) (hk : k < xs.length) (h : plN xs i = plN xs k) : i = k := by
  by_cases e : i = k
  · exact e
  · exfalso
    have : ltK xs i k ∨ ltK xs k i := by unfold ltK; omega
    rcases this with h1 | h1
    · have := plN_mono hi h1; omega
    · have := plN_mono hk h1; omega
theorem plN_get {xs : List Int} {i : Nat} (h : i < xs.length) : ((placesL xs).getD i 0).toNat = plN xs i := by rw [placesL_get h]; rfl
theorem scN_at {xs : List Int} : ∀ k, k ≤ xs.length → ∀ a, a < k → (scN (placesL xs) xs k).getD (plN xs a) 0 = xs.getD a 0
  | 0, _, a, h => by omega
  | k + 1, hk, a, h => by
    rw [scN, plN_get (by omega)]
    by_cases e : a = k
    · subst e
      exact getD_set_same (by rw [scN_len]; exact plN_lt (by omega))
    · rw [getD_set_ne' (fun h1 => e (plN_inj (by omega) (by omega) h1.symm))]
      exact scN_at k (by omega) a (by omega)
theorem ord_at {xs : List Int} {a : Nat} (h : a < xs.length) : (ordL xs).getD (plN xs a) 0 = xs.getD a 0 := scN_at xs.length (Nat.le_refl _) a h
theorem ord_from {xs : List Int} {b : Nat} (h : b < xs.length) : ∃ a, a < xs.length ∧ plN xs a = b := inj_surj (fun a ha => plN_lt ha) (fun a b ha hb h => plN_inj ha hb h) h
theorem ord_mono {xs : List Int} {p q : Nat} (hpq : p < q) (hq : q < xs.length) : (ordL xs).getD p 0 ≤ (ordL xs).getD q 0 := by
  obtain ⟨a, ha, rfl⟩ := ord_from (xs := xs) (b := p) (by omega)
  obtain ⟨b, hb, rfl⟩ := ord_from (xs := xs) hq
  rw [ord_at ha, ord_at hb]
  by_cases h : xs.getD a 0 ≤ xs.getD b 0
  · exact h
  · have : ltK xs b a := .inl (by omega)
    have := plN_mono hb this
    omega
/-- No key is less than the one ahead. -/
def srt (xs : List Int) : Bool := (List.range (xs.length - 1)).all fun j => decide (xs.getD j 0 ≤ xs.getD (j + 1) 0)
theorem srt_iff {xs : List Int} : srt xs = true ↔ ∀ j, j + 1 < xs.length → xs.getD j 0 ≤ xs.getD (j + 1) 0 := by
  unfold srt
  rw [List.all_eq_true]
  constructor
  · intro h j hj; have := h j (List.mem_range.2 (by omega)); simpa using this
  · intro h j hj; have := List.mem_range.1 hj; simpa using h j (by omega)
theorem srt_le {xs : List Int} (h : srt xs = true) : ∀ {d i : Nat}, i + d < xs.length → xs.getD i 0 ≤ xs.getD (i + d) 0
  | 0, i, _ => Int.le_refl _
  | d + 1, i, hd => by have := srt_le h (d := d) (i := i) (by omega); have := srt_iff.1 h (i + d) (by omega); rw [← Nat.add_assoc]; omega
theorem srt_ltK {xs : List Int} (h : srt xs = true) {i k : Nat} (hi : i < xs.length) (hk : k < xs.length) : ltK xs i k ↔ i < k := by
  unfold ltK
  constructor
  · intro h1
    rcases Nat.lt_or_ge i k with h2 | h2
    · exact h2
    · have := srt_le h (i := k) (d := i - k) (by omega)
      rw [show k + (i - k) = i by omega] at this
      omega
  · intro h1
    have := srt_le h (i := i) (d := k - i) (by omega)
    rw [show i + (k - i) = k by omega] at this
    omega
theorem srt_pl {xs : List Int} (h : srt xs = true) {i : Nat} (hi : i < xs.length) : ∀ m, m ≤ xs.length → plC xs i m = (min i m : Nat)
  | 0, _ => by simp [plC]
  | m + 1, hm => by
    have ih := srt_pl h hi m (by omega)
    have := srt_ltK h (i := m) (k := i) (by omega) hi
    unfold ltK at this
    rw [plC, ih]
    split <;> rename_i h1
    · have := this.1 h1; omega
    · have : ¬ m < i := fun h2 => h1 (this.2 h2)
      omega
theorem srt_ord {xs : List Int} (h : srt xs = true) : ordL xs = xs := by
  apply ext_getD (ordL_len xs)
  intro j hj
  rw [ordL_len] at hj
  have e : plN xs j = j := by unfold plN; rw [srt_pl h hj xs.length (Nat.le_refl _)]; omega
  have := ord_at hj
  rw [e] at this
  exact this
theorem ord_srt {xs : List Int} : srt (ordL xs) = true := srt_iff.2 fun j hj => ord_mono (by omega) (by rw [ordL_len] at hj; exact hj)
theorem srt_eq {xs : List Int} : srt xs = decide (xs = ordL xs) := by
  by_cases h : srt xs = true
  · rw [h, srt_ord h]; simp
  · have : xs ≠ ordL xs := fun e => h (by rw [e]; exact ord_srt)
    simp only [Bool.not_eq_true] at h
    rw [h]; simp [this]
/-- Zeros behind the keys. -/
def padL (xs : List Int) : List Int := xs ++ List.replicate (8 - xs.length) 0
theorem padL_len {xs : List Int} (h : xs.length ≤ 8) : (padL xs).length = 8 := by simp [padL]; omega
theorem padL_inj {xs ys : List Int} (h : xs.length = ys.length) : padL xs = padL ys ↔ xs = ys := by
  constructor
  · intro e; exact (List.append_inj e h).1
  · rintro rfl; rfl


theorem rowOf_sat : Sat Try.prog 63 (fun ds Q => ∃ (xs : List Int), ds = [.row (.ints .i64 (xs))] ∧ (xs.length ≤ 8) ∧ Q (.agg ((padL xs).map fun n => .val (.int .i64 n)))) := by
  refine sat_intro tabOk Try.func63 rfl 8 rfl [.cell 2 45] rfl ?_
  rintro ds Q W ⟨xs, rfl, hlen, hQ⟩
  refine ⟨Nat.le_of_ble_eq_true rfl, ?_⟩
  simp only [initS, initT, mat.matL, mat, Cont.len]
  have h88 : (List.replicate 8 (0 : Int)).length = 8 := by simp
  have hp8 := padL_len hlen
  have hmin : Nat.min xs.length 8 = xs.length := Nat.min_eq_left hlen
  have hsp : List.take (Nat.min xs.length 8) xs ++ List.drop (List.take (Nat.min xs.length 8) xs).length (List.replicate 8 (0 : Int)) = padL xs := by
    rw [hmin, List.take_length, padL, List.drop_replicate]
  have htk : List.take 8 (List.map (fun n => AV.val (Value.int IntKind.i64 n)) (padL xs)) = List.map (fun n => AV.val (Value.int IntKind.i64 n)) (padL xs) := List.take_of_length_le (by simp [hp8])
  repeat' (first | refine awp_seq_k fun K hK => ?_ | ((with_reducible refine hK _ ?_); clear hK K) | (clear hK K; (with_reducible refine hK _ ?_); clear hK K) | (clear hK K; clear hK K; (with_reducible refine hK _ ?_); clear hK K) | (clear hK K; clear hK K; clear hK K; (with_reducible refine hK _ ?_); clear hK K) | (clear hK K; clear hK K; clear hK K; clear hK K; (with_reducible refine hK _ ?_); clear hK K) | (clear hK K; clear hK K; clear hK K; clear hK K; clear hK K; (with_reducible refine hK _ ?_); clear hK K) | ((with_reducible refine aord_plain fun K hK => ?_); simp only [go_sem, Nat.reduceAdd, Nat.reduceMul, Nat.reduceEqDiff, Nat.reduceLT, reduceIte, reduceCtorEq, hsp, htk]) | refine awp_block ?_ | ((first | with_reducible refine aord_nil ?_ | refine awp_skip ?_ | refine awp_exit ?_ | refine awp_ret ?_); try simp only [thenA_normal, thenA_exit, thenA_goto, thenA_ret, blockA_normal, blockA_same, blockA_exit, blockA_goto, blockA_ret, Nat.reduceEqDiff, if_false, if_true, reduceIte]) | (refine awp_region tabOk rfl ?_; simp only [prep, pickO, List.map_cons, List.map_nil, List.getElem?_toArray, List.getElem?_cons_succ, List.getElem?_cons_zero, Option.bind_some, Option.map_some]) | ((with_reducible refine And.intro ?_ ?_); (focus omega)) | ((with_reducible refine And.intro ?_ ?_); (focus (exact rfl))) | (refine aCopy_ints rfl rfl (by simp only [St.ev, St.set, upd, Nat.reduceEqDiff, reduceIte, if_false, if_true]; exact rfl) ?_ (by simp only [St.ev, St.set, upd, Nat.reduceEqDiff, reduceIte, if_false, if_true]; exact rfl) (by decide) ?_ ?_; (focus (first | rfl | omega | (simp; done) | (simp; omega) | (simp [szOf, tab]; done) | (simp [szOf, tab]; omega))); (focus (first | rfl | omega | (simp; done) | (simp; omega) | (simp [szOf, tab]; done) | (simp [szOf, tab]; omega))); (try simp only [go_sem, Nat.reduceAdd, Nat.reduceMul, Nat.reduceEqDiff, Nat.reduceLT, reduceIte, reduceCtorEq, hsp, htk])) | (refine aStoreAll_ints (by simp only [St.ev, St.set, upd, Nat.reduceEqDiff, reduceIte, if_false, if_true]; exact rfl) ?_ ?_ ?_ ?_; (focus (first | rfl | omega | (simp; done) | (simp; omega) | (simp [szOf, tab]; done) | (simp [szOf, tab]; omega))); (focus (first | rfl | omega | (simp; done) | (simp; omega) | (simp [szOf, tab]; done) | (simp [szOf, tab]; omega))); (focus (first | rfl | omega | (simp; done) | (simp; omega) | (simp [szOf, tab]; done) | (simp [szOf, tab]; omega))); (try simp only [go_sem, Nat.reduceAdd, Nat.reduceMul, Nat.reduceEqDiff, Nat.reduceLT, reduceIte, reduceCtorEq])) | (refine aStoreAll_cells (by simp only [St.ev, St.set, upd, Nat.reduceEqDiff, reduceIte, if_false, if_true]; exact rfl) ?_ ?_ ?_ ?_ ?_; (focus (first | rfl | omega | (simp; done) | (simp; omega) | (simp [szOf, tab]; done) | (simp [szOf, tab]; omega))); (focus (first | rfl | omega | (simp; done) | (simp; omega) | (simp [szOf, tab]; done) | (simp [szOf, tab]; omega))); (focus (first | rfl | omega | (simp; done) | (simp; omega) | (simp [szOf, tab]; done) | (simp [szOf, tab]; omega))); (focus (first | rfl | (simp [AV.cell, Value.oneCell']; done))); (try simp only [go_sem, Nat.reduceAdd, Nat.reduceMul, Nat.reduceEqDiff, Nat.reduceLT, reduceIte, reduceCtorEq])) | (with_reducible refine And.intro (fun hb => ?_) (fun hb => ?_)) | (exfalso; omega) | fail)
  simp only [St.set, St.ev, doneQ, doneH, ressK, resK, wrapR, AV.ids, AV.idsL, retK, retsK, upd, Nat.reduceEqDiff, reduceIte, if_false, if_true, List.nodup_nil, List.nodup_cons, List.not_mem_nil, not_false_eq_true, true_and, and_true, exists_eq_left', Option.some.injEq, rLoad, cellOf, tab, Ty.isAgg, Ty.one, Bool.false_eq_true]
  simp only [Cont.flat, List.drop_zero, htk, List.length_map, hp8, retK, retsK_ints, AV.ids, idsL_ints, Nat.le_refl, true_and, List.nodup_nil, List.append_nil]
  exact hQ


theorem pad_dec {xs ys : List Int} (h : xs.length = ys.length) : decide (padL xs = padL ys) = decide (xs = ys) := decide_eq_decide.2 (padL_inj h)


theorem implIsSorted_sat : Sat Try.prog 27 (fun ds Q => ∃ (xs : List Int), ds = [.row (.ints .i64 (xs))] ∧ (xs.length ≤ 1099511627776) ∧ Q (.val (.bool ((validB xs && srt xs))))) := by
  refine sat_intro tabOk Try.func27 rfl 13 rfl [.tmp 2] rfl ?_
  rintro ds Q W ⟨xs, rfl, hlen, hQ⟩
  refine ⟨Nat.le_of_ble_eq_true rfl, ?_⟩
  simp only [initS, initT, mat.matL, mat, Cont.len]
  repeat' (first | refine awp_seq_k fun K hK => ?_ | ((with_reducible refine hK _ ?_); clear hK K) | (clear hK K; (with_reducible refine hK _ ?_); clear hK K) | (clear hK K; clear hK K; (with_reducible refine hK _ ?_); clear hK K) | (clear hK K; clear hK K; clear hK K; (with_reducible refine hK _ ?_); clear hK K) | (clear hK K; clear hK K; clear hK K; clear hK K; (with_reducible refine hK _ ?_); clear hK K) | (clear hK K; clear hK K; clear hK K; clear hK K; clear hK K; (with_reducible refine hK _ ?_); clear hK K) | ((with_reducible refine aord_plain fun K hK => ?_); simp only [go_sem, Nat.reduceAdd, Nat.reduceMul, Nat.reduceEqDiff, Nat.reduceLT, reduceIte, reduceCtorEq, matL_ints]) | ((with_reducible apply aord_guard); (focus (simp only [St.ev, St.set, upd, Nat.reduceEqDiff, reduceIte, if_false, if_true]; exact rfl)); all_goals (intro hb; (try simp only [Bool.not_true, Bool.not_false] at hb); first | (cases hb; done) | ((try rw [hb]); (try simp only [Bool.not_eq_true', Bool.not_eq_false', Bool.and_eq_true, decide_eq_true_eq, decide_eq_false_iff_not, beq_iff_eq, bne_iff_ne, beq_eq_false_iff_ne, bne_eq_false_iff_eq, Int.not_lt, Int.not_le] at hb); (try (revert hb; with_reducible refine true_imp_iff.2 ?_)); first | (intro K hK; simp only [go_sem, Nat.reduceAdd, Nat.reduceMul, Nat.reduceEqDiff, Nat.reduceLT, reduceIte, reduceCtorEq]) | (simp only [St.ev, St.set, upd, Nat.reduceEqDiff, reduceIte, if_false, if_true]) | skip))) | ((with_reducible apply aord_skip); (focus (simp only [St.ev, St.set, upd, Nat.reduceEqDiff, reduceIte, if_false, if_true]; done)); (simp only [St.ev, St.set, upd, Nat.reduceEqDiff, reduceIte, if_false, if_true])) | refine awp_block ?_ | ((first | with_reducible refine aord_nil ?_ | refine awp_skip ?_ | refine awp_exit ?_ | refine awp_ret ?_); try simp only [thenA_normal, thenA_exit, thenA_goto, thenA_ret, blockA_normal, blockA_same, blockA_exit, blockA_goto, blockA_ret, Nat.reduceEqDiff, if_false, if_true, reduceIte]) | (refine awp_region tabOk rfl ?_; simp only [prep, pickO, List.map_cons, List.map_nil, List.getElem?_toArray, List.getElem?_cons_succ, List.getElem?_cons_zero, Option.bind_some, Option.map_some]) | ((with_reducible refine And.intro ?_ ?_); (focus omega)) | ((with_reducible refine And.intro ?_ ?_); (focus (exact rfl))) | ((with_reducible refine And.intro (?_ : enters Try.prog 31) ?_); (focus exact Try.call31); (refine callX_sat implValidKeys_sat ?_); simp only [go_sem, and_assoc, List.nil_append, List.append_nil, List.cons_append, Nat.reduceEqDiff, reduceIte, reduceCtorEq, matL_ints]) | ((with_reducible refine And.intro (?_ : enters Try.prog 63) ?_); (focus exact Try.call63); (refine callX_sat rowOf_sat ?_); simp only [go_sem, and_assoc, List.nil_append, List.append_nil, List.cons_append, Nat.reduceEqDiff, reduceIte, reduceCtorEq, matL_ints]) | ((with_reducible refine And.intro (?_ : enters Try.prog 32) ?_); (focus exact Try.call32); (refine callX_sat implSortedKeys_sat ?_); simp only [go_sem, and_assoc, List.nil_append, List.append_nil, List.cons_append, Nat.reduceEqDiff, reduceIte, reduceCtorEq, matL_ints]) | (with_reducible refine And.intro (fun hb => ?_) (fun hb => ?_)) | (exfalso; omega) | fail)
  · refine ⟨valid_len hb, ?_⟩
    have h8 := valid_len hb
    have hol := ordL_len xs
    repeat' (first | refine awp_seq_k fun K hK => ?_ | ((with_reducible refine hK _ ?_); clear hK K) | (clear hK K; (with_reducible refine hK _ ?_); clear hK K) | (clear hK K; clear hK K; (with_reducible refine hK _ ?_); clear hK K) | (clear hK K; clear hK K; clear hK K; (with_reducible refine hK _ ?_); clear hK K) | (clear hK K; clear hK K; clear hK K; clear hK K; (with_reducible refine hK _ ?_); clear hK K) | (clear hK K; clear hK K; clear hK K; clear hK K; clear hK K; (with_reducible refine hK _ ?_); clear hK K) | ((with_reducible refine aord_plain fun K hK => ?_); simp only [go_sem, Nat.reduceAdd, Nat.reduceMul, Nat.reduceEqDiff, Nat.reduceLT, reduceIte, reduceCtorEq, matL_ints]) | ((with_reducible apply aord_guard); (focus (simp only [St.ev, St.set, upd, Nat.reduceEqDiff, reduceIte, if_false, if_true]; exact rfl)); all_goals (intro hb; (try simp only [Bool.not_true, Bool.not_false] at hb); first | (cases hb; done) | ((try rw [hb]); (try simp only [Bool.not_eq_true', Bool.not_eq_false', Bool.and_eq_true, decide_eq_true_eq, decide_eq_false_iff_not, beq_iff_eq, bne_iff_ne, beq_eq_false_iff_ne, bne_eq_false_iff_eq, Int.not_lt, Int.not_le] at hb); (try (revert hb; with_reducible refine true_imp_iff.2 ?_)); first | (intro K hK; simp only [go_sem, Nat.reduceAdd, Nat.reduceMul, Nat.reduceEqDiff, Nat.reduceLT, reduceIte, reduceCtorEq]) | (simp only [St.ev, St.set, upd, Nat.reduceEqDiff, reduceIte, if_false, if_true]) | skip))) | ((with_reducible apply aord_skip); (focus (simp only [St.ev, St.set, upd, Nat.reduceEqDiff, reduceIte, if_false, if_true]; done)); (simp only [St.ev, St.set, upd, Nat.reduceEqDiff, reduceIte, if_false, if_true])) | refine awp_block ?_ | ((first | with_reducible refine aord_nil ?_ | refine awp_skip ?_ | refine awp_exit ?_ | refine awp_ret ?_); try simp only [thenA_normal, thenA_exit, thenA_goto, thenA_ret, blockA_normal, blockA_same, blockA_exit, blockA_goto, blockA_ret, Nat.reduceEqDiff, if_false, if_true, reduceIte]) | (refine awp_region tabOk rfl ?_; simp only [prep, pickO, List.map_cons, List.map_nil, List.getElem?_toArray, List.getElem?_cons_succ, List.getElem?_cons_zero, Option.bind_some, Option.map_some]) | ((with_reducible refine And.intro ?_ ?_); (focus omega)) | ((with_reducible refine And.intro ?_ ?_); (focus (exact rfl))) | ((with_reducible refine And.intro (?_ : enters Try.prog 31) ?_); (focus exact Try.call31); (refine callX_sat implValidKeys_sat ?_); simp only [go_sem, and_assoc, List.nil_append, List.append_nil, List.cons_append, Nat.reduceEqDiff, reduceIte, reduceCtorEq, matL_ints]) | ((with_reducible refine And.intro (?_ : enters Try.prog 63) ?_); (focus exact Try.call63); (refine callX_sat rowOf_sat ?_); simp only [go_sem, and_assoc, List.nil_append, List.append_nil, List.cons_append, Nat.reduceEqDiff, reduceIte, reduceCtorEq, matL_ints]) | ((with_reducible refine And.intro (?_ : enters Try.prog 32) ?_); (focus exact Try.call32); (refine callX_sat implSortedKeys_sat ?_); simp only [go_sem, and_assoc, List.nil_append, List.append_nil, List.cons_append, Nat.reduceEqDiff, reduceIte, reduceCtorEq, matL_ints]) | (with_reducible refine And.intro (fun hb => ?_) (fun hb => ?_)) | (exfalso; omega) | fail)
    simp only [if_pos hb]
    refine ⟨by omega, ?_⟩
    repeat' (first | refine awp_seq_k fun K hK => ?_ | ((with_reducible refine hK _ ?_); clear hK K) | (clear hK K; (with_reducible refine hK _ ?_); clear hK K) | (clear hK K; clear hK K; (with_reducible refine hK _ ?_); clear hK K) | (clear hK K; clear hK K; clear hK K; (with_reducible refine hK _ ?_); clear hK K) | (clear hK K; clear hK K; clear hK K; clear hK K; (with_reducible refine hK _ ?_); clear hK K) | (clear hK K; clear hK K; clear hK K; clear hK K; clear hK K; (with_reducible refine hK _ ?_); clear hK K) | ((with_reducible refine aord_plain fun K hK => ?_); simp only [go_sem, Nat.reduceAdd, Nat.reduceMul, Nat.reduceEqDiff, Nat.reduceLT, reduceIte, reduceCtorEq, matL_ints]) | ((with_reducible apply aord_guard); (focus (simp only [St.ev, St.set, upd, Nat.reduceEqDiff, reduceIte, if_false, if_true]; exact rfl)); all_goals (intro hb; (try simp only [Bool.not_true, Bool.not_false] at hb); first | (cases hb; done) | ((try rw [hb]); (try simp only [Bool.not_eq_true', Bool.not_eq_false', Bool.and_eq_true, decide_eq_true_eq, decide_eq_false_iff_not, beq_iff_eq, bne_iff_ne, beq_eq_false_iff_ne, bne_eq_false_iff_eq, Int.not_lt, Int.not_le] at hb); (try (revert hb; with_reducible refine true_imp_iff.2 ?_)); first | (intro K hK; simp only [go_sem, Nat.reduceAdd, Nat.reduceMul, Nat.reduceEqDiff, Nat.reduceLT, reduceIte, reduceCtorEq]) | (simp only [St.ev, St.set, upd, Nat.reduceEqDiff, reduceIte, if_false, if_true]) | skip))) | ((with_reducible apply aord_skip); (focus (simp only [St.ev, St.set, upd, Nat.reduceEqDiff, reduceIte, if_false, if_true]; done)); (simp only [St.ev, St.set, upd, Nat.reduceEqDiff, reduceIte, if_false, if_true])) | refine awp_block ?_ | ((first | with_reducible refine aord_nil ?_ | refine awp_skip ?_ | refine awp_exit ?_ | refine awp_ret ?_); try simp only [thenA_normal, thenA_exit, thenA_goto, thenA_ret, blockA_normal, blockA_same, blockA_exit, blockA_goto, blockA_ret, Nat.reduceEqDiff, if_false, if_true, reduceIte]) | (refine awp_region tabOk rfl ?_; simp only [prep, pickO, List.map_cons, List.map_nil, List.getElem?_toArray, List.getElem?_cons_succ, List.getElem?_cons_zero, Option.bind_some, Option.map_some]) | ((with_reducible refine And.intro ?_ ?_); (focus omega)) | ((with_reducible refine And.intro ?_ ?_); (focus (exact rfl))) | ((with_reducible refine And.intro (?_ : enters Try.prog 31) ?_); (focus exact Try.call31); (refine callX_sat implValidKeys_sat ?_); simp only [go_sem, and_assoc, List.nil_append, List.append_nil, List.cons_append, Nat.reduceEqDiff, reduceIte, reduceCtorEq, matL_ints]) | ((with_reducible refine And.intro (?_ : enters Try.prog 63) ?_); (focus exact Try.call63); (refine callX_sat rowOf_sat ?_); simp only [go_sem, and_assoc, List.nil_append, List.append_nil, List.cons_append, Nat.reduceEqDiff, reduceIte, reduceCtorEq, matL_ints]) | ((with_reducible refine And.intro (?_ : enters Try.prog 32) ?_); (focus exact Try.call32); (refine callX_sat implSortedKeys_sat ?_); simp only [go_sem, and_assoc, List.nil_append, List.append_nil, List.cons_append, Nat.reduceEqDiff, reduceIte, reduceCtorEq, matL_ints]) | (with_reducible refine And.intro (fun hb => ?_) (fun hb => ?_)) | (exfalso; omega) | fail)
    refine ⟨_, .i64, padL xs, padL (ordL xs), 8, _, rfl, rfl, rfl, rfl, rfl, rfl, rfl, padL_len h8, padL_len (by omega), ?_⟩
    repeat' (first | refine awp_seq_k fun K hK => ?_ | ((with_reducible refine hK _ ?_); clear hK K) | (clear hK K; (with_reducible refine hK _ ?_); clear hK K) | (clear hK K; clear hK K; (with_reducible refine hK _ ?_); clear hK K) | (clear hK K; clear hK K; clear hK K; (with_reducible refine hK _ ?_); clear hK K) | (clear hK K; clear hK K; clear hK K; clear hK K; (with_reducible refine hK _ ?_); clear hK K) | (clear hK K; clear hK K; clear hK K; clear hK K; clear hK K; (with_reducible refine hK _ ?_); clear hK K) | ((with_reducible refine aord_plain fun K hK => ?_); simp only [go_sem, Nat.reduceAdd, Nat.reduceMul, Nat.reduceEqDiff, Nat.reduceLT, reduceIte, reduceCtorEq, matL_ints]) | ((with_reducible apply aord_guard); (focus (simp only [St.ev, St.set, upd, Nat.reduceEqDiff, reduceIte, if_false, if_true]; exact rfl)); all_goals (intro hb; (try simp only [Bool.not_true, Bool.not_false] at hb); first | (cases hb; done) | ((try rw [hb]); (try simp only [Bool.not_eq_true', Bool.not_eq_false', Bool.and_eq_true, decide_eq_true_eq, decide_eq_false_iff_not, beq_iff_eq, bne_iff_ne, beq_eq_false_iff_ne, bne_eq_false_iff_eq, Int.not_lt, Int.not_le] at hb); (try (revert hb; with_reducible refine true_imp_iff.2 ?_)); first | (intro K hK; simp only [go_sem, Nat.reduceAdd, Nat.reduceMul, Nat.reduceEqDiff, Nat.reduceLT, reduceIte, reduceCtorEq]) | (simp only [St.ev, St.set, upd, Nat.reduceEqDiff, reduceIte, if_false, if_true]) | skip))) | ((with_reducible apply aord_skip); (focus (simp only [St.ev, St.set, upd, Nat.reduceEqDiff, reduceIte, if_false, if_true]; done)); (simp only [St.ev, St.set, upd, Nat.reduceEqDiff, reduceIte, if_false, if_true])) | refine awp_block ?_ | ((first | with_reducible refine aord_nil ?_ | refine awp_skip ?_ | refine awp_exit ?_ | refine awp_ret ?_); try simp only [thenA_normal, thenA_exit, thenA_goto, thenA_ret, blockA_normal, blockA_same, blockA_exit, blockA_goto, blockA_ret, Nat.reduceEqDiff, if_false, if_true, reduceIte]) | (refine awp_region tabOk rfl ?_; simp only [prep, pickO, List.map_cons, List.map_nil, List.getElem?_toArray, List.getElem?_cons_succ, List.getElem?_cons_zero, Option.bind_some, Option.map_some]) | ((with_reducible refine And.intro ?_ ?_); (focus omega)) | ((with_reducible refine And.intro ?_ ?_); (focus (exact rfl))) | ((with_reducible refine And.intro (?_ : enters Try.prog 31) ?_); (focus exact Try.call31); (refine callX_sat implValidKeys_sat ?_); simp only [go_sem, and_assoc, List.nil_append, List.append_nil, List.cons_append, Nat.reduceEqDiff, reduceIte, reduceCtorEq, matL_ints]) | ((with_reducible refine And.intro (?_ : enters Try.prog 63) ?_); (focus exact Try.call63); (refine callX_sat rowOf_sat ?_); simp only [go_sem, and_assoc, List.nil_append, List.append_nil, List.cons_append, Nat.reduceEqDiff, reduceIte, reduceCtorEq, matL_ints]) | ((with_reducible refine And.intro (?_ : enters Try.prog 32) ?_); (focus exact Try.call32); (refine callX_sat implSortedKeys_sat ?_); simp only [go_sem, and_assoc, List.nil_append, List.append_nil, List.cons_append, Nat.reduceEqDiff, reduceIte, reduceCtorEq, matL_ints]) | (with_reducible refine And.intro (fun hb => ?_) (fun hb => ?_)) | (exfalso; omega) | fail)
    simp only [St.set, St.ev, doneQ, doneH, ressK, resK, wrapR, AV.ids, AV.idsL, retK, retsK, upd, Nat.reduceEqDiff, reduceIte, if_false, if_true, List.nodup_nil, List.nodup_cons, List.not_mem_nil, not_false_eq_true, true_and, and_true, exists_eq_left', Option.some.injEq, rLoad, cellOf, tab, Ty.isAgg, Ty.one, Bool.false_eq_true]
    rw [pad_dec hol.symm, ← srt_eq]
    rw [hb, Bool.true_and] at hQ
    exact hQ
  · simp only [St.set, St.ev, doneQ, doneH, ressK, resK, wrapR, AV.ids, AV.idsL, retK, retsK, upd, Nat.reduceEqDiff, reduceIte, if_false, if_true, List.nodup_nil, List.nodup_cons, List.not_mem_nil, not_false_eq_true, true_and, and_true, exists_eq_left', Option.some.injEq, rLoad, cellOf, tab, Ty.isAgg, Ty.one, Bool.false_eq_true]
    rw [hb, Bool.false_and] at hQ
    exact hQ


/-- Where one comes to by going from an index to the place of its key, again and again. -/
def itP (xs : List Int) : Nat → Nat → Nat
  | 0, x => x
  | k + 1, x => plN xs (itP xs k x)
theorem itP_lt {xs : List Int} {x : Nat} (h : x < xs.length) : ∀ k, itP xs k x < xs.length
  | 0 => h
  | k + 1 => plN_lt (itP_lt h k)
theorem itP_add {xs : List Int} {x : Nat} : ∀ j k, itP xs (j + k) x = itP xs j (itP xs k x)
  | 0, k => by rw [Nat.zero_add]; rfl
  | j + 1, k => by rw [show j + 1 + k = (j + k) + 1 by omega]; show plN xs _ = plN xs _; rw [itP_add j k]
theorem itP_inj {xs : List Int} {a b : Nat} (ha : a < xs.length) (hb : b < xs.length) : ∀ k, itP xs k a = itP xs k b → a = b
  | 0, h => h
  | k + 1, h => itP_inj ha hb k (plN_inj (itP_lt ha k) (itP_lt hb k) h)
theorem itP_ret {xs : List Int} {x : Nat} (h : x < xs.length) : ∃ p, 0 < p ∧ p ≤ xs.length ∧ itP xs p x = x := by
  refine Classical.byContradiction fun hn => ?_
  have := no_inj xs.length (xs.length + 1) (fun k => itP xs k x) (fun k _ => itP_lt h k) (fun a b ha hb hab => by
    have key : ∀ a b, a < b → b < xs.length + 1 → itP xs a x = itP xs b x → False := fun a b h1 h2 h3 => by
      refine hn ⟨b - a, by omega, by omega, ?_⟩
      rw [show b = a + (b - a) by omega, itP_add] at h3
      exact (itP_inj h (itP_lt h _) a h3).symm
    rcases Nat.lt_trichotomy a b with h1 | h1 | h1
    · exact (key a b h1 hb hab).elim
    · exact h1
    · exact (key b a h1 ha hab.symm).elim)
  omega
theorem itP_mul {xs : List Int} {x p : Nat} (h : itP xs p x = x) : ∀ m, itP xs (m * p) x = x
  | 0 => by rw [Nat.zero_mul]; rfl
  | m + 1 => by rw [Nat.succ_mul, itP_add, h, itP_mul h m]
theorem itP_mod {xs : List Int} {x p : Nat} (h : itP xs p x = x) (k : Nat) : itP xs k x = itP xs (k % p) x := by
  have h1 : itP xs (k % p + k / p * p) x = itP xs (k % p) x := by rw [itP_add, itP_mul h]
  have h2 : k % p + k / p * p = k := by have := Nat.mod_add_div k p; rw [Nat.mul_comm] at this; exact this
  rw [h2] at h1
  exact h1
theorem itP_back {xs : List Int} {a k : Nat} (ha : a < xs.length) : ∃ m, itP xs m (itP xs k a) = a := by
  obtain ⟨p, hp, _, hpa⟩ := itP_ret ha
  refine ⟨k * p - k, ?_⟩
  rw [← itP_add, show k * p - k + k = k * p by have := Nat.le_mul_of_pos_right k hp; omega]
  exact itP_mul hpa k
/-- An index is the least of its circle. -/
def lstB (xs : List Int) (x : Nat) : Bool := (List.range xs.length).all fun k => decide (x ≤ itP xs k x)
theorem lstB_iff {xs : List Int} {x : Nat} (h : x < xs.length) : lstB xs x = true ↔ ∀ k, x ≤ itP xs k x := by
  unfold lstB
  rw [List.all_eq_true]
  constructor
  · intro h1 k
    obtain ⟨p, hp, hpn, hpx⟩ := itP_ret h
    rw [itP_mod hpx k]
    have := h1 (k % p) (List.mem_range.2 (by have := Nat.mod_lt k hp; omega))
    simpa using this
  · intro h1 k _; simpa using h1 k
def cirN (xs : List Int) : Nat → Int
  | 0 => 0
  | i + 1 => cirN xs i + (if lstB xs i = true then 1 else 0)
theorem cirN_in (xs : List Int) : ∀ i, 0 ≤ cirN xs i ∧ cirN xs i ≤ i
  | 0 => by simp [cirN]
  | i + 1 => by have := cirN_in xs i; rw [cirN]; split <;> omega
theorem lst_loop {xs : List Int} {x k : Nat} {b : Bool} (h : x < xs.length) (hk : 0 < k) (hx : itP xs k x = x) (hne : ∀ j, 0 < j → j < k → itP xs j x ≠ x) (hb : b = true ↔ ∀ j, 0 < j → j < k → x < itP xs j x) : lstB xs x = b := by
  have : lstB xs x = true ↔ b = true := by
    rw [lstB_iff h, hb]
    constructor
    · intro h1 j h2 h3
      have h4 := h1 j
      have h5 := hne j h2 h3
      omega
    · intro h1 m
      rw [itP_mod hx m]
      rcases Nat.eq_zero_or_pos (m % k) with h2 | h2
      · rw [h2]; exact Nat.le_refl _
      · have := h1 (m % k) h2 (Nat.mod_lt m hk); omega
  cases b <;> simp_all
/-- An index that lies in the circle of one under i. -/
def seenP (xs : List Int) (i a : Nat) : Prop := ∃ b, b < i ∧ ∃ k, itP xs k b = a
theorem seen_lst {xs : List Int} {i : Nat} (h : i < xs.length) : lstB xs i = true ↔ ¬ seenP xs i i := by
  rw [lstB_iff h]
  constructor
  · rintro h1 ⟨b, hb, k, hk⟩
    obtain ⟨m, hm⟩ := itP_back (xs := xs) (a := b) (k := k) (by omega)
    rw [hk] at hm
    have := h1 m
    omega
  · intro h1 k
    rcases Nat.lt_or_ge (itP xs k i) i with h2 | h2
    · obtain ⟨m, hm⟩ := itP_back (xs := xs) (k := k) h
      exact (h1 ⟨_, h2, m, hm⟩).elim
    · exact h2
theorem seen_exit {xs : List Int} {i k : Nat} (h : i < xs.length) (hs : seenP xs i (itP xs k i) ∨ ∃ j, j < k ∧ itP xs j i = itP xs k i) (a : Nat) : (seenP xs i a ∨ ∃ j, j < k ∧ itP xs j i = a) ↔ seenP xs (i + 1) a := by
  constructor
  · rintro (⟨b, hb, m, hm⟩ | ⟨j, _, hj⟩)
    · exact ⟨b, by omega, m, hm⟩
    · exact ⟨i, by omega, j, hj⟩
  · rintro ⟨b, hb, m, hm⟩
    rcases Nat.lt_or_ge b i with h1 | h1
    · exact .inl ⟨b, h1, m, hm⟩
    · obtain rfl : b = i := by omega
      rcases hs with ⟨c, hc, q, hq⟩ | ⟨j, hj, hjk⟩
      · obtain ⟨r, hr⟩ := itP_back (xs := xs) (k := k) h
        refine .inl ⟨c, hc, m + (r + q), ?_⟩
        rw [itP_add, itP_add, hq, hr, hm]
      · have hp : itP xs (k - j) b = b := by
          have : itP xs k b = itP xs j (itP xs (k - j) b) := by rw [← itP_add]; congr 1; omega
          rw [this] at hjk
          exact (itP_inj h (itP_lt h _) j hjk).symm
        refine .inr ⟨m % (k - j), ?_, ?_⟩
        · have := Nat.mod_lt m (show 0 < k - j by omega); omega
        · rw [← itP_mod hp, hm]
theorem pl_cast {xs : List Int} {a : Nat} (h : a < xs.length) : (placesL xs).getD a 0 = (plN xs a : Int) := by
  rw [placesL_get h]; unfold plN; have := plC_nonneg xs a xs.length; omega
theorem getB_same {l : List Bool} {i : Nat} {b : Bool} (h : i < l.length) : (l.set i b).getD i false = b := by simp [List.getD_eq_getElem?_getD, h]
theorem getB_ne {l : List Bool} {i j : Nat} {b : Bool} (h : i ≠ j) : (l.set i b).getD j false = l.getD j false := by simp [List.getD_eq_getElem?_getD, List.getElem?_set_ne h]
theorem getB_rep {n j : Nat} : (List.replicate n false).getD j false = false := by
  rw [List.getD_eq_getElem?_getD, List.getElem?_replicate]; split <;> rfl


theorem bits_xor_in (a b : Int) (ha : 0 ≤ a ∧ a < 2147483648) (hb : 0 ≤ b ∧ b < 2147483648) : 0 ≤ bits .xor .i64 a b ∧ bits .xor .i64 a b < 2147483648 := by
  obtain ⟨m, rfl⟩ := Int.eq_ofNat_of_zero_le ha.1
  obtain ⟨k, rfl⟩ := Int.eq_ofNat_of_zero_le hb.1
  have hx : m ^^^ k < 2 ^ 31 := Nat.xor_lt_two_pow (by omega) (by omega)
  have h1 : (BitVec.ofInt 64 (m : Int) ^^^ BitVec.ofInt 64 (k : Int)).toNat = m ^^^ k := by
    rw [BitVec.toNat_xor, BitVec.ofInt_natCast, BitVec.ofInt_natCast, BitVec.toNat_ofNat, BitVec.toNat_ofNat, Nat.mod_eq_of_lt (by omega), Nat.mod_eq_of_lt (by omega)]
  have h2 : IntKind.i64.wrap ((m ^^^ k : Nat) : Int) = ((m ^^^ k : Nat) : Int) := wrap_in (show -9223372036854775808 ≤ ((m ^^^ k : Nat) : Int) ∧ ((m ^^^ k : Nat) : Int) ≤ 9223372036854775807 by omega)
  have h3 : bits .xor .i64 (m : Int) (k : Int) = ((m ^^^ k : Nat) : Int) := by
    show IntKind.i64.wrap ((BitVec.ofInt 64 (m : Int) ^^^ BitVec.ofInt 64 (k : Int)).toNat : Int) = _
    rw [h1, h2]
  rw [h3]; omega


/-- What a list of bytes is. -/
def bytesOk (bs : List Int) : Prop := ∀ j, 0 ≤ bs.getD j 0 ∧ bs.getD j 0 ≤ 255

theorem row_bytes {w : World} {a : Option Addr} {len cap : Nat} {zs : List Int} (h : IsRow .u8 w a len cap zs) : bytesOk (zs.take len) := by
  have hin : ∀ n ∈ zs, 0 ≤ n ∧ n ≤ 255 := by
    rcases h with ⟨_, _, _, rfl⟩ | ⟨x, _, _, _, _, _, h6⟩
    · intro n hn; cases hn
    · intro n hn
      have := h6 n hn
      simp only [Lit.wf, IntKind.min, IntKind.max, IntKind.signed, IntKind.bits, Bool.and_eq_true, decide_eq_true_eq, Bool.false_eq_true, if_false] at this
      omega
  intro j
  rw [List.getD_eq_getElem?_getD]
  cases e : (zs.take len)[j]? with
  | none => simp
  | some v =>
    have h1 := List.mem_of_getElem? e
    have := hin v (List.mem_of_mem_take h1)
    simpa using this


end Go.Proofs.Ytcpjbniehenmoaa
