/- Contracts of functions of the program. -/
import Derived.Test.YthknhcgdbpgcjaaTab
import Derived.ScopeJumps
namespace Go.Proofs.Ythknhcgdbpgcjaa
open Go Go.Ab
set_option linter.all false
set_option maxHeartbeats 4000000
attribute [go_sem] AV.parts List.length_set List.set_cons_zero List.set_cons_succ List.getElem?_cons_zero List.getElem?_cons_succ Option.any_some Nat.lt_add_one tab List.nil_append List.append_nil

theorem inRange_sat : Sat Try.prog 53 (fun ds Q => ∃ n lo hi, ds = [.val (.int .i64 n), .val (.int .i64 lo), .val (.int .i64 hi)] ∧ Q (.val (.bool (decide (lo ≤ n) && decide (n ≤ hi))))) := by
  refine sat_intro tabOk Try.func53 rfl 15 rfl [.tmp 6] rfl ?_
  rintro ds Q W ⟨n, lo, hi, rfl, hQ⟩
  refine ⟨Nat.le_of_ble_eq_true rfl, ?_⟩
  simp only [initS, initT, mat.matL, mat]
  repeat' (first | refine awp_seq_k fun K hK => ?_ | ((with_reducible refine hK _ ?_); clear hK K) | (clear hK K; (with_reducible refine hK _ ?_); clear hK K) | (clear hK K; clear hK K; (with_reducible refine hK _ ?_); clear hK K) | (clear hK K; clear hK K; clear hK K; (with_reducible refine hK _ ?_); clear hK K) | (clear hK K; clear hK K; clear hK K; clear hK K; (with_reducible refine hK _ ?_); clear hK K) | (clear hK K; clear hK K; clear hK K; clear hK K; clear hK K; (with_reducible refine hK _ ?_); clear hK K) | ((with_reducible refine aord_plain fun K hK => ?_); simp only [go_sem, Nat.reduceAdd, Nat.reduceMul, Nat.reduceEqDiff, Nat.reduceLT, reduceIte, reduceCtorEq]) | ((with_reducible apply aord_guard); (focus (simp only [St.ev, St.set, upd, Nat.reduceEqDiff, reduceIte, if_false, if_true]; exact rfl)); all_goals (intro hb; (try simp only [Bool.not_true, Bool.not_false] at hb); first | (cases hb; done) | ((try rw [hb]); (try simp only [Bool.not_eq_true', Bool.not_eq_false', Bool.and_eq_true, decide_eq_true_eq, decide_eq_false_iff_not, beq_iff_eq, bne_iff_ne, beq_eq_false_iff_ne, bne_eq_false_iff_eq, Int.not_lt, Int.not_le] at hb); (try (revert hb; with_reducible refine true_imp_iff.2 ?_)); first | (intro K hK; simp only [go_sem, Nat.reduceAdd, Nat.reduceMul, Nat.reduceEqDiff, Nat.reduceLT, reduceIte, reduceCtorEq]) | (simp only [St.ev, St.set, upd, Nat.reduceEqDiff, reduceIte, if_false, if_true]) | skip))) | ((with_reducible apply aord_skip); (focus (simp only [St.ev, St.set, upd, Nat.reduceEqDiff, reduceIte, if_false, if_true]; done)); (simp only [St.ev, St.set, upd, Nat.reduceEqDiff, reduceIte, if_false, if_true])) | refine awp_block ?_ | ((first | with_reducible refine aord_nil ?_ | refine awp_skip ?_ | refine awp_exit ?_ | refine awp_ret ?_); try simp only [thenA_normal, thenA_exit, thenA_goto, thenA_ret, blockA_normal, blockA_same, blockA_exit, blockA_goto, blockA_ret, Nat.reduceEqDiff, if_false, if_true, reduceIte]) | (refine awp_region tabOk rfl ?_; simp only [prep, pickO, List.map_cons, List.map_nil, List.getElem?_toArray, List.getElem?_cons_succ, List.getElem?_cons_zero, Option.bind_some, Option.map_some]) | ((with_reducible refine And.intro ?_ ?_); (focus omega)) | ((with_reducible refine And.intro ?_ ?_); (focus (exact rfl))) | (with_reducible refine And.intro (fun hb => ?_) (fun hb => ?_)) | (exfalso; omega) | fail)
  all_goals simp only [St.set, St.ev, doneQ, doneH, ressK, resK, wrapR, AV.ids, AV.idsL, retK, retsK, upd, Nat.reduceEqDiff, reduceIte, if_false, if_true, List.nodup_nil, List.nodup_cons, List.not_mem_nil, not_false_eq_true, true_and, and_true, exists_eq_left', Option.some.injEq, rLoad, cellOf, tab, Ty.isAgg, Ty.one, Bool.false_eq_true]
  · simp_all
  · simpa [show ¬ lo ≤ n by omega] using hQ



def inB (n : Int) : Bool := decide (-99 ≤ n) && decide (n ≤ 99)
def validB (xs : List Int) : Bool := xs.all inB && decide (xs.length ≤ 8)

theorem validKeys_sat : Sat Try.prog 40 (fun ds Q => ∃ xs, ds = [.row (.ints .i64 xs)] ∧ xs.length ≤ 1099511627776 ∧ Q (.val (.bool (validB xs)))) := by
  refine sat_intro tabOk Try.func40 rfl 19 rfl [.tmp 2] rfl ?_
  rintro ds Q W ⟨xs, rfl, hlen, hQ⟩
  refine ⟨Nat.le_of_ble_eq_true rfl, ?_⟩
  simp only [initS, initT, mat.matL, mat, Cont.len]
  repeat' (first | refine awp_seq_k fun K hK => ?_ | ((with_reducible refine hK _ ?_); clear hK K) | (clear hK K; (with_reducible refine hK _ ?_); clear hK K) | (clear hK K; clear hK K; (with_reducible refine hK _ ?_); clear hK K) | (clear hK K; clear hK K; clear hK K; (with_reducible refine hK _ ?_); clear hK K) | (clear hK K; clear hK K; clear hK K; clear hK K; (with_reducible refine hK _ ?_); clear hK K) | (clear hK K; clear hK K; clear hK K; clear hK K; clear hK K; (with_reducible refine hK _ ?_); clear hK K) | ((with_reducible refine aord_plain fun K hK => ?_); simp only [go_sem, Nat.reduceAdd, Nat.reduceMul, Nat.reduceEqDiff, Nat.reduceLT, reduceIte, reduceCtorEq]) | refine awp_block ?_ | ((first | with_reducible refine aord_nil ?_ | refine awp_skip ?_ | refine awp_exit ?_ | refine awp_ret ?_); try simp only [thenA_normal, thenA_exit, thenA_goto, thenA_ret, blockA_normal, blockA_same, blockA_exit, blockA_goto, blockA_ret, Nat.reduceEqDiff, if_false, if_true, reduceIte]) | (refine awp_region tabOk rfl ?_; simp only [prep, pickO, List.map_cons, List.map_nil, List.getElem?_toArray, List.getElem?_cons_succ, List.getElem?_cons_zero, Option.bind_some, Option.map_some]) | ((with_reducible apply awp_cond); (focus (simp only [St.ev, St.set, upd, Nat.reduceEqDiff, reduceIte, if_false, if_true]; exact rfl)); all_goals (intro hb; first | (cases hb; done) | ((try rw [hb]); (try simp only [decide_eq_true_eq, decide_eq_false_iff_not, beq_iff_eq, bne_iff_ne, beq_eq_false_iff_ne, bne_eq_false_iff_eq, Int.not_lt, Int.not_le, Bool.not_eq_true', Bool.not_eq_false'] at hb)))) | ((with_reducible refine And.intro ?_ ?_); (focus omega)) | ((with_reducible refine And.intro ?_ ?_); (focus (exact rfl))) | ((with_reducible refine And.intro (?_ : enters Try.prog 53) ?_); (focus exact Try.call53); (refine callX_sat inRange_sat ?_); simp only [go_sem, and_assoc, List.nil_append, List.append_nil, List.cons_append, Nat.reduceEqDiff, reduceIte, reduceCtorEq]) | (with_reducible refine And.intro (fun hb => ?_) (fun hb => ?_)) | (exfalso; omega) | fail)
  · refine awp_loop (fun i : Nat => ⟨upd (upd (upd bot 3 (.val (.int .i64 i))) 2 (.val (.bool false))) 0 (.sl 0 0 xs.length 1 none), upd none' 0 (some ⟨false, .ints .i64 xs⟩), 1⟩) (fun i => i ≤ xs.length ∧ ∀ j, j < i → inB (xs.getD j 0) = true) (fun i => xs.length - i) 0 ⟨by omega, by omega⟩ ?_ ?_
    · (apply Wk.same; (case' h2 => (focus ((repeat' (with_reducible first | exact HeapX.bot | (apply HeapX.skip; (case hx => (simp; done))) | apply HeapX.none | apply HeapX.upd)); all_goals (first | rfl | exact Nat.le_of_ble_eq_true rfl | (simp only [St.set, St.ev, upd, ren, renL, id, Nat.reduceEqDiff, reduceIte, ContLe]; done) | (exact And.intro rfl (And.intro (by first | exact Nat.le_of_ble_eq_true rfl | omega) (by first | exact Nat.le_of_ble_eq_true rfl | omega))) | (first | (simp only [St.set, St.ev, upd, ren, renL, id, Nat.reduceEqDiff, reduceIte]; exact contLe_nil) | ((repeat' (first | exact contLe_nil | refine contLe_cons (.inr ⟨?_, rfl⟩) ?_)); all_goals (first | rfl | (simp only [St.set, St.ev, upd, ren, renL, id, Nat.reduceEqDiff, reduceIte]; done) | ((try simp only [St.set, St.ev, upd, ren, renL, id, Nat.reduceEqDiff, reduceIte]); first | (with_reducible exact av_int (by omega)) | (with_reducible exact av_sl (by first | omega | (simp; done) | (simp; omega)) (by first | omega | (simp; done) | (simp; omega)))) | (simp only [St.set, St.ev, upd, ren, renL, id, Nat.reduceEqDiff, reduceIte, Int.natCast_add, Int.natCast_one, Int.cast_ofNat_Int, Int.natCast_zero]; done) | (simp only [St.set, St.ev, upd, ren, renL, id, Nat.reduceEqDiff, reduceIte]) | skip); done)) | (simp only [St.set, St.ev, upd, ren, renL, id, Nat.reduceEqDiff, reduceIte, ContLe]) | skip)))); (case' h1 => (focus ((repeat' (with_reducible first | exact TmpLe.bot | refine TmpLe.upd ?_ rfl ?_)); all_goals (first | rfl | (simp only [St.set, St.ev, upd, ren, renL, id, Nat.reduceEqDiff, reduceIte]; done) | ((try simp only [St.set, St.ev, upd, ren, renL, id, Nat.reduceEqDiff, reduceIte]); first | (with_reducible exact av_int (by omega)) | (with_reducible exact av_sl (by first | omega | (simp; done) | (simp; omega)) (by first | omega | (simp; done) | (simp; omega)))) | (simp only [St.set, St.ev, upd, ren, renL, id, Nat.reduceEqDiff, reduceIte, Int.natCast_add, Int.natCast_one, Int.cast_ofNat_Int, Int.natCast_zero]; done) | (simp only [St.set, St.ev, upd, ren, renL, id, Nat.reduceEqDiff, reduceIte]) | skip)))); (case h3 => (focus (first | (simp only [id, List.map_cons, List.map_nil]; decide) | decide | (simp; done) | (simp; omega) | fail))); (case h4 => (intro o l h; first | (cases h; done) | (have hlt0 := m0_lt (by assumption) h; (try (simp only at hlt0)); first | omega | (simp only; omega) | exact ⟨by (first | rfl | (simp only [id]; done) | ((repeat rw [if_neg (by omega)]); done)), by first | omega | (simp only; omega)⟩))))
    · rintro i ⟨hi, hj⟩
      repeat' (first | refine awp_seq_k fun K hK => ?_ | ((with_reducible refine hK _ ?_); clear hK K) | (clear hK K; (with_reducible refine hK _ ?_); clear hK K) | (clear hK K; clear hK K; (with_reducible refine hK _ ?_); clear hK K) | (clear hK K; clear hK K; clear hK K; (with_reducible refine hK _ ?_); clear hK K) | (clear hK K; clear hK K; clear hK K; clear hK K; (with_reducible refine hK _ ?_); clear hK K) | (clear hK K; clear hK K; clear hK K; clear hK K; clear hK K; (with_reducible refine hK _ ?_); clear hK K) | ((with_reducible refine aord_plain fun K hK => ?_); simp only [go_sem, Nat.reduceAdd, Nat.reduceMul, Nat.reduceEqDiff, Nat.reduceLT, reduceIte, reduceCtorEq]) | refine awp_block ?_ | ((first | with_reducible refine aord_nil ?_ | refine awp_skip ?_ | refine awp_exit ?_ | refine awp_ret ?_); try simp only [thenA_normal, thenA_exit, thenA_goto, thenA_ret, blockA_normal, blockA_same, blockA_exit, blockA_goto, blockA_ret, Nat.reduceEqDiff, if_false, if_true, reduceIte]) | (refine awp_region tabOk rfl ?_; simp only [prep, pickO, List.map_cons, List.map_nil, List.getElem?_toArray, List.getElem?_cons_succ, List.getElem?_cons_zero, Option.bind_some, Option.map_some]) | ((with_reducible apply awp_cond); (focus (simp only [St.ev, St.set, upd, Nat.reduceEqDiff, reduceIte, if_false, if_true]; exact rfl)); all_goals (intro hb; first | (cases hb; done) | ((try rw [hb]); (try simp only [decide_eq_true_eq, decide_eq_false_iff_not, beq_iff_eq, bne_iff_ne, beq_eq_false_iff_ne, bne_eq_false_iff_eq, Int.not_lt, Int.not_le, Bool.not_eq_true', Bool.not_eq_false'] at hb)))) | ((with_reducible refine And.intro ?_ ?_); (focus omega)) | ((with_reducible refine And.intro ?_ ?_); (focus (exact rfl))) | ((with_reducible refine And.intro (?_ : enters Try.prog 53) ?_); (focus exact Try.call53); (refine callX_sat inRange_sat ?_); simp only [go_sem, and_assoc, List.nil_append, List.append_nil, List.cons_append, Nat.reduceEqDiff, reduceIte, reduceCtorEq]) | (with_reducible refine And.intro (fun hb => ?_) (fun hb => ?_)) | (exfalso; omega) | fail)
      · simp only [St.set, St.ev, doneQ, doneH, ressK, resK, wrapR, AV.ids, AV.idsL, retK, retsK, upd, Nat.reduceEqDiff, reduceIte, if_false, if_true, List.nodup_nil, List.nodup_cons, List.not_mem_nil, not_false_eq_true, true_and, and_true, exists_eq_left', Option.some.injEq, rLoad, cellOf, tab, Ty.isAgg, Ty.one, Bool.false_eq_true]
        have : validB xs = false := by
          unfold validB
          rw [Bool.and_eq_false_iff]
          left
          rw [List.all_eq_false]
          refine ⟨xs.getD i 0, ?_, ?_⟩
          · rw [List.getD_eq_getElem?_getD, List.getElem?_eq_getElem (by omega)]; simp
          · simp only [inB, hb]; simp
        rw [this] at hQ
        exact hQ
      · refine ⟨i + 1, ⟨by omega, fun j hj' => ?_⟩, by omega, ?_⟩
        · rcases Nat.lt_or_ge j i with h | h
          · exact hj j h
          · have : j = i := by omega
            subst this
            exact hb
        · (apply Wk.same; (case' h2 => (focus ((repeat' (with_reducible first | exact HeapX.bot | (apply HeapX.skip; (case hx => (simp; done))) | apply HeapX.none | apply HeapX.upd)); all_goals (first | rfl | exact Nat.le_of_ble_eq_true rfl | (simp only [St.set, St.ev, upd, ren, renL, id, Nat.reduceEqDiff, reduceIte, ContLe]; done) | (exact And.intro rfl (And.intro (by first | exact Nat.le_of_ble_eq_true rfl | omega) (by first | exact Nat.le_of_ble_eq_true rfl | omega))) | (first | (simp only [St.set, St.ev, upd, ren, renL, id, Nat.reduceEqDiff, reduceIte]; exact contLe_nil) | ((repeat' (first | exact contLe_nil | refine contLe_cons (.inr ⟨?_, rfl⟩) ?_)); all_goals (first | rfl | (simp only [St.set, St.ev, upd, ren, renL, id, Nat.reduceEqDiff, reduceIte]; done) | ((try simp only [St.set, St.ev, upd, ren, renL, id, Nat.reduceEqDiff, reduceIte]); first | (with_reducible exact av_int (by omega)) | (with_reducible exact av_sl (by first | omega | (simp; done) | (simp; omega)) (by first | omega | (simp; done) | (simp; omega)))) | (simp only [St.set, St.ev, upd, ren, renL, id, Nat.reduceEqDiff, reduceIte, Int.natCast_add, Int.natCast_one, Int.cast_ofNat_Int, Int.natCast_zero]; done) | (simp only [St.set, St.ev, upd, ren, renL, id, Nat.reduceEqDiff, reduceIte]) | skip); done)) | (simp only [St.set, St.ev, upd, ren, renL, id, Nat.reduceEqDiff, reduceIte, ContLe]) | skip)))); (case' h1 => (focus ((repeat' (with_reducible first | exact TmpLe.bot | refine TmpLe.upd ?_ rfl ?_)); all_goals (first | rfl | (simp only [St.set, St.ev, upd, ren, renL, id, Nat.reduceEqDiff, reduceIte]; done) | ((try simp only [St.set, St.ev, upd, ren, renL, id, Nat.reduceEqDiff, reduceIte]); first | (with_reducible exact av_int (by omega)) | (with_reducible exact av_sl (by first | omega | (simp; done) | (simp; omega)) (by first | omega | (simp; done) | (simp; omega)))) | (simp only [St.set, St.ev, upd, ren, renL, id, Nat.reduceEqDiff, reduceIte, Int.natCast_add, Int.natCast_one, Int.cast_ofNat_Int, Int.natCast_zero]; done) | (simp only [St.set, St.ev, upd, ren, renL, id, Nat.reduceEqDiff, reduceIte]) | skip)))); (case h3 => (focus (first | (simp only [id, List.map_cons, List.map_nil]; decide) | decide | (simp; done) | (simp; omega) | fail))); (case h4 => (intro o l h; first | (cases h; done) | (have hlt0 := m0_lt (by assumption) h; (try (simp only at hlt0)); first | omega | (simp only; omega) | exact ⟨by (first | rfl | (simp only [id]; done) | ((repeat rw [if_neg (by omega)]); done)), by first | omega | (simp only; omega)⟩))))
      · simp only [St.set, St.ev, doneQ, doneH, ressK, resK, wrapR, AV.ids, AV.idsL, retK, retsK, upd, Nat.reduceEqDiff, reduceIte, if_false, if_true, List.nodup_nil, List.nodup_cons, List.not_mem_nil, not_false_eq_true, true_and, and_true, exists_eq_left', Option.some.injEq, rLoad, cellOf, tab, Ty.isAgg, Ty.one, Bool.false_eq_true]
        have hi' : i = xs.length := by omega
        have : validB xs = decide (xs.length ≤ 8) := by
          unfold validB
          have : xs.all inB = true := by
            rw [List.all_eq_true]
            intro x hx
            obtain ⟨j, hj1, hj2⟩ := List.mem_iff_getElem.1 hx
            have := hj j (by omega)
            rw [List.getD_eq_getElem?_getD, List.getElem?_eq_getElem hj1] at this
            simpa [hj2] using this
          rw [this, Bool.true_and]
        rw [this] at hQ
        have e : decide ((xs.length : Int) ≤ 8) = decide (xs.length ≤ 8) := by apply decide_eq_decide.2; omega
        rw [e]
        exact hQ

theorem getD_set_same {α : Type} {l : List α} {i : Nat} {a d : α} (h : i < l.length) : (l.set i a).getD i d = a := by simp [List.getD_eq_getElem?_getD, h]
theorem getD_set_ne' {α : Type} {l : List α} {i j : Nat} {a d : α} (h : i ≠ j) : (l.set i a).getD j d = l.getD j d := by simp [List.getD_eq_getElem?_getD, List.getElem?_set_ne h]
theorem ext_getD {l m : List Int} (h : l.length = m.length) (hh : ∀ j, j < l.length → l.getD j 0 = m.getD j 0) : l = m := by
  apply List.ext_getElem h
  intro j h1 h2
  have := hh j h1
  simpa [List.getD_eq_getElem?_getD, h1, h2] using this


theorem valid_all {xs : List Int} (h8 : xs.length ≤ 8) (h : ∀ j, j < xs.length → inB (xs.getD j 0) = true) : validB xs = true := by
  unfold validB
  rw [decide_eq_true h8, Bool.and_true, List.all_eq_true]
  intro x hx
  obtain ⟨j, hj1, hj2⟩ := List.mem_iff_getElem.1 hx
  have := h j hj1
  rw [List.getD_eq_getElem?_getD, List.getElem?_eq_getElem hj1] at this
  simpa [hj2] using this
theorem valid_not {xs : List Int} {i : Nat} (hi : i < xs.length) (h : inB (xs.getD i 0) = false) : validB xs = false := by
  unfold validB
  rw [Bool.and_eq_false_iff]
  left
  rw [List.all_eq_false]
  refine ⟨xs.getD i 0, ?_, by rw [h]; simp⟩
  rw [List.getD_eq_getElem?_getD, List.getElem?_eq_getElem hi]; simp


theorem implValidKeys_sat : Sat Try.prog 13 (fun ds Q => ∃ xs, ds = [.row (.ints .i64 xs)] ∧ xs.length ≤ 1099511627776 ∧ Q (.val (.bool (validB xs)))) := by
  refine sat_intro tabOk Try.func13 rfl 21 rfl [.tmp 2] rfl ?_
  rintro ds Q W ⟨xs, rfl, hlen, hQ⟩
  refine ⟨Nat.le_of_ble_eq_true rfl, ?_⟩
  simp only [initS, initT, mat.matL, mat, Cont.len]
  repeat' (first | refine awp_seq_k fun K hK => ?_ | ((with_reducible refine hK _ ?_); clear hK K) | (clear hK K; (with_reducible refine hK _ ?_); clear hK K) | (clear hK K; clear hK K; (with_reducible refine hK _ ?_); clear hK K) | (clear hK K; clear hK K; clear hK K; (with_reducible refine hK _ ?_); clear hK K) | (clear hK K; clear hK K; clear hK K; clear hK K; (with_reducible refine hK _ ?_); clear hK K) | (clear hK K; clear hK K; clear hK K; clear hK K; clear hK K; (with_reducible refine hK _ ?_); clear hK K) | ((with_reducible refine aord_plain fun K hK => ?_); simp only [go_sem, Nat.reduceAdd, Nat.reduceMul, Nat.reduceEqDiff, Nat.reduceLT, reduceIte, reduceCtorEq]) | ((with_reducible apply aord_guard); (focus (simp only [St.ev, St.set, upd, Nat.reduceEqDiff, reduceIte, if_false, if_true]; exact rfl)); all_goals (intro hb; (try simp only [Bool.not_true, Bool.not_false] at hb); first | (cases hb; done) | ((try rw [hb]); (try simp only [Bool.not_eq_true', Bool.not_eq_false', Bool.and_eq_true, decide_eq_true_eq, decide_eq_false_iff_not, beq_iff_eq, bne_iff_ne, beq_eq_false_iff_ne, bne_eq_false_iff_eq, Int.not_lt, Int.not_le] at hb); (try (revert hb; with_reducible refine true_imp_iff.2 ?_)); first | (intro K hK; simp only [go_sem, Nat.reduceAdd, Nat.reduceMul, Nat.reduceEqDiff, Nat.reduceLT, reduceIte, reduceCtorEq]) | (simp only [St.ev, St.set, upd, Nat.reduceEqDiff, reduceIte, if_false, if_true]) | skip))) | ((with_reducible apply aord_skip); (focus (simp only [St.ev, St.set, upd, Nat.reduceEqDiff, reduceIte, if_false, if_true]; done)); (simp only [St.ev, St.set, upd, Nat.reduceEqDiff, reduceIte, if_false, if_true])) | refine awp_block ?_ | ((first | with_reducible refine aord_nil ?_ | refine awp_skip ?_ | refine awp_exit ?_ | refine awp_ret ?_); try simp only [thenA_normal, thenA_exit, thenA_goto, thenA_ret, blockA_normal, blockA_same, blockA_exit, blockA_goto, blockA_ret, Nat.reduceEqDiff, if_false, if_true, reduceIte]) | (refine awp_region tabOk rfl ?_; simp only [prep, pickO, List.map_cons, List.map_nil, List.getElem?_toArray, List.getElem?_cons_succ, List.getElem?_cons_zero, Option.bind_some, Option.map_some]) | ((with_reducible apply awp_cond); (focus (simp only [St.ev, St.set, upd, Nat.reduceEqDiff, reduceIte, if_false, if_true]; exact rfl)); all_goals (intro hb; first | (cases hb; done) | ((try rw [hb]); (try simp only [decide_eq_true_eq, decide_eq_false_iff_not, beq_iff_eq, bne_iff_ne, beq_eq_false_iff_ne, bne_eq_false_iff_eq, Int.not_lt, Int.not_le, Bool.not_eq_true', Bool.not_eq_false'] at hb)))) | ((with_reducible refine And.intro ?_ ?_); (focus omega)) | ((with_reducible refine And.intro ?_ ?_); (focus (exact rfl))) | (with_reducible refine And.intro (fun hb => ?_) (fun hb => ?_)) | (exfalso; omega) | fail)
  · simp only [St.set, St.ev, doneQ, doneH, ressK, resK, wrapR, AV.ids, AV.idsL, retK, retsK, upd, Nat.reduceEqDiff, reduceIte, if_false, if_true, List.nodup_nil, List.nodup_cons, List.not_mem_nil, not_false_eq_true, true_and, and_true, exists_eq_left', Option.some.injEq, rLoad, cellOf, tab, Ty.isAgg, Ty.one, Bool.false_eq_true]
    have : validB xs = false := by unfold validB; rw [decide_eq_false (by omega)]; simp
    rw [this] at hQ
    exact hQ
  · refine awp_loop (fun i : Nat => ⟨upd (upd (upd bot 10 (.val (.int .i64 i))) 9 (.val (.int .i64 xs.length))) 8 (.sl 0 0 xs.length 1 none), upd none' 0 (some ⟨false, .ints .i64 xs⟩), 1⟩) (fun i => i ≤ xs.length ∧ ∀ j, j < i → inB (xs.getD j 0) = true) (fun i => xs.length - i) 0 ⟨by omega, by omega⟩ ?_ ?_
    · (apply Wk.same; (case' h2 => (focus ((repeat' (with_reducible first | exact HeapX.bot | (apply HeapX.skip; (case hx => (simp; done))) | apply HeapX.none | apply HeapX.upd)); all_goals (first | rfl | exact Nat.le_of_ble_eq_true rfl | (simp only [St.set, St.ev, upd, ren, renL, id, Nat.reduceEqDiff, reduceIte, ContLe]; done) | (exact And.intro rfl (And.intro (by first | exact Nat.le_of_ble_eq_true rfl | omega) (by first | exact Nat.le_of_ble_eq_true rfl | omega))) | (first | (simp only [St.set, St.ev, upd, ren, renL, id, Nat.reduceEqDiff, reduceIte]; exact contLe_nil) | ((repeat' (first | exact contLe_nil | refine contLe_cons (.inr ⟨?_, rfl⟩) ?_)); all_goals (first | rfl | (simp only [St.set, St.ev, upd, ren, renL, id, Nat.reduceEqDiff, reduceIte]; done) | ((try simp only [St.set, St.ev, upd, ren, renL, id, Nat.reduceEqDiff, reduceIte]); first | (with_reducible exact av_int (by omega)) | (with_reducible exact av_sl (by first | omega | (simp; done) | (simp; omega)) (by first | omega | (simp; done) | (simp; omega)))) | (simp only [St.set, St.ev, upd, ren, renL, id, Nat.reduceEqDiff, reduceIte, Int.natCast_add, Int.natCast_one, Int.cast_ofNat_Int, Int.natCast_zero]; done) | (simp only [St.set, St.ev, upd, ren, renL, id, Nat.reduceEqDiff, reduceIte]) | skip); done)) | (simp only [St.set, St.ev, upd, ren, renL, id, Nat.reduceEqDiff, reduceIte, ContLe]) | skip)))); (case' h1 => (focus ((repeat' (with_reducible first | exact TmpLe.bot | refine TmpLe.upd ?_ rfl ?_)); all_goals (first | rfl | (simp only [St.set, St.ev, upd, ren, renL, id, Nat.reduceEqDiff, reduceIte]; done) | ((try simp only [St.set, St.ev, upd, ren, renL, id, Nat.reduceEqDiff, reduceIte]); first | (with_reducible exact av_int (by omega)) | (with_reducible exact av_sl (by first | omega | (simp; done) | (simp; omega)) (by first | omega | (simp; done) | (simp; omega)))) | (simp only [St.set, St.ev, upd, ren, renL, id, Nat.reduceEqDiff, reduceIte, Int.natCast_add, Int.natCast_one, Int.cast_ofNat_Int, Int.natCast_zero]; done) | (simp only [St.set, St.ev, upd, ren, renL, id, Nat.reduceEqDiff, reduceIte]) | skip)))); (case h3 => (focus (first | (simp only [id, List.map_cons, List.map_nil]; decide) | decide | (simp; done) | (simp; omega) | fail))); (case h4 => (intro o l h; first | (cases h; done) | (have hlt0 := m0_lt (by assumption) h; (try (simp only at hlt0)); first | omega | (simp only; omega) | exact ⟨by (first | rfl | (simp only [id]; done) | ((repeat rw [if_neg (by omega)]); done)), by first | omega | (simp only; omega)⟩))))
    · rintro i ⟨hi, hj⟩
      repeat' (first | refine awp_seq_k fun K hK => ?_ | ((with_reducible refine hK _ ?_); clear hK K) | (clear hK K; (with_reducible refine hK _ ?_); clear hK K) | (clear hK K; clear hK K; (with_reducible refine hK _ ?_); clear hK K) | (clear hK K; clear hK K; clear hK K; (with_reducible refine hK _ ?_); clear hK K) | (clear hK K; clear hK K; clear hK K; clear hK K; (with_reducible refine hK _ ?_); clear hK K) | (clear hK K; clear hK K; clear hK K; clear hK K; clear hK K; (with_reducible refine hK _ ?_); clear hK K) | ((with_reducible refine aord_plain fun K hK => ?_); simp only [go_sem, Nat.reduceAdd, Nat.reduceMul, Nat.reduceEqDiff, Nat.reduceLT, reduceIte, reduceCtorEq]) | ((with_reducible apply aord_guard); (focus (simp only [St.ev, St.set, upd, Nat.reduceEqDiff, reduceIte, if_false, if_true]; exact rfl)); all_goals (intro hb; (try simp only [Bool.not_true, Bool.not_false] at hb); first | (cases hb; done) | ((try rw [hb]); (try simp only [Bool.not_eq_true', Bool.not_eq_false', Bool.and_eq_true, decide_eq_true_eq, decide_eq_false_iff_not, beq_iff_eq, bne_iff_ne, beq_eq_false_iff_ne, bne_eq_false_iff_eq, Int.not_lt, Int.not_le] at hb); (try (revert hb; with_reducible refine true_imp_iff.2 ?_)); first | (intro K hK; simp only [go_sem, Nat.reduceAdd, Nat.reduceMul, Nat.reduceEqDiff, Nat.reduceLT, reduceIte, reduceCtorEq]) | (simp only [St.ev, St.set, upd, Nat.reduceEqDiff, reduceIte, if_false, if_true]) | skip))) | ((with_reducible apply aord_skip); (focus (simp only [St.ev, St.set, upd, Nat.reduceEqDiff, reduceIte, if_false, if_true]; done)); (simp only [St.ev, St.set, upd, Nat.reduceEqDiff, reduceIte, if_false, if_true])) | refine awp_block ?_ | ((first | with_reducible refine aord_nil ?_ | refine awp_skip ?_ | refine awp_exit ?_ | refine awp_ret ?_); try simp only [thenA_normal, thenA_exit, thenA_goto, thenA_ret, blockA_normal, blockA_same, blockA_exit, blockA_goto, blockA_ret, Nat.reduceEqDiff, if_false, if_true, reduceIte]) | (refine awp_region tabOk rfl ?_; simp only [prep, pickO, List.map_cons, List.map_nil, List.getElem?_toArray, List.getElem?_cons_succ, List.getElem?_cons_zero, Option.bind_some, Option.map_some]) | ((with_reducible apply awp_cond); (focus (simp only [St.ev, St.set, upd, Nat.reduceEqDiff, reduceIte, if_false, if_true]; exact rfl)); all_goals (intro hb; first | (cases hb; done) | ((try rw [hb]); (try simp only [decide_eq_true_eq, decide_eq_false_iff_not, beq_iff_eq, bne_iff_ne, beq_eq_false_iff_ne, bne_eq_false_iff_eq, Int.not_lt, Int.not_le, Bool.not_eq_true', Bool.not_eq_false'] at hb)))) | ((with_reducible refine And.intro ?_ ?_); (focus omega)) | ((with_reducible refine And.intro ?_ ?_); (focus (exact rfl))) | (with_reducible refine And.intro (fun hb => ?_) (fun hb => ?_)) | (exfalso; omega) | fail)
      · simp only [St.set, St.ev, doneQ, doneH, ressK, resK, wrapR, AV.ids, AV.idsL, retK, retsK, upd, Nat.reduceEqDiff, reduceIte, if_false, if_true, List.nodup_nil, List.nodup_cons, List.not_mem_nil, not_false_eq_true, true_and, and_true, exists_eq_left', Option.some.injEq, rLoad, cellOf, tab, Ty.isAgg, Ty.one, Bool.false_eq_true]
        rw [valid_not (i := i) (by omega) (by unfold inB; rw [decide_eq_false (by omega : ¬ xs.getD i 0 ≤ 99)]; simp)] at hQ
        exact hQ
      · refine ⟨i + 1, ⟨by omega, fun j h => ?_⟩, by omega, ?_⟩
        · rcases Nat.lt_or_ge j i with h1 | h1
          · exact hj j h1
          · have : j = i := by omega
            subst this
            unfold inB
            rw [decide_eq_true (by omega), decide_eq_true (by omega)]; rfl
        · (apply Wk.same; (case' h2 => (focus ((repeat' (with_reducible first | exact HeapX.bot | (apply HeapX.skip; (case hx => (simp; done))) | apply HeapX.none | apply HeapX.upd)); all_goals (first | rfl | exact Nat.le_of_ble_eq_true rfl | (simp only [St.set, St.ev, upd, ren, renL, id, Nat.reduceEqDiff, reduceIte, ContLe]; done) | (exact And.intro rfl (And.intro (by first | exact Nat.le_of_ble_eq_true rfl | omega) (by first | exact Nat.le_of_ble_eq_true rfl | omega))) | (first | (simp only [St.set, St.ev, upd, ren, renL, id, Nat.reduceEqDiff, reduceIte]; exact contLe_nil) | ((repeat' (first | exact contLe_nil | refine contLe_cons (.inr ⟨?_, rfl⟩) ?_)); all_goals (first | rfl | (simp only [St.set, St.ev, upd, ren, renL, id, Nat.reduceEqDiff, reduceIte]; done) | ((try simp only [St.set, St.ev, upd, ren, renL, id, Nat.reduceEqDiff, reduceIte]); first | (with_reducible exact av_int (by omega)) | (with_reducible exact av_sl (by first | omega | (simp; done) | (simp; omega)) (by first | omega | (simp; done) | (simp; omega)))) | (simp only [St.set, St.ev, upd, ren, renL, id, Nat.reduceEqDiff, reduceIte, Int.natCast_add, Int.natCast_one, Int.cast_ofNat_Int, Int.natCast_zero]; done) | (simp only [St.set, St.ev, upd, ren, renL, id, Nat.reduceEqDiff, reduceIte]) | skip); done)) | (simp only [St.set, St.ev, upd, ren, renL, id, Nat.reduceEqDiff, reduceIte, ContLe]) | skip)))); (case' h1 => (focus ((repeat' (with_reducible first | exact TmpLe.bot | refine TmpLe.upd ?_ rfl ?_)); all_goals (first | rfl | (simp only [St.set, St.ev, upd, ren, renL, id, Nat.reduceEqDiff, reduceIte]; done) | ((try simp only [St.set, St.ev, upd, ren, renL, id, Nat.reduceEqDiff, reduceIte]); first | (with_reducible exact av_int (by omega)) | (with_reducible exact av_sl (by first | omega | (simp; done) | (simp; omega)) (by first | omega | (simp; done) | (simp; omega)))) | (simp only [St.set, St.ev, upd, ren, renL, id, Nat.reduceEqDiff, reduceIte, Int.natCast_add, Int.natCast_one, Int.cast_ofNat_Int, Int.natCast_zero]; done) | (simp only [St.set, St.ev, upd, ren, renL, id, Nat.reduceEqDiff, reduceIte]) | skip)))); (case h3 => (focus (first | (simp only [id, List.map_cons, List.map_nil]; decide) | decide | (simp; done) | (simp; omega) | fail))); (case h4 => (intro o l h; first | (cases h; done) | (have hlt0 := m0_lt (by assumption) h; (try (simp only at hlt0)); first | omega | (simp only; omega) | exact ⟨by (first | rfl | (simp only [id]; done) | ((repeat rw [if_neg (by omega)]); done)), by first | omega | (simp only; omega)⟩))))
      · simp only [St.set, St.ev, doneQ, doneH, ressK, resK, wrapR, AV.ids, AV.idsL, retK, retsK, upd, Nat.reduceEqDiff, reduceIte, if_false, if_true, List.nodup_nil, List.nodup_cons, List.not_mem_nil, not_false_eq_true, true_and, and_true, exists_eq_left', Option.some.injEq, rLoad, cellOf, tab, Ty.isAgg, Ty.one, Bool.false_eq_true]
        rw [valid_not (i := i) (by omega) (by unfold inB; rw [decide_eq_false (by omega : ¬ -99 ≤ xs.getD i 0)]; simp)] at hQ
        exact hQ
      · simp only [St.set, St.ev, doneQ, doneH, ressK, resK, wrapR, AV.ids, AV.idsL, retK, retsK, upd, Nat.reduceEqDiff, reduceIte, if_false, if_true, List.nodup_nil, List.nodup_cons, List.not_mem_nil, not_false_eq_true, true_and, and_true, exists_eq_left', Option.some.injEq, rLoad, cellOf, tab, Ty.isAgg, Ty.one, Bool.false_eq_true]
        rw [valid_all (by omega) (fun j h => hj j (by omega))] at hQ
        exact hQ


/-- How many of the first k places ahead of which place i stands hold a lesser key than place i. -/
def invRow (xs : List Int) (i : Nat) : Nat → Int
  | 0 => 0
  | k + 1 => invRow xs i k + (if i < k ∧ xs.getD k 0 < xs.getD i 0 then 1 else 0)
/-- How many pairs with their first place under i stand the wrong way round. -/
def invTo (xs : List Int) : Nat → Int
  | 0 => 0
  | i + 1 => invTo xs i + invRow xs i xs.length
theorem valid_len {xs : List Int} (h : validB xs = true) : xs.length ≤ 8 := by unfold validB at h; simp only [Bool.and_eq_true, decide_eq_true_eq] at h; exact h.2
theorem invRow_low (xs : List Int) (i : Nat) : ∀ k, k ≤ i + 1 → invRow xs i k = 0
  | 0, _ => rfl
  | k + 1, h => by rw [invRow, invRow_low xs i k (by omega), if_neg (by omega)]; rfl
theorem invRow_step {xs : List Int} {i k : Nat} (h : i < k) (hh : xs.getD k 0 < xs.getD i 0) : invRow xs i (k + 1) = invRow xs i k + 1 := by rw [invRow, if_pos ⟨h, hh⟩]
theorem invRow_stay {xs : List Int} {i k : Nat} (hh : xs.getD i 0 ≤ xs.getD k 0) : invRow xs i (k + 1) = invRow xs i k := by rw [invRow, if_neg (by omega)]; omega


/-- How many of the first k places hold a key less than that of place i, or an equal one and are ahead of it. -/
def plC (xs : List Int) (i : Nat) : Nat → Int
  | 0 => 0
  | k + 1 => plC xs i k + (if xs.getD k 0 < xs.getD i 0 ∨ (xs.getD k 0 = xs.getD i 0 ∧ k < i) then 1 else 0)
def placesL (xs : List Int) : List Int := (List.range xs.length).map fun i => plC xs i xs.length
theorem plC_nonneg (xs : List Int) (i : Nat) : ∀ k, 0 ≤ plC xs i k
  | 0 => Int.le_refl 0
  | k + 1 => by have := plC_nonneg xs i k; rw [plC]; split <;> omega
theorem plC_le (xs : List Int) (i : Nat) : ∀ k, plC xs i k ≤ k
  | 0 => Int.le_refl 0
  | k + 1 => by have := plC_le xs i k; rw [plC]; split <;> omega
theorem plC_own (xs : List Int) (i : Nat) : ∀ k, i < k → plC xs i k + 1 ≤ k
  | k + 1, h => by
    rw [plC]
    rcases Nat.lt_or_ge i k with h1 | h1
    · have := plC_own xs i k h1; split <;> omega
    · have e : k = i := by omega
      subst e
      have := plC_le xs k k
      rw [if_neg (by omega)]
      omega
theorem plC_up {xs : List Int} {i k : Nat} (h : xs.getD k 0 < xs.getD i 0 ∨ (xs.getD k 0 = xs.getD i 0 ∧ k < i)) : plC xs i (k + 1) = plC xs i k + 1 := by rw [plC, if_pos h]
theorem plC_stay {xs : List Int} {i k : Nat} (h : ¬ (xs.getD k 0 < xs.getD i 0 ∨ (xs.getD k 0 = xs.getD i 0 ∧ k < i))) : plC xs i (k + 1) = plC xs i k := by rw [plC, if_neg h]; omega
theorem placesL_len (xs : List Int) : (placesL xs).length = xs.length := by simp [placesL]
theorem placesL_get {xs : List Int} {i : Nat} (h : i < xs.length) : (placesL xs).getD i 0 = plC xs i xs.length := by
  rw [List.getD_eq_getElem?_getD, List.getElem?_eq_getElem (by rw [placesL_len]; exact h)]
  simp [placesL]
theorem getD_app_lo {l m : List Int} {i : Nat} (h : i < l.length) : (l ++ m).getD i 0 = l.getD i 0 := by
  simp [List.getD_eq_getElem?_getD, List.getElem?_append_left h]
theorem getD_app_at {l : List Int} {a : Int} {i : Nat} (h : i = l.length) : (l ++ [a]).getD i 0 = a := by
  subst h; simp [List.getD_eq_getElem?_getD]


theorem specPlaces_sat : Sat Try.prog 68 (fun ds Q => ∃ xs, ds = [.row (.ints .i64 xs)] ∧ xs.length ≤ 8 ∧ Q (.row (.ints .i64 (placesL xs)))) := by
  refine sat_intro tabOk Try.func68 rfl 52 rfl [.tmp 2] rfl ?_
  rintro ds Q W ⟨xs, rfl, hlen, hQ⟩
  refine ⟨Nat.le_of_ble_eq_true rfl, ?_⟩
  simp only [initS, initT, mat.matL, mat, Cont.len]
  repeat' (first | refine awp_seq_k fun K hK => ?_ | ((with_reducible refine hK _ ?_); clear hK K) | (clear hK K; (with_reducible refine hK _ ?_); clear hK K) | (clear hK K; clear hK K; (with_reducible refine hK _ ?_); clear hK K) | (clear hK K; clear hK K; clear hK K; (with_reducible refine hK _ ?_); clear hK K) | (clear hK K; clear hK K; clear hK K; clear hK K; (with_reducible refine hK _ ?_); clear hK K) | (clear hK K; clear hK K; clear hK K; clear hK K; clear hK K; (with_reducible refine hK _ ?_); clear hK K) | ((with_reducible refine aord_plain fun K hK => ?_); simp only [go_sem, Nat.reduceAdd, Nat.reduceMul, Nat.reduceEqDiff, Nat.reduceLT, reduceIte, reduceCtorEq]) | ((with_reducible apply aord_guard); (focus (simp only [St.ev, St.set, upd, Nat.reduceEqDiff, reduceIte, if_false, if_true]; exact rfl)); all_goals (intro hb; (try simp only [Bool.not_true, Bool.not_false] at hb); first | (cases hb; done) | ((try rw [hb]); (try simp only [Bool.not_eq_true', Bool.not_eq_false', Bool.and_eq_true, decide_eq_true_eq, decide_eq_false_iff_not, beq_iff_eq, bne_iff_ne, beq_eq_false_iff_ne, bne_eq_false_iff_eq, Int.not_lt, Int.not_le] at hb); (try (revert hb; with_reducible refine true_imp_iff.2 ?_)); first | (intro K hK; simp only [go_sem, Nat.reduceAdd, Nat.reduceMul, Nat.reduceEqDiff, Nat.reduceLT, reduceIte, reduceCtorEq]) | (simp only [St.ev, St.set, upd, Nat.reduceEqDiff, reduceIte, if_false, if_true]) | skip))) | ((with_reducible apply aord_skip); (focus (simp only [St.ev, St.set, upd, Nat.reduceEqDiff, reduceIte, if_false, if_true]; done)); (simp only [St.ev, St.set, upd, Nat.reduceEqDiff, reduceIte, if_false, if_true])) | refine awp_block ?_ | ((first | with_reducible refine aord_nil ?_ | refine awp_skip ?_ | refine awp_exit ?_ | refine awp_ret ?_); try simp only [thenA_normal, thenA_exit, thenA_goto, thenA_ret, blockA_normal, blockA_same, blockA_exit, blockA_goto, blockA_ret, Nat.reduceEqDiff, if_false, if_true, reduceIte]) | (refine awp_region tabOk rfl ?_; simp only [prep, pickO, List.map_cons, List.map_nil, List.getElem?_toArray, List.getElem?_cons_succ, List.getElem?_cons_zero, Option.bind_some, Option.map_some]) | (refine awp_region_draw (nt := 52) (id := 9) tabOk [(0, true, false), (1, true, false), (2, true, false), (3, true, false), (4, true, false), (5, true, false), (6, true, false), (7, true, false), (8, true, false), (9, true, false), (10, true, false), (11, true, false), (12, true, false), (13, true, false), (14, true, false), (15, true, false), (16, true, false), (17, true, false), (18, true, false), (19, true, false), (20, true, false), (21, true, false), (22, true, false), (23, true, false), (24, true, false)] (by kernel_rfl) rfl (by kernel_rfl) ?_; simp only [prep, pickO, List.map_cons, List.map_nil, List.getElem?_toArray, List.getElem?_cons_succ, List.getElem?_cons_zero, Option.bind_some, Option.map_some]) | ((with_reducible apply awp_cond); (focus (simp only [St.ev, St.set, upd, Nat.reduceEqDiff, reduceIte, if_false, if_true]; exact rfl)); all_goals (intro hb; first | (cases hb; done) | ((try rw [hb]); (try simp only [decide_eq_true_eq, decide_eq_false_iff_not, beq_iff_eq, bne_iff_ne, beq_eq_false_iff_ne, bne_eq_false_iff_eq, Int.not_lt, Int.not_le, Bool.not_eq_true', Bool.not_eq_false'] at hb)))) | ((with_reducible refine And.intro ?_ ?_); (focus omega)) | ((with_reducible refine And.intro ?_ ?_); (focus (exact rfl))) | (refine aAppend_ints rfl rfl rfl rfl (Nat.le_of_ble_eq_true rfl) (by simp only [St.ev, St.set, upd, Nat.reduceEqDiff, reduceIte, if_false, if_true]; exact rfl) (by simp only [St.ev, St.set, upd, Nat.reduceEqDiff, reduceIte, if_false, if_true]; exact rfl) rfl (by first | decide | omega | (simp; done) | fail) ?_ ?_ ?_ ?_; (focus (first | rfl | omega | (simp; done) | (simp; omega) | (simp [szOf, tab]; done) | (simp [szOf, tab]; omega))); (focus (first | rfl | omega | (simp; done) | (simp; omega) | (simp [szOf, tab]; done) | (simp [szOf, tab]; omega))); (focus (first | rfl | omega | (simp; done) | (simp; omega) | (simp [szOf, tab]; done) | (simp [szOf, tab]; omega))); (try simp only [go_sem, Nat.reduceAdd, Nat.reduceMul, Nat.reduceEqDiff, Nat.reduceLT, reduceIte, reduceCtorEq])) | (refine aAppend_none rfl rfl rfl rfl (Nat.le_of_ble_eq_true rfl) (by simp only [St.ev, St.set, upd, Nat.reduceEqDiff, reduceIte, if_false, if_true]; exact rfl) ?_ ?_ ?_; (focus (first | rfl | omega | (simp; done) | (simp; omega) | (simp [szOf, tab]; done) | (simp [szOf, tab]; omega))); (focus (first | rfl | omega | (simp; done) | (simp; omega) | (simp [szOf, tab]; done) | (simp [szOf, tab]; omega))); (try simp only [go_sem, Nat.reduceAdd, Nat.reduceMul, Nat.reduceEqDiff, Nat.reduceLT, reduceIte, reduceCtorEq])) | (with_reducible refine And.intro (fun hb => ?_) (fun hb => ?_)) | (exfalso; omega) | fail)
  · refine awp_loop (fun p : Nat × List Int => ⟨upd (upd (upd bot 4 (.val (.int .i64 p.1))) 3 (.sl 1 0 p.1 1 none)) 0 (.sl 0 0 xs.length 1 none), upd (upd none' 0 (some ⟨false, .ints .i64 xs⟩)) 1 (some ⟨true, .ints .i64 p.2⟩), 2⟩) (fun p => p.1 ≤ xs.length ∧ p.2.length = p.1 ∧ ∀ j, j < p.1 → p.2.getD j 0 = plC xs j xs.length) (fun p => xs.length - p.1) (0, []) ⟨by simp, rfl, by simp⟩ ?_ ?_
    · (apply Wk.same; (case' h2 => (focus ((repeat' (with_reducible first | exact HeapX.bot | (apply HeapX.skip; (case hx => (simp; done))) | apply HeapX.none | apply HeapX.upd)); all_goals (first | rfl | exact Nat.le_of_ble_eq_true rfl | (simp only [St.set, St.ev, upd, ren, renL, id, Nat.reduceEqDiff, reduceIte, ContLe]; done) | (exact And.intro rfl (And.intro (by first | exact Nat.le_of_ble_eq_true rfl | omega) (by first | exact Nat.le_of_ble_eq_true rfl | omega))) | (first | (simp only [St.set, St.ev, upd, ren, renL, id, Nat.reduceEqDiff, reduceIte]; exact contLe_nil) | ((repeat' (first | exact contLe_nil | refine contLe_cons (.inr ⟨?_, rfl⟩) ?_)); all_goals (first | rfl | (simp only [St.set, St.ev, upd, ren, renL, id, Nat.reduceEqDiff, reduceIte]; done) | ((try simp only [St.set, St.ev, upd, ren, renL, id, Nat.reduceEqDiff, reduceIte]); first | (with_reducible exact av_int (by omega)) | (with_reducible exact av_sl (by first | omega | (simp; done) | (simp; omega)) (by first | omega | (simp; done) | (simp; omega)))) | (simp only [St.set, St.ev, upd, ren, renL, id, Nat.reduceEqDiff, reduceIte, Int.natCast_add, Int.natCast_one, Int.cast_ofNat_Int, Int.natCast_zero]; done) | (simp only [St.set, St.ev, upd, ren, renL, id, Nat.reduceEqDiff, reduceIte]) | skip); done)) | (simp only [St.set, St.ev, upd, ren, renL, id, Nat.reduceEqDiff, reduceIte, ContLe]) | skip)))); (case' h1 => (focus ((repeat' (with_reducible first | exact TmpLe.bot | refine TmpLe.upd ?_ rfl ?_)); all_goals (first | rfl | (simp only [St.set, St.ev, upd, ren, renL, id, Nat.reduceEqDiff, reduceIte]; done) | ((try simp only [St.set, St.ev, upd, ren, renL, id, Nat.reduceEqDiff, reduceIte]); first | (with_reducible exact av_int (by omega)) | (with_reducible exact av_sl (by first | omega | (simp; done) | (simp; omega)) (by first | omega | (simp; done) | (simp; omega)))) | (simp only [St.set, St.ev, upd, ren, renL, id, Nat.reduceEqDiff, reduceIte, Int.natCast_add, Int.natCast_one, Int.cast_ofNat_Int, Int.natCast_zero]; done) | (simp only [St.set, St.ev, upd, ren, renL, id, Nat.reduceEqDiff, reduceIte]) | skip)))); (case h3 => (focus (first | (simp only [id, List.map_cons, List.map_nil]; decide) | decide | (simp; done) | (simp; omega) | fail))); (case h4 => (intro o l h; first | (cases h; done) | (have hlt0 := m0_lt (by assumption) h; (try (simp only at hlt0)); first | omega | (simp only; omega) | exact ⟨by (first | rfl | (simp only [id]; done) | ((repeat rw [if_neg (by omega)]); done)), by first | omega | (simp only; omega)⟩))))
    · rintro ⟨i, ys⟩ ⟨hi, hl, hj⟩
      simp only at hi hl hj
      subst hl
      repeat' (first | refine awp_seq_k fun K hK => ?_ | ((with_reducible refine hK _ ?_); clear hK K) | (clear hK K; (with_reducible refine hK _ ?_); clear hK K) | (clear hK K; clear hK K; (with_reducible refine hK _ ?_); clear hK K) | (clear hK K; clear hK K; clear hK K; (with_reducible refine hK _ ?_); clear hK K) | (clear hK K; clear hK K; clear hK K; clear hK K; (with_reducible refine hK _ ?_); clear hK K) | (clear hK K; clear hK K; clear hK K; clear hK K; clear hK K; (with_reducible refine hK _ ?_); clear hK K) | ((with_reducible refine aord_plain fun K hK => ?_); simp only [go_sem, Nat.reduceAdd, Nat.reduceMul, Nat.reduceEqDiff, Nat.reduceLT, reduceIte, reduceCtorEq]) | ((with_reducible apply aord_guard); (focus (simp only [St.ev, St.set, upd, Nat.reduceEqDiff, reduceIte, if_false, if_true]; exact rfl)); all_goals (intro hb; (try simp only [Bool.not_true, Bool.not_false] at hb); first | (cases hb; done) | ((try rw [hb]); (try simp only [Bool.not_eq_true', Bool.not_eq_false', Bool.and_eq_true, decide_eq_true_eq, decide_eq_false_iff_not, beq_iff_eq, bne_iff_ne, beq_eq_false_iff_ne, bne_eq_false_iff_eq, Int.not_lt, Int.not_le] at hb); (try (revert hb; with_reducible refine true_imp_iff.2 ?_)); first | (intro K hK; simp only [go_sem, Nat.reduceAdd, Nat.reduceMul, Nat.reduceEqDiff, Nat.reduceLT, reduceIte, reduceCtorEq]) | (simp only [St.ev, St.set, upd, Nat.reduceEqDiff, reduceIte, if_false, if_true]) | skip))) | ((with_reducible apply aord_skip); (focus (simp only [St.ev, St.set, upd, Nat.reduceEqDiff, reduceIte, if_false, if_true]; done)); (simp only [St.ev, St.set, upd, Nat.reduceEqDiff, reduceIte, if_false, if_true])) | refine awp_block ?_ | ((first | with_reducible refine aord_nil ?_ | refine awp_skip ?_ | refine awp_exit ?_ | refine awp_ret ?_); try simp only [thenA_normal, thenA_exit, thenA_goto, thenA_ret, blockA_normal, blockA_same, blockA_exit, blockA_goto, blockA_ret, Nat.reduceEqDiff, if_false, if_true, reduceIte]) | (refine awp_region tabOk rfl ?_; simp only [prep, pickO, List.map_cons, List.map_nil, List.getElem?_toArray, List.getElem?_cons_succ, List.getElem?_cons_zero, Option.bind_some, Option.map_some]) | (refine awp_region_draw (nt := 52) (id := 9) tabOk [(0, true, false), (1, true, false), (2, true, false), (3, true, false), (4, true, false), (5, true, false), (6, true, false), (7, true, false), (8, true, false), (9, true, false), (10, true, false), (11, true, false), (12, true, false), (13, true, false), (14, true, false), (15, true, false), (16, true, false), (17, true, false), (18, true, false), (19, true, false), (20, true, false), (21, true, false), (22, true, false), (23, true, false), (24, true, false)] (by kernel_rfl) rfl (by kernel_rfl) ?_; simp only [prep, pickO, List.map_cons, List.map_nil, List.getElem?_toArray, List.getElem?_cons_succ, List.getElem?_cons_zero, Option.bind_some, Option.map_some]) | ((with_reducible apply awp_cond); (focus (simp only [St.ev, St.set, upd, Nat.reduceEqDiff, reduceIte, if_false, if_true]; exact rfl)); all_goals (intro hb; first | (cases hb; done) | ((try rw [hb]); (try simp only [decide_eq_true_eq, decide_eq_false_iff_not, beq_iff_eq, bne_iff_ne, beq_eq_false_iff_ne, bne_eq_false_iff_eq, Int.not_lt, Int.not_le, Bool.not_eq_true', Bool.not_eq_false'] at hb)))) | ((with_reducible refine And.intro ?_ ?_); (focus omega)) | ((with_reducible refine And.intro ?_ ?_); (focus (exact rfl))) | (refine aAppend_ints rfl rfl rfl rfl (Nat.le_of_ble_eq_true rfl) (by simp only [St.ev, St.set, upd, Nat.reduceEqDiff, reduceIte, if_false, if_true]; exact rfl) (by simp only [St.ev, St.set, upd, Nat.reduceEqDiff, reduceIte, if_false, if_true]; exact rfl) rfl (by first | decide | omega | (simp; done) | fail) ?_ ?_ ?_ ?_; (focus (first | rfl | omega | (simp; done) | (simp; omega) | (simp [szOf, tab]; done) | (simp [szOf, tab]; omega))); (focus (first | rfl | omega | (simp; done) | (simp; omega) | (simp [szOf, tab]; done) | (simp [szOf, tab]; omega))); (focus (first | rfl | omega | (simp; done) | (simp; omega) | (simp [szOf, tab]; done) | (simp [szOf, tab]; omega))); (try simp only [go_sem, Nat.reduceAdd, Nat.reduceMul, Nat.reduceEqDiff, Nat.reduceLT, reduceIte, reduceCtorEq])) | (refine aAppend_none rfl rfl rfl rfl (Nat.le_of_ble_eq_true rfl) (by simp only [St.ev, St.set, upd, Nat.reduceEqDiff, reduceIte, if_false, if_true]; exact rfl) ?_ ?_ ?_; (focus (first | rfl | omega | (simp; done) | (simp; omega) | (simp [szOf, tab]; done) | (simp [szOf, tab]; omega))); (focus (first | rfl | omega | (simp; done) | (simp; omega) | (simp [szOf, tab]; done) | (simp [szOf, tab]; omega))); (try simp only [go_sem, Nat.reduceAdd, Nat.reduceMul, Nat.reduceEqDiff, Nat.reduceLT, reduceIte, reduceCtorEq])) | (with_reducible refine And.intro (fun hb => ?_) (fun hb => ?_)) | (exfalso; omega) | fail)
      · refine awp_loop (fun p : Nat × Int => ⟨upd (upd (upd (upd (upd bot 6 (.val (.int .i64 p.1))) 5 (.val (.int .i64 p.2))) 4 (.val (.int .i64 ys.length))) 3 (.sl 1 0 ys.length 1 none)) 0 (.sl 0 0 xs.length 1 none), upd (upd none' 0 (some ⟨false, .ints .i64 xs⟩)) 1 (some ⟨true, .ints .i64 ys⟩), 2⟩) (fun p => p.1 ≤ xs.length ∧ p.2 = plC xs ys.length p.1 ∧ 0 ≤ p.2 ∧ p.2 ≤ p.1) (fun p => xs.length - p.1) (0, 0) ⟨by simp, rfl, by simp, by simp⟩ ?_ ?_
        · (apply Wk.same; (case' h2 => (focus ((repeat' (with_reducible first | exact HeapX.bot | (apply HeapX.skip; (case hx => (simp; done))) | apply HeapX.none | apply HeapX.upd)); all_goals (first | rfl | exact Nat.le_of_ble_eq_true rfl | (simp only [St.set, St.ev, upd, ren, renL, id, Nat.reduceEqDiff, reduceIte, ContLe]; done) | (exact And.intro rfl (And.intro (by first | exact Nat.le_of_ble_eq_true rfl | omega) (by first | exact Nat.le_of_ble_eq_true rfl | omega))) | (first | (simp only [St.set, St.ev, upd, ren, renL, id, Nat.reduceEqDiff, reduceIte]; exact contLe_nil) | ((repeat' (first | exact contLe_nil | refine contLe_cons (.inr ⟨?_, rfl⟩) ?_)); all_goals (first | rfl | (simp only [St.set, St.ev, upd, ren, renL, id, Nat.reduceEqDiff, reduceIte]; done) | ((try simp only [St.set, St.ev, upd, ren, renL, id, Nat.reduceEqDiff, reduceIte]); first | (with_reducible exact av_int (by omega)) | (with_reducible exact av_sl (by first | omega | (simp; done) | (simp; omega)) (by first | omega | (simp; done) | (simp; omega)))) | (simp only [St.set, St.ev, upd, ren, renL, id, Nat.reduceEqDiff, reduceIte, Int.natCast_add, Int.natCast_one, Int.cast_ofNat_Int, Int.natCast_zero]; done) | (simp only [St.set, St.ev, upd, ren, renL, id, Nat.reduceEqDiff, reduceIte]) | skip); done)) | (simp only [St.set, St.ev, upd, ren, renL, id, Nat.reduceEqDiff, reduceIte, ContLe]) | skip)))); (case' h1 => (focus ((repeat' (with_reducible first | exact TmpLe.bot | refine TmpLe.upd ?_ rfl ?_)); all_goals (first | rfl | (simp only [St.set, St.ev, upd, ren, renL, id, Nat.reduceEqDiff, reduceIte]; done) | ((try simp only [St.set, St.ev, upd, ren, renL, id, Nat.reduceEqDiff, reduceIte]); first | (with_reducible exact av_int (by omega)) | (with_reducible exact av_sl (by first | omega | (simp; done) | (simp; omega)) (by first | omega | (simp; done) | (simp; omega)))) | (simp only [St.set, St.ev, upd, ren, renL, id, Nat.reduceEqDiff, reduceIte, Int.natCast_add, Int.natCast_one, Int.cast_ofNat_Int, Int.natCast_zero]; done) | (simp only [St.set, St.ev, upd, ren, renL, id, Nat.reduceEqDiff, reduceIte]) | skip)))); (case h3 => (focus (first | (simp only [id, List.map_cons, List.map_nil]; decide) | decide | (simp; done) | (simp; omega) | fail))); (case h4 => (intro o l h; first | (cases h; done) | (have hlt0 := m0_lt (by assumption) h; (try (simp only at hlt0)); first | omega | (simp only; omega) | exact ⟨by (first | rfl | (simp only [id]; done) | ((repeat rw [if_neg (by omega)]); done)), by first | omega | (simp only; omega)⟩))))
        · rintro ⟨k, n⟩ ⟨hk, hn, hn0, hn8⟩
          simp only at hk hn hn0 hn8
          repeat' (first | refine awp_seq_k fun K hK => ?_ | ((with_reducible refine hK _ ?_); clear hK K) | (clear hK K; (with_reducible refine hK _ ?_); clear hK K) | (clear hK K; clear hK K; (with_reducible refine hK _ ?_); clear hK K) | (clear hK K; clear hK K; clear hK K; (with_reducible refine hK _ ?_); clear hK K) | (clear hK K; clear hK K; clear hK K; clear hK K; (with_reducible refine hK _ ?_); clear hK K) | (clear hK K; clear hK K; clear hK K; clear hK K; clear hK K; (with_reducible refine hK _ ?_); clear hK K) | ((with_reducible refine aord_plain fun K hK => ?_); simp only [go_sem, Nat.reduceAdd, Nat.reduceMul, Nat.reduceEqDiff, Nat.reduceLT, reduceIte, reduceCtorEq]) | ((with_reducible apply aord_guard); (focus (simp only [St.ev, St.set, upd, Nat.reduceEqDiff, reduceIte, if_false, if_true]; exact rfl)); all_goals (intro hb; (try simp only [Bool.not_true, Bool.not_false] at hb); first | (cases hb; done) | ((try rw [hb]); (try simp only [Bool.not_eq_true', Bool.not_eq_false', Bool.and_eq_true, decide_eq_true_eq, decide_eq_false_iff_not, beq_iff_eq, bne_iff_ne, beq_eq_false_iff_ne, bne_eq_false_iff_eq, Int.not_lt, Int.not_le] at hb); (try (revert hb; with_reducible refine true_imp_iff.2 ?_)); first | (intro K hK; simp only [go_sem, Nat.reduceAdd, Nat.reduceMul, Nat.reduceEqDiff, Nat.reduceLT, reduceIte, reduceCtorEq]) | (simp only [St.ev, St.set, upd, Nat.reduceEqDiff, reduceIte, if_false, if_true]) | skip))) | ((with_reducible apply aord_skip); (focus (simp only [St.ev, St.set, upd, Nat.reduceEqDiff, reduceIte, if_false, if_true]; done)); (simp only [St.ev, St.set, upd, Nat.reduceEqDiff, reduceIte, if_false, if_true])) | refine awp_block ?_ | ((first | with_reducible refine aord_nil ?_ | refine awp_skip ?_ | refine awp_exit ?_ | refine awp_ret ?_); try simp only [thenA_normal, thenA_exit, thenA_goto, thenA_ret, blockA_normal, blockA_same, blockA_exit, blockA_goto, blockA_ret, Nat.reduceEqDiff, if_false, if_true, reduceIte]) | (refine awp_region tabOk rfl ?_; simp only [prep, pickO, List.map_cons, List.map_nil, List.getElem?_toArray, List.getElem?_cons_succ, List.getElem?_cons_zero, Option.bind_some, Option.map_some]) | (refine awp_region_draw (nt := 52) (id := 9) tabOk [(0, true, false), (1, true, false), (2, true, false), (3, true, false), (4, true, false), (5, true, false), (6, true, false), (7, true, false), (8, true, false), (9, true, false), (10, true, false), (11, true, false), (12, true, false), (13, true, false), (14, true, false), (15, true, false), (16, true, false), (17, true, false), (18, true, false), (19, true, false), (20, true, false), (21, true, false), (22, true, false), (23, true, false), (24, true, false)] (by kernel_rfl) rfl (by kernel_rfl) ?_; simp only [prep, pickO, List.map_cons, List.map_nil, List.getElem?_toArray, List.getElem?_cons_succ, List.getElem?_cons_zero, Option.bind_some, Option.map_some]) | ((with_reducible apply awp_cond); (focus (simp only [St.ev, St.set, upd, Nat.reduceEqDiff, reduceIte, if_false, if_true]; exact rfl)); all_goals (intro hb; first | (cases hb; done) | ((try rw [hb]); (try simp only [decide_eq_true_eq, decide_eq_false_iff_not, beq_iff_eq, bne_iff_ne, beq_eq_false_iff_ne, bne_eq_false_iff_eq, Int.not_lt, Int.not_le, Bool.not_eq_true', Bool.not_eq_false'] at hb)))) | ((with_reducible refine And.intro ?_ ?_); (focus omega)) | ((with_reducible refine And.intro ?_ ?_); (focus (exact rfl))) | (refine aAppend_ints rfl rfl rfl rfl (Nat.le_of_ble_eq_true rfl) (by simp only [St.ev, St.set, upd, Nat.reduceEqDiff, reduceIte, if_false, if_true]; exact rfl) (by simp only [St.ev, St.set, upd, Nat.reduceEqDiff, reduceIte, if_false, if_true]; exact rfl) rfl (by first | decide | omega | (simp; done) | fail) ?_ ?_ ?_ ?_; (focus (first | rfl | omega | (simp; done) | (simp; omega) | (simp [szOf, tab]; done) | (simp [szOf, tab]; omega))); (focus (first | rfl | omega | (simp; done) | (simp; omega) | (simp [szOf, tab]; done) | (simp [szOf, tab]; omega))); (focus (first | rfl | omega | (simp; done) | (simp; omega) | (simp [szOf, tab]; done) | (simp [szOf, tab]; omega))); (try simp only [go_sem, Nat.reduceAdd, Nat.reduceMul, Nat.reduceEqDiff, Nat.reduceLT, reduceIte, reduceCtorEq])) | (refine aAppend_none rfl rfl rfl rfl (Nat.le_of_ble_eq_true rfl) (by simp only [St.ev, St.set, upd, Nat.reduceEqDiff, reduceIte, if_false, if_true]; exact rfl) ?_ ?_ ?_; (focus (first | rfl | omega | (simp; done) | (simp; omega) | (simp [szOf, tab]; done) | (simp [szOf, tab]; omega))); (focus (first | rfl | omega | (simp; done) | (simp; omega) | (simp [szOf, tab]; done) | (simp [szOf, tab]; omega))); (try simp only [go_sem, Nat.reduceAdd, Nat.reduceMul, Nat.reduceEqDiff, Nat.reduceLT, reduceIte, reduceCtorEq])) | (with_reducible refine And.intro (fun hb => ?_) (fun hb => ?_)) | (exfalso; omega) | fail)
          all_goals first
            | (refine ⟨(k + 1, n + 1), ⟨by simp only; omega, by simp only; rw [plC_up (by omega)]; omega, by simp only; omega, by simp only; omega⟩, by simp only; omega, ?_⟩
               (apply Wk.same; (case' h2 => (focus ((repeat' (with_reducible first | exact HeapX.bot | (apply HeapX.skip; (case hx => (simp; done))) | apply HeapX.none | apply HeapX.upd)); all_goals (first | rfl | exact Nat.le_of_ble_eq_true rfl | (simp only [St.set, St.ev, upd, ren, renL, id, Nat.reduceEqDiff, reduceIte, ContLe]; done) | (exact And.intro rfl (And.intro (by first | exact Nat.le_of_ble_eq_true rfl | omega) (by first | exact Nat.le_of_ble_eq_true rfl | omega))) | (first | (simp only [St.set, St.ev, upd, ren, renL, id, Nat.reduceEqDiff, reduceIte]; exact contLe_nil) | ((repeat' (first | exact contLe_nil | refine contLe_cons (.inr ⟨?_, rfl⟩) ?_)); all_goals (first | rfl | (simp only [St.set, St.ev, upd, ren, renL, id, Nat.reduceEqDiff, reduceIte]; done) | ((try simp only [St.set, St.ev, upd, ren, renL, id, Nat.reduceEqDiff, reduceIte]); first | (with_reducible exact av_int (by omega)) | (with_reducible exact av_sl (by first | omega | (simp; done) | (simp; omega)) (by first | omega | (simp; done) | (simp; omega)))) | (simp only [St.set, St.ev, upd, ren, renL, id, Nat.reduceEqDiff, reduceIte, Int.natCast_add, Int.natCast_one, Int.cast_ofNat_Int, Int.natCast_zero]; done) | (simp only [St.set, St.ev, upd, ren, renL, id, Nat.reduceEqDiff, reduceIte]) | skip); done)) | (simp only [St.set, St.ev, upd, ren, renL, id, Nat.reduceEqDiff, reduceIte, ContLe]) | skip)))); (case' h1 => (focus ((repeat' (with_reducible first | exact TmpLe.bot | refine TmpLe.upd ?_ rfl ?_)); all_goals (first | rfl | (simp only [St.set, St.ev, upd, ren, renL, id, Nat.reduceEqDiff, reduceIte]; done) | ((try simp only [St.set, St.ev, upd, ren, renL, id, Nat.reduceEqDiff, reduceIte]); first | (with_reducible exact av_int (by omega)) | (with_reducible exact av_sl (by first | omega | (simp; done) | (simp; omega)) (by first | omega | (simp; done) | (simp; omega)))) | (simp only [St.set, St.ev, upd, ren, renL, id, Nat.reduceEqDiff, reduceIte, Int.natCast_add, Int.natCast_one, Int.cast_ofNat_Int, Int.natCast_zero]; done) | (simp only [St.set, St.ev, upd, ren, renL, id, Nat.reduceEqDiff, reduceIte]) | skip)))); (case h3 => (focus (first | (simp only [id, List.map_cons, List.map_nil]; decide) | decide | (simp; done) | (simp; omega) | fail))); (case h4 => (intro o l h; first | (cases h; done) | (have hlt0 := m0_lt (by assumption) h; (try (simp only at hlt0)); first | omega | (simp only; omega) | exact ⟨by (first | rfl | (simp only [id]; done) | ((repeat rw [if_neg (by omega)]); done)), by first | omega | (simp only; omega)⟩)))))
            | (refine ⟨(k + 1, n), ⟨by simp only; omega, by simp only; rw [plC_stay (by omega)]; omega, by simp only; omega, by simp only; omega⟩, by simp only; omega, ?_⟩
               (apply Wk.same; (case' h2 => (focus ((repeat' (with_reducible first | exact HeapX.bot | (apply HeapX.skip; (case hx => (simp; done))) | apply HeapX.none | apply HeapX.upd)); all_goals (first | rfl | exact Nat.le_of_ble_eq_true rfl | (simp only [St.set, St.ev, upd, ren, renL, id, Nat.reduceEqDiff, reduceIte, ContLe]; done) | (exact And.intro rfl (And.intro (by first | exact Nat.le_of_ble_eq_true rfl | omega) (by first | exact Nat.le_of_ble_eq_true rfl | omega))) | (first | (simp only [St.set, St.ev, upd, ren, renL, id, Nat.reduceEqDiff, reduceIte]; exact contLe_nil) | ((repeat' (first | exact contLe_nil | refine contLe_cons (.inr ⟨?_, rfl⟩) ?_)); all_goals (first | rfl | (simp only [St.set, St.ev, upd, ren, renL, id, Nat.reduceEqDiff, reduceIte]; done) | ((try simp only [St.set, St.ev, upd, ren, renL, id, Nat.reduceEqDiff, reduceIte]); first | (with_reducible exact av_int (by omega)) | (with_reducible exact av_sl (by first | omega | (simp; done) | (simp; omega)) (by first | omega | (simp; done) | (simp; omega)))) | (simp only [St.set, St.ev, upd, ren, renL, id, Nat.reduceEqDiff, reduceIte, Int.natCast_add, Int.natCast_one, Int.cast_ofNat_Int, Int.natCast_zero]; done) | (simp only [St.set, St.ev, upd, ren, renL, id, Nat.reduceEqDiff, reduceIte]) | skip); done)) | (simp only [St.set, St.ev, upd, ren, renL, id, Nat.reduceEqDiff, reduceIte, ContLe]) | skip)))); (case' h1 => (focus ((repeat' (with_reducible first | exact TmpLe.bot | refine TmpLe.upd ?_ rfl ?_)); all_goals (first | rfl | (simp only [St.set, St.ev, upd, ren, renL, id, Nat.reduceEqDiff, reduceIte]; done) | ((try simp only [St.set, St.ev, upd, ren, renL, id, Nat.reduceEqDiff, reduceIte]); first | (with_reducible exact av_int (by omega)) | (with_reducible exact av_sl (by first | omega | (simp; done) | (simp; omega)) (by first | omega | (simp; done) | (simp; omega)))) | (simp only [St.set, St.ev, upd, ren, renL, id, Nat.reduceEqDiff, reduceIte, Int.natCast_add, Int.natCast_one, Int.cast_ofNat_Int, Int.natCast_zero]; done) | (simp only [St.set, St.ev, upd, ren, renL, id, Nat.reduceEqDiff, reduceIte]) | skip)))); (case h3 => (focus (first | (simp only [id, List.map_cons, List.map_nil]; decide) | decide | (simp; done) | (simp; omega) | fail))); (case h4 => (intro o l h; first | (cases h; done) | (have hlt0 := m0_lt (by assumption) h; (try (simp only at hlt0)); first | omega | (simp only; omega) | exact ⟨by (first | rfl | (simp only [id]; done) | ((repeat rw [if_neg (by omega)]); done)), by first | omega | (simp only; omega)⟩)))))
            | skip
          refine ⟨(ys.length + 1, ys ++ [n]), ⟨by simp only; omega, by simp, fun j h => ?_⟩, by simp only; omega, ?_⟩
          · simp only at h ⊢
            rcases Nat.lt_or_ge j ys.length with h1 | h1
            · rw [getD_app_lo h1]; exact hj j h1
            · rw [getD_app_at (by omega), hn, show j = ys.length by omega, show k = xs.length by omega]
          · (apply Wk.named (fun o => if o = 1 then 3 else o); (case' h2 => (focus ((repeat' (with_reducible first | exact HeapX.bot | (apply HeapX.skip; (case hx => (simp; done))) | apply HeapX.none | apply HeapX.upd)); all_goals (first | rfl | exact Nat.le_of_ble_eq_true rfl | (simp only [St.set, St.ev, upd, ren, renL, id, Nat.reduceEqDiff, reduceIte, ContLe]; done) | (exact And.intro rfl (And.intro (by first | exact Nat.le_of_ble_eq_true rfl | omega) (by first | exact Nat.le_of_ble_eq_true rfl | omega))) | (first | (simp only [St.set, St.ev, upd, ren, renL, id, Nat.reduceEqDiff, reduceIte]; exact contLe_nil) | ((repeat' (first | exact contLe_nil | refine contLe_cons (.inr ⟨?_, rfl⟩) ?_)); all_goals (first | rfl | (simp only [St.set, St.ev, upd, ren, renL, id, Nat.reduceEqDiff, reduceIte]; done) | ((try simp only [St.set, St.ev, upd, ren, renL, id, Nat.reduceEqDiff, reduceIte]); first | (with_reducible exact av_int (by omega)) | (with_reducible exact av_sl (by first | omega | (simp; done) | (simp; omega)) (by first | omega | (simp; done) | (simp; omega)))) | (simp only [St.set, St.ev, upd, ren, renL, id, Nat.reduceEqDiff, reduceIte, Int.natCast_add, Int.natCast_one, Int.cast_ofNat_Int, Int.natCast_zero]; done) | (simp only [St.set, St.ev, upd, ren, renL, id, Nat.reduceEqDiff, reduceIte]) | skip); done)) | (simp only [St.set, St.ev, upd, ren, renL, id, Nat.reduceEqDiff, reduceIte, ContLe]) | skip)))); (case' h1 => (focus ((repeat' (with_reducible first | exact TmpLe.bot | refine TmpLe.upd ?_ rfl ?_)); all_goals (first | rfl | (simp only [St.set, St.ev, upd, ren, renL, id, Nat.reduceEqDiff, reduceIte]; done) | ((try simp only [St.set, St.ev, upd, ren, renL, id, Nat.reduceEqDiff, reduceIte]); first | (with_reducible exact av_int (by omega)) | (with_reducible exact av_sl (by first | omega | (simp; done) | (simp; omega)) (by first | omega | (simp; done) | (simp; omega)))) | (simp only [St.set, St.ev, upd, ren, renL, id, Nat.reduceEqDiff, reduceIte, Int.natCast_add, Int.natCast_one, Int.cast_ofNat_Int, Int.natCast_zero]; done) | (simp only [St.set, St.ev, upd, ren, renL, id, Nat.reduceEqDiff, reduceIte]) | skip)))); (case h3 => (focus (first | (simp only [id, List.map_cons, List.map_nil]; decide) | decide | (simp; done) | (simp; omega) | fail))); (case h4 => (intro o l h; first | (cases h; done) | (have hlt0 := m0_lt (by assumption) h; (try (simp only at hlt0)); first | omega | (simp only; omega) | exact ⟨by (first | rfl | (simp only [id]; done) | ((repeat rw [if_neg (by omega)]); done)), by first | omega | (simp only; omega)⟩))))
      · simp only [St.set, St.ev, doneQ, doneH, ressK, resK, wrapR, AV.ids, AV.idsL, retK, retsK, upd, Nat.reduceEqDiff, reduceIte, if_false, if_true, List.nodup_nil, List.nodup_cons, List.not_mem_nil, not_false_eq_true, true_and, and_true, exists_eq_left', Option.some.injEq, rLoad, cellOf, tab, Ty.isAgg, Ty.one, Bool.false_eq_true]
        have : ys = placesL xs := ext_getD (by rw [placesL_len]; omega) fun j h => by rw [hj j h, placesL_get (by omega)]
        subst this
        simp only [Cont.closed, Cont.len, true_and]
        exact hQ


theorem getD_rep {n j : Nat} : (List.replicate n (0 : Int)).getD j 0 = 0 := by
  rw [List.getD_eq_getElem?_getD, List.getElem?_replicate]; split <;> rfl


theorem implPlacesOf_sat : Sat Try.prog 42 (fun ds Q => ∃ xs, ds = [.row (.ints .i64 xs)] ∧ xs.length ≤ 1099511627776 ∧ Q (.row (.ints .i64 (if validB xs then placesL xs else [])))) := by
  refine sat_intro tabOk Try.func42 rfl 50 rfl [.tmp 2] rfl ?_
  rintro ds Q W ⟨xs, rfl, hlen, hQ⟩
  refine ⟨Nat.le_of_ble_eq_true rfl, ?_⟩
  simp only [initS, initT, mat.matL, mat, Cont.len]
  repeat' (first | refine awp_seq_k fun K hK => ?_ | ((with_reducible refine hK _ ?_); clear hK K) | (clear hK K; (with_reducible refine hK _ ?_); clear hK K) | (clear hK K; clear hK K; (with_reducible refine hK _ ?_); clear hK K) | (clear hK K; clear hK K; clear hK K; (with_reducible refine hK _ ?_); clear hK K) | (clear hK K; clear hK K; clear hK K; clear hK K; (with_reducible refine hK _ ?_); clear hK K) | (clear hK K; clear hK K; clear hK K; clear hK K; clear hK K; (with_reducible refine hK _ ?_); clear hK K) | ((with_reducible refine aord_plain fun K hK => ?_); simp only [go_sem, Nat.reduceAdd, Nat.reduceMul, Nat.reduceEqDiff, Nat.reduceLT, reduceIte, reduceCtorEq]) | ((with_reducible apply aord_guard); (focus (simp only [St.ev, St.set, upd, Nat.reduceEqDiff, reduceIte, if_false, if_true]; exact rfl)); all_goals (intro hb; (try simp only [Bool.not_true, Bool.not_false] at hb); first | (cases hb; done) | ((try rw [hb]); (try simp only [Bool.not_eq_true', Bool.not_eq_false', Bool.and_eq_true, decide_eq_true_eq, decide_eq_false_iff_not, beq_iff_eq, bne_iff_ne, beq_eq_false_iff_ne, bne_eq_false_iff_eq, Int.not_lt, Int.not_le] at hb); (try (revert hb; with_reducible refine true_imp_iff.2 ?_)); first | (intro K hK; simp only [go_sem, Nat.reduceAdd, Nat.reduceMul, Nat.reduceEqDiff, Nat.reduceLT, reduceIte, reduceCtorEq]) | (simp only [St.ev, St.set, upd, Nat.reduceEqDiff, reduceIte, if_false, if_true]) | skip))) | ((with_reducible apply aord_skip); (focus (simp only [St.ev, St.set, upd, Nat.reduceEqDiff, reduceIte, if_false, if_true]; done)); (simp only [St.ev, St.set, upd, Nat.reduceEqDiff, reduceIte, if_false, if_true])) | refine awp_block ?_ | ((first | with_reducible refine aord_nil ?_ | refine awp_skip ?_ | refine awp_exit ?_ | refine awp_ret ?_); try simp only [thenA_normal, thenA_exit, thenA_goto, thenA_ret, blockA_normal, blockA_same, blockA_exit, blockA_goto, blockA_ret, Nat.reduceEqDiff, if_false, if_true, reduceIte]) | (refine awp_region tabOk rfl ?_; simp only [prep, pickO, List.map_cons, List.map_nil, List.getElem?_toArray, List.getElem?_cons_succ, List.getElem?_cons_zero, Option.bind_some, Option.map_some]) | ((with_reducible apply awp_cond); (focus (simp only [St.ev, St.set, upd, Nat.reduceEqDiff, reduceIte, if_false, if_true]; exact rfl)); all_goals (intro hb; first | (cases hb; done) | ((try rw [hb]); (try simp only [decide_eq_true_eq, decide_eq_false_iff_not, beq_iff_eq, bne_iff_ne, beq_eq_false_iff_ne, bne_eq_false_iff_eq, Int.not_lt, Int.not_le, Bool.not_eq_true', Bool.not_eq_false'] at hb)))) | ((with_reducible refine And.intro ?_ ?_); (focus omega)) | ((with_reducible refine And.intro ?_ ?_); (focus (exact rfl))) | ((with_reducible refine And.intro (?_ : enters Try.prog 13) ?_); (focus exact Try.call13); (refine callX_sat implValidKeys_sat ?_); simp only [go_sem, and_assoc, List.nil_append, List.append_nil, List.cons_append, Nat.reduceEqDiff, reduceIte, reduceCtorEq]) | (refine aStoreAll_ints (by simp only [St.ev, St.set, upd, Nat.reduceEqDiff, reduceIte, if_false, if_true]; exact rfl) ?_ ?_ ?_ ?_; (focus (first | rfl | omega | (simp; done) | (simp; omega) | (simp [szOf, tab]; done) | (simp [szOf, tab]; omega))); (focus (first | rfl | omega | (simp; done) | (simp; omega) | (simp [szOf, tab]; done) | (simp [szOf, tab]; omega))); (focus (first | rfl | omega | (simp; done) | (simp; omega) | (simp [szOf, tab]; done) | (simp [szOf, tab]; omega))); (try simp only [go_sem, Nat.reduceAdd, Nat.reduceMul, Nat.reduceEqDiff, Nat.reduceLT, reduceIte, reduceCtorEq])) | (refine aStoreAll_cells (by simp only [St.ev, St.set, upd, Nat.reduceEqDiff, reduceIte, if_false, if_true]; exact rfl) ?_ ?_ ?_ ?_ ?_; (focus (first | rfl | omega | (simp; done) | (simp; omega) | (simp [szOf, tab]; done) | (simp [szOf, tab]; omega))); (focus (first | rfl | omega | (simp; done) | (simp; omega) | (simp [szOf, tab]; done) | (simp [szOf, tab]; omega))); (focus (first | rfl | omega | (simp; done) | (simp; omega) | (simp [szOf, tab]; done) | (simp [szOf, tab]; omega))); (focus (first | rfl | (simp [AV.cell, Value.oneCell']; done))); (try simp only [go_sem, Nat.reduceAdd, Nat.reduceMul, Nat.reduceEqDiff, Nat.reduceLT, reduceIte, reduceCtorEq])) | (with_reducible refine And.intro (fun hb => ?_) (fun hb => ?_)) | (exfalso; omega) | fail)
  · simp only [St.set, St.ev, doneQ, doneH, ressK, resK, wrapR, AV.ids, AV.idsL, retK, retsK, upd, Nat.reduceEqDiff, reduceIte, if_false, if_true, List.nodup_nil, List.nodup_cons, List.not_mem_nil, not_false_eq_true, true_and, and_true, exists_eq_left', Option.some.injEq, rLoad, cellOf, tab, Ty.isAgg, Ty.one, Bool.false_eq_true]
    simp only [hb] at hQ
    exact ⟨.ints .i64 [], rfl, rfl, rfl, hQ⟩
  · have h8 := valid_len hb
    rw [if_pos hb] at hQ
    refine awp_loop (fun p : Nat × List Int => ⟨upd (upd (upd (upd (upd bot 16 (.val (.int .i64 p.1))) 15 (.val (.int .i64 xs.length))) 14 (.sl 0 0 xs.length 1 none)) 3 (.sl 1 0 xs.length 1 none)) 0 (.sl 0 0 xs.length 1 none), upd (upd none' 0 (some ⟨false, .ints .i64 xs⟩)) 1 (some ⟨true, .ints .i64 p.2⟩), 2⟩) (fun p => p.1 ≤ xs.length ∧ p.2.length = xs.length ∧ (∀ j, j < p.1 → p.2.getD j 0 = plC xs j xs.length) ∧ ∀ j, p.1 ≤ j → p.2.getD j 0 = 0) (fun p => xs.length - p.1) (0, List.replicate xs.length 0) ⟨by simp, by simp, by simp, fun j _ => getD_rep⟩ ?_ ?_
    · (apply Wk.same; (case' h2 => (focus ((repeat' (with_reducible first | exact HeapX.bot | (apply HeapX.skip; (case hx => (simp; done))) | apply HeapX.none | apply HeapX.upd)); all_goals (first | rfl | exact Nat.le_of_ble_eq_true rfl | (simp only [St.set, St.ev, upd, ren, renL, id, Nat.reduceEqDiff, reduceIte, ContLe]; done) | (exact And.intro rfl (And.intro (by first | exact Nat.le_of_ble_eq_true rfl | omega) (by first | exact Nat.le_of_ble_eq_true rfl | omega))) | (first | (simp only [St.set, St.ev, upd, ren, renL, id, Nat.reduceEqDiff, reduceIte]; exact contLe_nil) | ((repeat' (first | exact contLe_nil | refine contLe_cons (.inr ⟨?_, rfl⟩) ?_)); all_goals (first | rfl | (simp only [St.set, St.ev, upd, ren, renL, id, Nat.reduceEqDiff, reduceIte]; done) | ((try simp only [St.set, St.ev, upd, ren, renL, id, Nat.reduceEqDiff, reduceIte]); first | (with_reducible exact av_int (by omega)) | (with_reducible exact av_sl (by first | omega | (simp; done) | (simp; omega)) (by first | omega | (simp; done) | (simp; omega)))) | (simp only [St.set, St.ev, upd, ren, renL, id, Nat.reduceEqDiff, reduceIte, Int.natCast_add, Int.natCast_one, Int.cast_ofNat_Int, Int.natCast_zero]; done) | (simp only [St.set, St.ev, upd, ren, renL, id, Nat.reduceEqDiff, reduceIte]) | skip); done)) | (simp only [St.set, St.ev, upd, ren, renL, id, Nat.reduceEqDiff, reduceIte, ContLe]) | skip)))); (case' h1 => (focus ((repeat' (with_reducible first | exact TmpLe.bot | refine TmpLe.upd ?_ rfl ?_)); all_goals (first | rfl | (simp only [St.set, St.ev, upd, ren, renL, id, Nat.reduceEqDiff, reduceIte]; done) | ((try simp only [St.set, St.ev, upd, ren, renL, id, Nat.reduceEqDiff, reduceIte]); first | (with_reducible exact av_int (by omega)) | (with_reducible exact av_sl (by first | omega | (simp; done) | (simp; omega)) (by first | omega | (simp; done) | (simp; omega)))) | (simp only [St.set, St.ev, upd, ren, renL, id, Nat.reduceEqDiff, reduceIte, Int.natCast_add, Int.natCast_one, Int.cast_ofNat_Int, Int.natCast_zero]; done) | (simp only [St.set, St.ev, upd, ren, renL, id, Nat.reduceEqDiff, reduceIte]) | skip)))); (case h3 => (focus (first | (simp only [id, List.map_cons, List.map_nil]; decide) | decide | (simp; done) | (simp; omega) | fail))); (case h4 => (intro o l h; first | (cases h; done) | (have hlt0 := m0_lt (by assumption) h; (try (simp only at hlt0)); first | omega | (simp only; omega) | exact ⟨by (first | rfl | (simp only [id]; done) | ((repeat rw [if_neg (by omega)]); done)), by first | omega | (simp only; omega)⟩))))
    · rintro ⟨i, ys⟩ ⟨hi, hl, hj, hz⟩
      simp only at hi hl hj hz
      repeat' (first | refine awp_seq_k fun K hK => ?_ | ((with_reducible refine hK _ ?_); clear hK K) | (clear hK K; (with_reducible refine hK _ ?_); clear hK K) | (clear hK K; clear hK K; (with_reducible refine hK _ ?_); clear hK K) | (clear hK K; clear hK K; clear hK K; (with_reducible refine hK _ ?_); clear hK K) | (clear hK K; clear hK K; clear hK K; clear hK K; (with_reducible refine hK _ ?_); clear hK K) | (clear hK K; clear hK K; clear hK K; clear hK K; clear hK K; (with_reducible refine hK _ ?_); clear hK K) | ((with_reducible refine aord_plain fun K hK => ?_); simp only [go_sem, Nat.reduceAdd, Nat.reduceMul, Nat.reduceEqDiff, Nat.reduceLT, reduceIte, reduceCtorEq]) | ((with_reducible apply aord_guard); (focus (simp only [St.ev, St.set, upd, Nat.reduceEqDiff, reduceIte, if_false, if_true]; exact rfl)); all_goals (intro hb; (try simp only [Bool.not_true, Bool.not_false] at hb); first | (cases hb; done) | ((try rw [hb]); (try simp only [Bool.not_eq_true', Bool.not_eq_false', Bool.and_eq_true, decide_eq_true_eq, decide_eq_false_iff_not, beq_iff_eq, bne_iff_ne, beq_eq_false_iff_ne, bne_eq_false_iff_eq, Int.not_lt, Int.not_le] at hb); (try (revert hb; with_reducible refine true_imp_iff.2 ?_)); first | (intro K hK; simp only [go_sem, Nat.reduceAdd, Nat.reduceMul, Nat.reduceEqDiff, Nat.reduceLT, reduceIte, reduceCtorEq]) | (simp only [St.ev, St.set, upd, Nat.reduceEqDiff, reduceIte, if_false, if_true]) | skip))) | ((with_reducible apply aord_skip); (focus (simp only [St.ev, St.set, upd, Nat.reduceEqDiff, reduceIte, if_false, if_true]; done)); (simp only [St.ev, St.set, upd, Nat.reduceEqDiff, reduceIte, if_false, if_true])) | refine awp_block ?_ | ((first | with_reducible refine aord_nil ?_ | refine awp_skip ?_ | refine awp_exit ?_ | refine awp_ret ?_); try simp only [thenA_normal, thenA_exit, thenA_goto, thenA_ret, blockA_normal, blockA_same, blockA_exit, blockA_goto, blockA_ret, Nat.reduceEqDiff, if_false, if_true, reduceIte]) | (refine awp_region tabOk rfl ?_; simp only [prep, pickO, List.map_cons, List.map_nil, List.getElem?_toArray, List.getElem?_cons_succ, List.getElem?_cons_zero, Option.bind_some, Option.map_some]) | ((with_reducible apply awp_cond); (focus (simp only [St.ev, St.set, upd, Nat.reduceEqDiff, reduceIte, if_false, if_true]; exact rfl)); all_goals (intro hb; first | (cases hb; done) | ((try rw [hb]); (try simp only [decide_eq_true_eq, decide_eq_false_iff_not, beq_iff_eq, bne_iff_ne, beq_eq_false_iff_ne, bne_eq_false_iff_eq, Int.not_lt, Int.not_le, Bool.not_eq_true', Bool.not_eq_false'] at hb)))) | ((with_reducible refine And.intro ?_ ?_); (focus omega)) | ((with_reducible refine And.intro ?_ ?_); (focus (exact rfl))) | ((with_reducible refine And.intro (?_ : enters Try.prog 13) ?_); (focus exact Try.call13); (refine callX_sat implValidKeys_sat ?_); simp only [go_sem, and_assoc, List.nil_append, List.append_nil, List.cons_append, Nat.reduceEqDiff, reduceIte, reduceCtorEq]) | (refine aStoreAll_ints (by simp only [St.ev, St.set, upd, Nat.reduceEqDiff, reduceIte, if_false, if_true]; exact rfl) ?_ ?_ ?_ ?_; (focus (first | rfl | omega | (simp; done) | (simp; omega) | (simp [szOf, tab]; done) | (simp [szOf, tab]; omega))); (focus (first | rfl | omega | (simp; done) | (simp; omega) | (simp [szOf, tab]; done) | (simp [szOf, tab]; omega))); (focus (first | rfl | omega | (simp; done) | (simp; omega) | (simp [szOf, tab]; done) | (simp [szOf, tab]; omega))); (try simp only [go_sem, Nat.reduceAdd, Nat.reduceMul, Nat.reduceEqDiff, Nat.reduceLT, reduceIte, reduceCtorEq])) | (refine aStoreAll_cells (by simp only [St.ev, St.set, upd, Nat.reduceEqDiff, reduceIte, if_false, if_true]; exact rfl) ?_ ?_ ?_ ?_ ?_; (focus (first | rfl | omega | (simp; done) | (simp; omega) | (simp [szOf, tab]; done) | (simp [szOf, tab]; omega))); (focus (first | rfl | omega | (simp; done) | (simp; omega) | (simp [szOf, tab]; done) | (simp [szOf, tab]; omega))); (focus (first | rfl | omega | (simp; done) | (simp; omega) | (simp [szOf, tab]; done) | (simp [szOf, tab]; omega))); (focus (first | rfl | (simp [AV.cell, Value.oneCell']; done))); (try simp only [go_sem, Nat.reduceAdd, Nat.reduceMul, Nat.reduceEqDiff, Nat.reduceLT, reduceIte, reduceCtorEq])) | (with_reducible refine And.intro (fun hb => ?_) (fun hb => ?_)) | (exfalso; omega) | fail)
      · refine awp_loop (fun p : Nat × List Int => ⟨upd (upd (upd (upd (upd (upd (upd (upd (upd (upd bot 23 (.val (.int .i64 p.1))) 22 (.val (.int .i64 xs.length))) 21 (.sl 0 0 xs.length 1 none)) 5 (.val (.int .i64 (xs.getD i 0)))) 4 (.val (.int .i64 i))) 16 (.val (.int .i64 i))) 15 (.val (.int .i64 xs.length))) 14 (.sl 0 0 xs.length 1 none)) 3 (.sl 1 0 xs.length 1 none)) 0 (.sl 0 0 xs.length 1 none), upd (upd none' 0 (some ⟨false, .ints .i64 xs⟩)) 1 (some ⟨true, .ints .i64 p.2⟩), 2⟩) (fun p => p.1 ≤ xs.length ∧ p.2.length = xs.length ∧ p.2.getD i 0 = plC xs i p.1 ∧ 0 ≤ p.2.getD i 0 ∧ p.2.getD i 0 ≤ p.1 ∧ ∀ j, j ≠ i → p.2.getD j 0 = ys.getD j 0) (fun p => xs.length - p.1) (0, ys) ⟨by simp, hl, by rw [hz i (Nat.le_refl i)]; rfl, by rw [hz i (Nat.le_refl i)]; simp, by rw [hz i (Nat.le_refl i)]; simp, fun _ _ => rfl⟩ ?_ ?_
        · (apply Wk.same; (case' h2 => (focus ((repeat' (with_reducible first | exact HeapX.bot | (apply HeapX.skip; (case hx => (simp; done))) | apply HeapX.none | apply HeapX.upd)); all_goals (first | rfl | exact Nat.le_of_ble_eq_true rfl | (simp only [St.set, St.ev, upd, ren, renL, id, Nat.reduceEqDiff, reduceIte, ContLe]; done) | (exact And.intro rfl (And.intro (by first | exact Nat.le_of_ble_eq_true rfl | omega) (by first | exact Nat.le_of_ble_eq_true rfl | omega))) | (first | (simp only [St.set, St.ev, upd, ren, renL, id, Nat.reduceEqDiff, reduceIte]; exact contLe_nil) | ((repeat' (first | exact contLe_nil | refine contLe_cons (.inr ⟨?_, rfl⟩) ?_)); all_goals (first | rfl | (simp only [St.set, St.ev, upd, ren, renL, id, Nat.reduceEqDiff, reduceIte]; done) | ((try simp only [St.set, St.ev, upd, ren, renL, id, Nat.reduceEqDiff, reduceIte]); first | (with_reducible exact av_int (by omega)) | (with_reducible exact av_sl (by first | omega | (simp; done) | (simp; omega)) (by first | omega | (simp; done) | (simp; omega)))) | (simp only [St.set, St.ev, upd, ren, renL, id, Nat.reduceEqDiff, reduceIte, Int.natCast_add, Int.natCast_one, Int.cast_ofNat_Int, Int.natCast_zero]; done) | (simp only [St.set, St.ev, upd, ren, renL, id, Nat.reduceEqDiff, reduceIte]) | skip); done)) | (simp only [St.set, St.ev, upd, ren, renL, id, Nat.reduceEqDiff, reduceIte, ContLe]) | skip)))); (case' h1 => (focus ((repeat' (with_reducible first | exact TmpLe.bot | refine TmpLe.upd ?_ rfl ?_)); all_goals (first | rfl | (simp only [St.set, St.ev, upd, ren, renL, id, Nat.reduceEqDiff, reduceIte]; done) | ((try simp only [St.set, St.ev, upd, ren, renL, id, Nat.reduceEqDiff, reduceIte]); first | (with_reducible exact av_int (by omega)) | (with_reducible exact av_sl (by first | omega | (simp; done) | (simp; omega)) (by first | omega | (simp; done) | (simp; omega)))) | (simp only [St.set, St.ev, upd, ren, renL, id, Nat.reduceEqDiff, reduceIte, Int.natCast_add, Int.natCast_one, Int.cast_ofNat_Int, Int.natCast_zero]; done) | (simp only [St.set, St.ev, upd, ren, renL, id, Nat.reduceEqDiff, reduceIte]) | skip)))); (case h3 => (focus (first | (simp only [id, List.map_cons, List.map_nil]; decide) | decide | (simp; done) | (simp; omega) | fail))); (case h4 => (intro o l h; first | (cases h; done) | (have hlt0 := m0_lt (by assumption) h; (try (simp only at hlt0)); first | omega | (simp only; omega) | exact ⟨by (first | rfl | (simp only [id]; done) | ((repeat rw [if_neg (by omega)]); done)), by first | omega | (simp only; omega)⟩))))
        · rintro ⟨k, zs⟩ ⟨hk, hzl, hn, hn0, hn8, ho⟩
          simp only at hk hzl hn hn0 hn8 ho
          have hli : i < zs.length := by omega
          repeat' (first | refine awp_seq_k fun K hK => ?_ | ((with_reducible refine hK _ ?_); clear hK K) | (clear hK K; (with_reducible refine hK _ ?_); clear hK K) | (clear hK K; clear hK K; (with_reducible refine hK _ ?_); clear hK K) | (clear hK K; clear hK K; clear hK K; (with_reducible refine hK _ ?_); clear hK K) | (clear hK K; clear hK K; clear hK K; clear hK K; (with_reducible refine hK _ ?_); clear hK K) | (clear hK K; clear hK K; clear hK K; clear hK K; clear hK K; (with_reducible refine hK _ ?_); clear hK K) | ((with_reducible refine aord_plain fun K hK => ?_); simp only [go_sem, Nat.reduceAdd, Nat.reduceMul, Nat.reduceEqDiff, Nat.reduceLT, reduceIte, reduceCtorEq]) | ((with_reducible apply aord_guard); (focus (simp only [St.ev, St.set, upd, Nat.reduceEqDiff, reduceIte, if_false, if_true]; exact rfl)); all_goals (intro hb; (try simp only [Bool.not_true, Bool.not_false] at hb); first | (cases hb; done) | ((try rw [hb]); (try simp only [Bool.not_eq_true', Bool.not_eq_false', Bool.and_eq_true, decide_eq_true_eq, decide_eq_false_iff_not, beq_iff_eq, bne_iff_ne, beq_eq_false_iff_ne, bne_eq_false_iff_eq, Int.not_lt, Int.not_le] at hb); (try (revert hb; with_reducible refine true_imp_iff.2 ?_)); first | (intro K hK; simp only [go_sem, Nat.reduceAdd, Nat.reduceMul, Nat.reduceEqDiff, Nat.reduceLT, reduceIte, reduceCtorEq]) | (simp only [St.ev, St.set, upd, Nat.reduceEqDiff, reduceIte, if_false, if_true]) | skip))) | ((with_reducible apply aord_skip); (focus (simp only [St.ev, St.set, upd, Nat.reduceEqDiff, reduceIte, if_false, if_true]; done)); (simp only [St.ev, St.set, upd, Nat.reduceEqDiff, reduceIte, if_false, if_true])) | refine awp_block ?_ | ((first | with_reducible refine aord_nil ?_ | refine awp_skip ?_ | refine awp_exit ?_ | refine awp_ret ?_); try simp only [thenA_normal, thenA_exit, thenA_goto, thenA_ret, blockA_normal, blockA_same, blockA_exit, blockA_goto, blockA_ret, Nat.reduceEqDiff, if_false, if_true, reduceIte]) | (refine awp_region tabOk rfl ?_; simp only [prep, pickO, List.map_cons, List.map_nil, List.getElem?_toArray, List.getElem?_cons_succ, List.getElem?_cons_zero, Option.bind_some, Option.map_some]) | ((with_reducible apply awp_cond); (focus (simp only [St.ev, St.set, upd, Nat.reduceEqDiff, reduceIte, if_false, if_true]; exact rfl)); all_goals (intro hb; first | (cases hb; done) | ((try rw [hb]); (try simp only [decide_eq_true_eq, decide_eq_false_iff_not, beq_iff_eq, bne_iff_ne, beq_eq_false_iff_ne, bne_eq_false_iff_eq, Int.not_lt, Int.not_le, Bool.not_eq_true', Bool.not_eq_false'] at hb)))) | ((with_reducible refine And.intro ?_ ?_); (focus omega)) | ((with_reducible refine And.intro ?_ ?_); (focus (exact rfl))) | ((with_reducible refine And.intro (?_ : enters Try.prog 13) ?_); (focus exact Try.call13); (refine callX_sat implValidKeys_sat ?_); simp only [go_sem, and_assoc, List.nil_append, List.append_nil, List.cons_append, Nat.reduceEqDiff, reduceIte, reduceCtorEq]) | (refine aStoreAll_ints (by simp only [St.ev, St.set, upd, Nat.reduceEqDiff, reduceIte, if_false, if_true]; exact rfl) ?_ ?_ ?_ ?_; (focus (first | rfl | omega | (simp; done) | (simp; omega) | (simp [szOf, tab]; done) | (simp [szOf, tab]; omega))); (focus (first | rfl | omega | (simp; done) | (simp; omega) | (simp [szOf, tab]; done) | (simp [szOf, tab]; omega))); (focus (first | rfl | omega | (simp; done) | (simp; omega) | (simp [szOf, tab]; done) | (simp [szOf, tab]; omega))); (try simp only [go_sem, Nat.reduceAdd, Nat.reduceMul, Nat.reduceEqDiff, Nat.reduceLT, reduceIte, reduceCtorEq])) | (refine aStoreAll_cells (by simp only [St.ev, St.set, upd, Nat.reduceEqDiff, reduceIte, if_false, if_true]; exact rfl) ?_ ?_ ?_ ?_ ?_; (focus (first | rfl | omega | (simp; done) | (simp; omega) | (simp [szOf, tab]; done) | (simp [szOf, tab]; omega))); (focus (first | rfl | omega | (simp; done) | (simp; omega) | (simp [szOf, tab]; done) | (simp [szOf, tab]; omega))); (focus (first | rfl | omega | (simp; done) | (simp; omega) | (simp [szOf, tab]; done) | (simp [szOf, tab]; omega))); (focus (first | rfl | (simp [AV.cell, Value.oneCell']; done))); (try simp only [go_sem, Nat.reduceAdd, Nat.reduceMul, Nat.reduceEqDiff, Nat.reduceLT, reduceIte, reduceCtorEq])) | (with_reducible refine And.intro (fun hb => ?_) (fun hb => ?_)) | (exfalso; omega) | fail)
          all_goals first
            | (refine ⟨(k + 1, zs.set i (zs.getD i 0 + 1)), ⟨by simp only; omega, by simp only [List.length_set]; exact hzl, by simp only; rw [getD_set_same hli, plC_up (by omega)]; omega, by simp only; rw [getD_set_same hli]; omega, by simp only; rw [getD_set_same hli]; omega, fun j hj' => by simp only; rw [getD_set_ne' (Ne.symm hj')]; exact ho j hj'⟩, by simp only; omega, ?_⟩
               (apply Wk.same; (case' h2 => (focus ((repeat' (with_reducible first | exact HeapX.bot | (apply HeapX.skip; (case hx => (simp; done))) | apply HeapX.none | apply HeapX.upd)); all_goals (first | rfl | exact Nat.le_of_ble_eq_true rfl | (simp only [St.set, St.ev, upd, ren, renL, id, Nat.reduceEqDiff, reduceIte, ContLe]; done) | (exact And.intro rfl (And.intro (by first | exact Nat.le_of_ble_eq_true rfl | omega) (by first | exact Nat.le_of_ble_eq_true rfl | omega))) | (first | (simp only [St.set, St.ev, upd, ren, renL, id, Nat.reduceEqDiff, reduceIte]; exact contLe_nil) | ((repeat' (first | exact contLe_nil | refine contLe_cons (.inr ⟨?_, rfl⟩) ?_)); all_goals (first | rfl | (simp only [St.set, St.ev, upd, ren, renL, id, Nat.reduceEqDiff, reduceIte]; done) | ((try simp only [St.set, St.ev, upd, ren, renL, id, Nat.reduceEqDiff, reduceIte]); first | (with_reducible exact av_int (by omega)) | (with_reducible exact av_sl (by first | omega | (simp; done) | (simp; omega)) (by first | omega | (simp; done) | (simp; omega)))) | (simp only [St.set, St.ev, upd, ren, renL, id, Nat.reduceEqDiff, reduceIte, Int.natCast_add, Int.natCast_one, Int.cast_ofNat_Int, Int.natCast_zero]; done) | (simp only [St.set, St.ev, upd, ren, renL, id, Nat.reduceEqDiff, reduceIte]) | skip); done)) | (simp only [St.set, St.ev, upd, ren, renL, id, Nat.reduceEqDiff, reduceIte, ContLe]) | skip)))); (case' h1 => (focus ((repeat' (with_reducible first | exact TmpLe.bot | refine TmpLe.upd ?_ rfl ?_)); all_goals (first | rfl | (simp only [St.set, St.ev, upd, ren, renL, id, Nat.reduceEqDiff, reduceIte]; done) | ((try simp only [St.set, St.ev, upd, ren, renL, id, Nat.reduceEqDiff, reduceIte]); first | (with_reducible exact av_int (by omega)) | (with_reducible exact av_sl (by first | omega | (simp; done) | (simp; omega)) (by first | omega | (simp; done) | (simp; omega)))) | (simp only [St.set, St.ev, upd, ren, renL, id, Nat.reduceEqDiff, reduceIte, Int.natCast_add, Int.natCast_one, Int.cast_ofNat_Int, Int.natCast_zero]; done) | (simp only [St.set, St.ev, upd, ren, renL, id, Nat.reduceEqDiff, reduceIte]) | skip)))); (case h3 => (focus (first | (simp only [id, List.map_cons, List.map_nil]; decide) | decide | (simp; done) | (simp; omega) | fail))); (case h4 => (intro o l h; first | (cases h; done) | (have hlt0 := m0_lt (by assumption) h; (try (simp only at hlt0)); first | omega | (simp only; omega) | exact ⟨by (first | rfl | (simp only [id]; done) | ((repeat rw [if_neg (by omega)]); done)), by first | omega | (simp only; omega)⟩)))))
            | (refine ⟨(k + 1, zs), ⟨by simp only; omega, hzl, by simp only; rw [plC_stay (by omega)]; omega, hn0, by simp only; omega, ho⟩, by simp only; omega, ?_⟩
               (apply Wk.same; (case' h2 => (focus ((repeat' (with_reducible first | exact HeapX.bot | (apply HeapX.skip; (case hx => (simp; done))) | apply HeapX.none | apply HeapX.upd)); all_goals (first | rfl | exact Nat.le_of_ble_eq_true rfl | (simp only [St.set, St.ev, upd, ren, renL, id, Nat.reduceEqDiff, reduceIte, ContLe]; done) | (exact And.intro rfl (And.intro (by first | exact Nat.le_of_ble_eq_true rfl | omega) (by first | exact Nat.le_of_ble_eq_true rfl | omega))) | (first | (simp only [St.set, St.ev, upd, ren, renL, id, Nat.reduceEqDiff, reduceIte]; exact contLe_nil) | ((repeat' (first | exact contLe_nil | refine contLe_cons (.inr ⟨?_, rfl⟩) ?_)); all_goals (first | rfl | (simp only [St.set, St.ev, upd, ren, renL, id, Nat.reduceEqDiff, reduceIte]; done) | ((try simp only [St.set, St.ev, upd, ren, renL, id, Nat.reduceEqDiff, reduceIte]); first | (with_reducible exact av_int (by omega)) | (with_reducible exact av_sl (by first | omega | (simp; done) | (simp; omega)) (by first | omega | (simp; done) | (simp; omega)))) | (simp only [St.set, St.ev, upd, ren, renL, id, Nat.reduceEqDiff, reduceIte, Int.natCast_add, Int.natCast_one, Int.cast_ofNat_Int, Int.natCast_zero]; done) | (simp only [St.set, St.ev, upd, ren, renL, id, Nat.reduceEqDiff, reduceIte]) | skip); done)) | (simp only [St.set, St.ev, upd, ren, renL, id, Nat.reduceEqDiff, reduceIte, ContLe]) | skip)))); (case' h1 => (focus ((repeat' (with_reducible first | exact TmpLe.bot | refine TmpLe.upd ?_ rfl ?_)); all_goals (first | rfl | (simp only [St.set, St.ev, upd, ren, renL, id, Nat.reduceEqDiff, reduceIte]; done) | ((try simp only [St.set, St.ev, upd, ren, renL, id, Nat.reduceEqDiff, reduceIte]); first | (with_reducible exact av_int (by omega)) | (with_reducible exact av_sl (by first | omega | (simp; done) | (simp; omega)) (by first | omega | (simp; done) | (simp; omega)))) | (simp only [St.set, St.ev, upd, ren, renL, id, Nat.reduceEqDiff, reduceIte, Int.natCast_add, Int.natCast_one, Int.cast_ofNat_Int, Int.natCast_zero]; done) | (simp only [St.set, St.ev, upd, ren, renL, id, Nat.reduceEqDiff, reduceIte]) | skip)))); (case h3 => (focus (first | (simp only [id, List.map_cons, List.map_nil]; decide) | decide | (simp; done) | (simp; omega) | fail))); (case h4 => (intro o l h; first | (cases h; done) | (have hlt0 := m0_lt (by assumption) h; (try (simp only at hlt0)); first | omega | (simp only; omega) | exact ⟨by (first | rfl | (simp only [id]; done) | ((repeat rw [if_neg (by omega)]); done)), by first | omega | (simp only; omega)⟩)))))
            | skip
          refine ⟨(i + 1, zs), ⟨by simp only; omega, hzl, fun j h => ?_, fun j h => ?_⟩, by simp only; omega, ?_⟩
          · simp only at h ⊢
            rcases Nat.lt_or_ge j i with h1 | h1
            · rw [ho j (by omega)]; exact hj j h1
            · rw [show j = i by omega, hn, show k = xs.length by omega]
          · simp only at h ⊢
            rw [ho j (by omega)]; exact hz j (by omega)
          · (apply Wk.same; (case' h2 => (focus ((repeat' (with_reducible first | exact HeapX.bot | (apply HeapX.skip; (case hx => (simp; done))) | apply HeapX.none | apply HeapX.upd)); all_goals (first | rfl | exact Nat.le_of_ble_eq_true rfl | (simp only [St.set, St.ev, upd, ren, renL, id, Nat.reduceEqDiff, reduceIte, ContLe]; done) | (exact And.intro rfl (And.intro (by first | exact Nat.le_of_ble_eq_true rfl | omega) (by first | exact Nat.le_of_ble_eq_true rfl | omega))) | (first | (simp only [St.set, St.ev, upd, ren, renL, id, Nat.reduceEqDiff, reduceIte]; exact contLe_nil) | ((repeat' (first | exact contLe_nil | refine contLe_cons (.inr ⟨?_, rfl⟩) ?_)); all_goals (first | rfl | (simp only [St.set, St.ev, upd, ren, renL, id, Nat.reduceEqDiff, reduceIte]; done) | ((try simp only [St.set, St.ev, upd, ren, renL, id, Nat.reduceEqDiff, reduceIte]); first | (with_reducible exact av_int (by omega)) | (with_reducible exact av_sl (by first | omega | (simp; done) | (simp; omega)) (by first | omega | (simp; done) | (simp; omega)))) | (simp only [St.set, St.ev, upd, ren, renL, id, Nat.reduceEqDiff, reduceIte, Int.natCast_add, Int.natCast_one, Int.cast_ofNat_Int, Int.natCast_zero]; done) | (simp only [St.set, St.ev, upd, ren, renL, id, Nat.reduceEqDiff, reduceIte]) | skip); done)) | (simp only [St.set, St.ev, upd, ren, renL, id, Nat.reduceEqDiff, reduceIte, ContLe]) | skip)))); (case' h1 => (focus ((repeat' (with_reducible first | exact TmpLe.bot | refine TmpLe.upd ?_ rfl ?_)); all_goals (first | rfl | (simp only [St.set, St.ev, upd, ren, renL, id, Nat.reduceEqDiff, reduceIte]; done) | ((try simp only [St.set, St.ev, upd, ren, renL, id, Nat.reduceEqDiff, reduceIte]); first | (with_reducible exact av_int (by omega)) | (with_reducible exact av_sl (by first | omega | (simp; done) | (simp; omega)) (by first | omega | (simp; done) | (simp; omega)))) | (simp only [St.set, St.ev, upd, ren, renL, id, Nat.reduceEqDiff, reduceIte, Int.natCast_add, Int.natCast_one, Int.cast_ofNat_Int, Int.natCast_zero]; done) | (simp only [St.set, St.ev, upd, ren, renL, id, Nat.reduceEqDiff, reduceIte]) | skip)))); (case h3 => (focus (first | (simp only [id, List.map_cons, List.map_nil]; decide) | decide | (simp; done) | (simp; omega) | fail))); (case h4 => (intro o l h; first | (cases h; done) | (have hlt0 := m0_lt (by assumption) h; (try (simp only at hlt0)); first | omega | (simp only; omega) | exact ⟨by (first | rfl | (simp only [id]; done) | ((repeat rw [if_neg (by omega)]); done)), by first | omega | (simp only; omega)⟩))))
      · simp only [St.set, St.ev, doneQ, doneH, ressK, resK, wrapR, AV.ids, AV.idsL, retK, retsK, upd, Nat.reduceEqDiff, reduceIte, if_false, if_true, List.nodup_nil, List.nodup_cons, List.not_mem_nil, not_false_eq_true, true_and, and_true, exists_eq_left', Option.some.injEq, rLoad, cellOf, tab, Ty.isAgg, Ty.one, Bool.false_eq_true]
        have : ys = placesL xs := ext_getD (by rw [placesL_len]; omega) fun j h => by rw [hj j (by omega), placesL_get (by omega)]
        subst this
        simp only [Cont.closed, Cont.len, true_and]
        first | exact hQ | exact ⟨hl.symm, hQ⟩

/-- What is laid at the places, of the first k keys. -/
def scN (P xs : List Int) : Nat → List Int
  | 0 => List.replicate xs.length 0
  | k + 1 => (scN P xs k).set (P.getD k 0).toNat (xs.getD k 0)
theorem scN_len (P xs : List Int) : ∀ k, (scN P xs k).length = xs.length
  | 0 => by simp [scN]
  | k + 1 => by simp [scN, scN_len P xs k]
def ordL (xs : List Int) : List Int := scN (placesL xs) xs xs.length
theorem ordL_len (xs : List Int) : (ordL xs).length = xs.length := scN_len _ _ _

theorem placesL_lt {xs : List Int} {i : Nat} (h : i < xs.length) : 0 ≤ (placesL xs).getD i 0 ∧ (placesL xs).getD i 0 < xs.length := by
  rw [placesL_get h]
  have := plC_nonneg xs i xs.length
  have := plC_own xs i xs.length h
  omega


theorem specOrder_sat : Sat Try.prog 63 (fun ds Q => ∃ (xs : List Int), ds = [.row (.ints .i64 (xs))] ∧ (xs.length ≤ 8) ∧ Q (.row (.ints .i64 ((ordL xs))))) := by
  refine sat_intro tabOk Try.func63 rfl 28 rfl [.tmp 2] rfl ?_
  rintro ds Q W ⟨xs, rfl, hlen, hQ⟩
  refine ⟨Nat.le_of_ble_eq_true rfl, ?_⟩
  simp only [initS, initT, mat.matL, mat, Cont.len]
  have hpl := placesL_len xs
  repeat' (first | refine awp_seq_k fun K hK => ?_ | ((with_reducible refine hK _ ?_); clear hK K) | (clear hK K; (with_reducible refine hK _ ?_); clear hK K) | (clear hK K; clear hK K; (with_reducible refine hK _ ?_); clear hK K) | (clear hK K; clear hK K; clear hK K; (with_reducible refine hK _ ?_); clear hK K) | (clear hK K; clear hK K; clear hK K; clear hK K; (with_reducible refine hK _ ?_); clear hK K) | (clear hK K; clear hK K; clear hK K; clear hK K; clear hK K; (with_reducible refine hK _ ?_); clear hK K) | ((with_reducible refine aord_plain fun K hK => ?_); simp only [go_sem, Nat.reduceAdd, Nat.reduceMul, Nat.reduceEqDiff, Nat.reduceLT, reduceIte, reduceCtorEq]) | refine awp_block ?_ | ((first | with_reducible refine aord_nil ?_ | refine awp_skip ?_ | refine awp_exit ?_ | refine awp_ret ?_); try simp only [thenA_normal, thenA_exit, thenA_goto, thenA_ret, blockA_normal, blockA_same, blockA_exit, blockA_goto, blockA_ret, Nat.reduceEqDiff, if_false, if_true, reduceIte]) | (refine awp_region tabOk rfl ?_; simp only [prep, pickO, List.map_cons, List.map_nil, List.getElem?_toArray, List.getElem?_cons_succ, List.getElem?_cons_zero, Option.bind_some, Option.map_some]) | (refine awp_region_draw (nt := 28) (id := 6) tabOk [(0, true, false), (1, true, false), (2, true, false), (3, true, false), (4, true, false), (5, true, false), (6, true, false), (7, true, false), (8, true, false), (9, true, false), (10, false, false)] (by kernel_rfl) rfl (by kernel_rfl) ?_; simp only [prep, pickO, List.map_cons, List.map_nil, List.getElem?_toArray, List.getElem?_cons_succ, List.getElem?_cons_zero, Option.bind_some, Option.map_some]) | ((with_reducible apply awp_cond); (focus (simp only [St.ev, St.set, upd, Nat.reduceEqDiff, reduceIte, if_false, if_true]; exact rfl)); all_goals (intro hb; first | (cases hb; done) | ((try rw [hb]); (try simp only [decide_eq_true_eq, decide_eq_false_iff_not, beq_iff_eq, bne_iff_ne, beq_eq_false_iff_ne, bne_eq_false_iff_eq, Int.not_lt, Int.not_le, Bool.not_eq_true', Bool.not_eq_false'] at hb)))) | ((with_reducible refine And.intro ?_ ?_); (focus omega)) | ((with_reducible refine And.intro ?_ ?_); (focus (exact rfl))) | ((with_reducible refine And.intro (?_ : enters Try.prog 68) ?_); (focus exact Try.call68); (refine callX_sat specPlaces_sat ?_); simp only [go_sem, and_assoc, List.nil_append, List.append_nil, List.cons_append, Nat.reduceEqDiff, reduceIte, reduceCtorEq]) | (refine aStoreAll_ints (by simp only [St.ev, St.set, upd, Nat.reduceEqDiff, reduceIte, if_false, if_true]; exact rfl) ?_ ?_ ?_ ?_; (focus (first | rfl | omega | (simp; done) | (simp; omega) | (simp [szOf, tab]; done) | (simp [szOf, tab]; omega))); (focus (first | rfl | omega | (simp; done) | (simp; omega) | (simp [szOf, tab]; done) | (simp [szOf, tab]; omega))); (focus (first | rfl | omega | (simp; done) | (simp; omega) | (simp [szOf, tab]; done) | (simp [szOf, tab]; omega))); (try simp only [go_sem, Nat.reduceAdd, Nat.reduceMul, Nat.reduceEqDiff, Nat.reduceLT, reduceIte, reduceCtorEq])) | (refine aStoreAll_cells (by simp only [St.ev, St.set, upd, Nat.reduceEqDiff, reduceIte, if_false, if_true]; exact rfl) ?_ ?_ ?_ ?_ ?_; (focus (first | rfl | omega | (simp; done) | (simp; omega) | (simp [szOf, tab]; done) | (simp [szOf, tab]; omega))); (focus (first | rfl | omega | (simp; done) | (simp; omega) | (simp [szOf, tab]; done) | (simp [szOf, tab]; omega))); (focus (first | rfl | omega | (simp; done) | (simp; omega) | (simp [szOf, tab]; done) | (simp [szOf, tab]; omega))); (focus (first | rfl | (simp [AV.cell, Value.oneCell']; done))); (try simp only [go_sem, Nat.reduceAdd, Nat.reduceMul, Nat.reduceEqDiff, Nat.reduceLT, reduceIte, reduceCtorEq])) | (with_reducible refine And.intro (fun hb => ?_) (fun hb => ?_)) | (exfalso; omega) | fail)
  refine awp_loopE (α := Nat) (fun s p => ⟨(upd (upd (upd (upd bot 0 (s.tmps 0)) 3 (s.tmps 3)) 4 (s.tmps 4)) 5 (.val (.int .i64 (p)))), (upd s.heap 2 (some ⟨true, .ints .i64 (scN (placesL xs) xs p)⟩)), s.next⟩) _ (fun p => by simp only [St.ev, St.set, upd, Nat.reduceEqDiff, reduceIte, if_false, if_true]; exact rfl) (fun p => (p ≤ xs.length)) (fun p => xs.length - p) (0) ?_ ?_ ?_
  · (try simp only); (refine ?_ <;> (first | omega | (simp only; omega) | rfl | (simp; done) | skip))
  · (apply Wk.same; (case' h2 => (focus ((repeat' (with_reducible first | exact HeapX.bot | (apply HeapX.skip; (case hx => (simp; done))) | apply HeapX.none | apply HeapX.upd)); all_goals (first | rfl | exact Nat.le_of_ble_eq_true rfl | (simp only [St.set, St.ev, upd, ren, renL, id, Nat.reduceEqDiff, reduceIte, ContLe]; done) | (exact And.intro rfl (And.intro (by first | exact Nat.le_of_ble_eq_true rfl | omega) (by first | exact Nat.le_of_ble_eq_true rfl | omega))) | (first | (simp only [St.set, St.ev, upd, ren, renL, id, Nat.reduceEqDiff, reduceIte]; exact contLe_nil) | ((repeat' (first | exact contLe_nil | refine contLe_cons (.inr ⟨?_, rfl⟩) ?_)); all_goals (first | rfl | (simp only [St.set, St.ev, upd, ren, renL, id, Nat.reduceEqDiff, reduceIte]; done) | ((try simp only [St.set, St.ev, upd, ren, renL, id, Nat.reduceEqDiff, reduceIte]); first | (with_reducible exact av_int (by omega)) | (with_reducible exact av_sl (by first | omega | (simp; done) | (simp; omega)) (by first | omega | (simp; done) | (simp; omega)))) | (simp only [St.set, St.ev, upd, ren, renL, id, Nat.reduceEqDiff, reduceIte, Int.natCast_add, Int.natCast_one, Int.cast_ofNat_Int, Int.natCast_zero]; done) | (simp only [St.set, St.ev, upd, ren, renL, id, Nat.reduceEqDiff, reduceIte]) | skip); done)) | (simp only [St.set, St.ev, upd, ren, renL, id, Nat.reduceEqDiff, reduceIte, ContLe]) | skip)))); (case' h1 => (focus ((repeat' (with_reducible first | exact TmpLe.bot | refine TmpLe.upd ?_ rfl ?_)); all_goals (first | rfl | (simp only [St.set, St.ev, upd, ren, renL, id, Nat.reduceEqDiff, reduceIte]; done) | ((try simp only [St.set, St.ev, upd, ren, renL, id, Nat.reduceEqDiff, reduceIte]); first | (with_reducible exact av_int (by omega)) | (with_reducible exact av_sl (by first | omega | (simp; done) | (simp; omega)) (by first | omega | (simp; done) | (simp; omega)))) | (simp only [St.set, St.ev, upd, ren, renL, id, Nat.reduceEqDiff, reduceIte, Int.natCast_add, Int.natCast_one, Int.cast_ofNat_Int, Int.natCast_zero]; done) | (simp only [St.set, St.ev, upd, ren, renL, id, Nat.reduceEqDiff, reduceIte]) | skip)))); (case h3 => (focus (first | (simp only [id, List.map_cons, List.map_nil]; decide) | decide | (simp; done) | (simp; omega) | fail))); (case h4 => (intro o l h; first | (cases h; done) | (have hlt0 := m0_lt (by assumption) h; (try (simp only at hlt0)); first | omega | (simp only; omega) | exact ⟨by (first | rfl | (simp only [id]; done) | ((repeat rw [if_neg (by omega)]); done)), by first | omega | (simp only; omega)⟩))))
  rintro i hi
  try simp only at hi
  have hsl := scN_len (placesL xs) xs i
  have hpi : i < xs.length → 0 ≤ (placesL xs).getD i 0 ∧ (placesL xs).getD i 0 < xs.length := fun h => placesL_lt h
  repeat' (first | refine awp_seq_k fun K hK => ?_ | ((with_reducible refine hK _ ?_); clear hK K) | (clear hK K; (with_reducible refine hK _ ?_); clear hK K) | (clear hK K; clear hK K; (with_reducible refine hK _ ?_); clear hK K) | (clear hK K; clear hK K; clear hK K; (with_reducible refine hK _ ?_); clear hK K) | (clear hK K; clear hK K; clear hK K; clear hK K; (with_reducible refine hK _ ?_); clear hK K) | (clear hK K; clear hK K; clear hK K; clear hK K; clear hK K; (with_reducible refine hK _ ?_); clear hK K) | ((with_reducible refine aord_plain fun K hK => ?_); simp only [go_sem, Nat.reduceAdd, Nat.reduceMul, Nat.reduceEqDiff, Nat.reduceLT, reduceIte, reduceCtorEq]) | refine awp_block ?_ | ((first | with_reducible refine aord_nil ?_ | refine awp_skip ?_ | refine awp_exit ?_ | refine awp_ret ?_); try simp only [thenA_normal, thenA_exit, thenA_goto, thenA_ret, blockA_normal, blockA_same, blockA_exit, blockA_goto, blockA_ret, Nat.reduceEqDiff, if_false, if_true, reduceIte]) | (refine awp_region tabOk rfl ?_; simp only [prep, pickO, List.map_cons, List.map_nil, List.getElem?_toArray, List.getElem?_cons_succ, List.getElem?_cons_zero, Option.bind_some, Option.map_some]) | (refine awp_region_draw (nt := 28) (id := 6) tabOk [(0, true, false), (1, true, false), (2, true, false), (3, true, false), (4, true, false), (5, true, false), (6, true, false), (7, true, false), (8, true, false), (9, true, false), (10, false, false)] (by kernel_rfl) rfl (by kernel_rfl) ?_; simp only [prep, pickO, List.map_cons, List.map_nil, List.getElem?_toArray, List.getElem?_cons_succ, List.getElem?_cons_zero, Option.bind_some, Option.map_some]) | ((with_reducible apply awp_cond); (focus (simp only [St.ev, St.set, upd, Nat.reduceEqDiff, reduceIte, if_false, if_true]; exact rfl)); all_goals (intro hb; first | (cases hb; done) | ((try rw [hb]); (try simp only [decide_eq_true_eq, decide_eq_false_iff_not, beq_iff_eq, bne_iff_ne, beq_eq_false_iff_ne, bne_eq_false_iff_eq, Int.not_lt, Int.not_le, Bool.not_eq_true', Bool.not_eq_false'] at hb)))) | ((with_reducible refine And.intro ?_ ?_); (focus omega)) | ((with_reducible refine And.intro ?_ ?_); (focus (exact rfl))) | ((with_reducible refine And.intro (?_ : enters Try.prog 68) ?_); (focus exact Try.call68); (refine callX_sat specPlaces_sat ?_); simp only [go_sem, and_assoc, List.nil_append, List.append_nil, List.cons_append, Nat.reduceEqDiff, reduceIte, reduceCtorEq]) | (refine aStoreAll_ints (by simp only [St.ev, St.set, upd, Nat.reduceEqDiff, reduceIte, if_false, if_true]; exact rfl) ?_ ?_ ?_ ?_; (focus (first | rfl | omega | (simp; done) | (simp; omega) | (simp [szOf, tab]; done) | (simp [szOf, tab]; omega))); (focus (first | rfl | omega | (simp; done) | (simp; omega) | (simp [szOf, tab]; done) | (simp [szOf, tab]; omega))); (focus (first | rfl | omega | (simp; done) | (simp; omega) | (simp [szOf, tab]; done) | (simp [szOf, tab]; omega))); (try simp only [go_sem, Nat.reduceAdd, Nat.reduceMul, Nat.reduceEqDiff, Nat.reduceLT, reduceIte, reduceCtorEq])) | (refine aStoreAll_cells (by simp only [St.ev, St.set, upd, Nat.reduceEqDiff, reduceIte, if_false, if_true]; exact rfl) ?_ ?_ ?_ ?_ ?_; (focus (first | rfl | omega | (simp; done) | (simp; omega) | (simp [szOf, tab]; done) | (simp [szOf, tab]; omega))); (focus (first | rfl | omega | (simp; done) | (simp; omega) | (simp [szOf, tab]; done) | (simp [szOf, tab]; omega))); (focus (first | rfl | omega | (simp; done) | (simp; omega) | (simp [szOf, tab]; done) | (simp [szOf, tab]; omega))); (focus (first | rfl | (simp [AV.cell, Value.oneCell']; done))); (try simp only [go_sem, Nat.reduceAdd, Nat.reduceMul, Nat.reduceEqDiff, Nat.reduceLT, reduceIte, reduceCtorEq])) | (with_reducible refine And.intro (fun hb => ?_) (fun hb => ?_)) | (exfalso; omega) | fail)
  · ((refine Exists.intro (i + 1) ?_); (refine nxt ?_ ?_ ?_); (focus ((apply Wk.same; (case' h2 => (focus ((repeat' (with_reducible first | exact HeapX.bot | (apply HeapX.skip; (case hx => (simp; done))) | apply HeapX.none | apply HeapX.upd)); all_goals (first | rfl | exact Nat.le_of_ble_eq_true rfl | (simp only [St.set, St.ev, upd, ren, renL, id, Nat.reduceEqDiff, reduceIte, ContLe]; done) | (exact And.intro rfl (And.intro (by first | exact Nat.le_of_ble_eq_true rfl | omega) (by first | exact Nat.le_of_ble_eq_true rfl | omega))) | (first | (simp only [St.set, St.ev, upd, ren, renL, id, Nat.reduceEqDiff, reduceIte]; exact contLe_nil) | ((repeat' (first | exact contLe_nil | refine contLe_cons (.inr ⟨?_, rfl⟩) ?_)); all_goals (first | rfl | (simp only [St.set, St.ev, upd, ren, renL, id, Nat.reduceEqDiff, reduceIte]; done) | ((try simp only [St.set, St.ev, upd, ren, renL, id, Nat.reduceEqDiff, reduceIte]); first | (with_reducible exact av_int (by omega)) | (with_reducible exact av_sl (by first | omega | (simp; done) | (simp; omega)) (by first | omega | (simp; done) | (simp; omega)))) | (simp only [St.set, St.ev, upd, ren, renL, id, Nat.reduceEqDiff, reduceIte, Int.natCast_add, Int.natCast_one, Int.cast_ofNat_Int, Int.natCast_zero]; done) | (simp only [St.set, St.ev, upd, ren, renL, id, Nat.reduceEqDiff, reduceIte]) | skip); done)) | (simp only [St.set, St.ev, upd, ren, renL, id, Nat.reduceEqDiff, reduceIte, ContLe]) | skip)))); (case' h1 => (focus ((repeat' (with_reducible first | exact TmpLe.bot | refine TmpLe.upd ?_ rfl ?_)); all_goals (first | rfl | (simp only [St.set, St.ev, upd, ren, renL, id, Nat.reduceEqDiff, reduceIte]; done) | ((try simp only [St.set, St.ev, upd, ren, renL, id, Nat.reduceEqDiff, reduceIte]); first | (with_reducible exact av_int (by omega)) | (with_reducible exact av_sl (by first | omega | (simp; done) | (simp; omega)) (by first | omega | (simp; done) | (simp; omega)))) | (simp only [St.set, St.ev, upd, ren, renL, id, Nat.reduceEqDiff, reduceIte, Int.natCast_add, Int.natCast_one, Int.cast_ofNat_Int, Int.natCast_zero]; done) | (simp only [St.set, St.ev, upd, ren, renL, id, Nat.reduceEqDiff, reduceIte]) | skip)))); (case h3 => (focus (first | (simp only [id, List.map_cons, List.map_nil]; decide) | decide | (simp; done) | (simp; omega) | fail))); (case h4 => (intro o l h; first | (cases h; done) | (have hlt0 := m0_lt (by assumption) h; (try (simp only at hlt0)); first | omega | (simp only; omega) | exact ⟨by (first | rfl | (simp only [id]; done) | ((repeat rw [if_neg (by omega)]); done)), by first | omega | (simp only; omega)⟩)))))); (focus (first | omega | (simp only; omega) | (simp only [List.length_take]; omega) | (simp; done) | (simp; omega))); ((repeat' (with_reducible apply And.intro)) <;> (first | omega | (simp only; omega) | assumption | rfl | (simp only))))
  · simp only [St.set, St.ev, doneQ, doneH, ressK, resK, wrapR, AV.ids, AV.idsL, retK, retsK, upd, Nat.reduceEqDiff, reduceIte, if_false, if_true, List.nodup_nil, List.nodup_cons, List.not_mem_nil, not_false_eq_true, true_and, and_true, exists_eq_left', Option.some.injEq, rLoad, cellOf, tab, Ty.isAgg, Ty.one, Bool.false_eq_true]
    simp only [Cont.closed, Cont.len, true_and, scN_len]
    obtain rfl : i = xs.length := by omega
    exact hQ


theorem implSortedKeys_sat : Sat Try.prog 15 (fun ds Q => ∃ (xs : List Int), ds = [.row (.ints .i64 (xs))] ∧ (xs.length ≤ 1099511627776) ∧ Q (.row (.ints .i64 ((if validB xs then ordL xs else []))))) := by
  refine sat_intro tabOk Try.func15 rfl 29 rfl [.tmp 2] rfl ?_
  rintro ds Q W ⟨xs, rfl, hlen, hQ⟩
  refine ⟨Nat.le_of_ble_eq_true rfl, ?_⟩
  simp only [initS, initT, mat.matL, mat, Cont.len]
  have hpl := placesL_len xs
  repeat' (first | refine awp_seq_k fun K hK => ?_ | ((with_reducible refine hK _ ?_); clear hK K) | (clear hK K; (with_reducible refine hK _ ?_); clear hK K) | (clear hK K; clear hK K; (with_reducible refine hK _ ?_); clear hK K) | (clear hK K; clear hK K; clear hK K; (with_reducible refine hK _ ?_); clear hK K) | (clear hK K; clear hK K; clear hK K; clear hK K; (with_reducible refine hK _ ?_); clear hK K) | (clear hK K; clear hK K; clear hK K; clear hK K; clear hK K; (with_reducible refine hK _ ?_); clear hK K) | ((with_reducible refine aord_plain fun K hK => ?_); simp only [go_sem, Nat.reduceAdd, Nat.reduceMul, Nat.reduceEqDiff, Nat.reduceLT, reduceIte, reduceCtorEq]) | refine awp_block ?_ | ((first | with_reducible refine aord_nil ?_ | refine awp_skip ?_ | refine awp_exit ?_ | refine awp_ret ?_); try simp only [thenA_normal, thenA_exit, thenA_goto, thenA_ret, blockA_normal, blockA_same, blockA_exit, blockA_goto, blockA_ret, Nat.reduceEqDiff, if_false, if_true, reduceIte]) | (refine awp_region tabOk rfl ?_; simp only [prep, pickO, List.map_cons, List.map_nil, List.getElem?_toArray, List.getElem?_cons_succ, List.getElem?_cons_zero, Option.bind_some, Option.map_some]) | ((with_reducible apply awp_cond); (focus (simp only [St.ev, St.set, upd, Nat.reduceEqDiff, reduceIte, if_false, if_true]; exact rfl)); all_goals (intro hb; first | (cases hb; done) | ((try rw [hb]); (try simp only [decide_eq_true_eq, decide_eq_false_iff_not, beq_iff_eq, bne_iff_ne, beq_eq_false_iff_ne, bne_eq_false_iff_eq, Int.not_lt, Int.not_le, Bool.not_eq_true', Bool.not_eq_false'] at hb)))) | ((with_reducible refine And.intro ?_ ?_); (focus omega)) | ((with_reducible refine And.intro ?_ ?_); (focus (exact rfl))) | ((with_reducible refine And.intro (?_ : enters Try.prog 13) ?_); (focus exact Try.call13); (refine callX_sat implValidKeys_sat ?_); simp only [go_sem, and_assoc, List.nil_append, List.append_nil, List.cons_append, Nat.reduceEqDiff, reduceIte, reduceCtorEq]) | ((with_reducible refine And.intro (?_ : enters Try.prog 42) ?_); (focus exact Try.call42); (refine callX_sat implPlacesOf_sat ?_); simp only [go_sem, and_assoc, List.nil_append, List.append_nil, List.cons_append, Nat.reduceEqDiff, reduceIte, reduceCtorEq]) | (refine aStoreAll_ints (by simp only [St.ev, St.set, upd, Nat.reduceEqDiff, reduceIte, if_false, if_true]; exact rfl) ?_ ?_ ?_ ?_; (focus (first | rfl | omega | (simp; done) | (simp; omega) | (simp [szOf, tab]; done) | (simp [szOf, tab]; omega))); (focus (first | rfl | omega | (simp; done) | (simp; omega) | (simp [szOf, tab]; done) | (simp [szOf, tab]; omega))); (focus (first | rfl | omega | (simp; done) | (simp; omega) | (simp [szOf, tab]; done) | (simp [szOf, tab]; omega))); (try simp only [go_sem, Nat.reduceAdd, Nat.reduceMul, Nat.reduceEqDiff, Nat.reduceLT, reduceIte, reduceCtorEq])) | (refine aStoreAll_cells (by simp only [St.ev, St.set, upd, Nat.reduceEqDiff, reduceIte, if_false, if_true]; exact rfl) ?_ ?_ ?_ ?_ ?_; (focus (first | rfl | omega | (simp; done) | (simp; omega) | (simp [szOf, tab]; done) | (simp [szOf, tab]; omega))); (focus (first | rfl | omega | (simp; done) | (simp; omega) | (simp [szOf, tab]; done) | (simp [szOf, tab]; omega))); (focus (first | rfl | omega | (simp; done) | (simp; omega) | (simp [szOf, tab]; done) | (simp [szOf, tab]; omega))); (focus (first | rfl | (simp [AV.cell, Value.oneCell']; done))); (try simp only [go_sem, Nat.reduceAdd, Nat.reduceMul, Nat.reduceEqDiff, Nat.reduceLT, reduceIte, reduceCtorEq])) | (with_reducible refine And.intro (fun hb => ?_) (fun hb => ?_)) | (exfalso; omega) | fail)
  · simp only [St.set, St.ev, doneQ, doneH, ressK, resK, wrapR, AV.ids, AV.idsL, retK, retsK, upd, Nat.reduceEqDiff, reduceIte, if_false, if_true, List.nodup_nil, List.nodup_cons, List.not_mem_nil, not_false_eq_true, true_and, and_true, exists_eq_left', Option.some.injEq, rLoad, cellOf, tab, Ty.isAgg, Ty.one, Bool.false_eq_true]
    simp only [hb] at hQ
    exact ⟨.ints .i64 [], rfl, rfl, rfl, hQ⟩
  · rw [if_pos hb] at hQ
    have h8 := valid_len hb
    simp only [if_pos hb]
    refine awp_loopE (α := Nat) (fun s p => ⟨(upd (upd (upd (upd (upd bot 0 (s.tmps 0)) 3 (s.tmps 3)) 13 (s.tmps 13)) 14 (s.tmps 14)) 15 (.val (.int .i64 (p)))), (upd s.heap 1 (some ⟨true, .ints .i64 (scN (placesL xs) xs p)⟩)), s.next⟩) _ (fun p => by simp only [St.ev, St.set, upd, Nat.reduceEqDiff, reduceIte, if_false, if_true]; exact rfl) (fun p => (p ≤ xs.length)) (fun p => xs.length - p) (0) ?_ ?_ ?_
    · (try simp only); (refine ?_ <;> (first | omega | (simp only; omega) | rfl | (simp; done) | skip))
    · (apply Wk.same; (case' h2 => (focus ((repeat' (with_reducible first | exact HeapX.bot | (apply HeapX.skip; (case hx => (simp; done))) | apply HeapX.none | apply HeapX.upd)); all_goals (first | rfl | exact Nat.le_of_ble_eq_true rfl | (simp only [St.set, St.ev, upd, ren, renL, id, Nat.reduceEqDiff, reduceIte, ContLe]; done) | (exact And.intro rfl (And.intro (by first | exact Nat.le_of_ble_eq_true rfl | omega) (by first | exact Nat.le_of_ble_eq_true rfl | omega))) | (first | (simp only [St.set, St.ev, upd, ren, renL, id, Nat.reduceEqDiff, reduceIte]; exact contLe_nil) | ((repeat' (first | exact contLe_nil | refine contLe_cons (.inr ⟨?_, rfl⟩) ?_)); all_goals (first | rfl | (simp only [St.set, St.ev, upd, ren, renL, id, Nat.reduceEqDiff, reduceIte]; done) | ((try simp only [St.set, St.ev, upd, ren, renL, id, Nat.reduceEqDiff, reduceIte]); first | (with_reducible exact av_int (by omega)) | (with_reducible exact av_sl (by first | omega | (simp; done) | (simp; omega)) (by first | omega | (simp; done) | (simp; omega)))) | (simp only [St.set, St.ev, upd, ren, renL, id, Nat.reduceEqDiff, reduceIte, Int.natCast_add, Int.natCast_one, Int.cast_ofNat_Int, Int.natCast_zero]; done) | (simp only [St.set, St.ev, upd, ren, renL, id, Nat.reduceEqDiff, reduceIte]) | skip); done)) | (simp only [St.set, St.ev, upd, ren, renL, id, Nat.reduceEqDiff, reduceIte, ContLe]) | skip)))); (case' h1 => (focus ((repeat' (with_reducible first | exact TmpLe.bot | refine TmpLe.upd ?_ rfl ?_)); all_goals (first | rfl | (simp only [St.set, St.ev, upd, ren, renL, id, Nat.reduceEqDiff, reduceIte]; done) | ((try simp only [St.set, St.ev, upd, ren, renL, id, Nat.reduceEqDiff, reduceIte]); first | (with_reducible exact av_int (by omega)) | (with_reducible exact av_sl (by first | omega | (simp; done) | (simp; omega)) (by first | omega | (simp; done) | (simp; omega)))) | (simp only [St.set, St.ev, upd, ren, renL, id, Nat.reduceEqDiff, reduceIte, Int.natCast_add, Int.natCast_one, Int.cast_ofNat_Int, Int.natCast_zero]; done) | (simp only [St.set, St.ev, upd, ren, renL, id, Nat.reduceEqDiff, reduceIte]) | skip)))); (case h3 => (focus (first | (simp only [id, List.map_cons, List.map_nil]; decide) | decide | (simp; done) | (simp; omega) | fail))); (case h4 => (intro o l h; first | (cases h; done) | (have hlt0 := m0_lt (by assumption) h; (try (simp only at hlt0)); first | omega | (simp only; omega) | exact ⟨by (first | rfl | (simp only [id]; done) | ((repeat rw [if_neg (by omega)]); done)), by first | omega | (simp only; omega)⟩))))
    rintro i hi
    try simp only at hi
    have hsl := scN_len (placesL xs) xs i
    have hpi : i < xs.length → 0 ≤ (placesL xs).getD i 0 ∧ (placesL xs).getD i 0 < xs.length := fun h => placesL_lt h
    repeat' (first | refine awp_seq_k fun K hK => ?_ | ((with_reducible refine hK _ ?_); clear hK K) | (clear hK K; (with_reducible refine hK _ ?_); clear hK K) | (clear hK K; clear hK K; (with_reducible refine hK _ ?_); clear hK K) | (clear hK K; clear hK K; clear hK K; (with_reducible refine hK _ ?_); clear hK K) | (clear hK K; clear hK K; clear hK K; clear hK K; (with_reducible refine hK _ ?_); clear hK K) | (clear hK K; clear hK K; clear hK K; clear hK K; clear hK K; (with_reducible refine hK _ ?_); clear hK K) | ((with_reducible refine aord_plain fun K hK => ?_); simp only [go_sem, Nat.reduceAdd, Nat.reduceMul, Nat.reduceEqDiff, Nat.reduceLT, reduceIte, reduceCtorEq]) | refine awp_block ?_ | ((first | with_reducible refine aord_nil ?_ | refine awp_skip ?_ | refine awp_exit ?_ | refine awp_ret ?_); try simp only [thenA_normal, thenA_exit, thenA_goto, thenA_ret, blockA_normal, blockA_same, blockA_exit, blockA_goto, blockA_ret, Nat.reduceEqDiff, if_false, if_true, reduceIte]) | (refine awp_region tabOk rfl ?_; simp only [prep, pickO, List.map_cons, List.map_nil, List.getElem?_toArray, List.getElem?_cons_succ, List.getElem?_cons_zero, Option.bind_some, Option.map_some]) | ((with_reducible apply awp_cond); (focus (simp only [St.ev, St.set, upd, Nat.reduceEqDiff, reduceIte, if_false, if_true]; exact rfl)); all_goals (intro hb; first | (cases hb; done) | ((try rw [hb]); (try simp only [decide_eq_true_eq, decide_eq_false_iff_not, beq_iff_eq, bne_iff_ne, beq_eq_false_iff_ne, bne_eq_false_iff_eq, Int.not_lt, Int.not_le, Bool.not_eq_true', Bool.not_eq_false'] at hb)))) | ((with_reducible refine And.intro ?_ ?_); (focus omega)) | ((with_reducible refine And.intro ?_ ?_); (focus (exact rfl))) | ((with_reducible refine And.intro (?_ : enters Try.prog 13) ?_); (focus exact Try.call13); (refine callX_sat implValidKeys_sat ?_); simp only [go_sem, and_assoc, List.nil_append, List.append_nil, List.cons_append, Nat.reduceEqDiff, reduceIte, reduceCtorEq]) | ((with_reducible refine And.intro (?_ : enters Try.prog 42) ?_); (focus exact Try.call42); (refine callX_sat implPlacesOf_sat ?_); simp only [go_sem, and_assoc, List.nil_append, List.append_nil, List.cons_append, Nat.reduceEqDiff, reduceIte, reduceCtorEq]) | (refine aStoreAll_ints (by simp only [St.ev, St.set, upd, Nat.reduceEqDiff, reduceIte, if_false, if_true]; exact rfl) ?_ ?_ ?_ ?_; (focus (first | rfl | omega | (simp; done) | (simp; omega) | (simp [szOf, tab]; done) | (simp [szOf, tab]; omega))); (focus (first | rfl | omega | (simp; done) | (simp; omega) | (simp [szOf, tab]; done) | (simp [szOf, tab]; omega))); (focus (first | rfl | omega | (simp; done) | (simp; omega) | (simp [szOf, tab]; done) | (simp [szOf, tab]; omega))); (try simp only [go_sem, Nat.reduceAdd, Nat.reduceMul, Nat.reduceEqDiff, Nat.reduceLT, reduceIte, reduceCtorEq])) | (refine aStoreAll_cells (by simp only [St.ev, St.set, upd, Nat.reduceEqDiff, reduceIte, if_false, if_true]; exact rfl) ?_ ?_ ?_ ?_ ?_; (focus (first | rfl | omega | (simp; done) | (simp; omega) | (simp [szOf, tab]; done) | (simp [szOf, tab]; omega))); (focus (first | rfl | omega | (simp; done) | (simp; omega) | (simp [szOf, tab]; done) | (simp [szOf, tab]; omega))); (focus (first | rfl | omega | (simp; done) | (simp; omega) | (simp [szOf, tab]; done) | (simp [szOf, tab]; omega))); (focus (first | rfl | (simp [AV.cell, Value.oneCell']; done))); (try simp only [go_sem, Nat.reduceAdd, Nat.reduceMul, Nat.reduceEqDiff, Nat.reduceLT, reduceIte, reduceCtorEq])) | (with_reducible refine And.intro (fun hb => ?_) (fun hb => ?_)) | (exfalso; omega) | fail)
    · ((refine Exists.intro (i + 1) ?_); (refine nxt ?_ ?_ ?_); (focus ((apply Wk.same; (case' h2 => (focus ((repeat' (with_reducible first | exact HeapX.bot | (apply HeapX.skip; (case hx => (simp; done))) | apply HeapX.none | apply HeapX.upd)); all_goals (first | rfl | exact Nat.le_of_ble_eq_true rfl | (simp only [St.set, St.ev, upd, ren, renL, id, Nat.reduceEqDiff, reduceIte, ContLe]; done) | (exact And.intro rfl (And.intro (by first | exact Nat.le_of_ble_eq_true rfl | omega) (by first | exact Nat.le_of_ble_eq_true rfl | omega))) | (first | (simp only [St.set, St.ev, upd, ren, renL, id, Nat.reduceEqDiff, reduceIte]; exact contLe_nil) | ((repeat' (first | exact contLe_nil | refine contLe_cons (.inr ⟨?_, rfl⟩) ?_)); all_goals (first | rfl | (simp only [St.set, St.ev, upd, ren, renL, id, Nat.reduceEqDiff, reduceIte]; done) | ((try simp only [St.set, St.ev, upd, ren, renL, id, Nat.reduceEqDiff, reduceIte]); first | (with_reducible exact av_int (by omega)) | (with_reducible exact av_sl (by first | omega | (simp; done) | (simp; omega)) (by first | omega | (simp; done) | (simp; omega)))) | (simp only [St.set, St.ev, upd, ren, renL, id, Nat.reduceEqDiff, reduceIte, Int.natCast_add, Int.natCast_one, Int.cast_ofNat_Int, Int.natCast_zero]; done) | (simp only [St.set, St.ev, upd, ren, renL, id, Nat.reduceEqDiff, reduceIte]) | skip); done)) | (simp only [St.set, St.ev, upd, ren, renL, id, Nat.reduceEqDiff, reduceIte, ContLe]) | skip)))); (case' h1 => (focus ((repeat' (with_reducible first | exact TmpLe.bot | refine TmpLe.upd ?_ rfl ?_)); all_goals (first | rfl | (simp only [St.set, St.ev, upd, ren, renL, id, Nat.reduceEqDiff, reduceIte]; done) | ((try simp only [St.set, St.ev, upd, ren, renL, id, Nat.reduceEqDiff, reduceIte]); first | (with_reducible exact av_int (by omega)) | (with_reducible exact av_sl (by first | omega | (simp; done) | (simp; omega)) (by first | omega | (simp; done) | (simp; omega)))) | (simp only [St.set, St.ev, upd, ren, renL, id, Nat.reduceEqDiff, reduceIte, Int.natCast_add, Int.natCast_one, Int.cast_ofNat_Int, Int.natCast_zero]; done) | (simp only [St.set, St.ev, upd, ren, renL, id, Nat.reduceEqDiff, reduceIte]) | skip)))); (case h3 => (focus (first | (simp only [id, List.map_cons, List.map_nil]; decide) | decide | (simp; done) | (simp; omega) | fail))); (case h4 => (intro o l h; first | (cases h; done) | (have hlt0 := m0_lt (by assumption) h; (try (simp only at hlt0)); first | omega | (simp only; omega) | exact ⟨by (first | rfl | (simp only [id]; done) | ((repeat rw [if_neg (by omega)]); done)), by first | omega | (simp only; omega)⟩)))))); (focus (first | omega | (simp only; omega) | (simp only [List.length_take]; omega) | (simp; done) | (simp; omega))); ((repeat' (with_reducible apply And.intro)) <;> (first | omega | (simp only; omega) | assumption | rfl | (simp only))))
    · simp only [St.set, St.ev, doneQ, doneH, ressK, resK, wrapR, AV.ids, AV.idsL, retK, retsK, upd, Nat.reduceEqDiff, reduceIte, if_false, if_true, List.nodup_nil, List.nodup_cons, List.not_mem_nil, not_false_eq_true, true_and, and_true, exists_eq_left', Option.some.injEq, rLoad, cellOf, tab, Ty.isAgg, Ty.one, Bool.false_eq_true]
      simp only [Cont.closed, Cont.len, true_and, scN_len]
      obtain rfl : i = xs.length := by omega
      exact hQ


theorem no_inj : ∀ (m n : Nat) (f : Nat → Nat), (∀ a, a < n → f a < m) → (∀ a b, a < n → b < n → f a = f b → a = b) → n ≤ m
  | 0, n, f, h, _ => by
    rcases Nat.eq_zero_or_pos n with h0 | h0
    · omega
    · have := h 0 h0; omega
  | m + 1, n, f, h, hi => by
    by_cases hx : ∃ a, a < n ∧ f a = m
    · obtain ⟨a0, ha0, hf0⟩ := hx
      have := no_inj m (n - 1) (fun a => f (if a < a0 then a else a + 1)) (fun a ha => by
        have h1 := h (if a < a0 then a else a + 1) (by split <;> omega)
        have h2 : f (if a < a0 then a else a + 1) ≠ m := fun e => by
          have := hi (if a < a0 then a else a + 1) a0 (by split <;> omega) ha0 (by rw [e, hf0])
          split at this <;> omega
        show f (if a < a0 then a else a + 1) < m
        omega) (fun a b ha hb hab => by
        have := hi (if a < a0 then a else a + 1) (if b < a0 then b else b + 1) (by split <;> omega) (by split <;> omega) hab
        split at this <;> split at this <;> omega)
      omega
    · have := no_inj m n f (fun a ha => by
        have := h a ha
        have : f a ≠ m := fun e => hx ⟨a, ha, e⟩
        omega) hi
      omega
theorem inj_surj {n : Nat} {f : Nat → Nat} (h : ∀ a, a < n → f a < n) (hi : ∀ a b, a < n → b < n → f a = f b → a = b) {b : Nat} (hb : b < n) : ∃ a, a < n ∧ f a = b := by
  by_cases hx : ∃ a, a < n ∧ f a = b
  · exact hx
  · exfalso
    have hne : ∀ a, a < n → f a ≠ b := fun a ha e => hx ⟨a, ha, e⟩
    have := no_inj (n - 1) n (fun a => if f a < b then f a else f a - 1) (fun a ha => by
      have := h a ha; have := hne a ha
      show (if f a < b then f a else f a - 1) < n - 1
      split <;> omega) (fun a c ha hc hac => by
      have h1 := hne a ha; have h2 := hne c hc
      apply hi a c ha hc
      have hac : (if f a < b then f a else f a - 1) = (if f c < b then f c else f c - 1) := hac
      split at hac <;> split at hac <;> omega)
    omega
/-- A key comes ahead of another one: it is less, or equal and ahead. -/
def ltK (xs : List Int) (i k : Nat) : Prop := xs.getD i 0 < xs.getD k 0 ∨ (xs.getD i 0 = xs.getD k 0 ∧ i < k)
theorem plC_mono {xs : List Int} {i k : Nat} (h : ltK xs i k) : ∀ m, plC xs i m + (if i < m then 1 else 0) ≤ plC xs k m
  | 0 => by simp [plC]
  | m + 1 => by
    have ih := plC_mono h m
    unfold ltK at h
    rw [plC, plC]
    by_cases h1 : m = i
    · subst h1
      rw [if_neg (by omega)] at ih
      rw [if_neg (by omega), if_pos (by omega), if_pos h]
      omega
    · by_cases h2 : xs.getD m 0 < xs.getD i 0 ∨ (xs.getD m 0 = xs.getD i 0 ∧ m < i)
      · have h3 : xs.getD m 0 < xs.getD k 0 ∨ (xs.getD m 0 = xs.getD k 0 ∧ m < k) := by omega
        rw [if_pos h2, if_pos h3]
        split at ih <;> split <;> omega
      · rw [if_neg h2]
        split at ih <;> split <;> split <;> omega
def plN (xs : List Int) (i : Nat) : Nat := (plC xs i xs.length).toNat
theorem plN_lt {xs : List Int} {i : Nat} (h : i < xs.length) : plN xs i < xs.length := by
  have := plC_own xs i xs.length h
  have := plC_nonneg xs i xs.length
  unfold plN; omega
theorem plN_mono {xs : List Int} {i k : Nat} (hi : i < xs.length) (h : ltK xs i k) : plN xs i < plN xs k := by
  have := plC_mono h xs.length
  have := plC_nonneg xs i xs.length
  rw [if_pos hi] at *
  unfold plN; omega
theorem plN_inj {xs : List Int} {i k : Nat} (hi : i < xs.length) (hk : k < xs.length) (h : plN xs i = plN xs k) : i = k := by
  by_cases e : i = k
  · exact e
  · exfalso
    have : ltK xs i k ∨ ltK xs k i := by unfold ltK; omega
    rcases this with h1 | h1
    · have := plN_mono hi h1; omega
    · have := plN_mono hk h1; omega
theorem plN_get {xs : List Int} {i : Nat} (h : i < xs.length) : ((placesL xs).getD i 0).toNat = plN xs i := by rw [placesL_get h]; rfl
theorem scN_at {xs : List Int} : ∀ k, k ≤ xs.length → ∀ a, a < k → (scN (placesL xs) xs k).getD (plN xs a) 0 = xs.getD a 0
  | 0, _, a, h => by omega
  | k + 1, hk, a, h => by
    rw [scN, plN_get (by omega)]
    by_cases e : a = k
    · subst e
      exact getD_set_same (by rw [scN_len]; exact plN_lt (by omega))
    · rw [getD_set_ne' (fun h1 => e (plN_inj (by omega) (by omega) h1.symm))]
      exact scN_at k (by omega) a (by omega)
theorem ord_at {xs : List Int} {a : Nat} (h : a < xs.length) : (ordL xs).getD (plN xs a) 0 = xs.getD a 0 := scN_at xs.length (Nat.le_refl _) a h
theorem ord_from {xs : List Int} {b : Nat} (h : b < xs.length) : ∃ a, a < xs.length ∧ plN xs a = b := inj_surj (fun a ha => plN_lt ha) (fun a b ha hb h => plN_inj ha hb h) h
theorem ord_mono {xs : List Int} {p q : Nat} (hpq : p < q) (hq : q < xs.length) : (ordL xs).getD p 0 ≤ (ordL xs).getD q 0 := by
  obtain ⟨a, ha, rfl⟩ := ord_from (xs := xs) (b := p) (by omega)
  obtain ⟨b, hb, rfl⟩ := ord_from (xs := xs) hq
  rw [ord_at ha, ord_at hb]
  by_cases h : xs.getD a 0 ≤ xs.getD b 0
  · exact h
  · have : ltK xs b a := .inl (by omega)
    have := plN_mono hb this
    omega
/-- No key is less than the one ahead. -/
def srt (xs : List Int) : Bool := (List.range (xs.length - 1)).all fun j => decide (xs.getD j 0 ≤ xs.getD (j + 1) 0)
theorem srt_iff {xs : List Int} : srt xs = true ↔ ∀ j, j + 1 < xs.length → xs.getD j 0 ≤ xs.getD (j + 1) 0 := by
  unfold srt
  rw [List.all_eq_true]
  constructor
  · intro h j hj; have := h j (List.mem_range.2 (by omega)); simpa using this
  · intro h j hj; have := List.mem_range.1 hj; simpa using h j (by omega)
theorem srt_le {xs : List Int} (h : srt xs = true) : ∀ {d i : Nat}, i + d < xs.length → xs.getD i 0 ≤ xs.getD (i + d) 0
  | 0, i, _ => Int.le_refl _
  | d + 1, i, hd => by have := srt_le h (d := d) (i := i) (by omega); have := srt_iff.1 h (i + d) (by omega); rw [← Nat.add_assoc]; omega
theorem srt_ltK {xs : List Int} (h : srt xs = true) {i k : Nat} (hi : i < xs.length) (hk : k < xs.length) : ltK xs i k ↔ i < k := by
  unfold ltK
  constructor
  · intro h1
    rcases Nat.lt_or_ge i k with h2 | h2
    · exact h2
    · have := srt_le h (i := k) (d := i - k) (by omega)
      rw [show k + (i - k) = i by omega] at this
      omega
  · intro h1
    have := srt_le h (i := i) (d := k - i) (by omega)
    rw [show i + (k - i) = k by omega] at this
    omega
theorem srt_pl {xs : List Int} (h : srt xs = true) {i : Nat} (hi : i < xs.length) : ∀ m, m ≤ xs.length → plC xs i m = (min i m : Nat)
  | 0, _ => by simp [plC]
  | m + 1, hm => by
    have ih := srt_pl h hi m (by omega)
    have := srt_ltK h (i := m) (k := i) (by omega) hi
    unfold ltK at this
    rw [plC, ih]
    split <;> rename_i h1
    · have := this.1 h1; omega
    · have : ¬ m < i := fun h2 => h1 (this.2 h2)
      omega
theorem srt_ord {xs : List Int} (h : srt xs = true) : ordL xs = xs := by
  apply ext_getD (ordL_len xs)
  intro j hj
  rw [ordL_len] at hj
  have e : plN xs j = j := by unfold plN; rw [srt_pl h hj xs.length (Nat.le_refl _)]; omega
  have := ord_at hj
  rw [e] at this
  exact this
theorem ord_srt {xs : List Int} : srt (ordL xs) = true := srt_iff.2 fun j hj => ord_mono (by omega) (by rw [ordL_len] at hj; exact hj)
theorem srt_eq {xs : List Int} : srt xs = decide (xs = ordL xs) := by
  by_cases h : srt xs = true
  · rw [h, srt_ord h]; simp
  · have : xs ≠ ordL xs := fun e => h (by rw [e]; exact ord_srt)
    simp only [Bool.not_eq_true] at h
    rw [h]; simp [this]
/-- Zeros behind the keys. -/
def padL (xs : List Int) : List Int := xs ++ List.replicate (8 - xs.length) 0
theorem padL_len {xs : List Int} (h : xs.length ≤ 8) : (padL xs).length = 8 := by simp [padL]; omega
theorem padL_inj {xs ys : List Int} (h : xs.length = ys.length) : padL xs = padL ys ↔ xs = ys := by
  constructor
  · intro e; exact (List.append_inj e h).1
  · rintro rfl; rfl


theorem isReg {P : Program} {Γ : Ctx} {Q : Exit → St → Prop} {s : St} {ops : Array Oper} {b : Bool} {r : Code} (nt id : Nat) (h : AWP Γ nt P (.seq (.region id ops b) r) Q s) : AWP Γ nt P (.seq (.region id ops b) r) Q s := h


theorem aStoreAll_cells {tab : Tab} {h : Hp} {n : Nat} {t : TypeId} {o : Nat} {old al : List AV} {K : AV → Hp → Nat → Prop} (ho : h o = some ⟨true, .cells old⟩) (hl : old.length = al.length) (hp : 0 < al.length) (hsz : szOf tab t = some al.length) (hc : al.all AV.cell = true)
    (hK : K .any (upd h o (some ⟨true, .cells al⟩)) n) : ∃ c', aStoreAll tab h n t (.ref o 0) (.agg al) c' K :=
  ⟨.cells al, _, ho, rfl, rfl, rfl, hp, by simpa [Cont.flat] using hl, by simpa using hsz, hc, rfl, hK⟩
/-- A piece of code with labels, through which one goes without a goto. -/
def noGotoA (Q : Exit → St → Prop) : Exit → St → Prop
  | .goto _, _ => False
  | e, s => Q e s
theorem noGotoA_normal (Q : Exit → St → Prop) (s : St) : noGotoA Q .normal s = Q .normal s := rfl
theorem noGotoA_exit (Q : Exit → St → Prop) (s : St) (i : Nat) : noGotoA Q (.exit i) s = Q (.exit i) s := rfl
theorem noGotoA_ret (Q : Exit → St → Prop) (s : St) : noGotoA Q .ret s = Q .ret s := rfl
theorem awp_scope {P : Program} {Γ : Ctx} {nt : Nat} {Q : Exit → St → Prop} {s : St} {c : Code} (h : AWP Γ nt P c (noGotoA Q) s) (hF : Γ.F = false := by rfl) : AWP Γ nt P (.scope c) Q s := fun hS C hC hr m a w hs => by
  have hn : C.r = none := by rw [hF] at hr; cases hc : C.r with | none => rfl | some l => rw [hc] at hr; cases hr
  have h1 := h hS C hC hr m a w hs
  rw [hn] at h1 ⊢
  refine (wpIn_wide (n := 0)).2 (wp_scope_straight (wp_mono ((wpIn_wide (n := 0)).1 h1) fun e a' w' hp => ?_))
  cases e with
  | goto l => obtain ⟨_, _, _, _, _, _, hq⟩ := hp; exact hq.elim
  | _ => exact hp
def swp (xs : List Int) (a b : Nat) : List Int := (xs.set a (xs.getD b 0)).set b (xs.getD a 0)
theorem swp_len (xs : List Int) (a b : Nat) : (swp xs a b).length = xs.length := by simp [swp]
/-- A key goes ahead by steps: what is there, how often was asked, how often moved. -/
def insIn (st : Nat) (k : Nat) (xs : List Int) (a m : Int) : List Int × Int × Int :=
  if h : 0 < st ∧ st ≤ k then (if xs.getD (k - st) 0 ≤ xs.getD k 0 then (xs, a + 1, m) else insIn st (k - st) (swp xs (k - st) k) (a + 1) (m + 1)) else (xs, a, m)
termination_by k
decreasing_by omega
theorem insIn_end {st k : Nat} {xs : List Int} {a m : Int} (h : k < st) : insIn st k xs a m = (xs, a, m) := by rw [insIn, dif_neg (by omega)]
theorem insIn_stop {st k : Nat} {xs : List Int} {a m : Int} (h0 : 0 < st) (h : st ≤ k) (hle : xs.getD (k - st) 0 ≤ xs.getD k 0) : insIn st k xs a m = (xs, a + 1, m) := by rw [insIn, dif_pos ⟨h0, h⟩, if_pos hle]
theorem insIn_go {st k : Nat} {xs : List Int} {a m : Int} (h0 : 0 < st) (h : st ≤ k) (hle : xs.getD k 0 < xs.getD (k - st) 0) : insIn st k xs a m = insIn st (k - st) (swp xs (k - st) k) (a + 1) (m + 1) := by rw [insIn, dif_pos ⟨h0, h⟩, if_neg (by omega)]
theorem insIn_in {st : Nat} : ∀ (f k : Nat) (xs : List Int) (a m : Int), k < f → (insIn st k xs a m).1.length = xs.length ∧ a ≤ (insIn st k xs a m).2.1 ∧ (insIn st k xs a m).2.1 ≤ a + k + 1 ∧ m ≤ (insIn st k xs a m).2.2 ∧ (insIn st k xs a m).2.2 ≤ m + k + 1
  | 0, k, xs, a, m, h => by omega
  | f + 1, k, xs, a, m, h => by
    by_cases h1 : 0 < st ∧ st ≤ k
    · rcases Int.lt_or_le (xs.getD k 0) (xs.getD (k - st) 0) with h2 | h2
      · rw [insIn_go h1.1 h1.2 h2]
        have := insIn_in (st := st) f (k - st) (swp xs (k - st) k) (a + 1) (m + 1) (by omega)
        rw [swp_len] at this
        omega
      · rw [insIn_stop h1.1 h1.2 h2]
        exact ⟨rfl, by simp only; omega, by simp only; omega, by simp only; omega, by simp only; omega⟩
    · rw [insIn, dif_neg h1]
      exact ⟨rfl, by simp only; omega, by simp only; omega, by simp only; omega, by simp only; omega⟩
def insTo (st : Nat) (s : List Int × Int × Int) : Nat → List Int × Int × Int
  | 0 => s
  | j + 1 => insIn st (st + j) (insTo st s j).1 (insTo st s j).2.1 (insTo st s j).2.2
theorem insTo_in {st : Nat} {s : List Int × Int × Int} (hn : s.1.length ≤ 8) : ∀ j, st + j ≤ s.1.length ∨ j = 0 → (insTo st s j).1.length = s.1.length ∧ s.2.1 ≤ (insTo st s j).2.1 ∧ (insTo st s j).2.1 ≤ s.2.1 + 9 * j ∧ s.2.2 ≤ (insTo st s j).2.2 ∧ (insTo st s j).2.2 ≤ s.2.2 + 9 * j
  | 0, _ => by simp [insTo]
  | j + 1, h => by
    have ih := insTo_in (st := st) hn j (by omega)
    have := insIn_in (st := st) (st + j + 1) (st + j) (insTo st s j).1 (insTo st s j).2.1 (insTo st s j).2.2 (by omega)
    rw [insTo]
    omega


/-- How often p must be doubled to be at least n, and c. -/
def dbl (n p c : Nat) : Nat := if h : 0 < p ∧ p < n then dbl n (2 * p) (c + 1) else c
termination_by n - p
decreasing_by omega
theorem dbl_go {n p c : Nat} (h0 : 0 < p) (h : p < n) : dbl n (2 * p) (c + 1) = dbl n p c := by rw [dbl.eq_1 n p c, dif_pos ⟨h0, h⟩]
theorem dbl_end {n p c : Nat} (h : n ≤ p) : dbl n p c = c := by rw [dbl, dif_neg (by omega)]
theorem dbl_le : ∀ f n p c : Nat, n ≤ p + f → dbl n p c ≤ c + f
  | 0, n, p, c, h => by rw [dbl_end (by omega)]; omega
  | f + 1, n, p, c, h => by
    by_cases h1 : 0 < p ∧ p < n
    · rw [← dbl_go h1.1 h1.2]
      have := dbl_le f n (2 * p) (c + 1) (by omega)
      omega
    · rw [dbl, dif_neg h1]; omega
/-- Four times as much. -/
theorem dbl_four : ∀ f m n p c : Nat, n ≤ p + f → m = 3 * n → ∀ q, q = (m + 3) / 4 → dbl m (4 * p) c = dbl q p c := by
  intro f
  induction f with
  | zero => intro m n p c h hm q hq; rw [dbl_end (by omega), dbl_end (by omega)]
  | succ f ih =>
    intro m n p c h hm q hq
    by_cases h1 : 0 < p ∧ p < q
    · rw [← dbl_go h1.1 h1.2, ← dbl_go (n := m) (by omega) (by omega), ← ih m n (2 * p) (c + 1) (by omega) hm q hq]
      congr 1; omega
    · rw [dbl.eq_1 q, dif_neg h1, dbl, dif_neg (by omega)]
/-- All of 1 to n together. -/
def sumF (F : Nat → Nat) : Nat → Nat
  | 0 => 0
  | n + 1 => sumF F n + F (n + 1)
theorem sumF_le {F : Nat → Nat} (h : ∀ k, k ≤ 1000 → F k ≤ 5000) : ∀ n, n ≤ 1000 → sumF F n ≤ 5000 * n
  | 0, _ => by simp [sumF]
  | n + 1, hn => by have := sumF_le h n (by omega); have := h (n + 1) hn; rw [sumF]; omega
theorem sumF_same {F G : Nat → Nat} (h : ∀ k, k ≤ 1000 → F k = G k) : ∀ n, n ≤ 1000 → sumF F n = sumF G n
  | 0, _ => rfl
  | n + 1, hn => by rw [sumF, sumF, sumF_same h n (by omega), h (n + 1) hn]
def lgF (k : Nat) : Nat := dbl k 1 0
def fdF (k : Nat) : Nat := dbl (3 * k) 4 0
theorem lgF_le (k : Nat) (h : k ≤ 1000) : lgF k ≤ 5000 := by have := dbl_le 1000 k 1 0 (by omega); unfold lgF; omega
theorem fdF_le (k : Nat) (h : k ≤ 1000) : fdF k ≤ 5000 := by have := dbl_le 3000 (3 * k) 4 0 (by omega); unfold fdF; omega
theorem fdF_eq (k : Nat) : fdF k = dbl ((3 * k + 3) / 4) 1 0 := dbl_four k (3 * k) k 1 0 (by omega) rfl _ rfl


theorem doublings_sat : Sat Try.prog 57 (fun ds Q => ∃ (n : Nat) (z : Int), ds = [.val (.int .i64 (z))] ∧ (z = n) ∧ (n ≤ 5000) ∧ Q (.val (.int .i64 (((dbl n 1 0 : Nat) : Int))))) := by
  refine sat_intro tabOk Try.func57 rfl 13 rfl [.tmp 2] rfl ?_
  rintro ds Q W ⟨n, z, rfl, hz, hn, hQ⟩
  refine ⟨Nat.le_of_ble_eq_true rfl, ?_⟩
  simp only [initS, initT, mat.matL, mat, Cont.len]
  repeat' (first | refine awp_seq_k fun K hK => ?_ | ((with_reducible refine hK _ ?_); clear hK K) | (clear hK K; (with_reducible refine hK _ ?_); clear hK K) | (clear hK K; clear hK K; (with_reducible refine hK _ ?_); clear hK K) | (clear hK K; clear hK K; clear hK K; (with_reducible refine hK _ ?_); clear hK K) | (clear hK K; clear hK K; clear hK K; clear hK K; (with_reducible refine hK _ ?_); clear hK K) | (clear hK K; clear hK K; clear hK K; clear hK K; clear hK K; (with_reducible refine hK _ ?_); clear hK K) | ((with_reducible refine aord_plain fun K hK => ?_); simp only [go_sem, Nat.reduceAdd, Nat.reduceMul, Nat.reduceEqDiff, Nat.reduceLT, reduceIte, reduceCtorEq]) | refine awp_block ?_ | ((first | with_reducible refine aord_nil ?_ | refine awp_skip ?_ | refine awp_exit ?_ | refine awp_ret ?_); try simp only [thenA_normal, thenA_exit, thenA_goto, thenA_ret, blockA_normal, blockA_same, blockA_exit, blockA_goto, blockA_ret, Nat.reduceEqDiff, if_false, if_true, reduceIte]) | (refine awp_region tabOk rfl ?_; simp only [prep, pickO, List.map_cons, List.map_nil, List.getElem?_toArray, List.getElem?_cons_succ, List.getElem?_cons_zero, Option.bind_some, Option.map_some]) | ((with_reducible apply awp_cond); (focus (simp only [St.ev, St.set, upd, Nat.reduceEqDiff, reduceIte, if_false, if_true]; exact rfl)); all_goals (intro hb; first | (cases hb; done) | ((try rw [hb]); (try simp only [decide_eq_true_eq, decide_eq_false_iff_not, beq_iff_eq, bne_iff_ne, beq_eq_false_iff_ne, bne_eq_false_iff_eq, Int.not_lt, Int.not_le, Bool.not_eq_true', Bool.not_eq_false'] at hb)))) | ((with_reducible refine And.intro ?_ ?_); (focus omega)) | ((with_reducible refine And.intro ?_ ?_); (focus (exact rfl))) | (with_reducible refine And.intro (fun hb => ?_) (fun hb => ?_)) | (exfalso; omega) | fail)
  refine awp_loopE (α := (Nat) × (Nat)) (fun s p => ⟨(upd (upd (upd bot 0 (s.tmps 0)) 3 (.val (.int .i64 ((p.1))))) 4 (.val (.int .i64 ((p.2))))), s.heap, s.next⟩) _ (fun p => by simp only [St.ev, St.set, upd, Nat.reduceEqDiff, reduceIte, if_false, if_true]; exact rfl) (fun p => (0 < (p.2) ∧ (p.1) < (p.2) ∧ (p.2) ≤ 10000) ∧ (dbl n (p.2) (p.1) = dbl n 1 0)) (fun p => n - (p.2)) (0, 1) ?_ ?_ ?_
  · (try simp only); (refine ⟨?_, ?_⟩ <;> (first | omega | (simp only; omega) | rfl | (simp; done) | skip))
  · (apply Wk.same; (case' h2 => (focus ((repeat' (with_reducible first | exact HeapX.bot | (apply HeapX.skip; (case hx => (simp; done))) | apply HeapX.none | apply HeapX.upd)); all_goals (first | rfl | exact Nat.le_of_ble_eq_true rfl | (simp only [St.set, St.ev, upd, ren, renL, id, Nat.reduceEqDiff, reduceIte, ContLe]; done) | (exact And.intro rfl (And.intro (by first | exact Nat.le_of_ble_eq_true rfl | omega) (by first | exact Nat.le_of_ble_eq_true rfl | omega))) | (first | (simp only [St.set, St.ev, upd, ren, renL, id, Nat.reduceEqDiff, reduceIte]; exact contLe_nil) | ((repeat' (first | exact contLe_nil | refine contLe_cons (.inr ⟨?_, rfl⟩) ?_)); all_goals (first | rfl | (simp only [St.set, St.ev, upd, ren, renL, id, Nat.reduceEqDiff, reduceIte]; done) | ((try simp only [St.set, St.ev, upd, ren, renL, id, Nat.reduceEqDiff, reduceIte]); first | (with_reducible exact av_int (by omega)) | (with_reducible exact av_sl (by first | omega | (simp; done) | (simp; omega)) (by first | omega | (simp; done) | (simp; omega)))) | (simp only [St.set, St.ev, upd, ren, renL, id, Nat.reduceEqDiff, reduceIte, Int.natCast_add, Int.natCast_one, Int.cast_ofNat_Int, Int.natCast_zero]; done) | (simp only [St.set, St.ev, upd, ren, renL, id, Nat.reduceEqDiff, reduceIte]) | skip); done)) | (simp only [St.set, St.ev, upd, ren, renL, id, Nat.reduceEqDiff, reduceIte, ContLe]) | skip)))); (case' h1 => (focus ((repeat' (with_reducible first | exact TmpLe.bot | refine TmpLe.upd ?_ rfl ?_)); all_goals (first | rfl | (simp only [St.set, St.ev, upd, ren, renL, id, Nat.reduceEqDiff, reduceIte]; done) | ((try simp only [St.set, St.ev, upd, ren, renL, id, Nat.reduceEqDiff, reduceIte]); first | (with_reducible exact av_int (by omega)) | (with_reducible exact av_sl (by first | omega | (simp; done) | (simp; omega)) (by first | omega | (simp; done) | (simp; omega)))) | (simp only [St.set, St.ev, upd, ren, renL, id, Nat.reduceEqDiff, reduceIte, Int.natCast_add, Int.natCast_one, Int.cast_ofNat_Int, Int.natCast_zero]; done) | (simp only [St.set, St.ev, upd, ren, renL, id, Nat.reduceEqDiff, reduceIte]) | skip)))); (case h3 => (focus (first | (simp only [id, List.map_cons, List.map_nil]; decide) | decide | (simp; done) | (simp; omega) | fail))); (case h4 => (intro o l h; first | (cases h; done) | (have hlt0 := m0_lt (by assumption) h; (try (simp only at hlt0)); first | omega | (simp only; omega) | exact ⟨by (first | rfl | (simp only [id]; done) | ((repeat rw [if_neg (by omega)]); done)), by first | omega | (simp only; omega)⟩))))
  rintro ⟨c, q⟩ ⟨hq, hR⟩
  try simp only at hq hR
  have hgo : q < n → dbl n (2 * q) (c + 1) = dbl n 1 0 := fun h => by rw [dbl_go hq.1 h, hR]
  have hend : n ≤ q → dbl n 1 0 = c := fun h => by rw [← hR, dbl_end h]
  repeat' (first | refine awp_seq_k fun K hK => ?_ | ((with_reducible refine hK _ ?_); clear hK K) | (clear hK K; (with_reducible refine hK _ ?_); clear hK K) | (clear hK K; clear hK K; (with_reducible refine hK _ ?_); clear hK K) | (clear hK K; clear hK K; clear hK K; (with_reducible refine hK _ ?_); clear hK K) | (clear hK K; clear hK K; clear hK K; clear hK K; (with_reducible refine hK _ ?_); clear hK K) | (clear hK K; clear hK K; clear hK K; clear hK K; clear hK K; (with_reducible refine hK _ ?_); clear hK K) | ((with_reducible refine aord_plain fun K hK => ?_); simp only [go_sem, Nat.reduceAdd, Nat.reduceMul, Nat.reduceEqDiff, Nat.reduceLT, reduceIte, reduceCtorEq]) | refine awp_block ?_ | ((first | with_reducible refine aord_nil ?_ | refine awp_skip ?_ | refine awp_exit ?_ | refine awp_ret ?_); try simp only [thenA_normal, thenA_exit, thenA_goto, thenA_ret, blockA_normal, blockA_same, blockA_exit, blockA_goto, blockA_ret, Nat.reduceEqDiff, if_false, if_true, reduceIte]) | (refine awp_region tabOk rfl ?_; simp only [prep, pickO, List.map_cons, List.map_nil, List.getElem?_toArray, List.getElem?_cons_succ, List.getElem?_cons_zero, Option.bind_some, Option.map_some]) | ((with_reducible apply awp_cond); (focus (simp only [St.ev, St.set, upd, Nat.reduceEqDiff, reduceIte, if_false, if_true]; exact rfl)); all_goals (intro hb; first | (cases hb; done) | ((try rw [hb]); (try simp only [decide_eq_true_eq, decide_eq_false_iff_not, beq_iff_eq, bne_iff_ne, beq_eq_false_iff_ne, bne_eq_false_iff_eq, Int.not_lt, Int.not_le, Bool.not_eq_true', Bool.not_eq_false'] at hb)))) | ((with_reducible refine And.intro ?_ ?_); (focus omega)) | ((with_reducible refine And.intro ?_ ?_); (focus (exact rfl))) | (with_reducible refine And.intro (fun hb => ?_) (fun hb => ?_)) | (exfalso; omega) | fail)
  · ((refine Exists.intro (c + 1, 2 * q) ?_); (refine nxt ?_ ?_ ?_); (focus ((apply Wk.same; (case' h2 => (focus ((repeat' (with_reducible first | exact HeapX.bot | (apply HeapX.skip; (case hx => (simp; done))) | apply HeapX.none | apply HeapX.upd)); all_goals (first | rfl | exact Nat.le_of_ble_eq_true rfl | (simp only [St.set, St.ev, upd, ren, renL, id, Nat.reduceEqDiff, reduceIte, ContLe]; done) | (exact And.intro rfl (And.intro (by first | exact Nat.le_of_ble_eq_true rfl | omega) (by first | exact Nat.le_of_ble_eq_true rfl | omega))) | (first | (simp only [St.set, St.ev, upd, ren, renL, id, Nat.reduceEqDiff, reduceIte]; exact contLe_nil) | ((repeat' (first | exact contLe_nil | refine contLe_cons (.inr ⟨?_, rfl⟩) ?_)); all_goals (first | rfl | (simp only [St.set, St.ev, upd, ren, renL, id, Nat.reduceEqDiff, reduceIte]; done) | ((try simp only [St.set, St.ev, upd, ren, renL, id, Nat.reduceEqDiff, reduceIte]); first | (with_reducible exact av_int (by omega)) | (with_reducible exact av_sl (by first | omega | (simp; done) | (simp; omega)) (by first | omega | (simp; done) | (simp; omega)))) | (simp only [St.set, St.ev, upd, ren, renL, id, Nat.reduceEqDiff, reduceIte, Int.natCast_add, Int.natCast_one, Int.cast_ofNat_Int, Int.natCast_zero]; done) | (simp only [St.set, St.ev, upd, ren, renL, id, Nat.reduceEqDiff, reduceIte]) | skip); done)) | (simp only [St.set, St.ev, upd, ren, renL, id, Nat.reduceEqDiff, reduceIte, ContLe]) | skip)))); (case' h1 => (focus ((repeat' (with_reducible first | exact TmpLe.bot | refine TmpLe.upd ?_ rfl ?_)); all_goals (first | rfl | (simp only [St.set, St.ev, upd, ren, renL, id, Nat.reduceEqDiff, reduceIte]; done) | ((try simp only [St.set, St.ev, upd, ren, renL, id, Nat.reduceEqDiff, reduceIte]); first | (with_reducible exact av_int (by omega)) | (with_reducible exact av_sl (by first | omega | (simp; done) | (simp; omega)) (by first | omega | (simp; done) | (simp; omega)))) | (simp only [St.set, St.ev, upd, ren, renL, id, Nat.reduceEqDiff, reduceIte, Int.natCast_add, Int.natCast_one, Int.cast_ofNat_Int, Int.natCast_zero]; done) | (simp only [St.set, St.ev, upd, ren, renL, id, Nat.reduceEqDiff, reduceIte]) | skip)))); (case h3 => (focus (first | (simp only [id, List.map_cons, List.map_nil]; decide) | decide | (simp; done) | (simp; omega) | fail))); (case h4 => (intro o l h; first | (cases h; done) | (have hlt0 := m0_lt (by assumption) h; (try (simp only at hlt0)); first | omega | (simp only; omega) | exact ⟨by (first | rfl | (simp only [id]; done) | ((repeat rw [if_neg (by omega)]); done)), by first | omega | (simp only; omega)⟩)))))); (focus (first | omega | (simp only; omega) | (simp only [List.length_take]; omega) | (simp; done) | (simp; omega))); ((repeat' (with_reducible apply And.intro)) <;> (first | omega | (simp only; omega) | assumption | rfl | ((try simp only); exact hgo (by omega)) | skip)))
  · simp only [St.set, St.ev, doneQ, doneH, ressK, resK, wrapR, AV.ids, AV.idsL, retK, retsK, upd, Nat.reduceEqDiff, reduceIte, if_false, if_true, List.nodup_nil, List.nodup_cons, List.not_mem_nil, not_false_eq_true, true_and, and_true, exists_eq_left', Option.some.injEq, rLoad, cellOf, tab, Ty.isAgg, Ty.one, Bool.false_eq_true]
    rw [hend (by omega)] at hQ
    exact hQ


/-! Regions whose operations come to the same whatever their order: a property of what is told at each set of operations that are done. -/
def cntU (listed : Array Bool) : Nat → Nat
  | 0 => 0
  | n + 1 => cntU listed n + if listed.getD n true = false then 1 else 0
theorem getD_setT {listed : Array Bool} {i j : Nat} (h : i ≠ j) (d : Bool) : (listed.setIfInBounds i true).getD j d = listed.getD j d := by
  simp only [Array.getD_eq_getD_getElem?, Array.getElem?_setIfInBounds_ne h]
theorem getD_setT_same {listed : Array Bool} {i : Nat} (h : i < listed.size) (d : Bool) : (listed.setIfInBounds i true).getD i d = true := by
  simp only [Array.getD_eq_getD_getElem?, Array.getElem?_setIfInBounds_self_of_lt h, Option.getD_some]
theorem cntU_set {listed : Array Bool} {i : Nat} (hs : i < listed.size) (h : listed.getD i true = false) : ∀ n, cntU listed n = cntU (listed.setIfInBounds i true) n + if i < n then 1 else 0
  | 0 => rfl
  | n + 1 => by
    rw [cntU, cntU, cntU_set hs h n]
    by_cases e : i = n
    · subst e
      rw [h, getD_setT_same hs, if_neg (Nat.lt_irrefl _), if_pos rfl, if_neg (by decide), if_pos (Nat.lt_succ_self _)]
    · rw [getD_setT e]
      by_cases e2 : i < n
      · simp only [if_pos e2, if_pos (show i < n + 1 by omega)]; omega
      · simp only [if_neg e2, if_neg (show ¬ i < n + 1 by omega)]; omega
theorem cntU_zero {listed : Array Bool} : ∀ {n : Nat}, cntU listed n = 0 → ∀ i, i < n → listed.getD i true = true
  | 0, _, i, h => by omega
  | n + 1, h, i, hi => by
    rw [cntU] at h
    by_cases e : i = n
    · subst e
      cases h2 : listed.getD i true with
      | true => rfl
      | false => rw [h2, if_pos rfl] at h; omega
    · exact cntU_zero (n := n) (by omega) i (by omega)
theorem cntU_least {listed : Array Bool} : ∀ {n : Nat}, cntU listed n ≠ 0 → ∃ i, i < n ∧ listed.getD i true = false ∧ ∀ j, j < i → listed.getD j true = true
  | 0, h => absurd rfl h
  | n + 1, h => by
    by_cases e : cntU listed n = 0
    · rw [cntU, e] at h
      refine ⟨n, Nat.lt_succ_self _, ?_, cntU_zero e⟩
      cases h2 : listed.getD n true with
      | false => rfl
      | true => rw [h2] at h; exact absurd rfl h
    · obtain ⟨i, a, b⟩ := cntU_least e
      exact ⟨i, by omega, b⟩
def backB (ops : Array Oper) : Bool := (List.range ops.size).all fun i => match ops[i]? with
  | some o => o.after.all fun e => decide (e.on < i)
  | none => true
section
variable {P : Program} {tab : Tab} {Γ : Ctx} {C : Cx} {nt : Nat} {ops : Array Oper}
theorem sets_sound (ht : TabOk P tab) (hS : ∀ p ∈ Γ.W, RecOk Γ.m0 p) (hd : dstOk nt ops = true) (hb : backB ops = true) {I : Array Bool → St → Prop} {Q' : St → Prop}
    (hstep : ∀ listed s', listed.size = ops.size → I listed s' → ∀ i o g, (prep ops)[i]? = some (o, g) → listed.getD i true = false → (∀ e ∈ o.after, Region.binds .any e = true → listed.getD e.on false = true) → ∃ q wl, stepA P tab Γ q wl o g s' (I (listed.setIfInBounds i true)))
    (hend : ∀ listed s', listed.size = ops.size → (∀ i, i < ops.size → listed.getD i true = true) → I listed s' → Q' s') :
    ∀ (f : Nat) (listed : Array Bool), listed.size = ops.size → cntU listed ops.size = f → ∀ {m : Lm} {s : St} {a : Act} {w : World}, SimS Γ C nt m s a w → I listed s → anyG P ops (List.range ops.size) (fun a' w' => ∃ m' s', SimS Γ C nt m' s' a' w' ∧ Q' s') f listed a w
  | 0, listed, hsz, hc, m, s, a, w, hs, hI => by
    have hall := cntU_zero hc
    refine ⟨?_, m, s, hs, hend listed s hsz hall hI⟩
    rw [List.eq_nil_iff_forall_not_mem]
    intro i hi
    obtain ⟨h1, o, ho, _⟩ := mem_ready.1 hi
    rw [hall i (Array.getElem?_eq_some_iff.1 ho).1] at h1
    cases h1
  | f + 1, listed, hsz, hc, m, s, a, w, hs, hI => by
    refine ⟨fun h0 => ?_, fun i hi => ?_⟩
    · obtain ⟨i, hi, h1, h2⟩ := cntU_least (n := ops.size) (listed := listed) (by omega)
      have : i ∈ Region.ready .any ops listed := by
        refine mem_ready.2 ⟨h1, ops[i], Array.getElem?_eq_getElem hi, fun e he _ => ?_⟩
        have hbi := List.all_eq_true.1 hb i (List.mem_range.2 hi)
        simp only [Array.getElem?_eq_getElem hi] at hbi
        have hlt : e.on < i := by
          rw [Array.all_eq_true_iff_forall_mem] at hbi
          exact of_decide_eq_true (hbi e he)
        have h3 := h2 _ hlt
        simp only [Array.getD_eq_getD_getElem?, Array.getElem?_eq_getElem (show e.on < listed.size by omega), Option.getD_some] at h3 ⊢
        exact h3
      rw [h0] at this
      cases this
    · obtain ⟨h1, o, ho, h2⟩ := mem_ready.1 hi
      have hlt : i < ops.size := (Array.getElem?_eq_some_iff.1 ho).1
      have hlen : (prep ops).length = ops.size := by simp [prep]
      obtain ⟨⟨o', g⟩, hp⟩ : ∃ p, (prep ops)[i]? = some p := ⟨_, List.getElem?_eq_getElem (by omega)⟩
      obtain ⟨ho', _⟩ := prep_get hp
      have : o' = o := Option.some.inj (ho'.symm.trans ho)
      subst this
      obtain ⟨q, wl, hst⟩ := hstep listed s hsz hI i o' g hp h1 h2
      refine opG.mono (opG_of ht hS hd hs hp hst) fun a' w' ⟨_, m', s', hs', hI'⟩ => ⟨fun hn => absurd (List.mem_range.2 hlt) hn, ?_⟩
      refine sets_sound ht hS hd hb hstep hend f _ (by rw [Array.size_setIfInBounds]; exact hsz) ?_ hs' hI'
      have := cntU_set (n := ops.size) (i := i) (by omega) h1
      rw [if_pos hlt] at this
      omega
theorem awp_region_sets (ht : TabOk P tab) {id : Nat} {Q : Exit → St → Prop} {s : St} (I : Array Bool → St → Prop) (hm : P.follows .mixedOrders = true) (hd : dstOk nt ops = true) (hB : backB ops = true)
    (h0 : I (Array.replicate ops.size false) s)
    (hstep : ∀ listed s', listed.size = ops.size → I listed s' → ∀ i o g, (prep ops)[i]? = some (o, g) → listed.getD i true = false → (∀ e ∈ o.after, Region.binds .any e = true → listed.getD e.on false = true) → ∃ q wl, stepA P tab Γ q wl o g s' (I (listed.setIfInBounds i true)))
    (hend : ∀ listed s', listed.size = ops.size → (∀ i, i < ops.size → listed.getD i true = true) → I listed s' → Q .normal s') : AWP Γ nt P (.region id ops true) Q s := by
  intro hS C hC _ m a w hs
  have hs' : SimS Γ C nt m s a { w with drawn := w.drawn + 1 } := ⟨hs.sim.grow ((Go.RowKit.Below.refl _ _).drew), hs.keep, hs.size, hs.defers, hs.tmps⟩
  refine wpIn_region_anyG hm (anyG.mono (fun a' w' ⟨m', s', g1, g2⟩ => PostA.same (Q := Q) hC g1 g2) (sets_sound ht hS hd hB hstep hend ops.size _ (by simp) ?_ hs' h0))
  have : ∀ k, k ≤ ops.size → cntU (Array.replicate ops.size false) k = k := fun k => by
    induction k with
    | zero => intro _; rfl
    | succ k ih =>
      intro hk
      rw [cntU, ih (by omega)]
      simp only [Array.getD_eq_getD_getElem?]
      rw [Array.getElem?_eq_getElem (by simp; omega)]
      simp
  exact this _ (Nat.le_refl _)
end
def lis (listed : Array Bool) (i : Nat) : Bool := listed.getD i false
theorem lis_set {listed : Array Bool} {i : Nat} (h : i < listed.size) (j : Nat) : lis (listed.setIfInBounds i true) j = if j = i then true else lis listed j := by
  unfold lis
  by_cases e : j = i
  · subst e; rw [if_pos rfl, getD_setT_same h]
  · rw [if_neg e, getD_setT (Ne.symm e)]
def DepL (listed : Array Bool) : List Edge → Prop
  | [] => True
  | e :: r => (Region.binds .any e = true → lis listed e.on = true) ∧ DepL listed r
theorem depL_of {listed : Array Bool} : ∀ {l : List Edge}, (∀ e ∈ l, Region.binds .any e = true → listed.getD e.on false = true) → DepL listed l
  | [], _ => trivial
  | e :: r, h => ⟨h e (by simp), depL_of fun x hx => h x (by simp [hx])⟩
def AllFrom (p : Nat → Oper → Guard → Prop) : Nat → List (Oper × Guard) → Prop
  | _, [] => True
  | k, x :: L => p k x.1 x.2 ∧ AllFrom p (k + 1) L
theorem allFrom_at {p : Nat → Oper → Guard → Prop} : ∀ {L : List (Oper × Guard)} {k : Nat}, AllFrom p k L → ∀ i o g, L[i]? = some (o, g) → p (k + i) o g
  | [], _, _, i, o, g, h => by simp at h
  | x :: L, k, ⟨h1, _⟩, 0, o, g, h => by simp at h; subst h; exact h1
  | x :: L, k, ⟨_, h2⟩, i + 1, o, g, h => by
    have := allFrom_at h2 i o g (by simpa using h)
    rw [show k + (i + 1) = k + 1 + i by omega]; exact this
theorem awp_region_setsL {P : Program} {tab : Tab} {Γ : Ctx} {nt : Nat} {ops : Array Oper} (ht : TabOk P tab) {id : Nat} {Q : Exit → St → Prop} {s : St} (I : Array Bool → St → Prop) (hm : P.follows .mixedOrders = true) (hd : dstOk nt ops = true) (hB : backB ops = true)
    (h0 : I (Array.replicate ops.size false) s)
    (hstep : ∀ listed s', listed.size = ops.size → I listed s' → AllFrom (fun i o g => lis listed i = false → DepL listed o.after.toList → ∃ q wl, stepA P tab Γ q wl o g s' (I (listed.setIfInBounds i true))) 0 (prep ops))
    (hend : ∀ listed s', listed.size = ops.size → (∀ i, i < ops.size → lis listed i = true) → I listed s' → Q .normal s') : AWP Γ nt P (.region id ops true) Q s := by
  refine awp_region_sets ht I hm hd hB h0 (fun listed s' hsz hI i o g hp hun hdep => ?_) (fun listed s' hsz hall hI => hend listed s' hsz (fun i hi => ?_) hI)
  · have := allFrom_at (hstep listed s' hsz hI) i o g hp
    rw [Nat.zero_add] at this
    refine this ?_ (depL_of fun e he => hdep e (Array.mem_toList_iff.1 he))
    have hlt : i < ops.size := by
      have := (List.getElem?_eq_some_iff.1 hp).1
      simpa [prep] using this
    unfold lis
    simp only [Array.getD_eq_getD_getElem?, Array.getElem?_eq_getElem (show i < listed.size by omega), Option.getD_some] at hun ⊢
    exact hun
  · have := hall i hi
    unfold lis
    simp only [Array.getD_eq_getD_getElem?, Array.getElem?_eq_getElem (show i < listed.size by omega), Option.getD_some] at this ⊢
    exact this
theorem step_to {P : Program} {tab : Tab} {Γ : Ctx} {q wl : Bool} {o : Oper} {s' s2 : St} {I2 : St → Prop} (h : ∀ K : St → Prop, K s2 → step1 P tab Γ q wl o s' K) (hI : I2 s2) : ∃ q wl, stepA P tab Γ q wl o none s' I2 := ⟨q, wl, h _ hI⟩
/-- What the slots hold when some operations are done: operation i fills slot b + i. -/
def Slots (b m : Nat) (av : Nat → AV) (f : Nat → AV) (listed : Array Bool) (g : Nat → AV) : Prop := ∀ t, g t = if b ≤ t ∧ t < b + m ∧ lis listed (t - b) = true then av (t - b) else f t
theorem Slots.at {b m : Nat} {av f : Nat → AV} {listed : Array Bool} {g : Nat → AV} (h : Slots b m av f listed g) {i : Nat} (hi : i < m) (hl : lis listed i = true) : g (b + i) = av i := by
  rw [h, if_pos ⟨by omega, by omega, by rw [Nat.add_sub_cancel_left]; exact hl⟩, Nat.add_sub_cancel_left]
theorem Slots.out {b m : Nat} {av f : Nat → AV} {listed : Array Bool} {g : Nat → AV} (h : Slots b m av f listed g) {t : Nat} (ht : t < b) : g t = f t := by
  rw [h, if_neg (by omega)]
theorem Slots.put {b m : Nat} {av f : Nat → AV} {listed : Array Bool} {g : Nat → AV} (h : Slots b m av f listed g) {i : Nat} (hi : i < m) (hs : i < listed.size) : Slots b m av f (listed.setIfInBounds i true) (upd g (b + i) (av i)) := fun t => by
  by_cases e : t = b + i
  · subst e
    rw [upd_same, if_pos ⟨by omega, by omega, by rw [Nat.add_sub_cancel_left, lis_set hs, if_pos rfl]⟩, Nat.add_sub_cancel_left]
  · rw [upd_ne _ _ e, h, lis_set hs]
    by_cases c : b ≤ t ∧ t < b + m
    · rw [if_neg (show t - b ≠ i by omega)]
    · rw [if_neg (by omega), if_neg (by omega)]
theorem Slots.keep {b m : Nat} {av f : Nat → AV} {listed : Array Bool} {g : Nat → AV} (h : Slots b m av f listed g) {i : Nat} (hi : m ≤ i) (hs : i < listed.size) : Slots b m av f (listed.setIfInBounds i true) g := fun t => by
  rw [h, lis_set hs]
  by_cases c : b ≤ t ∧ t < b + m
  · rw [if_neg (show t - b ≠ i by omega)]
  · rw [if_neg (by omega), if_neg (by omega)]
theorem Slots.start {b m : Nat} {av f : Nat → AV} {n : Nat} : Slots b m av f (Array.replicate n false) f := fun t => by
  rw [if_neg]
  rintro ⟨_, _, h⟩
  unfold lis at h
  rcases Nat.lt_or_ge (t - b) n with hl | hl
  · simp [Array.getD_eq_getD_getElem?, hl] at h
  · rw [Array.getD_eq_getD_getElem?, Array.getElem?_eq_none (by simpa using hl)] at h; cases h

/-! Regions in any order, told by stages: what is in each slot; the operations that act come one behind the other. -/
theorem lis_rep {n i : Nat} : lis (Array.replicate n false) i = false := by
  unfold lis
  rcases Nat.lt_or_ge i n with hl | hl
  · simp [Array.getD_eq_getD_getElem?, hl]
  · rw [Array.getD_eq_getD_getElem?, Array.getElem?_eq_none (by simpa using hl)]; rfl
def ClosedL (ops : Array Oper) (listed : Array Bool) : Prop := ∀ i o g, (prep ops)[i]? = some (o, g) → lis listed i = true → DepL listed o.after.toList
theorem depL_mono {listed : Array Bool} {i : Nat} (hi : i < listed.size) : ∀ {l : List Edge}, DepL listed l → DepL (listed.setIfInBounds i true) l
  | [], _ => trivial
  | e :: r, ⟨h, hr⟩ => ⟨fun hb => by rw [lis_set hi]; split; rfl; exact h hb, depL_mono hi hr⟩
def StG (P : Program) (tab : Tab) (Γ : Ctx) (b m : Nat) (av : Nat → AV) (act : List Nat) (H : Nat → Hp) (N : Nat → Nat) (tm : Nat → AV) (st i : Nat) (o : Oper) (g : Guard) : Prop :=
  g = none ∧ ∃ q wl, ((i ∉ act ∧ i < m ∧ ∀ K : St → Prop, K ⟨upd tm (b + i) (av i), H st, N st⟩ → step1 P tab Γ q wl o ⟨tm, H st, N st⟩ K) ∨ (st < act.length ∧ act.getD st 0 = i ∧ ∀ K : St → Prop, K ⟨if i < m then upd tm (b + i) (av i) else tm, H (st + 1), N (st + 1)⟩ → step1 P tab Γ q wl o ⟨tm, H st, N st⟩ K))
theorem nodup_getD {l : List Nat} (h : l.Nodup) {j k : Nat} (hj : j < l.length) (hk : k < l.length) (e : l.getD j 0 = l.getD k 0) : j = k := by
  rw [List.getD_eq_getElem?_getD, List.getD_eq_getElem?_getD, List.getElem?_eq_getElem hj, List.getElem?_eq_getElem hk] at e
  exact (List.getElem_inj h).1 e
theorem getD_mem' {l : List Nat} {j : Nat} (hj : j < l.length) : l.getD j 0 ∈ l := by
  rw [List.getD_eq_getElem?_getD, List.getElem?_eq_getElem hj]; exact List.getElem_mem hj
theorem awp_region_stages {P : Program} {tab : Tab} {Γ : Ctx} {nt : Nat} {ops : Array Oper} (ht : TabOk P tab) {id : Nat} {Q : Exit → St → Prop} {s : St} (b m : Nat) (av : Nat → AV) (act : List Nat) (H : Nat → Hp) (N : Nat → Nat) (hm : P.follows .mixedOrders = true) (hd : dstOk nt ops = true) (hB : backB ops = true)
    (h0 : s.heap = H 0 ∧ s.next = N 0) (hact : ∀ i ∈ act, i < ops.size) (hnd : act.Nodup) (hsz : m ≤ ops.size)
    (hstep : ∀ listed tm st, st ≤ act.length → (∀ t, t < b → tm t = s.tmps t) → (∀ i, i < m → lis listed i = true → tm (b + i) = av i) → (∀ k, k < act.length → lis listed (act.getD k 0) = decide (k < st)) → ClosedL ops listed → AllFrom (fun i o g => lis listed i = false → DepL listed o.after.toList → StG P tab Γ b m av act H N tm st i o g) 0 (prep ops))
    (hend : ∀ tm, (∀ t, t < b → tm t = s.tmps t) → (∀ i, i < m → tm (b + i) = av i) → Q .normal ⟨tm, H act.length, N act.length⟩) : AWP Γ nt P (.region id ops true) Q s := by
  refine awp_region_sets ht (fun listed s' => Slots b m av s.tmps listed s'.tmps ∧ ClosedL ops listed ∧ ∃ st, st ≤ act.length ∧ (∀ k, k < act.length → lis listed (act.getD k 0) = decide (k < st)) ∧ s'.heap = H st ∧ s'.next = N st) hm hd hB ?_ ?_ ?_
  · refine ⟨Slots.start, ?_, 0, Nat.zero_le _, ?_, h0.1, h0.2⟩
    · intro i o g _ h; rw [lis_rep] at h; cases h
    · intro k hk; rw [lis_rep]; rfl
  · rintro listed ⟨tm, hp, nx⟩ hls ⟨hT, hC, st, hst, hA, e1, e2⟩ i o g hpi hun hdep
    dsimp only at hT e1 e2
    subst e1 e2
    have hlt : i < ops.size := by
      have := (List.getElem?_eq_some_iff.1 hpi).1
      simpa [prep] using this
    have hun' : lis listed i = false := by
      unfold lis
      simp only [Array.getD_eq_getD_getElem?, Array.getElem?_eq_getElem (show i < listed.size by omega), Option.getD_some] at hun ⊢
      exact hun
    have hdep' := depL_of fun e he => hdep e (Array.mem_toList_iff.1 he)
    have h := allFrom_at (hstep listed tm st hst (fun t ht => hT.out ht) (fun j hj hl => hT.at hj hl) hA hC) i o g hpi
    rw [Nat.zero_add] at h
    obtain ⟨rfl, q, wl, h⟩ := h hun' hdep'
    refine ⟨q, wl, ?_⟩
    have hil : i < listed.size := by omega
    have hCl : ClosedL ops (listed.setIfInBounds i true) := by
      intro j o2 g2 hj hl
      rw [lis_set hil] at hl
      refine depL_mono hil ?_
      by_cases e : j = i
      · subst e; rw [hpi] at hj; cases hj; exact hdep'
      · rw [if_neg e] at hl; exact hC j o2 g2 hj hl
    rcases h with ⟨hni, him, h⟩ | ⟨hk, hki, h⟩
    · refine (show ∀ K' : St → Prop, step1 P tab Γ q wl o ⟨tm, H st, N st⟩ K' → stepA P tab Γ q wl o none ⟨tm, H st, N st⟩ K' from fun _ h => h) _ (h _ ?_)
      refine ⟨hT.put him hil, hCl, st, hst, fun k hk => ?_, rfl, rfl⟩
      rw [lis_set hil, if_neg (fun (e : act.getD k 0 = i) => hni (e ▸ getD_mem' hk))]; exact hA k hk
    · refine (show ∀ K' : St → Prop, step1 P tab Γ q wl o ⟨tm, H st, N st⟩ K' → stepA P tab Γ q wl o none ⟨tm, H st, N st⟩ K' from fun _ h => h) _ (h _ ?_)
      refine ⟨?_, hCl, st + 1, hk, fun k hk' => ?_, rfl, rfl⟩
      · by_cases him : i < m
        · simp only [if_pos him]; exact hT.put him hil
        · simp only [if_neg him]; exact hT.keep (by omega) hil
      · rw [lis_set hil]
        by_cases e : k = st
        · subst e; rw [if_pos hki, decide_eq_true (Nat.lt_succ_self _)]
        · rw [if_neg (fun e2 => e (nodup_getD hnd hk' hk (e2.trans hki.symm))), hA k hk']
          exact decide_eq_decide.2 (by omega)
  · rintro listed ⟨tm, hp, nx⟩ hls hall ⟨hT, hC, st, hst, hA, e1, e2⟩
    dsimp only at hT e1 e2
    subst e1 e2
    have hl : ∀ i, i < ops.size → lis listed i = true := fun i hi => by
      have := hall i hi
      unfold lis
      simp only [Array.getD_eq_getD_getElem?, Array.getElem?_eq_getElem (show i < listed.size by omega), Option.getD_some] at this ⊢
      exact this
    have hs : st = act.length := by
      rcases Nat.lt_or_ge st act.length with h | h
      · have a := hA st h
        rw [hl _ (hact _ (getD_mem' h)), decide_eq_false (Nat.lt_irrefl _)] at a; cases a
      · omega
    subst hs
    exact hend tm (fun t ht => hT.out ht) fun i hi => hT.at hi (hl i (by omega))
theorem tsz {f g : Nat → AV} {t0 : Nat} {v : AV} (h : ∀ t, f t = .any ∨ f t = g t) (hv : v = g t0) : ∀ t, upd f t0 v t = .any ∨ upd f t0 v t = g t := fun t => by
  unfold upd
  split
  · rename_i e; subst e; exact .inr hv
  · exact h t
theorem tsz0 {g : Nat → AV} : ∀ t, bot t = .any ∨ bot t = g t := fun _ => .inl rfl
theorem isRegN {P : Program} {Γ : Ctx} {Q : Exit → St → Prop} {s : St} {ops : Array Oper} {b : Bool} (nt id : Nat) (h : AWP Γ nt P (.region id ops b) Q s) : AWP Γ nt P (.region id ops b) Q s := h

end Go.Proofs.Ythknhcgdbpgcjaa
