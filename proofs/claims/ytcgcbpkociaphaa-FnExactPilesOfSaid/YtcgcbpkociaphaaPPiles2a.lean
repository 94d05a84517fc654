/- Contracts of functions of the program. -/
import Derived.Test.YtcgcbpkociaphaaTab
import Derived.ScopeJumps
namespace Go.Proofs.Ytcgcbpkociaphaa
open Go Go.Ab
set_option linter.all false
set_option maxHeartbeats 4000000
attribute [go_sem] AV.parts List.length_set List.set_cons_zero List.set_cons_succ List.getElem?_cons_zero List.getElem?_cons_succ Option.any_some Nat.lt_add_one tab List.nil_append List.append_nil

theorem inRange_sat : Sat Try.prog 84 (fun ds Q => ∃ n lo hi, ds = [.val (.int .i64 n), .val (.int .i64 lo), .val (.int .i64 hi)] ∧ Q (.val (.bool (decide (lo ≤ n) && decide (n ≤ hi))))) := by
  refine sat_intro tabOk Try.func84 rfl 15 rfl [.tmp 6] rfl ?_
  rintro ds Q W ⟨n, lo, hi, rfl, hQ⟩
  refine ⟨Nat.le_of_ble_eq_true rfl, ?_⟩
  simp only [initS, initT, mat.matL, mat]
  repeat' (first | refine awp_seq_k fun K hK => ?_ | ((with_reducible refine hK _ ?_); clear hK K) | (clear hK K; (with_reducible refine hK _ ?_); clear hK K) | (clear hK K; clear hK K; (with_reducible refine hK _ ?_); clear hK K) | (clear hK K; clear hK K; clear hK K; (with_reducible refine hK _ ?_); clear hK K) | (clear hK K; clear hK K; clear hK K; clear hK K; (with_reducible refine hK _ ?_); clear hK K) | (clear hK K; clear hK K; clear hK K; clear hK K; clear hK K; (with_reducible refine hK _ ?_); clear hK K) | ((with_reducible refine aord_plain fun K hK => ?_); simp only [go_sem, Nat.reduceAdd, Nat.reduceMul, Nat.reduceEqDiff, Nat.reduceLT, reduceIte, reduceCtorEq]) | ((with_reducible apply aord_guard); (focus (simp only [St.ev, St.set, upd, Nat.reduceEqDiff, reduceIte, if_false, if_true]; exact rfl)); all_goals (intro hb; (try simp only [Bool.not_true, Bool.not_false] at hb); first | (cases hb; done) | ((try rw [hb]); (try simp only [Bool.not_eq_true', Bool.not_eq_false', Bool.and_eq_true, decide_eq_true_eq, decide_eq_false_iff_not, beq_iff_eq, bne_iff_ne, beq_eq_false_iff_ne, bne_eq_false_iff_eq, Int.not_lt, Int.not_le] at hb); (try (revert hb; with_reducible refine true_imp_iff.2 ?_)); first | (intro K hK; simp only [go_sem, Nat.reduceAdd, Nat.reduceMul, Nat.reduceEqDiff, Nat.reduceLT, reduceIte, reduceCtorEq]) | (simp only [St.ev, St.set, upd, Nat.reduceEqDiff, reduceIte, if_false, if_true]) | skip))) | ((with_reducible apply aord_skip); (focus (simp only [St.ev, St.set, upd, Nat.reduceEqDiff, reduceIte, if_false, if_true]; done)); (simp only [St.ev, St.set, upd, Nat.reduceEqDiff, reduceIte, if_false, if_true])) | refine awp_block ?_ | ((first | with_reducible refine aord_nil ?_ | refine awp_skip ?_ | refine awp_exit ?_ | refine awp_ret ?_); try simp only [thenA_normal, thenA_exit, thenA_goto, thenA_ret, blockA_normal, blockA_same, blockA_exit, blockA_goto, blockA_ret, Nat.reduceEqDiff, if_false, if_true, reduceIte]) | (refine awp_region tabOk rfl ?_; simp only [prep, pickO, List.map_cons, List.map_nil, List.getElem?_toArray, List.getElem?_cons_succ, List.getElem?_cons_zero, Option.bind_some, Option.map_some]) | ((with_reducible refine And.intro ?_ ?_); (focus omega)) | ((with_reducible refine And.intro ?_ ?_); (focus (exact rfl))) | (with_reducible refine And.intro (fun hb => ?_) (fun hb => ?_)) | (exfalso; omega) | fail)
  all_goals simp only [St.set, St.ev, doneQ, doneH, ressK, resK, wrapR, AV.ids, AV.idsL, retK, retsK, upd, Nat.reduceEqDiff, reduceIte, if_false, if_true, List.nodup_nil, List.nodup_cons, List.not_mem_nil, not_false_eq_true, true_and, and_true, exists_eq_left', Option.some.injEq, rLoad, cellOf, tab, Ty.isAgg, Ty.one, Bool.false_eq_true]
  · simp_all
  · simpa [show ¬ lo ≤ n by omega] using hQ



def inB (n : Int) : Bool := decide (-99 ≤ n) && decide (n ≤ 99)
def validB (xs : List Int) : Bool := xs.all inB && decide (xs.length ≤ 8)

theorem validKeys_sat : Sat Try.prog 61 (fun ds Q => ∃ xs, ds = [.row (.ints .i64 xs)] ∧ xs.length ≤ 1099511627776 ∧ Q (.val (.bool (validB xs)))) := by
  refine sat_intro tabOk Try.func61 rfl 19 rfl [.tmp 2] rfl ?_
  rintro ds Q W ⟨xs, rfl, hlen, hQ⟩
  refine ⟨Nat.le_of_ble_eq_true rfl, ?_⟩
  simp only [initS, initT, mat.matL, mat, Cont.len]
  repeat' (first | refine awp_seq_k fun K hK => ?_ | ((with_reducible refine hK _ ?_); clear hK K) | (clear hK K; (with_reducible refine hK _ ?_); clear hK K) | (clear hK K; clear hK K; (with_reducible refine hK _ ?_); clear hK K) | (clear hK K; clear hK K; clear hK K; (with_reducible refine hK _ ?_); clear hK K) | (clear hK K; clear hK K; clear hK K; clear hK K; (with_reducible refine hK _ ?_); clear hK K) | (clear hK K; clear hK K; clear hK K; clear hK K; clear hK K; (with_reducible refine hK _ ?_); clear hK K) | ((with_reducible refine aord_plain fun K hK => ?_); simp only [go_sem, Nat.reduceAdd, Nat.reduceMul, Nat.reduceEqDiff, Nat.reduceLT, reduceIte, reduceCtorEq]) | refine awp_block ?_ | ((first | with_reducible refine aord_nil ?_ | refine awp_skip ?_ | refine awp_exit ?_ | refine awp_ret ?_); try simp only [thenA_normal, thenA_exit, thenA_goto, thenA_ret, blockA_normal, blockA_same, blockA_exit, blockA_goto, blockA_ret, Nat.reduceEqDiff, if_false, if_true, reduceIte]) | (refine awp_region tabOk rfl ?_; simp only [prep, pickO, List.map_cons, List.map_nil, List.getElem?_toArray, List.getElem?_cons_succ, List.getElem?_cons_zero, Option.bind_some, Option.map_some]) | ((with_reducible apply awp_cond); (focus (simp only [St.ev, St.set, upd, Nat.reduceEqDiff, reduceIte, if_false, if_true]; exact rfl)); all_goals (intro hb; first | (cases hb; done) | ((try rw [hb]); (try simp only [decide_eq_true_eq, decide_eq_false_iff_not, beq_iff_eq, bne_iff_ne, beq_eq_false_iff_ne, bne_eq_false_iff_eq, Int.not_lt, Int.not_le, Bool.not_eq_true', Bool.not_eq_false'] at hb)))) | ((with_reducible refine And.intro ?_ ?_); (focus omega)) | ((with_reducible refine And.intro ?_ ?_); (focus (exact rfl))) | ((with_reducible refine And.intro (?_ : enters Try.prog 84) ?_); (focus exact Try.call84); (refine callX_sat inRange_sat ?_); simp only [go_sem, and_assoc, List.nil_append, List.append_nil, List.cons_append, Nat.reduceEqDiff, reduceIte, reduceCtorEq]) | (with_reducible refine And.intro (fun hb => ?_) (fun hb => ?_)) | (exfalso; omega) | fail)
  · refine awp_loop (fun i : Nat => ⟨upd (upd (upd bot 3 (.val (.int .i64 i))) 2 (.val (.bool false))) 0 (.sl 0 0 xs.length 1 none), upd none' 0 (some ⟨false, .ints .i64 xs⟩), 1⟩) (fun i => i ≤ xs.length ∧ ∀ j, j < i → inB (xs.getD j 0) = true) (fun i => xs.length - i) 0 ⟨by omega, by omega⟩ ?_ ?_
    · (apply Wk.same; (case' h2 => (focus ((repeat' (with_reducible first | exact HeapX.bot | (apply HeapX.skip; (case hx => (simp; done))) | apply HeapX.none | apply HeapX.upd)); all_goals (first | rfl | exact Nat.le_of_ble_eq_true rfl | (simp only [St.set, St.ev, upd, ren, renL, id, Nat.reduceEqDiff, reduceIte, ContLe]; done) | (first | (simp only [St.set, St.ev, upd, ren, renL, id, Nat.reduceEqDiff, reduceIte]; exact contLe_nil) | ((repeat' (first | exact contLe_nil | refine contLe_cons (.inr ⟨?_, rfl⟩) ?_)); all_goals (first | rfl | (simp only [St.set, St.ev, upd, ren, renL, id, Nat.reduceEqDiff, reduceIte]; done) | ((try simp only [St.set, St.ev, upd, ren, renL, id, Nat.reduceEqDiff, reduceIte]); first | (with_reducible exact av_int (by omega)) | (with_reducible exact av_sl (by first | omega | (simp; done) | (simp; omega)) (by first | omega | (simp; done) | (simp; omega)))) | (simp only [St.set, St.ev, upd, ren, renL, id, Nat.reduceEqDiff, reduceIte, Int.natCast_add, Int.natCast_one, Int.cast_ofNat_Int, Int.natCast_zero]; done) | (simp only [St.set, St.ev, upd, ren, renL, id, Nat.reduceEqDiff, reduceIte]) | skip); done)) | (simp only [St.set, St.ev, upd, ren, renL, id, Nat.reduceEqDiff, reduceIte, ContLe]) | skip)))); (case' h1 => (focus ((repeat' (with_reducible first | exact TmpLe.bot | refine TmpLe.upd ?_ rfl ?_)); all_goals (first | rfl | (simp only [St.set, St.ev, upd, ren, renL, id, Nat.reduceEqDiff, reduceIte]; done) | ((try simp only [St.set, St.ev, upd, ren, renL, id, Nat.reduceEqDiff, reduceIte]); first | (with_reducible exact av_int (by omega)) | (with_reducible exact av_sl (by first | omega | (simp; done) | (simp; omega)) (by first | omega | (simp; done) | (simp; omega)))) | (simp only [St.set, St.ev, upd, ren, renL, id, Nat.reduceEqDiff, reduceIte, Int.natCast_add, Int.natCast_one, Int.cast_ofNat_Int, Int.natCast_zero]; done) | (simp only [St.set, St.ev, upd, ren, renL, id, Nat.reduceEqDiff, reduceIte]) | skip)))); (case h3 => (focus (first | (simp only [id, List.map_cons, List.map_nil]; decide) | decide | (simp; done) | (simp; omega) | fail))); (case h4 => (intro o l h; first | (cases h; done) | (have hlt0 := m0_lt (by assumption) h; first | omega | (simp only; omega) | exact ⟨by (first | rfl | (simp only [id]; done) | ((repeat rw [if_neg (by omega)]); done)), by first | omega | (simp only; omega)⟩))))
    · rintro i ⟨hi, hj⟩
      repeat' (first | refine awp_seq_k fun K hK => ?_ | ((with_reducible refine hK _ ?_); clear hK K) | (clear hK K; (with_reducible refine hK _ ?_); clear hK K) | (clear hK K; clear hK K; (with_reducible refine hK _ ?_); clear hK K) | (clear hK K; clear hK K; clear hK K; (with_reducible refine hK _ ?_); clear hK K) | (clear hK K; clear hK K; clear hK K; clear hK K; (with_reducible refine hK _ ?_); clear hK K) | (clear hK K; clear hK K; clear hK K; clear hK K; clear hK K; (with_reducible refine hK _ ?_); clear hK K) | ((with_reducible refine aord_plain fun K hK => ?_); simp only [go_sem, Nat.reduceAdd, Nat.reduceMul, Nat.reduceEqDiff, Nat.reduceLT, reduceIte, reduceCtorEq]) | refine awp_block ?_ | ((first | with_reducible refine aord_nil ?_ | refine awp_skip ?_ | refine awp_exit ?_ | refine awp_ret ?_); try simp only [thenA_normal, thenA_exit, thenA_goto, thenA_ret, blockA_normal, blockA_same, blockA_exit, blockA_goto, blockA_ret, Nat.reduceEqDiff, if_false, if_true, reduceIte]) | (refine awp_region tabOk rfl ?_; simp only [prep, pickO, List.map_cons, List.map_nil, List.getElem?_toArray, List.getElem?_cons_succ, List.getElem?_cons_zero, Option.bind_some, Option.map_some]) | ((with_reducible apply awp_cond); (focus (simp only [St.ev, St.set, upd, Nat.reduceEqDiff, reduceIte, if_false, if_true]; exact rfl)); all_goals (intro hb; first | (cases hb; done) | ((try rw [hb]); (try simp only [decide_eq_true_eq, decide_eq_false_iff_not, beq_iff_eq, bne_iff_ne, beq_eq_false_iff_ne, bne_eq_false_iff_eq, Int.not_lt, Int.not_le, Bool.not_eq_true', Bool.not_eq_false'] at hb)))) | ((with_reducible refine And.intro ?_ ?_); (focus omega)) | ((with_reducible refine And.intro ?_ ?_); (focus (exact rfl))) | ((with_reducible refine And.intro (?_ : enters Try.prog 84) ?_); (focus exact Try.call84); (refine callX_sat inRange_sat ?_); simp only [go_sem, and_assoc, List.nil_append, List.append_nil, List.cons_append, Nat.reduceEqDiff, reduceIte, reduceCtorEq]) | (with_reducible refine And.intro (fun hb => ?_) (fun hb => ?_)) | (exfalso; omega) | fail)
      · simp only [St.set, St.ev, doneQ, doneH, ressK, resK, wrapR, AV.ids, AV.idsL, retK, retsK, upd, Nat.reduceEqDiff, reduceIte, if_false, if_true, List.nodup_nil, List.nodup_cons, List.not_mem_nil, not_false_eq_true, true_and, and_true, exists_eq_left', Option.some.injEq, rLoad, cellOf, tab, Ty.isAgg, Ty.one, Bool.false_eq_true]
        have : validB xs = false := by
          unfold validB
          rw [Bool.and_eq_false_iff]
          left
          rw [List.all_eq_false]
          refine ⟨xs.getD i 0, ?_, ?_⟩
          · rw [List.getD_eq_getElem?_getD, List.getElem?_eq_getElem (by omega)]; simp
          · simp only [inB, hb]; simp
        rw [this] at hQ
        exact hQ
      · refine ⟨i + 1, ⟨by omega, fun j hj' => ?_⟩, by omega, ?_⟩
        · rcases Nat.lt_or_ge j i with h | h
          · exact hj j h
          · have : j = i := by omega
            subst this
            exact hb
        · (apply Wk.same; (case' h2 => (focus ((repeat' (with_reducible first | exact HeapX.bot | (apply HeapX.skip; (case hx => (simp; done))) | apply HeapX.none | apply HeapX.upd)); all_goals (first | rfl | exact Nat.le_of_ble_eq_true rfl | (simp only [St.set, St.ev, upd, ren, renL, id, Nat.reduceEqDiff, reduceIte, ContLe]; done) | (first | (simp only [St.set, St.ev, upd, ren, renL, id, Nat.reduceEqDiff, reduceIte]; exact contLe_nil) | ((repeat' (first | exact contLe_nil | refine contLe_cons (.inr ⟨?_, rfl⟩) ?_)); all_goals (first | rfl | (simp only [St.set, St.ev, upd, ren, renL, id, Nat.reduceEqDiff, reduceIte]; done) | ((try simp only [St.set, St.ev, upd, ren, renL, id, Nat.reduceEqDiff, reduceIte]); first | (with_reducible exact av_int (by omega)) | (with_reducible exact av_sl (by first | omega | (simp; done) | (simp; omega)) (by first | omega | (simp; done) | (simp; omega)))) | (simp only [St.set, St.ev, upd, ren, renL, id, Nat.reduceEqDiff, reduceIte, Int.natCast_add, Int.natCast_one, Int.cast_ofNat_Int, Int.natCast_zero]; done) | (simp only [St.set, St.ev, upd, ren, renL, id, Nat.reduceEqDiff, reduceIte]) | skip); done)) | (simp only [St.set, St.ev, upd, ren, renL, id, Nat.reduceEqDiff, reduceIte, ContLe]) | skip)))); (case' h1 => (focus ((repeat' (with_reducible first | exact TmpLe.bot | refine TmpLe.upd ?_ rfl ?_)); all_goals (first | rfl | (simp only [St.set, St.ev, upd, ren, renL, id, Nat.reduceEqDiff, reduceIte]; done) | ((try simp only [St.set, St.ev, upd, ren, renL, id, Nat.reduceEqDiff, reduceIte]); first | (with_reducible exact av_int (by omega)) | (with_reducible exact av_sl (by first | omega | (simp; done) | (simp; omega)) (by first | omega | (simp; done) | (simp; omega)))) | (simp only [St.set, St.ev, upd, ren, renL, id, Nat.reduceEqDiff, reduceIte, Int.natCast_add, Int.natCast_one, Int.cast_ofNat_Int, Int.natCast_zero]; done) | (simp only [St.set, St.ev, upd, ren, renL, id, Nat.reduceEqDiff, reduceIte]) | skip)))); (case h3 => (focus (first | (simp only [id, List.map_cons, List.map_nil]; decide) | decide | (simp; done) | (simp; omega) | fail))); (case h4 => (intro o l h; first | (cases h; done) | (have hlt0 := m0_lt (by assumption) h; first | omega | (simp only; omega) | exact ⟨by (first | rfl | (simp only [id]; done) | ((repeat rw [if_neg (by omega)]); done)), by first | omega | (simp only; omega)⟩))))
      · simp only [St.set, St.ev, doneQ, doneH, ressK, resK, wrapR, AV.ids, AV.idsL, retK, retsK, upd, Nat.reduceEqDiff, reduceIte, if_false, if_true, List.nodup_nil, List.nodup_cons, List.not_mem_nil, not_false_eq_true, true_and, and_true, exists_eq_left', Option.some.injEq, rLoad, cellOf, tab, Ty.isAgg, Ty.one, Bool.false_eq_true]
        have hi' : i = xs.length := by omega
        have : validB xs = decide (xs.length ≤ 8) := by
          unfold validB
          have : xs.all inB = true := by
            rw [List.all_eq_true]
            intro x hx
            obtain ⟨j, hj1, hj2⟩ := List.mem_iff_getElem.1 hx
            have := hj j (by omega)
            rw [List.getD_eq_getElem?_getD, List.getElem?_eq_getElem hj1] at this
            simpa [hj2] using this
          rw [this, Bool.true_and]
        rw [this] at hQ
        have e : decide ((xs.length : Int) ≤ 8) = decide (xs.length ≤ 8) := by apply decide_eq_decide.2; omega
        rw [e]
        exact hQ

theorem getD_set_same {α : Type} {l : List α} {i : Nat} {a d : α} (h : i < l.length) : (l.set i a).getD i d = a := by simp [List.getD_eq_getElem?_getD, h]
theorem getD_set_ne' {α : Type} {l : List α} {i j : Nat} {a d : α} (h : i ≠ j) : (l.set i a).getD j d = l.getD j d := by simp [List.getD_eq_getElem?_getD, List.getElem?_set_ne h]
theorem ext_getD {l m : List Int} (h : l.length = m.length) (hh : ∀ j, j < l.length → l.getD j 0 = m.getD j 0) : l = m := by
  apply List.ext_getElem h
  intro j h1 h2
  have := hh j h1
  simpa [List.getD_eq_getElem?_getD, h1, h2] using this


theorem toIntS_sat : Sat Try.prog 43 (fun ds Q => ∃ xs, ds = [.row (.ints .i64 xs)] ∧ xs.length ≤ 1099511627776 ∧ Q (.row (.ints .i64 xs))) := by
  refine sat_intro tabOk Try.func43 rfl 22 rfl [.tmp 2] rfl ?_
  rintro ds Q W ⟨xs, rfl, hlen, hQ⟩
  refine ⟨Nat.le_of_ble_eq_true rfl, ?_⟩
  simp only [initS, initT, mat.matL, mat, Cont.len]
  repeat' (first | refine awp_seq_k fun K hK => ?_ | ((with_reducible refine hK _ ?_); clear hK K) | (clear hK K; (with_reducible refine hK _ ?_); clear hK K) | (clear hK K; clear hK K; (with_reducible refine hK _ ?_); clear hK K) | (clear hK K; clear hK K; clear hK K; (with_reducible refine hK _ ?_); clear hK K) | (clear hK K; clear hK K; clear hK K; clear hK K; (with_reducible refine hK _ ?_); clear hK K) | (clear hK K; clear hK K; clear hK K; clear hK K; clear hK K; (with_reducible refine hK _ ?_); clear hK K) | ((with_reducible refine aord_plain fun K hK => ?_); simp only [go_sem, Nat.reduceAdd, Nat.reduceMul, Nat.reduceEqDiff, Nat.reduceLT, reduceIte, reduceCtorEq]) | refine awp_block ?_ | ((first | with_reducible refine aord_nil ?_ | refine awp_skip ?_ | refine awp_exit ?_ | refine awp_ret ?_); try simp only [thenA_normal, thenA_exit, thenA_goto, thenA_ret, blockA_normal, blockA_same, blockA_exit, blockA_goto, blockA_ret, Nat.reduceEqDiff, if_false, if_true, reduceIte]) | (refine awp_region tabOk rfl ?_; simp only [prep, pickO, List.map_cons, List.map_nil, List.getElem?_toArray, List.getElem?_cons_succ, List.getElem?_cons_zero, Option.bind_some, Option.map_some]) | ((with_reducible apply awp_cond); (focus (simp only [St.ev, St.set, upd, Nat.reduceEqDiff, reduceIte, if_false, if_true]; exact rfl)); all_goals (intro hb; first | (cases hb; done) | ((try rw [hb]); (try simp only [decide_eq_true_eq, decide_eq_false_iff_not, beq_iff_eq, bne_iff_ne, beq_eq_false_iff_ne, bne_eq_false_iff_eq, Int.not_lt, Int.not_le, Bool.not_eq_true', Bool.not_eq_false'] at hb)))) | ((with_reducible refine And.intro ?_ ?_); (focus omega)) | ((with_reducible refine And.intro ?_ ?_); (focus (exact rfl))) | (refine aStoreAll_ints (by simp only [St.ev, St.set, upd, Nat.reduceEqDiff, reduceIte, if_false, if_true]; exact rfl) ?_ ?_ ?_ ?_; (focus (first | rfl | omega | (simp; done) | (simp; omega) | (simp [szOf, tab]; done) | (simp [szOf, tab]; omega))); (focus (first | rfl | omega | (simp; done) | (simp; omega) | (simp [szOf, tab]; done) | (simp [szOf, tab]; omega))); (focus (first | rfl | omega | (simp; done) | (simp; omega) | (simp [szOf, tab]; done) | (simp [szOf, tab]; omega))); (try simp only [go_sem, Nat.reduceAdd, Nat.reduceMul, Nat.reduceEqDiff, Nat.reduceLT, reduceIte, reduceCtorEq])) | (refine aStoreAll_cells (by simp only [St.ev, St.set, upd, Nat.reduceEqDiff, reduceIte, if_false, if_true]; exact rfl) ?_ ?_ ?_ ?_ ?_; (focus (first | rfl | omega | (simp; done) | (simp; omega) | (simp [szOf, tab]; done) | (simp [szOf, tab]; omega))); (focus (first | rfl | omega | (simp; done) | (simp; omega) | (simp [szOf, tab]; done) | (simp [szOf, tab]; omega))); (focus (first | rfl | omega | (simp; done) | (simp; omega) | (simp [szOf, tab]; done) | (simp [szOf, tab]; omega))); (focus (first | rfl | (simp [AV.cell, Value.oneCell']; done))); (try simp only [go_sem, Nat.reduceAdd, Nat.reduceMul, Nat.reduceEqDiff, Nat.reduceLT, reduceIte, reduceCtorEq])) | (with_reducible refine And.intro (fun hb => ?_) (fun hb => ?_)) | (exfalso; omega) | fail)
  · refine awp_loop (fun p : Nat × List Int => ⟨upd (upd (upd bot 4 (.val (.int .i64 p.1))) 3 (.sl 1 0 xs.length 1 none)) 0 (.sl 0 0 xs.length 1 none), upd (upd none' 0 (some ⟨false, .ints .i64 xs⟩)) 1 (some ⟨true, .ints .i64 p.2⟩), 2⟩) (fun p => p.1 ≤ xs.length ∧ p.2.length = xs.length ∧ ∀ j, j < p.1 → p.2.getD j 0 = xs.getD j 0) (fun p => xs.length - p.1) (0, List.replicate xs.length 0) ⟨by simp, by simp, by simp⟩ ?_ ?_
    · (apply Wk.same; (case' h2 => (focus ((repeat' (with_reducible first | exact HeapX.bot | (apply HeapX.skip; (case hx => (simp; done))) | apply HeapX.none | apply HeapX.upd)); all_goals (first | rfl | exact Nat.le_of_ble_eq_true rfl | (simp only [St.set, St.ev, upd, ren, renL, id, Nat.reduceEqDiff, reduceIte, ContLe]; done) | (first | (simp only [St.set, St.ev, upd, ren, renL, id, Nat.reduceEqDiff, reduceIte]; exact contLe_nil) | ((repeat' (first | exact contLe_nil | refine contLe_cons (.inr ⟨?_, rfl⟩) ?_)); all_goals (first | rfl | (simp only [St.set, St.ev, upd, ren, renL, id, Nat.reduceEqDiff, reduceIte]; done) | ((try simp only [St.set, St.ev, upd, ren, renL, id, Nat.reduceEqDiff, reduceIte]); first | (with_reducible exact av_int (by omega)) | (with_reducible exact av_sl (by first | omega | (simp; done) | (simp; omega)) (by first | omega | (simp; done) | (simp; omega)))) | (simp only [St.set, St.ev, upd, ren, renL, id, Nat.reduceEqDiff, reduceIte, Int.natCast_add, Int.natCast_one, Int.cast_ofNat_Int, Int.natCast_zero]; done) | (simp only [St.set, St.ev, upd, ren, renL, id, Nat.reduceEqDiff, reduceIte]) | skip); done)) | (simp only [St.set, St.ev, upd, ren, renL, id, Nat.reduceEqDiff, reduceIte, ContLe]) | skip)))); (case' h1 => (focus ((repeat' (with_reducible first | exact TmpLe.bot | refine TmpLe.upd ?_ rfl ?_)); all_goals (first | rfl | (simp only [St.set, St.ev, upd, ren, renL, id, Nat.reduceEqDiff, reduceIte]; done) | ((try simp only [St.set, St.ev, upd, ren, renL, id, Nat.reduceEqDiff, reduceIte]); first | (with_reducible exact av_int (by omega)) | (with_reducible exact av_sl (by first | omega | (simp; done) | (simp; omega)) (by first | omega | (simp; done) | (simp; omega)))) | (simp only [St.set, St.ev, upd, ren, renL, id, Nat.reduceEqDiff, reduceIte, Int.natCast_add, Int.natCast_one, Int.cast_ofNat_Int, Int.natCast_zero]; done) | (simp only [St.set, St.ev, upd, ren, renL, id, Nat.reduceEqDiff, reduceIte]) | skip)))); (case h3 => (focus (first | (simp only [id, List.map_cons, List.map_nil]; decide) | decide | (simp; done) | (simp; omega) | fail))); (case h4 => (intro o l h; first | (cases h; done) | (have hlt0 := m0_lt (by assumption) h; first | omega | (simp only; omega) | exact ⟨by (first | rfl | (simp only [id]; done) | ((repeat rw [if_neg (by omega)]); done)), by first | omega | (simp only; omega)⟩))))
    · rintro ⟨i, ys⟩ ⟨hi, hl, hj⟩
      simp only at hi hl hj
      repeat' (first | refine awp_seq_k fun K hK => ?_ | ((with_reducible refine hK _ ?_); clear hK K) | (clear hK K; (with_reducible refine hK _ ?_); clear hK K) | (clear hK K; clear hK K; (with_reducible refine hK _ ?_); clear hK K) | (clear hK K; clear hK K; clear hK K; (with_reducible refine hK _ ?_); clear hK K) | (clear hK K; clear hK K; clear hK K; clear hK K; (with_reducible refine hK _ ?_); clear hK K) | (clear hK K; clear hK K; clear hK K; clear hK K; clear hK K; (with_reducible refine hK _ ?_); clear hK K) | ((with_reducible refine aord_plain fun K hK => ?_); simp only [go_sem, Nat.reduceAdd, Nat.reduceMul, Nat.reduceEqDiff, Nat.reduceLT, reduceIte, reduceCtorEq]) | refine awp_block ?_ | ((first | with_reducible refine aord_nil ?_ | refine awp_skip ?_ | refine awp_exit ?_ | refine awp_ret ?_); try simp only [thenA_normal, thenA_exit, thenA_goto, thenA_ret, blockA_normal, blockA_same, blockA_exit, blockA_goto, blockA_ret, Nat.reduceEqDiff, if_false, if_true, reduceIte]) | (refine awp_region tabOk rfl ?_; simp only [prep, pickO, List.map_cons, List.map_nil, List.getElem?_toArray, List.getElem?_cons_succ, List.getElem?_cons_zero, Option.bind_some, Option.map_some]) | ((with_reducible apply awp_cond); (focus (simp only [St.ev, St.set, upd, Nat.reduceEqDiff, reduceIte, if_false, if_true]; exact rfl)); all_goals (intro hb; first | (cases hb; done) | ((try rw [hb]); (try simp only [decide_eq_true_eq, decide_eq_false_iff_not, beq_iff_eq, bne_iff_ne, beq_eq_false_iff_ne, bne_eq_false_iff_eq, Int.not_lt, Int.not_le, Bool.not_eq_true', Bool.not_eq_false'] at hb)))) | ((with_reducible refine And.intro ?_ ?_); (focus omega)) | ((with_reducible refine And.intro ?_ ?_); (focus (exact rfl))) | (refine aStoreAll_ints (by simp only [St.ev, St.set, upd, Nat.reduceEqDiff, reduceIte, if_false, if_true]; exact rfl) ?_ ?_ ?_ ?_; (focus (first | rfl | omega | (simp; done) | (simp; omega) | (simp [szOf, tab]; done) | (simp [szOf, tab]; omega))); (focus (first | rfl | omega | (simp; done) | (simp; omega) | (simp [szOf, tab]; done) | (simp [szOf, tab]; omega))); (focus (first | rfl | omega | (simp; done) | (simp; omega) | (simp [szOf, tab]; done) | (simp [szOf, tab]; omega))); (try simp only [go_sem, Nat.reduceAdd, Nat.reduceMul, Nat.reduceEqDiff, Nat.reduceLT, reduceIte, reduceCtorEq])) | (refine aStoreAll_cells (by simp only [St.ev, St.set, upd, Nat.reduceEqDiff, reduceIte, if_false, if_true]; exact rfl) ?_ ?_ ?_ ?_ ?_; (focus (first | rfl | omega | (simp; done) | (simp; omega) | (simp [szOf, tab]; done) | (simp [szOf, tab]; omega))); (focus (first | rfl | omega | (simp; done) | (simp; omega) | (simp [szOf, tab]; done) | (simp [szOf, tab]; omega))); (focus (first | rfl | omega | (simp; done) | (simp; omega) | (simp [szOf, tab]; done) | (simp [szOf, tab]; omega))); (focus (first | rfl | (simp [AV.cell, Value.oneCell']; done))); (try simp only [go_sem, Nat.reduceAdd, Nat.reduceMul, Nat.reduceEqDiff, Nat.reduceLT, reduceIte, reduceCtorEq])) | (with_reducible refine And.intro (fun hb => ?_) (fun hb => ?_)) | (exfalso; omega) | fail)
      · refine ⟨(i + 1, ys.set i (xs.getD i 0)), ⟨by omega, by simp [hl], fun j h => ?_⟩, by simp only; omega, ?_⟩
        · rcases Nat.lt_or_ge j i with h1 | h1
          · rw [getD_set_ne' (by omega)]; exact hj j h1
          · have : j = i := by simp only at h; omega
            subst this
            exact getD_set_same (by omega)
        · (apply Wk.same; (case' h2 => (focus ((repeat' (with_reducible first | exact HeapX.bot | (apply HeapX.skip; (case hx => (simp; done))) | apply HeapX.none | apply HeapX.upd)); all_goals (first | rfl | exact Nat.le_of_ble_eq_true rfl | (simp only [St.set, St.ev, upd, ren, renL, id, Nat.reduceEqDiff, reduceIte, ContLe]; done) | (first | (simp only [St.set, St.ev, upd, ren, renL, id, Nat.reduceEqDiff, reduceIte]; exact contLe_nil) | ((repeat' (first | exact contLe_nil | refine contLe_cons (.inr ⟨?_, rfl⟩) ?_)); all_goals (first | rfl | (simp only [St.set, St.ev, upd, ren, renL, id, Nat.reduceEqDiff, reduceIte]; done) | ((try simp only [St.set, St.ev, upd, ren, renL, id, Nat.reduceEqDiff, reduceIte]); first | (with_reducible exact av_int (by omega)) | (with_reducible exact av_sl (by first | omega | (simp; done) | (simp; omega)) (by first | omega | (simp; done) | (simp; omega)))) | (simp only [St.set, St.ev, upd, ren, renL, id, Nat.reduceEqDiff, reduceIte, Int.natCast_add, Int.natCast_one, Int.cast_ofNat_Int, Int.natCast_zero]; done) | (simp only [St.set, St.ev, upd, ren, renL, id, Nat.reduceEqDiff, reduceIte]) | skip); done)) | (simp only [St.set, St.ev, upd, ren, renL, id, Nat.reduceEqDiff, reduceIte, ContLe]) | skip)))); (case' h1 => (focus ((repeat' (with_reducible first | exact TmpLe.bot | refine TmpLe.upd ?_ rfl ?_)); all_goals (first | rfl | (simp only [St.set, St.ev, upd, ren, renL, id, Nat.reduceEqDiff, reduceIte]; done) | ((try simp only [St.set, St.ev, upd, ren, renL, id, Nat.reduceEqDiff, reduceIte]); first | (with_reducible exact av_int (by omega)) | (with_reducible exact av_sl (by first | omega | (simp; done) | (simp; omega)) (by first | omega | (simp; done) | (simp; omega)))) | (simp only [St.set, St.ev, upd, ren, renL, id, Nat.reduceEqDiff, reduceIte, Int.natCast_add, Int.natCast_one, Int.cast_ofNat_Int, Int.natCast_zero]; done) | (simp only [St.set, St.ev, upd, ren, renL, id, Nat.reduceEqDiff, reduceIte]) | skip)))); (case h3 => (focus (first | (simp only [id, List.map_cons, List.map_nil]; decide) | decide | (simp; done) | (simp; omega) | fail))); (case h4 => (intro o l h; first | (cases h; done) | (have hlt0 := m0_lt (by assumption) h; first | omega | (simp only; omega) | exact ⟨by (first | rfl | (simp only [id]; done) | ((repeat rw [if_neg (by omega)]); done)), by first | omega | (simp only; omega)⟩))))
      · simp only [St.set, St.ev, doneQ, doneH, ressK, resK, wrapR, AV.ids, AV.idsL, retK, retsK, upd, Nat.reduceEqDiff, reduceIte, if_false, if_true, List.nodup_nil, List.nodup_cons, List.not_mem_nil, not_false_eq_true, true_and, and_true, exists_eq_left', Option.some.injEq, rLoad, cellOf, tab, Ty.isAgg, Ty.one, Bool.false_eq_true]
        have : ys = xs := ext_getD hl fun j h => hj j (by omega)
        subst this
        simp only [Cont.closed, Cont.len, true_and]
        exact hQ


theorem eqIntS_sat : Sat Try.prog 45 (fun ds Q => ∃ xs ys, ds = [.row (.ints .i64 xs), .row (.ints .i64 ys)] ∧ xs.length ≤ 1099511627776 ∧ ys.length ≤ 1099511627776 ∧ Q (.val (.bool (decide (xs = ys))))) := by
  refine sat_intro tabOk Try.func45 rfl 26 rfl [.tmp 4] rfl ?_
  rintro ds Q W ⟨xs, ys, rfl, hlx, hly, hQ⟩
  refine ⟨Nat.le_of_ble_eq_true rfl, ?_⟩
  simp only [initS, initT, mat.matL, mat, Cont.len]
  repeat' (first | refine awp_seq_k fun K hK => ?_ | ((with_reducible refine hK _ ?_); clear hK K) | (clear hK K; (with_reducible refine hK _ ?_); clear hK K) | (clear hK K; clear hK K; (with_reducible refine hK _ ?_); clear hK K) | (clear hK K; clear hK K; clear hK K; (with_reducible refine hK _ ?_); clear hK K) | (clear hK K; clear hK K; clear hK K; clear hK K; (with_reducible refine hK _ ?_); clear hK K) | (clear hK K; clear hK K; clear hK K; clear hK K; clear hK K; (with_reducible refine hK _ ?_); clear hK K) | ((with_reducible refine aord_plain fun K hK => ?_); simp only [go_sem, Nat.reduceAdd, Nat.reduceMul, Nat.reduceEqDiff, Nat.reduceLT, reduceIte, reduceCtorEq]) | refine awp_block ?_ | ((first | with_reducible refine aord_nil ?_ | refine awp_skip ?_ | refine awp_exit ?_ | refine awp_ret ?_); try simp only [thenA_normal, thenA_exit, thenA_goto, thenA_ret, blockA_normal, blockA_same, blockA_exit, blockA_goto, blockA_ret, Nat.reduceEqDiff, if_false, if_true, reduceIte]) | (refine awp_region tabOk rfl ?_; simp only [prep, pickO, List.map_cons, List.map_nil, List.getElem?_toArray, List.getElem?_cons_succ, List.getElem?_cons_zero, Option.bind_some, Option.map_some]) | (refine awp_region_draw (nt := 26) (id := 6) tabOk [(0, true, false), (1, true, false), (2, true, false), (3, true, false), (4, true, false), (5, true, false), (6, true, false), (7, true, false), (8, true, false)] (by kernel_rfl) rfl (by kernel_rfl) ?_; simp only [prep, pickO, List.map_cons, List.map_nil, List.getElem?_toArray, List.getElem?_cons_succ, List.getElem?_cons_zero, Option.bind_some, Option.map_some]) | ((with_reducible apply awp_cond); (focus (simp only [St.ev, St.set, upd, Nat.reduceEqDiff, reduceIte, if_false, if_true]; exact rfl)); all_goals (intro hb; first | (cases hb; done) | ((try rw [hb]); (try simp only [decide_eq_true_eq, decide_eq_false_iff_not, beq_iff_eq, bne_iff_ne, beq_eq_false_iff_ne, bne_eq_false_iff_eq, Int.not_lt, Int.not_le, Bool.not_eq_true', Bool.not_eq_false'] at hb)))) | ((with_reducible refine And.intro ?_ ?_); (focus omega)) | ((with_reducible refine And.intro ?_ ?_); (focus (exact rfl))) | (with_reducible refine And.intro (fun hb => ?_) (fun hb => ?_)) | (exfalso; omega) | fail)
  · simp only [St.set, St.ev, doneQ, doneH, ressK, resK, wrapR, AV.ids, AV.idsL, retK, retsK, upd, Nat.reduceEqDiff, reduceIte, if_false, if_true, List.nodup_nil, List.nodup_cons, List.not_mem_nil, not_false_eq_true, true_and, and_true, exists_eq_left', Option.some.injEq, rLoad, cellOf, tab, Ty.isAgg, Ty.one, Bool.false_eq_true]
    have : decide (xs = ys) = false := decide_eq_false (fun h => hb (by rw [h]))
    rw [this] at hQ
    exact hQ
  · have hlen : ys.length = xs.length := by omega
    refine awp_loop (fun i : Nat => ⟨upd (upd (upd bot 5 (.val (.int .i64 i))) 1 (.sl 1 0 ys.length 1 none)) 0 (.sl 0 0 xs.length 1 none), upd (upd none' 0 (some ⟨false, .ints .i64 xs⟩)) 1 (some ⟨false, .ints .i64 ys⟩), 2⟩) (fun i => i ≤ xs.length ∧ ∀ j, j < i → xs.getD j 0 = ys.getD j 0) (fun i => xs.length - i) 0 ⟨by omega, by omega⟩ ?_ ?_
    · (apply Wk.same; (case' h2 => (focus ((repeat' (with_reducible first | exact HeapX.bot | (apply HeapX.skip; (case hx => (simp; done))) | apply HeapX.none | apply HeapX.upd)); all_goals (first | rfl | exact Nat.le_of_ble_eq_true rfl | (simp only [St.set, St.ev, upd, ren, renL, id, Nat.reduceEqDiff, reduceIte, ContLe]; done) | (first | (simp only [St.set, St.ev, upd, ren, renL, id, Nat.reduceEqDiff, reduceIte]; exact contLe_nil) | ((repeat' (first | exact contLe_nil | refine contLe_cons (.inr ⟨?_, rfl⟩) ?_)); all_goals (first | rfl | (simp only [St.set, St.ev, upd, ren, renL, id, Nat.reduceEqDiff, reduceIte]; done) | ((try simp only [St.set, St.ev, upd, ren, renL, id, Nat.reduceEqDiff, reduceIte]); first | (with_reducible exact av_int (by omega)) | (with_reducible exact av_sl (by first | omega | (simp; done) | (simp; omega)) (by first | omega | (simp; done) | (simp; omega)))) | (simp only [St.set, St.ev, upd, ren, renL, id, Nat.reduceEqDiff, reduceIte, Int.natCast_add, Int.natCast_one, Int.cast_ofNat_Int, Int.natCast_zero]; done) | (simp only [St.set, St.ev, upd, ren, renL, id, Nat.reduceEqDiff, reduceIte]) | skip); done)) | (simp only [St.set, St.ev, upd, ren, renL, id, Nat.reduceEqDiff, reduceIte, ContLe]) | skip)))); (case' h1 => (focus ((repeat' (with_reducible first | exact TmpLe.bot | refine TmpLe.upd ?_ rfl ?_)); all_goals (first | rfl | (simp only [St.set, St.ev, upd, ren, renL, id, Nat.reduceEqDiff, reduceIte]; done) | ((try simp only [St.set, St.ev, upd, ren, renL, id, Nat.reduceEqDiff, reduceIte]); first | (with_reducible exact av_int (by omega)) | (with_reducible exact av_sl (by first | omega | (simp; done) | (simp; omega)) (by first | omega | (simp; done) | (simp; omega)))) | (simp only [St.set, St.ev, upd, ren, renL, id, Nat.reduceEqDiff, reduceIte, Int.natCast_add, Int.natCast_one, Int.cast_ofNat_Int, Int.natCast_zero]; done) | (simp only [St.set, St.ev, upd, ren, renL, id, Nat.reduceEqDiff, reduceIte]) | skip)))); (case h3 => (focus (first | (simp only [id, List.map_cons, List.map_nil]; decide) | decide | (simp; done) | (simp; omega) | fail))); (case h4 => (intro o l h; first | (cases h; done) | (have hlt0 := m0_lt (by assumption) h; first | omega | (simp only; omega) | exact ⟨by (first | rfl | (simp only [id]; done) | ((repeat rw [if_neg (by omega)]); done)), by first | omega | (simp only; omega)⟩))))
    · rintro i ⟨hi, hj⟩
      repeat' (first | refine awp_seq_k fun K hK => ?_ | ((with_reducible refine hK _ ?_); clear hK K) | (clear hK K; (with_reducible refine hK _ ?_); clear hK K) | (clear hK K; clear hK K; (with_reducible refine hK _ ?_); clear hK K) | (clear hK K; clear hK K; clear hK K; (with_reducible refine hK _ ?_); clear hK K) | (clear hK K; clear hK K; clear hK K; clear hK K; (with_reducible refine hK _ ?_); clear hK K) | (clear hK K; clear hK K; clear hK K; clear hK K; clear hK K; (with_reducible refine hK _ ?_); clear hK K) | ((with_reducible refine aord_plain fun K hK => ?_); simp only [go_sem, Nat.reduceAdd, Nat.reduceMul, Nat.reduceEqDiff, Nat.reduceLT, reduceIte, reduceCtorEq]) | refine awp_block ?_ | ((first | with_reducible refine aord_nil ?_ | refine awp_skip ?_ | refine awp_exit ?_ | refine awp_ret ?_); try simp only [thenA_normal, thenA_exit, thenA_goto, thenA_ret, blockA_normal, blockA_same, blockA_exit, blockA_goto, blockA_ret, Nat.reduceEqDiff, if_false, if_true, reduceIte]) | (refine awp_region tabOk rfl ?_; simp only [prep, pickO, List.map_cons, List.map_nil, List.getElem?_toArray, List.getElem?_cons_succ, List.getElem?_cons_zero, Option.bind_some, Option.map_some]) | (refine awp_region_draw (nt := 26) (id := 6) tabOk [(0, true, false), (1, true, false), (2, true, false), (3, true, false), (4, true, false), (5, true, false), (6, true, false), (7, true, false), (8, true, false)] (by kernel_rfl) rfl (by kernel_rfl) ?_; simp only [prep, pickO, List.map_cons, List.map_nil, List.getElem?_toArray, List.getElem?_cons_succ, List.getElem?_cons_zero, Option.bind_some, Option.map_some]) | ((with_reducible apply awp_cond); (focus (simp only [St.ev, St.set, upd, Nat.reduceEqDiff, reduceIte, if_false, if_true]; exact rfl)); all_goals (intro hb; first | (cases hb; done) | ((try rw [hb]); (try simp only [decide_eq_true_eq, decide_eq_false_iff_not, beq_iff_eq, bne_iff_ne, beq_eq_false_iff_ne, bne_eq_false_iff_eq, Int.not_lt, Int.not_le, Bool.not_eq_true', Bool.not_eq_false'] at hb)))) | ((with_reducible refine And.intro ?_ ?_); (focus omega)) | ((with_reducible refine And.intro ?_ ?_); (focus (exact rfl))) | (with_reducible refine And.intro (fun hb => ?_) (fun hb => ?_)) | (exfalso; omega) | fail)
      · simp only [St.set, St.ev, doneQ, doneH, ressK, resK, wrapR, AV.ids, AV.idsL, retK, retsK, upd, Nat.reduceEqDiff, reduceIte, if_false, if_true, List.nodup_nil, List.nodup_cons, List.not_mem_nil, not_false_eq_true, true_and, and_true, exists_eq_left', Option.some.injEq, rLoad, cellOf, tab, Ty.isAgg, Ty.one, Bool.false_eq_true]
        have : decide (xs = ys) = false := decide_eq_false (fun h => hb (by rw [h]))
        rw [this] at hQ
        exact hQ
      · refine ⟨i + 1, ⟨by omega, fun j h => ?_⟩, by omega, ?_⟩
        · rcases Nat.lt_or_ge j i with h1 | h1
          · exact hj j h1
          · have : j = i := by omega
            subst this
            exact hb
        · (apply Wk.same; (case' h2 => (focus ((repeat' (with_reducible first | exact HeapX.bot | (apply HeapX.skip; (case hx => (simp; done))) | apply HeapX.none | apply HeapX.upd)); all_goals (first | rfl | exact Nat.le_of_ble_eq_true rfl | (simp only [St.set, St.ev, upd, ren, renL, id, Nat.reduceEqDiff, reduceIte, ContLe]; done) | (first | (simp only [St.set, St.ev, upd, ren, renL, id, Nat.reduceEqDiff, reduceIte]; exact contLe_nil) | ((repeat' (first | exact contLe_nil | refine contLe_cons (.inr ⟨?_, rfl⟩) ?_)); all_goals (first | rfl | (simp only [St.set, St.ev, upd, ren, renL, id, Nat.reduceEqDiff, reduceIte]; done) | ((try simp only [St.set, St.ev, upd, ren, renL, id, Nat.reduceEqDiff, reduceIte]); first | (with_reducible exact av_int (by omega)) | (with_reducible exact av_sl (by first | omega | (simp; done) | (simp; omega)) (by first | omega | (simp; done) | (simp; omega)))) | (simp only [St.set, St.ev, upd, ren, renL, id, Nat.reduceEqDiff, reduceIte, Int.natCast_add, Int.natCast_one, Int.cast_ofNat_Int, Int.natCast_zero]; done) | (simp only [St.set, St.ev, upd, ren, renL, id, Nat.reduceEqDiff, reduceIte]) | skip); done)) | (simp only [St.set, St.ev, upd, ren, renL, id, Nat.reduceEqDiff, reduceIte, ContLe]) | skip)))); (case' h1 => (focus ((repeat' (with_reducible first | exact TmpLe.bot | refine TmpLe.upd ?_ rfl ?_)); all_goals (first | rfl | (simp only [St.set, St.ev, upd, ren, renL, id, Nat.reduceEqDiff, reduceIte]; done) | ((try simp only [St.set, St.ev, upd, ren, renL, id, Nat.reduceEqDiff, reduceIte]); first | (with_reducible exact av_int (by omega)) | (with_reducible exact av_sl (by first | omega | (simp; done) | (simp; omega)) (by first | omega | (simp; done) | (simp; omega)))) | (simp only [St.set, St.ev, upd, ren, renL, id, Nat.reduceEqDiff, reduceIte, Int.natCast_add, Int.natCast_one, Int.cast_ofNat_Int, Int.natCast_zero]; done) | (simp only [St.set, St.ev, upd, ren, renL, id, Nat.reduceEqDiff, reduceIte]) | skip)))); (case h3 => (focus (first | (simp only [id, List.map_cons, List.map_nil]; decide) | decide | (simp; done) | (simp; omega) | fail))); (case h4 => (intro o l h; first | (cases h; done) | (have hlt0 := m0_lt (by assumption) h; first | omega | (simp only; omega) | exact ⟨by (first | rfl | (simp only [id]; done) | ((repeat rw [if_neg (by omega)]); done)), by first | omega | (simp only; omega)⟩))))
      · simp only [St.set, St.ev, doneQ, doneH, ressK, resK, wrapR, AV.ids, AV.idsL, retK, retsK, upd, Nat.reduceEqDiff, reduceIte, if_false, if_true, List.nodup_nil, List.nodup_cons, List.not_mem_nil, not_false_eq_true, true_and, and_true, exists_eq_left', Option.some.injEq, rLoad, cellOf, tab, Ty.isAgg, Ty.one, Bool.false_eq_true]
        have : decide (xs = ys) = true := decide_eq_true (ext_getD hlen.symm fun j h => hj j (by omega))
        rw [this] at hQ
        exact hQ


theorem valid_all {xs : List Int} (h8 : xs.length ≤ 8) (h : ∀ j, j < xs.length → inB (xs.getD j 0) = true) : validB xs = true := by
  unfold validB
  rw [decide_eq_true h8, Bool.and_true, List.all_eq_true]
  intro x hx
  obtain ⟨j, hj1, hj2⟩ := List.mem_iff_getElem.1 hx
  have := h j hj1
  rw [List.getD_eq_getElem?_getD, List.getElem?_eq_getElem hj1] at this
  simpa [hj2] using this
theorem valid_not {xs : List Int} {i : Nat} (hi : i < xs.length) (h : inB (xs.getD i 0) = false) : validB xs = false := by
  unfold validB
  rw [Bool.and_eq_false_iff]
  left
  rw [List.all_eq_false]
  refine ⟨xs.getD i 0, ?_, by rw [h]; simp⟩
  rw [List.getD_eq_getElem?_getD, List.getElem?_eq_getElem hi]; simp


theorem implValidKeys_sat : Sat Try.prog 17 (fun ds Q => ∃ xs, ds = [.row (.ints .i64 xs)] ∧ xs.length ≤ 1099511627776 ∧ Q (.val (.bool (validB xs)))) := by
  refine sat_intro tabOk Try.func17 rfl 21 rfl [.tmp 2] rfl ?_
  rintro ds Q W ⟨xs, rfl, hlen, hQ⟩
  refine ⟨Nat.le_of_ble_eq_true rfl, ?_⟩
  simp only [initS, initT, mat.matL, mat, Cont.len]
  repeat' (first | refine awp_seq_k fun K hK => ?_ | ((with_reducible refine hK _ ?_); clear hK K) | (clear hK K; (with_reducible refine hK _ ?_); clear hK K) | (clear hK K; clear hK K; (with_reducible refine hK _ ?_); clear hK K) | (clear hK K; clear hK K; clear hK K; (with_reducible refine hK _ ?_); clear hK K) | (clear hK K; clear hK K; clear hK K; clear hK K; (with_reducible refine hK _ ?_); clear hK K) | (clear hK K; clear hK K; clear hK K; clear hK K; clear hK K; (with_reducible refine hK _ ?_); clear hK K) | ((with_reducible refine aord_plain fun K hK => ?_); simp only [go_sem, Nat.reduceAdd, Nat.reduceMul, Nat.reduceEqDiff, Nat.reduceLT, reduceIte, reduceCtorEq]) | ((with_reducible apply aord_guard); (focus (simp only [St.ev, St.set, upd, Nat.reduceEqDiff, reduceIte, if_false, if_true]; exact rfl)); all_goals (intro hb; (try simp only [Bool.not_true, Bool.not_false] at hb); first | (cases hb; done) | ((try rw [hb]); (try simp only [Bool.not_eq_true', Bool.not_eq_false', Bool.and_eq_true, decide_eq_true_eq, decide_eq_false_iff_not, beq_iff_eq, bne_iff_ne, beq_eq_false_iff_ne, bne_eq_false_iff_eq, Int.not_lt, Int.not_le] at hb); (try (revert hb; with_reducible refine true_imp_iff.2 ?_)); first | (intro K hK; simp only [go_sem, Nat.reduceAdd, Nat.reduceMul, Nat.reduceEqDiff, Nat.reduceLT, reduceIte, reduceCtorEq]) | (simp only [St.ev, St.set, upd, Nat.reduceEqDiff, reduceIte, if_false, if_true]) | skip))) | ((with_reducible apply aord_skip); (focus (simp only [St.ev, St.set, upd, Nat.reduceEqDiff, reduceIte, if_false, if_true]; done)); (simp only [St.ev, St.set, upd, Nat.reduceEqDiff, reduceIte, if_false, if_true])) | refine awp_block ?_ | ((first | with_reducible refine aord_nil ?_ | refine awp_skip ?_ | refine awp_exit ?_ | refine awp_ret ?_); try simp only [thenA_normal, thenA_exit, thenA_goto, thenA_ret, blockA_normal, blockA_same, blockA_exit, blockA_goto, blockA_ret, Nat.reduceEqDiff, if_false, if_true, reduceIte]) | (refine awp_region tabOk rfl ?_; simp only [prep, pickO, List.map_cons, List.map_nil, List.getElem?_toArray, List.getElem?_cons_succ, List.getElem?_cons_zero, Option.bind_some, Option.map_some]) | ((with_reducible apply awp_cond); (focus (simp only [St.ev, St.set, upd, Nat.reduceEqDiff, reduceIte, if_false, if_true]; exact rfl)); all_goals (intro hb; first | (cases hb; done) | ((try rw [hb]); (try simp only [decide_eq_true_eq, decide_eq_false_iff_not, beq_iff_eq, bne_iff_ne, beq_eq_false_iff_ne, bne_eq_false_iff_eq, Int.not_lt, Int.not_le, Bool.not_eq_true', Bool.not_eq_false'] at hb)))) | ((with_reducible refine And.intro ?_ ?_); (focus omega)) | ((with_reducible refine And.intro ?_ ?_); (focus (exact rfl))) | (with_reducible refine And.intro (fun hb => ?_) (fun hb => ?_)) | (exfalso; omega) | fail)
  · simp only [St.set, St.ev, doneQ, doneH, ressK, resK, wrapR, AV.ids, AV.idsL, retK, retsK, upd, Nat.reduceEqDiff, reduceIte, if_false, if_true, List.nodup_nil, List.nodup_cons, List.not_mem_nil, not_false_eq_true, true_and, and_true, exists_eq_left', Option.some.injEq, rLoad, cellOf, tab, Ty.isAgg, Ty.one, Bool.false_eq_true]
    have : validB xs = false := by unfold validB; rw [decide_eq_false (by omega)]; simp
    rw [this] at hQ
    exact hQ
  · refine awp_loop (fun i : Nat => ⟨upd (upd (upd bot 10 (.val (.int .i64 i))) 9 (.val (.int .i64 xs.length))) 8 (.sl 0 0 xs.length 1 none), upd none' 0 (some ⟨false, .ints .i64 xs⟩), 1⟩) (fun i => i ≤ xs.length ∧ ∀ j, j < i → inB (xs.getD j 0) = true) (fun i => xs.length - i) 0 ⟨by omega, by omega⟩ ?_ ?_
    · (apply Wk.same; (case' h2 => (focus ((repeat' (with_reducible first | exact HeapX.bot | (apply HeapX.skip; (case hx => (simp; done))) | apply HeapX.none | apply HeapX.upd)); all_goals (first | rfl | exact Nat.le_of_ble_eq_true rfl | (simp only [St.set, St.ev, upd, ren, renL, id, Nat.reduceEqDiff, reduceIte, ContLe]; done) | (first | (simp only [St.set, St.ev, upd, ren, renL, id, Nat.reduceEqDiff, reduceIte]; exact contLe_nil) | ((repeat' (first | exact contLe_nil | refine contLe_cons (.inr ⟨?_, rfl⟩) ?_)); all_goals (first | rfl | (simp only [St.set, St.ev, upd, ren, renL, id, Nat.reduceEqDiff, reduceIte]; done) | ((try simp only [St.set, St.ev, upd, ren, renL, id, Nat.reduceEqDiff, reduceIte]); first | (with_reducible exact av_int (by omega)) | (with_reducible exact av_sl (by first | omega | (simp; done) | (simp; omega)) (by first | omega | (simp; done) | (simp; omega)))) | (simp only [St.set, St.ev, upd, ren, renL, id, Nat.reduceEqDiff, reduceIte, Int.natCast_add, Int.natCast_one, Int.cast_ofNat_Int, Int.natCast_zero]; done) | (simp only [St.set, St.ev, upd, ren, renL, id, Nat.reduceEqDiff, reduceIte]) | skip); done)) | (simp only [St.set, St.ev, upd, ren, renL, id, Nat.reduceEqDiff, reduceIte, ContLe]) | skip)))); (case' h1 => (focus ((repeat' (with_reducible first | exact TmpLe.bot | refine TmpLe.upd ?_ rfl ?_)); all_goals (first | rfl | (simp only [St.set, St.ev, upd, ren, renL, id, Nat.reduceEqDiff, reduceIte]; done) | ((try simp only [St.set, St.ev, upd, ren, renL, id, Nat.reduceEqDiff, reduceIte]); first | (with_reducible exact av_int (by omega)) | (with_reducible exact av_sl (by first | omega | (simp; done) | (simp; omega)) (by first | omega | (simp; done) | (simp; omega)))) | (simp only [St.set, St.ev, upd, ren, renL, id, Nat.reduceEqDiff, reduceIte, Int.natCast_add, Int.natCast_one, Int.cast_ofNat_Int, Int.natCast_zero]; done) | (simp only [St.set, St.ev, upd, ren, renL, id, Nat.reduceEqDiff, reduceIte]) | skip)))); (case h3 => (focus (first | (simp only [id, List.map_cons, List.map_nil]; decide) | decide | (simp; done) | (simp; omega) | fail))); (case h4 => (intro o l h; first | (cases h; done) | (have hlt0 := m0_lt (by assumption) h; first | omega | (simp only; omega) | exact ⟨by (first | rfl | (simp only [id]; done) | ((repeat rw [if_neg (by omega)]); done)), by first | omega | (simp only; omega)⟩))))
    · rintro i ⟨hi, hj⟩
      repeat' (first | refine awp_seq_k fun K hK => ?_ | ((with_reducible refine hK _ ?_); clear hK K) | (clear hK K; (with_reducible refine hK _ ?_); clear hK K) | (clear hK K; clear hK K; (with_reducible refine hK _ ?_); clear hK K) | (clear hK K; clear hK K; clear hK K; (with_reducible refine hK _ ?_); clear hK K) | (clear hK K; clear hK K; clear hK K; clear hK K; (with_reducible refine hK _ ?_); clear hK K) | (clear hK K; clear hK K; clear hK K; clear hK K; clear hK K; (with_reducible refine hK _ ?_); clear hK K) | ((with_reducible refine aord_plain fun K hK => ?_); simp only [go_sem, Nat.reduceAdd, Nat.reduceMul, Nat.reduceEqDiff, Nat.reduceLT, reduceIte, reduceCtorEq]) | ((with_reducible apply aord_guard); (focus (simp only [St.ev, St.set, upd, Nat.reduceEqDiff, reduceIte, if_false, if_true]; exact rfl)); all_goals (intro hb; (try simp only [Bool.not_true, Bool.not_false] at hb); first | (cases hb; done) | ((try rw [hb]); (try simp only [Bool.not_eq_true', Bool.not_eq_false', Bool.and_eq_true, decide_eq_true_eq, decide_eq_false_iff_not, beq_iff_eq, bne_iff_ne, beq_eq_false_iff_ne, bne_eq_false_iff_eq, Int.not_lt, Int.not_le] at hb); (try (revert hb; with_reducible refine true_imp_iff.2 ?_)); first | (intro K hK; simp only [go_sem, Nat.reduceAdd, Nat.reduceMul, Nat.reduceEqDiff, Nat.reduceLT, reduceIte, reduceCtorEq]) | (simp only [St.ev, St.set, upd, Nat.reduceEqDiff, reduceIte, if_false, if_true]) | skip))) | ((with_reducible apply aord_skip); (focus (simp only [St.ev, St.set, upd, Nat.reduceEqDiff, reduceIte, if_false, if_true]; done)); (simp only [St.ev, St.set, upd, Nat.reduceEqDiff, reduceIte, if_false, if_true])) | refine awp_block ?_ | ((first | with_reducible refine aord_nil ?_ | refine awp_skip ?_ | refine awp_exit ?_ | refine awp_ret ?_); try simp only [thenA_normal, thenA_exit, thenA_goto, thenA_ret, blockA_normal, blockA_same, blockA_exit, blockA_goto, blockA_ret, Nat.reduceEqDiff, if_false, if_true, reduceIte]) | (refine awp_region tabOk rfl ?_; simp only [prep, pickO, List.map_cons, List.map_nil, List.getElem?_toArray, List.getElem?_cons_succ, List.getElem?_cons_zero, Option.bind_some, Option.map_some]) | ((with_reducible apply awp_cond); (focus (simp only [St.ev, St.set, upd, Nat.reduceEqDiff, reduceIte, if_false, if_true]; exact rfl)); all_goals (intro hb; first | (cases hb; done) | ((try rw [hb]); (try simp only [decide_eq_true_eq, decide_eq_false_iff_not, beq_iff_eq, bne_iff_ne, beq_eq_false_iff_ne, bne_eq_false_iff_eq, Int.not_lt, Int.not_le, Bool.not_eq_true', Bool.not_eq_false'] at hb)))) | ((with_reducible refine And.intro ?_ ?_); (focus omega)) | ((with_reducible refine And.intro ?_ ?_); (focus (exact rfl))) | (with_reducible refine And.intro (fun hb => ?_) (fun hb => ?_)) | (exfalso; omega) | fail)
      · simp only [St.set, St.ev, doneQ, doneH, ressK, resK, wrapR, AV.ids, AV.idsL, retK, retsK, upd, Nat.reduceEqDiff, reduceIte, if_false, if_true, List.nodup_nil, List.nodup_cons, List.not_mem_nil, not_false_eq_true, true_and, and_true, exists_eq_left', Option.some.injEq, rLoad, cellOf, tab, Ty.isAgg, Ty.one, Bool.false_eq_true]
        rw [valid_not (i := i) (by omega) (by unfold inB; rw [decide_eq_false (by omega : ¬ xs.getD i 0 ≤ 99)]; simp)] at hQ
        exact hQ
      · refine ⟨i + 1, ⟨by omega, fun j h => ?_⟩, by omega, ?_⟩
        · rcases Nat.lt_or_ge j i with h1 | h1
          · exact hj j h1
          · have : j = i := by omega
            subst this
            unfold inB
            rw [decide_eq_true (by omega), decide_eq_true (by omega)]; rfl
        · (apply Wk.same; (case' h2 => (focus ((repeat' (with_reducible first | exact HeapX.bot | (apply HeapX.skip; (case hx => (simp; done))) | apply HeapX.none | apply HeapX.upd)); all_goals (first | rfl | exact Nat.le_of_ble_eq_true rfl | (simp only [St.set, St.ev, upd, ren, renL, id, Nat.reduceEqDiff, reduceIte, ContLe]; done) | (first | (simp only [St.set, St.ev, upd, ren, renL, id, Nat.reduceEqDiff, reduceIte]; exact contLe_nil) | ((repeat' (first | exact contLe_nil | refine contLe_cons (.inr ⟨?_, rfl⟩) ?_)); all_goals (first | rfl | (simp only [St.set, St.ev, upd, ren, renL, id, Nat.reduceEqDiff, reduceIte]; done) | ((try simp only [St.set, St.ev, upd, ren, renL, id, Nat.reduceEqDiff, reduceIte]); first | (with_reducible exact av_int (by omega)) | (with_reducible exact av_sl (by first | omega | (simp; done) | (simp; omega)) (by first | omega | (simp; done) | (simp; omega)))) | (simp only [St.set, St.ev, upd, ren, renL, id, Nat.reduceEqDiff, reduceIte, Int.natCast_add, Int.natCast_one, Int.cast_ofNat_Int, Int.natCast_zero]; done) | (simp only [St.set, St.ev, upd, ren, renL, id, Nat.reduceEqDiff, reduceIte]) | skip); done)) | (simp only [St.set, St.ev, upd, ren, renL, id, Nat.reduceEqDiff, reduceIte, ContLe]) | skip)))); (case' h1 => (focus ((repeat' (with_reducible first | exact TmpLe.bot | refine TmpLe.upd ?_ rfl ?_)); all_goals (first | rfl | (simp only [St.set, St.ev, upd, ren, renL, id, Nat.reduceEqDiff, reduceIte]; done) | ((try simp only [St.set, St.ev, upd, ren, renL, id, Nat.reduceEqDiff, reduceIte]); first | (with_reducible exact av_int (by omega)) | (with_reducible exact av_sl (by first | omega | (simp; done) | (simp; omega)) (by first | omega | (simp; done) | (simp; omega)))) | (simp only [St.set, St.ev, upd, ren, renL, id, Nat.reduceEqDiff, reduceIte, Int.natCast_add, Int.natCast_one, Int.cast_ofNat_Int, Int.natCast_zero]; done) | (simp only [St.set, St.ev, upd, ren, renL, id, Nat.reduceEqDiff, reduceIte]) | skip)))); (case h3 => (focus (first | (simp only [id, List.map_cons, List.map_nil]; decide) | decide | (simp; done) | (simp; omega) | fail))); (case h4 => (intro o l h; first | (cases h; done) | (have hlt0 := m0_lt (by assumption) h; first | omega | (simp only; omega) | exact ⟨by (first | rfl | (simp only [id]; done) | ((repeat rw [if_neg (by omega)]); done)), by first | omega | (simp only; omega)⟩))))
      · simp only [St.set, St.ev, doneQ, doneH, ressK, resK, wrapR, AV.ids, AV.idsL, retK, retsK, upd, Nat.reduceEqDiff, reduceIte, if_false, if_true, List.nodup_nil, List.nodup_cons, List.not_mem_nil, not_false_eq_true, true_and, and_true, exists_eq_left', Option.some.injEq, rLoad, cellOf, tab, Ty.isAgg, Ty.one, Bool.false_eq_true]
        rw [valid_not (i := i) (by omega) (by unfold inB; rw [decide_eq_false (by omega : ¬ -99 ≤ xs.getD i 0)]; simp)] at hQ
        exact hQ
      · simp only [St.set, St.ev, doneQ, doneH, ressK, resK, wrapR, AV.ids, AV.idsL, retK, retsK, upd, Nat.reduceEqDiff, reduceIte, if_false, if_true, List.nodup_nil, List.nodup_cons, List.not_mem_nil, not_false_eq_true, true_and, and_true, exists_eq_left', Option.some.injEq, rLoad, cellOf, tab, Ty.isAgg, Ty.one, Bool.false_eq_true]
        rw [valid_all (by omega) (fun j h => hj j (by omega))] at hQ
        exact hQ


/-- How many of the first k places ahead of which place i stands hold a lesser key than place i. -/
def invRow (xs : List Int) (i : Nat) : Nat → Int
  | 0 => 0
  | k + 1 => invRow xs i k + (if i < k ∧ xs.getD k 0 < xs.getD i 0 then 1 else 0)
/-- How many pairs with their first place under i stand the wrong way round. -/
def invTo (xs : List Int) : Nat → Int
  | 0 => 0
  | i + 1 => invTo xs i + invRow xs i xs.length
theorem valid_len {xs : List Int} (h : validB xs = true) : xs.length ≤ 8 := by unfold validB at h; simp only [Bool.and_eq_true, decide_eq_true_eq] at h; exact h.2
theorem invRow_low (xs : List Int) (i : Nat) : ∀ k, k ≤ i + 1 → invRow xs i k = 0
  | 0, _ => rfl
  | k + 1, h => by rw [invRow, invRow_low xs i k (by omega), if_neg (by omega)]; rfl
theorem invRow_step {xs : List Int} {i k : Nat} (h : i < k) (hh : xs.getD k 0 < xs.getD i 0) : invRow xs i (k + 1) = invRow xs i k + 1 := by rw [invRow, if_pos ⟨h, hh⟩]
theorem invRow_stay {xs : List Int} {i k : Nat} (hh : xs.getD i 0 ≤ xs.getD k 0) : invRow xs i (k + 1) = invRow xs i k := by rw [invRow, if_neg (by omega)]; omega


/-- How many of the first k places hold a key less than that of place i, or an equal one and are ahead of it. -/
def plC (xs : List Int) (i : Nat) : Nat → Int
  | 0 => 0
  | k + 1 => plC xs i k + (if xs.getD k 0 < xs.getD i 0 ∨ (xs.getD k 0 = xs.getD i 0 ∧ k < i) then 1 else 0)
def placesL (xs : List Int) : List Int := (List.range xs.length).map fun i => plC xs i xs.length
theorem plC_nonneg (xs : List Int) (i : Nat) : ∀ k, 0 ≤ plC xs i k
  | 0 => Int.le_refl 0
  | k + 1 => by have := plC_nonneg xs i k; rw [plC]; split <;> omega
theorem plC_le (xs : List Int) (i : Nat) : ∀ k, plC xs i k ≤ k
  | 0 => Int.le_refl 0
  | k + 1 => by have := plC_le xs i k; rw [plC]; split <;> omega
theorem plC_own (xs : List Int) (i : Nat) : ∀ k, i < k → plC xs i k + 1 ≤ k
  | k + 1, h => by
    rw [plC]
    rcases Nat.lt_or_ge i k with h1 | h1
    · have := plC_own xs i k h1; split <;> omega
    · have e : k = i := by omega
      subst e
      have := plC_le xs k k
      rw [if_neg (by omega)]
      omega
theorem plC_up {xs : List Int} {i k : Nat} (h : xs.getD k 0 < xs.getD i 0 ∨ (xs.getD k 0 = xs.getD i 0 ∧ k < i)) : plC xs i (k + 1) = plC xs i k + 1 := by rw [plC, if_pos h]
theorem plC_stay {xs : List Int} {i k : Nat} (h : ¬ (xs.getD k 0 < xs.getD i 0 ∨ (xs.getD k 0 = xs.getD i 0 ∧ k < i))) : plC xs i (k + 1) = plC xs i k := by rw [plC, if_neg h]; omega
theorem placesL_len (xs : List Int) : (placesL xs).length = xs.length := by simp [placesL]
theorem placesL_get {xs : List Int} {i : Nat} (h : i < xs.length) : (placesL xs).getD i 0 = plC xs i xs.length := by
  rw [List.getD_eq_getElem?_getD, List.getElem?_eq_getElem (by rw [placesL_len]; exact h)]
  simp [placesL]
theorem getD_app_lo {l m : List Int} {i : Nat} (h : i < l.length) : (l ++ m).getD i 0 = l.getD i 0 := by
  simp [List.getD_eq_getElem?_getD, List.getElem?_append_left h]
theorem getD_app_at {l : List Int} {a : Int} {i : Nat} (h : i = l.length) : (l ++ [a]).getD i 0 = a := by
  subst h; simp [List.getD_eq_getElem?_getD]


/-- The numbers that are laid into a list, from k on. -/
def marks (k : Int) (m : Nat) : List Int := (List.range m).map fun i => k + Int.ofNat i
theorem marks_len (k : Int) (m : Nat) : (marks k m).length = m := by simp [marks]
theorem marks_get {k : Int} {m i : Nat} (h : i < m) : (marks k m).getD i 0 = k + i := by
  rw [List.getD_eq_getElem?_getD, List.getElem?_eq_getElem (by rw [marks_len]; exact h)]
  simp [marks]

theorem set_step {ys : List Int} {f : Nat → Int} {i : Nat} {v : Int} (hi : i < ys.length) (hj : ∀ j, j < i → ys.getD j 0 = f j) (hv : v = f i) : ∀ j, j < i + 1 → (ys.set i v).getD j 0 = f j := fun j h => by
  rcases Nat.lt_or_ge j i with h1 | h1
  · rw [getD_set_ne' (by omega)]; exact hj j h1
  · rw [show j = i by omega, getD_set_same hi]; exact hv
theorem app_step {ys : List Int} {f : Nat → Int} {i : Nat} {v : Int} (hi : ys.length = i) (hj : ∀ j, j < i → ys.getD j 0 = f j) (hv : v = f i) : ∀ j, j < i + 1 → (ys ++ [v]).getD j 0 = f j := fun j h => by
  rcases Nat.lt_or_ge j i with h1 | h1
  · rw [getD_app_lo (by omega)]; exact hj j h1
  · rw [show j = i by omega, getD_app_at (by omega)]; exact hv
theorem all_step {p : Nat → Prop} {i : Nat} (hj : ∀ j, j < i → p j) (hv : p i) : ∀ j, j < i + 1 → p j := fun j h => by
  rcases Nat.lt_or_ge j i with h1 | h1
  · exact hj j h1
  · rw [show j = i by omega]; exact hv


theorem markIntS_sat : SatH Try.prog 46 (fun al h n K => ∃ (o len : Nat) (xs : List Int) (k : Int), al = [.sl o 0 len 1 none, .val (.int .i64 (k))] ∧ (h o = some ⟨true, .ints .i64 xs⟩) ∧ (len = xs.length) ∧ (0 ≤ k ∧ k ≤ 1000 ∧ xs.length ≤ 1099511627776) ∧ K (.val (.int .i64 ((k + xs.length)))) (upd h o (some ⟨true, .ints .i64 (marks k xs.length)⟩)) (n)) := by
  refine satH_intro tabOk Try.func46 rfl 19 rfl [.tmp 4] rfl ?_
  rintro F W h n al K0 ⟨o, len, xs, k, rfl, ho, hlx, hk, hQ⟩
  refine ⟨Nat.le_of_ble_eq_true rfl, fun m0 hm0 hcl hlt => ?_⟩
  simp only [initT]
  have hon := (hcl o _ ho).1
  subst hlx
  repeat' (first | refine awp_seq_k fun K hK => ?_ | ((with_reducible refine hK _ ?_); clear hK K) | (clear hK K; (with_reducible refine hK _ ?_); clear hK K) | (clear hK K; clear hK K; (with_reducible refine hK _ ?_); clear hK K) | (clear hK K; clear hK K; clear hK K; (with_reducible refine hK _ ?_); clear hK K) | (clear hK K; clear hK K; clear hK K; clear hK K; (with_reducible refine hK _ ?_); clear hK K) | (clear hK K; clear hK K; clear hK K; clear hK K; clear hK K; (with_reducible refine hK _ ?_); clear hK K) | ((with_reducible refine aord_plain fun K hK => ?_); simp only [go_sem, Nat.reduceAdd, Nat.reduceMul, Nat.reduceEqDiff, Nat.reduceLT, reduceIte, reduceCtorEq]) | refine awp_block ?_ | ((first | with_reducible refine aord_nil ?_ | refine awp_skip ?_ | refine awp_exit ?_ | refine awp_ret ?_); try simp only [thenA_normal, thenA_exit, thenA_goto, thenA_ret, blockA_normal, blockA_same, blockA_exit, blockA_goto, blockA_ret, Nat.reduceEqDiff, if_false, if_true, reduceIte]) | (refine awp_region tabOk rfl ?_; simp only [prep, pickO, List.map_cons, List.map_nil, List.getElem?_toArray, List.getElem?_cons_succ, List.getElem?_cons_zero, Option.bind_some, Option.map_some]) | ((with_reducible apply awp_cond); (focus (simp only [St.ev, St.set, upd, Nat.reduceEqDiff, reduceIte, if_false, if_true]; exact rfl)); all_goals (intro hb; first | (cases hb; done) | ((try rw [hb]); (try simp only [decide_eq_true_eq, decide_eq_false_iff_not, beq_iff_eq, bne_iff_ne, beq_eq_false_iff_ne, bne_eq_false_iff_eq, Int.not_lt, Int.not_le, Bool.not_eq_true', Bool.not_eq_false'] at hb)))) | ((with_reducible refine And.intro ?_ ?_); (focus omega)) | ((with_reducible refine And.intro ?_ ?_); (focus (exact rfl))) | (refine aStoreAll_ints (by simp only [St.ev, St.set, upd, Nat.reduceEqDiff, reduceIte, if_false, if_true]; exact rfl) ?_ ?_ ?_ ?_; (focus (first | rfl | omega | (simp; done) | (simp; omega) | (simp [szOf, tab]; done) | (simp [szOf, tab]; omega))); (focus (first | rfl | omega | (simp; done) | (simp; omega) | (simp [szOf, tab]; done) | (simp [szOf, tab]; omega))); (focus (first | rfl | omega | (simp; done) | (simp; omega) | (simp [szOf, tab]; done) | (simp [szOf, tab]; omega))); (try simp only [go_sem, Nat.reduceAdd, Nat.reduceMul, Nat.reduceEqDiff, Nat.reduceLT, reduceIte, reduceCtorEq])) | (simp only [doneH]; simp only [ressK, resK, wrapR, go_sem, Nat.reduceAdd, Nat.reduceMul, Nat.reduceEqDiff, Nat.reduceLT, reduceIte, reduceCtorEq]) | (refine aStoreAll_cells (by simp only [St.ev, St.set, upd, Nat.reduceEqDiff, reduceIte, if_false, if_true]; exact rfl) ?_ ?_ ?_ ?_ ?_; (focus (first | rfl | omega | (simp; done) | (simp; omega) | (simp [szOf, tab]; done) | (simp [szOf, tab]; omega))); (focus (first | rfl | omega | (simp; done) | (simp; omega) | (simp [szOf, tab]; done) | (simp [szOf, tab]; omega))); (focus (first | rfl | omega | (simp; done) | (simp; omega) | (simp [szOf, tab]; done) | (simp [szOf, tab]; omega))); (focus (first | rfl | (simp [AV.cell, Value.oneCell']; done))); (try simp only [go_sem, Nat.reduceAdd, Nat.reduceMul, Nat.reduceEqDiff, Nat.reduceLT, reduceIte, reduceCtorEq])) | (with_reducible refine And.intro (fun hb => ?_) (fun hb => ?_)) | (exfalso; omega) | fail)
  refine awp_loopE (α := (Nat) × (List Int)) (fun s p => ⟨(upd (upd (upd bot 0 (s.tmps 0)) 1 (.val (.int .i64 ((k + (p.1)))))) 5 (.val (.int .i64 ((p.1))))), (upd s.heap o (some ⟨true, .ints .i64 ((p.2))⟩)), s.next⟩) _ (fun p => by simp only [St.ev, St.set, upd, Nat.reduceEqDiff, reduceIte, if_false, if_true]; exact rfl) (fun p => ((p.1) ≤ xs.length) ∧ ((p.2).length = xs.length) ∧ (∀ j, j < (p.1) → (p.2).getD j 0 = k + j)) (fun p => xs.length - (p.1)) (0, xs) ?_ ?_ ?_
  · (try simp only); (refine ⟨?_, ?_, ?_⟩ <;> (first | omega | (simp only; omega) | rfl | (simp; done) | skip))
  · (apply Wk.over (id) n; (case' h2 => (focus ((repeat' (first | (with_reducible exact HeapX.bot) | (exact HeapX.base (by first | exact hcl | assumption) (by first | exact Nat.le_refl _ | omega | (simp only; omega)) (fun k hk => by first | rfl | (simp only [id]; done) | ((repeat rw [if_neg (by omega)]); done)) (by intro u hu hlt'; first | rfl | (simp only [List.mem_cons, List.not_mem_nil, or_false, not_or] at hu; first | (simp [upd, hu]; done) | (simp only [upd]; (repeat rw [if_neg (by omega)]))))) | (with_reducible (apply HeapX.skip; (case hx => (simp; done)))) | (with_reducible apply HeapX.none) | (with_reducible apply HeapX.old (by first | assumption | omega) (by first | exact Nat.le_refl _ | omega | (simp only; omega)) (by first | rfl | (simp only [id]; done) | ((repeat rw [if_neg (by omega)]); done))) | (with_reducible apply HeapX.upd))); all_goals (first | rfl | omega | assumption | exact Nat.le_of_ble_eq_true rfl | (simp only; omega) | (simp only [St.set, St.ev, upd, ren, renL, id, Nat.reduceEqDiff, reduceIte]; rfl) | (simp only [St.set, St.ev, upd, ren, renL, id, Nat.reduceEqDiff, reduceIte, ContLe]; done) | (first | (simp only [St.set, St.ev, upd, ren, renL, id, Nat.reduceEqDiff, reduceIte]; exact contLe_nil) | ((repeat' (first | exact contLe_nil | refine contLe_cons (.inr ⟨?_, rfl⟩) ?_ | exact contLe_refl (n0 := n) (fun k hk => by first | rfl | (simp only [id]; done) | ((repeat rw [if_neg (by omega)]); done)) (by first | exact Nat.le_refl _ | omega | (simp only; omega)) (by assumption))); all_goals (first | rfl | (simp only [St.set, St.ev, upd, ren, renL, id, Nat.reduceEqDiff, reduceIte]; done) | ((try simp only [St.set, St.ev, upd, ren, renL, id, Nat.reduceEqDiff, reduceIte]); first | (with_reducible exact av_int (by omega)) | (with_reducible exact av_sl (by first | omega | (simp; done) | (simp; omega)) (by first | omega | (simp; done) | (simp; omega)))) | (simp only [St.set, St.ev, upd, ren, renL, id, Nat.reduceEqDiff, reduceIte, Int.natCast_add, Int.natCast_one, Int.cast_ofNat_Int, Int.natCast_zero]; done) | (simp only [St.set, St.ev, upd, ren, renL, id, Nat.reduceEqDiff, reduceIte]) | skip); done)) | (simp only [St.set, St.ev, upd, ren, renL, id, Nat.reduceEqDiff, reduceIte, ContLe]) | skip)))); (case' h1 => (focus ((repeat' (with_reducible first | exact TmpLe.bot | refine TmpLe.upd ?_ (by first | rfl | (simp only [AV.lt, decide_eq_true_eq]; first | done | omega)) ?_)); all_goals (first | rfl | (simp only [St.set, St.ev, upd, ren, renL, id, Nat.reduceEqDiff, reduceIte]; done) | ((try simp only [St.set, St.ev, upd, ren, renL, id, Nat.reduceEqDiff, reduceIte]); first | (with_reducible exact av_int (by omega)) | (with_reducible exact av_sl (by first | omega | (simp; done) | (simp; omega)) (by first | omega | (simp; done) | (simp; omega)))) | (simp only [St.set, St.ev, upd, ren, renL, id, Nat.reduceEqDiff, reduceIte, Int.natCast_add, Int.natCast_one, Int.cast_ofNat_Int, Int.natCast_zero]; done) | (simp only [St.set, St.ev, upd, ren, renL, id, Nat.reduceEqDiff, reduceIte]) | skip)))); (case h3 => (focus (first | (simp only [id, List.map_cons, List.map_nil]; decide) | decide | (simp; done) | (simp; omega) | fail))); (case h5 => (intro d hd; first | (simp at hd; done) | (simp only [List.mem_cons, List.not_mem_nil, or_false] at hd; first | (simp only [id]; omega) | (split <;> omega) | ((repeat' split) <;> omega) | ((try simp only); repeat' split; all_goals omega)))); (case h4 => (intro o l h; first | (cases h; done) | (have hlt0 := m0_lt (by assumption) h; first | omega | (simp only; omega) | exact ⟨by (first | rfl | (simp only [id]; done) | ((repeat rw [if_neg (by omega)]); done)), by first | omega | (simp only; omega)⟩))))
  rintro ⟨i, ys⟩ ⟨hi, hl, hj⟩
  try simp only at hi hl hj
  repeat' (first | refine awp_seq_k fun K hK => ?_ | ((with_reducible refine hK _ ?_); clear hK K) | (clear hK K; (with_reducible refine hK _ ?_); clear hK K) | (clear hK K; clear hK K; (with_reducible refine hK _ ?_); clear hK K) | (clear hK K; clear hK K; clear hK K; (with_reducible refine hK _ ?_); clear hK K) | (clear hK K; clear hK K; clear hK K; clear hK K; (with_reducible refine hK _ ?_); clear hK K) | (clear hK K; clear hK K; clear hK K; clear hK K; clear hK K; (with_reducible refine hK _ ?_); clear hK K) | ((with_reducible refine aord_plain fun K hK => ?_); simp only [go_sem, Nat.reduceAdd, Nat.reduceMul, Nat.reduceEqDiff, Nat.reduceLT, reduceIte, reduceCtorEq]) | refine awp_block ?_ | ((first | with_reducible refine aord_nil ?_ | refine awp_skip ?_ | refine awp_exit ?_ | refine awp_ret ?_); try simp only [thenA_normal, thenA_exit, thenA_goto, thenA_ret, blockA_normal, blockA_same, blockA_exit, blockA_goto, blockA_ret, Nat.reduceEqDiff, if_false, if_true, reduceIte]) | (refine awp_region tabOk rfl ?_; simp only [prep, pickO, List.map_cons, List.map_nil, List.getElem?_toArray, List.getElem?_cons_succ, List.getElem?_cons_zero, Option.bind_some, Option.map_some]) | ((with_reducible apply awp_cond); (focus (simp only [St.ev, St.set, upd, Nat.reduceEqDiff, reduceIte, if_false, if_true]; exact rfl)); all_goals (intro hb; first | (cases hb; done) | ((try rw [hb]); (try simp only [decide_eq_true_eq, decide_eq_false_iff_not, beq_iff_eq, bne_iff_ne, beq_eq_false_iff_ne, bne_eq_false_iff_eq, Int.not_lt, Int.not_le, Bool.not_eq_true', Bool.not_eq_false'] at hb)))) | ((with_reducible refine And.intro ?_ ?_); (focus omega)) | ((with_reducible refine And.intro ?_ ?_); (focus (exact rfl))) | (refine aStoreAll_ints (by simp only [St.ev, St.set, upd, Nat.reduceEqDiff, reduceIte, if_false, if_true]; exact rfl) ?_ ?_ ?_ ?_; (focus (first | rfl | omega | (simp; done) | (simp; omega) | (simp [szOf, tab]; done) | (simp [szOf, tab]; omega))); (focus (first | rfl | omega | (simp; done) | (simp; omega) | (simp [szOf, tab]; done) | (simp [szOf, tab]; omega))); (focus (first | rfl | omega | (simp; done) | (simp; omega) | (simp [szOf, tab]; done) | (simp [szOf, tab]; omega))); (try simp only [go_sem, Nat.reduceAdd, Nat.reduceMul, Nat.reduceEqDiff, Nat.reduceLT, reduceIte, reduceCtorEq])) | (simp only [doneH]; simp only [ressK, resK, wrapR, go_sem, Nat.reduceAdd, Nat.reduceMul, Nat.reduceEqDiff, Nat.reduceLT, reduceIte, reduceCtorEq]) | (refine aStoreAll_cells (by simp only [St.ev, St.set, upd, Nat.reduceEqDiff, reduceIte, if_false, if_true]; exact rfl) ?_ ?_ ?_ ?_ ?_; (focus (first | rfl | omega | (simp; done) | (simp; omega) | (simp [szOf, tab]; done) | (simp [szOf, tab]; omega))); (focus (first | rfl | omega | (simp; done) | (simp; omega) | (simp [szOf, tab]; done) | (simp [szOf, tab]; omega))); (focus (first | rfl | omega | (simp; done) | (simp; omega) | (simp [szOf, tab]; done) | (simp [szOf, tab]; omega))); (focus (first | rfl | (simp [AV.cell, Value.oneCell']; done))); (try simp only [go_sem, Nat.reduceAdd, Nat.reduceMul, Nat.reduceEqDiff, Nat.reduceLT, reduceIte, reduceCtorEq])) | (with_reducible refine And.intro (fun hb => ?_) (fun hb => ?_)) | (exfalso; omega) | fail)
  · ((refine Exists.intro (i + 1, ys.set i (k + i)) ?_); (refine nxt ?_ ?_ ?_); (focus ((apply Wk.over (id) n; (case' h2 => (focus ((repeat' (first | (with_reducible exact HeapX.bot) | (exact HeapX.base (by first | exact hcl | assumption) (by first | exact Nat.le_refl _ | omega | (simp only; omega)) (fun k hk => by first | rfl | (simp only [id]; done) | ((repeat rw [if_neg (by omega)]); done)) (by intro u hu hlt'; first | rfl | (simp only [List.mem_cons, List.not_mem_nil, or_false, not_or] at hu; first | (simp [upd, hu]; done) | (simp only [upd]; (repeat rw [if_neg (by omega)]))))) | (with_reducible (apply HeapX.skip; (case hx => (simp; done)))) | (with_reducible apply HeapX.none) | (with_reducible apply HeapX.old (by first | assumption | omega) (by first | exact Nat.le_refl _ | omega | (simp only; omega)) (by first | rfl | (simp only [id]; done) | ((repeat rw [if_neg (by omega)]); done))) | (with_reducible apply HeapX.upd))); all_goals (first | rfl | omega | assumption | exact Nat.le_of_ble_eq_true rfl | (simp only; omega) | (simp only [St.set, St.ev, upd, ren, renL, id, Nat.reduceEqDiff, reduceIte]; rfl) | (simp only [St.set, St.ev, upd, ren, renL, id, Nat.reduceEqDiff, reduceIte, ContLe]; done) | (first | (simp only [St.set, St.ev, upd, ren, renL, id, Nat.reduceEqDiff, reduceIte]; exact contLe_nil) | ((repeat' (first | exact contLe_nil | refine contLe_cons (.inr ⟨?_, rfl⟩) ?_ | exact contLe_refl (n0 := n) (fun k hk => by first | rfl | (simp only [id]; done) | ((repeat rw [if_neg (by omega)]); done)) (by first | exact Nat.le_refl _ | omega | (simp only; omega)) (by assumption))); all_goals (first | rfl | (simp only [St.set, St.ev, upd, ren, renL, id, Nat.reduceEqDiff, reduceIte]; done) | ((try simp only [St.set, St.ev, upd, ren, renL, id, Nat.reduceEqDiff, reduceIte]); first | (with_reducible exact av_int (by omega)) | (with_reducible exact av_sl (by first | omega | (simp; done) | (simp; omega)) (by first | omega | (simp; done) | (simp; omega)))) | (simp only [St.set, St.ev, upd, ren, renL, id, Nat.reduceEqDiff, reduceIte, Int.natCast_add, Int.natCast_one, Int.cast_ofNat_Int, Int.natCast_zero]; done) | (simp only [St.set, St.ev, upd, ren, renL, id, Nat.reduceEqDiff, reduceIte]) | skip); done)) | (simp only [St.set, St.ev, upd, ren, renL, id, Nat.reduceEqDiff, reduceIte, ContLe]) | skip)))); (case' h1 => (focus ((repeat' (with_reducible first | exact TmpLe.bot | refine TmpLe.upd ?_ (by first | rfl | (simp only [AV.lt, decide_eq_true_eq]; first | done | omega)) ?_)); all_goals (first | rfl | (simp only [St.set, St.ev, upd, ren, renL, id, Nat.reduceEqDiff, reduceIte]; done) | ((try simp only [St.set, St.ev, upd, ren, renL, id, Nat.reduceEqDiff, reduceIte]); first | (with_reducible exact av_int (by omega)) | (with_reducible exact av_sl (by first | omega | (simp; done) | (simp; omega)) (by first | omega | (simp; done) | (simp; omega)))) | (simp only [St.set, St.ev, upd, ren, renL, id, Nat.reduceEqDiff, reduceIte, Int.natCast_add, Int.natCast_one, Int.cast_ofNat_Int, Int.natCast_zero]; done) | (simp only [St.set, St.ev, upd, ren, renL, id, Nat.reduceEqDiff, reduceIte]) | skip)))); (case h3 => (focus (first | (simp only [id, List.map_cons, List.map_nil]; decide) | decide | (simp; done) | (simp; omega) | fail))); (case h5 => (intro d hd; first | (simp at hd; done) | (simp only [List.mem_cons, List.not_mem_nil, or_false] at hd; first | (simp only [id]; omega) | (split <;> omega) | ((repeat' split) <;> omega) | ((try simp only); repeat' split; all_goals omega)))); (case h4 => (intro o l h; first | (cases h; done) | (have hlt0 := m0_lt (by assumption) h; first | omega | (simp only; omega) | exact ⟨by (first | rfl | (simp only [id]; done) | ((repeat rw [if_neg (by omega)]); done)), by first | omega | (simp only; omega)⟩)))))); (focus (first | omega | (simp only; omega) | (simp only [List.length_take]; omega) | (simp; done) | (simp; omega))); ((repeat' (with_reducible apply And.intro)) <;> (first | omega | (simp only; omega) | assumption | rfl | ((try simp only); first | (simp [hl]; done) | exact set_step (by omega) hj rfl) | skip)))
  · try simp only [St.set, St.ev, doneQ, doneH, ressK, resK, wrapR, AV.ids, AV.idsL, retK, retsK, upd, Nat.reduceEqDiff, reduceIte, if_false, if_true, List.nodup_nil, List.nodup_cons, List.not_mem_nil, not_false_eq_true, true_and, and_true, exists_eq_left', Option.some.injEq, rLoad, cellOf, tab, Ty.isAgg, Ty.one, Bool.false_eq_true]
    have : ys = marks k xs.length := ext_getD (by rw [marks_len]; exact hl) fun j h => by rw [hj j (by omega), marks_get (by omega)]
    subst this
    rw [show i = xs.length by omega]
    exact hQ

theorem take_marks {k : Int} {m : Nat} : (marks k m).take m = marks k m := List.take_of_length_le (by rw [marks_len]; exact Nat.le_refl _)


theorem heldIntS_sat : Sat Try.prog 52 (fun ds Q => ∃ (xs : List Int) (k : Int), ds = [.row (.ints .i64 (xs)), .val (.int .i64 (k))] ∧ (xs = marks k xs.length) ∧ (0 ≤ k ∧ k ≤ 1000 ∧ xs.length ≤ 1099511627776) ∧ Q (.val (.int .i64 ((k + xs.length))))) := by
  refine sat_intro tabOk Try.func52 rfl 21 rfl [.tmp 4] rfl ?_
  rintro ds Q W ⟨xs, k, rfl, he, hk, hQ⟩
  refine ⟨Nat.le_of_ble_eq_true rfl, ?_⟩
  simp only [initS, initT, mat.matL, mat, Cont.len]
  have hg : ∀ i, i < xs.length → xs.getD i 0 = k + i := fun i h => by rw [he]; exact marks_get h
  repeat' (first | refine awp_seq_k fun K hK => ?_ | ((with_reducible refine hK _ ?_); clear hK K) | (clear hK K; (with_reducible refine hK _ ?_); clear hK K) | (clear hK K; clear hK K; (with_reducible refine hK _ ?_); clear hK K) | (clear hK K; clear hK K; clear hK K; (with_reducible refine hK _ ?_); clear hK K) | (clear hK K; clear hK K; clear hK K; clear hK K; (with_reducible refine hK _ ?_); clear hK K) | (clear hK K; clear hK K; clear hK K; clear hK K; clear hK K; (with_reducible refine hK _ ?_); clear hK K) | ((with_reducible refine aord_plain fun K hK => ?_); simp only [go_sem, Nat.reduceAdd, Nat.reduceMul, Nat.reduceEqDiff, Nat.reduceLT, reduceIte, reduceCtorEq]) | refine awp_block ?_ | ((first | with_reducible refine aord_nil ?_ | refine awp_skip ?_ | refine awp_exit ?_ | refine awp_ret ?_); try simp only [thenA_normal, thenA_exit, thenA_goto, thenA_ret, blockA_normal, blockA_same, blockA_exit, blockA_goto, blockA_ret, Nat.reduceEqDiff, if_false, if_true, reduceIte]) | (refine awp_region tabOk rfl ?_; simp only [prep, pickO, List.map_cons, List.map_nil, List.getElem?_toArray, List.getElem?_cons_succ, List.getElem?_cons_zero, Option.bind_some, Option.map_some]) | ((with_reducible apply awp_cond); (focus (simp only [St.ev, St.set, upd, Nat.reduceEqDiff, reduceIte, if_false, if_true]; exact rfl)); all_goals (intro hb; first | (cases hb; done) | ((try rw [hb]); (try simp only [decide_eq_true_eq, decide_eq_false_iff_not, beq_iff_eq, bne_iff_ne, beq_eq_false_iff_ne, bne_eq_false_iff_eq, Int.not_lt, Int.not_le, Bool.not_eq_true', Bool.not_eq_false'] at hb)))) | ((with_reducible refine And.intro ?_ ?_); (focus omega)) | ((with_reducible refine And.intro ?_ ?_); (focus (exact rfl))) | (with_reducible refine And.intro (fun hb => ?_) (fun hb => ?_)) | (exfalso; omega) | fail)
  refine awp_loopE (α := Nat) (fun s p => ⟨(upd (upd (upd bot 0 (s.tmps 0)) 1 (.val (.int .i64 ((k + p))))) 5 (.val (.int .i64 (p)))), s.heap, s.next⟩) _ (fun p => by simp only [St.ev, St.set, upd, Nat.reduceEqDiff, reduceIte, if_false, if_true]; exact rfl) (fun p => (p ≤ xs.length)) (fun p => xs.length - p) (0) ?_ ?_ ?_
  · (try simp only); (refine ?_ <;> (first | omega | (simp only; omega) | rfl | (simp; done) | skip))
  · (apply Wk.same; (case' h2 => (focus ((repeat' (with_reducible first | exact HeapX.bot | (apply HeapX.skip; (case hx => (simp; done))) | apply HeapX.none | apply HeapX.upd)); all_goals (first | rfl | exact Nat.le_of_ble_eq_true rfl | (simp only [St.set, St.ev, upd, ren, renL, id, Nat.reduceEqDiff, reduceIte, ContLe]; done) | (first | (simp only [St.set, St.ev, upd, ren, renL, id, Nat.reduceEqDiff, reduceIte]; exact contLe_nil) | ((repeat' (first | exact contLe_nil | refine contLe_cons (.inr ⟨?_, rfl⟩) ?_)); all_goals (first | rfl | (simp only [St.set, St.ev, upd, ren, renL, id, Nat.reduceEqDiff, reduceIte]; done) | ((try simp only [St.set, St.ev, upd, ren, renL, id, Nat.reduceEqDiff, reduceIte]); first | (with_reducible exact av_int (by omega)) | (with_reducible exact av_sl (by first | omega | (simp; done) | (simp; omega)) (by first | omega | (simp; done) | (simp; omega)))) | (simp only [St.set, St.ev, upd, ren, renL, id, Nat.reduceEqDiff, reduceIte, Int.natCast_add, Int.natCast_one, Int.cast_ofNat_Int, Int.natCast_zero]; done) | (simp only [St.set, St.ev, upd, ren, renL, id, Nat.reduceEqDiff, reduceIte]) | skip); done)) | (simp only [St.set, St.ev, upd, ren, renL, id, Nat.reduceEqDiff, reduceIte, ContLe]) | skip)))); (case' h1 => (focus ((repeat' (with_reducible first | exact TmpLe.bot | refine TmpLe.upd ?_ rfl ?_)); all_goals (first | rfl | (simp only [St.set, St.ev, upd, ren, renL, id, Nat.reduceEqDiff, reduceIte]; done) | ((try simp only [St.set, St.ev, upd, ren, renL, id, Nat.reduceEqDiff, reduceIte]); first | (with_reducible exact av_int (by omega)) | (with_reducible exact av_sl (by first | omega | (simp; done) | (simp; omega)) (by first | omega | (simp; done) | (simp; omega)))) | (simp only [St.set, St.ev, upd, ren, renL, id, Nat.reduceEqDiff, reduceIte, Int.natCast_add, Int.natCast_one, Int.cast_ofNat_Int, Int.natCast_zero]; done) | (simp only [St.set, St.ev, upd, ren, renL, id, Nat.reduceEqDiff, reduceIte]) | skip)))); (case h3 => (focus (first | (simp only [id, List.map_cons, List.map_nil]; decide) | decide | (simp; done) | (simp; omega) | fail))); (case h4 => (intro o l h; first | (cases h; done) | (have hlt0 := m0_lt (by assumption) h; first | omega | (simp only; omega) | exact ⟨by (first | rfl | (simp only [id]; done) | ((repeat rw [if_neg (by omega)]); done)), by first | omega | (simp only; omega)⟩))))
  rintro i hi
  try simp only at hi
  have hgi := hg i
  repeat' (first | refine awp_seq_k fun K hK => ?_ | ((with_reducible refine hK _ ?_); clear hK K) | (clear hK K; (with_reducible refine hK _ ?_); clear hK K) | (clear hK K; clear hK K; (with_reducible refine hK _ ?_); clear hK K) | (clear hK K; clear hK K; clear hK K; (with_reducible refine hK _ ?_); clear hK K) | (clear hK K; clear hK K; clear hK K; clear hK K; (with_reducible refine hK _ ?_); clear hK K) | (clear hK K; clear hK K; clear hK K; clear hK K; clear hK K; (with_reducible refine hK _ ?_); clear hK K) | ((with_reducible refine aord_plain fun K hK => ?_); simp only [go_sem, Nat.reduceAdd, Nat.reduceMul, Nat.reduceEqDiff, Nat.reduceLT, reduceIte, reduceCtorEq]) | refine awp_block ?_ | ((first | with_reducible refine aord_nil ?_ | refine awp_skip ?_ | refine awp_exit ?_ | refine awp_ret ?_); try simp only [thenA_normal, thenA_exit, thenA_goto, thenA_ret, blockA_normal, blockA_same, blockA_exit, blockA_goto, blockA_ret, Nat.reduceEqDiff, if_false, if_true, reduceIte]) | (refine awp_region tabOk rfl ?_; simp only [prep, pickO, List.map_cons, List.map_nil, List.getElem?_toArray, List.getElem?_cons_succ, List.getElem?_cons_zero, Option.bind_some, Option.map_some]) | ((with_reducible apply awp_cond); (focus (simp only [St.ev, St.set, upd, Nat.reduceEqDiff, reduceIte, if_false, if_true]; exact rfl)); all_goals (intro hb; first | (cases hb; done) | ((try rw [hb]); (try simp only [decide_eq_true_eq, decide_eq_false_iff_not, beq_iff_eq, bne_iff_ne, beq_eq_false_iff_ne, bne_eq_false_iff_eq, Int.not_lt, Int.not_le, Bool.not_eq_true', Bool.not_eq_false'] at hb)))) | ((with_reducible refine And.intro ?_ ?_); (focus omega)) | ((with_reducible refine And.intro ?_ ?_); (focus (exact rfl))) | (with_reducible refine And.intro (fun hb => ?_) (fun hb => ?_)) | (exfalso; omega) | fail)
  · ((refine Exists.intro (i + 1) ?_); (refine nxt ?_ ?_ ?_); (focus ((apply Wk.same; (case' h2 => (focus ((repeat' (with_reducible first | exact HeapX.bot | (apply HeapX.skip; (case hx => (simp; done))) | apply HeapX.none | apply HeapX.upd)); all_goals (first | rfl | exact Nat.le_of_ble_eq_true rfl | (simp only [St.set, St.ev, upd, ren, renL, id, Nat.reduceEqDiff, reduceIte, ContLe]; done) | (first | (simp only [St.set, St.ev, upd, ren, renL, id, Nat.reduceEqDiff, reduceIte]; exact contLe_nil) | ((repeat' (first | exact contLe_nil | refine contLe_cons (.inr ⟨?_, rfl⟩) ?_)); all_goals (first | rfl | (simp only [St.set, St.ev, upd, ren, renL, id, Nat.reduceEqDiff, reduceIte]; done) | ((try simp only [St.set, St.ev, upd, ren, renL, id, Nat.reduceEqDiff, reduceIte]); first | (with_reducible exact av_int (by omega)) | (with_reducible exact av_sl (by first | omega | (simp; done) | (simp; omega)) (by first | omega | (simp; done) | (simp; omega)))) | (simp only [St.set, St.ev, upd, ren, renL, id, Nat.reduceEqDiff, reduceIte, Int.natCast_add, Int.natCast_one, Int.cast_ofNat_Int, Int.natCast_zero]; done) | (simp only [St.set, St.ev, upd, ren, renL, id, Nat.reduceEqDiff, reduceIte]) | skip); done)) | (simp only [St.set, St.ev, upd, ren, renL, id, Nat.reduceEqDiff, reduceIte, ContLe]) | skip)))); (case' h1 => (focus ((repeat' (with_reducible first | exact TmpLe.bot | refine TmpLe.upd ?_ rfl ?_)); all_goals (first | rfl | (simp only [St.set, St.ev, upd, ren, renL, id, Nat.reduceEqDiff, reduceIte]; done) | ((try simp only [St.set, St.ev, upd, ren, renL, id, Nat.reduceEqDiff, reduceIte]); first | (with_reducible exact av_int (by omega)) | (with_reducible exact av_sl (by first | omega | (simp; done) | (simp; omega)) (by first | omega | (simp; done) | (simp; omega)))) | (simp only [St.set, St.ev, upd, ren, renL, id, Nat.reduceEqDiff, reduceIte, Int.natCast_add, Int.natCast_one, Int.cast_ofNat_Int, Int.natCast_zero]; done) | (simp only [St.set, St.ev, upd, ren, renL, id, Nat.reduceEqDiff, reduceIte]) | skip)))); (case h3 => (focus (first | (simp only [id, List.map_cons, List.map_nil]; decide) | decide | (simp; done) | (simp; omega) | fail))); (case h4 => (intro o l h; first | (cases h; done) | (have hlt0 := m0_lt (by assumption) h; first | omega | (simp only; omega) | exact ⟨by (first | rfl | (simp only [id]; done) | ((repeat rw [if_neg (by omega)]); done)), by first | omega | (simp only; omega)⟩)))))); (focus (first | omega | (simp only; omega) | (simp only [List.length_take]; omega) | (simp; done) | (simp; omega))); ((repeat' (with_reducible apply And.intro)) <;> (first | omega | (simp only; omega) | assumption | rfl | (simp only))))
  · simp only [St.set, St.ev, doneQ, doneH, ressK, resK, wrapR, AV.ids, AV.idsL, retK, retsK, upd, Nat.reduceEqDiff, reduceIte, if_false, if_true, List.nodup_nil, List.nodup_cons, List.not_mem_nil, not_false_eq_true, true_and, and_true, exists_eq_left', Option.some.injEq, rLoad, cellOf, tab, Ty.isAgg, Ty.one, Bool.false_eq_true]
    rw [show i = xs.length by omega]
    exact hQ


/-! TreeDepths: the windows that keys fall through, and what a tree of them holds after the first keys: the side of node j holds the first later key in that side's window. -/
def tIn (w : Int × Int) (y : Int) : Prop := w.1 ≤ y ∧ y < w.2
instance {w y} : Decidable (tIn w y) := by unfold tIn; infer_instance
/-- The side of a key in its window. -/
def tSide (w : Int × Int) (c : Int) (l : Bool) : Int × Int := if l then (w.1, c) else (c, w.2)
/-- The window of x after the first keys. -/
def tWin (xs : List Int) (x : Int) : Nat → Int × Int
  | 0 => (-99, 100)
  | k + 1 => if tIn (tWin xs x k) (xs.getD k 0) then tSide (tWin xs x k) (xs.getD k 0) (decide (x < xs.getD k 0)) else tWin xs x k
/-- How many keys are met. -/
def tDep (xs : List Int) (x : Int) : Nat → Nat
  | 0 => 0
  | k + 1 => tDep xs x k + if tIn (tWin xs x k) (xs.getD k 0) then 1 else 0
/-- The last key that is met, and on which side of it. -/
def tLst (xs : List Int) (x : Int) : Nat → Option (Nat × Bool)
  | 0 => none
  | k + 1 => if tIn (tWin xs x k) (xs.getD k 0) then some (k, decide (x < xs.getD k 0)) else tLst xs x k
/-- The first key from k on, and ahead of n, that lies in a window. -/
def tNxt (xs : List Int) (w : Int × Int) (k : Nat) : Nat → Option Nat
  | 0 => none
  | n + 1 => match tNxt xs w k n with
    | some j => some j
    | none => if k ≤ n ∧ tIn w (xs.getD n 0) then some n else none
theorem tSide_sub {w : Int × Int} {c y : Int} {l : Bool} (hc : tIn w c) (h : tIn (tSide w c l) y) : tIn w y := by
  unfold tSide at h; unfold tIn at *; cases l <;> simp at h <;> omega
theorem tWin_sub {xs : List Int} {x y : Int} {k : Nat} (h : tIn (tWin xs x (k + 1)) y) : tIn (tWin xs x k) y := by
  rw [tWin] at h
  split at h
  · rename_i hc; exact tSide_sub hc h
  · exact h
theorem tWin_same {xs : List Int} {x y : Int} : ∀ {k : Nat}, tIn (tWin xs x k) y → tWin xs y k = tWin xs x k
  | 0, _ => rfl
  | k + 1, h => by
    have ih := tWin_same (tWin_sub h)
    rw [tWin, tWin, ih]
    split
    · rename_i hc
      rw [tWin, if_pos hc] at h
      congr 1
      unfold tSide tIn at h
      apply decide_eq_decide.2
      generalize xs.getD k 0 = c at *
      by_cases hx : x < c
      · rw [decide_eq_true hx, if_pos rfl] at h; simp only at h; omega
      · rw [decide_eq_false hx, if_neg (by decide)] at h; simp only at h; omega
    · rfl
theorem tWin_self {xs : List Int} {x : Int} (h : -99 ≤ x ∧ x ≤ 99) : ∀ k, tIn (tWin xs x k) x
  | 0 => by unfold tIn tWin; simp only; omega
  | k + 1 => by
    have ih := tWin_self (xs := xs) h k
    rw [tWin]
    split
    · unfold tSide tIn at *
      generalize xs.getD k 0 = c at *
      by_cases hx : x < c
      · rw [decide_eq_true hx, if_pos rfl]; simp only; omega
      · rw [decide_eq_false hx, if_neg (by decide)]; simp only; omega
    · exact ih
theorem tNxt_none {xs : List Int} {w : Int × Int} {k : Nat} : ∀ {n : Nat}, tNxt xs w k n = none → ∀ j, k ≤ j → j < n → ¬ tIn w (xs.getD j 0)
  | 0, _, j, _, h => by omega
  | n + 1, h, j, h1, h2 => by
    rw [tNxt] at h
    split at h
    · cases h
    · rename_i hn
      split at h
      · cases h
      · rename_i hc
        by_cases e : j = n
        · subst e; exact fun hw => hc ⟨h1, hw⟩
        · exact tNxt_none hn j h1 (by omega)
theorem tNxt_some {xs : List Int} {w : Int × Int} {k m : Nat} : ∀ {n : Nat}, tNxt xs w k n = some m → k ≤ m ∧ m < n ∧ tIn w (xs.getD m 0) ∧ ∀ j, k ≤ j → j < m → ¬ tIn w (xs.getD j 0)
  | 0, h => by cases h
  | n + 1, h => by
    rw [tNxt] at h
    split at h
    · rename_i j hj
      cases h
      obtain ⟨h1, h2, h3⟩ := tNxt_some hj
      exact ⟨h1, by omega, h3⟩
    · rename_i hn
      split at h
      · rename_i hc
        cases h
        exact ⟨hc.1, by omega, hc.2, fun j h1 h2 => tNxt_none hn j h1 h2⟩
      · cases h
theorem tSkip {xs : List Int} {x : Int} {k : Nat} : ∀ (d : Nat), (∀ j, k ≤ j → j < k + d → ¬ tIn (tWin xs x k) (xs.getD j 0)) → tWin xs x (k + d) = tWin xs x k ∧ tDep xs x (k + d) = tDep xs x k ∧ tLst xs x (k + d) = tLst xs x k
  | 0, _ => ⟨rfl, rfl, rfl⟩
  | d + 1, h => by
    obtain ⟨h1, h2, h3⟩ := tSkip d fun j a b => h j a (by omega)
    have hn : ¬ tIn (tWin xs x (k + d)) (xs.getD (k + d) 0) := by rw [h1]; exact h (k + d) (by omega) (by omega)
    rw [← Nat.add_assoc, tWin, tDep, tLst, if_neg hn, if_neg hn, if_neg hn]
    exact ⟨h1, h2, h3⟩
/-- One step of the walk: the next key that is met. -/
theorem tWalk_some {xs : List Int} {x : Int} {k n m : Nat} (h : tNxt xs (tWin xs x k) k n = some m) : k ≤ m ∧ m < n ∧ tDep xs x (m + 1) = tDep xs x k + 1 ∧ tWin xs x (m + 1) = tSide (tWin xs (xs.getD m 0) m) (xs.getD m 0) (decide (x < xs.getD m 0)) ∧ tLst xs x (m + 1) = some (m, decide (x < xs.getD m 0)) := by
  obtain ⟨h1, h2, h3, h4⟩ := tNxt_some h
  obtain ⟨s1, s2, s3⟩ := tSkip (xs := xs) (x := x) (k := k) (m - k) fun j a b => h4 j a (by omega)
  rw [show k + (m - k) = m by omega] at s1 s2 s3
  rw [← s1] at h3
  rw [tDep, tWin, tLst, if_pos h3, if_pos h3, if_pos h3, s2, tWin_same h3]
  exact ⟨h1, h2, rfl, rfl, rfl⟩
/-- The walk's end. -/
theorem tWalk_none {xs : List Int} {x : Int} {k n : Nat} (hk : k ≤ n) (h : tNxt xs (tWin xs x k) k n = none) : tDep xs x n = tDep xs x k ∧ tLst xs x n = tLst xs x k := by
  obtain ⟨s1, s2, s3⟩ := tSkip (xs := xs) (x := x) (k := k) (n - k) fun j a b => tNxt_none h j a (by omega)
  rw [show k + (n - k) = n by omega] at s1 s2 s3
  exact ⟨s2, s3⟩
/-- Where a new key is put: a side that would take it is the one where the walk ends. -/
theorem tPut_one {xs : List Int} {n j : Nat} {l : Bool} (hj : j < n) (hr : ∀ k, -99 ≤ xs.getD k 0 ∧ xs.getD k 0 ≤ 99) (hn : tNxt xs (tSide (tWin xs (xs.getD j 0) j) (xs.getD j 0) l) (j + 1) n = none)
    (hx : tIn (tSide (tWin xs (xs.getD j 0) j) (xs.getD j 0) l) (xs.getD n 0)) : tLst xs (xs.getD n 0) n = some (j, l) := by
  have hc := tWin_self (xs := xs) (hr j) j
  have hw := tWin_same (tSide_sub hc hx)
  have hl : decide (xs.getD n 0 < xs.getD j 0) = l := by
    unfold tSide tIn at hx
    cases l <;> simp at hx ⊢ <;> omega
  have hs : tWin xs (xs.getD n 0) (j + 1) = tSide (tWin xs (xs.getD j 0) j) (xs.getD j 0) l := by rw [tWin, hw, if_pos hc, hl]
  have := tWalk_none (xs := xs) (x := xs.getD n 0) (k := j + 1) (n := n) (by omega) (by rw [hs]; exact hn)
  rw [this.2, tLst, hw, if_pos hc, hl]
theorem tNxt_ge {xs : List Int} {w : Int × Int} {k : Nat} : ∀ {n : Nat}, n ≤ k → tNxt xs w k n = none
  | 0, _ => rfl
  | n + 1, h => by rw [tNxt, tNxt_ge (by omega)]; simp only; rw [if_neg (by omega)]
theorem tNxt_put {xs : List Int} {w : Int × Int} {k n : Nat} (h : tNxt xs w k n = none) (hk : k ≤ n) (hx : tIn w (xs.getD n 0)) : tNxt xs w k (n + 1) = some n := by
  rw [tNxt, h]; simp only; rw [if_pos ⟨hk, hx⟩]
theorem tNxt_old {xs : List Int} {w : Int × Int} {k n m : Nat} (h : tNxt xs w k n = some m) : tNxt xs w k (n + 1) = some m := by rw [tNxt, h]
/-- Every other side stays as it is. -/
theorem tNxt_keep {xs : List Int} {n j : Nat} {l : Bool} (hj : j < n) (hr : ∀ k, -99 ≤ xs.getD k 0 ∧ xs.getD k 0 ≤ 99) (hne : tLst xs (xs.getD n 0) n ≠ some (j, l)) :
    tNxt xs (tSide (tWin xs (xs.getD j 0) j) (xs.getD j 0) l) (j + 1) (n + 1) = tNxt xs (tSide (tWin xs (xs.getD j 0) j) (xs.getD j 0) l) (j + 1) n := by
  rcases hn : tNxt xs (tSide (tWin xs (xs.getD j 0) j) (xs.getD j 0) l) (j + 1) n with _ | m
  · rw [tNxt, hn]
    simp only
    rw [if_neg fun h => hne (tPut_one hj hr hn h.2)]
  · exact tNxt_old hn
/-- The root. -/
theorem tNxt_root {xs : List Int} (hr : ∀ k, -99 ≤ xs.getD k 0 ∧ xs.getD k 0 ≤ 99) : ∀ n, tNxt xs (-99, 100) 0 (n + 1) = some 0
  | 0 => tNxt_put rfl (Nat.le_refl _) (by have := hr 0; unfold tIn; simp only; omega)
  | n + 1 => tNxt_old (tNxt_root hr n)

theorem tStep_l {xs : List Int} {x : Int} {k : Nat} (h1 : (tWin xs x k).1 ≤ xs.getD k 0) (h2 : xs.getD k 0 < (tWin xs x k).2) (h3 : x < xs.getD k 0) : tDep xs x (k + 1) = tDep xs x k + 1 ∧ (tWin xs x (k + 1)).1 = (tWin xs x k).1 ∧ (tWin xs x (k + 1)).2 = xs.getD k 0 := by
  have hc : tIn (tWin xs x k) (xs.getD k 0) := ⟨h1, h2⟩
  rw [tDep, tWin, if_pos hc, if_pos hc, decide_eq_true h3, tSide, if_pos rfl]; exact ⟨rfl, rfl, rfl⟩
theorem tStep_r {xs : List Int} {x : Int} {k : Nat} (h1 : (tWin xs x k).1 ≤ xs.getD k 0) (h2 : xs.getD k 0 < (tWin xs x k).2) (h3 : xs.getD k 0 ≤ x) : tDep xs x (k + 1) = tDep xs x k + 1 ∧ (tWin xs x (k + 1)).1 = xs.getD k 0 ∧ (tWin xs x (k + 1)).2 = (tWin xs x k).2 := by
  have hc : tIn (tWin xs x k) (xs.getD k 0) := ⟨h1, h2⟩
  rw [tDep, tWin, if_pos hc, if_pos hc, decide_eq_false (by omega), tSide, if_neg (by decide)]; exact ⟨rfl, rfl, rfl⟩
theorem tStep_n {xs : List Int} {x : Int} {k : Nat} (h1 : ¬ ((tWin xs x k).1 ≤ xs.getD k 0 ∧ xs.getD k 0 < (tWin xs x k).2)) : tDep xs x (k + 1) = tDep xs x k ∧ (tWin xs x (k + 1)).1 = (tWin xs x k).1 ∧ (tWin xs x (k + 1)).2 = (tWin xs x k).2 := by
  have hc : ¬ tIn (tWin xs x k) (xs.getD k 0) := h1
  rw [tDep, tWin, if_neg hc, if_neg hc]; exact ⟨rfl, rfl, rfl⟩
theorem tDep_le {xs : List Int} {x : Int} : ∀ k, tDep xs x k ≤ k
  | 0 => Nat.le_refl _
  | k + 1 => by have := tDep_le (xs := xs) (x := x) k; rw [tDep]; split <;> omega
/-- How many keys each of the first keys meets. -/
def tdTo (xs : List Int) : Nat → List Int
  | 0 => []
  | i + 1 => tdTo xs i ++ [((tDep xs (xs.getD i 0) i : Nat) : Int)]
theorem tdTo_len (xs : List Int) : ∀ i, (tdTo xs i).length = i
  | 0 => rfl
  | i + 1 => by rw [tdTo, List.length_append, tdTo_len xs i]; rfl
theorem tValid_in {xs : List Int} (h : validB xs = true) : ∀ k, -99 ≤ xs.getD k 0 ∧ xs.getD k 0 ≤ 99 := fun k => by
  by_cases hk : k < xs.length
  · have h1 := (Bool.and_eq_true_iff.1 h).1
    have := List.all_eq_true.1 h1 (xs.getD k 0) (by rw [List.getD_eq_getElem?_getD, List.getElem?_eq_getElem hk]; exact List.getElem_mem hk)
    unfold inB at this
    simp only [Bool.and_eq_true, decide_eq_true_eq] at this
    omega
  · rw [List.getD_eq_getElem?_getD, List.getElem?_eq_none (by omega)]; simp


theorem tsb {f g : Nat → AV} {t0 : Nat} {v : AV} (h : ∀ t, f t = .any ∨ f t = g t) (hv : v = g t0) : ∀ t, upd f t0 v t = .any ∨ upd f t0 v t = g t := fun t => by
  unfold upd
  split
  · rename_i e; subst e; exact .inr hv
  · exact h t
theorem tsb0 {g : Nat → AV} : ∀ t, bot t = .any ∨ bot t = g t := fun _ => .inl rfl
theorem ds_set {xs : List Int} {i n : Nat} (h : i < n) : (tdTo xs i ++ List.replicate (n - i) (0 : Int)).set i ((tDep xs (xs.getD i 0) i : Nat) : Int) = tdTo xs (i + 1) ++ List.replicate (n - (i + 1)) 0 := by
  rw [List.set_append_right _ _ (by rw [tdTo_len]; exact Nat.le_refl _), tdTo_len, Nat.sub_self, show n - i = (n - (i + 1)) + 1 by omega, List.replicate_succ, List.set_cons_zero, tdTo, List.append_assoc]
  rfl
theorem ds_len {xs : List Int} {i n : Nat} (h : i ≤ n) : (tdTo xs i ++ List.replicate (n - i) (0 : Int)).length = n := by
  rw [List.length_append, tdTo_len, List.length_replicate]; omega


theorem aStoreAll_cells {tab : Tab} {h : Hp} {n : Nat} {t : TypeId} {o : Nat} {old al : List AV} {K : AV → Hp → Nat → Prop} (ho : h o = some ⟨true, .cells old⟩) (hl : old.length = al.length) (hp : 0 < al.length) (hsz : szOf tab t = some al.length) (hc : al.all AV.cell = true)
    (hK : K .any (upd h o (some ⟨true, .cells al⟩)) n) : ∃ c', aStoreAll tab h n t (.ref o 0) (.agg al) c' K :=
  ⟨.cells al, _, ho, rfl, rfl, rfl, hp, by simpa [Cont.flat] using hl, by simpa using hsz, hc, rfl, hK⟩
/-- A piece of code with labels, through which one goes without a goto. -/
def noGotoA (Q : Exit → St → Prop) : Exit → St → Prop
  | .goto _, _ => False
  | e, s => Q e s
theorem noGotoA_normal (Q : Exit → St → Prop) (s : St) : noGotoA Q .normal s = Q .normal s := rfl
theorem noGotoA_exit (Q : Exit → St → Prop) (s : St) (i : Nat) : noGotoA Q (.exit i) s = Q (.exit i) s := rfl
theorem noGotoA_ret (Q : Exit → St → Prop) (s : St) : noGotoA Q .ret s = Q .ret s := rfl
theorem awp_scope {P : Program} {Γ : Ctx} {nt : Nat} {Q : Exit → St → Prop} {s : St} {c : Code} (h : AWP Γ nt P c (noGotoA Q) s) : AWP Γ nt P (.scope c) Q s := fun m a w hs =>
  wp_scope_straight (wp_mono (h m a w hs) fun e a' w' ⟨m', s', h1, h2⟩ => by
    cases e <;> first | exact ⟨m', s', h1, h2⟩ | exact h2.elim)
def swp (xs : List Int) (a b : Nat) : List Int := (xs.set a (xs.getD b 0)).set b (xs.getD a 0)
theorem swp_len (xs : List Int) (a b : Nat) : (swp xs a b).length = xs.length := by simp [swp]
/-- A key goes ahead by steps: what is there, how often was asked, how often moved. -/
def insIn (st : Nat) (k : Nat) (xs : List Int) (a m : Int) : List Int × Int × Int :=
  if h : 0 < st ∧ st ≤ k then (if xs.getD (k - st) 0 ≤ xs.getD k 0 then (xs, a + 1, m) else insIn st (k - st) (swp xs (k - st) k) (a + 1) (m + 1)) else (xs, a, m)
termination_by k
decreasing_by omega
theorem insIn_end {st k : Nat} {xs : List Int} {a m : Int} (h : k < st) : insIn st k xs a m = (xs, a, m) := by rw [insIn, dif_neg (by omega)]
theorem insIn_stop {st k : Nat} {xs : List Int} {a m : Int} (h0 : 0 < st) (h : st ≤ k) (hle : xs.getD (k - st) 0 ≤ xs.getD k 0) : insIn st k xs a m = (xs, a + 1, m) := by rw [insIn, dif_pos ⟨h0, h⟩, if_pos hle]
theorem insIn_go {st k : Nat} {xs : List Int} {a m : Int} (h0 : 0 < st) (h : st ≤ k) (hle : xs.getD k 0 < xs.getD (k - st) 0) : insIn st k xs a m = insIn st (k - st) (swp xs (k - st) k) (a + 1) (m + 1) := by rw [insIn, dif_pos ⟨h0, h⟩, if_neg (by omega)]
theorem insIn_in {st : Nat} : ∀ (f k : Nat) (xs : List Int) (a m : Int), k < f → (insIn st k xs a m).1.length = xs.length ∧ a ≤ (insIn st k xs a m).2.1 ∧ (insIn st k xs a m).2.1 ≤ a + k + 1 ∧ m ≤ (insIn st k xs a m).2.2 ∧ (insIn st k xs a m).2.2 ≤ m + k + 1
  | 0, k, xs, a, m, h => by omega
  | f + 1, k, xs, a, m, h => by
    by_cases h1 : 0 < st ∧ st ≤ k
    · rcases Int.lt_or_le (xs.getD k 0) (xs.getD (k - st) 0) with h2 | h2
      · rw [insIn_go h1.1 h1.2 h2]
        have := insIn_in (st := st) f (k - st) (swp xs (k - st) k) (a + 1) (m + 1) (by omega)
        rw [swp_len] at this
        omega
      · rw [insIn_stop h1.1 h1.2 h2]
        exact ⟨rfl, by simp only; omega, by simp only; omega, by simp only; omega, by simp only; omega⟩
    · rw [insIn, dif_neg h1]
      exact ⟨rfl, by simp only; omega, by simp only; omega, by simp only; omega, by simp only; omega⟩
def insTo (st : Nat) (s : List Int × Int × Int) : Nat → List Int × Int × Int
  | 0 => s
  | j + 1 => insIn st (st + j) (insTo st s j).1 (insTo st s j).2.1 (insTo st s j).2.2
theorem insTo_in {st : Nat} {s : List Int × Int × Int} (hn : s.1.length ≤ 8) : ∀ j, st + j ≤ s.1.length ∨ j = 0 → (insTo st s j).1.length = s.1.length ∧ s.2.1 ≤ (insTo st s j).2.1 ∧ (insTo st s j).2.1 ≤ s.2.1 + 9 * j ∧ s.2.2 ≤ (insTo st s j).2.2 ∧ (insTo st s j).2.2 ≤ s.2.2 + 9 * j
  | 0, _ => by simp [insTo]
  | j + 1, h => by
    have ih := insTo_in (st := st) hn j (by omega)
    have := insIn_in (st := st) (st + j + 1) (st + j) (insTo st s j).1 (insTo st s j).2.1 (insTo st s j).2.2 (by omega)
    rw [insTo]
    omega


theorem aAppend_cells {tab : Tab} {h : Hp} {n : Nat} {t e : TypeId} {i : TI} {z : Value} {o p len kk : Nat} {lim : Option Nat} {rw2 : Bool} {xs ys : List AV} {K : AV → Hp → Nat → Prop} (hty : tyOf tab t = some (.slice e)) (hi : tab e = some i) (h1 : i.size = 1) (hz : i.zero = [z]) (hb : i.bytes ≤ 24)
    (hp : h p = some ⟨rw2, .cells ys⟩) (ho : h o = some ⟨true, .cells xs⟩) (hne : o ≠ p) (hl : xs.length = len) (hk : ys.length = kk) (hle : len + kk ≤ 1000)
    (hK : K (.sl n 0 (len + kk) 1 none) (upd (upd h o none) n (some ⟨true, .cells (xs ++ ys)⟩)) (n + 1)) : aAppend tab h n t (.sl o 0 len 1 none) (.sl p 0 kk 1 lim) K := by
  refine ⟨e, i, z, kk, .cells ys, hty, hi, h1, hz, .inl ⟨p, 0, lim, _, rfl, hp, ?_, ?_⟩, .inr ⟨o, len, _, .cells xs, _, rfl, ho, rfl, ?_, ?_, ?_, by omega, ?_, hK⟩⟩
  · simp [winOf, ← hk]
  · simp [Cont.flat, hk]
  · simp [Cont.flat, hl]
  · simp [winOf, ← hl]
  · simp [catOf]
  · have := Nat.mul_le_mul hle hb
    omega

/-- Slices of whole rows whose objects a function names. -/
def slsN (f : Nat → Nat) : Nat → List (List Int) → List AV
  | _, [] => []
  | k, x :: xs => .sl (f k) 0 x.length 1 none :: slsN f (k + 1) xs
theorem slsN_len {f : Nat → Nat} : ∀ {xss : List (List Int)} {b : Nat}, (slsN f b xss).length = xss.length
  | [], _ => rfl
  | x :: xs, b => by simp [slsN, slsN_len]
theorem slsN_app {f : Nat → Nat} : ∀ {xss yss : List (List Int)} {b : Nat}, slsN f b (xss ++ yss) = slsN f b xss ++ slsN f (b + xss.length) yss
  | [], _, _ => by simp [slsN]
  | x :: xs, yss, b => by rw [List.cons_append, slsN, slsN, slsN_app, List.cons_append, List.length_cons, show b + 1 + xs.length = b + (xs.length + 1) by omega]
theorem slsN_get {f : Nat → Nat} : ∀ {xss : List (List Int)} {b i : Nat}, i < xss.length → (slsN f b xss)[i]? = some (.sl (f (b + i)) 0 (xss.getD i []).length 1 none)
  | [], _, i, h => by simp at h
  | x :: xs, b, 0, _ => by simp [slsN]
  | x :: xs, b, i + 1, h => by
    rw [slsN, List.getElem?_cons_succ, slsN_get (by simpa using h), show b + 1 + i = b + (i + 1) by omega]
    simp
theorem slsN_lt {f : Nat → Nat} {n : Nat} : ∀ {xss : List (List Int)} {b : Nat}, (∀ i, i < xss.length → f (b + i) < n) → AV.ltL n (slsN f b xss) = true
  | [], _, _ => rfl
  | x :: xs, b, h => by
    have h0 := h 0 (by simp)
    simp only [slsN, AV.ltL, AV.lt, Bool.and_eq_true, decide_eq_true_eq]
    refine ⟨h0, slsN_lt fun i hi => ?_⟩
    have := h (i + 1) (by simp; omega)
    rw [show b + 1 + i = b + (i + 1) by omega]; exact this
theorem gat_slsN {h : Hp} {ik : IntKind} {f : Nat → Nat} : ∀ {xss : List (List Int)} {b : Nat}, (∀ i, i < xss.length → h (f (b + i)) = some ⟨true, .ints ik (xss.getD i [])⟩) → Gat h ik (slsN f b xss) ((List.range' b xss.length).map f) xss
  | [], _, _ => .nil
  | x :: xs, b, hh => by
    have h0 := hh 0 (by simp)
    simp only [Nat.add_zero, List.getD_cons_zero] at h0
    rw [slsN, List.length_cons, List.range'_succ, List.map_cons]
    refine .own h0 rfl (gat_slsN fun i hi => ?_)
    have := hh (i + 1) (by simp; omega)
    rw [show b + 1 + i = b + (i + 1) by omega]
    simpa using this
theorem gat_app {h : Hp} {ik : IntKind} {l l2 : List AV} {ps ps2 : List Nat} {xss yss : List (List Int)} (a : Gat h ik l ps xss) (b : Gat h ik l2 ps2 yss) : Gat h ik (l ++ l2) (ps ++ ps2) (xss ++ yss) := by
  induction a with
  | nil => exact b
  | own hp hl _ ih => exact .own hp hl ih
  | none _ ih => exact .none ih

/-- What comes back is a row of rows of one's own; of the caller's state only objects under n0 are kept. -/
theorem awp_gatherW {P : Program} {Γ : Ctx} {nt : Nat} {c : Code} {Q : Exit → St → Prop} {s : St} {h : Hp} {n0 o len : Nat} {ik : IntKind} {l : List AV} {ps : List Nat} {xss : List (List Int)} (t : Tmp) (ht : s.tmps t = .sl o 0 len 1 none) (ho : s.heap o = some ⟨true, .cells l⟩) (hg : Gat s.heap ik l ps xss) (hnd : (o :: ps).Nodup)
    (hn : n0 ≤ s.next) (hcl : HClosed h n0) (hm0 : ∀ u, n0 ≤ u → Γ.m0 u = none) (hps : ∀ p ∈ o :: ps, n0 ≤ p) (hsub : ∀ u ob, u < n0 → h u = some ob → s.heap u = some ob)
    (hK : AWP Γ nt P c Q ⟨upd bot t (.sl n0 0 len 1 none), upd h n0 (some ⟨true, .rows ik xss none⟩), n0 + 1⟩) : AWP Γ nt P c Q s := by
  refine awp_gather t o ht ho hg hnd (awp_weaken (Wk.over (dom := [n0]) (fun u => if u = n0 then s.next else u) n0 ?_ ?_ ?_ ?_ ?_) hK)
  · refine TmpLe.upd ?_ (by simp [AV.lt]) TmpLe.bot
    simp only [upd_same, ren, if_true]
  · refine HeapX.upd (c := .rows ik xss none) ?_ rfl (Nat.lt_succ_self _) (fun u ob' hx hu => ?_)
    · simp only [if_true, upd_same]
    · obtain ⟨a, b⟩ := hcl u ob' hu
      have hne : u ≠ n0 := by omega
      refine ⟨by show u < n0 + 1; omega, .inl ⟨a, if_neg hne⟩, ob', ?_, rfl, contLe_refl (fun k hk => if_neg (by omega)) (Nat.le_succ _) b⟩
      rw [if_neg hne]
      simp only
      rw [upd_ne _ _ (by omega), dropL, if_neg (fun hm => by have := hps u hm; omega)]
      exact hsub u ob' a hu
  · simp
  · intro d hd
    simp only [List.mem_singleton] at hd
    subst hd
    simpa using hn
  · intro u l hu
    have : u < n0 := by
      by_cases e : u < n0
      · exact e
      · rw [hm0 u (by omega)] at hu; cases hu
    exact ⟨if_neg (by omega), by show u < n0 + 1; omega⟩
theorem slsN_congr {f g : Nat → Nat} : ∀ {xss : List (List Int)} {b : Nat}, (∀ j, j < xss.length → f (b + j) = g (b + j)) → slsN f b xss = slsN g b xss
  | [], _, _ => rfl
  | x :: xs, b, h => by
    have h0 := h 0 (by simp)
    rw [Nat.add_zero] at h0
    have ih := slsN_congr (f := f) (g := g) (xss := xs) (b := b + 1) fun j hj => by
      have := h (j + 1) (by simp; omega)
      rw [show b + 1 + j = b + (j + 1) by omega]; exact this
    show AV.sl (f b) 0 x.length 1 none :: slsN f (b + 1) xs = AV.sl (g b) 0 x.length 1 none :: slsN g (b + 1) xs
    rw [h0, ih]
theorem slsN_set {f : Nat → Nat} {r : List Int} {m : Nat} : ∀ {xss : List (List Int)} {b k : Nat}, k < xss.length → (slsN f b xss).set k (.sl m 0 r.length 1 none) = slsN (fun j => if j = b + k then m else f j) b (xss.set k r)
  | [], _, _, h => by simp at h
  | x :: xs, b, 0, _ => by
    show AV.sl m 0 r.length 1 none :: slsN f (b + 1) xs = AV.sl (if b = b + 0 then m else f b) 0 r.length 1 none :: slsN (fun j => if j = b + 0 then m else f j) (b + 1) xs
    rw [if_pos (Nat.add_zero b).symm]
    congr 1
    exact slsN_congr fun j _ => by rw [if_neg (by omega)]
  | x :: xs, b, k + 1, h => by
    show AV.sl (f b) 0 x.length 1 none :: (slsN f (b + 1) xs).set k (.sl m 0 r.length 1 none) = AV.sl (if b = b + (k + 1) then m else f b) 0 x.length 1 none :: slsN (fun j => if j = b + (k + 1) then m else f j) (b + 1) (xs.set k r)
    rw [if_neg (by omega), slsN_set (by simpa using h)]
    congr 1
    exact slsN_congr fun j _ => by rw [show b + 1 + k = b + (k + 1) by omega]
/-- The pile that a key is put on: the first one whose last key is not greater. -/
def pilA : List (List Int) → Int → Nat
  | [], _ => 0
  | r :: xss, x => if r.getD (r.length - 1) 0 ≤ x then 0 else pilA xss x + 1
theorem pilA_le (x : Int) : ∀ xss, pilA xss x ≤ xss.length
  | [] => Nat.le_refl _
  | r :: xss => by have := pilA_le x xss; rw [pilA]; split <;> simp <;> omega
theorem pilA_is {x : Int} : ∀ {xss : List (List Int)} {k : Nat}, (∀ j, j < k → x < (xss.getD j []).getD ((xss.getD j []).length - 1) 0) → k ≤ xss.length → (k = xss.length ∨ (xss.getD k []).getD ((xss.getD k []).length - 1) 0 ≤ x) → pilA xss x = k
  | [], k, _, h, _ => by simp at h; subst h; rfl
  | r :: xss, 0, _, _, h3 => by
    rcases h3 with h3 | h3
    · simp at h3
    · rw [pilA, if_pos (by simpa using h3)]
  | r :: xss, k + 1, h1, h2, h3 => by
    have h0 := h1 0 (by omega)
    simp only [List.getD_cons_zero] at h0
    rw [pilA, if_neg (by omega), pilA_is (k := k) (fun j hj => by have := h1 (j + 1) (by omega); simpa using this) (by simpa using h2) (by rcases h3 with h3 | h3; exact .inl (by simpa using h3); exact .inr (by simpa using h3))]
def pilPut (xss : List (List Int)) (x : Int) : List (List Int) := if pilA xss x = xss.length then xss ++ [[x]] else xss.set (pilA xss x) (xss.getD (pilA xss x) [] ++ [x])
def pilTo (xs : List Int) : Nat → List (List Int)
  | 0 => []
  | i + 1 => pilPut (pilTo xs i) (xs.getD i 0)
theorem pilPut_new {xss : List (List Int)} {x : Int} (h : pilA xss x = xss.length) : pilPut xss x = xss ++ [[x]] := if_pos h
theorem pilPut_old {xss : List (List Int)} {x : Int} {k : Nat} (h : pilA xss x = k) (hk : k < xss.length) : pilPut xss x = xss.set k (xss.getD k [] ++ [x]) := by
  subst h; exact if_neg (by omega)
theorem pil_in {xs : List Int} : ∀ i, (pilTo xs i).length ≤ i ∧ ∀ j, j < (pilTo xs i).length → 1 ≤ ((pilTo xs i).getD j []).length ∧ ((pilTo xs i).getD j []).length ≤ i
  | 0 => ⟨Nat.le_refl _, fun j h => by simp [pilTo] at h⟩
  | i + 1 => by
    obtain ⟨h1, h2⟩ := pil_in (xs := xs) i
    have hle := pilA_le (xs.getD i 0) (pilTo xs i)
    rw [pilTo]
    by_cases e : pilA (pilTo xs i) (xs.getD i 0) = (pilTo xs i).length
    · rw [pilPut_new e]
      refine ⟨by simp; omega, fun j hj => ?_⟩
      by_cases c : j < (pilTo xs i).length
      · have : (pilTo xs i ++ [[xs.getD i 0]]).getD j [] = (pilTo xs i).getD j [] := by simp only [List.getD_eq_getElem?_getD]; rw [List.getElem?_append_left c]
        rw [this]; have := h2 j c; omega
      · have c2 : j = (pilTo xs i).length := by simp at hj; omega
        subst c2
        have : (pilTo xs i ++ [[xs.getD i 0]]).getD (pilTo xs i).length [] = [xs.getD i 0] := by simp [List.getD_eq_getElem?_getD]
        rw [this]; simp
    · rw [pilPut_old rfl (by omega)]
      refine ⟨by simp; omega, fun j hj => ?_⟩
      rw [List.length_set] at hj
      have hj2 := h2 j hj
      by_cases c : pilA (pilTo xs i) (xs.getD i 0) = j
      · rw [c, List.getD_eq_getElem?_getD, List.getElem?_set_self hj]
        simp only [Option.getD_some, List.length_append, List.length_singleton]; omega
      · rw [List.getD_eq_getElem?_getD, List.getElem?_set_ne c, ← List.getD_eq_getElem?_getD]; omega
/-- What is known of a heap that holds such rows. -/
structure RowsOf (H : Hp) (n O : Nat) (f : Nat → Nat) (xss : List (List Int)) : Prop where
  out : H O = some ⟨true, .cells (slsN f 0 xss)⟩
  outn : O < n
  row : ∀ j, j < xss.length → H (f j) = some ⟨true, .ints .i64 (xss.getD j [])⟩
  lt : ∀ j, j < xss.length → f j < n ∧ f j ≠ O
  inj : ∀ j l, j < xss.length → l < xss.length → f j = f l → j = l
theorem RowsOf.get {H : Hp} {n O : Nat} {f : Nat → Nat} {xss : List (List Int)} (h : RowsOf H n O f xss) {k : Nat} (hk : k < xss.length) : (slsN f 0 xss)[k]? = some (.sl (f k) 0 (xss.getD k []).length 1 none) := by
  have := slsN_get (f := f) (b := 0) hk
  rw [Nat.zero_add] at this; exact this
theorem RowsOf.gat {H : Hp} {n O : Nat} {f : Nat → Nat} {xss : List (List Int)} (h : RowsOf H n O f xss) : Gat H .i64 (slsN f 0 xss) ((List.range' 0 xss.length).map f) xss := gat_slsN fun j hj => by rw [Nat.zero_add]; exact h.row j hj
theorem RowsOf.nodup {H : Hp} {n O : Nat} {f : Nat → Nat} {xss : List (List Int)} (h : RowsOf H n O f xss) : (O :: (List.range' 0 xss.length).map f).Nodup := by
  refine List.nodup_cons.2 ⟨fun e => ?_, ?_⟩
  · obtain ⟨j, hj, e2⟩ := List.mem_map.1 e
    simp [List.mem_range'] at hj
    exact (h.lt j (by omega)).2 e2
  · refine List.pairwise_map.2 (List.Pairwise.imp_of_mem (fun {a b} ha hb hne e => hne ?_) (List.nodup_range' (s := 0) (n := xss.length)))
    simp [List.mem_range'] at ha hb
    exact h.inj a b (by omega) (by omega) e
theorem RowsOf.set {H G : Hp} {n O k : Nat} {f : Nat → Nat} {xss : List (List Int)} {x : Int} (h : RowsOf H n O f xss) (hk : k < xss.length) (gO : G O = some ⟨true, .cells ((slsN f 0 xss).set k (.sl (n + 1) 0 ((xss.getD k []).length + 1) 1 none))⟩) (gn : G (n + 1) = some ⟨true, .ints .i64 (xss.getD k [] ++ [x])⟩) (gk : ∀ u, u < n → u ≠ O → u ≠ f k → G u = H u) : RowsOf G (n + 2) O (fun j => if j = k then n + 1 else f j) (xss.set k (xss.getD k [] ++ [x])) := by
  have hOn := h.outn
  refine ⟨?_, by omega, fun j hj => ?_, fun j hj => ?_, fun j l hj hl e => ?_⟩
  · have := slsN_set (f := f) (r := xss.getD k [] ++ [x]) (m := n + 1) (b := 0) hk
    rw [List.length_append, List.length_singleton] at this
    rw [gO, this]
    simp only [Nat.zero_add]
  · rw [List.length_set] at hj
    by_cases c : j = k
    · subst c
      rw [if_pos rfl, gn, List.getD_eq_getElem?_getD (l := xss.set j _), List.getElem?_set_self hj]; rfl
    · rw [if_neg c, gk _ (h.lt j hj).1 (h.lt j hj).2 (fun e => c (h.inj j k hj hk e)), h.row j hj, List.getD_eq_getElem?_getD (l := xss.set k _), List.getElem?_set_ne (Ne.symm c), ← List.getD_eq_getElem?_getD]
  · rw [List.length_set] at hj
    have := h.lt j hj
    split <;> omega
  · rw [List.length_set] at hj hl
    have a := h.lt j hj
    have b := h.lt l hl
    by_cases c : j = k <;> by_cases d : l = k
    · omega
    · rw [if_pos c, if_neg d] at e; omega
    · rw [if_neg c, if_pos d] at e; omega
    · rw [if_neg c, if_neg d] at e; exact h.inj j l hj hl e
theorem RowsOf.push {H G : Hp} {n O : Nat} {f : Nat → Nat} {xss : List (List Int)} {r : List Int} {m nn : Nat} (h : RowsOf H n O f xss) (hm : n ≤ m) (hmn : m < nn) (gO : G (nn) = some ⟨true, .cells (slsN f 0 xss ++ [.sl m 0 r.length 1 none])⟩) (gn : G m = some ⟨true, .ints .i64 r⟩) (gk : ∀ u, u < n → u ≠ O → G u = H u) : RowsOf G (nn + 1) nn (fun j => if j = xss.length then m else f j) (xss ++ [r]) := by
  refine ⟨?_, by omega, fun j hj => ?_, fun j hj => ?_, fun j l hj hl e => ?_⟩
  · rw [gO, slsN_app, Nat.zero_add]
    have e1 : slsN f 0 xss = slsN (fun j => if j = xss.length then m else f j) 0 xss := slsN_congr fun j hj => by rw [if_neg (by omega)]
    rw [← e1]
    simp only [slsN, if_true]
  · simp only [List.length_append, List.length_singleton] at hj
    by_cases c : j = xss.length
    · subst c
      rw [if_pos rfl, gn]
      simp [List.getD_eq_getElem?_getD]
    · have hj2 : j < xss.length := by omega
      rw [if_neg c, gk _ (h.lt j hj2).1 (h.lt j hj2).2, h.row j hj2]
      simp only [List.getD_eq_getElem?_getD]; rw [List.getElem?_append_left hj2]
  · simp only [List.length_append, List.length_singleton] at hj
    by_cases c : j = xss.length
    · rw [if_pos c]; omega
    · rw [if_neg c]; have := h.lt j (by omega); omega
  · simp only [List.length_append, List.length_singleton] at hj hl
    by_cases c : j = xss.length <;> by_cases d : l = xss.length
    · omega
    · rw [if_pos c, if_neg d] at e; have := h.lt l (by omega); omega
    · rw [if_neg c, if_pos d] at e; have := h.lt j (by omega); omega
    · rw [if_neg c, if_neg d] at e; exact h.inj j l (by omega) (by omega) e
theorem RowsOf.push2 {H G : Hp} {n O m O2 N : Nat} {f : Nat → Nat} {xss : List (List Int)} {r : List Int} (h : RowsOf H n O f xss) (hm : n ≤ m) (hO2 : n ≤ O2) (hne : m ≠ O2) (hmN : m < N) (hON : O2 < N) (gO : G O2 = some ⟨true, .cells (slsN f 0 xss ++ [.sl m 0 r.length 1 none])⟩) (gn : G m = some ⟨true, .ints .i64 r⟩) (gk : ∀ u, u < n → u ≠ O → G u = H u) : RowsOf G N O2 (fun j => if j = xss.length then m else f j) (xss ++ [r]) := by
  refine ⟨?_, hON, fun j hj => ?_, fun j hj => ?_, fun j l hj hl e => ?_⟩
  · rw [gO, slsN_app, Nat.zero_add]
    have e1 : slsN f 0 xss = slsN (fun j => if j = xss.length then m else f j) 0 xss := slsN_congr fun j hj => by rw [if_neg (by omega)]
    rw [← e1]
    simp only [slsN, if_true]
  · simp only [List.length_append, List.length_singleton] at hj
    by_cases c : j = xss.length
    · subst c
      rw [if_pos rfl, gn]
      simp [List.getD_eq_getElem?_getD]
    · have hj2 : j < xss.length := by omega
      rw [if_neg c, gk _ (h.lt j hj2).1 (h.lt j hj2).2, h.row j hj2]
      simp only [List.getD_eq_getElem?_getD]; rw [List.getElem?_append_left hj2]
  · simp only [List.length_append, List.length_singleton] at hj
    by_cases c : j = xss.length
    · rw [if_pos c]; omega
    · rw [if_neg c]; have := h.lt j (by omega); omega
  · simp only [List.length_append, List.length_singleton] at hj hl
    by_cases c : j = xss.length <;> by_cases d : l = xss.length
    · omega
    · rw [if_pos c, if_neg d] at e; have := h.lt l (by omega); omega
    · rw [if_neg c, if_pos d] at e; have := h.lt j (by omega); omega
    · rw [if_neg c, if_neg d] at e; exact h.inj j l (by omega) (by omega) e


theorem specPiles_sat : Sat Try.prog 62 (fun ds Q => ∃ (xs : List Int), ds = [.row (.ints .i64 (xs))] ∧ (validB xs = true) ∧ Q (.row (.rows .i64 (pilTo xs xs.length) none))) := by
  refine sat_intro tabOk Try.func62 rfl 64 rfl [.tmp 2] rfl ?_
  rintro ds Q W ⟨xs, rfl, hv, hQ⟩
  refine ⟨Nat.le_of_ble_eq_true rfl, ?_⟩
  simp only [initS, initT, mat.matL, mat, Cont.len]
  have h8 := valid_len hv
  repeat' (first | refine awp_seq_k fun K hK => ?_ | ((with_reducible refine hK _ ?_); clear hK K) | (clear hK K; (with_reducible refine hK _ ?_); clear hK K) | (clear hK K; clear hK K; (with_reducible refine hK _ ?_); clear hK K) | (clear hK K; clear hK K; clear hK K; (with_reducible refine hK _ ?_); clear hK K) | (clear hK K; clear hK K; clear hK K; clear hK K; (with_reducible refine hK _ ?_); clear hK K) | (clear hK K; clear hK K; clear hK K; clear hK K; clear hK K; (with_reducible refine hK _ ?_); clear hK K) | ((with_reducible refine aord_plain fun K hK => ?_); simp only [go_sem, Nat.reduceAdd, Nat.reduceMul, Nat.reduceEqDiff, Nat.reduceLT, reduceIte, reduceCtorEq]) | ((with_reducible apply aord_guard); (focus (simp only [St.ev, St.set, upd, Nat.reduceEqDiff, reduceIte, if_false, if_true]; exact rfl)); all_goals (intro hb; (try simp only [Bool.not_true, Bool.not_false] at hb); first | (cases hb; done) | ((try rw [hb]); (try simp only [Bool.not_eq_true', Bool.not_eq_false', Bool.and_eq_true, decide_eq_true_eq, decide_eq_false_iff_not, beq_iff_eq, bne_iff_ne, beq_eq_false_iff_ne, bne_eq_false_iff_eq, Int.not_lt, Int.not_le] at hb); (try (revert hb; with_reducible refine true_imp_iff.2 ?_)); first | (intro K hK; simp only [go_sem, Nat.reduceAdd, Nat.reduceMul, Nat.reduceEqDiff, Nat.reduceLT, reduceIte, reduceCtorEq]) | (simp only [St.ev, St.set, upd, Nat.reduceEqDiff, reduceIte, if_false, if_true]) | skip))) | ((with_reducible apply aord_skip); (focus (simp only [St.ev, St.set, upd, Nat.reduceEqDiff, reduceIte, if_false, if_true]; done)); (simp only [St.ev, St.set, upd, Nat.reduceEqDiff, reduceIte, if_false, if_true])) | refine awp_block ?_ | ((first | with_reducible refine aord_nil ?_ | refine awp_skip ?_ | refine awp_exit ?_ | refine awp_ret ?_); try simp only [thenA_normal, thenA_exit, thenA_goto, thenA_ret, blockA_normal, blockA_same, blockA_exit, blockA_goto, blockA_ret, Nat.reduceEqDiff, if_false, if_true, reduceIte]) | (refine awp_region tabOk rfl ?_; simp only [prep, pickO, List.map_cons, List.map_nil, List.getElem?_toArray, List.getElem?_cons_succ, List.getElem?_cons_zero, Option.bind_some, Option.map_some]) | (refine awp_region_draw (nt := 64) (id := 6) tabOk [(0, true, false), (1, true, false), (2, true, false), (3, true, false), (4, true, false), (5, true, false), (6, true, false), (7, true, false), (8, true, false), (9, true, false), (10, true, false), (11, true, false), (12, true, false), (13, true, false), (14, true, false), (15, true, false), (16, true, false), (17, true, false), (18, true, false), (19, true, false), (20, true, false), (21, true, false), (22, true, false)] (by kernel_rfl) rfl (by kernel_rfl) ?_; simp only [prep, pickO, List.map_cons, List.map_nil, List.getElem?_toArray, List.getElem?_cons_succ, List.getElem?_cons_zero, Option.bind_some, Option.map_some]) | (refine awp_region_draw (nt := 64) (id := 10) tabOk [(0, true, false), (1, true, false), (2, true, false), (3, true, false), (4, true, false), (5, true, false), (6, true, false), (7, true, false), (8, true, false), (9, true, false), (10, false, false), (11, false, true), (12, true, false), (13, false, false)] (by kernel_rfl) rfl (by kernel_rfl) ?_; simp only [prep, pickO, List.map_cons, List.map_nil, List.getElem?_toArray, List.getElem?_cons_succ, List.getElem?_cons_zero, Option.bind_some, Option.map_some]) | ((with_reducible apply awp_cond); (focus (simp only [St.ev, St.set, upd, Nat.reduceEqDiff, reduceIte, if_false, if_true]; exact rfl)); all_goals (intro hb; first | (cases hb; done) | ((try rw [hb]); (try simp only [decide_eq_true_eq, decide_eq_false_iff_not, beq_iff_eq, bne_iff_ne, beq_eq_false_iff_ne, bne_eq_false_iff_eq, Int.not_lt, Int.not_le, Bool.not_eq_true', Bool.not_eq_false'] at hb)))) | ((with_reducible refine And.intro ?_ ?_); (focus omega)) | ((with_reducible refine And.intro ?_ ?_); (focus (exact rfl))) | (refine aAppend_ints rfl rfl rfl rfl (Nat.le_of_ble_eq_true rfl) (by simp only [St.ev, St.set, upd, Nat.reduceEqDiff, reduceIte, if_false, if_true]; exact rfl) (by simp only [St.ev, St.set, upd, Nat.reduceEqDiff, reduceIte, if_false, if_true]; exact rfl) rfl (by first | decide | omega | (simp; done) | fail) ?_ ?_ ?_ ?_; (focus (first | rfl | omega | (simp; done) | (simp; omega) | (simp [szOf, tab]; done) | (simp [szOf, tab]; omega))); (focus (first | rfl | omega | (simp; done) | (simp; omega) | (simp [szOf, tab]; done) | (simp [szOf, tab]; omega))); (focus (first | rfl | omega | (simp; done) | (simp; omega) | (simp [szOf, tab]; done) | (simp [szOf, tab]; omega))); (try simp only [go_sem, Nat.reduceAdd, Nat.reduceMul, Nat.reduceEqDiff, Nat.reduceLT, reduceIte, reduceCtorEq])) | (refine aAppend_none rfl rfl rfl rfl (Nat.le_of_ble_eq_true rfl) (by simp only [St.ev, St.set, upd, Nat.reduceEqDiff, reduceIte, if_false, if_true]; exact rfl) ?_ ?_ ?_; (focus (first | rfl | omega | (simp; done) | (simp; omega) | (simp [szOf, tab]; done) | (simp [szOf, tab]; omega))); (focus (first | rfl | omega | (simp; done) | (simp; omega) | (simp [szOf, tab]; done) | (simp [szOf, tab]; omega))); (try simp only [go_sem, Nat.reduceAdd, Nat.reduceMul, Nat.reduceEqDiff, Nat.reduceLT, reduceIte, reduceCtorEq])) | (refine aAppend_row rfl rfl rfl rfl (Nat.le_of_ble_eq_true rfl) (by simp only [St.ev, St.set, upd, Nat.reduceEqDiff, reduceIte, if_false, if_true]; exact rfl) (by simp only [St.ev, St.set, upd, Nat.reduceEqDiff, reduceIte, if_false, if_true]; exact rfl) rfl ?_ ?_ ?_ ?_ ?_; (focus (first | rfl | omega | (simp; done) | (simp; omega) | (simp [szOf, tab]; done) | (simp [szOf, tab]; omega))); (focus (first | rfl | omega | (simp; done) | (simp; omega) | (simp [szOf, tab]; done) | (simp [szOf, tab]; omega))); (focus (first | rfl | omega | (simp; done) | (simp; omega) | (simp [szOf, tab]; done) | (simp [szOf, tab]; omega))); (focus (first | rfl | omega | (simp; done) | (simp; omega) | (simp [szOf, tab]; done) | (simp [szOf, tab]; omega))); (try simp only [go_sem, Nat.reduceAdd, Nat.reduceMul, Nat.reduceEqDiff, Nat.reduceLT, reduceIte, reduceCtorEq])) | (simp only [aAppendZ, go_sem, Nat.reduceAdd, Nat.reduceMul, Nat.reduceEqDiff, Nat.reduceLT, reduceIte, reduceCtorEq]) | (refine aStoreAll_ints (by simp only [St.ev, St.set, upd, Nat.reduceEqDiff, reduceIte, if_false, if_true]; exact rfl) ?_ ?_ ?_ ?_; (focus (first | rfl | omega | (simp; done) | (simp; omega) | (simp [szOf, tab]; done) | (simp [szOf, tab]; omega))); (focus (first | rfl | omega | (simp; done) | (simp; omega) | (simp [szOf, tab]; done) | (simp [szOf, tab]; omega))); (focus (first | rfl | omega | (simp; done) | (simp; omega) | (simp [szOf, tab]; done) | (simp [szOf, tab]; omega))); (try simp only [go_sem, Nat.reduceAdd, Nat.reduceMul, Nat.reduceEqDiff, Nat.reduceLT, reduceIte, reduceCtorEq])) | (refine aStoreAll_cells (by simp only [St.ev, St.set, upd, Nat.reduceEqDiff, reduceIte, if_false, if_true]; exact rfl) ?_ ?_ ?_ ?_ ?_; (focus (first | rfl | omega | (simp; done) | (simp; omega) | (simp [szOf, tab]; done) | (simp [szOf, tab]; omega))); (focus (first | rfl | omega | (simp; done) | (simp; omega) | (simp [szOf, tab]; done) | (simp [szOf, tab]; omega))); (focus (first | rfl | omega | (simp; done) | (simp; omega) | (simp [szOf, tab]; done) | (simp [szOf, tab]; omega))); (focus (first | rfl | (simp [AV.cell, Value.oneCell']; done))); (try simp only [go_sem, Nat.reduceAdd, Nat.reduceMul, Nat.reduceEqDiff, Nat.reduceLT, reduceIte, reduceCtorEq])) | (with_reducible refine And.intro (fun hb => ?_) (fun hb => ?_)) | (exfalso; omega) | fail)
  refine awp_loop (fun p : Hp × Nat × Nat × (Nat → Nat) × Nat => ⟨upd (upd (upd bot 4 (.val (.int .i64 p.2.2.2.2))) 3 (.sl p.2.2.1 0 (pilTo xs p.2.2.2.2).length 1 none)) 0 (.sl 0 0 xs.length 1 none), p.1, p.2.1⟩) (fun p => p.2.2.2.2 ≤ xs.length ∧ p.1 0 = some ⟨false, .ints .i64 xs⟩ ∧ p.2.2.1 ≠ 0 ∧ RowsOf p.1 p.2.1 p.2.2.1 p.2.2.2.1 (pilTo xs p.2.2.2.2) ∧ ∀ j, j < (pilTo xs p.2.2.2.2).length → p.2.2.2.1 j ≠ 0) (fun p => xs.length - p.2.2.2.2) (upd (upd none' 0 (some ⟨false, .ints .i64 xs⟩)) 1 (some ⟨true, .cells []⟩), 2, 1, fun _ => 0, 0) ⟨Nat.zero_le _, rfl, Nat.one_ne_zero, ⟨rfl, Nat.lt_succ_self 1, fun j h => by simp [pilTo] at h, fun j h => by simp [pilTo] at h, fun j l h => by simp [pilTo] at h⟩, fun j h => by simp [pilTo] at h⟩ ?_ ?_
  · exact Wk.sub (tsb (tsb (tsb tsb0 rfl) rfl) rfl) (fun _ _ h => h) rfl
  rintro ⟨H, n, O, f, i⟩ ⟨hi, H0, hO0, hR, hf0⟩
  dsimp only at hi H0 hO0 hR hf0 ⊢
  obtain ⟨hpl, hpr⟩ := pil_in (xs := xs) i
  have hup : pilTo xs (i + 1) = pilPut (pilTo xs i) (xs.getD i 0) := rfl
  obtain ⟨xss, hxss⟩ : ∃ xss, pilTo xs i = xss := ⟨_, rfl⟩
  rw [hxss] at hR hf0 hpl hpr hup ⊢
  have hO := hR.out
  have hOn := hR.outn
  have hn0 : 0 < n := by omega
  have m1 : (0 = n) = False := eq_false (by omega)
  have m2 : ∀ k, (0 = n + k) = False := fun k => eq_false (by omega)
  have m3 : (n = 0) = False := eq_false (by omega)
  have m4 : ∀ k, (n + k = 0) = False := fun k => eq_false (by omega)
  have m5 : (O = n) = False := eq_false (by omega)
  have m6 : ∀ k, (O = n + k) = False := fun k => eq_false (by omega)
  have m7 : (n = O) = False := eq_false (by omega)
  have m8 : ∀ k, (n + k = O) = False := fun k => eq_false (by omega)
  have m9 : (O = 0) = False := eq_false hO0
  have ma : (0 = O) = False := eq_false (Ne.symm hO0)
  have hNm := And.intro H0 (And.intro hO (And.intro m1 (And.intro m2 (And.intro m3 (And.intro m4 (And.intro m5 (And.intro m6 (And.intro m7 (And.intro m8 (And.intro m9 ma))))))))))
  have hsl := @slsN_len f xss 0


  repeat' ((fail_if_success (with_reducible refine isRetQ ?_)); (first | refine awp_seq_k fun K hK => ?_ | ((with_reducible refine hK _ ?_); clear hK K) | (clear hK K; (with_reducible refine hK _ ?_); clear hK K) | (clear hK K; clear hK K; (with_reducible refine hK _ ?_); clear hK K) | (clear hK K; clear hK K; clear hK K; (with_reducible refine hK _ ?_); clear hK K) | (clear hK K; clear hK K; clear hK K; clear hK K; (with_reducible refine hK _ ?_); clear hK K) | (clear hK K; clear hK K; clear hK K; clear hK K; clear hK K; (with_reducible refine hK _ ?_); clear hK K) | ((with_reducible refine aord_plain fun K hK => ?_); simp only [go_sem, Nat.reduceAdd, Nat.reduceMul, Nat.reduceEqDiff, Nat.reduceLT, reduceIte, reduceCtorEq, hNm, Nat.add_eq_left, Nat.left_eq_add, Nat.add_assoc, Nat.reduceAdd, if_false, if_true, hNm, hsl]) | ((with_reducible apply aord_guard); (focus (simp only [St.ev, St.set, upd, Nat.reduceEqDiff, reduceIte, if_false, if_true, hNm, Nat.add_eq_left, Nat.left_eq_add, Nat.add_assoc, Nat.reduceAdd, if_false, if_true]; exact rfl)); all_goals (intro hb; (try simp only [Bool.not_true, Bool.not_false] at hb); first | (cases hb; done) | ((try rw [hb]); (try simp only [Bool.not_eq_true', Bool.not_eq_false', Bool.and_eq_true, decide_eq_true_eq, decide_eq_false_iff_not, beq_iff_eq, bne_iff_ne, beq_eq_false_iff_ne, bne_eq_false_iff_eq, Int.not_lt, Int.not_le] at hb); (try (revert hb; with_reducible refine true_imp_iff.2 ?_)); first | (intro K hK; simp only [go_sem, Nat.reduceAdd, Nat.reduceMul, Nat.reduceEqDiff, Nat.reduceLT, reduceIte, reduceCtorEq, hNm, Nat.add_eq_left, Nat.left_eq_add, Nat.add_assoc, Nat.reduceAdd, if_false, if_true]) | (simp only [St.ev, St.set, upd, Nat.reduceEqDiff, reduceIte, if_false, if_true, hNm, Nat.add_eq_left, Nat.left_eq_add, Nat.add_assoc, Nat.reduceAdd, if_false, if_true]) | skip))) | ((with_reducible apply aord_skip); (focus (simp only [St.ev, St.set, upd, Nat.reduceEqDiff, reduceIte, if_false, if_true, hNm, Nat.add_eq_left, Nat.left_eq_add, Nat.add_assoc, Nat.reduceAdd, if_false, if_true]; done)); (simp only [St.ev, St.set, upd, Nat.reduceEqDiff, reduceIte, if_false, if_true, hNm, Nat.add_eq_left, Nat.left_eq_add, Nat.add_assoc, Nat.reduceAdd, if_false, if_true])) | refine awp_block ?_ | ((first | with_reducible refine aord_nil ?_ | refine awp_skip ?_ | refine awp_exit ?_ | refine awp_ret ?_); try simp only [thenA_normal, thenA_exit, thenA_goto, thenA_ret, blockA_normal, blockA_same, blockA_exit, blockA_goto, blockA_ret, Nat.reduceEqDiff, if_false, if_true, reduceIte]) | (refine awp_region tabOk rfl ?_; simp only [prep, pickO, List.map_cons, List.map_nil, List.getElem?_toArray, List.getElem?_cons_succ, List.getElem?_cons_zero, Option.bind_some, Option.map_some]) | (refine awp_region_draw (nt := 64) (id := 6) tabOk [(0, true, false), (1, true, false), (2, true, false), (3, true, false), (4, true, false), (5, true, false), (6, true, false), (7, true, false), (8, true, false), (9, true, false), (10, true, false), (11, true, false), (12, true, false), (13, true, false), (14, true, false), (15, true, false), (16, true, false), (17, true, false), (18, true, false), (19, true, false), (20, true, false), (21, true, false), (22, true, false)] (by kernel_rfl) rfl (by kernel_rfl) ?_; simp only [prep, pickO, List.map_cons, List.map_nil, List.getElem?_toArray, List.getElem?_cons_succ, List.getElem?_cons_zero, Option.bind_some, Option.map_some]) | (refine awp_region_draw (nt := 64) (id := 10) tabOk [(0, true, false), (1, true, false), (2, true, false), (3, true, false), (4, true, false), (5, true, false), (6, true, false), (7, true, false), (8, true, false), (9, true, false), (10, false, false), (11, false, true), (12, true, false), (13, false, false)] (by kernel_rfl) rfl (by kernel_rfl) ?_; simp only [prep, pickO, List.map_cons, List.map_nil, List.getElem?_toArray, List.getElem?_cons_succ, List.getElem?_cons_zero, Option.bind_some, Option.map_some]) | ((with_reducible apply awp_cond); (focus (simp only [St.ev, St.set, upd, Nat.reduceEqDiff, reduceIte, if_false, if_true, hNm, Nat.add_eq_left, Nat.left_eq_add, Nat.add_assoc, Nat.reduceAdd, if_false, if_true]; exact rfl)); all_goals (intro hb; first | (cases hb; done) | ((try rw [hb]); (try simp only [decide_eq_true_eq, decide_eq_false_iff_not, beq_iff_eq, bne_iff_ne, beq_eq_false_iff_ne, bne_eq_false_iff_eq, Int.not_lt, Int.not_le, Bool.not_eq_true', Bool.not_eq_false'] at hb)))) | ((with_reducible refine And.intro ?_ ?_); (focus omega)) | ((with_reducible refine And.intro ?_ ?_); (focus (exact rfl))) | (refine aAppend_ints rfl rfl rfl rfl (Nat.le_of_ble_eq_true rfl) (by simp only [St.ev, St.set, upd, Nat.reduceEqDiff, reduceIte, if_false, if_true, hNm, Nat.add_eq_left, Nat.left_eq_add, Nat.add_assoc, Nat.reduceAdd, if_false, if_true]; exact rfl) (by simp only [St.ev, St.set, upd, Nat.reduceEqDiff, reduceIte, if_false, if_true, hNm, Nat.add_eq_left, Nat.left_eq_add, Nat.add_assoc, Nat.reduceAdd, if_false, if_true]; exact rfl) rfl (by first | decide | omega | (simp; done) | fail) ?_ ?_ ?_ ?_; (focus (first | rfl | omega | (simp; done) | (simp; omega) | (simp [szOf, tab]; done) | (simp [szOf, tab]; omega))); (focus (first | rfl | omega | (simp; done) | (simp; omega) | (simp [szOf, tab]; done) | (simp [szOf, tab]; omega))); (focus (first | rfl | omega | (simp; done) | (simp; omega) | (simp [szOf, tab]; done) | (simp [szOf, tab]; omega))); (try simp only [go_sem, Nat.reduceAdd, Nat.reduceMul, Nat.reduceEqDiff, Nat.reduceLT, reduceIte, reduceCtorEq, hNm, Nat.add_eq_left, Nat.left_eq_add, Nat.add_assoc, Nat.reduceAdd, if_false, if_true])) | (refine aAppend_none rfl rfl rfl rfl (Nat.le_of_ble_eq_true rfl) (by simp only [St.ev, St.set, upd, Nat.reduceEqDiff, reduceIte, if_false, if_true, hNm, Nat.add_eq_left, Nat.left_eq_add, Nat.add_assoc, Nat.reduceAdd, if_false, if_true]; exact rfl) ?_ ?_ ?_; (focus (first | rfl | omega | (simp; done) | (simp; omega) | (simp [szOf, tab]; done) | (simp [szOf, tab]; omega))); (focus (first | rfl | omega | (simp; done) | (simp; omega) | (simp [szOf, tab]; done) | (simp [szOf, tab]; omega))); (try simp only [go_sem, Nat.reduceAdd, Nat.reduceMul, Nat.reduceEqDiff, Nat.reduceLT, reduceIte, reduceCtorEq, hNm, Nat.add_eq_left, Nat.left_eq_add, Nat.add_assoc, Nat.reduceAdd, if_false, if_true])) | (refine aAppend_row rfl rfl rfl rfl (Nat.le_of_ble_eq_true rfl) (by simp only [St.ev, St.set, upd, Nat.reduceEqDiff, reduceIte, if_false, if_true, hNm, Nat.add_eq_left, Nat.left_eq_add, Nat.add_assoc, Nat.reduceAdd, if_false, if_true]; exact rfl) (by simp only [St.ev, St.set, upd, Nat.reduceEqDiff, reduceIte, if_false, if_true, hNm, Nat.add_eq_left, Nat.left_eq_add, Nat.add_assoc, Nat.reduceAdd, if_false, if_true]; exact rfl) rfl ?_ ?_ ?_ ?_ ?_; (focus (first | rfl | omega | (simp; done) | (simp; omega) | (simp [szOf, tab]; done) | (simp [szOf, tab]; omega))); (focus (first | rfl | omega | (simp; done) | (simp; omega) | (simp [szOf, tab]; done) | (simp [szOf, tab]; omega))); (focus (first | rfl | omega | (simp; done) | (simp; omega) | (simp [szOf, tab]; done) | (simp [szOf, tab]; omega))); (focus (first | rfl | omega | (simp; done) | (simp; omega) | (simp [szOf, tab]; done) | (simp [szOf, tab]; omega))); (try simp only [go_sem, Nat.reduceAdd, Nat.reduceMul, Nat.reduceEqDiff, Nat.reduceLT, reduceIte, reduceCtorEq, hNm, Nat.add_eq_left, Nat.left_eq_add, Nat.add_assoc, Nat.reduceAdd, if_false, if_true, hNm, hsl])) | (simp only [aAppendZ, go_sem, Nat.reduceAdd, Nat.reduceMul, Nat.reduceEqDiff, Nat.reduceLT, reduceIte, reduceCtorEq, hNm, Nat.add_eq_left, Nat.left_eq_add, Nat.add_assoc, Nat.reduceAdd, if_false, if_true, hNm, hsl]) | (refine aStoreAll_ints (by simp only [St.ev, St.set, upd, Nat.reduceEqDiff, reduceIte, if_false, if_true, hNm, Nat.add_eq_left, Nat.left_eq_add, Nat.add_assoc, Nat.reduceAdd, if_false, if_true]; exact rfl) ?_ ?_ ?_ ?_; (focus (first | rfl | omega | (simp; done) | (simp; omega) | (simp [szOf, tab]; done) | (simp [szOf, tab]; omega))); (focus (first | rfl | omega | (simp; done) | (simp; omega) | (simp [szOf, tab]; done) | (simp [szOf, tab]; omega))); (focus (first | rfl | omega | (simp; done) | (simp; omega) | (simp [szOf, tab]; done) | (simp [szOf, tab]; omega))); (try simp only [go_sem, Nat.reduceAdd, Nat.reduceMul, Nat.reduceEqDiff, Nat.reduceLT, reduceIte, reduceCtorEq, hNm, Nat.add_eq_left, Nat.left_eq_add, Nat.add_assoc, Nat.reduceAdd, if_false, if_true])) | (refine aStoreAll_cells (by simp only [St.ev, St.set, upd, Nat.reduceEqDiff, reduceIte, if_false, if_true, hNm, Nat.add_eq_left, Nat.left_eq_add, Nat.add_assoc, Nat.reduceAdd, if_false, if_true]; exact rfl) ?_ ?_ ?_ ?_ ?_; (focus (first | rfl | omega | (simp; done) | (simp; omega) | (simp [szOf, tab]; done) | (simp [szOf, tab]; omega))); (focus (first | rfl | omega | (simp; done) | (simp; omega) | (simp [szOf, tab]; done) | (simp [szOf, tab]; omega))); (focus (first | rfl | omega | (simp; done) | (simp; omega) | (simp [szOf, tab]; done) | (simp [szOf, tab]; omega))); (focus (first | rfl | (simp [AV.cell, Value.oneCell']; done))); (try simp only [go_sem, Nat.reduceAdd, Nat.reduceMul, Nat.reduceEqDiff, Nat.reduceLT, reduceIte, reduceCtorEq, hNm, Nat.add_eq_left, Nat.left_eq_add, Nat.add_assoc, Nat.reduceAdd, if_false, if_true])) | (with_reducible refine And.intro (fun hb => ?_) (fun hb => ?_)) | (exfalso; omega) | fail))
  · skip
    refine awp_loop (fun k : Nat => ⟨upd (upd (upd (upd bot 5 (.val (.int .i64 k))) 4 (.val (.int .i64 i))) 3 (.sl O 0 xss.length 1 none)) 0 (.sl 0 0 xs.length 1 none), H, n⟩) (fun k => k ≤ xss.length ∧ ∀ j, j < k → xs.getD i 0 < (xss.getD j []).getD ((xss.getD j []).length - 1) 0) (fun k => xss.length - k) 0 ⟨Nat.zero_le _, fun j h => by omega⟩ (Wk.sub (tsb (tsb (tsb (tsb tsb0 rfl) rfl) rfl) rfl) (fun _ _ h => h) rfl) ?_
    rintro k ⟨hk, hpre⟩
    have hpa := fun h => pilA_is hpre hk h
    rcases Nat.lt_or_ge k xss.length with hkl | hkl
    · have hget := hR.get hkl
      have hrow := hR.row k hkl
      have hlt := hR.lt k hkl
      have hfk0 := hf0 k hkl
      have hln := hpr k hkl
      have e1 : (((xss.getD k []).length : Int) - 1).toNat = (xss.getD k []).length - 1 := by omega
      generalize hfk : f k = r at *
      have r1 : (r = n) = False := eq_false (by omega)
      have r2 : ∀ k, (r = n + k) = False := fun k => eq_false (by omega)
      have r3 : (n = r) = False := eq_false (by omega)
      have r4 : ∀ k, (n + k = r) = False := fun k => eq_false (by omega)
      have r5 : (r = O) = False := eq_false hlt.2
      have r6 : (O = r) = False := eq_false (Ne.symm hlt.2)
      have r7 : (r = 0) = False := eq_false hfk0
      have r8 : (0 = r) = False := eq_false (Ne.symm hfk0)
      have hNr := And.intro hrow (And.intro r1 (And.intro r2 (And.intro r3 (And.intro r4 (And.intro r5 (And.intro r6 (And.intro r7 r8)))))))
      generalize hrk : xss.getD k [] = row at *


      repeat' (first | refine awp_seq_k fun K hK => ?_ | ((with_reducible refine hK _ ?_); clear hK K) | (clear hK K; (with_reducible refine hK _ ?_); clear hK K) | (clear hK K; clear hK K; (with_reducible refine hK _ ?_); clear hK K) | (clear hK K; clear hK K; clear hK K; (with_reducible refine hK _ ?_); clear hK K) | (clear hK K; clear hK K; clear hK K; clear hK K; (with_reducible refine hK _ ?_); clear hK K) | (clear hK K; clear hK K; clear hK K; clear hK K; clear hK K; (with_reducible refine hK _ ?_); clear hK K) | ((with_reducible refine aord_plain fun K hK => ?_); simp only [go_sem, Nat.reduceAdd, Nat.reduceMul, Nat.reduceEqDiff, Nat.reduceLT, reduceIte, reduceCtorEq, hNm, hNr, Nat.add_eq_left, Nat.left_eq_add, Nat.add_assoc, Nat.reduceAdd, if_false, if_true, hNm, hsl, hget, hNr, e1]) | ((with_reducible apply aord_guard); (focus (simp only [St.ev, St.set, upd, Nat.reduceEqDiff, reduceIte, if_false, if_true, hNm, hNr, Nat.add_eq_left, Nat.left_eq_add, Nat.add_assoc, Nat.reduceAdd, if_false, if_true]; exact rfl)); all_goals (intro hb; (try simp only [Bool.not_true, Bool.not_false] at hb); first | (cases hb; done) | ((try rw [hb]); (try simp only [Bool.not_eq_true', Bool.not_eq_false', Bool.and_eq_true, decide_eq_true_eq, decide_eq_false_iff_not, beq_iff_eq, bne_iff_ne, beq_eq_false_iff_ne, bne_eq_false_iff_eq, Int.not_lt, Int.not_le] at hb); (try (revert hb; with_reducible refine true_imp_iff.2 ?_)); first | (intro K hK; simp only [go_sem, Nat.reduceAdd, Nat.reduceMul, Nat.reduceEqDiff, Nat.reduceLT, reduceIte, reduceCtorEq, hNm, hNr, Nat.add_eq_left, Nat.left_eq_add, Nat.add_assoc, Nat.reduceAdd, if_false, if_true]) | (simp only [St.ev, St.set, upd, Nat.reduceEqDiff, reduceIte, if_false, if_true, hNm, hNr, Nat.add_eq_left, Nat.left_eq_add, Nat.add_assoc, Nat.reduceAdd, if_false, if_true]) | skip))) | ((with_reducible apply aord_skip); (focus (simp only [St.ev, St.set, upd, Nat.reduceEqDiff, reduceIte, if_false, if_true, hNm, hNr, Nat.add_eq_left, Nat.left_eq_add, Nat.add_assoc, Nat.reduceAdd, if_false, if_true]; done)); (simp only [St.ev, St.set, upd, Nat.reduceEqDiff, reduceIte, if_false, if_true, hNm, hNr, Nat.add_eq_left, Nat.left_eq_add, Nat.add_assoc, Nat.reduceAdd, if_false, if_true])) | refine awp_block ?_ | ((first | with_reducible refine aord_nil ?_ | refine awp_skip ?_ | refine awp_exit ?_ | refine awp_ret ?_); try simp only [thenA_normal, thenA_exit, thenA_goto, thenA_ret, blockA_normal, blockA_same, blockA_exit, blockA_goto, blockA_ret, Nat.reduceEqDiff, if_false, if_true, reduceIte]) | (refine awp_region tabOk rfl ?_; simp only [prep, pickO, List.map_cons, List.map_nil, List.getElem?_toArray, List.getElem?_cons_succ, List.getElem?_cons_zero, Option.bind_some, Option.map_some]) | (refine awp_region_draw (nt := 64) (id := 6) tabOk [(0, true, false), (1, true, false), (2, true, false), (3, true, false), (4, true, false), (5, true, false), (6, true, false), (7, true, false), (8, true, false), (9, true, false), (10, true, false), (11, true, false), (12, true, false), (13, true, false), (14, true, false), (15, true, false), (16, true, false), (17, true, false), (18, true, false), (19, true, false), (20, true, false), (21, true, false), (22, true, false)] (by kernel_rfl) rfl (by kernel_rfl) ?_; simp only [prep, pickO, List.map_cons, List.map_nil, List.getElem?_toArray, List.getElem?_cons_succ, List.getElem?_cons_zero, Option.bind_some, Option.map_some]) | (refine awp_region_draw (nt := 64) (id := 10) tabOk [(0, true, false), (1, true, false), (2, true, false), (3, true, false), (4, true, false), (5, true, false), (6, true, false), (7, true, false), (8, true, false), (9, true, false), (10, false, false), (11, false, true), (12, true, false), (13, false, false)] (by kernel_rfl) rfl (by kernel_rfl) ?_; simp only [prep, pickO, List.map_cons, List.map_nil, List.getElem?_toArray, List.getElem?_cons_succ, List.getElem?_cons_zero, Option.bind_some, Option.map_some]) | ((with_reducible apply awp_cond); (focus (simp only [St.ev, St.set, upd, Nat.reduceEqDiff, reduceIte, if_false, if_true, hNm, hNr, Nat.add_eq_left, Nat.left_eq_add, Nat.add_assoc, Nat.reduceAdd, if_false, if_true]; exact rfl)); all_goals (intro hb; first | (cases hb; done) | ((try rw [hb]); (try simp only [decide_eq_true_eq, decide_eq_false_iff_not, beq_iff_eq, bne_iff_ne, beq_eq_false_iff_ne, bne_eq_false_iff_eq, Int.not_lt, Int.not_le, Bool.not_eq_true', Bool.not_eq_false'] at hb)))) | ((with_reducible refine And.intro ?_ ?_); (focus omega)) | ((with_reducible refine And.intro ?_ ?_); (focus (exact rfl))) | (refine aAppend_ints rfl rfl rfl rfl (Nat.le_of_ble_eq_true rfl) (by simp only [St.ev, St.set, upd, Nat.reduceEqDiff, reduceIte, if_false, if_true, hNm, hNr, Nat.add_eq_left, Nat.left_eq_add, Nat.add_assoc, Nat.reduceAdd, if_false, if_true]; exact rfl) (by simp only [St.ev, St.set, upd, Nat.reduceEqDiff, reduceIte, if_false, if_true, hNm, hNr, Nat.add_eq_left, Nat.left_eq_add, Nat.add_assoc, Nat.reduceAdd, if_false, if_true]; exact rfl) rfl (by first | decide | omega | (simp; done) | fail) ?_ ?_ ?_ ?_; (focus (first | rfl | omega | (simp; done) | (simp; omega) | (simp [szOf, tab]; done) | (simp [szOf, tab]; omega))); (focus (first | rfl | omega | (simp; done) | (simp; omega) | (simp [szOf, tab]; done) | (simp [szOf, tab]; omega))); (focus (first | rfl | omega | (simp; done) | (simp; omega) | (simp [szOf, tab]; done) | (simp [szOf, tab]; omega))); (try simp only [go_sem, Nat.reduceAdd, Nat.reduceMul, Nat.reduceEqDiff, Nat.reduceLT, reduceIte, reduceCtorEq, hNm, hNr, Nat.add_eq_left, Nat.left_eq_add, Nat.add_assoc, Nat.reduceAdd, if_false, if_true])) | (refine aAppend_none rfl rfl rfl rfl (Nat.le_of_ble_eq_true rfl) (by simp only [St.ev, St.set, upd, Nat.reduceEqDiff, reduceIte, if_false, if_true, hNm, hNr, Nat.add_eq_left, Nat.left_eq_add, Nat.add_assoc, Nat.reduceAdd, if_false, if_true]; exact rfl) ?_ ?_ ?_; (focus (first | rfl | omega | (simp; done) | (simp; omega) | (simp [szOf, tab]; done) | (simp [szOf, tab]; omega))); (focus (first | rfl | omega | (simp; done) | (simp; omega) | (simp [szOf, tab]; done) | (simp [szOf, tab]; omega))); (try simp only [go_sem, Nat.reduceAdd, Nat.reduceMul, Nat.reduceEqDiff, Nat.reduceLT, reduceIte, reduceCtorEq, hNm, hNr, Nat.add_eq_left, Nat.left_eq_add, Nat.add_assoc, Nat.reduceAdd, if_false, if_true])) | (refine aAppend_row rfl rfl rfl rfl (Nat.le_of_ble_eq_true rfl) (by simp only [St.ev, St.set, upd, Nat.reduceEqDiff, reduceIte, if_false, if_true, hNm, hNr, Nat.add_eq_left, Nat.left_eq_add, Nat.add_assoc, Nat.reduceAdd, if_false, if_true]; exact rfl) (by simp only [St.ev, St.set, upd, Nat.reduceEqDiff, reduceIte, if_false, if_true, hNm, hNr, Nat.add_eq_left, Nat.left_eq_add, Nat.add_assoc, Nat.reduceAdd, if_false, if_true]; exact rfl) rfl ?_ ?_ ?_ ?_ ?_; (focus (first | rfl | omega | (simp; done) | (simp; omega) | (simp [szOf, tab]; done) | (simp [szOf, tab]; omega))); (focus (first | rfl | omega | (simp; done) | (simp; omega) | (simp [szOf, tab]; done) | (simp [szOf, tab]; omega))); (focus (first | rfl | omega | (simp; done) | (simp; omega) | (simp [szOf, tab]; done) | (simp [szOf, tab]; omega))); (focus (first | rfl | omega | (simp; done) | (simp; omega) | (simp [szOf, tab]; done) | (simp [szOf, tab]; omega))); (try simp only [go_sem, Nat.reduceAdd, Nat.reduceMul, Nat.reduceEqDiff, Nat.reduceLT, reduceIte, reduceCtorEq, hNm, hNr, Nat.add_eq_left, Nat.left_eq_add, Nat.add_assoc, Nat.reduceAdd, if_false, if_true, hNm, hsl, hget, hNr, e1])) | (simp only [aAppendZ, go_sem, Nat.reduceAdd, Nat.reduceMul, Nat.reduceEqDiff, Nat.reduceLT, reduceIte, reduceCtorEq, hNm, hNr, Nat.add_eq_left, Nat.left_eq_add, Nat.add_assoc, Nat.reduceAdd, if_false, if_true, hNm, hsl, hget, hNr, e1]) | (refine aStoreAll_ints (by simp only [St.ev, St.set, upd, Nat.reduceEqDiff, reduceIte, if_false, if_true, hNm, hNr, Nat.add_eq_left, Nat.left_eq_add, Nat.add_assoc, Nat.reduceAdd, if_false, if_true]; exact rfl) ?_ ?_ ?_ ?_; (focus (first | rfl | omega | (simp; done) | (simp; omega) | (simp [szOf, tab]; done) | (simp [szOf, tab]; omega))); (focus (first | rfl | omega | (simp; done) | (simp; omega) | (simp [szOf, tab]; done) | (simp [szOf, tab]; omega))); (focus (first | rfl | omega | (simp; done) | (simp; omega) | (simp [szOf, tab]; done) | (simp [szOf, tab]; omega))); (try simp only [go_sem, Nat.reduceAdd, Nat.reduceMul, Nat.reduceEqDiff, Nat.reduceLT, reduceIte, reduceCtorEq, hNm, hNr, Nat.add_eq_left, Nat.left_eq_add, Nat.add_assoc, Nat.reduceAdd, if_false, if_true])) | (refine aStoreAll_cells (by simp only [St.ev, St.set, upd, Nat.reduceEqDiff, reduceIte, if_false, if_true, hNm, hNr, Nat.add_eq_left, Nat.left_eq_add, Nat.add_assoc, Nat.reduceAdd, if_false, if_true]; exact rfl) ?_ ?_ ?_ ?_ ?_; (focus (first | rfl | omega | (simp; done) | (simp; omega) | (simp [szOf, tab]; done) | (simp [szOf, tab]; omega))); (focus (first | rfl | omega | (simp; done) | (simp; omega) | (simp [szOf, tab]; done) | (simp [szOf, tab]; omega))); (focus (first | rfl | omega | (simp; done) | (simp; omega) | (simp [szOf, tab]; done) | (simp [szOf, tab]; omega))); (focus (first | rfl | (simp [AV.cell, Value.oneCell']; done))); (try simp only [go_sem, Nat.reduceAdd, Nat.reduceMul, Nat.reduceEqDiff, Nat.reduceLT, reduceIte, reduceCtorEq, hNm, hNr, Nat.add_eq_left, Nat.left_eq_add, Nat.add_assoc, Nat.reduceAdd, if_false, if_true])) | (with_reducible refine And.intro (fun hb => ?_) (fun hb => ?_)) | (exfalso; omega) | fail)
      · refine ⟨k + 1, ⟨by omega, fun j hj => ?_⟩, by omega, Wk.sub (tsb (tsb (tsb (tsb tsb0 rfl) rfl) rfl) rfl) (fun _ _ h => h) rfl⟩
        by_cases c : j = k
        · subst c; rw [hrk]; omega
        · exact hpre j (by omega)
      · have hpa2 := hpa (.inr (by omega))
        have hput := pilPut_old hpa2 hkl
        have hxl : (pilTo xs (i + 1)).length = xss.length := by rw [hup, hput, List.length_set]
        refine ⟨(upd (upd (upd (upd H n (some ⟨true, .ints .i64 [xs.getD i 0]⟩)) r none) (n + 1) (some ⟨true, .ints .i64 (row ++ [xs.getD i 0])⟩)) O (some ⟨true, .cells ((slsN f 0 xss).set k (.sl (n + 1) 0 (row.length + 1) 1 none))⟩), n + 2, O, (fun j => if j = k then n + 1 else f j), i + 1), ⟨by dsimp only; omega, ?_, hO0, ?_, ?_⟩, by dsimp only; omega, Wk.sub (tsb (tsb (tsb tsb0 rfl) (by rw [hxl]; rfl)) rfl) (fun _ _ h => h) rfl⟩
        · (try dsimp only); (repeat (first | rw [upd_same] | rw [upd_ne _ _ (by omega)]))
          exact H0
        · dsimp only
          rw [hup, hput]
          refine hR.set hkl ?_ ?_ (fun u h1 h2 h3 => ?_)
          · rw [hrk]; (try dsimp only); (repeat (first | rw [upd_same] | rw [upd_ne _ _ (by omega)]))
          · rw [hrk]; (try dsimp only); (repeat (first | rw [upd_same] | rw [upd_ne _ _ (by omega)]))
          · rw [hfk] at h3; (try dsimp only); (repeat (first | rw [upd_same] | rw [upd_ne _ _ (by omega)]))
        · intro j hj
          dsimp only at hj ⊢
          rw [hxl] at hj
          have := hf0 j hj
          split <;> omega
    · have hke : k = xss.length := by omega
      subst hke
      have hput := pilPut_new (hpa (.inl rfl))
      have hxl : (pilTo xs (i + 1)).length = xss.length + 1 := by rw [hup, hput, List.length_append]; rfl


      repeat' (first | refine awp_seq_k fun K hK => ?_ | ((with_reducible refine hK _ ?_); clear hK K) | (clear hK K; (with_reducible refine hK _ ?_); clear hK K) | (clear hK K; clear hK K; (with_reducible refine hK _ ?_); clear hK K) | (clear hK K; clear hK K; clear hK K; (with_reducible refine hK _ ?_); clear hK K) | (clear hK K; clear hK K; clear hK K; clear hK K; (with_reducible refine hK _ ?_); clear hK K) | (clear hK K; clear hK K; clear hK K; clear hK K; clear hK K; (with_reducible refine hK _ ?_); clear hK K) | ((with_reducible refine aord_plain fun K hK => ?_); simp only [go_sem, Nat.reduceAdd, Nat.reduceMul, Nat.reduceEqDiff, Nat.reduceLT, reduceIte, reduceCtorEq, hNm, Nat.add_eq_left, Nat.left_eq_add, Nat.add_assoc, Nat.reduceAdd, if_false, if_true, hNm, hsl]) | ((with_reducible apply aord_guard); (focus (simp only [St.ev, St.set, upd, Nat.reduceEqDiff, reduceIte, if_false, if_true, hNm, Nat.add_eq_left, Nat.left_eq_add, Nat.add_assoc, Nat.reduceAdd, if_false, if_true]; exact rfl)); all_goals (intro hb; (try simp only [Bool.not_true, Bool.not_false] at hb); first | (cases hb; done) | ((try rw [hb]); (try simp only [Bool.not_eq_true', Bool.not_eq_false', Bool.and_eq_true, decide_eq_true_eq, decide_eq_false_iff_not, beq_iff_eq, bne_iff_ne, beq_eq_false_iff_ne, bne_eq_false_iff_eq, Int.not_lt, Int.not_le] at hb); (try (revert hb; with_reducible refine true_imp_iff.2 ?_)); first | (intro K hK; simp only [go_sem, Nat.reduceAdd, Nat.reduceMul, Nat.reduceEqDiff, Nat.reduceLT, reduceIte, reduceCtorEq, hNm, Nat.add_eq_left, Nat.left_eq_add, Nat.add_assoc, Nat.reduceAdd, if_false, if_true]) | (simp only [St.ev, St.set, upd, Nat.reduceEqDiff, reduceIte, if_false, if_true, hNm, Nat.add_eq_left, Nat.left_eq_add, Nat.add_assoc, Nat.reduceAdd, if_false, if_true]) | skip))) | ((with_reducible apply aord_skip); (focus (simp only [St.ev, St.set, upd, Nat.reduceEqDiff, reduceIte, if_false, if_true, hNm, Nat.add_eq_left, Nat.left_eq_add, Nat.add_assoc, Nat.reduceAdd, if_false, if_true]; done)); (simp only [St.ev, St.set, upd, Nat.reduceEqDiff, reduceIte, if_false, if_true, hNm, Nat.add_eq_left, Nat.left_eq_add, Nat.add_assoc, Nat.reduceAdd, if_false, if_true])) | refine awp_block ?_ | ((first | with_reducible refine aord_nil ?_ | refine awp_skip ?_ | refine awp_exit ?_ | refine awp_ret ?_); try simp only [thenA_normal, thenA_exit, thenA_goto, thenA_ret, blockA_normal, blockA_same, blockA_exit, blockA_goto, blockA_ret, Nat.reduceEqDiff, if_false, if_true, reduceIte]) | (refine awp_region tabOk rfl ?_; simp only [prep, pickO, List.map_cons, List.map_nil, List.getElem?_toArray, List.getElem?_cons_succ, List.getElem?_cons_zero, Option.bind_some, Option.map_some]) | (refine awp_region_draw (nt := 64) (id := 6) tabOk [(0, true, false), (1, true, false), (2, true, false), (3, true, false), (4, true, false), (5, true, false), (6, true, false), (7, true, false), (8, true, false), (9, true, false), (10, true, false), (11, true, false), (12, true, false), (13, true, false), (14, true, false), (15, true, false), (16, true, false), (17, true, false), (18, true, false), (19, true, false), (20, true, false), (21, true, false), (22, true, false)] (by kernel_rfl) rfl (by kernel_rfl) ?_; simp only [prep, pickO, List.map_cons, List.map_nil, List.getElem?_toArray, List.getElem?_cons_succ, List.getElem?_cons_zero, Option.bind_some, Option.map_some]) | (refine awp_region_draw (nt := 64) (id := 10) tabOk [(0, true, false), (1, true, false), (2, true, false), (3, true, false), (4, true, false), (5, true, false), (6, true, false), (7, true, false), (8, true, false), (9, true, false), (10, false, false), (11, false, true), (12, true, false), (13, false, false)] (by kernel_rfl) rfl (by kernel_rfl) ?_; simp only [prep, pickO, List.map_cons, List.map_nil, List.getElem?_toArray, List.getElem?_cons_succ, List.getElem?_cons_zero, Option.bind_some, Option.map_some]) | ((with_reducible apply awp_cond); (focus (simp only [St.ev, St.set, upd, Nat.reduceEqDiff, reduceIte, if_false, if_true, hNm, Nat.add_eq_left, Nat.left_eq_add, Nat.add_assoc, Nat.reduceAdd, if_false, if_true]; exact rfl)); all_goals (intro hb; first | (cases hb; done) | ((try rw [hb]); (try simp only [decide_eq_true_eq, decide_eq_false_iff_not, beq_iff_eq, bne_iff_ne, beq_eq_false_iff_ne, bne_eq_false_iff_eq, Int.not_lt, Int.not_le, Bool.not_eq_true', Bool.not_eq_false'] at hb)))) | ((with_reducible refine And.intro ?_ ?_); (focus omega)) | ((with_reducible refine And.intro ?_ ?_); (focus (exact rfl))) | (refine aAppend_ints rfl rfl rfl rfl (Nat.le_of_ble_eq_true rfl) (by simp only [St.ev, St.set, upd, Nat.reduceEqDiff, reduceIte, if_false, if_true, hNm, Nat.add_eq_left, Nat.left_eq_add, Nat.add_assoc, Nat.reduceAdd, if_false, if_true]; exact rfl) (by simp only [St.ev, St.set, upd, Nat.reduceEqDiff, reduceIte, if_false, if_true, hNm, Nat.add_eq_left, Nat.left_eq_add, Nat.add_assoc, Nat.reduceAdd, if_false, if_true]; exact rfl) rfl (by first | decide | omega | (simp; done) | fail) ?_ ?_ ?_ ?_; (focus (first | rfl | omega | (simp; done) | (simp; omega) | (simp [szOf, tab]; done) | (simp [szOf, tab]; omega))); (focus (first | rfl | omega | (simp; done) | (simp; omega) | (simp [szOf, tab]; done) | (simp [szOf, tab]; omega))); (focus (first | rfl | omega | (simp; done) | (simp; omega) | (simp [szOf, tab]; done) | (simp [szOf, tab]; omega))); (try simp only [go_sem, Nat.reduceAdd, Nat.reduceMul, Nat.reduceEqDiff, Nat.reduceLT, reduceIte, reduceCtorEq, hNm, Nat.add_eq_left, Nat.left_eq_add, Nat.add_assoc, Nat.reduceAdd, if_false, if_true])) | (refine aAppend_none rfl rfl rfl rfl (Nat.le_of_ble_eq_true rfl) (by simp only [St.ev, St.set, upd, Nat.reduceEqDiff, reduceIte, if_false, if_true, hNm, Nat.add_eq_left, Nat.left_eq_add, Nat.add_assoc, Nat.reduceAdd, if_false, if_true]; exact rfl) ?_ ?_ ?_; (focus (first | rfl | omega | (simp; done) | (simp; omega) | (simp [szOf, tab]; done) | (simp [szOf, tab]; omega))); (focus (first | rfl | omega | (simp; done) | (simp; omega) | (simp [szOf, tab]; done) | (simp [szOf, tab]; omega))); (try simp only [go_sem, Nat.reduceAdd, Nat.reduceMul, Nat.reduceEqDiff, Nat.reduceLT, reduceIte, reduceCtorEq, hNm, Nat.add_eq_left, Nat.left_eq_add, Nat.add_assoc, Nat.reduceAdd, if_false, if_true])) | (refine aAppend_row rfl rfl rfl rfl (Nat.le_of_ble_eq_true rfl) (by simp only [St.ev, St.set, upd, Nat.reduceEqDiff, reduceIte, if_false, if_true, hNm, Nat.add_eq_left, Nat.left_eq_add, Nat.add_assoc, Nat.reduceAdd, if_false, if_true]; exact rfl) (by simp only [St.ev, St.set, upd, Nat.reduceEqDiff, reduceIte, if_false, if_true, hNm, Nat.add_eq_left, Nat.left_eq_add, Nat.add_assoc, Nat.reduceAdd, if_false, if_true]; exact rfl) rfl ?_ ?_ ?_ ?_ ?_; (focus (first | rfl | omega | (simp; done) | (simp; omega) | (simp [szOf, tab]; done) | (simp [szOf, tab]; omega))); (focus (first | rfl | omega | (simp; done) | (simp; omega) | (simp [szOf, tab]; done) | (simp [szOf, tab]; omega))); (focus (first | rfl | omega | (simp; done) | (simp; omega) | (simp [szOf, tab]; done) | (simp [szOf, tab]; omega))); (focus (first | rfl | omega | (simp; done) | (simp; omega) | (simp [szOf, tab]; done) | (simp [szOf, tab]; omega))); (try simp only [go_sem, Nat.reduceAdd, Nat.reduceMul, Nat.reduceEqDiff, Nat.reduceLT, reduceIte, reduceCtorEq, hNm, Nat.add_eq_left, Nat.left_eq_add, Nat.add_assoc, Nat.reduceAdd, if_false, if_true, hNm, hsl])) | (simp only [aAppendZ, go_sem, Nat.reduceAdd, Nat.reduceMul, Nat.reduceEqDiff, Nat.reduceLT, reduceIte, reduceCtorEq, hNm, Nat.add_eq_left, Nat.left_eq_add, Nat.add_assoc, Nat.reduceAdd, if_false, if_true, hNm, hsl]) | (refine aStoreAll_ints (by simp only [St.ev, St.set, upd, Nat.reduceEqDiff, reduceIte, if_false, if_true, hNm, Nat.add_eq_left, Nat.left_eq_add, Nat.add_assoc, Nat.reduceAdd, if_false, if_true]; exact rfl) ?_ ?_ ?_ ?_; (focus (first | rfl | omega | (simp; done) | (simp; omega) | (simp [szOf, tab]; done) | (simp [szOf, tab]; omega))); (focus (first | rfl | omega | (simp; done) | (simp; omega) | (simp [szOf, tab]; done) | (simp [szOf, tab]; omega))); (focus (first | rfl | omega | (simp; done) | (simp; omega) | (simp [szOf, tab]; done) | (simp [szOf, tab]; omega))); (try simp only [go_sem, Nat.reduceAdd, Nat.reduceMul, Nat.reduceEqDiff, Nat.reduceLT, reduceIte, reduceCtorEq, hNm, Nat.add_eq_left, Nat.left_eq_add, Nat.add_assoc, Nat.reduceAdd, if_false, if_true])) | (refine aStoreAll_cells (by simp only [St.ev, St.set, upd, Nat.reduceEqDiff, reduceIte, if_false, if_true, hNm, Nat.add_eq_left, Nat.left_eq_add, Nat.add_assoc, Nat.reduceAdd, if_false, if_true]; exact rfl) ?_ ?_ ?_ ?_ ?_; (focus (first | rfl | omega | (simp; done) | (simp; omega) | (simp [szOf, tab]; done) | (simp [szOf, tab]; omega))); (focus (first | rfl | omega | (simp; done) | (simp; omega) | (simp [szOf, tab]; done) | (simp [szOf, tab]; omega))); (focus (first | rfl | omega | (simp; done) | (simp; omega) | (simp [szOf, tab]; done) | (simp [szOf, tab]; omega))); (focus (first | rfl | (simp [AV.cell, Value.oneCell']; done))); (try simp only [go_sem, Nat.reduceAdd, Nat.reduceMul, Nat.reduceEqDiff, Nat.reduceLT, reduceIte, reduceCtorEq, hNm, Nat.add_eq_left, Nat.left_eq_add, Nat.add_assoc, Nat.reduceAdd, if_false, if_true])) | (with_reducible refine And.intro (fun hb => ?_) (fun hb => ?_)) | (exfalso; omega) | fail)
      refine aAppend_cells rfl rfl rfl rfl (Nat.le_of_ble_eq_true rfl) (by (try dsimp only); (repeat (first | rw [upd_same] | rw [upd_ne _ _ (by omega)]))) (by (try dsimp only); (repeat (first | rw [upd_same] | rw [upd_ne _ _ (by omega)])); exact hO) (by omega) hsl rfl (by omega) ?_
      repeat' (first | refine awp_seq_k fun K hK => ?_ | ((with_reducible refine hK _ ?_); clear hK K) | (clear hK K; (with_reducible refine hK _ ?_); clear hK K) | (clear hK K; clear hK K; (with_reducible refine hK _ ?_); clear hK K) | (clear hK K; clear hK K; clear hK K; (with_reducible refine hK _ ?_); clear hK K) | (clear hK K; clear hK K; clear hK K; clear hK K; (with_reducible refine hK _ ?_); clear hK K) | (clear hK K; clear hK K; clear hK K; clear hK K; clear hK K; (with_reducible refine hK _ ?_); clear hK K) | ((with_reducible refine aord_plain fun K hK => ?_); simp only [go_sem, Nat.reduceAdd, Nat.reduceMul, Nat.reduceEqDiff, Nat.reduceLT, reduceIte, reduceCtorEq, hNm, Nat.add_eq_left, Nat.left_eq_add, Nat.add_assoc, Nat.reduceAdd, if_false, if_true, hNm, hsl]) | ((with_reducible apply aord_guard); (focus (simp only [St.ev, St.set, upd, Nat.reduceEqDiff, reduceIte, if_false, if_true, hNm, Nat.add_eq_left, Nat.left_eq_add, Nat.add_assoc, Nat.reduceAdd, if_false, if_true]; exact rfl)); all_goals (intro hb; (try simp only [Bool.not_true, Bool.not_false] at hb); first | (cases hb; done) | ((try rw [hb]); (try simp only [Bool.not_eq_true', Bool.not_eq_false', Bool.and_eq_true, decide_eq_true_eq, decide_eq_false_iff_not, beq_iff_eq, bne_iff_ne, beq_eq_false_iff_ne, bne_eq_false_iff_eq, Int.not_lt, Int.not_le] at hb); (try (revert hb; with_reducible refine true_imp_iff.2 ?_)); first | (intro K hK; simp only [go_sem, Nat.reduceAdd, Nat.reduceMul, Nat.reduceEqDiff, Nat.reduceLT, reduceIte, reduceCtorEq, hNm, Nat.add_eq_left, Nat.left_eq_add, Nat.add_assoc, Nat.reduceAdd, if_false, if_true]) | (simp only [St.ev, St.set, upd, Nat.reduceEqDiff, reduceIte, if_false, if_true, hNm, Nat.add_eq_left, Nat.left_eq_add, Nat.add_assoc, Nat.reduceAdd, if_false, if_true]) | skip))) | ((with_reducible apply aord_skip); (focus (simp only [St.ev, St.set, upd, Nat.reduceEqDiff, reduceIte, if_false, if_true, hNm, Nat.add_eq_left, Nat.left_eq_add, Nat.add_assoc, Nat.reduceAdd, if_false, if_true]; done)); (simp only [St.ev, St.set, upd, Nat.reduceEqDiff, reduceIte, if_false, if_true, hNm, Nat.add_eq_left, Nat.left_eq_add, Nat.add_assoc, Nat.reduceAdd, if_false, if_true])) | refine awp_block ?_ | ((first | with_reducible refine aord_nil ?_ | refine awp_skip ?_ | refine awp_exit ?_ | refine awp_ret ?_); try simp only [thenA_normal, thenA_exit, thenA_goto, thenA_ret, blockA_normal, blockA_same, blockA_exit, blockA_goto, blockA_ret, Nat.reduceEqDiff, if_false, if_true, reduceIte]) | (refine awp_region tabOk rfl ?_; simp only [prep, pickO, List.map_cons, List.map_nil, List.getElem?_toArray, List.getElem?_cons_succ, List.getElem?_cons_zero, Option.bind_some, Option.map_some]) | (refine awp_region_draw (nt := 64) (id := 6) tabOk [(0, true, false), (1, true, false), (2, true, false), (3, true, false), (4, true, false), (5, true, false), (6, true, false), (7, true, false), (8, true, false), (9, true, false), (10, true, false), (11, true, false), (12, true, false), (13, true, false), (14, true, false), (15, true, false), (16, true, false), (17, true, false), (18, true, false), (19, true, false), (20, true, false), (21, true, false), (22, true, false)] (by kernel_rfl) rfl (by kernel_rfl) ?_; simp only [prep, pickO, List.map_cons, List.map_nil, List.getElem?_toArray, List.getElem?_cons_succ, List.getElem?_cons_zero, Option.bind_some, Option.map_some]) | (refine awp_region_draw (nt := 64) (id := 10) tabOk [(0, true, false), (1, true, false), (2, true, false), (3, true, false), (4, true, false), (5, true, false), (6, true, false), (7, true, false), (8, true, false), (9, true, false), (10, false, false), (11, false, true), (12, true, false), (13, false, false)] (by kernel_rfl) rfl (by kernel_rfl) ?_; simp only [prep, pickO, List.map_cons, List.map_nil, List.getElem?_toArray, List.getElem?_cons_succ, List.getElem?_cons_zero, Option.bind_some, Option.map_some]) | ((with_reducible apply awp_cond); (focus (simp only [St.ev, St.set, upd, Nat.reduceEqDiff, reduceIte, if_false, if_true, hNm, Nat.add_eq_left, Nat.left_eq_add, Nat.add_assoc, Nat.reduceAdd, if_false, if_true]; exact rfl)); all_goals (intro hb; first | (cases hb; done) | ((try rw [hb]); (try simp only [decide_eq_true_eq, decide_eq_false_iff_not, beq_iff_eq, bne_iff_ne, beq_eq_false_iff_ne, bne_eq_false_iff_eq, Int.not_lt, Int.not_le, Bool.not_eq_true', Bool.not_eq_false'] at hb)))) | ((with_reducible refine And.intro ?_ ?_); (focus omega)) | ((with_reducible refine And.intro ?_ ?_); (focus (exact rfl))) | (refine aAppend_ints rfl rfl rfl rfl (Nat.le_of_ble_eq_true rfl) (by simp only [St.ev, St.set, upd, Nat.reduceEqDiff, reduceIte, if_false, if_true, hNm, Nat.add_eq_left, Nat.left_eq_add, Nat.add_assoc, Nat.reduceAdd, if_false, if_true]; exact rfl) (by simp only [St.ev, St.set, upd, Nat.reduceEqDiff, reduceIte, if_false, if_true, hNm, Nat.add_eq_left, Nat.left_eq_add, Nat.add_assoc, Nat.reduceAdd, if_false, if_true]; exact rfl) rfl (by first | decide | omega | (simp; done) | fail) ?_ ?_ ?_ ?_; (focus (first | rfl | omega | (simp; done) | (simp; omega) | (simp [szOf, tab]; done) | (simp [szOf, tab]; omega))); (focus (first | rfl | omega | (simp; done) | (simp; omega) | (simp [szOf, tab]; done) | (simp [szOf, tab]; omega))); (focus (first | rfl | omega | (simp; done) | (simp; omega) | (simp [szOf, tab]; done) | (simp [szOf, tab]; omega))); (try simp only [go_sem, Nat.reduceAdd, Nat.reduceMul, Nat.reduceEqDiff, Nat.reduceLT, reduceIte, reduceCtorEq, hNm, Nat.add_eq_left, Nat.left_eq_add, Nat.add_assoc, Nat.reduceAdd, if_false, if_true])) | (refine aAppend_none rfl rfl rfl rfl (Nat.le_of_ble_eq_true rfl) (by simp only [St.ev, St.set, upd, Nat.reduceEqDiff, reduceIte, if_false, if_true, hNm, Nat.add_eq_left, Nat.left_eq_add, Nat.add_assoc, Nat.reduceAdd, if_false, if_true]; exact rfl) ?_ ?_ ?_; (focus (first | rfl | omega | (simp; done) | (simp; omega) | (simp [szOf, tab]; done) | (simp [szOf, tab]; omega))); (focus (first | rfl | omega | (simp; done) | (simp; omega) | (simp [szOf, tab]; done) | (simp [szOf, tab]; omega))); (try simp only [go_sem, Nat.reduceAdd, Nat.reduceMul, Nat.reduceEqDiff, Nat.reduceLT, reduceIte, reduceCtorEq, hNm, Nat.add_eq_left, Nat.left_eq_add, Nat.add_assoc, Nat.reduceAdd, if_false, if_true])) | (refine aAppend_row rfl rfl rfl rfl (Nat.le_of_ble_eq_true rfl) (by simp only [St.ev, St.set, upd, Nat.reduceEqDiff, reduceIte, if_false, if_true, hNm, Nat.add_eq_left, Nat.left_eq_add, Nat.add_assoc, Nat.reduceAdd, if_false, if_true]; exact rfl) (by simp only [St.ev, St.set, upd, Nat.reduceEqDiff, reduceIte, if_false, if_true, hNm, Nat.add_eq_left, Nat.left_eq_add, Nat.add_assoc, Nat.reduceAdd, if_false, if_true]; exact rfl) rfl ?_ ?_ ?_ ?_ ?_; (focus (first | rfl | omega | (simp; done) | (simp; omega) | (simp [szOf, tab]; done) | (simp [szOf, tab]; omega))); (focus (first | rfl | omega | (simp; done) | (simp; omega) | (simp [szOf, tab]; done) | (simp [szOf, tab]; omega))); (focus (first | rfl | omega | (simp; done) | (simp; omega) | (simp [szOf, tab]; done) | (simp [szOf, tab]; omega))); (focus (first | rfl | omega | (simp; done) | (simp; omega) | (simp [szOf, tab]; done) | (simp [szOf, tab]; omega))); (try simp only [go_sem, Nat.reduceAdd, Nat.reduceMul, Nat.reduceEqDiff, Nat.reduceLT, reduceIte, reduceCtorEq, hNm, Nat.add_eq_left, Nat.left_eq_add, Nat.add_assoc, Nat.reduceAdd, if_false, if_true, hNm, hsl])) | (simp only [aAppendZ, go_sem, Nat.reduceAdd, Nat.reduceMul, Nat.reduceEqDiff, Nat.reduceLT, reduceIte, reduceCtorEq, hNm, Nat.add_eq_left, Nat.left_eq_add, Nat.add_assoc, Nat.reduceAdd, if_false, if_true, hNm, hsl]) | (refine aStoreAll_ints (by simp only [St.ev, St.set, upd, Nat.reduceEqDiff, reduceIte, if_false, if_true, hNm, Nat.add_eq_left, Nat.left_eq_add, Nat.add_assoc, Nat.reduceAdd, if_false, if_true]; exact rfl) ?_ ?_ ?_ ?_; (focus (first | rfl | omega | (simp; done) | (simp; omega) | (simp [szOf, tab]; done) | (simp [szOf, tab]; omega))); (focus (first | rfl | omega | (simp; done) | (simp; omega) | (simp [szOf, tab]; done) | (simp [szOf, tab]; omega))); (focus (first | rfl | omega | (simp; done) | (simp; omega) | (simp [szOf, tab]; done) | (simp [szOf, tab]; omega))); (try simp only [go_sem, Nat.reduceAdd, Nat.reduceMul, Nat.reduceEqDiff, Nat.reduceLT, reduceIte, reduceCtorEq, hNm, Nat.add_eq_left, Nat.left_eq_add, Nat.add_assoc, Nat.reduceAdd, if_false, if_true])) | (refine aStoreAll_cells (by simp only [St.ev, St.set, upd, Nat.reduceEqDiff, reduceIte, if_false, if_true, hNm, Nat.add_eq_left, Nat.left_eq_add, Nat.add_assoc, Nat.reduceAdd, if_false, if_true]; exact rfl) ?_ ?_ ?_ ?_ ?_; (focus (first | rfl | omega | (simp; done) | (simp; omega) | (simp [szOf, tab]; done) | (simp [szOf, tab]; omega))); (focus (first | rfl | omega | (simp; done) | (simp; omega) | (simp [szOf, tab]; done) | (simp [szOf, tab]; omega))); (focus (first | rfl | omega | (simp; done) | (simp; omega) | (simp [szOf, tab]; done) | (simp [szOf, tab]; omega))); (focus (first | rfl | (simp [AV.cell, Value.oneCell']; done))); (try simp only [go_sem, Nat.reduceAdd, Nat.reduceMul, Nat.reduceEqDiff, Nat.reduceLT, reduceIte, reduceCtorEq, hNm, Nat.add_eq_left, Nat.left_eq_add, Nat.add_assoc, Nat.reduceAdd, if_false, if_true])) | (with_reducible refine And.intro (fun hb => ?_) (fun hb => ?_)) | (exfalso; omega) | fail)
      refine ⟨(upd (upd (upd (upd H n (some ⟨true, .ints .i64 [xs.getD i 0]⟩)) (n + 1) (some ⟨true, .cells [.sl n 0 1 1 none]⟩)) O none) (n + 2) (some ⟨true, .cells (slsN f 0 xss ++ [.sl n 0 1 1 none])⟩), n + 3, n + 2, (fun j => if j = xss.length then n else f j), i + 1), ⟨by dsimp only; omega, ?_, by dsimp only; omega, ?_, ?_⟩, by dsimp only; omega, Wk.sub (tsb (tsb (tsb tsb0 rfl) (by rw [hxl]; rfl)) rfl) (fun _ _ h => h) rfl⟩
      · (try dsimp only); (repeat (first | rw [upd_same] | rw [upd_ne _ _ (by omega)]))
        exact H0
      · dsimp only
        rw [hup, hput]
        refine hR.push (m := n) (Nat.le_refl _) (by omega) ?_ ?_ (fun u h1 h2 => ?_)
        · (try dsimp only); (repeat (first | rw [upd_same] | rw [upd_ne _ _ (by omega)])); rfl
        · (try dsimp only); (repeat (first | rw [upd_same] | rw [upd_ne _ _ (by omega)]))
        · (try dsimp only); (repeat (first | rw [upd_same] | rw [upd_ne _ _ (by omega)]))
      · intro j hj
        dsimp only at hj ⊢
        rw [hxl] at hj
        by_cases c : j = xss.length
        · rw [if_pos c]; omega
        · rw [if_neg c]; exact hf0 j (by omega)
  · skip
    have hie : i = xs.length := by omega
    subst hie
    rw [hxss] at hQ
    refine awp_gather (ik := .i64) (len := xss.length) 2 O (by simp only [upd, Nat.reduceEqDiff, if_true, if_false, reduceIte]) hO hR.gat hR.nodup ?_


    repeat' (first | refine awp_seq_k fun K hK => ?_ | ((with_reducible refine hK _ ?_); clear hK K) | (clear hK K; (with_reducible refine hK _ ?_); clear hK K) | (clear hK K; clear hK K; (with_reducible refine hK _ ?_); clear hK K) | (clear hK K; clear hK K; clear hK K; (with_reducible refine hK _ ?_); clear hK K) | (clear hK K; clear hK K; clear hK K; clear hK K; (with_reducible refine hK _ ?_); clear hK K) | (clear hK K; clear hK K; clear hK K; clear hK K; clear hK K; (with_reducible refine hK _ ?_); clear hK K) | ((with_reducible refine aord_plain fun K hK => ?_); simp only [go_sem, Nat.reduceAdd, Nat.reduceMul, Nat.reduceEqDiff, Nat.reduceLT, reduceIte, reduceCtorEq, hsl]) | ((with_reducible apply aord_guard); (focus (simp only [St.ev, St.set, upd, Nat.reduceEqDiff, reduceIte, if_false, if_true]; exact rfl)); all_goals (intro hb; (try simp only [Bool.not_true, Bool.not_false] at hb); first | (cases hb; done) | ((try rw [hb]); (try simp only [Bool.not_eq_true', Bool.not_eq_false', Bool.and_eq_true, decide_eq_true_eq, decide_eq_false_iff_not, beq_iff_eq, bne_iff_ne, beq_eq_false_iff_ne, bne_eq_false_iff_eq, Int.not_lt, Int.not_le] at hb); (try (revert hb; with_reducible refine true_imp_iff.2 ?_)); first | (intro K hK; simp only [go_sem, Nat.reduceAdd, Nat.reduceMul, Nat.reduceEqDiff, Nat.reduceLT, reduceIte, reduceCtorEq]) | (simp only [St.ev, St.set, upd, Nat.reduceEqDiff, reduceIte, if_false, if_true]) | skip))) | ((with_reducible apply aord_skip); (focus (simp only [St.ev, St.set, upd, Nat.reduceEqDiff, reduceIte, if_false, if_true]; done)); (simp only [St.ev, St.set, upd, Nat.reduceEqDiff, reduceIte, if_false, if_true])) | refine awp_block ?_ | ((first | with_reducible refine aord_nil ?_ | refine awp_skip ?_ | refine awp_exit ?_ | refine awp_ret ?_); try simp only [thenA_normal, thenA_exit, thenA_goto, thenA_ret, blockA_normal, blockA_same, blockA_exit, blockA_goto, blockA_ret, Nat.reduceEqDiff, if_false, if_true, reduceIte]) | (refine awp_region tabOk rfl ?_; simp only [prep, pickO, List.map_cons, List.map_nil, List.getElem?_toArray, List.getElem?_cons_succ, List.getElem?_cons_zero, Option.bind_some, Option.map_some]) | (refine awp_region_draw (nt := 64) (id := 6) tabOk [(0, true, false), (1, true, false), (2, true, false), (3, true, false), (4, true, false), (5, true, false), (6, true, false), (7, true, false), (8, true, false), (9, true, false), (10, true, false), (11, true, false), (12, true, false), (13, true, false), (14, true, false), (15, true, false), (16, true, false), (17, true, false), (18, true, false), (19, true, false), (20, true, false), (21, true, false), (22, true, false)] (by kernel_rfl) rfl (by kernel_rfl) ?_; simp only [prep, pickO, List.map_cons, List.map_nil, List.getElem?_toArray, List.getElem?_cons_succ, List.getElem?_cons_zero, Option.bind_some, Option.map_some]) | (refine awp_region_draw (nt := 64) (id := 10) tabOk [(0, true, false), (1, true, false), (2, true, false), (3, true, false), (4, true, false), (5, true, false), (6, true, false), (7, true, false), (8, true, false), (9, true, false), (10, false, false), (11, false, true), (12, true, false), (13, false, false)] (by kernel_rfl) rfl (by kernel_rfl) ?_; simp only [prep, pickO, List.map_cons, List.map_nil, List.getElem?_toArray, List.getElem?_cons_succ, List.getElem?_cons_zero, Option.bind_some, Option.map_some]) | ((with_reducible apply awp_cond); (focus (simp only [St.ev, St.set, upd, Nat.reduceEqDiff, reduceIte, if_false, if_true]; exact rfl)); all_goals (intro hb; first | (cases hb; done) | ((try rw [hb]); (try simp only [decide_eq_true_eq, decide_eq_false_iff_not, beq_iff_eq, bne_iff_ne, beq_eq_false_iff_ne, bne_eq_false_iff_eq, Int.not_lt, Int.not_le, Bool.not_eq_true', Bool.not_eq_false'] at hb)))) | ((with_reducible refine And.intro ?_ ?_); (focus omega)) | ((with_reducible refine And.intro ?_ ?_); (focus (exact rfl))) | (refine aAppend_ints rfl rfl rfl rfl (Nat.le_of_ble_eq_true rfl) (by simp only [St.ev, St.set, upd, Nat.reduceEqDiff, reduceIte, if_false, if_true]; exact rfl) (by simp only [St.ev, St.set, upd, Nat.reduceEqDiff, reduceIte, if_false, if_true]; exact rfl) rfl (by first | decide | omega | (simp; done) | fail) ?_ ?_ ?_ ?_; (focus (first | rfl | omega | (simp; done) | (simp; omega) | (simp [szOf, tab]; done) | (simp [szOf, tab]; omega))); (focus (first | rfl | omega | (simp; done) | (simp; omega) | (simp [szOf, tab]; done) | (simp [szOf, tab]; omega))); (focus (first | rfl | omega | (simp; done) | (simp; omega) | (simp [szOf, tab]; done) | (simp [szOf, tab]; omega))); (try simp only [go_sem, Nat.reduceAdd, Nat.reduceMul, Nat.reduceEqDiff, Nat.reduceLT, reduceIte, reduceCtorEq])) | (refine aAppend_none rfl rfl rfl rfl (Nat.le_of_ble_eq_true rfl) (by simp only [St.ev, St.set, upd, Nat.reduceEqDiff, reduceIte, if_false, if_true]; exact rfl) ?_ ?_ ?_; (focus (first | rfl | omega | (simp; done) | (simp; omega) | (simp [szOf, tab]; done) | (simp [szOf, tab]; omega))); (focus (first | rfl | omega | (simp; done) | (simp; omega) | (simp [szOf, tab]; done) | (simp [szOf, tab]; omega))); (try simp only [go_sem, Nat.reduceAdd, Nat.reduceMul, Nat.reduceEqDiff, Nat.reduceLT, reduceIte, reduceCtorEq])) | (refine aAppend_row rfl rfl rfl rfl (Nat.le_of_ble_eq_true rfl) (by simp only [St.ev, St.set, upd, Nat.reduceEqDiff, reduceIte, if_false, if_true]; exact rfl) (by simp only [St.ev, St.set, upd, Nat.reduceEqDiff, reduceIte, if_false, if_true]; exact rfl) rfl ?_ ?_ ?_ ?_ ?_; (focus (first | rfl | omega | (simp; done) | (simp; omega) | (simp [szOf, tab]; done) | (simp [szOf, tab]; omega))); (focus (first | rfl | omega | (simp; done) | (simp; omega) | (simp [szOf, tab]; done) | (simp [szOf, tab]; omega))); (focus (first | rfl | omega | (simp; done) | (simp; omega) | (simp [szOf, tab]; done) | (simp [szOf, tab]; omega))); (focus (first | rfl | omega | (simp; done) | (simp; omega) | (simp [szOf, tab]; done) | (simp [szOf, tab]; omega))); (try simp only [go_sem, Nat.reduceAdd, Nat.reduceMul, Nat.reduceEqDiff, Nat.reduceLT, reduceIte, reduceCtorEq, hsl])) | (simp only [aAppendZ, go_sem, Nat.reduceAdd, Nat.reduceMul, Nat.reduceEqDiff, Nat.reduceLT, reduceIte, reduceCtorEq, hsl]) | (refine aStoreAll_ints (by simp only [St.ev, St.set, upd, Nat.reduceEqDiff, reduceIte, if_false, if_true]; exact rfl) ?_ ?_ ?_ ?_; (focus (first | rfl | omega | (simp; done) | (simp; omega) | (simp [szOf, tab]; done) | (simp [szOf, tab]; omega))); (focus (first | rfl | omega | (simp; done) | (simp; omega) | (simp [szOf, tab]; done) | (simp [szOf, tab]; omega))); (focus (first | rfl | omega | (simp; done) | (simp; omega) | (simp [szOf, tab]; done) | (simp [szOf, tab]; omega))); (try simp only [go_sem, Nat.reduceAdd, Nat.reduceMul, Nat.reduceEqDiff, Nat.reduceLT, reduceIte, reduceCtorEq])) | (refine aStoreAll_cells (by simp only [St.ev, St.set, upd, Nat.reduceEqDiff, reduceIte, if_false, if_true]; exact rfl) ?_ ?_ ?_ ?_ ?_; (focus (first | rfl | omega | (simp; done) | (simp; omega) | (simp [szOf, tab]; done) | (simp [szOf, tab]; omega))); (focus (first | rfl | omega | (simp; done) | (simp; omega) | (simp [szOf, tab]; done) | (simp [szOf, tab]; omega))); (focus (first | rfl | omega | (simp; done) | (simp; omega) | (simp [szOf, tab]; done) | (simp [szOf, tab]; omega))); (focus (first | rfl | (simp [AV.cell, Value.oneCell']; done))); (try simp only [go_sem, Nat.reduceAdd, Nat.reduceMul, Nat.reduceEqDiff, Nat.reduceLT, reduceIte, reduceCtorEq])) | (with_reducible refine And.intro (fun hb => ?_) (fun hb => ?_)) | (exfalso; omega) | fail)
    simp only [St.set, St.ev, doneQ, doneH, ressK, resK, wrapR, AV.ids, AV.idsL, retK, retsK, upd, Nat.reduceEqDiff, reduceIte, if_false, if_true, List.nodup_nil, List.nodup_cons, List.not_mem_nil, not_false_eq_true, true_and, and_true, exists_eq_left', Option.some.injEq, rLoad, cellOf, tab, Ty.isAgg, Ty.one, Bool.false_eq_true]
    exact ⟨rfl, by simp only [Cont.len], hQ⟩

theorem pilRises_sat : Sat Try.prog 94 (fun ds Q => ∃ (a b : Int), ds = [.val (.int .i64 (a)), .val (.int .i64 (b))] ∧ Q (.val (.bool ((decide (a ≤ b)))))) := by
  refine sat_intro tabOk Try.func94 rfl 8 rfl [.tmp 4] rfl ?_
  rintro ds Q W ⟨a, b, rfl, hQ⟩
  refine ⟨Nat.le_of_ble_eq_true rfl, ?_⟩
  simp only [initS, initT, mat.matL, mat, Cont.len]
  repeat' (first | refine awp_seq_k fun K hK => ?_ | ((with_reducible refine hK _ ?_); clear hK K) | (clear hK K; (with_reducible refine hK _ ?_); clear hK K) | (clear hK K; clear hK K; (with_reducible refine hK _ ?_); clear hK K) | (clear hK K; clear hK K; clear hK K; (with_reducible refine hK _ ?_); clear hK K) | (clear hK K; clear hK K; clear hK K; clear hK K; (with_reducible refine hK _ ?_); clear hK K) | (clear hK K; clear hK K; clear hK K; clear hK K; clear hK K; (with_reducible refine hK _ ?_); clear hK K) | ((with_reducible refine aord_plain fun K hK => ?_); simp only [go_sem, Nat.reduceAdd, Nat.reduceMul, Nat.reduceEqDiff, Nat.reduceLT, reduceIte, reduceCtorEq]) | refine awp_block ?_ | ((first | with_reducible refine aord_nil ?_ | refine awp_skip ?_ | refine awp_exit ?_ | refine awp_ret ?_); try simp only [thenA_normal, thenA_exit, thenA_goto, thenA_ret, blockA_normal, blockA_same, blockA_exit, blockA_goto, blockA_ret, Nat.reduceEqDiff, if_false, if_true, reduceIte]) | (refine awp_region tabOk rfl ?_; simp only [prep, pickO, List.map_cons, List.map_nil, List.getElem?_toArray, List.getElem?_cons_succ, List.getElem?_cons_zero, Option.bind_some, Option.map_some]) | ((with_reducible refine And.intro ?_ ?_); (focus omega)) | ((with_reducible refine And.intro ?_ ?_); (focus (exact rfl))) | (with_reducible refine And.intro (fun hb => ?_) (fun hb => ?_)) | (exfalso; omega) | fail)
  all_goals simp only [St.set, St.ev, doneQ, doneH, ressK, resK, wrapR, AV.ids, AV.idsL, retK, retsK, upd, Nat.reduceEqDiff, reduceIte, if_false, if_true, List.nodup_nil, List.nodup_cons, List.not_mem_nil, not_false_eq_true, true_and, and_true, exists_eq_left', Option.some.injEq, rLoad, cellOf, tab, Ty.isAgg, Ty.one, Bool.false_eq_true]
  exact hQ


end Go.Proofs.Ytcgcbpkociaphaa
