/- Contracts of functions of the program. -/
import Derived.Test.YtcgcbpkociaphaaPQuick2b
import Derived.ScopeJumps
namespace Go.Proofs.Ytcgcbpkociaphaa
open Go Go.Ab
set_option linter.all false
set_option maxHeartbeats 4000000

theorem someKeys_sat : SatH Try.prog 58 (fun al h n K => ∃ (bs : List Int) (L : Nat) (lim : Option Nat) (q : Nat), al = [.ref 1 0] ∧ (n = 2) ∧ (h 0 = some ⟨false, .ints .u8 bs⟩) ∧ (h 1 = some ⟨true, .cells [.sl 0 0 L 1 lim, .val (.int .i64 q)]⟩) ∧ (L ≤ bs.length ∧ L ≤ 1099511627776) ∧ (bytesOk bs) ∧ (q ≤ 800000) ∧ ∀ (ys : List Int) (r : Nat), ys.length ≤ 17 → r ≤ q + 30 → K (.sl 2 0 ys.length 1 none) (upd (upd h 1 (some ⟨true, .cells [.sl 0 0 L 1 lim, .val (.int .i64 r)]⟩)) 2 (some ⟨true, .ints .i64 ys⟩)) (3)) := by
  refine satH_intro tabOk Try.func58 rfl 7 rfl [.tmp 2] rfl ?_
  rintro F W h n al K0 ⟨bs, L, lim, q, rfl, hn, h0, h1, hL, hbs, hq, hQ⟩
  refine ⟨Nat.le_of_ble_eq_true rfl, fun m0 hm0 hcl hlt => ?_⟩
  simp only [initT]
  subst hn
  have hclO := hcl
  repeat' (first | refine awp_seq_k fun K hK => ?_ | ((with_reducible refine hK _ ?_); clear hK K) | (clear hK K; (with_reducible refine hK _ ?_); clear hK K) | (clear hK K; clear hK K; (with_reducible refine hK _ ?_); clear hK K) | (clear hK K; clear hK K; clear hK K; (with_reducible refine hK _ ?_); clear hK K) | (clear hK K; clear hK K; clear hK K; clear hK K; (with_reducible refine hK _ ?_); clear hK K) | (clear hK K; clear hK K; clear hK K; clear hK K; clear hK K; (with_reducible refine hK _ ?_); clear hK K) | ((with_reducible refine aord_plain fun K hK => ?_); simp only [go_sem, Nat.reduceAdd, Nat.reduceMul, Nat.reduceEqDiff, Nat.reduceLT, reduceIte, reduceCtorEq, h0, h1]) | refine awp_block ?_ | ((first | with_reducible refine aord_nil ?_ | refine awp_skip ?_ | refine awp_exit ?_ | refine awp_ret ?_); try simp only [thenA_normal, thenA_exit, thenA_goto, thenA_ret, blockA_normal, blockA_same, blockA_exit, blockA_goto, blockA_ret, Nat.reduceEqDiff, if_false, if_true, reduceIte]) | (refine awp_region tabOk rfl ?_; simp only [prep, pickO, List.map_cons, List.map_nil, List.getElem?_toArray, List.getElem?_cons_succ, List.getElem?_cons_zero, Option.bind_some, Option.map_some]) | ((with_reducible apply awp_cond); (focus (simp only [St.ev, St.set, upd, Nat.reduceEqDiff, reduceIte, if_false, if_true]; exact rfl)); all_goals (intro hb; first | (cases hb; done) | ((try rw [hb]); (try simp only [decide_eq_true_eq, decide_eq_false_iff_not, beq_iff_eq, bne_iff_ne, beq_eq_false_iff_ne, bne_eq_false_iff_eq, Int.not_lt, Int.not_le, Bool.not_eq_true', Bool.not_eq_false'] at hb)))) | ((with_reducible refine And.intro ?_ ?_); (focus omega)) | ((with_reducible refine And.intro ?_ ?_); (focus (exact rfl))) | ((with_reducible refine And.intro (?_ : enters Try.prog 99) ?_); (focus exact Try.call99); (refine callX_satH pick_sat ?_); simp only [go_sem, and_assoc, List.nil_append, List.append_nil, List.cons_append, Nat.reduceEqDiff, reduceIte, reduceCtorEq, h0, h1]) | ((with_reducible refine And.intro (?_ : enters Try.prog 83) ?_); (focus exact Try.call83); (refine callX_satH one_sat ?_); simp only [go_sem, and_assoc, List.nil_append, List.append_nil, List.cons_append, Nat.reduceEqDiff, reduceIte, reduceCtorEq, h0, h1]) | ((with_reducible refine And.intro (?_ : enters Try.prog 93) ?_); (focus exact Try.call93); (refine callX_satH goodKeys_sat ?_); simp only [go_sem, and_assoc, List.nil_append, List.append_nil, List.cons_append, Nat.reduceEqDiff, reduceIte, reduceCtorEq, h0, h1]) | ((with_reducible refine And.intro (?_ : enters Try.prog 92) ?_); (focus exact Try.call92); (refine callX_h (callH_inline tabOk Try.func92 rfl 27 rfl [.tmp 4] rfl (Nat.le_of_ble_eq_true rfl) fun m0 hm0 hcl hlt => ?_)); simp only [initT, St.ev, St.set, upd, Nat.reduceEqDiff, reduceIte, if_false, if_true]) | (refine aAppend_ints rfl rfl rfl rfl (Nat.le_of_ble_eq_true rfl) (by simp only [St.ev, St.set, upd, Nat.reduceEqDiff, reduceIte, if_false, if_true]; exact rfl) (by simp only [St.ev, St.set, upd, Nat.reduceEqDiff, reduceIte, if_false, if_true]; exact rfl) rfl (by first | decide | omega | (simp; done) | fail) ?_ ?_ ?_ ?_; (focus (first | rfl | omega | (simp; done) | (simp; omega) | (simp [szOf, tab]; done) | (simp [szOf, tab]; omega))); (focus (first | rfl | omega | (simp; done) | (simp; omega) | (simp [szOf, tab]; done) | (simp [szOf, tab]; omega))); (focus (first | rfl | omega | (simp; done) | (simp; omega) | (simp [szOf, tab]; done) | (simp [szOf, tab]; omega))); (try simp only [go_sem, Nat.reduceAdd, Nat.reduceMul, Nat.reduceEqDiff, Nat.reduceLT, reduceIte, reduceCtorEq])) | (refine aAppend_none rfl rfl rfl rfl (Nat.le_of_ble_eq_true rfl) (by simp only [St.ev, St.set, upd, Nat.reduceEqDiff, reduceIte, if_false, if_true]; exact rfl) ?_ ?_ ?_; (focus (first | rfl | omega | (simp; done) | (simp; omega) | (simp [szOf, tab]; done) | (simp [szOf, tab]; omega))); (focus (first | rfl | omega | (simp; done) | (simp; omega) | (simp [szOf, tab]; done) | (simp [szOf, tab]; omega))); (try simp only [go_sem, Nat.reduceAdd, Nat.reduceMul, Nat.reduceEqDiff, Nat.reduceLT, reduceIte, reduceCtorEq])) | (refine aStoreAll_ints (by simp only [St.ev, St.set, upd, Nat.reduceEqDiff, reduceIte, if_false, if_true]; exact rfl) ?_ ?_ ?_ ?_; (focus (first | rfl | omega | (simp; done) | (simp; omega) | (simp [szOf, tab]; done) | (simp [szOf, tab]; omega))); (focus (first | rfl | omega | (simp; done) | (simp; omega) | (simp [szOf, tab]; done) | (simp [szOf, tab]; omega))); (focus (first | rfl | omega | (simp; done) | (simp; omega) | (simp [szOf, tab]; done) | (simp [szOf, tab]; omega))); (try simp only [go_sem, Nat.reduceAdd, Nat.reduceMul, Nat.reduceEqDiff, Nat.reduceLT, reduceIte, reduceCtorEq])) | (simp only [doneH]; simp only [ressK, resK, wrapR, go_sem, Nat.reduceAdd, Nat.reduceMul, Nat.reduceEqDiff, Nat.reduceLT, reduceIte, reduceCtorEq]) | (refine aStoreAll_cells (by simp only [St.ev, St.set, upd, Nat.reduceEqDiff, reduceIte, if_false, if_true]; exact rfl) ?_ ?_ ?_ ?_ ?_; (focus (first | rfl | omega | (simp; done) | (simp; omega) | (simp [szOf, tab]; done) | (simp [szOf, tab]; omega))); (focus (first | rfl | omega | (simp; done) | (simp; omega) | (simp [szOf, tab]; done) | (simp [szOf, tab]; omega))); (focus (first | rfl | omega | (simp; done) | (simp; omega) | (simp [szOf, tab]; done) | (simp [szOf, tab]; omega))); (focus (first | rfl | (simp [AV.cell, Value.oneCell']; done))); (try simp only [go_sem, Nat.reduceAdd, Nat.reduceMul, Nat.reduceEqDiff, Nat.reduceLT, reduceIte, reduceCtorEq])) | (with_reducible refine And.intro (fun hb => ?_) (fun hb => ?_)) | (exfalso; omega) | fail)
  refine ⟨L, lim, q, rfl, hL.1, hL.2, hbs, by omega, ?_⟩
  intro ks r hks hr
  repeat' (first | refine awp_seq_k fun K hK => ?_ | ((with_reducible refine hK _ ?_); clear hK K) | (clear hK K; (with_reducible refine hK _ ?_); clear hK K) | (clear hK K; clear hK K; (with_reducible refine hK _ ?_); clear hK K) | (clear hK K; clear hK K; clear hK K; (with_reducible refine hK _ ?_); clear hK K) | (clear hK K; clear hK K; clear hK K; clear hK K; (with_reducible refine hK _ ?_); clear hK K) | (clear hK K; clear hK K; clear hK K; clear hK K; clear hK K; (with_reducible refine hK _ ?_); clear hK K) | ((with_reducible refine aord_plain fun K hK => ?_); simp only [go_sem, Nat.reduceAdd, Nat.reduceMul, Nat.reduceEqDiff, Nat.reduceLT, reduceIte, reduceCtorEq, h0, h1]) | refine awp_block ?_ | ((first | with_reducible refine aord_nil ?_ | refine awp_skip ?_ | refine awp_exit ?_ | refine awp_ret ?_); try simp only [thenA_normal, thenA_exit, thenA_goto, thenA_ret, blockA_normal, blockA_same, blockA_exit, blockA_goto, blockA_ret, Nat.reduceEqDiff, if_false, if_true, reduceIte]) | (refine awp_region tabOk rfl ?_; simp only [prep, pickO, List.map_cons, List.map_nil, List.getElem?_toArray, List.getElem?_cons_succ, List.getElem?_cons_zero, Option.bind_some, Option.map_some]) | ((with_reducible apply awp_cond); (focus (simp only [St.ev, St.set, upd, Nat.reduceEqDiff, reduceIte, if_false, if_true]; exact rfl)); all_goals (intro hb; first | (cases hb; done) | ((try rw [hb]); (try simp only [decide_eq_true_eq, decide_eq_false_iff_not, beq_iff_eq, bne_iff_ne, beq_eq_false_iff_ne, bne_eq_false_iff_eq, Int.not_lt, Int.not_le, Bool.not_eq_true', Bool.not_eq_false'] at hb)))) | ((with_reducible refine And.intro ?_ ?_); (focus omega)) | ((with_reducible refine And.intro ?_ ?_); (focus (exact rfl))) | ((with_reducible refine And.intro (?_ : enters Try.prog 99) ?_); (focus exact Try.call99); (refine callX_satH pick_sat ?_); simp only [go_sem, and_assoc, List.nil_append, List.append_nil, List.cons_append, Nat.reduceEqDiff, reduceIte, reduceCtorEq, h0, h1]) | ((with_reducible refine And.intro (?_ : enters Try.prog 83) ?_); (focus exact Try.call83); (refine callX_satH one_sat ?_); simp only [go_sem, and_assoc, List.nil_append, List.append_nil, List.cons_append, Nat.reduceEqDiff, reduceIte, reduceCtorEq, h0, h1]) | ((with_reducible refine And.intro (?_ : enters Try.prog 93) ?_); (focus exact Try.call93); (refine callX_satH goodKeys_sat ?_); simp only [go_sem, and_assoc, List.nil_append, List.append_nil, List.cons_append, Nat.reduceEqDiff, reduceIte, reduceCtorEq, h0, h1]) | ((with_reducible refine And.intro (?_ : enters Try.prog 92) ?_); (focus exact Try.call92); (refine callX_h (callH_inline tabOk Try.func92 rfl 27 rfl [.tmp 4] rfl (Nat.le_of_ble_eq_true rfl) fun m0 hm0 hcl hlt => ?_)); simp only [initT, St.ev, St.set, upd, Nat.reduceEqDiff, reduceIte, if_false, if_true]) | (refine aAppend_ints rfl rfl rfl rfl (Nat.le_of_ble_eq_true rfl) (by simp only [St.ev, St.set, upd, Nat.reduceEqDiff, reduceIte, if_false, if_true]; exact rfl) (by simp only [St.ev, St.set, upd, Nat.reduceEqDiff, reduceIte, if_false, if_true]; exact rfl) rfl (by first | decide | omega | (simp; done) | fail) ?_ ?_ ?_ ?_; (focus (first | rfl | omega | (simp; done) | (simp; omega) | (simp [szOf, tab]; done) | (simp [szOf, tab]; omega))); (focus (first | rfl | omega | (simp; done) | (simp; omega) | (simp [szOf, tab]; done) | (simp [szOf, tab]; omega))); (focus (first | rfl | omega | (simp; done) | (simp; omega) | (simp [szOf, tab]; done) | (simp [szOf, tab]; omega))); (try simp only [go_sem, Nat.reduceAdd, Nat.reduceMul, Nat.reduceEqDiff, Nat.reduceLT, reduceIte, reduceCtorEq])) | (refine aAppend_none rfl rfl rfl rfl (Nat.le_of_ble_eq_true rfl) (by simp only [St.ev, St.set, upd, Nat.reduceEqDiff, reduceIte, if_false, if_true]; exact rfl) ?_ ?_ ?_; (focus (first | rfl | omega | (simp; done) | (simp; omega) | (simp [szOf, tab]; done) | (simp [szOf, tab]; omega))); (focus (first | rfl | omega | (simp; done) | (simp; omega) | (simp [szOf, tab]; done) | (simp [szOf, tab]; omega))); (try simp only [go_sem, Nat.reduceAdd, Nat.reduceMul, Nat.reduceEqDiff, Nat.reduceLT, reduceIte, reduceCtorEq])) | (refine aStoreAll_ints (by simp only [St.ev, St.set, upd, Nat.reduceEqDiff, reduceIte, if_false, if_true]; exact rfl) ?_ ?_ ?_ ?_; (focus (first | rfl | omega | (simp; done) | (simp; omega) | (simp [szOf, tab]; done) | (simp [szOf, tab]; omega))); (focus (first | rfl | omega | (simp; done) | (simp; omega) | (simp [szOf, tab]; done) | (simp [szOf, tab]; omega))); (focus (first | rfl | omega | (simp; done) | (simp; omega) | (simp [szOf, tab]; done) | (simp [szOf, tab]; omega))); (try simp only [go_sem, Nat.reduceAdd, Nat.reduceMul, Nat.reduceEqDiff, Nat.reduceLT, reduceIte, reduceCtorEq])) | (simp only [doneH]; simp only [ressK, resK, wrapR, go_sem, Nat.reduceAdd, Nat.reduceMul, Nat.reduceEqDiff, Nat.reduceLT, reduceIte, reduceCtorEq]) | (refine aStoreAll_cells (by simp only [St.ev, St.set, upd, Nat.reduceEqDiff, reduceIte, if_false, if_true]; exact rfl) ?_ ?_ ?_ ?_ ?_; (focus (first | rfl | omega | (simp; done) | (simp; omega) | (simp [szOf, tab]; done) | (simp [szOf, tab]; omega))); (focus (first | rfl | omega | (simp; done) | (simp; omega) | (simp [szOf, tab]; done) | (simp [szOf, tab]; omega))); (focus (first | rfl | omega | (simp; done) | (simp; omega) | (simp [szOf, tab]; done) | (simp [szOf, tab]; omega))); (focus (first | rfl | (simp [AV.cell, Value.oneCell']; done))); (try simp only [go_sem, Nat.reduceAdd, Nat.reduceMul, Nat.reduceEqDiff, Nat.reduceLT, reduceIte, reduceCtorEq])) | (with_reducible refine And.intro (fun hb => ?_) (fun hb => ?_)) | (exfalso; omega) | fail)
  refine ⟨L, lim, r, rfl, hL.1, hL.2, hbs, by omega, by omega, ?_⟩
  intro w hw0 hw1
  repeat' ((fail_if_success (with_reducible refine isRet K0 ?_)); (first | refine awp_seq_k fun K hK => ?_ | ((with_reducible refine hK _ ?_); clear hK K) | (clear hK K; (with_reducible refine hK _ ?_); clear hK K) | (clear hK K; clear hK K; (with_reducible refine hK _ ?_); clear hK K) | (clear hK K; clear hK K; clear hK K; (with_reducible refine hK _ ?_); clear hK K) | (clear hK K; clear hK K; clear hK K; clear hK K; (with_reducible refine hK _ ?_); clear hK K) | (clear hK K; clear hK K; clear hK K; clear hK K; clear hK K; (with_reducible refine hK _ ?_); clear hK K) | ((with_reducible refine aord_plain fun K hK => ?_); simp only [go_sem, Nat.reduceAdd, Nat.reduceMul, Nat.reduceEqDiff, Nat.reduceLT, reduceIte, reduceCtorEq, h0, h1]) | refine awp_block ?_ | ((first | with_reducible refine aord_nil ?_ | refine awp_skip ?_ | refine awp_exit ?_ | refine awp_ret ?_); try simp only [thenA_normal, thenA_exit, thenA_goto, thenA_ret, blockA_normal, blockA_same, blockA_exit, blockA_goto, blockA_ret, Nat.reduceEqDiff, if_false, if_true, reduceIte]) | (refine awp_region tabOk rfl ?_; simp only [prep, pickO, List.map_cons, List.map_nil, List.getElem?_toArray, List.getElem?_cons_succ, List.getElem?_cons_zero, Option.bind_some, Option.map_some]) | ((with_reducible apply awp_cond); (focus (simp only [St.ev, St.set, upd, Nat.reduceEqDiff, reduceIte, if_false, if_true]; exact rfl)); all_goals (intro hb; first | (cases hb; done) | ((try rw [hb]); (try simp only [decide_eq_true_eq, decide_eq_false_iff_not, beq_iff_eq, bne_iff_ne, beq_eq_false_iff_ne, bne_eq_false_iff_eq, Int.not_lt, Int.not_le, Bool.not_eq_true', Bool.not_eq_false'] at hb)))) | ((with_reducible refine And.intro ?_ ?_); (focus omega)) | ((with_reducible refine And.intro ?_ ?_); (focus (exact rfl))) | ((with_reducible refine And.intro (?_ : enters Try.prog 99) ?_); (focus exact Try.call99); (refine callX_satH pick_sat ?_); simp only [go_sem, and_assoc, List.nil_append, List.append_nil, List.cons_append, Nat.reduceEqDiff, reduceIte, reduceCtorEq, h0, h1]) | ((with_reducible refine And.intro (?_ : enters Try.prog 83) ?_); (focus exact Try.call83); (refine callX_satH one_sat ?_); simp only [go_sem, and_assoc, List.nil_append, List.append_nil, List.cons_append, Nat.reduceEqDiff, reduceIte, reduceCtorEq, h0, h1]) | ((with_reducible refine And.intro (?_ : enters Try.prog 93) ?_); (focus exact Try.call93); (refine callX_satH goodKeys_sat ?_); simp only [go_sem, and_assoc, List.nil_append, List.append_nil, List.cons_append, Nat.reduceEqDiff, reduceIte, reduceCtorEq, h0, h1]) | ((with_reducible refine And.intro (?_ : enters Try.prog 92) ?_); (focus exact Try.call92); (refine callX_h (callH_inline tabOk Try.func92 rfl 27 rfl [.tmp 4] rfl (Nat.le_of_ble_eq_true rfl) fun m0 hm0 hcl hlt => ?_)); simp only [initT, St.ev, St.set, upd, Nat.reduceEqDiff, reduceIte, if_false, if_true]) | (refine aAppend_ints rfl rfl rfl rfl (Nat.le_of_ble_eq_true rfl) (by simp only [St.ev, St.set, upd, Nat.reduceEqDiff, reduceIte, if_false, if_true]; exact rfl) (by simp only [St.ev, St.set, upd, Nat.reduceEqDiff, reduceIte, if_false, if_true]; exact rfl) rfl (by first | decide | omega | (simp; done) | fail) ?_ ?_ ?_ ?_; (focus (first | rfl | omega | (simp; done) | (simp; omega) | (simp [szOf, tab]; done) | (simp [szOf, tab]; omega))); (focus (first | rfl | omega | (simp; done) | (simp; omega) | (simp [szOf, tab]; done) | (simp [szOf, tab]; omega))); (focus (first | rfl | omega | (simp; done) | (simp; omega) | (simp [szOf, tab]; done) | (simp [szOf, tab]; omega))); (try simp only [go_sem, Nat.reduceAdd, Nat.reduceMul, Nat.reduceEqDiff, Nat.reduceLT, reduceIte, reduceCtorEq])) | (refine aAppend_none rfl rfl rfl rfl (Nat.le_of_ble_eq_true rfl) (by simp only [St.ev, St.set, upd, Nat.reduceEqDiff, reduceIte, if_false, if_true]; exact rfl) ?_ ?_ ?_; (focus (first | rfl | omega | (simp; done) | (simp; omega) | (simp [szOf, tab]; done) | (simp [szOf, tab]; omega))); (focus (first | rfl | omega | (simp; done) | (simp; omega) | (simp [szOf, tab]; done) | (simp [szOf, tab]; omega))); (try simp only [go_sem, Nat.reduceAdd, Nat.reduceMul, Nat.reduceEqDiff, Nat.reduceLT, reduceIte, reduceCtorEq])) | (refine aStoreAll_ints (by simp only [St.ev, St.set, upd, Nat.reduceEqDiff, reduceIte, if_false, if_true]; exact rfl) ?_ ?_ ?_ ?_; (focus (first | rfl | omega | (simp; done) | (simp; omega) | (simp [szOf, tab]; done) | (simp [szOf, tab]; omega))); (focus (first | rfl | omega | (simp; done) | (simp; omega) | (simp [szOf, tab]; done) | (simp [szOf, tab]; omega))); (focus (first | rfl | omega | (simp; done) | (simp; omega) | (simp [szOf, tab]; done) | (simp [szOf, tab]; omega))); (try simp only [go_sem, Nat.reduceAdd, Nat.reduceMul, Nat.reduceEqDiff, Nat.reduceLT, reduceIte, reduceCtorEq])) | (simp only [doneH]; simp only [ressK, resK, wrapR, go_sem, Nat.reduceAdd, Nat.reduceMul, Nat.reduceEqDiff, Nat.reduceLT, reduceIte, reduceCtorEq]) | (refine aStoreAll_cells (by simp only [St.ev, St.set, upd, Nat.reduceEqDiff, reduceIte, if_false, if_true]; exact rfl) ?_ ?_ ?_ ?_ ?_; (focus (first | rfl | omega | (simp; done) | (simp; omega) | (simp [szOf, tab]; done) | (simp [szOf, tab]; omega))); (focus (first | rfl | omega | (simp; done) | (simp; omega) | (simp [szOf, tab]; done) | (simp [szOf, tab]; omega))); (focus (first | rfl | omega | (simp; done) | (simp; omega) | (simp [szOf, tab]; done) | (simp [szOf, tab]; omega))); (focus (first | rfl | (simp [AV.cell, Value.oneCell']; done))); (try simp only [go_sem, Nat.reduceAdd, Nat.reduceMul, Nat.reduceEqDiff, Nat.reduceLT, reduceIte, reduceCtorEq])) | (with_reducible refine And.intro (fun hb => ?_) (fun hb => ?_)) | (exfalso; omega) | fail))
  all_goals try (
    refine ⟨L, lim, r + 1, rfl, hL.1, hL.2, hbs, by omega, by omega, ?_⟩
    intro x hx0 hx1)
  repeat' ((fail_if_success (with_reducible refine isRet K0 ?_)); (first | refine awp_seq_k fun K hK => ?_ | ((with_reducible refine hK _ ?_); clear hK K) | (clear hK K; (with_reducible refine hK _ ?_); clear hK K) | (clear hK K; clear hK K; (with_reducible refine hK _ ?_); clear hK K) | (clear hK K; clear hK K; clear hK K; (with_reducible refine hK _ ?_); clear hK K) | (clear hK K; clear hK K; clear hK K; clear hK K; (with_reducible refine hK _ ?_); clear hK K) | (clear hK K; clear hK K; clear hK K; clear hK K; clear hK K; (with_reducible refine hK _ ?_); clear hK K) | ((with_reducible refine aord_plain fun K hK => ?_); simp only [go_sem, Nat.reduceAdd, Nat.reduceMul, Nat.reduceEqDiff, Nat.reduceLT, reduceIte, reduceCtorEq, h0, h1]) | refine awp_block ?_ | ((first | with_reducible refine aord_nil ?_ | refine awp_skip ?_ | refine awp_exit ?_ | refine awp_ret ?_); try simp only [thenA_normal, thenA_exit, thenA_goto, thenA_ret, blockA_normal, blockA_same, blockA_exit, blockA_goto, blockA_ret, Nat.reduceEqDiff, if_false, if_true, reduceIte]) | (refine awp_region tabOk rfl ?_; simp only [prep, pickO, List.map_cons, List.map_nil, List.getElem?_toArray, List.getElem?_cons_succ, List.getElem?_cons_zero, Option.bind_some, Option.map_some]) | ((with_reducible apply awp_cond); (focus (simp only [St.ev, St.set, upd, Nat.reduceEqDiff, reduceIte, if_false, if_true]; exact rfl)); all_goals (intro hb; first | (cases hb; done) | ((try rw [hb]); (try simp only [decide_eq_true_eq, decide_eq_false_iff_not, beq_iff_eq, bne_iff_ne, beq_eq_false_iff_ne, bne_eq_false_iff_eq, Int.not_lt, Int.not_le, Bool.not_eq_true', Bool.not_eq_false'] at hb)))) | ((with_reducible refine And.intro ?_ ?_); (focus omega)) | ((with_reducible refine And.intro ?_ ?_); (focus (exact rfl))) | ((with_reducible refine And.intro (?_ : enters Try.prog 99) ?_); (focus exact Try.call99); (refine callX_satH pick_sat ?_); simp only [go_sem, and_assoc, List.nil_append, List.append_nil, List.cons_append, Nat.reduceEqDiff, reduceIte, reduceCtorEq, h0, h1]) | ((with_reducible refine And.intro (?_ : enters Try.prog 83) ?_); (focus exact Try.call83); (refine callX_satH one_sat ?_); simp only [go_sem, and_assoc, List.nil_append, List.append_nil, List.cons_append, Nat.reduceEqDiff, reduceIte, reduceCtorEq, h0, h1]) | ((with_reducible refine And.intro (?_ : enters Try.prog 93) ?_); (focus exact Try.call93); (refine callX_satH goodKeys_sat ?_); simp only [go_sem, and_assoc, List.nil_append, List.append_nil, List.cons_append, Nat.reduceEqDiff, reduceIte, reduceCtorEq, h0, h1]) | ((with_reducible refine And.intro (?_ : enters Try.prog 92) ?_); (focus exact Try.call92); (refine callX_h (callH_inline tabOk Try.func92 rfl 27 rfl [.tmp 4] rfl (Nat.le_of_ble_eq_true rfl) fun m0 hm0 hcl hlt => ?_)); simp only [initT, St.ev, St.set, upd, Nat.reduceEqDiff, reduceIte, if_false, if_true]) | (refine aAppend_ints rfl rfl rfl rfl (Nat.le_of_ble_eq_true rfl) (by simp only [St.ev, St.set, upd, Nat.reduceEqDiff, reduceIte, if_false, if_true]; exact rfl) (by simp only [St.ev, St.set, upd, Nat.reduceEqDiff, reduceIte, if_false, if_true]; exact rfl) rfl (by first | decide | omega | (simp; done) | fail) ?_ ?_ ?_ ?_; (focus (first | rfl | omega | (simp; done) | (simp; omega) | (simp [szOf, tab]; done) | (simp [szOf, tab]; omega))); (focus (first | rfl | omega | (simp; done) | (simp; omega) | (simp [szOf, tab]; done) | (simp [szOf, tab]; omega))); (focus (first | rfl | omega | (simp; done) | (simp; omega) | (simp [szOf, tab]; done) | (simp [szOf, tab]; omega))); (try simp only [go_sem, Nat.reduceAdd, Nat.reduceMul, Nat.reduceEqDiff, Nat.reduceLT, reduceIte, reduceCtorEq])) | (refine aAppend_none rfl rfl rfl rfl (Nat.le_of_ble_eq_true rfl) (by simp only [St.ev, St.set, upd, Nat.reduceEqDiff, reduceIte, if_false, if_true]; exact rfl) ?_ ?_ ?_; (focus (first | rfl | omega | (simp; done) | (simp; omega) | (simp [szOf, tab]; done) | (simp [szOf, tab]; omega))); (focus (first | rfl | omega | (simp; done) | (simp; omega) | (simp [szOf, tab]; done) | (simp [szOf, tab]; omega))); (try simp only [go_sem, Nat.reduceAdd, Nat.reduceMul, Nat.reduceEqDiff, Nat.reduceLT, reduceIte, reduceCtorEq])) | (refine aStoreAll_ints (by simp only [St.ev, St.set, upd, Nat.reduceEqDiff, reduceIte, if_false, if_true]; exact rfl) ?_ ?_ ?_ ?_; (focus (first | rfl | omega | (simp; done) | (simp; omega) | (simp [szOf, tab]; done) | (simp [szOf, tab]; omega))); (focus (first | rfl | omega | (simp; done) | (simp; omega) | (simp [szOf, tab]; done) | (simp [szOf, tab]; omega))); (focus (first | rfl | omega | (simp; done) | (simp; omega) | (simp [szOf, tab]; done) | (simp [szOf, tab]; omega))); (try simp only [go_sem, Nat.reduceAdd, Nat.reduceMul, Nat.reduceEqDiff, Nat.reduceLT, reduceIte, reduceCtorEq])) | (simp only [doneH]; simp only [ressK, resK, wrapR, go_sem, Nat.reduceAdd, Nat.reduceMul, Nat.reduceEqDiff, Nat.reduceLT, reduceIte, reduceCtorEq]) | (refine aStoreAll_cells (by simp only [St.ev, St.set, upd, Nat.reduceEqDiff, reduceIte, if_false, if_true]; exact rfl) ?_ ?_ ?_ ?_ ?_; (focus (first | rfl | omega | (simp; done) | (simp; omega) | (simp [szOf, tab]; done) | (simp [szOf, tab]; omega))); (focus (first | rfl | omega | (simp; done) | (simp; omega) | (simp [szOf, tab]; done) | (simp [szOf, tab]; omega))); (focus (first | rfl | omega | (simp; done) | (simp; omega) | (simp [szOf, tab]; done) | (simp [szOf, tab]; omega))); (focus (first | rfl | (simp [AV.cell, Value.oneCell']; done))); (try simp only [go_sem, Nat.reduceAdd, Nat.reduceMul, Nat.reduceEqDiff, Nat.reduceLT, reduceIte, reduceCtorEq])) | (with_reducible refine And.intro (fun hb => ?_) (fun hb => ?_)) | (exfalso; omega) | fail))
  all_goals try (
    refine ⟨L, lim, _, r + 2, rfl, hL.1, hL.2, hbs, rfl, rfl, by omega, by omega, by omega, ?_⟩
    intro v hv
    generalize ([100, -100, 4611686018427387904, 99, -99] : List Int).getD v 0 = kk)
  repeat' ((fail_if_success (with_reducible refine isRet K0 ?_)); (first | refine awp_seq_k fun K hK => ?_ | ((with_reducible refine hK _ ?_); clear hK K) | (clear hK K; (with_reducible refine hK _ ?_); clear hK K) | (clear hK K; clear hK K; (with_reducible refine hK _ ?_); clear hK K) | (clear hK K; clear hK K; clear hK K; (with_reducible refine hK _ ?_); clear hK K) | (clear hK K; clear hK K; clear hK K; clear hK K; (with_reducible refine hK _ ?_); clear hK K) | (clear hK K; clear hK K; clear hK K; clear hK K; clear hK K; (with_reducible refine hK _ ?_); clear hK K) | ((with_reducible refine aord_plain fun K hK => ?_); simp only [go_sem, Nat.reduceAdd, Nat.reduceMul, Nat.reduceEqDiff, Nat.reduceLT, reduceIte, reduceCtorEq, h0, h1]) | refine awp_block ?_ | ((first | with_reducible refine aord_nil ?_ | refine awp_skip ?_ | refine awp_exit ?_ | refine awp_ret ?_); try simp only [thenA_normal, thenA_exit, thenA_goto, thenA_ret, blockA_normal, blockA_same, blockA_exit, blockA_goto, blockA_ret, Nat.reduceEqDiff, if_false, if_true, reduceIte]) | (refine awp_region tabOk rfl ?_; simp only [prep, pickO, List.map_cons, List.map_nil, List.getElem?_toArray, List.getElem?_cons_succ, List.getElem?_cons_zero, Option.bind_some, Option.map_some]) | ((with_reducible apply awp_cond); (focus (simp only [St.ev, St.set, upd, Nat.reduceEqDiff, reduceIte, if_false, if_true]; exact rfl)); all_goals (intro hb; first | (cases hb; done) | ((try rw [hb]); (try simp only [decide_eq_true_eq, decide_eq_false_iff_not, beq_iff_eq, bne_iff_ne, beq_eq_false_iff_ne, bne_eq_false_iff_eq, Int.not_lt, Int.not_le, Bool.not_eq_true', Bool.not_eq_false'] at hb)))) | ((with_reducible refine And.intro ?_ ?_); (focus omega)) | ((with_reducible refine And.intro ?_ ?_); (focus (exact rfl))) | ((with_reducible refine And.intro (?_ : enters Try.prog 99) ?_); (focus exact Try.call99); (refine callX_satH pick_sat ?_); simp only [go_sem, and_assoc, List.nil_append, List.append_nil, List.cons_append, Nat.reduceEqDiff, reduceIte, reduceCtorEq, h0, h1]) | ((with_reducible refine And.intro (?_ : enters Try.prog 83) ?_); (focus exact Try.call83); (refine callX_satH one_sat ?_); simp only [go_sem, and_assoc, List.nil_append, List.append_nil, List.cons_append, Nat.reduceEqDiff, reduceIte, reduceCtorEq, h0, h1]) | ((with_reducible refine And.intro (?_ : enters Try.prog 93) ?_); (focus exact Try.call93); (refine callX_satH goodKeys_sat ?_); simp only [go_sem, and_assoc, List.nil_append, List.append_nil, List.cons_append, Nat.reduceEqDiff, reduceIte, reduceCtorEq, h0, h1]) | ((with_reducible refine And.intro (?_ : enters Try.prog 92) ?_); (focus exact Try.call92); (refine callX_h (callH_inline tabOk Try.func92 rfl 27 rfl [.tmp 4] rfl (Nat.le_of_ble_eq_true rfl) fun m0 hm0 hcl hlt => ?_)); simp only [initT, St.ev, St.set, upd, Nat.reduceEqDiff, reduceIte, if_false, if_true]) | (refine aAppend_ints rfl rfl rfl rfl (Nat.le_of_ble_eq_true rfl) (by simp only [St.ev, St.set, upd, Nat.reduceEqDiff, reduceIte, if_false, if_true]; exact rfl) (by simp only [St.ev, St.set, upd, Nat.reduceEqDiff, reduceIte, if_false, if_true]; exact rfl) rfl (by first | decide | omega | (simp; done) | fail) ?_ ?_ ?_ ?_; (focus (first | rfl | omega | (simp; done) | (simp; omega) | (simp [szOf, tab]; done) | (simp [szOf, tab]; omega))); (focus (first | rfl | omega | (simp; done) | (simp; omega) | (simp [szOf, tab]; done) | (simp [szOf, tab]; omega))); (focus (first | rfl | omega | (simp; done) | (simp; omega) | (simp [szOf, tab]; done) | (simp [szOf, tab]; omega))); (try simp only [go_sem, Nat.reduceAdd, Nat.reduceMul, Nat.reduceEqDiff, Nat.reduceLT, reduceIte, reduceCtorEq])) | (refine aAppend_none rfl rfl rfl rfl (Nat.le_of_ble_eq_true rfl) (by simp only [St.ev, St.set, upd, Nat.reduceEqDiff, reduceIte, if_false, if_true]; exact rfl) ?_ ?_ ?_; (focus (first | rfl | omega | (simp; done) | (simp; omega) | (simp [szOf, tab]; done) | (simp [szOf, tab]; omega))); (focus (first | rfl | omega | (simp; done) | (simp; omega) | (simp [szOf, tab]; done) | (simp [szOf, tab]; omega))); (try simp only [go_sem, Nat.reduceAdd, Nat.reduceMul, Nat.reduceEqDiff, Nat.reduceLT, reduceIte, reduceCtorEq])) | (refine aStoreAll_ints (by simp only [St.ev, St.set, upd, Nat.reduceEqDiff, reduceIte, if_false, if_true]; exact rfl) ?_ ?_ ?_ ?_; (focus (first | rfl | omega | (simp; done) | (simp; omega) | (simp [szOf, tab]; done) | (simp [szOf, tab]; omega))); (focus (first | rfl | omega | (simp; done) | (simp; omega) | (simp [szOf, tab]; done) | (simp [szOf, tab]; omega))); (focus (first | rfl | omega | (simp; done) | (simp; omega) | (simp [szOf, tab]; done) | (simp [szOf, tab]; omega))); (try simp only [go_sem, Nat.reduceAdd, Nat.reduceMul, Nat.reduceEqDiff, Nat.reduceLT, reduceIte, reduceCtorEq])) | (simp only [doneH]; simp only [ressK, resK, wrapR, go_sem, Nat.reduceAdd, Nat.reduceMul, Nat.reduceEqDiff, Nat.reduceLT, reduceIte, reduceCtorEq]) | (refine aStoreAll_cells (by simp only [St.ev, St.set, upd, Nat.reduceEqDiff, reduceIte, if_false, if_true]; exact rfl) ?_ ?_ ?_ ?_ ?_; (focus (first | rfl | omega | (simp; done) | (simp; omega) | (simp [szOf, tab]; done) | (simp [szOf, tab]; omega))); (focus (first | rfl | omega | (simp; done) | (simp; omega) | (simp [szOf, tab]; done) | (simp [szOf, tab]; omega))); (focus (first | rfl | omega | (simp; done) | (simp; omega) | (simp [szOf, tab]; done) | (simp [szOf, tab]; omega))); (focus (first | rfl | (simp [AV.cell, Value.oneCell']; done))); (try simp only [go_sem, Nat.reduceAdd, Nat.reduceMul, Nat.reduceEqDiff, Nat.reduceLT, reduceIte, reduceCtorEq])) | (with_reducible refine And.intro (fun hb => ?_) (fun hb => ?_)) | (exfalso; omega) | fail))
  all_goals have hcl := hclO
  · refine awp_weaken (s' := ⟨upd bot 2 (.sl 2 0 (ks.set x.toNat kk).length 1 none), upd (upd h 1 (some ⟨true, .cells [.sl 0 0 L 1 lim, .val (.int .i64 ((r + 3 : Nat) : Int))]⟩)) 2 (some ⟨true, .ints .i64 (ks.set x.toNat kk)⟩), 3⟩) ?_ ?_
    · (apply Wk.over (id) 2; (case' h2 => (focus ((repeat' (first | (with_reducible exact HeapX.bot) | (exact HeapX.base (by first | exact hcl | assumption) (by first | exact Nat.le_refl _ | omega | (simp only; omega)) (fun k hk => by first | rfl | (simp only [id]; done) | ((repeat rw [if_neg (by omega)]); done)) (by intro u hu hlt'; first | rfl | (simp only [List.mem_cons, List.not_mem_nil, or_false, not_or] at hu; first | (simp [upd, hu]; done) | (simp only [upd]; (repeat rw [if_neg (by omega)]))))) | (with_reducible (apply HeapX.skip; (case hx => (simp; done)))) | (with_reducible apply HeapX.none) | (with_reducible apply HeapX.old (by first | assumption | omega) (by first | exact Nat.le_refl _ | omega | (simp only; omega)) (by first | rfl | (simp only [id]; done) | ((repeat rw [if_neg (by omega)]); done))) | (with_reducible apply HeapX.upd))); all_goals (first | rfl | omega | assumption | exact Nat.le_of_ble_eq_true rfl | (simp only; omega) | (simp only [St.set, St.ev, upd, ren, renL, id, Nat.reduceEqDiff, reduceIte]; rfl) | (simp only [St.set, St.ev, upd, ren, renL, id, Nat.reduceEqDiff, reduceIte, ContLe]; done) | (first | (simp only [St.set, St.ev, upd, ren, renL, id, Nat.reduceEqDiff, reduceIte]; exact contLe_nil) | ((repeat' (first | exact contLe_nil | refine contLe_cons (.inr ⟨?_, rfl⟩) ?_ | exact contLe_refl (n0 := 2) (fun k hk => by first | rfl | (simp only [id]; done) | ((repeat rw [if_neg (by omega)]); done)) (by first | exact Nat.le_refl _ | omega | (simp only; omega)) (by assumption))); all_goals (first | rfl | (simp only [St.set, St.ev, upd, ren, renL, id, Nat.reduceEqDiff, reduceIte]; done) | ((try simp only [St.set, St.ev, upd, ren, renL, id, Nat.reduceEqDiff, reduceIte]); first | (with_reducible exact av_int (by omega)) | (with_reducible exact av_sl (by first | omega | (simp; done) | (simp; omega)) (by first | omega | (simp; done) | (simp; omega)))) | (simp only [St.set, St.ev, upd, ren, renL, id, Nat.reduceEqDiff, reduceIte, Int.natCast_add, Int.natCast_one, Int.cast_ofNat_Int, Int.natCast_zero]; done) | (simp only [St.set, St.ev, upd, ren, renL, id, Nat.reduceEqDiff, reduceIte]) | skip); done)) | (simp only [St.set, St.ev, upd, ren, renL, id, Nat.reduceEqDiff, reduceIte, ContLe]) | skip)))); (case' h1 => (focus ((repeat' (with_reducible first | exact TmpLe.bot | refine TmpLe.upd ?_ (by first | rfl | (simp only [AV.lt, decide_eq_true_eq]; first | done | omega)) ?_)); all_goals (first | rfl | (simp only [St.set, St.ev, upd, ren, renL, id, Nat.reduceEqDiff, reduceIte]; done) | ((try simp only [St.set, St.ev, upd, ren, renL, id, Nat.reduceEqDiff, reduceIte]); first | (with_reducible exact av_int (by omega)) | (with_reducible exact av_sl (by first | omega | (simp; done) | (simp; omega)) (by first | omega | (simp; done) | (simp; omega)))) | (simp only [St.set, St.ev, upd, ren, renL, id, Nat.reduceEqDiff, reduceIte, Int.natCast_add, Int.natCast_one, Int.cast_ofNat_Int, Int.natCast_zero]; done) | (simp only [St.set, St.ev, upd, ren, renL, id, Nat.reduceEqDiff, reduceIte]) | skip)))); (case h3 => (focus (first | (simp only [id, List.map_cons, List.map_nil]; decide) | decide | (simp; done) | (simp; omega) | fail))); (case h5 => (intro d hd; first | (simp at hd; done) | (simp only [List.mem_cons, List.not_mem_nil, or_false] at hd; first | (simp only [id]; omega) | (split <;> omega) | ((repeat' split) <;> omega) | ((try simp only); repeat' split; all_goals omega)))); (case h4 => (intro o l h; first | (cases h; done) | (have hlt0 := m0_lt (by assumption) h; first | omega | (simp only; omega) | exact ⟨by (first | rfl | (simp only [id]; done) | ((repeat rw [if_neg (by omega)]); done)), by first | omega | (simp only; omega)⟩))))
    repeat' (first | refine awp_seq_k fun K hK => ?_ | ((with_reducible refine hK _ ?_); clear hK K) | (clear hK K; (with_reducible refine hK _ ?_); clear hK K) | (clear hK K; clear hK K; (with_reducible refine hK _ ?_); clear hK K) | (clear hK K; clear hK K; clear hK K; (with_reducible refine hK _ ?_); clear hK K) | (clear hK K; clear hK K; clear hK K; clear hK K; (with_reducible refine hK _ ?_); clear hK K) | (clear hK K; clear hK K; clear hK K; clear hK K; clear hK K; (with_reducible refine hK _ ?_); clear hK K) | ((with_reducible refine aord_plain fun K hK => ?_); simp only [go_sem, Nat.reduceAdd, Nat.reduceMul, Nat.reduceEqDiff, Nat.reduceLT, reduceIte, reduceCtorEq, h0, h1]) | refine awp_block ?_ | ((first | with_reducible refine aord_nil ?_ | refine awp_skip ?_ | refine awp_exit ?_ | refine awp_ret ?_); try simp only [thenA_normal, thenA_exit, thenA_goto, thenA_ret, blockA_normal, blockA_same, blockA_exit, blockA_goto, blockA_ret, Nat.reduceEqDiff, if_false, if_true, reduceIte]) | (refine awp_region tabOk rfl ?_; simp only [prep, pickO, List.map_cons, List.map_nil, List.getElem?_toArray, List.getElem?_cons_succ, List.getElem?_cons_zero, Option.bind_some, Option.map_some]) | ((with_reducible apply awp_cond); (focus (simp only [St.ev, St.set, upd, Nat.reduceEqDiff, reduceIte, if_false, if_true]; exact rfl)); all_goals (intro hb; first | (cases hb; done) | ((try rw [hb]); (try simp only [decide_eq_true_eq, decide_eq_false_iff_not, beq_iff_eq, bne_iff_ne, beq_eq_false_iff_ne, bne_eq_false_iff_eq, Int.not_lt, Int.not_le, Bool.not_eq_true', Bool.not_eq_false'] at hb)))) | ((with_reducible refine And.intro ?_ ?_); (focus omega)) | ((with_reducible refine And.intro ?_ ?_); (focus (exact rfl))) | ((with_reducible refine And.intro (?_ : enters Try.prog 99) ?_); (focus exact Try.call99); (refine callX_satH pick_sat ?_); simp only [go_sem, and_assoc, List.nil_append, List.append_nil, List.cons_append, Nat.reduceEqDiff, reduceIte, reduceCtorEq, h0, h1]) | ((with_reducible refine And.intro (?_ : enters Try.prog 83) ?_); (focus exact Try.call83); (refine callX_satH one_sat ?_); simp only [go_sem, and_assoc, List.nil_append, List.append_nil, List.cons_append, Nat.reduceEqDiff, reduceIte, reduceCtorEq, h0, h1]) | ((with_reducible refine And.intro (?_ : enters Try.prog 93) ?_); (focus exact Try.call93); (refine callX_satH goodKeys_sat ?_); simp only [go_sem, and_assoc, List.nil_append, List.append_nil, List.cons_append, Nat.reduceEqDiff, reduceIte, reduceCtorEq, h0, h1]) | ((with_reducible refine And.intro (?_ : enters Try.prog 92) ?_); (focus exact Try.call92); (refine callX_h (callH_inline tabOk Try.func92 rfl 27 rfl [.tmp 4] rfl (Nat.le_of_ble_eq_true rfl) fun m0 hm0 hcl hlt => ?_)); simp only [initT, St.ev, St.set, upd, Nat.reduceEqDiff, reduceIte, if_false, if_true]) | (refine aAppend_ints rfl rfl rfl rfl (Nat.le_of_ble_eq_true rfl) (by simp only [St.ev, St.set, upd, Nat.reduceEqDiff, reduceIte, if_false, if_true]; exact rfl) (by simp only [St.ev, St.set, upd, Nat.reduceEqDiff, reduceIte, if_false, if_true]; exact rfl) rfl (by first | decide | omega | (simp; done) | fail) ?_ ?_ ?_ ?_; (focus (first | rfl | omega | (simp; done) | (simp; omega) | (simp [szOf, tab]; done) | (simp [szOf, tab]; omega))); (focus (first | rfl | omega | (simp; done) | (simp; omega) | (simp [szOf, tab]; done) | (simp [szOf, tab]; omega))); (focus (first | rfl | omega | (simp; done) | (simp; omega) | (simp [szOf, tab]; done) | (simp [szOf, tab]; omega))); (try simp only [go_sem, Nat.reduceAdd, Nat.reduceMul, Nat.reduceEqDiff, Nat.reduceLT, reduceIte, reduceCtorEq])) | (refine aAppend_none rfl rfl rfl rfl (Nat.le_of_ble_eq_true rfl) (by simp only [St.ev, St.set, upd, Nat.reduceEqDiff, reduceIte, if_false, if_true]; exact rfl) ?_ ?_ ?_; (focus (first | rfl | omega | (simp; done) | (simp; omega) | (simp [szOf, tab]; done) | (simp [szOf, tab]; omega))); (focus (first | rfl | omega | (simp; done) | (simp; omega) | (simp [szOf, tab]; done) | (simp [szOf, tab]; omega))); (try simp only [go_sem, Nat.reduceAdd, Nat.reduceMul, Nat.reduceEqDiff, Nat.reduceLT, reduceIte, reduceCtorEq])) | (refine aStoreAll_ints (by simp only [St.ev, St.set, upd, Nat.reduceEqDiff, reduceIte, if_false, if_true]; exact rfl) ?_ ?_ ?_ ?_; (focus (first | rfl | omega | (simp; done) | (simp; omega) | (simp [szOf, tab]; done) | (simp [szOf, tab]; omega))); (focus (first | rfl | omega | (simp; done) | (simp; omega) | (simp [szOf, tab]; done) | (simp [szOf, tab]; omega))); (focus (first | rfl | omega | (simp; done) | (simp; omega) | (simp [szOf, tab]; done) | (simp [szOf, tab]; omega))); (try simp only [go_sem, Nat.reduceAdd, Nat.reduceMul, Nat.reduceEqDiff, Nat.reduceLT, reduceIte, reduceCtorEq])) | (simp only [doneH]; simp only [ressK, resK, wrapR, go_sem, Nat.reduceAdd, Nat.reduceMul, Nat.reduceEqDiff, Nat.reduceLT, reduceIte, reduceCtorEq]) | (refine aStoreAll_cells (by simp only [St.ev, St.set, upd, Nat.reduceEqDiff, reduceIte, if_false, if_true]; exact rfl) ?_ ?_ ?_ ?_ ?_; (focus (first | rfl | omega | (simp; done) | (simp; omega) | (simp [szOf, tab]; done) | (simp [szOf, tab]; omega))); (focus (first | rfl | omega | (simp; done) | (simp; omega) | (simp [szOf, tab]; done) | (simp [szOf, tab]; omega))); (focus (first | rfl | omega | (simp; done) | (simp; omega) | (simp [szOf, tab]; done) | (simp [szOf, tab]; omega))); (focus (first | rfl | (simp [AV.cell, Value.oneCell']; done))); (try simp only [go_sem, Nat.reduceAdd, Nat.reduceMul, Nat.reduceEqDiff, Nat.reduceLT, reduceIte, reduceCtorEq])) | (with_reducible refine And.intro (fun hb => ?_) (fun hb => ?_)) | (exfalso; omega) | fail)
    have h9 := hQ (ks.set x.toNat kk) (r + 3) (by simp; omega) (by omega)
    simp only [List.length_set] at h9 ⊢
    exact h9
  · refine awp_weaken (s' := ⟨upd bot 2 (.sl 2 0 ks.length 1 none), upd (upd h 1 (some ⟨true, .cells [.sl 0 0 L 1 lim, .val (.int .i64 ((r + 1 : Nat) : Int))]⟩)) 2 (some ⟨true, .ints .i64 ks⟩), 3⟩) ?_ ?_
    · (apply Wk.over (id) 2; (case' h2 => (focus ((repeat' (first | (with_reducible exact HeapX.bot) | (exact HeapX.base (by first | exact hcl | assumption) (by first | exact Nat.le_refl _ | omega | (simp only; omega)) (fun k hk => by first | rfl | (simp only [id]; done) | ((repeat rw [if_neg (by omega)]); done)) (by intro u hu hlt'; first | rfl | (simp only [List.mem_cons, List.not_mem_nil, or_false, not_or] at hu; first | (simp [upd, hu]; done) | (simp only [upd]; (repeat rw [if_neg (by omega)]))))) | (with_reducible (apply HeapX.skip; (case hx => (simp; done)))) | (with_reducible apply HeapX.none) | (with_reducible apply HeapX.old (by first | assumption | omega) (by first | exact Nat.le_refl _ | omega | (simp only; omega)) (by first | rfl | (simp only [id]; done) | ((repeat rw [if_neg (by omega)]); done))) | (with_reducible apply HeapX.upd))); all_goals (first | rfl | omega | assumption | exact Nat.le_of_ble_eq_true rfl | (simp only; omega) | (simp only [St.set, St.ev, upd, ren, renL, id, Nat.reduceEqDiff, reduceIte]; rfl) | (simp only [St.set, St.ev, upd, ren, renL, id, Nat.reduceEqDiff, reduceIte, ContLe]; done) | (first | (simp only [St.set, St.ev, upd, ren, renL, id, Nat.reduceEqDiff, reduceIte]; exact contLe_nil) | ((repeat' (first | exact contLe_nil | refine contLe_cons (.inr ⟨?_, rfl⟩) ?_ | exact contLe_refl (n0 := 2) (fun k hk => by first | rfl | (simp only [id]; done) | ((repeat rw [if_neg (by omega)]); done)) (by first | exact Nat.le_refl _ | omega | (simp only; omega)) (by assumption))); all_goals (first | rfl | (simp only [St.set, St.ev, upd, ren, renL, id, Nat.reduceEqDiff, reduceIte]; done) | ((try simp only [St.set, St.ev, upd, ren, renL, id, Nat.reduceEqDiff, reduceIte]); first | (with_reducible exact av_int (by omega)) | (with_reducible exact av_sl (by first | omega | (simp; done) | (simp; omega)) (by first | omega | (simp; done) | (simp; omega)))) | (simp only [St.set, St.ev, upd, ren, renL, id, Nat.reduceEqDiff, reduceIte, Int.natCast_add, Int.natCast_one, Int.cast_ofNat_Int, Int.natCast_zero]; done) | (simp only [St.set, St.ev, upd, ren, renL, id, Nat.reduceEqDiff, reduceIte]) | skip); done)) | (simp only [St.set, St.ev, upd, ren, renL, id, Nat.reduceEqDiff, reduceIte, ContLe]) | skip)))); (case' h1 => (focus ((repeat' (with_reducible first | exact TmpLe.bot | refine TmpLe.upd ?_ (by first | rfl | (simp only [AV.lt, decide_eq_true_eq]; first | done | omega)) ?_)); all_goals (first | rfl | (simp only [St.set, St.ev, upd, ren, renL, id, Nat.reduceEqDiff, reduceIte]; done) | ((try simp only [St.set, St.ev, upd, ren, renL, id, Nat.reduceEqDiff, reduceIte]); first | (with_reducible exact av_int (by omega)) | (with_reducible exact av_sl (by first | omega | (simp; done) | (simp; omega)) (by first | omega | (simp; done) | (simp; omega)))) | (simp only [St.set, St.ev, upd, ren, renL, id, Nat.reduceEqDiff, reduceIte, Int.natCast_add, Int.natCast_one, Int.cast_ofNat_Int, Int.natCast_zero]; done) | (simp only [St.set, St.ev, upd, ren, renL, id, Nat.reduceEqDiff, reduceIte]) | skip)))); (case h3 => (focus (first | (simp only [id, List.map_cons, List.map_nil]; decide) | decide | (simp; done) | (simp; omega) | fail))); (case h5 => (intro d hd; first | (simp at hd; done) | (simp only [List.mem_cons, List.not_mem_nil, or_false] at hd; first | (simp only [id]; omega) | (split <;> omega) | ((repeat' split) <;> omega) | ((try simp only); repeat' split; all_goals omega)))); (case h4 => (intro o l h; first | (cases h; done) | (have hlt0 := m0_lt (by assumption) h; first | omega | (simp only; omega) | exact ⟨by (first | rfl | (simp only [id]; done) | ((repeat rw [if_neg (by omega)]); done)), by first | omega | (simp only; omega)⟩))))
    repeat' (first | refine awp_seq_k fun K hK => ?_ | ((with_reducible refine hK _ ?_); clear hK K) | (clear hK K; (with_reducible refine hK _ ?_); clear hK K) | (clear hK K; clear hK K; (with_reducible refine hK _ ?_); clear hK K) | (clear hK K; clear hK K; clear hK K; (with_reducible refine hK _ ?_); clear hK K) | (clear hK K; clear hK K; clear hK K; clear hK K; (with_reducible refine hK _ ?_); clear hK K) | (clear hK K; clear hK K; clear hK K; clear hK K; clear hK K; (with_reducible refine hK _ ?_); clear hK K) | ((with_reducible refine aord_plain fun K hK => ?_); simp only [go_sem, Nat.reduceAdd, Nat.reduceMul, Nat.reduceEqDiff, Nat.reduceLT, reduceIte, reduceCtorEq, h0, h1]) | refine awp_block ?_ | ((first | with_reducible refine aord_nil ?_ | refine awp_skip ?_ | refine awp_exit ?_ | refine awp_ret ?_); try simp only [thenA_normal, thenA_exit, thenA_goto, thenA_ret, blockA_normal, blockA_same, blockA_exit, blockA_goto, blockA_ret, Nat.reduceEqDiff, if_false, if_true, reduceIte]) | (refine awp_region tabOk rfl ?_; simp only [prep, pickO, List.map_cons, List.map_nil, List.getElem?_toArray, List.getElem?_cons_succ, List.getElem?_cons_zero, Option.bind_some, Option.map_some]) | ((with_reducible apply awp_cond); (focus (simp only [St.ev, St.set, upd, Nat.reduceEqDiff, reduceIte, if_false, if_true]; exact rfl)); all_goals (intro hb; first | (cases hb; done) | ((try rw [hb]); (try simp only [decide_eq_true_eq, decide_eq_false_iff_not, beq_iff_eq, bne_iff_ne, beq_eq_false_iff_ne, bne_eq_false_iff_eq, Int.not_lt, Int.not_le, Bool.not_eq_true', Bool.not_eq_false'] at hb)))) | ((with_reducible refine And.intro ?_ ?_); (focus omega)) | ((with_reducible refine And.intro ?_ ?_); (focus (exact rfl))) | ((with_reducible refine And.intro (?_ : enters Try.prog 99) ?_); (focus exact Try.call99); (refine callX_satH pick_sat ?_); simp only [go_sem, and_assoc, List.nil_append, List.append_nil, List.cons_append, Nat.reduceEqDiff, reduceIte, reduceCtorEq, h0, h1]) | ((with_reducible refine And.intro (?_ : enters Try.prog 83) ?_); (focus exact Try.call83); (refine callX_satH one_sat ?_); simp only [go_sem, and_assoc, List.nil_append, List.append_nil, List.cons_append, Nat.reduceEqDiff, reduceIte, reduceCtorEq, h0, h1]) | ((with_reducible refine And.intro (?_ : enters Try.prog 93) ?_); (focus exact Try.call93); (refine callX_satH goodKeys_sat ?_); simp only [go_sem, and_assoc, List.nil_append, List.append_nil, List.cons_append, Nat.reduceEqDiff, reduceIte, reduceCtorEq, h0, h1]) | ((with_reducible refine And.intro (?_ : enters Try.prog 92) ?_); (focus exact Try.call92); (refine callX_h (callH_inline tabOk Try.func92 rfl 27 rfl [.tmp 4] rfl (Nat.le_of_ble_eq_true rfl) fun m0 hm0 hcl hlt => ?_)); simp only [initT, St.ev, St.set, upd, Nat.reduceEqDiff, reduceIte, if_false, if_true]) | (refine aAppend_ints rfl rfl rfl rfl (Nat.le_of_ble_eq_true rfl) (by simp only [St.ev, St.set, upd, Nat.reduceEqDiff, reduceIte, if_false, if_true]; exact rfl) (by simp only [St.ev, St.set, upd, Nat.reduceEqDiff, reduceIte, if_false, if_true]; exact rfl) rfl (by first | decide | omega | (simp; done) | fail) ?_ ?_ ?_ ?_; (focus (first | rfl | omega | (simp; done) | (simp; omega) | (simp [szOf, tab]; done) | (simp [szOf, tab]; omega))); (focus (first | rfl | omega | (simp; done) | (simp; omega) | (simp [szOf, tab]; done) | (simp [szOf, tab]; omega))); (focus (first | rfl | omega | (simp; done) | (simp; omega) | (simp [szOf, tab]; done) | (simp [szOf, tab]; omega))); (try simp only [go_sem, Nat.reduceAdd, Nat.reduceMul, Nat.reduceEqDiff, Nat.reduceLT, reduceIte, reduceCtorEq])) | (refine aAppend_none rfl rfl rfl rfl (Nat.le_of_ble_eq_true rfl) (by simp only [St.ev, St.set, upd, Nat.reduceEqDiff, reduceIte, if_false, if_true]; exact rfl) ?_ ?_ ?_; (focus (first | rfl | omega | (simp; done) | (simp; omega) | (simp [szOf, tab]; done) | (simp [szOf, tab]; omega))); (focus (first | rfl | omega | (simp; done) | (simp; omega) | (simp [szOf, tab]; done) | (simp [szOf, tab]; omega))); (try simp only [go_sem, Nat.reduceAdd, Nat.reduceMul, Nat.reduceEqDiff, Nat.reduceLT, reduceIte, reduceCtorEq])) | (refine aStoreAll_ints (by simp only [St.ev, St.set, upd, Nat.reduceEqDiff, reduceIte, if_false, if_true]; exact rfl) ?_ ?_ ?_ ?_; (focus (first | rfl | omega | (simp; done) | (simp; omega) | (simp [szOf, tab]; done) | (simp [szOf, tab]; omega))); (focus (first | rfl | omega | (simp; done) | (simp; omega) | (simp [szOf, tab]; done) | (simp [szOf, tab]; omega))); (focus (first | rfl | omega | (simp; done) | (simp; omega) | (simp [szOf, tab]; done) | (simp [szOf, tab]; omega))); (try simp only [go_sem, Nat.reduceAdd, Nat.reduceMul, Nat.reduceEqDiff, Nat.reduceLT, reduceIte, reduceCtorEq])) | (simp only [doneH]; simp only [ressK, resK, wrapR, go_sem, Nat.reduceAdd, Nat.reduceMul, Nat.reduceEqDiff, Nat.reduceLT, reduceIte, reduceCtorEq]) | (refine aStoreAll_cells (by simp only [St.ev, St.set, upd, Nat.reduceEqDiff, reduceIte, if_false, if_true]; exact rfl) ?_ ?_ ?_ ?_ ?_; (focus (first | rfl | omega | (simp; done) | (simp; omega) | (simp [szOf, tab]; done) | (simp [szOf, tab]; omega))); (focus (first | rfl | omega | (simp; done) | (simp; omega) | (simp [szOf, tab]; done) | (simp [szOf, tab]; omega))); (focus (first | rfl | omega | (simp; done) | (simp; omega) | (simp [szOf, tab]; done) | (simp [szOf, tab]; omega))); (focus (first | rfl | (simp [AV.cell, Value.oneCell']; done))); (try simp only [go_sem, Nat.reduceAdd, Nat.reduceMul, Nat.reduceEqDiff, Nat.reduceLT, reduceIte, reduceCtorEq])) | (with_reducible refine And.intro (fun hb => ?_) (fun hb => ?_)) | (exfalso; omega) | fail)
    exact hQ ks (r + 1) (by omega) (by omega)
  · refine awp_weaken (s' := ⟨upd bot 2 (.sl 2 0 (ks ++ [1, 2, 3, 4, 5, 6, 7, 8, 9]).length 1 none), upd (upd h 1 (some ⟨true, .cells [.sl 0 0 L 1 lim, .val (.int .i64 ((r + 1 : Nat) : Int))]⟩)) 2 (some ⟨true, .ints .i64 (ks ++ [1, 2, 3, 4, 5, 6, 7, 8, 9])⟩), 3⟩) ?_ ?_
    · (apply Wk.over (fun o => if o = 2 then 4 else o) 2; (case' h2 => (focus ((repeat' (first | (with_reducible exact HeapX.bot) | (exact HeapX.base (by first | exact hcl | assumption) (by first | exact Nat.le_refl _ | omega | (simp only; omega)) (fun k hk => by first | rfl | (simp only [id]; done) | ((repeat rw [if_neg (by omega)]); done)) (by intro u hu hlt'; first | rfl | (simp only [List.mem_cons, List.not_mem_nil, or_false, not_or] at hu; first | (simp [upd, hu]; done) | (simp only [upd]; (repeat rw [if_neg (by omega)]))))) | (with_reducible (apply HeapX.skip; (case hx => (simp; done)))) | (with_reducible apply HeapX.none) | (with_reducible apply HeapX.old (by first | assumption | omega) (by first | exact Nat.le_refl _ | omega | (simp only; omega)) (by first | rfl | (simp only [id]; done) | ((repeat rw [if_neg (by omega)]); done))) | (with_reducible apply HeapX.upd))); all_goals (first | rfl | omega | assumption | exact Nat.le_of_ble_eq_true rfl | (simp only; omega) | (simp only [St.set, St.ev, upd, ren, renL, id, Nat.reduceEqDiff, reduceIte]; rfl) | (simp only [St.set, St.ev, upd, ren, renL, id, Nat.reduceEqDiff, reduceIte, ContLe]; done) | (first | (simp only [St.set, St.ev, upd, ren, renL, id, Nat.reduceEqDiff, reduceIte]; exact contLe_nil) | ((repeat' (first | exact contLe_nil | refine contLe_cons (.inr ⟨?_, rfl⟩) ?_ | exact contLe_refl (n0 := 2) (fun k hk => by first | rfl | (simp only [id]; done) | ((repeat rw [if_neg (by omega)]); done)) (by first | exact Nat.le_refl _ | omega | (simp only; omega)) (by assumption))); all_goals (first | rfl | (simp only [St.set, St.ev, upd, ren, renL, id, Nat.reduceEqDiff, reduceIte]; done) | ((try simp only [St.set, St.ev, upd, ren, renL, id, Nat.reduceEqDiff, reduceIte]); first | (with_reducible exact av_int (by omega)) | (with_reducible exact av_sl (by first | omega | (simp; done) | (simp; omega)) (by first | omega | (simp; done) | (simp; omega)))) | (simp only [St.set, St.ev, upd, ren, renL, id, Nat.reduceEqDiff, reduceIte, Int.natCast_add, Int.natCast_one, Int.cast_ofNat_Int, Int.natCast_zero]; done) | (simp only [St.set, St.ev, upd, ren, renL, id, Nat.reduceEqDiff, reduceIte]) | skip); done)) | (simp only [St.set, St.ev, upd, ren, renL, id, Nat.reduceEqDiff, reduceIte, ContLe]) | skip)))); (case' h1 => (focus ((repeat' (with_reducible first | exact TmpLe.bot | refine TmpLe.upd ?_ (by first | rfl | (simp only [AV.lt, decide_eq_true_eq]; first | done | omega)) ?_)); all_goals (first | rfl | (simp only [St.set, St.ev, upd, ren, renL, id, Nat.reduceEqDiff, reduceIte]; done) | ((try simp only [St.set, St.ev, upd, ren, renL, id, Nat.reduceEqDiff, reduceIte]); first | (with_reducible exact av_int (by omega)) | (with_reducible exact av_sl (by first | omega | (simp; done) | (simp; omega)) (by first | omega | (simp; done) | (simp; omega)))) | (simp only [St.set, St.ev, upd, ren, renL, id, Nat.reduceEqDiff, reduceIte, Int.natCast_add, Int.natCast_one, Int.cast_ofNat_Int, Int.natCast_zero]; done) | (simp only [St.set, St.ev, upd, ren, renL, id, Nat.reduceEqDiff, reduceIte]) | skip)))); (case h3 => (focus (first | (simp only [id, List.map_cons, List.map_nil]; decide) | decide | (simp; done) | (simp; omega) | fail))); (case h5 => (intro d hd; first | (simp at hd; done) | (simp only [List.mem_cons, List.not_mem_nil, or_false] at hd; first | (simp only [id]; omega) | (split <;> omega) | ((repeat' split) <;> omega) | ((try simp only); repeat' split; all_goals omega)))); (case h4 => (intro o l h; first | (cases h; done) | (have hlt0 := m0_lt (by assumption) h; first | omega | (simp only; omega) | exact ⟨by (first | rfl | (simp only [id]; done) | ((repeat rw [if_neg (by omega)]); done)), by first | omega | (simp only; omega)⟩))))
    repeat' (first | refine awp_seq_k fun K hK => ?_ | ((with_reducible refine hK _ ?_); clear hK K) | (clear hK K; (with_reducible refine hK _ ?_); clear hK K) | (clear hK K; clear hK K; (with_reducible refine hK _ ?_); clear hK K) | (clear hK K; clear hK K; clear hK K; (with_reducible refine hK _ ?_); clear hK K) | (clear hK K; clear hK K; clear hK K; clear hK K; (with_reducible refine hK _ ?_); clear hK K) | (clear hK K; clear hK K; clear hK K; clear hK K; clear hK K; (with_reducible refine hK _ ?_); clear hK K) | ((with_reducible refine aord_plain fun K hK => ?_); simp only [go_sem, Nat.reduceAdd, Nat.reduceMul, Nat.reduceEqDiff, Nat.reduceLT, reduceIte, reduceCtorEq, h0, h1]) | refine awp_block ?_ | ((first | with_reducible refine aord_nil ?_ | refine awp_skip ?_ | refine awp_exit ?_ | refine awp_ret ?_); try simp only [thenA_normal, thenA_exit, thenA_goto, thenA_ret, blockA_normal, blockA_same, blockA_exit, blockA_goto, blockA_ret, Nat.reduceEqDiff, if_false, if_true, reduceIte]) | (refine awp_region tabOk rfl ?_; simp only [prep, pickO, List.map_cons, List.map_nil, List.getElem?_toArray, List.getElem?_cons_succ, List.getElem?_cons_zero, Option.bind_some, Option.map_some]) | ((with_reducible apply awp_cond); (focus (simp only [St.ev, St.set, upd, Nat.reduceEqDiff, reduceIte, if_false, if_true]; exact rfl)); all_goals (intro hb; first | (cases hb; done) | ((try rw [hb]); (try simp only [decide_eq_true_eq, decide_eq_false_iff_not, beq_iff_eq, bne_iff_ne, beq_eq_false_iff_ne, bne_eq_false_iff_eq, Int.not_lt, Int.not_le, Bool.not_eq_true', Bool.not_eq_false'] at hb)))) | ((with_reducible refine And.intro ?_ ?_); (focus omega)) | ((with_reducible refine And.intro ?_ ?_); (focus (exact rfl))) | ((with_reducible refine And.intro (?_ : enters Try.prog 99) ?_); (focus exact Try.call99); (refine callX_satH pick_sat ?_); simp only [go_sem, and_assoc, List.nil_append, List.append_nil, List.cons_append, Nat.reduceEqDiff, reduceIte, reduceCtorEq, h0, h1]) | ((with_reducible refine And.intro (?_ : enters Try.prog 83) ?_); (focus exact Try.call83); (refine callX_satH one_sat ?_); simp only [go_sem, and_assoc, List.nil_append, List.append_nil, List.cons_append, Nat.reduceEqDiff, reduceIte, reduceCtorEq, h0, h1]) | ((with_reducible refine And.intro (?_ : enters Try.prog 93) ?_); (focus exact Try.call93); (refine callX_satH goodKeys_sat ?_); simp only [go_sem, and_assoc, List.nil_append, List.append_nil, List.cons_append, Nat.reduceEqDiff, reduceIte, reduceCtorEq, h0, h1]) | ((with_reducible refine And.intro (?_ : enters Try.prog 92) ?_); (focus exact Try.call92); (refine callX_h (callH_inline tabOk Try.func92 rfl 27 rfl [.tmp 4] rfl (Nat.le_of_ble_eq_true rfl) fun m0 hm0 hcl hlt => ?_)); simp only [initT, St.ev, St.set, upd, Nat.reduceEqDiff, reduceIte, if_false, if_true]) | (refine aAppend_ints rfl rfl rfl rfl (Nat.le_of_ble_eq_true rfl) (by simp only [St.ev, St.set, upd, Nat.reduceEqDiff, reduceIte, if_false, if_true]; exact rfl) (by simp only [St.ev, St.set, upd, Nat.reduceEqDiff, reduceIte, if_false, if_true]; exact rfl) rfl (by first | decide | omega | (simp; done) | fail) ?_ ?_ ?_ ?_; (focus (first | rfl | omega | (simp; done) | (simp; omega) | (simp [szOf, tab]; done) | (simp [szOf, tab]; omega))); (focus (first | rfl | omega | (simp; done) | (simp; omega) | (simp [szOf, tab]; done) | (simp [szOf, tab]; omega))); (focus (first | rfl | omega | (simp; done) | (simp; omega) | (simp [szOf, tab]; done) | (simp [szOf, tab]; omega))); (try simp only [go_sem, Nat.reduceAdd, Nat.reduceMul, Nat.reduceEqDiff, Nat.reduceLT, reduceIte, reduceCtorEq])) | (refine aAppend_none rfl rfl rfl rfl (Nat.le_of_ble_eq_true rfl) (by simp only [St.ev, St.set, upd, Nat.reduceEqDiff, reduceIte, if_false, if_true]; exact rfl) ?_ ?_ ?_; (focus (first | rfl | omega | (simp; done) | (simp; omega) | (simp [szOf, tab]; done) | (simp [szOf, tab]; omega))); (focus (first | rfl | omega | (simp; done) | (simp; omega) | (simp [szOf, tab]; done) | (simp [szOf, tab]; omega))); (try simp only [go_sem, Nat.reduceAdd, Nat.reduceMul, Nat.reduceEqDiff, Nat.reduceLT, reduceIte, reduceCtorEq])) | (refine aStoreAll_ints (by simp only [St.ev, St.set, upd, Nat.reduceEqDiff, reduceIte, if_false, if_true]; exact rfl) ?_ ?_ ?_ ?_; (focus (first | rfl | omega | (simp; done) | (simp; omega) | (simp [szOf, tab]; done) | (simp [szOf, tab]; omega))); (focus (first | rfl | omega | (simp; done) | (simp; omega) | (simp [szOf, tab]; done) | (simp [szOf, tab]; omega))); (focus (first | rfl | omega | (simp; done) | (simp; omega) | (simp [szOf, tab]; done) | (simp [szOf, tab]; omega))); (try simp only [go_sem, Nat.reduceAdd, Nat.reduceMul, Nat.reduceEqDiff, Nat.reduceLT, reduceIte, reduceCtorEq])) | (simp only [doneH]; simp only [ressK, resK, wrapR, go_sem, Nat.reduceAdd, Nat.reduceMul, Nat.reduceEqDiff, Nat.reduceLT, reduceIte, reduceCtorEq]) | (refine aStoreAll_cells (by simp only [St.ev, St.set, upd, Nat.reduceEqDiff, reduceIte, if_false, if_true]; exact rfl) ?_ ?_ ?_ ?_ ?_; (focus (first | rfl | omega | (simp; done) | (simp; omega) | (simp [szOf, tab]; done) | (simp [szOf, tab]; omega))); (focus (first | rfl | omega | (simp; done) | (simp; omega) | (simp [szOf, tab]; done) | (simp [szOf, tab]; omega))); (focus (first | rfl | omega | (simp; done) | (simp; omega) | (simp [szOf, tab]; done) | (simp [szOf, tab]; omega))); (focus (first | rfl | (simp [AV.cell, Value.oneCell']; done))); (try simp only [go_sem, Nat.reduceAdd, Nat.reduceMul, Nat.reduceEqDiff, Nat.reduceLT, reduceIte, reduceCtorEq])) | (with_reducible refine And.intro (fun hb => ?_) (fun hb => ?_)) | (exfalso; omega) | fail)
    have h9 := hQ (ks ++ [1, 2, 3, 4, 5, 6, 7, 8, 9]) (r + 1) (by simp; omega) (by omega)
    simpa using h9
  · refine awp_weaken (s' := ⟨upd bot 2 (.sl 2 0 ks.length 1 none), upd (upd h 1 (some ⟨true, .cells [.sl 0 0 L 1 lim, .val (.int .i64 ((r + 1 : Nat) : Int))]⟩)) 2 (some ⟨true, .ints .i64 ks⟩), 3⟩) ?_ ?_
    · (apply Wk.over (id) 2; (case' h2 => (focus ((repeat' (first | (with_reducible exact HeapX.bot) | (exact HeapX.base (by first | exact hcl | assumption) (by first | exact Nat.le_refl _ | omega | (simp only; omega)) (fun k hk => by first | rfl | (simp only [id]; done) | ((repeat rw [if_neg (by omega)]); done)) (by intro u hu hlt'; first | rfl | (simp only [List.mem_cons, List.not_mem_nil, or_false, not_or] at hu; first | (simp [upd, hu]; done) | (simp only [upd]; (repeat rw [if_neg (by omega)]))))) | (with_reducible (apply HeapX.skip; (case hx => (simp; done)))) | (with_reducible apply HeapX.none) | (with_reducible apply HeapX.old (by first | assumption | omega) (by first | exact Nat.le_refl _ | omega | (simp only; omega)) (by first | rfl | (simp only [id]; done) | ((repeat rw [if_neg (by omega)]); done))) | (with_reducible apply HeapX.upd))); all_goals (first | rfl | omega | assumption | exact Nat.le_of_ble_eq_true rfl | (simp only; omega) | (simp only [St.set, St.ev, upd, ren, renL, id, Nat.reduceEqDiff, reduceIte]; rfl) | (simp only [St.set, St.ev, upd, ren, renL, id, Nat.reduceEqDiff, reduceIte, ContLe]; done) | (first | (simp only [St.set, St.ev, upd, ren, renL, id, Nat.reduceEqDiff, reduceIte]; exact contLe_nil) | ((repeat' (first | exact contLe_nil | refine contLe_cons (.inr ⟨?_, rfl⟩) ?_ | exact contLe_refl (n0 := 2) (fun k hk => by first | rfl | (simp only [id]; done) | ((repeat rw [if_neg (by omega)]); done)) (by first | exact Nat.le_refl _ | omega | (simp only; omega)) (by assumption))); all_goals (first | rfl | (simp only [St.set, St.ev, upd, ren, renL, id, Nat.reduceEqDiff, reduceIte]; done) | ((try simp only [St.set, St.ev, upd, ren, renL, id, Nat.reduceEqDiff, reduceIte]); first | (with_reducible exact av_int (by omega)) | (with_reducible exact av_sl (by first | omega | (simp; done) | (simp; omega)) (by first | omega | (simp; done) | (simp; omega)))) | (simp only [St.set, St.ev, upd, ren, renL, id, Nat.reduceEqDiff, reduceIte, Int.natCast_add, Int.natCast_one, Int.cast_ofNat_Int, Int.natCast_zero]; done) | (simp only [St.set, St.ev, upd, ren, renL, id, Nat.reduceEqDiff, reduceIte]) | skip); done)) | (simp only [St.set, St.ev, upd, ren, renL, id, Nat.reduceEqDiff, reduceIte, ContLe]) | skip)))); (case' h1 => (focus ((repeat' (with_reducible first | exact TmpLe.bot | refine TmpLe.upd ?_ (by first | rfl | (simp only [AV.lt, decide_eq_true_eq]; first | done | omega)) ?_)); all_goals (first | rfl | (simp only [St.set, St.ev, upd, ren, renL, id, Nat.reduceEqDiff, reduceIte]; done) | ((try simp only [St.set, St.ev, upd, ren, renL, id, Nat.reduceEqDiff, reduceIte]); first | (with_reducible exact av_int (by omega)) | (with_reducible exact av_sl (by first | omega | (simp; done) | (simp; omega)) (by first | omega | (simp; done) | (simp; omega)))) | (simp only [St.set, St.ev, upd, ren, renL, id, Nat.reduceEqDiff, reduceIte, Int.natCast_add, Int.natCast_one, Int.cast_ofNat_Int, Int.natCast_zero]; done) | (simp only [St.set, St.ev, upd, ren, renL, id, Nat.reduceEqDiff, reduceIte]) | skip)))); (case h3 => (focus (first | (simp only [id, List.map_cons, List.map_nil]; decide) | decide | (simp; done) | (simp; omega) | fail))); (case h5 => (intro d hd; first | (simp at hd; done) | (simp only [List.mem_cons, List.not_mem_nil, or_false] at hd; first | (simp only [id]; omega) | (split <;> omega) | ((repeat' split) <;> omega) | ((try simp only); repeat' split; all_goals omega)))); (case h4 => (intro o l h; first | (cases h; done) | (have hlt0 := m0_lt (by assumption) h; first | omega | (simp only; omega) | exact ⟨by (first | rfl | (simp only [id]; done) | ((repeat rw [if_neg (by omega)]); done)), by first | omega | (simp only; omega)⟩))))
    repeat' (first | refine awp_seq_k fun K hK => ?_ | ((with_reducible refine hK _ ?_); clear hK K) | (clear hK K; (with_reducible refine hK _ ?_); clear hK K) | (clear hK K; clear hK K; (with_reducible refine hK _ ?_); clear hK K) | (clear hK K; clear hK K; clear hK K; (with_reducible refine hK _ ?_); clear hK K) | (clear hK K; clear hK K; clear hK K; clear hK K; (with_reducible refine hK _ ?_); clear hK K) | (clear hK K; clear hK K; clear hK K; clear hK K; clear hK K; (with_reducible refine hK _ ?_); clear hK K) | ((with_reducible refine aord_plain fun K hK => ?_); simp only [go_sem, Nat.reduceAdd, Nat.reduceMul, Nat.reduceEqDiff, Nat.reduceLT, reduceIte, reduceCtorEq, h0, h1]) | refine awp_block ?_ | ((first | with_reducible refine aord_nil ?_ | refine awp_skip ?_ | refine awp_exit ?_ | refine awp_ret ?_); try simp only [thenA_normal, thenA_exit, thenA_goto, thenA_ret, blockA_normal, blockA_same, blockA_exit, blockA_goto, blockA_ret, Nat.reduceEqDiff, if_false, if_true, reduceIte]) | (refine awp_region tabOk rfl ?_; simp only [prep, pickO, List.map_cons, List.map_nil, List.getElem?_toArray, List.getElem?_cons_succ, List.getElem?_cons_zero, Option.bind_some, Option.map_some]) | ((with_reducible apply awp_cond); (focus (simp only [St.ev, St.set, upd, Nat.reduceEqDiff, reduceIte, if_false, if_true]; exact rfl)); all_goals (intro hb; first | (cases hb; done) | ((try rw [hb]); (try simp only [decide_eq_true_eq, decide_eq_false_iff_not, beq_iff_eq, bne_iff_ne, beq_eq_false_iff_ne, bne_eq_false_iff_eq, Int.not_lt, Int.not_le, Bool.not_eq_true', Bool.not_eq_false'] at hb)))) | ((with_reducible refine And.intro ?_ ?_); (focus omega)) | ((with_reducible refine And.intro ?_ ?_); (focus (exact rfl))) | ((with_reducible refine And.intro (?_ : enters Try.prog 99) ?_); (focus exact Try.call99); (refine callX_satH pick_sat ?_); simp only [go_sem, and_assoc, List.nil_append, List.append_nil, List.cons_append, Nat.reduceEqDiff, reduceIte, reduceCtorEq, h0, h1]) | ((with_reducible refine And.intro (?_ : enters Try.prog 83) ?_); (focus exact Try.call83); (refine callX_satH one_sat ?_); simp only [go_sem, and_assoc, List.nil_append, List.append_nil, List.cons_append, Nat.reduceEqDiff, reduceIte, reduceCtorEq, h0, h1]) | ((with_reducible refine And.intro (?_ : enters Try.prog 93) ?_); (focus exact Try.call93); (refine callX_satH goodKeys_sat ?_); simp only [go_sem, and_assoc, List.nil_append, List.append_nil, List.cons_append, Nat.reduceEqDiff, reduceIte, reduceCtorEq, h0, h1]) | ((with_reducible refine And.intro (?_ : enters Try.prog 92) ?_); (focus exact Try.call92); (refine callX_h (callH_inline tabOk Try.func92 rfl 27 rfl [.tmp 4] rfl (Nat.le_of_ble_eq_true rfl) fun m0 hm0 hcl hlt => ?_)); simp only [initT, St.ev, St.set, upd, Nat.reduceEqDiff, reduceIte, if_false, if_true]) | (refine aAppend_ints rfl rfl rfl rfl (Nat.le_of_ble_eq_true rfl) (by simp only [St.ev, St.set, upd, Nat.reduceEqDiff, reduceIte, if_false, if_true]; exact rfl) (by simp only [St.ev, St.set, upd, Nat.reduceEqDiff, reduceIte, if_false, if_true]; exact rfl) rfl (by first | decide | omega | (simp; done) | fail) ?_ ?_ ?_ ?_; (focus (first | rfl | omega | (simp; done) | (simp; omega) | (simp [szOf, tab]; done) | (simp [szOf, tab]; omega))); (focus (first | rfl | omega | (simp; done) | (simp; omega) | (simp [szOf, tab]; done) | (simp [szOf, tab]; omega))); (focus (first | rfl | omega | (simp; done) | (simp; omega) | (simp [szOf, tab]; done) | (simp [szOf, tab]; omega))); (try simp only [go_sem, Nat.reduceAdd, Nat.reduceMul, Nat.reduceEqDiff, Nat.reduceLT, reduceIte, reduceCtorEq])) | (refine aAppend_none rfl rfl rfl rfl (Nat.le_of_ble_eq_true rfl) (by simp only [St.ev, St.set, upd, Nat.reduceEqDiff, reduceIte, if_false, if_true]; exact rfl) ?_ ?_ ?_; (focus (first | rfl | omega | (simp; done) | (simp; omega) | (simp [szOf, tab]; done) | (simp [szOf, tab]; omega))); (focus (first | rfl | omega | (simp; done) | (simp; omega) | (simp [szOf, tab]; done) | (simp [szOf, tab]; omega))); (try simp only [go_sem, Nat.reduceAdd, Nat.reduceMul, Nat.reduceEqDiff, Nat.reduceLT, reduceIte, reduceCtorEq])) | (refine aStoreAll_ints (by simp only [St.ev, St.set, upd, Nat.reduceEqDiff, reduceIte, if_false, if_true]; exact rfl) ?_ ?_ ?_ ?_; (focus (first | rfl | omega | (simp; done) | (simp; omega) | (simp [szOf, tab]; done) | (simp [szOf, tab]; omega))); (focus (first | rfl | omega | (simp; done) | (simp; omega) | (simp [szOf, tab]; done) | (simp [szOf, tab]; omega))); (focus (first | rfl | omega | (simp; done) | (simp; omega) | (simp [szOf, tab]; done) | (simp [szOf, tab]; omega))); (try simp only [go_sem, Nat.reduceAdd, Nat.reduceMul, Nat.reduceEqDiff, Nat.reduceLT, reduceIte, reduceCtorEq])) | (simp only [doneH]; simp only [ressK, resK, wrapR, go_sem, Nat.reduceAdd, Nat.reduceMul, Nat.reduceEqDiff, Nat.reduceLT, reduceIte, reduceCtorEq]) | (refine aStoreAll_cells (by simp only [St.ev, St.set, upd, Nat.reduceEqDiff, reduceIte, if_false, if_true]; exact rfl) ?_ ?_ ?_ ?_ ?_; (focus (first | rfl | omega | (simp; done) | (simp; omega) | (simp [szOf, tab]; done) | (simp [szOf, tab]; omega))); (focus (first | rfl | omega | (simp; done) | (simp; omega) | (simp [szOf, tab]; done) | (simp [szOf, tab]; omega))); (focus (first | rfl | omega | (simp; done) | (simp; omega) | (simp [szOf, tab]; done) | (simp [szOf, tab]; omega))); (focus (first | rfl | (simp [AV.cell, Value.oneCell']; done))); (try simp only [go_sem, Nat.reduceAdd, Nat.reduceMul, Nat.reduceEqDiff, Nat.reduceLT, reduceIte, reduceCtorEq])) | (with_reducible refine And.intro (fun hb => ?_) (fun hb => ?_)) | (exfalso; omega) | fail)
    exact hQ ks (r + 1) (by omega) (by omega)



theorem equalInts_sat : Sat Try.prog 19 (fun ds Q => ∃ (xs ys : List Int), ds = [.row (.ints .i64 (xs)), .row (.ints .i64 (ys))] ∧ (xs.length ≤ 1099511627776) ∧ (ys.length ≤ 1099511627776) ∧ Q (.val (.bool ((decide (xs = ys)))))) := by
  refine sat_intro tabOk Try.func19 rfl 26 rfl [.tmp 4] rfl ?_
  rintro ds Q W ⟨xs, ys, rfl, hx, hy, hQ⟩
  refine ⟨Nat.le_of_ble_eq_true rfl, ?_⟩
  simp only [initS, initT, mat.matL, mat, Cont.len]
  repeat' (first | refine awp_seq_k fun K hK => ?_ | ((with_reducible refine hK _ ?_); clear hK K) | (clear hK K; (with_reducible refine hK _ ?_); clear hK K) | (clear hK K; clear hK K; (with_reducible refine hK _ ?_); clear hK K) | (clear hK K; clear hK K; clear hK K; (with_reducible refine hK _ ?_); clear hK K) | (clear hK K; clear hK K; clear hK K; clear hK K; (with_reducible refine hK _ ?_); clear hK K) | (clear hK K; clear hK K; clear hK K; clear hK K; clear hK K; (with_reducible refine hK _ ?_); clear hK K) | ((with_reducible refine aord_plain fun K hK => ?_); simp only [go_sem, Nat.reduceAdd, Nat.reduceMul, Nat.reduceEqDiff, Nat.reduceLT, reduceIte, reduceCtorEq]) | refine awp_block ?_ | ((first | with_reducible refine aord_nil ?_ | refine awp_skip ?_ | refine awp_exit ?_ | refine awp_ret ?_); try simp only [thenA_normal, thenA_exit, thenA_goto, thenA_ret, blockA_normal, blockA_same, blockA_exit, blockA_goto, blockA_ret, Nat.reduceEqDiff, if_false, if_true, reduceIte]) | (refine awp_region tabOk rfl ?_; simp only [prep, pickO, List.map_cons, List.map_nil, List.getElem?_toArray, List.getElem?_cons_succ, List.getElem?_cons_zero, Option.bind_some, Option.map_some]) | (refine awp_region_draw (nt := 26) (id := 6) tabOk [(0, true, false), (1, true, false), (2, true, false), (3, true, false), (4, true, false), (5, true, false), (6, true, false), (7, true, false), (8, true, false)] (by kernel_rfl) rfl (by kernel_rfl) ?_; simp only [prep, pickO, List.map_cons, List.map_nil, List.getElem?_toArray, List.getElem?_cons_succ, List.getElem?_cons_zero, Option.bind_some, Option.map_some]) | ((with_reducible apply awp_cond); (focus (simp only [St.ev, St.set, upd, Nat.reduceEqDiff, reduceIte, if_false, if_true]; exact rfl)); all_goals (intro hb; first | (cases hb; done) | ((try rw [hb]); (try simp only [decide_eq_true_eq, decide_eq_false_iff_not, beq_iff_eq, bne_iff_ne, beq_eq_false_iff_ne, bne_eq_false_iff_eq, Int.not_lt, Int.not_le, Bool.not_eq_true', Bool.not_eq_false'] at hb)))) | ((with_reducible refine And.intro ?_ ?_); (focus omega)) | ((with_reducible refine And.intro ?_ ?_); (focus (exact rfl))) | (with_reducible refine And.intro (fun hb => ?_) (fun hb => ?_)) | (exfalso; omega) | fail)
  · simp only [St.set, St.ev, doneQ, doneH, ressK, resK, wrapR, AV.ids, AV.idsL, retK, retsK, upd, Nat.reduceEqDiff, reduceIte, if_false, if_true, List.nodup_nil, List.nodup_cons, List.not_mem_nil, not_false_eq_true, true_and, and_true, exists_eq_left', Option.some.injEq, rLoad, cellOf, tab, Ty.isAgg, Ty.one, Bool.false_eq_true]
    rw [decide_eq_false (fun h => hb (by rw [h]))] at hQ
    exact hQ
  · have hl : ys.length = xs.length := by omega
    refine awp_loopE (α := Nat) (fun s p => ⟨(upd (upd (upd bot 0 (s.tmps 0)) 1 (s.tmps 1)) 5 (.val (.int .i64 (p)))), s.heap, s.next⟩) _ (fun p => by simp only [St.ev, St.set, upd, Nat.reduceEqDiff, reduceIte, if_false, if_true]; exact rfl) (fun p => (p ≤ xs.length) ∧ (∀ j, j < p → xs.getD j 0 = ys.getD j 0)) (fun p => xs.length - p) (0) ?_ ?_ ?_
    · (try simp only); (refine ⟨?_, ?_⟩ <;> (first | omega | (intro j hj; omega)))
    · (apply Wk.same; (case' h2 => (focus ((repeat' (with_reducible first | exact HeapX.bot | (apply HeapX.skip; (case hx => (simp; done))) | apply HeapX.none | apply HeapX.upd)); all_goals (first | rfl | exact Nat.le_of_ble_eq_true rfl | (simp only [St.set, St.ev, upd, ren, renL, id, Nat.reduceEqDiff, reduceIte, ContLe]; done) | (first | (simp only [St.set, St.ev, upd, ren, renL, id, Nat.reduceEqDiff, reduceIte]; exact contLe_nil) | ((repeat' (first | exact contLe_nil | refine contLe_cons (.inr ⟨?_, rfl⟩) ?_)); all_goals (first | rfl | (simp only [St.set, St.ev, upd, ren, renL, id, Nat.reduceEqDiff, reduceIte]; done) | ((try simp only [St.set, St.ev, upd, ren, renL, id, Nat.reduceEqDiff, reduceIte]); first | (with_reducible exact av_int (by omega)) | (with_reducible exact av_sl (by first | omega | (simp; done) | (simp; omega)) (by first | omega | (simp; done) | (simp; omega)))) | (simp only [St.set, St.ev, upd, ren, renL, id, Nat.reduceEqDiff, reduceIte, Int.natCast_add, Int.natCast_one, Int.cast_ofNat_Int, Int.natCast_zero]; done) | (simp only [St.set, St.ev, upd, ren, renL, id, Nat.reduceEqDiff, reduceIte]) | skip); done)) | (simp only [St.set, St.ev, upd, ren, renL, id, Nat.reduceEqDiff, reduceIte, ContLe]) | skip)))); (case' h1 => (focus ((repeat' (with_reducible first | exact TmpLe.bot | refine TmpLe.upd ?_ rfl ?_)); all_goals (first | rfl | (simp only [St.set, St.ev, upd, ren, renL, id, Nat.reduceEqDiff, reduceIte]; done) | ((try simp only [St.set, St.ev, upd, ren, renL, id, Nat.reduceEqDiff, reduceIte]); first | (with_reducible exact av_int (by omega)) | (with_reducible exact av_sl (by first | omega | (simp; done) | (simp; omega)) (by first | omega | (simp; done) | (simp; omega)))) | (simp only [St.set, St.ev, upd, ren, renL, id, Nat.reduceEqDiff, reduceIte, Int.natCast_add, Int.natCast_one, Int.cast_ofNat_Int, Int.natCast_zero]; done) | (simp only [St.set, St.ev, upd, ren, renL, id, Nat.reduceEqDiff, reduceIte]) | skip)))); (case h3 => (focus (first | (simp only [id, List.map_cons, List.map_nil]; decide) | decide | (simp; done) | (simp; omega) | fail))); (case h4 => (intro o l h; first | (cases h; done) | (have hlt0 := m0_lt (by assumption) h; first | omega | (simp only; omega) | exact ⟨by (first | rfl | (simp only [id]; done) | ((repeat rw [if_neg (by omega)]); done)), by first | omega | (simp only; omega)⟩))))
    rintro i ⟨hi, hj⟩
    try simp only at hi hj
    repeat' (first | refine awp_seq_k fun K hK => ?_ | ((with_reducible refine hK _ ?_); clear hK K) | (clear hK K; (with_reducible refine hK _ ?_); clear hK K) | (clear hK K; clear hK K; (with_reducible refine hK _ ?_); clear hK K) | (clear hK K; clear hK K; clear hK K; (with_reducible refine hK _ ?_); clear hK K) | (clear hK K; clear hK K; clear hK K; clear hK K; (with_reducible refine hK _ ?_); clear hK K) | (clear hK K; clear hK K; clear hK K; clear hK K; clear hK K; (with_reducible refine hK _ ?_); clear hK K) | ((with_reducible refine aord_plain fun K hK => ?_); simp only [go_sem, Nat.reduceAdd, Nat.reduceMul, Nat.reduceEqDiff, Nat.reduceLT, reduceIte, reduceCtorEq]) | refine awp_block ?_ | ((first | with_reducible refine aord_nil ?_ | refine awp_skip ?_ | refine awp_exit ?_ | refine awp_ret ?_); try simp only [thenA_normal, thenA_exit, thenA_goto, thenA_ret, blockA_normal, blockA_same, blockA_exit, blockA_goto, blockA_ret, Nat.reduceEqDiff, if_false, if_true, reduceIte]) | (refine awp_region tabOk rfl ?_; simp only [prep, pickO, List.map_cons, List.map_nil, List.getElem?_toArray, List.getElem?_cons_succ, List.getElem?_cons_zero, Option.bind_some, Option.map_some]) | (refine awp_region_draw (nt := 26) (id := 6) tabOk [(0, true, false), (1, true, false), (2, true, false), (3, true, false), (4, true, false), (5, true, false), (6, true, false), (7, true, false), (8, true, false)] (by kernel_rfl) rfl (by kernel_rfl) ?_; simp only [prep, pickO, List.map_cons, List.map_nil, List.getElem?_toArray, List.getElem?_cons_succ, List.getElem?_cons_zero, Option.bind_some, Option.map_some]) | ((with_reducible apply awp_cond); (focus (simp only [St.ev, St.set, upd, Nat.reduceEqDiff, reduceIte, if_false, if_true]; exact rfl)); all_goals (intro hb; first | (cases hb; done) | ((try rw [hb]); (try simp only [decide_eq_true_eq, decide_eq_false_iff_not, beq_iff_eq, bne_iff_ne, beq_eq_false_iff_ne, bne_eq_false_iff_eq, Int.not_lt, Int.not_le, Bool.not_eq_true', Bool.not_eq_false'] at hb)))) | ((with_reducible refine And.intro ?_ ?_); (focus omega)) | ((with_reducible refine And.intro ?_ ?_); (focus (exact rfl))) | (with_reducible refine And.intro (fun hb => ?_) (fun hb => ?_)) | (exfalso; omega) | fail)
    · simp only [St.set, St.ev, doneQ, doneH, ressK, resK, wrapR, AV.ids, AV.idsL, retK, retsK, upd, Nat.reduceEqDiff, reduceIte, if_false, if_true, List.nodup_nil, List.nodup_cons, List.not_mem_nil, not_false_eq_true, true_and, and_true, exists_eq_left', Option.some.injEq, rLoad, cellOf, tab, Ty.isAgg, Ty.one, Bool.false_eq_true]
      rw [decide_eq_false (fun h => hb (by rw [h]))] at hQ
      exact hQ
    · ((refine Exists.intro (i + 1) ?_); (refine nxt ?_ ?_ ?_); (focus ((apply Wk.same; (case' h2 => (focus ((repeat' (with_reducible first | exact HeapX.bot | (apply HeapX.skip; (case hx => (simp; done))) | apply HeapX.none | apply HeapX.upd)); all_goals (first | rfl | exact Nat.le_of_ble_eq_true rfl | (simp only [St.set, St.ev, upd, ren, renL, id, Nat.reduceEqDiff, reduceIte, ContLe]; done) | (first | (simp only [St.set, St.ev, upd, ren, renL, id, Nat.reduceEqDiff, reduceIte]; exact contLe_nil) | ((repeat' (first | exact contLe_nil | refine contLe_cons (.inr ⟨?_, rfl⟩) ?_)); all_goals (first | rfl | (simp only [St.set, St.ev, upd, ren, renL, id, Nat.reduceEqDiff, reduceIte]; done) | ((try simp only [St.set, St.ev, upd, ren, renL, id, Nat.reduceEqDiff, reduceIte]); first | (with_reducible exact av_int (by omega)) | (with_reducible exact av_sl (by first | omega | (simp; done) | (simp; omega)) (by first | omega | (simp; done) | (simp; omega)))) | (simp only [St.set, St.ev, upd, ren, renL, id, Nat.reduceEqDiff, reduceIte, Int.natCast_add, Int.natCast_one, Int.cast_ofNat_Int, Int.natCast_zero]; done) | (simp only [St.set, St.ev, upd, ren, renL, id, Nat.reduceEqDiff, reduceIte]) | skip); done)) | (simp only [St.set, St.ev, upd, ren, renL, id, Nat.reduceEqDiff, reduceIte, ContLe]) | skip)))); (case' h1 => (focus ((repeat' (with_reducible first | exact TmpLe.bot | refine TmpLe.upd ?_ rfl ?_)); all_goals (first | rfl | (simp only [St.set, St.ev, upd, ren, renL, id, Nat.reduceEqDiff, reduceIte]; done) | ((try simp only [St.set, St.ev, upd, ren, renL, id, Nat.reduceEqDiff, reduceIte]); first | (with_reducible exact av_int (by omega)) | (with_reducible exact av_sl (by first | omega | (simp; done) | (simp; omega)) (by first | omega | (simp; done) | (simp; omega)))) | (simp only [St.set, St.ev, upd, ren, renL, id, Nat.reduceEqDiff, reduceIte, Int.natCast_add, Int.natCast_one, Int.cast_ofNat_Int, Int.natCast_zero]; done) | (simp only [St.set, St.ev, upd, ren, renL, id, Nat.reduceEqDiff, reduceIte]) | skip)))); (case h3 => (focus (first | (simp only [id, List.map_cons, List.map_nil]; decide) | decide | (simp; done) | (simp; omega) | fail))); (case h4 => (intro o l h; first | (cases h; done) | (have hlt0 := m0_lt (by assumption) h; first | omega | (simp only; omega) | exact ⟨by (first | rfl | (simp only [id]; done) | ((repeat rw [if_neg (by omega)]); done)), by first | omega | (simp only; omega)⟩)))))); (focus (first | omega | (simp only; omega) | (simp only [List.length_take]; omega) | (simp; done) | (simp; omega))); ((repeat' (with_reducible apply And.intro)) <;> (first | omega | (simp only; omega) | assumption | rfl | ((try simp only); exact all_step hj hb) | skip)))
    · simp only [St.set, St.ev, doneQ, doneH, ressK, resK, wrapR, AV.ids, AV.idsL, retK, retsK, upd, Nat.reduceEqDiff, reduceIte, if_false, if_true, List.nodup_nil, List.nodup_cons, List.not_mem_nil, not_false_eq_true, true_and, and_true, exists_eq_left', Option.some.injEq, rLoad, cellOf, tab, Ty.isAgg, Ty.one, Bool.false_eq_true]
      rw [decide_eq_true (ext_getD hl.symm fun j h => hj j (by omega))] at hQ
      exact hQ


theorem invRow_nonneg (xs : List Int) (i : Nat) : ∀ k, 0 ≤ invRow xs i k
  | 0 => Int.le_refl 0
  | k + 1 => by have := invRow_nonneg xs i k; rw [invRow]; split <;> omega
theorem invRow_zero {xs : List Int} {i : Nat} : ∀ k, invRow xs i k = 0 ↔ ∀ j, j < k → i < j → xs.getD i 0 ≤ xs.getD j 0
  | 0 => ⟨fun _ j h => by omega, fun _ => rfl⟩
  | k + 1 => by
    have ih := invRow_zero (xs := xs) (i := i) k
    have h0 := invRow_nonneg xs i k
    rw [invRow]
    constructor
    · intro h j hj hij
      split at h
      · omega
      · rename_i hc
        rcases Nat.lt_or_ge j k with h1 | h1
        · exact ih.1 (by omega) j h1 hij
        · have : j = k := by omega
          subst this; omega
    · intro h
      have h1 := ih.2 fun j hj hij => h j (by omega) hij
      rw [if_neg (fun hc => by have := h k (by omega) hc.1; omega), h1]; rfl
theorem invTo_nonneg (xs : List Int) : ∀ i, 0 ≤ invTo xs i
  | 0 => Int.le_refl 0
  | i + 1 => by have := invTo_nonneg xs i; have := invRow_nonneg xs i xs.length; rw [invTo]; omega
theorem invTo_zero {xs : List Int} : ∀ i, invTo xs i = 0 ↔ ∀ a, a < i → ∀ j, j < xs.length → a < j → xs.getD a 0 ≤ xs.getD j 0
  | 0 => ⟨fun _ a h => by omega, fun _ => rfl⟩
  | i + 1 => by
    have ih := invTo_zero (xs := xs) i
    have h0 := invTo_nonneg xs i
    have h1 := invRow_nonneg xs i xs.length
    have h2 := invRow_zero (xs := xs) (i := i) xs.length
    rw [invTo]
    constructor
    · intro h a ha
      rcases Nat.lt_or_ge a i with h3 | h3
      · exact ih.1 (by omega) a h3
      · have : a = i := by omega
        subst this; exact h2.1 (by omega)
    · intro h
      have h3 := ih.2 fun a ha => h a (by omega)
      have h4 := h2.2 (h i (by omega))
      omega
theorem inv_srt (xs : List Int) : (invTo xs xs.length == 0) = srt xs := by
  have h1 := invTo_zero (xs := xs) xs.length
  cases e : srt xs with
  | true =>
    have : invTo xs xs.length = 0 := h1.2 fun a ha j hj haj => by
      obtain ⟨d, rfl⟩ : ∃ d, j = a + d := ⟨j - a, by omega⟩
      exact srt_le e hj
    rw [this]; rfl
  | false =>
    have : invTo xs xs.length ≠ 0 := fun h => by
      have := srt_iff.2 fun j hj => (h1.1 h) j (by omega) (j + 1) hj (by omega)
      rw [this] at e; cases e
    simpa using this
theorem ord_dec (xs : List Int) : decide (ordL xs = xs) = srt xs := by
  rw [srt_eq]; apply decide_eq_decide.2; exact eq_comm
theorem sq_beq (b : Bool) : (b == b) = true := by cases b <;> rfl
theorem sq_bne (b : Bool) : (b != b) = false := by cases b <;> rfl
theorem int_bne (n : Int) : (n != n) = false := by simp


theorem plN_ltK {xs : List Int} {i k : Nat} (hi : i < xs.length) (hk : k < xs.length) : plN xs i < plN xs k ↔ ltK xs i k := by
  constructor
  · intro h
    by_cases h1 : ltK xs i k
    · exact h1
    · by_cases e : i = k
      · subst e; omega
      · have h2 : ltK xs k i := by unfold ltK at h1 ⊢; omega
        have := plN_mono hk h2
        omega
  · exact plN_mono hi
theorem placesL_cast {xs : List Int} {i : Nat} (h : i < xs.length) : (placesL xs).getD i 0 = (plN xs i : Nat) := by
  rw [placesL_get h]; unfold plN; have := plC_nonneg xs i xs.length; omega
theorem plC_places {xs : List Int} {i : Nat} (hi : i < xs.length) : ∀ m, m ≤ xs.length → plC (placesL xs) i m = plC xs i m
  | 0, _ => rfl
  | m + 1, hm => by
    rw [plC, plC, plC_places hi m (by omega), placesL_cast (show m < xs.length by omega), placesL_cast hi]
    have h1 := plN_ltK (xs := xs) (i := m) (k := i) (by omega) hi
    have h2 : plN xs m = plN xs i → m = i := plN_inj (by omega) hi
    have e : ((plN xs m : Nat) : Int) < (plN xs i : Nat) ∨ (((plN xs m : Nat) : Int) = (plN xs i : Nat) ∧ m < i) ↔ xs.getD m 0 < xs.getD i 0 ∨ (xs.getD m 0 = xs.getD i 0 ∧ m < i) := by
      unfold ltK at h1; omega
    simp only [e]
theorem places_places (xs : List Int) : placesL (placesL xs) = placesL xs := by
  refine ext_getD (by rw [placesL_len]) fun j hj => ?_
  rw [placesL_len, placesL_len] at hj
  rw [placesL_get (by rw [placesL_len]; exact hj), placesL_len, plC_places hj _ (Nat.le_refl _), placesL_get hj]
theorem plN_places {xs : List Int} {i : Nat} (hi : i < xs.length) : plN (placesL xs) i = plN xs i := by
  unfold plN; rw [placesL_len, plC_places hi _ (Nat.le_refl _)]
theorem invRow_places {xs : List Int} {i : Nat} (hi : i < xs.length) : ∀ m, m ≤ xs.length → invRow (placesL xs) i m = invRow xs i m
  | 0, _ => rfl
  | m + 1, hm => by
    rw [invRow, invRow, invRow_places hi m (by omega), placesL_cast (show m < xs.length by omega), placesL_cast hi]
    have h1 := plN_ltK (xs := xs) (i := m) (k := i) (by omega) hi
    have e : (i < m ∧ ((plN xs m : Nat) : Int) < (plN xs i : Nat)) ↔ (i < m ∧ xs.getD m 0 < xs.getD i 0) := by
      unfold ltK at h1; omega
    simp only [e]
theorem invTo_places (xs : List Int) : ∀ i, i ≤ xs.length → invTo (placesL xs) i = invTo xs i
  | 0, _ => rfl
  | i + 1, h => by rw [invTo, invTo, invTo_places xs i (by omega), placesL_len, invRow_places (by omega) _ (Nat.le_refl _)]
def riseL (n : Nat) : List Int := (List.range n).map Int.ofNat
theorem riseL_len (n : Nat) : (riseL n).length = n := by simp [riseL]
theorem riseL_get {n i : Nat} (h : i < n) : (riseL n).getD i 0 = i := by
  rw [List.getD_eq_getElem?_getD, List.getElem?_eq_getElem (by rw [riseL_len]; exact h)]; simp [riseL]
theorem riseL_up (n : Nat) : riseL (n + 1) = riseL n ++ [(n : Int)] := by simp [riseL, List.range_succ]
theorem ord_places (xs : List Int) : ordL (placesL xs) = riseL xs.length := by
  refine ext_getD (by rw [ordL_len, placesL_len, riseL_len]) fun j hj => ?_
  rw [ordL_len, placesL_len] at hj
  obtain ⟨a, ha, rfl⟩ := ord_from hj
  rw [riseL_get hj]
  have := ord_at (xs := placesL xs) (a := a) (by rw [placesL_len]; exact ha)
  rw [plN_places ha] at this
  rw [this, placesL_cast ha]
theorem valid_places {xs : List Int} (h : validB xs = true) : validB (placesL xs) = true := by
  have h8 := valid_len h
  refine valid_all (by rw [placesL_len]; exact h8) fun j hj => ?_
  rw [placesL_len] at hj
  have := placesL_lt hj
  unfold inB
  rw [decide_eq_true (by omega), decide_eq_true (by omega)]; rfl
theorem dec_self (xs : List Int) : decide (xs = xs) = true := decide_eq_true rfl


/-! TreeDepths: the windows that keys fall through, and what a tree of them holds after the first keys: the side of node j holds the first later key in that side's window. -/
def tIn (w : Int × Int) (y : Int) : Prop := w.1 ≤ y ∧ y < w.2
instance {w y} : Decidable (tIn w y) := by unfold tIn; infer_instance
/-- The side of a key in its window. -/
def tSide (w : Int × Int) (c : Int) (l : Bool) : Int × Int := if l then (w.1, c) else (c, w.2)
/-- The window of x after the first keys. -/
def tWin (xs : List Int) (x : Int) : Nat → Int × Int
  | 0 => (-99, 100)
  | k + 1 => if tIn (tWin xs x k) (xs.getD k 0) then tSide (tWin xs x k) (xs.getD k 0) (decide (x < xs.getD k 0)) else tWin xs x k
/-- How many keys are met. -/
def tDep (xs : List Int) (x : Int) : Nat → Nat
  | 0 => 0
  | k + 1 => tDep xs x k + if tIn (tWin xs x k) (xs.getD k 0) then 1 else 0
/-- The last key that is met, and on which side of it. -/
def tLst (xs : List Int) (x : Int) : Nat → Option (Nat × Bool)
  | 0 => none
  | k + 1 => if tIn (tWin xs x k) (xs.getD k 0) then some (k, decide (x < xs.getD k 0)) else tLst xs x k
/-- The first key from k on, and ahead of n, that lies in a window. -/
def tNxt (xs : List Int) (w : Int × Int) (k : Nat) : Nat → Option Nat
  | 0 => none
  | n + 1 => match tNxt xs w k n with
    | some j => some j
    | none => if k ≤ n ∧ tIn w (xs.getD n 0) then some n else none
theorem tSide_sub {w : Int × Int} {c y : Int} {l : Bool} (hc : tIn w c) (h : tIn (tSide w c l) y) : tIn w y := by
  unfold tSide at h; unfold tIn at *; cases l <;> simp at h <;> omega
theorem tWin_sub {xs : List Int} {x y : Int} {k : Nat} (h : tIn (tWin xs x (k + 1)) y) : tIn (tWin xs x k) y := by
  rw [tWin] at h
  split at h
  · rename_i hc; exact tSide_sub hc h
  · exact h
theorem tWin_same {xs : List Int} {x y : Int} : ∀ {k : Nat}, tIn (tWin xs x k) y → tWin xs y k = tWin xs x k
  | 0, _ => rfl
  | k + 1, h => by
    have ih := tWin_same (tWin_sub h)
    rw [tWin, tWin, ih]
    split
    · rename_i hc
      rw [tWin, if_pos hc] at h
      congr 1
      unfold tSide tIn at h
      apply decide_eq_decide.2
      generalize xs.getD k 0 = c at *
      by_cases hx : x < c
      · rw [decide_eq_true hx, if_pos rfl] at h; simp only at h; omega
      · rw [decide_eq_false hx, if_neg (by decide)] at h; simp only at h; omega
    · rfl
theorem tWin_self {xs : List Int} {x : Int} (h : -99 ≤ x ∧ x ≤ 99) : ∀ k, tIn (tWin xs x k) x
  | 0 => by unfold tIn tWin; simp only; omega
  | k + 1 => by
    have ih := tWin_self (xs := xs) h k
    rw [tWin]
    split
    · unfold tSide tIn at *
      generalize xs.getD k 0 = c at *
      by_cases hx : x < c
      · rw [decide_eq_true hx, if_pos rfl]; simp only; omega
      · rw [decide_eq_false hx, if_neg (by decide)]; simp only; omega
    · exact ih
theorem tNxt_none {xs : List Int} {w : Int × Int} {k : Nat} : ∀ {n : Nat}, tNxt xs w k n = none → ∀ j, k ≤ j → j < n → ¬ tIn w (xs.getD j 0)
  | 0, _, j, _, h => by omega
  | n + 1, h, j, h1, h2 => by
    rw [tNxt] at h
    split at h
    · cases h
    · rename_i hn
      split at h
      · cases h
      · rename_i hc
        by_cases e : j = n
        · subst e; exact fun hw => hc ⟨h1, hw⟩
        · exact tNxt_none hn j h1 (by omega)
theorem tNxt_some {xs : List Int} {w : Int × Int} {k m : Nat} : ∀ {n : Nat}, tNxt xs w k n = some m → k ≤ m ∧ m < n ∧ tIn w (xs.getD m 0) ∧ ∀ j, k ≤ j → j < m → ¬ tIn w (xs.getD j 0)
  | 0, h => by cases h
  | n + 1, h => by
    rw [tNxt] at h
    split at h
    · rename_i j hj
      cases h
      obtain ⟨h1, h2, h3⟩ := tNxt_some hj
      exact ⟨h1, by omega, h3⟩
    · rename_i hn
      split at h
      · rename_i hc
        cases h
        exact ⟨hc.1, by omega, hc.2, fun j h1 h2 => tNxt_none hn j h1 h2⟩
      · cases h
theorem tSkip {xs : List Int} {x : Int} {k : Nat} : ∀ (d : Nat), (∀ j, k ≤ j → j < k + d → ¬ tIn (tWin xs x k) (xs.getD j 0)) → tWin xs x (k + d) = tWin xs x k ∧ tDep xs x (k + d) = tDep xs x k ∧ tLst xs x (k + d) = tLst xs x k
  | 0, _ => ⟨rfl, rfl, rfl⟩
  | d + 1, h => by
    obtain ⟨h1, h2, h3⟩ := tSkip d fun j a b => h j a (by omega)
    have hn : ¬ tIn (tWin xs x (k + d)) (xs.getD (k + d) 0) := by rw [h1]; exact h (k + d) (by omega) (by omega)
    rw [← Nat.add_assoc, tWin, tDep, tLst, if_neg hn, if_neg hn, if_neg hn]
    exact ⟨h1, h2, h3⟩
/-- One step of the walk: the next key that is met. -/
theorem tWalk_some {xs : List Int} {x : Int} {k n m : Nat} (h : tNxt xs (tWin xs x k) k n = some m) : k ≤ m ∧ m < n ∧ tDep xs x (m + 1) = tDep xs x k + 1 ∧ tWin xs x (m + 1) = tSide (tWin xs (xs.getD m 0) m) (xs.getD m 0) (decide (x < xs.getD m 0)) ∧ tLst xs x (m + 1) = some (m, decide (x < xs.getD m 0)) := by
  obtain ⟨h1, h2, h3, h4⟩ := tNxt_some h
  obtain ⟨s1, s2, s3⟩ := tSkip (xs := xs) (x := x) (k := k) (m - k) fun j a b => h4 j a (by omega)
  rw [show k + (m - k) = m by omega] at s1 s2 s3
  rw [← s1] at h3
  rw [tDep, tWin, tLst, if_pos h3, if_pos h3, if_pos h3, s2, tWin_same h3]
  exact ⟨h1, h2, rfl, rfl, rfl⟩
/-- The walk's end. -/
theorem tWalk_none {xs : List Int} {x : Int} {k n : Nat} (hk : k ≤ n) (h : tNxt xs (tWin xs x k) k n = none) : tDep xs x n = tDep xs x k ∧ tLst xs x n = tLst xs x k := by
  obtain ⟨s1, s2, s3⟩ := tSkip (xs := xs) (x := x) (k := k) (n - k) fun j a b => tNxt_none h j a (by omega)
  rw [show k + (n - k) = n by omega] at s1 s2 s3
  exact ⟨s2, s3⟩
/-- Where a new key is put: a side that would take it is the one where the walk ends. -/
theorem tPut_one {xs : List Int} {n j : Nat} {l : Bool} (hj : j < n) (hr : ∀ k, -99 ≤ xs.getD k 0 ∧ xs.getD k 0 ≤ 99) (hn : tNxt xs (tSide (tWin xs (xs.getD j 0) j) (xs.getD j 0) l) (j + 1) n = none)
    (hx : tIn (tSide (tWin xs (xs.getD j 0) j) (xs.getD j 0) l) (xs.getD n 0)) : tLst xs (xs.getD n 0) n = some (j, l) := by
  have hc := tWin_self (xs := xs) (hr j) j
  have hw := tWin_same (tSide_sub hc hx)
  have hl : decide (xs.getD n 0 < xs.getD j 0) = l := by
    unfold tSide tIn at hx
    cases l <;> simp at hx ⊢ <;> omega
  have hs : tWin xs (xs.getD n 0) (j + 1) = tSide (tWin xs (xs.getD j 0) j) (xs.getD j 0) l := by rw [tWin, hw, if_pos hc, hl]
  have := tWalk_none (xs := xs) (x := xs.getD n 0) (k := j + 1) (n := n) (by omega) (by rw [hs]; exact hn)
  rw [this.2, tLst, hw, if_pos hc, hl]
theorem tNxt_ge {xs : List Int} {w : Int × Int} {k : Nat} : ∀ {n : Nat}, n ≤ k → tNxt xs w k n = none
  | 0, _ => rfl
  | n + 1, h => by rw [tNxt, tNxt_ge (by omega)]; simp only; rw [if_neg (by omega)]
theorem tNxt_put {xs : List Int} {w : Int × Int} {k n : Nat} (h : tNxt xs w k n = none) (hk : k ≤ n) (hx : tIn w (xs.getD n 0)) : tNxt xs w k (n + 1) = some n := by
  rw [tNxt, h]; simp only; rw [if_pos ⟨hk, hx⟩]
theorem tNxt_old {xs : List Int} {w : Int × Int} {k n m : Nat} (h : tNxt xs w k n = some m) : tNxt xs w k (n + 1) = some m := by rw [tNxt, h]
/-- Every other side stays as it is. -/
theorem tNxt_keep {xs : List Int} {n j : Nat} {l : Bool} (hj : j < n) (hr : ∀ k, -99 ≤ xs.getD k 0 ∧ xs.getD k 0 ≤ 99) (hne : tLst xs (xs.getD n 0) n ≠ some (j, l)) :
    tNxt xs (tSide (tWin xs (xs.getD j 0) j) (xs.getD j 0) l) (j + 1) (n + 1) = tNxt xs (tSide (tWin xs (xs.getD j 0) j) (xs.getD j 0) l) (j + 1) n := by
  rcases hn : tNxt xs (tSide (tWin xs (xs.getD j 0) j) (xs.getD j 0) l) (j + 1) n with _ | m
  · rw [tNxt, hn]
    simp only
    rw [if_neg fun h => hne (tPut_one hj hr hn h.2)]
  · exact tNxt_old hn
/-- The root. -/
theorem tNxt_root {xs : List Int} (hr : ∀ k, -99 ≤ xs.getD k 0 ∧ xs.getD k 0 ≤ 99) : ∀ n, tNxt xs (-99, 100) 0 (n + 1) = some 0
  | 0 => tNxt_put rfl (Nat.le_refl _) (by have := hr 0; unfold tIn; simp only; omega)
  | n + 1 => tNxt_old (tNxt_root hr n)

theorem tStep_l {xs : List Int} {x : Int} {k : Nat} (h1 : (tWin xs x k).1 ≤ xs.getD k 0) (h2 : xs.getD k 0 < (tWin xs x k).2) (h3 : x < xs.getD k 0) : tDep xs x (k + 1) = tDep xs x k + 1 ∧ (tWin xs x (k + 1)).1 = (tWin xs x k).1 ∧ (tWin xs x (k + 1)).2 = xs.getD k 0 := by
  have hc : tIn (tWin xs x k) (xs.getD k 0) := ⟨h1, h2⟩
  rw [tDep, tWin, if_pos hc, if_pos hc, decide_eq_true h3, tSide, if_pos rfl]; exact ⟨rfl, rfl, rfl⟩
theorem tStep_r {xs : List Int} {x : Int} {k : Nat} (h1 : (tWin xs x k).1 ≤ xs.getD k 0) (h2 : xs.getD k 0 < (tWin xs x k).2) (h3 : xs.getD k 0 ≤ x) : tDep xs x (k + 1) = tDep xs x k + 1 ∧ (tWin xs x (k + 1)).1 = xs.getD k 0 ∧ (tWin xs x (k + 1)).2 = (tWin xs x k).2 := by
  have hc : tIn (tWin xs x k) (xs.getD k 0) := ⟨h1, h2⟩
  rw [tDep, tWin, if_pos hc, if_pos hc, decide_eq_false (by omega), tSide, if_neg (by decide)]; exact ⟨rfl, rfl, rfl⟩
theorem tStep_n {xs : List Int} {x : Int} {k : Nat} (h1 : ¬ ((tWin xs x k).1 ≤ xs.getD k 0 ∧ xs.getD k 0 < (tWin xs x k).2)) : tDep xs x (k + 1) = tDep xs x k ∧ (tWin xs x (k + 1)).1 = (tWin xs x k).1 ∧ (tWin xs x (k + 1)).2 = (tWin xs x k).2 := by
  have hc : ¬ tIn (tWin xs x k) (xs.getD k 0) := h1
  rw [tDep, tWin, if_neg hc, if_neg hc]; exact ⟨rfl, rfl, rfl⟩
theorem tDep_le {xs : List Int} {x : Int} : ∀ k, tDep xs x k ≤ k
  | 0 => Nat.le_refl _
  | k + 1 => by have := tDep_le (xs := xs) (x := x) k; rw [tDep]; split <;> omega
/-- How many keys each of the first keys meets. -/
def tdTo (xs : List Int) : Nat → List Int
  | 0 => []
  | i + 1 => tdTo xs i ++ [((tDep xs (xs.getD i 0) i : Nat) : Int)]
theorem tdTo_len (xs : List Int) : ∀ i, (tdTo xs i).length = i
  | 0 => rfl
  | i + 1 => by rw [tdTo, List.length_append, tdTo_len xs i]; rfl
theorem tValid_in {xs : List Int} (h : validB xs = true) : ∀ k, -99 ≤ xs.getD k 0 ∧ xs.getD k 0 ≤ 99 := fun k => by
  by_cases hk : k < xs.length
  · have h1 := (Bool.and_eq_true_iff.1 h).1
    have := List.all_eq_true.1 h1 (xs.getD k 0) (by rw [List.getD_eq_getElem?_getD, List.getElem?_eq_getElem hk]; exact List.getElem_mem hk)
    unfold inB at this
    simp only [Bool.and_eq_true, decide_eq_true_eq] at this
    omega
  · rw [List.getD_eq_getElem?_getD, List.getElem?_eq_none (by omega)]; simp


/-- A place in the tree: nothing, or a node. -/
def ptA : Option Nat → AV
  | none => .val (.pointer none)
  | some j => .ref (3 + j) 0
/-- What the i first keys leave below a side of node j. -/
def tNd (xs : List Int) (j : Nat) (l : Bool) (i : Nat) : Option Nat := tNxt xs (tSide (tWin xs (xs.getD j 0) j) (xs.getD j 0) l) (j + 1) i
def nodC (xs : List Int) (j i : Nat) : List AV := [.val (.int .i64 (xs.getD j 0)), ptA (tNd xs j true i), ptA (tNd xs j false i)]
/-- The heap with so many keys put into the tree. -/
def nH (ro : Bool) (xs ds : List Int) (i : Nat) : Hp := fun o => if o = 0 then some ⟨ro, .ints .i64 xs⟩ else if o = 1 then some ⟨true, .cells [ptA (tNxt xs (-99, 100) 0 i)]⟩ else if o = 2 then some ⟨true, .ints .i64 ds⟩ else if o < 3 + i then some ⟨true, .cells (nodC xs (o - 3) i)⟩ else none
theorem nH0 {ro xs ds i} : nH ro xs ds i 0 = some ⟨ro, .ints .i64 xs⟩ := rfl
theorem nH1 {ro xs ds i} : nH ro xs ds i 1 = some ⟨true, .cells [ptA (tNxt xs (-99, 100) 0 i)]⟩ := rfl
theorem nH2 {ro xs ds i} : nH ro xs ds i 2 = some ⟨true, .ints .i64 ds⟩ := rfl
theorem nHn {ro xs ds i j} (h : j < i) : nH ro xs ds i (3 + j) = some ⟨true, .cells (nodC xs j i)⟩ := by
  unfold nH; rw [if_neg (by omega), if_neg (by omega), if_neg (by omega), if_pos (by omega), show 3 + j - 3 = j by omega]
/-- Where a walk stands after the first k keys: the cell c of object o. -/
def tAt (xs : List Int) (x : Int) (i k o c : Nat) : Prop := (k = 0 ∧ o = 1 ∧ c = 0) ∨ ∃ m l, k = m + 1 ∧ m < i ∧ o = 3 + m ∧ c = (if l then 1 else 2) ∧ tLst xs x k = some (m, l) ∧ tWin xs x k = tSide (tWin xs (xs.getD m 0) m) (xs.getD m 0) l
/-- The cell there. -/
theorem tAt_cell {ro : Bool} {xs ds : List Int} {x : Int} {i k o c : Nat} (h : tAt xs x i k o c) : ∃ CS, nH ro xs ds i o = some ⟨true, .cells CS⟩ ∧ CS[c]? = some (ptA (tNxt xs (tWin xs x k) k i)) ∧ o < 3 + i ∧ o ≠ 0 ∧ o ≠ 2 ∧ (CS = [ptA (tNxt xs (-99, 100) 0 i)] ∧ o = 1 ∨ ∃ m, m < i ∧ o = 3 + m ∧ CS = nodC xs m i) := by
  rcases h with ⟨rfl, rfl, rfl⟩ | ⟨m, l, rfl, hm, rfl, rfl, h1, h2⟩
  · exact ⟨_, nH1, rfl, by omega, by omega, by omega, .inl ⟨rfl, rfl⟩⟩
  · refine ⟨_, nHn hm, ?_, by omega, by omega, by omega, .inr ⟨m, hm, rfl, rfl⟩⟩
    rw [h2]
    cases l <;> rfl
theorem tAt_step {xs : List Int} {x : Int} {i k m : Nat} (h : tNxt xs (tWin xs x k) k i = some m) : k ≤ m ∧ m < i ∧ tDep xs x (m + 1) = tDep xs x k + 1 ∧ (x < xs.getD m 0 → tAt xs x i (m + 1) (3 + m) 1) ∧ (xs.getD m 0 ≤ x → tAt xs x i (m + 1) (3 + m) 2) := by
  obtain ⟨h1, h2, h3, h4, h5⟩ := tWalk_some h
  refine ⟨h1, h2, h3, fun hx => .inr ⟨m, true, rfl, h2, rfl, rfl, ?_, ?_⟩, fun hx => .inr ⟨m, false, rfl, h2, rfl, rfl, ?_, ?_⟩⟩
  · rw [h5, decide_eq_true hx]
  · rw [h4, decide_eq_true hx]
  · rw [h5, decide_eq_false (by omega)]
  · rw [h4, decide_eq_false (by omega)]
theorem nodC_keep {xs : List Int} {j i : Nat} (hr : ∀ k, -99 ≤ xs.getD k 0 ∧ xs.getD k 0 ≤ 99) (hj : j < i) (h : ∀ l, tLst xs (xs.getD i 0) i ≠ some (j, l)) : nodC xs j (i + 1) = nodC xs j i := by
  unfold nodC tNd
  rw [tNxt_keep hj hr (h true), tNxt_keep hj hr (h false)]
/-- The heap after another key: the walk from the root ended at the cell c of object o. -/
theorem nH_put {ro : Bool} {xs ds : List Int} {i k o c : Nat} {CS : List AV} {G : Hp} {v : Int} (hr : ∀ k, -99 ≤ xs.getD k 0 ∧ xs.getD k 0 ≤ 99) (hki : k ≤ i) (hat : tAt xs (xs.getD i 0) i k o c) (hno : tNxt xs (tWin xs (xs.getD i 0) k) k i = none)
    (hCS : nH ro xs ds i o = some ⟨true, .cells CS⟩)
    (g0 : G 0 = some ⟨ro, .ints .i64 xs⟩) (g2 : G 2 = some ⟨true, .ints .i64 (ds.set i v)⟩) (go : G o = some ⟨true, .cells (CS.set c (.ref (3 + i) 0))⟩) (gn : G (3 + i) = some ⟨true, .cells [.val (.int .i64 (xs.getD i 0)), .val (.pointer none), .val (.pointer none)]⟩)
    (gk : ∀ u, u < 3 + i → u ≠ 0 → u ≠ 2 → u ≠ o → G u = nH ro xs ds i u) : ∀ u ob, nH ro xs (ds.set i v) (i + 1) u = some ob → G u = some ob := fun u ob e => by
  have hwe := tWalk_none (xs := xs) (x := xs.getD i 0) hki hno
  have hin := tWin_self (xs := xs) (hr i) k
  have hput := tNxt_put hno hki hin
  have hnew : nodC xs i (i + 1) = [.val (.int .i64 (xs.getD i 0)), .val (.pointer none), .val (.pointer none)] := by
    unfold nodC tNd
    rw [tNxt_ge (Nat.le_refl _), tNxt_ge (Nat.le_refl _)]; rfl
  rcases hat with ⟨rfl, rfl, rfl⟩ | ⟨m, l, rfl, hm, rfl, rfl, h1, h2⟩
  · -- the first key of all
    have hi0 : i = 0 := by
      rcases Nat.eq_zero_or_pos i with h | h
      · exact h
      · obtain ⟨i', rfl⟩ : ∃ i', i = i' + 1 := ⟨i - 1, by omega⟩
        have := tNxt_root hr i'
        rw [show tWin xs (xs.getD (i' + 1) 0) 0 = (-99, 100) from rfl] at hno
        rw [hno] at this; cases this
    subst hi0
    rw [nH1] at hCS
    cases hCS
    unfold nH at e
    split at e
    · rename_i h; subst h; rw [g0]; exact e
    · split at e
      · rename_i h; subst h; rw [go, ← e]
        have hq : tNxt xs (-99, 100) 0 (0 + 1) = some 0 := hput
        simp only [hq, ptA, List.set_cons_zero]
      · split at e
        · rename_i h; subst h; rw [g2]; exact e
        · split at e
          · have : u = 3 + 0 := by omega
            subst this
            rw [gn, ← e, show 3 + 0 - 3 = 0 by omega, hnew]
          · cases e
  · have hlast : tLst xs (xs.getD i 0) i = some (m, l) := by rw [hwe.2, h1]
    rw [nHn hm] at hCS
    cases hCS
    unfold nH at e
    split at e
    · rename_i h; subst h; rw [g0]; exact e
    · split at e
      · rename_i h; subst h
        rw [gk 1 (by omega) (by omega) (by omega) (by omega), nH1, ← e]
        obtain ⟨i', rfl⟩ : ∃ i', i = i' + 1 := ⟨i - 1, by omega⟩
        rw [tNxt_root hr i', tNxt_root hr (i' + 1)]
      · split at e
        · rename_i h; subst h; rw [g2]; exact e
        · split at e
          · by_cases hu : u = 3 + i
            · subst hu
              rw [gn, ← e, show 3 + i - 3 = i by omega, hnew]
            · obtain ⟨j, rfl⟩ : ∃ j, u = 3 + j := ⟨u - 3, by omega⟩
              rw [show 3 + j - 3 = j by omega] at e
              by_cases hj : j = m
              · subst hj
                rw [go, ← e]
                rw [h2] at hput
                congr 3
                unfold nodC tNd
                cases l with
                | true =>
                  rw [hput, tNxt_keep (l := false) (by omega) hr (by rw [hlast]; simp)]; rfl
                | false =>
                  rw [hput, tNxt_keep (l := true) (by omega) hr (by rw [hlast]; simp)]; rfl
              · rw [gk (3 + j) (by omega) (by omega) (by omega) (by omega), nHn (by omega), ← e, nodC_keep hr (by omega) fun l' => by rw [hlast]; intro e; cases e; exact hj rfl]
          · cases e

theorem tsb {f g : Nat → AV} {t0 : Nat} {v : AV} (h : ∀ t, f t = .any ∨ f t = g t) (hv : v = g t0) : ∀ t, upd f t0 v t = .any ∨ upd f t0 v t = g t := fun t => by
  unfold upd
  split
  · rename_i e; subst e; exact .inr hv
  · exact h t
theorem tsb0 {g : Nat → AV} : ∀ t, bot t = .any ∨ bot t = g t := fun _ => .inl rfl
theorem ds_set {xs : List Int} {i n : Nat} (h : i < n) : (tdTo xs i ++ List.replicate (n - i) (0 : Int)).set i ((tDep xs (xs.getD i 0) i : Nat) : Int) = tdTo xs (i + 1) ++ List.replicate (n - (i + 1)) 0 := by
  rw [List.set_append_right _ _ (by rw [tdTo_len]; exact Nat.le_refl _), tdTo_len, Nat.sub_self, show n - i = (n - (i + 1)) + 1 by omega, List.replicate_succ, List.set_cons_zero, tdTo, List.append_assoc]
  rfl
theorem ds_len {xs : List Int} {i n : Nat} (h : i ≤ n) : (tdTo xs i ++ List.replicate (n - i) (0 : Int)).length = n := by
  rw [List.length_append, tdTo_len, List.length_replicate]; omega


theorem implTreeDepths_sat : Sat Try.prog 27 (fun ds Q => ∃ (xs : List Int), ds = [.row (.ints .i64 (xs))] ∧ (xs.length ≤ 1099511627776) ∧ Q (.row (.ints .i64 ((if validB xs then tdTo xs xs.length else []))))) := by
  refine sat_intro tabOk Try.func27 rfl 27 rfl [.tmp 2] rfl ?_
  rintro ds Q W ⟨xs, rfl, hlen, hQ⟩
  refine ⟨Nat.le_of_ble_eq_true rfl, ?_⟩
  simp only [initS, initT, mat.matL, mat, Cont.len]
  cases hv : validB xs with
  | false =>
    simp only [hv, Bool.false_eq_true, if_false] at hQ

    repeat' (first | refine awp_seq_k fun K hK => ?_ | ((with_reducible refine hK _ ?_); clear hK K) | (clear hK K; (with_reducible refine hK _ ?_); clear hK K) | (clear hK K; clear hK K; (with_reducible refine hK _ ?_); clear hK K) | (clear hK K; clear hK K; clear hK K; (with_reducible refine hK _ ?_); clear hK K) | (clear hK K; clear hK K; clear hK K; clear hK K; (with_reducible refine hK _ ?_); clear hK K) | (clear hK K; clear hK K; clear hK K; clear hK K; clear hK K; (with_reducible refine hK _ ?_); clear hK K) | ((with_reducible refine aord_plain fun K hK => ?_); simp only [go_sem, Nat.reduceAdd, Nat.reduceMul, Nat.reduceEqDiff, Nat.reduceLT, reduceIte, reduceCtorEq, hv]) | refine awp_block ?_ | ((first | with_reducible refine aord_nil ?_ | refine awp_skip ?_ | refine awp_exit ?_ | refine awp_ret ?_); try simp only [thenA_normal, thenA_exit, thenA_goto, thenA_ret, blockA_normal, blockA_same, blockA_exit, blockA_goto, blockA_ret, Nat.reduceEqDiff, if_false, if_true, reduceIte]) | (refine awp_region tabOk rfl ?_; simp only [prep, pickO, List.map_cons, List.map_nil, List.getElem?_toArray, List.getElem?_cons_succ, List.getElem?_cons_zero, Option.bind_some, Option.map_some]) | ((with_reducible apply awp_cond); (focus (simp only [St.ev, St.set, upd, Nat.reduceEqDiff, reduceIte, if_false, if_true]; exact rfl)); all_goals (intro hb; first | (cases hb; done) | ((try rw [hb]); (try simp only [decide_eq_true_eq, decide_eq_false_iff_not, beq_iff_eq, bne_iff_ne, beq_eq_false_iff_ne, bne_eq_false_iff_eq, Int.not_lt, Int.not_le, Bool.not_eq_true', Bool.not_eq_false'] at hb)))) | ((with_reducible refine And.intro ?_ ?_); (focus omega)) | ((with_reducible refine And.intro ?_ ?_); (focus (exact rfl))) | ((with_reducible refine And.intro (?_ : enters Try.prog 17) ?_); (focus exact Try.call17); (refine callX_sat implValidKeys_sat ?_); simp only [go_sem, and_assoc, List.nil_append, List.append_nil, List.cons_append, Nat.reduceEqDiff, reduceIte, reduceCtorEq, hv]) | ((with_reducible refine And.intro (?_ : enters Try.prog 72) ?_); (focus exact Try.call72); (refine callX_h (callH_inline tabOk Try.func72 rfl 36 rfl [.tmp 4] rfl (Nat.le_of_ble_eq_true rfl) fun m0 hm0 hcl hlt => ?_)); simp only [initT, St.ev, St.set, upd, Nat.reduceEqDiff, reduceIte, if_false, if_true]) | (refine aStoreAll_ints (by simp only [St.ev, St.set, upd, Nat.reduceEqDiff, reduceIte, if_false, if_true]; exact rfl) ?_ ?_ ?_ ?_; (focus (first | rfl | omega | (simp; done) | (simp; omega) | (simp [szOf, tab]; done) | (simp [szOf, tab]; omega))); (focus (first | rfl | omega | (simp; done) | (simp; omega) | (simp [szOf, tab]; done) | (simp [szOf, tab]; omega))); (focus (first | rfl | omega | (simp; done) | (simp; omega) | (simp [szOf, tab]; done) | (simp [szOf, tab]; omega))); (try simp only [go_sem, Nat.reduceAdd, Nat.reduceMul, Nat.reduceEqDiff, Nat.reduceLT, reduceIte, reduceCtorEq])) | (simp only [rBuild]; simp only [fillA, Nat.reduceLeDiff, List.getElem?_cons_zero, List.getElem?_cons_succ, List.drop_succ_cons, List.drop_nil, List.take_nil, List.cons_append, Option.isSome_some, go_sem, Nat.reduceAdd, Nat.reduceMul, Nat.reduceEqDiff, Nat.reduceLT, reduceIte, reduceCtorEq]) | (simp only [doneH]; simp only [ressK, resK, wrapR, go_sem, Nat.reduceAdd, Nat.reduceMul, Nat.reduceEqDiff, Nat.reduceLT, reduceIte, reduceCtorEq]) | (refine aStoreAll_cells (by simp only [St.ev, St.set, upd, Nat.reduceEqDiff, reduceIte, if_false, if_true]; exact rfl) ?_ ?_ ?_ ?_ ?_; (focus (first | rfl | omega | (simp; done) | (simp; omega) | (simp [szOf, tab]; done) | (simp [szOf, tab]; omega))); (focus (first | rfl | omega | (simp; done) | (simp; omega) | (simp [szOf, tab]; done) | (simp [szOf, tab]; omega))); (focus (first | rfl | omega | (simp; done) | (simp; omega) | (simp [szOf, tab]; done) | (simp [szOf, tab]; omega))); (focus (first | rfl | (simp [AV.cell, Value.oneCell']; done))); (try simp only [go_sem, Nat.reduceAdd, Nat.reduceMul, Nat.reduceEqDiff, Nat.reduceLT, reduceIte, reduceCtorEq])) | (with_reducible refine And.intro (fun hb => ?_) (fun hb => ?_)) | (exfalso; omega) | fail)
    simp only [St.set, St.ev, doneQ, doneH, ressK, resK, wrapR, AV.ids, AV.idsL, retK, retsK, upd, Nat.reduceEqDiff, reduceIte, if_false, if_true, List.nodup_nil, List.nodup_cons, List.not_mem_nil, not_false_eq_true, true_and, and_true, exists_eq_left', Option.some.injEq, rLoad, cellOf, tab, Ty.isAgg, Ty.one, Bool.false_eq_true]
    exact ⟨.ints .i64 [], rfl, rfl, rfl, hQ⟩
  | true =>
    simp only [hv, if_true] at hQ
    have h8 := valid_len hv
    have hin := tValid_in hv

    repeat' (first | refine awp_seq_k fun K hK => ?_ | ((with_reducible refine hK _ ?_); clear hK K) | (clear hK K; (with_reducible refine hK _ ?_); clear hK K) | (clear hK K; clear hK K; (with_reducible refine hK _ ?_); clear hK K) | (clear hK K; clear hK K; clear hK K; (with_reducible refine hK _ ?_); clear hK K) | (clear hK K; clear hK K; clear hK K; clear hK K; (with_reducible refine hK _ ?_); clear hK K) | (clear hK K; clear hK K; clear hK K; clear hK K; clear hK K; (with_reducible refine hK _ ?_); clear hK K) | ((with_reducible refine aord_plain fun K hK => ?_); simp only [go_sem, Nat.reduceAdd, Nat.reduceMul, Nat.reduceEqDiff, Nat.reduceLT, reduceIte, reduceCtorEq, hv]) | refine awp_block ?_ | ((first | with_reducible refine aord_nil ?_ | refine awp_skip ?_ | refine awp_exit ?_ | refine awp_ret ?_); try simp only [thenA_normal, thenA_exit, thenA_goto, thenA_ret, blockA_normal, blockA_same, blockA_exit, blockA_goto, blockA_ret, Nat.reduceEqDiff, if_false, if_true, reduceIte]) | (refine awp_region tabOk rfl ?_; simp only [prep, pickO, List.map_cons, List.map_nil, List.getElem?_toArray, List.getElem?_cons_succ, List.getElem?_cons_zero, Option.bind_some, Option.map_some]) | ((with_reducible apply awp_cond); (focus (simp only [St.ev, St.set, upd, Nat.reduceEqDiff, reduceIte, if_false, if_true]; exact rfl)); all_goals (intro hb; first | (cases hb; done) | ((try rw [hb]); (try simp only [decide_eq_true_eq, decide_eq_false_iff_not, beq_iff_eq, bne_iff_ne, beq_eq_false_iff_ne, bne_eq_false_iff_eq, Int.not_lt, Int.not_le, Bool.not_eq_true', Bool.not_eq_false'] at hb)))) | ((with_reducible refine And.intro ?_ ?_); (focus omega)) | ((with_reducible refine And.intro ?_ ?_); (focus (exact rfl))) | ((with_reducible refine And.intro (?_ : enters Try.prog 17) ?_); (focus exact Try.call17); (refine callX_sat implValidKeys_sat ?_); simp only [go_sem, and_assoc, List.nil_append, List.append_nil, List.cons_append, Nat.reduceEqDiff, reduceIte, reduceCtorEq, hv]) | ((with_reducible refine And.intro (?_ : enters Try.prog 72) ?_); (focus exact Try.call72); (refine callX_h (callH_inline tabOk Try.func72 rfl 36 rfl [.tmp 4] rfl (Nat.le_of_ble_eq_true rfl) fun m0 hm0 hcl hlt => ?_)); simp only [initT, St.ev, St.set, upd, Nat.reduceEqDiff, reduceIte, if_false, if_true]) | (refine aStoreAll_ints (by simp only [St.ev, St.set, upd, Nat.reduceEqDiff, reduceIte, if_false, if_true]; exact rfl) ?_ ?_ ?_ ?_; (focus (first | rfl | omega | (simp; done) | (simp; omega) | (simp [szOf, tab]; done) | (simp [szOf, tab]; omega))); (focus (first | rfl | omega | (simp; done) | (simp; omega) | (simp [szOf, tab]; done) | (simp [szOf, tab]; omega))); (focus (first | rfl | omega | (simp; done) | (simp; omega) | (simp [szOf, tab]; done) | (simp [szOf, tab]; omega))); (try simp only [go_sem, Nat.reduceAdd, Nat.reduceMul, Nat.reduceEqDiff, Nat.reduceLT, reduceIte, reduceCtorEq])) | (simp only [rBuild]; simp only [fillA, Nat.reduceLeDiff, List.getElem?_cons_zero, List.getElem?_cons_succ, List.drop_succ_cons, List.drop_nil, List.take_nil, List.cons_append, Option.isSome_some, go_sem, Nat.reduceAdd, Nat.reduceMul, Nat.reduceEqDiff, Nat.reduceLT, reduceIte, reduceCtorEq]) | (simp only [doneH]; simp only [ressK, resK, wrapR, go_sem, Nat.reduceAdd, Nat.reduceMul, Nat.reduceEqDiff, Nat.reduceLT, reduceIte, reduceCtorEq]) | (refine aStoreAll_cells (by simp only [St.ev, St.set, upd, Nat.reduceEqDiff, reduceIte, if_false, if_true]; exact rfl) ?_ ?_ ?_ ?_ ?_; (focus (first | rfl | omega | (simp; done) | (simp; omega) | (simp [szOf, tab]; done) | (simp [szOf, tab]; omega))); (focus (first | rfl | omega | (simp; done) | (simp; omega) | (simp [szOf, tab]; done) | (simp [szOf, tab]; omega))); (focus (first | rfl | omega | (simp; done) | (simp; omega) | (simp [szOf, tab]; done) | (simp [szOf, tab]; omega))); (focus (first | rfl | (simp [AV.cell, Value.oneCell']; done))); (try simp only [go_sem, Nat.reduceAdd, Nat.reduceMul, Nat.reduceEqDiff, Nat.reduceLT, reduceIte, reduceCtorEq])) | (with_reducible refine And.intro (fun hb => ?_) (fun hb => ?_)) | (exfalso; omega) | fail)
    refine awp_loop (fun i : Nat => ⟨upd (upd (upd (upd (upd bot 15 (.val (.int .i64 i))) 14 (.val (.int .i64 xs.length))) 13 (.sl 0 0 xs.length 1 none)) 4 (.sl 2 0 xs.length 1 none)) 3 (.ref 1 0), nH false xs (tdTo xs i ++ List.replicate (xs.length - i) 0) i, 3 + i⟩) (fun i => i ≤ xs.length) (fun i => xs.length - i) 0 (Nat.zero_le _) ?_ ?_
    · refine Wk.sub (tsb (tsb (tsb (tsb (tsb tsb0 rfl) rfl) rfl) rfl) rfl) (fun o ob e => ?_) rfl
      dsimp only at e
      unfold nH at e
      split at e
      · rename_i h; subst h; exact e
      · split at e
        · rename_i h; subst h; exact e
        · split at e
          · rename_i h; subst h; exact e
          · split at e
            · omega
            · cases e
    intro i hi
    have hxi := hin i
    have hdl := ds_len (xs := xs) (i := i) (n := xs.length) hi
    have hdn := fun h => @ds_set xs i xs.length h
    generalize hds : tdTo xs i ++ List.replicate (xs.length - i) (0 : Int) = ds at *
    have H0 := @nH0 false xs ds i
    have H2 := @nH2 false xs ds i
    have HN := fun j => @nHn false xs ds i j
    have hcell := fun x k o c => @tAt_cell false xs ds x i k o c
    have hput := fun k o c CS G v => @nH_put false xs ds i k o c CS G v hin
    generalize hHe : nH false xs ds i = H at *
    generalize hne : 3 + i = n at *
    have n0 : (0 = n) = False := eq_false (by omega)
    have n2 : (2 = n) = False := eq_false (by omega)


    repeat' ((fail_if_success (with_reducible refine isRetQ ?_)); (first | refine awp_seq_k fun K hK => ?_ | ((with_reducible refine hK _ ?_); clear hK K) | (clear hK K; (with_reducible refine hK _ ?_); clear hK K) | (clear hK K; clear hK K; (with_reducible refine hK _ ?_); clear hK K) | (clear hK K; clear hK K; clear hK K; (with_reducible refine hK _ ?_); clear hK K) | (clear hK K; clear hK K; clear hK K; clear hK K; (with_reducible refine hK _ ?_); clear hK K) | (clear hK K; clear hK K; clear hK K; clear hK K; clear hK K; (with_reducible refine hK _ ?_); clear hK K) | ((with_reducible refine aord_plain fun K hK => ?_); simp only [go_sem, Nat.reduceAdd, Nat.reduceMul, Nat.reduceEqDiff, Nat.reduceLT, reduceIte, reduceCtorEq, n0, n2, Nat.add_eq_left, Nat.left_eq_add, Nat.add_assoc, Nat.reduceAdd, if_false, if_true, H0, H2, hv, hdl]) | refine awp_block ?_ | ((first | with_reducible refine aord_nil ?_ | refine awp_skip ?_ | refine awp_exit ?_ | refine awp_ret ?_); try simp only [thenA_normal, thenA_exit, thenA_goto, thenA_ret, blockA_normal, blockA_same, blockA_exit, blockA_goto, blockA_ret, Nat.reduceEqDiff, if_false, if_true, reduceIte]) | (refine awp_region tabOk rfl ?_; simp only [prep, pickO, List.map_cons, List.map_nil, List.getElem?_toArray, List.getElem?_cons_succ, List.getElem?_cons_zero, Option.bind_some, Option.map_some]) | ((with_reducible apply awp_cond); (focus (simp only [St.ev, St.set, upd, Nat.reduceEqDiff, reduceIte, if_false, if_true, n0, n2, Nat.add_eq_left, Nat.left_eq_add, Nat.add_assoc, Nat.reduceAdd, if_false, if_true]; exact rfl)); all_goals (intro hb; first | (cases hb; done) | ((try rw [hb]); (try simp only [decide_eq_true_eq, decide_eq_false_iff_not, beq_iff_eq, bne_iff_ne, beq_eq_false_iff_ne, bne_eq_false_iff_eq, Int.not_lt, Int.not_le, Bool.not_eq_true', Bool.not_eq_false'] at hb)))) | ((with_reducible refine And.intro ?_ ?_); (focus omega)) | ((with_reducible refine And.intro ?_ ?_); (focus (exact rfl))) | ((with_reducible refine And.intro (?_ : enters Try.prog 17) ?_); (focus exact Try.call17); (refine callX_sat implValidKeys_sat ?_); simp only [go_sem, and_assoc, List.nil_append, List.append_nil, List.cons_append, Nat.reduceEqDiff, reduceIte, reduceCtorEq, n0, n2, Nat.add_eq_left, Nat.left_eq_add, Nat.add_assoc, Nat.reduceAdd, if_false, if_true, H0, H2, hv, hdl]) | ((with_reducible refine And.intro (?_ : enters Try.prog 72) ?_); (focus exact Try.call72); (refine callX_h (callH_inline tabOk Try.func72 rfl 36 rfl [.tmp 4] rfl (Nat.le_of_ble_eq_true rfl) fun m0 hm0 hcl hlt => ?_)); simp only [initT, St.ev, St.set, upd, Nat.reduceEqDiff, reduceIte, if_false, if_true, n0, n2, Nat.add_eq_left, Nat.left_eq_add, Nat.add_assoc, Nat.reduceAdd, if_false, if_true]) | (refine aStoreAll_ints (by simp only [St.ev, St.set, upd, Nat.reduceEqDiff, reduceIte, if_false, if_true, n0, n2, Nat.add_eq_left, Nat.left_eq_add, Nat.add_assoc, Nat.reduceAdd, if_false, if_true]; exact rfl) ?_ ?_ ?_ ?_; (focus (first | rfl | omega | (simp; done) | (simp; omega) | (simp [szOf, tab]; done) | (simp [szOf, tab]; omega))); (focus (first | rfl | omega | (simp; done) | (simp; omega) | (simp [szOf, tab]; done) | (simp [szOf, tab]; omega))); (focus (first | rfl | omega | (simp; done) | (simp; omega) | (simp [szOf, tab]; done) | (simp [szOf, tab]; omega))); (try simp only [go_sem, Nat.reduceAdd, Nat.reduceMul, Nat.reduceEqDiff, Nat.reduceLT, reduceIte, reduceCtorEq, n0, n2, Nat.add_eq_left, Nat.left_eq_add, Nat.add_assoc, Nat.reduceAdd, if_false, if_true])) | (simp only [rBuild]; simp only [fillA, Nat.reduceLeDiff, List.getElem?_cons_zero, List.getElem?_cons_succ, List.drop_succ_cons, List.drop_nil, List.take_nil, List.cons_append, Option.isSome_some, go_sem, Nat.reduceAdd, Nat.reduceMul, Nat.reduceEqDiff, Nat.reduceLT, reduceIte, reduceCtorEq, n0, n2, Nat.add_eq_left, Nat.left_eq_add, Nat.add_assoc, Nat.reduceAdd, if_false, if_true]) | (simp only [doneH]; simp only [ressK, resK, wrapR, go_sem, Nat.reduceAdd, Nat.reduceMul, Nat.reduceEqDiff, Nat.reduceLT, reduceIte, reduceCtorEq, n0, n2, Nat.add_eq_left, Nat.left_eq_add, Nat.add_assoc, Nat.reduceAdd, if_false, if_true]) | (refine aStoreAll_cells (by simp only [St.ev, St.set, upd, Nat.reduceEqDiff, reduceIte, if_false, if_true, n0, n2, Nat.add_eq_left, Nat.left_eq_add, Nat.add_assoc, Nat.reduceAdd, if_false, if_true]; exact rfl) ?_ ?_ ?_ ?_ ?_; (focus (first | rfl | omega | (simp; done) | (simp; omega) | (simp [szOf, tab]; done) | (simp [szOf, tab]; omega))); (focus (first | rfl | omega | (simp; done) | (simp; omega) | (simp [szOf, tab]; done) | (simp [szOf, tab]; omega))); (focus (first | rfl | omega | (simp; done) | (simp; omega) | (simp [szOf, tab]; done) | (simp [szOf, tab]; omega))); (focus (first | rfl | (simp [AV.cell, Value.oneCell']; done))); (try simp only [go_sem, Nat.reduceAdd, Nat.reduceMul, Nat.reduceEqDiff, Nat.reduceLT, reduceIte, reduceCtorEq, n0, n2, Nat.add_eq_left, Nat.left_eq_add, Nat.add_assoc, Nat.reduceAdd, if_false, if_true])) | (with_reducible refine And.intro (fun hb => ?_) (fun hb => ?_)) | (exfalso; omega) | fail))
    · skip
      have hkeep : ∀ o, o < n → o = n → False := fun o a b => by omega
      refine awp_loop (fun p : Nat × Nat × Nat => ⟨upd (upd (upd bot 5 (.val (.int .i64 ((tDep xs (xs.getD i 0) p.1 : Nat) : Int)))) 1 (.val (.int .i64 (xs.getD i 0)))) 0 (.ref p.2.1 p.2.2), H, n⟩) (fun p => p.1 ≤ i ∧ tAt xs (xs.getD i 0) i p.1 p.2.1 p.2.2) (fun p => i - p.1) (0, 1, 0) ⟨Nat.zero_le _, .inl ⟨rfl, rfl, rfl⟩⟩ ?_ ?_
      · exact Wk.sub (tsb (tsb (tsb tsb0 rfl) rfl) rfl) (fun _ _ h => h) rfl
      rintro ⟨k, o, c⟩ ⟨hk, hat⟩
      dsimp only at hk hat ⊢
      have hstep := @tAt_step xs (xs.getD i 0) i k
      have hend := @tWalk_none xs (xs.getD i 0) k i hk
      obtain ⟨CS, hCS, hcc, ho1, ho2, ho3, hCk⟩ := hcell _ _ _ _ hat
      have hdl2 := tDep_le (xs := xs) (x := xs.getD i 0) k
      cases hT : tNxt xs (tWin xs (xs.getD i 0) k) k i with
      | none =>
        rw [hT] at hcc
        simp only [ptA] at hcc
        have hend := (hend hT).1
        have on := eq_false (Nat.ne_of_lt ho1)
        have o2 := eq_false ho3
        have o2' : (2 = o) = False := eq_false (Ne.symm ho3)
        have o0' : (0 = o) = False := eq_false (Ne.symm ho2)

        have hcl2 : c < CS.length := (List.getElem?_eq_some_iff.1 hcc).1

        repeat' (first | refine awp_seq_k fun K hK => ?_ | ((with_reducible refine hK _ ?_); clear hK K) | (clear hK K; (with_reducible refine hK _ ?_); clear hK K) | (clear hK K; clear hK K; (with_reducible refine hK _ ?_); clear hK K) | (clear hK K; clear hK K; clear hK K; (with_reducible refine hK _ ?_); clear hK K) | (clear hK K; clear hK K; clear hK K; clear hK K; (with_reducible refine hK _ ?_); clear hK K) | (clear hK K; clear hK K; clear hK K; clear hK K; clear hK K; (with_reducible refine hK _ ?_); clear hK K) | ((with_reducible refine aord_plain fun K hK => ?_); simp only [go_sem, Nat.reduceAdd, Nat.reduceMul, Nat.reduceEqDiff, Nat.reduceLT, reduceIte, reduceCtorEq, n0, n2, on, o2, o2', o0', hCS, Nat.add_eq_left, Nat.left_eq_add, Nat.add_assoc, Nat.reduceAdd, if_false, if_true, H0, H2, hv, hdl, Ty.ptr.injEq, exists_eq', hCS, hcc]) | refine awp_block ?_ | ((first | with_reducible refine aord_nil ?_ | refine awp_skip ?_ | refine awp_exit ?_ | refine awp_ret ?_); try simp only [thenA_normal, thenA_exit, thenA_goto, thenA_ret, blockA_normal, blockA_same, blockA_exit, blockA_goto, blockA_ret, Nat.reduceEqDiff, if_false, if_true, reduceIte]) | (refine awp_region tabOk rfl ?_; simp only [prep, pickO, List.map_cons, List.map_nil, List.getElem?_toArray, List.getElem?_cons_succ, List.getElem?_cons_zero, Option.bind_some, Option.map_some]) | ((with_reducible apply awp_cond); (focus (simp only [St.ev, St.set, upd, Nat.reduceEqDiff, reduceIte, if_false, if_true, n0, n2, on, o2, o2', o0', hCS, Nat.add_eq_left, Nat.left_eq_add, Nat.add_assoc, Nat.reduceAdd, if_false, if_true]; exact rfl)); all_goals (intro hb; first | (cases hb; done) | ((try rw [hb]); (try simp only [decide_eq_true_eq, decide_eq_false_iff_not, beq_iff_eq, bne_iff_ne, beq_eq_false_iff_ne, bne_eq_false_iff_eq, Int.not_lt, Int.not_le, Bool.not_eq_true', Bool.not_eq_false'] at hb)))) | ((with_reducible refine And.intro ?_ ?_); (focus omega)) | ((with_reducible refine And.intro ?_ ?_); (focus (exact rfl))) | ((with_reducible refine And.intro (?_ : enters Try.prog 17) ?_); (focus exact Try.call17); (refine callX_sat implValidKeys_sat ?_); simp only [go_sem, and_assoc, List.nil_append, List.append_nil, List.cons_append, Nat.reduceEqDiff, reduceIte, reduceCtorEq, n0, n2, on, o2, o2', o0', hCS, Nat.add_eq_left, Nat.left_eq_add, Nat.add_assoc, Nat.reduceAdd, if_false, if_true, H0, H2, hv, hdl, Ty.ptr.injEq, exists_eq', hCS, hcc]) | ((with_reducible refine And.intro (?_ : enters Try.prog 72) ?_); (focus exact Try.call72); (refine callX_h (callH_inline tabOk Try.func72 rfl 36 rfl [.tmp 4] rfl (Nat.le_of_ble_eq_true rfl) fun m0 hm0 hcl hlt => ?_)); simp only [initT, St.ev, St.set, upd, Nat.reduceEqDiff, reduceIte, if_false, if_true, n0, n2, on, o2, o2', o0', hCS, Nat.add_eq_left, Nat.left_eq_add, Nat.add_assoc, Nat.reduceAdd, if_false, if_true]) | (refine aStoreAll_ints (by simp only [St.ev, St.set, upd, Nat.reduceEqDiff, reduceIte, if_false, if_true, n0, n2, on, o2, o2', o0', hCS, Nat.add_eq_left, Nat.left_eq_add, Nat.add_assoc, Nat.reduceAdd, if_false, if_true]; exact rfl) ?_ ?_ ?_ ?_; (focus (first | rfl | omega | (simp; done) | (simp; omega) | (simp [szOf, tab]; done) | (simp [szOf, tab]; omega))); (focus (first | rfl | omega | (simp; done) | (simp; omega) | (simp [szOf, tab]; done) | (simp [szOf, tab]; omega))); (focus (first | rfl | omega | (simp; done) | (simp; omega) | (simp [szOf, tab]; done) | (simp [szOf, tab]; omega))); (try simp only [go_sem, Nat.reduceAdd, Nat.reduceMul, Nat.reduceEqDiff, Nat.reduceLT, reduceIte, reduceCtorEq, n0, n2, on, o2, o2', o0', hCS, Nat.add_eq_left, Nat.left_eq_add, Nat.add_assoc, Nat.reduceAdd, if_false, if_true])) | (simp only [rBuild]; simp only [fillA, Nat.reduceLeDiff, List.getElem?_cons_zero, List.getElem?_cons_succ, List.drop_succ_cons, List.drop_nil, List.take_nil, List.cons_append, Option.isSome_some, go_sem, Nat.reduceAdd, Nat.reduceMul, Nat.reduceEqDiff, Nat.reduceLT, reduceIte, reduceCtorEq, n0, n2, on, o2, o2', o0', hCS, Nat.add_eq_left, Nat.left_eq_add, Nat.add_assoc, Nat.reduceAdd, if_false, if_true]) | (simp only [doneH]; simp only [ressK, resK, wrapR, go_sem, Nat.reduceAdd, Nat.reduceMul, Nat.reduceEqDiff, Nat.reduceLT, reduceIte, reduceCtorEq, n0, n2, on, o2, o2', o0', hCS, Nat.add_eq_left, Nat.left_eq_add, Nat.add_assoc, Nat.reduceAdd, if_false, if_true]) | (refine aStoreAll_cells (by simp only [St.ev, St.set, upd, Nat.reduceEqDiff, reduceIte, if_false, if_true, n0, n2, on, o2, o2', o0', hCS, Nat.add_eq_left, Nat.left_eq_add, Nat.add_assoc, Nat.reduceAdd, if_false, if_true]; exact rfl) ?_ ?_ ?_ ?_ ?_; (focus (first | rfl | omega | (simp; done) | (simp; omega) | (simp [szOf, tab]; done) | (simp [szOf, tab]; omega))); (focus (first | rfl | omega | (simp; done) | (simp; omega) | (simp [szOf, tab]; done) | (simp [szOf, tab]; omega))); (focus (first | rfl | omega | (simp; done) | (simp; omega) | (simp [szOf, tab]; done) | (simp [szOf, tab]; omega))); (focus (first | rfl | (simp [AV.cell, Value.oneCell']; done))); (try simp only [go_sem, Nat.reduceAdd, Nat.reduceMul, Nat.reduceEqDiff, Nat.reduceLT, reduceIte, reduceCtorEq, n0, n2, on, o2, o2', o0', hCS, Nat.add_eq_left, Nat.left_eq_add, Nat.add_assoc, Nat.reduceAdd, if_false, if_true])) | (with_reducible refine And.intro (fun hb => ?_) (fun hb => ?_)) | (exfalso; omega) | fail)
        refine ⟨i + 1, by omega, by omega, ?_⟩
        rw [← hdn (by omega), show 3 + (i + 1) = n + 1 by omega]
        refine Wk.sub (tsb (tsb (tsb (tsb (tsb tsb0 rfl) rfl) rfl) rfl) rfl) (hput k o c CS _ _ hk hat hT hCS ?_ ?_ ?_ ?_ ?_) rfl
        · (try dsimp only); (repeat (first | rw [upd_same] | rw [upd_ne _ _ (by omega)])); exact H0
        · rw [hend]; (try dsimp only); (repeat (first | rw [upd_same] | rw [upd_ne _ _ (by omega)]))
        · (try dsimp only); (repeat (first | rw [upd_same] | rw [upd_ne _ _ (by omega)]))
        · (try dsimp only); (repeat (first | rw [upd_same] | rw [upd_ne _ _ (by omega)]))
        · intro u h1 h2 h3 h4
          (try dsimp only); (repeat (first | rw [upd_same] | rw [upd_ne _ _ (by omega)]))
      | some m =>
        rw [hT] at hcc
        simp only [ptA] at hcc
        obtain ⟨s1, s2, s3, s4, s5⟩ := hstep hT
        have hM := HN m s2
        unfold nodC at hM


        repeat' (first | refine awp_seq_k fun K hK => ?_ | ((with_reducible refine hK _ ?_); clear hK K) | (clear hK K; (with_reducible refine hK _ ?_); clear hK K) | (clear hK K; clear hK K; (with_reducible refine hK _ ?_); clear hK K) | (clear hK K; clear hK K; clear hK K; (with_reducible refine hK _ ?_); clear hK K) | (clear hK K; clear hK K; clear hK K; clear hK K; (with_reducible refine hK _ ?_); clear hK K) | (clear hK K; clear hK K; clear hK K; clear hK K; clear hK K; (with_reducible refine hK _ ?_); clear hK K) | ((with_reducible refine aord_plain fun K hK => ?_); simp only [go_sem, Nat.reduceAdd, Nat.reduceMul, Nat.reduceEqDiff, Nat.reduceLT, reduceIte, reduceCtorEq, n0, n2, hCS, hM, Nat.add_eq_left, Nat.left_eq_add, Nat.add_assoc, Nat.reduceAdd, if_false, if_true, H0, H2, hv, hdl, Ty.ptr.injEq, exists_eq', hCS, hcc, hM]) | refine awp_block ?_ | ((first | with_reducible refine aord_nil ?_ | refine awp_skip ?_ | refine awp_exit ?_ | refine awp_ret ?_); try simp only [thenA_normal, thenA_exit, thenA_goto, thenA_ret, blockA_normal, blockA_same, blockA_exit, blockA_goto, blockA_ret, Nat.reduceEqDiff, if_false, if_true, reduceIte]) | (refine awp_region tabOk rfl ?_; simp only [prep, pickO, List.map_cons, List.map_nil, List.getElem?_toArray, List.getElem?_cons_succ, List.getElem?_cons_zero, Option.bind_some, Option.map_some]) | ((with_reducible apply awp_cond); (focus (simp only [St.ev, St.set, upd, Nat.reduceEqDiff, reduceIte, if_false, if_true, n0, n2, hCS, hM, Nat.add_eq_left, Nat.left_eq_add, Nat.add_assoc, Nat.reduceAdd, if_false, if_true]; exact rfl)); all_goals (intro hb; first | (cases hb; done) | ((try rw [hb]); (try simp only [decide_eq_true_eq, decide_eq_false_iff_not, beq_iff_eq, bne_iff_ne, beq_eq_false_iff_ne, bne_eq_false_iff_eq, Int.not_lt, Int.not_le, Bool.not_eq_true', Bool.not_eq_false'] at hb)))) | ((with_reducible refine And.intro ?_ ?_); (focus omega)) | ((with_reducible refine And.intro ?_ ?_); (focus (exact rfl))) | ((with_reducible refine And.intro (?_ : enters Try.prog 17) ?_); (focus exact Try.call17); (refine callX_sat implValidKeys_sat ?_); simp only [go_sem, and_assoc, List.nil_append, List.append_nil, List.cons_append, Nat.reduceEqDiff, reduceIte, reduceCtorEq, n0, n2, hCS, hM, Nat.add_eq_left, Nat.left_eq_add, Nat.add_assoc, Nat.reduceAdd, if_false, if_true, H0, H2, hv, hdl, Ty.ptr.injEq, exists_eq', hCS, hcc, hM]) | ((with_reducible refine And.intro (?_ : enters Try.prog 72) ?_); (focus exact Try.call72); (refine callX_h (callH_inline tabOk Try.func72 rfl 36 rfl [.tmp 4] rfl (Nat.le_of_ble_eq_true rfl) fun m0 hm0 hcl hlt => ?_)); simp only [initT, St.ev, St.set, upd, Nat.reduceEqDiff, reduceIte, if_false, if_true, n0, n2, hCS, hM, Nat.add_eq_left, Nat.left_eq_add, Nat.add_assoc, Nat.reduceAdd, if_false, if_true]) | (refine aStoreAll_ints (by simp only [St.ev, St.set, upd, Nat.reduceEqDiff, reduceIte, if_false, if_true, n0, n2, hCS, hM, Nat.add_eq_left, Nat.left_eq_add, Nat.add_assoc, Nat.reduceAdd, if_false, if_true]; exact rfl) ?_ ?_ ?_ ?_; (focus (first | rfl | omega | (simp; done) | (simp; omega) | (simp [szOf, tab]; done) | (simp [szOf, tab]; omega))); (focus (first | rfl | omega | (simp; done) | (simp; omega) | (simp [szOf, tab]; done) | (simp [szOf, tab]; omega))); (focus (first | rfl | omega | (simp; done) | (simp; omega) | (simp [szOf, tab]; done) | (simp [szOf, tab]; omega))); (try simp only [go_sem, Nat.reduceAdd, Nat.reduceMul, Nat.reduceEqDiff, Nat.reduceLT, reduceIte, reduceCtorEq, n0, n2, hCS, hM, Nat.add_eq_left, Nat.left_eq_add, Nat.add_assoc, Nat.reduceAdd, if_false, if_true])) | (simp only [rBuild]; simp only [fillA, Nat.reduceLeDiff, List.getElem?_cons_zero, List.getElem?_cons_succ, List.drop_succ_cons, List.drop_nil, List.take_nil, List.cons_append, Option.isSome_some, go_sem, Nat.reduceAdd, Nat.reduceMul, Nat.reduceEqDiff, Nat.reduceLT, reduceIte, reduceCtorEq, n0, n2, hCS, hM, Nat.add_eq_left, Nat.left_eq_add, Nat.add_assoc, Nat.reduceAdd, if_false, if_true]) | (simp only [doneH]; simp only [ressK, resK, wrapR, go_sem, Nat.reduceAdd, Nat.reduceMul, Nat.reduceEqDiff, Nat.reduceLT, reduceIte, reduceCtorEq, n0, n2, hCS, hM, Nat.add_eq_left, Nat.left_eq_add, Nat.add_assoc, Nat.reduceAdd, if_false, if_true]) | (refine aStoreAll_cells (by simp only [St.ev, St.set, upd, Nat.reduceEqDiff, reduceIte, if_false, if_true, n0, n2, hCS, hM, Nat.add_eq_left, Nat.left_eq_add, Nat.add_assoc, Nat.reduceAdd, if_false, if_true]; exact rfl) ?_ ?_ ?_ ?_ ?_; (focus (first | rfl | omega | (simp; done) | (simp; omega) | (simp [szOf, tab]; done) | (simp [szOf, tab]; omega))); (focus (first | rfl | omega | (simp; done) | (simp; omega) | (simp [szOf, tab]; done) | (simp [szOf, tab]; omega))); (focus (first | rfl | omega | (simp; done) | (simp; omega) | (simp [szOf, tab]; done) | (simp [szOf, tab]; omega))); (focus (first | rfl | (simp [AV.cell, Value.oneCell']; done))); (try simp only [go_sem, Nat.reduceAdd, Nat.reduceMul, Nat.reduceEqDiff, Nat.reduceLT, reduceIte, reduceCtorEq, n0, n2, hCS, hM, Nat.add_eq_left, Nat.left_eq_add, Nat.add_assoc, Nat.reduceAdd, if_false, if_true])) | (with_reducible refine And.intro (fun hb => ?_) (fun hb => ?_)) | (exfalso; omega) | fail)
        · refine ⟨(m + 1, 3 + m, 1), ⟨by dsimp only; omega, s4 (by omega)⟩, by dsimp only; omega, ?_⟩
          exact Wk.sub (tsb (tsb (tsb tsb0 (by show AV.val (.int .i64 ((tDep xs (xs.getD i 0) (m + 1) : Nat) : Int)) = .val (.int .i64 (((tDep xs (xs.getD i 0) k : Nat) : Int) + 1)); rw [s3]; rfl)) rfl) rfl) (fun _ _ h => h) rfl
        · refine ⟨(m + 1, 3 + m, 2), ⟨by dsimp only; omega, s5 (by omega)⟩, by dsimp only; omega, ?_⟩
          exact Wk.sub (tsb (tsb (tsb tsb0 (by show AV.val (.int .i64 ((tDep xs (xs.getD i 0) (m + 1) : Nat) : Int)) = .val (.int .i64 (((tDep xs (xs.getD i 0) k : Nat) : Int) + 1)); rw [s3]; rfl)) rfl) rfl) (fun _ _ h => h) rfl
    · skip
      have hie : i = xs.length := by omega
      subst hie
      rw [Nat.sub_self, List.replicate_zero, List.append_nil] at hds
      refine awp_weaken (s' := ⟨upd bot 2 (.sl 2 0 xs.length 1 none), upd none' 2 (some ⟨true, .ints .i64 (tdTo xs xs.length)⟩), n⟩) (Wk.sub (tsb tsb0 rfl) (fun o ob e => ?_) rfl) ?_
      · dsimp only at e ⊢
        by_cases e2 : o = 2
        · subst e2; rw [upd_same] at e; rw [H2, ← e, hds]
        · rw [upd_ne _ _ e2] at e; cases e
      · skip


        repeat' (first | refine awp_seq_k fun K hK => ?_ | ((with_reducible refine hK _ ?_); clear hK K) | (clear hK K; (with_reducible refine hK _ ?_); clear hK K) | (clear hK K; clear hK K; (with_reducible refine hK _ ?_); clear hK K) | (clear hK K; clear hK K; clear hK K; (with_reducible refine hK _ ?_); clear hK K) | (clear hK K; clear hK K; clear hK K; clear hK K; (with_reducible refine hK _ ?_); clear hK K) | (clear hK K; clear hK K; clear hK K; clear hK K; clear hK K; (with_reducible refine hK _ ?_); clear hK K) | ((with_reducible refine aord_plain fun K hK => ?_); simp only [go_sem, Nat.reduceAdd, Nat.reduceMul, Nat.reduceEqDiff, Nat.reduceLT, reduceIte, reduceCtorEq, hv]) | refine awp_block ?_ | ((first | with_reducible refine aord_nil ?_ | refine awp_skip ?_ | refine awp_exit ?_ | refine awp_ret ?_); try simp only [thenA_normal, thenA_exit, thenA_goto, thenA_ret, blockA_normal, blockA_same, blockA_exit, blockA_goto, blockA_ret, Nat.reduceEqDiff, if_false, if_true, reduceIte]) | (refine awp_region tabOk rfl ?_; simp only [prep, pickO, List.map_cons, List.map_nil, List.getElem?_toArray, List.getElem?_cons_succ, List.getElem?_cons_zero, Option.bind_some, Option.map_some]) | ((with_reducible apply awp_cond); (focus (simp only [St.ev, St.set, upd, Nat.reduceEqDiff, reduceIte, if_false, if_true]; exact rfl)); all_goals (intro hb; first | (cases hb; done) | ((try rw [hb]); (try simp only [decide_eq_true_eq, decide_eq_false_iff_not, beq_iff_eq, bne_iff_ne, beq_eq_false_iff_ne, bne_eq_false_iff_eq, Int.not_lt, Int.not_le, Bool.not_eq_true', Bool.not_eq_false'] at hb)))) | ((with_reducible refine And.intro ?_ ?_); (focus omega)) | ((with_reducible refine And.intro ?_ ?_); (focus (exact rfl))) | ((with_reducible refine And.intro (?_ : enters Try.prog 17) ?_); (focus exact Try.call17); (refine callX_sat implValidKeys_sat ?_); simp only [go_sem, and_assoc, List.nil_append, List.append_nil, List.cons_append, Nat.reduceEqDiff, reduceIte, reduceCtorEq, hv]) | ((with_reducible refine And.intro (?_ : enters Try.prog 72) ?_); (focus exact Try.call72); (refine callX_h (callH_inline tabOk Try.func72 rfl 36 rfl [.tmp 4] rfl (Nat.le_of_ble_eq_true rfl) fun m0 hm0 hcl hlt => ?_)); simp only [initT, St.ev, St.set, upd, Nat.reduceEqDiff, reduceIte, if_false, if_true]) | (refine aStoreAll_ints (by simp only [St.ev, St.set, upd, Nat.reduceEqDiff, reduceIte, if_false, if_true]; exact rfl) ?_ ?_ ?_ ?_; (focus (first | rfl | omega | (simp; done) | (simp; omega) | (simp [szOf, tab]; done) | (simp [szOf, tab]; omega))); (focus (first | rfl | omega | (simp; done) | (simp; omega) | (simp [szOf, tab]; done) | (simp [szOf, tab]; omega))); (focus (first | rfl | omega | (simp; done) | (simp; omega) | (simp [szOf, tab]; done) | (simp [szOf, tab]; omega))); (try simp only [go_sem, Nat.reduceAdd, Nat.reduceMul, Nat.reduceEqDiff, Nat.reduceLT, reduceIte, reduceCtorEq])) | (simp only [rBuild]; simp only [fillA, Nat.reduceLeDiff, List.getElem?_cons_zero, List.getElem?_cons_succ, List.drop_succ_cons, List.drop_nil, List.take_nil, List.cons_append, Option.isSome_some, go_sem, Nat.reduceAdd, Nat.reduceMul, Nat.reduceEqDiff, Nat.reduceLT, reduceIte, reduceCtorEq]) | (simp only [doneH]; simp only [ressK, resK, wrapR, go_sem, Nat.reduceAdd, Nat.reduceMul, Nat.reduceEqDiff, Nat.reduceLT, reduceIte, reduceCtorEq]) | (refine aStoreAll_cells (by simp only [St.ev, St.set, upd, Nat.reduceEqDiff, reduceIte, if_false, if_true]; exact rfl) ?_ ?_ ?_ ?_ ?_; (focus (first | rfl | omega | (simp; done) | (simp; omega) | (simp [szOf, tab]; done) | (simp [szOf, tab]; omega))); (focus (first | rfl | omega | (simp; done) | (simp; omega) | (simp [szOf, tab]; done) | (simp [szOf, tab]; omega))); (focus (first | rfl | omega | (simp; done) | (simp; omega) | (simp [szOf, tab]; done) | (simp [szOf, tab]; omega))); (focus (first | rfl | (simp [AV.cell, Value.oneCell']; done))); (try simp only [go_sem, Nat.reduceAdd, Nat.reduceMul, Nat.reduceEqDiff, Nat.reduceLT, reduceIte, reduceCtorEq])) | (with_reducible refine And.intro (fun hb => ?_) (fun hb => ?_)) | (exfalso; omega) | fail)
        simp only [St.set, St.ev, doneQ, doneH, ressK, resK, wrapR, AV.ids, AV.idsL, retK, retsK, upd, Nat.reduceEqDiff, reduceIte, if_false, if_true, List.nodup_nil, List.nodup_cons, List.not_mem_nil, not_false_eq_true, true_and, and_true, exists_eq_left', Option.some.injEq, rLoad, cellOf, tab, Ty.isAgg, Ty.one, Bool.false_eq_true]
        have htl := tdTo_len xs xs.length
        first | exact hQ | exact ⟨rfl, by simp only [Cont.len]; omega, hQ⟩ | (simp only [Cont.closed, Cont.len, true_and]; exact hQ) | trace_state

/-! Depths in a tree: each is one more than that of the last key that is met. -/
theorem tDep_same {xs : List Int} {x y : Int} : ∀ {k : Nat}, tIn (tWin xs x k) y → tDep xs y k = tDep xs x k
  | 0, _ => rfl
  | k + 1, h => by
    have h1 := tWin_sub h
    rw [tDep, tDep, tDep_same h1, tWin_same h1]
theorem tDep_last {xs : List Int} {x : Int} : ∀ k, (tDep xs x k = 0 ∧ tLst xs x k = none) ∨ ∃ m l, m < k ∧ tLst xs x k = some (m, l) ∧ tDep xs x k = tDep xs (xs.getD m 0) m + 1
  | 0 => .inl ⟨rfl, rfl⟩
  | k + 1 => by
    by_cases hc : tIn (tWin xs x k) (xs.getD k 0)
    · refine .inr ⟨k, decide (x < xs.getD k 0), Nat.lt_succ_self _, ?_, ?_⟩
      · rw [tLst, if_pos hc]
      · rw [tDep, if_pos hc, tDep_same hc]
    · rcases tDep_last (xs := xs) (x := x) k with ⟨h1, h2⟩ | ⟨m, l, h1, h2, h3⟩
      · refine .inl ⟨?_, ?_⟩
        · rw [tDep, if_neg hc, h1]
        · rw [tLst, if_neg hc, h2]
      · refine .inr ⟨m, l, by omega, ?_, ?_⟩
        · rw [tLst, if_neg hc, h2]
        · rw [tDep, if_neg hc, h3]
theorem tDep_mono {xs : List Int} {x : Int} {k : Nat} : ∀ d, tDep xs x k ≤ tDep xs x (k + d)
  | 0 => Nat.le_refl _
  | d + 1 => by have := tDep_mono (xs := xs) (x := x) (k := k) d; rw [← Nat.add_assoc, tDep]; omega
theorem tDep_pos {xs : List Int} {x : Int} {k : Nat} (h : -99 ≤ xs.getD 0 0 ∧ xs.getD 0 0 ≤ 99) (hk : 0 < k) : 1 ≤ tDep xs x k := by
  have h1 : tDep xs x 1 = 1 := by
    rw [tDep, tDep, if_pos (by unfold tIn tWin; simp only; omega)]
  have := tDep_mono (xs := xs) (x := x) (k := 1) (k - 1)
  rw [show 1 + (k - 1) = k by omega] at this
  omega
theorem tdTo_at {xs : List Int} {j : Nat} : ∀ {i : Nat}, j < i → (tdTo xs i).getD j 0 = ((tDep xs (xs.getD j 0) j : Nat) : Int)
  | 0, h => by omega
  | i + 1, h => by
    rw [tdTo]
    by_cases e : j = i
    · subst e
      have : (tdTo xs j).length = j := tdTo_len xs j
      rw [List.getD_eq_getElem?_getD, List.getElem?_append_right (by omega), this, Nat.sub_self]; rfl
    · rw [← tdTo_at (xs := xs) (i := i) (show j < i by omega)]
      simp only [List.getD_eq_getElem?_getD]
      rw [List.getElem?_append_left (by rw [tdTo_len]; omega)]
/-- The greatest of the first depths. -/
def tMost (xs : List Int) : Nat → Int
  | 0 => -1
  | i + 1 => max (tMost xs i) ((tDep xs (xs.getD i 0) i : Nat) : Int)
theorem tMost_ge {xs : List Int} {j : Nat} : ∀ {i : Nat}, j < i → ((tDep xs (xs.getD j 0) j : Nat) : Int) ≤ tMost xs i
  | 0, h => by omega
  | i + 1, h => by
    rw [tMost]
    by_cases e : j = i
    · subst e; omega
    · have := tMost_ge (xs := xs) (i := i) (show j < i by omega); omega
theorem tMost_lo {xs : List Int} : ∀ i, -1 ≤ tMost xs i ∧ tMost xs i ≤ i
  | 0 => by rw [tMost]; omega
  | i + 1 => by have := tMost_lo (xs := xs) i; have := tDep_le (xs := xs) (x := xs.getD i 0) i; rw [tMost]; omega
theorem tDep_rise {xs : List Int} (i : Nat) : ((tDep xs (xs.getD i 0) i : Nat) : Int) ≤ tMost xs i + 1 := by
  rcases tDep_last (xs := xs) (x := xs.getD i 0) i with ⟨h1, _⟩ | ⟨m, l, h1, h2, h3⟩
  · have := (tMost_lo (xs := xs) i).1; omega
  · have := tMost_ge (xs := xs) h1; omega
theorem tDep_srt {xs : List Int} (hs : srt xs = true) (hr : ∀ k, -99 ≤ xs.getD k 0 ∧ xs.getD k 0 ≤ 99) {i : Nat} (hi : i < xs.length) : ∀ k, k ≤ i → tDep xs (xs.getD i 0) k = k ∧ (tWin xs (xs.getD i 0) k).1 = (if k = 0 then -99 else xs.getD (k - 1) 0) ∧ (tWin xs (xs.getD i 0) k).2 = 100
  | 0, _ => ⟨rfl, rfl, rfl⟩
  | k + 1, hk => by
    obtain ⟨h1, h2, h3⟩ := tDep_srt hs hr hi k (by omega)
    have hle : xs.getD k 0 ≤ xs.getD i 0 := by rw [← srt_ord hs]; exact ord_mono (by omega) hi
    have hle2 : k ≠ 0 → xs.getD (k - 1) 0 ≤ xs.getD k 0 := fun _ => by rw [← srt_ord hs]; exact ord_mono (by omega) (by omega)
    have hc : tIn (tWin xs (xs.getD i 0) k) (xs.getD k 0) := by
      unfold tIn
      rw [h2, h3]
      have := hr k
      by_cases e : k = 0
      · rw [if_pos e]; omega
      · rw [if_neg e]; have := hle2 e; omega
    rw [tDep, tWin, if_pos hc, if_pos hc, h1, decide_eq_false (by omega), tSide, if_neg (by decide)]
    exact ⟨rfl, by rw [if_neg (by omega)]; rfl, h3⟩
def upL : Nat → List Int
  | 0 => []
  | n + 1 => upL n ++ [(n : Int)]
theorem upL_len : ∀ n, (upL n).length = n
  | 0 => rfl
  | n + 1 => by rw [upL, List.length_append, upL_len n]; rfl
theorem tdTo_srt {xs : List Int} (hs : srt xs = true) (hr : ∀ k, -99 ≤ xs.getD k 0 ∧ xs.getD k 0 ≤ 99) : ∀ i, i ≤ xs.length → tdTo xs i = upL i
  | 0, _ => rfl
  | i + 1, h => by rw [tdTo, upL, tdTo_srt hs hr i (by omega), (tDep_srt hs hr (i := i) (by omega) i (Nat.le_refl _)).1]

theorem aStoreAll_cells {tab : Tab} {h : Hp} {n : Nat} {t : TypeId} {o : Nat} {old al : List AV} {K : AV → Hp → Nat → Prop} (ho : h o = some ⟨true, .cells old⟩) (hl : old.length = al.length) (hp : 0 < al.length) (hsz : szOf tab t = some al.length) (hc : al.all AV.cell = true)
    (hK : K .any (upd h o (some ⟨true, .cells al⟩)) n) : ∃ c', aStoreAll tab h n t (.ref o 0) (.agg al) c' K :=
  ⟨.cells al, _, ho, rfl, rfl, rfl, hp, by simpa [Cont.flat] using hl, by simpa using hsz, hc, rfl, hK⟩
/-- A piece of code with labels, through which one goes without a goto. -/
def noGotoA (Q : Exit → St → Prop) : Exit → St → Prop
  | .goto _, _ => False
  | e, s => Q e s
theorem noGotoA_normal (Q : Exit → St → Prop) (s : St) : noGotoA Q .normal s = Q .normal s := rfl
theorem noGotoA_exit (Q : Exit → St → Prop) (s : St) (i : Nat) : noGotoA Q (.exit i) s = Q (.exit i) s := rfl
theorem noGotoA_ret (Q : Exit → St → Prop) (s : St) : noGotoA Q .ret s = Q .ret s := rfl
theorem awp_scope {P : Program} {Γ : Ctx} {nt : Nat} {Q : Exit → St → Prop} {s : St} {c : Code} (h : AWP Γ nt P c (noGotoA Q) s) : AWP Γ nt P (.scope c) Q s := fun m a w hs =>
  wp_scope_straight (wp_mono (h m a w hs) fun e a' w' ⟨m', s', h1, h2⟩ => by
    cases e <;> first | exact ⟨m', s', h1, h2⟩ | exact h2.elim)
def swp (xs : List Int) (a b : Nat) : List Int := (xs.set a (xs.getD b 0)).set b (xs.getD a 0)
theorem swp_len (xs : List Int) (a b : Nat) : (swp xs a b).length = xs.length := by simp [swp]
/-- A key goes ahead by steps: what is there, how often was asked, how often moved. -/
def insIn (st : Nat) (k : Nat) (xs : List Int) (a m : Int) : List Int × Int × Int :=
  if h : 0 < st ∧ st ≤ k then (if xs.getD (k - st) 0 ≤ xs.getD k 0 then (xs, a + 1, m) else insIn st (k - st) (swp xs (k - st) k) (a + 1) (m + 1)) else (xs, a, m)
termination_by k
decreasing_by omega
theorem insIn_end {st k : Nat} {xs : List Int} {a m : Int} (h : k < st) : insIn st k xs a m = (xs, a, m) := by rw [insIn, dif_neg (by omega)]
theorem insIn_stop {st k : Nat} {xs : List Int} {a m : Int} (h0 : 0 < st) (h : st ≤ k) (hle : xs.getD (k - st) 0 ≤ xs.getD k 0) : insIn st k xs a m = (xs, a + 1, m) := by rw [insIn, dif_pos ⟨h0, h⟩, if_pos hle]
theorem insIn_go {st k : Nat} {xs : List Int} {a m : Int} (h0 : 0 < st) (h : st ≤ k) (hle : xs.getD k 0 < xs.getD (k - st) 0) : insIn st k xs a m = insIn st (k - st) (swp xs (k - st) k) (a + 1) (m + 1) := by rw [insIn, dif_pos ⟨h0, h⟩, if_neg (by omega)]
theorem insIn_in {st : Nat} : ∀ (f k : Nat) (xs : List Int) (a m : Int), k < f → (insIn st k xs a m).1.length = xs.length ∧ a ≤ (insIn st k xs a m).2.1 ∧ (insIn st k xs a m).2.1 ≤ a + k + 1 ∧ m ≤ (insIn st k xs a m).2.2 ∧ (insIn st k xs a m).2.2 ≤ m + k + 1
  | 0, k, xs, a, m, h => by omega
  | f + 1, k, xs, a, m, h => by
    by_cases h1 : 0 < st ∧ st ≤ k
    · rcases Int.lt_or_le (xs.getD k 0) (xs.getD (k - st) 0) with h2 | h2
      · rw [insIn_go h1.1 h1.2 h2]
        have := insIn_in (st := st) f (k - st) (swp xs (k - st) k) (a + 1) (m + 1) (by omega)
        rw [swp_len] at this
        omega
      · rw [insIn_stop h1.1 h1.2 h2]
        exact ⟨rfl, by simp only; omega, by simp only; omega, by simp only; omega, by simp only; omega⟩
    · rw [insIn, dif_neg h1]
      exact ⟨rfl, by simp only; omega, by simp only; omega, by simp only; omega, by simp only; omega⟩
def insTo (st : Nat) (s : List Int × Int × Int) : Nat → List Int × Int × Int
  | 0 => s
  | j + 1 => insIn st (st + j) (insTo st s j).1 (insTo st s j).2.1 (insTo st s j).2.2
theorem insTo_in {st : Nat} {s : List Int × Int × Int} (hn : s.1.length ≤ 8) : ∀ j, st + j ≤ s.1.length ∨ j = 0 → (insTo st s j).1.length = s.1.length ∧ s.2.1 ≤ (insTo st s j).2.1 ∧ (insTo st s j).2.1 ≤ s.2.1 + 9 * j ∧ s.2.2 ≤ (insTo st s j).2.2 ∧ (insTo st s j).2.2 ≤ s.2.2 + 9 * j
  | 0, _ => by simp [insTo]
  | j + 1, h => by
    have ih := insTo_in (st := st) hn j (by omega)
    have := insIn_in (st := st) (st + j + 1) (st + j) (insTo st s j).1 (insTo st s j).2.1 (insTo st s j).2.2 (by omega)
    rw [insTo]
    omega


theorem eqWork_sat : Sat Try.prog 49 (fun ds Q => ∃ (xs ys : List Int) (a b c d : Int), ds = [.agg [.row (.ints .i64 (xs)), .val (.int .i64 (a)), .val (.int .i64 (b))], .agg [.row (.ints .i64 (ys)), .val (.int .i64 (c)), .val (.int .i64 (d))]] ∧ (xs.length ≤ 1099511627776) ∧ (ys.length ≤ 1099511627776) ∧ Q (.val (.bool ((decide (xs = ys ∧ a = c ∧ b = d)))))) := by
  refine sat_intro tabOk Try.func49 rfl 21 rfl [.tmp 4] rfl ?_
  rintro ds Q W ⟨xs, ys, a, b, c, d, rfl, hx, hy, hQ⟩
  refine ⟨Nat.le_of_ble_eq_true rfl, ?_⟩
  simp only [initS, initT, mat.matL, mat, Cont.len]
  repeat' (first | refine awp_seq_k fun K hK => ?_ | ((with_reducible refine hK _ ?_); clear hK K) | (clear hK K; (with_reducible refine hK _ ?_); clear hK K) | (clear hK K; clear hK K; (with_reducible refine hK _ ?_); clear hK K) | (clear hK K; clear hK K; clear hK K; (with_reducible refine hK _ ?_); clear hK K) | (clear hK K; clear hK K; clear hK K; clear hK K; (with_reducible refine hK _ ?_); clear hK K) | (clear hK K; clear hK K; clear hK K; clear hK K; clear hK K; (with_reducible refine hK _ ?_); clear hK K) | ((with_reducible refine aord_plain fun K hK => ?_); simp only [go_sem, Nat.reduceAdd, Nat.reduceMul, Nat.reduceEqDiff, Nat.reduceLT, reduceIte, reduceCtorEq]) | refine awp_block ?_ | ((first | with_reducible refine aord_nil ?_ | refine awp_skip ?_ | refine awp_exit ?_ | refine awp_ret ?_); try simp only [thenA_normal, thenA_exit, thenA_goto, thenA_ret, blockA_normal, blockA_same, blockA_exit, blockA_goto, blockA_ret, Nat.reduceEqDiff, if_false, if_true, reduceIte]) | (refine awp_region tabOk rfl ?_; simp only [prep, pickO, List.map_cons, List.map_nil, List.getElem?_toArray, List.getElem?_cons_succ, List.getElem?_cons_zero, Option.bind_some, Option.map_some]) | ((with_reducible apply awp_cond); (focus (simp only [St.ev, St.set, upd, Nat.reduceEqDiff, reduceIte, if_false, if_true]; exact rfl)); all_goals (intro hb; first | (cases hb; done) | ((try rw [hb]); (try simp only [decide_eq_true_eq, decide_eq_false_iff_not, beq_iff_eq, bne_iff_ne, beq_eq_false_iff_ne, bne_eq_false_iff_eq, Int.not_lt, Int.not_le, Bool.not_eq_true', Bool.not_eq_false'] at hb)))) | ((with_reducible refine And.intro ?_ ?_); (focus omega)) | ((with_reducible refine And.intro ?_ ?_); (focus (exact rfl))) | ((with_reducible refine And.intro (?_ : enters Try.prog 45) ?_); (focus exact Try.call45); (refine callX_sat eqIntS_sat ?_); simp only [go_sem, and_assoc, List.nil_append, List.append_nil, List.cons_append, Nat.reduceEqDiff, reduceIte, reduceCtorEq]) | (with_reducible refine And.intro (fun hb => ?_) (fun hb => ?_)) | (exfalso; omega) | fail)
  all_goals simp only [St.set, St.ev, doneQ, doneH, ressK, resK, wrapR, AV.ids, AV.idsL, retK, retsK, upd, Nat.reduceEqDiff, reduceIte, if_false, if_true, List.nodup_nil, List.nodup_cons, List.not_mem_nil, not_false_eq_true, true_and, and_true, exists_eq_left', Option.some.injEq, rLoad, cellOf, tab, Ty.isAgg, Ty.one, Bool.false_eq_true]
  all_goals first | (simpa [*] using hQ; done) | (simp_all; done)


theorem heldWork_sat : Sat Try.prog 51 (fun ds Q => ∃ (xs : List Int) (a b k : Int), ds = [.agg [.row (.ints .i64 (xs)), .val (.int .i64 (a)), .val (.int .i64 (b))], .val (.int .i64 (k))] ∧ (xs = marks k xs.length) ∧ (0 ≤ k ∧ k ≤ 1000 ∧ xs.length ≤ 1099511627776) ∧ Q (.val (.int .i64 ((k + xs.length))))) := by
  refine sat_intro tabOk Try.func51 rfl 12 rfl [.tmp 4] rfl ?_
  rintro ds Q W ⟨xs, a, b, k, rfl, he, hk, hQ⟩
  refine ⟨Nat.le_of_ble_eq_true rfl, ?_⟩
  simp only [initS, initT, mat.matL, mat, Cont.len]
  repeat' (first | refine awp_seq_k fun K hK => ?_ | ((with_reducible refine hK _ ?_); clear hK K) | (clear hK K; (with_reducible refine hK _ ?_); clear hK K) | (clear hK K; clear hK K; (with_reducible refine hK _ ?_); clear hK K) | (clear hK K; clear hK K; clear hK K; (with_reducible refine hK _ ?_); clear hK K) | (clear hK K; clear hK K; clear hK K; clear hK K; (with_reducible refine hK _ ?_); clear hK K) | (clear hK K; clear hK K; clear hK K; clear hK K; clear hK K; (with_reducible refine hK _ ?_); clear hK K) | ((with_reducible refine aord_plain fun K hK => ?_); simp only [go_sem, Nat.reduceAdd, Nat.reduceMul, Nat.reduceEqDiff, Nat.reduceLT, reduceIte, reduceCtorEq]) | refine awp_block ?_ | ((first | with_reducible refine aord_nil ?_ | refine awp_skip ?_ | refine awp_exit ?_ | refine awp_ret ?_); try simp only [thenA_normal, thenA_exit, thenA_goto, thenA_ret, blockA_normal, blockA_same, blockA_exit, blockA_goto, blockA_ret, Nat.reduceEqDiff, if_false, if_true, reduceIte]) | (refine awp_region tabOk rfl ?_; simp only [prep, pickO, List.map_cons, List.map_nil, List.getElem?_toArray, List.getElem?_cons_succ, List.getElem?_cons_zero, Option.bind_some, Option.map_some]) | ((with_reducible apply awp_cond); (focus (simp only [St.ev, St.set, upd, Nat.reduceEqDiff, reduceIte, if_false, if_true]; exact rfl)); all_goals (intro hb; first | (cases hb; done) | ((try rw [hb]); (try simp only [decide_eq_true_eq, decide_eq_false_iff_not, beq_iff_eq, bne_iff_ne, beq_eq_false_iff_ne, bne_eq_false_iff_eq, Int.not_lt, Int.not_le, Bool.not_eq_true', Bool.not_eq_false'] at hb)))) | ((with_reducible refine And.intro ?_ ?_); (focus omega)) | ((with_reducible refine And.intro ?_ ?_); (focus (exact rfl))) | ((with_reducible refine And.intro (?_ : enters Try.prog 52) ?_); (focus exact Try.call52); (refine callX_sat heldIntS_sat ?_); simp only [go_sem, and_assoc, List.nil_append, List.append_nil, List.cons_append, Nat.reduceEqDiff, reduceIte, reduceCtorEq]) | (with_reducible refine And.intro (fun hb => ?_) (fun hb => ?_)) | (exfalso; omega) | fail)
  all_goals (simp only [St.set, St.ev, doneQ, doneH, ressK, resK, wrapR, AV.ids, AV.idsL, retK, retsK, upd, Nat.reduceEqDiff, reduceIte, if_false, if_true, List.nodup_nil, List.nodup_cons, List.not_mem_nil, not_false_eq_true, true_and, and_true, exists_eq_left', Option.some.injEq, rLoad, cellOf, tab, Ty.isAgg, Ty.one, Bool.false_eq_true]; exact hQ)


theorem getD_in {xs : List Int} {i : Nat} (h : i < xs.length) : xs.getD i 0 = xs[i] := by
  rw [List.getD_eq_getElem?_getD, List.getElem?_eq_getElem h]; rfl
theorem swp_perm {xs : List Int} {a b : Nat} (ha : a < xs.length) (hb : b < xs.length) : (swp xs a b).Perm xs := by
  unfold swp
  rw [getD_in ha, getD_in hb]
  exact List.set_set_perm ha hb
theorem swp_get {xs : List Int} {a b : Nat} (ha : a < xs.length) (hb : b < xs.length) (j : Nat) : (swp xs a b).getD j 0 = if j = b then xs.getD a 0 else if j = a then xs.getD b 0 else xs.getD j 0 := by
  unfold swp
  by_cases e : b = j
  · subst e; rw [getD_set_same (by simpa using hb), if_pos rfl]
  · rw [getD_set_ne' e, if_neg (fun h => e h.symm)]
    by_cases e2 : a = j
    · subst e2; rw [getD_set_same ha, if_pos rfl]
    · rw [getD_set_ne' e2, if_neg (fun h => e2 h.symm)]
theorem srt_pair {xs : List Int} (h : srt xs = true) : xs.Pairwise (· ≤ ·) := by
  rw [List.pairwise_iff_getElem]
  intro i j hi hj hij
  obtain ⟨d, rfl⟩ : ∃ d, j = i + d := ⟨j - i, by omega⟩
  have := srt_le h (d := d) (i := i) hj
  rwa [getD_in hi, getD_in hj] at this
theorem nodup_perm : ∀ (l m : List Nat), l.Nodup → (∀ a ∈ l, a ∈ m) → m.length ≤ l.length → l.Perm m
  | [], m, _, _, h => by
    have : m = [] := List.eq_nil_of_length_eq_zero (by simpa using h)
    subst this; exact List.Perm.refl _
  | a :: t, m, hn, hs, hl => by
    have ha : a ∈ m := hs a List.mem_cons_self
    have hn2 := List.nodup_cons.1 hn
    have := nodup_perm t (m.erase a) hn2.2 (fun b hb => (List.mem_erase_of_ne (fun e => hn2.1 (by subst e; exact hb))).2 (hs b (List.mem_cons_of_mem _ hb))) (by
      rw [List.length_erase_of_mem ha]; simp only [List.length_cons] at hl; omega)
    exact (this.cons a).trans (List.perm_cons_erase ha).symm
theorem range_eq (xs : List Int) : (List.range xs.length).map (fun i => xs.getD i 0) = xs := by
  refine ext_getD (by simp) fun j hj => ?_
  simp only [List.length_map, List.length_range] at hj
  rw [List.getD_eq_getElem?_getD, List.getElem?_eq_getElem (by simpa using hj)]; simp
/-- The keys at their places are the keys. -/
theorem ord_perm (xs : List Int) : (ordL xs).Perm xs := by
  have h1 : ((List.range xs.length).map (plN xs)).Perm (List.range xs.length) := by
    refine nodup_perm _ _ ?_ ?_ (by simp)
    · rw [List.Nodup, List.pairwise_map]
      refine (List.nodup_range (n := xs.length)).imp_of_mem ?_
      intro a b ha hb hne h
      exact hne (plN_inj (List.mem_range.1 ha) (List.mem_range.1 hb) h)
    · intro a ha
      obtain ⟨i, hi, rfl⟩ := List.mem_map.1 ha
      exact List.mem_range.2 (plN_lt (List.mem_range.1 hi))
  have h2 := h1.map (fun i => (ordL xs).getD i 0)
  have h3 : (List.range xs.length).map (fun i => (ordL xs).getD i 0) = ordL xs := by have := range_eq (ordL xs); rwa [ordL_len] at this
  have h4 : ((List.range xs.length).map (plN xs)).map (fun i => (ordL xs).getD i 0) = xs := by
    rw [List.map_map]
    refine Eq.trans (List.map_congr_left fun i hi => ?_) (range_eq xs)
    exact ord_at (List.mem_range.1 hi)
  rw [h3, h4] at h2
  exact h2.symm
theorem srt_uniq {xs ys : List Int} (h : srt ys = true) (hp : ys.Perm xs) : ys = ordL xs :=
  List.Perm.eq_of_pairwise (le := (· ≤ ·)) (fun _ _ _ _ h1 h2 => Int.le_antisymm h1 h2) (srt_pair h) (srt_pair ord_srt) (hp.trans (ord_perm xs).symm)
def invL : List Int → Int
  | [] => 0
  | x :: l => (l.countP (· < x) : Nat) + invL l
theorem swp_cons (x : Int) (l : List Int) (i j : Nat) : swp (x :: l) (i + 1) (j + 1) = x :: swp l i j := by
  simp [swp]
theorem inv_adj : ∀ (l : List Int) (i : Nat), i + 1 < l.length → l.getD (i + 1) 0 < l.getD i 0 → invL (swp l i (i + 1)) + 1 = invL l
  | [], i, h, _ => by simp at h
  | [_], i, h, _ => by simp at h
  | a :: b :: t, 0, _, hlt => by
    have e : swp (a :: b :: t) 0 1 = b :: a :: t := by simp [swp]
    have hlt : b < a := by simpa using hlt
    rw [e]
    simp only [invL, List.countP_cons, decide_eq_true_eq]
    rw [if_neg (by omega), if_pos hlt]; omega
  | x :: y :: t, i + 1, h, hlt => by
    rw [swp_cons]
    have ih := inv_adj (y :: t) i (by simpa using h) (by simpa using hlt)
    have hp := swp_perm (xs := y :: t) (a := i) (b := i + 1) (by simp at h ⊢; omega) (by simpa using h)
    simp only [invL] at ih ⊢
    rw [hp.countP_eq]; omega
theorem rowS (x : Int) (l : List Int) (i : Nat) : ∀ k, invRow (x :: l) (i + 1) (k + 1) = invRow l i k
  | 0 => by simp [invRow]
  | k + 1 => by
    rw [invRow, rowS x l i k, invRow]
    simp
theorem row0 (x : Int) (l : List Int) : ∀ k, k ≤ l.length → invRow (x :: l) 0 (k + 1) = ((l.take k).countP (· < x) : Nat)
  | 0, _ => by simp [invRow]
  | k + 1, h => by
    rw [invRow, row0 x l k (by omega), List.take_succ_eq_append_getElem (by omega), List.countP_append]
    have : (x :: l).getD (k + 1) 0 = l[k] := by rw [← getD_in (show k < l.length by omega)]; simp
    rw [this]
    by_cases h1 : l[k] < x
    · rw [if_pos ⟨by omega, by simpa using h1⟩]; simp [List.countP_cons, h1]
    · rw [if_neg (fun h => h1 (by simpa using h.2))]; simp [List.countP_cons, h1]
theorem invTo_cons (x : Int) (l : List Int) : ∀ i, invTo (x :: l) (i + 1) = invRow (x :: l) 0 (l.length + 1) + invTo l i
  | 0 => by simp only [invTo, List.length_cons]; omega
  | i + 1 => by
    rw [invTo, invTo_cons x l i, invTo, List.length_cons, rowS]; omega
theorem invTo_L : ∀ l : List Int, invTo l l.length = invL l
  | [] => rfl
  | x :: l => by
    rw [List.length_cons, invTo_cons, invTo_L l, row0 x l l.length (Nat.le_refl _), List.take_length]; rfl
theorem insIn_inv : ∀ (f k : Nat) (xs : List Int) (a m : Int), k < f → k < xs.length → (insIn 1 k xs a m).1.Perm xs ∧ (insIn 1 k xs a m).2.2 + invL (insIn 1 k xs a m).1 = m + invL xs ∧ a - m ≤ (insIn 1 k xs a m).2.1 - (insIn 1 k xs a m).2.2 ∧ (insIn 1 k xs a m).2.1 - (insIn 1 k xs a m).2.2 ≤ a - m + 1
  | 0, k, xs, a, m, h, _ => by omega
  | f + 1, k, xs, a, m, h, hl => by
    by_cases h1 : 1 ≤ k
    · rcases Int.lt_or_le (xs.getD k 0) (xs.getD (k - 1) 0) with h2 | h2
      · rw [insIn_go (by omega) h1 h2]
        have ih := insIn_inv f (k - 1) (swp xs (k - 1) k) (a + 1) (m + 1) (by omega) (by rw [swp_len]; omega)
        have hp := swp_perm (xs := xs) (a := k - 1) (b := k) (by omega) hl
        have hi := inv_adj xs (k - 1) (by omega) (by rw [show k - 1 + 1 = k by omega]; exact h2)
        rw [show k - 1 + 1 = k by omega] at hi
        exact ⟨ih.1.trans hp, by omega, by omega, by omega⟩
      · rw [insIn_stop (by omega) h1 h2]
        exact ⟨List.Perm.refl _, rfl, by simp only; omega, by simp only; omega⟩
    · rw [insIn_end (by omega)]
      exact ⟨List.Perm.refl _, rfl, by simp only; omega, by simp only; omega⟩
def srtP (ys : List Int) (J k : Nat) : Prop := (∀ a b, a < b → b ≤ J → a ≠ k → b ≠ k → ys.getD a 0 ≤ ys.getD b 0) ∧ ∀ b, k < b → b ≤ J → ys.getD k 0 ≤ ys.getD b 0
theorem insIn_srt : ∀ (f k : Nat) (ys : List Int) (a m : Int) (J : Nat), k < f → k ≤ J → J < ys.length → srtP ys J k → ∀ x y, x < y → y ≤ J → (insIn 1 k ys a m).1.getD x 0 ≤ (insIn 1 k ys a m).1.getD y 0
  | 0, k, ys, a, m, J, h, _, _, _, _, _, _, _ => by omega
  | f + 1, k, ys, a, m, J, h, hkJ, hJ, hP, x, y, hxy, hy => by
    have fin : (k < 1 ∨ ys.getD (k - 1) 0 ≤ ys.getD k 0) → ys.getD x 0 ≤ ys.getD y 0 := fun hk => by
      by_cases e1 : x = k
      · subst e1; exact hP.2 y hxy hy
      · by_cases e2 : y = k
        · subst e2
          rcases hk with hk | hk
          · omega
          · by_cases e3 : x = y - 1
            · rw [e3]; exact hk
            · have := hP.1 x (y - 1) (by omega) (by omega) e1 (by omega)
              omega
        · exact hP.1 x y hxy hy e1 e2
    by_cases h1 : 1 ≤ k
    · rcases Int.lt_or_le (ys.getD k 0) (ys.getD (k - 1) 0) with h2 | h2
      · rw [insIn_go (by omega) h1 h2]
        have hg := swp_get (xs := ys) (a := k - 1) (b := k) (by omega) (by omega)
        refine insIn_srt f (k - 1) (swp ys (k - 1) k) (a + 1) (m + 1) J (by omega) (by omega) (by rw [swp_len]; exact hJ) ⟨fun a b hab hb ha hb2 => ?_, fun b hb hbJ => ?_⟩ x y hxy hy
        · rw [hg a, hg b]
          by_cases e1 : a = k
          · rw [if_pos e1, if_neg (by omega), if_neg (by omega)]
            exact hP.1 (k - 1) b (by omega) hb (by omega) (by omega)
          · rw [if_neg e1, if_neg ha]
            by_cases e2 : b = k
            · rw [if_pos e2]
              by_cases e3 : a = k - 1
              · omega
              · exact hP.1 a (k - 1) (by omega) (by omega) e1 (by omega)
            · rw [if_neg e2, if_neg hb2]; exact hP.1 a b hab hb e1 e2
        · rw [hg (k - 1), if_neg (by omega), if_pos rfl, hg b]
          by_cases e2 : b = k
          · rw [if_pos e2]; omega
          · rw [if_neg e2, if_neg (by omega)]; exact hP.2 b (by omega) hbJ
      · rw [insIn_stop (by omega) h1 h2]
        exact fin (.inr h2)
    · rw [insIn_end (by omega)]
      exact fin (.inl (by omega))
theorem insTo_all (xs : List Int) : ∀ j, j + 1 ≤ xs.length ∨ j = 0 → (insTo 1 (xs, 0, 0) j).1.Perm xs ∧ (insTo 1 (xs, 0, 0) j).2.2 + invL (insTo 1 (xs, 0, 0) j).1 = invL xs ∧ (0 ≤ (insTo 1 (xs, 0, 0) j).2.1 - (insTo 1 (xs, 0, 0) j).2.2 ∧ (insTo 1 (xs, 0, 0) j).2.1 - (insTo 1 (xs, 0, 0) j).2.2 ≤ j) ∧ ∀ x y, x < y → y ≤ j → (insTo 1 (xs, 0, 0) j).1.getD x 0 ≤ (insTo 1 (xs, 0, 0) j).1.getD y 0
  | 0, _ => ⟨List.Perm.refl _, by simp [insTo], by simp [insTo], fun x y h1 h2 => by omega⟩
  | j + 1, h => by
    obtain ⟨i1, i2, i3, i4⟩ := insTo_all xs j (by omega)
    have hl := i1.length_eq
    obtain ⟨q1, q2, q3, q4⟩ := insIn_inv (1 + j + 1) (1 + j) (insTo 1 (xs, 0, 0) j).1 (insTo 1 (xs, 0, 0) j).2.1 (insTo 1 (xs, 0, 0) j).2.2 (by omega) (by omega)
    have q5 := insIn_srt (1 + j + 1) (1 + j) (insTo 1 (xs, 0, 0) j).1 (insTo 1 (xs, 0, 0) j).2.1 (insTo 1 (xs, 0, 0) j).2.2 (j + 1) (by omega) (by omega) (by omega) ⟨fun a b hab hb ha hb2 => i4 a b hab (by omega), fun b hb hb2 => by omega⟩
    rw [insTo]
    exact ⟨q1.trans i1, by omega, by omega, q5⟩
theorem srt_of {ys : List Int} (h : ∀ x y, x < y → y < ys.length → ys.getD x 0 ≤ ys.getD y 0) : srt ys = true := srt_iff.2 fun j hj => h j (j + 1) (by omega) hj
theorem inv_sorted {ys : List Int} (h : srt ys = true) : invL ys = 0 := by
  have := inv_srt ys
  rw [h, invTo_L] at this
  simpa using this
/-- What insertion answers. -/
theorem ins_fin (xs : List Int) : (insTo 1 (xs, 0, 0) (xs.length - 1)).1 = ordL xs ∧ (insTo 1 (xs, 0, 0) (xs.length - 1)).2.2 = invTo xs xs.length ∧ (insTo 1 (xs, 0, 0) (xs.length - 1)).2.2 ≤ (insTo 1 (xs, 0, 0) (xs.length - 1)).2.1 ∧ (insTo 1 (xs, 0, 0) (xs.length - 1)).2.1 ≤ (insTo 1 (xs, 0, 0) (xs.length - 1)).2.2 + (xs.length - 1 : Nat) := by
  obtain ⟨i1, i2, i3, i4⟩ := insTo_all xs (xs.length - 1) (by omega)
  have hl := i1.length_eq
  have hs : srt (insTo 1 (xs, 0, 0) (xs.length - 1)).1 = true := srt_of fun x y h1 h2 => i4 x y h1 (by omega)
  have := inv_sorted hs
  rw [invTo_L]
  exact ⟨srt_uniq hs i1, by omega, by omega, by omega⟩
theorem invRow_le (xs : List Int) (i : Nat) : ∀ k, invRow xs i k ≤ k
  | 0 => Int.le_refl 0
  | k + 1 => by have := invRow_le xs i k; rw [invRow]; split <;> omega
theorem inv_le0 (xs : List Int) : ∀ i, invTo xs i ≤ i * xs.length
  | 0 => by simp [invTo]
  | i + 1 => by
    have := inv_le0 xs i
    have := invRow_le xs i xs.length
    have : ((i + 1 : Nat) : Int) * xs.length = i * xs.length + xs.length := by rw [Int.natCast_add, Int.add_mul]; omega
    rw [invTo]; omega
theorem inv_le {xs : List Int} (h : xs.length ≤ 8) : invTo xs xs.length ≤ 64 := by
  have h1 := inv_le0 xs xs.length
  have h2 : ((xs.length : Int)) * xs.length ≤ 8 * 8 := by
    have := Nat.mul_le_mul h h
    exact_mod_cast this
  omega
theorem srt_steps {ys : List Int} (h : ∀ a, a + 1 < ys.length → ys.getD a 0 ≤ ys.getD (a + 1) 0) : srt ys = true := srt_iff.2 h

theorem isReg {P : Program} {Γ : Ctx} {Q : Exit → St → Prop} {s : St} {ops : Array Oper} {b : Bool} {r : Code} (nt id : Nat) (h : AWP Γ nt P (.seq (.region id ops b) r) Q s) : AWP Γ nt P (.seq (.region id ops b) r) Q s := h


theorem equalWork_sat : Sat Try.prog 24 (fun ds Q => ∃ (xs ys : List Int) (a b c d : Int), ds = [.agg [.row (.ints .i64 (xs)), .val (.int .i64 (a)), .val (.int .i64 (b))], .agg [.row (.ints .i64 (ys)), .val (.int .i64 (c)), .val (.int .i64 (d))]] ∧ (xs.length ≤ 1099511627776) ∧ (ys.length ≤ 1099511627776) ∧ Q (.val (.bool ((decide (xs = ys ∧ a = c ∧ b = d)))))) := by
  refine sat_intro tabOk Try.func24 rfl 24 rfl [.tmp 4] rfl ?_
  rintro ds Q W ⟨xs, ys, a, b, c, d, rfl, hx, hy, hQ⟩
  refine ⟨Nat.le_of_ble_eq_true rfl, ?_⟩
  simp only [initS, initT, mat.matL, mat, Cont.len]
  repeat' (first | refine awp_seq_k fun K hK => ?_ | ((with_reducible refine hK _ ?_); clear hK K) | (clear hK K; (with_reducible refine hK _ ?_); clear hK K) | (clear hK K; clear hK K; (with_reducible refine hK _ ?_); clear hK K) | (clear hK K; clear hK K; clear hK K; (with_reducible refine hK _ ?_); clear hK K) | (clear hK K; clear hK K; clear hK K; clear hK K; (with_reducible refine hK _ ?_); clear hK K) | (clear hK K; clear hK K; clear hK K; clear hK K; clear hK K; (with_reducible refine hK _ ?_); clear hK K) | ((with_reducible refine aord_plain fun K hK => ?_); simp only [go_sem, Nat.reduceAdd, Nat.reduceMul, Nat.reduceEqDiff, Nat.reduceLT, reduceIte, reduceCtorEq]) | ((with_reducible apply aord_guard); (focus (simp only [St.ev, St.set, upd, Nat.reduceEqDiff, reduceIte, if_false, if_true]; exact rfl)); all_goals (intro hb; (try simp only [Bool.not_true, Bool.not_false] at hb); first | (cases hb; done) | ((try rw [hb]); (try simp only [Bool.not_eq_true', Bool.not_eq_false', Bool.and_eq_true, decide_eq_true_eq, decide_eq_false_iff_not, beq_iff_eq, bne_iff_ne, beq_eq_false_iff_ne, bne_eq_false_iff_eq, Int.not_lt, Int.not_le] at hb); (try (revert hb; with_reducible refine true_imp_iff.2 ?_)); first | (intro K hK; simp only [go_sem, Nat.reduceAdd, Nat.reduceMul, Nat.reduceEqDiff, Nat.reduceLT, reduceIte, reduceCtorEq]) | (simp only [St.ev, St.set, upd, Nat.reduceEqDiff, reduceIte, if_false, if_true]) | skip))) | ((with_reducible apply aord_skip); (focus (simp only [St.ev, St.set, upd, Nat.reduceEqDiff, reduceIte, if_false, if_true]; done)); (simp only [St.ev, St.set, upd, Nat.reduceEqDiff, reduceIte, if_false, if_true])) | refine awp_block ?_ | ((first | with_reducible refine aord_nil ?_ | refine awp_skip ?_ | refine awp_exit ?_ | refine awp_ret ?_); try simp only [thenA_normal, thenA_exit, thenA_goto, thenA_ret, blockA_normal, blockA_same, blockA_exit, blockA_goto, blockA_ret, Nat.reduceEqDiff, if_false, if_true, reduceIte]) | (refine awp_region tabOk rfl ?_; simp only [prep, pickO, List.map_cons, List.map_nil, List.getElem?_toArray, List.getElem?_cons_succ, List.getElem?_cons_zero, Option.bind_some, Option.map_some]) | ((with_reducible refine And.intro ?_ ?_); (focus omega)) | ((with_reducible refine And.intro ?_ ?_); (focus (exact rfl))) | ((with_reducible refine And.intro (?_ : enters Try.prog 19) ?_); (focus exact Try.call19); (refine callX_sat equalInts_sat ?_); simp only [go_sem, and_assoc, List.nil_append, List.append_nil, List.cons_append, Nat.reduceEqDiff, reduceIte, reduceCtorEq]) | (with_reducible refine And.intro (fun hb => ?_) (fun hb => ?_)) | (exfalso; omega) | fail)
  all_goals simp only [St.set, St.ev, doneQ, doneH, ressK, resK, wrapR, AV.ids, AV.idsL, retK, retsK, upd, Nat.reduceEqDiff, reduceIte, if_false, if_true, List.nodup_nil, List.nodup_cons, List.not_mem_nil, not_false_eq_true, true_and, and_true, exists_eq_left', Option.some.injEq, rLoad, cellOf, tab, Ty.isAgg, Ty.one, Bool.false_eq_true]
  all_goals first | (have e : (b == d) = decide (xs = ys ∧ a = c ∧ b = d) := (by by_cases h : b = d <;> simp [*]); rw [e]; exact hQ) | (simpa [*] using hQ; done) | (simp_all; done)


/-- The numbers less than one, and the others. -/
def lowL (x : Int) (l : List Int) : List Int := l.filter fun y => decide (y < x)
def highL (x : Int) (l : List Int) : List Int := l.filter fun y => !decide (y < x)
theorem low_high (x : Int) (l : List Int) : (lowL x l).length + (highL x l).length = l.length := by
  unfold lowL highL
  induction l with
  | nil => rfl
  | cons y l ih =>
    by_cases h : y < x
    · simp [h] at ih ⊢; omega
    · simp [h] at ih ⊢; omega
theorem low_up {x : Int} {l : List Int} {i : Nat} (h : i < l.length) : lowL x (l.take (i + 1)) = lowL x (l.take i) ++ (if l.getD i 0 < x then [l.getD i 0] else []) := by
  unfold lowL
  rw [List.take_succ_eq_append_getElem h, List.filter_append, List.getD_eq_getElem?_getD, List.getElem?_eq_getElem h]
  simp only [Option.getD_some, List.filter_cons, List.filter_nil, decide_eq_true_eq]
theorem high_up {x : Int} {l : List Int} {i : Nat} (h : i < l.length) : highL x (l.take (i + 1)) = highL x (l.take i) ++ (if l.getD i 0 < x then [] else [l.getD i 0]) := by
  unfold highL
  rw [List.take_succ_eq_append_getElem h, List.filter_append, List.getD_eq_getElem?_getD, List.getElem?_eq_getElem h]
  by_cases h1 : l[i] < x
  · simp [h1]
  · simp [h1]
theorem low_in {x : Int} {l : List Int} (i : Nat) : (lowL x (l.take i)).length ≤ i ∧ (highL x (l.take i)).length ≤ i := by
  have := low_high x (l.take i)
  have h : (l.take i).length ≤ i := by rw [List.length_take]; omega
  omega
theorem getD_drop1 (xs : List Int) (i : Nat) : (xs.drop 1).getD i 0 = xs.getD (i + 1) 0 := by
  rw [List.getD_eq_getElem?_getD, List.getD_eq_getElem?_getD, List.getElem?_drop, Nat.add_comm]
/-- The key at a place, and how often is asked, when those are parted again and again among which it is. -/
def qpk : Nat → List Int → Nat → Int × Int
  | 0, xs, _ => (xs.getD 0 0, 0)
  | f + 1, xs, k => if k = (lowL (xs.getD 0 0) (xs.drop 1)).length then (xs.getD 0 0, (xs.length : Int) - 1) else if k < (lowL (xs.getD 0 0) (xs.drop 1)).length then ((qpk f (lowL (xs.getD 0 0) (xs.drop 1)) k).1, (qpk f (lowL (xs.getD 0 0) (xs.drop 1)) k).2 + xs.length - 1) else ((qpk f (highL (xs.getD 0 0) (xs.drop 1)) (k - (lowL (xs.getD 0 0) (xs.drop 1)).length - 1)).1, (qpk f (highL (xs.getD 0 0) (xs.drop 1)) (k - (lowL (xs.getD 0 0) (xs.drop 1)).length - 1)).2 + xs.length - 1)
theorem qpk_at {f : Nat} {xs : List Int} {k : Nat} (h1 : 1 ≤ xs.length) (h2 : xs.length ≤ f + 1) (hk : k = (lowL (xs.getD 0 0) (xs.drop 1)).length) : qpk f xs k = (xs.getD 0 0, (xs.length : Int) - 1) := by
  cases f with
  | zero => rw [qpk, show xs.length = 1 by omega]; rfl
  | succ f => rw [qpk, if_pos hk]
theorem qpk_low {f : Nat} {xs : List Int} {k : Nat} (hk : k < (lowL (xs.getD 0 0) (xs.drop 1)).length) : qpk (f + 1) xs k = ((qpk f (lowL (xs.getD 0 0) (xs.drop 1)) k).1, (qpk f (lowL (xs.getD 0 0) (xs.drop 1)) k).2 + xs.length - 1) := by
  rw [qpk, if_neg (by omega), if_pos hk]
theorem qpk_high {f : Nat} {xs : List Int} {k : Nat} (hk : (lowL (xs.getD 0 0) (xs.drop 1)).length < k) : qpk (f + 1) xs k = ((qpk f (highL (xs.getD 0 0) (xs.drop 1)) (k - (lowL (xs.getD 0 0) (xs.drop 1)).length - 1)).1, (qpk f (highL (xs.getD 0 0) (xs.drop 1)) (k - (lowL (xs.getD 0 0) (xs.drop 1)).length - 1)).2 + xs.length - 1) := by
  rw [qpk, if_neg (by omega), if_neg (by omega)]
theorem qpk_in : ∀ (f : Nat) (xs : List Int) (k : Nat), 1 ≤ xs.length → xs.length ≤ f + 1 → k < xs.length → f ≤ 7 → 0 ≤ (qpk f xs k).2 ∧ (qpk f xs k).2 ≤ 8 * f
  | 0, xs, k, _, _, _, _ => by simp [qpk]
  | f + 1, xs, k, h1, h2, h3, h4 => by
    have hl := low_high (xs.getD 0 0) (xs.drop 1)
    rw [List.length_drop] at hl
    rcases Nat.lt_trichotomy k (lowL (xs.getD 0 0) (xs.drop 1)).length with h | h | h
    · rw [qpk_low h]
      have := qpk_in f (lowL (xs.getD 0 0) (xs.drop 1)) k (by omega) (by omega) h (by omega)
      simp only; omega
    · rw [qpk_at h1 (by omega) h]; simp only; omega
    · rw [qpk_high h]
      have := qpk_in f (highL (xs.getD 0 0) (xs.drop 1)) (k - (lowL (xs.getD 0 0) (xs.drop 1)).length - 1) (by omega) (by omega) (by omega) (by omega)
      simp only; omega
/-- A place among keys. -/
def okP (xs : List Int) (k : Int) : Prop := validB xs = true ∧ 0 ≤ k ∧ k < xs.length
instance (xs : List Int) (k : Int) : Decidable (okP xs k) := by unfold okP; infer_instance


theorem flat_take {xss : List (List Int)} {i : Nat} (h : i < xss.length) : (xss.take (i + 1)).flatten = (xss.take i).flatten ++ xss.getD i [] := by
  rw [List.take_succ_eq_append_getElem h, List.flatten_append, List.getD_eq_getElem?_getD, List.getElem?_eq_getElem h]; simp
theorem flat_le {xss : List (List Int)} (i : Nat) : (xss.take i).flatten.length ≤ xss.flatten.length := by
  have h : xss.flatten = (xss.take i).flatten ++ (xss.drop i).flatten := by rw [← List.flatten_append, List.take_append_drop]
  have := congrArg List.length h
  rw [List.length_append] at this; omega



end Go.Proofs.Ytcgcbpkociaphaa
