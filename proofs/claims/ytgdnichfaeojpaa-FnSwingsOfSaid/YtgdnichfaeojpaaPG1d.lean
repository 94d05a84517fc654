/- Contracts of functions of the program. -/
import Derived.Test.YtgdnichfaeojpaaPG1c
import Derived.ScopeJumps
namespace Go.Proofs.Ytgdnichfaeojpaa
open Go Go.Ab
set_option linter.all false
set_option maxHeartbeats 4000000

theorem someKeys_sat : SatH Try.prog 46 (fun al h n K => ∃ (bs : List Int) (L : Nat) (lim : Option Nat) (q : Nat), al = [.ref 1 0] ∧ (n = 2) ∧ (h 0 = some ⟨false, .ints .u8 bs⟩) ∧ (h 1 = some ⟨true, .cells [.sl 0 0 L 1 lim, .val (.int .i64 q)]⟩) ∧ (L ≤ bs.length ∧ L ≤ 1099511627776) ∧ (bytesOk bs) ∧ (q ≤ 800000) ∧ ∀ (ys : List Int) (r : Nat), ys.length ≤ 17 → r ≤ q + 30 → K (.sl 2 0 ys.length 1 none) (upd (upd h 1 (some ⟨true, .cells [.sl 0 0 L 1 lim, .val (.int .i64 r)]⟩)) 2 (some ⟨true, .ints .i64 ys⟩)) (3)) := by
  refine satH_intro tabOk Try.func46 rfl 7 rfl [.tmp 2] rfl ?_
  rintro F W h n al K0 ⟨bs, L, lim, q, rfl, hn, h0, h1, hL, hbs, hq, hQ⟩
  refine ⟨Nat.le_of_ble_eq_true rfl, fun m0 hm0 hcl hlt => ?_⟩
  simp only [initT]
  subst hn
  have hclO := hcl
  repeat' (first | refine awp_seq_k fun K hK => ?_ | ((with_reducible refine hK _ ?_); clear hK K) | (clear hK K; (with_reducible refine hK _ ?_); clear hK K) | (clear hK K; clear hK K; (with_reducible refine hK _ ?_); clear hK K) | (clear hK K; clear hK K; clear hK K; (with_reducible refine hK _ ?_); clear hK K) | (clear hK K; clear hK K; clear hK K; clear hK K; (with_reducible refine hK _ ?_); clear hK K) | (clear hK K; clear hK K; clear hK K; clear hK K; clear hK K; (with_reducible refine hK _ ?_); clear hK K) | ((with_reducible refine aord_plain fun K hK => ?_); simp only [go_sem, Nat.reduceAdd, Nat.reduceMul, Nat.reduceEqDiff, Nat.reduceLT, reduceIte, reduceCtorEq, h0, h1]) | refine awp_block ?_ | ((first | with_reducible refine aord_nil ?_ | refine awp_skip ?_ | refine awp_exit ?_ | refine awp_ret ?_); try simp only [thenA_normal, thenA_exit, thenA_goto, thenA_ret, blockA_normal, blockA_same, blockA_exit, blockA_goto, blockA_ret, Nat.reduceEqDiff, if_false, if_true, reduceIte]) | (refine awp_region tabOk rfl ?_; simp only [prep, pickO, List.map_cons, List.map_nil, List.getElem?_toArray, List.getElem?_cons_succ, List.getElem?_cons_zero, Option.bind_some, Option.map_some]) | ((with_reducible apply awp_cond); (focus (simp only [St.ev, St.set, upd, Nat.reduceEqDiff, reduceIte, if_false, if_true]; exact rfl)); all_goals (intro hb; first | (cases hb; done) | ((try rw [hb]); (try simp only [decide_eq_true_eq, decide_eq_false_iff_not, beq_iff_eq, bne_iff_ne, beq_eq_false_iff_ne, bne_eq_false_iff_eq, Int.not_lt, Int.not_le, Bool.not_eq_true', Bool.not_eq_false'] at hb)))) | ((with_reducible refine And.intro ?_ ?_); (focus omega)) | ((with_reducible refine And.intro ?_ ?_); (focus (exact rfl))) | ((with_reducible refine And.intro (?_ : enters Try.prog 72) ?_); (focus exact Try.call72); (refine callX_satH pick_sat ?_); simp only [go_sem, and_assoc, List.nil_append, List.append_nil, List.cons_append, Nat.reduceEqDiff, reduceIte, reduceCtorEq, h0, h1]) | ((with_reducible refine And.intro (?_ : enters Try.prog 73) ?_); (focus exact Try.call73); (refine callX_satH one_sat ?_); simp only [go_sem, and_assoc, List.nil_append, List.append_nil, List.cons_append, Nat.reduceEqDiff, reduceIte, reduceCtorEq, h0, h1]) | ((with_reducible refine And.intro (?_ : enters Try.prog 68) ?_); (focus exact Try.call68); (refine callX_satH goodKeys_sat ?_); simp only [go_sem, and_assoc, List.nil_append, List.append_nil, List.cons_append, Nat.reduceEqDiff, reduceIte, reduceCtorEq, h0, h1]) | ((with_reducible refine And.intro (?_ : enters Try.prog 67) ?_); (focus exact Try.call67); (refine callX_h (callH_inline tabOk Try.func67 rfl 27 rfl [.tmp 4] rfl (Nat.le_of_ble_eq_true rfl) fun m0 hm0 hcl hlt => ?_)); simp only [initT, St.ev, St.set, upd, Nat.reduceEqDiff, reduceIte, if_false, if_true]) | (refine aAppend_ints rfl rfl rfl rfl (Nat.le_of_ble_eq_true rfl) (by simp only [St.ev, St.set, upd, Nat.reduceEqDiff, reduceIte, if_false, if_true]; exact rfl) (by simp only [St.ev, St.set, upd, Nat.reduceEqDiff, reduceIte, if_false, if_true]; exact rfl) rfl (by decide) ?_ ?_ ?_ ?_; (focus (first | rfl | omega | (simp; done) | (simp; omega) | (simp [szOf, tab]; done) | (simp [szOf, tab]; omega))); (focus (first | rfl | omega | (simp; done) | (simp; omega) | (simp [szOf, tab]; done) | (simp [szOf, tab]; omega))); (focus (first | rfl | omega | (simp; done) | (simp; omega) | (simp [szOf, tab]; done) | (simp [szOf, tab]; omega))); (try simp only [go_sem, Nat.reduceAdd, Nat.reduceMul, Nat.reduceEqDiff, Nat.reduceLT, reduceIte, reduceCtorEq])) | (refine aAppend_none rfl rfl rfl rfl (Nat.le_of_ble_eq_true rfl) (by simp only [St.ev, St.set, upd, Nat.reduceEqDiff, reduceIte, if_false, if_true]; exact rfl) ?_ ?_ ?_; (focus (first | rfl | omega | (simp; done) | (simp; omega) | (simp [szOf, tab]; done) | (simp [szOf, tab]; omega))); (focus (first | rfl | omega | (simp; done) | (simp; omega) | (simp [szOf, tab]; done) | (simp [szOf, tab]; omega))); (try simp only [go_sem, Nat.reduceAdd, Nat.reduceMul, Nat.reduceEqDiff, Nat.reduceLT, reduceIte, reduceCtorEq])) | (refine aStoreAll_ints (by simp only [St.ev, St.set, upd, Nat.reduceEqDiff, reduceIte, if_false, if_true]; exact rfl) ?_ ?_ ?_ ?_; (focus (first | rfl | omega | (simp; done) | (simp; omega) | (simp [szOf, tab]; done) | (simp [szOf, tab]; omega))); (focus (first | rfl | omega | (simp; done) | (simp; omega) | (simp [szOf, tab]; done) | (simp [szOf, tab]; omega))); (focus (first | rfl | omega | (simp; done) | (simp; omega) | (simp [szOf, tab]; done) | (simp [szOf, tab]; omega))); (try simp only [go_sem, Nat.reduceAdd, Nat.reduceMul, Nat.reduceEqDiff, Nat.reduceLT, reduceIte, reduceCtorEq])) | (simp only [doneH]; simp only [ressK, resK, wrapR, go_sem, Nat.reduceAdd, Nat.reduceMul, Nat.reduceEqDiff, Nat.reduceLT, reduceIte, reduceCtorEq]) | (refine aStoreAll_cells (by simp only [St.ev, St.set, upd, Nat.reduceEqDiff, reduceIte, if_false, if_true]; exact rfl) ?_ ?_ ?_ ?_ ?_; (focus (first | rfl | omega | (simp; done) | (simp; omega) | (simp [szOf, tab]; done) | (simp [szOf, tab]; omega))); (focus (first | rfl | omega | (simp; done) | (simp; omega) | (simp [szOf, tab]; done) | (simp [szOf, tab]; omega))); (focus (first | rfl | omega | (simp; done) | (simp; omega) | (simp [szOf, tab]; done) | (simp [szOf, tab]; omega))); (focus (first | rfl | (simp [AV.cell, Value.oneCell']; done))); (try simp only [go_sem, Nat.reduceAdd, Nat.reduceMul, Nat.reduceEqDiff, Nat.reduceLT, reduceIte, reduceCtorEq])) | (with_reducible refine And.intro (fun hb => ?_) (fun hb => ?_)) | (exfalso; omega) | fail)
  refine ⟨L, lim, q, rfl, hL.1, hL.2, hbs, by omega, ?_⟩
  intro ks r hks hr
  repeat' (first | refine awp_seq_k fun K hK => ?_ | ((with_reducible refine hK _ ?_); clear hK K) | (clear hK K; (with_reducible refine hK _ ?_); clear hK K) | (clear hK K; clear hK K; (with_reducible refine hK _ ?_); clear hK K) | (clear hK K; clear hK K; clear hK K; (with_reducible refine hK _ ?_); clear hK K) | (clear hK K; clear hK K; clear hK K; clear hK K; (with_reducible refine hK _ ?_); clear hK K) | (clear hK K; clear hK K; clear hK K; clear hK K; clear hK K; (with_reducible refine hK _ ?_); clear hK K) | ((with_reducible refine aord_plain fun K hK => ?_); simp only [go_sem, Nat.reduceAdd, Nat.reduceMul, Nat.reduceEqDiff, Nat.reduceLT, reduceIte, reduceCtorEq, h0, h1]) | refine awp_block ?_ | ((first | with_reducible refine aord_nil ?_ | refine awp_skip ?_ | refine awp_exit ?_ | refine awp_ret ?_); try simp only [thenA_normal, thenA_exit, thenA_goto, thenA_ret, blockA_normal, blockA_same, blockA_exit, blockA_goto, blockA_ret, Nat.reduceEqDiff, if_false, if_true, reduceIte]) | (refine awp_region tabOk rfl ?_; simp only [prep, pickO, List.map_cons, List.map_nil, List.getElem?_toArray, List.getElem?_cons_succ, List.getElem?_cons_zero, Option.bind_some, Option.map_some]) | ((with_reducible apply awp_cond); (focus (simp only [St.ev, St.set, upd, Nat.reduceEqDiff, reduceIte, if_false, if_true]; exact rfl)); all_goals (intro hb; first | (cases hb; done) | ((try rw [hb]); (try simp only [decide_eq_true_eq, decide_eq_false_iff_not, beq_iff_eq, bne_iff_ne, beq_eq_false_iff_ne, bne_eq_false_iff_eq, Int.not_lt, Int.not_le, Bool.not_eq_true', Bool.not_eq_false'] at hb)))) | ((with_reducible refine And.intro ?_ ?_); (focus omega)) | ((with_reducible refine And.intro ?_ ?_); (focus (exact rfl))) | ((with_reducible refine And.intro (?_ : enters Try.prog 72) ?_); (focus exact Try.call72); (refine callX_satH pick_sat ?_); simp only [go_sem, and_assoc, List.nil_append, List.append_nil, List.cons_append, Nat.reduceEqDiff, reduceIte, reduceCtorEq, h0, h1]) | ((with_reducible refine And.intro (?_ : enters Try.prog 73) ?_); (focus exact Try.call73); (refine callX_satH one_sat ?_); simp only [go_sem, and_assoc, List.nil_append, List.append_nil, List.cons_append, Nat.reduceEqDiff, reduceIte, reduceCtorEq, h0, h1]) | ((with_reducible refine And.intro (?_ : enters Try.prog 68) ?_); (focus exact Try.call68); (refine callX_satH goodKeys_sat ?_); simp only [go_sem, and_assoc, List.nil_append, List.append_nil, List.cons_append, Nat.reduceEqDiff, reduceIte, reduceCtorEq, h0, h1]) | ((with_reducible refine And.intro (?_ : enters Try.prog 67) ?_); (focus exact Try.call67); (refine callX_h (callH_inline tabOk Try.func67 rfl 27 rfl [.tmp 4] rfl (Nat.le_of_ble_eq_true rfl) fun m0 hm0 hcl hlt => ?_)); simp only [initT, St.ev, St.set, upd, Nat.reduceEqDiff, reduceIte, if_false, if_true]) | (refine aAppend_ints rfl rfl rfl rfl (Nat.le_of_ble_eq_true rfl) (by simp only [St.ev, St.set, upd, Nat.reduceEqDiff, reduceIte, if_false, if_true]; exact rfl) (by simp only [St.ev, St.set, upd, Nat.reduceEqDiff, reduceIte, if_false, if_true]; exact rfl) rfl (by decide) ?_ ?_ ?_ ?_; (focus (first | rfl | omega | (simp; done) | (simp; omega) | (simp [szOf, tab]; done) | (simp [szOf, tab]; omega))); (focus (first | rfl | omega | (simp; done) | (simp; omega) | (simp [szOf, tab]; done) | (simp [szOf, tab]; omega))); (focus (first | rfl | omega | (simp; done) | (simp; omega) | (simp [szOf, tab]; done) | (simp [szOf, tab]; omega))); (try simp only [go_sem, Nat.reduceAdd, Nat.reduceMul, Nat.reduceEqDiff, Nat.reduceLT, reduceIte, reduceCtorEq])) | (refine aAppend_none rfl rfl rfl rfl (Nat.le_of_ble_eq_true rfl) (by simp only [St.ev, St.set, upd, Nat.reduceEqDiff, reduceIte, if_false, if_true]; exact rfl) ?_ ?_ ?_; (focus (first | rfl | omega | (simp; done) | (simp; omega) | (simp [szOf, tab]; done) | (simp [szOf, tab]; omega))); (focus (first | rfl | omega | (simp; done) | (simp; omega) | (simp [szOf, tab]; done) | (simp [szOf, tab]; omega))); (try simp only [go_sem, Nat.reduceAdd, Nat.reduceMul, Nat.reduceEqDiff, Nat.reduceLT, reduceIte, reduceCtorEq])) | (refine aStoreAll_ints (by simp only [St.ev, St.set, upd, Nat.reduceEqDiff, reduceIte, if_false, if_true]; exact rfl) ?_ ?_ ?_ ?_; (focus (first | rfl | omega | (simp; done) | (simp; omega) | (simp [szOf, tab]; done) | (simp [szOf, tab]; omega))); (focus (first | rfl | omega | (simp; done) | (simp; omega) | (simp [szOf, tab]; done) | (simp [szOf, tab]; omega))); (focus (first | rfl | omega | (simp; done) | (simp; omega) | (simp [szOf, tab]; done) | (simp [szOf, tab]; omega))); (try simp only [go_sem, Nat.reduceAdd, Nat.reduceMul, Nat.reduceEqDiff, Nat.reduceLT, reduceIte, reduceCtorEq])) | (simp only [doneH]; simp only [ressK, resK, wrapR, go_sem, Nat.reduceAdd, Nat.reduceMul, Nat.reduceEqDiff, Nat.reduceLT, reduceIte, reduceCtorEq]) | (refine aStoreAll_cells (by simp only [St.ev, St.set, upd, Nat.reduceEqDiff, reduceIte, if_false, if_true]; exact rfl) ?_ ?_ ?_ ?_ ?_; (focus (first | rfl | omega | (simp; done) | (simp; omega) | (simp [szOf, tab]; done) | (simp [szOf, tab]; omega))); (focus (first | rfl | omega | (simp; done) | (simp; omega) | (simp [szOf, tab]; done) | (simp [szOf, tab]; omega))); (focus (first | rfl | omega | (simp; done) | (simp; omega) | (simp [szOf, tab]; done) | (simp [szOf, tab]; omega))); (focus (first | rfl | (simp [AV.cell, Value.oneCell']; done))); (try simp only [go_sem, Nat.reduceAdd, Nat.reduceMul, Nat.reduceEqDiff, Nat.reduceLT, reduceIte, reduceCtorEq])) | (with_reducible refine And.intro (fun hb => ?_) (fun hb => ?_)) | (exfalso; omega) | fail)
  refine ⟨L, lim, r, rfl, hL.1, hL.2, hbs, by omega, by omega, ?_⟩
  intro w hw0 hw1
  repeat' ((fail_if_success (with_reducible refine isRet K0 ?_)); (first | refine awp_seq_k fun K hK => ?_ | ((with_reducible refine hK _ ?_); clear hK K) | (clear hK K; (with_reducible refine hK _ ?_); clear hK K) | (clear hK K; clear hK K; (with_reducible refine hK _ ?_); clear hK K) | (clear hK K; clear hK K; clear hK K; (with_reducible refine hK _ ?_); clear hK K) | (clear hK K; clear hK K; clear hK K; clear hK K; (with_reducible refine hK _ ?_); clear hK K) | (clear hK K; clear hK K; clear hK K; clear hK K; clear hK K; (with_reducible refine hK _ ?_); clear hK K) | ((with_reducible refine aord_plain fun K hK => ?_); simp only [go_sem, Nat.reduceAdd, Nat.reduceMul, Nat.reduceEqDiff, Nat.reduceLT, reduceIte, reduceCtorEq, h0, h1]) | refine awp_block ?_ | ((first | with_reducible refine aord_nil ?_ | refine awp_skip ?_ | refine awp_exit ?_ | refine awp_ret ?_); try simp only [thenA_normal, thenA_exit, thenA_goto, thenA_ret, blockA_normal, blockA_same, blockA_exit, blockA_goto, blockA_ret, Nat.reduceEqDiff, if_false, if_true, reduceIte]) | (refine awp_region tabOk rfl ?_; simp only [prep, pickO, List.map_cons, List.map_nil, List.getElem?_toArray, List.getElem?_cons_succ, List.getElem?_cons_zero, Option.bind_some, Option.map_some]) | ((with_reducible apply awp_cond); (focus (simp only [St.ev, St.set, upd, Nat.reduceEqDiff, reduceIte, if_false, if_true]; exact rfl)); all_goals (intro hb; first | (cases hb; done) | ((try rw [hb]); (try simp only [decide_eq_true_eq, decide_eq_false_iff_not, beq_iff_eq, bne_iff_ne, beq_eq_false_iff_ne, bne_eq_false_iff_eq, Int.not_lt, Int.not_le, Bool.not_eq_true', Bool.not_eq_false'] at hb)))) | ((with_reducible refine And.intro ?_ ?_); (focus omega)) | ((with_reducible refine And.intro ?_ ?_); (focus (exact rfl))) | ((with_reducible refine And.intro (?_ : enters Try.prog 72) ?_); (focus exact Try.call72); (refine callX_satH pick_sat ?_); simp only [go_sem, and_assoc, List.nil_append, List.append_nil, List.cons_append, Nat.reduceEqDiff, reduceIte, reduceCtorEq, h0, h1]) | ((with_reducible refine And.intro (?_ : enters Try.prog 73) ?_); (focus exact Try.call73); (refine callX_satH one_sat ?_); simp only [go_sem, and_assoc, List.nil_append, List.append_nil, List.cons_append, Nat.reduceEqDiff, reduceIte, reduceCtorEq, h0, h1]) | ((with_reducible refine And.intro (?_ : enters Try.prog 68) ?_); (focus exact Try.call68); (refine callX_satH goodKeys_sat ?_); simp only [go_sem, and_assoc, List.nil_append, List.append_nil, List.cons_append, Nat.reduceEqDiff, reduceIte, reduceCtorEq, h0, h1]) | ((with_reducible refine And.intro (?_ : enters Try.prog 67) ?_); (focus exact Try.call67); (refine callX_h (callH_inline tabOk Try.func67 rfl 27 rfl [.tmp 4] rfl (Nat.le_of_ble_eq_true rfl) fun m0 hm0 hcl hlt => ?_)); simp only [initT, St.ev, St.set, upd, Nat.reduceEqDiff, reduceIte, if_false, if_true]) | (refine aAppend_ints rfl rfl rfl rfl (Nat.le_of_ble_eq_true rfl) (by simp only [St.ev, St.set, upd, Nat.reduceEqDiff, reduceIte, if_false, if_true]; exact rfl) (by simp only [St.ev, St.set, upd, Nat.reduceEqDiff, reduceIte, if_false, if_true]; exact rfl) rfl (by decide) ?_ ?_ ?_ ?_; (focus (first | rfl | omega | (simp; done) | (simp; omega) | (simp [szOf, tab]; done) | (simp [szOf, tab]; omega))); (focus (first | rfl | omega | (simp; done) | (simp; omega) | (simp [szOf, tab]; done) | (simp [szOf, tab]; omega))); (focus (first | rfl | omega | (simp; done) | (simp; omega) | (simp [szOf, tab]; done) | (simp [szOf, tab]; omega))); (try simp only [go_sem, Nat.reduceAdd, Nat.reduceMul, Nat.reduceEqDiff, Nat.reduceLT, reduceIte, reduceCtorEq])) | (refine aAppend_none rfl rfl rfl rfl (Nat.le_of_ble_eq_true rfl) (by simp only [St.ev, St.set, upd, Nat.reduceEqDiff, reduceIte, if_false, if_true]; exact rfl) ?_ ?_ ?_; (focus (first | rfl | omega | (simp; done) | (simp; omega) | (simp [szOf, tab]; done) | (simp [szOf, tab]; omega))); (focus (first | rfl | omega | (simp; done) | (simp; omega) | (simp [szOf, tab]; done) | (simp [szOf, tab]; omega))); (try simp only [go_sem, Nat.reduceAdd, Nat.reduceMul, Nat.reduceEqDiff, Nat.reduceLT, reduceIte, reduceCtorEq])) | (refine aStoreAll_ints (by simp only [St.ev, St.set, upd, Nat.reduceEqDiff, reduceIte, if_false, if_true]; exact rfl) ?_ ?_ ?_ ?_; (focus (first | rfl | omega | (simp; done) | (simp; omega) | (simp [szOf, tab]; done) | (simp [szOf, tab]; omega))); (focus (first | rfl | omega | (simp; done) | (simp; omega) | (simp [szOf, tab]; done) | (simp [szOf, tab]; omega))); (focus (first | rfl | omega | (simp; done) | (simp; omega) | (simp [szOf, tab]; done) | (simp [szOf, tab]; omega))); (try simp only [go_sem, Nat.reduceAdd, Nat.reduceMul, Nat.reduceEqDiff, Nat.reduceLT, reduceIte, reduceCtorEq])) | (simp only [doneH]; simp only [ressK, resK, wrapR, go_sem, Nat.reduceAdd, Nat.reduceMul, Nat.reduceEqDiff, Nat.reduceLT, reduceIte, reduceCtorEq]) | (refine aStoreAll_cells (by simp only [St.ev, St.set, upd, Nat.reduceEqDiff, reduceIte, if_false, if_true]; exact rfl) ?_ ?_ ?_ ?_ ?_; (focus (first | rfl | omega | (simp; done) | (simp; omega) | (simp [szOf, tab]; done) | (simp [szOf, tab]; omega))); (focus (first | rfl | omega | (simp; done) | (simp; omega) | (simp [szOf, tab]; done) | (simp [szOf, tab]; omega))); (focus (first | rfl | omega | (simp; done) | (simp; omega) | (simp [szOf, tab]; done) | (simp [szOf, tab]; omega))); (focus (first | rfl | (simp [AV.cell, Value.oneCell']; done))); (try simp only [go_sem, Nat.reduceAdd, Nat.reduceMul, Nat.reduceEqDiff, Nat.reduceLT, reduceIte, reduceCtorEq])) | (with_reducible refine And.intro (fun hb => ?_) (fun hb => ?_)) | (exfalso; omega) | fail))
  all_goals try (
    refine ⟨L, lim, r + 1, rfl, hL.1, hL.2, hbs, by omega, by omega, ?_⟩
    intro x hx0 hx1)
  repeat' ((fail_if_success (with_reducible refine isRet K0 ?_)); (first | refine awp_seq_k fun K hK => ?_ | ((with_reducible refine hK _ ?_); clear hK K) | (clear hK K; (with_reducible refine hK _ ?_); clear hK K) | (clear hK K; clear hK K; (with_reducible refine hK _ ?_); clear hK K) | (clear hK K; clear hK K; clear hK K; (with_reducible refine hK _ ?_); clear hK K) | (clear hK K; clear hK K; clear hK K; clear hK K; (with_reducible refine hK _ ?_); clear hK K) | (clear hK K; clear hK K; clear hK K; clear hK K; clear hK K; (with_reducible refine hK _ ?_); clear hK K) | ((with_reducible refine aord_plain fun K hK => ?_); simp only [go_sem, Nat.reduceAdd, Nat.reduceMul, Nat.reduceEqDiff, Nat.reduceLT, reduceIte, reduceCtorEq, h0, h1]) | refine awp_block ?_ | ((first | with_reducible refine aord_nil ?_ | refine awp_skip ?_ | refine awp_exit ?_ | refine awp_ret ?_); try simp only [thenA_normal, thenA_exit, thenA_goto, thenA_ret, blockA_normal, blockA_same, blockA_exit, blockA_goto, blockA_ret, Nat.reduceEqDiff, if_false, if_true, reduceIte]) | (refine awp_region tabOk rfl ?_; simp only [prep, pickO, List.map_cons, List.map_nil, List.getElem?_toArray, List.getElem?_cons_succ, List.getElem?_cons_zero, Option.bind_some, Option.map_some]) | ((with_reducible apply awp_cond); (focus (simp only [St.ev, St.set, upd, Nat.reduceEqDiff, reduceIte, if_false, if_true]; exact rfl)); all_goals (intro hb; first | (cases hb; done) | ((try rw [hb]); (try simp only [decide_eq_true_eq, decide_eq_false_iff_not, beq_iff_eq, bne_iff_ne, beq_eq_false_iff_ne, bne_eq_false_iff_eq, Int.not_lt, Int.not_le, Bool.not_eq_true', Bool.not_eq_false'] at hb)))) | ((with_reducible refine And.intro ?_ ?_); (focus omega)) | ((with_reducible refine And.intro ?_ ?_); (focus (exact rfl))) | ((with_reducible refine And.intro (?_ : enters Try.prog 72) ?_); (focus exact Try.call72); (refine callX_satH pick_sat ?_); simp only [go_sem, and_assoc, List.nil_append, List.append_nil, List.cons_append, Nat.reduceEqDiff, reduceIte, reduceCtorEq, h0, h1]) | ((with_reducible refine And.intro (?_ : enters Try.prog 73) ?_); (focus exact Try.call73); (refine callX_satH one_sat ?_); simp only [go_sem, and_assoc, List.nil_append, List.append_nil, List.cons_append, Nat.reduceEqDiff, reduceIte, reduceCtorEq, h0, h1]) | ((with_reducible refine And.intro (?_ : enters Try.prog 68) ?_); (focus exact Try.call68); (refine callX_satH goodKeys_sat ?_); simp only [go_sem, and_assoc, List.nil_append, List.append_nil, List.cons_append, Nat.reduceEqDiff, reduceIte, reduceCtorEq, h0, h1]) | ((with_reducible refine And.intro (?_ : enters Try.prog 67) ?_); (focus exact Try.call67); (refine callX_h (callH_inline tabOk Try.func67 rfl 27 rfl [.tmp 4] rfl (Nat.le_of_ble_eq_true rfl) fun m0 hm0 hcl hlt => ?_)); simp only [initT, St.ev, St.set, upd, Nat.reduceEqDiff, reduceIte, if_false, if_true]) | (refine aAppend_ints rfl rfl rfl rfl (Nat.le_of_ble_eq_true rfl) (by simp only [St.ev, St.set, upd, Nat.reduceEqDiff, reduceIte, if_false, if_true]; exact rfl) (by simp only [St.ev, St.set, upd, Nat.reduceEqDiff, reduceIte, if_false, if_true]; exact rfl) rfl (by decide) ?_ ?_ ?_ ?_; (focus (first | rfl | omega | (simp; done) | (simp; omega) | (simp [szOf, tab]; done) | (simp [szOf, tab]; omega))); (focus (first | rfl | omega | (simp; done) | (simp; omega) | (simp [szOf, tab]; done) | (simp [szOf, tab]; omega))); (focus (first | rfl | omega | (simp; done) | (simp; omega) | (simp [szOf, tab]; done) | (simp [szOf, tab]; omega))); (try simp only [go_sem, Nat.reduceAdd, Nat.reduceMul, Nat.reduceEqDiff, Nat.reduceLT, reduceIte, reduceCtorEq])) | (refine aAppend_none rfl rfl rfl rfl (Nat.le_of_ble_eq_true rfl) (by simp only [St.ev, St.set, upd, Nat.reduceEqDiff, reduceIte, if_false, if_true]; exact rfl) ?_ ?_ ?_; (focus (first | rfl | omega | (simp; done) | (simp; omega) | (simp [szOf, tab]; done) | (simp [szOf, tab]; omega))); (focus (first | rfl | omega | (simp; done) | (simp; omega) | (simp [szOf, tab]; done) | (simp [szOf, tab]; omega))); (try simp only [go_sem, Nat.reduceAdd, Nat.reduceMul, Nat.reduceEqDiff, Nat.reduceLT, reduceIte, reduceCtorEq])) | (refine aStoreAll_ints (by simp only [St.ev, St.set, upd, Nat.reduceEqDiff, reduceIte, if_false, if_true]; exact rfl) ?_ ?_ ?_ ?_; (focus (first | rfl | omega | (simp; done) | (simp; omega) | (simp [szOf, tab]; done) | (simp [szOf, tab]; omega))); (focus (first | rfl | omega | (simp; done) | (simp; omega) | (simp [szOf, tab]; done) | (simp [szOf, tab]; omega))); (focus (first | rfl | omega | (simp; done) | (simp; omega) | (simp [szOf, tab]; done) | (simp [szOf, tab]; omega))); (try simp only [go_sem, Nat.reduceAdd, Nat.reduceMul, Nat.reduceEqDiff, Nat.reduceLT, reduceIte, reduceCtorEq])) | (simp only [doneH]; simp only [ressK, resK, wrapR, go_sem, Nat.reduceAdd, Nat.reduceMul, Nat.reduceEqDiff, Nat.reduceLT, reduceIte, reduceCtorEq]) | (refine aStoreAll_cells (by simp only [St.ev, St.set, upd, Nat.reduceEqDiff, reduceIte, if_false, if_true]; exact rfl) ?_ ?_ ?_ ?_ ?_; (focus (first | rfl | omega | (simp; done) | (simp; omega) | (simp [szOf, tab]; done) | (simp [szOf, tab]; omega))); (focus (first | rfl | omega | (simp; done) | (simp; omega) | (simp [szOf, tab]; done) | (simp [szOf, tab]; omega))); (focus (first | rfl | omega | (simp; done) | (simp; omega) | (simp [szOf, tab]; done) | (simp [szOf, tab]; omega))); (focus (first | rfl | (simp [AV.cell, Value.oneCell']; done))); (try simp only [go_sem, Nat.reduceAdd, Nat.reduceMul, Nat.reduceEqDiff, Nat.reduceLT, reduceIte, reduceCtorEq])) | (with_reducible refine And.intro (fun hb => ?_) (fun hb => ?_)) | (exfalso; omega) | fail))
  all_goals try (
    refine ⟨L, lim, _, r + 2, rfl, hL.1, hL.2, hbs, rfl, rfl, by omega, by omega, by omega, ?_⟩
    intro v hv
    generalize ([100, -100, 4611686018427387904, 99, -99] : List Int).getD v 0 = kk)
  repeat' ((fail_if_success (with_reducible refine isRet K0 ?_)); (first | refine awp_seq_k fun K hK => ?_ | ((with_reducible refine hK _ ?_); clear hK K) | (clear hK K; (with_reducible refine hK _ ?_); clear hK K) | (clear hK K; clear hK K; (with_reducible refine hK _ ?_); clear hK K) | (clear hK K; clear hK K; clear hK K; (with_reducible refine hK _ ?_); clear hK K) | (clear hK K; clear hK K; clear hK K; clear hK K; (with_reducible refine hK _ ?_); clear hK K) | (clear hK K; clear hK K; clear hK K; clear hK K; clear hK K; (with_reducible refine hK _ ?_); clear hK K) | ((with_reducible refine aord_plain fun K hK => ?_); simp only [go_sem, Nat.reduceAdd, Nat.reduceMul, Nat.reduceEqDiff, Nat.reduceLT, reduceIte, reduceCtorEq, h0, h1]) | refine awp_block ?_ | ((first | with_reducible refine aord_nil ?_ | refine awp_skip ?_ | refine awp_exit ?_ | refine awp_ret ?_); try simp only [thenA_normal, thenA_exit, thenA_goto, thenA_ret, blockA_normal, blockA_same, blockA_exit, blockA_goto, blockA_ret, Nat.reduceEqDiff, if_false, if_true, reduceIte]) | (refine awp_region tabOk rfl ?_; simp only [prep, pickO, List.map_cons, List.map_nil, List.getElem?_toArray, List.getElem?_cons_succ, List.getElem?_cons_zero, Option.bind_some, Option.map_some]) | ((with_reducible apply awp_cond); (focus (simp only [St.ev, St.set, upd, Nat.reduceEqDiff, reduceIte, if_false, if_true]; exact rfl)); all_goals (intro hb; first | (cases hb; done) | ((try rw [hb]); (try simp only [decide_eq_true_eq, decide_eq_false_iff_not, beq_iff_eq, bne_iff_ne, beq_eq_false_iff_ne, bne_eq_false_iff_eq, Int.not_lt, Int.not_le, Bool.not_eq_true', Bool.not_eq_false'] at hb)))) | ((with_reducible refine And.intro ?_ ?_); (focus omega)) | ((with_reducible refine And.intro ?_ ?_); (focus (exact rfl))) | ((with_reducible refine And.intro (?_ : enters Try.prog 72) ?_); (focus exact Try.call72); (refine callX_satH pick_sat ?_); simp only [go_sem, and_assoc, List.nil_append, List.append_nil, List.cons_append, Nat.reduceEqDiff, reduceIte, reduceCtorEq, h0, h1]) | ((with_reducible refine And.intro (?_ : enters Try.prog 73) ?_); (focus exact Try.call73); (refine callX_satH one_sat ?_); simp only [go_sem, and_assoc, List.nil_append, List.append_nil, List.cons_append, Nat.reduceEqDiff, reduceIte, reduceCtorEq, h0, h1]) | ((with_reducible refine And.intro (?_ : enters Try.prog 68) ?_); (focus exact Try.call68); (refine callX_satH goodKeys_sat ?_); simp only [go_sem, and_assoc, List.nil_append, List.append_nil, List.cons_append, Nat.reduceEqDiff, reduceIte, reduceCtorEq, h0, h1]) | ((with_reducible refine And.intro (?_ : enters Try.prog 67) ?_); (focus exact Try.call67); (refine callX_h (callH_inline tabOk Try.func67 rfl 27 rfl [.tmp 4] rfl (Nat.le_of_ble_eq_true rfl) fun m0 hm0 hcl hlt => ?_)); simp only [initT, St.ev, St.set, upd, Nat.reduceEqDiff, reduceIte, if_false, if_true]) | (refine aAppend_ints rfl rfl rfl rfl (Nat.le_of_ble_eq_true rfl) (by simp only [St.ev, St.set, upd, Nat.reduceEqDiff, reduceIte, if_false, if_true]; exact rfl) (by simp only [St.ev, St.set, upd, Nat.reduceEqDiff, reduceIte, if_false, if_true]; exact rfl) rfl (by decide) ?_ ?_ ?_ ?_; (focus (first | rfl | omega | (simp; done) | (simp; omega) | (simp [szOf, tab]; done) | (simp [szOf, tab]; omega))); (focus (first | rfl | omega | (simp; done) | (simp; omega) | (simp [szOf, tab]; done) | (simp [szOf, tab]; omega))); (focus (first | rfl | omega | (simp; done) | (simp; omega) | (simp [szOf, tab]; done) | (simp [szOf, tab]; omega))); (try simp only [go_sem, Nat.reduceAdd, Nat.reduceMul, Nat.reduceEqDiff, Nat.reduceLT, reduceIte, reduceCtorEq])) | (refine aAppend_none rfl rfl rfl rfl (Nat.le_of_ble_eq_true rfl) (by simp only [St.ev, St.set, upd, Nat.reduceEqDiff, reduceIte, if_false, if_true]; exact rfl) ?_ ?_ ?_; (focus (first | rfl | omega | (simp; done) | (simp; omega) | (simp [szOf, tab]; done) | (simp [szOf, tab]; omega))); (focus (first | rfl | omega | (simp; done) | (simp; omega) | (simp [szOf, tab]; done) | (simp [szOf, tab]; omega))); (try simp only [go_sem, Nat.reduceAdd, Nat.reduceMul, Nat.reduceEqDiff, Nat.reduceLT, reduceIte, reduceCtorEq])) | (refine aStoreAll_ints (by simp only [St.ev, St.set, upd, Nat.reduceEqDiff, reduceIte, if_false, if_true]; exact rfl) ?_ ?_ ?_ ?_; (focus (first | rfl | omega | (simp; done) | (simp; omega) | (simp [szOf, tab]; done) | (simp [szOf, tab]; omega))); (focus (first | rfl | omega | (simp; done) | (simp; omega) | (simp [szOf, tab]; done) | (simp [szOf, tab]; omega))); (focus (first | rfl | omega | (simp; done) | (simp; omega) | (simp [szOf, tab]; done) | (simp [szOf, tab]; omega))); (try simp only [go_sem, Nat.reduceAdd, Nat.reduceMul, Nat.reduceEqDiff, Nat.reduceLT, reduceIte, reduceCtorEq])) | (simp only [doneH]; simp only [ressK, resK, wrapR, go_sem, Nat.reduceAdd, Nat.reduceMul, Nat.reduceEqDiff, Nat.reduceLT, reduceIte, reduceCtorEq]) | (refine aStoreAll_cells (by simp only [St.ev, St.set, upd, Nat.reduceEqDiff, reduceIte, if_false, if_true]; exact rfl) ?_ ?_ ?_ ?_ ?_; (focus (first | rfl | omega | (simp; done) | (simp; omega) | (simp [szOf, tab]; done) | (simp [szOf, tab]; omega))); (focus (first | rfl | omega | (simp; done) | (simp; omega) | (simp [szOf, tab]; done) | (simp [szOf, tab]; omega))); (focus (first | rfl | omega | (simp; done) | (simp; omega) | (simp [szOf, tab]; done) | (simp [szOf, tab]; omega))); (focus (first | rfl | (simp [AV.cell, Value.oneCell']; done))); (try simp only [go_sem, Nat.reduceAdd, Nat.reduceMul, Nat.reduceEqDiff, Nat.reduceLT, reduceIte, reduceCtorEq])) | (with_reducible refine And.intro (fun hb => ?_) (fun hb => ?_)) | (exfalso; omega) | fail))
  all_goals have hcl := hclO
  · refine awp_weaken (s' := ⟨upd bot 2 (.sl 2 0 (ks.set x.toNat kk).length 1 none), upd (upd h 1 (some ⟨true, .cells [.sl 0 0 L 1 lim, .val (.int .i64 ((r + 3 : Nat) : Int))]⟩)) 2 (some ⟨true, .ints .i64 (ks.set x.toNat kk)⟩), 3⟩) ?_ ?_
    · (apply Wk.over (id) 2; (case' h2 => (focus ((repeat' (first | (with_reducible exact HeapX.bot) | (exact HeapX.base hcl (by first | exact Nat.le_refl _ | omega | (simp only; omega)) (fun k hk => by first | rfl | (simp only [id]; done) | (rw [if_neg (by omega)])) (by intro u hu hlt'; first | rfl | (simp only [List.mem_cons, List.not_mem_nil, or_false, not_or] at hu; first | (simp [upd, hu]; done) | (simp only [upd]; (repeat rw [if_neg (by omega)]))))) | (with_reducible (apply HeapX.skip; (case hx => (simp; done)))) | (with_reducible apply HeapX.none) | (with_reducible apply HeapX.old (by first | assumption | omega) (by first | exact Nat.le_refl _ | omega | (simp only; omega)) (by first | rfl | (simp only [id]; done) | (rw [if_neg (by omega)]))) | (with_reducible apply HeapX.upd))); all_goals (first | rfl | omega | assumption | exact Nat.le_of_ble_eq_true rfl | (simp only [St.set, St.ev, upd, ren, renL, id, Nat.reduceEqDiff, reduceIte]; rfl) | (simp only [St.set, St.ev, upd, ren, renL, id, Nat.reduceEqDiff, reduceIte, ContLe]; done) | (first | (simp only [St.set, St.ev, upd, ren, renL, id, Nat.reduceEqDiff, reduceIte]; exact contLe_nil) | ((repeat' (first | exact contLe_nil | refine contLe_cons (.inr ⟨?_, rfl⟩) ?_)); all_goals (first | rfl | (simp only [St.set, St.ev, upd, ren, renL, id, Nat.reduceEqDiff, reduceIte]; done) | ((try simp only [St.set, St.ev, upd, ren, renL, id, Nat.reduceEqDiff, reduceIte]); first | (with_reducible exact av_int (by omega)) | (with_reducible exact av_sl (by first | omega | (simp; done) | (simp; omega)) (by first | omega | (simp; done) | (simp; omega)))) | (simp only [St.set, St.ev, upd, ren, renL, id, Nat.reduceEqDiff, reduceIte, Int.natCast_add, Int.natCast_one, Int.cast_ofNat_Int, Int.natCast_zero]; done) | (simp only [St.set, St.ev, upd, ren, renL, id, Nat.reduceEqDiff, reduceIte]) | skip); done)) | (simp only [St.set, St.ev, upd, ren, renL, id, Nat.reduceEqDiff, reduceIte, ContLe]) | skip)))); (case' h1 => (focus ((repeat' (with_reducible first | exact TmpLe.bot | refine TmpLe.upd ?_ (by first | rfl | (simp only [AV.lt, decide_eq_true_eq]; first | done | omega)) ?_)); all_goals (first | rfl | (simp only [St.set, St.ev, upd, ren, renL, id, Nat.reduceEqDiff, reduceIte]; done) | ((try simp only [St.set, St.ev, upd, ren, renL, id, Nat.reduceEqDiff, reduceIte]); first | (with_reducible exact av_int (by omega)) | (with_reducible exact av_sl (by first | omega | (simp; done) | (simp; omega)) (by first | omega | (simp; done) | (simp; omega)))) | (simp only [St.set, St.ev, upd, ren, renL, id, Nat.reduceEqDiff, reduceIte, Int.natCast_add, Int.natCast_one, Int.cast_ofNat_Int, Int.natCast_zero]; done) | (simp only [St.set, St.ev, upd, ren, renL, id, Nat.reduceEqDiff, reduceIte]) | skip)))); (case h3 => (focus (first | (simp only [id, List.map_cons, List.map_nil]; decide) | decide))); (case h5 => (intro d hd; first | (simp at hd; done) | (simp only [List.mem_cons, List.not_mem_nil, or_false] at hd; first | (simp only [id]; omega) | (split <;> omega) | ((try simp only); repeat' split; all_goals omega)))); (case h4 => (intro o l h; first | (cases h; done) | (have hlt0 := m0_lt (by assumption) h; first | omega | (simp only; omega) | exact ⟨by (first | rfl | (simp only [id]; done) | (rw [if_neg (by omega)])), by first | omega | (simp only; omega)⟩))))
    repeat' (first | refine awp_seq_k fun K hK => ?_ | ((with_reducible refine hK _ ?_); clear hK K) | (clear hK K; (with_reducible refine hK _ ?_); clear hK K) | (clear hK K; clear hK K; (with_reducible refine hK _ ?_); clear hK K) | (clear hK K; clear hK K; clear hK K; (with_reducible refine hK _ ?_); clear hK K) | (clear hK K; clear hK K; clear hK K; clear hK K; (with_reducible refine hK _ ?_); clear hK K) | (clear hK K; clear hK K; clear hK K; clear hK K; clear hK K; (with_reducible refine hK _ ?_); clear hK K) | ((with_reducible refine aord_plain fun K hK => ?_); simp only [go_sem, Nat.reduceAdd, Nat.reduceMul, Nat.reduceEqDiff, Nat.reduceLT, reduceIte, reduceCtorEq, h0, h1]) | refine awp_block ?_ | ((first | with_reducible refine aord_nil ?_ | refine awp_skip ?_ | refine awp_exit ?_ | refine awp_ret ?_); try simp only [thenA_normal, thenA_exit, thenA_goto, thenA_ret, blockA_normal, blockA_same, blockA_exit, blockA_goto, blockA_ret, Nat.reduceEqDiff, if_false, if_true, reduceIte]) | (refine awp_region tabOk rfl ?_; simp only [prep, pickO, List.map_cons, List.map_nil, List.getElem?_toArray, List.getElem?_cons_succ, List.getElem?_cons_zero, Option.bind_some, Option.map_some]) | ((with_reducible apply awp_cond); (focus (simp only [St.ev, St.set, upd, Nat.reduceEqDiff, reduceIte, if_false, if_true]; exact rfl)); all_goals (intro hb; first | (cases hb; done) | ((try rw [hb]); (try simp only [decide_eq_true_eq, decide_eq_false_iff_not, beq_iff_eq, bne_iff_ne, beq_eq_false_iff_ne, bne_eq_false_iff_eq, Int.not_lt, Int.not_le, Bool.not_eq_true', Bool.not_eq_false'] at hb)))) | ((with_reducible refine And.intro ?_ ?_); (focus omega)) | ((with_reducible refine And.intro ?_ ?_); (focus (exact rfl))) | ((with_reducible refine And.intro (?_ : enters Try.prog 72) ?_); (focus exact Try.call72); (refine callX_satH pick_sat ?_); simp only [go_sem, and_assoc, List.nil_append, List.append_nil, List.cons_append, Nat.reduceEqDiff, reduceIte, reduceCtorEq, h0, h1]) | ((with_reducible refine And.intro (?_ : enters Try.prog 73) ?_); (focus exact Try.call73); (refine callX_satH one_sat ?_); simp only [go_sem, and_assoc, List.nil_append, List.append_nil, List.cons_append, Nat.reduceEqDiff, reduceIte, reduceCtorEq, h0, h1]) | ((with_reducible refine And.intro (?_ : enters Try.prog 68) ?_); (focus exact Try.call68); (refine callX_satH goodKeys_sat ?_); simp only [go_sem, and_assoc, List.nil_append, List.append_nil, List.cons_append, Nat.reduceEqDiff, reduceIte, reduceCtorEq, h0, h1]) | ((with_reducible refine And.intro (?_ : enters Try.prog 67) ?_); (focus exact Try.call67); (refine callX_h (callH_inline tabOk Try.func67 rfl 27 rfl [.tmp 4] rfl (Nat.le_of_ble_eq_true rfl) fun m0 hm0 hcl hlt => ?_)); simp only [initT, St.ev, St.set, upd, Nat.reduceEqDiff, reduceIte, if_false, if_true]) | (refine aAppend_ints rfl rfl rfl rfl (Nat.le_of_ble_eq_true rfl) (by simp only [St.ev, St.set, upd, Nat.reduceEqDiff, reduceIte, if_false, if_true]; exact rfl) (by simp only [St.ev, St.set, upd, Nat.reduceEqDiff, reduceIte, if_false, if_true]; exact rfl) rfl (by decide) ?_ ?_ ?_ ?_; (focus (first | rfl | omega | (simp; done) | (simp; omega) | (simp [szOf, tab]; done) | (simp [szOf, tab]; omega))); (focus (first | rfl | omega | (simp; done) | (simp; omega) | (simp [szOf, tab]; done) | (simp [szOf, tab]; omega))); (focus (first | rfl | omega | (simp; done) | (simp; omega) | (simp [szOf, tab]; done) | (simp [szOf, tab]; omega))); (try simp only [go_sem, Nat.reduceAdd, Nat.reduceMul, Nat.reduceEqDiff, Nat.reduceLT, reduceIte, reduceCtorEq])) | (refine aAppend_none rfl rfl rfl rfl (Nat.le_of_ble_eq_true rfl) (by simp only [St.ev, St.set, upd, Nat.reduceEqDiff, reduceIte, if_false, if_true]; exact rfl) ?_ ?_ ?_; (focus (first | rfl | omega | (simp; done) | (simp; omega) | (simp [szOf, tab]; done) | (simp [szOf, tab]; omega))); (focus (first | rfl | omega | (simp; done) | (simp; omega) | (simp [szOf, tab]; done) | (simp [szOf, tab]; omega))); (try simp only [go_sem, Nat.reduceAdd, Nat.reduceMul, Nat.reduceEqDiff, Nat.reduceLT, reduceIte, reduceCtorEq])) | (refine aStoreAll_ints (by simp only [St.ev, St.set, upd, Nat.reduceEqDiff, reduceIte, if_false, if_true]; exact rfl) ?_ ?_ ?_ ?_; (focus (first | rfl | omega | (simp; done) | (simp; omega) | (simp [szOf, tab]; done) | (simp [szOf, tab]; omega))); (focus (first | rfl | omega | (simp; done) | (simp; omega) | (simp [szOf, tab]; done) | (simp [szOf, tab]; omega))); (focus (first | rfl | omega | (simp; done) | (simp; omega) | (simp [szOf, tab]; done) | (simp [szOf, tab]; omega))); (try simp only [go_sem, Nat.reduceAdd, Nat.reduceMul, Nat.reduceEqDiff, Nat.reduceLT, reduceIte, reduceCtorEq])) | (simp only [doneH]; simp only [ressK, resK, wrapR, go_sem, Nat.reduceAdd, Nat.reduceMul, Nat.reduceEqDiff, Nat.reduceLT, reduceIte, reduceCtorEq]) | (refine aStoreAll_cells (by simp only [St.ev, St.set, upd, Nat.reduceEqDiff, reduceIte, if_false, if_true]; exact rfl) ?_ ?_ ?_ ?_ ?_; (focus (first | rfl | omega | (simp; done) | (simp; omega) | (simp [szOf, tab]; done) | (simp [szOf, tab]; omega))); (focus (first | rfl | omega | (simp; done) | (simp; omega) | (simp [szOf, tab]; done) | (simp [szOf, tab]; omega))); (focus (first | rfl | omega | (simp; done) | (simp; omega) | (simp [szOf, tab]; done) | (simp [szOf, tab]; omega))); (focus (first | rfl | (simp [AV.cell, Value.oneCell']; done))); (try simp only [go_sem, Nat.reduceAdd, Nat.reduceMul, Nat.reduceEqDiff, Nat.reduceLT, reduceIte, reduceCtorEq])) | (with_reducible refine And.intro (fun hb => ?_) (fun hb => ?_)) | (exfalso; omega) | fail)
    have h9 := hQ (ks.set x.toNat kk) (r + 3) (by simp; omega) (by omega)
    simp only [List.length_set] at h9 ⊢
    exact h9
  · refine awp_weaken (s' := ⟨upd bot 2 (.sl 2 0 ks.length 1 none), upd (upd h 1 (some ⟨true, .cells [.sl 0 0 L 1 lim, .val (.int .i64 ((r + 1 : Nat) : Int))]⟩)) 2 (some ⟨true, .ints .i64 ks⟩), 3⟩) ?_ ?_
    · (apply Wk.over (id) 2; (case' h2 => (focus ((repeat' (first | (with_reducible exact HeapX.bot) | (exact HeapX.base hcl (by first | exact Nat.le_refl _ | omega | (simp only; omega)) (fun k hk => by first | rfl | (simp only [id]; done) | (rw [if_neg (by omega)])) (by intro u hu hlt'; first | rfl | (simp only [List.mem_cons, List.not_mem_nil, or_false, not_or] at hu; first | (simp [upd, hu]; done) | (simp only [upd]; (repeat rw [if_neg (by omega)]))))) | (with_reducible (apply HeapX.skip; (case hx => (simp; done)))) | (with_reducible apply HeapX.none) | (with_reducible apply HeapX.old (by first | assumption | omega) (by first | exact Nat.le_refl _ | omega | (simp only; omega)) (by first | rfl | (simp only [id]; done) | (rw [if_neg (by omega)]))) | (with_reducible apply HeapX.upd))); all_goals (first | rfl | omega | assumption | exact Nat.le_of_ble_eq_true rfl | (simp only [St.set, St.ev, upd, ren, renL, id, Nat.reduceEqDiff, reduceIte]; rfl) | (simp only [St.set, St.ev, upd, ren, renL, id, Nat.reduceEqDiff, reduceIte, ContLe]; done) | (first | (simp only [St.set, St.ev, upd, ren, renL, id, Nat.reduceEqDiff, reduceIte]; exact contLe_nil) | ((repeat' (first | exact contLe_nil | refine contLe_cons (.inr ⟨?_, rfl⟩) ?_)); all_goals (first | rfl | (simp only [St.set, St.ev, upd, ren, renL, id, Nat.reduceEqDiff, reduceIte]; done) | ((try simp only [St.set, St.ev, upd, ren, renL, id, Nat.reduceEqDiff, reduceIte]); first | (with_reducible exact av_int (by omega)) | (with_reducible exact av_sl (by first | omega | (simp; done) | (simp; omega)) (by first | omega | (simp; done) | (simp; omega)))) | (simp only [St.set, St.ev, upd, ren, renL, id, Nat.reduceEqDiff, reduceIte, Int.natCast_add, Int.natCast_one, Int.cast_ofNat_Int, Int.natCast_zero]; done) | (simp only [St.set, St.ev, upd, ren, renL, id, Nat.reduceEqDiff, reduceIte]) | skip); done)) | (simp only [St.set, St.ev, upd, ren, renL, id, Nat.reduceEqDiff, reduceIte, ContLe]) | skip)))); (case' h1 => (focus ((repeat' (with_reducible first | exact TmpLe.bot | refine TmpLe.upd ?_ (by first | rfl | (simp only [AV.lt, decide_eq_true_eq]; first | done | omega)) ?_)); all_goals (first | rfl | (simp only [St.set, St.ev, upd, ren, renL, id, Nat.reduceEqDiff, reduceIte]; done) | ((try simp only [St.set, St.ev, upd, ren, renL, id, Nat.reduceEqDiff, reduceIte]); first | (with_reducible exact av_int (by omega)) | (with_reducible exact av_sl (by first | omega | (simp; done) | (simp; omega)) (by first | omega | (simp; done) | (simp; omega)))) | (simp only [St.set, St.ev, upd, ren, renL, id, Nat.reduceEqDiff, reduceIte, Int.natCast_add, Int.natCast_one, Int.cast_ofNat_Int, Int.natCast_zero]; done) | (simp only [St.set, St.ev, upd, ren, renL, id, Nat.reduceEqDiff, reduceIte]) | skip)))); (case h3 => (focus (first | (simp only [id, List.map_cons, List.map_nil]; decide) | decide))); (case h5 => (intro d hd; first | (simp at hd; done) | (simp only [List.mem_cons, List.not_mem_nil, or_false] at hd; first | (simp only [id]; omega) | (split <;> omega) | ((try simp only); repeat' split; all_goals omega)))); (case h4 => (intro o l h; first | (cases h; done) | (have hlt0 := m0_lt (by assumption) h; first | omega | (simp only; omega) | exact ⟨by (first | rfl | (simp only [id]; done) | (rw [if_neg (by omega)])), by first | omega | (simp only; omega)⟩))))
    repeat' (first | refine awp_seq_k fun K hK => ?_ | ((with_reducible refine hK _ ?_); clear hK K) | (clear hK K; (with_reducible refine hK _ ?_); clear hK K) | (clear hK K; clear hK K; (with_reducible refine hK _ ?_); clear hK K) | (clear hK K; clear hK K; clear hK K; (with_reducible refine hK _ ?_); clear hK K) | (clear hK K; clear hK K; clear hK K; clear hK K; (with_reducible refine hK _ ?_); clear hK K) | (clear hK K; clear hK K; clear hK K; clear hK K; clear hK K; (with_reducible refine hK _ ?_); clear hK K) | ((with_reducible refine aord_plain fun K hK => ?_); simp only [go_sem, Nat.reduceAdd, Nat.reduceMul, Nat.reduceEqDiff, Nat.reduceLT, reduceIte, reduceCtorEq, h0, h1]) | refine awp_block ?_ | ((first | with_reducible refine aord_nil ?_ | refine awp_skip ?_ | refine awp_exit ?_ | refine awp_ret ?_); try simp only [thenA_normal, thenA_exit, thenA_goto, thenA_ret, blockA_normal, blockA_same, blockA_exit, blockA_goto, blockA_ret, Nat.reduceEqDiff, if_false, if_true, reduceIte]) | (refine awp_region tabOk rfl ?_; simp only [prep, pickO, List.map_cons, List.map_nil, List.getElem?_toArray, List.getElem?_cons_succ, List.getElem?_cons_zero, Option.bind_some, Option.map_some]) | ((with_reducible apply awp_cond); (focus (simp only [St.ev, St.set, upd, Nat.reduceEqDiff, reduceIte, if_false, if_true]; exact rfl)); all_goals (intro hb; first | (cases hb; done) | ((try rw [hb]); (try simp only [decide_eq_true_eq, decide_eq_false_iff_not, beq_iff_eq, bne_iff_ne, beq_eq_false_iff_ne, bne_eq_false_iff_eq, Int.not_lt, Int.not_le, Bool.not_eq_true', Bool.not_eq_false'] at hb)))) | ((with_reducible refine And.intro ?_ ?_); (focus omega)) | ((with_reducible refine And.intro ?_ ?_); (focus (exact rfl))) | ((with_reducible refine And.intro (?_ : enters Try.prog 72) ?_); (focus exact Try.call72); (refine callX_satH pick_sat ?_); simp only [go_sem, and_assoc, List.nil_append, List.append_nil, List.cons_append, Nat.reduceEqDiff, reduceIte, reduceCtorEq, h0, h1]) | ((with_reducible refine And.intro (?_ : enters Try.prog 73) ?_); (focus exact Try.call73); (refine callX_satH one_sat ?_); simp only [go_sem, and_assoc, List.nil_append, List.append_nil, List.cons_append, Nat.reduceEqDiff, reduceIte, reduceCtorEq, h0, h1]) | ((with_reducible refine And.intro (?_ : enters Try.prog 68) ?_); (focus exact Try.call68); (refine callX_satH goodKeys_sat ?_); simp only [go_sem, and_assoc, List.nil_append, List.append_nil, List.cons_append, Nat.reduceEqDiff, reduceIte, reduceCtorEq, h0, h1]) | ((with_reducible refine And.intro (?_ : enters Try.prog 67) ?_); (focus exact Try.call67); (refine callX_h (callH_inline tabOk Try.func67 rfl 27 rfl [.tmp 4] rfl (Nat.le_of_ble_eq_true rfl) fun m0 hm0 hcl hlt => ?_)); simp only [initT, St.ev, St.set, upd, Nat.reduceEqDiff, reduceIte, if_false, if_true]) | (refine aAppend_ints rfl rfl rfl rfl (Nat.le_of_ble_eq_true rfl) (by simp only [St.ev, St.set, upd, Nat.reduceEqDiff, reduceIte, if_false, if_true]; exact rfl) (by simp only [St.ev, St.set, upd, Nat.reduceEqDiff, reduceIte, if_false, if_true]; exact rfl) rfl (by decide) ?_ ?_ ?_ ?_; (focus (first | rfl | omega | (simp; done) | (simp; omega) | (simp [szOf, tab]; done) | (simp [szOf, tab]; omega))); (focus (first | rfl | omega | (simp; done) | (simp; omega) | (simp [szOf, tab]; done) | (simp [szOf, tab]; omega))); (focus (first | rfl | omega | (simp; done) | (simp; omega) | (simp [szOf, tab]; done) | (simp [szOf, tab]; omega))); (try simp only [go_sem, Nat.reduceAdd, Nat.reduceMul, Nat.reduceEqDiff, Nat.reduceLT, reduceIte, reduceCtorEq])) | (refine aAppend_none rfl rfl rfl rfl (Nat.le_of_ble_eq_true rfl) (by simp only [St.ev, St.set, upd, Nat.reduceEqDiff, reduceIte, if_false, if_true]; exact rfl) ?_ ?_ ?_; (focus (first | rfl | omega | (simp; done) | (simp; omega) | (simp [szOf, tab]; done) | (simp [szOf, tab]; omega))); (focus (first | rfl | omega | (simp; done) | (simp; omega) | (simp [szOf, tab]; done) | (simp [szOf, tab]; omega))); (try simp only [go_sem, Nat.reduceAdd, Nat.reduceMul, Nat.reduceEqDiff, Nat.reduceLT, reduceIte, reduceCtorEq])) | (refine aStoreAll_ints (by simp only [St.ev, St.set, upd, Nat.reduceEqDiff, reduceIte, if_false, if_true]; exact rfl) ?_ ?_ ?_ ?_; (focus (first | rfl | omega | (simp; done) | (simp; omega) | (simp [szOf, tab]; done) | (simp [szOf, tab]; omega))); (focus (first | rfl | omega | (simp; done) | (simp; omega) | (simp [szOf, tab]; done) | (simp [szOf, tab]; omega))); (focus (first | rfl | omega | (simp; done) | (simp; omega) | (simp [szOf, tab]; done) | (simp [szOf, tab]; omega))); (try simp only [go_sem, Nat.reduceAdd, Nat.reduceMul, Nat.reduceEqDiff, Nat.reduceLT, reduceIte, reduceCtorEq])) | (simp only [doneH]; simp only [ressK, resK, wrapR, go_sem, Nat.reduceAdd, Nat.reduceMul, Nat.reduceEqDiff, Nat.reduceLT, reduceIte, reduceCtorEq]) | (refine aStoreAll_cells (by simp only [St.ev, St.set, upd, Nat.reduceEqDiff, reduceIte, if_false, if_true]; exact rfl) ?_ ?_ ?_ ?_ ?_; (focus (first | rfl | omega | (simp; done) | (simp; omega) | (simp [szOf, tab]; done) | (simp [szOf, tab]; omega))); (focus (first | rfl | omega | (simp; done) | (simp; omega) | (simp [szOf, tab]; done) | (simp [szOf, tab]; omega))); (focus (first | rfl | omega | (simp; done) | (simp; omega) | (simp [szOf, tab]; done) | (simp [szOf, tab]; omega))); (focus (first | rfl | (simp [AV.cell, Value.oneCell']; done))); (try simp only [go_sem, Nat.reduceAdd, Nat.reduceMul, Nat.reduceEqDiff, Nat.reduceLT, reduceIte, reduceCtorEq])) | (with_reducible refine And.intro (fun hb => ?_) (fun hb => ?_)) | (exfalso; omega) | fail)
    exact hQ ks (r + 1) (by omega) (by omega)
  · refine awp_weaken (s' := ⟨upd bot 2 (.sl 2 0 (ks ++ [1, 2, 3, 4, 5, 6, 7, 8, 9]).length 1 none), upd (upd h 1 (some ⟨true, .cells [.sl 0 0 L 1 lim, .val (.int .i64 ((r + 1 : Nat) : Int))]⟩)) 2 (some ⟨true, .ints .i64 (ks ++ [1, 2, 3, 4, 5, 6, 7, 8, 9])⟩), 3⟩) ?_ ?_
    · (apply Wk.over (fun o => if o = 2 then 4 else o) 2; (case' h2 => (focus ((repeat' (first | (with_reducible exact HeapX.bot) | (exact HeapX.base hcl (by first | exact Nat.le_refl _ | omega | (simp only; omega)) (fun k hk => by first | rfl | (simp only [id]; done) | (rw [if_neg (by omega)])) (by intro u hu hlt'; first | rfl | (simp only [List.mem_cons, List.not_mem_nil, or_false, not_or] at hu; first | (simp [upd, hu]; done) | (simp only [upd]; (repeat rw [if_neg (by omega)]))))) | (with_reducible (apply HeapX.skip; (case hx => (simp; done)))) | (with_reducible apply HeapX.none) | (with_reducible apply HeapX.old (by first | assumption | omega) (by first | exact Nat.le_refl _ | omega | (simp only; omega)) (by first | rfl | (simp only [id]; done) | (rw [if_neg (by omega)]))) | (with_reducible apply HeapX.upd))); all_goals (first | rfl | omega | assumption | exact Nat.le_of_ble_eq_true rfl | (simp only [St.set, St.ev, upd, ren, renL, id, Nat.reduceEqDiff, reduceIte]; rfl) | (simp only [St.set, St.ev, upd, ren, renL, id, Nat.reduceEqDiff, reduceIte, ContLe]; done) | (first | (simp only [St.set, St.ev, upd, ren, renL, id, Nat.reduceEqDiff, reduceIte]; exact contLe_nil) | ((repeat' (first | exact contLe_nil | refine contLe_cons (.inr ⟨?_, rfl⟩) ?_)); all_goals (first | rfl | (simp only [St.set, St.ev, upd, ren, renL, id, Nat.reduceEqDiff, reduceIte]; done) | ((try simp only [St.set, St.ev, upd, ren, renL, id, Nat.reduceEqDiff, reduceIte]); first | (with_reducible exact av_int (by omega)) | (with_reducible exact av_sl (by first | omega | (simp; done) | (simp; omega)) (by first | omega | (simp; done) | (simp; omega)))) | (simp only [St.set, St.ev, upd, ren, renL, id, Nat.reduceEqDiff, reduceIte, Int.natCast_add, Int.natCast_one, Int.cast_ofNat_Int, Int.natCast_zero]; done) | (simp only [St.set, St.ev, upd, ren, renL, id, Nat.reduceEqDiff, reduceIte]) | skip); done)) | (simp only [St.set, St.ev, upd, ren, renL, id, Nat.reduceEqDiff, reduceIte, ContLe]) | skip)))); (case' h1 => (focus ((repeat' (with_reducible first | exact TmpLe.bot | refine TmpLe.upd ?_ (by first | rfl | (simp only [AV.lt, decide_eq_true_eq]; first | done | omega)) ?_)); all_goals (first | rfl | (simp only [St.set, St.ev, upd, ren, renL, id, Nat.reduceEqDiff, reduceIte]; done) | ((try simp only [St.set, St.ev, upd, ren, renL, id, Nat.reduceEqDiff, reduceIte]); first | (with_reducible exact av_int (by omega)) | (with_reducible exact av_sl (by first | omega | (simp; done) | (simp; omega)) (by first | omega | (simp; done) | (simp; omega)))) | (simp only [St.set, St.ev, upd, ren, renL, id, Nat.reduceEqDiff, reduceIte, Int.natCast_add, Int.natCast_one, Int.cast_ofNat_Int, Int.natCast_zero]; done) | (simp only [St.set, St.ev, upd, ren, renL, id, Nat.reduceEqDiff, reduceIte]) | skip)))); (case h3 => (focus (first | (simp only [id, List.map_cons, List.map_nil]; decide) | decide))); (case h5 => (intro d hd; first | (simp at hd; done) | (simp only [List.mem_cons, List.not_mem_nil, or_false] at hd; first | (simp only [id]; omega) | (split <;> omega) | ((try simp only); repeat' split; all_goals omega)))); (case h4 => (intro o l h; first | (cases h; done) | (have hlt0 := m0_lt (by assumption) h; first | omega | (simp only; omega) | exact ⟨by (first | rfl | (simp only [id]; done) | (rw [if_neg (by omega)])), by first | omega | (simp only; omega)⟩))))
    repeat' (first | refine awp_seq_k fun K hK => ?_ | ((with_reducible refine hK _ ?_); clear hK K) | (clear hK K; (with_reducible refine hK _ ?_); clear hK K) | (clear hK K; clear hK K; (with_reducible refine hK _ ?_); clear hK K) | (clear hK K; clear hK K; clear hK K; (with_reducible refine hK _ ?_); clear hK K) | (clear hK K; clear hK K; clear hK K; clear hK K; (with_reducible refine hK _ ?_); clear hK K) | (clear hK K; clear hK K; clear hK K; clear hK K; clear hK K; (with_reducible refine hK _ ?_); clear hK K) | ((with_reducible refine aord_plain fun K hK => ?_); simp only [go_sem, Nat.reduceAdd, Nat.reduceMul, Nat.reduceEqDiff, Nat.reduceLT, reduceIte, reduceCtorEq, h0, h1]) | refine awp_block ?_ | ((first | with_reducible refine aord_nil ?_ | refine awp_skip ?_ | refine awp_exit ?_ | refine awp_ret ?_); try simp only [thenA_normal, thenA_exit, thenA_goto, thenA_ret, blockA_normal, blockA_same, blockA_exit, blockA_goto, blockA_ret, Nat.reduceEqDiff, if_false, if_true, reduceIte]) | (refine awp_region tabOk rfl ?_; simp only [prep, pickO, List.map_cons, List.map_nil, List.getElem?_toArray, List.getElem?_cons_succ, List.getElem?_cons_zero, Option.bind_some, Option.map_some]) | ((with_reducible apply awp_cond); (focus (simp only [St.ev, St.set, upd, Nat.reduceEqDiff, reduceIte, if_false, if_true]; exact rfl)); all_goals (intro hb; first | (cases hb; done) | ((try rw [hb]); (try simp only [decide_eq_true_eq, decide_eq_false_iff_not, beq_iff_eq, bne_iff_ne, beq_eq_false_iff_ne, bne_eq_false_iff_eq, Int.not_lt, Int.not_le, Bool.not_eq_true', Bool.not_eq_false'] at hb)))) | ((with_reducible refine And.intro ?_ ?_); (focus omega)) | ((with_reducible refine And.intro ?_ ?_); (focus (exact rfl))) | ((with_reducible refine And.intro (?_ : enters Try.prog 72) ?_); (focus exact Try.call72); (refine callX_satH pick_sat ?_); simp only [go_sem, and_assoc, List.nil_append, List.append_nil, List.cons_append, Nat.reduceEqDiff, reduceIte, reduceCtorEq, h0, h1]) | ((with_reducible refine And.intro (?_ : enters Try.prog 73) ?_); (focus exact Try.call73); (refine callX_satH one_sat ?_); simp only [go_sem, and_assoc, List.nil_append, List.append_nil, List.cons_append, Nat.reduceEqDiff, reduceIte, reduceCtorEq, h0, h1]) | ((with_reducible refine And.intro (?_ : enters Try.prog 68) ?_); (focus exact Try.call68); (refine callX_satH goodKeys_sat ?_); simp only [go_sem, and_assoc, List.nil_append, List.append_nil, List.cons_append, Nat.reduceEqDiff, reduceIte, reduceCtorEq, h0, h1]) | ((with_reducible refine And.intro (?_ : enters Try.prog 67) ?_); (focus exact Try.call67); (refine callX_h (callH_inline tabOk Try.func67 rfl 27 rfl [.tmp 4] rfl (Nat.le_of_ble_eq_true rfl) fun m0 hm0 hcl hlt => ?_)); simp only [initT, St.ev, St.set, upd, Nat.reduceEqDiff, reduceIte, if_false, if_true]) | (refine aAppend_ints rfl rfl rfl rfl (Nat.le_of_ble_eq_true rfl) (by simp only [St.ev, St.set, upd, Nat.reduceEqDiff, reduceIte, if_false, if_true]; exact rfl) (by simp only [St.ev, St.set, upd, Nat.reduceEqDiff, reduceIte, if_false, if_true]; exact rfl) rfl (by decide) ?_ ?_ ?_ ?_; (focus (first | rfl | omega | (simp; done) | (simp; omega) | (simp [szOf, tab]; done) | (simp [szOf, tab]; omega))); (focus (first | rfl | omega | (simp; done) | (simp; omega) | (simp [szOf, tab]; done) | (simp [szOf, tab]; omega))); (focus (first | rfl | omega | (simp; done) | (simp; omega) | (simp [szOf, tab]; done) | (simp [szOf, tab]; omega))); (try simp only [go_sem, Nat.reduceAdd, Nat.reduceMul, Nat.reduceEqDiff, Nat.reduceLT, reduceIte, reduceCtorEq])) | (refine aAppend_none rfl rfl rfl rfl (Nat.le_of_ble_eq_true rfl) (by simp only [St.ev, St.set, upd, Nat.reduceEqDiff, reduceIte, if_false, if_true]; exact rfl) ?_ ?_ ?_; (focus (first | rfl | omega | (simp; done) | (simp; omega) | (simp [szOf, tab]; done) | (simp [szOf, tab]; omega))); (focus (first | rfl | omega | (simp; done) | (simp; omega) | (simp [szOf, tab]; done) | (simp [szOf, tab]; omega))); (try simp only [go_sem, Nat.reduceAdd, Nat.reduceMul, Nat.reduceEqDiff, Nat.reduceLT, reduceIte, reduceCtorEq])) | (refine aStoreAll_ints (by simp only [St.ev, St.set, upd, Nat.reduceEqDiff, reduceIte, if_false, if_true]; exact rfl) ?_ ?_ ?_ ?_; (focus (first | rfl | omega | (simp; done) | (simp; omega) | (simp [szOf, tab]; done) | (simp [szOf, tab]; omega))); (focus (first | rfl | omega | (simp; done) | (simp; omega) | (simp [szOf, tab]; done) | (simp [szOf, tab]; omega))); (focus (first | rfl | omega | (simp; done) | (simp; omega) | (simp [szOf, tab]; done) | (simp [szOf, tab]; omega))); (try simp only [go_sem, Nat.reduceAdd, Nat.reduceMul, Nat.reduceEqDiff, Nat.reduceLT, reduceIte, reduceCtorEq])) | (simp only [doneH]; simp only [ressK, resK, wrapR, go_sem, Nat.reduceAdd, Nat.reduceMul, Nat.reduceEqDiff, Nat.reduceLT, reduceIte, reduceCtorEq]) | (refine aStoreAll_cells (by simp only [St.ev, St.set, upd, Nat.reduceEqDiff, reduceIte, if_false, if_true]; exact rfl) ?_ ?_ ?_ ?_ ?_; (focus (first | rfl | omega | (simp; done) | (simp; omega) | (simp [szOf, tab]; done) | (simp [szOf, tab]; omega))); (focus (first | rfl | omega | (simp; done) | (simp; omega) | (simp [szOf, tab]; done) | (simp [szOf, tab]; omega))); (focus (first | rfl | omega | (simp; done) | (simp; omega) | (simp [szOf, tab]; done) | (simp [szOf, tab]; omega))); (focus (first | rfl | (simp [AV.cell, Value.oneCell']; done))); (try simp only [go_sem, Nat.reduceAdd, Nat.reduceMul, Nat.reduceEqDiff, Nat.reduceLT, reduceIte, reduceCtorEq])) | (with_reducible refine And.intro (fun hb => ?_) (fun hb => ?_)) | (exfalso; omega) | fail)
    have h9 := hQ (ks ++ [1, 2, 3, 4, 5, 6, 7, 8, 9]) (r + 1) (by simp; omega) (by omega)
    simpa using h9
  · refine awp_weaken (s' := ⟨upd bot 2 (.sl 2 0 ks.length 1 none), upd (upd h 1 (some ⟨true, .cells [.sl 0 0 L 1 lim, .val (.int .i64 ((r + 1 : Nat) : Int))]⟩)) 2 (some ⟨true, .ints .i64 ks⟩), 3⟩) ?_ ?_
    · (apply Wk.over (id) 2; (case' h2 => (focus ((repeat' (first | (with_reducible exact HeapX.bot) | (exact HeapX.base hcl (by first | exact Nat.le_refl _ | omega | (simp only; omega)) (fun k hk => by first | rfl | (simp only [id]; done) | (rw [if_neg (by omega)])) (by intro u hu hlt'; first | rfl | (simp only [List.mem_cons, List.not_mem_nil, or_false, not_or] at hu; first | (simp [upd, hu]; done) | (simp only [upd]; (repeat rw [if_neg (by omega)]))))) | (with_reducible (apply HeapX.skip; (case hx => (simp; done)))) | (with_reducible apply HeapX.none) | (with_reducible apply HeapX.old (by first | assumption | omega) (by first | exact Nat.le_refl _ | omega | (simp only; omega)) (by first | rfl | (simp only [id]; done) | (rw [if_neg (by omega)]))) | (with_reducible apply HeapX.upd))); all_goals (first | rfl | omega | assumption | exact Nat.le_of_ble_eq_true rfl | (simp only [St.set, St.ev, upd, ren, renL, id, Nat.reduceEqDiff, reduceIte]; rfl) | (simp only [St.set, St.ev, upd, ren, renL, id, Nat.reduceEqDiff, reduceIte, ContLe]; done) | (first | (simp only [St.set, St.ev, upd, ren, renL, id, Nat.reduceEqDiff, reduceIte]; exact contLe_nil) | ((repeat' (first | exact contLe_nil | refine contLe_cons (.inr ⟨?_, rfl⟩) ?_)); all_goals (first | rfl | (simp only [St.set, St.ev, upd, ren, renL, id, Nat.reduceEqDiff, reduceIte]; done) | ((try simp only [St.set, St.ev, upd, ren, renL, id, Nat.reduceEqDiff, reduceIte]); first | (with_reducible exact av_int (by omega)) | (with_reducible exact av_sl (by first | omega | (simp; done) | (simp; omega)) (by first | omega | (simp; done) | (simp; omega)))) | (simp only [St.set, St.ev, upd, ren, renL, id, Nat.reduceEqDiff, reduceIte, Int.natCast_add, Int.natCast_one, Int.cast_ofNat_Int, Int.natCast_zero]; done) | (simp only [St.set, St.ev, upd, ren, renL, id, Nat.reduceEqDiff, reduceIte]) | skip); done)) | (simp only [St.set, St.ev, upd, ren, renL, id, Nat.reduceEqDiff, reduceIte, ContLe]) | skip)))); (case' h1 => (focus ((repeat' (with_reducible first | exact TmpLe.bot | refine TmpLe.upd ?_ (by first | rfl | (simp only [AV.lt, decide_eq_true_eq]; first | done | omega)) ?_)); all_goals (first | rfl | (simp only [St.set, St.ev, upd, ren, renL, id, Nat.reduceEqDiff, reduceIte]; done) | ((try simp only [St.set, St.ev, upd, ren, renL, id, Nat.reduceEqDiff, reduceIte]); first | (with_reducible exact av_int (by omega)) | (with_reducible exact av_sl (by first | omega | (simp; done) | (simp; omega)) (by first | omega | (simp; done) | (simp; omega)))) | (simp only [St.set, St.ev, upd, ren, renL, id, Nat.reduceEqDiff, reduceIte, Int.natCast_add, Int.natCast_one, Int.cast_ofNat_Int, Int.natCast_zero]; done) | (simp only [St.set, St.ev, upd, ren, renL, id, Nat.reduceEqDiff, reduceIte]) | skip)))); (case h3 => (focus (first | (simp only [id, List.map_cons, List.map_nil]; decide) | decide))); (case h5 => (intro d hd; first | (simp at hd; done) | (simp only [List.mem_cons, List.not_mem_nil, or_false] at hd; first | (simp only [id]; omega) | (split <;> omega) | ((try simp only); repeat' split; all_goals omega)))); (case h4 => (intro o l h; first | (cases h; done) | (have hlt0 := m0_lt (by assumption) h; first | omega | (simp only; omega) | exact ⟨by (first | rfl | (simp only [id]; done) | (rw [if_neg (by omega)])), by first | omega | (simp only; omega)⟩))))
    repeat' (first | refine awp_seq_k fun K hK => ?_ | ((with_reducible refine hK _ ?_); clear hK K) | (clear hK K; (with_reducible refine hK _ ?_); clear hK K) | (clear hK K; clear hK K; (with_reducible refine hK _ ?_); clear hK K) | (clear hK K; clear hK K; clear hK K; (with_reducible refine hK _ ?_); clear hK K) | (clear hK K; clear hK K; clear hK K; clear hK K; (with_reducible refine hK _ ?_); clear hK K) | (clear hK K; clear hK K; clear hK K; clear hK K; clear hK K; (with_reducible refine hK _ ?_); clear hK K) | ((with_reducible refine aord_plain fun K hK => ?_); simp only [go_sem, Nat.reduceAdd, Nat.reduceMul, Nat.reduceEqDiff, Nat.reduceLT, reduceIte, reduceCtorEq, h0, h1]) | refine awp_block ?_ | ((first | with_reducible refine aord_nil ?_ | refine awp_skip ?_ | refine awp_exit ?_ | refine awp_ret ?_); try simp only [thenA_normal, thenA_exit, thenA_goto, thenA_ret, blockA_normal, blockA_same, blockA_exit, blockA_goto, blockA_ret, Nat.reduceEqDiff, if_false, if_true, reduceIte]) | (refine awp_region tabOk rfl ?_; simp only [prep, pickO, List.map_cons, List.map_nil, List.getElem?_toArray, List.getElem?_cons_succ, List.getElem?_cons_zero, Option.bind_some, Option.map_some]) | ((with_reducible apply awp_cond); (focus (simp only [St.ev, St.set, upd, Nat.reduceEqDiff, reduceIte, if_false, if_true]; exact rfl)); all_goals (intro hb; first | (cases hb; done) | ((try rw [hb]); (try simp only [decide_eq_true_eq, decide_eq_false_iff_not, beq_iff_eq, bne_iff_ne, beq_eq_false_iff_ne, bne_eq_false_iff_eq, Int.not_lt, Int.not_le, Bool.not_eq_true', Bool.not_eq_false'] at hb)))) | ((with_reducible refine And.intro ?_ ?_); (focus omega)) | ((with_reducible refine And.intro ?_ ?_); (focus (exact rfl))) | ((with_reducible refine And.intro (?_ : enters Try.prog 72) ?_); (focus exact Try.call72); (refine callX_satH pick_sat ?_); simp only [go_sem, and_assoc, List.nil_append, List.append_nil, List.cons_append, Nat.reduceEqDiff, reduceIte, reduceCtorEq, h0, h1]) | ((with_reducible refine And.intro (?_ : enters Try.prog 73) ?_); (focus exact Try.call73); (refine callX_satH one_sat ?_); simp only [go_sem, and_assoc, List.nil_append, List.append_nil, List.cons_append, Nat.reduceEqDiff, reduceIte, reduceCtorEq, h0, h1]) | ((with_reducible refine And.intro (?_ : enters Try.prog 68) ?_); (focus exact Try.call68); (refine callX_satH goodKeys_sat ?_); simp only [go_sem, and_assoc, List.nil_append, List.append_nil, List.cons_append, Nat.reduceEqDiff, reduceIte, reduceCtorEq, h0, h1]) | ((with_reducible refine And.intro (?_ : enters Try.prog 67) ?_); (focus exact Try.call67); (refine callX_h (callH_inline tabOk Try.func67 rfl 27 rfl [.tmp 4] rfl (Nat.le_of_ble_eq_true rfl) fun m0 hm0 hcl hlt => ?_)); simp only [initT, St.ev, St.set, upd, Nat.reduceEqDiff, reduceIte, if_false, if_true]) | (refine aAppend_ints rfl rfl rfl rfl (Nat.le_of_ble_eq_true rfl) (by simp only [St.ev, St.set, upd, Nat.reduceEqDiff, reduceIte, if_false, if_true]; exact rfl) (by simp only [St.ev, St.set, upd, Nat.reduceEqDiff, reduceIte, if_false, if_true]; exact rfl) rfl (by decide) ?_ ?_ ?_ ?_; (focus (first | rfl | omega | (simp; done) | (simp; omega) | (simp [szOf, tab]; done) | (simp [szOf, tab]; omega))); (focus (first | rfl | omega | (simp; done) | (simp; omega) | (simp [szOf, tab]; done) | (simp [szOf, tab]; omega))); (focus (first | rfl | omega | (simp; done) | (simp; omega) | (simp [szOf, tab]; done) | (simp [szOf, tab]; omega))); (try simp only [go_sem, Nat.reduceAdd, Nat.reduceMul, Nat.reduceEqDiff, Nat.reduceLT, reduceIte, reduceCtorEq])) | (refine aAppend_none rfl rfl rfl rfl (Nat.le_of_ble_eq_true rfl) (by simp only [St.ev, St.set, upd, Nat.reduceEqDiff, reduceIte, if_false, if_true]; exact rfl) ?_ ?_ ?_; (focus (first | rfl | omega | (simp; done) | (simp; omega) | (simp [szOf, tab]; done) | (simp [szOf, tab]; omega))); (focus (first | rfl | omega | (simp; done) | (simp; omega) | (simp [szOf, tab]; done) | (simp [szOf, tab]; omega))); (try simp only [go_sem, Nat.reduceAdd, Nat.reduceMul, Nat.reduceEqDiff, Nat.reduceLT, reduceIte, reduceCtorEq])) | (refine aStoreAll_ints (by simp only [St.ev, St.set, upd, Nat.reduceEqDiff, reduceIte, if_false, if_true]; exact rfl) ?_ ?_ ?_ ?_; (focus (first | rfl | omega | (simp; done) | (simp; omega) | (simp [szOf, tab]; done) | (simp [szOf, tab]; omega))); (focus (first | rfl | omega | (simp; done) | (simp; omega) | (simp [szOf, tab]; done) | (simp [szOf, tab]; omega))); (focus (first | rfl | omega | (simp; done) | (simp; omega) | (simp [szOf, tab]; done) | (simp [szOf, tab]; omega))); (try simp only [go_sem, Nat.reduceAdd, Nat.reduceMul, Nat.reduceEqDiff, Nat.reduceLT, reduceIte, reduceCtorEq])) | (simp only [doneH]; simp only [ressK, resK, wrapR, go_sem, Nat.reduceAdd, Nat.reduceMul, Nat.reduceEqDiff, Nat.reduceLT, reduceIte, reduceCtorEq]) | (refine aStoreAll_cells (by simp only [St.ev, St.set, upd, Nat.reduceEqDiff, reduceIte, if_false, if_true]; exact rfl) ?_ ?_ ?_ ?_ ?_; (focus (first | rfl | omega | (simp; done) | (simp; omega) | (simp [szOf, tab]; done) | (simp [szOf, tab]; omega))); (focus (first | rfl | omega | (simp; done) | (simp; omega) | (simp [szOf, tab]; done) | (simp [szOf, tab]; omega))); (focus (first | rfl | omega | (simp; done) | (simp; omega) | (simp [szOf, tab]; done) | (simp [szOf, tab]; omega))); (focus (first | rfl | (simp [AV.cell, Value.oneCell']; done))); (try simp only [go_sem, Nat.reduceAdd, Nat.reduceMul, Nat.reduceEqDiff, Nat.reduceLT, reduceIte, reduceCtorEq])) | (with_reducible refine And.intro (fun hb => ?_) (fun hb => ?_)) | (exfalso; omega) | fail)
    exact hQ ks (r + 1) (by omega) (by omega)



theorem scN_in {xs : List Int} (h : ∀ j, inB (xs.getD j 0) = true) (P : List Int) : ∀ k j, inB ((scN P xs k).getD j 0) = true
  | 0, j => by rw [scN, getD_rep]; rfl
  | k + 1, j => by
    rw [scN]
    by_cases e : (P.getD k 0).toNat = j
    · subst e
      by_cases hl : (P.getD k 0).toNat < (scN P xs k).length
      · rw [getD_set_same hl]; exact h k
      · rw [List.set_eq_of_length_le (by omega)]; exact scN_in h P k _
    · rw [getD_set_ne' e]; exact scN_in h P k j
theorem valid_in {xs : List Int} (h : validB xs = true) (j : Nat) : inB (xs.getD j 0) = true := by
  rcases Nat.lt_or_ge j xs.length with h1 | h1
  · cases e : inB (xs.getD j 0) with
    | true => rfl
    | false => rw [valid_not h1 e] at h; cases h
  · rw [List.getD_eq_getElem?_getD, List.getElem?_eq_none h1]; rfl
theorem valid_ord {xs : List Int} (h : validB xs = true) : validB (ordL xs) = true :=
  valid_all (by rw [ordL_len]; exact valid_len h) fun j _ => scN_in (valid_in h) _ _ j
theorem valid_take {xs : List Int} (h : validB xs = true) (k : Nat) : validB (xs.take k) = true := by
  refine valid_all (by rw [List.length_take]; have := valid_len h; omega) fun j hj => ?_
  have e : (xs.take k).getD j 0 = xs.getD j 0 := by
    rw [List.length_take] at hj
    rw [List.getD_eq_getElem?_getD, List.getD_eq_getElem?_getD, List.getElem?_take_of_lt (by omega)]
  rw [e]; exact valid_in h j


theorem invRow_nonneg (xs : List Int) (i : Nat) : ∀ k, 0 ≤ invRow xs i k
  | 0 => Int.le_refl 0
  | k + 1 => by have := invRow_nonneg xs i k; rw [invRow]; split <;> omega
theorem invRow_zero {xs : List Int} {i : Nat} : ∀ k, invRow xs i k = 0 ↔ ∀ j, j < k → i < j → xs.getD i 0 ≤ xs.getD j 0
  | 0 => ⟨fun _ j h => by omega, fun _ => rfl⟩
  | k + 1 => by
    have ih := invRow_zero (xs := xs) (i := i) k
    have h0 := invRow_nonneg xs i k
    rw [invRow]
    constructor
    · intro h j hj hij
      split at h
      · omega
      · rename_i hc
        rcases Nat.lt_or_ge j k with h1 | h1
        · exact ih.1 (by omega) j h1 hij
        · have : j = k := by omega
          subst this; omega
    · intro h
      have h1 := ih.2 fun j hj hij => h j (by omega) hij
      rw [if_neg (fun hc => by have := h k (by omega) hc.1; omega), h1]; rfl
theorem invTo_nonneg (xs : List Int) : ∀ i, 0 ≤ invTo xs i
  | 0 => Int.le_refl 0
  | i + 1 => by have := invTo_nonneg xs i; have := invRow_nonneg xs i xs.length; rw [invTo]; omega
theorem invTo_zero {xs : List Int} : ∀ i, invTo xs i = 0 ↔ ∀ a, a < i → ∀ j, j < xs.length → a < j → xs.getD a 0 ≤ xs.getD j 0
  | 0 => ⟨fun _ a h => by omega, fun _ => rfl⟩
  | i + 1 => by
    have ih := invTo_zero (xs := xs) i
    have h0 := invTo_nonneg xs i
    have h1 := invRow_nonneg xs i xs.length
    have h2 := invRow_zero (xs := xs) (i := i) xs.length
    rw [invTo]
    constructor
    · intro h a ha
      rcases Nat.lt_or_ge a i with h3 | h3
      · exact ih.1 (by omega) a h3
      · have : a = i := by omega
        subst this; exact h2.1 (by omega)
    · intro h
      have h3 := ih.2 fun a ha => h a (by omega)
      have h4 := h2.2 (h i (by omega))
      omega
theorem inv_srt (xs : List Int) : (invTo xs xs.length == 0) = srt xs := by
  have h1 := invTo_zero (xs := xs) xs.length
  cases e : srt xs with
  | true =>
    have : invTo xs xs.length = 0 := h1.2 fun a ha j hj haj => by
      obtain ⟨d, rfl⟩ : ∃ d, j = a + d := ⟨j - a, by omega⟩
      exact srt_le e hj
    rw [this]; rfl
  | false =>
    have : invTo xs xs.length ≠ 0 := fun h => by
      have := srt_iff.2 fun j hj => (h1.1 h) j (by omega) (j + 1) hj (by omega)
      rw [this] at e; cases e
    simpa using this
theorem ord_dec (xs : List Int) : decide (ordL xs = xs) = srt xs := by
  rw [srt_eq]; apply decide_eq_decide.2; exact eq_comm
theorem sq_beq (b : Bool) : (b == b) = true := by cases b <;> rfl
theorem sq_bne (b : Bool) : (b != b) = false := by cases b <;> rfl
theorem int_bne (n : Int) : (n != n) = false := by simp


theorem plN_ltK {xs : List Int} {i k : Nat} (hi : i < xs.length) (hk : k < xs.length) : plN xs i < plN xs k ↔ ltK xs i k := by
  constructor
  · intro h
    by_cases h1 : ltK xs i k
    · exact h1
    · by_cases e : i = k
      · subst e; omega
      · have h2 : ltK xs k i := by unfold ltK at h1 ⊢; omega
        have := plN_mono hk h2
        omega
  · exact plN_mono hi
theorem placesL_cast {xs : List Int} {i : Nat} (h : i < xs.length) : (placesL xs).getD i 0 = (plN xs i : Nat) := by
  rw [placesL_get h]; unfold plN; have := plC_nonneg xs i xs.length; omega
theorem plC_places {xs : List Int} {i : Nat} (hi : i < xs.length) : ∀ m, m ≤ xs.length → plC (placesL xs) i m = plC xs i m
  | 0, _ => rfl
  | m + 1, hm => by
    rw [plC, plC, plC_places hi m (by omega), placesL_cast (show m < xs.length by omega), placesL_cast hi]
    have h1 := plN_ltK (xs := xs) (i := m) (k := i) (by omega) hi
    have h2 : plN xs m = plN xs i → m = i := plN_inj (by omega) hi
    have e : ((plN xs m : Nat) : Int) < (plN xs i : Nat) ∨ (((plN xs m : Nat) : Int) = (plN xs i : Nat) ∧ m < i) ↔ xs.getD m 0 < xs.getD i 0 ∨ (xs.getD m 0 = xs.getD i 0 ∧ m < i) := by
      unfold ltK at h1; omega
    simp only [e]
theorem places_places (xs : List Int) : placesL (placesL xs) = placesL xs := by
  refine ext_getD (by rw [placesL_len]) fun j hj => ?_
  rw [placesL_len, placesL_len] at hj
  rw [placesL_get (by rw [placesL_len]; exact hj), placesL_len, plC_places hj _ (Nat.le_refl _), placesL_get hj]
theorem plN_places {xs : List Int} {i : Nat} (hi : i < xs.length) : plN (placesL xs) i = plN xs i := by
  unfold plN; rw [placesL_len, plC_places hi _ (Nat.le_refl _)]
theorem invRow_places {xs : List Int} {i : Nat} (hi : i < xs.length) : ∀ m, m ≤ xs.length → invRow (placesL xs) i m = invRow xs i m
  | 0, _ => rfl
  | m + 1, hm => by
    rw [invRow, invRow, invRow_places hi m (by omega), placesL_cast (show m < xs.length by omega), placesL_cast hi]
    have h1 := plN_ltK (xs := xs) (i := m) (k := i) (by omega) hi
    have e : (i < m ∧ ((plN xs m : Nat) : Int) < (plN xs i : Nat)) ↔ (i < m ∧ xs.getD m 0 < xs.getD i 0) := by
      unfold ltK at h1; omega
    simp only [e]
theorem invTo_places (xs : List Int) : ∀ i, i ≤ xs.length → invTo (placesL xs) i = invTo xs i
  | 0, _ => rfl
  | i + 1, h => by rw [invTo, invTo, invTo_places xs i (by omega), placesL_len, invRow_places (by omega) _ (Nat.le_refl _)]
def riseL (n : Nat) : List Int := (List.range n).map Int.ofNat
theorem riseL_len (n : Nat) : (riseL n).length = n := by simp [riseL]
theorem riseL_get {n i : Nat} (h : i < n) : (riseL n).getD i 0 = i := by
  rw [List.getD_eq_getElem?_getD, List.getElem?_eq_getElem (by rw [riseL_len]; exact h)]; simp [riseL]
theorem riseL_up (n : Nat) : riseL (n + 1) = riseL n ++ [(n : Int)] := by simp [riseL, List.range_succ]
theorem ord_places (xs : List Int) : ordL (placesL xs) = riseL xs.length := by
  refine ext_getD (by rw [ordL_len, placesL_len, riseL_len]) fun j hj => ?_
  rw [ordL_len, placesL_len] at hj
  obtain ⟨a, ha, rfl⟩ := ord_from hj
  rw [riseL_get hj]
  have := ord_at (xs := placesL xs) (a := a) (by rw [placesL_len]; exact ha)
  rw [plN_places ha] at this
  rw [this, placesL_cast ha]
theorem valid_places {xs : List Int} (h : validB xs = true) : validB (placesL xs) = true := by
  have h8 := valid_len h
  refine valid_all (by rw [placesL_len]; exact h8) fun j hj => ?_
  rw [placesL_len] at hj
  have := placesL_lt hj
  unfold inB
  rw [decide_eq_true (by omega), decide_eq_true (by omega)]; rfl
theorem dec_self (xs : List Int) : decide (xs = xs) = true := decide_eq_true rfl


theorem misN_in (P : List Int) : ∀ n, 0 ≤ misN P n ∧ misN P n ≤ n
  | 0 => by simp [misN]
  | n + 1 => by have := misN_in P n; rw [misN]; split <;> omega
theorem misN_zero {P : List Int} : ∀ n, misN P n = 0 ↔ ∀ i, i < n → P.getD i 0 = i
  | 0 => ⟨fun _ i h => by omega, fun _ => rfl⟩
  | n + 1 => by
    have ih := misN_zero (P := P) n
    have h0 := misN_in P n
    rw [misN]
    constructor
    · intro h i hi
      split at h
      · rename_i hc
        rcases Nat.lt_or_ge i n with h1 | h1
        · exact ih.1 (by omega) i h1
        · rw [show i = n by omega]; exact hc
      · omega
    · intro h
      rw [if_pos (h n (by omega)), ih.2 fun i hi => h i (by omega)]; rfl
theorem misN_one {P : List Int} : ∀ n, misN P n = 1 → ∃ p, p < n ∧ P.getD p 0 ≠ p ∧ ∀ i, i < n → i ≠ p → P.getD i 0 = i
  | 0, h => by simp [misN] at h
  | n + 1, h => by
    rw [misN] at h
    split at h
    · rename_i hc
      obtain ⟨p, h1, h2, h3⟩ := misN_one (P := P) n (by omega)
      refine ⟨p, by omega, h2, fun i hi hip => ?_⟩
      rcases Nat.lt_or_ge i n with h4 | h4
      · exact h3 i h4 hip
      · rw [show i = n by omega]; exact hc
    · rename_i hc
      have h1 := (misN_zero (P := P) n).1 (by omega)
      exact ⟨n, by omega, hc, fun i hi hip => h1 i (by omega)⟩
theorem mis_ne (xs : List Int) : (misN (placesL xs) xs.length != 1) = true := by
  have : misN (placesL xs) xs.length ≠ 1 := fun h => by
    obtain ⟨p, h1, h2, h3⟩ := misN_one _ h
    have e := placesL_cast h1
    have hl := plN_lt h1
    have hne : plN xs p ≠ p := fun h => h2 (by rw [e, h])
    have h4 := h3 (plN xs p) hl hne
    rw [placesL_cast hl] at h4
    have := plN_inj hl h1 (by omega)
    exact hne this
  simpa using this
theorem mis_srt (xs : List Int) : (misN (placesL xs) xs.length == 0) = srt xs := by
  have h1 := misN_zero (P := placesL xs) xs.length
  cases e : srt xs with
  | true =>
    have : misN (placesL xs) xs.length = 0 := h1.2 fun i hi => by
      rw [placesL_get hi, srt_pl e hi _ (Nat.le_refl _)]; omega
    rw [this]; rfl
  | false =>
    have : misN (placesL xs) xs.length ≠ 0 := fun h => by
      have h2 := h1.1 h
      have : ordL xs = xs := ext_getD (ordL_len xs) fun j hj => by
        rw [ordL_len] at hj
        have h3 := h2 j hj
        rw [placesL_cast hj] at h3
        have h4 := ord_at hj
        rwa [show plN xs j = j by omega] at h4
      have h5 := ord_dec xs
      rw [decide_eq_true this, e] at h5; cases h5
    simpa using this
theorem mis_le (xs : List Int) : decide (misN (placesL xs) xs.length ≤ (xs.length : Int)) = true := decide_eq_true (misN_in _ _).2


/-- How many of the d numbers from a on are told by P. -/
def cnt (P : Nat → Bool) : Nat → Nat → Int
  | _, 0 => 0
  | a, d + 1 => (if P a = true then 1 else 0) + cnt P (a + 1) d
theorem cnt_in (P : Nat → Bool) : ∀ d a, 0 ≤ cnt P a d ∧ cnt P a d ≤ d
  | 0, a => by simp [cnt]
  | d + 1, a => by have := cnt_in P d (a + 1); rw [cnt]; split <;> omega
theorem cnt_up (P : Nat → Bool) : ∀ d a, cnt P a (d + 1) = cnt P a d + (if P (a + d) = true then 1 else 0)
  | 0, a => by simp [cnt]
  | d + 1, a => by rw [cnt, cnt_up P d (a + 1), show cnt P a (d + 1) = (if P a = true then 1 else 0) + cnt P (a + 1) d from rfl, show a + 1 + d = a + (d + 1) by omega]; omega


theorem widRow_in {xs : List Int} {i : Nat} {n : Int} : ∀ k, n ≤ widRow xs i n k ∧ (widRow xs i n k = n ∨ ∃ j, i < j ∧ j < k ∧ xs.getD j 0 < xs.getD i 0 ∧ widRow xs i n k = (j : Int) - i)
  | 0 => ⟨Int.le_refl _, .inl rfl⟩
  | k + 1 => by
    obtain ⟨h1, h2⟩ := widRow_in (xs := xs) (i := i) (n := n) k
    rw [widRow]
    split
    · rename_i hc
      refine ⟨by omega, ?_⟩
      rcases Int.le_total (widRow xs i n k) ((k : Int) - i) with h | h
      · exact .inr ⟨k, hc.1, by omega, hc.2, by omega⟩
      · rcases h2 with h0 | ⟨j, q1, q2, q3, q4⟩
        · exact .inl (by omega)
        · exact .inr ⟨j, q1, by omega, q3, by omega⟩
    · refine ⟨h1, ?_⟩
      rcases h2 with h0 | ⟨j, q1, q2, q3, q4⟩
      · exact .inl h0
      · exact .inr ⟨j, q1, by omega, q3, q4⟩
theorem widRow_ge {xs : List Int} {i j : Nat} {n : Int} (hij : i < j) (hx : xs.getD j 0 < xs.getD i 0) : ∀ k, j < k → (j : Int) - i ≤ widRow xs i n k
  | 0, h => by omega
  | k + 1, h => by
    by_cases e : j = k
    · subst e; rw [widRow, if_pos ⟨hij, hx⟩]; omega
    · have := widRow_ge (n := n) hij hx k (by omega)
      rw [widRow]; split <;> omega
theorem widTo_in {xs : List Int} : ∀ m, 0 ≤ widTo xs m ∧ (widTo xs m = 0 ∨ ∃ i j, i < m ∧ i < j ∧ j < xs.length ∧ xs.getD j 0 < xs.getD i 0 ∧ widTo xs m = (j : Int) - i)
  | 0 => ⟨Int.le_refl _, .inl rfl⟩
  | m + 1 => by
    obtain ⟨h1, h2⟩ := widTo_in (xs := xs) m
    obtain ⟨h3, h4⟩ := widRow_in (xs := xs) (i := m) (n := widTo xs m) xs.length
    rw [widTo]
    refine ⟨by omega, ?_⟩
    rcases h4 with h5 | ⟨j, q1, q2, q3, q4⟩
    · rw [h5]
      rcases h2 with h0 | ⟨i, j, q1, q2, q3, q4, q5⟩
      · exact .inl h0
      · exact .inr ⟨i, j, by omega, q2, q3, q4, q5⟩
    · exact .inr ⟨m, j, by omega, q1, q2, q3, q4⟩
theorem widTo_ge {xs : List Int} {i j : Nat} (hij : i < j) (hj : j < xs.length) (hx : xs.getD j 0 < xs.getD i 0) : ∀ m, i < m → (j : Int) - i ≤ widTo xs m
  | 0, h => by omega
  | m + 1, h => by
    rw [widTo]
    by_cases e : i = m
    · subst e; exact widRow_ge hij hx _ hj
    · have h1 := widTo_ge hij hj hx m (by omega)
      have h2 := (widRow_in (xs := xs) (i := m) (n := widTo xs m) xs.length).1
      omega
theorem invRow_mono {xs : List Int} {i a : Nat} : ∀ d, invRow xs i a ≤ invRow xs i (a + d)
  | 0 => Int.le_refl _
  | d + 1 => by have := invRow_mono (xs := xs) (i := i) (a := a) d; rw [← Nat.add_assoc, invRow]; split <;> omega
theorem invTo_mono {xs : List Int} {a : Nat} : ∀ d, invTo xs a ≤ invTo xs (a + d)
  | 0 => Int.le_refl _
  | d + 1 => by have := invTo_mono (xs := xs) (a := a) d; have := invRow_nonneg xs (a + d) xs.length; rw [← Nat.add_assoc, invTo]; omega
theorem invRow_pos {xs : List Int} {i j : Nat} (hij : i < j) (hj : j < xs.length) (hx : xs.getD j 0 < xs.getD i 0) : 1 ≤ invRow xs i xs.length := by
  have h0 := invRow_nonneg xs i xs.length
  have : invRow xs i xs.length ≠ 0 := fun h => by have := (invRow_zero _).1 h j hj hij; omega
  omega
/-- Between the places of a pair that stands the wrong way round each place makes another one. -/
theorem wide_inv {xs : List Int} {i k : Nat} (hk : k < xs.length) (hx : xs.getD k 0 < xs.getD i 0) : ∀ m, i + 1 + m ≤ k → (m : Int) ≤ invRow xs i (i + 1 + m) + (invTo xs (i + 1 + m) - invTo xs (i + 1))
  | 0, h => by have := invRow_nonneg xs i (i + 1); simp; omega
  | m + 1, h => by
    have ih := wide_inv hk hx m (by omega)
    rw [show i + 1 + (m + 1) = i + 1 + m + 1 by omega, invRow, invTo]
    have h0 := invRow_nonneg xs (i + 1 + m) xs.length
    by_cases hc : xs.getD (i + 1 + m) 0 < xs.getD i 0
    · rw [if_pos ⟨by omega, hc⟩]; omega
    · rw [if_neg (fun h => hc h.2)]
      have := invRow_pos (xs := xs) (i := i + 1 + m) (j := k) (by omega) hk (by omega)
      omega
theorem wid_inv {xs : List Int} : widTo xs xs.length ≤ invTo xs xs.length := by
  obtain ⟨h1, h2⟩ := widTo_in (xs := xs) xs.length
  rcases h2 with h0 | ⟨i, k, q1, q2, q3, q4, q5⟩
  · rw [h0]; exact invTo_nonneg _ _
  · have h3 := wide_inv q3 q4 (k - (i + 1)) (by omega)
    rw [show i + 1 + (k - (i + 1)) = k by omega] at h3
    have h4 := invTo_mono (xs := xs) (a := k) (xs.length - k)
    rw [show k + (xs.length - k) = xs.length by omega] at h4
    have h5 : invTo xs (i + 1) = invTo xs i + invRow xs i xs.length := rfl
    have h6 := invTo_nonneg xs i
    have h7 : invRow xs i (k + 1) = invRow xs i k + 1 := by rw [invRow, if_pos ⟨q2, q4⟩]
    have h8 := invRow_mono (xs := xs) (i := i) (a := k + 1) (xs.length - (k + 1))
    rw [show k + 1 + (xs.length - (k + 1)) = xs.length by omega] at h8
    omega
theorem wid_srt (xs : List Int) : (widTo xs xs.length == 0) = srt xs := by
  obtain ⟨h1, h2⟩ := widTo_in (xs := xs) xs.length
  cases e : srt xs with
  | true =>
    have h3 := inv_srt xs
    rw [e, beq_iff_eq] at h3
    have := wid_inv (xs := xs)
    have : widTo xs xs.length = 0 := by omega
    rw [this]; rfl
  | false =>
    have : widTo xs xs.length ≠ 0 := fun h => by
      have : srt xs = true := srt_iff.2 fun j hj => by
        rcases Int.lt_or_le (xs.getD (j + 1) 0) (xs.getD j 0) with h3 | h3
        · have := widTo_ge (i := j) (j := j + 1) (by omega) hj h3 xs.length (by omega); omega
        · exact h3
      rw [this] at e; cases e
    simpa using this
theorem wid_lt {xs : List Int} : decide (widTo xs xs.length < max (xs.length : Int) 1) = true := by
  obtain ⟨h1, h2⟩ := widTo_in (xs := xs) xs.length
  rcases h2 with h0 | ⟨i, k, q1, q2, q3, q4, q5⟩
  · exact decide_eq_true (by omega)
  · exact decide_eq_true (by omega)


theorem plC_more {xs : List Int} {i a : Nat} : ∀ d, plC xs i a ≤ plC xs i (a + d) ∧ (plC xs i a < plC xs i (a + d) → ∃ k, a ≤ k ∧ k < a + d ∧ ltK xs k i) ∧ (plC xs i (a + d) < plC xs i a + d → ∃ k, a ≤ k ∧ k < a + d ∧ ¬ ltK xs k i)
  | 0 => ⟨Int.le_refl _, fun h => by simp at h, fun h => by simp at h⟩
  | d + 1 => by
    obtain ⟨h1, h2, h3⟩ := plC_more (xs := xs) (i := i) (a := a) d
    rw [← Nat.add_assoc, plC]
    by_cases hc : xs.getD (a + d) 0 < xs.getD i 0 ∨ (xs.getD (a + d) 0 = xs.getD i 0 ∧ a + d < i)
    · rw [if_pos hc]
      refine ⟨by omega, fun _ => ⟨a + d, by omega, by omega, hc⟩, fun h => ?_⟩
      obtain ⟨k, q1, q2, q3⟩ := h3 (by omega)
      exact ⟨k, q1, by omega, q3⟩
    · rw [if_neg hc]
      refine ⟨by omega, fun h => ?_, fun _ => ⟨a + d, by omega, by omega, hc⟩⟩
      obtain ⟨k, q1, q2, q3⟩ := h2 (by omega)
      exact ⟨k, q1, by omega, q3⟩
theorem far_wid_one {xs : List Int} {i : Nat} (hi : i < xs.length) : (plN xs i : Int) - i ≤ widTo xs xs.length ∧ (i : Int) - plN xs i ≤ widTo xs xs.length := by
  have hw := (widTo_in (xs := xs) xs.length).1
  have hlt := plN_lt hi
  have hp : (plN xs i : Int) = plC xs i xs.length := by unfold plN; have := plC_nonneg xs i xs.length; omega
  constructor
  · rcases Int.lt_or_le (i : Int) (plN xs i) with h | h
    · have h1 := plC_own xs i (plN xs i) (by omega)
      obtain ⟨_, h2, _⟩ := plC_more (xs := xs) (i := i) (a := plN xs i) (xs.length - plN xs i)
      rw [show plN xs i + (xs.length - plN xs i) = xs.length by omega] at h2
      obtain ⟨k, q1, q2, q3⟩ := h2 (by omega)
      unfold ltK at q3
      have := widTo_ge (xs := xs) (i := i) (j := k) (by omega) q2 (by omega) xs.length hi
      omega
    · omega
  · rcases Int.lt_or_le (plN xs i : Int) i with h | h
    · obtain ⟨h0, _, h2⟩ := plC_more (xs := xs) (i := i) (a := 0) (plN xs i + 1)
      rw [Nat.zero_add] at h0 h2
      have h3 := (plC_more (xs := xs) (i := i) (a := plN xs i + 1) (xs.length - (plN xs i + 1))).1
      rw [show plN xs i + 1 + (xs.length - (plN xs i + 1)) = xs.length by omega] at h3
      have h4 : plC xs i 0 = 0 := rfl
      obtain ⟨k, q1, q2, q3⟩ := h2 (by omega)
      unfold ltK at q3
      have := widTo_ge (xs := xs) (i := k) (j := i) (by omega) hi (by omega) xs.length (by omega)
      omega
    · omega
theorem far_wid {xs : List Int} : ∀ m, m ≤ xs.length → farN (placesL xs) m ≤ widTo xs xs.length
  | 0, _ => (widTo_in (xs := xs) xs.length).1
  | m + 1, h => by
    have ih := far_wid (xs := xs) m (by omega)
    have := far_wid_one (xs := xs) (i := m) (by omega)
    rw [farN, placesL_cast (show m < xs.length by omega)]
    omega
theorem farN_ge {P : List Int} {i : Nat} : ∀ m, i < m → P.getD i 0 - i ≤ farN P m ∧ (i : Int) - P.getD i 0 ≤ farN P m
  | 0, h => by omega
  | m + 1, h => by
    rw [farN]
    by_cases e : i = m
    · subst e; omega
    · have := farN_ge (P := P) m (show i < m by omega); omega
theorem farN_nonneg (P : List Int) : ∀ m, 0 ≤ farN P m
  | 0 => Int.le_refl _
  | m + 1 => by have := farN_nonneg P m; rw [farN]; omega
/-- A wide pair has a key that is at least half as far from its place. -/
theorem wid_far {xs : List Int} : farN (placesL xs) xs.length = 0 ∧ widTo xs xs.length = 0 ∨ widTo xs xs.length < 2 * farN (placesL xs) xs.length := by
  obtain ⟨h1, h2⟩ := widTo_in (xs := xs) xs.length
  have h3 := far_wid (xs := xs) xs.length (Nat.le_refl _)
  have h4 := farN_nonneg (placesL xs) xs.length
  rcases h2 with h0 | ⟨i, k, q1, q2, q3, q4, q5⟩
  · omega
  · have h5 := farN_ge (P := placesL xs) (i := i) xs.length q1
    have h6 := farN_ge (P := placesL xs) (i := k) xs.length q3
    rw [placesL_cast q1] at h5
    rw [placesL_cast q3] at h6
    have := plN_mono (xs := xs) (i := k) (k := i) q3 (.inl q4)
    omega


/-- The sum of the first n values. -/
def sm (f : Nat → Int) : Nat → Int
  | 0 => 0
  | n + 1 => sm f n + f n
theorem sm_le {f g : Nat → Int} : ∀ n, (∀ i, i < n → f i ≤ g i) → sm f n ≤ sm g n
  | 0, _ => Int.le_refl _
  | n + 1, h => by have := sm_le (f := f) (g := g) n fun i hi => h i (by omega); have := h n (by omega); simp only [sm]; omega
theorem sm_eq {f g : Nat → Int} : ∀ n, (∀ i, i < n → f i = g i) → sm f n = sm g n
  | 0, _ => rfl
  | n + 1, h => by have := sm_eq (f := f) (g := g) n fun i hi => h i (by omega); have := h n (by omega); simp only [sm]; omega
theorem sm_add (f g : Nat → Int) : ∀ n, sm (fun i => f i + g i) n = sm f n + sm g n
  | 0 => rfl
  | n + 1 => by have := sm_add f g n; simp only [sm]; omega
theorem sm_zero : ∀ n, sm (fun _ => 0) n = 0
  | 0 => rfl
  | n + 1 => by rw [sm, sm_zero n]; rfl
theorem sm_swap (f : Nat → Nat → Int) : ∀ m n, sm (fun i => sm (fun k => f i k) n) m = sm (fun k => sm (fun i => f i k) m) n
  | 0, n => by simp only [sm]; exact (sm_zero n).symm
  | m + 1, n => by simp only [sm]; rw [sm_swap f m n, ← sm_add]
theorem sm_more {f : Nat → Int} (h : ∀ i, 0 ≤ f i) {n : Nat} : ∀ d, sm f n ≤ sm f (n + d)
  | 0 => Int.le_refl _
  | d + 1 => by have := sm_more h (n := n) d; have := h (n + d); rw [← Nat.add_assoc, sm]; omega
theorem sm_shift (f : Nat → Int) : ∀ n, sm f (n + 1) = f 0 + sm (fun i => f (i + 1)) n
  | 0 => by simp [sm]
  | n + 1 => by rw [sm, sm_shift f n, sm]; omega
theorem sm_rev (f : Nat → Int) : ∀ n, sm (fun i => f (n - 1 - i)) n = sm f n
  | 0 => rfl
  | n + 1 => by
    rw [sm_shift, sm, show n + 1 - 1 - 0 = n by omega, ← sm_rev f n]
    have : sm (fun i => f (n + 1 - 1 - (i + 1))) n = sm (fun i => f (n - 1 - i)) n := sm_eq n fun i hi => by rw [show n + 1 - 1 - (i + 1) = n - 1 - i by omega]
    rw [this]; omega
def invI (xs : List Int) (i k : Nat) : Int := if i < k ∧ xs.getD k 0 < xs.getD i 0 then 1 else 0
def btwI (xs : List Int) (i k : Nat) : Int := if min (xs.getD i 0) (xs.getD (i + 1) 0) < xs.getD k 0 ∧ xs.getD k 0 < max (xs.getD i 0) (xs.getD (i + 1) 0) then 1 else 0
theorem invI_in (xs : List Int) (i k : Nat) : 0 ≤ invI xs i k := by unfold invI; split <;> omega
theorem invRow_sm (xs : List Int) (i : Nat) : ∀ k, invRow xs i k = sm (invI xs i) k
  | 0 => rfl
  | k + 1 => by rw [invRow, sm, invRow_sm xs i k]; rfl
theorem invTo_sm (xs : List Int) : ∀ i, invTo xs i = sm (fun i => sm (invI xs i) xs.length) i
  | 0 => rfl
  | i + 1 => by rw [invTo, sm, invTo_sm xs i, invRow_sm]
theorem btwC_sm (xs : List Int) (i : Nat) : ∀ k, btwC xs (xs.getD i 0) (xs.getD (i + 1) 0) k = sm (btwI xs i) k
  | 0 => rfl
  | k + 1 => by rw [btwC, sm, btwC_sm xs i k]; rfl
theorem swTo_sm (xs : List Int) : ∀ i, swTo xs i = sm (fun i => sm (btwI xs i) xs.length) i
  | 0 => rfl
  | i + 1 => by rw [swTo, sm, swTo_sm xs i, btwC_sm]
theorem btw_inv (xs : List Int) (i k : Nat) : btwI xs i k ≤ invI xs i k + invI xs k i + (invI xs (i + 1) k + invI xs k (i + 1)) := by
  have h1 := invI_in xs i k; have h2 := invI_in xs k i; have h3 := invI_in xs (i + 1) k; have h4 := invI_in xs k (i + 1)
  by_cases hb : min (xs.getD i 0) (xs.getD (i + 1) 0) < xs.getD k 0 ∧ xs.getD k 0 < max (xs.getD i 0) (xs.getD (i + 1) 0)
  · have hbi : btwI xs i k = 1 := if_pos hb
    have hne : k ≠ i := fun e => by subst e; omega
    have hne2 : k ≠ i + 1 := fun e => by subst e; omega
    rw [hbi]
    rcases Int.lt_or_le (xs.getD i 0) (xs.getD (i + 1) 0) with h | h
    · rcases Nat.lt_or_ge i k with hk | hk
      · have : invI xs (i + 1) k = 1 := if_pos ⟨by omega, by omega⟩
        omega
      · have : invI xs k i = 1 := if_pos ⟨by omega, by omega⟩
        omega
    · rcases Nat.lt_or_ge i k with hk | hk
      · have : invI xs i k = 1 := if_pos ⟨by omega, by omega⟩
        omega
      · have : invI xs k (i + 1) = 1 := if_pos ⟨by omega, by omega⟩
        omega
  · have hbi : btwI xs i k = 0 := if_neg hb
    omega
theorem sw_inv (xs : List Int) : swTo xs (xs.length - 1) ≤ 4 * invTo xs xs.length := by
  rw [swTo_sm, invTo_sm]
  rcases Nat.eq_zero_or_pos xs.length with h0 | h0
  · rw [h0]; simp [sm]
  · have hn : xs.length = (xs.length - 1) + 1 := by omega
    have h1 : sm (fun i => sm (btwI xs i) xs.length) (xs.length - 1) ≤ sm (fun i => sm (fun k => invI xs i k + invI xs k i + (invI xs (i + 1) k + invI xs k (i + 1))) xs.length) (xs.length - 1) := sm_le _ fun i _ => sm_le _ fun k _ => btw_inv xs i k
    have h2 : sm (fun i => sm (fun k => invI xs i k + invI xs k i + (invI xs (i + 1) k + invI xs k (i + 1))) xs.length) (xs.length - 1) = sm (fun i => sm (fun k => invI xs i k) xs.length) (xs.length - 1) + sm (fun i => sm (fun k => invI xs k i) xs.length) (xs.length - 1) + (sm (fun i => sm (fun k => invI xs (i + 1) k) xs.length) (xs.length - 1) + sm (fun i => sm (fun k => invI xs k (i + 1)) xs.length) (xs.length - 1)) := by
      rw [← sm_add, ← sm_add, ← sm_add]
      refine sm_eq _ fun i _ => ?_
      rw [← sm_add, ← sm_add, ← sm_add]
    have hp : ∀ i, 0 ≤ sm (fun k => invI xs i k) xs.length := fun i => by rw [← sm_zero xs.length]; exact sm_le _ fun k _ => invI_in _ _ _
    have hq : ∀ i, 0 ≤ sm (fun k => invI xs k i) xs.length := fun i => by rw [← sm_zero xs.length]; exact sm_le _ fun k _ => invI_in _ _ _
    have h3 := sm_more hp (n := xs.length - 1) 1
    have h4 := sm_more hq (n := xs.length - 1) 1
    have h5 := sm_shift (fun i => sm (fun k => invI xs i k) xs.length) (xs.length - 1)
    have h6 := sm_shift (fun i => sm (fun k => invI xs k i) xs.length) (xs.length - 1)
    have h7 := sm_swap (fun i k => invI xs k i) xs.length xs.length
    rw [← hn] at h3 h4 h5 h6
    have h8 := hp 0
    have h9 := hq 0
    have e1 : sm (fun i => sm (invI xs i) xs.length) xs.length = sm (fun i => sm (fun k => invI xs i k) xs.length) xs.length := rfl
    omega
theorem rev_getD {xs : List Int} {j : Nat} (h : j < xs.length) : xs.reverse.getD j 0 = xs.getD (xs.length - 1 - j) 0 := by
  rw [List.getD_eq_getElem?_getD, List.getD_eq_getElem?_getD, List.getElem?_reverse h]
theorem sw_rev (xs : List Int) : swTo xs.reverse (xs.reverse.length - 1) = swTo xs (xs.length - 1) := by
  rw [swTo_sm, swTo_sm, List.length_reverse]
  rcases Nat.eq_zero_or_pos xs.length with h0 | h0
  · rw [h0]; rfl
  · rw [← sm_rev (fun i => sm (btwI xs i) xs.length)]
    refine sm_eq _ fun i hi => ?_
    rw [← sm_rev (btwI xs (xs.length - 1 - 1 - i))]
    refine sm_eq _ fun k hk => ?_
    unfold btwI
    rw [rev_getD (by omega), rev_getD (by omega), rev_getD hk, show xs.length - 1 - (i + 1) = xs.length - 1 - 1 - i by omega, show xs.length - 1 - 1 - i + 1 = xs.length - 1 - i by omega, Int.min_comm, Int.max_comm]
theorem swTo_nonneg (xs : List Int) : ∀ i, 0 ≤ swTo xs i ∧ swTo xs i ≤ xs.length * i
  | 0 => by simp [swTo]
  | i + 1 => by
    have := swTo_nonneg xs i
    have := btw_in xs (xs.getD i 0) (xs.getD (i + 1) 0) xs.length
    rw [swTo, show ((xs.length : Int)) * ((i + 1 : Nat) : Int) = xs.length * i + xs.length by rw [show ((i + 1 : Nat) : Int) = (i : Int) + 1 by omega, Int.mul_add, Int.mul_one]]
    omega

theorem cnt_app (P : Nat → Bool) : ∀ d e a, cnt P a (d + e) = cnt P a d + cnt P (a + d) e
  | 0, e, a => by simp [cnt]
  | d + 1, e, a => by rw [show d + 1 + e = (d + e) + 1 by omega, cnt, cnt_app P d e (a + 1), cnt, show a + 1 + d = a + (d + 1) by omega]; omega
theorem cnt_same {P Q : Nat → Bool} : ∀ d a, (∀ k, a ≤ k → k < a + d → P k = Q k) → cnt P a d = cnt Q a d
  | 0, _, _ => rfl
  | d + 1, a, h => by rw [cnt, cnt, h a (by omega) (by omega), cnt_same d (a + 1) fun k h1 h2 => h k (by omega) (by omega)]
theorem cnt_less {Q : Nat → Bool} {c : Nat} (hQ : Q c = true) {N : Nat} (hc : c < N) : cnt (fun k => Q k && decide (k ≠ c)) 0 N = cnt Q 0 N - 1 := by
  have h1 : cnt Q 0 N = cnt Q 0 c + (1 + cnt Q (c + 1) (N - (c + 1))) := by
    have h2 := cnt_app Q c ((N - (c + 1)) + 1) 0
    rw [show c + (N - (c + 1) + 1) = N by omega, Nat.zero_add, cnt, if_pos hQ] at h2
    exact h2
  have h3 : cnt (fun k => Q k && decide (k ≠ c)) 0 N = cnt Q 0 c + (0 + cnt Q (c + 1) (N - (c + 1))) := by
    have h2 := cnt_app (fun k => Q k && decide (k ≠ c)) c ((N - (c + 1)) + 1) 0
    rw [show c + (N - (c + 1) + 1) = N by omega, Nat.zero_add, cnt, if_neg (by simp)] at h2
    rw [h2, cnt_same (Q := Q) c 0 (fun k q1 q2 => by rw [decide_eq_true (by omega), Bool.and_true]), cnt_same (Q := Q) (N - (c + 1)) (c + 1) (fun k q1 q2 => by rw [decide_eq_true (by omega), Bool.and_true])]
  omega
/-- What is told apart by R is no more than what R leads to. -/
theorem cnt_inj {R : Nat → Nat → Prop} : ∀ (n : Nat) {P Q : Nat → Bool} {N : Nat}, (∀ i, i < n → P i = true → ∃ c, c < N ∧ Q c = true ∧ R i c) → (∀ i k c, i < n → k < n → P i = true → P k = true → R i c → R k c → i = k) → cnt P 0 n ≤ cnt Q 0 N
  | 0, P, Q, N, _, _ => by have := cnt_in Q N 0; simp only [cnt]; omega
  | n + 1, P, Q, N, h1, h2 => by
    rw [cnt_up, Nat.zero_add]
    cases hp : P n with
    | false =>
      have := cnt_inj n (P := P) (Q := Q) (N := N) (fun i hi => h1 i (by omega)) (fun i k c hi hk => h2 i k c (by omega) (by omega))
      simp; omega
    | true =>
      obtain ⟨c, hc, hQc, hR⟩ := h1 n (by omega) hp
      have := cnt_inj n (P := P) (Q := fun k => Q k && decide (k ≠ c)) (N := N) (fun i hi hPi => by
        obtain ⟨d, q1, q2, q3⟩ := h1 i (by omega) hPi
        refine ⟨d, q1, ?_, q3⟩
        have : d ≠ c := fun e => by
          subst e
          have := h2 i n d (by omega) (by omega) hPi hp q3 hR
          omega
        show (Q d && decide (d ≠ c)) = true
        rw [q2, decide_eq_true this]; rfl) (fun i k c hi hk => h2 i k c (by omega) (by omega))
      rw [cnt_less hQc hc] at this
      simp; omega
theorem cnt_rows {Q : Nat → Bool} {n : Nat} : ∀ m, cnt Q 0 (m * n) = sm (fun i => cnt Q (i * n) n) m
  | 0 => by simp [cnt, sm]
  | m + 1 => by rw [Nat.succ_mul, cnt_app, cnt_rows m, sm, Nat.zero_add]
theorem cnt_sm {Q : Nat → Bool} {a : Nat} : ∀ n, cnt Q a n = sm (fun k => if Q (a + k) = true then 1 else 0) n
  | 0 => rfl
  | n + 1 => by rw [cnt_up, cnt_sm n, sm]


/-- Pairs that stand the wrong way round, as one number each. -/
def invC (xs : List Int) (c : Nat) : Bool := decide (c / xs.length < c % xs.length ∧ xs.getD (c % xs.length) 0 < xs.getD (c / xs.length) 0)
theorem code_div {n a b : Nat} (h : b < n) : (a * n + b) / n = a ∧ (a * n + b) % n = b := by
  constructor
  · rw [Nat.mul_comm, Nat.mul_add_div (by omega), Nat.div_eq_of_lt h, Nat.add_zero]
  · rw [Nat.mul_comm, Nat.mul_add_mod, Nat.mod_eq_of_lt h]
theorem invC_cnt (xs : List Int) : cnt (invC xs) 0 (xs.length * xs.length) = invTo xs xs.length := by
  rw [cnt_rows, invTo_sm]
  refine sm_eq _ fun i _ => ?_
  rw [cnt_sm]
  refine sm_eq _ fun k hk => ?_
  unfold invC invI
  rw [(code_div hk).1, (code_div hk).2]
  simp only [decide_eq_true_eq]
theorem leastOf_ex {p : Nat → Prop} : ∀ (n : Nat), p n → ∃ k, k ≤ n ∧ p k ∧ ∀ j, j < k → ¬ p j := by
  intro n
  induction n using Nat.strongRecOn with
  | _ n ih =>
    intro h
    by_cases hx : ∃ m, m < n ∧ p m
    · obtain ⟨m, h1, h2⟩ := hx
      obtain ⟨k, q1, q2, q3⟩ := ih m h1 h2
      exact ⟨k, by omega, q2, q3⟩
    · exact ⟨n, Nat.le_refl _, h, fun j hj hp => hx ⟨j, hj, hp⟩⟩
theorem last_of {p : Nat → Prop} (n k : Nat) (hk : k < n) (h : p k) : ∃ m, k ≤ m ∧ m < n ∧ p m ∧ ∀ j, m < j → j < n → ¬ p j := by
  obtain ⟨d, h1, h2, h3⟩ := leastOf_ex (p := fun d => d < n ∧ p (n - 1 - d)) (n - 1 - k) ⟨by omega, by rwa [show n - 1 - (n - 1 - k) = k by omega]⟩
  refine ⟨n - 1 - d, by omega, by omega, h2.2, fun j q1 q2 hp => h3 (n - 1 - j) (by omega) ⟨by omega, ?_⟩⟩
  rwa [show n - 1 - (n - 1 - j) = j by omega]
/-- The way of a circle that stays at or above i, from the place of y on to x, and comes from under i and goes under i. -/
def arcP (xs : List Int) (i y x : Nat) : Prop := y < i ∧ x < xs.length ∧ ∃ L t0, t0 ≤ L ∧ (∀ t, t ≤ L → i ≤ itP xs t (plN xs y)) ∧ itP xs t0 (plN xs y) = i ∧ itP xs (L + 1) (plN xs y) < i ∧ x = itP xs L (plN xs y)
theorem itP_suc {xs : List Int} {y : Nat} (t : Nat) : itP xs t (plN xs y) = itP xs (t + 1) y := by rw [itP_add]; rfl
theorem arc_ex {xs : List Int} {i : Nat} (hi : i < xs.length) (h : lstB xs i = false) : ∃ y x, arcP xs i y x := by
  have hn : ∃ k, itP xs k i < i := Classical.byContradiction fun hx => by
    have : lstB xs i = true := (lstB_iff hi).2 fun k => by
      rcases Nat.lt_or_ge (itP xs k i) i with h1 | h1
      · exact (hx ⟨k, h1⟩).elim
      · exact h1
    rw [h] at this; cases this
  obtain ⟨k0, hk0⟩ := hn
  obtain ⟨T, hT, hTn, hTi⟩ := itP_ret hi
  rw [itP_mod hTi k0] at hk0
  have hlt := Nat.mod_lt k0 hT
  generalize k0 % T = k at hk0 hlt
  obtain ⟨k1, a1, a2, a3⟩ := leastOf_ex (p := fun k => itP xs k i < i) k hk0
  obtain ⟨k2, b1, b2, b3, b4⟩ := last_of (p := fun k => itP xs k i < i) T k hlt hk0
  have h10 : k1 ≠ 0 := fun e => by rw [e] at a2; exact Nat.lt_irrefl _ a2
  have key : ∀ t, t ≤ T - k2 - 1 + (k1 - 1) → i ≤ itP xs t (plN xs (itP xs k2 i)) := fun t ht => by
    rw [itP_suc, ← itP_add]
    rcases Nat.lt_or_ge (t + 1 + k2) T with h1 | h1
    · exact Nat.le_of_not_lt (b4 (t + 1 + k2) (by omega) h1)
    · rw [show t + 1 + k2 = (t + 1 + k2 - T) + T by omega, itP_add, hTi]
      exact Nat.le_of_not_lt (a3 (t + 1 + k2 - T) (by omega))
  refine ⟨itP xs k2 i, itP xs (T - k2 - 1 + (k1 - 1)) (plN xs (itP xs k2 i)), b3, itP_lt (plN_lt (itP_lt hi _)) _, T - k2 - 1 + (k1 - 1), T - k2 - 1, by omega, key, ?_, ?_, rfl⟩
  · rw [itP_suc, ← itP_add, show T - k2 - 1 + 1 + k2 = T by omega, hTi]
  · rw [itP_suc, ← itP_add, show T - k2 - 1 + (k1 - 1) + 1 + 1 + k2 = k1 + T by omega, itP_add, hTi]
    exact a2
theorem arc_one {xs : List Int} {i j y x : Nat} (h1 : arcP xs i y x) (h2 : arcP xs j y x) : ¬ i < j := fun hij => by
  obtain ⟨_, _, L, t, q1, q2, q3, q4, q5⟩ := h1
  obtain ⟨_, _, L', t', p1, p2, p3, p4, p5⟩ := h2
  rcases Nat.lt_or_ge L L' with h | h
  · have := p2 (L + 1) (by omega); omega
  · rcases Nat.lt_or_ge L' L with h3 | h3
    · have h4 := q2 (L' + 1) (by omega)
      have h5 : itP xs (L' + 1) (plN xs y) = plN xs x := by rw [p5]; rfl
      have h6 : itP xs (L + 1) (plN xs y) = plN xs x := by rw [q5]; rfl
      omega
    · have : L = L' := by omega
      subst this
      have := p2 t q1
      omega
theorem arc_inv {xs : List Int} {i y x : Nat} (hi : i < xs.length) (h : arcP xs i y x) : invC xs (y * xs.length + x) = true := by
  obtain ⟨h1, h2, L, t, q1, q2, q3, q4, q5⟩ := h
  have h3 := q2 L (Nat.le_refl _)
  have h4 := q2 0 (Nat.zero_le _)
  have h5 : itP xs (L + 1) (plN xs y) = plN xs x := by rw [q5]; rfl
  have h6 : itP xs 0 (plN xs y) = plN xs y := rfl
  have h7 := (plN_ltK (xs := xs) (i := x) (k := y) h2 (by omega)).1 (by omega)
  unfold ltK at h7
  unfold invC
  rw [(code_div h2).1, (code_div h2).2]
  exact decide_eq_true (by omega)


def notL (xs : List Int) (i : Nat) : Bool := !lstB xs i
theorem cir_cnt (xs : List Int) : ∀ n : Nat, (n : Int) - cirN xs n = cnt (notL xs) 0 n
  | 0 => by simp [cirN, cnt]
  | n + 1 => by
    have ih := cir_cnt xs n
    rw [cirN, cnt_up, Nat.zero_add, ← ih]
    unfold notL
    cases lstB xs n <;> simp <;> omega
theorem exc_inv (xs : List Int) : (xs.length : Int) - cirN xs xs.length ≤ invTo xs xs.length := by
  rw [cir_cnt, ← invC_cnt]
  refine cnt_inj (R := fun i c => ∃ y x, x < xs.length ∧ c = y * xs.length + x ∧ arcP xs i y x) _ (fun i hi hP => ?_) (fun i k c hi hk hP hPk h1 h2 => ?_)
  · obtain ⟨y, x, h⟩ := arc_ex hi (by unfold notL at hP; simpa using hP)
    have hx : x < xs.length := h.2.1
    have hy : y < xs.length := by have := h.1; omega
    refine ⟨y * xs.length + x, ?_, arc_inv hi h, y, x, hx, rfl, h⟩
    have : (y + 1) * xs.length ≤ xs.length * xs.length := Nat.mul_le_mul_right _ (by omega)
    rw [Nat.succ_mul] at this
    omega
  · obtain ⟨y, x, hx, hc, ha⟩ := h1
    obtain ⟨y', x', hx', hc', ha'⟩ := h2
    have e1 := code_div (a := y) hx
    have e2 := code_div (a := y') hx'
    rw [← hc] at e1
    rw [← hc'] at e2
    obtain rfl : y = y' := by omega
    obtain rfl : x = x' := by omega
    have := arc_one ha ha'
    have := arc_one ha' ha
    omega


def offB (xs : List Int) (i : Nat) : Bool := decide (plN xs i ≠ i)
theorem off_cnt (xs : List Int) : ∀ n, n ≤ xs.length → misN (placesL xs) n = cnt (offB xs) 0 n
  | 0, _ => rfl
  | n + 1, h => by
    rw [misN, cnt_up, off_cnt xs n (by omega), Nat.zero_add, placesL_cast (by omega)]
    unfold offB
    by_cases e : plN xs n = n
    · rw [if_pos (by omega), decide_eq_false (by omega)]; rfl
    · rw [if_neg (by omega), decide_eq_true e]; rfl
theorem off_not {xs : List Int} {i : Nat} (hi : i < xs.length) (h : plN xs i = i) : lstB xs i = true := by
  rw [lstB_iff hi]
  intro k
  have : itP xs k i = i := by
    induction k with
    | zero => rfl
    | succ k ih => show plN xs _ = i; rw [ih, h]
  omega
theorem cnt_leB {P Q : Nat → Bool} : ∀ d a, (∀ k, a ≤ k → k < a + d → P k = true → Q k = true) → cnt P a d ≤ cnt Q a d
  | 0, _, _ => Int.le_refl _
  | d + 1, a, h => by
    have ih := cnt_leB (P := P) (Q := Q) d (a + 1) fun k h1 h2 => h k (by omega) (by omega)
    have := h a (by omega) (by omega)
    rw [cnt, cnt]
    cases hp : P a with
    | true => rw [this hp, if_pos rfl]; omega
    | false => rw [if_neg Bool.false_ne_true]; split <;> omega
theorem cnt_pos {P : Nat → Bool} : ∀ d a, cnt P a d ≠ 0 → ∃ k, a ≤ k ∧ k < a + d ∧ P k = true
  | 0, a, h => by simp [cnt] at h
  | d + 1, a, h => by
    rw [cnt] at h
    by_cases hp : P a = true
    · exact ⟨a, by omega, by omega, hp⟩
    · rw [if_neg hp] at h
      obtain ⟨k, q1, q2, q3⟩ := cnt_pos (P := P) d (a + 1) (by omega)
      exact ⟨k, by omega, by omega, q3⟩
theorem cnt_one {P : Nat → Bool} {k n : Nat} (hk : k < n) (h : P k = true) : 1 ≤ cnt P 0 n := by
  have h1 := cnt_app P k ((n - (k + 1)) + 1) 0
  rw [show k + (n - (k + 1) + 1) = n by omega, Nat.zero_add, cnt, if_pos h] at h1
  have := cnt_in P k 0
  have := cnt_in P (n - (k + 1)) (k + 1)
  omega
/-- A key that is the least of its circle, and not alone in it. -/
def headB (xs : List Int) (i : Nat) : Bool := lstB xs i && offB xs i
theorem mis_split (xs : List Int) : ∀ n, n ≤ xs.length → cnt (offB xs) 0 n = cnt (headB xs) 0 n + cnt (notL xs) 0 n
  | 0, _ => rfl
  | n + 1, h => by
    rw [cnt_up, cnt_up, cnt_up, mis_split xs n (by omega), Nat.zero_add]
    unfold headB notL offB
    by_cases e : plN xs n = n
    · rw [off_not (by omega) e, decide_eq_false (by omega)]; simp
    · rw [decide_eq_true e]
      cases lstB xs n <;> simp <;> omega
theorem head_step {xs : List Int} {i : Nat} (hi : i < xs.length) (h : headB xs i = true) : notL xs (plN xs i) = true := by
  unfold headB offB at h
  rw [Bool.and_eq_true, decide_eq_true_eq] at h
  unfold notL
  cases e : lstB xs (plN xs i) with
  | false => rfl
  | true =>
    exfalso
    have h1 := (lstB_iff hi).1 h.1 1
    have h2 : itP xs 1 i = plN xs i := rfl
    obtain ⟨m, hm⟩ := itP_back (xs := xs) (a := i) (k := 1) hi
    rw [h2] at hm
    have h3 := (lstB_iff (plN_lt hi)).1 e m
    omega
theorem mis_exc (xs : List Int) : misN (placesL xs) xs.length ≤ 2 * ((xs.length : Int) - cirN xs xs.length) := by
  rw [cir_cnt, off_cnt xs _ (Nat.le_refl _), mis_split xs _ (Nat.le_refl _)]
  have := cnt_inj (R := fun i c => plN xs i = c) xs.length (P := headB xs) (Q := notL xs) (N := xs.length) (fun i hi h => ⟨plN xs i, plN_lt hi, head_step hi h, rfl⟩) (fun i k c hi hk _ _ h1 h2 => plN_inj hi hk (h1.trans h2.symm))
  omega
theorem exc_mis (xs : List Int) : (xs.length : Int) - cirN xs xs.length = 0 ∨ (xs.length : Int) - cirN xs xs.length < misN (placesL xs) xs.length := by
  rw [cir_cnt, off_cnt xs _ (Nat.le_refl _), mis_split xs _ (Nat.le_refl _)]
  by_cases h0 : cnt (notL xs) 0 xs.length = 0
  · exact .inl h0
  · right
    obtain ⟨i, _, hi, hP⟩ := cnt_pos _ _ h0
    rw [Nat.zero_add] at hi
    have hl : lstB xs i = false := by unfold notL at hP; simpa using hP
    -- the least one of the circle
    have hex : ∃ m, m < xs.length ∧ (∃ k, itP xs k i = m) := ⟨i, hi, 0, rfl⟩
    obtain ⟨m0, hm0, hk0⟩ := hex
    obtain ⟨m, _, ⟨k, hk⟩, hmin⟩ := leastOf_ex (p := fun m => ∃ k, itP xs k i = m) m0 hk0
    have hm : m < xs.length := by rw [← hk]; exact itP_lt hi k
    have h1 : lstB xs m = true := (lstB_iff hm).2 fun j => by
      rcases Nat.lt_or_ge (itP xs j m) m with h2 | h2
      · exact (hmin _ h2 ⟨j + k, by rw [itP_add, hk]⟩).elim
      · exact h2
    have h2 : plN xs m ≠ m := fun e => by
      obtain ⟨r, hr⟩ := itP_back (xs := xs) (a := i) (k := k) hi
      rw [hk] at hr
      have : itP xs r m = m := by
        clear hr
        induction r with
        | zero => rfl
        | succ r ih => show plN xs _ = m; rw [ih, e]
      have hmi : m = i := this.symm.trans hr
      rw [← hmi, h1] at hl
      cases hl
    have := cnt_one (P := headB xs) hm (by unfold headB offB; rw [h1, decide_eq_true h2]; rfl)
    omega
theorem exc_srt (xs : List Int) : ((xs.length : Int) - cirN xs xs.length == 0) = srt xs := by
  have h1 := mis_exc xs
  have h2 := exc_mis xs
  have h3 := misN_in (placesL xs) xs.length
  have h4 := mis_srt xs
  cases e : srt xs with
  | true =>
    rw [e, beq_iff_eq] at h4
    have : (xs.length : Int) - cirN xs xs.length = 0 := by omega
    rw [this]; rfl
  | false =>
    rw [e] at h4
    have : (xs.length : Int) - cirN xs xs.length ≠ 0 := fun h => by
      have : misN (placesL xs) xs.length = 0 := by omega
      rw [this] at h4; cases h4
    simpa using this

theorem drawExchangesOf_sat : Sat Try.prog 24 (fun ds Q => ∃ bs, ds = [.row (.ints .u8 bs)] ∧ bs.length ≤ 1099511627776 ∧ bytesOk bs ∧ ∀ ys : List Int, ys.length ≤ 17 → Q (.row (.ints .i64 ys))) := by
  refine sat_intro tabOk Try.func24 rfl 6 rfl [.tmp 2] rfl ?_
  rintro ds Q W ⟨bs, rfl, hlen, hbs, hQ⟩
  refine ⟨Nat.le_of_ble_eq_true rfl, ?_⟩
  simp only [initS, initT, mat.matL, mat, Cont.len]
  repeat' (first | refine awp_seq_k fun K hK => ?_ | ((with_reducible refine hK _ ?_); clear hK K) | (clear hK K; (with_reducible refine hK _ ?_); clear hK K) | (clear hK K; clear hK K; (with_reducible refine hK _ ?_); clear hK K) | (clear hK K; clear hK K; clear hK K; (with_reducible refine hK _ ?_); clear hK K) | (clear hK K; clear hK K; clear hK K; clear hK K; (with_reducible refine hK _ ?_); clear hK K) | (clear hK K; clear hK K; clear hK K; clear hK K; clear hK K; (with_reducible refine hK _ ?_); clear hK K) | ((with_reducible refine aord_plain fun K hK => ?_); simp only [go_sem, Nat.reduceAdd, Nat.reduceMul, Nat.reduceEqDiff, Nat.reduceLT, reduceIte, reduceCtorEq, Int.toNat_zero]) | refine awp_block ?_ | ((first | with_reducible refine aord_nil ?_ | refine awp_skip ?_ | refine awp_exit ?_ | refine awp_ret ?_); try simp only [thenA_normal, thenA_exit, thenA_goto, thenA_ret, blockA_normal, blockA_same, blockA_exit, blockA_goto, blockA_ret, Nat.reduceEqDiff, if_false, if_true, reduceIte]) | (refine awp_region tabOk rfl ?_; simp only [prep, pickO, List.map_cons, List.map_nil, List.getElem?_toArray, List.getElem?_cons_succ, List.getElem?_cons_zero, Option.bind_some, Option.map_some]) | ((with_reducible apply awp_cond); (focus (simp only [St.ev, St.set, upd, Nat.reduceEqDiff, reduceIte, if_false, if_true]; exact rfl)); all_goals (intro hb; first | (cases hb; done) | ((try rw [hb]); (try simp only [decide_eq_true_eq, decide_eq_false_iff_not, beq_iff_eq, bne_iff_ne, beq_eq_false_iff_ne, bne_eq_false_iff_eq, Int.not_lt, Int.not_le, Bool.not_eq_true', Bool.not_eq_false'] at hb)))) | ((with_reducible refine And.intro ?_ ?_); (focus omega)) | ((with_reducible refine And.intro ?_ ?_); (focus (exact rfl))) | ((with_reducible refine And.intro (?_ : enters Try.prog 46) ?_); (focus exact Try.call46); (refine callX_satH someKeys_sat ?_); simp only [go_sem, and_assoc, List.nil_append, List.append_nil, List.cons_append, Nat.reduceEqDiff, reduceIte, reduceCtorEq, Int.toNat_zero]) | ((with_reducible refine And.intro (?_ : enters Try.prog 47) ?_); (focus exact Try.call47); (refine callX_h (callH_inline tabOk Try.func47 rfl 11 rfl [.tmp 2] rfl (Nat.le_of_ble_eq_true rfl) fun m0 hm0 hcl hlt => ?_)); simp only [initT, St.ev, St.set, upd, Nat.reduceEqDiff, reduceIte, if_false, if_true]) | (simp only [rBuild]; simp only [fillA, Nat.reduceLeDiff, List.getElem?_cons_zero, List.getElem?_cons_succ, List.drop_succ_cons, List.drop_nil, List.take_nil, List.cons_append, Option.isSome_some, go_sem, Nat.reduceAdd, Nat.reduceMul, Nat.reduceEqDiff, Nat.reduceLT, reduceIte, reduceCtorEq]) | (simp only [doneH]; simp only [ressK, resK, wrapR, go_sem, Nat.reduceAdd, Nat.reduceMul, Nat.reduceEqDiff, Nat.reduceLT, reduceIte, reduceCtorEq]) | (with_reducible refine And.intro (fun hb => ?_) (fun hb => ?_)) | (exfalso; omega) | fail)
  all_goals (
    refine ⟨_, _, 0, rfl, by omega, by omega, hbs, by omega, ?_⟩
    intro ys r hys hr)
  repeat' (first | refine awp_seq_k fun K hK => ?_ | ((with_reducible refine hK _ ?_); clear hK K) | (clear hK K; (with_reducible refine hK _ ?_); clear hK K) | (clear hK K; clear hK K; (with_reducible refine hK _ ?_); clear hK K) | (clear hK K; clear hK K; clear hK K; (with_reducible refine hK _ ?_); clear hK K) | (clear hK K; clear hK K; clear hK K; clear hK K; (with_reducible refine hK _ ?_); clear hK K) | (clear hK K; clear hK K; clear hK K; clear hK K; clear hK K; (with_reducible refine hK _ ?_); clear hK K) | ((with_reducible refine aord_plain fun K hK => ?_); simp only [go_sem, Nat.reduceAdd, Nat.reduceMul, Nat.reduceEqDiff, Nat.reduceLT, reduceIte, reduceCtorEq, Int.toNat_zero]) | refine awp_block ?_ | ((first | with_reducible refine aord_nil ?_ | refine awp_skip ?_ | refine awp_exit ?_ | refine awp_ret ?_); try simp only [thenA_normal, thenA_exit, thenA_goto, thenA_ret, blockA_normal, blockA_same, blockA_exit, blockA_goto, blockA_ret, Nat.reduceEqDiff, if_false, if_true, reduceIte]) | (refine awp_region tabOk rfl ?_; simp only [prep, pickO, List.map_cons, List.map_nil, List.getElem?_toArray, List.getElem?_cons_succ, List.getElem?_cons_zero, Option.bind_some, Option.map_some]) | ((with_reducible apply awp_cond); (focus (simp only [St.ev, St.set, upd, Nat.reduceEqDiff, reduceIte, if_false, if_true]; exact rfl)); all_goals (intro hb; first | (cases hb; done) | ((try rw [hb]); (try simp only [decide_eq_true_eq, decide_eq_false_iff_not, beq_iff_eq, bne_iff_ne, beq_eq_false_iff_ne, bne_eq_false_iff_eq, Int.not_lt, Int.not_le, Bool.not_eq_true', Bool.not_eq_false'] at hb)))) | ((with_reducible refine And.intro ?_ ?_); (focus omega)) | ((with_reducible refine And.intro ?_ ?_); (focus (exact rfl))) | ((with_reducible refine And.intro (?_ : enters Try.prog 46) ?_); (focus exact Try.call46); (refine callX_satH someKeys_sat ?_); simp only [go_sem, and_assoc, List.nil_append, List.append_nil, List.cons_append, Nat.reduceEqDiff, reduceIte, reduceCtorEq, Int.toNat_zero]) | ((with_reducible refine And.intro (?_ : enters Try.prog 47) ?_); (focus exact Try.call47); (refine callX_h (callH_inline tabOk Try.func47 rfl 11 rfl [.tmp 2] rfl (Nat.le_of_ble_eq_true rfl) fun m0 hm0 hcl hlt => ?_)); simp only [initT, St.ev, St.set, upd, Nat.reduceEqDiff, reduceIte, if_false, if_true]) | (simp only [rBuild]; simp only [fillA, Nat.reduceLeDiff, List.getElem?_cons_zero, List.getElem?_cons_succ, List.drop_succ_cons, List.drop_nil, List.take_nil, List.cons_append, Option.isSome_some, go_sem, Nat.reduceAdd, Nat.reduceMul, Nat.reduceEqDiff, Nat.reduceLT, reduceIte, reduceCtorEq]) | (simp only [doneH]; simp only [ressK, resK, wrapR, go_sem, Nat.reduceAdd, Nat.reduceMul, Nat.reduceEqDiff, Nat.reduceLT, reduceIte, reduceCtorEq]) | (with_reducible refine And.intro (fun hb => ?_) (fun hb => ?_)) | (exfalso; omega) | fail)
  all_goals (simp only [St.set, St.ev, doneQ, doneH, ressK, resK, wrapR, AV.ids, AV.idsL, retK, retsK, upd, Nat.reduceEqDiff, reduceIte, if_false, if_true, List.nodup_nil, List.nodup_cons, List.not_mem_nil, not_false_eq_true, true_and, and_true, exists_eq_left', Option.some.injEq, rLoad, cellOf, tab, Ty.isAgg, Ty.one, Bool.false_eq_true]; simp only [Cont.closed, Cont.len, true_and]; exact hQ ys hys)

theorem drawFarthestOf_sat : Sat Try.prog 27 (fun ds Q => ∃ bs, ds = [.row (.ints .u8 bs)] ∧ bs.length ≤ 1099511627776 ∧ bytesOk bs ∧ ∀ ys : List Int, ys.length ≤ 17 → Q (.row (.ints .i64 ys))) := by
  refine sat_intro tabOk Try.func27 rfl 6 rfl [.tmp 2] rfl ?_
  rintro ds Q W ⟨bs, rfl, hlen, hbs, hQ⟩
  refine ⟨Nat.le_of_ble_eq_true rfl, ?_⟩
  simp only [initS, initT, mat.matL, mat, Cont.len]
  repeat' (first | refine awp_seq_k fun K hK => ?_ | ((with_reducible refine hK _ ?_); clear hK K) | (clear hK K; (with_reducible refine hK _ ?_); clear hK K) | (clear hK K; clear hK K; (with_reducible refine hK _ ?_); clear hK K) | (clear hK K; clear hK K; clear hK K; (with_reducible refine hK _ ?_); clear hK K) | (clear hK K; clear hK K; clear hK K; clear hK K; (with_reducible refine hK _ ?_); clear hK K) | (clear hK K; clear hK K; clear hK K; clear hK K; clear hK K; (with_reducible refine hK _ ?_); clear hK K) | ((with_reducible refine aord_plain fun K hK => ?_); simp only [go_sem, Nat.reduceAdd, Nat.reduceMul, Nat.reduceEqDiff, Nat.reduceLT, reduceIte, reduceCtorEq, Int.toNat_zero]) | refine awp_block ?_ | ((first | with_reducible refine aord_nil ?_ | refine awp_skip ?_ | refine awp_exit ?_ | refine awp_ret ?_); try simp only [thenA_normal, thenA_exit, thenA_goto, thenA_ret, blockA_normal, blockA_same, blockA_exit, blockA_goto, blockA_ret, Nat.reduceEqDiff, if_false, if_true, reduceIte]) | (refine awp_region tabOk rfl ?_; simp only [prep, pickO, List.map_cons, List.map_nil, List.getElem?_toArray, List.getElem?_cons_succ, List.getElem?_cons_zero, Option.bind_some, Option.map_some]) | ((with_reducible apply awp_cond); (focus (simp only [St.ev, St.set, upd, Nat.reduceEqDiff, reduceIte, if_false, if_true]; exact rfl)); all_goals (intro hb; first | (cases hb; done) | ((try rw [hb]); (try simp only [decide_eq_true_eq, decide_eq_false_iff_not, beq_iff_eq, bne_iff_ne, beq_eq_false_iff_ne, bne_eq_false_iff_eq, Int.not_lt, Int.not_le, Bool.not_eq_true', Bool.not_eq_false'] at hb)))) | ((with_reducible refine And.intro ?_ ?_); (focus omega)) | ((with_reducible refine And.intro ?_ ?_); (focus (exact rfl))) | ((with_reducible refine And.intro (?_ : enters Try.prog 46) ?_); (focus exact Try.call46); (refine callX_satH someKeys_sat ?_); simp only [go_sem, and_assoc, List.nil_append, List.append_nil, List.cons_append, Nat.reduceEqDiff, reduceIte, reduceCtorEq, Int.toNat_zero]) | ((with_reducible refine And.intro (?_ : enters Try.prog 47) ?_); (focus exact Try.call47); (refine callX_h (callH_inline tabOk Try.func47 rfl 11 rfl [.tmp 2] rfl (Nat.le_of_ble_eq_true rfl) fun m0 hm0 hcl hlt => ?_)); simp only [initT, St.ev, St.set, upd, Nat.reduceEqDiff, reduceIte, if_false, if_true]) | (simp only [rBuild]; simp only [fillA, Nat.reduceLeDiff, List.getElem?_cons_zero, List.getElem?_cons_succ, List.drop_succ_cons, List.drop_nil, List.take_nil, List.cons_append, Option.isSome_some, go_sem, Nat.reduceAdd, Nat.reduceMul, Nat.reduceEqDiff, Nat.reduceLT, reduceIte, reduceCtorEq]) | (simp only [doneH]; simp only [ressK, resK, wrapR, go_sem, Nat.reduceAdd, Nat.reduceMul, Nat.reduceEqDiff, Nat.reduceLT, reduceIte, reduceCtorEq]) | (with_reducible refine And.intro (fun hb => ?_) (fun hb => ?_)) | (exfalso; omega) | fail)
  all_goals (
    refine ⟨_, _, 0, rfl, by omega, by omega, hbs, by omega, ?_⟩
    intro ys r hys hr)
  repeat' (first | refine awp_seq_k fun K hK => ?_ | ((with_reducible refine hK _ ?_); clear hK K) | (clear hK K; (with_reducible refine hK _ ?_); clear hK K) | (clear hK K; clear hK K; (with_reducible refine hK _ ?_); clear hK K) | (clear hK K; clear hK K; clear hK K; (with_reducible refine hK _ ?_); clear hK K) | (clear hK K; clear hK K; clear hK K; clear hK K; (with_reducible refine hK _ ?_); clear hK K) | (clear hK K; clear hK K; clear hK K; clear hK K; clear hK K; (with_reducible refine hK _ ?_); clear hK K) | ((with_reducible refine aord_plain fun K hK => ?_); simp only [go_sem, Nat.reduceAdd, Nat.reduceMul, Nat.reduceEqDiff, Nat.reduceLT, reduceIte, reduceCtorEq, Int.toNat_zero]) | refine awp_block ?_ | ((first | with_reducible refine aord_nil ?_ | refine awp_skip ?_ | refine awp_exit ?_ | refine awp_ret ?_); try simp only [thenA_normal, thenA_exit, thenA_goto, thenA_ret, blockA_normal, blockA_same, blockA_exit, blockA_goto, blockA_ret, Nat.reduceEqDiff, if_false, if_true, reduceIte]) | (refine awp_region tabOk rfl ?_; simp only [prep, pickO, List.map_cons, List.map_nil, List.getElem?_toArray, List.getElem?_cons_succ, List.getElem?_cons_zero, Option.bind_some, Option.map_some]) | ((with_reducible apply awp_cond); (focus (simp only [St.ev, St.set, upd, Nat.reduceEqDiff, reduceIte, if_false, if_true]; exact rfl)); all_goals (intro hb; first | (cases hb; done) | ((try rw [hb]); (try simp only [decide_eq_true_eq, decide_eq_false_iff_not, beq_iff_eq, bne_iff_ne, beq_eq_false_iff_ne, bne_eq_false_iff_eq, Int.not_lt, Int.not_le, Bool.not_eq_true', Bool.not_eq_false'] at hb)))) | ((with_reducible refine And.intro ?_ ?_); (focus omega)) | ((with_reducible refine And.intro ?_ ?_); (focus (exact rfl))) | ((with_reducible refine And.intro (?_ : enters Try.prog 46) ?_); (focus exact Try.call46); (refine callX_satH someKeys_sat ?_); simp only [go_sem, and_assoc, List.nil_append, List.append_nil, List.cons_append, Nat.reduceEqDiff, reduceIte, reduceCtorEq, Int.toNat_zero]) | ((with_reducible refine And.intro (?_ : enters Try.prog 47) ?_); (focus exact Try.call47); (refine callX_h (callH_inline tabOk Try.func47 rfl 11 rfl [.tmp 2] rfl (Nat.le_of_ble_eq_true rfl) fun m0 hm0 hcl hlt => ?_)); simp only [initT, St.ev, St.set, upd, Nat.reduceEqDiff, reduceIte, if_false, if_true]) | (simp only [rBuild]; simp only [fillA, Nat.reduceLeDiff, List.getElem?_cons_zero, List.getElem?_cons_succ, List.drop_succ_cons, List.drop_nil, List.take_nil, List.cons_append, Option.isSome_some, go_sem, Nat.reduceAdd, Nat.reduceMul, Nat.reduceEqDiff, Nat.reduceLT, reduceIte, reduceCtorEq]) | (simp only [doneH]; simp only [ressK, resK, wrapR, go_sem, Nat.reduceAdd, Nat.reduceMul, Nat.reduceEqDiff, Nat.reduceLT, reduceIte, reduceCtorEq]) | (with_reducible refine And.intro (fun hb => ?_) (fun hb => ?_)) | (exfalso; omega) | fail)
  all_goals (simp only [St.set, St.ev, doneQ, doneH, ressK, resK, wrapR, AV.ids, AV.idsL, retK, retsK, upd, Nat.reduceEqDiff, reduceIte, if_false, if_true, List.nodup_nil, List.nodup_cons, List.not_mem_nil, not_false_eq_true, true_and, and_true, exists_eq_left', Option.some.injEq, rLoad, cellOf, tab, Ty.isAgg, Ty.one, Bool.false_eq_true]; simp only [Cont.closed, Cont.len, true_and]; exact hQ ys hys)

theorem drawWidestOf_sat : Sat Try.prog 31 (fun ds Q => ∃ bs, ds = [.row (.ints .u8 bs)] ∧ bs.length ≤ 1099511627776 ∧ bytesOk bs ∧ ∀ ys : List Int, ys.length ≤ 17 → Q (.row (.ints .i64 ys))) := by
  refine sat_intro tabOk Try.func31 rfl 6 rfl [.tmp 2] rfl ?_
  rintro ds Q W ⟨bs, rfl, hlen, hbs, hQ⟩
  refine ⟨Nat.le_of_ble_eq_true rfl, ?_⟩
  simp only [initS, initT, mat.matL, mat, Cont.len]
  repeat' (first | refine awp_seq_k fun K hK => ?_ | ((with_reducible refine hK _ ?_); clear hK K) | (clear hK K; (with_reducible refine hK _ ?_); clear hK K) | (clear hK K; clear hK K; (with_reducible refine hK _ ?_); clear hK K) | (clear hK K; clear hK K; clear hK K; (with_reducible refine hK _ ?_); clear hK K) | (clear hK K; clear hK K; clear hK K; clear hK K; (with_reducible refine hK _ ?_); clear hK K) | (clear hK K; clear hK K; clear hK K; clear hK K; clear hK K; (with_reducible refine hK _ ?_); clear hK K) | ((with_reducible refine aord_plain fun K hK => ?_); simp only [go_sem, Nat.reduceAdd, Nat.reduceMul, Nat.reduceEqDiff, Nat.reduceLT, reduceIte, reduceCtorEq, Int.toNat_zero]) | refine awp_block ?_ | ((first | with_reducible refine aord_nil ?_ | refine awp_skip ?_ | refine awp_exit ?_ | refine awp_ret ?_); try simp only [thenA_normal, thenA_exit, thenA_goto, thenA_ret, blockA_normal, blockA_same, blockA_exit, blockA_goto, blockA_ret, Nat.reduceEqDiff, if_false, if_true, reduceIte]) | (refine awp_region tabOk rfl ?_; simp only [prep, pickO, List.map_cons, List.map_nil, List.getElem?_toArray, List.getElem?_cons_succ, List.getElem?_cons_zero, Option.bind_some, Option.map_some]) | ((with_reducible apply awp_cond); (focus (simp only [St.ev, St.set, upd, Nat.reduceEqDiff, reduceIte, if_false, if_true]; exact rfl)); all_goals (intro hb; first | (cases hb; done) | ((try rw [hb]); (try simp only [decide_eq_true_eq, decide_eq_false_iff_not, beq_iff_eq, bne_iff_ne, beq_eq_false_iff_ne, bne_eq_false_iff_eq, Int.not_lt, Int.not_le, Bool.not_eq_true', Bool.not_eq_false'] at hb)))) | ((with_reducible refine And.intro ?_ ?_); (focus omega)) | ((with_reducible refine And.intro ?_ ?_); (focus (exact rfl))) | ((with_reducible refine And.intro (?_ : enters Try.prog 46) ?_); (focus exact Try.call46); (refine callX_satH someKeys_sat ?_); simp only [go_sem, and_assoc, List.nil_append, List.append_nil, List.cons_append, Nat.reduceEqDiff, reduceIte, reduceCtorEq, Int.toNat_zero]) | ((with_reducible refine And.intro (?_ : enters Try.prog 47) ?_); (focus exact Try.call47); (refine callX_h (callH_inline tabOk Try.func47 rfl 11 rfl [.tmp 2] rfl (Nat.le_of_ble_eq_true rfl) fun m0 hm0 hcl hlt => ?_)); simp only [initT, St.ev, St.set, upd, Nat.reduceEqDiff, reduceIte, if_false, if_true]) | (simp only [rBuild]; simp only [fillA, Nat.reduceLeDiff, List.getElem?_cons_zero, List.getElem?_cons_succ, List.drop_succ_cons, List.drop_nil, List.take_nil, List.cons_append, Option.isSome_some, go_sem, Nat.reduceAdd, Nat.reduceMul, Nat.reduceEqDiff, Nat.reduceLT, reduceIte, reduceCtorEq]) | (simp only [doneH]; simp only [ressK, resK, wrapR, go_sem, Nat.reduceAdd, Nat.reduceMul, Nat.reduceEqDiff, Nat.reduceLT, reduceIte, reduceCtorEq]) | (with_reducible refine And.intro (fun hb => ?_) (fun hb => ?_)) | (exfalso; omega) | fail)
  all_goals (
    refine ⟨_, _, 0, rfl, by omega, by omega, hbs, by omega, ?_⟩
    intro ys r hys hr)
  repeat' (first | refine awp_seq_k fun K hK => ?_ | ((with_reducible refine hK _ ?_); clear hK K) | (clear hK K; (with_reducible refine hK _ ?_); clear hK K) | (clear hK K; clear hK K; (with_reducible refine hK _ ?_); clear hK K) | (clear hK K; clear hK K; clear hK K; (with_reducible refine hK _ ?_); clear hK K) | (clear hK K; clear hK K; clear hK K; clear hK K; (with_reducible refine hK _ ?_); clear hK K) | (clear hK K; clear hK K; clear hK K; clear hK K; clear hK K; (with_reducible refine hK _ ?_); clear hK K) | ((with_reducible refine aord_plain fun K hK => ?_); simp only [go_sem, Nat.reduceAdd, Nat.reduceMul, Nat.reduceEqDiff, Nat.reduceLT, reduceIte, reduceCtorEq, Int.toNat_zero]) | refine awp_block ?_ | ((first | with_reducible refine aord_nil ?_ | refine awp_skip ?_ | refine awp_exit ?_ | refine awp_ret ?_); try simp only [thenA_normal, thenA_exit, thenA_goto, thenA_ret, blockA_normal, blockA_same, blockA_exit, blockA_goto, blockA_ret, Nat.reduceEqDiff, if_false, if_true, reduceIte]) | (refine awp_region tabOk rfl ?_; simp only [prep, pickO, List.map_cons, List.map_nil, List.getElem?_toArray, List.getElem?_cons_succ, List.getElem?_cons_zero, Option.bind_some, Option.map_some]) | ((with_reducible apply awp_cond); (focus (simp only [St.ev, St.set, upd, Nat.reduceEqDiff, reduceIte, if_false, if_true]; exact rfl)); all_goals (intro hb; first | (cases hb; done) | ((try rw [hb]); (try simp only [decide_eq_true_eq, decide_eq_false_iff_not, beq_iff_eq, bne_iff_ne, beq_eq_false_iff_ne, bne_eq_false_iff_eq, Int.not_lt, Int.not_le, Bool.not_eq_true', Bool.not_eq_false'] at hb)))) | ((with_reducible refine And.intro ?_ ?_); (focus omega)) | ((with_reducible refine And.intro ?_ ?_); (focus (exact rfl))) | ((with_reducible refine And.intro (?_ : enters Try.prog 46) ?_); (focus exact Try.call46); (refine callX_satH someKeys_sat ?_); simp only [go_sem, and_assoc, List.nil_append, List.append_nil, List.cons_append, Nat.reduceEqDiff, reduceIte, reduceCtorEq, Int.toNat_zero]) | ((with_reducible refine And.intro (?_ : enters Try.prog 47) ?_); (focus exact Try.call47); (refine callX_h (callH_inline tabOk Try.func47 rfl 11 rfl [.tmp 2] rfl (Nat.le_of_ble_eq_true rfl) fun m0 hm0 hcl hlt => ?_)); simp only [initT, St.ev, St.set, upd, Nat.reduceEqDiff, reduceIte, if_false, if_true]) | (simp only [rBuild]; simp only [fillA, Nat.reduceLeDiff, List.getElem?_cons_zero, List.getElem?_cons_succ, List.drop_succ_cons, List.drop_nil, List.take_nil, List.cons_append, Option.isSome_some, go_sem, Nat.reduceAdd, Nat.reduceMul, Nat.reduceEqDiff, Nat.reduceLT, reduceIte, reduceCtorEq]) | (simp only [doneH]; simp only [ressK, resK, wrapR, go_sem, Nat.reduceAdd, Nat.reduceMul, Nat.reduceEqDiff, Nat.reduceLT, reduceIte, reduceCtorEq]) | (with_reducible refine And.intro (fun hb => ?_) (fun hb => ?_)) | (exfalso; omega) | fail)
  all_goals (simp only [St.set, St.ev, doneQ, doneH, ressK, resK, wrapR, AV.ids, AV.idsL, retK, retsK, upd, Nat.reduceEqDiff, reduceIte, if_false, if_true, List.nodup_nil, List.nodup_cons, List.not_mem_nil, not_false_eq_true, true_and, and_true, exists_eq_left', Option.some.injEq, rLoad, cellOf, tab, Ty.isAgg, Ty.one, Bool.false_eq_true]; simp only [Cont.closed, Cont.len, true_and]; exact hQ ys hys)

theorem drawSwingsOf_sat : Sat Try.prog 37 (fun ds Q => ∃ bs, ds = [.row (.ints .u8 bs)] ∧ bs.length ≤ 1099511627776 ∧ bytesOk bs ∧ ∀ ys : List Int, ys.length ≤ 17 → Q (.row (.ints .i64 ys))) := by
  refine sat_intro tabOk Try.func37 rfl 6 rfl [.tmp 2] rfl ?_
  rintro ds Q W ⟨bs, rfl, hlen, hbs, hQ⟩
  refine ⟨Nat.le_of_ble_eq_true rfl, ?_⟩
  simp only [initS, initT, mat.matL, mat, Cont.len]
  repeat' (first | refine awp_seq_k fun K hK => ?_ | ((with_reducible refine hK _ ?_); clear hK K) | (clear hK K; (with_reducible refine hK _ ?_); clear hK K) | (clear hK K; clear hK K; (with_reducible refine hK _ ?_); clear hK K) | (clear hK K; clear hK K; clear hK K; (with_reducible refine hK _ ?_); clear hK K) | (clear hK K; clear hK K; clear hK K; clear hK K; (with_reducible refine hK _ ?_); clear hK K) | (clear hK K; clear hK K; clear hK K; clear hK K; clear hK K; (with_reducible refine hK _ ?_); clear hK K) | ((with_reducible refine aord_plain fun K hK => ?_); simp only [go_sem, Nat.reduceAdd, Nat.reduceMul, Nat.reduceEqDiff, Nat.reduceLT, reduceIte, reduceCtorEq, Int.toNat_zero]) | refine awp_block ?_ | ((first | with_reducible refine aord_nil ?_ | refine awp_skip ?_ | refine awp_exit ?_ | refine awp_ret ?_); try simp only [thenA_normal, thenA_exit, thenA_goto, thenA_ret, blockA_normal, blockA_same, blockA_exit, blockA_goto, blockA_ret, Nat.reduceEqDiff, if_false, if_true, reduceIte]) | (refine awp_region tabOk rfl ?_; simp only [prep, pickO, List.map_cons, List.map_nil, List.getElem?_toArray, List.getElem?_cons_succ, List.getElem?_cons_zero, Option.bind_some, Option.map_some]) | ((with_reducible apply awp_cond); (focus (simp only [St.ev, St.set, upd, Nat.reduceEqDiff, reduceIte, if_false, if_true]; exact rfl)); all_goals (intro hb; first | (cases hb; done) | ((try rw [hb]); (try simp only [decide_eq_true_eq, decide_eq_false_iff_not, beq_iff_eq, bne_iff_ne, beq_eq_false_iff_ne, bne_eq_false_iff_eq, Int.not_lt, Int.not_le, Bool.not_eq_true', Bool.not_eq_false'] at hb)))) | ((with_reducible refine And.intro ?_ ?_); (focus omega)) | ((with_reducible refine And.intro ?_ ?_); (focus (exact rfl))) | ((with_reducible refine And.intro (?_ : enters Try.prog 46) ?_); (focus exact Try.call46); (refine callX_satH someKeys_sat ?_); simp only [go_sem, and_assoc, List.nil_append, List.append_nil, List.cons_append, Nat.reduceEqDiff, reduceIte, reduceCtorEq, Int.toNat_zero]) | ((with_reducible refine And.intro (?_ : enters Try.prog 47) ?_); (focus exact Try.call47); (refine callX_h (callH_inline tabOk Try.func47 rfl 11 rfl [.tmp 2] rfl (Nat.le_of_ble_eq_true rfl) fun m0 hm0 hcl hlt => ?_)); simp only [initT, St.ev, St.set, upd, Nat.reduceEqDiff, reduceIte, if_false, if_true]) | (simp only [rBuild]; simp only [fillA, Nat.reduceLeDiff, List.getElem?_cons_zero, List.getElem?_cons_succ, List.drop_succ_cons, List.drop_nil, List.take_nil, List.cons_append, Option.isSome_some, go_sem, Nat.reduceAdd, Nat.reduceMul, Nat.reduceEqDiff, Nat.reduceLT, reduceIte, reduceCtorEq]) | (simp only [doneH]; simp only [ressK, resK, wrapR, go_sem, Nat.reduceAdd, Nat.reduceMul, Nat.reduceEqDiff, Nat.reduceLT, reduceIte, reduceCtorEq]) | (with_reducible refine And.intro (fun hb => ?_) (fun hb => ?_)) | (exfalso; omega) | fail)
  all_goals (
    refine ⟨_, _, 0, rfl, by omega, by omega, hbs, by omega, ?_⟩
    intro ys r hys hr)
  repeat' (first | refine awp_seq_k fun K hK => ?_ | ((with_reducible refine hK _ ?_); clear hK K) | (clear hK K; (with_reducible refine hK _ ?_); clear hK K) | (clear hK K; clear hK K; (with_reducible refine hK _ ?_); clear hK K) | (clear hK K; clear hK K; clear hK K; (with_reducible refine hK _ ?_); clear hK K) | (clear hK K; clear hK K; clear hK K; clear hK K; (with_reducible refine hK _ ?_); clear hK K) | (clear hK K; clear hK K; clear hK K; clear hK K; clear hK K; (with_reducible refine hK _ ?_); clear hK K) | ((with_reducible refine aord_plain fun K hK => ?_); simp only [go_sem, Nat.reduceAdd, Nat.reduceMul, Nat.reduceEqDiff, Nat.reduceLT, reduceIte, reduceCtorEq, Int.toNat_zero]) | refine awp_block ?_ | ((first | with_reducible refine aord_nil ?_ | refine awp_skip ?_ | refine awp_exit ?_ | refine awp_ret ?_); try simp only [thenA_normal, thenA_exit, thenA_goto, thenA_ret, blockA_normal, blockA_same, blockA_exit, blockA_goto, blockA_ret, Nat.reduceEqDiff, if_false, if_true, reduceIte]) | (refine awp_region tabOk rfl ?_; simp only [prep, pickO, List.map_cons, List.map_nil, List.getElem?_toArray, List.getElem?_cons_succ, List.getElem?_cons_zero, Option.bind_some, Option.map_some]) | ((with_reducible apply awp_cond); (focus (simp only [St.ev, St.set, upd, Nat.reduceEqDiff, reduceIte, if_false, if_true]; exact rfl)); all_goals (intro hb; first | (cases hb; done) | ((try rw [hb]); (try simp only [decide_eq_true_eq, decide_eq_false_iff_not, beq_iff_eq, bne_iff_ne, beq_eq_false_iff_ne, bne_eq_false_iff_eq, Int.not_lt, Int.not_le, Bool.not_eq_true', Bool.not_eq_false'] at hb)))) | ((with_reducible refine And.intro ?_ ?_); (focus omega)) | ((with_reducible refine And.intro ?_ ?_); (focus (exact rfl))) | ((with_reducible refine And.intro (?_ : enters Try.prog 46) ?_); (focus exact Try.call46); (refine callX_satH someKeys_sat ?_); simp only [go_sem, and_assoc, List.nil_append, List.append_nil, List.cons_append, Nat.reduceEqDiff, reduceIte, reduceCtorEq, Int.toNat_zero]) | ((with_reducible refine And.intro (?_ : enters Try.prog 47) ?_); (focus exact Try.call47); (refine callX_h (callH_inline tabOk Try.func47 rfl 11 rfl [.tmp 2] rfl (Nat.le_of_ble_eq_true rfl) fun m0 hm0 hcl hlt => ?_)); simp only [initT, St.ev, St.set, upd, Nat.reduceEqDiff, reduceIte, if_false, if_true]) | (simp only [rBuild]; simp only [fillA, Nat.reduceLeDiff, List.getElem?_cons_zero, List.getElem?_cons_succ, List.drop_succ_cons, List.drop_nil, List.take_nil, List.cons_append, Option.isSome_some, go_sem, Nat.reduceAdd, Nat.reduceMul, Nat.reduceEqDiff, Nat.reduceLT, reduceIte, reduceCtorEq]) | (simp only [doneH]; simp only [ressK, resK, wrapR, go_sem, Nat.reduceAdd, Nat.reduceMul, Nat.reduceEqDiff, Nat.reduceLT, reduceIte, reduceCtorEq]) | (with_reducible refine And.intro (fun hb => ?_) (fun hb => ?_)) | (exfalso; omega) | fail)
  all_goals (simp only [St.set, St.ev, doneQ, doneH, ressK, resK, wrapR, AV.ids, AV.idsL, retK, retsK, upd, Nat.reduceEqDiff, reduceIte, if_false, if_true, List.nodup_nil, List.nodup_cons, List.not_mem_nil, not_false_eq_true, true_and, and_true, exists_eq_left', Option.some.injEq, rLoad, cellOf, tab, Ty.isAgg, Ty.one, Bool.false_eq_true]; simp only [Cont.closed, Cont.len, true_and]; exact hQ ys hys)

theorem FnExchangesOf_sat : Sat Try.prog 5 (fun ds Q => ∃ bs, ds = [.row (.ints .u8 bs)] ∧ bs.length ≤ 9223372036854775807 ∧ bytesOk bs ∧ Q (.val (.bool true))) := by
  refine sat_intro tabOk Try.func5 rfl 53 rfl [.tmp 2] rfl ?_
  rintro ds Q W ⟨bs, rfl, hlen, hbs, hQ⟩
  refine ⟨Nat.le_of_ble_eq_true rfl, ?_⟩
  simp only [initS, initT, mat.matL, mat, Cont.len]
  repeat' (first | refine awp_seq_k fun K hK => ?_ | ((with_reducible refine hK _ ?_); clear hK K) | (clear hK K; (with_reducible refine hK _ ?_); clear hK K) | (clear hK K; clear hK K; (with_reducible refine hK _ ?_); clear hK K) | (clear hK K; clear hK K; clear hK K; (with_reducible refine hK _ ?_); clear hK K) | (clear hK K; clear hK K; clear hK K; clear hK K; (with_reducible refine hK _ ?_); clear hK K) | (clear hK K; clear hK K; clear hK K; clear hK K; clear hK K; (with_reducible refine hK _ ?_); clear hK K) | ((with_reducible refine aord_plain fun K hK => ?_); simp only [go_sem, Nat.reduceAdd, Nat.reduceMul, Nat.reduceEqDiff, Nat.reduceLT, reduceIte, reduceCtorEq]) | ((with_reducible apply aord_guard); (focus (simp only [St.ev, St.set, upd, Nat.reduceEqDiff, reduceIte, if_false, if_true]; exact rfl)); all_goals (intro hb; (try simp only [Bool.not_true, Bool.not_false] at hb); first | (cases hb; done) | ((try rw [hb]); (try simp only [Bool.not_eq_true', Bool.not_eq_false', Bool.and_eq_true, decide_eq_true_eq, decide_eq_false_iff_not, beq_iff_eq, bne_iff_ne, beq_eq_false_iff_ne, bne_eq_false_iff_eq, Int.not_lt, Int.not_le] at hb); (try (revert hb; with_reducible refine true_imp_iff.2 ?_)); first | (intro K hK; simp only [go_sem, Nat.reduceAdd, Nat.reduceMul, Nat.reduceEqDiff, Nat.reduceLT, reduceIte, reduceCtorEq]) | (simp only [St.ev, St.set, upd, Nat.reduceEqDiff, reduceIte, if_false, if_true]) | skip))) | ((with_reducible apply aord_skip); (focus (simp only [St.ev, St.set, upd, Nat.reduceEqDiff, reduceIte, if_false, if_true]; done)); (simp only [St.ev, St.set, upd, Nat.reduceEqDiff, reduceIte, if_false, if_true])) | refine awp_block ?_ | ((first | with_reducible refine aord_nil ?_ | refine awp_skip ?_ | refine awp_exit ?_ | refine awp_ret ?_); try simp only [thenA_normal, thenA_exit, thenA_goto, thenA_ret, blockA_normal, blockA_same, blockA_exit, blockA_goto, blockA_ret, Nat.reduceEqDiff, if_false, if_true, reduceIte]) | (refine awp_region tabOk rfl ?_; simp only [prep, pickO, List.map_cons, List.map_nil, List.getElem?_toArray, List.getElem?_cons_succ, List.getElem?_cons_zero, Option.bind_some, Option.map_some]) | ((with_reducible apply awp_cond); (focus (simp only [St.ev, St.set, upd, Nat.reduceEqDiff, reduceIte, if_false, if_true]; exact rfl)); all_goals (intro hb; first | (cases hb; done) | ((try rw [hb]); (try simp only [decide_eq_true_eq, decide_eq_false_iff_not, beq_iff_eq, bne_iff_ne, beq_eq_false_iff_ne, bne_eq_false_iff_eq, Int.not_lt, Int.not_le, Bool.not_eq_true', Bool.not_eq_false'] at hb)))) | ((with_reducible refine And.intro ?_ ?_); (focus omega)) | ((with_reducible refine And.intro ?_ ?_); (focus (exact rfl))) | ((with_reducible refine And.intro (?_ : enters Try.prog 24) ?_); (focus exact Try.call24); (refine callX_sat drawExchangesOf_sat ?_); simp only [go_sem, and_assoc, List.nil_append, List.append_nil, List.cons_append, Nat.reduceEqDiff, reduceIte, reduceCtorEq]) | ((with_reducible refine And.intro (?_ : enters Try.prog 25) ?_); (focus exact Try.call25); (refine callX_sat implExchangesOf_sat ?_); simp only [go_sem, and_assoc, List.nil_append, List.append_nil, List.cons_append, Nat.reduceEqDiff, reduceIte, reduceCtorEq]) | ((with_reducible refine And.intro (?_ : enters Try.prog 26) ?_); (focus exact Try.call26); (refine callX_sat specExchangesOf_sat ?_); simp only [go_sem, and_assoc, List.nil_append, List.append_nil, List.cons_append, Nat.reduceEqDiff, reduceIte, reduceCtorEq]) | ((with_reducible refine And.intro (?_ : enters Try.prog 16) ?_); (focus exact Try.call16); (refine callX_sat implValidKeys_sat ?_); simp only [go_sem, and_assoc, List.nil_append, List.append_nil, List.cons_append, Nat.reduceEqDiff, reduceIte, reduceCtorEq]) | ((with_reducible refine And.intro (?_ : enters Try.prog 22) ?_); (focus exact Try.call22); (refine callX_sat implInversionsOf_sat ?_); simp only [go_sem, and_assoc, List.nil_append, List.append_nil, List.cons_append, Nat.reduceEqDiff, reduceIte, reduceCtorEq]) | ((with_reducible refine And.intro (?_ : enters Try.prog 23) ?_); (focus exact Try.call23); (refine callX_sat implMisplacedOf_sat ?_); simp only [go_sem, and_assoc, List.nil_append, List.append_nil, List.cons_append, Nat.reduceEqDiff, reduceIte, reduceCtorEq]) | ((with_reducible refine And.intro (?_ : enters Try.prog 18) ?_); (focus exact Try.call18); (refine callX_sat implIsSorted_sat ?_); simp only [go_sem, and_assoc, List.nil_append, List.append_nil, List.cons_append, Nat.reduceEqDiff, reduceIte, reduceCtorEq]) | (with_reducible refine And.intro (fun hb => ?_) (fun hb => ?_)) | (exfalso; omega) | fail)
  · simp only [St.set, St.ev, doneQ, doneH, ressK, resK, wrapR, AV.ids, AV.idsL, retK, retsK, upd, Nat.reduceEqDiff, reduceIte, if_false, if_true, List.nodup_nil, List.nodup_cons, List.not_mem_nil, not_false_eq_true, true_and, and_true, exists_eq_left', Option.some.injEq, rLoad, cellOf, tab, Ty.isAgg, Ty.one, Bool.false_eq_true]
    exact hQ
  intro xs hxs
  rcases Bool.eq_false_or_eq_true (validB xs) with hv | hv
  · have h8 := valid_len hv
    have h1 := decide_eq_true (exc_inv xs)
    have h2 := decide_eq_true (mis_exc xs)
    have h3 := exc_srt xs
    have hc := cirN_in xs xs.length
    have g1 := exc_inv xs
    have g2 := mis_exc xs
    cases hs : srt xs with
    | true =>
      rw [hs] at h3
      have g3 : (xs.length : Int) - cirN xs xs.length = 0 := by simpa using h3

      repeat' (first | refine awp_seq_k fun K hK => ?_ | ((with_reducible refine hK _ ?_); clear hK K) | (clear hK K; (with_reducible refine hK _ ?_); clear hK K) | (clear hK K; clear hK K; (with_reducible refine hK _ ?_); clear hK K) | (clear hK K; clear hK K; clear hK K; (with_reducible refine hK _ ?_); clear hK K) | (clear hK K; clear hK K; clear hK K; clear hK K; (with_reducible refine hK _ ?_); clear hK K) | (clear hK K; clear hK K; clear hK K; clear hK K; clear hK K; (with_reducible refine hK _ ?_); clear hK K) | ((with_reducible refine aord_plain fun K hK => ?_); simp only [go_sem, Nat.reduceAdd, Nat.reduceMul, Nat.reduceEqDiff, Nat.reduceLT, reduceIte, reduceCtorEq, hv, hs, h1, h2, h3, sq_beq, sq_bne, int_bne, Bool.true_and]) | ((with_reducible apply aord_guard); (focus (simp only [St.ev, St.set, upd, Nat.reduceEqDiff, reduceIte, if_false, if_true]; exact rfl)); all_goals (intro hb; (try simp only [Bool.not_true, Bool.not_false] at hb); first | (cases hb; done) | ((try rw [hb]); (try simp only [Bool.not_eq_true', Bool.not_eq_false', Bool.and_eq_true, decide_eq_true_eq, decide_eq_false_iff_not, beq_iff_eq, bne_iff_ne, beq_eq_false_iff_ne, bne_eq_false_iff_eq, Int.not_lt, Int.not_le] at hb); (try (revert hb; with_reducible refine true_imp_iff.2 ?_)); first | (intro K hK; simp only [go_sem, Nat.reduceAdd, Nat.reduceMul, Nat.reduceEqDiff, Nat.reduceLT, reduceIte, reduceCtorEq]) | (simp only [St.ev, St.set, upd, Nat.reduceEqDiff, reduceIte, if_false, if_true]) | skip))) | ((with_reducible apply aord_skip); (focus (simp only [St.ev, St.set, upd, Nat.reduceEqDiff, reduceIte, if_false, if_true]; done)); (simp only [St.ev, St.set, upd, Nat.reduceEqDiff, reduceIte, if_false, if_true])) | refine awp_block ?_ | ((first | with_reducible refine aord_nil ?_ | refine awp_skip ?_ | refine awp_exit ?_ | refine awp_ret ?_); try simp only [thenA_normal, thenA_exit, thenA_goto, thenA_ret, blockA_normal, blockA_same, blockA_exit, blockA_goto, blockA_ret, Nat.reduceEqDiff, if_false, if_true, reduceIte]) | (refine awp_region tabOk rfl ?_; simp only [prep, pickO, List.map_cons, List.map_nil, List.getElem?_toArray, List.getElem?_cons_succ, List.getElem?_cons_zero, Option.bind_some, Option.map_some]) | ((with_reducible apply awp_cond); (focus (simp only [St.ev, St.set, upd, Nat.reduceEqDiff, reduceIte, if_false, if_true]; exact rfl)); all_goals (intro hb; first | (cases hb; done) | ((try rw [hb]); (try simp only [decide_eq_true_eq, decide_eq_false_iff_not, beq_iff_eq, bne_iff_ne, beq_eq_false_iff_ne, bne_eq_false_iff_eq, Int.not_lt, Int.not_le, Bool.not_eq_true', Bool.not_eq_false'] at hb)))) | ((with_reducible refine And.intro ?_ ?_); (focus omega)) | ((with_reducible refine And.intro ?_ ?_); (focus (exact rfl))) | ((with_reducible refine And.intro (?_ : enters Try.prog 24) ?_); (focus exact Try.call24); (refine callX_sat drawExchangesOf_sat ?_); simp only [go_sem, and_assoc, List.nil_append, List.append_nil, List.cons_append, Nat.reduceEqDiff, reduceIte, reduceCtorEq, hv, hs, h1, h2, h3, sq_beq, sq_bne, int_bne, Bool.true_and]) | ((with_reducible refine And.intro (?_ : enters Try.prog 25) ?_); (focus exact Try.call25); (refine callX_sat implExchangesOf_sat ?_); simp only [go_sem, and_assoc, List.nil_append, List.append_nil, List.cons_append, Nat.reduceEqDiff, reduceIte, reduceCtorEq, hv, hs, h1, h2, h3, sq_beq, sq_bne, int_bne, Bool.true_and]) | ((with_reducible refine And.intro (?_ : enters Try.prog 26) ?_); (focus exact Try.call26); (refine callX_sat specExchangesOf_sat ?_); simp only [go_sem, and_assoc, List.nil_append, List.append_nil, List.cons_append, Nat.reduceEqDiff, reduceIte, reduceCtorEq, hv, hs, h1, h2, h3, sq_beq, sq_bne, int_bne, Bool.true_and]) | ((with_reducible refine And.intro (?_ : enters Try.prog 16) ?_); (focus exact Try.call16); (refine callX_sat implValidKeys_sat ?_); simp only [go_sem, and_assoc, List.nil_append, List.append_nil, List.cons_append, Nat.reduceEqDiff, reduceIte, reduceCtorEq, hv, hs, h1, h2, h3, sq_beq, sq_bne, int_bne, Bool.true_and]) | ((with_reducible refine And.intro (?_ : enters Try.prog 22) ?_); (focus exact Try.call22); (refine callX_sat implInversionsOf_sat ?_); simp only [go_sem, and_assoc, List.nil_append, List.append_nil, List.cons_append, Nat.reduceEqDiff, reduceIte, reduceCtorEq, hv, hs, h1, h2, h3, sq_beq, sq_bne, int_bne, Bool.true_and]) | ((with_reducible refine And.intro (?_ : enters Try.prog 23) ?_); (focus exact Try.call23); (refine callX_sat implMisplacedOf_sat ?_); simp only [go_sem, and_assoc, List.nil_append, List.append_nil, List.cons_append, Nat.reduceEqDiff, reduceIte, reduceCtorEq, hv, hs, h1, h2, h3, sq_beq, sq_bne, int_bne, Bool.true_and]) | ((with_reducible refine And.intro (?_ : enters Try.prog 18) ?_); (focus exact Try.call18); (refine callX_sat implIsSorted_sat ?_); simp only [go_sem, and_assoc, List.nil_append, List.append_nil, List.cons_append, Nat.reduceEqDiff, reduceIte, reduceCtorEq, hv, hs, h1, h2, h3, sq_beq, sq_bne, int_bne, Bool.true_and]) | (with_reducible refine And.intro (fun hb => ?_) (fun hb => ?_)) | (exfalso; omega) | fail)
      all_goals (simp only [St.set, St.ev, doneQ, doneH, ressK, resK, wrapR, AV.ids, AV.idsL, retK, retsK, upd, Nat.reduceEqDiff, reduceIte, if_false, if_true, List.nodup_nil, List.nodup_cons, List.not_mem_nil, not_false_eq_true, true_and, and_true, exists_eq_left', Option.some.injEq, rLoad, cellOf, tab, Ty.isAgg, Ty.one, Bool.false_eq_true]; exact hQ)
    | false =>
      rw [hs] at h3
      have g3 := (exc_mis xs).resolve_left (by simpa using h3)
      have g4 : (xs.length : Int) - cirN xs xs.length ≠ 0 := by simpa using h3
      have h4 := decide_eq_true g3

      repeat' (first | refine awp_seq_k fun K hK => ?_ | ((with_reducible refine hK _ ?_); clear hK K) | (clear hK K; (with_reducible refine hK _ ?_); clear hK K) | (clear hK K; clear hK K; (with_reducible refine hK _ ?_); clear hK K) | (clear hK K; clear hK K; clear hK K; (with_reducible refine hK _ ?_); clear hK K) | (clear hK K; clear hK K; clear hK K; clear hK K; (with_reducible refine hK _ ?_); clear hK K) | (clear hK K; clear hK K; clear hK K; clear hK K; clear hK K; (with_reducible refine hK _ ?_); clear hK K) | ((with_reducible refine aord_plain fun K hK => ?_); simp only [go_sem, Nat.reduceAdd, Nat.reduceMul, Nat.reduceEqDiff, Nat.reduceLT, reduceIte, reduceCtorEq, hv, hs, h1, h2, h3, h4, sq_beq, sq_bne, int_bne, Bool.true_and]) | ((with_reducible apply aord_guard); (focus (simp only [St.ev, St.set, upd, Nat.reduceEqDiff, reduceIte, if_false, if_true]; exact rfl)); all_goals (intro hb; (try simp only [Bool.not_true, Bool.not_false] at hb); first | (cases hb; done) | ((try rw [hb]); (try simp only [Bool.not_eq_true', Bool.not_eq_false', Bool.and_eq_true, decide_eq_true_eq, decide_eq_false_iff_not, beq_iff_eq, bne_iff_ne, beq_eq_false_iff_ne, bne_eq_false_iff_eq, Int.not_lt, Int.not_le] at hb); (try (revert hb; with_reducible refine true_imp_iff.2 ?_)); first | (intro K hK; simp only [go_sem, Nat.reduceAdd, Nat.reduceMul, Nat.reduceEqDiff, Nat.reduceLT, reduceIte, reduceCtorEq]) | (simp only [St.ev, St.set, upd, Nat.reduceEqDiff, reduceIte, if_false, if_true]) | skip))) | ((with_reducible apply aord_skip); (focus (simp only [St.ev, St.set, upd, Nat.reduceEqDiff, reduceIte, if_false, if_true]; done)); (simp only [St.ev, St.set, upd, Nat.reduceEqDiff, reduceIte, if_false, if_true])) | refine awp_block ?_ | ((first | with_reducible refine aord_nil ?_ | refine awp_skip ?_ | refine awp_exit ?_ | refine awp_ret ?_); try simp only [thenA_normal, thenA_exit, thenA_goto, thenA_ret, blockA_normal, blockA_same, blockA_exit, blockA_goto, blockA_ret, Nat.reduceEqDiff, if_false, if_true, reduceIte]) | (refine awp_region tabOk rfl ?_; simp only [prep, pickO, List.map_cons, List.map_nil, List.getElem?_toArray, List.getElem?_cons_succ, List.getElem?_cons_zero, Option.bind_some, Option.map_some]) | ((with_reducible apply awp_cond); (focus (simp only [St.ev, St.set, upd, Nat.reduceEqDiff, reduceIte, if_false, if_true]; exact rfl)); all_goals (intro hb; first | (cases hb; done) | ((try rw [hb]); (try simp only [decide_eq_true_eq, decide_eq_false_iff_not, beq_iff_eq, bne_iff_ne, beq_eq_false_iff_ne, bne_eq_false_iff_eq, Int.not_lt, Int.not_le, Bool.not_eq_true', Bool.not_eq_false'] at hb)))) | ((with_reducible refine And.intro ?_ ?_); (focus omega)) | ((with_reducible refine And.intro ?_ ?_); (focus (exact rfl))) | ((with_reducible refine And.intro (?_ : enters Try.prog 24) ?_); (focus exact Try.call24); (refine callX_sat drawExchangesOf_sat ?_); simp only [go_sem, and_assoc, List.nil_append, List.append_nil, List.cons_append, Nat.reduceEqDiff, reduceIte, reduceCtorEq, hv, hs, h1, h2, h3, h4, sq_beq, sq_bne, int_bne, Bool.true_and]) | ((with_reducible refine And.intro (?_ : enters Try.prog 25) ?_); (focus exact Try.call25); (refine callX_sat implExchangesOf_sat ?_); simp only [go_sem, and_assoc, List.nil_append, List.append_nil, List.cons_append, Nat.reduceEqDiff, reduceIte, reduceCtorEq, hv, hs, h1, h2, h3, h4, sq_beq, sq_bne, int_bne, Bool.true_and]) | ((with_reducible refine And.intro (?_ : enters Try.prog 26) ?_); (focus exact Try.call26); (refine callX_sat specExchangesOf_sat ?_); simp only [go_sem, and_assoc, List.nil_append, List.append_nil, List.cons_append, Nat.reduceEqDiff, reduceIte, reduceCtorEq, hv, hs, h1, h2, h3, h4, sq_beq, sq_bne, int_bne, Bool.true_and]) | ((with_reducible refine And.intro (?_ : enters Try.prog 16) ?_); (focus exact Try.call16); (refine callX_sat implValidKeys_sat ?_); simp only [go_sem, and_assoc, List.nil_append, List.append_nil, List.cons_append, Nat.reduceEqDiff, reduceIte, reduceCtorEq, hv, hs, h1, h2, h3, h4, sq_beq, sq_bne, int_bne, Bool.true_and]) | ((with_reducible refine And.intro (?_ : enters Try.prog 22) ?_); (focus exact Try.call22); (refine callX_sat implInversionsOf_sat ?_); simp only [go_sem, and_assoc, List.nil_append, List.append_nil, List.cons_append, Nat.reduceEqDiff, reduceIte, reduceCtorEq, hv, hs, h1, h2, h3, h4, sq_beq, sq_bne, int_bne, Bool.true_and]) | ((with_reducible refine And.intro (?_ : enters Try.prog 23) ?_); (focus exact Try.call23); (refine callX_sat implMisplacedOf_sat ?_); simp only [go_sem, and_assoc, List.nil_append, List.append_nil, List.cons_append, Nat.reduceEqDiff, reduceIte, reduceCtorEq, hv, hs, h1, h2, h3, h4, sq_beq, sq_bne, int_bne, Bool.true_and]) | ((with_reducible refine And.intro (?_ : enters Try.prog 18) ?_); (focus exact Try.call18); (refine callX_sat implIsSorted_sat ?_); simp only [go_sem, and_assoc, List.nil_append, List.append_nil, List.cons_append, Nat.reduceEqDiff, reduceIte, reduceCtorEq, hv, hs, h1, h2, h3, h4, sq_beq, sq_bne, int_bne, Bool.true_and]) | (with_reducible refine And.intro (fun hb => ?_) (fun hb => ?_)) | (exfalso; omega) | fail)
      all_goals (simp only [St.set, St.ev, doneQ, doneH, ressK, resK, wrapR, AV.ids, AV.idsL, retK, retsK, upd, Nat.reduceEqDiff, reduceIte, if_false, if_true, List.nodup_nil, List.nodup_cons, List.not_mem_nil, not_false_eq_true, true_and, and_true, exists_eq_left', Option.some.injEq, rLoad, cellOf, tab, Ty.isAgg, Ty.one, Bool.false_eq_true]; exact hQ)
  · skip

    repeat' (first | refine awp_seq_k fun K hK => ?_ | ((with_reducible refine hK _ ?_); clear hK K) | (clear hK K; (with_reducible refine hK _ ?_); clear hK K) | (clear hK K; clear hK K; (with_reducible refine hK _ ?_); clear hK K) | (clear hK K; clear hK K; clear hK K; (with_reducible refine hK _ ?_); clear hK K) | (clear hK K; clear hK K; clear hK K; clear hK K; (with_reducible refine hK _ ?_); clear hK K) | (clear hK K; clear hK K; clear hK K; clear hK K; clear hK K; (with_reducible refine hK _ ?_); clear hK K) | ((with_reducible refine aord_plain fun K hK => ?_); simp only [go_sem, Nat.reduceAdd, Nat.reduceMul, Nat.reduceEqDiff, Nat.reduceLT, reduceIte, reduceCtorEq, hv, sq_beq, sq_bne, int_bne, dec_self]) | ((with_reducible apply aord_guard); (focus (simp only [St.ev, St.set, upd, Nat.reduceEqDiff, reduceIte, if_false, if_true]; exact rfl)); all_goals (intro hb; (try simp only [Bool.not_true, Bool.not_false] at hb); first | (cases hb; done) | ((try rw [hb]); (try simp only [Bool.not_eq_true', Bool.not_eq_false', Bool.and_eq_true, decide_eq_true_eq, decide_eq_false_iff_not, beq_iff_eq, bne_iff_ne, beq_eq_false_iff_ne, bne_eq_false_iff_eq, Int.not_lt, Int.not_le] at hb); (try (revert hb; with_reducible refine true_imp_iff.2 ?_)); first | (intro K hK; simp only [go_sem, Nat.reduceAdd, Nat.reduceMul, Nat.reduceEqDiff, Nat.reduceLT, reduceIte, reduceCtorEq]) | (simp only [St.ev, St.set, upd, Nat.reduceEqDiff, reduceIte, if_false, if_true]) | skip))) | ((with_reducible apply aord_skip); (focus (simp only [St.ev, St.set, upd, Nat.reduceEqDiff, reduceIte, if_false, if_true]; done)); (simp only [St.ev, St.set, upd, Nat.reduceEqDiff, reduceIte, if_false, if_true])) | refine awp_block ?_ | ((first | with_reducible refine aord_nil ?_ | refine awp_skip ?_ | refine awp_exit ?_ | refine awp_ret ?_); try simp only [thenA_normal, thenA_exit, thenA_goto, thenA_ret, blockA_normal, blockA_same, blockA_exit, blockA_goto, blockA_ret, Nat.reduceEqDiff, if_false, if_true, reduceIte]) | (refine awp_region tabOk rfl ?_; simp only [prep, pickO, List.map_cons, List.map_nil, List.getElem?_toArray, List.getElem?_cons_succ, List.getElem?_cons_zero, Option.bind_some, Option.map_some]) | ((with_reducible apply awp_cond); (focus (simp only [St.ev, St.set, upd, Nat.reduceEqDiff, reduceIte, if_false, if_true]; exact rfl)); all_goals (intro hb; first | (cases hb; done) | ((try rw [hb]); (try simp only [decide_eq_true_eq, decide_eq_false_iff_not, beq_iff_eq, bne_iff_ne, beq_eq_false_iff_ne, bne_eq_false_iff_eq, Int.not_lt, Int.not_le, Bool.not_eq_true', Bool.not_eq_false'] at hb)))) | ((with_reducible refine And.intro ?_ ?_); (focus omega)) | ((with_reducible refine And.intro ?_ ?_); (focus (exact rfl))) | ((with_reducible refine And.intro (?_ : enters Try.prog 24) ?_); (focus exact Try.call24); (refine callX_sat drawExchangesOf_sat ?_); simp only [go_sem, and_assoc, List.nil_append, List.append_nil, List.cons_append, Nat.reduceEqDiff, reduceIte, reduceCtorEq, hv, sq_beq, sq_bne, int_bne, dec_self]) | ((with_reducible refine And.intro (?_ : enters Try.prog 25) ?_); (focus exact Try.call25); (refine callX_sat implExchangesOf_sat ?_); simp only [go_sem, and_assoc, List.nil_append, List.append_nil, List.cons_append, Nat.reduceEqDiff, reduceIte, reduceCtorEq, hv, sq_beq, sq_bne, int_bne, dec_self]) | ((with_reducible refine And.intro (?_ : enters Try.prog 26) ?_); (focus exact Try.call26); (refine callX_sat specExchangesOf_sat ?_); simp only [go_sem, and_assoc, List.nil_append, List.append_nil, List.cons_append, Nat.reduceEqDiff, reduceIte, reduceCtorEq, hv, sq_beq, sq_bne, int_bne, dec_self]) | ((with_reducible refine And.intro (?_ : enters Try.prog 16) ?_); (focus exact Try.call16); (refine callX_sat implValidKeys_sat ?_); simp only [go_sem, and_assoc, List.nil_append, List.append_nil, List.cons_append, Nat.reduceEqDiff, reduceIte, reduceCtorEq, hv, sq_beq, sq_bne, int_bne, dec_self]) | ((with_reducible refine And.intro (?_ : enters Try.prog 22) ?_); (focus exact Try.call22); (refine callX_sat implInversionsOf_sat ?_); simp only [go_sem, and_assoc, List.nil_append, List.append_nil, List.cons_append, Nat.reduceEqDiff, reduceIte, reduceCtorEq, hv, sq_beq, sq_bne, int_bne, dec_self]) | ((with_reducible refine And.intro (?_ : enters Try.prog 23) ?_); (focus exact Try.call23); (refine callX_sat implMisplacedOf_sat ?_); simp only [go_sem, and_assoc, List.nil_append, List.append_nil, List.cons_append, Nat.reduceEqDiff, reduceIte, reduceCtorEq, hv, sq_beq, sq_bne, int_bne, dec_self]) | ((with_reducible refine And.intro (?_ : enters Try.prog 18) ?_); (focus exact Try.call18); (refine callX_sat implIsSorted_sat ?_); simp only [go_sem, and_assoc, List.nil_append, List.append_nil, List.cons_append, Nat.reduceEqDiff, reduceIte, reduceCtorEq, hv, sq_beq, sq_bne, int_bne, dec_self]) | (with_reducible refine And.intro (fun hb => ?_) (fun hb => ?_)) | (exfalso; omega) | fail)
    simp only [St.set, St.ev, doneQ, doneH, ressK, resK, wrapR, AV.ids, AV.idsL, retK, retsK, upd, Nat.reduceEqDiff, reduceIte, if_false, if_true, List.nodup_nil, List.nodup_cons, List.not_mem_nil, not_false_eq_true, true_and, and_true, exists_eq_left', Option.some.injEq, rLoad, cellOf, tab, Ty.isAgg, Ty.one, Bool.false_eq_true]
    exact hQ


theorem FnWidestOf_sat : Sat Try.prog 7 (fun ds Q => ∃ bs, ds = [.row (.ints .u8 bs)] ∧ bs.length ≤ 9223372036854775807 ∧ bytesOk bs ∧ Q (.val (.bool true))) := by
  refine sat_intro tabOk Try.func7 rfl 43 rfl [.tmp 2] rfl ?_
  rintro ds Q W ⟨bs, rfl, hlen, hbs, hQ⟩
  refine ⟨Nat.le_of_ble_eq_true rfl, ?_⟩
  simp only [initS, initT, mat.matL, mat, Cont.len]
  repeat' (first | refine awp_seq_k fun K hK => ?_ | ((with_reducible refine hK _ ?_); clear hK K) | (clear hK K; (with_reducible refine hK _ ?_); clear hK K) | (clear hK K; clear hK K; (with_reducible refine hK _ ?_); clear hK K) | (clear hK K; clear hK K; clear hK K; (with_reducible refine hK _ ?_); clear hK K) | (clear hK K; clear hK K; clear hK K; clear hK K; (with_reducible refine hK _ ?_); clear hK K) | (clear hK K; clear hK K; clear hK K; clear hK K; clear hK K; (with_reducible refine hK _ ?_); clear hK K) | ((with_reducible refine aord_plain fun K hK => ?_); simp only [go_sem, Nat.reduceAdd, Nat.reduceMul, Nat.reduceEqDiff, Nat.reduceLT, reduceIte, reduceCtorEq]) | ((with_reducible apply aord_guard); (focus (simp only [St.ev, St.set, upd, Nat.reduceEqDiff, reduceIte, if_false, if_true]; exact rfl)); all_goals (intro hb; (try simp only [Bool.not_true, Bool.not_false] at hb); first | (cases hb; done) | ((try rw [hb]); (try simp only [Bool.not_eq_true', Bool.not_eq_false', Bool.and_eq_true, decide_eq_true_eq, decide_eq_false_iff_not, beq_iff_eq, bne_iff_ne, beq_eq_false_iff_ne, bne_eq_false_iff_eq, Int.not_lt, Int.not_le] at hb); (try (revert hb; with_reducible refine true_imp_iff.2 ?_)); first | (intro K hK; simp only [go_sem, Nat.reduceAdd, Nat.reduceMul, Nat.reduceEqDiff, Nat.reduceLT, reduceIte, reduceCtorEq]) | (simp only [St.ev, St.set, upd, Nat.reduceEqDiff, reduceIte, if_false, if_true]) | skip))) | ((with_reducible apply aord_skip); (focus (simp only [St.ev, St.set, upd, Nat.reduceEqDiff, reduceIte, if_false, if_true]; done)); (simp only [St.ev, St.set, upd, Nat.reduceEqDiff, reduceIte, if_false, if_true])) | refine awp_block ?_ | ((first | with_reducible refine aord_nil ?_ | refine awp_skip ?_ | refine awp_exit ?_ | refine awp_ret ?_); try simp only [thenA_normal, thenA_exit, thenA_goto, thenA_ret, blockA_normal, blockA_same, blockA_exit, blockA_goto, blockA_ret, Nat.reduceEqDiff, if_false, if_true, reduceIte]) | (refine awp_region tabOk rfl ?_; simp only [prep, pickO, List.map_cons, List.map_nil, List.getElem?_toArray, List.getElem?_cons_succ, List.getElem?_cons_zero, Option.bind_some, Option.map_some]) | ((with_reducible apply awp_cond); (focus (simp only [St.ev, St.set, upd, Nat.reduceEqDiff, reduceIte, if_false, if_true]; exact rfl)); all_goals (intro hb; first | (cases hb; done) | ((try rw [hb]); (try simp only [decide_eq_true_eq, decide_eq_false_iff_not, beq_iff_eq, bne_iff_ne, beq_eq_false_iff_ne, bne_eq_false_iff_eq, Int.not_lt, Int.not_le, Bool.not_eq_true', Bool.not_eq_false'] at hb)))) | ((with_reducible refine And.intro ?_ ?_); (focus omega)) | ((with_reducible refine And.intro ?_ ?_); (focus (exact rfl))) | ((with_reducible refine And.intro (?_ : enters Try.prog 31) ?_); (focus exact Try.call31); (refine callX_sat drawWidestOf_sat ?_); simp only [go_sem, and_assoc, List.nil_append, List.append_nil, List.cons_append, Nat.reduceEqDiff, reduceIte, reduceCtorEq]) | ((with_reducible refine And.intro (?_ : enters Try.prog 30) ?_); (focus exact Try.call30); (refine callX_sat implWidestOf_sat ?_); simp only [go_sem, and_assoc, List.nil_append, List.append_nil, List.cons_append, Nat.reduceEqDiff, reduceIte, reduceCtorEq]) | ((with_reducible refine And.intro (?_ : enters Try.prog 32) ?_); (focus exact Try.call32); (refine callX_sat specWidestOf_sat ?_); simp only [go_sem, and_assoc, List.nil_append, List.append_nil, List.cons_append, Nat.reduceEqDiff, reduceIte, reduceCtorEq]) | ((with_reducible refine And.intro (?_ : enters Try.prog 16) ?_); (focus exact Try.call16); (refine callX_sat implValidKeys_sat ?_); simp only [go_sem, and_assoc, List.nil_append, List.append_nil, List.cons_append, Nat.reduceEqDiff, reduceIte, reduceCtorEq]) | ((with_reducible refine And.intro (?_ : enters Try.prog 22) ?_); (focus exact Try.call22); (refine callX_sat implInversionsOf_sat ?_); simp only [go_sem, and_assoc, List.nil_append, List.append_nil, List.cons_append, Nat.reduceEqDiff, reduceIte, reduceCtorEq]) | ((with_reducible refine And.intro (?_ : enters Try.prog 18) ?_); (focus exact Try.call18); (refine callX_sat implIsSorted_sat ?_); simp only [go_sem, and_assoc, List.nil_append, List.append_nil, List.cons_append, Nat.reduceEqDiff, reduceIte, reduceCtorEq]) | (with_reducible refine And.intro (fun hb => ?_) (fun hb => ?_)) | (exfalso; omega) | fail)
  · simp only [St.set, St.ev, doneQ, doneH, ressK, resK, wrapR, AV.ids, AV.idsL, retK, retsK, upd, Nat.reduceEqDiff, reduceIte, if_false, if_true, List.nodup_nil, List.nodup_cons, List.not_mem_nil, not_false_eq_true, true_and, and_true, exists_eq_left', Option.some.injEq, rLoad, cellOf, tab, Ty.isAgg, Ty.one, Bool.false_eq_true]
    exact hQ
  intro xs hxs
  rcases Bool.eq_false_or_eq_true (validB xs) with hv | hv
  · have h8 := valid_len hv
    have h1 := decide_eq_true (wid_inv (xs := xs))
    have h2 := wid_lt (xs := xs)
    have h3 := wid_srt xs

    repeat' (first | refine awp_seq_k fun K hK => ?_ | ((with_reducible refine hK _ ?_); clear hK K) | (clear hK K; (with_reducible refine hK _ ?_); clear hK K) | (clear hK K; clear hK K; (with_reducible refine hK _ ?_); clear hK K) | (clear hK K; clear hK K; clear hK K; (with_reducible refine hK _ ?_); clear hK K) | (clear hK K; clear hK K; clear hK K; clear hK K; (with_reducible refine hK _ ?_); clear hK K) | (clear hK K; clear hK K; clear hK K; clear hK K; clear hK K; (with_reducible refine hK _ ?_); clear hK K) | ((with_reducible refine aord_plain fun K hK => ?_); simp only [go_sem, Nat.reduceAdd, Nat.reduceMul, Nat.reduceEqDiff, Nat.reduceLT, reduceIte, reduceCtorEq, hv, h1, h2, h3, sq_beq, sq_bne, int_bne, Bool.true_and]) | ((with_reducible apply aord_guard); (focus (simp only [St.ev, St.set, upd, Nat.reduceEqDiff, reduceIte, if_false, if_true]; exact rfl)); all_goals (intro hb; (try simp only [Bool.not_true, Bool.not_false] at hb); first | (cases hb; done) | ((try rw [hb]); (try simp only [Bool.not_eq_true', Bool.not_eq_false', Bool.and_eq_true, decide_eq_true_eq, decide_eq_false_iff_not, beq_iff_eq, bne_iff_ne, beq_eq_false_iff_ne, bne_eq_false_iff_eq, Int.not_lt, Int.not_le] at hb); (try (revert hb; with_reducible refine true_imp_iff.2 ?_)); first | (intro K hK; simp only [go_sem, Nat.reduceAdd, Nat.reduceMul, Nat.reduceEqDiff, Nat.reduceLT, reduceIte, reduceCtorEq]) | (simp only [St.ev, St.set, upd, Nat.reduceEqDiff, reduceIte, if_false, if_true]) | skip))) | ((with_reducible apply aord_skip); (focus (simp only [St.ev, St.set, upd, Nat.reduceEqDiff, reduceIte, if_false, if_true]; done)); (simp only [St.ev, St.set, upd, Nat.reduceEqDiff, reduceIte, if_false, if_true])) | refine awp_block ?_ | ((first | with_reducible refine aord_nil ?_ | refine awp_skip ?_ | refine awp_exit ?_ | refine awp_ret ?_); try simp only [thenA_normal, thenA_exit, thenA_goto, thenA_ret, blockA_normal, blockA_same, blockA_exit, blockA_goto, blockA_ret, Nat.reduceEqDiff, if_false, if_true, reduceIte]) | (refine awp_region tabOk rfl ?_; simp only [prep, pickO, List.map_cons, List.map_nil, List.getElem?_toArray, List.getElem?_cons_succ, List.getElem?_cons_zero, Option.bind_some, Option.map_some]) | ((with_reducible apply awp_cond); (focus (simp only [St.ev, St.set, upd, Nat.reduceEqDiff, reduceIte, if_false, if_true]; exact rfl)); all_goals (intro hb; first | (cases hb; done) | ((try rw [hb]); (try simp only [decide_eq_true_eq, decide_eq_false_iff_not, beq_iff_eq, bne_iff_ne, beq_eq_false_iff_ne, bne_eq_false_iff_eq, Int.not_lt, Int.not_le, Bool.not_eq_true', Bool.not_eq_false'] at hb)))) | ((with_reducible refine And.intro ?_ ?_); (focus omega)) | ((with_reducible refine And.intro ?_ ?_); (focus (exact rfl))) | ((with_reducible refine And.intro (?_ : enters Try.prog 31) ?_); (focus exact Try.call31); (refine callX_sat drawWidestOf_sat ?_); simp only [go_sem, and_assoc, List.nil_append, List.append_nil, List.cons_append, Nat.reduceEqDiff, reduceIte, reduceCtorEq, hv, h1, h2, h3, sq_beq, sq_bne, int_bne, Bool.true_and]) | ((with_reducible refine And.intro (?_ : enters Try.prog 30) ?_); (focus exact Try.call30); (refine callX_sat implWidestOf_sat ?_); simp only [go_sem, and_assoc, List.nil_append, List.append_nil, List.cons_append, Nat.reduceEqDiff, reduceIte, reduceCtorEq, hv, h1, h2, h3, sq_beq, sq_bne, int_bne, Bool.true_and]) | ((with_reducible refine And.intro (?_ : enters Try.prog 32) ?_); (focus exact Try.call32); (refine callX_sat specWidestOf_sat ?_); simp only [go_sem, and_assoc, List.nil_append, List.append_nil, List.cons_append, Nat.reduceEqDiff, reduceIte, reduceCtorEq, hv, h1, h2, h3, sq_beq, sq_bne, int_bne, Bool.true_and]) | ((with_reducible refine And.intro (?_ : enters Try.prog 16) ?_); (focus exact Try.call16); (refine callX_sat implValidKeys_sat ?_); simp only [go_sem, and_assoc, List.nil_append, List.append_nil, List.cons_append, Nat.reduceEqDiff, reduceIte, reduceCtorEq, hv, h1, h2, h3, sq_beq, sq_bne, int_bne, Bool.true_and]) | ((with_reducible refine And.intro (?_ : enters Try.prog 22) ?_); (focus exact Try.call22); (refine callX_sat implInversionsOf_sat ?_); simp only [go_sem, and_assoc, List.nil_append, List.append_nil, List.cons_append, Nat.reduceEqDiff, reduceIte, reduceCtorEq, hv, h1, h2, h3, sq_beq, sq_bne, int_bne, Bool.true_and]) | ((with_reducible refine And.intro (?_ : enters Try.prog 18) ?_); (focus exact Try.call18); (refine callX_sat implIsSorted_sat ?_); simp only [go_sem, and_assoc, List.nil_append, List.append_nil, List.cons_append, Nat.reduceEqDiff, reduceIte, reduceCtorEq, hv, h1, h2, h3, sq_beq, sq_bne, int_bne, Bool.true_and]) | (with_reducible refine And.intro (fun hb => ?_) (fun hb => ?_)) | (exfalso; omega) | fail)
    simp only [St.set, St.ev, doneQ, doneH, ressK, resK, wrapR, AV.ids, AV.idsL, retK, retsK, upd, Nat.reduceEqDiff, reduceIte, if_false, if_true, List.nodup_nil, List.nodup_cons, List.not_mem_nil, not_false_eq_true, true_and, and_true, exists_eq_left', Option.some.injEq, rLoad, cellOf, tab, Ty.isAgg, Ty.one, Bool.false_eq_true]
    exact hQ
  · skip

    repeat' (first | refine awp_seq_k fun K hK => ?_ | ((with_reducible refine hK _ ?_); clear hK K) | (clear hK K; (with_reducible refine hK _ ?_); clear hK K) | (clear hK K; clear hK K; (with_reducible refine hK _ ?_); clear hK K) | (clear hK K; clear hK K; clear hK K; (with_reducible refine hK _ ?_); clear hK K) | (clear hK K; clear hK K; clear hK K; clear hK K; (with_reducible refine hK _ ?_); clear hK K) | (clear hK K; clear hK K; clear hK K; clear hK K; clear hK K; (with_reducible refine hK _ ?_); clear hK K) | ((with_reducible refine aord_plain fun K hK => ?_); simp only [go_sem, Nat.reduceAdd, Nat.reduceMul, Nat.reduceEqDiff, Nat.reduceLT, reduceIte, reduceCtorEq, hv, sq_beq, sq_bne, int_bne, dec_self]) | ((with_reducible apply aord_guard); (focus (simp only [St.ev, St.set, upd, Nat.reduceEqDiff, reduceIte, if_false, if_true]; exact rfl)); all_goals (intro hb; (try simp only [Bool.not_true, Bool.not_false] at hb); first | (cases hb; done) | ((try rw [hb]); (try simp only [Bool.not_eq_true', Bool.not_eq_false', Bool.and_eq_true, decide_eq_true_eq, decide_eq_false_iff_not, beq_iff_eq, bne_iff_ne, beq_eq_false_iff_ne, bne_eq_false_iff_eq, Int.not_lt, Int.not_le] at hb); (try (revert hb; with_reducible refine true_imp_iff.2 ?_)); first | (intro K hK; simp only [go_sem, Nat.reduceAdd, Nat.reduceMul, Nat.reduceEqDiff, Nat.reduceLT, reduceIte, reduceCtorEq]) | (simp only [St.ev, St.set, upd, Nat.reduceEqDiff, reduceIte, if_false, if_true]) | skip))) | ((with_reducible apply aord_skip); (focus (simp only [St.ev, St.set, upd, Nat.reduceEqDiff, reduceIte, if_false, if_true]; done)); (simp only [St.ev, St.set, upd, Nat.reduceEqDiff, reduceIte, if_false, if_true])) | refine awp_block ?_ | ((first | with_reducible refine aord_nil ?_ | refine awp_skip ?_ | refine awp_exit ?_ | refine awp_ret ?_); try simp only [thenA_normal, thenA_exit, thenA_goto, thenA_ret, blockA_normal, blockA_same, blockA_exit, blockA_goto, blockA_ret, Nat.reduceEqDiff, if_false, if_true, reduceIte]) | (refine awp_region tabOk rfl ?_; simp only [prep, pickO, List.map_cons, List.map_nil, List.getElem?_toArray, List.getElem?_cons_succ, List.getElem?_cons_zero, Option.bind_some, Option.map_some]) | ((with_reducible apply awp_cond); (focus (simp only [St.ev, St.set, upd, Nat.reduceEqDiff, reduceIte, if_false, if_true]; exact rfl)); all_goals (intro hb; first | (cases hb; done) | ((try rw [hb]); (try simp only [decide_eq_true_eq, decide_eq_false_iff_not, beq_iff_eq, bne_iff_ne, beq_eq_false_iff_ne, bne_eq_false_iff_eq, Int.not_lt, Int.not_le, Bool.not_eq_true', Bool.not_eq_false'] at hb)))) | ((with_reducible refine And.intro ?_ ?_); (focus omega)) | ((with_reducible refine And.intro ?_ ?_); (focus (exact rfl))) | ((with_reducible refine And.intro (?_ : enters Try.prog 31) ?_); (focus exact Try.call31); (refine callX_sat drawWidestOf_sat ?_); simp only [go_sem, and_assoc, List.nil_append, List.append_nil, List.cons_append, Nat.reduceEqDiff, reduceIte, reduceCtorEq, hv, sq_beq, sq_bne, int_bne, dec_self]) | ((with_reducible refine And.intro (?_ : enters Try.prog 30) ?_); (focus exact Try.call30); (refine callX_sat implWidestOf_sat ?_); simp only [go_sem, and_assoc, List.nil_append, List.append_nil, List.cons_append, Nat.reduceEqDiff, reduceIte, reduceCtorEq, hv, sq_beq, sq_bne, int_bne, dec_self]) | ((with_reducible refine And.intro (?_ : enters Try.prog 32) ?_); (focus exact Try.call32); (refine callX_sat specWidestOf_sat ?_); simp only [go_sem, and_assoc, List.nil_append, List.append_nil, List.cons_append, Nat.reduceEqDiff, reduceIte, reduceCtorEq, hv, sq_beq, sq_bne, int_bne, dec_self]) | ((with_reducible refine And.intro (?_ : enters Try.prog 16) ?_); (focus exact Try.call16); (refine callX_sat implValidKeys_sat ?_); simp only [go_sem, and_assoc, List.nil_append, List.append_nil, List.cons_append, Nat.reduceEqDiff, reduceIte, reduceCtorEq, hv, sq_beq, sq_bne, int_bne, dec_self]) | ((with_reducible refine And.intro (?_ : enters Try.prog 22) ?_); (focus exact Try.call22); (refine callX_sat implInversionsOf_sat ?_); simp only [go_sem, and_assoc, List.nil_append, List.append_nil, List.cons_append, Nat.reduceEqDiff, reduceIte, reduceCtorEq, hv, sq_beq, sq_bne, int_bne, dec_self]) | ((with_reducible refine And.intro (?_ : enters Try.prog 18) ?_); (focus exact Try.call18); (refine callX_sat implIsSorted_sat ?_); simp only [go_sem, and_assoc, List.nil_append, List.append_nil, List.cons_append, Nat.reduceEqDiff, reduceIte, reduceCtorEq, hv, sq_beq, sq_bne, int_bne, dec_self]) | (with_reducible refine And.intro (fun hb => ?_) (fun hb => ?_)) | (exfalso; omega) | fail)
    simp only [St.set, St.ev, doneQ, doneH, ressK, resK, wrapR, AV.ids, AV.idsL, retK, retsK, upd, Nat.reduceEqDiff, reduceIte, if_false, if_true, List.nodup_nil, List.nodup_cons, List.not_mem_nil, not_false_eq_true, true_and, and_true, exists_eq_left', Option.some.injEq, rLoad, cellOf, tab, Ty.isAgg, Ty.one, Bool.false_eq_true]
    exact hQ


end Go.Proofs.Ytgdnichfaeojpaa
