/- Contracts of functions of the program. -/
import Derived.Test.YtcpjbniehenmoaaPPF1b
import Derived.ScopeJumps
namespace Go.Proofs.Ytcpjbniehenmoaa
open Go Go.Ab
set_option linter.all false
set_option maxHeartbeats 4000000

theorem someKeys_sat : SatH Try.prog 64 (fun al h n K => ∃ (bs : List Int) (L : Nat) (lim : Option Nat) (q : Nat), al = [.ref 1 0] ∧ (n = 2) ∧ (h 0 = some ⟨false, .ints .u8 bs⟩) ∧ (h 1 = some ⟨true, .cells [.sl 0 0 L 1 lim, .val (.int .i64 q)]⟩) ∧ (L ≤ bs.length ∧ L ≤ 1099511627776) ∧ (bytesOk bs) ∧ (q ≤ 800000) ∧ ∀ (ys : List Int) (r : Nat), ys.length ≤ 17 → r ≤ q + 30 → K (.sl 2 0 ys.length 1 none) (upd (upd h 1 (some ⟨true, .cells [.sl 0 0 L 1 lim, .val (.int .i64 r)]⟩)) 2 (some ⟨true, .ints .i64 ys⟩)) (3)) := by
  refine satH_intro tabOk Try.func64 rfl 7 rfl [.tmp 2] rfl ?_
  rintro F W h n al K0 ⟨bs, L, lim, q, rfl, hn, h0, h1, hL, hbs, hq, hQ⟩
  refine ⟨Nat.le_of_ble_eq_true rfl, fun m0 hm0 hcl hlt => ?_⟩
  simp only [initT]
  subst hn
  have hclO := hcl
  repeat' (first | refine awp_seq_k fun K hK => ?_ | ((with_reducible refine hK _ ?_); clear hK K) | (clear hK K; (with_reducible refine hK _ ?_); clear hK K) | (clear hK K; clear hK K; (with_reducible refine hK _ ?_); clear hK K) | (clear hK K; clear hK K; clear hK K; (with_reducible refine hK _ ?_); clear hK K) | (clear hK K; clear hK K; clear hK K; clear hK K; (with_reducible refine hK _ ?_); clear hK K) | (clear hK K; clear hK K; clear hK K; clear hK K; clear hK K; (with_reducible refine hK _ ?_); clear hK K) | ((with_reducible refine aord_plain fun K hK => ?_); simp only [go_sem, Nat.reduceAdd, Nat.reduceMul, Nat.reduceEqDiff, Nat.reduceLT, reduceIte, reduceCtorEq, h0, h1]) | refine awp_block ?_ | ((first | with_reducible refine aord_nil ?_ | refine awp_skip ?_ | refine awp_exit ?_ | refine awp_ret ?_); try simp only [thenA_normal, thenA_exit, thenA_goto, thenA_ret, blockA_normal, blockA_same, blockA_exit, blockA_goto, blockA_ret, Nat.reduceEqDiff, if_false, if_true, reduceIte]) | (refine awp_region tabOk rfl ?_; simp only [prep, pickO, List.map_cons, List.map_nil, List.getElem?_toArray, List.getElem?_cons_succ, List.getElem?_cons_zero, Option.bind_some, Option.map_some]) | ((with_reducible apply awp_cond); (focus (simp only [St.ev, St.set, upd, Nat.reduceEqDiff, reduceIte, if_false, if_true]; exact rfl)); all_goals (intro hb; first | (cases hb; done) | ((try rw [hb]); (try simp only [decide_eq_true_eq, decide_eq_false_iff_not, beq_iff_eq, bne_iff_ne, beq_eq_false_iff_ne, bne_eq_false_iff_eq, Int.not_lt, Int.not_le, Bool.not_eq_true', Bool.not_eq_false'] at hb)))) | ((with_reducible refine And.intro ?_ ?_); (focus omega)) | ((with_reducible refine And.intro ?_ ?_); (focus (exact rfl))) | ((with_reducible refine And.intro (?_ : enters Try.prog 55) ?_); (focus exact Try.call55); (refine callX_satH pick_sat ?_); simp only [go_sem, and_assoc, List.nil_append, List.append_nil, List.cons_append, Nat.reduceEqDiff, reduceIte, reduceCtorEq, h0, h1]) | ((with_reducible refine And.intro (?_ : enters Try.prog 75) ?_); (focus exact Try.call75); (refine callX_satH one_sat ?_); simp only [go_sem, and_assoc, List.nil_append, List.append_nil, List.cons_append, Nat.reduceEqDiff, reduceIte, reduceCtorEq, h0, h1]) | ((with_reducible refine And.intro (?_ : enters Try.prog 80) ?_); (focus exact Try.call80); (refine callX_satH goodKeys_sat ?_); simp only [go_sem, and_assoc, List.nil_append, List.append_nil, List.cons_append, Nat.reduceEqDiff, reduceIte, reduceCtorEq, h0, h1]) | ((with_reducible refine And.intro (?_ : enters Try.prog 79) ?_); (focus exact Try.call79); (refine callX_h (callH_inline tabOk Try.func79 rfl 27 rfl [.tmp 4] rfl (Nat.le_of_ble_eq_true rfl) fun m0 hm0 hcl hlt => ?_)); simp only [initT, St.ev, St.set, upd, Nat.reduceEqDiff, reduceIte, if_false, if_true]) | (refine aAppend_ints rfl rfl rfl rfl (Nat.le_of_ble_eq_true rfl) (by simp only [St.ev, St.set, upd, Nat.reduceEqDiff, reduceIte, if_false, if_true]; exact rfl) (by simp only [St.ev, St.set, upd, Nat.reduceEqDiff, reduceIte, if_false, if_true]; exact rfl) rfl (by decide) ?_ ?_ ?_ ?_; (focus (first | rfl | omega | (simp; done) | (simp; omega) | (simp [szOf, tab]; done) | (simp [szOf, tab]; omega))); (focus (first | rfl | omega | (simp; done) | (simp; omega) | (simp [szOf, tab]; done) | (simp [szOf, tab]; omega))); (focus (first | rfl | omega | (simp; done) | (simp; omega) | (simp [szOf, tab]; done) | (simp [szOf, tab]; omega))); (try simp only [go_sem, Nat.reduceAdd, Nat.reduceMul, Nat.reduceEqDiff, Nat.reduceLT, reduceIte, reduceCtorEq])) | (refine aAppend_none rfl rfl rfl rfl (Nat.le_of_ble_eq_true rfl) (by simp only [St.ev, St.set, upd, Nat.reduceEqDiff, reduceIte, if_false, if_true]; exact rfl) ?_ ?_ ?_; (focus (first | rfl | omega | (simp; done) | (simp; omega) | (simp [szOf, tab]; done) | (simp [szOf, tab]; omega))); (focus (first | rfl | omega | (simp; done) | (simp; omega) | (simp [szOf, tab]; done) | (simp [szOf, tab]; omega))); (try simp only [go_sem, Nat.reduceAdd, Nat.reduceMul, Nat.reduceEqDiff, Nat.reduceLT, reduceIte, reduceCtorEq])) | (refine aStoreAll_ints (by simp only [St.ev, St.set, upd, Nat.reduceEqDiff, reduceIte, if_false, if_true]; exact rfl) ?_ ?_ ?_ ?_; (focus (first | rfl | omega | (simp; done) | (simp; omega) | (simp [szOf, tab]; done) | (simp [szOf, tab]; omega))); (focus (first | rfl | omega | (simp; done) | (simp; omega) | (simp [szOf, tab]; done) | (simp [szOf, tab]; omega))); (focus (first | rfl | omega | (simp; done) | (simp; omega) | (simp [szOf, tab]; done) | (simp [szOf, tab]; omega))); (try simp only [go_sem, Nat.reduceAdd, Nat.reduceMul, Nat.reduceEqDiff, Nat.reduceLT, reduceIte, reduceCtorEq])) | (simp only [doneH]; simp only [ressK, resK, wrapR, go_sem, Nat.reduceAdd, Nat.reduceMul, Nat.reduceEqDiff, Nat.reduceLT, reduceIte, reduceCtorEq]) | (refine aStoreAll_cells (by simp only [St.ev, St.set, upd, Nat.reduceEqDiff, reduceIte, if_false, if_true]; exact rfl) ?_ ?_ ?_ ?_ ?_; (focus (first | rfl | omega | (simp; done) | (simp; omega) | (simp [szOf, tab]; done) | (simp [szOf, tab]; omega))); (focus (first | rfl | omega | (simp; done) | (simp; omega) | (simp [szOf, tab]; done) | (simp [szOf, tab]; omega))); (focus (first | rfl | omega | (simp; done) | (simp; omega) | (simp [szOf, tab]; done) | (simp [szOf, tab]; omega))); (focus (first | rfl | (simp [AV.cell, Value.oneCell']; done))); (try simp only [go_sem, Nat.reduceAdd, Nat.reduceMul, Nat.reduceEqDiff, Nat.reduceLT, reduceIte, reduceCtorEq])) | (with_reducible refine And.intro (fun hb => ?_) (fun hb => ?_)) | (exfalso; omega) | fail)
  refine ⟨L, lim, q, rfl, hL.1, hL.2, hbs, by omega, ?_⟩
  intro ks r hks hr
  repeat' (first | refine awp_seq_k fun K hK => ?_ | ((with_reducible refine hK _ ?_); clear hK K) | (clear hK K; (with_reducible refine hK _ ?_); clear hK K) | (clear hK K; clear hK K; (with_reducible refine hK _ ?_); clear hK K) | (clear hK K; clear hK K; clear hK K; (with_reducible refine hK _ ?_); clear hK K) | (clear hK K; clear hK K; clear hK K; clear hK K; (with_reducible refine hK _ ?_); clear hK K) | (clear hK K; clear hK K; clear hK K; clear hK K; clear hK K; (with_reducible refine hK _ ?_); clear hK K) | ((with_reducible refine aord_plain fun K hK => ?_); simp only [go_sem, Nat.reduceAdd, Nat.reduceMul, Nat.reduceEqDiff, Nat.reduceLT, reduceIte, reduceCtorEq, h0, h1]) | refine awp_block ?_ | ((first | with_reducible refine aord_nil ?_ | refine awp_skip ?_ | refine awp_exit ?_ | refine awp_ret ?_); try simp only [thenA_normal, thenA_exit, thenA_goto, thenA_ret, blockA_normal, blockA_same, blockA_exit, blockA_goto, blockA_ret, Nat.reduceEqDiff, if_false, if_true, reduceIte]) | (refine awp_region tabOk rfl ?_; simp only [prep, pickO, List.map_cons, List.map_nil, List.getElem?_toArray, List.getElem?_cons_succ, List.getElem?_cons_zero, Option.bind_some, Option.map_some]) | ((with_reducible apply awp_cond); (focus (simp only [St.ev, St.set, upd, Nat.reduceEqDiff, reduceIte, if_false, if_true]; exact rfl)); all_goals (intro hb; first | (cases hb; done) | ((try rw [hb]); (try simp only [decide_eq_true_eq, decide_eq_false_iff_not, beq_iff_eq, bne_iff_ne, beq_eq_false_iff_ne, bne_eq_false_iff_eq, Int.not_lt, Int.not_le, Bool.not_eq_true', Bool.not_eq_false'] at hb)))) | ((with_reducible refine And.intro ?_ ?_); (focus omega)) | ((with_reducible refine And.intro ?_ ?_); (focus (exact rfl))) | ((with_reducible refine And.intro (?_ : enters Try.prog 55) ?_); (focus exact Try.call55); (refine callX_satH pick_sat ?_); simp only [go_sem, and_assoc, List.nil_append, List.append_nil, List.cons_append, Nat.reduceEqDiff, reduceIte, reduceCtorEq, h0, h1]) | ((with_reducible refine And.intro (?_ : enters Try.prog 75) ?_); (focus exact Try.call75); (refine callX_satH one_sat ?_); simp only [go_sem, and_assoc, List.nil_append, List.append_nil, List.cons_append, Nat.reduceEqDiff, reduceIte, reduceCtorEq, h0, h1]) | ((with_reducible refine And.intro (?_ : enters Try.prog 80) ?_); (focus exact Try.call80); (refine callX_satH goodKeys_sat ?_); simp only [go_sem, and_assoc, List.nil_append, List.append_nil, List.cons_append, Nat.reduceEqDiff, reduceIte, reduceCtorEq, h0, h1]) | ((with_reducible refine And.intro (?_ : enters Try.prog 79) ?_); (focus exact Try.call79); (refine callX_h (callH_inline tabOk Try.func79 rfl 27 rfl [.tmp 4] rfl (Nat.le_of_ble_eq_true rfl) fun m0 hm0 hcl hlt => ?_)); simp only [initT, St.ev, St.set, upd, Nat.reduceEqDiff, reduceIte, if_false, if_true]) | (refine aAppend_ints rfl rfl rfl rfl (Nat.le_of_ble_eq_true rfl) (by simp only [St.ev, St.set, upd, Nat.reduceEqDiff, reduceIte, if_false, if_true]; exact rfl) (by simp only [St.ev, St.set, upd, Nat.reduceEqDiff, reduceIte, if_false, if_true]; exact rfl) rfl (by decide) ?_ ?_ ?_ ?_; (focus (first | rfl | omega | (simp; done) | (simp; omega) | (simp [szOf, tab]; done) | (simp [szOf, tab]; omega))); (focus (first | rfl | omega | (simp; done) | (simp; omega) | (simp [szOf, tab]; done) | (simp [szOf, tab]; omega))); (focus (first | rfl | omega | (simp; done) | (simp; omega) | (simp [szOf, tab]; done) | (simp [szOf, tab]; omega))); (try simp only [go_sem, Nat.reduceAdd, Nat.reduceMul, Nat.reduceEqDiff, Nat.reduceLT, reduceIte, reduceCtorEq])) | (refine aAppend_none rfl rfl rfl rfl (Nat.le_of_ble_eq_true rfl) (by simp only [St.ev, St.set, upd, Nat.reduceEqDiff, reduceIte, if_false, if_true]; exact rfl) ?_ ?_ ?_; (focus (first | rfl | omega | (simp; done) | (simp; omega) | (simp [szOf, tab]; done) | (simp [szOf, tab]; omega))); (focus (first | rfl | omega | (simp; done) | (simp; omega) | (simp [szOf, tab]; done) | (simp [szOf, tab]; omega))); (try simp only [go_sem, Nat.reduceAdd, Nat.reduceMul, Nat.reduceEqDiff, Nat.reduceLT, reduceIte, reduceCtorEq])) | (refine aStoreAll_ints (by simp only [St.ev, St.set, upd, Nat.reduceEqDiff, reduceIte, if_false, if_true]; exact rfl) ?_ ?_ ?_ ?_; (focus (first | rfl | omega | (simp; done) | (simp; omega) | (simp [szOf, tab]; done) | (simp [szOf, tab]; omega))); (focus (first | rfl | omega | (simp; done) | (simp; omega) | (simp [szOf, tab]; done) | (simp [szOf, tab]; omega))); (focus (first | rfl | omega | (simp; done) | (simp; omega) | (simp [szOf, tab]; done) | (simp [szOf, tab]; omega))); (try simp only [go_sem, Nat.reduceAdd, Nat.reduceMul, Nat.reduceEqDiff, Nat.reduceLT, reduceIte, reduceCtorEq])) | (simp only [doneH]; simp only [ressK, resK, wrapR, go_sem, Nat.reduceAdd, Nat.reduceMul, Nat.reduceEqDiff, Nat.reduceLT, reduceIte, reduceCtorEq]) | (refine aStoreAll_cells (by simp only [St.ev, St.set, upd, Nat.reduceEqDiff, reduceIte, if_false, if_true]; exact rfl) ?_ ?_ ?_ ?_ ?_; (focus (first | rfl | omega | (simp; done) | (simp; omega) | (simp [szOf, tab]; done) | (simp [szOf, tab]; omega))); (focus (first | rfl | omega | (simp; done) | (simp; omega) | (simp [szOf, tab]; done) | (simp [szOf, tab]; omega))); (focus (first | rfl | omega | (simp; done) | (simp; omega) | (simp [szOf, tab]; done) | (simp [szOf, tab]; omega))); (focus (first | rfl | (simp [AV.cell, Value.oneCell']; done))); (try simp only [go_sem, Nat.reduceAdd, Nat.reduceMul, Nat.reduceEqDiff, Nat.reduceLT, reduceIte, reduceCtorEq])) | (with_reducible refine And.intro (fun hb => ?_) (fun hb => ?_)) | (exfalso; omega) | fail)
  refine ⟨L, lim, r, rfl, hL.1, hL.2, hbs, by omega, by omega, ?_⟩
  intro w hw0 hw1
  repeat' ((fail_if_success (with_reducible refine isRet K0 ?_)); (first | refine awp_seq_k fun K hK => ?_ | ((with_reducible refine hK _ ?_); clear hK K) | (clear hK K; (with_reducible refine hK _ ?_); clear hK K) | (clear hK K; clear hK K; (with_reducible refine hK _ ?_); clear hK K) | (clear hK K; clear hK K; clear hK K; (with_reducible refine hK _ ?_); clear hK K) | (clear hK K; clear hK K; clear hK K; clear hK K; (with_reducible refine hK _ ?_); clear hK K) | (clear hK K; clear hK K; clear hK K; clear hK K; clear hK K; (with_reducible refine hK _ ?_); clear hK K) | ((with_reducible refine aord_plain fun K hK => ?_); simp only [go_sem, Nat.reduceAdd, Nat.reduceMul, Nat.reduceEqDiff, Nat.reduceLT, reduceIte, reduceCtorEq, h0, h1]) | refine awp_block ?_ | ((first | with_reducible refine aord_nil ?_ | refine awp_skip ?_ | refine awp_exit ?_ | refine awp_ret ?_); try simp only [thenA_normal, thenA_exit, thenA_goto, thenA_ret, blockA_normal, blockA_same, blockA_exit, blockA_goto, blockA_ret, Nat.reduceEqDiff, if_false, if_true, reduceIte]) | (refine awp_region tabOk rfl ?_; simp only [prep, pickO, List.map_cons, List.map_nil, List.getElem?_toArray, List.getElem?_cons_succ, List.getElem?_cons_zero, Option.bind_some, Option.map_some]) | ((with_reducible apply awp_cond); (focus (simp only [St.ev, St.set, upd, Nat.reduceEqDiff, reduceIte, if_false, if_true]; exact rfl)); all_goals (intro hb; first | (cases hb; done) | ((try rw [hb]); (try simp only [decide_eq_true_eq, decide_eq_false_iff_not, beq_iff_eq, bne_iff_ne, beq_eq_false_iff_ne, bne_eq_false_iff_eq, Int.not_lt, Int.not_le, Bool.not_eq_true', Bool.not_eq_false'] at hb)))) | ((with_reducible refine And.intro ?_ ?_); (focus omega)) | ((with_reducible refine And.intro ?_ ?_); (focus (exact rfl))) | ((with_reducible refine And.intro (?_ : enters Try.prog 55) ?_); (focus exact Try.call55); (refine callX_satH pick_sat ?_); simp only [go_sem, and_assoc, List.nil_append, List.append_nil, List.cons_append, Nat.reduceEqDiff, reduceIte, reduceCtorEq, h0, h1]) | ((with_reducible refine And.intro (?_ : enters Try.prog 75) ?_); (focus exact Try.call75); (refine callX_satH one_sat ?_); simp only [go_sem, and_assoc, List.nil_append, List.append_nil, List.cons_append, Nat.reduceEqDiff, reduceIte, reduceCtorEq, h0, h1]) | ((with_reducible refine And.intro (?_ : enters Try.prog 80) ?_); (focus exact Try.call80); (refine callX_satH goodKeys_sat ?_); simp only [go_sem, and_assoc, List.nil_append, List.append_nil, List.cons_append, Nat.reduceEqDiff, reduceIte, reduceCtorEq, h0, h1]) | ((with_reducible refine And.intro (?_ : enters Try.prog 79) ?_); (focus exact Try.call79); (refine callX_h (callH_inline tabOk Try.func79 rfl 27 rfl [.tmp 4] rfl (Nat.le_of_ble_eq_true rfl) fun m0 hm0 hcl hlt => ?_)); simp only [initT, St.ev, St.set, upd, Nat.reduceEqDiff, reduceIte, if_false, if_true]) | (refine aAppend_ints rfl rfl rfl rfl (Nat.le_of_ble_eq_true rfl) (by simp only [St.ev, St.set, upd, Nat.reduceEqDiff, reduceIte, if_false, if_true]; exact rfl) (by simp only [St.ev, St.set, upd, Nat.reduceEqDiff, reduceIte, if_false, if_true]; exact rfl) rfl (by decide) ?_ ?_ ?_ ?_; (focus (first | rfl | omega | (simp; done) | (simp; omega) | (simp [szOf, tab]; done) | (simp [szOf, tab]; omega))); (focus (first | rfl | omega | (simp; done) | (simp; omega) | (simp [szOf, tab]; done) | (simp [szOf, tab]; omega))); (focus (first | rfl | omega | (simp; done) | (simp; omega) | (simp [szOf, tab]; done) | (simp [szOf, tab]; omega))); (try simp only [go_sem, Nat.reduceAdd, Nat.reduceMul, Nat.reduceEqDiff, Nat.reduceLT, reduceIte, reduceCtorEq])) | (refine aAppend_none rfl rfl rfl rfl (Nat.le_of_ble_eq_true rfl) (by simp only [St.ev, St.set, upd, Nat.reduceEqDiff, reduceIte, if_false, if_true]; exact rfl) ?_ ?_ ?_; (focus (first | rfl | omega | (simp; done) | (simp; omega) | (simp [szOf, tab]; done) | (simp [szOf, tab]; omega))); (focus (first | rfl | omega | (simp; done) | (simp; omega) | (simp [szOf, tab]; done) | (simp [szOf, tab]; omega))); (try simp only [go_sem, Nat.reduceAdd, Nat.reduceMul, Nat.reduceEqDiff, Nat.reduceLT, reduceIte, reduceCtorEq])) | (refine aStoreAll_ints (by simp only [St.ev, St.set, upd, Nat.reduceEqDiff, reduceIte, if_false, if_true]; exact rfl) ?_ ?_ ?_ ?_; (focus (first | rfl | omega | (simp; done) | (simp; omega) | (simp [szOf, tab]; done) | (simp [szOf, tab]; omega))); (focus (first | rfl | omega | (simp; done) | (simp; omega) | (simp [szOf, tab]; done) | (simp [szOf, tab]; omega))); (focus (first | rfl | omega | (simp; done) | (simp; omega) | (simp [szOf, tab]; done) | (simp [szOf, tab]; omega))); (try simp only [go_sem, Nat.reduceAdd, Nat.reduceMul, Nat.reduceEqDiff, Nat.reduceLT, reduceIte, reduceCtorEq])) | (simp only [doneH]; simp only [ressK, resK, wrapR, go_sem, Nat.reduceAdd, Nat.reduceMul, Nat.reduceEqDiff, Nat.reduceLT, reduceIte, reduceCtorEq]) | (refine aStoreAll_cells (by simp only [St.ev, St.set, upd, Nat.reduceEqDiff, reduceIte, if_false, if_true]; exact rfl) ?_ ?_ ?_ ?_ ?_; (focus (first | rfl | omega | (simp; done) | (simp; omega) | (simp [szOf, tab]; done) | (simp [szOf, tab]; omega))); (focus (first | rfl | omega | (simp; done) | (simp; omega) | (simp [szOf, tab]; done) | (simp [szOf, tab]; omega))); (focus (first | rfl | omega | (simp; done) | (simp; omega) | (simp [szOf, tab]; done) | (simp [szOf, tab]; omega))); (focus (first | rfl | (simp [AV.cell, Value.oneCell']; done))); (try simp only [go_sem, Nat.reduceAdd, Nat.reduceMul, Nat.reduceEqDiff, Nat.reduceLT, reduceIte, reduceCtorEq])) | (with_reducible refine And.intro (fun hb => ?_) (fun hb => ?_)) | (exfalso; omega) | fail))
  all_goals try (
    refine ⟨L, lim, r + 1, rfl, hL.1, hL.2, hbs, by omega, by omega, ?_⟩
    intro x hx0 hx1)
  repeat' ((fail_if_success (with_reducible refine isRet K0 ?_)); (first | refine awp_seq_k fun K hK => ?_ | ((with_reducible refine hK _ ?_); clear hK K) | (clear hK K; (with_reducible refine hK _ ?_); clear hK K) | (clear hK K; clear hK K; (with_reducible refine hK _ ?_); clear hK K) | (clear hK K; clear hK K; clear hK K; (with_reducible refine hK _ ?_); clear hK K) | (clear hK K; clear hK K; clear hK K; clear hK K; (with_reducible refine hK _ ?_); clear hK K) | (clear hK K; clear hK K; clear hK K; clear hK K; clear hK K; (with_reducible refine hK _ ?_); clear hK K) | ((with_reducible refine aord_plain fun K hK => ?_); simp only [go_sem, Nat.reduceAdd, Nat.reduceMul, Nat.reduceEqDiff, Nat.reduceLT, reduceIte, reduceCtorEq, h0, h1]) | refine awp_block ?_ | ((first | with_reducible refine aord_nil ?_ | refine awp_skip ?_ | refine awp_exit ?_ | refine awp_ret ?_); try simp only [thenA_normal, thenA_exit, thenA_goto, thenA_ret, blockA_normal, blockA_same, blockA_exit, blockA_goto, blockA_ret, Nat.reduceEqDiff, if_false, if_true, reduceIte]) | (refine awp_region tabOk rfl ?_; simp only [prep, pickO, List.map_cons, List.map_nil, List.getElem?_toArray, List.getElem?_cons_succ, List.getElem?_cons_zero, Option.bind_some, Option.map_some]) | ((with_reducible apply awp_cond); (focus (simp only [St.ev, St.set, upd, Nat.reduceEqDiff, reduceIte, if_false, if_true]; exact rfl)); all_goals (intro hb; first | (cases hb; done) | ((try rw [hb]); (try simp only [decide_eq_true_eq, decide_eq_false_iff_not, beq_iff_eq, bne_iff_ne, beq_eq_false_iff_ne, bne_eq_false_iff_eq, Int.not_lt, Int.not_le, Bool.not_eq_true', Bool.not_eq_false'] at hb)))) | ((with_reducible refine And.intro ?_ ?_); (focus omega)) | ((with_reducible refine And.intro ?_ ?_); (focus (exact rfl))) | ((with_reducible refine And.intro (?_ : enters Try.prog 55) ?_); (focus exact Try.call55); (refine callX_satH pick_sat ?_); simp only [go_sem, and_assoc, List.nil_append, List.append_nil, List.cons_append, Nat.reduceEqDiff, reduceIte, reduceCtorEq, h0, h1]) | ((with_reducible refine And.intro (?_ : enters Try.prog 75) ?_); (focus exact Try.call75); (refine callX_satH one_sat ?_); simp only [go_sem, and_assoc, List.nil_append, List.append_nil, List.cons_append, Nat.reduceEqDiff, reduceIte, reduceCtorEq, h0, h1]) | ((with_reducible refine And.intro (?_ : enters Try.prog 80) ?_); (focus exact Try.call80); (refine callX_satH goodKeys_sat ?_); simp only [go_sem, and_assoc, List.nil_append, List.append_nil, List.cons_append, Nat.reduceEqDiff, reduceIte, reduceCtorEq, h0, h1]) | ((with_reducible refine And.intro (?_ : enters Try.prog 79) ?_); (focus exact Try.call79); (refine callX_h (callH_inline tabOk Try.func79 rfl 27 rfl [.tmp 4] rfl (Nat.le_of_ble_eq_true rfl) fun m0 hm0 hcl hlt => ?_)); simp only [initT, St.ev, St.set, upd, Nat.reduceEqDiff, reduceIte, if_false, if_true]) | (refine aAppend_ints rfl rfl rfl rfl (Nat.le_of_ble_eq_true rfl) (by simp only [St.ev, St.set, upd, Nat.reduceEqDiff, reduceIte, if_false, if_true]; exact rfl) (by simp only [St.ev, St.set, upd, Nat.reduceEqDiff, reduceIte, if_false, if_true]; exact rfl) rfl (by decide) ?_ ?_ ?_ ?_; (focus (first | rfl | omega | (simp; done) | (simp; omega) | (simp [szOf, tab]; done) | (simp [szOf, tab]; omega))); (focus (first | rfl | omega | (simp; done) | (simp; omega) | (simp [szOf, tab]; done) | (simp [szOf, tab]; omega))); (focus (first | rfl | omega | (simp; done) | (simp; omega) | (simp [szOf, tab]; done) | (simp [szOf, tab]; omega))); (try simp only [go_sem, Nat.reduceAdd, Nat.reduceMul, Nat.reduceEqDiff, Nat.reduceLT, reduceIte, reduceCtorEq])) | (refine aAppend_none rfl rfl rfl rfl (Nat.le_of_ble_eq_true rfl) (by simp only [St.ev, St.set, upd, Nat.reduceEqDiff, reduceIte, if_false, if_true]; exact rfl) ?_ ?_ ?_; (focus (first | rfl | omega | (simp; done) | (simp; omega) | (simp [szOf, tab]; done) | (simp [szOf, tab]; omega))); (focus (first | rfl | omega | (simp; done) | (simp; omega) | (simp [szOf, tab]; done) | (simp [szOf, tab]; omega))); (try simp only [go_sem, Nat.reduceAdd, Nat.reduceMul, Nat.reduceEqDiff, Nat.reduceLT, reduceIte, reduceCtorEq])) | (refine aStoreAll_ints (by simp only [St.ev, St.set, upd, Nat.reduceEqDiff, reduceIte, if_false, if_true]; exact rfl) ?_ ?_ ?_ ?_; (focus (first | rfl | omega | (simp; done) | (simp; omega) | (simp [szOf, tab]; done) | (simp [szOf, tab]; omega))); (focus (first | rfl | omega | (simp; done) | (simp; omega) | (simp [szOf, tab]; done) | (simp [szOf, tab]; omega))); (focus (first | rfl | omega | (simp; done) | (simp; omega) | (simp [szOf, tab]; done) | (simp [szOf, tab]; omega))); (try simp only [go_sem, Nat.reduceAdd, Nat.reduceMul, Nat.reduceEqDiff, Nat.reduceLT, reduceIte, reduceCtorEq])) | (simp only [doneH]; simp only [ressK, resK, wrapR, go_sem, Nat.reduceAdd, Nat.reduceMul, Nat.reduceEqDiff, Nat.reduceLT, reduceIte, reduceCtorEq]) | (refine aStoreAll_cells (by simp only [St.ev, St.set, upd, Nat.reduceEqDiff, reduceIte, if_false, if_true]; exact rfl) ?_ ?_ ?_ ?_ ?_; (focus (first | rfl | omega | (simp; done) | (simp; omega) | (simp [szOf, tab]; done) | (simp [szOf, tab]; omega))); (focus (first | rfl | omega | (simp; done) | (simp; omega) | (simp [szOf, tab]; done) | (simp [szOf, tab]; omega))); (focus (first | rfl | omega | (simp; done) | (simp; omega) | (simp [szOf, tab]; done) | (simp [szOf, tab]; omega))); (focus (first | rfl | (simp [AV.cell, Value.oneCell']; done))); (try simp only [go_sem, Nat.reduceAdd, Nat.reduceMul, Nat.reduceEqDiff, Nat.reduceLT, reduceIte, reduceCtorEq])) | (with_reducible refine And.intro (fun hb => ?_) (fun hb => ?_)) | (exfalso; omega) | fail))
  all_goals try (
    refine ⟨L, lim, _, r + 2, rfl, hL.1, hL.2, hbs, rfl, rfl, by omega, by omega, by omega, ?_⟩
    intro v hv
    generalize ([100, -100, 4611686018427387904, 99, -99] : List Int).getD v 0 = kk)
  repeat' ((fail_if_success (with_reducible refine isRet K0 ?_)); (first | refine awp_seq_k fun K hK => ?_ | ((with_reducible refine hK _ ?_); clear hK K) | (clear hK K; (with_reducible refine hK _ ?_); clear hK K) | (clear hK K; clear hK K; (with_reducible refine hK _ ?_); clear hK K) | (clear hK K; clear hK K; clear hK K; (with_reducible refine hK _ ?_); clear hK K) | (clear hK K; clear hK K; clear hK K; clear hK K; (with_reducible refine hK _ ?_); clear hK K) | (clear hK K; clear hK K; clear hK K; clear hK K; clear hK K; (with_reducible refine hK _ ?_); clear hK K) | ((with_reducible refine aord_plain fun K hK => ?_); simp only [go_sem, Nat.reduceAdd, Nat.reduceMul, Nat.reduceEqDiff, Nat.reduceLT, reduceIte, reduceCtorEq, h0, h1]) | refine awp_block ?_ | ((first | with_reducible refine aord_nil ?_ | refine awp_skip ?_ | refine awp_exit ?_ | refine awp_ret ?_); try simp only [thenA_normal, thenA_exit, thenA_goto, thenA_ret, blockA_normal, blockA_same, blockA_exit, blockA_goto, blockA_ret, Nat.reduceEqDiff, if_false, if_true, reduceIte]) | (refine awp_region tabOk rfl ?_; simp only [prep, pickO, List.map_cons, List.map_nil, List.getElem?_toArray, List.getElem?_cons_succ, List.getElem?_cons_zero, Option.bind_some, Option.map_some]) | ((with_reducible apply awp_cond); (focus (simp only [St.ev, St.set, upd, Nat.reduceEqDiff, reduceIte, if_false, if_true]; exact rfl)); all_goals (intro hb; first | (cases hb; done) | ((try rw [hb]); (try simp only [decide_eq_true_eq, decide_eq_false_iff_not, beq_iff_eq, bne_iff_ne, beq_eq_false_iff_ne, bne_eq_false_iff_eq, Int.not_lt, Int.not_le, Bool.not_eq_true', Bool.not_eq_false'] at hb)))) | ((with_reducible refine And.intro ?_ ?_); (focus omega)) | ((with_reducible refine And.intro ?_ ?_); (focus (exact rfl))) | ((with_reducible refine And.intro (?_ : enters Try.prog 55) ?_); (focus exact Try.call55); (refine callX_satH pick_sat ?_); simp only [go_sem, and_assoc, List.nil_append, List.append_nil, List.cons_append, Nat.reduceEqDiff, reduceIte, reduceCtorEq, h0, h1]) | ((with_reducible refine And.intro (?_ : enters Try.prog 75) ?_); (focus exact Try.call75); (refine callX_satH one_sat ?_); simp only [go_sem, and_assoc, List.nil_append, List.append_nil, List.cons_append, Nat.reduceEqDiff, reduceIte, reduceCtorEq, h0, h1]) | ((with_reducible refine And.intro (?_ : enters Try.prog 80) ?_); (focus exact Try.call80); (refine callX_satH goodKeys_sat ?_); simp only [go_sem, and_assoc, List.nil_append, List.append_nil, List.cons_append, Nat.reduceEqDiff, reduceIte, reduceCtorEq, h0, h1]) | ((with_reducible refine And.intro (?_ : enters Try.prog 79) ?_); (focus exact Try.call79); (refine callX_h (callH_inline tabOk Try.func79 rfl 27 rfl [.tmp 4] rfl (Nat.le_of_ble_eq_true rfl) fun m0 hm0 hcl hlt => ?_)); simp only [initT, St.ev, St.set, upd, Nat.reduceEqDiff, reduceIte, if_false, if_true]) | (refine aAppend_ints rfl rfl rfl rfl (Nat.le_of_ble_eq_true rfl) (by simp only [St.ev, St.set, upd, Nat.reduceEqDiff, reduceIte, if_false, if_true]; exact rfl) (by simp only [St.ev, St.set, upd, Nat.reduceEqDiff, reduceIte, if_false, if_true]; exact rfl) rfl (by decide) ?_ ?_ ?_ ?_; (focus (first | rfl | omega | (simp; done) | (simp; omega) | (simp [szOf, tab]; done) | (simp [szOf, tab]; omega))); (focus (first | rfl | omega | (simp; done) | (simp; omega) | (simp [szOf, tab]; done) | (simp [szOf, tab]; omega))); (focus (first | rfl | omega | (simp; done) | (simp; omega) | (simp [szOf, tab]; done) | (simp [szOf, tab]; omega))); (try simp only [go_sem, Nat.reduceAdd, Nat.reduceMul, Nat.reduceEqDiff, Nat.reduceLT, reduceIte, reduceCtorEq])) | (refine aAppend_none rfl rfl rfl rfl (Nat.le_of_ble_eq_true rfl) (by simp only [St.ev, St.set, upd, Nat.reduceEqDiff, reduceIte, if_false, if_true]; exact rfl) ?_ ?_ ?_; (focus (first | rfl | omega | (simp; done) | (simp; omega) | (simp [szOf, tab]; done) | (simp [szOf, tab]; omega))); (focus (first | rfl | omega | (simp; done) | (simp; omega) | (simp [szOf, tab]; done) | (simp [szOf, tab]; omega))); (try simp only [go_sem, Nat.reduceAdd, Nat.reduceMul, Nat.reduceEqDiff, Nat.reduceLT, reduceIte, reduceCtorEq])) | (refine aStoreAll_ints (by simp only [St.ev, St.set, upd, Nat.reduceEqDiff, reduceIte, if_false, if_true]; exact rfl) ?_ ?_ ?_ ?_; (focus (first | rfl | omega | (simp; done) | (simp; omega) | (simp [szOf, tab]; done) | (simp [szOf, tab]; omega))); (focus (first | rfl | omega | (simp; done) | (simp; omega) | (simp [szOf, tab]; done) | (simp [szOf, tab]; omega))); (focus (first | rfl | omega | (simp; done) | (simp; omega) | (simp [szOf, tab]; done) | (simp [szOf, tab]; omega))); (try simp only [go_sem, Nat.reduceAdd, Nat.reduceMul, Nat.reduceEqDiff, Nat.reduceLT, reduceIte, reduceCtorEq])) | (simp only [doneH]; simp only [ressK, resK, wrapR, go_sem, Nat.reduceAdd, Nat.reduceMul, Nat.reduceEqDiff, Nat.reduceLT, reduceIte, reduceCtorEq]) | (refine aStoreAll_cells (by simp only [St.ev, St.set, upd, Nat.reduceEqDiff, reduceIte, if_false, if_true]; exact rfl) ?_ ?_ ?_ ?_ ?_; (focus (first | rfl | omega | (simp; done) | (simp; omega) | (simp [szOf, tab]; done) | (simp [szOf, tab]; omega))); (focus (first | rfl | omega | (simp; done) | (simp; omega) | (simp [szOf, tab]; done) | (simp [szOf, tab]; omega))); (focus (first | rfl | omega | (simp; done) | (simp; omega) | (simp [szOf, tab]; done) | (simp [szOf, tab]; omega))); (focus (first | rfl | (simp [AV.cell, Value.oneCell']; done))); (try simp only [go_sem, Nat.reduceAdd, Nat.reduceMul, Nat.reduceEqDiff, Nat.reduceLT, reduceIte, reduceCtorEq])) | (with_reducible refine And.intro (fun hb => ?_) (fun hb => ?_)) | (exfalso; omega) | fail))
  all_goals have hcl := hclO
  · refine awp_weaken (s' := ⟨upd bot 2 (.sl 2 0 (ks.set x.toNat kk).length 1 none), upd (upd h 1 (some ⟨true, .cells [.sl 0 0 L 1 lim, .val (.int .i64 ((r + 3 : Nat) : Int))]⟩)) 2 (some ⟨true, .ints .i64 (ks.set x.toNat kk)⟩), 3⟩) ?_ ?_
    · (apply Wk.over (id) 2; (case' h2 => (focus ((repeat' (first | (with_reducible exact HeapX.bot) | (exact HeapX.base (by first | exact hcl | assumption) (by first | exact Nat.le_refl _ | omega | (simp only; omega)) (fun k hk => by first | rfl | (simp only [id]; done) | (rw [if_neg (by omega)])) (by intro u hu hlt'; first | rfl | (simp only [List.mem_cons, List.not_mem_nil, or_false, not_or] at hu; first | (simp [upd, hu]; done) | (simp only [upd]; (repeat rw [if_neg (by omega)]))))) | (with_reducible (apply HeapX.skip; (case hx => (simp; done)))) | (with_reducible apply HeapX.none) | (with_reducible apply HeapX.old (by first | assumption | omega) (by first | exact Nat.le_refl _ | omega | (simp only; omega)) (by first | rfl | (simp only [id]; done) | (rw [if_neg (by omega)]))) | (with_reducible apply HeapX.upd))); all_goals (first | rfl | omega | assumption | exact Nat.le_of_ble_eq_true rfl | (simp only [St.set, St.ev, upd, ren, renL, id, Nat.reduceEqDiff, reduceIte]; rfl) | (simp only [St.set, St.ev, upd, ren, renL, id, Nat.reduceEqDiff, reduceIte, ContLe]; done) | (first | (simp only [St.set, St.ev, upd, ren, renL, id, Nat.reduceEqDiff, reduceIte]; exact contLe_nil) | ((repeat' (first | exact contLe_nil | refine contLe_cons (.inr ⟨?_, rfl⟩) ?_)); all_goals (first | rfl | (simp only [St.set, St.ev, upd, ren, renL, id, Nat.reduceEqDiff, reduceIte]; done) | ((try simp only [St.set, St.ev, upd, ren, renL, id, Nat.reduceEqDiff, reduceIte]); first | (with_reducible exact av_int (by omega)) | (with_reducible exact av_sl (by first | omega | (simp; done) | (simp; omega)) (by first | omega | (simp; done) | (simp; omega)))) | (simp only [St.set, St.ev, upd, ren, renL, id, Nat.reduceEqDiff, reduceIte, Int.natCast_add, Int.natCast_one, Int.cast_ofNat_Int, Int.natCast_zero]; done) | (simp only [St.set, St.ev, upd, ren, renL, id, Nat.reduceEqDiff, reduceIte]) | skip); done)) | (simp only [St.set, St.ev, upd, ren, renL, id, Nat.reduceEqDiff, reduceIte, ContLe]) | skip)))); (case' h1 => (focus ((repeat' (with_reducible first | exact TmpLe.bot | refine TmpLe.upd ?_ (by first | rfl | (simp only [AV.lt, decide_eq_true_eq]; first | done | omega)) ?_)); all_goals (first | rfl | (simp only [St.set, St.ev, upd, ren, renL, id, Nat.reduceEqDiff, reduceIte]; done) | ((try simp only [St.set, St.ev, upd, ren, renL, id, Nat.reduceEqDiff, reduceIte]); first | (with_reducible exact av_int (by omega)) | (with_reducible exact av_sl (by first | omega | (simp; done) | (simp; omega)) (by first | omega | (simp; done) | (simp; omega)))) | (simp only [St.set, St.ev, upd, ren, renL, id, Nat.reduceEqDiff, reduceIte, Int.natCast_add, Int.natCast_one, Int.cast_ofNat_Int, Int.natCast_zero]; done) | (simp only [St.set, St.ev, upd, ren, renL, id, Nat.reduceEqDiff, reduceIte]) | skip)))); (case h3 => (focus (first | (simp only [id, List.map_cons, List.map_nil]; decide) | decide))); (case h5 => (intro d hd; first | (simp at hd; done) | (simp only [List.mem_cons, List.not_mem_nil, or_false] at hd; first | (simp only [id]; omega) | (split <;> omega) | ((try simp only); repeat' split; all_goals omega)))); (case h4 => (intro o l h; first | (cases h; done) | (have hlt0 := m0_lt (by assumption) h; first | omega | (simp only; omega) | exact ⟨by (first | rfl | (simp only [id]; done) | (rw [if_neg (by omega)])), by first | omega | (simp only; omega)⟩))))
    repeat' (first | refine awp_seq_k fun K hK => ?_ | ((with_reducible refine hK _ ?_); clear hK K) | (clear hK K; (with_reducible refine hK _ ?_); clear hK K) | (clear hK K; clear hK K; (with_reducible refine hK _ ?_); clear hK K) | (clear hK K; clear hK K; clear hK K; (with_reducible refine hK _ ?_); clear hK K) | (clear hK K; clear hK K; clear hK K; clear hK K; (with_reducible refine hK _ ?_); clear hK K) | (clear hK K; clear hK K; clear hK K; clear hK K; clear hK K; (with_reducible refine hK _ ?_); clear hK K) | ((with_reducible refine aord_plain fun K hK => ?_); simp only [go_sem, Nat.reduceAdd, Nat.reduceMul, Nat.reduceEqDiff, Nat.reduceLT, reduceIte, reduceCtorEq, h0, h1]) | refine awp_block ?_ | ((first | with_reducible refine aord_nil ?_ | refine awp_skip ?_ | refine awp_exit ?_ | refine awp_ret ?_); try simp only [thenA_normal, thenA_exit, thenA_goto, thenA_ret, blockA_normal, blockA_same, blockA_exit, blockA_goto, blockA_ret, Nat.reduceEqDiff, if_false, if_true, reduceIte]) | (refine awp_region tabOk rfl ?_; simp only [prep, pickO, List.map_cons, List.map_nil, List.getElem?_toArray, List.getElem?_cons_succ, List.getElem?_cons_zero, Option.bind_some, Option.map_some]) | ((with_reducible apply awp_cond); (focus (simp only [St.ev, St.set, upd, Nat.reduceEqDiff, reduceIte, if_false, if_true]; exact rfl)); all_goals (intro hb; first | (cases hb; done) | ((try rw [hb]); (try simp only [decide_eq_true_eq, decide_eq_false_iff_not, beq_iff_eq, bne_iff_ne, beq_eq_false_iff_ne, bne_eq_false_iff_eq, Int.not_lt, Int.not_le, Bool.not_eq_true', Bool.not_eq_false'] at hb)))) | ((with_reducible refine And.intro ?_ ?_); (focus omega)) | ((with_reducible refine And.intro ?_ ?_); (focus (exact rfl))) | ((with_reducible refine And.intro (?_ : enters Try.prog 55) ?_); (focus exact Try.call55); (refine callX_satH pick_sat ?_); simp only [go_sem, and_assoc, List.nil_append, List.append_nil, List.cons_append, Nat.reduceEqDiff, reduceIte, reduceCtorEq, h0, h1]) | ((with_reducible refine And.intro (?_ : enters Try.prog 75) ?_); (focus exact Try.call75); (refine callX_satH one_sat ?_); simp only [go_sem, and_assoc, List.nil_append, List.append_nil, List.cons_append, Nat.reduceEqDiff, reduceIte, reduceCtorEq, h0, h1]) | ((with_reducible refine And.intro (?_ : enters Try.prog 80) ?_); (focus exact Try.call80); (refine callX_satH goodKeys_sat ?_); simp only [go_sem, and_assoc, List.nil_append, List.append_nil, List.cons_append, Nat.reduceEqDiff, reduceIte, reduceCtorEq, h0, h1]) | ((with_reducible refine And.intro (?_ : enters Try.prog 79) ?_); (focus exact Try.call79); (refine callX_h (callH_inline tabOk Try.func79 rfl 27 rfl [.tmp 4] rfl (Nat.le_of_ble_eq_true rfl) fun m0 hm0 hcl hlt => ?_)); simp only [initT, St.ev, St.set, upd, Nat.reduceEqDiff, reduceIte, if_false, if_true]) | (refine aAppend_ints rfl rfl rfl rfl (Nat.le_of_ble_eq_true rfl) (by simp only [St.ev, St.set, upd, Nat.reduceEqDiff, reduceIte, if_false, if_true]; exact rfl) (by simp only [St.ev, St.set, upd, Nat.reduceEqDiff, reduceIte, if_false, if_true]; exact rfl) rfl (by decide) ?_ ?_ ?_ ?_; (focus (first | rfl | omega | (simp; done) | (simp; omega) | (simp [szOf, tab]; done) | (simp [szOf, tab]; omega))); (focus (first | rfl | omega | (simp; done) | (simp; omega) | (simp [szOf, tab]; done) | (simp [szOf, tab]; omega))); (focus (first | rfl | omega | (simp; done) | (simp; omega) | (simp [szOf, tab]; done) | (simp [szOf, tab]; omega))); (try simp only [go_sem, Nat.reduceAdd, Nat.reduceMul, Nat.reduceEqDiff, Nat.reduceLT, reduceIte, reduceCtorEq])) | (refine aAppend_none rfl rfl rfl rfl (Nat.le_of_ble_eq_true rfl) (by simp only [St.ev, St.set, upd, Nat.reduceEqDiff, reduceIte, if_false, if_true]; exact rfl) ?_ ?_ ?_; (focus (first | rfl | omega | (simp; done) | (simp; omega) | (simp [szOf, tab]; done) | (simp [szOf, tab]; omega))); (focus (first | rfl | omega | (simp; done) | (simp; omega) | (simp [szOf, tab]; done) | (simp [szOf, tab]; omega))); (try simp only [go_sem, Nat.reduceAdd, Nat.reduceMul, Nat.reduceEqDiff, Nat.reduceLT, reduceIte, reduceCtorEq])) | (refine aStoreAll_ints (by simp only [St.ev, St.set, upd, Nat.reduceEqDiff, reduceIte, if_false, if_true]; exact rfl) ?_ ?_ ?_ ?_; (focus (first | rfl | omega | (simp; done) | (simp; omega) | (simp [szOf, tab]; done) | (simp [szOf, tab]; omega))); (focus (first | rfl | omega | (simp; done) | (simp; omega) | (simp [szOf, tab]; done) | (simp [szOf, tab]; omega))); (focus (first | rfl | omega | (simp; done) | (simp; omega) | (simp [szOf, tab]; done) | (simp [szOf, tab]; omega))); (try simp only [go_sem, Nat.reduceAdd, Nat.reduceMul, Nat.reduceEqDiff, Nat.reduceLT, reduceIte, reduceCtorEq])) | (simp only [doneH]; simp only [ressK, resK, wrapR, go_sem, Nat.reduceAdd, Nat.reduceMul, Nat.reduceEqDiff, Nat.reduceLT, reduceIte, reduceCtorEq]) | (refine aStoreAll_cells (by simp only [St.ev, St.set, upd, Nat.reduceEqDiff, reduceIte, if_false, if_true]; exact rfl) ?_ ?_ ?_ ?_ ?_; (focus (first | rfl | omega | (simp; done) | (simp; omega) | (simp [szOf, tab]; done) | (simp [szOf, tab]; omega))); (focus (first | rfl | omega | (simp; done) | (simp; omega) | (simp [szOf, tab]; done) | (simp [szOf, tab]; omega))); (focus (first | rfl | omega | (simp; done) | (simp; omega) | (simp [szOf, tab]; done) | (simp [szOf, tab]; omega))); (focus (first | rfl | (simp [AV.cell, Value.oneCell']; done))); (try simp only [go_sem, Nat.reduceAdd, Nat.reduceMul, Nat.reduceEqDiff, Nat.reduceLT, reduceIte, reduceCtorEq])) | (with_reducible refine And.intro (fun hb => ?_) (fun hb => ?_)) | (exfalso; omega) | fail)
    have h9 := hQ (ks.set x.toNat kk) (r + 3) (by simp; omega) (by omega)
    simp only [List.length_set] at h9 ⊢
    exact h9
  · refine awp_weaken (s' := ⟨upd bot 2 (.sl 2 0 ks.length 1 none), upd (upd h 1 (some ⟨true, .cells [.sl 0 0 L 1 lim, .val (.int .i64 ((r + 1 : Nat) : Int))]⟩)) 2 (some ⟨true, .ints .i64 ks⟩), 3⟩) ?_ ?_
    · (apply Wk.over (id) 2; (case' h2 => (focus ((repeat' (first | (with_reducible exact HeapX.bot) | (exact HeapX.base (by first | exact hcl | assumption) (by first | exact Nat.le_refl _ | omega | (simp only; omega)) (fun k hk => by first | rfl | (simp only [id]; done) | (rw [if_neg (by omega)])) (by intro u hu hlt'; first | rfl | (simp only [List.mem_cons, List.not_mem_nil, or_false, not_or] at hu; first | (simp [upd, hu]; done) | (simp only [upd]; (repeat rw [if_neg (by omega)]))))) | (with_reducible (apply HeapX.skip; (case hx => (simp; done)))) | (with_reducible apply HeapX.none) | (with_reducible apply HeapX.old (by first | assumption | omega) (by first | exact Nat.le_refl _ | omega | (simp only; omega)) (by first | rfl | (simp only [id]; done) | (rw [if_neg (by omega)]))) | (with_reducible apply HeapX.upd))); all_goals (first | rfl | omega | assumption | exact Nat.le_of_ble_eq_true rfl | (simp only [St.set, St.ev, upd, ren, renL, id, Nat.reduceEqDiff, reduceIte]; rfl) | (simp only [St.set, St.ev, upd, ren, renL, id, Nat.reduceEqDiff, reduceIte, ContLe]; done) | (first | (simp only [St.set, St.ev, upd, ren, renL, id, Nat.reduceEqDiff, reduceIte]; exact contLe_nil) | ((repeat' (first | exact contLe_nil | refine contLe_cons (.inr ⟨?_, rfl⟩) ?_)); all_goals (first | rfl | (simp only [St.set, St.ev, upd, ren, renL, id, Nat.reduceEqDiff, reduceIte]; done) | ((try simp only [St.set, St.ev, upd, ren, renL, id, Nat.reduceEqDiff, reduceIte]); first | (with_reducible exact av_int (by omega)) | (with_reducible exact av_sl (by first | omega | (simp; done) | (simp; omega)) (by first | omega | (simp; done) | (simp; omega)))) | (simp only [St.set, St.ev, upd, ren, renL, id, Nat.reduceEqDiff, reduceIte, Int.natCast_add, Int.natCast_one, Int.cast_ofNat_Int, Int.natCast_zero]; done) | (simp only [St.set, St.ev, upd, ren, renL, id, Nat.reduceEqDiff, reduceIte]) | skip); done)) | (simp only [St.set, St.ev, upd, ren, renL, id, Nat.reduceEqDiff, reduceIte, ContLe]) | skip)))); (case' h1 => (focus ((repeat' (with_reducible first | exact TmpLe.bot | refine TmpLe.upd ?_ (by first | rfl | (simp only [AV.lt, decide_eq_true_eq]; first | done | omega)) ?_)); all_goals (first | rfl | (simp only [St.set, St.ev, upd, ren, renL, id, Nat.reduceEqDiff, reduceIte]; done) | ((try simp only [St.set, St.ev, upd, ren, renL, id, Nat.reduceEqDiff, reduceIte]); first | (with_reducible exact av_int (by omega)) | (with_reducible exact av_sl (by first | omega | (simp; done) | (simp; omega)) (by first | omega | (simp; done) | (simp; omega)))) | (simp only [St.set, St.ev, upd, ren, renL, id, Nat.reduceEqDiff, reduceIte, Int.natCast_add, Int.natCast_one, Int.cast_ofNat_Int, Int.natCast_zero]; done) | (simp only [St.set, St.ev, upd, ren, renL, id, Nat.reduceEqDiff, reduceIte]) | skip)))); (case h3 => (focus (first | (simp only [id, List.map_cons, List.map_nil]; decide) | decide))); (case h5 => (intro d hd; first | (simp at hd; done) | (simp only [List.mem_cons, List.not_mem_nil, or_false] at hd; first | (simp only [id]; omega) | (split <;> omega) | ((try simp only); repeat' split; all_goals omega)))); (case h4 => (intro o l h; first | (cases h; done) | (have hlt0 := m0_lt (by assumption) h; first | omega | (simp only; omega) | exact ⟨by (first | rfl | (simp only [id]; done) | (rw [if_neg (by omega)])), by first | omega | (simp only; omega)⟩))))
    repeat' (first | refine awp_seq_k fun K hK => ?_ | ((with_reducible refine hK _ ?_); clear hK K) | (clear hK K; (with_reducible refine hK _ ?_); clear hK K) | (clear hK K; clear hK K; (with_reducible refine hK _ ?_); clear hK K) | (clear hK K; clear hK K; clear hK K; (with_reducible refine hK _ ?_); clear hK K) | (clear hK K; clear hK K; clear hK K; clear hK K; (with_reducible refine hK _ ?_); clear hK K) | (clear hK K; clear hK K; clear hK K; clear hK K; clear hK K; (with_reducible refine hK _ ?_); clear hK K) | ((with_reducible refine aord_plain fun K hK => ?_); simp only [go_sem, Nat.reduceAdd, Nat.reduceMul, Nat.reduceEqDiff, Nat.reduceLT, reduceIte, reduceCtorEq, h0, h1]) | refine awp_block ?_ | ((first | with_reducible refine aord_nil ?_ | refine awp_skip ?_ | refine awp_exit ?_ | refine awp_ret ?_); try simp only [thenA_normal, thenA_exit, thenA_goto, thenA_ret, blockA_normal, blockA_same, blockA_exit, blockA_goto, blockA_ret, Nat.reduceEqDiff, if_false, if_true, reduceIte]) | (refine awp_region tabOk rfl ?_; simp only [prep, pickO, List.map_cons, List.map_nil, List.getElem?_toArray, List.getElem?_cons_succ, List.getElem?_cons_zero, Option.bind_some, Option.map_some]) | ((with_reducible apply awp_cond); (focus (simp only [St.ev, St.set, upd, Nat.reduceEqDiff, reduceIte, if_false, if_true]; exact rfl)); all_goals (intro hb; first | (cases hb; done) | ((try rw [hb]); (try simp only [decide_eq_true_eq, decide_eq_false_iff_not, beq_iff_eq, bne_iff_ne, beq_eq_false_iff_ne, bne_eq_false_iff_eq, Int.not_lt, Int.not_le, Bool.not_eq_true', Bool.not_eq_false'] at hb)))) | ((with_reducible refine And.intro ?_ ?_); (focus omega)) | ((with_reducible refine And.intro ?_ ?_); (focus (exact rfl))) | ((with_reducible refine And.intro (?_ : enters Try.prog 55) ?_); (focus exact Try.call55); (refine callX_satH pick_sat ?_); simp only [go_sem, and_assoc, List.nil_append, List.append_nil, List.cons_append, Nat.reduceEqDiff, reduceIte, reduceCtorEq, h0, h1]) | ((with_reducible refine And.intro (?_ : enters Try.prog 75) ?_); (focus exact Try.call75); (refine callX_satH one_sat ?_); simp only [go_sem, and_assoc, List.nil_append, List.append_nil, List.cons_append, Nat.reduceEqDiff, reduceIte, reduceCtorEq, h0, h1]) | ((with_reducible refine And.intro (?_ : enters Try.prog 80) ?_); (focus exact Try.call80); (refine callX_satH goodKeys_sat ?_); simp only [go_sem, and_assoc, List.nil_append, List.append_nil, List.cons_append, Nat.reduceEqDiff, reduceIte, reduceCtorEq, h0, h1]) | ((with_reducible refine And.intro (?_ : enters Try.prog 79) ?_); (focus exact Try.call79); (refine callX_h (callH_inline tabOk Try.func79 rfl 27 rfl [.tmp 4] rfl (Nat.le_of_ble_eq_true rfl) fun m0 hm0 hcl hlt => ?_)); simp only [initT, St.ev, St.set, upd, Nat.reduceEqDiff, reduceIte, if_false, if_true]) | (refine aAppend_ints rfl rfl rfl rfl (Nat.le_of_ble_eq_true rfl) (by simp only [St.ev, St.set, upd, Nat.reduceEqDiff, reduceIte, if_false, if_true]; exact rfl) (by simp only [St.ev, St.set, upd, Nat.reduceEqDiff, reduceIte, if_false, if_true]; exact rfl) rfl (by decide) ?_ ?_ ?_ ?_; (focus (first | rfl | omega | (simp; done) | (simp; omega) | (simp [szOf, tab]; done) | (simp [szOf, tab]; omega))); (focus (first | rfl | omega | (simp; done) | (simp; omega) | (simp [szOf, tab]; done) | (simp [szOf, tab]; omega))); (focus (first | rfl | omega | (simp; done) | (simp; omega) | (simp [szOf, tab]; done) | (simp [szOf, tab]; omega))); (try simp only [go_sem, Nat.reduceAdd, Nat.reduceMul, Nat.reduceEqDiff, Nat.reduceLT, reduceIte, reduceCtorEq])) | (refine aAppend_none rfl rfl rfl rfl (Nat.le_of_ble_eq_true rfl) (by simp only [St.ev, St.set, upd, Nat.reduceEqDiff, reduceIte, if_false, if_true]; exact rfl) ?_ ?_ ?_; (focus (first | rfl | omega | (simp; done) | (simp; omega) | (simp [szOf, tab]; done) | (simp [szOf, tab]; omega))); (focus (first | rfl | omega | (simp; done) | (simp; omega) | (simp [szOf, tab]; done) | (simp [szOf, tab]; omega))); (try simp only [go_sem, Nat.reduceAdd, Nat.reduceMul, Nat.reduceEqDiff, Nat.reduceLT, reduceIte, reduceCtorEq])) | (refine aStoreAll_ints (by simp only [St.ev, St.set, upd, Nat.reduceEqDiff, reduceIte, if_false, if_true]; exact rfl) ?_ ?_ ?_ ?_; (focus (first | rfl | omega | (simp; done) | (simp; omega) | (simp [szOf, tab]; done) | (simp [szOf, tab]; omega))); (focus (first | rfl | omega | (simp; done) | (simp; omega) | (simp [szOf, tab]; done) | (simp [szOf, tab]; omega))); (focus (first | rfl | omega | (simp; done) | (simp; omega) | (simp [szOf, tab]; done) | (simp [szOf, tab]; omega))); (try simp only [go_sem, Nat.reduceAdd, Nat.reduceMul, Nat.reduceEqDiff, Nat.reduceLT, reduceIte, reduceCtorEq])) | (simp only [doneH]; simp only [ressK, resK, wrapR, go_sem, Nat.reduceAdd, Nat.reduceMul, Nat.reduceEqDiff, Nat.reduceLT, reduceIte, reduceCtorEq]) | (refine aStoreAll_cells (by simp only [St.ev, St.set, upd, Nat.reduceEqDiff, reduceIte, if_false, if_true]; exact rfl) ?_ ?_ ?_ ?_ ?_; (focus (first | rfl | omega | (simp; done) | (simp; omega) | (simp [szOf, tab]; done) | (simp [szOf, tab]; omega))); (focus (first | rfl | omega | (simp; done) | (simp; omega) | (simp [szOf, tab]; done) | (simp [szOf, tab]; omega))); (focus (first | rfl | omega | (simp; done) | (simp; omega) | (simp [szOf, tab]; done) | (simp [szOf, tab]; omega))); (focus (first | rfl | (simp [AV.cell, Value.oneCell']; done))); (try simp only [go_sem, Nat.reduceAdd, Nat.reduceMul, Nat.reduceEqDiff, Nat.reduceLT, reduceIte, reduceCtorEq])) | (with_reducible refine And.intro (fun hb => ?_) (fun hb => ?_)) | (exfalso; omega) | fail)
    exact hQ ks (r + 1) (by omega) (by omega)
  · refine awp_weaken (s' := ⟨upd bot 2 (.sl 2 0 (ks ++ [1, 2, 3, 4, 5, 6, 7, 8, 9]).length 1 none), upd (upd h 1 (some ⟨true, .cells [.sl 0 0 L 1 lim, .val (.int .i64 ((r + 1 : Nat) : Int))]⟩)) 2 (some ⟨true, .ints .i64 (ks ++ [1, 2, 3, 4, 5, 6, 7, 8, 9])⟩), 3⟩) ?_ ?_
    · (apply Wk.over (fun o => if o = 2 then 4 else o) 2; (case' h2 => (focus ((repeat' (first | (with_reducible exact HeapX.bot) | (exact HeapX.base (by first | exact hcl | assumption) (by first | exact Nat.le_refl _ | omega | (simp only; omega)) (fun k hk => by first | rfl | (simp only [id]; done) | (rw [if_neg (by omega)])) (by intro u hu hlt'; first | rfl | (simp only [List.mem_cons, List.not_mem_nil, or_false, not_or] at hu; first | (simp [upd, hu]; done) | (simp only [upd]; (repeat rw [if_neg (by omega)]))))) | (with_reducible (apply HeapX.skip; (case hx => (simp; done)))) | (with_reducible apply HeapX.none) | (with_reducible apply HeapX.old (by first | assumption | omega) (by first | exact Nat.le_refl _ | omega | (simp only; omega)) (by first | rfl | (simp only [id]; done) | (rw [if_neg (by omega)]))) | (with_reducible apply HeapX.upd))); all_goals (first | rfl | omega | assumption | exact Nat.le_of_ble_eq_true rfl | (simp only [St.set, St.ev, upd, ren, renL, id, Nat.reduceEqDiff, reduceIte]; rfl) | (simp only [St.set, St.ev, upd, ren, renL, id, Nat.reduceEqDiff, reduceIte, ContLe]; done) | (first | (simp only [St.set, St.ev, upd, ren, renL, id, Nat.reduceEqDiff, reduceIte]; exact contLe_nil) | ((repeat' (first | exact contLe_nil | refine contLe_cons (.inr ⟨?_, rfl⟩) ?_)); all_goals (first | rfl | (simp only [St.set, St.ev, upd, ren, renL, id, Nat.reduceEqDiff, reduceIte]; done) | ((try simp only [St.set, St.ev, upd, ren, renL, id, Nat.reduceEqDiff, reduceIte]); first | (with_reducible exact av_int (by omega)) | (with_reducible exact av_sl (by first | omega | (simp; done) | (simp; omega)) (by first | omega | (simp; done) | (simp; omega)))) | (simp only [St.set, St.ev, upd, ren, renL, id, Nat.reduceEqDiff, reduceIte, Int.natCast_add, Int.natCast_one, Int.cast_ofNat_Int, Int.natCast_zero]; done) | (simp only [St.set, St.ev, upd, ren, renL, id, Nat.reduceEqDiff, reduceIte]) | skip); done)) | (simp only [St.set, St.ev, upd, ren, renL, id, Nat.reduceEqDiff, reduceIte, ContLe]) | skip)))); (case' h1 => (focus ((repeat' (with_reducible first | exact TmpLe.bot | refine TmpLe.upd ?_ (by first | rfl | (simp only [AV.lt, decide_eq_true_eq]; first | done | omega)) ?_)); all_goals (first | rfl | (simp only [St.set, St.ev, upd, ren, renL, id, Nat.reduceEqDiff, reduceIte]; done) | ((try simp only [St.set, St.ev, upd, ren, renL, id, Nat.reduceEqDiff, reduceIte]); first | (with_reducible exact av_int (by omega)) | (with_reducible exact av_sl (by first | omega | (simp; done) | (simp; omega)) (by first | omega | (simp; done) | (simp; omega)))) | (simp only [St.set, St.ev, upd, ren, renL, id, Nat.reduceEqDiff, reduceIte, Int.natCast_add, Int.natCast_one, Int.cast_ofNat_Int, Int.natCast_zero]; done) | (simp only [St.set, St.ev, upd, ren, renL, id, Nat.reduceEqDiff, reduceIte]) | skip)))); (case h3 => (focus (first | (simp only [id, List.map_cons, List.map_nil]; decide) | decide))); (case h5 => (intro d hd; first | (simp at hd; done) | (simp only [List.mem_cons, List.not_mem_nil, or_false] at hd; first | (simp only [id]; omega) | (split <;> omega) | ((try simp only); repeat' split; all_goals omega)))); (case h4 => (intro o l h; first | (cases h; done) | (have hlt0 := m0_lt (by assumption) h; first | omega | (simp only; omega) | exact ⟨by (first | rfl | (simp only [id]; done) | (rw [if_neg (by omega)])), by first | omega | (simp only; omega)⟩))))
    repeat' (first | refine awp_seq_k fun K hK => ?_ | ((with_reducible refine hK _ ?_); clear hK K) | (clear hK K; (with_reducible refine hK _ ?_); clear hK K) | (clear hK K; clear hK K; (with_reducible refine hK _ ?_); clear hK K) | (clear hK K; clear hK K; clear hK K; (with_reducible refine hK _ ?_); clear hK K) | (clear hK K; clear hK K; clear hK K; clear hK K; (with_reducible refine hK _ ?_); clear hK K) | (clear hK K; clear hK K; clear hK K; clear hK K; clear hK K; (with_reducible refine hK _ ?_); clear hK K) | ((with_reducible refine aord_plain fun K hK => ?_); simp only [go_sem, Nat.reduceAdd, Nat.reduceMul, Nat.reduceEqDiff, Nat.reduceLT, reduceIte, reduceCtorEq, h0, h1]) | refine awp_block ?_ | ((first | with_reducible refine aord_nil ?_ | refine awp_skip ?_ | refine awp_exit ?_ | refine awp_ret ?_); try simp only [thenA_normal, thenA_exit, thenA_goto, thenA_ret, blockA_normal, blockA_same, blockA_exit, blockA_goto, blockA_ret, Nat.reduceEqDiff, if_false, if_true, reduceIte]) | (refine awp_region tabOk rfl ?_; simp only [prep, pickO, List.map_cons, List.map_nil, List.getElem?_toArray, List.getElem?_cons_succ, List.getElem?_cons_zero, Option.bind_some, Option.map_some]) | ((with_reducible apply awp_cond); (focus (simp only [St.ev, St.set, upd, Nat.reduceEqDiff, reduceIte, if_false, if_true]; exact rfl)); all_goals (intro hb; first | (cases hb; done) | ((try rw [hb]); (try simp only [decide_eq_true_eq, decide_eq_false_iff_not, beq_iff_eq, bne_iff_ne, beq_eq_false_iff_ne, bne_eq_false_iff_eq, Int.not_lt, Int.not_le, Bool.not_eq_true', Bool.not_eq_false'] at hb)))) | ((with_reducible refine And.intro ?_ ?_); (focus omega)) | ((with_reducible refine And.intro ?_ ?_); (focus (exact rfl))) | ((with_reducible refine And.intro (?_ : enters Try.prog 55) ?_); (focus exact Try.call55); (refine callX_satH pick_sat ?_); simp only [go_sem, and_assoc, List.nil_append, List.append_nil, List.cons_append, Nat.reduceEqDiff, reduceIte, reduceCtorEq, h0, h1]) | ((with_reducible refine And.intro (?_ : enters Try.prog 75) ?_); (focus exact Try.call75); (refine callX_satH one_sat ?_); simp only [go_sem, and_assoc, List.nil_append, List.append_nil, List.cons_append, Nat.reduceEqDiff, reduceIte, reduceCtorEq, h0, h1]) | ((with_reducible refine And.intro (?_ : enters Try.prog 80) ?_); (focus exact Try.call80); (refine callX_satH goodKeys_sat ?_); simp only [go_sem, and_assoc, List.nil_append, List.append_nil, List.cons_append, Nat.reduceEqDiff, reduceIte, reduceCtorEq, h0, h1]) | ((with_reducible refine And.intro (?_ : enters Try.prog 79) ?_); (focus exact Try.call79); (refine callX_h (callH_inline tabOk Try.func79 rfl 27 rfl [.tmp 4] rfl (Nat.le_of_ble_eq_true rfl) fun m0 hm0 hcl hlt => ?_)); simp only [initT, St.ev, St.set, upd, Nat.reduceEqDiff, reduceIte, if_false, if_true]) | (refine aAppend_ints rfl rfl rfl rfl (Nat.le_of_ble_eq_true rfl) (by simp only [St.ev, St.set, upd, Nat.reduceEqDiff, reduceIte, if_false, if_true]; exact rfl) (by simp only [St.ev, St.set, upd, Nat.reduceEqDiff, reduceIte, if_false, if_true]; exact rfl) rfl (by decide) ?_ ?_ ?_ ?_; (focus (first | rfl | omega | (simp; done) | (simp; omega) | (simp [szOf, tab]; done) | (simp [szOf, tab]; omega))); (focus (first | rfl | omega | (simp; done) | (simp; omega) | (simp [szOf, tab]; done) | (simp [szOf, tab]; omega))); (focus (first | rfl | omega | (simp; done) | (simp; omega) | (simp [szOf, tab]; done) | (simp [szOf, tab]; omega))); (try simp only [go_sem, Nat.reduceAdd, Nat.reduceMul, Nat.reduceEqDiff, Nat.reduceLT, reduceIte, reduceCtorEq])) | (refine aAppend_none rfl rfl rfl rfl (Nat.le_of_ble_eq_true rfl) (by simp only [St.ev, St.set, upd, Nat.reduceEqDiff, reduceIte, if_false, if_true]; exact rfl) ?_ ?_ ?_; (focus (first | rfl | omega | (simp; done) | (simp; omega) | (simp [szOf, tab]; done) | (simp [szOf, tab]; omega))); (focus (first | rfl | omega | (simp; done) | (simp; omega) | (simp [szOf, tab]; done) | (simp [szOf, tab]; omega))); (try simp only [go_sem, Nat.reduceAdd, Nat.reduceMul, Nat.reduceEqDiff, Nat.reduceLT, reduceIte, reduceCtorEq])) | (refine aStoreAll_ints (by simp only [St.ev, St.set, upd, Nat.reduceEqDiff, reduceIte, if_false, if_true]; exact rfl) ?_ ?_ ?_ ?_; (focus (first | rfl | omega | (simp; done) | (simp; omega) | (simp [szOf, tab]; done) | (simp [szOf, tab]; omega))); (focus (first | rfl | omega | (simp; done) | (simp; omega) | (simp [szOf, tab]; done) | (simp [szOf, tab]; omega))); (focus (first | rfl | omega | (simp; done) | (simp; omega) | (simp [szOf, tab]; done) | (simp [szOf, tab]; omega))); (try simp only [go_sem, Nat.reduceAdd, Nat.reduceMul, Nat.reduceEqDiff, Nat.reduceLT, reduceIte, reduceCtorEq])) | (simp only [doneH]; simp only [ressK, resK, wrapR, go_sem, Nat.reduceAdd, Nat.reduceMul, Nat.reduceEqDiff, Nat.reduceLT, reduceIte, reduceCtorEq]) | (refine aStoreAll_cells (by simp only [St.ev, St.set, upd, Nat.reduceEqDiff, reduceIte, if_false, if_true]; exact rfl) ?_ ?_ ?_ ?_ ?_; (focus (first | rfl | omega | (simp; done) | (simp; omega) | (simp [szOf, tab]; done) | (simp [szOf, tab]; omega))); (focus (first | rfl | omega | (simp; done) | (simp; omega) | (simp [szOf, tab]; done) | (simp [szOf, tab]; omega))); (focus (first | rfl | omega | (simp; done) | (simp; omega) | (simp [szOf, tab]; done) | (simp [szOf, tab]; omega))); (focus (first | rfl | (simp [AV.cell, Value.oneCell']; done))); (try simp only [go_sem, Nat.reduceAdd, Nat.reduceMul, Nat.reduceEqDiff, Nat.reduceLT, reduceIte, reduceCtorEq])) | (with_reducible refine And.intro (fun hb => ?_) (fun hb => ?_)) | (exfalso; omega) | fail)
    have h9 := hQ (ks ++ [1, 2, 3, 4, 5, 6, 7, 8, 9]) (r + 1) (by simp; omega) (by omega)
    simpa using h9
  · refine awp_weaken (s' := ⟨upd bot 2 (.sl 2 0 ks.length 1 none), upd (upd h 1 (some ⟨true, .cells [.sl 0 0 L 1 lim, .val (.int .i64 ((r + 1 : Nat) : Int))]⟩)) 2 (some ⟨true, .ints .i64 ks⟩), 3⟩) ?_ ?_
    · (apply Wk.over (id) 2; (case' h2 => (focus ((repeat' (first | (with_reducible exact HeapX.bot) | (exact HeapX.base (by first | exact hcl | assumption) (by first | exact Nat.le_refl _ | omega | (simp only; omega)) (fun k hk => by first | rfl | (simp only [id]; done) | (rw [if_neg (by omega)])) (by intro u hu hlt'; first | rfl | (simp only [List.mem_cons, List.not_mem_nil, or_false, not_or] at hu; first | (simp [upd, hu]; done) | (simp only [upd]; (repeat rw [if_neg (by omega)]))))) | (with_reducible (apply HeapX.skip; (case hx => (simp; done)))) | (with_reducible apply HeapX.none) | (with_reducible apply HeapX.old (by first | assumption | omega) (by first | exact Nat.le_refl _ | omega | (simp only; omega)) (by first | rfl | (simp only [id]; done) | (rw [if_neg (by omega)]))) | (with_reducible apply HeapX.upd))); all_goals (first | rfl | omega | assumption | exact Nat.le_of_ble_eq_true rfl | (simp only [St.set, St.ev, upd, ren, renL, id, Nat.reduceEqDiff, reduceIte]; rfl) | (simp only [St.set, St.ev, upd, ren, renL, id, Nat.reduceEqDiff, reduceIte, ContLe]; done) | (first | (simp only [St.set, St.ev, upd, ren, renL, id, Nat.reduceEqDiff, reduceIte]; exact contLe_nil) | ((repeat' (first | exact contLe_nil | refine contLe_cons (.inr ⟨?_, rfl⟩) ?_)); all_goals (first | rfl | (simp only [St.set, St.ev, upd, ren, renL, id, Nat.reduceEqDiff, reduceIte]; done) | ((try simp only [St.set, St.ev, upd, ren, renL, id, Nat.reduceEqDiff, reduceIte]); first | (with_reducible exact av_int (by omega)) | (with_reducible exact av_sl (by first | omega | (simp; done) | (simp; omega)) (by first | omega | (simp; done) | (simp; omega)))) | (simp only [St.set, St.ev, upd, ren, renL, id, Nat.reduceEqDiff, reduceIte, Int.natCast_add, Int.natCast_one, Int.cast_ofNat_Int, Int.natCast_zero]; done) | (simp only [St.set, St.ev, upd, ren, renL, id, Nat.reduceEqDiff, reduceIte]) | skip); done)) | (simp only [St.set, St.ev, upd, ren, renL, id, Nat.reduceEqDiff, reduceIte, ContLe]) | skip)))); (case' h1 => (focus ((repeat' (with_reducible first | exact TmpLe.bot | refine TmpLe.upd ?_ (by first | rfl | (simp only [AV.lt, decide_eq_true_eq]; first | done | omega)) ?_)); all_goals (first | rfl | (simp only [St.set, St.ev, upd, ren, renL, id, Nat.reduceEqDiff, reduceIte]; done) | ((try simp only [St.set, St.ev, upd, ren, renL, id, Nat.reduceEqDiff, reduceIte]); first | (with_reducible exact av_int (by omega)) | (with_reducible exact av_sl (by first | omega | (simp; done) | (simp; omega)) (by first | omega | (simp; done) | (simp; omega)))) | (simp only [St.set, St.ev, upd, ren, renL, id, Nat.reduceEqDiff, reduceIte, Int.natCast_add, Int.natCast_one, Int.cast_ofNat_Int, Int.natCast_zero]; done) | (simp only [St.set, St.ev, upd, ren, renL, id, Nat.reduceEqDiff, reduceIte]) | skip)))); (case h3 => (focus (first | (simp only [id, List.map_cons, List.map_nil]; decide) | decide))); (case h5 => (intro d hd; first | (simp at hd; done) | (simp only [List.mem_cons, List.not_mem_nil, or_false] at hd; first | (simp only [id]; omega) | (split <;> omega) | ((try simp only); repeat' split; all_goals omega)))); (case h4 => (intro o l h; first | (cases h; done) | (have hlt0 := m0_lt (by assumption) h; first | omega | (simp only; omega) | exact ⟨by (first | rfl | (simp only [id]; done) | (rw [if_neg (by omega)])), by first | omega | (simp only; omega)⟩))))
    repeat' (first | refine awp_seq_k fun K hK => ?_ | ((with_reducible refine hK _ ?_); clear hK K) | (clear hK K; (with_reducible refine hK _ ?_); clear hK K) | (clear hK K; clear hK K; (with_reducible refine hK _ ?_); clear hK K) | (clear hK K; clear hK K; clear hK K; (with_reducible refine hK _ ?_); clear hK K) | (clear hK K; clear hK K; clear hK K; clear hK K; (with_reducible refine hK _ ?_); clear hK K) | (clear hK K; clear hK K; clear hK K; clear hK K; clear hK K; (with_reducible refine hK _ ?_); clear hK K) | ((with_reducible refine aord_plain fun K hK => ?_); simp only [go_sem, Nat.reduceAdd, Nat.reduceMul, Nat.reduceEqDiff, Nat.reduceLT, reduceIte, reduceCtorEq, h0, h1]) | refine awp_block ?_ | ((first | with_reducible refine aord_nil ?_ | refine awp_skip ?_ | refine awp_exit ?_ | refine awp_ret ?_); try simp only [thenA_normal, thenA_exit, thenA_goto, thenA_ret, blockA_normal, blockA_same, blockA_exit, blockA_goto, blockA_ret, Nat.reduceEqDiff, if_false, if_true, reduceIte]) | (refine awp_region tabOk rfl ?_; simp only [prep, pickO, List.map_cons, List.map_nil, List.getElem?_toArray, List.getElem?_cons_succ, List.getElem?_cons_zero, Option.bind_some, Option.map_some]) | ((with_reducible apply awp_cond); (focus (simp only [St.ev, St.set, upd, Nat.reduceEqDiff, reduceIte, if_false, if_true]; exact rfl)); all_goals (intro hb; first | (cases hb; done) | ((try rw [hb]); (try simp only [decide_eq_true_eq, decide_eq_false_iff_not, beq_iff_eq, bne_iff_ne, beq_eq_false_iff_ne, bne_eq_false_iff_eq, Int.not_lt, Int.not_le, Bool.not_eq_true', Bool.not_eq_false'] at hb)))) | ((with_reducible refine And.intro ?_ ?_); (focus omega)) | ((with_reducible refine And.intro ?_ ?_); (focus (exact rfl))) | ((with_reducible refine And.intro (?_ : enters Try.prog 55) ?_); (focus exact Try.call55); (refine callX_satH pick_sat ?_); simp only [go_sem, and_assoc, List.nil_append, List.append_nil, List.cons_append, Nat.reduceEqDiff, reduceIte, reduceCtorEq, h0, h1]) | ((with_reducible refine And.intro (?_ : enters Try.prog 75) ?_); (focus exact Try.call75); (refine callX_satH one_sat ?_); simp only [go_sem, and_assoc, List.nil_append, List.append_nil, List.cons_append, Nat.reduceEqDiff, reduceIte, reduceCtorEq, h0, h1]) | ((with_reducible refine And.intro (?_ : enters Try.prog 80) ?_); (focus exact Try.call80); (refine callX_satH goodKeys_sat ?_); simp only [go_sem, and_assoc, List.nil_append, List.append_nil, List.cons_append, Nat.reduceEqDiff, reduceIte, reduceCtorEq, h0, h1]) | ((with_reducible refine And.intro (?_ : enters Try.prog 79) ?_); (focus exact Try.call79); (refine callX_h (callH_inline tabOk Try.func79 rfl 27 rfl [.tmp 4] rfl (Nat.le_of_ble_eq_true rfl) fun m0 hm0 hcl hlt => ?_)); simp only [initT, St.ev, St.set, upd, Nat.reduceEqDiff, reduceIte, if_false, if_true]) | (refine aAppend_ints rfl rfl rfl rfl (Nat.le_of_ble_eq_true rfl) (by simp only [St.ev, St.set, upd, Nat.reduceEqDiff, reduceIte, if_false, if_true]; exact rfl) (by simp only [St.ev, St.set, upd, Nat.reduceEqDiff, reduceIte, if_false, if_true]; exact rfl) rfl (by decide) ?_ ?_ ?_ ?_; (focus (first | rfl | omega | (simp; done) | (simp; omega) | (simp [szOf, tab]; done) | (simp [szOf, tab]; omega))); (focus (first | rfl | omega | (simp; done) | (simp; omega) | (simp [szOf, tab]; done) | (simp [szOf, tab]; omega))); (focus (first | rfl | omega | (simp; done) | (simp; omega) | (simp [szOf, tab]; done) | (simp [szOf, tab]; omega))); (try simp only [go_sem, Nat.reduceAdd, Nat.reduceMul, Nat.reduceEqDiff, Nat.reduceLT, reduceIte, reduceCtorEq])) | (refine aAppend_none rfl rfl rfl rfl (Nat.le_of_ble_eq_true rfl) (by simp only [St.ev, St.set, upd, Nat.reduceEqDiff, reduceIte, if_false, if_true]; exact rfl) ?_ ?_ ?_; (focus (first | rfl | omega | (simp; done) | (simp; omega) | (simp [szOf, tab]; done) | (simp [szOf, tab]; omega))); (focus (first | rfl | omega | (simp; done) | (simp; omega) | (simp [szOf, tab]; done) | (simp [szOf, tab]; omega))); (try simp only [go_sem, Nat.reduceAdd, Nat.reduceMul, Nat.reduceEqDiff, Nat.reduceLT, reduceIte, reduceCtorEq])) | (refine aStoreAll_ints (by simp only [St.ev, St.set, upd, Nat.reduceEqDiff, reduceIte, if_false, if_true]; exact rfl) ?_ ?_ ?_ ?_; (focus (first | rfl | omega | (simp; done) | (simp; omega) | (simp [szOf, tab]; done) | (simp [szOf, tab]; omega))); (focus (first | rfl | omega | (simp; done) | (simp; omega) | (simp [szOf, tab]; done) | (simp [szOf, tab]; omega))); (focus (first | rfl | omega | (simp; done) | (simp; omega) | (simp [szOf, tab]; done) | (simp [szOf, tab]; omega))); (try simp only [go_sem, Nat.reduceAdd, Nat.reduceMul, Nat.reduceEqDiff, Nat.reduceLT, reduceIte, reduceCtorEq])) | (simp only [doneH]; simp only [ressK, resK, wrapR, go_sem, Nat.reduceAdd, Nat.reduceMul, Nat.reduceEqDiff, Nat.reduceLT, reduceIte, reduceCtorEq]) | (refine aStoreAll_cells (by simp only [St.ev, St.set, upd, Nat.reduceEqDiff, reduceIte, if_false, if_true]; exact rfl) ?_ ?_ ?_ ?_ ?_; (focus (first | rfl | omega | (simp; done) | (simp; omega) | (simp [szOf, tab]; done) | (simp [szOf, tab]; omega))); (focus (first | rfl | omega | (simp; done) | (simp; omega) | (simp [szOf, tab]; done) | (simp [szOf, tab]; omega))); (focus (first | rfl | omega | (simp; done) | (simp; omega) | (simp [szOf, tab]; done) | (simp [szOf, tab]; omega))); (focus (first | rfl | (simp [AV.cell, Value.oneCell']; done))); (try simp only [go_sem, Nat.reduceAdd, Nat.reduceMul, Nat.reduceEqDiff, Nat.reduceLT, reduceIte, reduceCtorEq])) | (with_reducible refine And.intro (fun hb => ?_) (fun hb => ?_)) | (exfalso; omega) | fail)
    exact hQ ks (r + 1) (by omega) (by omega)



theorem equalInts_sat : Sat Try.prog 16 (fun ds Q => ∃ (xs ys : List Int), ds = [.row (.ints .i64 (xs)), .row (.ints .i64 (ys))] ∧ (xs.length ≤ 1099511627776) ∧ (ys.length ≤ 1099511627776) ∧ Q (.val (.bool ((decide (xs = ys)))))) := by
  refine sat_intro tabOk Try.func16 rfl 26 rfl [.tmp 4] rfl ?_
  rintro ds Q W ⟨xs, ys, rfl, hx, hy, hQ⟩
  refine ⟨Nat.le_of_ble_eq_true rfl, ?_⟩
  simp only [initS, initT, mat.matL, mat, Cont.len]
  repeat' (first | refine awp_seq_k fun K hK => ?_ | ((with_reducible refine hK _ ?_); clear hK K) | (clear hK K; (with_reducible refine hK _ ?_); clear hK K) | (clear hK K; clear hK K; (with_reducible refine hK _ ?_); clear hK K) | (clear hK K; clear hK K; clear hK K; (with_reducible refine hK _ ?_); clear hK K) | (clear hK K; clear hK K; clear hK K; clear hK K; (with_reducible refine hK _ ?_); clear hK K) | (clear hK K; clear hK K; clear hK K; clear hK K; clear hK K; (with_reducible refine hK _ ?_); clear hK K) | ((with_reducible refine aord_plain fun K hK => ?_); simp only [go_sem, Nat.reduceAdd, Nat.reduceMul, Nat.reduceEqDiff, Nat.reduceLT, reduceIte, reduceCtorEq]) | refine awp_block ?_ | ((first | with_reducible refine aord_nil ?_ | refine awp_skip ?_ | refine awp_exit ?_ | refine awp_ret ?_); try simp only [thenA_normal, thenA_exit, thenA_goto, thenA_ret, blockA_normal, blockA_same, blockA_exit, blockA_goto, blockA_ret, Nat.reduceEqDiff, if_false, if_true, reduceIte]) | (refine awp_region tabOk rfl ?_; simp only [prep, pickO, List.map_cons, List.map_nil, List.getElem?_toArray, List.getElem?_cons_succ, List.getElem?_cons_zero, Option.bind_some, Option.map_some]) | (refine awp_region_draw (nt := 26) (id := 6) tabOk [(0, true, false), (1, true, false), (2, true, false), (3, true, false), (4, true, false), (5, true, false), (6, true, false), (7, true, false), (8, true, false)] (by kernel_rfl) rfl (by kernel_rfl) ?_; simp only [prep, pickO, List.map_cons, List.map_nil, List.getElem?_toArray, List.getElem?_cons_succ, List.getElem?_cons_zero, Option.bind_some, Option.map_some]) | ((with_reducible apply awp_cond); (focus (simp only [St.ev, St.set, upd, Nat.reduceEqDiff, reduceIte, if_false, if_true]; exact rfl)); all_goals (intro hb; first | (cases hb; done) | ((try rw [hb]); (try simp only [decide_eq_true_eq, decide_eq_false_iff_not, beq_iff_eq, bne_iff_ne, beq_eq_false_iff_ne, bne_eq_false_iff_eq, Int.not_lt, Int.not_le, Bool.not_eq_true', Bool.not_eq_false'] at hb)))) | ((with_reducible refine And.intro ?_ ?_); (focus omega)) | ((with_reducible refine And.intro ?_ ?_); (focus (exact rfl))) | (with_reducible refine And.intro (fun hb => ?_) (fun hb => ?_)) | (exfalso; omega) | fail)
  · simp only [St.set, St.ev, doneQ, doneH, ressK, resK, wrapR, AV.ids, AV.idsL, retK, retsK, upd, Nat.reduceEqDiff, reduceIte, if_false, if_true, List.nodup_nil, List.nodup_cons, List.not_mem_nil, not_false_eq_true, true_and, and_true, exists_eq_left', Option.some.injEq, rLoad, cellOf, tab, Ty.isAgg, Ty.one, Bool.false_eq_true]
    rw [decide_eq_false (fun h => hb (by rw [h]))] at hQ
    exact hQ
  · have hl : ys.length = xs.length := by omega
    refine awp_loopE (α := Nat) (fun s p => ⟨(upd (upd (upd bot 0 (s.tmps 0)) 1 (s.tmps 1)) 5 (.val (.int .i64 (p)))), s.heap, s.next⟩) _ (fun p => by simp only [St.ev, St.set, upd, Nat.reduceEqDiff, reduceIte, if_false, if_true]; exact rfl) (fun p => (p ≤ xs.length) ∧ (∀ j, j < p → xs.getD j 0 = ys.getD j 0)) (fun p => xs.length - p) (0) ?_ ?_ ?_
    · (try simp only); (refine ⟨?_, ?_⟩ <;> (first | omega | (intro j hj; omega)))
    · (apply Wk.same; (case' h2 => (focus ((repeat' (with_reducible first | exact HeapX.bot | (apply HeapX.skip; (case hx => (simp; done))) | apply HeapX.none | apply HeapX.upd)); all_goals (first | rfl | exact Nat.le_of_ble_eq_true rfl | (simp only [St.set, St.ev, upd, ren, renL, id, Nat.reduceEqDiff, reduceIte, ContLe]; done) | (first | (simp only [St.set, St.ev, upd, ren, renL, id, Nat.reduceEqDiff, reduceIte]; exact contLe_nil) | ((repeat' (first | exact contLe_nil | refine contLe_cons (.inr ⟨?_, rfl⟩) ?_)); all_goals (first | rfl | (simp only [St.set, St.ev, upd, ren, renL, id, Nat.reduceEqDiff, reduceIte]; done) | ((try simp only [St.set, St.ev, upd, ren, renL, id, Nat.reduceEqDiff, reduceIte]); first | (with_reducible exact av_int (by omega)) | (with_reducible exact av_sl (by first | omega | (simp; done) | (simp; omega)) (by first | omega | (simp; done) | (simp; omega)))) | (simp only [St.set, St.ev, upd, ren, renL, id, Nat.reduceEqDiff, reduceIte, Int.natCast_add, Int.natCast_one, Int.cast_ofNat_Int, Int.natCast_zero]; done) | (simp only [St.set, St.ev, upd, ren, renL, id, Nat.reduceEqDiff, reduceIte]) | skip); done)) | (simp only [St.set, St.ev, upd, ren, renL, id, Nat.reduceEqDiff, reduceIte, ContLe]) | skip)))); (case' h1 => (focus ((repeat' (with_reducible first | exact TmpLe.bot | refine TmpLe.upd ?_ rfl ?_)); all_goals (first | rfl | (simp only [St.set, St.ev, upd, ren, renL, id, Nat.reduceEqDiff, reduceIte]; done) | ((try simp only [St.set, St.ev, upd, ren, renL, id, Nat.reduceEqDiff, reduceIte]); first | (with_reducible exact av_int (by omega)) | (with_reducible exact av_sl (by first | omega | (simp; done) | (simp; omega)) (by first | omega | (simp; done) | (simp; omega)))) | (simp only [St.set, St.ev, upd, ren, renL, id, Nat.reduceEqDiff, reduceIte, Int.natCast_add, Int.natCast_one, Int.cast_ofNat_Int, Int.natCast_zero]; done) | (simp only [St.set, St.ev, upd, ren, renL, id, Nat.reduceEqDiff, reduceIte]) | skip)))); (case h3 => (focus (first | (simp only [id, List.map_cons, List.map_nil]; decide) | decide))); (case h4 => (intro o l h; first | (cases h; done) | (have hlt0 := m0_lt (by assumption) h; first | omega | (simp only; omega) | exact ⟨by (first | rfl | (simp only [id]; done) | (rw [if_neg (by omega)])), by first | omega | (simp only; omega)⟩))))
    rintro i ⟨hi, hj⟩
    try simp only at hi hj
    repeat' (first | refine awp_seq_k fun K hK => ?_ | ((with_reducible refine hK _ ?_); clear hK K) | (clear hK K; (with_reducible refine hK _ ?_); clear hK K) | (clear hK K; clear hK K; (with_reducible refine hK _ ?_); clear hK K) | (clear hK K; clear hK K; clear hK K; (with_reducible refine hK _ ?_); clear hK K) | (clear hK K; clear hK K; clear hK K; clear hK K; (with_reducible refine hK _ ?_); clear hK K) | (clear hK K; clear hK K; clear hK K; clear hK K; clear hK K; (with_reducible refine hK _ ?_); clear hK K) | ((with_reducible refine aord_plain fun K hK => ?_); simp only [go_sem, Nat.reduceAdd, Nat.reduceMul, Nat.reduceEqDiff, Nat.reduceLT, reduceIte, reduceCtorEq]) | refine awp_block ?_ | ((first | with_reducible refine aord_nil ?_ | refine awp_skip ?_ | refine awp_exit ?_ | refine awp_ret ?_); try simp only [thenA_normal, thenA_exit, thenA_goto, thenA_ret, blockA_normal, blockA_same, blockA_exit, blockA_goto, blockA_ret, Nat.reduceEqDiff, if_false, if_true, reduceIte]) | (refine awp_region tabOk rfl ?_; simp only [prep, pickO, List.map_cons, List.map_nil, List.getElem?_toArray, List.getElem?_cons_succ, List.getElem?_cons_zero, Option.bind_some, Option.map_some]) | (refine awp_region_draw (nt := 26) (id := 6) tabOk [(0, true, false), (1, true, false), (2, true, false), (3, true, false), (4, true, false), (5, true, false), (6, true, false), (7, true, false), (8, true, false)] (by kernel_rfl) rfl (by kernel_rfl) ?_; simp only [prep, pickO, List.map_cons, List.map_nil, List.getElem?_toArray, List.getElem?_cons_succ, List.getElem?_cons_zero, Option.bind_some, Option.map_some]) | ((with_reducible apply awp_cond); (focus (simp only [St.ev, St.set, upd, Nat.reduceEqDiff, reduceIte, if_false, if_true]; exact rfl)); all_goals (intro hb; first | (cases hb; done) | ((try rw [hb]); (try simp only [decide_eq_true_eq, decide_eq_false_iff_not, beq_iff_eq, bne_iff_ne, beq_eq_false_iff_ne, bne_eq_false_iff_eq, Int.not_lt, Int.not_le, Bool.not_eq_true', Bool.not_eq_false'] at hb)))) | ((with_reducible refine And.intro ?_ ?_); (focus omega)) | ((with_reducible refine And.intro ?_ ?_); (focus (exact rfl))) | (with_reducible refine And.intro (fun hb => ?_) (fun hb => ?_)) | (exfalso; omega) | fail)
    · simp only [St.set, St.ev, doneQ, doneH, ressK, resK, wrapR, AV.ids, AV.idsL, retK, retsK, upd, Nat.reduceEqDiff, reduceIte, if_false, if_true, List.nodup_nil, List.nodup_cons, List.not_mem_nil, not_false_eq_true, true_and, and_true, exists_eq_left', Option.some.injEq, rLoad, cellOf, tab, Ty.isAgg, Ty.one, Bool.false_eq_true]
      rw [decide_eq_false (fun h => hb (by rw [h]))] at hQ
      exact hQ
    · ((refine Exists.intro (i + 1) ?_); (refine nxt ?_ ?_ ?_); (focus ((apply Wk.same; (case' h2 => (focus ((repeat' (with_reducible first | exact HeapX.bot | (apply HeapX.skip; (case hx => (simp; done))) | apply HeapX.none | apply HeapX.upd)); all_goals (first | rfl | exact Nat.le_of_ble_eq_true rfl | (simp only [St.set, St.ev, upd, ren, renL, id, Nat.reduceEqDiff, reduceIte, ContLe]; done) | (first | (simp only [St.set, St.ev, upd, ren, renL, id, Nat.reduceEqDiff, reduceIte]; exact contLe_nil) | ((repeat' (first | exact contLe_nil | refine contLe_cons (.inr ⟨?_, rfl⟩) ?_)); all_goals (first | rfl | (simp only [St.set, St.ev, upd, ren, renL, id, Nat.reduceEqDiff, reduceIte]; done) | ((try simp only [St.set, St.ev, upd, ren, renL, id, Nat.reduceEqDiff, reduceIte]); first | (with_reducible exact av_int (by omega)) | (with_reducible exact av_sl (by first | omega | (simp; done) | (simp; omega)) (by first | omega | (simp; done) | (simp; omega)))) | (simp only [St.set, St.ev, upd, ren, renL, id, Nat.reduceEqDiff, reduceIte, Int.natCast_add, Int.natCast_one, Int.cast_ofNat_Int, Int.natCast_zero]; done) | (simp only [St.set, St.ev, upd, ren, renL, id, Nat.reduceEqDiff, reduceIte]) | skip); done)) | (simp only [St.set, St.ev, upd, ren, renL, id, Nat.reduceEqDiff, reduceIte, ContLe]) | skip)))); (case' h1 => (focus ((repeat' (with_reducible first | exact TmpLe.bot | refine TmpLe.upd ?_ rfl ?_)); all_goals (first | rfl | (simp only [St.set, St.ev, upd, ren, renL, id, Nat.reduceEqDiff, reduceIte]; done) | ((try simp only [St.set, St.ev, upd, ren, renL, id, Nat.reduceEqDiff, reduceIte]); first | (with_reducible exact av_int (by omega)) | (with_reducible exact av_sl (by first | omega | (simp; done) | (simp; omega)) (by first | omega | (simp; done) | (simp; omega)))) | (simp only [St.set, St.ev, upd, ren, renL, id, Nat.reduceEqDiff, reduceIte, Int.natCast_add, Int.natCast_one, Int.cast_ofNat_Int, Int.natCast_zero]; done) | (simp only [St.set, St.ev, upd, ren, renL, id, Nat.reduceEqDiff, reduceIte]) | skip)))); (case h3 => (focus (first | (simp only [id, List.map_cons, List.map_nil]; decide) | decide))); (case h4 => (intro o l h; first | (cases h; done) | (have hlt0 := m0_lt (by assumption) h; first | omega | (simp only; omega) | exact ⟨by (first | rfl | (simp only [id]; done) | (rw [if_neg (by omega)])), by first | omega | (simp only; omega)⟩)))))); (focus (first | omega | (simp only; omega) | (simp only [List.length_take]; omega) | (simp; omega))); ((repeat' (with_reducible apply And.intro)) <;> (first | omega | (simp only; omega) | assumption | rfl | ((try simp only); exact all_step hj hb) | skip)))
    · simp only [St.set, St.ev, doneQ, doneH, ressK, resK, wrapR, AV.ids, AV.idsL, retK, retsK, upd, Nat.reduceEqDiff, reduceIte, if_false, if_true, List.nodup_nil, List.nodup_cons, List.not_mem_nil, not_false_eq_true, true_and, and_true, exists_eq_left', Option.some.injEq, rLoad, cellOf, tab, Ty.isAgg, Ty.one, Bool.false_eq_true]
      rw [decide_eq_true (ext_getD hl.symm fun j h => hj j (by omega))] at hQ
      exact hQ


theorem invRow_nonneg (xs : List Int) (i : Nat) : ∀ k, 0 ≤ invRow xs i k
  | 0 => Int.le_refl 0
  | k + 1 => by have := invRow_nonneg xs i k; rw [invRow]; split <;> omega
theorem invRow_zero {xs : List Int} {i : Nat} : ∀ k, invRow xs i k = 0 ↔ ∀ j, j < k → i < j → xs.getD i 0 ≤ xs.getD j 0
  | 0 => ⟨fun _ j h => by omega, fun _ => rfl⟩
  | k + 1 => by
    have ih := invRow_zero (xs := xs) (i := i) k
    have h0 := invRow_nonneg xs i k
    rw [invRow]
    constructor
    · intro h j hj hij
      split at h
      · omega
      · rename_i hc
        rcases Nat.lt_or_ge j k with h1 | h1
        · exact ih.1 (by omega) j h1 hij
        · have : j = k := by omega
          subst this; omega
    · intro h
      have h1 := ih.2 fun j hj hij => h j (by omega) hij
      rw [if_neg (fun hc => by have := h k (by omega) hc.1; omega), h1]; rfl
theorem invTo_nonneg (xs : List Int) : ∀ i, 0 ≤ invTo xs i
  | 0 => Int.le_refl 0
  | i + 1 => by have := invTo_nonneg xs i; have := invRow_nonneg xs i xs.length; rw [invTo]; omega
theorem invTo_zero {xs : List Int} : ∀ i, invTo xs i = 0 ↔ ∀ a, a < i → ∀ j, j < xs.length → a < j → xs.getD a 0 ≤ xs.getD j 0
  | 0 => ⟨fun _ a h => by omega, fun _ => rfl⟩
  | i + 1 => by
    have ih := invTo_zero (xs := xs) i
    have h0 := invTo_nonneg xs i
    have h1 := invRow_nonneg xs i xs.length
    have h2 := invRow_zero (xs := xs) (i := i) xs.length
    rw [invTo]
    constructor
    · intro h a ha
      rcases Nat.lt_or_ge a i with h3 | h3
      · exact ih.1 (by omega) a h3
      · have : a = i := by omega
        subst this; exact h2.1 (by omega)
    · intro h
      have h3 := ih.2 fun a ha => h a (by omega)
      have h4 := h2.2 (h i (by omega))
      omega
theorem inv_srt (xs : List Int) : (invTo xs xs.length == 0) = srt xs := by
  have h1 := invTo_zero (xs := xs) xs.length
  cases e : srt xs with
  | true =>
    have : invTo xs xs.length = 0 := h1.2 fun a ha j hj haj => by
      obtain ⟨d, rfl⟩ : ∃ d, j = a + d := ⟨j - a, by omega⟩
      exact srt_le e hj
    rw [this]; rfl
  | false =>
    have : invTo xs xs.length ≠ 0 := fun h => by
      have := srt_iff.2 fun j hj => (h1.1 h) j (by omega) (j + 1) hj (by omega)
      rw [this] at e; cases e
    simpa using this
theorem ord_dec (xs : List Int) : decide (ordL xs = xs) = srt xs := by
  rw [srt_eq]; apply decide_eq_decide.2; exact eq_comm
theorem sq_beq (b : Bool) : (b == b) = true := by cases b <;> rfl
theorem sq_bne (b : Bool) : (b != b) = false := by cases b <;> rfl
theorem int_bne (n : Int) : (n != n) = false := by simp


theorem plN_ltK {xs : List Int} {i k : Nat} (hi : i < xs.length) (hk : k < xs.length) : plN xs i < plN xs k ↔ ltK xs i k := by
  constructor
  · intro h
    by_cases h1 : ltK xs i k
    · exact h1
    · by_cases e : i = k
      · subst e; omega
      · have h2 : ltK xs k i := by unfold ltK at h1 ⊢; omega
        have := plN_mono hk h2
        omega
  · exact plN_mono hi
theorem placesL_cast {xs : List Int} {i : Nat} (h : i < xs.length) : (placesL xs).getD i 0 = (plN xs i : Nat) := by
  rw [placesL_get h]; unfold plN; have := plC_nonneg xs i xs.length; omega
theorem plC_places {xs : List Int} {i : Nat} (hi : i < xs.length) : ∀ m, m ≤ xs.length → plC (placesL xs) i m = plC xs i m
  | 0, _ => rfl
  | m + 1, hm => by
    rw [plC, plC, plC_places hi m (by omega), placesL_cast (show m < xs.length by omega), placesL_cast hi]
    have h1 := plN_ltK (xs := xs) (i := m) (k := i) (by omega) hi
    have h2 : plN xs m = plN xs i → m = i := plN_inj (by omega) hi
    have e : ((plN xs m : Nat) : Int) < (plN xs i : Nat) ∨ (((plN xs m : Nat) : Int) = (plN xs i : Nat) ∧ m < i) ↔ xs.getD m 0 < xs.getD i 0 ∨ (xs.getD m 0 = xs.getD i 0 ∧ m < i) := by
      unfold ltK at h1; omega
    simp only [e]
theorem places_places (xs : List Int) : placesL (placesL xs) = placesL xs := by
  refine ext_getD (by rw [placesL_len]) fun j hj => ?_
  rw [placesL_len, placesL_len] at hj
  rw [placesL_get (by rw [placesL_len]; exact hj), placesL_len, plC_places hj _ (Nat.le_refl _), placesL_get hj]
theorem plN_places {xs : List Int} {i : Nat} (hi : i < xs.length) : plN (placesL xs) i = plN xs i := by
  unfold plN; rw [placesL_len, plC_places hi _ (Nat.le_refl _)]
theorem invRow_places {xs : List Int} {i : Nat} (hi : i < xs.length) : ∀ m, m ≤ xs.length → invRow (placesL xs) i m = invRow xs i m
  | 0, _ => rfl
  | m + 1, hm => by
    rw [invRow, invRow, invRow_places hi m (by omega), placesL_cast (show m < xs.length by omega), placesL_cast hi]
    have h1 := plN_ltK (xs := xs) (i := m) (k := i) (by omega) hi
    have e : (i < m ∧ ((plN xs m : Nat) : Int) < (plN xs i : Nat)) ↔ (i < m ∧ xs.getD m 0 < xs.getD i 0) := by
      unfold ltK at h1; omega
    simp only [e]
theorem invTo_places (xs : List Int) : ∀ i, i ≤ xs.length → invTo (placesL xs) i = invTo xs i
  | 0, _ => rfl
  | i + 1, h => by rw [invTo, invTo, invTo_places xs i (by omega), placesL_len, invRow_places (by omega) _ (Nat.le_refl _)]
def riseL (n : Nat) : List Int := (List.range n).map Int.ofNat
theorem riseL_len (n : Nat) : (riseL n).length = n := by simp [riseL]
theorem riseL_get {n i : Nat} (h : i < n) : (riseL n).getD i 0 = i := by
  rw [List.getD_eq_getElem?_getD, List.getElem?_eq_getElem (by rw [riseL_len]; exact h)]; simp [riseL]
theorem riseL_up (n : Nat) : riseL (n + 1) = riseL n ++ [(n : Int)] := by simp [riseL, List.range_succ]
theorem ord_places (xs : List Int) : ordL (placesL xs) = riseL xs.length := by
  refine ext_getD (by rw [ordL_len, placesL_len, riseL_len]) fun j hj => ?_
  rw [ordL_len, placesL_len] at hj
  obtain ⟨a, ha, rfl⟩ := ord_from hj
  rw [riseL_get hj]
  have := ord_at (xs := placesL xs) (a := a) (by rw [placesL_len]; exact ha)
  rw [plN_places ha] at this
  rw [this, placesL_cast ha]
theorem valid_places {xs : List Int} (h : validB xs = true) : validB (placesL xs) = true := by
  have h8 := valid_len h
  refine valid_all (by rw [placesL_len]; exact h8) fun j hj => ?_
  rw [placesL_len] at hj
  have := placesL_lt hj
  unfold inB
  rw [decide_eq_true (by omega), decide_eq_true (by omega)]; rfl
theorem dec_self (xs : List Int) : decide (xs = xs) = true := decide_eq_true rfl


theorem aStoreAll_cells {tab : Tab} {h : Hp} {n : Nat} {t : TypeId} {o : Nat} {old al : List AV} {K : AV → Hp → Nat → Prop} (ho : h o = some ⟨true, .cells old⟩) (hl : old.length = al.length) (hp : 0 < al.length) (hsz : szOf tab t = some al.length) (hc : al.all AV.cell = true)
    (hK : K .any (upd h o (some ⟨true, .cells al⟩)) n) : ∃ c', aStoreAll tab h n t (.ref o 0) (.agg al) c' K :=
  ⟨.cells al, _, ho, rfl, rfl, rfl, hp, by simpa [Cont.flat] using hl, by simpa using hsz, hc, rfl, hK⟩
/-- A piece of code with labels, through which one goes without a goto. -/
def noGotoA (Q : Exit → St → Prop) : Exit → St → Prop
  | .goto _, _ => False
  | e, s => Q e s
theorem noGotoA_normal (Q : Exit → St → Prop) (s : St) : noGotoA Q .normal s = Q .normal s := rfl
theorem noGotoA_exit (Q : Exit → St → Prop) (s : St) (i : Nat) : noGotoA Q (.exit i) s = Q (.exit i) s := rfl
theorem noGotoA_ret (Q : Exit → St → Prop) (s : St) : noGotoA Q .ret s = Q .ret s := rfl
theorem awp_scope {P : Program} {Γ : Ctx} {nt : Nat} {Q : Exit → St → Prop} {s : St} {c : Code} (h : AWP Γ nt P c (noGotoA Q) s) : AWP Γ nt P (.scope c) Q s := fun m a w hs =>
  wp_scope_straight (wp_mono (h m a w hs) fun e a' w' ⟨m', s', h1, h2⟩ => by
    cases e <;> first | exact ⟨m', s', h1, h2⟩ | exact h2.elim)
def swp (xs : List Int) (a b : Nat) : List Int := (xs.set a (xs.getD b 0)).set b (xs.getD a 0)
theorem swp_len (xs : List Int) (a b : Nat) : (swp xs a b).length = xs.length := by simp [swp]
/-- A key goes ahead by steps: what is there, how often was asked, how often moved. -/
def insIn (st : Nat) (k : Nat) (xs : List Int) (a m : Int) : List Int × Int × Int :=
  if h : 0 < st ∧ st ≤ k then (if xs.getD (k - st) 0 ≤ xs.getD k 0 then (xs, a + 1, m) else insIn st (k - st) (swp xs (k - st) k) (a + 1) (m + 1)) else (xs, a, m)
termination_by k
decreasing_by omega
theorem insIn_end {st k : Nat} {xs : List Int} {a m : Int} (h : k < st) : insIn st k xs a m = (xs, a, m) := by rw [insIn, dif_neg (by omega)]
theorem insIn_stop {st k : Nat} {xs : List Int} {a m : Int} (h0 : 0 < st) (h : st ≤ k) (hle : xs.getD (k - st) 0 ≤ xs.getD k 0) : insIn st k xs a m = (xs, a + 1, m) := by rw [insIn, dif_pos ⟨h0, h⟩, if_pos hle]
theorem insIn_go {st k : Nat} {xs : List Int} {a m : Int} (h0 : 0 < st) (h : st ≤ k) (hle : xs.getD k 0 < xs.getD (k - st) 0) : insIn st k xs a m = insIn st (k - st) (swp xs (k - st) k) (a + 1) (m + 1) := by rw [insIn, dif_pos ⟨h0, h⟩, if_neg (by omega)]
theorem insIn_in {st : Nat} : ∀ (f k : Nat) (xs : List Int) (a m : Int), k < f → (insIn st k xs a m).1.length = xs.length ∧ a ≤ (insIn st k xs a m).2.1 ∧ (insIn st k xs a m).2.1 ≤ a + k + 1 ∧ m ≤ (insIn st k xs a m).2.2 ∧ (insIn st k xs a m).2.2 ≤ m + k + 1
  | 0, k, xs, a, m, h => by omega
  | f + 1, k, xs, a, m, h => by
    by_cases h1 : 0 < st ∧ st ≤ k
    · rcases Int.lt_or_le (xs.getD k 0) (xs.getD (k - st) 0) with h2 | h2
      · rw [insIn_go h1.1 h1.2 h2]
        have := insIn_in (st := st) f (k - st) (swp xs (k - st) k) (a + 1) (m + 1) (by omega)
        rw [swp_len] at this
        omega
      · rw [insIn_stop h1.1 h1.2 h2]
        exact ⟨rfl, by simp only; omega, by simp only; omega, by simp only; omega, by simp only; omega⟩
    · rw [insIn, dif_neg h1]
      exact ⟨rfl, by simp only; omega, by simp only; omega, by simp only; omega, by simp only; omega⟩
def insTo (st : Nat) (s : List Int × Int × Int) : Nat → List Int × Int × Int
  | 0 => s
  | j + 1 => insIn st (st + j) (insTo st s j).1 (insTo st s j).2.1 (insTo st s j).2.2
theorem insTo_in {st : Nat} {s : List Int × Int × Int} (hn : s.1.length ≤ 8) : ∀ j, st + j ≤ s.1.length ∨ j = 0 → (insTo st s j).1.length = s.1.length ∧ s.2.1 ≤ (insTo st s j).2.1 ∧ (insTo st s j).2.1 ≤ s.2.1 + 9 * j ∧ s.2.2 ≤ (insTo st s j).2.2 ∧ (insTo st s j).2.2 ≤ s.2.2 + 9 * j
  | 0, _ => by simp [insTo]
  | j + 1, h => by
    have ih := insTo_in (st := st) hn j (by omega)
    have := insIn_in (st := st) (st + j + 1) (st + j) (insTo st s j).1 (insTo st s j).2.1 (insTo st s j).2.2 (by omega)
    rw [insTo]
    omega


theorem getD_in {xs : List Int} {i : Nat} (h : i < xs.length) : xs.getD i 0 = xs[i] := by
  rw [List.getD_eq_getElem?_getD, List.getElem?_eq_getElem h]; rfl
theorem swp_perm {xs : List Int} {a b : Nat} (ha : a < xs.length) (hb : b < xs.length) : (swp xs a b).Perm xs := by
  unfold swp
  rw [getD_in ha, getD_in hb]
  exact List.set_set_perm ha hb
theorem swp_get {xs : List Int} {a b : Nat} (ha : a < xs.length) (hb : b < xs.length) (j : Nat) : (swp xs a b).getD j 0 = if j = b then xs.getD a 0 else if j = a then xs.getD b 0 else xs.getD j 0 := by
  unfold swp
  by_cases e : b = j
  · subst e; rw [getD_set_same (by simpa using hb), if_pos rfl]
  · rw [getD_set_ne' e, if_neg (fun h => e h.symm)]
    by_cases e2 : a = j
    · subst e2; rw [getD_set_same ha, if_pos rfl]
    · rw [getD_set_ne' e2, if_neg (fun h => e2 h.symm)]
theorem srt_pair {xs : List Int} (h : srt xs = true) : xs.Pairwise (· ≤ ·) := by
  rw [List.pairwise_iff_getElem]
  intro i j hi hj hij
  obtain ⟨d, rfl⟩ : ∃ d, j = i + d := ⟨j - i, by omega⟩
  have := srt_le h (d := d) (i := i) hj
  rwa [getD_in hi, getD_in hj] at this
theorem nodup_perm : ∀ (l m : List Nat), l.Nodup → (∀ a ∈ l, a ∈ m) → m.length ≤ l.length → l.Perm m
  | [], m, _, _, h => by
    have : m = [] := List.eq_nil_of_length_eq_zero (by simpa using h)
    subst this; exact List.Perm.refl _
  | a :: t, m, hn, hs, hl => by
    have ha : a ∈ m := hs a List.mem_cons_self
    have hn2 := List.nodup_cons.1 hn
    have := nodup_perm t (m.erase a) hn2.2 (fun b hb => (List.mem_erase_of_ne (fun e => hn2.1 (by subst e; exact hb))).2 (hs b (List.mem_cons_of_mem _ hb))) (by
      rw [List.length_erase_of_mem ha]; simp only [List.length_cons] at hl; omega)
    exact (this.cons a).trans (List.perm_cons_erase ha).symm
theorem range_eq (xs : List Int) : (List.range xs.length).map (fun i => xs.getD i 0) = xs := by
  refine ext_getD (by simp) fun j hj => ?_
  simp only [List.length_map, List.length_range] at hj
  rw [List.getD_eq_getElem?_getD, List.getElem?_eq_getElem (by simpa using hj)]; simp
/-- The keys at their places are the keys. -/
theorem ord_perm (xs : List Int) : (ordL xs).Perm xs := by
  have h1 : ((List.range xs.length).map (plN xs)).Perm (List.range xs.length) := by
    refine nodup_perm _ _ ?_ ?_ (by simp)
    · rw [List.Nodup, List.pairwise_map]
      refine (List.nodup_range (n := xs.length)).imp_of_mem ?_
      intro a b ha hb hne h
      exact hne (plN_inj (List.mem_range.1 ha) (List.mem_range.1 hb) h)
    · intro a ha
      obtain ⟨i, hi, rfl⟩ := List.mem_map.1 ha
      exact List.mem_range.2 (plN_lt (List.mem_range.1 hi))
  have h2 := h1.map (fun i => (ordL xs).getD i 0)
  have h3 : (List.range xs.length).map (fun i => (ordL xs).getD i 0) = ordL xs := by have := range_eq (ordL xs); rwa [ordL_len] at this
  have h4 : ((List.range xs.length).map (plN xs)).map (fun i => (ordL xs).getD i 0) = xs := by
    rw [List.map_map]
    refine Eq.trans (List.map_congr_left fun i hi => ?_) (range_eq xs)
    exact ord_at (List.mem_range.1 hi)
  rw [h3, h4] at h2
  exact h2.symm
theorem srt_uniq {xs ys : List Int} (h : srt ys = true) (hp : ys.Perm xs) : ys = ordL xs :=
  List.Perm.eq_of_pairwise (le := (· ≤ ·)) (fun _ _ _ _ h1 h2 => Int.le_antisymm h1 h2) (srt_pair h) (srt_pair ord_srt) (hp.trans (ord_perm xs).symm)
def invL : List Int → Int
  | [] => 0
  | x :: l => (l.countP (· < x) : Nat) + invL l
theorem swp_cons (x : Int) (l : List Int) (i j : Nat) : swp (x :: l) (i + 1) (j + 1) = x :: swp l i j := by
  simp [swp]
theorem inv_adj : ∀ (l : List Int) (i : Nat), i + 1 < l.length → l.getD (i + 1) 0 < l.getD i 0 → invL (swp l i (i + 1)) + 1 = invL l
  | [], i, h, _ => by simp at h
  | [_], i, h, _ => by simp at h
  | a :: b :: t, 0, _, hlt => by
    have e : swp (a :: b :: t) 0 1 = b :: a :: t := by simp [swp]
    have hlt : b < a := by simpa using hlt
    rw [e]
    simp only [invL, List.countP_cons, decide_eq_true_eq]
    rw [if_neg (by omega), if_pos hlt]; omega
  | x :: y :: t, i + 1, h, hlt => by
    rw [swp_cons]
    have ih := inv_adj (y :: t) i (by simpa using h) (by simpa using hlt)
    have hp := swp_perm (xs := y :: t) (a := i) (b := i + 1) (by simp at h ⊢; omega) (by simpa using h)
    simp only [invL] at ih ⊢
    rw [hp.countP_eq]; omega
theorem rowS (x : Int) (l : List Int) (i : Nat) : ∀ k, invRow (x :: l) (i + 1) (k + 1) = invRow l i k
  | 0 => by simp [invRow]
  | k + 1 => by
    rw [invRow, rowS x l i k, invRow]
    simp
theorem row0 (x : Int) (l : List Int) : ∀ k, k ≤ l.length → invRow (x :: l) 0 (k + 1) = ((l.take k).countP (· < x) : Nat)
  | 0, _ => by simp [invRow]
  | k + 1, h => by
    rw [invRow, row0 x l k (by omega), List.take_succ_eq_append_getElem (by omega), List.countP_append]
    have : (x :: l).getD (k + 1) 0 = l[k] := by rw [← getD_in (show k < l.length by omega)]; simp
    rw [this]
    by_cases h1 : l[k] < x
    · rw [if_pos ⟨by omega, by simpa using h1⟩]; simp [List.countP_cons, h1]
    · rw [if_neg (fun h => h1 (by simpa using h.2))]; simp [List.countP_cons, h1]
theorem invTo_cons (x : Int) (l : List Int) : ∀ i, invTo (x :: l) (i + 1) = invRow (x :: l) 0 (l.length + 1) + invTo l i
  | 0 => by simp only [invTo, List.length_cons]; omega
  | i + 1 => by
    rw [invTo, invTo_cons x l i, invTo, List.length_cons, rowS]; omega
theorem invTo_L : ∀ l : List Int, invTo l l.length = invL l
  | [] => rfl
  | x :: l => by
    rw [List.length_cons, invTo_cons, invTo_L l, row0 x l l.length (Nat.le_refl _), List.take_length]; rfl
theorem insIn_inv : ∀ (f k : Nat) (xs : List Int) (a m : Int), k < f → k < xs.length → (insIn 1 k xs a m).1.Perm xs ∧ (insIn 1 k xs a m).2.2 + invL (insIn 1 k xs a m).1 = m + invL xs ∧ a - m ≤ (insIn 1 k xs a m).2.1 - (insIn 1 k xs a m).2.2 ∧ (insIn 1 k xs a m).2.1 - (insIn 1 k xs a m).2.2 ≤ a - m + 1
  | 0, k, xs, a, m, h, _ => by omega
  | f + 1, k, xs, a, m, h, hl => by
    by_cases h1 : 1 ≤ k
    · rcases Int.lt_or_le (xs.getD k 0) (xs.getD (k - 1) 0) with h2 | h2
      · rw [insIn_go (by omega) h1 h2]
        have ih := insIn_inv f (k - 1) (swp xs (k - 1) k) (a + 1) (m + 1) (by omega) (by rw [swp_len]; omega)
        have hp := swp_perm (xs := xs) (a := k - 1) (b := k) (by omega) hl
        have hi := inv_adj xs (k - 1) (by omega) (by rw [show k - 1 + 1 = k by omega]; exact h2)
        rw [show k - 1 + 1 = k by omega] at hi
        exact ⟨ih.1.trans hp, by omega, by omega, by omega⟩
      · rw [insIn_stop (by omega) h1 h2]
        exact ⟨List.Perm.refl _, rfl, by simp only; omega, by simp only; omega⟩
    · rw [insIn_end (by omega)]
      exact ⟨List.Perm.refl _, rfl, by simp only; omega, by simp only; omega⟩
def srtP (ys : List Int) (J k : Nat) : Prop := (∀ a b, a < b → b ≤ J → a ≠ k → b ≠ k → ys.getD a 0 ≤ ys.getD b 0) ∧ ∀ b, k < b → b ≤ J → ys.getD k 0 ≤ ys.getD b 0
theorem insIn_srt : ∀ (f k : Nat) (ys : List Int) (a m : Int) (J : Nat), k < f → k ≤ J → J < ys.length → srtP ys J k → ∀ x y, x < y → y ≤ J → (insIn 1 k ys a m).1.getD x 0 ≤ (insIn 1 k ys a m).1.getD y 0
  | 0, k, ys, a, m, J, h, _, _, _, _, _, _, _ => by omega
  | f + 1, k, ys, a, m, J, h, hkJ, hJ, hP, x, y, hxy, hy => by
    have fin : (k < 1 ∨ ys.getD (k - 1) 0 ≤ ys.getD k 0) → ys.getD x 0 ≤ ys.getD y 0 := fun hk => by
      by_cases e1 : x = k
      · subst e1; exact hP.2 y hxy hy
      · by_cases e2 : y = k
        · subst e2
          rcases hk with hk | hk
          · omega
          · by_cases e3 : x = y - 1
            · rw [e3]; exact hk
            · have := hP.1 x (y - 1) (by omega) (by omega) e1 (by omega)
              omega
        · exact hP.1 x y hxy hy e1 e2
    by_cases h1 : 1 ≤ k
    · rcases Int.lt_or_le (ys.getD k 0) (ys.getD (k - 1) 0) with h2 | h2
      · rw [insIn_go (by omega) h1 h2]
        have hg := swp_get (xs := ys) (a := k - 1) (b := k) (by omega) (by omega)
        refine insIn_srt f (k - 1) (swp ys (k - 1) k) (a + 1) (m + 1) J (by omega) (by omega) (by rw [swp_len]; exact hJ) ⟨fun a b hab hb ha hb2 => ?_, fun b hb hbJ => ?_⟩ x y hxy hy
        · rw [hg a, hg b]
          by_cases e1 : a = k
          · rw [if_pos e1, if_neg (by omega), if_neg (by omega)]
            exact hP.1 (k - 1) b (by omega) hb (by omega) (by omega)
          · rw [if_neg e1, if_neg ha]
            by_cases e2 : b = k
            · rw [if_pos e2]
              by_cases e3 : a = k - 1
              · omega
              · exact hP.1 a (k - 1) (by omega) (by omega) e1 (by omega)
            · rw [if_neg e2, if_neg hb2]; exact hP.1 a b hab hb e1 e2
        · rw [hg (k - 1), if_neg (by omega), if_pos rfl, hg b]
          by_cases e2 : b = k
          · rw [if_pos e2]; omega
          · rw [if_neg e2, if_neg (by omega)]; exact hP.2 b (by omega) hbJ
      · rw [insIn_stop (by omega) h1 h2]
        exact fin (.inr h2)
    · rw [insIn_end (by omega)]
      exact fin (.inl (by omega))
theorem insTo_all (xs : List Int) : ∀ j, j + 1 ≤ xs.length ∨ j = 0 → (insTo 1 (xs, 0, 0) j).1.Perm xs ∧ (insTo 1 (xs, 0, 0) j).2.2 + invL (insTo 1 (xs, 0, 0) j).1 = invL xs ∧ (0 ≤ (insTo 1 (xs, 0, 0) j).2.1 - (insTo 1 (xs, 0, 0) j).2.2 ∧ (insTo 1 (xs, 0, 0) j).2.1 - (insTo 1 (xs, 0, 0) j).2.2 ≤ j) ∧ ∀ x y, x < y → y ≤ j → (insTo 1 (xs, 0, 0) j).1.getD x 0 ≤ (insTo 1 (xs, 0, 0) j).1.getD y 0
  | 0, _ => ⟨List.Perm.refl _, by simp [insTo], by simp [insTo], fun x y h1 h2 => by omega⟩
  | j + 1, h => by
    obtain ⟨i1, i2, i3, i4⟩ := insTo_all xs j (by omega)
    have hl := i1.length_eq
    obtain ⟨q1, q2, q3, q4⟩ := insIn_inv (1 + j + 1) (1 + j) (insTo 1 (xs, 0, 0) j).1 (insTo 1 (xs, 0, 0) j).2.1 (insTo 1 (xs, 0, 0) j).2.2 (by omega) (by omega)
    have q5 := insIn_srt (1 + j + 1) (1 + j) (insTo 1 (xs, 0, 0) j).1 (insTo 1 (xs, 0, 0) j).2.1 (insTo 1 (xs, 0, 0) j).2.2 (j + 1) (by omega) (by omega) (by omega) ⟨fun a b hab hb ha hb2 => i4 a b hab (by omega), fun b hb hb2 => by omega⟩
    rw [insTo]
    exact ⟨q1.trans i1, by omega, by omega, q5⟩
theorem srt_of {ys : List Int} (h : ∀ x y, x < y → y < ys.length → ys.getD x 0 ≤ ys.getD y 0) : srt ys = true := srt_iff.2 fun j hj => h j (j + 1) (by omega) hj
theorem inv_sorted {ys : List Int} (h : srt ys = true) : invL ys = 0 := by
  have := inv_srt ys
  rw [h, invTo_L] at this
  simpa using this
/-- What insertion answers. -/
theorem ins_fin (xs : List Int) : (insTo 1 (xs, 0, 0) (xs.length - 1)).1 = ordL xs ∧ (insTo 1 (xs, 0, 0) (xs.length - 1)).2.2 = invTo xs xs.length ∧ (insTo 1 (xs, 0, 0) (xs.length - 1)).2.2 ≤ (insTo 1 (xs, 0, 0) (xs.length - 1)).2.1 ∧ (insTo 1 (xs, 0, 0) (xs.length - 1)).2.1 ≤ (insTo 1 (xs, 0, 0) (xs.length - 1)).2.2 + (xs.length - 1 : Nat) := by
  obtain ⟨i1, i2, i3, i4⟩ := insTo_all xs (xs.length - 1) (by omega)
  have hl := i1.length_eq
  have hs : srt (insTo 1 (xs, 0, 0) (xs.length - 1)).1 = true := srt_of fun x y h1 h2 => i4 x y h1 (by omega)
  have := inv_sorted hs
  rw [invTo_L]
  exact ⟨srt_uniq hs i1, by omega, by omega, by omega⟩
theorem invRow_le (xs : List Int) (i : Nat) : ∀ k, invRow xs i k ≤ k
  | 0 => Int.le_refl 0
  | k + 1 => by have := invRow_le xs i k; rw [invRow]; split <;> omega
theorem inv_le0 (xs : List Int) : ∀ i, invTo xs i ≤ i * xs.length
  | 0 => by simp [invTo]
  | i + 1 => by
    have := inv_le0 xs i
    have := invRow_le xs i xs.length
    have : ((i + 1 : Nat) : Int) * xs.length = i * xs.length + xs.length := by rw [Int.natCast_add, Int.add_mul]; omega
    rw [invTo]; omega
theorem inv_le {xs : List Int} (h : xs.length ≤ 8) : invTo xs xs.length ≤ 64 := by
  have h1 := inv_le0 xs xs.length
  have h2 : ((xs.length : Int)) * xs.length ≤ 8 * 8 := by
    have := Nat.mul_le_mul h h
    exact_mod_cast this
  omega
theorem srt_steps {ys : List Int} (h : ∀ a, a + 1 < ys.length → ys.getD a 0 ≤ ys.getD (a + 1) 0) : srt ys = true := srt_iff.2 h

/-- What neither reads memory nor hangs on it. -/
def pureS (o : Oper) : Bool := match o.op with | .move _ => true | .slice .. => true | _ => false
def freeS (ops : Array Oper) (wilds : List Nat) (listed : Array Bool) (i : Nat) : Bool :=
  match ops[i]? with
  | none => false
  | some oi => (List.range ops.size).all fun j => j == i || listed.getD j true || (match ops[j]? with
      | some oj => oi.apart ops oj && (!wilds.contains j || pureS oi)
      | none => true) || waits ops ops.size j i
def YieldsT (P : Program) (ops : Array Oper) (o : Oper) (v : Value) (a : Act) (w : World) : Prop :=
  (Region.wanted o (yielded ops a.tmps) = true ∧ ∀ w', (Grow w w' ∨ pureS o = true) → (execOp a.eval o).run P w' = .ok (.value v) w') ∨
  (Region.wanted o (yielded ops a.tmps) = false ∧ v = undef)
theorem YieldsT.toX {P : Program} {ops : Array Oper} {o : Oper} {v : Value} {a : Act} {w : World} (h : YieldsT P ops o v a w) : YieldsX P ops o v a w :=
  h.imp (fun ⟨x, y⟩ => ⟨x, fun w' hg => y w' (.inl hg)⟩) id
theorem YieldsT.put {P : Program} {ops : Array Oper} {o oj : Oper} {v u : Value} {a : Act} {w w' : World} (hs : ∀ cs b, o.op ≠ .select cs b) (hap : o.apart ops oj = true) (hy : YieldsT P ops o v a w) (hg : Grow w w' ∨ pureS o = true) : YieldsT P ops o v (a.put oj.dst u) w' := by
  obtain ⟨_, _, h3⟩ := Oper.apart_spec hap
  unfold YieldsT at *
  rw [wanted_put o a oj.dst u h3, execOp_put o hs a oj.dst u h3]
  refine hy.imp (fun ⟨x, y⟩ => ⟨x, fun w'' h => y w'' ?_⟩) id
  rcases hg with hg | hg
  · exact h.imp (fun h => hg.trans h) id
  · exact .inr hg
theorem anyG_firstT {P : Program} {ops : Array Oper} {wilds : List Nat} {Q : Act → World → Prop} {i : Nat} {oi : Oper} {v : Value} (hi : ops[i]? = some oi) (hsel : ∀ (j : Nat) (o : Oper) cs b, ops[j]? = some o → o.op ≠ .select cs b) :
    ∀ (f : Nat) (listed : Array Bool) (a : Act) (w : World), ClosedB ops listed →
      (∀ j oj, ops[j]? = some oj → j ≠ i → listed.getD j true = false → waits ops ops.size j i = false → oi.apart ops oj = true ∧ (j ∉ wilds ∨ pureS oi = true)) →
      i ∈ Region.ready .any ops listed → YieldsT P ops oi v a w →
      anyG P ops wilds Q f (listed.setIfInBounds i true) (a.put oi.dst v) w → anyG P ops wilds Q (f + 1) listed a w := by
  intro f
  induction f with
  | zero =>
    intro listed a w _ _ hr hy H
    refine ⟨fun h => (by rw [h] at hr; cases hr), fun j hj => ?_⟩
    by_cases hji : j = i
    · subst hji; exact hy.toX.opG hi ⟨fun _ => Grow.refl _, H⟩
    · have := ready_mono hj hji
      rw [H.1] at this
      cases this
  | succ f ih =>
    intro listed a w hc hfree hr hy H
    have hun := (mem_ready.1 hr).1
    refine ⟨fun h => (by rw [h] at hr; cases hr), fun j hj => ?_⟩
    by_cases hji : j = i
    · subst hji; exact hy.toX.opG hi ⟨fun _ => Grow.refl _, H⟩
    · have h1 := H.2 j (ready_mono hj hji)
      obtain ⟨hjun, oj, hoj, hall⟩ := mem_ready.1 hj
      have hnot : waits ops ops.size j i = false := by
        cases hw : waits ops ops.size j i with
        | false => rfl
        | true =>
          have := waits_listed hc ops.size j i (fun oj' hoj' e he hb => by
            have : oj' = oj := Option.some.inj (hoj'.symm.trans hoj)
            subst this
            exact hall e he hb) hw
          rw [getD_ft hun] at this
          cases this
      obtain ⟨hap, hwild⟩ := hfree j oj hoj hji hjun hnot
      refine (opG_put hoj hap (fun cs b => hsel j oj cs b hoj) h1).mono fun a' w' ⟨⟨u, hu⟩, hg, hK⟩ => ?_
      subst hu
      refine ⟨fun h => hg h, ih _ _ _ (hc.set hj) (fun k ok hk hki hkun hkw => hfree k ok hk hki ?_ hkw) (ready_mono hr (Ne.symm hji)) (hy.put (fun cs b => hsel i oi cs b hi) hap (hwild.imp hg id)) ?_⟩
      · by_cases hjk : j = k
        · subst hjk; exact hjun
        · rw [getD_set_ne true hjk] at hkun; exact hkun
      · rw [Array.setIfInBounds_comm _ _ hji]
        exact hK
/-- Orders of a region, with more than one operation that acts at a time: what may come first, each with all that comes behind it. -/
inductive OT where
  | leaf
  | quiet (i : Nat) (w : Bool) (t : OT)
  | one (i : Nat) (w : Bool) (t more : OT)
  | stop
def OT.alts : OT → List Nat
  | .one i _ _ more => i :: more.alts
  | _ => []
def OT.named : OT → List (Nat × Bool)
  | .leaf => []
  | .quiet i w t => (i, w) :: t.named
  | .one i w t more => (i, w) :: (t.named ++ more.named)
  | .stop => []
section
variable (P : Program) (ops : Array Oper) (wilds : List Nat)
def chkT : OT → Bool → Nat → Array Bool → Bool
  | .leaf, root, n, listed => root && n == 0 && (Region.ready .any ops listed).isEmpty
  | .quiet i _ t, root, n, listed => root && (Region.ready .any ops listed).contains i && freeS ops wilds listed i && (match n with | 0 => false | n + 1 => chkT t true n (listed.setIfInBounds i true))
  | .one i w t more, root, n, listed => (!root || (Region.ready .any ops listed == i :: more.alts)) && (match n with | 0 => false | k + 1 => chkT t true k (listed.setIfInBounds i true) && chkT more false (k + 1) listed)
  | .stop, root, _, _ => !root
def treeG (Q : Act → World → Prop) : OT → Act → World → Prop
  | .leaf, a, w => Q a w
  | .quiet i _ t, a, w => ∃ o v, ops[i]? = some o ∧ YieldsT P ops o v a w ∧ treeG Q t (a.put o.dst v) w
  | .one i _ t more, a, w => opG P ops i (fun a' w' => (i ∉ wilds → Grow w w') ∧ treeG Q t a' w') a w ∧ treeG Q more a w
  | .stop, _, _ => True
end
section
variable {P : Program} {ops : Array Oper} {wilds : List Nat}
theorem anyG_of_tree {Q : Act → World → Prop} (hsel : ∀ (j : Nat) (o : Oper) cs b, ops[j]? = some o → o.op ≠ .select cs b) : ∀ (t : OT),
    (∀ n listed a w, ClosedB ops listed → chkT ops wilds t true n listed = true → treeG P ops wilds Q t a w → anyG P ops wilds Q n listed a w) ∧
    (∀ n listed a w, ClosedB ops listed → chkT ops wilds t false (n + 1) listed = true → (∀ j ∈ t.alts, j ∈ Region.ready .any ops listed) → treeG P ops wilds Q t a w → ∀ j ∈ t.alts, opG P ops j (fun a' w' => (j ∉ wilds → Grow w w') ∧ anyG P ops wilds Q n (listed.setIfInBounds j true) a' w') a w) := by
  intro t
  induction t with
  | leaf =>
    refine ⟨fun n listed a w _ hB h => ?_, fun n listed a w _ _ _ _ j hj => by simp [OT.alts] at hj⟩
    simp only [chkT, Bool.true_and, Bool.and_eq_true, beq_iff_eq] at hB
    obtain ⟨rfl, hB⟩ := hB
    exact ⟨by simpa using hB, h⟩
  | stop => exact ⟨fun n listed a w _ hB _ => by simp [chkT] at hB, fun n listed a w _ _ _ _ j hj => by simp [OT.alts] at hj⟩
  | quiet i wl t ih =>
    refine ⟨fun n listed a w hc hB h => ?_, fun n listed a w _ _ _ _ j hj => by simp [OT.alts] at hj⟩
    cases n with
    | zero => simp [chkT] at hB
    | succ n =>
      simp only [chkT, Bool.true_and, Bool.and_eq_true] at hB
      obtain ⟨⟨hr, hf⟩, hB'⟩ := hB
      obtain ⟨o, v, ho, hy, hK⟩ := h
      have hr' : i ∈ Region.ready .any ops listed := by simpa using hr
      refine anyG_firstT ho hsel n listed a w hc (fun j oj hj hji hun hw => ?_) hr' hy (ih.1 _ _ _ _ (hc.set hr') hB' hK)
      unfold freeS at hf
      simp only [ho] at hf
      have hlt : j < ops.size := (Array.getElem?_eq_some_iff.1 hj).1
      have := List.all_eq_true.1 hf j (List.mem_range.2 hlt)
      simpa [hji, hun, hw, hj, beq_eq_false_iff_ne] using this
  | one i wl t more ih ihm =>
    have part2 : ∀ n listed a w, ClosedB ops listed → (chkT ops wilds t true n (listed.setIfInBounds i true) && chkT ops wilds more false (n + 1) listed) = true → (∀ j ∈ (OT.one i wl t more).alts, j ∈ Region.ready .any ops listed) → treeG P ops wilds Q (.one i wl t more) a w → ∀ j ∈ (OT.one i wl t more).alts, opG P ops j (fun a' w' => (j ∉ wilds → Grow w w') ∧ anyG P ops wilds Q n (listed.setIfInBounds j true) a' w') a w := by
      intro n listed a w hc hB hr h j hj
      rw [Bool.and_eq_true] at hB
      simp only [OT.alts, List.mem_cons] at hj hr
      rcases hj with rfl | hj
      · exact opG.mono h.1 fun a' w' ⟨hg, hK⟩ => ⟨hg, ih.1 _ _ _ _ (hc.set (hr _ (.inl rfl))) hB.1 hK⟩
      · exact ihm.2 n listed a w hc hB.2 (fun k hk => hr k (.inr hk)) h.2 j hj
    refine ⟨fun n listed a w hc hB h => ?_, fun n listed a w hc hB hr h => ?_⟩
    · cases n with
      | zero => simp [chkT] at hB
      | succ n =>
        simp only [chkT, Bool.not_true, Bool.false_or, Bool.and_eq_true, beq_iff_eq] at hB
        obtain ⟨hr, hB'⟩ := hB
        refine ⟨by rw [hr]; simp, fun j hj => ?_⟩
        have hall : ∀ k ∈ (OT.one i wl t more).alts, k ∈ Region.ready .any ops listed := fun k hk => by rw [hr]; simpa [OT.alts] using hk
        exact part2 n listed a w hc (by rw [Bool.and_eq_true]; exact hB') hall h j (by rw [hr] at hj; simpa [OT.alts] using hj)
    · simp only [chkT, Bool.not_false, Bool.true_or, Bool.true_and] at hB
      exact part2 n listed a w hc hB hr h
theorem wp_region_tree {id : Nat} {Q : Exit → Act → World → Prop} {a : Act} {w : World} (t : OT) (hm : P.follows .mixedOrders = true) (hs : Region.noSelect ops = true)
    (hB : chkT ops wilds t true ops.size (Array.replicate ops.size false) = true)
    (h : treeG P ops wilds (fun a' w' => Q .normal a' w') t a { w with drawn := w.drawn + 1 }) : (Code.region id ops true).wp P Q a w := by
  refine wp_region_any hm ?_
  have h0 : ClosedB ops (Array.replicate ops.size false) := fun j oj _ hl => by
    exfalso
    rcases Nat.lt_or_ge j ops.size with h | h <;> simp [h] at hl
  exact wpAny_of_anyG (fun _ _ h => h) _ _ _ _ ((anyG_of_tree (wilds := wilds) (fun j o cs b ho => Region.noSelect_spec hs j o cs b ho) t).1 _ _ _ _ h0 hB h)
end
def opT (P : Program) (tab : Tab) (Γ : Ctx) (ops : Array Oper) (q : Bool) (i : Nat) (w : Bool) (s : St) (K : St → Prop) : Prop :=
  match (prep ops)[i]? with
  | some (o, g) => stepA P tab Γ q w o g s K
  | none => False
/-- Both ways. -/
def Both (A B : Prop) : Prop := A ∧ B
theorem both {A B : Prop} (h1 : A) (h2 : B) : Both A B := ⟨h1, h2⟩
def aordT (P : Program) (tab : Tab) (Γ : Ctx) (ops : Array Oper) : OT → (St → Prop) → St → Prop
  | .leaf, K, s => K s
  | .quiet i w t, K, s => opT P tab Γ ops true i w s (aordT P tab Γ ops t K)
  | .one i w t more, K, s => Both (opT P tab Γ ops false i w s (aordT P tab Γ ops t K)) (aordT P tab Γ ops more K s)
  | .stop, _, _ => True
section
variable {P : Program} {tab : Tab} {Γ : Ctx} {nt : Nat} {ops : Array Oper}
theorem aordT_plain {q w : Bool} {i : Nat} {o : Oper} {K0 : St → Prop} {s : St} (ho : (prep ops)[i]? = some (o, none)) (h : ∀ K' : St → Prop, (∀ s', K0 s' → K' s') → step1 P tab Γ q w o s K') : opT P tab Γ ops q i w s K0 := by
  unfold opT; rw [ho]; exact h K0 fun _ h => h
theorem sop_sound {F : Nat → Prop} {W w : World} {m : Lm} {h : Nat → Option Ob} {next : Nat} (ht : TabOk P tab) (hs : Sim F W m h next w) {ev : Operand → AV} {ρ : Operand → Value} (he : ∀ x, Rep m (ev x) (ρ x)) {o : Oper} {K : AV → Prop} (hr : rop tab h ev o.op K) :
    ∃ a v, K a ∧ Rep m a v ∧ ∀ w', (Grow w w' ∨ pureS o = true) → (execOp ρ o).run P w' = .ok (.value v) w' := by
  by_cases hp : pureS o = true
  · unfold pureS at hp
    split at hp
    · rename_i z hz
      rw [hz] at hr
      exact ⟨_, _, hr, he z, fun w' _ => by simp only [execOp, hz, Sem.run_pure]⟩
    · rename_i t x lo hi mx hz
      rw [hz] at hr
      obtain ⟨a, v, h1, h2, h3⟩ := rSlice_sound ht hs hr (he x) (vlo := lo.map ρ) (vhi := hi.map ρ) (vmx := mx.map ρ) (by
        intro a ha; cases lo with
        | none => cases ha
        | some y => cases ha; exact ⟨_, rfl, he y⟩) (by
        intro h0; cases lo with
        | none => rfl
        | some y => cases h0) (by
        intro a ha; cases hi with
        | none => cases ha
        | some y => cases ha; exact ⟨_, rfl, he y⟩) (by
        intro h0; cases hi with
        | none => rfl
        | some y => cases h0) (by
        intro h0; cases mx with
        | none => rfl
        | some y => cases h0)
      exact ⟨a, v, h1, h2, fun w' _ => by simp only [execOp, hz, Sem.run_bind, h3 w', Result.andThen_ok, Sem.run_pure]⟩
    · cases hp
  · obtain ⟨a, v, h1, h2, h3⟩ := rop_sound ht hs he hr
    exact ⟨a, v, h1, h2, fun w' hg => h3 w' (hg.resolve_right hp)⟩
theorem quiet_step {wilds : List Nat} {K Q' : St → Prop} {t : OT} (ht : TabOk P tab) (hd : dstOk nt ops = true) {i : Nat} {wl : Bool} (hlt : i < ops.size) {m : Lm} {s : St} {a : Act} {w : World} (hs : SimS Γ nt m s a w) (h : opT P tab Γ ops true i wl s K)
    (ih : ∀ {m : Lm} {s : St} {a : Act} {w : World}, SimS Γ nt m s a w → K s → treeG P ops wilds (fun a' w' => ∃ m' s', SimS Γ nt m' s' a' w' ∧ Q' s') t a w) :
    ∃ o v, ops[i]? = some o ∧ YieldsT P ops o v a w ∧ treeG P ops wilds (fun a' w' => ∃ m' s', SimS Γ nt m' s' a' w' ∧ Q' s') t (a.put o.dst v) w := by
  have hlen : (prep ops).length = ops.size := by simp [prep]
  obtain ⟨⟨o, g⟩, hi⟩ : ∃ p, (prep ops)[i]? = some p := ⟨_, List.getElem?_eq_getElem (by omega)⟩
  simp only [opT, hi] at h
  obtain ⟨ho, hg⟩ := prep_get hi
  have yes : step1 P tab Γ true wl o s K → Region.wanted o (yielded ops a.tmps) = true → ∃ o v, ops[i]? = some o ∧ YieldsT P ops o v a w ∧ treeG P ops wilds (fun a' w' => ∃ m' s', SimS Γ nt m' s' a' w' ∧ Q' s') t (a.put o.dst v) w := fun h1 hw => by
    simp only [step1, if_true] at h1
    obtain ⟨x, v, hK, hr, hv⟩ := sop_sound ht hs.sim (fun x => hs.ev x) h1
    exact ⟨o, v, ho, .inl ⟨hw, hv⟩, ih (hs.set (dst_lt hd ho) hr hs.sim (fun _ _ h => h)) hK⟩
  unfold stepA at h
  split at h
  · have : o.guard = none := by
      cases hgo : o.guard with
      | none => rfl
      | some p => rw [hgo] at hg; cases hg
    exact yes h (by simp [Region.wanted, this])
  · rename_i t' want
    cases hgo : o.guard with
    | none => rw [hgo] at hg; cases hg
    | some p =>
      obtain ⟨j, w1⟩ := p
      rw [hgo] at hg
      simp only [Option.some.injEq, Prod.mk.injEq] at hg
      obtain ⟨e1, rfl⟩ := hg
      rcases h with ⟨b, hb, h1, h2⟩ | ⟨hb, h2⟩
      case inr =>
        exact ⟨o, undef, ho, .inr ⟨not_wanted hs hgo e1.symm hb, rfl⟩, ih (hs.set (dst_lt hd ho) (rep_undef _) hs.sim (fun _ _ h => h)) h2⟩
      have hwt := wanted_of hs hgo e1.symm hb
      by_cases hbw : b = want
      · exact yes (h1 hbw) (by rw [hwt, hbw]; simp)
      · have : (b == want) = false := by simpa using hbw
        exact ⟨o, undef, ho, .inr ⟨by rw [hwt, this], rfl⟩, ih (hs.set (dst_lt hd ho) (rep_undef _) hs.sim (fun _ _ h => h)) (h2 (by cases b <;> cases want <;> simp_all))⟩
  · exact h.elim
def wildsT (ops : Array Oper) (t : OT) : List Nat := (List.range ops.size).filter fun i => match ops[i]? with | some o => !tameB (t.named.any fun p => p.1 == i && p.2) o | none => false
theorem tree_sound {full : OT} (ht : TabOk P tab) (hd : dstOk nt ops = true) {K : St → Prop} : ∀ (t : OT), (∀ p ∈ t.named, p.1 < ops.size ∧ p ∈ full.named) → ∀ {m : Lm} {s : St} {a : Act} {w : World}, SimS Γ nt m s a w → aordT P tab Γ ops t K s →
    treeG P ops (wildsT ops full) (fun a' w' => ∃ m' s', SimS Γ nt m' s' a' w' ∧ K s') t a w
  | .leaf, _, m, s, a, w, hs, h => ⟨m, s, hs, h⟩
  | .stop, _, _, _, _, _, _, _ => trivial
  | .quiet i wl t, hl, m, s, a, w, hs, h => quiet_step ht hd (hl (i, wl) (by simp [OT.named])).1 hs h fun hs' hK => tree_sound ht hd t (fun p hp => hl p (by simp [OT.named, hp])) hs' hK
  | .one i wl t more, hl, m, s, a, w, hs, h => by
    have hlt : i < ops.size := (hl (i, wl) (by simp [OT.named])).1
    have hfull : (i, wl) ∈ full.named := (hl (i, wl) (by simp [OT.named])).2
    refine ⟨?_, tree_sound ht hd more (fun p hp => hl p (by simp [OT.named, hp])) hs h.2⟩
    have h1 := h.1
    have hlen : (prep ops).length = ops.size := by simp [prep]
    obtain ⟨⟨o, g⟩, hi⟩ : ∃ p, (prep ops)[i]? = some p := ⟨_, List.getElem?_eq_getElem (by omega)⟩
    simp only [opT, hi] at h1
    obtain ⟨ho, hg⟩ := prep_get hi
    refine opG.mono (opG_of ht hd hs hi h1) fun a' w' ⟨hgr, m', s', hs', hK⟩ => ⟨fun hw => hgr ?_, tree_sound ht hd t (fun p hp => hl p (by simp [OT.named, hp])) hs' hK⟩
    cases htm : tameB wl o with
    | true => rfl
    | false =>
      exfalso
      apply hw
      simp only [wildsT, List.mem_filter, List.mem_range]
      refine ⟨hlt, ?_⟩
      have e1 : tameB (full.named.any fun p => p.1 == i && p.2) o = false := by
        cases wl with
        | true =>
          have : (full.named.any fun p => p.1 == i && p.2) = true := List.any_eq_true.2 ⟨_, hfull, by simp⟩
          rw [this]; exact htm
        | false =>
          cases (full.named.any fun p => p.1 == i && p.2) with
          | false => exact htm
          | true => exact tameB_any htm
      simp [ho, e1]
theorem awp_region_tree (ht : TabOk P tab) {id : Nat} {Q : Exit → St → Prop} {s : St} (t : OT) (hm : P.follows .mixedOrders = true) (hd : dstOk nt ops = true)
    (hB : (Region.noSelect ops && t.named.all (fun p => p.1 < ops.size) && chkT ops (wildsT ops t) t true ops.size (Array.replicate ops.size false)) = true)
    (h : aordT P tab Γ ops t (fun s' => Q .normal s') s) : AWP Γ nt P (.region id ops true) Q s := by
  intro m a w hs
  simp only [Bool.and_eq_true, List.all_eq_true, decide_eq_true_eq] at hB
  obtain ⟨⟨h1, h3⟩, h4⟩ := hB
  have hs' : SimS Γ nt m s a { w with drawn := w.drawn + 1 } := ⟨hs.sim.grow ((Go.RowKit.Below.refl _ _).drew), hs.keep, hs.size, hs.defers, hs.tmps⟩
  exact wp_region_tree t hm h1 h4 (tree_sound ht hd t (fun p hp => ⟨h3 p hp, hp⟩) hs' h)
end


/-- What leaves a stack that has st, from the top on, when xs are put on it: a key leaves ahead of a greater one; at the end all. -/
def stk : List Int → List Int → List Int
  | st, [] => st
  | [], x :: xs => stk [x] xs
  | t :: st, x :: xs => if t < x then t :: stk st (x :: xs) else stk (x :: t :: st) xs
termination_by st xs => 2 * xs.length + st.length
theorem stk_end (st : List Int) : stk st [] = st := by cases st <;> rw [stk]
theorem stk_first (x : Int) (xs : List Int) : stk [] (x :: xs) = stk [x] xs := by rw [stk]
theorem stk_pop {t x : Int} {st xs : List Int} (h : t < x) : stk (t :: st) (x :: xs) = t :: stk st (x :: xs) := by rw [stk, if_pos h]
theorem stk_put {t x : Int} {st xs : List Int} (h : x ≤ t) : stk (t :: st) (x :: xs) = stk (x :: t :: st) xs := by rw [stk, if_neg (by omega)]
theorem stk_perm : ∀ st xs, (stk st xs).Perm (st ++ xs)
  | st, [] => by rw [stk_end]; simp
  | [], x :: xs => by rw [stk_first]; exact stk_perm [x] xs
  | t :: st, x :: xs => by
    by_cases h : t < x
    · rw [stk_pop h]; exact (stk_perm st (x :: xs)).cons t
    · rw [stk_put (by omega)]
      exact (stk_perm (x :: t :: st) xs).trans (List.perm_middle (l₁ := t :: st)).symm
termination_by st xs => 2 * xs.length + st.length
/-- The greatest key stays below all others. -/
theorem stk_low {n : Int} : ∀ st xs, (∀ x ∈ xs, x ≤ n) → stk (st ++ [n]) xs = stk st xs ++ [n]
  | st, [], _ => by rw [stk_end, stk_end]
  | [], x :: xs, h => by
    rw [stk_first, List.nil_append, stk_put (h x (by simp))]
    exact stk_low [x] xs fun y hy => h y (by simp [hy])
  | t :: st, x :: xs, h => by
    by_cases hl : t < x
    · rw [stk_pop hl, List.cons_append, stk_pop hl, stk_low st (x :: xs) h]; rfl
    · rw [stk_put (by omega), List.cons_append, stk_put (by omega)]
      exact stk_low (x :: t :: st) xs fun y hy => h y (by simp [hy])
termination_by st xs => 2 * xs.length + st.length
def passL (xs : List Int) : List Int := stk [] xs
theorem pass_perm (xs : List Int) : (passL xs).Perm xs := stk_perm [] xs
theorem pass_len (xs : List Int) : (passL xs).length = xs.length := (pass_perm xs).length_eq


/-- Falling pieces turned round; cur is the present one, turned. -/
def pops : List Int → List Int → List Int
  | cur, [] => cur
  | [], x :: xs => pops [x] xs
  | t :: cur, x :: xs => if x < t then pops (x :: t :: cur) xs else (t :: cur) ++ pops [x] xs
theorem pops_end (cur : List Int) : pops cur [] = cur := by cases cur <;> rw [pops]
theorem pops_first (x : Int) (xs : List Int) : pops [] (x :: xs) = pops [x] xs := by rw [pops]
theorem pops_on {t x : Int} {cur xs : List Int} (h : x < t) : pops (t :: cur) (x :: xs) = pops (x :: t :: cur) xs := by rw [pops, if_pos h]
theorem pops_cut {t x : Int} {cur xs : List Int} (h : t ≤ x) : pops (t :: cur) (x :: xs) = (t :: cur) ++ pops [x] xs := by rw [pops, if_neg (by omega)]
def popL (xs : List Int) : List Int := pops [] xs
theorem pops_perm : ∀ xs cur, (pops cur xs).Perm (cur ++ xs)
  | [], cur => by rw [pops_end]; simp
  | x :: xs, [] => by rw [pops_first]; exact pops_perm xs [x]
  | x :: xs, t :: cur => by
    by_cases h : x < t
    · rw [pops_on h]; exact (pops_perm xs (x :: t :: cur)).trans (List.perm_middle (l₁ := t :: cur)).symm
    · rw [pops_cut (by omega)]; exact (pops_perm xs [x]).append_left (t :: cur)
theorem pop_perm (xs : List Int) : (popL xs).Perm xs := pops_perm xs []
theorem pop_len (xs : List Int) : (popL xs).length = xs.length := (pop_perm xs).length_eq


def itF (f : List Int → List Int) : Nat → List Int → List Int
  | 0, xs => xs
  | n + 1, xs => itF f n (f xs)
theorem itF_out (f : List Int → List Int) : ∀ n xs, itF f (n + 1) xs = f (itF f n xs)
  | 0, _ => rfl
  | n + 1, xs => by rw [itF, itF_out f n]; rfl


/-- How often it must be done until the keys are sorted, up to a number of times. -/
def numP (s : List Int → Bool) (f : List Int → List Int) : Nat → List Int → Nat
  | 0, _ => 0
  | n + 1, xs => if s xs then 0 else numP s f n (f xs) + 1
theorem numP_le {s : List Int → Bool} {f : List Int → List Int} : ∀ k m xs, s (itF f k xs) = true → numP s f m xs ≤ k
  | _, 0, xs, _ => Nat.zero_le _
  | 0, m + 1, xs, h => by rw [numP, if_pos (show s xs = true from h)]; exact Nat.le_refl _
  | k + 1, m + 1, xs, h => by
    rw [numP]
    split
    · exact Nat.zero_le _
    · have := numP_le k m (f xs) h; omega
theorem numP_step {s : List Int → Bool} {f : List Int → List Int} {m : Nat} {xs : List Int} (h : s xs = false) (hm : 0 < m) : numP s f m xs = numP s f (m - 1) (f xs) + 1 := by
  obtain ⟨m, rfl⟩ : ∃ j, m = j + 1 := ⟨m - 1, by omega⟩
  rw [numP, h]; rfl
theorem numP_srt {s : List Int → Bool} {f : List Int → List Int} {m : Nat} {xs : List Int} (h : s xs = true) : numP s f m xs = 0 := by
  cases m with
  | zero => rfl
  | succ m => rw [numP, if_pos h]
theorem numP_zero {s : List Int → Bool} {f : List Int → List Int} {m : Nat} {xs : List Int} (hm : 0 < m) : numP s f m xs = 0 ↔ s xs = true := by
  obtain ⟨m, rfl⟩ : ∃ j, m = j + 1 := ⟨m - 1, by omega⟩
  rw [numP]
  split
  · simp [*]
  · simp [*]
theorem numP_one {s : List Int → Bool} {f : List Int → List Int} {m : Nat} {xs : List Int} (hm : 1 < m) (hs : s xs = true → s (f xs) = true) : numP s f m xs ≤ 1 ↔ s (f xs) = true := by
  obtain ⟨m, rfl⟩ : ∃ j, m = j + 2 := ⟨m - 2, by omega⟩
  rw [numP]
  split
  · simp [*]
  · rw [numP]
    split
    · simp [*]
    · simp [*]


abbrev Srt (xs : List Int) : Prop := xs.Pairwise (· ≤ ·)
theorem srt_app {A B : List Int} : Srt (A ++ B) ↔ Srt A ∧ Srt B ∧ ∀ a ∈ A, ∀ b ∈ B, a ≤ b := List.pairwise_append


/-- A key greater than all ahead lets them all leave. -/
theorem stk_big {n : Int} {R : List Int} : ∀ st xs, (∀ x ∈ st, x < n) → (∀ x ∈ xs, x < n) → stk st (xs ++ n :: R) = stk st xs ++ stk [n] R
  | [], [], _, _ => by rw [List.nil_append, stk_first, stk_end]; rfl
  | t :: st, [], h, _ => by
    rw [List.nil_append, stk_pop (h t (by simp)), stk_end]
    have := stk_big (R := R) st [] (fun y hy => h y (by simp [hy])) (fun y hy => by simp at hy)
    rw [List.nil_append, stk_end] at this
    rw [this]; rfl
  | [], x :: xs, _, h => by
    rw [List.cons_append, stk_first, stk_first]
    exact stk_big [x] xs (fun y hy => by simp at hy; subst hy; exact h y (by simp)) fun y hy => h y (by simp [hy])
  | t :: st, x :: xs, h1, h => by
    by_cases hl : t < x
    · rw [List.cons_append, stk_pop hl, stk_pop hl]
      have := stk_big (R := R) st (x :: xs) (fun y hy => h1 y (by simp [hy])) h
      rw [List.cons_append] at this
      rw [this]; rfl
    · rw [List.cons_append, stk_put (by omega), stk_put (by omega)]
      refine stk_big (x :: t :: st) xs (fun y hy => ?_) fun y hy => h y (by simp [hy])
      rcases List.mem_cons.1 hy with rfl | hy
      · exact h y (by simp)
      · exact h1 y hy
termination_by st xs => 2 * xs.length + st.length
theorem pass_cut {L R : List Int} {n : Int} (hL : ∀ x ∈ L, x < n) (hR : ∀ x ∈ R, x ≤ n) : passL (L ++ n :: R) = passL L ++ (passL R ++ [n]) := by
  unfold passL
  rw [stk_big [] L (fun _ h => by simp at h) hL]
  have := stk_low (n := n) [] R hR
  rw [List.nil_append] at this
  rw [this]
/-- Each list but the empty one is parted by the first one of its greatest keys. -/
theorem cut_max : ∀ xs : List Int, xs ≠ [] → ∃ L n R, xs = L ++ n :: R ∧ (∀ x ∈ L, x < n) ∧ ∀ x ∈ R, x ≤ n
  | [], h => absurd rfl h
  | [x], _ => ⟨[], x, [], rfl, by simp, by simp⟩
  | x :: y :: xs, _ => by
    obtain ⟨L, n, R, e, h1, h2⟩ := cut_max (y :: xs) (by simp)
    by_cases h : x < n
    · exact ⟨x :: L, n, R, by rw [e]; rfl, fun z hz => by
        rcases List.mem_cons.1 hz with rfl | hz
        · exact h
        · exact h1 z hz, h2⟩
    · refine ⟨[], x, y :: xs, rfl, by simp, fun z hz => ?_⟩
      rw [e] at hz
      rcases List.mem_append.1 hz with hz | hz
      · have := h1 z hz; omega
      · rcases List.mem_cons.1 hz with rfl | hz
        · omega
        · have := h2 z hz; omega


/-- The keys of a pass are sorted exactly if no three stand so that the last one is less than the first one, and this less than the second one. -/
def H3 (xs : List Int) : Prop := ∃ a b c, [a, b, c].Sublist xs ∧ c < a ∧ a < b
theorem three_cut {L R : List Int} {n : Int} (hL : ∀ x ∈ L, x < n) (hR : ∀ x ∈ R, x ≤ n) : H3 (L ++ n :: R) ↔ H3 L ∨ H3 R ∨ ∃ a ∈ L, ∃ c ∈ R, c < a := by
  constructor
  · rintro ⟨a, b, c, hs, h1, h2⟩
    obtain ⟨l1, l2, e, s1, s2⟩ := List.sublist_append_iff.1 hs
    have hmem : ∀ x, [x].Sublist R → x ∈ R := fun x h => by simpa using h
    rcases List.sublist_cons_iff.1 s2 with s3 | ⟨r, er, s3⟩
    · -- all behind in R
      match l1, l2, s1, s3, e with
      | [], _, s1, s3, e2 => simp at e2; subst e2; exact .inr (.inl ⟨a, b, c, s3, h1, h2⟩)
      | x :: t, l2, s1, s3, e2 =>
        simp only [List.cons_append, List.cons.injEq] at e2
        obtain ⟨e3, e4⟩ := e2
        subst e3
        by_cases h0 : l2 = []
        · subst h0
          rw [List.append_nil] at e4
          subst e4
          exact .inl ⟨a, b, c, s1, h1, h2⟩
        · have hc : c ∈ l2 := by
            have hl : (t ++ l2).getLast? = some c := by rw [← e4]; rfl
            rw [List.getLast?_append] at hl
            cases h5 : l2.getLast? with
            | none => exact absurd (List.getLast?_eq_none_iff.1 h5) h0
            | some d => rw [h5] at hl; simp at hl; subst hl; exact List.mem_of_getLast? h5
          exact .inr (.inr ⟨a, s1.subset (by simp), c, s3.subset hc, h1⟩)
    · subst er
      -- n is one of the three
      match l1, s1, e with
      | [], s1, e2 =>
        simp only [List.nil_append, List.cons.injEq] at e2
        obtain ⟨e3, e4⟩ := e2
        subst e4
        have := hR b (s3.subset (by simp))
        omega
      | [x], s1, e2 =>
        simp only [List.cons_append, List.nil_append, List.cons.injEq] at e2
        obtain ⟨e3, e4, e5⟩ := e2
        subst e3 e5
        exact .inr (.inr ⟨a, s1.subset (by simp), c, s3.subset (by simp), h1⟩)
      | [x, y], s1, e2 =>
        simp only [List.cons_append, List.nil_append, List.cons.injEq] at e2
        obtain ⟨e3, e4, e5, e6⟩ := e2
        subst e3
        have := hL a (s1.subset (by simp))
        omega
      | x :: y :: z :: t, s1, e2 => simp at e2
  · rintro (⟨a, b, c, hs, h⟩ | ⟨a, b, c, hs, h⟩ | ⟨a, ha, c, hc, h⟩)
    · exact ⟨a, b, c, hs.trans (List.sublist_append_left L _), h⟩
    · exact ⟨a, b, c, hs.trans ((List.sublist_cons_self n R).trans (List.sublist_append_right L _)), h⟩
    · refine ⟨a, n, c, ?_, h, hL a ha⟩
      have s1 : [a].Sublist L := by simpa using ha
      have s2 : [c].Sublist R := by simpa using hc
      exact s1.append (s2.cons_cons n)
theorem pass_three : ∀ (f : Nat) (xs : List Int), xs.length ≤ f → (Srt (passL xs) ↔ ¬ H3 xs)
  | 0, xs, h => by
    have : xs = [] := List.eq_nil_of_length_eq_zero (by omega)
    subst this
    refine ⟨fun _ ⟨a, b, c, hs, _⟩ => by simp at hs, fun _ => ?_⟩
    unfold passL; rw [stk_end]; exact List.Pairwise.nil
  | f + 1, xs, h => by
    by_cases h0 : xs = []
    · exact pass_three f xs (by subst h0; simp)
    · obtain ⟨L, n, R, rfl, hL, hR⟩ := cut_max xs h0
      simp only [List.length_append, List.length_cons] at h
      rw [three_cut hL hR, pass_cut hL hR, srt_app, srt_app, pass_three f L (by omega), pass_three f R (by omega)]
      have pL := pass_perm L
      have pR := pass_perm R
      constructor
      · rintro ⟨a1, ⟨a2, _, _⟩, a4⟩ (h | h | ⟨a, ha, c, hc, h⟩)
        · exact a1 h
        · exact a2 h
        · have := a4 a (pL.mem_iff.2 ha) c (by simp [pR.mem_iff, hc]); omega
      · intro hn
        refine ⟨fun h => hn (.inl h), ⟨fun h => hn (.inr (.inl h)), by simp, fun a ha b hb => ?_⟩, fun a ha b hb => ?_⟩
        · simp at hb; subst hb; exact hR a (pR.mem_iff.1 ha)
        · rcases List.mem_append.1 hb with hb | hb
          · apply Int.not_lt.1
            exact fun h => hn (.inr (.inr ⟨a, pL.mem_iff.1 ha, b, pR.mem_iff.1 hb, h⟩))
          · simp at hb; subst hb; have := hL a (pL.mem_iff.1 ha); omega


theorem pass_srt : ∀ (f : Nat) (xs : List Int), xs.length ≤ f → Srt xs → passL xs = xs
  | 0, xs, h, _ => by
    have : xs = [] := List.eq_nil_of_length_eq_zero (by omega)
    subst this; unfold passL; rw [stk_end]
  | f + 1, xs, h, hs => by
    by_cases h0 : xs = []
    · exact pass_srt f xs (by subst h0; simp) hs
    · obtain ⟨L, n, R, rfl, hL, hR⟩ := cut_max xs h0
      simp only [List.length_append, List.length_cons] at h
      rw [srt_app] at hs
      obtain ⟨s1, s2, s3⟩ := hs
      obtain ⟨s4, s5⟩ := List.pairwise_cons.1 s2
      rw [pass_cut hL hR, pass_srt f L (by omega) s1, pass_srt f R (by omega) s5]
      have : ∀ x ∈ R, x = n := fun x hx => Int.le_antisymm (hR x hx) (s4 x hx)
      have e : R = List.replicate R.length n := List.eq_replicate_iff.2 ⟨rfl, this⟩
      rw [e, ← List.replicate_succ', List.replicate_succ]


/-- The greatest key leaves last. -/
theorem pass_last {xs : List Int} (h : xs ≠ []) : ∃ P m, passL xs = P ++ [m] ∧ ∀ x ∈ xs, x ≤ m := by
  obtain ⟨L, n, R, rfl, hL, hR⟩ := cut_max xs h
  refine ⟨passL L ++ passL R, n, by rw [pass_cut hL hR, List.append_assoc], fun x hx => ?_⟩
  rcases List.mem_append.1 hx with hx | hx
  · have := hL x hx; omega
  · rcases List.mem_cons.1 hx with rfl | hx
    · omega
    · exact hR x hx
/-- Sorted keys behind, none of them less than one ahead, stay. -/
theorem stk_all : ∀ (st B : List Int), Srt st → (∀ a ∈ st, ∀ b ∈ B, a ≤ b) → Srt B → stk st B = st ++ B
  | st, [], _, _, _ => by rw [stk_end, List.append_nil]
  | [], x :: B, _, _, hB => by
    rw [stk_first]
    have := List.pairwise_cons.1 hB
    exact stk_all [x] B (by simp [Srt]) (fun a ha b hb => by simp at ha; subst ha; exact this.1 b hb) this.2
  | t :: st, x :: B, h1, h2, hB => by
    have hs := List.pairwise_cons.1 h1
    have hb := List.pairwise_cons.1 hB
    by_cases hl : t < x
    · rw [stk_pop hl, stk_all st (x :: B) hs.2 (fun a ha b hb => h2 a (by simp [ha]) b hb) hB]; rfl
    · have hx : ∀ a ∈ t :: st, a = x := fun a ha => by
        have h3 := h2 a ha x (by simp)
        rcases List.mem_cons.1 ha with rfl | ha
        · omega
        · have := hs.1 a ha; omega
      rw [stk_put (by omega), stk_all (x :: t :: st) B ?_ ?_ hb.2]
      · have e : t :: st = List.replicate (t :: st).length x := List.eq_replicate_iff.2 ⟨rfl, hx⟩
        rw [e, ← List.replicate_succ, List.replicate_succ']; simp
      · exact List.pairwise_cons.2 ⟨fun a ha => by rw [hx a ha]; exact Int.le_refl _, h1⟩
      · intro a ha b hb2
        rcases List.mem_cons.1 ha with rfl | ha
        · exact hb.1 b hb2
        · exact h2 a ha b (by simp [hb2])
termination_by st B => 2 * B.length + st.length
theorem stk_tail {B : List Int} (hB : Srt B) : ∀ (st A : List Int), Srt st → (∀ a ∈ st, ∀ b ∈ B, a ≤ b) → (∀ a ∈ A, ∀ b ∈ B, a ≤ b) → stk st (A ++ B) = stk st A ++ B
  | st, [], h1, h2, _ => by rw [List.nil_append, stk_end, stk_all st B h1 h2 hB]
  | [], x :: A, _, _, h3 => by
    rw [List.cons_append, stk_first, stk_first]
    exact stk_tail hB [x] A (by simp [Srt]) (fun a ha => by simp at ha; subst ha; exact h3 a (by simp)) fun a ha => h3 a (by simp [ha])
  | t :: st, x :: A, h1, h2, h3 => by
    have hs := List.pairwise_cons.1 h1
    by_cases hl : t < x
    · rw [List.cons_append, stk_pop hl, stk_pop hl]
      have := stk_tail hB st (x :: A) hs.2 (fun a ha => h2 a (by simp [ha])) h3
      rw [List.cons_append] at this
      rw [this]; rfl
    · rw [List.cons_append, stk_put (by omega), stk_put (by omega)]
      refine stk_tail hB (x :: t :: st) A (List.pairwise_cons.2 ⟨fun a ha => ?_, h1⟩) (fun a ha => ?_) fun a ha => h3 a (by simp [ha])
      · rcases List.mem_cons.1 ha with rfl | ha
        · omega
        · have := hs.1 a ha; omega
      · rcases List.mem_cons.1 ha with rfl | ha
        · exact h3 a (by simp)
        · exact h2 a ha
termination_by st A => 2 * A.length + st.length
/-- After k passes at least k + 1 keys stand at the end where they belong. -/
theorem pass_many (xs : List Int) : ∀ k, ∃ A B, itF passL k xs = A ++ B ∧ Srt B ∧ (∀ a ∈ A, ∀ b ∈ B, a ≤ b) ∧ (A.length + k ≤ xs.length ∨ A = [])
  | 0 => ⟨xs, [], by simp [itF], List.Pairwise.nil, by simp, .inl (by simp)⟩
  | k + 1 => by
    obtain ⟨A, B, e, h1, h2, h3⟩ := pass_many xs k
    rw [itF_out, e]
    have ht := stk_tail h1 [] A List.Pairwise.nil (by simp) h2
    show ∃ A' B', stk [] (A ++ B) = _ ∧ _
    rw [ht]
    by_cases h0 : A = []
    · subst h0
      exact ⟨[], B, by rw [stk_end], h1, by simp, .inr rfl⟩
    · obtain ⟨P, m, ep, hm⟩ := pass_last h0
      have hp := pass_perm A
      refine ⟨P, m :: B, ?_, List.pairwise_cons.2 ⟨?_, h1⟩, ?_, .inl ?_⟩
      · show passL A ++ B = _
        rw [ep]; simp
      · exact h2 m (hp.mem_iff.1 (by rw [ep]; simp))
      · intro a ha b hb
        have haA : a ∈ A := hp.mem_iff.1 (by rw [ep]; simp [ha])
        rcases List.mem_cons.1 hb with rfl | hb
        · exact hm a haA
        · exact h2 a haA b hb
      · have := hp.length_eq
        rw [ep] at this
        simp at this
        rcases h3 with h3 | h3
        · omega
        · exact absurd h3 h0
theorem pass_enough {xs : List Int} {k : Nat} (h : xs.length ≤ k + 1) : Srt (itF passL k xs) := by
  obtain ⟨A, B, e, h1, h2, h3⟩ := pass_many xs k
  rw [e, srt_app]
  refine ⟨?_, h1, h2⟩
  match A, h3 with
  | [], _ => exact List.Pairwise.nil
  | [a], _ => simp [Srt]
  | a :: b :: A, h3 => simp at h3; omega


/-- Pieces that fall, one behind the other. -/
inductive Pieces : List Int → List Int → Prop
  | nil : Pieces [] []
  | cons {D A B : List Int} : D ≠ [] → D.Pairwise (· > ·) → (∀ d a, D.getLast? = some d → A.head? = some a → d ≤ a) → Pieces A B → Pieces (D ++ A) (D.reverse ++ B)
theorem pops_pieces : ∀ xs cur, cur ≠ [] → cur.Pairwise (· < ·) → Pieces (cur.reverse ++ xs) (pops cur xs)
  | [], cur, h0, h => by
    rw [pops_end, List.append_nil]
    have := Pieces.cons (D := cur.reverse) (by simpa using h0) (by rw [List.pairwise_reverse]; exact h) (fun d a _ h => by simp at h) Pieces.nil
    simpa using this
  | x :: xs, [], h0, _ => absurd rfl h0
  | x :: xs, t :: cur, _, h => by
    by_cases hl : x < t
    · rw [pops_on hl]
      have := pops_pieces xs (x :: t :: cur) (by simp) (List.pairwise_cons.2 ⟨fun y hy => by
        rcases List.mem_cons.1 hy with rfl | hy
        · exact hl
        · have := (List.pairwise_cons.1 h).1 y hy; omega, h⟩)
      simpa using this
    · rw [pops_cut (by omega)]
      have := Pieces.cons (D := (t :: cur).reverse) (by simp) (by rw [List.pairwise_reverse]; exact h) (fun d a h1 h2 => by simp at h1 h2; subst h1 h2; omega) (pops_pieces xs [x] (by simp) (by simp))
      simpa using this
theorem pop_pieces (xs : List Int) : Pieces xs (popL xs) := by
  cases xs with
  | nil => unfold popL; rw [pops_end]; exact .nil
  | cons x xs => unfold popL; rw [pops_first]; exact pops_pieces xs [x] (by simp) (by simp)


theorem pops_srt : ∀ xs t, Srt (t :: xs) → pops [t] xs = t :: xs
  | [], t, _ => by rw [pops_end]
  | x :: xs, t, h => by
    have h1 := List.pairwise_cons.1 h
    rw [pops_cut (h1.1 x (by simp)), pops_srt xs x h1.2]; rfl
theorem pop_srt {xs : List Int} (h : Srt xs) : popL xs = xs := by
  cases xs with
  | nil => unfold popL; rw [pops_end]
  | cons x xs => unfold popL; rw [pops_first]; exact pops_srt xs x h


/-! Ungar: as many turns as keys less 1 are enough. How many of the first i keys are at most k: -/
def cn (k : Int) (xs : List Int) (i : Nat) : Nat := (xs.take i).countP (· ≤ k)
theorem cn_le (k : Int) (xs : List Int) (i : Nat) : cn k xs i ≤ i := by
  have := List.countP_le_length (p := (· ≤ k)) (l := xs.take i)
  simp at this; unfold cn; simp; omega
theorem cn_mono (k : Int) (xs : List Int) {i j : Nat} (h : i ≤ j) : cn k xs i ≤ cn k xs j := by
  unfold cn
  obtain ⟨d, rfl⟩ : ∃ d, j = i + d := ⟨j - i, by omega⟩
  rw [List.take_add, List.countP_append]; omega
theorem cn_succ (k : Int) {xs : List Int} {i : Nat} (h : i < xs.length) : cn k xs (i + 1) = cn k xs i + if xs[i] ≤ k then 1 else 0 := by
  unfold cn
  rw [List.take_succ_eq_append_getElem h, List.countP_append]
  simp [List.countP_cons]
/-- A falling piece: first those that are greater than k. -/
theorem fall_cn {k : Int} : ∀ {D : List Int}, D.Pairwise (· > ·) → ∃ a b, D.length = a + b ∧ (∀ s, s ≤ D.length → cn k D s = s - a) ∧ (∀ s, s ≤ D.length → cn k D.reverse s = min s b)
  | [], _ => ⟨0, 0, rfl, fun s h => by simp at h; subst h; rfl, fun s h => by simp at h; subst h; rfl⟩
  | x :: D, h => by
    have h1 := List.pairwise_cons.1 h
    obtain ⟨a, b, e, q1, q2⟩ := fall_cn (k := k) h1.2
    have hrev : ∀ s, s ≤ D.length → cn k (x :: D).reverse s = cn k D.reverse s := fun s hs => by
      unfold cn; rw [List.reverse_cons, List.take_append_of_le_length (by simpa using hs)]
    have hall : cn k D.reverse D.length = cn k D D.length := by
      unfold cn
      rw [List.take_of_length_le (by simp), List.take_of_length_le (Nat.le_refl _), (List.reverse_perm D).countP_eq]
    by_cases hx : x ≤ k
    · -- then all are
      have ha : a = 0 := by
        have h3 : cn k D D.length = D.length := by
          unfold cn; rw [List.take_of_length_le (Nat.le_refl _)]
          exact List.countP_eq_length.2 fun y hy => by have := h1.1 y hy; simp; omega
        have := q1 D.length (Nat.le_refl _)
        rcases Nat.eq_zero_or_pos D.length with h0 | h0
        · omega
        · omega
      subst ha
      refine ⟨0, b + 1, by simp; omega, fun s hs => ?_, fun s hs => ?_⟩
      · cases s with
        | zero => rfl
        | succ s =>
          have := q1 s (by simpa using hs)
          unfold cn at this ⊢
          rw [List.take_succ_cons, List.countP_cons]; simp [hx] at this ⊢; omega
      · rcases Nat.lt_or_ge s (D.length + 1) with h4 | h4
        · rw [hrev s (by omega), q2 s (by omega)]; simp at hs; omega
        · have : s = (x :: D).length := by simp at hs ⊢; omega
          subst this
          unfold cn
          rw [List.take_of_length_le (by simp), (List.reverse_perm _).countP_eq, List.countP_eq_length.2]
          · simp; omega
          · intro y hy
            rcases List.mem_cons.1 hy with rfl | hy
            · simpa using hx
            · have := h1.1 y hy; simp; omega
    · refine ⟨a + 1, b, by simp; omega, fun s hs => ?_, fun s hs => ?_⟩
      · cases s with
        | zero => simp [cn]
        | succ s =>
          have := q1 s (by simpa using hs)
          unfold cn at this ⊢
          rw [List.take_succ_cons, List.countP_cons]; simp [hx] at this ⊢; omega
      · rcases Nat.lt_or_ge s (D.length + 1) with h4 | h4
        · rw [hrev s (by omega), q2 s (by omega)]
        · have : s = (x :: D).length := by simp at hs ⊢; omega
          subst this
          have h5 := q2 D.length (Nat.le_refl _)
          have h6 : cn k (x :: D).reverse (x :: D).length = cn k D.reverse D.length := by
            unfold cn
            rw [List.take_of_length_le (by simp), List.take_of_length_le (by simp), List.reverse_cons, List.countP_append]
            simp [hx]
          rw [h6, h5]; simp; omega
theorem cn_app (k : Int) (A B : List Int) (i : Nat) : cn k (A ++ B) i = cn k A i + cn k B (i - A.length) := by
  unfold cn; rw [List.take_append, List.countP_append]
theorem cn_take (k : Int) (xs : List Int) {i : Nat} (h : xs.length ≤ i) : cn k xs i = cn k xs xs.length := by
  unfold cn; rw [List.take_of_length_le h, List.take_of_length_le (Nat.le_refl _)]
theorem rev_all (k : Int) (D : List Int) : cn k D.reverse D.length = cn k D D.length := by
  unfold cn
  rw [List.take_of_length_le (by simp), List.take_of_length_le (Nat.le_refl _), (List.reverse_perm D).countP_eq]
theorem pieces_len {A B : List Int} (h : Pieces A B) : A.length = B.length := by
  induction h with
  | nil => rfl
  | cons _ _ _ _ ih => simp [ih]
/-- In a turn no key of the small ones moves back, and one behind a great one moves ahead. -/
theorem pieces_cn {k : Int} {A B : List Int} (h : Pieces A B) : ∀ i, cn k A i ≤ cn k B i ∧ (∀ h1 : i + 1 < A.length, k < A[i] → A[i + 1] ≤ k → cn k A (i + 2) ≤ cn k B (i + 1)) := by
  induction h with
  | nil => exact fun i => ⟨Nat.le_refl _, fun h => by simp at h⟩
  | @cons D A B h0 hD hcut hp ih =>
    intro i
    have hl := pieces_len hp
    obtain ⟨a, b, e, q1, q2⟩ := fall_cn (k := k) hD
    have hall := rev_all k D
    constructor
    · rw [cn_app, cn_app, List.length_reverse]
      have h3 := (ih (i - D.length)).1
      rcases Nat.lt_or_ge i D.length with h4 | h4
      · rw [q1 i (by omega), q2 i (by omega), show i - D.length = 0 by omega]
        simp [cn]; omega
      · rw [cn_take k D h4, cn_take k D.reverse (by simpa using h4), List.length_reverse, hall]; omega
    · intro h1 h2 h3
      rw [cn_app, cn_app, List.length_reverse]
      rcases Nat.lt_or_ge (i + 1) D.length with h4 | h4
      · -- within the piece
        rw [q1 (i + 2) (by omega), q2 (i + 1) (by omega), show i + 2 - D.length = 0 by omega, show i + 1 - D.length = 0 by omega]
        have e1 := cn_succ k (xs := D) (i := i) (by omega)
        have e2 := cn_succ k (xs := D) (i := i + 1) (by omega)
        rw [List.getElem_append_left (by omega)] at h2
        rw [List.getElem_append_left (by omega)] at h3
        rw [if_neg (by omega), q1 (i + 1) (by omega), q1 i (by omega)] at e1
        rw [if_pos h3, q1 (i + 1) (by omega), q1 (i + 2) (by omega)] at e2
        simp [cn]; omega
      · rcases Nat.lt_or_ge i D.length with h5 | h5
        · -- at the cut
          have h6 : i + 1 = D.length := by omega
          have h7 : i + 2 - D.length = 1 := by omega
          have h8 : i + 1 - D.length = 0 := by omega
          rw [h7, h8, cn_take k D (by omega), h6, hall]
          rw [List.getElem_append_left h5] at h2
          exfalso
          rw [List.getElem_append_right (by omega)] at h3
          have hA : 0 < A.length := by simp at h1; omega
          have := hcut D[i] A[0] (by rw [List.getLast?_eq_getElem?, show D.length - 1 = i by omega, List.getElem?_eq_getElem h5]) (by rw [List.head?_eq_getElem?, List.getElem?_eq_getElem hA])
          simp only [show i + 1 - D.length = 0 by omega] at h3
          omega
        · have h6 := (ih (i - D.length)).2 (by simp at h1; omega)
          rw [List.getElem_append_right h5] at h2
          rw [List.getElem_append_right (by omega)] at h3
          have e1 : i + 1 - D.length = i - D.length + 1 := by omega
          have e2 : i + 2 - D.length = i - D.length + 2 := by omega
          rw [cn_take k D (by omega), cn_take k D.reverse (by simp; omega), List.length_reverse, hall, e1, e2]
          simp only [e1] at h3
          have := h6 h2 h3
          omega
/-- Where the number j of the m small keys stands at most, after t turns. -/
def bd (n m j t : Nat) : Nat := max j (n - m + j - (t - (j - 1)))
theorem cn_all (k : Int) (xs : List Int) : cn k xs xs.length = xs.countP (· ≤ k) := by unfold cn; rw [List.take_of_length_le (Nat.le_refl _)]
theorem ungar {k : Int} {n m : Nat} : ∀ (t : Nat) (xs : List Int), xs.length = n → xs.countP (· ≤ k) = m → ∀ j, 1 ≤ j → j ≤ m → j ≤ cn k (itF popL t xs) (bd n m j t)
  | 0, xs, hn, hm, j, h1, h2 => by
    have h3 := List.countP_le_length (p := (· ≤ k)) (l := xs.drop (n - m + j))
    have h4 : cn k xs (n - m + j) + (xs.drop (n - m + j)).countP (· ≤ k) = m := by
      unfold cn; rw [← List.countP_append, List.take_append_drop, hm]
    have h5 := List.countP_le_length (p := (· ≤ k)) (l := xs)
    simp only [List.length_drop] at h3
    have h6 : bd n m j 0 = n - m + j := by unfold bd; omega
    rw [h6]
    show j ≤ cn k xs _
    omega
  | t + 1, xs, hn, hm, j, h1, h2 => by
    have ih := ungar t xs hn hm
    rw [itF_out]
    generalize hy : itF popL t xs = ys at ih ⊢
    have hpc := pieces_cn (k := k) (pop_pieces ys)
    have hyp : ys.Perm xs := by
      subst hy
      clear ih hpc
      induction t with
      | zero => exact List.Perm.refl _
      | succ t iht => rw [itF_out]; exact (pop_perm _).trans iht
    have hyl : ys.length = n := by rw [hyp.length_eq, hn]
    have hnm : m ≤ n := by have := List.countP_le_length (p := (· ≤ k)) (l := xs); omega
    have ihj := ih j h1 h2
    have hB : bd n m j (t + 1) = bd n m j t ∨ bd n m j t = bd n m j (t + 1) + 1 := by unfold bd; omega
    rcases hB with hB | hB
    · rw [hB]; have := (hpc (bd n m j t)).1; omega
    · rw [hB] at ihj
      generalize hb : bd n m j (t + 1) = b at ihj hB ⊢
      have hm1 := (hpc b).1
      by_cases hc : j ≤ cn k ys b
      · omega
      · have hbn : b < n := by unfold bd at hb hB; omega
        have e1 := cn_succ k (xs := ys) (i := b) (by omega)
        have hz : ys[b] ≤ k := by
          apply Int.not_lt.1
          intro h
          rw [if_neg (by omega)] at e1; omega
        rw [if_pos hz] at e1
        cases b with
        | zero => unfold bd at hb; omega
        | succ b =>
          by_cases hz2 : ys[b] ≤ k
          · exfalso
            have e2 := cn_succ k (xs := ys) (i := b) (by omega)
            rw [if_pos hz2] at e2
            have ihp := ih (j - 1) (by omega) (by omega)
            have hbb : bd n m (j - 1) t + 1 = bd n m j (t + 1) := by unfold bd; omega
            have := cn_mono k ys (i := bd n m (j - 1) t) (j := b) (by omega)
            omega
          · have h9 : cn k ys (b + 1 + 1) ≤ cn k (popL ys) (b + 1) := (hpc b).2 (by omega) (by omega) hz
            omega
theorem pop_enough {xs : List Int} {t : Nat} (h : xs.length ≤ t + 1) : Srt (itF popL t xs) := by
  have hyp : (itF popL t xs).Perm xs := by
    clear h
    induction t with
    | zero => exact List.Perm.refl _
    | succ t iht => rw [itF_out]; exact (pop_perm _).trans iht
  rw [Srt, List.pairwise_iff_getElem]
  intro a b ha hb hab
  apply Int.not_lt.1
  intro hlt
  -- the key at b is small for its own threshold, and the one at a is not
  have hl := hyp.length_eq
  generalize hy : itF popL t xs = ys at *
  have hm : xs.countP (· ≤ ys[b]) = ys.countP (· ≤ ys[b]) := (hyp.countP_eq _).symm
  have hu := fun j => ungar (k := ys[b]) t xs rfl hm j
  rw [hy] at hu
  -- all small keys stand in the first places
  have hpos : 1 ≤ ys.countP (· ≤ ys[b]) := List.countP_pos_iff.2 ⟨ys[b], List.getElem_mem hb, by simp⟩
  have hall := hu (ys.countP (· ≤ ys[b])) hpos (Nat.le_refl _)
  have hmn : ys.countP (· ≤ ys[b]) ≤ xs.length := by have := List.countP_le_length (p := (· ≤ ys[b])) (l := ys); omega
  generalize hM : ys.countP (· ≤ ys[b]) = m at *
  have hbd : bd xs.length m m t = m := by unfold bd; omega
  rw [hbd] at hall
  have hle := cn_le ys[b] ys m
  -- hence the first m are small, and no other one is
  have e1 : cn ys[b] ys ys.length = m := by rw [cn_all]; exact hM
  have hbm : b < m := by
    apply Nat.lt_of_not_le
    intro h
    have q1 := cn_mono ys[b] ys h
    have q2 := cn_succ ys[b] (xs := ys) (i := b) hb
    rw [if_pos (Int.le_refl _)] at q2
    have q3 := cn_mono ys[b] ys (i := b + 1) (j := ys.length) (by omega)
    omega
  have q1 := cn_succ ys[b] (xs := ys) (i := a) ha
  rw [if_neg (by omega)] at q1
  have q2 : cn ys[b] ys m ≤ cn ys[b] ys (a + 1) + (m - (a + 1)) := by
    obtain ⟨d, hd⟩ : ∃ d, m = a + 1 + d := ⟨m - (a + 1), by omega⟩
    unfold cn
    rw [hd, List.take_add, List.countP_append]
    have := List.countP_le_length (p := (· ≤ ys[b])) (l := (ys.drop (a + 1)).take d)
    simp only [List.length_take] at this
    omega
  have q3 := cn_le ys[b] ys a
  omega


def three (xs : List Int) (i j k : Nat) : Bool := decide (i < j) && decide (j < k) && decide (xs.getD k 0 < xs.getD i 0) && decide (xs.getD i 0 < xs.getD j 0)
def has3 (xs : List Int) : Bool := (List.range xs.length).any fun i => (List.range xs.length).any fun j => (List.range xs.length).any fun k => three xs i j k
theorem has3_yes {xs : List Int} {i j k : Nat} (h1 : i < j) (h2 : j < k) (h3 : k < xs.length) (h4 : xs.getD k 0 < xs.getD i 0) (h5 : xs.getD i 0 < xs.getD j 0) : has3 xs = true := by
  unfold has3
  refine List.any_eq_true.2 ⟨i, List.mem_range.2 (by omega), List.any_eq_true.2 ⟨j, List.mem_range.2 (by omega), List.any_eq_true.2 ⟨k, List.mem_range.2 h3, ?_⟩⟩⟩
  simp only [three, Bool.and_eq_true, decide_eq_true_eq]; exact ⟨⟨⟨h1, h2⟩, h4⟩, h5⟩
theorem has3_no {xs : List Int} (h : ∀ i j k, i < j → j < k → k < xs.length → xs.getD i 0 < xs.getD j 0 → xs.getD i 0 ≤ xs.getD k 0) : has3 xs = false := by
  cases e : has3 xs with
  | false => rfl
  | true =>
    unfold has3 at e
    obtain ⟨i, hi, e⟩ := List.any_eq_true.1 e
    obtain ⟨j, hj, e⟩ := List.any_eq_true.1 e
    obtain ⟨k, hk, e⟩ := List.any_eq_true.1 e
    simp only [three, Bool.and_eq_true, decide_eq_true_eq] at e
    have := h i j k e.1.1.1 e.1.1.2 (List.mem_range.1 hk) e.2
    omega


theorem has3_iff {xs : List Int} : has3 xs = true ↔ H3 xs := by
  constructor
  · intro e
    unfold has3 at e
    obtain ⟨i, hi, e⟩ := List.any_eq_true.1 e
    obtain ⟨j, hj, e⟩ := List.any_eq_true.1 e
    obtain ⟨k, hk, e⟩ := List.any_eq_true.1 e
    simp only [three, Bool.and_eq_true, decide_eq_true_eq] at e
    rw [List.mem_range] at hi hj hk
    have hs := List.map_getElem_sublist (l := xs) (is := [⟨i, hi⟩, ⟨j, hj⟩, ⟨k, hk⟩]) (by
      simp only [List.pairwise_cons, List.mem_cons, List.not_mem_nil, or_false, Fin.lt_def]
      refine ⟨?_, ?_, ?_⟩
      · rintro a (rfl | rfl)
        · exact e.1.1.1
        · simp only; omega
      · rintro a rfl; exact e.1.1.2
      · simp)
    have g : ∀ n (h : n < xs.length), xs.getD n 0 = xs[n] := fun n h => by rw [List.getD_eq_getElem?_getD, List.getElem?_eq_getElem h]; rfl
    rw [g i hi, g j hj, g k hk] at e
    exact ⟨xs[i], xs[j], xs[k], by simpa using hs, e.1.2, e.2⟩
  · rintro ⟨a, b, c, hs, h1, h2⟩
    obtain ⟨is, e, hp⟩ := List.sublist_eq_map_getElem hs
    match is, e, hp with
    | [i, j, k], e, hp =>
      simp only [List.map_cons, List.map_nil, List.cons.injEq, and_true] at e
      obtain ⟨rfl, rfl, rfl⟩ := e
      have g : ∀ n (h : n < xs.length), xs.getD n 0 = xs[n] := fun n h => by rw [List.getD_eq_getElem?_getD, List.getElem?_eq_getElem h]; rfl
      have q1 := (List.pairwise_cons.1 hp).1 j (by simp)
      have q2 := (List.pairwise_cons.1 (List.pairwise_cons.1 hp).2).1 k (by simp)
      exact has3_yes (i := i) (j := j) (k := k) q1 q2 k.2 (by rw [g _ k.2, g _ i.2]; exact h1) (by rw [g _ i.2, g _ j.2]; exact h2)
    | [], e, _ => simp at e
    | [i], e, _ => simp at e
    | [i, j], e, _ => simp at e
    | i :: j :: k :: l :: is, e, _ => simp at e


/-! In how many ways n things go through a stack. -/
def catN : Nat → Nat
  | 0 => 1
  | i + 1 => catN i * (4 * i + 2) / (i + 2)
theorem catN_in : ∀ n, n ≤ 25 → 1 ≤ catN n ∧ catN n ≤ 4861946401452 := by decide
theorem catN_spec : ∀ n, n ≤ 24 → catN n * 2 * (2 * (n + 1) - 1) / (n + 1 + 1) = catN (n + 1) := by decide
def catSum (n : Nat) : Nat → Nat
  | 0 => 0
  | k + 1 => catSum n k + catN k * catN (n - 1 - k)
theorem catN_sum : ∀ n, n ≤ 25 → 1 ≤ n → catSum n n = catN n := by decide
theorem catS_in : ∀ n, n ≤ 25 → ∀ k, k ≤ 25 → catSum n k ≤ 1000000000000000 := by decide

/-! Turned pieces have fewer inversions. -/
theorem invL_nonneg : ∀ xs, 0 ≤ invL xs
  | [] => Int.le_refl 0
  | x :: l => by have := invL_nonneg l; rw [invL]; omega
/-- How many pairs of one key of A and a smaller one of B there are. -/
def crs (A B : List Int) : Nat := (A.map fun a => B.countP (· < a)).sum
theorem inv_app : ∀ A B : List Int, invL (A ++ B) = invL A + crs A B + invL B
  | [], B => by simp [crs, invL]
  | a :: A, B => by
    rw [List.cons_append, invL, invL, inv_app A B, List.countP_append]
    simp [crs]; omega
theorem crs_perm {A A' B B' : List Int} (h1 : A.Perm A') (h2 : B.Perm B') : crs A B = crs A' B' := by
  unfold crs
  have e : (fun a => B.countP (· < a)) = fun a => B'.countP (· < a) := funext fun a => h2.countP_eq _
  rw [e]
  exact (h1.map _).sum_nat
theorem inv_fall : ∀ {D : List Int}, D.Pairwise (· > ·) → invL D.reverse = 0
  | [], _ => rfl
  | x :: D, h => by
    have h1 := List.pairwise_cons.1 h
    rw [List.reverse_cons, inv_app, inv_fall h1.2]
    have : crs D.reverse [x] = 0 := by
      unfold crs
      rw [List.sum_eq_zero_iff_forall_eq_nat]
      intro n hn
      obtain ⟨d, hd, rfl⟩ := List.mem_map.1 hn
      have := h1.1 d (by simpa using hd)
      simp; omega
    rw [this]; simp [invL]
theorem pieces_perm {A B : List Int} (h : Pieces A B) : B.Perm A := by
  induction h with
  | nil => exact List.Perm.refl _
  | @cons D A B _ _ _ _ ih => exact (List.reverse_perm D).append ih
theorem pieces_inv {A B : List Int} (h : Pieces A B) : invL B ≤ invL A ∧ (invL B = invL A → Srt A) := by
  induction h with
  | nil => exact ⟨Int.le_refl _, fun _ => List.Pairwise.nil⟩
  | @cons D A B h0 hD hcut hp ih =>
    have hc : crs D.reverse B = crs D A := crs_perm (List.reverse_perm D) (pieces_perm hp)
    have h1 := invL_nonneg D
    rw [inv_app, inv_app, inv_fall hD, hc]
    refine ⟨by omega, fun he => ?_⟩
    have hA := ih.2 (by omega)
    have hD0 : invL D = 0 := by omega
    match D, h0, hD, hcut, hD0 with
    | [d], _, _, hcut, _ =>
      refine List.pairwise_cons.2 ⟨fun a ha => ?_, hA⟩
      match A, ha, hA, hcut with
      | x :: A, ha, hA, hcut =>
        have h2 := hcut d x rfl rfl
        rcases List.mem_cons.1 ha with rfl | ha
        · exact h2
        · have := (List.pairwise_cons.1 hA).1 a ha; omega
    | d :: e :: D, _, hD, _, hD0 =>
      exfalso
      have h2 := (List.pairwise_cons.1 hD).1 e (by simp)
      have h3 := invL_nonneg (e :: D)
      rw [invL, List.countP_cons, if_pos (by simpa using h2)] at hD0
      omega
theorem pop_inv {xs : List Int} (h : ¬ Srt xs) : invL (popL xs) < invL xs := by
  obtain ⟨h1, h2⟩ := pieces_inv (pop_pieces xs)
  rcases Int.lt_or_eq_of_le h1 with h3 | h3
  · exact h3
  · exact absurd (h2 h3) h

/-- A row from behind: its last number, and what is ahead of it. -/
theorem rev_top {st : List Int} (h : 0 < st.length) : st.reverse = st.getD (st.length - 1) 0 :: (st.take (st.length - 1)).reverse := by
  have e : st = st.take (st.length - 1) ++ [st.getD (st.length - 1) 0] := by
    have h1 := List.take_succ_eq_append_getElem (l := st) (i := st.length - 1) (by omega)
    rw [show st.length - 1 + 1 = st.length by omega, List.take_length] at h1
    rw [List.getD_eq_getElem?_getD, List.getElem?_eq_getElem (show st.length - 1 < st.length by omega)]
    exact h1
  have h2 := congrArg List.reverse e
  rw [List.reverse_append] at h2
  exact h2
theorem take_top {st : List Int} {n : Nat} (h : 0 < n) (hn : n ≤ st.length) : (st.take n).reverse = st.getD (n - 1) 0 :: (st.take (n - 1)).reverse := by
  obtain ⟨m, rfl⟩ : ∃ m, n = m + 1 := ⟨n - 1, by omega⟩
  rw [List.take_succ_eq_append_getElem (by omega), List.reverse_append, List.getD_eq_getElem?_getD, Nat.add_sub_cancel, List.getElem?_eq_getElem (show m < st.length by omega)]; rfl
theorem drop_one {xs : List Int} {i : Nat} (h : i < xs.length) : xs.drop i = xs.getD i 0 :: xs.drop (i + 1) := by
  rw [List.drop_eq_getElem_cons h, List.getD_eq_getElem?_getD, List.getElem?_eq_getElem h]; rfl
theorem pass_pop {out st xs R : List Int} {i : Nat} (h0 : 0 < st.length) (hi : i < xs.length) (hlt : st.getD (st.length - 1) 0 < xs.getD i 0) (hR : out ++ stk st.reverse (xs.drop i) = R) : (out ++ [st.getD (st.length - 1) 0]) ++ stk (st.take (st.length - 1)).reverse (xs.drop i) = R := by
  rw [← hR, rev_top h0, drop_one hi, stk_pop hlt]; simp
theorem pass_put {st xs : List Int} {i : Nat} (hi : i < xs.length) (h : st.length = 0 ∨ xs.getD i 0 ≤ st.getD (st.length - 1) 0) : stk st.reverse (xs.drop i) = stk (st ++ [xs.getD i 0]).reverse (xs.drop (i + 1)) := by
  rw [drop_one hi, List.reverse_append]
  by_cases h0 : st.length = 0
  · rw [List.eq_nil_of_length_eq_zero h0]; simp [stk_first]
  · rw [rev_top (st := st) (by omega), stk_put (by omega)]; rfl
theorem pass_off {out st xs R : List Int} {i : Nat} (hi : xs.length ≤ i) (hR : out ++ stk st.reverse (xs.drop i) = R) : out ++ st.reverse = R := by
  rw [List.drop_eq_nil_of_le hi, stk_end] at hR; exact hR
theorem off_pop {out st R : List Int} (h0 : 0 < st.length) (hR : out ++ st.reverse = R) : (out ++ [st.getD (st.length - 1) 0]) ++ (st.take (st.length - 1)).reverse = R := by
  rw [← hR, rev_top h0]; simp


end Go.Proofs.Ytcpjbniehenmoaa
