/- Contracts of functions of the program. -/
import Derived.Test.YthknhcgdbpgcjaaPNXa
import Derived.ScopeJumps
namespace Go.Proofs.Ythknhcgdbpgcjaa
open Go Go.Ab
set_option linter.all false
set_option maxHeartbeats 4000000

theorem specMergeTwo_sat : Sat Try.prog 66 (fun ds Q => ∃ (xs ys : List Int), ds = [.row (.ints .i64 (xs)), .row (.ints .i64 (ys))] ∧ (xs.length ≤ 100) ∧ (ys.length ≤ 100) ∧ Q (.agg [.row (.ints .i64 ((mrg xs ys).1)), .val (.int .i64 ((mrg xs ys).2)), .val (.int .i64 (((xs.length + ys.length : Nat) : Int)))])) := by
  refine sat_intro tabOk Try.func66 rfl 76 rfl [.cell 4 26] rfl ?_
  rintro ds Q W ⟨xs, ys, rfl, hlen, hlen2, hQ⟩
  refine ⟨Nat.le_of_ble_eq_true rfl, ?_⟩
  simp only [initS, initT, mat.matL, mat, Cont.len]
  repeat' (first | refine awp_seq_k fun K hK => ?_ | ((with_reducible refine hK _ ?_); clear hK K) | (clear hK K; (with_reducible refine hK _ ?_); clear hK K) | (clear hK K; clear hK K; (with_reducible refine hK _ ?_); clear hK K) | (clear hK K; clear hK K; clear hK K; (with_reducible refine hK _ ?_); clear hK K) | (clear hK K; clear hK K; clear hK K; clear hK K; (with_reducible refine hK _ ?_); clear hK K) | (clear hK K; clear hK K; clear hK K; clear hK K; clear hK K; (with_reducible refine hK _ ?_); clear hK K) | ((with_reducible refine aord_plain fun K hK => ?_); simp only [go_sem, Nat.reduceAdd, Nat.reduceMul, Nat.reduceEqDiff, Nat.reduceLT, reduceIte, reduceCtorEq]) | ((with_reducible apply aord_guard); (focus (simp only [St.ev, St.set, upd, Nat.reduceEqDiff, reduceIte, if_false, if_true]; exact rfl)); all_goals (intro hb; (try simp only [Bool.not_true, Bool.not_false] at hb); first | (cases hb; done) | ((try rw [hb]); (try simp only [Bool.not_eq_true', Bool.not_eq_false', Bool.and_eq_true, decide_eq_true_eq, decide_eq_false_iff_not, beq_iff_eq, bne_iff_ne, beq_eq_false_iff_ne, bne_eq_false_iff_eq, Int.not_lt, Int.not_le] at hb); (try (revert hb; with_reducible refine true_imp_iff.2 ?_)); first | (intro K hK; simp only [go_sem, Nat.reduceAdd, Nat.reduceMul, Nat.reduceEqDiff, Nat.reduceLT, reduceIte, reduceCtorEq]) | (simp only [St.ev, St.set, upd, Nat.reduceEqDiff, reduceIte, if_false, if_true]) | skip))) | ((with_reducible apply aord_skip); (focus (simp only [St.ev, St.set, upd, Nat.reduceEqDiff, reduceIte, if_false, if_true]; done)); (simp only [St.ev, St.set, upd, Nat.reduceEqDiff, reduceIte, if_false, if_true])) | refine awp_block ?_ | ((first | with_reducible refine aord_nil ?_ | refine awp_skip ?_ | refine awp_exit ?_ | refine awp_ret ?_); try simp only [thenA_normal, thenA_exit, thenA_goto, thenA_ret, blockA_normal, blockA_same, blockA_exit, blockA_goto, blockA_ret, Nat.reduceEqDiff, if_false, if_true, reduceIte]) | (refine awp_region tabOk rfl ?_; simp only [prep, pickO, List.map_cons, List.map_nil, List.getElem?_toArray, List.getElem?_cons_succ, List.getElem?_cons_zero, Option.bind_some, Option.map_some]) | (refine awp_region_draw (nt := 76) (id := 8) tabOk [(0, true, false), (1, true, false), (2, true, false), (3, true, false), (4, true, false), (5, true, false), (6, true, false), (7, true, false), (8, true, false), (9, true, false)] (by kernel_rfl) rfl (by kernel_rfl) ?_; simp only [prep, pickO, List.map_cons, List.map_nil, List.getElem?_toArray, List.getElem?_cons_succ, List.getElem?_cons_zero, Option.bind_some, Option.map_some]) | (refine awp_region_draw (nt := 76) (id := 10) tabOk [(0, true, false), (1, true, false), (2, true, false), (3, true, false), (4, true, false), (5, true, false), (6, false, false), (7, false, true), (8, true, false), (9, false, false)] (by kernel_rfl) rfl (by kernel_rfl) ?_; simp only [prep, pickO, List.map_cons, List.map_nil, List.getElem?_toArray, List.getElem?_cons_succ, List.getElem?_cons_zero, Option.bind_some, Option.map_some]) | (refine awp_region_draw (nt := 76) (id := 12) tabOk [(0, true, false), (1, true, false), (2, true, false), (3, true, false), (4, true, false), (5, true, false), (6, false, false), (7, false, true), (8, true, false), (9, false, false)] (by kernel_rfl) rfl (by kernel_rfl) ?_; simp only [prep, pickO, List.map_cons, List.map_nil, List.getElem?_toArray, List.getElem?_cons_succ, List.getElem?_cons_zero, Option.bind_some, Option.map_some]) | ((with_reducible apply awp_cond); (focus (simp only [St.ev, St.set, upd, Nat.reduceEqDiff, reduceIte, if_false, if_true]; exact rfl)); all_goals (intro hb; first | (cases hb; done) | ((try rw [hb]); (try simp only [decide_eq_true_eq, decide_eq_false_iff_not, beq_iff_eq, bne_iff_ne, beq_eq_false_iff_ne, bne_eq_false_iff_eq, Int.not_lt, Int.not_le, Bool.not_eq_true', Bool.not_eq_false'] at hb)))) | ((with_reducible refine And.intro ?_ ?_); (focus omega)) | ((with_reducible refine And.intro ?_ ?_); (focus (exact rfl))) | (refine aAppend_ints rfl rfl rfl rfl (Nat.le_of_ble_eq_true rfl) (by simp only [St.ev, St.set, upd, Nat.reduceEqDiff, reduceIte, if_false, if_true]; exact rfl) (by simp only [St.ev, St.set, upd, Nat.reduceEqDiff, reduceIte, if_false, if_true]; exact rfl) rfl (by first | decide | omega | (simp; done) | fail) ?_ ?_ ?_ ?_; (focus (first | rfl | omega | (simp; done) | (simp; omega) | (simp [szOf, tab]; done) | (simp [szOf, tab]; omega))); (focus (first | rfl | omega | (simp; done) | (simp; omega) | (simp [szOf, tab]; done) | (simp [szOf, tab]; omega))); (focus (first | rfl | omega | (simp; done) | (simp; omega) | (simp [szOf, tab]; done) | (simp [szOf, tab]; omega))); (try simp only [go_sem, Nat.reduceAdd, Nat.reduceMul, Nat.reduceEqDiff, Nat.reduceLT, reduceIte, reduceCtorEq])) | (refine aAppend_none rfl rfl rfl rfl (Nat.le_of_ble_eq_true rfl) (by simp only [St.ev, St.set, upd, Nat.reduceEqDiff, reduceIte, if_false, if_true]; exact rfl) ?_ ?_ ?_; (focus (first | rfl | omega | (simp; done) | (simp; omega) | (simp [szOf, tab]; done) | (simp [szOf, tab]; omega))); (focus (first | rfl | omega | (simp; done) | (simp; omega) | (simp [szOf, tab]; done) | (simp [szOf, tab]; omega))); (try simp only [go_sem, Nat.reduceAdd, Nat.reduceMul, Nat.reduceEqDiff, Nat.reduceLT, reduceIte, reduceCtorEq])) | (refine aStoreAll_ints (by simp only [St.ev, St.set, upd, Nat.reduceEqDiff, reduceIte, if_false, if_true]; exact rfl) ?_ ?_ ?_ ?_; (focus (first | rfl | omega | (simp; done) | (simp; omega) | (simp [szOf, tab]; done) | (simp [szOf, tab]; omega))); (focus (first | rfl | omega | (simp; done) | (simp; omega) | (simp [szOf, tab]; done) | (simp [szOf, tab]; omega))); (focus (first | rfl | omega | (simp; done) | (simp; omega) | (simp [szOf, tab]; done) | (simp [szOf, tab]; omega))); (try simp only [go_sem, Nat.reduceAdd, Nat.reduceMul, Nat.reduceEqDiff, Nat.reduceLT, reduceIte, reduceCtorEq])) | (simp only [rBuild]; simp only [fillA, Nat.reduceLeDiff, List.getElem?_cons_zero, List.getElem?_cons_succ, List.drop_succ_cons, List.drop_nil, List.take_nil, List.cons_append, Option.isSome_some, go_sem, Nat.reduceAdd, Nat.reduceMul, Nat.reduceEqDiff, Nat.reduceLT, reduceIte, reduceCtorEq]) | (refine aStoreAll_cells (by simp only [St.ev, St.set, upd, Nat.reduceEqDiff, reduceIte, if_false, if_true]; exact rfl) ?_ ?_ ?_ ?_ ?_; (focus (first | rfl | omega | (simp; done) | (simp; omega) | (simp [szOf, tab]; done) | (simp [szOf, tab]; omega))); (focus (first | rfl | omega | (simp; done) | (simp; omega) | (simp [szOf, tab]; done) | (simp [szOf, tab]; omega))); (focus (first | rfl | omega | (simp; done) | (simp; omega) | (simp [szOf, tab]; done) | (simp [szOf, tab]; omega))); (focus (first | rfl | (simp [AV.cell, Value.oneCell']; done))); (try simp only [go_sem, Nat.reduceAdd, Nat.reduceMul, Nat.reduceEqDiff, Nat.reduceLT, reduceIte, reduceCtorEq])) | (with_reducible refine And.intro (fun hb => ?_) (fun hb => ?_)) | (exfalso; omega) | fail)
  refine awp_loopE (α := (Nat) × (Nat) × (List Int) × (Int)) (fun s p => ⟨(upd (upd (upd (upd (upd (upd bot 0 (s.tmps 0)) 1 (s.tmps 1)) 4 (s.tmps 4)) 5 (s.tmps 5)) 6 (.val (.int .i64 ((p.1))))) 7 (.val (.int .i64 ((p.2.1))))), (upd (upd s.heap 3 (some ⟨true, .ints .i64 ((p.2.2.1))⟩)) 4 (some ⟨true, .cells ([.sl 3 0 (p.2.2.1).length 1 none, .val (.int .i64 (p.2.2.2)), .val (.int .i64 (((p.1) + (p.2.1) : Nat) : Int))])⟩)), s.next⟩) _ (fun p => by simp only [St.ev, St.set, upd, Nat.reduceEqDiff, reduceIte, if_false, if_true]; exact rfl) (fun p => ((p.1) ≤ xs.length) ∧ ((p.2.1) ≤ ys.length) ∧ ((p.2.2.1).length = (p.1) + (p.2.1)) ∧ (0 ≤ (p.2.2.2) ∧ (p.2.2.2) ≤ (p.1) + (p.2.1)) ∧ ((p.2.2.1) ++ (mrg (xs.drop (p.1)) (ys.drop (p.2.1))).1 = (mrg xs ys).1) ∧ ((p.2.2.2) + (mrg (xs.drop (p.1)) (ys.drop (p.2.1))).2 = (mrg xs ys).2)) (fun p => xs.length + ys.length - ((p.1) + (p.2.1))) (0, 0, [], 0) ?_ ?_ ?_
  · (try simp only); (refine ⟨?_, ?_, ?_, ?_, ?_, ?_⟩ <;> (first | omega | rfl | (simp; done) | (simp only; omega)))
  · (apply Wk.same; (case' h2 => (focus ((repeat' (with_reducible first | exact HeapX.bot | (apply HeapX.skip; (case hx => (simp; done))) | apply HeapX.none | apply HeapX.upd)); all_goals (first | rfl | exact Nat.le_of_ble_eq_true rfl | (simp only [St.set, St.ev, upd, ren, renL, id, Nat.reduceEqDiff, reduceIte, ContLe]; done) | (exact And.intro rfl (And.intro (by first | exact Nat.le_of_ble_eq_true rfl | omega) (by first | exact Nat.le_of_ble_eq_true rfl | omega))) | (first | (simp only [St.set, St.ev, upd, ren, renL, id, Nat.reduceEqDiff, reduceIte]; exact contLe_nil) | ((repeat' (first | exact contLe_nil | refine contLe_cons (.inr ⟨?_, rfl⟩) ?_)); all_goals (first | rfl | (simp only [St.set, St.ev, upd, ren, renL, id, Nat.reduceEqDiff, reduceIte]; done) | ((try simp only [St.set, St.ev, upd, ren, renL, id, Nat.reduceEqDiff, reduceIte]); first | (with_reducible exact av_int (by omega)) | (with_reducible exact av_sl (by first | omega | (simp; done) | (simp; omega)) (by first | omega | (simp; done) | (simp; omega)))) | (simp only [St.set, St.ev, upd, ren, renL, id, Nat.reduceEqDiff, reduceIte, Int.natCast_add, Int.natCast_one, Int.cast_ofNat_Int, Int.natCast_zero]; done) | (simp only [St.set, St.ev, upd, ren, renL, id, Nat.reduceEqDiff, reduceIte]) | skip); done)) | (simp only [St.set, St.ev, upd, ren, renL, id, Nat.reduceEqDiff, reduceIte, ContLe]) | skip)))); (case' h1 => (focus ((repeat' (with_reducible first | exact TmpLe.bot | refine TmpLe.upd ?_ rfl ?_)); all_goals (first | rfl | (simp only [St.set, St.ev, upd, ren, renL, id, Nat.reduceEqDiff, reduceIte]; done) | ((try simp only [St.set, St.ev, upd, ren, renL, id, Nat.reduceEqDiff, reduceIte]); first | (with_reducible exact av_int (by omega)) | (with_reducible exact av_sl (by first | omega | (simp; done) | (simp; omega)) (by first | omega | (simp; done) | (simp; omega)))) | (simp only [St.set, St.ev, upd, ren, renL, id, Nat.reduceEqDiff, reduceIte, Int.natCast_add, Int.natCast_one, Int.cast_ofNat_Int, Int.natCast_zero]; done) | (simp only [St.set, St.ev, upd, ren, renL, id, Nat.reduceEqDiff, reduceIte]) | skip)))); (case h3 => (focus (first | (simp only [id, List.map_cons, List.map_nil]; decide) | decide | (simp; done) | (simp; omega) | fail))); (case h4 => (intro o l h; first | (cases h; done) | (have hlt0 := m0_lt (by assumption) h; (try (simp only at hlt0)); first | omega | (simp only; omega) | exact ⟨by (first | rfl | (simp only [id]; done) | ((repeat rw [if_neg (by omega)]); done)), by first | omega | (simp only; omega)⟩))))
  rintro ⟨i, k, zs, q⟩ ⟨hi, hk, hz, hq, hR1, hR2⟩
  try simp only at hi hk hz hq hR1 hR2
  have hA1 : i < xs.length → k < ys.length → xs.getD i 0 ≤ ys.getD k 0 → (zs ++ [xs.getD i 0]) ++ (mrg (xs.drop (i + 1)) (ys.drop k)).1 = (mrg xs ys).1 ∧ q + 1 + (mrg (xs.drop (i + 1)) (ys.drop k)).2 = (mrg xs ys).2 := fun h1 h2 h3 => by
    rw [mrg_a h1 (.inr h3), if_pos h2] at hR1 hR2; exact ⟨by rw [← hR1]; simp, by rw [← hR2]; simp only; omega⟩
  have hA0 : i < xs.length → ys.length ≤ k → (zs ++ [xs.getD i 0]) ++ (mrg (xs.drop (i + 1)) (ys.drop k)).1 = (mrg xs ys).1 ∧ q + (mrg (xs.drop (i + 1)) (ys.drop k)).2 = (mrg xs ys).2 := fun h1 h2 => by
    rw [mrg_a h1 (.inl h2), if_neg (by omega)] at hR1 hR2; exact ⟨by rw [← hR1]; simp, by rw [← hR2]; simp only; omega⟩
  have hB1 : k < ys.length → i < xs.length → ys.getD k 0 < xs.getD i 0 → (zs ++ [ys.getD k 0]) ++ (mrg (xs.drop i) (ys.drop (k + 1))).1 = (mrg xs ys).1 ∧ q + 1 + (mrg (xs.drop i) (ys.drop (k + 1))).2 = (mrg xs ys).2 := fun h1 h2 h3 => by
    rw [mrg_b h1 (.inr h3), if_pos h2] at hR1 hR2; exact ⟨by rw [← hR1]; simp, by rw [← hR2]; simp only; omega⟩
  have hB0 : k < ys.length → xs.length ≤ i → (zs ++ [ys.getD k 0]) ++ (mrg (xs.drop i) (ys.drop (k + 1))).1 = (mrg xs ys).1 ∧ q + (mrg (xs.drop i) (ys.drop (k + 1))).2 = (mrg xs ys).2 := fun h1 h2 => by
    rw [mrg_b h1 (.inl h2), if_neg (by omega)] at hR1 hR2; exact ⟨by rw [← hR1]; simp, by rw [← hR2]; simp only; omega⟩
  have hend : xs.length ≤ i → ys.length ≤ k → mrg xs ys = (zs, q) := fun h1 h2 => by
    rw [List.drop_eq_nil_of_le h1, List.drop_eq_nil_of_le h2, nil_mrg] at hR1 hR2
    simp only [List.append_nil, Int.add_zero] at hR1 hR2
    rw [hR1, hR2]
  clear hR1 hR2
  repeat' (first | refine awp_seq_k fun K hK => ?_ | ((with_reducible refine hK _ ?_); clear hK K) | (clear hK K; (with_reducible refine hK _ ?_); clear hK K) | (clear hK K; clear hK K; (with_reducible refine hK _ ?_); clear hK K) | (clear hK K; clear hK K; clear hK K; (with_reducible refine hK _ ?_); clear hK K) | (clear hK K; clear hK K; clear hK K; clear hK K; (with_reducible refine hK _ ?_); clear hK K) | (clear hK K; clear hK K; clear hK K; clear hK K; clear hK K; (with_reducible refine hK _ ?_); clear hK K) | ((with_reducible refine aord_plain fun K hK => ?_); simp only [go_sem, Nat.reduceAdd, Nat.reduceMul, Nat.reduceEqDiff, Nat.reduceLT, reduceIte, reduceCtorEq]) | ((with_reducible apply aord_guard); (focus (simp only [St.ev, St.set, upd, Nat.reduceEqDiff, reduceIte, if_false, if_true]; exact rfl)); all_goals (intro hb; (try simp only [Bool.not_true, Bool.not_false] at hb); first | (cases hb; done) | ((try rw [hb]); (try simp only [Bool.not_eq_true', Bool.not_eq_false', Bool.and_eq_true, decide_eq_true_eq, decide_eq_false_iff_not, beq_iff_eq, bne_iff_ne, beq_eq_false_iff_ne, bne_eq_false_iff_eq, Int.not_lt, Int.not_le] at hb); (try (revert hb; with_reducible refine true_imp_iff.2 ?_)); first | (intro K hK; simp only [go_sem, Nat.reduceAdd, Nat.reduceMul, Nat.reduceEqDiff, Nat.reduceLT, reduceIte, reduceCtorEq]) | (simp only [St.ev, St.set, upd, Nat.reduceEqDiff, reduceIte, if_false, if_true]) | skip))) | ((with_reducible apply aord_skip); (focus (simp only [St.ev, St.set, upd, Nat.reduceEqDiff, reduceIte, if_false, if_true]; done)); (simp only [St.ev, St.set, upd, Nat.reduceEqDiff, reduceIte, if_false, if_true])) | refine awp_block ?_ | ((first | with_reducible refine aord_nil ?_ | refine awp_skip ?_ | refine awp_exit ?_ | refine awp_ret ?_); try simp only [thenA_normal, thenA_exit, thenA_goto, thenA_ret, blockA_normal, blockA_same, blockA_exit, blockA_goto, blockA_ret, Nat.reduceEqDiff, if_false, if_true, reduceIte]) | (refine awp_region tabOk rfl ?_; simp only [prep, pickO, List.map_cons, List.map_nil, List.getElem?_toArray, List.getElem?_cons_succ, List.getElem?_cons_zero, Option.bind_some, Option.map_some]) | (refine awp_region_draw (nt := 76) (id := 8) tabOk [(0, true, false), (1, true, false), (2, true, false), (3, true, false), (4, true, false), (5, true, false), (6, true, false), (7, true, false), (8, true, false), (9, true, false)] (by kernel_rfl) rfl (by kernel_rfl) ?_; simp only [prep, pickO, List.map_cons, List.map_nil, List.getElem?_toArray, List.getElem?_cons_succ, List.getElem?_cons_zero, Option.bind_some, Option.map_some]) | (refine awp_region_draw (nt := 76) (id := 10) tabOk [(0, true, false), (1, true, false), (2, true, false), (3, true, false), (4, true, false), (5, true, false), (6, false, false), (7, false, true), (8, true, false), (9, false, false)] (by kernel_rfl) rfl (by kernel_rfl) ?_; simp only [prep, pickO, List.map_cons, List.map_nil, List.getElem?_toArray, List.getElem?_cons_succ, List.getElem?_cons_zero, Option.bind_some, Option.map_some]) | (refine awp_region_draw (nt := 76) (id := 12) tabOk [(0, true, false), (1, true, false), (2, true, false), (3, true, false), (4, true, false), (5, true, false), (6, false, false), (7, false, true), (8, true, false), (9, false, false)] (by kernel_rfl) rfl (by kernel_rfl) ?_; simp only [prep, pickO, List.map_cons, List.map_nil, List.getElem?_toArray, List.getElem?_cons_succ, List.getElem?_cons_zero, Option.bind_some, Option.map_some]) | ((with_reducible apply awp_cond); (focus (simp only [St.ev, St.set, upd, Nat.reduceEqDiff, reduceIte, if_false, if_true]; exact rfl)); all_goals (intro hb; first | (cases hb; done) | ((try rw [hb]); (try simp only [decide_eq_true_eq, decide_eq_false_iff_not, beq_iff_eq, bne_iff_ne, beq_eq_false_iff_ne, bne_eq_false_iff_eq, Int.not_lt, Int.not_le, Bool.not_eq_true', Bool.not_eq_false'] at hb)))) | ((with_reducible refine And.intro ?_ ?_); (focus omega)) | ((with_reducible refine And.intro ?_ ?_); (focus (exact rfl))) | (refine aAppend_ints rfl rfl rfl rfl (Nat.le_of_ble_eq_true rfl) (by simp only [St.ev, St.set, upd, Nat.reduceEqDiff, reduceIte, if_false, if_true]; exact rfl) (by simp only [St.ev, St.set, upd, Nat.reduceEqDiff, reduceIte, if_false, if_true]; exact rfl) rfl (by first | decide | omega | (simp; done) | fail) ?_ ?_ ?_ ?_; (focus (first | rfl | omega | (simp; done) | (simp; omega) | (simp [szOf, tab]; done) | (simp [szOf, tab]; omega))); (focus (first | rfl | omega | (simp; done) | (simp; omega) | (simp [szOf, tab]; done) | (simp [szOf, tab]; omega))); (focus (first | rfl | omega | (simp; done) | (simp; omega) | (simp [szOf, tab]; done) | (simp [szOf, tab]; omega))); (try simp only [go_sem, Nat.reduceAdd, Nat.reduceMul, Nat.reduceEqDiff, Nat.reduceLT, reduceIte, reduceCtorEq])) | (refine aAppend_none rfl rfl rfl rfl (Nat.le_of_ble_eq_true rfl) (by simp only [St.ev, St.set, upd, Nat.reduceEqDiff, reduceIte, if_false, if_true]; exact rfl) ?_ ?_ ?_; (focus (first | rfl | omega | (simp; done) | (simp; omega) | (simp [szOf, tab]; done) | (simp [szOf, tab]; omega))); (focus (first | rfl | omega | (simp; done) | (simp; omega) | (simp [szOf, tab]; done) | (simp [szOf, tab]; omega))); (try simp only [go_sem, Nat.reduceAdd, Nat.reduceMul, Nat.reduceEqDiff, Nat.reduceLT, reduceIte, reduceCtorEq])) | (refine aStoreAll_ints (by simp only [St.ev, St.set, upd, Nat.reduceEqDiff, reduceIte, if_false, if_true]; exact rfl) ?_ ?_ ?_ ?_; (focus (first | rfl | omega | (simp; done) | (simp; omega) | (simp [szOf, tab]; done) | (simp [szOf, tab]; omega))); (focus (first | rfl | omega | (simp; done) | (simp; omega) | (simp [szOf, tab]; done) | (simp [szOf, tab]; omega))); (focus (first | rfl | omega | (simp; done) | (simp; omega) | (simp [szOf, tab]; done) | (simp [szOf, tab]; omega))); (try simp only [go_sem, Nat.reduceAdd, Nat.reduceMul, Nat.reduceEqDiff, Nat.reduceLT, reduceIte, reduceCtorEq])) | (simp only [rBuild]; simp only [fillA, Nat.reduceLeDiff, List.getElem?_cons_zero, List.getElem?_cons_succ, List.drop_succ_cons, List.drop_nil, List.take_nil, List.cons_append, Option.isSome_some, go_sem, Nat.reduceAdd, Nat.reduceMul, Nat.reduceEqDiff, Nat.reduceLT, reduceIte, reduceCtorEq]) | (refine aStoreAll_cells (by simp only [St.ev, St.set, upd, Nat.reduceEqDiff, reduceIte, if_false, if_true]; exact rfl) ?_ ?_ ?_ ?_ ?_; (focus (first | rfl | omega | (simp; done) | (simp; omega) | (simp [szOf, tab]; done) | (simp [szOf, tab]; omega))); (focus (first | rfl | omega | (simp; done) | (simp; omega) | (simp [szOf, tab]; done) | (simp [szOf, tab]; omega))); (focus (first | rfl | omega | (simp; done) | (simp; omega) | (simp [szOf, tab]; done) | (simp [szOf, tab]; omega))); (focus (first | rfl | (simp [AV.cell, Value.oneCell']; done))); (try simp only [go_sem, Nat.reduceAdd, Nat.reduceMul, Nat.reduceEqDiff, Nat.reduceLT, reduceIte, reduceCtorEq])) | (with_reducible refine And.intro (fun hb => ?_) (fun hb => ?_)) | (exfalso; omega) | fail)
  all_goals first | (focus ((have hx := hA1 (by omega) (by omega) (by omega); (refine Exists.intro (i + 1, k, zs ++ [xs.getD i 0], q + 1) ?_); (refine nxt ?_ ?_ ?_); (focus ((apply Wk.named (fun o => if o = 3 then 6 else o); (case' h2 => (focus ((repeat' (with_reducible first | exact HeapX.bot | (apply HeapX.skip; (case hx => (simp; done))) | apply HeapX.none | apply HeapX.upd)); all_goals (first | rfl | exact Nat.le_of_ble_eq_true rfl | (simp only [St.set, St.ev, upd, ren, renL, id, Nat.reduceEqDiff, reduceIte, ContLe]; done) | (exact And.intro rfl (And.intro (by first | exact Nat.le_of_ble_eq_true rfl | omega) (by first | exact Nat.le_of_ble_eq_true rfl | omega))) | (first | (simp only [St.set, St.ev, upd, ren, renL, id, Nat.reduceEqDiff, reduceIte]; exact contLe_nil) | ((repeat' (first | exact contLe_nil | refine contLe_cons (.inr ⟨?_, rfl⟩) ?_)); all_goals (first | rfl | (simp only [St.set, St.ev, upd, ren, renL, id, Nat.reduceEqDiff, reduceIte]; done) | ((try simp only [St.set, St.ev, upd, ren, renL, id, Nat.reduceEqDiff, reduceIte]); first | (with_reducible exact av_int (by omega)) | (with_reducible exact av_sl (by first | omega | (simp; done) | (simp; omega)) (by first | omega | (simp; done) | (simp; omega)))) | (simp only [St.set, St.ev, upd, ren, renL, id, Nat.reduceEqDiff, reduceIte, Int.natCast_add, Int.natCast_one, Int.cast_ofNat_Int, Int.natCast_zero]; done) | (simp only [St.set, St.ev, upd, ren, renL, id, Nat.reduceEqDiff, reduceIte]) | skip); done)) | (simp only [St.set, St.ev, upd, ren, renL, id, Nat.reduceEqDiff, reduceIte, ContLe]) | skip)))); (case' h1 => (focus ((repeat' (with_reducible first | exact TmpLe.bot | refine TmpLe.upd ?_ rfl ?_)); all_goals (first | rfl | (simp only [St.set, St.ev, upd, ren, renL, id, Nat.reduceEqDiff, reduceIte]; done) | ((try simp only [St.set, St.ev, upd, ren, renL, id, Nat.reduceEqDiff, reduceIte]); first | (with_reducible exact av_int (by omega)) | (with_reducible exact av_sl (by first | omega | (simp; done) | (simp; omega)) (by first | omega | (simp; done) | (simp; omega)))) | (simp only [St.set, St.ev, upd, ren, renL, id, Nat.reduceEqDiff, reduceIte, Int.natCast_add, Int.natCast_one, Int.cast_ofNat_Int, Int.natCast_zero]; done) | (simp only [St.set, St.ev, upd, ren, renL, id, Nat.reduceEqDiff, reduceIte]) | skip)))); (case h3 => (focus (first | (simp only [id, List.map_cons, List.map_nil]; decide) | decide | (simp; done) | (simp; omega) | fail))); (case h4 => (intro o l h; first | (cases h; done) | (have hlt0 := m0_lt (by assumption) h; (try (simp only at hlt0)); first | omega | (simp only; omega) | exact ⟨by (first | rfl | (simp only [id]; done) | ((repeat rw [if_neg (by omega)]); done)), by first | omega | (simp only; omega)⟩)))))); (focus (first | omega | (simp only; omega) | (simp only [List.length_take]; omega) | (simp; done) | (simp; omega))); ((repeat' (with_reducible apply And.intro)) <;> (first | omega | (simp only; omega) | assumption | rfl | ((try simp only); first | exact hx.1 | exact hx.2 | (simp; omega)) | fail))); done)) | (focus ((have hx := hA0 (by omega) (by omega); (refine Exists.intro (i + 1, k, zs ++ [xs.getD i 0], q) ?_); (refine nxt ?_ ?_ ?_); (focus ((apply Wk.named (fun o => if o = 3 then 6 else o); (case' h2 => (focus ((repeat' (with_reducible first | exact HeapX.bot | (apply HeapX.skip; (case hx => (simp; done))) | apply HeapX.none | apply HeapX.upd)); all_goals (first | rfl | exact Nat.le_of_ble_eq_true rfl | (simp only [St.set, St.ev, upd, ren, renL, id, Nat.reduceEqDiff, reduceIte, ContLe]; done) | (exact And.intro rfl (And.intro (by first | exact Nat.le_of_ble_eq_true rfl | omega) (by first | exact Nat.le_of_ble_eq_true rfl | omega))) | (first | (simp only [St.set, St.ev, upd, ren, renL, id, Nat.reduceEqDiff, reduceIte]; exact contLe_nil) | ((repeat' (first | exact contLe_nil | refine contLe_cons (.inr ⟨?_, rfl⟩) ?_)); all_goals (first | rfl | (simp only [St.set, St.ev, upd, ren, renL, id, Nat.reduceEqDiff, reduceIte]; done) | ((try simp only [St.set, St.ev, upd, ren, renL, id, Nat.reduceEqDiff, reduceIte]); first | (with_reducible exact av_int (by omega)) | (with_reducible exact av_sl (by first | omega | (simp; done) | (simp; omega)) (by first | omega | (simp; done) | (simp; omega)))) | (simp only [St.set, St.ev, upd, ren, renL, id, Nat.reduceEqDiff, reduceIte, Int.natCast_add, Int.natCast_one, Int.cast_ofNat_Int, Int.natCast_zero]; done) | (simp only [St.set, St.ev, upd, ren, renL, id, Nat.reduceEqDiff, reduceIte]) | skip); done)) | (simp only [St.set, St.ev, upd, ren, renL, id, Nat.reduceEqDiff, reduceIte, ContLe]) | skip)))); (case' h1 => (focus ((repeat' (with_reducible first | exact TmpLe.bot | refine TmpLe.upd ?_ rfl ?_)); all_goals (first | rfl | (simp only [St.set, St.ev, upd, ren, renL, id, Nat.reduceEqDiff, reduceIte]; done) | ((try simp only [St.set, St.ev, upd, ren, renL, id, Nat.reduceEqDiff, reduceIte]); first | (with_reducible exact av_int (by omega)) | (with_reducible exact av_sl (by first | omega | (simp; done) | (simp; omega)) (by first | omega | (simp; done) | (simp; omega)))) | (simp only [St.set, St.ev, upd, ren, renL, id, Nat.reduceEqDiff, reduceIte, Int.natCast_add, Int.natCast_one, Int.cast_ofNat_Int, Int.natCast_zero]; done) | (simp only [St.set, St.ev, upd, ren, renL, id, Nat.reduceEqDiff, reduceIte]) | skip)))); (case h3 => (focus (first | (simp only [id, List.map_cons, List.map_nil]; decide) | decide | (simp; done) | (simp; omega) | fail))); (case h4 => (intro o l h; first | (cases h; done) | (have hlt0 := m0_lt (by assumption) h; (try (simp only at hlt0)); first | omega | (simp only; omega) | exact ⟨by (first | rfl | (simp only [id]; done) | ((repeat rw [if_neg (by omega)]); done)), by first | omega | (simp only; omega)⟩)))))); (focus (first | omega | (simp only; omega) | (simp only [List.length_take]; omega) | (simp; done) | (simp; omega))); ((repeat' (with_reducible apply And.intro)) <;> (first | omega | (simp only; omega) | assumption | rfl | ((try simp only); first | exact hx.1 | exact hx.2 | (simp; omega)) | fail))); done)) | (focus ((have hx := hB1 (by omega) (by omega) (by omega); (refine Exists.intro (i, k + 1, zs ++ [ys.getD k 0], q + 1) ?_); (refine nxt ?_ ?_ ?_); (focus ((apply Wk.named (fun o => if o = 3 then 6 else o); (case' h2 => (focus ((repeat' (with_reducible first | exact HeapX.bot | (apply HeapX.skip; (case hx => (simp; done))) | apply HeapX.none | apply HeapX.upd)); all_goals (first | rfl | exact Nat.le_of_ble_eq_true rfl | (simp only [St.set, St.ev, upd, ren, renL, id, Nat.reduceEqDiff, reduceIte, ContLe]; done) | (exact And.intro rfl (And.intro (by first | exact Nat.le_of_ble_eq_true rfl | omega) (by first | exact Nat.le_of_ble_eq_true rfl | omega))) | (first | (simp only [St.set, St.ev, upd, ren, renL, id, Nat.reduceEqDiff, reduceIte]; exact contLe_nil) | ((repeat' (first | exact contLe_nil | refine contLe_cons (.inr ⟨?_, rfl⟩) ?_)); all_goals (first | rfl | (simp only [St.set, St.ev, upd, ren, renL, id, Nat.reduceEqDiff, reduceIte]; done) | ((try simp only [St.set, St.ev, upd, ren, renL, id, Nat.reduceEqDiff, reduceIte]); first | (with_reducible exact av_int (by omega)) | (with_reducible exact av_sl (by first | omega | (simp; done) | (simp; omega)) (by first | omega | (simp; done) | (simp; omega)))) | (simp only [St.set, St.ev, upd, ren, renL, id, Nat.reduceEqDiff, reduceIte, Int.natCast_add, Int.natCast_one, Int.cast_ofNat_Int, Int.natCast_zero]; done) | (simp only [St.set, St.ev, upd, ren, renL, id, Nat.reduceEqDiff, reduceIte]) | skip); done)) | (simp only [St.set, St.ev, upd, ren, renL, id, Nat.reduceEqDiff, reduceIte, ContLe]) | skip)))); (case' h1 => (focus ((repeat' (with_reducible first | exact TmpLe.bot | refine TmpLe.upd ?_ rfl ?_)); all_goals (first | rfl | (simp only [St.set, St.ev, upd, ren, renL, id, Nat.reduceEqDiff, reduceIte]; done) | ((try simp only [St.set, St.ev, upd, ren, renL, id, Nat.reduceEqDiff, reduceIte]); first | (with_reducible exact av_int (by omega)) | (with_reducible exact av_sl (by first | omega | (simp; done) | (simp; omega)) (by first | omega | (simp; done) | (simp; omega)))) | (simp only [St.set, St.ev, upd, ren, renL, id, Nat.reduceEqDiff, reduceIte, Int.natCast_add, Int.natCast_one, Int.cast_ofNat_Int, Int.natCast_zero]; done) | (simp only [St.set, St.ev, upd, ren, renL, id, Nat.reduceEqDiff, reduceIte]) | skip)))); (case h3 => (focus (first | (simp only [id, List.map_cons, List.map_nil]; decide) | decide | (simp; done) | (simp; omega) | fail))); (case h4 => (intro o l h; first | (cases h; done) | (have hlt0 := m0_lt (by assumption) h; (try (simp only at hlt0)); first | omega | (simp only; omega) | exact ⟨by (first | rfl | (simp only [id]; done) | ((repeat rw [if_neg (by omega)]); done)), by first | omega | (simp only; omega)⟩)))))); (focus (first | omega | (simp only; omega) | (simp only [List.length_take]; omega) | (simp; done) | (simp; omega))); ((repeat' (with_reducible apply And.intro)) <;> (first | omega | (simp only; omega) | assumption | rfl | ((try simp only); first | exact hx.1 | exact hx.2 | (simp; omega)) | fail))); done)) | (focus ((have hx := hB0 (by omega) (by omega); (refine Exists.intro (i, k + 1, zs ++ [ys.getD k 0], q) ?_); (refine nxt ?_ ?_ ?_); (focus ((apply Wk.named (fun o => if o = 3 then 6 else o); (case' h2 => (focus ((repeat' (with_reducible first | exact HeapX.bot | (apply HeapX.skip; (case hx => (simp; done))) | apply HeapX.none | apply HeapX.upd)); all_goals (first | rfl | exact Nat.le_of_ble_eq_true rfl | (simp only [St.set, St.ev, upd, ren, renL, id, Nat.reduceEqDiff, reduceIte, ContLe]; done) | (exact And.intro rfl (And.intro (by first | exact Nat.le_of_ble_eq_true rfl | omega) (by first | exact Nat.le_of_ble_eq_true rfl | omega))) | (first | (simp only [St.set, St.ev, upd, ren, renL, id, Nat.reduceEqDiff, reduceIte]; exact contLe_nil) | ((repeat' (first | exact contLe_nil | refine contLe_cons (.inr ⟨?_, rfl⟩) ?_)); all_goals (first | rfl | (simp only [St.set, St.ev, upd, ren, renL, id, Nat.reduceEqDiff, reduceIte]; done) | ((try simp only [St.set, St.ev, upd, ren, renL, id, Nat.reduceEqDiff, reduceIte]); first | (with_reducible exact av_int (by omega)) | (with_reducible exact av_sl (by first | omega | (simp; done) | (simp; omega)) (by first | omega | (simp; done) | (simp; omega)))) | (simp only [St.set, St.ev, upd, ren, renL, id, Nat.reduceEqDiff, reduceIte, Int.natCast_add, Int.natCast_one, Int.cast_ofNat_Int, Int.natCast_zero]; done) | (simp only [St.set, St.ev, upd, ren, renL, id, Nat.reduceEqDiff, reduceIte]) | skip); done)) | (simp only [St.set, St.ev, upd, ren, renL, id, Nat.reduceEqDiff, reduceIte, ContLe]) | skip)))); (case' h1 => (focus ((repeat' (with_reducible first | exact TmpLe.bot | refine TmpLe.upd ?_ rfl ?_)); all_goals (first | rfl | (simp only [St.set, St.ev, upd, ren, renL, id, Nat.reduceEqDiff, reduceIte]; done) | ((try simp only [St.set, St.ev, upd, ren, renL, id, Nat.reduceEqDiff, reduceIte]); first | (with_reducible exact av_int (by omega)) | (with_reducible exact av_sl (by first | omega | (simp; done) | (simp; omega)) (by first | omega | (simp; done) | (simp; omega)))) | (simp only [St.set, St.ev, upd, ren, renL, id, Nat.reduceEqDiff, reduceIte, Int.natCast_add, Int.natCast_one, Int.cast_ofNat_Int, Int.natCast_zero]; done) | (simp only [St.set, St.ev, upd, ren, renL, id, Nat.reduceEqDiff, reduceIte]) | skip)))); (case h3 => (focus (first | (simp only [id, List.map_cons, List.map_nil]; decide) | decide | (simp; done) | (simp; omega) | fail))); (case h4 => (intro o l h; first | (cases h; done) | (have hlt0 := m0_lt (by assumption) h; (try (simp only at hlt0)); first | omega | (simp only; omega) | exact ⟨by (first | rfl | (simp only [id]; done) | ((repeat rw [if_neg (by omega)]); done)), by first | omega | (simp only; omega)⟩)))))); (focus (first | omega | (simp only; omega) | (simp only [List.length_take]; omega) | (simp; done) | (simp; omega))); ((repeat' (with_reducible apply And.intro)) <;> (first | omega | (simp only; omega) | assumption | rfl | ((try simp only); first | exact hx.1 | exact hx.2 | (simp; omega)) | fail))); done)) | skip
  · simp only [St.set, St.ev, doneQ, doneH, ressK, resK, wrapR, AV.ids, AV.idsL, retK, retsK, upd, Nat.reduceEqDiff, reduceIte, if_false, if_true, List.nodup_nil, List.nodup_cons, List.not_mem_nil, not_false_eq_true, true_and, and_true, exists_eq_left', Option.some.injEq, rLoad, cellOf, tab, Ty.isAgg, Ty.one, Bool.false_eq_true, Cont.flat, List.drop_zero, List.take_succ_cons, List.take_zero, List.take_nil, List.nil_append, List.append_nil, List.length_cons, List.length_nil, Nat.le_refl, Nat.zero_add, Nat.reduceAdd, Nat.reduceLeDiff, List.drop_succ_cons, List.cons_append]
    obtain rfl : i = xs.length := by omega
    obtain rfl : k = ys.length := by omega
    rw [hend (Nat.le_refl _) (Nat.le_refl _)] at hQ
    exact ⟨rfl, by simp only [Cont.len], hQ⟩


theorem specJoin_sat : Sat Try.prog 56 (fun ds Q => ∃ (xs ys : List Int) (a b c d : Int), ds = [.agg [.row (.ints .i64 (xs)), .val (.int .i64 (a)), .val (.int .i64 (b))], .agg [.row (.ints .i64 (ys)), .val (.int .i64 (c)), .val (.int .i64 (d))]] ∧ (xs.length ≤ 100 ∧ ys.length ≤ 100) ∧ (0 ≤ a ∧ a ≤ 1000000) ∧ (0 ≤ b ∧ b ≤ 1000000) ∧ (0 ≤ c ∧ c ≤ 1000000) ∧ (0 ≤ d ∧ d ≤ 1000000) ∧ Q (.agg [.row (.ints .i64 ((mrg xs ys).1)), .val (.int .i64 (((mrg xs ys).2 + a + c))), .val (.int .i64 ((((xs.length + ys.length : Nat) : Int) + b + d)))])) := by
  refine sat_intro tabOk Try.func56 rfl 30 rfl [.cell 4 26] rfl ?_
  rintro ds Q W ⟨xs, ys, a, b, c, d, rfl, hl, ha, hb, hc, hd, hQ⟩
  refine ⟨Nat.le_of_ble_eq_true rfl, ?_⟩
  simp only [initS, initT, mat.matL, mat, Cont.len]
  have hml := mrg_len xs ys
  have hma := mrg_asks xs ys
  repeat' (first | refine awp_seq_k fun K hK => ?_ | ((with_reducible refine hK _ ?_); clear hK K) | (clear hK K; (with_reducible refine hK _ ?_); clear hK K) | (clear hK K; clear hK K; (with_reducible refine hK _ ?_); clear hK K) | (clear hK K; clear hK K; clear hK K; (with_reducible refine hK _ ?_); clear hK K) | (clear hK K; clear hK K; clear hK K; clear hK K; (with_reducible refine hK _ ?_); clear hK K) | (clear hK K; clear hK K; clear hK K; clear hK K; clear hK K; (with_reducible refine hK _ ?_); clear hK K) | ((with_reducible refine aord_plain fun K hK => ?_); simp only [go_sem, Nat.reduceAdd, Nat.reduceMul, Nat.reduceEqDiff, Nat.reduceLT, reduceIte, reduceCtorEq, mat.matL, DV.agg.injEq]) | refine awp_block ?_ | ((first | with_reducible refine aord_nil ?_ | refine awp_skip ?_ | refine awp_exit ?_ | refine awp_ret ?_); try simp only [thenA_normal, thenA_exit, thenA_goto, thenA_ret, blockA_normal, blockA_same, blockA_exit, blockA_goto, blockA_ret, Nat.reduceEqDiff, if_false, if_true, reduceIte]) | (refine awp_region tabOk rfl ?_; simp only [prep, pickO, List.map_cons, List.map_nil, List.getElem?_toArray, List.getElem?_cons_succ, List.getElem?_cons_zero, Option.bind_some, Option.map_some]) | ((with_reducible refine And.intro ?_ ?_); (focus omega)) | ((with_reducible refine And.intro ?_ ?_); (focus (exact rfl))) | ((with_reducible refine And.intro (?_ : enters Try.prog 66) ?_); (focus exact Try.call66); (refine callX_sat specMergeTwo_sat ?_); simp only [go_sem, and_assoc, List.nil_append, List.append_nil, List.cons_append, Nat.reduceEqDiff, reduceIte, reduceCtorEq, mat.matL, DV.agg.injEq]) | (refine aStoreAll_ints (by simp only [St.ev, St.set, upd, Nat.reduceEqDiff, reduceIte, if_false, if_true]; exact rfl) ?_ ?_ ?_ ?_; (focus (first | rfl | omega | (simp; done) | (simp; omega) | (simp [szOf, tab]; done) | (simp [szOf, tab]; omega))); (focus (first | rfl | omega | (simp; done) | (simp; omega) | (simp [szOf, tab]; done) | (simp [szOf, tab]; omega))); (focus (first | rfl | omega | (simp; done) | (simp; omega) | (simp [szOf, tab]; done) | (simp [szOf, tab]; omega))); (try simp only [go_sem, Nat.reduceAdd, Nat.reduceMul, Nat.reduceEqDiff, Nat.reduceLT, reduceIte, reduceCtorEq])) | (refine aStoreAll_cells (by simp only [St.ev, St.set, upd, Nat.reduceEqDiff, reduceIte, if_false, if_true]; exact rfl) ?_ ?_ ?_ ?_ ?_; (focus (first | rfl | omega | (simp; done) | (simp; omega) | (simp [szOf, tab]; done) | (simp [szOf, tab]; omega))); (focus (first | rfl | omega | (simp; done) | (simp; omega) | (simp [szOf, tab]; done) | (simp [szOf, tab]; omega))); (focus (first | rfl | omega | (simp; done) | (simp; omega) | (simp [szOf, tab]; done) | (simp [szOf, tab]; omega))); (focus (first | rfl | (simp [AV.cell, Value.oneCell']; done))); (try simp only [go_sem, Nat.reduceAdd, Nat.reduceMul, Nat.reduceEqDiff, Nat.reduceLT, reduceIte, reduceCtorEq])) | (with_reducible refine And.intro (fun hb => ?_) (fun hb => ?_)) | (exfalso; omega) | fail)
  simp only [St.set, St.ev, doneQ, doneH, ressK, resK, wrapR, AV.ids, AV.idsL, retK, retsK, upd, Nat.reduceEqDiff, reduceIte, if_false, if_true, List.nodup_nil, List.nodup_cons, List.not_mem_nil, not_false_eq_true, true_and, and_true, exists_eq_left', Option.some.injEq, rLoad, cellOf, tab, Ty.isAgg, Ty.one, Bool.false_eq_true, Cont.flat, List.drop_zero, List.take_succ_cons, List.take_zero, List.take_nil, List.nil_append, List.append_nil, List.length_cons, List.length_nil, Nat.le_refl, Nat.zero_add, Nat.reduceAdd, Nat.reduceLeDiff, List.drop_succ_cons, List.cons_append]
  exact ⟨rfl, by simp only [Cont.len], hQ⟩


/-- The runs of the first keys. -/
def rnL (xs : List Int) : Nat → List (List Int)
  | 0 => []
  | k + 1 => if 0 < k ∧ xs.getD (k - 1) 0 ≤ xs.getD k 0 then (rnL xs k).dropLast ++ [(rnL xs k).getLastD [] ++ [xs.getD k 0]] else rnL xs k ++ [[xs.getD k 0]]
theorem take_up {xs : List Int} {k : Nat} (h : k < xs.length) : xs.take (k + 1) = xs.take k ++ [xs.getD k 0] := by
  rw [List.take_succ_eq_append_getElem h, List.getD_eq_getElem?_getD, List.getElem?_eq_getElem h]; rfl
theorem rnL_inv (xs : List Int) : ∀ k, k ≤ xs.length → (rnL xs k).flatten = xs.take k ∧ (rnL xs k).map (fun l => (l.length : Int)) = runsTo xs k ∧ (∀ l, l ∈ rnL xs k → l.Pairwise (· ≤ ·) ∧ l ≠ []) ∧ (0 < k → ∃ A b, rnL xs k = A ++ [b ++ [xs.getD (k - 1) 0]])
  | 0, _ => by simp [rnL, runsTo]
  | k + 1, hk => by
    obtain ⟨h1, h2, h3, h4⟩ := rnL_inv xs k (by omega)
    by_cases hc : 0 < k ∧ xs.getD (k - 1) 0 ≤ xs.getD k 0
    · obtain ⟨A, b, e⟩ := h4 hc.1
      have e2 : rnL xs (k + 1) = A ++ [b ++ [xs.getD (k - 1) 0] ++ [xs.getD k 0]] := by
        rw [rnL, if_pos hc, e]; simp
      rw [e] at h1 h2 h3
      rw [e2, runsTo, if_pos hc, take_up (by omega), ← h1, ← h2]
      refine ⟨by simp, ?_, fun l hl => ?_, fun _ => ⟨A, b ++ [xs.getD (k - 1) 0], rfl⟩⟩
      · simp only [List.map_append, List.map_cons, List.map_nil]
        rw [incL_app]; simp; omega
      · rcases List.mem_append.1 hl with h | h
        · exact h3 l (List.mem_append_left _ h)
        · have e3 := List.mem_singleton.1 h
          subst e3
          have hp := (h3 _ (List.mem_append_right A (List.mem_singleton.2 rfl))).1
          refine ⟨List.pairwise_append.2 ⟨hp, List.pairwise_singleton _ _, fun a ha z hz => ?_⟩, by simp⟩
          rw [List.mem_singleton.1 hz]
          rcases List.mem_append.1 ha with h5 | h5
          · have := (List.pairwise_append.1 hp).2.2 a h5 _ (List.mem_singleton.2 rfl); omega
          · rw [List.mem_singleton.1 h5]; exact hc.2
    · rw [rnL, if_neg hc, runsTo, if_neg hc, take_up (by omega), ← h1, ← h2]
      refine ⟨by simp, by simp, fun l hl => ?_, fun _ => ⟨rnL xs k, [], rfl⟩⟩
      rcases List.mem_append.1 hl with h | h
      · exact h3 l h
      · rw [List.mem_singleton.1 h]; simp
/-- A list among lists, as a window of all. -/
theorem flat_win : ∀ (L : List (List Int)) (j : Nat), j < L.length → (L.flatten.drop (L.take j).flatten.length).take (L.getD j []).length = L.getD j []
  | [], j, h => by simp at h
  | a :: L, 0, h => by simp
  | a :: L, j + 1, h => by
    have := flat_win L j (by simpa using h)
    simp only [List.flatten_cons, List.take_succ_cons, List.length_append, List.getD_cons_succ]
    rw [List.drop_append, List.drop_eq_nil_of_le (by omega), List.nil_append, Nat.add_sub_cancel_left]
    exact this
/-- A part: its keys, how often was asked, how often was moved. -/
abbrev Wk := List Int × Int × Int
def wJoin (a b : Wk) : Wk := ((mrg a.1 b.1).1, (mrg a.1 b.1).2 + a.2.1 + b.2.1, ((a.1.length + b.1.length : Nat) : Int) + a.2.2 + b.2.2)
/-- One round. -/
def nsRound : List Wk → List Wk
  | a :: b :: l => wJoin a b :: nsRound l
  | [a] => [a]
  | [] => []
def wKeys : List Wk → Nat
  | [] => 0
  | a :: l => a.1.length + wKeys l
def wAsk : List Wk → Int
  | [] => 0
  | a :: l => a.2.1 + wAsk l
def wMov : List Wk → Int
  | [] => 0
  | a :: l => a.2.2 + wMov l
theorem wKeys_app : ∀ l m : List Wk, wKeys (l ++ m) = wKeys l + wKeys m
  | [], m => by simp [wKeys]
  | a :: l, m => by simp only [List.cons_append, wKeys, wKeys_app l m]; omega
theorem wAsk_app : ∀ l m : List Wk, wAsk (l ++ m) = wAsk l + wAsk m
  | [], m => by simp [wAsk]
  | a :: l, m => by simp only [List.cons_append, wAsk, wAsk_app l m]; omega
theorem wMov_app : ∀ l m : List Wk, wMov (l ++ m) = wMov l + wMov m
  | [], m => by simp [wMov]
  | a :: l, m => by simp only [List.cons_append, wMov, wMov_app l m]; omega
theorem nsRound_len : ∀ l, (nsRound l).length = (l.length + 1) / 2
  | a :: b :: l => by have := nsRound_len l; simp only [nsRound, List.length_cons]; omega
  | [a] => by simp [nsRound]
  | [] => by simp [nsRound]
theorem nsRound_sums : ∀ l, wKeys (nsRound l) = wKeys l ∧ wMov l ≤ wMov (nsRound l) ∧ wMov (nsRound l) ≤ wMov l + wKeys l ∧ wAsk l ≤ wAsk (nsRound l) ∧ wAsk (nsRound l) - wAsk l ≤ wMov (nsRound l) - wMov l
  | a :: b :: l => by
    have h := nsRound_sums l
    have h1 := mrg_len a.1 b.1
    have h2 := mrg_asks a.1 b.1
    simp only [nsRound, wKeys, wMov, wAsk, wJoin]; omega
  | [a] => by simp only [nsRound]; exact ⟨trivial, Int.le_refl _, by omega, Int.le_refl _, by omega⟩
  | [] => by simp [nsRound, wKeys, wMov, wAsk]
theorem nsRound_mem : ∀ l, (∀ p, p ∈ l → p.1.Pairwise (· ≤ ·) ∧ 0 ≤ p.2.1 ∧ 0 ≤ p.2.2) → ∀ p, p ∈ nsRound l → p.1.Pairwise (· ≤ ·) ∧ 0 ≤ p.2.1 ∧ 0 ≤ p.2.2
  | a :: b :: l, h, p, hp => by
    have ha := h a (by simp)
    have hb := h b (by simp)
    rcases List.mem_cons.1 hp with e | e
    · subst e
      have h2 := mrg_asks a.1 b.1
      refine ⟨mrg_srt _ _ ha.1 hb.1, ?_⟩
      simp only [wJoin]; omega
    · exact nsRound_mem l (fun q hq => h q (by simp [hq])) p e
  | [a], h, p, hp => h p hp
  | [], h, p, hp => h p hp
theorem nsRound_perm : ∀ l, ((nsRound l).map (·.1)).flatten.Perm (l.map (·.1)).flatten
  | a :: b :: l => by
    simp only [nsRound, List.map_cons, List.flatten_cons, wJoin]
    rw [← List.append_assoc]
    exact (mrg_perm a.1 b.1).append (nsRound_perm l)
  | [a] => List.Perm.refl _
  | [] => List.Perm.refl _
theorem nsRound_two {l : List Wk} {i : Nat} (h : i + 1 < l.length) : nsRound (l.drop i) = wJoin (l.getD i ([], 0, 0)) (l.getD (i + 1) ([], 0, 0)) :: nsRound (l.drop (i + 2)) := by
  rw [List.drop_eq_getElem_cons (by omega : i < l.length), List.drop_eq_getElem_cons h, nsRound]
  simp only [List.getD_eq_getElem?_getD, List.getElem?_eq_getElem h, List.getElem?_eq_getElem (by omega : i < l.length), Option.getD_some]
theorem nsRound_one {l : List Wk} {i : Nat} (h : i + 1 = l.length) : nsRound (l.drop i) = [l.getD i ([], 0, 0)] := by
  rw [List.drop_eq_getElem_cons (by omega : i < l.length), List.drop_eq_nil_of_le (by omega), nsRound]
  simp only [List.getD_eq_getElem?_getD, List.getElem?_eq_getElem (by omega : i < l.length), Option.getD_some]
theorem nsRound_end {l : List Wk} {i : Nat} (h : l.length ≤ i) : nsRound (l.drop i) = [] := by
  rw [List.drop_eq_nil_of_le h, nsRound]
theorem wk_in : ∀ (l : List Wk), (∀ p, p ∈ l → 0 ≤ p.2.1 ∧ 0 ≤ p.2.2) → (0 ≤ wAsk l ∧ 0 ≤ wMov l) ∧ ∀ p, p ∈ l → p.1.length ≤ wKeys l ∧ p.2.1 ≤ wAsk l ∧ p.2.2 ≤ wMov l
  | [], _ => by simp [wAsk, wMov]
  | a :: l, h => by
    obtain ⟨h1, h2⟩ := wk_in l (fun p hp => h p (by simp [hp]))
    have ha := h a (by simp)
    simp only [wAsk, wMov, wKeys]
    refine ⟨by omega, fun p hp => ?_⟩
    rcases List.mem_cons.1 hp with e | e
    · subst e; omega
    · have := h2 p e; omega
/-- So many rounds. -/
def nsIt (l : List Wk) : Nat → List Wk
  | 0 => l
  | c + 1 => nsRound (nsIt l c)
theorem dbl_two : ∀ f n p c : Nat, n ≤ p + f → ∀ q, q = (n + 1) / 2 → dbl n (2 * p) c = dbl q p c := by
  intro f
  induction f with
  | zero => intro n p c h q hq; rw [dbl_end (by omega), dbl_end (by omega)]
  | succ f ih =>
    intro n p c h q hq
    by_cases h1 : 0 < p ∧ p < q
    · rw [← dbl_go h1.1 h1.2, ← dbl_go (n := n) (by omega) (by omega), ih n (2 * p) (c + 1) (by omega) q hq]
    · rw [dbl.eq_1 q, dif_neg h1, dbl, dif_neg (by omega)]
theorem ns_step {l : List Wk} {c m : Nat} (h : 1 < l.length) (hm : dbl l.length 1 c = m) : dbl (nsRound l).length 1 (c + 1) = m := by
  rw [nsRound_len, ← dbl_two l.length l.length 1 (c + 1) (by omega) _ rfl, ← hm]
  exact dbl_go (by omega) h
theorem nsIt_sums (l : List Wk) : ∀ c, wKeys (nsIt l c) = wKeys l ∧ wMov l ≤ wMov (nsIt l c) ∧ wMov (nsIt l c) ≤ wMov l + ((c * wKeys l : Nat) : Int) ∧ wAsk l ≤ wAsk (nsIt l c) ∧ wAsk (nsIt l c) - wAsk l ≤ wMov (nsIt l c) - wMov l
  | 0 => by simp [nsIt]
  | c + 1 => by
    have h := nsIt_sums l c
    have h2 := nsRound_sums (nsIt l c)
    have e : (c + 1) * wKeys l = c * wKeys l + wKeys l := Nat.succ_mul _ _
    rw [nsIt, e]; rw [h.1] at h2; omega
theorem nsIt_mem {l : List Wk} (h : ∀ p, p ∈ l → p.1.Pairwise (· ≤ ·) ∧ 0 ≤ p.2.1 ∧ 0 ≤ p.2.2) : ∀ c p, p ∈ nsIt l c → p.1.Pairwise (· ≤ ·) ∧ 0 ≤ p.2.1 ∧ 0 ≤ p.2.2
  | 0 => h
  | c + 1 => nsRound_mem _ (nsIt_mem h c)
theorem nsIt_perm (l : List Wk) : ∀ c, ((nsIt l c).map (·.1)).flatten.Perm (l.map (·.1)).flatten
  | 0 => List.Perm.refl _
  | c + 1 => (nsRound_perm _).trans (nsIt_perm l c)
/-- What is left after all rounds has at most one part. -/
theorem nsIt_one (l : List Wk) : (nsIt l (dbl l.length 1 0)).length ≤ 1 ∧ (0 < l.length → 0 < (nsIt l (dbl l.length 1 0)).length) := by
  have key : ∀ f c, (nsIt l c).length ≤ 1 + f → dbl (nsIt l c).length 1 c = dbl l.length 1 0 → (nsIt l (dbl l.length 1 0)).length ≤ 1 := by
    intro f
    induction f with
    | zero => intro c h e; rw [dbl_end (by omega)] at e; rw [← e]; exact h
    | succ f ih =>
      intro c h e
      by_cases h1 : 1 < (nsIt l c).length
      · have hl := nsRound_len (nsIt l c)
        exact ih (c + 1) (by rw [nsIt]; omega) (ns_step h1 e)
      · rw [dbl_end (by omega)] at e; rw [← e]; omega
  refine ⟨key l.length 0 (by rw [nsIt]; omega) rfl, fun h => ?_⟩
  have pos : ∀ c, 0 < (nsIt l c).length := by
    intro c
    induction c with
    | zero => exact h
    | succ c ih => rw [nsIt, nsRound_len]; omega
  exact pos _
/-- The parts at the start. -/
def nsOf (xs : List Int) : List Wk := (rnL xs xs.length).map fun l => (l, 0, 0)
theorem nsOf_len (xs : List Int) : (nsOf xs).length = (runsTo xs xs.length).length := by
  rw [nsOf, List.length_map, ← (rnL_inv xs xs.length (Nat.le_refl _)).2.1, List.length_map]
theorem nsOf_sums (xs : List Int) : wKeys (nsOf xs) = xs.length ∧ wAsk (nsOf xs) = 0 ∧ wMov (nsOf xs) = 0 := by
  have key : ∀ L : List (List Int), wKeys (L.map fun l => ((l, 0, 0) : Wk)) = L.flatten.length ∧ wAsk (L.map fun l => ((l, 0, 0) : Wk)) = 0 ∧ wMov (L.map fun l => ((l, 0, 0) : Wk)) = 0 := by
    intro L
    induction L with
    | nil => simp [wKeys, wAsk, wMov]
    | cons a L ih => simp only [List.map_cons, wKeys, wAsk, wMov, ih, List.flatten_cons, List.length_append]; simp
  have := key (rnL xs xs.length)
  rw [(rnL_inv xs xs.length (Nat.le_refl _)).1, List.take_length] at this
  exact this
theorem nsOf_mem (xs : List Int) : ∀ p, p ∈ nsOf xs → p.1.Pairwise (· ≤ ·) ∧ 0 ≤ p.2.1 ∧ 0 ≤ p.2.2 := by
  intro p hp
  obtain ⟨l, hl, rfl⟩ := List.mem_map.1 hp
  exact ⟨((rnL_inv xs xs.length (Nat.le_refl _)).2.2.1 l hl).1, Int.le_refl _, Int.le_refl _⟩
theorem nsOf_perm (xs : List Int) : ((nsOf xs).map (·.1)).flatten = xs := by
  rw [nsOf, List.map_map]
  rw [show ((fun p : Wk => p.1) ∘ fun l => ((l, 0, 0) : Wk)) = id from rfl, List.map_id, (rnL_inv xs xs.length (Nat.le_refl _)).1, List.take_length]

/-- The cells of parts: of each its keys, how often was asked, how often was moved. -/
def wkC (f : Nat → Nat) : Nat → List Wk → List AV
  | _, [] => []
  | b, a :: l => .sl (f b) 0 a.1.length 1 none :: .val (.int .i64 a.2.1) :: .val (.int .i64 a.2.2) :: wkC f (b + 1) l
theorem wkC_len {f : Nat → Nat} : ∀ {l : List Wk} {b : Nat}, (wkC f b l).length = l.length * 3
  | [], _ => rfl
  | a :: l, b => by simp only [wkC, List.length_cons, wkC_len (l := l)]; omega
theorem wkC_app {f : Nat → Nat} : ∀ {l m : List Wk} {b : Nat}, wkC f b (l ++ m) = wkC f b l ++ wkC f (b + l.length) m
  | [], m, b => rfl
  | a :: l, m, b => by
    simp only [wkC, List.cons_append, wkC_app (l := l) (m := m), List.length_cons]
    rw [show b + 1 + l.length = b + (l.length + 1) by omega]
theorem wkC_get {f : Nat → Nat} : ∀ {l : List Wk} {b j : Nat}, j < l.length → (wkC f b l)[j * 3]? = some (.sl (f (b + j)) 0 (l.getD j ([], 0, 0)).1.length 1 none) ∧ (wkC f b l)[j * 3 + 1]? = some (.val (.int .i64 (l.getD j ([], 0, 0)).2.1)) ∧ (wkC f b l)[j * 3 + 2]? = some (.val (.int .i64 (l.getD j ([], 0, 0)).2.2))
  | [], _, _, h => by simp at h
  | a :: l, b, 0, h => by simp [wkC]
  | a :: l, b, j + 1, h => by
    have := wkC_get (f := f) (l := l) (b := b + 1) (j := j) (by simpa using h)
    rw [show (j + 1) * 3 = j * 3 + 3 by omega, show j * 3 + 3 + 1 = j * 3 + 1 + 3 by omega, show j * 3 + 3 + 2 = j * 3 + 2 + 3 by omega, show b + (j + 1) = b + 1 + j by omega]
    simp only [wkC, List.getD_cons_succ, List.getElem?_cons_succ]
    exact this
theorem wkC_congr {f g : Nat → Nat} : ∀ {l : List Wk} {b : Nat}, (∀ j, j < l.length → f (b + j) = g (b + j)) → wkC f b l = wkC g b l
  | [], _, _ => rfl
  | a :: l, b, h => by
    have h0 := h 0 (by simp)
    rw [Nat.add_zero] at h0
    rw [wkC, wkC, h0, wkC_congr (f := f) (g := g) (l := l) (b := b + 1) (fun j hj => by
      have := h (j + 1) (by simpa using hj)
      rw [show b + (j + 1) = b + 1 + j by omega] at this; exact this)]
theorem wkC_snoc {f : Nat → Nat} {l : List Wk} {a : Wk} {m : Nat} : wkC (fun j => if j = l.length then m else f j) 0 (l ++ [a]) = wkC f 0 l ++ [.sl m 0 a.1.length 1 none, .val (.int .i64 a.2.1), .val (.int .i64 a.2.2)] := by
  rw [wkC_app, Nat.zero_add, wkC_congr (g := f) (fun j hj => by simp only [Nat.zero_add]; rw [if_neg (by omega)])]
  simp only [wkC, if_true]
theorem wkC_lt {f : Nat → Nat} {n : Nat} : ∀ {l : List Wk} {b : Nat}, (∀ j, j < l.length → f (b + j) < n) → AV.ltL n (wkC f b l) = true
  | [], _, _ => rfl
  | a :: l, b, h => by
    have h0 := h 0 (by simp)
    have h1 := wkC_lt (f := f) (n := n) (l := l) (b := b + 1) (fun j hj => by
      have := h (j + 1) (by simpa using hj)
      rw [show b + (j + 1) = b + 1 + j by omega] at this; exact this)
    rw [Nat.add_zero] at h0
    simp only [wkC, AV.ltL, AV.lt, h1, Bool.and_true, Bool.true_and, decide_eq_true_eq]
    exact h0
/-- Parts in the heap; their rows are only read. -/
structure WksOf (H : Hp) (n O : Nat) (f : Nat → Nat) (l : List Wk) : Prop where
  out : H O = some ⟨true, .cells (wkC f 0 l)⟩
  outn : O < n
  row : ∀ j, j < l.length → H (f j) = some ⟨true, .ints .i64 (l.getD j ([], 0, 0)).1⟩
  lt : ∀ j, j < l.length → f j < n ∧ f j ≠ O
theorem WksOf.get {H : Hp} {n O : Nat} {f : Nat → Nat} {l : List Wk} (h : WksOf H n O f l) {j : Nat} (hj : j < l.length) : (wkC f 0 l)[j * 3]? = some (.sl (f j) 0 (l.getD j ([], 0, 0)).1.length 1 none) ∧ (wkC f 0 l)[j * 3 + 1]? = some (.val (.int .i64 (l.getD j ([], 0, 0)).2.1)) ∧ (wkC f 0 l)[j * 3 + 2]? = some (.val (.int .i64 (l.getD j ([], 0, 0)).2.2)) := by
  have := wkC_get (f := f) (b := 0) hj
  rw [Nat.zero_add] at this; exact this
/-- The heap has grown, and what the parts lie in is as it was. -/
theorem WksOf.keep {H G : Hp} {n m O : Nat} {f : Nat → Nat} {l : List Wk} (h : WksOf H n O f l) (hm : n ≤ m) (gk : ∀ u, u < n → G u = H u) : WksOf G m O f l :=
  ⟨by rw [gk O h.outn]; exact h.out, by have := h.outn; omega, fun j hj => by rw [gk _ (h.lt j hj).1]; exact h.row j hj, fun j hj => ⟨by have := (h.lt j hj).1; omega, (h.lt j hj).2⟩⟩
/-- A part is put behind: its row at m, the cells anew at O2. -/
theorem WksOf.push {H G : Hp} {n O m O2 N : Nat} {f : Nat → Nat} {l : List Wk} {a : Wk} (h : WksOf H n O f l) (hO2 : n ≤ O2) (hne : m ≠ O2) (hmN : m < N) (hON : O2 < N) (gO : G O2 = some ⟨true, .cells (wkC f 0 l ++ [.sl m 0 a.1.length 1 none, .val (.int .i64 a.2.1), .val (.int .i64 a.2.2)])⟩) (gn : G m = some ⟨true, .ints .i64 a.1⟩) (gk : ∀ u, u < n → u ≠ O → G u = H u) : WksOf G N O2 (fun j => if j = l.length then m else f j) (l ++ [a]) := by
  refine ⟨by rw [wkC_snoc]; exact gO, hON, fun j hj => ?_, fun j hj => ?_⟩
  · simp only [List.length_append, List.length_singleton] at hj
    by_cases e : j = l.length
    · subst e
      simp only [if_true, List.getD_eq_getElem?_getD]
      rw [List.getElem?_append_right (Nat.le_refl _), Nat.sub_self]; exact gn
    · have hj' : j < l.length := by omega
      simp only [if_neg e, List.getD_eq_getElem?_getD]
      rw [List.getElem?_append_left hj', ← List.getD_eq_getElem?_getD, gk _ (h.lt j hj').1 (h.lt j hj').2]; exact h.row j hj'
  · simp only [List.length_append, List.length_singleton] at hj
    by_cases e : j = l.length
    · simp only [if_pos e]; exact ⟨hmN, hne⟩
    · have := h.lt j (by omega)
      have := h.outn
      simp only [if_neg e]; omega
theorem tsc {f g : Nat → AV} {t0 : Nat} {v : AV} (h : ∀ t, f t = .any ∨ f t = g t) (hv : v = g t0) : ∀ t, upd f t0 v t = .any ∨ upd f t0 v t = g t := fun t => by
  unfold upd
  split
  · rename_i e; subst e; exact .inr hv
  · exact h t
theorem tsc0 {g : Nat → AV} : ∀ t, bot t = .any ∨ bot t = g t := fun _ => .inl rfl

theorem ns_at {L : List (List Int)} {i : Nat} (h : i < L.length) : (L.take (i + 1)).flatten.length = (L.take i).flatten.length + (L.getD i []).length ∧ (L.take (i + 1)).flatten.length ≤ L.flatten.length := by
  have e : L.take (i + 1) = L.take i ++ [L.getD i []] := by
    rw [List.take_succ_eq_append_getElem h, List.getD_eq_getElem?_getD, List.getElem?_eq_getElem h]; rfl
  have e2 : L.flatten.length = (L.take (i + 1)).flatten.length + (L.drop (i + 1)).flatten.length := by
    rw [← List.length_append, ← List.flatten_append, List.take_append_drop]
  refine ⟨by rw [e]; simp, by omega⟩
theorem nsOf_take {xs : List Int} {i : Nat} (h : i < (rnL xs xs.length).length) : (nsOf xs).take (i + 1) = (nsOf xs).take i ++ [((rnL xs xs.length).getD i [], 0, 0)] := by
  have h2 : i < (nsOf xs).length := by rw [nsOf, List.length_map]; exact h
  rw [List.take_succ_eq_append_getElem h2]
  simp only [nsOf, List.getElem_map, List.getD_eq_getElem?_getD, List.getElem?_eq_getElem h, Option.getD_some]
theorem ns_rl {xs : List Int} {i : Nat} (h : i < (rnL xs xs.length).length) : (runsTo xs xs.length).getD i 0 = (((rnL xs xs.length).getD i []).length : Int) := by
  rw [← (rnL_inv xs xs.length (Nat.le_refl _)).2.1]
  simp only [List.getD_eq_getElem?_getD, List.getElem?_map, List.getElem?_eq_getElem h, Option.map_some, Option.getD_some]
theorem wkC_take {f : Nat → Nat} {l : List Wk} {j : Nat} (h : j < l.length) : ((wkC f 0 l).drop (j * 3)).take 3 = [.sl (f j) 0 (l.getD j ([], 0, 0)).1.length 1 none, .val (.int .i64 (l.getD j ([], 0, 0)).2.1), .val (.int .i64 (l.getD j ([], 0, 0)).2.2)] := by
  have hl := wkC_len (f := f) (l := l) (b := 0)
  have hg := wkC_get (f := f) (l := l) (b := 0) h
  rw [Nat.zero_add] at hg
  have g0 := (List.getElem?_eq_some_iff.1 hg.1).2
  have g1 := (List.getElem?_eq_some_iff.1 hg.2.1).2
  have g2 := (List.getElem?_eq_some_iff.1 hg.2.2).2
  rw [List.drop_eq_getElem_cons (by omega), List.drop_eq_getElem_cons (by omega), List.drop_eq_getElem_cons (by omega), g0, g1, g2]
  rfl
theorem ns_dbl_ge : ∀ f n p c : Nat, n ≤ p + f → c ≤ dbl n p c
  | 0, n, p, c, h => by rw [dbl_end (by omega)]; omega
  | f + 1, n, p, c, h => by
    by_cases h1 : 0 < p ∧ p < n
    · rw [← dbl_go h1.1 h1.2]
      have := ns_dbl_ge f n (2 * p) (c + 1) (by omega)
      omega
    · rw [dbl, dif_neg h1]; omega
/-- The heap has grown, and one row that the parts don't lie in is gone. -/
theorem WksOf.keep2 {H G : Hp} {n m O O2 : Nat} {f : Nat → Nat} {l : List Wk} (h : WksOf H n O f l) (hm : n ≤ m) (hO : O ≠ O2) (hf : ∀ j, j < l.length → f j ≠ O2) (gk : ∀ u, u < n → u ≠ O2 → G u = H u) : WksOf G m O f l :=
  ⟨by rw [gk O h.outn hO]; exact h.out, by have := h.outn; omega, fun j hj => by rw [gk _ (h.lt j hj).1 (hf j hj)]; exact h.row j hj, fun j hj => ⟨by have := (h.lt j hj).1; omega, (h.lt j hj).2⟩⟩
def nsC (xs : List Int) : Nat := dbl (nsOf xs).length 1 0
def nsP (xs : List Int) : Wk := (nsIt (nsOf xs) (nsC xs)).getD 0 ([], 0, 0)


end Go.Proofs.Ythknhcgdbpgcjaa
