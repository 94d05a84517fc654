/- Contracts of functions of the program. -/
import Derived.Test.YtfoaolipmicoaaaPG1g
import Derived.ScopeJumps
namespace Go.Proofs.Ytfoaolipmicoaaa
open Go Go.Ab
set_option linter.all false
set_option maxHeartbeats 4000000

theorem FnFlipSort_sat : Sat Try.prog 6 (fun ds Q => ∃ bs, ds = [.row (.ints .u8 bs)] ∧ bs.length ≤ 9223372036854775807 ∧ bytesOk bs ∧ Q (.val (.bool true))) := by
  refine sat_intro tabOk Try.func6 rfl 68 rfl [.tmp 2] rfl ?_
  rintro ds Q W ⟨bs, rfl, hlen, hbs, hQ⟩
  refine ⟨Nat.le_of_ble_eq_true rfl, ?_⟩
  simp only [initS, initT, mat.matL, mat, Cont.len]
  repeat' (first | refine awp_seq_k fun K hK => ?_ | ((with_reducible refine hK _ ?_); clear hK K) | (clear hK K; (with_reducible refine hK _ ?_); clear hK K) | (clear hK K; clear hK K; (with_reducible refine hK _ ?_); clear hK K) | (clear hK K; clear hK K; clear hK K; (with_reducible refine hK _ ?_); clear hK K) | (clear hK K; clear hK K; clear hK K; clear hK K; (with_reducible refine hK _ ?_); clear hK K) | (clear hK K; clear hK K; clear hK K; clear hK K; clear hK K; (with_reducible refine hK _ ?_); clear hK K) | ((with_reducible refine aord_plain fun K hK => ?_); simp only [go_sem, Nat.reduceAdd, Nat.reduceMul, Nat.reduceEqDiff, Nat.reduceLT, reduceIte, reduceCtorEq, mat.matL, DV.agg.injEq]) | ((with_reducible apply aord_guard); (focus (simp only [St.ev, St.set, upd, Nat.reduceEqDiff, reduceIte, if_false, if_true]; exact rfl)); all_goals (intro hb; (try simp only [Bool.not_true, Bool.not_false] at hb); first | (cases hb; done) | ((try rw [hb]); (try simp only [Bool.not_eq_true', Bool.not_eq_false', Bool.and_eq_true, decide_eq_true_eq, decide_eq_false_iff_not, beq_iff_eq, bne_iff_ne, beq_eq_false_iff_ne, bne_eq_false_iff_eq, Int.not_lt, Int.not_le] at hb); (try (revert hb; with_reducible refine true_imp_iff.2 ?_)); first | (intro K hK; simp only [go_sem, Nat.reduceAdd, Nat.reduceMul, Nat.reduceEqDiff, Nat.reduceLT, reduceIte, reduceCtorEq]) | (simp only [St.ev, St.set, upd, Nat.reduceEqDiff, reduceIte, if_false, if_true]) | skip))) | ((with_reducible apply aord_skip); (focus (simp only [St.ev, St.set, upd, Nat.reduceEqDiff, reduceIte, if_false, if_true]; done)); (simp only [St.ev, St.set, upd, Nat.reduceEqDiff, reduceIte, if_false, if_true])) | refine awp_block ?_ | ((first | with_reducible refine aord_nil ?_ | refine awp_skip ?_ | refine awp_exit ?_ | refine awp_ret ?_); try simp only [thenA_normal, thenA_exit, thenA_goto, thenA_ret, blockA_normal, blockA_same, blockA_exit, blockA_goto, blockA_ret, Nat.reduceEqDiff, if_false, if_true, reduceIte]) | (refine awp_region tabOk rfl ?_; simp only [prep, pickO, List.map_cons, List.map_nil, List.getElem?_toArray, List.getElem?_cons_succ, List.getElem?_cons_zero, Option.bind_some, Option.map_some]) | (refine awp_region_draw (nt := 68) (id := 5) tabOk [(0, true, false), (1, true, false), (2, false, false), (3, false, false), (4, true, false), (5, true, false), (6, true, false), (7, false, false), (8, true, false), (9, true, false), (10, true, false), (11, true, false), (12, true, false), (13, true, false), (14, true, false)] (by kernel_rfl) rfl (by kernel_rfl) ?_; simp only [prep, pickO, List.map_cons, List.map_nil, List.getElem?_toArray, List.getElem?_cons_succ, List.getElem?_cons_zero, Option.bind_some, Option.map_some]) | (refine awp_region_draw (nt := 68) (id := 6) tabOk [(0, true, false), (1, true, false), (2, false, false), (3, false, false), (4, true, false)] (by kernel_rfl) rfl (by kernel_rfl) ?_; simp only [prep, pickO, List.map_cons, List.map_nil, List.getElem?_toArray, List.getElem?_cons_succ, List.getElem?_cons_zero, Option.bind_some, Option.map_some]) | (refine awp_region_draw (nt := 68) (id := 8) tabOk [(0, true, false), (1, true, false), (2, true, false), (3, false, false), (4, false, false), (5, true, false), (6, true, false), (7, true, false), (8, true, false), (9, true, false), (10, true, false), (11, true, false), (12, true, false), (13, true, false), (14, true, false), (15, true, false), (16, true, false), (17, true, false), (18, true, false), (19, true, false), (20, true, false), (21, true, false), (22, true, false), (23, true, false), (24, true, false), (25, true, false), (26, false, false), (27, true, false), (28, true, false), (29, true, false), (30, true, false), (31, true, false), (32, true, false), (33, true, false), (34, true, false)] (by kernel_rfl) rfl (by kernel_rfl) ?_; simp only [prep, pickO, List.map_cons, List.map_nil, List.getElem?_toArray, List.getElem?_cons_succ, List.getElem?_cons_zero, Option.bind_some, Option.map_some]) | ((with_reducible apply awp_cond); (focus (simp only [St.ev, St.set, upd, Nat.reduceEqDiff, reduceIte, if_false, if_true]; exact rfl)); all_goals (intro hb; first | (cases hb; done) | ((try rw [hb]); (try simp only [decide_eq_true_eq, decide_eq_false_iff_not, beq_iff_eq, bne_iff_ne, beq_eq_false_iff_ne, bne_eq_false_iff_eq, Int.not_lt, Int.not_le, Bool.not_eq_true', Bool.not_eq_false'] at hb)))) | ((with_reducible refine And.intro ?_ ?_); (focus omega)) | ((with_reducible refine And.intro ?_ ?_); (focus (exact rfl))) | ((with_reducible refine And.intro (?_ : enters Try.prog 25) ?_); (focus exact Try.call25); (refine callX_sat drawFlipSort_sat ?_); simp only [go_sem, and_assoc, List.nil_append, List.append_nil, List.cons_append, Nat.reduceEqDiff, reduceIte, reduceCtorEq, mat.matL, DV.agg.injEq]) | ((with_reducible refine And.intro (?_ : enters Try.prog 26) ?_); (focus exact Try.call26); (refine callX_sat implFlipSort_sat ?_); simp only [go_sem, and_assoc, List.nil_append, List.append_nil, List.cons_append, Nat.reduceEqDiff, reduceIte, reduceCtorEq, mat.matL, DV.agg.injEq]) | ((with_reducible refine And.intro (?_ : enters Try.prog 27) ?_); (focus exact Try.call27); (refine callX_sat specFlipSort_sat ?_); simp only [go_sem, and_assoc, List.nil_append, List.append_nil, List.cons_append, Nat.reduceEqDiff, reduceIte, reduceCtorEq, mat.matL, DV.agg.injEq]) | ((with_reducible refine And.intro (?_ : enters Try.prog 9) ?_); (focus exact Try.call9); (refine callX_sat equalWork_sat ?_); simp only [go_sem, and_assoc, List.nil_append, List.append_nil, List.cons_append, Nat.reduceEqDiff, reduceIte, reduceCtorEq, mat.matL, DV.agg.injEq]) | ((with_reducible refine And.intro (?_ : enters Try.prog 11) ?_); (focus exact Try.call11); (refine callX_sat implValidKeys_sat ?_); simp only [go_sem, and_assoc, List.nil_append, List.append_nil, List.cons_append, Nat.reduceEqDiff, reduceIte, reduceCtorEq, mat.matL, DV.agg.injEq]) | ((with_reducible refine And.intro (?_ : enters Try.prog 13) ?_); (focus exact Try.call13); (refine callX_sat implSortedKeys_sat ?_); simp only [go_sem, and_assoc, List.nil_append, List.append_nil, List.cons_append, Nat.reduceEqDiff, reduceIte, reduceCtorEq, mat.matL, DV.agg.injEq]) | ((with_reducible refine And.intro (?_ : enters Try.prog 12) ?_); (focus exact Try.call12); (refine callX_sat equalInts_sat ?_); simp only [go_sem, and_assoc, List.nil_append, List.append_nil, List.cons_append, Nat.reduceEqDiff, reduceIte, reduceCtorEq, mat.matL, DV.agg.injEq]) | ((with_reducible refine And.intro (?_ : enters Try.prog 28) ?_); (focus exact Try.call28); (refine callX_sat implIsSorted_sat ?_); simp only [go_sem, and_assoc, List.nil_append, List.append_nil, List.cons_append, Nat.reduceEqDiff, reduceIte, reduceCtorEq, mat.matL, DV.agg.injEq]) | (refine aStoreAll_ints (by simp only [St.ev, St.set, upd, Nat.reduceEqDiff, reduceIte, if_false, if_true]; exact rfl) ?_ ?_ ?_ ?_; (focus (first | rfl | omega | (simp; done) | (simp; omega) | (simp [szOf, tab]; done) | (simp [szOf, tab]; omega))); (focus (first | rfl | omega | (simp; done) | (simp; omega) | (simp [szOf, tab]; done) | (simp [szOf, tab]; omega))); (focus (first | rfl | omega | (simp; done) | (simp; omega) | (simp [szOf, tab]; done) | (simp [szOf, tab]; omega))); (try simp only [go_sem, Nat.reduceAdd, Nat.reduceMul, Nat.reduceEqDiff, Nat.reduceLT, reduceIte, reduceCtorEq])) | (refine aStoreAll_cells (by simp only [St.ev, St.set, upd, Nat.reduceEqDiff, reduceIte, if_false, if_true]; exact rfl) ?_ ?_ ?_ ?_ ?_; (focus (first | rfl | omega | (simp; done) | (simp; omega) | (simp [szOf, tab]; done) | (simp [szOf, tab]; omega))); (focus (first | rfl | omega | (simp; done) | (simp; omega) | (simp [szOf, tab]; done) | (simp [szOf, tab]; omega))); (focus (first | rfl | omega | (simp; done) | (simp; omega) | (simp [szOf, tab]; done) | (simp [szOf, tab]; omega))); (focus (first | rfl | (simp [AV.cell, Value.oneCell']; done))); (try simp only [go_sem, Nat.reduceAdd, Nat.reduceMul, Nat.reduceEqDiff, Nat.reduceLT, reduceIte, reduceCtorEq])) | (with_reducible refine And.intro (fun hb => ?_) (fun hb => ?_)) | (exfalso; omega) | fail)
  · simp only [St.set, St.ev, doneQ, doneH, ressK, resK, wrapR, AV.ids, AV.idsL, retK, retsK, upd, Nat.reduceEqDiff, reduceIte, if_false, if_true, List.nodup_nil, List.nodup_cons, List.not_mem_nil, not_false_eq_true, true_and, and_true, exists_eq_left', Option.some.injEq, rLoad, cellOf, tab, Ty.isAgg, Ty.one, Bool.false_eq_true]
    exact hQ
  intro xs hxs
  rcases Bool.eq_false_or_eq_true (validB xs) with hv | hv
  · have hol := ordL_len xs
    have h8 := valid_len hv
    obtain ⟨f1, f2, f3, f4, f5⟩ := flip_fin xs
    have hsq := sq_in h8
    have h3 : (2 * (flpAll xs.length (xs, 0, 0)).2.1 == (xs.length : Int) * ((xs.length : Int) - 1)) = true := by rw [f2]; simp
    have h4 : decide ((flpAll xs.length (xs, 0, 0)).2.2 ≤ max (2 * (xs.length : Int) - 3) 0) = true := decide_eq_true f3
    cases hs : srt xs with
    | true =>
      have h5 : ((flpAll xs.length (xs, 0, 0)).2.2 == 0) = true := by rw [f5 hs]; rfl

      repeat' (first | refine awp_seq_k fun K hK => ?_ | ((with_reducible refine hK _ ?_); clear hK K) | (clear hK K; (with_reducible refine hK _ ?_); clear hK K) | (clear hK K; clear hK K; (with_reducible refine hK _ ?_); clear hK K) | (clear hK K; clear hK K; clear hK K; (with_reducible refine hK _ ?_); clear hK K) | (clear hK K; clear hK K; clear hK K; clear hK K; (with_reducible refine hK _ ?_); clear hK K) | (clear hK K; clear hK K; clear hK K; clear hK K; clear hK K; (with_reducible refine hK _ ?_); clear hK K) | ((with_reducible refine aord_plain fun K hK => ?_); simp only [go_sem, Nat.reduceAdd, Nat.reduceMul, Nat.reduceEqDiff, Nat.reduceLT, reduceIte, reduceCtorEq, hv, mat.matL, DV.agg.injEq, dec_self, sq_beq, sq_bne, f1, h3, h4, h5, hs, Bool.true_and]) | ((with_reducible apply aord_guard); (focus (simp only [St.ev, St.set, upd, Nat.reduceEqDiff, reduceIte, if_false, if_true]; exact rfl)); all_goals (intro hb; (try simp only [Bool.not_true, Bool.not_false] at hb); first | (cases hb; done) | ((try rw [hb]); (try simp only [Bool.not_eq_true', Bool.not_eq_false', Bool.and_eq_true, decide_eq_true_eq, decide_eq_false_iff_not, beq_iff_eq, bne_iff_ne, beq_eq_false_iff_ne, bne_eq_false_iff_eq, Int.not_lt, Int.not_le] at hb); (try (revert hb; with_reducible refine true_imp_iff.2 ?_)); first | (intro K hK; simp only [go_sem, Nat.reduceAdd, Nat.reduceMul, Nat.reduceEqDiff, Nat.reduceLT, reduceIte, reduceCtorEq]) | (simp only [St.ev, St.set, upd, Nat.reduceEqDiff, reduceIte, if_false, if_true]) | skip))) | ((with_reducible apply aord_skip); (focus (simp only [St.ev, St.set, upd, Nat.reduceEqDiff, reduceIte, if_false, if_true]; done)); (simp only [St.ev, St.set, upd, Nat.reduceEqDiff, reduceIte, if_false, if_true])) | refine awp_block ?_ | ((first | with_reducible refine aord_nil ?_ | refine awp_skip ?_ | refine awp_exit ?_ | refine awp_ret ?_); try simp only [thenA_normal, thenA_exit, thenA_goto, thenA_ret, blockA_normal, blockA_same, blockA_exit, blockA_goto, blockA_ret, Nat.reduceEqDiff, if_false, if_true, reduceIte]) | (refine awp_region tabOk rfl ?_; simp only [prep, pickO, List.map_cons, List.map_nil, List.getElem?_toArray, List.getElem?_cons_succ, List.getElem?_cons_zero, Option.bind_some, Option.map_some]) | (refine awp_region_draw (nt := 68) (id := 5) tabOk [(0, true, false), (1, true, false), (2, false, false), (3, false, false), (4, true, false), (5, true, false), (6, true, false), (7, false, false), (8, true, false), (9, true, false), (10, true, false), (11, true, false), (12, true, false), (13, true, false), (14, true, false)] (by kernel_rfl) rfl (by kernel_rfl) ?_; simp only [prep, pickO, List.map_cons, List.map_nil, List.getElem?_toArray, List.getElem?_cons_succ, List.getElem?_cons_zero, Option.bind_some, Option.map_some]) | (refine awp_region_draw (nt := 68) (id := 6) tabOk [(0, true, false), (1, true, false), (2, false, false), (3, false, false), (4, true, false)] (by kernel_rfl) rfl (by kernel_rfl) ?_; simp only [prep, pickO, List.map_cons, List.map_nil, List.getElem?_toArray, List.getElem?_cons_succ, List.getElem?_cons_zero, Option.bind_some, Option.map_some]) | (refine awp_region_draw (nt := 68) (id := 8) tabOk [(0, true, false), (1, true, false), (2, true, false), (3, false, false), (4, false, false), (5, true, false), (6, true, false), (7, true, false), (8, true, false), (9, true, false), (10, true, false), (11, true, false), (12, true, false), (13, true, false), (14, true, false), (15, true, false), (16, true, false), (17, true, false), (18, true, false), (19, true, false), (20, true, false), (21, true, false), (22, true, false), (23, true, false), (24, true, false), (25, true, false), (26, false, false), (27, true, false), (28, true, false), (29, true, false), (30, true, false), (31, true, false), (32, true, false), (33, true, false), (34, true, false)] (by kernel_rfl) rfl (by kernel_rfl) ?_; simp only [prep, pickO, List.map_cons, List.map_nil, List.getElem?_toArray, List.getElem?_cons_succ, List.getElem?_cons_zero, Option.bind_some, Option.map_some]) | ((with_reducible apply awp_cond); (focus (simp only [St.ev, St.set, upd, Nat.reduceEqDiff, reduceIte, if_false, if_true]; exact rfl)); all_goals (intro hb; first | (cases hb; done) | ((try rw [hb]); (try simp only [decide_eq_true_eq, decide_eq_false_iff_not, beq_iff_eq, bne_iff_ne, beq_eq_false_iff_ne, bne_eq_false_iff_eq, Int.not_lt, Int.not_le, Bool.not_eq_true', Bool.not_eq_false'] at hb)))) | ((with_reducible refine And.intro ?_ ?_); (focus omega)) | ((with_reducible refine And.intro ?_ ?_); (focus (exact rfl))) | ((with_reducible refine And.intro (?_ : enters Try.prog 25) ?_); (focus exact Try.call25); (refine callX_sat drawFlipSort_sat ?_); simp only [go_sem, and_assoc, List.nil_append, List.append_nil, List.cons_append, Nat.reduceEqDiff, reduceIte, reduceCtorEq, hv, mat.matL, DV.agg.injEq, dec_self, sq_beq, sq_bne, f1, h3, h4, h5, hs, Bool.true_and]) | ((with_reducible refine And.intro (?_ : enters Try.prog 26) ?_); (focus exact Try.call26); (refine callX_sat implFlipSort_sat ?_); simp only [go_sem, and_assoc, List.nil_append, List.append_nil, List.cons_append, Nat.reduceEqDiff, reduceIte, reduceCtorEq, hv, mat.matL, DV.agg.injEq, dec_self, sq_beq, sq_bne, f1, h3, h4, h5, hs, Bool.true_and]) | ((with_reducible refine And.intro (?_ : enters Try.prog 27) ?_); (focus exact Try.call27); (refine callX_sat specFlipSort_sat ?_); simp only [go_sem, and_assoc, List.nil_append, List.append_nil, List.cons_append, Nat.reduceEqDiff, reduceIte, reduceCtorEq, hv, mat.matL, DV.agg.injEq, dec_self, sq_beq, sq_bne, f1, h3, h4, h5, hs, Bool.true_and]) | ((with_reducible refine And.intro (?_ : enters Try.prog 9) ?_); (focus exact Try.call9); (refine callX_sat equalWork_sat ?_); simp only [go_sem, and_assoc, List.nil_append, List.append_nil, List.cons_append, Nat.reduceEqDiff, reduceIte, reduceCtorEq, hv, mat.matL, DV.agg.injEq, dec_self, sq_beq, sq_bne, f1, h3, h4, h5, hs, Bool.true_and]) | ((with_reducible refine And.intro (?_ : enters Try.prog 11) ?_); (focus exact Try.call11); (refine callX_sat implValidKeys_sat ?_); simp only [go_sem, and_assoc, List.nil_append, List.append_nil, List.cons_append, Nat.reduceEqDiff, reduceIte, reduceCtorEq, hv, mat.matL, DV.agg.injEq, dec_self, sq_beq, sq_bne, f1, h3, h4, h5, hs, Bool.true_and]) | ((with_reducible refine And.intro (?_ : enters Try.prog 13) ?_); (focus exact Try.call13); (refine callX_sat implSortedKeys_sat ?_); simp only [go_sem, and_assoc, List.nil_append, List.append_nil, List.cons_append, Nat.reduceEqDiff, reduceIte, reduceCtorEq, hv, mat.matL, DV.agg.injEq, dec_self, sq_beq, sq_bne, f1, h3, h4, h5, hs, Bool.true_and]) | ((with_reducible refine And.intro (?_ : enters Try.prog 12) ?_); (focus exact Try.call12); (refine callX_sat equalInts_sat ?_); simp only [go_sem, and_assoc, List.nil_append, List.append_nil, List.cons_append, Nat.reduceEqDiff, reduceIte, reduceCtorEq, hv, mat.matL, DV.agg.injEq, dec_self, sq_beq, sq_bne, f1, h3, h4, h5, hs, Bool.true_and]) | ((with_reducible refine And.intro (?_ : enters Try.prog 28) ?_); (focus exact Try.call28); (refine callX_sat implIsSorted_sat ?_); simp only [go_sem, and_assoc, List.nil_append, List.append_nil, List.cons_append, Nat.reduceEqDiff, reduceIte, reduceCtorEq, hv, mat.matL, DV.agg.injEq, dec_self, sq_beq, sq_bne, f1, h3, h4, h5, hs, Bool.true_and]) | (refine aStoreAll_ints (by simp only [St.ev, St.set, upd, Nat.reduceEqDiff, reduceIte, if_false, if_true]; exact rfl) ?_ ?_ ?_ ?_; (focus (first | rfl | omega | (simp; done) | (simp; omega) | (simp [szOf, tab]; done) | (simp [szOf, tab]; omega))); (focus (first | rfl | omega | (simp; done) | (simp; omega) | (simp [szOf, tab]; done) | (simp [szOf, tab]; omega))); (focus (first | rfl | omega | (simp; done) | (simp; omega) | (simp [szOf, tab]; done) | (simp [szOf, tab]; omega))); (try simp only [go_sem, Nat.reduceAdd, Nat.reduceMul, Nat.reduceEqDiff, Nat.reduceLT, reduceIte, reduceCtorEq])) | (refine aStoreAll_cells (by simp only [St.ev, St.set, upd, Nat.reduceEqDiff, reduceIte, if_false, if_true]; exact rfl) ?_ ?_ ?_ ?_ ?_; (focus (first | rfl | omega | (simp; done) | (simp; omega) | (simp [szOf, tab]; done) | (simp [szOf, tab]; omega))); (focus (first | rfl | omega | (simp; done) | (simp; omega) | (simp [szOf, tab]; done) | (simp [szOf, tab]; omega))); (focus (first | rfl | omega | (simp; done) | (simp; omega) | (simp [szOf, tab]; done) | (simp [szOf, tab]; omega))); (focus (first | rfl | (simp [AV.cell, Value.oneCell']; done))); (try simp only [go_sem, Nat.reduceAdd, Nat.reduceMul, Nat.reduceEqDiff, Nat.reduceLT, reduceIte, reduceCtorEq])) | (with_reducible refine And.intro (fun hb => ?_) (fun hb => ?_)) | (exfalso; omega) | fail)
      all_goals (simp only [St.set, St.ev, doneQ, doneH, ressK, resK, wrapR, AV.ids, AV.idsL, retK, retsK, upd, Nat.reduceEqDiff, reduceIte, if_false, if_true, List.nodup_nil, List.nodup_cons, List.not_mem_nil, not_false_eq_true, true_and, and_true, exists_eq_left', Option.some.injEq, rLoad, cellOf, tab, Ty.isAgg, Ty.one, Bool.false_eq_true]; exact hQ)
    | false =>

      repeat' (first | refine awp_seq_k fun K hK => ?_ | ((with_reducible refine hK _ ?_); clear hK K) | (clear hK K; (with_reducible refine hK _ ?_); clear hK K) | (clear hK K; clear hK K; (with_reducible refine hK _ ?_); clear hK K) | (clear hK K; clear hK K; clear hK K; (with_reducible refine hK _ ?_); clear hK K) | (clear hK K; clear hK K; clear hK K; clear hK K; (with_reducible refine hK _ ?_); clear hK K) | (clear hK K; clear hK K; clear hK K; clear hK K; clear hK K; (with_reducible refine hK _ ?_); clear hK K) | ((with_reducible refine aord_plain fun K hK => ?_); simp only [go_sem, Nat.reduceAdd, Nat.reduceMul, Nat.reduceEqDiff, Nat.reduceLT, reduceIte, reduceCtorEq, hv, mat.matL, DV.agg.injEq, dec_self, sq_beq, sq_bne, f1, h3, h4, hs, Bool.true_and]) | ((with_reducible apply aord_guard); (focus (simp only [St.ev, St.set, upd, Nat.reduceEqDiff, reduceIte, if_false, if_true]; exact rfl)); all_goals (intro hb; (try simp only [Bool.not_true, Bool.not_false] at hb); first | (cases hb; done) | ((try rw [hb]); (try simp only [Bool.not_eq_true', Bool.not_eq_false', Bool.and_eq_true, decide_eq_true_eq, decide_eq_false_iff_not, beq_iff_eq, bne_iff_ne, beq_eq_false_iff_ne, bne_eq_false_iff_eq, Int.not_lt, Int.not_le] at hb); (try (revert hb; with_reducible refine true_imp_iff.2 ?_)); first | (intro K hK; simp only [go_sem, Nat.reduceAdd, Nat.reduceMul, Nat.reduceEqDiff, Nat.reduceLT, reduceIte, reduceCtorEq]) | (simp only [St.ev, St.set, upd, Nat.reduceEqDiff, reduceIte, if_false, if_true]) | skip))) | ((with_reducible apply aord_skip); (focus (simp only [St.ev, St.set, upd, Nat.reduceEqDiff, reduceIte, if_false, if_true]; done)); (simp only [St.ev, St.set, upd, Nat.reduceEqDiff, reduceIte, if_false, if_true])) | refine awp_block ?_ | ((first | with_reducible refine aord_nil ?_ | refine awp_skip ?_ | refine awp_exit ?_ | refine awp_ret ?_); try simp only [thenA_normal, thenA_exit, thenA_goto, thenA_ret, blockA_normal, blockA_same, blockA_exit, blockA_goto, blockA_ret, Nat.reduceEqDiff, if_false, if_true, reduceIte]) | (refine awp_region tabOk rfl ?_; simp only [prep, pickO, List.map_cons, List.map_nil, List.getElem?_toArray, List.getElem?_cons_succ, List.getElem?_cons_zero, Option.bind_some, Option.map_some]) | (refine awp_region_draw (nt := 68) (id := 5) tabOk [(0, true, false), (1, true, false), (2, false, false), (3, false, false), (4, true, false), (5, true, false), (6, true, false), (7, false, false), (8, true, false), (9, true, false), (10, true, false), (11, true, false), (12, true, false), (13, true, false), (14, true, false)] (by kernel_rfl) rfl (by kernel_rfl) ?_; simp only [prep, pickO, List.map_cons, List.map_nil, List.getElem?_toArray, List.getElem?_cons_succ, List.getElem?_cons_zero, Option.bind_some, Option.map_some]) | (refine awp_region_draw (nt := 68) (id := 6) tabOk [(0, true, false), (1, true, false), (2, false, false), (3, false, false), (4, true, false)] (by kernel_rfl) rfl (by kernel_rfl) ?_; simp only [prep, pickO, List.map_cons, List.map_nil, List.getElem?_toArray, List.getElem?_cons_succ, List.getElem?_cons_zero, Option.bind_some, Option.map_some]) | (refine awp_region_draw (nt := 68) (id := 8) tabOk [(0, true, false), (1, true, false), (2, true, false), (3, false, false), (4, false, false), (5, true, false), (6, true, false), (7, true, false), (8, true, false), (9, true, false), (10, true, false), (11, true, false), (12, true, false), (13, true, false), (14, true, false), (15, true, false), (16, true, false), (17, true, false), (18, true, false), (19, true, false), (20, true, false), (21, true, false), (22, true, false), (23, true, false), (24, true, false), (25, true, false), (26, false, false), (27, true, false), (28, true, false), (29, true, false), (30, true, false), (31, true, false), (32, true, false), (33, true, false), (34, true, false)] (by kernel_rfl) rfl (by kernel_rfl) ?_; simp only [prep, pickO, List.map_cons, List.map_nil, List.getElem?_toArray, List.getElem?_cons_succ, List.getElem?_cons_zero, Option.bind_some, Option.map_some]) | ((with_reducible apply awp_cond); (focus (simp only [St.ev, St.set, upd, Nat.reduceEqDiff, reduceIte, if_false, if_true]; exact rfl)); all_goals (intro hb; first | (cases hb; done) | ((try rw [hb]); (try simp only [decide_eq_true_eq, decide_eq_false_iff_not, beq_iff_eq, bne_iff_ne, beq_eq_false_iff_ne, bne_eq_false_iff_eq, Int.not_lt, Int.not_le, Bool.not_eq_true', Bool.not_eq_false'] at hb)))) | ((with_reducible refine And.intro ?_ ?_); (focus omega)) | ((with_reducible refine And.intro ?_ ?_); (focus (exact rfl))) | ((with_reducible refine And.intro (?_ : enters Try.prog 25) ?_); (focus exact Try.call25); (refine callX_sat drawFlipSort_sat ?_); simp only [go_sem, and_assoc, List.nil_append, List.append_nil, List.cons_append, Nat.reduceEqDiff, reduceIte, reduceCtorEq, hv, mat.matL, DV.agg.injEq, dec_self, sq_beq, sq_bne, f1, h3, h4, hs, Bool.true_and]) | ((with_reducible refine And.intro (?_ : enters Try.prog 26) ?_); (focus exact Try.call26); (refine callX_sat implFlipSort_sat ?_); simp only [go_sem, and_assoc, List.nil_append, List.append_nil, List.cons_append, Nat.reduceEqDiff, reduceIte, reduceCtorEq, hv, mat.matL, DV.agg.injEq, dec_self, sq_beq, sq_bne, f1, h3, h4, hs, Bool.true_and]) | ((with_reducible refine And.intro (?_ : enters Try.prog 27) ?_); (focus exact Try.call27); (refine callX_sat specFlipSort_sat ?_); simp only [go_sem, and_assoc, List.nil_append, List.append_nil, List.cons_append, Nat.reduceEqDiff, reduceIte, reduceCtorEq, hv, mat.matL, DV.agg.injEq, dec_self, sq_beq, sq_bne, f1, h3, h4, hs, Bool.true_and]) | ((with_reducible refine And.intro (?_ : enters Try.prog 9) ?_); (focus exact Try.call9); (refine callX_sat equalWork_sat ?_); simp only [go_sem, and_assoc, List.nil_append, List.append_nil, List.cons_append, Nat.reduceEqDiff, reduceIte, reduceCtorEq, hv, mat.matL, DV.agg.injEq, dec_self, sq_beq, sq_bne, f1, h3, h4, hs, Bool.true_and]) | ((with_reducible refine And.intro (?_ : enters Try.prog 11) ?_); (focus exact Try.call11); (refine callX_sat implValidKeys_sat ?_); simp only [go_sem, and_assoc, List.nil_append, List.append_nil, List.cons_append, Nat.reduceEqDiff, reduceIte, reduceCtorEq, hv, mat.matL, DV.agg.injEq, dec_self, sq_beq, sq_bne, f1, h3, h4, hs, Bool.true_and]) | ((with_reducible refine And.intro (?_ : enters Try.prog 13) ?_); (focus exact Try.call13); (refine callX_sat implSortedKeys_sat ?_); simp only [go_sem, and_assoc, List.nil_append, List.append_nil, List.cons_append, Nat.reduceEqDiff, reduceIte, reduceCtorEq, hv, mat.matL, DV.agg.injEq, dec_self, sq_beq, sq_bne, f1, h3, h4, hs, Bool.true_and]) | ((with_reducible refine And.intro (?_ : enters Try.prog 12) ?_); (focus exact Try.call12); (refine callX_sat equalInts_sat ?_); simp only [go_sem, and_assoc, List.nil_append, List.append_nil, List.cons_append, Nat.reduceEqDiff, reduceIte, reduceCtorEq, hv, mat.matL, DV.agg.injEq, dec_self, sq_beq, sq_bne, f1, h3, h4, hs, Bool.true_and]) | ((with_reducible refine And.intro (?_ : enters Try.prog 28) ?_); (focus exact Try.call28); (refine callX_sat implIsSorted_sat ?_); simp only [go_sem, and_assoc, List.nil_append, List.append_nil, List.cons_append, Nat.reduceEqDiff, reduceIte, reduceCtorEq, hv, mat.matL, DV.agg.injEq, dec_self, sq_beq, sq_bne, f1, h3, h4, hs, Bool.true_and]) | (refine aStoreAll_ints (by simp only [St.ev, St.set, upd, Nat.reduceEqDiff, reduceIte, if_false, if_true]; exact rfl) ?_ ?_ ?_ ?_; (focus (first | rfl | omega | (simp; done) | (simp; omega) | (simp [szOf, tab]; done) | (simp [szOf, tab]; omega))); (focus (first | rfl | omega | (simp; done) | (simp; omega) | (simp [szOf, tab]; done) | (simp [szOf, tab]; omega))); (focus (first | rfl | omega | (simp; done) | (simp; omega) | (simp [szOf, tab]; done) | (simp [szOf, tab]; omega))); (try simp only [go_sem, Nat.reduceAdd, Nat.reduceMul, Nat.reduceEqDiff, Nat.reduceLT, reduceIte, reduceCtorEq])) | (refine aStoreAll_cells (by simp only [St.ev, St.set, upd, Nat.reduceEqDiff, reduceIte, if_false, if_true]; exact rfl) ?_ ?_ ?_ ?_ ?_; (focus (first | rfl | omega | (simp; done) | (simp; omega) | (simp [szOf, tab]; done) | (simp [szOf, tab]; omega))); (focus (first | rfl | omega | (simp; done) | (simp; omega) | (simp [szOf, tab]; done) | (simp [szOf, tab]; omega))); (focus (first | rfl | omega | (simp; done) | (simp; omega) | (simp [szOf, tab]; done) | (simp [szOf, tab]; omega))); (focus (first | rfl | (simp [AV.cell, Value.oneCell']; done))); (try simp only [go_sem, Nat.reduceAdd, Nat.reduceMul, Nat.reduceEqDiff, Nat.reduceLT, reduceIte, reduceCtorEq])) | (with_reducible refine And.intro (fun hb => ?_) (fun hb => ?_)) | (exfalso; omega) | fail)
      all_goals (simp only [St.set, St.ev, doneQ, doneH, ressK, resK, wrapR, AV.ids, AV.idsL, retK, retsK, upd, Nat.reduceEqDiff, reduceIte, if_false, if_true, List.nodup_nil, List.nodup_cons, List.not_mem_nil, not_false_eq_true, true_and, and_true, exists_eq_left', Option.some.injEq, rLoad, cellOf, tab, Ty.isAgg, Ty.one, Bool.false_eq_true]; exact hQ)
  · skip

    repeat' (first | refine awp_seq_k fun K hK => ?_ | ((with_reducible refine hK _ ?_); clear hK K) | (clear hK K; (with_reducible refine hK _ ?_); clear hK K) | (clear hK K; clear hK K; (with_reducible refine hK _ ?_); clear hK K) | (clear hK K; clear hK K; clear hK K; (with_reducible refine hK _ ?_); clear hK K) | (clear hK K; clear hK K; clear hK K; clear hK K; (with_reducible refine hK _ ?_); clear hK K) | (clear hK K; clear hK K; clear hK K; clear hK K; clear hK K; (with_reducible refine hK _ ?_); clear hK K) | ((with_reducible refine aord_plain fun K hK => ?_); simp only [go_sem, Nat.reduceAdd, Nat.reduceMul, Nat.reduceEqDiff, Nat.reduceLT, reduceIte, reduceCtorEq, hv, mat.matL, DV.agg.injEq, dec_self, sq_beq, sq_bne]) | ((with_reducible apply aord_guard); (focus (simp only [St.ev, St.set, upd, Nat.reduceEqDiff, reduceIte, if_false, if_true]; exact rfl)); all_goals (intro hb; (try simp only [Bool.not_true, Bool.not_false] at hb); first | (cases hb; done) | ((try rw [hb]); (try simp only [Bool.not_eq_true', Bool.not_eq_false', Bool.and_eq_true, decide_eq_true_eq, decide_eq_false_iff_not, beq_iff_eq, bne_iff_ne, beq_eq_false_iff_ne, bne_eq_false_iff_eq, Int.not_lt, Int.not_le] at hb); (try (revert hb; with_reducible refine true_imp_iff.2 ?_)); first | (intro K hK; simp only [go_sem, Nat.reduceAdd, Nat.reduceMul, Nat.reduceEqDiff, Nat.reduceLT, reduceIte, reduceCtorEq]) | (simp only [St.ev, St.set, upd, Nat.reduceEqDiff, reduceIte, if_false, if_true]) | skip))) | ((with_reducible apply aord_skip); (focus (simp only [St.ev, St.set, upd, Nat.reduceEqDiff, reduceIte, if_false, if_true]; done)); (simp only [St.ev, St.set, upd, Nat.reduceEqDiff, reduceIte, if_false, if_true])) | refine awp_block ?_ | ((first | with_reducible refine aord_nil ?_ | refine awp_skip ?_ | refine awp_exit ?_ | refine awp_ret ?_); try simp only [thenA_normal, thenA_exit, thenA_goto, thenA_ret, blockA_normal, blockA_same, blockA_exit, blockA_goto, blockA_ret, Nat.reduceEqDiff, if_false, if_true, reduceIte]) | (refine awp_region tabOk rfl ?_; simp only [prep, pickO, List.map_cons, List.map_nil, List.getElem?_toArray, List.getElem?_cons_succ, List.getElem?_cons_zero, Option.bind_some, Option.map_some]) | (refine awp_region_draw (nt := 68) (id := 5) tabOk [(0, true, false), (1, true, false), (2, false, false), (3, false, false), (4, true, false), (5, true, false), (6, true, false), (7, false, false), (8, true, false), (9, true, false), (10, true, false), (11, true, false), (12, true, false), (13, true, false), (14, true, false)] (by kernel_rfl) rfl (by kernel_rfl) ?_; simp only [prep, pickO, List.map_cons, List.map_nil, List.getElem?_toArray, List.getElem?_cons_succ, List.getElem?_cons_zero, Option.bind_some, Option.map_some]) | (refine awp_region_draw (nt := 68) (id := 6) tabOk [(0, true, false), (1, true, false), (2, false, false), (3, false, false), (4, true, false)] (by kernel_rfl) rfl (by kernel_rfl) ?_; simp only [prep, pickO, List.map_cons, List.map_nil, List.getElem?_toArray, List.getElem?_cons_succ, List.getElem?_cons_zero, Option.bind_some, Option.map_some]) | (refine awp_region_draw (nt := 68) (id := 8) tabOk [(0, true, false), (1, true, false), (2, true, false), (3, false, false), (4, false, false), (5, true, false), (6, true, false), (7, true, false), (8, true, false), (9, true, false), (10, true, false), (11, true, false), (12, true, false), (13, true, false), (14, true, false), (15, true, false), (16, true, false), (17, true, false), (18, true, false), (19, true, false), (20, true, false), (21, true, false), (22, true, false), (23, true, false), (24, true, false), (25, true, false), (26, false, false), (27, true, false), (28, true, false), (29, true, false), (30, true, false), (31, true, false), (32, true, false), (33, true, false), (34, true, false)] (by kernel_rfl) rfl (by kernel_rfl) ?_; simp only [prep, pickO, List.map_cons, List.map_nil, List.getElem?_toArray, List.getElem?_cons_succ, List.getElem?_cons_zero, Option.bind_some, Option.map_some]) | ((with_reducible apply awp_cond); (focus (simp only [St.ev, St.set, upd, Nat.reduceEqDiff, reduceIte, if_false, if_true]; exact rfl)); all_goals (intro hb; first | (cases hb; done) | ((try rw [hb]); (try simp only [decide_eq_true_eq, decide_eq_false_iff_not, beq_iff_eq, bne_iff_ne, beq_eq_false_iff_ne, bne_eq_false_iff_eq, Int.not_lt, Int.not_le, Bool.not_eq_true', Bool.not_eq_false'] at hb)))) | ((with_reducible refine And.intro ?_ ?_); (focus omega)) | ((with_reducible refine And.intro ?_ ?_); (focus (exact rfl))) | ((with_reducible refine And.intro (?_ : enters Try.prog 25) ?_); (focus exact Try.call25); (refine callX_sat drawFlipSort_sat ?_); simp only [go_sem, and_assoc, List.nil_append, List.append_nil, List.cons_append, Nat.reduceEqDiff, reduceIte, reduceCtorEq, hv, mat.matL, DV.agg.injEq, dec_self, sq_beq, sq_bne]) | ((with_reducible refine And.intro (?_ : enters Try.prog 26) ?_); (focus exact Try.call26); (refine callX_sat implFlipSort_sat ?_); simp only [go_sem, and_assoc, List.nil_append, List.append_nil, List.cons_append, Nat.reduceEqDiff, reduceIte, reduceCtorEq, hv, mat.matL, DV.agg.injEq, dec_self, sq_beq, sq_bne]) | ((with_reducible refine And.intro (?_ : enters Try.prog 27) ?_); (focus exact Try.call27); (refine callX_sat specFlipSort_sat ?_); simp only [go_sem, and_assoc, List.nil_append, List.append_nil, List.cons_append, Nat.reduceEqDiff, reduceIte, reduceCtorEq, hv, mat.matL, DV.agg.injEq, dec_self, sq_beq, sq_bne]) | ((with_reducible refine And.intro (?_ : enters Try.prog 9) ?_); (focus exact Try.call9); (refine callX_sat equalWork_sat ?_); simp only [go_sem, and_assoc, List.nil_append, List.append_nil, List.cons_append, Nat.reduceEqDiff, reduceIte, reduceCtorEq, hv, mat.matL, DV.agg.injEq, dec_self, sq_beq, sq_bne]) | ((with_reducible refine And.intro (?_ : enters Try.prog 11) ?_); (focus exact Try.call11); (refine callX_sat implValidKeys_sat ?_); simp only [go_sem, and_assoc, List.nil_append, List.append_nil, List.cons_append, Nat.reduceEqDiff, reduceIte, reduceCtorEq, hv, mat.matL, DV.agg.injEq, dec_self, sq_beq, sq_bne]) | ((with_reducible refine And.intro (?_ : enters Try.prog 13) ?_); (focus exact Try.call13); (refine callX_sat implSortedKeys_sat ?_); simp only [go_sem, and_assoc, List.nil_append, List.append_nil, List.cons_append, Nat.reduceEqDiff, reduceIte, reduceCtorEq, hv, mat.matL, DV.agg.injEq, dec_self, sq_beq, sq_bne]) | ((with_reducible refine And.intro (?_ : enters Try.prog 12) ?_); (focus exact Try.call12); (refine callX_sat equalInts_sat ?_); simp only [go_sem, and_assoc, List.nil_append, List.append_nil, List.cons_append, Nat.reduceEqDiff, reduceIte, reduceCtorEq, hv, mat.matL, DV.agg.injEq, dec_self, sq_beq, sq_bne]) | ((with_reducible refine And.intro (?_ : enters Try.prog 28) ?_); (focus exact Try.call28); (refine callX_sat implIsSorted_sat ?_); simp only [go_sem, and_assoc, List.nil_append, List.append_nil, List.cons_append, Nat.reduceEqDiff, reduceIte, reduceCtorEq, hv, mat.matL, DV.agg.injEq, dec_self, sq_beq, sq_bne]) | (refine aStoreAll_ints (by simp only [St.ev, St.set, upd, Nat.reduceEqDiff, reduceIte, if_false, if_true]; exact rfl) ?_ ?_ ?_ ?_; (focus (first | rfl | omega | (simp; done) | (simp; omega) | (simp [szOf, tab]; done) | (simp [szOf, tab]; omega))); (focus (first | rfl | omega | (simp; done) | (simp; omega) | (simp [szOf, tab]; done) | (simp [szOf, tab]; omega))); (focus (first | rfl | omega | (simp; done) | (simp; omega) | (simp [szOf, tab]; done) | (simp [szOf, tab]; omega))); (try simp only [go_sem, Nat.reduceAdd, Nat.reduceMul, Nat.reduceEqDiff, Nat.reduceLT, reduceIte, reduceCtorEq])) | (refine aStoreAll_cells (by simp only [St.ev, St.set, upd, Nat.reduceEqDiff, reduceIte, if_false, if_true]; exact rfl) ?_ ?_ ?_ ?_ ?_; (focus (first | rfl | omega | (simp; done) | (simp; omega) | (simp [szOf, tab]; done) | (simp [szOf, tab]; omega))); (focus (first | rfl | omega | (simp; done) | (simp; omega) | (simp [szOf, tab]; done) | (simp [szOf, tab]; omega))); (focus (first | rfl | omega | (simp; done) | (simp; omega) | (simp [szOf, tab]; done) | (simp [szOf, tab]; omega))); (focus (first | rfl | (simp [AV.cell, Value.oneCell']; done))); (try simp only [go_sem, Nat.reduceAdd, Nat.reduceMul, Nat.reduceEqDiff, Nat.reduceLT, reduceIte, reduceCtorEq])) | (with_reducible refine And.intro (fun hb => ?_) (fun hb => ?_)) | (exfalso; omega) | fail)
    simp only [St.set, St.ev, doneQ, doneH, ressK, resK, wrapR, AV.ids, AV.idsL, retK, retsK, upd, Nat.reduceEqDiff, reduceIte, if_false, if_true, List.nodup_nil, List.nodup_cons, List.not_mem_nil, not_false_eq_true, true_and, and_true, exists_eq_left', Option.some.injEq, rLoad, cellOf, tab, Ty.isAgg, Ty.one, Bool.false_eq_true]
    exact hQ

theorem down_all {p : Nat} : ∀ (k : Nat) (zs : List Int) (m : Int), p ≤ k → k < zs.length → (∀ j, p ≤ j → j < k → zs.getD k 0 < zs.getD j 0) → (downTo p k zs m).1.Perm zs ∧ (downTo p k zs m).2 + invL (downTo p k zs m).1 = m + invL zs ∧ ∀ j, (downTo p k zs m).1.getD j 0 = if j = p then zs.getD k 0 else if p < j ∧ j ≤ k then zs.getD (j - 1) 0 else zs.getD j 0
  | 0, zs, m, h, hl, hx => by
    rw [downTo]
    refine ⟨List.Perm.refl _, rfl, fun j => ?_⟩
    by_cases e : j = p
    · rw [if_pos e, e, show p = 0 by omega]
    · rw [if_neg e, if_neg (by omega)]
  | k + 1, zs, m, h, hl, hx => by
    by_cases hp : p ≤ k
    · rw [downTo, if_pos hp]
      have hg := swp_get (xs := zs) (a := k) (b := k + 1) (by omega) hl
      have hv := inv_adj zs k hl (hx k hp (by omega))
      obtain ⟨i1, i2, i3⟩ := down_all k (swp zs k (k + 1)) (m + 1) hp (by rw [swp_len]; omega) (fun j h1 h2 => by
        rw [hg k, if_neg (by omega), if_pos rfl, hg j, if_neg (by omega), if_neg (by omega)]; exact hx j h1 (by omega))
      refine ⟨i1.trans (swp_perm (by omega) hl), by omega, fun j => ?_⟩
      rw [i3 j, hg k, if_neg (show ¬ k = k + 1 by omega), if_pos rfl]
      by_cases e : j = p
      · rw [if_pos e, if_pos e]
      · rw [if_neg e, if_neg e]
        by_cases e2 : p < j ∧ j ≤ k
        · rw [if_pos e2, if_pos (by omega), hg (j - 1), if_neg (by omega), if_neg (by omega)]
        · rw [if_neg e2, hg j]
          by_cases e3 : j = k + 1
          · rw [if_pos e3, if_pos (by omega), e3]; rfl
          · rw [if_neg e3, if_neg (show ¬ j = k by omega), if_neg (by omega)]
    · rw [downTo, if_neg hp]
      refine ⟨List.Perm.refl _, rfl, fun j => ?_⟩
      by_cases e : j = p
      · rw [if_pos e, e, show p = k + 1 by omega]
      · rw [if_neg e, if_neg (by omega)]
theorem binS_all {ys : List Int} {i : Nat} (hs : ∀ a b, a < b → b < i → ys.getD a 0 ≤ ys.getD b 0) : ∀ (f lo hi : Nat) (a : Int), hi - lo ≤ f → lo ≤ hi → hi ≤ i → (∀ j, j < lo → ys.getD j 0 ≤ ys.getD i 0) → (∀ j, hi ≤ j → j < i → ys.getD i 0 < ys.getD j 0) → (binS ys i lo hi a).1 ≤ i ∧ (∀ j, j < (binS ys i lo hi a).1 → ys.getD j 0 ≤ ys.getD i 0) ∧ (∀ j, (binS ys i lo hi a).1 ≤ j → j < i → ys.getD i 0 < ys.getD j 0) ∧ a ≤ (binS ys i lo hi a).2 ∧ (binS ys i lo hi a).2 ≤ a + (lgF (hi - lo + 1) : Nat) ∧ (lo < hi → a + 1 ≤ (binS ys i lo hi a).2)
  | 0, lo, hi, a, hf, h1, h2, h3, h4 => by
    rw [binS_end (by omega)]
    exact ⟨by simp only; omega, h3, fun j q1 q2 => h4 j (by simp only at q1; omega) q2, by simp, by simp only; omega, fun h => by omega⟩
  | f + 1, lo, hi, a, hf, h1, h2, h3, h4 => by
    by_cases hlt : lo < hi
    · obtain ⟨md, hm⟩ : ∃ md, md = (lo + hi) / 2 := ⟨_, rfl⟩
      have hlg := lgF_half (k := hi - lo + 1) (by omega)
      rcases Int.lt_or_le (ys.getD i 0) (ys.getD md 0) with hc | hc
      · rw [← binS_lo hlt hm hc]
        have ih := binS_all hs f lo md (a + 1) (by omega) (by omega) (by omega) h3 (fun j q1 q2 => by
          by_cases e : j = md
          · rw [e]; exact hc
          · have := hs md j (by omega) q2; omega)
        have hmono : lgF (md - lo + 1) ≤ lgF ((hi - lo + 1 + 1) / 2) := dbl_mono _ _ _ 1 0 (Nat.le_add_left _ _) (by omega) (by omega)
        exact ⟨ih.1, ih.2.1, ih.2.2.1, by omega, by omega, fun _ => ih.2.2.2.1⟩
      · rw [← binS_hi hlt hm hc]
        have ih := binS_all hs f (md + 1) hi (a + 1) (by omega) (by omega) h2 (fun j q1 => by
          by_cases e : j = md
          · rw [e]; exact hc
          · have := hs j md (by omega) (by omega); omega) h4
        have hmono : lgF (hi - (md + 1) + 1) ≤ lgF ((hi - lo + 1 + 1) / 2) := dbl_mono _ _ _ 1 0 (Nat.le_add_left _ _) (by omega) (by omega)
        exact ⟨ih.1, ih.2.1, ih.2.2.1, by omega, by omega, fun _ => ih.2.2.2.1⟩
    · rw [binS_end (by omega)]
      exact ⟨by simp only; omega, h3, fun j q1 q2 => h4 j (by simp only at q1; omega) q2, by simp, by simp only; omega, fun h => by omega⟩
theorem binTo_all (xs : List Int) : ∀ i, i ≤ xs.length → (binTo xs i).1.Perm xs ∧ (binTo xs i).2.2 + invL (binTo xs i).1 = invL xs ∧ (binTo xs i).2.1 ≤ (sumF lgF i : Nat) ∧ (i : Int) - 1 ≤ (binTo xs i).2.1 ∧ 0 ≤ (binTo xs i).2.1 ∧ ∀ a b, a < b → b < i → (binTo xs i).1.getD a 0 ≤ (binTo xs i).1.getD b 0
  | 0, _ => ⟨List.Perm.refl _, by simp [binTo], by simp [binTo, sumF], by simp [binTo], by simp [binTo], fun a b h1 h2 => by omega⟩
  | i + 1, h => by
    have hall := binTo_all xs i (by omega)
    obtain ⟨ys, a, m, ht⟩ : ∃ ys a m, binTo xs i = (ys, a, m) := ⟨_, _, _, rfl⟩
    rw [ht] at hall
    simp only at hall
    obtain ⟨i1, i2, i3, i4, i5, i6⟩ := hall
    have hl := i1.length_eq
    have hb := binS_all i6 i 0 i a (by omega) (by omega) (Nat.le_refl _) (fun j q => by omega) (fun j q1 q2 => by omega)
    obtain ⟨p, b, hpb⟩ : ∃ p b, binS ys i 0 i a = (p, b) := ⟨_, _, rfl⟩
    rw [hpb] at hb
    simp only at hb
    obtain ⟨b1, b2, b3, b4, b5, b6⟩ := hb
    have hd := down_all (p := p) i ys m b1 (by omega) b3
    obtain ⟨zs, c, hzc⟩ : ∃ zs c, downTo p i ys m = (zs, c) := ⟨_, _, rfl⟩
    rw [hzc] at hd
    simp only at hd
    obtain ⟨d1, d2, d3⟩ := hd
    rw [binTo_step ht hpb hzc]
    have hsum : sumF lgF (i + 1) = sumF lgF i + lgF (i + 1) := rfl
    rw [Nat.sub_zero] at b5
    refine ⟨d1.trans i1, by simp only; omega, by simp only; omega, ?_, by simp only; omega, fun x y q1 q2 => ?_⟩
    · simp only
      rcases Nat.eq_zero_or_pos i with h0 | h0
      · omega
      · have := b6 h0; omega
    · simp only
      rw [d3 x, d3 y]
      by_cases e1 : y = p
      · rw [if_pos e1, if_neg (by omega), if_neg (by omega)]; exact b2 x (by omega)
      · rw [if_neg e1]
        by_cases e2 : x = p
        · rw [if_pos e2, if_pos (by omega)]
          have := b3 (y - 1) (by omega) (by omega); omega
        · rw [if_neg e2]
          by_cases e3 : p < y
          · rw [if_pos (show p < y ∧ y ≤ i by omega)]
            by_cases e4 : p < x
            · rw [if_pos (by omega)]; exact i6 (x - 1) (y - 1) (by omega) (by omega)
            · rw [if_neg (by omega)]
              have := b2 x (by omega)
              have := b3 (y - 1) (by omega) (by omega)
              omega
          · rw [if_neg (by omega), if_neg (by omega)]; exact i6 x y q1 (by omega)
theorem bin_fin (xs : List Int) : (binTo xs xs.length).1 = ordL xs ∧ (binTo xs xs.length).2.2 = invTo xs xs.length ∧ (binTo xs xs.length).2.1 ≤ (sumF lgF xs.length : Nat) ∧ (xs.length : Int) - 1 ≤ (binTo xs xs.length).2.1 := by
  obtain ⟨i1, i2, i3, i4, i5, i6⟩ := binTo_all xs xs.length (Nat.le_refl _)
  have hl := i1.length_eq
  have hs : srt (binTo xs xs.length).1 = true := srt_of fun x y h1 h2 => i6 x y h1 (by omega)
  have := inv_sorted hs
  rw [invTo_L]
  exact ⟨srt_uniq hs i1, by omega, i3, i4⟩

theorem drawBinarySort_sat : Sat Try.prog 7 (fun ds Q => ∃ bs, ds = [.row (.ints .u8 bs)] ∧ bs.length ≤ 1099511627776 ∧ bytesOk bs ∧ ∀ ys : List Int, ys.length ≤ 17 → Q (.row (.ints .i64 ys))) := by
  refine sat_intro tabOk Try.func7 rfl 6 rfl [.tmp 2] rfl ?_
  rintro ds Q W ⟨bs, rfl, hlen, hbs, hQ⟩
  refine ⟨Nat.le_of_ble_eq_true rfl, ?_⟩
  simp only [initS, initT, mat.matL, mat, Cont.len]
  repeat' (first | refine awp_seq_k fun K hK => ?_ | ((with_reducible refine hK _ ?_); clear hK K) | (clear hK K; (with_reducible refine hK _ ?_); clear hK K) | (clear hK K; clear hK K; (with_reducible refine hK _ ?_); clear hK K) | (clear hK K; clear hK K; clear hK K; (with_reducible refine hK _ ?_); clear hK K) | (clear hK K; clear hK K; clear hK K; clear hK K; (with_reducible refine hK _ ?_); clear hK K) | (clear hK K; clear hK K; clear hK K; clear hK K; clear hK K; (with_reducible refine hK _ ?_); clear hK K) | ((with_reducible refine aord_plain fun K hK => ?_); simp only [go_sem, Nat.reduceAdd, Nat.reduceMul, Nat.reduceEqDiff, Nat.reduceLT, reduceIte, reduceCtorEq, Int.toNat_zero]) | refine awp_block ?_ | ((first | with_reducible refine aord_nil ?_ | refine awp_skip ?_ | refine awp_exit ?_ | refine awp_ret ?_); try simp only [thenA_normal, thenA_exit, thenA_goto, thenA_ret, blockA_normal, blockA_same, blockA_exit, blockA_goto, blockA_ret, Nat.reduceEqDiff, if_false, if_true, reduceIte]) | (refine awp_region tabOk rfl ?_; simp only [prep, pickO, List.map_cons, List.map_nil, List.getElem?_toArray, List.getElem?_cons_succ, List.getElem?_cons_zero, Option.bind_some, Option.map_some]) | ((with_reducible apply awp_cond); (focus (simp only [St.ev, St.set, upd, Nat.reduceEqDiff, reduceIte, if_false, if_true]; exact rfl)); all_goals (intro hb; first | (cases hb; done) | ((try rw [hb]); (try simp only [decide_eq_true_eq, decide_eq_false_iff_not, beq_iff_eq, bne_iff_ne, beq_eq_false_iff_ne, bne_eq_false_iff_eq, Int.not_lt, Int.not_le, Bool.not_eq_true', Bool.not_eq_false'] at hb)))) | ((with_reducible refine And.intro ?_ ?_); (focus omega)) | ((with_reducible refine And.intro ?_ ?_); (focus (exact rfl))) | ((with_reducible refine And.intro (?_ : enters Try.prog 29) ?_); (focus exact Try.call29); (refine callX_satH someKeys_sat ?_); simp only [go_sem, and_assoc, List.nil_append, List.append_nil, List.cons_append, Nat.reduceEqDiff, reduceIte, reduceCtorEq, Int.toNat_zero]) | ((with_reducible refine And.intro (?_ : enters Try.prog 30) ?_); (focus exact Try.call30); (refine callX_h (callH_inline tabOk Try.func30 rfl 11 rfl [.tmp 2] rfl (Nat.le_of_ble_eq_true rfl) fun m0 hm0 hcl hlt => ?_)); simp only [initT, St.ev, St.set, upd, Nat.reduceEqDiff, reduceIte, if_false, if_true]) | (simp only [rBuild]; simp only [fillA, Nat.reduceLeDiff, List.getElem?_cons_zero, List.getElem?_cons_succ, List.drop_succ_cons, List.drop_nil, List.take_nil, List.cons_append, Option.isSome_some, go_sem, Nat.reduceAdd, Nat.reduceMul, Nat.reduceEqDiff, Nat.reduceLT, reduceIte, reduceCtorEq]) | (simp only [doneH]; simp only [ressK, resK, wrapR, go_sem, Nat.reduceAdd, Nat.reduceMul, Nat.reduceEqDiff, Nat.reduceLT, reduceIte, reduceCtorEq]) | (with_reducible refine And.intro (fun hb => ?_) (fun hb => ?_)) | (exfalso; omega) | fail)
  all_goals (
    refine ⟨_, _, 0, rfl, by omega, by omega, hbs, by omega, ?_⟩
    intro ys r hys hr)
  repeat' (first | refine awp_seq_k fun K hK => ?_ | ((with_reducible refine hK _ ?_); clear hK K) | (clear hK K; (with_reducible refine hK _ ?_); clear hK K) | (clear hK K; clear hK K; (with_reducible refine hK _ ?_); clear hK K) | (clear hK K; clear hK K; clear hK K; (with_reducible refine hK _ ?_); clear hK K) | (clear hK K; clear hK K; clear hK K; clear hK K; (with_reducible refine hK _ ?_); clear hK K) | (clear hK K; clear hK K; clear hK K; clear hK K; clear hK K; (with_reducible refine hK _ ?_); clear hK K) | ((with_reducible refine aord_plain fun K hK => ?_); simp only [go_sem, Nat.reduceAdd, Nat.reduceMul, Nat.reduceEqDiff, Nat.reduceLT, reduceIte, reduceCtorEq, Int.toNat_zero]) | refine awp_block ?_ | ((first | with_reducible refine aord_nil ?_ | refine awp_skip ?_ | refine awp_exit ?_ | refine awp_ret ?_); try simp only [thenA_normal, thenA_exit, thenA_goto, thenA_ret, blockA_normal, blockA_same, blockA_exit, blockA_goto, blockA_ret, Nat.reduceEqDiff, if_false, if_true, reduceIte]) | (refine awp_region tabOk rfl ?_; simp only [prep, pickO, List.map_cons, List.map_nil, List.getElem?_toArray, List.getElem?_cons_succ, List.getElem?_cons_zero, Option.bind_some, Option.map_some]) | ((with_reducible apply awp_cond); (focus (simp only [St.ev, St.set, upd, Nat.reduceEqDiff, reduceIte, if_false, if_true]; exact rfl)); all_goals (intro hb; first | (cases hb; done) | ((try rw [hb]); (try simp only [decide_eq_true_eq, decide_eq_false_iff_not, beq_iff_eq, bne_iff_ne, beq_eq_false_iff_ne, bne_eq_false_iff_eq, Int.not_lt, Int.not_le, Bool.not_eq_true', Bool.not_eq_false'] at hb)))) | ((with_reducible refine And.intro ?_ ?_); (focus omega)) | ((with_reducible refine And.intro ?_ ?_); (focus (exact rfl))) | ((with_reducible refine And.intro (?_ : enters Try.prog 29) ?_); (focus exact Try.call29); (refine callX_satH someKeys_sat ?_); simp only [go_sem, and_assoc, List.nil_append, List.append_nil, List.cons_append, Nat.reduceEqDiff, reduceIte, reduceCtorEq, Int.toNat_zero]) | ((with_reducible refine And.intro (?_ : enters Try.prog 30) ?_); (focus exact Try.call30); (refine callX_h (callH_inline tabOk Try.func30 rfl 11 rfl [.tmp 2] rfl (Nat.le_of_ble_eq_true rfl) fun m0 hm0 hcl hlt => ?_)); simp only [initT, St.ev, St.set, upd, Nat.reduceEqDiff, reduceIte, if_false, if_true]) | (simp only [rBuild]; simp only [fillA, Nat.reduceLeDiff, List.getElem?_cons_zero, List.getElem?_cons_succ, List.drop_succ_cons, List.drop_nil, List.take_nil, List.cons_append, Option.isSome_some, go_sem, Nat.reduceAdd, Nat.reduceMul, Nat.reduceEqDiff, Nat.reduceLT, reduceIte, reduceCtorEq]) | (simp only [doneH]; simp only [ressK, resK, wrapR, go_sem, Nat.reduceAdd, Nat.reduceMul, Nat.reduceEqDiff, Nat.reduceLT, reduceIte, reduceCtorEq]) | (with_reducible refine And.intro (fun hb => ?_) (fun hb => ?_)) | (exfalso; omega) | fail)
  all_goals (simp only [St.set, St.ev, doneQ, doneH, ressK, resK, wrapR, AV.ids, AV.idsL, retK, retsK, upd, Nat.reduceEqDiff, reduceIte, if_false, if_true, List.nodup_nil, List.nodup_cons, List.not_mem_nil, not_false_eq_true, true_and, and_true, exists_eq_left', Option.some.injEq, rLoad, cellOf, tab, Ty.isAgg, Ty.one, Bool.false_eq_true]; simp only [Cont.closed, Cont.len, true_and]; exact hQ ys hys)


theorem FnBinarySort_sat : Sat Try.prog 3 (fun ds Q => ∃ bs, ds = [.row (.ints .u8 bs)] ∧ bs.length ≤ 9223372036854775807 ∧ bytesOk bs ∧ Q (.val (.bool true))) := by
  refine sat_intro tabOk Try.func3 rfl 59 rfl [.tmp 2] rfl ?_
  rintro ds Q W ⟨bs, rfl, hlen, hbs, hQ⟩
  refine ⟨Nat.le_of_ble_eq_true rfl, ?_⟩
  simp only [initS, initT, mat.matL, mat, Cont.len]
  repeat' (first | refine awp_seq_k fun K hK => ?_ | ((with_reducible refine hK _ ?_); clear hK K) | (clear hK K; (with_reducible refine hK _ ?_); clear hK K) | (clear hK K; clear hK K; (with_reducible refine hK _ ?_); clear hK K) | (clear hK K; clear hK K; clear hK K; (with_reducible refine hK _ ?_); clear hK K) | (clear hK K; clear hK K; clear hK K; clear hK K; (with_reducible refine hK _ ?_); clear hK K) | (clear hK K; clear hK K; clear hK K; clear hK K; clear hK K; (with_reducible refine hK _ ?_); clear hK K) | ((with_reducible refine aord_plain fun K hK => ?_); simp only [go_sem, Nat.reduceAdd, Nat.reduceMul, Nat.reduceEqDiff, Nat.reduceLT, reduceIte, reduceCtorEq, mat.matL, DV.agg.injEq]) | ((with_reducible apply aord_guard); (focus (simp only [St.ev, St.set, upd, Nat.reduceEqDiff, reduceIte, if_false, if_true]; exact rfl)); all_goals (intro hb; (try simp only [Bool.not_true, Bool.not_false] at hb); first | (cases hb; done) | ((try rw [hb]); (try simp only [Bool.not_eq_true', Bool.not_eq_false', Bool.and_eq_true, decide_eq_true_eq, decide_eq_false_iff_not, beq_iff_eq, bne_iff_ne, beq_eq_false_iff_ne, bne_eq_false_iff_eq, Int.not_lt, Int.not_le] at hb); (try (revert hb; with_reducible refine true_imp_iff.2 ?_)); first | (intro K hK; simp only [go_sem, Nat.reduceAdd, Nat.reduceMul, Nat.reduceEqDiff, Nat.reduceLT, reduceIte, reduceCtorEq]) | (simp only [St.ev, St.set, upd, Nat.reduceEqDiff, reduceIte, if_false, if_true]) | skip))) | ((with_reducible apply aord_skip); (focus (simp only [St.ev, St.set, upd, Nat.reduceEqDiff, reduceIte, if_false, if_true]; done)); (simp only [St.ev, St.set, upd, Nat.reduceEqDiff, reduceIte, if_false, if_true])) | refine awp_block ?_ | ((first | with_reducible refine aord_nil ?_ | refine awp_skip ?_ | refine awp_exit ?_ | refine awp_ret ?_); try simp only [thenA_normal, thenA_exit, thenA_goto, thenA_ret, blockA_normal, blockA_same, blockA_exit, blockA_goto, blockA_ret, Nat.reduceEqDiff, if_false, if_true, reduceIte]) | (refine awp_region tabOk rfl ?_; simp only [prep, pickO, List.map_cons, List.map_nil, List.getElem?_toArray, List.getElem?_cons_succ, List.getElem?_cons_zero, Option.bind_some, Option.map_some]) | (refine awp_region_draw (nt := 59) (id := 5) tabOk [(0, true, false), (1, true, false), (2, false, false), (3, false, false), (4, true, false), (5, true, false), (6, true, false), (7, false, false), (8, true, false), (9, true, false), (10, true, false), (11, true, false), (12, true, false), (13, true, false), (14, true, false)] (by kernel_rfl) rfl (by kernel_rfl) ?_; simp only [prep, pickO, List.map_cons, List.map_nil, List.getElem?_toArray, List.getElem?_cons_succ, List.getElem?_cons_zero, Option.bind_some, Option.map_some]) | (refine awp_region_draw (nt := 59) (id := 6) tabOk [(0, true, false), (1, true, false), (2, false, false), (3, false, false), (4, true, false)] (by kernel_rfl) rfl (by kernel_rfl) ?_; simp only [prep, pickO, List.map_cons, List.map_nil, List.getElem?_toArray, List.getElem?_cons_succ, List.getElem?_cons_zero, Option.bind_some, Option.map_some]) | (refine awp_region_draw (nt := 59) (id := 7) tabOk [(0, true, false), (1, true, false), (2, true, false), (3, false, false), (4, false, false), (5, true, false), (6, true, false), (7, true, false), (8, true, false), (9, false, false), (10, true, false), (11, true, false), (12, true, false), (13, true, false), (14, true, false), (15, true, false), (16, true, false), (17, false, false), (18, true, false), (19, true, false), (20, true, false), (21, true, false), (22, true, false), (23, true, false), (24, true, false), (25, true, false), (26, true, false), (27, true, false), (28, true, false)] (by kernel_rfl) rfl (by kernel_rfl) ?_; simp only [prep, pickO, List.map_cons, List.map_nil, List.getElem?_toArray, List.getElem?_cons_succ, List.getElem?_cons_zero, Option.bind_some, Option.map_some]) | ((with_reducible apply awp_cond); (focus (simp only [St.ev, St.set, upd, Nat.reduceEqDiff, reduceIte, if_false, if_true]; exact rfl)); all_goals (intro hb; first | (cases hb; done) | ((try rw [hb]); (try simp only [decide_eq_true_eq, decide_eq_false_iff_not, beq_iff_eq, bne_iff_ne, beq_eq_false_iff_ne, bne_eq_false_iff_eq, Int.not_lt, Int.not_le, Bool.not_eq_true', Bool.not_eq_false'] at hb)))) | ((with_reducible refine And.intro ?_ ?_); (focus omega)) | ((with_reducible refine And.intro ?_ ?_); (focus (exact rfl))) | ((with_reducible refine And.intro (?_ : enters Try.prog 7) ?_); (focus exact Try.call7); (refine callX_sat drawBinarySort_sat ?_); simp only [go_sem, and_assoc, List.nil_append, List.append_nil, List.cons_append, Nat.reduceEqDiff, reduceIte, reduceCtorEq, mat.matL, DV.agg.injEq]) | ((with_reducible refine And.intro (?_ : enters Try.prog 8) ?_); (focus exact Try.call8); (refine callX_sat implBinarySort_sat ?_); simp only [go_sem, and_assoc, List.nil_append, List.append_nil, List.cons_append, Nat.reduceEqDiff, reduceIte, reduceCtorEq, mat.matL, DV.agg.injEq]) | ((with_reducible refine And.intro (?_ : enters Try.prog 10) ?_); (focus exact Try.call10); (refine callX_sat specBinarySort_sat ?_); simp only [go_sem, and_assoc, List.nil_append, List.append_nil, List.cons_append, Nat.reduceEqDiff, reduceIte, reduceCtorEq, mat.matL, DV.agg.injEq]) | ((with_reducible refine And.intro (?_ : enters Try.prog 9) ?_); (focus exact Try.call9); (refine callX_sat equalWork_sat ?_); simp only [go_sem, and_assoc, List.nil_append, List.append_nil, List.cons_append, Nat.reduceEqDiff, reduceIte, reduceCtorEq, mat.matL, DV.agg.injEq]) | ((with_reducible refine And.intro (?_ : enters Try.prog 11) ?_); (focus exact Try.call11); (refine callX_sat implValidKeys_sat ?_); simp only [go_sem, and_assoc, List.nil_append, List.append_nil, List.cons_append, Nat.reduceEqDiff, reduceIte, reduceCtorEq, mat.matL, DV.agg.injEq]) | ((with_reducible refine And.intro (?_ : enters Try.prog 13) ?_); (focus exact Try.call13); (refine callX_sat implSortedKeys_sat ?_); simp only [go_sem, and_assoc, List.nil_append, List.append_nil, List.cons_append, Nat.reduceEqDiff, reduceIte, reduceCtorEq, mat.matL, DV.agg.injEq]) | ((with_reducible refine And.intro (?_ : enters Try.prog 12) ?_); (focus exact Try.call12); (refine callX_sat equalInts_sat ?_); simp only [go_sem, and_assoc, List.nil_append, List.append_nil, List.cons_append, Nat.reduceEqDiff, reduceIte, reduceCtorEq, mat.matL, DV.agg.injEq]) | ((with_reducible refine And.intro (?_ : enters Try.prog 14) ?_); (focus exact Try.call14); (refine callX_sat implInversionsOf_sat ?_); simp only [go_sem, and_assoc, List.nil_append, List.append_nil, List.cons_append, Nat.reduceEqDiff, reduceIte, reduceCtorEq, mat.matL, DV.agg.injEq]) | ((with_reducible refine And.intro (?_ : enters Try.prog 15) ?_); (focus exact Try.call15); (refine callX_sat implBinaryMost_sat ?_); simp only [go_sem, and_assoc, List.nil_append, List.append_nil, List.cons_append, Nat.reduceEqDiff, reduceIte, reduceCtorEq, mat.matL, DV.agg.injEq]) | (refine aStoreAll_ints (by simp only [St.ev, St.set, upd, Nat.reduceEqDiff, reduceIte, if_false, if_true]; exact rfl) ?_ ?_ ?_ ?_; (focus (first | rfl | omega | (simp; done) | (simp; omega) | (simp [szOf, tab]; done) | (simp [szOf, tab]; omega))); (focus (first | rfl | omega | (simp; done) | (simp; omega) | (simp [szOf, tab]; done) | (simp [szOf, tab]; omega))); (focus (first | rfl | omega | (simp; done) | (simp; omega) | (simp [szOf, tab]; done) | (simp [szOf, tab]; omega))); (try simp only [go_sem, Nat.reduceAdd, Nat.reduceMul, Nat.reduceEqDiff, Nat.reduceLT, reduceIte, reduceCtorEq])) | (refine aStoreAll_cells (by simp only [St.ev, St.set, upd, Nat.reduceEqDiff, reduceIte, if_false, if_true]; exact rfl) ?_ ?_ ?_ ?_ ?_; (focus (first | rfl | omega | (simp; done) | (simp; omega) | (simp [szOf, tab]; done) | (simp [szOf, tab]; omega))); (focus (first | rfl | omega | (simp; done) | (simp; omega) | (simp [szOf, tab]; done) | (simp [szOf, tab]; omega))); (focus (first | rfl | omega | (simp; done) | (simp; omega) | (simp [szOf, tab]; done) | (simp [szOf, tab]; omega))); (focus (first | rfl | (simp [AV.cell, Value.oneCell']; done))); (try simp only [go_sem, Nat.reduceAdd, Nat.reduceMul, Nat.reduceEqDiff, Nat.reduceLT, reduceIte, reduceCtorEq])) | (with_reducible refine And.intro (fun hb => ?_) (fun hb => ?_)) | (exfalso; omega) | fail)
  · simp only [St.set, St.ev, doneQ, doneH, ressK, resK, wrapR, AV.ids, AV.idsL, retK, retsK, upd, Nat.reduceEqDiff, reduceIte, if_false, if_true, List.nodup_nil, List.nodup_cons, List.not_mem_nil, not_false_eq_true, true_and, and_true, exists_eq_left', Option.some.injEq, rLoad, cellOf, tab, Ty.isAgg, Ty.one, Bool.false_eq_true]
    exact hQ
  intro xs hxs
  rcases Bool.eq_false_or_eq_true (validB xs) with hv | hv
  · have hol := ordL_len xs
    have h8 := valid_len hv
    obtain ⟨f1, f2, f3, f4⟩ := bin_fin xs
    have hbm : (if 0 ≤ (xs.length : Int) ∧ (xs.length : Int) ≤ 1000 then ((sumF lgF ((xs.length : Nat) : Int).toNat : Nat) : Int) else -1) = ((sumF lgF xs.length : Nat) : Int) := by rw [if_pos (by omega), Int.toNat_natCast]
    have h3 : decide ((binTo xs xs.length).2.1 ≤ ((sumF lgF xs.length : Nat) : Int)) = true := decide_eq_true f3
    have h4 : decide ((binTo xs xs.length).2.1 ≥ (xs.length : Int) - 1) = true := decide_eq_true f4

    repeat' (first | refine awp_seq_k fun K hK => ?_ | ((with_reducible refine hK _ ?_); clear hK K) | (clear hK K; (with_reducible refine hK _ ?_); clear hK K) | (clear hK K; clear hK K; (with_reducible refine hK _ ?_); clear hK K) | (clear hK K; clear hK K; clear hK K; (with_reducible refine hK _ ?_); clear hK K) | (clear hK K; clear hK K; clear hK K; clear hK K; (with_reducible refine hK _ ?_); clear hK K) | (clear hK K; clear hK K; clear hK K; clear hK K; clear hK K; (with_reducible refine hK _ ?_); clear hK K) | ((with_reducible refine aord_plain fun K hK => ?_); simp only [go_sem, Nat.reduceAdd, Nat.reduceMul, Nat.reduceEqDiff, Nat.reduceLT, reduceIte, reduceCtorEq, hv, mat.matL, DV.agg.injEq, dec_self, sq_beq, sq_bne, f1, f2, h3, h4, hbm]) | ((with_reducible apply aord_guard); (focus (simp only [St.ev, St.set, upd, Nat.reduceEqDiff, reduceIte, if_false, if_true]; exact rfl)); all_goals (intro hb; (try simp only [Bool.not_true, Bool.not_false] at hb); first | (cases hb; done) | ((try rw [hb]); (try simp only [Bool.not_eq_true', Bool.not_eq_false', Bool.and_eq_true, decide_eq_true_eq, decide_eq_false_iff_not, beq_iff_eq, bne_iff_ne, beq_eq_false_iff_ne, bne_eq_false_iff_eq, Int.not_lt, Int.not_le] at hb); (try (revert hb; with_reducible refine true_imp_iff.2 ?_)); first | (intro K hK; simp only [go_sem, Nat.reduceAdd, Nat.reduceMul, Nat.reduceEqDiff, Nat.reduceLT, reduceIte, reduceCtorEq]) | (simp only [St.ev, St.set, upd, Nat.reduceEqDiff, reduceIte, if_false, if_true]) | skip))) | ((with_reducible apply aord_skip); (focus (simp only [St.ev, St.set, upd, Nat.reduceEqDiff, reduceIte, if_false, if_true]; done)); (simp only [St.ev, St.set, upd, Nat.reduceEqDiff, reduceIte, if_false, if_true])) | refine awp_block ?_ | ((first | with_reducible refine aord_nil ?_ | refine awp_skip ?_ | refine awp_exit ?_ | refine awp_ret ?_); try simp only [thenA_normal, thenA_exit, thenA_goto, thenA_ret, blockA_normal, blockA_same, blockA_exit, blockA_goto, blockA_ret, Nat.reduceEqDiff, if_false, if_true, reduceIte]) | (refine awp_region tabOk rfl ?_; simp only [prep, pickO, List.map_cons, List.map_nil, List.getElem?_toArray, List.getElem?_cons_succ, List.getElem?_cons_zero, Option.bind_some, Option.map_some]) | (refine awp_region_draw (nt := 59) (id := 5) tabOk [(0, true, false), (1, true, false), (2, false, false), (3, false, false), (4, true, false), (5, true, false), (6, true, false), (7, false, false), (8, true, false), (9, true, false), (10, true, false), (11, true, false), (12, true, false), (13, true, false), (14, true, false)] (by kernel_rfl) rfl (by kernel_rfl) ?_; simp only [prep, pickO, List.map_cons, List.map_nil, List.getElem?_toArray, List.getElem?_cons_succ, List.getElem?_cons_zero, Option.bind_some, Option.map_some]) | (refine awp_region_draw (nt := 59) (id := 6) tabOk [(0, true, false), (1, true, false), (2, false, false), (3, false, false), (4, true, false)] (by kernel_rfl) rfl (by kernel_rfl) ?_; simp only [prep, pickO, List.map_cons, List.map_nil, List.getElem?_toArray, List.getElem?_cons_succ, List.getElem?_cons_zero, Option.bind_some, Option.map_some]) | (refine awp_region_draw (nt := 59) (id := 7) tabOk [(0, true, false), (1, true, false), (2, true, false), (3, false, false), (4, false, false), (5, true, false), (6, true, false), (7, true, false), (8, true, false), (9, false, false), (10, true, false), (11, true, false), (12, true, false), (13, true, false), (14, true, false), (15, true, false), (16, true, false), (17, false, false), (18, true, false), (19, true, false), (20, true, false), (21, true, false), (22, true, false), (23, true, false), (24, true, false), (25, true, false), (26, true, false), (27, true, false), (28, true, false)] (by kernel_rfl) rfl (by kernel_rfl) ?_; simp only [prep, pickO, List.map_cons, List.map_nil, List.getElem?_toArray, List.getElem?_cons_succ, List.getElem?_cons_zero, Option.bind_some, Option.map_some]) | ((with_reducible apply awp_cond); (focus (simp only [St.ev, St.set, upd, Nat.reduceEqDiff, reduceIte, if_false, if_true]; exact rfl)); all_goals (intro hb; first | (cases hb; done) | ((try rw [hb]); (try simp only [decide_eq_true_eq, decide_eq_false_iff_not, beq_iff_eq, bne_iff_ne, beq_eq_false_iff_ne, bne_eq_false_iff_eq, Int.not_lt, Int.not_le, Bool.not_eq_true', Bool.not_eq_false'] at hb)))) | ((with_reducible refine And.intro ?_ ?_); (focus omega)) | ((with_reducible refine And.intro ?_ ?_); (focus (exact rfl))) | ((with_reducible refine And.intro (?_ : enters Try.prog 7) ?_); (focus exact Try.call7); (refine callX_sat drawBinarySort_sat ?_); simp only [go_sem, and_assoc, List.nil_append, List.append_nil, List.cons_append, Nat.reduceEqDiff, reduceIte, reduceCtorEq, hv, mat.matL, DV.agg.injEq, dec_self, sq_beq, sq_bne, f1, f2, h3, h4, hbm]) | ((with_reducible refine And.intro (?_ : enters Try.prog 8) ?_); (focus exact Try.call8); (refine callX_sat implBinarySort_sat ?_); simp only [go_sem, and_assoc, List.nil_append, List.append_nil, List.cons_append, Nat.reduceEqDiff, reduceIte, reduceCtorEq, hv, mat.matL, DV.agg.injEq, dec_self, sq_beq, sq_bne, f1, f2, h3, h4, hbm]) | ((with_reducible refine And.intro (?_ : enters Try.prog 10) ?_); (focus exact Try.call10); (refine callX_sat specBinarySort_sat ?_); simp only [go_sem, and_assoc, List.nil_append, List.append_nil, List.cons_append, Nat.reduceEqDiff, reduceIte, reduceCtorEq, hv, mat.matL, DV.agg.injEq, dec_self, sq_beq, sq_bne, f1, f2, h3, h4, hbm]) | ((with_reducible refine And.intro (?_ : enters Try.prog 9) ?_); (focus exact Try.call9); (refine callX_sat equalWork_sat ?_); simp only [go_sem, and_assoc, List.nil_append, List.append_nil, List.cons_append, Nat.reduceEqDiff, reduceIte, reduceCtorEq, hv, mat.matL, DV.agg.injEq, dec_self, sq_beq, sq_bne, f1, f2, h3, h4, hbm]) | ((with_reducible refine And.intro (?_ : enters Try.prog 11) ?_); (focus exact Try.call11); (refine callX_sat implValidKeys_sat ?_); simp only [go_sem, and_assoc, List.nil_append, List.append_nil, List.cons_append, Nat.reduceEqDiff, reduceIte, reduceCtorEq, hv, mat.matL, DV.agg.injEq, dec_self, sq_beq, sq_bne, f1, f2, h3, h4, hbm]) | ((with_reducible refine And.intro (?_ : enters Try.prog 13) ?_); (focus exact Try.call13); (refine callX_sat implSortedKeys_sat ?_); simp only [go_sem, and_assoc, List.nil_append, List.append_nil, List.cons_append, Nat.reduceEqDiff, reduceIte, reduceCtorEq, hv, mat.matL, DV.agg.injEq, dec_self, sq_beq, sq_bne, f1, f2, h3, h4, hbm]) | ((with_reducible refine And.intro (?_ : enters Try.prog 12) ?_); (focus exact Try.call12); (refine callX_sat equalInts_sat ?_); simp only [go_sem, and_assoc, List.nil_append, List.append_nil, List.cons_append, Nat.reduceEqDiff, reduceIte, reduceCtorEq, hv, mat.matL, DV.agg.injEq, dec_self, sq_beq, sq_bne, f1, f2, h3, h4, hbm]) | ((with_reducible refine And.intro (?_ : enters Try.prog 14) ?_); (focus exact Try.call14); (refine callX_sat implInversionsOf_sat ?_); simp only [go_sem, and_assoc, List.nil_append, List.append_nil, List.cons_append, Nat.reduceEqDiff, reduceIte, reduceCtorEq, hv, mat.matL, DV.agg.injEq, dec_self, sq_beq, sq_bne, f1, f2, h3, h4, hbm]) | ((with_reducible refine And.intro (?_ : enters Try.prog 15) ?_); (focus exact Try.call15); (refine callX_sat implBinaryMost_sat ?_); simp only [go_sem, and_assoc, List.nil_append, List.append_nil, List.cons_append, Nat.reduceEqDiff, reduceIte, reduceCtorEq, hv, mat.matL, DV.agg.injEq, dec_self, sq_beq, sq_bne, f1, f2, h3, h4, hbm]) | (refine aStoreAll_ints (by simp only [St.ev, St.set, upd, Nat.reduceEqDiff, reduceIte, if_false, if_true]; exact rfl) ?_ ?_ ?_ ?_; (focus (first | rfl | omega | (simp; done) | (simp; omega) | (simp [szOf, tab]; done) | (simp [szOf, tab]; omega))); (focus (first | rfl | omega | (simp; done) | (simp; omega) | (simp [szOf, tab]; done) | (simp [szOf, tab]; omega))); (focus (first | rfl | omega | (simp; done) | (simp; omega) | (simp [szOf, tab]; done) | (simp [szOf, tab]; omega))); (try simp only [go_sem, Nat.reduceAdd, Nat.reduceMul, Nat.reduceEqDiff, Nat.reduceLT, reduceIte, reduceCtorEq])) | (refine aStoreAll_cells (by simp only [St.ev, St.set, upd, Nat.reduceEqDiff, reduceIte, if_false, if_true]; exact rfl) ?_ ?_ ?_ ?_ ?_; (focus (first | rfl | omega | (simp; done) | (simp; omega) | (simp [szOf, tab]; done) | (simp [szOf, tab]; omega))); (focus (first | rfl | omega | (simp; done) | (simp; omega) | (simp [szOf, tab]; done) | (simp [szOf, tab]; omega))); (focus (first | rfl | omega | (simp; done) | (simp; omega) | (simp [szOf, tab]; done) | (simp [szOf, tab]; omega))); (focus (first | rfl | (simp [AV.cell, Value.oneCell']; done))); (try simp only [go_sem, Nat.reduceAdd, Nat.reduceMul, Nat.reduceEqDiff, Nat.reduceLT, reduceIte, reduceCtorEq])) | (with_reducible refine And.intro (fun hb => ?_) (fun hb => ?_)) | (exfalso; omega) | fail)
    all_goals (simp only [St.set, St.ev, doneQ, doneH, ressK, resK, wrapR, AV.ids, AV.idsL, retK, retsK, upd, Nat.reduceEqDiff, reduceIte, if_false, if_true, List.nodup_nil, List.nodup_cons, List.not_mem_nil, not_false_eq_true, true_and, and_true, exists_eq_left', Option.some.injEq, rLoad, cellOf, tab, Ty.isAgg, Ty.one, Bool.false_eq_true]; exact hQ)
  · skip

    repeat' (first | refine awp_seq_k fun K hK => ?_ | ((with_reducible refine hK _ ?_); clear hK K) | (clear hK K; (with_reducible refine hK _ ?_); clear hK K) | (clear hK K; clear hK K; (with_reducible refine hK _ ?_); clear hK K) | (clear hK K; clear hK K; clear hK K; (with_reducible refine hK _ ?_); clear hK K) | (clear hK K; clear hK K; clear hK K; clear hK K; (with_reducible refine hK _ ?_); clear hK K) | (clear hK K; clear hK K; clear hK K; clear hK K; clear hK K; (with_reducible refine hK _ ?_); clear hK K) | ((with_reducible refine aord_plain fun K hK => ?_); simp only [go_sem, Nat.reduceAdd, Nat.reduceMul, Nat.reduceEqDiff, Nat.reduceLT, reduceIte, reduceCtorEq, hv, mat.matL, DV.agg.injEq, dec_self, sq_beq, sq_bne]) | ((with_reducible apply aord_guard); (focus (simp only [St.ev, St.set, upd, Nat.reduceEqDiff, reduceIte, if_false, if_true]; exact rfl)); all_goals (intro hb; (try simp only [Bool.not_true, Bool.not_false] at hb); first | (cases hb; done) | ((try rw [hb]); (try simp only [Bool.not_eq_true', Bool.not_eq_false', Bool.and_eq_true, decide_eq_true_eq, decide_eq_false_iff_not, beq_iff_eq, bne_iff_ne, beq_eq_false_iff_ne, bne_eq_false_iff_eq, Int.not_lt, Int.not_le] at hb); (try (revert hb; with_reducible refine true_imp_iff.2 ?_)); first | (intro K hK; simp only [go_sem, Nat.reduceAdd, Nat.reduceMul, Nat.reduceEqDiff, Nat.reduceLT, reduceIte, reduceCtorEq]) | (simp only [St.ev, St.set, upd, Nat.reduceEqDiff, reduceIte, if_false, if_true]) | skip))) | ((with_reducible apply aord_skip); (focus (simp only [St.ev, St.set, upd, Nat.reduceEqDiff, reduceIte, if_false, if_true]; done)); (simp only [St.ev, St.set, upd, Nat.reduceEqDiff, reduceIte, if_false, if_true])) | refine awp_block ?_ | ((first | with_reducible refine aord_nil ?_ | refine awp_skip ?_ | refine awp_exit ?_ | refine awp_ret ?_); try simp only [thenA_normal, thenA_exit, thenA_goto, thenA_ret, blockA_normal, blockA_same, blockA_exit, blockA_goto, blockA_ret, Nat.reduceEqDiff, if_false, if_true, reduceIte]) | (refine awp_region tabOk rfl ?_; simp only [prep, pickO, List.map_cons, List.map_nil, List.getElem?_toArray, List.getElem?_cons_succ, List.getElem?_cons_zero, Option.bind_some, Option.map_some]) | (refine awp_region_draw (nt := 59) (id := 5) tabOk [(0, true, false), (1, true, false), (2, false, false), (3, false, false), (4, true, false), (5, true, false), (6, true, false), (7, false, false), (8, true, false), (9, true, false), (10, true, false), (11, true, false), (12, true, false), (13, true, false), (14, true, false)] (by kernel_rfl) rfl (by kernel_rfl) ?_; simp only [prep, pickO, List.map_cons, List.map_nil, List.getElem?_toArray, List.getElem?_cons_succ, List.getElem?_cons_zero, Option.bind_some, Option.map_some]) | (refine awp_region_draw (nt := 59) (id := 6) tabOk [(0, true, false), (1, true, false), (2, false, false), (3, false, false), (4, true, false)] (by kernel_rfl) rfl (by kernel_rfl) ?_; simp only [prep, pickO, List.map_cons, List.map_nil, List.getElem?_toArray, List.getElem?_cons_succ, List.getElem?_cons_zero, Option.bind_some, Option.map_some]) | (refine awp_region_draw (nt := 59) (id := 7) tabOk [(0, true, false), (1, true, false), (2, true, false), (3, false, false), (4, false, false), (5, true, false), (6, true, false), (7, true, false), (8, true, false), (9, false, false), (10, true, false), (11, true, false), (12, true, false), (13, true, false), (14, true, false), (15, true, false), (16, true, false), (17, false, false), (18, true, false), (19, true, false), (20, true, false), (21, true, false), (22, true, false), (23, true, false), (24, true, false), (25, true, false), (26, true, false), (27, true, false), (28, true, false)] (by kernel_rfl) rfl (by kernel_rfl) ?_; simp only [prep, pickO, List.map_cons, List.map_nil, List.getElem?_toArray, List.getElem?_cons_succ, List.getElem?_cons_zero, Option.bind_some, Option.map_some]) | ((with_reducible apply awp_cond); (focus (simp only [St.ev, St.set, upd, Nat.reduceEqDiff, reduceIte, if_false, if_true]; exact rfl)); all_goals (intro hb; first | (cases hb; done) | ((try rw [hb]); (try simp only [decide_eq_true_eq, decide_eq_false_iff_not, beq_iff_eq, bne_iff_ne, beq_eq_false_iff_ne, bne_eq_false_iff_eq, Int.not_lt, Int.not_le, Bool.not_eq_true', Bool.not_eq_false'] at hb)))) | ((with_reducible refine And.intro ?_ ?_); (focus omega)) | ((with_reducible refine And.intro ?_ ?_); (focus (exact rfl))) | ((with_reducible refine And.intro (?_ : enters Try.prog 7) ?_); (focus exact Try.call7); (refine callX_sat drawBinarySort_sat ?_); simp only [go_sem, and_assoc, List.nil_append, List.append_nil, List.cons_append, Nat.reduceEqDiff, reduceIte, reduceCtorEq, hv, mat.matL, DV.agg.injEq, dec_self, sq_beq, sq_bne]) | ((with_reducible refine And.intro (?_ : enters Try.prog 8) ?_); (focus exact Try.call8); (refine callX_sat implBinarySort_sat ?_); simp only [go_sem, and_assoc, List.nil_append, List.append_nil, List.cons_append, Nat.reduceEqDiff, reduceIte, reduceCtorEq, hv, mat.matL, DV.agg.injEq, dec_self, sq_beq, sq_bne]) | ((with_reducible refine And.intro (?_ : enters Try.prog 10) ?_); (focus exact Try.call10); (refine callX_sat specBinarySort_sat ?_); simp only [go_sem, and_assoc, List.nil_append, List.append_nil, List.cons_append, Nat.reduceEqDiff, reduceIte, reduceCtorEq, hv, mat.matL, DV.agg.injEq, dec_self, sq_beq, sq_bne]) | ((with_reducible refine And.intro (?_ : enters Try.prog 9) ?_); (focus exact Try.call9); (refine callX_sat equalWork_sat ?_); simp only [go_sem, and_assoc, List.nil_append, List.append_nil, List.cons_append, Nat.reduceEqDiff, reduceIte, reduceCtorEq, hv, mat.matL, DV.agg.injEq, dec_self, sq_beq, sq_bne]) | ((with_reducible refine And.intro (?_ : enters Try.prog 11) ?_); (focus exact Try.call11); (refine callX_sat implValidKeys_sat ?_); simp only [go_sem, and_assoc, List.nil_append, List.append_nil, List.cons_append, Nat.reduceEqDiff, reduceIte, reduceCtorEq, hv, mat.matL, DV.agg.injEq, dec_self, sq_beq, sq_bne]) | ((with_reducible refine And.intro (?_ : enters Try.prog 13) ?_); (focus exact Try.call13); (refine callX_sat implSortedKeys_sat ?_); simp only [go_sem, and_assoc, List.nil_append, List.append_nil, List.cons_append, Nat.reduceEqDiff, reduceIte, reduceCtorEq, hv, mat.matL, DV.agg.injEq, dec_self, sq_beq, sq_bne]) | ((with_reducible refine And.intro (?_ : enters Try.prog 12) ?_); (focus exact Try.call12); (refine callX_sat equalInts_sat ?_); simp only [go_sem, and_assoc, List.nil_append, List.append_nil, List.cons_append, Nat.reduceEqDiff, reduceIte, reduceCtorEq, hv, mat.matL, DV.agg.injEq, dec_self, sq_beq, sq_bne]) | ((with_reducible refine And.intro (?_ : enters Try.prog 14) ?_); (focus exact Try.call14); (refine callX_sat implInversionsOf_sat ?_); simp only [go_sem, and_assoc, List.nil_append, List.append_nil, List.cons_append, Nat.reduceEqDiff, reduceIte, reduceCtorEq, hv, mat.matL, DV.agg.injEq, dec_self, sq_beq, sq_bne]) | ((with_reducible refine And.intro (?_ : enters Try.prog 15) ?_); (focus exact Try.call15); (refine callX_sat implBinaryMost_sat ?_); simp only [go_sem, and_assoc, List.nil_append, List.append_nil, List.cons_append, Nat.reduceEqDiff, reduceIte, reduceCtorEq, hv, mat.matL, DV.agg.injEq, dec_self, sq_beq, sq_bne]) | (refine aStoreAll_ints (by simp only [St.ev, St.set, upd, Nat.reduceEqDiff, reduceIte, if_false, if_true]; exact rfl) ?_ ?_ ?_ ?_; (focus (first | rfl | omega | (simp; done) | (simp; omega) | (simp [szOf, tab]; done) | (simp [szOf, tab]; omega))); (focus (first | rfl | omega | (simp; done) | (simp; omega) | (simp [szOf, tab]; done) | (simp [szOf, tab]; omega))); (focus (first | rfl | omega | (simp; done) | (simp; omega) | (simp [szOf, tab]; done) | (simp [szOf, tab]; omega))); (try simp only [go_sem, Nat.reduceAdd, Nat.reduceMul, Nat.reduceEqDiff, Nat.reduceLT, reduceIte, reduceCtorEq])) | (refine aStoreAll_cells (by simp only [St.ev, St.set, upd, Nat.reduceEqDiff, reduceIte, if_false, if_true]; exact rfl) ?_ ?_ ?_ ?_ ?_; (focus (first | rfl | omega | (simp; done) | (simp; omega) | (simp [szOf, tab]; done) | (simp [szOf, tab]; omega))); (focus (first | rfl | omega | (simp; done) | (simp; omega) | (simp [szOf, tab]; done) | (simp [szOf, tab]; omega))); (focus (first | rfl | omega | (simp; done) | (simp; omega) | (simp [szOf, tab]; done) | (simp [szOf, tab]; omega))); (focus (first | rfl | (simp [AV.cell, Value.oneCell']; done))); (try simp only [go_sem, Nat.reduceAdd, Nat.reduceMul, Nat.reduceEqDiff, Nat.reduceLT, reduceIte, reduceCtorEq])) | (with_reducible refine And.intro (fun hb => ?_) (fun hb => ?_)) | (exfalso; omega) | fail)
    simp only [St.set, St.ev, doneQ, doneH, ressK, resK, wrapR, AV.ids, AV.idsL, retK, retsK, upd, Nat.reduceEqDiff, reduceIte, if_false, if_true, List.nodup_nil, List.nodup_cons, List.not_mem_nil, not_false_eq_true, true_and, and_true, exists_eq_left', Option.some.injEq, rLoad, cellOf, tab, Ty.isAgg, Ty.one, Bool.false_eq_true]
    exact hQ

/-- How many of the first k keys are greater than one of a and b and less than the other one. -/
def btwC (xs : List Int) (a b : Int) : Nat → Int
  | 0 => 0
  | k + 1 => btwC xs a b k + (if min a b < xs.getD k 0 ∧ xs.getD k 0 < max a b then 1 else 0)
def swTo (xs : List Int) : Nat → Int
  | 0 => 0
  | i + 1 => swTo xs i + btwC xs (xs.getD i 0) (xs.getD (i + 1) 0) xs.length
theorem btw_up {xs : List Int} {a b : Int} {k : Nat} (h : min a b < xs.getD k 0 ∧ xs.getD k 0 < max a b) : btwC xs a b (k + 1) = btwC xs a b k + 1 := by rw [btwC, if_pos h]
theorem btw_stay {xs : List Int} {a b : Int} {k : Nat} (h : ¬ (min a b < xs.getD k 0 ∧ xs.getD k 0 < max a b)) : btwC xs a b (k + 1) = btwC xs a b k := by rw [btwC, if_neg h]; omega
theorem btw_in (xs : List Int) (a b : Int) : ∀ k, 0 ≤ btwC xs a b k ∧ btwC xs a b k ≤ k
  | 0 => ⟨Int.le_refl 0, Int.le_refl 0⟩
  | k + 1 => by have := btw_in xs a b k; rw [btwC]; split <;> omega


/-- How many of the d numbers from a on are told by P. -/
def cnt (P : Nat → Bool) : Nat → Nat → Int
  | _, 0 => 0
  | a, d + 1 => (if P a = true then 1 else 0) + cnt P (a + 1) d
theorem cnt_in (P : Nat → Bool) : ∀ d a, 0 ≤ cnt P a d ∧ cnt P a d ≤ d
  | 0, a => by simp [cnt]
  | d + 1, a => by have := cnt_in P d (a + 1); rw [cnt]; split <;> omega
theorem cnt_up (P : Nat → Bool) : ∀ d a, cnt P a (d + 1) = cnt P a d + (if P (a + d) = true then 1 else 0)
  | 0, a => by simp [cnt]
  | d + 1, a => by rw [cnt, cnt_up P d (a + 1), show cnt P a (d + 1) = (if P a = true then 1 else 0) + cnt P (a + 1) d from rfl, show a + 1 + d = a + (d + 1) by omega]; omega


/-- The sum of the first n values. -/
def sm (f : Nat → Int) : Nat → Int
  | 0 => 0
  | n + 1 => sm f n + f n
theorem sm_le {f g : Nat → Int} : ∀ n, (∀ i, i < n → f i ≤ g i) → sm f n ≤ sm g n
  | 0, _ => Int.le_refl _
  | n + 1, h => by have := sm_le (f := f) (g := g) n fun i hi => h i (by omega); have := h n (by omega); simp only [sm]; omega
theorem sm_eq {f g : Nat → Int} : ∀ n, (∀ i, i < n → f i = g i) → sm f n = sm g n
  | 0, _ => rfl
  | n + 1, h => by have := sm_eq (f := f) (g := g) n fun i hi => h i (by omega); have := h n (by omega); simp only [sm]; omega
theorem sm_add (f g : Nat → Int) : ∀ n, sm (fun i => f i + g i) n = sm f n + sm g n
  | 0 => rfl
  | n + 1 => by have := sm_add f g n; simp only [sm]; omega
theorem sm_zero : ∀ n, sm (fun _ => 0) n = 0
  | 0 => rfl
  | n + 1 => by rw [sm, sm_zero n]; rfl
theorem sm_swap (f : Nat → Nat → Int) : ∀ m n, sm (fun i => sm (fun k => f i k) n) m = sm (fun k => sm (fun i => f i k) m) n
  | 0, n => by simp only [sm]; exact (sm_zero n).symm
  | m + 1, n => by simp only [sm]; rw [sm_swap f m n, ← sm_add]
theorem sm_more {f : Nat → Int} (h : ∀ i, 0 ≤ f i) {n : Nat} : ∀ d, sm f n ≤ sm f (n + d)
  | 0 => Int.le_refl _
  | d + 1 => by have := sm_more h (n := n) d; have := h (n + d); rw [← Nat.add_assoc, sm]; omega
theorem sm_shift (f : Nat → Int) : ∀ n, sm f (n + 1) = f 0 + sm (fun i => f (i + 1)) n
  | 0 => by simp [sm]
  | n + 1 => by rw [sm, sm_shift f n, sm]; omega
theorem sm_rev (f : Nat → Int) : ∀ n, sm (fun i => f (n - 1 - i)) n = sm f n
  | 0 => rfl
  | n + 1 => by
    rw [sm_shift, sm, show n + 1 - 1 - 0 = n by omega, ← sm_rev f n]
    have : sm (fun i => f (n + 1 - 1 - (i + 1))) n = sm (fun i => f (n - 1 - i)) n := sm_eq n fun i hi => by rw [show n + 1 - 1 - (i + 1) = n - 1 - i by omega]
    rw [this]; omega
def invI (xs : List Int) (i k : Nat) : Int := if i < k ∧ xs.getD k 0 < xs.getD i 0 then 1 else 0
def btwI (xs : List Int) (i k : Nat) : Int := if min (xs.getD i 0) (xs.getD (i + 1) 0) < xs.getD k 0 ∧ xs.getD k 0 < max (xs.getD i 0) (xs.getD (i + 1) 0) then 1 else 0
theorem invI_in (xs : List Int) (i k : Nat) : 0 ≤ invI xs i k := by unfold invI; split <;> omega
theorem invRow_sm (xs : List Int) (i : Nat) : ∀ k, invRow xs i k = sm (invI xs i) k
  | 0 => rfl
  | k + 1 => by rw [invRow, sm, invRow_sm xs i k]; rfl
theorem invTo_sm (xs : List Int) : ∀ i, invTo xs i = sm (fun i => sm (invI xs i) xs.length) i
  | 0 => rfl
  | i + 1 => by rw [invTo, sm, invTo_sm xs i, invRow_sm]
theorem btwC_sm (xs : List Int) (i : Nat) : ∀ k, btwC xs (xs.getD i 0) (xs.getD (i + 1) 0) k = sm (btwI xs i) k
  | 0 => rfl
  | k + 1 => by rw [btwC, sm, btwC_sm xs i k]; rfl
theorem swTo_sm (xs : List Int) : ∀ i, swTo xs i = sm (fun i => sm (btwI xs i) xs.length) i
  | 0 => rfl
  | i + 1 => by rw [swTo, sm, swTo_sm xs i, btwC_sm]
theorem btw_inv (xs : List Int) (i k : Nat) : btwI xs i k ≤ invI xs i k + invI xs k i + (invI xs (i + 1) k + invI xs k (i + 1)) := by
  have h1 := invI_in xs i k; have h2 := invI_in xs k i; have h3 := invI_in xs (i + 1) k; have h4 := invI_in xs k (i + 1)
  by_cases hb : min (xs.getD i 0) (xs.getD (i + 1) 0) < xs.getD k 0 ∧ xs.getD k 0 < max (xs.getD i 0) (xs.getD (i + 1) 0)
  · have hbi : btwI xs i k = 1 := if_pos hb
    have hne : k ≠ i := fun e => by subst e; omega
    have hne2 : k ≠ i + 1 := fun e => by subst e; omega
    rw [hbi]
    rcases Int.lt_or_le (xs.getD i 0) (xs.getD (i + 1) 0) with h | h
    · rcases Nat.lt_or_ge i k with hk | hk
      · have : invI xs (i + 1) k = 1 := if_pos ⟨by omega, by omega⟩
        omega
      · have : invI xs k i = 1 := if_pos ⟨by omega, by omega⟩
        omega
    · rcases Nat.lt_or_ge i k with hk | hk
      · have : invI xs i k = 1 := if_pos ⟨by omega, by omega⟩
        omega
      · have : invI xs k (i + 1) = 1 := if_pos ⟨by omega, by omega⟩
        omega
  · have hbi : btwI xs i k = 0 := if_neg hb
    omega
theorem sw_inv (xs : List Int) : swTo xs (xs.length - 1) ≤ 4 * invTo xs xs.length := by
  rw [swTo_sm, invTo_sm]
  rcases Nat.eq_zero_or_pos xs.length with h0 | h0
  · rw [h0]; simp [sm]
  · have hn : xs.length = (xs.length - 1) + 1 := by omega
    have h1 : sm (fun i => sm (btwI xs i) xs.length) (xs.length - 1) ≤ sm (fun i => sm (fun k => invI xs i k + invI xs k i + (invI xs (i + 1) k + invI xs k (i + 1))) xs.length) (xs.length - 1) := sm_le _ fun i _ => sm_le _ fun k _ => btw_inv xs i k
    have h2 : sm (fun i => sm (fun k => invI xs i k + invI xs k i + (invI xs (i + 1) k + invI xs k (i + 1))) xs.length) (xs.length - 1) = sm (fun i => sm (fun k => invI xs i k) xs.length) (xs.length - 1) + sm (fun i => sm (fun k => invI xs k i) xs.length) (xs.length - 1) + (sm (fun i => sm (fun k => invI xs (i + 1) k) xs.length) (xs.length - 1) + sm (fun i => sm (fun k => invI xs k (i + 1)) xs.length) (xs.length - 1)) := by
      rw [← sm_add, ← sm_add, ← sm_add]
      refine sm_eq _ fun i _ => ?_
      rw [← sm_add, ← sm_add, ← sm_add]
    have hp : ∀ i, 0 ≤ sm (fun k => invI xs i k) xs.length := fun i => by rw [← sm_zero xs.length]; exact sm_le _ fun k _ => invI_in _ _ _
    have hq : ∀ i, 0 ≤ sm (fun k => invI xs k i) xs.length := fun i => by rw [← sm_zero xs.length]; exact sm_le _ fun k _ => invI_in _ _ _
    have h3 := sm_more hp (n := xs.length - 1) 1
    have h4 := sm_more hq (n := xs.length - 1) 1
    have h5 := sm_shift (fun i => sm (fun k => invI xs i k) xs.length) (xs.length - 1)
    have h6 := sm_shift (fun i => sm (fun k => invI xs k i) xs.length) (xs.length - 1)
    have h7 := sm_swap (fun i k => invI xs k i) xs.length xs.length
    rw [← hn] at h3 h4 h5 h6
    have h8 := hp 0
    have h9 := hq 0
    have e1 : sm (fun i => sm (invI xs i) xs.length) xs.length = sm (fun i => sm (fun k => invI xs i k) xs.length) xs.length := rfl
    omega
theorem rev_getD {xs : List Int} {j : Nat} (h : j < xs.length) : xs.reverse.getD j 0 = xs.getD (xs.length - 1 - j) 0 := by
  rw [List.getD_eq_getElem?_getD, List.getD_eq_getElem?_getD, List.getElem?_reverse h]
theorem sw_rev (xs : List Int) : swTo xs.reverse (xs.reverse.length - 1) = swTo xs (xs.length - 1) := by
  rw [swTo_sm, swTo_sm, List.length_reverse]
  rcases Nat.eq_zero_or_pos xs.length with h0 | h0
  · rw [h0]; rfl
  · rw [← sm_rev (fun i => sm (btwI xs i) xs.length)]
    refine sm_eq _ fun i hi => ?_
    rw [← sm_rev (btwI xs (xs.length - 1 - 1 - i))]
    refine sm_eq _ fun k hk => ?_
    unfold btwI
    rw [rev_getD (by omega), rev_getD (by omega), rev_getD hk, show xs.length - 1 - (i + 1) = xs.length - 1 - 1 - i by omega, show xs.length - 1 - 1 - i + 1 = xs.length - 1 - i by omega, Int.min_comm, Int.max_comm]
theorem swTo_nonneg (xs : List Int) : ∀ i, 0 ≤ swTo xs i ∧ swTo xs i ≤ xs.length * i
  | 0 => by simp [swTo]
  | i + 1 => by
    have := swTo_nonneg xs i
    have := btw_in xs (xs.getD i 0) (xs.getD (i + 1) 0) xs.length
    rw [swTo, show ((xs.length : Int)) * ((i + 1 : Nat) : Int) = xs.length * i + xs.length by rw [show ((i + 1 : Nat) : Int) = (i : Int) + 1 by omega, Int.mul_add, Int.mul_one]]
    omega

theorem cnt_app (P : Nat → Bool) : ∀ d e a, cnt P a (d + e) = cnt P a d + cnt P (a + d) e
  | 0, e, a => by simp [cnt]
  | d + 1, e, a => by rw [show d + 1 + e = (d + e) + 1 by omega, cnt, cnt_app P d e (a + 1), cnt, show a + 1 + d = a + (d + 1) by omega]; omega
theorem cnt_same {P Q : Nat → Bool} : ∀ d a, (∀ k, a ≤ k → k < a + d → P k = Q k) → cnt P a d = cnt Q a d
  | 0, _, _ => rfl
  | d + 1, a, h => by rw [cnt, cnt, h a (by omega) (by omega), cnt_same d (a + 1) fun k h1 h2 => h k (by omega) (by omega)]
theorem cnt_less {Q : Nat → Bool} {c : Nat} (hQ : Q c = true) {N : Nat} (hc : c < N) : cnt (fun k => Q k && decide (k ≠ c)) 0 N = cnt Q 0 N - 1 := by
  have h1 : cnt Q 0 N = cnt Q 0 c + (1 + cnt Q (c + 1) (N - (c + 1))) := by
    have h2 := cnt_app Q c ((N - (c + 1)) + 1) 0
    rw [show c + (N - (c + 1) + 1) = N by omega, Nat.zero_add, cnt, if_pos hQ] at h2
    exact h2
  have h3 : cnt (fun k => Q k && decide (k ≠ c)) 0 N = cnt Q 0 c + (0 + cnt Q (c + 1) (N - (c + 1))) := by
    have h2 := cnt_app (fun k => Q k && decide (k ≠ c)) c ((N - (c + 1)) + 1) 0
    rw [show c + (N - (c + 1) + 1) = N by omega, Nat.zero_add, cnt, if_neg (by simp)] at h2
    rw [h2, cnt_same (Q := Q) c 0 (fun k q1 q2 => by rw [decide_eq_true (by omega), Bool.and_true]), cnt_same (Q := Q) (N - (c + 1)) (c + 1) (fun k q1 q2 => by rw [decide_eq_true (by omega), Bool.and_true])]
  omega
/-- What is told apart by R is no more than what R leads to. -/
theorem cnt_inj {R : Nat → Nat → Prop} : ∀ (n : Nat) {P Q : Nat → Bool} {N : Nat}, (∀ i, i < n → P i = true → ∃ c, c < N ∧ Q c = true ∧ R i c) → (∀ i k c, i < n → k < n → P i = true → P k = true → R i c → R k c → i = k) → cnt P 0 n ≤ cnt Q 0 N
  | 0, P, Q, N, _, _ => by have := cnt_in Q N 0; simp only [cnt]; omega
  | n + 1, P, Q, N, h1, h2 => by
    rw [cnt_up, Nat.zero_add]
    cases hp : P n with
    | false =>
      have := cnt_inj n (P := P) (Q := Q) (N := N) (fun i hi => h1 i (by omega)) (fun i k c hi hk => h2 i k c (by omega) (by omega))
      simp; omega
    | true =>
      obtain ⟨c, hc, hQc, hR⟩ := h1 n (by omega) hp
      have := cnt_inj n (P := P) (Q := fun k => Q k && decide (k ≠ c)) (N := N) (fun i hi hPi => by
        obtain ⟨d, q1, q2, q3⟩ := h1 i (by omega) hPi
        refine ⟨d, q1, ?_, q3⟩
        have : d ≠ c := fun e => by
          subst e
          have := h2 i n d (by omega) (by omega) hPi hp q3 hR
          omega
        show (Q d && decide (d ≠ c)) = true
        rw [q2, decide_eq_true this]; rfl) (fun i k c hi hk => h2 i k c (by omega) (by omega))
      rw [cnt_less hQc hc] at this
      simp; omega
theorem cnt_rows {Q : Nat → Bool} {n : Nat} : ∀ m, cnt Q 0 (m * n) = sm (fun i => cnt Q (i * n) n) m
  | 0 => by simp [cnt, sm]
  | m + 1 => by rw [Nat.succ_mul, cnt_app, cnt_rows m, sm, Nat.zero_add]
theorem cnt_sm {Q : Nat → Bool} {a : Nat} : ∀ n, cnt Q a n = sm (fun k => if Q (a + k) = true then 1 else 0) n
  | 0 => rfl
  | n + 1 => by rw [cnt_up, cnt_sm n, sm]


/-- Pairs that stand the wrong way round, as one number each. -/
def invC (xs : List Int) (c : Nat) : Bool := decide (c / xs.length < c % xs.length ∧ xs.getD (c % xs.length) 0 < xs.getD (c / xs.length) 0)
theorem code_div {n a b : Nat} (h : b < n) : (a * n + b) / n = a ∧ (a * n + b) % n = b := by
  constructor
  · rw [Nat.mul_comm, Nat.mul_add_div (by omega), Nat.div_eq_of_lt h, Nat.add_zero]
  · rw [Nat.mul_comm, Nat.mul_add_mod, Nat.mod_eq_of_lt h]
theorem invC_cnt (xs : List Int) : cnt (invC xs) 0 (xs.length * xs.length) = invTo xs xs.length := by
  rw [cnt_rows, invTo_sm]
  refine sm_eq _ fun i _ => ?_
  rw [cnt_sm]
  refine sm_eq _ fun k hk => ?_
  unfold invC invI
  rw [(code_div hk).1, (code_div hk).2]
  simp only [decide_eq_true_eq]
theorem leastOf_ex {p : Nat → Prop} : ∀ (n : Nat), p n → ∃ k, k ≤ n ∧ p k ∧ ∀ j, j < k → ¬ p j := by
  intro n
  induction n using Nat.strongRecOn with
  | _ n ih =>
    intro h
    by_cases hx : ∃ m, m < n ∧ p m
    · obtain ⟨m, h1, h2⟩ := hx
      obtain ⟨k, q1, q2, q3⟩ := ih m h1 h2
      exact ⟨k, by omega, q2, q3⟩
    · exact ⟨n, Nat.le_refl _, h, fun j hj hp => hx ⟨j, hj, hp⟩⟩
theorem last_of {p : Nat → Prop} (n k : Nat) (hk : k < n) (h : p k) : ∃ m, k ≤ m ∧ m < n ∧ p m ∧ ∀ j, m < j → j < n → ¬ p j := by
  obtain ⟨d, h1, h2, h3⟩ := leastOf_ex (p := fun d => d < n ∧ p (n - 1 - d)) (n - 1 - k) ⟨by omega, by rwa [show n - 1 - (n - 1 - k) = k by omega]⟩
  refine ⟨n - 1 - d, by omega, by omega, h2.2, fun j q1 q2 hp => h3 (n - 1 - j) (by omega) ⟨by omega, ?_⟩⟩
  rwa [show n - 1 - (n - 1 - j) = j by omega]
/-- The way of a circle that stays at or above i, from the place of y on to x, and comes from under i and goes under i. -/
def arcP (xs : List Int) (i y x : Nat) : Prop := y < i ∧ x < xs.length ∧ ∃ L t0, t0 ≤ L ∧ (∀ t, t ≤ L → i ≤ itP xs t (plN xs y)) ∧ itP xs t0 (plN xs y) = i ∧ itP xs (L + 1) (plN xs y) < i ∧ x = itP xs L (plN xs y)
theorem itP_suc {xs : List Int} {y : Nat} (t : Nat) : itP xs t (plN xs y) = itP xs (t + 1) y := by rw [itP_add]; rfl
theorem arc_ex {xs : List Int} {i : Nat} (hi : i < xs.length) (h : lstB xs i = false) : ∃ y x, arcP xs i y x := by
  have hn : ∃ k, itP xs k i < i := Classical.byContradiction fun hx => by
    have : lstB xs i = true := (lstB_iff hi).2 fun k => by
      rcases Nat.lt_or_ge (itP xs k i) i with h1 | h1
      · exact (hx ⟨k, h1⟩).elim
      · exact h1
    rw [h] at this; cases this
  obtain ⟨k0, hk0⟩ := hn
  obtain ⟨T, hT, hTn, hTi⟩ := itP_ret hi
  rw [itP_mod hTi k0] at hk0
  have hlt := Nat.mod_lt k0 hT
  generalize k0 % T = k at hk0 hlt
  obtain ⟨k1, a1, a2, a3⟩ := leastOf_ex (p := fun k => itP xs k i < i) k hk0
  obtain ⟨k2, b1, b2, b3, b4⟩ := last_of (p := fun k => itP xs k i < i) T k hlt hk0
  have h10 : k1 ≠ 0 := fun e => by rw [e] at a2; exact Nat.lt_irrefl _ a2
  have key : ∀ t, t ≤ T - k2 - 1 + (k1 - 1) → i ≤ itP xs t (plN xs (itP xs k2 i)) := fun t ht => by
    rw [itP_suc, ← itP_add]
    rcases Nat.lt_or_ge (t + 1 + k2) T with h1 | h1
    · exact Nat.le_of_not_lt (b4 (t + 1 + k2) (by omega) h1)
    · rw [show t + 1 + k2 = (t + 1 + k2 - T) + T by omega, itP_add, hTi]
      exact Nat.le_of_not_lt (a3 (t + 1 + k2 - T) (by omega))
  refine ⟨itP xs k2 i, itP xs (T - k2 - 1 + (k1 - 1)) (plN xs (itP xs k2 i)), b3, itP_lt (plN_lt (itP_lt hi _)) _, T - k2 - 1 + (k1 - 1), T - k2 - 1, by omega, key, ?_, ?_, rfl⟩
  · rw [itP_suc, ← itP_add, show T - k2 - 1 + 1 + k2 = T by omega, hTi]
  · rw [itP_suc, ← itP_add, show T - k2 - 1 + (k1 - 1) + 1 + 1 + k2 = k1 + T by omega, itP_add, hTi]
    exact a2
theorem arc_one {xs : List Int} {i j y x : Nat} (h1 : arcP xs i y x) (h2 : arcP xs j y x) : ¬ i < j := fun hij => by
  obtain ⟨_, _, L, t, q1, q2, q3, q4, q5⟩ := h1
  obtain ⟨_, _, L', t', p1, p2, p3, p4, p5⟩ := h2
  rcases Nat.lt_or_ge L L' with h | h
  · have := p2 (L + 1) (by omega); omega
  · rcases Nat.lt_or_ge L' L with h3 | h3
    · have h4 := q2 (L' + 1) (by omega)
      have h5 : itP xs (L' + 1) (plN xs y) = plN xs x := by rw [p5]; rfl
      have h6 : itP xs (L + 1) (plN xs y) = plN xs x := by rw [q5]; rfl
      omega
    · have : L = L' := by omega
      subst this
      have := p2 t q1
      omega
theorem arc_inv {xs : List Int} {i y x : Nat} (hi : i < xs.length) (h : arcP xs i y x) : invC xs (y * xs.length + x) = true := by
  obtain ⟨h1, h2, L, t, q1, q2, q3, q4, q5⟩ := h
  have h3 := q2 L (Nat.le_refl _)
  have h4 := q2 0 (Nat.zero_le _)
  have h5 : itP xs (L + 1) (plN xs y) = plN xs x := by rw [q5]; rfl
  have h6 : itP xs 0 (plN xs y) = plN xs y := rfl
  have h7 := (plN_ltK (xs := xs) (i := x) (k := y) h2 (by omega)).1 (by omega)
  unfold ltK at h7
  unfold invC
  rw [(code_div h2).1, (code_div h2).2]
  exact decide_eq_true (by omega)


def notL (xs : List Int) (i : Nat) : Bool := !lstB xs i
theorem cir_cnt (xs : List Int) : ∀ n : Nat, (n : Int) - cirN xs n = cnt (notL xs) 0 n
  | 0 => by simp [cirN, cnt]
  | n + 1 => by
    have ih := cir_cnt xs n
    rw [cirN, cnt_up, Nat.zero_add, ← ih]
    unfold notL
    cases lstB xs n <;> simp <;> omega
theorem exc_inv (xs : List Int) : (xs.length : Int) - cirN xs xs.length ≤ invTo xs xs.length := by
  rw [cir_cnt, ← invC_cnt]
  refine cnt_inj (R := fun i c => ∃ y x, x < xs.length ∧ c = y * xs.length + x ∧ arcP xs i y x) _ (fun i hi hP => ?_) (fun i k c hi hk hP hPk h1 h2 => ?_)
  · obtain ⟨y, x, h⟩ := arc_ex hi (by unfold notL at hP; simpa using hP)
    have hx : x < xs.length := h.2.1
    have hy : y < xs.length := by have := h.1; omega
    refine ⟨y * xs.length + x, ?_, arc_inv hi h, y, x, hx, rfl, h⟩
    have : (y + 1) * xs.length ≤ xs.length * xs.length := Nat.mul_le_mul_right _ (by omega)
    rw [Nat.succ_mul] at this
    omega
  · obtain ⟨y, x, hx, hc, ha⟩ := h1
    obtain ⟨y', x', hx', hc', ha'⟩ := h2
    have e1 := code_div (a := y) hx
    have e2 := code_div (a := y') hx'
    rw [← hc] at e1
    rw [← hc'] at e2
    obtain rfl : y = y' := by omega
    obtain rfl : x = x' := by omega
    have := arc_one ha ha'
    have := arc_one ha' ha
    omega


theorem selIn_min (ys : List Int) (i : Nat) : ∀ d j, i ≤ j → j < i + 1 + d → ys.getD (selIn ys i d) 0 ≤ ys.getD j 0
  | 0, j, h1, h2 => by rw [show j = i by omega]; exact Int.le_refl _
  | d + 1, j, h1, h2 => by
    rw [selIn]
    split
    · rename_i hc
      rcases Nat.lt_or_ge j (i + 1 + d) with h3 | h3
      · have := selIn_min ys i d j h1 h3; omega
      · rw [show j = i + 1 + d by omega]; exact Int.le_refl _
    · rename_i hc
      rcases Nat.lt_or_ge j (i + 1 + d) with h3 | h3
      · exact selIn_min ys i d j h1 h3
      · rw [show j = i + 1 + d by omega]; omega
/-- Behind i steps of selection: the keys, the first ones right, and what was asked and moved. -/
theorem selTo_all (xs : List Int) : ∀ i, i ≤ xs.length → (selTo xs i).1.Perm xs ∧ 2 * (selTo xs i).2.1 = i * (2 * (xs.length : Int) - i - 1) ∧ 0 ≤ (selTo xs i).2.2 ∧ (selTo xs i).2.2 ≤ i ∧ ∀ a b, a < i → a < b → b < xs.length → (selTo xs i).1.getD a 0 ≤ (selTo xs i).1.getD b 0
  | 0, _ => ⟨List.Perm.refl _, by simp [selTo], by simp [selTo], by simp [selTo], fun a b h => by omega⟩
  | i + 1, h => by
    obtain ⟨i1, i2, i3, i4, i5⟩ := selTo_all xs i (by omega)
    have hl := i1.length_eq
    have hsi := selIn_in (selTo xs i).1 i (xs.length - (i + 1))
    have hmn := selIn_min (selTo xs i).1 i (xs.length - (i + 1))
    have hq : 2 * ((selTo xs i).2.1 + (xs.length - (i + 1) : Nat)) = ((i + 1 : Nat) : Int) * (2 * (xs.length : Int) - ((i + 1 : Nat) : Int) - 1) := by
      have e1 : ((i + 1 : Nat) : Int) = (i : Int) + 1 := by omega
      have e2 : 2 * (xs.length : Int) - ((i : Int) + 1) - 1 = (2 * (xs.length : Int) - i - 1) - 1 := by omega
      rw [e1, e2, Int.mul_sub, Int.add_mul]
      omega
    rw [selTo]
    split
    · rename_i hc
      rw [hc] at hmn
      refine ⟨i1, hq, i3, by simp only; omega, fun a b h1 h2 h3 => ?_⟩
      rcases Nat.lt_or_ge a i with h4 | h4
      · exact i5 a b h4 h2 h3
      · rw [show a = i by omega]; exact hmn b (by omega) (by omega)
    · rename_i hc
      generalize selIn (selTo xs i).1 i (xs.length - (i + 1)) = m at *
      have hg := swp_get (xs := (selTo xs i).1) (a := i) (b := m) (by omega) (by omega)
      refine ⟨(swp_perm (by omega) (by omega)).trans i1, hq, by simp only; omega, by simp only; omega, fun a b h1 h2 h3 => ?_⟩
      simp only
      rw [hg a, hg b]
      rcases Nat.lt_or_ge a i with h4 | h4
      · rw [if_neg (by omega), if_neg (by omega)]
        split
        · exact i5 a i h4 (by omega) (by omega)
        · split
          · exact i5 a m h4 (by omega) (by omega)
          · exact i5 a b h4 h2 h3
      · have ha : a = i := by omega
        subst ha
        rw [if_neg (by omega), if_pos rfl]
        split
        · exact hmn a (by omega) (by omega)
        · rw [if_neg (by omega)]; exact hmn b (by omega) (by omega)
theorem sel_fin {xs : List Int} (h : 0 < xs.length) : (selTo xs (xs.length - 1)).1 = ordL xs ∧ 2 * (selTo xs (xs.length - 1)).2.1 = (xs.length : Int) * ((xs.length : Int) - 1) ∧ 0 ≤ (selTo xs (xs.length - 1)).2.2 ∧ (selTo xs (xs.length - 1)).2.2 < xs.length := by
  obtain ⟨i1, i2, i3, i4, i5⟩ := selTo_all xs (xs.length - 1) (by omega)
  have hl := i1.length_eq
  refine ⟨srt_uniq (srt_of fun x y q1 q2 => i5 x y (by omega) q1 (by omega)) i1, ?_, i3, by omega⟩
  rw [i2]
  have e1 : ((xs.length - 1 : Nat) : Int) = (xs.length : Int) - 1 := by omega
  rw [e1, show 2 * (xs.length : Int) - ((xs.length : Int) - 1) - 1 = xs.length by omega, Int.mul_comm]
/-- Keys of which no two are equal. -/
def difK (xs : List Int) : Prop := ∀ a b, a < b → b < xs.length → xs.getD a 0 ≠ xs.getD b 0
theorem ord_strict {xs : List Int} (hd : difK xs) {p q : Nat} (hpq : p < q) (hq : q < xs.length) : (ordL xs).getD p 0 < (ordL xs).getD q 0 := by
  obtain ⟨a, ha, rfl⟩ := ord_from (xs := xs) (b := p) (by omega)
  obtain ⟨b, hb, rfl⟩ := ord_from (xs := xs) hq
  rw [ord_at ha, ord_at hb]
  have h1 := (plN_ltK (xs := xs) ha hb).1 hpq
  unfold ltK at h1
  rcases Nat.lt_trichotomy a b with h2 | h2 | h2
  · have := hd a b h2 hb; omega
  · subst h2; omega
  · have := hd b a h2 ha; omega
/-- An index is the greatest of its circle. -/
def grtP (xs : List Int) (x : Nat) : Prop := ∀ k, itP xs k x ≤ x
noncomputable def grtB (xs : List Int) (x : Nat) : Bool := @decide (grtP xs x) (Classical.propDecidable _)
theorem grtB_iff {xs : List Int} {x : Nat} : grtB xs x = true ↔ grtP xs x := by unfold grtB; simp
/-- What stands at a place is what the way from it comes back to first. -/
def retAt (xs ys : List Int) (i x : Nat) : Prop := ∃ k, 0 < k ∧ ys.getD x 0 = (ordL xs).getD (itP xs k x) 0 ∧ i ≤ itP xs k x ∧ ∀ j, 0 < j → j < k → itP xs j x < i
theorem ret_more {xs ys : List Int} {i x : Nat} (h : retAt xs ys i x) : (∃ k, 0 < k ∧ itP xs k x = i ∧ ys.getD x 0 = (ordL xs).getD i 0 ∧ ∀ j, 0 < j → j < k → itP xs j x < i) ∨ retAt xs ys (i + 1) x := by
  obtain ⟨k, h1, h2, h3, h4⟩ := h
  by_cases e : itP xs k x = i
  · left; exact ⟨k, h1, e, by rw [h2, e], h4⟩
  · right; exact ⟨k, h1, h2, by omega, fun j q1 q2 => by have := h4 j q1 q2; omega⟩
theorem itP_per {xs : List Int} {i k : Nat} (hk : 0 < k) (h : itP xs k i = i) (hlt : ∀ j, 0 < j → j < k → itP xs j i < i) : grtP xs i := fun m => by
  rw [itP_mod h m]
  rcases Nat.eq_zero_or_pos (m % k) with h0 | h0
  · rw [h0]; exact Nat.le_refl _
  · have := hlt _ h0 (Nat.mod_lt m hk); omega
/-- Selection moves a key for each index that is not the greatest of its circle. -/
theorem sel_circ {xs : List Int} (hd : difK xs) : ∀ i, i ≤ xs.length → (selTo xs i).2.2 = cnt (fun a => !grtB xs a) 0 i ∧ ∀ x, i ≤ x → x < xs.length → retAt xs (selTo xs i).1 i x
  | 0, _ => ⟨rfl, fun x _ hx => ⟨1, by omega, (ord_at hx).symm, Nat.zero_le _, fun j h1 h2 => by omega⟩⟩
  | i + 1, h => by
    obtain ⟨h1, h2⟩ := sel_circ hd i (by omega)
    obtain ⟨p1, _, _, _, p5⟩ := selTo_all xs i (by omega)
    have hl := p1.length_eq
    have hsi := selIn_in (selTo xs i).1 i (xs.length - (i + 1))
    have hmn := selIn_min (selTo xs i).1 i (xs.length - (i + 1))
    -- the least one from i on is the one whose place is i
    have hge : ∀ x, i ≤ x → x < xs.length → (ordL xs).getD i 0 ≤ (selTo xs i).1.getD x 0 := fun x q1 q2 => by
      obtain ⟨k, _, r2, r3, _⟩ := h2 x q1 q2
      rw [r2]
      have := ord_mono (xs := xs) (p := i) (q := itP xs k x)
      rcases Nat.lt_or_ge i (itP xs k x) with r | r
      · exact this r (itP_lt q2 k)
      · rw [show itP xs k x = i by omega]; exact Int.le_refl _
    have hex : ∃ x, i ≤ x ∧ x < xs.length ∧ (selTo xs i).1.getD x 0 = (ordL xs).getD i 0 := by
      -- the greatest of the rest is no key of the first places, which are less
      obtain ⟨p, hp, hpn, hpi⟩ := itP_ret (xs := xs) (x := i) (by omega)
      obtain ⟨k2, b1, b2, b3, b4⟩ := last_of (p := fun k => i ≤ itP xs k i) p 0 hp (Nat.le_refl i)
      refine ⟨itP xs k2 i, b3, itP_lt (by omega) _, ?_⟩
      obtain ⟨k, r1, r2, r3, r4⟩ := h2 (itP xs k2 i) b3 (itP_lt (by omega) _)
      have hk : k = p - k2 := by
        rcases Nat.lt_trichotomy k (p - k2) with q | q | q
        · exfalso
          rw [← itP_add] at r3
          exact b4 (k + k2) (by omega) (by omega) r3
        · exact q
        · exfalso
          have := r4 (p - k2) (by omega) q
          rw [← itP_add, show p - k2 + k2 = p by omega, hpi] at this
          omega
      rw [r2, hk, ← itP_add, show p - k2 + k2 = p by omega, hpi]
    obtain ⟨x0, q1, q2, q3⟩ := hex
    have hmv : (selTo xs i).1.getD (selIn (selTo xs i).1 i (xs.length - (i + 1))) 0 = (ordL xs).getD i 0 := by
      have := hmn x0 q1 (by omega)
      have := hge (selIn (selTo xs i).1 i (xs.length - (i + 1))) hsi.1 (by omega)
      omega
    have hone : ∀ x, i ≤ x → x < xs.length → (selTo xs i).1.getD x 0 = (ordL xs).getD i 0 → ∃ k, 0 < k ∧ itP xs k x = i ∧ ∀ j, 0 < j → j < k → itP xs j x < i := fun x r1 r2 r3 => by
      obtain ⟨k, s1, s2, s3, s4⟩ := h2 x r1 r2
      refine ⟨k, s1, ?_, s4⟩
      rcases Nat.lt_or_ge i (itP xs k x) with r | r
      · have := ord_strict hd r (itP_lt r2 k); omega
      · omega
    generalize hm : selIn (selTo xs i).1 i (xs.length - (i + 1)) = m at *
    obtain ⟨km, m1, m2, m3⟩ := hone m hsi.1 (by omega) hmv
    -- places with that key are one
    have huniq : ∀ x, i ≤ x → x < xs.length → (selTo xs i).1.getD x 0 = (ordL xs).getD i 0 → x = m := fun x r1 r2 r3 => by
      obtain ⟨k, s1, s2, s3⟩ := hone x r1 r2 r3
      have hkk : k = km ∨ k < km ∨ km < k := by omega
      rcases hkk with e | e | e
      · subst e; exact itP_inj r2 (by omega) k (s2.trans m2.symm)
      · exfalso
        have : itP xs k (itP xs (km - k) m) = itP xs k x := by rw [← itP_add, show k + (km - k) = km by omega, m2, s2]
        have := itP_inj (itP_lt (by omega) _) r2 k this
        have := m3 (km - k) (by omega) (by omega)
        omega
      · exfalso
        have : itP xs km (itP xs (k - km) x) = itP xs km m := by rw [← itP_add, show km + (k - km) = k by omega, s2, m2]
        have := itP_inj (itP_lt r2 _) (by omega) km this
        have := s3 (k - km) (by omega) (by omega)
        omega
    rw [selTo, hm]
    split
    · rename_i hc
      subst hc
      have hgr : grtB xs m = true := grtB_iff.2 (itP_per m1 m2 m3)
      refine ⟨by simp only; rw [cnt_up, Nat.zero_add, hgr, h1]; simp, fun x r1 r2 => ?_⟩
      rcases ret_more (h2 x (by omega) r2) with ⟨k, s1, s2, s3, s4⟩ | s
      · have := huniq x (by omega) r2 s3; omega
      · exact s
    · rename_i hc
      have hgr : grtB xs i = false := by
        cases e : grtB xs i with
        | false => rfl
        | true =>
          exfalso
          have hg := grtB_iff.1 e
          obtain ⟨k, s1, s2, s3, s4⟩ := h2 i (Nat.le_refl _) (by omega)
          have := hg k
          have := huniq i (Nat.le_refl _) (by omega) (by rw [s2, show itP xs k i = i by omega])
          omega
      refine ⟨by simp only; rw [cnt_up, Nat.zero_add, hgr, h1]; simp, fun x r1 r2 => ?_⟩
      simp only
      have hg := swp_get (xs := (selTo xs i).1) (a := i) (b := m) (by omega) (by omega)
      by_cases e : x = m
      · subst e
        obtain ⟨k, s1, s2, s3, s4⟩ := h2 i (Nat.le_refl _) (by omega)
        have hne : itP xs k i ≠ i := fun e2 => hc (huniq i (Nat.le_refl _) (by omega) (by rw [s2, e2])).symm
        refine ⟨k + km, by omega, ?_, ?_, fun j t1 t2 => ?_⟩
        · rw [hg x, if_pos rfl, s2, itP_add, m2]
        · rw [itP_add, m2]; omega
        · rcases Nat.lt_trichotomy j km with t3 | t3 | t3
          · have := m3 j t1 t3; omega
          · rw [t3, m2]; omega
          · have := s4 (j - km) (by omega) (by omega)
            rw [show j = (j - km) + km by omega, itP_add, m2]; omega
      · rcases ret_more (h2 x (by omega) r2) with ⟨k, s1, s2, s3, s4⟩ | ⟨k, s1, s2, s3, s4⟩
        · exact (e (huniq x (by omega) r2 s3)).elim
        · refine ⟨k, s1, ?_, s3, s4⟩
          rw [hg x, if_neg e, if_neg (by omega)]; exact s2
/-- There are as many greatest ones as least ones. -/
theorem grt_lst (xs : List Int) : cnt (grtB xs) 0 xs.length = cnt (lstB xs) 0 xs.length := by
  have h1 := cnt_inj (R := fun a b => ∃ k, itP xs k a = b) xs.length (P := grtB xs) (Q := lstB xs) (N := xs.length) (fun i hi hP => by
    obtain ⟨m, _, ⟨k, hk⟩, hmin⟩ := leastOf_ex (p := fun m => ∃ k, itP xs k i = m) i ⟨0, rfl⟩
    have hm : m < xs.length := by rw [← hk]; exact itP_lt hi k
    refine ⟨m, hm, (lstB_iff hm).2 fun j => ?_, k, hk⟩
    rcases Nat.lt_or_ge (itP xs j m) m with h2 | h2
    · exact (hmin _ h2 ⟨j + k, by rw [itP_add, hk]⟩).elim
    · exact h2) (fun i j c hi hj hPi hPj ⟨k1, h1⟩ ⟨k2, h2⟩ => by
    obtain ⟨m1, hm1⟩ := itP_back (xs := xs) (a := i) (k := k1) hi
    obtain ⟨m2, hm2⟩ := itP_back (xs := xs) (a := j) (k := k2) hj
    rw [h1] at hm1
    rw [h2] at hm2
    have e1 := grtB_iff.1 hPi (m2 + k1)
    have e2 := grtB_iff.1 hPj (m1 + k2)
    rw [itP_add, h1, hm2] at e1
    rw [itP_add, h2, hm1] at e2
    omega)
  have h2 := cnt_inj (R := fun a b => ∃ k, itP xs k a = b) xs.length (P := lstB xs) (Q := grtB xs) (N := xs.length) (fun i hi hP => by
    obtain ⟨m, _, ⟨hml, k, hk⟩, hmin⟩ := leastOf_ex (p := fun m => m < xs.length ∧ ∃ k, itP xs k i = xs.length - 1 - m) (xs.length - 1 - i) ⟨by omega, 0, by show i = _; omega⟩
    have hm : xs.length - 1 - m < xs.length := by omega
    refine ⟨xs.length - 1 - m, hm, grtB_iff.2 fun j => ?_, k, hk⟩
    rcases Nat.lt_or_ge (xs.length - 1 - m) (itP xs j (xs.length - 1 - m)) with h2 | h2
    · have hlt := itP_lt hm j
      exact (hmin (xs.length - 1 - itP xs j (xs.length - 1 - m)) (by omega) ⟨by omega, j + k, by rw [itP_add, hk]; omega⟩).elim
    · exact h2) (fun i j c hi hj hPi hPj ⟨k1, h1⟩ ⟨k2, h2⟩ => by
    obtain ⟨m1, hm1⟩ := itP_back (xs := xs) (a := i) (k := k1) hi
    obtain ⟨m2, hm2⟩ := itP_back (xs := xs) (a := j) (k := k2) hj
    rw [h1] at hm1
    rw [h2] at hm2
    have e1 := (lstB_iff hi).1 hPi (m2 + k1)
    have e2 := (lstB_iff hj).1 hPj (m1 + k2)
    rw [itP_add, h1, hm2] at e1
    rw [itP_add, h2, hm1] at e2
    omega)
  omega
theorem cnt_not (P : Nat → Bool) : ∀ d a, cnt (fun k => !P k) a d = d - cnt P a d
  | 0, a => by simp [cnt]
  | d + 1, a => by
    rw [cnt, cnt, cnt_not P d (a + 1)]
    cases P a <;> simp <;> omega
theorem sel_exc {xs : List Int} (hd : difK xs) : (selTo xs (xs.length - 1)).2.2 = (xs.length : Int) - cirN xs xs.length := by
  have h1 := (sel_circ hd (xs.length - 1) (by omega)).1
  rcases Nat.eq_zero_or_pos xs.length with h0 | h0
  · rw [h0]; rfl
  · have hlast : grtB xs (xs.length - 1) = true := grtB_iff.2 fun k => by have := itP_lt (xs := xs) (x := xs.length - 1) (by omega) k; omega
    have h2 := cnt_up (fun a => !grtB xs a) (xs.length - 1) 0
    rw [Nat.zero_add, hlast, show xs.length - 1 + 1 = xs.length by omega] at h2
    have h3 := cnt_not (grtB xs) xs.length 0
    have h4 := cnt_not (lstB xs) xs.length 0
    have h5 := grt_lst xs
    have h6 := cir_cnt xs xs.length
    have h7 : cnt (notL xs) 0 xs.length = cnt (fun k => !lstB xs k) 0 xs.length := rfl
    simp only [Bool.not_true, Bool.false_eq_true, if_false] at h2
    omega


theorem sel_last {xs : List Int} (h : 0 < xs.length) : selTo xs xs.length = selTo xs (xs.length - 1) := by
  obtain ⟨n, hn⟩ : ∃ n, xs.length = n + 1 := ⟨xs.length - 1, by omega⟩
  rw [hn, selTo, hn, Nat.add_sub_cancel, show n + 1 - (n + 1) = 0 by omega, if_pos (show selIn (selTo xs n).1 n 0 = n from rfl)]
  simp


noncomputable def difB (xs : List Int) : Bool := @decide (difK xs) (Classical.propDecidable _)
theorem difB_iff {xs : List Int} : difB xs = true ↔ difK xs := by unfold difB; simp
theorem difB_no {xs : List Int} {a b : Nat} (h : a < b) (hb : b < xs.length) (he : xs.getD b 0 = xs.getD a 0) : difB xs = false := by
  cases e : difB xs with
  | false => rfl
  | true => exact (difB_iff.1 e a b h hb he.symm).elim


theorem different_sat : Sat Try.prog 19 (fun ds Q => ∃ (xs : List Int), ds = [.row (.ints .i64 (xs))] ∧ (xs.length ≤ 1000) ∧ Q (.val (.bool ((difB xs))))) := by
  refine sat_intro tabOk Try.func19 rfl 25 rfl [.tmp 2] rfl ?_
  rintro ds Q W ⟨xs, rfl, hl, hQ⟩
  refine ⟨Nat.le_of_ble_eq_true rfl, ?_⟩
  simp only [initS, initT, mat.matL, mat, Cont.len]
  repeat' (first | refine awp_seq_k fun K hK => ?_ | ((with_reducible refine hK _ ?_); clear hK K) | (clear hK K; (with_reducible refine hK _ ?_); clear hK K) | (clear hK K; clear hK K; (with_reducible refine hK _ ?_); clear hK K) | (clear hK K; clear hK K; clear hK K; (with_reducible refine hK _ ?_); clear hK K) | (clear hK K; clear hK K; clear hK K; clear hK K; (with_reducible refine hK _ ?_); clear hK K) | (clear hK K; clear hK K; clear hK K; clear hK K; clear hK K; (with_reducible refine hK _ ?_); clear hK K) | ((with_reducible refine aord_plain fun K hK => ?_); simp only [go_sem, Nat.reduceAdd, Nat.reduceMul, Nat.reduceEqDiff, Nat.reduceLT, reduceIte, reduceCtorEq]) | refine awp_block ?_ | ((first | with_reducible refine aord_nil ?_ | refine awp_skip ?_ | refine awp_exit ?_ | refine awp_ret ?_); try simp only [thenA_normal, thenA_exit, thenA_goto, thenA_ret, blockA_normal, blockA_same, blockA_exit, blockA_goto, blockA_ret, Nat.reduceEqDiff, if_false, if_true, reduceIte]) | (refine awp_region tabOk rfl ?_; simp only [prep, pickO, List.map_cons, List.map_nil, List.getElem?_toArray, List.getElem?_cons_succ, List.getElem?_cons_zero, Option.bind_some, Option.map_some]) | (refine awp_region_draw (nt := 25) (id := 7) tabOk [(0, true, false), (1, true, false), (2, true, false), (3, true, false), (4, true, false), (5, true, false), (6, true, false), (7, true, false), (8, true, false)] (by kernel_rfl) rfl (by kernel_rfl) ?_; simp only [prep, pickO, List.map_cons, List.map_nil, List.getElem?_toArray, List.getElem?_cons_succ, List.getElem?_cons_zero, Option.bind_some, Option.map_some]) | ((with_reducible apply awp_cond); (focus (simp only [St.ev, St.set, upd, Nat.reduceEqDiff, reduceIte, if_false, if_true]; exact rfl)); all_goals (intro hb; first | (cases hb; done) | ((try rw [hb]); (try simp only [decide_eq_true_eq, decide_eq_false_iff_not, beq_iff_eq, bne_iff_ne, beq_eq_false_iff_ne, bne_eq_false_iff_eq, Int.not_lt, Int.not_le, Bool.not_eq_true', Bool.not_eq_false'] at hb)))) | ((with_reducible refine And.intro ?_ ?_); (focus omega)) | ((with_reducible refine And.intro ?_ ?_); (focus (exact rfl))) | (with_reducible refine And.intro (fun hb => ?_) (fun hb => ?_)) | (exfalso; omega) | fail)
  refine awp_loopE (α := Nat) (fun s p => ⟨(upd (upd bot 0 (s.tmps 0)) 3 (.val (.int .i64 (p)))), s.heap, s.next⟩) _ (fun p => by simp only [St.ev, St.set, upd, Nat.reduceEqDiff, reduceIte, if_false, if_true]; exact rfl) (fun p => (p ≤ xs.length) ∧ (∀ a b, a < b → b < p → xs.getD a 0 ≠ xs.getD b 0)) (fun p => xs.length - p) (0) ?_ ?_ ?_
  · (try simp only); (refine ⟨?_, ?_⟩ <;> (first | omega | (intro a b h1 h2; omega)))
  · (apply Wk.same; (case' h2 => (focus ((repeat' (with_reducible first | exact HeapX.bot | (apply HeapX.skip; (case hx => (simp; done))) | apply HeapX.none | apply HeapX.upd)); all_goals (first | rfl | exact Nat.le_of_ble_eq_true rfl | (simp only [St.set, St.ev, upd, ren, renL, id, Nat.reduceEqDiff, reduceIte, ContLe]; done) | (first | (simp only [St.set, St.ev, upd, ren, renL, id, Nat.reduceEqDiff, reduceIte]; exact contLe_nil) | ((repeat' (first | exact contLe_nil | refine contLe_cons (.inr ⟨?_, rfl⟩) ?_)); all_goals (first | rfl | (simp only [St.set, St.ev, upd, ren, renL, id, Nat.reduceEqDiff, reduceIte]; done) | ((try simp only [St.set, St.ev, upd, ren, renL, id, Nat.reduceEqDiff, reduceIte]); first | (with_reducible exact av_int (by omega)) | (with_reducible exact av_sl (by first | omega | (simp; done) | (simp; omega)) (by first | omega | (simp; done) | (simp; omega)))) | (simp only [St.set, St.ev, upd, ren, renL, id, Nat.reduceEqDiff, reduceIte, Int.natCast_add, Int.natCast_one, Int.cast_ofNat_Int, Int.natCast_zero]; done) | (simp only [St.set, St.ev, upd, ren, renL, id, Nat.reduceEqDiff, reduceIte]) | skip); done)) | (simp only [St.set, St.ev, upd, ren, renL, id, Nat.reduceEqDiff, reduceIte, ContLe]) | skip)))); (case' h1 => (focus ((repeat' (with_reducible first | exact TmpLe.bot | refine TmpLe.upd ?_ rfl ?_)); all_goals (first | rfl | (simp only [St.set, St.ev, upd, ren, renL, id, Nat.reduceEqDiff, reduceIte]; done) | ((try simp only [St.set, St.ev, upd, ren, renL, id, Nat.reduceEqDiff, reduceIte]); first | (with_reducible exact av_int (by omega)) | (with_reducible exact av_sl (by first | omega | (simp; done) | (simp; omega)) (by first | omega | (simp; done) | (simp; omega)))) | (simp only [St.set, St.ev, upd, ren, renL, id, Nat.reduceEqDiff, reduceIte, Int.natCast_add, Int.natCast_one, Int.cast_ofNat_Int, Int.natCast_zero]; done) | (simp only [St.set, St.ev, upd, ren, renL, id, Nat.reduceEqDiff, reduceIte]) | skip)))); (case h3 => (focus (first | (simp only [id, List.map_cons, List.map_nil]; decide) | decide))); (case h4 => (intro o l h; first | (cases h; done) | (have hlt0 := m0_lt (by assumption) h; first | omega | (simp only; omega) | exact ⟨by (first | rfl | (simp only [id]; done) | (rw [if_neg (by omega)])), by first | omega | (simp only; omega)⟩))))
  rintro i ⟨hi, hd⟩
  try simp only at hi hd
  repeat' (first | refine awp_seq_k fun K hK => ?_ | ((with_reducible refine hK _ ?_); clear hK K) | (clear hK K; (with_reducible refine hK _ ?_); clear hK K) | (clear hK K; clear hK K; (with_reducible refine hK _ ?_); clear hK K) | (clear hK K; clear hK K; clear hK K; (with_reducible refine hK _ ?_); clear hK K) | (clear hK K; clear hK K; clear hK K; clear hK K; (with_reducible refine hK _ ?_); clear hK K) | (clear hK K; clear hK K; clear hK K; clear hK K; clear hK K; (with_reducible refine hK _ ?_); clear hK K) | ((with_reducible refine aord_plain fun K hK => ?_); simp only [go_sem, Nat.reduceAdd, Nat.reduceMul, Nat.reduceEqDiff, Nat.reduceLT, reduceIte, reduceCtorEq]) | refine awp_block ?_ | ((first | with_reducible refine aord_nil ?_ | refine awp_skip ?_ | refine awp_exit ?_ | refine awp_ret ?_); try simp only [thenA_normal, thenA_exit, thenA_goto, thenA_ret, blockA_normal, blockA_same, blockA_exit, blockA_goto, blockA_ret, Nat.reduceEqDiff, if_false, if_true, reduceIte]) | (refine awp_region tabOk rfl ?_; simp only [prep, pickO, List.map_cons, List.map_nil, List.getElem?_toArray, List.getElem?_cons_succ, List.getElem?_cons_zero, Option.bind_some, Option.map_some]) | (refine awp_region_draw (nt := 25) (id := 7) tabOk [(0, true, false), (1, true, false), (2, true, false), (3, true, false), (4, true, false), (5, true, false), (6, true, false), (7, true, false), (8, true, false)] (by kernel_rfl) rfl (by kernel_rfl) ?_; simp only [prep, pickO, List.map_cons, List.map_nil, List.getElem?_toArray, List.getElem?_cons_succ, List.getElem?_cons_zero, Option.bind_some, Option.map_some]) | ((with_reducible apply awp_cond); (focus (simp only [St.ev, St.set, upd, Nat.reduceEqDiff, reduceIte, if_false, if_true]; exact rfl)); all_goals (intro hb; first | (cases hb; done) | ((try rw [hb]); (try simp only [decide_eq_true_eq, decide_eq_false_iff_not, beq_iff_eq, bne_iff_ne, beq_eq_false_iff_ne, bne_eq_false_iff_eq, Int.not_lt, Int.not_le, Bool.not_eq_true', Bool.not_eq_false'] at hb)))) | ((with_reducible refine And.intro ?_ ?_); (focus omega)) | ((with_reducible refine And.intro ?_ ?_); (focus (exact rfl))) | (with_reducible refine And.intro (fun hb => ?_) (fun hb => ?_)) | (exfalso; omega) | fail)
  · skip
    refine awp_loopE (α := Nat) (fun s p => ⟨(upd (upd (upd bot 0 (s.tmps 0)) 3 (s.tmps 3)) 4 (.val (.int .i64 (p)))), s.heap, s.next⟩) _ (fun p => by simp only [St.ev, St.set, upd, Nat.reduceEqDiff, reduceIte, if_false, if_true]; exact rfl) (fun p => (p ≤ i) ∧ (∀ a, a < p → xs.getD a 0 ≠ xs.getD i 0)) (fun p => i - p) (0) ?_ ?_ ?_
    · (try simp only); (refine ⟨?_, ?_⟩ <;> (first | omega | (intro a h1; omega)))
    · (apply Wk.same; (case' h2 => (focus ((repeat' (with_reducible first | exact HeapX.bot | (apply HeapX.skip; (case hx => (simp; done))) | apply HeapX.none | apply HeapX.upd)); all_goals (first | rfl | exact Nat.le_of_ble_eq_true rfl | (simp only [St.set, St.ev, upd, ren, renL, id, Nat.reduceEqDiff, reduceIte, ContLe]; done) | (first | (simp only [St.set, St.ev, upd, ren, renL, id, Nat.reduceEqDiff, reduceIte]; exact contLe_nil) | ((repeat' (first | exact contLe_nil | refine contLe_cons (.inr ⟨?_, rfl⟩) ?_)); all_goals (first | rfl | (simp only [St.set, St.ev, upd, ren, renL, id, Nat.reduceEqDiff, reduceIte]; done) | ((try simp only [St.set, St.ev, upd, ren, renL, id, Nat.reduceEqDiff, reduceIte]); first | (with_reducible exact av_int (by omega)) | (with_reducible exact av_sl (by first | omega | (simp; done) | (simp; omega)) (by first | omega | (simp; done) | (simp; omega)))) | (simp only [St.set, St.ev, upd, ren, renL, id, Nat.reduceEqDiff, reduceIte, Int.natCast_add, Int.natCast_one, Int.cast_ofNat_Int, Int.natCast_zero]; done) | (simp only [St.set, St.ev, upd, ren, renL, id, Nat.reduceEqDiff, reduceIte]) | skip); done)) | (simp only [St.set, St.ev, upd, ren, renL, id, Nat.reduceEqDiff, reduceIte, ContLe]) | skip)))); (case' h1 => (focus ((repeat' (with_reducible first | exact TmpLe.bot | refine TmpLe.upd ?_ rfl ?_)); all_goals (first | rfl | (simp only [St.set, St.ev, upd, ren, renL, id, Nat.reduceEqDiff, reduceIte]; done) | ((try simp only [St.set, St.ev, upd, ren, renL, id, Nat.reduceEqDiff, reduceIte]); first | (with_reducible exact av_int (by omega)) | (with_reducible exact av_sl (by first | omega | (simp; done) | (simp; omega)) (by first | omega | (simp; done) | (simp; omega)))) | (simp only [St.set, St.ev, upd, ren, renL, id, Nat.reduceEqDiff, reduceIte, Int.natCast_add, Int.natCast_one, Int.cast_ofNat_Int, Int.natCast_zero]; done) | (simp only [St.set, St.ev, upd, ren, renL, id, Nat.reduceEqDiff, reduceIte]) | skip)))); (case h3 => (focus (first | (simp only [id, List.map_cons, List.map_nil]; decide) | decide))); (case h4 => (intro o l h; first | (cases h; done) | (have hlt0 := m0_lt (by assumption) h; first | omega | (simp only; omega) | exact ⟨by (first | rfl | (simp only [id]; done) | (rw [if_neg (by omega)])), by first | omega | (simp only; omega)⟩))))
    rintro k ⟨hk, he⟩
    try simp only at hk he
    repeat' (first | refine awp_seq_k fun K hK => ?_ | ((with_reducible refine hK _ ?_); clear hK K) | (clear hK K; (with_reducible refine hK _ ?_); clear hK K) | (clear hK K; clear hK K; (with_reducible refine hK _ ?_); clear hK K) | (clear hK K; clear hK K; clear hK K; (with_reducible refine hK _ ?_); clear hK K) | (clear hK K; clear hK K; clear hK K; clear hK K; (with_reducible refine hK _ ?_); clear hK K) | (clear hK K; clear hK K; clear hK K; clear hK K; clear hK K; (with_reducible refine hK _ ?_); clear hK K) | ((with_reducible refine aord_plain fun K hK => ?_); simp only [go_sem, Nat.reduceAdd, Nat.reduceMul, Nat.reduceEqDiff, Nat.reduceLT, reduceIte, reduceCtorEq]) | refine awp_block ?_ | ((first | with_reducible refine aord_nil ?_ | refine awp_skip ?_ | refine awp_exit ?_ | refine awp_ret ?_); try simp only [thenA_normal, thenA_exit, thenA_goto, thenA_ret, blockA_normal, blockA_same, blockA_exit, blockA_goto, blockA_ret, Nat.reduceEqDiff, if_false, if_true, reduceIte]) | (refine awp_region tabOk rfl ?_; simp only [prep, pickO, List.map_cons, List.map_nil, List.getElem?_toArray, List.getElem?_cons_succ, List.getElem?_cons_zero, Option.bind_some, Option.map_some]) | (refine awp_region_draw (nt := 25) (id := 7) tabOk [(0, true, false), (1, true, false), (2, true, false), (3, true, false), (4, true, false), (5, true, false), (6, true, false), (7, true, false), (8, true, false)] (by kernel_rfl) rfl (by kernel_rfl) ?_; simp only [prep, pickO, List.map_cons, List.map_nil, List.getElem?_toArray, List.getElem?_cons_succ, List.getElem?_cons_zero, Option.bind_some, Option.map_some]) | ((with_reducible apply awp_cond); (focus (simp only [St.ev, St.set, upd, Nat.reduceEqDiff, reduceIte, if_false, if_true]; exact rfl)); all_goals (intro hb; first | (cases hb; done) | ((try rw [hb]); (try simp only [decide_eq_true_eq, decide_eq_false_iff_not, beq_iff_eq, bne_iff_ne, beq_eq_false_iff_ne, bne_eq_false_iff_eq, Int.not_lt, Int.not_le, Bool.not_eq_true', Bool.not_eq_false'] at hb)))) | ((with_reducible refine And.intro ?_ ?_); (focus omega)) | ((with_reducible refine And.intro ?_ ?_); (focus (exact rfl))) | (with_reducible refine And.intro (fun hb => ?_) (fun hb => ?_)) | (exfalso; omega) | fail)
    · simp only [St.set, St.ev, doneQ, doneH, ressK, resK, wrapR, AV.ids, AV.idsL, retK, retsK, upd, Nat.reduceEqDiff, reduceIte, if_false, if_true, List.nodup_nil, List.nodup_cons, List.not_mem_nil, not_false_eq_true, true_and, and_true, exists_eq_left', Option.some.injEq, rLoad, cellOf, tab, Ty.isAgg, Ty.one, Bool.false_eq_true]
      rw [difB_no (a := k) (b := i) (by omega) (by omega) (by assumption)] at hQ
      exact hQ
    · ((refine Exists.intro (k + 1) ?_); (refine nxt ?_ ?_ ?_); (focus (apply Wk.same; (case' h2 => (focus ((repeat' (with_reducible first | exact HeapX.bot | (apply HeapX.skip; (case hx => (simp; done))) | apply HeapX.none | apply HeapX.upd)); all_goals (first | rfl | exact Nat.le_of_ble_eq_true rfl | (simp only [St.set, St.ev, upd, ren, renL, id, Nat.reduceEqDiff, reduceIte, ContLe]; done) | (first | (simp only [St.set, St.ev, upd, ren, renL, id, Nat.reduceEqDiff, reduceIte]; exact contLe_nil) | ((repeat' (first | exact contLe_nil | refine contLe_cons (.inr ⟨?_, rfl⟩) ?_)); all_goals (first | rfl | (simp only [St.set, St.ev, upd, ren, renL, id, Nat.reduceEqDiff, reduceIte]; done) | ((try simp only [St.set, St.ev, upd, ren, renL, id, Nat.reduceEqDiff, reduceIte]); first | (with_reducible exact av_int (by omega)) | (with_reducible exact av_sl (by first | omega | (simp; done) | (simp; omega)) (by first | omega | (simp; done) | (simp; omega)))) | (simp only [St.set, St.ev, upd, ren, renL, id, Nat.reduceEqDiff, reduceIte, Int.natCast_add, Int.natCast_one, Int.cast_ofNat_Int, Int.natCast_zero]; done) | (simp only [St.set, St.ev, upd, ren, renL, id, Nat.reduceEqDiff, reduceIte]) | skip); done)) | (simp only [St.set, St.ev, upd, ren, renL, id, Nat.reduceEqDiff, reduceIte, ContLe]) | skip)))); (case' h1 => (focus ((repeat' (with_reducible first | exact TmpLe.bot | refine TmpLe.upd ?_ rfl ?_)); all_goals (first | rfl | (simp only [St.set, St.ev, upd, ren, renL, id, Nat.reduceEqDiff, reduceIte]; done) | ((try simp only [St.set, St.ev, upd, ren, renL, id, Nat.reduceEqDiff, reduceIte]); first | (with_reducible exact av_int (by omega)) | (with_reducible exact av_sl (by first | omega | (simp; done) | (simp; omega)) (by first | omega | (simp; done) | (simp; omega)))) | (simp only [St.set, St.ev, upd, ren, renL, id, Nat.reduceEqDiff, reduceIte, Int.natCast_add, Int.natCast_one, Int.cast_ofNat_Int, Int.natCast_zero]; done) | (simp only [St.set, St.ev, upd, ren, renL, id, Nat.reduceEqDiff, reduceIte]) | skip)))); (case h3 => (focus (first | (simp only [id, List.map_cons, List.map_nil]; decide) | decide))); (case h4 => (intro o l h; first | (cases h; done) | (have hlt0 := m0_lt (by assumption) h; first | omega | (simp only; omega) | exact ⟨by (first | rfl | (simp only [id]; done) | (rw [if_neg (by omega)])), by first | omega | (simp only; omega)⟩))))); (focus (first | omega | (simp only; omega) | (simp; omega))); ((repeat' (with_reducible apply And.intro)) <;> (first | omega | (simp only; omega) | assumption | rfl | ((try simp only); (exact all_step he (fun h => by simp_all))) | skip)))
    · have hd2 : ∀ a b, a < b → b < i + 1 → xs.getD a 0 ≠ xs.getD b 0 := fun a b h1 h2 => by
        rcases Nat.lt_or_ge b i with h3 | h3
        · exact hd a b h1 h3
        · rw [show b = i by omega] at h1 ⊢; exact he a (by omega)
      ((refine Exists.intro (i + 1) ?_); (refine nxt ?_ ?_ ?_); (focus (apply Wk.same; (case' h2 => (focus ((repeat' (with_reducible first | exact HeapX.bot | (apply HeapX.skip; (case hx => (simp; done))) | apply HeapX.none | apply HeapX.upd)); all_goals (first | rfl | exact Nat.le_of_ble_eq_true rfl | (simp only [St.set, St.ev, upd, ren, renL, id, Nat.reduceEqDiff, reduceIte, ContLe]; done) | (first | (simp only [St.set, St.ev, upd, ren, renL, id, Nat.reduceEqDiff, reduceIte]; exact contLe_nil) | ((repeat' (first | exact contLe_nil | refine contLe_cons (.inr ⟨?_, rfl⟩) ?_)); all_goals (first | rfl | (simp only [St.set, St.ev, upd, ren, renL, id, Nat.reduceEqDiff, reduceIte]; done) | ((try simp only [St.set, St.ev, upd, ren, renL, id, Nat.reduceEqDiff, reduceIte]); first | (with_reducible exact av_int (by omega)) | (with_reducible exact av_sl (by first | omega | (simp; done) | (simp; omega)) (by first | omega | (simp; done) | (simp; omega)))) | (simp only [St.set, St.ev, upd, ren, renL, id, Nat.reduceEqDiff, reduceIte, Int.natCast_add, Int.natCast_one, Int.cast_ofNat_Int, Int.natCast_zero]; done) | (simp only [St.set, St.ev, upd, ren, renL, id, Nat.reduceEqDiff, reduceIte]) | skip); done)) | (simp only [St.set, St.ev, upd, ren, renL, id, Nat.reduceEqDiff, reduceIte, ContLe]) | skip)))); (case' h1 => (focus ((repeat' (with_reducible first | exact TmpLe.bot | refine TmpLe.upd ?_ rfl ?_)); all_goals (first | rfl | (simp only [St.set, St.ev, upd, ren, renL, id, Nat.reduceEqDiff, reduceIte]; done) | ((try simp only [St.set, St.ev, upd, ren, renL, id, Nat.reduceEqDiff, reduceIte]); first | (with_reducible exact av_int (by omega)) | (with_reducible exact av_sl (by first | omega | (simp; done) | (simp; omega)) (by first | omega | (simp; done) | (simp; omega)))) | (simp only [St.set, St.ev, upd, ren, renL, id, Nat.reduceEqDiff, reduceIte, Int.natCast_add, Int.natCast_one, Int.cast_ofNat_Int, Int.natCast_zero]; done) | (simp only [St.set, St.ev, upd, ren, renL, id, Nat.reduceEqDiff, reduceIte]) | skip)))); (case h3 => (focus (first | (simp only [id, List.map_cons, List.map_nil]; decide) | decide))); (case h4 => (intro o l h; first | (cases h; done) | (have hlt0 := m0_lt (by assumption) h; first | omega | (simp only; omega) | exact ⟨by (first | rfl | (simp only [id]; done) | (rw [if_neg (by omega)])), by first | omega | (simp only; omega)⟩))))); (focus (first | omega | (simp only; omega) | (simp; omega))); ((repeat' (with_reducible apply And.intro)) <;> (first | omega | (simp only; omega) | assumption | rfl | ((try simp only); exact hd2) | skip)))
  · simp only [St.set, St.ev, doneQ, doneH, ressK, resK, wrapR, AV.ids, AV.idsL, retK, retsK, upd, Nat.reduceEqDiff, reduceIte, if_false, if_true, List.nodup_nil, List.nodup_cons, List.not_mem_nil, not_false_eq_true, true_and, and_true, exists_eq_left', Option.some.injEq, rLoad, cellOf, tab, Ty.isAgg, Ty.one, Bool.false_eq_true]
    rw [difB_iff.2 (fun a b h1 h2 => hd a b h1 (by omega))] at hQ
    exact hQ


theorem drawSelectionSort_sat : Sat Try.prog 16 (fun ds Q => ∃ bs, ds = [.row (.ints .u8 bs)] ∧ bs.length ≤ 1099511627776 ∧ bytesOk bs ∧ ∀ ys : List Int, ys.length ≤ 17 → Q (.row (.ints .i64 ys))) := by
  refine sat_intro tabOk Try.func16 rfl 6 rfl [.tmp 2] rfl ?_
  rintro ds Q W ⟨bs, rfl, hlen, hbs, hQ⟩
  refine ⟨Nat.le_of_ble_eq_true rfl, ?_⟩
  simp only [initS, initT, mat.matL, mat, Cont.len]
  repeat' (first | refine awp_seq_k fun K hK => ?_ | ((with_reducible refine hK _ ?_); clear hK K) | (clear hK K; (with_reducible refine hK _ ?_); clear hK K) | (clear hK K; clear hK K; (with_reducible refine hK _ ?_); clear hK K) | (clear hK K; clear hK K; clear hK K; (with_reducible refine hK _ ?_); clear hK K) | (clear hK K; clear hK K; clear hK K; clear hK K; (with_reducible refine hK _ ?_); clear hK K) | (clear hK K; clear hK K; clear hK K; clear hK K; clear hK K; (with_reducible refine hK _ ?_); clear hK K) | ((with_reducible refine aord_plain fun K hK => ?_); simp only [go_sem, Nat.reduceAdd, Nat.reduceMul, Nat.reduceEqDiff, Nat.reduceLT, reduceIte, reduceCtorEq, Int.toNat_zero]) | refine awp_block ?_ | ((first | with_reducible refine aord_nil ?_ | refine awp_skip ?_ | refine awp_exit ?_ | refine awp_ret ?_); try simp only [thenA_normal, thenA_exit, thenA_goto, thenA_ret, blockA_normal, blockA_same, blockA_exit, blockA_goto, blockA_ret, Nat.reduceEqDiff, if_false, if_true, reduceIte]) | (refine awp_region tabOk rfl ?_; simp only [prep, pickO, List.map_cons, List.map_nil, List.getElem?_toArray, List.getElem?_cons_succ, List.getElem?_cons_zero, Option.bind_some, Option.map_some]) | ((with_reducible apply awp_cond); (focus (simp only [St.ev, St.set, upd, Nat.reduceEqDiff, reduceIte, if_false, if_true]; exact rfl)); all_goals (intro hb; first | (cases hb; done) | ((try rw [hb]); (try simp only [decide_eq_true_eq, decide_eq_false_iff_not, beq_iff_eq, bne_iff_ne, beq_eq_false_iff_ne, bne_eq_false_iff_eq, Int.not_lt, Int.not_le, Bool.not_eq_true', Bool.not_eq_false'] at hb)))) | ((with_reducible refine And.intro ?_ ?_); (focus omega)) | ((with_reducible refine And.intro ?_ ?_); (focus (exact rfl))) | ((with_reducible refine And.intro (?_ : enters Try.prog 29) ?_); (focus exact Try.call29); (refine callX_satH someKeys_sat ?_); simp only [go_sem, and_assoc, List.nil_append, List.append_nil, List.cons_append, Nat.reduceEqDiff, reduceIte, reduceCtorEq, Int.toNat_zero]) | ((with_reducible refine And.intro (?_ : enters Try.prog 30) ?_); (focus exact Try.call30); (refine callX_h (callH_inline tabOk Try.func30 rfl 11 rfl [.tmp 2] rfl (Nat.le_of_ble_eq_true rfl) fun m0 hm0 hcl hlt => ?_)); simp only [initT, St.ev, St.set, upd, Nat.reduceEqDiff, reduceIte, if_false, if_true]) | (simp only [rBuild]; simp only [fillA, Nat.reduceLeDiff, List.getElem?_cons_zero, List.getElem?_cons_succ, List.drop_succ_cons, List.drop_nil, List.take_nil, List.cons_append, Option.isSome_some, go_sem, Nat.reduceAdd, Nat.reduceMul, Nat.reduceEqDiff, Nat.reduceLT, reduceIte, reduceCtorEq]) | (simp only [doneH]; simp only [ressK, resK, wrapR, go_sem, Nat.reduceAdd, Nat.reduceMul, Nat.reduceEqDiff, Nat.reduceLT, reduceIte, reduceCtorEq]) | (with_reducible refine And.intro (fun hb => ?_) (fun hb => ?_)) | (exfalso; omega) | fail)
  all_goals (
    refine ⟨_, _, 0, rfl, by omega, by omega, hbs, by omega, ?_⟩
    intro ys r hys hr)
  repeat' (first | refine awp_seq_k fun K hK => ?_ | ((with_reducible refine hK _ ?_); clear hK K) | (clear hK K; (with_reducible refine hK _ ?_); clear hK K) | (clear hK K; clear hK K; (with_reducible refine hK _ ?_); clear hK K) | (clear hK K; clear hK K; clear hK K; (with_reducible refine hK _ ?_); clear hK K) | (clear hK K; clear hK K; clear hK K; clear hK K; (with_reducible refine hK _ ?_); clear hK K) | (clear hK K; clear hK K; clear hK K; clear hK K; clear hK K; (with_reducible refine hK _ ?_); clear hK K) | ((with_reducible refine aord_plain fun K hK => ?_); simp only [go_sem, Nat.reduceAdd, Nat.reduceMul, Nat.reduceEqDiff, Nat.reduceLT, reduceIte, reduceCtorEq, Int.toNat_zero]) | refine awp_block ?_ | ((first | with_reducible refine aord_nil ?_ | refine awp_skip ?_ | refine awp_exit ?_ | refine awp_ret ?_); try simp only [thenA_normal, thenA_exit, thenA_goto, thenA_ret, blockA_normal, blockA_same, blockA_exit, blockA_goto, blockA_ret, Nat.reduceEqDiff, if_false, if_true, reduceIte]) | (refine awp_region tabOk rfl ?_; simp only [prep, pickO, List.map_cons, List.map_nil, List.getElem?_toArray, List.getElem?_cons_succ, List.getElem?_cons_zero, Option.bind_some, Option.map_some]) | ((with_reducible apply awp_cond); (focus (simp only [St.ev, St.set, upd, Nat.reduceEqDiff, reduceIte, if_false, if_true]; exact rfl)); all_goals (intro hb; first | (cases hb; done) | ((try rw [hb]); (try simp only [decide_eq_true_eq, decide_eq_false_iff_not, beq_iff_eq, bne_iff_ne, beq_eq_false_iff_ne, bne_eq_false_iff_eq, Int.not_lt, Int.not_le, Bool.not_eq_true', Bool.not_eq_false'] at hb)))) | ((with_reducible refine And.intro ?_ ?_); (focus omega)) | ((with_reducible refine And.intro ?_ ?_); (focus (exact rfl))) | ((with_reducible refine And.intro (?_ : enters Try.prog 29) ?_); (focus exact Try.call29); (refine callX_satH someKeys_sat ?_); simp only [go_sem, and_assoc, List.nil_append, List.append_nil, List.cons_append, Nat.reduceEqDiff, reduceIte, reduceCtorEq, Int.toNat_zero]) | ((with_reducible refine And.intro (?_ : enters Try.prog 30) ?_); (focus exact Try.call30); (refine callX_h (callH_inline tabOk Try.func30 rfl 11 rfl [.tmp 2] rfl (Nat.le_of_ble_eq_true rfl) fun m0 hm0 hcl hlt => ?_)); simp only [initT, St.ev, St.set, upd, Nat.reduceEqDiff, reduceIte, if_false, if_true]) | (simp only [rBuild]; simp only [fillA, Nat.reduceLeDiff, List.getElem?_cons_zero, List.getElem?_cons_succ, List.drop_succ_cons, List.drop_nil, List.take_nil, List.cons_append, Option.isSome_some, go_sem, Nat.reduceAdd, Nat.reduceMul, Nat.reduceEqDiff, Nat.reduceLT, reduceIte, reduceCtorEq]) | (simp only [doneH]; simp only [ressK, resK, wrapR, go_sem, Nat.reduceAdd, Nat.reduceMul, Nat.reduceEqDiff, Nat.reduceLT, reduceIte, reduceCtorEq]) | (with_reducible refine And.intro (fun hb => ?_) (fun hb => ?_)) | (exfalso; omega) | fail)
  all_goals (simp only [St.set, St.ev, doneQ, doneH, ressK, resK, wrapR, AV.ids, AV.idsL, retK, retsK, upd, Nat.reduceEqDiff, reduceIte, if_false, if_true, List.nodup_nil, List.nodup_cons, List.not_mem_nil, not_false_eq_true, true_and, and_true, exists_eq_left', Option.some.injEq, rLoad, cellOf, tab, Ty.isAgg, Ty.one, Bool.false_eq_true]; simp only [Cont.closed, Cont.len, true_and]; exact hQ ys hys)


end Go.Proofs.Ytfoaolipmicoaaa
