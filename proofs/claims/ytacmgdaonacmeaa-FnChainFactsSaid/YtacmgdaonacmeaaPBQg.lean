/- Contracts of functions of the program. -/
import Derived.Test.YtacmgdaonacmeaaPBQf
import Derived.ScopeJumps
namespace Go.Proofs.Ytacmgdaonacmeaa
open Go Go.Ab
set_option linter.all false
set_option maxHeartbeats 4000000

theorem FnChainFacts_sat : Sat Try.prog 7 (fun ds Q => ∃ bs, ds = [.row (.ints .u8 bs)] ∧ bs.length ≤ 9223372036854775807 ∧ bytesOk bs ∧ Q (.val (.bool true))) := by
  refine sat_intro tabOk Try.func7 rfl 86 rfl [.tmp 2] rfl ?_
  rintro ds Q W ⟨bs, rfl, hlen, hbs, hQ⟩
  refine ⟨Nat.le_of_ble_eq_true rfl, ?_⟩
  simp only [initS, initT, mat.matL, mat, Cont.len]
  repeat' (first | refine awp_seq_k fun K hK => ?_ | ((with_reducible refine hK _ ?_); clear hK K) | ((with_reducible refine aord_plain fun K hK => ?_); simp only [go_sem, Nat.reduceAdd, Nat.reduceMul, Nat.reduceEqDiff, Nat.reduceLT, reduceIte, reduceCtorEq, mat.matL, Int.toNat_zero]) | ((first | with_reducible refine aord_nil ?_ | refine awp_skip ?_ | refine awp_exit ?_ | refine awp_ret ?_); try simp only [rdA, Nat.reduceEqDiff, ifA, ifB, reduceIte]) | (refine awp_region tabOk rfl ?_; simp only [prep, pickO, lsA, lsB, lsC, lsD, lsE, lsF, lsG]) | ((with_reducible apply awp_cond); (focus (simp only [St.ev, St.set, upd, Nat.reduceEqDiff, reduceIte, ifA, ifB]; exact rfl)); all_goals (intro hb; first | (cases hb; done) | ((try rw [hb]); (try simp only [dcA, dcB, dcC, dcD, dcE, Bool.not_eq_true', Bool.not_eq_false'] at hb)))) | ((with_reducible refine And.intro ?_ ?_); (focus omega)) | ((with_reducible refine And.intro (?_ : enters Try.prog 30) ?_); (focus exact Try.call30); (refine callX_sat drawChainFacts_sat ?_); simp only [go_sem, and_assoc, List.nil_append, List.append_nil, List.cons_append, Nat.reduceEqDiff, reduceIte, reduceCtorEq, mat.matL, Int.toNat_zero]) | fail)
  · simp only [St.set, St.ev, doneQ, doneH, ressK, resK, wrapR, AV.ids, AV.idsL, retK, retsK, upd, Nat.reduceEqDiff, reduceIte, ifA, ifB, List.nodup_nil, List.nodup_cons, List.not_mem_nil, not_false_eq_true, true_and, and_true, exists_eq_left', Option.some.injEq, rLoad, cellOf, tab, Ty.isAgg, Ty.one, Bool.false_eq_true]
    exact hQ
  intro m k hm hk
  have hl10 := chL_len m k
  have hfl := flF_len (chL m k)
  have eL : decide (chL m k = chL m k) = true := decide_eq_true rfl

  repeat' (first | refine awp_seq_k fun K hK => ?_ | ((with_reducible refine hK _ ?_); clear hK K) | ((with_reducible refine aord_plain fun K hK => ?_); simp only [go_sem, Nat.reduceAdd, Nat.reduceMul, Nat.reduceEqDiff, Nat.reduceLT, reduceIte, reduceCtorEq, mat.matL, DV.agg.injEq]) | ((first | with_reducible refine aord_nil ?_ | refine awp_skip ?_ | refine awp_exit ?_ | refine awp_ret ?_); try simp only [rdA, Nat.reduceEqDiff, ifA, ifB, reduceIte]) | (refine awp_region tabOk rfl ?_; simp only [prep, pickO, lsA, lsB, lsC, lsD, lsE, lsF, lsG]) | ((with_reducible refine And.intro ?_ ?_); (focus omega)) | ((with_reducible refine And.intro (?_ : enters Try.prog 32) ?_); (focus exact Try.call32); (refine callX_satH specChainFacts_sat ?_); simp only [go_sem, and_assoc, List.nil_append, List.append_nil, List.cons_append, Nat.reduceEqDiff, reduceIte, reduceCtorEq, mat.matL, DV.agg.injEq]) | ((with_reducible refine And.intro (?_ : enters Try.prog 31) ?_); (focus exact Try.call31); (refine callX_satH implChainFacts_sat ?_); simp only [go_sem, and_assoc, List.nil_append, List.append_nil, List.cons_append, Nat.reduceEqDiff, reduceIte, reduceCtorEq, mat.matL, DV.agg.injEq]) | ((with_reducible refine And.intro (?_ : enters Try.prog 27) ?_); (focus exact Try.call27); (refine callX_satH equalFacts_sat ?_); simp only [go_sem, and_assoc, List.nil_append, List.append_nil, List.cons_append, Nat.reduceEqDiff, reduceIte, reduceCtorEq, mat.matL, DV.agg.injEq]) | fail)
  refine ⟨2, chL m k, rfl, rfl, chL m k, rfl, rfl, true, rfl, by omega, by omega, ?_⟩
  by_cases hg : 0 ≤ m ∧ 0 ≤ k ∧ m + k ≤ 5
  · obtain ⟨m, rfl⟩ : ∃ j : Nat, m = j := ⟨m.toNat, by omega⟩
    obtain ⟨k, rfl⟩ : ∃ j : Nat, k = j := ⟨k.toNat, by omega⟩
    obtain ⟨hV, hN, hA⟩ := ch_all (m := m) (k := k) (by omega)
    have g1 : decide ((m : Int) < 0) = false := decide_eq_false (by omega)
    have g2 : decide ((k : Int) < 0) = false := decide_eq_false (by omega)
    have g3 : decide ((m : Int) > 5) = false := decide_eq_false (by omega)
    have g4 : decide ((k : Int) > 5) = false := decide_eq_false (by omega)
    have g5 : decide ((m : Int) + (k : Int) > 5) = false := decide_eq_false (by omega)
    generalize hLL : chL m k = F at *
    have q1 : ((((orO ((m : Int) + (k : Int)) F).length : Nat) : Int) == (if (0 : Int) ≤ (m : Int) ∧ (m : Int) ≤ 8 ∧ (0 : Int) ≤ (k : Int) ∧ (k : Int) ≤ 8 then ((mdN m k : Nat) : Int) else -1)) = true := by
      rw [beq_iff_eq, if_pos (by omega)]; omega


    repeat' (first | refine awp_seq_k fun K hK => ?_ | ((with_reducible refine hK _ ?_); clear hK K) | ((with_reducible refine aord_plain fun K hK => ?_); simp only [go_sem, Nat.reduceAdd, Nat.reduceMul, Nat.reduceEqDiff, Nat.reduceLT, reduceIte, reduceCtorEq, eL, g1, g2, g3, g4, g5, nmA, Nat.reduceAdd, ifA, ifB, eL, g1, g2, g3, g4, g5, mat.matL]) | ((with_reducible apply aord_guard); (focus (simp only [St.ev, St.set, upd, Nat.reduceEqDiff, reduceIte, ifA, ifB, eL, g1, g2, g3, g4, g5, nmA, Nat.reduceAdd, ifA, ifB]; exact rfl)); all_goals (intro hb; (try simp only [Bool.not_true, Bool.not_false] at hb); first | (cases hb; done) | ((try rw [hb]); (try simp only [Bool.not_eq_true', Bool.not_eq_false', Bool.and_eq_true, dcA, dcB, dcC, dcD, dcE] at hb); (try (revert hb; with_reducible refine true_imp_iff.2 ?_)); first | (intro K hK; simp only [go_sem, Nat.reduceAdd, Nat.reduceMul, Nat.reduceEqDiff, Nat.reduceLT, reduceIte, reduceCtorEq, eL, g1, g2, g3, g4, g5, nmA, Nat.reduceAdd, ifA, ifB]) | (simp only [St.ev, St.set, upd, Nat.reduceEqDiff, reduceIte, ifA, ifB, eL, g1, g2, g3, g4, g5, nmA, Nat.reduceAdd, ifA, ifB]) | skip))) | ((first | with_reducible refine aord_nil ?_ | refine awp_skip ?_ | refine awp_exit ?_ | refine awp_ret ?_); try simp only [rdA, Nat.reduceEqDiff, ifA, ifB, reduceIte]) | (refine awp_region tabOk rfl ?_; simp only [prep, pickO, lsA, lsB, lsC, lsD, lsE, lsF, lsG]) | ((with_reducible apply awp_cond); (focus (simp only [St.ev, St.set, upd, Nat.reduceEqDiff, reduceIte, ifA, ifB, eL, g1, g2, g3, g4, g5, nmA, Nat.reduceAdd, ifA, ifB]; exact rfl)); all_goals (intro hb; first | (cases hb; done) | ((try rw [hb]); (try simp only [dcA, dcB, dcC, dcD, dcE, Bool.not_eq_true', Bool.not_eq_false'] at hb)))) | ((with_reducible refine And.intro ?_ ?_); (focus omega)) | ((with_reducible refine And.intro (?_ : enters Try.prog 33) ?_); (focus exact Try.call33); (refine callX_satH implValidFacts_sat ?_); simp only [go_sem, and_assoc, List.nil_append, List.append_nil, List.cons_append, Nat.reduceEqDiff, reduceIte, reduceCtorEq, eL, g1, g2, g3, g4, g5, nmA, Nat.reduceAdd, ifA, ifB, eL, g1, g2, g3, g4, g5, mat.matL]) | fail)
    refine ⟨true, F, rfl, rfl, rfl, by omega, fun v N1 hv hN1 => ?_⟩
    cases v with
    | false => have := hv.2 hV; cases this
    | true =>


      repeat' (first | ((with_reducible refine hK _ ?_); clear hK K) | ((with_reducible refine aord_plain fun K hK => ?_); simp only [go_sem, Nat.reduceAdd, Nat.reduceMul, Nat.reduceEqDiff, Nat.reduceLT, reduceIte, reduceCtorEq, q1, nmA, Nat.reduceAdd, ifA, ifB, q1, mat.matL]) | ((with_reducible apply aord_guard); (focus (simp only [St.ev, St.set, upd, Nat.reduceEqDiff, reduceIte, ifA, ifB, q1, nmA, Nat.reduceAdd, ifA, ifB]; exact rfl)); all_goals (intro hb; (try simp only [Bool.not_true, Bool.not_false] at hb); first | (cases hb; done) | ((try rw [hb]); (try simp only [Bool.not_eq_true', Bool.not_eq_false', Bool.and_eq_true, dcA, dcB, dcC, dcD, dcE] at hb); (try (revert hb; with_reducible refine true_imp_iff.2 ?_)); first | (intro K hK; simp only [go_sem, Nat.reduceAdd, Nat.reduceMul, Nat.reduceEqDiff, Nat.reduceLT, reduceIte, reduceCtorEq, q1, nmA, Nat.reduceAdd, ifA, ifB]) | (simp only [St.ev, St.set, upd, Nat.reduceEqDiff, reduceIte, ifA, ifB, q1, nmA, Nat.reduceAdd, ifA, ifB]) | skip))) | ((with_reducible refine And.intro ?_ ?_); (focus omega)) | ((with_reducible refine And.intro (?_ : enters Try.prog 29) ?_); (focus exact Try.call29); (refine callX_satH implOrdersLeft_sat ?_); simp only [go_sem, and_assoc, List.nil_append, List.append_nil, List.cons_append, Nat.reduceEqDiff, reduceIte, reduceCtorEq, q1, nmA, Nat.reduceAdd, ifA, ifB, q1, mat.matL]) | fail)
      refine ⟨true, F, rfl, rfl, rfl, by omega, fun H2 N2 O2 f2 r1 r2 r3 r4 r5 => ?_⟩
      have hF2 : H2 1 = some ⟨true, .ints .i64 (flF F)⟩ := (r4 1 (by omega)).trans (by (repeat (first | rw [upd_same] | rw [upd_ne _ _ (by omega)] | rw [if_pos rfl] | rw [if_neg (by omega)])))
      clear r4
      by_cases h4 : m + k ≤ 4
      · have g6 : decide ((m : Int) + (k : Int) > 4) = false := decide_eq_false (by omega)
        have q2 : decide (leA ((m : Int) + (k : Int)) F ≤ max ((m : Int) + (k : Int) - 1) 0) = true := decide_eq_true (hA h4)


        repeat' (first | ((with_reducible refine hK _ ?_); clear hK K) | ((with_reducible refine aord_plain fun K hK => ?_); simp only [go_sem, Nat.reduceAdd, Nat.reduceMul, Nat.reduceEqDiff, Nat.reduceLT, reduceIte, reduceCtorEq, q1, g6, hF2, q2, nmA, Nat.reduceAdd, ifA, ifB, q1, g6, hF2, q2, mat.matL]) | ((with_reducible apply aord_guard); (focus (simp only [St.ev, St.set, upd, Nat.reduceEqDiff, reduceIte, ifA, ifB, q1, g6, hF2, q2, nmA, Nat.reduceAdd, ifA, ifB]; exact rfl)); all_goals (intro hb; (try simp only [Bool.not_true, Bool.not_false] at hb); first | (cases hb; done) | ((try rw [hb]); (try simp only [Bool.not_eq_true', Bool.not_eq_false', Bool.and_eq_true, dcA, dcB, dcC, dcD, dcE] at hb); (try (revert hb; with_reducible refine true_imp_iff.2 ?_)); first | (intro K hK; simp only [go_sem, Nat.reduceAdd, Nat.reduceMul, Nat.reduceEqDiff, Nat.reduceLT, reduceIte, reduceCtorEq, q1, g6, hF2, q2, nmA, Nat.reduceAdd, ifA, ifB]) | (simp only [St.ev, St.set, upd, Nat.reduceEqDiff, reduceIte, ifA, ifB, q1, g6, hF2, q2, nmA, Nat.reduceAdd, ifA, ifB]) | skip))) | ((with_reducible refine And.intro ?_ ?_); (focus omega)) | ((with_reducible refine And.intro (?_ : enters Try.prog 34) ?_); (focus exact Try.call34); (refine callX_sat implMergeOrders_sat ?_); simp only [go_sem, and_assoc, List.nil_append, List.append_nil, List.cons_append, Nat.reduceEqDiff, reduceIte, reduceCtorEq, q1, g6, hF2, q2, nmA, Nat.reduceAdd, ifA, ifB, q1, g6, hF2, q2, mat.matL]) | ((with_reducible refine And.intro (?_ : enters Try.prog 17) ?_); (focus exact Try.call17); (refine callX_satH implLeastAsks_sat ?_); simp only [go_sem, and_assoc, List.nil_append, List.append_nil, List.cons_append, Nat.reduceEqDiff, reduceIte, reduceCtorEq, q1, g6, hF2, q2, nmA, Nat.reduceAdd, ifA, ifB, q1, g6, hF2, q2, mat.matL]) | fail)
        refine ⟨true, F, rfl, rfl, rfl, by omega, fun N3 hN3 => ?_⟩


        repeat' (first | ((with_reducible refine hK _ ?_); clear hK K) | ((with_reducible refine aord_plain fun K hK => ?_); simp only [go_sem, Nat.reduceAdd, Nat.reduceMul, Nat.reduceEqDiff, Nat.reduceLT, reduceIte, reduceCtorEq, q2, nmA, Nat.reduceAdd, ifA, ifB, q2, mat.matL]) | ((with_reducible apply aord_guard); (focus (simp only [St.ev, St.set, upd, Nat.reduceEqDiff, reduceIte, ifA, ifB, q2, nmA, Nat.reduceAdd, ifA, ifB]; exact rfl)); all_goals (intro hb; (try simp only [Bool.not_true, Bool.not_false] at hb); first | (cases hb; done) | ((try rw [hb]); (try simp only [Bool.not_eq_true', Bool.not_eq_false', Bool.and_eq_true, dcA, dcB, dcC, dcD, dcE] at hb); (try (revert hb; with_reducible refine true_imp_iff.2 ?_)); first | (intro K hK; simp only [go_sem, Nat.reduceAdd, Nat.reduceMul, Nat.reduceEqDiff, Nat.reduceLT, reduceIte, reduceCtorEq, q2, nmA, Nat.reduceAdd, ifA, ifB]) | (simp only [St.ev, St.set, upd, Nat.reduceEqDiff, reduceIte, ifA, ifB, q2, nmA, Nat.reduceAdd, ifA, ifB]) | skip))) | ((first | with_reducible refine aord_nil ?_ | refine awp_skip ?_ | refine awp_exit ?_ | refine awp_ret ?_); try simp only [rdA, Nat.reduceEqDiff, ifA, ifB, reduceIte]) | ((with_reducible refine And.intro ?_ ?_); (focus omega)) | fail)
        all_goals (simp only [St.set, St.ev, doneQ, doneH, ressK, resK, wrapR, AV.ids, AV.idsL, retK, retsK, upd, Nat.reduceEqDiff, reduceIte, ifA, ifB, List.nodup_nil, List.nodup_cons, List.not_mem_nil, not_false_eq_true, true_and, and_true, exists_eq_left', Option.some.injEq, rLoad, cellOf, tab, Ty.isAgg, Ty.one, Bool.false_eq_true]; first | exact hQ | (rw [q2]; exact hQ))
      · have g6 : decide ((m : Int) + (k : Int) > 4) = true := decide_eq_true (by omega)


        repeat' (first | ((with_reducible refine hK _ ?_); clear hK K) | ((with_reducible refine aord_plain fun K hK => ?_); simp only [go_sem, Nat.reduceAdd, Nat.reduceMul, Nat.reduceEqDiff, Nat.reduceLT, reduceIte, reduceCtorEq, q1, g6, nmA, Nat.reduceAdd, ifA, ifB, q1, g6, mat.matL]) | ((with_reducible apply aord_guard); (focus (simp only [St.ev, St.set, upd, Nat.reduceEqDiff, reduceIte, ifA, ifB, q1, g6, nmA, Nat.reduceAdd, ifA, ifB]; exact rfl)); all_goals (intro hb; (try simp only [Bool.not_true, Bool.not_false] at hb); first | (cases hb; done) | ((try rw [hb]); (try simp only [Bool.not_eq_true', Bool.not_eq_false', Bool.and_eq_true, dcA, dcB, dcC, dcD, dcE] at hb); (try (revert hb; with_reducible refine true_imp_iff.2 ?_)); first | (intro K hK; simp only [go_sem, Nat.reduceAdd, Nat.reduceMul, Nat.reduceEqDiff, Nat.reduceLT, reduceIte, reduceCtorEq, q1, g6, nmA, Nat.reduceAdd, ifA, ifB]) | (simp only [St.ev, St.set, upd, Nat.reduceEqDiff, reduceIte, ifA, ifB, q1, g6, nmA, Nat.reduceAdd, ifA, ifB]) | skip))) | ((first | with_reducible refine aord_nil ?_ | refine awp_skip ?_ | refine awp_exit ?_ | refine awp_ret ?_); try simp only [rdA, Nat.reduceEqDiff, ifA, ifB, reduceIte]) | ((with_reducible refine And.intro ?_ ?_); (focus omega)) | ((with_reducible refine And.intro (?_ : enters Try.prog 34) ?_); (focus exact Try.call34); (refine callX_sat implMergeOrders_sat ?_); simp only [go_sem, and_assoc, List.nil_append, List.append_nil, List.cons_append, Nat.reduceEqDiff, reduceIte, reduceCtorEq, q1, g6, nmA, Nat.reduceAdd, ifA, ifB, q1, g6, mat.matL]) | fail)
        all_goals (simp only [St.set, St.ev, doneQ, doneH, ressK, resK, wrapR, AV.ids, AV.idsL, retK, retsK, upd, Nat.reduceEqDiff, reduceIte, ifA, ifB, List.nodup_nil, List.nodup_cons, List.not_mem_nil, not_false_eq_true, true_and, and_true, exists_eq_left', Option.some.injEq, rLoad, cellOf, tab, Ty.isAgg, Ty.one, Bool.false_eq_true]; first | exact hQ | (rw [q1]; exact hQ))
  · obtain ⟨c1, e1⟩ : ∃ c, decide (m < 0) = c := ⟨_, rfl⟩
    obtain ⟨c2, e2⟩ : ∃ c, decide (k < 0) = c := ⟨_, rfl⟩
    have g3 : decide (m > 5) = false := decide_eq_false (by omega)
    have g4 : decide (k > 5) = false := decide_eq_false (by omega)
    have g5 : c1 = false → c2 = false → decide (m + k > 5) = true := fun h1 h2 => by
      rw [h1] at e1; rw [h2] at e2
      have := of_decide_eq_false e1
      have := of_decide_eq_false e2
      exact decide_eq_true (by omega)
    cases c1 with
    | true =>


      repeat' (first | refine awp_seq_k fun K hK => ?_ | ((with_reducible refine hK _ ?_); clear hK K) | ((with_reducible refine aord_plain fun K hK => ?_); simp only [go_sem, Nat.reduceAdd, Nat.reduceMul, Nat.reduceEqDiff, Nat.reduceLT, reduceIte, reduceCtorEq, eL, e1, nmA, Nat.reduceAdd, ifA, ifB, eL, e1, mat.matL]) | ((with_reducible apply aord_guard); (focus (simp only [St.ev, St.set, upd, Nat.reduceEqDiff, reduceIte, ifA, ifB, eL, e1, nmA, Nat.reduceAdd, ifA, ifB]; exact rfl)); all_goals (intro hb; (try simp only [Bool.not_true, Bool.not_false] at hb); first | (cases hb; done) | ((try rw [hb]); (try simp only [Bool.not_eq_true', Bool.not_eq_false', Bool.and_eq_true, dcA, dcB, dcC, dcD, dcE] at hb); (try (revert hb; with_reducible refine true_imp_iff.2 ?_)); first | (intro K hK; simp only [go_sem, Nat.reduceAdd, Nat.reduceMul, Nat.reduceEqDiff, Nat.reduceLT, reduceIte, reduceCtorEq, eL, e1, nmA, Nat.reduceAdd, ifA, ifB]) | (simp only [St.ev, St.set, upd, Nat.reduceEqDiff, reduceIte, ifA, ifB, eL, e1, nmA, Nat.reduceAdd, ifA, ifB]) | skip))) | ((first | with_reducible refine aord_nil ?_ | refine awp_skip ?_ | refine awp_exit ?_ | refine awp_ret ?_); try simp only [rdA, Nat.reduceEqDiff, ifA, ifB, reduceIte]) | (refine awp_region tabOk rfl ?_; simp only [prep, pickO, lsA, lsB, lsC, lsD, lsE, lsF, lsG]) | ((with_reducible apply awp_cond); (focus (simp only [St.ev, St.set, upd, Nat.reduceEqDiff, reduceIte, ifA, ifB, eL, e1, nmA, Nat.reduceAdd, ifA, ifB]; exact rfl)); all_goals (intro hb; first | (cases hb; done) | ((try rw [hb]); (try simp only [dcA, dcB, dcC, dcD, dcE, Bool.not_eq_true', Bool.not_eq_false'] at hb)))) | ((with_reducible refine And.intro ?_ ?_); (focus omega)) | ((with_reducible refine And.intro (?_ : enters Try.prog 32) ?_); (focus exact Try.call32); (refine callX_satH specChainFacts_sat ?_); simp only [go_sem, and_assoc, List.nil_append, List.append_nil, List.cons_append, Nat.reduceEqDiff, reduceIte, reduceCtorEq, eL, e1, nmA, Nat.reduceAdd, ifA, ifB, eL, e1, mat.matL]) | ((with_reducible refine And.intro (?_ : enters Try.prog 27) ?_); (focus exact Try.call27); (refine callX_satH equalFacts_sat ?_); simp only [go_sem, and_assoc, List.nil_append, List.append_nil, List.cons_append, Nat.reduceEqDiff, reduceIte, reduceCtorEq, eL, e1, nmA, Nat.reduceAdd, ifA, ifB, eL, e1, mat.matL]) | fail)
      all_goals (
        refine ⟨3, chL m k, rfl, rfl, chL m k, rfl, rfl, true, rfl, by omega, by omega, ?_⟩
        simp only [eL])
      repeat' (first | ((with_reducible refine hK _ ?_); clear hK K) | ((with_reducible refine aord_plain fun K hK => ?_); simp only [go_sem, Nat.reduceAdd, Nat.reduceMul, Nat.reduceEqDiff, Nat.reduceLT, reduceIte, reduceCtorEq, eL, e1, nmA, Nat.reduceAdd, ifA, ifB, eL, e1, mat.matL]) | ((first | with_reducible refine aord_nil ?_ | refine awp_skip ?_ | refine awp_exit ?_ | refine awp_ret ?_); try simp only [rdA, Nat.reduceEqDiff, ifA, ifB, reduceIte]) | fail)
      all_goals (simp only [St.set, St.ev, doneQ, doneH, ressK, resK, wrapR, AV.ids, AV.idsL, retK, retsK, upd, Nat.reduceEqDiff, reduceIte, ifA, ifB, List.nodup_nil, List.nodup_cons, List.not_mem_nil, not_false_eq_true, true_and, and_true, exists_eq_left', Option.some.injEq, rLoad, cellOf, tab, Ty.isAgg, Ty.one, Bool.false_eq_true]; exact hQ)
    | false =>
      cases c2 with
      | true =>


        repeat' (first | refine awp_seq_k fun K hK => ?_ | ((with_reducible refine hK _ ?_); clear hK K) | ((with_reducible refine aord_plain fun K hK => ?_); simp only [go_sem, Nat.reduceAdd, Nat.reduceMul, Nat.reduceEqDiff, Nat.reduceLT, reduceIte, reduceCtorEq, eL, e1, e2, nmA, Nat.reduceAdd, ifA, ifB, eL, e1, e2, mat.matL]) | ((with_reducible apply aord_guard); (focus (simp only [St.ev, St.set, upd, Nat.reduceEqDiff, reduceIte, ifA, ifB, eL, e1, e2, nmA, Nat.reduceAdd, ifA, ifB]; exact rfl)); all_goals (intro hb; (try simp only [Bool.not_true, Bool.not_false] at hb); first | (cases hb; done) | ((try rw [hb]); (try simp only [Bool.not_eq_true', Bool.not_eq_false', Bool.and_eq_true, dcA, dcB, dcC, dcD, dcE] at hb); (try (revert hb; with_reducible refine true_imp_iff.2 ?_)); first | (intro K hK; simp only [go_sem, Nat.reduceAdd, Nat.reduceMul, Nat.reduceEqDiff, Nat.reduceLT, reduceIte, reduceCtorEq, eL, e1, e2, nmA, Nat.reduceAdd, ifA, ifB]) | (simp only [St.ev, St.set, upd, Nat.reduceEqDiff, reduceIte, ifA, ifB, eL, e1, e2, nmA, Nat.reduceAdd, ifA, ifB]) | skip))) | ((first | with_reducible refine aord_nil ?_ | refine awp_skip ?_ | refine awp_exit ?_ | refine awp_ret ?_); try simp only [rdA, Nat.reduceEqDiff, ifA, ifB, reduceIte]) | (refine awp_region tabOk rfl ?_; simp only [prep, pickO, lsA, lsB, lsC, lsD, lsE, lsF, lsG]) | ((with_reducible apply awp_cond); (focus (simp only [St.ev, St.set, upd, Nat.reduceEqDiff, reduceIte, ifA, ifB, eL, e1, e2, nmA, Nat.reduceAdd, ifA, ifB]; exact rfl)); all_goals (intro hb; first | (cases hb; done) | ((try rw [hb]); (try simp only [dcA, dcB, dcC, dcD, dcE, Bool.not_eq_true', Bool.not_eq_false'] at hb)))) | ((with_reducible refine And.intro ?_ ?_); (focus omega)) | ((with_reducible refine And.intro (?_ : enters Try.prog 32) ?_); (focus exact Try.call32); (refine callX_satH specChainFacts_sat ?_); simp only [go_sem, and_assoc, List.nil_append, List.append_nil, List.cons_append, Nat.reduceEqDiff, reduceIte, reduceCtorEq, eL, e1, e2, nmA, Nat.reduceAdd, ifA, ifB, eL, e1, e2, mat.matL]) | ((with_reducible refine And.intro (?_ : enters Try.prog 27) ?_); (focus exact Try.call27); (refine callX_satH equalFacts_sat ?_); simp only [go_sem, and_assoc, List.nil_append, List.append_nil, List.cons_append, Nat.reduceEqDiff, reduceIte, reduceCtorEq, eL, e1, e2, nmA, Nat.reduceAdd, ifA, ifB, eL, e1, e2, mat.matL]) | fail)
        all_goals (
          refine ⟨3, chL m k, rfl, rfl, chL m k, rfl, rfl, true, rfl, by omega, by omega, ?_⟩
          simp only [eL])
        repeat' (first | ((with_reducible refine hK _ ?_); clear hK K) | ((with_reducible refine aord_plain fun K hK => ?_); simp only [go_sem, Nat.reduceAdd, Nat.reduceMul, Nat.reduceEqDiff, Nat.reduceLT, reduceIte, reduceCtorEq, eL, e1, e2, nmA, Nat.reduceAdd, ifA, ifB, eL, e1, e2, mat.matL]) | ((first | with_reducible refine aord_nil ?_ | refine awp_skip ?_ | refine awp_exit ?_ | refine awp_ret ?_); try simp only [rdA, Nat.reduceEqDiff, ifA, ifB, reduceIte]) | fail)
        all_goals (simp only [St.set, St.ev, doneQ, doneH, ressK, resK, wrapR, AV.ids, AV.idsL, retK, retsK, upd, Nat.reduceEqDiff, reduceIte, ifA, ifB, List.nodup_nil, List.nodup_cons, List.not_mem_nil, not_false_eq_true, true_and, and_true, exists_eq_left', Option.some.injEq, rLoad, cellOf, tab, Ty.isAgg, Ty.one, Bool.false_eq_true]; exact hQ)
      | false =>
        have g5 := g5 rfl rfl


        repeat' (first | refine awp_seq_k fun K hK => ?_ | ((with_reducible refine hK _ ?_); clear hK K) | ((with_reducible refine aord_plain fun K hK => ?_); simp only [go_sem, Nat.reduceAdd, Nat.reduceMul, Nat.reduceEqDiff, Nat.reduceLT, reduceIte, reduceCtorEq, eL, e1, e2, g3, g4, g5, nmA, Nat.reduceAdd, ifA, ifB, eL, e1, e2, g3, g4, g5, mat.matL]) | ((with_reducible apply aord_guard); (focus (simp only [St.ev, St.set, upd, Nat.reduceEqDiff, reduceIte, ifA, ifB, eL, e1, e2, g3, g4, g5, nmA, Nat.reduceAdd, ifA, ifB]; exact rfl)); all_goals (intro hb; (try simp only [Bool.not_true, Bool.not_false] at hb); first | (cases hb; done) | ((try rw [hb]); (try simp only [Bool.not_eq_true', Bool.not_eq_false', Bool.and_eq_true, dcA, dcB, dcC, dcD, dcE] at hb); (try (revert hb; with_reducible refine true_imp_iff.2 ?_)); first | (intro K hK; simp only [go_sem, Nat.reduceAdd, Nat.reduceMul, Nat.reduceEqDiff, Nat.reduceLT, reduceIte, reduceCtorEq, eL, e1, e2, g3, g4, g5, nmA, Nat.reduceAdd, ifA, ifB]) | (simp only [St.ev, St.set, upd, Nat.reduceEqDiff, reduceIte, ifA, ifB, eL, e1, e2, g3, g4, g5, nmA, Nat.reduceAdd, ifA, ifB]) | skip))) | ((first | with_reducible refine aord_nil ?_ | refine awp_skip ?_ | refine awp_exit ?_ | refine awp_ret ?_); try simp only [rdA, Nat.reduceEqDiff, ifA, ifB, reduceIte]) | (refine awp_region tabOk rfl ?_; simp only [prep, pickO, lsA, lsB, lsC, lsD, lsE, lsF, lsG]) | ((with_reducible apply awp_cond); (focus (simp only [St.ev, St.set, upd, Nat.reduceEqDiff, reduceIte, ifA, ifB, eL, e1, e2, g3, g4, g5, nmA, Nat.reduceAdd, ifA, ifB]; exact rfl)); all_goals (intro hb; first | (cases hb; done) | ((try rw [hb]); (try simp only [dcA, dcB, dcC, dcD, dcE, Bool.not_eq_true', Bool.not_eq_false'] at hb)))) | ((with_reducible refine And.intro ?_ ?_); (focus omega)) | ((with_reducible refine And.intro (?_ : enters Try.prog 32) ?_); (focus exact Try.call32); (refine callX_satH specChainFacts_sat ?_); simp only [go_sem, and_assoc, List.nil_append, List.append_nil, List.cons_append, Nat.reduceEqDiff, reduceIte, reduceCtorEq, eL, e1, e2, g3, g4, g5, nmA, Nat.reduceAdd, ifA, ifB, eL, e1, e2, g3, g4, g5, mat.matL]) | ((with_reducible refine And.intro (?_ : enters Try.prog 27) ?_); (focus exact Try.call27); (refine callX_satH equalFacts_sat ?_); simp only [go_sem, and_assoc, List.nil_append, List.append_nil, List.cons_append, Nat.reduceEqDiff, reduceIte, reduceCtorEq, eL, e1, e2, g3, g4, g5, nmA, Nat.reduceAdd, ifA, ifB, eL, e1, e2, g3, g4, g5, mat.matL]) | fail)
        all_goals (
          refine ⟨3, chL m k, rfl, rfl, chL m k, rfl, rfl, true, rfl, by omega, by omega, ?_⟩
          simp only [eL])
        repeat' (first | ((with_reducible refine hK _ ?_); clear hK K) | ((with_reducible refine aord_plain fun K hK => ?_); simp only [go_sem, Nat.reduceAdd, Nat.reduceMul, Nat.reduceEqDiff, Nat.reduceLT, reduceIte, reduceCtorEq, eL, e1, e2, g3, g4, g5, nmA, Nat.reduceAdd, ifA, ifB, eL, e1, e2, g3, g4, g5, mat.matL]) | ((first | with_reducible refine aord_nil ?_ | refine awp_skip ?_ | refine awp_exit ?_ | refine awp_ret ?_); try simp only [rdA, Nat.reduceEqDiff, ifA, ifB, reduceIte]) | fail)
        all_goals (simp only [St.set, St.ev, doneQ, doneH, ressK, resK, wrapR, AV.ids, AV.idsL, retK, retsK, upd, Nat.reduceEqDiff, reduceIte, ifA, ifB, List.nodup_nil, List.nodup_cons, List.not_mem_nil, not_false_eq_true, true_and, and_true, exists_eq_left', Option.some.injEq, rLoad, cellOf, tab, Ty.isAgg, Ty.one, Bool.false_eq_true]; exact hQ)

theorem third {d : Nat} {fs : List (Int × Int)} (h : VF d fs) (h2 : 2 ≤ (orO d fs).length) : ∃ i k : Nat, i < k ∧ k < d ∧ 3 * mxP (orO d fs) i k ≤ 2 * ((orO d fs).length : Int) := by
  have hd : d ≤ 5 := by have := h.1; omega
  have hi : itemsIn d fs := by have := h.2.2.1; rwa [Int.toNat_natCast] at this
  have hc := chkG_sound (s := fun q => decide (((q.1 : Int), (q.2.1 : Int)) ∈ fs)) (u := fun q => decide (((q.2.1 : Int), (q.1 : Int)) ∈ fs)) (prs d) (chk_all hd)
  rw [List.filter_map] at hc
  have key : (ordK d d []).filter ((fun c => (prs d).all fun q => (!decide (((q.1 : Int), (q.2.1 : Int)) ∈ fs) || tstN q c) && (!decide (((q.2.1 : Int), (q.1 : Int)) ∈ fs) || !tstN q c)) ∘ codeP (prs d)) = orO d fs := by
    rw [orO_ag h]
    refine List.filter_congr fun p hp => ?_
    obtain ⟨hb, hl, _⟩ := ordK_mem d .nil hp
    have hl : p.length = d := by simpa using hl
    have hneg : ∀ q, q ∈ prs d → agB [((q.2.1 : Int), (q.1 : Int))] p = !agB [((q.1 : Int), (q.2.1 : Int))] p := fun q hq => by
      obtain ⟨h3, h4⟩ := prs_in hd q hq
      exact (ag_one (a := (q.1 : Int)) (c := (q.2.1 : Int)) hb hl ⟨by omega, by omega⟩ ⟨by omega, by omega⟩ (by omega)).2
    have hone : ∀ a c : Int, agB [(a, c)] p = true ↔ fstAt p a p.length ≤ fstAt p c p.length := fun a c => by
      rw [agB_iff]
      exact ⟨fun h => h (a, c) (by simp), fun h f hf => by rw [List.mem_singleton.1 hf]; exact h⟩
    rw [Function.comp_apply, Bool.eq_iff_iff, List.all_eq_true, agB_iff]
    constructor
    · intro hall f hf
      obtain ⟨⟨a0, a1⟩, c0, c1⟩ := hi f hf
      obtain ⟨x, y⟩ := f
      dsimp only at a0 a1 c0 c1 ⊢
      obtain ⟨x, rfl⟩ : ∃ j : Nat, x = j := ⟨x.toNat, by omega⟩
      obtain ⟨y, rfl⟩ : ∃ j : Nat, y = j := ⟨y.toNat, by omega⟩
      rcases Nat.lt_trichotomy x y with c | c | c
      · obtain ⟨q, hq, rfl, rfl⟩ := prs_all hd y (by omega) x c
        have h5 := hall q hq
        rw [decide_eq_true hf, Bool.and_eq_true] at h5
        have h6 := h5.1
        rw [Bool.not_true, Bool.false_or, code_ok hd q hq p hp] at h6
        exact (hone _ _).1 h6
      · subst c
        exact (h.2.2.2 x (.base hf)).elim
      · obtain ⟨q, hq, rfl, rfl⟩ := prs_all hd x (by omega) y c
        have h5 := hall q hq
        rw [Bool.and_eq_true] at h5
        have h6 := h5.2
        rw [decide_eq_true hf, Bool.not_true, Bool.false_or, code_ok hd q hq p hp, ← hneg q hq] at h6
        exact (hone _ _).1 h6
    · intro hall q hq
      rw [code_ok hd q hq p hp]
      have e1 : (!decide (((q.1 : Int), (q.2.1 : Int)) ∈ fs) || agB [((q.1 : Int), (q.2.1 : Int))] p) = true := by
        by_cases c : ((q.1 : Int), (q.2.1 : Int)) ∈ fs
        · rw [(hone _ _).2 (hall _ c), Bool.or_true]
        · rw [decide_eq_false c]; rfl
      have e2 : (!decide (((q.2.1 : Int), (q.1 : Int)) ∈ fs) || !agB [((q.1 : Int), (q.2.1 : Int))] p) = true := by
        by_cases c : ((q.2.1 : Int), (q.1 : Int)) ∈ fs
        · rw [← hneg q hq, (hone _ _).2 (hall _ c), Bool.or_true]
        · rw [decide_eq_false c]; rfl
      rw [e1, e2]; rfl
  rw [key, ruleG_map (g := fun q p => agB [((q.1 : Int), (q.2.1 : Int))] p) (fun q hq p hp => code_ok hd q hq p (by
    rw [orO_ag h] at hp; exact (List.mem_filter.1 hp).1))] at hc
  generalize orO d fs = L at *
  obtain ⟨a, b, l, rfl⟩ : ∃ a b l, L = a :: b :: l := by
    match L, h2 with
    | a :: b :: l, _ => exact ⟨a, b, l, rfl⟩
  unfold ruleG at hc
  rw [List.any_eq_true] at hc
  obtain ⟨q, hq, hc⟩ := hc
  rw [Bool.and_eq_true, decide_eq_true_eq, decide_eq_true_eq] at hc
  obtain ⟨h3, h4⟩ := prs_in hd q hq
  have hc2 : 3 * ((a :: b :: l).filter (agB [((q.1 : Int), (q.2.1 : Int))])).length ≤ 2 * (a :: b :: l).length ∧ (a :: b :: l).length ≤ 3 * ((a :: b :: l).filter (agB [((q.1 : Int), (q.2.1 : Int))])).length := hc
  refine ⟨q.1, q.2.1, h3, h4, ?_⟩
  unfold mxP
  omega
theorem bqRow_val {L : List (List Int)} {d i : Nat} {s : Int × Int × Int} : ∀ j, j ≤ d → bqRow L i j s = s ∨ ∃ k : Nat, i < k ∧ k < d ∧ bqRow L i j s = ((i : Int), (k : Int), mxP L i k)
  | 0, _ => .inl rfl
  | j + 1, hj => by
    have ih := bqRow_val (L := L) (d := d) (i := i) (s := s) j (by omega)
    rw [bqRow]
    by_cases c : i < j
    · rw [if_pos c]
      unfold bqS
      split
      · exact .inr ⟨j, c, hj, rfl⟩
      · exact ih
    · rw [if_neg c]; exact ih
theorem bqTo_val {L : List (List Int)} {d : Nat} {s : Int × Int × Int} : ∀ n, bqTo L d n s = s ∨ ∃ i k : Nat, i < k ∧ k < d ∧ bqTo L d n s = ((i : Int), (k : Int), mxP L i k)
  | 0 => .inl rfl
  | n + 1 => by
    rw [bqTo]
    rcases bqRow_val (L := L) (d := d) (i := n) (s := bqTo L d n s) d (Nat.le_refl _) with e | ⟨k, h1, h2, e⟩
    · rw [e]; exact bqTo_val n
    · exact .inr ⟨n, k, h1, h2, e⟩
/-- The best question: its items, no question is more even, two thirds at most. -/
theorem bq_best {d : Nat} {fs : List (Int × Int)} (h : VF d fs) (h2 : 2 ≤ (orO d fs).length) : ∃ i k : Nat, i < k ∧ k < d ∧ bqA d fs = ((i : Int), (k : Int), true) ∧ (∀ i' k' : Nat, i' < k' → k' < d → mxP (orO d fs) i k ≤ mxP (orO d fs) i' k') ∧ 3 * mxP (orO d fs) i k ≤ 2 * ((orO d fs).length : Int) := by
  have hle := (bqTo_le (L := orO d fs) (d := d) (s := (0, 0, ((orO d fs).length : Int))) d).2
  obtain ⟨i0, k0, h3, h4, h5⟩ := bq_some h h2
  have h6 := hle i0 k0 (by omega) h3 h4
  obtain ⟨i1, k1, h7, h8, h9⟩ := third h h2
  rcases bqTo_val (L := orO d fs) (d := d) (s := (0, 0, ((orO d fs).length : Int))) d with e | ⟨i, k, g1, g2, e⟩
  · rw [e] at h6; dsimp only at h6; omega
  · rw [e] at hle
    dsimp only at hle
    refine ⟨i, k, g1, g2, by rw [bqA_yes h h2, e], fun i' k' a b => hle i' k' (by omega) a b, ?_⟩
    have := hle i1 k1 (by omega) h7 h8
    omega


theorem drawBestQuestion_sat : SatH Try.prog 12 (fun al h n K => ∃ (bs : List Int), al = [.sl 0 0 bs.length 1 none] ∧ (n = 1) ∧ (h 0 = some ⟨false, .ints .u8 bs⟩) ∧ (bs.length ≤ 1099511627776) ∧ (bytesOk bs) ∧ ∀ (H : Hp) (z : Int) (fs : List (Int × Int)), -1 ≤ z ∧ z ≤ 6 → fs.length ≤ 8 → H 0 = h 0 → H 2 = some ⟨true, .ints .i64 (flF fs)⟩ → K (.tup [.val (.int .i64 z), .sl 2 0 fs.length 2 none]) (H) (3)) := by
  refine satH_intro tabOk Try.func12 rfl 9 rfl [.tmp 2, .tmp 3] rfl ?_
  rintro F W h n al K0 ⟨bs, rfl, hn, h0, hL, hbs, hQ⟩
  refine ⟨Nat.le_of_ble_eq_true rfl, fun m0 hm0 hcl hlt => ?_⟩
  simp only [initT]
  subst hn


  repeat' (first | refine awp_seq_k fun K hK => ?_ | ((with_reducible refine hK _ ?_); clear hK K) | ((with_reducible refine aord_plain fun K hK => ?_); simp only [go_sem, Nat.reduceAdd, Nat.reduceMul, Nat.reduceEqDiff, Nat.reduceLT, reduceIte, reduceCtorEq, h0, nmA, Nat.reduceAdd, ifA, ifB, h0]) | ((first | with_reducible refine aord_nil ?_ | refine awp_skip ?_ | refine awp_exit ?_ | refine awp_ret ?_); try simp only [rdA, Nat.reduceEqDiff, ifA, ifB, reduceIte]) | (refine awp_region tabOk rfl ?_; simp only [prep, pickO, lsA, lsB, lsC, lsD, lsE, lsF, lsG]) | ((with_reducible apply awp_cond); (focus (simp only [St.ev, St.set, upd, Nat.reduceEqDiff, reduceIte, ifA, ifB, h0, nmA, Nat.reduceAdd, ifA, ifB]; exact rfl)); all_goals (intro hb; first | (cases hb; done) | ((try rw [hb]); (try simp only [dcA, dcB, dcC, dcD, dcE, Bool.not_eq_true', Bool.not_eq_false'] at hb)))) | ((with_reducible refine And.intro ?_ ?_); (focus omega)) | ((with_reducible refine And.intro (?_ : enters Try.prog 40) ?_); (focus exact Try.call40); (refine callX_satH someFacts_sat ?_); simp only [go_sem, and_assoc, List.nil_append, List.append_nil, List.cons_append, Nat.reduceEqDiff, reduceIte, reduceCtorEq, h0, nmA, Nat.reduceAdd, ifA, ifB, h0]) | ((with_reducible refine And.intro (?_ : enters Try.prog 41) ?_); (focus exact Try.call41); (refine callX_h (callH_inline tabOk Try.func41 rfl 11 rfl [.tmp 2] rfl (Nat.le_of_ble_eq_true rfl) fun m0 hm0 hcl hlt => ?_)); simp only [initT, St.ev, St.set, upd, Nat.reduceEqDiff, reduceIte, ifA, ifB, h0, nmA, Nat.reduceAdd, ifA, ifB]) | (simp only [rBuild]; simp only [fillA, Nat.reduceLeDiff, List.getElem?_cons_zero, List.getElem?_cons_succ, List.drop_succ_cons, List.drop_nil, List.take_nil, List.cons_append, Option.isSome_some, go_sem, Nat.reduceAdd, Nat.reduceMul, Nat.reduceEqDiff, Nat.reduceLT, reduceIte, reduceCtorEq, h0, nmA, Nat.reduceAdd, ifA, ifB]) | (simp only [doneH]; simp only [ressK, resK, wrapR, go_sem, Nat.reduceAdd, Nat.reduceMul, Nat.reduceEqDiff, Nat.reduceLT, reduceIte, reduceCtorEq, h0, nmA, Nat.reduceAdd, ifA, ifB]) | fail)
  all_goals (
    refine ⟨_, _, 0, rfl, by omega, by omega, hbs, by omega, ?_⟩
    intro z fs r hz hfs hr)
  repeat' (first | ((with_reducible refine hK _ ?_); clear hK K) | ((with_reducible refine aord_plain fun K hK => ?_); simp only [go_sem, Nat.reduceAdd, Nat.reduceMul, Nat.reduceEqDiff, Nat.reduceLT, reduceIte, reduceCtorEq, h0, nmA, Nat.reduceAdd, ifA, ifB, h0]) | ((first | with_reducible refine aord_nil ?_ | refine awp_skip ?_ | refine awp_exit ?_ | refine awp_ret ?_); try simp only [rdA, Nat.reduceEqDiff, ifA, ifB, reduceIte]) | (simp only [doneH]; simp only [ressK, resK, wrapR, go_sem, Nat.reduceAdd, Nat.reduceMul, Nat.reduceEqDiff, Nat.reduceLT, reduceIte, reduceCtorEq, h0, nmA, Nat.reduceAdd, ifA, ifB]) | fail)
  all_goals exact hQ _ z fs hz hfs (by rw [upd_ne _ _ (by omega), upd_ne _ _ (by omega), upd_ne _ _ (by omega)]) (upd_same _ _ _)


theorem FnBestQuestion_sat : Sat Try.prog 3 (fun ds Q => ∃ bs, ds = [.row (.ints .u8 bs)] ∧ bs.length ≤ 9223372036854775807 ∧ bytesOk bs ∧ Q (.val (.bool true))) := by
  refine sat_intro tabOk Try.func3 rfl 113 rfl [.tmp 2] rfl ?_
  rintro ds Q W ⟨bs, rfl, hlen, hbs, hQ⟩
  refine ⟨Nat.le_of_ble_eq_true rfl, ?_⟩
  simp only [initS, initT, mat.matL, mat, Cont.len]
  repeat' (first | refine awp_seq_k fun K hK => ?_ | ((with_reducible refine hK _ ?_); clear hK K) | ((with_reducible refine aord_plain fun K hK => ?_); simp only [go_sem, Nat.reduceAdd, Nat.reduceMul, Nat.reduceEqDiff, Nat.reduceLT, reduceIte, reduceCtorEq, mat.matL, Int.toNat_zero]) | ((first | with_reducible refine aord_nil ?_ | refine awp_skip ?_ | refine awp_exit ?_ | refine awp_ret ?_); try simp only [rdA, Nat.reduceEqDiff, ifA, ifB, reduceIte]) | (refine awp_region tabOk rfl ?_; simp only [prep, pickO, lsA, lsB, lsC, lsD, lsE, lsF, lsG]) | ((with_reducible apply awp_cond); (focus (simp only [St.ev, St.set, upd, Nat.reduceEqDiff, reduceIte, ifA, ifB]; exact rfl)); all_goals (intro hb; first | (cases hb; done) | ((try rw [hb]); (try simp only [dcA, dcB, dcC, dcD, dcE, Bool.not_eq_true', Bool.not_eq_false'] at hb)))) | ((with_reducible refine And.intro (?_ : enters Try.prog 12) ?_); (focus exact Try.call12); (refine callX_satH drawBestQuestion_sat ?_); simp only [go_sem, and_assoc, List.nil_append, List.append_nil, List.cons_append, Nat.reduceEqDiff, reduceIte, reduceCtorEq, mat.matL, Int.toNat_zero]) | fail)
  · simp only [St.set, St.ev, doneQ, doneH, ressK, resK, wrapR, AV.ids, AV.idsL, retK, retsK, upd, Nat.reduceEqDiff, reduceIte, ifA, ifB, List.nodup_nil, List.nodup_cons, List.not_mem_nil, not_false_eq_true, true_and, and_true, exists_eq_left', Option.some.injEq, rLoad, cellOf, tab, Ty.isAgg, Ty.one, Bool.false_eq_true]
    exact hQ
  refine ⟨bs, rfl, rfl, by omega, hbs, fun H z fs hz hfs h0 HA => ?_⟩
  have hfl := flF_len fs


  repeat' (first | refine awp_seq_k fun K hK => ?_ | ((with_reducible refine hK _ ?_); clear hK K) | ((with_reducible refine aord_plain fun K hK => ?_); simp only [go_sem, Nat.reduceAdd, Nat.reduceMul, Nat.reduceEqDiff, Nat.reduceLT, reduceIte, reduceCtorEq, HA, nmA, Nat.reduceAdd, ifA, ifB, HA, mat.matL]) | ((first | with_reducible refine aord_nil ?_ | refine awp_skip ?_ | refine awp_exit ?_ | refine awp_ret ?_); try simp only [rdA, Nat.reduceEqDiff, ifA, ifB, reduceIte]) | (refine awp_region tabOk rfl ?_; simp only [prep, pickO, lsA, lsB, lsC, lsD, lsE, lsF, lsG]) | ((with_reducible refine And.intro (?_ : enters Try.prog 13) ?_); (focus exact Try.call13); (refine callX_satH implBestQ_sat ?_); simp only [go_sem, and_assoc, List.nil_append, List.append_nil, List.cons_append, Nat.reduceEqDiff, reduceIte, reduceCtorEq, HA, nmA, Nat.reduceAdd, ifA, ifB, HA, mat.matL]) | fail)
  refine ⟨true, fs, rfl, rfl, rfl, by omega, fun N1 hN1 => ?_⟩


  repeat' (first | refine awp_seq_k fun K hK => ?_ | ((with_reducible refine hK _ ?_); clear hK K) | ((with_reducible refine aord_plain fun K hK => ?_); simp only [go_sem, Nat.reduceAdd, Nat.reduceMul, Nat.reduceEqDiff, Nat.reduceLT, reduceIte, reduceCtorEq, HA, nmA, Nat.reduceAdd, ifA, ifB, HA, mat.matL]) | ((first | with_reducible refine aord_nil ?_ | refine awp_skip ?_ | refine awp_exit ?_ | refine awp_ret ?_); try simp only [rdA, Nat.reduceEqDiff, ifA, ifB, reduceIte]) | (refine awp_region tabOk rfl ?_; simp only [prep, pickO, lsA, lsB, lsC, lsD, lsE, lsF, lsG]) | ((with_reducible refine And.intro (?_ : enters Try.prog 14) ?_); (focus exact Try.call14); (refine callX_satH specBestQuestion_sat ?_); simp only [go_sem, and_assoc, List.nil_append, List.append_nil, List.cons_append, Nat.reduceEqDiff, reduceIte, reduceCtorEq, HA, nmA, Nat.reduceAdd, ifA, ifB, HA, mat.matL]) | fail)
  refine ⟨true, fs, rfl, rfl, rfl, by omega, fun N2 hN2 => ?_⟩
  by_cases hG : VF z fs ∧ 2 ≤ (orO z fs).length
  · obtain ⟨hV, h2⟩ := hG
    obtain ⟨d, rfl⟩ : ∃ d : Nat, z = d := ⟨z.toNat, by have := hV.1; omega⟩
    have hd5 : d ≤ 5 := by have := hV.1; omega
    obtain ⟨a, c, hac, hcd, eA, hbest, hthird⟩ := bq_best hV h2
    have hcap := orO_cap (d : Int) fs
    have hS : spI d a c := ⟨⟨⟨by omega, by omega⟩, by omega, by omega⟩, by omega⟩
    have e1 := spA_yes hV hS
    have e2 := spA_yes hV (spI_sw hS)
    have hsum := sp_sum hV hS
    rw [eA]
    have b1 : ((a : Int) != (a : Int)) = false := bne_self_eq_false _
    have b2 : ((c : Int) != (c : Int)) = false := bne_self_eq_false _
    have hmx : mxP (orO d fs) a c = max ((((orO d fs).filter (agB [((a : Int), (c : Int))])).length : Nat) : Int) ((((orO d fs).filter (agB [((c : Int), (a : Int))])).length : Nat) : Int) := by
      unfold mxP; omega
    rw [hmx] at hbest hthird


    repeat' (first | refine awp_seq_k fun K hK => ?_ | ((with_reducible refine hK _ ?_); clear hK K) | ((with_reducible refine aord_plain fun K hK => ?_); simp only [go_sem, Nat.reduceAdd, Nat.reduceMul, Nat.reduceEqDiff, Nat.reduceLT, reduceIte, reduceCtorEq, HA, b1, b2, nmA, Nat.reduceAdd, ifA, ifB, HA, mat.matL, b1, b2]) | ((with_reducible apply aord_guard); (focus (simp only [St.ev, St.set, upd, Nat.reduceEqDiff, reduceIte, ifA, ifB, HA, b1, b2, nmA, Nat.reduceAdd, ifA, ifB]; exact rfl)); all_goals (intro hb; (try simp only [Bool.not_true, Bool.not_false] at hb); first | (cases hb; done) | ((try rw [hb]); (try simp only [Bool.not_eq_true', Bool.not_eq_false', Bool.and_eq_true, dcA, dcB, dcC, dcD, dcE] at hb); (try (revert hb; with_reducible refine true_imp_iff.2 ?_)); first | (intro K hK; simp only [go_sem, Nat.reduceAdd, Nat.reduceMul, Nat.reduceEqDiff, Nat.reduceLT, reduceIte, reduceCtorEq, HA, b1, b2, nmA, Nat.reduceAdd, ifA, ifB]) | (simp only [St.ev, St.set, upd, Nat.reduceEqDiff, reduceIte, ifA, ifB, HA, b1, b2, nmA, Nat.reduceAdd, ifA, ifB]) | skip))) | ((first | with_reducible refine aord_nil ?_ | refine awp_skip ?_ | refine awp_exit ?_ | refine awp_ret ?_); try simp only [rdA, Nat.reduceEqDiff, ifA, ifB, reduceIte]) | (refine awp_region tabOk rfl ?_; simp only [prep, pickO, lsA, lsB, lsC, lsD, lsE, lsF, lsG]) | ((with_reducible apply awp_cond); (focus (simp only [St.ev, St.set, upd, Nat.reduceEqDiff, reduceIte, ifA, ifB, HA, b1, b2, nmA, Nat.reduceAdd, ifA, ifB]; exact rfl)); all_goals (intro hb; first | (cases hb; done) | ((try rw [hb]); (try simp only [dcA, dcB, dcC, dcD, dcE, Bool.not_eq_true', Bool.not_eq_false'] at hb)))) | ((with_reducible refine And.intro (?_ : enters Try.prog 15) ?_); (focus exact Try.call15); (refine callX_satH implSplitOf_sat ?_); simp only [go_sem, and_assoc, List.nil_append, List.append_nil, List.cons_append, Nat.reduceEqDiff, reduceIte, reduceCtorEq, HA, b1, b2, nmA, Nat.reduceAdd, ifA, ifB, HA, mat.matL, b1, b2]) | fail)
    refine ⟨true, fs, rfl, rfl, rfl, by omega, fun N3 hN3 => ?_⟩
    rw [e1, e2]
    generalize hXX : ((orO d fs).filter (agB [((a : Int), (c : Int))])).length = X at *
    generalize hYY : ((orO d fs).filter (agB [((c : Int), (a : Int))])).length = Y at *


    repeat' (first | refine awp_seq_k fun K hK => ?_ | ((with_reducible refine hK _ ?_); clear hK K) | ((with_reducible refine aord_plain fun K hK => ?_); simp only [go_sem, Nat.reduceAdd, Nat.reduceMul, Nat.reduceEqDiff, Nat.reduceLT, reduceIte, reduceCtorEq, HA, nmA, Nat.reduceAdd, ifA, ifB, HA, mat.matL]) | refine awp_block ?_ | ((first | with_reducible refine aord_nil ?_ | refine awp_skip ?_ | refine awp_exit ?_ | refine awp_ret ?_); try simp only [rdA, Nat.reduceEqDiff, ifA, ifB, reduceIte]) | (refine awp_region tabOk rfl ?_; simp only [prep, pickO, lsA, lsB, lsC, lsD, lsE, lsF, lsG]) | fail)
    refine awp_loop (fun q : Nat × Nat => ⟨upd (upd (upd (upd (upd bot 13 (.val (.int .i64 q.2))) 12 (.val (.int .i64 (Y : Nat)))) 11 (.val (.int .i64 (X : Nat)))) 4 (.sl 2 0 fs.length 2 none)) 3 (.val (.int .i64 d)), H, q.1⟩) (fun q => q.2 ≤ d ∧ N3 ≤ q.1) (fun q => d - q.2) (N3, 0) ⟨Nat.zero_le _, Nat.le_refl _⟩ ?_ ?_
    · exact Wk.sub (tsd (tsd (tsd (tsd (tsd tsd0 rfl) rfl) rfl) rfl) rfl) (fun _ _ h => h) rfl
    rintro ⟨N, i⟩ ⟨hid, hNN⟩
    dsimp only at hid hNN ⊢
    rcases Nat.lt_or_ge i d with hi2 | hi2
    · skip


      repeat' (first | refine awp_seq_k fun K hK => ?_ | ((with_reducible refine hK _ ?_); clear hK K) | (clear hK K; (with_reducible refine hK _ ?_); clear hK K) | ((with_reducible refine aord_plain fun K hK => ?_); simp only [go_sem, Nat.reduceAdd, Nat.reduceMul, Nat.reduceEqDiff, Nat.reduceLT, reduceIte, reduceCtorEq, HA, nmA, Nat.reduceAdd, ifA, ifB, HA, mat.matL]) | refine awp_block ?_ | ((first | with_reducible refine aord_nil ?_ | refine awp_skip ?_ | refine awp_exit ?_ | refine awp_ret ?_); try simp only [rdA, Nat.reduceEqDiff, ifA, ifB, reduceIte]) | (refine awp_region tabOk rfl ?_; simp only [prep, pickO, lsA, lsB, lsC, lsD, lsE, lsF, lsG]) | ((with_reducible apply awp_cond); (focus (simp only [St.ev, St.set, upd, Nat.reduceEqDiff, reduceIte, ifA, ifB, HA, nmA, Nat.reduceAdd, ifA, ifB]; exact rfl)); all_goals (intro hb; first | (cases hb; done) | ((try rw [hb]); (try simp only [dcA, dcB, dcC, dcD, dcE, Bool.not_eq_true', Bool.not_eq_false'] at hb)))) | ((with_reducible refine And.intro ?_ ?_); (focus omega)) | (exfalso; omega) | fail)
      refine awp_loop (fun q : Nat × Nat => ⟨upd (upd (upd (upd (upd (upd bot 14 (.val (.int .i64 q.2))) 13 (.val (.int .i64 i))) 12 (.val (.int .i64 (Y : Nat)))) 11 (.val (.int .i64 (X : Nat)))) 4 (.sl 2 0 fs.length 2 none)) 3 (.val (.int .i64 d)), H, q.1⟩) (fun q => q.2 ≤ d ∧ i + 1 ≤ q.2 ∧ N3 ≤ q.1) (fun q => d - q.2) (N, i + 1) ⟨by dsimp only; omega, Nat.le_refl _, hNN⟩ ?_ ?_
      · exact Wk.sub (tsd (tsd (tsd (tsd (tsd (tsd tsd0 rfl) rfl) rfl) rfl) rfl) rfl) (fun _ _ h => h) rfl
      rintro ⟨M, j⟩ ⟨hjd, hij, hNM⟩
      dsimp only at hjd hij hNM ⊢
      rcases Nat.lt_or_ge j d with hj2 | hj2
      · have hS2 : spI d i j := ⟨⟨⟨by omega, by omega⟩, by omega, by omega⟩, by omega⟩
        have f1 := spA_yes hV hS2
        have f2 := spA_yes hV (spI_sw hS2)
        have hsum2 := sp_sum hV hS2
        have hb := hbest i j (by omega) hj2
        have hmx2 : mxP (orO d fs) i j = max ((((orO d fs).filter (agB [((i : Int), (j : Int))])).length : Nat) : Int) ((((orO d fs).filter (agB [((j : Int), (i : Int))])).length : Nat) : Int) := by
          unfold mxP; omega
        rw [hmx2] at hb


        repeat' (first | refine awp_seq_k fun K hK => ?_ | ((with_reducible refine hK _ ?_); clear hK K) | (clear hK K; (with_reducible refine hK _ ?_); clear hK K) | ((with_reducible refine aord_plain fun K hK => ?_); simp only [go_sem, Nat.reduceAdd, Nat.reduceMul, Nat.reduceEqDiff, Nat.reduceLT, reduceIte, reduceCtorEq, HA, nmA, Nat.reduceAdd, ifA, ifB, HA, mat.matL]) | refine awp_block ?_ | ((first | with_reducible refine aord_nil ?_ | refine awp_skip ?_ | refine awp_exit ?_ | refine awp_ret ?_); try simp only [rdA, Nat.reduceEqDiff, ifA, ifB, reduceIte]) | (refine awp_region tabOk rfl ?_; simp only [prep, pickO, lsA, lsB, lsC, lsD, lsE, lsF, lsG]) | ((with_reducible apply awp_cond); (focus (simp only [St.ev, St.set, upd, Nat.reduceEqDiff, reduceIte, ifA, ifB, HA, nmA, Nat.reduceAdd, ifA, ifB]; exact rfl)); all_goals (intro hb; first | (cases hb; done) | ((try rw [hb]); (try simp only [dcA, dcB, dcC, dcD, dcE, Bool.not_eq_true', Bool.not_eq_false'] at hb)))) | ((with_reducible refine And.intro ?_ ?_); (focus omega)) | ((with_reducible refine And.intro (?_ : enters Try.prog 15) ?_); (focus exact Try.call15); (refine callX_satH implSplitOf_sat ?_); simp only [go_sem, and_assoc, List.nil_append, List.append_nil, List.cons_append, Nat.reduceEqDiff, reduceIte, reduceCtorEq, HA, nmA, Nat.reduceAdd, ifA, ifB, HA, mat.matL]) | (exfalso; omega) | fail)
        refine ⟨true, fs, rfl, rfl, rfl, by omega, fun N4 hN4 => ?_⟩
        rw [f1, f2]
        generalize ((orO d fs).filter (agB [((i : Int), (j : Int))])).length = X2 at *
        generalize ((orO d fs).filter (agB [((j : Int), (i : Int))])).length = Y2 at *
        have g1 : decide (max (X2 : Int) (Y2 : Int) < max (X : Int) (Y : Int)) = false := decide_eq_false (by omega)


        repeat' (first | refine awp_seq_k fun K hK => ?_ | ((with_reducible refine hK _ ?_); clear hK K) | ((with_reducible refine aord_plain fun K hK => ?_); simp only [go_sem, Nat.reduceAdd, Nat.reduceMul, Nat.reduceEqDiff, Nat.reduceLT, reduceIte, reduceCtorEq, HA, g1, nmA, Nat.reduceAdd, ifA, ifB, HA, mat.matL, g1]) | ((first | with_reducible refine aord_nil ?_ | refine awp_skip ?_ | refine awp_exit ?_ | refine awp_ret ?_); try simp only [rdA, Nat.reduceEqDiff, ifA, ifB, reduceIte]) | (refine awp_region tabOk rfl ?_; simp only [prep, pickO, lsA, lsB, lsC, lsD, lsE, lsF, lsG]) | ((with_reducible apply awp_cond); (focus (simp only [St.ev, St.set, upd, Nat.reduceEqDiff, reduceIte, ifA, ifB, HA, g1, nmA, Nat.reduceAdd, ifA, ifB]; exact rfl)); all_goals (intro hb; first | (cases hb; done) | ((try rw [hb]); (try simp only [dcA, dcB, dcC, dcD, dcE, Bool.not_eq_true', Bool.not_eq_false'] at hb)))) | ((with_reducible refine And.intro ?_ ?_); (focus omega)) | fail)
        exact ⟨(N4, j + 1), ⟨by dsimp only; omega, by dsimp only; omega, by dsimp only; omega⟩, by dsimp only; omega, Wk.sub (tsd (tsd (tsd (tsd (tsd (tsd tsd0 rfl) rfl) rfl) rfl) rfl) rfl) (fun _ _ h => h) rfl⟩
      · have ej : j = d := by omega
        subst ej


        repeat' (first | refine awp_seq_k fun K hK => ?_ | ((with_reducible refine hK _ ?_); clear hK K) | (clear hK K; (with_reducible refine hK _ ?_); clear hK K) | ((with_reducible refine aord_plain fun K hK => ?_); simp only [go_sem, Nat.reduceAdd, Nat.reduceMul, Nat.reduceEqDiff, Nat.reduceLT, reduceIte, reduceCtorEq, HA, nmA, Nat.reduceAdd, ifA, ifB, HA, mat.matL]) | refine awp_block ?_ | ((first | with_reducible refine aord_nil ?_ | refine awp_skip ?_ | refine awp_exit ?_ | refine awp_ret ?_); try simp only [rdA, Nat.reduceEqDiff, ifA, ifB, reduceIte]) | (refine awp_region tabOk rfl ?_; simp only [prep, pickO, lsA, lsB, lsC, lsD, lsE, lsF, lsG]) | ((with_reducible apply awp_cond); (focus (simp only [St.ev, St.set, upd, Nat.reduceEqDiff, reduceIte, ifA, ifB, HA, nmA, Nat.reduceAdd, ifA, ifB]; exact rfl)); all_goals (intro hb; first | (cases hb; done) | ((try rw [hb]); (try simp only [dcA, dcB, dcC, dcD, dcE, Bool.not_eq_true', Bool.not_eq_false'] at hb)))) | ((with_reducible refine And.intro ?_ ?_); (focus omega)) | (exfalso; omega) | fail)
        exact ⟨(M, i + 1), ⟨by dsimp only; omega, by dsimp only; omega⟩, by dsimp only; omega, Wk.sub (tsd (tsd (tsd (tsd (tsd tsd0 rfl) rfl) rfl) rfl) rfl) (fun _ _ h => h) rfl⟩
    · have ei : i = d := by omega
      subst ei
      have g2 : decide (3 * max (X : Int) (Y : Int) ≤ 2 * ((X : Int) + (Y : Int))) = true := decide_eq_true (by omega)


      repeat' (first | refine awp_seq_k fun K hK => ?_ | ((with_reducible refine hK _ ?_); clear hK K) | (clear hK K; (with_reducible refine hK _ ?_); clear hK K) | ((with_reducible refine aord_plain fun K hK => ?_); simp only [go_sem, Nat.reduceAdd, Nat.reduceMul, Nat.reduceEqDiff, Nat.reduceLT, reduceIte, reduceCtorEq, g2, nmA, Nat.reduceAdd, ifA, ifB, mat.matL, g2]) | refine awp_block ?_ | ((first | with_reducible refine aord_nil ?_ | refine awp_skip ?_ | refine awp_exit ?_ | refine awp_ret ?_); try simp only [rdA, Nat.reduceEqDiff, ifA, ifB, reduceIte]) | (refine awp_region tabOk rfl ?_; simp only [prep, pickO, lsA, lsB, lsC, lsD, lsE, lsF, lsG]) | ((with_reducible apply awp_cond); (focus (simp only [St.ev, St.set, upd, Nat.reduceEqDiff, reduceIte, ifA, ifB, g2, nmA, Nat.reduceAdd, ifA, ifB]; exact rfl)); all_goals (intro hb; first | (cases hb; done) | ((try rw [hb]); (try simp only [dcA, dcB, dcC, dcD, dcE, Bool.not_eq_true', Bool.not_eq_false'] at hb)))) | ((with_reducible refine And.intro ?_ ?_); (focus omega)) | (exfalso; omega) | fail)
      all_goals (simp only [St.set, St.ev, doneQ, doneH, ressK, resK, wrapR, AV.ids, AV.idsL, retK, retsK, upd, Nat.reduceEqDiff, reduceIte, ifA, ifB, List.nodup_nil, List.nodup_cons, List.not_mem_nil, not_false_eq_true, true_and, and_true, exists_eq_left', Option.some.injEq, rLoad, cellOf, tab, Ty.isAgg, Ty.one, Bool.false_eq_true]; first | exact hQ | (rw [g2]; exact hQ))
  · rw [bqA_no hG]
    have b1 : ((0 : Int) != 0) = false := rfl
    have b2 : (false != false) = false := rfl
    have b3 : ((0 : Int) == 0) = true := rfl
    have b4 : (false == false) = true := rfl


    repeat' (first | refine awp_seq_k fun K hK => ?_ | ((with_reducible refine hK _ ?_); clear hK K) | ((with_reducible refine aord_plain fun K hK => ?_); simp only [go_sem, Nat.reduceAdd, Nat.reduceMul, Nat.reduceEqDiff, Nat.reduceLT, reduceIte, reduceCtorEq, HA, b1, b2, b3, b4, nmA, Nat.reduceAdd, ifA, ifB, HA, mat.matL, b1, b2, b3, b4]) | ((with_reducible apply aord_guard); (focus (simp only [St.ev, St.set, upd, Nat.reduceEqDiff, reduceIte, ifA, ifB, HA, b1, b2, b3, b4, nmA, Nat.reduceAdd, ifA, ifB]; exact rfl)); all_goals (intro hb; (try simp only [Bool.not_true, Bool.not_false] at hb); first | (cases hb; done) | ((try rw [hb]); (try simp only [Bool.not_eq_true', Bool.not_eq_false', Bool.and_eq_true, dcA, dcB, dcC, dcD, dcE] at hb); (try (revert hb; with_reducible refine true_imp_iff.2 ?_)); first | (intro K hK; simp only [go_sem, Nat.reduceAdd, Nat.reduceMul, Nat.reduceEqDiff, Nat.reduceLT, reduceIte, reduceCtorEq, HA, b1, b2, b3, b4, nmA, Nat.reduceAdd, ifA, ifB]) | (simp only [St.ev, St.set, upd, Nat.reduceEqDiff, reduceIte, ifA, ifB, HA, b1, b2, b3, b4, nmA, Nat.reduceAdd, ifA, ifB]) | skip))) | ((first | with_reducible refine aord_nil ?_ | refine awp_skip ?_ | refine awp_exit ?_ | refine awp_ret ?_); try simp only [rdA, Nat.reduceEqDiff, ifA, ifB, reduceIte]) | (refine awp_region tabOk rfl ?_; simp only [prep, pickO, lsA, lsB, lsC, lsD, lsE, lsF, lsG]) | ((with_reducible apply awp_cond); (focus (simp only [St.ev, St.set, upd, Nat.reduceEqDiff, reduceIte, ifA, ifB, HA, b1, b2, b3, b4, nmA, Nat.reduceAdd, ifA, ifB]; exact rfl)); all_goals (intro hb; first | (cases hb; done) | ((try rw [hb]); (try simp only [dcA, dcB, dcC, dcD, dcE, Bool.not_eq_true', Bool.not_eq_false'] at hb)))) | fail)
    all_goals (simp only [St.set, St.ev, doneQ, doneH, ressK, resK, wrapR, AV.ids, AV.idsL, retK, retsK, upd, Nat.reduceEqDiff, reduceIte, ifA, ifB, List.nodup_nil, List.nodup_cons, List.not_mem_nil, not_false_eq_true, true_and, and_true, exists_eq_left', Option.some.injEq, rLoad, cellOf, tab, Ty.isAgg, Ty.one, Bool.false_eq_true]; exact hQ)

end Go.Proofs.Ytacmgdaonacmeaa
