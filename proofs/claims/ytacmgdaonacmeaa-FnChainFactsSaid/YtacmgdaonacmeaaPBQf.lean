/- Contracts of functions of the program. -/
import Derived.Test.YtacmgdaonacmeaaPBQe
import Derived.ScopeJumps
namespace Go.Proofs.Ytacmgdaonacmeaa
open Go Go.Ab
set_option linter.all false
set_option maxHeartbeats 4000000

-- %range awp_region_tree
theorem few_L_sat : ∀ fu, SatH Try.prog 50 (fun al h n K0 => ∃ (d O : Nat) (g : Nat → Nat) (L : List (List Int)) , al = [.val (.int .i64 d), .sl O 0 L.length 1 none, .val (.func (.func 51) #[] #[])] ∧  RowsOf h n O g L ∧ GoodL d L ∧ d ≤ 5 ∧ L.length ≤ fu ∧ L.length ≤ 120 ∧ ∀ (v N : Nat), IsFew (enL) d L v → v ≤ L.length → n ≤ N → K0 (.val (.int .i64 v)) h N) := by
  intro fu
  induction fu with
  | zero =>
    refine satH_intro tabOk Try.func50 rfl 48 rfl [.tmp 6] rfl ?_
    rintro F W h n al K0 ⟨d, O, g, L,  rfl,  hR, hg, hd5, hlf, hcap, hQ⟩
    refine ⟨Nat.le_of_ble_eq_true rfl, fun m0 hm0 hcl hlt => ?_⟩
    simp only [initT]
    have hOn := hR.outn
    have mz1 : (n = n + 1) = False := eq_false (by omega)
    have mz2 : (n + 1 = n) = False := eq_false (by omega)
    have mz3 : (n = n + 2) = False := eq_false (by omega)
    have mz4 : (n + 2 = n) = False := eq_false (by omega)
    have mz5 : (n = n + 3) = False := eq_false (by omega)
    have mz6 : (n + 3 = n) = False := eq_false (by omega)
    have mz := And.intro mz1 (And.intro mz2 (And.intro mz3 (And.intro mz4 (And.intro mz5 mz6))))
    have kinds_few := enL_few


    repeat' ((fail_if_success (with_reducible refine isRetQ ?_)); (first | refine awp_seq_k fun K hK => ?_ | ((with_reducible refine hK _ ?_); clear hK K) | ((with_reducible refine aord_plain fun K hK => ?_); simp only [go_sem, Nat.reduceAdd, Nat.reduceMul, Nat.reduceEqDiff, Nat.reduceLT, reduceIte, reduceCtorEq, mz, nmA, Nat.reduceAdd, ifA, ifB, mz, mat.matL, DV.agg.injEq, AV.clo.injEq, List.cons.injEq, AV.ref.injEq, and_true, true_and]) | ((first | with_reducible refine aord_nil ?_ | refine awp_skip ?_ | refine awp_exit ?_ | refine awp_ret ?_); try simp only [rdA, Nat.reduceEqDiff, ifA, ifB, reduceIte]) | (refine awp_region tabOk rfl ?_; simp only [prep, pickO, lsA, lsB, lsC, lsD, lsE, lsF, lsG]) | ((with_reducible refine And.intro (?_ : enters Try.prog 51) ?_); (focus exact Try.call51); (refine callX_satH leastEn_sat ?_); simp only [go_sem, and_assoc, List.nil_append, List.append_nil, List.cons_append, Nat.reduceEqDiff, reduceIte, reduceCtorEq, mz, nmA, Nat.reduceAdd, ifA, ifB, mz, mat.matL, DV.agg.injEq, AV.clo.injEq, List.cons.injEq, AV.ref.injEq, and_true, true_and]) | fail))
    refine ⟨L, rfl, by omega, fun v hv => ?_⟩
    cases v with
    | false => exact absurd (show enL L from (kinds_few _ (by omega))) (fun e => by cases hv.2 e)
    | true =>


      repeat' ((fail_if_success (with_reducible refine isRetQ ?_)); (first | refine awp_seq_k fun K hK => ?_ | ((with_reducible refine hK _ ?_); clear hK K) | ((with_reducible refine aord_plain fun K hK => ?_); simp only [go_sem, Nat.reduceAdd, Nat.reduceMul, Nat.reduceEqDiff, Nat.reduceLT, reduceIte, reduceCtorEq, mz, nmA, Nat.reduceAdd, ifA, ifB, mz, mat.matL, DV.agg.injEq, AV.clo.injEq, List.cons.injEq, AV.ref.injEq, and_true, true_and]) | ((first | with_reducible refine aord_nil ?_ | refine awp_skip ?_ | refine awp_exit ?_ | refine awp_ret ?_); try simp only [rdA, Nat.reduceEqDiff, ifA, ifB, reduceIte]) | (refine awp_region tabOk rfl ?_; simp only [prep, pickO, lsA, lsB, lsC, lsD, lsE, lsF, lsG]) | ((with_reducible apply awp_cond); (focus (simp only [St.ev, St.set, upd, Nat.reduceEqDiff, reduceIte, ifA, ifB, mz, nmA, Nat.reduceAdd, ifA, ifB]; exact rfl)); all_goals (intro hb; first | (cases hb; done) | ((try rw [hb]); (try simp only [dcA, dcB, dcC, dcD, dcE, Bool.not_eq_true', Bool.not_eq_false'] at hb)))) | fail))
      refine awp_weaken (s' := ⟨upd bot 6 (.val (.int .i64 (0 : Nat))), h, n + 3⟩) (Wk.sub (tsd tsd0 rfl) (fun o ob ho => by have := (hcl o _ ho).1; dsimp only; rw [upd_ne _ _ (by omega), upd_ne _ _ (by omega), upd_ne _ _ (by omega)]; exact ho) rfl) ?_
      repeat' (first | ((first | with_reducible refine aord_nil ?_ | refine awp_skip ?_ | refine awp_exit ?_ | refine awp_ret ?_); try simp only [rdA, Nat.reduceEqDiff, ifA, ifB, reduceIte]) | (simp only [doneH]; simp only [ressK, resK, wrapR, go_sem, Nat.reduceAdd, Nat.reduceMul, Nat.reduceEqDiff, Nat.reduceLT, reduceIte, reduceCtorEq, mz, nmA, Nat.reduceAdd, ifA, ifB]) | fail)
      exact hQ 0 (n + 3) (few_zero (hv.1 rfl)) (Nat.zero_le _) (by omega)
  | succ fu ih =>
    refine satH_intro tabOk Try.func50 rfl 48 rfl [.tmp 6] rfl ?_
    rintro F W h n al K0 ⟨d, O, g, L,  rfl,  hR, hg, hd5, hlf, hcap, hQ⟩
    refine ⟨Nat.le_of_ble_eq_true rfl, fun m0 hm0 hcl hlt => ?_⟩
    simp only [initT]
    have hOn := hR.outn
    have mz1 : (n = n + 1) = False := eq_false (by omega)
    have mz2 : (n + 1 = n) = False := eq_false (by omega)
    have mz3 : (n = n + 2) = False := eq_false (by omega)
    have mz4 : (n + 2 = n) = False := eq_false (by omega)
    have mz5 : (n = n + 3) = False := eq_false (by omega)
    have mz6 : (n + 3 = n) = False := eq_false (by omega)
    have mz := And.intro mz1 (And.intro mz2 (And.intro mz3 (And.intro mz4 (And.intro mz5 mz6))))
    have hrw := hg.rowle hd5
    have hclO := hcl
    have kinds_few := enL_few


    repeat' ((fail_if_success (with_reducible refine isRetQ ?_)); (first | refine awp_seq_k fun K hK => ?_ | ((with_reducible refine hK _ ?_); clear hK K) | ((with_reducible refine aord_plain fun K hK => ?_); simp only [go_sem, Nat.reduceAdd, Nat.reduceMul, Nat.reduceEqDiff, Nat.reduceLT, reduceIte, reduceCtorEq, mz, nmA, Nat.reduceAdd, ifA, ifB, mz, mat.matL, DV.agg.injEq, AV.clo.injEq, List.cons.injEq, AV.ref.injEq, and_true, true_and]) | ((first | with_reducible refine aord_nil ?_ | refine awp_skip ?_ | refine awp_exit ?_ | refine awp_ret ?_); try simp only [rdA, Nat.reduceEqDiff, ifA, ifB, reduceIte]) | (refine awp_region tabOk rfl ?_; simp only [prep, pickO, lsA, lsB, lsC, lsD, lsE, lsF, lsG]) | ((with_reducible refine And.intro (?_ : enters Try.prog 51) ?_); (focus exact Try.call51); (refine callX_satH leastEn_sat ?_); simp only [go_sem, and_assoc, List.nil_append, List.append_nil, List.cons_append, Nat.reduceEqDiff, reduceIte, reduceCtorEq, mz, nmA, Nat.reduceAdd, ifA, ifB, mz, mat.matL, DV.agg.injEq, AV.clo.injEq, List.cons.injEq, AV.ref.injEq, and_true, true_and]) | fail))
    refine ⟨L, rfl, by omega, fun v hv => ?_⟩
    cases v with
    | true =>


      repeat' ((fail_if_success (with_reducible refine isRetQ ?_)); (first | refine awp_seq_k fun K hK => ?_ | ((with_reducible refine hK _ ?_); clear hK K) | ((with_reducible refine aord_plain fun K hK => ?_); simp only [go_sem, Nat.reduceAdd, Nat.reduceMul, Nat.reduceEqDiff, Nat.reduceLT, reduceIte, reduceCtorEq, mz, nmA, Nat.reduceAdd, ifA, ifB, mz, mat.matL, DV.agg.injEq, AV.clo.injEq, List.cons.injEq, AV.ref.injEq, and_true, true_and]) | ((first | with_reducible refine aord_nil ?_ | refine awp_skip ?_ | refine awp_exit ?_ | refine awp_ret ?_); try simp only [rdA, Nat.reduceEqDiff, ifA, ifB, reduceIte]) | (refine awp_region tabOk rfl ?_; simp only [prep, pickO, lsA, lsB, lsC, lsD, lsE, lsF, lsG]) | ((with_reducible apply awp_cond); (focus (simp only [St.ev, St.set, upd, Nat.reduceEqDiff, reduceIte, ifA, ifB, mz, nmA, Nat.reduceAdd, ifA, ifB]; exact rfl)); all_goals (intro hb; first | (cases hb; done) | ((try rw [hb]); (try simp only [dcA, dcB, dcC, dcD, dcE, Bool.not_eq_true', Bool.not_eq_false'] at hb)))) | fail))
      refine awp_weaken (s' := ⟨upd bot 6 (.val (.int .i64 (0 : Nat))), h, n + 3⟩) (Wk.sub (tsd tsd0 rfl) (fun o ob ho => by have := (hcl o _ ho).1; dsimp only; rw [upd_ne _ _ (by omega), upd_ne _ _ (by omega), upd_ne _ _ (by omega)]; exact ho) rfl) ?_
      repeat' (first | ((first | with_reducible refine aord_nil ?_ | refine awp_skip ?_ | refine awp_exit ?_ | refine awp_ret ?_); try simp only [rdA, Nat.reduceEqDiff, ifA, ifB, reduceIte]) | (simp only [doneH]; simp only [ressK, resK, wrapR, go_sem, Nat.reduceAdd, Nat.reduceMul, Nat.reduceEqDiff, Nat.reduceLT, reduceIte, reduceCtorEq, mz, nmA, Nat.reduceAdd, ifA, ifB]) | fail)
      exact hQ 0 (n + 3) (few_zero (hv.1 rfl)) (Nat.zero_le _) (by omega)
    | false =>
      have hen : ¬ enL L := fun e => by cases hv.2 e
      have h2 : 2 ≤ L.length := by
        rcases Nat.lt_or_ge L.length 2 with c | c
        · exact (hen (kinds_few _ (by omega))).elim
        · exact c
      clear hv


      repeat' (first | refine awp_seq_k fun K hK => ?_ | ((with_reducible refine hK _ ?_); clear hK K) | ((with_reducible refine aord_plain fun K hK => ?_); simp only [go_sem, Nat.reduceAdd, Nat.reduceMul, Nat.reduceEqDiff, Nat.reduceLT, reduceIte, reduceCtorEq, mz, nmA, Nat.reduceAdd, ifA, ifB, mz, mat.matL, DV.agg.injEq, AV.clo.injEq, List.cons.injEq, AV.ref.injEq, and_true, true_and]) | refine awp_block ?_ | ((first | with_reducible refine aord_nil ?_ | refine awp_skip ?_ | refine awp_exit ?_ | refine awp_ret ?_); try simp only [rdA, Nat.reduceEqDiff, ifA, ifB, reduceIte]) | (refine awp_region tabOk rfl ?_; simp only [prep, pickO, lsA, lsB, lsC, lsD, lsE, lsF, lsG]) | ((with_reducible apply awp_cond); (focus (simp only [St.ev, St.set, upd, Nat.reduceEqDiff, reduceIte, ifA, ifB, mz, nmA, Nat.reduceAdd, ifA, ifB]; exact rfl)); all_goals (intro hb; first | (cases hb; done) | ((try rw [hb]); (try simp only [dcA, dcB, dcC, dcD, dcE, Bool.not_eq_true', Bool.not_eq_false'] at hb)))) | ((with_reducible refine And.intro ?_ ?_); (focus (exact rfl))) | ((with_reducible refine And.intro (?_ : enters Try.prog 42) ?_); (focus exact Try.call42); (refine callX_h (callH_inline tabOk Try.func42 rfl 6 rfl [.tmp 2] rfl (Nat.le_of_ble_eq_true rfl) fun m0 hm0 hcl hlt => ?_)); simp only [initT, St.ev, St.set, upd, Nat.reduceEqDiff, reduceIte, ifA, ifB, mz, nmA, Nat.reduceAdd, ifA, ifB]) | ((with_reducible refine And.intro (?_ : enters Try.prog 60) ?_); (focus exact Try.call60); (refine callX_h (callH_inline tabOk Try.func60 rfl 4 rfl [.tmp 2] rfl (Nat.le_of_ble_eq_true rfl) fun m0 hm0 hcl hlt => ?_)); simp only [initT, St.ev, St.set, upd, Nat.reduceEqDiff, reduceIte, ifA, ifB, mz, nmA, Nat.reduceAdd, ifA, ifB]) | ((with_reducible refine And.intro (?_ : enters Try.prog 59) ?_); (focus exact Try.call59); (refine callX_h (callH_inline tabOk Try.func59 rfl 6 rfl [.tmp 4] rfl (Nat.le_of_ble_eq_true rfl) fun m0 hm0 hcl hlt => ?_)); simp only [initT, St.ev, St.set, upd, Nat.reduceEqDiff, reduceIte, ifA, ifB, mz, nmA, Nat.reduceAdd, ifA, ifB]) | (simp only [doneH]; simp only [ressK, resK, wrapR, go_sem, Nat.reduceAdd, Nat.reduceMul, Nat.reduceEqDiff, Nat.reduceLT, reduceIte, reduceCtorEq, mz, nmA, Nat.reduceAdd, ifA, ifB]) | fail)
      (refine awp_range (gf := 81) (by simp only [St.ev, St.set, upd, Nat.reduceEqDiff, reduceIte, ifA, ifB, mz, nmA, Nat.reduceAdd, ifA, ifB]; first | exact fnV_clo | exact fnV_val) Try.call81 (fun LP LP1 LP2 LP3 LP4 LP5 => callX_h (callH_inline tabOk Try.func81 rfl 16 rfl [] rfl (Nat.le_of_ble_eq_true rfl) fun m0 hm0 hcl hlt => ?_)); simp only [List.nil_append, List.cons_append, initT, St.ev, St.set, upd, Nat.reduceEqDiff, reduceIte, ifA, ifB, mz, nmA, Nat.reduceAdd, ifA, ifB])
      repeat' (first | refine awp_seq_k fun K hK => ?_ | ((with_reducible refine hK _ ?_); clear hK K) | ((with_reducible refine aord_plain fun K hK => ?_); simp only [go_sem, Nat.reduceAdd, Nat.reduceMul, Nat.reduceEqDiff, Nat.reduceLT, reduceIte, reduceCtorEq, mz, nmA, Nat.reduceAdd, ifA, ifB, mz, mat.matL, DV.agg.injEq, AV.clo.injEq, List.cons.injEq, AV.ref.injEq, and_true, true_and]) | refine awp_block ?_ | ((first | with_reducible refine aord_nil ?_ | refine awp_skip ?_ | refine awp_exit ?_ | refine awp_ret ?_); try simp only [rdA, Nat.reduceEqDiff, ifA, ifB, reduceIte]) | (refine awp_region tabOk rfl ?_; simp only [prep, pickO, lsA, lsB, lsC, lsD, lsE, lsF, lsG]) | fail)
      (refine awp_range (gf := 82) (by simp only [St.ev, St.set, upd, Nat.reduceEqDiff, reduceIte, ifA, ifB, mz, nmA, Nat.reduceAdd, ifA, ifB]; first | exact fnV_clo | exact fnV_val) Try.call82 (fun LQ LQ1 LQ2 LQ3 LQ4 LQ5 => callX_h (callH_inline tabOk Try.func82 rfl 26 rfl [] rfl (Nat.le_of_ble_eq_true rfl) fun m0 hm0 hcl hlt => ?_)); simp only [List.nil_append, List.cons_append, initT, St.ev, St.set, upd, Nat.reduceEqDiff, reduceIte, ifA, ifB, mz, nmA, Nat.reduceAdd, ifA, ifB])
      repeat' (first | refine awp_seq_k fun K hK => ?_ | ((with_reducible refine hK _ ?_); clear hK K) | ((with_reducible refine aord_plain fun K hK => ?_); simp only [go_sem, Nat.reduceAdd, Nat.reduceMul, Nat.reduceEqDiff, Nat.reduceLT, reduceIte, reduceCtorEq, mz, nmA, Nat.reduceAdd, ifA, ifB, mz, mat.matL, DV.agg.injEq, AV.clo.injEq, List.cons.injEq, AV.ref.injEq, and_true, true_and]) | refine awp_block ?_ | ((first | with_reducible refine aord_nil ?_ | refine awp_skip ?_ | refine awp_exit ?_ | refine awp_ret ?_); try simp only [rdA, Nat.reduceEqDiff, ifA, ifB, reduceIte]) | (refine awp_region tabOk rfl ?_; simp only [prep, pickO, lsA, lsB, lsC, lsD, lsE, lsF, lsG]) | fail)
      have hI : ∀ G, (∀ u, u < n → G u = h u) → G n = some ⟨true, .cells [.val (.int .i64 d)]⟩ → G (n + 1) = some ⟨true, .cells [.sl O 0 L.length 1 none]⟩ → G (n + 2) = some ⟨true, .cells [.val (.func (.func 51) #[] #[])]⟩ → G (n + 3) = some ⟨true, .cells [.val (.int .i64 ((L.length : Nat) : Int))]⟩ → G (n + 4) = some ⟨true, .cells [.val (.int .i64 d)]⟩ → G (n + 6) = some ⟨true, .cells [.val (.func (.func 76) #[] #[])]⟩ → G (n + 7) = some ⟨true, .raw (.loop LP)⟩ → G (n + 8) = some ⟨true, .cells [.yl (n + 7)]⟩ → G (n + 9) = some ⟨true, .raw (.loop LQ)⟩ → QF h n O d L.length (.val (.func (.func 51) #[] #[])) 76 LP LQ L.length G (n + 10) := fun G g0 g1 g2 g3 g4 g5 g6 g7 g8 g9 => ⟨g0, Nat.le_refl _, g1, g2, g3, g4, g5, g6, g7, g8, g9⟩
      refine awp_loop (fun q : Hp × Nat × Nat × Nat => ⟨upd (upd (upd (upd bot 6 (.val (.int .i64 q.2.2.1))) 5 (.val (.int .i64 d))) 1 (.ref (n + 4) 0)) 0 (.yl (n + 9)), q.1, q.2.1⟩) (fun q => q.2.2.1 ≤ d ∧ FewTo (enL) d L q.2.2.1 0 q.2.2.2 ∧ QF h n O d L.length (.val (.func (.func 51) #[] #[])) 76 LP LQ q.2.2.2 q.1 q.2.1) (fun q => d - q.2.2.1) ((upd (upd (upd (upd (upd (upd (upd (upd (upd (upd (upd h n (some ⟨true, .cells [.val (.int .i64 d)]⟩)) (n + 1) (some ⟨true, .cells [.sl O 0 L.length 1 none]⟩)) (n + 2) (some ⟨true, .cells [.val (.func (.func 51) #[] #[])]⟩)) (n + 3) (some ⟨true, .cells [.val (.int .i64 0)]⟩)) (n + 3) (some ⟨true, .cells [.val (.int .i64 ((L.length : Nat) : Int))]⟩)) (n + 4) (some ⟨true, .cells [.val (.int .i64 d)]⟩)) (n + 5) (some ⟨true, .cells [.clo (.func 82) [] [.ref (n + 4) 0]]⟩)) (n + 6) (some ⟨true, .cells [.val (.func (.func 76) #[] #[])]⟩)) (n + 7) (some ⟨true, .raw (.loop LP)⟩)) (n + 8) (some ⟨true, .cells [.yl (n + 7)]⟩)) (n + 9) (some ⟨true, .raw (.loop LQ)⟩)), n + 10, 0, L.length) ⟨Nat.zero_le _, FewTo.zero, hI _ ?_ ?_ ?_ ?_ ?_ ?_ ?_ ?_ ?_ ?_⟩ ?_ ?_
      · exact fun u hu => by dsimp only; (repeat rw [upd_ne _ _ (by omega)])
      · dsimp only; (repeat (first | rw [upd_same] | rw [upd_ne _ _ (by omega)]))
      · dsimp only; (repeat (first | rw [upd_same] | rw [upd_ne _ _ (by omega)]))
      · dsimp only; (repeat (first | rw [upd_same] | rw [upd_ne _ _ (by omega)]))
      · dsimp only; (repeat (first | rw [upd_same] | rw [upd_ne _ _ (by omega)]))
      · dsimp only; (repeat (first | rw [upd_same] | rw [upd_ne _ _ (by omega)]))
      · dsimp only; (repeat (first | rw [upd_same] | rw [upd_ne _ _ (by omega)]))
      · dsimp only; (repeat (first | rw [upd_same] | rw [upd_ne _ _ (by omega)]))
      · dsimp only; (repeat (first | rw [upd_same] | rw [upd_ne _ _ (by omega)]))
      · dsimp only; (repeat (first | rw [upd_same] | rw [upd_ne _ _ (by omega)]))
      · exact Wk.sub (tsd (tsd (tsd (tsd tsd0 rfl) rfl) rfl) rfl) (fun _ _ h => h) rfl
      clear hI
      rintro ⟨G, M, i, s⟩ ⟨hid, hT, hI⟩
      dsimp only at hid hT hI ⊢
      rcases Nat.lt_or_ge i d with hlt2 | hge
      · have c4 := hI.c4
        have c9 := hI.c9


        repeat' (first | refine awp_seq_k fun K hK => ?_ | ((with_reducible refine hK _ ?_); clear hK K) | ((with_reducible refine aord_plain fun K hK => ?_); simp only [go_sem, Nat.reduceAdd, Nat.reduceMul, Nat.reduceEqDiff, Nat.reduceLT, reduceIte, reduceCtorEq, c4, c9, nmA, Nat.reduceAdd, ifA, ifB, c4, c9, mat.matL, DV.agg.injEq]) | refine awp_block ?_ | ((first | with_reducible refine aord_nil ?_ | refine awp_skip ?_ | refine awp_exit ?_ | refine awp_ret ?_); try simp only [rdA, Nat.reduceEqDiff, ifA, ifB, reduceIte]) | (refine awp_region tabOk rfl ?_; simp only [prep, pickO, lsA, lsB, lsC, lsD, lsE, lsF, lsG]) | ((with_reducible apply awp_cond); (focus (simp only [St.ev, St.set, upd, Nat.reduceEqDiff, reduceIte, ifA, ifB, c4, c9, nmA, Nat.reduceAdd, ifA, ifB]; exact rfl)); all_goals (intro hb; first | (cases hb; done) | ((try rw [hb]); (try simp only [dcA, dcB, dcC, dcD, dcE, Bool.not_eq_true', Bool.not_eq_false'] at hb)))) | (simp only [doneH]; simp only [ressK, resK, wrapR, go_sem, Nat.reduceAdd, Nat.reduceMul, Nat.reduceEqDiff, Nat.reduceLT, reduceIte, reduceCtorEq, c4, c9, nmA, Nat.reduceAdd, ifA, ifB]) | ((with_reducible apply endA_go); (focus (simp only [St.ev, St.set, upd, Nat.reduceEqDiff, reduceIte, ifA, ifB, c4, c9, nmA, Nat.reduceAdd, ifA, ifB]; exact rfl)); (focus assumption); (focus assumption); (try simp only [rdA, Nat.reduceEqDiff, ifA, ifB, reduceIte])) | (exfalso; omega) | fail)
        refine awp_loop (fun q : Hp × Nat × Nat × Nat => ⟨upd (upd (upd (upd (upd (upd (upd bot 10 (.val (.int .i64 q.2.2.1))) 9 (.val (.int .i64 d))) 6 (.val (.int .i64 i))) 5 (.val (.int .i64 d))) 3 (.val (.int .i64 i))) 1 (.ref (n + 4) 0)) 0 (.yl (n + 9)), q.1, q.2.1⟩) (fun q => q.2.2.1 ≤ d ∧ FewTo (enL) d L i q.2.2.1 q.2.2.2 ∧ QF h n O d L.length (.val (.func (.func 51) #[] #[])) 76 LP LQ q.2.2.2 q.1 q.2.1) (fun q => d - q.2.2.1) (G, M, 0, s) ⟨Nat.zero_le _, hT, hI⟩ ?_ ?_
        · exact Wk.sub (tsd (tsd (tsd (tsd (tsd (tsd (tsd tsd0 rfl) rfl) rfl) rfl) rfl) rfl) rfl) (fun _ _ h => h) rfl
        clear c4 c9 hI hT
        rintro ⟨G, M, j, s⟩ ⟨hjd, hT, hI⟩
        dsimp only at hjd hT hI ⊢
        have hmn := hI.mn
        have hfr := hI.fr
        have c0 := hI.c0
        have c1 := hI.c1
        have c2 := hI.c2
        have c3 := hI.c3
        have c4 := hI.c4
        have c6 := hI.c6
        have c7 := hI.c7
        have c8 := hI.c8
        have c9 := hI.c9
        have hsle := hT.le
        rcases Nat.lt_or_ge j d with hlt3 | hge3
        · have n0 : (n = M) = False := eq_false (by omega)
          have n1 : (M = n) = False := eq_false (by omega)
          have n2 : ∀ k, (n = M + k) = False := fun k => eq_false (by omega)
          have n3 : ∀ k, (M + k = n) = False := fun k => eq_false (by omega)
          have p1 : (n + 1 = M) = False := eq_false (by omega)
          have p2 : ∀ k, (n + 1 = M + k) = False := fun k => eq_false (by omega)
          have p3 : (n + 2 = M) = False := eq_false (by omega)
          have p4 : ∀ k, (n + 2 = M + k) = False := fun k => eq_false (by omega)
          have p5 : (n + 3 = M) = False := eq_false (by omega)
          have p6 : ∀ k, (n + 3 = M + k) = False := fun k => eq_false (by omega)
          have p7 : (n + 6 = M) = False := eq_false (by omega)
          have p8 : ∀ k, (n + 6 = M + k) = False := fun k => eq_false (by omega)
          have p9 : (n + 7 = M) = False := eq_false (by omega)
          have pa : ∀ k, (n + 7 = M + k) = False := fun k => eq_false (by omega)
          have pb : (n + 8 = M) = False := eq_false (by omega)
          have pc : ∀ k, (n + 8 = M + k) = False := fun k => eq_false (by omega)
          have pd : (n + 9 = M) = False := eq_false (by omega)
          have pe : ∀ k, (n + 9 = M + k) = False := fun k => eq_false (by omega)
          have pf : (M = n + 9) = False := eq_false (by omega)
          have pg : ∀ k, (M + k = n + 9) = False := fun k => eq_false (by omega)
          have ph : (M = n + 7) = False := eq_false (by omega)
          have pi : ∀ k, (M + k = n + 7) = False := fun k => eq_false (by omega)
          have hN := And.intro c0 (And.intro c1 (And.intro c2 (And.intro c3 (And.intro c4 (And.intro c6 (And.intro c7 (And.intro c8 (And.intro c9 (And.intro n0 (And.intro n1 (And.intro n2 (And.intro n3 (And.intro p1 (And.intro p2 (And.intro p3 (And.intro p4 (And.intro p5 (And.intro p6 (And.intro p7 (And.intro p8 (And.intro p9 (And.intro pa (And.intro pb (And.intro pc (And.intro pd (And.intro pe (And.intro pf (And.intro pg (And.intro ph pi)))))))))))))))))))))))))))))
          rcases Nat.lt_trichotomy i j with hij | hij | hij
          · have q1 : ((i : Int) != (j : Int)) = true := bne_iff_ne.2 (by omega)
            have q2 : decide ((i : Int) < (j : Int)) = true := decide_eq_true (by omega)


            repeat' (first | refine awp_seq_k fun K hK => ?_ | ((with_reducible refine hK _ ?_); clear hK K) | (clear hK K; (with_reducible refine hK _ ?_); clear hK K) | ((with_reducible refine aord_plain fun K hK => ?_); simp only [go_sem, Nat.reduceAdd, Nat.reduceMul, Nat.reduceEqDiff, Nat.reduceLT, reduceIte, reduceCtorEq, hN, q1, q2, nmA, Nat.reduceAdd, ifA, ifB, hN, q1, q2, mat.matL, DV.agg.injEq]) | ((with_reducible apply aord_guard); (focus (simp only [St.ev, St.set, upd, Nat.reduceEqDiff, reduceIte, ifA, ifB, hN, q1, q2, nmA, Nat.reduceAdd, ifA, ifB]; exact rfl)); all_goals (intro hb; (try simp only [Bool.not_true, Bool.not_false] at hb); first | (cases hb; done) | ((try rw [hb]); (try simp only [Bool.not_eq_true', Bool.not_eq_false', Bool.and_eq_true, dcA, dcB, dcC, dcD, dcE] at hb); (try (revert hb; with_reducible refine true_imp_iff.2 ?_)); first | (intro K hK; simp only [go_sem, Nat.reduceAdd, Nat.reduceMul, Nat.reduceEqDiff, Nat.reduceLT, reduceIte, reduceCtorEq, hN, q1, q2, nmA, Nat.reduceAdd, ifA, ifB]) | (simp only [St.ev, St.set, upd, Nat.reduceEqDiff, reduceIte, ifA, ifB, hN, q1, q2, nmA, Nat.reduceAdd, ifA, ifB]) | skip))) | refine awp_block ?_ | ((first | with_reducible refine aord_nil ?_ | refine awp_skip ?_ | refine awp_exit ?_ | refine awp_ret ?_); try simp only [rdA, Nat.reduceEqDiff, ifA, ifB, reduceIte]) | (refine awp_region tabOk rfl ?_; simp only [prep, pickO, lsA, lsB, lsC, lsD, lsE, lsF, lsG]) | ((with_reducible apply awp_cond); (focus (simp only [St.ev, St.set, upd, Nat.reduceEqDiff, reduceIte, ifA, ifB, hN, q1, q2, nmA, Nat.reduceAdd, ifA, ifB]; exact rfl)); all_goals (intro hb; first | (cases hb; done) | ((try rw [hb]); (try simp only [dcA, dcB, dcC, dcD, dcE, Bool.not_eq_true', Bool.not_eq_false'] at hb)))) | ((with_reducible refine And.intro ?_ ?_); (focus omega)) | (simp only [rBuild]; simp only [fillA, Nat.reduceLeDiff, List.getElem?_cons_zero, List.getElem?_cons_succ, List.drop_succ_cons, List.drop_nil, List.take_nil, List.cons_append, Option.isSome_some, go_sem, Nat.reduceAdd, Nat.reduceMul, Nat.reduceEqDiff, Nat.reduceLT, reduceIte, reduceCtorEq, hN, q1, q2, nmA, Nat.reduceAdd, ifA, ifB]) | (exfalso; omega) | fail)
            (refine yield_round (lp := LQ) (by first | (simp only [St.ev, St.set, upd, Nat.reduceEqDiff, reduceIte, ifA, ifB, hN, q1, q2, nmA, Nat.reduceAdd, ifA, ifB]; done) | (simp only [St.ev, St.set, upd, Nat.reduceEqDiff, reduceIte, ifA, ifB, hN, q1, q2, nmA, Nat.reduceAdd, ifA, ifB]; exact rfl)) LQ1 LQ2 (by first | exact List.mem_cons_self | exact List.mem_cons_of_mem _ List.mem_cons_self | exact List.mem_cons_of_mem _ (List.mem_cons_of_mem _ List.mem_cons_self) | exact List.mem_cons_of_mem _ (List.mem_cons_of_mem _ (List.mem_cons_of_mem _ List.mem_cons_self))) (by first | (rw [LQ3]; done) | (rw [LQ3]; rfl)) (by rw [LQ3]; decide) (fun m0 hm0 hcl hlt => ?_); rw [LQ3, LQ4, LQ5]; simp only [zipT, St.ev, St.set, upd, Nat.reduceEqDiff, reduceIte, ifA, ifB, hN, q1, q2, nmA, Nat.reduceAdd, ifA, ifB])
            repeat' (first | refine awp_seq_k fun K hK => ?_ | ((with_reducible refine hK _ ?_); clear hK K) | ((with_reducible refine aord_plain fun K hK => ?_); simp only [go_sem, Nat.reduceAdd, Nat.reduceMul, Nat.reduceEqDiff, Nat.reduceLT, reduceIte, reduceCtorEq, hN, q1, q2, nmA, Nat.reduceAdd, ifA, ifB, hN, q1, q2, mat.matL, DV.agg.injEq]) | ((with_reducible apply aord_guard); (focus (simp only [St.ev, St.set, upd, Nat.reduceEqDiff, reduceIte, ifA, ifB, hN, q1, q2, nmA, Nat.reduceAdd, ifA, ifB]; exact rfl)); all_goals (intro hb; (try simp only [Bool.not_true, Bool.not_false] at hb); first | (cases hb; done) | ((try rw [hb]); (try simp only [Bool.not_eq_true', Bool.not_eq_false', Bool.and_eq_true, dcA, dcB, dcC, dcD, dcE] at hb); (try (revert hb; with_reducible refine true_imp_iff.2 ?_)); first | (intro K hK; simp only [go_sem, Nat.reduceAdd, Nat.reduceMul, Nat.reduceEqDiff, Nat.reduceLT, reduceIte, reduceCtorEq, hN, q1, q2, nmA, Nat.reduceAdd, ifA, ifB]) | (simp only [St.ev, St.set, upd, Nat.reduceEqDiff, reduceIte, ifA, ifB, hN, q1, q2, nmA, Nat.reduceAdd, ifA, ifB]) | skip))) | refine awp_block ?_ | ((first | with_reducible refine aord_nil ?_ | refine awp_skip ?_ | refine awp_exit ?_ | refine awp_ret ?_); try simp only [rdA, Nat.reduceEqDiff, ifA, ifB, reduceIte]) | (refine awp_region tabOk rfl ?_; simp only [prep, pickO, lsA, lsB, lsC, lsD, lsE, lsF, lsG]) | ((with_reducible refine And.intro ?_ ?_); (focus (exact rfl))) | ((with_reducible refine And.intro (?_ : enters Try.prog 76) ?_); (focus exact Try.call76); (refine callX_h (callH_inline tabOk Try.func76 rfl 8 rfl [.tmp 2] rfl (Nat.le_of_ble_eq_true rfl) fun m0 hm0 hcl hlt => ?_)); simp only [initT, St.ev, St.set, upd, Nat.reduceEqDiff, reduceIte, ifA, ifB, hN, q1, q2, nmA, Nat.reduceAdd, ifA, ifB]) | (simp only [doneH]; simp only [ressK, resK, wrapR, go_sem, Nat.reduceAdd, Nat.reduceMul, Nat.reduceEqDiff, Nat.reduceLT, reduceIte, reduceCtorEq, hN, q1, q2, nmA, Nat.reduceAdd, ifA, ifB]) | (refine aStoreAll_cells (by simp only [St.ev, St.set, upd, Nat.reduceEqDiff, reduceIte, ifA, ifB, hN, q1, q2, nmA, Nat.reduceAdd, ifA, ifB]; exact rfl) ?_ ?_ ?_ ?_ ?_; (focus (first | rfl | omega | (simp; done) | (simp; omega) | (simp [szOf, tab]; done) | (simp [szOf, tab]; omega))); (focus (first | rfl | omega | (simp; done) | (simp; omega) | (simp [szOf, tab]; done) | (simp [szOf, tab]; omega))); (focus (first | rfl | omega | (simp; done) | (simp; omega) | (simp [szOf, tab]; done) | (simp [szOf, tab]; omega))); (focus (first | rfl | (simp [AV.cell, Value.oneCell']; done))); (try simp only [go_sem, Nat.reduceAdd, Nat.reduceMul, Nat.reduceEqDiff, Nat.reduceLT, reduceIte, reduceCtorEq, hN, q1, q2, nmA, Nat.reduceAdd, ifA, ifB])) | fail)
            (refine yield_round (lp := LP) (by first | (simp only [St.ev, St.set, upd, Nat.reduceEqDiff, reduceIte, ifA, ifB, hN, q1, q2, nmA, Nat.reduceAdd, ifA, ifB]; done) | (simp only [St.ev, St.set, upd, Nat.reduceEqDiff, reduceIte, ifA, ifB, hN, q1, q2, nmA, Nat.reduceAdd, ifA, ifB]; exact rfl)) LP1 LP2 (by first | exact List.mem_cons_self | exact List.mem_cons_of_mem _ List.mem_cons_self | exact List.mem_cons_of_mem _ (List.mem_cons_of_mem _ List.mem_cons_self) | exact List.mem_cons_of_mem _ (List.mem_cons_of_mem _ (List.mem_cons_of_mem _ List.mem_cons_self))) (by first | (rw [LP3]; done) | (rw [LP3]; rfl)) (by rw [LP3]; decide) (fun m0 hm0 hcl hlt => ?_); rw [LP3, LP4, LP5]; simp only [zipT, St.ev, St.set, upd, Nat.reduceEqDiff, reduceIte, ifA, ifB, hN, q1, q2, nmA, Nat.reduceAdd, ifA, ifB])
            repeat' (first | refine awp_seq_k fun K hK => ?_ | ((with_reducible refine hK _ ?_); clear hK K) | ((with_reducible refine aord_plain fun K hK => ?_); simp only [go_sem, Nat.reduceAdd, Nat.reduceMul, Nat.reduceEqDiff, Nat.reduceLT, reduceIte, reduceCtorEq, hN, q1, q2, nmA, Nat.reduceAdd, ifA, ifB, hN, q1, q2, mat.matL, DV.agg.injEq]) | refine awp_block ?_ | (refine awp_region tabOk rfl ?_; simp only [prep, pickO, lsA, lsB, lsC, lsD, lsE, lsF, lsG]) | ((with_reducible refine And.intro ?_ ?_); (focus (exact rfl))) | ((with_reducible refine And.intro (?_ : enters Try.prog 43) ?_); (focus exact Try.call43); (refine callX_satH split_sat ?_); simp only [go_sem, and_assoc, List.nil_append, List.append_nil, List.cons_append, Nat.reduceEqDiff, reduceIte, reduceCtorEq, hN, q1, q2, nmA, Nat.reduceAdd, ifA, ifB, hN, q1, q2, mat.matL, DV.agg.injEq]) | (refine aStoreAll_cells (by simp only [St.ev, St.set, upd, Nat.reduceEqDiff, reduceIte, ifA, ifB, hN, q1, q2, nmA, Nat.reduceAdd, ifA, ifB]; exact rfl) ?_ ?_ ?_ ?_ ?_; (focus (first | rfl | omega | (simp; done) | (simp; omega) | (simp [szOf, tab]; done) | (simp [szOf, tab]; omega))); (focus (first | rfl | omega | (simp; done) | (simp; omega) | (simp [szOf, tab]; done) | (simp [szOf, tab]; omega))); (focus (first | rfl | omega | (simp; done) | (simp; omega) | (simp [szOf, tab]; done) | (simp [szOf, tab]; omega))); (focus (first | rfl | (simp [AV.cell, Value.oneCell']; done))); (try simp only [go_sem, Nat.reduceAdd, Nat.reduceMul, Nat.reduceEqDiff, Nat.reduceLT, reduceIte, reduceCtorEq, hN, q1, q2, nmA, Nat.reduceAdd, ifA, ifB])) | fail)
            have hsum := part_sum hg hij hlt3
            have hl1 := hR.lt
            refine ⟨g, L, rfl, i, j, rfl, hR.keepN (by omega) (by (repeat rw [upd_ne _ _ (by omega)]); exact hfr O (by omega)) (fun m hm => by have := (hl1 m hm).1; (repeat rw [upd_ne _ _ (by omega)]); exact hfr _ (by omega)), by omega, hrw, fun H2 N2 P1 P2 g1 g2 s1 s2 s3 s4 s5 s6 s7 => ?_⟩
            have hN2 := s1.outn
            have hP2 := s2.outn
            have d0 : H2 n = some ⟨true, .cells [.val (.int .i64 d)]⟩ := by rw [s3 _ (by omega)]; (repeat rw [if_neg (by omega)]); exact c0
            have d1 : H2 (n + 1) = some ⟨true, .cells [.sl O 0 L.length 1 none]⟩ := by rw [s3 _ (by omega)]; (repeat rw [if_neg (by omega)]); exact c1
            have d2 : H2 (n + 2) = some ⟨true, .cells [.val (.func (.func 51) #[] #[])]⟩ := by rw [s3 _ (by omega)]; (repeat rw [if_neg (by omega)]); exact c2
            have d3 : H2 (n + 3) = some ⟨true, .cells [.val (.int .i64 s)]⟩ := by rw [s3 _ (by omega)]; (repeat rw [if_neg (by omega)]); exact c3
            have d4 : H2 (n + 4) = some ⟨true, .cells [.val (.int .i64 d)]⟩ := by rw [s3 _ (by omega)]; (repeat rw [if_neg (by omega)]); exact c4
            have d6 : H2 (n + 6) = some ⟨true, .cells [.val (.func (.func 76) #[] #[])]⟩ := by rw [s3 _ (by omega)]; (repeat rw [if_neg (by omega)]); exact c6
            have d8 : H2 (n + 8) = some ⟨true, .cells [.yl (n + 7)]⟩ := by rw [s3 _ (by omega)]; (repeat rw [if_neg (by omega)]); exact c8
            have hfr2 : ∀ u, u < n → H2 u = h u := fun u hu => by rw [s3 _ (by omega)]; (repeat rw [if_neg (by omega)]); exact hfr u hu
            clear s3
            have hgy := hg.filter (agB [((i : Int), (j : Int))])
            have hgn := hg.filter (agB [((j : Int), (i : Int))])
            generalize hYY : L.filter (agB [((i : Int), (j : Int))]) = Y at *
            generalize hNN : L.filter (agB [((j : Int), (i : Int))]) = NO at *
            have hskip : ¬ (0 < Y.length ∧ 0 < NO.length) → FewTo (enL) d L i (j + 1) s := fun h => hT.skip fun ⟨_, h1, h2⟩ => h (by rw [hYY] at h1; rw [hNN] at h2; exact ⟨List.length_pos_iff.2 h1, List.length_pos_iff.2 h2⟩)
            have hEnd : ∀ s2, QF h n O d L.length (.val (.func (.func 51) #[] #[])) 76 LP LQ s2 (upd (upd (upd H2 (n + 3) (some ⟨true, .cells [.val (.int .i64 s2)]⟩)) (n + 7) (some ⟨true, .raw (.loop LP)⟩)) (n + 9) (some ⟨true, .raw (.loop LQ)⟩)) N2 := fun s2 => by
              refine ⟨fun u hu => ?_, by omega, ?_, ?_, ?_, ?_, ?_, ?_, ?_, ?_, ?_⟩
              all_goals (repeat (first | rw [upd_same] | rw [upd_ne _ _ (by omega)]))
              · exact hfr2 u hu
              · exact d0
              · exact d1
              · exact d2
              · exact d4
              · exact d6
              · exact d8
            have hSame : QF h n O d L.length (.val (.func (.func 51) #[] #[])) 76 LP LQ s (upd (upd H2 (n + 7) (some ⟨true, .raw (.loop LP)⟩)) (n + 9) (some ⟨true, .raw (.loop LQ)⟩)) N2 := by
              refine ⟨fun u hu => ?_, by omega, ?_, ?_, ?_, ?_, ?_, ?_, ?_, ?_, ?_⟩
              all_goals (repeat (first | rw [upd_same] | rw [upd_ne _ _ (by omega)]))
              · exact hfr2 u hu
              · exact d0
              · exact d1
              · exact d2
              · exact d3
              · exact d4
              · exact d6
              · exact d8
            rcases Nat.eq_zero_or_pos Y.length with hy0 | hyp
            · have e1 : decide (((Y.length : Nat) : Int) > 0) = false := decide_eq_false (by omega)


              repeat' (first | refine awp_seq_k fun K hK => ?_ | ((with_reducible refine hK _ ?_); clear hK K) | ((with_reducible refine aord_plain fun K hK => ?_); simp only [go_sem, Nat.reduceAdd, Nat.reduceMul, Nat.reduceEqDiff, Nat.reduceLT, reduceIte, reduceCtorEq, d0, d1, d2, d3, d6, d8, e1, nmA, Nat.reduceAdd, ifA, ifB, d0, d1, d2, d3, d6, d8, e1, mat.matL, DV.agg.injEq]) | ((with_reducible apply aord_guard); (focus (simp only [St.ev, St.set, upd, Nat.reduceEqDiff, reduceIte, ifA, ifB, d0, d1, d2, d3, d6, d8, e1, nmA, Nat.reduceAdd, ifA, ifB]; exact rfl)); all_goals (intro hb; (try simp only [Bool.not_true, Bool.not_false] at hb); first | (cases hb; done) | ((try rw [hb]); (try simp only [Bool.not_eq_true', Bool.not_eq_false', Bool.and_eq_true, dcA, dcB, dcC, dcD, dcE] at hb); (try (revert hb; with_reducible refine true_imp_iff.2 ?_)); first | (intro K hK; simp only [go_sem, Nat.reduceAdd, Nat.reduceMul, Nat.reduceEqDiff, Nat.reduceLT, reduceIte, reduceCtorEq, d0, d1, d2, d3, d6, d8, e1, nmA, Nat.reduceAdd, ifA, ifB]) | (simp only [St.ev, St.set, upd, Nat.reduceEqDiff, reduceIte, ifA, ifB, d0, d1, d2, d3, d6, d8, e1, nmA, Nat.reduceAdd, ifA, ifB]) | skip))) | ((first | with_reducible refine aord_nil ?_ | refine awp_skip ?_ | refine awp_exit ?_ | refine awp_ret ?_); try simp only [rdA, Nat.reduceEqDiff, ifA, ifB, reduceIte]) | (refine awp_region tabOk rfl ?_; simp only [prep, pickO, lsA, lsB, lsC, lsD, lsE, lsF, lsG]) | ((with_reducible apply awp_cond); (focus (simp only [St.ev, St.set, upd, Nat.reduceEqDiff, reduceIte, ifA, ifB, d0, d1, d2, d3, d6, d8, e1, nmA, Nat.reduceAdd, ifA, ifB]; exact rfl)); all_goals (intro hb; first | (cases hb; done) | ((try rw [hb]); (try simp only [dcA, dcB, dcC, dcD, dcE, Bool.not_eq_true', Bool.not_eq_false'] at hb)))) | ((with_reducible refine And.intro ?_ ?_); (focus omega)) | ((with_reducible refine roundA_normal ?_); simp only [St.ev, St.set, upd, Nat.reduceEqDiff, reduceIte, ifA, ifB, d0, d1, d2, d3, d6, d8, e1, nmA, Nat.reduceAdd, ifA, ifB]) | fail)
              exact ⟨(upd (upd H2 (n + 7) (some ⟨true, .raw (.loop LP)⟩)) (n + 9) (some ⟨true, .raw (.loop LQ)⟩), N2, j + 1, s), ⟨by dsimp only; omega, hskip (by omega), hSame⟩, by dsimp only; omega, Wk.sub (tsd (tsd (tsd (tsd (tsd (tsd (tsd tsd0 rfl) rfl) rfl) rfl) rfl) rfl) rfl) (fun _ _ h => h) rfl⟩
            · have e1 : decide (((Y.length : Nat) : Int) > 0) = true := decide_eq_true (by omega)
              rcases Nat.eq_zero_or_pos NO.length with hn0 | hnp
              · have e2 : decide (((NO.length : Nat) : Int) > 0) = false := decide_eq_false (by omega)


                repeat' (first | refine awp_seq_k fun K hK => ?_ | ((with_reducible refine hK _ ?_); clear hK K) | ((with_reducible refine aord_plain fun K hK => ?_); simp only [go_sem, Nat.reduceAdd, Nat.reduceMul, Nat.reduceEqDiff, Nat.reduceLT, reduceIte, reduceCtorEq, d0, d1, d2, d3, d6, d8, e1, e2, nmA, Nat.reduceAdd, ifA, ifB, d0, d1, d2, d3, d6, d8, e1, e2, mat.matL, DV.agg.injEq, AV.clo.injEq, List.cons.injEq, AV.ref.injEq, and_true, true_and]) | ((with_reducible apply aord_guard); (focus (simp only [St.ev, St.set, upd, Nat.reduceEqDiff, reduceIte, ifA, ifB, d0, d1, d2, d3, d6, d8, e1, e2, nmA, Nat.reduceAdd, ifA, ifB]; exact rfl)); all_goals (intro hb; (try simp only [Bool.not_true, Bool.not_false] at hb); first | (cases hb; done) | ((try rw [hb]); (try simp only [Bool.not_eq_true', Bool.not_eq_false', Bool.and_eq_true, dcA, dcB, dcC, dcD, dcE] at hb); (try (revert hb; with_reducible refine true_imp_iff.2 ?_)); first | (intro K hK; simp only [go_sem, Nat.reduceAdd, Nat.reduceMul, Nat.reduceEqDiff, Nat.reduceLT, reduceIte, reduceCtorEq, d0, d1, d2, d3, d6, d8, e1, e2, nmA, Nat.reduceAdd, ifA, ifB]) | (simp only [St.ev, St.set, upd, Nat.reduceEqDiff, reduceIte, ifA, ifB, d0, d1, d2, d3, d6, d8, e1, e2, nmA, Nat.reduceAdd, ifA, ifB]) | skip))) | ((first | with_reducible refine aord_nil ?_ | refine awp_skip ?_ | refine awp_exit ?_ | refine awp_ret ?_); try simp only [rdA, Nat.reduceEqDiff, ifA, ifB, reduceIte]) | (refine awp_region tabOk rfl ?_; simp only [prep, pickO, lsA, lsB, lsC, lsD, lsE, lsF, lsG]) | ((with_reducible apply awp_cond); (focus (simp only [St.ev, St.set, upd, Nat.reduceEqDiff, reduceIte, ifA, ifB, d0, d1, d2, d3, d6, d8, e1, e2, nmA, Nat.reduceAdd, ifA, ifB]; exact rfl)); all_goals (intro hb; first | (cases hb; done) | ((try rw [hb]); (try simp only [dcA, dcB, dcC, dcD, dcE, Bool.not_eq_true', Bool.not_eq_false'] at hb)))) | ((with_reducible refine And.intro ?_ ?_); (focus omega)) | ((with_reducible refine roundA_normal ?_); simp only [St.ev, St.set, upd, Nat.reduceEqDiff, reduceIte, ifA, ifB, d0, d1, d2, d3, d6, d8, e1, e2, nmA, Nat.reduceAdd, ifA, ifB]) | fail)
                exact ⟨(upd (upd H2 (n + 7) (some ⟨true, .raw (.loop LP)⟩)) (n + 9) (some ⟨true, .raw (.loop LQ)⟩), N2, j + 1, s), ⟨by dsimp only; omega, hskip (by omega), hSame⟩, by dsimp only; omega, Wk.sub (tsd (tsd (tsd (tsd (tsd (tsd (tsd tsd0 rfl) rfl) rfl) rfl) rfl) rfl) rfl) (fun _ _ h => h) rfl⟩
              · have e2 : decide (((NO.length : Nat) : Int) > 0) = true := decide_eq_true (by omega)


                repeat' (first | refine awp_seq_k fun K hK => ?_ | ((with_reducible refine hK _ ?_); clear hK K) | ((with_reducible refine aord_plain fun K hK => ?_); simp only [go_sem, Nat.reduceAdd, Nat.reduceMul, Nat.reduceEqDiff, Nat.reduceLT, reduceIte, reduceCtorEq, d0, d1, d2, d3, d6, d8, e1, e2, nmA, Nat.reduceAdd, ifA, ifB, d0, d1, d2, d3, d6, d8, e1, e2, mat.matL, DV.agg.injEq, AV.clo.injEq, List.cons.injEq, AV.ref.injEq, and_true, true_and]) | ((with_reducible apply aord_guard); (focus (simp only [St.ev, St.set, upd, Nat.reduceEqDiff, reduceIte, ifA, ifB, d0, d1, d2, d3, d6, d8, e1, e2, nmA, Nat.reduceAdd, ifA, ifB]; exact rfl)); all_goals (intro hb; (try simp only [Bool.not_true, Bool.not_false] at hb); first | (cases hb; done) | ((try rw [hb]); (try simp only [Bool.not_eq_true', Bool.not_eq_false', Bool.and_eq_true, dcA, dcB, dcC, dcD, dcE] at hb); (try (revert hb; with_reducible refine true_imp_iff.2 ?_)); first | (intro K hK; simp only [go_sem, Nat.reduceAdd, Nat.reduceMul, Nat.reduceEqDiff, Nat.reduceLT, reduceIte, reduceCtorEq, d0, d1, d2, d3, d6, d8, e1, e2, nmA, Nat.reduceAdd, ifA, ifB]) | (simp only [St.ev, St.set, upd, Nat.reduceEqDiff, reduceIte, ifA, ifB, d0, d1, d2, d3, d6, d8, e1, e2, nmA, Nat.reduceAdd, ifA, ifB]) | skip))) | ((first | with_reducible refine aord_nil ?_ | refine awp_skip ?_ | refine awp_exit ?_ | refine awp_ret ?_); try simp only [rdA, Nat.reduceEqDiff, ifA, ifB, reduceIte]) | (refine awp_region tabOk rfl ?_; simp only [prep, pickO, lsA, lsB, lsC, lsD, lsE, lsF, lsG]) | (refine awp_region_tree (nt := 48) (id := 8) tabOk (.quiet 0 false (.quiet 1 false (.quiet 2 false (.quiet 5 false (.one 3 true (.quiet 4 false (.quiet 6 false (.one 7 true (.quiet 8 false (.quiet 9 false .leaf)) .stop))) (.one 4 false (.one 3 true (.quiet 6 false (.one 7 true (.quiet 8 false (.quiet 9 false .leaf)) .stop)) (.one 6 false (.one 3 true (.one 7 true (.quiet 8 false (.quiet 9 false .leaf)) .stop) .stop) .stop)) (.one 6 false (.one 3 true (.quiet 4 false (.one 7 true (.quiet 8 false (.quiet 9 false .leaf)) .stop)) (.one 4 false (.one 3 true (.one 7 true (.quiet 8 false (.quiet 9 false .leaf)) .stop) .stop) .stop)) .stop))))))) (by kernel_rfl) rfl (by kernel_rfl) ?_; simp only [aordT]) | ((with_reducible refine aordT_plain rfl (fun K hK => ?_)); simp only [go_sem, Nat.reduceAdd, Nat.reduceMul, Nat.reduceEqDiff, Nat.reduceLT, reduceIte, reduceCtorEq, d0, d1, d2, d3, d6, d8, e1, e2, nmA, Nat.reduceAdd, ifA, ifB, d0, d1, d2, d3, d6, d8, e1, e2, mat.matL, DV.agg.injEq, AV.clo.injEq, List.cons.injEq, AV.ref.injEq, and_true, true_and]) | ((with_reducible refine both ?_ ?_)) | (simp only [aordT]; try simp only [rdA, Nat.reduceEqDiff, ifA, ifB, reduceIte]) | ((with_reducible apply awp_cond); (focus (simp only [St.ev, St.set, upd, Nat.reduceEqDiff, reduceIte, ifA, ifB, d0, d1, d2, d3, d6, d8, e1, e2, nmA, Nat.reduceAdd, ifA, ifB]; exact rfl)); all_goals (intro hb; first | (cases hb; done) | ((try rw [hb]); (try simp only [dcA, dcB, dcC, dcD, dcE, Bool.not_eq_true', Bool.not_eq_false'] at hb)))) | ((with_reducible refine And.intro (?_ : enters Try.prog 50) ?_); (focus exact Try.call50); (refine callX_satH ih ?_); simp only [go_sem, and_assoc, List.nil_append, List.append_nil, List.cons_append, Nat.reduceEqDiff, reduceIte, reduceCtorEq, d0, d1, d2, d3, d6, d8, e1, e2, nmA, Nat.reduceAdd, ifA, ifB, d0, d1, d2, d3, d6, d8, e1, e2, mat.matL, DV.agg.injEq, AV.clo.injEq, List.cons.injEq, AV.ref.injEq, and_true, true_and]) | fail)
                all_goals (
                  refine ⟨d, rfl, g1, Y, rfl, s1, hgy, hd5, by omega, by omega, fun v N3 hv hvl hN3 => ?_⟩
                  have s2k : RowsOf H2 N3 P2 g2 NO := s2.keepN hN3 rfl (fun _ _ => rfl))


                repeat' (first | ((with_reducible refine hK _ ?_); clear hK K) | ((with_reducible refine aordT_plain rfl (fun K hK => ?_)); simp only [go_sem, Nat.reduceAdd, Nat.reduceMul, Nat.reduceEqDiff, Nat.reduceLT, reduceIte, reduceCtorEq, d0, d1, d2, d3, d6, d8, e1, e2, nmA, Nat.reduceAdd, ifA, ifB, d0, d1, d2, d3, d6, d8, e1, e2, mat.matL, DV.agg.injEq, AV.clo.injEq, List.cons.injEq, AV.ref.injEq, and_true, true_and]) | ((with_reducible refine both ?_ ?_)) | (simp only [aordT]; try simp only [rdA, Nat.reduceEqDiff, ifA, ifB, reduceIte]) | ((with_reducible refine And.intro (?_ : enters Try.prog 50) ?_); (focus exact Try.call50); (refine callX_satH ih ?_); simp only [go_sem, and_assoc, List.nil_append, List.append_nil, List.cons_append, Nat.reduceEqDiff, reduceIte, reduceCtorEq, d0, d1, d2, d3, d6, d8, e1, e2, nmA, Nat.reduceAdd, ifA, ifB, d0, d1, d2, d3, d6, d8, e1, e2, mat.matL, DV.agg.injEq, AV.clo.injEq, List.cons.injEq, AV.ref.injEq, and_true, true_and]) | fail)
                all_goals (
                  refine ⟨d, rfl, g2, NO, rfl, s2k, hgn, hd5, by omega, by omega, fun w N4 hw hwl hN4 => ?_⟩
                  have hstep : FewTo (enL) d L i (j + 1) (min s (1 + max v w)) := hT.step hij hlt3 (by rw [hYY]; exact List.length_pos_iff.1 hyp) (by rw [hNN]; exact List.length_pos_iff.1 hnp) (by rw [hYY]; exact hv) (by rw [hNN]; exact hw)
                  have hcast : min (s : Int) (1 + max (v : Int) (w : Int)) = ((min s (1 + max v w) : Nat) : Int) := by omega)


                repeat' (first | ((with_reducible refine hK _ ?_); clear hK K) | ((with_reducible refine aord_plain fun K hK => ?_); simp only [go_sem, Nat.reduceAdd, Nat.reduceMul, Nat.reduceEqDiff, Nat.reduceLT, reduceIte, reduceCtorEq, d0, d1, d2, d3, d6, d8, nmA, Nat.reduceAdd, ifA, ifB, d0, d1, d2, d3, d6, d8, hcast, mat.matL, DV.agg.injEq]) | ((with_reducible apply aord_guard); (focus (simp only [St.ev, St.set, upd, Nat.reduceEqDiff, reduceIte, ifA, ifB, d0, d1, d2, d3, d6, d8, nmA, Nat.reduceAdd, ifA, ifB]; exact rfl)); all_goals (intro hb; (try simp only [Bool.not_true, Bool.not_false] at hb); first | (cases hb; done) | ((try rw [hb]); (try simp only [Bool.not_eq_true', Bool.not_eq_false', Bool.and_eq_true, dcA, dcB, dcC, dcD, dcE] at hb); (try (revert hb; with_reducible refine true_imp_iff.2 ?_)); first | (intro K hK; simp only [go_sem, Nat.reduceAdd, Nat.reduceMul, Nat.reduceEqDiff, Nat.reduceLT, reduceIte, reduceCtorEq, d0, d1, d2, d3, d6, d8, nmA, Nat.reduceAdd, ifA, ifB]) | (simp only [St.ev, St.set, upd, Nat.reduceEqDiff, reduceIte, ifA, ifB, d0, d1, d2, d3, d6, d8, nmA, Nat.reduceAdd, ifA, ifB]) | skip))) | ((first | with_reducible refine aord_nil ?_ | refine awp_skip ?_ | refine awp_exit ?_ | refine awp_ret ?_); try simp only [rdA, Nat.reduceEqDiff, ifA, ifB, reduceIte]) | (refine awp_region tabOk rfl ?_; simp only [prep, pickO, lsA, lsB, lsC, lsD, lsE, lsF, lsG]) | ((with_reducible refine aordT_plain rfl (fun K hK => ?_)); simp only [go_sem, Nat.reduceAdd, Nat.reduceMul, Nat.reduceEqDiff, Nat.reduceLT, reduceIte, reduceCtorEq, d0, d1, d2, d3, d6, d8, nmA, Nat.reduceAdd, ifA, ifB, d0, d1, d2, d3, d6, d8, hcast, mat.matL, DV.agg.injEq]) | (simp only [rdA, Nat.reduceEqDiff, ifA, ifB, reduceIte]) | ((with_reducible apply awp_cond); (focus (simp only [St.ev, St.set, upd, Nat.reduceEqDiff, reduceIte, ifA, ifB, d0, d1, d2, d3, d6, d8, nmA, Nat.reduceAdd, ifA, ifB]; exact rfl)); all_goals (intro hb; first | (cases hb; done) | ((try rw [hb]); (try simp only [dcA, dcB, dcC, dcD, dcE, Bool.not_eq_true', Bool.not_eq_false'] at hb)))) | ((with_reducible refine And.intro ?_ ?_); (focus omega)) | ((with_reducible refine roundA_normal ?_); simp only [St.ev, St.set, upd, Nat.reduceEqDiff, reduceIte, ifA, ifB, d0, d1, d2, d3, d6, d8, nmA, Nat.reduceAdd, ifA, ifB]) | fail)
                all_goals exact ⟨(upd (upd (upd H2 (n + 3) (some ⟨true, .cells [.val (.int .i64 ((min s (1 + max v w) : Nat) : Int))]⟩)) (n + 7) (some ⟨true, .raw (.loop LP)⟩)) (n + 9) (some ⟨true, .raw (.loop LQ)⟩), N4, j + 1, min s (1 + max v w)), ⟨by dsimp only; omega, hstep, (hEnd _).up (by dsimp only; omega) (fun _ _ => rfl)⟩, by dsimp only; omega, Wk.sub (tsd (tsd (tsd (tsd (tsd (tsd (tsd tsd0 rfl) rfl) rfl) rfl) rfl) rfl) rfl) (fun _ _ h => h) rfl⟩
          · have q1 : ((i : Int) != (j : Int)) = false := by rw [hij]; exact bne_self_eq_false _


            repeat' (first | refine awp_seq_k fun K hK => ?_ | ((with_reducible refine hK _ ?_); clear hK K) | (clear hK K; (with_reducible refine hK _ ?_); clear hK K) | ((with_reducible refine aord_plain fun K hK => ?_); simp only [go_sem, Nat.reduceAdd, Nat.reduceMul, Nat.reduceEqDiff, Nat.reduceLT, reduceIte, reduceCtorEq, hN, q1, nmA, Nat.reduceAdd, ifA, ifB, hN, q1, mat.matL, DV.agg.injEq]) | ((with_reducible apply aord_guard); (focus (simp only [St.ev, St.set, upd, Nat.reduceEqDiff, reduceIte, ifA, ifB, hN, q1, nmA, Nat.reduceAdd, ifA, ifB]; exact rfl)); all_goals (intro hb; (try simp only [Bool.not_true, Bool.not_false] at hb); first | (cases hb; done) | ((try rw [hb]); (try simp only [Bool.not_eq_true', Bool.not_eq_false', Bool.and_eq_true, dcA, dcB, dcC, dcD, dcE] at hb); (try (revert hb; with_reducible refine true_imp_iff.2 ?_)); first | (intro K hK; simp only [go_sem, Nat.reduceAdd, Nat.reduceMul, Nat.reduceEqDiff, Nat.reduceLT, reduceIte, reduceCtorEq, hN, q1, nmA, Nat.reduceAdd, ifA, ifB]) | (simp only [St.ev, St.set, upd, Nat.reduceEqDiff, reduceIte, ifA, ifB, hN, q1, nmA, Nat.reduceAdd, ifA, ifB]) | skip))) | refine awp_block ?_ | ((first | with_reducible refine aord_nil ?_ | refine awp_skip ?_ | refine awp_exit ?_ | refine awp_ret ?_); try simp only [rdA, Nat.reduceEqDiff, ifA, ifB, reduceIte]) | (refine awp_region tabOk rfl ?_; simp only [prep, pickO, lsA, lsB, lsC, lsD, lsE, lsF, lsG]) | ((with_reducible apply awp_cond); (focus (simp only [St.ev, St.set, upd, Nat.reduceEqDiff, reduceIte, ifA, ifB, hN, q1, nmA, Nat.reduceAdd, ifA, ifB]; exact rfl)); all_goals (intro hb; first | (cases hb; done) | ((try rw [hb]); (try simp only [dcA, dcB, dcC, dcD, dcE, Bool.not_eq_true', Bool.not_eq_false'] at hb)))) | ((with_reducible refine And.intro ?_ ?_); (focus omega)) | (exfalso; omega) | fail)
            exact ⟨(G, M, j + 1, s), ⟨by dsimp only; omega, hT.skip (fun h => by omega), hI⟩, by dsimp only; omega, Wk.sub (tsd (tsd (tsd (tsd (tsd (tsd (tsd tsd0 rfl) rfl) rfl) rfl) rfl) rfl) rfl) (fun _ _ h => h) rfl⟩
          · have q1 : ((i : Int) != (j : Int)) = true := bne_iff_ne.2 (by omega)
            have q2 : decide ((i : Int) < (j : Int)) = false := decide_eq_false (by omega)


            repeat' (first | refine awp_seq_k fun K hK => ?_ | ((with_reducible refine hK _ ?_); clear hK K) | (clear hK K; (with_reducible refine hK _ ?_); clear hK K) | ((with_reducible refine aord_plain fun K hK => ?_); simp only [go_sem, Nat.reduceAdd, Nat.reduceMul, Nat.reduceEqDiff, Nat.reduceLT, reduceIte, reduceCtorEq, hN, q1, q2, nmA, Nat.reduceAdd, ifA, ifB, hN, q1, q2, mat.matL, DV.agg.injEq]) | ((with_reducible apply aord_guard); (focus (simp only [St.ev, St.set, upd, Nat.reduceEqDiff, reduceIte, ifA, ifB, hN, q1, q2, nmA, Nat.reduceAdd, ifA, ifB]; exact rfl)); all_goals (intro hb; (try simp only [Bool.not_true, Bool.not_false] at hb); first | (cases hb; done) | ((try rw [hb]); (try simp only [Bool.not_eq_true', Bool.not_eq_false', Bool.and_eq_true, dcA, dcB, dcC, dcD, dcE] at hb); (try (revert hb; with_reducible refine true_imp_iff.2 ?_)); first | (intro K hK; simp only [go_sem, Nat.reduceAdd, Nat.reduceMul, Nat.reduceEqDiff, Nat.reduceLT, reduceIte, reduceCtorEq, hN, q1, q2, nmA, Nat.reduceAdd, ifA, ifB]) | (simp only [St.ev, St.set, upd, Nat.reduceEqDiff, reduceIte, ifA, ifB, hN, q1, q2, nmA, Nat.reduceAdd, ifA, ifB]) | skip))) | refine awp_block ?_ | ((first | with_reducible refine aord_nil ?_ | refine awp_skip ?_ | refine awp_exit ?_ | refine awp_ret ?_); try simp only [rdA, Nat.reduceEqDiff, ifA, ifB, reduceIte]) | (refine awp_region tabOk rfl ?_; simp only [prep, pickO, lsA, lsB, lsC, lsD, lsE, lsF, lsG]) | ((with_reducible apply awp_cond); (focus (simp only [St.ev, St.set, upd, Nat.reduceEqDiff, reduceIte, ifA, ifB, hN, q1, q2, nmA, Nat.reduceAdd, ifA, ifB]; exact rfl)); all_goals (intro hb; first | (cases hb; done) | ((try rw [hb]); (try simp only [dcA, dcB, dcC, dcD, dcE, Bool.not_eq_true', Bool.not_eq_false'] at hb)))) | ((with_reducible refine And.intro ?_ ?_); (focus omega)) | (simp only [rBuild]; simp only [fillA, Nat.reduceLeDiff, List.getElem?_cons_zero, List.getElem?_cons_succ, List.drop_succ_cons, List.drop_nil, List.take_nil, List.cons_append, Option.isSome_some, go_sem, Nat.reduceAdd, Nat.reduceMul, Nat.reduceEqDiff, Nat.reduceLT, reduceIte, reduceCtorEq, hN, q1, q2, nmA, Nat.reduceAdd, ifA, ifB]) | (exfalso; omega) | fail)
            (refine yield_round (lp := LQ) (by first | (simp only [St.ev, St.set, upd, Nat.reduceEqDiff, reduceIte, ifA, ifB, hN, q1, q2, nmA, Nat.reduceAdd, ifA, ifB]; done) | (simp only [St.ev, St.set, upd, Nat.reduceEqDiff, reduceIte, ifA, ifB, hN, q1, q2, nmA, Nat.reduceAdd, ifA, ifB]; exact rfl)) LQ1 LQ2 (by first | exact List.mem_cons_self | exact List.mem_cons_of_mem _ List.mem_cons_self | exact List.mem_cons_of_mem _ (List.mem_cons_of_mem _ List.mem_cons_self) | exact List.mem_cons_of_mem _ (List.mem_cons_of_mem _ (List.mem_cons_of_mem _ List.mem_cons_self))) (by first | (rw [LQ3]; done) | (rw [LQ3]; rfl)) (by rw [LQ3]; decide) (fun m0 hm0 hcl hlt => ?_); rw [LQ3, LQ4, LQ5]; simp only [zipT, St.ev, St.set, upd, Nat.reduceEqDiff, reduceIte, ifA, ifB, hN, q1, q2, nmA, Nat.reduceAdd, ifA, ifB])
            repeat' (first | refine awp_seq_k fun K hK => ?_ | ((with_reducible refine hK _ ?_); clear hK K) | ((with_reducible refine aord_plain fun K hK => ?_); simp only [go_sem, Nat.reduceAdd, Nat.reduceMul, Nat.reduceEqDiff, Nat.reduceLT, reduceIte, reduceCtorEq, hN, q1, q2, nmA, Nat.reduceAdd, ifA, ifB, hN, q1, q2, mat.matL, DV.agg.injEq]) | ((with_reducible apply aord_guard); (focus (simp only [St.ev, St.set, upd, Nat.reduceEqDiff, reduceIte, ifA, ifB, hN, q1, q2, nmA, Nat.reduceAdd, ifA, ifB]; exact rfl)); all_goals (intro hb; (try simp only [Bool.not_true, Bool.not_false] at hb); first | (cases hb; done) | ((try rw [hb]); (try simp only [Bool.not_eq_true', Bool.not_eq_false', Bool.and_eq_true, dcA, dcB, dcC, dcD, dcE] at hb); (try (revert hb; with_reducible refine true_imp_iff.2 ?_)); first | (intro K hK; simp only [go_sem, Nat.reduceAdd, Nat.reduceMul, Nat.reduceEqDiff, Nat.reduceLT, reduceIte, reduceCtorEq, hN, q1, q2, nmA, Nat.reduceAdd, ifA, ifB]) | (simp only [St.ev, St.set, upd, Nat.reduceEqDiff, reduceIte, ifA, ifB, hN, q1, q2, nmA, Nat.reduceAdd, ifA, ifB]) | skip))) | refine awp_block ?_ | ((first | with_reducible refine aord_nil ?_ | refine awp_skip ?_ | refine awp_exit ?_ | refine awp_ret ?_); try simp only [rdA, Nat.reduceEqDiff, ifA, ifB, reduceIte]) | (refine awp_region tabOk rfl ?_; simp only [prep, pickO, lsA, lsB, lsC, lsD, lsE, lsF, lsG]) | ((with_reducible apply awp_cond); (focus (simp only [St.ev, St.set, upd, Nat.reduceEqDiff, reduceIte, ifA, ifB, hN, q1, q2, nmA, Nat.reduceAdd, ifA, ifB]; exact rfl)); all_goals (intro hb; first | (cases hb; done) | ((try rw [hb]); (try simp only [dcA, dcB, dcC, dcD, dcE, Bool.not_eq_true', Bool.not_eq_false'] at hb)))) | ((with_reducible refine And.intro ?_ ?_); (focus omega)) | ((with_reducible refine And.intro ?_ ?_); (focus (exact rfl))) | ((with_reducible refine And.intro (?_ : enters Try.prog 76) ?_); (focus exact Try.call76); (refine callX_h (callH_inline tabOk Try.func76 rfl 8 rfl [.tmp 2] rfl (Nat.le_of_ble_eq_true rfl) fun m0 hm0 hcl hlt => ?_)); simp only [initT, St.ev, St.set, upd, Nat.reduceEqDiff, reduceIte, ifA, ifB, hN, q1, q2, nmA, Nat.reduceAdd, ifA, ifB]) | (simp only [doneH]; simp only [ressK, resK, wrapR, go_sem, Nat.reduceAdd, Nat.reduceMul, Nat.reduceEqDiff, Nat.reduceLT, reduceIte, reduceCtorEq, hN, q1, q2, nmA, Nat.reduceAdd, ifA, ifB]) | (refine aStoreAll_cells (by simp only [St.ev, St.set, upd, Nat.reduceEqDiff, reduceIte, ifA, ifB, hN, q1, q2, nmA, Nat.reduceAdd, ifA, ifB]; exact rfl) ?_ ?_ ?_ ?_ ?_; (focus (first | rfl | omega | (simp; done) | (simp; omega) | (simp [szOf, tab]; done) | (simp [szOf, tab]; omega))); (focus (first | rfl | omega | (simp; done) | (simp; omega) | (simp [szOf, tab]; done) | (simp [szOf, tab]; omega))); (focus (first | rfl | omega | (simp; done) | (simp; omega) | (simp [szOf, tab]; done) | (simp [szOf, tab]; omega))); (focus (first | rfl | (simp [AV.cell, Value.oneCell']; done))); (try simp only [go_sem, Nat.reduceAdd, Nat.reduceMul, Nat.reduceEqDiff, Nat.reduceLT, reduceIte, reduceCtorEq, hN, q1, q2, nmA, Nat.reduceAdd, ifA, ifB])) | ((with_reducible refine roundA_normal ?_); simp only [St.ev, St.set, upd, Nat.reduceEqDiff, reduceIte, ifA, ifB, hN, q1, q2, nmA, Nat.reduceAdd, ifA, ifB]) | fail)
            refine ⟨((upd (upd (upd (upd (upd G (n + 9) none) M (some ⟨true, .cells [.val (.int .i64 0), .val (.int .i64 0)]⟩)) M (some ⟨true, .cells [.val (.int .i64 i), .val (.int .i64 j)]⟩)) (M + 1) (some ⟨true, .cells [.val (.int .i64 i), .val (.int .i64 j)]⟩)) (n + 9) (some ⟨true, .raw (.loop LQ)⟩)), M + 2, j + 1, s), ⟨by dsimp only; omega, hT.skip (fun h => by omega), ?_⟩, by dsimp only; omega, Wk.sub (tsd (tsd (tsd (tsd (tsd (tsd (tsd tsd0 rfl) rfl) rfl) rfl) rfl) rfl) rfl) (fun _ _ h => h) rfl⟩
            dsimp only
            refine hI.up (by omega) fun u hu => ?_
            by_cases e : u = n + 9
            · subst e; rw [upd_same]; exact c9.symm
            · rw [upd_ne _ _ e, upd_ne _ _ (by omega), upd_ne _ _ (by omega), upd_ne _ _ (by omega), upd_ne _ _ e]
        · have ej : d = j := by omega
          subst ej


          repeat' (first | refine awp_seq_k fun K hK => ?_ | ((with_reducible refine hK _ ?_); clear hK K) | (clear hK K; (with_reducible refine hK _ ?_); clear hK K) | ((with_reducible refine aord_plain fun K hK => ?_); simp only [go_sem, Nat.reduceAdd, Nat.reduceMul, Nat.reduceEqDiff, Nat.reduceLT, reduceIte, reduceCtorEq, mz, nmA, Nat.reduceAdd, ifA, ifB, mat.matL, DV.agg.injEq]) | ((with_reducible apply aord_guard); (focus (simp only [St.ev, St.set, upd, Nat.reduceEqDiff, reduceIte, ifA, ifB, mz, nmA, Nat.reduceAdd, ifA, ifB]; exact rfl)); all_goals (intro hb; (try simp only [Bool.not_true, Bool.not_false] at hb); first | (cases hb; done) | ((try rw [hb]); (try simp only [Bool.not_eq_true', Bool.not_eq_false', Bool.and_eq_true, dcA, dcB, dcC, dcD, dcE] at hb); (try (revert hb; with_reducible refine true_imp_iff.2 ?_)); first | (intro K hK; simp only [go_sem, Nat.reduceAdd, Nat.reduceMul, Nat.reduceEqDiff, Nat.reduceLT, reduceIte, reduceCtorEq, mz, nmA, Nat.reduceAdd, ifA, ifB]) | (simp only [St.ev, St.set, upd, Nat.reduceEqDiff, reduceIte, ifA, ifB, mz, nmA, Nat.reduceAdd, ifA, ifB]) | skip))) | refine awp_block ?_ | ((first | with_reducible refine aord_nil ?_ | refine awp_skip ?_ | refine awp_exit ?_ | refine awp_ret ?_); try simp only [rdA, Nat.reduceEqDiff, ifA, ifB, reduceIte]) | (refine awp_region tabOk rfl ?_; simp only [prep, pickO, lsA, lsB, lsC, lsD, lsE, lsF, lsG]) | ((with_reducible apply awp_cond); (focus (simp only [St.ev, St.set, upd, Nat.reduceEqDiff, reduceIte, ifA, ifB, mz, nmA, Nat.reduceAdd, ifA, ifB]; exact rfl)); all_goals (intro hb; first | (cases hb; done) | ((try rw [hb]); (try simp only [dcA, dcB, dcC, dcD, dcE, Bool.not_eq_true', Bool.not_eq_false'] at hb)))) | ((with_reducible refine And.intro ?_ ?_); (focus omega)) | (simp only [rBuild]; simp only [fillA, Nat.reduceLeDiff, List.getElem?_cons_zero, List.getElem?_cons_succ, List.drop_succ_cons, List.drop_nil, List.take_nil, List.cons_append, Option.isSome_some, go_sem, Nat.reduceAdd, Nat.reduceMul, Nat.reduceEqDiff, Nat.reduceLT, reduceIte, reduceCtorEq, mz, nmA, Nat.reduceAdd, ifA, ifB]) | (exfalso; omega) | fail)
          exact ⟨(G, M, i + 1, s), ⟨by dsimp only; omega, hT.row, hI⟩, by dsimp only; omega, Wk.sub (tsd (tsd (tsd (tsd tsd0 rfl) rfl) rfl) rfl) (fun _ _ h => h) rfl⟩
      · have ei : d = i := by omega
        subst ei
        have c3 := hI.c3
        have c7 := hI.c7
        have c9 := hI.c9
        have hdone := hT.done hg kinds_few hen
        have hsle := hT.le


        repeat' ((fail_if_success (with_reducible refine isRetQ ?_)); (first | refine awp_seq_k fun K hK => ?_ | ((with_reducible refine hK _ ?_); clear hK K) | (clear hK K; (with_reducible refine hK _ ?_); clear hK K) | ((with_reducible refine aord_plain fun K hK => ?_); simp only [go_sem, Nat.reduceAdd, Nat.reduceMul, Nat.reduceEqDiff, Nat.reduceLT, reduceIte, reduceCtorEq, c3, c7, c9, nmA, Nat.reduceAdd, ifA, ifB, c3, c7, c9, mat.matL, DV.agg.injEq]) | refine awp_block ?_ | ((first | with_reducible refine aord_nil ?_ | refine awp_skip ?_ | refine awp_exit ?_ | refine awp_ret ?_); try simp only [rdA, Nat.reduceEqDiff, ifA, ifB, reduceIte]) | (refine awp_region tabOk rfl ?_; simp only [prep, pickO, lsA, lsB, lsC, lsD, lsE, lsF, lsG]) | ((with_reducible apply awp_cond); (focus (simp only [St.ev, St.set, upd, Nat.reduceEqDiff, reduceIte, ifA, ifB, c3, c7, c9, nmA, Nat.reduceAdd, ifA, ifB]; exact rfl)); all_goals (intro hb; first | (cases hb; done) | ((try rw [hb]); (try simp only [dcA, dcB, dcC, dcD, dcE, Bool.not_eq_true', Bool.not_eq_false'] at hb)))) | (simp only [doneH]; simp only [ressK, resK, wrapR, go_sem, Nat.reduceAdd, Nat.reduceMul, Nat.reduceEqDiff, Nat.reduceLT, reduceIte, reduceCtorEq, c3, c7, c9, nmA, Nat.reduceAdd, ifA, ifB]) | ((with_reducible apply endA_go); (focus (simp only [St.ev, St.set, upd, Nat.reduceEqDiff, reduceIte, ifA, ifB, c3, c7, c9, nmA, Nat.reduceAdd, ifA, ifB]; exact rfl)); (focus assumption); (focus assumption); (try simp only [rdA, Nat.reduceEqDiff, ifA, ifB, reduceIte])) | (exfalso; omega) | fail))
        have hmn := hI.mn
        have hfr := hI.fr
        refine awp_weaken (s' := ⟨upd bot 6 (.val (.int .i64 s)), h, M⟩) (Wk.sub (tsd tsd0 rfl) (fun o ob ho => by have := (hclO o _ ho).1; dsimp only; (repeat rw [upd_ne _ _ (by omega)]); rw [hfr o (by omega)]; exact ho) rfl) ?_
        repeat' (first | ((first | with_reducible refine aord_nil ?_ | refine awp_skip ?_ | refine awp_exit ?_ | refine awp_ret ?_); try simp only [rdA, Nat.reduceEqDiff, ifA, ifB, reduceIte]) | (simp only [doneH]; simp only [ressK, resK, wrapR, go_sem, Nat.reduceAdd, Nat.reduceMul, Nat.reduceEqDiff, Nat.reduceLT, reduceIte, reduceCtorEq, c3, c7, c9, nmA, Nat.reduceAdd, ifA, ifB]) | fail)
        exact hQ s M hdone hsle (by omega)

theorem orO_good {d : Nat} {fs : List (Int × Int)} (h : VF d fs) : GoodL d (orO d fs) := ⟨by rw [orO_ag h]; exact (ordK_nodup (by have := h.1; omega)).filter _, fun _ hp => orO_beg h hp⟩
/-- LeastAsks' answer, PickAsks' answer. -/
noncomputable def leA (z : Int) (fs : List (Int × Int)) : Int := by classical exact if VF z fs ∧ z ≤ 4 then ((fewV enL z.toNat (orO z fs) : Nat) : Int) else -1
theorem leA_yes {d : Nat} {fs : List (Int × Int)} (h : VF d fs) (h4 : d ≤ 4) : leA d fs = ((fewV enL d (orO d fs) : Nat) : Int) := by unfold leA; rw [if_pos ⟨h, by omega⟩]; rfl
theorem leA_no {z : Int} {fs : List (Int × Int)} (h : ¬ (VF z fs ∧ z ≤ 4)) : leA z fs = -1 := by unfold leA; rw [if_neg h]
noncomputable def piA (z : Int) (fs : List (Int × Int)) (k : Int) : Int := by classical exact if VF z fs ∧ z ≤ 4 ∧ 0 ≤ k ∧ k < z then ((fewV (enK k.toNat) z.toNat (orO z fs) : Nat) : Int) else -1
theorem piA_yes {d k : Nat} {fs : List (Int × Int)} (h : VF d fs) (h4 : d ≤ 4) (hk : k < d) : piA d fs k = ((fewV (enK k) d (orO d fs) : Nat) : Int) := by unfold piA; rw [if_pos ⟨h, by omega, by omega, by omega⟩]; rfl
theorem piA_no {z k : Int} {fs : List (Int × Int)} (h : ¬ (VF z fs ∧ z ≤ 4 ∧ 0 ≤ k ∧ k < z)) : piA z fs k = -1 := by unfold piA; rw [if_neg h]


theorem implLeastAsks_sat : SatH Try.prog 17 (fun al h n K => ∃ (z : Int) (A : Nat) (b : Bool) (fs : List (Int × Int)), al = [.val (.int .i64 (z)), .sl A 0 fs.length 2 none] ∧ (h A = some ⟨b, .ints .i64 (flF fs)⟩) ∧ (fs.length ≤ 1099511627776) ∧ ∀ N : Nat, n ≤ N → K (.val (.int .i64 ((leA z fs)))) (h) (N)) := by
  refine satH_intro tabOk Try.func17 rfl 18 rfl [.tmp 4] rfl ?_
  rintro F W h n al K0 ⟨z, A, b, fs, rfl, hA, hl, hQ⟩
  refine ⟨Nat.le_of_ble_eq_true rfl, fun m0 hm0 hcl hlt => ?_⟩
  simp only [initT]
  have hAn := (hcl A _ hA).1
  have hfew := few_L_sat 120
  rcases Int.lt_or_le 4 z with h4 | h4
  · have e1 : decide (z > 4) = true := decide_eq_true h4
    rw [leA_no (fun h => by omega)] at hQ


    repeat' (first | refine awp_seq_k fun K hK => ?_ | ((with_reducible refine hK _ ?_); clear hK K) | ((with_reducible refine aord_plain fun K hK => ?_); simp only [go_sem, Nat.reduceAdd, Nat.reduceMul, Nat.reduceEqDiff, Nat.reduceLT, reduceIte, reduceCtorEq, hA, e1, nmA, Nat.reduceAdd, ifA, ifB, hA, e1]) | ((with_reducible apply aord_guard); (focus (simp only [St.ev, St.set, upd, Nat.reduceEqDiff, reduceIte, ifA, ifB, hA, e1, nmA, Nat.reduceAdd, ifA, ifB]; exact rfl)); all_goals (intro hb; (try simp only [Bool.not_true, Bool.not_false] at hb); first | (cases hb; done) | ((try rw [hb]); (try simp only [Bool.not_eq_true', Bool.not_eq_false', Bool.and_eq_true, dcA, dcB, dcC, dcD, dcE] at hb); (try (revert hb; with_reducible refine true_imp_iff.2 ?_)); first | (intro K hK; simp only [go_sem, Nat.reduceAdd, Nat.reduceMul, Nat.reduceEqDiff, Nat.reduceLT, reduceIte, reduceCtorEq, hA, e1, nmA, Nat.reduceAdd, ifA, ifB]) | (simp only [St.ev, St.set, upd, Nat.reduceEqDiff, reduceIte, ifA, ifB, hA, e1, nmA, Nat.reduceAdd, ifA, ifB]) | skip))) | ((first | with_reducible refine aord_nil ?_ | refine awp_skip ?_ | refine awp_exit ?_ | refine awp_ret ?_); try simp only [rdA, Nat.reduceEqDiff, ifA, ifB, reduceIte]) | (refine awp_region tabOk rfl ?_; simp only [prep, pickO, lsA, lsB, lsC, lsD, lsE, lsF, lsG]) | ((with_reducible apply awp_cond); (focus (simp only [St.ev, St.set, upd, Nat.reduceEqDiff, reduceIte, ifA, ifB, hA, e1, nmA, Nat.reduceAdd, ifA, ifB]; exact rfl)); all_goals (intro hb; first | (cases hb; done) | ((try rw [hb]); (try simp only [dcA, dcB, dcC, dcD, dcE, Bool.not_eq_true', Bool.not_eq_false'] at hb)))) | (simp only [doneH]; simp only [ressK, resK, wrapR, go_sem, Nat.reduceAdd, Nat.reduceMul, Nat.reduceEqDiff, Nat.reduceLT, reduceIte, reduceCtorEq, hA, e1, nmA, Nat.reduceAdd, ifA, ifB]) | fail)
    exact hQ n (Nat.le_refl _)
  · have e1 : decide (z > 4) = false := decide_eq_false (by omega)


    repeat' ((fail_if_success (with_reducible refine isRetQ ?_)); (first | refine awp_seq_k fun K hK => ?_ | ((with_reducible refine hK _ ?_); clear hK K) | ((with_reducible refine aord_plain fun K hK => ?_); simp only [go_sem, Nat.reduceAdd, Nat.reduceMul, Nat.reduceEqDiff, Nat.reduceLT, reduceIte, reduceCtorEq, hA, e1, nmA, Nat.reduceAdd, ifA, ifB, hA, e1]) | ((with_reducible apply aord_guard); (focus (simp only [St.ev, St.set, upd, Nat.reduceEqDiff, reduceIte, ifA, ifB, hA, e1, nmA, Nat.reduceAdd, ifA, ifB]; exact rfl)); all_goals (intro hb; (try simp only [Bool.not_true, Bool.not_false] at hb); first | (cases hb; done) | ((try rw [hb]); (try simp only [Bool.not_eq_true', Bool.not_eq_false', Bool.and_eq_true, dcA, dcB, dcC, dcD, dcE] at hb); (try (revert hb; with_reducible refine true_imp_iff.2 ?_)); first | (intro K hK; simp only [go_sem, Nat.reduceAdd, Nat.reduceMul, Nat.reduceEqDiff, Nat.reduceLT, reduceIte, reduceCtorEq, hA, e1, nmA, Nat.reduceAdd, ifA, ifB]) | (simp only [St.ev, St.set, upd, Nat.reduceEqDiff, reduceIte, ifA, ifB, hA, e1, nmA, Nat.reduceAdd, ifA, ifB]) | skip))) | ((first | with_reducible refine aord_nil ?_ | refine awp_skip ?_ | refine awp_exit ?_ | refine awp_ret ?_); try simp only [rdA, Nat.reduceEqDiff, ifA, ifB, reduceIte]) | (refine awp_region tabOk rfl ?_; simp only [prep, pickO, lsA, lsB, lsC, lsD, lsE, lsF, lsG]) | ((with_reducible refine And.intro (?_ : enters Try.prog 33) ?_); (focus exact Try.call33); (refine callX_satH implValidFacts_sat ?_); simp only [go_sem, and_assoc, List.nil_append, List.append_nil, List.cons_append, Nat.reduceEqDiff, reduceIte, reduceCtorEq, hA, e1, nmA, Nat.reduceAdd, ifA, ifB, hA, e1]) | fail))
    refine ⟨b, fs, rfl, rfl, rfl, hl, fun v N hv hN => ?_⟩
    cases v with
    | false =>
      rw [leA_no (fun h => by have := hv.2 h.1; cases this)] at hQ


      repeat' (first | refine awp_seq_k fun K hK => ?_ | ((with_reducible refine hK _ ?_); clear hK K) | ((with_reducible refine aord_plain fun K hK => ?_); simp only [go_sem, Nat.reduceAdd, Nat.reduceMul, Nat.reduceEqDiff, Nat.reduceLT, reduceIte, reduceCtorEq, hA, nmA, Nat.reduceAdd, ifA, ifB, hA]) | ((with_reducible apply aord_guard); (focus (simp only [St.ev, St.set, upd, Nat.reduceEqDiff, reduceIte, ifA, ifB, hA, nmA, Nat.reduceAdd, ifA, ifB]; exact rfl)); all_goals (intro hb; (try simp only [Bool.not_true, Bool.not_false] at hb); first | (cases hb; done) | ((try rw [hb]); (try simp only [Bool.not_eq_true', Bool.not_eq_false', Bool.and_eq_true, dcA, dcB, dcC, dcD, dcE] at hb); (try (revert hb; with_reducible refine true_imp_iff.2 ?_)); first | (intro K hK; simp only [go_sem, Nat.reduceAdd, Nat.reduceMul, Nat.reduceEqDiff, Nat.reduceLT, reduceIte, reduceCtorEq, hA, nmA, Nat.reduceAdd, ifA, ifB]) | (simp only [St.ev, St.set, upd, Nat.reduceEqDiff, reduceIte, ifA, ifB, hA, nmA, Nat.reduceAdd, ifA, ifB]) | skip))) | ((first | with_reducible refine aord_nil ?_ | refine awp_skip ?_ | refine awp_exit ?_ | refine awp_ret ?_); try simp only [rdA, Nat.reduceEqDiff, ifA, ifB, reduceIte]) | (refine awp_region tabOk rfl ?_; simp only [prep, pickO, lsA, lsB, lsC, lsD, lsE, lsF, lsG]) | ((with_reducible apply awp_cond); (focus (simp only [St.ev, St.set, upd, Nat.reduceEqDiff, reduceIte, ifA, ifB, hA, nmA, Nat.reduceAdd, ifA, ifB]; exact rfl)); all_goals (intro hb; first | (cases hb; done) | ((try rw [hb]); (try simp only [dcA, dcB, dcC, dcD, dcE, Bool.not_eq_true', Bool.not_eq_false'] at hb)))) | (simp only [doneH]; simp only [ressK, resK, wrapR, go_sem, Nat.reduceAdd, Nat.reduceMul, Nat.reduceEqDiff, Nat.reduceLT, reduceIte, reduceCtorEq, hA, nmA, Nat.reduceAdd, ifA, ifB]) | fail)
      exact hQ N hN
    | true =>
      have hV := hv.1 rfl
      obtain ⟨d, rfl⟩ : ∃ d : Nat, z = d := ⟨z.toNat, by have := hV.1; omega⟩
      have hcap := orO_cap (d : Int) fs


      repeat' (first | refine awp_seq_k fun K hK => ?_ | ((with_reducible refine hK _ ?_); clear hK K) | ((with_reducible refine aord_plain fun K hK => ?_); simp only [go_sem, Nat.reduceAdd, Nat.reduceMul, Nat.reduceEqDiff, Nat.reduceLT, reduceIte, reduceCtorEq, hA, nmA, Nat.reduceAdd, ifA, ifB, hA]) | ((with_reducible apply aord_guard); (focus (simp only [St.ev, St.set, upd, Nat.reduceEqDiff, reduceIte, ifA, ifB, hA, nmA, Nat.reduceAdd, ifA, ifB]; exact rfl)); all_goals (intro hb; (try simp only [Bool.not_true, Bool.not_false] at hb); first | (cases hb; done) | ((try rw [hb]); (try simp only [Bool.not_eq_true', Bool.not_eq_false', Bool.and_eq_true, dcA, dcB, dcC, dcD, dcE] at hb); (try (revert hb; with_reducible refine true_imp_iff.2 ?_)); first | (intro K hK; simp only [go_sem, Nat.reduceAdd, Nat.reduceMul, Nat.reduceEqDiff, Nat.reduceLT, reduceIte, reduceCtorEq, hA, nmA, Nat.reduceAdd, ifA, ifB]) | (simp only [St.ev, St.set, upd, Nat.reduceEqDiff, reduceIte, ifA, ifB, hA, nmA, Nat.reduceAdd, ifA, ifB]) | skip))) | ((first | with_reducible refine aord_nil ?_ | refine awp_skip ?_ | refine awp_exit ?_ | refine awp_ret ?_); try simp only [rdA, Nat.reduceEqDiff, ifA, ifB, reduceIte]) | (refine awp_region tabOk rfl ?_; simp only [prep, pickO, lsA, lsB, lsC, lsD, lsE, lsF, lsG]) | ((with_reducible apply awp_cond); (focus (simp only [St.ev, St.set, upd, Nat.reduceEqDiff, reduceIte, ifA, ifB, hA, nmA, Nat.reduceAdd, ifA, ifB]; exact rfl)); all_goals (intro hb; first | (cases hb; done) | ((try rw [hb]); (try simp only [dcA, dcB, dcC, dcD, dcE, Bool.not_eq_true', Bool.not_eq_false'] at hb)))) | ((with_reducible refine And.intro (?_ : enters Try.prog 29) ?_); (focus exact Try.call29); (refine callX_satH implOrdersLeft_sat ?_); simp only [go_sem, and_assoc, List.nil_append, List.append_nil, List.cons_append, Nat.reduceEqDiff, reduceIte, reduceCtorEq, hA, nmA, Nat.reduceAdd, ifA, ifB, hA]) | fail)
      refine ⟨b, fs, rfl, rfl, rfl, hl, fun H1 N1 O1 f1 r1 r2 r3 r4 r5 => ?_⟩


      repeat' (first | ((with_reducible refine hK _ ?_); clear hK K) | ((with_reducible refine aord_plain fun K hK => ?_); simp only [go_sem, Nat.reduceAdd, Nat.reduceMul, Nat.reduceEqDiff, Nat.reduceLT, reduceIte, reduceCtorEq]) | ((with_reducible refine And.intro (?_ : enters Try.prog 50) ?_); (focus exact Try.call50); (refine callX_satH hfew ?_); simp only [go_sem, and_assoc, List.nil_append, List.append_nil, List.cons_append, Nat.reduceEqDiff, reduceIte, reduceCtorEq]) | fail)
      refine ⟨d, rfl, f1, orO d fs, rfl, r1, orO_good hV, by omega, hcap, hcap, fun w N2 hw hwl hN2 => ?_⟩
      rw [leA_yes hV (by omega), few_eq hw] at hQ
      repeat' ((fail_if_success (with_reducible refine isRetQ ?_)); (first | ((with_reducible refine hK _ ?_); clear hK K) | ((with_reducible refine aord_plain fun K hK => ?_); simp only [go_sem, Nat.reduceAdd, Nat.reduceMul, Nat.reduceEqDiff, Nat.reduceLT, reduceIte, reduceCtorEq]) | ((first | with_reducible refine aord_nil ?_ | refine awp_skip ?_ | refine awp_exit ?_ | refine awp_ret ?_); try simp only [rdA, Nat.reduceEqDiff, ifA, ifB, reduceIte]) | fail))
      refine awp_weaken (s' := ⟨upd bot 4 (.val (.int .i64 w)), h, N2⟩) (Wk.sub (tsd tsd0 rfl) (fun o ob ho => by have := (hcl o _ ho).1; dsimp only; rw [r4 o (by omega)]; exact ho) rfl) ?_
      repeat' (first | ((first | with_reducible refine aord_nil ?_ | refine awp_skip ?_ | refine awp_exit ?_ | refine awp_ret ?_); try simp only [rdA, Nat.reduceEqDiff, ifA, ifB, reduceIte]) | (simp only [doneH]; simp only [ressK, resK, wrapR, go_sem, Nat.reduceAdd, Nat.reduceMul, Nat.reduceEqDiff, Nat.reduceLT, reduceIte, reduceCtorEq]) | fail)
      exact hQ N2 (by omega)


theorem agB_app {fs gs : List (Int × Int)} {p : List Int} : agB (fs ++ gs) p = (agB fs p && agB gs p) := by unfold agB; rw [List.all_append]
/-- The orders that agree with facts. -/
def ordF (d : Nat) (fs : List (Int × Int)) : List (List Int) := (ordK d d []).filter (agB fs)
theorem ordF_more {d : Nat} {fs : List (Int × Int)} {a c : Int} : ordF d (fs ++ [(a, c)]) = (ordF d fs).filter (agB [(a, c)]) := by
  unfold ordF
  rw [List.filter_filter]
  exact List.filter_congr fun p _ => by rw [agB_app, Bool.and_comm]
theorem ordF_good {d : Nat} {fs : List (Int × Int)} (hd : d ≤ 5) : GoodL d (ordF d fs) := by
  refine ⟨(ordK_nodup hd).filter _, fun p hp => ?_⟩
  obtain ⟨h1, h2, _⟩ := ordK_mem d .nil (List.mem_filter.1 hp).1
  exact ⟨h1, by simpa using h2⟩
theorem ordF_R {d : Nat} {fs : List (Int × Int)} (hi : itemsIn d fs) : ordF d fs = ordR (fun i j => wT fs d i j) d d [] :=
  ord_left hi d .nil (by simp) (fun ⟨i, j, h1, h2, h3⟩ => by simp at h2)
theorem ordF_cap {d : Nat} {fs : List (Int × Int)} (hd : d ≤ 5) : (ordF d fs).length ≤ 120 := Nat.le_trans (List.length_filter_le _ _) (ordK_cap hd)
theorem dbl_pow {n m : Nat} (h0 : 0 < n) (h2 : n ≤ 120) (h : n ≤ 2 ^ m) : dbl n 1 0 ≤ m := by
  obtain ⟨b1, b2, b3⟩ := bound_pow h0 h2
  rcases Nat.lt_or_ge m (dbl n 1 0) with c | c
  · have h3 := Nat.pow_le_pow_right (n := 2) (by decide) (show m + 1 ≤ dbl n 1 0 from c)
    rw [Nat.pow_succ] at h3
    omega
  · exact c
theorem dbl_pos {n : Nat} (h0 : 2 ≤ n) (h2 : n ≤ 120) : 1 ≤ dbl n 1 0 := by
  obtain ⟨b1, b2, b3⟩ := bound_pow (show 0 < n by omega) h2
  rcases Nat.eq_zero_or_pos (dbl n 1 0) with c | c
  · rw [c] at b1; simp at b1; omega
  · exact c
/-- A question is good: both answers leave some, and m more questions are enough. -/
def okQ (en : List (List Int) → Prop) (d m : Nat) (L : List (List Int)) (i j : Nat) : Prop := L.filter (agB [((i : Int), (j : Int))]) ≠ [] ∧ L.filter (agB [((j : Int), (i : Int))]) ≠ [] ∧ canP en d m (L.filter (agB [((i : Int), (j : Int))])) ∧ canP en d m (L.filter (agB [((j : Int), (i : Int))]))
theorem can_ask {en : List (List Int) → Prop} {d m : Nat} {L : List (List Int)} : canP en d (m + 1) L ↔ (en L ∨ ∃ i j : Nat, i < j ∧ j < d ∧ okQ en d m L i j) := Iff.rfl
theorem itemsIn_more {d : Nat} {fs : List (Int × Int)} (hi : itemsIn d fs) {a c : Nat} (ha : a < d) (hc : c < d) : itemsIn d (fs ++ [((a : Int), (c : Int))]) := fun f hf => by
  rcases List.mem_append.1 hf with h | h
  · exact hi f h
  · rw [List.mem_singleton.1 h]; exact ⟨⟨by omega, by omega⟩, by omega, by omega⟩


/-! What holds of the fewest questions. -/
/-- Orders that are those of another list, perhaps turned round, need no more questions. -/
theorem can_map {d : Nat} {en en' : List (List Int) → Prop} (φ : List Int → List Int) (sw : Bool) (hφ : ∀ p : List Int, Beg d p → p.length = d → ∀ i j : Nat, i < j → j < d → agB [((i : Int), (j : Int))] (φ p) = (if sw then agB [((j : Int), (i : Int))] p else agB [((i : Int), (j : Int))] p) ∧ agB [((j : Int), (i : Int))] (φ p) = (if sw then agB [((i : Int), (j : Int))] p else agB [((j : Int), (i : Int))] p)) (hen : ∀ L L', GoodL d L' → (∀ p, p ∈ L' → φ p ∈ L) → en L → en' L') : ∀ (m : Nat) {L L' : List (List Int)}, GoodL d L' → (∀ p, p ∈ L' → φ p ∈ L) → canP en d m L → canP en' d m L'
  | 0, L, L', hg, hm, h => hen L L' hg hm h
  | m + 1, L, L', hg, hm, h => by
    rcases h with h | ⟨i, j, h1, h2, h3, h4, h5, h6⟩
    · exact .inl (hen L L' hg hm h)
    · have gY : ∀ p, p ∈ L'.filter (agB [((i : Int), (j : Int))]) → φ p ∈ (if sw then L.filter (agB [((j : Int), (i : Int))]) else L.filter (agB [((i : Int), (j : Int))])) := fun p hp => by
        obtain ⟨q1, q2⟩ := List.mem_filter.1 hp
        have q3 := hφ p (hg.2 p q1).1 (hg.2 p q1).2 i j h1 h2
        cases sw with
        | true => exact List.mem_filter.2 ⟨hm p q1, by rw [q3.2]; exact q2⟩
        | false => exact List.mem_filter.2 ⟨hm p q1, by rw [q3.1]; exact q2⟩
      have gN : ∀ p, p ∈ L'.filter (agB [((j : Int), (i : Int))]) → φ p ∈ (if sw then L.filter (agB [((i : Int), (j : Int))]) else L.filter (agB [((j : Int), (i : Int))])) := fun p hp => by
        obtain ⟨q1, q2⟩ := List.mem_filter.1 hp
        have q3 := hφ p (hg.2 p q1).1 (hg.2 p q1).2 i j h1 h2
        cases sw with
        | true => exact List.mem_filter.2 ⟨hm p q1, by rw [q3.1]; exact q2⟩
        | false => exact List.mem_filter.2 ⟨hm p q1, by rw [q3.2]; exact q2⟩
      have cY : canP en' d m (L'.filter (agB [((i : Int), (j : Int))])) := by
        cases sw with
        | true => exact can_map φ true hφ hen m (hg.filter _) gY h6
        | false => exact can_map φ false hφ hen m (hg.filter _) gY h5
      have cN : canP en' d m (L'.filter (agB [((j : Int), (i : Int))])) := by
        cases sw with
        | true => exact can_map φ true hφ hen m (hg.filter _) gN h5
        | false => exact can_map φ false hφ hen m (hg.filter _) gN h6
      have hs := part_sum hg h1 h2
      by_cases e1 : L'.filter (agB [((i : Int), (j : Int))]) = []
      · have : L'.filter (agB [((j : Int), (i : Int))]) = L' := by
          refine List.filter_eq_self.2 fun p hp => ?_
          rw [part_neg hg h1 h2 hp]
          rw [List.filter_eq_nil_iff] at e1
          have := e1 p hp
          rw [Bool.not_eq_true] at this; rw [this]; rfl
        rw [this] at cN
        exact can_up _ cN
      · by_cases e2 : L'.filter (agB [((j : Int), (i : Int))]) = []
        · have : L'.filter (agB [((i : Int), (j : Int))]) = L' := by
            refine List.filter_eq_self.2 fun p hp => ?_
            have h7 := part_neg hg h1 h2 hp
            rw [List.filter_eq_nil_iff] at e2
            have := e2 p hp
            rw [h7] at this
            cases c : agB [((i : Int), (j : Int))] p with
            | true => rfl
            | false => rw [c] at this; exact (this rfl).elim
          rw [this] at cY
          exact can_up _ cY
        · exact .inr ⟨i, j, h1, h2, e1, e2, cY, cN⟩
theorem nd_sub {L L' : List (List Int)} (hn : L'.Nodup) (hm : ∀ p, p ∈ L' → p ∈ L) (h : enL L) : enL L' := by
  unfold enL at h ⊢
  rcases Nat.lt_or_ge 1 L'.length with c | c
  · have m0 : L'[0] ∈ L' := List.getElem_mem (by omega)
    have m1 : L'[1] ∈ L' := List.getElem_mem (by omega)
    have hne : L'[0] ≠ L'[1] := (List.pairwise_iff_getElem.1 (List.nodup_iff_pairwise_ne.1 hn)) 0 1 (by omega) (by omega) (by decide)
    exact (hne (enL_to (hm _ m0) (hm _ m1) h)).elim
  · exact c
where
  enL_to {L : List (List Int)} {p q : List Int} (hp : p ∈ L) (hq : q ∈ L) (h : L.length ≤ 1) : p = q := by
    match L, h with
    | [a], _ => rw [List.mem_singleton.1 hp, List.mem_singleton.1 hq]
theorem hφ_id {d : Nat} : ∀ p : List Int, Beg d p → p.length = d → ∀ i j : Nat, i < j → j < d → agB [((i : Int), (j : Int))] (id p) = (if false then agB [((j : Int), (i : Int))] p else agB [((i : Int), (j : Int))] p) ∧ agB [((j : Int), (i : Int))] (id p) = (if false then agB [((i : Int), (j : Int))] p else agB [((j : Int), (i : Int))] p) := fun p _ _ i j _ _ => ⟨by simp, by simp⟩
theorem few_sub {d m : Nat} {L L' : List (List Int)} (hg : GoodL d L') (hm : ∀ p, p ∈ L' → p ∈ L) (h : canP enL d m L) : canP enL d m L' :=
  can_map id false hφ_id (fun L L' hg hm h => nd_sub hg.1 hm h) m hg hm h
theorem few_pick {d m k : Nat} {L : List (List Int)} (hg : GoodL d L) (h : canP enL d m L) : canP (enK k) d m L :=
  can_map id false hφ_id (fun L L' hg hm h => enK_few _ (nd_sub hg.1 hm h)) m hg (fun _ h => h) h
theorem rev_fst {d : Nat} {p : List Int} (hb : Beg d p) (hl : p.length = d) {x : Int} (hx : 0 ≤ x ∧ x < d) : fstAt p.reverse x p.reverse.length = (d : Int) - 1 - fstAt p x p.length := by
  obtain ⟨i, h1, h2, h3⟩ := hb.all hl hx
  have hb2 : Beg d p.reverse := ⟨fun v hv => hb.rng v (List.mem_reverse.1 hv), List.nodup_iff_pairwise_ne.2 (List.pairwise_reverse.2 ((List.nodup_iff_pairwise_ne.1 hb.nd).imp fun h => Ne.symm h))⟩
  have e : p.reverse.getD (d - 1 - i) 0 = x := by
    rw [List.getD_eq_getElem?_getD, List.getElem?_reverse (by omega), hl, show d - 1 - (d - 1 - i) = i by omega, ← List.getD_eq_getElem?_getD]
    exact h2
  have h4 := hb2.fst (i := d - 1 - i) (by rw [List.length_reverse]; omega)
  rw [e] at h4
  rw [h4, h3]; omega
theorem rev_ag {d : Nat} {p : List Int} (hb : Beg d p) (hl : p.length = d) {a c : Int} (ha : 0 ≤ a ∧ a < d) (hc : 0 ≤ c ∧ c < d) : agB [(a, c)] p.reverse = agB [(c, a)] p := by
  unfold agB
  simp only [List.all_cons, List.all_nil, Bool.and_true]
  rw [rev_fst hb hl ha, rev_fst hb hl hc]
  exact decide_eq_decide.2 ⟨fun h => by omega, fun h => by omega⟩
theorem few_rev {d m k : Nat} {L L' : List (List Int)} (hk : k < d) (hg : GoodL d L') (hm : ∀ p, p ∈ L' → p.reverse ∈ L) (h : canP (enK k) d m L) : canP (enK (d - 1 - k)) d m L' := by
  refine can_map List.reverse true (fun p hb hl i j hij hj => ?_) (fun L L' hg hm h p q hp hq => ?_) m hg hm h
  · rw [if_pos rfl, if_pos rfl]
    exact ⟨rev_ag hb hl ⟨by omega, by omega⟩ ⟨by omega, by omega⟩, rev_ag hb hl ⟨by omega, by omega⟩ ⟨by omega, by omega⟩⟩
  · have h1 := h _ _ (hm p hp) (hm q hq)
    have l1 := (hg.2 p hp).2
    have l2 := (hg.2 q hq).2
    rw [List.getD_eq_getElem?_getD, List.getD_eq_getElem?_getD, List.getElem?_reverse (by omega), List.getElem?_reverse (by omega), l1, l2] at h1
    rw [List.getD_eq_getElem?_getD, List.getD_eq_getElem?_getD]
    exact h1
/-- Facts turned round. -/
def swF (fs : List (Int × Int)) : List (Int × Int) := fs.map fun f => (f.2, f.1)
theorem swF_swF : ∀ fs : List (Int × Int), swF (swF fs) = fs
  | [] => rfl
  | f :: l => by
    have ih := swF_swF l
    unfold swF at ih ⊢
    rw [List.map_cons, List.map_cons, ih]
theorem swF_len (fs : List (Int × Int)) : (swF fs).length = fs.length := by unfold swF; simp
theorem Tc_sw {fs : List (Int × Int)} {a c : Int} (t : Tc (swF fs) a c) : Tc fs c a := by
  induction t with
  | base h =>
    unfold swF at h
    obtain ⟨f, h1, h2⟩ := List.mem_map.1 h
    obtain ⟨x, y⟩ := f
    cases h2
    exact .base h1
  | step _ _ h1 h2 => exact h2.step h1
theorem VF_sw {z : Int} {fs : List (Int × Int)} (h : VF z fs) : VF z (swF fs) := by
  refine ⟨h.1, by rw [swF_len]; exact h.2.1, fun f hf => ?_, fun x t => h.2.2.2 x (Tc_sw t)⟩
  unfold swF at hf
  obtain ⟨g, h1, h2⟩ := List.mem_map.1 hf
  subst h2
  exact ⟨(h.2.2.1 g h1).2, (h.2.2.1 g h1).1⟩
theorem ordK_rev {d : Nat} (hd : d ≤ 5) : ∀ p, p ∈ ordK d d [] → p.reverse ∈ ordK d d [] := by
  have : d = 0 ∨ d = 1 ∨ d = 2 ∨ d = 3 ∨ d = 4 ∨ d = 5 := by omega
  rcases this with rfl | rfl | rfl | rfl | rfl | rfl
  all_goals decide +kernel
theorem orO_sw {d : Nat} {fs : List (Int × Int)} (h : VF d fs) {p : List Int} (hp : p ∈ orO d (swF fs)) : p.reverse ∈ orO d fs := by
  obtain ⟨hb, hl⟩ := orO_beg (VF_sw h) hp
  have hi : itemsIn d fs := by have := h.2.2.1; rwa [Int.toNat_natCast] at this
  rw [orO_ag (VF_sw h)] at hp
  rw [orO_ag h]
  obtain ⟨h1, h2⟩ := List.mem_filter.1 hp
  refine List.mem_filter.2 ⟨ordK_rev (by have := h.1; omega) p h1, ?_⟩
  rw [agB_iff] at h2 ⊢
  intro f hf
  have h3 := h2 (f.2, f.1) (List.mem_map.2 ⟨f, hf, rfl⟩)
  rw [rev_fst hb hl (hi f hf).1, rev_fst hb hl (hi f hf).2]
  dsimp only at h3
  omega
/-- The fewest questions of valid facts. -/
theorem le_is {d : Nat} {fs : List (Int × Int)} (h : VF d fs) : IsFew enL d (orO d fs) (fewV enL d (orO d fs)) :=
  few_is (can_len enL_few (orO d fs).length (orO_good h) (by omega))
theorem pi_is {d k : Nat} {fs : List (Int × Int)} (h : VF d fs) : IsFew (enK k) d (orO d fs) (fewV (enK k) d (orO d fs)) :=
  few_is (can_len enK_few (orO d fs).length (orO_good h) (by omega))
theorem le_bits {d : Nat} {fs : List (Int × Int)} (h : VF d fs) : dbl (orO d fs).length 1 0 ≤ fewV enL d (orO d fs) :=
  dbl_pow (orO_pos h) (orO_cap _ _) (can_bits (kinds_L (d := d)) _ (orO_good h) ((le_is h _).2 (Nat.le_refl _)))
theorem le_nil {d : Nat} {fs : List (Int × Int)} (h : VF d fs) : fewV enL d (orO d fs) ≤ fewV enL d (orO d []) := by
  have hd : d ≤ 5 := by have := h.1; omega
  refine (le_is h _).1 (few_sub (orO_good h) (fun p hp => ?_) ((le_is (VF_nil hd) _).2 (Nat.le_refl _)))
  rw [orO_ag h] at hp
  rw [orO_ag (VF_nil hd)]
  exact List.mem_filter.2 ⟨(List.mem_filter.1 hp).1, rfl⟩
theorem pi_le {d k : Nat} {fs : List (Int × Int)} (h : VF d fs) : fewV (enK k) d (orO d fs) ≤ fewV enL d (orO d fs) :=
  (pi_is h _).1 (few_pick (orO_good h) ((le_is h _).2 (Nat.le_refl _)))
theorem pi_sw {d k : Nat} {fs : List (Int × Int)} (h : VF d fs) (hk : k < d) : fewV (enK (d - 1 - k)) d (orO d (swF fs)) = fewV (enK k) d (orO d fs) := by
  have h1 := (pi_is (k := d - 1 - k) (VF_sw h) (fewV (enK k) d (orO d fs))).1 (few_rev hk (orO_good (VF_sw h)) (fun p hp => orO_sw h hp) ((pi_is h _).2 (Nat.le_refl _)))
  have h2 := (pi_is (k := k) h (fewV (enK (d - 1 - k)) d (orO d (swF fs)))).1 (by
    have h3 := few_rev (k := d - 1 - k) (by omega) (orO_good h) (L := orO d (swF fs)) (fun p hp => orO_sw (VF_sw h) (by rw [swF_swF]; exact hp)) ((pi_is (VF_sw h) _).2 (Nat.le_refl _))
    rwa [show d - 1 - (d - 1 - k) = k by omega] at h3)
  omega

/-- The kernel's search for questions. -/
def canB (en : List (List Int) → Bool) (pr : Nat → List (List Int) → Bool) (d : Nat) : Nat → List (List Int) → Bool
  | 0, L => en L
  | m + 1, L => en L || (pr (m + 1) L && (List.range d).any fun j => (List.range j).any fun i =>
      let Y := L.filter (agB [((i : Int), (j : Int))])
      let N := L.filter (agB [((j : Int), (i : Int))])
      !Y.isEmpty && (!N.isEmpty && (canB en pr d m Y && canB en pr d m N)))
theorem canB_sound {en : List (List Int) → Bool} {pr : Nat → List (List Int) → Bool} {d : Nat} {enP : List (List Int) → Prop} (he : ∀ L, en L = true → enP L) : ∀ (m : Nat) {L : List (List Int)}, canB en pr d m L = true → canP enP d m L
  | 0, L, h => he L h
  | m + 1, L, h => by
    rw [canB, Bool.or_eq_true] at h
    rcases h with h | h
    · exact .inl (he L h)
    · rw [Bool.and_eq_true] at h
      obtain ⟨_, h⟩ := h
      rw [List.any_eq_true] at h
      obtain ⟨j, hj, h⟩ := h
      rw [List.any_eq_true] at h
      obtain ⟨i, hi, h⟩ := h
      simp only [Bool.and_eq_true, Bool.not_eq_true', List.isEmpty_eq_false_iff] at h
      exact .inr ⟨i, j, List.mem_range.1 hi, List.mem_range.1 hj, h.1, h.2.1, canB_sound he m h.2.2.1, canB_sound he m h.2.2.2⟩
theorem canB_full {en : List (List Int) → Bool} {d : Nat} {enP : List (List Int) → Prop} (he : ∀ L, enP L → en L = true) : ∀ (m : Nat) {L : List (List Int)}, canP enP d m L → canB en (fun _ _ => true) d m L = true
  | 0, L, h => he L h
  | m + 1, L, h => by
    rw [canB, Bool.or_eq_true]
    rcases h with h | ⟨i, j, h1, h2, h3, h4, h5, h6⟩
    · exact .inl (he L h)
    · right
      simp only [Bool.true_and]
      refine List.any_eq_true.2 ⟨j, List.mem_range.2 h2, List.any_eq_true.2 ⟨i, List.mem_range.2 h1, ?_⟩⟩
      simp only [Bool.and_eq_true, Bool.not_eq_true', List.isEmpty_eq_false_iff]
      exact ⟨h3, h4, canB_full he m h5, canB_full he m h6⟩
def enLB (L : List (List Int)) : Bool := decide (L.length ≤ 1)
def enKB (k : Nat) (L : List (List Int)) : Bool := match L with | [] => true | p :: l => l.all fun q => decide (q.getD k 0 = p.getD k 0)
theorem enLB_to (L : List (List Int)) (h : enLB L = true) : enL L := of_decide_eq_true (p := L.length ≤ 1) h
theorem enKB_to {k : Nat} (L : List (List Int)) (h : enKB k L = true) : enK k L := by
  match L, h with
  | [], _ => exact fun p q hp => by simp at hp
  | a :: l, h =>
    unfold enKB at h
    rw [List.all_eq_true] at h
    have key : ∀ p, p ∈ a :: l → p.getD k 0 = a.getD k 0 := fun p hp => by
      rcases List.mem_cons.1 hp with e | e
      · rw [e]
      · exact of_decide_eq_true (h p e)
    exact fun p q hp hq => (key p hp).trans (key q hq).symm
theorem enKB_of {k : Nat} (L : List (List Int)) (h : enK k L) : enKB k L = true := by
  match L, h with
  | [], _ => rfl
  | a :: l, h =>
    unfold enKB
    rw [List.all_eq_true]
    exact fun q hq => decide_eq_true (h q a (List.mem_cons_of_mem _ hq) List.mem_cons_self)
def prL (m : Nat) (L : List (List Int)) : Bool := decide (L.length ≤ 2 ^ m)
def foT (d : Nat) : Nat := [0, 0, 1, 3, 5].getD d 0
theorem fo_up {d : Nat} (hd : d ≤ 4) : canB enLB prL d (foT d) (ordK d d []) = true := by
  have : d = 0 ∨ d = 1 ∨ d = 2 ∨ d = 3 ∨ d = 4 := by omega
  rcases this with rfl | rfl | rfl | rfl | rfl
  all_goals decide +kernel
theorem fo_sum {d : Nat} (hd : d ≤ 4) : sumF fdF d = foT d ∧ dbl (facP d) 1 0 = foT d := by
  have : d = 0 ∨ d = 1 ∨ d = 2 ∨ d = 3 ∨ d = 4 := by omega
  rcases this with rfl | rfl | rfl | rfl | rfl
  all_goals (
    simp only [facP, sumF, fdF, Nat.zero_add, Nat.one_mul, Nat.reduceAdd, Nat.reduceMul]
    repeat (first | rw [dbl_end (by omega)] | rw [← dbl_go (by omega) (by omega)])
    decide)
theorem orO_nilK {d : Nat} (hd : d ≤ 5) : orO d [] = ordK d d [] := by
  rw [orO_ag (VF_nil hd)]
  exact List.filter_eq_self.2 fun q _ => rfl
theorem le_ford {d : Nat} (hd : d ≤ 4) : fewV enL d (orO d []) = sumF fdF d := by
  have h1 := le_bits (VF_nil (d := d) (by omega))
  rw [orO_nil (by omega), (fo_sum hd).2] at h1
  have h2 := (le_is (VF_nil (d := d) (by omega)) (foT d)).1 (by rw [orO_nilK (by omega)]; exact canB_sound enLB_to _ (fo_up hd))
  rw [(fo_sum hd).1]; omega
theorem pi_up {d : Nat} (h1 : 1 ≤ d) (hd : d ≤ 4) : canB (enKB 0) (fun _ _ => true) d (d - 1) (ordK d d []) = true ∧ (2 ≤ d → canB (enKB 0) (fun _ _ => true) d (d - 2) (ordK d d []) = false) := by
  have : d = 1 ∨ d = 2 ∨ d = 3 ∨ d = 4 := by omega
  rcases this with rfl | rfl | rfl | rfl
  all_goals decide +kernel
theorem pi_nil {d : Nat} (h1 : 1 ≤ d) (hd : d ≤ 4) : fewV (enK 0) d (orO d []) = d - 1 := by
  obtain ⟨a1, a2⟩ := pi_up h1 hd
  have h2 := (pi_is (k := 0) (VF_nil (d := d) (by omega)) (d - 1)).1 (by rw [orO_nilK (by omega)]; exact canB_sound enKB_to _ a1)
  rcases Nat.lt_or_ge (fewV (enK 0) d (orO d [])) (d - 1) with c | c
  · have h3 := (pi_is (k := 0) (VF_nil (d := d) (by omega)) (d - 2)).2 (by omega)
    rw [orO_nilK (by omega)] at h3
    have h4 := canB_full enKB_of _ h3
    rw [a2 (by omega)] at h4
    cases h4
  · omega

/-! A third is always left: the kernel looks at all facts about at most five items. -/
def flG {α : Type} (t : α → Bool) (l : List α) : List α := l.filter t
def ruleG {α ι : Type} (t : ι → α → Bool) (P : List ι) (L : List α) : Bool := match L with
  | [] => true
  | [_] => true
  | L => P.any fun q => decide (3 * (L.filter (t q)).length ≤ 2 * L.length) && decide (L.length ≤ 3 * (L.filter (t q)).length)
def chkG {α ι : Type} (t : ι → α → Bool) (P : List ι) : List ι → List α → Bool
  | [], L => ruleG t P L
  | q :: ps, L => match L with
    | [] => true
    | [_] => true
    | L => chkG t P ps L && (match L.filter (t q), L.filter (fun p => !t q p) with
      | [], _ => true
      | _, [] => true
      | Y, N => chkG t P ps Y && chkG t P ps N)
theorem ruleG_few {α ι : Type} {t : ι → α → Bool} {P : List ι} {L : List α} (h : L.length ≤ 1) : ruleG t P L = true := by
  match L, h with
  | [], _ => rfl
  | [_], _ => rfl
theorem chkG_sound {α ι : Type} {t : ι → α → Bool} {P : List ι} {s u : ι → Bool} : ∀ (ps : List ι) {L : List α}, chkG t P ps L = true → ruleG t P (L.filter fun p => ps.all fun q => (!s q || t q p) && (!u q || !t q p)) = true
  | [], L, h => by
    have e : (L.filter fun p => ([] : List ι).all fun q => (!s q || t q p) && (!u q || !t q p)) = L := List.filter_eq_self.2 fun _ _ => rfl
    rw [e]; exact h
  | q :: ps, L, h => by
    have e : (L.filter fun p => (q :: ps).all fun q => (!s q || t q p) && (!u q || !t q p)) = (L.filter fun p => (!s q || t q p) && (!u q || !t q p)).filter fun p => ps.all fun q => (!s q || t q p) && (!u q || !t q p) := by
      rw [List.filter_filter]
      exact List.filter_congr fun p _ => by rw [List.all_cons, Bool.and_comm]
    rw [e]
    by_cases hl : L.length ≤ 1
    · exact ruleG_few (Nat.le_trans (List.length_filter_le _ _) (Nat.le_trans (List.length_filter_le _ _) hl))
    · have hc : chkG t P ps L = true ∧ (L.filter (t q) ≠ [] → L.filter (fun p => !t q p) ≠ [] → chkG t P ps (L.filter (t q)) = true ∧ chkG t P ps (L.filter fun p => !t q p) = true) := by
        obtain ⟨a, b, l, rfl⟩ : ∃ a b l, L = a :: b :: l := by
          match L, hl with
          | [], hl => exact (hl (Nat.zero_le _)).elim
          | [_], hl => exact (hl (Nat.le_refl _)).elim
          | a :: b :: l, _ => exact ⟨a, b, l, rfl⟩
        rw [chkG] at h
        · rw [Bool.and_eq_true] at h
          refine ⟨h.1, fun h1 h2 => ?_⟩
          have h3 := h.2
          obtain ⟨y, Y, hY⟩ := List.exists_cons_of_ne_nil h1
          obtain ⟨n, N, hN⟩ := List.exists_cons_of_ne_nil h2
          rw [hY, hN] at h3 ⊢
          dsimp only at h3
          rw [Bool.and_eq_true] at h3
          exact h3
        · simp
        · simp
      obtain ⟨h1, h2⟩ := hc
      have hnil : ∀ (g : α → Bool), L.filter g = [] → ruleG t P ((L.filter g).filter fun p => ps.all fun q => (!s q || t q p) && (!u q || !t q p)) = true := fun g hg => by rw [hg]; rfl
      have hsame : ∀ (g : α → Bool), L.filter g = L → ruleG t P ((L.filter g).filter fun p => ps.all fun q => (!s q || t q p) && (!u q || !t q p)) = true := fun g hg => by rw [hg]; exact chkG_sound ps h1
      have hneg : ∀ (g : α → Bool), L.filter (fun p => !g p) = [] → L.filter g = L := fun g hg => by
        rw [List.filter_eq_nil_iff] at hg
        refine List.filter_eq_self.2 fun p hp => ?_
        have := hg p hp
        cases c : g p with
        | true => rfl
        | false => rw [c] at this; exact (this rfl).elim
      cases hs : s q <;> cases hu : u q
      · have e1 : (L.filter fun p => (!false || t q p) && (!false || !t q p)) = L := List.filter_eq_self.2 fun _ _ => rfl
        exact hsame _ e1
      · have e1 : (L.filter fun p => (!false || t q p) && (!true || !t q p)) = L.filter fun p => !t q p := List.filter_congr fun p _ => by simp
        rw [e1]
        by_cases c1 : L.filter (fun p => !t q p) = []
        · exact hnil _ c1
        · by_cases c2 : L.filter (t q) = []
          · exact hsame _ (hneg (fun p => !t q p) (by simpa using c2))
          · exact chkG_sound ps (h2 c2 c1).2
      · have e1 : (L.filter fun p => (!true || t q p) && (!false || !t q p)) = L.filter (t q) := List.filter_congr fun p _ => by simp
        rw [e1]
        by_cases c1 : L.filter (t q) = []
        · exact hnil _ c1
        · by_cases c2 : L.filter (fun p => !t q p) = []
          · exact hsame _ (hneg _ c2)
          · exact chkG_sound ps (h2 c1 c2).1
      · have e1 : (L.filter fun p => (!true || t q p) && (!true || !t q p)) = [] := List.filter_eq_nil_iff.2 fun p _ => by simp
        exact hnil _ e1
theorem ruleG_map {α β ι : Type} {t : ι → α → Bool} {g : ι → β → Bool} {f : β → α} {P : List ι} {L : List β} (h : ∀ q, q ∈ P → ∀ p, p ∈ L → t q (f p) = g q p) : ruleG t P (L.map f) = ruleG g P L := by
  match L, h with
  | [], _ => rfl
  | [_], _ => rfl
  | a :: b :: l, h =>
    have key : ∀ q, q ∈ P → (((a :: b :: l).map f).filter (t q)).length = ((a :: b :: l).filter (g q)).length := fun q hq => by
      rw [List.filter_map, List.length_map]
      congr 1
      exact List.filter_congr fun p hp => h q hq p hp
    unfold ruleG
    rw [List.map_cons, List.map_cons]
    simp only
    rw [← List.map_cons, ← List.map_cons, Bool.eq_iff_iff, List.any_eq_true, List.any_eq_true]
    constructor
    · rintro ⟨q, hq, e⟩
      rw [key q hq, List.length_map] at e
      exact ⟨q, hq, e⟩
    · rintro ⟨q, hq, e⟩
      refine ⟨q, hq, ?_⟩
      rw [key q hq, List.length_map]
      exact e
/-- An order as a number: a bit for each two items. -/
def codeP (Q : List (Nat × Nat × Nat)) (p : List Int) : Nat := Q.foldl (fun c q => if fstAt p q.1 p.length ≤ fstAt p q.2.1 p.length then c + q.2.2 else c) 0
def tstN (q : Nat × Nat × Nat) (c : Nat) : Bool := !(Nat.beq (Nat.land c q.2.2) 0)
def prs (d : Nat) : List (Nat × Nat × Nat) := [(0, 1, 1), (0, 2, 2), (1, 2, 4), (0, 3, 8), (1, 3, 16), (2, 3, 32), (0, 4, 64), (1, 4, 128), (2, 4, 256), (3, 4, 512)].filter fun q => decide (q.2.1 < d)
theorem prs_in {d : Nat} (hd : d ≤ 5) : ∀ q, q ∈ prs d → q.1 < q.2.1 ∧ q.2.1 < d := by
  have : d = 0 ∨ d = 1 ∨ d = 2 ∨ d = 3 ∨ d = 4 ∨ d = 5 := by omega
  rcases this with rfl | rfl | rfl | rfl | rfl | rfl
  all_goals decide +kernel
theorem prs_all {d : Nat} (hd : d ≤ 5) : ∀ j, j < d → ∀ i, i < j → ∃ q, q ∈ prs d ∧ q.1 = i ∧ q.2.1 = j := by
  have : d = 0 ∨ d = 1 ∨ d = 2 ∨ d = 3 ∨ d = 4 ∨ d = 5 := by omega
  rcases this with rfl | rfl | rfl | rfl | rfl | rfl
  all_goals (
    intro j hj i hi
    have h5 : j = 0 ∨ j = 1 ∨ j = 2 ∨ j = 3 ∨ j = 4 := by omega
    rcases h5 with rfl | rfl | rfl | rfl | rfl
    all_goals try omega
    all_goals (
      have h4 : i = 0 ∨ i = 1 ∨ i = 2 ∨ i = 3 := by omega
      rcases h4 with rfl | rfl | rfl | rfl
      all_goals first | omega | exact ⟨_, by decide, rfl, rfl⟩ | skip))
  all_goals first
    | exact ⟨(0, 1, 1), by decide, rfl, rfl⟩
    | exact ⟨(0, 2, 2), by decide, rfl, rfl⟩
    | exact ⟨(1, 2, 4), by decide, rfl, rfl⟩
    | exact ⟨(0, 3, 8), by decide, rfl, rfl⟩
    | exact ⟨(1, 3, 16), by decide, rfl, rfl⟩
    | exact ⟨(2, 3, 32), by decide, rfl, rfl⟩
    | exact ⟨(0, 4, 64), by decide, rfl, rfl⟩
    | exact ⟨(1, 4, 128), by decide, rfl, rfl⟩
    | exact ⟨(2, 4, 256), by decide, rfl, rfl⟩
    | exact ⟨(3, 4, 512), by decide, rfl, rfl⟩
theorem code_ok {d : Nat} (hd : d ≤ 5) : ∀ q, q ∈ prs d → ∀ p, p ∈ ordK d d [] → tstN q (codeP (prs d) p) = agB [((q.1 : Int), (q.2.1 : Int))] p := by
  have : d = 0 ∨ d = 1 ∨ d = 2 ∨ d = 3 ∨ d = 4 ∨ d = 5 := by omega
  rcases this with rfl | rfl | rfl | rfl | rfl | rfl
  all_goals decide +kernel
theorem chk_all {d : Nat} (hd : d ≤ 5) : chkG tstN (prs d) (prs d) ((ordK d d []).map (codeP (prs d))) = true := by
  have : d = 0 ∨ d = 1 ∨ d = 2 ∨ d = 3 ∨ d = 4 ∨ d = 5 := by omega
  rcases this with rfl | rfl | rfl | rfl | rfl | rfl
  all_goals decide +kernel

theorem drawChainFacts_sat : Sat Try.prog 30 (fun ds Q => ∃ bs, ds = [.row (.ints .u8 bs)] ∧ bs.length ≤ 1099511627776 ∧ bytesOk bs ∧ ∀ m k : Int, -1 ≤ m ∧ m ≤ 5 → -1 ≤ k ∧ k ≤ 5 → Q (.tup [.val (.int .i64 m), .val (.int .i64 k)])) := by
  refine sat_intro tabOk Try.func30 rfl 13 rfl [.tmp 2, .tmp 3] rfl ?_
  rintro ds Q W ⟨bs, rfl, hlen, hbs, hQ⟩
  refine ⟨Nat.le_of_ble_eq_true rfl, ?_⟩
  simp only [initS, initT, mat.matL, mat, Cont.len]
  repeat' (first | refine awp_seq_k fun K hK => ?_ | ((with_reducible refine hK _ ?_); clear hK K) | ((with_reducible refine aord_plain fun K hK => ?_); simp only [go_sem, Nat.reduceAdd, Nat.reduceMul, Nat.reduceEqDiff, Nat.reduceLT, reduceIte, reduceCtorEq, Int.toNat_zero]) | ((first | with_reducible refine aord_nil ?_ | refine awp_skip ?_ | refine awp_exit ?_ | refine awp_ret ?_); try simp only [rdA, Nat.reduceEqDiff, ifA, ifB, reduceIte]) | (refine awp_region tabOk rfl ?_; simp only [prep, pickO, lsA, lsB, lsC, lsD, lsE, lsF, lsG]) | ((with_reducible apply awp_cond); (focus (simp only [St.ev, St.set, upd, Nat.reduceEqDiff, reduceIte, ifA, ifB]; exact rfl)); all_goals (intro hb; first | (cases hb; done) | ((try rw [hb]); (try simp only [dcA, dcB, dcC, dcD, dcE, Bool.not_eq_true', Bool.not_eq_false'] at hb)))) | ((with_reducible refine And.intro ?_ ?_); (focus omega)) | ((with_reducible refine And.intro (?_ : enters Try.prog 63) ?_); (focus exact Try.call63); (refine callX_satH one_sat ?_); simp only [go_sem, and_assoc, List.nil_append, List.append_nil, List.cons_append, Nat.reduceEqDiff, reduceIte, reduceCtorEq, Int.toNat_zero]) | ((with_reducible refine And.intro (?_ : enters Try.prog 41) ?_); (focus exact Try.call41); (refine callX_h (callH_inline tabOk Try.func41 rfl 11 rfl [.tmp 2] rfl (Nat.le_of_ble_eq_true rfl) fun m0 hm0 hcl hlt => ?_)); simp only [initT, St.ev, St.set, upd, Nat.reduceEqDiff, reduceIte, ifA, ifB]) | (simp only [rBuild]; simp only [fillA, Nat.reduceLeDiff, List.getElem?_cons_zero, List.getElem?_cons_succ, List.drop_succ_cons, List.drop_nil, List.take_nil, List.cons_append, Option.isSome_some, go_sem, Nat.reduceAdd, Nat.reduceMul, Nat.reduceEqDiff, Nat.reduceLT, reduceIte, reduceCtorEq]) | (simp only [doneH]; simp only [ressK, resK, wrapR, go_sem, Nat.reduceAdd, Nat.reduceMul, Nat.reduceEqDiff, Nat.reduceLT, reduceIte, reduceCtorEq]) | fail)
  all_goals (
    refine ⟨_, _, _, 0, rfl, by omega, by omega, hbs, rfl, rfl, by omega, by omega, by omega, ?_⟩
    intro v hv
    first
      | (have hmo := (by decide : ∀ v, v < 7 → -1 ≤ ([2, 1, 3, 0, 4, 5, -1] : List Int).getD v 0 ∧ ([2, 1, 3, 0, 4, 5, -1] : List Int).getD v 0 ≤ 5) v hv
         generalize ([2, 1, 3, 0, 4, 5, -1] : List Int).getD v 0 = m at *)
      | skip)
  repeat' (first | ((with_reducible refine hK _ ?_); clear hK K) | ((with_reducible refine aord_plain fun K hK => ?_); simp only [go_sem, Nat.reduceAdd, Nat.reduceMul, Nat.reduceEqDiff, Nat.reduceLT, reduceIte, reduceCtorEq, Int.toNat_zero]) | ((with_reducible refine And.intro ?_ ?_); (focus omega)) | ((with_reducible refine And.intro (?_ : enters Try.prog 63) ?_); (focus exact Try.call63); (refine callX_satH one_sat ?_); simp only [go_sem, and_assoc, List.nil_append, List.append_nil, List.cons_append, Nat.reduceEqDiff, reduceIte, reduceCtorEq, Int.toNat_zero]) | fail)
  all_goals (
    refine ⟨_, _, _, 1, rfl, by omega, by omega, hbs, rfl, rfl, by omega, by omega, by omega, ?_⟩
    intro u hu
    have hmp := (by decide : ∀ v, v < 7 → -1 ≤ ([2, 1, 0, 3, 4, 5, -1] : List Int).getD v 0 ∧ ([2, 1, 0, 3, 4, 5, -1] : List Int).getD v 0 ≤ 5) u hu
    generalize ([2, 1, 0, 3, 4, 5, -1] : List Int).getD u 0 = k at *)
  repeat' (first | ((with_reducible refine hK _ ?_); clear hK K) | ((with_reducible refine aord_plain fun K hK => ?_); simp only [go_sem, Nat.reduceAdd, Nat.reduceMul, Nat.reduceEqDiff, Nat.reduceLT, reduceIte, reduceCtorEq, Int.toNat_zero]) | ((first | with_reducible refine aord_nil ?_ | refine awp_skip ?_ | refine awp_exit ?_ | refine awp_ret ?_); try simp only [rdA, Nat.reduceEqDiff, ifA, ifB, reduceIte]) | fail)
  all_goals (simp only [St.set, St.ev, doneQ, doneH, ressK, resK, wrapR, AV.ids, AV.idsL, retK, retsK, upd, Nat.reduceEqDiff, reduceIte, ifA, ifB, List.nodup_nil, List.nodup_cons, List.not_mem_nil, not_false_eq_true, true_and, and_true, exists_eq_left', Option.some.injEq, rLoad, cellOf, tab, Ty.isAgg, Ty.one, Bool.false_eq_true]; exact ⟨by simp, hQ m k hmo hmp⟩)

/-- The place behind the last key that is less than y, by halving, and how often was asked. -/
def fndS (xs : List Int) (y : Int) (lo hi : Nat) (q : Int) : Nat × Int :=
  if h : lo < hi then (if xs.getD ((lo + hi) / 2) 0 < y then fndS xs y ((lo + hi) / 2 + 1) hi (q + 1) else fndS xs y lo ((lo + hi) / 2) (q + 1)) else (lo, q)
termination_by hi - lo
decreasing_by all_goals omega
theorem fndS_end {xs : List Int} {y : Int} {lo hi : Nat} {q : Int} (h : hi ≤ lo) : fndS xs y lo hi q = (lo, q) := by rw [fndS, dif_neg (by omega)]
theorem fndS_hi {xs : List Int} {y : Int} {lo hi m : Nat} {q : Int} (h : lo < hi) (hm : m = (lo + hi) / 2) (hle : xs.getD m 0 < y) : fndS xs y (m + 1) hi (q + 1) = fndS xs y lo hi q := by subst hm; rw [fndS.eq_1 xs y lo hi, dif_pos h, if_pos hle]
theorem fndS_lo {xs : List Int} {y : Int} {lo hi m : Nat} {q : Int} (h : lo < hi) (hm : m = (lo + hi) / 2) (hle : y ≤ xs.getD m 0) : fndS xs y lo m (q + 1) = fndS xs y lo hi q := by subst hm; rw [fndS.eq_1 xs y lo hi, dif_pos h, if_neg (by omega)]
theorem fndS_in {xs : List Int} {y : Int} : ∀ (f lo hi : Nat) (q : Int), hi - lo ≤ f → lo ≤ hi → lo ≤ (fndS xs y lo hi q).1 ∧ (fndS xs y lo hi q).1 ≤ hi ∧ q ≤ (fndS xs y lo hi q).2 ∧ (fndS xs y lo hi q).2 ≤ q + (hi - lo : Nat)
  | 0, lo, hi, q, hf, h => by rw [fndS_end (by omega)]; exact ⟨Nat.le_refl _, h, by simp, by simp only; omega⟩
  | f + 1, lo, hi, q, hf, h => by
    by_cases hlt : lo < hi
    · obtain ⟨m, hm⟩ : ∃ m, m = (lo + hi) / 2 := ⟨_, rfl⟩
      rcases Int.lt_or_le (xs.getD m 0) y with hc | hc
      · rw [← fndS_hi hlt hm hc]
        have := fndS_in (xs := xs) (y := y) f (m + 1) hi (q + 1) (by omega) (by omega)
        omega
      · rw [← fndS_lo hlt hm hc]
        have := fndS_in (xs := xs) (y := y) f lo m (q + 1) (by omega) (by omega)
        omega
    · rw [fndS_end (by omega)]; exact ⟨Nat.le_refl _, h, by simp, by simp only; omega⟩
/-- How many keys are less than y. -/
def lessN (xs : List Int) (y : Int) : Nat → Nat
  | 0 => 0
  | n + 1 => lessN xs y n + if xs.getD n 0 < y then 1 else 0
theorem lessN_upto {xs : List Int} {y : Int} {p : Nat} : ∀ n, (∀ j, j < p → j < n → xs.getD j 0 < y) → (∀ j, p ≤ j → j < n → y ≤ xs.getD j 0) → lessN xs y n = min p n
  | 0, _, _ => by simp [lessN]
  | n + 1, h1, h2 => by
    rw [lessN, lessN_upto n (fun j a b => h1 j a (by omega)) (fun j a b => h2 j a (by omega))]
    by_cases h : n < p
    · rw [if_pos (h1 n h (by omega))]; omega
    · rw [if_neg (by have := h2 n (by omega) (by omega); omega)]; omega
theorem fndS_at {xs : List Int} {y : Int} (hs : ∀ a b, a < b → b < xs.length → xs.getD a 0 ≤ xs.getD b 0) : ∀ (f lo hi : Nat) (q : Int), hi - lo ≤ f → lo ≤ hi → hi ≤ xs.length → (∀ j, j < lo → xs.getD j 0 < y) → (∀ j, hi ≤ j → j < xs.length → y ≤ xs.getD j 0) → (fndS xs y lo hi q).1 = lessN xs y xs.length
  | 0, lo, hi, q, hf, h, hl, h1, h2 => by
    rw [fndS_end (by omega), lessN_upto (p := lo) _ (fun j a _ => h1 j a) (fun j a b => h2 j (by omega) b)]; simp only; omega
  | f + 1, lo, hi, q, hf, h, hl, h1, h2 => by
    by_cases hlt : lo < hi
    · obtain ⟨m, hm⟩ : ∃ m, m = (lo + hi) / 2 := ⟨_, rfl⟩
      rcases Int.lt_or_le (xs.getD m 0) y with hc | hc
      · rw [← fndS_hi hlt hm hc]
        exact fndS_at hs f (m + 1) hi (q + 1) (by omega) (by omega) hl (fun j a => by
          by_cases e : j = m
          · rw [e]; exact hc
          · have := hs j m (by omega) (by omega); omega) h2
      · rw [← fndS_lo hlt hm hc]
        exact fndS_at hs f lo m (q + 1) (by omega) (by omega) (by omega) h1 (fun j a b => by
          by_cases e : j = m
          · rw [e]; exact hc
          · have := hs m j (by omega) b; omega)
    · rw [fndS_end (by omega), lessN_upto (p := lo) _ (fun j a _ => h1 j a) (fun j a b => h2 j (by omega) b)]; simp only; omega
theorem drop_at {xs : List Int} {i : Nat} (h : i < xs.length) : xs.drop i = xs.getD i 0 :: xs.drop (i + 1) := by
  rw [List.drop_eq_getElem_cons h, List.getD_eq_getElem?_getD, List.getElem?_eq_getElem h]; rfl
/-- Two lists merged, and how often was asked. -/
def mrg : List Int → List Int → List Int × Int
  | [], b => (b, 0)
  | a, [] => (a, 0)
  | x :: a, y :: b => if y < x then (y :: (mrg (x :: a) b).1, (mrg (x :: a) b).2 + 1) else (x :: (mrg a (y :: b)).1, (mrg a (y :: b)).2 + 1)
theorem mrg_nil (a : List Int) : mrg a [] = (a, 0) := by cases a <;> simp [mrg]
theorem nil_mrg (b : List Int) : mrg [] b = (b, 0) := by simp [mrg]
theorem mrg_perm : ∀ a b, (mrg a b).1.Perm (a ++ b)
  | [], b => by rw [nil_mrg]; exact List.Perm.refl _
  | x :: a, [] => by rw [mrg_nil]; simp
  | x :: a, y :: b => by
    rw [mrg]
    split
    · exact ((mrg_perm (x :: a) b).cons y).trans (List.perm_middle.symm)
    · exact (mrg_perm a (y :: b)).cons x
termination_by a b => a.length + b.length
theorem mrg_len (a b : List Int) : (mrg a b).1.length = a.length + b.length := by rw [(mrg_perm a b).length_eq, List.length_append]
theorem mrg_asks : ∀ a b : List Int, 0 ≤ (mrg a b).2 ∧ ((min a.length b.length : Nat) : Int) ≤ (mrg a b).2 ∧ (mrg a b).2 ≤ (a.length + b.length - 1 : Nat)
  | [], b => by rw [nil_mrg]; simp
  | x :: a, [] => by rw [mrg_nil]; simp
  | x :: a, y :: b => by
    rw [mrg]
    split
    · have := mrg_asks (x :: a) b
      simp only [List.length_cons] at this ⊢; omega
    · have := mrg_asks a (y :: b)
      simp only [List.length_cons] at this ⊢; omega
termination_by a b => a.length + b.length
theorem mrg_a {a b : List Int} {i k : Nat} (hi : i < a.length) (h : b.length ≤ k ∨ a.getD i 0 ≤ b.getD k 0) : mrg (a.drop i) (b.drop k) = (a.getD i 0 :: (mrg (a.drop (i + 1)) (b.drop k)).1, (mrg (a.drop (i + 1)) (b.drop k)).2 + if k < b.length then 1 else 0) := by
  rw [drop_at hi]
  by_cases hk : k < b.length
  · rw [drop_at hk, mrg, if_neg (by omega), if_pos hk]
  · rw [List.drop_eq_nil_of_le (by omega : b.length ≤ k), mrg_nil, mrg_nil, if_neg hk]; rfl
theorem mrg_b {a b : List Int} {i k : Nat} (hk : k < b.length) (h : a.length ≤ i ∨ b.getD k 0 < a.getD i 0) : mrg (a.drop i) (b.drop k) = (b.getD k 0 :: (mrg (a.drop i) (b.drop (k + 1))).1, (mrg (a.drop i) (b.drop (k + 1))).2 + if i < a.length then 1 else 0) := by
  rw [drop_at hk]
  by_cases hi : i < a.length
  · rw [drop_at hi, mrg, if_pos (by omega), if_pos hi]
  · rw [List.drop_eq_nil_of_le (by omega : a.length ≤ i), nil_mrg, nil_mrg, if_neg hi]; rfl
theorem mrg_srt : ∀ a b : List Int, a.Pairwise (· ≤ ·) → b.Pairwise (· ≤ ·) → (mrg a b).1.Pairwise (· ≤ ·)
  | [], b, _, hb => by rw [nil_mrg]; exact hb
  | x :: a, [], ha, _ => by rw [mrg_nil]; exact ha
  | x :: a, y :: b, ha, hb => by
    rw [mrg]
    have ha' := List.pairwise_cons.1 ha
    have hb' := List.pairwise_cons.1 hb
    split
    · rename_i hc
      refine List.pairwise_cons.2 ⟨fun z hz => ?_, mrg_srt (x :: a) b ha hb'.2⟩
      have := (mrg_perm (x :: a) b).mem_iff.1 hz
      simp only [List.mem_append, List.mem_cons] at this
      rcases this with (h | h) | h
      · omega
      · have := ha'.1 z h; omega
      · exact hb'.1 z h
    · rename_i hc
      refine List.pairwise_cons.2 ⟨fun z hz => ?_, mrg_srt a (y :: b) ha'.2 hb⟩
      have := (mrg_perm a (y :: b)).mem_iff.1 hz
      simp only [List.mem_append, List.mem_cons] at this
      rcases this with h | (h | h)
      · exact ha'.1 z h
      · omega
      · have := hb'.1 z h; omega
termination_by a b => a.length + b.length
/-- In how many ways m and i things are merged, one by one. -/
def mdN (m : Nat) : Nat → Nat
  | 0 => 1
  | i + 1 => mdN m i * (m + (i + 1)) / (i + 1)
theorem mdN_in : ∀ m, m ≤ 8 → ∀ i, i ≤ 8 → 1 ≤ mdN m i ∧ mdN m i ≤ 12870 := by decide
theorem mdN_turn : ∀ m, m ≤ 8 → ∀ k, k ≤ 8 → mdN k m = mdN m k := by decide
theorem mdN_sum : ∀ m, m ≤ 7 → ∀ k, k ≤ 7 → mdN (m + 1) (k + 1) = mdN m (k + 1) + mdN (m + 1) k := by decide
theorem mdN_one : ∀ m, m ≤ 8 → mdN 0 m = 1 ∧ mdN m 0 = 1 := by decide

/-- Whether two lists of keys may be merged. -/
def okM (xs ys : List Int) : Bool := validB xs && validB ys && srt xs && srt ys && decide (xs.length + ys.length ≤ 8)
theorem okM_iff {xs ys : List Int} : okM xs ys = true ↔ validB xs = true ∧ validB ys = true ∧ srt xs = true ∧ srt ys = true ∧ xs.length + ys.length ≤ 8 := by
  unfold okM; simp only [Bool.and_eq_true, decide_eq_true_eq, and_assoc]


theorem mdS_step : ∀ a : Nat, a ≤ 8 → ∀ j : Nat, j ≤ 8 → 0 ≤ ((mdN a j : Nat) : Int) * ((a : Int) + ((j : Int) + 1)) ∧ ((mdN a j : Nat) : Int) * ((a : Int) + ((j : Int) + 1)) ≤ 1000000 ∧ ((mdN a j : Nat) : Int) * ((a : Int) + ((j : Int) + 1)) / ((j : Int) + 1) = ((mdN a (j + 1) : Nat) : Int) ∧ ((mdN a (j + 1) : Nat) : Int) ≤ 1000000 := by decide
theorem mdI_step : ∀ a : Nat, a ≤ 8 → ∀ j : Nat, j ≤ 8 → 0 ≤ ((mdN a j : Nat) : Int) * ((a : Int) + (j : Int) + 1) ∧ ((mdN a j : Nat) : Int) * ((a : Int) + (j : Int) + 1) ≤ 1000000 ∧ ((mdN a j : Nat) : Int) * ((a : Int) + (j : Int) + 1) / ((j : Int) + 1) = ((mdN a (j + 1) : Nat) : Int) ∧ ((mdN a (j + 1) : Nat) : Int) ≤ 1000000 := by decide


theorem implMergeOrders_sat : Sat Try.prog 34 (fun ds Q => ∃ (m k : Int), ds = [.val (.int .i64 (m)), .val (.int .i64 (k))] ∧ Q (.val (.int .i64 ((if 0 ≤ m ∧ m ≤ 8 ∧ 0 ≤ k ∧ k ≤ 8 then ((mdN m.toNat k.toNat : Nat) : Int) else -1))))) := by
  refine sat_intro tabOk Try.func34 rfl 36 rfl [.tmp 4] rfl ?_
  rintro ds Q W ⟨m, k, rfl, hQ⟩
  refine ⟨Nat.le_of_ble_eq_true rfl, ?_⟩
  simp only [initS, initT, mat.matL, mat, Cont.len]
  by_cases hc : 0 ≤ m ∧ m ≤ 8 ∧ 0 ≤ k ∧ k ≤ 8
  · obtain ⟨a, rfl⟩ : ∃ a : Nat, m = a := ⟨m.toNat, by omega⟩
    obtain ⟨b, rfl⟩ : ∃ b : Nat, k = b := ⟨k.toNat, by omega⟩
    rw [if_pos hc] at hQ
    simp only [Int.toNat_natCast] at hQ
    rw [← mdN_turn a (by omega) b (by omega)] at hQ
    repeat' (first | refine awp_seq_k fun K hK => ?_ | ((with_reducible refine hK _ ?_); clear hK K) | (clear hK K; (with_reducible refine hK _ ?_); clear hK K) | (clear hK K; clear hK K; (with_reducible refine hK _ ?_); clear hK K) | (clear hK K; clear hK K; clear hK K; (with_reducible refine hK _ ?_); clear hK K) | (clear hK K; clear hK K; clear hK K; clear hK K; (with_reducible refine hK _ ?_); clear hK K) | (clear hK K; clear hK K; clear hK K; clear hK K; clear hK K; (with_reducible refine hK _ ?_); clear hK K) | ((with_reducible refine aord_plain fun K hK => ?_); simp only [go_sem, Nat.reduceAdd, Nat.reduceMul, Nat.reduceEqDiff, Nat.reduceLT, reduceIte, reduceCtorEq]) | ((with_reducible apply aord_guard); (focus (simp only [St.ev, St.set, upd, Nat.reduceEqDiff, reduceIte, ifA, ifB]; exact rfl)); all_goals (intro hb; (try simp only [Bool.not_true, Bool.not_false] at hb); first | (cases hb; done) | ((try rw [hb]); (try simp only [Bool.not_eq_true', Bool.not_eq_false', Bool.and_eq_true, dcA, dcB, dcC, dcD, dcE] at hb); (try (revert hb; with_reducible refine true_imp_iff.2 ?_)); first | (intro K hK; simp only [go_sem, Nat.reduceAdd, Nat.reduceMul, Nat.reduceEqDiff, Nat.reduceLT, reduceIte, reduceCtorEq]) | (simp only [St.ev, St.set, upd, Nat.reduceEqDiff, reduceIte, ifA, ifB]) | skip))) | ((with_reducible apply aord_skip); (focus (simp only [St.ev, St.set, upd, Nat.reduceEqDiff, reduceIte, ifA, ifB]; done)); (simp only [St.ev, St.set, upd, Nat.reduceEqDiff, reduceIte, ifA, ifB])) | refine awp_block ?_ | ((first | with_reducible refine aord_nil ?_ | refine awp_skip ?_ | refine awp_exit ?_ | refine awp_ret ?_); try simp only [rdA, Nat.reduceEqDiff, ifA, ifB, reduceIte]) | (refine awp_region tabOk rfl ?_; simp only [prep, pickO, lsA, lsB, lsC, lsD, lsE, lsF, lsG]) | ((with_reducible apply awp_cond); (focus (simp only [St.ev, St.set, upd, Nat.reduceEqDiff, reduceIte, ifA, ifB]; exact rfl)); all_goals (intro hb; first | (cases hb; done) | ((try rw [hb]); (try simp only [dcA, dcB, dcC, dcD, dcE, Bool.not_eq_true', Bool.not_eq_false'] at hb)))) | ((with_reducible refine And.intro ?_ ?_); (focus omega)) | ((with_reducible refine And.intro ?_ ?_); (focus (exact rfl))) | (with_reducible refine And.intro (fun hb => ?_) (fun hb => ?_)) | (exfalso; omega) | fail)
    refine awp_loopE (α := Nat) (fun s p => ⟨(upd (upd (upd (upd bot 1 (s.tmps 1)) 5 (.val (.int .i64 (((mdN b p : Nat) : Int))))) 21 (s.tmps 21)) 22 (.val (.int .i64 (p)))), s.heap, s.next⟩) _ (fun p => by simp only [St.ev, St.set, upd, Nat.reduceEqDiff, reduceIte, ifA, ifB]; exact rfl) (fun p => (p ≤ a)) (fun p => a - p) (0) ?_ ?_ ?_
    · (try simp only); (refine ?_ <;> (first | omega | (simp only; omega) | rfl | (simp; done) | skip))
    · (apply Wk.same; (case' h2 => (focus ((repeat' (with_reducible first | exact HeapX.bot | (apply HeapX.skip; (case hx => (simp; done))) | apply HeapX.none | apply HeapX.upd)); all_goals (first | rfl | exact Nat.le_of_ble_eq_true rfl | (simp only [St.set, St.ev, upd, ren, renL, id, Nat.reduceEqDiff, reduceIte, ContLe]; done) | (exact And.intro rfl (And.intro (by first | exact Nat.le_of_ble_eq_true rfl | omega) (by first | exact Nat.le_of_ble_eq_true rfl | omega))) | (first | (simp only [St.set, St.ev, upd, ren, renL, id, Nat.reduceEqDiff, reduceIte]; exact contLe_nil) | ((repeat' (first | exact contLe_nil | refine contLe_cons (.inr ⟨?_, rfl⟩) ?_)); all_goals (first | rfl | (simp only [St.set, St.ev, upd, ren, renL, id, Nat.reduceEqDiff, reduceIte]; done) | ((try simp only [St.set, St.ev, upd, ren, renL, id, Nat.reduceEqDiff, reduceIte]); first | (with_reducible exact av_int (by omega)) | (with_reducible exact av_sl (by first | omega | (simp; done) | (simp; omega)) (by first | omega | (simp; done) | (simp; omega)))) | (simp only [St.set, St.ev, upd, ren, renL, id, Nat.reduceEqDiff, reduceIte, Int.natCast_add, Int.natCast_one, Int.cast_ofNat_Int, Int.natCast_zero]; done) | (simp only [St.set, St.ev, upd, ren, renL, id, Nat.reduceEqDiff, reduceIte]) | skip); done)) | (simp only [St.set, St.ev, upd, ren, renL, id, Nat.reduceEqDiff, reduceIte, ContLe]) | skip)))); (case' h1 => (focus ((repeat' (with_reducible first | exact TmpLe.bot | refine TmpLe.upd ?_ rfl ?_)); all_goals (first | rfl | (simp only [St.set, St.ev, upd, ren, renL, id, Nat.reduceEqDiff, reduceIte]; done) | ((try simp only [St.set, St.ev, upd, ren, renL, id, Nat.reduceEqDiff, reduceIte]); first | (with_reducible exact av_int (by omega)) | (with_reducible exact av_sl (by first | omega | (simp; done) | (simp; omega)) (by first | omega | (simp; done) | (simp; omega)))) | (simp only [St.set, St.ev, upd, ren, renL, id, Nat.reduceEqDiff, reduceIte, Int.natCast_add, Int.natCast_one, Int.cast_ofNat_Int, Int.natCast_zero]; done) | (simp only [St.set, St.ev, upd, ren, renL, id, Nat.reduceEqDiff, reduceIte]) | skip)))); (case h3 => (focus (first | (simp only [id, List.map_cons, List.map_nil]; decide) | decide | (simp; done) | (simp; omega) | fail))); (case h4 => (intro o l h; first | (cases h; done) | (have hlt0 := m0_lt (by assumption) h; (try (simp only at hlt0)); first | omega | (simp only; omega) | exact ⟨by (first | rfl | (simp only [id]; done) | ((repeat rw [if_neg (by omega)]); done)), by first | omega | (simp only; omega)⟩))))
    rintro j hj
    try simp only at hj
    have hin := mdN_in b (by omega) j (by omega)
    rcases Nat.lt_or_ge j a with hjb | hjb
    · obtain ⟨q1, q2, q3, q4⟩ := mdI_step b (by omega) j (by omega)
      repeat' (first | refine awp_seq_k fun K hK => ?_ | ((with_reducible refine hK _ ?_); clear hK K) | (clear hK K; (with_reducible refine hK _ ?_); clear hK K) | (clear hK K; clear hK K; (with_reducible refine hK _ ?_); clear hK K) | (clear hK K; clear hK K; clear hK K; (with_reducible refine hK _ ?_); clear hK K) | (clear hK K; clear hK K; clear hK K; clear hK K; (with_reducible refine hK _ ?_); clear hK K) | (clear hK K; clear hK K; clear hK K; clear hK K; clear hK K; (with_reducible refine hK _ ?_); clear hK K) | ((with_reducible refine aord_plain fun K hK => ?_); simp only [go_sem, Nat.reduceAdd, Nat.reduceMul, Nat.reduceEqDiff, Nat.reduceLT, reduceIte, reduceCtorEq]) | ((with_reducible apply aord_guard); (focus (simp only [St.ev, St.set, upd, Nat.reduceEqDiff, reduceIte, ifA, ifB]; exact rfl)); all_goals (intro hb; (try simp only [Bool.not_true, Bool.not_false] at hb); first | (cases hb; done) | ((try rw [hb]); (try simp only [Bool.not_eq_true', Bool.not_eq_false', Bool.and_eq_true, dcA, dcB, dcC, dcD, dcE] at hb); (try (revert hb; with_reducible refine true_imp_iff.2 ?_)); first | (intro K hK; simp only [go_sem, Nat.reduceAdd, Nat.reduceMul, Nat.reduceEqDiff, Nat.reduceLT, reduceIte, reduceCtorEq]) | (simp only [St.ev, St.set, upd, Nat.reduceEqDiff, reduceIte, ifA, ifB]) | skip))) | ((with_reducible apply aord_skip); (focus (simp only [St.ev, St.set, upd, Nat.reduceEqDiff, reduceIte, ifA, ifB]; done)); (simp only [St.ev, St.set, upd, Nat.reduceEqDiff, reduceIte, ifA, ifB])) | refine awp_block ?_ | ((first | with_reducible refine aord_nil ?_ | refine awp_skip ?_ | refine awp_exit ?_ | refine awp_ret ?_); try simp only [rdA, Nat.reduceEqDiff, ifA, ifB, reduceIte]) | (refine awp_region tabOk rfl ?_; simp only [prep, pickO, lsA, lsB, lsC, lsD, lsE, lsF, lsG]) | ((with_reducible apply awp_cond); (focus (simp only [St.ev, St.set, upd, Nat.reduceEqDiff, reduceIte, ifA, ifB]; exact rfl)); all_goals (intro hb; first | (cases hb; done) | ((try rw [hb]); (try simp only [dcA, dcB, dcC, dcD, dcE, Bool.not_eq_true', Bool.not_eq_false'] at hb)))) | ((with_reducible refine And.intro ?_ ?_); (focus omega)) | ((with_reducible refine And.intro ?_ ?_); (focus (exact rfl))) | (with_reducible refine And.intro (fun hb => ?_) (fun hb => ?_)) | (exfalso; omega) | fail)
      ((refine Exists.intro (j + 1) ?_); (refine nxt ?_ ?_ ?_); (focus ((apply Wk.same; (case' h2 => (focus ((repeat' (with_reducible first | exact HeapX.bot | (apply HeapX.skip; (case hx => (simp; done))) | apply HeapX.none | apply HeapX.upd)); all_goals (first | rfl | exact Nat.le_of_ble_eq_true rfl | (simp only [St.set, St.ev, upd, ren, renL, id, Nat.reduceEqDiff, reduceIte, ContLe]; done) | (exact And.intro rfl (And.intro (by first | exact Nat.le_of_ble_eq_true rfl | omega) (by first | exact Nat.le_of_ble_eq_true rfl | omega))) | (first | (simp only [St.set, St.ev, upd, ren, renL, id, Nat.reduceEqDiff, reduceIte]; exact contLe_nil) | ((repeat' (first | exact contLe_nil | refine contLe_cons (.inr ⟨?_, rfl⟩) ?_)); all_goals (first | rfl | (simp only [St.set, St.ev, upd, ren, renL, id, Nat.reduceEqDiff, reduceIte]; done) | ((try simp only [St.set, St.ev, upd, ren, renL, id, Nat.reduceEqDiff, reduceIte]); first | (with_reducible exact av_int (by omega)) | (with_reducible exact av_sl (by first | omega | (simp; done) | (simp; omega)) (by first | omega | (simp; done) | (simp; omega)))) | (simp only [St.set, St.ev, upd, ren, renL, id, Nat.reduceEqDiff, reduceIte, Int.natCast_add, Int.natCast_one, Int.cast_ofNat_Int, Int.natCast_zero]; done) | (simp only [St.set, St.ev, upd, ren, renL, id, Nat.reduceEqDiff, reduceIte]) | skip); done)) | (simp only [St.set, St.ev, upd, ren, renL, id, Nat.reduceEqDiff, reduceIte, ContLe]) | skip)))); (case' h1 => (focus ((repeat' (with_reducible first | exact TmpLe.bot | refine TmpLe.upd ?_ rfl ?_)); all_goals (first | rfl | (simp only [St.set, St.ev, upd, ren, renL, id, Nat.reduceEqDiff, reduceIte]; done) | ((try simp only [St.set, St.ev, upd, ren, renL, id, Nat.reduceEqDiff, reduceIte]); first | (with_reducible exact av_int (by omega)) | (with_reducible exact av_sl (by first | omega | (simp; done) | (simp; omega)) (by first | omega | (simp; done) | (simp; omega)))) | (simp only [St.set, St.ev, upd, ren, renL, id, Nat.reduceEqDiff, reduceIte, Int.natCast_add, Int.natCast_one, Int.cast_ofNat_Int, Int.natCast_zero]; done) | (simp only [St.set, St.ev, upd, ren, renL, id, Nat.reduceEqDiff, reduceIte]) | skip)))); (case h3 => (focus (first | (simp only [id, List.map_cons, List.map_nil]; decide) | decide | (simp; done) | (simp; omega) | fail))); (case h4 => (intro o l h; first | (cases h; done) | (have hlt0 := m0_lt (by assumption) h; (try (simp only at hlt0)); first | omega | (simp only; omega) | exact ⟨by (first | rfl | (simp only [id]; done) | ((repeat rw [if_neg (by omega)]); done)), by first | omega | (simp only; omega)⟩)))))); (focus (first | omega | (simp only; omega) | (simp only [List.length_take]; omega) | (simp; done) | (simp; omega))); ((repeat' (with_reducible apply And.intro)) <;> (first | omega | (simp only; omega) | assumption | rfl | ((try simp only); exact q3) | skip)))
    · repeat' (first | refine awp_seq_k fun K hK => ?_ | ((with_reducible refine hK _ ?_); clear hK K) | (clear hK K; (with_reducible refine hK _ ?_); clear hK K) | (clear hK K; clear hK K; (with_reducible refine hK _ ?_); clear hK K) | (clear hK K; clear hK K; clear hK K; (with_reducible refine hK _ ?_); clear hK K) | (clear hK K; clear hK K; clear hK K; clear hK K; (with_reducible refine hK _ ?_); clear hK K) | (clear hK K; clear hK K; clear hK K; clear hK K; clear hK K; (with_reducible refine hK _ ?_); clear hK K) | ((with_reducible refine aord_plain fun K hK => ?_); simp only [go_sem, Nat.reduceAdd, Nat.reduceMul, Nat.reduceEqDiff, Nat.reduceLT, reduceIte, reduceCtorEq]) | ((with_reducible apply aord_guard); (focus (simp only [St.ev, St.set, upd, Nat.reduceEqDiff, reduceIte, ifA, ifB]; exact rfl)); all_goals (intro hb; (try simp only [Bool.not_true, Bool.not_false] at hb); first | (cases hb; done) | ((try rw [hb]); (try simp only [Bool.not_eq_true', Bool.not_eq_false', Bool.and_eq_true, dcA, dcB, dcC, dcD, dcE] at hb); (try (revert hb; with_reducible refine true_imp_iff.2 ?_)); first | (intro K hK; simp only [go_sem, Nat.reduceAdd, Nat.reduceMul, Nat.reduceEqDiff, Nat.reduceLT, reduceIte, reduceCtorEq]) | (simp only [St.ev, St.set, upd, Nat.reduceEqDiff, reduceIte, ifA, ifB]) | skip))) | ((with_reducible apply aord_skip); (focus (simp only [St.ev, St.set, upd, Nat.reduceEqDiff, reduceIte, ifA, ifB]; done)); (simp only [St.ev, St.set, upd, Nat.reduceEqDiff, reduceIte, ifA, ifB])) | refine awp_block ?_ | ((first | with_reducible refine aord_nil ?_ | refine awp_skip ?_ | refine awp_exit ?_ | refine awp_ret ?_); try simp only [rdA, Nat.reduceEqDiff, ifA, ifB, reduceIte]) | (refine awp_region tabOk rfl ?_; simp only [prep, pickO, lsA, lsB, lsC, lsD, lsE, lsF, lsG]) | ((with_reducible apply awp_cond); (focus (simp only [St.ev, St.set, upd, Nat.reduceEqDiff, reduceIte, ifA, ifB]; exact rfl)); all_goals (intro hb; first | (cases hb; done) | ((try rw [hb]); (try simp only [dcA, dcB, dcC, dcD, dcE, Bool.not_eq_true', Bool.not_eq_false'] at hb)))) | ((with_reducible refine And.intro ?_ ?_); (focus omega)) | ((with_reducible refine And.intro ?_ ?_); (focus (exact rfl))) | (with_reducible refine And.intro (fun hb => ?_) (fun hb => ?_)) | (exfalso; omega) | fail)
      simp only [St.set, St.ev, doneQ, doneH, ressK, resK, wrapR, AV.ids, AV.idsL, retK, retsK, upd, Nat.reduceEqDiff, reduceIte, ifA, ifB, List.nodup_nil, List.nodup_cons, List.not_mem_nil, not_false_eq_true, true_and, and_true, exists_eq_left', Option.some.injEq, rLoad, cellOf, tab, Ty.isAgg, Ty.one, Bool.false_eq_true]
      rw [show a = j by omega] at hQ
      exact hQ
  · rw [if_neg hc] at hQ

    repeat' (first | refine awp_seq_k fun K hK => ?_ | ((with_reducible refine hK _ ?_); clear hK K) | (clear hK K; (with_reducible refine hK _ ?_); clear hK K) | (clear hK K; clear hK K; (with_reducible refine hK _ ?_); clear hK K) | (clear hK K; clear hK K; clear hK K; (with_reducible refine hK _ ?_); clear hK K) | (clear hK K; clear hK K; clear hK K; clear hK K; (with_reducible refine hK _ ?_); clear hK K) | (clear hK K; clear hK K; clear hK K; clear hK K; clear hK K; (with_reducible refine hK _ ?_); clear hK K) | ((with_reducible refine aord_plain fun K hK => ?_); simp only [go_sem, Nat.reduceAdd, Nat.reduceMul, Nat.reduceEqDiff, Nat.reduceLT, reduceIte, reduceCtorEq]) | ((with_reducible apply aord_guard); (focus (simp only [St.ev, St.set, upd, Nat.reduceEqDiff, reduceIte, ifA, ifB]; exact rfl)); all_goals (intro hb; (try simp only [Bool.not_true, Bool.not_false] at hb); first | (cases hb; done) | ((try rw [hb]); (try simp only [Bool.not_eq_true', Bool.not_eq_false', Bool.and_eq_true, dcA, dcB, dcC, dcD, dcE] at hb); (try (revert hb; with_reducible refine true_imp_iff.2 ?_)); first | (intro K hK; simp only [go_sem, Nat.reduceAdd, Nat.reduceMul, Nat.reduceEqDiff, Nat.reduceLT, reduceIte, reduceCtorEq]) | (simp only [St.ev, St.set, upd, Nat.reduceEqDiff, reduceIte, ifA, ifB]) | skip))) | ((with_reducible apply aord_skip); (focus (simp only [St.ev, St.set, upd, Nat.reduceEqDiff, reduceIte, ifA, ifB]; done)); (simp only [St.ev, St.set, upd, Nat.reduceEqDiff, reduceIte, ifA, ifB])) | refine awp_block ?_ | ((first | with_reducible refine aord_nil ?_ | refine awp_skip ?_ | refine awp_exit ?_ | refine awp_ret ?_); try simp only [rdA, Nat.reduceEqDiff, ifA, ifB, reduceIte]) | (refine awp_region tabOk rfl ?_; simp only [prep, pickO, lsA, lsB, lsC, lsD, lsE, lsF, lsG]) | ((with_reducible apply awp_cond); (focus (simp only [St.ev, St.set, upd, Nat.reduceEqDiff, reduceIte, ifA, ifB]; exact rfl)); all_goals (intro hb; first | (cases hb; done) | ((try rw [hb]); (try simp only [dcA, dcB, dcC, dcD, dcE, Bool.not_eq_true', Bool.not_eq_false'] at hb)))) | ((with_reducible refine And.intro ?_ ?_); (focus omega)) | ((with_reducible refine And.intro ?_ ?_); (focus (exact rfl))) | (with_reducible refine And.intro (fun hb => ?_) (fun hb => ?_)) | (exfalso; omega) | fail)
    all_goals first | (simp only [St.set, St.ev, doneQ, doneH, ressK, resK, wrapR, AV.ids, AV.idsL, retK, retsK, upd, Nat.reduceEqDiff, reduceIte, ifA, ifB, List.nodup_nil, List.nodup_cons, List.not_mem_nil, not_false_eq_true, true_and, and_true, exists_eq_left', Option.some.injEq, rLoad, cellOf, tab, Ty.isAgg, Ty.one, Bool.false_eq_true]; exact hQ) | skip


/-! Two rising lists: the kernel looks at each two lengths. -/
def chOk (m k : Nat) : Bool :=
  let d := m + k
  let F := chTo m (d - 1)
  let L := (ordK d d []).filter (agB F)
  decide (F.length ≤ 20) && (F.all (fun f => decide (0 ≤ f.1) && decide (f.1 < (d : Int)) && decide (0 ≤ f.2) && decide (f.2 < (d : Int))) && ((match L with | [] => false | p :: _ => F.all fun f => decide (fstAt p f.1 p.length < fstAt p f.2 p.length)) && (decide (L.length = mdN m k) && (decide (4 < d) || canB enLB prL d (d - 1) L))))
theorem ch_ok : ∀ m, m < 6 → ∀ k, k < 6 → m + k ≤ 5 → chOk m k = true := by decide +kernel
theorem ch_all {m k : Nat} (h : m + k ≤ 5) : VF ((m : Int) + (k : Int)) (chL m k) ∧ (orO ((m : Int) + (k : Int)) (chL m k)).length = mdN m k ∧ (m + k ≤ 4 → leA ((m : Int) + (k : Int)) (chL m k) ≤ max ((m : Int) + (k : Int) - 1) 0) := by
  have hok := ch_ok m (by omega) k (by omega) h
  have ez : (m : Int) + (k : Int) = ((m + k : Nat) : Int) := (Int.natCast_add m k).symm
  have eL : chL m k = chTo m (m + k - 1) := by
    unfold chL chB
    rw [decide_eq_true (by omega), if_pos rfl]
    congr 1; omega
  rw [ez, eL]
  unfold chOk at hok
  simp only [Bool.and_eq_true] at hok
  obtain ⟨h1, h2, h3, h4, h5⟩ := hok
  rw [List.all_eq_true] at h2
  have hi : itemsIn (m + k) (chTo m (m + k - 1)) := fun f hf => by
    have := h2 f hf
    simp only [Bool.and_eq_true, decide_eq_true_eq] at this
    omega
  have hV : VF ((m + k : Nat) : Int) (chTo m (m + k - 1)) := by
    cases hL : (ordK (m + k) (m + k) []).filter (agB (chTo m (m + k - 1))) with
    | nil => rw [hL] at h3; cases h3
    | cons p l =>
      rw [hL] at h3
      dsimp only at h3
      rw [List.all_eq_true] at h3
      exact VF_strict (p := p) h (of_decide_eq_true h1) hi fun f hf => of_decide_eq_true (h3 f hf)
  refine ⟨hV, by rw [orO_ag hV]; exact of_decide_eq_true h4, fun h9 => ?_⟩
  rw [leA_yes hV h9]
  rw [Bool.or_eq_true, decide_eq_true_eq] at h5
  rcases h5 with h5 | h5
  · omega
  · have := (le_is hV (m + k - 1)).1 (by rw [orO_ag hV]; exact canB_sound enLB_to _ h5)
    omega
theorem chL_len (m k : Int) : (chL m k).length ≤ 10 := by
  unfold chL
  split
  · rename_i h
    have h2 := of_decide_eq_true h
    have := chTo_len m.toNat (m + k - 1).toNat
    omega
  · simp


end Go.Proofs.Ytacmgdaonacmeaa
