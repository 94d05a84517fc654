/- Contracts of functions of the program. -/
import Derived.Test.YtacmgdaonacmeaaPAskd
import Derived.ScopeJumps
namespace Go.Proofs.Ytacmgdaonacmeaa
open Go Go.Ab
set_option linter.all false
set_option maxHeartbeats 4000000

-- %range awp_region_tree
theorem few_K_sat : ∀ fu, SatH Try.prog 50 (fun al h n K0 => ∃ (d O : Nat) (g : Nat → Nat) (L : List (List Int)) (KB kk : Nat), al = [.val (.int .i64 d), .sl O 0 L.length 1 none, .clo (.func 64) [] [.ref KB 0]] ∧ h KB = some ⟨true, .cells [.val (.int .i64 kk)]⟩ ∧ kk < d ∧ RowsOf h n O g L ∧ GoodL d L ∧ d ≤ 5 ∧ L.length ≤ fu ∧ L.length ≤ 120 ∧ ∀ (v N : Nat), IsFew (enK kk) d L v → v ≤ L.length → n ≤ N → K0 (.val (.int .i64 v)) h N) := by
  intro fu
  induction fu with
  | zero =>
    refine satH_intro tabOk Try.func50 rfl 48 rfl [.tmp 6] rfl ?_
    rintro F W h n al K0 ⟨d, O, g, L, KB, kk, rfl, hKB, hkd, hR, hg, hd5, hlf, hcap, hQ⟩
    refine ⟨Nat.le_of_ble_eq_true rfl, fun m0 hm0 hcl hlt => ?_⟩
    simp only [initT]
    have hOn := hR.outn
    have mz1 : (n = n + 1) = False := eq_false (by omega)
    have mz2 : (n + 1 = n) = False := eq_false (by omega)
    have mz3 : (n = n + 2) = False := eq_false (by omega)
    have mz4 : (n + 2 = n) = False := eq_false (by omega)
    have mz5 : (n = n + 3) = False := eq_false (by omega)
    have mz6 : (n + 3 = n) = False := eq_false (by omega)
    have mz := And.intro mz1 (And.intro mz2 (And.intro mz3 (And.intro mz4 (And.intro mz5 mz6))))
    have kinds_few := @enK_few kk; have hKBn := (hcl KB _ hKB).1


    repeat' ((fail_if_success (with_reducible refine isRetQ ?_)); (first | refine awp_seq_k fun K hK => ?_ | ((with_reducible refine hK _ ?_); clear hK K) | ((with_reducible refine aord_plain fun K hK => ?_); simp only [go_sem, Nat.reduceAdd, Nat.reduceMul, Nat.reduceEqDiff, Nat.reduceLT, reduceIte, reduceCtorEq, mz, nmA, Nat.reduceAdd, ifA, ifB, mz, mat.matL, DV.agg.injEq, AV.clo.injEq, List.cons.injEq, AV.ref.injEq, and_true, true_and]) | ((first | with_reducible refine aord_nil ?_ | refine awp_skip ?_ | refine awp_exit ?_ | refine awp_ret ?_); try simp only [rdA, Nat.reduceEqDiff, ifA, ifB, reduceIte]) | (refine awp_region tabOk rfl ?_; simp only [prep, pickO, lsA, lsB, lsC, lsD, lsE, lsF, lsG]) | ((with_reducible refine And.intro (?_ : enters Try.prog 64) ?_); (focus exact Try.call64); (refine callX_satH pickEn_sat ?_); simp only [go_sem, and_assoc, List.nil_append, List.append_nil, List.cons_append, Nat.reduceEqDiff, reduceIte, reduceCtorEq, mz, nmA, Nat.reduceAdd, ifA, ifB, mz, mat.matL, DV.agg.injEq, AV.clo.injEq, List.cons.injEq, AV.ref.injEq, and_true, true_and]) | fail))
    refine ⟨KB, kk, g, L, rfl, rfl, hR.keepN (by omega) (by (repeat rw [upd_ne _ _ (by omega)])) (fun j hj => by have := (hR.lt j hj).1; (repeat rw [upd_ne _ _ (by omega)])), (by (repeat rw [if_neg (by omega)]); exact hKB), fun j hj => (by have := (hg.row hj).1; omega), by omega, fun v hv => ?_⟩
    cases v with
    | false => exact absurd (show enK kk L from (kinds_few _ (by omega))) (fun e => by cases hv.2 e)
    | true =>


      repeat' ((fail_if_success (with_reducible refine isRetQ ?_)); (first | refine awp_seq_k fun K hK => ?_ | ((with_reducible refine hK _ ?_); clear hK K) | ((with_reducible refine aord_plain fun K hK => ?_); simp only [go_sem, Nat.reduceAdd, Nat.reduceMul, Nat.reduceEqDiff, Nat.reduceLT, reduceIte, reduceCtorEq, mz, nmA, Nat.reduceAdd, ifA, ifB, mz, mat.matL, DV.agg.injEq, AV.clo.injEq, List.cons.injEq, AV.ref.injEq, and_true, true_and]) | ((first | with_reducible refine aord_nil ?_ | refine awp_skip ?_ | refine awp_exit ?_ | refine awp_ret ?_); try simp only [rdA, Nat.reduceEqDiff, ifA, ifB, reduceIte]) | (refine awp_region tabOk rfl ?_; simp only [prep, pickO, lsA, lsB, lsC, lsD, lsE, lsF, lsG]) | ((with_reducible apply awp_cond); (focus (simp only [St.ev, St.set, upd, Nat.reduceEqDiff, reduceIte, ifA, ifB, mz, nmA, Nat.reduceAdd, ifA, ifB]; exact rfl)); all_goals (intro hb; first | (cases hb; done) | ((try rw [hb]); (try simp only [dcA, dcB, dcC, dcD, dcE, Bool.not_eq_true', Bool.not_eq_false'] at hb)))) | fail))
      refine awp_weaken (s' := ⟨upd bot 6 (.val (.int .i64 (0 : Nat))), h, n + 3⟩) (Wk.sub (tsd tsd0 rfl) (fun o ob ho => by have := (hcl o _ ho).1; dsimp only; rw [upd_ne _ _ (by omega), upd_ne _ _ (by omega), upd_ne _ _ (by omega)]; exact ho) rfl) ?_
      repeat' (first | ((first | with_reducible refine aord_nil ?_ | refine awp_skip ?_ | refine awp_exit ?_ | refine awp_ret ?_); try simp only [rdA, Nat.reduceEqDiff, ifA, ifB, reduceIte]) | (simp only [doneH]; simp only [ressK, resK, wrapR, go_sem, Nat.reduceAdd, Nat.reduceMul, Nat.reduceEqDiff, Nat.reduceLT, reduceIte, reduceCtorEq, mz, nmA, Nat.reduceAdd, ifA, ifB]) | fail)
      exact hQ 0 (n + 3) (few_zero (hv.1 rfl)) (Nat.zero_le _) (by omega)
  | succ fu ih =>
    refine satH_intro tabOk Try.func50 rfl 48 rfl [.tmp 6] rfl ?_
    rintro F W h n al K0 ⟨d, O, g, L, KB, kk, rfl, hKB, hkd, hR, hg, hd5, hlf, hcap, hQ⟩
    refine ⟨Nat.le_of_ble_eq_true rfl, fun m0 hm0 hcl hlt => ?_⟩
    simp only [initT]
    have hOn := hR.outn
    have mz1 : (n = n + 1) = False := eq_false (by omega)
    have mz2 : (n + 1 = n) = False := eq_false (by omega)
    have mz3 : (n = n + 2) = False := eq_false (by omega)
    have mz4 : (n + 2 = n) = False := eq_false (by omega)
    have mz5 : (n = n + 3) = False := eq_false (by omega)
    have mz6 : (n + 3 = n) = False := eq_false (by omega)
    have mz := And.intro mz1 (And.intro mz2 (And.intro mz3 (And.intro mz4 (And.intro mz5 mz6))))
    have hrw := hg.rowle hd5
    have hclO := hcl
    have kinds_few := @enK_few kk; have hKBn := (hcl KB _ hKB).1


    repeat' ((fail_if_success (with_reducible refine isRetQ ?_)); (first | refine awp_seq_k fun K hK => ?_ | ((with_reducible refine hK _ ?_); clear hK K) | ((with_reducible refine aord_plain fun K hK => ?_); simp only [go_sem, Nat.reduceAdd, Nat.reduceMul, Nat.reduceEqDiff, Nat.reduceLT, reduceIte, reduceCtorEq, mz, nmA, Nat.reduceAdd, ifA, ifB, mz, mat.matL, DV.agg.injEq, AV.clo.injEq, List.cons.injEq, AV.ref.injEq, and_true, true_and]) | ((first | with_reducible refine aord_nil ?_ | refine awp_skip ?_ | refine awp_exit ?_ | refine awp_ret ?_); try simp only [rdA, Nat.reduceEqDiff, ifA, ifB, reduceIte]) | (refine awp_region tabOk rfl ?_; simp only [prep, pickO, lsA, lsB, lsC, lsD, lsE, lsF, lsG]) | ((with_reducible refine And.intro (?_ : enters Try.prog 64) ?_); (focus exact Try.call64); (refine callX_satH pickEn_sat ?_); simp only [go_sem, and_assoc, List.nil_append, List.append_nil, List.cons_append, Nat.reduceEqDiff, reduceIte, reduceCtorEq, mz, nmA, Nat.reduceAdd, ifA, ifB, mz, mat.matL, DV.agg.injEq, AV.clo.injEq, List.cons.injEq, AV.ref.injEq, and_true, true_and]) | fail))
    refine ⟨KB, kk, g, L, rfl, rfl, hR.keepN (by omega) (by (repeat rw [upd_ne _ _ (by omega)])) (fun j hj => by have := (hR.lt j hj).1; (repeat rw [upd_ne _ _ (by omega)])), (by (repeat rw [if_neg (by omega)]); exact hKB), fun j hj => (by have := (hg.row hj).1; omega), by omega, fun v hv => ?_⟩
    cases v with
    | true =>


      repeat' ((fail_if_success (with_reducible refine isRetQ ?_)); (first | refine awp_seq_k fun K hK => ?_ | ((with_reducible refine hK _ ?_); clear hK K) | ((with_reducible refine aord_plain fun K hK => ?_); simp only [go_sem, Nat.reduceAdd, Nat.reduceMul, Nat.reduceEqDiff, Nat.reduceLT, reduceIte, reduceCtorEq, mz, nmA, Nat.reduceAdd, ifA, ifB, mz, mat.matL, DV.agg.injEq, AV.clo.injEq, List.cons.injEq, AV.ref.injEq, and_true, true_and]) | ((first | with_reducible refine aord_nil ?_ | refine awp_skip ?_ | refine awp_exit ?_ | refine awp_ret ?_); try simp only [rdA, Nat.reduceEqDiff, ifA, ifB, reduceIte]) | (refine awp_region tabOk rfl ?_; simp only [prep, pickO, lsA, lsB, lsC, lsD, lsE, lsF, lsG]) | ((with_reducible apply awp_cond); (focus (simp only [St.ev, St.set, upd, Nat.reduceEqDiff, reduceIte, ifA, ifB, mz, nmA, Nat.reduceAdd, ifA, ifB]; exact rfl)); all_goals (intro hb; first | (cases hb; done) | ((try rw [hb]); (try simp only [dcA, dcB, dcC, dcD, dcE, Bool.not_eq_true', Bool.not_eq_false'] at hb)))) | fail))
      refine awp_weaken (s' := ⟨upd bot 6 (.val (.int .i64 (0 : Nat))), h, n + 3⟩) (Wk.sub (tsd tsd0 rfl) (fun o ob ho => by have := (hcl o _ ho).1; dsimp only; rw [upd_ne _ _ (by omega), upd_ne _ _ (by omega), upd_ne _ _ (by omega)]; exact ho) rfl) ?_
      repeat' (first | ((first | with_reducible refine aord_nil ?_ | refine awp_skip ?_ | refine awp_exit ?_ | refine awp_ret ?_); try simp only [rdA, Nat.reduceEqDiff, ifA, ifB, reduceIte]) | (simp only [doneH]; simp only [ressK, resK, wrapR, go_sem, Nat.reduceAdd, Nat.reduceMul, Nat.reduceEqDiff, Nat.reduceLT, reduceIte, reduceCtorEq, mz, nmA, Nat.reduceAdd, ifA, ifB]) | fail)
      exact hQ 0 (n + 3) (few_zero (hv.1 rfl)) (Nat.zero_le _) (by omega)
    | false =>
      have hen : ¬ enK kk L := fun e => by cases hv.2 e
      have h2 : 2 ≤ L.length := by
        rcases Nat.lt_or_ge L.length 2 with c | c
        · exact (hen (kinds_few _ (by omega))).elim
        · exact c
      clear hv


      repeat' (first | refine awp_seq_k fun K hK => ?_ | ((with_reducible refine hK _ ?_); clear hK K) | ((with_reducible refine aord_plain fun K hK => ?_); simp only [go_sem, Nat.reduceAdd, Nat.reduceMul, Nat.reduceEqDiff, Nat.reduceLT, reduceIte, reduceCtorEq, mz, nmA, Nat.reduceAdd, ifA, ifB, mz, mat.matL, DV.agg.injEq, AV.clo.injEq, List.cons.injEq, AV.ref.injEq, and_true, true_and]) | refine awp_block ?_ | ((first | with_reducible refine aord_nil ?_ | refine awp_skip ?_ | refine awp_exit ?_ | refine awp_ret ?_); try simp only [rdA, Nat.reduceEqDiff, ifA, ifB, reduceIte]) | (refine awp_region tabOk rfl ?_; simp only [prep, pickO, lsA, lsB, lsC, lsD, lsE, lsF, lsG]) | ((with_reducible apply awp_cond); (focus (simp only [St.ev, St.set, upd, Nat.reduceEqDiff, reduceIte, ifA, ifB, mz, nmA, Nat.reduceAdd, ifA, ifB]; exact rfl)); all_goals (intro hb; first | (cases hb; done) | ((try rw [hb]); (try simp only [dcA, dcB, dcC, dcD, dcE, Bool.not_eq_true', Bool.not_eq_false'] at hb)))) | ((with_reducible refine And.intro ?_ ?_); (focus (exact rfl))) | ((with_reducible refine And.intro (?_ : enters Try.prog 42) ?_); (focus exact Try.call42); (refine callX_h (callH_inline tabOk Try.func42 rfl 6 rfl [.tmp 2] rfl (Nat.le_of_ble_eq_true rfl) fun m0 hm0 hcl hlt => ?_)); simp only [initT, St.ev, St.set, upd, Nat.reduceEqDiff, reduceIte, ifA, ifB, mz, nmA, Nat.reduceAdd, ifA, ifB]) | ((with_reducible refine And.intro (?_ : enters Try.prog 60) ?_); (focus exact Try.call60); (refine callX_h (callH_inline tabOk Try.func60 rfl 4 rfl [.tmp 2] rfl (Nat.le_of_ble_eq_true rfl) fun m0 hm0 hcl hlt => ?_)); simp only [initT, St.ev, St.set, upd, Nat.reduceEqDiff, reduceIte, ifA, ifB, mz, nmA, Nat.reduceAdd, ifA, ifB]) | ((with_reducible refine And.intro (?_ : enters Try.prog 59) ?_); (focus exact Try.call59); (refine callX_h (callH_inline tabOk Try.func59 rfl 6 rfl [.tmp 4] rfl (Nat.le_of_ble_eq_true rfl) fun m0 hm0 hcl hlt => ?_)); simp only [initT, St.ev, St.set, upd, Nat.reduceEqDiff, reduceIte, ifA, ifB, mz, nmA, Nat.reduceAdd, ifA, ifB]) | (simp only [doneH]; simp only [ressK, resK, wrapR, go_sem, Nat.reduceAdd, Nat.reduceMul, Nat.reduceEqDiff, Nat.reduceLT, reduceIte, reduceCtorEq, mz, nmA, Nat.reduceAdd, ifA, ifB]) | fail)
      (refine awp_range (gf := 81) (by simp only [St.ev, St.set, upd, Nat.reduceEqDiff, reduceIte, ifA, ifB, mz, nmA, Nat.reduceAdd, ifA, ifB]; first | exact fnV_clo | exact fnV_val) Try.call81 (fun LP LP1 LP2 LP3 LP4 LP5 => callX_h (callH_inline tabOk Try.func81 rfl 16 rfl [] rfl (Nat.le_of_ble_eq_true rfl) fun m0 hm0 hcl hlt => ?_)); simp only [List.nil_append, List.cons_append, initT, St.ev, St.set, upd, Nat.reduceEqDiff, reduceIte, ifA, ifB, mz, nmA, Nat.reduceAdd, ifA, ifB])
      repeat' (first | refine awp_seq_k fun K hK => ?_ | ((with_reducible refine hK _ ?_); clear hK K) | ((with_reducible refine aord_plain fun K hK => ?_); simp only [go_sem, Nat.reduceAdd, Nat.reduceMul, Nat.reduceEqDiff, Nat.reduceLT, reduceIte, reduceCtorEq, mz, nmA, Nat.reduceAdd, ifA, ifB, mz, mat.matL, DV.agg.injEq, AV.clo.injEq, List.cons.injEq, AV.ref.injEq, and_true, true_and]) | refine awp_block ?_ | ((first | with_reducible refine aord_nil ?_ | refine awp_skip ?_ | refine awp_exit ?_ | refine awp_ret ?_); try simp only [rdA, Nat.reduceEqDiff, ifA, ifB, reduceIte]) | (refine awp_region tabOk rfl ?_; simp only [prep, pickO, lsA, lsB, lsC, lsD, lsE, lsF, lsG]) | fail)
      (refine awp_range (gf := 82) (by simp only [St.ev, St.set, upd, Nat.reduceEqDiff, reduceIte, ifA, ifB, mz, nmA, Nat.reduceAdd, ifA, ifB]; first | exact fnV_clo | exact fnV_val) Try.call82 (fun LQ LQ1 LQ2 LQ3 LQ4 LQ5 => callX_h (callH_inline tabOk Try.func82 rfl 26 rfl [] rfl (Nat.le_of_ble_eq_true rfl) fun m0 hm0 hcl hlt => ?_)); simp only [List.nil_append, List.cons_append, initT, St.ev, St.set, upd, Nat.reduceEqDiff, reduceIte, ifA, ifB, mz, nmA, Nat.reduceAdd, ifA, ifB])
      repeat' (first | refine awp_seq_k fun K hK => ?_ | ((with_reducible refine hK _ ?_); clear hK K) | ((with_reducible refine aord_plain fun K hK => ?_); simp only [go_sem, Nat.reduceAdd, Nat.reduceMul, Nat.reduceEqDiff, Nat.reduceLT, reduceIte, reduceCtorEq, mz, nmA, Nat.reduceAdd, ifA, ifB, mz, mat.matL, DV.agg.injEq, AV.clo.injEq, List.cons.injEq, AV.ref.injEq, and_true, true_and]) | refine awp_block ?_ | ((first | with_reducible refine aord_nil ?_ | refine awp_skip ?_ | refine awp_exit ?_ | refine awp_ret ?_); try simp only [rdA, Nat.reduceEqDiff, ifA, ifB, reduceIte]) | (refine awp_region tabOk rfl ?_; simp only [prep, pickO, lsA, lsB, lsC, lsD, lsE, lsF, lsG]) | fail)
      have hI : ∀ G, (∀ u, u < n → G u = h u) → G n = some ⟨true, .cells [.val (.int .i64 d)]⟩ → G (n + 1) = some ⟨true, .cells [.sl O 0 L.length 1 none]⟩ → G (n + 2) = some ⟨true, .cells [.clo (.func 64) [] [.ref KB 0]]⟩ → G (n + 3) = some ⟨true, .cells [.val (.int .i64 ((L.length : Nat) : Int))]⟩ → G (n + 4) = some ⟨true, .cells [.val (.int .i64 d)]⟩ → G (n + 6) = some ⟨true, .cells [.val (.func (.func 76) #[] #[])]⟩ → G (n + 7) = some ⟨true, .raw (.loop LP)⟩ → G (n + 8) = some ⟨true, .cells [.yl (n + 7)]⟩ → G (n + 9) = some ⟨true, .raw (.loop LQ)⟩ → QF h n O d L.length (.clo (.func 64) [] [.ref KB 0]) 76 LP LQ L.length G (n + 10) := fun G g0 g1 g2 g3 g4 g5 g6 g7 g8 g9 => ⟨g0, Nat.le_refl _, g1, g2, g3, g4, g5, g6, g7, g8, g9⟩
      refine awp_loop (fun q : Hp × Nat × Nat × Nat => ⟨upd (upd (upd (upd bot 6 (.val (.int .i64 q.2.2.1))) 5 (.val (.int .i64 d))) 1 (.ref (n + 4) 0)) 0 (.yl (n + 9)), q.1, q.2.1⟩) (fun q => q.2.2.1 ≤ d ∧ FewTo (enK kk) d L q.2.2.1 0 q.2.2.2 ∧ QF h n O d L.length (.clo (.func 64) [] [.ref KB 0]) 76 LP LQ q.2.2.2 q.1 q.2.1) (fun q => d - q.2.2.1) ((upd (upd (upd (upd (upd (upd (upd (upd (upd (upd (upd h n (some ⟨true, .cells [.val (.int .i64 d)]⟩)) (n + 1) (some ⟨true, .cells [.sl O 0 L.length 1 none]⟩)) (n + 2) (some ⟨true, .cells [.clo (.func 64) [] [.ref KB 0]]⟩)) (n + 3) (some ⟨true, .cells [.val (.int .i64 0)]⟩)) (n + 3) (some ⟨true, .cells [.val (.int .i64 ((L.length : Nat) : Int))]⟩)) (n + 4) (some ⟨true, .cells [.val (.int .i64 d)]⟩)) (n + 5) (some ⟨true, .cells [.clo (.func 82) [] [.ref (n + 4) 0]]⟩)) (n + 6) (some ⟨true, .cells [.val (.func (.func 76) #[] #[])]⟩)) (n + 7) (some ⟨true, .raw (.loop LP)⟩)) (n + 8) (some ⟨true, .cells [.yl (n + 7)]⟩)) (n + 9) (some ⟨true, .raw (.loop LQ)⟩)), n + 10, 0, L.length) ⟨Nat.zero_le _, FewTo.zero, hI _ ?_ ?_ ?_ ?_ ?_ ?_ ?_ ?_ ?_ ?_⟩ ?_ ?_
      · exact fun u hu => by dsimp only; (repeat rw [upd_ne _ _ (by omega)])
      · dsimp only; (repeat (first | rw [upd_same] | rw [upd_ne _ _ (by omega)]))
      · dsimp only; (repeat (first | rw [upd_same] | rw [upd_ne _ _ (by omega)]))
      · dsimp only; (repeat (first | rw [upd_same] | rw [upd_ne _ _ (by omega)]))
      · dsimp only; (repeat (first | rw [upd_same] | rw [upd_ne _ _ (by omega)]))
      · dsimp only; (repeat (first | rw [upd_same] | rw [upd_ne _ _ (by omega)]))
      · dsimp only; (repeat (first | rw [upd_same] | rw [upd_ne _ _ (by omega)]))
      · dsimp only; (repeat (first | rw [upd_same] | rw [upd_ne _ _ (by omega)]))
      · dsimp only; (repeat (first | rw [upd_same] | rw [upd_ne _ _ (by omega)]))
      · dsimp only; (repeat (first | rw [upd_same] | rw [upd_ne _ _ (by omega)]))
      · exact Wk.sub (tsd (tsd (tsd (tsd tsd0 rfl) rfl) rfl) rfl) (fun _ _ h => h) rfl
      clear hI
      rintro ⟨G, M, i, s⟩ ⟨hid, hT, hI⟩
      dsimp only at hid hT hI ⊢
      rcases Nat.lt_or_ge i d with hlt2 | hge
      · have c4 := hI.c4
        have c9 := hI.c9


        repeat' (first | refine awp_seq_k fun K hK => ?_ | ((with_reducible refine hK _ ?_); clear hK K) | ((with_reducible refine aord_plain fun K hK => ?_); simp only [go_sem, Nat.reduceAdd, Nat.reduceMul, Nat.reduceEqDiff, Nat.reduceLT, reduceIte, reduceCtorEq, c4, c9, nmA, Nat.reduceAdd, ifA, ifB, c4, c9, mat.matL, DV.agg.injEq]) | refine awp_block ?_ | ((first | with_reducible refine aord_nil ?_ | refine awp_skip ?_ | refine awp_exit ?_ | refine awp_ret ?_); try simp only [rdA, Nat.reduceEqDiff, ifA, ifB, reduceIte]) | (refine awp_region tabOk rfl ?_; simp only [prep, pickO, lsA, lsB, lsC, lsD, lsE, lsF, lsG]) | ((with_reducible apply awp_cond); (focus (simp only [St.ev, St.set, upd, Nat.reduceEqDiff, reduceIte, ifA, ifB, c4, c9, nmA, Nat.reduceAdd, ifA, ifB]; exact rfl)); all_goals (intro hb; first | (cases hb; done) | ((try rw [hb]); (try simp only [dcA, dcB, dcC, dcD, dcE, Bool.not_eq_true', Bool.not_eq_false'] at hb)))) | (simp only [doneH]; simp only [ressK, resK, wrapR, go_sem, Nat.reduceAdd, Nat.reduceMul, Nat.reduceEqDiff, Nat.reduceLT, reduceIte, reduceCtorEq, c4, c9, nmA, Nat.reduceAdd, ifA, ifB]) | ((with_reducible apply endA_go); (focus (simp only [St.ev, St.set, upd, Nat.reduceEqDiff, reduceIte, ifA, ifB, c4, c9, nmA, Nat.reduceAdd, ifA, ifB]; exact rfl)); (focus assumption); (focus assumption); (try simp only [rdA, Nat.reduceEqDiff, ifA, ifB, reduceIte])) | (exfalso; omega) | fail)
        refine awp_loop (fun q : Hp × Nat × Nat × Nat => ⟨upd (upd (upd (upd (upd (upd (upd bot 10 (.val (.int .i64 q.2.2.1))) 9 (.val (.int .i64 d))) 6 (.val (.int .i64 i))) 5 (.val (.int .i64 d))) 3 (.val (.int .i64 i))) 1 (.ref (n + 4) 0)) 0 (.yl (n + 9)), q.1, q.2.1⟩) (fun q => q.2.2.1 ≤ d ∧ FewTo (enK kk) d L i q.2.2.1 q.2.2.2 ∧ QF h n O d L.length (.clo (.func 64) [] [.ref KB 0]) 76 LP LQ q.2.2.2 q.1 q.2.1) (fun q => d - q.2.2.1) (G, M, 0, s) ⟨Nat.zero_le _, hT, hI⟩ ?_ ?_
        · exact Wk.sub (tsd (tsd (tsd (tsd (tsd (tsd (tsd tsd0 rfl) rfl) rfl) rfl) rfl) rfl) rfl) (fun _ _ h => h) rfl
        clear c4 c9 hI hT
        rintro ⟨G, M, j, s⟩ ⟨hjd, hT, hI⟩
        dsimp only at hjd hT hI ⊢
        have hmn := hI.mn
        have hfr := hI.fr
        have c0 := hI.c0
        have c1 := hI.c1
        have c2 := hI.c2
        have c3 := hI.c3
        have c4 := hI.c4
        have c6 := hI.c6
        have c7 := hI.c7
        have c8 := hI.c8
        have c9 := hI.c9
        have hsle := hT.le
        rcases Nat.lt_or_ge j d with hlt3 | hge3
        · have n0 : (n = M) = False := eq_false (by omega)
          have n1 : (M = n) = False := eq_false (by omega)
          have n2 : ∀ k, (n = M + k) = False := fun k => eq_false (by omega)
          have n3 : ∀ k, (M + k = n) = False := fun k => eq_false (by omega)
          have p1 : (n + 1 = M) = False := eq_false (by omega)
          have p2 : ∀ k, (n + 1 = M + k) = False := fun k => eq_false (by omega)
          have p3 : (n + 2 = M) = False := eq_false (by omega)
          have p4 : ∀ k, (n + 2 = M + k) = False := fun k => eq_false (by omega)
          have p5 : (n + 3 = M) = False := eq_false (by omega)
          have p6 : ∀ k, (n + 3 = M + k) = False := fun k => eq_false (by omega)
          have p7 : (n + 6 = M) = False := eq_false (by omega)
          have p8 : ∀ k, (n + 6 = M + k) = False := fun k => eq_false (by omega)
          have p9 : (n + 7 = M) = False := eq_false (by omega)
          have pa : ∀ k, (n + 7 = M + k) = False := fun k => eq_false (by omega)
          have pb : (n + 8 = M) = False := eq_false (by omega)
          have pc : ∀ k, (n + 8 = M + k) = False := fun k => eq_false (by omega)
          have pd : (n + 9 = M) = False := eq_false (by omega)
          have pe : ∀ k, (n + 9 = M + k) = False := fun k => eq_false (by omega)
          have pf : (M = n + 9) = False := eq_false (by omega)
          have pg : ∀ k, (M + k = n + 9) = False := fun k => eq_false (by omega)
          have ph : (M = n + 7) = False := eq_false (by omega)
          have pi : ∀ k, (M + k = n + 7) = False := fun k => eq_false (by omega)
          have hN := And.intro c0 (And.intro c1 (And.intro c2 (And.intro c3 (And.intro c4 (And.intro c6 (And.intro c7 (And.intro c8 (And.intro c9 (And.intro n0 (And.intro n1 (And.intro n2 (And.intro n3 (And.intro p1 (And.intro p2 (And.intro p3 (And.intro p4 (And.intro p5 (And.intro p6 (And.intro p7 (And.intro p8 (And.intro p9 (And.intro pa (And.intro pb (And.intro pc (And.intro pd (And.intro pe (And.intro pf (And.intro pg (And.intro ph pi)))))))))))))))))))))))))))))
          rcases Nat.lt_trichotomy i j with hij | hij | hij
          · have q1 : ((i : Int) != (j : Int)) = true := bne_iff_ne.2 (by omega)
            have q2 : decide ((i : Int) < (j : Int)) = true := decide_eq_true (by omega)


            repeat' (first | refine awp_seq_k fun K hK => ?_ | ((with_reducible refine hK _ ?_); clear hK K) | (clear hK K; (with_reducible refine hK _ ?_); clear hK K) | ((with_reducible refine aord_plain fun K hK => ?_); simp only [go_sem, Nat.reduceAdd, Nat.reduceMul, Nat.reduceEqDiff, Nat.reduceLT, reduceIte, reduceCtorEq, hN, q1, q2, nmA, Nat.reduceAdd, ifA, ifB, hN, q1, q2, mat.matL, DV.agg.injEq]) | ((with_reducible apply aord_guard); (focus (simp only [St.ev, St.set, upd, Nat.reduceEqDiff, reduceIte, ifA, ifB, hN, q1, q2, nmA, Nat.reduceAdd, ifA, ifB]; exact rfl)); all_goals (intro hb; (try simp only [Bool.not_true, Bool.not_false] at hb); first | (cases hb; done) | ((try rw [hb]); (try simp only [Bool.not_eq_true', Bool.not_eq_false', Bool.and_eq_true, dcA, dcB, dcC, dcD, dcE] at hb); (try (revert hb; with_reducible refine true_imp_iff.2 ?_)); first | (intro K hK; simp only [go_sem, Nat.reduceAdd, Nat.reduceMul, Nat.reduceEqDiff, Nat.reduceLT, reduceIte, reduceCtorEq, hN, q1, q2, nmA, Nat.reduceAdd, ifA, ifB]) | (simp only [St.ev, St.set, upd, Nat.reduceEqDiff, reduceIte, ifA, ifB, hN, q1, q2, nmA, Nat.reduceAdd, ifA, ifB]) | skip))) | refine awp_block ?_ | ((first | with_reducible refine aord_nil ?_ | refine awp_skip ?_ | refine awp_exit ?_ | refine awp_ret ?_); try simp only [rdA, Nat.reduceEqDiff, ifA, ifB, reduceIte]) | (refine awp_region tabOk rfl ?_; simp only [prep, pickO, lsA, lsB, lsC, lsD, lsE, lsF, lsG]) | ((with_reducible apply awp_cond); (focus (simp only [St.ev, St.set, upd, Nat.reduceEqDiff, reduceIte, ifA, ifB, hN, q1, q2, nmA, Nat.reduceAdd, ifA, ifB]; exact rfl)); all_goals (intro hb; first | (cases hb; done) | ((try rw [hb]); (try simp only [dcA, dcB, dcC, dcD, dcE, Bool.not_eq_true', Bool.not_eq_false'] at hb)))) | ((with_reducible refine And.intro ?_ ?_); (focus omega)) | (simp only [rBuild]; simp only [fillA, Nat.reduceLeDiff, List.getElem?_cons_zero, List.getElem?_cons_succ, List.drop_succ_cons, List.drop_nil, List.take_nil, List.cons_append, Option.isSome_some, go_sem, Nat.reduceAdd, Nat.reduceMul, Nat.reduceEqDiff, Nat.reduceLT, reduceIte, reduceCtorEq, hN, q1, q2, nmA, Nat.reduceAdd, ifA, ifB]) | (exfalso; omega) | fail)
            (refine yield_round (lp := LQ) (by first | (simp only [St.ev, St.set, upd, Nat.reduceEqDiff, reduceIte, ifA, ifB, hN, q1, q2, nmA, Nat.reduceAdd, ifA, ifB]; done) | (simp only [St.ev, St.set, upd, Nat.reduceEqDiff, reduceIte, ifA, ifB, hN, q1, q2, nmA, Nat.reduceAdd, ifA, ifB]; exact rfl)) LQ1 LQ2 (by first | exact List.mem_cons_self | exact List.mem_cons_of_mem _ List.mem_cons_self | exact List.mem_cons_of_mem _ (List.mem_cons_of_mem _ List.mem_cons_self) | exact List.mem_cons_of_mem _ (List.mem_cons_of_mem _ (List.mem_cons_of_mem _ List.mem_cons_self))) (by first | (rw [LQ3]; done) | (rw [LQ3]; rfl)) (by rw [LQ3]; decide) (fun m0 hm0 hcl hlt => ?_); rw [LQ3, LQ4, LQ5]; simp only [zipT, St.ev, St.set, upd, Nat.reduceEqDiff, reduceIte, ifA, ifB, hN, q1, q2, nmA, Nat.reduceAdd, ifA, ifB])
            repeat' (first | refine awp_seq_k fun K hK => ?_ | ((with_reducible refine hK _ ?_); clear hK K) | ((with_reducible refine aord_plain fun K hK => ?_); simp only [go_sem, Nat.reduceAdd, Nat.reduceMul, Nat.reduceEqDiff, Nat.reduceLT, reduceIte, reduceCtorEq, hN, q1, q2, nmA, Nat.reduceAdd, ifA, ifB, hN, q1, q2, mat.matL, DV.agg.injEq]) | ((with_reducible apply aord_guard); (focus (simp only [St.ev, St.set, upd, Nat.reduceEqDiff, reduceIte, ifA, ifB, hN, q1, q2, nmA, Nat.reduceAdd, ifA, ifB]; exact rfl)); all_goals (intro hb; (try simp only [Bool.not_true, Bool.not_false] at hb); first | (cases hb; done) | ((try rw [hb]); (try simp only [Bool.not_eq_true', Bool.not_eq_false', Bool.and_eq_true, dcA, dcB, dcC, dcD, dcE] at hb); (try (revert hb; with_reducible refine true_imp_iff.2 ?_)); first | (intro K hK; simp only [go_sem, Nat.reduceAdd, Nat.reduceMul, Nat.reduceEqDiff, Nat.reduceLT, reduceIte, reduceCtorEq, hN, q1, q2, nmA, Nat.reduceAdd, ifA, ifB]) | (simp only [St.ev, St.set, upd, Nat.reduceEqDiff, reduceIte, ifA, ifB, hN, q1, q2, nmA, Nat.reduceAdd, ifA, ifB]) | skip))) | refine awp_block ?_ | ((first | with_reducible refine aord_nil ?_ | refine awp_skip ?_ | refine awp_exit ?_ | refine awp_ret ?_); try simp only [rdA, Nat.reduceEqDiff, ifA, ifB, reduceIte]) | (refine awp_region tabOk rfl ?_; simp only [prep, pickO, lsA, lsB, lsC, lsD, lsE, lsF, lsG]) | ((with_reducible refine And.intro ?_ ?_); (focus (exact rfl))) | ((with_reducible refine And.intro (?_ : enters Try.prog 76) ?_); (focus exact Try.call76); (refine callX_h (callH_inline tabOk Try.func76 rfl 8 rfl [.tmp 2] rfl (Nat.le_of_ble_eq_true rfl) fun m0 hm0 hcl hlt => ?_)); simp only [initT, St.ev, St.set, upd, Nat.reduceEqDiff, reduceIte, ifA, ifB, hN, q1, q2, nmA, Nat.reduceAdd, ifA, ifB]) | (simp only [doneH]; simp only [ressK, resK, wrapR, go_sem, Nat.reduceAdd, Nat.reduceMul, Nat.reduceEqDiff, Nat.reduceLT, reduceIte, reduceCtorEq, hN, q1, q2, nmA, Nat.reduceAdd, ifA, ifB]) | (refine aStoreAll_cells (by simp only [St.ev, St.set, upd, Nat.reduceEqDiff, reduceIte, ifA, ifB, hN, q1, q2, nmA, Nat.reduceAdd, ifA, ifB]; exact rfl) ?_ ?_ ?_ ?_ ?_; (focus (first | rfl | omega | (simp; done) | (simp; omega) | (simp [szOf, tab]; done) | (simp [szOf, tab]; omega))); (focus (first | rfl | omega | (simp; done) | (simp; omega) | (simp [szOf, tab]; done) | (simp [szOf, tab]; omega))); (focus (first | rfl | omega | (simp; done) | (simp; omega) | (simp [szOf, tab]; done) | (simp [szOf, tab]; omega))); (focus (first | rfl | (simp [AV.cell, Value.oneCell']; done))); (try simp only [go_sem, Nat.reduceAdd, Nat.reduceMul, Nat.reduceEqDiff, Nat.reduceLT, reduceIte, reduceCtorEq, hN, q1, q2, nmA, Nat.reduceAdd, ifA, ifB])) | fail)
            (refine yield_round (lp := LP) (by first | (simp only [St.ev, St.set, upd, Nat.reduceEqDiff, reduceIte, ifA, ifB, hN, q1, q2, nmA, Nat.reduceAdd, ifA, ifB]; done) | (simp only [St.ev, St.set, upd, Nat.reduceEqDiff, reduceIte, ifA, ifB, hN, q1, q2, nmA, Nat.reduceAdd, ifA, ifB]; exact rfl)) LP1 LP2 (by first | exact List.mem_cons_self | exact List.mem_cons_of_mem _ List.mem_cons_self | exact List.mem_cons_of_mem _ (List.mem_cons_of_mem _ List.mem_cons_self) | exact List.mem_cons_of_mem _ (List.mem_cons_of_mem _ (List.mem_cons_of_mem _ List.mem_cons_self))) (by first | (rw [LP3]; done) | (rw [LP3]; rfl)) (by rw [LP3]; decide) (fun m0 hm0 hcl hlt => ?_); rw [LP3, LP4, LP5]; simp only [zipT, St.ev, St.set, upd, Nat.reduceEqDiff, reduceIte, ifA, ifB, hN, q1, q2, nmA, Nat.reduceAdd, ifA, ifB])
            repeat' (first | refine awp_seq_k fun K hK => ?_ | ((with_reducible refine hK _ ?_); clear hK K) | ((with_reducible refine aord_plain fun K hK => ?_); simp only [go_sem, Nat.reduceAdd, Nat.reduceMul, Nat.reduceEqDiff, Nat.reduceLT, reduceIte, reduceCtorEq, hN, q1, q2, nmA, Nat.reduceAdd, ifA, ifB, hN, q1, q2, mat.matL, DV.agg.injEq]) | refine awp_block ?_ | (refine awp_region tabOk rfl ?_; simp only [prep, pickO, lsA, lsB, lsC, lsD, lsE, lsF, lsG]) | ((with_reducible refine And.intro ?_ ?_); (focus (exact rfl))) | ((with_reducible refine And.intro (?_ : enters Try.prog 43) ?_); (focus exact Try.call43); (refine callX_satH split_sat ?_); simp only [go_sem, and_assoc, List.nil_append, List.append_nil, List.cons_append, Nat.reduceEqDiff, reduceIte, reduceCtorEq, hN, q1, q2, nmA, Nat.reduceAdd, ifA, ifB, hN, q1, q2, mat.matL, DV.agg.injEq]) | (refine aStoreAll_cells (by simp only [St.ev, St.set, upd, Nat.reduceEqDiff, reduceIte, ifA, ifB, hN, q1, q2, nmA, Nat.reduceAdd, ifA, ifB]; exact rfl) ?_ ?_ ?_ ?_ ?_; (focus (first | rfl | omega | (simp; done) | (simp; omega) | (simp [szOf, tab]; done) | (simp [szOf, tab]; omega))); (focus (first | rfl | omega | (simp; done) | (simp; omega) | (simp [szOf, tab]; done) | (simp [szOf, tab]; omega))); (focus (first | rfl | omega | (simp; done) | (simp; omega) | (simp [szOf, tab]; done) | (simp [szOf, tab]; omega))); (focus (first | rfl | (simp [AV.cell, Value.oneCell']; done))); (try simp only [go_sem, Nat.reduceAdd, Nat.reduceMul, Nat.reduceEqDiff, Nat.reduceLT, reduceIte, reduceCtorEq, hN, q1, q2, nmA, Nat.reduceAdd, ifA, ifB])) | fail)
            have hsum := part_sum hg hij hlt3
            have hl1 := hR.lt
            refine ⟨g, L, rfl, i, j, rfl, hR.keepN (by omega) (by (repeat rw [upd_ne _ _ (by omega)]); exact hfr O (by omega)) (fun m hm => by have := (hl1 m hm).1; (repeat rw [upd_ne _ _ (by omega)]); exact hfr _ (by omega)), by omega, hrw, fun H2 N2 P1 P2 g1 g2 s1 s2 s3 s4 s5 s6 s7 => ?_⟩
            have hN2 := s1.outn
            have hP2 := s2.outn
            have d0 : H2 n = some ⟨true, .cells [.val (.int .i64 d)]⟩ := by rw [s3 _ (by omega)]; (repeat rw [if_neg (by omega)]); exact c0
            have d1 : H2 (n + 1) = some ⟨true, .cells [.sl O 0 L.length 1 none]⟩ := by rw [s3 _ (by omega)]; (repeat rw [if_neg (by omega)]); exact c1
            have d2 : H2 (n + 2) = some ⟨true, .cells [.clo (.func 64) [] [.ref KB 0]]⟩ := by rw [s3 _ (by omega)]; (repeat rw [if_neg (by omega)]); exact c2
            have d3 : H2 (n + 3) = some ⟨true, .cells [.val (.int .i64 s)]⟩ := by rw [s3 _ (by omega)]; (repeat rw [if_neg (by omega)]); exact c3
            have d4 : H2 (n + 4) = some ⟨true, .cells [.val (.int .i64 d)]⟩ := by rw [s3 _ (by omega)]; (repeat rw [if_neg (by omega)]); exact c4
            have d6 : H2 (n + 6) = some ⟨true, .cells [.val (.func (.func 76) #[] #[])]⟩ := by rw [s3 _ (by omega)]; (repeat rw [if_neg (by omega)]); exact c6
            have d8 : H2 (n + 8) = some ⟨true, .cells [.yl (n + 7)]⟩ := by rw [s3 _ (by omega)]; (repeat rw [if_neg (by omega)]); exact c8
            have hfr2 : ∀ u, u < n → H2 u = h u := fun u hu => by rw [s3 _ (by omega)]; (repeat rw [if_neg (by omega)]); exact hfr u hu
            clear s3
            have hgy := hg.filter (agB [((i : Int), (j : Int))])
            have hgn := hg.filter (agB [((j : Int), (i : Int))])
            generalize hYY : L.filter (agB [((i : Int), (j : Int))]) = Y at *
            generalize hNN : L.filter (agB [((j : Int), (i : Int))]) = NO at *
            have hskip : ¬ (0 < Y.length ∧ 0 < NO.length) → FewTo (enK kk) d L i (j + 1) s := fun h => hT.skip fun ⟨_, h1, h2⟩ => h (by rw [hYY] at h1; rw [hNN] at h2; exact ⟨List.length_pos_iff.2 h1, List.length_pos_iff.2 h2⟩)
            have hEnd : ∀ s2, QF h n O d L.length (.clo (.func 64) [] [.ref KB 0]) 76 LP LQ s2 (upd (upd (upd H2 (n + 3) (some ⟨true, .cells [.val (.int .i64 s2)]⟩)) (n + 7) (some ⟨true, .raw (.loop LP)⟩)) (n + 9) (some ⟨true, .raw (.loop LQ)⟩)) N2 := fun s2 => by
              refine ⟨fun u hu => ?_, by omega, ?_, ?_, ?_, ?_, ?_, ?_, ?_, ?_, ?_⟩
              all_goals (repeat (first | rw [upd_same] | rw [upd_ne _ _ (by omega)]))
              · exact hfr2 u hu
              · exact d0
              · exact d1
              · exact d2
              · exact d4
              · exact d6
              · exact d8
            have hSame : QF h n O d L.length (.clo (.func 64) [] [.ref KB 0]) 76 LP LQ s (upd (upd H2 (n + 7) (some ⟨true, .raw (.loop LP)⟩)) (n + 9) (some ⟨true, .raw (.loop LQ)⟩)) N2 := by
              refine ⟨fun u hu => ?_, by omega, ?_, ?_, ?_, ?_, ?_, ?_, ?_, ?_, ?_⟩
              all_goals (repeat (first | rw [upd_same] | rw [upd_ne _ _ (by omega)]))
              · exact hfr2 u hu
              · exact d0
              · exact d1
              · exact d2
              · exact d3
              · exact d4
              · exact d6
              · exact d8
            rcases Nat.eq_zero_or_pos Y.length with hy0 | hyp
            · have e1 : decide (((Y.length : Nat) : Int) > 0) = false := decide_eq_false (by omega)


              repeat' (first | refine awp_seq_k fun K hK => ?_ | ((with_reducible refine hK _ ?_); clear hK K) | ((with_reducible refine aord_plain fun K hK => ?_); simp only [go_sem, Nat.reduceAdd, Nat.reduceMul, Nat.reduceEqDiff, Nat.reduceLT, reduceIte, reduceCtorEq, d0, d1, d2, d3, d6, d8, e1, nmA, Nat.reduceAdd, ifA, ifB, d0, d1, d2, d3, d6, d8, e1, mat.matL, DV.agg.injEq]) | ((with_reducible apply aord_guard); (focus (simp only [St.ev, St.set, upd, Nat.reduceEqDiff, reduceIte, ifA, ifB, d0, d1, d2, d3, d6, d8, e1, nmA, Nat.reduceAdd, ifA, ifB]; exact rfl)); all_goals (intro hb; (try simp only [Bool.not_true, Bool.not_false] at hb); first | (cases hb; done) | ((try rw [hb]); (try simp only [Bool.not_eq_true', Bool.not_eq_false', Bool.and_eq_true, dcA, dcB, dcC, dcD, dcE] at hb); (try (revert hb; with_reducible refine true_imp_iff.2 ?_)); first | (intro K hK; simp only [go_sem, Nat.reduceAdd, Nat.reduceMul, Nat.reduceEqDiff, Nat.reduceLT, reduceIte, reduceCtorEq, d0, d1, d2, d3, d6, d8, e1, nmA, Nat.reduceAdd, ifA, ifB]) | (simp only [St.ev, St.set, upd, Nat.reduceEqDiff, reduceIte, ifA, ifB, d0, d1, d2, d3, d6, d8, e1, nmA, Nat.reduceAdd, ifA, ifB]) | skip))) | ((first | with_reducible refine aord_nil ?_ | refine awp_skip ?_ | refine awp_exit ?_ | refine awp_ret ?_); try simp only [rdA, Nat.reduceEqDiff, ifA, ifB, reduceIte]) | (refine awp_region tabOk rfl ?_; simp only [prep, pickO, lsA, lsB, lsC, lsD, lsE, lsF, lsG]) | ((with_reducible apply awp_cond); (focus (simp only [St.ev, St.set, upd, Nat.reduceEqDiff, reduceIte, ifA, ifB, d0, d1, d2, d3, d6, d8, e1, nmA, Nat.reduceAdd, ifA, ifB]; exact rfl)); all_goals (intro hb; first | (cases hb; done) | ((try rw [hb]); (try simp only [dcA, dcB, dcC, dcD, dcE, Bool.not_eq_true', Bool.not_eq_false'] at hb)))) | ((with_reducible refine And.intro ?_ ?_); (focus omega)) | ((with_reducible refine roundA_normal ?_); simp only [St.ev, St.set, upd, Nat.reduceEqDiff, reduceIte, ifA, ifB, d0, d1, d2, d3, d6, d8, e1, nmA, Nat.reduceAdd, ifA, ifB]) | fail)
              exact ⟨(upd (upd H2 (n + 7) (some ⟨true, .raw (.loop LP)⟩)) (n + 9) (some ⟨true, .raw (.loop LQ)⟩), N2, j + 1, s), ⟨by dsimp only; omega, hskip (by omega), hSame⟩, by dsimp only; omega, Wk.sub (tsd (tsd (tsd (tsd (tsd (tsd (tsd tsd0 rfl) rfl) rfl) rfl) rfl) rfl) rfl) (fun _ _ h => h) rfl⟩
            · have e1 : decide (((Y.length : Nat) : Int) > 0) = true := decide_eq_true (by omega)
              rcases Nat.eq_zero_or_pos NO.length with hn0 | hnp
              · have e2 : decide (((NO.length : Nat) : Int) > 0) = false := decide_eq_false (by omega)


                repeat' (first | refine awp_seq_k fun K hK => ?_ | ((with_reducible refine hK _ ?_); clear hK K) | ((with_reducible refine aord_plain fun K hK => ?_); simp only [go_sem, Nat.reduceAdd, Nat.reduceMul, Nat.reduceEqDiff, Nat.reduceLT, reduceIte, reduceCtorEq, d0, d1, d2, d3, d6, d8, e1, e2, nmA, Nat.reduceAdd, ifA, ifB, d0, d1, d2, d3, d6, d8, e1, e2, mat.matL, DV.agg.injEq, AV.clo.injEq, List.cons.injEq, AV.ref.injEq, and_true, true_and]) | ((with_reducible apply aord_guard); (focus (simp only [St.ev, St.set, upd, Nat.reduceEqDiff, reduceIte, ifA, ifB, d0, d1, d2, d3, d6, d8, e1, e2, nmA, Nat.reduceAdd, ifA, ifB]; exact rfl)); all_goals (intro hb; (try simp only [Bool.not_true, Bool.not_false] at hb); first | (cases hb; done) | ((try rw [hb]); (try simp only [Bool.not_eq_true', Bool.not_eq_false', Bool.and_eq_true, dcA, dcB, dcC, dcD, dcE] at hb); (try (revert hb; with_reducible refine true_imp_iff.2 ?_)); first | (intro K hK; simp only [go_sem, Nat.reduceAdd, Nat.reduceMul, Nat.reduceEqDiff, Nat.reduceLT, reduceIte, reduceCtorEq, d0, d1, d2, d3, d6, d8, e1, e2, nmA, Nat.reduceAdd, ifA, ifB]) | (simp only [St.ev, St.set, upd, Nat.reduceEqDiff, reduceIte, ifA, ifB, d0, d1, d2, d3, d6, d8, e1, e2, nmA, Nat.reduceAdd, ifA, ifB]) | skip))) | ((first | with_reducible refine aord_nil ?_ | refine awp_skip ?_ | refine awp_exit ?_ | refine awp_ret ?_); try simp only [rdA, Nat.reduceEqDiff, ifA, ifB, reduceIte]) | (refine awp_region tabOk rfl ?_; simp only [prep, pickO, lsA, lsB, lsC, lsD, lsE, lsF, lsG]) | ((with_reducible apply awp_cond); (focus (simp only [St.ev, St.set, upd, Nat.reduceEqDiff, reduceIte, ifA, ifB, d0, d1, d2, d3, d6, d8, e1, e2, nmA, Nat.reduceAdd, ifA, ifB]; exact rfl)); all_goals (intro hb; first | (cases hb; done) | ((try rw [hb]); (try simp only [dcA, dcB, dcC, dcD, dcE, Bool.not_eq_true', Bool.not_eq_false'] at hb)))) | ((with_reducible refine And.intro ?_ ?_); (focus omega)) | ((with_reducible refine roundA_normal ?_); simp only [St.ev, St.set, upd, Nat.reduceEqDiff, reduceIte, ifA, ifB, d0, d1, d2, d3, d6, d8, e1, e2, nmA, Nat.reduceAdd, ifA, ifB]) | fail)
                exact ⟨(upd (upd H2 (n + 7) (some ⟨true, .raw (.loop LP)⟩)) (n + 9) (some ⟨true, .raw (.loop LQ)⟩), N2, j + 1, s), ⟨by dsimp only; omega, hskip (by omega), hSame⟩, by dsimp only; omega, Wk.sub (tsd (tsd (tsd (tsd (tsd (tsd (tsd tsd0 rfl) rfl) rfl) rfl) rfl) rfl) rfl) (fun _ _ h => h) rfl⟩
              · have e2 : decide (((NO.length : Nat) : Int) > 0) = true := decide_eq_true (by omega)


                repeat' (first | refine awp_seq_k fun K hK => ?_ | ((with_reducible refine hK _ ?_); clear hK K) | ((with_reducible refine aord_plain fun K hK => ?_); simp only [go_sem, Nat.reduceAdd, Nat.reduceMul, Nat.reduceEqDiff, Nat.reduceLT, reduceIte, reduceCtorEq, d0, d1, d2, d3, d6, d8, e1, e2, nmA, Nat.reduceAdd, ifA, ifB, d0, d1, d2, d3, d6, d8, e1, e2, mat.matL, DV.agg.injEq, AV.clo.injEq, List.cons.injEq, AV.ref.injEq, and_true, true_and]) | ((with_reducible apply aord_guard); (focus (simp only [St.ev, St.set, upd, Nat.reduceEqDiff, reduceIte, ifA, ifB, d0, d1, d2, d3, d6, d8, e1, e2, nmA, Nat.reduceAdd, ifA, ifB]; exact rfl)); all_goals (intro hb; (try simp only [Bool.not_true, Bool.not_false] at hb); first | (cases hb; done) | ((try rw [hb]); (try simp only [Bool.not_eq_true', Bool.not_eq_false', Bool.and_eq_true, dcA, dcB, dcC, dcD, dcE] at hb); (try (revert hb; with_reducible refine true_imp_iff.2 ?_)); first | (intro K hK; simp only [go_sem, Nat.reduceAdd, Nat.reduceMul, Nat.reduceEqDiff, Nat.reduceLT, reduceIte, reduceCtorEq, d0, d1, d2, d3, d6, d8, e1, e2, nmA, Nat.reduceAdd, ifA, ifB]) | (simp only [St.ev, St.set, upd, Nat.reduceEqDiff, reduceIte, ifA, ifB, d0, d1, d2, d3, d6, d8, e1, e2, nmA, Nat.reduceAdd, ifA, ifB]) | skip))) | ((first | with_reducible refine aord_nil ?_ | refine awp_skip ?_ | refine awp_exit ?_ | refine awp_ret ?_); try simp only [rdA, Nat.reduceEqDiff, ifA, ifB, reduceIte]) | (refine awp_region tabOk rfl ?_; simp only [prep, pickO, lsA, lsB, lsC, lsD, lsE, lsF, lsG]) | (refine awp_region_tree (nt := 48) (id := 8) tabOk (.quiet 0 false (.quiet 1 false (.quiet 2 false (.quiet 5 false (.one 3 true (.quiet 4 false (.quiet 6 false (.one 7 true (.quiet 8 false (.quiet 9 false .leaf)) .stop))) (.one 4 false (.one 3 true (.quiet 6 false (.one 7 true (.quiet 8 false (.quiet 9 false .leaf)) .stop)) (.one 6 false (.one 3 true (.one 7 true (.quiet 8 false (.quiet 9 false .leaf)) .stop) .stop) .stop)) (.one 6 false (.one 3 true (.quiet 4 false (.one 7 true (.quiet 8 false (.quiet 9 false .leaf)) .stop)) (.one 4 false (.one 3 true (.one 7 true (.quiet 8 false (.quiet 9 false .leaf)) .stop) .stop) .stop)) .stop))))))) (by kernel_rfl) rfl (by kernel_rfl) ?_; simp only [aordT]) | ((with_reducible refine aordT_plain rfl (fun K hK => ?_)); simp only [go_sem, Nat.reduceAdd, Nat.reduceMul, Nat.reduceEqDiff, Nat.reduceLT, reduceIte, reduceCtorEq, d0, d1, d2, d3, d6, d8, e1, e2, nmA, Nat.reduceAdd, ifA, ifB, d0, d1, d2, d3, d6, d8, e1, e2, mat.matL, DV.agg.injEq, AV.clo.injEq, List.cons.injEq, AV.ref.injEq, and_true, true_and]) | ((with_reducible refine both ?_ ?_)) | (simp only [aordT]; try simp only [rdA, Nat.reduceEqDiff, ifA, ifB, reduceIte]) | ((with_reducible apply awp_cond); (focus (simp only [St.ev, St.set, upd, Nat.reduceEqDiff, reduceIte, ifA, ifB, d0, d1, d2, d3, d6, d8, e1, e2, nmA, Nat.reduceAdd, ifA, ifB]; exact rfl)); all_goals (intro hb; first | (cases hb; done) | ((try rw [hb]); (try simp only [dcA, dcB, dcC, dcD, dcE, Bool.not_eq_true', Bool.not_eq_false'] at hb)))) | ((with_reducible refine And.intro (?_ : enters Try.prog 50) ?_); (focus exact Try.call50); (refine callX_satH ih ?_); simp only [go_sem, and_assoc, List.nil_append, List.append_nil, List.cons_append, Nat.reduceEqDiff, reduceIte, reduceCtorEq, d0, d1, d2, d3, d6, d8, e1, e2, nmA, Nat.reduceAdd, ifA, ifB, d0, d1, d2, d3, d6, d8, e1, e2, mat.matL, DV.agg.injEq, AV.clo.injEq, List.cons.injEq, AV.ref.injEq, and_true, true_and]) | fail)
                all_goals (
                  refine ⟨d, rfl, g1, Y, rfl, kk, (by rw [hfr2 KB hKBn]; exact hKB), hkd, s1, hgy, hd5, by omega, by omega, fun v N3 hv hvl hN3 => ?_⟩
                  have s2k : RowsOf H2 N3 P2 g2 NO := s2.keepN hN3 rfl (fun _ _ => rfl))


                repeat' (first | ((with_reducible refine hK _ ?_); clear hK K) | ((with_reducible refine aordT_plain rfl (fun K hK => ?_)); simp only [go_sem, Nat.reduceAdd, Nat.reduceMul, Nat.reduceEqDiff, Nat.reduceLT, reduceIte, reduceCtorEq, d0, d1, d2, d3, d6, d8, e1, e2, nmA, Nat.reduceAdd, ifA, ifB, d0, d1, d2, d3, d6, d8, e1, e2, mat.matL, DV.agg.injEq, AV.clo.injEq, List.cons.injEq, AV.ref.injEq, and_true, true_and]) | ((with_reducible refine both ?_ ?_)) | (simp only [aordT]; try simp only [rdA, Nat.reduceEqDiff, ifA, ifB, reduceIte]) | ((with_reducible refine And.intro (?_ : enters Try.prog 50) ?_); (focus exact Try.call50); (refine callX_satH ih ?_); simp only [go_sem, and_assoc, List.nil_append, List.append_nil, List.cons_append, Nat.reduceEqDiff, reduceIte, reduceCtorEq, d0, d1, d2, d3, d6, d8, e1, e2, nmA, Nat.reduceAdd, ifA, ifB, d0, d1, d2, d3, d6, d8, e1, e2, mat.matL, DV.agg.injEq, AV.clo.injEq, List.cons.injEq, AV.ref.injEq, and_true, true_and]) | fail)
                all_goals (
                  refine ⟨d, rfl, g2, NO, rfl, kk, (by rw [hfr2 KB hKBn]; exact hKB), hkd, s2k, hgn, hd5, by omega, by omega, fun w N4 hw hwl hN4 => ?_⟩
                  have hstep : FewTo (enK kk) d L i (j + 1) (min s (1 + max v w)) := hT.step hij hlt3 (by rw [hYY]; exact List.length_pos_iff.1 hyp) (by rw [hNN]; exact List.length_pos_iff.1 hnp) (by rw [hYY]; exact hv) (by rw [hNN]; exact hw)
                  have hcast : min (s : Int) (1 + max (v : Int) (w : Int)) = ((min s (1 + max v w) : Nat) : Int) := by omega)


                repeat' (first | ((with_reducible refine hK _ ?_); clear hK K) | ((with_reducible refine aord_plain fun K hK => ?_); simp only [go_sem, Nat.reduceAdd, Nat.reduceMul, Nat.reduceEqDiff, Nat.reduceLT, reduceIte, reduceCtorEq, d0, d1, d2, d3, d6, d8, nmA, Nat.reduceAdd, ifA, ifB, d0, d1, d2, d3, d6, d8, hcast, mat.matL, DV.agg.injEq]) | ((with_reducible apply aord_guard); (focus (simp only [St.ev, St.set, upd, Nat.reduceEqDiff, reduceIte, ifA, ifB, d0, d1, d2, d3, d6, d8, nmA, Nat.reduceAdd, ifA, ifB]; exact rfl)); all_goals (intro hb; (try simp only [Bool.not_true, Bool.not_false] at hb); first | (cases hb; done) | ((try rw [hb]); (try simp only [Bool.not_eq_true', Bool.not_eq_false', Bool.and_eq_true, dcA, dcB, dcC, dcD, dcE] at hb); (try (revert hb; with_reducible refine true_imp_iff.2 ?_)); first | (intro K hK; simp only [go_sem, Nat.reduceAdd, Nat.reduceMul, Nat.reduceEqDiff, Nat.reduceLT, reduceIte, reduceCtorEq, d0, d1, d2, d3, d6, d8, nmA, Nat.reduceAdd, ifA, ifB]) | (simp only [St.ev, St.set, upd, Nat.reduceEqDiff, reduceIte, ifA, ifB, d0, d1, d2, d3, d6, d8, nmA, Nat.reduceAdd, ifA, ifB]) | skip))) | ((first | with_reducible refine aord_nil ?_ | refine awp_skip ?_ | refine awp_exit ?_ | refine awp_ret ?_); try simp only [rdA, Nat.reduceEqDiff, ifA, ifB, reduceIte]) | (refine awp_region tabOk rfl ?_; simp only [prep, pickO, lsA, lsB, lsC, lsD, lsE, lsF, lsG]) | ((with_reducible refine aordT_plain rfl (fun K hK => ?_)); simp only [go_sem, Nat.reduceAdd, Nat.reduceMul, Nat.reduceEqDiff, Nat.reduceLT, reduceIte, reduceCtorEq, d0, d1, d2, d3, d6, d8, nmA, Nat.reduceAdd, ifA, ifB, d0, d1, d2, d3, d6, d8, hcast, mat.matL, DV.agg.injEq]) | (simp only [rdA, Nat.reduceEqDiff, ifA, ifB, reduceIte]) | ((with_reducible apply awp_cond); (focus (simp only [St.ev, St.set, upd, Nat.reduceEqDiff, reduceIte, ifA, ifB, d0, d1, d2, d3, d6, d8, nmA, Nat.reduceAdd, ifA, ifB]; exact rfl)); all_goals (intro hb; first | (cases hb; done) | ((try rw [hb]); (try simp only [dcA, dcB, dcC, dcD, dcE, Bool.not_eq_true', Bool.not_eq_false'] at hb)))) | ((with_reducible refine And.intro ?_ ?_); (focus omega)) | ((with_reducible refine roundA_normal ?_); simp only [St.ev, St.set, upd, Nat.reduceEqDiff, reduceIte, ifA, ifB, d0, d1, d2, d3, d6, d8, nmA, Nat.reduceAdd, ifA, ifB]) | fail)
                all_goals exact ⟨(upd (upd (upd H2 (n + 3) (some ⟨true, .cells [.val (.int .i64 ((min s (1 + max v w) : Nat) : Int))]⟩)) (n + 7) (some ⟨true, .raw (.loop LP)⟩)) (n + 9) (some ⟨true, .raw (.loop LQ)⟩), N4, j + 1, min s (1 + max v w)), ⟨by dsimp only; omega, hstep, (hEnd _).up (by dsimp only; omega) (fun _ _ => rfl)⟩, by dsimp only; omega, Wk.sub (tsd (tsd (tsd (tsd (tsd (tsd (tsd tsd0 rfl) rfl) rfl) rfl) rfl) rfl) rfl) (fun _ _ h => h) rfl⟩
          · have q1 : ((i : Int) != (j : Int)) = false := by rw [hij]; exact bne_self_eq_false _


            repeat' (first | refine awp_seq_k fun K hK => ?_ | ((with_reducible refine hK _ ?_); clear hK K) | (clear hK K; (with_reducible refine hK _ ?_); clear hK K) | ((with_reducible refine aord_plain fun K hK => ?_); simp only [go_sem, Nat.reduceAdd, Nat.reduceMul, Nat.reduceEqDiff, Nat.reduceLT, reduceIte, reduceCtorEq, hN, q1, nmA, Nat.reduceAdd, ifA, ifB, hN, q1, mat.matL, DV.agg.injEq]) | ((with_reducible apply aord_guard); (focus (simp only [St.ev, St.set, upd, Nat.reduceEqDiff, reduceIte, ifA, ifB, hN, q1, nmA, Nat.reduceAdd, ifA, ifB]; exact rfl)); all_goals (intro hb; (try simp only [Bool.not_true, Bool.not_false] at hb); first | (cases hb; done) | ((try rw [hb]); (try simp only [Bool.not_eq_true', Bool.not_eq_false', Bool.and_eq_true, dcA, dcB, dcC, dcD, dcE] at hb); (try (revert hb; with_reducible refine true_imp_iff.2 ?_)); first | (intro K hK; simp only [go_sem, Nat.reduceAdd, Nat.reduceMul, Nat.reduceEqDiff, Nat.reduceLT, reduceIte, reduceCtorEq, hN, q1, nmA, Nat.reduceAdd, ifA, ifB]) | (simp only [St.ev, St.set, upd, Nat.reduceEqDiff, reduceIte, ifA, ifB, hN, q1, nmA, Nat.reduceAdd, ifA, ifB]) | skip))) | refine awp_block ?_ | ((first | with_reducible refine aord_nil ?_ | refine awp_skip ?_ | refine awp_exit ?_ | refine awp_ret ?_); try simp only [rdA, Nat.reduceEqDiff, ifA, ifB, reduceIte]) | (refine awp_region tabOk rfl ?_; simp only [prep, pickO, lsA, lsB, lsC, lsD, lsE, lsF, lsG]) | ((with_reducible apply awp_cond); (focus (simp only [St.ev, St.set, upd, Nat.reduceEqDiff, reduceIte, ifA, ifB, hN, q1, nmA, Nat.reduceAdd, ifA, ifB]; exact rfl)); all_goals (intro hb; first | (cases hb; done) | ((try rw [hb]); (try simp only [dcA, dcB, dcC, dcD, dcE, Bool.not_eq_true', Bool.not_eq_false'] at hb)))) | ((with_reducible refine And.intro ?_ ?_); (focus omega)) | (exfalso; omega) | fail)
            exact ⟨(G, M, j + 1, s), ⟨by dsimp only; omega, hT.skip (fun h => by omega), hI⟩, by dsimp only; omega, Wk.sub (tsd (tsd (tsd (tsd (tsd (tsd (tsd tsd0 rfl) rfl) rfl) rfl) rfl) rfl) rfl) (fun _ _ h => h) rfl⟩
          · have q1 : ((i : Int) != (j : Int)) = true := bne_iff_ne.2 (by omega)
            have q2 : decide ((i : Int) < (j : Int)) = false := decide_eq_false (by omega)


            repeat' (first | refine awp_seq_k fun K hK => ?_ | ((with_reducible refine hK _ ?_); clear hK K) | (clear hK K; (with_reducible refine hK _ ?_); clear hK K) | ((with_reducible refine aord_plain fun K hK => ?_); simp only [go_sem, Nat.reduceAdd, Nat.reduceMul, Nat.reduceEqDiff, Nat.reduceLT, reduceIte, reduceCtorEq, hN, q1, q2, nmA, Nat.reduceAdd, ifA, ifB, hN, q1, q2, mat.matL, DV.agg.injEq]) | ((with_reducible apply aord_guard); (focus (simp only [St.ev, St.set, upd, Nat.reduceEqDiff, reduceIte, ifA, ifB, hN, q1, q2, nmA, Nat.reduceAdd, ifA, ifB]; exact rfl)); all_goals (intro hb; (try simp only [Bool.not_true, Bool.not_false] at hb); first | (cases hb; done) | ((try rw [hb]); (try simp only [Bool.not_eq_true', Bool.not_eq_false', Bool.and_eq_true, dcA, dcB, dcC, dcD, dcE] at hb); (try (revert hb; with_reducible refine true_imp_iff.2 ?_)); first | (intro K hK; simp only [go_sem, Nat.reduceAdd, Nat.reduceMul, Nat.reduceEqDiff, Nat.reduceLT, reduceIte, reduceCtorEq, hN, q1, q2, nmA, Nat.reduceAdd, ifA, ifB]) | (simp only [St.ev, St.set, upd, Nat.reduceEqDiff, reduceIte, ifA, ifB, hN, q1, q2, nmA, Nat.reduceAdd, ifA, ifB]) | skip))) | refine awp_block ?_ | ((first | with_reducible refine aord_nil ?_ | refine awp_skip ?_ | refine awp_exit ?_ | refine awp_ret ?_); try simp only [rdA, Nat.reduceEqDiff, ifA, ifB, reduceIte]) | (refine awp_region tabOk rfl ?_; simp only [prep, pickO, lsA, lsB, lsC, lsD, lsE, lsF, lsG]) | ((with_reducible apply awp_cond); (focus (simp only [St.ev, St.set, upd, Nat.reduceEqDiff, reduceIte, ifA, ifB, hN, q1, q2, nmA, Nat.reduceAdd, ifA, ifB]; exact rfl)); all_goals (intro hb; first | (cases hb; done) | ((try rw [hb]); (try simp only [dcA, dcB, dcC, dcD, dcE, Bool.not_eq_true', Bool.not_eq_false'] at hb)))) | ((with_reducible refine And.intro ?_ ?_); (focus omega)) | (simp only [rBuild]; simp only [fillA, Nat.reduceLeDiff, List.getElem?_cons_zero, List.getElem?_cons_succ, List.drop_succ_cons, List.drop_nil, List.take_nil, List.cons_append, Option.isSome_some, go_sem, Nat.reduceAdd, Nat.reduceMul, Nat.reduceEqDiff, Nat.reduceLT, reduceIte, reduceCtorEq, hN, q1, q2, nmA, Nat.reduceAdd, ifA, ifB]) | (exfalso; omega) | fail)
            (refine yield_round (lp := LQ) (by first | (simp only [St.ev, St.set, upd, Nat.reduceEqDiff, reduceIte, ifA, ifB, hN, q1, q2, nmA, Nat.reduceAdd, ifA, ifB]; done) | (simp only [St.ev, St.set, upd, Nat.reduceEqDiff, reduceIte, ifA, ifB, hN, q1, q2, nmA, Nat.reduceAdd, ifA, ifB]; exact rfl)) LQ1 LQ2 (by first | exact List.mem_cons_self | exact List.mem_cons_of_mem _ List.mem_cons_self | exact List.mem_cons_of_mem _ (List.mem_cons_of_mem _ List.mem_cons_self) | exact List.mem_cons_of_mem _ (List.mem_cons_of_mem _ (List.mem_cons_of_mem _ List.mem_cons_self))) (by first | (rw [LQ3]; done) | (rw [LQ3]; rfl)) (by rw [LQ3]; decide) (fun m0 hm0 hcl hlt => ?_); rw [LQ3, LQ4, LQ5]; simp only [zipT, St.ev, St.set, upd, Nat.reduceEqDiff, reduceIte, ifA, ifB, hN, q1, q2, nmA, Nat.reduceAdd, ifA, ifB])
            repeat' (first | refine awp_seq_k fun K hK => ?_ | ((with_reducible refine hK _ ?_); clear hK K) | ((with_reducible refine aord_plain fun K hK => ?_); simp only [go_sem, Nat.reduceAdd, Nat.reduceMul, Nat.reduceEqDiff, Nat.reduceLT, reduceIte, reduceCtorEq, hN, q1, q2, nmA, Nat.reduceAdd, ifA, ifB, hN, q1, q2, mat.matL, DV.agg.injEq]) | ((with_reducible apply aord_guard); (focus (simp only [St.ev, St.set, upd, Nat.reduceEqDiff, reduceIte, ifA, ifB, hN, q1, q2, nmA, Nat.reduceAdd, ifA, ifB]; exact rfl)); all_goals (intro hb; (try simp only [Bool.not_true, Bool.not_false] at hb); first | (cases hb; done) | ((try rw [hb]); (try simp only [Bool.not_eq_true', Bool.not_eq_false', Bool.and_eq_true, dcA, dcB, dcC, dcD, dcE] at hb); (try (revert hb; with_reducible refine true_imp_iff.2 ?_)); first | (intro K hK; simp only [go_sem, Nat.reduceAdd, Nat.reduceMul, Nat.reduceEqDiff, Nat.reduceLT, reduceIte, reduceCtorEq, hN, q1, q2, nmA, Nat.reduceAdd, ifA, ifB]) | (simp only [St.ev, St.set, upd, Nat.reduceEqDiff, reduceIte, ifA, ifB, hN, q1, q2, nmA, Nat.reduceAdd, ifA, ifB]) | skip))) | refine awp_block ?_ | ((first | with_reducible refine aord_nil ?_ | refine awp_skip ?_ | refine awp_exit ?_ | refine awp_ret ?_); try simp only [rdA, Nat.reduceEqDiff, ifA, ifB, reduceIte]) | (refine awp_region tabOk rfl ?_; simp only [prep, pickO, lsA, lsB, lsC, lsD, lsE, lsF, lsG]) | ((with_reducible apply awp_cond); (focus (simp only [St.ev, St.set, upd, Nat.reduceEqDiff, reduceIte, ifA, ifB, hN, q1, q2, nmA, Nat.reduceAdd, ifA, ifB]; exact rfl)); all_goals (intro hb; first | (cases hb; done) | ((try rw [hb]); (try simp only [dcA, dcB, dcC, dcD, dcE, Bool.not_eq_true', Bool.not_eq_false'] at hb)))) | ((with_reducible refine And.intro ?_ ?_); (focus omega)) | ((with_reducible refine And.intro ?_ ?_); (focus (exact rfl))) | ((with_reducible refine And.intro (?_ : enters Try.prog 76) ?_); (focus exact Try.call76); (refine callX_h (callH_inline tabOk Try.func76 rfl 8 rfl [.tmp 2] rfl (Nat.le_of_ble_eq_true rfl) fun m0 hm0 hcl hlt => ?_)); simp only [initT, St.ev, St.set, upd, Nat.reduceEqDiff, reduceIte, ifA, ifB, hN, q1, q2, nmA, Nat.reduceAdd, ifA, ifB]) | (simp only [doneH]; simp only [ressK, resK, wrapR, go_sem, Nat.reduceAdd, Nat.reduceMul, Nat.reduceEqDiff, Nat.reduceLT, reduceIte, reduceCtorEq, hN, q1, q2, nmA, Nat.reduceAdd, ifA, ifB]) | (refine aStoreAll_cells (by simp only [St.ev, St.set, upd, Nat.reduceEqDiff, reduceIte, ifA, ifB, hN, q1, q2, nmA, Nat.reduceAdd, ifA, ifB]; exact rfl) ?_ ?_ ?_ ?_ ?_; (focus (first | rfl | omega | (simp; done) | (simp; omega) | (simp [szOf, tab]; done) | (simp [szOf, tab]; omega))); (focus (first | rfl | omega | (simp; done) | (simp; omega) | (simp [szOf, tab]; done) | (simp [szOf, tab]; omega))); (focus (first | rfl | omega | (simp; done) | (simp; omega) | (simp [szOf, tab]; done) | (simp [szOf, tab]; omega))); (focus (first | rfl | (simp [AV.cell, Value.oneCell']; done))); (try simp only [go_sem, Nat.reduceAdd, Nat.reduceMul, Nat.reduceEqDiff, Nat.reduceLT, reduceIte, reduceCtorEq, hN, q1, q2, nmA, Nat.reduceAdd, ifA, ifB])) | ((with_reducible refine roundA_normal ?_); simp only [St.ev, St.set, upd, Nat.reduceEqDiff, reduceIte, ifA, ifB, hN, q1, q2, nmA, Nat.reduceAdd, ifA, ifB]) | fail)
            refine ⟨((upd (upd (upd (upd (upd G (n + 9) none) M (some ⟨true, .cells [.val (.int .i64 0), .val (.int .i64 0)]⟩)) M (some ⟨true, .cells [.val (.int .i64 i), .val (.int .i64 j)]⟩)) (M + 1) (some ⟨true, .cells [.val (.int .i64 i), .val (.int .i64 j)]⟩)) (n + 9) (some ⟨true, .raw (.loop LQ)⟩)), M + 2, j + 1, s), ⟨by dsimp only; omega, hT.skip (fun h => by omega), ?_⟩, by dsimp only; omega, Wk.sub (tsd (tsd (tsd (tsd (tsd (tsd (tsd tsd0 rfl) rfl) rfl) rfl) rfl) rfl) rfl) (fun _ _ h => h) rfl⟩
            dsimp only
            refine hI.up (by omega) fun u hu => ?_
            by_cases e : u = n + 9
            · subst e; rw [upd_same]; exact c9.symm
            · rw [upd_ne _ _ e, upd_ne _ _ (by omega), upd_ne _ _ (by omega), upd_ne _ _ (by omega), upd_ne _ _ e]
        · have ej : d = j := by omega
          subst ej


          repeat' (first | refine awp_seq_k fun K hK => ?_ | ((with_reducible refine hK _ ?_); clear hK K) | (clear hK K; (with_reducible refine hK _ ?_); clear hK K) | ((with_reducible refine aord_plain fun K hK => ?_); simp only [go_sem, Nat.reduceAdd, Nat.reduceMul, Nat.reduceEqDiff, Nat.reduceLT, reduceIte, reduceCtorEq, mz, nmA, Nat.reduceAdd, ifA, ifB, mat.matL, DV.agg.injEq]) | ((with_reducible apply aord_guard); (focus (simp only [St.ev, St.set, upd, Nat.reduceEqDiff, reduceIte, ifA, ifB, mz, nmA, Nat.reduceAdd, ifA, ifB]; exact rfl)); all_goals (intro hb; (try simp only [Bool.not_true, Bool.not_false] at hb); first | (cases hb; done) | ((try rw [hb]); (try simp only [Bool.not_eq_true', Bool.not_eq_false', Bool.and_eq_true, dcA, dcB, dcC, dcD, dcE] at hb); (try (revert hb; with_reducible refine true_imp_iff.2 ?_)); first | (intro K hK; simp only [go_sem, Nat.reduceAdd, Nat.reduceMul, Nat.reduceEqDiff, Nat.reduceLT, reduceIte, reduceCtorEq, mz, nmA, Nat.reduceAdd, ifA, ifB]) | (simp only [St.ev, St.set, upd, Nat.reduceEqDiff, reduceIte, ifA, ifB, mz, nmA, Nat.reduceAdd, ifA, ifB]) | skip))) | refine awp_block ?_ | ((first | with_reducible refine aord_nil ?_ | refine awp_skip ?_ | refine awp_exit ?_ | refine awp_ret ?_); try simp only [rdA, Nat.reduceEqDiff, ifA, ifB, reduceIte]) | (refine awp_region tabOk rfl ?_; simp only [prep, pickO, lsA, lsB, lsC, lsD, lsE, lsF, lsG]) | ((with_reducible apply awp_cond); (focus (simp only [St.ev, St.set, upd, Nat.reduceEqDiff, reduceIte, ifA, ifB, mz, nmA, Nat.reduceAdd, ifA, ifB]; exact rfl)); all_goals (intro hb; first | (cases hb; done) | ((try rw [hb]); (try simp only [dcA, dcB, dcC, dcD, dcE, Bool.not_eq_true', Bool.not_eq_false'] at hb)))) | ((with_reducible refine And.intro ?_ ?_); (focus omega)) | (simp only [rBuild]; simp only [fillA, Nat.reduceLeDiff, List.getElem?_cons_zero, List.getElem?_cons_succ, List.drop_succ_cons, List.drop_nil, List.take_nil, List.cons_append, Option.isSome_some, go_sem, Nat.reduceAdd, Nat.reduceMul, Nat.reduceEqDiff, Nat.reduceLT, reduceIte, reduceCtorEq, mz, nmA, Nat.reduceAdd, ifA, ifB]) | (exfalso; omega) | fail)
          exact ⟨(G, M, i + 1, s), ⟨by dsimp only; omega, hT.row, hI⟩, by dsimp only; omega, Wk.sub (tsd (tsd (tsd (tsd tsd0 rfl) rfl) rfl) rfl) (fun _ _ h => h) rfl⟩
      · have ei : d = i := by omega
        subst ei
        have c3 := hI.c3
        have c7 := hI.c7
        have c9 := hI.c9
        have hdone := hT.done hg kinds_few hen
        have hsle := hT.le


        repeat' ((fail_if_success (with_reducible refine isRetQ ?_)); (first | refine awp_seq_k fun K hK => ?_ | ((with_reducible refine hK _ ?_); clear hK K) | (clear hK K; (with_reducible refine hK _ ?_); clear hK K) | ((with_reducible refine aord_plain fun K hK => ?_); simp only [go_sem, Nat.reduceAdd, Nat.reduceMul, Nat.reduceEqDiff, Nat.reduceLT, reduceIte, reduceCtorEq, c3, c7, c9, nmA, Nat.reduceAdd, ifA, ifB, c3, c7, c9, mat.matL, DV.agg.injEq]) | refine awp_block ?_ | ((first | with_reducible refine aord_nil ?_ | refine awp_skip ?_ | refine awp_exit ?_ | refine awp_ret ?_); try simp only [rdA, Nat.reduceEqDiff, ifA, ifB, reduceIte]) | (refine awp_region tabOk rfl ?_; simp only [prep, pickO, lsA, lsB, lsC, lsD, lsE, lsF, lsG]) | ((with_reducible apply awp_cond); (focus (simp only [St.ev, St.set, upd, Nat.reduceEqDiff, reduceIte, ifA, ifB, c3, c7, c9, nmA, Nat.reduceAdd, ifA, ifB]; exact rfl)); all_goals (intro hb; first | (cases hb; done) | ((try rw [hb]); (try simp only [dcA, dcB, dcC, dcD, dcE, Bool.not_eq_true', Bool.not_eq_false'] at hb)))) | (simp only [doneH]; simp only [ressK, resK, wrapR, go_sem, Nat.reduceAdd, Nat.reduceMul, Nat.reduceEqDiff, Nat.reduceLT, reduceIte, reduceCtorEq, c3, c7, c9, nmA, Nat.reduceAdd, ifA, ifB]) | ((with_reducible apply endA_go); (focus (simp only [St.ev, St.set, upd, Nat.reduceEqDiff, reduceIte, ifA, ifB, c3, c7, c9, nmA, Nat.reduceAdd, ifA, ifB]; exact rfl)); (focus assumption); (focus assumption); (try simp only [rdA, Nat.reduceEqDiff, ifA, ifB, reduceIte])) | (exfalso; omega) | fail))
        have hmn := hI.mn
        have hfr := hI.fr
        refine awp_weaken (s' := ⟨upd bot 6 (.val (.int .i64 s)), h, M⟩) (Wk.sub (tsd tsd0 rfl) (fun o ob ho => by have := (hclO o _ ho).1; dsimp only; (repeat rw [upd_ne _ _ (by omega)]); rw [hfr o (by omega)]; exact ho) rfl) ?_
        repeat' (first | ((first | with_reducible refine aord_nil ?_ | refine awp_skip ?_ | refine awp_exit ?_ | refine awp_ret ?_); try simp only [rdA, Nat.reduceEqDiff, ifA, ifB, reduceIte]) | (simp only [doneH]; simp only [ressK, resK, wrapR, go_sem, Nat.reduceAdd, Nat.reduceMul, Nat.reduceEqDiff, Nat.reduceLT, reduceIte, reduceCtorEq, c3, c7, c9, nmA, Nat.reduceAdd, ifA, ifB]) | fail)
        exact hQ s M hdone hsle (by omega)

theorem orO_good {d : Nat} {fs : List (Int × Int)} (h : VF d fs) : GoodL d (orO d fs) := ⟨by rw [orO_ag h]; exact (ordK_nodup (by have := h.1; omega)).filter _, fun _ hp => orO_beg h hp⟩
/-- LeastAsks' answer, PickAsks' answer. -/
noncomputable def leA (z : Int) (fs : List (Int × Int)) : Int := by classical exact if VF z fs ∧ z ≤ 4 then ((fewV enL z.toNat (orO z fs) : Nat) : Int) else -1
theorem leA_yes {d : Nat} {fs : List (Int × Int)} (h : VF d fs) (h4 : d ≤ 4) : leA d fs = ((fewV enL d (orO d fs) : Nat) : Int) := by unfold leA; rw [if_pos ⟨h, by omega⟩]; rfl
theorem leA_no {z : Int} {fs : List (Int × Int)} (h : ¬ (VF z fs ∧ z ≤ 4)) : leA z fs = -1 := by unfold leA; rw [if_neg h]
noncomputable def piA (z : Int) (fs : List (Int × Int)) (k : Int) : Int := by classical exact if VF z fs ∧ z ≤ 4 ∧ 0 ≤ k ∧ k < z then ((fewV (enK k.toNat) z.toNat (orO z fs) : Nat) : Int) else -1
theorem piA_yes {d k : Nat} {fs : List (Int × Int)} (h : VF d fs) (h4 : d ≤ 4) (hk : k < d) : piA d fs k = ((fewV (enK k) d (orO d fs) : Nat) : Int) := by unfold piA; rw [if_pos ⟨h, by omega, by omega, by omega⟩]; rfl
theorem piA_no {z k : Int} {fs : List (Int × Int)} (h : ¬ (VF z fs ∧ z ≤ 4 ∧ 0 ≤ k ∧ k < z)) : piA z fs k = -1 := by unfold piA; rw [if_neg h]


theorem implLeastAsks_sat : SatH Try.prog 17 (fun al h n K => ∃ (z : Int) (A : Nat) (b : Bool) (fs : List (Int × Int)), al = [.val (.int .i64 (z)), .sl A 0 fs.length 2 none] ∧ (h A = some ⟨b, .ints .i64 (flF fs)⟩) ∧ (fs.length ≤ 1099511627776) ∧ ∀ N : Nat, n ≤ N → K (.val (.int .i64 ((leA z fs)))) (h) (N)) := by
  refine satH_intro tabOk Try.func17 rfl 18 rfl [.tmp 4] rfl ?_
  rintro F W h n al K0 ⟨z, A, b, fs, rfl, hA, hl, hQ⟩
  refine ⟨Nat.le_of_ble_eq_true rfl, fun m0 hm0 hcl hlt => ?_⟩
  simp only [initT]
  have hAn := (hcl A _ hA).1
  have hfew := few_L_sat 120
  rcases Int.lt_or_le 4 z with h4 | h4
  · have e1 : decide (z > 4) = true := decide_eq_true h4
    rw [leA_no (fun h => by omega)] at hQ


    repeat' (first | refine awp_seq_k fun K hK => ?_ | ((with_reducible refine hK _ ?_); clear hK K) | ((with_reducible refine aord_plain fun K hK => ?_); simp only [go_sem, Nat.reduceAdd, Nat.reduceMul, Nat.reduceEqDiff, Nat.reduceLT, reduceIte, reduceCtorEq, hA, e1, nmA, Nat.reduceAdd, ifA, ifB, hA, e1]) | ((with_reducible apply aord_guard); (focus (simp only [St.ev, St.set, upd, Nat.reduceEqDiff, reduceIte, ifA, ifB, hA, e1, nmA, Nat.reduceAdd, ifA, ifB]; exact rfl)); all_goals (intro hb; (try simp only [Bool.not_true, Bool.not_false] at hb); first | (cases hb; done) | ((try rw [hb]); (try simp only [Bool.not_eq_true', Bool.not_eq_false', Bool.and_eq_true, dcA, dcB, dcC, dcD, dcE] at hb); (try (revert hb; with_reducible refine true_imp_iff.2 ?_)); first | (intro K hK; simp only [go_sem, Nat.reduceAdd, Nat.reduceMul, Nat.reduceEqDiff, Nat.reduceLT, reduceIte, reduceCtorEq, hA, e1, nmA, Nat.reduceAdd, ifA, ifB]) | (simp only [St.ev, St.set, upd, Nat.reduceEqDiff, reduceIte, ifA, ifB, hA, e1, nmA, Nat.reduceAdd, ifA, ifB]) | skip))) | ((first | with_reducible refine aord_nil ?_ | refine awp_skip ?_ | refine awp_exit ?_ | refine awp_ret ?_); try simp only [rdA, Nat.reduceEqDiff, ifA, ifB, reduceIte]) | (refine awp_region tabOk rfl ?_; simp only [prep, pickO, lsA, lsB, lsC, lsD, lsE, lsF, lsG]) | ((with_reducible apply awp_cond); (focus (simp only [St.ev, St.set, upd, Nat.reduceEqDiff, reduceIte, ifA, ifB, hA, e1, nmA, Nat.reduceAdd, ifA, ifB]; exact rfl)); all_goals (intro hb; first | (cases hb; done) | ((try rw [hb]); (try simp only [dcA, dcB, dcC, dcD, dcE, Bool.not_eq_true', Bool.not_eq_false'] at hb)))) | (simp only [doneH]; simp only [ressK, resK, wrapR, go_sem, Nat.reduceAdd, Nat.reduceMul, Nat.reduceEqDiff, Nat.reduceLT, reduceIte, reduceCtorEq, hA, e1, nmA, Nat.reduceAdd, ifA, ifB]) | fail)
    exact hQ n (Nat.le_refl _)
  · have e1 : decide (z > 4) = false := decide_eq_false (by omega)


    repeat' ((fail_if_success (with_reducible refine isRetQ ?_)); (first | refine awp_seq_k fun K hK => ?_ | ((with_reducible refine hK _ ?_); clear hK K) | ((with_reducible refine aord_plain fun K hK => ?_); simp only [go_sem, Nat.reduceAdd, Nat.reduceMul, Nat.reduceEqDiff, Nat.reduceLT, reduceIte, reduceCtorEq, hA, e1, nmA, Nat.reduceAdd, ifA, ifB, hA, e1]) | ((with_reducible apply aord_guard); (focus (simp only [St.ev, St.set, upd, Nat.reduceEqDiff, reduceIte, ifA, ifB, hA, e1, nmA, Nat.reduceAdd, ifA, ifB]; exact rfl)); all_goals (intro hb; (try simp only [Bool.not_true, Bool.not_false] at hb); first | (cases hb; done) | ((try rw [hb]); (try simp only [Bool.not_eq_true', Bool.not_eq_false', Bool.and_eq_true, dcA, dcB, dcC, dcD, dcE] at hb); (try (revert hb; with_reducible refine true_imp_iff.2 ?_)); first | (intro K hK; simp only [go_sem, Nat.reduceAdd, Nat.reduceMul, Nat.reduceEqDiff, Nat.reduceLT, reduceIte, reduceCtorEq, hA, e1, nmA, Nat.reduceAdd, ifA, ifB]) | (simp only [St.ev, St.set, upd, Nat.reduceEqDiff, reduceIte, ifA, ifB, hA, e1, nmA, Nat.reduceAdd, ifA, ifB]) | skip))) | ((first | with_reducible refine aord_nil ?_ | refine awp_skip ?_ | refine awp_exit ?_ | refine awp_ret ?_); try simp only [rdA, Nat.reduceEqDiff, ifA, ifB, reduceIte]) | (refine awp_region tabOk rfl ?_; simp only [prep, pickO, lsA, lsB, lsC, lsD, lsE, lsF, lsG]) | ((with_reducible refine And.intro (?_ : enters Try.prog 33) ?_); (focus exact Try.call33); (refine callX_satH implValidFacts_sat ?_); simp only [go_sem, and_assoc, List.nil_append, List.append_nil, List.cons_append, Nat.reduceEqDiff, reduceIte, reduceCtorEq, hA, e1, nmA, Nat.reduceAdd, ifA, ifB, hA, e1]) | fail))
    refine ⟨b, fs, rfl, rfl, rfl, hl, fun v N hv hN => ?_⟩
    cases v with
    | false =>
      rw [leA_no (fun h => by have := hv.2 h.1; cases this)] at hQ


      repeat' (first | refine awp_seq_k fun K hK => ?_ | ((with_reducible refine hK _ ?_); clear hK K) | ((with_reducible refine aord_plain fun K hK => ?_); simp only [go_sem, Nat.reduceAdd, Nat.reduceMul, Nat.reduceEqDiff, Nat.reduceLT, reduceIte, reduceCtorEq, hA, nmA, Nat.reduceAdd, ifA, ifB, hA]) | ((with_reducible apply aord_guard); (focus (simp only [St.ev, St.set, upd, Nat.reduceEqDiff, reduceIte, ifA, ifB, hA, nmA, Nat.reduceAdd, ifA, ifB]; exact rfl)); all_goals (intro hb; (try simp only [Bool.not_true, Bool.not_false] at hb); first | (cases hb; done) | ((try rw [hb]); (try simp only [Bool.not_eq_true', Bool.not_eq_false', Bool.and_eq_true, dcA, dcB, dcC, dcD, dcE] at hb); (try (revert hb; with_reducible refine true_imp_iff.2 ?_)); first | (intro K hK; simp only [go_sem, Nat.reduceAdd, Nat.reduceMul, Nat.reduceEqDiff, Nat.reduceLT, reduceIte, reduceCtorEq, hA, nmA, Nat.reduceAdd, ifA, ifB]) | (simp only [St.ev, St.set, upd, Nat.reduceEqDiff, reduceIte, ifA, ifB, hA, nmA, Nat.reduceAdd, ifA, ifB]) | skip))) | ((first | with_reducible refine aord_nil ?_ | refine awp_skip ?_ | refine awp_exit ?_ | refine awp_ret ?_); try simp only [rdA, Nat.reduceEqDiff, ifA, ifB, reduceIte]) | (refine awp_region tabOk rfl ?_; simp only [prep, pickO, lsA, lsB, lsC, lsD, lsE, lsF, lsG]) | ((with_reducible apply awp_cond); (focus (simp only [St.ev, St.set, upd, Nat.reduceEqDiff, reduceIte, ifA, ifB, hA, nmA, Nat.reduceAdd, ifA, ifB]; exact rfl)); all_goals (intro hb; first | (cases hb; done) | ((try rw [hb]); (try simp only [dcA, dcB, dcC, dcD, dcE, Bool.not_eq_true', Bool.not_eq_false'] at hb)))) | (simp only [doneH]; simp only [ressK, resK, wrapR, go_sem, Nat.reduceAdd, Nat.reduceMul, Nat.reduceEqDiff, Nat.reduceLT, reduceIte, reduceCtorEq, hA, nmA, Nat.reduceAdd, ifA, ifB]) | fail)
      exact hQ N hN
    | true =>
      have hV := hv.1 rfl
      obtain ⟨d, rfl⟩ : ∃ d : Nat, z = d := ⟨z.toNat, by have := hV.1; omega⟩
      have hcap := orO_cap (d : Int) fs


      repeat' (first | refine awp_seq_k fun K hK => ?_ | ((with_reducible refine hK _ ?_); clear hK K) | ((with_reducible refine aord_plain fun K hK => ?_); simp only [go_sem, Nat.reduceAdd, Nat.reduceMul, Nat.reduceEqDiff, Nat.reduceLT, reduceIte, reduceCtorEq, hA, nmA, Nat.reduceAdd, ifA, ifB, hA]) | ((with_reducible apply aord_guard); (focus (simp only [St.ev, St.set, upd, Nat.reduceEqDiff, reduceIte, ifA, ifB, hA, nmA, Nat.reduceAdd, ifA, ifB]; exact rfl)); all_goals (intro hb; (try simp only [Bool.not_true, Bool.not_false] at hb); first | (cases hb; done) | ((try rw [hb]); (try simp only [Bool.not_eq_true', Bool.not_eq_false', Bool.and_eq_true, dcA, dcB, dcC, dcD, dcE] at hb); (try (revert hb; with_reducible refine true_imp_iff.2 ?_)); first | (intro K hK; simp only [go_sem, Nat.reduceAdd, Nat.reduceMul, Nat.reduceEqDiff, Nat.reduceLT, reduceIte, reduceCtorEq, hA, nmA, Nat.reduceAdd, ifA, ifB]) | (simp only [St.ev, St.set, upd, Nat.reduceEqDiff, reduceIte, ifA, ifB, hA, nmA, Nat.reduceAdd, ifA, ifB]) | skip))) | ((first | with_reducible refine aord_nil ?_ | refine awp_skip ?_ | refine awp_exit ?_ | refine awp_ret ?_); try simp only [rdA, Nat.reduceEqDiff, ifA, ifB, reduceIte]) | (refine awp_region tabOk rfl ?_; simp only [prep, pickO, lsA, lsB, lsC, lsD, lsE, lsF, lsG]) | ((with_reducible apply awp_cond); (focus (simp only [St.ev, St.set, upd, Nat.reduceEqDiff, reduceIte, ifA, ifB, hA, nmA, Nat.reduceAdd, ifA, ifB]; exact rfl)); all_goals (intro hb; first | (cases hb; done) | ((try rw [hb]); (try simp only [dcA, dcB, dcC, dcD, dcE, Bool.not_eq_true', Bool.not_eq_false'] at hb)))) | ((with_reducible refine And.intro (?_ : enters Try.prog 29) ?_); (focus exact Try.call29); (refine callX_satH implOrdersLeft_sat ?_); simp only [go_sem, and_assoc, List.nil_append, List.append_nil, List.cons_append, Nat.reduceEqDiff, reduceIte, reduceCtorEq, hA, nmA, Nat.reduceAdd, ifA, ifB, hA]) | fail)
      refine ⟨b, fs, rfl, rfl, rfl, hl, fun H1 N1 O1 f1 r1 r2 r3 r4 r5 => ?_⟩


      repeat' (first | ((with_reducible refine hK _ ?_); clear hK K) | ((with_reducible refine aord_plain fun K hK => ?_); simp only [go_sem, Nat.reduceAdd, Nat.reduceMul, Nat.reduceEqDiff, Nat.reduceLT, reduceIte, reduceCtorEq]) | ((with_reducible refine And.intro (?_ : enters Try.prog 50) ?_); (focus exact Try.call50); (refine callX_satH hfew ?_); simp only [go_sem, and_assoc, List.nil_append, List.append_nil, List.cons_append, Nat.reduceEqDiff, reduceIte, reduceCtorEq]) | fail)
      refine ⟨d, rfl, f1, orO d fs, rfl, r1, orO_good hV, by omega, hcap, hcap, fun w N2 hw hwl hN2 => ?_⟩
      rw [leA_yes hV (by omega), few_eq hw] at hQ
      repeat' ((fail_if_success (with_reducible refine isRetQ ?_)); (first | ((with_reducible refine hK _ ?_); clear hK K) | ((with_reducible refine aord_plain fun K hK => ?_); simp only [go_sem, Nat.reduceAdd, Nat.reduceMul, Nat.reduceEqDiff, Nat.reduceLT, reduceIte, reduceCtorEq]) | ((first | with_reducible refine aord_nil ?_ | refine awp_skip ?_ | refine awp_exit ?_ | refine awp_ret ?_); try simp only [rdA, Nat.reduceEqDiff, ifA, ifB, reduceIte]) | fail))
      refine awp_weaken (s' := ⟨upd bot 4 (.val (.int .i64 w)), h, N2⟩) (Wk.sub (tsd tsd0 rfl) (fun o ob ho => by have := (hcl o _ ho).1; dsimp only; rw [r4 o (by omega)]; exact ho) rfl) ?_
      repeat' (first | ((first | with_reducible refine aord_nil ?_ | refine awp_skip ?_ | refine awp_exit ?_ | refine awp_ret ?_); try simp only [rdA, Nat.reduceEqDiff, ifA, ifB, reduceIte]) | (simp only [doneH]; simp only [ressK, resK, wrapR, go_sem, Nat.reduceAdd, Nat.reduceMul, Nat.reduceEqDiff, Nat.reduceLT, reduceIte, reduceCtorEq]) | fail)
      exact hQ N2 (by omega)


theorem implPickAsks_sat : SatH Try.prog 23 (fun al h n K => ∃ (z : Int) (A : Nat) (b : Bool) (fs : List (Int × Int)) (k : Int), al = [.val (.int .i64 (z)), .sl A 0 fs.length 2 none, .val (.int .i64 (k))] ∧ (h A = some ⟨b, .ints .i64 (flF fs)⟩) ∧ (fs.length ≤ 1099511627776) ∧ ∀ N : Nat, n ≤ N → K (.val (.int .i64 ((piA z fs k)))) (h) (N)) := by
  refine satH_intro tabOk Try.func23 rfl 30 rfl [.tmp 6] rfl ?_
  rintro F W h n al K0 ⟨z, A, b, fs, k, rfl, hA, hl, hQ⟩
  refine ⟨Nat.le_of_ble_eq_true rfl, fun m0 hm0 hcl hlt => ?_⟩
  simp only [initT]
  have hAn := (hcl A _ hA).1
  have hfew := few_K_sat 120
  have a1 : (A = n) = False := eq_false (by omega)
  have a2 : (n = A) = False := eq_false (by omega)
  have hdr : ∀ (x : Option Ob) (o : Nat) (ob : Ob), h o = some ob → upd h n x o = some ob := fun x o ob ho => by rw [upd_ne _ _ (by have := (hcl o _ ho).1; omega)]; exact ho
  rcases Int.lt_or_le 4 z with h4 | h4
  · have e1 : decide (z > 4) = true := decide_eq_true h4
    rw [piA_no (fun h => by omega)] at hQ


    repeat' ((fail_if_success (with_reducible refine isRetQ ?_)); (first | refine awp_seq_k fun K hK => ?_ | ((with_reducible refine hK _ ?_); clear hK K) | ((with_reducible refine aord_plain fun K hK => ?_); simp only [go_sem, Nat.reduceAdd, Nat.reduceMul, Nat.reduceEqDiff, Nat.reduceLT, reduceIte, reduceCtorEq, hA, e1, a1, a2, nmA, Nat.reduceAdd, ifA, ifB, hA, e1]) | ((with_reducible apply aord_guard); (focus (simp only [St.ev, St.set, upd, Nat.reduceEqDiff, reduceIte, ifA, ifB, hA, e1, a1, a2, nmA, Nat.reduceAdd, ifA, ifB]; exact rfl)); all_goals (intro hb; (try simp only [Bool.not_true, Bool.not_false] at hb); first | (cases hb; done) | ((try rw [hb]); (try simp only [Bool.not_eq_true', Bool.not_eq_false', Bool.and_eq_true, dcA, dcB, dcC, dcD, dcE] at hb); (try (revert hb; with_reducible refine true_imp_iff.2 ?_)); first | (intro K hK; simp only [go_sem, Nat.reduceAdd, Nat.reduceMul, Nat.reduceEqDiff, Nat.reduceLT, reduceIte, reduceCtorEq, hA, e1, a1, a2, nmA, Nat.reduceAdd, ifA, ifB]) | (simp only [St.ev, St.set, upd, Nat.reduceEqDiff, reduceIte, ifA, ifB, hA, e1, a1, a2, nmA, Nat.reduceAdd, ifA, ifB]) | skip))) | ((first | with_reducible refine aord_nil ?_ | refine awp_skip ?_ | refine awp_exit ?_ | refine awp_ret ?_); try simp only [rdA, Nat.reduceEqDiff, ifA, ifB, reduceIte]) | (refine awp_region tabOk rfl ?_; simp only [prep, pickO, lsA, lsB, lsC, lsD, lsE, lsF, lsG]) | ((with_reducible apply awp_cond); (focus (simp only [St.ev, St.set, upd, Nat.reduceEqDiff, reduceIte, ifA, ifB, hA, e1, a1, a2, nmA, Nat.reduceAdd, ifA, ifB]; exact rfl)); all_goals (intro hb; first | (cases hb; done) | ((try rw [hb]); (try simp only [dcA, dcB, dcC, dcD, dcE, Bool.not_eq_true', Bool.not_eq_false'] at hb)))) | fail))
    refine awp_weaken (s' := ⟨upd bot 6 (.val (.int .i64 (-1))), h, n + 1⟩) (Wk.sub (tsd tsd0 rfl) (hdr _) rfl) ?_
    repeat' (first | ((first | with_reducible refine aord_nil ?_ | refine awp_skip ?_ | refine awp_exit ?_ | refine awp_ret ?_); try simp only [rdA, Nat.reduceEqDiff, ifA, ifB, reduceIte]) | (simp only [doneH]; simp only [ressK, resK, wrapR, go_sem, Nat.reduceAdd, Nat.reduceMul, Nat.reduceEqDiff, Nat.reduceLT, reduceIte, reduceCtorEq, hA, e1, a1, a2, nmA, Nat.reduceAdd, ifA, ifB]) | fail)
    exact hQ (n + 1) (by omega)
  · have e1 : decide (z > 4) = false := decide_eq_false (by omega)
    obtain ⟨b2, e2⟩ : ∃ b2, decide (k < 0) = b2 := ⟨_, rfl⟩
    obtain ⟨b3, e3⟩ : ∃ b3, decide (k ≥ z) = b3 := ⟨_, rfl⟩


    repeat' ((fail_if_success (with_reducible refine isRetQ ?_)); (first | refine awp_seq_k fun K hK => ?_ | ((with_reducible refine hK _ ?_); clear hK K) | ((with_reducible refine aord_plain fun K hK => ?_); simp only [go_sem, Nat.reduceAdd, Nat.reduceMul, Nat.reduceEqDiff, Nat.reduceLT, reduceIte, reduceCtorEq, hA, e1, a1, a2, nmA, Nat.reduceAdd, ifA, ifB, hA, e1]) | ((with_reducible apply aord_guard); (focus (simp only [St.ev, St.set, upd, Nat.reduceEqDiff, reduceIte, ifA, ifB, hA, e1, a1, a2, nmA, Nat.reduceAdd, ifA, ifB]; exact rfl)); all_goals (intro hb; (try simp only [Bool.not_true, Bool.not_false] at hb); first | (cases hb; done) | ((try rw [hb]); (try simp only [Bool.not_eq_true', Bool.not_eq_false', Bool.and_eq_true, dcA, dcB, dcC, dcD, dcE] at hb); (try (revert hb; with_reducible refine true_imp_iff.2 ?_)); first | (intro K hK; simp only [go_sem, Nat.reduceAdd, Nat.reduceMul, Nat.reduceEqDiff, Nat.reduceLT, reduceIte, reduceCtorEq, hA, e1, a1, a2, nmA, Nat.reduceAdd, ifA, ifB]) | (simp only [St.ev, St.set, upd, Nat.reduceEqDiff, reduceIte, ifA, ifB, hA, e1, a1, a2, nmA, Nat.reduceAdd, ifA, ifB]) | skip))) | ((first | with_reducible refine aord_nil ?_ | refine awp_skip ?_ | refine awp_exit ?_ | refine awp_ret ?_); try simp only [rdA, Nat.reduceEqDiff, ifA, ifB, reduceIte]) | (refine awp_region tabOk rfl ?_; simp only [prep, pickO, lsA, lsB, lsC, lsD, lsE, lsF, lsG]) | ((with_reducible refine And.intro (?_ : enters Try.prog 33) ?_); (focus exact Try.call33); (refine callX_satH implValidFacts_sat ?_); simp only [go_sem, and_assoc, List.nil_append, List.append_nil, List.cons_append, Nat.reduceEqDiff, reduceIte, reduceCtorEq, hA, e1, a1, a2, nmA, Nat.reduceAdd, ifA, ifB, hA, e1]) | fail))
    refine ⟨b, fs, rfl, rfl, rfl, hl, fun v N hv hN => ?_⟩
    by_cases hgood : v = true ∧ b2 = false ∧ b3 = false
    · obtain ⟨rfl, rfl, rfl⟩ := hgood
      have hV := hv.1 rfl
      obtain ⟨d, rfl⟩ : ∃ d : Nat, z = d := ⟨z.toNat, by have := hV.1; omega⟩
      obtain ⟨kk, rfl⟩ : ∃ kk : Nat, k = kk := ⟨k.toNat, by have := of_decide_eq_false e2; omega⟩
      have hkd : kk < d := by have := of_decide_eq_false e3; omega
      have hcap := orO_cap (d : Int) fs


      repeat' (first | refine awp_seq_k fun K hK => ?_ | ((with_reducible refine hK _ ?_); clear hK K) | ((with_reducible refine aord_plain fun K hK => ?_); simp only [go_sem, Nat.reduceAdd, Nat.reduceMul, Nat.reduceEqDiff, Nat.reduceLT, reduceIte, reduceCtorEq, hA, e1, a1, a2, e2, e3, nmA, Nat.reduceAdd, ifA, ifB, hA, e1, e2, e3]) | ((with_reducible apply aord_guard); (focus (simp only [St.ev, St.set, upd, Nat.reduceEqDiff, reduceIte, ifA, ifB, hA, e1, a1, a2, e2, e3, nmA, Nat.reduceAdd, ifA, ifB]; exact rfl)); all_goals (intro hb; (try simp only [Bool.not_true, Bool.not_false] at hb); first | (cases hb; done) | ((try rw [hb]); (try simp only [Bool.not_eq_true', Bool.not_eq_false', Bool.and_eq_true, dcA, dcB, dcC, dcD, dcE] at hb); (try (revert hb; with_reducible refine true_imp_iff.2 ?_)); first | (intro K hK; simp only [go_sem, Nat.reduceAdd, Nat.reduceMul, Nat.reduceEqDiff, Nat.reduceLT, reduceIte, reduceCtorEq, hA, e1, a1, a2, e2, e3, nmA, Nat.reduceAdd, ifA, ifB]) | (simp only [St.ev, St.set, upd, Nat.reduceEqDiff, reduceIte, ifA, ifB, hA, e1, a1, a2, e2, e3, nmA, Nat.reduceAdd, ifA, ifB]) | skip))) | ((first | with_reducible refine aord_nil ?_ | refine awp_skip ?_ | refine awp_exit ?_ | refine awp_ret ?_); try simp only [rdA, Nat.reduceEqDiff, ifA, ifB, reduceIte]) | (refine awp_region tabOk rfl ?_; simp only [prep, pickO, lsA, lsB, lsC, lsD, lsE, lsF, lsG]) | ((with_reducible apply awp_cond); (focus (simp only [St.ev, St.set, upd, Nat.reduceEqDiff, reduceIte, ifA, ifB, hA, e1, a1, a2, e2, e3, nmA, Nat.reduceAdd, ifA, ifB]; exact rfl)); all_goals (intro hb; first | (cases hb; done) | ((try rw [hb]); (try simp only [dcA, dcB, dcC, dcD, dcE, Bool.not_eq_true', Bool.not_eq_false'] at hb)))) | ((with_reducible refine And.intro (?_ : enters Try.prog 29) ?_); (focus exact Try.call29); (refine callX_satH implOrdersLeft_sat ?_); simp only [go_sem, and_assoc, List.nil_append, List.append_nil, List.cons_append, Nat.reduceEqDiff, reduceIte, reduceCtorEq, hA, e1, a1, a2, e2, e3, nmA, Nat.reduceAdd, ifA, ifB, hA, e1, e2, e3]) | fail)
      refine ⟨b, fs, rfl, rfl, rfl, hl, fun H1 N1 O1 f1 r1 r2 r3 r4 r5 => ?_⟩
      have hn1 : H1 n = some ⟨true, .cells [.val (.int .i64 kk)]⟩ := (r4 n (by omega)).trans (if_pos rfl)


      repeat' (first | ((with_reducible refine hK _ ?_); clear hK K) | ((with_reducible refine aord_plain fun K hK => ?_); simp only [go_sem, Nat.reduceAdd, Nat.reduceMul, Nat.reduceEqDiff, Nat.reduceLT, reduceIte, reduceCtorEq, AV.clo.injEq, List.cons.injEq, AV.ref.injEq, and_true, true_and]) | ((with_reducible refine And.intro (?_ : enters Try.prog 50) ?_); (focus exact Try.call50); (refine callX_satH hfew ?_); simp only [go_sem, and_assoc, List.nil_append, List.append_nil, List.cons_append, Nat.reduceEqDiff, reduceIte, reduceCtorEq, AV.clo.injEq, List.cons.injEq, AV.ref.injEq, and_true, true_and]) | fail)
      refine ⟨d, rfl, f1, orO d fs, rfl, kk, hn1, hkd, r1, orO_good hV, by omega, hcap, hcap, fun w N2 hw hwl hN2 => ?_⟩
      rw [piA_yes hV (by omega) hkd, few_eq hw] at hQ
      repeat' ((fail_if_success (with_reducible refine isRetQ ?_)); (first | ((with_reducible refine hK _ ?_); clear hK K) | ((with_reducible refine aord_plain fun K hK => ?_); simp only [go_sem, Nat.reduceAdd, Nat.reduceMul, Nat.reduceEqDiff, Nat.reduceLT, reduceIte, reduceCtorEq, AV.clo.injEq, List.cons.injEq, AV.ref.injEq, and_true, true_and]) | ((first | with_reducible refine aord_nil ?_ | refine awp_skip ?_ | refine awp_exit ?_ | refine awp_ret ?_); try simp only [rdA, Nat.reduceEqDiff, ifA, ifB, reduceIte]) | fail))
      refine awp_weaken (s' := ⟨upd bot 6 (.val (.int .i64 w)), h, N2⟩) (Wk.sub (tsd tsd0 rfl) (fun o ob ho => by have := (hcl o _ ho).1; dsimp only; rw [r4 o (by omega), if_neg (by omega)]; exact ho) rfl) ?_
      repeat' (first | ((first | with_reducible refine aord_nil ?_ | refine awp_skip ?_ | refine awp_exit ?_ | refine awp_ret ?_); try simp only [rdA, Nat.reduceEqDiff, ifA, ifB, reduceIte]) | (simp only [doneH]; simp only [ressK, resK, wrapR, go_sem, Nat.reduceAdd, Nat.reduceMul, Nat.reduceEqDiff, Nat.reduceLT, reduceIte, reduceCtorEq]) | fail)
      exact hQ N2 (by omega)
    · rw [piA_no (fun h => hgood ⟨hv.2 h.1, by rw [← e2]; exact decide_eq_false (by omega), by rw [← e3]; exact decide_eq_false (by omega)⟩)] at hQ
      cases v <;> cases b2 <;> cases b3
      all_goals try (exact absurd ⟨rfl, rfl, rfl⟩ hgood)
      all_goals (


        repeat' ((fail_if_success (with_reducible refine isRetQ ?_)); (first | refine awp_seq_k fun K hK => ?_ | ((with_reducible refine hK _ ?_); clear hK K) | ((with_reducible refine aord_plain fun K hK => ?_); simp only [go_sem, Nat.reduceAdd, Nat.reduceMul, Nat.reduceEqDiff, Nat.reduceLT, reduceIte, reduceCtorEq, hA, e1, a1, a2, e2, e3, nmA, Nat.reduceAdd, ifA, ifB, hA, e1, e2, e3]) | ((with_reducible apply aord_guard); (focus (simp only [St.ev, St.set, upd, Nat.reduceEqDiff, reduceIte, ifA, ifB, hA, e1, a1, a2, e2, e3, nmA, Nat.reduceAdd, ifA, ifB]; exact rfl)); all_goals (intro hb; (try simp only [Bool.not_true, Bool.not_false] at hb); first | (cases hb; done) | ((try rw [hb]); (try simp only [Bool.not_eq_true', Bool.not_eq_false', Bool.and_eq_true, dcA, dcB, dcC, dcD, dcE] at hb); (try (revert hb; with_reducible refine true_imp_iff.2 ?_)); first | (intro K hK; simp only [go_sem, Nat.reduceAdd, Nat.reduceMul, Nat.reduceEqDiff, Nat.reduceLT, reduceIte, reduceCtorEq, hA, e1, a1, a2, e2, e3, nmA, Nat.reduceAdd, ifA, ifB]) | (simp only [St.ev, St.set, upd, Nat.reduceEqDiff, reduceIte, ifA, ifB, hA, e1, a1, a2, e2, e3, nmA, Nat.reduceAdd, ifA, ifB]) | skip))) | ((first | with_reducible refine aord_nil ?_ | refine awp_skip ?_ | refine awp_exit ?_ | refine awp_ret ?_); try simp only [rdA, Nat.reduceEqDiff, ifA, ifB, reduceIte]) | (refine awp_region tabOk rfl ?_; simp only [prep, pickO, lsA, lsB, lsC, lsD, lsE, lsF, lsG]) | ((with_reducible apply awp_cond); (focus (simp only [St.ev, St.set, upd, Nat.reduceEqDiff, reduceIte, ifA, ifB, hA, e1, a1, a2, e2, e3, nmA, Nat.reduceAdd, ifA, ifB]; exact rfl)); all_goals (intro hb; first | (cases hb; done) | ((try rw [hb]); (try simp only [dcA, dcB, dcC, dcD, dcE, Bool.not_eq_true', Bool.not_eq_false'] at hb)))) | fail))
        refine awp_weaken (s' := ⟨upd bot 6 (.val (.int .i64 (-1))), h, N⟩) (Wk.sub (tsd tsd0 rfl) (hdr _) rfl) ?_
        repeat' (first | ((first | with_reducible refine aord_nil ?_ | refine awp_skip ?_ | refine awp_exit ?_ | refine awp_ret ?_); try simp only [rdA, Nat.reduceEqDiff, ifA, ifB, reduceIte]) | (simp only [doneH]; simp only [ressK, resK, wrapR, go_sem, Nat.reduceAdd, Nat.reduceMul, Nat.reduceEqDiff, Nat.reduceLT, reduceIte, reduceCtorEq, hA, e1, a1, a2, e2, e3, nmA, Nat.reduceAdd, ifA, ifB]) | fail))
      all_goals exact hQ N (by omega)

def seenK (k : Nat) (L : List (List Int)) : Nat := hasX L k 0 + 2 * hasX L k 1 + 4 * hasX L k 2 + 8 * hasX L k 3 + 16 * hasX L k 4
theorem seen_bit {L : List (List Int)} {k x : Nat} (hx : x ≤ 4) : seenK k L / 2 ^ x % 2 = hasX L k x := by
  have h0 := hasX_le L k 0
  have h1 := hasX_le L k 1
  have h2 := hasX_le L k 2
  have h3 := hasX_le L k 3
  have h4 := hasX_le L k 4
  have x5 : x = 0 ∨ x = 1 ∨ x = 2 ∨ x = 3 ∨ x = 4 := by omega
  unfold seenK
  rcases x5 with rfl | rfl | rfl | rfl | rfl <;> simp only [Nat.reducePow] <;> omega
theorem hasX_up {L : List (List Int)} {p : List Int} {k y : Nat} : hasX (L ++ [p]) k y = if p.getD k 0 = (y : Int) then 1 else hasX L k y := by
  unfold hasX
  rw [List.any_append]
  simp only [List.any_cons, List.any_nil, Bool.or_false, beq_iff_eq, Bool.or_eq_true]
  by_cases c : p.getD k 0 = (y : Int)
  · rw [if_pos (.inr c), if_pos c]
  · simp only [c, or_false, if_false]
theorem kd_up {L : List (List Int)} {p : List Int} {k x : Nat} (hx : x ≤ 4) (hp : p.getD k 0 = (x : Int)) : (hasX L k x = 0 → seenK k (L ++ [p]) = seenK k L + 2 ^ x ∧ kdK k (L ++ [p]) = kdK k L + 1) ∧ (hasX L k x = 1 → seenK k (L ++ [p]) = seenK k L ∧ kdK k (L ++ [p]) = kdK k L) := by
  have x5 : x = 0 ∨ x = 1 ∨ x = 2 ∨ x = 3 ∨ x = 4 := by omega
  unfold seenK kdK
  simp only [hasX_up, hp]
  rcases x5 with rfl | rfl | rfl | rfl | rfl
  all_goals (constructor <;> intro h <;> simp <;> omega)
theorem seen_le (k : Nat) (L : List (List Int)) : seenK k L ≤ 31 ∧ kdK k L ≤ 5 := by
  have h0 := hasX_le L k 0
  have h1 := hasX_le L k 1
  have h2 := hasX_le L k 2
  have h3 := hasX_le L k 3
  have h4 := hasX_le L k 4
  unfold seenK kdK; omega
theorem pow_le16 {x : Nat} (hx : x ≤ 4) : 2 ^ x ≤ 16 ∧ 0 < 2 ^ x := by
  have x5 : x = 0 ∨ x = 1 ∨ x = 2 ∨ x = 3 ∨ x = 4 := by omega
  rcases x5 with rfl | rfl | rfl | rfl | rfl <;> decide


theorem kindsL_sat : SatH Try.prog 94 (fun al h n K => ∃ (O : Nat) (xss : List (List Int)), al = [.sl O 0 xss.length 1 none, .val (.int .i64 ((-1)))] ∧ (xss.length ≤ 500) ∧ K (.val (.int .i64 (((xss.length : Nat) : Int)))) (h) (n)) := by
  refine satH_intro tabOk Try.func94 rfl 44 rfl [.tmp 4] rfl ?_
  rintro F W h n al K0 ⟨O, xss, rfl, hxl, hQ⟩
  refine ⟨Nat.le_of_ble_eq_true rfl, fun m0 hm0 hcl hlt => ?_⟩
  simp only [initT]
  have e1 : decide ((-1 : Int) < 0) = true := by decide

  repeat' (first | refine awp_seq_k fun K hK => ?_ | ((with_reducible refine hK _ ?_); clear hK K) | ((with_reducible refine aord_plain fun K hK => ?_); simp only [go_sem, Nat.reduceAdd, Nat.reduceMul, Nat.reduceEqDiff, Nat.reduceLT, reduceIte, reduceCtorEq, e1]) | ((first | with_reducible refine aord_nil ?_ | refine awp_skip ?_ | refine awp_exit ?_ | refine awp_ret ?_); try simp only [rdA, Nat.reduceEqDiff, ifA, ifB, reduceIte]) | (refine awp_region tabOk rfl ?_; simp only [prep, pickO, lsA, lsB, lsC, lsD, lsE, lsF, lsG]) | ((with_reducible apply awp_cond); (focus (simp only [St.ev, St.set, upd, Nat.reduceEqDiff, reduceIte, ifA, ifB]; exact rfl)); all_goals (intro hb; first | (cases hb; done) | ((try rw [hb]); (try simp only [dcA, dcB, dcC, dcD, dcE, Bool.not_eq_true', Bool.not_eq_false'] at hb)))) | (simp only [doneH]; simp only [ressK, resK, wrapR, go_sem, Nat.reduceAdd, Nat.reduceMul, Nat.reduceEqDiff, Nat.reduceLT, reduceIte, reduceCtorEq]) | fail)
  exact hQ


theorem kindsK_sat : SatH Try.prog 94 (fun al h n K => ∃ (O kk : Nat) (f : Nat → Nat) (xss : List (List Int)), al = [.sl O 0 xss.length 1 none, .val (.int .i64 (kk))] ∧ (RowsOf h n O f xss) ∧ (∀ j, j < xss.length → kk < (xss.getD j []).length ∧ (xss.getD j []).length ≤ 1000 ∧ 0 ≤ (xss.getD j []).getD kk 0 ∧ (xss.getD j []).getD kk 0 ≤ 4) ∧ (xss.length ≤ 500) ∧ K (.val (.int .i64 (((kdK kk xss : Nat) : Int)))) (h) (n)) := by
  refine satH_intro tabOk Try.func94 rfl 44 rfl [.tmp 4] rfl ?_
  rintro F W h n al K0 ⟨O, kk, f, xss, rfl, hR, hx, hxl, hQ⟩
  refine ⟨Nat.le_of_ble_eq_true rfl, fun m0 hm0 hcl hlt => ?_⟩
  simp only [initT]
  have hOn := hR.outn
  have hOr := hR.out
  have hsl := @slsN_len f xss 0
  have e1 : decide ((kk : Int) < 0) = false := decide_eq_false (by omega)


  repeat' (first | refine awp_seq_k fun K hK => ?_ | ((with_reducible refine hK _ ?_); clear hK K) | ((with_reducible refine aord_plain fun K hK => ?_); simp only [go_sem, Nat.reduceAdd, Nat.reduceMul, Nat.reduceEqDiff, Nat.reduceLT, reduceIte, reduceCtorEq, hOr, e1, nmA, Nat.reduceAdd, ifA, ifB, hOr, hsl, e1]) | refine awp_block ?_ | ((first | with_reducible refine aord_nil ?_ | refine awp_skip ?_ | refine awp_exit ?_ | refine awp_ret ?_); try simp only [rdA, Nat.reduceEqDiff, ifA, ifB, reduceIte]) | (refine awp_region tabOk rfl ?_; simp only [prep, pickO, lsA, lsB, lsC, lsD, lsE, lsF, lsG]) | ((with_reducible apply awp_cond); (focus (simp only [St.ev, St.set, upd, Nat.reduceEqDiff, reduceIte, ifA, ifB, hOr, e1, nmA, Nat.reduceAdd, ifA, ifB]; exact rfl)); all_goals (intro hb; first | (cases hb; done) | ((try rw [hb]); (try simp only [dcA, dcB, dcC, dcD, dcE, Bool.not_eq_true', Bool.not_eq_false'] at hb)))) | fail)
  refine awp_loop (fun i : Nat => ⟨upd (upd (upd (upd (upd bot 7 (.val (.int .i64 i))) 6 (.val (.int .i64 ((kdK kk (xss.take i) : Nat) : Int)))) 5 (.val (.int .i64 ((seenK kk (xss.take i) : Nat) : Int)))) 1 (.val (.int .i64 kk))) 0 (.sl O 0 xss.length 1 none), h, n⟩) (fun i => i ≤ xss.length) (fun i => xss.length - i) 0 (Nat.zero_le _) ?_ ?_
  · exact Wk.sub (tsd (tsd (tsd (tsd (tsd tsd0 rfl) rfl) rfl) rfl) rfl) (fun _ _ h => h) rfl
  intro i hix
  rcases Nat.lt_or_ge i xss.length with hlt2 | hge
  · have hget := hR.get hlt2
    have hrow := hR.row i hlt2
    obtain ⟨x1, x2, x3, x4⟩ := hx i hlt2
    obtain ⟨x, hxv⟩ : ∃ x : Nat, (xss.getD i []).getD kk 0 = (x : Int) := ⟨((xss.getD i []).getD kk 0).toNat, by omega⟩
    have hx4 : x ≤ 4 := by omega
    have htk : xss.take (i + 1) = xss.take i ++ [xss.getD i []] := by
      rw [List.take_succ_eq_append_getElem hlt2, List.getD_eq_getElem?_getD, List.getElem?_eq_getElem hlt2]; rfl
    obtain ⟨u0, u1⟩ := kd_up (L := xss.take i) hx4 hxv
    rw [← htk] at u0 u1
    obtain ⟨l1, l2⟩ := seen_le kk (xss.take i)
    have hbit := seen_bit (L := xss.take i) (k := kk) hx4
    have hbl := hasX_le (xss.take i) kk x
    generalize hS : seenK kk (xss.take i) = S at *
    generalize hD : kdK kk (xss.take i) = D at *


    repeat' (first | refine awp_seq_k fun K hK => ?_ | ((with_reducible refine hK _ ?_); clear hK K) | (clear hK K; (with_reducible refine hK _ ?_); clear hK K) | ((with_reducible refine aord_plain fun K hK => ?_); simp only [go_sem, Nat.reduceAdd, Nat.reduceMul, Nat.reduceEqDiff, Nat.reduceLT, reduceIte, reduceCtorEq, hOr, hrow, hxv, nmA, Nat.reduceAdd, ifA, ifB, hOr, hsl, hget, hrow, hxv]) | refine awp_block ?_ | ((first | with_reducible refine aord_nil ?_ | refine awp_skip ?_ | refine awp_exit ?_ | refine awp_ret ?_); try simp only [rdA, Nat.reduceEqDiff, ifA, ifB, reduceIte]) | (refine awp_region tabOk rfl ?_; simp only [prep, pickO, lsA, lsB, lsC, lsD, lsE, lsF, lsG]) | ((with_reducible apply awp_cond); (focus (simp only [St.ev, St.set, upd, Nat.reduceEqDiff, reduceIte, ifA, ifB, hOr, hrow, hxv, nmA, Nat.reduceAdd, ifA, ifB]; exact rfl)); all_goals (intro hb; first | (cases hb; done) | ((try rw [hb]); (try simp only [dcA, dcB, dcC, dcD, dcE, Bool.not_eq_true', Bool.not_eq_false'] at hb)))) | (simp only [doneH]; simp only [ressK, resK, wrapR, go_sem, Nat.reduceAdd, Nat.reduceMul, Nat.reduceEqDiff, Nat.reduceLT, reduceIte, reduceCtorEq, hOr, hrow, hxv, nmA, Nat.reduceAdd, ifA, ifB]) | (exfalso; omega) | fail)
    refine awp_loop (fun c : Nat => ⟨upd (upd (upd (upd (upd (upd (upd bot 9 (.val (.int .i64 c))) 8 (.val (.int .i64 ((2 ^ c : Nat) : Int)))) 7 (.val (.int .i64 i))) 6 (.val (.int .i64 ((D : Nat) : Int)))) 5 (.val (.int .i64 ((S : Nat) : Int)))) 1 (.val (.int .i64 kk))) 0 (.sl O 0 xss.length 1 none), h, n⟩) (fun c => c ≤ x) (fun c => x - c) 0 (Nat.zero_le _) ?_ ?_
    · exact Wk.sub (tsd (tsd (tsd (tsd (tsd (tsd (tsd tsd0 rfl) rfl) rfl) rfl) rfl) rfl) rfl) (fun _ _ h => h) rfl
    intro c hcx
    obtain ⟨p1, p2⟩ := pow_le16 (x := c) (by omega)
    rcases Nat.lt_or_ge c x with hc1 | hc1
    · have e2 : decide ((c : Int) < (x : Int)) = true := decide_eq_true (by omega)
      have e3 : (2 : Int) * ((2 ^ c : Nat) : Int) = ((2 ^ (c + 1) : Nat) : Int) := by rw [Nat.pow_succ]; omega
      have e4 : (2 : Nat) ^ (c + 1) = 2 * 2 ^ c := by rw [Nat.pow_succ]; omega
      generalize (2 : Nat) ^ c = pc at *
      generalize hpd : (2 : Nat) ^ (c + 1) = pd at *


      repeat' (first | refine awp_seq_k fun K hK => ?_ | ((with_reducible refine hK _ ?_); clear hK K) | ((with_reducible refine aord_plain fun K hK => ?_); simp only [go_sem, Nat.reduceAdd, Nat.reduceMul, Nat.reduceEqDiff, Nat.reduceLT, reduceIte, reduceCtorEq, hOr, hrow, hxv, e2, nmA, Nat.reduceAdd, ifA, ifB, hOr, hsl, hget, hrow, hxv, e2, e3]) | refine awp_block ?_ | ((first | with_reducible refine aord_nil ?_ | refine awp_skip ?_ | refine awp_exit ?_ | refine awp_ret ?_); try simp only [rdA, Nat.reduceEqDiff, ifA, ifB, reduceIte]) | (refine awp_region tabOk rfl ?_; simp only [prep, pickO, lsA, lsB, lsC, lsD, lsE, lsF, lsG]) | ((with_reducible apply awp_cond); (focus (simp only [St.ev, St.set, upd, Nat.reduceEqDiff, reduceIte, ifA, ifB, hOr, hrow, hxv, e2, nmA, Nat.reduceAdd, ifA, ifB]; exact rfl)); all_goals (intro hb; first | (cases hb; done) | ((try rw [hb]); (try simp only [dcA, dcB, dcC, dcD, dcE, Bool.not_eq_true', Bool.not_eq_false'] at hb)))) | ((with_reducible refine And.intro ?_ ?_); (focus omega)) | fail)
      refine ⟨c + 1, by omega, by omega, Wk.sub (tsd (tsd (tsd (tsd (tsd (tsd (tsd tsd0 rfl) (by (try dsimp only); rw [hpd]; rfl)) rfl) rfl) rfl) rfl) rfl) (fun _ _ h => h) rfl⟩
    · have ec : c = x := by omega
      subst ec
      have e2 : decide ((c : Int) < (c : Int)) = false := decide_eq_false (by omega)
      rcases Nat.eq_zero_or_pos (hasX (xss.take i) kk c) with hz | hz
      · obtain ⟨u2, u3⟩ := u0 hz
        have e5 : ((S : Int) / ((2 ^ c : Nat) : Int) % 2 == 0) = true := by
          rw [beq_iff_eq]
          have : S / 2 ^ c % 2 = 0 := by omega
          exact_mod_cast this
        generalize (2 : Nat) ^ c = pc at *
        have hq0 : 0 ≤ (S : Int) / (pc : Int) := Int.ediv_nonneg (by omega) (by omega)
        have hq1 : (S : Int) / (pc : Int) ≤ 31 := Int.le_trans (Int.ediv_le_self _ (by omega)) (by omega)


        repeat' (first | refine awp_seq_k fun K hK => ?_ | ((with_reducible refine hK _ ?_); clear hK K) | (clear hK K; (with_reducible refine hK _ ?_); clear hK K) | ((with_reducible refine aord_plain fun K hK => ?_); simp only [go_sem, Nat.reduceAdd, Nat.reduceMul, Nat.reduceEqDiff, Nat.reduceLT, reduceIte, reduceCtorEq, hOr, hrow, hxv, e2, e5, nmA, Nat.reduceAdd, ifA, ifB, hOr, hsl, hget, hrow, hxv, e2, e5]) | ((first | with_reducible refine aord_nil ?_ | refine awp_skip ?_ | refine awp_exit ?_ | refine awp_ret ?_); try simp only [rdA, Nat.reduceEqDiff, ifA, ifB, reduceIte]) | (refine awp_region tabOk rfl ?_; simp only [prep, pickO, lsA, lsB, lsC, lsD, lsE, lsF, lsG]) | ((with_reducible apply awp_cond); (focus (simp only [St.ev, St.set, upd, Nat.reduceEqDiff, reduceIte, ifA, ifB, hOr, hrow, hxv, e2, e5, nmA, Nat.reduceAdd, ifA, ifB]; exact rfl)); all_goals (intro hb; first | (cases hb; done) | ((try rw [hb]); (try simp only [dcA, dcB, dcC, dcD, dcE, Bool.not_eq_true', Bool.not_eq_false'] at hb)))) | ((with_reducible refine And.intro ?_ ?_); (focus omega)) | fail)
        have v2 : ((seenK kk (xss.take (i + 1)) : Nat) : Int) = (S : Int) + pc := by omega
        have v3 : ((kdK kk (xss.take (i + 1)) : Nat) : Int) = (D : Int) + 1 := by omega
        refine ⟨i + 1, by omega, by omega, Wk.sub (tsd (tsd (tsd (tsd (tsd tsd0 rfl) (by (try dsimp only); rw [v3]; rfl)) (by (try dsimp only); rw [v2]; rfl)) rfl) rfl) (fun _ _ h => h) rfl⟩
      · have hz1 : hasX (xss.take i) kk c = 1 := by omega
        obtain ⟨u2, u3⟩ := u1 hz1
        have e5 : ((S : Int) / ((2 ^ c : Nat) : Int) % 2 == 0) = false := by
          rw [beq_eq_false_iff_ne]
          have : S / 2 ^ c % 2 = 1 := by omega
          intro e
          have e6 : S / 2 ^ c % 2 = 0 := by exact_mod_cast e
          omega
        generalize (2 : Nat) ^ c = pc at *
        have hq0 : 0 ≤ (S : Int) / (pc : Int) := Int.ediv_nonneg (by omega) (by omega)
        have hq1 : (S : Int) / (pc : Int) ≤ 31 := Int.le_trans (Int.ediv_le_self _ (by omega)) (by omega)


        repeat' (first | refine awp_seq_k fun K hK => ?_ | ((with_reducible refine hK _ ?_); clear hK K) | (clear hK K; (with_reducible refine hK _ ?_); clear hK K) | ((with_reducible refine aord_plain fun K hK => ?_); simp only [go_sem, Nat.reduceAdd, Nat.reduceMul, Nat.reduceEqDiff, Nat.reduceLT, reduceIte, reduceCtorEq, hOr, hrow, hxv, e2, e5, nmA, Nat.reduceAdd, ifA, ifB, hOr, hsl, hget, hrow, hxv, e2, e5]) | ((first | with_reducible refine aord_nil ?_ | refine awp_skip ?_ | refine awp_exit ?_ | refine awp_ret ?_); try simp only [rdA, Nat.reduceEqDiff, ifA, ifB, reduceIte]) | (refine awp_region tabOk rfl ?_; simp only [prep, pickO, lsA, lsB, lsC, lsD, lsE, lsF, lsG]) | ((with_reducible apply awp_cond); (focus (simp only [St.ev, St.set, upd, Nat.reduceEqDiff, reduceIte, ifA, ifB, hOr, hrow, hxv, e2, e5, nmA, Nat.reduceAdd, ifA, ifB]; exact rfl)); all_goals (intro hb; first | (cases hb; done) | ((try rw [hb]); (try simp only [dcA, dcB, dcC, dcD, dcE, Bool.not_eq_true', Bool.not_eq_false'] at hb)))) | ((with_reducible refine And.intro ?_ ?_); (focus omega)) | fail)
        refine ⟨i + 1, by omega, by omega, Wk.sub (tsd (tsd (tsd (tsd (tsd tsd0 rfl) (by (try dsimp only); rw [u3]; rfl)) (by (try dsimp only); rw [u2]; rfl)) rfl) rfl) (fun _ _ h => h) rfl⟩
  · have ei : i = xss.length := by omega
    subst ei
    rw [List.take_length]


    repeat' (first | refine awp_seq_k fun K hK => ?_ | ((with_reducible refine hK _ ?_); clear hK K) | (clear hK K; (with_reducible refine hK _ ?_); clear hK K) | ((with_reducible refine aord_plain fun K hK => ?_); simp only [go_sem, Nat.reduceAdd, Nat.reduceMul, Nat.reduceEqDiff, Nat.reduceLT, reduceIte, reduceCtorEq, hOr, nmA, Nat.reduceAdd, ifA, ifB, hOr, hsl]) | refine awp_block ?_ | ((first | with_reducible refine aord_nil ?_ | refine awp_skip ?_ | refine awp_exit ?_ | refine awp_ret ?_); try simp only [rdA, Nat.reduceEqDiff, ifA, ifB, reduceIte]) | (refine awp_region tabOk rfl ?_; simp only [prep, pickO, lsA, lsB, lsC, lsD, lsE, lsF, lsG]) | ((with_reducible apply awp_cond); (focus (simp only [St.ev, St.set, upd, Nat.reduceEqDiff, reduceIte, ifA, ifB, hOr, nmA, Nat.reduceAdd, ifA, ifB]; exact rfl)); all_goals (intro hb; first | (cases hb; done) | ((try rw [hb]); (try simp only [dcA, dcB, dcC, dcD, dcE, Bool.not_eq_true', Bool.not_eq_false'] at hb)))) | (simp only [doneH]; simp only [ressK, resK, wrapR, go_sem, Nat.reduceAdd, Nat.reduceMul, Nat.reduceEqDiff, Nat.reduceLT, reduceIte, reduceCtorEq, hOr, nmA, Nat.reduceAdd, ifA, ifB]) | (exfalso; omega) | fail)
    exact hQ

theorem agB_app {fs gs : List (Int × Int)} {p : List Int} : agB (fs ++ gs) p = (agB fs p && agB gs p) := by unfold agB; rw [List.all_append]
/-- The orders that agree with facts. -/
def ordF (d : Nat) (fs : List (Int × Int)) : List (List Int) := (ordK d d []).filter (agB fs)
theorem ordF_more {d : Nat} {fs : List (Int × Int)} {a c : Int} : ordF d (fs ++ [(a, c)]) = (ordF d fs).filter (agB [(a, c)]) := by
  unfold ordF
  rw [List.filter_filter]
  exact List.filter_congr fun p _ => by rw [agB_app, Bool.and_comm]
theorem ordF_good {d : Nat} {fs : List (Int × Int)} (hd : d ≤ 5) : GoodL d (ordF d fs) := by
  refine ⟨(ordK_nodup hd).filter _, fun p hp => ?_⟩
  obtain ⟨h1, h2, _⟩ := ordK_mem d .nil (List.mem_filter.1 hp).1
  exact ⟨h1, by simpa using h2⟩
theorem ordF_R {d : Nat} {fs : List (Int × Int)} (hi : itemsIn d fs) : ordF d fs = ordR (fun i j => wT fs d i j) d d [] :=
  ord_left hi d .nil (by simp) (fun ⟨i, j, h1, h2, h3⟩ => by simp at h2)
theorem ordF_cap {d : Nat} {fs : List (Int × Int)} (hd : d ≤ 5) : (ordF d fs).length ≤ 120 := Nat.le_trans (List.length_filter_le _ _) (ordK_cap hd)
theorem dbl_pow {n m : Nat} (h0 : 0 < n) (h2 : n ≤ 120) (h : n ≤ 2 ^ m) : dbl n 1 0 ≤ m := by
  obtain ⟨b1, b2, b3⟩ := bound_pow h0 h2
  rcases Nat.lt_or_ge m (dbl n 1 0) with c | c
  · have h3 := Nat.pow_le_pow_right (n := 2) (by decide) (show m + 1 ≤ dbl n 1 0 from c)
    rw [Nat.pow_succ] at h3
    omega
  · exact c
theorem dbl_pos {n : Nat} (h0 : 2 ≤ n) (h2 : n ≤ 120) : 1 ≤ dbl n 1 0 := by
  obtain ⟨b1, b2, b3⟩ := bound_pow (show 0 < n by omega) h2
  rcases Nat.eq_zero_or_pos (dbl n 1 0) with c | c
  · rw [c] at b1; simp at b1; omega
  · exact c
/-- A question is good: both answers leave some, and m more questions are enough. -/
def okQ (en : List (List Int) → Prop) (d m : Nat) (L : List (List Int)) (i j : Nat) : Prop := L.filter (agB [((i : Int), (j : Int))]) ≠ [] ∧ L.filter (agB [((j : Int), (i : Int))]) ≠ [] ∧ canP en d m (L.filter (agB [((i : Int), (j : Int))])) ∧ canP en d m (L.filter (agB [((j : Int), (i : Int))]))
theorem can_ask {en : List (List Int) → Prop} {d m : Nat} {L : List (List Int)} : canP en d (m + 1) L ↔ (en L ∨ ∃ i j : Nat, i < j ∧ j < d ∧ okQ en d m L i j) := Iff.rfl
theorem itemsIn_more {d : Nat} {fs : List (Int × Int)} (hi : itemsIn d fs) {a c : Nat} (ha : a < d) (hc : c < d) : itemsIn d (fs ++ [((a : Int), (c : Int))]) := fun f hf => by
  rcases List.mem_append.1 hf with h | h
  · exact hi f h
  · rw [List.mem_singleton.1 h]; exact ⟨⟨by omega, by omega⟩, by omega, by omega⟩


end Go.Proofs.Ytacmgdaonacmeaa
