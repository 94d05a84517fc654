/- Contracts of functions of the program. -/
import Derived.Test.YtacmgdaonacmeaaPDuelc
import Derived.ScopeJumps
namespace Go.Proofs.Ytacmgdaonacmeaa
open Go Go.Ab
set_option linter.all false
set_option maxHeartbeats 4000000

-- %range
theorem implBestQ_sat : SatH Try.prog 13 (fun al h n K => ∃ (z : Int) (A : Nat) (b : Bool) (fs : List (Int × Int)), al = [.val (.int .i64 (z)), .sl A 0 fs.length 2 none] ∧ (h A = some ⟨b, .ints .i64 (flF fs)⟩) ∧ (fs.length ≤ 1099511627776) ∧ ∀ N : Nat, n ≤ N → K (.tup [.val (.int .i64 (bqA z fs).1), .val (.int .i64 (bqA z fs).2.1), .val (.bool (bqA z fs).2.2)]) (h) (N)) := by
  refine satH_intro tabOk Try.func13 rfl 45 rfl [.tmp 4, .tmp 5, .tmp 6] rfl ?_
  rintro F W h n al K0 ⟨z, A, b, fs, rfl, hA, hl, hQ⟩
  refine ⟨Nat.le_of_ble_eq_true rfl, fun m0 hm0 hcl hlt => ?_⟩
  simp only [initT]
  have hAn := (hcl A _ hA).1
  have hclO := hcl
  have hcap := orO_cap z fs
  have hrw : ∀ j, ((orO z fs).getD j []).length ≤ 1000 := fun j => by have := orO_row (z := z) (fs := fs) j; omega


  repeat' ((fail_if_success (with_reducible refine isRetQ ?_)); (first | refine awp_seq_k fun K hK => ?_ | ((with_reducible refine hK _ ?_); clear hK K) | ((with_reducible refine aord_plain fun K hK => ?_); simp only [go_sem, Nat.reduceAdd, Nat.reduceMul, Nat.reduceEqDiff, Nat.reduceLT, reduceIte, reduceCtorEq, hA, Nat.add_eq_left, Nat.left_eq_add, Nat.add_assoc, Nat.reduceAdd, if_false, if_true, hA, mat.matL, DV.agg.injEq]) | ((first | with_reducible refine aord_nil ?_ | refine awp_skip ?_ | refine awp_exit ?_ | refine awp_ret ?_); try simp only [thenA_normal, thenA_exit, thenA_goto, thenA_ret, blockA_normal, blockA_same, blockA_exit, blockA_goto, blockA_ret, Nat.reduceEqDiff, if_false, if_true, reduceIte]) | (refine awp_region tabOk rfl ?_; simp only [prep, pickO, List.map_cons, List.map_nil, List.getElem?_toArray, List.getElem?_cons_succ, List.getElem?_cons_zero, Option.bind_some, Option.map_some]) | ((with_reducible refine And.intro (?_ : enters Try.prog 29) ?_); (focus exact Try.call29); (refine callX_satH implOrdersLeft_sat ?_); simp only [go_sem, and_assoc, List.nil_append, List.append_nil, List.cons_append, Nat.reduceEqDiff, reduceIte, reduceCtorEq, hA, Nat.add_eq_left, Nat.left_eq_add, Nat.add_assoc, Nat.reduceAdd, if_false, if_true, hA, mat.matL, DV.agg.injEq]) | fail))
  refine ⟨b, fs, rfl, rfl, rfl, hl, fun H N O f r1 r2 r3 r4 r5 => ?_⟩
  have hOn := r1.outn
  rcases Nat.lt_or_ge (orO z fs).length 2 with h2 | h2
  · have e1 : decide ((((orO z fs).length : Nat) : Int) < 2) = true := decide_eq_true (by omega)
    rw [bqA_no (fun h => by omega)] at hQ
    have hdrop : ∀ (o : Nat) (ob : Ob), h o = some ob → upd (upd H N (some ⟨true, .cells [.val (.slice none 0 0)]⟩)) N (some ⟨true, .cells [.sl O 0 (orO z fs).length 1 none]⟩) o = some ob := fun o ob ho => by
      have := (hcl o _ ho).1
      rw [upd_ne _ _ (by omega), upd_ne _ _ (by omega), r4 o (by omega)]; exact ho


    repeat' ((fail_if_success (with_reducible refine isRetQ ?_)); (first | refine awp_seq_k fun K hK => ?_ | ((with_reducible refine hK _ ?_); clear hK K) | ((with_reducible refine aord_plain fun K hK => ?_); simp only [go_sem, Nat.reduceAdd, Nat.reduceMul, Nat.reduceEqDiff, Nat.reduceLT, reduceIte, reduceCtorEq, e1, Nat.add_eq_left, Nat.left_eq_add, Nat.add_assoc, Nat.reduceAdd, if_false, if_true, mat.matL, DV.agg.injEq, e1]) | ((first | with_reducible refine aord_nil ?_ | refine awp_skip ?_ | refine awp_exit ?_ | refine awp_ret ?_); try simp only [thenA_normal, thenA_exit, thenA_goto, thenA_ret, blockA_normal, blockA_same, blockA_exit, blockA_goto, blockA_ret, Nat.reduceEqDiff, if_false, if_true, reduceIte]) | (refine awp_region tabOk rfl ?_; simp only [prep, pickO, List.map_cons, List.map_nil, List.getElem?_toArray, List.getElem?_cons_succ, List.getElem?_cons_zero, Option.bind_some, Option.map_some]) | ((with_reducible apply awp_cond); (focus (simp only [St.ev, St.set, upd, Nat.reduceEqDiff, reduceIte, if_false, if_true, e1, Nat.add_eq_left, Nat.left_eq_add, Nat.add_assoc, Nat.reduceAdd, if_false, if_true]; exact rfl)); all_goals (intro hb; first | (cases hb; done) | ((try rw [hb]); (try simp only [decide_eq_true_eq, decide_eq_false_iff_not, beq_iff_eq, bne_iff_ne, beq_eq_false_iff_ne, bne_eq_false_iff_eq, Int.not_lt, Int.not_le, Bool.not_eq_true', Bool.not_eq_false'] at hb)))) | ((with_reducible refine And.intro ?_ ?_); (focus (exact rfl))) | fail))
    refine awp_weaken (s' := ⟨upd (upd (upd bot 6 (.val (.bool false))) 5 (.val (.int .i64 0))) 4 (.val (.int .i64 0)), h, N + 1⟩) (Wk.sub (tsd (tsd (tsd tsd0 rfl) rfl) rfl) hdrop rfl) ?_
    repeat' (first | ((first | with_reducible refine aord_nil ?_ | refine awp_skip ?_ | refine awp_exit ?_ | refine awp_ret ?_); try simp only [thenA_normal, thenA_exit, thenA_goto, thenA_ret, blockA_normal, blockA_same, blockA_exit, blockA_goto, blockA_ret, Nat.reduceEqDiff, if_false, if_true, reduceIte]) | (simp only [doneH]; simp only [ressK, resK, wrapR, go_sem, Nat.reduceAdd, Nat.reduceMul, Nat.reduceEqDiff, Nat.reduceLT, reduceIte, reduceCtorEq, e1, Nat.add_eq_left, Nat.left_eq_add, Nat.add_assoc, Nat.reduceAdd, if_false, if_true]) | fail)
    exact hQ (N + 1) (by omega)
  · have e1 : decide ((((orO z fs).length : Nat) : Int) < 2) = false := decide_eq_false (by omega)
    have hV : VF z fs := by
      by_cases c : VF z fs
      · exact c
      · rw [orO_no c] at h2; simp at h2
    obtain ⟨d, rfl⟩ : ∃ d : Nat, z = d := ⟨z.toNat, by have := hV.1; omega⟩
    have hd5 : d ≤ 5 := by have := hV.1; omega
    rw [bqA_yes hV h2] at hQ


    repeat' (first | refine awp_seq_k fun K hK => ?_ | ((with_reducible refine hK _ ?_); clear hK K) | ((with_reducible refine aord_plain fun K hK => ?_); simp only [go_sem, Nat.reduceAdd, Nat.reduceMul, Nat.reduceEqDiff, Nat.reduceLT, reduceIte, reduceCtorEq, e1, Nat.add_eq_left, Nat.left_eq_add, Nat.add_assoc, Nat.reduceAdd, if_false, if_true, mat.matL, DV.agg.injEq, e1]) | refine awp_block ?_ | ((first | with_reducible refine aord_nil ?_ | refine awp_skip ?_ | refine awp_exit ?_ | refine awp_ret ?_); try simp only [thenA_normal, thenA_exit, thenA_goto, thenA_ret, blockA_normal, blockA_same, blockA_exit, blockA_goto, blockA_ret, Nat.reduceEqDiff, if_false, if_true, reduceIte]) | (refine awp_region tabOk rfl ?_; simp only [prep, pickO, List.map_cons, List.map_nil, List.getElem?_toArray, List.getElem?_cons_succ, List.getElem?_cons_zero, Option.bind_some, Option.map_some]) | ((with_reducible apply awp_cond); (focus (simp only [St.ev, St.set, upd, Nat.reduceEqDiff, reduceIte, if_false, if_true, e1, Nat.add_eq_left, Nat.left_eq_add, Nat.add_assoc, Nat.reduceAdd, if_false, if_true]; exact rfl)); all_goals (intro hb; first | (cases hb; done) | ((try rw [hb]); (try simp only [decide_eq_true_eq, decide_eq_false_iff_not, beq_iff_eq, bne_iff_ne, beq_eq_false_iff_ne, bne_eq_false_iff_eq, Int.not_lt, Int.not_le, Bool.not_eq_true', Bool.not_eq_false'] at hb)))) | ((with_reducible refine And.intro ?_ ?_); (focus (exact rfl))) | ((with_reducible refine And.intro (?_ : enters Try.prog 42) ?_); (focus exact Try.call42); (refine callX_h (callH_inline tabOk Try.func42 rfl 6 rfl [.tmp 2] rfl (Nat.le_of_ble_eq_true rfl) fun m0 hm0 hcl hlt => ?_)); simp only [initT, St.ev, St.set, upd, Nat.reduceEqDiff, reduceIte, if_false, if_true, e1, Nat.add_eq_left, Nat.left_eq_add, Nat.add_assoc, Nat.reduceAdd, if_false, if_true]) | ((with_reducible refine And.intro (?_ : enters Try.prog 60) ?_); (focus exact Try.call60); (refine callX_h (callH_inline tabOk Try.func60 rfl 4 rfl [.tmp 2] rfl (Nat.le_of_ble_eq_true rfl) fun m0 hm0 hcl hlt => ?_)); simp only [initT, St.ev, St.set, upd, Nat.reduceEqDiff, reduceIte, if_false, if_true, e1, Nat.add_eq_left, Nat.left_eq_add, Nat.add_assoc, Nat.reduceAdd, if_false, if_true]) | ((with_reducible refine And.intro (?_ : enters Try.prog 59) ?_); (focus exact Try.call59); (refine callX_h (callH_inline tabOk Try.func59 rfl 6 rfl [.tmp 4] rfl (Nat.le_of_ble_eq_true rfl) fun m0 hm0 hcl hlt => ?_)); simp only [initT, St.ev, St.set, upd, Nat.reduceEqDiff, reduceIte, if_false, if_true, e1, Nat.add_eq_left, Nat.left_eq_add, Nat.add_assoc, Nat.reduceAdd, if_false, if_true]) | (simp only [doneH]; simp only [ressK, resK, wrapR, go_sem, Nat.reduceAdd, Nat.reduceMul, Nat.reduceEqDiff, Nat.reduceLT, reduceIte, reduceCtorEq, e1, Nat.add_eq_left, Nat.left_eq_add, Nat.add_assoc, Nat.reduceAdd, if_false, if_true]) | fail)
    (refine awp_range (gf := 81) (by simp only [St.ev, St.set, upd, Nat.reduceEqDiff, reduceIte, if_false, if_true, e1, Nat.add_eq_left, Nat.left_eq_add, Nat.add_assoc, Nat.reduceAdd, if_false, if_true]; first | exact fnV_clo | exact fnV_val) Try.call81 (fun LP LP1 LP2 LP3 LP4 LP5 => callX_h (callH_inline tabOk Try.func81 rfl 16 rfl [] rfl (Nat.le_of_ble_eq_true rfl) fun m0 hm0 hcl hlt => ?_)); simp only [List.nil_append, List.cons_append, initT, St.ev, St.set, upd, Nat.reduceEqDiff, reduceIte, if_false, if_true, e1, Nat.add_eq_left, Nat.left_eq_add, Nat.add_assoc, Nat.reduceAdd, if_false, if_true])
    repeat' (first | refine awp_seq_k fun K hK => ?_ | ((with_reducible refine hK _ ?_); clear hK K) | ((with_reducible refine aord_plain fun K hK => ?_); simp only [go_sem, Nat.reduceAdd, Nat.reduceMul, Nat.reduceEqDiff, Nat.reduceLT, reduceIte, reduceCtorEq, e1, Nat.add_eq_left, Nat.left_eq_add, Nat.add_assoc, Nat.reduceAdd, if_false, if_true, mat.matL, DV.agg.injEq, e1]) | refine awp_block ?_ | ((first | with_reducible refine aord_nil ?_ | refine awp_skip ?_ | refine awp_exit ?_ | refine awp_ret ?_); try simp only [thenA_normal, thenA_exit, thenA_goto, thenA_ret, blockA_normal, blockA_same, blockA_exit, blockA_goto, blockA_ret, Nat.reduceEqDiff, if_false, if_true, reduceIte]) | (refine awp_region tabOk rfl ?_; simp only [prep, pickO, List.map_cons, List.map_nil, List.getElem?_toArray, List.getElem?_cons_succ, List.getElem?_cons_zero, Option.bind_some, Option.map_some]) | fail)
    (refine awp_range (gf := 82) (by simp only [St.ev, St.set, upd, Nat.reduceEqDiff, reduceIte, if_false, if_true, e1, Nat.add_eq_left, Nat.left_eq_add, Nat.add_assoc, Nat.reduceAdd, if_false, if_true]; first | exact fnV_clo | exact fnV_val) Try.call82 (fun LQ LQ1 LQ2 LQ3 LQ4 LQ5 => callX_h (callH_inline tabOk Try.func82 rfl 26 rfl [] rfl (Nat.le_of_ble_eq_true rfl) fun m0 hm0 hcl hlt => ?_)); simp only [List.nil_append, List.cons_append, initT, St.ev, St.set, upd, Nat.reduceEqDiff, reduceIte, if_false, if_true, e1, Nat.add_eq_left, Nat.left_eq_add, Nat.add_assoc, Nat.reduceAdd, if_false, if_true])
    repeat' (first | refine awp_seq_k fun K hK => ?_ | ((with_reducible refine hK _ ?_); clear hK K) | ((with_reducible refine aord_plain fun K hK => ?_); simp only [go_sem, Nat.reduceAdd, Nat.reduceMul, Nat.reduceEqDiff, Nat.reduceLT, reduceIte, reduceCtorEq, e1, Nat.add_eq_left, Nat.left_eq_add, Nat.add_assoc, Nat.reduceAdd, if_false, if_true, mat.matL, DV.agg.injEq, e1]) | refine awp_block ?_ | ((first | with_reducible refine aord_nil ?_ | refine awp_skip ?_ | refine awp_exit ?_ | refine awp_ret ?_); try simp only [thenA_normal, thenA_exit, thenA_goto, thenA_ret, blockA_normal, blockA_same, blockA_exit, blockA_goto, blockA_ret, Nat.reduceEqDiff, if_false, if_true, reduceIte]) | (refine awp_region tabOk rfl ?_; simp only [prep, pickO, List.map_cons, List.map_nil, List.getElem?_toArray, List.getElem?_cons_succ, List.getElem?_cons_zero, Option.bind_some, Option.map_some]) | fail)
    generalize hLL : orO d fs = L at *
    have hI : ∀ G, (∀ u, u < N → G u = H u) → G N = some ⟨true, .cells [.sl O 0 L.length 1 none]⟩ → G (N + 1) = some ⟨true, .cells [.val (.int .i64 0), .val (.int .i64 0)]⟩ → G (N + 2) = some ⟨true, .cells [.val (.int .i64 ((L.length : Nat) : Int))]⟩ → G (N + 3) = some ⟨true, .cells [.val (.int .i64 d)]⟩ → G (N + 5) = some ⟨true, .cells [.val (.func (.func 76) #[] #[])]⟩ → G (N + 6) = some ⟨true, .raw (.loop LP)⟩ → G (N + 7) = some ⟨true, .cells [.yl (N + 6)]⟩ → G (N + 8) = some ⟨true, .raw (.loop LQ)⟩ → QI H N O d L.length 76 LP LQ (bqTo L d 0 (0, 0, (L.length : Int))) G (N + 9) := fun G g0 g1 g2 g3 g4 g5 g6 g7 g8 => ⟨g0, Nat.le_refl _, g1, g2, g3, g4, g5, g6, g7, g8⟩
    refine awp_loop (fun q : Hp × Nat × Nat => ⟨upd (upd (upd (upd bot 6 (.val (.int .i64 q.2.2))) 5 (.val (.int .i64 d))) 1 (.ref (N + 3) 0)) 0 (.yl (N + 8)), q.1, q.2.1⟩) (fun q => q.2.2 ≤ d ∧ QI H N O d L.length 76 LP LQ (bqTo L d q.2.2 (0, 0, (L.length : Int))) q.1 q.2.1) (fun q => d - q.2.2) ((upd (upd (upd (upd (upd (upd (upd (upd (upd (upd (upd H N (some ⟨true, .cells [.val (.slice none 0 0)]⟩)) N (some ⟨true, .cells [.sl O 0 L.length 1 none]⟩)) (N + 1) (some ⟨true, .cells [.val (.int .i64 0), .val (.int .i64 0)]⟩)) (N + 2) (some ⟨true, .cells [.val (.int .i64 0)]⟩)) (N + 2) (some ⟨true, .cells [.val (.int .i64 ((L.length : Nat) : Int))]⟩)) (N + 3) (some ⟨true, .cells [.val (.int .i64 d)]⟩)) (N + 4) (some ⟨true, .cells [.clo (.func 82) [] [.ref (N + 3) 0]]⟩)) (N + 5) (some ⟨true, .cells [.val (.func (.func 76) #[] #[])]⟩)) (N + 6) (some ⟨true, .raw (.loop LP)⟩)) (N + 7) (some ⟨true, .cells [.yl (N + 6)]⟩)) (N + 8) (some ⟨true, .raw (.loop LQ)⟩)), N + 9, 0) ⟨Nat.zero_le _, hI _ ?_ ?_ ?_ ?_ ?_ ?_ ?_ ?_ ?_⟩ ?_ ?_
    · exact fun u hu => by dsimp only; (repeat rw [upd_ne _ _ (by omega)])
    · dsimp only; (repeat (first | rw [upd_same] | rw [upd_ne _ _ (by omega)]))
    · dsimp only; (repeat (first | rw [upd_same] | rw [upd_ne _ _ (by omega)]))
    · dsimp only; (repeat (first | rw [upd_same] | rw [upd_ne _ _ (by omega)]))
    · dsimp only; (repeat (first | rw [upd_same] | rw [upd_ne _ _ (by omega)]))
    · dsimp only; (repeat (first | rw [upd_same] | rw [upd_ne _ _ (by omega)]))
    · dsimp only; (repeat (first | rw [upd_same] | rw [upd_ne _ _ (by omega)]))
    · dsimp only; (repeat (first | rw [upd_same] | rw [upd_ne _ _ (by omega)]))
    · dsimp only; (repeat (first | rw [upd_same] | rw [upd_ne _ _ (by omega)]))
    · exact Wk.sub (tsd (tsd (tsd (tsd tsd0 rfl) rfl) rfl) rfl) (fun _ _ h => h) rfl
    clear hI
    rintro ⟨G, M, i⟩ ⟨hid, hI⟩
    dsimp only at hid hI ⊢
    rcases Nat.lt_or_ge i d with hlt2 | hge
    · have c3 := hI.c3
      have c8 := hI.c8


      repeat' (first | refine awp_seq_k fun K hK => ?_ | ((with_reducible refine hK _ ?_); clear hK K) | ((with_reducible refine aord_plain fun K hK => ?_); simp only [go_sem, Nat.reduceAdd, Nat.reduceMul, Nat.reduceEqDiff, Nat.reduceLT, reduceIte, reduceCtorEq, c3, c8, Nat.add_eq_left, Nat.left_eq_add, Nat.add_assoc, Nat.reduceAdd, if_false, if_true, c3, c8, mat.matL, DV.agg.injEq]) | refine awp_block ?_ | ((first | with_reducible refine aord_nil ?_ | refine awp_skip ?_ | refine awp_exit ?_ | refine awp_ret ?_); try simp only [thenA_normal, thenA_exit, thenA_goto, thenA_ret, blockA_normal, blockA_same, blockA_exit, blockA_goto, blockA_ret, Nat.reduceEqDiff, if_false, if_true, reduceIte]) | (refine awp_region tabOk rfl ?_; simp only [prep, pickO, List.map_cons, List.map_nil, List.getElem?_toArray, List.getElem?_cons_succ, List.getElem?_cons_zero, Option.bind_some, Option.map_some]) | ((with_reducible apply awp_cond); (focus (simp only [St.ev, St.set, upd, Nat.reduceEqDiff, reduceIte, if_false, if_true, c3, c8, Nat.add_eq_left, Nat.left_eq_add, Nat.add_assoc, Nat.reduceAdd, if_false, if_true]; exact rfl)); all_goals (intro hb; first | (cases hb; done) | ((try rw [hb]); (try simp only [decide_eq_true_eq, decide_eq_false_iff_not, beq_iff_eq, bne_iff_ne, beq_eq_false_iff_ne, bne_eq_false_iff_eq, Int.not_lt, Int.not_le, Bool.not_eq_true', Bool.not_eq_false'] at hb)))) | (simp only [doneH]; simp only [ressK, resK, wrapR, go_sem, Nat.reduceAdd, Nat.reduceMul, Nat.reduceEqDiff, Nat.reduceLT, reduceIte, reduceCtorEq, c3, c8, Nat.add_eq_left, Nat.left_eq_add, Nat.add_assoc, Nat.reduceAdd, if_false, if_true]) | ((with_reducible apply endA_go); (focus (simp only [St.ev, St.set, upd, Nat.reduceEqDiff, reduceIte, if_false, if_true, c3, c8, Nat.add_eq_left, Nat.left_eq_add, Nat.add_assoc, Nat.reduceAdd, if_false, if_true]; exact rfl)); (focus assumption); (focus assumption); (try simp only [thenA_normal, thenA_exit, thenA_goto, thenA_ret, blockA_normal, blockA_same, blockA_exit, blockA_goto, blockA_ret, Nat.reduceEqDiff, if_false, if_true, reduceIte])) | (exfalso; omega) | fail)
      generalize hss : bqTo L d i (0, 0, (L.length : Int)) = s0 at *
      refine awp_loop (fun q : Hp × Nat × Nat => ⟨upd (upd (upd (upd (upd (upd (upd bot 10 (.val (.int .i64 q.2.2))) 9 (.val (.int .i64 d))) 6 (.val (.int .i64 i))) 5 (.val (.int .i64 d))) 3 (.val (.int .i64 i))) 1 (.ref (N + 3) 0)) 0 (.yl (N + 8)), q.1, q.2.1⟩) (fun q => q.2.2 ≤ d ∧ QI H N O d L.length 76 LP LQ (bqRow L i q.2.2 s0) q.1 q.2.1) (fun q => d - q.2.2) (G, M, 0) ⟨Nat.zero_le _, hI⟩ ?_ ?_
      · exact Wk.sub (tsd (tsd (tsd (tsd (tsd (tsd (tsd tsd0 rfl) rfl) rfl) rfl) rfl) rfl) rfl) (fun _ _ h => h) rfl
      clear c3 c8 hI
      rintro ⟨G, M, j⟩ ⟨hjd, hI⟩
      dsimp only at hjd hI ⊢
      have hmn := hI.mn
      have hfr := hI.fr
      have c0 := hI.c0
      have c1 := hI.c1
      have c2 := hI.c2
      have c3 := hI.c3
      have c5 := hI.c5
      have c6 := hI.c6
      have c7 := hI.c7
      have c8 := hI.c8
      have hup : bqRow L i (j + 1) s0 = if i < j then bqS L i j (bqRow L i j s0) else bqRow L i j s0 := rfl
      rcases Nat.lt_or_ge j d with hlt3 | hge3
      · have m1 : ∀ k, k < 9 → (N + k = M) = False := fun k hk => eq_false (by omega)
        have n0 : (N = M) = False := eq_false (by omega)
        have n1 : (M = N) = False := eq_false (by omega)
        have n2 : ∀ k, (N = M + k) = False := fun k => eq_false (by omega)
        have n3 : ∀ k, (M + k = N) = False := fun k => eq_false (by omega)
        have p1 : (N + 1 = M) = False := eq_false (by omega)
        have p2 : ∀ k, (N + 1 = M + k) = False := fun k => eq_false (by omega)
        have p3 : (N + 2 = M) = False := eq_false (by omega)
        have p4 : ∀ k, (N + 2 = M + k) = False := fun k => eq_false (by omega)
        have p5 : (N + 5 = M) = False := eq_false (by omega)
        have p6 : ∀ k, (N + 5 = M + k) = False := fun k => eq_false (by omega)
        have p7 : (N + 6 = M) = False := eq_false (by omega)
        have p8 : ∀ k, (N + 6 = M + k) = False := fun k => eq_false (by omega)
        have p9 : (N + 7 = M) = False := eq_false (by omega)
        have pa : ∀ k, (N + 7 = M + k) = False := fun k => eq_false (by omega)
        have pb : (N + 8 = M) = False := eq_false (by omega)
        have pc : ∀ k, (N + 8 = M + k) = False := fun k => eq_false (by omega)
        have pd : (M = N + 8) = False := eq_false (by omega)
        have pe : ∀ k, (M + k = N + 8) = False := fun k => eq_false (by omega)
        have pf : (M = N + 6) = False := eq_false (by omega)
        have pg : ∀ k, (M + k = N + 6) = False := fun k => eq_false (by omega)
        have hN := And.intro c0 (And.intro c1 (And.intro c2 (And.intro c3 (And.intro c5 (And.intro c6 (And.intro c7 (And.intro c8 (And.intro n0 (And.intro n1 (And.intro n2 (And.intro n3 (And.intro p1 (And.intro p2 (And.intro p3 (And.intro p4 (And.intro p5 (And.intro p6 (And.intro p7 (And.intro p8 (And.intro p9 (And.intro pa (And.intro pb (And.intro pc (And.intro pd (And.intro pe (And.intro pf pg))))))))))))))))))))))))))
        rcases Nat.lt_trichotomy i j with hij | hij | hij
        · have q1 : ((i : Int) != (j : Int)) = true := bne_iff_ne.2 (by omega)
          have q2 : decide ((i : Int) < (j : Int)) = true := decide_eq_true (by omega)
          rw [if_pos hij] at hup


          repeat' (first | refine awp_seq_k fun K hK => ?_ | ((with_reducible refine hK _ ?_); clear hK K) | (clear hK K; (with_reducible refine hK _ ?_); clear hK K) | ((with_reducible refine aord_plain fun K hK => ?_); simp only [go_sem, Nat.reduceAdd, Nat.reduceMul, Nat.reduceEqDiff, Nat.reduceLT, reduceIte, reduceCtorEq, hN, q1, q2, Nat.add_eq_left, Nat.left_eq_add, Nat.add_assoc, Nat.reduceAdd, if_false, if_true, hN, q1, q2, mat.matL, DV.agg.injEq]) | ((with_reducible apply aord_guard); (focus (simp only [St.ev, St.set, upd, Nat.reduceEqDiff, reduceIte, if_false, if_true, hN, q1, q2, Nat.add_eq_left, Nat.left_eq_add, Nat.add_assoc, Nat.reduceAdd, if_false, if_true]; exact rfl)); all_goals (intro hb; (try simp only [Bool.not_true, Bool.not_false] at hb); first | (cases hb; done) | ((try rw [hb]); (try simp only [Bool.not_eq_true', Bool.not_eq_false', Bool.and_eq_true, decide_eq_true_eq, decide_eq_false_iff_not, beq_iff_eq, bne_iff_ne, beq_eq_false_iff_ne, bne_eq_false_iff_eq, Int.not_lt, Int.not_le] at hb); (try (revert hb; with_reducible refine true_imp_iff.2 ?_)); first | (intro K hK; simp only [go_sem, Nat.reduceAdd, Nat.reduceMul, Nat.reduceEqDiff, Nat.reduceLT, reduceIte, reduceCtorEq, hN, q1, q2, Nat.add_eq_left, Nat.left_eq_add, Nat.add_assoc, Nat.reduceAdd, if_false, if_true]) | (simp only [St.ev, St.set, upd, Nat.reduceEqDiff, reduceIte, if_false, if_true, hN, q1, q2, Nat.add_eq_left, Nat.left_eq_add, Nat.add_assoc, Nat.reduceAdd, if_false, if_true]) | skip))) | refine awp_block ?_ | ((first | with_reducible refine aord_nil ?_ | refine awp_skip ?_ | refine awp_exit ?_ | refine awp_ret ?_); try simp only [thenA_normal, thenA_exit, thenA_goto, thenA_ret, blockA_normal, blockA_same, blockA_exit, blockA_goto, blockA_ret, Nat.reduceEqDiff, if_false, if_true, reduceIte]) | (refine awp_region tabOk rfl ?_; simp only [prep, pickO, List.map_cons, List.map_nil, List.getElem?_toArray, List.getElem?_cons_succ, List.getElem?_cons_zero, Option.bind_some, Option.map_some]) | ((with_reducible apply awp_cond); (focus (simp only [St.ev, St.set, upd, Nat.reduceEqDiff, reduceIte, if_false, if_true, hN, q1, q2, Nat.add_eq_left, Nat.left_eq_add, Nat.add_assoc, Nat.reduceAdd, if_false, if_true]; exact rfl)); all_goals (intro hb; first | (cases hb; done) | ((try rw [hb]); (try simp only [decide_eq_true_eq, decide_eq_false_iff_not, beq_iff_eq, bne_iff_ne, beq_eq_false_iff_ne, bne_eq_false_iff_eq, Int.not_lt, Int.not_le, Bool.not_eq_true', Bool.not_eq_false'] at hb)))) | ((with_reducible refine And.intro ?_ ?_); (focus omega)) | (simp only [rBuild]; simp only [fillA, Nat.reduceLeDiff, List.getElem?_cons_zero, List.getElem?_cons_succ, List.drop_succ_cons, List.drop_nil, List.take_nil, List.cons_append, Option.isSome_some, go_sem, Nat.reduceAdd, Nat.reduceMul, Nat.reduceEqDiff, Nat.reduceLT, reduceIte, reduceCtorEq, hN, q1, q2, Nat.add_eq_left, Nat.left_eq_add, Nat.add_assoc, Nat.reduceAdd, if_false, if_true]) | (exfalso; omega) | fail)
          (refine yield_round (lp := LQ) (by first | (simp only [St.ev, St.set, upd, Nat.reduceEqDiff, reduceIte, if_false, if_true, hN, q1, q2, Nat.add_eq_left, Nat.left_eq_add, Nat.add_assoc, Nat.reduceAdd, if_false, if_true]; done) | (simp only [St.ev, St.set, upd, Nat.reduceEqDiff, reduceIte, if_false, if_true, hN, q1, q2, Nat.add_eq_left, Nat.left_eq_add, Nat.add_assoc, Nat.reduceAdd, if_false, if_true]; exact rfl)) LQ1 LQ2 (by first | exact List.mem_cons_self | exact List.mem_cons_of_mem _ List.mem_cons_self | exact List.mem_cons_of_mem _ (List.mem_cons_of_mem _ List.mem_cons_self) | exact List.mem_cons_of_mem _ (List.mem_cons_of_mem _ (List.mem_cons_of_mem _ List.mem_cons_self))) (by first | (rw [LQ3]; done) | (rw [LQ3]; rfl)) (by rw [LQ3]; decide) (fun m0 hm0 hcl hlt => ?_); rw [LQ3, LQ4, LQ5]; simp only [zipT, St.ev, St.set, upd, Nat.reduceEqDiff, reduceIte, if_false, if_true, hN, q1, q2, Nat.add_eq_left, Nat.left_eq_add, Nat.add_assoc, Nat.reduceAdd, if_false, if_true])
          repeat' (first | refine awp_seq_k fun K hK => ?_ | ((with_reducible refine hK _ ?_); clear hK K) | ((with_reducible refine aord_plain fun K hK => ?_); simp only [go_sem, Nat.reduceAdd, Nat.reduceMul, Nat.reduceEqDiff, Nat.reduceLT, reduceIte, reduceCtorEq, hN, q1, q2, Nat.add_eq_left, Nat.left_eq_add, Nat.add_assoc, Nat.reduceAdd, if_false, if_true, hN, q1, q2, mat.matL, DV.agg.injEq]) | ((with_reducible apply aord_guard); (focus (simp only [St.ev, St.set, upd, Nat.reduceEqDiff, reduceIte, if_false, if_true, hN, q1, q2, Nat.add_eq_left, Nat.left_eq_add, Nat.add_assoc, Nat.reduceAdd, if_false, if_true]; exact rfl)); all_goals (intro hb; (try simp only [Bool.not_true, Bool.not_false] at hb); first | (cases hb; done) | ((try rw [hb]); (try simp only [Bool.not_eq_true', Bool.not_eq_false', Bool.and_eq_true, decide_eq_true_eq, decide_eq_false_iff_not, beq_iff_eq, bne_iff_ne, beq_eq_false_iff_ne, bne_eq_false_iff_eq, Int.not_lt, Int.not_le] at hb); (try (revert hb; with_reducible refine true_imp_iff.2 ?_)); first | (intro K hK; simp only [go_sem, Nat.reduceAdd, Nat.reduceMul, Nat.reduceEqDiff, Nat.reduceLT, reduceIte, reduceCtorEq, hN, q1, q2, Nat.add_eq_left, Nat.left_eq_add, Nat.add_assoc, Nat.reduceAdd, if_false, if_true]) | (simp only [St.ev, St.set, upd, Nat.reduceEqDiff, reduceIte, if_false, if_true, hN, q1, q2, Nat.add_eq_left, Nat.left_eq_add, Nat.add_assoc, Nat.reduceAdd, if_false, if_true]) | skip))) | refine awp_block ?_ | ((first | with_reducible refine aord_nil ?_ | refine awp_skip ?_ | refine awp_exit ?_ | refine awp_ret ?_); try simp only [thenA_normal, thenA_exit, thenA_goto, thenA_ret, blockA_normal, blockA_same, blockA_exit, blockA_goto, blockA_ret, Nat.reduceEqDiff, if_false, if_true, reduceIte]) | (refine awp_region tabOk rfl ?_; simp only [prep, pickO, List.map_cons, List.map_nil, List.getElem?_toArray, List.getElem?_cons_succ, List.getElem?_cons_zero, Option.bind_some, Option.map_some]) | ((with_reducible refine And.intro ?_ ?_); (focus (exact rfl))) | ((with_reducible refine And.intro (?_ : enters Try.prog 76) ?_); (focus exact Try.call76); (refine callX_h (callH_inline tabOk Try.func76 rfl 8 rfl [.tmp 2] rfl (Nat.le_of_ble_eq_true rfl) fun m0 hm0 hcl hlt => ?_)); simp only [initT, St.ev, St.set, upd, Nat.reduceEqDiff, reduceIte, if_false, if_true, hN, q1, q2, Nat.add_eq_left, Nat.left_eq_add, Nat.add_assoc, Nat.reduceAdd, if_false, if_true]) | (simp only [doneH]; simp only [ressK, resK, wrapR, go_sem, Nat.reduceAdd, Nat.reduceMul, Nat.reduceEqDiff, Nat.reduceLT, reduceIte, reduceCtorEq, hN, q1, q2, Nat.add_eq_left, Nat.left_eq_add, Nat.add_assoc, Nat.reduceAdd, if_false, if_true]) | (refine aStoreAll_cells (by simp only [St.ev, St.set, upd, Nat.reduceEqDiff, reduceIte, if_false, if_true, hN, q1, q2, Nat.add_eq_left, Nat.left_eq_add, Nat.add_assoc, Nat.reduceAdd, if_false, if_true]; exact rfl) ?_ ?_ ?_ ?_ ?_; (focus (first | rfl | omega | (simp; done) | (simp; omega) | (simp [szOf, tab]; done) | (simp [szOf, tab]; omega))); (focus (first | rfl | omega | (simp; done) | (simp; omega) | (simp [szOf, tab]; done) | (simp [szOf, tab]; omega))); (focus (first | rfl | omega | (simp; done) | (simp; omega) | (simp [szOf, tab]; done) | (simp [szOf, tab]; omega))); (focus (first | rfl | (simp [AV.cell, Value.oneCell']; done))); (try simp only [go_sem, Nat.reduceAdd, Nat.reduceMul, Nat.reduceEqDiff, Nat.reduceLT, reduceIte, reduceCtorEq, hN, q1, q2, Nat.add_eq_left, Nat.left_eq_add, Nat.add_assoc, Nat.reduceAdd, if_false, if_true])) | fail)
          (refine yield_round (lp := LP) (by first | (simp only [St.ev, St.set, upd, Nat.reduceEqDiff, reduceIte, if_false, if_true, hN, q1, q2, Nat.add_eq_left, Nat.left_eq_add, Nat.add_assoc, Nat.reduceAdd, if_false, if_true]; done) | (simp only [St.ev, St.set, upd, Nat.reduceEqDiff, reduceIte, if_false, if_true, hN, q1, q2, Nat.add_eq_left, Nat.left_eq_add, Nat.add_assoc, Nat.reduceAdd, if_false, if_true]; exact rfl)) LP1 LP2 (by first | exact List.mem_cons_self | exact List.mem_cons_of_mem _ List.mem_cons_self | exact List.mem_cons_of_mem _ (List.mem_cons_of_mem _ List.mem_cons_self) | exact List.mem_cons_of_mem _ (List.mem_cons_of_mem _ (List.mem_cons_of_mem _ List.mem_cons_self))) (by first | (rw [LP3]; done) | (rw [LP3]; rfl)) (by rw [LP3]; decide) (fun m0 hm0 hcl hlt => ?_); rw [LP3, LP4, LP5]; simp only [zipT, St.ev, St.set, upd, Nat.reduceEqDiff, reduceIte, if_false, if_true, hN, q1, q2, Nat.add_eq_left, Nat.left_eq_add, Nat.add_assoc, Nat.reduceAdd, if_false, if_true])
          repeat' (first | refine awp_seq_k fun K hK => ?_ | ((with_reducible refine hK _ ?_); clear hK K) | ((with_reducible refine aord_plain fun K hK => ?_); simp only [go_sem, Nat.reduceAdd, Nat.reduceMul, Nat.reduceEqDiff, Nat.reduceLT, reduceIte, reduceCtorEq, hN, q1, q2, Nat.add_eq_left, Nat.left_eq_add, Nat.add_assoc, Nat.reduceAdd, if_false, if_true, hN, q1, q2, mat.matL, DV.agg.injEq]) | refine awp_block ?_ | (refine awp_region tabOk rfl ?_; simp only [prep, pickO, List.map_cons, List.map_nil, List.getElem?_toArray, List.getElem?_cons_succ, List.getElem?_cons_zero, Option.bind_some, Option.map_some]) | ((with_reducible refine And.intro ?_ ?_); (focus (exact rfl))) | ((with_reducible refine And.intro (?_ : enters Try.prog 43) ?_); (focus exact Try.call43); (refine callX_satH split_sat ?_); simp only [go_sem, and_assoc, List.nil_append, List.append_nil, List.cons_append, Nat.reduceEqDiff, reduceIte, reduceCtorEq, hN, q1, q2, Nat.add_eq_left, Nat.left_eq_add, Nat.add_assoc, Nat.reduceAdd, if_false, if_true, hN, q1, q2, mat.matL, DV.agg.injEq]) | (refine aStoreAll_cells (by simp only [St.ev, St.set, upd, Nat.reduceEqDiff, reduceIte, if_false, if_true, hN, q1, q2, Nat.add_eq_left, Nat.left_eq_add, Nat.add_assoc, Nat.reduceAdd, if_false, if_true]; exact rfl) ?_ ?_ ?_ ?_ ?_; (focus (first | rfl | omega | (simp; done) | (simp; omega) | (simp [szOf, tab]; done) | (simp [szOf, tab]; omega))); (focus (first | rfl | omega | (simp; done) | (simp; omega) | (simp [szOf, tab]; done) | (simp [szOf, tab]; omega))); (focus (first | rfl | omega | (simp; done) | (simp; omega) | (simp [szOf, tab]; done) | (simp [szOf, tab]; omega))); (focus (first | rfl | (simp [AV.cell, Value.oneCell']; done))); (try simp only [go_sem, Nat.reduceAdd, Nat.reduceMul, Nat.reduceEqDiff, Nat.reduceLT, reduceIte, reduceCtorEq, hN, q1, q2, Nat.add_eq_left, Nat.left_eq_add, Nat.add_assoc, Nat.reduceAdd, if_false, if_true])) | fail)
          have hsum := sp_sum hV (a := (i : Int)) (c := (j : Int)) ⟨⟨⟨by omega, by omega⟩, by omega, by omega⟩, by omega⟩
          rw [hLL] at hsum
          have hl1 := r1.lt
          refine ⟨f, L, rfl, i, j, rfl, r1.keepN (by omega) (by (repeat rw [upd_ne _ _ (by omega)]); exact hfr O (by omega)) (fun m hm => by have := (hl1 m hm).1; (repeat rw [upd_ne _ _ (by omega)]); exact hfr _ (by omega)), by omega, hrw, fun H2 N2 P1 P2 g1 g2 s1 s2 s3 s4 s5 s6 s7 => ?_⟩
          have hN2 := s1.outn
          have d1 : H2 (N + 1) = some ⟨true, .cells [.val (.int .i64 (bqRow L i j s0).1), .val (.int .i64 (bqRow L i j s0).2.1)]⟩ := by rw [s3 _ (by omega)]; (repeat rw [if_neg (by omega)]); exact c1
          have d2 : H2 (N + 2) = some ⟨true, .cells [.val (.int .i64 (bqRow L i j s0).2.2)]⟩ := by rw [s3 _ (by omega)]; (repeat rw [if_neg (by omega)]); exact c2
          have d0 : H2 N = some ⟨true, .cells [.sl O 0 L.length 1 none]⟩ := by rw [s3 _ (by omega)]; (repeat rw [if_neg (by omega)]); exact c0
          have d3 : H2 (N + 3) = some ⟨true, .cells [.val (.int .i64 d)]⟩ := by rw [s3 _ (by omega)]; (repeat rw [if_neg (by omega)]); exact c3
          have d5 : H2 (N + 5) = some ⟨true, .cells [.val (.func (.func 76) #[] #[])]⟩ := by rw [s3 _ (by omega)]; (repeat rw [if_neg (by omega)]); exact c5
          have d7 : H2 (N + 7) = some ⟨true, .cells [.yl (N + 6)]⟩ := by rw [s3 _ (by omega)]; (repeat rw [if_neg (by omega)]); exact c7
          have dq : H2 (M + 2) = some ⟨true, .cells [.val (.int .i64 i), .val (.int .i64 j)]⟩ := by rw [s3 _ (by omega), if_pos rfl]
          have hfr2 : ∀ u, u < N → H2 u = H u := fun u hu => by rw [s3 _ (by omega)]; (repeat rw [if_neg (by omega)]); exact hfr u hu
          clear s3
          have hX1 := List.length_filter_le (agB [((i : Int), (j : Int))]) L
          have hmx : mxP L i j = max (((L.filter (agB [((i : Int), (j : Int))])).length : Nat) : Int) (((L.filter (agB [((j : Int), (i : Int))])).length : Nat) : Int) := by unfold mxP; omega
          have hbS : bqS L i j (bqRow L i j s0) = if mxP L i j < (bqRow L i j s0).2.2 then ((i : Int), (j : Int), mxP L i j) else bqRow L i j s0 := rfl
          by_cases hc : mxP L i j < (bqRow L i j s0).2.2
          · rw [if_pos hc] at hbS
            rw [hmx] at hc
            have e3 : decide (max (((L.filter (agB [((i : Int), (j : Int))])).length : Nat) : Int) (((L.filter (agB [((j : Int), (i : Int))])).length : Nat) : Int) < (bqRow L i j s0).2.2) = true := decide_eq_true hc


            repeat' (first | refine awp_seq_k fun K hK => ?_ | ((with_reducible refine hK _ ?_); clear hK K) | ((with_reducible refine aord_plain fun K hK => ?_); simp only [go_sem, Nat.reduceAdd, Nat.reduceMul, Nat.reduceEqDiff, Nat.reduceLT, reduceIte, reduceCtorEq, d0, d1, d2, d3, d5, d7, dq, e3, Nat.add_eq_left, Nat.left_eq_add, Nat.add_assoc, Nat.reduceAdd, if_false, if_true, d0, d1, d2, d3, d5, d7, dq, e3, mat.matL, DV.agg.injEq]) | ((with_reducible apply aord_guard); (focus (simp only [St.ev, St.set, upd, Nat.reduceEqDiff, reduceIte, if_false, if_true, d0, d1, d2, d3, d5, d7, dq, e3, Nat.add_eq_left, Nat.left_eq_add, Nat.add_assoc, Nat.reduceAdd, if_false, if_true]; exact rfl)); all_goals (intro hb; (try simp only [Bool.not_true, Bool.not_false] at hb); first | (cases hb; done) | ((try rw [hb]); (try simp only [Bool.not_eq_true', Bool.not_eq_false', Bool.and_eq_true, decide_eq_true_eq, decide_eq_false_iff_not, beq_iff_eq, bne_iff_ne, beq_eq_false_iff_ne, bne_eq_false_iff_eq, Int.not_lt, Int.not_le] at hb); (try (revert hb; with_reducible refine true_imp_iff.2 ?_)); first | (intro K hK; simp only [go_sem, Nat.reduceAdd, Nat.reduceMul, Nat.reduceEqDiff, Nat.reduceLT, reduceIte, reduceCtorEq, d0, d1, d2, d3, d5, d7, dq, e3, Nat.add_eq_left, Nat.left_eq_add, Nat.add_assoc, Nat.reduceAdd, if_false, if_true]) | (simp only [St.ev, St.set, upd, Nat.reduceEqDiff, reduceIte, if_false, if_true, d0, d1, d2, d3, d5, d7, dq, e3, Nat.add_eq_left, Nat.left_eq_add, Nat.add_assoc, Nat.reduceAdd, if_false, if_true]) | skip))) | ((first | with_reducible refine aord_nil ?_ | refine awp_skip ?_ | refine awp_exit ?_ | refine awp_ret ?_); try simp only [thenA_normal, thenA_exit, thenA_goto, thenA_ret, blockA_normal, blockA_same, blockA_exit, blockA_goto, blockA_ret, Nat.reduceEqDiff, if_false, if_true, reduceIte]) | (refine awp_region tabOk rfl ?_; simp only [prep, pickO, List.map_cons, List.map_nil, List.getElem?_toArray, List.getElem?_cons_succ, List.getElem?_cons_zero, Option.bind_some, Option.map_some]) | ((with_reducible apply awp_cond); (focus (simp only [St.ev, St.set, upd, Nat.reduceEqDiff, reduceIte, if_false, if_true, d0, d1, d2, d3, d5, d7, dq, e3, Nat.add_eq_left, Nat.left_eq_add, Nat.add_assoc, Nat.reduceAdd, if_false, if_true]; exact rfl)); all_goals (intro hb; first | (cases hb; done) | ((try rw [hb]); (try simp only [decide_eq_true_eq, decide_eq_false_iff_not, beq_iff_eq, bne_iff_ne, beq_eq_false_iff_ne, bne_eq_false_iff_eq, Int.not_lt, Int.not_le, Bool.not_eq_true', Bool.not_eq_false'] at hb)))) | ((with_reducible refine And.intro ?_ ?_); (focus omega)) | (refine aStoreAll_cells (by simp only [St.ev, St.set, upd, Nat.reduceEqDiff, reduceIte, if_false, if_true, d0, d1, d2, d3, d5, d7, dq, e3, Nat.add_eq_left, Nat.left_eq_add, Nat.add_assoc, Nat.reduceAdd, if_false, if_true]; exact rfl) ?_ ?_ ?_ ?_ ?_; (focus (first | rfl | omega | (simp; done) | (simp; omega) | (simp [szOf, tab]; done) | (simp [szOf, tab]; omega))); (focus (first | rfl | omega | (simp; done) | (simp; omega) | (simp [szOf, tab]; done) | (simp [szOf, tab]; omega))); (focus (first | rfl | omega | (simp; done) | (simp; omega) | (simp [szOf, tab]; done) | (simp [szOf, tab]; omega))); (focus (first | rfl | (simp [AV.cell, Value.oneCell']; done))); (try simp only [go_sem, Nat.reduceAdd, Nat.reduceMul, Nat.reduceEqDiff, Nat.reduceLT, reduceIte, reduceCtorEq, d0, d1, d2, d3, d5, d7, dq, e3, Nat.add_eq_left, Nat.left_eq_add, Nat.add_assoc, Nat.reduceAdd, if_false, if_true])) | ((with_reducible refine roundA_normal ?_); simp only [St.ev, St.set, upd, Nat.reduceEqDiff, reduceIte, if_false, if_true, d0, d1, d2, d3, d5, d7, dq, e3, Nat.add_eq_left, Nat.left_eq_add, Nat.add_assoc, Nat.reduceAdd, if_false, if_true]) | fail)
            refine ⟨(upd (upd (upd (upd H2 (N + 1) (some ⟨true, .cells [.val (.int .i64 i), .val (.int .i64 j)]⟩)) (N + 2) (some ⟨true, .cells [.val (.int .i64 (max (((L.filter (agB [((i : Int), (j : Int))])).length : Nat) : Int) (((L.filter (agB [((j : Int), (i : Int))])).length : Nat) : Int)))]⟩)) (N + 6) (some ⟨true, .raw (.loop LP)⟩)) (N + 8) (some ⟨true, .raw (.loop LQ)⟩), N2, j + 1), ⟨by dsimp only; omega, ?_⟩, by dsimp only; omega, Wk.sub (tsd (tsd (tsd (tsd (tsd (tsd (tsd tsd0 rfl) rfl) rfl) rfl) rfl) rfl) rfl) (fun _ _ h => h) rfl⟩
            dsimp only
            rw [hup, hbS, hmx]
            refine ⟨fun u hu => ?_, by omega, ?_, ?_, ?_, ?_, ?_, ?_, ?_, ?_⟩
            all_goals (repeat (first | rw [upd_same] | rw [upd_ne _ _ (by omega)]))
            · exact hfr2 u hu
            · exact d0
            · exact d3
            · exact d5
            · exact d7
          · rw [if_neg hc] at hbS
            rw [hmx] at hc
            have e3 : decide (max (((L.filter (agB [((i : Int), (j : Int))])).length : Nat) : Int) (((L.filter (agB [((j : Int), (i : Int))])).length : Nat) : Int) < (bqRow L i j s0).2.2) = false := decide_eq_false hc


            repeat' (first | refine awp_seq_k fun K hK => ?_ | ((with_reducible refine hK _ ?_); clear hK K) | ((with_reducible refine aord_plain fun K hK => ?_); simp only [go_sem, Nat.reduceAdd, Nat.reduceMul, Nat.reduceEqDiff, Nat.reduceLT, reduceIte, reduceCtorEq, d0, d1, d2, d3, d5, d7, dq, e3, Nat.add_eq_left, Nat.left_eq_add, Nat.add_assoc, Nat.reduceAdd, if_false, if_true, d0, d1, d2, d3, d5, d7, dq, e3, mat.matL, DV.agg.injEq]) | ((with_reducible apply aord_guard); (focus (simp only [St.ev, St.set, upd, Nat.reduceEqDiff, reduceIte, if_false, if_true, d0, d1, d2, d3, d5, d7, dq, e3, Nat.add_eq_left, Nat.left_eq_add, Nat.add_assoc, Nat.reduceAdd, if_false, if_true]; exact rfl)); all_goals (intro hb; (try simp only [Bool.not_true, Bool.not_false] at hb); first | (cases hb; done) | ((try rw [hb]); (try simp only [Bool.not_eq_true', Bool.not_eq_false', Bool.and_eq_true, decide_eq_true_eq, decide_eq_false_iff_not, beq_iff_eq, bne_iff_ne, beq_eq_false_iff_ne, bne_eq_false_iff_eq, Int.not_lt, Int.not_le] at hb); (try (revert hb; with_reducible refine true_imp_iff.2 ?_)); first | (intro K hK; simp only [go_sem, Nat.reduceAdd, Nat.reduceMul, Nat.reduceEqDiff, Nat.reduceLT, reduceIte, reduceCtorEq, d0, d1, d2, d3, d5, d7, dq, e3, Nat.add_eq_left, Nat.left_eq_add, Nat.add_assoc, Nat.reduceAdd, if_false, if_true]) | (simp only [St.ev, St.set, upd, Nat.reduceEqDiff, reduceIte, if_false, if_true, d0, d1, d2, d3, d5, d7, dq, e3, Nat.add_eq_left, Nat.left_eq_add, Nat.add_assoc, Nat.reduceAdd, if_false, if_true]) | skip))) | ((first | with_reducible refine aord_nil ?_ | refine awp_skip ?_ | refine awp_exit ?_ | refine awp_ret ?_); try simp only [thenA_normal, thenA_exit, thenA_goto, thenA_ret, blockA_normal, blockA_same, blockA_exit, blockA_goto, blockA_ret, Nat.reduceEqDiff, if_false, if_true, reduceIte]) | (refine awp_region tabOk rfl ?_; simp only [prep, pickO, List.map_cons, List.map_nil, List.getElem?_toArray, List.getElem?_cons_succ, List.getElem?_cons_zero, Option.bind_some, Option.map_some]) | ((with_reducible apply awp_cond); (focus (simp only [St.ev, St.set, upd, Nat.reduceEqDiff, reduceIte, if_false, if_true, d0, d1, d2, d3, d5, d7, dq, e3, Nat.add_eq_left, Nat.left_eq_add, Nat.add_assoc, Nat.reduceAdd, if_false, if_true]; exact rfl)); all_goals (intro hb; first | (cases hb; done) | ((try rw [hb]); (try simp only [decide_eq_true_eq, decide_eq_false_iff_not, beq_iff_eq, bne_iff_ne, beq_eq_false_iff_ne, bne_eq_false_iff_eq, Int.not_lt, Int.not_le, Bool.not_eq_true', Bool.not_eq_false'] at hb)))) | ((with_reducible refine And.intro ?_ ?_); (focus omega)) | ((with_reducible refine roundA_normal ?_); simp only [St.ev, St.set, upd, Nat.reduceEqDiff, reduceIte, if_false, if_true, d0, d1, d2, d3, d5, d7, dq, e3, Nat.add_eq_left, Nat.left_eq_add, Nat.add_assoc, Nat.reduceAdd, if_false, if_true]) | fail)
            refine ⟨(upd (upd H2 (N + 6) (some ⟨true, .raw (.loop LP)⟩)) (N + 8) (some ⟨true, .raw (.loop LQ)⟩), N2, j + 1), ⟨by dsimp only; omega, ?_⟩, by dsimp only; omega, Wk.sub (tsd (tsd (tsd (tsd (tsd (tsd (tsd tsd0 rfl) rfl) rfl) rfl) rfl) rfl) rfl) (fun _ _ h => h) rfl⟩
            dsimp only
            rw [hup, hbS]
            refine ⟨fun u hu => ?_, by omega, ?_, ?_, ?_, ?_, ?_, ?_, ?_, ?_⟩
            all_goals (repeat (first | rw [upd_same] | rw [upd_ne _ _ (by omega)]))
            · exact hfr2 u hu
            · exact d0
            · exact d1
            · exact d2
            · exact d3
            · exact d5
            · exact d7
        · have q1 : ((i : Int) != (j : Int)) = false := by rw [hij]; exact bne_self_eq_false _
          rw [if_neg (by omega)] at hup


          repeat' (first | refine awp_seq_k fun K hK => ?_ | ((with_reducible refine hK _ ?_); clear hK K) | (clear hK K; (with_reducible refine hK _ ?_); clear hK K) | ((with_reducible refine aord_plain fun K hK => ?_); simp only [go_sem, Nat.reduceAdd, Nat.reduceMul, Nat.reduceEqDiff, Nat.reduceLT, reduceIte, reduceCtorEq, hN, q1, Nat.add_eq_left, Nat.left_eq_add, Nat.add_assoc, Nat.reduceAdd, if_false, if_true, hN, q1, mat.matL, DV.agg.injEq]) | ((with_reducible apply aord_guard); (focus (simp only [St.ev, St.set, upd, Nat.reduceEqDiff, reduceIte, if_false, if_true, hN, q1, Nat.add_eq_left, Nat.left_eq_add, Nat.add_assoc, Nat.reduceAdd, if_false, if_true]; exact rfl)); all_goals (intro hb; (try simp only [Bool.not_true, Bool.not_false] at hb); first | (cases hb; done) | ((try rw [hb]); (try simp only [Bool.not_eq_true', Bool.not_eq_false', Bool.and_eq_true, decide_eq_true_eq, decide_eq_false_iff_not, beq_iff_eq, bne_iff_ne, beq_eq_false_iff_ne, bne_eq_false_iff_eq, Int.not_lt, Int.not_le] at hb); (try (revert hb; with_reducible refine true_imp_iff.2 ?_)); first | (intro K hK; simp only [go_sem, Nat.reduceAdd, Nat.reduceMul, Nat.reduceEqDiff, Nat.reduceLT, reduceIte, reduceCtorEq, hN, q1, Nat.add_eq_left, Nat.left_eq_add, Nat.add_assoc, Nat.reduceAdd, if_false, if_true]) | (simp only [St.ev, St.set, upd, Nat.reduceEqDiff, reduceIte, if_false, if_true, hN, q1, Nat.add_eq_left, Nat.left_eq_add, Nat.add_assoc, Nat.reduceAdd, if_false, if_true]) | skip))) | refine awp_block ?_ | ((first | with_reducible refine aord_nil ?_ | refine awp_skip ?_ | refine awp_exit ?_ | refine awp_ret ?_); try simp only [thenA_normal, thenA_exit, thenA_goto, thenA_ret, blockA_normal, blockA_same, blockA_exit, blockA_goto, blockA_ret, Nat.reduceEqDiff, if_false, if_true, reduceIte]) | (refine awp_region tabOk rfl ?_; simp only [prep, pickO, List.map_cons, List.map_nil, List.getElem?_toArray, List.getElem?_cons_succ, List.getElem?_cons_zero, Option.bind_some, Option.map_some]) | ((with_reducible apply awp_cond); (focus (simp only [St.ev, St.set, upd, Nat.reduceEqDiff, reduceIte, if_false, if_true, hN, q1, Nat.add_eq_left, Nat.left_eq_add, Nat.add_assoc, Nat.reduceAdd, if_false, if_true]; exact rfl)); all_goals (intro hb; first | (cases hb; done) | ((try rw [hb]); (try simp only [decide_eq_true_eq, decide_eq_false_iff_not, beq_iff_eq, bne_iff_ne, beq_eq_false_iff_ne, bne_eq_false_iff_eq, Int.not_lt, Int.not_le, Bool.not_eq_true', Bool.not_eq_false'] at hb)))) | ((with_reducible refine And.intro ?_ ?_); (focus omega)) | (exfalso; omega) | fail)
          refine ⟨(G, M, j + 1), ⟨by dsimp only; omega, by dsimp only; rw [hup]; exact hI⟩, by dsimp only; omega, Wk.sub (tsd (tsd (tsd (tsd (tsd (tsd (tsd tsd0 rfl) rfl) rfl) rfl) rfl) rfl) rfl) (fun _ _ h => h) rfl⟩
        · have q1 : ((i : Int) != (j : Int)) = true := bne_iff_ne.2 (by omega)
          have q2 : decide ((i : Int) < (j : Int)) = false := decide_eq_false (by omega)
          rw [if_neg (by omega)] at hup


          repeat' (first | refine awp_seq_k fun K hK => ?_ | ((with_reducible refine hK _ ?_); clear hK K) | (clear hK K; (with_reducible refine hK _ ?_); clear hK K) | ((with_reducible refine aord_plain fun K hK => ?_); simp only [go_sem, Nat.reduceAdd, Nat.reduceMul, Nat.reduceEqDiff, Nat.reduceLT, reduceIte, reduceCtorEq, hN, q1, q2, Nat.add_eq_left, Nat.left_eq_add, Nat.add_assoc, Nat.reduceAdd, if_false, if_true, hN, q1, q2, mat.matL, DV.agg.injEq]) | ((with_reducible apply aord_guard); (focus (simp only [St.ev, St.set, upd, Nat.reduceEqDiff, reduceIte, if_false, if_true, hN, q1, q2, Nat.add_eq_left, Nat.left_eq_add, Nat.add_assoc, Nat.reduceAdd, if_false, if_true]; exact rfl)); all_goals (intro hb; (try simp only [Bool.not_true, Bool.not_false] at hb); first | (cases hb; done) | ((try rw [hb]); (try simp only [Bool.not_eq_true', Bool.not_eq_false', Bool.and_eq_true, decide_eq_true_eq, decide_eq_false_iff_not, beq_iff_eq, bne_iff_ne, beq_eq_false_iff_ne, bne_eq_false_iff_eq, Int.not_lt, Int.not_le] at hb); (try (revert hb; with_reducible refine true_imp_iff.2 ?_)); first | (intro K hK; simp only [go_sem, Nat.reduceAdd, Nat.reduceMul, Nat.reduceEqDiff, Nat.reduceLT, reduceIte, reduceCtorEq, hN, q1, q2, Nat.add_eq_left, Nat.left_eq_add, Nat.add_assoc, Nat.reduceAdd, if_false, if_true]) | (simp only [St.ev, St.set, upd, Nat.reduceEqDiff, reduceIte, if_false, if_true, hN, q1, q2, Nat.add_eq_left, Nat.left_eq_add, Nat.add_assoc, Nat.reduceAdd, if_false, if_true]) | skip))) | refine awp_block ?_ | ((first | with_reducible refine aord_nil ?_ | refine awp_skip ?_ | refine awp_exit ?_ | refine awp_ret ?_); try simp only [thenA_normal, thenA_exit, thenA_goto, thenA_ret, blockA_normal, blockA_same, blockA_exit, blockA_goto, blockA_ret, Nat.reduceEqDiff, if_false, if_true, reduceIte]) | (refine awp_region tabOk rfl ?_; simp only [prep, pickO, List.map_cons, List.map_nil, List.getElem?_toArray, List.getElem?_cons_succ, List.getElem?_cons_zero, Option.bind_some, Option.map_some]) | ((with_reducible apply awp_cond); (focus (simp only [St.ev, St.set, upd, Nat.reduceEqDiff, reduceIte, if_false, if_true, hN, q1, q2, Nat.add_eq_left, Nat.left_eq_add, Nat.add_assoc, Nat.reduceAdd, if_false, if_true]; exact rfl)); all_goals (intro hb; first | (cases hb; done) | ((try rw [hb]); (try simp only [decide_eq_true_eq, decide_eq_false_iff_not, beq_iff_eq, bne_iff_ne, beq_eq_false_iff_ne, bne_eq_false_iff_eq, Int.not_lt, Int.not_le, Bool.not_eq_true', Bool.not_eq_false'] at hb)))) | ((with_reducible refine And.intro ?_ ?_); (focus omega)) | (simp only [rBuild]; simp only [fillA, Nat.reduceLeDiff, List.getElem?_cons_zero, List.getElem?_cons_succ, List.drop_succ_cons, List.drop_nil, List.take_nil, List.cons_append, Option.isSome_some, go_sem, Nat.reduceAdd, Nat.reduceMul, Nat.reduceEqDiff, Nat.reduceLT, reduceIte, reduceCtorEq, hN, q1, q2, Nat.add_eq_left, Nat.left_eq_add, Nat.add_assoc, Nat.reduceAdd, if_false, if_true]) | (exfalso; omega) | fail)
          (refine yield_round (lp := LQ) (by first | (simp only [St.ev, St.set, upd, Nat.reduceEqDiff, reduceIte, if_false, if_true, hN, q1, q2, Nat.add_eq_left, Nat.left_eq_add, Nat.add_assoc, Nat.reduceAdd, if_false, if_true]; done) | (simp only [St.ev, St.set, upd, Nat.reduceEqDiff, reduceIte, if_false, if_true, hN, q1, q2, Nat.add_eq_left, Nat.left_eq_add, Nat.add_assoc, Nat.reduceAdd, if_false, if_true]; exact rfl)) LQ1 LQ2 (by first | exact List.mem_cons_self | exact List.mem_cons_of_mem _ List.mem_cons_self | exact List.mem_cons_of_mem _ (List.mem_cons_of_mem _ List.mem_cons_self) | exact List.mem_cons_of_mem _ (List.mem_cons_of_mem _ (List.mem_cons_of_mem _ List.mem_cons_self))) (by first | (rw [LQ3]; done) | (rw [LQ3]; rfl)) (by rw [LQ3]; decide) (fun m0 hm0 hcl hlt => ?_); rw [LQ3, LQ4, LQ5]; simp only [zipT, St.ev, St.set, upd, Nat.reduceEqDiff, reduceIte, if_false, if_true, hN, q1, q2, Nat.add_eq_left, Nat.left_eq_add, Nat.add_assoc, Nat.reduceAdd, if_false, if_true])
          repeat' (first | refine awp_seq_k fun K hK => ?_ | ((with_reducible refine hK _ ?_); clear hK K) | ((with_reducible refine aord_plain fun K hK => ?_); simp only [go_sem, Nat.reduceAdd, Nat.reduceMul, Nat.reduceEqDiff, Nat.reduceLT, reduceIte, reduceCtorEq, hN, q1, q2, Nat.add_eq_left, Nat.left_eq_add, Nat.add_assoc, Nat.reduceAdd, if_false, if_true, hN, q1, q2, mat.matL, DV.agg.injEq]) | ((with_reducible apply aord_guard); (focus (simp only [St.ev, St.set, upd, Nat.reduceEqDiff, reduceIte, if_false, if_true, hN, q1, q2, Nat.add_eq_left, Nat.left_eq_add, Nat.add_assoc, Nat.reduceAdd, if_false, if_true]; exact rfl)); all_goals (intro hb; (try simp only [Bool.not_true, Bool.not_false] at hb); first | (cases hb; done) | ((try rw [hb]); (try simp only [Bool.not_eq_true', Bool.not_eq_false', Bool.and_eq_true, decide_eq_true_eq, decide_eq_false_iff_not, beq_iff_eq, bne_iff_ne, beq_eq_false_iff_ne, bne_eq_false_iff_eq, Int.not_lt, Int.not_le] at hb); (try (revert hb; with_reducible refine true_imp_iff.2 ?_)); first | (intro K hK; simp only [go_sem, Nat.reduceAdd, Nat.reduceMul, Nat.reduceEqDiff, Nat.reduceLT, reduceIte, reduceCtorEq, hN, q1, q2, Nat.add_eq_left, Nat.left_eq_add, Nat.add_assoc, Nat.reduceAdd, if_false, if_true]) | (simp only [St.ev, St.set, upd, Nat.reduceEqDiff, reduceIte, if_false, if_true, hN, q1, q2, Nat.add_eq_left, Nat.left_eq_add, Nat.add_assoc, Nat.reduceAdd, if_false, if_true]) | skip))) | refine awp_block ?_ | ((first | with_reducible refine aord_nil ?_ | refine awp_skip ?_ | refine awp_exit ?_ | refine awp_ret ?_); try simp only [thenA_normal, thenA_exit, thenA_goto, thenA_ret, blockA_normal, blockA_same, blockA_exit, blockA_goto, blockA_ret, Nat.reduceEqDiff, if_false, if_true, reduceIte]) | (refine awp_region tabOk rfl ?_; simp only [prep, pickO, List.map_cons, List.map_nil, List.getElem?_toArray, List.getElem?_cons_succ, List.getElem?_cons_zero, Option.bind_some, Option.map_some]) | ((with_reducible apply awp_cond); (focus (simp only [St.ev, St.set, upd, Nat.reduceEqDiff, reduceIte, if_false, if_true, hN, q1, q2, Nat.add_eq_left, Nat.left_eq_add, Nat.add_assoc, Nat.reduceAdd, if_false, if_true]; exact rfl)); all_goals (intro hb; first | (cases hb; done) | ((try rw [hb]); (try simp only [decide_eq_true_eq, decide_eq_false_iff_not, beq_iff_eq, bne_iff_ne, beq_eq_false_iff_ne, bne_eq_false_iff_eq, Int.not_lt, Int.not_le, Bool.not_eq_true', Bool.not_eq_false'] at hb)))) | ((with_reducible refine And.intro ?_ ?_); (focus omega)) | ((with_reducible refine And.intro ?_ ?_); (focus (exact rfl))) | ((with_reducible refine And.intro (?_ : enters Try.prog 76) ?_); (focus exact Try.call76); (refine callX_h (callH_inline tabOk Try.func76 rfl 8 rfl [.tmp 2] rfl (Nat.le_of_ble_eq_true rfl) fun m0 hm0 hcl hlt => ?_)); simp only [initT, St.ev, St.set, upd, Nat.reduceEqDiff, reduceIte, if_false, if_true, hN, q1, q2, Nat.add_eq_left, Nat.left_eq_add, Nat.add_assoc, Nat.reduceAdd, if_false, if_true]) | (simp only [doneH]; simp only [ressK, resK, wrapR, go_sem, Nat.reduceAdd, Nat.reduceMul, Nat.reduceEqDiff, Nat.reduceLT, reduceIte, reduceCtorEq, hN, q1, q2, Nat.add_eq_left, Nat.left_eq_add, Nat.add_assoc, Nat.reduceAdd, if_false, if_true]) | (refine aStoreAll_cells (by simp only [St.ev, St.set, upd, Nat.reduceEqDiff, reduceIte, if_false, if_true, hN, q1, q2, Nat.add_eq_left, Nat.left_eq_add, Nat.add_assoc, Nat.reduceAdd, if_false, if_true]; exact rfl) ?_ ?_ ?_ ?_ ?_; (focus (first | rfl | omega | (simp; done) | (simp; omega) | (simp [szOf, tab]; done) | (simp [szOf, tab]; omega))); (focus (first | rfl | omega | (simp; done) | (simp; omega) | (simp [szOf, tab]; done) | (simp [szOf, tab]; omega))); (focus (first | rfl | omega | (simp; done) | (simp; omega) | (simp [szOf, tab]; done) | (simp [szOf, tab]; omega))); (focus (first | rfl | (simp [AV.cell, Value.oneCell']; done))); (try simp only [go_sem, Nat.reduceAdd, Nat.reduceMul, Nat.reduceEqDiff, Nat.reduceLT, reduceIte, reduceCtorEq, hN, q1, q2, Nat.add_eq_left, Nat.left_eq_add, Nat.add_assoc, Nat.reduceAdd, if_false, if_true])) | ((with_reducible refine roundA_normal ?_); simp only [St.ev, St.set, upd, Nat.reduceEqDiff, reduceIte, if_false, if_true, hN, q1, q2, Nat.add_eq_left, Nat.left_eq_add, Nat.add_assoc, Nat.reduceAdd, if_false, if_true]) | fail)
          refine ⟨((upd (upd (upd (upd (upd G (N + 8) none) M (some ⟨true, .cells [.val (.int .i64 0), .val (.int .i64 0)]⟩)) M (some ⟨true, .cells [.val (.int .i64 i), .val (.int .i64 j)]⟩)) (M + 1) (some ⟨true, .cells [.val (.int .i64 i), .val (.int .i64 j)]⟩)) (N + 8) (some ⟨true, .raw (.loop LQ)⟩)), M + 2, j + 1), ⟨by dsimp only; omega, ?_⟩, by dsimp only; omega, Wk.sub (tsd (tsd (tsd (tsd (tsd (tsd (tsd tsd0 rfl) rfl) rfl) rfl) rfl) rfl) rfl) (fun _ _ h => h) rfl⟩
          dsimp only
          rw [hup]
          refine hI.up (by omega) fun u hu => ?_
          by_cases e : u = N + 8
          · subst e; rw [upd_same]; exact c8.symm
          · rw [upd_ne _ _ e, upd_ne _ _ (by omega), upd_ne _ _ (by omega), upd_ne _ _ (by omega), upd_ne _ _ e]
      · have ej : d = j := by omega
        subst ej
        have e2 : bqTo L d (i + 1) (0, 0, (L.length : Int)) = bqRow L i d s0 := by rw [bqTo, hss]


        repeat' (first | refine awp_seq_k fun K hK => ?_ | ((with_reducible refine hK _ ?_); clear hK K) | (clear hK K; (with_reducible refine hK _ ?_); clear hK K) | ((with_reducible refine aord_plain fun K hK => ?_); simp only [go_sem, Nat.reduceAdd, Nat.reduceMul, Nat.reduceEqDiff, Nat.reduceLT, reduceIte, reduceCtorEq, mat.matL, DV.agg.injEq]) | ((with_reducible apply aord_guard); (focus (simp only [St.ev, St.set, upd, Nat.reduceEqDiff, reduceIte, if_false, if_true]; exact rfl)); all_goals (intro hb; (try simp only [Bool.not_true, Bool.not_false] at hb); first | (cases hb; done) | ((try rw [hb]); (try simp only [Bool.not_eq_true', Bool.not_eq_false', Bool.and_eq_true, decide_eq_true_eq, decide_eq_false_iff_not, beq_iff_eq, bne_iff_ne, beq_eq_false_iff_ne, bne_eq_false_iff_eq, Int.not_lt, Int.not_le] at hb); (try (revert hb; with_reducible refine true_imp_iff.2 ?_)); first | (intro K hK; simp only [go_sem, Nat.reduceAdd, Nat.reduceMul, Nat.reduceEqDiff, Nat.reduceLT, reduceIte, reduceCtorEq]) | (simp only [St.ev, St.set, upd, Nat.reduceEqDiff, reduceIte, if_false, if_true]) | skip))) | refine awp_block ?_ | ((first | with_reducible refine aord_nil ?_ | refine awp_skip ?_ | refine awp_exit ?_ | refine awp_ret ?_); try simp only [thenA_normal, thenA_exit, thenA_goto, thenA_ret, blockA_normal, blockA_same, blockA_exit, blockA_goto, blockA_ret, Nat.reduceEqDiff, if_false, if_true, reduceIte]) | (refine awp_region tabOk rfl ?_; simp only [prep, pickO, List.map_cons, List.map_nil, List.getElem?_toArray, List.getElem?_cons_succ, List.getElem?_cons_zero, Option.bind_some, Option.map_some]) | ((with_reducible apply awp_cond); (focus (simp only [St.ev, St.set, upd, Nat.reduceEqDiff, reduceIte, if_false, if_true]; exact rfl)); all_goals (intro hb; first | (cases hb; done) | ((try rw [hb]); (try simp only [decide_eq_true_eq, decide_eq_false_iff_not, beq_iff_eq, bne_iff_ne, beq_eq_false_iff_ne, bne_eq_false_iff_eq, Int.not_lt, Int.not_le, Bool.not_eq_true', Bool.not_eq_false'] at hb)))) | ((with_reducible refine And.intro ?_ ?_); (focus omega)) | (simp only [rBuild]; simp only [fillA, Nat.reduceLeDiff, List.getElem?_cons_zero, List.getElem?_cons_succ, List.drop_succ_cons, List.drop_nil, List.take_nil, List.cons_append, Option.isSome_some, go_sem, Nat.reduceAdd, Nat.reduceMul, Nat.reduceEqDiff, Nat.reduceLT, reduceIte, reduceCtorEq]) | (exfalso; omega) | fail)
        refine ⟨(G, M, i + 1), ⟨by dsimp only; omega, by dsimp only; rw [e2]; exact hI⟩, by dsimp only; omega, Wk.sub (tsd (tsd (tsd (tsd tsd0 rfl) rfl) rfl) rfl) (fun _ _ h => h) rfl⟩
    · have ei : d = i := by omega
      subst ei
      have c1 := hI.c1
      have c6 := hI.c6
      have c8 := hI.c8


      repeat' ((fail_if_success (with_reducible refine isRetQ ?_)); (first | refine awp_seq_k fun K hK => ?_ | ((with_reducible refine hK _ ?_); clear hK K) | (clear hK K; (with_reducible refine hK _ ?_); clear hK K) | ((with_reducible refine aord_plain fun K hK => ?_); simp only [go_sem, Nat.reduceAdd, Nat.reduceMul, Nat.reduceEqDiff, Nat.reduceLT, reduceIte, reduceCtorEq, c1, c6, c8, Nat.add_eq_left, Nat.left_eq_add, Nat.add_assoc, Nat.reduceAdd, if_false, if_true, c1, c6, c8, mat.matL, DV.agg.injEq]) | refine awp_block ?_ | ((first | with_reducible refine aord_nil ?_ | refine awp_skip ?_ | refine awp_exit ?_ | refine awp_ret ?_); try simp only [thenA_normal, thenA_exit, thenA_goto, thenA_ret, blockA_normal, blockA_same, blockA_exit, blockA_goto, blockA_ret, Nat.reduceEqDiff, if_false, if_true, reduceIte]) | (refine awp_region tabOk rfl ?_; simp only [prep, pickO, List.map_cons, List.map_nil, List.getElem?_toArray, List.getElem?_cons_succ, List.getElem?_cons_zero, Option.bind_some, Option.map_some]) | (refine awp_region_draw (nt := 45) (id := 12) tabOk [(0, true, false), (1, true, false), (2, true, false), (3, true, false), (4, true, false), (5, true, false), (6, true, false)] (by kernel_rfl) rfl (by kernel_rfl) ?_; simp only [prep, pickO, List.map_cons, List.map_nil, List.getElem?_toArray, List.getElem?_cons_succ, List.getElem?_cons_zero, Option.bind_some, Option.map_some]) | ((with_reducible apply awp_cond); (focus (simp only [St.ev, St.set, upd, Nat.reduceEqDiff, reduceIte, if_false, if_true, c1, c6, c8, Nat.add_eq_left, Nat.left_eq_add, Nat.add_assoc, Nat.reduceAdd, if_false, if_true]; exact rfl)); all_goals (intro hb; first | (cases hb; done) | ((try rw [hb]); (try simp only [decide_eq_true_eq, decide_eq_false_iff_not, beq_iff_eq, bne_iff_ne, beq_eq_false_iff_ne, bne_eq_false_iff_eq, Int.not_lt, Int.not_le, Bool.not_eq_true', Bool.not_eq_false'] at hb)))) | (simp only [doneH]; simp only [ressK, resK, wrapR, go_sem, Nat.reduceAdd, Nat.reduceMul, Nat.reduceEqDiff, Nat.reduceLT, reduceIte, reduceCtorEq, c1, c6, c8, Nat.add_eq_left, Nat.left_eq_add, Nat.add_assoc, Nat.reduceAdd, if_false, if_true]) | ((with_reducible apply endA_go); (focus (simp only [St.ev, St.set, upd, Nat.reduceEqDiff, reduceIte, if_false, if_true, c1, c6, c8, Nat.add_eq_left, Nat.left_eq_add, Nat.add_assoc, Nat.reduceAdd, if_false, if_true]; exact rfl)); (focus assumption); (focus assumption); (try simp only [thenA_normal, thenA_exit, thenA_goto, thenA_ret, blockA_normal, blockA_same, blockA_exit, blockA_goto, blockA_ret, Nat.reduceEqDiff, if_false, if_true, reduceIte])) | (exfalso; omega) | fail))
      have hmn := hI.mn
      have hfr := hI.fr
      have hdrop : ∀ (o : Nat) (ob : Ob), h o = some ob → upd (upd G (N + 8) none) (N + 6) none o = some ob := fun o ob ho => by
        have := (hclO o _ ho).1
        rw [upd_ne _ _ (by omega), upd_ne _ _ (by omega), hfr o (by omega), r4 o (by omega)]; exact ho
      refine awp_weaken (s' := ⟨upd (upd (upd bot 6 (.val (.bool true))) 5 (.val (.int .i64 (bqTo L d d (0, 0, (L.length : Int))).2.1))) 4 (.val (.int .i64 (bqTo L d d (0, 0, (L.length : Int))).1)), h, M⟩) (Wk.sub (tsd (tsd (tsd tsd0 rfl) rfl) rfl) hdrop rfl) ?_
      repeat' (first | ((first | with_reducible refine aord_nil ?_ | refine awp_skip ?_ | refine awp_exit ?_ | refine awp_ret ?_); try simp only [thenA_normal, thenA_exit, thenA_goto, thenA_ret, blockA_normal, blockA_same, blockA_exit, blockA_goto, blockA_ret, Nat.reduceEqDiff, if_false, if_true, reduceIte]) | (simp only [doneH]; simp only [ressK, resK, wrapR, go_sem, Nat.reduceAdd, Nat.reduceMul, Nat.reduceEqDiff, Nat.reduceLT, reduceIte, reduceCtorEq, c1, c6, c8, Nat.add_eq_left, Nat.left_eq_add, Nat.add_assoc, Nat.reduceAdd, if_false, if_true]) | fail)
      exact hQ M (by omega)

/-! Duel: for each number of items there is one run; the kernel walks through it. -/
def duS (d : Nat) (fs : List (Int × Int)) : List (Int × Int) :=
  let L := (ordK d d []).filter (agB fs)
  let r := bqTo L d d (0, 0, (L.length : Int))
  if (L.filter (agB [(r.2.1, r.1)])).length ≤ (L.filter (agB [(r.1, r.2.1)])).length then fs ++ [(r.1, r.2.1)] else fs ++ [(r.2.1, r.1)]
/-- The facts behind k answers. -/
def duN (d : Nat) : Nat → List (Int × Int)
  | 0 => []
  | k + 1 => duS d (duN d k)
/-- How many questions there are. -/
def duE (d : Nat) : Nat := [0, 0, 1, 3, 5, 7].getD d 0
def duOk (d k : Nat) : Bool :=
  let L := (ordK d d []).filter (agB (duN d k))
  let r := bqTo L d d (0, 0, (L.length : Int))
  (duN d k).length == k && (duN d k).all (fun f => decide (0 ≤ f.1) && decide (f.1 < d) && decide (0 ≤ f.2) && decide (f.2 < d)) && (match L with | [] => false | p :: _ => (duN d k).all fun f => decide (fstAt p f.1 p.length < fstAt p f.2 p.length)) && (if k < duE d then decide (2 ≤ L.length) && decide (0 ≤ r.1) && decide (r.1 < r.2.1) && decide (r.2.1 < d) else decide (L.length = 1))
theorem du_ok : ∀ d, d ≤ 5 → ∀ k, k ≤ duE d → duOk d k = true := by
  intro d hd
  have : d = 0 ∨ d = 1 ∨ d = 2 ∨ d = 3 ∨ d = 4 ∨ d = 5 := by omega
  rcases this with rfl | rfl | rfl | rfl | rfl | rfl
  all_goals decide +kernel

theorem implSplitOf_sat : SatH Try.prog 15 (fun al h n K => ∃ (z : Int) (A : Nat) (b : Bool) (fs : List (Int × Int)) (a c : Int), al = [.val (.int .i64 (z)), .sl A 0 fs.length 2 none, .val (.int .i64 (a)), .val (.int .i64 (c))] ∧ (h A = some ⟨b, .ints .i64 (flF fs)⟩) ∧ (fs.length ≤ 1099511627776) ∧ ∀ N : Nat, n ≤ N → K (.tup [.val (.int .i64 (spA z fs a c)), .val (.int .i64 (spA z fs c a))]) (h) (N)) := by
  refine satH_intro tabOk Try.func15 rfl 47 rfl [.tmp 8, .tmp 9] rfl ?_
  rintro F W h n al K0 ⟨z, A, b, fs, a, c, rfl, hA, hl, hQ⟩
  refine ⟨Nat.le_of_ble_eq_true rfl, fun m0 hm0 hcl hlt => ?_⟩
  simp only [initT]
  have hAn := (hcl A _ hA).1
  obtain ⟨c1, hq1⟩ : ∃ x, (decide (0 ≤ a) && decide (a < z)) = x := ⟨_, rfl⟩
  obtain ⟨c2, hq2⟩ : ∃ x, (decide (0 ≤ c) && decide (c < z)) = x := ⟨_, rfl⟩
  obtain ⟨c3, hq3⟩ : ∃ x, (a == c) = x := ⟨_, rfl⟩
  have hI : (c1 = true ∧ c2 = true ∧ c3 = false) ↔ spI z a c := by
    rw [← hq1, ← hq2, ← hq3]; unfold spI
    simp only [Bool.and_eq_true, decide_eq_true_eq, beq_eq_false_iff_ne, ne_eq]
    exact ⟨fun h => ⟨⟨h.1, h.2.1⟩, h.2.2⟩, fun h => ⟨h.1.1, h.1.2, h.2⟩⟩


  repeat' ((fail_if_success (with_reducible refine isRetQ ?_)); (first | refine awp_seq_k fun K hK => ?_ | ((with_reducible refine hK _ ?_); clear hK K) | ((with_reducible refine aord_plain fun K hK => ?_); simp only [go_sem, Nat.reduceAdd, Nat.reduceMul, Nat.reduceEqDiff, Nat.reduceLT, reduceIte, reduceCtorEq, hA, Nat.add_eq_left, Nat.left_eq_add, Nat.add_assoc, Nat.reduceAdd, if_false, if_true, hA, mat.matL]) | ((first | with_reducible refine aord_nil ?_ | refine awp_skip ?_ | refine awp_exit ?_ | refine awp_ret ?_); try simp only [thenA_normal, thenA_exit, thenA_goto, thenA_ret, blockA_normal, blockA_same, blockA_exit, blockA_goto, blockA_ret, Nat.reduceEqDiff, if_false, if_true, reduceIte]) | (refine awp_region tabOk rfl ?_; simp only [prep, pickO, List.map_cons, List.map_nil, List.getElem?_toArray, List.getElem?_cons_succ, List.getElem?_cons_zero, Option.bind_some, Option.map_some]) | ((with_reducible refine And.intro (?_ : enters Try.prog 33) ?_); (focus exact Try.call33); (refine callX_satH implValidFacts_sat ?_); simp only [go_sem, and_assoc, List.nil_append, List.append_nil, List.cons_append, Nat.reduceEqDiff, reduceIte, reduceCtorEq, hA, Nat.add_eq_left, Nat.left_eq_add, Nat.add_assoc, Nat.reduceAdd, if_false, if_true, hA, mat.matL]) | fail))
  refine ⟨b, fs, rfl, rfl, rfl, hl, fun v N hv hN => ?_⟩
  by_cases hgood : v = true ∧ c1 = true ∧ c2 = true ∧ c3 = false
  · obtain ⟨rfl, rfl, rfl, rfl⟩ := hgood
    have hV := hv.1 rfl
    have hS := hI.1 ⟨rfl, rfl, rfl⟩
    rw [spA_yes hV hS, spA_yes hV (spI_sw hS)] at hQ
    have hcap := orO_cap z fs
    have hrw : ∀ j, ((orO z fs).getD j []).length ≤ 1000 := fun j => by have := orO_row (z := z) (fs := fs) j; omega


    repeat' (first | refine awp_seq_k fun K hK => ?_ | ((with_reducible refine hK _ ?_); clear hK K) | ((with_reducible refine aord_plain fun K hK => ?_); simp only [go_sem, Nat.reduceAdd, Nat.reduceMul, Nat.reduceEqDiff, Nat.reduceLT, reduceIte, reduceCtorEq, hA, hq1, hq2, hq3, Nat.add_eq_left, Nat.left_eq_add, Nat.add_assoc, Nat.reduceAdd, if_false, if_true, hA, hq1, hq2, hq3, mat.matL]) | ((with_reducible apply aord_guard); (focus (simp only [St.ev, St.set, upd, Nat.reduceEqDiff, reduceIte, if_false, if_true, hA, hq1, hq2, hq3, Nat.add_eq_left, Nat.left_eq_add, Nat.add_assoc, Nat.reduceAdd, if_false, if_true]; exact rfl)); all_goals (intro hb; (try simp only [Bool.not_true, Bool.not_false] at hb); first | (cases hb; done) | ((try rw [hb]); (try simp only [Bool.not_eq_true', Bool.not_eq_false', Bool.and_eq_true, decide_eq_true_eq, decide_eq_false_iff_not, beq_iff_eq, bne_iff_ne, beq_eq_false_iff_ne, bne_eq_false_iff_eq, Int.not_lt, Int.not_le] at hb); (try (revert hb; with_reducible refine true_imp_iff.2 ?_)); first | (intro K hK; simp only [go_sem, Nat.reduceAdd, Nat.reduceMul, Nat.reduceEqDiff, Nat.reduceLT, reduceIte, reduceCtorEq, hA, hq1, hq2, hq3, Nat.add_eq_left, Nat.left_eq_add, Nat.add_assoc, Nat.reduceAdd, if_false, if_true]) | (simp only [St.ev, St.set, upd, Nat.reduceEqDiff, reduceIte, if_false, if_true, hA, hq1, hq2, hq3, Nat.add_eq_left, Nat.left_eq_add, Nat.add_assoc, Nat.reduceAdd, if_false, if_true]) | skip))) | ((first | with_reducible refine aord_nil ?_ | refine awp_skip ?_ | refine awp_exit ?_ | refine awp_ret ?_); try simp only [thenA_normal, thenA_exit, thenA_goto, thenA_ret, blockA_normal, blockA_same, blockA_exit, blockA_goto, blockA_ret, Nat.reduceEqDiff, if_false, if_true, reduceIte]) | (refine awp_region tabOk rfl ?_; simp only [prep, pickO, List.map_cons, List.map_nil, List.getElem?_toArray, List.getElem?_cons_succ, List.getElem?_cons_zero, Option.bind_some, Option.map_some]) | ((with_reducible apply awp_cond); (focus (simp only [St.ev, St.set, upd, Nat.reduceEqDiff, reduceIte, if_false, if_true, hA, hq1, hq2, hq3, Nat.add_eq_left, Nat.left_eq_add, Nat.add_assoc, Nat.reduceAdd, if_false, if_true]; exact rfl)); all_goals (intro hb; first | (cases hb; done) | ((try rw [hb]); (try simp only [decide_eq_true_eq, decide_eq_false_iff_not, beq_iff_eq, bne_iff_ne, beq_eq_false_iff_ne, bne_eq_false_iff_eq, Int.not_lt, Int.not_le, Bool.not_eq_true', Bool.not_eq_false'] at hb)))) | ((with_reducible refine And.intro (?_ : enters Try.prog 48) ?_); (focus exact Try.call48); (refine callX_sat isItem_sat ?_); simp only [go_sem, and_assoc, List.nil_append, List.append_nil, List.cons_append, Nat.reduceEqDiff, reduceIte, reduceCtorEq, hA, hq1, hq2, hq3, Nat.add_eq_left, Nat.left_eq_add, Nat.add_assoc, Nat.reduceAdd, if_false, if_true, hA, hq1, hq2, hq3, mat.matL]) | ((with_reducible refine And.intro (?_ : enters Try.prog 29) ?_); (focus exact Try.call29); (refine callX_satH implOrdersLeft_sat ?_); simp only [go_sem, and_assoc, List.nil_append, List.append_nil, List.cons_append, Nat.reduceEqDiff, reduceIte, reduceCtorEq, hA, hq1, hq2, hq3, Nat.add_eq_left, Nat.left_eq_add, Nat.add_assoc, Nat.reduceAdd, if_false, if_true, hA, hq1, hq2, hq3, mat.matL]) | fail)
    refine ⟨b, fs, rfl, rfl, rfl, hl, fun H1 N1 O1 f1 r1 r2 r3 r4 r5 => ?_⟩


    repeat' (first | ((with_reducible refine hK _ ?_); clear hK K) | ((with_reducible refine aord_plain fun K hK => ?_); simp only [go_sem, Nat.reduceAdd, Nat.reduceMul, Nat.reduceEqDiff, Nat.reduceLT, reduceIte, reduceCtorEq, mat.matL]) | ((with_reducible refine And.intro (?_ : enters Try.prog 43) ?_); (focus exact Try.call43); (refine callX_satH split_sat ?_); simp only [go_sem, and_assoc, List.nil_append, List.append_nil, List.cons_append, Nat.reduceEqDiff, reduceIte, reduceCtorEq, mat.matL]) | (simp only [rBuild]; simp only [fillA, Nat.reduceLeDiff, List.getElem?_cons_zero, List.getElem?_cons_succ, List.drop_succ_cons, List.drop_nil, List.take_nil, List.cons_append, Option.isSome_some, go_sem, Nat.reduceAdd, Nat.reduceMul, Nat.reduceEqDiff, Nat.reduceLT, reduceIte, reduceCtorEq]) | fail)
    refine ⟨f1, orO z fs, rfl, a, c, rfl, r1, by omega, hrw, fun H2 N2 P1 P2 g1 g2 s1 s2 s3 s4 s5 s6 s7 => ?_⟩
    have hl1 := List.length_filter_le (agB [(a, c)]) (orO z fs)
    have hl2 := List.length_filter_le (agB [(c, a)]) (orO z fs)
    have hN12 := s1.outn
    have hdrop : ∀ (o : Nat) (ob : Ob), h o = some ob → H2 o = some ob := fun o ob ho => by
      have := (hcl o _ ho).1
      rw [s3 o (by omega), r4 o (by omega)]; exact ho


    repeat' ((fail_if_success (with_reducible refine isRetQ ?_)); (first | refine awp_seq_k fun K hK => ?_ | ((with_reducible refine hK _ ?_); clear hK K) | ((with_reducible refine aord_plain fun K hK => ?_); simp only [go_sem, Nat.reduceAdd, Nat.reduceMul, Nat.reduceEqDiff, Nat.reduceLT, reduceIte, reduceCtorEq, mat.matL]) | ((first | with_reducible refine aord_nil ?_ | refine awp_skip ?_ | refine awp_exit ?_ | refine awp_ret ?_); try simp only [thenA_normal, thenA_exit, thenA_goto, thenA_ret, blockA_normal, blockA_same, blockA_exit, blockA_goto, blockA_ret, Nat.reduceEqDiff, if_false, if_true, reduceIte]) | (refine awp_region tabOk rfl ?_; simp only [prep, pickO, List.map_cons, List.map_nil, List.getElem?_toArray, List.getElem?_cons_succ, List.getElem?_cons_zero, Option.bind_some, Option.map_some]) | fail))
    refine awp_weaken (s' := ⟨upd (upd bot 9 (.val (.int .i64 ((((orO z fs).filter (agB [(c, a)])).length : Nat) : Int)))) 8 (.val (.int .i64 ((((orO z fs).filter (agB [(a, c)])).length : Nat) : Int))), h, N2⟩) (Wk.sub (tsd (tsd tsd0 rfl) rfl) hdrop rfl) ?_
    repeat' (first | ((first | with_reducible refine aord_nil ?_ | refine awp_skip ?_ | refine awp_exit ?_ | refine awp_ret ?_); try simp only [thenA_normal, thenA_exit, thenA_goto, thenA_ret, blockA_normal, blockA_same, blockA_exit, blockA_goto, blockA_ret, Nat.reduceEqDiff, if_false, if_true, reduceIte]) | (simp only [doneH]; simp only [ressK, resK, wrapR, go_sem, Nat.reduceAdd, Nat.reduceMul, Nat.reduceEqDiff, Nat.reduceLT, reduceIte, reduceCtorEq]) | fail)
    exact hQ N2 (by omega)
  · have hno : ¬ (VF z fs ∧ spI z a c) := fun h => hgood ⟨hv.2 h.1, hI.2 h.2⟩
    have hno2 : ¬ (VF z fs ∧ spI z c a) := fun h => hgood ⟨hv.2 h.1, hI.2 (spI_sw h.2)⟩
    rw [spA_no hno, spA_no hno2] at hQ
    cases v <;> cases c1 <;> cases c2 <;> cases c3
    all_goals try (exact absurd ⟨rfl, rfl, rfl, rfl⟩ hgood)
    all_goals (


      repeat' (first | refine awp_seq_k fun K hK => ?_ | ((with_reducible refine hK _ ?_); clear hK K) | ((with_reducible refine aord_plain fun K hK => ?_); simp only [go_sem, Nat.reduceAdd, Nat.reduceMul, Nat.reduceEqDiff, Nat.reduceLT, reduceIte, reduceCtorEq, hA, hq1, hq2, hq3, Nat.add_eq_left, Nat.left_eq_add, Nat.add_assoc, Nat.reduceAdd, if_false, if_true, hA, hq1, hq2, hq3, mat.matL]) | ((with_reducible apply aord_guard); (focus (simp only [St.ev, St.set, upd, Nat.reduceEqDiff, reduceIte, if_false, if_true, hA, hq1, hq2, hq3, Nat.add_eq_left, Nat.left_eq_add, Nat.add_assoc, Nat.reduceAdd, if_false, if_true]; exact rfl)); all_goals (intro hb; (try simp only [Bool.not_true, Bool.not_false] at hb); first | (cases hb; done) | ((try rw [hb]); (try simp only [Bool.not_eq_true', Bool.not_eq_false', Bool.and_eq_true, decide_eq_true_eq, decide_eq_false_iff_not, beq_iff_eq, bne_iff_ne, beq_eq_false_iff_ne, bne_eq_false_iff_eq, Int.not_lt, Int.not_le] at hb); (try (revert hb; with_reducible refine true_imp_iff.2 ?_)); first | (intro K hK; simp only [go_sem, Nat.reduceAdd, Nat.reduceMul, Nat.reduceEqDiff, Nat.reduceLT, reduceIte, reduceCtorEq, hA, hq1, hq2, hq3, Nat.add_eq_left, Nat.left_eq_add, Nat.add_assoc, Nat.reduceAdd, if_false, if_true]) | (simp only [St.ev, St.set, upd, Nat.reduceEqDiff, reduceIte, if_false, if_true, hA, hq1, hq2, hq3, Nat.add_eq_left, Nat.left_eq_add, Nat.add_assoc, Nat.reduceAdd, if_false, if_true]) | skip))) | ((first | with_reducible refine aord_nil ?_ | refine awp_skip ?_ | refine awp_exit ?_ | refine awp_ret ?_); try simp only [thenA_normal, thenA_exit, thenA_goto, thenA_ret, blockA_normal, blockA_same, blockA_exit, blockA_goto, blockA_ret, Nat.reduceEqDiff, if_false, if_true, reduceIte]) | (refine awp_region tabOk rfl ?_; simp only [prep, pickO, List.map_cons, List.map_nil, List.getElem?_toArray, List.getElem?_cons_succ, List.getElem?_cons_zero, Option.bind_some, Option.map_some]) | ((with_reducible apply awp_cond); (focus (simp only [St.ev, St.set, upd, Nat.reduceEqDiff, reduceIte, if_false, if_true, hA, hq1, hq2, hq3, Nat.add_eq_left, Nat.left_eq_add, Nat.add_assoc, Nat.reduceAdd, if_false, if_true]; exact rfl)); all_goals (intro hb; first | (cases hb; done) | ((try rw [hb]); (try simp only [decide_eq_true_eq, decide_eq_false_iff_not, beq_iff_eq, bne_iff_ne, beq_eq_false_iff_ne, bne_eq_false_iff_eq, Int.not_lt, Int.not_le, Bool.not_eq_true', Bool.not_eq_false'] at hb)))) | ((with_reducible refine And.intro (?_ : enters Try.prog 48) ?_); (focus exact Try.call48); (refine callX_sat isItem_sat ?_); simp only [go_sem, and_assoc, List.nil_append, List.append_nil, List.cons_append, Nat.reduceEqDiff, reduceIte, reduceCtorEq, hA, hq1, hq2, hq3, Nat.add_eq_left, Nat.left_eq_add, Nat.add_assoc, Nat.reduceAdd, if_false, if_true, hA, hq1, hq2, hq3, mat.matL]) | (simp only [doneH]; simp only [ressK, resK, wrapR, go_sem, Nat.reduceAdd, Nat.reduceMul, Nat.reduceEqDiff, Nat.reduceLT, reduceIte, reduceCtorEq, hA, hq1, hq2, hq3, Nat.add_eq_left, Nat.left_eq_add, Nat.add_assoc, Nat.reduceAdd, if_false, if_true]) | fail))
    all_goals exact hQ N hN


theorem VF_strict {d : Nat} {fs : List (Int × Int)} {p : List Int} (hd : d ≤ 5) (hl : fs.length ≤ 20) (hi : itemsIn d fs) (hs : ∀ f, f ∈ fs → fstAt p f.1 p.length < fstAt p f.2 p.length) : VF d fs := by
  refine ⟨by omega, hl, by rwa [Int.toNat_natCast], fun x t => ?_⟩
  have key : ∀ {a c : Int}, Tc fs a c → fstAt p a p.length < fstAt p c p.length := by
    intro a c t
    induction t with
    | base t => exact hs _ t
    | step _ _ g1 g2 => omega
  have := key t
  omega
theorem duE_le {d : Nat} (hd : d ≤ 5) : duE d ≤ 7 := by
  have : d = 0 ∨ d = 1 ∨ d = 2 ∨ d = 3 ∨ d = 4 ∨ d = 5 := by omega
  rcases this with rfl | rfl | rfl | rfl | rfl | rfl
  all_goals decide
/-- What there is behind k answers. -/
theorem du_all {d k : Nat} (hd : d ≤ 5) (hk : k ≤ duE d) : (duN d k).length = k ∧ VF d (duN d k) ∧ (k < duE d → 2 ≤ (orO d (duN d k)).length ∧ 0 ≤ (bqTo (orO d (duN d k)) d d (0, 0, ((orO d (duN d k)).length : Int))).1 ∧ (bqTo (orO d (duN d k)) d d (0, 0, ((orO d (duN d k)).length : Int))).1 < (bqTo (orO d (duN d k)) d d (0, 0, ((orO d (duN d k)).length : Int))).2.1 ∧ (bqTo (orO d (duN d k)) d d (0, 0, ((orO d (duN d k)).length : Int))).2.1 < d) ∧ (k = duE d → (orO d (duN d k)).length = 1) := by
  have h := du_ok d hd k hk
  have h7 := duE_le hd
  unfold duOk at h
  simp only [Bool.and_eq_true, beq_iff_eq] at h
  obtain ⟨⟨⟨h1, h2⟩, h3⟩, h4⟩ := h
  rw [List.all_eq_true] at h2
  have hi : itemsIn d (duN d k) := fun f hf => by
    have := h2 f hf
    simp only [Bool.and_eq_true, decide_eq_true_eq] at this
    omega
  have hV : VF d (duN d k) := by
    cases hL : (ordK d d []).filter (agB (duN d k)) with
    | nil => rw [hL] at h3; cases h3
    | cons p l =>
      rw [hL] at h3
      dsimp only at h3
      rw [List.all_eq_true] at h3
      exact VF_strict (p := p) hd (by omega) hi fun f hf => of_decide_eq_true (h3 f hf)
  rw [← orO_ag hV] at h4
  refine ⟨h1, hV, fun hlt => ?_, fun he => ?_⟩
  · rw [if_pos hlt] at h4
    simp only [Bool.and_eq_true, decide_eq_true_eq] at h4
    obtain ⟨⟨⟨a1, a2⟩, a3⟩, a4⟩ := h4
    exact ⟨a1, a2, a3, a4⟩
  · rw [if_neg (by omega)] at h4
    exact of_decide_eq_true h4
theorem du_up {d k : Nat} (hd : d ≤ 5) (hk : k < duE d) : duN d (k + 1) = if ((orO d (duN d k)).filter (agB [((bqTo (orO d (duN d k)) d d (0, 0, ((orO d (duN d k)).length : Int))).2.1, (bqTo (orO d (duN d k)) d d (0, 0, ((orO d (duN d k)).length : Int))).1)])).length ≤ ((orO d (duN d k)).filter (agB [((bqTo (orO d (duN d k)) d d (0, 0, ((orO d (duN d k)).length : Int))).1, (bqTo (orO d (duN d k)) d d (0, 0, ((orO d (duN d k)).length : Int))).2.1)])).length then duN d k ++ [((bqTo (orO d (duN d k)) d d (0, 0, ((orO d (duN d k)).length : Int))).1, (bqTo (orO d (duN d k)) d d (0, 0, ((orO d (duN d k)).length : Int))).2.1)] else duN d k ++ [((bqTo (orO d (duN d k)) d d (0, 0, ((orO d (duN d k)).length : Int))).2.1, (bqTo (orO d (duN d k)) d d (0, 0, ((orO d (duN d k)).length : Int))).1)] := by
  obtain ⟨_, hV, _⟩ := du_all hd (Nat.le_of_lt hk)
  rw [orO_ag hV]; rfl
/-- Duel's answer. -/
def duA (z : Int) : List (Int × Int) := if 0 ≤ z ∧ z ≤ 5 then duN z.toNat (duE z.toNat) else []


theorem implDuel_sat : SatH Try.prog 26 (fun al h n K => ∃ (z : Int), al = [.val (.int .i64 (z))] ∧ ∀ (H : Hp) (N O : Nat), H O = some ⟨true, .ints .i64 (flF (duA z))⟩ → (∀ u, u < n → H u = h u) → n ≤ O ∧ O < N → K (.sl O 0 (duA z).length 2 none) (H) (N)) := by
  refine satH_intro tabOk Try.func26 rfl 40 rfl [.tmp 2] rfl ?_
  rintro F W h n al K0 ⟨z, rfl, hQ⟩
  refine ⟨Nat.le_of_ble_eq_true rfl, fun m0 hm0 hcl hlt => ?_⟩
  simp only [initT]


  repeat' (first | refine awp_seq_k fun K hK => ?_ | ((with_reducible refine hK _ ?_); clear hK K) | ((with_reducible refine aord_plain fun K hK => ?_); simp only [go_sem, Nat.reduceAdd, Nat.reduceMul, Nat.reduceEqDiff, Nat.reduceLT, reduceIte, reduceCtorEq, mat.matL, DV.agg.injEq]) | refine awp_block ?_ | ((first | with_reducible refine aord_nil ?_ | refine awp_skip ?_ | refine awp_exit ?_ | refine awp_ret ?_); try simp only [thenA_normal, thenA_exit, thenA_goto, thenA_ret, blockA_normal, blockA_same, blockA_exit, blockA_goto, blockA_ret, Nat.reduceEqDiff, if_false, if_true, reduceIte]) | (refine awp_region tabOk rfl ?_; simp only [prep, pickO, List.map_cons, List.map_nil, List.getElem?_toArray, List.getElem?_cons_succ, List.getElem?_cons_zero, Option.bind_some, Option.map_some]) | fail)
  refine awp_nilE 2 3 (.ints .i64 []) rfl rfl (by simp only [St.ev, St.set, upd, Nat.reduceEqDiff, reduceIte, if_false, if_true]) ?_
  simp only [St.ev, St.set, upd, Nat.reduceEqDiff, reduceIte, if_false, if_true]
  by_cases hz : 0 ≤ z ∧ z ≤ 5
  · obtain ⟨d, rfl⟩ : ∃ d : Nat, z = d := ⟨z.toNat, by omega⟩
    have hd5 : d ≤ 5 := by omega
    have hE7 := duE_le hd5
    have eA : duA d = duN d (duE d) := by unfold duA; rw [if_pos hz]; rfl
    rw [eA] at hQ
    refine awp_loop (fun q : Hp × Nat × Nat × Nat => ⟨upd (upd bot 3 (.sl q.2.2.1 0 q.2.2.2 2 none)) 0 (.val (.int .i64 d)), q.1, q.2.1⟩) (fun q => q.2.2.2 ≤ duE d ∧ q.1 q.2.2.1 = some ⟨true, .ints .i64 (flF (duN d q.2.2.2))⟩ ∧ (∀ u, u < n → q.1 u = h u) ∧ n ≤ q.2.2.1 ∧ q.2.2.1 < q.2.1) (fun q => duE d - q.2.2.2) (upd h n (some ⟨true, .ints .i64 []⟩), n + 1, n, 0) ⟨Nat.zero_le _, upd_same _ _ _, fun u hu => upd_ne _ _ (by omega), Nat.le_refl _, by dsimp only; omega⟩ ?_ ?_
    · exact Wk.sub (tsd (tsd tsd0 rfl) rfl) (fun _ _ h => h) rfl
    rintro ⟨H, N, O, k⟩ ⟨hkE, hO, hfr, hnO, hON⟩
    dsimp only at hkE hO hfr hnO hON ⊢
    obtain ⟨hlen, hV, hlt6, heq⟩ := du_all hd5 hkE
    have hfl := flF_len (duN d k)
    generalize hF : duN d k = F at *


    repeat' (first | refine awp_seq_k fun K hK => ?_ | ((with_reducible refine hK _ ?_); clear hK K) | ((with_reducible refine aord_plain fun K hK => ?_); simp only [go_sem, Nat.reduceAdd, Nat.reduceMul, Nat.reduceEqDiff, Nat.reduceLT, reduceIte, reduceCtorEq, hO, Nat.add_eq_left, Nat.left_eq_add, Nat.add_assoc, Nat.reduceAdd, if_false, if_true, hO, mat.matL, DV.agg.injEq]) | refine awp_block ?_ | (refine awp_region tabOk rfl ?_; simp only [prep, pickO, List.map_cons, List.map_nil, List.getElem?_toArray, List.getElem?_cons_succ, List.getElem?_cons_zero, Option.bind_some, Option.map_some]) | ((with_reducible refine And.intro (?_ : enters Try.prog 13) ?_); (focus exact Try.call13); (refine callX_satH implBestQ_sat ?_); simp only [go_sem, and_assoc, List.nil_append, List.append_nil, List.cons_append, Nat.reduceEqDiff, reduceIte, reduceCtorEq, hO, Nat.add_eq_left, Nat.left_eq_add, Nat.add_assoc, Nat.reduceAdd, if_false, if_true, hO, mat.matL, DV.agg.injEq]) | fail)
    refine ⟨true, F, hlen.symm, rfl, rfl, by omega, fun N2 hN2 => ?_⟩
    have m1 : (O = N2) = False := eq_false (by omega)
    have m2 : (N2 = O) = False := eq_false (by omega)
    have m3 : ∀ k, (O = N2 + k) = False := fun k => eq_false (by omega)
    have m4 : ∀ k, (N2 + k = O) = False := fun k => eq_false (by omega)
    rcases Nat.lt_or_ge k (duE d) with hk | hk
    · obtain ⟨h2, b1, b2, b3⟩ := hlt6 hk
      have hup := du_up hd5 hk
      rw [hF] at hup
      have hcap := orO_cap (d : Int) F
      rw [bqA_yes hV h2]
      generalize hx : (bqTo (orO d F) d d (0, 0, ((orO d F).length : Int))).1 = x at *
      generalize hy : (bqTo (orO d F) d d (0, 0, ((orO d F).length : Int))).2.1 = y at *
      have hS : spI d x y := ⟨⟨⟨by omega, by omega⟩, by omega, by omega⟩, by omega⟩
      have e1 := spA_yes hV hS
      have e2 := spA_yes hV (spI_sw hS)


      repeat' (first | refine awp_seq_k fun K hK => ?_ | ((with_reducible refine hK _ ?_); clear hK K) | ((with_reducible refine aord_plain fun K hK => ?_); simp only [go_sem, Nat.reduceAdd, Nat.reduceMul, Nat.reduceEqDiff, Nat.reduceLT, reduceIte, reduceCtorEq, hO, m1, m2, m3, m4, Nat.add_eq_left, Nat.left_eq_add, Nat.add_assoc, Nat.reduceAdd, if_false, if_true, hO, m1, m2, m3, m4, mat.matL, DV.agg.injEq]) | ((first | with_reducible refine aord_nil ?_ | refine awp_skip ?_ | refine awp_exit ?_ | refine awp_ret ?_); try simp only [thenA_normal, thenA_exit, thenA_goto, thenA_ret, blockA_normal, blockA_same, blockA_exit, blockA_goto, blockA_ret, Nat.reduceEqDiff, if_false, if_true, reduceIte]) | (refine awp_region tabOk rfl ?_; simp only [prep, pickO, List.map_cons, List.map_nil, List.getElem?_toArray, List.getElem?_cons_succ, List.getElem?_cons_zero, Option.bind_some, Option.map_some]) | ((with_reducible apply awp_cond); (focus (simp only [St.ev, St.set, upd, Nat.reduceEqDiff, reduceIte, if_false, if_true, hO, m1, m2, m3, m4, Nat.add_eq_left, Nat.left_eq_add, Nat.add_assoc, Nat.reduceAdd, if_false, if_true]; exact rfl)); all_goals (intro hb; first | (cases hb; done) | ((try rw [hb]); (try simp only [decide_eq_true_eq, decide_eq_false_iff_not, beq_iff_eq, bne_iff_ne, beq_eq_false_iff_ne, bne_eq_false_iff_eq, Int.not_lt, Int.not_le, Bool.not_eq_true', Bool.not_eq_false'] at hb)))) | ((with_reducible refine And.intro ?_ ?_); (focus (exact rfl))) | ((with_reducible refine And.intro (?_ : enters Try.prog 15) ?_); (focus exact Try.call15); (refine callX_satH implSplitOf_sat ?_); simp only [go_sem, and_assoc, List.nil_append, List.append_nil, List.cons_append, Nat.reduceEqDiff, reduceIte, reduceCtorEq, hO, m1, m2, m3, m4, Nat.add_eq_left, Nat.left_eq_add, Nat.add_assoc, Nat.reduceAdd, if_false, if_true, hO, m1, m2, m3, m4, mat.matL, DV.agg.injEq]) | (simp only [rBuild]; simp only [fillA, Nat.reduceLeDiff, List.getElem?_cons_zero, List.getElem?_cons_succ, List.drop_succ_cons, List.drop_nil, List.take_nil, List.cons_append, Option.isSome_some, go_sem, Nat.reduceAdd, Nat.reduceMul, Nat.reduceEqDiff, Nat.reduceLT, reduceIte, reduceCtorEq, hO, m1, m2, m3, m4, Nat.add_eq_left, Nat.left_eq_add, Nat.add_assoc, Nat.reduceAdd, if_false, if_true]) | (refine aStoreAll_cells (by simp only [St.ev, St.set, upd, Nat.reduceEqDiff, reduceIte, if_false, if_true, hO, m1, m2, m3, m4, Nat.add_eq_left, Nat.left_eq_add, Nat.add_assoc, Nat.reduceAdd, if_false, if_true]; exact rfl) ?_ ?_ ?_ ?_ ?_; (focus (first | rfl | omega | (simp; done) | (simp; omega) | (simp [szOf, tab]; done) | (simp [szOf, tab]; omega))); (focus (first | rfl | omega | (simp; done) | (simp; omega) | (simp [szOf, tab]; done) | (simp [szOf, tab]; omega))); (focus (first | rfl | omega | (simp; done) | (simp; omega) | (simp [szOf, tab]; done) | (simp [szOf, tab]; omega))); (focus (first | rfl | (simp [AV.cell, Value.oneCell']; done))); (try simp only [go_sem, Nat.reduceAdd, Nat.reduceMul, Nat.reduceEqDiff, Nat.reduceLT, reduceIte, reduceCtorEq, hO, m1, m2, m3, m4, Nat.add_eq_left, Nat.left_eq_add, Nat.add_assoc, Nat.reduceAdd, if_false, if_true])) | fail)
      refine ⟨true, F, hlen.symm, rfl, rfl, by omega, fun N3 hN3 => ?_⟩
      rw [e1, e2]
      have m5 : (N2 = N3) = False := eq_false (by omega)
      have m6 : (N3 = N2) = False := eq_false (by omega)
      have m7 : ∀ k, (N2 = N3 + k) = False := fun k => eq_false (by omega)
      have m8 : ∀ k, (N3 + k = N2) = False := fun k => eq_false (by omega)
      have m9 : (O = N3) = False := eq_false (by omega)
      have ma : (N3 = O) = False := eq_false (by omega)
      have mb : ∀ k, (O = N3 + k) = False := fun k => eq_false (by omega)
      have mc : ∀ k, (N3 + k = O) = False := fun k => eq_false (by omega)
      have hM := And.intro m1 (And.intro m2 (And.intro m3 (And.intro m4 (And.intro m5 (And.intro m6 (And.intro m7 (And.intro m8 (And.intro m9 (And.intro ma (And.intro mb mc))))))))))
      have hc1 := List.length_filter_le (agB [(x, y)]) (orO d F)
      have hc2 := List.length_filter_le (agB [(y, x)]) (orO d F)
      by_cases hle : ((orO d F).filter (agB [(y, x)])).length ≤ ((orO d F).filter (agB [(x, y)])).length
      · skip
        have hE2 : duN d (k + 1) = F ++ [(x, y)] := by rw [hup, if_pos hle]
        have e4 : flF (F ++ [((x : Int), (y : Int))]) = flF F ++ [x, y] := by rw [flF_app]; rfl
        have e5 : decide (((((orO d F).filter (agB [(y, x)])).length : Nat) : Int) > ((((orO d F).filter (agB [(x, y)])).length : Nat) : Int)) = false := decide_eq_false (by omega)


        repeat' (first | refine awp_seq_k fun K hK => ?_ | ((with_reducible refine hK _ ?_); clear hK K) | ((with_reducible refine aord_plain fun K hK => ?_); simp only [go_sem, Nat.reduceAdd, Nat.reduceMul, Nat.reduceEqDiff, Nat.reduceLT, reduceIte, reduceCtorEq, hO, hM, e5, Nat.add_eq_left, Nat.left_eq_add, Nat.add_assoc, Nat.reduceAdd, if_false, if_true, hO, hM, e5, mat.matL, DV.agg.injEq]) | ((first | with_reducible refine aord_nil ?_ | refine awp_skip ?_ | refine awp_exit ?_ | refine awp_ret ?_); try simp only [thenA_normal, thenA_exit, thenA_goto, thenA_ret, blockA_normal, blockA_same, blockA_exit, blockA_goto, blockA_ret, Nat.reduceEqDiff, if_false, if_true, reduceIte]) | (refine awp_region tabOk rfl ?_; simp only [prep, pickO, List.map_cons, List.map_nil, List.getElem?_toArray, List.getElem?_cons_succ, List.getElem?_cons_zero, Option.bind_some, Option.map_some]) | ((with_reducible apply awp_cond); (focus (simp only [St.ev, St.set, upd, Nat.reduceEqDiff, reduceIte, if_false, if_true, hO, hM, e5, Nat.add_eq_left, Nat.left_eq_add, Nat.add_assoc, Nat.reduceAdd, if_false, if_true]; exact rfl)); all_goals (intro hb; first | (cases hb; done) | ((try rw [hb]); (try simp only [decide_eq_true_eq, decide_eq_false_iff_not, beq_iff_eq, bne_iff_ne, beq_eq_false_iff_ne, bne_eq_false_iff_eq, Int.not_lt, Int.not_le, Bool.not_eq_true', Bool.not_eq_false'] at hb)))) | fail)
        refine ⟨_, _, ⟨rfl, rfl⟩, Nat.le_of_ble_eq_true rfl, ?_⟩
        (try dsimp only)
        repeat' (first | ((with_reducible refine hK _ ?_); clear hK K) | ((with_reducible refine aord_plain fun K hK => ?_); simp only [go_sem, Nat.reduceAdd, Nat.reduceMul, Nat.reduceEqDiff, Nat.reduceLT, reduceIte, reduceCtorEq, hO, hM, e5, Nat.add_eq_left, Nat.left_eq_add, Nat.add_assoc, Nat.reduceAdd, if_false, if_true, hO, hM, e5, mat.matL, DV.agg.injEq]) | fail)
        refine aAppendE_ints rfl rfl rfl rfl (Nat.le_of_ble_eq_true rfl) (by decide) (by decide) (by (try dsimp only); (repeat (first | rw [upd_same] | rw [upd_ne _ _ (by omega)]))) (by (try dsimp only); (repeat (first | rw [upd_same] | rw [upd_ne _ _ (by omega)])); exact hO) (by omega) rfl (by decide) (by omega) ?_
        repeat' (first | ((with_reducible refine hK _ ?_); clear hK K) | ((with_reducible refine aord_plain fun K hK => ?_); simp only [go_sem, Nat.reduceAdd, Nat.reduceMul, Nat.reduceEqDiff, Nat.reduceLT, reduceIte, reduceCtorEq, hO, hM, e5, Nat.add_eq_left, Nat.left_eq_add, Nat.add_assoc, Nat.reduceAdd, if_false, if_true, hO, hM, e5, mat.matL, DV.agg.injEq]) | ((first | with_reducible refine aord_nil ?_ | refine awp_skip ?_ | refine awp_exit ?_ | refine awp_ret ?_); try simp only [thenA_normal, thenA_exit, thenA_goto, thenA_ret, blockA_normal, blockA_same, blockA_exit, blockA_goto, blockA_ret, Nat.reduceEqDiff, if_false, if_true, reduceIte]) | fail)
        refine ⟨((upd (upd (upd (upd (upd H N2 (some ⟨true, .cells [.val (.int .i64 0), .val (.int .i64 0)]⟩)) N2 (some ⟨true, .cells [.val (.int .i64 x), .val (.int .i64 y)]⟩)) N3 (some ⟨true, .ints .i64 [x, y]⟩)) O none) (N3 + 1) (some ⟨true, .ints .i64 (flF F ++ [x, y])⟩)), N3 + 2, N3 + 1, k + 1), ⟨by dsimp only; omega, ?_, fun u hu => ?_, by dsimp only; omega, by dsimp only; omega⟩, by dsimp only; omega, Wk.sub (tsd (tsd tsd0 rfl) rfl) (fun _ _ h => h) rfl⟩
        · dsimp only
          rw [hE2, e4]; (repeat (first | rw [upd_same] | rw [upd_ne _ _ (by omega)]))
        · dsimp only
          (repeat rw [upd_ne _ _ (by omega)])
          exact hfr u hu
      · skip
        have hE2 : duN d (k + 1) = F ++ [(y, x)] := by rw [hup, if_neg hle]
        have e4 : flF (F ++ [((y : Int), (x : Int))]) = flF F ++ [y, x] := by rw [flF_app]; rfl
        have e5 : decide (((((orO d F).filter (agB [(y, x)])).length : Nat) : Int) > ((((orO d F).filter (agB [(x, y)])).length : Nat) : Int)) = true := decide_eq_true (by omega)


        repeat' (first | refine awp_seq_k fun K hK => ?_ | ((with_reducible refine hK _ ?_); clear hK K) | ((with_reducible refine aord_plain fun K hK => ?_); simp only [go_sem, Nat.reduceAdd, Nat.reduceMul, Nat.reduceEqDiff, Nat.reduceLT, reduceIte, reduceCtorEq, hO, hM, e5, Nat.add_eq_left, Nat.left_eq_add, Nat.add_assoc, Nat.reduceAdd, if_false, if_true, hO, hM, e5, mat.matL, DV.agg.injEq]) | ((first | with_reducible refine aord_nil ?_ | refine awp_skip ?_ | refine awp_exit ?_ | refine awp_ret ?_); try simp only [thenA_normal, thenA_exit, thenA_goto, thenA_ret, blockA_normal, blockA_same, blockA_exit, blockA_goto, blockA_ret, Nat.reduceEqDiff, if_false, if_true, reduceIte]) | (refine awp_region tabOk rfl ?_; simp only [prep, pickO, List.map_cons, List.map_nil, List.getElem?_toArray, List.getElem?_cons_succ, List.getElem?_cons_zero, Option.bind_some, Option.map_some]) | ((with_reducible apply awp_cond); (focus (simp only [St.ev, St.set, upd, Nat.reduceEqDiff, reduceIte, if_false, if_true, hO, hM, e5, Nat.add_eq_left, Nat.left_eq_add, Nat.add_assoc, Nat.reduceAdd, if_false, if_true]; exact rfl)); all_goals (intro hb; first | (cases hb; done) | ((try rw [hb]); (try simp only [decide_eq_true_eq, decide_eq_false_iff_not, beq_iff_eq, bne_iff_ne, beq_eq_false_iff_ne, bne_eq_false_iff_eq, Int.not_lt, Int.not_le, Bool.not_eq_true', Bool.not_eq_false'] at hb)))) | ((with_reducible refine And.intro (?_ : enters Try.prog 67) ?_); (focus exact Try.call67); (refine callX_sat opposite_sat ?_); simp only [go_sem, and_assoc, List.nil_append, List.append_nil, List.cons_append, Nat.reduceEqDiff, reduceIte, reduceCtorEq, hO, hM, e5, Nat.add_eq_left, Nat.left_eq_add, Nat.add_assoc, Nat.reduceAdd, if_false, if_true, hO, hM, e5, mat.matL, DV.agg.injEq]) | (refine aStoreAll_cells (by simp only [St.ev, St.set, upd, Nat.reduceEqDiff, reduceIte, if_false, if_true, hO, hM, e5, Nat.add_eq_left, Nat.left_eq_add, Nat.add_assoc, Nat.reduceAdd, if_false, if_true]; exact rfl) ?_ ?_ ?_ ?_ ?_; (focus (first | rfl | omega | (simp; done) | (simp; omega) | (simp [szOf, tab]; done) | (simp [szOf, tab]; omega))); (focus (first | rfl | omega | (simp; done) | (simp; omega) | (simp [szOf, tab]; done) | (simp [szOf, tab]; omega))); (focus (first | rfl | omega | (simp; done) | (simp; omega) | (simp [szOf, tab]; done) | (simp [szOf, tab]; omega))); (focus (first | rfl | (simp [AV.cell, Value.oneCell']; done))); (try simp only [go_sem, Nat.reduceAdd, Nat.reduceMul, Nat.reduceEqDiff, Nat.reduceLT, reduceIte, reduceCtorEq, hO, hM, e5, Nat.add_eq_left, Nat.left_eq_add, Nat.add_assoc, Nat.reduceAdd, if_false, if_true])) | fail)
        refine ⟨_, _, ⟨rfl, rfl⟩, Nat.le_of_ble_eq_true rfl, ?_⟩
        (try dsimp only)
        repeat' (first | ((with_reducible refine hK _ ?_); clear hK K) | ((with_reducible refine aord_plain fun K hK => ?_); simp only [go_sem, Nat.reduceAdd, Nat.reduceMul, Nat.reduceEqDiff, Nat.reduceLT, reduceIte, reduceCtorEq, hO, hM, e5, Nat.add_eq_left, Nat.left_eq_add, Nat.add_assoc, Nat.reduceAdd, if_false, if_true, hO, hM, e5, mat.matL, DV.agg.injEq]) | fail)
        refine aAppendE_ints rfl rfl rfl rfl (Nat.le_of_ble_eq_true rfl) (by decide) (by decide) (by (try dsimp only); (repeat (first | rw [upd_same] | rw [upd_ne _ _ (by omega)]))) (by (try dsimp only); (repeat (first | rw [upd_same] | rw [upd_ne _ _ (by omega)])); exact hO) (by omega) rfl (by decide) (by omega) ?_
        repeat' (first | ((with_reducible refine hK _ ?_); clear hK K) | ((with_reducible refine aord_plain fun K hK => ?_); simp only [go_sem, Nat.reduceAdd, Nat.reduceMul, Nat.reduceEqDiff, Nat.reduceLT, reduceIte, reduceCtorEq, hO, hM, e5, Nat.add_eq_left, Nat.left_eq_add, Nat.add_assoc, Nat.reduceAdd, if_false, if_true, hO, hM, e5, mat.matL, DV.agg.injEq]) | ((first | with_reducible refine aord_nil ?_ | refine awp_skip ?_ | refine awp_exit ?_ | refine awp_ret ?_); try simp only [thenA_normal, thenA_exit, thenA_goto, thenA_ret, blockA_normal, blockA_same, blockA_exit, blockA_goto, blockA_ret, Nat.reduceEqDiff, if_false, if_true, reduceIte]) | fail)
        refine ⟨((upd (upd (upd (upd (upd (upd H N2 (some ⟨true, .cells [.val (.int .i64 0), .val (.int .i64 0)]⟩)) N2 (some ⟨true, .cells [.val (.int .i64 x), .val (.int .i64 y)]⟩)) N2 (some ⟨true, .cells [.val (.int .i64 y), .val (.int .i64 x)]⟩)) N3 (some ⟨true, .ints .i64 [y, x]⟩)) O none) (N3 + 1) (some ⟨true, .ints .i64 (flF F ++ [y, x])⟩)), N3 + 2, N3 + 1, k + 1), ⟨by dsimp only; omega, ?_, fun u hu => ?_, by dsimp only; omega, by dsimp only; omega⟩, by dsimp only; omega, Wk.sub (tsd (tsd tsd0 rfl) rfl) (fun _ _ h => h) rfl⟩
        · dsimp only
          rw [hE2, e4]; (repeat (first | rw [upd_same] | rw [upd_ne _ _ (by omega)]))
        · dsimp only
          (repeat rw [upd_ne _ _ (by omega)])
          exact hfr u hu
    · have ek : k = duE d := by omega
      rw [bqA_no (fun h => by have := heq ek; omega)]
      rw [← ek, hF] at hQ


      repeat' (first | refine awp_seq_k fun K hK => ?_ | ((with_reducible refine hK _ ?_); clear hK K) | ((with_reducible refine aord_plain fun K hK => ?_); simp only [go_sem, Nat.reduceAdd, Nat.reduceMul, Nat.reduceEqDiff, Nat.reduceLT, reduceIte, reduceCtorEq, hO, Nat.add_eq_left, Nat.left_eq_add, Nat.add_assoc, Nat.reduceAdd, if_false, if_true, hO, mat.matL, DV.agg.injEq]) | ((first | with_reducible refine aord_nil ?_ | refine awp_skip ?_ | refine awp_exit ?_ | refine awp_ret ?_); try simp only [thenA_normal, thenA_exit, thenA_goto, thenA_ret, blockA_normal, blockA_same, blockA_exit, blockA_goto, blockA_ret, Nat.reduceEqDiff, if_false, if_true, reduceIte]) | (refine awp_region tabOk rfl ?_; simp only [prep, pickO, List.map_cons, List.map_nil, List.getElem?_toArray, List.getElem?_cons_succ, List.getElem?_cons_zero, Option.bind_some, Option.map_some]) | ((with_reducible apply awp_cond); (focus (simp only [St.ev, St.set, upd, Nat.reduceEqDiff, reduceIte, if_false, if_true, hO, Nat.add_eq_left, Nat.left_eq_add, Nat.add_assoc, Nat.reduceAdd, if_false, if_true]; exact rfl)); all_goals (intro hb; first | (cases hb; done) | ((try rw [hb]); (try simp only [decide_eq_true_eq, decide_eq_false_iff_not, beq_iff_eq, bne_iff_ne, beq_eq_false_iff_ne, bne_eq_false_iff_eq, Int.not_lt, Int.not_le, Bool.not_eq_true', Bool.not_eq_false'] at hb)))) | (simp only [doneH]; simp only [ressK, resK, wrapR, go_sem, Nat.reduceAdd, Nat.reduceMul, Nat.reduceEqDiff, Nat.reduceLT, reduceIte, reduceCtorEq, hO, Nat.add_eq_left, Nat.left_eq_add, Nat.add_assoc, Nat.reduceAdd, if_false, if_true]) | fail)
      have h9 := hQ H N2 O hO hfr ⟨hnO, by omega⟩
      rw [hlen] at h9
      exact h9
  · have hno : ¬ VF z [] := fun h => hz h.1
    have eA : duA z = [] := by unfold duA; rw [if_neg hz]
    rw [eA] at hQ
    refine awp_unroll 1 ?_
    simp only [AU]
    have g0 : upd h n (some ⟨true, .ints .i64 []⟩) n = some ⟨true, .ints .i64 []⟩ := upd_same _ _ _


    repeat' (first | refine awp_seq_k fun K hK => ?_ | ((with_reducible refine hK _ ?_); clear hK K) | ((with_reducible refine aord_plain fun K hK => ?_); simp only [go_sem, Nat.reduceAdd, Nat.reduceMul, Nat.reduceEqDiff, Nat.reduceLT, reduceIte, reduceCtorEq, mat.matL, DV.agg.injEq]) | refine awp_block ?_ | (refine awp_region tabOk rfl ?_; simp only [prep, pickO, List.map_cons, List.map_nil, List.getElem?_toArray, List.getElem?_cons_succ, List.getElem?_cons_zero, Option.bind_some, Option.map_some]) | ((with_reducible refine And.intro (?_ : enters Try.prog 13) ?_); (focus exact Try.call13); (refine callX_satH implBestQ_sat ?_); simp only [go_sem, and_assoc, List.nil_append, List.append_nil, List.cons_append, Nat.reduceEqDiff, reduceIte, reduceCtorEq, mat.matL, DV.agg.injEq]) | fail)
    refine ⟨true, [], rfl, rfl, rfl, by simp, fun N2 hN2 => ?_⟩
    rw [bqA_no (fun h => hno h.1)]
    repeat' (first | refine awp_seq_k fun K hK => ?_ | ((with_reducible refine hK _ ?_); clear hK K) | ((with_reducible refine aord_plain fun K hK => ?_); simp only [go_sem, Nat.reduceAdd, Nat.reduceMul, Nat.reduceEqDiff, Nat.reduceLT, reduceIte, reduceCtorEq, mat.matL, DV.agg.injEq]) | ((first | with_reducible refine aord_nil ?_ | refine awp_skip ?_ | refine awp_exit ?_ | refine awp_ret ?_); try simp only [thenA_normal, thenA_exit, thenA_goto, thenA_ret, blockA_normal, blockA_same, blockA_exit, blockA_goto, blockA_ret, Nat.reduceEqDiff, if_false, if_true, reduceIte]) | (refine awp_region tabOk rfl ?_; simp only [prep, pickO, List.map_cons, List.map_nil, List.getElem?_toArray, List.getElem?_cons_succ, List.getElem?_cons_zero, Option.bind_some, Option.map_some]) | ((with_reducible apply awp_cond); (focus (simp only [St.ev, St.set, upd, Nat.reduceEqDiff, reduceIte, if_false, if_true]; exact rfl)); all_goals (intro hb; first | (cases hb; done) | ((try rw [hb]); (try simp only [decide_eq_true_eq, decide_eq_false_iff_not, beq_iff_eq, bne_iff_ne, beq_eq_false_iff_ne, bne_eq_false_iff_eq, Int.not_lt, Int.not_le, Bool.not_eq_true', Bool.not_eq_false'] at hb)))) | (simp only [doneH]; simp only [ressK, resK, wrapR, go_sem, Nat.reduceAdd, Nat.reduceMul, Nat.reduceEqDiff, Nat.reduceLT, reduceIte, reduceCtorEq]) | fail)
    exact hQ _ N2 n g0 (fun u hu => upd_ne _ _ (by omega)) ⟨Nat.le_refl _, by omega⟩

-- awp_region_tree %satH
theorem more_sat : SatH Try.prog 69 (fun al h n K => ∃ (A : Nat) (b : Bool) (fs : List (Int × Int)) (a c : Int), al = [.sl A 0 fs.length 2 none, .val (.int .i64 (a)), .val (.int .i64 (c))] ∧ (h A = some ⟨b, .ints .i64 (flF fs)⟩) ∧ (fs.length ≤ 100) ∧ ∀ (H : Hp) (N O : Nat), H O = some ⟨true, .ints .i64 (flF (fs ++ [(a, c)]))⟩ → (∀ u, u < n → H u = h u) → n ≤ O ∧ O < N → K (.sl O 0 (fs ++ [(a, c)]).length 2 none) (H) (N)) := by
  refine satH_intro tabOk Try.func69 rfl 15 rfl [.tmp 6] rfl ?_
  rintro F W h n al K0 ⟨A, b, fs, a, c, rfl, hA, hl, hQ⟩
  refine ⟨Nat.le_of_ble_eq_true rfl, fun m0 hm0 hcl hlt => ?_⟩
  simp only [initT]
  have hAn := (hcl A _ hA).1
  have hfl := flF_len fs
  have e4 : flF (fs ++ [(a, c)]) = flF fs ++ [a, c] := by rw [flF_app]; rfl
  have e5 : (fs ++ [(a, c)]).length = fs.length + 1 := by rw [List.length_append]; rfl
  have m1 : (A = n) = False := eq_false (by omega)
  have m2 : (n = A) = False := eq_false (by omega)
  have m3 : ∀ k, (A = n + k) = False := fun k => eq_false (by omega)
  have m4 : ∀ k, (n + k = A) = False := fun k => eq_false (by omega)


  repeat' (first | refine awp_seq_k fun K hK => ?_ | ((with_reducible refine hK _ ?_); clear hK K) | ((with_reducible refine aord_plain fun K hK => ?_); simp only [go_sem, Nat.reduceAdd, Nat.reduceMul, Nat.reduceEqDiff, Nat.reduceLT, reduceIte, reduceCtorEq, hA, m1, m2, m3, m4, Nat.add_eq_left, Nat.left_eq_add, Nat.add_assoc, Nat.reduceAdd, if_false, if_true, hA, m1, m2, m3, m4, mat.matL, DV.agg.injEq]) | ((first | with_reducible refine aord_nil ?_ | refine awp_skip ?_ | refine awp_exit ?_ | refine awp_ret ?_); try simp only [thenA_normal, thenA_exit, thenA_goto, thenA_ret, blockA_normal, blockA_same, blockA_exit, blockA_goto, blockA_ret, Nat.reduceEqDiff, if_false, if_true, reduceIte]) | (refine awp_region tabOk rfl ?_; simp only [prep, pickO, List.map_cons, List.map_nil, List.getElem?_toArray, List.getElem?_cons_succ, List.getElem?_cons_zero, Option.bind_some, Option.map_some]) | fail)
  all_goals (
    refine ⟨_, _, ⟨rfl, rfl⟩, Nat.le_of_ble_eq_true rfl, ?_⟩
    (try dsimp only))
  repeat' (first | ((with_reducible refine hK _ ?_); clear hK K) | ((with_reducible refine aord_plain fun K hK => ?_); simp only [go_sem, Nat.reduceAdd, Nat.reduceMul, Nat.reduceEqDiff, Nat.reduceLT, reduceIte, reduceCtorEq, hA, m1, m2, m3, m4, Nat.add_eq_left, Nat.left_eq_add, Nat.add_assoc, Nat.reduceAdd, if_false, if_true, hA, m1, m2, m3, m4, mat.matL, DV.agg.injEq]) | fail)
  by_cases h0 : fs = []
  · subst h0
    refine aAppend_zero rfl rfl ?_
    (try dsimp only)
    repeat' (first | ((with_reducible refine hK _ ?_); clear hK K) | ((with_reducible refine aord_plain fun K hK => ?_); simp only [go_sem, Nat.reduceAdd, Nat.reduceMul, Nat.reduceEqDiff, Nat.reduceLT, reduceIte, reduceCtorEq, hA, m1, m2, m3, m4, Nat.add_eq_left, Nat.left_eq_add, Nat.add_assoc, Nat.reduceAdd, if_false, if_true, hA, m1, m2, m3, m4, mat.matL, DV.agg.injEq]) | (simp only [rBuild]; simp only [fillA, Nat.reduceLeDiff, List.getElem?_cons_zero, List.getElem?_cons_succ, List.drop_succ_cons, List.drop_nil, List.take_nil, List.cons_append, Option.isSome_some, go_sem, Nat.reduceAdd, Nat.reduceMul, Nat.reduceEqDiff, Nat.reduceLT, reduceIte, reduceCtorEq, hA, m1, m2, m3, m4, Nat.add_eq_left, Nat.left_eq_add, Nat.add_assoc, Nat.reduceAdd, if_false, if_true]) | fail)
    all_goals (refine ⟨_, _, ⟨rfl, rfl⟩, Nat.le_of_ble_eq_true rfl, ?_⟩; (try dsimp only))
    repeat' (first | ((with_reducible refine hK _ ?_); clear hK K) | ((with_reducible refine aord_plain fun K hK => ?_); simp only [go_sem, Nat.reduceAdd, Nat.reduceMul, Nat.reduceEqDiff, Nat.reduceLT, reduceIte, reduceCtorEq, hA, m1, m2, m3, m4, Nat.add_eq_left, Nat.left_eq_add, Nat.add_assoc, Nat.reduceAdd, if_false, if_true, hA, m1, m2, m3, m4, mat.matL, DV.agg.injEq]) | fail)
    refine aAppendE_ints rfl rfl rfl rfl (Nat.le_of_ble_eq_true rfl) (by decide) (by decide) (by (try dsimp only); (repeat (first | rw [upd_same] | rw [upd_ne _ _ (by omega)]))) (by (try dsimp only); (repeat (first | rw [upd_same] | rw [upd_ne _ _ (by omega)]))) rfl rfl (by decide) (by omega) ?_
    (try dsimp only)
    repeat' (first | ((with_reducible refine hK _ ?_); clear hK K) | ((with_reducible refine aord_plain fun K hK => ?_); simp only [go_sem, Nat.reduceAdd, Nat.reduceMul, Nat.reduceEqDiff, Nat.reduceLT, reduceIte, reduceCtorEq, hA, m1, m2, m3, m4, Nat.add_eq_left, Nat.left_eq_add, Nat.add_assoc, Nat.reduceAdd, if_false, if_true, hA, m1, m2, m3, m4, mat.matL, DV.agg.injEq]) | ((first | with_reducible refine aord_nil ?_ | refine awp_skip ?_ | refine awp_exit ?_ | refine awp_ret ?_); try simp only [thenA_normal, thenA_exit, thenA_goto, thenA_ret, blockA_normal, blockA_same, blockA_exit, blockA_goto, blockA_ret, Nat.reduceEqDiff, if_false, if_true, reduceIte]) | (simp only [doneH]; simp only [ressK, resK, wrapR, go_sem, Nat.reduceAdd, Nat.reduceMul, Nat.reduceEqDiff, Nat.reduceLT, reduceIte, reduceCtorEq, hA, m1, m2, m3, m4, Nat.add_eq_left, Nat.left_eq_add, Nat.add_assoc, Nat.reduceAdd, if_false, if_true]) | fail)
    refine hQ _ _ _ ?_ ?_ ?_
    · rw [upd_same]; rfl
    · intro u hu
      repeat rw [upd_ne _ _ (by omega)]
    · omega
  · have hp0 : 0 < fs.length := List.length_pos_iff.2 h0
    refine aAppendE_ints rfl rfl rfl rfl (Nat.le_of_ble_eq_true rfl) (by decide) (by decide) (by rw [upd_ne _ _ (by omega)]; exact hA) (upd_same _ _ _) rfl hfl hp0 (by omega) ?_
    (try dsimp only)
    repeat' (first | ((with_reducible refine hK _ ?_); clear hK K) | ((with_reducible refine aord_plain fun K hK => ?_); simp only [go_sem, Nat.reduceAdd, Nat.reduceMul, Nat.reduceEqDiff, Nat.reduceLT, reduceIte, reduceCtorEq, hA, m1, m2, m3, m4, Nat.add_eq_left, Nat.left_eq_add, Nat.add_assoc, Nat.reduceAdd, if_false, if_true, hA, m1, m2, m3, m4, mat.matL, DV.agg.injEq]) | (simp only [rBuild]; simp only [fillA, Nat.reduceLeDiff, List.getElem?_cons_zero, List.getElem?_cons_succ, List.drop_succ_cons, List.drop_nil, List.take_nil, List.cons_append, Option.isSome_some, go_sem, Nat.reduceAdd, Nat.reduceMul, Nat.reduceEqDiff, Nat.reduceLT, reduceIte, reduceCtorEq, hA, m1, m2, m3, m4, Nat.add_eq_left, Nat.left_eq_add, Nat.add_assoc, Nat.reduceAdd, if_false, if_true]) | fail)
    all_goals (refine ⟨_, _, ⟨rfl, rfl⟩, Nat.le_of_ble_eq_true rfl, ?_⟩; (try dsimp only))
    repeat' (first | ((with_reducible refine hK _ ?_); clear hK K) | ((with_reducible refine aord_plain fun K hK => ?_); simp only [go_sem, Nat.reduceAdd, Nat.reduceMul, Nat.reduceEqDiff, Nat.reduceLT, reduceIte, reduceCtorEq, hA, m1, m2, m3, m4, Nat.add_eq_left, Nat.left_eq_add, Nat.add_assoc, Nat.reduceAdd, if_false, if_true, hA, m1, m2, m3, m4, mat.matL, DV.agg.injEq]) | fail)
    refine aAppendE_ints rfl rfl rfl rfl (Nat.le_of_ble_eq_true rfl) (by decide) (by decide) (by (try dsimp only); (repeat (first | rw [upd_same] | rw [upd_ne _ _ (by omega)]))) (by (try dsimp only); (repeat (first | rw [upd_same] | rw [upd_ne _ _ (by omega)]))) hfl rfl (by decide) (by omega) ?_
    (try dsimp only)
    repeat' (first | ((with_reducible refine hK _ ?_); clear hK K) | ((with_reducible refine aord_plain fun K hK => ?_); simp only [go_sem, Nat.reduceAdd, Nat.reduceMul, Nat.reduceEqDiff, Nat.reduceLT, reduceIte, reduceCtorEq, hA, m1, m2, m3, m4, Nat.add_eq_left, Nat.left_eq_add, Nat.add_assoc, Nat.reduceAdd, if_false, if_true, hA, m1, m2, m3, m4, mat.matL, DV.agg.injEq]) | ((first | with_reducible refine aord_nil ?_ | refine awp_skip ?_ | refine awp_exit ?_ | refine awp_ret ?_); try simp only [thenA_normal, thenA_exit, thenA_goto, thenA_ret, blockA_normal, blockA_same, blockA_exit, blockA_goto, blockA_ret, Nat.reduceEqDiff, if_false, if_true, reduceIte]) | (simp only [doneH]; simp only [ressK, resK, wrapR, go_sem, Nat.reduceAdd, Nat.reduceMul, Nat.reduceEqDiff, Nat.reduceLT, reduceIte, reduceCtorEq, hA, m1, m2, m3, m4, Nat.add_eq_left, Nat.left_eq_add, Nat.add_assoc, Nat.reduceAdd, if_false, if_true]) | fail)
    rw [e5] at hQ
    refine hQ _ _ _ ?_ ?_ ?_
    · rw [upd_same, e4]
    · intro u hu
      repeat rw [upd_ne _ _ (by omega)]
    · omega

theorem specDuel_sat : SatH Try.prog 28 (fun al h n K => ∃ (z : Int), al = [.val (.int .i64 (z))] ∧ ∀ (H : Hp) (N O : Nat), H O = some ⟨true, .ints .i64 (flF (duA z))⟩ → (∀ u, u < n → H u = h u) → n ≤ O ∧ O < N → K (.sl O 0 (duA z).length 2 none) (H) (N)) := by
  refine satH_intro tabOk Try.func28 rfl 46 rfl [.tmp 2] rfl ?_
  rintro F W h n al K0 ⟨z, rfl, hQ⟩
  refine ⟨Nat.le_of_ble_eq_true rfl, fun m0 hm0 hcl hlt => ?_⟩
  simp only [initT]
  by_cases hz : 0 ≤ z ∧ z ≤ 5
  · obtain ⟨d, rfl⟩ : ∃ d : Nat, z = d := ⟨z.toNat, by omega⟩
    have hd5 : d ≤ 5 := by omega
    have hE7 := duE_le hd5
    have eA : duA d = duN d (duE d) := by unfold duA; rw [if_pos hz]; rfl
    rw [eA] at hQ
    have q1 : decide ((0 : Int) ≤ (d : Int)) = true := decide_eq_true (by omega)
    have q2 : decide ((d : Int) ≤ 5) = true := decide_eq_true (by omega)

    repeat' (first | refine awp_seq_k fun K hK => ?_ | ((with_reducible refine hK _ ?_); clear hK K) | ((with_reducible refine aord_plain fun K hK => ?_); simp only [go_sem, Nat.reduceAdd, Nat.reduceMul, Nat.reduceEqDiff, Nat.reduceLT, reduceIte, reduceCtorEq, q1, q2, Bool.and_self, Bool.not_true, mat.matL, DV.agg.injEq]) | ((first | with_reducible refine aord_nil ?_ | refine awp_skip ?_ | refine awp_exit ?_ | refine awp_ret ?_); try simp only [thenA_normal, thenA_exit, thenA_goto, thenA_ret, blockA_normal, blockA_same, blockA_exit, blockA_goto, blockA_ret, Nat.reduceEqDiff, if_false, if_true, reduceIte]) | (refine awp_region tabOk rfl ?_; simp only [prep, pickO, List.map_cons, List.map_nil, List.getElem?_toArray, List.getElem?_cons_succ, List.getElem?_cons_zero, Option.bind_some, Option.map_some]) | ((with_reducible apply awp_cond); (focus (simp only [St.ev, St.set, upd, Nat.reduceEqDiff, reduceIte, if_false, if_true]; exact rfl)); all_goals (intro hb; first | (cases hb; done) | ((try rw [hb]); (try simp only [decide_eq_true_eq, decide_eq_false_iff_not, beq_iff_eq, bne_iff_ne, beq_eq_false_iff_ne, bne_eq_false_iff_eq, Int.not_lt, Int.not_le, Bool.not_eq_true', Bool.not_eq_false'] at hb)))) | ((with_reducible refine And.intro (?_ : enters Try.prog 65) ?_); (focus exact Try.call65); (refine callX_sat inRange_sat ?_); simp only [go_sem, and_assoc, List.nil_append, List.append_nil, List.cons_append, Nat.reduceEqDiff, reduceIte, reduceCtorEq, q1, q2, Bool.and_self, Bool.not_true, mat.matL, DV.agg.injEq]) | fail)
    refine ⟨_, _, ⟨rfl, rfl⟩, Nat.le_of_ble_eq_true rfl, ?_⟩
    dsimp only
    repeat' (first | ((with_reducible refine hK _ ?_); clear hK K) | ((with_reducible refine aord_plain fun K hK => ?_); simp only [go_sem, Nat.reduceAdd, Nat.reduceMul, Nat.reduceEqDiff, Nat.reduceLT, reduceIte, reduceCtorEq, q1, q2, Bool.and_self, Bool.not_true, mat.matL, DV.agg.injEq]) | refine awp_block ?_ | ((first | with_reducible refine aord_nil ?_ | refine awp_skip ?_ | refine awp_exit ?_ | refine awp_ret ?_); try simp only [thenA_normal, thenA_exit, thenA_goto, thenA_ret, blockA_normal, blockA_same, blockA_exit, blockA_goto, blockA_ret, Nat.reduceEqDiff, if_false, if_true, reduceIte]) | fail)
    refine awp_loop (fun q : Hp × Nat × Nat × Nat => ⟨upd (upd bot 3 (.sl q.2.2.1 0 q.2.2.2 2 none)) 0 (.val (.int .i64 d)), q.1, q.2.1⟩) (fun q => q.2.2.2 ≤ duE d ∧ q.1 q.2.2.1 = some ⟨true, .ints .i64 (flF (duN d q.2.2.2))⟩ ∧ (∀ u, u < n → q.1 u = h u) ∧ n ≤ q.2.2.1 ∧ q.2.2.1 < q.2.1) (fun q => duE d - q.2.2.2) (upd h n (some ⟨true, .ints .i64 []⟩), n + 1, n, 0) ⟨Nat.zero_le _, upd_same _ _ _, fun u hu => upd_ne _ _ (by omega), Nat.le_refl _, by dsimp only; omega⟩ ?_ ?_
    · exact Wk.sub (tsd (tsd tsd0 rfl) rfl) (fun _ _ h => h) rfl
    rintro ⟨H, N, O, k⟩ ⟨hkE, hO, hfr, hnO, hON⟩
    dsimp only at hkE hO hfr hnO hON ⊢
    obtain ⟨hlen, hV, hlt6, heq⟩ := du_all hd5 hkE
    have hfl := flF_len (duN d k)
    have hup := fun hk : k < duE d => du_up hd5 hk
    generalize hF : duN d k = F at *
    have hi : itemsIn d F := by have := hV.2.2.1; rwa [Int.toNat_natCast] at this
    have hord := ordersOf_sat hd5 (fun i j => wT F d i j) d
    have hcap := orO_cap (d : Int) F
    have hrw : ∀ j, ((orO d F).getD j []).length ≤ 1000 := fun j => by have := orO_row (z := d) (fs := F) j; omega
    have m1 : (O = N) = False := eq_false (by omega)
    have m2 : (N = O) = False := eq_false (by omega)
    have m3 : ∀ k, (O = N + k) = False := fun k => eq_false (by omega)
    have m4 : ∀ k, (N + k = O) = False := fun k => eq_false (by omega)


    repeat' (first | refine awp_seq_k fun K hK => ?_ | ((with_reducible refine hK _ ?_); clear hK K) | ((with_reducible refine aord_plain fun K hK => ?_); simp only [go_sem, Nat.reduceAdd, Nat.reduceMul, Nat.reduceEqDiff, Nat.reduceLT, reduceIte, reduceCtorEq, hO, m1, m2, m3, m4, Nat.add_eq_left, Nat.left_eq_add, Nat.add_assoc, Nat.reduceAdd, if_false, if_true, hO, m1, m2, m3, m4, mat.matL, DV.agg.injEq]) | refine awp_block ?_ | (refine awp_region tabOk rfl ?_; simp only [prep, pickO, List.map_cons, List.map_nil, List.getElem?_toArray, List.getElem?_cons_succ, List.getElem?_cons_zero, Option.bind_some, Option.map_some]) | ((with_reducible refine And.intro ?_ ?_); (focus omega)) | ((with_reducible refine And.intro (?_ : enters Try.prog 46) ?_); (focus exact Try.call46); (refine callX_satH specReach_sat ?_); simp only [go_sem, and_assoc, List.nil_append, List.append_nil, List.cons_append, Nat.reduceEqDiff, reduceIte, reduceCtorEq, hO, m1, m2, m3, m4, Nat.add_eq_left, Nat.left_eq_add, Nat.add_assoc, Nat.reduceAdd, if_false, if_true, hO, m1, m2, m3, m4, mat.matL, DV.agg.injEq]) | fail)
    refine ⟨d, rfl, true, F, hlen.symm, rfl, rfl, hd5, by omega, hi, fun H1 M1 O1 f1 hM hfr1 hNM hNO => ?_⟩
    have HN : H1 N = some ⟨true, .ints .i64 []⟩ := (hfr1 N (by omega)).trans (if_pos rfl)
    have HO1 : H1 O = some ⟨true, .ints .i64 (flF F)⟩ := (hfr1 O (by omega)).trans (by rw [if_neg (by omega)]; exact hO)
    have hfr3 : ∀ u, u < n → H1 u = h u := fun u hu => by rw [hfr1 u (by omega), if_neg (by omega)]; exact hfr u hu
    clear hfr1


    repeat' (first | ((with_reducible refine hK _ ?_); clear hK K) | ((with_reducible refine aord_plain fun K hK => ?_); simp only [go_sem, Nat.reduceAdd, Nat.reduceMul, Nat.reduceEqDiff, Nat.reduceLT, reduceIte, reduceCtorEq, HN, Nat.add_eq_left, Nat.left_eq_add, Nat.add_assoc, Nat.reduceAdd, if_false, if_true, HN, mat.matL, DV.agg.injEq]) | ((with_reducible refine And.intro (?_ : enters Try.prog 45) ?_); (focus exact Try.call45); (refine callX_satH hord ?_); simp only [go_sem, and_assoc, List.nil_append, List.append_nil, List.cons_append, Nat.reduceEqDiff, reduceIte, reduceCtorEq, HN, Nat.add_eq_left, Nat.left_eq_add, Nat.add_assoc, Nat.reduceAdd, if_false, if_true, HN, mat.matL, DV.agg.injEq]) | fail)
    refine ⟨O1, true, [], rfl, rfl, rfl, rfl, f1, hM, Beg.nil, by simp, by rw [← orO_yes hV]; exact hcap, fun H2 N2 P2 g2 r1 r2 r3 r4 => ?_⟩
    rw [← orO_yes hV] at r1 r4 ⊢
    have hPN := r1.outn
    have HO2 : H2 O = some ⟨true, .ints .i64 (flF F)⟩ := by rw [r2 O (by omega)]; exact HO1
    have hfr2 : ∀ u, u < n → H2 u = h u := fun u hu => by rw [r2 u (by omega)]; exact hfr3 u hu
    rcases Nat.lt_or_ge k (duE d) with hk | hk
    · obtain ⟨h2, b1, b2, b3⟩ := hlt6 hk
      have hup := hup hk
      have ebq := bq_same (s := (0, 0, ((orO d F).length : Int))) (t := (-1, -1, ((orO d F).length : Int))) hV h2 rfl rfl
      have e1 : decide ((((orO d F).length : Nat) : Int) < 2) = false := decide_eq_false (by omega)


      repeat' (first | refine awp_seq_k fun K hK => ?_ | ((with_reducible refine hK _ ?_); clear hK K) | ((with_reducible refine aord_plain fun K hK => ?_); simp only [go_sem, Nat.reduceAdd, Nat.reduceMul, Nat.reduceEqDiff, Nat.reduceLT, reduceIte, reduceCtorEq, e1, Nat.add_eq_left, Nat.left_eq_add, Nat.add_assoc, Nat.reduceAdd, if_false, if_true, e1, mat.matL, DV.agg.injEq]) | ((first | with_reducible refine aord_nil ?_ | refine awp_skip ?_ | refine awp_exit ?_ | refine awp_ret ?_); try simp only [thenA_normal, thenA_exit, thenA_goto, thenA_ret, blockA_normal, blockA_same, blockA_exit, blockA_goto, blockA_ret, Nat.reduceEqDiff, if_false, if_true, reduceIte]) | (refine awp_region tabOk rfl ?_; simp only [prep, pickO, List.map_cons, List.map_nil, List.getElem?_toArray, List.getElem?_cons_succ, List.getElem?_cons_zero, Option.bind_some, Option.map_some]) | ((with_reducible apply awp_cond); (focus (simp only [St.ev, St.set, upd, Nat.reduceEqDiff, reduceIte, if_false, if_true, e1, Nat.add_eq_left, Nat.left_eq_add, Nat.add_assoc, Nat.reduceAdd, if_false, if_true]; exact rfl)); all_goals (intro hb; first | (cases hb; done) | ((try rw [hb]); (try simp only [decide_eq_true_eq, decide_eq_false_iff_not, beq_iff_eq, bne_iff_ne, beq_eq_false_iff_ne, bne_eq_false_iff_eq, Int.not_lt, Int.not_le, Bool.not_eq_true', Bool.not_eq_false'] at hb)))) | ((with_reducible refine And.intro (?_ : enters Try.prog 47) ?_); (focus exact Try.call47); (refine callX_satH specBestQ_sat ?_); simp only [go_sem, and_assoc, List.nil_append, List.append_nil, List.cons_append, Nat.reduceEqDiff, reduceIte, reduceCtorEq, e1, Nat.add_eq_left, Nat.left_eq_add, Nat.add_assoc, Nat.reduceAdd, if_false, if_true, e1, mat.matL, DV.agg.injEq]) | fail)
      refine ⟨d, rfl, g2, F, rfl, r1, hV, ?_⟩
      rw [← ebq]
      clear ebq
      generalize hx : (bqTo (orO d F) d d (0, 0, ((orO d F).length : Int))).1 = x at *
      generalize hy : (bqTo (orO d F) d d (0, 0, ((orO d F).length : Int))).2.1 = y at *
      have hS : spI d x y := ⟨⟨⟨by omega, by omega⟩, by omega, by omega⟩, by omega⟩
      have hah := sp_ah hV hS
      have hsum := sp_sum hV hS


      repeat' (first | refine awp_seq_k fun K hK => ?_ | ((with_reducible refine hK _ ?_); clear hK K) | ((with_reducible refine aord_plain fun K hK => ?_); simp only [go_sem, Nat.reduceAdd, Nat.reduceMul, Nat.reduceEqDiff, Nat.reduceLT, reduceIte, reduceCtorEq, mat.matL, DV.agg.injEq]) | ((first | with_reducible refine aord_nil ?_ | refine awp_skip ?_ | refine awp_exit ?_ | refine awp_ret ?_); try simp only [thenA_normal, thenA_exit, thenA_goto, thenA_ret, blockA_normal, blockA_same, blockA_exit, blockA_goto, blockA_ret, Nat.reduceEqDiff, if_false, if_true, reduceIte]) | (refine awp_region tabOk rfl ?_; simp only [prep, pickO, List.map_cons, List.map_nil, List.getElem?_toArray, List.getElem?_cons_succ, List.getElem?_cons_zero, Option.bind_some, Option.map_some]) | ((with_reducible refine And.intro (?_ : enters Try.prog 68) ?_); (focus exact Try.call68); (refine callX_satH specSplit_sat ?_); simp only [go_sem, and_assoc, List.nil_append, List.append_nil, List.cons_append, Nat.reduceEqDiff, reduceIte, reduceCtorEq, mat.matL, DV.agg.injEq]) | fail)
      refine ⟨g2, orO d F, rfl, r1, by omega, hrw, by omega, ?_⟩
      rw [hah]
      clear hlt6 heq
      by_cases hle : ((orO d F).filter (agB [(y, x)])).length ≤ ((orO d F).filter (agB [(x, y)])).length
      · have hE2 : duN d (k + 1) = F ++ [(x, y)] := by rw [hup, if_pos hle]
        have el : (F ++ [(x, y)]).length = k + 1 := by rw [List.length_append, hlen]; rfl
        have e5 : decide (((orO d F).length : Int) - ((((orO d F).filter (agB [(x, y)])).length : Nat) : Int) ≤ ((((orO d F).filter (agB [(x, y)])).length : Nat) : Int)) = true := decide_eq_true (by omega)


        repeat' (first | refine awp_seq_k fun K hK => ?_ | ((with_reducible refine hK _ ?_); clear hK K) | ((with_reducible refine aord_plain fun K hK => ?_); simp only [go_sem, Nat.reduceAdd, Nat.reduceMul, Nat.reduceEqDiff, Nat.reduceLT, reduceIte, reduceCtorEq, HO2, e5, Nat.add_eq_left, Nat.left_eq_add, Nat.add_assoc, Nat.reduceAdd, if_false, if_true, HO2, e5, mat.matL, DV.agg.injEq]) | ((first | with_reducible refine aord_nil ?_ | refine awp_skip ?_ | refine awp_exit ?_ | refine awp_ret ?_); try simp only [thenA_normal, thenA_exit, thenA_goto, thenA_ret, blockA_normal, blockA_same, blockA_exit, blockA_goto, blockA_ret, Nat.reduceEqDiff, if_false, if_true, reduceIte]) | (refine awp_region tabOk rfl ?_; simp only [prep, pickO, List.map_cons, List.map_nil, List.getElem?_toArray, List.getElem?_cons_succ, List.getElem?_cons_zero, Option.bind_some, Option.map_some]) | ((with_reducible apply awp_cond); (focus (simp only [St.ev, St.set, upd, Nat.reduceEqDiff, reduceIte, if_false, if_true, HO2, e5, Nat.add_eq_left, Nat.left_eq_add, Nat.add_assoc, Nat.reduceAdd, if_false, if_true]; exact rfl)); all_goals (intro hb; first | (cases hb; done) | ((try rw [hb]); (try simp only [decide_eq_true_eq, decide_eq_false_iff_not, beq_iff_eq, bne_iff_ne, beq_eq_false_iff_ne, bne_eq_false_iff_eq, Int.not_lt, Int.not_le, Bool.not_eq_true', Bool.not_eq_false'] at hb)))) | ((with_reducible refine And.intro (?_ : enters Try.prog 69) ?_); (focus exact Try.call69); (refine callX_satH more_sat ?_); simp only [go_sem, and_assoc, List.nil_append, List.append_nil, List.cons_append, Nat.reduceEqDiff, reduceIte, reduceCtorEq, HO2, e5, Nat.add_eq_left, Nat.left_eq_add, Nat.add_assoc, Nat.reduceAdd, if_false, if_true, HO2, e5, mat.matL, DV.agg.injEq]) | fail)
        refine ⟨true, F, hlen.symm, rfl, rfl, by omega, fun H3 N3 O3 s1 s2 s3 => ?_⟩
        (try rw [el])
        (try rw [hlen])


        repeat' (first | ((with_reducible refine hK _ ?_); clear hK K) | ((with_reducible refine aord_plain fun K hK => ?_); simp only [go_sem, Nat.reduceAdd, Nat.reduceMul, Nat.reduceEqDiff, Nat.reduceLT, reduceIte, reduceCtorEq, mat.matL, DV.agg.injEq]) | ((first | with_reducible refine aord_nil ?_ | refine awp_skip ?_ | refine awp_exit ?_ | refine awp_ret ?_); try simp only [thenA_normal, thenA_exit, thenA_goto, thenA_ret, blockA_normal, blockA_same, blockA_exit, blockA_goto, blockA_ret, Nat.reduceEqDiff, if_false, if_true, reduceIte]) | fail)
        refine ⟨(H3, N3, O3, k + 1), ⟨by dsimp only; omega, by dsimp only; rw [hE2]; exact s1, fun u hu => by dsimp only; rw [s2 u (by omega)]; exact hfr2 u hu, by dsimp only; omega, by dsimp only; omega⟩, by dsimp only; omega, Wk.sub (tsd (tsd tsd0 rfl) rfl) (fun _ _ h => h) rfl⟩
      · have hE2 : duN d (k + 1) = F ++ [(y, x)] := by rw [hup, if_neg hle]
        have el : (F ++ [(y, x)]).length = k + 1 := by rw [List.length_append, hlen]; rfl
        have e5 : decide (((orO d F).length : Int) - ((((orO d F).filter (agB [(x, y)])).length : Nat) : Int) ≤ ((((orO d F).filter (agB [(x, y)])).length : Nat) : Int)) = false := decide_eq_false (by omega)


        repeat' (first | refine awp_seq_k fun K hK => ?_ | ((with_reducible refine hK _ ?_); clear hK K) | ((with_reducible refine aord_plain fun K hK => ?_); simp only [go_sem, Nat.reduceAdd, Nat.reduceMul, Nat.reduceEqDiff, Nat.reduceLT, reduceIte, reduceCtorEq, HO2, e5, Nat.add_eq_left, Nat.left_eq_add, Nat.add_assoc, Nat.reduceAdd, if_false, if_true, HO2, e5, mat.matL, DV.agg.injEq]) | ((first | with_reducible refine aord_nil ?_ | refine awp_skip ?_ | refine awp_exit ?_ | refine awp_ret ?_); try simp only [thenA_normal, thenA_exit, thenA_goto, thenA_ret, blockA_normal, blockA_same, blockA_exit, blockA_goto, blockA_ret, Nat.reduceEqDiff, if_false, if_true, reduceIte]) | (refine awp_region tabOk rfl ?_; simp only [prep, pickO, List.map_cons, List.map_nil, List.getElem?_toArray, List.getElem?_cons_succ, List.getElem?_cons_zero, Option.bind_some, Option.map_some]) | ((with_reducible apply awp_cond); (focus (simp only [St.ev, St.set, upd, Nat.reduceEqDiff, reduceIte, if_false, if_true, HO2, e5, Nat.add_eq_left, Nat.left_eq_add, Nat.add_assoc, Nat.reduceAdd, if_false, if_true]; exact rfl)); all_goals (intro hb; first | (cases hb; done) | ((try rw [hb]); (try simp only [decide_eq_true_eq, decide_eq_false_iff_not, beq_iff_eq, bne_iff_ne, beq_eq_false_iff_ne, bne_eq_false_iff_eq, Int.not_lt, Int.not_le, Bool.not_eq_true', Bool.not_eq_false'] at hb)))) | ((with_reducible refine And.intro (?_ : enters Try.prog 69) ?_); (focus exact Try.call69); (refine callX_satH more_sat ?_); simp only [go_sem, and_assoc, List.nil_append, List.append_nil, List.cons_append, Nat.reduceEqDiff, reduceIte, reduceCtorEq, HO2, e5, Nat.add_eq_left, Nat.left_eq_add, Nat.add_assoc, Nat.reduceAdd, if_false, if_true, HO2, e5, mat.matL, DV.agg.injEq]) | fail)
        refine ⟨true, F, hlen.symm, rfl, rfl, by omega, fun H3 N3 O3 s1 s2 s3 => ?_⟩
        (try rw [el])
        (try rw [hlen])


        repeat' (first | ((with_reducible refine hK _ ?_); clear hK K) | ((with_reducible refine aord_plain fun K hK => ?_); simp only [go_sem, Nat.reduceAdd, Nat.reduceMul, Nat.reduceEqDiff, Nat.reduceLT, reduceIte, reduceCtorEq, mat.matL, DV.agg.injEq]) | ((first | with_reducible refine aord_nil ?_ | refine awp_skip ?_ | refine awp_exit ?_ | refine awp_ret ?_); try simp only [thenA_normal, thenA_exit, thenA_goto, thenA_ret, blockA_normal, blockA_same, blockA_exit, blockA_goto, blockA_ret, Nat.reduceEqDiff, if_false, if_true, reduceIte]) | fail)
        refine ⟨(H3, N3, O3, k + 1), ⟨by dsimp only; omega, by dsimp only; rw [hE2]; exact s1, fun u hu => by dsimp only; rw [s2 u (by omega)]; exact hfr2 u hu, by dsimp only; omega, by dsimp only; omega⟩, by dsimp only; omega, Wk.sub (tsd (tsd tsd0 rfl) rfl) (fun _ _ h => h) rfl⟩
    · have ek : k = duE d := by omega
      have hone := heq ek
      have e1 : decide ((((orO d F).length : Nat) : Int) < 2) = true := decide_eq_true (by omega)
      rw [← ek, hF] at hQ


      repeat' (first | refine awp_seq_k fun K hK => ?_ | ((with_reducible refine hK _ ?_); clear hK K) | ((with_reducible refine aord_plain fun K hK => ?_); simp only [go_sem, Nat.reduceAdd, Nat.reduceMul, Nat.reduceEqDiff, Nat.reduceLT, reduceIte, reduceCtorEq, e1, Nat.add_eq_left, Nat.left_eq_add, Nat.add_assoc, Nat.reduceAdd, if_false, if_true, e1, mat.matL, DV.agg.injEq]) | ((first | with_reducible refine aord_nil ?_ | refine awp_skip ?_ | refine awp_exit ?_ | refine awp_ret ?_); try simp only [thenA_normal, thenA_exit, thenA_goto, thenA_ret, blockA_normal, blockA_same, blockA_exit, blockA_goto, blockA_ret, Nat.reduceEqDiff, if_false, if_true, reduceIte]) | (refine awp_region tabOk rfl ?_; simp only [prep, pickO, List.map_cons, List.map_nil, List.getElem?_toArray, List.getElem?_cons_succ, List.getElem?_cons_zero, Option.bind_some, Option.map_some]) | ((with_reducible apply awp_cond); (focus (simp only [St.ev, St.set, upd, Nat.reduceEqDiff, reduceIte, if_false, if_true, e1, Nat.add_eq_left, Nat.left_eq_add, Nat.add_assoc, Nat.reduceAdd, if_false, if_true]; exact rfl)); all_goals (intro hb; first | (cases hb; done) | ((try rw [hb]); (try simp only [decide_eq_true_eq, decide_eq_false_iff_not, beq_iff_eq, bne_iff_ne, beq_eq_false_iff_ne, bne_eq_false_iff_eq, Int.not_lt, Int.not_le, Bool.not_eq_true', Bool.not_eq_false'] at hb)))) | (simp only [doneH]; simp only [ressK, resK, wrapR, go_sem, Nat.reduceAdd, Nat.reduceMul, Nat.reduceEqDiff, Nat.reduceLT, reduceIte, reduceCtorEq, e1, Nat.add_eq_left, Nat.left_eq_add, Nat.add_assoc, Nat.reduceAdd, if_false, if_true]) | fail)
      have h9 := hQ H2 N2 O HO2 hfr2 ⟨hnO, by omega⟩
      rw [hlen] at h9
      exact h9
  · have eA : duA z = [] := by unfold duA; rw [if_neg hz]
    rw [eA] at hQ
    have g0 : upd h n (some ⟨true, .ints .i64 []⟩) n = some ⟨true, .ints .i64 []⟩ := upd_same _ _ _
    have q1 : (decide ((0 : Int) ≤ z) && decide (z ≤ 5)) = false := by
      rw [Bool.and_eq_false_iff, decide_eq_false_iff_not, decide_eq_false_iff_not]; omega


    repeat' ((fail_if_success (with_reducible refine isRetQ ?_)); (first | refine awp_seq_k fun K hK => ?_ | ((with_reducible refine hK _ ?_); clear hK K) | ((with_reducible refine aord_plain fun K hK => ?_); simp only [go_sem, Nat.reduceAdd, Nat.reduceMul, Nat.reduceEqDiff, Nat.reduceLT, reduceIte, reduceCtorEq, q1, Bool.not_false, mat.matL, DV.agg.injEq]) | ((first | with_reducible refine aord_nil ?_ | refine awp_skip ?_ | refine awp_exit ?_ | refine awp_ret ?_); try simp only [thenA_normal, thenA_exit, thenA_goto, thenA_ret, blockA_normal, blockA_same, blockA_exit, blockA_goto, blockA_ret, Nat.reduceEqDiff, if_false, if_true, reduceIte]) | (refine awp_region tabOk rfl ?_; simp only [prep, pickO, List.map_cons, List.map_nil, List.getElem?_toArray, List.getElem?_cons_succ, List.getElem?_cons_zero, Option.bind_some, Option.map_some]) | ((with_reducible apply awp_cond); (focus (simp only [St.ev, St.set, upd, Nat.reduceEqDiff, reduceIte, if_false, if_true]; exact rfl)); all_goals (intro hb; first | (cases hb; done) | ((try rw [hb]); (try simp only [decide_eq_true_eq, decide_eq_false_iff_not, beq_iff_eq, bne_iff_ne, beq_eq_false_iff_ne, bne_eq_false_iff_eq, Int.not_lt, Int.not_le, Bool.not_eq_true', Bool.not_eq_false'] at hb)))) | ((with_reducible refine And.intro (?_ : enters Try.prog 65) ?_); (focus exact Try.call65); (refine callX_sat inRange_sat ?_); simp only [go_sem, and_assoc, List.nil_append, List.append_nil, List.cons_append, Nat.reduceEqDiff, reduceIte, reduceCtorEq, q1, Bool.not_false, mat.matL, DV.agg.injEq]) | fail))
    all_goals (
      refine awp_nilE 2 2 (.ints .i64 []) rfl rfl (by simp only [St.ev, St.set, upd, Nat.reduceEqDiff, reduceIte, if_false, if_true]) ?_
      simp only [St.ev, St.set, upd, Nat.reduceEqDiff, reduceIte, if_false, if_true])
    repeat' (first | ((first | with_reducible refine aord_nil ?_ | refine awp_skip ?_ | refine awp_exit ?_ | refine awp_ret ?_); try simp only [thenA_normal, thenA_exit, thenA_goto, thenA_ret, blockA_normal, blockA_same, blockA_exit, blockA_goto, blockA_ret, Nat.reduceEqDiff, if_false, if_true, reduceIte]) | (simp only [doneH]; simp only [ressK, resK, wrapR, go_sem, Nat.reduceAdd, Nat.reduceMul, Nat.reduceEqDiff, Nat.reduceLT, reduceIte, reduceCtorEq]) | fail)
    all_goals exact hQ _ (n + 1) n g0 (fun u hu => upd_ne _ _ (by omega)) ⟨Nat.le_refl _, by omega⟩

theorem duA_len (z : Int) : (duA z).length ≤ 7 := by
  unfold duA
  split
  · rename_i hz
    obtain ⟨d, rfl⟩ : ∃ d : Nat, z = d := ⟨z.toNat, by omega⟩
    have hd5 : d ≤ 5 := by omega
    rw [Int.toNat_natCast, (du_all hd5 (Nat.le_refl _)).1]
    exact duE_le hd5
  · simp


theorem FnExactDuel_sat : Sat Try.prog 11 (fun ds Q => ∃ z : Int, ds = [.val (.int .i64 z)] ∧ i64r z ∧ Q (.val (.bool true))) := by
  refine sat_intro tabOk Try.func11 rfl 41 rfl [.tmp 2] rfl ?_
  rintro ds Q W ⟨z, rfl, hz, hQ⟩
  refine ⟨Nat.le_of_ble_eq_true rfl, ?_⟩
  simp only [initS, initT, mat.matL, mat, Cont.len]
  have hk7 := duA_len z
  have hkfl := flF_len (duA z)
  generalize hLk : duA z = L at *
  repeat' (first | refine awp_seq_k fun K hK => ?_ | ((with_reducible refine hK _ ?_); clear hK K) | ((with_reducible refine aord_plain fun K hK => ?_); simp only [go_sem, Nat.reduceAdd, Nat.reduceMul, Nat.reduceEqDiff, Nat.reduceLT, reduceIte, reduceCtorEq]) | ((first | with_reducible refine aord_nil ?_ | refine awp_skip ?_ | refine awp_exit ?_ | refine awp_ret ?_); try simp only [thenA_normal, thenA_exit, thenA_goto, thenA_ret, blockA_normal, blockA_same, blockA_exit, blockA_goto, blockA_ret, Nat.reduceEqDiff, if_false, if_true, reduceIte]) | (refine awp_region tabOk rfl ?_; simp only [prep, pickO, List.map_cons, List.map_nil, List.getElem?_toArray, List.getElem?_cons_succ, List.getElem?_cons_zero, Option.bind_some, Option.map_some]) | ((with_reducible refine And.intro (?_ : enters Try.prog 28) ?_); (focus exact Try.call28); (refine callX_satH specDuel_sat ?_); simp only [go_sem, and_assoc, List.nil_append, List.append_nil, List.cons_append, Nat.reduceEqDiff, reduceIte, reduceCtorEq]) | fail)
  intro H1 N1 O1 w1 w2 w3
  rw [hLk] at w1 ⊢
  have c3 : (O1 = N1) = False := eq_false (by omega)
  have c4 : (N1 = O1) = False := eq_false (by omega)
  clear w2


  repeat' (first | refine awp_seq_k fun K hK => ?_ | ((with_reducible refine hK _ ?_); clear hK K) | ((with_reducible refine aord_plain fun K hK => ?_); simp only [go_sem, Nat.reduceAdd, Nat.reduceMul, Nat.reduceEqDiff, Nat.reduceLT, reduceIte, reduceCtorEq, w1, c3, c4, Nat.add_eq_left, Nat.left_eq_add, Nat.add_assoc, Nat.reduceAdd, if_false, if_true, w1]) | ((first | with_reducible refine aord_nil ?_ | refine awp_skip ?_ | refine awp_exit ?_ | refine awp_ret ?_); try simp only [thenA_normal, thenA_exit, thenA_goto, thenA_ret, blockA_normal, blockA_same, blockA_exit, blockA_goto, blockA_ret, Nat.reduceEqDiff, if_false, if_true, reduceIte]) | (refine awp_region tabOk rfl ?_; simp only [prep, pickO, List.map_cons, List.map_nil, List.getElem?_toArray, List.getElem?_cons_succ, List.getElem?_cons_zero, Option.bind_some, Option.map_some]) | ((with_reducible refine And.intro (?_ : enters Try.prog 26) ?_); (focus exact Try.call26); (refine callX_satH implDuel_sat ?_); simp only [go_sem, and_assoc, List.nil_append, List.append_nil, List.cons_append, Nat.reduceEqDiff, reduceIte, reduceCtorEq, w1, c3, c4, Nat.add_eq_left, Nat.left_eq_add, Nat.add_assoc, Nat.reduceAdd, if_false, if_true, w1]) | fail)
  intro H2 N2 O2 v1 v2 v3
  rw [hLk] at v1 ⊢
  have HW2 : H2 O1 = some ⟨true, .ints .i64 (flF L)⟩ := (v2 O1 (by omega)).trans w1
  clear v2
  have eL : decide (L = L) = true := decide_eq_true rfl
  have d5 : (O1 = N2) = False := eq_false (by omega)
  have d6 : (N2 = O1) = False := eq_false (by omega)
  have d7 : (O2 = N2) = False := eq_false (by omega)
  have d8 : (N2 = O2) = False := eq_false (by omega)
  have d9 : (O1 = O2) = False := eq_false (by omega)
  have da : (O2 = O1) = False := eq_false (by omega)
  have hD := And.intro c3 (And.intro c4 (And.intro d5 (And.intro d6 (And.intro d7 (And.intro d8 (And.intro d9 da))))))


  repeat' (first | refine awp_seq_k fun K hK => ?_ | ((with_reducible refine hK _ ?_); clear hK K) | ((with_reducible refine aord_plain fun K hK => ?_); simp only [go_sem, Nat.reduceAdd, Nat.reduceMul, Nat.reduceEqDiff, Nat.reduceLT, reduceIte, reduceCtorEq, HW2, v1, hD, eL, Nat.add_eq_left, Nat.left_eq_add, Nat.add_assoc, Nat.reduceAdd, if_false, if_true, HW2, v1, hD, eL]) | ((first | with_reducible refine aord_nil ?_ | refine awp_skip ?_ | refine awp_exit ?_ | refine awp_ret ?_); try simp only [thenA_normal, thenA_exit, thenA_goto, thenA_ret, blockA_normal, blockA_same, blockA_exit, blockA_goto, blockA_ret, Nat.reduceEqDiff, if_false, if_true, reduceIte]) | (refine awp_region tabOk rfl ?_; simp only [prep, pickO, List.map_cons, List.map_nil, List.getElem?_toArray, List.getElem?_cons_succ, List.getElem?_cons_zero, Option.bind_some, Option.map_some]) | ((with_reducible refine And.intro (?_ : enters Try.prog 37) ?_); (focus exact Try.call37); (refine callX_satH eqFactS_sat ?_); simp only [go_sem, and_assoc, List.nil_append, List.append_nil, List.cons_append, Nat.reduceEqDiff, reduceIte, reduceCtorEq, HW2, v1, hD, eL, Nat.add_eq_left, Nat.left_eq_add, Nat.add_assoc, Nat.reduceAdd, if_false, if_true, HW2, v1, hD, eL]) | fail)
  refine ⟨O1, L, rfl, rfl, L, rfl, rfl, true, HW2, by omega, by omega, ?_⟩
  repeat' (first | refine awp_seq_k fun K hK => ?_ | ((with_reducible refine hK _ ?_); clear hK K) | ((with_reducible refine aord_plain fun K hK => ?_); simp only [go_sem, Nat.reduceAdd, Nat.reduceMul, Nat.reduceEqDiff, Nat.reduceLT, reduceIte, reduceCtorEq, HW2, v1, hD, eL, Nat.add_eq_left, Nat.left_eq_add, Nat.add_assoc, Nat.reduceAdd, if_false, if_true, HW2, v1, hD, eL]) | ((first | with_reducible refine aord_nil ?_ | refine awp_skip ?_ | refine awp_exit ?_ | refine awp_ret ?_); try simp only [thenA_normal, thenA_exit, thenA_goto, thenA_ret, blockA_normal, blockA_same, blockA_exit, blockA_goto, blockA_ret, Nat.reduceEqDiff, if_false, if_true, reduceIte]) | (refine awp_region tabOk rfl ?_; simp only [prep, pickO, List.map_cons, List.map_nil, List.getElem?_toArray, List.getElem?_cons_succ, List.getElem?_cons_zero, Option.bind_some, Option.map_some]) | ((with_reducible apply awp_cond); (focus (simp only [St.ev, St.set, upd, Nat.reduceEqDiff, reduceIte, if_false, if_true, HW2, v1, hD, eL, Nat.add_eq_left, Nat.left_eq_add, Nat.add_assoc, Nat.reduceAdd, if_false, if_true]; exact rfl)); all_goals (intro hb; first | (cases hb; done) | ((try rw [hb]); (try simp only [decide_eq_true_eq, decide_eq_false_iff_not, beq_iff_eq, bne_iff_ne, beq_eq_false_iff_ne, bne_eq_false_iff_eq, Int.not_lt, Int.not_le, Bool.not_eq_true', Bool.not_eq_false'] at hb)))) | ((with_reducible refine And.intro ?_ ?_); (focus omega)) | ((with_reducible refine And.intro (?_ : enters Try.prog 26) ?_); (focus exact Try.call26); (refine callX_satH implDuel_sat ?_); simp only [go_sem, and_assoc, List.nil_append, List.append_nil, List.cons_append, Nat.reduceEqDiff, reduceIte, reduceCtorEq, HW2, v1, hD, eL, Nat.add_eq_left, Nat.left_eq_add, Nat.add_assoc, Nat.reduceAdd, if_false, if_true, HW2, v1, hD, eL]) | ((with_reducible refine And.intro (?_ : enters Try.prog 38) ?_); (focus exact Try.call38); (refine callX_satH markFactS_sat ?_); simp only [go_sem, and_assoc, List.nil_append, List.append_nil, List.cons_append, Nat.reduceEqDiff, reduceIte, reduceCtorEq, HW2, v1, hD, eL, Nat.add_eq_left, Nat.left_eq_add, Nat.add_assoc, Nat.reduceAdd, if_false, if_true, HW2, v1, hD, eL]) | ((with_reducible refine And.intro (?_ : enters Try.prog 39) ?_); (focus exact Try.call39); (refine callX_satH heldFactS_sat ?_); simp only [go_sem, and_assoc, List.nil_append, List.append_nil, List.cons_append, Nat.reduceEqDiff, reduceIte, reduceCtorEq, HW2, v1, hD, eL, Nat.add_eq_left, Nat.left_eq_add, Nat.add_assoc, Nat.reduceAdd, if_false, if_true, HW2, v1, hD, eL]) | (exfalso; omega) | fail)
  intro H4 N4 O4 u1 u2 u3
  rw [hLk] at u1 ⊢
  have HW4 : H4 O1 = some ⟨true, .ints .i64 (flF L)⟩ := (u2 O1 (by omega)).trans (by rw [if_neg (by omega)]; exact HW2)
  have HM4 : H4 O2 = some ⟨true, .ints .i64 (marks 1 (L.length * 2))⟩ := (u2 O2 (by omega)).trans (by rw [if_pos rfl])
  clear u2


  repeat' (first | refine awp_seq_k fun K hK => ?_ | ((with_reducible refine hK _ ?_); clear hK K) | ((with_reducible refine aord_plain fun K hK => ?_); simp only [go_sem, Nat.reduceAdd, Nat.reduceMul, Nat.reduceEqDiff, Nat.reduceLT, reduceIte, reduceCtorEq, HW4, HM4, u1, hD, eL, Nat.add_eq_left, Nat.left_eq_add, Nat.add_assoc, Nat.reduceAdd, if_false, if_true, HW4, HM4, u1, hD, eL]) | ((first | with_reducible refine aord_nil ?_ | refine awp_skip ?_ | refine awp_exit ?_ | refine awp_ret ?_); try simp only [thenA_normal, thenA_exit, thenA_goto, thenA_ret, blockA_normal, blockA_same, blockA_exit, blockA_goto, blockA_ret, Nat.reduceEqDiff, if_false, if_true, reduceIte]) | (refine awp_region tabOk rfl ?_; simp only [prep, pickO, List.map_cons, List.map_nil, List.getElem?_toArray, List.getElem?_cons_succ, List.getElem?_cons_zero, Option.bind_some, Option.map_some]) | ((with_reducible refine And.intro (?_ : enters Try.prog 37) ?_); (focus exact Try.call37); (refine callX_satH eqFactS_sat ?_); simp only [go_sem, and_assoc, List.nil_append, List.append_nil, List.cons_append, Nat.reduceEqDiff, reduceIte, reduceCtorEq, HW4, HM4, u1, hD, eL, Nat.add_eq_left, Nat.left_eq_add, Nat.add_assoc, Nat.reduceAdd, if_false, if_true, HW4, HM4, u1, hD, eL]) | fail)
  refine ⟨O1, L, rfl, rfl, L, rfl, rfl, true, HW4, by omega, by omega, ?_⟩
  repeat' (first | refine awp_seq_k fun K hK => ?_ | ((with_reducible refine hK _ ?_); clear hK K) | ((with_reducible refine aord_plain fun K hK => ?_); simp only [go_sem, Nat.reduceAdd, Nat.reduceMul, Nat.reduceEqDiff, Nat.reduceLT, reduceIte, reduceCtorEq, HW4, HM4, u1, hD, eL, Nat.add_eq_left, Nat.left_eq_add, Nat.add_assoc, Nat.reduceAdd, if_false, if_true, HW4, HM4, u1, hD, eL]) | ((first | with_reducible refine aord_nil ?_ | refine awp_skip ?_ | refine awp_exit ?_ | refine awp_ret ?_); try simp only [thenA_normal, thenA_exit, thenA_goto, thenA_ret, blockA_normal, blockA_same, blockA_exit, blockA_goto, blockA_ret, Nat.reduceEqDiff, if_false, if_true, reduceIte]) | (refine awp_region tabOk rfl ?_; simp only [prep, pickO, List.map_cons, List.map_nil, List.getElem?_toArray, List.getElem?_cons_succ, List.getElem?_cons_zero, Option.bind_some, Option.map_some]) | ((with_reducible apply awp_cond); (focus (simp only [St.ev, St.set, upd, Nat.reduceEqDiff, reduceIte, if_false, if_true, HW4, HM4, u1, hD, eL, Nat.add_eq_left, Nat.left_eq_add, Nat.add_assoc, Nat.reduceAdd, if_false, if_true]; exact rfl)); all_goals (intro hb; first | (cases hb; done) | ((try rw [hb]); (try simp only [decide_eq_true_eq, decide_eq_false_iff_not, beq_iff_eq, bne_iff_ne, beq_eq_false_iff_ne, bne_eq_false_iff_eq, Int.not_lt, Int.not_le, Bool.not_eq_true', Bool.not_eq_false'] at hb)))) | ((with_reducible refine And.intro ?_ ?_); (focus omega)) | ((with_reducible refine And.intro (?_ : enters Try.prog 39) ?_); (focus exact Try.call39); (refine callX_satH heldFactS_sat ?_); simp only [go_sem, and_assoc, List.nil_append, List.append_nil, List.cons_append, Nat.reduceEqDiff, reduceIte, reduceCtorEq, HW4, HM4, u1, hD, eL, Nat.add_eq_left, Nat.left_eq_add, Nat.add_assoc, Nat.reduceAdd, if_false, if_true, HW4, HM4, u1, hD, eL]) | (exfalso; omega) | fail)
  all_goals first | (exact absurd rfl hb) | (exfalso; simp at hb; done) | (simp only [St.set, St.ev, doneQ, doneH, ressK, resK, wrapR, AV.ids, AV.idsL, retK, retsK, upd, Nat.reduceEqDiff, reduceIte, if_false, if_true, List.nodup_nil, List.nodup_cons, List.not_mem_nil, not_false_eq_true, true_and, and_true, exists_eq_left', Option.some.injEq, rLoad, cellOf, tab, Ty.isAgg, Ty.one, Bool.false_eq_true]; exact hQ)

/-- How often p must be doubled to be at least n, and c. -/
def dbl (n p c : Nat) : Nat := if h : 0 < p ∧ p < n then dbl n (2 * p) (c + 1) else c
termination_by n - p
decreasing_by omega
theorem dbl_go {n p c : Nat} (h0 : 0 < p) (h : p < n) : dbl n (2 * p) (c + 1) = dbl n p c := by rw [dbl.eq_1 n p c, dif_pos ⟨h0, h⟩]
theorem dbl_end {n p c : Nat} (h : n ≤ p) : dbl n p c = c := by rw [dbl, dif_neg (by omega)]
theorem dbl_le : ∀ f n p c : Nat, n ≤ p + f → dbl n p c ≤ c + f
  | 0, n, p, c, h => by rw [dbl_end (by omega)]; omega
  | f + 1, n, p, c, h => by
    by_cases h1 : 0 < p ∧ p < n
    · rw [← dbl_go h1.1 h1.2]
      have := dbl_le f n (2 * p) (c + 1) (by omega)
      omega
    · rw [dbl, dif_neg h1]; omega
/-- Four times as much. -/
theorem dbl_four : ∀ f m n p c : Nat, n ≤ p + f → m = 3 * n → ∀ q, q = (m + 3) / 4 → dbl m (4 * p) c = dbl q p c := by
  intro f
  induction f with
  | zero => intro m n p c h hm q hq; rw [dbl_end (by omega), dbl_end (by omega)]
  | succ f ih =>
    intro m n p c h hm q hq
    by_cases h1 : 0 < p ∧ p < q
    · rw [← dbl_go h1.1 h1.2, ← dbl_go (n := m) (by omega) (by omega), ← ih m n (2 * p) (c + 1) (by omega) hm q hq]
      congr 1; omega
    · rw [dbl.eq_1 q, dif_neg h1, dbl, dif_neg (by omega)]
/-- All of 1 to n together. -/
def sumF (F : Nat → Nat) : Nat → Nat
  | 0 => 0
  | n + 1 => sumF F n + F (n + 1)
theorem sumF_le {F : Nat → Nat} (h : ∀ k, k ≤ 1000 → F k ≤ 5000) : ∀ n, n ≤ 1000 → sumF F n ≤ 5000 * n
  | 0, _ => by simp [sumF]
  | n + 1, hn => by have := sumF_le h n (by omega); have := h (n + 1) hn; rw [sumF]; omega
theorem sumF_same {F G : Nat → Nat} (h : ∀ k, k ≤ 1000 → F k = G k) : ∀ n, n ≤ 1000 → sumF F n = sumF G n
  | 0, _ => rfl
  | n + 1, hn => by rw [sumF, sumF, sumF_same h n (by omega), h (n + 1) hn]
def lgF (k : Nat) : Nat := dbl k 1 0
def fdF (k : Nat) : Nat := dbl (3 * k) 4 0
theorem lgF_le (k : Nat) (h : k ≤ 1000) : lgF k ≤ 5000 := by have := dbl_le 1000 k 1 0 (by omega); unfold lgF; omega
theorem fdF_le (k : Nat) (h : k ≤ 1000) : fdF k ≤ 5000 := by have := dbl_le 3000 (3 * k) 4 0 (by omega); unfold fdF; omega
theorem fdF_eq (k : Nat) : fdF k = dbl ((3 * k + 3) / 4) 1 0 := dbl_four k (3 * k) k 1 0 (by omega) rfl _ rfl


theorem doublings_sat : Sat Try.prog 54 (fun ds Q => ∃ (n : Nat) (z : Int), ds = [.val (.int .i64 (z))] ∧ (z = n) ∧ (n ≤ 5000) ∧ Q (.val (.int .i64 (((dbl n 1 0 : Nat) : Int))))) := by
  refine sat_intro tabOk Try.func54 rfl 13 rfl [.tmp 2] rfl ?_
  rintro ds Q W ⟨n, z, rfl, hz, hn, hQ⟩
  refine ⟨Nat.le_of_ble_eq_true rfl, ?_⟩
  simp only [initS, initT, mat.matL, mat, Cont.len]
  repeat' (first | refine awp_seq_k fun K hK => ?_ | ((with_reducible refine hK _ ?_); clear hK K) | ((with_reducible refine aord_plain fun K hK => ?_); simp only [go_sem, Nat.reduceAdd, Nat.reduceMul, Nat.reduceEqDiff, Nat.reduceLT, reduceIte, reduceCtorEq]) | refine awp_block ?_ | ((first | with_reducible refine aord_nil ?_ | refine awp_skip ?_ | refine awp_exit ?_ | refine awp_ret ?_); try simp only [thenA_normal, thenA_exit, thenA_goto, thenA_ret, blockA_normal, blockA_same, blockA_exit, blockA_goto, blockA_ret, Nat.reduceEqDiff, if_false, if_true, reduceIte]) | (refine awp_region tabOk rfl ?_; simp only [prep, pickO, List.map_cons, List.map_nil, List.getElem?_toArray, List.getElem?_cons_succ, List.getElem?_cons_zero, Option.bind_some, Option.map_some]) | fail)
  refine awp_loopE (α := (Nat) × (Nat)) (fun s p => ⟨(upd (upd (upd bot 0 (s.tmps 0)) 3 (.val (.int .i64 ((p.1))))) 4 (.val (.int .i64 ((p.2))))), s.heap, s.next⟩) _ (fun p => by simp only [St.ev, St.set, upd, Nat.reduceEqDiff, reduceIte, if_false, if_true]; exact rfl) (fun p => (0 < (p.2) ∧ (p.1) < (p.2) ∧ (p.2) ≤ 10000) ∧ (dbl n (p.2) (p.1) = dbl n 1 0)) (fun p => n - (p.2)) (0, 1) ?_ ?_ ?_
  · (try simp only); (refine ⟨?_, ?_⟩ <;> (first | omega | (simp only; omega) | rfl | (simp; done) | skip))
  · (apply Wk.same; (case' h2 => (focus ((repeat' (with_reducible first | exact HeapX.bot | (apply HeapX.skip; (case hx => (simp; done))) | apply HeapX.none | apply HeapX.upd)); all_goals (first | rfl | exact Nat.le_of_ble_eq_true rfl | (simp only [St.set, St.ev, upd, ren, renL, id, Nat.reduceEqDiff, reduceIte, ContLe]; done) | (exact And.intro rfl (And.intro (by first | exact Nat.le_of_ble_eq_true rfl | omega) (by first | exact Nat.le_of_ble_eq_true rfl | omega))) | (first | (simp only [St.set, St.ev, upd, ren, renL, id, Nat.reduceEqDiff, reduceIte]; exact contLe_nil) | ((repeat' (first | exact contLe_nil | refine contLe_cons (.inr ⟨?_, rfl⟩) ?_)); all_goals (first | rfl | (simp only [St.set, St.ev, upd, ren, renL, id, Nat.reduceEqDiff, reduceIte]; done) | ((try simp only [St.set, St.ev, upd, ren, renL, id, Nat.reduceEqDiff, reduceIte]); first | (with_reducible exact av_int (by omega)) | (with_reducible exact av_sl (by first | omega | (simp; done) | (simp; omega)) (by first | omega | (simp; done) | (simp; omega)))) | (simp only [St.set, St.ev, upd, ren, renL, id, Nat.reduceEqDiff, reduceIte, Int.natCast_add, Int.natCast_one, Int.cast_ofNat_Int, Int.natCast_zero]; done) | (simp only [St.set, St.ev, upd, ren, renL, id, Nat.reduceEqDiff, reduceIte]) | skip); done)) | (simp only [St.set, St.ev, upd, ren, renL, id, Nat.reduceEqDiff, reduceIte, ContLe]) | skip)))); (case' h1 => (focus ((repeat' (with_reducible first | exact TmpLe.bot | refine TmpLe.upd ?_ rfl ?_)); all_goals (first | rfl | (simp only [St.set, St.ev, upd, ren, renL, id, Nat.reduceEqDiff, reduceIte]; done) | ((try simp only [St.set, St.ev, upd, ren, renL, id, Nat.reduceEqDiff, reduceIte]); first | (with_reducible exact av_int (by omega)) | (with_reducible exact av_sl (by first | omega | (simp; done) | (simp; omega)) (by first | omega | (simp; done) | (simp; omega)))) | (simp only [St.set, St.ev, upd, ren, renL, id, Nat.reduceEqDiff, reduceIte, Int.natCast_add, Int.natCast_one, Int.cast_ofNat_Int, Int.natCast_zero]; done) | (simp only [St.set, St.ev, upd, ren, renL, id, Nat.reduceEqDiff, reduceIte]) | skip)))); (case h3 => (focus (first | (simp only [id, List.map_cons, List.map_nil]; decide) | decide | (simp; done) | (simp; omega) | fail))); (case h4 => (intro o l h; first | (cases h; done) | (have hlt0 := m0_lt (by assumption) h; (try (simp only at hlt0)); first | omega | (simp only; omega) | exact ⟨by (first | rfl | (simp only [id]; done) | ((repeat rw [if_neg (by omega)]); done)), by first | omega | (simp only; omega)⟩))))
  rintro ⟨c, q⟩ ⟨hq, hR⟩
  try simp only at hq hR
  have hgo : q < n → dbl n (2 * q) (c + 1) = dbl n 1 0 := fun h => by rw [dbl_go hq.1 h, hR]
  have hend : n ≤ q → dbl n 1 0 = c := fun h => by rw [← hR, dbl_end h]
  repeat' (first | refine awp_seq_k fun K hK => ?_ | ((with_reducible refine hK _ ?_); clear hK K) | (clear hK K; (with_reducible refine hK _ ?_); clear hK K) | ((with_reducible refine aord_plain fun K hK => ?_); simp only [go_sem, Nat.reduceAdd, Nat.reduceMul, Nat.reduceEqDiff, Nat.reduceLT, reduceIte, reduceCtorEq]) | refine awp_block ?_ | ((first | with_reducible refine aord_nil ?_ | refine awp_skip ?_ | refine awp_exit ?_ | refine awp_ret ?_); try simp only [thenA_normal, thenA_exit, thenA_goto, thenA_ret, blockA_normal, blockA_same, blockA_exit, blockA_goto, blockA_ret, Nat.reduceEqDiff, if_false, if_true, reduceIte]) | (refine awp_region tabOk rfl ?_; simp only [prep, pickO, List.map_cons, List.map_nil, List.getElem?_toArray, List.getElem?_cons_succ, List.getElem?_cons_zero, Option.bind_some, Option.map_some]) | ((with_reducible apply awp_cond); (focus (simp only [St.ev, St.set, upd, Nat.reduceEqDiff, reduceIte, if_false, if_true]; exact rfl)); all_goals (intro hb; first | (cases hb; done) | ((try rw [hb]); (try simp only [decide_eq_true_eq, decide_eq_false_iff_not, beq_iff_eq, bne_iff_ne, beq_eq_false_iff_ne, bne_eq_false_iff_eq, Int.not_lt, Int.not_le, Bool.not_eq_true', Bool.not_eq_false'] at hb)))) | ((with_reducible refine And.intro ?_ ?_); (focus omega)) | fail)
  · ((refine Exists.intro (c + 1, 2 * q) ?_); (refine nxt ?_ ?_ ?_); (focus ((apply Wk.same; (case' h2 => (focus ((repeat' (with_reducible first | exact HeapX.bot | (apply HeapX.skip; (case hx => (simp; done))) | apply HeapX.none | apply HeapX.upd)); all_goals (first | rfl | exact Nat.le_of_ble_eq_true rfl | (simp only [St.set, St.ev, upd, ren, renL, id, Nat.reduceEqDiff, reduceIte, ContLe]; done) | (exact And.intro rfl (And.intro (by first | exact Nat.le_of_ble_eq_true rfl | omega) (by first | exact Nat.le_of_ble_eq_true rfl | omega))) | (first | (simp only [St.set, St.ev, upd, ren, renL, id, Nat.reduceEqDiff, reduceIte]; exact contLe_nil) | ((repeat' (first | exact contLe_nil | refine contLe_cons (.inr ⟨?_, rfl⟩) ?_)); all_goals (first | rfl | (simp only [St.set, St.ev, upd, ren, renL, id, Nat.reduceEqDiff, reduceIte]; done) | ((try simp only [St.set, St.ev, upd, ren, renL, id, Nat.reduceEqDiff, reduceIte]); first | (with_reducible exact av_int (by omega)) | (with_reducible exact av_sl (by first | omega | (simp; done) | (simp; omega)) (by first | omega | (simp; done) | (simp; omega)))) | (simp only [St.set, St.ev, upd, ren, renL, id, Nat.reduceEqDiff, reduceIte, Int.natCast_add, Int.natCast_one, Int.cast_ofNat_Int, Int.natCast_zero]; done) | (simp only [St.set, St.ev, upd, ren, renL, id, Nat.reduceEqDiff, reduceIte]) | skip); done)) | (simp only [St.set, St.ev, upd, ren, renL, id, Nat.reduceEqDiff, reduceIte, ContLe]) | skip)))); (case' h1 => (focus ((repeat' (with_reducible first | exact TmpLe.bot | refine TmpLe.upd ?_ rfl ?_)); all_goals (first | rfl | (simp only [St.set, St.ev, upd, ren, renL, id, Nat.reduceEqDiff, reduceIte]; done) | ((try simp only [St.set, St.ev, upd, ren, renL, id, Nat.reduceEqDiff, reduceIte]); first | (with_reducible exact av_int (by omega)) | (with_reducible exact av_sl (by first | omega | (simp; done) | (simp; omega)) (by first | omega | (simp; done) | (simp; omega)))) | (simp only [St.set, St.ev, upd, ren, renL, id, Nat.reduceEqDiff, reduceIte, Int.natCast_add, Int.natCast_one, Int.cast_ofNat_Int, Int.natCast_zero]; done) | (simp only [St.set, St.ev, upd, ren, renL, id, Nat.reduceEqDiff, reduceIte]) | skip)))); (case h3 => (focus (first | (simp only [id, List.map_cons, List.map_nil]; decide) | decide | (simp; done) | (simp; omega) | fail))); (case h4 => (intro o l h; first | (cases h; done) | (have hlt0 := m0_lt (by assumption) h; (try (simp only at hlt0)); first | omega | (simp only; omega) | exact ⟨by (first | rfl | (simp only [id]; done) | ((repeat rw [if_neg (by omega)]); done)), by first | omega | (simp only; omega)⟩)))))); (focus (first | omega | (simp only; omega) | (simp only [List.length_take]; omega) | (simp; done) | (simp; omega))); ((repeat' (with_reducible apply And.intro)) <;> (first | omega | (simp only; omega) | assumption | rfl | ((try simp only); exact hgo (by omega)) | skip)))
  · simp only [St.set, St.ev, doneQ, doneH, ressK, resK, wrapR, AV.ids, AV.idsL, retK, retsK, upd, Nat.reduceEqDiff, reduceIte, if_false, if_true, List.nodup_nil, List.nodup_cons, List.not_mem_nil, not_false_eq_true, true_and, and_true, exists_eq_left', Option.some.injEq, rLoad, cellOf, tab, Ty.isAgg, Ty.one, Bool.false_eq_true]
    rw [hend (by omega)] at hQ
    exact hQ


/-- BoundOf's answer. -/
noncomputable def boV (z : Int) (fs : List (Int × Int)) : Int := by classical exact if VF z fs then ((dbl (orO z fs).length 1 0 : Nat) : Int) else -1
theorem boV_yes {z : Int} {fs : List (Int × Int)} (h : VF z fs) : boV z fs = ((dbl (orO z fs).length 1 0 : Nat) : Int) := by unfold boV; rw [if_pos h]
theorem boV_no {z : Int} {fs : List (Int × Int)} (h : ¬ VF z fs) : boV z fs = -1 := by unfold boV; rw [if_neg h]


theorem implBoundOf_sat : SatH Try.prog 19 (fun al h n K => ∃ (z : Int) (A : Nat) (b : Bool) (fs : List (Int × Int)), al = [.val (.int .i64 (z)), .sl A 0 fs.length 2 none] ∧ (h A = some ⟨b, .ints .i64 (flF fs)⟩) ∧ (fs.length ≤ 1099511627776) ∧ ∀ N : Nat, n ≤ N → K (.val (.int .i64 ((boV z fs)))) (h) (N)) := by
  refine satH_intro tabOk Try.func19 rfl 14 rfl [.tmp 4] rfl ?_
  rintro F W h n al K0 ⟨z, A, b, fs, rfl, hA, hl, hQ⟩
  refine ⟨Nat.le_of_ble_eq_true rfl, fun m0 hm0 hcl hlt => ?_⟩
  simp only [initT]
  have hAn := (hcl A _ hA).1


  repeat' (first | refine awp_seq_k fun K hK => ?_ | ((with_reducible refine hK _ ?_); clear hK K) | ((with_reducible refine aord_plain fun K hK => ?_); simp only [go_sem, Nat.reduceAdd, Nat.reduceMul, Nat.reduceEqDiff, Nat.reduceLT, reduceIte, reduceCtorEq, hA, Nat.add_eq_left, Nat.left_eq_add, Nat.add_assoc, Nat.reduceAdd, if_false, if_true, hA]) | ((first | with_reducible refine aord_nil ?_ | refine awp_skip ?_ | refine awp_exit ?_ | refine awp_ret ?_); try simp only [thenA_normal, thenA_exit, thenA_goto, thenA_ret, blockA_normal, blockA_same, blockA_exit, blockA_goto, blockA_ret, Nat.reduceEqDiff, if_false, if_true, reduceIte]) | (refine awp_region tabOk rfl ?_; simp only [prep, pickO, List.map_cons, List.map_nil, List.getElem?_toArray, List.getElem?_cons_succ, List.getElem?_cons_zero, Option.bind_some, Option.map_some]) | ((with_reducible refine And.intro (?_ : enters Try.prog 33) ?_); (focus exact Try.call33); (refine callX_satH implValidFacts_sat ?_); simp only [go_sem, and_assoc, List.nil_append, List.append_nil, List.cons_append, Nat.reduceEqDiff, reduceIte, reduceCtorEq, hA, Nat.add_eq_left, Nat.left_eq_add, Nat.add_assoc, Nat.reduceAdd, if_false, if_true, hA]) | fail)
  refine ⟨b, fs, rfl, rfl, rfl, hl, fun v N hv hN => ?_⟩
  cases v with
  | false =>
    rw [boV_no (fun h => by have := hv.2 h; cases this)] at hQ


    repeat' (first | refine awp_seq_k fun K hK => ?_ | ((with_reducible refine hK _ ?_); clear hK K) | ((with_reducible refine aord_plain fun K hK => ?_); simp only [go_sem, Nat.reduceAdd, Nat.reduceMul, Nat.reduceEqDiff, Nat.reduceLT, reduceIte, reduceCtorEq, hA, Nat.add_eq_left, Nat.left_eq_add, Nat.add_assoc, Nat.reduceAdd, if_false, if_true, hA]) | ((first | with_reducible refine aord_nil ?_ | refine awp_skip ?_ | refine awp_exit ?_ | refine awp_ret ?_); try simp only [thenA_normal, thenA_exit, thenA_goto, thenA_ret, blockA_normal, blockA_same, blockA_exit, blockA_goto, blockA_ret, Nat.reduceEqDiff, if_false, if_true, reduceIte]) | (refine awp_region tabOk rfl ?_; simp only [prep, pickO, List.map_cons, List.map_nil, List.getElem?_toArray, List.getElem?_cons_succ, List.getElem?_cons_zero, Option.bind_some, Option.map_some]) | ((with_reducible apply awp_cond); (focus (simp only [St.ev, St.set, upd, Nat.reduceEqDiff, reduceIte, if_false, if_true, hA, Nat.add_eq_left, Nat.left_eq_add, Nat.add_assoc, Nat.reduceAdd, if_false, if_true]; exact rfl)); all_goals (intro hb; first | (cases hb; done) | ((try rw [hb]); (try simp only [decide_eq_true_eq, decide_eq_false_iff_not, beq_iff_eq, bne_iff_ne, beq_eq_false_iff_ne, bne_eq_false_iff_eq, Int.not_lt, Int.not_le, Bool.not_eq_true', Bool.not_eq_false'] at hb)))) | (simp only [doneH]; simp only [ressK, resK, wrapR, go_sem, Nat.reduceAdd, Nat.reduceMul, Nat.reduceEqDiff, Nat.reduceLT, reduceIte, reduceCtorEq, hA, Nat.add_eq_left, Nat.left_eq_add, Nat.add_assoc, Nat.reduceAdd, if_false, if_true]) | fail)
    exact hQ N hN
  | true =>
    have hV := hv.1 rfl
    have hcap := orO_cap z fs
    rw [boV_yes hV] at hQ


    repeat' (first | refine awp_seq_k fun K hK => ?_ | ((with_reducible refine hK _ ?_); clear hK K) | ((with_reducible refine aord_plain fun K hK => ?_); simp only [go_sem, Nat.reduceAdd, Nat.reduceMul, Nat.reduceEqDiff, Nat.reduceLT, reduceIte, reduceCtorEq, hA, Nat.add_eq_left, Nat.left_eq_add, Nat.add_assoc, Nat.reduceAdd, if_false, if_true, hA]) | ((first | with_reducible refine aord_nil ?_ | refine awp_skip ?_ | refine awp_exit ?_ | refine awp_ret ?_); try simp only [thenA_normal, thenA_exit, thenA_goto, thenA_ret, blockA_normal, blockA_same, blockA_exit, blockA_goto, blockA_ret, Nat.reduceEqDiff, if_false, if_true, reduceIte]) | (refine awp_region tabOk rfl ?_; simp only [prep, pickO, List.map_cons, List.map_nil, List.getElem?_toArray, List.getElem?_cons_succ, List.getElem?_cons_zero, Option.bind_some, Option.map_some]) | ((with_reducible apply awp_cond); (focus (simp only [St.ev, St.set, upd, Nat.reduceEqDiff, reduceIte, if_false, if_true, hA, Nat.add_eq_left, Nat.left_eq_add, Nat.add_assoc, Nat.reduceAdd, if_false, if_true]; exact rfl)); all_goals (intro hb; first | (cases hb; done) | ((try rw [hb]); (try simp only [decide_eq_true_eq, decide_eq_false_iff_not, beq_iff_eq, bne_iff_ne, beq_eq_false_iff_ne, bne_eq_false_iff_eq, Int.not_lt, Int.not_le, Bool.not_eq_true', Bool.not_eq_false'] at hb)))) | ((with_reducible refine And.intro (?_ : enters Try.prog 29) ?_); (focus exact Try.call29); (refine callX_satH implOrdersLeft_sat ?_); simp only [go_sem, and_assoc, List.nil_append, List.append_nil, List.cons_append, Nat.reduceEqDiff, reduceIte, reduceCtorEq, hA, Nat.add_eq_left, Nat.left_eq_add, Nat.add_assoc, Nat.reduceAdd, if_false, if_true, hA]) | fail)
    refine ⟨b, fs, rfl, rfl, rfl, hl, fun H M O f r1 r2 r3 r4 r5 => ?_⟩
    have hdrop : ∀ (o : Nat) (ob : Ob), h o = some ob → H o = some ob := fun o ob ho => by rw [r4 o (by have := (hcl o _ ho).1; omega)]; exact ho


    repeat' ((fail_if_success (with_reducible refine isRetQ ?_)); (first | ((with_reducible refine hK _ ?_); clear hK K) | ((with_reducible refine aord_plain fun K hK => ?_); simp only [go_sem, Nat.reduceAdd, Nat.reduceMul, Nat.reduceEqDiff, Nat.reduceLT, reduceIte, reduceCtorEq]) | ((with_reducible refine And.intro (?_ : enters Try.prog 54) ?_); (focus exact Try.call54); (refine callX_sat doublings_sat ?_); simp only [go_sem, and_assoc, List.nil_append, List.append_nil, List.cons_append, Nat.reduceEqDiff, reduceIte, reduceCtorEq]) | fail))
    refine ⟨(orO z fs).length, rfl, by omega, ?_⟩
    repeat' ((fail_if_success (with_reducible refine isRetQ ?_)); (first | ((with_reducible refine hK _ ?_); clear hK K) | ((with_reducible refine aord_plain fun K hK => ?_); simp only [go_sem, Nat.reduceAdd, Nat.reduceMul, Nat.reduceEqDiff, Nat.reduceLT, reduceIte, reduceCtorEq]) | ((first | with_reducible refine aord_nil ?_ | refine awp_skip ?_ | refine awp_exit ?_ | refine awp_ret ?_); try simp only [thenA_normal, thenA_exit, thenA_goto, thenA_ret, blockA_normal, blockA_same, blockA_exit, blockA_goto, blockA_ret, Nat.reduceEqDiff, if_false, if_true, reduceIte]) | fail))
    refine awp_weaken (s' := ⟨upd bot 4 (.val (.int .i64 ((dbl (orO z fs).length 1 0 : Nat) : Int))), h, M⟩) (Wk.sub (tsd tsd0 rfl) hdrop rfl) ?_
    repeat' (first | ((first | with_reducible refine aord_nil ?_ | refine awp_skip ?_ | refine awp_exit ?_ | refine awp_ret ?_); try simp only [thenA_normal, thenA_exit, thenA_goto, thenA_ret, blockA_normal, blockA_same, blockA_exit, blockA_goto, blockA_ret, Nat.reduceEqDiff, if_false, if_true, reduceIte]) | (simp only [doneH]; simp only [ressK, resK, wrapR, go_sem, Nat.reduceAdd, Nat.reduceMul, Nat.reduceEqDiff, Nat.reduceLT, reduceIte, reduceCtorEq]) | fail)
    exact hQ M (by omega)


theorem bits_xor_in (a b : Int) (ha : 0 ≤ a ∧ a < 2147483648) (hb : 0 ≤ b ∧ b < 2147483648) : 0 ≤ bits .xor .i64 a b ∧ bits .xor .i64 a b < 2147483648 := by
  obtain ⟨m, rfl⟩ := Int.eq_ofNat_of_zero_le ha.1
  obtain ⟨k, rfl⟩ := Int.eq_ofNat_of_zero_le hb.1
  have hx : m ^^^ k < 2 ^ 31 := Nat.xor_lt_two_pow (by omega) (by omega)
  have h1 : (BitVec.ofInt 64 (m : Int) ^^^ BitVec.ofInt 64 (k : Int)).toNat = m ^^^ k := by
    rw [BitVec.toNat_xor, BitVec.ofInt_natCast, BitVec.ofInt_natCast, BitVec.toNat_ofNat, BitVec.toNat_ofNat, Nat.mod_eq_of_lt (by omega), Nat.mod_eq_of_lt (by omega)]
  have h2 : IntKind.i64.wrap ((m ^^^ k : Nat) : Int) = ((m ^^^ k : Nat) : Int) := wrap_in (show -9223372036854775808 ≤ ((m ^^^ k : Nat) : Int) ∧ ((m ^^^ k : Nat) : Int) ≤ 9223372036854775807 by omega)
  have h3 : bits .xor .i64 (m : Int) (k : Int) = ((m ^^^ k : Nat) : Int) := by
    show IntKind.i64.wrap ((BitVec.ofInt 64 (m : Int) ^^^ BitVec.ofInt 64 (k : Int)).toNat : Int) = _
    rw [h1, h2]
  rw [h3]; omega


/-- What a list of bytes is. -/
def bytesOk (bs : List Int) : Prop := ∀ j, 0 ≤ bs.getD j 0 ∧ bs.getD j 0 ≤ 255

theorem row_bytes {w : World} {a : Option Addr} {len cap : Nat} {zs : List Int} (h : IsRow .u8 w a len cap zs) : bytesOk (zs.take len) := by
  have hin : ∀ n ∈ zs, 0 ≤ n ∧ n ≤ 255 := by
    rcases h with ⟨_, _, _, rfl⟩ | ⟨x, _, _, _, _, _, h6⟩
    · intro n hn; cases hn
    · intro n hn
      have := h6 n hn
      simp only [Lit.wf, IntKind.min, IntKind.max, IntKind.signed, IntKind.bits, Bool.and_eq_true, decide_eq_true_eq, Bool.false_eq_true, if_false] at this
      omega
  intro j
  rw [List.getD_eq_getElem?_getD]
  cases e : (zs.take len)[j]? with
  | none => simp
  | some v =>
    have h1 := List.mem_of_getElem? e
    have := hin v (List.mem_of_mem_take h1)
    simpa using this


theorem pick_sat : SatH Try.prog 49 (fun al h n K => ∃ (bs : List Int) (L : Nat) (lim : Option Nat) (k : Int) (q : Nat), al = [.ref 1 0, .val (.int .i64 (k))] ∧ (h 0 = some ⟨false, .ints .u8 bs⟩) ∧ (h 1 = some ⟨true, .cells [.sl 0 0 L 1 lim, .val (.int .i64 q)]⟩) ∧ (L ≤ bs.length ∧ L ≤ 1099511627776) ∧ (bytesOk bs) ∧ (q ≤ 1000000 ∧ k ≤ 1000000) ∧ ∀ v : Int, 0 ≤ v → v < max k 1 → K (.val (.int .i64 (v))) (upd h 1 (some ⟨true, .cells [.sl 0 0 L 1 lim, .val (.int .i64 ((q : Int) + 1))]⟩)) (n)) := by
  refine satH_intro tabOk Try.func49 rfl 99 rfl [.tmp 4] rfl ?_
  rintro F W h n al K0 ⟨bs, L, lim, k, q, rfl, h0, h1, hL, hbs, hq, hQ⟩
  refine ⟨Nat.le_of_ble_eq_true rfl, fun m0 hm0 hcl hlt => ?_⟩
  simp only [initT]
  have hm : ∀ a : Int, 1 ≤ k → 0 ≤ a % k ∧ a % k < k := fun a h => ⟨Int.emod_nonneg a (by omega), Int.emod_lt_of_pos a (by omega)⟩
  have hB0 := hbs ((q : Int) + 1 - 1).toNat
  have hL1 : (L : Int) ≠ 0 → 0 ≤ ((q : Int) + 1 - 1) % (L : Int) ∧ ((q : Int) + 1 - 1) % (L : Int) < L := fun h => ⟨Int.emod_nonneg _ h, Int.emod_lt_of_pos _ (by omega)⟩
  have hL2 : (L : Int) ≠ 0 → 0 ≤ (((q : Int) + 1 - 1) * 7 + 3) % (L : Int) ∧ (((q : Int) + 1 - 1) * 7 + 3) % (L : Int) < L := fun h => ⟨Int.emod_nonneg _ h, Int.emod_lt_of_pos _ (by omega)⟩
  have hL3 : (L : Int) ≠ 0 → 0 ≤ ((q : Int) + 1 - 1) / (L : Int) ∧ ((q : Int) + 1 - 1) / (L : Int) ≤ q := fun h => ⟨Int.ediv_nonneg (by omega) (by omega), Int.le_trans (Int.ediv_le_self _ (by omega)) (by omega)⟩
  have hB1 := hbs (((q : Int) + 1 - 1) % (L : Int)).toNat
  have hB2 := hbs ((((q : Int) + 1 - 1) * 7 + 3) % (L : Int)).toNat
  repeat' (first | refine awp_seq_k fun K hK => ?_ | ((with_reducible refine hK _ ?_); clear hK K) | ((with_reducible refine aord_plain fun K hK => ?_); simp only [go_sem, Nat.reduceAdd, Nat.reduceMul, Nat.reduceEqDiff, Nat.reduceLT, reduceIte, reduceCtorEq, h0, h1]) | ((with_reducible apply aord_guard); (focus (simp only [St.ev, St.set, upd, Nat.reduceEqDiff, reduceIte, if_false, if_true]; exact rfl)); all_goals (intro hb; (try simp only [Bool.not_true, Bool.not_false] at hb); first | (cases hb; done) | ((try rw [hb]); (try simp only [Bool.not_eq_true', Bool.not_eq_false', Bool.and_eq_true, decide_eq_true_eq, decide_eq_false_iff_not, beq_iff_eq, bne_iff_ne, beq_eq_false_iff_ne, bne_eq_false_iff_eq, Int.not_lt, Int.not_le] at hb); (try (revert hb; with_reducible refine true_imp_iff.2 ?_)); first | (intro K hK; simp only [go_sem, Nat.reduceAdd, Nat.reduceMul, Nat.reduceEqDiff, Nat.reduceLT, reduceIte, reduceCtorEq]) | (simp only [St.ev, St.set, upd, Nat.reduceEqDiff, reduceIte, if_false, if_true]) | skip))) | ((first | with_reducible refine aord_nil ?_ | refine awp_skip ?_ | refine awp_exit ?_ | refine awp_ret ?_); try simp only [thenA_normal, thenA_exit, thenA_goto, thenA_ret, blockA_normal, blockA_same, blockA_exit, blockA_goto, blockA_ret, Nat.reduceEqDiff, if_false, if_true, reduceIte]) | (refine awp_region tabOk rfl ?_; simp only [prep, pickO, List.map_cons, List.map_nil, List.getElem?_toArray, List.getElem?_cons_succ, List.getElem?_cons_zero, Option.bind_some, Option.map_some]) | (refine awp_region_draw (nt := 99) (id := 7) tabOk [(0, true, false), (1, true, false), (2, true, false), (3, true, false), (4, true, false), (5, true, false), (6, true, false), (7, true, false), (8, true, false), (9, true, false), (10, true, false), (11, true, false), (12, true, false), (13, true, false), (14, true, false), (15, true, false), (16, true, false), (17, true, false), (18, true, false), (19, true, false), (20, true, false), (21, true, false), (22, true, false), (23, true, false), (24, true, false), (25, true, false), (26, true, false), (27, true, false), (28, true, false), (29, true, false), (30, true, false), (31, true, false), (32, true, false), (33, true, false), (34, true, false), (35, true, false), (36, true, false), (37, true, false), (38, true, false), (39, true, false), (40, true, false), (41, true, false), (42, true, false), (43, true, false), (44, true, false), (45, true, false)] (by kernel_rfl) rfl (by kernel_rfl) ?_; simp only [prep, pickO, List.map_cons, List.map_nil, List.getElem?_toArray, List.getElem?_cons_succ, List.getElem?_cons_zero, Option.bind_some, Option.map_some]) | ((with_reducible apply awp_cond); (focus (simp only [St.ev, St.set, upd, Nat.reduceEqDiff, reduceIte, if_false, if_true]; exact rfl)); all_goals (intro hb; first | (cases hb; done) | ((try rw [hb]); (try simp only [decide_eq_true_eq, decide_eq_false_iff_not, beq_iff_eq, bne_iff_ne, beq_eq_false_iff_ne, bne_eq_false_iff_eq, Int.not_lt, Int.not_le, Bool.not_eq_true', Bool.not_eq_false'] at hb)))) | ((with_reducible refine And.intro ?_ ?_); (focus omega)) | ((with_reducible refine And.intro ?_ ?_); (focus (exact rfl))) | (simp only [doneH]; simp only [ressK, resK, wrapR, go_sem, Nat.reduceAdd, Nat.reduceMul, Nat.reduceEqDiff, Nat.reduceLT, reduceIte, reduceCtorEq]) | fail)
  all_goals first | (exact hQ 0 (by omega) (by omega)) | (exact hQ _ (hm _ (by omega)).1 (by have h9 := (hm (bs.getD ((q : Int) + 1 - 1).toNat 0) (by omega)).2; omega)) | skip
  refine ⟨_, fun P w => rfl, ?_⟩
  have hx := bits_xor_in (bs.getD (((q : Int) + 1 - 1) % (L : Int)).toNat 0 * 131 + bs.getD ((((q : Int) + 1 - 1) * 7 + 3) % (L : Int)).toNat 0 * 1117 + ((q : Int) + 1 - 1) * 29 + ((q : Int) + 1 - 1) / (L : Int) * 53) ((bs.getD (((q : Int) + 1 - 1) % (L : Int)).toNat 0 * 131 + bs.getD ((((q : Int) + 1 - 1) * 7 + 3) % (L : Int)).toNat 0 * 1117 + ((q : Int) + 1 - 1) * 29 + ((q : Int) + 1 - 1) / (L : Int) * 53) / 64) (by omega) (by omega)
  generalize bits .xor .i64 (bs.getD (((q : Int) + 1 - 1) % (L : Int)).toNat 0 * 131 + bs.getD ((((q : Int) + 1 - 1) * 7 + 3) % (L : Int)).toNat 0 * 1117 + ((q : Int) + 1 - 1) * 29 + ((q : Int) + 1 - 1) / (L : Int) * 53) ((bs.getD (((q : Int) + 1 - 1) % (L : Int)).toNat 0 * 131 + bs.getD ((((q : Int) + 1 - 1) * 7 + 3) % (L : Int)).toNat 0 * 1117 + ((q : Int) + 1 - 1) * 29 + ((q : Int) + 1 - 1) / (L : Int) * 53) / 64) = x at *
  repeat' (first | refine awp_seq_k fun K hK => ?_ | ((with_reducible refine hK _ ?_); clear hK K) | ((with_reducible refine aord_plain fun K hK => ?_); simp only [go_sem, Nat.reduceAdd, Nat.reduceMul, Nat.reduceEqDiff, Nat.reduceLT, reduceIte, reduceCtorEq, h0, h1]) | ((first | with_reducible refine aord_nil ?_ | refine awp_skip ?_ | refine awp_exit ?_ | refine awp_ret ?_); try simp only [thenA_normal, thenA_exit, thenA_goto, thenA_ret, blockA_normal, blockA_same, blockA_exit, blockA_goto, blockA_ret, Nat.reduceEqDiff, if_false, if_true, reduceIte]) | (refine awp_region tabOk rfl ?_; simp only [prep, pickO, List.map_cons, List.map_nil, List.getElem?_toArray, List.getElem?_cons_succ, List.getElem?_cons_zero, Option.bind_some, Option.map_some]) | ((with_reducible refine And.intro ?_ ?_); (focus omega)) | (simp only [doneH]; simp only [ressK, resK, wrapR, go_sem, Nat.reduceAdd, Nat.reduceMul, Nat.reduceEqDiff, Nat.reduceLT, reduceIte, reduceCtorEq]) | fail)
  all_goals exact hQ _ (hm _ (by omega)).1 (by have h9 := (hm x (by omega)).2; omega)


theorem one_sat : SatH Try.prog 63 (fun al h n K => ∃ (bs : List Int) (L : Nat) (lim : Option Nat) (j m : Nat) (zs : List Int) (q : Nat), al = [.ref 1 0, .sl j 0 m 1 none] ∧ (h 0 = some ⟨false, .ints .u8 bs⟩) ∧ (h 1 = some ⟨true, .cells [.sl 0 0 L 1 lim, .val (.int .i64 q)]⟩) ∧ (L ≤ bs.length ∧ L ≤ 1099511627776) ∧ (bytesOk bs) ∧ (h j = some ⟨true, .ints .i64 zs⟩) ∧ (j ≠ 1) ∧ (m = zs.length ∧ 0 < m ∧ m ≤ 1000) ∧ (q ≤ 1000000) ∧ ∀ v : Nat, v < m → K (.val (.int .i64 ((zs.getD v 0)))) (upd h 1 (some ⟨true, .cells [.sl 0 0 L 1 lim, .val (.int .i64 ((q : Int) + 1))]⟩)) (n)) := by
  refine satH_intro tabOk Try.func63 rfl 12 rfl [.tmp 4] rfl ?_
  rintro F W h n al K0 ⟨bs, L, lim, j, m, zs, q, rfl, h0, h1, hL, hbs, hj, hj1, hm, hq, hQ⟩
  refine ⟨Nat.le_of_ble_eq_true rfl, fun m0 hm0 hcl hlt => ?_⟩
  simp only [initT]
  have hne : (j = 1) = False := eq_false hj1
  repeat' (first | refine awp_seq_k fun K hK => ?_ | ((with_reducible refine hK _ ?_); clear hK K) | ((with_reducible refine aord_plain fun K hK => ?_); simp only [go_sem, Nat.reduceAdd, Nat.reduceMul, Nat.reduceEqDiff, Nat.reduceLT, reduceIte, reduceCtorEq, h0, h1, hj, hne]) | ((first | with_reducible refine aord_nil ?_ | refine awp_skip ?_ | refine awp_exit ?_ | refine awp_ret ?_); try simp only [thenA_normal, thenA_exit, thenA_goto, thenA_ret, blockA_normal, blockA_same, blockA_exit, blockA_goto, blockA_ret, Nat.reduceEqDiff, if_false, if_true, reduceIte]) | (refine awp_region tabOk rfl ?_; simp only [prep, pickO, List.map_cons, List.map_nil, List.getElem?_toArray, List.getElem?_cons_succ, List.getElem?_cons_zero, Option.bind_some, Option.map_some]) | ((with_reducible refine And.intro (?_ : enters Try.prog 49) ?_); (focus exact Try.call49); (refine callX_satH pick_sat ?_); simp only [go_sem, and_assoc, List.nil_append, List.append_nil, List.cons_append, Nat.reduceEqDiff, reduceIte, reduceCtorEq, h0, h1, hj, hne]) | fail)
  refine ⟨L, lim, q, rfl, hL.1, hL.2, hbs, hq, by omega, ?_⟩
  intro v hv0 hv1
  repeat' (first | ((with_reducible refine hK _ ?_); clear hK K) | ((with_reducible refine aord_plain fun K hK => ?_); simp only [go_sem, Nat.reduceAdd, Nat.reduceMul, Nat.reduceEqDiff, Nat.reduceLT, reduceIte, reduceCtorEq, h0, h1, hj, hne]) | ((first | with_reducible refine aord_nil ?_ | refine awp_skip ?_ | refine awp_exit ?_ | refine awp_ret ?_); try simp only [thenA_normal, thenA_exit, thenA_goto, thenA_ret, blockA_normal, blockA_same, blockA_exit, blockA_goto, blockA_ret, Nat.reduceEqDiff, if_false, if_true, reduceIte]) | ((with_reducible refine And.intro ?_ ?_); (focus omega)) | (simp only [doneH]; simp only [ressK, resK, wrapR, go_sem, Nat.reduceAdd, Nat.reduceMul, Nat.reduceEqDiff, Nat.reduceLT, reduceIte, reduceCtorEq]) | fail)
  exact hQ v.toNat (by omega)


end Go.Proofs.Ytacmgdaonacmeaa
