/- Contracts of functions of the program. -/
import Derived.Test.YtoapfnojfcjeeaaPFSOLd
import Derived.ScopeJumps
namespace Go.Proofs.Ytoapfnojfcjeeaa
open Go Go.Ab
set_option linter.all false
set_option maxHeartbeats 4000000

-- %range
theorem collectV_sat : SatH Try.prog 54 (fun al h n K => ∃ (VB KB FB SB A O : Nat) (b : Bool) (fs : List (Int × Int)) (xss : List (List Int)) (f : Nat → Nat), al = [.clo (.func 91) [] [.ref VB 0, .ref KB 0]] ∧ (h VB = some ⟨true, .cells [.clo (.func 92) [] [.ref SB 0]]⟩) ∧ (h KB = some ⟨true, .cells [.clo (.func 82) [] [.ref FB 0]]⟩) ∧ (h FB = some ⟨true, .cells [.sl A 0 fs.length 2 none]⟩) ∧ (h A = some ⟨b, .ints .i64 (flF fs)⟩) ∧ (h SB = some ⟨true, .cells [.sl O 0 xss.length 1 none]⟩) ∧ (RowsOf h n O f xss) ∧ (fs.length ≤ 1000) ∧ (xss.length ≤ 500) ∧ (∀ j, (xss.getD j []).length ≤ 1000) ∧ ∀ (H : Hp) (N P : Nat) (g : Nat → Nat), RowsOf H N P g (xss.filter (agB fs)) → n ≤ P → (∀ j, j < (xss.filter (agB fs)).length → ∃ m, m < xss.length ∧ g j = f m) → (∀ u, u < n → H u = h u) → n ≤ N → K (.sl P 0 (xss.filter (agB fs)).length 1 none) (H) (N)) := by
  refine satH_intro tabOk Try.func54 rfl 5 rfl [.tmp 2] rfl ?_
  rintro F W h n al K0 ⟨VB, KB, FB, SB, A, O, b, fs, xss, f, rfl, hV, hK1, hF, hA, hS, hR, hl, hxl, hx, hQ⟩
  refine ⟨Nat.le_of_ble_eq_true rfl, fun m0 hm0 hcl hlt => ?_⟩
  simp only [initT]
  have hVn := (hcl VB _ hV).1
  have hKn := (hcl KB _ hK1).1
  have hFn := (hcl FB _ hF).1
  have hAn := (hcl A _ hA).1
  have hSn := (hcl SB _ hS).1
  have hOn := hR.outn
  have hOr := hR.out
  have hsl := @slsN_len f xss 0
  have z1 : (VB = n) = False := eq_false (by omega)
  have z2 : ∀ k, (VB = n + k) = False := fun k => eq_false (by omega)
  have z3 : (KB = n) = False := eq_false (by omega)
  have z4 : ∀ k, (KB = n + k) = False := fun k => eq_false (by omega)
  have z5 : (SB = n) = False := eq_false (by omega)
  have z6 : ∀ k, (SB = n + k) = False := fun k => eq_false (by omega)
  have z7 : (O = n) = False := eq_false (by omega)
  have z8 : ∀ k, (O = n + k) = False := fun k => eq_false (by omega)
  have z9 : (FB = n) = False := eq_false (by omega)
  have za : ∀ k, (FB = n + k) = False := fun k => eq_false (by omega)
  have zb : (A = n) = False := eq_false (by omega)
  have zc : ∀ k, (A = n + k) = False := fun k => eq_false (by omega)
  have hZ := And.intro hV (And.intro hK1 (And.intro hF (And.intro hA (And.intro hS (And.intro hOr (And.intro z1 (And.intro z2 (And.intro z3 (And.intro z4 (And.intro z5 (And.intro z6 (And.intro z7 (And.intro z8 (And.intro z9 (And.intro za (And.intro zb zc))))))))))))))))


  repeat' (first | refine awp_seq_k fun K hK => ?_ | ((with_reducible refine hK _ ?_); clear hK K) | ((with_reducible refine aord_plain fun K hK => ?_); simp only [go_sem, Nat.reduceAdd, Nat.reduceMul, Nat.reduceEqDiff, Nat.reduceLT, reduceIte, reduceCtorEq, hZ, Nat.add_eq_left, Nat.left_eq_add, Nat.add_assoc, Nat.reduceAdd, if_false, if_true, hZ, hsl]) | refine awp_block ?_ | ((first | with_reducible refine aord_nil ?_ | refine awp_skip ?_ | refine awp_exit ?_ | refine awp_ret ?_); try simp only [thenA_normal, thenA_exit, thenA_goto, thenA_ret, blockA_normal, blockA_same, blockA_exit, blockA_goto, blockA_ret, Nat.reduceEqDiff, if_false, if_true, reduceIte]) | (refine awp_region tabOk rfl ?_; simp only [prep, pickO, List.map_cons, List.map_nil, List.getElem?_toArray, List.getElem?_cons_succ, List.getElem?_cons_zero, Option.bind_some, Option.map_some]) | ((with_reducible refine And.intro (?_ : enters Try.prog 80) ?_); (focus exact Try.call80); (refine callX_h (callH_inline tabOk Try.func80 rfl 13 rfl [.tmp 4] rfl (Nat.le_of_ble_eq_true rfl) fun m0 hm0 hcl hlt => ?_)); simp only [initT, St.ev, St.set, upd, Nat.reduceEqDiff, reduceIte, if_false, if_true, hZ, Nat.add_eq_left, Nat.left_eq_add, Nat.add_assoc, Nat.reduceAdd, if_false, if_true]) | fail)
  refine awp_nilcell n 0 [.val (.slice none 0 0)] (.cells []) rfl rfl (by simp only [St.ev, St.set, upd, Nat.reduceEqDiff, reduceIte, if_false, if_true, hZ, Nat.add_eq_left, Nat.left_eq_add, Nat.add_assoc, Nat.reduceAdd, if_false, if_true] <;> exact rfl) rfl ?_
  simp only [St.ev, St.set, upd, Nat.reduceEqDiff, reduceIte, if_false, if_true, hZ, Nat.add_eq_left, Nat.left_eq_add, Nat.add_assoc, Nat.reduceAdd, if_false, if_true, List.set_cons_zero]
  (refine awp_range (gf := 91) (by simp only [St.ev, St.set, upd, Nat.reduceEqDiff, reduceIte, if_false, if_true, hZ, Nat.add_eq_left, Nat.left_eq_add, Nat.add_assoc, Nat.reduceAdd, if_false, if_true]; first | exact fnV_clo | exact fnV_val) Try.call91 (fun LP LP1 LP2 LP3 LP4 LP5 => callX_h (callH_inline tabOk Try.func91 rfl 16 rfl [] rfl (Nat.le_of_ble_eq_true rfl) fun m0 hm0 hcl hlt => ?_)); simp only [List.nil_append, List.cons_append, initT, St.ev, St.set, upd, Nat.reduceEqDiff, reduceIte, if_false, if_true, hZ, Nat.add_eq_left, Nat.left_eq_add, Nat.add_assoc, Nat.reduceAdd, if_false, if_true])
  repeat' (first | refine awp_seq_k fun K hK => ?_ | ((with_reducible refine hK _ ?_); clear hK K) | ((with_reducible refine aord_plain fun K hK => ?_); simp only [go_sem, Nat.reduceAdd, Nat.reduceMul, Nat.reduceEqDiff, Nat.reduceLT, reduceIte, reduceCtorEq, hZ, Nat.add_eq_left, Nat.left_eq_add, Nat.add_assoc, Nat.reduceAdd, if_false, if_true, hZ, hsl]) | refine awp_block ?_ | ((first | with_reducible refine aord_nil ?_ | refine awp_skip ?_ | refine awp_exit ?_ | refine awp_ret ?_); try simp only [thenA_normal, thenA_exit, thenA_goto, thenA_ret, blockA_normal, blockA_same, blockA_exit, blockA_goto, blockA_ret, Nat.reduceEqDiff, if_false, if_true, reduceIte]) | (refine awp_region tabOk rfl ?_; simp only [prep, pickO, List.map_cons, List.map_nil, List.getElem?_toArray, List.getElem?_cons_succ, List.getElem?_cons_zero, Option.bind_some, Option.map_some]) | fail)
  (refine awp_range (gf := 92) (by simp only [St.ev, St.set, upd, Nat.reduceEqDiff, reduceIte, if_false, if_true, hZ, Nat.add_eq_left, Nat.left_eq_add, Nat.add_assoc, Nat.reduceAdd, if_false, if_true]; first | exact fnV_clo | exact fnV_val) Try.call92 (fun LQ LQ1 LQ2 LQ3 LQ4 LQ5 => callX_h (callH_inline tabOk Try.func92 rfl 16 rfl [] rfl (Nat.le_of_ble_eq_true rfl) fun m0 hm0 hcl hlt => ?_)); simp only [List.nil_append, List.cons_append, initT, St.ev, St.set, upd, Nat.reduceEqDiff, reduceIte, if_false, if_true, hZ, Nat.add_eq_left, Nat.left_eq_add, Nat.add_assoc, Nat.reduceAdd, if_false, if_true])
  repeat' (first | refine awp_seq_k fun K hK => ?_ | ((with_reducible refine hK _ ?_); clear hK K) | ((with_reducible refine aord_plain fun K hK => ?_); simp only [go_sem, Nat.reduceAdd, Nat.reduceMul, Nat.reduceEqDiff, Nat.reduceLT, reduceIte, reduceCtorEq, hZ, Nat.add_eq_left, Nat.left_eq_add, Nat.add_assoc, Nat.reduceAdd, if_false, if_true, hZ, hsl]) | refine awp_block ?_ | ((first | with_reducible refine aord_nil ?_ | refine awp_skip ?_ | refine awp_exit ?_ | refine awp_ret ?_); try simp only [thenA_normal, thenA_exit, thenA_goto, thenA_ret, blockA_normal, blockA_same, blockA_exit, blockA_goto, blockA_ret, Nat.reduceEqDiff, if_false, if_true, reduceIte]) | (refine awp_region tabOk rfl ?_; simp only [prep, pickO, List.map_cons, List.map_nil, List.getElem?_toArray, List.getElem?_cons_succ, List.getElem?_cons_zero, Option.bind_some, Option.map_some]) | fail)
  have hI : ∀ G, (∀ u, u < n → G u = h u) → G n = some ⟨true, .cells [.sl (n + 1) 0 0 1 none]⟩ → G (n + 1) = some ⟨true, .cells []⟩ → G (n + 2) = some ⟨true, .raw (.loop LP)⟩ → G (n + 3) = some ⟨true, .cells [.yl (n + 2)]⟩ → G (n + 4) = some ⟨true, .raw (.loop LQ)⟩ → CI h n f xss.length LP LQ [] (n + 1) (fun _ => 0) G (n + 5) 0 := fun G g1 g2 g3 g4 g5 g6 =>
    ⟨g1, g2, g4, g5, g6, ⟨g3, by omega, fun j hj => by simp at hj, fun j hj => by simp at hj, fun j l hj => by simp at hj⟩, Nat.le_refl _, .inl rfl, fun j hj => by simp at hj⟩
  refine awp_loop (fun q : Hp × Nat × Nat × (Nat → Nat) × Nat => ⟨upd (upd (upd (upd bot 7 (.val (.int .i64 q.2.2.2.2))) 6 (.val (.int .i64 xss.length))) 5 (.sl O 0 xss.length 1 none)) 0 (.yl (n + 4)), q.1, q.2.1⟩) (fun q => q.2.2.2.2 ≤ xss.length ∧ CI h n f xss.length LP LQ ((xss.take q.2.2.2.2).filter (agB fs)) q.2.2.1 q.2.2.2.1 q.1 q.2.1 q.2.2.2.2) (fun q => xss.length - q.2.2.2.2) ((upd (upd (upd (upd (upd (upd h n (some ⟨true, .cells [.val (.slice none 0 0)]⟩)) n (some ⟨true, .cells [.sl (n + 1) 0 0 1 none]⟩)) (n + 1) (some ⟨true, .cells []⟩)) (n + 2) (some ⟨true, .raw (.loop LP)⟩)) (n + 3) (some ⟨true, .cells [.yl (n + 2)]⟩)) (n + 4) (some ⟨true, .raw (.loop LQ)⟩)), n + 5, n + 1, (fun _ => 0), 0) ⟨Nat.zero_le _, hI _ ?_ ?_ ?_ ?_ ?_ ?_⟩ ?_ ?_
  · exact fun u hu => by dsimp only; (repeat rw [upd_ne _ _ (by omega)])
  · dsimp only; (repeat (first | rw [upd_same] | rw [upd_ne _ _ (by omega)]))
  · dsimp only; (repeat (first | rw [upd_same] | rw [upd_ne _ _ (by omega)]))
  · dsimp only; (repeat (first | rw [upd_same] | rw [upd_ne _ _ (by omega)]))
  · dsimp only; (repeat (first | rw [upd_same] | rw [upd_ne _ _ (by omega)]))
  · dsimp only; (repeat (first | rw [upd_same] | rw [upd_ne _ _ (by omega)]))
  · exact Wk.sub (tsd (tsd (tsd (tsd tsd0 rfl) rfl) rfl) rfl) (fun _ _ h => h) rfl
  clear hI
  rintro ⟨G, M, X, g, i⟩ ⟨hix, hI⟩
  dsimp only at hix hI ⊢
  have hnn := hI.nn
  have c0 := hI.c0
  have c2 := hI.c2
  have c3 := hI.c3
  have c4 := hI.c4
  have hfr := hI.fr
  have GV := (hfr VB hVn).trans hV
  have GK := (hfr KB hKn).trans hK1
  have GF := (hfr FB hFn).trans hF
  have GA := (hfr A hAn).trans hA
  have GS := (hfr SB hSn).trans hS
  have GO := (hfr O hOn).trans hOr
  have hN2 := And.intro c0 (And.intro c2 (And.intro c3 (And.intro c4 (And.intro GV (And.intro GK (And.intro GF (And.intro GA (And.intro GS GO))))))))
  rcases Nat.lt_or_ge i xss.length with hlt2 | hge
  · have hget := hR.get hlt2
    have hrow := (hfr (f i) (hR.lt i hlt2).1).trans (hR.row i hlt2)
    have hxi := hx i
    have hfi := hR.lt i hlt2
    have y1 : (f i = n) = False := eq_false (by omega)
    have y2 : ∀ k, (f i = n + k) = False := fun k => eq_false (by omega)
    generalize hfe : f i = q at *
    generalize hxe : xss.getD i [] = x at *
    have hY := And.intro hrow (And.intro y1 y2)


    repeat' (first | refine awp_seq_k fun K hK => ?_ | ((with_reducible refine hK _ ?_); clear hK K) | (clear hK K; (with_reducible refine hK _ ?_); clear hK K) | ((with_reducible refine aord_plain fun K hK => ?_); simp only [go_sem, Nat.reduceAdd, Nat.reduceMul, Nat.reduceEqDiff, Nat.reduceLT, reduceIte, reduceCtorEq, hN2, hZ, hY, Nat.add_eq_left, Nat.left_eq_add, Nat.add_assoc, Nat.reduceAdd, if_false, if_true, hN2, hZ, hY, hget, hsl]) | refine awp_block ?_ | ((first | with_reducible refine aord_nil ?_ | refine awp_skip ?_ | refine awp_exit ?_ | refine awp_ret ?_); try simp only [thenA_normal, thenA_exit, thenA_goto, thenA_ret, blockA_normal, blockA_same, blockA_exit, blockA_goto, blockA_ret, Nat.reduceEqDiff, if_false, if_true, reduceIte]) | (refine awp_region tabOk rfl ?_; simp only [prep, pickO, List.map_cons, List.map_nil, List.getElem?_toArray, List.getElem?_cons_succ, List.getElem?_cons_zero, Option.bind_some, Option.map_some]) | ((with_reducible apply awp_cond); (focus (simp only [St.ev, St.set, upd, Nat.reduceEqDiff, reduceIte, if_false, if_true, hN2, hZ, hY, Nat.add_eq_left, Nat.left_eq_add, Nat.add_assoc, Nat.reduceAdd, if_false, if_true]; exact rfl)); all_goals (intro hb; first | (cases hb; done) | ((try rw [hb]); (try simp only [decide_eq_true_eq, decide_eq_false_iff_not, beq_iff_eq, bne_iff_ne, beq_eq_false_iff_ne, bne_eq_false_iff_eq, Int.not_lt, Int.not_le, Bool.not_eq_true', Bool.not_eq_false'] at hb)))) | ((with_reducible refine And.intro ?_ ?_); (focus omega)) | (simp only [doneH]; simp only [ressK, resK, wrapR, go_sem, Nat.reduceAdd, Nat.reduceMul, Nat.reduceEqDiff, Nat.reduceLT, reduceIte, reduceCtorEq, hN2, hZ, hY, Nat.add_eq_left, Nat.left_eq_add, Nat.add_assoc, Nat.reduceAdd, if_false, if_true]) | ((with_reducible apply endA_go); (focus (simp only [St.ev, St.set, upd, Nat.reduceEqDiff, reduceIte, if_false, if_true, hN2, hZ, hY, Nat.add_eq_left, Nat.left_eq_add, Nat.add_assoc, Nat.reduceAdd, if_false, if_true]; exact rfl)); (focus assumption); (focus assumption); (try simp only [thenA_normal, thenA_exit, thenA_goto, thenA_ret, blockA_normal, blockA_same, blockA_exit, blockA_goto, blockA_ret, Nat.reduceEqDiff, if_false, if_true, reduceIte])) | (exfalso; omega) | fail)
    (refine yield_round (lp := LQ) (by first | (simp only [St.ev, St.set, upd, Nat.reduceEqDiff, reduceIte, if_false, if_true, hN2, hZ, hY, Nat.add_eq_left, Nat.left_eq_add, Nat.add_assoc, Nat.reduceAdd, if_false, if_true]; done) | (simp only [St.ev, St.set, upd, Nat.reduceEqDiff, reduceIte, if_false, if_true, hN2, hZ, hY, Nat.add_eq_left, Nat.left_eq_add, Nat.add_assoc, Nat.reduceAdd, if_false, if_true]; exact rfl)) LQ1 LQ2 (by first | exact List.mem_cons_self | exact List.mem_cons_of_mem _ List.mem_cons_self | exact List.mem_cons_of_mem _ (List.mem_cons_of_mem _ List.mem_cons_self) | exact List.mem_cons_of_mem _ (List.mem_cons_of_mem _ (List.mem_cons_of_mem _ List.mem_cons_self))) (by first | (rw [LQ3]; done) | (rw [LQ3]; rfl)) (by rw [LQ3]; decide) (fun m0 hm0 hcl hlt => ?_); rw [LQ3, LQ4, LQ5]; simp only [zipT, St.ev, St.set, upd, Nat.reduceEqDiff, reduceIte, if_false, if_true, hN2, hZ, hY, Nat.add_eq_left, Nat.left_eq_add, Nat.add_assoc, Nat.reduceAdd, if_false, if_true])
    repeat' (first | refine awp_seq_k fun K hK => ?_ | ((with_reducible refine hK _ ?_); clear hK K) | ((with_reducible refine aord_plain fun K hK => ?_); simp only [go_sem, Nat.reduceAdd, Nat.reduceMul, Nat.reduceEqDiff, Nat.reduceLT, reduceIte, reduceCtorEq, hN2, hZ, hY, Nat.add_eq_left, Nat.left_eq_add, Nat.add_assoc, Nat.reduceAdd, if_false, if_true, hN2, hZ, hY, hget, hsl]) | refine awp_block ?_ | (refine awp_region tabOk rfl ?_; simp only [prep, pickO, List.map_cons, List.map_nil, List.getElem?_toArray, List.getElem?_cons_succ, List.getElem?_cons_zero, Option.bind_some, Option.map_some]) | ((with_reducible refine And.intro (?_ : enters Try.prog 82) ?_); (focus exact Try.call82); (refine callX_satH agree_sat ?_); simp only [go_sem, and_assoc, List.nil_append, List.append_nil, List.cons_append, Nat.reduceEqDiff, reduceIte, reduceCtorEq, hN2, hZ, hY, Nat.add_eq_left, Nat.left_eq_add, Nat.add_assoc, Nat.reduceAdd, if_false, if_true, hN2, hZ, hY, hget, hsl]) | fail)
    refine ⟨A, FB, true, b, x, rfl, rfl, rfl, rfl, fs, by rw [if_neg (by omega)]; exact GA, by rw [if_neg (by omega)]; exact GF, by omega, hl, fun N2 hN2b => ?_⟩
    have htk : xss.take (i + 1) = xss.take i ++ [x] := by
      rw [List.take_succ_eq_append_getElem hlt2]
      rw [List.getD_eq_getElem?_getD, List.getElem?_eq_getElem hlt2] at hxe
      exact congrArg (fun y => xss.take i ++ [y]) hxe
    cases hag : agB fs x with
    | false =>
      have hfl2 : (xss.take (i + 1)).filter (agB fs) = (xss.take i).filter (agB fs) := by rw [htk, List.filter_append, List.filter_cons_of_neg (by rw [hag]; simp), List.filter_nil, List.append_nil]


      repeat' (first | ((with_reducible refine hK _ ?_); clear hK K) | ((with_reducible refine aord_plain fun K hK => ?_); simp only [go_sem, Nat.reduceAdd, Nat.reduceMul, Nat.reduceEqDiff, Nat.reduceLT, reduceIte, reduceCtorEq, hN2, hZ, hY, hag, Nat.add_eq_left, Nat.left_eq_add, Nat.add_assoc, Nat.reduceAdd, if_false, if_true, hN2, hZ, hY, hag]) | ((with_reducible apply aord_guard); (focus (simp only [St.ev, St.set, upd, Nat.reduceEqDiff, reduceIte, if_false, if_true, hN2, hZ, hY, hag, Nat.add_eq_left, Nat.left_eq_add, Nat.add_assoc, Nat.reduceAdd, if_false, if_true]; exact rfl)); all_goals (intro hb; (try simp only [Bool.not_true, Bool.not_false] at hb); first | (cases hb; done) | ((try rw [hb]); (try simp only [Bool.not_eq_true', Bool.not_eq_false', Bool.and_eq_true, decide_eq_true_eq, decide_eq_false_iff_not, beq_iff_eq, bne_iff_ne, beq_eq_false_iff_ne, bne_eq_false_iff_eq, Int.not_lt, Int.not_le] at hb); (try (revert hb; with_reducible refine true_imp_iff.2 ?_)); first | (intro K hK; simp only [go_sem, Nat.reduceAdd, Nat.reduceMul, Nat.reduceEqDiff, Nat.reduceLT, reduceIte, reduceCtorEq, hN2, hZ, hY, hag, Nat.add_eq_left, Nat.left_eq_add, Nat.add_assoc, Nat.reduceAdd, if_false, if_true]) | (simp only [St.ev, St.set, upd, Nat.reduceEqDiff, reduceIte, if_false, if_true, hN2, hZ, hY, hag, Nat.add_eq_left, Nat.left_eq_add, Nat.add_assoc, Nat.reduceAdd, if_false, if_true]) | skip))) | ((first | with_reducible refine aord_nil ?_ | refine awp_skip ?_ | refine awp_exit ?_ | refine awp_ret ?_); try simp only [thenA_normal, thenA_exit, thenA_goto, thenA_ret, blockA_normal, blockA_same, blockA_exit, blockA_goto, blockA_ret, Nat.reduceEqDiff, if_false, if_true, reduceIte]) | (refine awp_region tabOk rfl ?_; simp only [prep, pickO, List.map_cons, List.map_nil, List.getElem?_toArray, List.getElem?_cons_succ, List.getElem?_cons_zero, Option.bind_some, Option.map_some]) | ((with_reducible apply awp_cond); (focus (simp only [St.ev, St.set, upd, Nat.reduceEqDiff, reduceIte, if_false, if_true, hN2, hZ, hY, hag, Nat.add_eq_left, Nat.left_eq_add, Nat.add_assoc, Nat.reduceAdd, if_false, if_true]; exact rfl)); all_goals (intro hb; first | (cases hb; done) | ((try rw [hb]); (try simp only [decide_eq_true_eq, decide_eq_false_iff_not, beq_iff_eq, bne_iff_ne, beq_eq_false_iff_ne, bne_eq_false_iff_eq, Int.not_lt, Int.not_le, Bool.not_eq_true', Bool.not_eq_false'] at hb)))) | ((with_reducible refine And.intro ?_ ?_); (focus omega)) | ((with_reducible refine roundA_normal ?_); simp only [St.ev, St.set, upd, Nat.reduceEqDiff, reduceIte, if_false, if_true, hN2, hZ, hY, hag, Nat.add_eq_left, Nat.left_eq_add, Nat.add_assoc, Nat.reduceAdd, if_false, if_true]) | fail)
      refine ⟨(upd (upd G (n + 4) none) (n + 4) (some ⟨true, .raw (.loop LQ)⟩), N2, X, g, i + 1), ⟨by dsimp only; omega, ?_⟩, by dsimp only; omega, Wk.sub (tsd (tsd (tsd (tsd tsd0 rfl) rfl) rfl) rfl) (fun _ _ h => h) rfl⟩
      dsimp only
      rw [hfl2]
      refine hI.up hN2b fun u hu => ?_
      by_cases e : u = n + 4
      · subst e; rw [upd_same]; exact c4.symm
      · rw [upd_ne _ _ e, upd_ne _ _ e]
    | true =>
      have hfl2 : (xss.take (i + 1)).filter (agB fs) = (xss.take i).filter (agB fs) ++ [x] := by rw [htk, List.filter_append, List.filter_cons_of_pos hag, List.filter_nil]
      have hll := List.length_filter_le (agB fs) (xss.take i)
      have hlt3 : (xss.take i).length ≤ 500 := by rw [List.length_take]; omega
      have hRw := hI.rows
      have hO := hRw.out
      have hXn := hRw.outn
      have hxm := hI.xm
      have hix2 := hI.ix
      have hsl2 := @slsN_len g ((xss.take i).filter (agB fs)) 0
      generalize hLL : (xss.take i).filter (agB fs) = L at *
      have v1 : (n = N2) = False := eq_false (by omega)
      have v2 : (N2 = n) = False := eq_false (by omega)
      have v3 : ∀ k, (n = N2 + k) = False := fun k => eq_false (by omega)
      have v4 : ∀ k, (N2 + k = n) = False := fun k => eq_false (by omega)
      have v5 : (n + 2 = N2) = False := eq_false (by omega)
      have v6 : (N2 = n + 2) = False := eq_false (by omega)
      have v7 : ∀ k, (n + 2 = N2 + k) = False := fun k => eq_false (by omega)
      have v8 : ∀ k, (N2 + k = n + 2) = False := fun k => eq_false (by omega)
      have v9 : (n + 4 = N2) = False := eq_false (by omega)
      have va : (N2 = n + 4) = False := eq_false (by omega)
      have vb : ∀ k, (n + 4 = N2 + k) = False := fun k => eq_false (by omega)
      have vc : ∀ k, (N2 + k = n + 4) = False := fun k => eq_false (by omega)
      have vd : (X = N2) = False := eq_false (by omega)
      have ve : (N2 = X) = False := eq_false (by omega)
      have vf : (X = n) = False := eq_false (by omega)
      have vg : (n = X) = False := eq_false (by omega)
      have vh : (X = n + 2) = False := eq_false (by omega)
      have vi : (n + 2 = X) = False := eq_false (by omega)
      have vj : (X = n + 4) = False := eq_false (by omega)
      have vk : (n + 4 = X) = False := eq_false (by omega)
      have hVm := And.intro v1 (And.intro v2 (And.intro v3 (And.intro v4 (And.intro v5 (And.intro v6 (And.intro v7 (And.intro v8 (And.intro v9 (And.intro va (And.intro vb (And.intro vc (And.intro vd (And.intro ve (And.intro vf (And.intro vg (And.intro vh (And.intro vi (And.intro vj vk))))))))))))))))))


      repeat' (first | ((with_reducible refine hK _ ?_); clear hK K) | ((with_reducible refine aord_plain fun K hK => ?_); simp only [go_sem, Nat.reduceAdd, Nat.reduceMul, Nat.reduceEqDiff, Nat.reduceLT, reduceIte, reduceCtorEq, hN2, hZ, hY, hag, Nat.add_eq_left, Nat.left_eq_add, Nat.add_assoc, Nat.reduceAdd, if_false, if_true, hN2, hZ, hY, hag]) | ((with_reducible apply aord_guard); (focus (simp only [St.ev, St.set, upd, Nat.reduceEqDiff, reduceIte, if_false, if_true, hN2, hZ, hY, hag, Nat.add_eq_left, Nat.left_eq_add, Nat.add_assoc, Nat.reduceAdd, if_false, if_true]; exact rfl)); all_goals (intro hb; (try simp only [Bool.not_true, Bool.not_false] at hb); first | (cases hb; done) | ((try rw [hb]); (try simp only [Bool.not_eq_true', Bool.not_eq_false', Bool.and_eq_true, decide_eq_true_eq, decide_eq_false_iff_not, beq_iff_eq, bne_iff_ne, beq_eq_false_iff_ne, bne_eq_false_iff_eq, Int.not_lt, Int.not_le] at hb); (try (revert hb; with_reducible refine true_imp_iff.2 ?_)); first | (intro K hK; simp only [go_sem, Nat.reduceAdd, Nat.reduceMul, Nat.reduceEqDiff, Nat.reduceLT, reduceIte, reduceCtorEq, hN2, hZ, hY, hag, Nat.add_eq_left, Nat.left_eq_add, Nat.add_assoc, Nat.reduceAdd, if_false, if_true]) | (simp only [St.ev, St.set, upd, Nat.reduceEqDiff, reduceIte, if_false, if_true, hN2, hZ, hY, hag, Nat.add_eq_left, Nat.left_eq_add, Nat.add_assoc, Nat.reduceAdd, if_false, if_true]) | skip))) | fail)
      (refine yield_round (lp := LP) (by first | (simp only [St.ev, St.set, upd, Nat.reduceEqDiff, reduceIte, if_false, if_true, hN2, hZ, hY, hag, Nat.add_eq_left, Nat.left_eq_add, Nat.add_assoc, Nat.reduceAdd, if_false, if_true]; done) | (simp only [St.ev, St.set, upd, Nat.reduceEqDiff, reduceIte, if_false, if_true, hN2, hZ, hY, hag, Nat.add_eq_left, Nat.left_eq_add, Nat.add_assoc, Nat.reduceAdd, if_false, if_true]; exact rfl)) LP1 LP2 (by first | exact List.mem_cons_self | exact List.mem_cons_of_mem _ List.mem_cons_self | exact List.mem_cons_of_mem _ (List.mem_cons_of_mem _ List.mem_cons_self) | exact List.mem_cons_of_mem _ (List.mem_cons_of_mem _ (List.mem_cons_of_mem _ List.mem_cons_self))) (by first | (rw [LP3]; done) | (rw [LP3]; rfl)) (by rw [LP3]; decide) (fun m0 hm0 hcl hlt => ?_); rw [LP3, LP4, LP5]; simp only [zipT, St.ev, St.set, upd, Nat.reduceEqDiff, reduceIte, if_false, if_true, hN2, hZ, hY, hag, Nat.add_eq_left, Nat.left_eq_add, Nat.add_assoc, Nat.reduceAdd, if_false, if_true])


      repeat' (first | ((with_reducible refine hK _ ?_); clear hK K) | ((with_reducible refine aord_plain fun K hK => ?_); simp only [go_sem, Nat.reduceAdd, Nat.reduceMul, Nat.reduceEqDiff, Nat.reduceLT, reduceIte, reduceCtorEq, hN2, hZ, hY, hag, hVm, Nat.add_eq_left, Nat.left_eq_add, Nat.add_assoc, Nat.reduceAdd, if_false, if_true, hN2, hZ, hY, hag, hVm]) | refine awp_block ?_ | (refine awp_region tabOk rfl ?_; simp only [prep, pickO, List.map_cons, List.map_nil, List.getElem?_toArray, List.getElem?_cons_succ, List.getElem?_cons_zero, Option.bind_some, Option.map_some]) | ((with_reducible refine And.intro ?_ ?_); (focus omega)) | fail)
      refine aAppend_cells rfl rfl rfl rfl (Nat.le_of_ble_eq_true rfl) (upd_same _ _ _) (by rw [upd_ne _ _ (by omega), upd_ne _ _ (by omega), upd_ne _ _ (by omega)]; exact hO) (by omega) hsl2 rfl (by omega) ?_
      repeat' (first | ((with_reducible refine hK _ ?_); clear hK K) | ((with_reducible refine aord_plain fun K hK => ?_); simp only [go_sem, Nat.reduceAdd, Nat.reduceMul, Nat.reduceEqDiff, Nat.reduceLT, reduceIte, reduceCtorEq, hN2, hZ, hY, hag, hVm, Nat.add_eq_left, Nat.left_eq_add, Nat.add_assoc, Nat.reduceAdd, if_false, if_true, hN2, hZ, hY, hag, hVm]) | ((with_reducible apply aord_guard); (focus (simp only [St.ev, St.set, upd, Nat.reduceEqDiff, reduceIte, if_false, if_true, hN2, hZ, hY, hag, hVm, Nat.add_eq_left, Nat.left_eq_add, Nat.add_assoc, Nat.reduceAdd, if_false, if_true]; exact rfl)); all_goals (intro hb; (try simp only [Bool.not_true, Bool.not_false] at hb); first | (cases hb; done) | ((try rw [hb]); (try simp only [Bool.not_eq_true', Bool.not_eq_false', Bool.and_eq_true, decide_eq_true_eq, decide_eq_false_iff_not, beq_iff_eq, bne_iff_ne, beq_eq_false_iff_ne, bne_eq_false_iff_eq, Int.not_lt, Int.not_le] at hb); (try (revert hb; with_reducible refine true_imp_iff.2 ?_)); first | (intro K hK; simp only [go_sem, Nat.reduceAdd, Nat.reduceMul, Nat.reduceEqDiff, Nat.reduceLT, reduceIte, reduceCtorEq, hN2, hZ, hY, hag, hVm, Nat.add_eq_left, Nat.left_eq_add, Nat.add_assoc, Nat.reduceAdd, if_false, if_true]) | (simp only [St.ev, St.set, upd, Nat.reduceEqDiff, reduceIte, if_false, if_true, hN2, hZ, hY, hag, hVm, Nat.add_eq_left, Nat.left_eq_add, Nat.add_assoc, Nat.reduceAdd, if_false, if_true]) | skip))) | ((first | with_reducible refine aord_nil ?_ | refine awp_skip ?_ | refine awp_exit ?_ | refine awp_ret ?_); try simp only [thenA_normal, thenA_exit, thenA_goto, thenA_ret, blockA_normal, blockA_same, blockA_exit, blockA_goto, blockA_ret, Nat.reduceEqDiff, if_false, if_true, reduceIte]) | (refine awp_region tabOk rfl ?_; simp only [prep, pickO, List.map_cons, List.map_nil, List.getElem?_toArray, List.getElem?_cons_succ, List.getElem?_cons_zero, Option.bind_some, Option.map_some]) | ((with_reducible apply awp_cond); (focus (simp only [St.ev, St.set, upd, Nat.reduceEqDiff, reduceIte, if_false, if_true, hN2, hZ, hY, hag, hVm, Nat.add_eq_left, Nat.left_eq_add, Nat.add_assoc, Nat.reduceAdd, if_false, if_true]; exact rfl)); all_goals (intro hb; first | (cases hb; done) | ((try rw [hb]); (try simp only [decide_eq_true_eq, decide_eq_false_iff_not, beq_iff_eq, bne_iff_ne, beq_eq_false_iff_ne, bne_eq_false_iff_eq, Int.not_lt, Int.not_le, Bool.not_eq_true', Bool.not_eq_false'] at hb)))) | ((with_reducible refine And.intro ?_ ?_); (focus omega)) | ((with_reducible refine roundA_normal ?_); simp only [St.ev, St.set, upd, Nat.reduceEqDiff, reduceIte, if_false, if_true, hN2, hZ, hY, hag, hVm, Nat.add_eq_left, Nat.left_eq_add, Nat.add_assoc, Nat.reduceAdd, if_false, if_true]) | fail)
      have hx1 : (L ++ [x]).length = L.length + 1 := by rw [List.length_append]; rfl
      have hgn : ∀ j, j < L.length → g j < n ∧ q ≠ g j := fun j hj => by
        obtain ⟨m, h1, h2⟩ := hix2 j hj
        refine ⟨by rw [h2]; exact (hR.lt m (by omega)).1, fun e => ?_⟩
        rw [← hfe, h2] at e
        have := hR.inj i m hlt2 (by omega) e
        omega
      refine ⟨(upd (upd (upd (upd (upd (upd (upd (upd G (n + 4) none) (n + 2) none) N2 (some ⟨true, .cells [.sl q 0 x.length 1 none]⟩)) X none) (N2 + 1) (some ⟨true, .cells (slsN g 0 L ++ [.sl q 0 x.length 1 none])⟩)) n (some ⟨true, .cells [.sl (N2 + 1) 0 (L.length + 1) 1 none]⟩)) (n + 2) (some ⟨true, .raw (.loop LP)⟩)) (n + 4) (some ⟨true, .raw (.loop LQ)⟩), N2 + 2, N2 + 1, (fun j => if j = L.length then q else g j), i + 1), ⟨by dsimp only; omega, ?_⟩, by dsimp only; omega, Wk.sub (tsd (tsd (tsd (tsd tsd0 rfl) rfl) rfl) rfl) (fun _ _ h => h) rfl⟩
      dsimp only
      rw [hfl2]
      refine ⟨fun u hu => ?_, ?_, ?_, ?_, ?_, hRw.putN (by omega) (fun j hj => (hgn j hj).2) (by omega) (by omega) (by omega) ?_ ?_ (fun j hj => ?_), by omega, .inr (by omega), fun j hj => ?_⟩
      · (repeat rw [upd_ne _ _ (by omega)])
        exact hfr u hu
      · rw [hx1]; (repeat (first | rw [upd_same] | rw [upd_ne _ _ (by omega)]))
      · (repeat (first | rw [upd_same] | rw [upd_ne _ _ (by omega)]))
      · (repeat rw [upd_ne _ _ (by omega)])
        exact c3
      · (repeat (first | rw [upd_same] | rw [upd_ne _ _ (by omega)]))
      · (repeat (first | rw [upd_same] | rw [upd_ne _ _ (by omega)]))
      · (repeat rw [upd_ne _ _ (by omega)])
        exact hrow
      · have := (hgn j hj).1
        (repeat rw [upd_ne _ _ (by omega)])
      · rw [hx1] at hj
        by_cases e : j = L.length
        · exact ⟨i, by omega, by rw [if_pos e, hfe]⟩
        · obtain ⟨m, h1, h2⟩ := hix2 j (by omega)
          exact ⟨m, by omega, by rw [if_neg e]; exact h2⟩
  · have ei : i = xss.length := by omega
    subst ei
    rw [List.take_length] at hI


    repeat' (first | refine awp_seq_k fun K hK => ?_ | ((with_reducible refine hK _ ?_); clear hK K) | (clear hK K; (with_reducible refine hK _ ?_); clear hK K) | ((with_reducible refine aord_plain fun K hK => ?_); simp only [go_sem, Nat.reduceAdd, Nat.reduceMul, Nat.reduceEqDiff, Nat.reduceLT, reduceIte, reduceCtorEq, hN2, hZ, Nat.add_eq_left, Nat.left_eq_add, Nat.add_assoc, Nat.reduceAdd, if_false, if_true, hN2, hZ]) | refine awp_block ?_ | ((first | with_reducible refine aord_nil ?_ | refine awp_skip ?_ | refine awp_exit ?_ | refine awp_ret ?_); try simp only [thenA_normal, thenA_exit, thenA_goto, thenA_ret, blockA_normal, blockA_same, blockA_exit, blockA_goto, blockA_ret, Nat.reduceEqDiff, if_false, if_true, reduceIte]) | (refine awp_region tabOk rfl ?_; simp only [prep, pickO, List.map_cons, List.map_nil, List.getElem?_toArray, List.getElem?_cons_succ, List.getElem?_cons_zero, Option.bind_some, Option.map_some]) | ((with_reducible apply awp_cond); (focus (simp only [St.ev, St.set, upd, Nat.reduceEqDiff, reduceIte, if_false, if_true, hN2, hZ, Nat.add_eq_left, Nat.left_eq_add, Nat.add_assoc, Nat.reduceAdd, if_false, if_true]; exact rfl)); all_goals (intro hb; first | (cases hb; done) | ((try rw [hb]); (try simp only [decide_eq_true_eq, decide_eq_false_iff_not, beq_iff_eq, bne_iff_ne, beq_eq_false_iff_ne, bne_eq_false_iff_eq, Int.not_lt, Int.not_le, Bool.not_eq_true', Bool.not_eq_false'] at hb)))) | ((with_reducible refine And.intro ?_ ?_); (focus omega)) | (simp only [doneH]; simp only [ressK, resK, wrapR, go_sem, Nat.reduceAdd, Nat.reduceMul, Nat.reduceEqDiff, Nat.reduceLT, reduceIte, reduceCtorEq, hN2, hZ, Nat.add_eq_left, Nat.left_eq_add, Nat.add_assoc, Nat.reduceAdd, if_false, if_true]) | ((with_reducible apply endA_go); (focus (simp only [St.ev, St.set, upd, Nat.reduceEqDiff, reduceIte, if_false, if_true, hN2, hZ, Nat.add_eq_left, Nat.left_eq_add, Nat.add_assoc, Nat.reduceAdd, if_false, if_true]; exact rfl)); (focus assumption); (focus assumption); (try simp only [thenA_normal, thenA_exit, thenA_goto, thenA_ret, blockA_normal, blockA_same, blockA_exit, blockA_goto, blockA_ret, Nat.reduceEqDiff, if_false, if_true, reduceIte])) | (exfalso; omega) | fail)
    have hxm := hI.xm
    have hrl := hI.rows.lt
    have hix2 := hI.ix
    have hfr2 : ∀ j, j < (xss.filter (agB fs)).length → g j < n := fun j hj => by
      obtain ⟨m, h1, h2⟩ := hix2 j hj
      rw [h2]; exact (hR.lt m h1).1
    exact hQ _ M X g (hI.rows.keepN (Nat.le_refl _) (by rw [upd_ne _ _ (by omega), upd_ne _ _ (by omega)]) (fun j hj => by have := hfr2 j hj; rw [upd_ne _ _ (by omega), upd_ne _ _ (by omega)])) (by omega) hix2 (fun u hu => by rw [upd_ne _ _ (by omega), upd_ne _ _ (by omega)]; exact hfr u hu) (by omega)

-- awp_region_tree
theorem split_sat : SatH Try.prog 62 (fun al h n K => ∃ (O : Nat) (f : Nat → Nat) (xss : List (List Int)) (a c : Int), al = [.sl O 0 xss.length 1 none, .agg [.val (.int .i64 a), .val (.int .i64 c)]] ∧ (RowsOf h n O f xss) ∧ (xss.length ≤ 500) ∧ (∀ j, (xss.getD j []).length ≤ 1000) ∧ ∀ (H : Hp) (N P1 P2 : Nat) (g1 g2 : Nat → Nat), RowsOf H N P1 g1 (xss.filter (agB [(a, c)])) → RowsOf H N P2 g2 (xss.filter (agB [(c, a)])) → (∀ u, u < n → H u = h u) → n ≤ P1 → n ≤ P2 → (∀ j, j < (xss.filter (agB [(a, c)])).length → ∃ m, m < xss.length ∧ g1 j = f m) → (∀ j, j < (xss.filter (agB [(c, a)])).length → ∃ m, m < xss.length ∧ g2 j = f m) → K (.tup [.sl P1 0 (xss.filter (agB [(a, c)])).length 1 none, .sl P2 0 (xss.filter (agB [(c, a)])).length 1 none]) (H) (N)) := by
  refine satH_intro tabOk Try.func62 rfl 21 rfl [.tmp 4, .tmp 5] rfl ?_
  rintro F W h n al K0 ⟨O, f, xss, a, c, rfl, hR, hxl, hx, hQ⟩
  refine ⟨Nat.le_of_ble_eq_true rfl, fun m0 hm0 hcl hlt => ?_⟩
  simp only [initT]
  have hOn := hR.outn
  have hOr := hR.out
  have m1 : (n = n + 1) = False := eq_false (by omega)
  have m2 : (n + 1 = n) = False := eq_false (by omega)
  have m3 : (n = n + 2) = False := eq_false (by omega)
  have m4 : (n + 2 = n) = False := eq_false (by omega)
  have hM := And.intro m1 (And.intro m2 (And.intro m3 m4))


  repeat' (first | refine awp_seq_k fun K hK => ?_ | ((with_reducible refine hK _ ?_); clear hK K) | ((with_reducible refine aord_plain fun K hK => ?_); simp only [go_sem, Nat.reduceAdd, Nat.reduceMul, Nat.reduceEqDiff, Nat.reduceLT, reduceIte, reduceCtorEq, hM, Nat.add_eq_left, Nat.left_eq_add, Nat.add_assoc, Nat.reduceAdd, if_false, if_true, mat.matL, DV.agg.injEq, hM, AV.clo.injEq, List.cons.injEq, AV.ref.injEq, and_true, true_and, Cont.cells.injEq, AV.sl.injEq]) | ((first | with_reducible refine aord_nil ?_ | refine awp_skip ?_ | refine awp_exit ?_ | refine awp_ret ?_); try simp only [thenA_normal, thenA_exit, thenA_goto, thenA_ret, blockA_normal, blockA_same, blockA_exit, blockA_goto, blockA_ret, Nat.reduceEqDiff, if_false, if_true, reduceIte]) | (refine awp_region tabOk rfl ?_; simp only [prep, pickO, List.map_cons, List.map_nil, List.getElem?_toArray, List.getElem?_cons_succ, List.getElem?_cons_zero, Option.bind_some, Option.map_some]) | (refine awp_region_tree (nt := 21) (id := 1) tabOk (.quiet 0 false (.one 1 true (.quiet 2 false (.one 3 false (.one 4 true (.one 5 true (.quiet 6 false .leaf) .stop) .stop) .stop)) (.one 2 false (.one 1 true (.one 3 false (.one 4 true (.one 5 true (.quiet 6 false .leaf) .stop) .stop) .stop) (.one 3 false (.one 1 true (.one 4 true (.one 5 true (.quiet 6 false .leaf) .stop) .stop) .stop) .stop)) .stop))) (by kernel_rfl) rfl (by kernel_rfl) ?_; simp only [aordT]) | ((with_reducible refine aordT_plain rfl (fun K hK => ?_)); simp only [go_sem, Nat.reduceAdd, Nat.reduceMul, Nat.reduceEqDiff, Nat.reduceLT, reduceIte, reduceCtorEq, hM, Nat.add_eq_left, Nat.left_eq_add, Nat.add_assoc, Nat.reduceAdd, if_false, if_true, mat.matL, DV.agg.injEq, hM, AV.clo.injEq, List.cons.injEq, AV.ref.injEq, and_true, true_and, Cont.cells.injEq, AV.sl.injEq]) | ((with_reducible refine both ?_ ?_)) | (simp only [aordT]; try simp only [thenA_normal, thenA_exit, thenA_goto, thenA_ret, blockA_normal, blockA_same, blockA_exit, blockA_goto, blockA_ret, Nat.reduceEqDiff, if_false, if_true, reduceIte]) | ((with_reducible refine And.intro (?_ : enters Try.prog 87) ?_); (focus exact Try.call87); (refine callX_h (callH_inline tabOk Try.func87 rfl 4 rfl [.tmp 2] rfl (Nat.le_of_ble_eq_true rfl) fun m0 hm0 hcl hlt => ?_)); simp only [initT, St.ev, St.set, upd, Nat.reduceEqDiff, reduceIte, if_false, if_true, hM, Nat.add_eq_left, Nat.left_eq_add, Nat.add_assoc, Nat.reduceAdd, if_false, if_true]) | (simp only [doneH]; simp only [ressK, resK, wrapR, go_sem, Nat.reduceAdd, Nat.reduceMul, Nat.reduceEqDiff, Nat.reduceLT, reduceIte, reduceCtorEq, hM, Nat.add_eq_left, Nat.left_eq_add, Nat.add_assoc, Nat.reduceAdd, if_false, if_true]) | fail)
  all_goals try (refine ⟨_, _, ⟨rfl, rfl⟩, Nat.le_of_ble_eq_true rfl, ?_⟩)
  repeat' (first | refine awp_seq_k fun K hK => ?_ | ((with_reducible refine hK _ ?_); clear hK K) | ((with_reducible refine aord_plain fun K hK => ?_); simp only [go_sem, Nat.reduceAdd, Nat.reduceMul, Nat.reduceEqDiff, Nat.reduceLT, reduceIte, reduceCtorEq, hM, Nat.add_eq_left, Nat.left_eq_add, Nat.add_assoc, Nat.reduceAdd, if_false, if_true, mat.matL, DV.agg.injEq, hM, AV.clo.injEq, List.cons.injEq, AV.ref.injEq, and_true, true_and, Cont.cells.injEq, AV.sl.injEq]) | ((first | with_reducible refine aord_nil ?_ | refine awp_skip ?_ | refine awp_exit ?_ | refine awp_ret ?_); try simp only [thenA_normal, thenA_exit, thenA_goto, thenA_ret, blockA_normal, blockA_same, blockA_exit, blockA_goto, blockA_ret, Nat.reduceEqDiff, if_false, if_true, reduceIte]) | (refine awp_region tabOk rfl ?_; simp only [prep, pickO, List.map_cons, List.map_nil, List.getElem?_toArray, List.getElem?_cons_succ, List.getElem?_cons_zero, Option.bind_some, Option.map_some]) | ((with_reducible refine aordT_plain rfl (fun K hK => ?_)); simp only [go_sem, Nat.reduceAdd, Nat.reduceMul, Nat.reduceEqDiff, Nat.reduceLT, reduceIte, reduceCtorEq, hM, Nat.add_eq_left, Nat.left_eq_add, Nat.add_assoc, Nat.reduceAdd, if_false, if_true, mat.matL, DV.agg.injEq, hM, AV.clo.injEq, List.cons.injEq, AV.ref.injEq, and_true, true_and, Cont.cells.injEq, AV.sl.injEq]) | ((with_reducible refine both ?_ ?_)) | (simp only [aordT]; try simp only [thenA_normal, thenA_exit, thenA_goto, thenA_ret, blockA_normal, blockA_same, blockA_exit, blockA_goto, blockA_ret, Nat.reduceEqDiff, if_false, if_true, reduceIte]) | ((with_reducible refine And.intro (?_ : enters Try.prog 54) ?_); (focus exact Try.call54); (refine callX_satH collectV_sat ?_); simp only [go_sem, and_assoc, List.nil_append, List.append_nil, List.cons_append, Nat.reduceEqDiff, reduceIte, reduceCtorEq, hM, Nat.add_eq_left, Nat.left_eq_add, Nat.add_assoc, Nat.reduceAdd, if_false, if_true, mat.matL, DV.agg.injEq, hM, AV.clo.injEq, List.cons.injEq, AV.ref.injEq, and_true, true_and, Cont.cells.injEq, AV.sl.injEq]) | ((with_reducible refine And.intro (?_ : enters Try.prog 87) ?_); (focus exact Try.call87); (refine callX_h (callH_inline tabOk Try.func87 rfl 4 rfl [.tmp 2] rfl (Nat.le_of_ble_eq_true rfl) fun m0 hm0 hcl hlt => ?_)); simp only [initT, St.ev, St.set, upd, Nat.reduceEqDiff, reduceIte, if_false, if_true, hM, Nat.add_eq_left, Nat.left_eq_add, Nat.add_assoc, Nat.reduceAdd, if_false, if_true]) | ((with_reducible refine And.intro (?_ : enters Try.prog 55) ?_); (focus exact Try.call55); (refine callX_h (callH_inline tabOk Try.func55 rfl 8 rfl [.tmp 4] rfl (Nat.le_of_ble_eq_true rfl) fun m0 hm0 hcl hlt => ?_)); simp only [initT, St.ev, St.set, upd, Nat.reduceEqDiff, reduceIte, if_false, if_true, hM, Nat.add_eq_left, Nat.left_eq_add, Nat.add_assoc, Nat.reduceAdd, if_false, if_true]) | ((with_reducible refine And.intro (?_ : enters Try.prog 81) ?_); (focus exact Try.call81); (refine callX_h (callH_inline tabOk Try.func81 rfl 6 rfl [.tmp 4] rfl (Nat.le_of_ble_eq_true rfl) fun m0 hm0 hcl hlt => ?_)); simp only [initT, St.ev, St.set, upd, Nat.reduceEqDiff, reduceIte, if_false, if_true, hM, Nat.add_eq_left, Nat.left_eq_add, Nat.add_assoc, Nat.reduceAdd, if_false, if_true]) | (simp only [doneH]; simp only [ressK, resK, wrapR, go_sem, Nat.reduceAdd, Nat.reduceMul, Nat.reduceEqDiff, Nat.reduceLT, reduceIte, reduceCtorEq, hM, Nat.add_eq_left, Nat.left_eq_add, Nat.add_assoc, Nat.reduceAdd, if_false, if_true]) | fail)
  all_goals (
    refine ⟨O, true, [(a, c)], rfl, rfl, rfl, rfl, xss, rfl, f, hR.keepN (by omega) (by (repeat rw [upd_ne _ _ (by omega)])) (fun j hj => by have := (hR.lt j hj).1; (repeat rw [upd_ne _ _ (by omega)])), by simp, hxl, hx, fun H1 N1 P1 g1 r1 r2 r3 r4 r5 => ?_⟩
    have q0 : H1 n = some ⟨true, .cells [.val (.int .i64 a), .val (.int .i64 c)]⟩ := by rw [r4 n (by omega)]; (repeat (first | rw [if_pos rfl] | rw [if_neg (by omega)]))
    have hR1 : RowsOf H1 N1 O f xss := hR.keepN (by omega) (by rw [r4 O (by omega)]; (repeat rw [if_neg (by omega)])) (fun j hj => by have := (hR.lt j hj).1; rw [r4 _ (by omega)]; (repeat rw [if_neg (by omega)]))
    have hfr1 : ∀ u, u < n → H1 u = h u := fun u hu => by rw [r4 u (by omega)]; (repeat rw [if_neg (by omega)])
    clear r4
    have hP1n := r1.outn
    have hg1 := r1.lt
    have k1 : (n = N1) = False := eq_false (by omega)
    have k2 : (N1 = n) = False := eq_false (by omega)
    have k3 : ∀ k, (n = N1 + k) = False := fun k => eq_false (by omega)
    have k4 : ∀ k, (N1 + k = n) = False := fun k => eq_false (by omega)
    have k5 : (N1 = N1 + 1) = False := eq_false (by omega)
    have k6 : (N1 + 1 = N1) = False := eq_false (by omega)
    have hK1 := And.intro q0 (And.intro k1 (And.intro k2 (And.intro k3 (And.intro k4 (And.intro k5 k6))))))


  repeat' (first | refine awp_seq_k fun K hK => ?_ | ((with_reducible refine hK _ ?_); clear hK K) | ((with_reducible refine aord_plain fun K hK => ?_); simp only [go_sem, Nat.reduceAdd, Nat.reduceMul, Nat.reduceEqDiff, Nat.reduceLT, reduceIte, reduceCtorEq, hK1, Nat.add_eq_left, Nat.left_eq_add, Nat.add_assoc, Nat.reduceAdd, if_false, if_true, mat.matL, DV.agg.injEq, hK1, AV.clo.injEq, List.cons.injEq, AV.ref.injEq, and_true, true_and, Cont.cells.injEq, AV.sl.injEq]) | ((first | with_reducible refine aord_nil ?_ | refine awp_skip ?_ | refine awp_exit ?_ | refine awp_ret ?_); try simp only [thenA_normal, thenA_exit, thenA_goto, thenA_ret, blockA_normal, blockA_same, blockA_exit, blockA_goto, blockA_ret, Nat.reduceEqDiff, if_false, if_true, reduceIte]) | (refine awp_region tabOk rfl ?_; simp only [prep, pickO, List.map_cons, List.map_nil, List.getElem?_toArray, List.getElem?_cons_succ, List.getElem?_cons_zero, Option.bind_some, Option.map_some]) | (refine awp_region_tree (nt := 21) (id := 2) tabOk (.quiet 0 false (.one 1 true (.quiet 2 false (.one 3 false (.one 4 false (.one 5 true (.one 6 true (.quiet 7 false .leaf) .stop) .stop) .stop) .stop)) (.one 2 false (.one 1 true (.one 3 false (.one 4 false (.one 5 true (.one 6 true (.quiet 7 false .leaf) .stop) .stop) .stop) .stop) .stop) .stop))) (by kernel_rfl) rfl (by kernel_rfl) ?_; simp only [aordT]) | ((with_reducible refine aordT_plain rfl (fun K hK => ?_)); simp only [go_sem, Nat.reduceAdd, Nat.reduceMul, Nat.reduceEqDiff, Nat.reduceLT, reduceIte, reduceCtorEq, hK1, Nat.add_eq_left, Nat.left_eq_add, Nat.add_assoc, Nat.reduceAdd, if_false, if_true, mat.matL, DV.agg.injEq, hK1, AV.clo.injEq, List.cons.injEq, AV.ref.injEq, and_true, true_and, Cont.cells.injEq, AV.sl.injEq]) | ((with_reducible refine both ?_ ?_)) | (simp only [aordT]; try simp only [thenA_normal, thenA_exit, thenA_goto, thenA_ret, blockA_normal, blockA_same, blockA_exit, blockA_goto, blockA_ret, Nat.reduceEqDiff, if_false, if_true, reduceIte]) | (simp only [thenA_normal, thenA_exit, thenA_goto, thenA_ret, blockA_normal, blockA_same, blockA_exit, blockA_goto, blockA_ret, Nat.reduceEqDiff, if_false, if_true, reduceIte]) | ((with_reducible refine And.intro (?_ : enters Try.prog 53) ?_); (focus exact Try.call53); (refine callX_sat opposite_sat ?_); simp only [go_sem, and_assoc, List.nil_append, List.append_nil, List.cons_append, Nat.reduceEqDiff, reduceIte, reduceCtorEq, hK1, Nat.add_eq_left, Nat.left_eq_add, Nat.add_assoc, Nat.reduceAdd, if_false, if_true, mat.matL, DV.agg.injEq, hK1, AV.clo.injEq, List.cons.injEq, AV.ref.injEq, and_true, true_and, Cont.cells.injEq, AV.sl.injEq]) | ((with_reducible refine And.intro (?_ : enters Try.prog 87) ?_); (focus exact Try.call87); (refine callX_h (callH_inline tabOk Try.func87 rfl 4 rfl [.tmp 2] rfl (Nat.le_of_ble_eq_true rfl) fun m0 hm0 hcl hlt => ?_)); simp only [initT, St.ev, St.set, upd, Nat.reduceEqDiff, reduceIte, if_false, if_true, hK1, Nat.add_eq_left, Nat.left_eq_add, Nat.add_assoc, Nat.reduceAdd, if_false, if_true]) | (simp only [doneH]; simp only [ressK, resK, wrapR, go_sem, Nat.reduceAdd, Nat.reduceMul, Nat.reduceEqDiff, Nat.reduceLT, reduceIte, reduceCtorEq, hK1, Nat.add_eq_left, Nat.left_eq_add, Nat.add_assoc, Nat.reduceAdd, if_false, if_true]) | fail)
  all_goals try (refine ⟨_, _, ⟨rfl, rfl⟩, Nat.le_of_ble_eq_true rfl, ?_⟩)
  repeat' (first | refine awp_seq_k fun K hK => ?_ | ((with_reducible refine hK _ ?_); clear hK K) | ((with_reducible refine aord_plain fun K hK => ?_); simp only [go_sem, Nat.reduceAdd, Nat.reduceMul, Nat.reduceEqDiff, Nat.reduceLT, reduceIte, reduceCtorEq, hK1, Nat.add_eq_left, Nat.left_eq_add, Nat.add_assoc, Nat.reduceAdd, if_false, if_true, mat.matL, DV.agg.injEq, hK1, AV.clo.injEq, List.cons.injEq, AV.ref.injEq, and_true, true_and, Cont.cells.injEq, AV.sl.injEq]) | ((first | with_reducible refine aord_nil ?_ | refine awp_skip ?_ | refine awp_exit ?_ | refine awp_ret ?_); try simp only [thenA_normal, thenA_exit, thenA_goto, thenA_ret, blockA_normal, blockA_same, blockA_exit, blockA_goto, blockA_ret, Nat.reduceEqDiff, if_false, if_true, reduceIte]) | (refine awp_region tabOk rfl ?_; simp only [prep, pickO, List.map_cons, List.map_nil, List.getElem?_toArray, List.getElem?_cons_succ, List.getElem?_cons_zero, Option.bind_some, Option.map_some]) | ((with_reducible refine aordT_plain rfl (fun K hK => ?_)); simp only [go_sem, Nat.reduceAdd, Nat.reduceMul, Nat.reduceEqDiff, Nat.reduceLT, reduceIte, reduceCtorEq, hK1, Nat.add_eq_left, Nat.left_eq_add, Nat.add_assoc, Nat.reduceAdd, if_false, if_true, mat.matL, DV.agg.injEq, hK1, AV.clo.injEq, List.cons.injEq, AV.ref.injEq, and_true, true_and, Cont.cells.injEq, AV.sl.injEq]) | ((with_reducible refine both ?_ ?_)) | (simp only [aordT]; try simp only [thenA_normal, thenA_exit, thenA_goto, thenA_ret, blockA_normal, blockA_same, blockA_exit, blockA_goto, blockA_ret, Nat.reduceEqDiff, if_false, if_true, reduceIte]) | ((with_reducible refine And.intro (?_ : enters Try.prog 54) ?_); (focus exact Try.call54); (refine callX_satH collectV_sat ?_); simp only [go_sem, and_assoc, List.nil_append, List.append_nil, List.cons_append, Nat.reduceEqDiff, reduceIte, reduceCtorEq, hK1, Nat.add_eq_left, Nat.left_eq_add, Nat.add_assoc, Nat.reduceAdd, if_false, if_true, mat.matL, DV.agg.injEq, hK1, AV.clo.injEq, List.cons.injEq, AV.ref.injEq, and_true, true_and, Cont.cells.injEq, AV.sl.injEq]) | ((with_reducible refine And.intro (?_ : enters Try.prog 55) ?_); (focus exact Try.call55); (refine callX_h (callH_inline tabOk Try.func55 rfl 8 rfl [.tmp 4] rfl (Nat.le_of_ble_eq_true rfl) fun m0 hm0 hcl hlt => ?_)); simp only [initT, St.ev, St.set, upd, Nat.reduceEqDiff, reduceIte, if_false, if_true, hK1, Nat.add_eq_left, Nat.left_eq_add, Nat.add_assoc, Nat.reduceAdd, if_false, if_true]) | ((with_reducible refine And.intro (?_ : enters Try.prog 81) ?_); (focus exact Try.call81); (refine callX_h (callH_inline tabOk Try.func81 rfl 6 rfl [.tmp 4] rfl (Nat.le_of_ble_eq_true rfl) fun m0 hm0 hcl hlt => ?_)); simp only [initT, St.ev, St.set, upd, Nat.reduceEqDiff, reduceIte, if_false, if_true, hK1, Nat.add_eq_left, Nat.left_eq_add, Nat.add_assoc, Nat.reduceAdd, if_false, if_true]) | (simp only [doneH]; simp only [ressK, resK, wrapR, go_sem, Nat.reduceAdd, Nat.reduceMul, Nat.reduceEqDiff, Nat.reduceLT, reduceIte, reduceCtorEq, hK1, Nat.add_eq_left, Nat.left_eq_add, Nat.add_assoc, Nat.reduceAdd, if_false, if_true]) | fail)
  all_goals (
    refine ⟨O, true, [(c, a)], rfl, rfl, rfl, rfl, xss, rfl, f, hR1.keepN (by omega) (by (repeat rw [upd_ne _ _ (by omega)])) (fun j hj => by have := (hR1.lt j hj).1; (repeat rw [upd_ne _ _ (by omega)])), by simp, hxl, hx, fun H2 N2 P2 g2 s1 s2 s3 s4 s5 => ?_⟩
    have hR2 : RowsOf H2 N2 P1 g1 (xss.filter (agB [(a, c)])) := r1.keepN (by omega) (by rw [s4 _ (by omega)]; (repeat rw [if_neg (by omega)])) (fun j hj => by have := (hg1 j hj).1; rw [s4 _ (by omega)]; (repeat rw [if_neg (by omega)]))
    have hfr2 : ∀ u, u < n → H2 u = h u := fun u hu => by rw [s4 u (by omega)]; (repeat rw [if_neg (by omega)]); exact hfr1 u hu
    clear s4)


  repeat' (first | refine awp_seq_k fun K hK => ?_ | ((with_reducible refine hK _ ?_); clear hK K) | ((with_reducible refine aord_plain fun K hK => ?_); simp only [go_sem, Nat.reduceAdd, Nat.reduceMul, Nat.reduceEqDiff, Nat.reduceLT, reduceIte, reduceCtorEq]) | ((first | with_reducible refine aord_nil ?_ | refine awp_skip ?_ | refine awp_exit ?_ | refine awp_ret ?_); try simp only [thenA_normal, thenA_exit, thenA_goto, thenA_ret, blockA_normal, blockA_same, blockA_exit, blockA_goto, blockA_ret, Nat.reduceEqDiff, if_false, if_true, reduceIte]) | (refine awp_region tabOk rfl ?_; simp only [prep, pickO, List.map_cons, List.map_nil, List.getElem?_toArray, List.getElem?_cons_succ, List.getElem?_cons_zero, Option.bind_some, Option.map_some]) | ((with_reducible refine aordT_plain rfl (fun K hK => ?_)); simp only [go_sem, Nat.reduceAdd, Nat.reduceMul, Nat.reduceEqDiff, Nat.reduceLT, reduceIte, reduceCtorEq]) | (simp only [thenA_normal, thenA_exit, thenA_goto, thenA_ret, blockA_normal, blockA_same, blockA_exit, blockA_goto, blockA_ret, Nat.reduceEqDiff, if_false, if_true, reduceIte]) | (simp only [doneH]; simp only [ressK, resK, wrapR, go_sem, Nat.reduceAdd, Nat.reduceMul, Nat.reduceEqDiff, Nat.reduceLT, reduceIte, reduceCtorEq]) | fail)
  all_goals exact hQ H2 N2 P1 P2 g1 g2 hR2 s1 hfr2 (by omega) (by omega) r3 s3

/-- One item stands ahead of another one. -/
def ahP (a c : Int) (p : List Int) : Bool := decide (0 ≤ fstAt p a p.length ∧ (fstAt p c p.length < 0 ∨ fstAt p a p.length < fstAt p c p.length))
theorem ah_yes {a c : Int} {p : List Int} {i : Nat} (hac : a ≠ c) (hi : i < p.length) (hj : ∀ j, j < i → p.getD j 0 ≠ a ∧ p.getD j 0 ≠ c) (h : p.getD i 0 = a) : ahP a c p = true := by
  have h1 := fst_at hi h fun j hj2 => (hj j hj2).1
  refine decide_eq_true ⟨by omega, ?_⟩
  by_cases h2' : fstAt p c p.length < 0
  · exact .inl h2'
  · right
    have h2 : 0 ≤ fstAt p c p.length := by omega
    obtain ⟨_, h3, h4⟩ := fst_in (p := p) (v := c) p.length
    have h5 := h4 h2
    rcases Nat.lt_or_ge i (fstAt p c p.length).toNat with h6 | h6
    · omega
    · rcases Nat.lt_or_ge (fstAt p c p.length).toNat i with h7 | h7
      · exact ((hj _ h7).2 h5).elim
      · have h8 : (fstAt p c p.length).toNat = i := by omega
        rw [h8] at h5
        exact (hac (h.symm.trans h5)).elim
theorem ah_no {a c : Int} {p : List Int} {i : Nat} (hac : a ≠ c) (hi : i < p.length) (hj : ∀ j, j < i → p.getD j 0 ≠ a ∧ p.getD j 0 ≠ c) (h : p.getD i 0 = c) : ahP a c p = false := by
  have h1 := fst_at hi h fun j hj2 => (hj j hj2).2
  refine decide_eq_false fun ⟨h2, h3⟩ => ?_
  obtain ⟨_, h4, h5⟩ := fst_in (p := p) (v := a) p.length
  have h6 := h5 h2
  rcases Nat.lt_or_ge (fstAt p a p.length).toNat i with h7 | h7
  · exact (hj _ h7).1 h6
  · have h8 : (fstAt p a p.length).toNat = i := by omega
    rw [h8] at h6
    exact hac (h6.symm.trans h)
theorem ah_end {a c : Int} {p : List Int} (hj : ∀ j, j < p.length → p.getD j 0 ≠ a ∧ p.getD j 0 ≠ c) : ahP a c p = false := by
  have h1 := fst_none p.length fun j hj2 => (hj j hj2).1
  exact decide_eq_false fun ⟨h2, _⟩ => by omega
theorem orO_beg {d : Nat} {fs : List (Int × Int)} (h : VF d fs) {p : List Int} (hp : p ∈ orO d fs) : Beg d p ∧ p.length = d := by
  rw [orO_ag h] at hp
  obtain ⟨h1, h2, _⟩ := ordK_mem d .nil (List.mem_filter.1 hp).1
  exact ⟨h1, by simpa using h2⟩
theorem ag_one {d : Nat} {p : List Int} {a c : Int} (hp : Beg d p) (hl : p.length = d) (ha : 0 ≤ a ∧ a < d) (hc : 0 ≤ c ∧ c < d) (hac : a ≠ c) : ahP a c p = agB [(a, c)] p ∧ agB [(c, a)] p = !agB [(a, c)] p := by
  obtain ⟨i, h1, h2, h3⟩ := hp.all hl ha
  obtain ⟨j, h4, h5, h6⟩ := hp.all hl hc
  have hij : i ≠ j := fun e => hac (by rw [← h2, ← h5, e])
  have e1 : ahP a c p = decide (i < j) := by
    unfold ahP; rw [h3, h6]
    exact decide_eq_decide.2 ⟨fun h => by omega, fun h => ⟨by omega, .inr (by omega)⟩⟩
  have e2 : agB [(a, c)] p = decide (i < j) := by
    unfold agB
    simp only [List.all_cons, List.all_nil, Bool.and_true]
    rw [h3, h6]
    exact decide_eq_decide.2 ⟨fun h => by omega, fun h => by omega⟩
  have e3 : agB [(c, a)] p = decide (j < i) := by
    unfold agB
    simp only [List.all_cons, List.all_nil, Bool.and_true]
    rw [h3, h6]
    exact decide_eq_decide.2 ⟨fun h => by omega, fun h => by omega⟩
  refine ⟨e1.trans e2.symm, ?_⟩
  rw [e3, e2]
  rcases Nat.lt_or_ge i j with h | h
  · rw [decide_eq_true h, decide_eq_false (show ¬ j < i by omega)]; rfl
  · rw [decide_eq_false (show ¬ i < j by omega), decide_eq_true (show j < i by omega)]; rfl
theorem filter_neg {f g : List Int → Bool} : ∀ {l : List (List Int)}, (∀ p, p ∈ l → g p = !f p) → (l.filter g).length + (l.filter f).length = l.length
  | [], _ => rfl
  | p :: l, h => by
    have h1 := h p (by simp)
    have ih := filter_neg (f := f) (g := g) (l := l) fun q hq => h q (by simp [hq])
    cases e : f p with
    | true =>
      rw [e] at h1
      rw [List.filter_cons_of_neg (by rw [h1]; simp), List.filter_cons_of_pos e, List.length_cons, List.length_cons]; omega
    | false =>
      rw [e] at h1
      rw [List.filter_cons_of_pos (by rw [h1]; rfl), List.filter_cons_of_neg (by rw [e]; simp), List.length_cons, List.length_cons]; omega
/-- SplitOf's answer. -/
def spI (z a c : Int) : Prop := ((0 ≤ a ∧ a < z) ∧ 0 ≤ c ∧ c < z) ∧ a ≠ c
noncomputable def spA (z : Int) (fs : List (Int × Int)) (a c : Int) : Int := by classical exact if VF z fs ∧ spI z a c then ((((orO z fs).filter (agB [(a, c)])).length : Nat) : Int) else -1
theorem spA_yes {z : Int} {fs : List (Int × Int)} {a c : Int} (h : VF z fs) (h2 : spI z a c) : spA z fs a c = ((((orO z fs).filter (agB [(a, c)])).length : Nat) : Int) := by unfold spA; rw [if_pos ⟨h, h2⟩]
theorem spA_no {z : Int} {fs : List (Int × Int)} {a c : Int} (h : ¬ (VF z fs ∧ spI z a c)) : spA z fs a c = -1 := by unfold spA; rw [if_neg h]
theorem spI_sw {z a c : Int} (h : spI z a c) : spI z c a := ⟨⟨h.1.2, h.1.1⟩, Ne.symm h.2⟩
theorem sp_sum {z : Int} {fs : List (Int × Int)} {a c : Int} (h : VF z fs) (h2 : spI z a c) : ((orO z fs).filter (agB [(c, a)])).length + ((orO z fs).filter (agB [(a, c)])).length = (orO z fs).length := by
  obtain ⟨d, rfl⟩ : ∃ d : Nat, z = d := ⟨z.toNat, by have := h.1; omega⟩
  refine filter_neg fun p hp => ?_
  obtain ⟨h3, h4⟩ := orO_beg h hp
  exact (ag_one h3 h4 h2.1.1 h2.1.2 h2.2).2
theorem sp_ah {z : Int} {fs : List (Int × Int)} {a c : Int} (h : VF z fs) (h2 : spI z a c) : (orO z fs).filter (ahP a c) = (orO z fs).filter (agB [(a, c)]) := by
  obtain ⟨d, rfl⟩ : ∃ d : Nat, z = d := ⟨z.toNat, by have := h.1; omega⟩
  refine List.filter_congr fun p hp => ?_
  obtain ⟨h3, h4⟩ := orO_beg h hp
  exact (ag_one h3 h4 h2.1.1 h2.1.2 h2.2).1


theorem ahead_sat : Sat Try.prog 88 (fun ds Q => ∃ (xs : List Int) (a c : Int), ds = [.row (.ints .i64 (xs)), .val (.int .i64 (a)), .val (.int .i64 (c))] ∧ (xs.length ≤ 1000) ∧ (a ≠ c) ∧ Q (.val (.bool ((ahP a c xs))))) := by
  refine sat_intro tabOk Try.func88 rfl 26 rfl [.tmp 6] rfl ?_
  rintro ds Q W ⟨xs, a, c, rfl, hl, hac, hQ⟩
  refine ⟨Nat.le_of_ble_eq_true rfl, ?_⟩
  simp only [initS, initT, mat.matL, mat, Cont.len]
  repeat' (first | refine awp_seq_k fun K hK => ?_ | ((with_reducible refine hK _ ?_); clear hK K) | ((with_reducible refine aord_plain fun K hK => ?_); simp only [go_sem, Nat.reduceAdd, Nat.reduceMul, Nat.reduceEqDiff, Nat.reduceLT, reduceIte, reduceCtorEq]) | refine awp_block ?_ | ((first | with_reducible refine aord_nil ?_ | refine awp_skip ?_ | refine awp_exit ?_ | refine awp_ret ?_); try simp only [thenA_normal, thenA_exit, thenA_goto, thenA_ret, blockA_normal, blockA_same, blockA_exit, blockA_goto, blockA_ret, Nat.reduceEqDiff, if_false, if_true, reduceIte]) | (refine awp_region tabOk rfl ?_; simp only [prep, pickO, List.map_cons, List.map_nil, List.getElem?_toArray, List.getElem?_cons_succ, List.getElem?_cons_zero, Option.bind_some, Option.map_some]) | fail)
  refine awp_loopE (α := Nat) (fun s p => ⟨(upd (upd (upd (upd bot 0 (s.tmps 0)) 1 (s.tmps 1)) 2 (s.tmps 2)) 7 (.val (.int .i64 (p)))), s.heap, s.next⟩) _ (fun p => by simp only [St.ev, St.set, upd, Nat.reduceEqDiff, reduceIte, if_false, if_true]; exact rfl) (fun p => (p ≤ xs.length) ∧ (∀ j, j < p → xs.getD j 0 ≠ a ∧ xs.getD j 0 ≠ c)) (fun p => xs.length - p) (0) ?_ ?_ ?_
  · (try simp only); (refine ⟨?_, ?_⟩ <;> (first | omega | (intro j hj; omega)))
  · (apply Wk.same; (case' h2 => (focus ((repeat' (with_reducible first | exact HeapX.bot | (apply HeapX.skip; (case hx => (simp; done))) | apply HeapX.none | apply HeapX.upd)); all_goals (first | rfl | exact Nat.le_of_ble_eq_true rfl | (simp only [St.set, St.ev, upd, ren, renL, id, Nat.reduceEqDiff, reduceIte, ContLe]; done) | (exact And.intro rfl (And.intro (by first | exact Nat.le_of_ble_eq_true rfl | omega) (by first | exact Nat.le_of_ble_eq_true rfl | omega))) | (first | (simp only [St.set, St.ev, upd, ren, renL, id, Nat.reduceEqDiff, reduceIte]; exact contLe_nil) | ((repeat' (first | exact contLe_nil | refine contLe_cons (.inr ⟨?_, rfl⟩) ?_)); all_goals (first | rfl | (simp only [St.set, St.ev, upd, ren, renL, id, Nat.reduceEqDiff, reduceIte]; done) | ((try simp only [St.set, St.ev, upd, ren, renL, id, Nat.reduceEqDiff, reduceIte]); first | (with_reducible exact av_int (by omega)) | (with_reducible exact av_sl (by first | omega | (simp; done) | (simp; omega)) (by first | omega | (simp; done) | (simp; omega)))) | (simp only [St.set, St.ev, upd, ren, renL, id, Nat.reduceEqDiff, reduceIte, Int.natCast_add, Int.natCast_one, Int.cast_ofNat_Int, Int.natCast_zero]; done) | (simp only [St.set, St.ev, upd, ren, renL, id, Nat.reduceEqDiff, reduceIte]) | skip); done)) | (simp only [St.set, St.ev, upd, ren, renL, id, Nat.reduceEqDiff, reduceIte, ContLe]) | skip)))); (case' h1 => (focus ((repeat' (with_reducible first | exact TmpLe.bot | refine TmpLe.upd ?_ rfl ?_)); all_goals (first | rfl | (simp only [St.set, St.ev, upd, ren, renL, id, Nat.reduceEqDiff, reduceIte]; done) | ((try simp only [St.set, St.ev, upd, ren, renL, id, Nat.reduceEqDiff, reduceIte]); first | (with_reducible exact av_int (by omega)) | (with_reducible exact av_sl (by first | omega | (simp; done) | (simp; omega)) (by first | omega | (simp; done) | (simp; omega)))) | (simp only [St.set, St.ev, upd, ren, renL, id, Nat.reduceEqDiff, reduceIte, Int.natCast_add, Int.natCast_one, Int.cast_ofNat_Int, Int.natCast_zero]; done) | (simp only [St.set, St.ev, upd, ren, renL, id, Nat.reduceEqDiff, reduceIte]) | skip)))); (case h3 => (focus (first | (simp only [id, List.map_cons, List.map_nil]; decide) | decide | (simp; done) | (simp; omega) | fail))); (case h4 => (intro o l h; first | (cases h; done) | (have hlt0 := m0_lt (by assumption) h; (try (simp only at hlt0)); first | omega | (simp only; omega) | exact ⟨by (first | rfl | (simp only [id]; done) | ((repeat rw [if_neg (by omega)]); done)), by first | omega | (simp only; omega)⟩))))
  rintro i ⟨hi, hj⟩
  try simp only at hi hj
  repeat' (first | refine awp_seq_k fun K hK => ?_ | ((with_reducible refine hK _ ?_); clear hK K) | (clear hK K; (with_reducible refine hK _ ?_); clear hK K) | ((with_reducible refine aord_plain fun K hK => ?_); simp only [go_sem, Nat.reduceAdd, Nat.reduceMul, Nat.reduceEqDiff, Nat.reduceLT, reduceIte, reduceCtorEq]) | refine awp_block ?_ | ((first | with_reducible refine aord_nil ?_ | refine awp_skip ?_ | refine awp_exit ?_ | refine awp_ret ?_); try simp only [thenA_normal, thenA_exit, thenA_goto, thenA_ret, blockA_normal, blockA_same, blockA_exit, blockA_goto, blockA_ret, Nat.reduceEqDiff, if_false, if_true, reduceIte]) | (refine awp_region tabOk rfl ?_; simp only [prep, pickO, List.map_cons, List.map_nil, List.getElem?_toArray, List.getElem?_cons_succ, List.getElem?_cons_zero, Option.bind_some, Option.map_some]) | ((with_reducible apply awp_cond); (focus (simp only [St.ev, St.set, upd, Nat.reduceEqDiff, reduceIte, if_false, if_true]; exact rfl)); all_goals (intro hb; first | (cases hb; done) | ((try rw [hb]); (try simp only [decide_eq_true_eq, decide_eq_false_iff_not, beq_iff_eq, bne_iff_ne, beq_eq_false_iff_ne, bne_eq_false_iff_eq, Int.not_lt, Int.not_le, Bool.not_eq_true', Bool.not_eq_false'] at hb)))) | ((with_reducible refine And.intro ?_ ?_); (focus omega)) | fail)
  · simp only [St.set, St.ev, doneQ, doneH, ressK, resK, wrapR, AV.ids, AV.idsL, retK, retsK, upd, Nat.reduceEqDiff, reduceIte, if_false, if_true, List.nodup_nil, List.nodup_cons, List.not_mem_nil, not_false_eq_true, true_and, and_true, exists_eq_left', Option.some.injEq, rLoad, cellOf, tab, Ty.isAgg, Ty.one, Bool.false_eq_true]
    rw [ah_yes (i := i) hac (by omega) hj (by assumption)] at hQ
    exact hQ
  · simp only [St.set, St.ev, doneQ, doneH, ressK, resK, wrapR, AV.ids, AV.idsL, retK, retsK, upd, Nat.reduceEqDiff, reduceIte, if_false, if_true, List.nodup_nil, List.nodup_cons, List.not_mem_nil, not_false_eq_true, true_and, and_true, exists_eq_left', Option.some.injEq, rLoad, cellOf, tab, Ty.isAgg, Ty.one, Bool.false_eq_true]
    rw [ah_no (i := i) hac (by omega) hj (by assumption)] at hQ
    exact hQ
  · ((refine Exists.intro (i + 1) ?_); (refine nxt ?_ ?_ ?_); (focus ((apply Wk.same; (case' h2 => (focus ((repeat' (with_reducible first | exact HeapX.bot | (apply HeapX.skip; (case hx => (simp; done))) | apply HeapX.none | apply HeapX.upd)); all_goals (first | rfl | exact Nat.le_of_ble_eq_true rfl | (simp only [St.set, St.ev, upd, ren, renL, id, Nat.reduceEqDiff, reduceIte, ContLe]; done) | (exact And.intro rfl (And.intro (by first | exact Nat.le_of_ble_eq_true rfl | omega) (by first | exact Nat.le_of_ble_eq_true rfl | omega))) | (first | (simp only [St.set, St.ev, upd, ren, renL, id, Nat.reduceEqDiff, reduceIte]; exact contLe_nil) | ((repeat' (first | exact contLe_nil | refine contLe_cons (.inr ⟨?_, rfl⟩) ?_)); all_goals (first | rfl | (simp only [St.set, St.ev, upd, ren, renL, id, Nat.reduceEqDiff, reduceIte]; done) | ((try simp only [St.set, St.ev, upd, ren, renL, id, Nat.reduceEqDiff, reduceIte]); first | (with_reducible exact av_int (by omega)) | (with_reducible exact av_sl (by first | omega | (simp; done) | (simp; omega)) (by first | omega | (simp; done) | (simp; omega)))) | (simp only [St.set, St.ev, upd, ren, renL, id, Nat.reduceEqDiff, reduceIte, Int.natCast_add, Int.natCast_one, Int.cast_ofNat_Int, Int.natCast_zero]; done) | (simp only [St.set, St.ev, upd, ren, renL, id, Nat.reduceEqDiff, reduceIte]) | skip); done)) | (simp only [St.set, St.ev, upd, ren, renL, id, Nat.reduceEqDiff, reduceIte, ContLe]) | skip)))); (case' h1 => (focus ((repeat' (with_reducible first | exact TmpLe.bot | refine TmpLe.upd ?_ rfl ?_)); all_goals (first | rfl | (simp only [St.set, St.ev, upd, ren, renL, id, Nat.reduceEqDiff, reduceIte]; done) | ((try simp only [St.set, St.ev, upd, ren, renL, id, Nat.reduceEqDiff, reduceIte]); first | (with_reducible exact av_int (by omega)) | (with_reducible exact av_sl (by first | omega | (simp; done) | (simp; omega)) (by first | omega | (simp; done) | (simp; omega)))) | (simp only [St.set, St.ev, upd, ren, renL, id, Nat.reduceEqDiff, reduceIte, Int.natCast_add, Int.natCast_one, Int.cast_ofNat_Int, Int.natCast_zero]; done) | (simp only [St.set, St.ev, upd, ren, renL, id, Nat.reduceEqDiff, reduceIte]) | skip)))); (case h3 => (focus (first | (simp only [id, List.map_cons, List.map_nil]; decide) | decide | (simp; done) | (simp; omega) | fail))); (case h4 => (intro o l h; first | (cases h; done) | (have hlt0 := m0_lt (by assumption) h; (try (simp only at hlt0)); first | omega | (simp only; omega) | exact ⟨by (first | rfl | (simp only [id]; done) | ((repeat rw [if_neg (by omega)]); done)), by first | omega | (simp only; omega)⟩)))))); (focus (first | omega | (simp only; omega) | (simp only [List.length_take]; omega) | (simp; done) | (simp; omega))); ((repeat' (with_reducible apply And.intro)) <;> (first | omega | (simp only; omega) | assumption | rfl | ((try simp only); (intro j h; rcases Nat.lt_or_ge j i with h1 | h1; exact hj j h1; obtain rfl : j = i := (by omega); exact ⟨by assumption, by assumption⟩)) | skip)))
  · simp only [St.set, St.ev, doneQ, doneH, ressK, resK, wrapR, AV.ids, AV.idsL, retK, retsK, upd, Nat.reduceEqDiff, reduceIte, if_false, if_true, List.nodup_nil, List.nodup_cons, List.not_mem_nil, not_false_eq_true, true_and, and_true, exists_eq_left', Option.some.injEq, rLoad, cellOf, tab, Ty.isAgg, Ty.one, Bool.false_eq_true]
    rw [ah_end (fun j h => hj j (by omega))] at hQ
    exact hQ


theorem specSplit_sat : SatH Try.prog 64 (fun al h n K => ∃ (O : Nat) (f : Nat → Nat) (xss : List (List Int)) (a c : Int), al = [.sl O 0 xss.length 1 none, .val (.int .i64 (a)), .val (.int .i64 (c))] ∧ (RowsOf h n O f xss) ∧ (xss.length ≤ 500) ∧ (∀ j, (xss.getD j []).length ≤ 1000) ∧ (a ≠ c) ∧ K (.tup [.val (.int .i64 (((xss.filter (ahP a c)).length : Nat) : Int)), .val (.int .i64 ((xss.length : Int) - (((xss.filter (ahP a c)).length : Nat) : Int)))]) (h) (n)) := by
  refine satH_intro tabOk Try.func64 rfl 30 rfl [.tmp 6, .tmp 7] rfl ?_
  rintro F W h n al K0 ⟨O, f, xss, a, c, rfl, hR, hxl, hx, hac, hQ⟩
  refine ⟨Nat.le_of_ble_eq_true rfl, fun m0 hm0 hcl hlt => ?_⟩
  simp only [initT]
  have hOn := hR.outn
  have hOr := hR.out
  have hsl := @slsN_len f xss 0


  repeat' (first | refine awp_seq_k fun K hK => ?_ | ((with_reducible refine hK _ ?_); clear hK K) | ((with_reducible refine aord_plain fun K hK => ?_); simp only [go_sem, Nat.reduceAdd, Nat.reduceMul, Nat.reduceEqDiff, Nat.reduceLT, reduceIte, reduceCtorEq, hOr, Nat.add_eq_left, Nat.left_eq_add, Nat.add_assoc, Nat.reduceAdd, if_false, if_true, hOr, hsl]) | refine awp_block ?_ | ((first | with_reducible refine aord_nil ?_ | refine awp_skip ?_ | refine awp_exit ?_ | refine awp_ret ?_); try simp only [thenA_normal, thenA_exit, thenA_goto, thenA_ret, blockA_normal, blockA_same, blockA_exit, blockA_goto, blockA_ret, Nat.reduceEqDiff, if_false, if_true, reduceIte]) | (refine awp_region tabOk rfl ?_; simp only [prep, pickO, List.map_cons, List.map_nil, List.getElem?_toArray, List.getElem?_cons_succ, List.getElem?_cons_zero, Option.bind_some, Option.map_some]) | fail)
  refine awp_loop (fun i : Nat => ⟨upd (upd (upd (upd (upd bot 9 (.val (.int .i64 i))) 8 (.val (.int .i64 ((((xss.take i).filter (ahP a c)).length : Nat) : Int)))) 2 (.val (.int .i64 c))) 1 (.val (.int .i64 a))) 0 (.sl O 0 xss.length 1 none), h, n⟩) (fun i => i ≤ xss.length) (fun i => xss.length - i) 0 (Nat.zero_le _) ?_ ?_
  · exact Wk.sub (tsd (tsd (tsd (tsd (tsd tsd0 rfl) rfl) rfl) rfl) rfl) (fun _ _ h => h) rfl
  intro i hix
  have hle := List.length_filter_le (ahP a c) (xss.take i)
  have hle2 : (xss.take i).length ≤ 500 := by rw [List.length_take]; omega
  rcases Nat.lt_or_ge i xss.length with hlt2 | hge
  · have hget := hR.get hlt2
    have hrow := hR.row i hlt2
    have hxi := hx i
    have htk : xss.take (i + 1) = xss.take i ++ [xss.getD i []] := by
      rw [List.take_succ_eq_append_getElem hlt2, List.getD_eq_getElem?_getD, List.getElem?_eq_getElem hlt2]; rfl
    cases hag : ahP a c (xss.getD i []) with
    | false =>
      have hfl2 : (xss.take (i + 1)).filter (ahP a c) = (xss.take i).filter (ahP a c) := by rw [htk, List.filter_append, List.filter_cons_of_neg (by rw [hag]; simp), List.filter_nil, List.append_nil]


      repeat' (first | refine awp_seq_k fun K hK => ?_ | ((with_reducible refine hK _ ?_); clear hK K) | (clear hK K; (with_reducible refine hK _ ?_); clear hK K) | ((with_reducible refine aord_plain fun K hK => ?_); simp only [go_sem, Nat.reduceAdd, Nat.reduceMul, Nat.reduceEqDiff, Nat.reduceLT, reduceIte, reduceCtorEq, hOr, hrow, hag, Nat.add_eq_left, Nat.left_eq_add, Nat.add_assoc, Nat.reduceAdd, if_false, if_true, hOr, hsl, hget, hrow, hag]) | refine awp_block ?_ | ((first | with_reducible refine aord_nil ?_ | refine awp_skip ?_ | refine awp_exit ?_ | refine awp_ret ?_); try simp only [thenA_normal, thenA_exit, thenA_goto, thenA_ret, blockA_normal, blockA_same, blockA_exit, blockA_goto, blockA_ret, Nat.reduceEqDiff, if_false, if_true, reduceIte]) | (refine awp_region tabOk rfl ?_; simp only [prep, pickO, List.map_cons, List.map_nil, List.getElem?_toArray, List.getElem?_cons_succ, List.getElem?_cons_zero, Option.bind_some, Option.map_some]) | ((with_reducible apply awp_cond); (focus (simp only [St.ev, St.set, upd, Nat.reduceEqDiff, reduceIte, if_false, if_true, hOr, hrow, hag, Nat.add_eq_left, Nat.left_eq_add, Nat.add_assoc, Nat.reduceAdd, if_false, if_true]; exact rfl)); all_goals (intro hb; first | (cases hb; done) | ((try rw [hb]); (try simp only [decide_eq_true_eq, decide_eq_false_iff_not, beq_iff_eq, bne_iff_ne, beq_eq_false_iff_ne, bne_eq_false_iff_eq, Int.not_lt, Int.not_le, Bool.not_eq_true', Bool.not_eq_false'] at hb)))) | ((with_reducible refine And.intro ?_ ?_); (focus omega)) | ((with_reducible refine And.intro (?_ : enters Try.prog 88) ?_); (focus exact Try.call88); (refine callX_sat ahead_sat ?_); simp only [go_sem, and_assoc, List.nil_append, List.append_nil, List.cons_append, Nat.reduceEqDiff, reduceIte, reduceCtorEq, hOr, hrow, hag, Nat.add_eq_left, Nat.left_eq_add, Nat.add_assoc, Nat.reduceAdd, if_false, if_true, hOr, hsl, hget, hrow, hag]) | (simp only [doneH]; simp only [ressK, resK, wrapR, go_sem, Nat.reduceAdd, Nat.reduceMul, Nat.reduceEqDiff, Nat.reduceLT, reduceIte, reduceCtorEq, hOr, hrow, hag, Nat.add_eq_left, Nat.left_eq_add, Nat.add_assoc, Nat.reduceAdd, if_false, if_true]) | (exfalso; omega) | fail)
      refine ⟨i + 1, by omega, by omega, Wk.sub (tsd (tsd (tsd (tsd (tsd tsd0 rfl) (by rw [hfl2]; rfl)) rfl) rfl) rfl) (fun _ _ h => h) rfl⟩
    | true =>
      have hfl2 : ((xss.take (i + 1)).filter (ahP a c)).length = ((xss.take i).filter (ahP a c)).length + 1 := by rw [htk, List.filter_append, List.filter_cons_of_pos hag, List.filter_nil, List.length_append]; rfl


      repeat' (first | refine awp_seq_k fun K hK => ?_ | ((with_reducible refine hK _ ?_); clear hK K) | (clear hK K; (with_reducible refine hK _ ?_); clear hK K) | ((with_reducible refine aord_plain fun K hK => ?_); simp only [go_sem, Nat.reduceAdd, Nat.reduceMul, Nat.reduceEqDiff, Nat.reduceLT, reduceIte, reduceCtorEq, hOr, hrow, hag, Nat.add_eq_left, Nat.left_eq_add, Nat.add_assoc, Nat.reduceAdd, if_false, if_true, hOr, hsl, hget, hrow, hag]) | refine awp_block ?_ | ((first | with_reducible refine aord_nil ?_ | refine awp_skip ?_ | refine awp_exit ?_ | refine awp_ret ?_); try simp only [thenA_normal, thenA_exit, thenA_goto, thenA_ret, blockA_normal, blockA_same, blockA_exit, blockA_goto, blockA_ret, Nat.reduceEqDiff, if_false, if_true, reduceIte]) | (refine awp_region tabOk rfl ?_; simp only [prep, pickO, List.map_cons, List.map_nil, List.getElem?_toArray, List.getElem?_cons_succ, List.getElem?_cons_zero, Option.bind_some, Option.map_some]) | ((with_reducible apply awp_cond); (focus (simp only [St.ev, St.set, upd, Nat.reduceEqDiff, reduceIte, if_false, if_true, hOr, hrow, hag, Nat.add_eq_left, Nat.left_eq_add, Nat.add_assoc, Nat.reduceAdd, if_false, if_true]; exact rfl)); all_goals (intro hb; first | (cases hb; done) | ((try rw [hb]); (try simp only [decide_eq_true_eq, decide_eq_false_iff_not, beq_iff_eq, bne_iff_ne, beq_eq_false_iff_ne, bne_eq_false_iff_eq, Int.not_lt, Int.not_le, Bool.not_eq_true', Bool.not_eq_false'] at hb)))) | ((with_reducible refine And.intro ?_ ?_); (focus omega)) | ((with_reducible refine And.intro (?_ : enters Try.prog 88) ?_); (focus exact Try.call88); (refine callX_sat ahead_sat ?_); simp only [go_sem, and_assoc, List.nil_append, List.append_nil, List.cons_append, Nat.reduceEqDiff, reduceIte, reduceCtorEq, hOr, hrow, hag, Nat.add_eq_left, Nat.left_eq_add, Nat.add_assoc, Nat.reduceAdd, if_false, if_true, hOr, hsl, hget, hrow, hag]) | (simp only [doneH]; simp only [ressK, resK, wrapR, go_sem, Nat.reduceAdd, Nat.reduceMul, Nat.reduceEqDiff, Nat.reduceLT, reduceIte, reduceCtorEq, hOr, hrow, hag, Nat.add_eq_left, Nat.left_eq_add, Nat.add_assoc, Nat.reduceAdd, if_false, if_true]) | (exfalso; omega) | fail)
      refine ⟨i + 1, by omega, by omega, Wk.sub (tsd (tsd (tsd (tsd (tsd tsd0 rfl) (by rw [hfl2]; rfl)) rfl) rfl) rfl) (fun _ _ h => h) rfl⟩
  · have ei : i = xss.length := by omega
    subst ei
    rw [List.take_length] at hle ⊢


    repeat' (first | refine awp_seq_k fun K hK => ?_ | ((with_reducible refine hK _ ?_); clear hK K) | (clear hK K; (with_reducible refine hK _ ?_); clear hK K) | ((with_reducible refine aord_plain fun K hK => ?_); simp only [go_sem, Nat.reduceAdd, Nat.reduceMul, Nat.reduceEqDiff, Nat.reduceLT, reduceIte, reduceCtorEq, hOr, Nat.add_eq_left, Nat.left_eq_add, Nat.add_assoc, Nat.reduceAdd, if_false, if_true, hOr, hsl]) | refine awp_block ?_ | ((first | with_reducible refine aord_nil ?_ | refine awp_skip ?_ | refine awp_exit ?_ | refine awp_ret ?_); try simp only [thenA_normal, thenA_exit, thenA_goto, thenA_ret, blockA_normal, blockA_same, blockA_exit, blockA_goto, blockA_ret, Nat.reduceEqDiff, if_false, if_true, reduceIte]) | (refine awp_region tabOk rfl ?_; simp only [prep, pickO, List.map_cons, List.map_nil, List.getElem?_toArray, List.getElem?_cons_succ, List.getElem?_cons_zero, Option.bind_some, Option.map_some]) | ((with_reducible apply awp_cond); (focus (simp only [St.ev, St.set, upd, Nat.reduceEqDiff, reduceIte, if_false, if_true, hOr, Nat.add_eq_left, Nat.left_eq_add, Nat.add_assoc, Nat.reduceAdd, if_false, if_true]; exact rfl)); all_goals (intro hb; first | (cases hb; done) | ((try rw [hb]); (try simp only [decide_eq_true_eq, decide_eq_false_iff_not, beq_iff_eq, bne_iff_ne, beq_eq_false_iff_ne, bne_eq_false_iff_eq, Int.not_lt, Int.not_le, Bool.not_eq_true', Bool.not_eq_false'] at hb)))) | ((with_reducible refine And.intro ?_ ?_); (focus omega)) | (simp only [doneH]; simp only [ressK, resK, wrapR, go_sem, Nat.reduceAdd, Nat.reduceMul, Nat.reduceEqDiff, Nat.reduceLT, reduceIte, reduceCtorEq, hOr, Nat.add_eq_left, Nat.left_eq_add, Nat.add_assoc, Nat.reduceAdd, if_false, if_true]) | (exfalso; omega) | fail)
    exact hQ

theorem implSplitOf_sat : SatH Try.prog 24 (fun al h n K => ∃ (z : Int) (A : Nat) (b : Bool) (fs : List (Int × Int)) (a c : Int), al = [.val (.int .i64 (z)), .sl A 0 fs.length 2 none, .val (.int .i64 (a)), .val (.int .i64 (c))] ∧ (h A = some ⟨b, .ints .i64 (flF fs)⟩) ∧ (fs.length ≤ 1099511627776) ∧ ∀ N : Nat, n ≤ N → K (.tup [.val (.int .i64 (spA z fs a c)), .val (.int .i64 (spA z fs c a))]) (h) (N)) := by
  refine satH_intro tabOk Try.func24 rfl 47 rfl [.tmp 8, .tmp 9] rfl ?_
  rintro F W h n al K0 ⟨z, A, b, fs, a, c, rfl, hA, hl, hQ⟩
  refine ⟨Nat.le_of_ble_eq_true rfl, fun m0 hm0 hcl hlt => ?_⟩
  simp only [initT]
  have hAn := (hcl A _ hA).1
  obtain ⟨c1, hq1⟩ : ∃ x, (decide (0 ≤ a) && decide (a < z)) = x := ⟨_, rfl⟩
  obtain ⟨c2, hq2⟩ : ∃ x, (decide (0 ≤ c) && decide (c < z)) = x := ⟨_, rfl⟩
  obtain ⟨c3, hq3⟩ : ∃ x, (a == c) = x := ⟨_, rfl⟩
  have hI : (c1 = true ∧ c2 = true ∧ c3 = false) ↔ spI z a c := by
    rw [← hq1, ← hq2, ← hq3]; unfold spI
    simp only [Bool.and_eq_true, decide_eq_true_eq, beq_eq_false_iff_ne, ne_eq]
    exact ⟨fun h => ⟨⟨h.1, h.2.1⟩, h.2.2⟩, fun h => ⟨h.1.1, h.1.2, h.2⟩⟩


  repeat' ((fail_if_success (with_reducible refine isRetQ ?_)); (first | refine awp_seq_k fun K hK => ?_ | ((with_reducible refine hK _ ?_); clear hK K) | ((with_reducible refine aord_plain fun K hK => ?_); simp only [go_sem, Nat.reduceAdd, Nat.reduceMul, Nat.reduceEqDiff, Nat.reduceLT, reduceIte, reduceCtorEq, hA, Nat.add_eq_left, Nat.left_eq_add, Nat.add_assoc, Nat.reduceAdd, if_false, if_true, hA, mat.matL]) | ((first | with_reducible refine aord_nil ?_ | refine awp_skip ?_ | refine awp_exit ?_ | refine awp_ret ?_); try simp only [thenA_normal, thenA_exit, thenA_goto, thenA_ret, blockA_normal, blockA_same, blockA_exit, blockA_goto, blockA_ret, Nat.reduceEqDiff, if_false, if_true, reduceIte]) | (refine awp_region tabOk rfl ?_; simp only [prep, pickO, List.map_cons, List.map_nil, List.getElem?_toArray, List.getElem?_cons_succ, List.getElem?_cons_zero, Option.bind_some, Option.map_some]) | ((with_reducible refine And.intro (?_ : enters Try.prog 15) ?_); (focus exact Try.call15); (refine callX_satH implValidFacts_sat ?_); simp only [go_sem, and_assoc, List.nil_append, List.append_nil, List.cons_append, Nat.reduceEqDiff, reduceIte, reduceCtorEq, hA, Nat.add_eq_left, Nat.left_eq_add, Nat.add_assoc, Nat.reduceAdd, if_false, if_true, hA, mat.matL]) | fail))
  refine ⟨b, fs, rfl, rfl, rfl, hl, fun v N hv hN => ?_⟩
  by_cases hgood : v = true ∧ c1 = true ∧ c2 = true ∧ c3 = false
  · obtain ⟨rfl, rfl, rfl, rfl⟩ := hgood
    have hV := hv.1 rfl
    have hS := hI.1 ⟨rfl, rfl, rfl⟩
    rw [spA_yes hV hS, spA_yes hV (spI_sw hS)] at hQ
    have hcap := orO_cap z fs
    have hrw : ∀ j, ((orO z fs).getD j []).length ≤ 1000 := fun j => by have := orO_row (z := z) (fs := fs) j; omega


    repeat' (first | refine awp_seq_k fun K hK => ?_ | ((with_reducible refine hK _ ?_); clear hK K) | ((with_reducible refine aord_plain fun K hK => ?_); simp only [go_sem, Nat.reduceAdd, Nat.reduceMul, Nat.reduceEqDiff, Nat.reduceLT, reduceIte, reduceCtorEq, hA, hq1, hq2, hq3, Nat.add_eq_left, Nat.left_eq_add, Nat.add_assoc, Nat.reduceAdd, if_false, if_true, hA, hq1, hq2, hq3, mat.matL]) | ((with_reducible apply aord_guard); (focus (simp only [St.ev, St.set, upd, Nat.reduceEqDiff, reduceIte, if_false, if_true, hA, hq1, hq2, hq3, Nat.add_eq_left, Nat.left_eq_add, Nat.add_assoc, Nat.reduceAdd, if_false, if_true]; exact rfl)); all_goals (intro hb; (try simp only [Bool.not_true, Bool.not_false] at hb); first | (cases hb; done) | ((try rw [hb]); (try simp only [Bool.not_eq_true', Bool.not_eq_false', Bool.and_eq_true, decide_eq_true_eq, decide_eq_false_iff_not, beq_iff_eq, bne_iff_ne, beq_eq_false_iff_ne, bne_eq_false_iff_eq, Int.not_lt, Int.not_le] at hb); (try (revert hb; with_reducible refine true_imp_iff.2 ?_)); first | (intro K hK; simp only [go_sem, Nat.reduceAdd, Nat.reduceMul, Nat.reduceEqDiff, Nat.reduceLT, reduceIte, reduceCtorEq, hA, hq1, hq2, hq3, Nat.add_eq_left, Nat.left_eq_add, Nat.add_assoc, Nat.reduceAdd, if_false, if_true]) | (simp only [St.ev, St.set, upd, Nat.reduceEqDiff, reduceIte, if_false, if_true, hA, hq1, hq2, hq3, Nat.add_eq_left, Nat.left_eq_add, Nat.add_assoc, Nat.reduceAdd, if_false, if_true]) | skip))) | ((first | with_reducible refine aord_nil ?_ | refine awp_skip ?_ | refine awp_exit ?_ | refine awp_ret ?_); try simp only [thenA_normal, thenA_exit, thenA_goto, thenA_ret, blockA_normal, blockA_same, blockA_exit, blockA_goto, blockA_ret, Nat.reduceEqDiff, if_false, if_true, reduceIte]) | (refine awp_region tabOk rfl ?_; simp only [prep, pickO, List.map_cons, List.map_nil, List.getElem?_toArray, List.getElem?_cons_succ, List.getElem?_cons_zero, Option.bind_some, Option.map_some]) | ((with_reducible apply awp_cond); (focus (simp only [St.ev, St.set, upd, Nat.reduceEqDiff, reduceIte, if_false, if_true, hA, hq1, hq2, hq3, Nat.add_eq_left, Nat.left_eq_add, Nat.add_assoc, Nat.reduceAdd, if_false, if_true]; exact rfl)); all_goals (intro hb; first | (cases hb; done) | ((try rw [hb]); (try simp only [decide_eq_true_eq, decide_eq_false_iff_not, beq_iff_eq, bne_iff_ne, beq_eq_false_iff_ne, bne_eq_false_iff_eq, Int.not_lt, Int.not_le, Bool.not_eq_true', Bool.not_eq_false'] at hb)))) | ((with_reducible refine And.intro (?_ : enters Try.prog 52) ?_); (focus exact Try.call52); (refine callX_sat isItem_sat ?_); simp only [go_sem, and_assoc, List.nil_append, List.append_nil, List.cons_append, Nat.reduceEqDiff, reduceIte, reduceCtorEq, hA, hq1, hq2, hq3, Nat.add_eq_left, Nat.left_eq_add, Nat.add_assoc, Nat.reduceAdd, if_false, if_true, hA, hq1, hq2, hq3, mat.matL]) | ((with_reducible refine And.intro (?_ : enters Try.prog 17) ?_); (focus exact Try.call17); (refine callX_satH implOrdersLeft_sat ?_); simp only [go_sem, and_assoc, List.nil_append, List.append_nil, List.cons_append, Nat.reduceEqDiff, reduceIte, reduceCtorEq, hA, hq1, hq2, hq3, Nat.add_eq_left, Nat.left_eq_add, Nat.add_assoc, Nat.reduceAdd, if_false, if_true, hA, hq1, hq2, hq3, mat.matL]) | fail)
    refine ⟨b, fs, rfl, rfl, rfl, hl, fun H1 N1 O1 f1 r1 r2 r3 r4 r5 => ?_⟩


    repeat' (first | ((with_reducible refine hK _ ?_); clear hK K) | ((with_reducible refine aord_plain fun K hK => ?_); simp only [go_sem, Nat.reduceAdd, Nat.reduceMul, Nat.reduceEqDiff, Nat.reduceLT, reduceIte, reduceCtorEq, mat.matL]) | ((with_reducible refine And.intro (?_ : enters Try.prog 62) ?_); (focus exact Try.call62); (refine callX_satH split_sat ?_); simp only [go_sem, and_assoc, List.nil_append, List.append_nil, List.cons_append, Nat.reduceEqDiff, reduceIte, reduceCtorEq, mat.matL]) | (simp only [rBuild]; simp only [fillA, Nat.reduceLeDiff, List.getElem?_cons_zero, List.getElem?_cons_succ, List.drop_succ_cons, List.drop_nil, List.take_nil, List.cons_append, Option.isSome_some, go_sem, Nat.reduceAdd, Nat.reduceMul, Nat.reduceEqDiff, Nat.reduceLT, reduceIte, reduceCtorEq]) | fail)
    refine ⟨f1, orO z fs, rfl, a, c, rfl, r1, by omega, hrw, fun H2 N2 P1 P2 g1 g2 s1 s2 s3 s4 s5 s6 s7 => ?_⟩
    have hl1 := List.length_filter_le (agB [(a, c)]) (orO z fs)
    have hl2 := List.length_filter_le (agB [(c, a)]) (orO z fs)
    have hN12 := s1.outn
    have hdrop : ∀ (o : Nat) (ob : Ob), h o = some ob → H2 o = some ob := fun o ob ho => by
      have := (hcl o _ ho).1
      rw [s3 o (by omega), r4 o (by omega)]; exact ho


    repeat' ((fail_if_success (with_reducible refine isRetQ ?_)); (first | refine awp_seq_k fun K hK => ?_ | ((with_reducible refine hK _ ?_); clear hK K) | ((with_reducible refine aord_plain fun K hK => ?_); simp only [go_sem, Nat.reduceAdd, Nat.reduceMul, Nat.reduceEqDiff, Nat.reduceLT, reduceIte, reduceCtorEq, mat.matL]) | ((first | with_reducible refine aord_nil ?_ | refine awp_skip ?_ | refine awp_exit ?_ | refine awp_ret ?_); try simp only [thenA_normal, thenA_exit, thenA_goto, thenA_ret, blockA_normal, blockA_same, blockA_exit, blockA_goto, blockA_ret, Nat.reduceEqDiff, if_false, if_true, reduceIte]) | (refine awp_region tabOk rfl ?_; simp only [prep, pickO, List.map_cons, List.map_nil, List.getElem?_toArray, List.getElem?_cons_succ, List.getElem?_cons_zero, Option.bind_some, Option.map_some]) | fail))
    refine awp_weaken (s' := ⟨upd (upd bot 9 (.val (.int .i64 ((((orO z fs).filter (agB [(c, a)])).length : Nat) : Int)))) 8 (.val (.int .i64 ((((orO z fs).filter (agB [(a, c)])).length : Nat) : Int))), h, N2⟩) (Wk.sub (tsd (tsd tsd0 rfl) rfl) hdrop rfl) ?_
    repeat' (first | ((first | with_reducible refine aord_nil ?_ | refine awp_skip ?_ | refine awp_exit ?_ | refine awp_ret ?_); try simp only [thenA_normal, thenA_exit, thenA_goto, thenA_ret, blockA_normal, blockA_same, blockA_exit, blockA_goto, blockA_ret, Nat.reduceEqDiff, if_false, if_true, reduceIte]) | (simp only [doneH]; simp only [ressK, resK, wrapR, go_sem, Nat.reduceAdd, Nat.reduceMul, Nat.reduceEqDiff, Nat.reduceLT, reduceIte, reduceCtorEq]) | fail)
    exact hQ N2 (by omega)
  · have hno : ¬ (VF z fs ∧ spI z a c) := fun h => hgood ⟨hv.2 h.1, hI.2 h.2⟩
    have hno2 : ¬ (VF z fs ∧ spI z c a) := fun h => hgood ⟨hv.2 h.1, hI.2 (spI_sw h.2)⟩
    rw [spA_no hno, spA_no hno2] at hQ
    cases v <;> cases c1 <;> cases c2 <;> cases c3
    all_goals try (exact absurd ⟨rfl, rfl, rfl, rfl⟩ hgood)
    all_goals (


      repeat' (first | refine awp_seq_k fun K hK => ?_ | ((with_reducible refine hK _ ?_); clear hK K) | ((with_reducible refine aord_plain fun K hK => ?_); simp only [go_sem, Nat.reduceAdd, Nat.reduceMul, Nat.reduceEqDiff, Nat.reduceLT, reduceIte, reduceCtorEq, hA, hq1, hq2, hq3, Nat.add_eq_left, Nat.left_eq_add, Nat.add_assoc, Nat.reduceAdd, if_false, if_true, hA, hq1, hq2, hq3, mat.matL]) | ((with_reducible apply aord_guard); (focus (simp only [St.ev, St.set, upd, Nat.reduceEqDiff, reduceIte, if_false, if_true, hA, hq1, hq2, hq3, Nat.add_eq_left, Nat.left_eq_add, Nat.add_assoc, Nat.reduceAdd, if_false, if_true]; exact rfl)); all_goals (intro hb; (try simp only [Bool.not_true, Bool.not_false] at hb); first | (cases hb; done) | ((try rw [hb]); (try simp only [Bool.not_eq_true', Bool.not_eq_false', Bool.and_eq_true, decide_eq_true_eq, decide_eq_false_iff_not, beq_iff_eq, bne_iff_ne, beq_eq_false_iff_ne, bne_eq_false_iff_eq, Int.not_lt, Int.not_le] at hb); (try (revert hb; with_reducible refine true_imp_iff.2 ?_)); first | (intro K hK; simp only [go_sem, Nat.reduceAdd, Nat.reduceMul, Nat.reduceEqDiff, Nat.reduceLT, reduceIte, reduceCtorEq, hA, hq1, hq2, hq3, Nat.add_eq_left, Nat.left_eq_add, Nat.add_assoc, Nat.reduceAdd, if_false, if_true]) | (simp only [St.ev, St.set, upd, Nat.reduceEqDiff, reduceIte, if_false, if_true, hA, hq1, hq2, hq3, Nat.add_eq_left, Nat.left_eq_add, Nat.add_assoc, Nat.reduceAdd, if_false, if_true]) | skip))) | ((first | with_reducible refine aord_nil ?_ | refine awp_skip ?_ | refine awp_exit ?_ | refine awp_ret ?_); try simp only [thenA_normal, thenA_exit, thenA_goto, thenA_ret, blockA_normal, blockA_same, blockA_exit, blockA_goto, blockA_ret, Nat.reduceEqDiff, if_false, if_true, reduceIte]) | (refine awp_region tabOk rfl ?_; simp only [prep, pickO, List.map_cons, List.map_nil, List.getElem?_toArray, List.getElem?_cons_succ, List.getElem?_cons_zero, Option.bind_some, Option.map_some]) | ((with_reducible apply awp_cond); (focus (simp only [St.ev, St.set, upd, Nat.reduceEqDiff, reduceIte, if_false, if_true, hA, hq1, hq2, hq3, Nat.add_eq_left, Nat.left_eq_add, Nat.add_assoc, Nat.reduceAdd, if_false, if_true]; exact rfl)); all_goals (intro hb; first | (cases hb; done) | ((try rw [hb]); (try simp only [decide_eq_true_eq, decide_eq_false_iff_not, beq_iff_eq, bne_iff_ne, beq_eq_false_iff_ne, bne_eq_false_iff_eq, Int.not_lt, Int.not_le, Bool.not_eq_true', Bool.not_eq_false'] at hb)))) | ((with_reducible refine And.intro (?_ : enters Try.prog 52) ?_); (focus exact Try.call52); (refine callX_sat isItem_sat ?_); simp only [go_sem, and_assoc, List.nil_append, List.append_nil, List.cons_append, Nat.reduceEqDiff, reduceIte, reduceCtorEq, hA, hq1, hq2, hq3, Nat.add_eq_left, Nat.left_eq_add, Nat.add_assoc, Nat.reduceAdd, if_false, if_true, hA, hq1, hq2, hq3, mat.matL]) | (simp only [doneH]; simp only [ressK, resK, wrapR, go_sem, Nat.reduceAdd, Nat.reduceMul, Nat.reduceEqDiff, Nat.reduceLT, reduceIte, reduceCtorEq, hA, hq1, hq2, hq3, Nat.add_eq_left, Nat.left_eq_add, Nat.add_assoc, Nat.reduceAdd, if_false, if_true]) | fail))
    all_goals exact hQ N hN


theorem specSplitOf_sat : SatH Try.prog 25 (fun al h n K => ∃ (z : Int) (A : Nat) (b : Bool) (fs : List (Int × Int)) (a c : Int), al = [.val (.int .i64 (z)), .sl A 0 fs.length 2 none, .val (.int .i64 (a)), .val (.int .i64 (c))] ∧ (h A = some ⟨b, .ints .i64 (flF fs)⟩) ∧ (fs.length ≤ 1099511627776) ∧ ∀ N : Nat, n ≤ N → K (.tup [.val (.int .i64 (spA z fs a c)), .val (.int .i64 (spA z fs c a))]) (h) (N)) := by
  refine satH_intro tabOk Try.func25 rfl 43 rfl [.tmp 8, .tmp 9] rfl ?_
  rintro F W h n al K0 ⟨z, A, b, fs, a, c, rfl, hA, hl, hQ⟩
  refine ⟨Nat.le_of_ble_eq_true rfl, fun m0 hm0 hcl hlt => ?_⟩
  simp only [initT]
  have hAn := (hcl A _ hA).1
  obtain ⟨c1, hq1⟩ : ∃ x, (decide (0 ≤ a) && decide (a ≤ z - 1)) = x := ⟨_, rfl⟩
  obtain ⟨c2, hq2⟩ : ∃ x, (decide (0 ≤ c) && decide (c ≤ z - 1)) = x := ⟨_, rfl⟩
  obtain ⟨c3, hq3⟩ : ∃ x, (a == c) = x := ⟨_, rfl⟩
  have hI : (c1 = true ∧ c2 = true ∧ c3 = false) ↔ spI z a c := by
    rw [← hq1, ← hq2, ← hq3]; unfold spI
    simp only [Bool.and_eq_true, decide_eq_true_eq, beq_eq_false_iff_ne, ne_eq]
    exact ⟨fun h => ⟨⟨⟨h.1.1, by omega⟩, h.2.1.1, by omega⟩, h.2.2⟩, fun h => ⟨⟨h.1.1.1, by omega⟩, ⟨h.1.2.1, by omega⟩, h.2⟩⟩


  repeat' ((fail_if_success (with_reducible refine isRetQ ?_)); (first | refine awp_seq_k fun K hK => ?_ | ((with_reducible refine hK _ ?_); clear hK K) | ((with_reducible refine aord_plain fun K hK => ?_); simp only [go_sem, Nat.reduceAdd, Nat.reduceMul, Nat.reduceEqDiff, Nat.reduceLT, reduceIte, reduceCtorEq, hA, Nat.add_eq_left, Nat.left_eq_add, Nat.add_assoc, Nat.reduceAdd, if_false, if_true, hA, mat.matL]) | ((first | with_reducible refine aord_nil ?_ | refine awp_skip ?_ | refine awp_exit ?_ | refine awp_ret ?_); try simp only [thenA_normal, thenA_exit, thenA_goto, thenA_ret, blockA_normal, blockA_same, blockA_exit, blockA_goto, blockA_ret, Nat.reduceEqDiff, if_false, if_true, reduceIte]) | (refine awp_region tabOk rfl ?_; simp only [prep, pickO, List.map_cons, List.map_nil, List.getElem?_toArray, List.getElem?_cons_succ, List.getElem?_cons_zero, Option.bind_some, Option.map_some]) | ((with_reducible refine And.intro (?_ : enters Try.prog 50) ?_); (focus exact Try.call50); (refine callX_satH specvalidFacts_sat ?_); simp only [go_sem, and_assoc, List.nil_append, List.append_nil, List.cons_append, Nat.reduceEqDiff, reduceIte, reduceCtorEq, hA, Nat.add_eq_left, Nat.left_eq_add, Nat.add_assoc, Nat.reduceAdd, if_false, if_true, hA, mat.matL]) | fail))
  refine ⟨b, fs, rfl, rfl, rfl, hl, fun v N hv hN => ?_⟩
  by_cases hgood : v = true ∧ c1 = true ∧ c2 = true ∧ c3 = false
  · obtain ⟨rfl, rfl, rfl, rfl⟩ := hgood
    have hV := hv.1 rfl
    have hS := hI.1 ⟨rfl, rfl, rfl⟩
    rw [spA_yes hV hS, spA_yes hV (spI_sw hS)] at hQ
    have hcap := orO_cap z fs
    have hrw : ∀ j, ((orO z fs).getD j []).length ≤ 1000 := fun j => by have := orO_row (z := z) (fs := fs) j; omega
    have hsum := sp_sum hV hS
    have hah := sp_ah hV hS
    obtain ⟨d, rfl⟩ : ∃ d : Nat, z = d := ⟨z.toNat, by have := hV.1; omega⟩
    have hd5 : d ≤ 5 := by have := hV.1; omega
    have hi : itemsIn d fs := by have := hV.2.2.1; rwa [Int.toNat_natCast] at this
    have h20 := hV.2.1
    have hord := ordersOf_sat hd5 (fun i j => wT fs d i j) d
    have m1 : (A = N) = False := eq_false (by omega)
    have m2 : ∀ k, (A = N + k) = False := fun k => eq_false (by omega)
    have m3 : (N = A) = False := eq_false (by omega)
    have m4 : ∀ k, (N + k = A) = False := fun k => eq_false (by omega)
    rw [orO_yes hV] at hQ hcap hrw hsum hah


    repeat' (first | refine awp_seq_k fun K hK => ?_ | ((with_reducible refine hK _ ?_); clear hK K) | ((with_reducible refine aord_plain fun K hK => ?_); simp only [go_sem, Nat.reduceAdd, Nat.reduceMul, Nat.reduceEqDiff, Nat.reduceLT, reduceIte, reduceCtorEq, hA, hq1, hq2, hq3, m1, m2, m3, m4, Nat.add_eq_left, Nat.left_eq_add, Nat.add_assoc, Nat.reduceAdd, if_false, if_true, hA, hq1, hq2, hq3, m1, m2, m3, m4, mat.matL]) | ((with_reducible apply aord_guard); (focus (simp only [St.ev, St.set, upd, Nat.reduceEqDiff, reduceIte, if_false, if_true, hA, hq1, hq2, hq3, m1, m2, m3, m4, Nat.add_eq_left, Nat.left_eq_add, Nat.add_assoc, Nat.reduceAdd, if_false, if_true]; exact rfl)); all_goals (intro hb; (try simp only [Bool.not_true, Bool.not_false] at hb); first | (cases hb; done) | ((try rw [hb]); (try simp only [Bool.not_eq_true', Bool.not_eq_false', Bool.and_eq_true, decide_eq_true_eq, decide_eq_false_iff_not, beq_iff_eq, bne_iff_ne, beq_eq_false_iff_ne, bne_eq_false_iff_eq, Int.not_lt, Int.not_le] at hb); (try (revert hb; with_reducible refine true_imp_iff.2 ?_)); first | (intro K hK; simp only [go_sem, Nat.reduceAdd, Nat.reduceMul, Nat.reduceEqDiff, Nat.reduceLT, reduceIte, reduceCtorEq, hA, hq1, hq2, hq3, m1, m2, m3, m4, Nat.add_eq_left, Nat.left_eq_add, Nat.add_assoc, Nat.reduceAdd, if_false, if_true]) | (simp only [St.ev, St.set, upd, Nat.reduceEqDiff, reduceIte, if_false, if_true, hA, hq1, hq2, hq3, m1, m2, m3, m4, Nat.add_eq_left, Nat.left_eq_add, Nat.add_assoc, Nat.reduceAdd, if_false, if_true]) | skip))) | ((first | with_reducible refine aord_nil ?_ | refine awp_skip ?_ | refine awp_exit ?_ | refine awp_ret ?_); try simp only [thenA_normal, thenA_exit, thenA_goto, thenA_ret, blockA_normal, blockA_same, blockA_exit, blockA_goto, blockA_ret, Nat.reduceEqDiff, if_false, if_true, reduceIte]) | (refine awp_region tabOk rfl ?_; simp only [prep, pickO, List.map_cons, List.map_nil, List.getElem?_toArray, List.getElem?_cons_succ, List.getElem?_cons_zero, Option.bind_some, Option.map_some]) | ((with_reducible apply awp_cond); (focus (simp only [St.ev, St.set, upd, Nat.reduceEqDiff, reduceIte, if_false, if_true, hA, hq1, hq2, hq3, m1, m2, m3, m4, Nat.add_eq_left, Nat.left_eq_add, Nat.add_assoc, Nat.reduceAdd, if_false, if_true]; exact rfl)); all_goals (intro hb; first | (cases hb; done) | ((try rw [hb]); (try simp only [decide_eq_true_eq, decide_eq_false_iff_not, beq_iff_eq, bne_iff_ne, beq_eq_false_iff_ne, bne_eq_false_iff_eq, Int.not_lt, Int.not_le, Bool.not_eq_true', Bool.not_eq_false'] at hb)))) | ((with_reducible refine And.intro ?_ ?_); (focus omega)) | ((with_reducible refine And.intro (?_ : enters Try.prog 63) ?_); (focus exact Try.call63); (refine callX_sat inRange_sat ?_); simp only [go_sem, and_assoc, List.nil_append, List.append_nil, List.cons_append, Nat.reduceEqDiff, reduceIte, reduceCtorEq, hA, hq1, hq2, hq3, m1, m2, m3, m4, Nat.add_eq_left, Nat.left_eq_add, Nat.add_assoc, Nat.reduceAdd, if_false, if_true, hA, hq1, hq2, hq3, m1, m2, m3, m4, mat.matL]) | ((with_reducible refine And.intro (?_ : enters Try.prog 58) ?_); (focus exact Try.call58); (refine callX_satH specReach_sat ?_); simp only [go_sem, and_assoc, List.nil_append, List.append_nil, List.cons_append, Nat.reduceEqDiff, reduceIte, reduceCtorEq, hA, hq1, hq2, hq3, m1, m2, m3, m4, Nat.add_eq_left, Nat.left_eq_add, Nat.add_assoc, Nat.reduceAdd, if_false, if_true, hA, hq1, hq2, hq3, m1, m2, m3, m4, mat.matL]) | fail)
    refine ⟨d, rfl, b, fs, rfl, rfl, rfl, hd5, by omega, hi, fun H M O f hM hfr hNM hNO => ?_⟩
    have HN : H N = some ⟨true, .ints .i64 []⟩ := (hfr N (by omega)).trans (if_pos rfl)


    repeat' (first | ((with_reducible refine hK _ ?_); clear hK K) | ((with_reducible refine aord_plain fun K hK => ?_); simp only [go_sem, Nat.reduceAdd, Nat.reduceMul, Nat.reduceEqDiff, Nat.reduceLT, reduceIte, reduceCtorEq, HN, Nat.add_eq_left, Nat.left_eq_add, Nat.add_assoc, Nat.reduceAdd, if_false, if_true, HN, mat.matL]) | ((with_reducible refine And.intro (?_ : enters Try.prog 57) ?_); (focus exact Try.call57); (refine callX_satH hord ?_); simp only [go_sem, and_assoc, List.nil_append, List.append_nil, List.cons_append, Nat.reduceEqDiff, reduceIte, reduceCtorEq, HN, Nat.add_eq_left, Nat.left_eq_add, Nat.add_assoc, Nat.reduceAdd, if_false, if_true, HN, mat.matL]) | fail)
    refine ⟨O, true, [], rfl, rfl, rfl, rfl, f, hM, Beg.nil, by simp, hcap, fun H2 N2 P2 g2 r1 r2 r3 r4 => ?_⟩
    have hPN := r1.outn
    have hdrop : ∀ (o : Nat) (ob : Ob), h o = some ob → H2 o = some ob := fun o ob ho => by rw [r2 o (by have := (hcl o _ ho).1; omega), hfr o (by have := (hcl o _ ho).1; omega), if_neg (by have := (hcl o _ ho).1; omega)]; exact ho


    repeat' ((fail_if_success (with_reducible refine isRetQ ?_)); (first | ((with_reducible refine hK _ ?_); clear hK K) | ((with_reducible refine aord_plain fun K hK => ?_); simp only [go_sem, Nat.reduceAdd, Nat.reduceMul, Nat.reduceEqDiff, Nat.reduceLT, reduceIte, reduceCtorEq, mat.matL]) | ((with_reducible refine And.intro (?_ : enters Try.prog 64) ?_); (focus exact Try.call64); (refine callX_satH specSplit_sat ?_); simp only [go_sem, and_assoc, List.nil_append, List.append_nil, List.cons_append, Nat.reduceEqDiff, reduceIte, reduceCtorEq, mat.matL]) | fail))
    refine ⟨g2, ordR (fun i j => wT fs d i j) d d [], rfl, r1, by omega, hrw, hS.2, ?_⟩
    rw [hah]
    repeat' ((fail_if_success (with_reducible refine isRetQ ?_)); (first | ((with_reducible refine hK _ ?_); clear hK K) | ((with_reducible refine aord_plain fun K hK => ?_); simp only [go_sem, Nat.reduceAdd, Nat.reduceMul, Nat.reduceEqDiff, Nat.reduceLT, reduceIte, reduceCtorEq, mat.matL]) | ((first | with_reducible refine aord_nil ?_ | refine awp_skip ?_ | refine awp_exit ?_ | refine awp_ret ?_); try simp only [thenA_normal, thenA_exit, thenA_goto, thenA_ret, blockA_normal, blockA_same, blockA_exit, blockA_goto, blockA_ret, Nat.reduceEqDiff, if_false, if_true, reduceIte]) | fail))
    refine awp_weaken (s' := ⟨upd (upd bot 9 (.val (.int .i64 ((((ordR (fun i j => wT fs d i j) d d []).filter (agB [(c, a)])).length : Nat) : Int)))) 8 (.val (.int .i64 ((((ordR (fun i j => wT fs d i j) d d []).filter (agB [(a, c)])).length : Nat) : Int))), h, N2⟩) (Wk.sub (tsd (tsd tsd0 ?_) rfl) hdrop rfl) ?_
    · show AV.val (.int .i64 _) = AV.val (.int .i64 _)
      congr 2; omega
    repeat' (first | ((first | with_reducible refine aord_nil ?_ | refine awp_skip ?_ | refine awp_exit ?_ | refine awp_ret ?_); try simp only [thenA_normal, thenA_exit, thenA_goto, thenA_ret, blockA_normal, blockA_same, blockA_exit, blockA_goto, blockA_ret, Nat.reduceEqDiff, if_false, if_true, reduceIte]) | (simp only [doneH]; simp only [ressK, resK, wrapR, go_sem, Nat.reduceAdd, Nat.reduceMul, Nat.reduceEqDiff, Nat.reduceLT, reduceIte, reduceCtorEq]) | fail)
    exact hQ N2 (by omega)
  · have hno : ¬ (VF z fs ∧ spI z a c) := fun h => hgood ⟨hv.2 h.1, hI.2 h.2⟩
    have hno2 : ¬ (VF z fs ∧ spI z c a) := fun h => hgood ⟨hv.2 h.1, hI.2 (spI_sw h.2)⟩
    rw [spA_no hno, spA_no hno2] at hQ
    cases v with
    | false =>


      repeat' (first | refine awp_seq_k fun K hK => ?_ | ((with_reducible refine hK _ ?_); clear hK K) | ((with_reducible refine aord_plain fun K hK => ?_); simp only [go_sem, Nat.reduceAdd, Nat.reduceMul, Nat.reduceEqDiff, Nat.reduceLT, reduceIte, reduceCtorEq, hA, Nat.add_eq_left, Nat.left_eq_add, Nat.add_assoc, Nat.reduceAdd, if_false, if_true, hA, mat.matL]) | ((with_reducible apply aord_guard); (focus (simp only [St.ev, St.set, upd, Nat.reduceEqDiff, reduceIte, if_false, if_true, hA, Nat.add_eq_left, Nat.left_eq_add, Nat.add_assoc, Nat.reduceAdd, if_false, if_true]; exact rfl)); all_goals (intro hb; (try simp only [Bool.not_true, Bool.not_false] at hb); first | (cases hb; done) | ((try rw [hb]); (try simp only [Bool.not_eq_true', Bool.not_eq_false', Bool.and_eq_true, decide_eq_true_eq, decide_eq_false_iff_not, beq_iff_eq, bne_iff_ne, beq_eq_false_iff_ne, bne_eq_false_iff_eq, Int.not_lt, Int.not_le] at hb); (try (revert hb; with_reducible refine true_imp_iff.2 ?_)); first | (intro K hK; simp only [go_sem, Nat.reduceAdd, Nat.reduceMul, Nat.reduceEqDiff, Nat.reduceLT, reduceIte, reduceCtorEq, hA, Nat.add_eq_left, Nat.left_eq_add, Nat.add_assoc, Nat.reduceAdd, if_false, if_true]) | (simp only [St.ev, St.set, upd, Nat.reduceEqDiff, reduceIte, if_false, if_true, hA, Nat.add_eq_left, Nat.left_eq_add, Nat.add_assoc, Nat.reduceAdd, if_false, if_true]) | skip))) | ((first | with_reducible refine aord_nil ?_ | refine awp_skip ?_ | refine awp_exit ?_ | refine awp_ret ?_); try simp only [thenA_normal, thenA_exit, thenA_goto, thenA_ret, blockA_normal, blockA_same, blockA_exit, blockA_goto, blockA_ret, Nat.reduceEqDiff, if_false, if_true, reduceIte]) | (refine awp_region tabOk rfl ?_; simp only [prep, pickO, List.map_cons, List.map_nil, List.getElem?_toArray, List.getElem?_cons_succ, List.getElem?_cons_zero, Option.bind_some, Option.map_some]) | ((with_reducible apply awp_cond); (focus (simp only [St.ev, St.set, upd, Nat.reduceEqDiff, reduceIte, if_false, if_true, hA, Nat.add_eq_left, Nat.left_eq_add, Nat.add_assoc, Nat.reduceAdd, if_false, if_true]; exact rfl)); all_goals (intro hb; first | (cases hb; done) | ((try rw [hb]); (try simp only [decide_eq_true_eq, decide_eq_false_iff_not, beq_iff_eq, bne_iff_ne, beq_eq_false_iff_ne, bne_eq_false_iff_eq, Int.not_lt, Int.not_le, Bool.not_eq_true', Bool.not_eq_false'] at hb)))) | (simp only [doneH]; simp only [ressK, resK, wrapR, go_sem, Nat.reduceAdd, Nat.reduceMul, Nat.reduceEqDiff, Nat.reduceLT, reduceIte, reduceCtorEq, hA, Nat.add_eq_left, Nat.left_eq_add, Nat.add_assoc, Nat.reduceAdd, if_false, if_true]) | fail)
      exact hQ N hN
    | true =>
      have hzb := (hv.1 rfl).1
      cases c1 <;> cases c2 <;> cases c3
      all_goals try (exact absurd ⟨rfl, rfl, rfl, rfl⟩ hgood)
      all_goals (


        repeat' (first | refine awp_seq_k fun K hK => ?_ | ((with_reducible refine hK _ ?_); clear hK K) | ((with_reducible refine aord_plain fun K hK => ?_); simp only [go_sem, Nat.reduceAdd, Nat.reduceMul, Nat.reduceEqDiff, Nat.reduceLT, reduceIte, reduceCtorEq, hA, hq1, hq2, hq3, Nat.add_eq_left, Nat.left_eq_add, Nat.add_assoc, Nat.reduceAdd, if_false, if_true, hA, hq1, hq2, hq3, mat.matL]) | ((with_reducible apply aord_guard); (focus (simp only [St.ev, St.set, upd, Nat.reduceEqDiff, reduceIte, if_false, if_true, hA, hq1, hq2, hq3, Nat.add_eq_left, Nat.left_eq_add, Nat.add_assoc, Nat.reduceAdd, if_false, if_true]; exact rfl)); all_goals (intro hb; (try simp only [Bool.not_true, Bool.not_false] at hb); first | (cases hb; done) | ((try rw [hb]); (try simp only [Bool.not_eq_true', Bool.not_eq_false', Bool.and_eq_true, decide_eq_true_eq, decide_eq_false_iff_not, beq_iff_eq, bne_iff_ne, beq_eq_false_iff_ne, bne_eq_false_iff_eq, Int.not_lt, Int.not_le] at hb); (try (revert hb; with_reducible refine true_imp_iff.2 ?_)); first | (intro K hK; simp only [go_sem, Nat.reduceAdd, Nat.reduceMul, Nat.reduceEqDiff, Nat.reduceLT, reduceIte, reduceCtorEq, hA, hq1, hq2, hq3, Nat.add_eq_left, Nat.left_eq_add, Nat.add_assoc, Nat.reduceAdd, if_false, if_true]) | (simp only [St.ev, St.set, upd, Nat.reduceEqDiff, reduceIte, if_false, if_true, hA, hq1, hq2, hq3, Nat.add_eq_left, Nat.left_eq_add, Nat.add_assoc, Nat.reduceAdd, if_false, if_true]) | skip))) | ((first | with_reducible refine aord_nil ?_ | refine awp_skip ?_ | refine awp_exit ?_ | refine awp_ret ?_); try simp only [thenA_normal, thenA_exit, thenA_goto, thenA_ret, blockA_normal, blockA_same, blockA_exit, blockA_goto, blockA_ret, Nat.reduceEqDiff, if_false, if_true, reduceIte]) | (refine awp_region tabOk rfl ?_; simp only [prep, pickO, List.map_cons, List.map_nil, List.getElem?_toArray, List.getElem?_cons_succ, List.getElem?_cons_zero, Option.bind_some, Option.map_some]) | ((with_reducible apply awp_cond); (focus (simp only [St.ev, St.set, upd, Nat.reduceEqDiff, reduceIte, if_false, if_true, hA, hq1, hq2, hq3, Nat.add_eq_left, Nat.left_eq_add, Nat.add_assoc, Nat.reduceAdd, if_false, if_true]; exact rfl)); all_goals (intro hb; first | (cases hb; done) | ((try rw [hb]); (try simp only [decide_eq_true_eq, decide_eq_false_iff_not, beq_iff_eq, bne_iff_ne, beq_eq_false_iff_ne, bne_eq_false_iff_eq, Int.not_lt, Int.not_le, Bool.not_eq_true', Bool.not_eq_false'] at hb)))) | ((with_reducible refine And.intro ?_ ?_); (focus omega)) | ((with_reducible refine And.intro (?_ : enters Try.prog 63) ?_); (focus exact Try.call63); (refine callX_sat inRange_sat ?_); simp only [go_sem, and_assoc, List.nil_append, List.append_nil, List.cons_append, Nat.reduceEqDiff, reduceIte, reduceCtorEq, hA, hq1, hq2, hq3, Nat.add_eq_left, Nat.left_eq_add, Nat.add_assoc, Nat.reduceAdd, if_false, if_true, hA, hq1, hq2, hq3, mat.matL]) | (simp only [doneH]; simp only [ressK, resK, wrapR, go_sem, Nat.reduceAdd, Nat.reduceMul, Nat.reduceEqDiff, Nat.reduceLT, reduceIte, reduceCtorEq, hA, hq1, hq2, hq3, Nat.add_eq_left, Nat.left_eq_add, Nat.add_assoc, Nat.reduceAdd, if_false, if_true]) | fail))
      all_goals exact hQ N hN

theorem Tc_add {fs : List (Int × Int)} {a c x y : Int} (t : Tc (fs ++ [(c, a)]) x y) : Tc fs x y ∨ ((x = c ∨ Tc fs x c) ∧ (a = y ∨ Tc fs a y)) := by
  induction t with
  | @base x y h =>
    rcases List.mem_append.1 h with h1 | h1
    · exact .inl (.base h1)
    · have e := List.mem_singleton.1 h1
      exact .inr ⟨.inl (congrArg Prod.fst e), .inl (congrArg Prod.snd e).symm⟩
  | step _ _ h1 h2 =>
    rcases h1 with h1 | ⟨h1, h3⟩ <;> rcases h2 with h2 | ⟨h2, h4⟩
    · exact .inl (h1.step h2)
    · exact .inr ⟨h2.elim (fun e => .inr (e ▸ h1)) (fun e => .inr (h1.step e)), h4⟩
    · exact .inr ⟨h1, h3.elim (fun e => .inr (e ▸ h2)) (fun e => .inr (e.step h2))⟩
    · exact .inr ⟨h1, h4⟩
theorem sp_told {z : Int} {fs : List (Int × Int)} {a c : Int} (h : VF z fs) (h2 : spI z a c) : ((orO z fs).filter (agB [(c, a)])).length = 0 ↔ Tc fs a c := by
  obtain ⟨d, rfl⟩ : ∃ d : Nat, z = d := ⟨z.toNat, by have := h.1; omega⟩
  have hi : itemsIn d fs := by have := h.2.2.1; rwa [Int.toNat_natCast] at this
  rw [List.length_eq_zero_iff, List.filter_eq_nil_iff]
  constructor
  · intro hn
    by_cases ht : Tc fs a c
    · exact ht
    · have hi2 : itemsIn d (fs ++ [(c, a)]) := fun f hf => by
        rcases List.mem_append.1 hf with h3 | h3
        · exact hi f h3
        · rw [List.mem_singleton.1 h3]; exact ⟨h2.1.2, h2.1.1⟩
      have hx : ∀ x, ¬ Tc (fs ++ [(c, a)]) x x := fun x t => by
        rcases Tc_add t with t | ⟨t1, t2⟩
        · exact h.2.2.2 x t
        · rcases t1 with e1 | t1 <;> rcases t2 with e2 | t2
          · exact h2.2 (e2.trans e1)
          · exact ht (e1 ▸ t2)
          · exact ht (e2 ▸ t1)
          · exact ht (t2.step t1)
      have hne := ordR_ne hi2 hx d Beg.nil (by simp) (fun x y hy => by simp at hy)
      rw [← ord_left hi2 d .nil (by simp) (fun ⟨i, j, h1, h3, _⟩ => by simp at h3)] at hne
      obtain ⟨q, hq⟩ := List.exists_mem_of_ne_nil _ hne
      obtain ⟨hq1, hq2⟩ := List.mem_filter.1 hq
      rw [agB_iff] at hq2
      have hm : q ∈ orO d fs := by
        rw [orO_ag h]
        exact List.mem_filter.2 ⟨hq1, agB_iff.2 fun f hf => hq2 f (List.mem_append_left _ hf)⟩
      exact (hn q hm (agB_iff.2 fun f hf => hq2 f (List.mem_append_right _ hf))).elim
  · intro ht q hq hag
    obtain ⟨hb, hl⟩ := orO_beg h hq
    rw [orO_ag h] at hq
    have hg := (ag_good hi hb hl).1 (List.mem_filter.1 hq).2
    obtain ⟨i, h3, h4, h5⟩ := hb.all hl h2.1.1
    obtain ⟨j, h6, h7, h8⟩ := hb.all hl h2.1.2
    have h9 := agB_iff.1 hag (c, a) (by simp)
    dsimp only at h9
    rw [h5, h8] at h9
    have hij : i ≠ j := fun e => h2.2 (by rw [← h4, ← h7, e])
    exact hg ⟨j, i, by omega, h3, by rw [h4, h7]; exact ht⟩
theorem kn_told {z : Int} {fs : List (Int × Int)} {a c : Int} (h : VF z fs) : (a, c) ∈ knO z fs ↔ Tc fs a c := by
  obtain ⟨d, rfl⟩ : ∃ d : Nat, z = d := ⟨z.toNat, by have := h.1; omega⟩
  have hi : itemsIn d fs := by have := h.2.2.1; rwa [Int.toNat_natCast] at this
  constructor
  · intro hm
    exact (Tc_kn h).1 (.base hm)
  · intro t
    obtain ⟨⟨a0, a1⟩, b0, b1⟩ := Tc_in hi t
    have := knTo_has (r := fun i j => wT fs d i j) (d := d) (i := a.toNat) (k := c.toNat) (by omega) (wT_all hi t) (m := d) (by omega)
    rw [Int.toNat_of_nonneg a0, Int.toNat_of_nonneg b0] at this
    rw [knO_yes h]; exact this
theorem mem_up {kn : List (Int × Int)} {i : Nat} {f : Int × Int} (hi : i < kn.length) : decide (f ∈ kn.take (i + 1)) = (decide (f ∈ kn.take i) || (decide ((kn.getD i (0, 0)).1 = f.1) && decide ((kn.getD i (0, 0)).2 = f.2))) := by
  rw [tk_snoc hi, Bool.eq_iff_iff]
  simp only [decide_eq_true_eq, Bool.or_eq_true, Bool.and_eq_true, List.mem_append, List.mem_singleton]
  constructor
  · rintro (h | h)
    · exact .inl h
    · exact .inr ⟨by rw [h], by rw [h]⟩
  · rintro (h | ⟨h1, h2⟩)
    · exact .inl h
    · exact .inr (Prod.ext h1.symm h2.symm)


theorem drawSplitOf_sat : SatH Try.prog 23 (fun al h n K => ∃ (bs : List Int), al = [.sl 0 0 bs.length 1 none] ∧ (n = 1) ∧ (h 0 = some ⟨false, .ints .u8 bs⟩) ∧ (bs.length ≤ 1099511627776) ∧ (bytesOk bs) ∧ ∀ (H : Hp) (N : Nat) (z : Int) (fs : List (Int × Int)) (a c : Int), -1 ≤ z ∧ z ≤ 6 → fs.length ≤ 8 → H 2 = some ⟨true, .ints .i64 (flF fs)⟩ → 3 ≤ N → K (.tup [.val (.int .i64 z), .sl 2 0 fs.length 2 none, .val (.int .i64 a), .val (.int .i64 c)]) (H) (N)) := by
  refine satH_intro tabOk Try.func23 rfl 27 rfl [.tmp 2, .tmp 3, .tmp 4, .tmp 5] rfl ?_
  rintro F W h n al K0 ⟨bs, rfl, hn, h0, hL, hbs, hQ⟩
  refine ⟨Nat.le_of_ble_eq_true rfl, fun m0 hm0 hcl hlt => ?_⟩
  simp only [initT]
  subst hn


  repeat' (first | refine awp_seq_k fun K hK => ?_ | ((with_reducible refine hK _ ?_); clear hK K) | ((with_reducible refine aord_plain fun K hK => ?_); simp only [go_sem, Nat.reduceAdd, Nat.reduceMul, Nat.reduceEqDiff, Nat.reduceLT, reduceIte, reduceCtorEq, h0, Nat.add_eq_left, Nat.left_eq_add, Nat.add_assoc, Nat.reduceAdd, if_false, if_true, h0]) | ((first | with_reducible refine aord_nil ?_ | refine awp_skip ?_ | refine awp_exit ?_ | refine awp_ret ?_); try simp only [thenA_normal, thenA_exit, thenA_goto, thenA_ret, blockA_normal, blockA_same, blockA_exit, blockA_goto, blockA_ret, Nat.reduceEqDiff, if_false, if_true, reduceIte]) | (refine awp_region tabOk rfl ?_; simp only [prep, pickO, List.map_cons, List.map_nil, List.getElem?_toArray, List.getElem?_cons_succ, List.getElem?_cons_zero, Option.bind_some, Option.map_some]) | ((with_reducible apply awp_cond); (focus (simp only [St.ev, St.set, upd, Nat.reduceEqDiff, reduceIte, if_false, if_true, h0, Nat.add_eq_left, Nat.left_eq_add, Nat.add_assoc, Nat.reduceAdd, if_false, if_true]; exact rfl)); all_goals (intro hb; first | (cases hb; done) | ((try rw [hb]); (try simp only [decide_eq_true_eq, decide_eq_false_iff_not, beq_iff_eq, bne_iff_ne, beq_eq_false_iff_ne, bne_eq_false_iff_eq, Int.not_lt, Int.not_le, Bool.not_eq_true', Bool.not_eq_false'] at hb)))) | ((with_reducible refine And.intro ?_ ?_); (focus omega)) | ((with_reducible refine And.intro (?_ : enters Try.prog 42) ?_); (focus exact Try.call42); (refine callX_satH someFacts_sat ?_); simp only [go_sem, and_assoc, List.nil_append, List.append_nil, List.cons_append, Nat.reduceEqDiff, reduceIte, reduceCtorEq, h0, Nat.add_eq_left, Nat.left_eq_add, Nat.add_assoc, Nat.reduceAdd, if_false, if_true, h0]) | ((with_reducible refine And.intro (?_ : enters Try.prog 43) ?_); (focus exact Try.call43); (refine callX_h (callH_inline tabOk Try.func43 rfl 11 rfl [.tmp 2] rfl (Nat.le_of_ble_eq_true rfl) fun m0 hm0 hcl hlt => ?_)); simp only [initT, St.ev, St.set, upd, Nat.reduceEqDiff, reduceIte, if_false, if_true, h0, Nat.add_eq_left, Nat.left_eq_add, Nat.add_assoc, Nat.reduceAdd, if_false, if_true]) | (simp only [rBuild]; simp only [fillA, Nat.reduceLeDiff, List.getElem?_cons_zero, List.getElem?_cons_succ, List.drop_succ_cons, List.drop_nil, List.take_nil, List.cons_append, Option.isSome_some, go_sem, Nat.reduceAdd, Nat.reduceMul, Nat.reduceEqDiff, Nat.reduceLT, reduceIte, reduceCtorEq, h0, Nat.add_eq_left, Nat.left_eq_add, Nat.add_assoc, Nat.reduceAdd, if_false, if_true]) | (simp only [doneH]; simp only [ressK, resK, wrapR, go_sem, Nat.reduceAdd, Nat.reduceMul, Nat.reduceEqDiff, Nat.reduceLT, reduceIte, reduceCtorEq, h0, Nat.add_eq_left, Nat.left_eq_add, Nat.add_assoc, Nat.reduceAdd, if_false, if_true]) | fail)
  all_goals (
    refine ⟨_, _, 0, rfl, by omega, by omega, hbs, by omega, ?_⟩
    intro z fs r hz hfs hr)
  repeat' (first | refine awp_seq_k fun K hK => ?_ | ((with_reducible refine hK _ ?_); clear hK K) | ((with_reducible refine aord_plain fun K hK => ?_); simp only [go_sem, Nat.reduceAdd, Nat.reduceMul, Nat.reduceEqDiff, Nat.reduceLT, reduceIte, reduceCtorEq, h0, Nat.add_eq_left, Nat.left_eq_add, Nat.add_assoc, Nat.reduceAdd, if_false, if_true, h0]) | ((first | with_reducible refine aord_nil ?_ | refine awp_skip ?_ | refine awp_exit ?_ | refine awp_ret ?_); try simp only [thenA_normal, thenA_exit, thenA_goto, thenA_ret, blockA_normal, blockA_same, blockA_exit, blockA_goto, blockA_ret, Nat.reduceEqDiff, if_false, if_true, reduceIte]) | (refine awp_region tabOk rfl ?_; simp only [prep, pickO, List.map_cons, List.map_nil, List.getElem?_toArray, List.getElem?_cons_succ, List.getElem?_cons_zero, Option.bind_some, Option.map_some]) | ((with_reducible refine And.intro (?_ : enters Try.prog 60) ?_); (focus exact Try.call60); (refine callX_satH pick_sat ?_); simp only [go_sem, and_assoc, List.nil_append, List.append_nil, List.cons_append, Nat.reduceEqDiff, reduceIte, reduceCtorEq, h0, Nat.add_eq_left, Nat.left_eq_add, Nat.add_assoc, Nat.reduceAdd, if_false, if_true, h0]) | fail)
  all_goals (
    refine ⟨_, _, r, rfl, by omega, by omega, hbs, by omega, by decide, ?_⟩
    intro v1 hv10 hv11)
  repeat' (first | ((with_reducible refine hK _ ?_); clear hK K) | ((with_reducible refine aord_plain fun K hK => ?_); simp only [go_sem, Nat.reduceAdd, Nat.reduceMul, Nat.reduceEqDiff, Nat.reduceLT, reduceIte, reduceCtorEq, h0, Nat.add_eq_left, Nat.left_eq_add, Nat.add_assoc, Nat.reduceAdd, if_false, if_true, h0]) | ((with_reducible refine And.intro (?_ : enters Try.prog 60) ?_); (focus exact Try.call60); (refine callX_satH pick_sat ?_); simp only [go_sem, and_assoc, List.nil_append, List.append_nil, List.cons_append, Nat.reduceEqDiff, reduceIte, reduceCtorEq, h0, Nat.add_eq_left, Nat.left_eq_add, Nat.add_assoc, Nat.reduceAdd, if_false, if_true, h0]) | fail)
  all_goals (
    refine ⟨_, _, r + 1, rfl, by omega, by omega, hbs, by omega, by decide, ?_⟩
    intro v2 hv20 hv21)
  repeat' (first | ((with_reducible refine hK _ ?_); clear hK K) | ((with_reducible refine aord_plain fun K hK => ?_); simp only [go_sem, Nat.reduceAdd, Nat.reduceMul, Nat.reduceEqDiff, Nat.reduceLT, reduceIte, reduceCtorEq, h0, Nat.add_eq_left, Nat.left_eq_add, Nat.add_assoc, Nat.reduceAdd, if_false, if_true, h0]) | ((with_reducible refine And.intro (?_ : enters Try.prog 60) ?_); (focus exact Try.call60); (refine callX_satH pick_sat ?_); simp only [go_sem, and_assoc, List.nil_append, List.append_nil, List.cons_append, Nat.reduceEqDiff, reduceIte, reduceCtorEq, h0, Nat.add_eq_left, Nat.left_eq_add, Nat.add_assoc, Nat.reduceAdd, if_false, if_true, h0]) | fail)
  all_goals (
    refine ⟨_, _, r + 2, rfl, by omega, by omega, hbs, by omega, by decide, ?_⟩
    intro v3 hv30 hv31)
  repeat' (first | ((with_reducible refine hK _ ?_); clear hK K) | ((with_reducible refine aord_plain fun K hK => ?_); simp only [go_sem, Nat.reduceAdd, Nat.reduceMul, Nat.reduceEqDiff, Nat.reduceLT, reduceIte, reduceCtorEq, h0, Nat.add_eq_left, Nat.left_eq_add, Nat.add_assoc, Nat.reduceAdd, if_false, if_true, h0]) | ((with_reducible refine And.intro ?_ ?_); (focus omega)) | ((with_reducible refine And.intro (?_ : enters Try.prog 61) ?_); (focus exact Try.call61); (refine callX_satH one_sat ?_); simp only [go_sem, and_assoc, List.nil_append, List.append_nil, List.cons_append, Nat.reduceEqDiff, reduceIte, reduceCtorEq, h0, Nat.add_eq_left, Nat.left_eq_add, Nat.add_assoc, Nat.reduceAdd, if_false, if_true, h0]) | fail)
  all_goals (
    refine ⟨_, _, _, r + 3, rfl, by omega, by omega, hbs, rfl, rfl, by omega, by omega, by omega, ?_⟩
    intro v4 hv4
    generalize ([v2, v3, 1, 0, -1] : List Int).getD v4 0 = c at *)
  repeat' (first | ((with_reducible refine hK _ ?_); clear hK K) | ((with_reducible refine aord_plain fun K hK => ?_); simp only [go_sem, Nat.reduceAdd, Nat.reduceMul, Nat.reduceEqDiff, Nat.reduceLT, reduceIte, reduceCtorEq, h0, Nat.add_eq_left, Nat.left_eq_add, Nat.add_assoc, Nat.reduceAdd, if_false, if_true, h0]) | ((first | with_reducible refine aord_nil ?_ | refine awp_skip ?_ | refine awp_exit ?_ | refine awp_ret ?_); try simp only [thenA_normal, thenA_exit, thenA_goto, thenA_ret, blockA_normal, blockA_same, blockA_exit, blockA_goto, blockA_ret, Nat.reduceEqDiff, if_false, if_true, reduceIte]) | (simp only [doneH]; simp only [ressK, resK, wrapR, go_sem, Nat.reduceAdd, Nat.reduceMul, Nat.reduceEqDiff, Nat.reduceLT, reduceIte, reduceCtorEq, h0, Nat.add_eq_left, Nat.left_eq_add, Nat.add_assoc, Nat.reduceAdd, if_false, if_true]) | fail)
  all_goals exact hQ _ _ z fs v1 c hz hfs (by (repeat (first | rw [upd_same] | rw [upd_ne _ _ (by omega)]))) (by omega)

theorem FnSplitOf_sat : Sat Try.prog 5 (fun ds Q => ∃ bs, ds = [.row (.ints .u8 bs)] ∧ bs.length ≤ 9223372036854775807 ∧ bytesOk bs ∧ Q (.val (.bool true))) := by
  refine sat_intro tabOk Try.func5 rfl 122 rfl [.tmp 2] rfl ?_
  rintro ds Q W ⟨bs, rfl, hlen, hbs, hQ⟩
  refine ⟨Nat.le_of_ble_eq_true rfl, ?_⟩
  simp only [initS, initT, mat.matL, mat, Cont.len]
  repeat' (first | refine awp_seq_k fun K hK => ?_ | ((with_reducible refine hK _ ?_); clear hK K) | ((with_reducible refine aord_plain fun K hK => ?_); simp only [go_sem, Nat.reduceAdd, Nat.reduceMul, Nat.reduceEqDiff, Nat.reduceLT, reduceIte, reduceCtorEq, mat.matL, Int.toNat_zero]) | ((first | with_reducible refine aord_nil ?_ | refine awp_skip ?_ | refine awp_exit ?_ | refine awp_ret ?_); try simp only [thenA_normal, thenA_exit, thenA_goto, thenA_ret, blockA_normal, blockA_same, blockA_exit, blockA_goto, blockA_ret, Nat.reduceEqDiff, if_false, if_true, reduceIte]) | (refine awp_region tabOk rfl ?_; simp only [prep, pickO, List.map_cons, List.map_nil, List.getElem?_toArray, List.getElem?_cons_succ, List.getElem?_cons_zero, Option.bind_some, Option.map_some]) | ((with_reducible apply awp_cond); (focus (simp only [St.ev, St.set, upd, Nat.reduceEqDiff, reduceIte, if_false, if_true]; exact rfl)); all_goals (intro hb; first | (cases hb; done) | ((try rw [hb]); (try simp only [decide_eq_true_eq, decide_eq_false_iff_not, beq_iff_eq, bne_iff_ne, beq_eq_false_iff_ne, bne_eq_false_iff_eq, Int.not_lt, Int.not_le, Bool.not_eq_true', Bool.not_eq_false'] at hb)))) | ((with_reducible refine And.intro (?_ : enters Try.prog 23) ?_); (focus exact Try.call23); (refine callX_satH drawSplitOf_sat ?_); simp only [go_sem, and_assoc, List.nil_append, List.append_nil, List.cons_append, Nat.reduceEqDiff, reduceIte, reduceCtorEq, mat.matL, Int.toNat_zero]) | fail)
  · simp only [St.set, St.ev, doneQ, doneH, ressK, resK, wrapR, AV.ids, AV.idsL, retK, retsK, upd, Nat.reduceEqDiff, reduceIte, if_false, if_true, List.nodup_nil, List.nodup_cons, List.not_mem_nil, not_false_eq_true, true_and, and_true, exists_eq_left', Option.some.injEq, rLoad, cellOf, tab, Ty.isAgg, Ty.one, Bool.false_eq_true]
    exact hQ
  refine ⟨bs, rfl, rfl, by omega, hbs, fun H N z fs a c hz hfs HA hN => ?_⟩
  have hfl := flF_len fs
  have eb1 : (spA z fs a c != spA z fs a c) = false := bne_self_eq_false _
  have eb2 : (spA z fs c a != spA z fs c a) = false := bne_self_eq_false _
  have eb3 : (spA z fs a c == spA z fs a c) = true := beq_self_eq_true _
  have eb4 : (spA z fs c a == spA z fs c a) = true := beq_self_eq_true _


  repeat' (first | refine awp_seq_k fun K hK => ?_ | ((with_reducible refine hK _ ?_); clear hK K) | ((with_reducible refine aord_plain fun K hK => ?_); simp only [go_sem, Nat.reduceAdd, Nat.reduceMul, Nat.reduceEqDiff, Nat.reduceLT, reduceIte, reduceCtorEq, HA, Nat.add_eq_left, Nat.left_eq_add, Nat.add_assoc, Nat.reduceAdd, if_false, if_true, HA, mat.matL]) | ((first | with_reducible refine aord_nil ?_ | refine awp_skip ?_ | refine awp_exit ?_ | refine awp_ret ?_); try simp only [thenA_normal, thenA_exit, thenA_goto, thenA_ret, blockA_normal, blockA_same, blockA_exit, blockA_goto, blockA_ret, Nat.reduceEqDiff, if_false, if_true, reduceIte]) | (refine awp_region tabOk rfl ?_; simp only [prep, pickO, List.map_cons, List.map_nil, List.getElem?_toArray, List.getElem?_cons_succ, List.getElem?_cons_zero, Option.bind_some, Option.map_some]) | ((with_reducible refine And.intro (?_ : enters Try.prog 24) ?_); (focus exact Try.call24); (refine callX_satH implSplitOf_sat ?_); simp only [go_sem, and_assoc, List.nil_append, List.append_nil, List.cons_append, Nat.reduceEqDiff, reduceIte, reduceCtorEq, HA, Nat.add_eq_left, Nat.left_eq_add, Nat.add_assoc, Nat.reduceAdd, if_false, if_true, HA, mat.matL]) | fail)
  refine ⟨true, fs, rfl, rfl, rfl, by omega, fun N1 hN1 => ?_⟩


  repeat' (first | refine awp_seq_k fun K hK => ?_ | ((with_reducible refine hK _ ?_); clear hK K) | ((with_reducible refine aord_plain fun K hK => ?_); simp only [go_sem, Nat.reduceAdd, Nat.reduceMul, Nat.reduceEqDiff, Nat.reduceLT, reduceIte, reduceCtorEq, HA, Nat.add_eq_left, Nat.left_eq_add, Nat.add_assoc, Nat.reduceAdd, if_false, if_true, HA, mat.matL]) | ((first | with_reducible refine aord_nil ?_ | refine awp_skip ?_ | refine awp_exit ?_ | refine awp_ret ?_); try simp only [thenA_normal, thenA_exit, thenA_goto, thenA_ret, blockA_normal, blockA_same, blockA_exit, blockA_goto, blockA_ret, Nat.reduceEqDiff, if_false, if_true, reduceIte]) | (refine awp_region tabOk rfl ?_; simp only [prep, pickO, List.map_cons, List.map_nil, List.getElem?_toArray, List.getElem?_cons_succ, List.getElem?_cons_zero, Option.bind_some, Option.map_some]) | ((with_reducible refine And.intro (?_ : enters Try.prog 25) ?_); (focus exact Try.call25); (refine callX_satH specSplitOf_sat ?_); simp only [go_sem, and_assoc, List.nil_append, List.append_nil, List.cons_append, Nat.reduceEqDiff, reduceIte, reduceCtorEq, HA, Nat.add_eq_left, Nat.left_eq_add, Nat.add_assoc, Nat.reduceAdd, if_false, if_true, HA, mat.matL]) | fail)
  refine ⟨true, fs, rfl, rfl, rfl, by omega, fun N2 hN2 => ?_⟩
  by_cases hG : VF z fs ∧ spI z a c
  · obtain ⟨hV, hS⟩ := hG
    have e1 := spA_yes hV hS
    have e2 := spA_yes hV (spI_sw hS)
    have hsum := sp_sum hV hS
    have hcap := orO_cap z fs
    have eY : (((((orO z fs).filter (agB [(c, a)])).length : Nat) : Int) == 0) = decide ((a, c) ∈ knO z fs) := by
      rw [Bool.eq_iff_iff, beq_iff_eq, decide_eq_true_eq, kn_told hV, ← sp_told hV hS]; omega
    rw [e1] at eb1 eb3
    rw [e2] at eb2 eb4
    rw [e1, e2]
    generalize hXX : ((orO z fs).filter (agB [(a, c)])).length = X at *
    generalize hYY : ((orO z fs).filter (agB [(c, a)])).length = Y at *
    have en : decide (((X : Nat) : Int) < 0) = false := decide_eq_false (by omega)


    repeat' (first | refine awp_seq_k fun K hK => ?_ | ((with_reducible refine hK _ ?_); clear hK K) | ((with_reducible refine aord_plain fun K hK => ?_); simp only [go_sem, Nat.reduceAdd, Nat.reduceMul, Nat.reduceEqDiff, Nat.reduceLT, reduceIte, reduceCtorEq, HA, eb1, eb2, en, Nat.add_eq_left, Nat.left_eq_add, Nat.add_assoc, Nat.reduceAdd, if_false, if_true, HA, mat.matL, eb1, eb2, en]) | ((with_reducible apply aord_guard); (focus (simp only [St.ev, St.set, upd, Nat.reduceEqDiff, reduceIte, if_false, if_true, HA, eb1, eb2, en, Nat.add_eq_left, Nat.left_eq_add, Nat.add_assoc, Nat.reduceAdd, if_false, if_true]; exact rfl)); all_goals (intro hb; (try simp only [Bool.not_true, Bool.not_false] at hb); first | (cases hb; done) | ((try rw [hb]); (try simp only [Bool.not_eq_true', Bool.not_eq_false', Bool.and_eq_true, decide_eq_true_eq, decide_eq_false_iff_not, beq_iff_eq, bne_iff_ne, beq_eq_false_iff_ne, bne_eq_false_iff_eq, Int.not_lt, Int.not_le] at hb); (try (revert hb; with_reducible refine true_imp_iff.2 ?_)); first | (intro K hK; simp only [go_sem, Nat.reduceAdd, Nat.reduceMul, Nat.reduceEqDiff, Nat.reduceLT, reduceIte, reduceCtorEq, HA, eb1, eb2, en, Nat.add_eq_left, Nat.left_eq_add, Nat.add_assoc, Nat.reduceAdd, if_false, if_true]) | (simp only [St.ev, St.set, upd, Nat.reduceEqDiff, reduceIte, if_false, if_true, HA, eb1, eb2, en, Nat.add_eq_left, Nat.left_eq_add, Nat.add_assoc, Nat.reduceAdd, if_false, if_true]) | skip))) | ((first | with_reducible refine aord_nil ?_ | refine awp_skip ?_ | refine awp_exit ?_ | refine awp_ret ?_); try simp only [thenA_normal, thenA_exit, thenA_goto, thenA_ret, blockA_normal, blockA_same, blockA_exit, blockA_goto, blockA_ret, Nat.reduceEqDiff, if_false, if_true, reduceIte]) | (refine awp_region tabOk rfl ?_; simp only [prep, pickO, List.map_cons, List.map_nil, List.getElem?_toArray, List.getElem?_cons_succ, List.getElem?_cons_zero, Option.bind_some, Option.map_some]) | ((with_reducible apply awp_cond); (focus (simp only [St.ev, St.set, upd, Nat.reduceEqDiff, reduceIte, if_false, if_true, HA, eb1, eb2, en, Nat.add_eq_left, Nat.left_eq_add, Nat.add_assoc, Nat.reduceAdd, if_false, if_true]; exact rfl)); all_goals (intro hb; first | (cases hb; done) | ((try rw [hb]); (try simp only [decide_eq_true_eq, decide_eq_false_iff_not, beq_iff_eq, bne_iff_ne, beq_eq_false_iff_ne, bne_eq_false_iff_eq, Int.not_lt, Int.not_le, Bool.not_eq_true', Bool.not_eq_false'] at hb)))) | ((with_reducible refine And.intro (?_ : enters Try.prog 12) ?_); (focus exact Try.call12); (refine callX_satH implKnownOf_sat ?_); simp only [go_sem, and_assoc, List.nil_append, List.append_nil, List.cons_append, Nat.reduceEqDiff, reduceIte, reduceCtorEq, HA, eb1, eb2, en, Nat.add_eq_left, Nat.left_eq_add, Nat.add_assoc, Nat.reduceAdd, if_false, if_true, HA, mat.matL, eb1, eb2, en]) | fail)
    refine ⟨true, fs, rfl, rfl, rfl, by omega, fun H3 N3 O3 w1 w2 w3 => ?_⟩
    have HA3 : H3 2 = some ⟨true, .ints .i64 (flF fs)⟩ := (w2 2 (by omega)).trans HA
    have hk30 := knO_len z fs
    have hkfl := flF_len (knO z fs)
    generalize hkk : knO z fs = kn at *


    repeat' (first | refine awp_seq_k fun K hK => ?_ | ((with_reducible refine hK _ ?_); clear hK K) | ((with_reducible refine aord_plain fun K hK => ?_); simp only [go_sem, Nat.reduceAdd, Nat.reduceMul, Nat.reduceEqDiff, Nat.reduceLT, reduceIte, reduceCtorEq, HA3, w1, Nat.add_eq_left, Nat.left_eq_add, Nat.add_assoc, Nat.reduceAdd, if_false, if_true, HA3, mat.matL, w1]) | refine awp_block ?_ | ((first | with_reducible refine aord_nil ?_ | refine awp_skip ?_ | refine awp_exit ?_ | refine awp_ret ?_); try simp only [thenA_normal, thenA_exit, thenA_goto, thenA_ret, blockA_normal, blockA_same, blockA_exit, blockA_goto, blockA_ret, Nat.reduceEqDiff, if_false, if_true, reduceIte]) | (refine awp_region tabOk rfl ?_; simp only [prep, pickO, List.map_cons, List.map_nil, List.getElem?_toArray, List.getElem?_cons_succ, List.getElem?_cons_zero, Option.bind_some, Option.map_some]) | fail)
    refine awp_loop (fun i : Nat => ⟨upd (upd (upd (upd (upd (upd (upd (upd (upd bot 13 (.val (.int .i64 i))) 12 (.sl O3 0 kn.length 2 none)) 11 (.val (.bool (decide ((a, c) ∈ kn.take i))))) 8 (.val (.int .i64 (Y : Nat)))) 7 (.val (.int .i64 (X : Nat)))) 6 (.val (.int .i64 c))) 5 (.val (.int .i64 a))) 4 (.sl 2 0 fs.length 2 none)) 3 (.val (.int .i64 z)), H3, N3⟩) (fun i => i ≤ kn.length) (fun i => kn.length - i) 0 (Nat.zero_le _) ?_ ?_
    · exact Wk.sub (tsd (tsd (tsd (tsd (tsd (tsd (tsd (tsd (tsd tsd0 rfl) rfl) rfl) rfl) rfl) rfl) rfl) rfl) rfl) (fun _ _ h => h) rfl
    intro i hik
    rcases Nat.lt_or_ge i kn.length with hlt2 | hge
    · obtain ⟨g1, g2⟩ := flF_get hlt2
      have hup := mem_up (f := (a, c)) hlt2
      dsimp only at hup
      cases ht : decide ((a, c) ∈ kn.take i) with
      | true =>
        rw [ht, Bool.true_or] at hup


        repeat' (first | refine awp_seq_k fun K hK => ?_ | ((with_reducible refine hK _ ?_); clear hK K) | (clear hK K; (with_reducible refine hK _ ?_); clear hK K) | ((with_reducible refine aord_plain fun K hK => ?_); simp only [go_sem, Nat.reduceAdd, Nat.reduceMul, Nat.reduceEqDiff, Nat.reduceLT, reduceIte, reduceCtorEq, w1, ht, Nat.add_eq_left, Nat.left_eq_add, Nat.add_assoc, Nat.reduceAdd, if_false, if_true, w1, mat.matL, ht]) | ((with_reducible apply aord_guard); (focus (simp only [St.ev, St.set, upd, Nat.reduceEqDiff, reduceIte, if_false, if_true, w1, ht, Nat.add_eq_left, Nat.left_eq_add, Nat.add_assoc, Nat.reduceAdd, if_false, if_true]; exact rfl)); all_goals (intro hb; (try simp only [Bool.not_true, Bool.not_false] at hb); first | (cases hb; done) | ((try rw [hb]); (try simp only [Bool.not_eq_true', Bool.not_eq_false', Bool.and_eq_true, decide_eq_true_eq, decide_eq_false_iff_not, beq_iff_eq, bne_iff_ne, beq_eq_false_iff_ne, bne_eq_false_iff_eq, Int.not_lt, Int.not_le] at hb); (try (revert hb; with_reducible refine true_imp_iff.2 ?_)); first | (intro K hK; simp only [go_sem, Nat.reduceAdd, Nat.reduceMul, Nat.reduceEqDiff, Nat.reduceLT, reduceIte, reduceCtorEq, w1, ht, Nat.add_eq_left, Nat.left_eq_add, Nat.add_assoc, Nat.reduceAdd, if_false, if_true]) | (simp only [St.ev, St.set, upd, Nat.reduceEqDiff, reduceIte, if_false, if_true, w1, ht, Nat.add_eq_left, Nat.left_eq_add, Nat.add_assoc, Nat.reduceAdd, if_false, if_true]) | skip))) | ((with_reducible apply aord_skip); (focus (simp only [St.ev, St.set, upd, Nat.reduceEqDiff, reduceIte, if_false, if_true, w1, ht, Nat.add_eq_left, Nat.left_eq_add, Nat.add_assoc, Nat.reduceAdd, if_false, if_true]; done)); (simp only [St.ev, St.set, upd, Nat.reduceEqDiff, reduceIte, if_false, if_true, w1, ht, Nat.add_eq_left, Nat.left_eq_add, Nat.add_assoc, Nat.reduceAdd, if_false, if_true])) | refine awp_block ?_ | ((first | with_reducible refine aord_nil ?_ | refine awp_skip ?_ | refine awp_exit ?_ | refine awp_ret ?_); try simp only [thenA_normal, thenA_exit, thenA_goto, thenA_ret, blockA_normal, blockA_same, blockA_exit, blockA_goto, blockA_ret, Nat.reduceEqDiff, if_false, if_true, reduceIte]) | (refine awp_region tabOk rfl ?_; simp only [prep, pickO, List.map_cons, List.map_nil, List.getElem?_toArray, List.getElem?_cons_succ, List.getElem?_cons_zero, Option.bind_some, Option.map_some]) | ((with_reducible apply awp_cond); (focus (simp only [St.ev, St.set, upd, Nat.reduceEqDiff, reduceIte, if_false, if_true, w1, ht, Nat.add_eq_left, Nat.left_eq_add, Nat.add_assoc, Nat.reduceAdd, if_false, if_true]; exact rfl)); all_goals (intro hb; first | (cases hb; done) | ((try rw [hb]); (try simp only [decide_eq_true_eq, decide_eq_false_iff_not, beq_iff_eq, bne_iff_ne, beq_eq_false_iff_ne, bne_eq_false_iff_eq, Int.not_lt, Int.not_le, Bool.not_eq_true', Bool.not_eq_false'] at hb)))) | ((with_reducible refine And.intro ?_ ?_); (focus omega)) | (exfalso; omega) | fail)
        refine ⟨i + 1, by omega, by omega, Wk.sub (tsd (tsd (tsd (tsd (tsd (tsd (tsd (tsd (tsd tsd0 rfl) rfl) (by rw [hup]; rfl)) rfl) rfl) rfl) rfl) rfl) rfl) (fun _ _ h => h) rfl⟩
      | false =>
        rw [ht, Bool.false_or] at hup
        rw [← g1, ← g2] at hup
        have hb1 : ((flF kn).getD (i * 2) 0 == a) = decide ((flF kn).getD (i * 2) 0 = a) := by rw [Bool.eq_iff_iff, beq_iff_eq, decide_eq_true_eq]
        have hb2 : ((flF kn).getD (i * 2 + 1) 0 == c) = decide ((flF kn).getD (i * 2 + 1) 0 = c) := by rw [Bool.eq_iff_iff, beq_iff_eq, decide_eq_true_eq]
        rw [← hb1, ← hb2] at hup
        cases hc1 : ((flF kn).getD (i * 2) 0 == a) <;> cases hc2 : ((flF kn).getD (i * 2 + 1) 0 == c)
        all_goals (
          rw [hc1, hc2] at hup


          repeat' (first | refine awp_seq_k fun K hK => ?_ | ((with_reducible refine hK _ ?_); clear hK K) | (clear hK K; (with_reducible refine hK _ ?_); clear hK K) | ((with_reducible refine aord_plain fun K hK => ?_); simp only [go_sem, Nat.reduceAdd, Nat.reduceMul, Nat.reduceEqDiff, Nat.reduceLT, reduceIte, reduceCtorEq, w1, ht, hc1, hc2, Nat.add_eq_left, Nat.left_eq_add, Nat.add_assoc, Nat.reduceAdd, if_false, if_true, w1, mat.matL, ht, hc1, hc2, hkfl]) | ((with_reducible apply aord_guard); (focus (simp only [St.ev, St.set, upd, Nat.reduceEqDiff, reduceIte, if_false, if_true, w1, ht, hc1, hc2, Nat.add_eq_left, Nat.left_eq_add, Nat.add_assoc, Nat.reduceAdd, if_false, if_true]; exact rfl)); all_goals (intro hb; (try simp only [Bool.not_true, Bool.not_false] at hb); first | (cases hb; done) | ((try rw [hb]); (try simp only [Bool.not_eq_true', Bool.not_eq_false', Bool.and_eq_true, decide_eq_true_eq, decide_eq_false_iff_not, beq_iff_eq, bne_iff_ne, beq_eq_false_iff_ne, bne_eq_false_iff_eq, Int.not_lt, Int.not_le] at hb); (try (revert hb; with_reducible refine true_imp_iff.2 ?_)); first | (intro K hK; simp only [go_sem, Nat.reduceAdd, Nat.reduceMul, Nat.reduceEqDiff, Nat.reduceLT, reduceIte, reduceCtorEq, w1, ht, hc1, hc2, Nat.add_eq_left, Nat.left_eq_add, Nat.add_assoc, Nat.reduceAdd, if_false, if_true]) | (simp only [St.ev, St.set, upd, Nat.reduceEqDiff, reduceIte, if_false, if_true, w1, ht, hc1, hc2, Nat.add_eq_left, Nat.left_eq_add, Nat.add_assoc, Nat.reduceAdd, if_false, if_true]) | skip))) | refine awp_block ?_ | ((first | with_reducible refine aord_nil ?_ | refine awp_skip ?_ | refine awp_exit ?_ | refine awp_ret ?_); try simp only [thenA_normal, thenA_exit, thenA_goto, thenA_ret, blockA_normal, blockA_same, blockA_exit, blockA_goto, blockA_ret, Nat.reduceEqDiff, if_false, if_true, reduceIte]) | (refine awp_region tabOk rfl ?_; simp only [prep, pickO, List.map_cons, List.map_nil, List.getElem?_toArray, List.getElem?_cons_succ, List.getElem?_cons_zero, Option.bind_some, Option.map_some]) | ((with_reducible apply awp_cond); (focus (simp only [St.ev, St.set, upd, Nat.reduceEqDiff, reduceIte, if_false, if_true, w1, ht, hc1, hc2, Nat.add_eq_left, Nat.left_eq_add, Nat.add_assoc, Nat.reduceAdd, if_false, if_true]; exact rfl)); all_goals (intro hb; first | (cases hb; done) | ((try rw [hb]); (try simp only [decide_eq_true_eq, decide_eq_false_iff_not, beq_iff_eq, bne_iff_ne, beq_eq_false_iff_ne, bne_eq_false_iff_eq, Int.not_lt, Int.not_le, Bool.not_eq_true', Bool.not_eq_false'] at hb)))) | ((with_reducible refine And.intro ?_ ?_); (focus omega)) | (exfalso; omega) | fail))
        all_goals refine ⟨i + 1, by omega, by omega, Wk.sub (tsd (tsd (tsd (tsd (tsd (tsd (tsd (tsd (tsd tsd0 rfl) rfl) (by rw [hup]; first | rfl | (simp only [upd, Nat.reduceEqDiff, if_false, if_true, reduceIte, hc1, hc2]; rfl) | trace_state)) rfl) rfl) rfl) rfl) rfl) rfl) (fun _ _ h => h) rfl⟩
    · have ei : i = kn.length := by omega
      subst ei
      rw [List.take_length]


      repeat' (first | refine awp_seq_k fun K hK => ?_ | ((with_reducible refine hK _ ?_); clear hK K) | (clear hK K; (with_reducible refine hK _ ?_); clear hK K) | ((with_reducible refine aord_plain fun K hK => ?_); simp only [go_sem, Nat.reduceAdd, Nat.reduceMul, Nat.reduceEqDiff, Nat.reduceLT, reduceIte, reduceCtorEq, HA3, w1, Nat.add_eq_left, Nat.left_eq_add, Nat.add_assoc, Nat.reduceAdd, if_false, if_true, HA3, w1, mat.matL]) | ((with_reducible apply aord_guard); (focus (simp only [St.ev, St.set, upd, Nat.reduceEqDiff, reduceIte, if_false, if_true, HA3, w1, Nat.add_eq_left, Nat.left_eq_add, Nat.add_assoc, Nat.reduceAdd, if_false, if_true]; exact rfl)); all_goals (intro hb; (try simp only [Bool.not_true, Bool.not_false] at hb); first | (cases hb; done) | ((try rw [hb]); (try simp only [Bool.not_eq_true', Bool.not_eq_false', Bool.and_eq_true, decide_eq_true_eq, decide_eq_false_iff_not, beq_iff_eq, bne_iff_ne, beq_eq_false_iff_ne, bne_eq_false_iff_eq, Int.not_lt, Int.not_le] at hb); (try (revert hb; with_reducible refine true_imp_iff.2 ?_)); first | (intro K hK; simp only [go_sem, Nat.reduceAdd, Nat.reduceMul, Nat.reduceEqDiff, Nat.reduceLT, reduceIte, reduceCtorEq, HA3, w1, Nat.add_eq_left, Nat.left_eq_add, Nat.add_assoc, Nat.reduceAdd, if_false, if_true]) | (simp only [St.ev, St.set, upd, Nat.reduceEqDiff, reduceIte, if_false, if_true, HA3, w1, Nat.add_eq_left, Nat.left_eq_add, Nat.add_assoc, Nat.reduceAdd, if_false, if_true]) | skip))) | ((with_reducible apply aord_skip); (focus (simp only [St.ev, St.set, upd, Nat.reduceEqDiff, reduceIte, if_false, if_true, HA3, w1, Nat.add_eq_left, Nat.left_eq_add, Nat.add_assoc, Nat.reduceAdd, if_false, if_true]; done)); (simp only [St.ev, St.set, upd, Nat.reduceEqDiff, reduceIte, if_false, if_true, HA3, w1, Nat.add_eq_left, Nat.left_eq_add, Nat.add_assoc, Nat.reduceAdd, if_false, if_true])) | refine awp_block ?_ | ((first | with_reducible refine aord_nil ?_ | refine awp_skip ?_ | refine awp_exit ?_ | refine awp_ret ?_); try simp only [thenA_normal, thenA_exit, thenA_goto, thenA_ret, blockA_normal, blockA_same, blockA_exit, blockA_goto, blockA_ret, Nat.reduceEqDiff, if_false, if_true, reduceIte]) | (refine awp_region tabOk rfl ?_; simp only [prep, pickO, List.map_cons, List.map_nil, List.getElem?_toArray, List.getElem?_cons_succ, List.getElem?_cons_zero, Option.bind_some, Option.map_some]) | ((with_reducible apply awp_cond); (focus (simp only [St.ev, St.set, upd, Nat.reduceEqDiff, reduceIte, if_false, if_true, HA3, w1, Nat.add_eq_left, Nat.left_eq_add, Nat.add_assoc, Nat.reduceAdd, if_false, if_true]; exact rfl)); all_goals (intro hb; first | (cases hb; done) | ((try rw [hb]); (try simp only [decide_eq_true_eq, decide_eq_false_iff_not, beq_iff_eq, bne_iff_ne, beq_eq_false_iff_ne, bne_eq_false_iff_eq, Int.not_lt, Int.not_le, Bool.not_eq_true', Bool.not_eq_false'] at hb)))) | ((with_reducible refine And.intro ?_ ?_); (focus omega)) | ((with_reducible refine And.intro (?_ : enters Try.prog 24) ?_); (focus exact Try.call24); (refine callX_satH implSplitOf_sat ?_); simp only [go_sem, and_assoc, List.nil_append, List.append_nil, List.cons_append, Nat.reduceEqDiff, reduceIte, reduceCtorEq, HA3, w1, Nat.add_eq_left, Nat.left_eq_add, Nat.add_assoc, Nat.reduceAdd, if_false, if_true, HA3, w1, mat.matL]) | (exfalso; omega) | fail)
      refine ⟨true, fs, rfl, rfl, rfl, by omega, fun N4 hN4 => ?_⟩
      rw [e1, e2]


      repeat' (first | refine awp_seq_k fun K hK => ?_ | ((with_reducible refine hK _ ?_); clear hK K) | ((with_reducible refine aord_plain fun K hK => ?_); simp only [go_sem, Nat.reduceAdd, Nat.reduceMul, Nat.reduceEqDiff, Nat.reduceLT, reduceIte, reduceCtorEq, HA3, Nat.add_eq_left, Nat.left_eq_add, Nat.add_assoc, Nat.reduceAdd, if_false, if_true, HA3, mat.matL]) | ((first | with_reducible refine aord_nil ?_ | refine awp_skip ?_ | refine awp_exit ?_ | refine awp_ret ?_); try simp only [thenA_normal, thenA_exit, thenA_goto, thenA_ret, blockA_normal, blockA_same, blockA_exit, blockA_goto, blockA_ret, Nat.reduceEqDiff, if_false, if_true, reduceIte]) | (refine awp_region tabOk rfl ?_; simp only [prep, pickO, List.map_cons, List.map_nil, List.getElem?_toArray, List.getElem?_cons_succ, List.getElem?_cons_zero, Option.bind_some, Option.map_some]) | ((with_reducible refine And.intro ?_ ?_); (focus omega)) | ((with_reducible refine And.intro (?_ : enters Try.prog 17) ?_); (focus exact Try.call17); (refine callX_satH implOrdersLeft_sat ?_); simp only [go_sem, and_assoc, List.nil_append, List.append_nil, List.cons_append, Nat.reduceEqDiff, reduceIte, reduceCtorEq, HA3, Nat.add_eq_left, Nat.left_eq_add, Nat.add_assoc, Nat.reduceAdd, if_false, if_true, HA3, mat.matL]) | fail)
      refine ⟨true, fs, rfl, rfl, rfl, by omega, fun H5 N5 O5 f5 r1 r2 r3 r4 r5 => ?_⟩
      have es : (((X : Nat) : Int) + ((Y : Nat) : Int) == (((orO z fs).length : Nat) : Int)) = true := by rw [beq_iff_eq]; omega
      have ey : (((Y : Nat) : Int) == ((Y : Nat) : Int)) = true := beq_self_eq_true _
      have ex : (((X : Nat) : Int) == ((X : Nat) : Int)) = true := beq_self_eq_true _
      have et : (decide ((a, c) ∈ kn) == decide ((a, c) ∈ kn)) = true := beq_self_eq_true _


      repeat' (first | ((with_reducible refine hK _ ?_); clear hK K) | ((with_reducible refine aord_plain fun K hK => ?_); simp only [go_sem, Nat.reduceAdd, Nat.reduceMul, Nat.reduceEqDiff, Nat.reduceLT, reduceIte, reduceCtorEq, es, ey, ex, eY, et, Nat.add_eq_left, Nat.left_eq_add, Nat.add_assoc, Nat.reduceAdd, if_false, if_true, mat.matL, es, ey, ex, eY, et]) | ((with_reducible apply aord_guard); (focus (simp only [St.ev, St.set, upd, Nat.reduceEqDiff, reduceIte, if_false, if_true, es, ey, ex, eY, et, Nat.add_eq_left, Nat.left_eq_add, Nat.add_assoc, Nat.reduceAdd, if_false, if_true]; exact rfl)); all_goals (intro hb; (try simp only [Bool.not_true, Bool.not_false] at hb); first | (cases hb; done) | ((try rw [hb]); (try simp only [Bool.not_eq_true', Bool.not_eq_false', Bool.and_eq_true, decide_eq_true_eq, decide_eq_false_iff_not, beq_iff_eq, bne_iff_ne, beq_eq_false_iff_ne, bne_eq_false_iff_eq, Int.not_lt, Int.not_le] at hb); (try (revert hb; with_reducible refine true_imp_iff.2 ?_)); first | (intro K hK; simp only [go_sem, Nat.reduceAdd, Nat.reduceMul, Nat.reduceEqDiff, Nat.reduceLT, reduceIte, reduceCtorEq, es, ey, ex, eY, et, Nat.add_eq_left, Nat.left_eq_add, Nat.add_assoc, Nat.reduceAdd, if_false, if_true]) | (simp only [St.ev, St.set, upd, Nat.reduceEqDiff, reduceIte, if_false, if_true, es, ey, ex, eY, et, Nat.add_eq_left, Nat.left_eq_add, Nat.add_assoc, Nat.reduceAdd, if_false, if_true]) | skip))) | ((first | with_reducible refine aord_nil ?_ | refine awp_skip ?_ | refine awp_exit ?_ | refine awp_ret ?_); try simp only [thenA_normal, thenA_exit, thenA_goto, thenA_ret, blockA_normal, blockA_same, blockA_exit, blockA_goto, blockA_ret, Nat.reduceEqDiff, if_false, if_true, reduceIte]) | fail)
      all_goals (simp only [St.set, St.ev, doneQ, doneH, ressK, resK, wrapR, AV.ids, AV.idsL, retK, retsK, upd, Nat.reduceEqDiff, reduceIte, if_false, if_true, List.nodup_nil, List.nodup_cons, List.not_mem_nil, not_false_eq_true, true_and, and_true, exists_eq_left', Option.some.injEq, rLoad, cellOf, tab, Ty.isAgg, Ty.one, Bool.false_eq_true]; first | exact hQ | (rw [et]; exact hQ) | (simp only [es, ey, ex, eY, et]; exact hQ))
  · have hG2 : ¬ (VF z fs ∧ spI z c a) := fun h => hG ⟨h.1, spI_sw h.2⟩
    have e1 := spA_no hG
    have e2 := spA_no hG2
    rw [e1] at eb1 eb3
    rw [e2] at eb2 eb4
    rw [e1, e2]


    repeat' (first | refine awp_seq_k fun K hK => ?_ | ((with_reducible refine hK _ ?_); clear hK K) | ((with_reducible refine aord_plain fun K hK => ?_); simp only [go_sem, Nat.reduceAdd, Nat.reduceMul, Nat.reduceEqDiff, Nat.reduceLT, reduceIte, reduceCtorEq, HA, eb1, eb2, eb3, Nat.add_eq_left, Nat.left_eq_add, Nat.add_assoc, Nat.reduceAdd, if_false, if_true, HA, mat.matL, eb1, eb2, eb3]) | ((with_reducible apply aord_guard); (focus (simp only [St.ev, St.set, upd, Nat.reduceEqDiff, reduceIte, if_false, if_true, HA, eb1, eb2, eb3, Nat.add_eq_left, Nat.left_eq_add, Nat.add_assoc, Nat.reduceAdd, if_false, if_true]; exact rfl)); all_goals (intro hb; (try simp only [Bool.not_true, Bool.not_false] at hb); first | (cases hb; done) | ((try rw [hb]); (try simp only [Bool.not_eq_true', Bool.not_eq_false', Bool.and_eq_true, decide_eq_true_eq, decide_eq_false_iff_not, beq_iff_eq, bne_iff_ne, beq_eq_false_iff_ne, bne_eq_false_iff_eq, Int.not_lt, Int.not_le] at hb); (try (revert hb; with_reducible refine true_imp_iff.2 ?_)); first | (intro K hK; simp only [go_sem, Nat.reduceAdd, Nat.reduceMul, Nat.reduceEqDiff, Nat.reduceLT, reduceIte, reduceCtorEq, HA, eb1, eb2, eb3, Nat.add_eq_left, Nat.left_eq_add, Nat.add_assoc, Nat.reduceAdd, if_false, if_true]) | (simp only [St.ev, St.set, upd, Nat.reduceEqDiff, reduceIte, if_false, if_true, HA, eb1, eb2, eb3, Nat.add_eq_left, Nat.left_eq_add, Nat.add_assoc, Nat.reduceAdd, if_false, if_true]) | skip))) | ((first | with_reducible refine aord_nil ?_ | refine awp_skip ?_ | refine awp_exit ?_ | refine awp_ret ?_); try simp only [thenA_normal, thenA_exit, thenA_goto, thenA_ret, blockA_normal, blockA_same, blockA_exit, blockA_goto, blockA_ret, Nat.reduceEqDiff, if_false, if_true, reduceIte]) | (refine awp_region tabOk rfl ?_; simp only [prep, pickO, List.map_cons, List.map_nil, List.getElem?_toArray, List.getElem?_cons_succ, List.getElem?_cons_zero, Option.bind_some, Option.map_some]) | ((with_reducible apply awp_cond); (focus (simp only [St.ev, St.set, upd, Nat.reduceEqDiff, reduceIte, if_false, if_true, HA, eb1, eb2, eb3, Nat.add_eq_left, Nat.left_eq_add, Nat.add_assoc, Nat.reduceAdd, if_false, if_true]; exact rfl)); all_goals (intro hb; first | (cases hb; done) | ((try rw [hb]); (try simp only [decide_eq_true_eq, decide_eq_false_iff_not, beq_iff_eq, bne_iff_ne, beq_eq_false_iff_ne, bne_eq_false_iff_eq, Int.not_lt, Int.not_le, Bool.not_eq_true', Bool.not_eq_false'] at hb)))) | fail)
    all_goals (simp only [St.set, St.ev, doneQ, doneH, ressK, resK, wrapR, AV.ids, AV.idsL, retK, retsK, upd, Nat.reduceEqDiff, reduceIte, if_false, if_true, List.nodup_nil, List.nodup_cons, List.not_mem_nil, not_false_eq_true, true_and, and_true, exists_eq_left', Option.some.injEq, rLoad, cellOf, tab, Ty.isAgg, Ty.one, Bool.false_eq_true]; exact hQ)

/-- Facts that are handed over: a row of them, or nil. -/
def FArg (h : Hp) (fa : AV) (fs : List (Int × Int)) : Prop := (∃ (A : Nat) (b : Bool), fa = .sl A 0 fs.length 2 none ∧ h A = some ⟨b, .ints .i64 (flF fs)⟩) ∨ (fa = .val (.slice none 0 0) ∧ fs = [])
theorem aCallH_nil {P : Program} {B : Bool} {S : List Snap} {f : FuncId} {h : Hp} {n es : Nat} {z : Value} {K : AV → Hp → Nat → Prop} (H : aCallH P B S f (upd h n (some ⟨true, .ints .i64 []⟩)) (n + 1) [.val z, .sl n 0 0 es none] K) : aCallH P B S f h n [.val z, .val (.slice none 0 0)] K := fun F W m xs w hS hs hr => by
  have hm := hs.mono_next (⟨0, 0, 0, []⟩ : Ab.Loc)
  have hf : ∀ o, (Cont.ints .i64 []).flat o = [] := fun o => rfl
  have hadd : Sim F W (upd m n (some ⟨0, 0, 0, []⟩)) (upd h n (some ⟨true, .ints .i64 []⟩)) (n + 1) w :=
    hs.add [] rfl rfl rfl (Nat.le_refl _) (fun _ _ _ => rfl) (by simp) (by simp) ⟨0, 0, 0, []⟩ ⟨true, .ints .i64 []⟩ rfl (by simp [blks]) (by simp [blks]) (by simp [blks]) (by simp [hf])
      ⟨fun j a hj => (by rw [hf] at hj; simp at hj), trivial⟩ ⟨rfl, fun h => absurd rfl h, trivial⟩
  match xs, hr with
  | [x, y], hr =>
    simp only [RepL, Rep, and_true] at hr
    have hr2 : RepL (upd m n (some ⟨0, 0, 0, []⟩)) [.val z, .sl n 0 0 es none] [x, y] := by
      simp only [RepL, Rep, and_true]
      exact ⟨hr.1, _, upd_same _ _ _, none, 0, hr.2, Nat.le_refl _, fun h => absurd rfl h, Nat.zero_add _ ▸ Nat.zero_mul _⟩
    exact (H F W _ _ w (fun p hp => (hS p hp).mono hm) hadd hr2).mono fun e w' ⟨v, he, m', a, h', n', q1, q2, q3, q4, q5⟩ => ⟨v, he, m', a, h', n', q1, q2, q3, fun o l h => q4 o l (hm o l h), fun h => by cases h⟩


theorem implOrdersLeftA_sat : SatH Try.prog 17 (fun al h n K => ∃ (z : Int) (fa : AV) (fs : List (Int × Int)), al = [.val (.int .i64 z), fa] ∧ FArg h fa fs ∧ fs.length ≤ 1099511627776 ∧ ∀ (H : Hp) (N O : Nat) (f : Nat → Nat), RowsOf H N O f (orO z fs) → n ≤ O → (∀ j, j < (orO z fs).length → n ≤ f j) → (∀ u, u < n → H u = h u) → n ≤ N → K (.sl O 0 (orO z fs).length 1 none) H N) := by
  rintro F W h n al K ⟨z, fa, fs, rfl, hF, hl, hQ⟩
  rcases hF with ⟨A, b, rfl, hA⟩ | ⟨rfl, rfl⟩
  · exact implOrdersLeft_sat F W h n _ K ⟨z, A, b, fs, rfl, hA, hl, hQ⟩
  · refine aCallH_nil (es := 2) ?_
    refine implOrdersLeft_sat F W _ _ _ K ⟨z, n, true, [], rfl, upd_same _ _ _, by simp, fun H N O f r1 r2 r3 r4 r5 => hQ H N O f r1 (by omega) (fun j hj => by have := r3 j hj; omega) (fun u hu => by rw [r4 u (by omega), upd_ne _ _ (by omega)]) (by omega)⟩


def facP : Nat → Nat
  | 0 => 1
  | n + 1 => facP n * (n + 1)
theorem facP_le : ∀ n, n ≤ 12 → facP n ≤ 479001600 := by decide
theorem facP_pos : ∀ n, 1 ≤ facP n
  | 0 => Nat.le_refl _
  | n + 1 => by rw [facP]; exact Nat.mul_pos (facP_pos n) (by omega)
theorem ordK_fac {d : Nat} (h : d ≤ 5) : (ordK d d []).length = facP d := by
  have : d = 0 ∨ d = 1 ∨ d = 2 ∨ d = 3 ∨ d = 4 ∨ d = 5 := by omega
  rcases this with rfl | rfl | rfl | rfl | rfl | rfl
  all_goals decide +kernel
theorem ordK_self {d : Nat} (h : d ≤ 5) : ∀ q, q ∈ ordK d d [] → placesL q = q ∧ validB q = true := by
  have : d = 0 ∨ d = 1 ∨ d = 2 ∨ d = 3 ∨ d = 4 ∨ d = 5 := by omega
  rcases this with rfl | rfl | rfl | rfl | rfl | rfl
  all_goals decide +kernel
theorem VF_nil {d : Nat} (h : d ≤ 5) : VF d [] := by
  refine ⟨by omega, by simp, fun f hf => by simp at hf, fun x t => ?_⟩
  have key : ∀ {a c : Int}, Tc [] a c → False := by
    intro a c t
    induction t with
    | base h => simp at h
    | step _ _ h1 _ => exact h1
  exact key t
theorem orO_nil {d : Nat} (h : d ≤ 5) : (orO d []).length = facP d := by
  rw [orO_ag (VF_nil h), ← ordK_fac h]
  congr 1
  exact List.filter_eq_self.2 fun q _ => rfl
/-- Where the items stand, as far as this is known from the first places. -/
def atT (p : List Int) (d i : Nat) : List Int := (List.range d).map fun (v : Nat) => if 0 ≤ fstAt p (v : Int) i then fstAt p (v : Int) i else 0
theorem atT_len (p : List Int) (d i : Nat) : (atT p d i).length = d := by simp [atT]
theorem atT_get {p : List Int} {d i v : Nat} (h : v < d) : (atT p d i).getD v 0 = if 0 ≤ fstAt p v i then fstAt p v i else 0 := by
  simp [atT, List.getD_eq_getElem?_getD, h]
theorem atT_zero (p : List Int) (d : Nat) : atT p d 0 = List.replicate d 0 := by
  simp [atT, fstAt, List.map_const']
theorem atT_up {p : List Int} {d i : Nat} (hp : Beg d p) (hi : i < p.length) : (atT p d i).set (p.getD i 0).toNat i = atT p d (i + 1) := by
  have hpi := hp.at hi
  refine ext_getD (by rw [List.length_set, atT_len, atT_len]) fun j hj => ?_
  rw [List.length_set, atT_len] at hj
  rw [atT_get hj]
  by_cases e : j = (p.getD i 0).toNat
  · subst e
    rw [getD_set_same (by rw [atT_len]; exact hj), Int.toNat_of_nonneg hpi.1]
    have h0 : fstAt p (p.getD i 0) i = -1 := fst_none i fun k hk => fun h => hp.inj hk hi h
    have e9 : fstAt p (p.getD i 0) (i + 1) = i := by rw [fstAt, h0, if_neg (by omega), if_pos rfl]
    rw [e9, if_pos (by omega)]
  · rw [getD_set_ne' (fun h => e h.symm), atT_get hj]
    have hne : p.getD i 0 ≠ (j : Int) := fun h => e (by omega)
    by_cases h0 : 0 ≤ fstAt p j i
    · have e9 : fstAt p j (i + 1) = fstAt p j i := by rw [fstAt, if_pos h0]
      rw [e9]
    · have e9 : fstAt p j (i + 1) = -1 := by rw [fstAt, if_neg h0, if_neg hne]
      rw [e9, if_neg h0, if_neg (by omega)]
theorem atT_end {d : Nat} {p : List Int} (hp : Beg d p) (hl : p.length = d) {v : Int} (hv : 0 ≤ v ∧ v < d) : (atT p d d).getD v.toNat 0 = fstAt p v p.length := by
  obtain ⟨i, h1, h2, h3⟩ := hp.all hl hv
  rw [atT_get (by omega), Int.toNat_of_nonneg hv.1, ← hl, h3, if_pos (by omega)]
theorem ag_lt {d : Nat} {fs : List (Int × Int)} {p : List Int} (h : VF d fs) (hm : p ∈ orO d fs) {f : Int × Int} (hf : f ∈ fs) : fstAt p f.1 p.length < fstAt p f.2 p.length := by
  obtain ⟨hb, hl⟩ := orO_beg h hm
  have hi : itemsIn d fs := by have := h.2.2.1; rwa [Int.toNat_natCast] at this
  rw [orO_ag h] at hm
  have h1 := agB_iff.1 (List.mem_filter.1 hm).2 f hf
  obtain ⟨i, h3, h4, h5⟩ := hb.all hl (hi f hf).1
  obtain ⟨j, h6, h7, h8⟩ := hb.all hl (hi f hf).2
  rw [h5, h8] at h1 ⊢
  rcases Nat.lt_or_ge i j with c | c
  · omega
  · have e : i = j := by omega
    subst e
    exact (h.2.2.2 f.1 (.base (by rw [show (f.1, f.1) = f from Prod.ext rfl (by rw [← h4, ← h7])]; exact hf))).elim


theorem productN_sat : Sat Try.prog 22 (fun ds Q => ∃ (n : Nat) (z : Int), ds = [.val (.int .i64 (z))] ∧ (z = n) ∧ (n ≤ 12) ∧ Q (.val (.int .i64 (((facP n : Nat) : Int))))) := by
  refine sat_intro tabOk Try.func22 rfl 14 rfl [.tmp 2] rfl ?_
  rintro ds Q W ⟨n, z, rfl, hz, hn, hQ⟩
  refine ⟨Nat.le_of_ble_eq_true rfl, ?_⟩
  simp only [initS, initT, mat.matL, mat, Cont.len]
  rcases Nat.eq_zero_or_pos n with h0 | h0
  · subst h0
    repeat' (first | refine awp_seq_k fun K hK => ?_ | ((with_reducible refine hK _ ?_); clear hK K) | ((with_reducible refine aord_plain fun K hK => ?_); simp only [go_sem, Nat.reduceAdd, Nat.reduceMul, Nat.reduceEqDiff, Nat.reduceLT, reduceIte, reduceCtorEq]) | refine awp_block ?_ | ((first | with_reducible refine aord_nil ?_ | refine awp_skip ?_ | refine awp_exit ?_ | refine awp_ret ?_); try simp only [thenA_normal, thenA_exit, thenA_goto, thenA_ret, blockA_normal, blockA_same, blockA_exit, blockA_goto, blockA_ret, Nat.reduceEqDiff, if_false, if_true, reduceIte]) | (refine awp_region tabOk rfl ?_; simp only [prep, pickO, List.map_cons, List.map_nil, List.getElem?_toArray, List.getElem?_cons_succ, List.getElem?_cons_zero, Option.bind_some, Option.map_some]) | fail)
    refine awp_loopE (α := Nat) (fun s p => ⟨(upd (upd (upd bot 0 (s.tmps 0)) 3 (.val (.int .i64 (1)))) 4 (.val (.int .i64 (2)))), s.heap, s.next⟩) _ (fun p => by simp only [St.ev, St.set, upd, Nat.reduceEqDiff, reduceIte, if_false, if_true]; exact rfl) (fun p => True) (fun p => 0) (0) ?_ ?_ ?_
    · (first | done | trivial)
    · (apply Wk.same; (case' h2 => (focus ((repeat' (with_reducible first | exact HeapX.bot | (apply HeapX.skip; (case hx => (simp; done))) | apply HeapX.none | apply HeapX.upd)); all_goals (first | rfl | exact Nat.le_of_ble_eq_true rfl | (simp only [St.set, St.ev, upd, ren, renL, id, Nat.reduceEqDiff, reduceIte, ContLe]; done) | (exact And.intro rfl (And.intro (by first | exact Nat.le_of_ble_eq_true rfl | omega) (by first | exact Nat.le_of_ble_eq_true rfl | omega))) | (first | (simp only [St.set, St.ev, upd, ren, renL, id, Nat.reduceEqDiff, reduceIte]; exact contLe_nil) | ((repeat' (first | exact contLe_nil | refine contLe_cons (.inr ⟨?_, rfl⟩) ?_)); all_goals (first | rfl | (simp only [St.set, St.ev, upd, ren, renL, id, Nat.reduceEqDiff, reduceIte]; done) | ((try simp only [St.set, St.ev, upd, ren, renL, id, Nat.reduceEqDiff, reduceIte]); first | (with_reducible exact av_int (by omega)) | (with_reducible exact av_sl (by first | omega | (simp; done) | (simp; omega)) (by first | omega | (simp; done) | (simp; omega)))) | (simp only [St.set, St.ev, upd, ren, renL, id, Nat.reduceEqDiff, reduceIte, Int.natCast_add, Int.natCast_one, Int.cast_ofNat_Int, Int.natCast_zero]; done) | (simp only [St.set, St.ev, upd, ren, renL, id, Nat.reduceEqDiff, reduceIte]) | skip); done)) | (simp only [St.set, St.ev, upd, ren, renL, id, Nat.reduceEqDiff, reduceIte, ContLe]) | skip)))); (case' h1 => (focus ((repeat' (with_reducible first | exact TmpLe.bot | refine TmpLe.upd ?_ rfl ?_)); all_goals (first | rfl | (simp only [St.set, St.ev, upd, ren, renL, id, Nat.reduceEqDiff, reduceIte]; done) | ((try simp only [St.set, St.ev, upd, ren, renL, id, Nat.reduceEqDiff, reduceIte]); first | (with_reducible exact av_int (by omega)) | (with_reducible exact av_sl (by first | omega | (simp; done) | (simp; omega)) (by first | omega | (simp; done) | (simp; omega)))) | (simp only [St.set, St.ev, upd, ren, renL, id, Nat.reduceEqDiff, reduceIte, Int.natCast_add, Int.natCast_one, Int.cast_ofNat_Int, Int.natCast_zero]; done) | (simp only [St.set, St.ev, upd, ren, renL, id, Nat.reduceEqDiff, reduceIte]) | skip)))); (case h3 => (focus (first | (simp only [id, List.map_cons, List.map_nil]; decide) | decide | (simp; done) | (simp; omega) | fail))); (case h4 => (intro o l h; first | (cases h; done) | (have hlt0 := m0_lt (by assumption) h; (try (simp only at hlt0)); first | omega | (simp only; omega) | exact ⟨by (first | rfl | (simp only [id]; done) | ((repeat rw [if_neg (by omega)]); done)), by first | omega | (simp only; omega)⟩))))
    rintro u _
    repeat' (first | refine awp_seq_k fun K hK => ?_ | ((with_reducible refine hK _ ?_); clear hK K) | (clear hK K; (with_reducible refine hK _ ?_); clear hK K) | ((with_reducible refine aord_plain fun K hK => ?_); simp only [go_sem, Nat.reduceAdd, Nat.reduceMul, Nat.reduceEqDiff, Nat.reduceLT, reduceIte, reduceCtorEq]) | refine awp_block ?_ | ((first | with_reducible refine aord_nil ?_ | refine awp_skip ?_ | refine awp_exit ?_ | refine awp_ret ?_); try simp only [thenA_normal, thenA_exit, thenA_goto, thenA_ret, blockA_normal, blockA_same, blockA_exit, blockA_goto, blockA_ret, Nat.reduceEqDiff, if_false, if_true, reduceIte]) | (refine awp_region tabOk rfl ?_; simp only [prep, pickO, List.map_cons, List.map_nil, List.getElem?_toArray, List.getElem?_cons_succ, List.getElem?_cons_zero, Option.bind_some, Option.map_some]) | ((with_reducible apply awp_cond); (focus (simp only [St.ev, St.set, upd, Nat.reduceEqDiff, reduceIte, if_false, if_true]; exact rfl)); all_goals (intro hb; first | (cases hb; done) | ((try rw [hb]); (try simp only [decide_eq_true_eq, decide_eq_false_iff_not, beq_iff_eq, bne_iff_ne, beq_eq_false_iff_ne, bne_eq_false_iff_eq, Int.not_lt, Int.not_le, Bool.not_eq_true', Bool.not_eq_false'] at hb)))) | ((with_reducible refine And.intro ?_ ?_); (focus omega)) | (exfalso; omega) | fail)
    simp only [St.set, St.ev, doneQ, doneH, ressK, resK, wrapR, AV.ids, AV.idsL, retK, retsK, upd, Nat.reduceEqDiff, reduceIte, if_false, if_true, List.nodup_nil, List.nodup_cons, List.not_mem_nil, not_false_eq_true, true_and, and_true, exists_eq_left', Option.some.injEq, rLoad, cellOf, tab, Ty.isAgg, Ty.one, Bool.false_eq_true]
    exact hQ
  · skip
    repeat' (first | refine awp_seq_k fun K hK => ?_ | ((with_reducible refine hK _ ?_); clear hK K) | ((with_reducible refine aord_plain fun K hK => ?_); simp only [go_sem, Nat.reduceAdd, Nat.reduceMul, Nat.reduceEqDiff, Nat.reduceLT, reduceIte, reduceCtorEq]) | refine awp_block ?_ | ((first | with_reducible refine aord_nil ?_ | refine awp_skip ?_ | refine awp_exit ?_ | refine awp_ret ?_); try simp only [thenA_normal, thenA_exit, thenA_goto, thenA_ret, blockA_normal, blockA_same, blockA_exit, blockA_goto, blockA_ret, Nat.reduceEqDiff, if_false, if_true, reduceIte]) | (refine awp_region tabOk rfl ?_; simp only [prep, pickO, List.map_cons, List.map_nil, List.getElem?_toArray, List.getElem?_cons_succ, List.getElem?_cons_zero, Option.bind_some, Option.map_some]) | fail)
    refine awp_loopE (α := Nat) (fun s p => ⟨(upd (upd (upd bot 0 (s.tmps 0)) 3 (.val (.int .i64 (((facP (p + 1) : Nat) : Int))))) 4 (.val (.int .i64 (((p : Int) + 2))))), s.heap, s.next⟩) _ (fun p => by simp only [St.ev, St.set, upd, Nat.reduceEqDiff, reduceIte, if_false, if_true]; exact rfl) (fun p => (p + 1 ≤ n)) (fun p => n - p) (0) ?_ ?_ ?_
    · (try simp only); (refine ?_ <;> (first | omega | (simp only; omega) | rfl | (simp; done) | skip))
    · (apply Wk.same; (case' h2 => (focus ((repeat' (with_reducible first | exact HeapX.bot | (apply HeapX.skip; (case hx => (simp; done))) | apply HeapX.none | apply HeapX.upd)); all_goals (first | rfl | exact Nat.le_of_ble_eq_true rfl | (simp only [St.set, St.ev, upd, ren, renL, id, Nat.reduceEqDiff, reduceIte, ContLe]; done) | (exact And.intro rfl (And.intro (by first | exact Nat.le_of_ble_eq_true rfl | omega) (by first | exact Nat.le_of_ble_eq_true rfl | omega))) | (first | (simp only [St.set, St.ev, upd, ren, renL, id, Nat.reduceEqDiff, reduceIte]; exact contLe_nil) | ((repeat' (first | exact contLe_nil | refine contLe_cons (.inr ⟨?_, rfl⟩) ?_)); all_goals (first | rfl | (simp only [St.set, St.ev, upd, ren, renL, id, Nat.reduceEqDiff, reduceIte]; done) | ((try simp only [St.set, St.ev, upd, ren, renL, id, Nat.reduceEqDiff, reduceIte]); first | (with_reducible exact av_int (by omega)) | (with_reducible exact av_sl (by first | omega | (simp; done) | (simp; omega)) (by first | omega | (simp; done) | (simp; omega)))) | (simp only [St.set, St.ev, upd, ren, renL, id, Nat.reduceEqDiff, reduceIte, Int.natCast_add, Int.natCast_one, Int.cast_ofNat_Int, Int.natCast_zero]; done) | (simp only [St.set, St.ev, upd, ren, renL, id, Nat.reduceEqDiff, reduceIte]) | skip); done)) | (simp only [St.set, St.ev, upd, ren, renL, id, Nat.reduceEqDiff, reduceIte, ContLe]) | skip)))); (case' h1 => (focus ((repeat' (with_reducible first | exact TmpLe.bot | refine TmpLe.upd ?_ rfl ?_)); all_goals (first | rfl | (simp only [St.set, St.ev, upd, ren, renL, id, Nat.reduceEqDiff, reduceIte]; done) | ((try simp only [St.set, St.ev, upd, ren, renL, id, Nat.reduceEqDiff, reduceIte]); first | (with_reducible exact av_int (by omega)) | (with_reducible exact av_sl (by first | omega | (simp; done) | (simp; omega)) (by first | omega | (simp; done) | (simp; omega)))) | (simp only [St.set, St.ev, upd, ren, renL, id, Nat.reduceEqDiff, reduceIte, Int.natCast_add, Int.natCast_one, Int.cast_ofNat_Int, Int.natCast_zero]; done) | (simp only [St.set, St.ev, upd, ren, renL, id, Nat.reduceEqDiff, reduceIte]) | skip)))); (case h3 => (focus (first | (simp only [id, List.map_cons, List.map_nil]; decide) | decide | (simp; done) | (simp; omega) | fail))); (case h4 => (intro o l h; first | (cases h; done) | (have hlt0 := m0_lt (by assumption) h; (try (simp only at hlt0)); first | omega | (simp only; omega) | exact ⟨by (first | rfl | (simp only [id]; done) | ((repeat rw [if_neg (by omega)]); done)), by first | omega | (simp only; omega)⟩))))
    rintro k hk
    try simp only at hk
    have h1 : k + 2 ≤ 12 → facP (k + 1 + 1) ≤ 479001600 := fun h => facP_le _ (by omega)
    have h2 : facP (k + 1 + 1) = facP (k + 1) * (k + 1 + 1) := rfl
    have h3 : ((facP (k + 1) : Nat) : Int) * ((k : Int) + 2) = ((facP (k + 1 + 1) : Nat) : Int) := by rw [h2, Int.natCast_mul]; congr 1
    have h4 := facP_pos (k + 1 + 1)

    repeat' (first | refine awp_seq_k fun K hK => ?_ | ((with_reducible refine hK _ ?_); clear hK K) | (clear hK K; (with_reducible refine hK _ ?_); clear hK K) | ((with_reducible refine aord_plain fun K hK => ?_); simp only [go_sem, Nat.reduceAdd, Nat.reduceMul, Nat.reduceEqDiff, Nat.reduceLT, reduceIte, reduceCtorEq, h3]) | refine awp_block ?_ | ((first | with_reducible refine aord_nil ?_ | refine awp_skip ?_ | refine awp_exit ?_ | refine awp_ret ?_); try simp only [thenA_normal, thenA_exit, thenA_goto, thenA_ret, blockA_normal, blockA_same, blockA_exit, blockA_goto, blockA_ret, Nat.reduceEqDiff, if_false, if_true, reduceIte]) | (refine awp_region tabOk rfl ?_; simp only [prep, pickO, List.map_cons, List.map_nil, List.getElem?_toArray, List.getElem?_cons_succ, List.getElem?_cons_zero, Option.bind_some, Option.map_some]) | ((with_reducible apply awp_cond); (focus (simp only [St.ev, St.set, upd, Nat.reduceEqDiff, reduceIte, if_false, if_true]; exact rfl)); all_goals (intro hb; first | (cases hb; done) | ((try rw [hb]); (try simp only [decide_eq_true_eq, decide_eq_false_iff_not, beq_iff_eq, bne_iff_ne, beq_eq_false_iff_ne, bne_eq_false_iff_eq, Int.not_lt, Int.not_le, Bool.not_eq_true', Bool.not_eq_false'] at hb)))) | ((with_reducible refine And.intro ?_ ?_); (focus omega)) | fail)
    · ((refine Exists.intro (k + 1) ?_); (refine nxt ?_ ?_ ?_); (focus ((apply Wk.same; (case' h2 => (focus ((repeat' (with_reducible first | exact HeapX.bot | (apply HeapX.skip; (case hx => (simp; done))) | apply HeapX.none | apply HeapX.upd)); all_goals (first | rfl | exact Nat.le_of_ble_eq_true rfl | (simp only [St.set, St.ev, upd, ren, renL, id, Nat.reduceEqDiff, reduceIte, ContLe]; done) | (exact And.intro rfl (And.intro (by first | exact Nat.le_of_ble_eq_true rfl | omega) (by first | exact Nat.le_of_ble_eq_true rfl | omega))) | (first | (simp only [St.set, St.ev, upd, ren, renL, id, Nat.reduceEqDiff, reduceIte]; exact contLe_nil) | ((repeat' (first | exact contLe_nil | refine contLe_cons (.inr ⟨?_, rfl⟩) ?_)); all_goals (first | rfl | (simp only [St.set, St.ev, upd, ren, renL, id, Nat.reduceEqDiff, reduceIte]; done) | ((try simp only [St.set, St.ev, upd, ren, renL, id, Nat.reduceEqDiff, reduceIte]); first | (with_reducible exact av_int (by omega)) | (with_reducible exact av_sl (by first | omega | (simp; done) | (simp; omega)) (by first | omega | (simp; done) | (simp; omega)))) | (simp only [St.set, St.ev, upd, ren, renL, id, Nat.reduceEqDiff, reduceIte, Int.natCast_add, Int.natCast_one, Int.cast_ofNat_Int, Int.natCast_zero]; done) | (simp only [St.set, St.ev, upd, ren, renL, id, Nat.reduceEqDiff, reduceIte]) | skip); done)) | (simp only [St.set, St.ev, upd, ren, renL, id, Nat.reduceEqDiff, reduceIte, ContLe]) | skip)))); (case' h1 => (focus ((repeat' (with_reducible first | exact TmpLe.bot | refine TmpLe.upd ?_ rfl ?_)); all_goals (first | rfl | (simp only [St.set, St.ev, upd, ren, renL, id, Nat.reduceEqDiff, reduceIte]; done) | ((try simp only [St.set, St.ev, upd, ren, renL, id, Nat.reduceEqDiff, reduceIte]); first | (with_reducible exact av_int (by omega)) | (with_reducible exact av_sl (by first | omega | (simp; done) | (simp; omega)) (by first | omega | (simp; done) | (simp; omega)))) | (simp only [St.set, St.ev, upd, ren, renL, id, Nat.reduceEqDiff, reduceIte, Int.natCast_add, Int.natCast_one, Int.cast_ofNat_Int, Int.natCast_zero]; done) | (simp only [St.set, St.ev, upd, ren, renL, id, Nat.reduceEqDiff, reduceIte]) | skip)))); (case h3 => (focus (first | (simp only [id, List.map_cons, List.map_nil]; decide) | decide | (simp; done) | (simp; omega) | fail))); (case h4 => (intro o l h; first | (cases h; done) | (have hlt0 := m0_lt (by assumption) h; (try (simp only at hlt0)); first | omega | (simp only; omega) | exact ⟨by (first | rfl | (simp only [id]; done) | ((repeat rw [if_neg (by omega)]); done)), by first | omega | (simp only; omega)⟩)))))); (focus (first | omega | (simp only; omega) | (simp only [List.length_take]; omega) | (simp; done) | (simp; omega))); ((repeat' (with_reducible apply And.intro)) <;> (first | omega | (simp only; omega) | assumption | rfl | (simp only))))
    · simp only [St.set, St.ev, doneQ, doneH, ressK, resK, wrapR, AV.ids, AV.idsL, retK, retsK, upd, Nat.reduceEqDiff, reduceIte, if_false, if_true, List.nodup_nil, List.nodup_cons, List.not_mem_nil, not_false_eq_true, true_and, and_true, exists_eq_left', Option.some.injEq, rLoad, cellOf, tab, Ty.isAgg, Ty.one, Bool.false_eq_true]
      rw [show n = k + 1 by omega] at hQ
      exact hQ

theorem drawOrdersLeft_sat : SatH Try.prog 18 (fun al h n K => ∃ (bs : List Int), al = [.sl 0 0 bs.length 1 none] ∧ (n = 1) ∧ (h 0 = some ⟨false, .ints .u8 bs⟩) ∧ (bs.length ≤ 1099511627776) ∧ (bytesOk bs) ∧ ∀ (H : Hp) (z : Int) (fs : List (Int × Int)), -1 ≤ z ∧ z ≤ 6 → fs.length ≤ 8 → H 0 = h 0 → H 2 = some ⟨true, .ints .i64 (flF fs)⟩ → K (.tup [.val (.int .i64 z), .sl 2 0 fs.length 2 none]) (H) (3)) := by
  refine satH_intro tabOk Try.func18 rfl 9 rfl [.tmp 2, .tmp 3] rfl ?_
  rintro F W h n al K0 ⟨bs, rfl, hn, h0, hL, hbs, hQ⟩
  refine ⟨Nat.le_of_ble_eq_true rfl, fun m0 hm0 hcl hlt => ?_⟩
  simp only [initT]
  subst hn


  repeat' (first | refine awp_seq_k fun K hK => ?_ | ((with_reducible refine hK _ ?_); clear hK K) | ((with_reducible refine aord_plain fun K hK => ?_); simp only [go_sem, Nat.reduceAdd, Nat.reduceMul, Nat.reduceEqDiff, Nat.reduceLT, reduceIte, reduceCtorEq, h0, Nat.add_eq_left, Nat.left_eq_add, Nat.add_assoc, Nat.reduceAdd, if_false, if_true, h0]) | ((first | with_reducible refine aord_nil ?_ | refine awp_skip ?_ | refine awp_exit ?_ | refine awp_ret ?_); try simp only [thenA_normal, thenA_exit, thenA_goto, thenA_ret, blockA_normal, blockA_same, blockA_exit, blockA_goto, blockA_ret, Nat.reduceEqDiff, if_false, if_true, reduceIte]) | (refine awp_region tabOk rfl ?_; simp only [prep, pickO, List.map_cons, List.map_nil, List.getElem?_toArray, List.getElem?_cons_succ, List.getElem?_cons_zero, Option.bind_some, Option.map_some]) | ((with_reducible apply awp_cond); (focus (simp only [St.ev, St.set, upd, Nat.reduceEqDiff, reduceIte, if_false, if_true, h0, Nat.add_eq_left, Nat.left_eq_add, Nat.add_assoc, Nat.reduceAdd, if_false, if_true]; exact rfl)); all_goals (intro hb; first | (cases hb; done) | ((try rw [hb]); (try simp only [decide_eq_true_eq, decide_eq_false_iff_not, beq_iff_eq, bne_iff_ne, beq_eq_false_iff_ne, bne_eq_false_iff_eq, Int.not_lt, Int.not_le, Bool.not_eq_true', Bool.not_eq_false'] at hb)))) | ((with_reducible refine And.intro ?_ ?_); (focus omega)) | ((with_reducible refine And.intro (?_ : enters Try.prog 42) ?_); (focus exact Try.call42); (refine callX_satH someFacts_sat ?_); simp only [go_sem, and_assoc, List.nil_append, List.append_nil, List.cons_append, Nat.reduceEqDiff, reduceIte, reduceCtorEq, h0, Nat.add_eq_left, Nat.left_eq_add, Nat.add_assoc, Nat.reduceAdd, if_false, if_true, h0]) | ((with_reducible refine And.intro (?_ : enters Try.prog 43) ?_); (focus exact Try.call43); (refine callX_h (callH_inline tabOk Try.func43 rfl 11 rfl [.tmp 2] rfl (Nat.le_of_ble_eq_true rfl) fun m0 hm0 hcl hlt => ?_)); simp only [initT, St.ev, St.set, upd, Nat.reduceEqDiff, reduceIte, if_false, if_true, h0, Nat.add_eq_left, Nat.left_eq_add, Nat.add_assoc, Nat.reduceAdd, if_false, if_true]) | (simp only [rBuild]; simp only [fillA, Nat.reduceLeDiff, List.getElem?_cons_zero, List.getElem?_cons_succ, List.drop_succ_cons, List.drop_nil, List.take_nil, List.cons_append, Option.isSome_some, go_sem, Nat.reduceAdd, Nat.reduceMul, Nat.reduceEqDiff, Nat.reduceLT, reduceIte, reduceCtorEq, h0, Nat.add_eq_left, Nat.left_eq_add, Nat.add_assoc, Nat.reduceAdd, if_false, if_true]) | (simp only [doneH]; simp only [ressK, resK, wrapR, go_sem, Nat.reduceAdd, Nat.reduceMul, Nat.reduceEqDiff, Nat.reduceLT, reduceIte, reduceCtorEq, h0, Nat.add_eq_left, Nat.left_eq_add, Nat.add_assoc, Nat.reduceAdd, if_false, if_true]) | fail)
  all_goals (
    refine ⟨_, _, 0, rfl, by omega, by omega, hbs, by omega, ?_⟩
    intro z fs r hz hfs hr)
  repeat' (first | ((with_reducible refine hK _ ?_); clear hK K) | ((with_reducible refine aord_plain fun K hK => ?_); simp only [go_sem, Nat.reduceAdd, Nat.reduceMul, Nat.reduceEqDiff, Nat.reduceLT, reduceIte, reduceCtorEq, h0, Nat.add_eq_left, Nat.left_eq_add, Nat.add_assoc, Nat.reduceAdd, if_false, if_true, h0]) | ((first | with_reducible refine aord_nil ?_ | refine awp_skip ?_ | refine awp_exit ?_ | refine awp_ret ?_); try simp only [thenA_normal, thenA_exit, thenA_goto, thenA_ret, blockA_normal, blockA_same, blockA_exit, blockA_goto, blockA_ret, Nat.reduceEqDiff, if_false, if_true, reduceIte]) | (simp only [doneH]; simp only [ressK, resK, wrapR, go_sem, Nat.reduceAdd, Nat.reduceMul, Nat.reduceEqDiff, Nat.reduceLT, reduceIte, reduceCtorEq, h0, Nat.add_eq_left, Nat.left_eq_add, Nat.add_assoc, Nat.reduceAdd, if_false, if_true]) | fail)
  all_goals exact hQ _ z fs hz hfs (by rw [upd_ne _ _ (by omega), upd_ne _ _ (by omega), upd_ne _ _ (by omega)]) (upd_same _ _ _)


end Go.Proofs.Ytoapfnojfcjeeaa
