/- Contracts of functions of the program. -/
import Derived.Test.YtacmgdaonacmeaaPPAe
import Derived.ScopeJumps
namespace Go.Proofs.Ytacmgdaonacmeaa
open Go Go.Ab
set_option linter.all false
set_option maxHeartbeats 4000000

theorem implPickAsks_sat : SatH Try.prog 23 (fun al h n K => ∃ (z : Int) (A : Nat) (b : Bool) (fs : List (Int × Int)) (k : Int), al = [.val (.int .i64 (z)), .sl A 0 fs.length 2 none, .val (.int .i64 (k))] ∧ (h A = some ⟨b, .ints .i64 (flF fs)⟩) ∧ (fs.length ≤ 1099511627776) ∧ ∀ N : Nat, n ≤ N → K (.val (.int .i64 ((piA z fs k)))) (h) (N)) := by
  refine satH_intro tabOk Try.func23 rfl 30 rfl [.tmp 6] rfl ?_
  rintro F W h n al K0 ⟨z, A, b, fs, k, rfl, hA, hl, hQ⟩
  refine ⟨Nat.le_of_ble_eq_true rfl, fun m0 hm0 hcl hlt => ?_⟩
  simp only [initT]
  have hAn := (hcl A _ hA).1
  have hfew := few_K_sat 120
  have a1 : (A = n) = False := eq_false (by omega)
  have a2 : (n = A) = False := eq_false (by omega)
  have hdr : ∀ (x : Option Ob) (o : Nat) (ob : Ob), h o = some ob → upd h n x o = some ob := fun x o ob ho => by rw [upd_ne _ _ (by have := (hcl o _ ho).1; omega)]; exact ho
  rcases Int.lt_or_le 4 z with h4 | h4
  · have e1 : decide (z > 4) = true := decide_eq_true h4
    rw [piA_no (fun h => by omega)] at hQ


    repeat' ((fail_if_success (with_reducible refine isRetQ ?_)); (first | refine awp_seq_k fun K hK => ?_ | ((with_reducible refine hK _ ?_); clear hK K) | ((with_reducible refine aord_plain fun K hK => ?_); simp only [go_sem, Nat.reduceAdd, Nat.reduceMul, Nat.reduceEqDiff, Nat.reduceLT, reduceIte, reduceCtorEq, hA, e1, a1, a2, nmA, Nat.reduceAdd, ifA, ifB, hA, e1]) | ((with_reducible apply aord_guard); (focus (simp only [St.ev, St.set, upd, Nat.reduceEqDiff, reduceIte, ifA, ifB, hA, e1, a1, a2, nmA, Nat.reduceAdd, ifA, ifB]; exact rfl)); all_goals (intro hb; (try simp only [Bool.not_true, Bool.not_false] at hb); first | (cases hb; done) | ((try rw [hb]); (try simp only [Bool.not_eq_true', Bool.not_eq_false', Bool.and_eq_true, dcA, dcB, dcC, dcD, dcE] at hb); (try (revert hb; with_reducible refine true_imp_iff.2 ?_)); first | (intro K hK; simp only [go_sem, Nat.reduceAdd, Nat.reduceMul, Nat.reduceEqDiff, Nat.reduceLT, reduceIte, reduceCtorEq, hA, e1, a1, a2, nmA, Nat.reduceAdd, ifA, ifB]) | (simp only [St.ev, St.set, upd, Nat.reduceEqDiff, reduceIte, ifA, ifB, hA, e1, a1, a2, nmA, Nat.reduceAdd, ifA, ifB]) | skip))) | ((first | with_reducible refine aord_nil ?_ | refine awp_skip ?_ | refine awp_exit ?_ | refine awp_ret ?_); try simp only [rdA, Nat.reduceEqDiff, ifA, ifB, reduceIte]) | (refine awp_region tabOk rfl ?_; simp only [prep, pickO, lsA, lsB, lsC, lsD, lsE, lsF, lsG]) | ((with_reducible apply awp_cond); (focus (simp only [St.ev, St.set, upd, Nat.reduceEqDiff, reduceIte, ifA, ifB, hA, e1, a1, a2, nmA, Nat.reduceAdd, ifA, ifB]; exact rfl)); all_goals (intro hb; first | (cases hb; done) | ((try rw [hb]); (try simp only [dcA, dcB, dcC, dcD, dcE, Bool.not_eq_true', Bool.not_eq_false'] at hb)))) | fail))
    refine awp_weaken (s' := ⟨upd bot 6 (.val (.int .i64 (-1))), h, n + 1⟩) (Wk.sub (tsd tsd0 rfl) (hdr _) rfl) ?_
    repeat' (first | ((first | with_reducible refine aord_nil ?_ | refine awp_skip ?_ | refine awp_exit ?_ | refine awp_ret ?_); try simp only [rdA, Nat.reduceEqDiff, ifA, ifB, reduceIte]) | (simp only [doneH]; simp only [ressK, resK, wrapR, go_sem, Nat.reduceAdd, Nat.reduceMul, Nat.reduceEqDiff, Nat.reduceLT, reduceIte, reduceCtorEq, hA, e1, a1, a2, nmA, Nat.reduceAdd, ifA, ifB]) | fail)
    exact hQ (n + 1) (by omega)
  · have e1 : decide (z > 4) = false := decide_eq_false (by omega)
    obtain ⟨b2, e2⟩ : ∃ b2, decide (k < 0) = b2 := ⟨_, rfl⟩
    obtain ⟨b3, e3⟩ : ∃ b3, decide (k ≥ z) = b3 := ⟨_, rfl⟩


    repeat' ((fail_if_success (with_reducible refine isRetQ ?_)); (first | refine awp_seq_k fun K hK => ?_ | ((with_reducible refine hK _ ?_); clear hK K) | ((with_reducible refine aord_plain fun K hK => ?_); simp only [go_sem, Nat.reduceAdd, Nat.reduceMul, Nat.reduceEqDiff, Nat.reduceLT, reduceIte, reduceCtorEq, hA, e1, a1, a2, nmA, Nat.reduceAdd, ifA, ifB, hA, e1]) | ((with_reducible apply aord_guard); (focus (simp only [St.ev, St.set, upd, Nat.reduceEqDiff, reduceIte, ifA, ifB, hA, e1, a1, a2, nmA, Nat.reduceAdd, ifA, ifB]; exact rfl)); all_goals (intro hb; (try simp only [Bool.not_true, Bool.not_false] at hb); first | (cases hb; done) | ((try rw [hb]); (try simp only [Bool.not_eq_true', Bool.not_eq_false', Bool.and_eq_true, dcA, dcB, dcC, dcD, dcE] at hb); (try (revert hb; with_reducible refine true_imp_iff.2 ?_)); first | (intro K hK; simp only [go_sem, Nat.reduceAdd, Nat.reduceMul, Nat.reduceEqDiff, Nat.reduceLT, reduceIte, reduceCtorEq, hA, e1, a1, a2, nmA, Nat.reduceAdd, ifA, ifB]) | (simp only [St.ev, St.set, upd, Nat.reduceEqDiff, reduceIte, ifA, ifB, hA, e1, a1, a2, nmA, Nat.reduceAdd, ifA, ifB]) | skip))) | ((first | with_reducible refine aord_nil ?_ | refine awp_skip ?_ | refine awp_exit ?_ | refine awp_ret ?_); try simp only [rdA, Nat.reduceEqDiff, ifA, ifB, reduceIte]) | (refine awp_region tabOk rfl ?_; simp only [prep, pickO, lsA, lsB, lsC, lsD, lsE, lsF, lsG]) | ((with_reducible refine And.intro (?_ : enters Try.prog 33) ?_); (focus exact Try.call33); (refine callX_satH implValidFacts_sat ?_); simp only [go_sem, and_assoc, List.nil_append, List.append_nil, List.cons_append, Nat.reduceEqDiff, reduceIte, reduceCtorEq, hA, e1, a1, a2, nmA, Nat.reduceAdd, ifA, ifB, hA, e1]) | fail))
    refine ⟨b, fs, rfl, rfl, rfl, hl, fun v N hv hN => ?_⟩
    by_cases hgood : v = true ∧ b2 = false ∧ b3 = false
    · obtain ⟨rfl, rfl, rfl⟩ := hgood
      have hV := hv.1 rfl
      obtain ⟨d, rfl⟩ : ∃ d : Nat, z = d := ⟨z.toNat, by have := hV.1; omega⟩
      obtain ⟨kk, rfl⟩ : ∃ kk : Nat, k = kk := ⟨k.toNat, by have := of_decide_eq_false e2; omega⟩
      have hkd : kk < d := by have := of_decide_eq_false e3; omega
      have hcap := orO_cap (d : Int) fs


      repeat' (first | refine awp_seq_k fun K hK => ?_ | ((with_reducible refine hK _ ?_); clear hK K) | ((with_reducible refine aord_plain fun K hK => ?_); simp only [go_sem, Nat.reduceAdd, Nat.reduceMul, Nat.reduceEqDiff, Nat.reduceLT, reduceIte, reduceCtorEq, hA, e1, a1, a2, e2, e3, nmA, Nat.reduceAdd, ifA, ifB, hA, e1, e2, e3]) | ((with_reducible apply aord_guard); (focus (simp only [St.ev, St.set, upd, Nat.reduceEqDiff, reduceIte, ifA, ifB, hA, e1, a1, a2, e2, e3, nmA, Nat.reduceAdd, ifA, ifB]; exact rfl)); all_goals (intro hb; (try simp only [Bool.not_true, Bool.not_false] at hb); first | (cases hb; done) | ((try rw [hb]); (try simp only [Bool.not_eq_true', Bool.not_eq_false', Bool.and_eq_true, dcA, dcB, dcC, dcD, dcE] at hb); (try (revert hb; with_reducible refine true_imp_iff.2 ?_)); first | (intro K hK; simp only [go_sem, Nat.reduceAdd, Nat.reduceMul, Nat.reduceEqDiff, Nat.reduceLT, reduceIte, reduceCtorEq, hA, e1, a1, a2, e2, e3, nmA, Nat.reduceAdd, ifA, ifB]) | (simp only [St.ev, St.set, upd, Nat.reduceEqDiff, reduceIte, ifA, ifB, hA, e1, a1, a2, e2, e3, nmA, Nat.reduceAdd, ifA, ifB]) | skip))) | ((first | with_reducible refine aord_nil ?_ | refine awp_skip ?_ | refine awp_exit ?_ | refine awp_ret ?_); try simp only [rdA, Nat.reduceEqDiff, ifA, ifB, reduceIte]) | (refine awp_region tabOk rfl ?_; simp only [prep, pickO, lsA, lsB, lsC, lsD, lsE, lsF, lsG]) | ((with_reducible apply awp_cond); (focus (simp only [St.ev, St.set, upd, Nat.reduceEqDiff, reduceIte, ifA, ifB, hA, e1, a1, a2, e2, e3, nmA, Nat.reduceAdd, ifA, ifB]; exact rfl)); all_goals (intro hb; first | (cases hb; done) | ((try rw [hb]); (try simp only [dcA, dcB, dcC, dcD, dcE, Bool.not_eq_true', Bool.not_eq_false'] at hb)))) | ((with_reducible refine And.intro (?_ : enters Try.prog 29) ?_); (focus exact Try.call29); (refine callX_satH implOrdersLeft_sat ?_); simp only [go_sem, and_assoc, List.nil_append, List.append_nil, List.cons_append, Nat.reduceEqDiff, reduceIte, reduceCtorEq, hA, e1, a1, a2, e2, e3, nmA, Nat.reduceAdd, ifA, ifB, hA, e1, e2, e3]) | fail)
      refine ⟨b, fs, rfl, rfl, rfl, hl, fun H1 N1 O1 f1 r1 r2 r3 r4 r5 => ?_⟩
      have hn1 : H1 n = some ⟨true, .cells [.val (.int .i64 kk)]⟩ := (r4 n (by omega)).trans (if_pos rfl)


      repeat' (first | ((with_reducible refine hK _ ?_); clear hK K) | ((with_reducible refine aord_plain fun K hK => ?_); simp only [go_sem, Nat.reduceAdd, Nat.reduceMul, Nat.reduceEqDiff, Nat.reduceLT, reduceIte, reduceCtorEq, AV.clo.injEq, List.cons.injEq, AV.ref.injEq, and_true, true_and]) | ((with_reducible refine And.intro (?_ : enters Try.prog 50) ?_); (focus exact Try.call50); (refine callX_satH hfew ?_); simp only [go_sem, and_assoc, List.nil_append, List.append_nil, List.cons_append, Nat.reduceEqDiff, reduceIte, reduceCtorEq, AV.clo.injEq, List.cons.injEq, AV.ref.injEq, and_true, true_and]) | fail)
      refine ⟨d, rfl, f1, orO d fs, rfl, kk, hn1, hkd, r1, orO_good hV, by omega, hcap, hcap, fun w N2 hw hwl hN2 => ?_⟩
      rw [piA_yes hV (by omega) hkd, few_eq hw] at hQ
      repeat' ((fail_if_success (with_reducible refine isRetQ ?_)); (first | ((with_reducible refine hK _ ?_); clear hK K) | ((with_reducible refine aord_plain fun K hK => ?_); simp only [go_sem, Nat.reduceAdd, Nat.reduceMul, Nat.reduceEqDiff, Nat.reduceLT, reduceIte, reduceCtorEq, AV.clo.injEq, List.cons.injEq, AV.ref.injEq, and_true, true_and]) | ((first | with_reducible refine aord_nil ?_ | refine awp_skip ?_ | refine awp_exit ?_ | refine awp_ret ?_); try simp only [rdA, Nat.reduceEqDiff, ifA, ifB, reduceIte]) | fail))
      refine awp_weaken (s' := ⟨upd bot 6 (.val (.int .i64 w)), h, N2⟩) (Wk.sub (tsd tsd0 rfl) (fun o ob ho => by have := (hcl o _ ho).1; dsimp only; rw [r4 o (by omega), if_neg (by omega)]; exact ho) rfl) ?_
      repeat' (first | ((first | with_reducible refine aord_nil ?_ | refine awp_skip ?_ | refine awp_exit ?_ | refine awp_ret ?_); try simp only [rdA, Nat.reduceEqDiff, ifA, ifB, reduceIte]) | (simp only [doneH]; simp only [ressK, resK, wrapR, go_sem, Nat.reduceAdd, Nat.reduceMul, Nat.reduceEqDiff, Nat.reduceLT, reduceIte, reduceCtorEq]) | fail)
      exact hQ N2 (by omega)
    · rw [piA_no (fun h => hgood ⟨hv.2 h.1, by rw [← e2]; exact decide_eq_false (by omega), by rw [← e3]; exact decide_eq_false (by omega)⟩)] at hQ
      cases v <;> cases b2 <;> cases b3
      all_goals try (exact absurd ⟨rfl, rfl, rfl⟩ hgood)
      all_goals (


        repeat' ((fail_if_success (with_reducible refine isRetQ ?_)); (first | refine awp_seq_k fun K hK => ?_ | ((with_reducible refine hK _ ?_); clear hK K) | ((with_reducible refine aord_plain fun K hK => ?_); simp only [go_sem, Nat.reduceAdd, Nat.reduceMul, Nat.reduceEqDiff, Nat.reduceLT, reduceIte, reduceCtorEq, hA, e1, a1, a2, e2, e3, nmA, Nat.reduceAdd, ifA, ifB, hA, e1, e2, e3]) | ((with_reducible apply aord_guard); (focus (simp only [St.ev, St.set, upd, Nat.reduceEqDiff, reduceIte, ifA, ifB, hA, e1, a1, a2, e2, e3, nmA, Nat.reduceAdd, ifA, ifB]; exact rfl)); all_goals (intro hb; (try simp only [Bool.not_true, Bool.not_false] at hb); first | (cases hb; done) | ((try rw [hb]); (try simp only [Bool.not_eq_true', Bool.not_eq_false', Bool.and_eq_true, dcA, dcB, dcC, dcD, dcE] at hb); (try (revert hb; with_reducible refine true_imp_iff.2 ?_)); first | (intro K hK; simp only [go_sem, Nat.reduceAdd, Nat.reduceMul, Nat.reduceEqDiff, Nat.reduceLT, reduceIte, reduceCtorEq, hA, e1, a1, a2, e2, e3, nmA, Nat.reduceAdd, ifA, ifB]) | (simp only [St.ev, St.set, upd, Nat.reduceEqDiff, reduceIte, ifA, ifB, hA, e1, a1, a2, e2, e3, nmA, Nat.reduceAdd, ifA, ifB]) | skip))) | ((first | with_reducible refine aord_nil ?_ | refine awp_skip ?_ | refine awp_exit ?_ | refine awp_ret ?_); try simp only [rdA, Nat.reduceEqDiff, ifA, ifB, reduceIte]) | (refine awp_region tabOk rfl ?_; simp only [prep, pickO, lsA, lsB, lsC, lsD, lsE, lsF, lsG]) | ((with_reducible apply awp_cond); (focus (simp only [St.ev, St.set, upd, Nat.reduceEqDiff, reduceIte, ifA, ifB, hA, e1, a1, a2, e2, e3, nmA, Nat.reduceAdd, ifA, ifB]; exact rfl)); all_goals (intro hb; first | (cases hb; done) | ((try rw [hb]); (try simp only [dcA, dcB, dcC, dcD, dcE, Bool.not_eq_true', Bool.not_eq_false'] at hb)))) | fail))
        refine awp_weaken (s' := ⟨upd bot 6 (.val (.int .i64 (-1))), h, N⟩) (Wk.sub (tsd tsd0 rfl) (hdr _) rfl) ?_
        repeat' (first | ((first | with_reducible refine aord_nil ?_ | refine awp_skip ?_ | refine awp_exit ?_ | refine awp_ret ?_); try simp only [rdA, Nat.reduceEqDiff, ifA, ifB, reduceIte]) | (simp only [doneH]; simp only [ressK, resK, wrapR, go_sem, Nat.reduceAdd, Nat.reduceMul, Nat.reduceEqDiff, Nat.reduceLT, reduceIte, reduceCtorEq, hA, e1, a1, a2, e2, e3, nmA, Nat.reduceAdd, ifA, ifB]) | fail))
      all_goals exact hQ N (by omega)

def seenK (k : Nat) (L : List (List Int)) : Nat := hasX L k 0 + 2 * hasX L k 1 + 4 * hasX L k 2 + 8 * hasX L k 3 + 16 * hasX L k 4
theorem seen_bit {L : List (List Int)} {k x : Nat} (hx : x ≤ 4) : seenK k L / 2 ^ x % 2 = hasX L k x := by
  have h0 := hasX_le L k 0
  have h1 := hasX_le L k 1
  have h2 := hasX_le L k 2
  have h3 := hasX_le L k 3
  have h4 := hasX_le L k 4
  have x5 : x = 0 ∨ x = 1 ∨ x = 2 ∨ x = 3 ∨ x = 4 := by omega
  unfold seenK
  rcases x5 with rfl | rfl | rfl | rfl | rfl <;> simp only [Nat.reducePow] <;> omega
theorem hasX_up {L : List (List Int)} {p : List Int} {k y : Nat} : hasX (L ++ [p]) k y = if p.getD k 0 = (y : Int) then 1 else hasX L k y := by
  unfold hasX
  rw [List.any_append]
  simp only [List.any_cons, List.any_nil, Bool.or_false, beq_iff_eq, Bool.or_eq_true]
  by_cases c : p.getD k 0 = (y : Int)
  · rw [if_pos (.inr c), if_pos c]
  · simp only [c, or_false, if_false]
theorem kd_up {L : List (List Int)} {p : List Int} {k x : Nat} (hx : x ≤ 4) (hp : p.getD k 0 = (x : Int)) : (hasX L k x = 0 → seenK k (L ++ [p]) = seenK k L + 2 ^ x ∧ kdK k (L ++ [p]) = kdK k L + 1) ∧ (hasX L k x = 1 → seenK k (L ++ [p]) = seenK k L ∧ kdK k (L ++ [p]) = kdK k L) := by
  have x5 : x = 0 ∨ x = 1 ∨ x = 2 ∨ x = 3 ∨ x = 4 := by omega
  unfold seenK kdK
  simp only [hasX_up, hp]
  rcases x5 with rfl | rfl | rfl | rfl | rfl
  all_goals (constructor <;> intro h <;> simp <;> omega)
theorem seen_le (k : Nat) (L : List (List Int)) : seenK k L ≤ 31 ∧ kdK k L ≤ 5 := by
  have h0 := hasX_le L k 0
  have h1 := hasX_le L k 1
  have h2 := hasX_le L k 2
  have h3 := hasX_le L k 3
  have h4 := hasX_le L k 4
  unfold seenK kdK; omega
theorem pow_le16 {x : Nat} (hx : x ≤ 4) : 2 ^ x ≤ 16 ∧ 0 < 2 ^ x := by
  have x5 : x = 0 ∨ x = 1 ∨ x = 2 ∨ x = 3 ∨ x = 4 := by omega
  rcases x5 with rfl | rfl | rfl | rfl | rfl <;> decide


theorem kindsL_sat : SatH Try.prog 94 (fun al h n K => ∃ (O : Nat) (xss : List (List Int)), al = [.sl O 0 xss.length 1 none, .val (.int .i64 ((-1)))] ∧ (xss.length ≤ 500) ∧ K (.val (.int .i64 (((xss.length : Nat) : Int)))) (h) (n)) := by
  refine satH_intro tabOk Try.func94 rfl 44 rfl [.tmp 4] rfl ?_
  rintro F W h n al K0 ⟨O, xss, rfl, hxl, hQ⟩
  refine ⟨Nat.le_of_ble_eq_true rfl, fun m0 hm0 hcl hlt => ?_⟩
  simp only [initT]
  have e1 : decide ((-1 : Int) < 0) = true := by decide

  repeat' (first | refine awp_seq_k fun K hK => ?_ | ((with_reducible refine hK _ ?_); clear hK K) | ((with_reducible refine aord_plain fun K hK => ?_); simp only [go_sem, Nat.reduceAdd, Nat.reduceMul, Nat.reduceEqDiff, Nat.reduceLT, reduceIte, reduceCtorEq, e1]) | ((first | with_reducible refine aord_nil ?_ | refine awp_skip ?_ | refine awp_exit ?_ | refine awp_ret ?_); try simp only [rdA, Nat.reduceEqDiff, ifA, ifB, reduceIte]) | (refine awp_region tabOk rfl ?_; simp only [prep, pickO, lsA, lsB, lsC, lsD, lsE, lsF, lsG]) | ((with_reducible apply awp_cond); (focus (simp only [St.ev, St.set, upd, Nat.reduceEqDiff, reduceIte, ifA, ifB]; exact rfl)); all_goals (intro hb; first | (cases hb; done) | ((try rw [hb]); (try simp only [dcA, dcB, dcC, dcD, dcE, Bool.not_eq_true', Bool.not_eq_false'] at hb)))) | (simp only [doneH]; simp only [ressK, resK, wrapR, go_sem, Nat.reduceAdd, Nat.reduceMul, Nat.reduceEqDiff, Nat.reduceLT, reduceIte, reduceCtorEq]) | fail)
  exact hQ


theorem kindsK_sat : SatH Try.prog 94 (fun al h n K => ∃ (O kk : Nat) (f : Nat → Nat) (xss : List (List Int)), al = [.sl O 0 xss.length 1 none, .val (.int .i64 (kk))] ∧ (RowsOf h n O f xss) ∧ (∀ j, j < xss.length → kk < (xss.getD j []).length ∧ (xss.getD j []).length ≤ 1000 ∧ 0 ≤ (xss.getD j []).getD kk 0 ∧ (xss.getD j []).getD kk 0 ≤ 4) ∧ (xss.length ≤ 500) ∧ K (.val (.int .i64 (((kdK kk xss : Nat) : Int)))) (h) (n)) := by
  refine satH_intro tabOk Try.func94 rfl 44 rfl [.tmp 4] rfl ?_
  rintro F W h n al K0 ⟨O, kk, f, xss, rfl, hR, hx, hxl, hQ⟩
  refine ⟨Nat.le_of_ble_eq_true rfl, fun m0 hm0 hcl hlt => ?_⟩
  simp only [initT]
  have hOn := hR.outn
  have hOr := hR.out
  have hsl := @slsN_len f xss 0
  have e1 : decide ((kk : Int) < 0) = false := decide_eq_false (by omega)


  repeat' (first | refine awp_seq_k fun K hK => ?_ | ((with_reducible refine hK _ ?_); clear hK K) | ((with_reducible refine aord_plain fun K hK => ?_); simp only [go_sem, Nat.reduceAdd, Nat.reduceMul, Nat.reduceEqDiff, Nat.reduceLT, reduceIte, reduceCtorEq, hOr, e1, nmA, Nat.reduceAdd, ifA, ifB, hOr, hsl, e1]) | refine awp_block ?_ | ((first | with_reducible refine aord_nil ?_ | refine awp_skip ?_ | refine awp_exit ?_ | refine awp_ret ?_); try simp only [rdA, Nat.reduceEqDiff, ifA, ifB, reduceIte]) | (refine awp_region tabOk rfl ?_; simp only [prep, pickO, lsA, lsB, lsC, lsD, lsE, lsF, lsG]) | ((with_reducible apply awp_cond); (focus (simp only [St.ev, St.set, upd, Nat.reduceEqDiff, reduceIte, ifA, ifB, hOr, e1, nmA, Nat.reduceAdd, ifA, ifB]; exact rfl)); all_goals (intro hb; first | (cases hb; done) | ((try rw [hb]); (try simp only [dcA, dcB, dcC, dcD, dcE, Bool.not_eq_true', Bool.not_eq_false'] at hb)))) | fail)
  refine awp_loop (fun i : Nat => ⟨upd (upd (upd (upd (upd bot 7 (.val (.int .i64 i))) 6 (.val (.int .i64 ((kdK kk (xss.take i) : Nat) : Int)))) 5 (.val (.int .i64 ((seenK kk (xss.take i) : Nat) : Int)))) 1 (.val (.int .i64 kk))) 0 (.sl O 0 xss.length 1 none), h, n⟩) (fun i => i ≤ xss.length) (fun i => xss.length - i) 0 (Nat.zero_le _) ?_ ?_
  · exact Wk.sub (tsd (tsd (tsd (tsd (tsd tsd0 rfl) rfl) rfl) rfl) rfl) (fun _ _ h => h) rfl
  intro i hix
  rcases Nat.lt_or_ge i xss.length with hlt2 | hge
  · have hget := hR.get hlt2
    have hrow := hR.row i hlt2
    obtain ⟨x1, x2, x3, x4⟩ := hx i hlt2
    obtain ⟨x, hxv⟩ : ∃ x : Nat, (xss.getD i []).getD kk 0 = (x : Int) := ⟨((xss.getD i []).getD kk 0).toNat, by omega⟩
    have hx4 : x ≤ 4 := by omega
    have htk : xss.take (i + 1) = xss.take i ++ [xss.getD i []] := by
      rw [List.take_succ_eq_append_getElem hlt2, List.getD_eq_getElem?_getD, List.getElem?_eq_getElem hlt2]; rfl
    obtain ⟨u0, u1⟩ := kd_up (L := xss.take i) hx4 hxv
    rw [← htk] at u0 u1
    obtain ⟨l1, l2⟩ := seen_le kk (xss.take i)
    have hbit := seen_bit (L := xss.take i) (k := kk) hx4
    have hbl := hasX_le (xss.take i) kk x
    generalize hS : seenK kk (xss.take i) = S at *
    generalize hD : kdK kk (xss.take i) = D at *


    repeat' (first | refine awp_seq_k fun K hK => ?_ | ((with_reducible refine hK _ ?_); clear hK K) | (clear hK K; (with_reducible refine hK _ ?_); clear hK K) | ((with_reducible refine aord_plain fun K hK => ?_); simp only [go_sem, Nat.reduceAdd, Nat.reduceMul, Nat.reduceEqDiff, Nat.reduceLT, reduceIte, reduceCtorEq, hOr, hrow, hxv, nmA, Nat.reduceAdd, ifA, ifB, hOr, hsl, hget, hrow, hxv]) | refine awp_block ?_ | ((first | with_reducible refine aord_nil ?_ | refine awp_skip ?_ | refine awp_exit ?_ | refine awp_ret ?_); try simp only [rdA, Nat.reduceEqDiff, ifA, ifB, reduceIte]) | (refine awp_region tabOk rfl ?_; simp only [prep, pickO, lsA, lsB, lsC, lsD, lsE, lsF, lsG]) | ((with_reducible apply awp_cond); (focus (simp only [St.ev, St.set, upd, Nat.reduceEqDiff, reduceIte, ifA, ifB, hOr, hrow, hxv, nmA, Nat.reduceAdd, ifA, ifB]; exact rfl)); all_goals (intro hb; first | (cases hb; done) | ((try rw [hb]); (try simp only [dcA, dcB, dcC, dcD, dcE, Bool.not_eq_true', Bool.not_eq_false'] at hb)))) | (simp only [doneH]; simp only [ressK, resK, wrapR, go_sem, Nat.reduceAdd, Nat.reduceMul, Nat.reduceEqDiff, Nat.reduceLT, reduceIte, reduceCtorEq, hOr, hrow, hxv, nmA, Nat.reduceAdd, ifA, ifB]) | (exfalso; omega) | fail)
    refine awp_loop (fun c : Nat => ⟨upd (upd (upd (upd (upd (upd (upd bot 9 (.val (.int .i64 c))) 8 (.val (.int .i64 ((2 ^ c : Nat) : Int)))) 7 (.val (.int .i64 i))) 6 (.val (.int .i64 ((D : Nat) : Int)))) 5 (.val (.int .i64 ((S : Nat) : Int)))) 1 (.val (.int .i64 kk))) 0 (.sl O 0 xss.length 1 none), h, n⟩) (fun c => c ≤ x) (fun c => x - c) 0 (Nat.zero_le _) ?_ ?_
    · exact Wk.sub (tsd (tsd (tsd (tsd (tsd (tsd (tsd tsd0 rfl) rfl) rfl) rfl) rfl) rfl) rfl) (fun _ _ h => h) rfl
    intro c hcx
    obtain ⟨p1, p2⟩ := pow_le16 (x := c) (by omega)
    rcases Nat.lt_or_ge c x with hc1 | hc1
    · have e2 : decide ((c : Int) < (x : Int)) = true := decide_eq_true (by omega)
      have e3 : (2 : Int) * ((2 ^ c : Nat) : Int) = ((2 ^ (c + 1) : Nat) : Int) := by rw [Nat.pow_succ]; omega
      have e4 : (2 : Nat) ^ (c + 1) = 2 * 2 ^ c := by rw [Nat.pow_succ]; omega
      generalize (2 : Nat) ^ c = pc at *
      generalize hpd : (2 : Nat) ^ (c + 1) = pd at *


      repeat' (first | refine awp_seq_k fun K hK => ?_ | ((with_reducible refine hK _ ?_); clear hK K) | ((with_reducible refine aord_plain fun K hK => ?_); simp only [go_sem, Nat.reduceAdd, Nat.reduceMul, Nat.reduceEqDiff, Nat.reduceLT, reduceIte, reduceCtorEq, hOr, hrow, hxv, e2, nmA, Nat.reduceAdd, ifA, ifB, hOr, hsl, hget, hrow, hxv, e2, e3]) | refine awp_block ?_ | ((first | with_reducible refine aord_nil ?_ | refine awp_skip ?_ | refine awp_exit ?_ | refine awp_ret ?_); try simp only [rdA, Nat.reduceEqDiff, ifA, ifB, reduceIte]) | (refine awp_region tabOk rfl ?_; simp only [prep, pickO, lsA, lsB, lsC, lsD, lsE, lsF, lsG]) | ((with_reducible apply awp_cond); (focus (simp only [St.ev, St.set, upd, Nat.reduceEqDiff, reduceIte, ifA, ifB, hOr, hrow, hxv, e2, nmA, Nat.reduceAdd, ifA, ifB]; exact rfl)); all_goals (intro hb; first | (cases hb; done) | ((try rw [hb]); (try simp only [dcA, dcB, dcC, dcD, dcE, Bool.not_eq_true', Bool.not_eq_false'] at hb)))) | ((with_reducible refine And.intro ?_ ?_); (focus omega)) | fail)
      refine ⟨c + 1, by omega, by omega, Wk.sub (tsd (tsd (tsd (tsd (tsd (tsd (tsd tsd0 rfl) (by (try dsimp only); rw [hpd]; rfl)) rfl) rfl) rfl) rfl) rfl) (fun _ _ h => h) rfl⟩
    · have ec : c = x := by omega
      subst ec
      have e2 : decide ((c : Int) < (c : Int)) = false := decide_eq_false (by omega)
      rcases Nat.eq_zero_or_pos (hasX (xss.take i) kk c) with hz | hz
      · obtain ⟨u2, u3⟩ := u0 hz
        have e5 : ((S : Int) / ((2 ^ c : Nat) : Int) % 2 == 0) = true := by
          rw [beq_iff_eq]
          have : S / 2 ^ c % 2 = 0 := by omega
          exact_mod_cast this
        generalize (2 : Nat) ^ c = pc at *
        have hq0 : 0 ≤ (S : Int) / (pc : Int) := Int.ediv_nonneg (by omega) (by omega)
        have hq1 : (S : Int) / (pc : Int) ≤ 31 := Int.le_trans (Int.ediv_le_self _ (by omega)) (by omega)


        repeat' (first | refine awp_seq_k fun K hK => ?_ | ((with_reducible refine hK _ ?_); clear hK K) | (clear hK K; (with_reducible refine hK _ ?_); clear hK K) | ((with_reducible refine aord_plain fun K hK => ?_); simp only [go_sem, Nat.reduceAdd, Nat.reduceMul, Nat.reduceEqDiff, Nat.reduceLT, reduceIte, reduceCtorEq, hOr, hrow, hxv, e2, e5, nmA, Nat.reduceAdd, ifA, ifB, hOr, hsl, hget, hrow, hxv, e2, e5]) | ((first | with_reducible refine aord_nil ?_ | refine awp_skip ?_ | refine awp_exit ?_ | refine awp_ret ?_); try simp only [rdA, Nat.reduceEqDiff, ifA, ifB, reduceIte]) | (refine awp_region tabOk rfl ?_; simp only [prep, pickO, lsA, lsB, lsC, lsD, lsE, lsF, lsG]) | ((with_reducible apply awp_cond); (focus (simp only [St.ev, St.set, upd, Nat.reduceEqDiff, reduceIte, ifA, ifB, hOr, hrow, hxv, e2, e5, nmA, Nat.reduceAdd, ifA, ifB]; exact rfl)); all_goals (intro hb; first | (cases hb; done) | ((try rw [hb]); (try simp only [dcA, dcB, dcC, dcD, dcE, Bool.not_eq_true', Bool.not_eq_false'] at hb)))) | ((with_reducible refine And.intro ?_ ?_); (focus omega)) | fail)
        have v2 : ((seenK kk (xss.take (i + 1)) : Nat) : Int) = (S : Int) + pc := by omega
        have v3 : ((kdK kk (xss.take (i + 1)) : Nat) : Int) = (D : Int) + 1 := by omega
        refine ⟨i + 1, by omega, by omega, Wk.sub (tsd (tsd (tsd (tsd (tsd tsd0 rfl) (by (try dsimp only); rw [v3]; rfl)) (by (try dsimp only); rw [v2]; rfl)) rfl) rfl) (fun _ _ h => h) rfl⟩
      · have hz1 : hasX (xss.take i) kk c = 1 := by omega
        obtain ⟨u2, u3⟩ := u1 hz1
        have e5 : ((S : Int) / ((2 ^ c : Nat) : Int) % 2 == 0) = false := by
          rw [beq_eq_false_iff_ne]
          have : S / 2 ^ c % 2 = 1 := by omega
          intro e
          have e6 : S / 2 ^ c % 2 = 0 := by exact_mod_cast e
          omega
        generalize (2 : Nat) ^ c = pc at *
        have hq0 : 0 ≤ (S : Int) / (pc : Int) := Int.ediv_nonneg (by omega) (by omega)
        have hq1 : (S : Int) / (pc : Int) ≤ 31 := Int.le_trans (Int.ediv_le_self _ (by omega)) (by omega)


        repeat' (first | refine awp_seq_k fun K hK => ?_ | ((with_reducible refine hK _ ?_); clear hK K) | (clear hK K; (with_reducible refine hK _ ?_); clear hK K) | ((with_reducible refine aord_plain fun K hK => ?_); simp only [go_sem, Nat.reduceAdd, Nat.reduceMul, Nat.reduceEqDiff, Nat.reduceLT, reduceIte, reduceCtorEq, hOr, hrow, hxv, e2, e5, nmA, Nat.reduceAdd, ifA, ifB, hOr, hsl, hget, hrow, hxv, e2, e5]) | ((first | with_reducible refine aord_nil ?_ | refine awp_skip ?_ | refine awp_exit ?_ | refine awp_ret ?_); try simp only [rdA, Nat.reduceEqDiff, ifA, ifB, reduceIte]) | (refine awp_region tabOk rfl ?_; simp only [prep, pickO, lsA, lsB, lsC, lsD, lsE, lsF, lsG]) | ((with_reducible apply awp_cond); (focus (simp only [St.ev, St.set, upd, Nat.reduceEqDiff, reduceIte, ifA, ifB, hOr, hrow, hxv, e2, e5, nmA, Nat.reduceAdd, ifA, ifB]; exact rfl)); all_goals (intro hb; first | (cases hb; done) | ((try rw [hb]); (try simp only [dcA, dcB, dcC, dcD, dcE, Bool.not_eq_true', Bool.not_eq_false'] at hb)))) | ((with_reducible refine And.intro ?_ ?_); (focus omega)) | fail)
        refine ⟨i + 1, by omega, by omega, Wk.sub (tsd (tsd (tsd (tsd (tsd tsd0 rfl) (by (try dsimp only); rw [u3]; rfl)) (by (try dsimp only); rw [u2]; rfl)) rfl) rfl) (fun _ _ h => h) rfl⟩
  · have ei : i = xss.length := by omega
    subst ei
    rw [List.take_length]


    repeat' (first | refine awp_seq_k fun K hK => ?_ | ((with_reducible refine hK _ ?_); clear hK K) | (clear hK K; (with_reducible refine hK _ ?_); clear hK K) | ((with_reducible refine aord_plain fun K hK => ?_); simp only [go_sem, Nat.reduceAdd, Nat.reduceMul, Nat.reduceEqDiff, Nat.reduceLT, reduceIte, reduceCtorEq, hOr, nmA, Nat.reduceAdd, ifA, ifB, hOr, hsl]) | refine awp_block ?_ | ((first | with_reducible refine aord_nil ?_ | refine awp_skip ?_ | refine awp_exit ?_ | refine awp_ret ?_); try simp only [rdA, Nat.reduceEqDiff, ifA, ifB, reduceIte]) | (refine awp_region tabOk rfl ?_; simp only [prep, pickO, lsA, lsB, lsC, lsD, lsE, lsF, lsG]) | ((with_reducible apply awp_cond); (focus (simp only [St.ev, St.set, upd, Nat.reduceEqDiff, reduceIte, ifA, ifB, hOr, nmA, Nat.reduceAdd, ifA, ifB]; exact rfl)); all_goals (intro hb; first | (cases hb; done) | ((try rw [hb]); (try simp only [dcA, dcB, dcC, dcD, dcE, Bool.not_eq_true', Bool.not_eq_false'] at hb)))) | (simp only [doneH]; simp only [ressK, resK, wrapR, go_sem, Nat.reduceAdd, Nat.reduceMul, Nat.reduceEqDiff, Nat.reduceLT, reduceIte, reduceCtorEq, hOr, nmA, Nat.reduceAdd, ifA, ifB]) | (exfalso; omega) | fail)
    exact hQ

theorem agB_app {fs gs : List (Int × Int)} {p : List Int} : agB (fs ++ gs) p = (agB fs p && agB gs p) := by unfold agB; rw [List.all_append]
/-- The orders that agree with facts. -/
def ordF (d : Nat) (fs : List (Int × Int)) : List (List Int) := (ordK d d []).filter (agB fs)
theorem ordF_more {d : Nat} {fs : List (Int × Int)} {a c : Int} : ordF d (fs ++ [(a, c)]) = (ordF d fs).filter (agB [(a, c)]) := by
  unfold ordF
  rw [List.filter_filter]
  exact List.filter_congr fun p _ => by rw [agB_app, Bool.and_comm]
theorem ordF_good {d : Nat} {fs : List (Int × Int)} (hd : d ≤ 5) : GoodL d (ordF d fs) := by
  refine ⟨(ordK_nodup hd).filter _, fun p hp => ?_⟩
  obtain ⟨h1, h2, _⟩ := ordK_mem d .nil (List.mem_filter.1 hp).1
  exact ⟨h1, by simpa using h2⟩
theorem ordF_R {d : Nat} {fs : List (Int × Int)} (hi : itemsIn d fs) : ordF d fs = ordR (fun i j => wT fs d i j) d d [] :=
  ord_left hi d .nil (by simp) (fun ⟨i, j, h1, h2, h3⟩ => by simp at h2)
theorem ordF_cap {d : Nat} {fs : List (Int × Int)} (hd : d ≤ 5) : (ordF d fs).length ≤ 120 := Nat.le_trans (List.length_filter_le _ _) (ordK_cap hd)
theorem dbl_pow {n m : Nat} (h0 : 0 < n) (h2 : n ≤ 120) (h : n ≤ 2 ^ m) : dbl n 1 0 ≤ m := by
  obtain ⟨b1, b2, b3⟩ := bound_pow h0 h2
  rcases Nat.lt_or_ge m (dbl n 1 0) with c | c
  · have h3 := Nat.pow_le_pow_right (n := 2) (by decide) (show m + 1 ≤ dbl n 1 0 from c)
    rw [Nat.pow_succ] at h3
    omega
  · exact c
theorem dbl_pos {n : Nat} (h0 : 2 ≤ n) (h2 : n ≤ 120) : 1 ≤ dbl n 1 0 := by
  obtain ⟨b1, b2, b3⟩ := bound_pow (show 0 < n by omega) h2
  rcases Nat.eq_zero_or_pos (dbl n 1 0) with c | c
  · rw [c] at b1; simp at b1; omega
  · exact c
/-- A question is good: both answers leave some, and m more questions are enough. -/
def okQ (en : List (List Int) → Prop) (d m : Nat) (L : List (List Int)) (i j : Nat) : Prop := L.filter (agB [((i : Int), (j : Int))]) ≠ [] ∧ L.filter (agB [((j : Int), (i : Int))]) ≠ [] ∧ canP en d m (L.filter (agB [((i : Int), (j : Int))])) ∧ canP en d m (L.filter (agB [((j : Int), (i : Int))]))
theorem can_ask {en : List (List Int) → Prop} {d m : Nat} {L : List (List Int)} : canP en d (m + 1) L ↔ (en L ∨ ∃ i j : Nat, i < j ∧ j < d ∧ okQ en d m L i j) := Iff.rfl
theorem itemsIn_more {d : Nat} {fs : List (Int × Int)} (hi : itemsIn d fs) {a c : Nat} (ha : a < d) (hc : c < d) : itemsIn d (fs ++ [((a : Int), (c : Int))]) := fun f hf => by
  rcases List.mem_append.1 hf with h | h
  · exact hi f h
  · rw [List.mem_singleton.1 h]; exact ⟨⟨by omega, by omega⟩, by omega, by omega⟩


theorem canAsk_sat {d : Nat} (hd : d ≤ 5) (at_ : Int) {en : List (List Int) → Prop} {kd : List (List Int) → Nat} (hKi : Kinds d en kd) (hkb : ∀ L : List (List Int), L.length ≤ 120 → kd L ≤ 120) (hkd : SatH Try.prog 94 (fun al h n K => ∃ (O : Nat) (f : Nat → Nat) (xss : List (List Int)), al = [.sl O 0 xss.length 1 none, .val (.int .i64 at_)] ∧ RowsOf h n O f xss ∧ GoodL d xss ∧ xss.length ≤ 120 ∧ K (.val (.int .i64 ((kd xss : Nat) : Int))) h n)) : ∀ m : Nat, SatH Try.prog 78 (fun al h n K0 => ∃ (A : Nat) (b : Bool) (fs : List (Int × Int)), al = [.val (.int .i64 d), .sl A 0 fs.length 2 none, .val (.int .i64 at_), .val (.int .i64 m)] ∧ h A = some ⟨b, .ints .i64 (flF fs)⟩ ∧ itemsIn d fs ∧ fs.length + m ≤ 90 ∧ ∀ (v : Bool) (N : Nat), (v = true ↔ canP en d m (ordF d fs)) → n ≤ N → K0 (.val (.bool v)) h N) := by
  intro m
  induction m with
  | zero =>
    refine satH_intro tabOk Try.func78 rfl 76 rfl [.tmp 8] rfl ?_
    rintro F W h n al K0 ⟨A, b, fs, rfl, hA, hi, hl, hQ⟩
    refine ⟨Nat.le_of_ble_eq_true rfl, fun m0 hm0 hcl hlt => ?_⟩
    simp only [initT]
    have hAn := (hcl A _ hA).1
    have hord := ordersOf_sat hd (fun i j => wT fs d i j) d
    have hLc := ordF_cap (fs := fs) hd
    have hLg := ordF_good (fs := fs) hd
    have eR := ordF_R hi
    have m1 : (A = n) = False := eq_false (by omega)
    have m2 : ∀ k, (A = n + k) = False := fun k => eq_false (by omega)
    have m3 : (n = A) = False := eq_false (by omega)
    have m4 : ∀ k, (n + k = A) = False := fun k => eq_false (by omega)


    repeat' (first | refine awp_seq_k fun K hK => ?_ | ((with_reducible refine hK _ ?_); clear hK K) | ((with_reducible refine aord_plain fun K hK => ?_); simp only [go_sem, Nat.reduceAdd, Nat.reduceMul, Nat.reduceEqDiff, Nat.reduceLT, reduceIte, reduceCtorEq, hA, m1, m2, m3, m4, nmA, Nat.reduceAdd, ifA, ifB, hA, m1, m2, m3, m4, mat.matL]) | ((first | with_reducible refine aord_nil ?_ | refine awp_skip ?_ | refine awp_exit ?_ | refine awp_ret ?_); try simp only [rdA, Nat.reduceEqDiff, ifA, ifB, reduceIte]) | (refine awp_region tabOk rfl ?_; simp only [prep, pickO, lsA, lsB, lsC, lsD, lsE, lsF, lsG]) | ((with_reducible refine And.intro ?_ ?_); (focus omega)) | ((with_reducible refine And.intro (?_ : enters Try.prog 46) ?_); (focus exact Try.call46); (refine callX_satH specReach_sat ?_); simp only [go_sem, and_assoc, List.nil_append, List.append_nil, List.cons_append, Nat.reduceEqDiff, reduceIte, reduceCtorEq, hA, m1, m2, m3, m4, nmA, Nat.reduceAdd, ifA, ifB, hA, m1, m2, m3, m4, mat.matL]) | fail)
    refine ⟨d, rfl, b, fs, rfl, rfl, rfl, hd, by omega, hi, fun H M O f hM hfr hNM hNO => ?_⟩
    have HN : H n = some ⟨true, .ints .i64 []⟩ := (hfr n (by omega)).trans (if_pos rfl)


    repeat' (first | ((with_reducible refine hK _ ?_); clear hK K) | ((with_reducible refine aord_plain fun K hK => ?_); simp only [go_sem, Nat.reduceAdd, Nat.reduceMul, Nat.reduceEqDiff, Nat.reduceLT, reduceIte, reduceCtorEq, HN, nmA, Nat.reduceAdd, ifA, ifB, HN, mat.matL]) | ((with_reducible refine And.intro (?_ : enters Try.prog 45) ?_); (focus exact Try.call45); (refine callX_satH hord ?_); simp only [go_sem, and_assoc, List.nil_append, List.append_nil, List.cons_append, Nat.reduceEqDiff, reduceIte, reduceCtorEq, HN, nmA, Nat.reduceAdd, ifA, ifB, HN, mat.matL]) | fail)
    refine ⟨O, true, [], rfl, rfl, rfl, rfl, f, hM, Beg.nil, by simp, by rw [← eR]; exact hLc, fun H2 N2 P2 g2 r1 r2 r3 r4 => ?_⟩
    rw [← eR] at r1 r4 ⊢
    clear hord eR
    have hPN := r1.outn
    have hdrop : ∀ (o : Nat) (ob : Ob), h o = some ob → H2 o = some ob := fun o ob ho => by rw [r2 o (by have := (hcl o _ ho).1; omega), hfr o (by have := (hcl o _ ho).1; omega), if_neg (by have := (hcl o _ ho).1; omega)]; exact ho
    have hk1 := hkb _ hLc
    generalize ordF d fs = L at *


    repeat' (first | refine awp_seq_k fun K hK => ?_ | ((with_reducible refine hK _ ?_); clear hK K) | ((with_reducible refine aord_plain fun K hK => ?_); simp only [go_sem, Nat.reduceAdd, Nat.reduceMul, Nat.reduceEqDiff, Nat.reduceLT, reduceIte, reduceCtorEq, mat.matL]) | ((first | with_reducible refine aord_nil ?_ | refine awp_skip ?_ | refine awp_exit ?_ | refine awp_ret ?_); try simp only [rdA, Nat.reduceEqDiff, ifA, ifB, reduceIte]) | (refine awp_region tabOk rfl ?_; simp only [prep, pickO, lsA, lsB, lsC, lsD, lsE, lsF, lsG]) | ((with_reducible refine And.intro (?_ : enters Try.prog 94) ?_); (focus exact Try.call94); (refine callX_satH hkd ?_); simp only [go_sem, and_assoc, List.nil_append, List.append_nil, List.cons_append, Nat.reduceEqDiff, reduceIte, reduceCtorEq, mat.matL]) | fail)
    refine ⟨g2, L, rfl, r1, hLg, hLc, ?_⟩
    by_cases hen : en L
    · have h1 := (hKi.one L hLg).1 hen
      have e1 : decide (((kd L : Nat) : Int) < 2) = true := decide_eq_true (by omega)


      repeat' ((fail_if_success (with_reducible refine isRetQ ?_)); (first | refine awp_seq_k fun K hK => ?_ | ((with_reducible refine hK _ ?_); clear hK K) | ((with_reducible refine aord_plain fun K hK => ?_); simp only [go_sem, Nat.reduceAdd, Nat.reduceMul, Nat.reduceEqDiff, Nat.reduceLT, reduceIte, reduceCtorEq, e1, nmA, Nat.reduceAdd, ifA, ifB, e1, mat.matL]) | ((first | with_reducible refine aord_nil ?_ | refine awp_skip ?_ | refine awp_exit ?_ | refine awp_ret ?_); try simp only [rdA, Nat.reduceEqDiff, ifA, ifB, reduceIte]) | (refine awp_region tabOk rfl ?_; simp only [prep, pickO, lsA, lsB, lsC, lsD, lsE, lsF, lsG]) | ((with_reducible apply awp_cond); (focus (simp only [St.ev, St.set, upd, Nat.reduceEqDiff, reduceIte, ifA, ifB, e1, nmA, Nat.reduceAdd, ifA, ifB]; exact rfl)); all_goals (intro hb; first | (cases hb; done) | ((try rw [hb]); (try simp only [dcA, dcB, dcC, dcD, dcE, Bool.not_eq_true', Bool.not_eq_false'] at hb)))) | fail))
      refine awp_weaken (s' := ⟨upd bot 8 (.val (.bool true)), h, N2⟩) (Wk.sub (tsd tsd0 rfl) hdrop rfl) ?_
      repeat' (first | ((first | with_reducible refine aord_nil ?_ | refine awp_skip ?_ | refine awp_exit ?_ | refine awp_ret ?_); try simp only [rdA, Nat.reduceEqDiff, ifA, ifB, reduceIte]) | fail)
      exact hQ true N2 ⟨fun _ => hen, fun _ => rfl⟩ (by omega)
    · have h1 : 2 ≤ kd L := by
        rcases Nat.lt_or_ge (kd L) 2 with c | c
        · exact (hen ((hKi.one L hLg).2 (by omega))).elim
        · exact c
      have h2 := dbl_pos h1 hk1
      have e1 : decide (((kd L : Nat) : Int) < 2) = false := decide_eq_false (by omega)
      have e2 : decide (((dbl (kd L) 1 0 : Nat) : Int) > 0) = true := decide_eq_true (by omega)


      repeat' (first | refine awp_seq_k fun K hK => ?_ | ((with_reducible refine hK _ ?_); clear hK K) | ((with_reducible refine aord_plain fun K hK => ?_); simp only [go_sem, Nat.reduceAdd, Nat.reduceMul, Nat.reduceEqDiff, Nat.reduceLT, reduceIte, reduceCtorEq, e1, e2, nmA, Nat.reduceAdd, ifA, ifB, e1, e2, mat.matL, Int.natCast_zero, Int.cast_ofNat_Int]) | ((first | with_reducible refine aord_nil ?_ | refine awp_skip ?_ | refine awp_exit ?_ | refine awp_ret ?_); try simp only [rdA, Nat.reduceEqDiff, ifA, ifB, reduceIte]) | (refine awp_region tabOk rfl ?_; simp only [prep, pickO, lsA, lsB, lsC, lsD, lsE, lsF, lsG]) | ((with_reducible apply awp_cond); (focus (simp only [St.ev, St.set, upd, Nat.reduceEqDiff, reduceIte, ifA, ifB, e1, e2, nmA, Nat.reduceAdd, ifA, ifB]; exact rfl)); all_goals (intro hb; first | (cases hb; done) | ((try rw [hb]); (try simp only [dcA, dcB, dcC, dcD, dcE, Bool.not_eq_true', Bool.not_eq_false'] at hb)))) | ((with_reducible refine And.intro (?_ : enters Try.prog 95) ?_); (focus exact Try.call95); (refine callX_sat specLog_sat ?_); simp only [go_sem, and_assoc, List.nil_append, List.append_nil, List.cons_append, Nat.reduceEqDiff, reduceIte, reduceCtorEq, e1, e2, nmA, Nat.reduceAdd, ifA, ifB, e1, e2, mat.matL, Int.natCast_zero, Int.cast_ofNat_Int]) | fail)
      refine ⟨kd L, rfl, by omega, ?_⟩
      repeat' ((fail_if_success (with_reducible refine isRetQ ?_)); (first | refine awp_seq_k fun K hK => ?_ | ((with_reducible refine hK _ ?_); clear hK K) | ((with_reducible refine aord_plain fun K hK => ?_); simp only [go_sem, Nat.reduceAdd, Nat.reduceMul, Nat.reduceEqDiff, Nat.reduceLT, reduceIte, reduceCtorEq, e1, e2, nmA, Nat.reduceAdd, ifA, ifB, e1, e2, mat.matL, Int.natCast_zero, Int.cast_ofNat_Int]) | ((first | with_reducible refine aord_nil ?_ | refine awp_skip ?_ | refine awp_exit ?_ | refine awp_ret ?_); try simp only [rdA, Nat.reduceEqDiff, ifA, ifB, reduceIte]) | (refine awp_region tabOk rfl ?_; simp only [prep, pickO, lsA, lsB, lsC, lsD, lsE, lsF, lsG]) | ((with_reducible apply awp_cond); (focus (simp only [St.ev, St.set, upd, Nat.reduceEqDiff, reduceIte, ifA, ifB, e1, e2, nmA, Nat.reduceAdd, ifA, ifB]; exact rfl)); all_goals (intro hb; first | (cases hb; done) | ((try rw [hb]); (try simp only [dcA, dcB, dcC, dcD, dcE, Bool.not_eq_true', Bool.not_eq_false'] at hb)))) | fail))
      refine awp_weaken (s' := ⟨upd bot 8 (.val (.bool false)), h, N2⟩) (Wk.sub (tsd tsd0 rfl) hdrop rfl) ?_
      repeat' (first | ((first | with_reducible refine aord_nil ?_ | refine awp_skip ?_ | refine awp_exit ?_ | refine awp_ret ?_); try simp only [rdA, Nat.reduceEqDiff, ifA, ifB, reduceIte]) | fail)
      exact hQ false N2 ⟨fun e => (by cases e), fun e => (hen e).elim⟩ (by omega)
  | succ m ih =>
    refine satH_intro tabOk Try.func78 rfl 76 rfl [.tmp 8] rfl ?_
    rintro F W h n al K0 ⟨A, b, fs, rfl, hA, hi, hl, hQ⟩
    refine ⟨Nat.le_of_ble_eq_true rfl, fun m0 hm0 hcl hlt => ?_⟩
    simp only [initT]
    have hAn := (hcl A _ hA).1
    have hord := ordersOf_sat hd (fun i j => wT fs d i j) d
    have hLc := ordF_cap (fs := fs) hd
    have hLg := ordF_good (fs := fs) hd
    have eR := ordF_R hi
    have hmr : ∀ a c : Int, ordF d (fs ++ [(a, c)]) = (ordF d fs).filter (agB [(a, c)]) := fun a c => ordF_more
    have m1 : (A = n) = False := eq_false (by omega)
    have m2 : ∀ k, (A = n + k) = False := fun k => eq_false (by omega)
    have m3 : (n = A) = False := eq_false (by omega)
    have m4 : ∀ k, (n + k = A) = False := fun k => eq_false (by omega)


    repeat' (first | refine awp_seq_k fun K hK => ?_ | ((with_reducible refine hK _ ?_); clear hK K) | ((with_reducible refine aord_plain fun K hK => ?_); simp only [go_sem, Nat.reduceAdd, Nat.reduceMul, Nat.reduceEqDiff, Nat.reduceLT, reduceIte, reduceCtorEq, hA, m1, m2, m3, m4, nmA, Nat.reduceAdd, ifA, ifB, hA, m1, m2, m3, m4, mat.matL]) | ((first | with_reducible refine aord_nil ?_ | refine awp_skip ?_ | refine awp_exit ?_ | refine awp_ret ?_); try simp only [rdA, Nat.reduceEqDiff, ifA, ifB, reduceIte]) | (refine awp_region tabOk rfl ?_; simp only [prep, pickO, lsA, lsB, lsC, lsD, lsE, lsF, lsG]) | ((with_reducible refine And.intro ?_ ?_); (focus omega)) | ((with_reducible refine And.intro (?_ : enters Try.prog 46) ?_); (focus exact Try.call46); (refine callX_satH specReach_sat ?_); simp only [go_sem, and_assoc, List.nil_append, List.append_nil, List.cons_append, Nat.reduceEqDiff, reduceIte, reduceCtorEq, hA, m1, m2, m3, m4, nmA, Nat.reduceAdd, ifA, ifB, hA, m1, m2, m3, m4, mat.matL]) | fail)
    refine ⟨d, rfl, b, fs, rfl, rfl, rfl, hd, by omega, hi, fun H M O f hM hfr hNM hNO => ?_⟩
    have HN : H n = some ⟨true, .ints .i64 []⟩ := (hfr n (by omega)).trans (if_pos rfl)


    repeat' (first | ((with_reducible refine hK _ ?_); clear hK K) | ((with_reducible refine aord_plain fun K hK => ?_); simp only [go_sem, Nat.reduceAdd, Nat.reduceMul, Nat.reduceEqDiff, Nat.reduceLT, reduceIte, reduceCtorEq, HN, nmA, Nat.reduceAdd, ifA, ifB, HN, mat.matL]) | ((with_reducible refine And.intro (?_ : enters Try.prog 45) ?_); (focus exact Try.call45); (refine callX_satH hord ?_); simp only [go_sem, and_assoc, List.nil_append, List.append_nil, List.cons_append, Nat.reduceEqDiff, reduceIte, reduceCtorEq, HN, nmA, Nat.reduceAdd, ifA, ifB, HN, mat.matL]) | fail)
    refine ⟨O, true, [], rfl, rfl, rfl, rfl, f, hM, Beg.nil, by simp, by rw [← eR]; exact hLc, fun H2 N2 P2 g2 r1 r2 r3 r4 => ?_⟩
    rw [← eR] at r1 r4 ⊢
    clear hord eR
    have hPN := r1.outn
    have hrl := r1.lt
    have hfr2 : ∀ u, u < n → H2 u = h u := fun u hu => by rw [r2 u (by omega), hfr u (by omega), if_neg (by omega)]
    have hA2 : H2 A = some ⟨b, .ints .i64 (flF fs)⟩ := (hfr2 A hAn).trans hA
    clear hfr r2 HN
    have hk1 := hkb _ hLc
    generalize ordF d fs = L at *
    have hrw := hLg.rowle hd


    repeat' (first | refine awp_seq_k fun K hK => ?_ | ((with_reducible refine hK _ ?_); clear hK K) | ((with_reducible refine aord_plain fun K hK => ?_); simp only [go_sem, Nat.reduceAdd, Nat.reduceMul, Nat.reduceEqDiff, Nat.reduceLT, reduceIte, reduceCtorEq, mat.matL]) | ((first | with_reducible refine aord_nil ?_ | refine awp_skip ?_ | refine awp_exit ?_ | refine awp_ret ?_); try simp only [rdA, Nat.reduceEqDiff, ifA, ifB, reduceIte]) | (refine awp_region tabOk rfl ?_; simp only [prep, pickO, lsA, lsB, lsC, lsD, lsE, lsF, lsG]) | ((with_reducible refine And.intro (?_ : enters Try.prog 94) ?_); (focus exact Try.call94); (refine callX_satH hkd ?_); simp only [go_sem, and_assoc, List.nil_append, List.append_nil, List.cons_append, Nat.reduceEqDiff, reduceIte, reduceCtorEq, mat.matL]) | fail)
    refine ⟨g2, L, rfl, r1, hLg, hLc, ?_⟩
    by_cases hen : en L
    · have h1 := (hKi.one L hLg).1 hen
      have e1 : decide (((kd L : Nat) : Int) < 2) = true := decide_eq_true (by omega)


      repeat' ((fail_if_success (with_reducible refine isRetQ ?_)); (first | refine awp_seq_k fun K hK => ?_ | ((with_reducible refine hK _ ?_); clear hK K) | ((with_reducible refine aord_plain fun K hK => ?_); simp only [go_sem, Nat.reduceAdd, Nat.reduceMul, Nat.reduceEqDiff, Nat.reduceLT, reduceIte, reduceCtorEq, e1, nmA, Nat.reduceAdd, ifA, ifB, e1, mat.matL]) | ((first | with_reducible refine aord_nil ?_ | refine awp_skip ?_ | refine awp_exit ?_ | refine awp_ret ?_); try simp only [rdA, Nat.reduceEqDiff, ifA, ifB, reduceIte]) | (refine awp_region tabOk rfl ?_; simp only [prep, pickO, lsA, lsB, lsC, lsD, lsE, lsF, lsG]) | ((with_reducible apply awp_cond); (focus (simp only [St.ev, St.set, upd, Nat.reduceEqDiff, reduceIte, ifA, ifB, e1, nmA, Nat.reduceAdd, ifA, ifB]; exact rfl)); all_goals (intro hb; first | (cases hb; done) | ((try rw [hb]); (try simp only [dcA, dcB, dcC, dcD, dcE, Bool.not_eq_true', Bool.not_eq_false'] at hb)))) | fail))
      refine awp_weaken (s' := ⟨upd bot 8 (.val (.bool true)), h, N2⟩) (Wk.sub (tsd tsd0 rfl) (fun o ob ho => (hfr2 o (hcl o _ ho).1).trans ho) rfl) ?_
      repeat' (first | ((first | with_reducible refine aord_nil ?_ | refine awp_skip ?_ | refine awp_exit ?_ | refine awp_ret ?_); try simp only [rdA, Nat.reduceEqDiff, ifA, ifB, reduceIte]) | fail)
      exact hQ true N2 ⟨fun _ => can_ask.2 (.inl hen), fun _ => rfl⟩ (by omega)
    · have h1 : 2 ≤ kd L := by
        rcases Nat.lt_or_ge (kd L) 2 with c | c
        · exact (hen ((hKi.one L hLg).2 (by omega))).elim
        · exact c
      have e1 : decide (((kd L : Nat) : Int) < 2) = false := decide_eq_false (by omega)
      rcases Nat.lt_or_ge (m + 1) (dbl (kd L) 1 0) with hbig | hsm
      · have e2 : decide (((dbl (kd L) 1 0 : Nat) : Int) > (m : Int) + 1) = true := decide_eq_true (by omega)


        repeat' (first | refine awp_seq_k fun K hK => ?_ | ((with_reducible refine hK _ ?_); clear hK K) | ((with_reducible refine aord_plain fun K hK => ?_); simp only [go_sem, Nat.reduceAdd, Nat.reduceMul, Nat.reduceEqDiff, Nat.reduceLT, reduceIte, reduceCtorEq, e1, e2, nmA, Nat.reduceAdd, ifA, ifB, e1, e2, mat.matL, Int.natCast_add, Int.natCast_one, Int.cast_ofNat_Int]) | ((first | with_reducible refine aord_nil ?_ | refine awp_skip ?_ | refine awp_exit ?_ | refine awp_ret ?_); try simp only [rdA, Nat.reduceEqDiff, ifA, ifB, reduceIte]) | (refine awp_region tabOk rfl ?_; simp only [prep, pickO, lsA, lsB, lsC, lsD, lsE, lsF, lsG]) | ((with_reducible apply awp_cond); (focus (simp only [St.ev, St.set, upd, Nat.reduceEqDiff, reduceIte, ifA, ifB, e1, e2, nmA, Nat.reduceAdd, ifA, ifB]; exact rfl)); all_goals (intro hb; first | (cases hb; done) | ((try rw [hb]); (try simp only [dcA, dcB, dcC, dcD, dcE, Bool.not_eq_true', Bool.not_eq_false'] at hb)))) | ((with_reducible refine And.intro (?_ : enters Try.prog 95) ?_); (focus exact Try.call95); (refine callX_sat specLog_sat ?_); simp only [go_sem, and_assoc, List.nil_append, List.append_nil, List.cons_append, Nat.reduceEqDiff, reduceIte, reduceCtorEq, e1, e2, nmA, Nat.reduceAdd, ifA, ifB, e1, e2, mat.matL, Int.natCast_add, Int.natCast_one, Int.cast_ofNat_Int]) | fail)
        refine ⟨kd L, rfl, by omega, ?_⟩
        repeat' ((fail_if_success (with_reducible refine isRetQ ?_)); (first | refine awp_seq_k fun K hK => ?_ | ((with_reducible refine hK _ ?_); clear hK K) | ((with_reducible refine aord_plain fun K hK => ?_); simp only [go_sem, Nat.reduceAdd, Nat.reduceMul, Nat.reduceEqDiff, Nat.reduceLT, reduceIte, reduceCtorEq, e1, e2, nmA, Nat.reduceAdd, ifA, ifB, e1, e2, mat.matL, Int.natCast_add, Int.natCast_one, Int.cast_ofNat_Int]) | ((first | with_reducible refine aord_nil ?_ | refine awp_skip ?_ | refine awp_exit ?_ | refine awp_ret ?_); try simp only [rdA, Nat.reduceEqDiff, ifA, ifB, reduceIte]) | (refine awp_region tabOk rfl ?_; simp only [prep, pickO, lsA, lsB, lsC, lsD, lsE, lsF, lsG]) | ((with_reducible apply awp_cond); (focus (simp only [St.ev, St.set, upd, Nat.reduceEqDiff, reduceIte, ifA, ifB, e1, e2, nmA, Nat.reduceAdd, ifA, ifB]; exact rfl)); all_goals (intro hb; first | (cases hb; done) | ((try rw [hb]); (try simp only [dcA, dcB, dcC, dcD, dcE, Bool.not_eq_true', Bool.not_eq_false'] at hb)))) | fail))
        refine awp_weaken (s' := ⟨upd bot 8 (.val (.bool false)), h, N2⟩) (Wk.sub (tsd tsd0 rfl) (fun o ob ho => (hfr2 o (hcl o _ ho).1).trans ho) rfl) ?_
        repeat' (first | ((first | with_reducible refine aord_nil ?_ | refine awp_skip ?_ | refine awp_exit ?_ | refine awp_ret ?_); try simp only [rdA, Nat.reduceEqDiff, ifA, ifB, reduceIte]) | fail)
        refine hQ false N2 ⟨fun e => (by cases e), fun e => ?_⟩ (by omega)
        have := dbl_pow (show 0 < kd L by omega) hk1 (can_bits hKi _ hLg e)
        omega
      · have e2 : decide (((dbl (kd L) 1 0 : Nat) : Int) > (m : Int) + 1) = false := decide_eq_false (by omega)


        repeat' (first | refine awp_seq_k fun K hK => ?_ | ((with_reducible refine hK _ ?_); clear hK K) | ((with_reducible refine aord_plain fun K hK => ?_); simp only [go_sem, Nat.reduceAdd, Nat.reduceMul, Nat.reduceEqDiff, Nat.reduceLT, reduceIte, reduceCtorEq, e1, e2, nmA, Nat.reduceAdd, ifA, ifB, e1, e2, mat.matL, Int.natCast_add, Int.natCast_one, Int.cast_ofNat_Int]) | ((first | with_reducible refine aord_nil ?_ | refine awp_skip ?_ | refine awp_exit ?_ | refine awp_ret ?_); try simp only [rdA, Nat.reduceEqDiff, ifA, ifB, reduceIte]) | (refine awp_region tabOk rfl ?_; simp only [prep, pickO, lsA, lsB, lsC, lsD, lsE, lsF, lsG]) | ((with_reducible apply awp_cond); (focus (simp only [St.ev, St.set, upd, Nat.reduceEqDiff, reduceIte, ifA, ifB, e1, e2, nmA, Nat.reduceAdd, ifA, ifB]; exact rfl)); all_goals (intro hb; first | (cases hb; done) | ((try rw [hb]); (try simp only [dcA, dcB, dcC, dcD, dcE, Bool.not_eq_true', Bool.not_eq_false'] at hb)))) | ((with_reducible refine And.intro (?_ : enters Try.prog 95) ?_); (focus exact Try.call95); (refine callX_sat specLog_sat ?_); simp only [go_sem, and_assoc, List.nil_append, List.append_nil, List.cons_append, Nat.reduceEqDiff, reduceIte, reduceCtorEq, e1, e2, nmA, Nat.reduceAdd, ifA, ifB, e1, e2, mat.matL, Int.natCast_add, Int.natCast_one, Int.cast_ofNat_Int]) | fail)
        refine ⟨kd L, rfl, by omega, ?_⟩
        repeat' (first | refine awp_seq_k fun K hK => ?_ | ((with_reducible refine hK _ ?_); clear hK K) | ((with_reducible refine aord_plain fun K hK => ?_); simp only [go_sem, Nat.reduceAdd, Nat.reduceMul, Nat.reduceEqDiff, Nat.reduceLT, reduceIte, reduceCtorEq, e1, e2, nmA, Nat.reduceAdd, ifA, ifB, e1, e2, mat.matL, Int.natCast_add, Int.natCast_one, Int.cast_ofNat_Int]) | refine awp_block ?_ | ((first | with_reducible refine aord_nil ?_ | refine awp_skip ?_ | refine awp_exit ?_ | refine awp_ret ?_); try simp only [rdA, Nat.reduceEqDiff, ifA, ifB, reduceIte]) | (refine awp_region tabOk rfl ?_; simp only [prep, pickO, lsA, lsB, lsC, lsD, lsE, lsF, lsG]) | ((with_reducible apply awp_cond); (focus (simp only [St.ev, St.set, upd, Nat.reduceEqDiff, reduceIte, ifA, ifB, e1, e2, nmA, Nat.reduceAdd, ifA, ifB]; exact rfl)); all_goals (intro hb; first | (cases hb; done) | ((try rw [hb]); (try simp only [dcA, dcB, dcC, dcD, dcE, Bool.not_eq_true', Bool.not_eq_false'] at hb)))) | fail)
        refine awp_loop (fun q : Hp × Nat × Nat => ⟨upd (upd (upd (upd (upd (upd bot 11 (.val (.int .i64 q.2.2))) 9 (.sl P2 0 L.length 1 none)) 3 (.val (.int .i64 ((m : Int) + 1)))) 2 (.val (.int .i64 at_))) 1 (.sl A 0 fs.length 2 none)) 0 (.val (.int .i64 d)), q.1, q.2.1⟩) (fun q => q.2.2 ≤ d ∧ N2 ≤ q.2.1 ∧ (∀ u, u < N2 → q.1 u = H2 u) ∧ ∀ i j : Nat, i < j → j < d → i < q.2.2 → ¬ okQ en d m L i j) (fun q => d - q.2.2) (H2, N2, 0) ⟨Nat.zero_le _, Nat.le_refl _, fun _ _ => rfl, fun i j _ _ h => by dsimp only at h; omega⟩ ?_ ?_
        · exact Wk.sub (tsd (tsd (tsd (tsd (tsd (tsd tsd0 rfl) rfl) rfl) rfl) rfl) rfl) (fun _ _ h => h) rfl
        rintro ⟨G, N, i⟩ ⟨hid, hNN, hG, hno⟩
        dsimp only at hid hNN hG hno ⊢
        rcases Nat.lt_or_ge i d with hi2 | hi2
        · skip


          repeat' (first | refine awp_seq_k fun K hK => ?_ | ((with_reducible refine hK _ ?_); clear hK K) | (clear hK K; (with_reducible refine hK _ ?_); clear hK K) | ((with_reducible refine aord_plain fun K hK => ?_); simp only [go_sem, Nat.reduceAdd, Nat.reduceMul, Nat.reduceEqDiff, Nat.reduceLT, reduceIte, reduceCtorEq, mat.matL]) | refine awp_block ?_ | ((first | with_reducible refine aord_nil ?_ | refine awp_skip ?_ | refine awp_exit ?_ | refine awp_ret ?_); try simp only [rdA, Nat.reduceEqDiff, ifA, ifB, reduceIte]) | (refine awp_region tabOk rfl ?_; simp only [prep, pickO, lsA, lsB, lsC, lsD, lsE, lsF, lsG]) | ((with_reducible apply awp_cond); (focus (simp only [St.ev, St.set, upd, Nat.reduceEqDiff, reduceIte, ifA, ifB]; exact rfl)); all_goals (intro hb; first | (cases hb; done) | ((try rw [hb]); (try simp only [dcA, dcB, dcC, dcD, dcE, Bool.not_eq_true', Bool.not_eq_false'] at hb)))) | ((with_reducible refine And.intro ?_ ?_); (focus omega)) | (exfalso; omega) | fail)
          refine awp_loop (fun q : Hp × Nat × Nat => ⟨upd (upd (upd (upd (upd (upd (upd bot 12 (.val (.int .i64 q.2.2))) 11 (.val (.int .i64 i))) 9 (.sl P2 0 L.length 1 none)) 3 (.val (.int .i64 ((m : Int) + 1)))) 2 (.val (.int .i64 at_))) 1 (.sl A 0 fs.length 2 none)) 0 (.val (.int .i64 d)), q.1, q.2.1⟩) (fun q => q.2.2 ≤ d ∧ i + 1 ≤ q.2.2 ∧ N2 ≤ q.2.1 ∧ (∀ u, u < N2 → q.1 u = H2 u) ∧ (∀ i' j : Nat, i' < j → j < d → i' < i → ¬ okQ en d m L i' j) ∧ ∀ j : Nat, i < j → j < q.2.2 → ¬ okQ en d m L i j) (fun q => d - q.2.2) (G, N, i + 1) ⟨by dsimp only; omega, Nat.le_refl _, hNN, hG, hno, fun j h1 h2 => by dsimp only at h2; omega⟩ ?_ ?_
          · exact Wk.sub (tsd (tsd (tsd (tsd (tsd (tsd (tsd tsd0 rfl) rfl) rfl) rfl) rfl) rfl) rfl) (fun _ _ h => h) rfl
          clear hno hG hNN
          rintro ⟨G, N, j⟩ ⟨hjd, hij, hNN, hG, hno, hnj⟩
          dsimp only at hjd hij hNN hG hno hnj ⊢
          rcases Nat.lt_or_ge j d with hj2 | hj2
          · have hAG : G A = some ⟨b, .ints .i64 (flF fs)⟩ := (hG A (by omega)).trans hA2
            have rG : RowsOf G N P2 g2 L := r1.keepN hNN (hG _ hPN) (fun k hk => hG _ (hrl k hk).1)
            have hah : L.filter (ahP (i : Int) (j : Int)) = L.filter (agB [((i : Int), (j : Int))]) := List.filter_congr fun p hp => (ag_one (a := (i : Int)) (c := (j : Int)) (hLg.2 p hp).1 (hLg.2 p hp).2 ⟨by omega, by omega⟩ ⟨by omega, by omega⟩ (by omega)).1
            have hsum := part_sum hLg (show i < j by omega) hj2
            have hm1 := hmr (i : Int) (j : Int)
            have hm2 := hmr (j : Int) (i : Int)
            have hq : okQ en d m L i j ↔ (L.filter (agB [((i : Int), (j : Int))]) ≠ [] ∧ L.filter (agB [((j : Int), (i : Int))]) ≠ [] ∧ canP en d m (L.filter (agB [((i : Int), (j : Int))])) ∧ canP en d m (L.filter (agB [((j : Int), (i : Int))]))) := Iff.rfl
            generalize hYY : L.filter (agB [((i : Int), (j : Int))]) = Y at *
            generalize hNO : L.filter (agB [((j : Int), (i : Int))]) = NO at *
            have hgo : ¬ okQ en d m L i j → ∀ k : Nat, i < k → k < j + 1 → ¬ okQ en d m L i k := fun h k h1 h2 => by
              rcases Nat.lt_or_ge k j with c | c
              · exact hnj k h1 c
              · obtain rfl : k = j := by omega
                exact h


            repeat' (first | refine awp_seq_k fun K hK => ?_ | ((with_reducible refine hK _ ?_); clear hK K) | (clear hK K; (with_reducible refine hK _ ?_); clear hK K) | ((with_reducible refine aord_plain fun K hK => ?_); simp only [go_sem, Nat.reduceAdd, Nat.reduceMul, Nat.reduceEqDiff, Nat.reduceLT, reduceIte, reduceCtorEq, hAG, nmA, Nat.reduceAdd, ifA, ifB, hAG, mat.matL]) | refine awp_block ?_ | ((first | with_reducible refine aord_nil ?_ | refine awp_skip ?_ | refine awp_exit ?_ | refine awp_ret ?_); try simp only [rdA, Nat.reduceEqDiff, ifA, ifB, reduceIte]) | (refine awp_region tabOk rfl ?_; simp only [prep, pickO, lsA, lsB, lsC, lsD, lsE, lsF, lsG]) | ((with_reducible apply awp_cond); (focus (simp only [St.ev, St.set, upd, Nat.reduceEqDiff, reduceIte, ifA, ifB, hAG, nmA, Nat.reduceAdd, ifA, ifB]; exact rfl)); all_goals (intro hb; first | (cases hb; done) | ((try rw [hb]); (try simp only [dcA, dcB, dcC, dcD, dcE, Bool.not_eq_true', Bool.not_eq_false'] at hb)))) | ((with_reducible refine And.intro ?_ ?_); (focus omega)) | ((with_reducible refine And.intro (?_ : enters Try.prog 68) ?_); (focus exact Try.call68); (refine callX_satH specSplit_sat ?_); simp only [go_sem, and_assoc, List.nil_append, List.append_nil, List.cons_append, Nat.reduceEqDiff, reduceIte, reduceCtorEq, hAG, nmA, Nat.reduceAdd, ifA, ifB, hAG, mat.matL]) | (exfalso; omega) | fail)
            refine ⟨g2, L, rfl, rG, by omega, hrw, by omega, ?_⟩
            rw [hah]
            have eY : (L.length : Int) - ((Y.length : Nat) : Int) = ((NO.length : Nat) : Int) := by omega
            rw [eY]
            rcases Nat.eq_zero_or_pos Y.length with hy0 | hyp
            · have f1 : decide (((Y.length : Nat) : Int) > 0) = false := decide_eq_false (by omega)


              repeat' (first | refine awp_seq_k fun K hK => ?_ | ((with_reducible refine hK _ ?_); clear hK K) | ((with_reducible refine aord_plain fun K hK => ?_); simp only [go_sem, Nat.reduceAdd, Nat.reduceMul, Nat.reduceEqDiff, Nat.reduceLT, reduceIte, reduceCtorEq, hAG, f1, nmA, Nat.reduceAdd, ifA, ifB, hAG, f1, mat.matL]) | ((with_reducible apply aord_guard); (focus (simp only [St.ev, St.set, upd, Nat.reduceEqDiff, reduceIte, ifA, ifB, hAG, f1, nmA, Nat.reduceAdd, ifA, ifB]; exact rfl)); all_goals (intro hb; (try simp only [Bool.not_true, Bool.not_false] at hb); first | (cases hb; done) | ((try rw [hb]); (try simp only [Bool.not_eq_true', Bool.not_eq_false', Bool.and_eq_true, dcA, dcB, dcC, dcD, dcE] at hb); (try (revert hb; with_reducible refine true_imp_iff.2 ?_)); first | (intro K hK; simp only [go_sem, Nat.reduceAdd, Nat.reduceMul, Nat.reduceEqDiff, Nat.reduceLT, reduceIte, reduceCtorEq, hAG, f1, nmA, Nat.reduceAdd, ifA, ifB]) | (simp only [St.ev, St.set, upd, Nat.reduceEqDiff, reduceIte, ifA, ifB, hAG, f1, nmA, Nat.reduceAdd, ifA, ifB]) | skip))) | ((first | with_reducible refine aord_nil ?_ | refine awp_skip ?_ | refine awp_exit ?_ | refine awp_ret ?_); try simp only [rdA, Nat.reduceEqDiff, ifA, ifB, reduceIte]) | (refine awp_region tabOk rfl ?_; simp only [prep, pickO, lsA, lsB, lsC, lsD, lsE, lsF, lsG]) | ((with_reducible apply awp_cond); (focus (simp only [St.ev, St.set, upd, Nat.reduceEqDiff, reduceIte, ifA, ifB, hAG, f1, nmA, Nat.reduceAdd, ifA, ifB]; exact rfl)); all_goals (intro hb; first | (cases hb; done) | ((try rw [hb]); (try simp only [dcA, dcB, dcC, dcD, dcE, Bool.not_eq_true', Bool.not_eq_false'] at hb)))) | ((with_reducible refine And.intro ?_ ?_); (focus omega)) | fail)
              exact ⟨(G, N, j + 1), ⟨by dsimp only; omega, by dsimp only; omega, hNN, hG, hno, hgo fun h => (hq.1 h).1 (List.eq_nil_of_length_eq_zero hy0)⟩, by dsimp only; omega, Wk.sub (tsd (tsd (tsd (tsd (tsd (tsd (tsd tsd0 rfl) rfl) rfl) rfl) rfl) rfl) rfl) (fun _ _ h => h) rfl⟩
            · have f1 : decide (((Y.length : Nat) : Int) > 0) = true := decide_eq_true (by omega)
              rcases Nat.eq_zero_or_pos NO.length with hn0 | hnp
              · have f2 : decide (((NO.length : Nat) : Int) > 0) = false := decide_eq_false (by omega)


                repeat' (first | refine awp_seq_k fun K hK => ?_ | ((with_reducible refine hK _ ?_); clear hK K) | ((with_reducible refine aord_plain fun K hK => ?_); simp only [go_sem, Nat.reduceAdd, Nat.reduceMul, Nat.reduceEqDiff, Nat.reduceLT, reduceIte, reduceCtorEq, hAG, f1, f2, nmA, Nat.reduceAdd, ifA, ifB, hAG, f1, f2, mat.matL]) | ((with_reducible apply aord_guard); (focus (simp only [St.ev, St.set, upd, Nat.reduceEqDiff, reduceIte, ifA, ifB, hAG, f1, f2, nmA, Nat.reduceAdd, ifA, ifB]; exact rfl)); all_goals (intro hb; (try simp only [Bool.not_true, Bool.not_false] at hb); first | (cases hb; done) | ((try rw [hb]); (try simp only [Bool.not_eq_true', Bool.not_eq_false', Bool.and_eq_true, dcA, dcB, dcC, dcD, dcE] at hb); (try (revert hb; with_reducible refine true_imp_iff.2 ?_)); first | (intro K hK; simp only [go_sem, Nat.reduceAdd, Nat.reduceMul, Nat.reduceEqDiff, Nat.reduceLT, reduceIte, reduceCtorEq, hAG, f1, f2, nmA, Nat.reduceAdd, ifA, ifB]) | (simp only [St.ev, St.set, upd, Nat.reduceEqDiff, reduceIte, ifA, ifB, hAG, f1, f2, nmA, Nat.reduceAdd, ifA, ifB]) | skip))) | ((first | with_reducible refine aord_nil ?_ | refine awp_skip ?_ | refine awp_exit ?_ | refine awp_ret ?_); try simp only [rdA, Nat.reduceEqDiff, ifA, ifB, reduceIte]) | (refine awp_region tabOk rfl ?_; simp only [prep, pickO, lsA, lsB, lsC, lsD, lsE, lsF, lsG]) | ((with_reducible apply awp_cond); (focus (simp only [St.ev, St.set, upd, Nat.reduceEqDiff, reduceIte, ifA, ifB, hAG, f1, f2, nmA, Nat.reduceAdd, ifA, ifB]; exact rfl)); all_goals (intro hb; first | (cases hb; done) | ((try rw [hb]); (try simp only [dcA, dcB, dcC, dcD, dcE, Bool.not_eq_true', Bool.not_eq_false'] at hb)))) | ((with_reducible refine And.intro ?_ ?_); (focus omega)) | fail)
                exact ⟨(G, N, j + 1), ⟨by dsimp only; omega, by dsimp only; omega, hNN, hG, hno, hgo fun h => (hq.1 h).2.1 (List.eq_nil_of_length_eq_zero hn0)⟩, by dsimp only; omega, Wk.sub (tsd (tsd (tsd (tsd (tsd (tsd (tsd tsd0 rfl) rfl) rfl) rfl) rfl) rfl) rfl) (fun _ _ h => h) rfl⟩
              · have f2 : decide (((NO.length : Nat) : Int) > 0) = true := decide_eq_true (by omega)
                have em : (m : Int) + 1 - 1 = (m : Int) := by omega


                repeat' (first | refine awp_seq_k fun K hK => ?_ | ((with_reducible refine hK _ ?_); clear hK K) | ((with_reducible refine aord_plain fun K hK => ?_); simp only [go_sem, Nat.reduceAdd, Nat.reduceMul, Nat.reduceEqDiff, Nat.reduceLT, reduceIte, reduceCtorEq, hAG, f1, f2, em, nmA, Nat.reduceAdd, ifA, ifB, hAG, f1, f2, em, mat.matL]) | ((with_reducible apply aord_guard); (focus (simp only [St.ev, St.set, upd, Nat.reduceEqDiff, reduceIte, ifA, ifB, hAG, f1, f2, em, nmA, Nat.reduceAdd, ifA, ifB]; exact rfl)); all_goals (intro hb; (try simp only [Bool.not_true, Bool.not_false] at hb); first | (cases hb; done) | ((try rw [hb]); (try simp only [Bool.not_eq_true', Bool.not_eq_false', Bool.and_eq_true, dcA, dcB, dcC, dcD, dcE] at hb); (try (revert hb; with_reducible refine true_imp_iff.2 ?_)); first | (intro K hK; simp only [go_sem, Nat.reduceAdd, Nat.reduceMul, Nat.reduceEqDiff, Nat.reduceLT, reduceIte, reduceCtorEq, hAG, f1, f2, em, nmA, Nat.reduceAdd, ifA, ifB]) | (simp only [St.ev, St.set, upd, Nat.reduceEqDiff, reduceIte, ifA, ifB, hAG, f1, f2, em, nmA, Nat.reduceAdd, ifA, ifB]) | skip))) | ((first | with_reducible refine aord_nil ?_ | refine awp_skip ?_ | refine awp_exit ?_ | refine awp_ret ?_); try simp only [rdA, Nat.reduceEqDiff, ifA, ifB, reduceIte]) | (refine awp_region tabOk rfl ?_; simp only [prep, pickO, lsA, lsB, lsC, lsD, lsE, lsF, lsG]) | ((with_reducible refine And.intro (?_ : enters Try.prog 69) ?_); (focus exact Try.call69); (refine callX_satH more_sat ?_); simp only [go_sem, and_assoc, List.nil_append, List.append_nil, List.cons_append, Nat.reduceEqDiff, reduceIte, reduceCtorEq, hAG, f1, f2, em, nmA, Nat.reduceAdd, ifA, ifB, hAG, f1, f2, em, mat.matL]) | fail)
                refine ⟨b, fs, rfl, rfl, rfl, by omega, fun H3 N3 O3 s1 s2 s3 => ?_⟩
                have hA3 : H3 A = some ⟨b, .ints .i64 (flF fs)⟩ := (s2 A (by omega)).trans hAG


                repeat' (first | ((with_reducible refine hK _ ?_); clear hK K) | ((with_reducible apply aord_guard); (focus (simp only [St.ev, St.set, upd, Nat.reduceEqDiff, reduceIte, ifA, ifB, hA3, s1, f1, f2, em, nmA, Nat.reduceAdd, ifA, ifB]; exact rfl)); all_goals (intro hb; (try simp only [Bool.not_true, Bool.not_false] at hb); first | (cases hb; done) | ((try rw [hb]); (try simp only [Bool.not_eq_true', Bool.not_eq_false', Bool.and_eq_true, dcA, dcB, dcC, dcD, dcE] at hb); (try (revert hb; with_reducible refine true_imp_iff.2 ?_)); first | (intro K hK; simp only [go_sem, Nat.reduceAdd, Nat.reduceMul, Nat.reduceEqDiff, Nat.reduceLT, reduceIte, reduceCtorEq, hA3, s1, f1, f2, em, nmA, Nat.reduceAdd, ifA, ifB]) | (simp only [St.ev, St.set, upd, Nat.reduceEqDiff, reduceIte, ifA, ifB, hA3, s1, f1, f2, em, nmA, Nat.reduceAdd, ifA, ifB]) | skip))) | ((with_reducible refine And.intro ?_ ?_); (focus omega)) | ((with_reducible refine And.intro (?_ : enters Try.prog 78) ?_); (focus exact Try.call78); (refine callX_satH ih ?_); simp only [go_sem, and_assoc, List.nil_append, List.append_nil, List.cons_append, Nat.reduceEqDiff, reduceIte, reduceCtorEq, hA3, s1, f1, f2, em, nmA, Nat.reduceAdd, ifA, ifB, hA3, s1, f1, f2, em, mat.matL]) | fail)
                have l1 : fs.length + 1 = (fs ++ [((i : Int), (j : Int))]).length := by rw [List.length_append]; rfl
                have l2 : fs.length + 1 = (fs ++ [((j : Int), (i : Int))]).length := by rw [List.length_append]; rfl
                refine ⟨true, fs ++ [((i : Int), (j : Int))], l1, rfl, rfl, itemsIn_more hi (by omega) (by omega), by omega, fun v N4 hv hN4 => ?_⟩
                rw [hm1] at hv
                cases v with
                | false =>


                  repeat' (first | ((with_reducible refine hK _ ?_); clear hK K) | ((with_reducible refine aord_plain fun K hK => ?_); simp only [go_sem, Nat.reduceAdd, Nat.reduceMul, Nat.reduceEqDiff, Nat.reduceLT, reduceIte, reduceCtorEq, hA3, s1, f1, f2, em, nmA, Nat.reduceAdd, ifA, ifB, hA3, s1, f1, f2, em, mat.matL]) | ((with_reducible apply aord_guard); (focus (simp only [St.ev, St.set, upd, Nat.reduceEqDiff, reduceIte, ifA, ifB, hA3, s1, f1, f2, em, nmA, Nat.reduceAdd, ifA, ifB]; exact rfl)); all_goals (intro hb; (try simp only [Bool.not_true, Bool.not_false] at hb); first | (cases hb; done) | ((try rw [hb]); (try simp only [Bool.not_eq_true', Bool.not_eq_false', Bool.and_eq_true, dcA, dcB, dcC, dcD, dcE] at hb); (try (revert hb; with_reducible refine true_imp_iff.2 ?_)); first | (intro K hK; simp only [go_sem, Nat.reduceAdd, Nat.reduceMul, Nat.reduceEqDiff, Nat.reduceLT, reduceIte, reduceCtorEq, hA3, s1, f1, f2, em, nmA, Nat.reduceAdd, ifA, ifB]) | (simp only [St.ev, St.set, upd, Nat.reduceEqDiff, reduceIte, ifA, ifB, hA3, s1, f1, f2, em, nmA, Nat.reduceAdd, ifA, ifB]) | skip))) | ((first | with_reducible refine aord_nil ?_ | refine awp_skip ?_ | refine awp_exit ?_ | refine awp_ret ?_); try simp only [rdA, Nat.reduceEqDiff, ifA, ifB, reduceIte]) | (refine awp_region tabOk rfl ?_; simp only [prep, pickO, lsA, lsB, lsC, lsD, lsE, lsF, lsG]) | ((with_reducible apply awp_cond); (focus (simp only [St.ev, St.set, upd, Nat.reduceEqDiff, reduceIte, ifA, ifB, hA3, s1, f1, f2, em, nmA, Nat.reduceAdd, ifA, ifB]; exact rfl)); all_goals (intro hb; first | (cases hb; done) | ((try rw [hb]); (try simp only [dcA, dcB, dcC, dcD, dcE, Bool.not_eq_true', Bool.not_eq_false'] at hb)))) | ((with_reducible refine And.intro ?_ ?_); (focus omega)) | fail)
                  exact ⟨(H3, N4, j + 1), ⟨by dsimp only; omega, by dsimp only; omega, by dsimp only; omega, fun u hu => (s2 u (by omega)).trans (hG u hu), hno, hgo fun h => by have := hv.2 (hq.1 h).2.2.1; cases this⟩, by dsimp only; omega, Wk.sub (tsd (tsd (tsd (tsd (tsd (tsd (tsd tsd0 rfl) rfl) rfl) rfl) rfl) rfl) rfl) (fun _ _ h => h) rfl⟩
                | true =>


                  repeat' (first | ((with_reducible refine hK _ ?_); clear hK K) | ((with_reducible refine aord_plain fun K hK => ?_); simp only [go_sem, Nat.reduceAdd, Nat.reduceMul, Nat.reduceEqDiff, Nat.reduceLT, reduceIte, reduceCtorEq, hA3, s1, f1, f2, em, nmA, Nat.reduceAdd, ifA, ifB, hA3, s1, f1, f2, em, mat.matL]) | ((with_reducible apply aord_guard); (focus (simp only [St.ev, St.set, upd, Nat.reduceEqDiff, reduceIte, ifA, ifB, hA3, s1, f1, f2, em, nmA, Nat.reduceAdd, ifA, ifB]; exact rfl)); all_goals (intro hb; (try simp only [Bool.not_true, Bool.not_false] at hb); first | (cases hb; done) | ((try rw [hb]); (try simp only [Bool.not_eq_true', Bool.not_eq_false', Bool.and_eq_true, dcA, dcB, dcC, dcD, dcE] at hb); (try (revert hb; with_reducible refine true_imp_iff.2 ?_)); first | (intro K hK; simp only [go_sem, Nat.reduceAdd, Nat.reduceMul, Nat.reduceEqDiff, Nat.reduceLT, reduceIte, reduceCtorEq, hA3, s1, f1, f2, em, nmA, Nat.reduceAdd, ifA, ifB]) | (simp only [St.ev, St.set, upd, Nat.reduceEqDiff, reduceIte, ifA, ifB, hA3, s1, f1, f2, em, nmA, Nat.reduceAdd, ifA, ifB]) | skip))) | ((with_reducible refine And.intro (?_ : enters Try.prog 69) ?_); (focus exact Try.call69); (refine callX_satH more_sat ?_); simp only [go_sem, and_assoc, List.nil_append, List.append_nil, List.cons_append, Nat.reduceEqDiff, reduceIte, reduceCtorEq, hA3, s1, f1, f2, em, nmA, Nat.reduceAdd, ifA, ifB, hA3, s1, f1, f2, em, mat.matL]) | fail)
                  refine ⟨b, fs, rfl, rfl, rfl, by omega, fun H5 N5 O5 u1 u2 u3 => ?_⟩


                  repeat' (first | ((with_reducible refine hK _ ?_); clear hK K) | ((with_reducible apply aord_guard); (focus (simp only [St.ev, St.set, upd, Nat.reduceEqDiff, reduceIte, ifA, ifB, u1, f1, f2, em, nmA, Nat.reduceAdd, ifA, ifB]; exact rfl)); all_goals (intro hb; (try simp only [Bool.not_true, Bool.not_false] at hb); first | (cases hb; done) | ((try rw [hb]); (try simp only [Bool.not_eq_true', Bool.not_eq_false', Bool.and_eq_true, dcA, dcB, dcC, dcD, dcE] at hb); (try (revert hb; with_reducible refine true_imp_iff.2 ?_)); first | (intro K hK; simp only [go_sem, Nat.reduceAdd, Nat.reduceMul, Nat.reduceEqDiff, Nat.reduceLT, reduceIte, reduceCtorEq, u1, f1, f2, em, nmA, Nat.reduceAdd, ifA, ifB]) | (simp only [St.ev, St.set, upd, Nat.reduceEqDiff, reduceIte, ifA, ifB, u1, f1, f2, em, nmA, Nat.reduceAdd, ifA, ifB]) | skip))) | ((with_reducible refine And.intro ?_ ?_); (focus omega)) | ((with_reducible refine And.intro (?_ : enters Try.prog 78) ?_); (focus exact Try.call78); (refine callX_satH ih ?_); simp only [go_sem, and_assoc, List.nil_append, List.append_nil, List.cons_append, Nat.reduceEqDiff, reduceIte, reduceCtorEq, u1, f1, f2, em, nmA, Nat.reduceAdd, ifA, ifB, u1, f1, f2, em, mat.matL]) | fail)
                  refine ⟨true, fs ++ [((j : Int), (i : Int))], l2, rfl, rfl, itemsIn_more hi (by omega) (by omega), by omega, fun w N6 hw hN6 => ?_⟩
                  rw [hm2] at hw
                  cases w with
                  | false =>


                    repeat' (first | ((with_reducible refine hK _ ?_); clear hK K) | ((with_reducible refine aord_plain fun K hK => ?_); simp only [go_sem, Nat.reduceAdd, Nat.reduceMul, Nat.reduceEqDiff, Nat.reduceLT, reduceIte, reduceCtorEq, u1, f1, f2, em, nmA, Nat.reduceAdd, ifA, ifB, u1, f1, f2, em, mat.matL]) | ((first | with_reducible refine aord_nil ?_ | refine awp_skip ?_ | refine awp_exit ?_ | refine awp_ret ?_); try simp only [rdA, Nat.reduceEqDiff, ifA, ifB, reduceIte]) | (refine awp_region tabOk rfl ?_; simp only [prep, pickO, lsA, lsB, lsC, lsD, lsE, lsF, lsG]) | ((with_reducible apply awp_cond); (focus (simp only [St.ev, St.set, upd, Nat.reduceEqDiff, reduceIte, ifA, ifB, u1, f1, f2, em, nmA, Nat.reduceAdd, ifA, ifB]; exact rfl)); all_goals (intro hb; first | (cases hb; done) | ((try rw [hb]); (try simp only [dcA, dcB, dcC, dcD, dcE, Bool.not_eq_true', Bool.not_eq_false'] at hb)))) | ((with_reducible refine And.intro ?_ ?_); (focus omega)) | fail)
                    exact ⟨(H5, N6, j + 1), ⟨by dsimp only; omega, by dsimp only; omega, by dsimp only; omega, fun u hu => (u2 u (by omega)).trans ((s2 u (by omega)).trans (hG u hu)), hno, hgo fun h => by have := hw.2 (hq.1 h).2.2.2; cases this⟩, by dsimp only; omega, Wk.sub (tsd (tsd (tsd (tsd (tsd (tsd (tsd tsd0 rfl) rfl) rfl) rfl) rfl) rfl) rfl) (fun _ _ h => h) rfl⟩
                  | true =>


                    repeat' ((fail_if_success (with_reducible refine isRetQ ?_)); (first | refine awp_seq_k fun K hK => ?_ | ((with_reducible refine hK _ ?_); clear hK K) | ((with_reducible refine aord_plain fun K hK => ?_); simp only [go_sem, Nat.reduceAdd, Nat.reduceMul, Nat.reduceEqDiff, Nat.reduceLT, reduceIte, reduceCtorEq, u1, f1, f2, em, nmA, Nat.reduceAdd, ifA, ifB, u1, f1, f2, em, mat.matL]) | ((first | with_reducible refine aord_nil ?_ | refine awp_skip ?_ | refine awp_exit ?_ | refine awp_ret ?_); try simp only [rdA, Nat.reduceEqDiff, ifA, ifB, reduceIte]) | (refine awp_region tabOk rfl ?_; simp only [prep, pickO, lsA, lsB, lsC, lsD, lsE, lsF, lsG]) | ((with_reducible apply awp_cond); (focus (simp only [St.ev, St.set, upd, Nat.reduceEqDiff, reduceIte, ifA, ifB, u1, f1, f2, em, nmA, Nat.reduceAdd, ifA, ifB]; exact rfl)); all_goals (intro hb; first | (cases hb; done) | ((try rw [hb]); (try simp only [dcA, dcB, dcC, dcD, dcE, Bool.not_eq_true', Bool.not_eq_false'] at hb)))) | fail))
                    refine awp_weaken (s' := ⟨upd bot 8 (.val (.bool true)), h, N6⟩) (Wk.sub (tsd tsd0 rfl) (fun o ob ho => by have := (hcl o _ ho).1; dsimp only; rw [u2 o (by omega), s2 o (by omega), hG o (by omega), hfr2 o (by omega)]; exact ho) rfl) ?_
                    repeat' (first | ((first | with_reducible refine aord_nil ?_ | refine awp_skip ?_ | refine awp_exit ?_ | refine awp_ret ?_); try simp only [rdA, Nat.reduceEqDiff, ifA, ifB, reduceIte]) | fail)
                    exact hQ true N6 ⟨fun _ => can_ask.2 (.inr ⟨i, j, by omega, hj2, hq.2 ⟨List.length_pos_iff.1 hyp, List.length_pos_iff.1 hnp, hv.1 rfl, hw.1 rfl⟩⟩), fun _ => rfl⟩ (by omega)
          · have ej : j = d := by omega
            subst ej


            repeat' (first | refine awp_seq_k fun K hK => ?_ | ((with_reducible refine hK _ ?_); clear hK K) | (clear hK K; (with_reducible refine hK _ ?_); clear hK K) | ((with_reducible refine aord_plain fun K hK => ?_); simp only [go_sem, Nat.reduceAdd, Nat.reduceMul, Nat.reduceEqDiff, Nat.reduceLT, reduceIte, reduceCtorEq, mat.matL]) | refine awp_block ?_ | ((first | with_reducible refine aord_nil ?_ | refine awp_skip ?_ | refine awp_exit ?_ | refine awp_ret ?_); try simp only [rdA, Nat.reduceEqDiff, ifA, ifB, reduceIte]) | (refine awp_region tabOk rfl ?_; simp only [prep, pickO, lsA, lsB, lsC, lsD, lsE, lsF, lsG]) | ((with_reducible apply awp_cond); (focus (simp only [St.ev, St.set, upd, Nat.reduceEqDiff, reduceIte, ifA, ifB]; exact rfl)); all_goals (intro hb; first | (cases hb; done) | ((try rw [hb]); (try simp only [dcA, dcB, dcC, dcD, dcE, Bool.not_eq_true', Bool.not_eq_false'] at hb)))) | ((with_reducible refine And.intro ?_ ?_); (focus omega)) | (exfalso; omega) | fail)
            refine ⟨(G, N, i + 1), ⟨by dsimp only; omega, hNN, hG, fun i' j' h1 h2 h3 => ?_⟩, by dsimp only; omega, Wk.sub (tsd (tsd (tsd (tsd (tsd (tsd tsd0 rfl) rfl) rfl) rfl) rfl) rfl) (fun _ _ h => h) rfl⟩
            rcases Nat.lt_or_ge i' i with c | c
            · exact hno i' j' h1 h2 c
            · obtain rfl : i' = i := by dsimp only at h3; omega
              exact hnj j' h1 h2
        · have ei : i = d := by omega
          subst ei


          repeat' ((fail_if_success (with_reducible refine isRetQ ?_)); (first | refine awp_seq_k fun K hK => ?_ | ((with_reducible refine hK _ ?_); clear hK K) | (clear hK K; (with_reducible refine hK _ ?_); clear hK K) | ((with_reducible refine aord_plain fun K hK => ?_); simp only [go_sem, Nat.reduceAdd, Nat.reduceMul, Nat.reduceEqDiff, Nat.reduceLT, reduceIte, reduceCtorEq, mat.matL]) | refine awp_block ?_ | ((first | with_reducible refine aord_nil ?_ | refine awp_skip ?_ | refine awp_exit ?_ | refine awp_ret ?_); try simp only [rdA, Nat.reduceEqDiff, ifA, ifB, reduceIte]) | (refine awp_region tabOk rfl ?_; simp only [prep, pickO, lsA, lsB, lsC, lsD, lsE, lsF, lsG]) | ((with_reducible apply awp_cond); (focus (simp only [St.ev, St.set, upd, Nat.reduceEqDiff, reduceIte, ifA, ifB]; exact rfl)); all_goals (intro hb; first | (cases hb; done) | ((try rw [hb]); (try simp only [dcA, dcB, dcC, dcD, dcE, Bool.not_eq_true', Bool.not_eq_false'] at hb)))) | ((with_reducible refine And.intro ?_ ?_); (focus omega)) | (exfalso; omega) | fail))
          refine awp_weaken (s' := ⟨upd bot 8 (.val (.bool false)), h, N⟩) (Wk.sub (tsd tsd0 rfl) (fun o ob ho => (hG o (by have := (hcl o _ ho).1; omega)).trans ((hfr2 o (hcl o _ ho).1).trans ho)) rfl) ?_
          repeat' (first | ((first | with_reducible refine aord_nil ?_ | refine awp_skip ?_ | refine awp_exit ?_ | refine awp_ret ?_); try simp only [rdA, Nat.reduceEqDiff, ifA, ifB, reduceIte]) | fail)
          refine hQ false N ⟨fun e => (by cases e), fun e => ?_⟩ (by omega)
          rcases can_ask.1 e with e | ⟨i', j', h1, h2, h3⟩
          · exact (hen e).elim
          · exact (hno i' j' h1 h2 (by omega) h3).elim

theorem leastAsks_sat {d : Nat} (hd : d ≤ 4) (at_ : Int) {en : List (List Int) → Prop} (few : ∀ L, L.length ≤ 1 → en L) (hcan : ∀ m : Nat, SatH Try.prog 78 (fun al h n K0 => ∃ (A : Nat) (b : Bool) (fs : List (Int × Int)), al = [.val (.int .i64 d), .sl A 0 fs.length 2 none, .val (.int .i64 at_), .val (.int .i64 m)] ∧ h A = some ⟨b, .ints .i64 (flF fs)⟩ ∧ itemsIn d fs ∧ fs.length + m ≤ 90 ∧ ∀ (v : Bool) (N : Nat), (v = true ↔ canP en d m (ordF d fs)) → n ≤ N → K0 (.val (.bool v)) h N)) : SatH Try.prog 52 (fun al h n K0 => ∃ (A : Nat) (b : Bool) (fs : List (Int × Int)), al = [.val (.int .i64 d), .sl A 0 fs.length 2 none, .val (.int .i64 at_)] ∧ h A = some ⟨b, .ints .i64 (flF fs)⟩ ∧ itemsIn d fs ∧ fs.length ≤ 60 ∧ ∀ (v N : Nat), IsFew en d (ordF d fs) v → n ≤ N → K0 (.val (.int .i64 v)) h N) := by
  refine satH_intro tabOk Try.func52 rfl 17 rfl [.tmp 6] rfl ?_
  rintro F W h n al K0 ⟨A, b, fs, rfl, hA, hi, hl, hQ⟩
  refine ⟨Nat.le_of_ble_eq_true rfl, fun m0 hm0 hcl hlt => ?_⟩
  simp only [initT]
  have hAn := (hcl A _ hA).1
  have h24 : (ordF d fs).length ≤ 23 + 1 := by
    refine Nat.le_trans (List.length_filter_le _ _) ?_
    rw [ordK_fac (by omega)]
    have : d = 0 ∨ d = 1 ∨ d = 2 ∨ d = 3 ∨ d = 4 := by omega
    rcases this with rfl | rfl | rfl | rfl | rfl <;> decide
  obtain ⟨v, hv23, hv⟩ := few_ex 23 (can_len few 23 (ordF_good (fs := fs) (show d ≤ 5 by omega)) h24)


  repeat' (first | refine awp_seq_k fun K hK => ?_ | ((with_reducible refine hK _ ?_); clear hK K) | ((with_reducible refine aord_plain fun K hK => ?_); simp only [go_sem, Nat.reduceAdd, Nat.reduceMul, Nat.reduceEqDiff, Nat.reduceLT, reduceIte, reduceCtorEq, hA, nmA, Nat.reduceAdd, ifA, ifB, hA]) | refine awp_block ?_ | ((first | with_reducible refine aord_nil ?_ | refine awp_skip ?_ | refine awp_exit ?_ | refine awp_ret ?_); try simp only [rdA, Nat.reduceEqDiff, ifA, ifB, reduceIte]) | (refine awp_region tabOk rfl ?_; simp only [prep, pickO, lsA, lsB, lsC, lsD, lsE, lsF, lsG]) | fail)
  refine awp_loop (fun q : Nat × Nat => ⟨upd (upd (upd (upd bot 7 (.val (.int .i64 q.2))) 2 (.val (.int .i64 at_))) 1 (.sl A 0 fs.length 2 none)) 0 (.val (.int .i64 d)), h, q.1⟩) (fun q => n ≤ q.1 ∧ q.2 ≤ v) (fun q => v - q.2) (n, 0) ⟨Nat.le_refl _, Nat.zero_le _⟩ ?_ ?_
  · exact Wk.sub (tsd (tsd (tsd (tsd tsd0 rfl) rfl) rfl) rfl) (fun _ _ h => h) rfl
  rintro ⟨N, k⟩ ⟨hnN, hkv⟩
  dsimp only at hnN hkv ⊢
  have hck := hcan k


  repeat' (first | refine awp_seq_k fun K hK => ?_ | ((with_reducible refine hK _ ?_); clear hK K) | ((with_reducible refine aord_plain fun K hK => ?_); simp only [go_sem, Nat.reduceAdd, Nat.reduceMul, Nat.reduceEqDiff, Nat.reduceLT, reduceIte, reduceCtorEq, hA, nmA, Nat.reduceAdd, ifA, ifB, hA]) | (refine awp_region tabOk rfl ?_; simp only [prep, pickO, lsA, lsB, lsC, lsD, lsE, lsF, lsG]) | ((with_reducible refine And.intro (?_ : enters Try.prog 78) ?_); (focus exact Try.call78); (refine callX_satH hck ?_); simp only [go_sem, and_assoc, List.nil_append, List.append_nil, List.cons_append, Nat.reduceEqDiff, reduceIte, reduceCtorEq, hA, nmA, Nat.reduceAdd, ifA, ifB, hA]) | fail)
  refine ⟨b, fs, rfl, rfl, rfl, hi, by omega, fun w N2 hw hN2 => ?_⟩
  rw [hv k] at hw
  cases w with
  | true =>
    have h1 := hw.1 rfl


    repeat' (first | refine awp_seq_k fun K hK => ?_ | ((with_reducible refine hK _ ?_); clear hK K) | (clear hK K; (with_reducible refine hK _ ?_); clear hK K) | ((with_reducible refine aord_plain fun K hK => ?_); simp only [go_sem, Nat.reduceAdd, Nat.reduceMul, Nat.reduceEqDiff, Nat.reduceLT, reduceIte, reduceCtorEq, hA, nmA, Nat.reduceAdd, ifA, ifB, hA]) | ((first | with_reducible refine aord_nil ?_ | refine awp_skip ?_ | refine awp_exit ?_ | refine awp_ret ?_); try simp only [rdA, Nat.reduceEqDiff, ifA, ifB, reduceIte]) | (refine awp_region tabOk rfl ?_; simp only [prep, pickO, lsA, lsB, lsC, lsD, lsE, lsF, lsG]) | ((with_reducible apply awp_cond); (focus (simp only [St.ev, St.set, upd, Nat.reduceEqDiff, reduceIte, ifA, ifB, hA, nmA, Nat.reduceAdd, ifA, ifB]; exact rfl)); all_goals (intro hb; first | (cases hb; done) | ((try rw [hb]); (try simp only [dcA, dcB, dcC, dcD, dcE, Bool.not_eq_true', Bool.not_eq_false'] at hb)))) | fail)
    have ek : k = v := by omega
    subst ek
    exact hQ k N2 hv (by omega)
  | false =>
    have h1 : k < v := by
      rcases Nat.lt_or_ge k v with c | c
      · exact c
      · have := hw.2 c; cases this


    repeat' (first | ((with_reducible refine hK _ ?_); clear hK K) | ((with_reducible refine aord_plain fun K hK => ?_); simp only [go_sem, Nat.reduceAdd, Nat.reduceMul, Nat.reduceEqDiff, Nat.reduceLT, reduceIte, reduceCtorEq, hA, nmA, Nat.reduceAdd, ifA, ifB, hA]) | refine awp_block ?_ | ((first | with_reducible refine aord_nil ?_ | refine awp_skip ?_ | refine awp_exit ?_ | refine awp_ret ?_); try simp only [rdA, Nat.reduceEqDiff, ifA, ifB, reduceIte]) | (refine awp_region tabOk rfl ?_; simp only [prep, pickO, lsA, lsB, lsC, lsD, lsE, lsF, lsG]) | ((with_reducible apply awp_cond); (focus (simp only [St.ev, St.set, upd, Nat.reduceEqDiff, reduceIte, ifA, ifB, hA, nmA, Nat.reduceAdd, ifA, ifB]; exact rfl)); all_goals (intro hb; first | (cases hb; done) | ((try rw [hb]); (try simp only [dcA, dcB, dcC, dcD, dcE, Bool.not_eq_true', Bool.not_eq_false'] at hb)))) | ((with_reducible refine And.intro ?_ ?_); (focus omega)) | fail)
    exact ⟨(N2, k + 1), ⟨by dsimp only; omega, by dsimp only; omega⟩, by dsimp only; omega, Wk.sub (tsd (tsd (tsd (tsd tsd0 rfl) rfl) rfl) rfl) (fun _ _ h => h) rfl⟩


theorem hkd_L {d : Nat} : SatH Try.prog 94 (fun al h n K => ∃ (O : Nat) (f : Nat → Nat) (xss : List (List Int)), al = [.sl O 0 xss.length 1 none, .val (.int .i64 (-1))] ∧ RowsOf h n O f xss ∧ GoodL d xss ∧ xss.length ≤ 120 ∧ K (.val (.int .i64 ((xss.length : Nat) : Int))) h n) := by
  rintro F W h n al K ⟨O, f, xss, rfl, hR, hg, hc, hQ⟩
  exact kindsL_sat F W h n _ K ⟨O, xss, rfl, by omega, hQ⟩
theorem hkd_K {d kk : Nat} (hd : d ≤ 5) (hkk : kk < d) : SatH Try.prog 94 (fun al h n K => ∃ (O : Nat) (f : Nat → Nat) (xss : List (List Int)), al = [.sl O 0 xss.length 1 none, .val (.int .i64 (kk : Int))] ∧ RowsOf h n O f xss ∧ GoodL d xss ∧ xss.length ≤ 120 ∧ K (.val (.int .i64 ((kdK kk xss : Nat) : Int))) h n) := by
  rintro F W h n al K ⟨O, f, xss, rfl, hR, hg, hc, hQ⟩
  refine kindsK_sat F W h n _ K ⟨O, kk, f, xss, rfl, hR, fun j hj => ?_, by omega, hQ⟩
  obtain ⟨h1, h2, h3⟩ := hg.row hj
  have h4 := h3.at (i := kk) (by omega)
  omega


theorem known_few {d : Nat} {fs : List (Int × Int)} (h : VF d fs) : ordF d (knO d fs) = orO d fs ∧ itemsIn d (knO d fs) := by
  refine ⟨?_, by have := (VF_knO h).2.2.1; rwa [Int.toNat_natCast] at this⟩
  rw [← orO_knO h, orO_ag (VF_knO h)]; rfl
theorem specLeastAsks_sat : SatH Try.prog 18 (fun al h n K => ∃ (z : Int) (A : Nat) (b : Bool) (fs : List (Int × Int)), al = [.val (.int .i64 (z)), .sl A 0 fs.length 2 none] ∧ (h A = some ⟨b, .ints .i64 (flF fs)⟩) ∧ (fs.length ≤ 1099511627776) ∧ ∀ N : Nat, n ≤ N → K (.val (.int .i64 ((leA z fs)))) (h) (N)) := by
  refine satH_intro tabOk Try.func18 rfl 18 rfl [.tmp 4] rfl ?_
  rintro F W h n al K0 ⟨z, A, b, fs, rfl, hA, hl, hQ⟩
  refine ⟨Nat.le_of_ble_eq_true rfl, fun m0 hm0 hcl hlt => ?_⟩
  simp only [initT]
  have hAn := (hcl A _ hA).1


  repeat' ((fail_if_success (with_reducible refine isRetQ ?_)); (first | refine awp_seq_k fun K hK => ?_ | ((with_reducible refine hK _ ?_); clear hK K) | ((with_reducible refine aord_plain fun K hK => ?_); simp only [go_sem, Nat.reduceAdd, Nat.reduceMul, Nat.reduceEqDiff, Nat.reduceLT, reduceIte, reduceCtorEq, hA, nmA, Nat.reduceAdd, ifA, ifB, hA]) | ((first | with_reducible refine aord_nil ?_ | refine awp_skip ?_ | refine awp_exit ?_ | refine awp_ret ?_); try simp only [rdA, Nat.reduceEqDiff, ifA, ifB, reduceIte]) | (refine awp_region tabOk rfl ?_; simp only [prep, pickO, lsA, lsB, lsC, lsD, lsE, lsF, lsG]) | ((with_reducible refine And.intro (?_ : enters Try.prog 44) ?_); (focus exact Try.call44); (refine callX_satH specvalidFacts_sat ?_); simp only [go_sem, and_assoc, List.nil_append, List.append_nil, List.cons_append, Nat.reduceEqDiff, reduceIte, reduceCtorEq, hA, nmA, Nat.reduceAdd, ifA, ifB, hA]) | fail))
  refine ⟨b, fs, rfl, rfl, rfl, hl, fun v N hv hN => ?_⟩
  cases v with
  | false =>
    rw [leA_no (fun h => by have := hv.2 h.1; cases this)] at hQ


    repeat' (first | refine awp_seq_k fun K hK => ?_ | ((with_reducible refine hK _ ?_); clear hK K) | ((with_reducible refine aord_plain fun K hK => ?_); simp only [go_sem, Nat.reduceAdd, Nat.reduceMul, Nat.reduceEqDiff, Nat.reduceLT, reduceIte, reduceCtorEq, hA, nmA, Nat.reduceAdd, ifA, ifB, hA]) | ((with_reducible apply aord_guard); (focus (simp only [St.ev, St.set, upd, Nat.reduceEqDiff, reduceIte, ifA, ifB, hA, nmA, Nat.reduceAdd, ifA, ifB]; exact rfl)); all_goals (intro hb; (try simp only [Bool.not_true, Bool.not_false] at hb); first | (cases hb; done) | ((try rw [hb]); (try simp only [Bool.not_eq_true', Bool.not_eq_false', Bool.and_eq_true, dcA, dcB, dcC, dcD, dcE] at hb); (try (revert hb; with_reducible refine true_imp_iff.2 ?_)); first | (intro K hK; simp only [go_sem, Nat.reduceAdd, Nat.reduceMul, Nat.reduceEqDiff, Nat.reduceLT, reduceIte, reduceCtorEq, hA, nmA, Nat.reduceAdd, ifA, ifB]) | (simp only [St.ev, St.set, upd, Nat.reduceEqDiff, reduceIte, ifA, ifB, hA, nmA, Nat.reduceAdd, ifA, ifB]) | skip))) | ((first | with_reducible refine aord_nil ?_ | refine awp_skip ?_ | refine awp_exit ?_ | refine awp_ret ?_); try simp only [rdA, Nat.reduceEqDiff, ifA, ifB, reduceIte]) | (refine awp_region tabOk rfl ?_; simp only [prep, pickO, lsA, lsB, lsC, lsD, lsE, lsF, lsG]) | ((with_reducible apply awp_cond); (focus (simp only [St.ev, St.set, upd, Nat.reduceEqDiff, reduceIte, ifA, ifB, hA, nmA, Nat.reduceAdd, ifA, ifB]; exact rfl)); all_goals (intro hb; first | (cases hb; done) | ((try rw [hb]); (try simp only [dcA, dcB, dcC, dcD, dcE, Bool.not_eq_true', Bool.not_eq_false'] at hb)))) | (simp only [doneH]; simp only [ressK, resK, wrapR, go_sem, Nat.reduceAdd, Nat.reduceMul, Nat.reduceEqDiff, Nat.reduceLT, reduceIte, reduceCtorEq, hA, nmA, Nat.reduceAdd, ifA, ifB]) | fail)
    exact hQ N hN
  | true =>
    have hV := hv.1 rfl
    rcases Int.lt_or_le 4 z with h4 | h4
    · have e1 : decide (z > 4) = true := decide_eq_true h4
      rw [leA_no (fun h => by omega)] at hQ


      repeat' (first | refine awp_seq_k fun K hK => ?_ | ((with_reducible refine hK _ ?_); clear hK K) | ((with_reducible refine aord_plain fun K hK => ?_); simp only [go_sem, Nat.reduceAdd, Nat.reduceMul, Nat.reduceEqDiff, Nat.reduceLT, reduceIte, reduceCtorEq, hA, e1, nmA, Nat.reduceAdd, ifA, ifB, hA, e1]) | ((with_reducible apply aord_guard); (focus (simp only [St.ev, St.set, upd, Nat.reduceEqDiff, reduceIte, ifA, ifB, hA, e1, nmA, Nat.reduceAdd, ifA, ifB]; exact rfl)); all_goals (intro hb; (try simp only [Bool.not_true, Bool.not_false] at hb); first | (cases hb; done) | ((try rw [hb]); (try simp only [Bool.not_eq_true', Bool.not_eq_false', Bool.and_eq_true, dcA, dcB, dcC, dcD, dcE] at hb); (try (revert hb; with_reducible refine true_imp_iff.2 ?_)); first | (intro K hK; simp only [go_sem, Nat.reduceAdd, Nat.reduceMul, Nat.reduceEqDiff, Nat.reduceLT, reduceIte, reduceCtorEq, hA, e1, nmA, Nat.reduceAdd, ifA, ifB]) | (simp only [St.ev, St.set, upd, Nat.reduceEqDiff, reduceIte, ifA, ifB, hA, e1, nmA, Nat.reduceAdd, ifA, ifB]) | skip))) | ((first | with_reducible refine aord_nil ?_ | refine awp_skip ?_ | refine awp_exit ?_ | refine awp_ret ?_); try simp only [rdA, Nat.reduceEqDiff, ifA, ifB, reduceIte]) | (refine awp_region tabOk rfl ?_; simp only [prep, pickO, lsA, lsB, lsC, lsD, lsE, lsF, lsG]) | ((with_reducible apply awp_cond); (focus (simp only [St.ev, St.set, upd, Nat.reduceEqDiff, reduceIte, ifA, ifB, hA, e1, nmA, Nat.reduceAdd, ifA, ifB]; exact rfl)); all_goals (intro hb; first | (cases hb; done) | ((try rw [hb]); (try simp only [dcA, dcB, dcC, dcD, dcE, Bool.not_eq_true', Bool.not_eq_false'] at hb)))) | (simp only [doneH]; simp only [ressK, resK, wrapR, go_sem, Nat.reduceAdd, Nat.reduceMul, Nat.reduceEqDiff, Nat.reduceLT, reduceIte, reduceCtorEq, hA, e1, nmA, Nat.reduceAdd, ifA, ifB]) | fail)
      exact hQ N hN
    · have e1 : decide (z > 4) = false := decide_eq_false (by omega)
      obtain ⟨d, rfl⟩ : ∃ d : Nat, z = d := ⟨z.toNat, by have := hV.1; omega⟩
      have hi : itemsIn d fs := by have := hV.2.2.1; rwa [Int.toNat_natCast] at this
      have h20 := hV.2.1
      have hk30 := knO_len (d : Int) fs
      have eK := knO_yes hV
      obtain ⟨eO, hi2⟩ := known_few hV
      have hle := leastAsks_sat (d := d) (by omega) (-1) enL_few (canAsk_sat (by omega) (-1) kinds_L (fun L h => h) hkd_L)


      repeat' (first | refine awp_seq_k fun K hK => ?_ | ((with_reducible refine hK _ ?_); clear hK K) | ((with_reducible refine aord_plain fun K hK => ?_); simp only [go_sem, Nat.reduceAdd, Nat.reduceMul, Nat.reduceEqDiff, Nat.reduceLT, reduceIte, reduceCtorEq, hA, e1, nmA, Nat.reduceAdd, ifA, ifB, hA, e1]) | ((with_reducible apply aord_guard); (focus (simp only [St.ev, St.set, upd, Nat.reduceEqDiff, reduceIte, ifA, ifB, hA, e1, nmA, Nat.reduceAdd, ifA, ifB]; exact rfl)); all_goals (intro hb; (try simp only [Bool.not_true, Bool.not_false] at hb); first | (cases hb; done) | ((try rw [hb]); (try simp only [Bool.not_eq_true', Bool.not_eq_false', Bool.and_eq_true, dcA, dcB, dcC, dcD, dcE] at hb); (try (revert hb; with_reducible refine true_imp_iff.2 ?_)); first | (intro K hK; simp only [go_sem, Nat.reduceAdd, Nat.reduceMul, Nat.reduceEqDiff, Nat.reduceLT, reduceIte, reduceCtorEq, hA, e1, nmA, Nat.reduceAdd, ifA, ifB]) | (simp only [St.ev, St.set, upd, Nat.reduceEqDiff, reduceIte, ifA, ifB, hA, e1, nmA, Nat.reduceAdd, ifA, ifB]) | skip))) | ((first | with_reducible refine aord_nil ?_ | refine awp_skip ?_ | refine awp_exit ?_ | refine awp_ret ?_); try simp only [rdA, Nat.reduceEqDiff, ifA, ifB, reduceIte]) | (refine awp_region tabOk rfl ?_; simp only [prep, pickO, lsA, lsB, lsC, lsD, lsE, lsF, lsG]) | ((with_reducible apply awp_cond); (focus (simp only [St.ev, St.set, upd, Nat.reduceEqDiff, reduceIte, ifA, ifB, hA, e1, nmA, Nat.reduceAdd, ifA, ifB]; exact rfl)); all_goals (intro hb; first | (cases hb; done) | ((try rw [hb]); (try simp only [dcA, dcB, dcC, dcD, dcE, Bool.not_eq_true', Bool.not_eq_false'] at hb)))) | ((with_reducible refine And.intro (?_ : enters Try.prog 53) ?_); (focus exact Try.call53); (refine callX_satH specknown_sat ?_); simp only [go_sem, and_assoc, List.nil_append, List.append_nil, List.cons_append, Nat.reduceEqDiff, reduceIte, reduceCtorEq, hA, e1, nmA, Nat.reduceAdd, ifA, ifB, hA, e1]) | fail)
      refine ⟨d, rfl, b, fs, rfl, rfl, rfl, by omega, by omega, hi, fun H1 N1 O1 w1 w2 w3 => ?_⟩
      rw [← eK] at w1 ⊢


      repeat' (first | ((with_reducible refine hK _ ?_); clear hK K) | ((with_reducible refine aord_plain fun K hK => ?_); simp only [go_sem, Nat.reduceAdd, Nat.reduceMul, Nat.reduceEqDiff, Nat.reduceLT, reduceIte, reduceCtorEq, w1, nmA, Nat.reduceAdd, ifA, ifB, w1]) | ((with_reducible refine And.intro (?_ : enters Try.prog 52) ?_); (focus exact Try.call52); (refine callX_satH hle ?_); simp only [go_sem, and_assoc, List.nil_append, List.append_nil, List.cons_append, Nat.reduceEqDiff, reduceIte, reduceCtorEq, w1, nmA, Nat.reduceAdd, ifA, ifB, w1]) | fail)
      refine ⟨true, knO d fs, rfl, rfl, rfl, hi2, by omega, fun w N2 hw hN2 => ?_⟩
      rw [eO] at hw
      rw [leA_yes hV (by omega), few_eq hw] at hQ
      repeat' ((fail_if_success (with_reducible refine isRetQ ?_)); (first | ((with_reducible refine hK _ ?_); clear hK K) | ((with_reducible refine aord_plain fun K hK => ?_); simp only [go_sem, Nat.reduceAdd, Nat.reduceMul, Nat.reduceEqDiff, Nat.reduceLT, reduceIte, reduceCtorEq, w1, nmA, Nat.reduceAdd, ifA, ifB, w1]) | ((first | with_reducible refine aord_nil ?_ | refine awp_skip ?_ | refine awp_exit ?_ | refine awp_ret ?_); try simp only [rdA, Nat.reduceEqDiff, ifA, ifB, reduceIte]) | fail))
      refine awp_weaken (s' := ⟨upd bot 4 (.val (.int .i64 w)), h, N2⟩) (Wk.sub (tsd tsd0 rfl) (fun o ob ho => by have := (hcl o _ ho).1; dsimp only; rw [w2 o (by omega)]; exact ho) rfl) ?_
      repeat' (first | ((first | with_reducible refine aord_nil ?_ | refine awp_skip ?_ | refine awp_exit ?_ | refine awp_ret ?_); try simp only [rdA, Nat.reduceEqDiff, ifA, ifB, reduceIte]) | (simp only [doneH]; simp only [ressK, resK, wrapR, go_sem, Nat.reduceAdd, Nat.reduceMul, Nat.reduceEqDiff, Nat.reduceLT, reduceIte, reduceCtorEq, w1, nmA, Nat.reduceAdd, ifA, ifB]) | fail)
      exact hQ N2 (by omega)


theorem specPickAsks_sat : SatH Try.prog 24 (fun al h n K => ∃ (z : Int) (A : Nat) (b : Bool) (fs : List (Int × Int)) (k : Int), al = [.val (.int .i64 (z)), .sl A 0 fs.length 2 none, .val (.int .i64 (k))] ∧ (h A = some ⟨b, .ints .i64 (flF fs)⟩) ∧ (fs.length ≤ 1099511627776) ∧ ∀ N : Nat, n ≤ N → K (.val (.int .i64 ((piA z fs k)))) (h) (N)) := by
  refine satH_intro tabOk Try.func24 rfl 29 rfl [.tmp 6] rfl ?_
  rintro F W h n al K0 ⟨z, A, b, fs, k, rfl, hA, hl, hQ⟩
  refine ⟨Nat.le_of_ble_eq_true rfl, fun m0 hm0 hcl hlt => ?_⟩
  simp only [initT]
  have hAn := (hcl A _ hA).1
  obtain ⟨b2, e2⟩ : ∃ b2, (decide (1 ≤ z) && decide (z ≤ 4)) = b2 := ⟨_, rfl⟩
  obtain ⟨b3, e3⟩ : ∃ b3, (decide (0 ≤ k) && decide (k ≤ z - 1)) = b3 := ⟨_, rfl⟩


  repeat' ((fail_if_success (with_reducible refine isRetQ ?_)); (first | refine awp_seq_k fun K hK => ?_ | ((with_reducible refine hK _ ?_); clear hK K) | ((with_reducible refine aord_plain fun K hK => ?_); simp only [go_sem, Nat.reduceAdd, Nat.reduceMul, Nat.reduceEqDiff, Nat.reduceLT, reduceIte, reduceCtorEq, hA, nmA, Nat.reduceAdd, ifA, ifB, hA]) | ((first | with_reducible refine aord_nil ?_ | refine awp_skip ?_ | refine awp_exit ?_ | refine awp_ret ?_); try simp only [rdA, Nat.reduceEqDiff, ifA, ifB, reduceIte]) | (refine awp_region tabOk rfl ?_; simp only [prep, pickO, lsA, lsB, lsC, lsD, lsE, lsF, lsG]) | ((with_reducible refine And.intro (?_ : enters Try.prog 44) ?_); (focus exact Try.call44); (refine callX_satH specvalidFacts_sat ?_); simp only [go_sem, and_assoc, List.nil_append, List.append_nil, List.cons_append, Nat.reduceEqDiff, reduceIte, reduceCtorEq, hA, nmA, Nat.reduceAdd, ifA, ifB, hA]) | fail))
  refine ⟨b, fs, rfl, rfl, rfl, hl, fun v N hv hN => ?_⟩
  by_cases hgood : v = true ∧ b2 = true ∧ b3 = true
  · obtain ⟨rfl, rfl, rfl⟩ := hgood
    have hV := hv.1 rfl
    have g2 := e2
    have g3 := e3
    rw [Bool.and_eq_true, decide_eq_true_eq, decide_eq_true_eq] at g2 g3
    obtain ⟨d, rfl⟩ : ∃ d : Nat, z = d := ⟨z.toNat, by have := hV.1; omega⟩
    obtain ⟨kk, rfl⟩ : ∃ kk : Nat, k = kk := ⟨k.toNat, by omega⟩
    have hkd : kk < d := by omega
    have hi : itemsIn d fs := by have := hV.2.2.1; rwa [Int.toNat_natCast] at this
    have h20 := hV.2.1
    have hk30 := knO_len (d : Int) fs
    have eK := knO_yes hV
    obtain ⟨eO, hi2⟩ := known_few hV
    have hle := leastAsks_sat (d := d) (by omega) (kk : Int) (enK_few (k := kk)) (canAsk_sat (by omega) (kk : Int) (kinds_K (by omega) hkd) (fun L _ => by have := (seen_le kk L).2; omega) (hkd_K (by omega) hkd))


    repeat' (first | refine awp_seq_k fun K hK => ?_ | ((with_reducible refine hK _ ?_); clear hK K) | ((with_reducible refine aord_plain fun K hK => ?_); simp only [go_sem, Nat.reduceAdd, Nat.reduceMul, Nat.reduceEqDiff, Nat.reduceLT, reduceIte, reduceCtorEq, hA, e2, e3, nmA, Nat.reduceAdd, ifA, ifB, hA, e2, e3]) | ((with_reducible apply aord_guard); (focus (simp only [St.ev, St.set, upd, Nat.reduceEqDiff, reduceIte, ifA, ifB, hA, e2, e3, nmA, Nat.reduceAdd, ifA, ifB]; exact rfl)); all_goals (intro hb; (try simp only [Bool.not_true, Bool.not_false] at hb); first | (cases hb; done) | ((try rw [hb]); (try simp only [Bool.not_eq_true', Bool.not_eq_false', Bool.and_eq_true, dcA, dcB, dcC, dcD, dcE] at hb); (try (revert hb; with_reducible refine true_imp_iff.2 ?_)); first | (intro K hK; simp only [go_sem, Nat.reduceAdd, Nat.reduceMul, Nat.reduceEqDiff, Nat.reduceLT, reduceIte, reduceCtorEq, hA, e2, e3, nmA, Nat.reduceAdd, ifA, ifB]) | (simp only [St.ev, St.set, upd, Nat.reduceEqDiff, reduceIte, ifA, ifB, hA, e2, e3, nmA, Nat.reduceAdd, ifA, ifB]) | skip))) | ((first | with_reducible refine aord_nil ?_ | refine awp_skip ?_ | refine awp_exit ?_ | refine awp_ret ?_); try simp only [rdA, Nat.reduceEqDiff, ifA, ifB, reduceIte]) | (refine awp_region tabOk rfl ?_; simp only [prep, pickO, lsA, lsB, lsC, lsD, lsE, lsF, lsG]) | ((with_reducible apply awp_cond); (focus (simp only [St.ev, St.set, upd, Nat.reduceEqDiff, reduceIte, ifA, ifB, hA, e2, e3, nmA, Nat.reduceAdd, ifA, ifB]; exact rfl)); all_goals (intro hb; first | (cases hb; done) | ((try rw [hb]); (try simp only [dcA, dcB, dcC, dcD, dcE, Bool.not_eq_true', Bool.not_eq_false'] at hb)))) | ((with_reducible refine And.intro ?_ ?_); (focus omega)) | ((with_reducible refine And.intro (?_ : enters Try.prog 65) ?_); (focus exact Try.call65); (refine callX_sat inRange_sat ?_); simp only [go_sem, and_assoc, List.nil_append, List.append_nil, List.cons_append, Nat.reduceEqDiff, reduceIte, reduceCtorEq, hA, e2, e3, nmA, Nat.reduceAdd, ifA, ifB, hA, e2, e3]) | ((with_reducible refine And.intro (?_ : enters Try.prog 53) ?_); (focus exact Try.call53); (refine callX_satH specknown_sat ?_); simp only [go_sem, and_assoc, List.nil_append, List.append_nil, List.cons_append, Nat.reduceEqDiff, reduceIte, reduceCtorEq, hA, e2, e3, nmA, Nat.reduceAdd, ifA, ifB, hA, e2, e3]) | fail)
    refine ⟨d, rfl, b, fs, rfl, rfl, rfl, by omega, by omega, hi, fun H1 N1 O1 w1 w2 w3 => ?_⟩
    rw [← eK] at w1 ⊢


    repeat' (first | ((with_reducible refine hK _ ?_); clear hK K) | ((with_reducible refine aord_plain fun K hK => ?_); simp only [go_sem, Nat.reduceAdd, Nat.reduceMul, Nat.reduceEqDiff, Nat.reduceLT, reduceIte, reduceCtorEq, w1, nmA, Nat.reduceAdd, ifA, ifB, w1]) | ((with_reducible refine And.intro (?_ : enters Try.prog 52) ?_); (focus exact Try.call52); (refine callX_satH hle ?_); simp only [go_sem, and_assoc, List.nil_append, List.append_nil, List.cons_append, Nat.reduceEqDiff, reduceIte, reduceCtorEq, w1, nmA, Nat.reduceAdd, ifA, ifB, w1]) | fail)
    refine ⟨true, knO d fs, rfl, rfl, rfl, hi2, by omega, fun w N2 hw hN2 => ?_⟩
    rw [eO] at hw
    rw [piA_yes hV (by omega) hkd, few_eq hw] at hQ
    repeat' ((fail_if_success (with_reducible refine isRetQ ?_)); (first | ((with_reducible refine hK _ ?_); clear hK K) | ((with_reducible refine aord_plain fun K hK => ?_); simp only [go_sem, Nat.reduceAdd, Nat.reduceMul, Nat.reduceEqDiff, Nat.reduceLT, reduceIte, reduceCtorEq, w1, nmA, Nat.reduceAdd, ifA, ifB, w1]) | ((first | with_reducible refine aord_nil ?_ | refine awp_skip ?_ | refine awp_exit ?_ | refine awp_ret ?_); try simp only [rdA, Nat.reduceEqDiff, ifA, ifB, reduceIte]) | fail))
    refine awp_weaken (s' := ⟨upd bot 6 (.val (.int .i64 w)), h, N2⟩) (Wk.sub (tsd tsd0 rfl) (fun o ob ho => by have := (hcl o _ ho).1; dsimp only; rw [w2 o (by omega)]; exact ho) rfl) ?_
    repeat' (first | ((first | with_reducible refine aord_nil ?_ | refine awp_skip ?_ | refine awp_exit ?_ | refine awp_ret ?_); try simp only [rdA, Nat.reduceEqDiff, ifA, ifB, reduceIte]) | (simp only [doneH]; simp only [ressK, resK, wrapR, go_sem, Nat.reduceAdd, Nat.reduceMul, Nat.reduceEqDiff, Nat.reduceLT, reduceIte, reduceCtorEq, w1, nmA, Nat.reduceAdd, ifA, ifB]) | fail)
    exact hQ N2 (by omega)
  · rw [piA_no (fun h => hgood ⟨hv.2 h.1, by rw [← e2, decide_eq_true (by omega), decide_eq_true (by omega)]; rfl, by rw [← e3, decide_eq_true (by omega), decide_eq_true (by omega)]; rfl⟩)] at hQ
    cases v with
    | false =>


      repeat' (first | refine awp_seq_k fun K hK => ?_ | ((with_reducible refine hK _ ?_); clear hK K) | ((with_reducible refine aord_plain fun K hK => ?_); simp only [go_sem, Nat.reduceAdd, Nat.reduceMul, Nat.reduceEqDiff, Nat.reduceLT, reduceIte, reduceCtorEq, hA, nmA, Nat.reduceAdd, ifA, ifB, hA]) | ((with_reducible apply aord_guard); (focus (simp only [St.ev, St.set, upd, Nat.reduceEqDiff, reduceIte, ifA, ifB, hA, nmA, Nat.reduceAdd, ifA, ifB]; exact rfl)); all_goals (intro hb; (try simp only [Bool.not_true, Bool.not_false] at hb); first | (cases hb; done) | ((try rw [hb]); (try simp only [Bool.not_eq_true', Bool.not_eq_false', Bool.and_eq_true, dcA, dcB, dcC, dcD, dcE] at hb); (try (revert hb; with_reducible refine true_imp_iff.2 ?_)); first | (intro K hK; simp only [go_sem, Nat.reduceAdd, Nat.reduceMul, Nat.reduceEqDiff, Nat.reduceLT, reduceIte, reduceCtorEq, hA, nmA, Nat.reduceAdd, ifA, ifB]) | (simp only [St.ev, St.set, upd, Nat.reduceEqDiff, reduceIte, ifA, ifB, hA, nmA, Nat.reduceAdd, ifA, ifB]) | skip))) | ((first | with_reducible refine aord_nil ?_ | refine awp_skip ?_ | refine awp_exit ?_ | refine awp_ret ?_); try simp only [rdA, Nat.reduceEqDiff, ifA, ifB, reduceIte]) | (refine awp_region tabOk rfl ?_; simp only [prep, pickO, lsA, lsB, lsC, lsD, lsE, lsF, lsG]) | ((with_reducible apply awp_cond); (focus (simp only [St.ev, St.set, upd, Nat.reduceEqDiff, reduceIte, ifA, ifB, hA, nmA, Nat.reduceAdd, ifA, ifB]; exact rfl)); all_goals (intro hb; first | (cases hb; done) | ((try rw [hb]); (try simp only [dcA, dcB, dcC, dcD, dcE, Bool.not_eq_true', Bool.not_eq_false'] at hb)))) | (simp only [doneH]; simp only [ressK, resK, wrapR, go_sem, Nat.reduceAdd, Nat.reduceMul, Nat.reduceEqDiff, Nat.reduceLT, reduceIte, reduceCtorEq, hA, nmA, Nat.reduceAdd, ifA, ifB]) | fail)
      exact hQ N hN
    | true =>
      have hzb := (hv.1 rfl).1
      cases b2 <;> cases b3
      all_goals try (exact absurd ⟨rfl, rfl, rfl⟩ hgood)
      all_goals (


        repeat' (first | refine awp_seq_k fun K hK => ?_ | ((with_reducible refine hK _ ?_); clear hK K) | ((with_reducible refine aord_plain fun K hK => ?_); simp only [go_sem, Nat.reduceAdd, Nat.reduceMul, Nat.reduceEqDiff, Nat.reduceLT, reduceIte, reduceCtorEq, hA, e2, e3, nmA, Nat.reduceAdd, ifA, ifB, hA, e2, e3]) | ((with_reducible apply aord_guard); (focus (simp only [St.ev, St.set, upd, Nat.reduceEqDiff, reduceIte, ifA, ifB, hA, e2, e3, nmA, Nat.reduceAdd, ifA, ifB]; exact rfl)); all_goals (intro hb; (try simp only [Bool.not_true, Bool.not_false] at hb); first | (cases hb; done) | ((try rw [hb]); (try simp only [Bool.not_eq_true', Bool.not_eq_false', Bool.and_eq_true, dcA, dcB, dcC, dcD, dcE] at hb); (try (revert hb; with_reducible refine true_imp_iff.2 ?_)); first | (intro K hK; simp only [go_sem, Nat.reduceAdd, Nat.reduceMul, Nat.reduceEqDiff, Nat.reduceLT, reduceIte, reduceCtorEq, hA, e2, e3, nmA, Nat.reduceAdd, ifA, ifB]) | (simp only [St.ev, St.set, upd, Nat.reduceEqDiff, reduceIte, ifA, ifB, hA, e2, e3, nmA, Nat.reduceAdd, ifA, ifB]) | skip))) | ((first | with_reducible refine aord_nil ?_ | refine awp_skip ?_ | refine awp_exit ?_ | refine awp_ret ?_); try simp only [rdA, Nat.reduceEqDiff, ifA, ifB, reduceIte]) | (refine awp_region tabOk rfl ?_; simp only [prep, pickO, lsA, lsB, lsC, lsD, lsE, lsF, lsG]) | ((with_reducible apply awp_cond); (focus (simp only [St.ev, St.set, upd, Nat.reduceEqDiff, reduceIte, ifA, ifB, hA, e2, e3, nmA, Nat.reduceAdd, ifA, ifB]; exact rfl)); all_goals (intro hb; first | (cases hb; done) | ((try rw [hb]); (try simp only [dcA, dcB, dcC, dcD, dcE, Bool.not_eq_true', Bool.not_eq_false'] at hb)))) | ((with_reducible refine And.intro ?_ ?_); (focus omega)) | ((with_reducible refine And.intro (?_ : enters Try.prog 65) ?_); (focus exact Try.call65); (refine callX_sat inRange_sat ?_); simp only [go_sem, and_assoc, List.nil_append, List.append_nil, List.cons_append, Nat.reduceEqDiff, reduceIte, reduceCtorEq, hA, e2, e3, nmA, Nat.reduceAdd, ifA, ifB, hA, e2, e3]) | (simp only [doneH]; simp only [ressK, resK, wrapR, go_sem, Nat.reduceAdd, Nat.reduceMul, Nat.reduceEqDiff, Nat.reduceLT, reduceIte, reduceCtorEq, hA, e2, e3, nmA, Nat.reduceAdd, ifA, ifB]) | fail))
      all_goals exact hQ N hN

/-! What holds of the fewest questions. -/
/-- Orders that are those of another list, perhaps turned round, need no more questions. -/
theorem can_map {d : Nat} {en en' : List (List Int) → Prop} (φ : List Int → List Int) (sw : Bool) (hφ : ∀ p : List Int, Beg d p → p.length = d → ∀ i j : Nat, i < j → j < d → agB [((i : Int), (j : Int))] (φ p) = (if sw then agB [((j : Int), (i : Int))] p else agB [((i : Int), (j : Int))] p) ∧ agB [((j : Int), (i : Int))] (φ p) = (if sw then agB [((i : Int), (j : Int))] p else agB [((j : Int), (i : Int))] p)) (hen : ∀ L L', GoodL d L' → (∀ p, p ∈ L' → φ p ∈ L) → en L → en' L') : ∀ (m : Nat) {L L' : List (List Int)}, GoodL d L' → (∀ p, p ∈ L' → φ p ∈ L) → canP en d m L → canP en' d m L'
  | 0, L, L', hg, hm, h => hen L L' hg hm h
  | m + 1, L, L', hg, hm, h => by
    rcases h with h | ⟨i, j, h1, h2, h3, h4, h5, h6⟩
    · exact .inl (hen L L' hg hm h)
    · have gY : ∀ p, p ∈ L'.filter (agB [((i : Int), (j : Int))]) → φ p ∈ (if sw then L.filter (agB [((j : Int), (i : Int))]) else L.filter (agB [((i : Int), (j : Int))])) := fun p hp => by
        obtain ⟨q1, q2⟩ := List.mem_filter.1 hp
        have q3 := hφ p (hg.2 p q1).1 (hg.2 p q1).2 i j h1 h2
        cases sw with
        | true => exact List.mem_filter.2 ⟨hm p q1, by rw [q3.2]; exact q2⟩
        | false => exact List.mem_filter.2 ⟨hm p q1, by rw [q3.1]; exact q2⟩
      have gN : ∀ p, p ∈ L'.filter (agB [((j : Int), (i : Int))]) → φ p ∈ (if sw then L.filter (agB [((i : Int), (j : Int))]) else L.filter (agB [((j : Int), (i : Int))])) := fun p hp => by
        obtain ⟨q1, q2⟩ := List.mem_filter.1 hp
        have q3 := hφ p (hg.2 p q1).1 (hg.2 p q1).2 i j h1 h2
        cases sw with
        | true => exact List.mem_filter.2 ⟨hm p q1, by rw [q3.1]; exact q2⟩
        | false => exact List.mem_filter.2 ⟨hm p q1, by rw [q3.2]; exact q2⟩
      have cY : canP en' d m (L'.filter (agB [((i : Int), (j : Int))])) := by
        cases sw with
        | true => exact can_map φ true hφ hen m (hg.filter _) gY h6
        | false => exact can_map φ false hφ hen m (hg.filter _) gY h5
      have cN : canP en' d m (L'.filter (agB [((j : Int), (i : Int))])) := by
        cases sw with
        | true => exact can_map φ true hφ hen m (hg.filter _) gN h5
        | false => exact can_map φ false hφ hen m (hg.filter _) gN h6
      have hs := part_sum hg h1 h2
      by_cases e1 : L'.filter (agB [((i : Int), (j : Int))]) = []
      · have : L'.filter (agB [((j : Int), (i : Int))]) = L' := by
          refine List.filter_eq_self.2 fun p hp => ?_
          rw [part_neg hg h1 h2 hp]
          rw [List.filter_eq_nil_iff] at e1
          have := e1 p hp
          rw [Bool.not_eq_true] at this; rw [this]; rfl
        rw [this] at cN
        exact can_up _ cN
      · by_cases e2 : L'.filter (agB [((j : Int), (i : Int))]) = []
        · have : L'.filter (agB [((i : Int), (j : Int))]) = L' := by
            refine List.filter_eq_self.2 fun p hp => ?_
            have h7 := part_neg hg h1 h2 hp
            rw [List.filter_eq_nil_iff] at e2
            have := e2 p hp
            rw [h7] at this
            cases c : agB [((i : Int), (j : Int))] p with
            | true => rfl
            | false => rw [c] at this; exact (this rfl).elim
          rw [this] at cY
          exact can_up _ cY
        · exact .inr ⟨i, j, h1, h2, e1, e2, cY, cN⟩
theorem nd_sub {L L' : List (List Int)} (hn : L'.Nodup) (hm : ∀ p, p ∈ L' → p ∈ L) (h : enL L) : enL L' := by
  unfold enL at h ⊢
  rcases Nat.lt_or_ge 1 L'.length with c | c
  · have m0 : L'[0] ∈ L' := List.getElem_mem (by omega)
    have m1 : L'[1] ∈ L' := List.getElem_mem (by omega)
    have hne : L'[0] ≠ L'[1] := (List.pairwise_iff_getElem.1 (List.nodup_iff_pairwise_ne.1 hn)) 0 1 (by omega) (by omega) (by decide)
    exact (hne (enL_to (hm _ m0) (hm _ m1) h)).elim
  · exact c
where
  enL_to {L : List (List Int)} {p q : List Int} (hp : p ∈ L) (hq : q ∈ L) (h : L.length ≤ 1) : p = q := by
    match L, h with
    | [a], _ => rw [List.mem_singleton.1 hp, List.mem_singleton.1 hq]
theorem hφ_id {d : Nat} : ∀ p : List Int, Beg d p → p.length = d → ∀ i j : Nat, i < j → j < d → agB [((i : Int), (j : Int))] (id p) = (if false then agB [((j : Int), (i : Int))] p else agB [((i : Int), (j : Int))] p) ∧ agB [((j : Int), (i : Int))] (id p) = (if false then agB [((i : Int), (j : Int))] p else agB [((j : Int), (i : Int))] p) := fun p _ _ i j _ _ => ⟨by simp, by simp⟩
theorem few_sub {d m : Nat} {L L' : List (List Int)} (hg : GoodL d L') (hm : ∀ p, p ∈ L' → p ∈ L) (h : canP enL d m L) : canP enL d m L' :=
  can_map id false hφ_id (fun L L' hg hm h => nd_sub hg.1 hm h) m hg hm h
theorem few_pick {d m k : Nat} {L : List (List Int)} (hg : GoodL d L) (h : canP enL d m L) : canP (enK k) d m L :=
  can_map id false hφ_id (fun L L' hg hm h => enK_few _ (nd_sub hg.1 hm h)) m hg (fun _ h => h) h
theorem rev_fst {d : Nat} {p : List Int} (hb : Beg d p) (hl : p.length = d) {x : Int} (hx : 0 ≤ x ∧ x < d) : fstAt p.reverse x p.reverse.length = (d : Int) - 1 - fstAt p x p.length := by
  obtain ⟨i, h1, h2, h3⟩ := hb.all hl hx
  have hb2 : Beg d p.reverse := ⟨fun v hv => hb.rng v (List.mem_reverse.1 hv), List.nodup_iff_pairwise_ne.2 (List.pairwise_reverse.2 ((List.nodup_iff_pairwise_ne.1 hb.nd).imp fun h => Ne.symm h))⟩
  have e : p.reverse.getD (d - 1 - i) 0 = x := by
    rw [List.getD_eq_getElem?_getD, List.getElem?_reverse (by omega), hl, show d - 1 - (d - 1 - i) = i by omega, ← List.getD_eq_getElem?_getD]
    exact h2
  have h4 := hb2.fst (i := d - 1 - i) (by rw [List.length_reverse]; omega)
  rw [e] at h4
  rw [h4, h3]; omega
theorem rev_ag {d : Nat} {p : List Int} (hb : Beg d p) (hl : p.length = d) {a c : Int} (ha : 0 ≤ a ∧ a < d) (hc : 0 ≤ c ∧ c < d) : agB [(a, c)] p.reverse = agB [(c, a)] p := by
  unfold agB
  simp only [List.all_cons, List.all_nil, Bool.and_true]
  rw [rev_fst hb hl ha, rev_fst hb hl hc]
  exact decide_eq_decide.2 ⟨fun h => by omega, fun h => by omega⟩
theorem few_rev {d m k : Nat} {L L' : List (List Int)} (hk : k < d) (hg : GoodL d L') (hm : ∀ p, p ∈ L' → p.reverse ∈ L) (h : canP (enK k) d m L) : canP (enK (d - 1 - k)) d m L' := by
  refine can_map List.reverse true (fun p hb hl i j hij hj => ?_) (fun L L' hg hm h p q hp hq => ?_) m hg hm h
  · rw [if_pos rfl, if_pos rfl]
    exact ⟨rev_ag hb hl ⟨by omega, by omega⟩ ⟨by omega, by omega⟩, rev_ag hb hl ⟨by omega, by omega⟩ ⟨by omega, by omega⟩⟩
  · have h1 := h _ _ (hm p hp) (hm q hq)
    have l1 := (hg.2 p hp).2
    have l2 := (hg.2 q hq).2
    rw [List.getD_eq_getElem?_getD, List.getD_eq_getElem?_getD, List.getElem?_reverse (by omega), List.getElem?_reverse (by omega), l1, l2] at h1
    rw [List.getD_eq_getElem?_getD, List.getD_eq_getElem?_getD]
    exact h1
/-- Facts turned round. -/
def swF (fs : List (Int × Int)) : List (Int × Int) := fs.map fun f => (f.2, f.1)
theorem swF_swF : ∀ fs : List (Int × Int), swF (swF fs) = fs
  | [] => rfl
  | f :: l => by
    have ih := swF_swF l
    unfold swF at ih ⊢
    rw [List.map_cons, List.map_cons, ih]
theorem swF_len (fs : List (Int × Int)) : (swF fs).length = fs.length := by unfold swF; simp
theorem Tc_sw {fs : List (Int × Int)} {a c : Int} (t : Tc (swF fs) a c) : Tc fs c a := by
  induction t with
  | base h =>
    unfold swF at h
    obtain ⟨f, h1, h2⟩ := List.mem_map.1 h
    obtain ⟨x, y⟩ := f
    cases h2
    exact .base h1
  | step _ _ h1 h2 => exact h2.step h1
theorem VF_sw {z : Int} {fs : List (Int × Int)} (h : VF z fs) : VF z (swF fs) := by
  refine ⟨h.1, by rw [swF_len]; exact h.2.1, fun f hf => ?_, fun x t => h.2.2.2 x (Tc_sw t)⟩
  unfold swF at hf
  obtain ⟨g, h1, h2⟩ := List.mem_map.1 hf
  subst h2
  exact ⟨(h.2.2.1 g h1).2, (h.2.2.1 g h1).1⟩
theorem ordK_rev {d : Nat} (hd : d ≤ 5) : ∀ p, p ∈ ordK d d [] → p.reverse ∈ ordK d d [] := by
  have : d = 0 ∨ d = 1 ∨ d = 2 ∨ d = 3 ∨ d = 4 ∨ d = 5 := by omega
  rcases this with rfl | rfl | rfl | rfl | rfl | rfl
  all_goals decide +kernel
theorem orO_sw {d : Nat} {fs : List (Int × Int)} (h : VF d fs) {p : List Int} (hp : p ∈ orO d (swF fs)) : p.reverse ∈ orO d fs := by
  obtain ⟨hb, hl⟩ := orO_beg (VF_sw h) hp
  have hi : itemsIn d fs := by have := h.2.2.1; rwa [Int.toNat_natCast] at this
  rw [orO_ag (VF_sw h)] at hp
  rw [orO_ag h]
  obtain ⟨h1, h2⟩ := List.mem_filter.1 hp
  refine List.mem_filter.2 ⟨ordK_rev (by have := h.1; omega) p h1, ?_⟩
  rw [agB_iff] at h2 ⊢
  intro f hf
  have h3 := h2 (f.2, f.1) (List.mem_map.2 ⟨f, hf, rfl⟩)
  rw [rev_fst hb hl (hi f hf).1, rev_fst hb hl (hi f hf).2]
  dsimp only at h3
  omega
/-- The fewest questions of valid facts. -/
theorem le_is {d : Nat} {fs : List (Int × Int)} (h : VF d fs) : IsFew enL d (orO d fs) (fewV enL d (orO d fs)) :=
  few_is (can_len enL_few (orO d fs).length (orO_good h) (by omega))
theorem pi_is {d k : Nat} {fs : List (Int × Int)} (h : VF d fs) : IsFew (enK k) d (orO d fs) (fewV (enK k) d (orO d fs)) :=
  few_is (can_len enK_few (orO d fs).length (orO_good h) (by omega))
theorem le_bits {d : Nat} {fs : List (Int × Int)} (h : VF d fs) : dbl (orO d fs).length 1 0 ≤ fewV enL d (orO d fs) :=
  dbl_pow (orO_pos h) (orO_cap _ _) (can_bits (kinds_L (d := d)) _ (orO_good h) ((le_is h _).2 (Nat.le_refl _)))
theorem le_nil {d : Nat} {fs : List (Int × Int)} (h : VF d fs) : fewV enL d (orO d fs) ≤ fewV enL d (orO d []) := by
  have hd : d ≤ 5 := by have := h.1; omega
  refine (le_is h _).1 (few_sub (orO_good h) (fun p hp => ?_) ((le_is (VF_nil hd) _).2 (Nat.le_refl _)))
  rw [orO_ag h] at hp
  rw [orO_ag (VF_nil hd)]
  exact List.mem_filter.2 ⟨(List.mem_filter.1 hp).1, rfl⟩
theorem pi_le {d k : Nat} {fs : List (Int × Int)} (h : VF d fs) : fewV (enK k) d (orO d fs) ≤ fewV enL d (orO d fs) :=
  (pi_is h _).1 (few_pick (orO_good h) ((le_is h _).2 (Nat.le_refl _)))
theorem pi_sw {d k : Nat} {fs : List (Int × Int)} (h : VF d fs) (hk : k < d) : fewV (enK (d - 1 - k)) d (orO d (swF fs)) = fewV (enK k) d (orO d fs) := by
  have h1 := (pi_is (k := d - 1 - k) (VF_sw h) (fewV (enK k) d (orO d fs))).1 (few_rev hk (orO_good (VF_sw h)) (fun p hp => orO_sw h hp) ((pi_is h _).2 (Nat.le_refl _)))
  have h2 := (pi_is (k := k) h (fewV (enK (d - 1 - k)) d (orO d (swF fs)))).1 (by
    have h3 := few_rev (k := d - 1 - k) (by omega) (orO_good h) (L := orO d (swF fs)) (fun p hp => orO_sw (VF_sw h) (by rw [swF_swF]; exact hp)) ((pi_is (VF_sw h) _).2 (Nat.le_refl _))
    rwa [show d - 1 - (d - 1 - k) = k by omega] at h3)
  omega

/-- The kernel's search for questions. -/
def canB (en : List (List Int) → Bool) (pr : Nat → List (List Int) → Bool) (d : Nat) : Nat → List (List Int) → Bool
  | 0, L => en L
  | m + 1, L => en L || (pr (m + 1) L && (List.range d).any fun j => (List.range j).any fun i =>
      let Y := L.filter (agB [((i : Int), (j : Int))])
      let N := L.filter (agB [((j : Int), (i : Int))])
      !Y.isEmpty && (!N.isEmpty && (canB en pr d m Y && canB en pr d m N)))
theorem canB_sound {en : List (List Int) → Bool} {pr : Nat → List (List Int) → Bool} {d : Nat} {enP : List (List Int) → Prop} (he : ∀ L, en L = true → enP L) : ∀ (m : Nat) {L : List (List Int)}, canB en pr d m L = true → canP enP d m L
  | 0, L, h => he L h
  | m + 1, L, h => by
    rw [canB, Bool.or_eq_true] at h
    rcases h with h | h
    · exact .inl (he L h)
    · rw [Bool.and_eq_true] at h
      obtain ⟨_, h⟩ := h
      rw [List.any_eq_true] at h
      obtain ⟨j, hj, h⟩ := h
      rw [List.any_eq_true] at h
      obtain ⟨i, hi, h⟩ := h
      simp only [Bool.and_eq_true, Bool.not_eq_true', List.isEmpty_eq_false_iff] at h
      exact .inr ⟨i, j, List.mem_range.1 hi, List.mem_range.1 hj, h.1, h.2.1, canB_sound he m h.2.2.1, canB_sound he m h.2.2.2⟩
theorem canB_full {en : List (List Int) → Bool} {d : Nat} {enP : List (List Int) → Prop} (he : ∀ L, enP L → en L = true) : ∀ (m : Nat) {L : List (List Int)}, canP enP d m L → canB en (fun _ _ => true) d m L = true
  | 0, L, h => he L h
  | m + 1, L, h => by
    rw [canB, Bool.or_eq_true]
    rcases h with h | ⟨i, j, h1, h2, h3, h4, h5, h6⟩
    · exact .inl (he L h)
    · right
      simp only [Bool.true_and]
      refine List.any_eq_true.2 ⟨j, List.mem_range.2 h2, List.any_eq_true.2 ⟨i, List.mem_range.2 h1, ?_⟩⟩
      simp only [Bool.and_eq_true, Bool.not_eq_true', List.isEmpty_eq_false_iff]
      exact ⟨h3, h4, canB_full he m h5, canB_full he m h6⟩
def enLB (L : List (List Int)) : Bool := decide (L.length ≤ 1)
def enKB (k : Nat) (L : List (List Int)) : Bool := match L with | [] => true | p :: l => l.all fun q => decide (q.getD k 0 = p.getD k 0)
theorem enLB_to (L : List (List Int)) (h : enLB L = true) : enL L := of_decide_eq_true (p := L.length ≤ 1) h
theorem enKB_to {k : Nat} (L : List (List Int)) (h : enKB k L = true) : enK k L := by
  match L, h with
  | [], _ => exact fun p q hp => by simp at hp
  | a :: l, h =>
    unfold enKB at h
    rw [List.all_eq_true] at h
    have key : ∀ p, p ∈ a :: l → p.getD k 0 = a.getD k 0 := fun p hp => by
      rcases List.mem_cons.1 hp with e | e
      · rw [e]
      · exact of_decide_eq_true (h p e)
    exact fun p q hp hq => (key p hp).trans (key q hq).symm
theorem enKB_of {k : Nat} (L : List (List Int)) (h : enK k L) : enKB k L = true := by
  match L, h with
  | [], _ => rfl
  | a :: l, h =>
    unfold enKB
    rw [List.all_eq_true]
    exact fun q hq => decide_eq_true (h q a (List.mem_cons_of_mem _ hq) List.mem_cons_self)
def prL (m : Nat) (L : List (List Int)) : Bool := decide (L.length ≤ 2 ^ m)
def foT (d : Nat) : Nat := [0, 0, 1, 3, 5].getD d 0
theorem fo_up {d : Nat} (hd : d ≤ 4) : canB enLB prL d (foT d) (ordK d d []) = true := by
  have : d = 0 ∨ d = 1 ∨ d = 2 ∨ d = 3 ∨ d = 4 := by omega
  rcases this with rfl | rfl | rfl | rfl | rfl
  all_goals decide +kernel
theorem fo_sum {d : Nat} (hd : d ≤ 4) : sumF fdF d = foT d ∧ dbl (facP d) 1 0 = foT d := by
  have : d = 0 ∨ d = 1 ∨ d = 2 ∨ d = 3 ∨ d = 4 := by omega
  rcases this with rfl | rfl | rfl | rfl | rfl
  all_goals (
    simp only [facP, sumF, fdF, Nat.zero_add, Nat.one_mul, Nat.reduceAdd, Nat.reduceMul]
    repeat (first | rw [dbl_end (by omega)] | rw [← dbl_go (by omega) (by omega)])
    decide)
theorem orO_nilK {d : Nat} (hd : d ≤ 5) : orO d [] = ordK d d [] := by
  rw [orO_ag (VF_nil hd)]
  exact List.filter_eq_self.2 fun q _ => rfl
theorem le_ford {d : Nat} (hd : d ≤ 4) : fewV enL d (orO d []) = sumF fdF d := by
  have h1 := le_bits (VF_nil (d := d) (by omega))
  rw [orO_nil (by omega), (fo_sum hd).2] at h1
  have h2 := (le_is (VF_nil (d := d) (by omega)) (foT d)).1 (by rw [orO_nilK (by omega)]; exact canB_sound enLB_to _ (fo_up hd))
  rw [(fo_sum hd).1]; omega
theorem pi_up {d : Nat} (h1 : 1 ≤ d) (hd : d ≤ 4) : canB (enKB 0) (fun _ _ => true) d (d - 1) (ordK d d []) = true ∧ (2 ≤ d → canB (enKB 0) (fun _ _ => true) d (d - 2) (ordK d d []) = false) := by
  have : d = 1 ∨ d = 2 ∨ d = 3 ∨ d = 4 := by omega
  rcases this with rfl | rfl | rfl | rfl
  all_goals decide +kernel
theorem pi_nil {d : Nat} (h1 : 1 ≤ d) (hd : d ≤ 4) : fewV (enK 0) d (orO d []) = d - 1 := by
  obtain ⟨a1, a2⟩ := pi_up h1 hd
  have h2 := (pi_is (k := 0) (VF_nil (d := d) (by omega)) (d - 1)).1 (by rw [orO_nilK (by omega)]; exact canB_sound enKB_to _ a1)
  rcases Nat.lt_or_ge (fewV (enK 0) d (orO d [])) (d - 1) with c | c
  · have h3 := (pi_is (k := 0) (VF_nil (d := d) (by omega)) (d - 2)).2 (by omega)
    rw [orO_nilK (by omega)] at h3
    have h4 := canB_full enKB_of _ h3
    rw [a2 (by omega)] at h4
    cases h4
  · omega

theorem someFacts4_sat : SatH Try.prog 40 (fun al h n K => ∃ (bs : List Int) (L : Nat) (lim : Option Nat) (q : Nat), al = [.ref 1 0, .val (.int .i64 (4))] ∧ (n = 2) ∧ (h 0 = some ⟨false, .ints .u8 bs⟩) ∧ (h 1 = some ⟨true, .cells [.sl 0 0 L 1 lim, .val (.int .i64 q)]⟩) ∧ (L ≤ bs.length ∧ L ≤ 1099511627776) ∧ (bytesOk bs) ∧ (q ≤ 800000) ∧ ∀ (z : Int) (fs : List (Int × Int)) (r : Nat), -1 ≤ z ∧ z ≤ 6 → fs.length ≤ 8 → r ≤ q + 80 → K (.tup [.val (.int .i64 z), .sl 2 0 fs.length 2 none]) (upd (upd h 1 (some ⟨true, .cells [.sl 0 0 L 1 lim, .val (.int .i64 r)]⟩)) 2 (some ⟨true, .ints .i64 (flF fs)⟩)) (3)) := by
  refine satH_intro tabOk Try.func40 rfl 45 rfl [.tmp 4, .tmp 5] rfl ?_
  rintro F W h n al K0 ⟨bs, L, lim, q, rfl, hn, h0, h1, hL, hbs, hq, hQ⟩
  refine ⟨Nat.le_of_ble_eq_true rfl, fun m0 hm0 hcl hlt => ?_⟩
  simp only [initT]
  subst hn
  repeat' (first | refine awp_seq_k fun K hK => ?_ | ((with_reducible refine hK _ ?_); clear hK K) | ((with_reducible refine aord_plain fun K hK => ?_); simp only [go_sem, Nat.reduceAdd, Nat.reduceMul, Nat.reduceEqDiff, Nat.reduceLT, reduceIte, reduceCtorEq, h0, h1]) | ((first | with_reducible refine aord_nil ?_ | refine awp_skip ?_ | refine awp_exit ?_ | refine awp_ret ?_); try simp only [rdA, Nat.reduceEqDiff, ifA, ifB, reduceIte]) | (refine awp_region tabOk rfl ?_; simp only [prep, pickO, lsA, lsB, lsC, lsD, lsE, lsF, lsG]) | ((with_reducible refine And.intro ?_ ?_); (focus omega)) | ((with_reducible refine And.intro (?_ : enters Try.prog 63) ?_); (focus exact Try.call63); (refine callX_satH one_sat ?_); simp only [go_sem, and_assoc, List.nil_append, List.append_nil, List.cons_append, Nat.reduceEqDiff, reduceIte, reduceCtorEq, h0, h1]) | fail)
  refine ⟨L, lim, _, q, rfl, hL.1, hL.2, hbs, rfl, rfl, by omega, by omega, by omega, ?_⟩
  intro v hv
  have hmo := (by decide : ∀ v, v < 6 → 0 ≤ ([3, 4, 4, 2, 1, 0] : List Int).getD v 0 ∧ ([3, 4, 4, 2, 1, 0] : List Int).getD v 0 ≤ 5) v hv
  generalize ([3, 4, 4, 2, 1, 0] : List Int).getD v 0 = N at *
  repeat' (first | refine awp_seq_k fun K hK => ?_ | ((with_reducible refine hK _ ?_); clear hK K) | ((with_reducible refine aord_plain fun K hK => ?_); simp only [go_sem, Nat.reduceAdd, Nat.reduceMul, Nat.reduceEqDiff, Nat.reduceLT, reduceIte, reduceCtorEq, h0, h1]) | ((first | with_reducible refine aord_nil ?_ | refine awp_skip ?_ | refine awp_exit ?_ | refine awp_ret ?_); try simp only [rdA, Nat.reduceEqDiff, ifA, ifB, reduceIte]) | (refine awp_region tabOk rfl ?_; simp only [prep, pickO, lsA, lsB, lsC, lsD, lsE, lsF, lsG]) | ((with_reducible refine And.intro (?_ : enters Try.prog 75) ?_); (focus exact Try.call75); (refine callX_satH factsOf_sat ?_); simp only [go_sem, and_assoc, List.nil_append, List.append_nil, List.cons_append, Nat.reduceEqDiff, reduceIte, reduceCtorEq, h0, h1]) | fail)
  refine ⟨L, lim, q + 1, rfl, hL.1, hL.2, hbs, by omega, by omega, by omega, ?_⟩
  intro fs r hfs hr
  have hfl := flF_len fs
  repeat' (first | refine awp_seq_k fun K hK => ?_ | ((with_reducible refine hK _ ?_); clear hK K) | ((with_reducible refine aord_plain fun K hK => ?_); simp only [go_sem, Nat.reduceAdd, Nat.reduceMul, Nat.reduceEqDiff, Nat.reduceLT, reduceIte, reduceCtorEq, h0, h1]) | ((first | with_reducible refine aord_nil ?_ | refine awp_skip ?_ | refine awp_exit ?_ | refine awp_ret ?_); try simp only [rdA, Nat.reduceEqDiff, ifA, ifB, reduceIte]) | (refine awp_region tabOk rfl ?_; simp only [prep, pickO, lsA, lsB, lsC, lsD, lsE, lsF, lsG]) | ((with_reducible refine And.intro (?_ : enters Try.prog 49) ?_); (focus exact Try.call49); (refine callX_satH pick_sat ?_); simp only [go_sem, and_assoc, List.nil_append, List.append_nil, List.cons_append, Nat.reduceEqDiff, reduceIte, reduceCtorEq, h0, h1]) | fail)
  refine ⟨L, lim, r, rfl, hL.1, hL.2, hbs, by omega, by omega, ?_⟩
  intro w hw0 hw1
  repeat' ((fail_if_success (with_reducible refine isRetQ ?_)); (first | refine awp_seq_k fun K hK => ?_ | ((with_reducible refine hK _ ?_); clear hK K) | ((with_reducible refine aord_plain fun K hK => ?_); simp only [go_sem, Nat.reduceAdd, Nat.reduceMul, Nat.reduceEqDiff, Nat.reduceLT, reduceIte, reduceCtorEq, h0, h1]) | refine awp_block ?_ | ((first | with_reducible refine aord_nil ?_ | refine awp_skip ?_ | refine awp_exit ?_ | refine awp_ret ?_); try simp only [rdA, Nat.reduceEqDiff, ifA, ifB, reduceIte]) | (refine awp_region tabOk rfl ?_; simp only [prep, pickO, lsA, lsB, lsC, lsD, lsE, lsF, lsG]) | ((with_reducible apply awp_cond); (focus (simp only [St.ev, St.set, upd, Nat.reduceEqDiff, reduceIte, ifA, ifB]; exact rfl)); all_goals (intro hb; first | (cases hb; done) | ((try rw [hb]); (try simp only [dcA, dcB, dcC, dcD, dcE, Bool.not_eq_true', Bool.not_eq_false'] at hb)))) | ((with_reducible refine And.intro ?_ ?_); (focus omega)) | ((with_reducible refine And.intro (?_ : enters Try.prog 63) ?_); (focus exact Try.call63); (refine callX_satH one_sat ?_); simp only [go_sem, and_assoc, List.nil_append, List.append_nil, List.cons_append, Nat.reduceEqDiff, reduceIte, reduceCtorEq, h0, h1]) | (simp only [rBuild]; simp only [fillA, Nat.reduceLeDiff, List.getElem?_cons_zero, List.getElem?_cons_succ, List.drop_succ_cons, List.drop_nil, List.take_nil, List.cons_append, Option.isSome_some, go_sem, Nat.reduceAdd, Nat.reduceMul, Nat.reduceEqDiff, Nat.reduceLT, reduceIte, reduceCtorEq]) | fail))
  · refine ⟨L, lim, _, r + 1, rfl, hL.1, hL.2, hbs, rfl, rfl, by omega, by omega, by omega, ?_⟩
    intro u hu
    have hz : -1 ≤ ([-1, 6, N + 1] : List Int).getD u 0 ∧ ([-1, 6, N + 1] : List Int).getD u 0 ≤ 6 := by
      rcases (show u = 0 ∨ u = 1 ∨ u = 2 by omega) with rfl | rfl | rfl <;> simp <;> omega
    generalize ([-1, 6, N + 1] : List Int).getD u 0 = z at *
    repeat' ((fail_if_success (with_reducible refine isRetQ ?_)); (first | ((with_reducible refine hK _ ?_); clear hK K) | ((with_reducible refine aord_plain fun K hK => ?_); simp only [go_sem, Nat.reduceAdd, Nat.reduceMul, Nat.reduceEqDiff, Nat.reduceLT, reduceIte, reduceCtorEq, h0, h1]) | ((first | with_reducible refine aord_nil ?_ | refine awp_skip ?_ | refine awp_exit ?_ | refine awp_ret ?_); try simp only [rdA, Nat.reduceEqDiff, ifA, ifB, reduceIte]) | fail))
    refine awp_weaken (s' := ⟨upd (upd bot 4 (.val (.int .i64 z))) 5 (.sl 2 0 fs.length 2 none), upd (upd h 1 (some ⟨true, .cells [.sl 0 0 L 1 lim, .val (.int .i64 ((r + 2 : Nat) : Int))]⟩)) 2 (some ⟨true, .ints .i64 (flF fs)⟩), 3⟩) ?_ ?_
    · (apply Wk.over (fun o => if o = 2 then 3 else o) 2; (case' h2 => (focus ((repeat' (first | (with_reducible exact HeapX.bot) | (exact HeapX.base (by first | exact hcl | assumption) (by first | exact Nat.le_refl _ | omega | (simp only; omega)) (fun k hk => by first | rfl | (simp only [id]; done) | ((repeat rw [if_neg (by omega)]); done)) (by intro u hu hlt'; first | rfl | (simp only [List.mem_cons, List.not_mem_nil, or_false, not_or] at hu; first | (simp [upd, hu]; done) | (simp only [upd]; (repeat rw [if_neg (by omega)]))))) | (with_reducible (apply HeapX.skip; (case hx => (simp; done)))) | (with_reducible apply HeapX.none) | (with_reducible apply HeapX.old (by first | assumption | omega) (by first | exact Nat.le_refl _ | omega | (simp only; omega)) (by first | rfl | (simp only [id]; done) | ((repeat rw [if_neg (by omega)]); done))) | (with_reducible apply HeapX.upd))); all_goals (first | rfl | omega | assumption | exact Nat.le_of_ble_eq_true rfl | (simp only; omega) | (simp only [St.set, St.ev, upd, ren, renL, id, Nat.reduceEqDiff, reduceIte]; rfl) | (simp only [St.set, St.ev, upd, ren, renL, id, Nat.reduceEqDiff, reduceIte, ContLe]; done) | (exact And.intro rfl (And.intro (by first | exact Nat.le_of_ble_eq_true rfl | omega) (by first | exact Nat.le_of_ble_eq_true rfl | omega))) | (first | (simp only [St.set, St.ev, upd, ren, renL, id, Nat.reduceEqDiff, reduceIte]; exact contLe_nil) | ((repeat' (first | exact contLe_nil | refine contLe_cons (.inr ⟨?_, rfl⟩) ?_ | exact contLe_refl (n0 := 2) (fun k hk => by first | rfl | (simp only [id]; done) | ((repeat rw [if_neg (by omega)]); done)) (by first | exact Nat.le_refl _ | omega | (simp only; omega)) (by assumption))); all_goals (first | rfl | (simp only [St.set, St.ev, upd, ren, renL, id, Nat.reduceEqDiff, reduceIte]; done) | ((try simp only [St.set, St.ev, upd, ren, renL, id, Nat.reduceEqDiff, reduceIte]); first | (with_reducible exact av_int (by omega)) | (with_reducible exact av_sl (by first | omega | (simp; done) | (simp; omega)) (by first | omega | (simp; done) | (simp; omega)))) | (simp only [St.set, St.ev, upd, ren, renL, id, Nat.reduceEqDiff, reduceIte, Int.natCast_add, Int.natCast_one, Int.cast_ofNat_Int, Int.natCast_zero]; done) | (simp only [St.set, St.ev, upd, ren, renL, id, Nat.reduceEqDiff, reduceIte]) | skip); done)) | (simp only [St.set, St.ev, upd, ren, renL, id, Nat.reduceEqDiff, reduceIte, ContLe]) | skip)))); (case' h1 => (focus ((repeat' (with_reducible first | exact TmpLe.bot | refine TmpLe.upd ?_ (by first | rfl | (simp only [AV.lt, decide_eq_true_eq]; first | done | omega)) ?_)); all_goals (first | rfl | (simp only [St.set, St.ev, upd, ren, renL, id, Nat.reduceEqDiff, reduceIte]; done) | ((try simp only [St.set, St.ev, upd, ren, renL, id, Nat.reduceEqDiff, reduceIte]); first | (with_reducible exact av_int (by omega)) | (with_reducible exact av_sl (by first | omega | (simp; done) | (simp; omega)) (by first | omega | (simp; done) | (simp; omega)))) | (simp only [St.set, St.ev, upd, ren, renL, id, Nat.reduceEqDiff, reduceIte, Int.natCast_add, Int.natCast_one, Int.cast_ofNat_Int, Int.natCast_zero]; done) | (simp only [St.set, St.ev, upd, ren, renL, id, Nat.reduceEqDiff, reduceIte]) | skip)))); (case h3 => (focus (first | (simp only [id, List.map_cons, List.map_nil]; decide) | decide | (simp; done) | (simp; omega) | fail))); (case h5 => (intro d hd; first | (simp at hd; done) | (simp only [List.mem_cons, List.not_mem_nil, or_false] at hd; first | (simp only [id]; omega) | (split <;> omega) | ((repeat' split) <;> omega) | ((try simp only); repeat' split; all_goals omega)))); (case h4 => (intro o l h; first | (cases h; done) | (have hlt0 := m0_lt (by assumption) h; (try (simp only at hlt0)); first | omega | (simp only; omega) | exact ⟨by (first | rfl | (simp only [id]; done) | ((repeat rw [if_neg (by omega)]); done)), by first | omega | (simp only; omega)⟩))))
    repeat' (first | ((first | with_reducible refine aord_nil ?_ | refine awp_skip ?_ | refine awp_exit ?_ | refine awp_ret ?_); try simp only [rdA, Nat.reduceEqDiff, ifA, ifB, reduceIte]) | (simp only [doneH]; simp only [ressK, resK, wrapR, go_sem, Nat.reduceAdd, Nat.reduceMul, Nat.reduceEqDiff, Nat.reduceLT, reduceIte, reduceCtorEq]) | fail)
    exact hQ z fs (r + 2) hz (by omega) (by omega)
  · refine ⟨L, lim, _, r + 1, rfl, hL.1, hL.2, hbs, rfl, rfl, by omega, by omega, by omega, ?_⟩
    intro u hu
    generalize ([0, -1, 5] : List Int).getD u 0 = y at *
    repeat' ((fail_if_success (with_reducible refine isRetQ ?_)); (first | ((with_reducible refine hK _ ?_); clear hK K) | ((with_reducible refine aord_plain fun K hK => ?_); simp only [go_sem, Nat.reduceAdd, Nat.reduceMul, Nat.reduceEqDiff, Nat.reduceLT, reduceIte, reduceCtorEq, h0, h1]) | (simp only [rBuild]; simp only [fillA, Nat.reduceLeDiff, List.getElem?_cons_zero, List.getElem?_cons_succ, List.drop_succ_cons, List.drop_nil, List.take_nil, List.cons_append, Option.isSome_some, go_sem, Nat.reduceAdd, Nat.reduceMul, Nat.reduceEqDiff, Nat.reduceLT, reduceIte, reduceCtorEq]) | fail))
    refine ⟨_, _, ⟨rfl, rfl⟩, Nat.le_of_ble_eq_true rfl, ?_⟩
    (try dsimp only)
    repeat' ((fail_if_success (with_reducible refine isRetQ ?_)); (first | ((with_reducible refine hK _ ?_); clear hK K) | ((with_reducible refine aord_plain fun K hK => ?_); simp only [go_sem, Nat.reduceAdd, Nat.reduceMul, Nat.reduceEqDiff, Nat.reduceLT, reduceIte, reduceCtorEq, h0, h1]) | fail))
    refine aAppendE_ints rfl rfl rfl rfl (Nat.le_of_ble_eq_true rfl) (by decide) (by decide) (by (try dsimp only); (repeat (first | rw [upd_same] | rw [upd_ne _ _ (by omega)]))) (by (try dsimp only); (repeat (first | rw [upd_same] | rw [upd_ne _ _ (by omega)]))) hfl rfl (by decide) (by omega) ?_
    repeat' ((fail_if_success (with_reducible refine isRetQ ?_)); (first | ((with_reducible refine hK _ ?_); clear hK K) | ((with_reducible refine aord_plain fun K hK => ?_); simp only [go_sem, Nat.reduceAdd, Nat.reduceMul, Nat.reduceEqDiff, Nat.reduceLT, reduceIte, reduceCtorEq, h0, h1]) | ((first | with_reducible refine aord_nil ?_ | refine awp_skip ?_ | refine awp_exit ?_ | refine awp_ret ?_); try simp only [rdA, Nat.reduceEqDiff, ifA, ifB, reduceIte]) | fail))
    have e2 : flF fs ++ [y, 0] = flF (fs ++ [(y, 0)]) := by rw [flF_app]; rfl
    have e3 : fs.length + 1 = (fs ++ [(y, 0)]).length := by rw [List.length_append]; rfl
    have e4 : (fs ++ [(y, 0)]).length ≤ 8 := by omega
    rw [e2, e3]
    generalize fs ++ [(y, 0)] = fs2 at *
    refine awp_weaken (s' := ⟨upd (upd bot 4 (.val (.int .i64 N))) 5 (.sl 2 0 fs2.length 2 none), upd (upd h 1 (some ⟨true, .cells [.sl 0 0 L 1 lim, .val (.int .i64 ((r + 2 : Nat) : Int))]⟩)) 2 (some ⟨true, .ints .i64 (flF fs2)⟩), 3⟩) ?_ ?_
    · (apply Wk.over (fun o => if o = 2 then 6 else o) 2; (case' h2 => (focus ((repeat' (first | (with_reducible exact HeapX.bot) | (exact HeapX.base (by first | exact hcl | assumption) (by first | exact Nat.le_refl _ | omega | (simp only; omega)) (fun k hk => by first | rfl | (simp only [id]; done) | ((repeat rw [if_neg (by omega)]); done)) (by intro u hu hlt'; first | rfl | (simp only [List.mem_cons, List.not_mem_nil, or_false, not_or] at hu; first | (simp [upd, hu]; done) | (simp only [upd]; (repeat rw [if_neg (by omega)]))))) | (with_reducible (apply HeapX.skip; (case hx => (simp; done)))) | (with_reducible apply HeapX.none) | (with_reducible apply HeapX.old (by first | assumption | omega) (by first | exact Nat.le_refl _ | omega | (simp only; omega)) (by first | rfl | (simp only [id]; done) | ((repeat rw [if_neg (by omega)]); done))) | (with_reducible apply HeapX.upd))); all_goals (first | rfl | omega | assumption | exact Nat.le_of_ble_eq_true rfl | (simp only; omega) | (simp only [St.set, St.ev, upd, ren, renL, id, Nat.reduceEqDiff, reduceIte]; rfl) | (simp only [St.set, St.ev, upd, ren, renL, id, Nat.reduceEqDiff, reduceIte, ContLe]; done) | (exact And.intro rfl (And.intro (by first | exact Nat.le_of_ble_eq_true rfl | omega) (by first | exact Nat.le_of_ble_eq_true rfl | omega))) | (first | (simp only [St.set, St.ev, upd, ren, renL, id, Nat.reduceEqDiff, reduceIte]; exact contLe_nil) | ((repeat' (first | exact contLe_nil | refine contLe_cons (.inr ⟨?_, rfl⟩) ?_ | exact contLe_refl (n0 := 2) (fun k hk => by first | rfl | (simp only [id]; done) | ((repeat rw [if_neg (by omega)]); done)) (by first | exact Nat.le_refl _ | omega | (simp only; omega)) (by assumption))); all_goals (first | rfl | (simp only [St.set, St.ev, upd, ren, renL, id, Nat.reduceEqDiff, reduceIte]; done) | ((try simp only [St.set, St.ev, upd, ren, renL, id, Nat.reduceEqDiff, reduceIte]); first | (with_reducible exact av_int (by omega)) | (with_reducible exact av_sl (by first | omega | (simp; done) | (simp; omega)) (by first | omega | (simp; done) | (simp; omega)))) | (simp only [St.set, St.ev, upd, ren, renL, id, Nat.reduceEqDiff, reduceIte, Int.natCast_add, Int.natCast_one, Int.cast_ofNat_Int, Int.natCast_zero]; done) | (simp only [St.set, St.ev, upd, ren, renL, id, Nat.reduceEqDiff, reduceIte]) | skip); done)) | (simp only [St.set, St.ev, upd, ren, renL, id, Nat.reduceEqDiff, reduceIte, ContLe]) | skip)))); (case' h1 => (focus ((repeat' (with_reducible first | exact TmpLe.bot | refine TmpLe.upd ?_ (by first | rfl | (simp only [AV.lt, decide_eq_true_eq]; first | done | omega)) ?_)); all_goals (first | rfl | (simp only [St.set, St.ev, upd, ren, renL, id, Nat.reduceEqDiff, reduceIte]; done) | ((try simp only [St.set, St.ev, upd, ren, renL, id, Nat.reduceEqDiff, reduceIte]); first | (with_reducible exact av_int (by omega)) | (with_reducible exact av_sl (by first | omega | (simp; done) | (simp; omega)) (by first | omega | (simp; done) | (simp; omega)))) | (simp only [St.set, St.ev, upd, ren, renL, id, Nat.reduceEqDiff, reduceIte, Int.natCast_add, Int.natCast_one, Int.cast_ofNat_Int, Int.natCast_zero]; done) | (simp only [St.set, St.ev, upd, ren, renL, id, Nat.reduceEqDiff, reduceIte]) | skip)))); (case h3 => (focus (first | (simp only [id, List.map_cons, List.map_nil]; decide) | decide | (simp; done) | (simp; omega) | fail))); (case h5 => (intro d hd; first | (simp at hd; done) | (simp only [List.mem_cons, List.not_mem_nil, or_false] at hd; first | (simp only [id]; omega) | (split <;> omega) | ((repeat' split) <;> omega) | ((try simp only); repeat' split; all_goals omega)))); (case h4 => (intro o l h; first | (cases h; done) | (have hlt0 := m0_lt (by assumption) h; (try (simp only at hlt0)); first | omega | (simp only; omega) | exact ⟨by (first | rfl | (simp only [id]; done) | ((repeat rw [if_neg (by omega)]); done)), by first | omega | (simp only; omega)⟩))))
    repeat' (first | ((first | with_reducible refine aord_nil ?_ | refine awp_skip ?_ | refine awp_exit ?_ | refine awp_ret ?_); try simp only [rdA, Nat.reduceEqDiff, ifA, ifB, reduceIte]) | (simp only [doneH]; simp only [ressK, resK, wrapR, go_sem, Nat.reduceAdd, Nat.reduceMul, Nat.reduceEqDiff, Nat.reduceLT, reduceIte, reduceCtorEq]) | fail)
    exact hQ N fs2 (r + 2) (by omega) e4 (by omega)
  · refine ⟨Value.int .i64 0, [Value.int .i64 0], ⟨rfl, rfl⟩, Nat.le_of_ble_eq_true rfl, Nat.le_of_ble_eq_true rfl, ?_⟩
    simp only [List.cons_append, List.nil_append, packInts]
    repeat' ((fail_if_success (with_reducible refine isRetQ ?_)); (first | ((with_reducible refine hK _ ?_); clear hK K) | ((with_reducible refine aord_plain fun K hK => ?_); simp only [go_sem, Nat.reduceAdd, Nat.reduceMul, Nat.reduceEqDiff, Nat.reduceLT, reduceIte, reduceCtorEq, h0, h1]) | fail))
    refine aAppendE_ints rfl rfl rfl rfl (Nat.le_of_ble_eq_true rfl) (by decide) (by decide) (by (try dsimp only); (repeat (first | rw [upd_same] | rw [upd_ne _ _ (by omega)]))) (by (try dsimp only); (repeat (first | rw [upd_same] | rw [upd_ne _ _ (by omega)]))) hfl rfl (by decide) (by omega) ?_
    repeat' ((fail_if_success (with_reducible refine isRetQ ?_)); (first | ((with_reducible refine hK _ ?_); clear hK K) | ((with_reducible refine aord_plain fun K hK => ?_); simp only [go_sem, Nat.reduceAdd, Nat.reduceMul, Nat.reduceEqDiff, Nat.reduceLT, reduceIte, reduceCtorEq, h0, h1]) | ((first | with_reducible refine aord_nil ?_ | refine awp_skip ?_ | refine awp_exit ?_ | refine awp_ret ?_); try simp only [rdA, Nat.reduceEqDiff, ifA, ifB, reduceIte]) | fail))
    have e2 : flF fs ++ [0, 1, 1, 0] = flF (fs ++ [(0, 1), (1, 0)]) := by rw [flF_app]; rfl
    have e3 : fs.length + 2 = (fs ++ [((0 : Int), (1 : Int)), (1, 0)]).length := by rw [List.length_append]; rfl
    have e4 : (fs ++ [((0 : Int), (1 : Int)), (1, 0)]).length ≤ 8 := by omega
    rw [e2, e3]
    generalize fs ++ [((0 : Int), (1 : Int)), (1, 0)] = fs2 at *
    refine awp_weaken (s' := ⟨upd (upd bot 4 (.val (.int .i64 N))) 5 (.sl 2 0 fs2.length 2 none), upd (upd h 1 (some ⟨true, .cells [.sl 0 0 L 1 lim, .val (.int .i64 ((r + 1 : Nat) : Int))]⟩)) 2 (some ⟨true, .ints .i64 (flF fs2)⟩), 3⟩) ?_ ?_
    · (apply Wk.over (fun o => if o = 2 then 5 else o) 2; (case' h2 => (focus ((repeat' (first | (with_reducible exact HeapX.bot) | (exact HeapX.base (by first | exact hcl | assumption) (by first | exact Nat.le_refl _ | omega | (simp only; omega)) (fun k hk => by first | rfl | (simp only [id]; done) | ((repeat rw [if_neg (by omega)]); done)) (by intro u hu hlt'; first | rfl | (simp only [List.mem_cons, List.not_mem_nil, or_false, not_or] at hu; first | (simp [upd, hu]; done) | (simp only [upd]; (repeat rw [if_neg (by omega)]))))) | (with_reducible (apply HeapX.skip; (case hx => (simp; done)))) | (with_reducible apply HeapX.none) | (with_reducible apply HeapX.old (by first | assumption | omega) (by first | exact Nat.le_refl _ | omega | (simp only; omega)) (by first | rfl | (simp only [id]; done) | ((repeat rw [if_neg (by omega)]); done))) | (with_reducible apply HeapX.upd))); all_goals (first | rfl | omega | assumption | exact Nat.le_of_ble_eq_true rfl | (simp only; omega) | (simp only [St.set, St.ev, upd, ren, renL, id, Nat.reduceEqDiff, reduceIte]; rfl) | (simp only [St.set, St.ev, upd, ren, renL, id, Nat.reduceEqDiff, reduceIte, ContLe]; done) | (exact And.intro rfl (And.intro (by first | exact Nat.le_of_ble_eq_true rfl | omega) (by first | exact Nat.le_of_ble_eq_true rfl | omega))) | (first | (simp only [St.set, St.ev, upd, ren, renL, id, Nat.reduceEqDiff, reduceIte]; exact contLe_nil) | ((repeat' (first | exact contLe_nil | refine contLe_cons (.inr ⟨?_, rfl⟩) ?_ | exact contLe_refl (n0 := 2) (fun k hk => by first | rfl | (simp only [id]; done) | ((repeat rw [if_neg (by omega)]); done)) (by first | exact Nat.le_refl _ | omega | (simp only; omega)) (by assumption))); all_goals (first | rfl | (simp only [St.set, St.ev, upd, ren, renL, id, Nat.reduceEqDiff, reduceIte]; done) | ((try simp only [St.set, St.ev, upd, ren, renL, id, Nat.reduceEqDiff, reduceIte]); first | (with_reducible exact av_int (by omega)) | (with_reducible exact av_sl (by first | omega | (simp; done) | (simp; omega)) (by first | omega | (simp; done) | (simp; omega)))) | (simp only [St.set, St.ev, upd, ren, renL, id, Nat.reduceEqDiff, reduceIte, Int.natCast_add, Int.natCast_one, Int.cast_ofNat_Int, Int.natCast_zero]; done) | (simp only [St.set, St.ev, upd, ren, renL, id, Nat.reduceEqDiff, reduceIte]) | skip); done)) | (simp only [St.set, St.ev, upd, ren, renL, id, Nat.reduceEqDiff, reduceIte, ContLe]) | skip)))); (case' h1 => (focus ((repeat' (with_reducible first | exact TmpLe.bot | refine TmpLe.upd ?_ (by first | rfl | (simp only [AV.lt, decide_eq_true_eq]; first | done | omega)) ?_)); all_goals (first | rfl | (simp only [St.set, St.ev, upd, ren, renL, id, Nat.reduceEqDiff, reduceIte]; done) | ((try simp only [St.set, St.ev, upd, ren, renL, id, Nat.reduceEqDiff, reduceIte]); first | (with_reducible exact av_int (by omega)) | (with_reducible exact av_sl (by first | omega | (simp; done) | (simp; omega)) (by first | omega | (simp; done) | (simp; omega)))) | (simp only [St.set, St.ev, upd, ren, renL, id, Nat.reduceEqDiff, reduceIte, Int.natCast_add, Int.natCast_one, Int.cast_ofNat_Int, Int.natCast_zero]; done) | (simp only [St.set, St.ev, upd, ren, renL, id, Nat.reduceEqDiff, reduceIte]) | skip)))); (case h3 => (focus (first | (simp only [id, List.map_cons, List.map_nil]; decide) | decide | (simp; done) | (simp; omega) | fail))); (case h5 => (intro d hd; first | (simp at hd; done) | (simp only [List.mem_cons, List.not_mem_nil, or_false] at hd; first | (simp only [id]; omega) | (split <;> omega) | ((repeat' split) <;> omega) | ((try simp only); repeat' split; all_goals omega)))); (case h4 => (intro o l h; first | (cases h; done) | (have hlt0 := m0_lt (by assumption) h; (try (simp only at hlt0)); first | omega | (simp only; omega) | exact ⟨by (first | rfl | (simp only [id]; done) | ((repeat rw [if_neg (by omega)]); done)), by first | omega | (simp only; omega)⟩))))
    repeat' (first | ((first | with_reducible refine aord_nil ?_ | refine awp_skip ?_ | refine awp_exit ?_ | refine awp_ret ?_); try simp only [rdA, Nat.reduceEqDiff, ifA, ifB, reduceIte]) | (simp only [doneH]; simp only [ressK, resK, wrapR, go_sem, Nat.reduceAdd, Nat.reduceMul, Nat.reduceEqDiff, Nat.reduceLT, reduceIte, reduceCtorEq]) | fail)
    exact hQ N fs2 (r + 1) (by omega) e4 (by omega)
  · refine awp_weaken (s' := ⟨upd (upd bot 4 (.val (.int .i64 N))) 5 (.sl 2 0 fs.length 2 none), upd (upd h 1 (some ⟨true, .cells [.sl 0 0 L 1 lim, .val (.int .i64 ((r + 1 : Nat) : Int))]⟩)) 2 (some ⟨true, .ints .i64 (flF fs)⟩), 3⟩) ?_ ?_
    · (apply Wk.over (fun o => if o = 2 then 3 else o) 2; (case' h2 => (focus ((repeat' (first | (with_reducible exact HeapX.bot) | (exact HeapX.base (by first | exact hcl | assumption) (by first | exact Nat.le_refl _ | omega | (simp only; omega)) (fun k hk => by first | rfl | (simp only [id]; done) | ((repeat rw [if_neg (by omega)]); done)) (by intro u hu hlt'; first | rfl | (simp only [List.mem_cons, List.not_mem_nil, or_false, not_or] at hu; first | (simp [upd, hu]; done) | (simp only [upd]; (repeat rw [if_neg (by omega)]))))) | (with_reducible (apply HeapX.skip; (case hx => (simp; done)))) | (with_reducible apply HeapX.none) | (with_reducible apply HeapX.old (by first | assumption | omega) (by first | exact Nat.le_refl _ | omega | (simp only; omega)) (by first | rfl | (simp only [id]; done) | ((repeat rw [if_neg (by omega)]); done))) | (with_reducible apply HeapX.upd))); all_goals (first | rfl | omega | assumption | exact Nat.le_of_ble_eq_true rfl | (simp only; omega) | (simp only [St.set, St.ev, upd, ren, renL, id, Nat.reduceEqDiff, reduceIte]; rfl) | (simp only [St.set, St.ev, upd, ren, renL, id, Nat.reduceEqDiff, reduceIte, ContLe]; done) | (exact And.intro rfl (And.intro (by first | exact Nat.le_of_ble_eq_true rfl | omega) (by first | exact Nat.le_of_ble_eq_true rfl | omega))) | (first | (simp only [St.set, St.ev, upd, ren, renL, id, Nat.reduceEqDiff, reduceIte]; exact contLe_nil) | ((repeat' (first | exact contLe_nil | refine contLe_cons (.inr ⟨?_, rfl⟩) ?_ | exact contLe_refl (n0 := 2) (fun k hk => by first | rfl | (simp only [id]; done) | ((repeat rw [if_neg (by omega)]); done)) (by first | exact Nat.le_refl _ | omega | (simp only; omega)) (by assumption))); all_goals (first | rfl | (simp only [St.set, St.ev, upd, ren, renL, id, Nat.reduceEqDiff, reduceIte]; done) | ((try simp only [St.set, St.ev, upd, ren, renL, id, Nat.reduceEqDiff, reduceIte]); first | (with_reducible exact av_int (by omega)) | (with_reducible exact av_sl (by first | omega | (simp; done) | (simp; omega)) (by first | omega | (simp; done) | (simp; omega)))) | (simp only [St.set, St.ev, upd, ren, renL, id, Nat.reduceEqDiff, reduceIte, Int.natCast_add, Int.natCast_one, Int.cast_ofNat_Int, Int.natCast_zero]; done) | (simp only [St.set, St.ev, upd, ren, renL, id, Nat.reduceEqDiff, reduceIte]) | skip); done)) | (simp only [St.set, St.ev, upd, ren, renL, id, Nat.reduceEqDiff, reduceIte, ContLe]) | skip)))); (case' h1 => (focus ((repeat' (with_reducible first | exact TmpLe.bot | refine TmpLe.upd ?_ (by first | rfl | (simp only [AV.lt, decide_eq_true_eq]; first | done | omega)) ?_)); all_goals (first | rfl | (simp only [St.set, St.ev, upd, ren, renL, id, Nat.reduceEqDiff, reduceIte]; done) | ((try simp only [St.set, St.ev, upd, ren, renL, id, Nat.reduceEqDiff, reduceIte]); first | (with_reducible exact av_int (by omega)) | (with_reducible exact av_sl (by first | omega | (simp; done) | (simp; omega)) (by first | omega | (simp; done) | (simp; omega)))) | (simp only [St.set, St.ev, upd, ren, renL, id, Nat.reduceEqDiff, reduceIte, Int.natCast_add, Int.natCast_one, Int.cast_ofNat_Int, Int.natCast_zero]; done) | (simp only [St.set, St.ev, upd, ren, renL, id, Nat.reduceEqDiff, reduceIte]) | skip)))); (case h3 => (focus (first | (simp only [id, List.map_cons, List.map_nil]; decide) | decide | (simp; done) | (simp; omega) | fail))); (case h5 => (intro d hd; first | (simp at hd; done) | (simp only [List.mem_cons, List.not_mem_nil, or_false] at hd; first | (simp only [id]; omega) | (split <;> omega) | ((repeat' split) <;> omega) | ((try simp only); repeat' split; all_goals omega)))); (case h4 => (intro o l h; first | (cases h; done) | (have hlt0 := m0_lt (by assumption) h; (try (simp only at hlt0)); first | omega | (simp only; omega) | exact ⟨by (first | rfl | (simp only [id]; done) | ((repeat rw [if_neg (by omega)]); done)), by first | omega | (simp only; omega)⟩))))
    repeat' (first | ((first | with_reducible refine aord_nil ?_ | refine awp_skip ?_ | refine awp_exit ?_ | refine awp_ret ?_); try simp only [rdA, Nat.reduceEqDiff, ifA, ifB, reduceIte]) | (simp only [doneH]; simp only [ressK, resK, wrapR, go_sem, Nat.reduceAdd, Nat.reduceMul, Nat.reduceEqDiff, Nat.reduceLT, reduceIte, reduceCtorEq]) | fail)
    exact hQ N fs (r + 1) (by omega) (by omega) (by omega)


end Go.Proofs.Ytacmgdaonacmeaa
