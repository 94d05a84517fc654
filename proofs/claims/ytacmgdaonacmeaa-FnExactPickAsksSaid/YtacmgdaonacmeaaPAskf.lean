/- Contracts of functions of the program. -/
import Derived.Test.YtacmgdaonacmeaaPAske
import Derived.ScopeJumps
namespace Go.Proofs.Ytacmgdaonacmeaa
open Go Go.Ab
set_option linter.all false
set_option maxHeartbeats 4000000

theorem canAsk_sat {d : Nat} (hd : d ≤ 5) (at_ : Int) {en : List (List Int) → Prop} {kd : List (List Int) → Nat} (hKi : Kinds d en kd) (hkb : ∀ L : List (List Int), L.length ≤ 120 → kd L ≤ 120) (hkd : SatH Try.prog 94 (fun al h n K => ∃ (O : Nat) (f : Nat → Nat) (xss : List (List Int)), al = [.sl O 0 xss.length 1 none, .val (.int .i64 at_)] ∧ RowsOf h n O f xss ∧ GoodL d xss ∧ xss.length ≤ 120 ∧ K (.val (.int .i64 ((kd xss : Nat) : Int))) h n)) : ∀ m : Nat, SatH Try.prog 78 (fun al h n K0 => ∃ (A : Nat) (b : Bool) (fs : List (Int × Int)), al = [.val (.int .i64 d), .sl A 0 fs.length 2 none, .val (.int .i64 at_), .val (.int .i64 m)] ∧ h A = some ⟨b, .ints .i64 (flF fs)⟩ ∧ itemsIn d fs ∧ fs.length + m ≤ 90 ∧ ∀ (v : Bool) (N : Nat), (v = true ↔ canP en d m (ordF d fs)) → n ≤ N → K0 (.val (.bool v)) h N) := by
  intro m
  induction m with
  | zero =>
    refine satH_intro tabOk Try.func78 rfl 76 rfl [.tmp 8] rfl ?_
    rintro F W h n al K0 ⟨A, b, fs, rfl, hA, hi, hl, hQ⟩
    refine ⟨Nat.le_of_ble_eq_true rfl, fun m0 hm0 hcl hlt => ?_⟩
    simp only [initT]
    have hAn := (hcl A _ hA).1
    have hord := ordersOf_sat hd (fun i j => wT fs d i j) d
    have hLc := ordF_cap (fs := fs) hd
    have hLg := ordF_good (fs := fs) hd
    have eR := ordF_R hi
    have m1 : (A = n) = False := eq_false (by omega)
    have m2 : ∀ k, (A = n + k) = False := fun k => eq_false (by omega)
    have m3 : (n = A) = False := eq_false (by omega)
    have m4 : ∀ k, (n + k = A) = False := fun k => eq_false (by omega)


    repeat' (first | refine awp_seq_k fun K hK => ?_ | ((with_reducible refine hK _ ?_); clear hK K) | ((with_reducible refine aord_plain fun K hK => ?_); simp only [go_sem, Nat.reduceAdd, Nat.reduceMul, Nat.reduceEqDiff, Nat.reduceLT, reduceIte, reduceCtorEq, hA, m1, m2, m3, m4, nmA, Nat.reduceAdd, ifA, ifB, hA, m1, m2, m3, m4, mat.matL]) | ((first | with_reducible refine aord_nil ?_ | refine awp_skip ?_ | refine awp_exit ?_ | refine awp_ret ?_); try simp only [rdA, Nat.reduceEqDiff, ifA, ifB, reduceIte]) | (refine awp_region tabOk rfl ?_; simp only [prep, pickO, lsA, lsB, lsC, lsD, lsE, lsF, lsG]) | ((with_reducible refine And.intro ?_ ?_); (focus omega)) | ((with_reducible refine And.intro (?_ : enters Try.prog 46) ?_); (focus exact Try.call46); (refine callX_satH specReach_sat ?_); simp only [go_sem, and_assoc, List.nil_append, List.append_nil, List.cons_append, Nat.reduceEqDiff, reduceIte, reduceCtorEq, hA, m1, m2, m3, m4, nmA, Nat.reduceAdd, ifA, ifB, hA, m1, m2, m3, m4, mat.matL]) | fail)
    refine ⟨d, rfl, b, fs, rfl, rfl, rfl, hd, by omega, hi, fun H M O f hM hfr hNM hNO => ?_⟩
    have HN : H n = some ⟨true, .ints .i64 []⟩ := (hfr n (by omega)).trans (if_pos rfl)


    repeat' (first | ((with_reducible refine hK _ ?_); clear hK K) | ((with_reducible refine aord_plain fun K hK => ?_); simp only [go_sem, Nat.reduceAdd, Nat.reduceMul, Nat.reduceEqDiff, Nat.reduceLT, reduceIte, reduceCtorEq, HN, nmA, Nat.reduceAdd, ifA, ifB, HN, mat.matL]) | ((with_reducible refine And.intro (?_ : enters Try.prog 45) ?_); (focus exact Try.call45); (refine callX_satH hord ?_); simp only [go_sem, and_assoc, List.nil_append, List.append_nil, List.cons_append, Nat.reduceEqDiff, reduceIte, reduceCtorEq, HN, nmA, Nat.reduceAdd, ifA, ifB, HN, mat.matL]) | fail)
    refine ⟨O, true, [], rfl, rfl, rfl, rfl, f, hM, Beg.nil, by simp, by rw [← eR]; exact hLc, fun H2 N2 P2 g2 r1 r2 r3 r4 => ?_⟩
    rw [← eR] at r1 r4 ⊢
    clear hord eR
    have hPN := r1.outn
    have hdrop : ∀ (o : Nat) (ob : Ob), h o = some ob → H2 o = some ob := fun o ob ho => by rw [r2 o (by have := (hcl o _ ho).1; omega), hfr o (by have := (hcl o _ ho).1; omega), if_neg (by have := (hcl o _ ho).1; omega)]; exact ho
    have hk1 := hkb _ hLc
    generalize ordF d fs = L at *


    repeat' (first | refine awp_seq_k fun K hK => ?_ | ((with_reducible refine hK _ ?_); clear hK K) | ((with_reducible refine aord_plain fun K hK => ?_); simp only [go_sem, Nat.reduceAdd, Nat.reduceMul, Nat.reduceEqDiff, Nat.reduceLT, reduceIte, reduceCtorEq, mat.matL]) | ((first | with_reducible refine aord_nil ?_ | refine awp_skip ?_ | refine awp_exit ?_ | refine awp_ret ?_); try simp only [rdA, Nat.reduceEqDiff, ifA, ifB, reduceIte]) | (refine awp_region tabOk rfl ?_; simp only [prep, pickO, lsA, lsB, lsC, lsD, lsE, lsF, lsG]) | ((with_reducible refine And.intro (?_ : enters Try.prog 94) ?_); (focus exact Try.call94); (refine callX_satH hkd ?_); simp only [go_sem, and_assoc, List.nil_append, List.append_nil, List.cons_append, Nat.reduceEqDiff, reduceIte, reduceCtorEq, mat.matL]) | fail)
    refine ⟨g2, L, rfl, r1, hLg, hLc, ?_⟩
    by_cases hen : en L
    · have h1 := (hKi.one L hLg).1 hen
      have e1 : decide (((kd L : Nat) : Int) < 2) = true := decide_eq_true (by omega)


      repeat' ((fail_if_success (with_reducible refine isRetQ ?_)); (first | refine awp_seq_k fun K hK => ?_ | ((with_reducible refine hK _ ?_); clear hK K) | ((with_reducible refine aord_plain fun K hK => ?_); simp only [go_sem, Nat.reduceAdd, Nat.reduceMul, Nat.reduceEqDiff, Nat.reduceLT, reduceIte, reduceCtorEq, e1, nmA, Nat.reduceAdd, ifA, ifB, e1, mat.matL]) | ((first | with_reducible refine aord_nil ?_ | refine awp_skip ?_ | refine awp_exit ?_ | refine awp_ret ?_); try simp only [rdA, Nat.reduceEqDiff, ifA, ifB, reduceIte]) | (refine awp_region tabOk rfl ?_; simp only [prep, pickO, lsA, lsB, lsC, lsD, lsE, lsF, lsG]) | ((with_reducible apply awp_cond); (focus (simp only [St.ev, St.set, upd, Nat.reduceEqDiff, reduceIte, ifA, ifB, e1, nmA, Nat.reduceAdd, ifA, ifB]; exact rfl)); all_goals (intro hb; first | (cases hb; done) | ((try rw [hb]); (try simp only [dcA, dcB, dcC, dcD, dcE, Bool.not_eq_true', Bool.not_eq_false'] at hb)))) | fail))
      refine awp_weaken (s' := ⟨upd bot 8 (.val (.bool true)), h, N2⟩) (Wk.sub (tsd tsd0 rfl) hdrop rfl) ?_
      repeat' (first | ((first | with_reducible refine aord_nil ?_ | refine awp_skip ?_ | refine awp_exit ?_ | refine awp_ret ?_); try simp only [rdA, Nat.reduceEqDiff, ifA, ifB, reduceIte]) | fail)
      exact hQ true N2 ⟨fun _ => hen, fun _ => rfl⟩ (by omega)
    · have h1 : 2 ≤ kd L := by
        rcases Nat.lt_or_ge (kd L) 2 with c | c
        · exact (hen ((hKi.one L hLg).2 (by omega))).elim
        · exact c
      have h2 := dbl_pos h1 hk1
      have e1 : decide (((kd L : Nat) : Int) < 2) = false := decide_eq_false (by omega)
      have e2 : decide (((dbl (kd L) 1 0 : Nat) : Int) > 0) = true := decide_eq_true (by omega)


      repeat' (first | refine awp_seq_k fun K hK => ?_ | ((with_reducible refine hK _ ?_); clear hK K) | ((with_reducible refine aord_plain fun K hK => ?_); simp only [go_sem, Nat.reduceAdd, Nat.reduceMul, Nat.reduceEqDiff, Nat.reduceLT, reduceIte, reduceCtorEq, e1, e2, nmA, Nat.reduceAdd, ifA, ifB, e1, e2, mat.matL, Int.natCast_zero, Int.cast_ofNat_Int]) | ((first | with_reducible refine aord_nil ?_ | refine awp_skip ?_ | refine awp_exit ?_ | refine awp_ret ?_); try simp only [rdA, Nat.reduceEqDiff, ifA, ifB, reduceIte]) | (refine awp_region tabOk rfl ?_; simp only [prep, pickO, lsA, lsB, lsC, lsD, lsE, lsF, lsG]) | ((with_reducible apply awp_cond); (focus (simp only [St.ev, St.set, upd, Nat.reduceEqDiff, reduceIte, ifA, ifB, e1, e2, nmA, Nat.reduceAdd, ifA, ifB]; exact rfl)); all_goals (intro hb; first | (cases hb; done) | ((try rw [hb]); (try simp only [dcA, dcB, dcC, dcD, dcE, Bool.not_eq_true', Bool.not_eq_false'] at hb)))) | ((with_reducible refine And.intro (?_ : enters Try.prog 95) ?_); (focus exact Try.call95); (refine callX_sat specLog_sat ?_); simp only [go_sem, and_assoc, List.nil_append, List.append_nil, List.cons_append, Nat.reduceEqDiff, reduceIte, reduceCtorEq, e1, e2, nmA, Nat.reduceAdd, ifA, ifB, e1, e2, mat.matL, Int.natCast_zero, Int.cast_ofNat_Int]) | fail)
      refine ⟨kd L, rfl, by omega, ?_⟩
      repeat' ((fail_if_success (with_reducible refine isRetQ ?_)); (first | refine awp_seq_k fun K hK => ?_ | ((with_reducible refine hK _ ?_); clear hK K) | ((with_reducible refine aord_plain fun K hK => ?_); simp only [go_sem, Nat.reduceAdd, Nat.reduceMul, Nat.reduceEqDiff, Nat.reduceLT, reduceIte, reduceCtorEq, e1, e2, nmA, Nat.reduceAdd, ifA, ifB, e1, e2, mat.matL, Int.natCast_zero, Int.cast_ofNat_Int]) | ((first | with_reducible refine aord_nil ?_ | refine awp_skip ?_ | refine awp_exit ?_ | refine awp_ret ?_); try simp only [rdA, Nat.reduceEqDiff, ifA, ifB, reduceIte]) | (refine awp_region tabOk rfl ?_; simp only [prep, pickO, lsA, lsB, lsC, lsD, lsE, lsF, lsG]) | ((with_reducible apply awp_cond); (focus (simp only [St.ev, St.set, upd, Nat.reduceEqDiff, reduceIte, ifA, ifB, e1, e2, nmA, Nat.reduceAdd, ifA, ifB]; exact rfl)); all_goals (intro hb; first | (cases hb; done) | ((try rw [hb]); (try simp only [dcA, dcB, dcC, dcD, dcE, Bool.not_eq_true', Bool.not_eq_false'] at hb)))) | fail))
      refine awp_weaken (s' := ⟨upd bot 8 (.val (.bool false)), h, N2⟩) (Wk.sub (tsd tsd0 rfl) hdrop rfl) ?_
      repeat' (first | ((first | with_reducible refine aord_nil ?_ | refine awp_skip ?_ | refine awp_exit ?_ | refine awp_ret ?_); try simp only [rdA, Nat.reduceEqDiff, ifA, ifB, reduceIte]) | fail)
      exact hQ false N2 ⟨fun e => (by cases e), fun e => (hen e).elim⟩ (by omega)
  | succ m ih =>
    refine satH_intro tabOk Try.func78 rfl 76 rfl [.tmp 8] rfl ?_
    rintro F W h n al K0 ⟨A, b, fs, rfl, hA, hi, hl, hQ⟩
    refine ⟨Nat.le_of_ble_eq_true rfl, fun m0 hm0 hcl hlt => ?_⟩
    simp only [initT]
    have hAn := (hcl A _ hA).1
    have hord := ordersOf_sat hd (fun i j => wT fs d i j) d
    have hLc := ordF_cap (fs := fs) hd
    have hLg := ordF_good (fs := fs) hd
    have eR := ordF_R hi
    have hmr : ∀ a c : Int, ordF d (fs ++ [(a, c)]) = (ordF d fs).filter (agB [(a, c)]) := fun a c => ordF_more
    have m1 : (A = n) = False := eq_false (by omega)
    have m2 : ∀ k, (A = n + k) = False := fun k => eq_false (by omega)
    have m3 : (n = A) = False := eq_false (by omega)
    have m4 : ∀ k, (n + k = A) = False := fun k => eq_false (by omega)


    repeat' (first | refine awp_seq_k fun K hK => ?_ | ((with_reducible refine hK _ ?_); clear hK K) | ((with_reducible refine aord_plain fun K hK => ?_); simp only [go_sem, Nat.reduceAdd, Nat.reduceMul, Nat.reduceEqDiff, Nat.reduceLT, reduceIte, reduceCtorEq, hA, m1, m2, m3, m4, nmA, Nat.reduceAdd, ifA, ifB, hA, m1, m2, m3, m4, mat.matL]) | ((first | with_reducible refine aord_nil ?_ | refine awp_skip ?_ | refine awp_exit ?_ | refine awp_ret ?_); try simp only [rdA, Nat.reduceEqDiff, ifA, ifB, reduceIte]) | (refine awp_region tabOk rfl ?_; simp only [prep, pickO, lsA, lsB, lsC, lsD, lsE, lsF, lsG]) | ((with_reducible refine And.intro ?_ ?_); (focus omega)) | ((with_reducible refine And.intro (?_ : enters Try.prog 46) ?_); (focus exact Try.call46); (refine callX_satH specReach_sat ?_); simp only [go_sem, and_assoc, List.nil_append, List.append_nil, List.cons_append, Nat.reduceEqDiff, reduceIte, reduceCtorEq, hA, m1, m2, m3, m4, nmA, Nat.reduceAdd, ifA, ifB, hA, m1, m2, m3, m4, mat.matL]) | fail)
    refine ⟨d, rfl, b, fs, rfl, rfl, rfl, hd, by omega, hi, fun H M O f hM hfr hNM hNO => ?_⟩
    have HN : H n = some ⟨true, .ints .i64 []⟩ := (hfr n (by omega)).trans (if_pos rfl)


    repeat' (first | ((with_reducible refine hK _ ?_); clear hK K) | ((with_reducible refine aord_plain fun K hK => ?_); simp only [go_sem, Nat.reduceAdd, Nat.reduceMul, Nat.reduceEqDiff, Nat.reduceLT, reduceIte, reduceCtorEq, HN, nmA, Nat.reduceAdd, ifA, ifB, HN, mat.matL]) | ((with_reducible refine And.intro (?_ : enters Try.prog 45) ?_); (focus exact Try.call45); (refine callX_satH hord ?_); simp only [go_sem, and_assoc, List.nil_append, List.append_nil, List.cons_append, Nat.reduceEqDiff, reduceIte, reduceCtorEq, HN, nmA, Nat.reduceAdd, ifA, ifB, HN, mat.matL]) | fail)
    refine ⟨O, true, [], rfl, rfl, rfl, rfl, f, hM, Beg.nil, by simp, by rw [← eR]; exact hLc, fun H2 N2 P2 g2 r1 r2 r3 r4 => ?_⟩
    rw [← eR] at r1 r4 ⊢
    clear hord eR
    have hPN := r1.outn
    have hrl := r1.lt
    have hfr2 : ∀ u, u < n → H2 u = h u := fun u hu => by rw [r2 u (by omega), hfr u (by omega), if_neg (by omega)]
    have hA2 : H2 A = some ⟨b, .ints .i64 (flF fs)⟩ := (hfr2 A hAn).trans hA
    clear hfr r2 HN
    have hk1 := hkb _ hLc
    generalize ordF d fs = L at *
    have hrw := hLg.rowle hd


    repeat' (first | refine awp_seq_k fun K hK => ?_ | ((with_reducible refine hK _ ?_); clear hK K) | ((with_reducible refine aord_plain fun K hK => ?_); simp only [go_sem, Nat.reduceAdd, Nat.reduceMul, Nat.reduceEqDiff, Nat.reduceLT, reduceIte, reduceCtorEq, mat.matL]) | ((first | with_reducible refine aord_nil ?_ | refine awp_skip ?_ | refine awp_exit ?_ | refine awp_ret ?_); try simp only [rdA, Nat.reduceEqDiff, ifA, ifB, reduceIte]) | (refine awp_region tabOk rfl ?_; simp only [prep, pickO, lsA, lsB, lsC, lsD, lsE, lsF, lsG]) | ((with_reducible refine And.intro (?_ : enters Try.prog 94) ?_); (focus exact Try.call94); (refine callX_satH hkd ?_); simp only [go_sem, and_assoc, List.nil_append, List.append_nil, List.cons_append, Nat.reduceEqDiff, reduceIte, reduceCtorEq, mat.matL]) | fail)
    refine ⟨g2, L, rfl, r1, hLg, hLc, ?_⟩
    by_cases hen : en L
    · have h1 := (hKi.one L hLg).1 hen
      have e1 : decide (((kd L : Nat) : Int) < 2) = true := decide_eq_true (by omega)


      repeat' ((fail_if_success (with_reducible refine isRetQ ?_)); (first | refine awp_seq_k fun K hK => ?_ | ((with_reducible refine hK _ ?_); clear hK K) | ((with_reducible refine aord_plain fun K hK => ?_); simp only [go_sem, Nat.reduceAdd, Nat.reduceMul, Nat.reduceEqDiff, Nat.reduceLT, reduceIte, reduceCtorEq, e1, nmA, Nat.reduceAdd, ifA, ifB, e1, mat.matL]) | ((first | with_reducible refine aord_nil ?_ | refine awp_skip ?_ | refine awp_exit ?_ | refine awp_ret ?_); try simp only [rdA, Nat.reduceEqDiff, ifA, ifB, reduceIte]) | (refine awp_region tabOk rfl ?_; simp only [prep, pickO, lsA, lsB, lsC, lsD, lsE, lsF, lsG]) | ((with_reducible apply awp_cond); (focus (simp only [St.ev, St.set, upd, Nat.reduceEqDiff, reduceIte, ifA, ifB, e1, nmA, Nat.reduceAdd, ifA, ifB]; exact rfl)); all_goals (intro hb; first | (cases hb; done) | ((try rw [hb]); (try simp only [dcA, dcB, dcC, dcD, dcE, Bool.not_eq_true', Bool.not_eq_false'] at hb)))) | fail))
      refine awp_weaken (s' := ⟨upd bot 8 (.val (.bool true)), h, N2⟩) (Wk.sub (tsd tsd0 rfl) (fun o ob ho => (hfr2 o (hcl o _ ho).1).trans ho) rfl) ?_
      repeat' (first | ((first | with_reducible refine aord_nil ?_ | refine awp_skip ?_ | refine awp_exit ?_ | refine awp_ret ?_); try simp only [rdA, Nat.reduceEqDiff, ifA, ifB, reduceIte]) | fail)
      exact hQ true N2 ⟨fun _ => can_ask.2 (.inl hen), fun _ => rfl⟩ (by omega)
    · have h1 : 2 ≤ kd L := by
        rcases Nat.lt_or_ge (kd L) 2 with c | c
        · exact (hen ((hKi.one L hLg).2 (by omega))).elim
        · exact c
      have e1 : decide (((kd L : Nat) : Int) < 2) = false := decide_eq_false (by omega)
      rcases Nat.lt_or_ge (m + 1) (dbl (kd L) 1 0) with hbig | hsm
      · have e2 : decide (((dbl (kd L) 1 0 : Nat) : Int) > (m : Int) + 1) = true := decide_eq_true (by omega)


        repeat' (first | refine awp_seq_k fun K hK => ?_ | ((with_reducible refine hK _ ?_); clear hK K) | ((with_reducible refine aord_plain fun K hK => ?_); simp only [go_sem, Nat.reduceAdd, Nat.reduceMul, Nat.reduceEqDiff, Nat.reduceLT, reduceIte, reduceCtorEq, e1, e2, nmA, Nat.reduceAdd, ifA, ifB, e1, e2, mat.matL, Int.natCast_add, Int.natCast_one, Int.cast_ofNat_Int]) | ((first | with_reducible refine aord_nil ?_ | refine awp_skip ?_ | refine awp_exit ?_ | refine awp_ret ?_); try simp only [rdA, Nat.reduceEqDiff, ifA, ifB, reduceIte]) | (refine awp_region tabOk rfl ?_; simp only [prep, pickO, lsA, lsB, lsC, lsD, lsE, lsF, lsG]) | ((with_reducible apply awp_cond); (focus (simp only [St.ev, St.set, upd, Nat.reduceEqDiff, reduceIte, ifA, ifB, e1, e2, nmA, Nat.reduceAdd, ifA, ifB]; exact rfl)); all_goals (intro hb; first | (cases hb; done) | ((try rw [hb]); (try simp only [dcA, dcB, dcC, dcD, dcE, Bool.not_eq_true', Bool.not_eq_false'] at hb)))) | ((with_reducible refine And.intro (?_ : enters Try.prog 95) ?_); (focus exact Try.call95); (refine callX_sat specLog_sat ?_); simp only [go_sem, and_assoc, List.nil_append, List.append_nil, List.cons_append, Nat.reduceEqDiff, reduceIte, reduceCtorEq, e1, e2, nmA, Nat.reduceAdd, ifA, ifB, e1, e2, mat.matL, Int.natCast_add, Int.natCast_one, Int.cast_ofNat_Int]) | fail)
        refine ⟨kd L, rfl, by omega, ?_⟩
        repeat' ((fail_if_success (with_reducible refine isRetQ ?_)); (first | refine awp_seq_k fun K hK => ?_ | ((with_reducible refine hK _ ?_); clear hK K) | ((with_reducible refine aord_plain fun K hK => ?_); simp only [go_sem, Nat.reduceAdd, Nat.reduceMul, Nat.reduceEqDiff, Nat.reduceLT, reduceIte, reduceCtorEq, e1, e2, nmA, Nat.reduceAdd, ifA, ifB, e1, e2, mat.matL, Int.natCast_add, Int.natCast_one, Int.cast_ofNat_Int]) | ((first | with_reducible refine aord_nil ?_ | refine awp_skip ?_ | refine awp_exit ?_ | refine awp_ret ?_); try simp only [rdA, Nat.reduceEqDiff, ifA, ifB, reduceIte]) | (refine awp_region tabOk rfl ?_; simp only [prep, pickO, lsA, lsB, lsC, lsD, lsE, lsF, lsG]) | ((with_reducible apply awp_cond); (focus (simp only [St.ev, St.set, upd, Nat.reduceEqDiff, reduceIte, ifA, ifB, e1, e2, nmA, Nat.reduceAdd, ifA, ifB]; exact rfl)); all_goals (intro hb; first | (cases hb; done) | ((try rw [hb]); (try simp only [dcA, dcB, dcC, dcD, dcE, Bool.not_eq_true', Bool.not_eq_false'] at hb)))) | fail))
        refine awp_weaken (s' := ⟨upd bot 8 (.val (.bool false)), h, N2⟩) (Wk.sub (tsd tsd0 rfl) (fun o ob ho => (hfr2 o (hcl o _ ho).1).trans ho) rfl) ?_
        repeat' (first | ((first | with_reducible refine aord_nil ?_ | refine awp_skip ?_ | refine awp_exit ?_ | refine awp_ret ?_); try simp only [rdA, Nat.reduceEqDiff, ifA, ifB, reduceIte]) | fail)
        refine hQ false N2 ⟨fun e => (by cases e), fun e => ?_⟩ (by omega)
        have := dbl_pow (show 0 < kd L by omega) hk1 (can_bits hKi _ hLg e)
        omega
      · have e2 : decide (((dbl (kd L) 1 0 : Nat) : Int) > (m : Int) + 1) = false := decide_eq_false (by omega)


        repeat' (first | refine awp_seq_k fun K hK => ?_ | ((with_reducible refine hK _ ?_); clear hK K) | ((with_reducible refine aord_plain fun K hK => ?_); simp only [go_sem, Nat.reduceAdd, Nat.reduceMul, Nat.reduceEqDiff, Nat.reduceLT, reduceIte, reduceCtorEq, e1, e2, nmA, Nat.reduceAdd, ifA, ifB, e1, e2, mat.matL, Int.natCast_add, Int.natCast_one, Int.cast_ofNat_Int]) | ((first | with_reducible refine aord_nil ?_ | refine awp_skip ?_ | refine awp_exit ?_ | refine awp_ret ?_); try simp only [rdA, Nat.reduceEqDiff, ifA, ifB, reduceIte]) | (refine awp_region tabOk rfl ?_; simp only [prep, pickO, lsA, lsB, lsC, lsD, lsE, lsF, lsG]) | ((with_reducible apply awp_cond); (focus (simp only [St.ev, St.set, upd, Nat.reduceEqDiff, reduceIte, ifA, ifB, e1, e2, nmA, Nat.reduceAdd, ifA, ifB]; exact rfl)); all_goals (intro hb; first | (cases hb; done) | ((try rw [hb]); (try simp only [dcA, dcB, dcC, dcD, dcE, Bool.not_eq_true', Bool.not_eq_false'] at hb)))) | ((with_reducible refine And.intro (?_ : enters Try.prog 95) ?_); (focus exact Try.call95); (refine callX_sat specLog_sat ?_); simp only [go_sem, and_assoc, List.nil_append, List.append_nil, List.cons_append, Nat.reduceEqDiff, reduceIte, reduceCtorEq, e1, e2, nmA, Nat.reduceAdd, ifA, ifB, e1, e2, mat.matL, Int.natCast_add, Int.natCast_one, Int.cast_ofNat_Int]) | fail)
        refine ⟨kd L, rfl, by omega, ?_⟩
        repeat' (first | refine awp_seq_k fun K hK => ?_ | ((with_reducible refine hK _ ?_); clear hK K) | ((with_reducible refine aord_plain fun K hK => ?_); simp only [go_sem, Nat.reduceAdd, Nat.reduceMul, Nat.reduceEqDiff, Nat.reduceLT, reduceIte, reduceCtorEq, e1, e2, nmA, Nat.reduceAdd, ifA, ifB, e1, e2, mat.matL, Int.natCast_add, Int.natCast_one, Int.cast_ofNat_Int]) | refine awp_block ?_ | ((first | with_reducible refine aord_nil ?_ | refine awp_skip ?_ | refine awp_exit ?_ | refine awp_ret ?_); try simp only [rdA, Nat.reduceEqDiff, ifA, ifB, reduceIte]) | (refine awp_region tabOk rfl ?_; simp only [prep, pickO, lsA, lsB, lsC, lsD, lsE, lsF, lsG]) | ((with_reducible apply awp_cond); (focus (simp only [St.ev, St.set, upd, Nat.reduceEqDiff, reduceIte, ifA, ifB, e1, e2, nmA, Nat.reduceAdd, ifA, ifB]; exact rfl)); all_goals (intro hb; first | (cases hb; done) | ((try rw [hb]); (try simp only [dcA, dcB, dcC, dcD, dcE, Bool.not_eq_true', Bool.not_eq_false'] at hb)))) | fail)
        refine awp_loop (fun q : Hp × Nat × Nat => ⟨upd (upd (upd (upd (upd (upd bot 11 (.val (.int .i64 q.2.2))) 9 (.sl P2 0 L.length 1 none)) 3 (.val (.int .i64 ((m : Int) + 1)))) 2 (.val (.int .i64 at_))) 1 (.sl A 0 fs.length 2 none)) 0 (.val (.int .i64 d)), q.1, q.2.1⟩) (fun q => q.2.2 ≤ d ∧ N2 ≤ q.2.1 ∧ (∀ u, u < N2 → q.1 u = H2 u) ∧ ∀ i j : Nat, i < j → j < d → i < q.2.2 → ¬ okQ en d m L i j) (fun q => d - q.2.2) (H2, N2, 0) ⟨Nat.zero_le _, Nat.le_refl _, fun _ _ => rfl, fun i j _ _ h => by dsimp only at h; omega⟩ ?_ ?_
        · exact Wk.sub (tsd (tsd (tsd (tsd (tsd (tsd tsd0 rfl) rfl) rfl) rfl) rfl) rfl) (fun _ _ h => h) rfl
        rintro ⟨G, N, i⟩ ⟨hid, hNN, hG, hno⟩
        dsimp only at hid hNN hG hno ⊢
        rcases Nat.lt_or_ge i d with hi2 | hi2
        · skip


          repeat' (first | refine awp_seq_k fun K hK => ?_ | ((with_reducible refine hK _ ?_); clear hK K) | (clear hK K; (with_reducible refine hK _ ?_); clear hK K) | ((with_reducible refine aord_plain fun K hK => ?_); simp only [go_sem, Nat.reduceAdd, Nat.reduceMul, Nat.reduceEqDiff, Nat.reduceLT, reduceIte, reduceCtorEq, mat.matL]) | refine awp_block ?_ | ((first | with_reducible refine aord_nil ?_ | refine awp_skip ?_ | refine awp_exit ?_ | refine awp_ret ?_); try simp only [rdA, Nat.reduceEqDiff, ifA, ifB, reduceIte]) | (refine awp_region tabOk rfl ?_; simp only [prep, pickO, lsA, lsB, lsC, lsD, lsE, lsF, lsG]) | ((with_reducible apply awp_cond); (focus (simp only [St.ev, St.set, upd, Nat.reduceEqDiff, reduceIte, ifA, ifB]; exact rfl)); all_goals (intro hb; first | (cases hb; done) | ((try rw [hb]); (try simp only [dcA, dcB, dcC, dcD, dcE, Bool.not_eq_true', Bool.not_eq_false'] at hb)))) | ((with_reducible refine And.intro ?_ ?_); (focus omega)) | (exfalso; omega) | fail)
          refine awp_loop (fun q : Hp × Nat × Nat => ⟨upd (upd (upd (upd (upd (upd (upd bot 12 (.val (.int .i64 q.2.2))) 11 (.val (.int .i64 i))) 9 (.sl P2 0 L.length 1 none)) 3 (.val (.int .i64 ((m : Int) + 1)))) 2 (.val (.int .i64 at_))) 1 (.sl A 0 fs.length 2 none)) 0 (.val (.int .i64 d)), q.1, q.2.1⟩) (fun q => q.2.2 ≤ d ∧ i + 1 ≤ q.2.2 ∧ N2 ≤ q.2.1 ∧ (∀ u, u < N2 → q.1 u = H2 u) ∧ (∀ i' j : Nat, i' < j → j < d → i' < i → ¬ okQ en d m L i' j) ∧ ∀ j : Nat, i < j → j < q.2.2 → ¬ okQ en d m L i j) (fun q => d - q.2.2) (G, N, i + 1) ⟨by dsimp only; omega, Nat.le_refl _, hNN, hG, hno, fun j h1 h2 => by dsimp only at h2; omega⟩ ?_ ?_
          · exact Wk.sub (tsd (tsd (tsd (tsd (tsd (tsd (tsd tsd0 rfl) rfl) rfl) rfl) rfl) rfl) rfl) (fun _ _ h => h) rfl
          clear hno hG hNN
          rintro ⟨G, N, j⟩ ⟨hjd, hij, hNN, hG, hno, hnj⟩
          dsimp only at hjd hij hNN hG hno hnj ⊢
          rcases Nat.lt_or_ge j d with hj2 | hj2
          · have hAG : G A = some ⟨b, .ints .i64 (flF fs)⟩ := (hG A (by omega)).trans hA2
            have rG : RowsOf G N P2 g2 L := r1.keepN hNN (hG _ hPN) (fun k hk => hG _ (hrl k hk).1)
            have hah : L.filter (ahP (i : Int) (j : Int)) = L.filter (agB [((i : Int), (j : Int))]) := List.filter_congr fun p hp => (ag_one (a := (i : Int)) (c := (j : Int)) (hLg.2 p hp).1 (hLg.2 p hp).2 ⟨by omega, by omega⟩ ⟨by omega, by omega⟩ (by omega)).1
            have hsum := part_sum hLg (show i < j by omega) hj2
            have hm1 := hmr (i : Int) (j : Int)
            have hm2 := hmr (j : Int) (i : Int)
            have hq : okQ en d m L i j ↔ (L.filter (agB [((i : Int), (j : Int))]) ≠ [] ∧ L.filter (agB [((j : Int), (i : Int))]) ≠ [] ∧ canP en d m (L.filter (agB [((i : Int), (j : Int))])) ∧ canP en d m (L.filter (agB [((j : Int), (i : Int))]))) := Iff.rfl
            generalize hYY : L.filter (agB [((i : Int), (j : Int))]) = Y at *
            generalize hNO : L.filter (agB [((j : Int), (i : Int))]) = NO at *
            have hgo : ¬ okQ en d m L i j → ∀ k : Nat, i < k → k < j + 1 → ¬ okQ en d m L i k := fun h k h1 h2 => by
              rcases Nat.lt_or_ge k j with c | c
              · exact hnj k h1 c
              · obtain rfl : k = j := by omega
                exact h


            repeat' (first | refine awp_seq_k fun K hK => ?_ | ((with_reducible refine hK _ ?_); clear hK K) | (clear hK K; (with_reducible refine hK _ ?_); clear hK K) | ((with_reducible refine aord_plain fun K hK => ?_); simp only [go_sem, Nat.reduceAdd, Nat.reduceMul, Nat.reduceEqDiff, Nat.reduceLT, reduceIte, reduceCtorEq, hAG, nmA, Nat.reduceAdd, ifA, ifB, hAG, mat.matL]) | refine awp_block ?_ | ((first | with_reducible refine aord_nil ?_ | refine awp_skip ?_ | refine awp_exit ?_ | refine awp_ret ?_); try simp only [rdA, Nat.reduceEqDiff, ifA, ifB, reduceIte]) | (refine awp_region tabOk rfl ?_; simp only [prep, pickO, lsA, lsB, lsC, lsD, lsE, lsF, lsG]) | ((with_reducible apply awp_cond); (focus (simp only [St.ev, St.set, upd, Nat.reduceEqDiff, reduceIte, ifA, ifB, hAG, nmA, Nat.reduceAdd, ifA, ifB]; exact rfl)); all_goals (intro hb; first | (cases hb; done) | ((try rw [hb]); (try simp only [dcA, dcB, dcC, dcD, dcE, Bool.not_eq_true', Bool.not_eq_false'] at hb)))) | ((with_reducible refine And.intro ?_ ?_); (focus omega)) | ((with_reducible refine And.intro (?_ : enters Try.prog 68) ?_); (focus exact Try.call68); (refine callX_satH specSplit_sat ?_); simp only [go_sem, and_assoc, List.nil_append, List.append_nil, List.cons_append, Nat.reduceEqDiff, reduceIte, reduceCtorEq, hAG, nmA, Nat.reduceAdd, ifA, ifB, hAG, mat.matL]) | (exfalso; omega) | fail)
            refine ⟨g2, L, rfl, rG, by omega, hrw, by omega, ?_⟩
            rw [hah]
            have eY : (L.length : Int) - ((Y.length : Nat) : Int) = ((NO.length : Nat) : Int) := by omega
            rw [eY]
            rcases Nat.eq_zero_or_pos Y.length with hy0 | hyp
            · have f1 : decide (((Y.length : Nat) : Int) > 0) = false := decide_eq_false (by omega)


              repeat' (first | refine awp_seq_k fun K hK => ?_ | ((with_reducible refine hK _ ?_); clear hK K) | ((with_reducible refine aord_plain fun K hK => ?_); simp only [go_sem, Nat.reduceAdd, Nat.reduceMul, Nat.reduceEqDiff, Nat.reduceLT, reduceIte, reduceCtorEq, hAG, f1, nmA, Nat.reduceAdd, ifA, ifB, hAG, f1, mat.matL]) | ((with_reducible apply aord_guard); (focus (simp only [St.ev, St.set, upd, Nat.reduceEqDiff, reduceIte, ifA, ifB, hAG, f1, nmA, Nat.reduceAdd, ifA, ifB]; exact rfl)); all_goals (intro hb; (try simp only [Bool.not_true, Bool.not_false] at hb); first | (cases hb; done) | ((try rw [hb]); (try simp only [Bool.not_eq_true', Bool.not_eq_false', Bool.and_eq_true, dcA, dcB, dcC, dcD, dcE] at hb); (try (revert hb; with_reducible refine true_imp_iff.2 ?_)); first | (intro K hK; simp only [go_sem, Nat.reduceAdd, Nat.reduceMul, Nat.reduceEqDiff, Nat.reduceLT, reduceIte, reduceCtorEq, hAG, f1, nmA, Nat.reduceAdd, ifA, ifB]) | (simp only [St.ev, St.set, upd, Nat.reduceEqDiff, reduceIte, ifA, ifB, hAG, f1, nmA, Nat.reduceAdd, ifA, ifB]) | skip))) | ((first | with_reducible refine aord_nil ?_ | refine awp_skip ?_ | refine awp_exit ?_ | refine awp_ret ?_); try simp only [rdA, Nat.reduceEqDiff, ifA, ifB, reduceIte]) | (refine awp_region tabOk rfl ?_; simp only [prep, pickO, lsA, lsB, lsC, lsD, lsE, lsF, lsG]) | ((with_reducible apply awp_cond); (focus (simp only [St.ev, St.set, upd, Nat.reduceEqDiff, reduceIte, ifA, ifB, hAG, f1, nmA, Nat.reduceAdd, ifA, ifB]; exact rfl)); all_goals (intro hb; first | (cases hb; done) | ((try rw [hb]); (try simp only [dcA, dcB, dcC, dcD, dcE, Bool.not_eq_true', Bool.not_eq_false'] at hb)))) | ((with_reducible refine And.intro ?_ ?_); (focus omega)) | fail)
              exact ⟨(G, N, j + 1), ⟨by dsimp only; omega, by dsimp only; omega, hNN, hG, hno, hgo fun h => (hq.1 h).1 (List.eq_nil_of_length_eq_zero hy0)⟩, by dsimp only; omega, Wk.sub (tsd (tsd (tsd (tsd (tsd (tsd (tsd tsd0 rfl) rfl) rfl) rfl) rfl) rfl) rfl) (fun _ _ h => h) rfl⟩
            · have f1 : decide (((Y.length : Nat) : Int) > 0) = true := decide_eq_true (by omega)
              rcases Nat.eq_zero_or_pos NO.length with hn0 | hnp
              · have f2 : decide (((NO.length : Nat) : Int) > 0) = false := decide_eq_false (by omega)


                repeat' (first | refine awp_seq_k fun K hK => ?_ | ((with_reducible refine hK _ ?_); clear hK K) | ((with_reducible refine aord_plain fun K hK => ?_); simp only [go_sem, Nat.reduceAdd, Nat.reduceMul, Nat.reduceEqDiff, Nat.reduceLT, reduceIte, reduceCtorEq, hAG, f1, f2, nmA, Nat.reduceAdd, ifA, ifB, hAG, f1, f2, mat.matL]) | ((with_reducible apply aord_guard); (focus (simp only [St.ev, St.set, upd, Nat.reduceEqDiff, reduceIte, ifA, ifB, hAG, f1, f2, nmA, Nat.reduceAdd, ifA, ifB]; exact rfl)); all_goals (intro hb; (try simp only [Bool.not_true, Bool.not_false] at hb); first | (cases hb; done) | ((try rw [hb]); (try simp only [Bool.not_eq_true', Bool.not_eq_false', Bool.and_eq_true, dcA, dcB, dcC, dcD, dcE] at hb); (try (revert hb; with_reducible refine true_imp_iff.2 ?_)); first | (intro K hK; simp only [go_sem, Nat.reduceAdd, Nat.reduceMul, Nat.reduceEqDiff, Nat.reduceLT, reduceIte, reduceCtorEq, hAG, f1, f2, nmA, Nat.reduceAdd, ifA, ifB]) | (simp only [St.ev, St.set, upd, Nat.reduceEqDiff, reduceIte, ifA, ifB, hAG, f1, f2, nmA, Nat.reduceAdd, ifA, ifB]) | skip))) | ((first | with_reducible refine aord_nil ?_ | refine awp_skip ?_ | refine awp_exit ?_ | refine awp_ret ?_); try simp only [rdA, Nat.reduceEqDiff, ifA, ifB, reduceIte]) | (refine awp_region tabOk rfl ?_; simp only [prep, pickO, lsA, lsB, lsC, lsD, lsE, lsF, lsG]) | ((with_reducible apply awp_cond); (focus (simp only [St.ev, St.set, upd, Nat.reduceEqDiff, reduceIte, ifA, ifB, hAG, f1, f2, nmA, Nat.reduceAdd, ifA, ifB]; exact rfl)); all_goals (intro hb; first | (cases hb; done) | ((try rw [hb]); (try simp only [dcA, dcB, dcC, dcD, dcE, Bool.not_eq_true', Bool.not_eq_false'] at hb)))) | ((with_reducible refine And.intro ?_ ?_); (focus omega)) | fail)
                exact ⟨(G, N, j + 1), ⟨by dsimp only; omega, by dsimp only; omega, hNN, hG, hno, hgo fun h => (hq.1 h).2.1 (List.eq_nil_of_length_eq_zero hn0)⟩, by dsimp only; omega, Wk.sub (tsd (tsd (tsd (tsd (tsd (tsd (tsd tsd0 rfl) rfl) rfl) rfl) rfl) rfl) rfl) (fun _ _ h => h) rfl⟩
              · have f2 : decide (((NO.length : Nat) : Int) > 0) = true := decide_eq_true (by omega)
                have em : (m : Int) + 1 - 1 = (m : Int) := by omega


                repeat' (first | refine awp_seq_k fun K hK => ?_ | ((with_reducible refine hK _ ?_); clear hK K) | ((with_reducible refine aord_plain fun K hK => ?_); simp only [go_sem, Nat.reduceAdd, Nat.reduceMul, Nat.reduceEqDiff, Nat.reduceLT, reduceIte, reduceCtorEq, hAG, f1, f2, em, nmA, Nat.reduceAdd, ifA, ifB, hAG, f1, f2, em, mat.matL]) | ((with_reducible apply aord_guard); (focus (simp only [St.ev, St.set, upd, Nat.reduceEqDiff, reduceIte, ifA, ifB, hAG, f1, f2, em, nmA, Nat.reduceAdd, ifA, ifB]; exact rfl)); all_goals (intro hb; (try simp only [Bool.not_true, Bool.not_false] at hb); first | (cases hb; done) | ((try rw [hb]); (try simp only [Bool.not_eq_true', Bool.not_eq_false', Bool.and_eq_true, dcA, dcB, dcC, dcD, dcE] at hb); (try (revert hb; with_reducible refine true_imp_iff.2 ?_)); first | (intro K hK; simp only [go_sem, Nat.reduceAdd, Nat.reduceMul, Nat.reduceEqDiff, Nat.reduceLT, reduceIte, reduceCtorEq, hAG, f1, f2, em, nmA, Nat.reduceAdd, ifA, ifB]) | (simp only [St.ev, St.set, upd, Nat.reduceEqDiff, reduceIte, ifA, ifB, hAG, f1, f2, em, nmA, Nat.reduceAdd, ifA, ifB]) | skip))) | ((first | with_reducible refine aord_nil ?_ | refine awp_skip ?_ | refine awp_exit ?_ | refine awp_ret ?_); try simp only [rdA, Nat.reduceEqDiff, ifA, ifB, reduceIte]) | (refine awp_region tabOk rfl ?_; simp only [prep, pickO, lsA, lsB, lsC, lsD, lsE, lsF, lsG]) | ((with_reducible refine And.intro (?_ : enters Try.prog 69) ?_); (focus exact Try.call69); (refine callX_satH more_sat ?_); simp only [go_sem, and_assoc, List.nil_append, List.append_nil, List.cons_append, Nat.reduceEqDiff, reduceIte, reduceCtorEq, hAG, f1, f2, em, nmA, Nat.reduceAdd, ifA, ifB, hAG, f1, f2, em, mat.matL]) | fail)
                refine ⟨b, fs, rfl, rfl, rfl, by omega, fun H3 N3 O3 s1 s2 s3 => ?_⟩
                have hA3 : H3 A = some ⟨b, .ints .i64 (flF fs)⟩ := (s2 A (by omega)).trans hAG


                repeat' (first | ((with_reducible refine hK _ ?_); clear hK K) | ((with_reducible apply aord_guard); (focus (simp only [St.ev, St.set, upd, Nat.reduceEqDiff, reduceIte, ifA, ifB, hA3, s1, f1, f2, em, nmA, Nat.reduceAdd, ifA, ifB]; exact rfl)); all_goals (intro hb; (try simp only [Bool.not_true, Bool.not_false] at hb); first | (cases hb; done) | ((try rw [hb]); (try simp only [Bool.not_eq_true', Bool.not_eq_false', Bool.and_eq_true, dcA, dcB, dcC, dcD, dcE] at hb); (try (revert hb; with_reducible refine true_imp_iff.2 ?_)); first | (intro K hK; simp only [go_sem, Nat.reduceAdd, Nat.reduceMul, Nat.reduceEqDiff, Nat.reduceLT, reduceIte, reduceCtorEq, hA3, s1, f1, f2, em, nmA, Nat.reduceAdd, ifA, ifB]) | (simp only [St.ev, St.set, upd, Nat.reduceEqDiff, reduceIte, ifA, ifB, hA3, s1, f1, f2, em, nmA, Nat.reduceAdd, ifA, ifB]) | skip))) | ((with_reducible refine And.intro ?_ ?_); (focus omega)) | ((with_reducible refine And.intro (?_ : enters Try.prog 78) ?_); (focus exact Try.call78); (refine callX_satH ih ?_); simp only [go_sem, and_assoc, List.nil_append, List.append_nil, List.cons_append, Nat.reduceEqDiff, reduceIte, reduceCtorEq, hA3, s1, f1, f2, em, nmA, Nat.reduceAdd, ifA, ifB, hA3, s1, f1, f2, em, mat.matL]) | fail)
                have l1 : fs.length + 1 = (fs ++ [((i : Int), (j : Int))]).length := by rw [List.length_append]; rfl
                have l2 : fs.length + 1 = (fs ++ [((j : Int), (i : Int))]).length := by rw [List.length_append]; rfl
                refine ⟨true, fs ++ [((i : Int), (j : Int))], l1, rfl, rfl, itemsIn_more hi (by omega) (by omega), by omega, fun v N4 hv hN4 => ?_⟩
                rw [hm1] at hv
                cases v with
                | false =>


                  repeat' (first | ((with_reducible refine hK _ ?_); clear hK K) | ((with_reducible refine aord_plain fun K hK => ?_); simp only [go_sem, Nat.reduceAdd, Nat.reduceMul, Nat.reduceEqDiff, Nat.reduceLT, reduceIte, reduceCtorEq, hA3, s1, f1, f2, em, nmA, Nat.reduceAdd, ifA, ifB, hA3, s1, f1, f2, em, mat.matL]) | ((with_reducible apply aord_guard); (focus (simp only [St.ev, St.set, upd, Nat.reduceEqDiff, reduceIte, ifA, ifB, hA3, s1, f1, f2, em, nmA, Nat.reduceAdd, ifA, ifB]; exact rfl)); all_goals (intro hb; (try simp only [Bool.not_true, Bool.not_false] at hb); first | (cases hb; done) | ((try rw [hb]); (try simp only [Bool.not_eq_true', Bool.not_eq_false', Bool.and_eq_true, dcA, dcB, dcC, dcD, dcE] at hb); (try (revert hb; with_reducible refine true_imp_iff.2 ?_)); first | (intro K hK; simp only [go_sem, Nat.reduceAdd, Nat.reduceMul, Nat.reduceEqDiff, Nat.reduceLT, reduceIte, reduceCtorEq, hA3, s1, f1, f2, em, nmA, Nat.reduceAdd, ifA, ifB]) | (simp only [St.ev, St.set, upd, Nat.reduceEqDiff, reduceIte, ifA, ifB, hA3, s1, f1, f2, em, nmA, Nat.reduceAdd, ifA, ifB]) | skip))) | ((first | with_reducible refine aord_nil ?_ | refine awp_skip ?_ | refine awp_exit ?_ | refine awp_ret ?_); try simp only [rdA, Nat.reduceEqDiff, ifA, ifB, reduceIte]) | (refine awp_region tabOk rfl ?_; simp only [prep, pickO, lsA, lsB, lsC, lsD, lsE, lsF, lsG]) | ((with_reducible apply awp_cond); (focus (simp only [St.ev, St.set, upd, Nat.reduceEqDiff, reduceIte, ifA, ifB, hA3, s1, f1, f2, em, nmA, Nat.reduceAdd, ifA, ifB]; exact rfl)); all_goals (intro hb; first | (cases hb; done) | ((try rw [hb]); (try simp only [dcA, dcB, dcC, dcD, dcE, Bool.not_eq_true', Bool.not_eq_false'] at hb)))) | ((with_reducible refine And.intro ?_ ?_); (focus omega)) | fail)
                  exact ⟨(H3, N4, j + 1), ⟨by dsimp only; omega, by dsimp only; omega, by dsimp only; omega, fun u hu => (s2 u (by omega)).trans (hG u hu), hno, hgo fun h => by have := hv.2 (hq.1 h).2.2.1; cases this⟩, by dsimp only; omega, Wk.sub (tsd (tsd (tsd (tsd (tsd (tsd (tsd tsd0 rfl) rfl) rfl) rfl) rfl) rfl) rfl) (fun _ _ h => h) rfl⟩
                | true =>


                  repeat' (first | ((with_reducible refine hK _ ?_); clear hK K) | ((with_reducible refine aord_plain fun K hK => ?_); simp only [go_sem, Nat.reduceAdd, Nat.reduceMul, Nat.reduceEqDiff, Nat.reduceLT, reduceIte, reduceCtorEq, hA3, s1, f1, f2, em, nmA, Nat.reduceAdd, ifA, ifB, hA3, s1, f1, f2, em, mat.matL]) | ((with_reducible apply aord_guard); (focus (simp only [St.ev, St.set, upd, Nat.reduceEqDiff, reduceIte, ifA, ifB, hA3, s1, f1, f2, em, nmA, Nat.reduceAdd, ifA, ifB]; exact rfl)); all_goals (intro hb; (try simp only [Bool.not_true, Bool.not_false] at hb); first | (cases hb; done) | ((try rw [hb]); (try simp only [Bool.not_eq_true', Bool.not_eq_false', Bool.and_eq_true, dcA, dcB, dcC, dcD, dcE] at hb); (try (revert hb; with_reducible refine true_imp_iff.2 ?_)); first | (intro K hK; simp only [go_sem, Nat.reduceAdd, Nat.reduceMul, Nat.reduceEqDiff, Nat.reduceLT, reduceIte, reduceCtorEq, hA3, s1, f1, f2, em, nmA, Nat.reduceAdd, ifA, ifB]) | (simp only [St.ev, St.set, upd, Nat.reduceEqDiff, reduceIte, ifA, ifB, hA3, s1, f1, f2, em, nmA, Nat.reduceAdd, ifA, ifB]) | skip))) | ((with_reducible refine And.intro (?_ : enters Try.prog 69) ?_); (focus exact Try.call69); (refine callX_satH more_sat ?_); simp only [go_sem, and_assoc, List.nil_append, List.append_nil, List.cons_append, Nat.reduceEqDiff, reduceIte, reduceCtorEq, hA3, s1, f1, f2, em, nmA, Nat.reduceAdd, ifA, ifB, hA3, s1, f1, f2, em, mat.matL]) | fail)
                  refine ⟨b, fs, rfl, rfl, rfl, by omega, fun H5 N5 O5 u1 u2 u3 => ?_⟩


                  repeat' (first | ((with_reducible refine hK _ ?_); clear hK K) | ((with_reducible apply aord_guard); (focus (simp only [St.ev, St.set, upd, Nat.reduceEqDiff, reduceIte, ifA, ifB, u1, f1, f2, em, nmA, Nat.reduceAdd, ifA, ifB]; exact rfl)); all_goals (intro hb; (try simp only [Bool.not_true, Bool.not_false] at hb); first | (cases hb; done) | ((try rw [hb]); (try simp only [Bool.not_eq_true', Bool.not_eq_false', Bool.and_eq_true, dcA, dcB, dcC, dcD, dcE] at hb); (try (revert hb; with_reducible refine true_imp_iff.2 ?_)); first | (intro K hK; simp only [go_sem, Nat.reduceAdd, Nat.reduceMul, Nat.reduceEqDiff, Nat.reduceLT, reduceIte, reduceCtorEq, u1, f1, f2, em, nmA, Nat.reduceAdd, ifA, ifB]) | (simp only [St.ev, St.set, upd, Nat.reduceEqDiff, reduceIte, ifA, ifB, u1, f1, f2, em, nmA, Nat.reduceAdd, ifA, ifB]) | skip))) | ((with_reducible refine And.intro ?_ ?_); (focus omega)) | ((with_reducible refine And.intro (?_ : enters Try.prog 78) ?_); (focus exact Try.call78); (refine callX_satH ih ?_); simp only [go_sem, and_assoc, List.nil_append, List.append_nil, List.cons_append, Nat.reduceEqDiff, reduceIte, reduceCtorEq, u1, f1, f2, em, nmA, Nat.reduceAdd, ifA, ifB, u1, f1, f2, em, mat.matL]) | fail)
                  refine ⟨true, fs ++ [((j : Int), (i : Int))], l2, rfl, rfl, itemsIn_more hi (by omega) (by omega), by omega, fun w N6 hw hN6 => ?_⟩
                  rw [hm2] at hw
                  cases w with
                  | false =>


                    repeat' (first | ((with_reducible refine hK _ ?_); clear hK K) | ((with_reducible refine aord_plain fun K hK => ?_); simp only [go_sem, Nat.reduceAdd, Nat.reduceMul, Nat.reduceEqDiff, Nat.reduceLT, reduceIte, reduceCtorEq, u1, f1, f2, em, nmA, Nat.reduceAdd, ifA, ifB, u1, f1, f2, em, mat.matL]) | ((first | with_reducible refine aord_nil ?_ | refine awp_skip ?_ | refine awp_exit ?_ | refine awp_ret ?_); try simp only [rdA, Nat.reduceEqDiff, ifA, ifB, reduceIte]) | (refine awp_region tabOk rfl ?_; simp only [prep, pickO, lsA, lsB, lsC, lsD, lsE, lsF, lsG]) | ((with_reducible apply awp_cond); (focus (simp only [St.ev, St.set, upd, Nat.reduceEqDiff, reduceIte, ifA, ifB, u1, f1, f2, em, nmA, Nat.reduceAdd, ifA, ifB]; exact rfl)); all_goals (intro hb; first | (cases hb; done) | ((try rw [hb]); (try simp only [dcA, dcB, dcC, dcD, dcE, Bool.not_eq_true', Bool.not_eq_false'] at hb)))) | ((with_reducible refine And.intro ?_ ?_); (focus omega)) | fail)
                    exact ⟨(H5, N6, j + 1), ⟨by dsimp only; omega, by dsimp only; omega, by dsimp only; omega, fun u hu => (u2 u (by omega)).trans ((s2 u (by omega)).trans (hG u hu)), hno, hgo fun h => by have := hw.2 (hq.1 h).2.2.2; cases this⟩, by dsimp only; omega, Wk.sub (tsd (tsd (tsd (tsd (tsd (tsd (tsd tsd0 rfl) rfl) rfl) rfl) rfl) rfl) rfl) (fun _ _ h => h) rfl⟩
                  | true =>


                    repeat' ((fail_if_success (with_reducible refine isRetQ ?_)); (first | refine awp_seq_k fun K hK => ?_ | ((with_reducible refine hK _ ?_); clear hK K) | ((with_reducible refine aord_plain fun K hK => ?_); simp only [go_sem, Nat.reduceAdd, Nat.reduceMul, Nat.reduceEqDiff, Nat.reduceLT, reduceIte, reduceCtorEq, u1, f1, f2, em, nmA, Nat.reduceAdd, ifA, ifB, u1, f1, f2, em, mat.matL]) | ((first | with_reducible refine aord_nil ?_ | refine awp_skip ?_ | refine awp_exit ?_ | refine awp_ret ?_); try simp only [rdA, Nat.reduceEqDiff, ifA, ifB, reduceIte]) | (refine awp_region tabOk rfl ?_; simp only [prep, pickO, lsA, lsB, lsC, lsD, lsE, lsF, lsG]) | ((with_reducible apply awp_cond); (focus (simp only [St.ev, St.set, upd, Nat.reduceEqDiff, reduceIte, ifA, ifB, u1, f1, f2, em, nmA, Nat.reduceAdd, ifA, ifB]; exact rfl)); all_goals (intro hb; first | (cases hb; done) | ((try rw [hb]); (try simp only [dcA, dcB, dcC, dcD, dcE, Bool.not_eq_true', Bool.not_eq_false'] at hb)))) | fail))
                    refine awp_weaken (s' := ⟨upd bot 8 (.val (.bool true)), h, N6⟩) (Wk.sub (tsd tsd0 rfl) (fun o ob ho => by have := (hcl o _ ho).1; dsimp only; rw [u2 o (by omega), s2 o (by omega), hG o (by omega), hfr2 o (by omega)]; exact ho) rfl) ?_
                    repeat' (first | ((first | with_reducible refine aord_nil ?_ | refine awp_skip ?_ | refine awp_exit ?_ | refine awp_ret ?_); try simp only [rdA, Nat.reduceEqDiff, ifA, ifB, reduceIte]) | fail)
                    exact hQ true N6 ⟨fun _ => can_ask.2 (.inr ⟨i, j, by omega, hj2, hq.2 ⟨List.length_pos_iff.1 hyp, List.length_pos_iff.1 hnp, hv.1 rfl, hw.1 rfl⟩⟩), fun _ => rfl⟩ (by omega)
          · have ej : j = d := by omega
            subst ej


            repeat' (first | refine awp_seq_k fun K hK => ?_ | ((with_reducible refine hK _ ?_); clear hK K) | (clear hK K; (with_reducible refine hK _ ?_); clear hK K) | ((with_reducible refine aord_plain fun K hK => ?_); simp only [go_sem, Nat.reduceAdd, Nat.reduceMul, Nat.reduceEqDiff, Nat.reduceLT, reduceIte, reduceCtorEq, mat.matL]) | refine awp_block ?_ | ((first | with_reducible refine aord_nil ?_ | refine awp_skip ?_ | refine awp_exit ?_ | refine awp_ret ?_); try simp only [rdA, Nat.reduceEqDiff, ifA, ifB, reduceIte]) | (refine awp_region tabOk rfl ?_; simp only [prep, pickO, lsA, lsB, lsC, lsD, lsE, lsF, lsG]) | ((with_reducible apply awp_cond); (focus (simp only [St.ev, St.set, upd, Nat.reduceEqDiff, reduceIte, ifA, ifB]; exact rfl)); all_goals (intro hb; first | (cases hb; done) | ((try rw [hb]); (try simp only [dcA, dcB, dcC, dcD, dcE, Bool.not_eq_true', Bool.not_eq_false'] at hb)))) | ((with_reducible refine And.intro ?_ ?_); (focus omega)) | (exfalso; omega) | fail)
            refine ⟨(G, N, i + 1), ⟨by dsimp only; omega, hNN, hG, fun i' j' h1 h2 h3 => ?_⟩, by dsimp only; omega, Wk.sub (tsd (tsd (tsd (tsd (tsd (tsd tsd0 rfl) rfl) rfl) rfl) rfl) rfl) (fun _ _ h => h) rfl⟩
            rcases Nat.lt_or_ge i' i with c | c
            · exact hno i' j' h1 h2 c
            · obtain rfl : i' = i := by dsimp only at h3; omega
              exact hnj j' h1 h2
        · have ei : i = d := by omega
          subst ei


          repeat' ((fail_if_success (with_reducible refine isRetQ ?_)); (first | refine awp_seq_k fun K hK => ?_ | ((with_reducible refine hK _ ?_); clear hK K) | (clear hK K; (with_reducible refine hK _ ?_); clear hK K) | ((with_reducible refine aord_plain fun K hK => ?_); simp only [go_sem, Nat.reduceAdd, Nat.reduceMul, Nat.reduceEqDiff, Nat.reduceLT, reduceIte, reduceCtorEq, mat.matL]) | refine awp_block ?_ | ((first | with_reducible refine aord_nil ?_ | refine awp_skip ?_ | refine awp_exit ?_ | refine awp_ret ?_); try simp only [rdA, Nat.reduceEqDiff, ifA, ifB, reduceIte]) | (refine awp_region tabOk rfl ?_; simp only [prep, pickO, lsA, lsB, lsC, lsD, lsE, lsF, lsG]) | ((with_reducible apply awp_cond); (focus (simp only [St.ev, St.set, upd, Nat.reduceEqDiff, reduceIte, ifA, ifB]; exact rfl)); all_goals (intro hb; first | (cases hb; done) | ((try rw [hb]); (try simp only [dcA, dcB, dcC, dcD, dcE, Bool.not_eq_true', Bool.not_eq_false'] at hb)))) | ((with_reducible refine And.intro ?_ ?_); (focus omega)) | (exfalso; omega) | fail))
          refine awp_weaken (s' := ⟨upd bot 8 (.val (.bool false)), h, N⟩) (Wk.sub (tsd tsd0 rfl) (fun o ob ho => (hG o (by have := (hcl o _ ho).1; omega)).trans ((hfr2 o (hcl o _ ho).1).trans ho)) rfl) ?_
          repeat' (first | ((first | with_reducible refine aord_nil ?_ | refine awp_skip ?_ | refine awp_exit ?_ | refine awp_ret ?_); try simp only [rdA, Nat.reduceEqDiff, ifA, ifB, reduceIte]) | fail)
          refine hQ false N ⟨fun e => (by cases e), fun e => ?_⟩ (by omega)
          rcases can_ask.1 e with e | ⟨i', j', h1, h2, h3⟩
          · exact (hen e).elim
          · exact (hno i' j' h1 h2 (by omega) h3).elim

theorem leastAsks_sat {d : Nat} (hd : d ≤ 4) (at_ : Int) {en : List (List Int) → Prop} (few : ∀ L, L.length ≤ 1 → en L) (hcan : ∀ m : Nat, SatH Try.prog 78 (fun al h n K0 => ∃ (A : Nat) (b : Bool) (fs : List (Int × Int)), al = [.val (.int .i64 d), .sl A 0 fs.length 2 none, .val (.int .i64 at_), .val (.int .i64 m)] ∧ h A = some ⟨b, .ints .i64 (flF fs)⟩ ∧ itemsIn d fs ∧ fs.length + m ≤ 90 ∧ ∀ (v : Bool) (N : Nat), (v = true ↔ canP en d m (ordF d fs)) → n ≤ N → K0 (.val (.bool v)) h N)) : SatH Try.prog 52 (fun al h n K0 => ∃ (A : Nat) (b : Bool) (fs : List (Int × Int)), al = [.val (.int .i64 d), .sl A 0 fs.length 2 none, .val (.int .i64 at_)] ∧ h A = some ⟨b, .ints .i64 (flF fs)⟩ ∧ itemsIn d fs ∧ fs.length ≤ 60 ∧ ∀ (v N : Nat), IsFew en d (ordF d fs) v → n ≤ N → K0 (.val (.int .i64 v)) h N) := by
  refine satH_intro tabOk Try.func52 rfl 17 rfl [.tmp 6] rfl ?_
  rintro F W h n al K0 ⟨A, b, fs, rfl, hA, hi, hl, hQ⟩
  refine ⟨Nat.le_of_ble_eq_true rfl, fun m0 hm0 hcl hlt => ?_⟩
  simp only [initT]
  have hAn := (hcl A _ hA).1
  have h24 : (ordF d fs).length ≤ 23 + 1 := by
    refine Nat.le_trans (List.length_filter_le _ _) ?_
    rw [ordK_fac (by omega)]
    have : d = 0 ∨ d = 1 ∨ d = 2 ∨ d = 3 ∨ d = 4 := by omega
    rcases this with rfl | rfl | rfl | rfl | rfl <;> decide
  obtain ⟨v, hv23, hv⟩ := few_ex 23 (can_len few 23 (ordF_good (fs := fs) (show d ≤ 5 by omega)) h24)


  repeat' (first | refine awp_seq_k fun K hK => ?_ | ((with_reducible refine hK _ ?_); clear hK K) | ((with_reducible refine aord_plain fun K hK => ?_); simp only [go_sem, Nat.reduceAdd, Nat.reduceMul, Nat.reduceEqDiff, Nat.reduceLT, reduceIte, reduceCtorEq, hA, nmA, Nat.reduceAdd, ifA, ifB, hA]) | refine awp_block ?_ | ((first | with_reducible refine aord_nil ?_ | refine awp_skip ?_ | refine awp_exit ?_ | refine awp_ret ?_); try simp only [rdA, Nat.reduceEqDiff, ifA, ifB, reduceIte]) | (refine awp_region tabOk rfl ?_; simp only [prep, pickO, lsA, lsB, lsC, lsD, lsE, lsF, lsG]) | fail)
  refine awp_loop (fun q : Nat × Nat => ⟨upd (upd (upd (upd bot 7 (.val (.int .i64 q.2))) 2 (.val (.int .i64 at_))) 1 (.sl A 0 fs.length 2 none)) 0 (.val (.int .i64 d)), h, q.1⟩) (fun q => n ≤ q.1 ∧ q.2 ≤ v) (fun q => v - q.2) (n, 0) ⟨Nat.le_refl _, Nat.zero_le _⟩ ?_ ?_
  · exact Wk.sub (tsd (tsd (tsd (tsd tsd0 rfl) rfl) rfl) rfl) (fun _ _ h => h) rfl
  rintro ⟨N, k⟩ ⟨hnN, hkv⟩
  dsimp only at hnN hkv ⊢
  have hck := hcan k


  repeat' (first | refine awp_seq_k fun K hK => ?_ | ((with_reducible refine hK _ ?_); clear hK K) | ((with_reducible refine aord_plain fun K hK => ?_); simp only [go_sem, Nat.reduceAdd, Nat.reduceMul, Nat.reduceEqDiff, Nat.reduceLT, reduceIte, reduceCtorEq, hA, nmA, Nat.reduceAdd, ifA, ifB, hA]) | (refine awp_region tabOk rfl ?_; simp only [prep, pickO, lsA, lsB, lsC, lsD, lsE, lsF, lsG]) | ((with_reducible refine And.intro (?_ : enters Try.prog 78) ?_); (focus exact Try.call78); (refine callX_satH hck ?_); simp only [go_sem, and_assoc, List.nil_append, List.append_nil, List.cons_append, Nat.reduceEqDiff, reduceIte, reduceCtorEq, hA, nmA, Nat.reduceAdd, ifA, ifB, hA]) | fail)
  refine ⟨b, fs, rfl, rfl, rfl, hi, by omega, fun w N2 hw hN2 => ?_⟩
  rw [hv k] at hw
  cases w with
  | true =>
    have h1 := hw.1 rfl


    repeat' (first | refine awp_seq_k fun K hK => ?_ | ((with_reducible refine hK _ ?_); clear hK K) | (clear hK K; (with_reducible refine hK _ ?_); clear hK K) | ((with_reducible refine aord_plain fun K hK => ?_); simp only [go_sem, Nat.reduceAdd, Nat.reduceMul, Nat.reduceEqDiff, Nat.reduceLT, reduceIte, reduceCtorEq, hA, nmA, Nat.reduceAdd, ifA, ifB, hA]) | ((first | with_reducible refine aord_nil ?_ | refine awp_skip ?_ | refine awp_exit ?_ | refine awp_ret ?_); try simp only [rdA, Nat.reduceEqDiff, ifA, ifB, reduceIte]) | (refine awp_region tabOk rfl ?_; simp only [prep, pickO, lsA, lsB, lsC, lsD, lsE, lsF, lsG]) | ((with_reducible apply awp_cond); (focus (simp only [St.ev, St.set, upd, Nat.reduceEqDiff, reduceIte, ifA, ifB, hA, nmA, Nat.reduceAdd, ifA, ifB]; exact rfl)); all_goals (intro hb; first | (cases hb; done) | ((try rw [hb]); (try simp only [dcA, dcB, dcC, dcD, dcE, Bool.not_eq_true', Bool.not_eq_false'] at hb)))) | fail)
    have ek : k = v := by omega
    subst ek
    exact hQ k N2 hv (by omega)
  | false =>
    have h1 : k < v := by
      rcases Nat.lt_or_ge k v with c | c
      · exact c
      · have := hw.2 c; cases this


    repeat' (first | ((with_reducible refine hK _ ?_); clear hK K) | ((with_reducible refine aord_plain fun K hK => ?_); simp only [go_sem, Nat.reduceAdd, Nat.reduceMul, Nat.reduceEqDiff, Nat.reduceLT, reduceIte, reduceCtorEq, hA, nmA, Nat.reduceAdd, ifA, ifB, hA]) | refine awp_block ?_ | ((first | with_reducible refine aord_nil ?_ | refine awp_skip ?_ | refine awp_exit ?_ | refine awp_ret ?_); try simp only [rdA, Nat.reduceEqDiff, ifA, ifB, reduceIte]) | (refine awp_region tabOk rfl ?_; simp only [prep, pickO, lsA, lsB, lsC, lsD, lsE, lsF, lsG]) | ((with_reducible apply awp_cond); (focus (simp only [St.ev, St.set, upd, Nat.reduceEqDiff, reduceIte, ifA, ifB, hA, nmA, Nat.reduceAdd, ifA, ifB]; exact rfl)); all_goals (intro hb; first | (cases hb; done) | ((try rw [hb]); (try simp only [dcA, dcB, dcC, dcD, dcE, Bool.not_eq_true', Bool.not_eq_false'] at hb)))) | ((with_reducible refine And.intro ?_ ?_); (focus omega)) | fail)
    exact ⟨(N2, k + 1), ⟨by dsimp only; omega, by dsimp only; omega⟩, by dsimp only; omega, Wk.sub (tsd (tsd (tsd (tsd tsd0 rfl) rfl) rfl) rfl) (fun _ _ h => h) rfl⟩


theorem hkd_L {d : Nat} : SatH Try.prog 94 (fun al h n K => ∃ (O : Nat) (f : Nat → Nat) (xss : List (List Int)), al = [.sl O 0 xss.length 1 none, .val (.int .i64 (-1))] ∧ RowsOf h n O f xss ∧ GoodL d xss ∧ xss.length ≤ 120 ∧ K (.val (.int .i64 ((xss.length : Nat) : Int))) h n) := by
  rintro F W h n al K ⟨O, f, xss, rfl, hR, hg, hc, hQ⟩
  exact kindsL_sat F W h n _ K ⟨O, xss, rfl, by omega, hQ⟩
theorem hkd_K {d kk : Nat} (hd : d ≤ 5) (hkk : kk < d) : SatH Try.prog 94 (fun al h n K => ∃ (O : Nat) (f : Nat → Nat) (xss : List (List Int)), al = [.sl O 0 xss.length 1 none, .val (.int .i64 (kk : Int))] ∧ RowsOf h n O f xss ∧ GoodL d xss ∧ xss.length ≤ 120 ∧ K (.val (.int .i64 ((kdK kk xss : Nat) : Int))) h n) := by
  rintro F W h n al K ⟨O, f, xss, rfl, hR, hg, hc, hQ⟩
  refine kindsK_sat F W h n _ K ⟨O, kk, f, xss, rfl, hR, fun j hj => ?_, by omega, hQ⟩
  obtain ⟨h1, h2, h3⟩ := hg.row hj
  have h4 := h3.at (i := kk) (by omega)
  omega


theorem known_few {d : Nat} {fs : List (Int × Int)} (h : VF d fs) : ordF d (knO d fs) = orO d fs ∧ itemsIn d (knO d fs) := by
  refine ⟨?_, by have := (VF_knO h).2.2.1; rwa [Int.toNat_natCast] at this⟩
  rw [← orO_knO h, orO_ag (VF_knO h)]; rfl
theorem specLeastAsks_sat : SatH Try.prog 18 (fun al h n K => ∃ (z : Int) (A : Nat) (b : Bool) (fs : List (Int × Int)), al = [.val (.int .i64 (z)), .sl A 0 fs.length 2 none] ∧ (h A = some ⟨b, .ints .i64 (flF fs)⟩) ∧ (fs.length ≤ 1099511627776) ∧ ∀ N : Nat, n ≤ N → K (.val (.int .i64 ((leA z fs)))) (h) (N)) := by
  refine satH_intro tabOk Try.func18 rfl 18 rfl [.tmp 4] rfl ?_
  rintro F W h n al K0 ⟨z, A, b, fs, rfl, hA, hl, hQ⟩
  refine ⟨Nat.le_of_ble_eq_true rfl, fun m0 hm0 hcl hlt => ?_⟩
  simp only [initT]
  have hAn := (hcl A _ hA).1


  repeat' ((fail_if_success (with_reducible refine isRetQ ?_)); (first | refine awp_seq_k fun K hK => ?_ | ((with_reducible refine hK _ ?_); clear hK K) | ((with_reducible refine aord_plain fun K hK => ?_); simp only [go_sem, Nat.reduceAdd, Nat.reduceMul, Nat.reduceEqDiff, Nat.reduceLT, reduceIte, reduceCtorEq, hA, nmA, Nat.reduceAdd, ifA, ifB, hA]) | ((first | with_reducible refine aord_nil ?_ | refine awp_skip ?_ | refine awp_exit ?_ | refine awp_ret ?_); try simp only [rdA, Nat.reduceEqDiff, ifA, ifB, reduceIte]) | (refine awp_region tabOk rfl ?_; simp only [prep, pickO, lsA, lsB, lsC, lsD, lsE, lsF, lsG]) | ((with_reducible refine And.intro (?_ : enters Try.prog 44) ?_); (focus exact Try.call44); (refine callX_satH specvalidFacts_sat ?_); simp only [go_sem, and_assoc, List.nil_append, List.append_nil, List.cons_append, Nat.reduceEqDiff, reduceIte, reduceCtorEq, hA, nmA, Nat.reduceAdd, ifA, ifB, hA]) | fail))
  refine ⟨b, fs, rfl, rfl, rfl, hl, fun v N hv hN => ?_⟩
  cases v with
  | false =>
    rw [leA_no (fun h => by have := hv.2 h.1; cases this)] at hQ


    repeat' (first | refine awp_seq_k fun K hK => ?_ | ((with_reducible refine hK _ ?_); clear hK K) | ((with_reducible refine aord_plain fun K hK => ?_); simp only [go_sem, Nat.reduceAdd, Nat.reduceMul, Nat.reduceEqDiff, Nat.reduceLT, reduceIte, reduceCtorEq, hA, nmA, Nat.reduceAdd, ifA, ifB, hA]) | ((with_reducible apply aord_guard); (focus (simp only [St.ev, St.set, upd, Nat.reduceEqDiff, reduceIte, ifA, ifB, hA, nmA, Nat.reduceAdd, ifA, ifB]; exact rfl)); all_goals (intro hb; (try simp only [Bool.not_true, Bool.not_false] at hb); first | (cases hb; done) | ((try rw [hb]); (try simp only [Bool.not_eq_true', Bool.not_eq_false', Bool.and_eq_true, dcA, dcB, dcC, dcD, dcE] at hb); (try (revert hb; with_reducible refine true_imp_iff.2 ?_)); first | (intro K hK; simp only [go_sem, Nat.reduceAdd, Nat.reduceMul, Nat.reduceEqDiff, Nat.reduceLT, reduceIte, reduceCtorEq, hA, nmA, Nat.reduceAdd, ifA, ifB]) | (simp only [St.ev, St.set, upd, Nat.reduceEqDiff, reduceIte, ifA, ifB, hA, nmA, Nat.reduceAdd, ifA, ifB]) | skip))) | ((first | with_reducible refine aord_nil ?_ | refine awp_skip ?_ | refine awp_exit ?_ | refine awp_ret ?_); try simp only [rdA, Nat.reduceEqDiff, ifA, ifB, reduceIte]) | (refine awp_region tabOk rfl ?_; simp only [prep, pickO, lsA, lsB, lsC, lsD, lsE, lsF, lsG]) | ((with_reducible apply awp_cond); (focus (simp only [St.ev, St.set, upd, Nat.reduceEqDiff, reduceIte, ifA, ifB, hA, nmA, Nat.reduceAdd, ifA, ifB]; exact rfl)); all_goals (intro hb; first | (cases hb; done) | ((try rw [hb]); (try simp only [dcA, dcB, dcC, dcD, dcE, Bool.not_eq_true', Bool.not_eq_false'] at hb)))) | (simp only [doneH]; simp only [ressK, resK, wrapR, go_sem, Nat.reduceAdd, Nat.reduceMul, Nat.reduceEqDiff, Nat.reduceLT, reduceIte, reduceCtorEq, hA, nmA, Nat.reduceAdd, ifA, ifB]) | fail)
    exact hQ N hN
  | true =>
    have hV := hv.1 rfl
    rcases Int.lt_or_le 4 z with h4 | h4
    · have e1 : decide (z > 4) = true := decide_eq_true h4
      rw [leA_no (fun h => by omega)] at hQ


      repeat' (first | refine awp_seq_k fun K hK => ?_ | ((with_reducible refine hK _ ?_); clear hK K) | ((with_reducible refine aord_plain fun K hK => ?_); simp only [go_sem, Nat.reduceAdd, Nat.reduceMul, Nat.reduceEqDiff, Nat.reduceLT, reduceIte, reduceCtorEq, hA, e1, nmA, Nat.reduceAdd, ifA, ifB, hA, e1]) | ((with_reducible apply aord_guard); (focus (simp only [St.ev, St.set, upd, Nat.reduceEqDiff, reduceIte, ifA, ifB, hA, e1, nmA, Nat.reduceAdd, ifA, ifB]; exact rfl)); all_goals (intro hb; (try simp only [Bool.not_true, Bool.not_false] at hb); first | (cases hb; done) | ((try rw [hb]); (try simp only [Bool.not_eq_true', Bool.not_eq_false', Bool.and_eq_true, dcA, dcB, dcC, dcD, dcE] at hb); (try (revert hb; with_reducible refine true_imp_iff.2 ?_)); first | (intro K hK; simp only [go_sem, Nat.reduceAdd, Nat.reduceMul, Nat.reduceEqDiff, Nat.reduceLT, reduceIte, reduceCtorEq, hA, e1, nmA, Nat.reduceAdd, ifA, ifB]) | (simp only [St.ev, St.set, upd, Nat.reduceEqDiff, reduceIte, ifA, ifB, hA, e1, nmA, Nat.reduceAdd, ifA, ifB]) | skip))) | ((first | with_reducible refine aord_nil ?_ | refine awp_skip ?_ | refine awp_exit ?_ | refine awp_ret ?_); try simp only [rdA, Nat.reduceEqDiff, ifA, ifB, reduceIte]) | (refine awp_region tabOk rfl ?_; simp only [prep, pickO, lsA, lsB, lsC, lsD, lsE, lsF, lsG]) | ((with_reducible apply awp_cond); (focus (simp only [St.ev, St.set, upd, Nat.reduceEqDiff, reduceIte, ifA, ifB, hA, e1, nmA, Nat.reduceAdd, ifA, ifB]; exact rfl)); all_goals (intro hb; first | (cases hb; done) | ((try rw [hb]); (try simp only [dcA, dcB, dcC, dcD, dcE, Bool.not_eq_true', Bool.not_eq_false'] at hb)))) | (simp only [doneH]; simp only [ressK, resK, wrapR, go_sem, Nat.reduceAdd, Nat.reduceMul, Nat.reduceEqDiff, Nat.reduceLT, reduceIte, reduceCtorEq, hA, e1, nmA, Nat.reduceAdd, ifA, ifB]) | fail)
      exact hQ N hN
    · have e1 : decide (z > 4) = false := decide_eq_false (by omega)
      obtain ⟨d, rfl⟩ : ∃ d : Nat, z = d := ⟨z.toNat, by have := hV.1; omega⟩
      have hi : itemsIn d fs := by have := hV.2.2.1; rwa [Int.toNat_natCast] at this
      have h20 := hV.2.1
      have hk30 := knO_len (d : Int) fs
      have eK := knO_yes hV
      obtain ⟨eO, hi2⟩ := known_few hV
      have hle := leastAsks_sat (d := d) (by omega) (-1) enL_few (canAsk_sat (by omega) (-1) kinds_L (fun L h => h) hkd_L)


      repeat' (first | refine awp_seq_k fun K hK => ?_ | ((with_reducible refine hK _ ?_); clear hK K) | ((with_reducible refine aord_plain fun K hK => ?_); simp only [go_sem, Nat.reduceAdd, Nat.reduceMul, Nat.reduceEqDiff, Nat.reduceLT, reduceIte, reduceCtorEq, hA, e1, nmA, Nat.reduceAdd, ifA, ifB, hA, e1]) | ((with_reducible apply aord_guard); (focus (simp only [St.ev, St.set, upd, Nat.reduceEqDiff, reduceIte, ifA, ifB, hA, e1, nmA, Nat.reduceAdd, ifA, ifB]; exact rfl)); all_goals (intro hb; (try simp only [Bool.not_true, Bool.not_false] at hb); first | (cases hb; done) | ((try rw [hb]); (try simp only [Bool.not_eq_true', Bool.not_eq_false', Bool.and_eq_true, dcA, dcB, dcC, dcD, dcE] at hb); (try (revert hb; with_reducible refine true_imp_iff.2 ?_)); first | (intro K hK; simp only [go_sem, Nat.reduceAdd, Nat.reduceMul, Nat.reduceEqDiff, Nat.reduceLT, reduceIte, reduceCtorEq, hA, e1, nmA, Nat.reduceAdd, ifA, ifB]) | (simp only [St.ev, St.set, upd, Nat.reduceEqDiff, reduceIte, ifA, ifB, hA, e1, nmA, Nat.reduceAdd, ifA, ifB]) | skip))) | ((first | with_reducible refine aord_nil ?_ | refine awp_skip ?_ | refine awp_exit ?_ | refine awp_ret ?_); try simp only [rdA, Nat.reduceEqDiff, ifA, ifB, reduceIte]) | (refine awp_region tabOk rfl ?_; simp only [prep, pickO, lsA, lsB, lsC, lsD, lsE, lsF, lsG]) | ((with_reducible apply awp_cond); (focus (simp only [St.ev, St.set, upd, Nat.reduceEqDiff, reduceIte, ifA, ifB, hA, e1, nmA, Nat.reduceAdd, ifA, ifB]; exact rfl)); all_goals (intro hb; first | (cases hb; done) | ((try rw [hb]); (try simp only [dcA, dcB, dcC, dcD, dcE, Bool.not_eq_true', Bool.not_eq_false'] at hb)))) | ((with_reducible refine And.intro (?_ : enters Try.prog 53) ?_); (focus exact Try.call53); (refine callX_satH specknown_sat ?_); simp only [go_sem, and_assoc, List.nil_append, List.append_nil, List.cons_append, Nat.reduceEqDiff, reduceIte, reduceCtorEq, hA, e1, nmA, Nat.reduceAdd, ifA, ifB, hA, e1]) | fail)
      refine ⟨d, rfl, b, fs, rfl, rfl, rfl, by omega, by omega, hi, fun H1 N1 O1 w1 w2 w3 => ?_⟩
      rw [← eK] at w1 ⊢


      repeat' (first | ((with_reducible refine hK _ ?_); clear hK K) | ((with_reducible refine aord_plain fun K hK => ?_); simp only [go_sem, Nat.reduceAdd, Nat.reduceMul, Nat.reduceEqDiff, Nat.reduceLT, reduceIte, reduceCtorEq, w1, nmA, Nat.reduceAdd, ifA, ifB, w1]) | ((with_reducible refine And.intro (?_ : enters Try.prog 52) ?_); (focus exact Try.call52); (refine callX_satH hle ?_); simp only [go_sem, and_assoc, List.nil_append, List.append_nil, List.cons_append, Nat.reduceEqDiff, reduceIte, reduceCtorEq, w1, nmA, Nat.reduceAdd, ifA, ifB, w1]) | fail)
      refine ⟨true, knO d fs, rfl, rfl, rfl, hi2, by omega, fun w N2 hw hN2 => ?_⟩
      rw [eO] at hw
      rw [leA_yes hV (by omega), few_eq hw] at hQ
      repeat' ((fail_if_success (with_reducible refine isRetQ ?_)); (first | ((with_reducible refine hK _ ?_); clear hK K) | ((with_reducible refine aord_plain fun K hK => ?_); simp only [go_sem, Nat.reduceAdd, Nat.reduceMul, Nat.reduceEqDiff, Nat.reduceLT, reduceIte, reduceCtorEq, w1, nmA, Nat.reduceAdd, ifA, ifB, w1]) | ((first | with_reducible refine aord_nil ?_ | refine awp_skip ?_ | refine awp_exit ?_ | refine awp_ret ?_); try simp only [rdA, Nat.reduceEqDiff, ifA, ifB, reduceIte]) | fail))
      refine awp_weaken (s' := ⟨upd bot 4 (.val (.int .i64 w)), h, N2⟩) (Wk.sub (tsd tsd0 rfl) (fun o ob ho => by have := (hcl o _ ho).1; dsimp only; rw [w2 o (by omega)]; exact ho) rfl) ?_
      repeat' (first | ((first | with_reducible refine aord_nil ?_ | refine awp_skip ?_ | refine awp_exit ?_ | refine awp_ret ?_); try simp only [rdA, Nat.reduceEqDiff, ifA, ifB, reduceIte]) | (simp only [doneH]; simp only [ressK, resK, wrapR, go_sem, Nat.reduceAdd, Nat.reduceMul, Nat.reduceEqDiff, Nat.reduceLT, reduceIte, reduceCtorEq, w1, nmA, Nat.reduceAdd, ifA, ifB]) | fail)
      exact hQ N2 (by omega)


theorem specPickAsks_sat : SatH Try.prog 24 (fun al h n K => ∃ (z : Int) (A : Nat) (b : Bool) (fs : List (Int × Int)) (k : Int), al = [.val (.int .i64 (z)), .sl A 0 fs.length 2 none, .val (.int .i64 (k))] ∧ (h A = some ⟨b, .ints .i64 (flF fs)⟩) ∧ (fs.length ≤ 1099511627776) ∧ ∀ N : Nat, n ≤ N → K (.val (.int .i64 ((piA z fs k)))) (h) (N)) := by
  refine satH_intro tabOk Try.func24 rfl 29 rfl [.tmp 6] rfl ?_
  rintro F W h n al K0 ⟨z, A, b, fs, k, rfl, hA, hl, hQ⟩
  refine ⟨Nat.le_of_ble_eq_true rfl, fun m0 hm0 hcl hlt => ?_⟩
  simp only [initT]
  have hAn := (hcl A _ hA).1
  obtain ⟨b2, e2⟩ : ∃ b2, (decide (1 ≤ z) && decide (z ≤ 4)) = b2 := ⟨_, rfl⟩
  obtain ⟨b3, e3⟩ : ∃ b3, (decide (0 ≤ k) && decide (k ≤ z - 1)) = b3 := ⟨_, rfl⟩


  repeat' ((fail_if_success (with_reducible refine isRetQ ?_)); (first | refine awp_seq_k fun K hK => ?_ | ((with_reducible refine hK _ ?_); clear hK K) | ((with_reducible refine aord_plain fun K hK => ?_); simp only [go_sem, Nat.reduceAdd, Nat.reduceMul, Nat.reduceEqDiff, Nat.reduceLT, reduceIte, reduceCtorEq, hA, nmA, Nat.reduceAdd, ifA, ifB, hA]) | ((first | with_reducible refine aord_nil ?_ | refine awp_skip ?_ | refine awp_exit ?_ | refine awp_ret ?_); try simp only [rdA, Nat.reduceEqDiff, ifA, ifB, reduceIte]) | (refine awp_region tabOk rfl ?_; simp only [prep, pickO, lsA, lsB, lsC, lsD, lsE, lsF, lsG]) | ((with_reducible refine And.intro (?_ : enters Try.prog 44) ?_); (focus exact Try.call44); (refine callX_satH specvalidFacts_sat ?_); simp only [go_sem, and_assoc, List.nil_append, List.append_nil, List.cons_append, Nat.reduceEqDiff, reduceIte, reduceCtorEq, hA, nmA, Nat.reduceAdd, ifA, ifB, hA]) | fail))
  refine ⟨b, fs, rfl, rfl, rfl, hl, fun v N hv hN => ?_⟩
  by_cases hgood : v = true ∧ b2 = true ∧ b3 = true
  · obtain ⟨rfl, rfl, rfl⟩ := hgood
    have hV := hv.1 rfl
    have g2 := e2
    have g3 := e3
    rw [Bool.and_eq_true, decide_eq_true_eq, decide_eq_true_eq] at g2 g3
    obtain ⟨d, rfl⟩ : ∃ d : Nat, z = d := ⟨z.toNat, by have := hV.1; omega⟩
    obtain ⟨kk, rfl⟩ : ∃ kk : Nat, k = kk := ⟨k.toNat, by omega⟩
    have hkd : kk < d := by omega
    have hi : itemsIn d fs := by have := hV.2.2.1; rwa [Int.toNat_natCast] at this
    have h20 := hV.2.1
    have hk30 := knO_len (d : Int) fs
    have eK := knO_yes hV
    obtain ⟨eO, hi2⟩ := known_few hV
    have hle := leastAsks_sat (d := d) (by omega) (kk : Int) (enK_few (k := kk)) (canAsk_sat (by omega) (kk : Int) (kinds_K (by omega) hkd) (fun L _ => by have := (seen_le kk L).2; omega) (hkd_K (by omega) hkd))


    repeat' (first | refine awp_seq_k fun K hK => ?_ | ((with_reducible refine hK _ ?_); clear hK K) | ((with_reducible refine aord_plain fun K hK => ?_); simp only [go_sem, Nat.reduceAdd, Nat.reduceMul, Nat.reduceEqDiff, Nat.reduceLT, reduceIte, reduceCtorEq, hA, e2, e3, nmA, Nat.reduceAdd, ifA, ifB, hA, e2, e3]) | ((with_reducible apply aord_guard); (focus (simp only [St.ev, St.set, upd, Nat.reduceEqDiff, reduceIte, ifA, ifB, hA, e2, e3, nmA, Nat.reduceAdd, ifA, ifB]; exact rfl)); all_goals (intro hb; (try simp only [Bool.not_true, Bool.not_false] at hb); first | (cases hb; done) | ((try rw [hb]); (try simp only [Bool.not_eq_true', Bool.not_eq_false', Bool.and_eq_true, dcA, dcB, dcC, dcD, dcE] at hb); (try (revert hb; with_reducible refine true_imp_iff.2 ?_)); first | (intro K hK; simp only [go_sem, Nat.reduceAdd, Nat.reduceMul, Nat.reduceEqDiff, Nat.reduceLT, reduceIte, reduceCtorEq, hA, e2, e3, nmA, Nat.reduceAdd, ifA, ifB]) | (simp only [St.ev, St.set, upd, Nat.reduceEqDiff, reduceIte, ifA, ifB, hA, e2, e3, nmA, Nat.reduceAdd, ifA, ifB]) | skip))) | ((first | with_reducible refine aord_nil ?_ | refine awp_skip ?_ | refine awp_exit ?_ | refine awp_ret ?_); try simp only [rdA, Nat.reduceEqDiff, ifA, ifB, reduceIte]) | (refine awp_region tabOk rfl ?_; simp only [prep, pickO, lsA, lsB, lsC, lsD, lsE, lsF, lsG]) | ((with_reducible apply awp_cond); (focus (simp only [St.ev, St.set, upd, Nat.reduceEqDiff, reduceIte, ifA, ifB, hA, e2, e3, nmA, Nat.reduceAdd, ifA, ifB]; exact rfl)); all_goals (intro hb; first | (cases hb; done) | ((try rw [hb]); (try simp only [dcA, dcB, dcC, dcD, dcE, Bool.not_eq_true', Bool.not_eq_false'] at hb)))) | ((with_reducible refine And.intro ?_ ?_); (focus omega)) | ((with_reducible refine And.intro (?_ : enters Try.prog 65) ?_); (focus exact Try.call65); (refine callX_sat inRange_sat ?_); simp only [go_sem, and_assoc, List.nil_append, List.append_nil, List.cons_append, Nat.reduceEqDiff, reduceIte, reduceCtorEq, hA, e2, e3, nmA, Nat.reduceAdd, ifA, ifB, hA, e2, e3]) | ((with_reducible refine And.intro (?_ : enters Try.prog 53) ?_); (focus exact Try.call53); (refine callX_satH specknown_sat ?_); simp only [go_sem, and_assoc, List.nil_append, List.append_nil, List.cons_append, Nat.reduceEqDiff, reduceIte, reduceCtorEq, hA, e2, e3, nmA, Nat.reduceAdd, ifA, ifB, hA, e2, e3]) | fail)
    refine ⟨d, rfl, b, fs, rfl, rfl, rfl, by omega, by omega, hi, fun H1 N1 O1 w1 w2 w3 => ?_⟩
    rw [← eK] at w1 ⊢


    repeat' (first | ((with_reducible refine hK _ ?_); clear hK K) | ((with_reducible refine aord_plain fun K hK => ?_); simp only [go_sem, Nat.reduceAdd, Nat.reduceMul, Nat.reduceEqDiff, Nat.reduceLT, reduceIte, reduceCtorEq, w1, nmA, Nat.reduceAdd, ifA, ifB, w1]) | ((with_reducible refine And.intro (?_ : enters Try.prog 52) ?_); (focus exact Try.call52); (refine callX_satH hle ?_); simp only [go_sem, and_assoc, List.nil_append, List.append_nil, List.cons_append, Nat.reduceEqDiff, reduceIte, reduceCtorEq, w1, nmA, Nat.reduceAdd, ifA, ifB, w1]) | fail)
    refine ⟨true, knO d fs, rfl, rfl, rfl, hi2, by omega, fun w N2 hw hN2 => ?_⟩
    rw [eO] at hw
    rw [piA_yes hV (by omega) hkd, few_eq hw] at hQ
    repeat' ((fail_if_success (with_reducible refine isRetQ ?_)); (first | ((with_reducible refine hK _ ?_); clear hK K) | ((with_reducible refine aord_plain fun K hK => ?_); simp only [go_sem, Nat.reduceAdd, Nat.reduceMul, Nat.reduceEqDiff, Nat.reduceLT, reduceIte, reduceCtorEq, w1, nmA, Nat.reduceAdd, ifA, ifB, w1]) | ((first | with_reducible refine aord_nil ?_ | refine awp_skip ?_ | refine awp_exit ?_ | refine awp_ret ?_); try simp only [rdA, Nat.reduceEqDiff, ifA, ifB, reduceIte]) | fail))
    refine awp_weaken (s' := ⟨upd bot 6 (.val (.int .i64 w)), h, N2⟩) (Wk.sub (tsd tsd0 rfl) (fun o ob ho => by have := (hcl o _ ho).1; dsimp only; rw [w2 o (by omega)]; exact ho) rfl) ?_
    repeat' (first | ((first | with_reducible refine aord_nil ?_ | refine awp_skip ?_ | refine awp_exit ?_ | refine awp_ret ?_); try simp only [rdA, Nat.reduceEqDiff, ifA, ifB, reduceIte]) | (simp only [doneH]; simp only [ressK, resK, wrapR, go_sem, Nat.reduceAdd, Nat.reduceMul, Nat.reduceEqDiff, Nat.reduceLT, reduceIte, reduceCtorEq, w1, nmA, Nat.reduceAdd, ifA, ifB]) | fail)
    exact hQ N2 (by omega)
  · rw [piA_no (fun h => hgood ⟨hv.2 h.1, by rw [← e2, decide_eq_true (by omega), decide_eq_true (by omega)]; rfl, by rw [← e3, decide_eq_true (by omega), decide_eq_true (by omega)]; rfl⟩)] at hQ
    cases v with
    | false =>


      repeat' (first | refine awp_seq_k fun K hK => ?_ | ((with_reducible refine hK _ ?_); clear hK K) | ((with_reducible refine aord_plain fun K hK => ?_); simp only [go_sem, Nat.reduceAdd, Nat.reduceMul, Nat.reduceEqDiff, Nat.reduceLT, reduceIte, reduceCtorEq, hA, nmA, Nat.reduceAdd, ifA, ifB, hA]) | ((with_reducible apply aord_guard); (focus (simp only [St.ev, St.set, upd, Nat.reduceEqDiff, reduceIte, ifA, ifB, hA, nmA, Nat.reduceAdd, ifA, ifB]; exact rfl)); all_goals (intro hb; (try simp only [Bool.not_true, Bool.not_false] at hb); first | (cases hb; done) | ((try rw [hb]); (try simp only [Bool.not_eq_true', Bool.not_eq_false', Bool.and_eq_true, dcA, dcB, dcC, dcD, dcE] at hb); (try (revert hb; with_reducible refine true_imp_iff.2 ?_)); first | (intro K hK; simp only [go_sem, Nat.reduceAdd, Nat.reduceMul, Nat.reduceEqDiff, Nat.reduceLT, reduceIte, reduceCtorEq, hA, nmA, Nat.reduceAdd, ifA, ifB]) | (simp only [St.ev, St.set, upd, Nat.reduceEqDiff, reduceIte, ifA, ifB, hA, nmA, Nat.reduceAdd, ifA, ifB]) | skip))) | ((first | with_reducible refine aord_nil ?_ | refine awp_skip ?_ | refine awp_exit ?_ | refine awp_ret ?_); try simp only [rdA, Nat.reduceEqDiff, ifA, ifB, reduceIte]) | (refine awp_region tabOk rfl ?_; simp only [prep, pickO, lsA, lsB, lsC, lsD, lsE, lsF, lsG]) | ((with_reducible apply awp_cond); (focus (simp only [St.ev, St.set, upd, Nat.reduceEqDiff, reduceIte, ifA, ifB, hA, nmA, Nat.reduceAdd, ifA, ifB]; exact rfl)); all_goals (intro hb; first | (cases hb; done) | ((try rw [hb]); (try simp only [dcA, dcB, dcC, dcD, dcE, Bool.not_eq_true', Bool.not_eq_false'] at hb)))) | (simp only [doneH]; simp only [ressK, resK, wrapR, go_sem, Nat.reduceAdd, Nat.reduceMul, Nat.reduceEqDiff, Nat.reduceLT, reduceIte, reduceCtorEq, hA, nmA, Nat.reduceAdd, ifA, ifB]) | fail)
      exact hQ N hN
    | true =>
      have hzb := (hv.1 rfl).1
      cases b2 <;> cases b3
      all_goals try (exact absurd ⟨rfl, rfl, rfl⟩ hgood)
      all_goals (


        repeat' (first | refine awp_seq_k fun K hK => ?_ | ((with_reducible refine hK _ ?_); clear hK K) | ((with_reducible refine aord_plain fun K hK => ?_); simp only [go_sem, Nat.reduceAdd, Nat.reduceMul, Nat.reduceEqDiff, Nat.reduceLT, reduceIte, reduceCtorEq, hA, e2, e3, nmA, Nat.reduceAdd, ifA, ifB, hA, e2, e3]) | ((with_reducible apply aord_guard); (focus (simp only [St.ev, St.set, upd, Nat.reduceEqDiff, reduceIte, ifA, ifB, hA, e2, e3, nmA, Nat.reduceAdd, ifA, ifB]; exact rfl)); all_goals (intro hb; (try simp only [Bool.not_true, Bool.not_false] at hb); first | (cases hb; done) | ((try rw [hb]); (try simp only [Bool.not_eq_true', Bool.not_eq_false', Bool.and_eq_true, dcA, dcB, dcC, dcD, dcE] at hb); (try (revert hb; with_reducible refine true_imp_iff.2 ?_)); first | (intro K hK; simp only [go_sem, Nat.reduceAdd, Nat.reduceMul, Nat.reduceEqDiff, Nat.reduceLT, reduceIte, reduceCtorEq, hA, e2, e3, nmA, Nat.reduceAdd, ifA, ifB]) | (simp only [St.ev, St.set, upd, Nat.reduceEqDiff, reduceIte, ifA, ifB, hA, e2, e3, nmA, Nat.reduceAdd, ifA, ifB]) | skip))) | ((first | with_reducible refine aord_nil ?_ | refine awp_skip ?_ | refine awp_exit ?_ | refine awp_ret ?_); try simp only [rdA, Nat.reduceEqDiff, ifA, ifB, reduceIte]) | (refine awp_region tabOk rfl ?_; simp only [prep, pickO, lsA, lsB, lsC, lsD, lsE, lsF, lsG]) | ((with_reducible apply awp_cond); (focus (simp only [St.ev, St.set, upd, Nat.reduceEqDiff, reduceIte, ifA, ifB, hA, e2, e3, nmA, Nat.reduceAdd, ifA, ifB]; exact rfl)); all_goals (intro hb; first | (cases hb; done) | ((try rw [hb]); (try simp only [dcA, dcB, dcC, dcD, dcE, Bool.not_eq_true', Bool.not_eq_false'] at hb)))) | ((with_reducible refine And.intro ?_ ?_); (focus omega)) | ((with_reducible refine And.intro (?_ : enters Try.prog 65) ?_); (focus exact Try.call65); (refine callX_sat inRange_sat ?_); simp only [go_sem, and_assoc, List.nil_append, List.append_nil, List.cons_append, Nat.reduceEqDiff, reduceIte, reduceCtorEq, hA, e2, e3, nmA, Nat.reduceAdd, ifA, ifB, hA, e2, e3]) | (simp only [doneH]; simp only [ressK, resK, wrapR, go_sem, Nat.reduceAdd, Nat.reduceMul, Nat.reduceEqDiff, Nat.reduceLT, reduceIte, reduceCtorEq, hA, e2, e3, nmA, Nat.reduceAdd, ifA, ifB]) | fail))
      all_goals exact hQ N hN

-- walk_lawF factsIn_row i64r_of
theorem FnExactLeastAsks_satF : SatH Try.prog 9 (fun al h n K => ∃ (z : Int) (A : Nat) (b : Bool) (fs : List (Int × Int)), al = [.val (.int .i64 (z)), .sl A 0 fs.length 2 none] ∧ (h A = some ⟨b, .ints .i64 (flF fs)⟩) ∧ (i64r z) ∧ (fs.length ≤ 9223372036854775807) ∧ ∀ (H : Hp) (N : Nat), K (.val (.bool (true))) (H) (N)) := by
  refine satH_intro tabOk Try.func9 rfl 31 rfl [.tmp 4] rfl ?_
  rintro F W h n al K0 ⟨z, A, b, fs, rfl, hA, hz, hl, hQ⟩
  refine ⟨Nat.le_of_ble_eq_true rfl, fun m0 hm0 hcl hlt => ?_⟩
  simp only [initT]
  have hAn := (hcl A _ hA).1
  have hfl := flF_len fs
  have a1 : (A = n) = False := eq_false (by omega)
  have a2 : (n = A) = False := eq_false (by omega)
  have hlt2 := hlt
  rcases Nat.lt_or_ge 1048576 fs.length with hbig | hsm
  · have e0 : (if (1048576 : Int) < (fs.length : Int) then (-1 : Int) else 1048576 - fs.length) = -1 := if_pos (by omega)


    repeat' (first | refine awp_seq_k fun K hK => ?_ | ((with_reducible refine hK _ ?_); clear hK K) | ((with_reducible refine aord_plain fun K hK => ?_); simp only [go_sem, Nat.reduceAdd, Nat.reduceMul, Nat.reduceEqDiff, Nat.reduceLT, reduceIte, reduceCtorEq, hA, a1, a2, e0, nmA, Nat.reduceAdd, ifA, ifB, hA, e0, mat.matL]) | ((first | with_reducible refine aord_nil ?_ | refine awp_skip ?_ | refine awp_exit ?_ | refine awp_ret ?_); try simp only [rdA, Nat.reduceEqDiff, ifA, ifB, reduceIte]) | (refine awp_region tabOk rfl ?_; simp only [prep, pickO, lsA, lsB, lsC, lsD, lsE, lsF, lsG]) | ((with_reducible apply awp_cond); (focus (simp only [St.ev, St.set, upd, Nat.reduceEqDiff, reduceIte, ifA, ifB, hA, a1, a2, e0, nmA, Nat.reduceAdd, ifA, ifB]; exact rfl)); all_goals (intro hb; first | (cases hb; done) | ((try rw [hb]); (try simp only [dcA, dcB, dcC, dcD, dcE, Bool.not_eq_true', Bool.not_eq_false'] at hb)))) | ((with_reducible refine And.intro ?_ ?_); (focus omega)) | ((with_reducible refine And.intro (?_ : enters Try.prog 35) ?_); (focus exact Try.call35); (refine callX_satH szFactS_sat ?_); simp only [go_sem, and_assoc, List.nil_append, List.append_nil, List.cons_append, Nat.reduceEqDiff, reduceIte, reduceCtorEq, hA, a1, a2, e0, nmA, Nat.reduceAdd, ifA, ifB, hA, e0, mat.matL]) | (simp only [doneH]; simp only [ressK, resK, wrapR, go_sem, Nat.reduceAdd, Nat.reduceMul, Nat.reduceEqDiff, Nat.reduceLT, reduceIte, reduceCtorEq, hA, a1, a2, e0, nmA, Nat.reduceAdd, ifA, ifB]) | fail)
    exact hQ _ _
  · have e0 : (if (1048576 : Int) < (fs.length : Int) then (-1 : Int) else 1048576 - fs.length) = 1048576 - fs.length := if_neg (by omega)


    repeat' (first | refine awp_seq_k fun K hK => ?_ | ((with_reducible refine hK _ ?_); clear hK K) | ((with_reducible refine aord_plain fun K hK => ?_); simp only [go_sem, Nat.reduceAdd, Nat.reduceMul, Nat.reduceEqDiff, Nat.reduceLT, reduceIte, reduceCtorEq, hA, a1, a2, e0, nmA, Nat.reduceAdd, ifA, ifB, hA, e0, mat.matL]) | ((first | with_reducible refine aord_nil ?_ | refine awp_skip ?_ | refine awp_exit ?_ | refine awp_ret ?_); try simp only [rdA, Nat.reduceEqDiff, ifA, ifB, reduceIte]) | (refine awp_region tabOk rfl ?_; simp only [prep, pickO, lsA, lsB, lsC, lsD, lsE, lsF, lsG]) | ((with_reducible apply awp_cond); (focus (simp only [St.ev, St.set, upd, Nat.reduceEqDiff, reduceIte, ifA, ifB, hA, a1, a2, e0, nmA, Nat.reduceAdd, ifA, ifB]; exact rfl)); all_goals (intro hb; first | (cases hb; done) | ((try rw [hb]); (try simp only [dcA, dcB, dcC, dcD, dcE, Bool.not_eq_true', Bool.not_eq_false'] at hb)))) | ((with_reducible refine And.intro ?_ ?_); (focus omega)) | ((with_reducible refine And.intro (?_ : enters Try.prog 35) ?_); (focus exact Try.call35); (refine callX_satH szFactS_sat ?_); simp only [go_sem, and_assoc, List.nil_append, List.append_nil, List.cons_append, Nat.reduceEqDiff, reduceIte, reduceCtorEq, hA, a1, a2, e0, nmA, Nat.reduceAdd, ifA, ifB, hA, e0, mat.matL]) | ((with_reducible refine And.intro (?_ : enters Try.prog 36) ?_); (focus exact Try.call36); (refine callX_satH toFactS_sat ?_); simp only [go_sem, and_assoc, List.nil_append, List.append_nil, List.cons_append, Nat.reduceEqDiff, reduceIte, reduceCtorEq, hA, a1, a2, e0, nmA, Nat.reduceAdd, ifA, ifB, hA, e0, mat.matL]) | (simp only [doneH]; simp only [ressK, resK, wrapR, go_sem, Nat.reduceAdd, Nat.reduceMul, Nat.reduceEqDiff, Nat.reduceLT, reduceIte, reduceCtorEq, hA, a1, a2, e0, nmA, Nat.reduceAdd, ifA, ifB]) | (exfalso; omega) | fail)
    refine ⟨b, fs, rfl, rfl, rfl, hsm, ?_⟩
    repeat' (first | ((with_reducible refine hK _ ?_); clear hK K) | ((with_reducible refine aord_plain fun K hK => ?_); simp only [go_sem, Nat.reduceAdd, Nat.reduceMul, Nat.reduceEqDiff, Nat.reduceLT, reduceIte, reduceCtorEq, hA, a1, a2, e0, nmA, Nat.reduceAdd, ifA, ifB, hA, e0, mat.matL]) | ((with_reducible refine And.intro (?_ : enters Try.prog 18) ?_); (focus exact Try.call18); (refine callX_satH specLeastAsks_sat ?_); simp only [go_sem, and_assoc, List.nil_append, List.append_nil, List.cons_append, Nat.reduceEqDiff, reduceIte, reduceCtorEq, hA, a1, a2, e0, nmA, Nat.reduceAdd, ifA, ifB, hA, e0, mat.matL]) | fail)
    refine ⟨true, fs, rfl, rfl, rfl, by omega, fun N hN => ?_⟩
    have c1 : (A = N) = False := eq_false (by omega)
    have c2 : (N = A) = False := eq_false (by omega)
    have c3 : (n = N) = False := eq_false (by omega)
    have c4 : (N = n) = False := eq_false (by omega)


    repeat' (first | refine awp_seq_k fun K hK => ?_ | ((with_reducible refine hK _ ?_); clear hK K) | ((with_reducible refine aord_plain fun K hK => ?_); simp only [go_sem, Nat.reduceAdd, Nat.reduceMul, Nat.reduceEqDiff, Nat.reduceLT, reduceIte, reduceCtorEq, hA, a1, a2, c1, c2, c3, c4, nmA, Nat.reduceAdd, ifA, ifB, hA, mat.matL]) | ((first | with_reducible refine aord_nil ?_ | refine awp_skip ?_ | refine awp_exit ?_ | refine awp_ret ?_); try simp only [rdA, Nat.reduceEqDiff, ifA, ifB, reduceIte]) | (refine awp_region tabOk rfl ?_; simp only [prep, pickO, lsA, lsB, lsC, lsD, lsE, lsF, lsG]) | ((with_reducible refine And.intro (?_ : enters Try.prog 36) ?_); (focus exact Try.call36); (refine callX_satH toFactS_sat ?_); simp only [go_sem, and_assoc, List.nil_append, List.append_nil, List.cons_append, Nat.reduceEqDiff, reduceIte, reduceCtorEq, hA, a1, a2, c1, c2, c3, c4, nmA, Nat.reduceAdd, ifA, ifB, hA, mat.matL]) | fail)
    refine ⟨b, fs, rfl, rfl, rfl, hsm, ?_⟩
    repeat' (first | refine awp_seq_k fun K hK => ?_ | ((with_reducible refine hK _ ?_); clear hK K) | ((with_reducible refine aord_plain fun K hK => ?_); simp only [go_sem, Nat.reduceAdd, Nat.reduceMul, Nat.reduceEqDiff, Nat.reduceLT, reduceIte, reduceCtorEq, hA, a1, a2, c1, c2, c3, c4, nmA, Nat.reduceAdd, ifA, ifB, hA, mat.matL]) | ((first | with_reducible refine aord_nil ?_ | refine awp_skip ?_ | refine awp_exit ?_ | refine awp_ret ?_); try simp only [rdA, Nat.reduceEqDiff, ifA, ifB, reduceIte]) | (refine awp_region tabOk rfl ?_; simp only [prep, pickO, lsA, lsB, lsC, lsD, lsE, lsF, lsG]) | ((with_reducible refine And.intro (?_ : enters Try.prog 17) ?_); (focus exact Try.call17); (refine callX_satH implLeastAsks_sat ?_); simp only [go_sem, and_assoc, List.nil_append, List.append_nil, List.cons_append, Nat.reduceEqDiff, reduceIte, reduceCtorEq, hA, a1, a2, c1, c2, c3, c4, nmA, Nat.reduceAdd, ifA, ifB, hA, mat.matL]) | fail)
    refine ⟨true, fs, rfl, rfl, rfl, by omega, fun N2 hN2 => ?_⟩
    have d1 : (A = N2) = False := eq_false (by omega)
    have d2 : (N2 = A) = False := eq_false (by omega)
    have d3 : (n = N2) = False := eq_false (by omega)
    have d4 : (N2 = n) = False := eq_false (by omega)
    have d5 : (N = N2) = False := eq_false (by omega)
    have d6 : (N2 = N) = False := eq_false (by omega)
    have eb : (leA z fs != leA z fs) = false := bne_self_eq_false _
    have ef : decide (fs = fs) = true := decide_eq_true rfl


    repeat' (first | refine awp_seq_k fun K hK => ?_ | ((with_reducible refine hK _ ?_); clear hK K) | ((with_reducible refine aord_plain fun K hK => ?_); simp only [go_sem, Nat.reduceAdd, Nat.reduceMul, Nat.reduceEqDiff, Nat.reduceLT, reduceIte, reduceCtorEq, hA, a1, a2, c1, c2, c3, c4, d1, d2, d3, d4, d5, d6, eb, ef, nmA, Nat.reduceAdd, ifA, ifB, hA, eb, ef, mat.matL]) | ((first | with_reducible refine aord_nil ?_ | refine awp_skip ?_ | refine awp_exit ?_ | refine awp_ret ?_); try simp only [rdA, Nat.reduceEqDiff, ifA, ifB, reduceIte]) | (refine awp_region tabOk rfl ?_; simp only [prep, pickO, lsA, lsB, lsC, lsD, lsE, lsF, lsG]) | ((with_reducible apply awp_cond); (focus (simp only [St.ev, St.set, upd, Nat.reduceEqDiff, reduceIte, ifA, ifB, hA, a1, a2, c1, c2, c3, c4, d1, d2, d3, d4, d5, d6, eb, ef, nmA, Nat.reduceAdd, ifA, ifB]; exact rfl)); all_goals (intro hb; first | (cases hb; done) | ((try rw [hb]); (try simp only [dcA, dcB, dcC, dcD, dcE, Bool.not_eq_true', Bool.not_eq_false'] at hb)))) | ((with_reducible refine And.intro (?_ : enters Try.prog 36) ?_); (focus exact Try.call36); (refine callX_satH toFactS_sat ?_); simp only [go_sem, and_assoc, List.nil_append, List.append_nil, List.cons_append, Nat.reduceEqDiff, reduceIte, reduceCtorEq, hA, a1, a2, c1, c2, c3, c4, d1, d2, d3, d4, d5, d6, eb, ef, nmA, Nat.reduceAdd, ifA, ifB, hA, eb, ef, mat.matL]) | fail)
    refine ⟨b, fs, rfl, rfl, rfl, hsm, ?_⟩
    repeat' (first | ((with_reducible refine hK _ ?_); clear hK K) | ((with_reducible refine aord_plain fun K hK => ?_); simp only [go_sem, Nat.reduceAdd, Nat.reduceMul, Nat.reduceEqDiff, Nat.reduceLT, reduceIte, reduceCtorEq, hA, a1, a2, c1, c2, c3, c4, d1, d2, d3, d4, d5, d6, eb, ef, nmA, Nat.reduceAdd, ifA, ifB, hA, eb, ef, mat.matL]) | ((with_reducible refine And.intro (?_ : enters Try.prog 37) ?_); (focus exact Try.call37); (refine callX_satH eqFactS_sat ?_); simp only [go_sem, and_assoc, List.nil_append, List.append_nil, List.cons_append, Nat.reduceEqDiff, reduceIte, reduceCtorEq, hA, a1, a2, c1, c2, c3, c4, d1, d2, d3, d4, d5, d6, eb, ef, nmA, Nat.reduceAdd, ifA, ifB, hA, eb, ef, mat.matL]) | fail)
    refine ⟨N2, fs, rfl, rfl, fs, rfl, rfl, true, if_pos rfl, by omega, by omega, ?_⟩
    repeat' (first | refine awp_seq_k fun K hK => ?_ | ((with_reducible refine hK _ ?_); clear hK K) | ((with_reducible refine aord_plain fun K hK => ?_); simp only [go_sem, Nat.reduceAdd, Nat.reduceMul, Nat.reduceEqDiff, Nat.reduceLT, reduceIte, reduceCtorEq, hA, a1, a2, c1, c2, c3, c4, d1, d2, d3, d4, d5, d6, eb, ef, nmA, Nat.reduceAdd, ifA, ifB, hA, eb, ef, mat.matL]) | ((first | with_reducible refine aord_nil ?_ | refine awp_skip ?_ | refine awp_exit ?_ | refine awp_ret ?_); try simp only [rdA, Nat.reduceEqDiff, ifA, ifB, reduceIte]) | (refine awp_region tabOk rfl ?_; simp only [prep, pickO, lsA, lsB, lsC, lsD, lsE, lsF, lsG]) | ((with_reducible apply awp_cond); (focus (simp only [St.ev, St.set, upd, Nat.reduceEqDiff, reduceIte, ifA, ifB, hA, a1, a2, c1, c2, c3, c4, d1, d2, d3, d4, d5, d6, eb, ef, nmA, Nat.reduceAdd, ifA, ifB]; exact rfl)); all_goals (intro hb; first | (cases hb; done) | ((try rw [hb]); (try simp only [dcA, dcB, dcC, dcD, dcE, Bool.not_eq_true', Bool.not_eq_false'] at hb)))) | (simp only [doneH]; simp only [ressK, resK, wrapR, go_sem, Nat.reduceAdd, Nat.reduceMul, Nat.reduceEqDiff, Nat.reduceLT, reduceIte, reduceCtorEq, hA, a1, a2, c1, c2, c3, c4, d1, d2, d3, d4, d5, d6, eb, ef, nmA, Nat.reduceAdd, ifA, ifB]) | fail)
    exact hQ _ _


theorem FnExactLeastAsks_pre {z : Int} {fs : List (Int × Int)} (hz : i64r z) (hl : fs.length ≤ 9223372036854775807) {K : AV → Hp → Nat → Prop} (hK : ∀ H N, K (.val (.bool true)) H N) : ∃ (z2 : Int) (A : Nat) (b : Bool) (fs2 : List (Int × Int)), [AV.val (.int .i64 z), .sl 0 0 fs.length 2 none] = [.val (.int .i64 z2), .sl A 0 fs2.length 2 none] ∧ (upd none' 0 (some ⟨false, .ints .i64 (flF fs)⟩)) A = some ⟨b, .ints .i64 (flF fs2)⟩ ∧ i64r z2 ∧ fs2.length ≤ 9223372036854775807 ∧ ∀ (H : Hp) (N : Nat), K (.val (.bool true)) H N :=
  ⟨z, 0, false, fs, rfl, upd_same _ _ _, hz, hl, hK⟩


theorem walk_lawF1 {P : Program} {f : FuncId} {S : CtrH} (hS : SatH P f S) {z a : Int} {fs : List (Int × Int)} {x : Value} {w : World} (hx : FactsIn w fs x)
    (hs : ∀ K : AV → Hp → Nat → Prop, (∀ H N, K (.val (.bool true)) H N) → S [.val (.int .i64 z), .sl 0 0 fs.length 2 none, .val (.int .i64 a)] (upd none' 0 (some ⟨false, .ints .i64 (flF fs)⟩)) 1 K) :
    Calls P f #[.int .i64 z, x, .int .i64 a] w fun e w' => e = .returned (.bool true) ∧ RowKit.Below w.heap.size w w' := by
  obtain ⟨l, hsl, hcells, hlen, hlt⟩ := hx
  have hsim : Sim noF w (upd (fun _ => none) 0 (some l)) (upd none' 0 (some ⟨false, .ints .i64 (flF fs)⟩)) 1 w := (sim_none w).addRo (by simpa [Cont.len] using hlen) rfl hcells hlt
  have hc := hS false [] _ _ _ _ (hs (fun a _ _ => a = .val (.bool true)) fun _ _ => rfl)
  refine (hc noF w _ [.int .i64 z, x, .int .i64 a] w (by simp) hsim ⟨rfl, ⟨l, upd_same _ _ _, hsl⟩, rfl, trivial⟩).mono ?_
  rintro e w' ⟨v, rfl, m', a', h', n', rfl, hr, hs', _, _⟩
  simp only [Rep] at hr
  have hk := hs'.kept
  exact ⟨by rw [hr], hk.os, hk.tape, hk.output, hk.size, fun k hlt => hk.block k hlt (fun h => h)⟩


-- walk_lawF1 factsIn_row i64r_of
theorem FnExactPickAsks_satF : SatH Try.prog 10 (fun al h n K => ∃ (z : Int) (A : Nat) (b : Bool) (fs : List (Int × Int)) (k : Int), al = [.val (.int .i64 (z)), .sl A 0 fs.length 2 none, .val (.int .i64 (k))] ∧ (h A = some ⟨b, .ints .i64 (flF fs)⟩) ∧ (i64r z) ∧ (i64r k) ∧ (fs.length ≤ 9223372036854775807) ∧ ∀ (H : Hp) (N : Nat), K (.val (.bool (true))) (H) (N)) := by
  refine satH_intro tabOk Try.func10 rfl 35 rfl [.tmp 6] rfl ?_
  rintro F W h n al K0 ⟨z, A, b, fs, k, rfl, hA, hz, hk2, hl, hQ⟩
  refine ⟨Nat.le_of_ble_eq_true rfl, fun m0 hm0 hcl hlt => ?_⟩
  simp only [initT]
  have hAn := (hcl A _ hA).1
  have hfl := flF_len fs
  have a1 : (A = n) = False := eq_false (by omega)
  have a2 : (n = A) = False := eq_false (by omega)
  have hlt2 := hlt
  rcases Nat.lt_or_ge 1048576 fs.length with hbig | hsm
  · have e0 : (if (1048576 : Int) < (fs.length : Int) then (-1 : Int) else 1048576 - fs.length) = -1 := if_pos (by omega)


    repeat' (first | refine awp_seq_k fun K hK => ?_ | ((with_reducible refine hK _ ?_); clear hK K) | ((with_reducible refine aord_plain fun K hK => ?_); simp only [go_sem, Nat.reduceAdd, Nat.reduceMul, Nat.reduceEqDiff, Nat.reduceLT, reduceIte, reduceCtorEq, hA, a1, a2, e0, nmA, Nat.reduceAdd, ifA, ifB, hA, e0, mat.matL]) | ((first | with_reducible refine aord_nil ?_ | refine awp_skip ?_ | refine awp_exit ?_ | refine awp_ret ?_); try simp only [rdA, Nat.reduceEqDiff, ifA, ifB, reduceIte]) | (refine awp_region tabOk rfl ?_; simp only [prep, pickO, lsA, lsB, lsC, lsD, lsE, lsF, lsG]) | ((with_reducible apply awp_cond); (focus (simp only [St.ev, St.set, upd, Nat.reduceEqDiff, reduceIte, ifA, ifB, hA, a1, a2, e0, nmA, Nat.reduceAdd, ifA, ifB]; exact rfl)); all_goals (intro hb; first | (cases hb; done) | ((try rw [hb]); (try simp only [dcA, dcB, dcC, dcD, dcE, Bool.not_eq_true', Bool.not_eq_false'] at hb)))) | ((with_reducible refine And.intro ?_ ?_); (focus omega)) | ((with_reducible refine And.intro (?_ : enters Try.prog 35) ?_); (focus exact Try.call35); (refine callX_satH szFactS_sat ?_); simp only [go_sem, and_assoc, List.nil_append, List.append_nil, List.cons_append, Nat.reduceEqDiff, reduceIte, reduceCtorEq, hA, a1, a2, e0, nmA, Nat.reduceAdd, ifA, ifB, hA, e0, mat.matL]) | (simp only [doneH]; simp only [ressK, resK, wrapR, go_sem, Nat.reduceAdd, Nat.reduceMul, Nat.reduceEqDiff, Nat.reduceLT, reduceIte, reduceCtorEq, hA, a1, a2, e0, nmA, Nat.reduceAdd, ifA, ifB]) | fail)
    exact hQ _ _
  · have e0 : (if (1048576 : Int) < (fs.length : Int) then (-1 : Int) else 1048576 - fs.length) = 1048576 - fs.length := if_neg (by omega)


    repeat' (first | refine awp_seq_k fun K hK => ?_ | ((with_reducible refine hK _ ?_); clear hK K) | ((with_reducible refine aord_plain fun K hK => ?_); simp only [go_sem, Nat.reduceAdd, Nat.reduceMul, Nat.reduceEqDiff, Nat.reduceLT, reduceIte, reduceCtorEq, hA, a1, a2, e0, nmA, Nat.reduceAdd, ifA, ifB, hA, e0, mat.matL]) | ((first | with_reducible refine aord_nil ?_ | refine awp_skip ?_ | refine awp_exit ?_ | refine awp_ret ?_); try simp only [rdA, Nat.reduceEqDiff, ifA, ifB, reduceIte]) | (refine awp_region tabOk rfl ?_; simp only [prep, pickO, lsA, lsB, lsC, lsD, lsE, lsF, lsG]) | ((with_reducible apply awp_cond); (focus (simp only [St.ev, St.set, upd, Nat.reduceEqDiff, reduceIte, ifA, ifB, hA, a1, a2, e0, nmA, Nat.reduceAdd, ifA, ifB]; exact rfl)); all_goals (intro hb; first | (cases hb; done) | ((try rw [hb]); (try simp only [dcA, dcB, dcC, dcD, dcE, Bool.not_eq_true', Bool.not_eq_false'] at hb)))) | ((with_reducible refine And.intro ?_ ?_); (focus omega)) | ((with_reducible refine And.intro (?_ : enters Try.prog 35) ?_); (focus exact Try.call35); (refine callX_satH szFactS_sat ?_); simp only [go_sem, and_assoc, List.nil_append, List.append_nil, List.cons_append, Nat.reduceEqDiff, reduceIte, reduceCtorEq, hA, a1, a2, e0, nmA, Nat.reduceAdd, ifA, ifB, hA, e0, mat.matL]) | ((with_reducible refine And.intro (?_ : enters Try.prog 36) ?_); (focus exact Try.call36); (refine callX_satH toFactS_sat ?_); simp only [go_sem, and_assoc, List.nil_append, List.append_nil, List.cons_append, Nat.reduceEqDiff, reduceIte, reduceCtorEq, hA, a1, a2, e0, nmA, Nat.reduceAdd, ifA, ifB, hA, e0, mat.matL]) | (simp only [doneH]; simp only [ressK, resK, wrapR, go_sem, Nat.reduceAdd, Nat.reduceMul, Nat.reduceEqDiff, Nat.reduceLT, reduceIte, reduceCtorEq, hA, a1, a2, e0, nmA, Nat.reduceAdd, ifA, ifB]) | (exfalso; omega) | fail)
    refine ⟨b, fs, rfl, rfl, rfl, hsm, ?_⟩
    repeat' (first | ((with_reducible refine hK _ ?_); clear hK K) | ((with_reducible refine aord_plain fun K hK => ?_); simp only [go_sem, Nat.reduceAdd, Nat.reduceMul, Nat.reduceEqDiff, Nat.reduceLT, reduceIte, reduceCtorEq, hA, a1, a2, e0, nmA, Nat.reduceAdd, ifA, ifB, hA, e0, mat.matL]) | ((with_reducible refine And.intro (?_ : enters Try.prog 24) ?_); (focus exact Try.call24); (refine callX_satH specPickAsks_sat ?_); simp only [go_sem, and_assoc, List.nil_append, List.append_nil, List.cons_append, Nat.reduceEqDiff, reduceIte, reduceCtorEq, hA, a1, a2, e0, nmA, Nat.reduceAdd, ifA, ifB, hA, e0, mat.matL]) | fail)
    refine ⟨true, fs, rfl, rfl, rfl, by omega, fun N hN => ?_⟩
    have c1 : (A = N) = False := eq_false (by omega)
    have c2 : (N = A) = False := eq_false (by omega)
    have c3 : (n = N) = False := eq_false (by omega)
    have c4 : (N = n) = False := eq_false (by omega)


    repeat' (first | refine awp_seq_k fun K hK => ?_ | ((with_reducible refine hK _ ?_); clear hK K) | ((with_reducible refine aord_plain fun K hK => ?_); simp only [go_sem, Nat.reduceAdd, Nat.reduceMul, Nat.reduceEqDiff, Nat.reduceLT, reduceIte, reduceCtorEq, hA, a1, a2, c1, c2, c3, c4, nmA, Nat.reduceAdd, ifA, ifB, hA, mat.matL]) | ((first | with_reducible refine aord_nil ?_ | refine awp_skip ?_ | refine awp_exit ?_ | refine awp_ret ?_); try simp only [rdA, Nat.reduceEqDiff, ifA, ifB, reduceIte]) | (refine awp_region tabOk rfl ?_; simp only [prep, pickO, lsA, lsB, lsC, lsD, lsE, lsF, lsG]) | ((with_reducible refine And.intro (?_ : enters Try.prog 36) ?_); (focus exact Try.call36); (refine callX_satH toFactS_sat ?_); simp only [go_sem, and_assoc, List.nil_append, List.append_nil, List.cons_append, Nat.reduceEqDiff, reduceIte, reduceCtorEq, hA, a1, a2, c1, c2, c3, c4, nmA, Nat.reduceAdd, ifA, ifB, hA, mat.matL]) | fail)
    refine ⟨b, fs, rfl, rfl, rfl, hsm, ?_⟩
    repeat' (first | refine awp_seq_k fun K hK => ?_ | ((with_reducible refine hK _ ?_); clear hK K) | ((with_reducible refine aord_plain fun K hK => ?_); simp only [go_sem, Nat.reduceAdd, Nat.reduceMul, Nat.reduceEqDiff, Nat.reduceLT, reduceIte, reduceCtorEq, hA, a1, a2, c1, c2, c3, c4, nmA, Nat.reduceAdd, ifA, ifB, hA, mat.matL]) | ((first | with_reducible refine aord_nil ?_ | refine awp_skip ?_ | refine awp_exit ?_ | refine awp_ret ?_); try simp only [rdA, Nat.reduceEqDiff, ifA, ifB, reduceIte]) | (refine awp_region tabOk rfl ?_; simp only [prep, pickO, lsA, lsB, lsC, lsD, lsE, lsF, lsG]) | ((with_reducible refine And.intro (?_ : enters Try.prog 23) ?_); (focus exact Try.call23); (refine callX_satH implPickAsks_sat ?_); simp only [go_sem, and_assoc, List.nil_append, List.append_nil, List.cons_append, Nat.reduceEqDiff, reduceIte, reduceCtorEq, hA, a1, a2, c1, c2, c3, c4, nmA, Nat.reduceAdd, ifA, ifB, hA, mat.matL]) | fail)
    refine ⟨true, fs, rfl, rfl, rfl, by omega, fun N2 hN2 => ?_⟩
    have d1 : (A = N2) = False := eq_false (by omega)
    have d2 : (N2 = A) = False := eq_false (by omega)
    have d3 : (n = N2) = False := eq_false (by omega)
    have d4 : (N2 = n) = False := eq_false (by omega)
    have d5 : (N = N2) = False := eq_false (by omega)
    have d6 : (N2 = N) = False := eq_false (by omega)
    have eb : (piA z fs k != piA z fs k) = false := bne_self_eq_false _
    have ef : decide (fs = fs) = true := decide_eq_true rfl


    repeat' (first | refine awp_seq_k fun K hK => ?_ | ((with_reducible refine hK _ ?_); clear hK K) | ((with_reducible refine aord_plain fun K hK => ?_); simp only [go_sem, Nat.reduceAdd, Nat.reduceMul, Nat.reduceEqDiff, Nat.reduceLT, reduceIte, reduceCtorEq, hA, a1, a2, c1, c2, c3, c4, d1, d2, d3, d4, d5, d6, eb, ef, nmA, Nat.reduceAdd, ifA, ifB, hA, eb, ef, mat.matL]) | ((first | with_reducible refine aord_nil ?_ | refine awp_skip ?_ | refine awp_exit ?_ | refine awp_ret ?_); try simp only [rdA, Nat.reduceEqDiff, ifA, ifB, reduceIte]) | (refine awp_region tabOk rfl ?_; simp only [prep, pickO, lsA, lsB, lsC, lsD, lsE, lsF, lsG]) | ((with_reducible apply awp_cond); (focus (simp only [St.ev, St.set, upd, Nat.reduceEqDiff, reduceIte, ifA, ifB, hA, a1, a2, c1, c2, c3, c4, d1, d2, d3, d4, d5, d6, eb, ef, nmA, Nat.reduceAdd, ifA, ifB]; exact rfl)); all_goals (intro hb; first | (cases hb; done) | ((try rw [hb]); (try simp only [dcA, dcB, dcC, dcD, dcE, Bool.not_eq_true', Bool.not_eq_false'] at hb)))) | ((with_reducible refine And.intro (?_ : enters Try.prog 36) ?_); (focus exact Try.call36); (refine callX_satH toFactS_sat ?_); simp only [go_sem, and_assoc, List.nil_append, List.append_nil, List.cons_append, Nat.reduceEqDiff, reduceIte, reduceCtorEq, hA, a1, a2, c1, c2, c3, c4, d1, d2, d3, d4, d5, d6, eb, ef, nmA, Nat.reduceAdd, ifA, ifB, hA, eb, ef, mat.matL]) | fail)
    refine ⟨b, fs, rfl, rfl, rfl, hsm, ?_⟩
    repeat' (first | ((with_reducible refine hK _ ?_); clear hK K) | ((with_reducible refine aord_plain fun K hK => ?_); simp only [go_sem, Nat.reduceAdd, Nat.reduceMul, Nat.reduceEqDiff, Nat.reduceLT, reduceIte, reduceCtorEq, hA, a1, a2, c1, c2, c3, c4, d1, d2, d3, d4, d5, d6, eb, ef, nmA, Nat.reduceAdd, ifA, ifB, hA, eb, ef, mat.matL]) | ((with_reducible refine And.intro (?_ : enters Try.prog 37) ?_); (focus exact Try.call37); (refine callX_satH eqFactS_sat ?_); simp only [go_sem, and_assoc, List.nil_append, List.append_nil, List.cons_append, Nat.reduceEqDiff, reduceIte, reduceCtorEq, hA, a1, a2, c1, c2, c3, c4, d1, d2, d3, d4, d5, d6, eb, ef, nmA, Nat.reduceAdd, ifA, ifB, hA, eb, ef, mat.matL]) | fail)
    refine ⟨N2, fs, rfl, rfl, fs, rfl, rfl, true, if_pos rfl, by omega, by omega, ?_⟩
    repeat' (first | refine awp_seq_k fun K hK => ?_ | ((with_reducible refine hK _ ?_); clear hK K) | ((with_reducible refine aord_plain fun K hK => ?_); simp only [go_sem, Nat.reduceAdd, Nat.reduceMul, Nat.reduceEqDiff, Nat.reduceLT, reduceIte, reduceCtorEq, hA, a1, a2, c1, c2, c3, c4, d1, d2, d3, d4, d5, d6, eb, ef, nmA, Nat.reduceAdd, ifA, ifB, hA, eb, ef, mat.matL]) | ((first | with_reducible refine aord_nil ?_ | refine awp_skip ?_ | refine awp_exit ?_ | refine awp_ret ?_); try simp only [rdA, Nat.reduceEqDiff, ifA, ifB, reduceIte]) | (refine awp_region tabOk rfl ?_; simp only [prep, pickO, lsA, lsB, lsC, lsD, lsE, lsF, lsG]) | ((with_reducible apply awp_cond); (focus (simp only [St.ev, St.set, upd, Nat.reduceEqDiff, reduceIte, ifA, ifB, hA, a1, a2, c1, c2, c3, c4, d1, d2, d3, d4, d5, d6, eb, ef, nmA, Nat.reduceAdd, ifA, ifB]; exact rfl)); all_goals (intro hb; first | (cases hb; done) | ((try rw [hb]); (try simp only [dcA, dcB, dcC, dcD, dcE, Bool.not_eq_true', Bool.not_eq_false'] at hb)))) | (simp only [doneH]; simp only [ressK, resK, wrapR, go_sem, Nat.reduceAdd, Nat.reduceMul, Nat.reduceEqDiff, Nat.reduceLT, reduceIte, reduceCtorEq, hA, a1, a2, c1, c2, c3, c4, d1, d2, d3, d4, d5, d6, eb, ef, nmA, Nat.reduceAdd, ifA, ifB]) | fail)
    exact hQ _ _


theorem FnExactPickAsks_pre {z a : Int} {fs : List (Int × Int)} (hz : i64r z) (ha : i64r a) (hl : fs.length ≤ 9223372036854775807) {K : AV → Hp → Nat → Prop} (hK : ∀ H N, K (.val (.bool true)) H N) : ∃ (z2 : Int) (A : Nat) (b : Bool) (fs2 : List (Int × Int)) (a2 : Int), [AV.val (.int .i64 z), .sl 0 0 fs.length 2 none, .val (.int .i64 a)] = [.val (.int .i64 z2), .sl A 0 fs2.length 2 none, .val (.int .i64 a2)] ∧ (upd none' 0 (some ⟨false, .ints .i64 (flF fs)⟩)) A = some ⟨b, .ints .i64 (flF fs2)⟩ ∧ i64r z2 ∧ i64r a2 ∧ fs2.length ≤ 9223372036854775807 ∧ ∀ (H : Hp) (N : Nat), K (.val (.bool true)) H N :=
  ⟨z, 0, false, fs, a, rfl, upd_same _ _ _, hz, ha, hl, hK⟩

end Go.Proofs.Ytacmgdaonacmeaa
