/- Contracts of functions of the program. -/
import Derived.Test.YtfoamlnkjmadhaaPKOa
import Derived.ScopeJumps
namespace Go.Proofs.Ytfoamlnkjmadhaa
open Go Go.Ab
set_option linter.all false
set_option maxHeartbeats 4000000

theorem follow_sat : SatH Try.prog 22 (fun al h n K => ∃ (d A : Nat) (b : Bool) (fs : List (Int × Int)), al = [.sl A 0 fs.length 2 none] ∧ (h A = some ⟨b, .ints .i64 (flF fs)⟩) ∧ (d ≤ 5) ∧ (fs.length ≤ 1000) ∧ (itemsIn d fs) ∧ ∀ (H : Hp) (N O : Nat) (kn : List (Int × Int)), (∀ x y, (x, y) ∈ kn ↔ Tc fs x y) → kn.length ≤ 25 → H O = some ⟨true, .ints .i64 (flF kn)⟩ → (∀ u, u < n → H u = h u) → n ≤ N → n ≤ O ∧ O < N → K (.sl O 0 kn.length 2 none) (H) (N)) := by
  refine satH_intro tabOk Try.func22 rfl 66 rfl [.tmp 2] rfl ?_
  rintro F W h n al K0 ⟨d, A, b, fs, rfl, hA, hd, hl, hi, hQ⟩
  refine ⟨Nat.le_of_ble_eq_true rfl, fun m0 hm0 hcl hlt => ?_⟩
  simp only [initT]
  have hAn := (hcl A _ hA).1
  have hfl := flF_len fs
  have a1 : (A = n) = False := eq_false (by omega)
  have a2 : (n = A) = False := eq_false (by omega)


  repeat' (first | refine awp_seq_k fun K hK => ?_ | ((with_reducible refine hK _ ?_); clear hK K) | ((with_reducible refine aord_plain fun K hK => ?_); simp only [go_sem, Nat.reduceAdd, Nat.reduceMul, Nat.reduceEqDiff, Nat.reduceLT, reduceIte, reduceCtorEq, hA, a1, a2, Nat.add_eq_left, Nat.left_eq_add, Nat.add_assoc, Nat.reduceAdd, if_false, if_true, hA]) | refine awp_block ?_ | ((first | with_reducible refine aord_nil ?_ | refine awp_skip ?_ | refine awp_exit ?_ | refine awp_ret ?_); try simp only [thenA_normal, thenA_exit, thenA_goto, thenA_ret, blockA_normal, blockA_same, blockA_exit, blockA_goto, blockA_ret, Nat.reduceEqDiff, if_false, if_true, reduceIte]) | (refine awp_region tabOk rfl ?_; simp only [prep, pickO, List.map_cons, List.map_nil, List.getElem?_toArray, List.getElem?_cons_succ, List.getElem?_cons_zero, Option.bind_some, Option.map_some]) | ((with_reducible refine And.intro ?_ ?_); (focus (exact rfl))) | fail)
  refine awp_nilcellE 2 n 0 [.val (.slice none 0 0)] (.ints .i64 []) rfl rfl (by simp only [St.ev, St.set, upd, Nat.reduceEqDiff, reduceIte, if_false, if_true, hA, a1, a2, Nat.add_eq_left, Nat.left_eq_add, Nat.add_assoc, Nat.reduceAdd, if_false, if_true] <;> exact rfl) rfl ?_
  simp only [St.ev, St.set, upd, Nat.reduceEqDiff, reduceIte, if_false, if_true, hA, a1, a2, Nat.add_eq_left, Nat.left_eq_add, Nat.add_assoc, Nat.reduceAdd, if_false, if_true, List.set_cons_zero]
  refine awp_loop (fun p : Hp × Nat × Nat × List (Int × Int) × Nat => ⟨upd (upd (upd (upd (upd bot 14 (.val (.int .i64 p.2.2.2.2))) 13 (.val (.int .i64 fs.length))) 12 (.sl A 0 fs.length 2 none)) 4 (.clo (.func 37) [] [.ref n 0])) 3 (.ref n 0), p.1, p.2.1⟩) (fun p => p.2.2.2.2 ≤ fs.length ∧ (∀ u, u < n → p.1 u = h u) ∧ KnOf p.1 p.2.1 n p.2.2.1 p.2.2.2.1 ∧ n < p.2.2.1 ∧ KnI fs p.2.2.2.1 ∧ ∀ f, f ∈ fs.take p.2.2.2.2 → f ∈ p.2.2.2.1) (fun p => fs.length - p.2.2.2.2) (upd (upd (upd h n (some ⟨true, .cells [.val (.slice none 0 0)]⟩)) n (some ⟨true, .cells [.sl (n + 1) 0 0 2 none]⟩)) (n + 1) (some ⟨true, .ints .i64 []⟩), n + 2, n + 1, [], 0) ⟨Nat.zero_le _, fun u hu => (by (try dsimp only); (repeat (first | rw [upd_same] | rw [upd_ne _ _ (by omega)])); (try rfl)), ⟨(by (try dsimp only); (repeat (first | rw [upd_same] | rw [upd_ne _ _ (by omega)])); (try rfl)), (by (try dsimp only); (repeat (first | rw [upd_same] | rw [upd_ne _ _ (by omega)])); (try rfl)), by dsimp only; omega, by dsimp only; omega⟩, by dsimp only; omega, ⟨List.nodup_nil, fun f hf => by simp at hf⟩, fun f hf => by simp at hf⟩ ?_ ?_
  · exact Wk.sub (tsd (tsd (tsd (tsd (tsd tsd0 rfl) rfl) rfl) rfl) rfl) (fun _ _ h => h) rfl
  rintro ⟨H, N, O, kn, j⟩ ⟨hj, hfr, hkn, hnO, hki, hin⟩
  dsimp only at hj hfr hkn hnO hki hin ⊢
  have HA := (hfr A hAn).trans hA
  have hk25 := hki.len hd hi
  have hNn := hkn.lt
  rcases Nat.lt_or_ge j fs.length with hlt | hge
  · have hg := flF_take hlt
    have hmem := getD_memF hlt
    have m1 : (A = N) = False := eq_false (by omega)
    have m2 : (N = A) = False := eq_false (by omega)


    repeat' (first | refine awp_seq_k fun K hK => ?_ | ((with_reducible refine hK _ ?_); clear hK K) | (clear hK K; (with_reducible refine hK _ ?_); clear hK K) | ((with_reducible refine aord_plain fun K hK => ?_); simp only [go_sem, Nat.reduceAdd, Nat.reduceMul, Nat.reduceEqDiff, Nat.reduceLT, reduceIte, reduceCtorEq, HA, m1, m2, hg, Nat.add_eq_left, Nat.left_eq_add, Nat.add_assoc, Nat.reduceAdd, if_false, if_true, HA, m1, m2, hg]) | refine awp_block ?_ | ((first | with_reducible refine aord_nil ?_ | refine awp_skip ?_ | refine awp_exit ?_ | refine awp_ret ?_); try simp only [thenA_normal, thenA_exit, thenA_goto, thenA_ret, blockA_normal, blockA_same, blockA_exit, blockA_goto, blockA_ret, Nat.reduceEqDiff, if_false, if_true, reduceIte]) | (refine awp_region tabOk rfl ?_; simp only [prep, pickO, List.map_cons, List.map_nil, List.getElem?_toArray, List.getElem?_cons_succ, List.getElem?_cons_zero, Option.bind_some, Option.map_some]) | ((with_reducible apply awp_cond); (focus (simp only [St.ev, St.set, upd, Nat.reduceEqDiff, reduceIte, if_false, if_true, HA, m1, m2, hg, Nat.add_eq_left, Nat.left_eq_add, Nat.add_assoc, Nat.reduceAdd, if_false, if_true]; exact rfl)); all_goals (intro hb; first | (cases hb; done) | ((try rw [hb]); (try simp only [decide_eq_true_eq, decide_eq_false_iff_not, beq_iff_eq, bne_iff_ne, beq_eq_false_iff_ne, bne_eq_false_iff_eq, Int.not_lt, Int.not_le, Bool.not_eq_true', Bool.not_eq_false'] at hb)))) | ((with_reducible refine And.intro ?_ ?_); (focus omega)) | ((with_reducible refine And.intro ?_ ?_); (focus (exact rfl))) | ((with_reducible refine And.intro (?_ : enters Try.prog 37) ?_); (focus exact Try.call37); (refine callX_satH learn_sat ?_); simp only [go_sem, and_assoc, List.nil_append, List.append_nil, List.cons_append, Nat.reduceEqDiff, reduceIte, reduceCtorEq, HA, m1, m2, hg, Nat.add_eq_left, Nat.left_eq_add, Nat.add_assoc, Nat.reduceAdd, if_false, if_true, HA, m1, m2, hg]) | (refine aStoreAll_cells (by simp only [St.ev, St.set, upd, Nat.reduceEqDiff, reduceIte, if_false, if_true, HA, m1, m2, hg, Nat.add_eq_left, Nat.left_eq_add, Nat.add_assoc, Nat.reduceAdd, if_false, if_true]; exact rfl) ?_ ?_ ?_ ?_ ?_; (focus (first | rfl | omega | (simp; done) | (simp; omega) | (simp [szOf, tab]; done) | (simp [szOf, tab]; omega))); (focus (first | rfl | omega | (simp; done) | (simp; omega) | (simp [szOf, tab]; done) | (simp [szOf, tab]; omega))); (focus (first | rfl | omega | (simp; done) | (simp; omega) | (simp [szOf, tab]; done) | (simp [szOf, tab]; omega))); (focus (first | rfl | (simp [AV.cell, Value.oneCell']; done))); (try simp only [go_sem, Nat.reduceAdd, Nat.reduceMul, Nat.reduceEqDiff, Nat.reduceLT, reduceIte, reduceCtorEq, HA, m1, m2, hg, Nat.add_eq_left, Nat.left_eq_add, Nat.add_assoc, Nat.reduceAdd, if_false, if_true])) | (exfalso; omega) | fail)
    refine ⟨n, O, kn, _, _, rfl, rfl, hkn.up (Nat.le_succ N) (fun u hu => (by (try dsimp only); (repeat (first | rw [upd_same] | rw [upd_ne _ _ (by omega)])); (try rfl))), by omega, fun H' N' O' hk' hfr' hys ho' hN' => ?_⟩


    repeat' (first | ((with_reducible refine hK _ ?_); clear hK K) | ((with_reducible refine aord_plain fun K hK => ?_); simp only [go_sem, Nat.reduceAdd, Nat.reduceMul, Nat.reduceEqDiff, Nat.reduceLT, reduceIte, reduceCtorEq]) | ((first | with_reducible refine aord_nil ?_ | refine awp_skip ?_ | refine awp_exit ?_ | refine awp_ret ?_); try simp only [thenA_normal, thenA_exit, thenA_goto, thenA_ret, blockA_normal, blockA_same, blockA_exit, blockA_goto, blockA_ret, Nat.reduceEqDiff, if_false, if_true, reduceIte]) | (refine awp_region tabOk rfl ?_; simp only [prep, pickO, List.map_cons, List.map_nil, List.getElem?_toArray, List.getElem?_cons_succ, List.getElem?_cons_zero, Option.bind_some, Option.map_some]) | ((with_reducible refine And.intro ?_ ?_); (focus omega)) | fail)
    refine ⟨(H', N', O', learnK kn ((fs.getD j (0, 0)).1, (fs.getD j (0, 0)).2), j + 1), ⟨by dsimp only; omega, fun u hu => ?_, hk', by dsimp only; omega, hki.learn (.base hmem), fun f hf => ?_⟩, by dsimp only; omega, Wk.sub (tsd (tsd (tsd (tsd (tsd tsd0 rfl) rfl) rfl) rfl) rfl) (fun _ _ h => h) rfl⟩
    · dsimp only
      rw [hfr' u (by omega) (by omega) (by omega), if_neg (by omega), if_neg (by omega)]; exact hfr u hu
    · dsimp only at hf ⊢
      rw [tk_snoc hlt] at hf
      rcases List.mem_append.1 hf with h1 | h1
      · exact learnK_mem.2 (.inl (hin f h1))
      · exact learnK_mem.2 (.inr (List.mem_singleton.1 h1))
  · skip
    rw [List.take_of_length_le (by omega)] at hin


    repeat' (first | refine awp_seq_k fun K hK => ?_ | ((with_reducible refine hK _ ?_); clear hK K) | (clear hK K; (with_reducible refine hK _ ?_); clear hK K) | ((with_reducible refine aord_plain fun K hK => ?_); simp only [go_sem, Nat.reduceAdd, Nat.reduceMul, Nat.reduceEqDiff, Nat.reduceLT, reduceIte, reduceCtorEq]) | refine awp_block ?_ | ((first | with_reducible refine aord_nil ?_ | refine awp_skip ?_ | refine awp_exit ?_ | refine awp_ret ?_); try simp only [thenA_normal, thenA_exit, thenA_goto, thenA_ret, blockA_normal, blockA_same, blockA_exit, blockA_goto, blockA_ret, Nat.reduceEqDiff, if_false, if_true, reduceIte]) | (refine awp_region tabOk rfl ?_; simp only [prep, pickO, List.map_cons, List.map_nil, List.getElem?_toArray, List.getElem?_cons_succ, List.getElem?_cons_zero, Option.bind_some, Option.map_some]) | ((with_reducible apply awp_cond); (focus (simp only [St.ev, St.set, upd, Nat.reduceEqDiff, reduceIte, if_false, if_true]; exact rfl)); all_goals (intro hb; first | (cases hb; done) | ((try rw [hb]); (try simp only [decide_eq_true_eq, decide_eq_false_iff_not, beq_iff_eq, bne_iff_ne, beq_eq_false_iff_ne, bne_eq_false_iff_eq, Int.not_lt, Int.not_le, Bool.not_eq_true', Bool.not_eq_false'] at hb)))) | ((with_reducible refine And.intro ?_ ?_); (focus omega)) | (exfalso; omega) | fail)
    refine awp_loop (fun p : Hp × Nat × Nat × List (Int × Int) × Nat => ⟨upd (upd (upd bot 7 (.val (.int .i64 p.2.2.2.2))) 4 (.clo (.func 37) [] [.ref n 0])) 3 (.ref n 0), p.1, p.2.1⟩) (fun p => p.2.2.2.2 ≤ p.2.2.2.1.length ∧ (∀ u, u < n → p.1 u = h u) ∧ KnOf p.1 p.2.1 n p.2.2.1 p.2.2.2.1 ∧ n < p.2.2.1 ∧ KnI fs p.2.2.2.1 ∧ (∀ f, f ∈ fs → f ∈ p.2.2.2.1) ∧ ∀ f g, f ∈ p.2.2.2.1.take p.2.2.2.2 → g ∈ p.2.2.2.1.take p.2.2.2.2 → f.2 = g.1 → (f.1, g.2) ∈ p.2.2.2.1) (fun p => 26 - p.2.2.2.2) (H, N, O, kn, 0) ⟨Nat.zero_le _, hfr, hkn, hnO, hki, hin, fun f g hf => by simp at hf⟩ ?_ ?_
    · exact Wk.sub (tsd (tsd (tsd tsd0 rfl) rfl) rfl) (fun _ _ h => h) rfl
    clear hfr hkn hnO hki hin HA hk25 hNn
    rintro ⟨H, N, O, kn, i⟩ ⟨hil, hfr, hkn, hnO, hki, hin, hcl2⟩
    dsimp only at hil hfr hkn hnO hki hin hcl2 ⊢
    have hk25 := hki.len hd hi
    have hNn := hkn.lt
    have hKc := hkn.cell
    have hKr := hkn.row
    have hkfl := flF_len kn
    have m1 : (n = N) = False := eq_false (by omega)
    have m2 : (N = n) = False := eq_false (by omega)
    have m3 : (O = N) = False := eq_false (by omega)
    have m4 : (N = O) = False := eq_false (by omega)
    rcases Nat.lt_or_ge i kn.length with hlt | hge
    · have hg := flF_take hlt
      have hem := getD_memF hlt
      have hegd : kn.getD i (0, 0) = ((kn.getD i (0, 0)).1, (kn.getD i (0, 0)).2) := rfl


      repeat' (first | refine awp_seq_k fun K hK => ?_ | ((with_reducible refine hK _ ?_); clear hK K) | (clear hK K; (with_reducible refine hK _ ?_); clear hK K) | ((with_reducible refine aord_plain fun K hK => ?_); simp only [go_sem, Nat.reduceAdd, Nat.reduceMul, Nat.reduceEqDiff, Nat.reduceLT, reduceIte, reduceCtorEq, hKc, hKr, m1, m2, m3, m4, hg, Nat.add_eq_left, Nat.left_eq_add, Nat.add_assoc, Nat.reduceAdd, if_false, if_true, hKc, hKr, m1, m2, m3, m4, hg]) | refine awp_block ?_ | ((first | with_reducible refine aord_nil ?_ | refine awp_skip ?_ | refine awp_exit ?_ | refine awp_ret ?_); try simp only [thenA_normal, thenA_exit, thenA_goto, thenA_ret, blockA_normal, blockA_same, blockA_exit, blockA_goto, blockA_ret, Nat.reduceEqDiff, if_false, if_true, reduceIte]) | (refine awp_region tabOk rfl ?_; simp only [prep, pickO, List.map_cons, List.map_nil, List.getElem?_toArray, List.getElem?_cons_succ, List.getElem?_cons_zero, Option.bind_some, Option.map_some]) | ((with_reducible apply awp_cond); (focus (simp only [St.ev, St.set, upd, Nat.reduceEqDiff, reduceIte, if_false, if_true, hKc, hKr, m1, m2, m3, m4, hg, Nat.add_eq_left, Nat.left_eq_add, Nat.add_assoc, Nat.reduceAdd, if_false, if_true]; exact rfl)); all_goals (intro hb; first | (cases hb; done) | ((try rw [hb]); (try simp only [decide_eq_true_eq, decide_eq_false_iff_not, beq_iff_eq, bne_iff_ne, beq_eq_false_iff_ne, bne_eq_false_iff_eq, Int.not_lt, Int.not_le, Bool.not_eq_true', Bool.not_eq_false'] at hb)))) | ((with_reducible refine And.intro ?_ ?_); (focus omega)) | ((with_reducible refine And.intro ?_ ?_); (focus (exact rfl))) | (simp only [doneH]; simp only [ressK, resK, wrapR, go_sem, Nat.reduceAdd, Nat.reduceMul, Nat.reduceEqDiff, Nat.reduceLT, reduceIte, reduceCtorEq, hKc, hKr, m1, m2, m3, m4, hg, Nat.add_eq_left, Nat.left_eq_add, Nat.add_assoc, Nat.reduceAdd, if_false, if_true]) | (refine aStoreAll_cells (by simp only [St.ev, St.set, upd, Nat.reduceEqDiff, reduceIte, if_false, if_true, hKc, hKr, m1, m2, m3, m4, hg, Nat.add_eq_left, Nat.left_eq_add, Nat.add_assoc, Nat.reduceAdd, if_false, if_true]; exact rfl) ?_ ?_ ?_ ?_ ?_; (focus (first | rfl | omega | (simp; done) | (simp; omega) | (simp [szOf, tab]; done) | (simp [szOf, tab]; omega))); (focus (first | rfl | omega | (simp; done) | (simp; omega) | (simp [szOf, tab]; done) | (simp [szOf, tab]; omega))); (focus (first | rfl | omega | (simp; done) | (simp; omega) | (simp [szOf, tab]; done) | (simp [szOf, tab]; omega))); (focus (first | rfl | (simp [AV.cell, Value.oneCell']; done))); (try simp only [go_sem, Nat.reduceAdd, Nat.reduceMul, Nat.reduceEqDiff, Nat.reduceLT, reduceIte, reduceCtorEq, hKc, hKr, m1, m2, m3, m4, hg, Nat.add_eq_left, Nat.left_eq_add, Nat.add_assoc, Nat.reduceAdd, if_false, if_true])) | (exfalso; omega) | fail)
      refine awp_loop (fun p : Hp × Nat × Nat × List (Int × Int) × Nat => ⟨upd (upd (upd (upd (upd (upd (upd bot 36 (.val (.int .i64 p.2.2.2.2))) 35 (.val (.int .i64 i))) 34 (.sl O 0 i 2 none)) 8 (.ref N 0)) 7 (.val (.int .i64 i))) 4 (.clo (.func 37) [] [.ref n 0])) 3 (.ref n 0), p.1, p.2.1⟩) (fun p => p.2.2.2.2 ≤ i ∧ FB h n fs i (kn.take i) (kn.getD i (0, 0)) O N p.1 p.2.1 p.2.2.1 p.2.2.2.1 ∧ (∀ f, f ∈ fs → f ∈ p.2.2.2.1) ∧ ∀ g, g ∈ (kn.take i).take p.2.2.2.2 → Dn p.2.2.2.1 (kn.getD i (0, 0)) g) (fun p => i - p.2.2.2.2) (upd (upd H N (some ⟨true, .cells [.val (.int .i64 0), .val (.int .i64 0)]⟩)) N (some ⟨true, .cells [.val (.int .i64 (kn.getD i (0, 0)).1), .val (.int .i64 (kn.getD i (0, 0)).2)]⟩), N + 1, O, kn, 0) ⟨Nat.zero_le _, ⟨fun u hu => (by (try dsimp only); (repeat (first | rw [upd_same] | rw [upd_ne _ _ (by omega)])); (try rfl); exact hfr u hu), hkn.up (Nat.le_succ N) (fun u hu => (by (try dsimp only); (repeat (first | rw [upd_same] | rw [upd_ne _ _ (by omega)])); (try rfl))), hnO, by dsimp only; omega, by dsimp only; omega, ⟨kn, (by (try dsimp only); (repeat (first | rw [upd_same] | rw [upd_ne _ _ (by omega)])); (try rfl); exact hKr), rfl, by omega⟩, (by (try dsimp only); (repeat (first | rw [upd_same] | rw [upd_ne _ _ (by omega)])); (try rfl)), by dsimp only; omega, rfl, hlt, rfl, hki, hcl2⟩, hin, fun g hg => by simp at hg⟩ ?_ ?_
      · exact Wk.sub (tsd (tsd (tsd (tsd (tsd (tsd (tsd tsd0 (by first | rfl | (congr 1; omega))) (by first | rfl | exact av_int (by omega))) (by first | rfl | exact av_sl (by omega) (by omega))) rfl) rfl) rfl) rfl) (fun _ _ h => h) rfl
      have hPl : (kn.take i).length = i := by rw [List.length_take]; omega
      clear hfr hkn hnO hki hin hcl2 hKc hKr hkfl m1 m2 m3 m4 hg hegd hem hk25
      generalize kn.take i = P at *
      generalize kn.getD i (0, 0) = e at *
      obtain ⟨e1, e2⟩ := e
      rintro ⟨H2, N2, O2, kn2, k⟩ ⟨hki, hB, hin2, hdone⟩
      dsimp only at hki hB hin2 hdone ⊢
      have hk25 := hB.kni.len hd hi
      obtain ⟨ks, hRr, htk, hile⟩ := hB.rrow
      have hfo := hB.fo
      have hfon := hB.fon
      have hi25 := hB.il
      have hrr := hB.r
      have hno2 := hB.kno.lt
      have hon2 := hB.on
      have hofo := hB.ofo
      dsimp only at hfo
      rcases Nat.lt_or_ge k i with hki2 | hki2
      · have hgk := flF_take (show k < ks.length by omega)
        have hksl := flF_len ks
        have hgP : ks.getD k (0, 0) = P.getD k (0, 0) := by rw [← htk, tk_get hki2]
        have hgK : P.getD k (0, 0) = kn2.getD k (0, 0) := by rw [← hB.tk, tk_get hki2]
        have hgm := getD_memF (show k < kn2.length by have := hB.il; omega)
        have hem := getD_memF hB.il
        rw [hB.ge] at hem
        rw [← hgK] at hgm
        rw [hgP] at hgk
        have hte := hB.kni.tc _ hem
        have htg := hB.kni.tc _ hgm
        have hdn := fun kx hs hn => dn_up (kx := kx) (show k < P.length by omega) hs hdone hn
        generalize P.getD k (0, 0) = g at *
        obtain ⟨g1, g2⟩ := g
        dsimp only at hte htg hgk
        have m1 : (O = N2) = False := eq_false (by omega)
        have m2 : (N = N2) = False := eq_false (by omega)
        have m3 : (N2 = N) = False := eq_false (by omega)
        have m4 : (n = N2) = False := eq_false (by omega)
        obtain ⟨c1, q1⟩ : ∃ c, (e2 == g1) = c := ⟨_, rfl⟩
        obtain ⟨c2, q2⟩ : ∃ c, (g2 == e1) = c := ⟨_, rfl⟩
        have hB1 := hB.up (G := upd (upd H2 N2 (some ⟨true, .cells [.val (.int .i64 0), .val (.int .i64 0)]⟩)) N2 (some ⟨true, .cells [.val (.int .i64 g1), .val (.int .i64 g2)]⟩)) (Nat.le_succ N2) (fun u hu => (by (try dsimp only); (repeat (first | rw [upd_same] | rw [upd_ne _ _ (by omega)])); (try rfl)))
        cases c1 <;> cases c2
        all_goals (


          repeat' (first | refine awp_seq_k fun K hK => ?_ | ((with_reducible refine hK _ ?_); clear hK K) | (clear hK K; (with_reducible refine hK _ ?_); clear hK K) | ((with_reducible refine aord_plain fun K hK => ?_); simp only [go_sem, Nat.reduceAdd, Nat.reduceMul, Nat.reduceEqDiff, Nat.reduceLT, reduceIte, reduceCtorEq, hRr, hfo, m1, m2, m3, m4, hgk, q1, q2, Nat.add_eq_left, Nat.left_eq_add, Nat.add_assoc, Nat.reduceAdd, if_false, if_true, hRr, hfo, m1, m2, m3, m4, hgk, q1, q2]) | refine awp_block ?_ | ((first | with_reducible refine aord_nil ?_ | refine awp_skip ?_ | refine awp_exit ?_ | refine awp_ret ?_); try simp only [thenA_normal, thenA_exit, thenA_goto, thenA_ret, blockA_normal, blockA_same, blockA_exit, blockA_goto, blockA_ret, Nat.reduceEqDiff, if_false, if_true, reduceIte]) | (refine awp_region tabOk rfl ?_; simp only [prep, pickO, List.map_cons, List.map_nil, List.getElem?_toArray, List.getElem?_cons_succ, List.getElem?_cons_zero, Option.bind_some, Option.map_some]) | ((with_reducible apply awp_cond); (focus (simp only [St.ev, St.set, upd, Nat.reduceEqDiff, reduceIte, if_false, if_true, hRr, hfo, m1, m2, m3, m4, hgk, q1, q2, Nat.add_eq_left, Nat.left_eq_add, Nat.add_assoc, Nat.reduceAdd, if_false, if_true]; exact rfl)); all_goals (intro hb; first | (cases hb; done) | ((try rw [hb]); (try simp only [decide_eq_true_eq, decide_eq_false_iff_not, beq_iff_eq, bne_iff_ne, beq_eq_false_iff_ne, bne_eq_false_iff_eq, Int.not_lt, Int.not_le, Bool.not_eq_true', Bool.not_eq_false'] at hb)))) | ((with_reducible refine And.intro ?_ ?_); (focus omega)) | ((with_reducible refine And.intro ?_ ?_); (focus (exact rfl))) | ((with_reducible refine And.intro (?_ : enters Try.prog 37) ?_); (focus exact Try.call37); (refine callX_satH learn_sat ?_); simp only [go_sem, and_assoc, List.nil_append, List.append_nil, List.cons_append, Nat.reduceEqDiff, reduceIte, reduceCtorEq, hRr, hfo, m1, m2, m3, m4, hgk, q1, q2, Nat.add_eq_left, Nat.left_eq_add, Nat.add_assoc, Nat.reduceAdd, if_false, if_true, hRr, hfo, m1, m2, m3, m4, hgk, q1, q2]) | (simp only [rBuild]; simp only [fillA, Nat.reduceLeDiff, List.getElem?_cons_zero, List.getElem?_cons_succ, List.drop_succ_cons, List.drop_nil, List.take_nil, List.cons_append, Option.isSome_some, go_sem, Nat.reduceAdd, Nat.reduceMul, Nat.reduceEqDiff, Nat.reduceLT, reduceIte, reduceCtorEq, hRr, hfo, m1, m2, m3, m4, hgk, q1, q2, Nat.add_eq_left, Nat.left_eq_add, Nat.add_assoc, Nat.reduceAdd, if_false, if_true]) | (refine aStoreAll_cells (by simp only [St.ev, St.set, upd, Nat.reduceEqDiff, reduceIte, if_false, if_true, hRr, hfo, m1, m2, m3, m4, hgk, q1, q2, Nat.add_eq_left, Nat.left_eq_add, Nat.add_assoc, Nat.reduceAdd, if_false, if_true]; exact rfl) ?_ ?_ ?_ ?_ ?_; (focus (first | rfl | omega | (simp; done) | (simp; omega) | (simp [szOf, tab]; done) | (simp [szOf, tab]; omega))); (focus (first | rfl | omega | (simp; done) | (simp; omega) | (simp [szOf, tab]; done) | (simp [szOf, tab]; omega))); (focus (first | rfl | omega | (simp; done) | (simp; omega) | (simp [szOf, tab]; done) | (simp [szOf, tab]; omega))); (focus (first | rfl | (simp [AV.cell, Value.oneCell']; done))); (try simp only [go_sem, Nat.reduceAdd, Nat.reduceMul, Nat.reduceEqDiff, Nat.reduceLT, reduceIte, reduceCtorEq, hRr, hfo, m1, m2, m3, m4, hgk, q1, q2, Nat.add_eq_left, Nat.left_eq_add, Nat.add_assoc, Nat.reduceAdd, if_false, if_true])) | (exfalso; omega) | fail))
        · have n1 := beq_eq_false_iff_ne.1 q1
          have n2 := beq_eq_false_iff_ne.1 q2
          exact ⟨((upd (upd H2 N2 (some ⟨true, .cells [.val (.int .i64 0), .val (.int .i64 0)]⟩)) N2 (some ⟨true, .cells [.val (.int .i64 g1), .val (.int .i64 g2)]⟩)), N2 + 1, O2, kn2, k + 1), ⟨by dsimp only; omega, hB1, hin2, hdn kn2 (fun f h => h) ⟨fun q => absurd q n1, fun q => absurd q n2⟩⟩, by dsimp only; omega, Wk.sub (tsd (tsd (tsd (tsd (tsd (tsd (tsd tsd0 rfl) rfl) rfl) rfl) rfl) rfl) rfl) (fun _ _ h => h) rfl⟩
        · refine ⟨n, O2, kn2, g1, e2, rfl, rfl, hB1.kno, by omega, fun H3 N3 O3 hk3 hf3 hy3 ho3 hn3 => ?_⟩
          have n1 := beq_eq_false_iff_ne.1 q1
          have n2 := eq_of_beq q2
          have hB2 := hB1.learn (f := (g1, e2)) (.step htg (by rw [n2]; exact hte)) hk3 (fun u h1 h2 h3 => hf3 u h1 h2 h3) hy3 ho3 hn3


          repeat' (first | ((with_reducible refine hK _ ?_); clear hK K) | ((with_reducible refine aord_plain fun K hK => ?_); simp only [go_sem, Nat.reduceAdd, Nat.reduceMul, Nat.reduceEqDiff, Nat.reduceLT, reduceIte, reduceCtorEq]) | ((first | with_reducible refine aord_nil ?_ | refine awp_skip ?_ | refine awp_exit ?_ | refine awp_ret ?_); try simp only [thenA_normal, thenA_exit, thenA_goto, thenA_ret, blockA_normal, blockA_same, blockA_exit, blockA_goto, blockA_ret, Nat.reduceEqDiff, if_false, if_true, reduceIte]) | (refine awp_region tabOk rfl ?_; simp only [prep, pickO, List.map_cons, List.map_nil, List.getElem?_toArray, List.getElem?_cons_succ, List.getElem?_cons_zero, Option.bind_some, Option.map_some]) | ((with_reducible refine And.intro ?_ ?_); (focus omega)) | fail)
          exact ⟨(H3, N3, O3, learnK kn2 (g1, e2), k + 1), ⟨by dsimp only; omega, hB2, fun f hf => learnK_mem.2 (.inl (hin2 f hf)), hdn _ (fun f hf => learnK_mem.2 (.inl hf)) ⟨fun q => absurd q n1, fun _ => learnK_mem.2 (.inr rfl)⟩⟩, by dsimp only; omega, Wk.sub (tsd (tsd (tsd (tsd (tsd (tsd (tsd tsd0 rfl) rfl) rfl) rfl) rfl) rfl) rfl) (fun _ _ h => h) rfl⟩
        · refine ⟨n, O2, kn2, e1, g2, rfl, rfl, hB1.kno, by omega, fun H3 N3 O3 hk3 hf3 hy3 ho3 hn3 => ?_⟩
          have n1 := eq_of_beq q1
          have n2 := beq_eq_false_iff_ne.1 q2
          have hB2 := hB1.learn (f := (e1, g2)) (.step hte (by rw [n1]; exact htg)) hk3 (fun u h1 h2 h3 => hf3 u h1 h2 h3) hy3 ho3 hn3
          have h3a := (hf3 N2 (by omega) (by omega) (by omega)).trans (if_pos rfl)
          have h3b := hB2.fo
          dsimp only at h3b


          repeat' (first | refine awp_seq_k fun K hK => ?_ | ((with_reducible refine hK _ ?_); clear hK K) | ((with_reducible refine aord_plain fun K hK => ?_); simp only [go_sem, Nat.reduceAdd, Nat.reduceMul, Nat.reduceEqDiff, Nat.reduceLT, reduceIte, reduceCtorEq, h3a, h3b, q1, q2, Nat.add_eq_left, Nat.left_eq_add, Nat.add_assoc, Nat.reduceAdd, if_false, if_true, h3a, h3b, q1, q2]) | ((first | with_reducible refine aord_nil ?_ | refine awp_skip ?_ | refine awp_exit ?_ | refine awp_ret ?_); try simp only [thenA_normal, thenA_exit, thenA_goto, thenA_ret, blockA_normal, blockA_same, blockA_exit, blockA_goto, blockA_ret, Nat.reduceEqDiff, if_false, if_true, reduceIte]) | (refine awp_region tabOk rfl ?_; simp only [prep, pickO, List.map_cons, List.map_nil, List.getElem?_toArray, List.getElem?_cons_succ, List.getElem?_cons_zero, Option.bind_some, Option.map_some]) | ((with_reducible apply awp_cond); (focus (simp only [St.ev, St.set, upd, Nat.reduceEqDiff, reduceIte, if_false, if_true, h3a, h3b, q1, q2, Nat.add_eq_left, Nat.left_eq_add, Nat.add_assoc, Nat.reduceAdd, if_false, if_true]; exact rfl)); all_goals (intro hb; first | (cases hb; done) | ((try rw [hb]); (try simp only [decide_eq_true_eq, decide_eq_false_iff_not, beq_iff_eq, bne_iff_ne, beq_eq_false_iff_ne, bne_eq_false_iff_eq, Int.not_lt, Int.not_le, Bool.not_eq_true', Bool.not_eq_false'] at hb)))) | ((with_reducible refine And.intro ?_ ?_); (focus omega)) | fail)
          exact ⟨(H3, N3, O3, learnK kn2 (e1, g2), k + 1), ⟨by dsimp only; omega, hB2, fun f hf => learnK_mem.2 (.inl (hin2 f hf)), hdn _ (fun f hf => learnK_mem.2 (.inl hf)) ⟨fun _ => learnK_mem.2 (.inr rfl), fun q => absurd q n2⟩⟩, by dsimp only; omega, Wk.sub (tsd (tsd (tsd (tsd (tsd (tsd (tsd tsd0 rfl) rfl) rfl) rfl) rfl) rfl) rfl) (fun _ _ h => h) rfl⟩
        · refine ⟨n, O2, kn2, e1, g2, rfl, rfl, hB1.kno, by omega, fun H3 N3 O3 hk3 hf3 hy3 ho3 hn3 => ?_⟩
          have n1 := eq_of_beq q1
          have n2 := eq_of_beq q2
          have hB2 := hB1.learn (f := (e1, g2)) (.step hte (by rw [n1]; exact htg)) hk3 (fun u h1 h2 h3 => hf3 u h1 h2 h3) hy3 ho3 hn3
          have h3a := (hf3 N2 (by omega) (by omega) (by omega)).trans (if_pos rfl)
          have h3b := hB2.fo
          have hl3 := hB2.kni.len hd hi
          dsimp only at h3b


          repeat' (first | refine awp_seq_k fun K hK => ?_ | ((with_reducible refine hK _ ?_); clear hK K) | ((with_reducible refine aord_plain fun K hK => ?_); simp only [go_sem, Nat.reduceAdd, Nat.reduceMul, Nat.reduceEqDiff, Nat.reduceLT, reduceIte, reduceCtorEq, h3a, h3b, q1, q2, Nat.add_eq_left, Nat.left_eq_add, Nat.add_assoc, Nat.reduceAdd, if_false, if_true, h3a, h3b, q1, q2]) | ((first | with_reducible refine aord_nil ?_ | refine awp_skip ?_ | refine awp_exit ?_ | refine awp_ret ?_); try simp only [thenA_normal, thenA_exit, thenA_goto, thenA_ret, blockA_normal, blockA_same, blockA_exit, blockA_goto, blockA_ret, Nat.reduceEqDiff, if_false, if_true, reduceIte]) | (refine awp_region tabOk rfl ?_; simp only [prep, pickO, List.map_cons, List.map_nil, List.getElem?_toArray, List.getElem?_cons_succ, List.getElem?_cons_zero, Option.bind_some, Option.map_some]) | ((with_reducible apply awp_cond); (focus (simp only [St.ev, St.set, upd, Nat.reduceEqDiff, reduceIte, if_false, if_true, h3a, h3b, q1, q2, Nat.add_eq_left, Nat.left_eq_add, Nat.add_assoc, Nat.reduceAdd, if_false, if_true]; exact rfl)); all_goals (intro hb; first | (cases hb; done) | ((try rw [hb]); (try simp only [decide_eq_true_eq, decide_eq_false_iff_not, beq_iff_eq, bne_iff_ne, beq_eq_false_iff_ne, bne_eq_false_iff_eq, Int.not_lt, Int.not_le, Bool.not_eq_true', Bool.not_eq_false'] at hb)))) | ((with_reducible refine And.intro (?_ : enters Try.prog 37) ?_); (focus exact Try.call37); (refine callX_satH learn_sat ?_); simp only [go_sem, and_assoc, List.nil_append, List.append_nil, List.cons_append, Nat.reduceEqDiff, reduceIte, reduceCtorEq, h3a, h3b, q1, q2, Nat.add_eq_left, Nat.left_eq_add, Nat.add_assoc, Nat.reduceAdd, if_false, if_true, h3a, h3b, q1, q2]) | (simp only [rBuild]; simp only [fillA, Nat.reduceLeDiff, List.getElem?_cons_zero, List.getElem?_cons_succ, List.drop_succ_cons, List.drop_nil, List.take_nil, List.cons_append, Option.isSome_some, go_sem, Nat.reduceAdd, Nat.reduceMul, Nat.reduceEqDiff, Nat.reduceLT, reduceIte, reduceCtorEq, h3a, h3b, q1, q2, Nat.add_eq_left, Nat.left_eq_add, Nat.add_assoc, Nat.reduceAdd, if_false, if_true]) | fail)
          refine ⟨n, O3, learnK kn2 (e1, g2), g1, e2, rfl, rfl, hB2.kno, by omega, fun H4 N4 O4 hk4 hf4 hy4 ho4 hn4 => ?_⟩
          have hB3 := hB2.learn (f := (g1, e2)) (.step htg (by rw [n2]; exact hte)) hk4 (fun u h1 h2 h3 => hf4 u h1 h2 h3) hy4 ho4 hn4


          repeat' (first | ((with_reducible refine hK _ ?_); clear hK K) | ((with_reducible refine aord_plain fun K hK => ?_); simp only [go_sem, Nat.reduceAdd, Nat.reduceMul, Nat.reduceEqDiff, Nat.reduceLT, reduceIte, reduceCtorEq]) | ((first | with_reducible refine aord_nil ?_ | refine awp_skip ?_ | refine awp_exit ?_ | refine awp_ret ?_); try simp only [thenA_normal, thenA_exit, thenA_goto, thenA_ret, blockA_normal, blockA_same, blockA_exit, blockA_goto, blockA_ret, Nat.reduceEqDiff, if_false, if_true, reduceIte]) | (refine awp_region tabOk rfl ?_; simp only [prep, pickO, List.map_cons, List.map_nil, List.getElem?_toArray, List.getElem?_cons_succ, List.getElem?_cons_zero, Option.bind_some, Option.map_some]) | ((with_reducible refine And.intro ?_ ?_); (focus omega)) | fail)
          exact ⟨(H4, N4, O4, learnK (learnK kn2 (e1, g2)) (g1, e2), k + 1), ⟨by dsimp only; omega, hB3, fun f hf => learnK_mem.2 (.inl (learnK_mem.2 (.inl (hin2 f hf)))), hdn _ (fun f hf => learnK_mem.2 (.inl (learnK_mem.2 (.inl hf)))) ⟨fun _ => learnK_mem.2 (.inl (learnK_mem.2 (.inr rfl))), fun _ => learnK_mem.2 (.inr rfl)⟩⟩, by dsimp only; omega, Wk.sub (tsd (tsd (tsd (tsd (tsd (tsd (tsd tsd0 rfl) rfl) rfl) rfl) rfl) rfl) rfl) (fun _ _ h => h) rfl⟩
      · skip
        have hPk : P.take k = P := List.take_of_length_le (by omega)
        rw [hPk] at hdone
        have hi2 := hB.il
        have hem := getD_memF hB.il
        rw [hB.ge] at hem


        repeat' (first | refine awp_seq_k fun K hK => ?_ | ((with_reducible refine hK _ ?_); clear hK K) | (clear hK K; (with_reducible refine hK _ ?_); clear hK K) | ((with_reducible refine aord_plain fun K hK => ?_); simp only [go_sem, Nat.reduceAdd, Nat.reduceMul, Nat.reduceEqDiff, Nat.reduceLT, reduceIte, reduceCtorEq]) | refine awp_block ?_ | ((first | with_reducible refine aord_nil ?_ | refine awp_skip ?_ | refine awp_exit ?_ | refine awp_ret ?_); try simp only [thenA_normal, thenA_exit, thenA_goto, thenA_ret, blockA_normal, blockA_same, blockA_exit, blockA_goto, blockA_ret, Nat.reduceEqDiff, if_false, if_true, reduceIte]) | (refine awp_region tabOk rfl ?_; simp only [prep, pickO, List.map_cons, List.map_nil, List.getElem?_toArray, List.getElem?_cons_succ, List.getElem?_cons_zero, Option.bind_some, Option.map_some]) | ((with_reducible apply awp_cond); (focus (simp only [St.ev, St.set, upd, Nat.reduceEqDiff, reduceIte, if_false, if_true]; exact rfl)); all_goals (intro hb; first | (cases hb; done) | ((try rw [hb]); (try simp only [decide_eq_true_eq, decide_eq_false_iff_not, beq_iff_eq, bne_iff_ne, beq_eq_false_iff_ne, bne_eq_false_iff_eq, Int.not_lt, Int.not_le, Bool.not_eq_true', Bool.not_eq_false'] at hb)))) | ((with_reducible refine And.intro ?_ ?_); (focus omega)) | (exfalso; omega) | fail)
        refine ⟨(H2, N2, O2, kn2, i + 1), ⟨by dsimp only; omega, hB.fr, hB.kno, hB.on, hB.kni, hin2, fun f g hf hg he => ?_⟩, by dsimp only; omega, Wk.sub (tsd (tsd (tsd tsd0 rfl) rfl) rfl) (fun _ _ h => h) rfl⟩
        dsimp only at hf hg ⊢
        rw [tk_snoc hB.il, hB.tk, hB.ge] at hf hg
        rcases List.mem_append.1 hf with f1 | f1 <;> rcases List.mem_append.1 hg with g1 | g1
        · exact hB.cl f g f1 g1 he
        · rw [List.mem_singleton.1 g1] at he ⊢
          exact (hdone f f1).2 he
        · rw [List.mem_singleton.1 f1] at he ⊢
          exact (hdone g g1).1 he
        · rw [List.mem_singleton.1 g1, List.mem_singleton.1 f1]
          exact hem
    · skip


      repeat' (first | refine awp_seq_k fun K hK => ?_ | ((with_reducible refine hK _ ?_); clear hK K) | (clear hK K; (with_reducible refine hK _ ?_); clear hK K) | ((with_reducible refine aord_plain fun K hK => ?_); simp only [go_sem, Nat.reduceAdd, Nat.reduceMul, Nat.reduceEqDiff, Nat.reduceLT, reduceIte, reduceCtorEq, hKc, hKr, Nat.add_eq_left, Nat.left_eq_add, Nat.add_assoc, Nat.reduceAdd, if_false, if_true, hKc, hKr]) | refine awp_block ?_ | ((first | with_reducible refine aord_nil ?_ | refine awp_skip ?_ | refine awp_exit ?_ | refine awp_ret ?_); try simp only [thenA_normal, thenA_exit, thenA_goto, thenA_ret, blockA_normal, blockA_same, blockA_exit, blockA_goto, blockA_ret, Nat.reduceEqDiff, if_false, if_true, reduceIte]) | (refine awp_region tabOk rfl ?_; simp only [prep, pickO, List.map_cons, List.map_nil, List.getElem?_toArray, List.getElem?_cons_succ, List.getElem?_cons_zero, Option.bind_some, Option.map_some]) | ((with_reducible apply awp_cond); (focus (simp only [St.ev, St.set, upd, Nat.reduceEqDiff, reduceIte, if_false, if_true, hKc, hKr, Nat.add_eq_left, Nat.left_eq_add, Nat.add_assoc, Nat.reduceAdd, if_false, if_true]; exact rfl)); all_goals (intro hb; first | (cases hb; done) | ((try rw [hb]); (try simp only [decide_eq_true_eq, decide_eq_false_iff_not, beq_iff_eq, bne_iff_ne, beq_eq_false_iff_ne, bne_eq_false_iff_eq, Int.not_lt, Int.not_le, Bool.not_eq_true', Bool.not_eq_false'] at hb)))) | ((with_reducible refine And.intro ?_ ?_); (focus omega)) | (simp only [doneH]; simp only [ressK, resK, wrapR, go_sem, Nat.reduceAdd, Nat.reduceMul, Nat.reduceEqDiff, Nat.reduceLT, reduceIte, reduceCtorEq, hKc, hKr, Nat.add_eq_left, Nat.left_eq_add, Nat.add_assoc, Nat.reduceAdd, if_false, if_true]) | (exfalso; omega) | fail)
      rw [List.take_of_length_le (by omega)] at hcl2
      exact hQ H N O kn (fun x y => Tc_mem hin hki.tc hcl2) hk25 hKr hfr (by omega) (by omega)

/-- A slice of facts that came in. -/
def FactsIn (w : World) (fs : List (Int × Int)) (x : Value) : Prop := ∃ l : Ab.Loc, SlRep l.blk l.base l.capc 2 0 fs.length none x ∧ CellsAt w (lone1 l) 0 l (.ints .i64 (flF fs)) ∧ (flF fs).length ≤ l.capc ∧ ∀ k ∈ blks l (.ints .i64 (flF fs)), k < w.heap.size
theorem factsIn_nil {w : World} : FactsIn w [] (.slice none 0 0) :=
  ⟨⟨0, 0, 0, []⟩, ⟨none, 0, rfl, Nat.le_refl _, fun h => absurd rfl h, rfl⟩, ⟨fun i b hb => by simp [Cont.flat, flF] at hb, trivial⟩, by simp [flF], fun b hb => by simp [blks] at hb⟩
theorem factsIn_row {w : World} {a : Addr} {len cap : Nat} {N0 N1 : Nat → Int} (hl : len ≤ cap) (h : ∀ i, i < cap → w.cell? (a.add (i * 2)) = some (.int .i64 (N0 i)) ∧ w.cell? (a.add (i * 2 + 1)) = some (.int .i64 (N1 i))) : FactsIn w ((List.range len).map fun i => (N0 i, N1 i)) (.slice (some a) len cap) := by
  have hll : ((List.range len).map fun i => (N0 i, N1 i)).length = len := by simp
  have hfl := flF_len ((List.range len).map fun i => (N0 i, N1 i))
  rw [hll] at hfl
  by_cases h0 : cap = 0
  · subst h0
    obtain rfl : len = 0 := by omega
    exact ⟨⟨0, 0, 0, []⟩, ⟨_, _, by rw [hll], by rw [hll]; exact Nat.le_refl _, fun h => absurd rfl h, by simp⟩, ⟨fun i b hb => by simp [Cont.flat, flF] at hb, trivial⟩, by rw [hfl]; simp, fun b hb => by simp [blks] at hb⟩
  · have hc0 := (h 0 (by omega)).1
    have hsp : a.spot = none := by
      cases hs : a.spot with
      | none => rfl
      | some q =>
        have e : a.add (0 * 2) = a := by simp [Addr.add]
        rw [e] at hc0
        unfold World.cell? at hc0
        rw [hs] at hc0
        simp at hc0
        split at hc0 <;> simp at hc0
    have hx : a = ⟨a.block, a.off, none⟩ := by cases a; simp only at hsp; subst hsp; rfl
    have hadd : ∀ i, a.add i = ⟨a.block, a.off + i, none⟩ := fun i => by rw [hx]; exact addr_add _ _ _
    refine ⟨⟨a.block, a.off, cap * 2, []⟩, ⟨_, _, by rw [hll], by rw [hll]; exact hl, fun _ => by rw [hx]; simp, by simp⟩, ⟨fun i b hb => ?_, trivial⟩, (show (flF ((List.range len).map fun i => (N0 i, N1 i))).length ≤ cap * 2 by omega), fun b hb => ?_⟩
    · simp only [Cont.flat, List.getElem?_map, Option.map_eq_some_iff] at hb
      obtain ⟨n, hn, rfl⟩ := hb
      have hlt := (List.getElem?_eq_some_iff.1 hn).1
      rw [hfl] at hlt
      have hq : i / 2 < ((List.range len).map fun i => (N0 i, N1 i)).length := by rw [hll]; omega
      have hg := flF_get hq
      have hgd : ((List.range len).map fun i => (N0 i, N1 i)).getD (i / 2) (0, 0) = (N0 (i / 2), N1 (i / 2)) := by
        rw [List.getD_eq_getElem?_getD, List.getElem?_eq_getElem hq]; simp
      rw [hgd] at hg
      obtain ⟨c1, c2⟩ := h (i / 2) (by omega)
      rw [hadd] at c1 c2
      have hn2 : (flF ((List.range len).map fun i => (N0 i, N1 i))).getD i 0 = n := by rw [List.getD_eq_getElem?_getD, hn]; rfl
      rcases Nat.mod_two_eq_zero_or_one i with hm | hm
      · have e : i / 2 * 2 = i := by omega
        rw [e] at hg c1
        rw [hn2] at hg
        exact ⟨_, c1, rfl, by simp only [Rep]; rw [hg.1]⟩
      · have e : i / 2 * 2 + 1 = i := by omega
        rw [e] at hg c2
        rw [hn2] at hg
        exact ⟨_, c2, rfl, by simp only [Rep]; rw [hg.2]⟩
    · rw [blks_simple rfl] at hb
      have hc2 : cap * 2 ≠ 0 := by omega
      simp only [hc2, if_false, List.mem_singleton] at hb
      subst hb
      have := World.block_lt_of_cell? w _ hc0
      rw [hadd] at this
      exact this
/-- A law about a number and facts, from its contract of states. -/
theorem walk_lawF {P : Program} {f : FuncId} {S : CtrH} (hS : SatH P f S) {z : Int} {fs : List (Int × Int)} {x : Value} {w : World} (hx : FactsIn w fs x)
    (hs : ∀ K : AV → Hp → Nat → Prop, (∀ H N, K (.val (.bool true)) H N) → S [.val (.int .i64 z), .sl 0 0 fs.length 2 none] (upd none' 0 (some ⟨false, .ints .i64 (flF fs)⟩)) 1 K) :
    Calls P f #[.int .i64 z, x] w fun e w' => e = .returned (.bool true) ∧ RowKit.Below w.heap.size w w' := by
  obtain ⟨l, hsl, hcells, hlen, hlt⟩ := hx
  have hsim : Sim noF w (upd (fun _ => none) 0 (some l)) (upd none' 0 (some ⟨false, .ints .i64 (flF fs)⟩)) 1 w := (sim_none w).addRo (by simpa [Cont.len] using hlen) rfl hcells hlt
  have hc := hS false [] _ _ _ _ (hs (fun a _ _ => a = .val (.bool true)) fun _ _ => rfl)
  refine (hc noF w _ [.int .i64 z, x] w (by simp) hsim ⟨rfl, ⟨l, upd_same _ _ _, hsl⟩, trivial⟩).mono ?_
  rintro e w' ⟨v, rfl, m', a, h', n', rfl, hr, hs', _, _⟩
  simp only [Rep] at hr
  have hk := hs'.kept
  exact ⟨by rw [hr], hk.os, hk.tape, hk.output, hk.size, fun k hlt => hk.block k hlt (fun h => h)⟩

theorem isItem_sat : Sat Try.prog 21 (fun ds Q => ∃ (z x : Int), ds = [.val (.int .i64 (z)), .val (.int .i64 (x))] ∧ Q (.val (.bool ((decide (0 ≤ x) && decide (x < z)))))) := by
  refine sat_intro tabOk Try.func21 rfl 12 rfl [.tmp 4] rfl ?_
  rintro ds Q W ⟨z, x, rfl, hQ⟩
  refine ⟨Nat.le_of_ble_eq_true rfl, ?_⟩
  simp only [initS, initT, mat.matL, mat, Cont.len]
  by_cases h1 : 0 ≤ x
  · have e1 : decide (x ≥ 0) = true := decide_eq_true h1
    rw [decide_eq_true h1, Bool.true_and] at hQ

    repeat' (first | refine awp_seq_k fun K hK => ?_ | ((with_reducible refine hK _ ?_); clear hK K) | ((with_reducible refine aord_plain fun K hK => ?_); simp only [go_sem, Nat.reduceAdd, Nat.reduceMul, Nat.reduceEqDiff, Nat.reduceLT, reduceIte, reduceCtorEq, e1]) | ((with_reducible apply aord_guard); (focus (simp only [St.ev, St.set, upd, Nat.reduceEqDiff, reduceIte, if_false, if_true]; exact rfl)); all_goals (intro hb; (try simp only [Bool.not_true, Bool.not_false] at hb); first | (cases hb; done) | ((try rw [hb]); (try simp only [Bool.not_eq_true', Bool.not_eq_false', Bool.and_eq_true, decide_eq_true_eq, decide_eq_false_iff_not, beq_iff_eq, bne_iff_ne, beq_eq_false_iff_ne, bne_eq_false_iff_eq, Int.not_lt, Int.not_le] at hb); (try (revert hb; with_reducible refine true_imp_iff.2 ?_)); first | (intro K hK; simp only [go_sem, Nat.reduceAdd, Nat.reduceMul, Nat.reduceEqDiff, Nat.reduceLT, reduceIte, reduceCtorEq]) | (simp only [St.ev, St.set, upd, Nat.reduceEqDiff, reduceIte, if_false, if_true]) | skip))) | ((first | with_reducible refine aord_nil ?_ | refine awp_skip ?_ | refine awp_exit ?_ | refine awp_ret ?_); try simp only [thenA_normal, thenA_exit, thenA_goto, thenA_ret, blockA_normal, blockA_same, blockA_exit, blockA_goto, blockA_ret, Nat.reduceEqDiff, if_false, if_true, reduceIte]) | (refine awp_region tabOk rfl ?_; simp only [prep, pickO, List.map_cons, List.map_nil, List.getElem?_toArray, List.getElem?_cons_succ, List.getElem?_cons_zero, Option.bind_some, Option.map_some]) | fail)
    simp only [St.set, St.ev, doneQ, doneH, ressK, resK, wrapR, AV.ids, AV.idsL, retK, retsK, upd, Nat.reduceEqDiff, reduceIte, if_false, if_true, List.nodup_nil, List.nodup_cons, List.not_mem_nil, not_false_eq_true, true_and, and_true, exists_eq_left', Option.some.injEq, rLoad, cellOf, tab, Ty.isAgg, Ty.one, Bool.false_eq_true]
    exact hQ
  · have e1 : decide (x ≥ 0) = false := decide_eq_false h1
    rw [decide_eq_false h1, Bool.false_and] at hQ

    repeat' (first | refine awp_seq_k fun K hK => ?_ | ((with_reducible refine hK _ ?_); clear hK K) | ((with_reducible refine aord_plain fun K hK => ?_); simp only [go_sem, Nat.reduceAdd, Nat.reduceMul, Nat.reduceEqDiff, Nat.reduceLT, reduceIte, reduceCtorEq, e1]) | ((with_reducible apply aord_guard); (focus (simp only [St.ev, St.set, upd, Nat.reduceEqDiff, reduceIte, if_false, if_true]; exact rfl)); all_goals (intro hb; (try simp only [Bool.not_true, Bool.not_false] at hb); first | (cases hb; done) | ((try rw [hb]); (try simp only [Bool.not_eq_true', Bool.not_eq_false', Bool.and_eq_true, decide_eq_true_eq, decide_eq_false_iff_not, beq_iff_eq, bne_iff_ne, beq_eq_false_iff_ne, bne_eq_false_iff_eq, Int.not_lt, Int.not_le] at hb); (try (revert hb; with_reducible refine true_imp_iff.2 ?_)); first | (intro K hK; simp only [go_sem, Nat.reduceAdd, Nat.reduceMul, Nat.reduceEqDiff, Nat.reduceLT, reduceIte, reduceCtorEq]) | (simp only [St.ev, St.set, upd, Nat.reduceEqDiff, reduceIte, if_false, if_true]) | skip))) | ((first | with_reducible refine aord_nil ?_ | refine awp_skip ?_ | refine awp_exit ?_ | refine awp_ret ?_); try simp only [thenA_normal, thenA_exit, thenA_goto, thenA_ret, blockA_normal, blockA_same, blockA_exit, blockA_goto, blockA_ret, Nat.reduceEqDiff, if_false, if_true, reduceIte]) | (refine awp_region tabOk rfl ?_; simp only [prep, pickO, List.map_cons, List.map_nil, List.getElem?_toArray, List.getElem?_cons_succ, List.getElem?_cons_zero, Option.bind_some, Option.map_some]) | fail)
    simp only [St.set, St.ev, doneQ, doneH, ressK, resK, wrapR, AV.ids, AV.idsL, retK, retsK, upd, Nat.reduceEqDiff, reduceIte, if_false, if_true, List.nodup_nil, List.nodup_cons, List.not_mem_nil, not_false_eq_true, true_and, and_true, exists_eq_left', Option.some.injEq, rLoad, cellOf, tab, Ty.isAgg, Ty.one, Bool.false_eq_true]
    exact hQ


theorem opposite_sat : Sat Try.prog 23 (fun ds Q => ∃ (a b : Int), ds = [.agg [.val (.int .i64 (a)), .val (.int .i64 (b))]] ∧ Q (.agg [.val (.int .i64 (b)), .val (.int .i64 (a))])) := by
  refine sat_intro tabOk Try.func23 rfl 8 rfl [.cell 2 41] rfl ?_
  rintro ds Q W ⟨a, b, rfl, hQ⟩
  refine ⟨Nat.le_of_ble_eq_true rfl, ?_⟩
  simp only [initS, initT, mat.matL, mat, Cont.len]
  repeat' (first | refine awp_seq_k fun K hK => ?_ | ((with_reducible refine hK _ ?_); clear hK K) | ((with_reducible refine aord_plain fun K hK => ?_); simp only [go_sem, Nat.reduceAdd, Nat.reduceMul, Nat.reduceEqDiff, Nat.reduceLT, reduceIte, reduceCtorEq]) | ((first | with_reducible refine aord_nil ?_ | refine awp_skip ?_ | refine awp_exit ?_ | refine awp_ret ?_); try simp only [thenA_normal, thenA_exit, thenA_goto, thenA_ret, blockA_normal, blockA_same, blockA_exit, blockA_goto, blockA_ret, Nat.reduceEqDiff, if_false, if_true, reduceIte]) | (refine awp_region tabOk rfl ?_; simp only [prep, pickO, List.map_cons, List.map_nil, List.getElem?_toArray, List.getElem?_cons_succ, List.getElem?_cons_zero, Option.bind_some, Option.map_some]) | ((with_reducible refine And.intro ?_ ?_); (focus (exact rfl))) | (simp only [rBuild]; simp only [fillA, Nat.reduceLeDiff, List.getElem?_cons_zero, List.getElem?_cons_succ, List.drop_succ_cons, List.drop_nil, List.take_nil, List.cons_append, Option.isSome_some, go_sem, Nat.reduceAdd, Nat.reduceMul, Nat.reduceEqDiff, Nat.reduceLT, reduceIte, reduceCtorEq]) | (refine aStoreAll_cells (by simp only [St.ev, St.set, upd, Nat.reduceEqDiff, reduceIte, if_false, if_true]; exact rfl) ?_ ?_ ?_ ?_ ?_; (focus (first | rfl | omega | (simp; done) | (simp; omega) | (simp [szOf, tab]; done) | (simp [szOf, tab]; omega))); (focus (first | rfl | omega | (simp; done) | (simp; omega) | (simp [szOf, tab]; done) | (simp [szOf, tab]; omega))); (focus (first | rfl | omega | (simp; done) | (simp; omega) | (simp [szOf, tab]; done) | (simp [szOf, tab]; omega))); (focus (first | rfl | (simp [AV.cell, Value.oneCell']; done))); (try simp only [go_sem, Nat.reduceAdd, Nat.reduceMul, Nat.reduceEqDiff, Nat.reduceLT, reduceIte, reduceCtorEq])) | fail)
  simp only [St.set, St.ev, doneQ, doneH, ressK, resK, wrapR, AV.ids, AV.idsL, retK, retsK, upd, Nat.reduceEqDiff, reduceIte, if_false, if_true, List.nodup_nil, List.nodup_cons, List.not_mem_nil, not_false_eq_true, true_and, and_true, exists_eq_left', Option.some.injEq, rLoad, cellOf, tab, Ty.isAgg, Ty.one, Bool.false_eq_true, Cont.flat, List.drop_zero, List.take_succ_cons, List.take_zero, List.take_nil, List.nil_append, List.append_nil, List.length_cons, List.length_nil, Nat.le_refl, Nat.zero_add, Nat.reduceAdd, Nat.reduceLeDiff, List.drop_succ_cons, List.cons_append]
  exact hQ


theorem implValidFacts_sat : SatH Try.prog 8 (fun al h n K => ∃ (z : Int) (A : Nat) (b : Bool) (fs : List (Int × Int)), al = [.val (.int .i64 (z)), .sl A 0 fs.length 2 none] ∧ (h A = some ⟨b, .ints .i64 (flF fs)⟩) ∧ (fs.length ≤ 1099511627776) ∧ ∀ (v : Bool) (N : Nat), (v = true ↔ VF z fs) → n ≤ N → K (.val (.bool (v))) (h) (N)) := by
  refine satH_intro tabOk Try.func8 rfl 51 rfl [.tmp 4] rfl ?_
  rintro F W h n al K0 ⟨z, A, b, fs, rfl, hA, hl, hQ⟩
  refine ⟨Nat.le_of_ble_eq_true rfl, fun m0 hm0 hcl hlt => ?_⟩
  simp only [initT]
  have hAn := (hcl A _ hA).1
  have hfl := flF_len fs
  by_cases h0 : (0 ≤ z ∧ z ≤ 5) ∧ fs.length ≤ 20
  · obtain ⟨d, rfl⟩ : ∃ d : Nat, z = d := ⟨z.toNat, by omega⟩
    have q1 : decide ((d : Int) < 0) = false := decide_eq_false (by omega)
    have q2 : decide ((5 : Int) < (d : Int)) = false := decide_eq_false (by omega)
    have q3 : decide ((20 : Int) < (fs.length : Int)) = false := decide_eq_false (by omega)


    repeat' (first | refine awp_seq_k fun K hK => ?_ | ((with_reducible refine hK _ ?_); clear hK K) | ((with_reducible refine aord_plain fun K hK => ?_); simp only [go_sem, Nat.reduceAdd, Nat.reduceMul, Nat.reduceEqDiff, Nat.reduceLT, reduceIte, reduceCtorEq, hA, q1, q2, q3, Nat.add_eq_left, Nat.left_eq_add, Nat.add_assoc, Nat.reduceAdd, if_false, if_true, hA, q1, q2, q3, mat.matL, DV.agg.injEq]) | ((with_reducible apply aord_guard); (focus (simp only [St.ev, St.set, upd, Nat.reduceEqDiff, reduceIte, if_false, if_true, hA, q1, q2, q3, Nat.add_eq_left, Nat.left_eq_add, Nat.add_assoc, Nat.reduceAdd, if_false, if_true]; exact rfl)); all_goals (intro hb; (try simp only [Bool.not_true, Bool.not_false] at hb); first | (cases hb; done) | ((try rw [hb]); (try simp only [Bool.not_eq_true', Bool.not_eq_false', Bool.and_eq_true, decide_eq_true_eq, decide_eq_false_iff_not, beq_iff_eq, bne_iff_ne, beq_eq_false_iff_ne, bne_eq_false_iff_eq, Int.not_lt, Int.not_le] at hb); (try (revert hb; with_reducible refine true_imp_iff.2 ?_)); first | (intro K hK; simp only [go_sem, Nat.reduceAdd, Nat.reduceMul, Nat.reduceEqDiff, Nat.reduceLT, reduceIte, reduceCtorEq, hA, q1, q2, q3, Nat.add_eq_left, Nat.left_eq_add, Nat.add_assoc, Nat.reduceAdd, if_false, if_true]) | (simp only [St.ev, St.set, upd, Nat.reduceEqDiff, reduceIte, if_false, if_true, hA, q1, q2, q3, Nat.add_eq_left, Nat.left_eq_add, Nat.add_assoc, Nat.reduceAdd, if_false, if_true]) | skip))) | refine awp_block ?_ | ((first | with_reducible refine aord_nil ?_ | refine awp_skip ?_ | refine awp_exit ?_ | refine awp_ret ?_); try simp only [thenA_normal, thenA_exit, thenA_goto, thenA_ret, blockA_normal, blockA_same, blockA_exit, blockA_goto, blockA_ret, Nat.reduceEqDiff, if_false, if_true, reduceIte]) | (refine awp_region tabOk rfl ?_; simp only [prep, pickO, List.map_cons, List.map_nil, List.getElem?_toArray, List.getElem?_cons_succ, List.getElem?_cons_zero, Option.bind_some, Option.map_some]) | ((with_reducible apply awp_cond); (focus (simp only [St.ev, St.set, upd, Nat.reduceEqDiff, reduceIte, if_false, if_true, hA, q1, q2, q3, Nat.add_eq_left, Nat.left_eq_add, Nat.add_assoc, Nat.reduceAdd, if_false, if_true]; exact rfl)); all_goals (intro hb; first | (cases hb; done) | ((try rw [hb]); (try simp only [decide_eq_true_eq, decide_eq_false_iff_not, beq_iff_eq, bne_iff_ne, beq_eq_false_iff_ne, bne_eq_false_iff_eq, Int.not_lt, Int.not_le, Bool.not_eq_true', Bool.not_eq_false'] at hb)))) | fail)
    refine awp_loop (fun p : Nat × Nat => ⟨upd (upd (upd (upd (upd bot 22 (.val (.int .i64 p.2))) 21 (.val (.int .i64 fs.length))) 20 (.sl A 0 fs.length 2 none)) 1 (.sl A 0 fs.length 2 none)) 0 (.val (.int .i64 d)), h, p.1⟩) (fun p => p.2 ≤ fs.length ∧ n ≤ p.1 ∧ itemsIn d (fs.take p.2)) (fun p => fs.length - p.2) (n, 0) ⟨Nat.zero_le _, Nat.le_refl _, fun f hf => by simp at hf⟩ ?_ ?_
    · exact Wk.sub (tsd (tsd (tsd (tsd (tsd tsd0 rfl) rfl) rfl) rfl) rfl) (fun _ _ h => h) rfl
    rintro ⟨N, i⟩ ⟨hii, hnN, hit⟩
    dsimp only at hii hnN hit ⊢
    rcases Nat.lt_or_ge i fs.length with hlt | hge
    · have hg := flF_take hlt
      have hup := itemsIn_up hlt hit
      have hmem := getD_memF hlt
      have m1 : (A = N) = False := eq_false (by omega)
      have m2 : (N = A) = False := eq_false (by omega)
      obtain ⟨c1, hq1⟩ : ∃ c, (decide (0 ≤ (fs.getD i (0, 0)).1) && decide ((fs.getD i (0, 0)).1 < (d : Int))) = c := ⟨_, rfl⟩
      obtain ⟨c2, hq2⟩ : ∃ c, (decide (0 ≤ (fs.getD i (0, 0)).2) && decide ((fs.getD i (0, 0)).2 < (d : Int))) = c := ⟨_, rfl⟩
      have hc1 : c1 = true ↔ 0 ≤ (fs.getD i (0, 0)).1 ∧ (fs.getD i (0, 0)).1 < (d : Int) := by rw [← hq1, Bool.and_eq_true, decide_eq_true_eq, decide_eq_true_eq]
      have hc2 : c2 = true ↔ 0 ≤ (fs.getD i (0, 0)).2 ∧ (fs.getD i (0, 0)).2 < (d : Int) := by rw [← hq2, Bool.and_eq_true, decide_eq_true_eq, decide_eq_true_eq]
      have hbad : ¬ (c1 = true ∧ c2 = true) → ¬ VF d fs := fun h hv => by
        have := hv.2.2.1 _ hmem
        rw [Int.toNat_natCast] at this
        exact h ⟨hc1.2 (by omega), hc2.2 (by omega)⟩
      have hdrop : ∀ (o : Nat) (ob : Ob), h o = some ob → upd (upd h N (some ⟨true, .cells [.val (.int .i64 0), .val (.int .i64 0)]⟩)) N (some ⟨true, .cells [.val (.int .i64 (fs.getD i (0, 0)).1), .val (.int .i64 (fs.getD i (0, 0)).2)]⟩) o = some ob := fun o ob ho => by rw [upd_ne _ _ (by have := (hcl o _ ho).1; omega), upd_ne _ _ (by have := (hcl o _ ho).1; omega)]; exact ho
      cases c1 <;> cases c2
      all_goals (


        repeat' ((fail_if_success (with_reducible refine isRetQ ?_)); (first | refine awp_seq_k fun K hK => ?_ | ((with_reducible refine hK _ ?_); clear hK K) | (clear hK K; (with_reducible refine hK _ ?_); clear hK K) | ((with_reducible refine aord_plain fun K hK => ?_); simp only [go_sem, Nat.reduceAdd, Nat.reduceMul, Nat.reduceEqDiff, Nat.reduceLT, reduceIte, reduceCtorEq, hA, hg, hq1, hq2, m1, m2, Nat.add_eq_left, Nat.left_eq_add, Nat.add_assoc, Nat.reduceAdd, if_false, if_true, hA, hg, hq1, hq2, m1, m2, mat.matL, DV.agg.injEq]) | ((with_reducible apply aord_guard); (focus (simp only [St.ev, St.set, upd, Nat.reduceEqDiff, reduceIte, if_false, if_true, hA, hg, hq1, hq2, m1, m2, Nat.add_eq_left, Nat.left_eq_add, Nat.add_assoc, Nat.reduceAdd, if_false, if_true]; exact rfl)); all_goals (intro hb; (try simp only [Bool.not_true, Bool.not_false] at hb); first | (cases hb; done) | ((try rw [hb]); (try simp only [Bool.not_eq_true', Bool.not_eq_false', Bool.and_eq_true, decide_eq_true_eq, decide_eq_false_iff_not, beq_iff_eq, bne_iff_ne, beq_eq_false_iff_ne, bne_eq_false_iff_eq, Int.not_lt, Int.not_le] at hb); (try (revert hb; with_reducible refine true_imp_iff.2 ?_)); first | (intro K hK; simp only [go_sem, Nat.reduceAdd, Nat.reduceMul, Nat.reduceEqDiff, Nat.reduceLT, reduceIte, reduceCtorEq, hA, hg, hq1, hq2, m1, m2, Nat.add_eq_left, Nat.left_eq_add, Nat.add_assoc, Nat.reduceAdd, if_false, if_true]) | (simp only [St.ev, St.set, upd, Nat.reduceEqDiff, reduceIte, if_false, if_true, hA, hg, hq1, hq2, m1, m2, Nat.add_eq_left, Nat.left_eq_add, Nat.add_assoc, Nat.reduceAdd, if_false, if_true]) | skip))) | refine awp_block ?_ | ((first | with_reducible refine aord_nil ?_ | refine awp_skip ?_ | refine awp_exit ?_ | refine awp_ret ?_); try simp only [thenA_normal, thenA_exit, thenA_goto, thenA_ret, blockA_normal, blockA_same, blockA_exit, blockA_goto, blockA_ret, Nat.reduceEqDiff, if_false, if_true, reduceIte]) | (refine awp_region tabOk rfl ?_; simp only [prep, pickO, List.map_cons, List.map_nil, List.getElem?_toArray, List.getElem?_cons_succ, List.getElem?_cons_zero, Option.bind_some, Option.map_some]) | ((with_reducible apply awp_cond); (focus (simp only [St.ev, St.set, upd, Nat.reduceEqDiff, reduceIte, if_false, if_true, hA, hg, hq1, hq2, m1, m2, Nat.add_eq_left, Nat.left_eq_add, Nat.add_assoc, Nat.reduceAdd, if_false, if_true]; exact rfl)); all_goals (intro hb; first | (cases hb; done) | ((try rw [hb]); (try simp only [decide_eq_true_eq, decide_eq_false_iff_not, beq_iff_eq, bne_iff_ne, beq_eq_false_iff_ne, bne_eq_false_iff_eq, Int.not_lt, Int.not_le, Bool.not_eq_true', Bool.not_eq_false'] at hb)))) | ((with_reducible refine And.intro ?_ ?_); (focus omega)) | ((with_reducible refine And.intro ?_ ?_); (focus (exact rfl))) | ((with_reducible refine And.intro (?_ : enters Try.prog 21) ?_); (focus exact Try.call21); (refine callX_sat isItem_sat ?_); simp only [go_sem, and_assoc, List.nil_append, List.append_nil, List.cons_append, Nat.reduceEqDiff, reduceIte, reduceCtorEq, hA, hg, hq1, hq2, m1, m2, Nat.add_eq_left, Nat.left_eq_add, Nat.add_assoc, Nat.reduceAdd, if_false, if_true, hA, hg, hq1, hq2, m1, m2, mat.matL, DV.agg.injEq]) | (refine aStoreAll_cells (by simp only [St.ev, St.set, upd, Nat.reduceEqDiff, reduceIte, if_false, if_true, hA, hg, hq1, hq2, m1, m2, Nat.add_eq_left, Nat.left_eq_add, Nat.add_assoc, Nat.reduceAdd, if_false, if_true]; exact rfl) ?_ ?_ ?_ ?_ ?_; (focus (first | rfl | omega | (simp; done) | (simp; omega) | (simp [szOf, tab]; done) | (simp [szOf, tab]; omega))); (focus (first | rfl | omega | (simp; done) | (simp; omega) | (simp [szOf, tab]; done) | (simp [szOf, tab]; omega))); (focus (first | rfl | omega | (simp; done) | (simp; omega) | (simp [szOf, tab]; done) | (simp [szOf, tab]; omega))); (focus (first | rfl | (simp [AV.cell, Value.oneCell']; done))); (try simp only [go_sem, Nat.reduceAdd, Nat.reduceMul, Nat.reduceEqDiff, Nat.reduceLT, reduceIte, reduceCtorEq, hA, hg, hq1, hq2, m1, m2, Nat.add_eq_left, Nat.left_eq_add, Nat.add_assoc, Nat.reduceAdd, if_false, if_true])) | (exfalso; omega) | fail)))
      all_goals first
        | (refine awp_weaken (s' := ⟨upd bot 4 (.val (.bool false)), h, N + 1⟩) (Wk.sub (tsd tsd0 rfl) hdrop rfl) ?_
           repeat' (first | ((first | with_reducible refine aord_nil ?_ | refine awp_skip ?_ | refine awp_exit ?_ | refine awp_ret ?_); try simp only [thenA_normal, thenA_exit, thenA_goto, thenA_ret, blockA_normal, blockA_same, blockA_exit, blockA_goto, blockA_ret, Nat.reduceEqDiff, if_false, if_true, reduceIte]) | (simp only [doneH]; simp only [ressK, resK, wrapR, go_sem, Nat.reduceAdd, Nat.reduceMul, Nat.reduceEqDiff, Nat.reduceLT, reduceIte, reduceCtorEq, hA, hg, hq1, hq2, m1, m2, Nat.add_eq_left, Nat.left_eq_add, Nat.add_assoc, Nat.reduceAdd, if_false, if_true]) | fail)
           exact hQ false (N + 1) (by simp only [Bool.false_eq_true, false_iff]; exact hbad (by simp)) (by omega))
        | exact ⟨(N + 1, i + 1), ⟨by dsimp only; omega, by dsimp only; omega, hup (hc1.1 rfl) (hc2.1 rfl)⟩, by dsimp only; omega, Wk.sub (tsd (tsd (tsd (tsd (tsd tsd0 rfl) rfl) rfl) rfl) rfl) hdrop rfl⟩
    · rw [List.take_of_length_le (by omega)] at hit


      repeat' (first | refine awp_seq_k fun K hK => ?_ | ((with_reducible refine hK _ ?_); clear hK K) | (clear hK K; (with_reducible refine hK _ ?_); clear hK K) | ((with_reducible refine aord_plain fun K hK => ?_); simp only [go_sem, Nat.reduceAdd, Nat.reduceMul, Nat.reduceEqDiff, Nat.reduceLT, reduceIte, reduceCtorEq, hA, Nat.add_eq_left, Nat.left_eq_add, Nat.add_assoc, Nat.reduceAdd, if_false, if_true, hA, mat.matL, DV.agg.injEq]) | refine awp_block ?_ | ((first | with_reducible refine aord_nil ?_ | refine awp_skip ?_ | refine awp_exit ?_ | refine awp_ret ?_); try simp only [thenA_normal, thenA_exit, thenA_goto, thenA_ret, blockA_normal, blockA_same, blockA_exit, blockA_goto, blockA_ret, Nat.reduceEqDiff, if_false, if_true, reduceIte]) | (refine awp_region tabOk rfl ?_; simp only [prep, pickO, List.map_cons, List.map_nil, List.getElem?_toArray, List.getElem?_cons_succ, List.getElem?_cons_zero, Option.bind_some, Option.map_some]) | ((with_reducible apply awp_cond); (focus (simp only [St.ev, St.set, upd, Nat.reduceEqDiff, reduceIte, if_false, if_true, hA, Nat.add_eq_left, Nat.left_eq_add, Nat.add_assoc, Nat.reduceAdd, if_false, if_true]; exact rfl)); all_goals (intro hb; first | (cases hb; done) | ((try rw [hb]); (try simp only [decide_eq_true_eq, decide_eq_false_iff_not, beq_iff_eq, bne_iff_ne, beq_eq_false_iff_ne, bne_eq_false_iff_eq, Int.not_lt, Int.not_le, Bool.not_eq_true', Bool.not_eq_false'] at hb)))) | ((with_reducible refine And.intro ?_ ?_); (focus omega)) | ((with_reducible refine And.intro (?_ : enters Try.prog 22) ?_); (focus exact Try.call22); (refine callX_satH follow_sat ?_); simp only [go_sem, and_assoc, List.nil_append, List.append_nil, List.cons_append, Nat.reduceEqDiff, reduceIte, reduceCtorEq, hA, Nat.add_eq_left, Nat.left_eq_add, Nat.add_assoc, Nat.reduceAdd, if_false, if_true, hA, mat.matL, DV.agg.injEq]) | (exfalso; omega) | fail)
      refine ⟨d, b, fs, rfl, rfl, rfl, by omega, by omega, hit, fun H N2 O kn hkn hk25 hO hfr hnN2 hOO => ?_⟩
      repeat' (first | ((with_reducible refine hK _ ?_); clear hK K) | ((with_reducible refine aord_plain fun K hK => ?_); simp only [go_sem, Nat.reduceAdd, Nat.reduceMul, Nat.reduceEqDiff, Nat.reduceLT, reduceIte, reduceCtorEq, hA, Nat.add_eq_left, Nat.left_eq_add, Nat.add_assoc, Nat.reduceAdd, if_false, if_true, hA, mat.matL, DV.agg.injEq]) | refine awp_block ?_ | ((first | with_reducible refine aord_nil ?_ | refine awp_skip ?_ | refine awp_exit ?_ | refine awp_ret ?_); try simp only [thenA_normal, thenA_exit, thenA_goto, thenA_ret, blockA_normal, blockA_same, blockA_exit, blockA_goto, blockA_ret, Nat.reduceEqDiff, if_false, if_true, reduceIte]) | fail)
      have hkfl := flF_len kn
      refine awp_loop (fun p : Hp × Nat × Nat => ⟨upd (upd (upd bot 42 (.val (.int .i64 p.2.2))) 41 (.val (.int .i64 kn.length))) 40 (.sl O 0 kn.length 2 none), p.1, p.2.1⟩) (fun p => p.2.2 ≤ kn.length ∧ (∀ u, u < n → p.1 u = h u) ∧ n ≤ p.2.1 ∧ O < p.2.1 ∧ p.1 O = some ⟨true, .ints .i64 (flF kn)⟩ ∧ ∀ f, f ∈ kn.take p.2.2 → f.1 ≠ f.2) (fun p => kn.length - p.2.2) (H, N2, 0) ⟨Nat.zero_le _, fun u hu => hfr u (by omega), by dsimp only; omega, hOO.2, hO, fun f hf => by simp at hf⟩ ?_ ?_
      · exact Wk.sub (tsd (tsd (tsd tsd0 rfl) rfl) rfl) (fun _ _ h => h) rfl
      clear hfr hnN2 hO
      rintro ⟨H, N, i⟩ ⟨hik, hfr, hnN, hON, hO, hne⟩
      dsimp only at hik hfr hnN hON hO hne ⊢
      rcases Nat.lt_or_ge i kn.length with hlt | hge2
      · have hg := flF_take hlt
        have hmem := getD_memF hlt
        have m1 : (O = N) = False := eq_false (by omega)
        have m2 : (N = O) = False := eq_false (by omega)
        have hdrop : ∀ (o : Nat) (ob : Ob), h o = some ob → upd (upd H N (some ⟨true, .cells [.val (.int .i64 0), .val (.int .i64 0)]⟩)) N (some ⟨true, .cells [.val (.int .i64 (kn.getD i (0, 0)).1), .val (.int .i64 (kn.getD i (0, 0)).2)]⟩) o = some ob := fun o ob ho => by
          have := (hcl o _ ho).1
          rw [upd_ne _ _ (by omega), upd_ne _ _ (by omega), hfr o this]; exact ho


        repeat' (first | refine awp_seq_k fun K hK => ?_ | ((with_reducible refine hK _ ?_); clear hK K) | (clear hK K; (with_reducible refine hK _ ?_); clear hK K) | ((with_reducible refine aord_plain fun K hK => ?_); simp only [go_sem, Nat.reduceAdd, Nat.reduceMul, Nat.reduceEqDiff, Nat.reduceLT, reduceIte, reduceCtorEq, hO, m1, m2, hg, Nat.add_eq_left, Nat.left_eq_add, Nat.add_assoc, Nat.reduceAdd, if_false, if_true, hO, m1, m2, hg, mat.matL, DV.agg.injEq]) | refine awp_block ?_ | ((first | with_reducible refine aord_nil ?_ | refine awp_skip ?_ | refine awp_exit ?_ | refine awp_ret ?_); try simp only [thenA_normal, thenA_exit, thenA_goto, thenA_ret, blockA_normal, blockA_same, blockA_exit, blockA_goto, blockA_ret, Nat.reduceEqDiff, if_false, if_true, reduceIte]) | (refine awp_region tabOk rfl ?_; simp only [prep, pickO, List.map_cons, List.map_nil, List.getElem?_toArray, List.getElem?_cons_succ, List.getElem?_cons_zero, Option.bind_some, Option.map_some]) | (refine awp_region_draw (nt := 51) (id := 12) tabOk [(0, true, false), (1, true, false), (2, false, false), (3, true, false)] (by kernel_rfl) rfl (by kernel_rfl) ?_; simp only [prep, pickO, List.map_cons, List.map_nil, List.getElem?_toArray, List.getElem?_cons_succ, List.getElem?_cons_zero, Option.bind_some, Option.map_some]) | ((with_reducible apply awp_cond); (focus (simp only [St.ev, St.set, upd, Nat.reduceEqDiff, reduceIte, if_false, if_true, hO, m1, m2, hg, Nat.add_eq_left, Nat.left_eq_add, Nat.add_assoc, Nat.reduceAdd, if_false, if_true]; exact rfl)); all_goals (intro hb; first | (cases hb; done) | ((try rw [hb]); (try simp only [decide_eq_true_eq, decide_eq_false_iff_not, beq_iff_eq, bne_iff_ne, beq_eq_false_iff_ne, bne_eq_false_iff_eq, Int.not_lt, Int.not_le, Bool.not_eq_true', Bool.not_eq_false'] at hb)))) | ((with_reducible refine And.intro ?_ ?_); (focus omega)) | ((with_reducible refine And.intro ?_ ?_); (focus (exact rfl))) | ((with_reducible refine And.intro (?_ : enters Try.prog 23) ?_); (focus exact Try.call23); (refine callX_sat opposite_sat ?_); simp only [go_sem, and_assoc, List.nil_append, List.append_nil, List.cons_append, Nat.reduceEqDiff, reduceIte, reduceCtorEq, hO, m1, m2, hg, Nat.add_eq_left, Nat.left_eq_add, Nat.add_assoc, Nat.reduceAdd, if_false, if_true, hO, m1, m2, hg, mat.matL, DV.agg.injEq]) | (simp only [doneH]; simp only [ressK, resK, wrapR, go_sem, Nat.reduceAdd, Nat.reduceMul, Nat.reduceEqDiff, Nat.reduceLT, reduceIte, reduceCtorEq, hO, m1, m2, hg, Nat.add_eq_left, Nat.left_eq_add, Nat.add_assoc, Nat.reduceAdd, if_false, if_true]) | (refine aStoreAll_cells (by simp only [St.ev, St.set, upd, Nat.reduceEqDiff, reduceIte, if_false, if_true, hO, m1, m2, hg, Nat.add_eq_left, Nat.left_eq_add, Nat.add_assoc, Nat.reduceAdd, if_false, if_true]; exact rfl) ?_ ?_ ?_ ?_ ?_; (focus (first | rfl | omega | (simp; done) | (simp; omega) | (simp [szOf, tab]; done) | (simp [szOf, tab]; omega))); (focus (first | rfl | omega | (simp; done) | (simp; omega) | (simp [szOf, tab]; done) | (simp [szOf, tab]; omega))); (focus (first | rfl | omega | (simp; done) | (simp; omega) | (simp [szOf, tab]; done) | (simp [szOf, tab]; omega))); (focus (first | rfl | (simp [AV.cell, Value.oneCell']; done))); (try simp only [go_sem, Nat.reduceAdd, Nat.reduceMul, Nat.reduceEqDiff, Nat.reduceLT, reduceIte, reduceCtorEq, hO, m1, m2, hg, Nat.add_eq_left, Nat.left_eq_add, Nat.add_assoc, Nat.reduceAdd, if_false, if_true])) | (exfalso; omega) | fail)
        refine .inr ⟨_, .i64, (kn.getD i (0, 0)).1, (kn.getD i (0, 0)).2, (kn.getD i (0, 0)).2, (kn.getD i (0, 0)).1, _, rfl, rfl, rfl, rfl, rfl, rfl, ?_⟩
        by_cases he : (kn.getD i (0, 0)).1 = (kn.getD i (0, 0)).2
        · have e1 : decide ((kn.getD i (0, 0)).1 = (kn.getD i (0, 0)).2 ∧ (kn.getD i (0, 0)).2 = (kn.getD i (0, 0)).1) = true := decide_eq_true ⟨he, he.symm⟩
          rw [e1]
          repeat' ((fail_if_success (with_reducible refine isRetQ ?_)); (first | refine awp_seq_k fun K hK => ?_ | ((with_reducible refine hK _ ?_); clear hK K) | ((with_reducible refine aord_plain fun K hK => ?_); simp only [go_sem, Nat.reduceAdd, Nat.reduceMul, Nat.reduceEqDiff, Nat.reduceLT, reduceIte, reduceCtorEq, hO, m1, m2, hg, Nat.add_eq_left, Nat.left_eq_add, Nat.add_assoc, Nat.reduceAdd, if_false, if_true, hO, m1, m2, hg, mat.matL, DV.agg.injEq]) | ((first | with_reducible refine aord_nil ?_ | refine awp_skip ?_ | refine awp_exit ?_ | refine awp_ret ?_); try simp only [thenA_normal, thenA_exit, thenA_goto, thenA_ret, blockA_normal, blockA_same, blockA_exit, blockA_goto, blockA_ret, Nat.reduceEqDiff, if_false, if_true, reduceIte]) | (refine awp_region tabOk rfl ?_; simp only [prep, pickO, List.map_cons, List.map_nil, List.getElem?_toArray, List.getElem?_cons_succ, List.getElem?_cons_zero, Option.bind_some, Option.map_some]) | ((with_reducible apply awp_cond); (focus (simp only [St.ev, St.set, upd, Nat.reduceEqDiff, reduceIte, if_false, if_true, hO, m1, m2, hg, Nat.add_eq_left, Nat.left_eq_add, Nat.add_assoc, Nat.reduceAdd, if_false, if_true]; exact rfl)); all_goals (intro hb; first | (cases hb; done) | ((try rw [hb]); (try simp only [decide_eq_true_eq, decide_eq_false_iff_not, beq_iff_eq, bne_iff_ne, beq_eq_false_iff_ne, bne_eq_false_iff_eq, Int.not_lt, Int.not_le, Bool.not_eq_true', Bool.not_eq_false'] at hb)))) | fail))
          refine awp_weaken (s' := ⟨upd bot 4 (.val (.bool false)), h, N + 1⟩) (Wk.sub (tsd tsd0 rfl) hdrop rfl) ?_
          repeat' (first | ((first | with_reducible refine aord_nil ?_ | refine awp_skip ?_ | refine awp_exit ?_ | refine awp_ret ?_); try simp only [thenA_normal, thenA_exit, thenA_goto, thenA_ret, blockA_normal, blockA_same, blockA_exit, blockA_goto, blockA_ret, Nat.reduceEqDiff, if_false, if_true, reduceIte]) | (simp only [doneH]; simp only [ressK, resK, wrapR, go_sem, Nat.reduceAdd, Nat.reduceMul, Nat.reduceEqDiff, Nat.reduceLT, reduceIte, reduceCtorEq, hO, m1, m2, hg, Nat.add_eq_left, Nat.left_eq_add, Nat.add_assoc, Nat.reduceAdd, if_false, if_true]) | fail)
          refine hQ false (N + 1) ?_ (by omega)
          simp only [Bool.false_eq_true, false_iff]
          intro hv
          refine hv.2.2.2 (kn.getD i (0, 0)).1 ((hkn _ _).1 ?_)
          have e2 : ((kn.getD i (0, 0)).1, (kn.getD i (0, 0)).1) = kn.getD i (0, 0) := Prod.ext rfl he
          rw [e2]; exact hmem
        · have e1 : decide ((kn.getD i (0, 0)).1 = (kn.getD i (0, 0)).2 ∧ (kn.getD i (0, 0)).2 = (kn.getD i (0, 0)).1) = false := decide_eq_false fun h => he h.1
          rw [e1]
          repeat' ((fail_if_success (with_reducible refine isRetQ ?_)); (first | ((with_reducible refine hK _ ?_); clear hK K) | ((with_reducible refine aord_plain fun K hK => ?_); simp only [go_sem, Nat.reduceAdd, Nat.reduceMul, Nat.reduceEqDiff, Nat.reduceLT, reduceIte, reduceCtorEq, hO, m1, m2, hg, Nat.add_eq_left, Nat.left_eq_add, Nat.add_assoc, Nat.reduceAdd, if_false, if_true, hO, m1, m2, hg, mat.matL, DV.agg.injEq]) | ((first | with_reducible refine aord_nil ?_ | refine awp_skip ?_ | refine awp_exit ?_ | refine awp_ret ?_); try simp only [thenA_normal, thenA_exit, thenA_goto, thenA_ret, blockA_normal, blockA_same, blockA_exit, blockA_goto, blockA_ret, Nat.reduceEqDiff, if_false, if_true, reduceIte]) | (refine awp_region tabOk rfl ?_; simp only [prep, pickO, List.map_cons, List.map_nil, List.getElem?_toArray, List.getElem?_cons_succ, List.getElem?_cons_zero, Option.bind_some, Option.map_some]) | ((with_reducible apply awp_cond); (focus (simp only [St.ev, St.set, upd, Nat.reduceEqDiff, reduceIte, if_false, if_true, hO, m1, m2, hg, Nat.add_eq_left, Nat.left_eq_add, Nat.add_assoc, Nat.reduceAdd, if_false, if_true]; exact rfl)); all_goals (intro hb; first | (cases hb; done) | ((try rw [hb]); (try simp only [decide_eq_true_eq, decide_eq_false_iff_not, beq_iff_eq, bne_iff_ne, beq_eq_false_iff_ne, bne_eq_false_iff_eq, Int.not_lt, Int.not_le, Bool.not_eq_true', Bool.not_eq_false'] at hb)))) | ((with_reducible refine And.intro ?_ ?_); (focus omega)) | fail))
          refine ⟨(upd (upd H N (some ⟨true, .cells [.val (.int .i64 0), .val (.int .i64 0)]⟩)) N (some ⟨true, .cells [.val (.int .i64 (kn.getD i (0, 0)).1), .val (.int .i64 (kn.getD i (0, 0)).2)]⟩), N + 1, i + 1), ⟨by dsimp only; omega, fun u hu => by dsimp only; rw [upd_ne _ _ (by omega), upd_ne _ _ (by omega)]; exact hfr u hu, by dsimp only; omega, by dsimp only; omega, by dsimp only; rw [upd_ne _ _ (by omega), upd_ne _ _ (by omega)]; exact hO, fun f hf => ?_⟩, by dsimp only; omega, Wk.sub (tsd (tsd (tsd tsd0 rfl) rfl) rfl) (fun _ _ h => h) rfl⟩
          dsimp only at hf
          rw [tk_snoc hlt] at hf
          rcases List.mem_append.1 hf with h1 | h1
          · exact hne f h1
          · rw [List.mem_singleton.1 h1]; exact he
      · rw [List.take_of_length_le (by omega)] at hne
        have hdrop : ∀ (o : Nat) (ob : Ob), h o = some ob → H o = some ob := fun o ob ho => by rw [hfr o (hcl o _ ho).1]; exact ho


        repeat' ((fail_if_success (with_reducible refine isRetQ ?_)); (first | refine awp_seq_k fun K hK => ?_ | ((with_reducible refine hK _ ?_); clear hK K) | (clear hK K; (with_reducible refine hK _ ?_); clear hK K) | ((with_reducible refine aord_plain fun K hK => ?_); simp only [go_sem, Nat.reduceAdd, Nat.reduceMul, Nat.reduceEqDiff, Nat.reduceLT, reduceIte, reduceCtorEq, hO, Nat.add_eq_left, Nat.left_eq_add, Nat.add_assoc, Nat.reduceAdd, if_false, if_true, hO]) | refine awp_block ?_ | ((first | with_reducible refine aord_nil ?_ | refine awp_skip ?_ | refine awp_exit ?_ | refine awp_ret ?_); try simp only [thenA_normal, thenA_exit, thenA_goto, thenA_ret, blockA_normal, blockA_same, blockA_exit, blockA_goto, blockA_ret, Nat.reduceEqDiff, if_false, if_true, reduceIte]) | (refine awp_region tabOk rfl ?_; simp only [prep, pickO, List.map_cons, List.map_nil, List.getElem?_toArray, List.getElem?_cons_succ, List.getElem?_cons_zero, Option.bind_some, Option.map_some]) | ((with_reducible apply awp_cond); (focus (simp only [St.ev, St.set, upd, Nat.reduceEqDiff, reduceIte, if_false, if_true, hO, Nat.add_eq_left, Nat.left_eq_add, Nat.add_assoc, Nat.reduceAdd, if_false, if_true]; exact rfl)); all_goals (intro hb; first | (cases hb; done) | ((try rw [hb]); (try simp only [decide_eq_true_eq, decide_eq_false_iff_not, beq_iff_eq, bne_iff_ne, beq_eq_false_iff_ne, bne_eq_false_iff_eq, Int.not_lt, Int.not_le, Bool.not_eq_true', Bool.not_eq_false'] at hb)))) | ((with_reducible refine And.intro ?_ ?_); (focus omega)) | (exfalso; omega) | fail))
        refine awp_weaken (s' := ⟨upd bot 4 (.val (.bool true)), h, N⟩) (Wk.sub (tsd tsd0 rfl) hdrop rfl) ?_
        repeat' (first | ((first | with_reducible refine aord_nil ?_ | refine awp_skip ?_ | refine awp_exit ?_ | refine awp_ret ?_); try simp only [thenA_normal, thenA_exit, thenA_goto, thenA_ret, blockA_normal, blockA_same, blockA_exit, blockA_goto, blockA_ret, Nat.reduceEqDiff, if_false, if_true, reduceIte]) | (simp only [doneH]; simp only [ressK, resK, wrapR, go_sem, Nat.reduceAdd, Nat.reduceMul, Nat.reduceEqDiff, Nat.reduceLT, reduceIte, reduceCtorEq, hO, Nat.add_eq_left, Nat.left_eq_add, Nat.add_assoc, Nat.reduceAdd, if_false, if_true]) | fail)
        exact hQ true N ⟨fun _ => ⟨h0.1, h0.2, by rw [Int.toNat_natCast]; exact hit, fun x hx => hne _ ((hkn x x).2 hx) rfl⟩, fun _ => rfl⟩ hnN
  · skip
    have hno : ¬ VF z fs := fun h => h0 ⟨h.1, h.2.1⟩


    repeat' (first | refine awp_seq_k fun K hK => ?_ | ((with_reducible refine hK _ ?_); clear hK K) | ((with_reducible refine aord_plain fun K hK => ?_); simp only [go_sem, Nat.reduceAdd, Nat.reduceMul, Nat.reduceEqDiff, Nat.reduceLT, reduceIte, reduceCtorEq, hA, Nat.add_eq_left, Nat.left_eq_add, Nat.add_assoc, Nat.reduceAdd, if_false, if_true, hA]) | ((with_reducible apply aord_guard); (focus (simp only [St.ev, St.set, upd, Nat.reduceEqDiff, reduceIte, if_false, if_true, hA, Nat.add_eq_left, Nat.left_eq_add, Nat.add_assoc, Nat.reduceAdd, if_false, if_true]; exact rfl)); all_goals (intro hb; (try simp only [Bool.not_true, Bool.not_false] at hb); first | (cases hb; done) | ((try rw [hb]); (try simp only [Bool.not_eq_true', Bool.not_eq_false', Bool.and_eq_true, decide_eq_true_eq, decide_eq_false_iff_not, beq_iff_eq, bne_iff_ne, beq_eq_false_iff_ne, bne_eq_false_iff_eq, Int.not_lt, Int.not_le] at hb); (try (revert hb; with_reducible refine true_imp_iff.2 ?_)); first | (intro K hK; simp only [go_sem, Nat.reduceAdd, Nat.reduceMul, Nat.reduceEqDiff, Nat.reduceLT, reduceIte, reduceCtorEq, hA, Nat.add_eq_left, Nat.left_eq_add, Nat.add_assoc, Nat.reduceAdd, if_false, if_true]) | (simp only [St.ev, St.set, upd, Nat.reduceEqDiff, reduceIte, if_false, if_true, hA, Nat.add_eq_left, Nat.left_eq_add, Nat.add_assoc, Nat.reduceAdd, if_false, if_true]) | skip))) | refine awp_block ?_ | ((first | with_reducible refine aord_nil ?_ | refine awp_skip ?_ | refine awp_exit ?_ | refine awp_ret ?_); try simp only [thenA_normal, thenA_exit, thenA_goto, thenA_ret, blockA_normal, blockA_same, blockA_exit, blockA_goto, blockA_ret, Nat.reduceEqDiff, if_false, if_true, reduceIte]) | (refine awp_region tabOk rfl ?_; simp only [prep, pickO, List.map_cons, List.map_nil, List.getElem?_toArray, List.getElem?_cons_succ, List.getElem?_cons_zero, Option.bind_some, Option.map_some]) | ((with_reducible apply awp_cond); (focus (simp only [St.ev, St.set, upd, Nat.reduceEqDiff, reduceIte, if_false, if_true, hA, Nat.add_eq_left, Nat.left_eq_add, Nat.add_assoc, Nat.reduceAdd, if_false, if_true]; exact rfl)); all_goals (intro hb; first | (cases hb; done) | ((try rw [hb]); (try simp only [decide_eq_true_eq, decide_eq_false_iff_not, beq_iff_eq, bne_iff_ne, beq_eq_false_iff_ne, bne_eq_false_iff_eq, Int.not_lt, Int.not_le, Bool.not_eq_true', Bool.not_eq_false'] at hb)))) | (simp only [doneH]; simp only [ressK, resK, wrapR, go_sem, Nat.reduceAdd, Nat.reduceMul, Nat.reduceEqDiff, Nat.reduceLT, reduceIte, reduceCtorEq, hA, Nat.add_eq_left, Nat.left_eq_add, Nat.add_assoc, Nat.reduceAdd, if_false, if_true]) | (exfalso; omega) | fail)
    all_goals (first | (exact hQ false n (by simp [hno]) (Nat.le_refl _)) | skip)

theorem toFact_sat : Sat Try.prog 30 (fun ds Q => ∃ (a b : Int), ds = [.agg [.val (.int .i64 (a)), .val (.int .i64 (b))]] ∧ Q (.agg [.val (.int .i64 (a)), .val (.int .i64 (b))])) := by
  refine sat_intro tabOk Try.func30 rfl 11 rfl [.cell 2 41] rfl ?_
  rintro ds Q W ⟨a, b, rfl, hQ⟩
  refine ⟨Nat.le_of_ble_eq_true rfl, ?_⟩
  simp only [initS, initT, mat.matL, mat, Cont.len]
  repeat' (first | refine awp_seq_k fun K hK => ?_ | ((with_reducible refine hK _ ?_); clear hK K) | ((with_reducible refine aord_plain fun K hK => ?_); simp only [go_sem, Nat.reduceAdd, Nat.reduceMul, Nat.reduceEqDiff, Nat.reduceLT, reduceIte, reduceCtorEq]) | ((first | with_reducible refine aord_nil ?_ | refine awp_skip ?_ | refine awp_exit ?_ | refine awp_ret ?_); try simp only [thenA_normal, thenA_exit, thenA_goto, thenA_ret, blockA_normal, blockA_same, blockA_exit, blockA_goto, blockA_ret, Nat.reduceEqDiff, if_false, if_true, reduceIte]) | (refine awp_region tabOk rfl ?_; simp only [prep, pickO, List.map_cons, List.map_nil, List.getElem?_toArray, List.getElem?_cons_succ, List.getElem?_cons_zero, Option.bind_some, Option.map_some]) | ((with_reducible refine And.intro ?_ ?_); (focus (exact rfl))) | (refine aStoreAll_cells (by simp only [St.ev, St.set, upd, Nat.reduceEqDiff, reduceIte, if_false, if_true]; exact rfl) ?_ ?_ ?_ ?_ ?_; (focus (first | rfl | omega | (simp; done) | (simp; omega) | (simp [szOf, tab]; done) | (simp [szOf, tab]; omega))); (focus (first | rfl | omega | (simp; done) | (simp; omega) | (simp [szOf, tab]; done) | (simp [szOf, tab]; omega))); (focus (first | rfl | omega | (simp; done) | (simp; omega) | (simp [szOf, tab]; done) | (simp [szOf, tab]; omega))); (focus (first | rfl | (simp [AV.cell, Value.oneCell']; done))); (try simp only [go_sem, Nat.reduceAdd, Nat.reduceMul, Nat.reduceEqDiff, Nat.reduceLT, reduceIte, reduceCtorEq])) | fail)
  simp only [St.set, St.ev, doneQ, doneH, ressK, resK, wrapR, AV.ids, AV.idsL, retK, retsK, upd, Nat.reduceEqDiff, reduceIte, if_false, if_true, List.nodup_nil, List.nodup_cons, List.not_mem_nil, not_false_eq_true, true_and, and_true, exists_eq_left', Option.some.injEq, rLoad, cellOf, tab, Ty.isAgg, Ty.one, Bool.false_eq_true, Cont.flat, List.drop_zero, List.take_succ_cons, List.take_zero, List.take_nil, List.nil_append, List.append_nil, List.length_cons, List.length_nil, Nat.le_refl, Nat.zero_add, Nat.reduceAdd, Nat.reduceLeDiff, List.drop_succ_cons, List.cons_append]
  exact hQ


theorem szFactS_sat : SatH Try.prog 11 (fun al h n K => ∃ (A len : Nat) (left : Int), al = [.sl A 0 len 2 none, .val (.int .i64 (left))] ∧ (len ≤ 9223372036854775807) ∧ (0 ≤ left ∧ left ≤ 1048576) ∧ K (.val (.int .i64 ((if left < (len : Int) then -1 else left - len)))) (h) (n)) := by
  refine satH_intro tabOk Try.func11 rfl 12 rfl [.tmp 4] rfl ?_
  rintro F W h n al K0 ⟨A, len, left, rfl, hl, hf, hQ⟩
  refine ⟨Nat.le_of_ble_eq_true rfl, fun m0 hm0 hcl hlt => ?_⟩
  simp only [initT]
  repeat' (first | refine awp_seq_k fun K hK => ?_ | ((with_reducible refine hK _ ?_); clear hK K) | ((with_reducible refine aord_plain fun K hK => ?_); simp only [go_sem, Nat.reduceAdd, Nat.reduceMul, Nat.reduceEqDiff, Nat.reduceLT, reduceIte, reduceCtorEq]) | ((first | with_reducible refine aord_nil ?_ | refine awp_skip ?_ | refine awp_exit ?_ | refine awp_ret ?_); try simp only [thenA_normal, thenA_exit, thenA_goto, thenA_ret, blockA_normal, blockA_same, blockA_exit, blockA_goto, blockA_ret, Nat.reduceEqDiff, if_false, if_true, reduceIte]) | (refine awp_region tabOk rfl ?_; simp only [prep, pickO, List.map_cons, List.map_nil, List.getElem?_toArray, List.getElem?_cons_succ, List.getElem?_cons_zero, Option.bind_some, Option.map_some]) | ((with_reducible apply awp_cond); (focus (simp only [St.ev, St.set, upd, Nat.reduceEqDiff, reduceIte, if_false, if_true]; exact rfl)); all_goals (intro hb; first | (cases hb; done) | ((try rw [hb]); (try simp only [decide_eq_true_eq, decide_eq_false_iff_not, beq_iff_eq, bne_iff_ne, beq_eq_false_iff_ne, bne_eq_false_iff_eq, Int.not_lt, Int.not_le, Bool.not_eq_true', Bool.not_eq_false'] at hb)))) | ((with_reducible refine And.intro ?_ ?_); (focus omega)) | (simp only [doneH]; simp only [ressK, resK, wrapR, go_sem, Nat.reduceAdd, Nat.reduceMul, Nat.reduceEqDiff, Nat.reduceLT, reduceIte, reduceCtorEq]) | fail)
  · rw [if_pos (by omega)] at hQ
    exact hQ
  · rw [if_neg (by omega)] at hQ
    exact hQ


theorem put_two {ys zs : List Int} {p : Nat} {a b : Int} (hp : p + 2 ≤ ys.length) (hj : ∀ j, j < p → ys.getD j 0 = zs.getD j 0) (ha : a = zs.getD p 0) (hb : b = zs.getD (p + 1) 0) : (ys.take p ++ [a, b] ++ ys.drop (p + 2)).length = ys.length ∧ ∀ j, j < p + 2 → (ys.take p ++ [a, b] ++ ys.drop (p + 2)).getD j 0 = zs.getD j 0 := by
  have htl : (ys.take p).length = p := by rw [List.length_take]; omega
  refine ⟨by simp only [List.length_append, htl, List.length_drop, List.length_cons, List.length_nil]; omega, fun j h => ?_⟩
  rw [List.append_assoc]
  rcases Nat.lt_or_ge j p with h1 | h1
  · rw [List.getD_eq_getElem?_getD, List.getElem?_append_left (by omega), List.getElem?_take, if_pos h1, ← List.getD_eq_getElem?_getD]
    exact hj j h1
  · rw [List.getD_eq_getElem?_getD, List.getElem?_append_right (by omega), htl]
    rcases (show j = p ∨ j = p + 1 by omega) with e | e
    · rw [e, Nat.sub_self]; simpa using ha
    · rw [e, Nat.add_sub_cancel_left]; simpa using hb


theorem toFactS_sat : SatH Try.prog 12 (fun al h n K => ∃ (A : Nat) (b : Bool) (fs : List (Int × Int)), al = [.sl A 0 fs.length 2 none] ∧ (h A = some ⟨b, .ints .i64 (flF fs)⟩) ∧ (fs.length ≤ 1048576) ∧ K (.sl n 0 fs.length 2 none) (upd h n (some ⟨true, .ints .i64 (flF fs)⟩)) (n + 1)) := by
  refine satH_intro tabOk Try.func12 rfl 23 rfl [.tmp 2] rfl ?_
  rintro F W h n al K0 ⟨A, b, fs, rfl, hA, hl, hQ⟩
  refine ⟨Nat.le_of_ble_eq_true rfl, fun m0 hm0 hcl hlt => ?_⟩
  simp only [initT]
  have hAn := (hcl A _ hA).1
  have hfl := flF_len fs
  have a1 : (A = n) = False := eq_false (by omega)
  have a2 : (n = A) = False := eq_false (by omega)


  repeat' (first | refine awp_seq_k fun K hK => ?_ | ((with_reducible refine hK _ ?_); clear hK K) | ((with_reducible refine aord_plain fun K hK => ?_); simp only [go_sem, Nat.reduceAdd, Nat.reduceMul, Nat.reduceEqDiff, Nat.reduceLT, reduceIte, reduceCtorEq, hA, a1, a2, Nat.add_eq_left, Nat.left_eq_add, Nat.add_assoc, Nat.reduceAdd, if_false, if_true, hA, mat.matL, DV.agg.injEq]) | refine awp_block ?_ | ((first | with_reducible refine aord_nil ?_ | refine awp_skip ?_ | refine awp_exit ?_ | refine awp_ret ?_); try simp only [thenA_normal, thenA_exit, thenA_goto, thenA_ret, blockA_normal, blockA_same, blockA_exit, blockA_goto, blockA_ret, Nat.reduceEqDiff, if_false, if_true, reduceIte]) | (refine awp_region tabOk rfl ?_; simp only [prep, pickO, List.map_cons, List.map_nil, List.getElem?_toArray, List.getElem?_cons_succ, List.getElem?_cons_zero, Option.bind_some, Option.map_some]) | ((with_reducible refine And.intro ?_ ?_); (focus omega)) | fail)
  refine awp_loopE (α := (Nat) × (List Int)) (fun s p => ⟨(upd (upd (upd bot 0 (s.tmps 0)) 3 (s.tmps 3)) 4 (.val (.int .i64 ((p.1))))), (upd s.heap n (some ⟨true, .ints .i64 ((p.2))⟩)), s.next⟩) _ (fun p => by simp only [St.ev, St.set, upd, Nat.reduceEqDiff, reduceIte, if_false, if_true, hA, a1, a2, Nat.add_eq_left, Nat.left_eq_add, Nat.add_assoc, Nat.reduceAdd, if_false, if_true]; exact rfl) (fun p => ((p.1) ≤ fs.length) ∧ ((p.2).length = fs.length * 2) ∧ (∀ j, j < (p.1) * 2 → (p.2).getD j 0 = (flF fs).getD j 0)) (fun p => fs.length - (p.1)) (0, List.replicate (fs.length * 2) 0) ?_ ?_ ?_
  · (try simp only); (refine ⟨?_, ?_, ?_⟩ <;> (first | omega | (simp; done) | (intro j h; omega)))
  · (apply Wk.over (id) n; (case' h2 => (focus ((repeat' (first | (with_reducible exact HeapX.bot) | (exact HeapX.base (by first | exact hcl | assumption) (by first | exact Nat.le_refl _ | omega | (simp only; omega)) (fun k hk => by first | rfl | (simp only [id]; done) | ((repeat rw [if_neg (by omega)]); done)) (by intro u hu hlt'; first | rfl | (simp only [List.mem_cons, List.not_mem_nil, or_false, not_or] at hu; first | (simp [upd, hu]; done) | (simp only [upd]; (repeat rw [if_neg (by omega)]))))) | (with_reducible (apply HeapX.skip; (case hx => (simp; done)))) | (with_reducible apply HeapX.none) | (with_reducible apply HeapX.old (by first | assumption | omega) (by first | exact Nat.le_refl _ | omega | (simp only; omega)) (by first | rfl | (simp only [id]; done) | ((repeat rw [if_neg (by omega)]); done))) | (with_reducible apply HeapX.upd))); all_goals (first | rfl | omega | assumption | exact Nat.le_of_ble_eq_true rfl | (simp only; omega) | (simp only [St.set, St.ev, upd, ren, renL, id, Nat.reduceEqDiff, reduceIte, hA, a1, a2, Nat.add_eq_left, Nat.left_eq_add, Nat.add_assoc, Nat.reduceAdd, if_false, if_true]; rfl) | (simp only [St.set, St.ev, upd, ren, renL, id, Nat.reduceEqDiff, reduceIte, hA, a1, a2, Nat.add_eq_left, Nat.left_eq_add, Nat.add_assoc, Nat.reduceAdd, if_false, if_true, ContLe]; done) | (exact And.intro rfl (And.intro (by first | exact Nat.le_of_ble_eq_true rfl | omega) (by first | exact Nat.le_of_ble_eq_true rfl | omega))) | (first | (simp only [St.set, St.ev, upd, ren, renL, id, Nat.reduceEqDiff, reduceIte, hA, a1, a2, Nat.add_eq_left, Nat.left_eq_add, Nat.add_assoc, Nat.reduceAdd, if_false, if_true]; exact contLe_nil) | ((repeat' (first | exact contLe_nil | refine contLe_cons (.inr ⟨?_, rfl⟩) ?_ | exact contLe_refl (n0 := n) (fun k hk => by first | rfl | (simp only [id]; done) | ((repeat rw [if_neg (by omega)]); done)) (by first | exact Nat.le_refl _ | omega | (simp only; omega)) (by assumption))); all_goals (first | rfl | (simp only [St.set, St.ev, upd, ren, renL, id, Nat.reduceEqDiff, reduceIte, hA, a1, a2, Nat.add_eq_left, Nat.left_eq_add, Nat.add_assoc, Nat.reduceAdd, if_false, if_true]; done) | ((try simp only [St.set, St.ev, upd, ren, renL, id, Nat.reduceEqDiff, reduceIte, hA, a1, a2, Nat.add_eq_left, Nat.left_eq_add, Nat.add_assoc, Nat.reduceAdd, if_false, if_true]); first | (with_reducible exact av_int (by omega)) | (with_reducible exact av_sl (by first | omega | (simp; done) | (simp; omega)) (by first | omega | (simp; done) | (simp; omega)))) | (simp only [St.set, St.ev, upd, ren, renL, id, Nat.reduceEqDiff, reduceIte, hA, a1, a2, Nat.add_eq_left, Nat.left_eq_add, Nat.add_assoc, Nat.reduceAdd, if_false, if_true, Int.natCast_add, Int.natCast_one, Int.cast_ofNat_Int, Int.natCast_zero]; done) | (simp only [St.set, St.ev, upd, ren, renL, id, Nat.reduceEqDiff, reduceIte, hA, a1, a2, Nat.add_eq_left, Nat.left_eq_add, Nat.add_assoc, Nat.reduceAdd, if_false, if_true]) | skip); done)) | (simp only [St.set, St.ev, upd, ren, renL, id, Nat.reduceEqDiff, reduceIte, hA, a1, a2, Nat.add_eq_left, Nat.left_eq_add, Nat.add_assoc, Nat.reduceAdd, if_false, if_true, ContLe]) | skip)))); (case' h1 => (focus ((repeat' (with_reducible first | exact TmpLe.bot | refine TmpLe.upd ?_ (by first | rfl | (simp only [AV.lt, decide_eq_true_eq]; first | done | omega)) ?_)); all_goals (first | rfl | (simp only [St.set, St.ev, upd, ren, renL, id, Nat.reduceEqDiff, reduceIte, hA, a1, a2, Nat.add_eq_left, Nat.left_eq_add, Nat.add_assoc, Nat.reduceAdd, if_false, if_true]; done) | ((try simp only [St.set, St.ev, upd, ren, renL, id, Nat.reduceEqDiff, reduceIte, hA, a1, a2, Nat.add_eq_left, Nat.left_eq_add, Nat.add_assoc, Nat.reduceAdd, if_false, if_true]); first | (with_reducible exact av_int (by omega)) | (with_reducible exact av_sl (by first | omega | (simp; done) | (simp; omega)) (by first | omega | (simp; done) | (simp; omega)))) | (simp only [St.set, St.ev, upd, ren, renL, id, Nat.reduceEqDiff, reduceIte, hA, a1, a2, Nat.add_eq_left, Nat.left_eq_add, Nat.add_assoc, Nat.reduceAdd, if_false, if_true, Int.natCast_add, Int.natCast_one, Int.cast_ofNat_Int, Int.natCast_zero]; done) | (simp only [St.set, St.ev, upd, ren, renL, id, Nat.reduceEqDiff, reduceIte, hA, a1, a2, Nat.add_eq_left, Nat.left_eq_add, Nat.add_assoc, Nat.reduceAdd, if_false, if_true]) | skip)))); (case h3 => (focus (first | (simp only [id, List.map_cons, List.map_nil]; decide) | decide | (simp; done) | (simp; omega) | fail))); (case h5 => (intro d hd; first | (simp at hd; done) | (simp only [List.mem_cons, List.not_mem_nil, or_false] at hd; first | (simp only [id]; omega) | (split <;> omega) | ((repeat' split) <;> omega) | ((try simp only); repeat' split; all_goals omega)))); (case h4 => (intro o l h; first | (cases h; done) | (have hlt0 := m0_lt (by assumption) h; (try (simp only at hlt0)); first | omega | (simp only; omega) | exact ⟨by (first | rfl | (simp only [id]; done) | ((repeat rw [if_neg (by omega)]); done)), by first | omega | (simp only; omega)⟩))))
  rintro ⟨i, ys⟩ ⟨hi, hy, hj⟩
  try simp only at hi hy hj
  rcases Nat.lt_or_ge i fs.length with hlt | hge
  · have hg := flF_take hlt
    obtain ⟨g1, g2⟩ := flF_get hlt


    repeat' (first | refine awp_seq_k fun K hK => ?_ | ((with_reducible refine hK _ ?_); clear hK K) | (clear hK K; (with_reducible refine hK _ ?_); clear hK K) | ((with_reducible refine aord_plain fun K hK => ?_); simp only [go_sem, Nat.reduceAdd, Nat.reduceMul, Nat.reduceEqDiff, Nat.reduceLT, reduceIte, reduceCtorEq, hA, a1, a2, hg, Nat.add_eq_left, Nat.left_eq_add, Nat.add_assoc, Nat.reduceAdd, if_false, if_true, hA, a1, a2, hg, mat.matL, DV.agg.injEq]) | refine awp_block ?_ | ((first | with_reducible refine aord_nil ?_ | refine awp_skip ?_ | refine awp_exit ?_ | refine awp_ret ?_); try simp only [thenA_normal, thenA_exit, thenA_goto, thenA_ret, blockA_normal, blockA_same, blockA_exit, blockA_goto, blockA_ret, Nat.reduceEqDiff, if_false, if_true, reduceIte]) | (refine awp_region tabOk rfl ?_; simp only [prep, pickO, List.map_cons, List.map_nil, List.getElem?_toArray, List.getElem?_cons_succ, List.getElem?_cons_zero, Option.bind_some, Option.map_some]) | ((with_reducible apply awp_cond); (focus (simp only [St.ev, St.set, upd, Nat.reduceEqDiff, reduceIte, if_false, if_true, hA, a1, a2, hg, Nat.add_eq_left, Nat.left_eq_add, Nat.add_assoc, Nat.reduceAdd, if_false, if_true]; exact rfl)); all_goals (intro hb; first | (cases hb; done) | ((try rw [hb]); (try simp only [decide_eq_true_eq, decide_eq_false_iff_not, beq_iff_eq, bne_iff_ne, beq_eq_false_iff_ne, bne_eq_false_iff_eq, Int.not_lt, Int.not_le, Bool.not_eq_true', Bool.not_eq_false'] at hb)))) | ((with_reducible refine And.intro ?_ ?_); (focus omega)) | ((with_reducible refine And.intro (?_ : enters Try.prog 30) ?_); (focus exact Try.call30); (refine callX_sat toFact_sat ?_); simp only [go_sem, and_assoc, List.nil_append, List.append_nil, List.cons_append, Nat.reduceEqDiff, reduceIte, reduceCtorEq, hA, a1, a2, hg, Nat.add_eq_left, Nat.left_eq_add, Nat.add_assoc, Nat.reduceAdd, if_false, if_true, hA, a1, a2, hg, mat.matL, DV.agg.injEq]) | (simp only [doneH]; simp only [ressK, resK, wrapR, go_sem, Nat.reduceAdd, Nat.reduceMul, Nat.reduceEqDiff, Nat.reduceLT, reduceIte, reduceCtorEq, hA, a1, a2, hg, Nat.add_eq_left, Nat.left_eq_add, Nat.add_assoc, Nat.reduceAdd, if_false, if_true]) | (exfalso; omega) | fail)
    refine aStoreAt_ints (ys := [(fs.getD i (0, 0)).1, (fs.getD i (0, 0)).2]) (by (try dsimp only); (repeat (first | rw [upd_same] | rw [upd_ne _ _ (by omega)])); (try rfl)) (Nat.zero_lt_succ _) (by simp only [List.length_cons, List.length_nil]; omega) rfl ?_
    obtain ⟨p1, p2⟩ := put_two (ys := ys) (zs := flF fs) (p := i * 2) (by omega) hj g1.symm g2.symm
    repeat' (first | ((with_reducible refine hK _ ?_); clear hK K) | ((with_reducible refine aord_plain fun K hK => ?_); simp only [go_sem, Nat.reduceAdd, Nat.reduceMul, Nat.reduceEqDiff, Nat.reduceLT, reduceIte, reduceCtorEq, hA, a1, a2, hg, Nat.add_eq_left, Nat.left_eq_add, Nat.add_assoc, Nat.reduceAdd, if_false, if_true, hA, a1, a2, hg, mat.matL, DV.agg.injEq]) | ((first | with_reducible refine aord_nil ?_ | refine awp_skip ?_ | refine awp_exit ?_ | refine awp_ret ?_); try simp only [thenA_normal, thenA_exit, thenA_goto, thenA_ret, blockA_normal, blockA_same, blockA_exit, blockA_goto, blockA_ret, Nat.reduceEqDiff, if_false, if_true, reduceIte]) | (refine awp_region tabOk rfl ?_; simp only [prep, pickO, List.map_cons, List.map_nil, List.getElem?_toArray, List.getElem?_cons_succ, List.getElem?_cons_zero, Option.bind_some, Option.map_some]) | ((with_reducible refine And.intro ?_ ?_); (focus omega)) | fail)
    ((refine Exists.intro (i + 1, ys.take (i * 2) ++ [(fs.getD i (0, 0)).1, (fs.getD i (0, 0)).2] ++ ys.drop (i * 2 + 2)) ?_); (refine nxt ?_ ?_ ?_); (focus ((apply Wk.over (id) n; (case' h2 => (focus ((repeat' (first | (with_reducible exact HeapX.bot) | (exact HeapX.base (by first | exact hcl | assumption) (by first | exact Nat.le_refl _ | omega | (simp only; omega)) (fun k hk => by first | rfl | (simp only [id]; done) | ((repeat rw [if_neg (by omega)]); done)) (by intro u hu hlt'; first | rfl | (simp only [List.mem_cons, List.not_mem_nil, or_false, not_or] at hu; first | (simp [upd, hu]; done) | (simp only [upd]; (repeat rw [if_neg (by omega)]))))) | (with_reducible (apply HeapX.skip; (case hx => (simp; done)))) | (with_reducible apply HeapX.none) | (with_reducible apply HeapX.old (by first | assumption | omega) (by first | exact Nat.le_refl _ | omega | (simp only; omega)) (by first | rfl | (simp only [id]; done) | ((repeat rw [if_neg (by omega)]); done))) | (with_reducible apply HeapX.upd))); all_goals (first | rfl | omega | assumption | exact Nat.le_of_ble_eq_true rfl | (simp only; omega) | (simp only [St.set, St.ev, upd, ren, renL, id, Nat.reduceEqDiff, reduceIte, hA, a1, a2, hg, Nat.add_eq_left, Nat.left_eq_add, Nat.add_assoc, Nat.reduceAdd, if_false, if_true]; rfl) | (simp only [St.set, St.ev, upd, ren, renL, id, Nat.reduceEqDiff, reduceIte, hA, a1, a2, hg, Nat.add_eq_left, Nat.left_eq_add, Nat.add_assoc, Nat.reduceAdd, if_false, if_true, ContLe]; done) | (exact And.intro rfl (And.intro (by first | exact Nat.le_of_ble_eq_true rfl | omega) (by first | exact Nat.le_of_ble_eq_true rfl | omega))) | (first | (simp only [St.set, St.ev, upd, ren, renL, id, Nat.reduceEqDiff, reduceIte, hA, a1, a2, hg, Nat.add_eq_left, Nat.left_eq_add, Nat.add_assoc, Nat.reduceAdd, if_false, if_true]; exact contLe_nil) | ((repeat' (first | exact contLe_nil | refine contLe_cons (.inr ⟨?_, rfl⟩) ?_ | exact contLe_refl (n0 := n) (fun k hk => by first | rfl | (simp only [id]; done) | ((repeat rw [if_neg (by omega)]); done)) (by first | exact Nat.le_refl _ | omega | (simp only; omega)) (by assumption))); all_goals (first | rfl | (simp only [St.set, St.ev, upd, ren, renL, id, Nat.reduceEqDiff, reduceIte, hA, a1, a2, hg, Nat.add_eq_left, Nat.left_eq_add, Nat.add_assoc, Nat.reduceAdd, if_false, if_true]; done) | ((try simp only [St.set, St.ev, upd, ren, renL, id, Nat.reduceEqDiff, reduceIte, hA, a1, a2, hg, Nat.add_eq_left, Nat.left_eq_add, Nat.add_assoc, Nat.reduceAdd, if_false, if_true]); first | (with_reducible exact av_int (by omega)) | (with_reducible exact av_sl (by first | omega | (simp; done) | (simp; omega)) (by first | omega | (simp; done) | (simp; omega)))) | (simp only [St.set, St.ev, upd, ren, renL, id, Nat.reduceEqDiff, reduceIte, hA, a1, a2, hg, Nat.add_eq_left, Nat.left_eq_add, Nat.add_assoc, Nat.reduceAdd, if_false, if_true, Int.natCast_add, Int.natCast_one, Int.cast_ofNat_Int, Int.natCast_zero]; done) | (simp only [St.set, St.ev, upd, ren, renL, id, Nat.reduceEqDiff, reduceIte, hA, a1, a2, hg, Nat.add_eq_left, Nat.left_eq_add, Nat.add_assoc, Nat.reduceAdd, if_false, if_true]) | skip); done)) | (simp only [St.set, St.ev, upd, ren, renL, id, Nat.reduceEqDiff, reduceIte, hA, a1, a2, hg, Nat.add_eq_left, Nat.left_eq_add, Nat.add_assoc, Nat.reduceAdd, if_false, if_true, ContLe]) | skip)))); (case' h1 => (focus ((repeat' (with_reducible first | exact TmpLe.bot | refine TmpLe.upd ?_ (by first | rfl | (simp only [AV.lt, decide_eq_true_eq]; first | done | omega)) ?_)); all_goals (first | rfl | (simp only [St.set, St.ev, upd, ren, renL, id, Nat.reduceEqDiff, reduceIte, hA, a1, a2, hg, Nat.add_eq_left, Nat.left_eq_add, Nat.add_assoc, Nat.reduceAdd, if_false, if_true]; done) | ((try simp only [St.set, St.ev, upd, ren, renL, id, Nat.reduceEqDiff, reduceIte, hA, a1, a2, hg, Nat.add_eq_left, Nat.left_eq_add, Nat.add_assoc, Nat.reduceAdd, if_false, if_true]); first | (with_reducible exact av_int (by omega)) | (with_reducible exact av_sl (by first | omega | (simp; done) | (simp; omega)) (by first | omega | (simp; done) | (simp; omega)))) | (simp only [St.set, St.ev, upd, ren, renL, id, Nat.reduceEqDiff, reduceIte, hA, a1, a2, hg, Nat.add_eq_left, Nat.left_eq_add, Nat.add_assoc, Nat.reduceAdd, if_false, if_true, Int.natCast_add, Int.natCast_one, Int.cast_ofNat_Int, Int.natCast_zero]; done) | (simp only [St.set, St.ev, upd, ren, renL, id, Nat.reduceEqDiff, reduceIte, hA, a1, a2, hg, Nat.add_eq_left, Nat.left_eq_add, Nat.add_assoc, Nat.reduceAdd, if_false, if_true]) | skip)))); (case h3 => (focus (first | (simp only [id, List.map_cons, List.map_nil]; decide) | decide | (simp; done) | (simp; omega) | fail))); (case h5 => (intro d hd; first | (simp at hd; done) | (simp only [List.mem_cons, List.not_mem_nil, or_false] at hd; first | (simp only [id]; omega) | (split <;> omega) | ((repeat' split) <;> omega) | ((try simp only); repeat' split; all_goals omega)))); (case h4 => (intro o l h; first | (cases h; done) | (have hlt0 := m0_lt (by assumption) h; (try (simp only at hlt0)); first | omega | (simp only; omega) | exact ⟨by (first | rfl | (simp only [id]; done) | ((repeat rw [if_neg (by omega)]); done)), by first | omega | (simp only; omega)⟩)))))); (focus (first | omega | (simp only; omega) | (simp only [List.length_take]; omega) | (simp; done) | (simp; omega))); ((repeat' (with_reducible apply And.intro)) <;> (first | omega | (simp only; omega) | assumption | rfl | ((try simp only); first | (rw [p1]; exact hy) | (exact fun j h => p2 j (by omega)) | skip) | skip)))
  · have ey : ys = flF fs := by
      refine ext_getD (by omega) (fun j h => hj j (by omega))


    repeat' (first | refine awp_seq_k fun K hK => ?_ | ((with_reducible refine hK _ ?_); clear hK K) | (clear hK K; (with_reducible refine hK _ ?_); clear hK K) | ((with_reducible refine aord_plain fun K hK => ?_); simp only [go_sem, Nat.reduceAdd, Nat.reduceMul, Nat.reduceEqDiff, Nat.reduceLT, reduceIte, reduceCtorEq, hA, a1, a2, Nat.add_eq_left, Nat.left_eq_add, Nat.add_assoc, Nat.reduceAdd, if_false, if_true, hA, a1, a2]) | refine awp_block ?_ | ((first | with_reducible refine aord_nil ?_ | refine awp_skip ?_ | refine awp_exit ?_ | refine awp_ret ?_); try simp only [thenA_normal, thenA_exit, thenA_goto, thenA_ret, blockA_normal, blockA_same, blockA_exit, blockA_goto, blockA_ret, Nat.reduceEqDiff, if_false, if_true, reduceIte]) | (refine awp_region tabOk rfl ?_; simp only [prep, pickO, List.map_cons, List.map_nil, List.getElem?_toArray, List.getElem?_cons_succ, List.getElem?_cons_zero, Option.bind_some, Option.map_some]) | ((with_reducible apply awp_cond); (focus (simp only [St.ev, St.set, upd, Nat.reduceEqDiff, reduceIte, if_false, if_true, hA, a1, a2, Nat.add_eq_left, Nat.left_eq_add, Nat.add_assoc, Nat.reduceAdd, if_false, if_true]; exact rfl)); all_goals (intro hb; first | (cases hb; done) | ((try rw [hb]); (try simp only [decide_eq_true_eq, decide_eq_false_iff_not, beq_iff_eq, bne_iff_ne, beq_eq_false_iff_ne, bne_eq_false_iff_eq, Int.not_lt, Int.not_le, Bool.not_eq_true', Bool.not_eq_false'] at hb)))) | ((with_reducible refine And.intro ?_ ?_); (focus omega)) | (simp only [doneH]; simp only [ressK, resK, wrapR, go_sem, Nat.reduceAdd, Nat.reduceMul, Nat.reduceEqDiff, Nat.reduceLT, reduceIte, reduceCtorEq, hA, a1, a2, Nat.add_eq_left, Nat.left_eq_add, Nat.add_assoc, Nat.reduceAdd, if_false, if_true]) | (exfalso; omega) | fail)
    rw [upd2, ey]
    exact hQ

/-- The facts of a table of truths, row by row. -/
def knRow (r : Nat → Nat → Bool) (i : Nat) : Nat → List (Int × Int)
  | 0 => []
  | j + 1 => if r i j then knRow r i j ++ [((i : Int), (j : Int))] else knRow r i j
def knTo (r : Nat → Nat → Bool) (d : Nat) : Nat → List (Int × Int)
  | 0 => []
  | i + 1 => knTo r d i ++ knRow r i d
theorem knRow_len {r : Nat → Nat → Bool} {i : Nat} : ∀ j, (knRow r i j).length ≤ j
  | 0 => Nat.le_refl _
  | j + 1 => by have := knRow_len (r := r) (i := i) j; rw [knRow]; split <;> (first | omega | (simp only [List.length_append, List.length_cons, List.length_nil]; omega))
theorem knTo_len {r : Nat → Nat → Bool} {d : Nat} : ∀ i, (knTo r d i).length ≤ i * d
  | 0 => Nat.zero_le _
  | i + 1 => by have := knTo_len (r := r) (d := d) i; have := knRow_len (r := r) (i := i) d; rw [knTo, List.length_append, Nat.succ_mul]; omega
theorem kn25 {r : Nat → Nat → Bool} {d i j : Nat} (hd : d ≤ 5) (hi : i ≤ d) (hj : j ≤ d) : (knTo r d i ++ knRow r i j).length ≤ 30 := by
  have h1 := knTo_len (r := r) (d := d) i
  have h2 := knRow_len (r := r) (i := i) j
  have h3 : i * d ≤ 5 * 5 := Nat.mul_le_mul (by omega) hd
  rw [List.length_append]; omega
theorem MatOf.up {H G : Hp} {N M O X : Nat} {f : Nat → Nat} {n k : Nat} {r : Nat → Nat → Bool} (h : MatOf H N O f n k r) (hm : N ≤ M) (hX : X ≠ O) (hf : ∀ i, i < k → f i ≠ X) (g : ∀ u, u < N → u ≠ X → G u = H u) : MatOf G M O f n k r :=
  ⟨by rw [g O h.outn (Ne.symm hX)]; exact h.out, Nat.lt_of_lt_of_le h.outn hm, fun i hi => by rw [g _ (h.lt i hi).1 (hf i hi)]; exact h.row i hi, fun i hi => ⟨Nat.lt_of_lt_of_le (h.lt i hi).1 hm, (h.lt i hi).2⟩, h.inj⟩
structure KS (h : Hp) (n d O : Nat) (f : Nat → Nat) (r : Nat → Nat → Bool) (l : List (Int × Int)) (H : Hp) (N K : Nat) : Prop where
  fr : ∀ u, u < n → H u = h u
  mat : MatOf H N O f d d r
  row : H K = some ⟨true, .ints .i64 (flF l)⟩
  k : n ≤ K ∧ K < N
  ko : K ≠ O
  kf : ∀ i, i < d → f i ≠ K
theorem KS.put {h : Hp} {n d O : Nat} {f : Nat → Nat} {r : Nat → Nat → Bool} {l l2 : List (Int × Int)} {H G : Hp} {N K M K2 : Nat} (b : KS h n d O f r l H N K) (hm : N ≤ M) (hK : N ≤ K2 ∧ K2 < M) (g : ∀ u, u < N → u ≠ K → G u = H u) (gk : G K2 = some ⟨true, .ints .i64 (flF l2)⟩) : KS h n d O f r l2 G M K2 :=
  ⟨fun u hu => by have := b.k; rw [g u (by omega) (by omega)]; exact b.fr u hu, b.mat.up hm b.ko b.kf g, gk, by have := b.k; omega, by have := b.mat.outn; omega, fun i hi => by have := (b.mat.lt i hi).1; omega⟩


theorem specknown_sat : SatH Try.prog 32 (fun al h n K => ∃ (d A : Nat) (b : Bool) (fs : List (Int × Int)), al = [.val (.int .i64 (d)), .sl A 0 fs.length 2 none] ∧ (h A = some ⟨b, .ints .i64 (flF fs)⟩) ∧ (d ≤ 5) ∧ (fs.length ≤ 1000) ∧ (itemsIn d fs) ∧ ∀ (H : Hp) (N O : Nat), H O = some ⟨true, .ints .i64 (flF (knTo (fun i j => wT fs d i j) d d))⟩ → (∀ u, u < n → H u = h u) → n ≤ O ∧ O < N → K (.sl O 0 (knTo (fun i j => wT fs d i j) d d).length 2 none) (H) (N)) := by
  refine satH_intro tabOk Try.func32 rfl 37 rfl [.tmp 4] rfl ?_
  rintro F W h n al K0 ⟨d, A, b, fs, rfl, hA, hd, hl, hi, hQ⟩
  refine ⟨Nat.le_of_ble_eq_true rfl, fun m0 hm0 hcl hlt => ?_⟩
  simp only [initT]
  have hAn := (hcl A _ hA).1
  have hfl := flF_len fs
  have a1 : (A = n) = False := eq_false (by omega)
  have a2 : (n = A) = False := eq_false (by omega)


  repeat' (first | refine awp_seq_k fun K hK => ?_ | ((with_reducible refine hK _ ?_); clear hK K) | ((with_reducible refine aord_plain fun K hK => ?_); simp only [go_sem, Nat.reduceAdd, Nat.reduceMul, Nat.reduceEqDiff, Nat.reduceLT, reduceIte, reduceCtorEq, hA, a1, a2, Nat.add_eq_left, Nat.left_eq_add, Nat.add_assoc, Nat.reduceAdd, if_false, if_true, hA, a1, a2]) | ((first | with_reducible refine aord_nil ?_ | refine awp_skip ?_ | refine awp_exit ?_ | refine awp_ret ?_); try simp only [thenA_normal, thenA_exit, thenA_goto, thenA_ret, blockA_normal, blockA_same, blockA_exit, blockA_goto, blockA_ret, Nat.reduceEqDiff, if_false, if_true, reduceIte]) | (refine awp_region tabOk rfl ?_; simp only [prep, pickO, List.map_cons, List.map_nil, List.getElem?_toArray, List.getElem?_cons_succ, List.getElem?_cons_zero, Option.bind_some, Option.map_some]) | fail)
  refine ⟨_, _, ⟨rfl, rfl⟩, Nat.le_of_ble_eq_true rfl, ?_⟩
  dsimp only
  repeat' (first | refine awp_seq_k fun K hK => ?_ | ((with_reducible refine hK _ ?_); clear hK K) | ((with_reducible refine aord_plain fun K hK => ?_); simp only [go_sem, Nat.reduceAdd, Nat.reduceMul, Nat.reduceEqDiff, Nat.reduceLT, reduceIte, reduceCtorEq, hA, a1, a2, Nat.add_eq_left, Nat.left_eq_add, Nat.add_assoc, Nat.reduceAdd, if_false, if_true, hA, a1, a2]) | ((first | with_reducible refine aord_nil ?_ | refine awp_skip ?_ | refine awp_exit ?_ | refine awp_ret ?_); try simp only [thenA_normal, thenA_exit, thenA_goto, thenA_ret, blockA_normal, blockA_same, blockA_exit, blockA_goto, blockA_ret, Nat.reduceEqDiff, if_false, if_true, reduceIte]) | (refine awp_region tabOk rfl ?_; simp only [prep, pickO, List.map_cons, List.map_nil, List.getElem?_toArray, List.getElem?_cons_succ, List.getElem?_cons_zero, Option.bind_some, Option.map_some]) | ((with_reducible refine And.intro (?_ : enters Try.prog 38) ?_); (focus exact Try.call38); (refine callX_satH specReach_sat ?_); simp only [go_sem, and_assoc, List.nil_append, List.append_nil, List.cons_append, Nat.reduceEqDiff, reduceIte, reduceCtorEq, hA, a1, a2, Nat.add_eq_left, Nat.left_eq_add, Nat.add_assoc, Nat.reduceAdd, if_false, if_true, hA, a1, a2]) | fail)
  refine ⟨d, rfl, b, fs, rfl, rfl, rfl, hd, hl, hi, fun H N O f hM hfr hnN hnO => ?_⟩
  have HA : H A = some ⟨b, .ints .i64 (flF fs)⟩ := (hfr A (by omega)).trans (by rw [if_neg (by omega)]; exact hA)
  have Hn : H n = some ⟨true, .ints .i64 []⟩ := (hfr n (by omega)).trans (if_pos rfl)
  have hKS : KS h n d O f (fun i j => wT fs d i j) [] H N n := ⟨fun u hu => by rw [hfr u (by omega), if_neg (by omega)], hM, Hn, by omega, by omega, fun i hi e => by have h1 := hM.row i hi; rw [e, Hn] at h1; cases h1⟩
  clear hfr Hn hM HA
  generalize (fun i j => wT fs d i j) = r at hKS hQ


  repeat' (first | refine awp_seq_k fun K hK => ?_ | ((with_reducible refine hK _ ?_); clear hK K) | ((with_reducible refine aord_plain fun K hK => ?_); simp only [go_sem, Nat.reduceAdd, Nat.reduceMul, Nat.reduceEqDiff, Nat.reduceLT, reduceIte, reduceCtorEq]) | refine awp_block ?_ | ((first | with_reducible refine aord_nil ?_ | refine awp_skip ?_ | refine awp_exit ?_ | refine awp_ret ?_); try simp only [thenA_normal, thenA_exit, thenA_goto, thenA_ret, blockA_normal, blockA_same, blockA_exit, blockA_goto, blockA_ret, Nat.reduceEqDiff, if_false, if_true, reduceIte]) | (refine awp_region tabOk rfl ?_; simp only [prep, pickO, List.map_cons, List.map_nil, List.getElem?_toArray, List.getElem?_cons_succ, List.getElem?_cons_zero, Option.bind_some, Option.map_some]) | fail)
  refine awp_loop (fun p : Hp × Nat × Nat × Nat => ⟨upd (upd (upd (upd bot 7 (.val (.int .i64 p.2.2.2))) 6 (.sl O 0 d 1 none)) 5 (.sl p.2.2.1 0 (knTo r d p.2.2.2).length 2 none)) 0 (.val (.int .i64 d)), p.1, p.2.1⟩) (fun p => p.2.2.2 ≤ d ∧ KS h n d O f r (knTo r d p.2.2.2) p.1 p.2.1 p.2.2.1) (fun p => d - p.2.2.2) (H, N, n, 0) ⟨Nat.zero_le _, hKS⟩ ?_ ?_
  · exact Wk.sub (tsd (tsd (tsd (tsd tsd0 rfl) rfl) rfl) rfl) (fun _ _ h => h) rfl
  clear hKS hnN hnO
  rintro ⟨H, N, X, i⟩ ⟨hid, hS⟩
  dsimp only at hid hS ⊢
  rcases Nat.lt_or_ge i d with hlt | hge
  · skip


    repeat' (first | refine awp_seq_k fun K hK => ?_ | ((with_reducible refine hK _ ?_); clear hK K) | (clear hK K; (with_reducible refine hK _ ?_); clear hK K) | ((with_reducible refine aord_plain fun K hK => ?_); simp only [go_sem, Nat.reduceAdd, Nat.reduceMul, Nat.reduceEqDiff, Nat.reduceLT, reduceIte, reduceCtorEq]) | refine awp_block ?_ | ((first | with_reducible refine aord_nil ?_ | refine awp_skip ?_ | refine awp_exit ?_ | refine awp_ret ?_); try simp only [thenA_normal, thenA_exit, thenA_goto, thenA_ret, blockA_normal, blockA_same, blockA_exit, blockA_goto, blockA_ret, Nat.reduceEqDiff, if_false, if_true, reduceIte]) | (refine awp_region tabOk rfl ?_; simp only [prep, pickO, List.map_cons, List.map_nil, List.getElem?_toArray, List.getElem?_cons_succ, List.getElem?_cons_zero, Option.bind_some, Option.map_some]) | ((with_reducible apply awp_cond); (focus (simp only [St.ev, St.set, upd, Nat.reduceEqDiff, reduceIte, if_false, if_true]; exact rfl)); all_goals (intro hb; first | (cases hb; done) | ((try rw [hb]); (try simp only [decide_eq_true_eq, decide_eq_false_iff_not, beq_iff_eq, bne_iff_ne, beq_eq_false_iff_ne, bne_eq_false_iff_eq, Int.not_lt, Int.not_le, Bool.not_eq_true', Bool.not_eq_false'] at hb)))) | (simp only [doneH]; simp only [ressK, resK, wrapR, go_sem, Nat.reduceAdd, Nat.reduceMul, Nat.reduceEqDiff, Nat.reduceLT, reduceIte, reduceCtorEq]) | (exfalso; omega) | fail)
    refine awp_loop (fun p : Hp × Nat × Nat × Nat => ⟨upd (upd (upd (upd (upd bot 8 (.val (.int .i64 p.2.2.2))) 7 (.val (.int .i64 i))) 6 (.sl O 0 d 1 none)) 5 (.sl p.2.2.1 0 (knTo r d i ++ knRow r i p.2.2.2).length 2 none)) 0 (.val (.int .i64 d)), p.1, p.2.1⟩) (fun p => p.2.2.2 ≤ d ∧ KS h n d O f r (knTo r d i ++ knRow r i p.2.2.2) p.1 p.2.1 p.2.2.1) (fun p => d - p.2.2.2) (H, N, X, 0) ⟨Nat.zero_le _, by dsimp only [knRow]; rw [List.append_nil]; exact hS⟩ ?_ ?_
    · exact Wk.sub (tsd (tsd (tsd (tsd (tsd tsd0 rfl) rfl) rfl) (by dsimp only [knRow]; rw [List.append_nil]; rfl)) rfl) (fun _ _ h => h) rfl
    clear hS
    rintro ⟨H, N, X, j⟩ ⟨hjd, hS⟩
    dsimp only at hjd hS ⊢
    have hO := hS.mat.out
    have hOn := hS.mat.outn
    have hXr := hS.row
    have hXn := hS.k
    have hlen := kn25 (r := r) (i := i) (j := j) hd hid hjd
    rcases Nat.lt_or_ge j d with hlt2 | hge2
    · have hml : (mCell f d d).length = d := mCell_len
      have hc := mCell_get (f := f) (n := d) hlt
      have hrow := hS.mat.row i hlt
      have hrl : (mRow d (r i)).length = d := mRow_len
      have hget : (mRow d (r i)).getD j false = r i j := mRow_get hlt2
      have hfl2 := flF_len (knTo r d i ++ knRow r i j)
      generalize hLL : knTo r d i ++ knRow r i j = L at *
      cases hw : r i j with
      | true =>
        have hk1 : knRow r i (j + 1) = knRow r i j ++ [((i : Int), (j : Int))] := by rw [knRow, if_pos hw]
        have m1 : (X = N) = False := eq_false (by omega)
        have m2 : (N = X) = False := eq_false (by omega)


        repeat' (first | refine awp_seq_k fun K hK => ?_ | ((with_reducible refine hK _ ?_); clear hK K) | (clear hK K; (with_reducible refine hK _ ?_); clear hK K) | ((with_reducible refine aord_plain fun K hK => ?_); simp only [go_sem, Nat.reduceAdd, Nat.reduceMul, Nat.reduceEqDiff, Nat.reduceLT, reduceIte, reduceCtorEq, hO, hml, hc, hrow, hrl, hget, hw, hXr, m1, m2, Nat.add_eq_left, Nat.left_eq_add, Nat.add_assoc, Nat.reduceAdd, if_false, if_true, hO, hml, hc, hrow, hrl, hget, hw, hXr, m1, m2]) | refine awp_block ?_ | ((first | with_reducible refine aord_nil ?_ | refine awp_skip ?_ | refine awp_exit ?_ | refine awp_ret ?_); try simp only [thenA_normal, thenA_exit, thenA_goto, thenA_ret, blockA_normal, blockA_same, blockA_exit, blockA_goto, blockA_ret, Nat.reduceEqDiff, if_false, if_true, reduceIte]) | (refine awp_region tabOk rfl ?_; simp only [prep, pickO, List.map_cons, List.map_nil, List.getElem?_toArray, List.getElem?_cons_succ, List.getElem?_cons_zero, Option.bind_some, Option.map_some]) | ((with_reducible apply awp_cond); (focus (simp only [St.ev, St.set, upd, Nat.reduceEqDiff, reduceIte, if_false, if_true, hO, hml, hc, hrow, hrl, hget, hw, hXr, m1, m2, Nat.add_eq_left, Nat.left_eq_add, Nat.add_assoc, Nat.reduceAdd, if_false, if_true]; exact rfl)); all_goals (intro hb; first | (cases hb; done) | ((try rw [hb]); (try simp only [decide_eq_true_eq, decide_eq_false_iff_not, beq_iff_eq, bne_iff_ne, beq_eq_false_iff_ne, bne_eq_false_iff_eq, Int.not_lt, Int.not_le, Bool.not_eq_true', Bool.not_eq_false'] at hb)))) | ((with_reducible refine And.intro ?_ ?_); (focus omega)) | (simp only [rBuild]; simp only [fillA, Nat.reduceLeDiff, List.getElem?_cons_zero, List.getElem?_cons_succ, List.drop_succ_cons, List.drop_nil, List.take_nil, List.cons_append, Option.isSome_some, go_sem, Nat.reduceAdd, Nat.reduceMul, Nat.reduceEqDiff, Nat.reduceLT, reduceIte, reduceCtorEq, hO, hml, hc, hrow, hrl, hget, hw, hXr, m1, m2, Nat.add_eq_left, Nat.left_eq_add, Nat.add_assoc, Nat.reduceAdd, if_false, if_true]) | (exfalso; omega) | fail)
        refine ⟨_, _, ⟨rfl, rfl⟩, Nat.le_of_ble_eq_true rfl, ?_⟩
        (try dsimp only)
        repeat' (first | ((with_reducible refine hK _ ?_); clear hK K) | ((with_reducible refine aord_plain fun K hK => ?_); simp only [go_sem, Nat.reduceAdd, Nat.reduceMul, Nat.reduceEqDiff, Nat.reduceLT, reduceIte, reduceCtorEq, hO, hml, hc, hrow, hrl, hget, hw, hXr, m1, m2, Nat.add_eq_left, Nat.left_eq_add, Nat.add_assoc, Nat.reduceAdd, if_false, if_true, hO, hml, hc, hrow, hrl, hget, hw, hXr, m1, m2]) | fail)
        refine aAppendE_ints rfl rfl rfl rfl (Nat.le_of_ble_eq_true rfl) (by decide) (by decide) (by (try dsimp only); (repeat (first | rw [upd_same] | rw [upd_ne _ _ (by omega)]))) (by (try dsimp only); (repeat (first | rw [upd_same] | rw [upd_ne _ _ (by omega)])); exact hXr) hfl2 rfl (by decide) (by omega) ?_
        repeat' (first | ((with_reducible refine hK _ ?_); clear hK K) | ((with_reducible refine aord_plain fun K hK => ?_); simp only [go_sem, Nat.reduceAdd, Nat.reduceMul, Nat.reduceEqDiff, Nat.reduceLT, reduceIte, reduceCtorEq, hO, hml, hc, hrow, hrl, hget, hw, hXr, m1, m2, Nat.add_eq_left, Nat.left_eq_add, Nat.add_assoc, Nat.reduceAdd, if_false, if_true, hO, hml, hc, hrow, hrl, hget, hw, hXr, m1, m2]) | ((first | with_reducible refine aord_nil ?_ | refine awp_skip ?_ | refine awp_exit ?_ | refine awp_ret ?_); try simp only [thenA_normal, thenA_exit, thenA_goto, thenA_ret, blockA_normal, blockA_same, blockA_exit, blockA_goto, blockA_ret, Nat.reduceEqDiff, if_false, if_true, reduceIte]) | (refine awp_region tabOk rfl ?_; simp only [prep, pickO, List.map_cons, List.map_nil, List.getElem?_toArray, List.getElem?_cons_succ, List.getElem?_cons_zero, Option.bind_some, Option.map_some]) | ((with_reducible refine And.intro ?_ ?_); (focus omega)) | fail)
        have e2 : flF (L ++ [((i : Int), (j : Int))]) = flF L ++ [(i : Int), (j : Int)] := by rw [flF_app]; rfl
        have e3 : (L ++ [((i : Int), (j : Int))]).length = L.length + 1 := by rw [List.length_append]; rfl
        refine ⟨(upd (upd (upd H N (some ⟨true, .ints .i64 [(i : Int), (j : Int)]⟩)) X none) (N + 1) (some ⟨true, .ints .i64 (flF L ++ [(i : Int), (j : Int)])⟩), N + 2, N + 1, j + 1), ⟨by dsimp only; omega, ?_⟩, by dsimp only; omega, Wk.sub (tsd (tsd (tsd (tsd (tsd tsd0 rfl) rfl) rfl) (by dsimp only; rw [hk1, ← List.append_assoc, hLL, e3]; rfl)) rfl) (fun _ _ h => h) rfl⟩
        dsimp only
        rw [hk1, ← List.append_assoc, hLL]
        exact hS.put (by omega) (by omega) (fun u h1 h2 => by rw [upd_ne _ _ (by omega), upd_ne _ _ h2, upd_ne _ _ (by omega)]) (by rw [upd_same, e2])
      | false =>
        have hk1 : knRow r i (j + 1) = knRow r i j := by rw [knRow, if_neg (by rw [hw]; simp)]


        repeat' (first | refine awp_seq_k fun K hK => ?_ | ((with_reducible refine hK _ ?_); clear hK K) | (clear hK K; (with_reducible refine hK _ ?_); clear hK K) | ((with_reducible refine aord_plain fun K hK => ?_); simp only [go_sem, Nat.reduceAdd, Nat.reduceMul, Nat.reduceEqDiff, Nat.reduceLT, reduceIte, reduceCtorEq, hO, hml, hc, hrow, hrl, hget, hw, Nat.add_eq_left, Nat.left_eq_add, Nat.add_assoc, Nat.reduceAdd, if_false, if_true, hO, hml, hc, hrow, hrl, hget, hw]) | refine awp_block ?_ | ((first | with_reducible refine aord_nil ?_ | refine awp_skip ?_ | refine awp_exit ?_ | refine awp_ret ?_); try simp only [thenA_normal, thenA_exit, thenA_goto, thenA_ret, blockA_normal, blockA_same, blockA_exit, blockA_goto, blockA_ret, Nat.reduceEqDiff, if_false, if_true, reduceIte]) | (refine awp_region tabOk rfl ?_; simp only [prep, pickO, List.map_cons, List.map_nil, List.getElem?_toArray, List.getElem?_cons_succ, List.getElem?_cons_zero, Option.bind_some, Option.map_some]) | ((with_reducible apply awp_cond); (focus (simp only [St.ev, St.set, upd, Nat.reduceEqDiff, reduceIte, if_false, if_true, hO, hml, hc, hrow, hrl, hget, hw, Nat.add_eq_left, Nat.left_eq_add, Nat.add_assoc, Nat.reduceAdd, if_false, if_true]; exact rfl)); all_goals (intro hb; first | (cases hb; done) | ((try rw [hb]); (try simp only [decide_eq_true_eq, decide_eq_false_iff_not, beq_iff_eq, bne_iff_ne, beq_eq_false_iff_ne, bne_eq_false_iff_eq, Int.not_lt, Int.not_le, Bool.not_eq_true', Bool.not_eq_false'] at hb)))) | ((with_reducible refine And.intro ?_ ?_); (focus omega)) | (exfalso; omega) | fail)
        refine ⟨(H, N, X, j + 1), ⟨by dsimp only; omega, by dsimp only; rw [hk1, hLL]; exact hS⟩, by dsimp only; omega, Wk.sub (tsd (tsd (tsd (tsd (tsd tsd0 rfl) rfl) rfl) (by dsimp only; rw [hk1, hLL]; rfl)) rfl) (fun _ _ h => h) rfl⟩
    · skip
      have ej : j = d := by omega
      subst ej
      generalize hLL : knTo r j i ++ knRow r i j = L at *


      repeat' (first | refine awp_seq_k fun K hK => ?_ | ((with_reducible refine hK _ ?_); clear hK K) | (clear hK K; (with_reducible refine hK _ ?_); clear hK K) | ((with_reducible refine aord_plain fun K hK => ?_); simp only [go_sem, Nat.reduceAdd, Nat.reduceMul, Nat.reduceEqDiff, Nat.reduceLT, reduceIte, reduceCtorEq]) | refine awp_block ?_ | ((first | with_reducible refine aord_nil ?_ | refine awp_skip ?_ | refine awp_exit ?_ | refine awp_ret ?_); try simp only [thenA_normal, thenA_exit, thenA_goto, thenA_ret, blockA_normal, blockA_same, blockA_exit, blockA_goto, blockA_ret, Nat.reduceEqDiff, if_false, if_true, reduceIte]) | (refine awp_region tabOk rfl ?_; simp only [prep, pickO, List.map_cons, List.map_nil, List.getElem?_toArray, List.getElem?_cons_succ, List.getElem?_cons_zero, Option.bind_some, Option.map_some]) | ((with_reducible apply awp_cond); (focus (simp only [St.ev, St.set, upd, Nat.reduceEqDiff, reduceIte, if_false, if_true]; exact rfl)); all_goals (intro hb; first | (cases hb; done) | ((try rw [hb]); (try simp only [decide_eq_true_eq, decide_eq_false_iff_not, beq_iff_eq, bne_iff_ne, beq_eq_false_iff_ne, bne_eq_false_iff_eq, Int.not_lt, Int.not_le, Bool.not_eq_true', Bool.not_eq_false'] at hb)))) | ((with_reducible refine And.intro ?_ ?_); (focus omega)) | (exfalso; omega) | fail)
      refine ⟨(H, N, X, i + 1), ⟨by dsimp only; omega, by dsimp only [knTo]; rw [hLL]; exact hS⟩, by dsimp only; omega, Wk.sub (tsd (tsd (tsd (tsd tsd0 rfl) rfl) (by dsimp only [knTo]; rw [hLL]; rfl)) rfl) (fun _ _ h => h) rfl⟩
  · skip
    have ei : i = d := by omega
    subst ei


    repeat' (first | refine awp_seq_k fun K hK => ?_ | ((with_reducible refine hK _ ?_); clear hK K) | (clear hK K; (with_reducible refine hK _ ?_); clear hK K) | ((with_reducible refine aord_plain fun K hK => ?_); simp only [go_sem, Nat.reduceAdd, Nat.reduceMul, Nat.reduceEqDiff, Nat.reduceLT, reduceIte, reduceCtorEq]) | refine awp_block ?_ | ((first | with_reducible refine aord_nil ?_ | refine awp_skip ?_ | refine awp_exit ?_ | refine awp_ret ?_); try simp only [thenA_normal, thenA_exit, thenA_goto, thenA_ret, blockA_normal, blockA_same, blockA_exit, blockA_goto, blockA_ret, Nat.reduceEqDiff, if_false, if_true, reduceIte]) | (refine awp_region tabOk rfl ?_; simp only [prep, pickO, List.map_cons, List.map_nil, List.getElem?_toArray, List.getElem?_cons_succ, List.getElem?_cons_zero, Option.bind_some, Option.map_some]) | ((with_reducible apply awp_cond); (focus (simp only [St.ev, St.set, upd, Nat.reduceEqDiff, reduceIte, if_false, if_true]; exact rfl)); all_goals (intro hb; first | (cases hb; done) | ((try rw [hb]); (try simp only [decide_eq_true_eq, decide_eq_false_iff_not, beq_iff_eq, bne_iff_ne, beq_eq_false_iff_ne, bne_eq_false_iff_eq, Int.not_lt, Int.not_le, Bool.not_eq_true', Bool.not_eq_false'] at hb)))) | (simp only [doneH]; simp only [ressK, resK, wrapR, go_sem, Nat.reduceAdd, Nat.reduceMul, Nat.reduceEqDiff, Nat.reduceLT, reduceIte, reduceCtorEq]) | (exfalso; omega) | fail)
    exact hQ H N X hS.row hS.fr hS.k

/-- KnownOf's answer. -/
noncomputable def knO (z : Int) (fs : List (Int × Int)) : List (Int × Int) := by classical exact if VF z fs then knTo (fun i j => wT fs z.toNat i j) z.toNat z.toNat else []
theorem knO_yes {d : Nat} {fs : List (Int × Int)} (h : VF d fs) : knO d fs = knTo (fun i j => wT fs d i j) d d := by
  unfold knO; rw [if_pos h]; rfl
theorem knO_no {z : Int} {fs : List (Int × Int)} (h : ¬ VF z fs) : knO z fs = [] := by
  unfold knO; rw [if_neg h]
theorem knO_len (z : Int) (fs : List (Int × Int)) : (knO z fs).length ≤ 30 := by
  by_cases h : VF z fs
  · obtain ⟨d, rfl⟩ : ∃ d : Nat, z = d := ⟨z.toNat, by have := h.1; omega⟩
    rw [knO_yes h]
    have h1 := h.1
    have := kn25 (r := fun i j => wT fs d i j) (d := d) (i := d) (j := 0) (by omega) (Nat.le_refl _) (Nat.zero_le _)
    rw [show knRow (fun i j => wT fs d i j) d 0 = [] from rfl, List.append_nil] at this
    exact this
  · rw [knO_no h]; simp


theorem specKnownOf_sat : SatH Try.prog 14 (fun al h n K => ∃ (z : Int) (A : Nat) (b : Bool) (fs : List (Int × Int)), al = [.val (.int .i64 (z)), .sl A 0 fs.length 2 none] ∧ (h A = some ⟨b, .ints .i64 (flF fs)⟩) ∧ (fs.length ≤ 1099511627776) ∧ ∀ (H : Hp) (N O : Nat), H O = some ⟨true, .ints .i64 (flF (knO z fs))⟩ → (∀ u, u < n → H u = h u) → n ≤ O ∧ O < N → K (.sl O 0 (knO z fs).length 2 none) (H) (N)) := by
  refine satH_intro tabOk Try.func14 rfl 12 rfl [.tmp 4] rfl ?_
  rintro F W h n al K0 ⟨z, A, b, fs, rfl, hA, hl, hQ⟩
  refine ⟨Nat.le_of_ble_eq_true rfl, fun m0 hm0 hcl hlt => ?_⟩
  simp only [initT]
  have hAn := (hcl A _ hA).1


  repeat' ((fail_if_success (with_reducible refine isRetQ ?_)); (first | refine awp_seq_k fun K hK => ?_ | ((with_reducible refine hK _ ?_); clear hK K) | ((with_reducible refine aord_plain fun K hK => ?_); simp only [go_sem, Nat.reduceAdd, Nat.reduceMul, Nat.reduceEqDiff, Nat.reduceLT, reduceIte, reduceCtorEq, hA, Nat.add_eq_left, Nat.left_eq_add, Nat.add_assoc, Nat.reduceAdd, if_false, if_true, hA]) | ((first | with_reducible refine aord_nil ?_ | refine awp_skip ?_ | refine awp_exit ?_ | refine awp_ret ?_); try simp only [thenA_normal, thenA_exit, thenA_goto, thenA_ret, blockA_normal, blockA_same, blockA_exit, blockA_goto, blockA_ret, Nat.reduceEqDiff, if_false, if_true, reduceIte]) | (refine awp_region tabOk rfl ?_; simp only [prep, pickO, List.map_cons, List.map_nil, List.getElem?_toArray, List.getElem?_cons_succ, List.getElem?_cons_zero, Option.bind_some, Option.map_some]) | ((with_reducible refine And.intro (?_ : enters Try.prog 24) ?_); (focus exact Try.call24); (refine callX_satH specvalidFacts_sat ?_); simp only [go_sem, and_assoc, List.nil_append, List.append_nil, List.cons_append, Nat.reduceEqDiff, reduceIte, reduceCtorEq, hA, Nat.add_eq_left, Nat.left_eq_add, Nat.add_assoc, Nat.reduceAdd, if_false, if_true, hA]) | fail))
  refine ⟨b, fs, rfl, rfl, rfl, hl, fun v N hv hN => ?_⟩
  cases v with
  | false =>
    have e0 : knO z fs = [] := knO_no (fun h => by have := hv.2 h; cases this)
    rw [e0] at hQ


    repeat' ((fail_if_success (with_reducible refine isRetQ ?_)); (first | refine awp_seq_k fun K hK => ?_ | ((with_reducible refine hK _ ?_); clear hK K) | ((with_reducible refine aord_plain fun K hK => ?_); simp only [go_sem, Nat.reduceAdd, Nat.reduceMul, Nat.reduceEqDiff, Nat.reduceLT, reduceIte, reduceCtorEq, hA, Nat.add_eq_left, Nat.left_eq_add, Nat.add_assoc, Nat.reduceAdd, if_false, if_true, hA]) | ((first | with_reducible refine aord_nil ?_ | refine awp_skip ?_ | refine awp_exit ?_ | refine awp_ret ?_); try simp only [thenA_normal, thenA_exit, thenA_goto, thenA_ret, blockA_normal, blockA_same, blockA_exit, blockA_goto, blockA_ret, Nat.reduceEqDiff, if_false, if_true, reduceIte]) | (refine awp_region tabOk rfl ?_; simp only [prep, pickO, List.map_cons, List.map_nil, List.getElem?_toArray, List.getElem?_cons_succ, List.getElem?_cons_zero, Option.bind_some, Option.map_some]) | ((with_reducible apply awp_cond); (focus (simp only [St.ev, St.set, upd, Nat.reduceEqDiff, reduceIte, if_false, if_true, hA, Nat.add_eq_left, Nat.left_eq_add, Nat.add_assoc, Nat.reduceAdd, if_false, if_true]; exact rfl)); all_goals (intro hb; first | (cases hb; done) | ((try rw [hb]); (try simp only [decide_eq_true_eq, decide_eq_false_iff_not, beq_iff_eq, bne_iff_ne, beq_eq_false_iff_ne, bne_eq_false_iff_eq, Int.not_lt, Int.not_le, Bool.not_eq_true', Bool.not_eq_false'] at hb)))) | fail))
    refine awp_nilE 2 4 (.ints .i64 []) rfl rfl (by simp only [St.ev, St.set, upd, Nat.reduceEqDiff, reduceIte, if_false, if_true]) ?_
    simp only [St.ev, St.set, upd, Nat.reduceEqDiff, reduceIte, if_false, if_true]
    repeat' (first | ((first | with_reducible refine aord_nil ?_ | refine awp_skip ?_ | refine awp_exit ?_ | refine awp_ret ?_); try simp only [thenA_normal, thenA_exit, thenA_goto, thenA_ret, blockA_normal, blockA_same, blockA_exit, blockA_goto, blockA_ret, Nat.reduceEqDiff, if_false, if_true, reduceIte]) | (simp only [doneH]; simp only [ressK, resK, wrapR, go_sem, Nat.reduceAdd, Nat.reduceMul, Nat.reduceEqDiff, Nat.reduceLT, reduceIte, reduceCtorEq, hA, Nat.add_eq_left, Nat.left_eq_add, Nat.add_assoc, Nat.reduceAdd, if_false, if_true]) | fail)
    exact hQ _ (N + 1) N (upd_same _ _ _) (fun u hu => upd_ne _ _ (by omega)) (by omega)
  | true =>
    have hV := hv.1 rfl
    obtain ⟨d, rfl⟩ : ∃ d : Nat, z = d := ⟨z.toNat, by have := hV.1; omega⟩
    rw [knO_yes hV] at hQ


    repeat' (first | refine awp_seq_k fun K hK => ?_ | ((with_reducible refine hK _ ?_); clear hK K) | ((with_reducible refine aord_plain fun K hK => ?_); simp only [go_sem, Nat.reduceAdd, Nat.reduceMul, Nat.reduceEqDiff, Nat.reduceLT, reduceIte, reduceCtorEq, hA, Nat.add_eq_left, Nat.left_eq_add, Nat.add_assoc, Nat.reduceAdd, if_false, if_true, hA]) | ((first | with_reducible refine aord_nil ?_ | refine awp_skip ?_ | refine awp_exit ?_ | refine awp_ret ?_); try simp only [thenA_normal, thenA_exit, thenA_goto, thenA_ret, blockA_normal, blockA_same, blockA_exit, blockA_goto, blockA_ret, Nat.reduceEqDiff, if_false, if_true, reduceIte]) | (refine awp_region tabOk rfl ?_; simp only [prep, pickO, List.map_cons, List.map_nil, List.getElem?_toArray, List.getElem?_cons_succ, List.getElem?_cons_zero, Option.bind_some, Option.map_some]) | ((with_reducible apply awp_cond); (focus (simp only [St.ev, St.set, upd, Nat.reduceEqDiff, reduceIte, if_false, if_true, hA, Nat.add_eq_left, Nat.left_eq_add, Nat.add_assoc, Nat.reduceAdd, if_false, if_true]; exact rfl)); all_goals (intro hb; first | (cases hb; done) | ((try rw [hb]); (try simp only [decide_eq_true_eq, decide_eq_false_iff_not, beq_iff_eq, bne_iff_ne, beq_eq_false_iff_ne, bne_eq_false_iff_eq, Int.not_lt, Int.not_le, Bool.not_eq_true', Bool.not_eq_false'] at hb)))) | ((with_reducible refine And.intro (?_ : enters Try.prog 32) ?_); (focus exact Try.call32); (refine callX_satH specknown_sat ?_); simp only [go_sem, and_assoc, List.nil_append, List.append_nil, List.cons_append, Nat.reduceEqDiff, reduceIte, reduceCtorEq, hA, Nat.add_eq_left, Nat.left_eq_add, Nat.add_assoc, Nat.reduceAdd, if_false, if_true, hA]) | fail)
    refine ⟨d, rfl, b, fs, rfl, rfl, rfl, by have := hV.1; omega, by have := hV.2.1; omega, by have := hV.2.2.1; rwa [Int.toNat_natCast] at this, fun H N2 O h1 h2 h3 => ?_⟩


    repeat' (first | ((with_reducible refine hK _ ?_); clear hK K) | ((with_reducible refine aord_plain fun K hK => ?_); simp only [go_sem, Nat.reduceAdd, Nat.reduceMul, Nat.reduceEqDiff, Nat.reduceLT, reduceIte, reduceCtorEq, hA, Nat.add_eq_left, Nat.left_eq_add, Nat.add_assoc, Nat.reduceAdd, if_false, if_true, hA]) | ((first | with_reducible refine aord_nil ?_ | refine awp_skip ?_ | refine awp_exit ?_ | refine awp_ret ?_); try simp only [thenA_normal, thenA_exit, thenA_goto, thenA_ret, blockA_normal, blockA_same, blockA_exit, blockA_goto, blockA_ret, Nat.reduceEqDiff, if_false, if_true, reduceIte]) | (simp only [doneH]; simp only [ressK, resK, wrapR, go_sem, Nat.reduceAdd, Nat.reduceMul, Nat.reduceEqDiff, Nat.reduceLT, reduceIte, reduceCtorEq, hA, Nat.add_eq_left, Nat.left_eq_add, Nat.add_assoc, Nat.reduceAdd, if_false, if_true]) | fail)
    exact hQ H N2 O h1 (fun u hu => h2 u (by omega)) (by omega)

/-- In the rounds of KnownOf's collecting: the boxes, the two loops' records, and what has been collected. -/
structure KI (F1 : FuncId) (H : Hp) (M O d : Nat) (kn : List (Int × Int)) (LP LQ : Loop) (l : List (Int × Int)) (G : Hp) (N X : Nat) : Prop where
  fr : ∀ u, u < M → G u = H u
  om : O < M
  mn : M + 9 ≤ N
  xn : X < N ∧ (X = M + 5 ∨ M + 9 ≤ X)
  c0 : G M = some ⟨true, .cells [.sl O 0 kn.length 2 none]⟩
  c1 : G (M + 1) = some ⟨true, .cells [.val (.int .i64 d)]⟩
  c3 : G (M + 3) = some ⟨true, .cells [.clo (.func F1) [] [.ref M 0]]⟩
  c4 : G (M + 4) = some ⟨true, .cells [.sl X 0 l.length 2 none]⟩
  c6 : G (M + 6) = some ⟨true, .raw (.loop LP)⟩
  c7 : G (M + 7) = some ⟨true, .cells [.yl (M + 6)]⟩
  c8 : G (M + 8) = some ⟨true, .raw (.loop LQ)⟩
  ho : G O = some ⟨true, .ints .i64 (flF kn)⟩
  hx : G X = some ⟨true, .ints .i64 (flF l)⟩
theorem KI.facts {F1 : FuncId} {H : Hp} {M O d : Nat} {kn : List (Int × Int)} {LP LQ : Loop} {l : List (Int × Int)} {G : Hp} {N X : Nat} (b : KI F1 H M O d kn LP LQ l G N X) : G M = some ⟨true, .cells [.sl O 0 kn.length 2 none]⟩ ∧ G (M + 1) = some ⟨true, .cells [.val (.int .i64 d)]⟩ ∧ G (M + 3) = some ⟨true, .cells [.clo (.func F1) [] [.ref M 0]]⟩ ∧ G (M + 4) = some ⟨true, .cells [.sl X 0 l.length 2 none]⟩ ∧ G (M + 6) = some ⟨true, .raw (.loop LP)⟩ ∧ G (M + 7) = some ⟨true, .cells [.yl (M + 6)]⟩ ∧ G (M + 8) = some ⟨true, .raw (.loop LQ)⟩ ∧ G O = some ⟨true, .ints .i64 (flF kn)⟩ ∧ G X = some ⟨true, .ints .i64 (flF l)⟩ ∧ (M = X) = False ∧ (X = M) = False ∧ (M + 1 = X) = False ∧ (X = M + 1) = False ∧ (M + 3 = X) = False ∧ (X = M + 3) = False ∧ (M + 4 = X) = False ∧ (X = M + 4) = False ∧ (M + 6 = X) = False ∧ (X = M + 6) = False ∧ (M + 7 = X) = False ∧ (X = M + 7) = False ∧ (M + 8 = X) = False ∧ (X = M + 8) = False ∧ (M = N) = False ∧ (N = M) = False ∧ (∀ k, (M = N + k) = False) ∧ (∀ k, (N + k = M) = False) ∧ (M + 1 = N) = False ∧ (N = M + 1) = False ∧ (∀ k, (M + 1 = N + k) = False) ∧ (∀ k, (N + k = M + 1) = False) ∧ (M + 3 = N) = False ∧ (N = M + 3) = False ∧ (∀ k, (M + 3 = N + k) = False) ∧ (∀ k, (N + k = M + 3) = False) ∧ (M + 4 = N) = False ∧ (N = M + 4) = False ∧ (∀ k, (M + 4 = N + k) = False) ∧ (∀ k, (N + k = M + 4) = False) ∧ (M + 6 = N) = False ∧ (N = M + 6) = False ∧ (∀ k, (M + 6 = N + k) = False) ∧ (∀ k, (N + k = M + 6) = False) ∧ (M + 7 = N) = False ∧ (N = M + 7) = False ∧ (∀ k, (M + 7 = N + k) = False) ∧ (∀ k, (N + k = M + 7) = False) ∧ (M + 8 = N) = False ∧ (N = M + 8) = False ∧ (∀ k, (M + 8 = N + k) = False) ∧ (∀ k, (N + k = M + 8) = False) ∧ (O = N) = False ∧ (N = O) = False ∧ (∀ k, (O = N + k) = False) ∧ (∀ k, (N + k = O) = False) ∧ (X = N) = False ∧ (N = X) = False ∧ (∀ k, (X = N + k) = False) ∧ (∀ k, (N + k = X) = False) ∧ (O = X) = False ∧ (X = O) = False := by
  have h1 := b.om
  have h2 := b.mn
  have h3 := b.xn
  refine ⟨b.c0, b.c1, b.c3, b.c4, b.c6, b.c7, b.c8, b.ho, b.hx, eq_false (by omega), eq_false (by omega), eq_false (by omega), eq_false (by omega), eq_false (by omega), eq_false (by omega), eq_false (by omega), eq_false (by omega), eq_false (by omega), eq_false (by omega), eq_false (by omega), eq_false (by omega), eq_false (by omega), eq_false (by omega), eq_false (by omega), eq_false (by omega), fun k => eq_false (by omega), fun k => eq_false (by omega), eq_false (by omega), eq_false (by omega), fun k => eq_false (by omega), fun k => eq_false (by omega), eq_false (by omega), eq_false (by omega), fun k => eq_false (by omega), fun k => eq_false (by omega), eq_false (by omega), eq_false (by omega), fun k => eq_false (by omega), fun k => eq_false (by omega), eq_false (by omega), eq_false (by omega), fun k => eq_false (by omega), fun k => eq_false (by omega), eq_false (by omega), eq_false (by omega), fun k => eq_false (by omega), fun k => eq_false (by omega), eq_false (by omega), eq_false (by omega), fun k => eq_false (by omega), fun k => eq_false (by omega), eq_false (by omega), eq_false (by omega), fun k => eq_false (by omega), fun k => eq_false (by omega), eq_false (by omega), eq_false (by omega), fun k => eq_false (by omega), fun k => eq_false (by omega), eq_false (by omega), eq_false (by omega)⟩
theorem KI.put {F1 : FuncId} {H : Hp} {M O d : Nat} {kn : List (Int × Int)} {LP LQ : Loop} {l : List (Int × Int)} {G : Hp} {N X : Nat} (b : KI F1 H M O d kn LP LQ l G N X) {l2 : List (Int × Int)} {G2 : Hp} {N2 X2 : Nat} (hx2 : N ≤ X2 ∧ X2 < N2) (g : ∀ u, u < N → u ≠ X → u ≠ M + 4 → G2 u = G u) (g4 : G2 (M + 4) = some ⟨true, .cells [.sl X2 0 l2.length 2 none]⟩) (gx : G2 X2 = some ⟨true, .ints .i64 (flF l2)⟩) : KI F1 H M O d kn LP LQ l2 G2 N2 X2 := by
  have h1 := b.om
  have h2 := b.mn
  have h3 := b.xn
  exact ⟨fun u hu => by rw [g u (by omega) (by omega) (by omega)]; exact b.fr u hu, h1, by omega, by omega, by rw [g _ (by omega) (by omega) (by omega)]; exact b.c0, by rw [g _ (by omega) (by omega) (by omega)]; exact b.c1, by rw [g _ (by omega) (by omega) (by omega)]; exact b.c3, g4, by rw [g _ (by omega) (by omega) (by omega)]; exact b.c6, by rw [g _ (by omega) (by omega) (by omega)]; exact b.c7, by rw [g _ (by omega) (by omega) (by omega)]; exact b.c8, by rw [g _ (by omega) (by omega) (by omega)]; exact b.ho, gx⟩
theorem KI.up {F1 : FuncId} {H : Hp} {M O d : Nat} {kn : List (Int × Int)} {LP LQ : Loop} {l : List (Int × Int)} {G : Hp} {N X : Nat} (b : KI F1 H M O d kn LP LQ l G N X) {G2 : Hp} {N2 : Nat} (hn : N ≤ N2) (g : ∀ u, u < N → G2 u = G u) : KI F1 H M O d kn LP LQ l G2 N2 X := by
  have h1 := b.om
  have h2 := b.mn
  have h3 := b.xn
  exact ⟨fun u hu => by rw [g u (by omega)]; exact b.fr u hu, h1, by omega, by omega, by rw [g _ (by omega)]; exact b.c0, by rw [g _ (by omega)]; exact b.c1, by rw [g _ (by omega)]; exact b.c3, by rw [g _ (by omega)]; exact b.c4, by rw [g _ (by omega)]; exact b.c6, by rw [g _ (by omega)]; exact b.c7, by rw [g _ (by omega)]; exact b.c8, by rw [g _ (by omega)]; exact b.ho, by rw [g _ (by omega)]; exact b.hx⟩


end Go.Proofs.Ytfoamlnkjmadhaa
