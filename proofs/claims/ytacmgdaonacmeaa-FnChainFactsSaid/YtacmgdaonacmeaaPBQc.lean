/- Contracts of functions of the program. -/
import Derived.Test.YtacmgdaonacmeaaPBQb
import Derived.ScopeJumps
namespace Go.Proofs.Ytacmgdaonacmeaa
open Go Go.Ab
set_option linter.all false
set_option maxHeartbeats 4000000

theorem RowsOf.keepN {H G : Hp} {n n2 O : Nat} {f : Nat → Nat} {xss : List (List Int)} (h : RowsOf H n O f xss) (hn : n ≤ n2) (gO : G O = H O) (gf : ∀ j, j < xss.length → G (f j) = H (f j)) : RowsOf G n2 O f xss :=
  ⟨gO.trans h.out, Nat.lt_of_lt_of_le h.outn hn, fun j hj => (gf j hj).trans (h.row j hj), fun j hj => ⟨Nat.lt_of_lt_of_le (h.lt j hj).1 hn, (h.lt j hj).2⟩, h.inj⟩
theorem RowsOf.putN {H G : Hp} {n O q O2 N : Nat} {f : Nat → Nat} {xss : List (List Int)} {r : List Int} (h : RowsOf H n O f xss) (hqN : q < N) (hqf : ∀ j, j < xss.length → q ≠ f j) (hne : q ≠ O2) (hO2 : n ≤ O2) (hON : O2 < N) (gO : G O2 = some ⟨true, .cells (slsN f 0 xss ++ [.sl q 0 r.length 1 none])⟩) (gq : G q = some ⟨true, .ints .i64 r⟩) (gk : ∀ j, j < xss.length → G (f j) = H (f j)) : RowsOf G N O2 (fun j => if j = xss.length then q else f j) (xss ++ [r]) := by
  refine ⟨?_, hON, fun j hj => ?_, fun j hj => ?_, fun j l hj hl e => ?_⟩
  · rw [gO, slsN_app, Nat.zero_add]
    have e1 : slsN f 0 xss = slsN (fun j => if j = xss.length then q else f j) 0 xss := slsN_congr fun j hj => by rw [if_neg (by omega)]
    rw [← e1]
    simp only [slsN, if_true]
  · simp only [List.length_append, List.length_singleton] at hj
    by_cases c : j = xss.length
    · subst c
      rw [if_pos rfl, gq]
      simp [List.getD_eq_getElem?_getD]
    · have hj2 : j < xss.length := by omega
      rw [if_neg c, gk _ hj2, h.row j hj2]
      simp only [List.getD_eq_getElem?_getD]; rw [List.getElem?_append_left hj2]
  · simp only [List.length_append, List.length_singleton] at hj
    by_cases c : j = xss.length
    · rw [if_pos c]; exact ⟨hqN, hne⟩
    · rw [if_neg c]; have := h.lt j (by omega); omega
  · simp only [List.length_append, List.length_singleton] at hj hl
    by_cases c : j = xss.length <;> by_cases d : l = xss.length
    · omega
    · rw [if_pos c, if_neg d] at e; exact (hqf l (by omega) e).elim
    · rw [if_neg c, if_pos d] at e; exact (hqf j (by omega) e.symm).elim
    · rw [if_neg c, if_neg d] at e; exact h.inj j l (by omega) (by omega) e
/-- In the rounds of OrdersLeft's collecting: the boxes, the two loops' records, the orders that have been collected, and what objects all this stands on. -/
structure OI (F1 : FuncId) (h0 : Hp) (N A len : Nat) (LP LQ : Loop) (l : List (List Int)) (X : Nat) (f : Nat → Nat) (φ : Nat → Prop) (h : Hp) (n : Nat) : Prop where
  fr : ∀ u, u < N → h u = h0 u
  c2 : h (N + 2) = some ⟨true, .cells [.sl A 0 len 2 none]⟩
  c4 : h (N + 4) = some ⟨true, .cells [.clo (.func F1) [] [.ref (N + 2) 0]]⟩
  c5 : h (N + 5) = some ⟨true, .cells [.sl X 0 l.length 1 none]⟩
  c8 : h (N + 8) = some ⟨true, .raw (.loop LP)⟩
  c9 : h (N + 9) = some ⟨true, .cells [.yl (N + 8)]⟩
  c10 : h (N + 10) = some ⟨true, .raw (.loop LQ)⟩
  rows : RowsOf h n X f l
  nn : N + 11 ≤ n
  xm : X = N + 6 ∨ N + 11 ≤ X
  fm : ∀ j, j < l.length → N ≤ f j ∧ f j ≠ N + 5 ∧ f j ≠ N + 8 ∧ f j ≠ N + 10
  ph : ∀ u, φ u ↔ (u < N ∨ u = N + 2 ∨ u = N + 4 ∨ u = N + 5 ∨ u = N + 8 ∨ u = N + 9 ∨ u = N + 10 ∨ u = X ∨ ∃ j, j < l.length ∧ u = f j)
theorem OI.up {F1 : FuncId} {h0 : Hp} {N A len : Nat} {LP LQ : Loop} {l : List (List Int)} {X : Nat} {f : Nat → Nat} {φ : Nat → Prop} {h : Hp} {n : Nat} (b : OI F1 h0 N A len LP LQ l X f φ h n) {G : Hp} {M : Nat} (hM : n ≤ M) (g : ∀ u, φ u → G u = h u) : OI F1 h0 N A len LP LQ l X f φ G M :=
  ⟨fun u hu => (g u ((b.ph u).2 (.inl hu))).trans (b.fr u hu), (g _ ((b.ph _).2 (by simp))).trans b.c2, (g _ ((b.ph _).2 (by simp))).trans b.c4, (g _ ((b.ph _).2 (by simp))).trans b.c5, (g _ ((b.ph _).2 (by simp))).trans b.c8, (g _ ((b.ph _).2 (by simp))).trans b.c9, (g _ ((b.ph _).2 (by simp))).trans b.c10,
    b.rows.keepN hM (g _ ((b.ph _).2 (by simp))) (fun j hj => g _ ((b.ph _).2 (.inr (.inr (.inr (.inr (.inr (.inr (.inr (.inr ⟨j, hj, rfl⟩)))))))))), Nat.le_trans b.nn hM, b.xm, b.fm, b.ph⟩
theorem OI.lt {F1 : FuncId} {h0 : Hp} {N A len : Nat} {LP LQ : Loop} {l : List (List Int)} {X : Nat} {f : Nat → Nat} {φ : Nat → Prop} {h : Hp} {n : Nat} (b : OI F1 h0 N A len LP LQ l X f φ h n) {u : Nat} (hu : φ u) : u < n := by
  have h1 := b.nn
  have h2 := b.rows.outn
  rcases (b.ph u).1 hu with e | e | e | e | e | e | e | e | ⟨j, hj, e⟩
  all_goals try omega
  have := (b.rows.lt j hj).1
  omega


-- %range
theorem implOrdersLeft_sat : SatH Try.prog 29 (fun al h n K => ∃ (z : Int) (A : Nat) (b : Bool) (fs : List (Int × Int)), al = [.val (.int .i64 (z)), .sl A 0 fs.length 2 none] ∧ (h A = some ⟨b, .ints .i64 (flF fs)⟩) ∧ (fs.length ≤ 1099511627776) ∧ ∀ (H : Hp) (N O : Nat) (f : Nat → Nat), RowsOf H N O f (orO z fs) → n ≤ O → (∀ j, j < (orO z fs).length → n ≤ f j) → (∀ u, u < n → H u = h u) → n ≤ N → K (.sl O 0 (orO z fs).length 1 none) (H) (N)) := by
  refine satH_intro tabOk Try.func29 rfl 14 rfl [.tmp 4] rfl ?_
  rintro F W h n al K0 ⟨z, A, b, fs, rfl, hA, hl, hQ⟩
  refine ⟨Nat.le_of_ble_eq_true rfl, fun m0 hm0 hcl hlt => ?_⟩
  simp only [initT]
  have hAn := (hcl A _ hA).1


  repeat' ((fail_if_success (with_reducible refine isRetQ ?_)); (first | refine awp_seq_k fun K hK => ?_ | ((with_reducible refine hK _ ?_); clear hK K) | ((with_reducible refine aord_plain fun K hK => ?_); simp only [go_sem, Nat.reduceAdd, Nat.reduceMul, Nat.reduceEqDiff, Nat.reduceLT, reduceIte, reduceCtorEq, hA, nmA, Nat.reduceAdd, ifA, ifB, hA]) | ((first | with_reducible refine aord_nil ?_ | refine awp_skip ?_ | refine awp_exit ?_ | refine awp_ret ?_); try simp only [rdA, Nat.reduceEqDiff, ifA, ifB, reduceIte]) | (refine awp_region tabOk rfl ?_; simp only [prep, pickO, lsA, lsB, lsC, lsD, lsE, lsF, lsG]) | ((with_reducible refine And.intro (?_ : enters Try.prog 33) ?_); (focus exact Try.call33); (refine callX_satH implValidFacts_sat ?_); simp only [go_sem, and_assoc, List.nil_append, List.append_nil, List.cons_append, Nat.reduceEqDiff, reduceIte, reduceCtorEq, hA, nmA, Nat.reduceAdd, ifA, ifB, hA]) | fail))
  refine ⟨b, fs, rfl, rfl, rfl, hl, fun v N hv hN => ?_⟩
  cases v with
  | false =>
    have e0 : orO z fs = [] := orO_no (fun h => by have := hv.2 h; cases this)
    rw [e0] at hQ


    repeat' ((fail_if_success (with_reducible refine isRetQ ?_)); (first | refine awp_seq_k fun K hK => ?_ | ((with_reducible refine hK _ ?_); clear hK K) | ((with_reducible refine aord_plain fun K hK => ?_); simp only [go_sem, Nat.reduceAdd, Nat.reduceMul, Nat.reduceEqDiff, Nat.reduceLT, reduceIte, reduceCtorEq, hA, nmA, Nat.reduceAdd, ifA, ifB, hA]) | ((first | with_reducible refine aord_nil ?_ | refine awp_skip ?_ | refine awp_exit ?_ | refine awp_ret ?_); try simp only [rdA, Nat.reduceEqDiff, ifA, ifB, reduceIte]) | (refine awp_region tabOk rfl ?_; simp only [prep, pickO, lsA, lsB, lsC, lsD, lsE, lsF, lsG]) | ((with_reducible apply awp_cond); (focus (simp only [St.ev, St.set, upd, Nat.reduceEqDiff, reduceIte, ifA, ifB, hA, nmA, Nat.reduceAdd, ifA, ifB]; exact rfl)); all_goals (intro hb; first | (cases hb; done) | ((try rw [hb]); (try simp only [dcA, dcB, dcC, dcD, dcE, Bool.not_eq_true', Bool.not_eq_false'] at hb)))) | fail))
    refine awp_nil 4 (.cells []) rfl rfl (by simp only [St.ev, St.set, upd, Nat.reduceEqDiff, reduceIte, ifA, ifB]) ?_
    simp only [St.ev, St.set, upd, Nat.reduceEqDiff, reduceIte, ifA, ifB]
    repeat' (first | ((first | with_reducible refine aord_nil ?_ | refine awp_skip ?_ | refine awp_exit ?_ | refine awp_ret ?_); try simp only [rdA, Nat.reduceEqDiff, ifA, ifB, reduceIte]) | (simp only [doneH]; simp only [ressK, resK, wrapR, go_sem, Nat.reduceAdd, Nat.reduceMul, Nat.reduceEqDiff, Nat.reduceLT, reduceIte, reduceCtorEq, hA, nmA, Nat.reduceAdd, ifA, ifB]) | fail)
    exact hQ _ (N + 1) N (fun _ => 0) ⟨upd_same _ _ _, by omega, fun j hj => by simp at hj, fun j hj => by simp at hj, fun j l hj => by simp at hj⟩ (by omega) (fun j hj => by simp at hj) (fun u hu => upd_ne _ _ (by omega)) (by omega)
  | true =>
    have hV := hv.1 rfl
    obtain ⟨d, rfl⟩ : ∃ d : Nat, z = d := ⟨z.toNat, by have := hV.1; omega⟩
    have hd5 : d ≤ 5 := by have := hV.1; omega
    have m1 : (A = N) = False := eq_false (by omega)
    have m2 : ∀ k, (A = N + k) = False := fun k => eq_false (by omega)
    have m3 : (N = A) = False := eq_false (by omega)
    have m4 : ∀ k, (N + k = A) = False := fun k => eq_false (by omega)


    repeat' (first | refine awp_seq_k fun K hK => ?_ | ((with_reducible refine hK _ ?_); clear hK K) | ((with_reducible refine aord_plain fun K hK => ?_); simp only [go_sem, Nat.reduceAdd, Nat.reduceMul, Nat.reduceEqDiff, Nat.reduceLT, reduceIte, reduceCtorEq, hA, m1, m2, m3, m4, nmA, Nat.reduceAdd, ifA, ifB, hA, m1, m2, m3, m4]) | refine awp_block ?_ | ((first | with_reducible refine aord_nil ?_ | refine awp_skip ?_ | refine awp_exit ?_ | refine awp_ret ?_); try simp only [rdA, Nat.reduceEqDiff, ifA, ifB, reduceIte]) | (refine awp_region tabOk rfl ?_; simp only [prep, pickO, lsA, lsB, lsC, lsD, lsE, lsF, lsG]) | ((with_reducible apply awp_cond); (focus (simp only [St.ev, St.set, upd, Nat.reduceEqDiff, reduceIte, ifA, ifB, hA, m1, m2, m3, m4, nmA, Nat.reduceAdd, ifA, ifB]; exact rfl)); all_goals (intro hb; first | (cases hb; done) | ((try rw [hb]); (try simp only [dcA, dcB, dcC, dcD, dcE, Bool.not_eq_true', Bool.not_eq_false'] at hb)))) | ((with_reducible refine And.intro (?_ : enters Try.prog 70) ?_); (focus exact Try.call70); (refine callX_h (callH_inline tabOk Try.func70 rfl 5 rfl [.tmp 2] rfl (Nat.le_of_ble_eq_true rfl) fun m0 hm0 hcl hlt => ?_)); simp only [initT, St.ev, St.set, upd, Nat.reduceEqDiff, reduceIte, ifA, ifB, hA, m1, m2, m3, m4, nmA, Nat.reduceAdd, ifA, ifB]) | ((with_reducible refine And.intro (?_ : enters Try.prog 85) ?_); (focus exact Try.call85); (refine callX_h (callH_inline tabOk Try.func85 rfl 13 rfl [.tmp 4] rfl (Nat.le_of_ble_eq_true rfl) fun m0 hm0 hcl hlt => ?_)); simp only [initT, St.ev, St.set, upd, Nat.reduceEqDiff, reduceIte, ifA, ifB, hA, m1, m2, m3, m4, nmA, Nat.reduceAdd, ifA, ifB]) | ((with_reducible refine And.intro (?_ : enters Try.prog 86) ?_); (focus exact Try.call86); (refine callX_h (callH_inline tabOk Try.func86 rfl 6 rfl [.tmp 4] rfl (Nat.le_of_ble_eq_true rfl) fun m0 hm0 hcl hlt => ?_)); simp only [initT, St.ev, St.set, upd, Nat.reduceEqDiff, reduceIte, ifA, ifB, hA, m1, m2, m3, m4, nmA, Nat.reduceAdd, ifA, ifB]) | ((with_reducible refine And.intro (?_ : enters Try.prog 71) ?_); (focus exact Try.call71); (refine callX_h (callH_inline tabOk Try.func71 rfl 8 rfl [.tmp 4] rfl (Nat.le_of_ble_eq_true rfl) fun m0 hm0 hcl hlt => ?_)); simp only [initT, St.ev, St.set, upd, Nat.reduceEqDiff, reduceIte, ifA, ifB, hA, m1, m2, m3, m4, nmA, Nat.reduceAdd, ifA, ifB]) | ((with_reducible refine And.intro (?_ : enters Try.prog 72) ?_); (focus exact Try.call72); (refine callX_h (callH_inline tabOk Try.func72 rfl 6 rfl [.tmp 4] rfl (Nat.le_of_ble_eq_true rfl) fun m0 hm0 hcl hlt => ?_)); simp only [initT, St.ev, St.set, upd, Nat.reduceEqDiff, reduceIte, ifA, ifB, hA, m1, m2, m3, m4, nmA, Nat.reduceAdd, ifA, ifB]) | (simp only [doneH]; simp only [ressK, resK, wrapR, go_sem, Nat.reduceAdd, Nat.reduceMul, Nat.reduceEqDiff, Nat.reduceLT, reduceIte, reduceCtorEq, hA, m1, m2, m3, m4, nmA, Nat.reduceAdd, ifA, ifB]) | fail)
    refine awp_nilcell (N + 5) 0 [.val (.slice none 0 0)] (.cells []) rfl rfl (by simp only [St.ev, St.set, upd, Nat.reduceEqDiff, reduceIte, ifA, ifB, hA, m1, m2, m3, m4, nmA, Nat.reduceAdd, ifA, ifB] <;> exact rfl) rfl ?_
    simp only [St.ev, St.set, upd, Nat.reduceEqDiff, reduceIte, ifA, ifB, hA, m1, m2, m3, m4, nmA, Nat.reduceAdd, ifA, ifB, List.set_cons_zero]
    refine awp_nilcell N 0 [.val (.slice none 0 0)] (.ints .i64 []) rfl rfl (by simp only [St.ev, St.set, upd, Nat.reduceEqDiff, reduceIte, ifA, ifB, hA, m1, m2, m3, m4, nmA, Nat.reduceAdd, ifA, ifB] <;> exact rfl) rfl ?_
    simp only [St.ev, St.set, upd, Nat.reduceEqDiff, reduceIte, ifA, ifB, hA, m1, m2, m3, m4, nmA, Nat.reduceAdd, ifA, ifB, List.set_cons_zero]
    (refine awp_range (gf := 96) (by simp only [St.ev, St.set, upd, Nat.reduceEqDiff, reduceIte, ifA, ifB, hA, m1, m2, m3, m4, nmA, Nat.reduceAdd, ifA, ifB]; first | exact fnV_clo | exact fnV_val) Try.call96 (fun LP LP1 LP2 LP3 LP4 LP5 => callX_h (callH_inline tabOk Try.func96 rfl 16 rfl [] rfl (Nat.le_of_ble_eq_true rfl) fun m0 hm0 hcl hlt => ?_)); simp only [List.nil_append, List.cons_append, initT, St.ev, St.set, upd, Nat.reduceEqDiff, reduceIte, ifA, ifB, hA, m1, m2, m3, m4, nmA, Nat.reduceAdd, ifA, ifB])
    repeat' (first | refine awp_seq_k fun K hK => ?_ | ((with_reducible refine hK _ ?_); clear hK K) | ((with_reducible refine aord_plain fun K hK => ?_); simp only [go_sem, Nat.reduceAdd, Nat.reduceMul, Nat.reduceEqDiff, Nat.reduceLT, reduceIte, reduceCtorEq, hA, m1, m2, m3, m4, nmA, Nat.reduceAdd, ifA, ifB, hA, m1, m2, m3, m4]) | refine awp_block ?_ | ((first | with_reducible refine aord_nil ?_ | refine awp_skip ?_ | refine awp_exit ?_ | refine awp_ret ?_); try simp only [rdA, Nat.reduceEqDiff, ifA, ifB, reduceIte]) | (refine awp_region tabOk rfl ?_; simp only [prep, pickO, lsA, lsB, lsC, lsD, lsE, lsF, lsG]) | fail)
    refine awp_range (gf := 89) (by simp only [St.ev, St.set, upd, Nat.reduceEqDiff, reduceIte, ifA, ifB, hA, m1, m2, m3, m4, nmA, Nat.reduceAdd, ifA, ifB]; exact fnV_clo) Try.call89 (fun LQ l1 l2 l3 l4 l5 => callX_h ?_)
    simp only [List.nil_append, List.cons_append, St.ev, St.set, upd, Nat.reduceEqDiff, reduceIte, ifA, ifB, hA, m1, m2, m3, m4, nmA, Nat.reduceAdd, ifA, ifB]
    refine ord_it hd5 d (J := fun dn χ G M => ∃ X f, OI 87 h N A fs.length LP LQ (dn.filter (agB fs)) X f χ G M) ⟨?_, ?_, ?_⟩ (bg := []) (done := []) (φ := fun u => u < N ∨ u = N + 2 ∨ u = N + 4 ∨ u = N + 5 ∨ u = N + 8 ∨ u = N + 9 ∨ u = N + 10 ∨ u = N + 6) (B := N) (b := N + 7) (N0 := N + 1) ?_ ?_ ?_ ?_ ?_ ?_ ?_ ?_ ?_ ?_
    · rintro dn χ G M G2 M2 ⟨X, f, hI⟩ hM hG
      exact ⟨X, f, hI.up hM hG⟩
    · rintro dn χ G M u ⟨X, f, hI⟩ hu
      exact hI.lt hu
    · rintro dn χ G M q x S2 hS2 ⟨X, f, hI⟩ hdl hq hqM hqx hxl
      have hph := hI.ph
      have z0 : N ≤ q := Nat.le_of_not_lt fun e => hq ((hph q).2 (.inl e))
      have z2 : q ≠ N + 2 := fun e => hq ((hph q).2 (by simp [e]))
      have z4 : q ≠ N + 4 := fun e => hq ((hph q).2 (by simp [e]))
      have z5 : q ≠ N + 5 := fun e => hq ((hph q).2 (by simp [e]))
      have z8 : q ≠ N + 8 := fun e => hq ((hph q).2 (by simp [e]))
      have z9 : q ≠ N + 9 := fun e => hq ((hph q).2 (by simp [e]))
      have za : q ≠ N + 10 := fun e => hq ((hph q).2 (by simp [e]))
      have zX : q ≠ X := fun e => hq ((hph q).2 (by simp [e]))
      have zf : ∀ j, j < (dn.filter (agB fs)).length → q ≠ f j := fun j hj e => hq ((hph q).2 (.inr (.inr (.inr (.inr (.inr (.inr (.inr (.inr ⟨j, hj, e⟩)))))))))
      have hnn := hI.nn
      have c2 := hI.c2
      have c4 := hI.c4
      have c5 := hI.c5
      have c8 := hI.c8
      have c9 := hI.c9
      have cA : G A = some ⟨b, .ints .i64 (flF fs)⟩ := (hI.fr A (by omega)).trans (by first | exact hA | (rw [upd_ne _ _ (by omega)]; exact hA))
      have h20 := hV.2.1
      have hxm := hI.xm
      have y1 : (q = N + 10) = False := eq_false za
      have y2 : (N + 10 = q) = False := eq_false (Ne.symm za)
      have y3 : (A = N + 10) = False := eq_false (by omega)
      have y4 : (N + 10 = A) = False := eq_false (by omega)
      have hNm := And.intro c2 (And.intro c4 (And.intro c5 (And.intro c8 (And.intro c9 (And.intro cA (And.intro hqx (And.intro y1 (And.intro y2 (And.intro y3 y4)))))))))
      refine yield_round (lp := LQ) hI.c10 l1 l2 (hS2 _ List.mem_cons_self) (by rw [l3]; rfl) (by rw [l3]; decide) (fun mm hmm hcl1 hlt1 => ?_)
      rw [l3, l4, l5]
      simp only [zipT, St.ev, St.set, upd, Nat.reduceEqDiff, reduceIte, ifA, ifB, hA, m1, m2, m3, m4, nmA, Nat.reduceAdd, ifA, ifB]


      repeat' (first | refine awp_seq_k fun K hK => ?_ | ((with_reducible refine hK _ ?_); clear hK K) | ((with_reducible refine aord_plain fun K hK => ?_); simp only [go_sem, Nat.reduceAdd, Nat.reduceMul, Nat.reduceEqDiff, Nat.reduceLT, reduceIte, reduceCtorEq, hNm, nmA, Nat.reduceAdd, ifA, ifB, hNm]) | refine awp_block ?_ | (refine awp_region tabOk rfl ?_; simp only [prep, pickO, lsA, lsB, lsC, lsD, lsE, lsF, lsG]) | ((with_reducible refine And.intro (?_ : enters Try.prog 87) ?_); (focus exact Try.call87); (refine callX_satH agree_sat ?_); simp only [go_sem, and_assoc, List.nil_append, List.append_nil, List.cons_append, Nat.reduceEqDiff, reduceIte, reduceCtorEq, hNm, nmA, Nat.reduceAdd, ifA, ifB, hNm]) | fail)
      refine ⟨A, N + 2, true, b, x, hxl.symm, rfl, rfl, rfl, fs, by rw [if_neg (by omega)]; exact cA, by rw [if_neg (by omega)]; exact c2, by omega, by omega, fun N2 hN2 => ?_⟩
      cases hag : agB fs x with
      | false =>
        have hfl2 : (dn ++ [x]).filter (agB fs) = dn.filter (agB fs) := by rw [List.filter_append, List.filter_cons_of_neg (by rw [hag]; simp), List.filter_nil, List.append_nil]


        repeat' (first | ((with_reducible refine hK _ ?_); clear hK K) | ((with_reducible refine aord_plain fun K hK => ?_); simp only [go_sem, Nat.reduceAdd, Nat.reduceMul, Nat.reduceEqDiff, Nat.reduceLT, reduceIte, reduceCtorEq, hNm, hag, nmA, Nat.reduceAdd, ifA, ifB, hNm, hag]) | ((with_reducible apply aord_guard); (focus (simp only [St.ev, St.set, upd, Nat.reduceEqDiff, reduceIte, ifA, ifB, hNm, hag, nmA, Nat.reduceAdd, ifA, ifB]; exact rfl)); all_goals (intro hb; (try simp only [Bool.not_true, Bool.not_false] at hb); first | (cases hb; done) | ((try rw [hb]); (try simp only [Bool.not_eq_true', Bool.not_eq_false', Bool.and_eq_true, dcA, dcB, dcC, dcD, dcE] at hb); (try (revert hb; with_reducible refine true_imp_iff.2 ?_)); first | (intro K hK; simp only [go_sem, Nat.reduceAdd, Nat.reduceMul, Nat.reduceEqDiff, Nat.reduceLT, reduceIte, reduceCtorEq, hNm, hag, nmA, Nat.reduceAdd, ifA, ifB]) | (simp only [St.ev, St.set, upd, Nat.reduceEqDiff, reduceIte, ifA, ifB, hNm, hag, nmA, Nat.reduceAdd, ifA, ifB]) | skip))) | ((first | with_reducible refine aord_nil ?_ | refine awp_skip ?_ | refine awp_exit ?_ | refine awp_ret ?_); try simp only [rdA, Nat.reduceEqDiff, ifA, ifB, reduceIte]) | ((with_reducible apply awp_cond); (focus (simp only [St.ev, St.set, upd, Nat.reduceEqDiff, reduceIte, ifA, ifB, hNm, hag, nmA, Nat.reduceAdd, ifA, ifB]; exact rfl)); all_goals (intro hb; first | (cases hb; done) | ((try rw [hb]); (try simp only [dcA, dcB, dcC, dcD, dcE, Bool.not_eq_true', Bool.not_eq_false'] at hb)))) | ((with_reducible refine And.intro ?_ ?_); (focus omega)) | ((with_reducible refine roundA_normal ?_); simp only [St.ev, St.set, upd, Nat.reduceEqDiff, reduceIte, ifA, ifB, hNm, hag, nmA, Nat.reduceAdd, ifA, ifB]) | fail)
        refine ⟨χ, ⟨X, f, ?_⟩, hN2, fun u hu e1 e2 => ?_, fun u hu => .inl hu⟩
        · rw [hfl2]
          refine hI.up hN2 fun u hu => ?_
          by_cases e : u = N + 10
          · subst e; rw [upd_same]; exact hI.c10.symm
          · rw [upd_ne _ _ e, upd_ne _ _ e]
        · by_cases e : u = N + 10
          · subst e; rw [if_pos rfl]; exact hI.c10.symm
          · rw [if_neg e, if_neg e]
      | true =>
        have hfl2 : (dn ++ [x]).filter (agB fs) = dn.filter (agB fs) ++ [x] := by rw [List.filter_append, List.filter_cons_of_pos hag, List.filter_nil]
        have hll := List.length_filter_le (agB fs) dn
        have hR := hI.rows
        have hO := hR.out
        have hXn := hR.outn
        have hsl := @slsN_len f (dn.filter (agB fs)) 0
        generalize hLL : dn.filter (agB fs) = L at *
        have v1 : (N + 5 = N2) = False := eq_false (by omega)
        have v2 : (N2 = N + 5) = False := eq_false (by omega)
        have v3 : ∀ k, (N + 5 = N2 + k) = False := fun k => eq_false (by omega)
        have v4 : ∀ k, (N2 + k = N + 5) = False := fun k => eq_false (by omega)
        have v5 : (N + 8 = N2) = False := eq_false (by omega)
        have v6 : (N2 = N + 8) = False := eq_false (by omega)
        have v7 : ∀ k, (N + 8 = N2 + k) = False := fun k => eq_false (by omega)
        have v8 : ∀ k, (N2 + k = N + 8) = False := fun k => eq_false (by omega)
        have v9 : (N + 10 = N2) = False := eq_false (by omega)
        have va : (N2 = N + 10) = False := eq_false (by omega)
        have vb : ∀ k, (N + 10 = N2 + k) = False := fun k => eq_false (by omega)
        have vc : ∀ k, (N2 + k = N + 10) = False := fun k => eq_false (by omega)
        have vd : (X = N2) = False := eq_false (by omega)
        have ve : (N2 = X) = False := eq_false (by omega)
        have vf : (X = N + 5) = False := eq_false (by omega)
        have vg : (N + 5 = X) = False := eq_false (by omega)
        have vh : (X = N + 8) = False := eq_false (by omega)
        have vi : (N + 8 = X) = False := eq_false (by omega)
        have vj : (X = N + 10) = False := eq_false (by omega)
        have vk : (N + 10 = X) = False := eq_false (by omega)
        have hVm := And.intro v1 (And.intro v2 (And.intro v3 (And.intro v4 (And.intro v5 (And.intro v6 (And.intro v7 (And.intro v8 (And.intro v9 (And.intro va (And.intro vb (And.intro vc (And.intro vd (And.intro ve (And.intro vf (And.intro vg (And.intro vh (And.intro vi (And.intro vj vk))))))))))))))))))


        repeat' (first | ((with_reducible refine hK _ ?_); clear hK K) | ((with_reducible refine aord_plain fun K hK => ?_); simp only [go_sem, Nat.reduceAdd, Nat.reduceMul, Nat.reduceEqDiff, Nat.reduceLT, reduceIte, reduceCtorEq, hNm, hag, nmA, Nat.reduceAdd, ifA, ifB, hNm, hag]) | ((with_reducible apply aord_guard); (focus (simp only [St.ev, St.set, upd, Nat.reduceEqDiff, reduceIte, ifA, ifB, hNm, hag, nmA, Nat.reduceAdd, ifA, ifB]; exact rfl)); all_goals (intro hb; (try simp only [Bool.not_true, Bool.not_false] at hb); first | (cases hb; done) | ((try rw [hb]); (try simp only [Bool.not_eq_true', Bool.not_eq_false', Bool.and_eq_true, dcA, dcB, dcC, dcD, dcE] at hb); (try (revert hb; with_reducible refine true_imp_iff.2 ?_)); first | (intro K hK; simp only [go_sem, Nat.reduceAdd, Nat.reduceMul, Nat.reduceEqDiff, Nat.reduceLT, reduceIte, reduceCtorEq, hNm, hag, nmA, Nat.reduceAdd, ifA, ifB]) | (simp only [St.ev, St.set, upd, Nat.reduceEqDiff, reduceIte, ifA, ifB, hNm, hag, nmA, Nat.reduceAdd, ifA, ifB]) | skip))) | fail)
        refine yield_round (lp := LP) (by rw [upd_ne _ _ (by omega)]; exact c8) LP1 LP2 (hS2 _ (List.mem_cons_of_mem _ List.mem_cons_self)) (by rw [LP3]; rfl) (by rw [LP3]; decide) (fun mm2 hmm2 hcl2 hlt2 => ?_)
        rw [LP3, LP4, LP5]
        simp only [zipT, St.ev, St.set, upd, Nat.reduceEqDiff, reduceIte, ifA, ifB, hNm, hag, nmA, Nat.reduceAdd, ifA, ifB]


        repeat' (first | ((with_reducible refine hK _ ?_); clear hK K) | ((with_reducible refine aord_plain fun K hK => ?_); simp only [go_sem, Nat.reduceAdd, Nat.reduceMul, Nat.reduceEqDiff, Nat.reduceLT, reduceIte, reduceCtorEq, hNm, hVm, hag, nmA, Nat.reduceAdd, ifA, ifB, hNm, hVm, hag]) | refine awp_block ?_ | (refine awp_region tabOk rfl ?_; simp only [prep, pickO, lsA, lsB, lsC, lsD, lsE, lsF, lsG]) | ((with_reducible refine And.intro ?_ ?_); (focus omega)) | fail)
        refine aAppend_cells rfl rfl rfl rfl (Nat.le_of_ble_eq_true rfl) (upd_same _ _ _) (by rw [upd_ne _ _ (by omega), upd_ne _ _ (by omega), upd_ne _ _ (by omega)]; exact hO) (by omega) hsl rfl (by omega) ?_
        repeat' (first | ((with_reducible refine hK _ ?_); clear hK K) | ((with_reducible refine aord_plain fun K hK => ?_); simp only [go_sem, Nat.reduceAdd, Nat.reduceMul, Nat.reduceEqDiff, Nat.reduceLT, reduceIte, reduceCtorEq, hNm, hVm, hag, nmA, Nat.reduceAdd, ifA, ifB, hNm, hVm, hag]) | ((with_reducible apply aord_guard); (focus (simp only [St.ev, St.set, upd, Nat.reduceEqDiff, reduceIte, ifA, ifB, hNm, hVm, hag, nmA, Nat.reduceAdd, ifA, ifB]; exact rfl)); all_goals (intro hb; (try simp only [Bool.not_true, Bool.not_false] at hb); first | (cases hb; done) | ((try rw [hb]); (try simp only [Bool.not_eq_true', Bool.not_eq_false', Bool.and_eq_true, dcA, dcB, dcC, dcD, dcE] at hb); (try (revert hb; with_reducible refine true_imp_iff.2 ?_)); first | (intro K hK; simp only [go_sem, Nat.reduceAdd, Nat.reduceMul, Nat.reduceEqDiff, Nat.reduceLT, reduceIte, reduceCtorEq, hNm, hVm, hag, nmA, Nat.reduceAdd, ifA, ifB]) | (simp only [St.ev, St.set, upd, Nat.reduceEqDiff, reduceIte, ifA, ifB, hNm, hVm, hag, nmA, Nat.reduceAdd, ifA, ifB]) | skip))) | ((first | with_reducible refine aord_nil ?_ | refine awp_skip ?_ | refine awp_exit ?_ | refine awp_ret ?_); try simp only [rdA, Nat.reduceEqDiff, ifA, ifB, reduceIte]) | ((with_reducible apply awp_cond); (focus (simp only [St.ev, St.set, upd, Nat.reduceEqDiff, reduceIte, ifA, ifB, hNm, hVm, hag, nmA, Nat.reduceAdd, ifA, ifB]; exact rfl)); all_goals (intro hb; first | (cases hb; done) | ((try rw [hb]); (try simp only [dcA, dcB, dcC, dcD, dcE, Bool.not_eq_true', Bool.not_eq_false'] at hb)))) | ((with_reducible refine And.intro ?_ ?_); (focus omega)) | ((with_reducible refine roundA_normal ?_); simp only [St.ev, St.set, upd, Nat.reduceEqDiff, reduceIte, ifA, ifB, hNm, hVm, hag, nmA, Nat.reduceAdd, ifA, ifB]) | fail)
        have hx1 : (L ++ [x]).length = L.length + 1 := by rw [List.length_append]; rfl
        have hfj := hI.fm
        have hfr := hI.fr
        rw [hfl2]
        refine ⟨fun u => u < N ∨ u = N + 2 ∨ u = N + 4 ∨ u = N + 5 ∨ u = N + 8 ∨ u = N + 9 ∨ u = N + 10 ∨ u = N2 + 1 ∨ ∃ j, j < (L ++ [x]).length ∧ u = (if j = L.length then q else f j), ⟨N2 + 1, fun j => if j = L.length then q else f j, ⟨fun u hu => ?_, ?_, ?_, ?_, ?_, ?_, ?_, hR.putN (by omega) zf (by omega) (by omega) (by omega) ?_ ?_ (fun j hj => ?_), by omega, .inr (by omega), fun j hj => ?_, fun u => Iff.rfl⟩⟩, by omega, fun u hu e1 e2 => ?_, fun u hu => ?_⟩
        · (repeat rw [upd_ne _ _ (by omega)])
          exact hfr u hu
        · (repeat rw [upd_ne _ _ (by omega)])
          exact c2
        · (repeat rw [upd_ne _ _ (by omega)])
          exact c4
        · rw [hx1]; (repeat (first | rw [upd_same] | rw [upd_ne _ _ (by omega)]))
        · (repeat (first | rw [upd_same] | rw [upd_ne _ _ (by omega)]))
        · (repeat rw [upd_ne _ _ (by omega)])
          exact c9
        · (repeat (first | rw [upd_same] | rw [upd_ne _ _ (by omega)]))
        · rw [hxl]; (repeat (first | rw [upd_same] | rw [upd_ne _ _ (by omega)]))
        · (repeat rw [upd_ne _ _ (by omega)])
          exact hqx
        · have h1 := hR.lt j hj
          have h2 := hfj j hj
          (repeat rw [upd_ne _ _ (by omega)])
        · show N ≤ (if j = L.length then q else f j) ∧ (if j = L.length then q else f j) ≠ N + 5 ∧ (if j = L.length then q else f j) ≠ N + 8 ∧ (if j = L.length then q else f j) ≠ N + 10
          rw [hx1] at hj
          by_cases e : j = L.length
          · rw [if_pos e]; exact ⟨z0, z5, z8, za⟩
          · rw [if_neg e]; exact hfj j (by omega)
        · have k1 : u ≠ N + 10 := fun e => e1 ((hph u).2 (by simp [e]))
          have k2 : u ≠ N + 8 := fun e => e1 ((hph u).2 (by simp [e]))
          have k3 : u ≠ N + 5 := fun e => e1 ((hph u).2 (by simp [e]))
          have k4 : u ≠ X := fun e => e1 ((hph u).2 (by simp [e]))
          rw [if_neg k1, if_neg k2, if_neg k3, if_neg (by omega), if_neg k4, if_neg (by omega), if_neg k2, if_neg k1]
        · rcases hu with e | e | e | e | e | e | e | e | ⟨j, hj, e⟩
          · exact .inl ((hph u).2 (.inl e))
          · exact .inl ((hph u).2 (by simp [e]))
          · exact .inl ((hph u).2 (by simp [e]))
          · exact .inl ((hph u).2 (by simp [e]))
          · exact .inl ((hph u).2 (by simp [e]))
          · exact .inl ((hph u).2 (by simp [e]))
          · exact .inl ((hph u).2 (by simp [e]))
          · exact .inr (.inr (by omega))
          · by_cases e3 : j = L.length
            · rw [if_pos e3] at e; exact .inr (.inl e)
            · rw [if_neg e3] at e
              rw [hx1] at hj
              exact .inl ((hph u).2 (.inr (.inr (.inr (.inr (.inr (.inr (.inr (.inr ⟨j, by omega, e⟩)))))))))
    · simp
    · refine ⟨N + 6, fun _ => 0, ⟨fun u hu => ?_, ?_, ?_, ?_, ?_, ?_, ?_, ⟨?_, by omega, fun j hj => by simp at hj, fun j hj => by simp at hj, fun j l hj => by simp at hj⟩, by omega, .inl rfl, fun j hj => by simp at hj, fun u => by simp⟩⟩
      all_goals ((repeat (first | rw [upd_same] | rw [upd_ne _ _ (by omega)])) <;> (try rfl))
    · have := ordK_cap hd5
      simpa using this
    · (repeat (first | rw [upd_same] | rw [upd_ne _ _ (by omega)])) <;> (try rfl)
    · (repeat (first | rw [upd_same] | rw [upd_ne _ _ (by omega)])) <;> (try rfl)
    · (repeat (first | rw [upd_same] | rw [upd_ne _ _ (by omega)])) <;> (try rfl)
    · omega
    · omega
    · omega
    · rintro G M χ ⟨X, f, hI⟩ hM hfr hχ
      rw [List.nil_append, ← orO_ag hV] at hI
      refine endA_go hI.c10 l1 l2 ?_
      have c5 := hI.c5
      have c8 := hI.c8
      have hxm := hI.xm
      simp only [blockA_normal]
      show endA (N + 8) _ _ (.tup []) _ _
      refine endA_go (lp := LP) (by show upd G (N + 10) none (N + 8) = _; rw [upd_ne _ _ (by omega)]; exact c8) LP1 LP2 ?_
      simp only [blockA_normal, thenA_normal]


      repeat' (first | refine awp_seq_k fun K hK => ?_ | ((with_reducible refine hK _ ?_); clear hK K) | ((with_reducible refine aord_plain fun K hK => ?_); simp only [go_sem, Nat.reduceAdd, Nat.reduceMul, Nat.reduceEqDiff, Nat.reduceLT, reduceIte, reduceCtorEq, c5, c8, nmA, Nat.reduceAdd, ifA, ifB, c5, c8]) | ((first | with_reducible refine aord_nil ?_ | refine awp_skip ?_ | refine awp_exit ?_ | refine awp_ret ?_); try simp only [rdA, Nat.reduceEqDiff, ifA, ifB, reduceIte]) | (refine awp_region tabOk rfl ?_; simp only [prep, pickO, lsA, lsB, lsC, lsD, lsE, lsF, lsG]) | (simp only [doneH]; simp only [ressK, resK, wrapR, go_sem, Nat.reduceAdd, Nat.reduceMul, Nat.reduceEqDiff, Nat.reduceLT, reduceIte, reduceCtorEq, c5, c8, nmA, Nat.reduceAdd, ifA, ifB]) | fail)
      have hnn := hI.nn
      have hlr := hI.rows
      have hfm := hI.fm
      have hfr0 := hI.fr
      refine hQ _ M X f (hlr.keepN (Nat.le_refl _) (by rw [upd_ne _ _ (by omega), upd_ne _ _ (by omega)]) (fun j hj => by have := hfm j hj; rw [upd_ne _ _ (by omega), upd_ne _ _ (by omega)])) (by omega) (fun j hj => by have := hfm j hj; omega) (fun u hu => by rw [upd_ne _ _ (by omega), upd_ne _ _ (by omega)]; exact hfr0 u (by omega)) (by omega)

theorem okS_up {r : Nat → Nat → Bool} {b : List Int} {x i : Nat} (hi : i < b.length) : okS r (b.take (i + 1)) x = (okS r (b.take i) x && (decide (b.getD i 0 ≠ (x : Int)) && !r x (b.getD i 0).toNat)) := by
  unfold okS
  rw [List.take_succ_eq_append_getElem hi, List.all_append]
  simp only [List.all_cons, List.all_nil, Bool.and_true, List.getD_eq_getElem?_getD, List.getElem?_eq_getElem hi, Option.getD_some]
theorem sprTo_len (r : Nat → Nat → Bool) (g : Nat → List (List Int)) (b : List Int) {i j : Nat} (h : i ≤ j) : (sprTo r g b i).length ≤ (sprTo r g b j).length := by
  induction h with
  | refl => exact Nat.le_refl _
  | step _ ih => rw [sprTo, List.length_append]; omega
/-- Two lists of rows of one's own, one behind the other. -/
theorem RowsOf.appN {H G J : Hp} {n n2 O P Q N : Nat} {f g : Nat → Nat} {xss yss : List (List Int)} (h : RowsOf H n O f xss) (k : RowsOf G n2 P g yss) (hg : ∀ j, j < yss.length → n ≤ g j) (hn : n ≤ n2) (hQ : n2 ≤ Q) (hQN : Q < N) (gQ : J Q = some ⟨true, .cells (slsN f 0 xss ++ slsN g 0 yss)⟩) (gf : ∀ j, j < xss.length → J (f j) = H (f j)) (gg : ∀ j, j < yss.length → J (g j) = G (g j)) : RowsOf J N Q (fun j => if j < xss.length then f j else g (j - xss.length)) (xss ++ yss) := by
  have e1 : slsN f 0 xss = slsN (fun j => if j < xss.length then f j else g (j - xss.length)) 0 xss := slsN_congr fun j hj => by rw [Nat.zero_add, if_pos hj]
  have key : ∀ (yss : List (List Int)) (a : Nat), slsN g a yss = slsN (fun j => if j < xss.length then f j else g (j - xss.length)) (xss.length + a) yss := by
    intro yss
    induction yss with
    | nil => intro a; rfl
    | cons y ys ih =>
      intro a
      rw [slsN, slsN, if_neg (by omega), Nat.add_sub_cancel_left, ih (a + 1), Nat.add_assoc]
  refine ⟨?_, hQN, fun j hj => ?_, fun j hj => ?_, fun j l hj hl e => ?_⟩
  · have h0 := key yss 0
    rw [Nat.add_zero] at h0
    rw [gQ, slsN_app, Nat.zero_add, ← e1, h0]
  · rw [List.length_append] at hj
    by_cases c : j < xss.length
    · rw [if_pos c, gf j c, h.row j c]
      simp only [List.getD_eq_getElem?_getD]; rw [List.getElem?_append_left c]
    · rw [if_neg c, gg _ (by omega), k.row _ (by omega)]
      simp only [List.getD_eq_getElem?_getD]; rw [List.getElem?_append_right (by omega)]
  · rw [List.length_append] at hj
    by_cases c : j < xss.length
    · rw [if_pos c]; have := h.lt j c; omega
    · rw [if_neg c]; have := k.lt (j - xss.length) (by omega); omega
  · rw [List.length_append] at hj hl
    by_cases c : j < xss.length <;> by_cases d : l < xss.length
    · rw [if_pos c, if_pos d] at e; exact h.inj j l c d e
    · rw [if_pos c, if_neg d] at e; have := h.lt j c; have := hg (l - xss.length) (by omega); omega
    · rw [if_neg c, if_pos d] at e; have := h.lt l d; have := hg (j - xss.length) (by omega); omega
    · rw [if_neg c, if_neg d] at e; have := k.inj _ _ (by omega) (by omega) e; omega
theorem MatOf.keepN {H G : Hp} {N M O : Nat} {f : Nat → Nat} {n k : Nat} {r : Nat → Nat → Bool} (h : MatOf H N O f n k r) (hN : N ≤ M) (g : ∀ u, u < N → G u = H u) : MatOf G M O f n k r :=
  ⟨(g O h.outn).trans h.out, Nat.lt_of_lt_of_le h.outn hN, fun i hi => (g _ (h.lt i hi).1).trans (h.row i hi), fun i hi => ⟨Nat.lt_of_lt_of_le (h.lt i hi).1 hN, (h.lt i hi).2⟩, h.inj⟩


-- awp_region_tree %satH
theorem ordersOf_sat {d : Nat} (hd : d ≤ 5) (r : Nat → Nat → Bool) : ∀ k, SatH Try.prog 45 (fun al h n K0 => ∃ (hd0 O : Nat) (bb : Bool) (bg : List Int) (f : Nat → Nat), al = [.sl hd0 0 bg.length 1 none, .sl O 0 d 1 none] ∧ h hd0 = some ⟨bb, .ints .i64 bg⟩ ∧ MatOf h n O f d d r ∧ Beg d bg ∧ bg.length + k = d ∧ (ordR r d k bg).length ≤ 120 ∧ ∀ (H : Hp) (N P : Nat) (g : Nat → Nat), RowsOf H N P g (ordR r d k bg) → (∀ u, u < n → H u = h u) → n ≤ P → (∀ j, j < (ordR r d k bg).length → n ≤ g j) → K0 (.sl P 0 (ordR r d k bg).length 1 none) H N) := by
  intro k
  induction k with
  | zero =>
    refine satH_intro tabOk Try.func45 rfl 66 rfl [.tmp 4] rfl ?_
    rintro F W h n al K0 ⟨hd0, O, bb, bg, f, rfl, hA, hM, hB, hbd, hcap, hQ⟩
    refine ⟨Nat.le_of_ble_eq_true rfl, fun m0 hm0 hcl hlt => ?_⟩
    simp only [initT]
    have hAn := (hcl hd0 _ hA).1
    have a1 : (hd0 = n) = False := eq_false (by omega)
    have a2 : (n = hd0) = False := eq_false (by omega)
    have a3 : ∀ k, (hd0 = n + k) = False := fun k => eq_false (by omega)
    have a4 : ∀ k, (n + k = hd0) = False := fun k => eq_false (by omega)


    repeat' (first | refine awp_seq_k fun K hK => ?_ | ((with_reducible refine hK _ ?_); clear hK K) | ((with_reducible refine aord_plain fun K hK => ?_); simp only [go_sem, Nat.reduceAdd, Nat.reduceMul, Nat.reduceEqDiff, Nat.reduceLT, reduceIte, reduceCtorEq, hA, a1, a2, a3, a4, nmA, Nat.reduceAdd, ifA, ifB, hA, a1, a2, a3, a4]) | refine awp_block ?_ | ((first | with_reducible refine aord_nil ?_ | refine awp_skip ?_ | refine awp_exit ?_ | refine awp_ret ?_); try simp only [rdA, Nat.reduceEqDiff, ifA, ifB, reduceIte]) | (refine awp_region tabOk rfl ?_; simp only [prep, pickO, lsA, lsB, lsC, lsD, lsE, lsF, lsG]) | ((with_reducible apply awp_cond); (focus (simp only [St.ev, St.set, upd, Nat.reduceEqDiff, reduceIte, ifA, ifB, hA, a1, a2, a3, a4, nmA, Nat.reduceAdd, ifA, ifB]; exact rfl)); all_goals (intro hb; first | (cases hb; done) | ((try rw [hb]); (try simp only [dcA, dcB, dcC, dcD, dcE, Bool.not_eq_true', Bool.not_eq_false'] at hb)))) | ((with_reducible refine And.intro ?_ ?_); (focus omega)) | (refine aAppend_ints rfl rfl rfl rfl (Nat.le_of_ble_eq_true rfl) (by simp only [St.ev, St.set, upd, Nat.reduceEqDiff, reduceIte, ifA, ifB, hA, a1, a2, a3, a4, nmA, Nat.reduceAdd, ifA, ifB]; exact rfl) (by simp only [St.ev, St.set, upd, Nat.reduceEqDiff, reduceIte, ifA, ifB, hA, a1, a2, a3, a4, nmA, Nat.reduceAdd, ifA, ifB]; exact rfl) rfl (by first | decide | omega | (simp; done) | fail) ?_ ?_ ?_ ?_; (focus (first | rfl | omega | (simp; done) | (simp; omega) | (simp [szOf, tab]; done) | (simp [szOf, tab]; omega))); (focus (first | rfl | omega | (simp; done) | (simp; omega) | (simp [szOf, tab]; done) | (simp [szOf, tab]; omega))); (focus (first | rfl | omega | (simp; done) | (simp; omega) | (simp [szOf, tab]; done) | (simp [szOf, tab]; omega))); (try simp only [go_sem, Nat.reduceAdd, Nat.reduceMul, Nat.reduceEqDiff, Nat.reduceLT, reduceIte, reduceCtorEq, hA, a1, a2, a3, a4, nmA, Nat.reduceAdd, ifA, ifB])) | (simp only [doneH]; simp only [ressK, resK, wrapR, go_sem, Nat.reduceAdd, Nat.reduceMul, Nat.reduceEqDiff, Nat.reduceLT, reduceIte, reduceCtorEq, hA, a1, a2, a3, a4, nmA, Nat.reduceAdd, ifA, ifB]) | (exfalso; omega) | fail)
    refine hQ _ (n + 3) (n + 2) (fun _ => n + 1) ?_ (fun u hu => by (repeat rw [upd_ne _ _ (by omega)])) (by omega) (fun j hj => by omega)
    rw [ordR]
    refine ⟨by rw [upd_same]; rfl, by omega, fun j hj => ?_, fun j hj => ⟨by omega, by omega⟩, fun j l hj hl e => ?_⟩
    · have : j = 0 := by simpa using hj
      subst this
      rw [upd_ne _ _ (by omega), upd_same]; rfl
    · have h1 : j = 0 := by simpa using hj
      have h2 : l = 0 := by simpa using hl
      omega
  | succ k ih =>
    refine satH_intro tabOk Try.func45 rfl 66 rfl [.tmp 4] rfl ?_
    rintro F W h n al K0 ⟨hd0, O, bb, bg, f, rfl, hA, hM, hB, hbd, hcap, hQ⟩
    refine ⟨Nat.le_of_ble_eq_true rfl, fun m0 hm0 hcl hlt => ?_⟩
    simp only [initT]
    have hAn := (hcl hd0 _ hA).1
    have hOn := hM.outn
    have a1 : (hd0 = n) = False := eq_false (by omega)
    have a2 : (n = hd0) = False := eq_false (by omega)
    have a3 : ∀ k, (hd0 = n + k) = False := fun k => eq_false (by omega)
    have a4 : ∀ k, (n + k = hd0) = False := fun k => eq_false (by omega)


    repeat' (first | refine awp_seq_k fun K hK => ?_ | ((with_reducible refine hK _ ?_); clear hK K) | ((with_reducible refine aord_plain fun K hK => ?_); simp only [go_sem, Nat.reduceAdd, Nat.reduceMul, Nat.reduceEqDiff, Nat.reduceLT, reduceIte, reduceCtorEq, hA, a1, a2, a3, a4, nmA, Nat.reduceAdd, ifA, ifB, hA, a1, a2, a3, a4]) | refine awp_block ?_ | ((first | with_reducible refine aord_nil ?_ | refine awp_skip ?_ | refine awp_exit ?_ | refine awp_ret ?_); try simp only [rdA, Nat.reduceEqDiff, ifA, ifB, reduceIte]) | (refine awp_region tabOk rfl ?_; simp only [prep, pickO, lsA, lsB, lsC, lsD, lsE, lsF, lsG]) | ((with_reducible apply awp_cond); (focus (simp only [St.ev, St.set, upd, Nat.reduceEqDiff, reduceIte, ifA, ifB, hA, a1, a2, a3, a4, nmA, Nat.reduceAdd, ifA, ifB]; exact rfl)); all_goals (intro hb; first | (cases hb; done) | ((try rw [hb]); (try simp only [dcA, dcB, dcC, dcD, dcE, Bool.not_eq_true', Bool.not_eq_false'] at hb)))) | ((with_reducible refine And.intro ?_ ?_); (focus omega)) | (refine aAppend_ints rfl rfl rfl rfl (Nat.le_of_ble_eq_true rfl) (by simp only [St.ev, St.set, upd, Nat.reduceEqDiff, reduceIte, ifA, ifB, hA, a1, a2, a3, a4, nmA, Nat.reduceAdd, ifA, ifB]; exact rfl) (by simp only [St.ev, St.set, upd, Nat.reduceEqDiff, reduceIte, ifA, ifB, hA, a1, a2, a3, a4, nmA, Nat.reduceAdd, ifA, ifB]; exact rfl) rfl (by first | decide | omega | (simp; done) | fail) ?_ ?_ ?_ ?_; (focus (first | rfl | omega | (simp; done) | (simp; omega) | (simp [szOf, tab]; done) | (simp [szOf, tab]; omega))); (focus (first | rfl | omega | (simp; done) | (simp; omega) | (simp [szOf, tab]; done) | (simp [szOf, tab]; omega))); (focus (first | rfl | omega | (simp; done) | (simp; omega) | (simp [szOf, tab]; done) | (simp [szOf, tab]; omega))); (try simp only [go_sem, Nat.reduceAdd, Nat.reduceMul, Nat.reduceEqDiff, Nat.reduceLT, reduceIte, reduceCtorEq, hA, a1, a2, a3, a4, nmA, Nat.reduceAdd, ifA, ifB])) | (simp only [doneH]; simp only [ressK, resK, wrapR, go_sem, Nat.reduceAdd, Nat.reduceMul, Nat.reduceEqDiff, Nat.reduceLT, reduceIte, reduceCtorEq, hA, a1, a2, a3, a4, nmA, Nat.reduceAdd, ifA, ifB]) | (exfalso; omega) | fail)
    have hrcap := hcap
    rw [ordR] at hcap hQ
    refine awp_loop (fun q : Hp × Nat × Nat × (Nat → Nat) × Nat => ⟨upd (upd (upd (upd (upd bot 7 (.val (.int .i64 q.2.2.2.2))) 6 (.sl q.2.2.1 0 (sprTo r (fun x => ordR r d k (bg ++ [(x : Int)])) bg q.2.2.2.2).length 1 none)) 5 (.val (.int .i64 d))) 1 (.sl O 0 d 1 none)) 0 (.sl hd0 0 bg.length 1 none), q.1, q.2.1⟩) (fun q => q.2.2.2.2 ≤ d ∧ RowsOf q.1 q.2.1 q.2.2.1 q.2.2.2.1 (sprTo r (fun x => ordR r d k (bg ++ [(x : Int)])) bg q.2.2.2.2) ∧ (∀ u, u < n → q.1 u = h u) ∧ n ≤ q.2.2.1 ∧ ∀ j, j < (sprTo r (fun x => ordR r d k (bg ++ [(x : Int)])) bg q.2.2.2.2).length → n ≤ q.2.2.2.1 j) (fun q => d - q.2.2.2.2) (upd h n (some ⟨true, .cells []⟩), n + 1, n, (fun _ => 0), 0) ⟨Nat.zero_le _, ⟨upd_same _ _ _, by dsimp only; omega, fun j hj => by simp [sprTo] at hj, fun j hj => by simp [sprTo] at hj, fun j l hj => by simp [sprTo] at hj⟩, fun u hu => upd_ne _ _ (by omega), Nat.le_refl _, fun j hj => by simp [sprTo] at hj⟩ ?_ ?_
    · exact Wk.sub (tsd (tsd (tsd (tsd (tsd tsd0 rfl) rfl) rfl) rfl) rfl) (fun _ _ h => h) rfl
    rintro ⟨H, N, P, g, x⟩ ⟨hxd, hR, hfr, hnP, hg⟩
    dsimp only at hxd hR hfr hnP hg ⊢
    have hPN := hR.outn
    have HA := (hfr hd0 hAn).trans hA
    have HM := hM.keepN (show n ≤ N by omega) hfr
    have hO := HM.out
    have hml : (mCell f d d).length = d := mCell_len
    rcases Nat.lt_or_ge x d with hxlt | hxge
    · skip


      repeat' (first | refine awp_seq_k fun K hK => ?_ | ((with_reducible refine hK _ ?_); clear hK K) | (clear hK K; (with_reducible refine hK _ ?_); clear hK K) | ((with_reducible refine aord_plain fun K hK => ?_); simp only [go_sem, Nat.reduceAdd, Nat.reduceMul, Nat.reduceEqDiff, Nat.reduceLT, reduceIte, reduceCtorEq, HA, hO, hml, nmA, Nat.reduceAdd, ifA, ifB, HA, hO, hml]) | refine awp_block ?_ | ((first | with_reducible refine aord_nil ?_ | refine awp_skip ?_ | refine awp_exit ?_ | refine awp_ret ?_); try simp only [rdA, Nat.reduceEqDiff, ifA, ifB, reduceIte]) | (refine awp_region tabOk rfl ?_; simp only [prep, pickO, lsA, lsB, lsC, lsD, lsE, lsF, lsG]) | ((with_reducible apply awp_cond); (focus (simp only [St.ev, St.set, upd, Nat.reduceEqDiff, reduceIte, ifA, ifB, HA, hO, hml, nmA, Nat.reduceAdd, ifA, ifB]; exact rfl)); all_goals (intro hb; first | (cases hb; done) | ((try rw [hb]); (try simp only [dcA, dcB, dcC, dcD, dcE, Bool.not_eq_true', Bool.not_eq_false'] at hb)))) | (simp only [doneH]; simp only [ressK, resK, wrapR, go_sem, Nat.reduceAdd, Nat.reduceMul, Nat.reduceEqDiff, Nat.reduceLT, reduceIte, reduceCtorEq, HA, hO, hml, nmA, Nat.reduceAdd, ifA, ifB]) | (exfalso; omega) | fail)
      refine awp_loop (fun i : Nat => ⟨upd (upd (upd (upd (upd (upd (upd bot 9 (.val (.int .i64 i))) 8 (.val (.bool (okS r (bg.take i) x)))) 7 (.val (.int .i64 x))) 6 (.sl P 0 (sprTo r (fun x => ordR r d k (bg ++ [(x : Int)])) bg x).length 1 none)) 5 (.val (.int .i64 d))) 1 (.sl O 0 d 1 none)) 0 (.sl hd0 0 bg.length 1 none), H, N⟩) (fun i => i ≤ bg.length) (fun i => bg.length - i) 0 (Nat.zero_le _) ?_ ?_
      · exact Wk.sub (tsd (tsd (tsd (tsd (tsd (tsd (tsd tsd0 rfl) rfl) rfl) rfl) rfl) rfl) rfl) (fun _ _ h => h) rfl
      intro i hib
      rcases Nat.lt_or_ge i bg.length with hilt | hige
      · have hok2 := okS_up (r := r) (x := x) hilt
        obtain ⟨y0, y1⟩ := hB.at hilt
        have hc := mCell_get (f := f) (n := d) hxlt
        have hrow := HM.row x hxlt
        have hrl : (mRow d (r x)).length = d := mRow_len
        have hget : (mRow d (r x)).getD (bg.getD i 0).toNat false = r x (bg.getD i 0).toNat := mRow_get (by omega)
        cases hok : okS r (bg.take i) x with
        | false =>
          rw [hok, Bool.false_and] at hok2


          repeat' (first | refine awp_seq_k fun K hK => ?_ | ((with_reducible refine hK _ ?_); clear hK K) | (clear hK K; (with_reducible refine hK _ ?_); clear hK K) | ((with_reducible refine aord_plain fun K hK => ?_); simp only [go_sem, Nat.reduceAdd, Nat.reduceMul, Nat.reduceEqDiff, Nat.reduceLT, reduceIte, reduceCtorEq, HA, hO, hml, hc, hrow, hrl, hget, hok, nmA, Nat.reduceAdd, ifA, ifB, HA, hO, hml, hc, hrow, hrl, hget, hok]) | ((with_reducible apply aord_guard); (focus (simp only [St.ev, St.set, upd, Nat.reduceEqDiff, reduceIte, ifA, ifB, HA, hO, hml, hc, hrow, hrl, hget, hok, nmA, Nat.reduceAdd, ifA, ifB]; exact rfl)); all_goals (intro hb; (try simp only [Bool.not_true, Bool.not_false] at hb); first | (cases hb; done) | ((try rw [hb]); (try simp only [Bool.not_eq_true', Bool.not_eq_false', Bool.and_eq_true, dcA, dcB, dcC, dcD, dcE] at hb); (try (revert hb; with_reducible refine true_imp_iff.2 ?_)); first | (intro K hK; simp only [go_sem, Nat.reduceAdd, Nat.reduceMul, Nat.reduceEqDiff, Nat.reduceLT, reduceIte, reduceCtorEq, HA, hO, hml, hc, hrow, hrl, hget, hok, nmA, Nat.reduceAdd, ifA, ifB]) | (simp only [St.ev, St.set, upd, Nat.reduceEqDiff, reduceIte, ifA, ifB, HA, hO, hml, hc, hrow, hrl, hget, hok, nmA, Nat.reduceAdd, ifA, ifB]) | skip))) | refine awp_block ?_ | ((first | with_reducible refine aord_nil ?_ | refine awp_skip ?_ | refine awp_exit ?_ | refine awp_ret ?_); try simp only [rdA, Nat.reduceEqDiff, ifA, ifB, reduceIte]) | (refine awp_region tabOk rfl ?_; simp only [prep, pickO, lsA, lsB, lsC, lsD, lsE, lsF, lsG]) | (refine awp_region_draw (nt := 66) (id := 12) tabOk [(0, true, false), (1, true, false), (2, true, false), (3, true, false), (4, true, false), (5, true, false), (6, true, false), (7, true, false), (8, true, false), (9, true, false), (10, true, false), (11, true, false), (12, true, false), (13, true, false), (14, true, false), (15, true, false), (16, true, false), (17, true, false), (18, true, false), (19, true, false), (20, true, false), (21, true, false), (22, true, false)] (by kernel_rfl) rfl (by kernel_rfl) ?_; simp only [prep, pickO, lsA, lsB, lsC, lsD, lsE, lsF, lsG]) | ((with_reducible apply awp_cond); (focus (simp only [St.ev, St.set, upd, Nat.reduceEqDiff, reduceIte, ifA, ifB, HA, hO, hml, hc, hrow, hrl, hget, hok, nmA, Nat.reduceAdd, ifA, ifB]; exact rfl)); all_goals (intro hb; first | (cases hb; done) | ((try rw [hb]); (try simp only [dcA, dcB, dcC, dcD, dcE, Bool.not_eq_true', Bool.not_eq_false'] at hb)))) | ((with_reducible refine And.intro ?_ ?_); (focus omega)) | (exfalso; omega) | fail)
          refine ⟨i + 1, by omega, by omega, Wk.sub (tsd (tsd (tsd (tsd (tsd (tsd (tsd tsd0 rfl) (by show AV.val (.bool (okS r (bg.take (i + 1)) x)) = _; rw [hok2]; rfl)) rfl) rfl) rfl) rfl) rfl) (fun _ _ h => h) rfl⟩
        | true =>
          rw [hok, Bool.true_and] at hok2
          cases hq2 : (bg.getD i 0 != (x : Int)) with
          | false =>


            repeat' (first | refine awp_seq_k fun K hK => ?_ | ((with_reducible refine hK _ ?_); clear hK K) | (clear hK K; (with_reducible refine hK _ ?_); clear hK K) | ((with_reducible refine aord_plain fun K hK => ?_); simp only [go_sem, Nat.reduceAdd, Nat.reduceMul, Nat.reduceEqDiff, Nat.reduceLT, reduceIte, reduceCtorEq, HA, hO, hml, hc, hrow, hrl, hget, hok, hq2, nmA, Nat.reduceAdd, ifA, ifB, HA, hO, hml, hc, hrow, hrl, hget, hok, hq2]) | ((with_reducible apply aord_guard); (focus (simp only [St.ev, St.set, upd, Nat.reduceEqDiff, reduceIte, ifA, ifB, HA, hO, hml, hc, hrow, hrl, hget, hok, hq2, nmA, Nat.reduceAdd, ifA, ifB]; exact rfl)); all_goals (intro hb; (try simp only [Bool.not_true, Bool.not_false] at hb); first | (cases hb; done) | ((try rw [hb]); (try simp only [Bool.not_eq_true', Bool.not_eq_false', Bool.and_eq_true, dcA, dcB, dcC, dcD, dcE] at hb); (try (revert hb; with_reducible refine true_imp_iff.2 ?_)); first | (intro K hK; simp only [go_sem, Nat.reduceAdd, Nat.reduceMul, Nat.reduceEqDiff, Nat.reduceLT, reduceIte, reduceCtorEq, HA, hO, hml, hc, hrow, hrl, hget, hok, hq2, nmA, Nat.reduceAdd, ifA, ifB]) | (simp only [St.ev, St.set, upd, Nat.reduceEqDiff, reduceIte, ifA, ifB, HA, hO, hml, hc, hrow, hrl, hget, hok, hq2, nmA, Nat.reduceAdd, ifA, ifB]) | skip))) | refine awp_block ?_ | ((first | with_reducible refine aord_nil ?_ | refine awp_skip ?_ | refine awp_exit ?_ | refine awp_ret ?_); try simp only [rdA, Nat.reduceEqDiff, ifA, ifB, reduceIte]) | (refine awp_region tabOk rfl ?_; simp only [prep, pickO, lsA, lsB, lsC, lsD, lsE, lsF, lsG]) | (refine awp_region_draw (nt := 66) (id := 12) tabOk [(0, true, false), (1, true, false), (2, true, false), (3, true, false), (4, true, false), (5, true, false), (6, true, false), (7, true, false), (8, true, false), (9, true, false), (10, true, false), (11, true, false), (12, true, false), (13, true, false), (14, true, false), (15, true, false), (16, true, false), (17, true, false), (18, true, false), (19, true, false), (20, true, false), (21, true, false), (22, true, false)] (by kernel_rfl) rfl (by kernel_rfl) ?_; simp only [prep, pickO, lsA, lsB, lsC, lsD, lsE, lsF, lsG]) | ((with_reducible apply awp_cond); (focus (simp only [St.ev, St.set, upd, Nat.reduceEqDiff, reduceIte, ifA, ifB, HA, hO, hml, hc, hrow, hrl, hget, hok, hq2, nmA, Nat.reduceAdd, ifA, ifB]; exact rfl)); all_goals (intro hb; first | (cases hb; done) | ((try rw [hb]); (try simp only [dcA, dcB, dcC, dcD, dcE, Bool.not_eq_true', Bool.not_eq_false'] at hb)))) | ((with_reducible refine And.intro ?_ ?_); (focus omega)) | (exfalso; omega) | fail)
            have hq3 : bg.getD i 0 = (x : Int) := by simpa using hq2
            rw [decide_eq_false (fun h => h hq3), Bool.false_and] at hok2
            refine ⟨i + 1, by omega, by omega, Wk.sub (tsd (tsd (tsd (tsd (tsd (tsd (tsd tsd0 rfl) (by show AV.val (.bool (okS r (bg.take (i + 1)) x)) = _; rw [hok2]; rfl)) rfl) rfl) rfl) rfl) rfl) (fun _ _ h => h) rfl⟩
          | true =>
            have hq3 : bg.getD i 0 ≠ (x : Int) := by simpa using hq2
            rw [decide_eq_true hq3, Bool.true_and] at hok2
            cases hw : r x (bg.getD i 0).toNat
            all_goals (
              rw [hw] at hok2


              repeat' (first | refine awp_seq_k fun K hK => ?_ | ((with_reducible refine hK _ ?_); clear hK K) | (clear hK K; (with_reducible refine hK _ ?_); clear hK K) | ((with_reducible refine aord_plain fun K hK => ?_); simp only [go_sem, Nat.reduceAdd, Nat.reduceMul, Nat.reduceEqDiff, Nat.reduceLT, reduceIte, reduceCtorEq, HA, hO, hml, hc, hrow, hrl, hget, hok, hq2, hw, nmA, Nat.reduceAdd, ifA, ifB, HA, hO, hml, hc, hrow, hrl, hget, hok, hq2, hw]) | ((with_reducible apply aord_guard); (focus (simp only [St.ev, St.set, upd, Nat.reduceEqDiff, reduceIte, ifA, ifB, HA, hO, hml, hc, hrow, hrl, hget, hok, hq2, hw, nmA, Nat.reduceAdd, ifA, ifB]; exact rfl)); all_goals (intro hb; (try simp only [Bool.not_true, Bool.not_false] at hb); first | (cases hb; done) | ((try rw [hb]); (try simp only [Bool.not_eq_true', Bool.not_eq_false', Bool.and_eq_true, dcA, dcB, dcC, dcD, dcE] at hb); (try (revert hb; with_reducible refine true_imp_iff.2 ?_)); first | (intro K hK; simp only [go_sem, Nat.reduceAdd, Nat.reduceMul, Nat.reduceEqDiff, Nat.reduceLT, reduceIte, reduceCtorEq, HA, hO, hml, hc, hrow, hrl, hget, hok, hq2, hw, nmA, Nat.reduceAdd, ifA, ifB]) | (simp only [St.ev, St.set, upd, Nat.reduceEqDiff, reduceIte, ifA, ifB, HA, hO, hml, hc, hrow, hrl, hget, hok, hq2, hw, nmA, Nat.reduceAdd, ifA, ifB]) | skip))) | refine awp_block ?_ | ((first | with_reducible refine aord_nil ?_ | refine awp_skip ?_ | refine awp_exit ?_ | refine awp_ret ?_); try simp only [rdA, Nat.reduceEqDiff, ifA, ifB, reduceIte]) | (refine awp_region tabOk rfl ?_; simp only [prep, pickO, lsA, lsB, lsC, lsD, lsE, lsF, lsG]) | (refine awp_region_draw (nt := 66) (id := 12) tabOk [(0, true, false), (1, true, false), (2, true, false), (3, true, false), (4, true, false), (5, true, false), (6, true, false), (7, true, false), (8, true, false), (9, true, false), (10, true, false), (11, true, false), (12, true, false), (13, true, false), (14, true, false), (15, true, false), (16, true, false), (17, true, false), (18, true, false), (19, true, false), (20, true, false), (21, true, false), (22, true, false)] (by kernel_rfl) rfl (by kernel_rfl) ?_; simp only [prep, pickO, lsA, lsB, lsC, lsD, lsE, lsF, lsG]) | ((with_reducible apply awp_cond); (focus (simp only [St.ev, St.set, upd, Nat.reduceEqDiff, reduceIte, ifA, ifB, HA, hO, hml, hc, hrow, hrl, hget, hok, hq2, hw, nmA, Nat.reduceAdd, ifA, ifB]; exact rfl)); all_goals (intro hb; first | (cases hb; done) | ((try rw [hb]); (try simp only [dcA, dcB, dcC, dcD, dcE, Bool.not_eq_true', Bool.not_eq_false'] at hb)))) | ((with_reducible refine And.intro ?_ ?_); (focus omega)) | (exfalso; omega) | fail))
            all_goals refine ⟨i + 1, by omega, by omega, Wk.sub (tsd (tsd (tsd (tsd (tsd (tsd (tsd tsd0 rfl) (by show AV.val (.bool (okS r (bg.take (i + 1)) x)) = _; rw [hok2]; rfl)) rfl) rfl) rfl) rfl) rfl) (fun _ _ h => h) rfl⟩
      · have ei : bg.length = i := by omega
        subst ei
        rw [List.take_length]
        have hstep : sprTo r (fun x => ordR r d k (bg ++ [(x : Int)])) bg (x + 1) = sprTo r (fun x => ordR r d k (bg ++ [(x : Int)])) bg x ++ (if okS r bg x = true then ordR r d k (bg ++ [(x : Int)]) else []) := rfl
        cases hok : okS r bg x with
        | false =>
          rw [hok, if_neg (by simp), List.append_nil] at hstep


          repeat' (first | refine awp_seq_k fun K hK => ?_ | ((with_reducible refine hK _ ?_); clear hK K) | (clear hK K; (with_reducible refine hK _ ?_); clear hK K) | ((with_reducible refine aord_plain fun K hK => ?_); simp only [go_sem, Nat.reduceAdd, Nat.reduceMul, Nat.reduceEqDiff, Nat.reduceLT, reduceIte, reduceCtorEq, HA, hO, hml, hok, nmA, Nat.reduceAdd, ifA, ifB, HA, hO, hml, hok]) | ((with_reducible apply aord_guard); (focus (simp only [St.ev, St.set, upd, Nat.reduceEqDiff, reduceIte, ifA, ifB, HA, hO, hml, hok, nmA, Nat.reduceAdd, ifA, ifB]; exact rfl)); all_goals (intro hb; (try simp only [Bool.not_true, Bool.not_false] at hb); first | (cases hb; done) | ((try rw [hb]); (try simp only [Bool.not_eq_true', Bool.not_eq_false', Bool.and_eq_true, dcA, dcB, dcC, dcD, dcE] at hb); (try (revert hb; with_reducible refine true_imp_iff.2 ?_)); first | (intro K hK; simp only [go_sem, Nat.reduceAdd, Nat.reduceMul, Nat.reduceEqDiff, Nat.reduceLT, reduceIte, reduceCtorEq, HA, hO, hml, hok, nmA, Nat.reduceAdd, ifA, ifB]) | (simp only [St.ev, St.set, upd, Nat.reduceEqDiff, reduceIte, ifA, ifB, HA, hO, hml, hok, nmA, Nat.reduceAdd, ifA, ifB]) | skip))) | refine awp_block ?_ | ((first | with_reducible refine aord_nil ?_ | refine awp_skip ?_ | refine awp_exit ?_ | refine awp_ret ?_); try simp only [rdA, Nat.reduceEqDiff, ifA, ifB, reduceIte]) | (refine awp_region tabOk rfl ?_; simp only [prep, pickO, lsA, lsB, lsC, lsD, lsE, lsF, lsG]) | (refine awp_region_draw (nt := 66) (id := 12) tabOk [(0, true, false), (1, true, false), (2, true, false), (3, true, false), (4, true, false), (5, true, false), (6, true, false), (7, true, false), (8, true, false), (9, true, false), (10, true, false), (11, true, false), (12, true, false), (13, true, false), (14, true, false), (15, true, false), (16, true, false), (17, true, false), (18, true, false), (19, true, false), (20, true, false), (21, true, false), (22, true, false)] (by kernel_rfl) rfl (by kernel_rfl) ?_; simp only [prep, pickO, lsA, lsB, lsC, lsD, lsE, lsF, lsG]) | ((with_reducible apply awp_cond); (focus (simp only [St.ev, St.set, upd, Nat.reduceEqDiff, reduceIte, ifA, ifB, HA, hO, hml, hok, nmA, Nat.reduceAdd, ifA, ifB]; exact rfl)); all_goals (intro hb; first | (cases hb; done) | ((try rw [hb]); (try simp only [dcA, dcB, dcC, dcD, dcE, Bool.not_eq_true', Bool.not_eq_false'] at hb)))) | ((with_reducible refine And.intro ?_ ?_); (focus omega)) | (exfalso; omega) | fail)
          refine ⟨(H, N, P, g, x + 1), ⟨by dsimp only; omega, by dsimp only; rw [hstep]; exact hR, hfr, hnP, by dsimp only; rw [hstep]; exact hg⟩, by dsimp only; omega, Wk.sub (tsd (tsd (tsd (tsd (tsd tsd0 rfl) (by dsimp only; rw [hstep]; rfl)) rfl) rfl) rfl) (fun _ _ h => h) rfl⟩
        | true =>
          rw [hok, if_pos rfl] at hstep
          have m1 : (hd0 = N) = False := eq_false (by omega)
          have m2 : (N = hd0) = False := eq_false (by omega)
          have m3 : ∀ k, (hd0 = N + k) = False := fun k => eq_false (by omega)
          have m4 : ∀ k, (N + k = hd0) = False := fun k => eq_false (by omega)
          have m5 : (P = N) = False := eq_false (by omega)
          have m6 : (N = P) = False := eq_false (by omega)
          have m7 : ∀ k, (P = N + k) = False := fun k => eq_false (by omega)
          have m8 : ∀ k, (N + k = P) = False := fun k => eq_false (by omega)
          have hbl : (bg ++ [(x : Int)]).length = bg.length + 1 := by rw [List.length_append]; rfl

          have hnm : (x : Int) ∉ bg := fun e => (okS_iff.1 hok _ e).1 rfl
          have hcx := sprTo_len r (fun x => ordR r d k (bg ++ [(x : Int)])) bg (show x + 1 ≤ d by omega)
          rw [hstep, List.length_append] at hcx
          have hPo := hR.out
          have hsl := @slsN_len g (sprTo r (fun x => ordR r d k (bg ++ [(x : Int)])) bg x) 0

          repeat' (first | refine awp_seq_k fun K hK => ?_ | ((with_reducible refine hK _ ?_); clear hK K) | (clear hK K; (with_reducible refine hK _ ?_); clear hK K) | ((with_reducible refine aord_plain fun K hK => ?_); simp only [go_sem, Nat.reduceAdd, Nat.reduceMul, Nat.reduceEqDiff, Nat.reduceLT, reduceIte, reduceCtorEq, HA, hO, hml, hok, m1, m2, m3, m4, m5, m6, m7, m8, nmA, Nat.reduceAdd, ifA, ifB, HA, hO, hml, hok, m1, m2, m3, m4, m5, m6, m7, m8]) | ((with_reducible apply aord_guard); (focus (simp only [St.ev, St.set, upd, Nat.reduceEqDiff, reduceIte, ifA, ifB, HA, hO, hml, hok, m1, m2, m3, m4, m5, m6, m7, m8, nmA, Nat.reduceAdd, ifA, ifB]; exact rfl)); all_goals (intro hb; (try simp only [Bool.not_true, Bool.not_false] at hb); first | (cases hb; done) | ((try rw [hb]); (try simp only [Bool.not_eq_true', Bool.not_eq_false', Bool.and_eq_true, dcA, dcB, dcC, dcD, dcE] at hb); (try (revert hb; with_reducible refine true_imp_iff.2 ?_)); first | (intro K hK; simp only [go_sem, Nat.reduceAdd, Nat.reduceMul, Nat.reduceEqDiff, Nat.reduceLT, reduceIte, reduceCtorEq, HA, hO, hml, hok, m1, m2, m3, m4, m5, m6, m7, m8, nmA, Nat.reduceAdd, ifA, ifB]) | (simp only [St.ev, St.set, upd, Nat.reduceEqDiff, reduceIte, ifA, ifB, HA, hO, hml, hok, m1, m2, m3, m4, m5, m6, m7, m8, nmA, Nat.reduceAdd, ifA, ifB]) | skip))) | refine awp_block ?_ | ((first | with_reducible refine aord_nil ?_ | refine awp_skip ?_ | refine awp_exit ?_ | refine awp_ret ?_); try simp only [rdA, Nat.reduceEqDiff, ifA, ifB, reduceIte]) | (refine awp_region tabOk rfl ?_; simp only [prep, pickO, lsA, lsB, lsC, lsD, lsE, lsF, lsG]) | (refine awp_region_draw (nt := 66) (id := 12) tabOk [(0, true, false), (1, true, false), (2, true, false), (3, true, false), (4, true, false), (5, true, false), (6, true, false), (7, true, false), (8, true, false), (9, true, false), (10, true, false), (11, true, false), (12, true, false), (13, true, false), (14, true, false), (15, true, false), (16, true, false), (17, true, false), (18, true, false), (19, true, false), (20, true, false), (21, true, false), (22, true, false)] (by kernel_rfl) rfl (by kernel_rfl) ?_; simp only [prep, pickO, lsA, lsB, lsC, lsD, lsE, lsF, lsG]) | ((with_reducible apply awp_cond); (focus (simp only [St.ev, St.set, upd, Nat.reduceEqDiff, reduceIte, ifA, ifB, HA, hO, hml, hok, m1, m2, m3, m4, m5, m6, m7, m8, nmA, Nat.reduceAdd, ifA, ifB]; exact rfl)); all_goals (intro hb; first | (cases hb; done) | ((try rw [hb]); (try simp only [dcA, dcB, dcC, dcD, dcE, Bool.not_eq_true', Bool.not_eq_false'] at hb)))) | ((with_reducible refine And.intro ?_ ?_); (focus omega)) | ((with_reducible refine And.intro (?_ : enters Try.prog 45) ?_); (focus exact Try.call45); (refine callX_satH ih ?_); simp only [go_sem, and_assoc, List.nil_append, List.append_nil, List.cons_append, Nat.reduceEqDiff, reduceIte, reduceCtorEq, HA, hO, hml, hok, m1, m2, m3, m4, m5, m6, m7, m8, nmA, Nat.reduceAdd, ifA, ifB, HA, hO, hml, hok, m1, m2, m3, m4, m5, m6, m7, m8]) | (refine aAppend_ints rfl rfl rfl rfl (Nat.le_of_ble_eq_true rfl) (by simp only [St.ev, St.set, upd, Nat.reduceEqDiff, reduceIte, ifA, ifB, HA, hO, hml, hok, m1, m2, m3, m4, m5, m6, m7, m8, nmA, Nat.reduceAdd, ifA, ifB]; exact rfl) (by simp only [St.ev, St.set, upd, Nat.reduceEqDiff, reduceIte, ifA, ifB, HA, hO, hml, hok, m1, m2, m3, m4, m5, m6, m7, m8, nmA, Nat.reduceAdd, ifA, ifB]; exact rfl) rfl (by first | decide | omega | (simp; done) | fail) ?_ ?_ ?_ ?_; (focus (first | rfl | omega | (simp; done) | (simp; omega) | (simp [szOf, tab]; done) | (simp [szOf, tab]; omega))); (focus (first | rfl | omega | (simp; done) | (simp; omega) | (simp [szOf, tab]; done) | (simp [szOf, tab]; omega))); (focus (first | rfl | omega | (simp; done) | (simp; omega) | (simp [szOf, tab]; done) | (simp [szOf, tab]; omega))); (try simp only [go_sem, Nat.reduceAdd, Nat.reduceMul, Nat.reduceEqDiff, Nat.reduceLT, reduceIte, reduceCtorEq, HA, hO, hml, hok, m1, m2, m3, m4, m5, m6, m7, m8, nmA, Nat.reduceAdd, ifA, ifB])) | (exfalso; omega) | fail)
          all_goals (
            refine ⟨O, true, bg ++ [(x : Int)], hbl.symm, rfl, rfl, rfl, f, HM.keepN (by omega) (fun u hu => by (repeat rw [upd_ne _ _ (by omega)])), hB.push hxlt hnm, by omega, by omega, fun H2 N2 P2 g2 r1 r2 r3 r4 => ?_⟩
            have s1 := r1.out
            have s2 := r1.outn
            have s3 : H2 P = some ⟨true, .cells (slsN g 0 (sprTo r (fun x => ordR r d k (bg ++ [(x : Int)])) bg x))⟩ := by
              rw [r2 P (by omega)]; (repeat rw [if_neg (by omega)]); exact hPo
            have hsl2 := @slsN_len g2 (ordR r d k (bg ++ [(x : Int)])) 0


            repeat' (first | ((with_reducible refine hK _ ?_); clear hK K) | ((with_reducible refine aord_plain fun K hK => ?_); simp only [go_sem, Nat.reduceAdd, Nat.reduceMul, Nat.reduceEqDiff, Nat.reduceLT, reduceIte, reduceCtorEq]) | fail)
            refine aAppend_cells rfl rfl rfl rfl (Nat.le_of_ble_eq_true rfl) s1 s3 (by omega) hsl hsl2 (by omega) ?_


            repeat' (first | ((with_reducible refine hK _ ?_); clear hK K) | ((with_reducible refine aord_plain fun K hK => ?_); simp only [go_sem, Nat.reduceAdd, Nat.reduceMul, Nat.reduceEqDiff, Nat.reduceLT, reduceIte, reduceCtorEq]) | ((first | with_reducible refine aord_nil ?_ | refine awp_skip ?_ | refine awp_exit ?_ | refine awp_ret ?_); try simp only [rdA, Nat.reduceEqDiff, ifA, ifB, reduceIte]) | (refine awp_region tabOk rfl ?_; simp only [prep, pickO, lsA, lsB, lsC, lsD, lsE, lsF, lsG]) | ((with_reducible refine And.intro ?_ ?_); (focus omega)) | fail)
            have hgl := hR.lt
            have hg2l := r1.lt
            have hll : (sprTo r (fun x => ordR r d k (bg ++ [(x : Int)])) bg x ++ ordR r d k (bg ++ [(x : Int)])).length = (sprTo r (fun x => ordR r d k (bg ++ [(x : Int)])) bg x).length + (ordR r d k (bg ++ [(x : Int)])).length := List.length_append
            refine ⟨(upd (upd H2 P none) N2 (some ⟨true, .cells (slsN g 0 (sprTo r (fun x => ordR r d k (bg ++ [(x : Int)])) bg x) ++ slsN g2 0 (ordR r d k (bg ++ [(x : Int)])))⟩), N2 + 1, N2, fun j => if j < (sprTo r (fun x => ordR r d k (bg ++ [(x : Int)])) bg x).length then g j else g2 (j - (sprTo r (fun x => ordR r d k (bg ++ [(x : Int)])) bg x).length), x + 1), ⟨by dsimp only; omega, ?_, fun u hu => ?_, by dsimp only; omega, fun j hj => ?_⟩, by dsimp only; omega, Wk.sub (tsd (tsd (tsd (tsd (tsd tsd0 rfl) (by dsimp only; rw [hstep, hll]; rfl)) rfl) rfl) rfl) (fun _ _ h => h) rfl⟩
            · dsimp only
              rw [hstep]
              refine hR.appN r1 (fun j hj => by have := r4 j hj; omega) (by omega) (Nat.le_refl _) (by omega) (upd_same _ _ _) (fun j hj => ?_) (fun j hj => ?_)
              · have := hgl j hj
                rw [upd_ne _ _ (by omega), upd_ne _ _ (by omega), r2 _ (by omega)]
                (repeat rw [if_neg (by omega)])
              · have := hg2l j hj
                have := r4 j hj
                rw [upd_ne _ _ (by omega), upd_ne _ _ (by omega)]
            · dsimp only
              rw [upd_ne _ _ (by omega), upd_ne _ _ (by omega), r2 _ (by omega)]
              (repeat rw [if_neg (by omega)])
              exact hfr u hu
            · dsimp only at hj ⊢
              rw [hstep, hll] at hj
              split
              · rename_i c; exact hg j c
              · have := r4 (j - (sprTo r (fun x => ordR r d k (bg ++ [(x : Int)])) bg x).length) (by omega); omega)
    · have ex : x = d := by omega
      subst ex


      repeat' (first | refine awp_seq_k fun K hK => ?_ | ((with_reducible refine hK _ ?_); clear hK K) | (clear hK K; (with_reducible refine hK _ ?_); clear hK K) | ((with_reducible refine aord_plain fun K hK => ?_); simp only [go_sem, Nat.reduceAdd, Nat.reduceMul, Nat.reduceEqDiff, Nat.reduceLT, reduceIte, reduceCtorEq]) | refine awp_block ?_ | ((first | with_reducible refine aord_nil ?_ | refine awp_skip ?_ | refine awp_exit ?_ | refine awp_ret ?_); try simp only [rdA, Nat.reduceEqDiff, ifA, ifB, reduceIte]) | (refine awp_region tabOk rfl ?_; simp only [prep, pickO, lsA, lsB, lsC, lsD, lsE, lsF, lsG]) | ((with_reducible apply awp_cond); (focus (simp only [St.ev, St.set, upd, Nat.reduceEqDiff, reduceIte, ifA, ifB]; exact rfl)); all_goals (intro hb; first | (cases hb; done) | ((try rw [hb]); (try simp only [dcA, dcB, dcC, dcD, dcE, Bool.not_eq_true', Bool.not_eq_false'] at hb)))) | (simp only [doneH]; simp only [ressK, resK, wrapR, go_sem, Nat.reduceAdd, Nat.reduceMul, Nat.reduceEqDiff, Nat.reduceLT, reduceIte, reduceCtorEq]) | (exfalso; omega) | fail)
      exact hQ H N P g hR hfr hnP hg

theorem orO_cap (z : Int) (fs : List (Int × Int)) : (orO z fs).length ≤ 120 := by
  by_cases h : VF z fs
  · obtain ⟨d, rfl⟩ : ∃ d : Nat, z = d := ⟨z.toNat, by have := h.1; omega⟩
    rw [orO_ag h]
    exact Nat.le_trans (List.length_filter_le _ _) (ordK_cap (by have := h.1; omega))
  · rw [orO_no h]; simp
theorem ordR_mem {r : Nat → Nat → Bool} {d : Nat} {q : List Int} : ∀ (k : Nat) {b : List Int}, q ∈ ordR r d k b → q.length = b.length + k
  | 0, b, h => by rw [ordR] at h; rw [List.mem_singleton.1 h]; rfl
  | k + 1, b, h => by
    rw [ordR] at h
    have key : ∀ i, q ∈ sprTo r (fun x => ordR r d k (b ++ [(x : Int)])) b i → q.length = b.length + (k + 1) := by
      intro i
      induction i with
      | zero => intro h; simp [sprTo] at h
      | succ i ih =>
        intro h
        rw [sprTo] at h
        rcases List.mem_append.1 h with h1 | h1
        · exact ih h1
        · split at h1
          · have := ordR_mem k h1
            rw [this, List.length_append]; simp only [List.length_cons, List.length_nil]; omega
          · simp at h1
    exact key d h
theorem orO_row {z : Int} {fs : List (Int × Int)} (j : Nat) : ((orO z fs).getD j []).length ≤ 5 := by
  by_cases c : j < (orO z fs).length
  · have hm : (orO z fs).getD j [] ∈ orO z fs := by rw [List.getD_eq_getElem?_getD, List.getElem?_eq_getElem c]; exact List.getElem_mem c
    by_cases h : VF z fs
    · obtain ⟨d, rfl⟩ : ∃ d : Nat, z = d := ⟨z.toNat, by have := h.1; omega⟩
      rw [orO_yes h] at hm ⊢
      have h1 := ordR_mem d hm
      have h2 := h.1
      rw [h1]; simp only [List.length_nil]; omega
    · rw [orO_no h] at c; simp at c
  · rw [List.getD_eq_getElem?_getD, List.getElem?_eq_none (by omega)]; simp


/-- In the rounds of Collect over filtered rows: the boxes, the two loops' records, and the rows that have been kept. -/
structure CI (h : Hp) (n : Nat) (f : Nat → Nat) (len : Nat) (LP LQ : Loop) (l : List (List Int)) (X : Nat) (g : Nat → Nat) (G : Hp) (M i : Nat) : Prop where
  fr : ∀ u, u < n → G u = h u
  c0 : G n = some ⟨true, .cells [.sl X 0 l.length 1 none]⟩
  c2 : G (n + 2) = some ⟨true, .raw (.loop LP)⟩
  c3 : G (n + 3) = some ⟨true, .cells [.yl (n + 2)]⟩
  c4 : G (n + 4) = some ⟨true, .raw (.loop LQ)⟩
  rows : RowsOf G M X g l
  nn : n + 5 ≤ M
  xm : X = n + 1 ∨ n + 5 ≤ X
  ix : ∀ j, j < l.length → ∃ m, m < i ∧ g j = f m
theorem CI.up {h : Hp} {n : Nat} {f : Nat → Nat} {len : Nat} {LP LQ : Loop} {l : List (List Int)} {X : Nat} {g : Nat → Nat} {G : Hp} {M i : Nat} (b : CI h n f len LP LQ l X g G M i) {G2 : Hp} {M2 : Nat} (hM : M ≤ M2) (e : ∀ u, u < M → G2 u = G u) : CI h n f len LP LQ l X g G2 M2 (i + 1) := by
  have h1 := b.nn
  have h2 := b.rows.lt
  have h3 := b.rows.outn
  exact ⟨fun u hu => (e u (by omega)).trans (b.fr u hu), (e _ (by omega)).trans b.c0, (e _ (by omega)).trans b.c2, (e _ (by omega)).trans b.c3, (e _ (by omega)).trans b.c4, b.rows.keepN hM (e _ h3) (fun j hj => e _ (h2 j hj).1), by omega, b.xm, fun j hj => by obtain ⟨m, h4, h5⟩ := b.ix j hj; exact ⟨m, by omega, h5⟩⟩


-- %range
theorem collectV_sat : SatH Try.prog 70 (fun al h n K => ∃ (VB KB FB SB A O : Nat) (b : Bool) (fs : List (Int × Int)) (xss : List (List Int)) (f : Nat → Nat), al = [.clo (.func 96) [] [.ref VB 0, .ref KB 0]] ∧ (h VB = some ⟨true, .cells [.clo (.func 93) [] [.ref SB 0]]⟩) ∧ (h KB = some ⟨true, .cells [.clo (.func 87) [] [.ref FB 0]]⟩) ∧ (h FB = some ⟨true, .cells [.sl A 0 fs.length 2 none]⟩) ∧ (h A = some ⟨b, .ints .i64 (flF fs)⟩) ∧ (h SB = some ⟨true, .cells [.sl O 0 xss.length 1 none]⟩) ∧ (RowsOf h n O f xss) ∧ (fs.length ≤ 1000) ∧ (xss.length ≤ 500) ∧ (∀ j, (xss.getD j []).length ≤ 1000) ∧ ∀ (H : Hp) (N P : Nat) (g : Nat → Nat), RowsOf H N P g (xss.filter (agB fs)) → n ≤ P → (∀ j, j < (xss.filter (agB fs)).length → ∃ m, m < xss.length ∧ g j = f m) → (∀ u, u < n → H u = h u) → n ≤ N → K (.sl P 0 (xss.filter (agB fs)).length 1 none) (H) (N)) := by
  refine satH_intro tabOk Try.func70 rfl 5 rfl [.tmp 2] rfl ?_
  rintro F W h n al K0 ⟨VB, KB, FB, SB, A, O, b, fs, xss, f, rfl, hV, hK1, hF, hA, hS, hR, hl, hxl, hx, hQ⟩
  refine ⟨Nat.le_of_ble_eq_true rfl, fun m0 hm0 hcl hlt => ?_⟩
  simp only [initT]
  have hVn := (hcl VB _ hV).1
  have hKn := (hcl KB _ hK1).1
  have hFn := (hcl FB _ hF).1
  have hAn := (hcl A _ hA).1
  have hSn := (hcl SB _ hS).1
  have hOn := hR.outn
  have hOr := hR.out
  have hsl := @slsN_len f xss 0
  have z1 : (VB = n) = False := eq_false (by omega)
  have z2 : ∀ k, (VB = n + k) = False := fun k => eq_false (by omega)
  have z3 : (KB = n) = False := eq_false (by omega)
  have z4 : ∀ k, (KB = n + k) = False := fun k => eq_false (by omega)
  have z5 : (SB = n) = False := eq_false (by omega)
  have z6 : ∀ k, (SB = n + k) = False := fun k => eq_false (by omega)
  have z7 : (O = n) = False := eq_false (by omega)
  have z8 : ∀ k, (O = n + k) = False := fun k => eq_false (by omega)
  have z9 : (FB = n) = False := eq_false (by omega)
  have za : ∀ k, (FB = n + k) = False := fun k => eq_false (by omega)
  have zb : (A = n) = False := eq_false (by omega)
  have zc : ∀ k, (A = n + k) = False := fun k => eq_false (by omega)
  have hZ := And.intro hV (And.intro hK1 (And.intro hF (And.intro hA (And.intro hS (And.intro hOr (And.intro z1 (And.intro z2 (And.intro z3 (And.intro z4 (And.intro z5 (And.intro z6 (And.intro z7 (And.intro z8 (And.intro z9 (And.intro za (And.intro zb zc))))))))))))))))


  repeat' (first | refine awp_seq_k fun K hK => ?_ | ((with_reducible refine hK _ ?_); clear hK K) | ((with_reducible refine aord_plain fun K hK => ?_); simp only [go_sem, Nat.reduceAdd, Nat.reduceMul, Nat.reduceEqDiff, Nat.reduceLT, reduceIte, reduceCtorEq, hZ, nmA, Nat.reduceAdd, ifA, ifB, hZ, hsl]) | refine awp_block ?_ | ((first | with_reducible refine aord_nil ?_ | refine awp_skip ?_ | refine awp_exit ?_ | refine awp_ret ?_); try simp only [rdA, Nat.reduceEqDiff, ifA, ifB, reduceIte]) | (refine awp_region tabOk rfl ?_; simp only [prep, pickO, lsA, lsB, lsC, lsD, lsE, lsF, lsG]) | ((with_reducible refine And.intro (?_ : enters Try.prog 85) ?_); (focus exact Try.call85); (refine callX_h (callH_inline tabOk Try.func85 rfl 13 rfl [.tmp 4] rfl (Nat.le_of_ble_eq_true rfl) fun m0 hm0 hcl hlt => ?_)); simp only [initT, St.ev, St.set, upd, Nat.reduceEqDiff, reduceIte, ifA, ifB, hZ, nmA, Nat.reduceAdd, ifA, ifB]) | fail)
  refine awp_nilcell n 0 [.val (.slice none 0 0)] (.cells []) rfl rfl (by simp only [St.ev, St.set, upd, Nat.reduceEqDiff, reduceIte, ifA, ifB, hZ, nmA, Nat.reduceAdd, ifA, ifB] <;> exact rfl) rfl ?_
  simp only [St.ev, St.set, upd, Nat.reduceEqDiff, reduceIte, ifA, ifB, hZ, nmA, Nat.reduceAdd, ifA, ifB, List.set_cons_zero]
  (refine awp_range (gf := 96) (by simp only [St.ev, St.set, upd, Nat.reduceEqDiff, reduceIte, ifA, ifB, hZ, nmA, Nat.reduceAdd, ifA, ifB]; first | exact fnV_clo | exact fnV_val) Try.call96 (fun LP LP1 LP2 LP3 LP4 LP5 => callX_h (callH_inline tabOk Try.func96 rfl 16 rfl [] rfl (Nat.le_of_ble_eq_true rfl) fun m0 hm0 hcl hlt => ?_)); simp only [List.nil_append, List.cons_append, initT, St.ev, St.set, upd, Nat.reduceEqDiff, reduceIte, ifA, ifB, hZ, nmA, Nat.reduceAdd, ifA, ifB])
  repeat' (first | refine awp_seq_k fun K hK => ?_ | ((with_reducible refine hK _ ?_); clear hK K) | ((with_reducible refine aord_plain fun K hK => ?_); simp only [go_sem, Nat.reduceAdd, Nat.reduceMul, Nat.reduceEqDiff, Nat.reduceLT, reduceIte, reduceCtorEq, hZ, nmA, Nat.reduceAdd, ifA, ifB, hZ, hsl]) | refine awp_block ?_ | ((first | with_reducible refine aord_nil ?_ | refine awp_skip ?_ | refine awp_exit ?_ | refine awp_ret ?_); try simp only [rdA, Nat.reduceEqDiff, ifA, ifB, reduceIte]) | (refine awp_region tabOk rfl ?_; simp only [prep, pickO, lsA, lsB, lsC, lsD, lsE, lsF, lsG]) | fail)
  (refine awp_range (gf := 93) (by simp only [St.ev, St.set, upd, Nat.reduceEqDiff, reduceIte, ifA, ifB, hZ, nmA, Nat.reduceAdd, ifA, ifB]; first | exact fnV_clo | exact fnV_val) Try.call93 (fun LQ LQ1 LQ2 LQ3 LQ4 LQ5 => callX_h (callH_inline tabOk Try.func93 rfl 16 rfl [] rfl (Nat.le_of_ble_eq_true rfl) fun m0 hm0 hcl hlt => ?_)); simp only [List.nil_append, List.cons_append, initT, St.ev, St.set, upd, Nat.reduceEqDiff, reduceIte, ifA, ifB, hZ, nmA, Nat.reduceAdd, ifA, ifB])
  repeat' (first | refine awp_seq_k fun K hK => ?_ | ((with_reducible refine hK _ ?_); clear hK K) | ((with_reducible refine aord_plain fun K hK => ?_); simp only [go_sem, Nat.reduceAdd, Nat.reduceMul, Nat.reduceEqDiff, Nat.reduceLT, reduceIte, reduceCtorEq, hZ, nmA, Nat.reduceAdd, ifA, ifB, hZ, hsl]) | refine awp_block ?_ | ((first | with_reducible refine aord_nil ?_ | refine awp_skip ?_ | refine awp_exit ?_ | refine awp_ret ?_); try simp only [rdA, Nat.reduceEqDiff, ifA, ifB, reduceIte]) | (refine awp_region tabOk rfl ?_; simp only [prep, pickO, lsA, lsB, lsC, lsD, lsE, lsF, lsG]) | fail)
  have hI : ∀ G, (∀ u, u < n → G u = h u) → G n = some ⟨true, .cells [.sl (n + 1) 0 0 1 none]⟩ → G (n + 1) = some ⟨true, .cells []⟩ → G (n + 2) = some ⟨true, .raw (.loop LP)⟩ → G (n + 3) = some ⟨true, .cells [.yl (n + 2)]⟩ → G (n + 4) = some ⟨true, .raw (.loop LQ)⟩ → CI h n f xss.length LP LQ [] (n + 1) (fun _ => 0) G (n + 5) 0 := fun G g1 g2 g3 g4 g5 g6 =>
    ⟨g1, g2, g4, g5, g6, ⟨g3, by omega, fun j hj => by simp at hj, fun j hj => by simp at hj, fun j l hj => by simp at hj⟩, Nat.le_refl _, .inl rfl, fun j hj => by simp at hj⟩
  refine awp_loop (fun q : Hp × Nat × Nat × (Nat → Nat) × Nat => ⟨upd (upd (upd (upd bot 7 (.val (.int .i64 q.2.2.2.2))) 6 (.val (.int .i64 xss.length))) 5 (.sl O 0 xss.length 1 none)) 0 (.yl (n + 4)), q.1, q.2.1⟩) (fun q => q.2.2.2.2 ≤ xss.length ∧ CI h n f xss.length LP LQ ((xss.take q.2.2.2.2).filter (agB fs)) q.2.2.1 q.2.2.2.1 q.1 q.2.1 q.2.2.2.2) (fun q => xss.length - q.2.2.2.2) ((upd (upd (upd (upd (upd (upd h n (some ⟨true, .cells [.val (.slice none 0 0)]⟩)) n (some ⟨true, .cells [.sl (n + 1) 0 0 1 none]⟩)) (n + 1) (some ⟨true, .cells []⟩)) (n + 2) (some ⟨true, .raw (.loop LP)⟩)) (n + 3) (some ⟨true, .cells [.yl (n + 2)]⟩)) (n + 4) (some ⟨true, .raw (.loop LQ)⟩)), n + 5, n + 1, (fun _ => 0), 0) ⟨Nat.zero_le _, hI _ ?_ ?_ ?_ ?_ ?_ ?_⟩ ?_ ?_
  · exact fun u hu => by dsimp only; (repeat rw [upd_ne _ _ (by omega)])
  · dsimp only; (repeat (first | rw [upd_same] | rw [upd_ne _ _ (by omega)]))
  · dsimp only; (repeat (first | rw [upd_same] | rw [upd_ne _ _ (by omega)]))
  · dsimp only; (repeat (first | rw [upd_same] | rw [upd_ne _ _ (by omega)]))
  · dsimp only; (repeat (first | rw [upd_same] | rw [upd_ne _ _ (by omega)]))
  · dsimp only; (repeat (first | rw [upd_same] | rw [upd_ne _ _ (by omega)]))
  · exact Wk.sub (tsd (tsd (tsd (tsd tsd0 rfl) rfl) rfl) rfl) (fun _ _ h => h) rfl
  clear hI
  rintro ⟨G, M, X, g, i⟩ ⟨hix, hI⟩
  dsimp only at hix hI ⊢
  have hnn := hI.nn
  have c0 := hI.c0
  have c2 := hI.c2
  have c3 := hI.c3
  have c4 := hI.c4
  have hfr := hI.fr
  have GV := (hfr VB hVn).trans hV
  have GK := (hfr KB hKn).trans hK1
  have GF := (hfr FB hFn).trans hF
  have GA := (hfr A hAn).trans hA
  have GS := (hfr SB hSn).trans hS
  have GO := (hfr O hOn).trans hOr
  have hN2 := And.intro c0 (And.intro c2 (And.intro c3 (And.intro c4 (And.intro GV (And.intro GK (And.intro GF (And.intro GA (And.intro GS GO))))))))
  rcases Nat.lt_or_ge i xss.length with hlt2 | hge
  · have hget := hR.get hlt2
    have hrow := (hfr (f i) (hR.lt i hlt2).1).trans (hR.row i hlt2)
    have hxi := hx i
    have hfi := hR.lt i hlt2
    have y1 : (f i = n) = False := eq_false (by omega)
    have y2 : ∀ k, (f i = n + k) = False := fun k => eq_false (by omega)
    generalize hfe : f i = q at *
    generalize hxe : xss.getD i [] = x at *
    have hY := And.intro hrow (And.intro y1 y2)


    repeat' (first | refine awp_seq_k fun K hK => ?_ | ((with_reducible refine hK _ ?_); clear hK K) | (clear hK K; (with_reducible refine hK _ ?_); clear hK K) | ((with_reducible refine aord_plain fun K hK => ?_); simp only [go_sem, Nat.reduceAdd, Nat.reduceMul, Nat.reduceEqDiff, Nat.reduceLT, reduceIte, reduceCtorEq, hN2, hZ, hY, nmA, Nat.reduceAdd, ifA, ifB, hN2, hZ, hY, hget, hsl]) | refine awp_block ?_ | ((first | with_reducible refine aord_nil ?_ | refine awp_skip ?_ | refine awp_exit ?_ | refine awp_ret ?_); try simp only [rdA, Nat.reduceEqDiff, ifA, ifB, reduceIte]) | (refine awp_region tabOk rfl ?_; simp only [prep, pickO, lsA, lsB, lsC, lsD, lsE, lsF, lsG]) | ((with_reducible apply awp_cond); (focus (simp only [St.ev, St.set, upd, Nat.reduceEqDiff, reduceIte, ifA, ifB, hN2, hZ, hY, nmA, Nat.reduceAdd, ifA, ifB]; exact rfl)); all_goals (intro hb; first | (cases hb; done) | ((try rw [hb]); (try simp only [dcA, dcB, dcC, dcD, dcE, Bool.not_eq_true', Bool.not_eq_false'] at hb)))) | ((with_reducible refine And.intro ?_ ?_); (focus omega)) | (simp only [doneH]; simp only [ressK, resK, wrapR, go_sem, Nat.reduceAdd, Nat.reduceMul, Nat.reduceEqDiff, Nat.reduceLT, reduceIte, reduceCtorEq, hN2, hZ, hY, nmA, Nat.reduceAdd, ifA, ifB]) | ((with_reducible apply endA_go); (focus (simp only [St.ev, St.set, upd, Nat.reduceEqDiff, reduceIte, ifA, ifB, hN2, hZ, hY, nmA, Nat.reduceAdd, ifA, ifB]; exact rfl)); (focus assumption); (focus assumption); (try simp only [rdA, Nat.reduceEqDiff, ifA, ifB, reduceIte])) | (exfalso; omega) | fail)
    (refine yield_round (lp := LQ) (by first | (simp only [St.ev, St.set, upd, Nat.reduceEqDiff, reduceIte, ifA, ifB, hN2, hZ, hY, nmA, Nat.reduceAdd, ifA, ifB]; done) | (simp only [St.ev, St.set, upd, Nat.reduceEqDiff, reduceIte, ifA, ifB, hN2, hZ, hY, nmA, Nat.reduceAdd, ifA, ifB]; exact rfl)) LQ1 LQ2 (by first | exact List.mem_cons_self | exact List.mem_cons_of_mem _ List.mem_cons_self | exact List.mem_cons_of_mem _ (List.mem_cons_of_mem _ List.mem_cons_self) | exact List.mem_cons_of_mem _ (List.mem_cons_of_mem _ (List.mem_cons_of_mem _ List.mem_cons_self))) (by first | (rw [LQ3]; done) | (rw [LQ3]; rfl)) (by rw [LQ3]; decide) (fun m0 hm0 hcl hlt => ?_); rw [LQ3, LQ4, LQ5]; simp only [zipT, St.ev, St.set, upd, Nat.reduceEqDiff, reduceIte, ifA, ifB, hN2, hZ, hY, nmA, Nat.reduceAdd, ifA, ifB])
    repeat' (first | refine awp_seq_k fun K hK => ?_ | ((with_reducible refine hK _ ?_); clear hK K) | ((with_reducible refine aord_plain fun K hK => ?_); simp only [go_sem, Nat.reduceAdd, Nat.reduceMul, Nat.reduceEqDiff, Nat.reduceLT, reduceIte, reduceCtorEq, hN2, hZ, hY, nmA, Nat.reduceAdd, ifA, ifB, hN2, hZ, hY, hget, hsl]) | refine awp_block ?_ | (refine awp_region tabOk rfl ?_; simp only [prep, pickO, lsA, lsB, lsC, lsD, lsE, lsF, lsG]) | ((with_reducible refine And.intro (?_ : enters Try.prog 87) ?_); (focus exact Try.call87); (refine callX_satH agree_sat ?_); simp only [go_sem, and_assoc, List.nil_append, List.append_nil, List.cons_append, Nat.reduceEqDiff, reduceIte, reduceCtorEq, hN2, hZ, hY, nmA, Nat.reduceAdd, ifA, ifB, hN2, hZ, hY, hget, hsl]) | fail)
    refine ⟨A, FB, true, b, x, rfl, rfl, rfl, rfl, fs, by rw [if_neg (by omega)]; exact GA, by rw [if_neg (by omega)]; exact GF, by omega, hl, fun N2 hN2b => ?_⟩
    have htk : xss.take (i + 1) = xss.take i ++ [x] := by
      rw [List.take_succ_eq_append_getElem hlt2]
      rw [List.getD_eq_getElem?_getD, List.getElem?_eq_getElem hlt2] at hxe
      exact congrArg (fun y => xss.take i ++ [y]) hxe
    cases hag : agB fs x with
    | false =>
      have hfl2 : (xss.take (i + 1)).filter (agB fs) = (xss.take i).filter (agB fs) := by rw [htk, List.filter_append, List.filter_cons_of_neg (by rw [hag]; simp), List.filter_nil, List.append_nil]


      repeat' (first | ((with_reducible refine hK _ ?_); clear hK K) | ((with_reducible refine aord_plain fun K hK => ?_); simp only [go_sem, Nat.reduceAdd, Nat.reduceMul, Nat.reduceEqDiff, Nat.reduceLT, reduceIte, reduceCtorEq, hN2, hZ, hY, hag, nmA, Nat.reduceAdd, ifA, ifB, hN2, hZ, hY, hag]) | ((with_reducible apply aord_guard); (focus (simp only [St.ev, St.set, upd, Nat.reduceEqDiff, reduceIte, ifA, ifB, hN2, hZ, hY, hag, nmA, Nat.reduceAdd, ifA, ifB]; exact rfl)); all_goals (intro hb; (try simp only [Bool.not_true, Bool.not_false] at hb); first | (cases hb; done) | ((try rw [hb]); (try simp only [Bool.not_eq_true', Bool.not_eq_false', Bool.and_eq_true, dcA, dcB, dcC, dcD, dcE] at hb); (try (revert hb; with_reducible refine true_imp_iff.2 ?_)); first | (intro K hK; simp only [go_sem, Nat.reduceAdd, Nat.reduceMul, Nat.reduceEqDiff, Nat.reduceLT, reduceIte, reduceCtorEq, hN2, hZ, hY, hag, nmA, Nat.reduceAdd, ifA, ifB]) | (simp only [St.ev, St.set, upd, Nat.reduceEqDiff, reduceIte, ifA, ifB, hN2, hZ, hY, hag, nmA, Nat.reduceAdd, ifA, ifB]) | skip))) | ((first | with_reducible refine aord_nil ?_ | refine awp_skip ?_ | refine awp_exit ?_ | refine awp_ret ?_); try simp only [rdA, Nat.reduceEqDiff, ifA, ifB, reduceIte]) | (refine awp_region tabOk rfl ?_; simp only [prep, pickO, lsA, lsB, lsC, lsD, lsE, lsF, lsG]) | ((with_reducible apply awp_cond); (focus (simp only [St.ev, St.set, upd, Nat.reduceEqDiff, reduceIte, ifA, ifB, hN2, hZ, hY, hag, nmA, Nat.reduceAdd, ifA, ifB]; exact rfl)); all_goals (intro hb; first | (cases hb; done) | ((try rw [hb]); (try simp only [dcA, dcB, dcC, dcD, dcE, Bool.not_eq_true', Bool.not_eq_false'] at hb)))) | ((with_reducible refine And.intro ?_ ?_); (focus omega)) | ((with_reducible refine roundA_normal ?_); simp only [St.ev, St.set, upd, Nat.reduceEqDiff, reduceIte, ifA, ifB, hN2, hZ, hY, hag, nmA, Nat.reduceAdd, ifA, ifB]) | fail)
      refine ⟨(upd (upd G (n + 4) none) (n + 4) (some ⟨true, .raw (.loop LQ)⟩), N2, X, g, i + 1), ⟨by dsimp only; omega, ?_⟩, by dsimp only; omega, Wk.sub (tsd (tsd (tsd (tsd tsd0 rfl) rfl) rfl) rfl) (fun _ _ h => h) rfl⟩
      dsimp only
      rw [hfl2]
      refine hI.up hN2b fun u hu => ?_
      by_cases e : u = n + 4
      · subst e; rw [upd_same]; exact c4.symm
      · rw [upd_ne _ _ e, upd_ne _ _ e]
    | true =>
      have hfl2 : (xss.take (i + 1)).filter (agB fs) = (xss.take i).filter (agB fs) ++ [x] := by rw [htk, List.filter_append, List.filter_cons_of_pos hag, List.filter_nil]
      have hll := List.length_filter_le (agB fs) (xss.take i)
      have hlt3 : (xss.take i).length ≤ 500 := by rw [List.length_take]; omega
      have hRw := hI.rows
      have hO := hRw.out
      have hXn := hRw.outn
      have hxm := hI.xm
      have hix2 := hI.ix
      have hsl2 := @slsN_len g ((xss.take i).filter (agB fs)) 0
      generalize hLL : (xss.take i).filter (agB fs) = L at *
      have v1 : (n = N2) = False := eq_false (by omega)
      have v2 : (N2 = n) = False := eq_false (by omega)
      have v3 : ∀ k, (n = N2 + k) = False := fun k => eq_false (by omega)
      have v4 : ∀ k, (N2 + k = n) = False := fun k => eq_false (by omega)
      have v5 : (n + 2 = N2) = False := eq_false (by omega)
      have v6 : (N2 = n + 2) = False := eq_false (by omega)
      have v7 : ∀ k, (n + 2 = N2 + k) = False := fun k => eq_false (by omega)
      have v8 : ∀ k, (N2 + k = n + 2) = False := fun k => eq_false (by omega)
      have v9 : (n + 4 = N2) = False := eq_false (by omega)
      have va : (N2 = n + 4) = False := eq_false (by omega)
      have vb : ∀ k, (n + 4 = N2 + k) = False := fun k => eq_false (by omega)
      have vc : ∀ k, (N2 + k = n + 4) = False := fun k => eq_false (by omega)
      have vd : (X = N2) = False := eq_false (by omega)
      have ve : (N2 = X) = False := eq_false (by omega)
      have vf : (X = n) = False := eq_false (by omega)
      have vg : (n = X) = False := eq_false (by omega)
      have vh : (X = n + 2) = False := eq_false (by omega)
      have vi : (n + 2 = X) = False := eq_false (by omega)
      have vj : (X = n + 4) = False := eq_false (by omega)
      have vk : (n + 4 = X) = False := eq_false (by omega)
      have hVm := And.intro v1 (And.intro v2 (And.intro v3 (And.intro v4 (And.intro v5 (And.intro v6 (And.intro v7 (And.intro v8 (And.intro v9 (And.intro va (And.intro vb (And.intro vc (And.intro vd (And.intro ve (And.intro vf (And.intro vg (And.intro vh (And.intro vi (And.intro vj vk))))))))))))))))))


      repeat' (first | ((with_reducible refine hK _ ?_); clear hK K) | ((with_reducible refine aord_plain fun K hK => ?_); simp only [go_sem, Nat.reduceAdd, Nat.reduceMul, Nat.reduceEqDiff, Nat.reduceLT, reduceIte, reduceCtorEq, hN2, hZ, hY, hag, nmA, Nat.reduceAdd, ifA, ifB, hN2, hZ, hY, hag]) | ((with_reducible apply aord_guard); (focus (simp only [St.ev, St.set, upd, Nat.reduceEqDiff, reduceIte, ifA, ifB, hN2, hZ, hY, hag, nmA, Nat.reduceAdd, ifA, ifB]; exact rfl)); all_goals (intro hb; (try simp only [Bool.not_true, Bool.not_false] at hb); first | (cases hb; done) | ((try rw [hb]); (try simp only [Bool.not_eq_true', Bool.not_eq_false', Bool.and_eq_true, dcA, dcB, dcC, dcD, dcE] at hb); (try (revert hb; with_reducible refine true_imp_iff.2 ?_)); first | (intro K hK; simp only [go_sem, Nat.reduceAdd, Nat.reduceMul, Nat.reduceEqDiff, Nat.reduceLT, reduceIte, reduceCtorEq, hN2, hZ, hY, hag, nmA, Nat.reduceAdd, ifA, ifB]) | (simp only [St.ev, St.set, upd, Nat.reduceEqDiff, reduceIte, ifA, ifB, hN2, hZ, hY, hag, nmA, Nat.reduceAdd, ifA, ifB]) | skip))) | fail)
      (refine yield_round (lp := LP) (by first | (simp only [St.ev, St.set, upd, Nat.reduceEqDiff, reduceIte, ifA, ifB, hN2, hZ, hY, hag, nmA, Nat.reduceAdd, ifA, ifB]; done) | (simp only [St.ev, St.set, upd, Nat.reduceEqDiff, reduceIte, ifA, ifB, hN2, hZ, hY, hag, nmA, Nat.reduceAdd, ifA, ifB]; exact rfl)) LP1 LP2 (by first | exact List.mem_cons_self | exact List.mem_cons_of_mem _ List.mem_cons_self | exact List.mem_cons_of_mem _ (List.mem_cons_of_mem _ List.mem_cons_self) | exact List.mem_cons_of_mem _ (List.mem_cons_of_mem _ (List.mem_cons_of_mem _ List.mem_cons_self))) (by first | (rw [LP3]; done) | (rw [LP3]; rfl)) (by rw [LP3]; decide) (fun m0 hm0 hcl hlt => ?_); rw [LP3, LP4, LP5]; simp only [zipT, St.ev, St.set, upd, Nat.reduceEqDiff, reduceIte, ifA, ifB, hN2, hZ, hY, hag, nmA, Nat.reduceAdd, ifA, ifB])


      repeat' (first | ((with_reducible refine hK _ ?_); clear hK K) | ((with_reducible refine aord_plain fun K hK => ?_); simp only [go_sem, Nat.reduceAdd, Nat.reduceMul, Nat.reduceEqDiff, Nat.reduceLT, reduceIte, reduceCtorEq, hN2, hZ, hY, hag, hVm, nmA, Nat.reduceAdd, ifA, ifB, hN2, hZ, hY, hag, hVm]) | refine awp_block ?_ | (refine awp_region tabOk rfl ?_; simp only [prep, pickO, lsA, lsB, lsC, lsD, lsE, lsF, lsG]) | ((with_reducible refine And.intro ?_ ?_); (focus omega)) | fail)
      refine aAppend_cells rfl rfl rfl rfl (Nat.le_of_ble_eq_true rfl) (upd_same _ _ _) (by rw [upd_ne _ _ (by omega), upd_ne _ _ (by omega), upd_ne _ _ (by omega)]; exact hO) (by omega) hsl2 rfl (by omega) ?_
      repeat' (first | ((with_reducible refine hK _ ?_); clear hK K) | ((with_reducible refine aord_plain fun K hK => ?_); simp only [go_sem, Nat.reduceAdd, Nat.reduceMul, Nat.reduceEqDiff, Nat.reduceLT, reduceIte, reduceCtorEq, hN2, hZ, hY, hag, hVm, nmA, Nat.reduceAdd, ifA, ifB, hN2, hZ, hY, hag, hVm]) | ((with_reducible apply aord_guard); (focus (simp only [St.ev, St.set, upd, Nat.reduceEqDiff, reduceIte, ifA, ifB, hN2, hZ, hY, hag, hVm, nmA, Nat.reduceAdd, ifA, ifB]; exact rfl)); all_goals (intro hb; (try simp only [Bool.not_true, Bool.not_false] at hb); first | (cases hb; done) | ((try rw [hb]); (try simp only [Bool.not_eq_true', Bool.not_eq_false', Bool.and_eq_true, dcA, dcB, dcC, dcD, dcE] at hb); (try (revert hb; with_reducible refine true_imp_iff.2 ?_)); first | (intro K hK; simp only [go_sem, Nat.reduceAdd, Nat.reduceMul, Nat.reduceEqDiff, Nat.reduceLT, reduceIte, reduceCtorEq, hN2, hZ, hY, hag, hVm, nmA, Nat.reduceAdd, ifA, ifB]) | (simp only [St.ev, St.set, upd, Nat.reduceEqDiff, reduceIte, ifA, ifB, hN2, hZ, hY, hag, hVm, nmA, Nat.reduceAdd, ifA, ifB]) | skip))) | ((first | with_reducible refine aord_nil ?_ | refine awp_skip ?_ | refine awp_exit ?_ | refine awp_ret ?_); try simp only [rdA, Nat.reduceEqDiff, ifA, ifB, reduceIte]) | (refine awp_region tabOk rfl ?_; simp only [prep, pickO, lsA, lsB, lsC, lsD, lsE, lsF, lsG]) | ((with_reducible apply awp_cond); (focus (simp only [St.ev, St.set, upd, Nat.reduceEqDiff, reduceIte, ifA, ifB, hN2, hZ, hY, hag, hVm, nmA, Nat.reduceAdd, ifA, ifB]; exact rfl)); all_goals (intro hb; first | (cases hb; done) | ((try rw [hb]); (try simp only [dcA, dcB, dcC, dcD, dcE, Bool.not_eq_true', Bool.not_eq_false'] at hb)))) | ((with_reducible refine And.intro ?_ ?_); (focus omega)) | ((with_reducible refine roundA_normal ?_); simp only [St.ev, St.set, upd, Nat.reduceEqDiff, reduceIte, ifA, ifB, hN2, hZ, hY, hag, hVm, nmA, Nat.reduceAdd, ifA, ifB]) | fail)
      have hx1 : (L ++ [x]).length = L.length + 1 := by rw [List.length_append]; rfl
      have hgn : ∀ j, j < L.length → g j < n ∧ q ≠ g j := fun j hj => by
        obtain ⟨m, h1, h2⟩ := hix2 j hj
        refine ⟨by rw [h2]; exact (hR.lt m (by omega)).1, fun e => ?_⟩
        rw [← hfe, h2] at e
        have := hR.inj i m hlt2 (by omega) e
        omega
      refine ⟨(upd (upd (upd (upd (upd (upd (upd (upd G (n + 4) none) (n + 2) none) N2 (some ⟨true, .cells [.sl q 0 x.length 1 none]⟩)) X none) (N2 + 1) (some ⟨true, .cells (slsN g 0 L ++ [.sl q 0 x.length 1 none])⟩)) n (some ⟨true, .cells [.sl (N2 + 1) 0 (L.length + 1) 1 none]⟩)) (n + 2) (some ⟨true, .raw (.loop LP)⟩)) (n + 4) (some ⟨true, .raw (.loop LQ)⟩), N2 + 2, N2 + 1, (fun j => if j = L.length then q else g j), i + 1), ⟨by dsimp only; omega, ?_⟩, by dsimp only; omega, Wk.sub (tsd (tsd (tsd (tsd tsd0 rfl) rfl) rfl) rfl) (fun _ _ h => h) rfl⟩
      dsimp only
      rw [hfl2]
      refine ⟨fun u hu => ?_, ?_, ?_, ?_, ?_, hRw.putN (by omega) (fun j hj => (hgn j hj).2) (by omega) (by omega) (by omega) ?_ ?_ (fun j hj => ?_), by omega, .inr (by omega), fun j hj => ?_⟩
      · (repeat rw [upd_ne _ _ (by omega)])
        exact hfr u hu
      · rw [hx1]; (repeat (first | rw [upd_same] | rw [upd_ne _ _ (by omega)]))
      · (repeat (first | rw [upd_same] | rw [upd_ne _ _ (by omega)]))
      · (repeat rw [upd_ne _ _ (by omega)])
        exact c3
      · (repeat (first | rw [upd_same] | rw [upd_ne _ _ (by omega)]))
      · (repeat (first | rw [upd_same] | rw [upd_ne _ _ (by omega)]))
      · (repeat rw [upd_ne _ _ (by omega)])
        exact hrow
      · have := (hgn j hj).1
        (repeat rw [upd_ne _ _ (by omega)])
      · rw [hx1] at hj
        by_cases e : j = L.length
        · exact ⟨i, by omega, by rw [if_pos e, hfe]⟩
        · obtain ⟨m, h1, h2⟩ := hix2 j (by omega)
          exact ⟨m, by omega, by rw [if_neg e]; exact h2⟩
  · have ei : i = xss.length := by omega
    subst ei
    rw [List.take_length] at hI


    repeat' (first | refine awp_seq_k fun K hK => ?_ | ((with_reducible refine hK _ ?_); clear hK K) | (clear hK K; (with_reducible refine hK _ ?_); clear hK K) | ((with_reducible refine aord_plain fun K hK => ?_); simp only [go_sem, Nat.reduceAdd, Nat.reduceMul, Nat.reduceEqDiff, Nat.reduceLT, reduceIte, reduceCtorEq, hN2, hZ, nmA, Nat.reduceAdd, ifA, ifB, hN2, hZ]) | refine awp_block ?_ | ((first | with_reducible refine aord_nil ?_ | refine awp_skip ?_ | refine awp_exit ?_ | refine awp_ret ?_); try simp only [rdA, Nat.reduceEqDiff, ifA, ifB, reduceIte]) | (refine awp_region tabOk rfl ?_; simp only [prep, pickO, lsA, lsB, lsC, lsD, lsE, lsF, lsG]) | ((with_reducible apply awp_cond); (focus (simp only [St.ev, St.set, upd, Nat.reduceEqDiff, reduceIte, ifA, ifB, hN2, hZ, nmA, Nat.reduceAdd, ifA, ifB]; exact rfl)); all_goals (intro hb; first | (cases hb; done) | ((try rw [hb]); (try simp only [dcA, dcB, dcC, dcD, dcE, Bool.not_eq_true', Bool.not_eq_false'] at hb)))) | ((with_reducible refine And.intro ?_ ?_); (focus omega)) | (simp only [doneH]; simp only [ressK, resK, wrapR, go_sem, Nat.reduceAdd, Nat.reduceMul, Nat.reduceEqDiff, Nat.reduceLT, reduceIte, reduceCtorEq, hN2, hZ, nmA, Nat.reduceAdd, ifA, ifB]) | ((with_reducible apply endA_go); (focus (simp only [St.ev, St.set, upd, Nat.reduceEqDiff, reduceIte, ifA, ifB, hN2, hZ, nmA, Nat.reduceAdd, ifA, ifB]; exact rfl)); (focus assumption); (focus assumption); (try simp only [rdA, Nat.reduceEqDiff, ifA, ifB, reduceIte])) | (exfalso; omega) | fail)
    have hxm := hI.xm
    have hrl := hI.rows.lt
    have hix2 := hI.ix
    have hfr2 : ∀ j, j < (xss.filter (agB fs)).length → g j < n := fun j hj => by
      obtain ⟨m, h1, h2⟩ := hix2 j hj
      rw [h2]; exact (hR.lt m h1).1
    exact hQ _ M X g (hI.rows.keepN (Nat.le_refl _) (by rw [upd_ne _ _ (by omega), upd_ne _ _ (by omega)]) (fun j hj => by have := hfr2 j hj; rw [upd_ne _ _ (by omega), upd_ne _ _ (by omega)])) (by omega) hix2 (fun u hu => by rw [upd_ne _ _ (by omega), upd_ne _ _ (by omega)]; exact hfr u hu) (by omega)

-- awp_region_tree
theorem split_sat : SatH Try.prog 43 (fun al h n K => ∃ (O : Nat) (f : Nat → Nat) (xss : List (List Int)) (a c : Int), al = [.sl O 0 xss.length 1 none, .agg [.val (.int .i64 a), .val (.int .i64 c)]] ∧ (RowsOf h n O f xss) ∧ (xss.length ≤ 500) ∧ (∀ j, (xss.getD j []).length ≤ 1000) ∧ ∀ (H : Hp) (N P1 P2 : Nat) (g1 g2 : Nat → Nat), RowsOf H N P1 g1 (xss.filter (agB [(a, c)])) → RowsOf H N P2 g2 (xss.filter (agB [(c, a)])) → (∀ u, u < n → H u = h u) → n ≤ P1 → n ≤ P2 → (∀ j, j < (xss.filter (agB [(a, c)])).length → ∃ m, m < xss.length ∧ g1 j = f m) → (∀ j, j < (xss.filter (agB [(c, a)])).length → ∃ m, m < xss.length ∧ g2 j = f m) → K (.tup [.sl P1 0 (xss.filter (agB [(a, c)])).length 1 none, .sl P2 0 (xss.filter (agB [(c, a)])).length 1 none]) (H) (N)) := by
  refine satH_intro tabOk Try.func43 rfl 21 rfl [.tmp 4, .tmp 5] rfl ?_
  rintro F W h n al K0 ⟨O, f, xss, a, c, rfl, hR, hxl, hx, hQ⟩
  refine ⟨Nat.le_of_ble_eq_true rfl, fun m0 hm0 hcl hlt => ?_⟩
  simp only [initT]
  have hOn := hR.outn
  have hOr := hR.out
  have m1 : (n = n + 1) = False := eq_false (by omega)
  have m2 : (n + 1 = n) = False := eq_false (by omega)
  have m3 : (n = n + 2) = False := eq_false (by omega)
  have m4 : (n + 2 = n) = False := eq_false (by omega)
  have hM := And.intro m1 (And.intro m2 (And.intro m3 m4))


  repeat' (first | refine awp_seq_k fun K hK => ?_ | ((with_reducible refine hK _ ?_); clear hK K) | ((with_reducible refine aord_plain fun K hK => ?_); simp only [go_sem, Nat.reduceAdd, Nat.reduceMul, Nat.reduceEqDiff, Nat.reduceLT, reduceIte, reduceCtorEq, hM, nmA, Nat.reduceAdd, ifA, ifB, mat.matL, DV.agg.injEq, hM, AV.clo.injEq, List.cons.injEq, AV.ref.injEq, and_true, true_and, Cont.cells.injEq, AV.sl.injEq]) | ((first | with_reducible refine aord_nil ?_ | refine awp_skip ?_ | refine awp_exit ?_ | refine awp_ret ?_); try simp only [rdA, Nat.reduceEqDiff, ifA, ifB, reduceIte]) | (refine awp_region tabOk rfl ?_; simp only [prep, pickO, lsA, lsB, lsC, lsD, lsE, lsF, lsG]) | (refine awp_region_tree (nt := 21) (id := 1) tabOk (.quiet 0 false (.one 1 true (.quiet 2 false (.one 3 false (.one 4 true (.one 5 true (.quiet 6 false .leaf) .stop) .stop) .stop)) (.one 2 false (.one 1 true (.one 3 false (.one 4 true (.one 5 true (.quiet 6 false .leaf) .stop) .stop) .stop) (.one 3 false (.one 1 true (.one 4 true (.one 5 true (.quiet 6 false .leaf) .stop) .stop) .stop) .stop)) .stop))) (by kernel_rfl) rfl (by kernel_rfl) ?_; simp only [aordT]) | ((with_reducible refine aordT_plain rfl (fun K hK => ?_)); simp only [go_sem, Nat.reduceAdd, Nat.reduceMul, Nat.reduceEqDiff, Nat.reduceLT, reduceIte, reduceCtorEq, hM, nmA, Nat.reduceAdd, ifA, ifB, mat.matL, DV.agg.injEq, hM, AV.clo.injEq, List.cons.injEq, AV.ref.injEq, and_true, true_and, Cont.cells.injEq, AV.sl.injEq]) | ((with_reducible refine both ?_ ?_)) | (simp only [aordT]; try simp only [rdA, Nat.reduceEqDiff, ifA, ifB, reduceIte]) | ((with_reducible refine And.intro (?_ : enters Try.prog 77) ?_); (focus exact Try.call77); (refine callX_h (callH_inline tabOk Try.func77 rfl 4 rfl [.tmp 2] rfl (Nat.le_of_ble_eq_true rfl) fun m0 hm0 hcl hlt => ?_)); simp only [initT, St.ev, St.set, upd, Nat.reduceEqDiff, reduceIte, ifA, ifB, hM, nmA, Nat.reduceAdd, ifA, ifB]) | (simp only [doneH]; simp only [ressK, resK, wrapR, go_sem, Nat.reduceAdd, Nat.reduceMul, Nat.reduceEqDiff, Nat.reduceLT, reduceIte, reduceCtorEq, hM, nmA, Nat.reduceAdd, ifA, ifB]) | fail)
  all_goals try (refine ⟨_, _, ⟨rfl, rfl⟩, Nat.le_of_ble_eq_true rfl, ?_⟩)
  repeat' (first | refine awp_seq_k fun K hK => ?_ | ((with_reducible refine hK _ ?_); clear hK K) | ((with_reducible refine aord_plain fun K hK => ?_); simp only [go_sem, Nat.reduceAdd, Nat.reduceMul, Nat.reduceEqDiff, Nat.reduceLT, reduceIte, reduceCtorEq, hM, nmA, Nat.reduceAdd, ifA, ifB, mat.matL, DV.agg.injEq, hM, AV.clo.injEq, List.cons.injEq, AV.ref.injEq, and_true, true_and, Cont.cells.injEq, AV.sl.injEq]) | ((first | with_reducible refine aord_nil ?_ | refine awp_skip ?_ | refine awp_exit ?_ | refine awp_ret ?_); try simp only [rdA, Nat.reduceEqDiff, ifA, ifB, reduceIte]) | (refine awp_region tabOk rfl ?_; simp only [prep, pickO, lsA, lsB, lsC, lsD, lsE, lsF, lsG]) | ((with_reducible refine aordT_plain rfl (fun K hK => ?_)); simp only [go_sem, Nat.reduceAdd, Nat.reduceMul, Nat.reduceEqDiff, Nat.reduceLT, reduceIte, reduceCtorEq, hM, nmA, Nat.reduceAdd, ifA, ifB, mat.matL, DV.agg.injEq, hM, AV.clo.injEq, List.cons.injEq, AV.ref.injEq, and_true, true_and, Cont.cells.injEq, AV.sl.injEq]) | ((with_reducible refine both ?_ ?_)) | (simp only [aordT]; try simp only [rdA, Nat.reduceEqDiff, ifA, ifB, reduceIte]) | ((with_reducible refine And.intro (?_ : enters Try.prog 70) ?_); (focus exact Try.call70); (refine callX_satH collectV_sat ?_); simp only [go_sem, and_assoc, List.nil_append, List.append_nil, List.cons_append, Nat.reduceEqDiff, reduceIte, reduceCtorEq, hM, nmA, Nat.reduceAdd, ifA, ifB, mat.matL, DV.agg.injEq, hM, AV.clo.injEq, List.cons.injEq, AV.ref.injEq, and_true, true_and, Cont.cells.injEq, AV.sl.injEq]) | ((with_reducible refine And.intro (?_ : enters Try.prog 77) ?_); (focus exact Try.call77); (refine callX_h (callH_inline tabOk Try.func77 rfl 4 rfl [.tmp 2] rfl (Nat.le_of_ble_eq_true rfl) fun m0 hm0 hcl hlt => ?_)); simp only [initT, St.ev, St.set, upd, Nat.reduceEqDiff, reduceIte, ifA, ifB, hM, nmA, Nat.reduceAdd, ifA, ifB]) | ((with_reducible refine And.intro (?_ : enters Try.prog 71) ?_); (focus exact Try.call71); (refine callX_h (callH_inline tabOk Try.func71 rfl 8 rfl [.tmp 4] rfl (Nat.le_of_ble_eq_true rfl) fun m0 hm0 hcl hlt => ?_)); simp only [initT, St.ev, St.set, upd, Nat.reduceEqDiff, reduceIte, ifA, ifB, hM, nmA, Nat.reduceAdd, ifA, ifB]) | ((with_reducible refine And.intro (?_ : enters Try.prog 86) ?_); (focus exact Try.call86); (refine callX_h (callH_inline tabOk Try.func86 rfl 6 rfl [.tmp 4] rfl (Nat.le_of_ble_eq_true rfl) fun m0 hm0 hcl hlt => ?_)); simp only [initT, St.ev, St.set, upd, Nat.reduceEqDiff, reduceIte, ifA, ifB, hM, nmA, Nat.reduceAdd, ifA, ifB]) | (simp only [doneH]; simp only [ressK, resK, wrapR, go_sem, Nat.reduceAdd, Nat.reduceMul, Nat.reduceEqDiff, Nat.reduceLT, reduceIte, reduceCtorEq, hM, nmA, Nat.reduceAdd, ifA, ifB]) | fail)
  all_goals (
    refine ⟨O, true, [(a, c)], rfl, rfl, rfl, rfl, xss, rfl, f, hR.keepN (by omega) (by (repeat rw [upd_ne _ _ (by omega)])) (fun j hj => by have := (hR.lt j hj).1; (repeat rw [upd_ne _ _ (by omega)])), by simp, hxl, hx, fun H1 N1 P1 g1 r1 r2 r3 r4 r5 => ?_⟩
    have q0 : H1 n = some ⟨true, .cells [.val (.int .i64 a), .val (.int .i64 c)]⟩ := by rw [r4 n (by omega)]; (repeat (first | rw [if_pos rfl] | rw [if_neg (by omega)]))
    have hR1 : RowsOf H1 N1 O f xss := hR.keepN (by omega) (by rw [r4 O (by omega)]; (repeat rw [if_neg (by omega)])) (fun j hj => by have := (hR.lt j hj).1; rw [r4 _ (by omega)]; (repeat rw [if_neg (by omega)]))
    have hfr1 : ∀ u, u < n → H1 u = h u := fun u hu => by rw [r4 u (by omega)]; (repeat rw [if_neg (by omega)])
    clear r4
    have hP1n := r1.outn
    have hg1 := r1.lt
    have k1 : (n = N1) = False := eq_false (by omega)
    have k2 : (N1 = n) = False := eq_false (by omega)
    have k3 : ∀ k, (n = N1 + k) = False := fun k => eq_false (by omega)
    have k4 : ∀ k, (N1 + k = n) = False := fun k => eq_false (by omega)
    have k5 : (N1 = N1 + 1) = False := eq_false (by omega)
    have k6 : (N1 + 1 = N1) = False := eq_false (by omega)
    have hK1 := And.intro q0 (And.intro k1 (And.intro k2 (And.intro k3 (And.intro k4 (And.intro k5 k6))))))


  repeat' (first | refine awp_seq_k fun K hK => ?_ | ((with_reducible refine hK _ ?_); clear hK K) | ((with_reducible refine aord_plain fun K hK => ?_); simp only [go_sem, Nat.reduceAdd, Nat.reduceMul, Nat.reduceEqDiff, Nat.reduceLT, reduceIte, reduceCtorEq, hK1, nmA, Nat.reduceAdd, ifA, ifB, mat.matL, DV.agg.injEq, hK1, AV.clo.injEq, List.cons.injEq, AV.ref.injEq, and_true, true_and, Cont.cells.injEq, AV.sl.injEq]) | ((first | with_reducible refine aord_nil ?_ | refine awp_skip ?_ | refine awp_exit ?_ | refine awp_ret ?_); try simp only [rdA, Nat.reduceEqDiff, ifA, ifB, reduceIte]) | (refine awp_region tabOk rfl ?_; simp only [prep, pickO, lsA, lsB, lsC, lsD, lsE, lsF, lsG]) | (refine awp_region_tree (nt := 21) (id := 2) tabOk (.quiet 0 false (.one 1 true (.quiet 2 false (.one 3 false (.one 4 false (.one 5 true (.one 6 true (.quiet 7 false .leaf) .stop) .stop) .stop) .stop)) (.one 2 false (.one 1 true (.one 3 false (.one 4 false (.one 5 true (.one 6 true (.quiet 7 false .leaf) .stop) .stop) .stop) .stop) .stop) .stop))) (by kernel_rfl) rfl (by kernel_rfl) ?_; simp only [aordT]) | ((with_reducible refine aordT_plain rfl (fun K hK => ?_)); simp only [go_sem, Nat.reduceAdd, Nat.reduceMul, Nat.reduceEqDiff, Nat.reduceLT, reduceIte, reduceCtorEq, hK1, nmA, Nat.reduceAdd, ifA, ifB, mat.matL, DV.agg.injEq, hK1, AV.clo.injEq, List.cons.injEq, AV.ref.injEq, and_true, true_and, Cont.cells.injEq, AV.sl.injEq]) | ((with_reducible refine both ?_ ?_)) | (simp only [aordT]; try simp only [rdA, Nat.reduceEqDiff, ifA, ifB, reduceIte]) | (simp only [rdA, Nat.reduceEqDiff, ifA, ifB, reduceIte]) | ((with_reducible refine And.intro (?_ : enters Try.prog 67) ?_); (focus exact Try.call67); (refine callX_sat opposite_sat ?_); simp only [go_sem, and_assoc, List.nil_append, List.append_nil, List.cons_append, Nat.reduceEqDiff, reduceIte, reduceCtorEq, hK1, nmA, Nat.reduceAdd, ifA, ifB, mat.matL, DV.agg.injEq, hK1, AV.clo.injEq, List.cons.injEq, AV.ref.injEq, and_true, true_and, Cont.cells.injEq, AV.sl.injEq]) | ((with_reducible refine And.intro (?_ : enters Try.prog 77) ?_); (focus exact Try.call77); (refine callX_h (callH_inline tabOk Try.func77 rfl 4 rfl [.tmp 2] rfl (Nat.le_of_ble_eq_true rfl) fun m0 hm0 hcl hlt => ?_)); simp only [initT, St.ev, St.set, upd, Nat.reduceEqDiff, reduceIte, ifA, ifB, hK1, nmA, Nat.reduceAdd, ifA, ifB]) | (simp only [doneH]; simp only [ressK, resK, wrapR, go_sem, Nat.reduceAdd, Nat.reduceMul, Nat.reduceEqDiff, Nat.reduceLT, reduceIte, reduceCtorEq, hK1, nmA, Nat.reduceAdd, ifA, ifB]) | fail)
  all_goals try (refine ⟨_, _, ⟨rfl, rfl⟩, Nat.le_of_ble_eq_true rfl, ?_⟩)
  repeat' (first | refine awp_seq_k fun K hK => ?_ | ((with_reducible refine hK _ ?_); clear hK K) | ((with_reducible refine aord_plain fun K hK => ?_); simp only [go_sem, Nat.reduceAdd, Nat.reduceMul, Nat.reduceEqDiff, Nat.reduceLT, reduceIte, reduceCtorEq, hK1, nmA, Nat.reduceAdd, ifA, ifB, mat.matL, DV.agg.injEq, hK1, AV.clo.injEq, List.cons.injEq, AV.ref.injEq, and_true, true_and, Cont.cells.injEq, AV.sl.injEq]) | ((first | with_reducible refine aord_nil ?_ | refine awp_skip ?_ | refine awp_exit ?_ | refine awp_ret ?_); try simp only [rdA, Nat.reduceEqDiff, ifA, ifB, reduceIte]) | (refine awp_region tabOk rfl ?_; simp only [prep, pickO, lsA, lsB, lsC, lsD, lsE, lsF, lsG]) | ((with_reducible refine aordT_plain rfl (fun K hK => ?_)); simp only [go_sem, Nat.reduceAdd, Nat.reduceMul, Nat.reduceEqDiff, Nat.reduceLT, reduceIte, reduceCtorEq, hK1, nmA, Nat.reduceAdd, ifA, ifB, mat.matL, DV.agg.injEq, hK1, AV.clo.injEq, List.cons.injEq, AV.ref.injEq, and_true, true_and, Cont.cells.injEq, AV.sl.injEq]) | ((with_reducible refine both ?_ ?_)) | (simp only [aordT]; try simp only [rdA, Nat.reduceEqDiff, ifA, ifB, reduceIte]) | ((with_reducible refine And.intro (?_ : enters Try.prog 70) ?_); (focus exact Try.call70); (refine callX_satH collectV_sat ?_); simp only [go_sem, and_assoc, List.nil_append, List.append_nil, List.cons_append, Nat.reduceEqDiff, reduceIte, reduceCtorEq, hK1, nmA, Nat.reduceAdd, ifA, ifB, mat.matL, DV.agg.injEq, hK1, AV.clo.injEq, List.cons.injEq, AV.ref.injEq, and_true, true_and, Cont.cells.injEq, AV.sl.injEq]) | ((with_reducible refine And.intro (?_ : enters Try.prog 71) ?_); (focus exact Try.call71); (refine callX_h (callH_inline tabOk Try.func71 rfl 8 rfl [.tmp 4] rfl (Nat.le_of_ble_eq_true rfl) fun m0 hm0 hcl hlt => ?_)); simp only [initT, St.ev, St.set, upd, Nat.reduceEqDiff, reduceIte, ifA, ifB, hK1, nmA, Nat.reduceAdd, ifA, ifB]) | ((with_reducible refine And.intro (?_ : enters Try.prog 86) ?_); (focus exact Try.call86); (refine callX_h (callH_inline tabOk Try.func86 rfl 6 rfl [.tmp 4] rfl (Nat.le_of_ble_eq_true rfl) fun m0 hm0 hcl hlt => ?_)); simp only [initT, St.ev, St.set, upd, Nat.reduceEqDiff, reduceIte, ifA, ifB, hK1, nmA, Nat.reduceAdd, ifA, ifB]) | (simp only [doneH]; simp only [ressK, resK, wrapR, go_sem, Nat.reduceAdd, Nat.reduceMul, Nat.reduceEqDiff, Nat.reduceLT, reduceIte, reduceCtorEq, hK1, nmA, Nat.reduceAdd, ifA, ifB]) | fail)
  all_goals (
    refine ⟨O, true, [(c, a)], rfl, rfl, rfl, rfl, xss, rfl, f, hR1.keepN (by omega) (by (repeat rw [upd_ne _ _ (by omega)])) (fun j hj => by have := (hR1.lt j hj).1; (repeat rw [upd_ne _ _ (by omega)])), by simp, hxl, hx, fun H2 N2 P2 g2 s1 s2 s3 s4 s5 => ?_⟩
    have hR2 : RowsOf H2 N2 P1 g1 (xss.filter (agB [(a, c)])) := r1.keepN (by omega) (by rw [s4 _ (by omega)]; (repeat rw [if_neg (by omega)])) (fun j hj => by have := (hg1 j hj).1; rw [s4 _ (by omega)]; (repeat rw [if_neg (by omega)]))
    have hfr2 : ∀ u, u < n → H2 u = h u := fun u hu => by rw [s4 u (by omega)]; (repeat rw [if_neg (by omega)]); exact hfr1 u hu
    clear s4)


  repeat' (first | refine awp_seq_k fun K hK => ?_ | ((with_reducible refine hK _ ?_); clear hK K) | ((with_reducible refine aord_plain fun K hK => ?_); simp only [go_sem, Nat.reduceAdd, Nat.reduceMul, Nat.reduceEqDiff, Nat.reduceLT, reduceIte, reduceCtorEq]) | ((first | with_reducible refine aord_nil ?_ | refine awp_skip ?_ | refine awp_exit ?_ | refine awp_ret ?_); try simp only [rdA, Nat.reduceEqDiff, ifA, ifB, reduceIte]) | (refine awp_region tabOk rfl ?_; simp only [prep, pickO, lsA, lsB, lsC, lsD, lsE, lsF, lsG]) | ((with_reducible refine aordT_plain rfl (fun K hK => ?_)); simp only [go_sem, Nat.reduceAdd, Nat.reduceMul, Nat.reduceEqDiff, Nat.reduceLT, reduceIte, reduceCtorEq]) | (simp only [rdA, Nat.reduceEqDiff, ifA, ifB, reduceIte]) | (simp only [doneH]; simp only [ressK, resK, wrapR, go_sem, Nat.reduceAdd, Nat.reduceMul, Nat.reduceEqDiff, Nat.reduceLT, reduceIte, reduceCtorEq]) | fail)
  all_goals exact hQ H2 N2 P1 P2 g1 g2 hR2 s1 hfr2 (by omega) (by omega) r3 s3

/-- One item stands ahead of another one. -/
def ahP (a c : Int) (p : List Int) : Bool := decide (0 ≤ fstAt p a p.length ∧ (fstAt p c p.length < 0 ∨ fstAt p a p.length < fstAt p c p.length))
theorem ah_yes {a c : Int} {p : List Int} {i : Nat} (hac : a ≠ c) (hi : i < p.length) (hj : ∀ j, j < i → p.getD j 0 ≠ a ∧ p.getD j 0 ≠ c) (h : p.getD i 0 = a) : ahP a c p = true := by
  have h1 := fst_at hi h fun j hj2 => (hj j hj2).1
  refine decide_eq_true ⟨by omega, ?_⟩
  by_cases h2' : fstAt p c p.length < 0
  · exact .inl h2'
  · right
    have h2 : 0 ≤ fstAt p c p.length := by omega
    obtain ⟨_, h3, h4⟩ := fst_in (p := p) (v := c) p.length
    have h5 := h4 h2
    rcases Nat.lt_or_ge i (fstAt p c p.length).toNat with h6 | h6
    · omega
    · rcases Nat.lt_or_ge (fstAt p c p.length).toNat i with h7 | h7
      · exact ((hj _ h7).2 h5).elim
      · have h8 : (fstAt p c p.length).toNat = i := by omega
        rw [h8] at h5
        exact (hac (h.symm.trans h5)).elim
theorem ah_no {a c : Int} {p : List Int} {i : Nat} (hac : a ≠ c) (hi : i < p.length) (hj : ∀ j, j < i → p.getD j 0 ≠ a ∧ p.getD j 0 ≠ c) (h : p.getD i 0 = c) : ahP a c p = false := by
  have h1 := fst_at hi h fun j hj2 => (hj j hj2).2
  refine decide_eq_false fun ⟨h2, h3⟩ => ?_
  obtain ⟨_, h4, h5⟩ := fst_in (p := p) (v := a) p.length
  have h6 := h5 h2
  rcases Nat.lt_or_ge (fstAt p a p.length).toNat i with h7 | h7
  · exact (hj _ h7).1 h6
  · have h8 : (fstAt p a p.length).toNat = i := by omega
    rw [h8] at h6
    exact hac (h6.symm.trans h)
theorem ah_end {a c : Int} {p : List Int} (hj : ∀ j, j < p.length → p.getD j 0 ≠ a ∧ p.getD j 0 ≠ c) : ahP a c p = false := by
  have h1 := fst_none p.length fun j hj2 => (hj j hj2).1
  exact decide_eq_false fun ⟨h2, _⟩ => by omega
theorem orO_beg {d : Nat} {fs : List (Int × Int)} (h : VF d fs) {p : List Int} (hp : p ∈ orO d fs) : Beg d p ∧ p.length = d := by
  rw [orO_ag h] at hp
  obtain ⟨h1, h2, _⟩ := ordK_mem d .nil (List.mem_filter.1 hp).1
  exact ⟨h1, by simpa using h2⟩
theorem ag_one {d : Nat} {p : List Int} {a c : Int} (hp : Beg d p) (hl : p.length = d) (ha : 0 ≤ a ∧ a < d) (hc : 0 ≤ c ∧ c < d) (hac : a ≠ c) : ahP a c p = agB [(a, c)] p ∧ agB [(c, a)] p = !agB [(a, c)] p := by
  obtain ⟨i, h1, h2, h3⟩ := hp.all hl ha
  obtain ⟨j, h4, h5, h6⟩ := hp.all hl hc
  have hij : i ≠ j := fun e => hac (by rw [← h2, ← h5, e])
  have e1 : ahP a c p = decide (i < j) := by
    unfold ahP; rw [h3, h6]
    exact decide_eq_decide.2 ⟨fun h => by omega, fun h => ⟨by omega, .inr (by omega)⟩⟩
  have e2 : agB [(a, c)] p = decide (i < j) := by
    unfold agB
    simp only [List.all_cons, List.all_nil, Bool.and_true]
    rw [h3, h6]
    exact decide_eq_decide.2 ⟨fun h => by omega, fun h => by omega⟩
  have e3 : agB [(c, a)] p = decide (j < i) := by
    unfold agB
    simp only [List.all_cons, List.all_nil, Bool.and_true]
    rw [h3, h6]
    exact decide_eq_decide.2 ⟨fun h => by omega, fun h => by omega⟩
  refine ⟨e1.trans e2.symm, ?_⟩
  rw [e3, e2]
  rcases Nat.lt_or_ge i j with h | h
  · rw [decide_eq_true h, decide_eq_false (show ¬ j < i by omega)]; rfl
  · rw [decide_eq_false (show ¬ i < j by omega), decide_eq_true (show j < i by omega)]; rfl
theorem filter_neg {f g : List Int → Bool} : ∀ {l : List (List Int)}, (∀ p, p ∈ l → g p = !f p) → (l.filter g).length + (l.filter f).length = l.length
  | [], _ => rfl
  | p :: l, h => by
    have h1 := h p (by simp)
    have ih := filter_neg (f := f) (g := g) (l := l) fun q hq => h q (by simp [hq])
    cases e : f p with
    | true =>
      rw [e] at h1
      rw [List.filter_cons_of_neg (by rw [h1]; simp), List.filter_cons_of_pos e, List.length_cons, List.length_cons]; omega
    | false =>
      rw [e] at h1
      rw [List.filter_cons_of_pos (by rw [h1]; rfl), List.filter_cons_of_neg (by rw [e]; simp), List.length_cons, List.length_cons]; omega
/-- SplitOf's answer. -/
def spI (z a c : Int) : Prop := ((0 ≤ a ∧ a < z) ∧ 0 ≤ c ∧ c < z) ∧ a ≠ c
noncomputable def spA (z : Int) (fs : List (Int × Int)) (a c : Int) : Int := by classical exact if VF z fs ∧ spI z a c then ((((orO z fs).filter (agB [(a, c)])).length : Nat) : Int) else -1
theorem spA_yes {z : Int} {fs : List (Int × Int)} {a c : Int} (h : VF z fs) (h2 : spI z a c) : spA z fs a c = ((((orO z fs).filter (agB [(a, c)])).length : Nat) : Int) := by unfold spA; rw [if_pos ⟨h, h2⟩]
theorem spA_no {z : Int} {fs : List (Int × Int)} {a c : Int} (h : ¬ (VF z fs ∧ spI z a c)) : spA z fs a c = -1 := by unfold spA; rw [if_neg h]
theorem spI_sw {z a c : Int} (h : spI z a c) : spI z c a := ⟨⟨h.1.2, h.1.1⟩, Ne.symm h.2⟩
theorem sp_sum {z : Int} {fs : List (Int × Int)} {a c : Int} (h : VF z fs) (h2 : spI z a c) : ((orO z fs).filter (agB [(c, a)])).length + ((orO z fs).filter (agB [(a, c)])).length = (orO z fs).length := by
  obtain ⟨d, rfl⟩ : ∃ d : Nat, z = d := ⟨z.toNat, by have := h.1; omega⟩
  refine filter_neg fun p hp => ?_
  obtain ⟨h3, h4⟩ := orO_beg h hp
  exact (ag_one h3 h4 h2.1.1 h2.1.2 h2.2).2
theorem sp_ah {z : Int} {fs : List (Int × Int)} {a c : Int} (h : VF z fs) (h2 : spI z a c) : (orO z fs).filter (ahP a c) = (orO z fs).filter (agB [(a, c)]) := by
  obtain ⟨d, rfl⟩ : ∃ d : Nat, z = d := ⟨z.toNat, by have := h.1; omega⟩
  refine List.filter_congr fun p hp => ?_
  obtain ⟨h3, h4⟩ := orO_beg h hp
  exact (ag_one h3 h4 h2.1.1 h2.1.2 h2.2).1


theorem ahead_sat : Sat Try.prog 84 (fun ds Q => ∃ (xs : List Int) (a c : Int), ds = [.row (.ints .i64 (xs)), .val (.int .i64 (a)), .val (.int .i64 (c))] ∧ (xs.length ≤ 1000) ∧ (a ≠ c) ∧ Q (.val (.bool ((ahP a c xs))))) := by
  refine sat_intro tabOk Try.func84 rfl 26 rfl [.tmp 6] rfl ?_
  rintro ds Q W ⟨xs, a, c, rfl, hl, hac, hQ⟩
  refine ⟨Nat.le_of_ble_eq_true rfl, ?_⟩
  simp only [initS, initT, mat.matL, mat, Cont.len]
  repeat' (first | refine awp_seq_k fun K hK => ?_ | ((with_reducible refine hK _ ?_); clear hK K) | ((with_reducible refine aord_plain fun K hK => ?_); simp only [go_sem, Nat.reduceAdd, Nat.reduceMul, Nat.reduceEqDiff, Nat.reduceLT, reduceIte, reduceCtorEq]) | refine awp_block ?_ | ((first | with_reducible refine aord_nil ?_ | refine awp_skip ?_ | refine awp_exit ?_ | refine awp_ret ?_); try simp only [rdA, Nat.reduceEqDiff, ifA, ifB, reduceIte]) | (refine awp_region tabOk rfl ?_; simp only [prep, pickO, lsA, lsB, lsC, lsD, lsE, lsF, lsG]) | fail)
  refine awp_loopE (α := Nat) (fun s p => ⟨(upd (upd (upd (upd bot 0 (s.tmps 0)) 1 (s.tmps 1)) 2 (s.tmps 2)) 7 (.val (.int .i64 (p)))), s.heap, s.next⟩) _ (fun p => by simp only [St.ev, St.set, upd, Nat.reduceEqDiff, reduceIte, ifA, ifB]; exact rfl) (fun p => (p ≤ xs.length) ∧ (∀ j, j < p → xs.getD j 0 ≠ a ∧ xs.getD j 0 ≠ c)) (fun p => xs.length - p) (0) ?_ ?_ ?_
  · (try simp only); (refine ⟨?_, ?_⟩ <;> (first | omega | (intro j hj; omega)))
  · (apply Wk.same; (case' h2 => (focus ((repeat' (with_reducible first | exact HeapX.bot | (apply HeapX.skip; (case hx => (simp; done))) | apply HeapX.none | apply HeapX.upd)); all_goals (first | rfl | exact Nat.le_of_ble_eq_true rfl | (simp only [St.set, St.ev, upd, ren, renL, id, Nat.reduceEqDiff, reduceIte, ContLe]; done) | (exact And.intro rfl (And.intro (by first | exact Nat.le_of_ble_eq_true rfl | omega) (by first | exact Nat.le_of_ble_eq_true rfl | omega))) | (first | (simp only [St.set, St.ev, upd, ren, renL, id, Nat.reduceEqDiff, reduceIte]; exact contLe_nil) | ((repeat' (first | exact contLe_nil | refine contLe_cons (.inr ⟨?_, rfl⟩) ?_)); all_goals (first | rfl | (simp only [St.set, St.ev, upd, ren, renL, id, Nat.reduceEqDiff, reduceIte]; done) | ((try simp only [St.set, St.ev, upd, ren, renL, id, Nat.reduceEqDiff, reduceIte]); first | (with_reducible exact av_int (by omega)) | (with_reducible exact av_sl (by first | omega | (simp; done) | (simp; omega)) (by first | omega | (simp; done) | (simp; omega)))) | (simp only [St.set, St.ev, upd, ren, renL, id, Nat.reduceEqDiff, reduceIte, Int.natCast_add, Int.natCast_one, Int.cast_ofNat_Int, Int.natCast_zero]; done) | (simp only [St.set, St.ev, upd, ren, renL, id, Nat.reduceEqDiff, reduceIte]) | skip); done)) | (simp only [St.set, St.ev, upd, ren, renL, id, Nat.reduceEqDiff, reduceIte, ContLe]) | skip)))); (case' h1 => (focus ((repeat' (with_reducible first | exact TmpLe.bot | refine TmpLe.upd ?_ rfl ?_)); all_goals (first | rfl | (simp only [St.set, St.ev, upd, ren, renL, id, Nat.reduceEqDiff, reduceIte]; done) | ((try simp only [St.set, St.ev, upd, ren, renL, id, Nat.reduceEqDiff, reduceIte]); first | (with_reducible exact av_int (by omega)) | (with_reducible exact av_sl (by first | omega | (simp; done) | (simp; omega)) (by first | omega | (simp; done) | (simp; omega)))) | (simp only [St.set, St.ev, upd, ren, renL, id, Nat.reduceEqDiff, reduceIte, Int.natCast_add, Int.natCast_one, Int.cast_ofNat_Int, Int.natCast_zero]; done) | (simp only [St.set, St.ev, upd, ren, renL, id, Nat.reduceEqDiff, reduceIte]) | skip)))); (case h3 => (focus (first | (simp only [id, List.map_cons, List.map_nil]; decide) | decide | (simp; done) | (simp; omega) | fail))); (case h4 => (intro o l h; first | (cases h; done) | (have hlt0 := m0_lt (by assumption) h; (try (simp only at hlt0)); first | omega | (simp only; omega) | exact ⟨by (first | rfl | (simp only [id]; done) | ((repeat rw [if_neg (by omega)]); done)), by first | omega | (simp only; omega)⟩))))
  rintro i ⟨hi, hj⟩
  try simp only at hi hj
  repeat' (first | refine awp_seq_k fun K hK => ?_ | ((with_reducible refine hK _ ?_); clear hK K) | (clear hK K; (with_reducible refine hK _ ?_); clear hK K) | ((with_reducible refine aord_plain fun K hK => ?_); simp only [go_sem, Nat.reduceAdd, Nat.reduceMul, Nat.reduceEqDiff, Nat.reduceLT, reduceIte, reduceCtorEq]) | refine awp_block ?_ | ((first | with_reducible refine aord_nil ?_ | refine awp_skip ?_ | refine awp_exit ?_ | refine awp_ret ?_); try simp only [rdA, Nat.reduceEqDiff, ifA, ifB, reduceIte]) | (refine awp_region tabOk rfl ?_; simp only [prep, pickO, lsA, lsB, lsC, lsD, lsE, lsF, lsG]) | ((with_reducible apply awp_cond); (focus (simp only [St.ev, St.set, upd, Nat.reduceEqDiff, reduceIte, ifA, ifB]; exact rfl)); all_goals (intro hb; first | (cases hb; done) | ((try rw [hb]); (try simp only [dcA, dcB, dcC, dcD, dcE, Bool.not_eq_true', Bool.not_eq_false'] at hb)))) | ((with_reducible refine And.intro ?_ ?_); (focus omega)) | fail)
  · simp only [St.set, St.ev, doneQ, doneH, ressK, resK, wrapR, AV.ids, AV.idsL, retK, retsK, upd, Nat.reduceEqDiff, reduceIte, ifA, ifB, List.nodup_nil, List.nodup_cons, List.not_mem_nil, not_false_eq_true, true_and, and_true, exists_eq_left', Option.some.injEq, rLoad, cellOf, tab, Ty.isAgg, Ty.one, Bool.false_eq_true]
    rw [ah_yes (i := i) hac (by omega) hj (by assumption)] at hQ
    exact hQ
  · simp only [St.set, St.ev, doneQ, doneH, ressK, resK, wrapR, AV.ids, AV.idsL, retK, retsK, upd, Nat.reduceEqDiff, reduceIte, ifA, ifB, List.nodup_nil, List.nodup_cons, List.not_mem_nil, not_false_eq_true, true_and, and_true, exists_eq_left', Option.some.injEq, rLoad, cellOf, tab, Ty.isAgg, Ty.one, Bool.false_eq_true]
    rw [ah_no (i := i) hac (by omega) hj (by assumption)] at hQ
    exact hQ
  · ((refine Exists.intro (i + 1) ?_); (refine nxt ?_ ?_ ?_); (focus ((apply Wk.same; (case' h2 => (focus ((repeat' (with_reducible first | exact HeapX.bot | (apply HeapX.skip; (case hx => (simp; done))) | apply HeapX.none | apply HeapX.upd)); all_goals (first | rfl | exact Nat.le_of_ble_eq_true rfl | (simp only [St.set, St.ev, upd, ren, renL, id, Nat.reduceEqDiff, reduceIte, ContLe]; done) | (exact And.intro rfl (And.intro (by first | exact Nat.le_of_ble_eq_true rfl | omega) (by first | exact Nat.le_of_ble_eq_true rfl | omega))) | (first | (simp only [St.set, St.ev, upd, ren, renL, id, Nat.reduceEqDiff, reduceIte]; exact contLe_nil) | ((repeat' (first | exact contLe_nil | refine contLe_cons (.inr ⟨?_, rfl⟩) ?_)); all_goals (first | rfl | (simp only [St.set, St.ev, upd, ren, renL, id, Nat.reduceEqDiff, reduceIte]; done) | ((try simp only [St.set, St.ev, upd, ren, renL, id, Nat.reduceEqDiff, reduceIte]); first | (with_reducible exact av_int (by omega)) | (with_reducible exact av_sl (by first | omega | (simp; done) | (simp; omega)) (by first | omega | (simp; done) | (simp; omega)))) | (simp only [St.set, St.ev, upd, ren, renL, id, Nat.reduceEqDiff, reduceIte, Int.natCast_add, Int.natCast_one, Int.cast_ofNat_Int, Int.natCast_zero]; done) | (simp only [St.set, St.ev, upd, ren, renL, id, Nat.reduceEqDiff, reduceIte]) | skip); done)) | (simp only [St.set, St.ev, upd, ren, renL, id, Nat.reduceEqDiff, reduceIte, ContLe]) | skip)))); (case' h1 => (focus ((repeat' (with_reducible first | exact TmpLe.bot | refine TmpLe.upd ?_ rfl ?_)); all_goals (first | rfl | (simp only [St.set, St.ev, upd, ren, renL, id, Nat.reduceEqDiff, reduceIte]; done) | ((try simp only [St.set, St.ev, upd, ren, renL, id, Nat.reduceEqDiff, reduceIte]); first | (with_reducible exact av_int (by omega)) | (with_reducible exact av_sl (by first | omega | (simp; done) | (simp; omega)) (by first | omega | (simp; done) | (simp; omega)))) | (simp only [St.set, St.ev, upd, ren, renL, id, Nat.reduceEqDiff, reduceIte, Int.natCast_add, Int.natCast_one, Int.cast_ofNat_Int, Int.natCast_zero]; done) | (simp only [St.set, St.ev, upd, ren, renL, id, Nat.reduceEqDiff, reduceIte]) | skip)))); (case h3 => (focus (first | (simp only [id, List.map_cons, List.map_nil]; decide) | decide | (simp; done) | (simp; omega) | fail))); (case h4 => (intro o l h; first | (cases h; done) | (have hlt0 := m0_lt (by assumption) h; (try (simp only at hlt0)); first | omega | (simp only; omega) | exact ⟨by (first | rfl | (simp only [id]; done) | ((repeat rw [if_neg (by omega)]); done)), by first | omega | (simp only; omega)⟩)))))); (focus (first | omega | (simp only; omega) | (simp only [List.length_take]; omega) | (simp; done) | (simp; omega))); ((repeat' (with_reducible apply And.intro)) <;> (first | omega | (simp only; omega) | assumption | rfl | ((try simp only); (intro j h; rcases Nat.lt_or_ge j i with h1 | h1; exact hj j h1; obtain rfl : j = i := (by omega); exact ⟨by assumption, by assumption⟩)) | skip)))
  · simp only [St.set, St.ev, doneQ, doneH, ressK, resK, wrapR, AV.ids, AV.idsL, retK, retsK, upd, Nat.reduceEqDiff, reduceIte, ifA, ifB, List.nodup_nil, List.nodup_cons, List.not_mem_nil, not_false_eq_true, true_and, and_true, exists_eq_left', Option.some.injEq, rLoad, cellOf, tab, Ty.isAgg, Ty.one, Bool.false_eq_true]
    rw [ah_end (fun j h => hj j (by omega))] at hQ
    exact hQ


theorem specSplit_sat : SatH Try.prog 68 (fun al h n K => ∃ (O : Nat) (f : Nat → Nat) (xss : List (List Int)) (a c : Int), al = [.sl O 0 xss.length 1 none, .val (.int .i64 (a)), .val (.int .i64 (c))] ∧ (RowsOf h n O f xss) ∧ (xss.length ≤ 500) ∧ (∀ j, (xss.getD j []).length ≤ 1000) ∧ (a ≠ c) ∧ K (.tup [.val (.int .i64 (((xss.filter (ahP a c)).length : Nat) : Int)), .val (.int .i64 ((xss.length : Int) - (((xss.filter (ahP a c)).length : Nat) : Int)))]) (h) (n)) := by
  refine satH_intro tabOk Try.func68 rfl 30 rfl [.tmp 6, .tmp 7] rfl ?_
  rintro F W h n al K0 ⟨O, f, xss, a, c, rfl, hR, hxl, hx, hac, hQ⟩
  refine ⟨Nat.le_of_ble_eq_true rfl, fun m0 hm0 hcl hlt => ?_⟩
  simp only [initT]
  have hOn := hR.outn
  have hOr := hR.out
  have hsl := @slsN_len f xss 0


  repeat' (first | refine awp_seq_k fun K hK => ?_ | ((with_reducible refine hK _ ?_); clear hK K) | ((with_reducible refine aord_plain fun K hK => ?_); simp only [go_sem, Nat.reduceAdd, Nat.reduceMul, Nat.reduceEqDiff, Nat.reduceLT, reduceIte, reduceCtorEq, hOr, nmA, Nat.reduceAdd, ifA, ifB, hOr, hsl]) | refine awp_block ?_ | ((first | with_reducible refine aord_nil ?_ | refine awp_skip ?_ | refine awp_exit ?_ | refine awp_ret ?_); try simp only [rdA, Nat.reduceEqDiff, ifA, ifB, reduceIte]) | (refine awp_region tabOk rfl ?_; simp only [prep, pickO, lsA, lsB, lsC, lsD, lsE, lsF, lsG]) | fail)
  refine awp_loop (fun i : Nat => ⟨upd (upd (upd (upd (upd bot 9 (.val (.int .i64 i))) 8 (.val (.int .i64 ((((xss.take i).filter (ahP a c)).length : Nat) : Int)))) 2 (.val (.int .i64 c))) 1 (.val (.int .i64 a))) 0 (.sl O 0 xss.length 1 none), h, n⟩) (fun i => i ≤ xss.length) (fun i => xss.length - i) 0 (Nat.zero_le _) ?_ ?_
  · exact Wk.sub (tsd (tsd (tsd (tsd (tsd tsd0 rfl) rfl) rfl) rfl) rfl) (fun _ _ h => h) rfl
  intro i hix
  have hle := List.length_filter_le (ahP a c) (xss.take i)
  have hle2 : (xss.take i).length ≤ 500 := by rw [List.length_take]; omega
  rcases Nat.lt_or_ge i xss.length with hlt2 | hge
  · have hget := hR.get hlt2
    have hrow := hR.row i hlt2
    have hxi := hx i
    have htk : xss.take (i + 1) = xss.take i ++ [xss.getD i []] := by
      rw [List.take_succ_eq_append_getElem hlt2, List.getD_eq_getElem?_getD, List.getElem?_eq_getElem hlt2]; rfl
    cases hag : ahP a c (xss.getD i []) with
    | false =>
      have hfl2 : (xss.take (i + 1)).filter (ahP a c) = (xss.take i).filter (ahP a c) := by rw [htk, List.filter_append, List.filter_cons_of_neg (by rw [hag]; simp), List.filter_nil, List.append_nil]


      repeat' (first | refine awp_seq_k fun K hK => ?_ | ((with_reducible refine hK _ ?_); clear hK K) | (clear hK K; (with_reducible refine hK _ ?_); clear hK K) | ((with_reducible refine aord_plain fun K hK => ?_); simp only [go_sem, Nat.reduceAdd, Nat.reduceMul, Nat.reduceEqDiff, Nat.reduceLT, reduceIte, reduceCtorEq, hOr, hrow, hag, nmA, Nat.reduceAdd, ifA, ifB, hOr, hsl, hget, hrow, hag]) | refine awp_block ?_ | ((first | with_reducible refine aord_nil ?_ | refine awp_skip ?_ | refine awp_exit ?_ | refine awp_ret ?_); try simp only [rdA, Nat.reduceEqDiff, ifA, ifB, reduceIte]) | (refine awp_region tabOk rfl ?_; simp only [prep, pickO, lsA, lsB, lsC, lsD, lsE, lsF, lsG]) | ((with_reducible apply awp_cond); (focus (simp only [St.ev, St.set, upd, Nat.reduceEqDiff, reduceIte, ifA, ifB, hOr, hrow, hag, nmA, Nat.reduceAdd, ifA, ifB]; exact rfl)); all_goals (intro hb; first | (cases hb; done) | ((try rw [hb]); (try simp only [dcA, dcB, dcC, dcD, dcE, Bool.not_eq_true', Bool.not_eq_false'] at hb)))) | ((with_reducible refine And.intro ?_ ?_); (focus omega)) | ((with_reducible refine And.intro (?_ : enters Try.prog 84) ?_); (focus exact Try.call84); (refine callX_sat ahead_sat ?_); simp only [go_sem, and_assoc, List.nil_append, List.append_nil, List.cons_append, Nat.reduceEqDiff, reduceIte, reduceCtorEq, hOr, hrow, hag, nmA, Nat.reduceAdd, ifA, ifB, hOr, hsl, hget, hrow, hag]) | (simp only [doneH]; simp only [ressK, resK, wrapR, go_sem, Nat.reduceAdd, Nat.reduceMul, Nat.reduceEqDiff, Nat.reduceLT, reduceIte, reduceCtorEq, hOr, hrow, hag, nmA, Nat.reduceAdd, ifA, ifB]) | (exfalso; omega) | fail)
      refine ⟨i + 1, by omega, by omega, Wk.sub (tsd (tsd (tsd (tsd (tsd tsd0 rfl) (by rw [hfl2]; rfl)) rfl) rfl) rfl) (fun _ _ h => h) rfl⟩
    | true =>
      have hfl2 : ((xss.take (i + 1)).filter (ahP a c)).length = ((xss.take i).filter (ahP a c)).length + 1 := by rw [htk, List.filter_append, List.filter_cons_of_pos hag, List.filter_nil, List.length_append]; rfl


      repeat' (first | refine awp_seq_k fun K hK => ?_ | ((with_reducible refine hK _ ?_); clear hK K) | (clear hK K; (with_reducible refine hK _ ?_); clear hK K) | ((with_reducible refine aord_plain fun K hK => ?_); simp only [go_sem, Nat.reduceAdd, Nat.reduceMul, Nat.reduceEqDiff, Nat.reduceLT, reduceIte, reduceCtorEq, hOr, hrow, hag, nmA, Nat.reduceAdd, ifA, ifB, hOr, hsl, hget, hrow, hag]) | refine awp_block ?_ | ((first | with_reducible refine aord_nil ?_ | refine awp_skip ?_ | refine awp_exit ?_ | refine awp_ret ?_); try simp only [rdA, Nat.reduceEqDiff, ifA, ifB, reduceIte]) | (refine awp_region tabOk rfl ?_; simp only [prep, pickO, lsA, lsB, lsC, lsD, lsE, lsF, lsG]) | ((with_reducible apply awp_cond); (focus (simp only [St.ev, St.set, upd, Nat.reduceEqDiff, reduceIte, ifA, ifB, hOr, hrow, hag, nmA, Nat.reduceAdd, ifA, ifB]; exact rfl)); all_goals (intro hb; first | (cases hb; done) | ((try rw [hb]); (try simp only [dcA, dcB, dcC, dcD, dcE, Bool.not_eq_true', Bool.not_eq_false'] at hb)))) | ((with_reducible refine And.intro ?_ ?_); (focus omega)) | ((with_reducible refine And.intro (?_ : enters Try.prog 84) ?_); (focus exact Try.call84); (refine callX_sat ahead_sat ?_); simp only [go_sem, and_assoc, List.nil_append, List.append_nil, List.cons_append, Nat.reduceEqDiff, reduceIte, reduceCtorEq, hOr, hrow, hag, nmA, Nat.reduceAdd, ifA, ifB, hOr, hsl, hget, hrow, hag]) | (simp only [doneH]; simp only [ressK, resK, wrapR, go_sem, Nat.reduceAdd, Nat.reduceMul, Nat.reduceEqDiff, Nat.reduceLT, reduceIte, reduceCtorEq, hOr, hrow, hag, nmA, Nat.reduceAdd, ifA, ifB]) | (exfalso; omega) | fail)
      refine ⟨i + 1, by omega, by omega, Wk.sub (tsd (tsd (tsd (tsd (tsd tsd0 rfl) (by rw [hfl2]; rfl)) rfl) rfl) rfl) (fun _ _ h => h) rfl⟩
  · have ei : i = xss.length := by omega
    subst ei
    rw [List.take_length] at hle ⊢


    repeat' (first | refine awp_seq_k fun K hK => ?_ | ((with_reducible refine hK _ ?_); clear hK K) | (clear hK K; (with_reducible refine hK _ ?_); clear hK K) | ((with_reducible refine aord_plain fun K hK => ?_); simp only [go_sem, Nat.reduceAdd, Nat.reduceMul, Nat.reduceEqDiff, Nat.reduceLT, reduceIte, reduceCtorEq, hOr, nmA, Nat.reduceAdd, ifA, ifB, hOr, hsl]) | refine awp_block ?_ | ((first | with_reducible refine aord_nil ?_ | refine awp_skip ?_ | refine awp_exit ?_ | refine awp_ret ?_); try simp only [rdA, Nat.reduceEqDiff, ifA, ifB, reduceIte]) | (refine awp_region tabOk rfl ?_; simp only [prep, pickO, lsA, lsB, lsC, lsD, lsE, lsF, lsG]) | ((with_reducible apply awp_cond); (focus (simp only [St.ev, St.set, upd, Nat.reduceEqDiff, reduceIte, ifA, ifB, hOr, nmA, Nat.reduceAdd, ifA, ifB]; exact rfl)); all_goals (intro hb; first | (cases hb; done) | ((try rw [hb]); (try simp only [dcA, dcB, dcC, dcD, dcE, Bool.not_eq_true', Bool.not_eq_false'] at hb)))) | ((with_reducible refine And.intro ?_ ?_); (focus omega)) | (simp only [doneH]; simp only [ressK, resK, wrapR, go_sem, Nat.reduceAdd, Nat.reduceMul, Nat.reduceEqDiff, Nat.reduceLT, reduceIte, reduceCtorEq, hOr, nmA, Nat.reduceAdd, ifA, ifB]) | (exfalso; omega) | fail)
    exact hQ

/-- The greater part of the orders that an answer to a question leaves. -/
def mxP (L : List (List Int)) (i k : Nat) : Int := max (((L.filter (agB [((i : Int), (k : Int))])).length : Nat) : Int) ((L.length : Int) - (((L.filter (agB [((i : Int), (k : Int))])).length : Nat) : Int))
/-- The best question so far, and how many orders it may leave; questions about i and the items behind it up to j; all with a first item under i. -/
def bqS (L : List (List Int)) (i k : Nat) (s : Int × Int × Int) : Int × Int × Int := if mxP L i k < s.2.2 then ((i : Int), (k : Int), mxP L i k) else s
def bqRow (L : List (List Int)) (i : Nat) : Nat → Int × Int × Int → Int × Int × Int
  | 0, s => s
  | j + 1, s => if i < j then bqS L i j (bqRow L i j s) else bqRow L i j s
def bqTo (L : List (List Int)) (d : Nat) : Nat → Int × Int × Int → Int × Int × Int
  | 0, s => s
  | i + 1, s => bqRow L i d (bqTo L d i s)
theorem bqRow_low {L : List (List Int)} {i : Nat} {s : Int × Int × Int} : ∀ j, j ≤ i + 1 → bqRow L i j s = s
  | 0, _ => rfl
  | j + 1, h => by rw [bqRow, if_neg (by omega), bqRow_low j (by omega)]
theorem mxP_in {L : List (List Int)} (i k : Nat) : 0 ≤ mxP L i k ∧ mxP L i k ≤ L.length := by
  have := List.length_filter_le (agB [((i : Int), (k : Int))]) L
  unfold mxP; omega
theorem bqS_in {L : List (List Int)} {i k d : Nat} {s : Int × Int × Int} (h : (-1 ≤ s.1 ∧ s.1 < d ∨ s.1 = 0) ∧ (-1 ≤ s.2.1 ∧ s.2.1 < d ∨ s.2.1 = 0) ∧ 0 ≤ s.2.2 ∧ s.2.2 ≤ L.length) (hi : i < d) (hk : k < d) : (-1 ≤ (bqS L i k s).1 ∧ (bqS L i k s).1 < d ∨ (bqS L i k s).1 = 0) ∧ (-1 ≤ (bqS L i k s).2.1 ∧ (bqS L i k s).2.1 < d ∨ (bqS L i k s).2.1 = 0) ∧ 0 ≤ (bqS L i k s).2.2 ∧ (bqS L i k s).2.2 ≤ L.length := by
  have := mxP_in (L := L) i k
  unfold bqS
  split
  · dsimp only; omega
  · exact h
theorem bqS_two {L : List (List Int)} {i k : Nat} {s t : Int × Int × Int} (h : s.2.2 = t.2.2) : (bqS L i k s).2.2 = (bqS L i k t).2.2 ∧ (bqS L i k s = bqS L i k t ∨ (bqS L i k s = s ∧ bqS L i k t = t)) := by
  unfold bqS
  by_cases c : mxP L i k < s.2.2
  · rw [if_pos c, if_pos (by omega)]; exact ⟨rfl, .inl rfl⟩
  · rw [if_neg c, if_neg (by omega)]; exact ⟨h, .inr ⟨rfl, rfl⟩⟩
theorem bqRow_two {L : List (List Int)} {i : Nat} {s t : Int × Int × Int} (h : s.2.2 = t.2.2) : ∀ j, (bqRow L i j s).2.2 = (bqRow L i j t).2.2 ∧ (bqRow L i j s = bqRow L i j t ∨ (bqRow L i j s = s ∧ bqRow L i j t = t))
  | 0 => ⟨h, .inr ⟨rfl, rfl⟩⟩
  | j + 1 => by
    obtain ⟨h1, h2⟩ := bqRow_two (L := L) (i := i) h j
    rw [bqRow, bqRow]
    by_cases c : i < j
    · rw [if_pos c, if_pos c]
      rcases h2 with h2 | ⟨h2, h3⟩
      · rw [h2]; exact ⟨rfl, .inl rfl⟩
      · rw [h2, h3]; exact bqS_two h
    · rw [if_neg c, if_neg c]; exact ⟨h1, h2⟩
theorem bqTo_two {L : List (List Int)} {d : Nat} {s t : Int × Int × Int} (h : s.2.2 = t.2.2) : ∀ i, (bqTo L d i s).2.2 = (bqTo L d i t).2.2 ∧ (bqTo L d i s = bqTo L d i t ∨ (bqTo L d i s = s ∧ bqTo L d i t = t))
  | 0 => ⟨h, .inr ⟨rfl, rfl⟩⟩
  | i + 1 => by
    obtain ⟨h1, h2⟩ := bqTo_two (L := L) (d := d) h i
    rw [bqTo, bqTo]
    rcases h2 with h2 | ⟨h2, h3⟩
    · rw [h2]; exact ⟨rfl, .inl rfl⟩
    · rw [h2, h3]; exact bqRow_two h d
theorem bqS_le {L : List (List Int)} {i k : Nat} {s : Int × Int × Int} : (bqS L i k s).2.2 ≤ s.2.2 ∧ (bqS L i k s).2.2 ≤ mxP L i k := by
  unfold bqS
  split
  · dsimp only; omega
  · omega
theorem bqRow_le {L : List (List Int)} {i : Nat} {s : Int × Int × Int} : ∀ j, (bqRow L i j s).2.2 ≤ s.2.2 ∧ ∀ k, i < k → k < j → (bqRow L i j s).2.2 ≤ mxP L i k
  | 0 => ⟨Int.le_refl _, fun k _ h => by omega⟩
  | j + 1 => by
    obtain ⟨h1, h2⟩ := bqRow_le (L := L) (i := i) (s := s) j
    rw [bqRow]
    by_cases c : i < j
    · rw [if_pos c]
      obtain ⟨h3, h4⟩ := bqS_le (L := L) (i := i) (k := j) (s := bqRow L i j s)
      refine ⟨by omega, fun k hk hkj => ?_⟩
      rcases Nat.lt_or_ge k j with e | e
      · have := h2 k hk e; omega
      · obtain rfl : k = j := by omega
        exact h4
    · rw [if_neg c]; exact ⟨h1, fun k hk hkj => h2 k hk (by omega)⟩
theorem bqTo_le {L : List (List Int)} {d : Nat} {s : Int × Int × Int} : ∀ n, (bqTo L d n s).2.2 ≤ s.2.2 ∧ ∀ i k, i < n → i < k → k < d → (bqTo L d n s).2.2 ≤ mxP L i k
  | 0 => ⟨Int.le_refl _, fun i k h => by omega⟩
  | n + 1 => by
    obtain ⟨h1, h2⟩ := bqTo_le (L := L) (d := d) (s := s) n
    obtain ⟨h3, h4⟩ := bqRow_le (L := L) (i := n) (s := bqTo L d n s) d
    rw [bqTo]
    refine ⟨by omega, fun i k hi hk hd => ?_⟩
    rcases Nat.lt_or_ge i n with e | e
    · have := h2 i k e hk hd; omega
    · obtain rfl : i = n := by omega
      exact h4 k hk hd
theorem first_diff {p q : List Int} : ∀ n, (∀ j, j < n → p.getD j 0 = q.getD j 0) ∨ ∃ i, i < n ∧ p.getD i 0 ≠ q.getD i 0 ∧ ∀ j, j < i → p.getD j 0 = q.getD j 0
  | 0 => .inl fun j h => by omega
  | n + 1 => by
    rcases first_diff (p := p) (q := q) n with h | ⟨i, h1, h2⟩
    · by_cases e : p.getD n 0 = q.getD n 0
      · refine .inl fun j hj => ?_
        rcases Nat.lt_or_ge j n with c | c
        · exact h j c
        · obtain rfl : j = n := by omega
          exact e
      · exact .inr ⟨n, by omega, e, h⟩
    · exact .inr ⟨i, by omega, h2⟩
theorem ordK_nodup {d : Nat} (h : d ≤ 5) : (ordK d d []).Nodup := by
  have : d = 0 ∨ d = 1 ∨ d = 2 ∨ d = 3 ∨ d = 4 ∨ d = 5 := by omega
  rcases this with rfl | rfl | rfl | rfl | rfl | rfl
  all_goals decide +kernel
/-- Two orders part at a question. -/
theorem two_part {d : Nat} {p q : List Int} (hp : Beg d p) (hq : Beg d q) (hpl : p.length = d) (hql : q.length = d) (hne : p ≠ q) : ∃ i k : Nat, i < k ∧ k < d ∧ agB [((i : Int), (k : Int))] p ≠ agB [((i : Int), (k : Int))] q := by
  rcases first_diff (p := p) (q := q) d with h | ⟨i, hi, h1, h2⟩
  · exact (hne (ext_getD (hpl.trans hql.symm) fun j hj => h j (by omega))).elim
  · have ha := hp.at (show i < p.length by omega)
    have hc := hq.at (show i < q.length by omega)
    have fa := hp.fst (show i < p.length by omega)
    have fc := hq.fst (show i < q.length by omega)
    obtain ⟨j, j1, j2, j3⟩ := hp.all hpl hc
    obtain ⟨m, m1, m2, m3⟩ := hq.all hql ha
    have hij : i < j := by
      rcases Nat.lt_trichotomy i j with e | e | e
      · exact e
      · subst e; exact (h1 j2).elim
      · have h3 := h2 j e
        rw [j2] at h3
        exact (hq.inj e (by omega) h3.symm).elim
    have him : i < m := by
      rcases Nat.lt_trichotomy i m with e | e | e
      · exact e
      · subst e; exact (h1 m2.symm).elim
      · have h3 := h2 m e
        rw [m2] at h3
        exact (hp.inj e (by omega) h3).elim
    have g1 : agB [(p.getD i 0, q.getD i 0)] p = true := agB_iff.2 fun f hf => by rw [List.mem_singleton.1 hf]; dsimp only; rw [fa, j3]; omega
    have g2 : agB [(p.getD i 0, q.getD i 0)] q = false := by
      cases e : agB [(p.getD i 0, q.getD i 0)] q with
      | false => rfl
      | true => have := agB_iff.1 e _ (List.mem_singleton.2 rfl); dsimp only at this; rw [fc, m3] at this; omega
    have g3 : agB [(q.getD i 0, p.getD i 0)] q = true := agB_iff.2 fun f hf => by rw [List.mem_singleton.1 hf]; dsimp only; rw [fc, m3]; omega
    have g4 : agB [(q.getD i 0, p.getD i 0)] p = false := by
      cases e : agB [(q.getD i 0, p.getD i 0)] p with
      | false => rfl
      | true => have := agB_iff.1 e _ (List.mem_singleton.2 rfl); dsimp only at this; rw [fa, j3] at this; omega
    have ea : ((p.getD i 0).toNat : Int) = p.getD i 0 := Int.toNat_of_nonneg ha.1
    have ec : ((q.getD i 0).toNat : Int) = q.getD i 0 := Int.toNat_of_nonneg hc.1
    rcases Nat.lt_or_ge (p.getD i 0).toNat (q.getD i 0).toNat with e | e
    · exact ⟨_, _, e, by omega, by rw [ea, ec, g1, g2]; simp⟩
    · exact ⟨(q.getD i 0).toNat, (p.getD i 0).toNat, by omega, by omega, by rw [ea, ec, g3, g4]; simp⟩
theorem mx_small {L : List (List Int)} {p q : List Int} {i k : Nat} (hp : p ∈ L) (hq : q ∈ L) (h : agB [((i : Int), (k : Int))] p ≠ agB [((i : Int), (k : Int))] q) : mxP L i k < L.length := by
  have key : ∀ x y, x ∈ L → y ∈ L → agB [((i : Int), (k : Int))] x = true → agB [((i : Int), (k : Int))] y = false → mxP L i k < L.length := fun x y hx hy h1 h2 => by
    have a1 : (L.filter (agB [((i : Int), (k : Int))])).length < L.length := List.length_filter_lt_length_iff_exists.2 ⟨y, hy, by rw [h2]; simp⟩
    have a2 : 0 < (L.filter (agB [((i : Int), (k : Int))])).length := List.length_pos_of_mem (List.mem_filter.2 ⟨hx, h1⟩)
    unfold mxP; omega
  cases e1 : agB [((i : Int), (k : Int))] p <;> cases e2 : agB [((i : Int), (k : Int))] q
  · exact (h (e1.trans e2.symm)).elim
  · exact key q p hq hp e2 e1
  · exact key p q hp hq e1 e2
  · exact (h (e1.trans e2.symm)).elim
theorem bq_some {d : Nat} {fs : List (Int × Int)} (h : VF d fs) (h2 : 2 ≤ (orO d fs).length) : ∃ i k : Nat, i < k ∧ k < d ∧ mxP (orO d fs) i k < (orO d fs).length := by
  have hd : d ≤ 5 := by have := h.1; omega
  have hnd : (orO d fs).Nodup := by rw [orO_ag h]; exact (ordK_nodup hd).filter _
  have m0 : (orO d fs)[0] ∈ orO d fs := List.getElem_mem (by omega)
  have m1 : (orO d fs)[1] ∈ orO d fs := List.getElem_mem (by omega)
  have hne : (orO d fs)[0] ≠ (orO d fs)[1] := (List.pairwise_iff_getElem.1 (List.nodup_iff_pairwise_ne.1 hnd)) 0 1 (by omega) (by omega) (by decide)
  obtain ⟨b0, l0⟩ := orO_beg h m0
  obtain ⟨b1, l1⟩ := orO_beg h m1
  obtain ⟨i, k, hik, hk, hag⟩ := two_part b0 b1 l0 l1 hne
  exact ⟨i, k, hik, hk, mx_small m0 m1 hag⟩
theorem bq_same {d : Nat} {fs : List (Int × Int)} {s t : Int × Int × Int} (h : VF d fs) (h2 : 2 ≤ (orO d fs).length) (hs : s.2.2 = (orO d fs).length) (ht : t.2.2 = (orO d fs).length) : bqTo (orO d fs) d d s = bqTo (orO d fs) d d t := by
  rcases (bqTo_two (L := orO d fs) (d := d) (hs.trans ht.symm) d).2 with e | ⟨e, _⟩
  · exact e
  · obtain ⟨i, k, hik, hk, hm⟩ := bq_some h h2
    have := (bqTo_le (L := orO d fs) (d := d) (s := s) d).2 i k (by omega) hik hk
    rw [e] at this
    omega

theorem specBestQ_sat : SatH Try.prog 47 (fun al h n K => ∃ (d O : Nat) (f : Nat → Nat) (fs : List (Int × Int)), al = [.val (.int .i64 (d)), .sl O 0 (orO d fs).length 1 none] ∧ (RowsOf h n O f (orO d fs)) ∧ (VF d fs) ∧ K (.tup [.val (.int .i64 (bqTo (orO d fs) d d (-1, -1, ((orO d fs).length : Int))).1), .val (.int .i64 (bqTo (orO d fs) d d (-1, -1, ((orO d fs).length : Int))).2.1)]) (h) (n)) := by
  refine satH_intro tabOk Try.func47 rfl 46 rfl [.tmp 4, .tmp 5] rfl ?_
  rintro F W h n al K0 ⟨d, O, f, fs, rfl, hR, hV, hQ⟩
  refine ⟨Nat.le_of_ble_eq_true rfl, fun m0 hm0 hcl hlt => ?_⟩
  simp only [initT]
  have hOn := hR.outn
  have hcap := orO_cap (d : Int) fs
  have hrw : ∀ j, ((orO d fs).getD j []).length ≤ 1000 := fun j => by have := orO_row (z := d) (fs := fs) j; omega
  have hd5 : d ≤ 5 := by have := hV.1; omega
  have hah : ∀ i k : Nat, i < k → k < d → (orO d fs).filter (ahP (i : Int) (k : Int)) = (orO d fs).filter (agB [((i : Int), (k : Int))]) := fun i k h1 h2 => sp_ah hV ⟨⟨⟨by omega, by omega⟩, by omega, by omega⟩, by omega⟩
  generalize hLL : orO d fs = L at *


  repeat' (first | refine awp_seq_k fun K hK => ?_ | ((with_reducible refine hK _ ?_); clear hK K) | ((with_reducible refine aord_plain fun K hK => ?_); simp only [go_sem, Nat.reduceAdd, Nat.reduceMul, Nat.reduceEqDiff, Nat.reduceLT, reduceIte, reduceCtorEq, mat.matL]) | refine awp_block ?_ | ((first | with_reducible refine aord_nil ?_ | refine awp_skip ?_ | refine awp_exit ?_ | refine awp_ret ?_); try simp only [rdA, Nat.reduceEqDiff, ifA, ifB, reduceIte]) | (refine awp_region tabOk rfl ?_; simp only [prep, pickO, lsA, lsB, lsC, lsD, lsE, lsF, lsG]) | fail)
  refine awp_loop (fun i : Nat => ⟨upd (upd (upd (upd (upd (upd bot 9 (.val (.int .i64 i))) 8 (.val (.int .i64 (bqTo L d i (-1, -1, (L.length : Int))).2.2))) 7 (.val (.int .i64 (bqTo L d i (-1, -1, (L.length : Int))).2.1))) 6 (.val (.int .i64 (bqTo L d i (-1, -1, (L.length : Int))).1))) 1 (.sl O 0 L.length 1 none)) 0 (.val (.int .i64 d)), h, n⟩) (fun i => i ≤ d) (fun i => d - i) 0 (Nat.zero_le _) ?_ ?_
  · exact Wk.sub (tsd (tsd (tsd (tsd (tsd (tsd tsd0 rfl) rfl) rfl) rfl) rfl) rfl) (fun _ _ h => h) rfl
  intro i hid
  rcases Nat.lt_or_ge i d with hlt2 | hge
  · skip


    repeat' (first | refine awp_seq_k fun K hK => ?_ | ((with_reducible refine hK _ ?_); clear hK K) | (clear hK K; (with_reducible refine hK _ ?_); clear hK K) | ((with_reducible refine aord_plain fun K hK => ?_); simp only [go_sem, Nat.reduceAdd, Nat.reduceMul, Nat.reduceEqDiff, Nat.reduceLT, reduceIte, reduceCtorEq, mat.matL]) | refine awp_block ?_ | ((first | with_reducible refine aord_nil ?_ | refine awp_skip ?_ | refine awp_exit ?_ | refine awp_ret ?_); try simp only [rdA, Nat.reduceEqDiff, ifA, ifB, reduceIte]) | (refine awp_region tabOk rfl ?_; simp only [prep, pickO, lsA, lsB, lsC, lsD, lsE, lsF, lsG]) | ((with_reducible apply awp_cond); (focus (simp only [St.ev, St.set, upd, Nat.reduceEqDiff, reduceIte, ifA, ifB]; exact rfl)); all_goals (intro hb; first | (cases hb; done) | ((try rw [hb]); (try simp only [dcA, dcB, dcC, dcD, dcE, Bool.not_eq_true', Bool.not_eq_false'] at hb)))) | ((with_reducible refine And.intro ?_ ?_); (focus omega)) | (simp only [doneH]; simp only [ressK, resK, wrapR, go_sem, Nat.reduceAdd, Nat.reduceMul, Nat.reduceEqDiff, Nat.reduceLT, reduceIte, reduceCtorEq]) | (exfalso; omega) | fail)
    generalize hss : bqTo L d i (-1, -1, (L.length : Int)) = s0
    refine awp_loop (fun k : Nat => ⟨upd (upd (upd (upd (upd (upd (upd bot 10 (.val (.int .i64 k))) 9 (.val (.int .i64 i))) 8 (.val (.int .i64 (bqRow L i k s0).2.2))) 7 (.val (.int .i64 (bqRow L i k s0).2.1))) 6 (.val (.int .i64 (bqRow L i k s0).1))) 1 (.sl O 0 L.length 1 none)) 0 (.val (.int .i64 d)), h, n⟩) (fun k => k ≤ d ∧ i + 1 ≤ k) (fun k => d - k) (i + 1) ⟨by omega, Nat.le_refl _⟩ ?_ ?_
    · have el := bqRow_low (L := L) (i := i) (s := s0) (i + 1) (Nat.le_refl _)
      exact Wk.sub (tsd (tsd (tsd (tsd (tsd (tsd (tsd tsd0 rfl) rfl) (by rw [el]; rfl)) (by rw [el]; rfl)) (by rw [el]; rfl)) rfl) rfl) (fun _ _ h => h) rfl
    rintro k ⟨hkd, hik⟩
    have hup : bqRow L i (k + 1) s0 = bqS L i k (bqRow L i k s0) := by rw [bqRow, if_pos (by omega)]
    rcases Nat.lt_or_ge k d with hlt3 | hge3
    · have hmx := mxP_in (L := L) i k
      have hfl := List.length_filter_le (agB [((i : Int), (k : Int))]) L


      repeat' (first | refine awp_seq_k fun K hK => ?_ | ((with_reducible refine hK _ ?_); clear hK K) | (clear hK K; (with_reducible refine hK _ ?_); clear hK K) | ((with_reducible refine aord_plain fun K hK => ?_); simp only [go_sem, Nat.reduceAdd, Nat.reduceMul, Nat.reduceEqDiff, Nat.reduceLT, reduceIte, reduceCtorEq, mat.matL]) | refine awp_block ?_ | ((first | with_reducible refine aord_nil ?_ | refine awp_skip ?_ | refine awp_exit ?_ | refine awp_ret ?_); try simp only [rdA, Nat.reduceEqDiff, ifA, ifB, reduceIte]) | (refine awp_region tabOk rfl ?_; simp only [prep, pickO, lsA, lsB, lsC, lsD, lsE, lsF, lsG]) | ((with_reducible apply awp_cond); (focus (simp only [St.ev, St.set, upd, Nat.reduceEqDiff, reduceIte, ifA, ifB]; exact rfl)); all_goals (intro hb; first | (cases hb; done) | ((try rw [hb]); (try simp only [dcA, dcB, dcC, dcD, dcE, Bool.not_eq_true', Bool.not_eq_false'] at hb)))) | ((with_reducible refine And.intro ?_ ?_); (focus omega)) | ((with_reducible refine And.intro (?_ : enters Try.prog 68) ?_); (focus exact Try.call68); (refine callX_satH specSplit_sat ?_); simp only [go_sem, and_assoc, List.nil_append, List.append_nil, List.cons_append, Nat.reduceEqDiff, reduceIte, reduceCtorEq, mat.matL]) | (exfalso; omega) | fail)
      refine ⟨f, L, rfl, hR, by omega, hrw, by omega, ?_⟩
      rw [hah i k (by omega) hlt3]
      by_cases hc : mxP L i k < (bqRow L i k s0).2.2
      · have e1 : decide (max (((L.filter (agB [((i : Int), (k : Int))])).length : Nat) : Int) ((L.length : Int) - (((L.filter (agB [((i : Int), (k : Int))])).length : Nat) : Int)) < (bqRow L i k s0).2.2) = true := decide_eq_true hc
        have e2 : bqRow L i (k + 1) s0 = ((i : Int), (k : Int), mxP L i k) := by rw [hup, bqS, if_pos hc]


        repeat' (first | refine awp_seq_k fun K hK => ?_ | ((with_reducible refine hK _ ?_); clear hK K) | ((with_reducible refine aord_plain fun K hK => ?_); simp only [go_sem, Nat.reduceAdd, Nat.reduceMul, Nat.reduceEqDiff, Nat.reduceLT, reduceIte, reduceCtorEq, e1, nmA, Nat.reduceAdd, ifA, ifB, mat.matL, e1]) | ((first | with_reducible refine aord_nil ?_ | refine awp_skip ?_ | refine awp_exit ?_ | refine awp_ret ?_); try simp only [rdA, Nat.reduceEqDiff, ifA, ifB, reduceIte]) | (refine awp_region tabOk rfl ?_; simp only [prep, pickO, lsA, lsB, lsC, lsD, lsE, lsF, lsG]) | ((with_reducible apply awp_cond); (focus (simp only [St.ev, St.set, upd, Nat.reduceEqDiff, reduceIte, ifA, ifB, e1, nmA, Nat.reduceAdd, ifA, ifB]; exact rfl)); all_goals (intro hb; first | (cases hb; done) | ((try rw [hb]); (try simp only [dcA, dcB, dcC, dcD, dcE, Bool.not_eq_true', Bool.not_eq_false'] at hb)))) | ((with_reducible refine And.intro ?_ ?_); (focus omega)) | fail)
        refine ⟨k + 1, by omega, by omega, Wk.sub (tsd (tsd (tsd (tsd (tsd (tsd (tsd tsd0 rfl) rfl) (by rw [e2]; rfl)) (by rw [e2]; rfl)) (by rw [e2]; rfl)) rfl) rfl) (fun _ _ h => h) rfl⟩
      · have e1 : decide (max (((L.filter (agB [((i : Int), (k : Int))])).length : Nat) : Int) ((L.length : Int) - (((L.filter (agB [((i : Int), (k : Int))])).length : Nat) : Int)) < (bqRow L i k s0).2.2) = false := decide_eq_false hc
        have e2 : bqRow L i (k + 1) s0 = bqRow L i k s0 := by rw [hup, bqS, if_neg hc]


        repeat' (first | refine awp_seq_k fun K hK => ?_ | ((with_reducible refine hK _ ?_); clear hK K) | ((with_reducible refine aord_plain fun K hK => ?_); simp only [go_sem, Nat.reduceAdd, Nat.reduceMul, Nat.reduceEqDiff, Nat.reduceLT, reduceIte, reduceCtorEq, e1, nmA, Nat.reduceAdd, ifA, ifB, mat.matL, e1]) | ((first | with_reducible refine aord_nil ?_ | refine awp_skip ?_ | refine awp_exit ?_ | refine awp_ret ?_); try simp only [rdA, Nat.reduceEqDiff, ifA, ifB, reduceIte]) | (refine awp_region tabOk rfl ?_; simp only [prep, pickO, lsA, lsB, lsC, lsD, lsE, lsF, lsG]) | ((with_reducible apply awp_cond); (focus (simp only [St.ev, St.set, upd, Nat.reduceEqDiff, reduceIte, ifA, ifB, e1, nmA, Nat.reduceAdd, ifA, ifB]; exact rfl)); all_goals (intro hb; first | (cases hb; done) | ((try rw [hb]); (try simp only [dcA, dcB, dcC, dcD, dcE, Bool.not_eq_true', Bool.not_eq_false'] at hb)))) | ((with_reducible refine And.intro ?_ ?_); (focus omega)) | fail)
        refine ⟨k + 1, by omega, by omega, Wk.sub (tsd (tsd (tsd (tsd (tsd (tsd (tsd tsd0 rfl) rfl) (by rw [e2]; rfl)) (by rw [e2]; rfl)) (by rw [e2]; rfl)) rfl) rfl) (fun _ _ h => h) rfl⟩
    · have ek : d = k := by omega
      subst ek
      have e2 : bqTo L d (i + 1) (-1, -1, (L.length : Int)) = bqRow L i d s0 := by rw [bqTo, hss]


      repeat' (first | refine awp_seq_k fun K hK => ?_ | ((with_reducible refine hK _ ?_); clear hK K) | (clear hK K; (with_reducible refine hK _ ?_); clear hK K) | ((with_reducible refine aord_plain fun K hK => ?_); simp only [go_sem, Nat.reduceAdd, Nat.reduceMul, Nat.reduceEqDiff, Nat.reduceLT, reduceIte, reduceCtorEq, mat.matL]) | refine awp_block ?_ | ((first | with_reducible refine aord_nil ?_ | refine awp_skip ?_ | refine awp_exit ?_ | refine awp_ret ?_); try simp only [rdA, Nat.reduceEqDiff, ifA, ifB, reduceIte]) | (refine awp_region tabOk rfl ?_; simp only [prep, pickO, lsA, lsB, lsC, lsD, lsE, lsF, lsG]) | ((with_reducible apply awp_cond); (focus (simp only [St.ev, St.set, upd, Nat.reduceEqDiff, reduceIte, ifA, ifB]; exact rfl)); all_goals (intro hb; first | (cases hb; done) | ((try rw [hb]); (try simp only [dcA, dcB, dcC, dcD, dcE, Bool.not_eq_true', Bool.not_eq_false'] at hb)))) | ((with_reducible refine And.intro ?_ ?_); (focus omega)) | (exfalso; omega) | fail)
      refine ⟨i + 1, by omega, by omega, Wk.sub (tsd (tsd (tsd (tsd (tsd (tsd tsd0 rfl) (by rw [e2]; rfl)) (by rw [e2]; rfl)) (by rw [e2]; rfl)) rfl) rfl) (fun _ _ h => h) rfl⟩
  · have ei : d = i := by omega
    subst ei


    repeat' (first | refine awp_seq_k fun K hK => ?_ | ((with_reducible refine hK _ ?_); clear hK K) | (clear hK K; (with_reducible refine hK _ ?_); clear hK K) | ((with_reducible refine aord_plain fun K hK => ?_); simp only [go_sem, Nat.reduceAdd, Nat.reduceMul, Nat.reduceEqDiff, Nat.reduceLT, reduceIte, reduceCtorEq, mat.matL]) | refine awp_block ?_ | ((first | with_reducible refine aord_nil ?_ | refine awp_skip ?_ | refine awp_exit ?_ | refine awp_ret ?_); try simp only [rdA, Nat.reduceEqDiff, ifA, ifB, reduceIte]) | (refine awp_region tabOk rfl ?_; simp only [prep, pickO, lsA, lsB, lsC, lsD, lsE, lsF, lsG]) | ((with_reducible apply awp_cond); (focus (simp only [St.ev, St.set, upd, Nat.reduceEqDiff, reduceIte, ifA, ifB]; exact rfl)); all_goals (intro hb; first | (cases hb; done) | ((try rw [hb]); (try simp only [dcA, dcB, dcC, dcD, dcE, Bool.not_eq_true', Bool.not_eq_false'] at hb)))) | ((with_reducible refine And.intro ?_ ?_); (focus omega)) | (simp only [doneH]; simp only [ressK, resK, wrapR, go_sem, Nat.reduceAdd, Nat.reduceMul, Nat.reduceEqDiff, Nat.reduceLT, reduceIte, reduceCtorEq]) | (exfalso; omega) | fail)
    exact hQ

end Go.Proofs.Ytacmgdaonacmeaa
