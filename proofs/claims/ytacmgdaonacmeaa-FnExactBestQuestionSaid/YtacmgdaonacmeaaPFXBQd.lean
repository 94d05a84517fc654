/- Contracts of functions of the program. -/
import Derived.Test.YtacmgdaonacmeaaPFXBQc
import Derived.ScopeJumps
namespace Go.Proofs.Ytacmgdaonacmeaa
open Go Go.Ab
set_option linter.all false
set_option maxHeartbeats 4000000

theorem specSplit_sat : SatH Try.prog 68 (fun al h n K => ∃ (O : Nat) (f : Nat → Nat) (xss : List (List Int)) (a c : Int), al = [.sl O 0 xss.length 1 none, .val (.int .i64 (a)), .val (.int .i64 (c))] ∧ (RowsOf h n O f xss) ∧ (xss.length ≤ 500) ∧ (∀ j, (xss.getD j []).length ≤ 1000) ∧ (a ≠ c) ∧ K (.tup [.val (.int .i64 (((xss.filter (ahP a c)).length : Nat) : Int)), .val (.int .i64 ((xss.length : Int) - (((xss.filter (ahP a c)).length : Nat) : Int)))]) (h) (n)) := by
  refine satH_intro tabOk Try.func68 rfl 30 rfl [.tmp 6, .tmp 7] rfl ?_
  rintro F W h n al K0 ⟨O, f, xss, a, c, rfl, hR, hxl, hx, hac, hQ⟩
  refine ⟨Nat.le_of_ble_eq_true rfl, fun m0 hm0 hcl hlt => ?_⟩
  simp only [initT]
  have hOn := hR.outn
  have hOr := hR.out
  have hsl := @slsN_len f xss 0


  repeat' (first | refine awp_seq_k fun K hK => ?_ | ((with_reducible refine hK _ ?_); clear hK K) | ((with_reducible refine aord_plain fun K hK => ?_); simp only [go_sem, Nat.reduceAdd, Nat.reduceMul, Nat.reduceEqDiff, Nat.reduceLT, reduceIte, reduceCtorEq, hOr, Nat.add_eq_left, Nat.left_eq_add, Nat.add_assoc, Nat.reduceAdd, if_false, if_true, hOr, hsl]) | refine awp_block ?_ | ((first | with_reducible refine aord_nil ?_ | refine awp_skip ?_ | refine awp_exit ?_ | refine awp_ret ?_); try simp only [thenA_normal, thenA_exit, thenA_goto, thenA_ret, blockA_normal, blockA_same, blockA_exit, blockA_goto, blockA_ret, Nat.reduceEqDiff, if_false, if_true, reduceIte]) | (refine awp_region tabOk rfl ?_; simp only [prep, pickO, List.map_cons, List.map_nil, List.getElem?_toArray, List.getElem?_cons_succ, List.getElem?_cons_zero, Option.bind_some, Option.map_some]) | fail)
  refine awp_loop (fun i : Nat => ⟨upd (upd (upd (upd (upd bot 9 (.val (.int .i64 i))) 8 (.val (.int .i64 ((((xss.take i).filter (ahP a c)).length : Nat) : Int)))) 2 (.val (.int .i64 c))) 1 (.val (.int .i64 a))) 0 (.sl O 0 xss.length 1 none), h, n⟩) (fun i => i ≤ xss.length) (fun i => xss.length - i) 0 (Nat.zero_le _) ?_ ?_
  · exact Wk.sub (tsd (tsd (tsd (tsd (tsd tsd0 rfl) rfl) rfl) rfl) rfl) (fun _ _ h => h) rfl
  intro i hix
  have hle := List.length_filter_le (ahP a c) (xss.take i)
  have hle2 : (xss.take i).length ≤ 500 := by rw [List.length_take]; omega
  rcases Nat.lt_or_ge i xss.length with hlt2 | hge
  · have hget := hR.get hlt2
    have hrow := hR.row i hlt2
    have hxi := hx i
    have htk : xss.take (i + 1) = xss.take i ++ [xss.getD i []] := by
      rw [List.take_succ_eq_append_getElem hlt2, List.getD_eq_getElem?_getD, List.getElem?_eq_getElem hlt2]; rfl
    cases hag : ahP a c (xss.getD i []) with
    | false =>
      have hfl2 : (xss.take (i + 1)).filter (ahP a c) = (xss.take i).filter (ahP a c) := by rw [htk, List.filter_append, List.filter_cons_of_neg (by rw [hag]; simp), List.filter_nil, List.append_nil]


      repeat' (first | refine awp_seq_k fun K hK => ?_ | ((with_reducible refine hK _ ?_); clear hK K) | (clear hK K; (with_reducible refine hK _ ?_); clear hK K) | ((with_reducible refine aord_plain fun K hK => ?_); simp only [go_sem, Nat.reduceAdd, Nat.reduceMul, Nat.reduceEqDiff, Nat.reduceLT, reduceIte, reduceCtorEq, hOr, hrow, hag, Nat.add_eq_left, Nat.left_eq_add, Nat.add_assoc, Nat.reduceAdd, if_false, if_true, hOr, hsl, hget, hrow, hag]) | refine awp_block ?_ | ((first | with_reducible refine aord_nil ?_ | refine awp_skip ?_ | refine awp_exit ?_ | refine awp_ret ?_); try simp only [thenA_normal, thenA_exit, thenA_goto, thenA_ret, blockA_normal, blockA_same, blockA_exit, blockA_goto, blockA_ret, Nat.reduceEqDiff, if_false, if_true, reduceIte]) | (refine awp_region tabOk rfl ?_; simp only [prep, pickO, List.map_cons, List.map_nil, List.getElem?_toArray, List.getElem?_cons_succ, List.getElem?_cons_zero, Option.bind_some, Option.map_some]) | ((with_reducible apply awp_cond); (focus (simp only [St.ev, St.set, upd, Nat.reduceEqDiff, reduceIte, if_false, if_true, hOr, hrow, hag, Nat.add_eq_left, Nat.left_eq_add, Nat.add_assoc, Nat.reduceAdd, if_false, if_true]; exact rfl)); all_goals (intro hb; first | (cases hb; done) | ((try rw [hb]); (try simp only [decide_eq_true_eq, decide_eq_false_iff_not, beq_iff_eq, bne_iff_ne, beq_eq_false_iff_ne, bne_eq_false_iff_eq, Int.not_lt, Int.not_le, Bool.not_eq_true', Bool.not_eq_false'] at hb)))) | ((with_reducible refine And.intro ?_ ?_); (focus omega)) | ((with_reducible refine And.intro (?_ : enters Try.prog 84) ?_); (focus exact Try.call84); (refine callX_sat ahead_sat ?_); simp only [go_sem, and_assoc, List.nil_append, List.append_nil, List.cons_append, Nat.reduceEqDiff, reduceIte, reduceCtorEq, hOr, hrow, hag, Nat.add_eq_left, Nat.left_eq_add, Nat.add_assoc, Nat.reduceAdd, if_false, if_true, hOr, hsl, hget, hrow, hag]) | (simp only [doneH]; simp only [ressK, resK, wrapR, go_sem, Nat.reduceAdd, Nat.reduceMul, Nat.reduceEqDiff, Nat.reduceLT, reduceIte, reduceCtorEq, hOr, hrow, hag, Nat.add_eq_left, Nat.left_eq_add, Nat.add_assoc, Nat.reduceAdd, if_false, if_true]) | (exfalso; omega) | fail)
      refine ⟨i + 1, by omega, by omega, Wk.sub (tsd (tsd (tsd (tsd (tsd tsd0 rfl) (by rw [hfl2]; rfl)) rfl) rfl) rfl) (fun _ _ h => h) rfl⟩
    | true =>
      have hfl2 : ((xss.take (i + 1)).filter (ahP a c)).length = ((xss.take i).filter (ahP a c)).length + 1 := by rw [htk, List.filter_append, List.filter_cons_of_pos hag, List.filter_nil, List.length_append]; rfl


      repeat' (first | refine awp_seq_k fun K hK => ?_ | ((with_reducible refine hK _ ?_); clear hK K) | (clear hK K; (with_reducible refine hK _ ?_); clear hK K) | ((with_reducible refine aord_plain fun K hK => ?_); simp only [go_sem, Nat.reduceAdd, Nat.reduceMul, Nat.reduceEqDiff, Nat.reduceLT, reduceIte, reduceCtorEq, hOr, hrow, hag, Nat.add_eq_left, Nat.left_eq_add, Nat.add_assoc, Nat.reduceAdd, if_false, if_true, hOr, hsl, hget, hrow, hag]) | refine awp_block ?_ | ((first | with_reducible refine aord_nil ?_ | refine awp_skip ?_ | refine awp_exit ?_ | refine awp_ret ?_); try simp only [thenA_normal, thenA_exit, thenA_goto, thenA_ret, blockA_normal, blockA_same, blockA_exit, blockA_goto, blockA_ret, Nat.reduceEqDiff, if_false, if_true, reduceIte]) | (refine awp_region tabOk rfl ?_; simp only [prep, pickO, List.map_cons, List.map_nil, List.getElem?_toArray, List.getElem?_cons_succ, List.getElem?_cons_zero, Option.bind_some, Option.map_some]) | ((with_reducible apply awp_cond); (focus (simp only [St.ev, St.set, upd, Nat.reduceEqDiff, reduceIte, if_false, if_true, hOr, hrow, hag, Nat.add_eq_left, Nat.left_eq_add, Nat.add_assoc, Nat.reduceAdd, if_false, if_true]; exact rfl)); all_goals (intro hb; first | (cases hb; done) | ((try rw [hb]); (try simp only [decide_eq_true_eq, decide_eq_false_iff_not, beq_iff_eq, bne_iff_ne, beq_eq_false_iff_ne, bne_eq_false_iff_eq, Int.not_lt, Int.not_le, Bool.not_eq_true', Bool.not_eq_false'] at hb)))) | ((with_reducible refine And.intro ?_ ?_); (focus omega)) | ((with_reducible refine And.intro (?_ : enters Try.prog 84) ?_); (focus exact Try.call84); (refine callX_sat ahead_sat ?_); simp only [go_sem, and_assoc, List.nil_append, List.append_nil, List.cons_append, Nat.reduceEqDiff, reduceIte, reduceCtorEq, hOr, hrow, hag, Nat.add_eq_left, Nat.left_eq_add, Nat.add_assoc, Nat.reduceAdd, if_false, if_true, hOr, hsl, hget, hrow, hag]) | (simp only [doneH]; simp only [ressK, resK, wrapR, go_sem, Nat.reduceAdd, Nat.reduceMul, Nat.reduceEqDiff, Nat.reduceLT, reduceIte, reduceCtorEq, hOr, hrow, hag, Nat.add_eq_left, Nat.left_eq_add, Nat.add_assoc, Nat.reduceAdd, if_false, if_true]) | (exfalso; omega) | fail)
      refine ⟨i + 1, by omega, by omega, Wk.sub (tsd (tsd (tsd (tsd (tsd tsd0 rfl) (by rw [hfl2]; rfl)) rfl) rfl) rfl) (fun _ _ h => h) rfl⟩
  · have ei : i = xss.length := by omega
    subst ei
    rw [List.take_length] at hle ⊢


    repeat' (first | refine awp_seq_k fun K hK => ?_ | ((with_reducible refine hK _ ?_); clear hK K) | (clear hK K; (with_reducible refine hK _ ?_); clear hK K) | ((with_reducible refine aord_plain fun K hK => ?_); simp only [go_sem, Nat.reduceAdd, Nat.reduceMul, Nat.reduceEqDiff, Nat.reduceLT, reduceIte, reduceCtorEq, hOr, Nat.add_eq_left, Nat.left_eq_add, Nat.add_assoc, Nat.reduceAdd, if_false, if_true, hOr, hsl]) | refine awp_block ?_ | ((first | with_reducible refine aord_nil ?_ | refine awp_skip ?_ | refine awp_exit ?_ | refine awp_ret ?_); try simp only [thenA_normal, thenA_exit, thenA_goto, thenA_ret, blockA_normal, blockA_same, blockA_exit, blockA_goto, blockA_ret, Nat.reduceEqDiff, if_false, if_true, reduceIte]) | (refine awp_region tabOk rfl ?_; simp only [prep, pickO, List.map_cons, List.map_nil, List.getElem?_toArray, List.getElem?_cons_succ, List.getElem?_cons_zero, Option.bind_some, Option.map_some]) | ((with_reducible apply awp_cond); (focus (simp only [St.ev, St.set, upd, Nat.reduceEqDiff, reduceIte, if_false, if_true, hOr, Nat.add_eq_left, Nat.left_eq_add, Nat.add_assoc, Nat.reduceAdd, if_false, if_true]; exact rfl)); all_goals (intro hb; first | (cases hb; done) | ((try rw [hb]); (try simp only [decide_eq_true_eq, decide_eq_false_iff_not, beq_iff_eq, bne_iff_ne, beq_eq_false_iff_ne, bne_eq_false_iff_eq, Int.not_lt, Int.not_le, Bool.not_eq_true', Bool.not_eq_false'] at hb)))) | ((with_reducible refine And.intro ?_ ?_); (focus omega)) | (simp only [doneH]; simp only [ressK, resK, wrapR, go_sem, Nat.reduceAdd, Nat.reduceMul, Nat.reduceEqDiff, Nat.reduceLT, reduceIte, reduceCtorEq, hOr, Nat.add_eq_left, Nat.left_eq_add, Nat.add_assoc, Nat.reduceAdd, if_false, if_true]) | (exfalso; omega) | fail)
    exact hQ

/-- The greater part of the orders that an answer to a question leaves. -/
def mxP (L : List (List Int)) (i k : Nat) : Int := max (((L.filter (agB [((i : Int), (k : Int))])).length : Nat) : Int) ((L.length : Int) - (((L.filter (agB [((i : Int), (k : Int))])).length : Nat) : Int))
/-- The best question so far, and how many orders it may leave; questions about i and the items behind it up to j; all with a first item under i. -/
def bqS (L : List (List Int)) (i k : Nat) (s : Int × Int × Int) : Int × Int × Int := if mxP L i k < s.2.2 then ((i : Int), (k : Int), mxP L i k) else s
def bqRow (L : List (List Int)) (i : Nat) : Nat → Int × Int × Int → Int × Int × Int
  | 0, s => s
  | j + 1, s => if i < j then bqS L i j (bqRow L i j s) else bqRow L i j s
def bqTo (L : List (List Int)) (d : Nat) : Nat → Int × Int × Int → Int × Int × Int
  | 0, s => s
  | i + 1, s => bqRow L i d (bqTo L d i s)
theorem bqRow_low {L : List (List Int)} {i : Nat} {s : Int × Int × Int} : ∀ j, j ≤ i + 1 → bqRow L i j s = s
  | 0, _ => rfl
  | j + 1, h => by rw [bqRow, if_neg (by omega), bqRow_low j (by omega)]
theorem mxP_in {L : List (List Int)} (i k : Nat) : 0 ≤ mxP L i k ∧ mxP L i k ≤ L.length := by
  have := List.length_filter_le (agB [((i : Int), (k : Int))]) L
  unfold mxP; omega
theorem bqS_in {L : List (List Int)} {i k d : Nat} {s : Int × Int × Int} (h : (-1 ≤ s.1 ∧ s.1 < d ∨ s.1 = 0) ∧ (-1 ≤ s.2.1 ∧ s.2.1 < d ∨ s.2.1 = 0) ∧ 0 ≤ s.2.2 ∧ s.2.2 ≤ L.length) (hi : i < d) (hk : k < d) : (-1 ≤ (bqS L i k s).1 ∧ (bqS L i k s).1 < d ∨ (bqS L i k s).1 = 0) ∧ (-1 ≤ (bqS L i k s).2.1 ∧ (bqS L i k s).2.1 < d ∨ (bqS L i k s).2.1 = 0) ∧ 0 ≤ (bqS L i k s).2.2 ∧ (bqS L i k s).2.2 ≤ L.length := by
  have := mxP_in (L := L) i k
  unfold bqS
  split
  · dsimp only; omega
  · exact h
theorem bqS_two {L : List (List Int)} {i k : Nat} {s t : Int × Int × Int} (h : s.2.2 = t.2.2) : (bqS L i k s).2.2 = (bqS L i k t).2.2 ∧ (bqS L i k s = bqS L i k t ∨ (bqS L i k s = s ∧ bqS L i k t = t)) := by
  unfold bqS
  by_cases c : mxP L i k < s.2.2
  · rw [if_pos c, if_pos (by omega)]; exact ⟨rfl, .inl rfl⟩
  · rw [if_neg c, if_neg (by omega)]; exact ⟨h, .inr ⟨rfl, rfl⟩⟩
theorem bqRow_two {L : List (List Int)} {i : Nat} {s t : Int × Int × Int} (h : s.2.2 = t.2.2) : ∀ j, (bqRow L i j s).2.2 = (bqRow L i j t).2.2 ∧ (bqRow L i j s = bqRow L i j t ∨ (bqRow L i j s = s ∧ bqRow L i j t = t))
  | 0 => ⟨h, .inr ⟨rfl, rfl⟩⟩
  | j + 1 => by
    obtain ⟨h1, h2⟩ := bqRow_two (L := L) (i := i) h j
    rw [bqRow, bqRow]
    by_cases c : i < j
    · rw [if_pos c, if_pos c]
      rcases h2 with h2 | ⟨h2, h3⟩
      · rw [h2]; exact ⟨rfl, .inl rfl⟩
      · rw [h2, h3]; exact bqS_two h
    · rw [if_neg c, if_neg c]; exact ⟨h1, h2⟩
theorem bqTo_two {L : List (List Int)} {d : Nat} {s t : Int × Int × Int} (h : s.2.2 = t.2.2) : ∀ i, (bqTo L d i s).2.2 = (bqTo L d i t).2.2 ∧ (bqTo L d i s = bqTo L d i t ∨ (bqTo L d i s = s ∧ bqTo L d i t = t))
  | 0 => ⟨h, .inr ⟨rfl, rfl⟩⟩
  | i + 1 => by
    obtain ⟨h1, h2⟩ := bqTo_two (L := L) (d := d) h i
    rw [bqTo, bqTo]
    rcases h2 with h2 | ⟨h2, h3⟩
    · rw [h2]; exact ⟨rfl, .inl rfl⟩
    · rw [h2, h3]; exact bqRow_two h d
theorem bqS_le {L : List (List Int)} {i k : Nat} {s : Int × Int × Int} : (bqS L i k s).2.2 ≤ s.2.2 ∧ (bqS L i k s).2.2 ≤ mxP L i k := by
  unfold bqS
  split
  · dsimp only; omega
  · omega
theorem bqRow_le {L : List (List Int)} {i : Nat} {s : Int × Int × Int} : ∀ j, (bqRow L i j s).2.2 ≤ s.2.2 ∧ ∀ k, i < k → k < j → (bqRow L i j s).2.2 ≤ mxP L i k
  | 0 => ⟨Int.le_refl _, fun k _ h => by omega⟩
  | j + 1 => by
    obtain ⟨h1, h2⟩ := bqRow_le (L := L) (i := i) (s := s) j
    rw [bqRow]
    by_cases c : i < j
    · rw [if_pos c]
      obtain ⟨h3, h4⟩ := bqS_le (L := L) (i := i) (k := j) (s := bqRow L i j s)
      refine ⟨by omega, fun k hk hkj => ?_⟩
      rcases Nat.lt_or_ge k j with e | e
      · have := h2 k hk e; omega
      · obtain rfl : k = j := by omega
        exact h4
    · rw [if_neg c]; exact ⟨h1, fun k hk hkj => h2 k hk (by omega)⟩
theorem bqTo_le {L : List (List Int)} {d : Nat} {s : Int × Int × Int} : ∀ n, (bqTo L d n s).2.2 ≤ s.2.2 ∧ ∀ i k, i < n → i < k → k < d → (bqTo L d n s).2.2 ≤ mxP L i k
  | 0 => ⟨Int.le_refl _, fun i k h => by omega⟩
  | n + 1 => by
    obtain ⟨h1, h2⟩ := bqTo_le (L := L) (d := d) (s := s) n
    obtain ⟨h3, h4⟩ := bqRow_le (L := L) (i := n) (s := bqTo L d n s) d
    rw [bqTo]
    refine ⟨by omega, fun i k hi hk hd => ?_⟩
    rcases Nat.lt_or_ge i n with e | e
    · have := h2 i k e hk hd; omega
    · obtain rfl : i = n := by omega
      exact h4 k hk hd
theorem first_diff {p q : List Int} : ∀ n, (∀ j, j < n → p.getD j 0 = q.getD j 0) ∨ ∃ i, i < n ∧ p.getD i 0 ≠ q.getD i 0 ∧ ∀ j, j < i → p.getD j 0 = q.getD j 0
  | 0 => .inl fun j h => by omega
  | n + 1 => by
    rcases first_diff (p := p) (q := q) n with h | ⟨i, h1, h2⟩
    · by_cases e : p.getD n 0 = q.getD n 0
      · refine .inl fun j hj => ?_
        rcases Nat.lt_or_ge j n with c | c
        · exact h j c
        · obtain rfl : j = n := by omega
          exact e
      · exact .inr ⟨n, by omega, e, h⟩
    · exact .inr ⟨i, by omega, h2⟩
theorem ordK_nodup {d : Nat} (h : d ≤ 5) : (ordK d d []).Nodup := by
  have : d = 0 ∨ d = 1 ∨ d = 2 ∨ d = 3 ∨ d = 4 ∨ d = 5 := by omega
  rcases this with rfl | rfl | rfl | rfl | rfl | rfl
  all_goals decide +kernel
/-- Two orders part at a question. -/
theorem two_part {d : Nat} {p q : List Int} (hp : Beg d p) (hq : Beg d q) (hpl : p.length = d) (hql : q.length = d) (hne : p ≠ q) : ∃ i k : Nat, i < k ∧ k < d ∧ agB [((i : Int), (k : Int))] p ≠ agB [((i : Int), (k : Int))] q := by
  rcases first_diff (p := p) (q := q) d with h | ⟨i, hi, h1, h2⟩
  · exact (hne (ext_getD (hpl.trans hql.symm) fun j hj => h j (by omega))).elim
  · have ha := hp.at (show i < p.length by omega)
    have hc := hq.at (show i < q.length by omega)
    have fa := hp.fst (show i < p.length by omega)
    have fc := hq.fst (show i < q.length by omega)
    obtain ⟨j, j1, j2, j3⟩ := hp.all hpl hc
    obtain ⟨m, m1, m2, m3⟩ := hq.all hql ha
    have hij : i < j := by
      rcases Nat.lt_trichotomy i j with e | e | e
      · exact e
      · subst e; exact (h1 j2).elim
      · have h3 := h2 j e
        rw [j2] at h3
        exact (hq.inj e (by omega) h3.symm).elim
    have him : i < m := by
      rcases Nat.lt_trichotomy i m with e | e | e
      · exact e
      · subst e; exact (h1 m2.symm).elim
      · have h3 := h2 m e
        rw [m2] at h3
        exact (hp.inj e (by omega) h3).elim
    have g1 : agB [(p.getD i 0, q.getD i 0)] p = true := agB_iff.2 fun f hf => by rw [List.mem_singleton.1 hf]; dsimp only; rw [fa, j3]; omega
    have g2 : agB [(p.getD i 0, q.getD i 0)] q = false := by
      cases e : agB [(p.getD i 0, q.getD i 0)] q with
      | false => rfl
      | true => have := agB_iff.1 e _ (List.mem_singleton.2 rfl); dsimp only at this; rw [fc, m3] at this; omega
    have g3 : agB [(q.getD i 0, p.getD i 0)] q = true := agB_iff.2 fun f hf => by rw [List.mem_singleton.1 hf]; dsimp only; rw [fc, m3]; omega
    have g4 : agB [(q.getD i 0, p.getD i 0)] p = false := by
      cases e : agB [(q.getD i 0, p.getD i 0)] p with
      | false => rfl
      | true => have := agB_iff.1 e _ (List.mem_singleton.2 rfl); dsimp only at this; rw [fa, j3] at this; omega
    have ea : ((p.getD i 0).toNat : Int) = p.getD i 0 := Int.toNat_of_nonneg ha.1
    have ec : ((q.getD i 0).toNat : Int) = q.getD i 0 := Int.toNat_of_nonneg hc.1
    rcases Nat.lt_or_ge (p.getD i 0).toNat (q.getD i 0).toNat with e | e
    · exact ⟨_, _, e, by omega, by rw [ea, ec, g1, g2]; simp⟩
    · exact ⟨(q.getD i 0).toNat, (p.getD i 0).toNat, by omega, by omega, by rw [ea, ec, g3, g4]; simp⟩
theorem mx_small {L : List (List Int)} {p q : List Int} {i k : Nat} (hp : p ∈ L) (hq : q ∈ L) (h : agB [((i : Int), (k : Int))] p ≠ agB [((i : Int), (k : Int))] q) : mxP L i k < L.length := by
  have key : ∀ x y, x ∈ L → y ∈ L → agB [((i : Int), (k : Int))] x = true → agB [((i : Int), (k : Int))] y = false → mxP L i k < L.length := fun x y hx hy h1 h2 => by
    have a1 : (L.filter (agB [((i : Int), (k : Int))])).length < L.length := List.length_filter_lt_length_iff_exists.2 ⟨y, hy, by rw [h2]; simp⟩
    have a2 : 0 < (L.filter (agB [((i : Int), (k : Int))])).length := List.length_pos_of_mem (List.mem_filter.2 ⟨hx, h1⟩)
    unfold mxP; omega
  cases e1 : agB [((i : Int), (k : Int))] p <;> cases e2 : agB [((i : Int), (k : Int))] q
  · exact (h (e1.trans e2.symm)).elim
  · exact key q p hq hp e2 e1
  · exact key p q hp hq e1 e2
  · exact (h (e1.trans e2.symm)).elim
theorem bq_some {d : Nat} {fs : List (Int × Int)} (h : VF d fs) (h2 : 2 ≤ (orO d fs).length) : ∃ i k : Nat, i < k ∧ k < d ∧ mxP (orO d fs) i k < (orO d fs).length := by
  have hd : d ≤ 5 := by have := h.1; omega
  have hnd : (orO d fs).Nodup := by rw [orO_ag h]; exact (ordK_nodup hd).filter _
  have m0 : (orO d fs)[0] ∈ orO d fs := List.getElem_mem (by omega)
  have m1 : (orO d fs)[1] ∈ orO d fs := List.getElem_mem (by omega)
  have hne : (orO d fs)[0] ≠ (orO d fs)[1] := (List.pairwise_iff_getElem.1 (List.nodup_iff_pairwise_ne.1 hnd)) 0 1 (by omega) (by omega) (by decide)
  obtain ⟨b0, l0⟩ := orO_beg h m0
  obtain ⟨b1, l1⟩ := orO_beg h m1
  obtain ⟨i, k, hik, hk, hag⟩ := two_part b0 b1 l0 l1 hne
  exact ⟨i, k, hik, hk, mx_small m0 m1 hag⟩
theorem bq_same {d : Nat} {fs : List (Int × Int)} {s t : Int × Int × Int} (h : VF d fs) (h2 : 2 ≤ (orO d fs).length) (hs : s.2.2 = (orO d fs).length) (ht : t.2.2 = (orO d fs).length) : bqTo (orO d fs) d d s = bqTo (orO d fs) d d t := by
  rcases (bqTo_two (L := orO d fs) (d := d) (hs.trans ht.symm) d).2 with e | ⟨e, _⟩
  · exact e
  · obtain ⟨i, k, hik, hk, hm⟩ := bq_some h h2
    have := (bqTo_le (L := orO d fs) (d := d) (s := s) d).2 i k (by omega) hik hk
    rw [e] at this
    omega

theorem specBestQ_sat : SatH Try.prog 47 (fun al h n K => ∃ (d O : Nat) (f : Nat → Nat) (fs : List (Int × Int)), al = [.val (.int .i64 (d)), .sl O 0 (orO d fs).length 1 none] ∧ (RowsOf h n O f (orO d fs)) ∧ (VF d fs) ∧ K (.tup [.val (.int .i64 (bqTo (orO d fs) d d (-1, -1, ((orO d fs).length : Int))).1), .val (.int .i64 (bqTo (orO d fs) d d (-1, -1, ((orO d fs).length : Int))).2.1)]) (h) (n)) := by
  refine satH_intro tabOk Try.func47 rfl 46 rfl [.tmp 4, .tmp 5] rfl ?_
  rintro F W h n al K0 ⟨d, O, f, fs, rfl, hR, hV, hQ⟩
  refine ⟨Nat.le_of_ble_eq_true rfl, fun m0 hm0 hcl hlt => ?_⟩
  simp only [initT]
  have hOn := hR.outn
  have hcap := orO_cap (d : Int) fs
  have hrw : ∀ j, ((orO d fs).getD j []).length ≤ 1000 := fun j => by have := orO_row (z := d) (fs := fs) j; omega
  have hd5 : d ≤ 5 := by have := hV.1; omega
  have hah : ∀ i k : Nat, i < k → k < d → (orO d fs).filter (ahP (i : Int) (k : Int)) = (orO d fs).filter (agB [((i : Int), (k : Int))]) := fun i k h1 h2 => sp_ah hV ⟨⟨⟨by omega, by omega⟩, by omega, by omega⟩, by omega⟩
  generalize hLL : orO d fs = L at *


  repeat' (first | refine awp_seq_k fun K hK => ?_ | ((with_reducible refine hK _ ?_); clear hK K) | ((with_reducible refine aord_plain fun K hK => ?_); simp only [go_sem, Nat.reduceAdd, Nat.reduceMul, Nat.reduceEqDiff, Nat.reduceLT, reduceIte, reduceCtorEq, mat.matL]) | refine awp_block ?_ | ((first | with_reducible refine aord_nil ?_ | refine awp_skip ?_ | refine awp_exit ?_ | refine awp_ret ?_); try simp only [thenA_normal, thenA_exit, thenA_goto, thenA_ret, blockA_normal, blockA_same, blockA_exit, blockA_goto, blockA_ret, Nat.reduceEqDiff, if_false, if_true, reduceIte]) | (refine awp_region tabOk rfl ?_; simp only [prep, pickO, List.map_cons, List.map_nil, List.getElem?_toArray, List.getElem?_cons_succ, List.getElem?_cons_zero, Option.bind_some, Option.map_some]) | fail)
  refine awp_loop (fun i : Nat => ⟨upd (upd (upd (upd (upd (upd bot 9 (.val (.int .i64 i))) 8 (.val (.int .i64 (bqTo L d i (-1, -1, (L.length : Int))).2.2))) 7 (.val (.int .i64 (bqTo L d i (-1, -1, (L.length : Int))).2.1))) 6 (.val (.int .i64 (bqTo L d i (-1, -1, (L.length : Int))).1))) 1 (.sl O 0 L.length 1 none)) 0 (.val (.int .i64 d)), h, n⟩) (fun i => i ≤ d) (fun i => d - i) 0 (Nat.zero_le _) ?_ ?_
  · exact Wk.sub (tsd (tsd (tsd (tsd (tsd (tsd tsd0 rfl) rfl) rfl) rfl) rfl) rfl) (fun _ _ h => h) rfl
  intro i hid
  rcases Nat.lt_or_ge i d with hlt2 | hge
  · skip


    repeat' (first | refine awp_seq_k fun K hK => ?_ | ((with_reducible refine hK _ ?_); clear hK K) | (clear hK K; (with_reducible refine hK _ ?_); clear hK K) | ((with_reducible refine aord_plain fun K hK => ?_); simp only [go_sem, Nat.reduceAdd, Nat.reduceMul, Nat.reduceEqDiff, Nat.reduceLT, reduceIte, reduceCtorEq, mat.matL]) | refine awp_block ?_ | ((first | with_reducible refine aord_nil ?_ | refine awp_skip ?_ | refine awp_exit ?_ | refine awp_ret ?_); try simp only [thenA_normal, thenA_exit, thenA_goto, thenA_ret, blockA_normal, blockA_same, blockA_exit, blockA_goto, blockA_ret, Nat.reduceEqDiff, if_false, if_true, reduceIte]) | (refine awp_region tabOk rfl ?_; simp only [prep, pickO, List.map_cons, List.map_nil, List.getElem?_toArray, List.getElem?_cons_succ, List.getElem?_cons_zero, Option.bind_some, Option.map_some]) | ((with_reducible apply awp_cond); (focus (simp only [St.ev, St.set, upd, Nat.reduceEqDiff, reduceIte, if_false, if_true]; exact rfl)); all_goals (intro hb; first | (cases hb; done) | ((try rw [hb]); (try simp only [decide_eq_true_eq, decide_eq_false_iff_not, beq_iff_eq, bne_iff_ne, beq_eq_false_iff_ne, bne_eq_false_iff_eq, Int.not_lt, Int.not_le, Bool.not_eq_true', Bool.not_eq_false'] at hb)))) | ((with_reducible refine And.intro ?_ ?_); (focus omega)) | (simp only [doneH]; simp only [ressK, resK, wrapR, go_sem, Nat.reduceAdd, Nat.reduceMul, Nat.reduceEqDiff, Nat.reduceLT, reduceIte, reduceCtorEq]) | (exfalso; omega) | fail)
    generalize hss : bqTo L d i (-1, -1, (L.length : Int)) = s0
    refine awp_loop (fun k : Nat => ⟨upd (upd (upd (upd (upd (upd (upd bot 10 (.val (.int .i64 k))) 9 (.val (.int .i64 i))) 8 (.val (.int .i64 (bqRow L i k s0).2.2))) 7 (.val (.int .i64 (bqRow L i k s0).2.1))) 6 (.val (.int .i64 (bqRow L i k s0).1))) 1 (.sl O 0 L.length 1 none)) 0 (.val (.int .i64 d)), h, n⟩) (fun k => k ≤ d ∧ i + 1 ≤ k) (fun k => d - k) (i + 1) ⟨by omega, Nat.le_refl _⟩ ?_ ?_
    · have el := bqRow_low (L := L) (i := i) (s := s0) (i + 1) (Nat.le_refl _)
      exact Wk.sub (tsd (tsd (tsd (tsd (tsd (tsd (tsd tsd0 rfl) rfl) (by rw [el]; rfl)) (by rw [el]; rfl)) (by rw [el]; rfl)) rfl) rfl) (fun _ _ h => h) rfl
    rintro k ⟨hkd, hik⟩
    have hup : bqRow L i (k + 1) s0 = bqS L i k (bqRow L i k s0) := by rw [bqRow, if_pos (by omega)]
    rcases Nat.lt_or_ge k d with hlt3 | hge3
    · have hmx := mxP_in (L := L) i k
      have hfl := List.length_filter_le (agB [((i : Int), (k : Int))]) L


      repeat' (first | refine awp_seq_k fun K hK => ?_ | ((with_reducible refine hK _ ?_); clear hK K) | (clear hK K; (with_reducible refine hK _ ?_); clear hK K) | ((with_reducible refine aord_plain fun K hK => ?_); simp only [go_sem, Nat.reduceAdd, Nat.reduceMul, Nat.reduceEqDiff, Nat.reduceLT, reduceIte, reduceCtorEq, mat.matL]) | refine awp_block ?_ | ((first | with_reducible refine aord_nil ?_ | refine awp_skip ?_ | refine awp_exit ?_ | refine awp_ret ?_); try simp only [thenA_normal, thenA_exit, thenA_goto, thenA_ret, blockA_normal, blockA_same, blockA_exit, blockA_goto, blockA_ret, Nat.reduceEqDiff, if_false, if_true, reduceIte]) | (refine awp_region tabOk rfl ?_; simp only [prep, pickO, List.map_cons, List.map_nil, List.getElem?_toArray, List.getElem?_cons_succ, List.getElem?_cons_zero, Option.bind_some, Option.map_some]) | ((with_reducible apply awp_cond); (focus (simp only [St.ev, St.set, upd, Nat.reduceEqDiff, reduceIte, if_false, if_true]; exact rfl)); all_goals (intro hb; first | (cases hb; done) | ((try rw [hb]); (try simp only [decide_eq_true_eq, decide_eq_false_iff_not, beq_iff_eq, bne_iff_ne, beq_eq_false_iff_ne, bne_eq_false_iff_eq, Int.not_lt, Int.not_le, Bool.not_eq_true', Bool.not_eq_false'] at hb)))) | ((with_reducible refine And.intro ?_ ?_); (focus omega)) | ((with_reducible refine And.intro (?_ : enters Try.prog 68) ?_); (focus exact Try.call68); (refine callX_satH specSplit_sat ?_); simp only [go_sem, and_assoc, List.nil_append, List.append_nil, List.cons_append, Nat.reduceEqDiff, reduceIte, reduceCtorEq, mat.matL]) | (exfalso; omega) | fail)
      refine ⟨f, L, rfl, hR, by omega, hrw, by omega, ?_⟩
      rw [hah i k (by omega) hlt3]
      by_cases hc : mxP L i k < (bqRow L i k s0).2.2
      · have e1 : decide (max (((L.filter (agB [((i : Int), (k : Int))])).length : Nat) : Int) ((L.length : Int) - (((L.filter (agB [((i : Int), (k : Int))])).length : Nat) : Int)) < (bqRow L i k s0).2.2) = true := decide_eq_true hc
        have e2 : bqRow L i (k + 1) s0 = ((i : Int), (k : Int), mxP L i k) := by rw [hup, bqS, if_pos hc]


        repeat' (first | refine awp_seq_k fun K hK => ?_ | ((with_reducible refine hK _ ?_); clear hK K) | ((with_reducible refine aord_plain fun K hK => ?_); simp only [go_sem, Nat.reduceAdd, Nat.reduceMul, Nat.reduceEqDiff, Nat.reduceLT, reduceIte, reduceCtorEq, e1, Nat.add_eq_left, Nat.left_eq_add, Nat.add_assoc, Nat.reduceAdd, if_false, if_true, mat.matL, e1]) | ((first | with_reducible refine aord_nil ?_ | refine awp_skip ?_ | refine awp_exit ?_ | refine awp_ret ?_); try simp only [thenA_normal, thenA_exit, thenA_goto, thenA_ret, blockA_normal, blockA_same, blockA_exit, blockA_goto, blockA_ret, Nat.reduceEqDiff, if_false, if_true, reduceIte]) | (refine awp_region tabOk rfl ?_; simp only [prep, pickO, List.map_cons, List.map_nil, List.getElem?_toArray, List.getElem?_cons_succ, List.getElem?_cons_zero, Option.bind_some, Option.map_some]) | ((with_reducible apply awp_cond); (focus (simp only [St.ev, St.set, upd, Nat.reduceEqDiff, reduceIte, if_false, if_true, e1, Nat.add_eq_left, Nat.left_eq_add, Nat.add_assoc, Nat.reduceAdd, if_false, if_true]; exact rfl)); all_goals (intro hb; first | (cases hb; done) | ((try rw [hb]); (try simp only [decide_eq_true_eq, decide_eq_false_iff_not, beq_iff_eq, bne_iff_ne, beq_eq_false_iff_ne, bne_eq_false_iff_eq, Int.not_lt, Int.not_le, Bool.not_eq_true', Bool.not_eq_false'] at hb)))) | ((with_reducible refine And.intro ?_ ?_); (focus omega)) | fail)
        refine ⟨k + 1, by omega, by omega, Wk.sub (tsd (tsd (tsd (tsd (tsd (tsd (tsd tsd0 rfl) rfl) (by rw [e2]; rfl)) (by rw [e2]; rfl)) (by rw [e2]; rfl)) rfl) rfl) (fun _ _ h => h) rfl⟩
      · have e1 : decide (max (((L.filter (agB [((i : Int), (k : Int))])).length : Nat) : Int) ((L.length : Int) - (((L.filter (agB [((i : Int), (k : Int))])).length : Nat) : Int)) < (bqRow L i k s0).2.2) = false := decide_eq_false hc
        have e2 : bqRow L i (k + 1) s0 = bqRow L i k s0 := by rw [hup, bqS, if_neg hc]


        repeat' (first | refine awp_seq_k fun K hK => ?_ | ((with_reducible refine hK _ ?_); clear hK K) | ((with_reducible refine aord_plain fun K hK => ?_); simp only [go_sem, Nat.reduceAdd, Nat.reduceMul, Nat.reduceEqDiff, Nat.reduceLT, reduceIte, reduceCtorEq, e1, Nat.add_eq_left, Nat.left_eq_add, Nat.add_assoc, Nat.reduceAdd, if_false, if_true, mat.matL, e1]) | ((first | with_reducible refine aord_nil ?_ | refine awp_skip ?_ | refine awp_exit ?_ | refine awp_ret ?_); try simp only [thenA_normal, thenA_exit, thenA_goto, thenA_ret, blockA_normal, blockA_same, blockA_exit, blockA_goto, blockA_ret, Nat.reduceEqDiff, if_false, if_true, reduceIte]) | (refine awp_region tabOk rfl ?_; simp only [prep, pickO, List.map_cons, List.map_nil, List.getElem?_toArray, List.getElem?_cons_succ, List.getElem?_cons_zero, Option.bind_some, Option.map_some]) | ((with_reducible apply awp_cond); (focus (simp only [St.ev, St.set, upd, Nat.reduceEqDiff, reduceIte, if_false, if_true, e1, Nat.add_eq_left, Nat.left_eq_add, Nat.add_assoc, Nat.reduceAdd, if_false, if_true]; exact rfl)); all_goals (intro hb; first | (cases hb; done) | ((try rw [hb]); (try simp only [decide_eq_true_eq, decide_eq_false_iff_not, beq_iff_eq, bne_iff_ne, beq_eq_false_iff_ne, bne_eq_false_iff_eq, Int.not_lt, Int.not_le, Bool.not_eq_true', Bool.not_eq_false'] at hb)))) | ((with_reducible refine And.intro ?_ ?_); (focus omega)) | fail)
        refine ⟨k + 1, by omega, by omega, Wk.sub (tsd (tsd (tsd (tsd (tsd (tsd (tsd tsd0 rfl) rfl) (by rw [e2]; rfl)) (by rw [e2]; rfl)) (by rw [e2]; rfl)) rfl) rfl) (fun _ _ h => h) rfl⟩
    · have ek : d = k := by omega
      subst ek
      have e2 : bqTo L d (i + 1) (-1, -1, (L.length : Int)) = bqRow L i d s0 := by rw [bqTo, hss]


      repeat' (first | refine awp_seq_k fun K hK => ?_ | ((with_reducible refine hK _ ?_); clear hK K) | (clear hK K; (with_reducible refine hK _ ?_); clear hK K) | ((with_reducible refine aord_plain fun K hK => ?_); simp only [go_sem, Nat.reduceAdd, Nat.reduceMul, Nat.reduceEqDiff, Nat.reduceLT, reduceIte, reduceCtorEq, mat.matL]) | refine awp_block ?_ | ((first | with_reducible refine aord_nil ?_ | refine awp_skip ?_ | refine awp_exit ?_ | refine awp_ret ?_); try simp only [thenA_normal, thenA_exit, thenA_goto, thenA_ret, blockA_normal, blockA_same, blockA_exit, blockA_goto, blockA_ret, Nat.reduceEqDiff, if_false, if_true, reduceIte]) | (refine awp_region tabOk rfl ?_; simp only [prep, pickO, List.map_cons, List.map_nil, List.getElem?_toArray, List.getElem?_cons_succ, List.getElem?_cons_zero, Option.bind_some, Option.map_some]) | ((with_reducible apply awp_cond); (focus (simp only [St.ev, St.set, upd, Nat.reduceEqDiff, reduceIte, if_false, if_true]; exact rfl)); all_goals (intro hb; first | (cases hb; done) | ((try rw [hb]); (try simp only [decide_eq_true_eq, decide_eq_false_iff_not, beq_iff_eq, bne_iff_ne, beq_eq_false_iff_ne, bne_eq_false_iff_eq, Int.not_lt, Int.not_le, Bool.not_eq_true', Bool.not_eq_false'] at hb)))) | ((with_reducible refine And.intro ?_ ?_); (focus omega)) | (exfalso; omega) | fail)
      refine ⟨i + 1, by omega, by omega, Wk.sub (tsd (tsd (tsd (tsd (tsd (tsd tsd0 rfl) (by rw [e2]; rfl)) (by rw [e2]; rfl)) (by rw [e2]; rfl)) rfl) rfl) (fun _ _ h => h) rfl⟩
  · have ei : d = i := by omega
    subst ei


    repeat' (first | refine awp_seq_k fun K hK => ?_ | ((with_reducible refine hK _ ?_); clear hK K) | (clear hK K; (with_reducible refine hK _ ?_); clear hK K) | ((with_reducible refine aord_plain fun K hK => ?_); simp only [go_sem, Nat.reduceAdd, Nat.reduceMul, Nat.reduceEqDiff, Nat.reduceLT, reduceIte, reduceCtorEq, mat.matL]) | refine awp_block ?_ | ((first | with_reducible refine aord_nil ?_ | refine awp_skip ?_ | refine awp_exit ?_ | refine awp_ret ?_); try simp only [thenA_normal, thenA_exit, thenA_goto, thenA_ret, blockA_normal, blockA_same, blockA_exit, blockA_goto, blockA_ret, Nat.reduceEqDiff, if_false, if_true, reduceIte]) | (refine awp_region tabOk rfl ?_; simp only [prep, pickO, List.map_cons, List.map_nil, List.getElem?_toArray, List.getElem?_cons_succ, List.getElem?_cons_zero, Option.bind_some, Option.map_some]) | ((with_reducible apply awp_cond); (focus (simp only [St.ev, St.set, upd, Nat.reduceEqDiff, reduceIte, if_false, if_true]; exact rfl)); all_goals (intro hb; first | (cases hb; done) | ((try rw [hb]); (try simp only [decide_eq_true_eq, decide_eq_false_iff_not, beq_iff_eq, bne_iff_ne, beq_eq_false_iff_ne, bne_eq_false_iff_eq, Int.not_lt, Int.not_le, Bool.not_eq_true', Bool.not_eq_false'] at hb)))) | ((with_reducible refine And.intro ?_ ?_); (focus omega)) | (simp only [doneH]; simp only [ressK, resK, wrapR, go_sem, Nat.reduceAdd, Nat.reduceMul, Nat.reduceEqDiff, Nat.reduceLT, reduceIte, reduceCtorEq]) | (exfalso; omega) | fail)
    exact hQ

/-- BestQuestion's answer. -/
noncomputable def bqA (z : Int) (fs : List (Int × Int)) : Int × Int × Bool := by classical exact if VF z fs ∧ 2 ≤ (orO z fs).length then ((bqTo (orO z fs) z.toNat z.toNat (0, 0, ((orO z fs).length : Int))).1, (bqTo (orO z fs) z.toNat z.toNat (0, 0, ((orO z fs).length : Int))).2.1, true) else (0, 0, false)
theorem bqA_no {z : Int} {fs : List (Int × Int)} (h : ¬ (VF z fs ∧ 2 ≤ (orO z fs).length)) : bqA z fs = (0, 0, false) := by unfold bqA; rw [if_neg h]
theorem bqA_yes {d : Nat} {fs : List (Int × Int)} (h : VF d fs) (h2 : 2 ≤ (orO d fs).length) : bqA d fs = ((bqTo (orO d fs) d d (0, 0, ((orO d fs).length : Int))).1, (bqTo (orO d fs) d d (0, 0, ((orO d fs).length : Int))).2.1, true) := by unfold bqA; rw [if_pos ⟨h, h2⟩]; rfl
/-- In the rounds of BestQuestion: the boxes, the two loops' records, the best question so far. -/
structure QI (H0 : Hp) (N O d len : Nat) (KF : FuncId) (LP LQ : Loop) (s : Int × Int × Int) (G : Hp) (M : Nat) : Prop where
  fr : ∀ u, u < N → G u = H0 u
  mn : N + 9 ≤ M
  c0 : G N = some ⟨true, .cells [.sl O 0 len 1 none]⟩
  c1 : G (N + 1) = some ⟨true, .cells [.val (.int .i64 s.1), .val (.int .i64 s.2.1)]⟩
  c2 : G (N + 2) = some ⟨true, .cells [.val (.int .i64 s.2.2)]⟩
  c3 : G (N + 3) = some ⟨true, .cells [.val (.int .i64 d)]⟩
  c5 : G (N + 5) = some ⟨true, .cells [.val (.func (.func KF) #[] #[])]⟩
  c6 : G (N + 6) = some ⟨true, .raw (.loop LP)⟩
  c7 : G (N + 7) = some ⟨true, .cells [.yl (N + 6)]⟩
  c8 : G (N + 8) = some ⟨true, .raw (.loop LQ)⟩
theorem QI.up {H0 : Hp} {N O d len : Nat} {KF : FuncId} {LP LQ : Loop} {s : Int × Int × Int} {G : Hp} {M : Nat} (b : QI H0 N O d len KF LP LQ s G M) {G2 : Hp} {M2 : Nat} (hM : M ≤ M2) (e : ∀ u, u < M → G2 u = G u) : QI H0 N O d len KF LP LQ s G2 M2 := by
  have h1 := b.mn
  exact ⟨fun u hu => (e u (by omega)).trans (b.fr u hu), by omega, (e _ (by omega)).trans b.c0, (e _ (by omega)).trans b.c1, (e _ (by omega)).trans b.c2, (e _ (by omega)).trans b.c3, (e _ (by omega)).trans b.c5, (e _ (by omega)).trans b.c6, (e _ (by omega)).trans b.c7, (e _ (by omega)).trans b.c8⟩


-- %range
theorem implBestQ_sat : SatH Try.prog 13 (fun al h n K => ∃ (z : Int) (A : Nat) (b : Bool) (fs : List (Int × Int)), al = [.val (.int .i64 (z)), .sl A 0 fs.length 2 none] ∧ (h A = some ⟨b, .ints .i64 (flF fs)⟩) ∧ (fs.length ≤ 1099511627776) ∧ ∀ N : Nat, n ≤ N → K (.tup [.val (.int .i64 (bqA z fs).1), .val (.int .i64 (bqA z fs).2.1), .val (.bool (bqA z fs).2.2)]) (h) (N)) := by
  refine satH_intro tabOk Try.func13 rfl 45 rfl [.tmp 4, .tmp 5, .tmp 6] rfl ?_
  rintro F W h n al K0 ⟨z, A, b, fs, rfl, hA, hl, hQ⟩
  refine ⟨Nat.le_of_ble_eq_true rfl, fun m0 hm0 hcl hlt => ?_⟩
  simp only [initT]
  have hAn := (hcl A _ hA).1
  have hclO := hcl
  have hcap := orO_cap z fs
  have hrw : ∀ j, ((orO z fs).getD j []).length ≤ 1000 := fun j => by have := orO_row (z := z) (fs := fs) j; omega


  repeat' ((fail_if_success (with_reducible refine isRetQ ?_)); (first | refine awp_seq_k fun K hK => ?_ | ((with_reducible refine hK _ ?_); clear hK K) | ((with_reducible refine aord_plain fun K hK => ?_); simp only [go_sem, Nat.reduceAdd, Nat.reduceMul, Nat.reduceEqDiff, Nat.reduceLT, reduceIte, reduceCtorEq, hA, Nat.add_eq_left, Nat.left_eq_add, Nat.add_assoc, Nat.reduceAdd, if_false, if_true, hA, mat.matL, DV.agg.injEq]) | ((first | with_reducible refine aord_nil ?_ | refine awp_skip ?_ | refine awp_exit ?_ | refine awp_ret ?_); try simp only [thenA_normal, thenA_exit, thenA_goto, thenA_ret, blockA_normal, blockA_same, blockA_exit, blockA_goto, blockA_ret, Nat.reduceEqDiff, if_false, if_true, reduceIte]) | (refine awp_region tabOk rfl ?_; simp only [prep, pickO, List.map_cons, List.map_nil, List.getElem?_toArray, List.getElem?_cons_succ, List.getElem?_cons_zero, Option.bind_some, Option.map_some]) | ((with_reducible refine And.intro (?_ : enters Try.prog 29) ?_); (focus exact Try.call29); (refine callX_satH implOrdersLeft_sat ?_); simp only [go_sem, and_assoc, List.nil_append, List.append_nil, List.cons_append, Nat.reduceEqDiff, reduceIte, reduceCtorEq, hA, Nat.add_eq_left, Nat.left_eq_add, Nat.add_assoc, Nat.reduceAdd, if_false, if_true, hA, mat.matL, DV.agg.injEq]) | fail))
  refine ⟨b, fs, rfl, rfl, rfl, hl, fun H N O f r1 r2 r3 r4 r5 => ?_⟩
  have hOn := r1.outn
  rcases Nat.lt_or_ge (orO z fs).length 2 with h2 | h2
  · have e1 : decide ((((orO z fs).length : Nat) : Int) < 2) = true := decide_eq_true (by omega)
    rw [bqA_no (fun h => by omega)] at hQ
    have hdrop : ∀ (o : Nat) (ob : Ob), h o = some ob → upd (upd H N (some ⟨true, .cells [.val (.slice none 0 0)]⟩)) N (some ⟨true, .cells [.sl O 0 (orO z fs).length 1 none]⟩) o = some ob := fun o ob ho => by
      have := (hcl o _ ho).1
      rw [upd_ne _ _ (by omega), upd_ne _ _ (by omega), r4 o (by omega)]; exact ho


    repeat' ((fail_if_success (with_reducible refine isRetQ ?_)); (first | refine awp_seq_k fun K hK => ?_ | ((with_reducible refine hK _ ?_); clear hK K) | ((with_reducible refine aord_plain fun K hK => ?_); simp only [go_sem, Nat.reduceAdd, Nat.reduceMul, Nat.reduceEqDiff, Nat.reduceLT, reduceIte, reduceCtorEq, e1, Nat.add_eq_left, Nat.left_eq_add, Nat.add_assoc, Nat.reduceAdd, if_false, if_true, mat.matL, DV.agg.injEq, e1]) | ((first | with_reducible refine aord_nil ?_ | refine awp_skip ?_ | refine awp_exit ?_ | refine awp_ret ?_); try simp only [thenA_normal, thenA_exit, thenA_goto, thenA_ret, blockA_normal, blockA_same, blockA_exit, blockA_goto, blockA_ret, Nat.reduceEqDiff, if_false, if_true, reduceIte]) | (refine awp_region tabOk rfl ?_; simp only [prep, pickO, List.map_cons, List.map_nil, List.getElem?_toArray, List.getElem?_cons_succ, List.getElem?_cons_zero, Option.bind_some, Option.map_some]) | ((with_reducible apply awp_cond); (focus (simp only [St.ev, St.set, upd, Nat.reduceEqDiff, reduceIte, if_false, if_true, e1, Nat.add_eq_left, Nat.left_eq_add, Nat.add_assoc, Nat.reduceAdd, if_false, if_true]; exact rfl)); all_goals (intro hb; first | (cases hb; done) | ((try rw [hb]); (try simp only [decide_eq_true_eq, decide_eq_false_iff_not, beq_iff_eq, bne_iff_ne, beq_eq_false_iff_ne, bne_eq_false_iff_eq, Int.not_lt, Int.not_le, Bool.not_eq_true', Bool.not_eq_false'] at hb)))) | ((with_reducible refine And.intro ?_ ?_); (focus (exact rfl))) | fail))
    refine awp_weaken (s' := ⟨upd (upd (upd bot 6 (.val (.bool false))) 5 (.val (.int .i64 0))) 4 (.val (.int .i64 0)), h, N + 1⟩) (Wk.sub (tsd (tsd (tsd tsd0 rfl) rfl) rfl) hdrop rfl) ?_
    repeat' (first | ((first | with_reducible refine aord_nil ?_ | refine awp_skip ?_ | refine awp_exit ?_ | refine awp_ret ?_); try simp only [thenA_normal, thenA_exit, thenA_goto, thenA_ret, blockA_normal, blockA_same, blockA_exit, blockA_goto, blockA_ret, Nat.reduceEqDiff, if_false, if_true, reduceIte]) | (simp only [doneH]; simp only [ressK, resK, wrapR, go_sem, Nat.reduceAdd, Nat.reduceMul, Nat.reduceEqDiff, Nat.reduceLT, reduceIte, reduceCtorEq, e1, Nat.add_eq_left, Nat.left_eq_add, Nat.add_assoc, Nat.reduceAdd, if_false, if_true]) | fail)
    exact hQ (N + 1) (by omega)
  · have e1 : decide ((((orO z fs).length : Nat) : Int) < 2) = false := decide_eq_false (by omega)
    have hV : VF z fs := by
      by_cases c : VF z fs
      · exact c
      · rw [orO_no c] at h2; simp at h2
    obtain ⟨d, rfl⟩ : ∃ d : Nat, z = d := ⟨z.toNat, by have := hV.1; omega⟩
    have hd5 : d ≤ 5 := by have := hV.1; omega
    rw [bqA_yes hV h2] at hQ


    repeat' (first | refine awp_seq_k fun K hK => ?_ | ((with_reducible refine hK _ ?_); clear hK K) | ((with_reducible refine aord_plain fun K hK => ?_); simp only [go_sem, Nat.reduceAdd, Nat.reduceMul, Nat.reduceEqDiff, Nat.reduceLT, reduceIte, reduceCtorEq, e1, Nat.add_eq_left, Nat.left_eq_add, Nat.add_assoc, Nat.reduceAdd, if_false, if_true, mat.matL, DV.agg.injEq, e1]) | refine awp_block ?_ | ((first | with_reducible refine aord_nil ?_ | refine awp_skip ?_ | refine awp_exit ?_ | refine awp_ret ?_); try simp only [thenA_normal, thenA_exit, thenA_goto, thenA_ret, blockA_normal, blockA_same, blockA_exit, blockA_goto, blockA_ret, Nat.reduceEqDiff, if_false, if_true, reduceIte]) | (refine awp_region tabOk rfl ?_; simp only [prep, pickO, List.map_cons, List.map_nil, List.getElem?_toArray, List.getElem?_cons_succ, List.getElem?_cons_zero, Option.bind_some, Option.map_some]) | ((with_reducible apply awp_cond); (focus (simp only [St.ev, St.set, upd, Nat.reduceEqDiff, reduceIte, if_false, if_true, e1, Nat.add_eq_left, Nat.left_eq_add, Nat.add_assoc, Nat.reduceAdd, if_false, if_true]; exact rfl)); all_goals (intro hb; first | (cases hb; done) | ((try rw [hb]); (try simp only [decide_eq_true_eq, decide_eq_false_iff_not, beq_iff_eq, bne_iff_ne, beq_eq_false_iff_ne, bne_eq_false_iff_eq, Int.not_lt, Int.not_le, Bool.not_eq_true', Bool.not_eq_false'] at hb)))) | ((with_reducible refine And.intro ?_ ?_); (focus (exact rfl))) | ((with_reducible refine And.intro (?_ : enters Try.prog 42) ?_); (focus exact Try.call42); (refine callX_h (callH_inline tabOk Try.func42 rfl 6 rfl [.tmp 2] rfl (Nat.le_of_ble_eq_true rfl) fun m0 hm0 hcl hlt => ?_)); simp only [initT, St.ev, St.set, upd, Nat.reduceEqDiff, reduceIte, if_false, if_true, e1, Nat.add_eq_left, Nat.left_eq_add, Nat.add_assoc, Nat.reduceAdd, if_false, if_true]) | ((with_reducible refine And.intro (?_ : enters Try.prog 60) ?_); (focus exact Try.call60); (refine callX_h (callH_inline tabOk Try.func60 rfl 4 rfl [.tmp 2] rfl (Nat.le_of_ble_eq_true rfl) fun m0 hm0 hcl hlt => ?_)); simp only [initT, St.ev, St.set, upd, Nat.reduceEqDiff, reduceIte, if_false, if_true, e1, Nat.add_eq_left, Nat.left_eq_add, Nat.add_assoc, Nat.reduceAdd, if_false, if_true]) | ((with_reducible refine And.intro (?_ : enters Try.prog 59) ?_); (focus exact Try.call59); (refine callX_h (callH_inline tabOk Try.func59 rfl 6 rfl [.tmp 4] rfl (Nat.le_of_ble_eq_true rfl) fun m0 hm0 hcl hlt => ?_)); simp only [initT, St.ev, St.set, upd, Nat.reduceEqDiff, reduceIte, if_false, if_true, e1, Nat.add_eq_left, Nat.left_eq_add, Nat.add_assoc, Nat.reduceAdd, if_false, if_true]) | (simp only [doneH]; simp only [ressK, resK, wrapR, go_sem, Nat.reduceAdd, Nat.reduceMul, Nat.reduceEqDiff, Nat.reduceLT, reduceIte, reduceCtorEq, e1, Nat.add_eq_left, Nat.left_eq_add, Nat.add_assoc, Nat.reduceAdd, if_false, if_true]) | fail)
    (refine awp_range (gf := 81) (by simp only [St.ev, St.set, upd, Nat.reduceEqDiff, reduceIte, if_false, if_true, e1, Nat.add_eq_left, Nat.left_eq_add, Nat.add_assoc, Nat.reduceAdd, if_false, if_true]; first | exact fnV_clo | exact fnV_val) Try.call81 (fun LP LP1 LP2 LP3 LP4 LP5 => callX_h (callH_inline tabOk Try.func81 rfl 16 rfl [] rfl (Nat.le_of_ble_eq_true rfl) fun m0 hm0 hcl hlt => ?_)); simp only [List.nil_append, List.cons_append, initT, St.ev, St.set, upd, Nat.reduceEqDiff, reduceIte, if_false, if_true, e1, Nat.add_eq_left, Nat.left_eq_add, Nat.add_assoc, Nat.reduceAdd, if_false, if_true])
    repeat' (first | refine awp_seq_k fun K hK => ?_ | ((with_reducible refine hK _ ?_); clear hK K) | ((with_reducible refine aord_plain fun K hK => ?_); simp only [go_sem, Nat.reduceAdd, Nat.reduceMul, Nat.reduceEqDiff, Nat.reduceLT, reduceIte, reduceCtorEq, e1, Nat.add_eq_left, Nat.left_eq_add, Nat.add_assoc, Nat.reduceAdd, if_false, if_true, mat.matL, DV.agg.injEq, e1]) | refine awp_block ?_ | ((first | with_reducible refine aord_nil ?_ | refine awp_skip ?_ | refine awp_exit ?_ | refine awp_ret ?_); try simp only [thenA_normal, thenA_exit, thenA_goto, thenA_ret, blockA_normal, blockA_same, blockA_exit, blockA_goto, blockA_ret, Nat.reduceEqDiff, if_false, if_true, reduceIte]) | (refine awp_region tabOk rfl ?_; simp only [prep, pickO, List.map_cons, List.map_nil, List.getElem?_toArray, List.getElem?_cons_succ, List.getElem?_cons_zero, Option.bind_some, Option.map_some]) | fail)
    (refine awp_range (gf := 82) (by simp only [St.ev, St.set, upd, Nat.reduceEqDiff, reduceIte, if_false, if_true, e1, Nat.add_eq_left, Nat.left_eq_add, Nat.add_assoc, Nat.reduceAdd, if_false, if_true]; first | exact fnV_clo | exact fnV_val) Try.call82 (fun LQ LQ1 LQ2 LQ3 LQ4 LQ5 => callX_h (callH_inline tabOk Try.func82 rfl 26 rfl [] rfl (Nat.le_of_ble_eq_true rfl) fun m0 hm0 hcl hlt => ?_)); simp only [List.nil_append, List.cons_append, initT, St.ev, St.set, upd, Nat.reduceEqDiff, reduceIte, if_false, if_true, e1, Nat.add_eq_left, Nat.left_eq_add, Nat.add_assoc, Nat.reduceAdd, if_false, if_true])
    repeat' (first | refine awp_seq_k fun K hK => ?_ | ((with_reducible refine hK _ ?_); clear hK K) | ((with_reducible refine aord_plain fun K hK => ?_); simp only [go_sem, Nat.reduceAdd, Nat.reduceMul, Nat.reduceEqDiff, Nat.reduceLT, reduceIte, reduceCtorEq, e1, Nat.add_eq_left, Nat.left_eq_add, Nat.add_assoc, Nat.reduceAdd, if_false, if_true, mat.matL, DV.agg.injEq, e1]) | refine awp_block ?_ | ((first | with_reducible refine aord_nil ?_ | refine awp_skip ?_ | refine awp_exit ?_ | refine awp_ret ?_); try simp only [thenA_normal, thenA_exit, thenA_goto, thenA_ret, blockA_normal, blockA_same, blockA_exit, blockA_goto, blockA_ret, Nat.reduceEqDiff, if_false, if_true, reduceIte]) | (refine awp_region tabOk rfl ?_; simp only [prep, pickO, List.map_cons, List.map_nil, List.getElem?_toArray, List.getElem?_cons_succ, List.getElem?_cons_zero, Option.bind_some, Option.map_some]) | fail)
    generalize hLL : orO d fs = L at *
    have hI : ∀ G, (∀ u, u < N → G u = H u) → G N = some ⟨true, .cells [.sl O 0 L.length 1 none]⟩ → G (N + 1) = some ⟨true, .cells [.val (.int .i64 0), .val (.int .i64 0)]⟩ → G (N + 2) = some ⟨true, .cells [.val (.int .i64 ((L.length : Nat) : Int))]⟩ → G (N + 3) = some ⟨true, .cells [.val (.int .i64 d)]⟩ → G (N + 5) = some ⟨true, .cells [.val (.func (.func 76) #[] #[])]⟩ → G (N + 6) = some ⟨true, .raw (.loop LP)⟩ → G (N + 7) = some ⟨true, .cells [.yl (N + 6)]⟩ → G (N + 8) = some ⟨true, .raw (.loop LQ)⟩ → QI H N O d L.length 76 LP LQ (bqTo L d 0 (0, 0, (L.length : Int))) G (N + 9) := fun G g0 g1 g2 g3 g4 g5 g6 g7 g8 => ⟨g0, Nat.le_refl _, g1, g2, g3, g4, g5, g6, g7, g8⟩
    refine awp_loop (fun q : Hp × Nat × Nat => ⟨upd (upd (upd (upd bot 6 (.val (.int .i64 q.2.2))) 5 (.val (.int .i64 d))) 1 (.ref (N + 3) 0)) 0 (.yl (N + 8)), q.1, q.2.1⟩) (fun q => q.2.2 ≤ d ∧ QI H N O d L.length 76 LP LQ (bqTo L d q.2.2 (0, 0, (L.length : Int))) q.1 q.2.1) (fun q => d - q.2.2) ((upd (upd (upd (upd (upd (upd (upd (upd (upd (upd (upd H N (some ⟨true, .cells [.val (.slice none 0 0)]⟩)) N (some ⟨true, .cells [.sl O 0 L.length 1 none]⟩)) (N + 1) (some ⟨true, .cells [.val (.int .i64 0), .val (.int .i64 0)]⟩)) (N + 2) (some ⟨true, .cells [.val (.int .i64 0)]⟩)) (N + 2) (some ⟨true, .cells [.val (.int .i64 ((L.length : Nat) : Int))]⟩)) (N + 3) (some ⟨true, .cells [.val (.int .i64 d)]⟩)) (N + 4) (some ⟨true, .cells [.clo (.func 82) [] [.ref (N + 3) 0]]⟩)) (N + 5) (some ⟨true, .cells [.val (.func (.func 76) #[] #[])]⟩)) (N + 6) (some ⟨true, .raw (.loop LP)⟩)) (N + 7) (some ⟨true, .cells [.yl (N + 6)]⟩)) (N + 8) (some ⟨true, .raw (.loop LQ)⟩)), N + 9, 0) ⟨Nat.zero_le _, hI _ ?_ ?_ ?_ ?_ ?_ ?_ ?_ ?_ ?_⟩ ?_ ?_
    · exact fun u hu => by dsimp only; (repeat rw [upd_ne _ _ (by omega)])
    · dsimp only; (repeat (first | rw [upd_same] | rw [upd_ne _ _ (by omega)]))
    · dsimp only; (repeat (first | rw [upd_same] | rw [upd_ne _ _ (by omega)]))
    · dsimp only; (repeat (first | rw [upd_same] | rw [upd_ne _ _ (by omega)]))
    · dsimp only; (repeat (first | rw [upd_same] | rw [upd_ne _ _ (by omega)]))
    · dsimp only; (repeat (first | rw [upd_same] | rw [upd_ne _ _ (by omega)]))
    · dsimp only; (repeat (first | rw [upd_same] | rw [upd_ne _ _ (by omega)]))
    · dsimp only; (repeat (first | rw [upd_same] | rw [upd_ne _ _ (by omega)]))
    · dsimp only; (repeat (first | rw [upd_same] | rw [upd_ne _ _ (by omega)]))
    · exact Wk.sub (tsd (tsd (tsd (tsd tsd0 rfl) rfl) rfl) rfl) (fun _ _ h => h) rfl
    clear hI
    rintro ⟨G, M, i⟩ ⟨hid, hI⟩
    dsimp only at hid hI ⊢
    rcases Nat.lt_or_ge i d with hlt2 | hge
    · have c3 := hI.c3
      have c8 := hI.c8


      repeat' (first | refine awp_seq_k fun K hK => ?_ | ((with_reducible refine hK _ ?_); clear hK K) | ((with_reducible refine aord_plain fun K hK => ?_); simp only [go_sem, Nat.reduceAdd, Nat.reduceMul, Nat.reduceEqDiff, Nat.reduceLT, reduceIte, reduceCtorEq, c3, c8, Nat.add_eq_left, Nat.left_eq_add, Nat.add_assoc, Nat.reduceAdd, if_false, if_true, c3, c8, mat.matL, DV.agg.injEq]) | refine awp_block ?_ | ((first | with_reducible refine aord_nil ?_ | refine awp_skip ?_ | refine awp_exit ?_ | refine awp_ret ?_); try simp only [thenA_normal, thenA_exit, thenA_goto, thenA_ret, blockA_normal, blockA_same, blockA_exit, blockA_goto, blockA_ret, Nat.reduceEqDiff, if_false, if_true, reduceIte]) | (refine awp_region tabOk rfl ?_; simp only [prep, pickO, List.map_cons, List.map_nil, List.getElem?_toArray, List.getElem?_cons_succ, List.getElem?_cons_zero, Option.bind_some, Option.map_some]) | ((with_reducible apply awp_cond); (focus (simp only [St.ev, St.set, upd, Nat.reduceEqDiff, reduceIte, if_false, if_true, c3, c8, Nat.add_eq_left, Nat.left_eq_add, Nat.add_assoc, Nat.reduceAdd, if_false, if_true]; exact rfl)); all_goals (intro hb; first | (cases hb; done) | ((try rw [hb]); (try simp only [decide_eq_true_eq, decide_eq_false_iff_not, beq_iff_eq, bne_iff_ne, beq_eq_false_iff_ne, bne_eq_false_iff_eq, Int.not_lt, Int.not_le, Bool.not_eq_true', Bool.not_eq_false'] at hb)))) | (simp only [doneH]; simp only [ressK, resK, wrapR, go_sem, Nat.reduceAdd, Nat.reduceMul, Nat.reduceEqDiff, Nat.reduceLT, reduceIte, reduceCtorEq, c3, c8, Nat.add_eq_left, Nat.left_eq_add, Nat.add_assoc, Nat.reduceAdd, if_false, if_true]) | ((with_reducible apply endA_go); (focus (simp only [St.ev, St.set, upd, Nat.reduceEqDiff, reduceIte, if_false, if_true, c3, c8, Nat.add_eq_left, Nat.left_eq_add, Nat.add_assoc, Nat.reduceAdd, if_false, if_true]; exact rfl)); (focus assumption); (focus assumption); (try simp only [thenA_normal, thenA_exit, thenA_goto, thenA_ret, blockA_normal, blockA_same, blockA_exit, blockA_goto, blockA_ret, Nat.reduceEqDiff, if_false, if_true, reduceIte])) | (exfalso; omega) | fail)
      generalize hss : bqTo L d i (0, 0, (L.length : Int)) = s0 at *
      refine awp_loop (fun q : Hp × Nat × Nat => ⟨upd (upd (upd (upd (upd (upd (upd bot 10 (.val (.int .i64 q.2.2))) 9 (.val (.int .i64 d))) 6 (.val (.int .i64 i))) 5 (.val (.int .i64 d))) 3 (.val (.int .i64 i))) 1 (.ref (N + 3) 0)) 0 (.yl (N + 8)), q.1, q.2.1⟩) (fun q => q.2.2 ≤ d ∧ QI H N O d L.length 76 LP LQ (bqRow L i q.2.2 s0) q.1 q.2.1) (fun q => d - q.2.2) (G, M, 0) ⟨Nat.zero_le _, hI⟩ ?_ ?_
      · exact Wk.sub (tsd (tsd (tsd (tsd (tsd (tsd (tsd tsd0 rfl) rfl) rfl) rfl) rfl) rfl) rfl) (fun _ _ h => h) rfl
      clear c3 c8 hI
      rintro ⟨G, M, j⟩ ⟨hjd, hI⟩
      dsimp only at hjd hI ⊢
      have hmn := hI.mn
      have hfr := hI.fr
      have c0 := hI.c0
      have c1 := hI.c1
      have c2 := hI.c2
      have c3 := hI.c3
      have c5 := hI.c5
      have c6 := hI.c6
      have c7 := hI.c7
      have c8 := hI.c8
      have hup : bqRow L i (j + 1) s0 = if i < j then bqS L i j (bqRow L i j s0) else bqRow L i j s0 := rfl
      rcases Nat.lt_or_ge j d with hlt3 | hge3
      · have m1 : ∀ k, k < 9 → (N + k = M) = False := fun k hk => eq_false (by omega)
        have n0 : (N = M) = False := eq_false (by omega)
        have n1 : (M = N) = False := eq_false (by omega)
        have n2 : ∀ k, (N = M + k) = False := fun k => eq_false (by omega)
        have n3 : ∀ k, (M + k = N) = False := fun k => eq_false (by omega)
        have p1 : (N + 1 = M) = False := eq_false (by omega)
        have p2 : ∀ k, (N + 1 = M + k) = False := fun k => eq_false (by omega)
        have p3 : (N + 2 = M) = False := eq_false (by omega)
        have p4 : ∀ k, (N + 2 = M + k) = False := fun k => eq_false (by omega)
        have p5 : (N + 5 = M) = False := eq_false (by omega)
        have p6 : ∀ k, (N + 5 = M + k) = False := fun k => eq_false (by omega)
        have p7 : (N + 6 = M) = False := eq_false (by omega)
        have p8 : ∀ k, (N + 6 = M + k) = False := fun k => eq_false (by omega)
        have p9 : (N + 7 = M) = False := eq_false (by omega)
        have pa : ∀ k, (N + 7 = M + k) = False := fun k => eq_false (by omega)
        have pb : (N + 8 = M) = False := eq_false (by omega)
        have pc : ∀ k, (N + 8 = M + k) = False := fun k => eq_false (by omega)
        have pd : (M = N + 8) = False := eq_false (by omega)
        have pe : ∀ k, (M + k = N + 8) = False := fun k => eq_false (by omega)
        have pf : (M = N + 6) = False := eq_false (by omega)
        have pg : ∀ k, (M + k = N + 6) = False := fun k => eq_false (by omega)
        have hN := And.intro c0 (And.intro c1 (And.intro c2 (And.intro c3 (And.intro c5 (And.intro c6 (And.intro c7 (And.intro c8 (And.intro n0 (And.intro n1 (And.intro n2 (And.intro n3 (And.intro p1 (And.intro p2 (And.intro p3 (And.intro p4 (And.intro p5 (And.intro p6 (And.intro p7 (And.intro p8 (And.intro p9 (And.intro pa (And.intro pb (And.intro pc (And.intro pd (And.intro pe (And.intro pf pg))))))))))))))))))))))))))
        rcases Nat.lt_trichotomy i j with hij | hij | hij
        · have q1 : ((i : Int) != (j : Int)) = true := bne_iff_ne.2 (by omega)
          have q2 : decide ((i : Int) < (j : Int)) = true := decide_eq_true (by omega)
          rw [if_pos hij] at hup


          repeat' (first | refine awp_seq_k fun K hK => ?_ | ((with_reducible refine hK _ ?_); clear hK K) | (clear hK K; (with_reducible refine hK _ ?_); clear hK K) | ((with_reducible refine aord_plain fun K hK => ?_); simp only [go_sem, Nat.reduceAdd, Nat.reduceMul, Nat.reduceEqDiff, Nat.reduceLT, reduceIte, reduceCtorEq, hN, q1, q2, Nat.add_eq_left, Nat.left_eq_add, Nat.add_assoc, Nat.reduceAdd, if_false, if_true, hN, q1, q2, mat.matL, DV.agg.injEq]) | ((with_reducible apply aord_guard); (focus (simp only [St.ev, St.set, upd, Nat.reduceEqDiff, reduceIte, if_false, if_true, hN, q1, q2, Nat.add_eq_left, Nat.left_eq_add, Nat.add_assoc, Nat.reduceAdd, if_false, if_true]; exact rfl)); all_goals (intro hb; (try simp only [Bool.not_true, Bool.not_false] at hb); first | (cases hb; done) | ((try rw [hb]); (try simp only [Bool.not_eq_true', Bool.not_eq_false', Bool.and_eq_true, decide_eq_true_eq, decide_eq_false_iff_not, beq_iff_eq, bne_iff_ne, beq_eq_false_iff_ne, bne_eq_false_iff_eq, Int.not_lt, Int.not_le] at hb); (try (revert hb; with_reducible refine true_imp_iff.2 ?_)); first | (intro K hK; simp only [go_sem, Nat.reduceAdd, Nat.reduceMul, Nat.reduceEqDiff, Nat.reduceLT, reduceIte, reduceCtorEq, hN, q1, q2, Nat.add_eq_left, Nat.left_eq_add, Nat.add_assoc, Nat.reduceAdd, if_false, if_true]) | (simp only [St.ev, St.set, upd, Nat.reduceEqDiff, reduceIte, if_false, if_true, hN, q1, q2, Nat.add_eq_left, Nat.left_eq_add, Nat.add_assoc, Nat.reduceAdd, if_false, if_true]) | skip))) | refine awp_block ?_ | ((first | with_reducible refine aord_nil ?_ | refine awp_skip ?_ | refine awp_exit ?_ | refine awp_ret ?_); try simp only [thenA_normal, thenA_exit, thenA_goto, thenA_ret, blockA_normal, blockA_same, blockA_exit, blockA_goto, blockA_ret, Nat.reduceEqDiff, if_false, if_true, reduceIte]) | (refine awp_region tabOk rfl ?_; simp only [prep, pickO, List.map_cons, List.map_nil, List.getElem?_toArray, List.getElem?_cons_succ, List.getElem?_cons_zero, Option.bind_some, Option.map_some]) | ((with_reducible apply awp_cond); (focus (simp only [St.ev, St.set, upd, Nat.reduceEqDiff, reduceIte, if_false, if_true, hN, q1, q2, Nat.add_eq_left, Nat.left_eq_add, Nat.add_assoc, Nat.reduceAdd, if_false, if_true]; exact rfl)); all_goals (intro hb; first | (cases hb; done) | ((try rw [hb]); (try simp only [decide_eq_true_eq, decide_eq_false_iff_not, beq_iff_eq, bne_iff_ne, beq_eq_false_iff_ne, bne_eq_false_iff_eq, Int.not_lt, Int.not_le, Bool.not_eq_true', Bool.not_eq_false'] at hb)))) | ((with_reducible refine And.intro ?_ ?_); (focus omega)) | (simp only [rBuild]; simp only [fillA, Nat.reduceLeDiff, List.getElem?_cons_zero, List.getElem?_cons_succ, List.drop_succ_cons, List.drop_nil, List.take_nil, List.cons_append, Option.isSome_some, go_sem, Nat.reduceAdd, Nat.reduceMul, Nat.reduceEqDiff, Nat.reduceLT, reduceIte, reduceCtorEq, hN, q1, q2, Nat.add_eq_left, Nat.left_eq_add, Nat.add_assoc, Nat.reduceAdd, if_false, if_true]) | (exfalso; omega) | fail)
          (refine yield_round (lp := LQ) (by first | (simp only [St.ev, St.set, upd, Nat.reduceEqDiff, reduceIte, if_false, if_true, hN, q1, q2, Nat.add_eq_left, Nat.left_eq_add, Nat.add_assoc, Nat.reduceAdd, if_false, if_true]; done) | (simp only [St.ev, St.set, upd, Nat.reduceEqDiff, reduceIte, if_false, if_true, hN, q1, q2, Nat.add_eq_left, Nat.left_eq_add, Nat.add_assoc, Nat.reduceAdd, if_false, if_true]; exact rfl)) LQ1 LQ2 (by first | exact List.mem_cons_self | exact List.mem_cons_of_mem _ List.mem_cons_self | exact List.mem_cons_of_mem _ (List.mem_cons_of_mem _ List.mem_cons_self) | exact List.mem_cons_of_mem _ (List.mem_cons_of_mem _ (List.mem_cons_of_mem _ List.mem_cons_self))) (by first | (rw [LQ3]; done) | (rw [LQ3]; rfl)) (by rw [LQ3]; decide) (fun m0 hm0 hcl hlt => ?_); rw [LQ3, LQ4, LQ5]; simp only [zipT, St.ev, St.set, upd, Nat.reduceEqDiff, reduceIte, if_false, if_true, hN, q1, q2, Nat.add_eq_left, Nat.left_eq_add, Nat.add_assoc, Nat.reduceAdd, if_false, if_true])
          repeat' (first | refine awp_seq_k fun K hK => ?_ | ((with_reducible refine hK _ ?_); clear hK K) | ((with_reducible refine aord_plain fun K hK => ?_); simp only [go_sem, Nat.reduceAdd, Nat.reduceMul, Nat.reduceEqDiff, Nat.reduceLT, reduceIte, reduceCtorEq, hN, q1, q2, Nat.add_eq_left, Nat.left_eq_add, Nat.add_assoc, Nat.reduceAdd, if_false, if_true, hN, q1, q2, mat.matL, DV.agg.injEq]) | ((with_reducible apply aord_guard); (focus (simp only [St.ev, St.set, upd, Nat.reduceEqDiff, reduceIte, if_false, if_true, hN, q1, q2, Nat.add_eq_left, Nat.left_eq_add, Nat.add_assoc, Nat.reduceAdd, if_false, if_true]; exact rfl)); all_goals (intro hb; (try simp only [Bool.not_true, Bool.not_false] at hb); first | (cases hb; done) | ((try rw [hb]); (try simp only [Bool.not_eq_true', Bool.not_eq_false', Bool.and_eq_true, decide_eq_true_eq, decide_eq_false_iff_not, beq_iff_eq, bne_iff_ne, beq_eq_false_iff_ne, bne_eq_false_iff_eq, Int.not_lt, Int.not_le] at hb); (try (revert hb; with_reducible refine true_imp_iff.2 ?_)); first | (intro K hK; simp only [go_sem, Nat.reduceAdd, Nat.reduceMul, Nat.reduceEqDiff, Nat.reduceLT, reduceIte, reduceCtorEq, hN, q1, q2, Nat.add_eq_left, Nat.left_eq_add, Nat.add_assoc, Nat.reduceAdd, if_false, if_true]) | (simp only [St.ev, St.set, upd, Nat.reduceEqDiff, reduceIte, if_false, if_true, hN, q1, q2, Nat.add_eq_left, Nat.left_eq_add, Nat.add_assoc, Nat.reduceAdd, if_false, if_true]) | skip))) | refine awp_block ?_ | ((first | with_reducible refine aord_nil ?_ | refine awp_skip ?_ | refine awp_exit ?_ | refine awp_ret ?_); try simp only [thenA_normal, thenA_exit, thenA_goto, thenA_ret, blockA_normal, blockA_same, blockA_exit, blockA_goto, blockA_ret, Nat.reduceEqDiff, if_false, if_true, reduceIte]) | (refine awp_region tabOk rfl ?_; simp only [prep, pickO, List.map_cons, List.map_nil, List.getElem?_toArray, List.getElem?_cons_succ, List.getElem?_cons_zero, Option.bind_some, Option.map_some]) | ((with_reducible refine And.intro ?_ ?_); (focus (exact rfl))) | ((with_reducible refine And.intro (?_ : enters Try.prog 76) ?_); (focus exact Try.call76); (refine callX_h (callH_inline tabOk Try.func76 rfl 8 rfl [.tmp 2] rfl (Nat.le_of_ble_eq_true rfl) fun m0 hm0 hcl hlt => ?_)); simp only [initT, St.ev, St.set, upd, Nat.reduceEqDiff, reduceIte, if_false, if_true, hN, q1, q2, Nat.add_eq_left, Nat.left_eq_add, Nat.add_assoc, Nat.reduceAdd, if_false, if_true]) | (simp only [doneH]; simp only [ressK, resK, wrapR, go_sem, Nat.reduceAdd, Nat.reduceMul, Nat.reduceEqDiff, Nat.reduceLT, reduceIte, reduceCtorEq, hN, q1, q2, Nat.add_eq_left, Nat.left_eq_add, Nat.add_assoc, Nat.reduceAdd, if_false, if_true]) | (refine aStoreAll_cells (by simp only [St.ev, St.set, upd, Nat.reduceEqDiff, reduceIte, if_false, if_true, hN, q1, q2, Nat.add_eq_left, Nat.left_eq_add, Nat.add_assoc, Nat.reduceAdd, if_false, if_true]; exact rfl) ?_ ?_ ?_ ?_ ?_; (focus (first | rfl | omega | (simp; done) | (simp; omega) | (simp [szOf, tab]; done) | (simp [szOf, tab]; omega))); (focus (first | rfl | omega | (simp; done) | (simp; omega) | (simp [szOf, tab]; done) | (simp [szOf, tab]; omega))); (focus (first | rfl | omega | (simp; done) | (simp; omega) | (simp [szOf, tab]; done) | (simp [szOf, tab]; omega))); (focus (first | rfl | (simp [AV.cell, Value.oneCell']; done))); (try simp only [go_sem, Nat.reduceAdd, Nat.reduceMul, Nat.reduceEqDiff, Nat.reduceLT, reduceIte, reduceCtorEq, hN, q1, q2, Nat.add_eq_left, Nat.left_eq_add, Nat.add_assoc, Nat.reduceAdd, if_false, if_true])) | fail)
          (refine yield_round (lp := LP) (by first | (simp only [St.ev, St.set, upd, Nat.reduceEqDiff, reduceIte, if_false, if_true, hN, q1, q2, Nat.add_eq_left, Nat.left_eq_add, Nat.add_assoc, Nat.reduceAdd, if_false, if_true]; done) | (simp only [St.ev, St.set, upd, Nat.reduceEqDiff, reduceIte, if_false, if_true, hN, q1, q2, Nat.add_eq_left, Nat.left_eq_add, Nat.add_assoc, Nat.reduceAdd, if_false, if_true]; exact rfl)) LP1 LP2 (by first | exact List.mem_cons_self | exact List.mem_cons_of_mem _ List.mem_cons_self | exact List.mem_cons_of_mem _ (List.mem_cons_of_mem _ List.mem_cons_self) | exact List.mem_cons_of_mem _ (List.mem_cons_of_mem _ (List.mem_cons_of_mem _ List.mem_cons_self))) (by first | (rw [LP3]; done) | (rw [LP3]; rfl)) (by rw [LP3]; decide) (fun m0 hm0 hcl hlt => ?_); rw [LP3, LP4, LP5]; simp only [zipT, St.ev, St.set, upd, Nat.reduceEqDiff, reduceIte, if_false, if_true, hN, q1, q2, Nat.add_eq_left, Nat.left_eq_add, Nat.add_assoc, Nat.reduceAdd, if_false, if_true])
          repeat' (first | refine awp_seq_k fun K hK => ?_ | ((with_reducible refine hK _ ?_); clear hK K) | ((with_reducible refine aord_plain fun K hK => ?_); simp only [go_sem, Nat.reduceAdd, Nat.reduceMul, Nat.reduceEqDiff, Nat.reduceLT, reduceIte, reduceCtorEq, hN, q1, q2, Nat.add_eq_left, Nat.left_eq_add, Nat.add_assoc, Nat.reduceAdd, if_false, if_true, hN, q1, q2, mat.matL, DV.agg.injEq]) | refine awp_block ?_ | (refine awp_region tabOk rfl ?_; simp only [prep, pickO, List.map_cons, List.map_nil, List.getElem?_toArray, List.getElem?_cons_succ, List.getElem?_cons_zero, Option.bind_some, Option.map_some]) | ((with_reducible refine And.intro ?_ ?_); (focus (exact rfl))) | ((with_reducible refine And.intro (?_ : enters Try.prog 43) ?_); (focus exact Try.call43); (refine callX_satH split_sat ?_); simp only [go_sem, and_assoc, List.nil_append, List.append_nil, List.cons_append, Nat.reduceEqDiff, reduceIte, reduceCtorEq, hN, q1, q2, Nat.add_eq_left, Nat.left_eq_add, Nat.add_assoc, Nat.reduceAdd, if_false, if_true, hN, q1, q2, mat.matL, DV.agg.injEq]) | (refine aStoreAll_cells (by simp only [St.ev, St.set, upd, Nat.reduceEqDiff, reduceIte, if_false, if_true, hN, q1, q2, Nat.add_eq_left, Nat.left_eq_add, Nat.add_assoc, Nat.reduceAdd, if_false, if_true]; exact rfl) ?_ ?_ ?_ ?_ ?_; (focus (first | rfl | omega | (simp; done) | (simp; omega) | (simp [szOf, tab]; done) | (simp [szOf, tab]; omega))); (focus (first | rfl | omega | (simp; done) | (simp; omega) | (simp [szOf, tab]; done) | (simp [szOf, tab]; omega))); (focus (first | rfl | omega | (simp; done) | (simp; omega) | (simp [szOf, tab]; done) | (simp [szOf, tab]; omega))); (focus (first | rfl | (simp [AV.cell, Value.oneCell']; done))); (try simp only [go_sem, Nat.reduceAdd, Nat.reduceMul, Nat.reduceEqDiff, Nat.reduceLT, reduceIte, reduceCtorEq, hN, q1, q2, Nat.add_eq_left, Nat.left_eq_add, Nat.add_assoc, Nat.reduceAdd, if_false, if_true])) | fail)
          have hsum := sp_sum hV (a := (i : Int)) (c := (j : Int)) ⟨⟨⟨by omega, by omega⟩, by omega, by omega⟩, by omega⟩
          rw [hLL] at hsum
          have hl1 := r1.lt
          refine ⟨f, L, rfl, i, j, rfl, r1.keepN (by omega) (by (repeat rw [upd_ne _ _ (by omega)]); exact hfr O (by omega)) (fun m hm => by have := (hl1 m hm).1; (repeat rw [upd_ne _ _ (by omega)]); exact hfr _ (by omega)), by omega, hrw, fun H2 N2 P1 P2 g1 g2 s1 s2 s3 s4 s5 s6 s7 => ?_⟩
          have hN2 := s1.outn
          have d1 : H2 (N + 1) = some ⟨true, .cells [.val (.int .i64 (bqRow L i j s0).1), .val (.int .i64 (bqRow L i j s0).2.1)]⟩ := by rw [s3 _ (by omega)]; (repeat rw [if_neg (by omega)]); exact c1
          have d2 : H2 (N + 2) = some ⟨true, .cells [.val (.int .i64 (bqRow L i j s0).2.2)]⟩ := by rw [s3 _ (by omega)]; (repeat rw [if_neg (by omega)]); exact c2
          have d0 : H2 N = some ⟨true, .cells [.sl O 0 L.length 1 none]⟩ := by rw [s3 _ (by omega)]; (repeat rw [if_neg (by omega)]); exact c0
          have d3 : H2 (N + 3) = some ⟨true, .cells [.val (.int .i64 d)]⟩ := by rw [s3 _ (by omega)]; (repeat rw [if_neg (by omega)]); exact c3
          have d5 : H2 (N + 5) = some ⟨true, .cells [.val (.func (.func 76) #[] #[])]⟩ := by rw [s3 _ (by omega)]; (repeat rw [if_neg (by omega)]); exact c5
          have d7 : H2 (N + 7) = some ⟨true, .cells [.yl (N + 6)]⟩ := by rw [s3 _ (by omega)]; (repeat rw [if_neg (by omega)]); exact c7
          have dq : H2 (M + 2) = some ⟨true, .cells [.val (.int .i64 i), .val (.int .i64 j)]⟩ := by rw [s3 _ (by omega), if_pos rfl]
          have hfr2 : ∀ u, u < N → H2 u = H u := fun u hu => by rw [s3 _ (by omega)]; (repeat rw [if_neg (by omega)]); exact hfr u hu
          clear s3
          have hX1 := List.length_filter_le (agB [((i : Int), (j : Int))]) L
          have hmx : mxP L i j = max (((L.filter (agB [((i : Int), (j : Int))])).length : Nat) : Int) (((L.filter (agB [((j : Int), (i : Int))])).length : Nat) : Int) := by unfold mxP; omega
          have hbS : bqS L i j (bqRow L i j s0) = if mxP L i j < (bqRow L i j s0).2.2 then ((i : Int), (j : Int), mxP L i j) else bqRow L i j s0 := rfl
          by_cases hc : mxP L i j < (bqRow L i j s0).2.2
          · rw [if_pos hc] at hbS
            rw [hmx] at hc
            have e3 : decide (max (((L.filter (agB [((i : Int), (j : Int))])).length : Nat) : Int) (((L.filter (agB [((j : Int), (i : Int))])).length : Nat) : Int) < (bqRow L i j s0).2.2) = true := decide_eq_true hc


            repeat' (first | refine awp_seq_k fun K hK => ?_ | ((with_reducible refine hK _ ?_); clear hK K) | ((with_reducible refine aord_plain fun K hK => ?_); simp only [go_sem, Nat.reduceAdd, Nat.reduceMul, Nat.reduceEqDiff, Nat.reduceLT, reduceIte, reduceCtorEq, d0, d1, d2, d3, d5, d7, dq, e3, Nat.add_eq_left, Nat.left_eq_add, Nat.add_assoc, Nat.reduceAdd, if_false, if_true, d0, d1, d2, d3, d5, d7, dq, e3, mat.matL, DV.agg.injEq]) | ((with_reducible apply aord_guard); (focus (simp only [St.ev, St.set, upd, Nat.reduceEqDiff, reduceIte, if_false, if_true, d0, d1, d2, d3, d5, d7, dq, e3, Nat.add_eq_left, Nat.left_eq_add, Nat.add_assoc, Nat.reduceAdd, if_false, if_true]; exact rfl)); all_goals (intro hb; (try simp only [Bool.not_true, Bool.not_false] at hb); first | (cases hb; done) | ((try rw [hb]); (try simp only [Bool.not_eq_true', Bool.not_eq_false', Bool.and_eq_true, decide_eq_true_eq, decide_eq_false_iff_not, beq_iff_eq, bne_iff_ne, beq_eq_false_iff_ne, bne_eq_false_iff_eq, Int.not_lt, Int.not_le] at hb); (try (revert hb; with_reducible refine true_imp_iff.2 ?_)); first | (intro K hK; simp only [go_sem, Nat.reduceAdd, Nat.reduceMul, Nat.reduceEqDiff, Nat.reduceLT, reduceIte, reduceCtorEq, d0, d1, d2, d3, d5, d7, dq, e3, Nat.add_eq_left, Nat.left_eq_add, Nat.add_assoc, Nat.reduceAdd, if_false, if_true]) | (simp only [St.ev, St.set, upd, Nat.reduceEqDiff, reduceIte, if_false, if_true, d0, d1, d2, d3, d5, d7, dq, e3, Nat.add_eq_left, Nat.left_eq_add, Nat.add_assoc, Nat.reduceAdd, if_false, if_true]) | skip))) | ((first | with_reducible refine aord_nil ?_ | refine awp_skip ?_ | refine awp_exit ?_ | refine awp_ret ?_); try simp only [thenA_normal, thenA_exit, thenA_goto, thenA_ret, blockA_normal, blockA_same, blockA_exit, blockA_goto, blockA_ret, Nat.reduceEqDiff, if_false, if_true, reduceIte]) | (refine awp_region tabOk rfl ?_; simp only [prep, pickO, List.map_cons, List.map_nil, List.getElem?_toArray, List.getElem?_cons_succ, List.getElem?_cons_zero, Option.bind_some, Option.map_some]) | ((with_reducible apply awp_cond); (focus (simp only [St.ev, St.set, upd, Nat.reduceEqDiff, reduceIte, if_false, if_true, d0, d1, d2, d3, d5, d7, dq, e3, Nat.add_eq_left, Nat.left_eq_add, Nat.add_assoc, Nat.reduceAdd, if_false, if_true]; exact rfl)); all_goals (intro hb; first | (cases hb; done) | ((try rw [hb]); (try simp only [decide_eq_true_eq, decide_eq_false_iff_not, beq_iff_eq, bne_iff_ne, beq_eq_false_iff_ne, bne_eq_false_iff_eq, Int.not_lt, Int.not_le, Bool.not_eq_true', Bool.not_eq_false'] at hb)))) | ((with_reducible refine And.intro ?_ ?_); (focus omega)) | (refine aStoreAll_cells (by simp only [St.ev, St.set, upd, Nat.reduceEqDiff, reduceIte, if_false, if_true, d0, d1, d2, d3, d5, d7, dq, e3, Nat.add_eq_left, Nat.left_eq_add, Nat.add_assoc, Nat.reduceAdd, if_false, if_true]; exact rfl) ?_ ?_ ?_ ?_ ?_; (focus (first | rfl | omega | (simp; done) | (simp; omega) | (simp [szOf, tab]; done) | (simp [szOf, tab]; omega))); (focus (first | rfl | omega | (simp; done) | (simp; omega) | (simp [szOf, tab]; done) | (simp [szOf, tab]; omega))); (focus (first | rfl | omega | (simp; done) | (simp; omega) | (simp [szOf, tab]; done) | (simp [szOf, tab]; omega))); (focus (first | rfl | (simp [AV.cell, Value.oneCell']; done))); (try simp only [go_sem, Nat.reduceAdd, Nat.reduceMul, Nat.reduceEqDiff, Nat.reduceLT, reduceIte, reduceCtorEq, d0, d1, d2, d3, d5, d7, dq, e3, Nat.add_eq_left, Nat.left_eq_add, Nat.add_assoc, Nat.reduceAdd, if_false, if_true])) | ((with_reducible refine roundA_normal ?_); simp only [St.ev, St.set, upd, Nat.reduceEqDiff, reduceIte, if_false, if_true, d0, d1, d2, d3, d5, d7, dq, e3, Nat.add_eq_left, Nat.left_eq_add, Nat.add_assoc, Nat.reduceAdd, if_false, if_true]) | fail)
            refine ⟨(upd (upd (upd (upd H2 (N + 1) (some ⟨true, .cells [.val (.int .i64 i), .val (.int .i64 j)]⟩)) (N + 2) (some ⟨true, .cells [.val (.int .i64 (max (((L.filter (agB [((i : Int), (j : Int))])).length : Nat) : Int) (((L.filter (agB [((j : Int), (i : Int))])).length : Nat) : Int)))]⟩)) (N + 6) (some ⟨true, .raw (.loop LP)⟩)) (N + 8) (some ⟨true, .raw (.loop LQ)⟩), N2, j + 1), ⟨by dsimp only; omega, ?_⟩, by dsimp only; omega, Wk.sub (tsd (tsd (tsd (tsd (tsd (tsd (tsd tsd0 rfl) rfl) rfl) rfl) rfl) rfl) rfl) (fun _ _ h => h) rfl⟩
            dsimp only
            rw [hup, hbS, hmx]
            refine ⟨fun u hu => ?_, by omega, ?_, ?_, ?_, ?_, ?_, ?_, ?_, ?_⟩
            all_goals (repeat (first | rw [upd_same] | rw [upd_ne _ _ (by omega)]))
            · exact hfr2 u hu
            · exact d0
            · exact d3
            · exact d5
            · exact d7
          · rw [if_neg hc] at hbS
            rw [hmx] at hc
            have e3 : decide (max (((L.filter (agB [((i : Int), (j : Int))])).length : Nat) : Int) (((L.filter (agB [((j : Int), (i : Int))])).length : Nat) : Int) < (bqRow L i j s0).2.2) = false := decide_eq_false hc


            repeat' (first | refine awp_seq_k fun K hK => ?_ | ((with_reducible refine hK _ ?_); clear hK K) | ((with_reducible refine aord_plain fun K hK => ?_); simp only [go_sem, Nat.reduceAdd, Nat.reduceMul, Nat.reduceEqDiff, Nat.reduceLT, reduceIte, reduceCtorEq, d0, d1, d2, d3, d5, d7, dq, e3, Nat.add_eq_left, Nat.left_eq_add, Nat.add_assoc, Nat.reduceAdd, if_false, if_true, d0, d1, d2, d3, d5, d7, dq, e3, mat.matL, DV.agg.injEq]) | ((with_reducible apply aord_guard); (focus (simp only [St.ev, St.set, upd, Nat.reduceEqDiff, reduceIte, if_false, if_true, d0, d1, d2, d3, d5, d7, dq, e3, Nat.add_eq_left, Nat.left_eq_add, Nat.add_assoc, Nat.reduceAdd, if_false, if_true]; exact rfl)); all_goals (intro hb; (try simp only [Bool.not_true, Bool.not_false] at hb); first | (cases hb; done) | ((try rw [hb]); (try simp only [Bool.not_eq_true', Bool.not_eq_false', Bool.and_eq_true, decide_eq_true_eq, decide_eq_false_iff_not, beq_iff_eq, bne_iff_ne, beq_eq_false_iff_ne, bne_eq_false_iff_eq, Int.not_lt, Int.not_le] at hb); (try (revert hb; with_reducible refine true_imp_iff.2 ?_)); first | (intro K hK; simp only [go_sem, Nat.reduceAdd, Nat.reduceMul, Nat.reduceEqDiff, Nat.reduceLT, reduceIte, reduceCtorEq, d0, d1, d2, d3, d5, d7, dq, e3, Nat.add_eq_left, Nat.left_eq_add, Nat.add_assoc, Nat.reduceAdd, if_false, if_true]) | (simp only [St.ev, St.set, upd, Nat.reduceEqDiff, reduceIte, if_false, if_true, d0, d1, d2, d3, d5, d7, dq, e3, Nat.add_eq_left, Nat.left_eq_add, Nat.add_assoc, Nat.reduceAdd, if_false, if_true]) | skip))) | ((first | with_reducible refine aord_nil ?_ | refine awp_skip ?_ | refine awp_exit ?_ | refine awp_ret ?_); try simp only [thenA_normal, thenA_exit, thenA_goto, thenA_ret, blockA_normal, blockA_same, blockA_exit, blockA_goto, blockA_ret, Nat.reduceEqDiff, if_false, if_true, reduceIte]) | (refine awp_region tabOk rfl ?_; simp only [prep, pickO, List.map_cons, List.map_nil, List.getElem?_toArray, List.getElem?_cons_succ, List.getElem?_cons_zero, Option.bind_some, Option.map_some]) | ((with_reducible apply awp_cond); (focus (simp only [St.ev, St.set, upd, Nat.reduceEqDiff, reduceIte, if_false, if_true, d0, d1, d2, d3, d5, d7, dq, e3, Nat.add_eq_left, Nat.left_eq_add, Nat.add_assoc, Nat.reduceAdd, if_false, if_true]; exact rfl)); all_goals (intro hb; first | (cases hb; done) | ((try rw [hb]); (try simp only [decide_eq_true_eq, decide_eq_false_iff_not, beq_iff_eq, bne_iff_ne, beq_eq_false_iff_ne, bne_eq_false_iff_eq, Int.not_lt, Int.not_le, Bool.not_eq_true', Bool.not_eq_false'] at hb)))) | ((with_reducible refine And.intro ?_ ?_); (focus omega)) | ((with_reducible refine roundA_normal ?_); simp only [St.ev, St.set, upd, Nat.reduceEqDiff, reduceIte, if_false, if_true, d0, d1, d2, d3, d5, d7, dq, e3, Nat.add_eq_left, Nat.left_eq_add, Nat.add_assoc, Nat.reduceAdd, if_false, if_true]) | fail)
            refine ⟨(upd (upd H2 (N + 6) (some ⟨true, .raw (.loop LP)⟩)) (N + 8) (some ⟨true, .raw (.loop LQ)⟩), N2, j + 1), ⟨by dsimp only; omega, ?_⟩, by dsimp only; omega, Wk.sub (tsd (tsd (tsd (tsd (tsd (tsd (tsd tsd0 rfl) rfl) rfl) rfl) rfl) rfl) rfl) (fun _ _ h => h) rfl⟩
            dsimp only
            rw [hup, hbS]
            refine ⟨fun u hu => ?_, by omega, ?_, ?_, ?_, ?_, ?_, ?_, ?_, ?_⟩
            all_goals (repeat (first | rw [upd_same] | rw [upd_ne _ _ (by omega)]))
            · exact hfr2 u hu
            · exact d0
            · exact d1
            · exact d2
            · exact d3
            · exact d5
            · exact d7
        · have q1 : ((i : Int) != (j : Int)) = false := by rw [hij]; exact bne_self_eq_false _
          rw [if_neg (by omega)] at hup


          repeat' (first | refine awp_seq_k fun K hK => ?_ | ((with_reducible refine hK _ ?_); clear hK K) | (clear hK K; (with_reducible refine hK _ ?_); clear hK K) | ((with_reducible refine aord_plain fun K hK => ?_); simp only [go_sem, Nat.reduceAdd, Nat.reduceMul, Nat.reduceEqDiff, Nat.reduceLT, reduceIte, reduceCtorEq, hN, q1, Nat.add_eq_left, Nat.left_eq_add, Nat.add_assoc, Nat.reduceAdd, if_false, if_true, hN, q1, mat.matL, DV.agg.injEq]) | ((with_reducible apply aord_guard); (focus (simp only [St.ev, St.set, upd, Nat.reduceEqDiff, reduceIte, if_false, if_true, hN, q1, Nat.add_eq_left, Nat.left_eq_add, Nat.add_assoc, Nat.reduceAdd, if_false, if_true]; exact rfl)); all_goals (intro hb; (try simp only [Bool.not_true, Bool.not_false] at hb); first | (cases hb; done) | ((try rw [hb]); (try simp only [Bool.not_eq_true', Bool.not_eq_false', Bool.and_eq_true, decide_eq_true_eq, decide_eq_false_iff_not, beq_iff_eq, bne_iff_ne, beq_eq_false_iff_ne, bne_eq_false_iff_eq, Int.not_lt, Int.not_le] at hb); (try (revert hb; with_reducible refine true_imp_iff.2 ?_)); first | (intro K hK; simp only [go_sem, Nat.reduceAdd, Nat.reduceMul, Nat.reduceEqDiff, Nat.reduceLT, reduceIte, reduceCtorEq, hN, q1, Nat.add_eq_left, Nat.left_eq_add, Nat.add_assoc, Nat.reduceAdd, if_false, if_true]) | (simp only [St.ev, St.set, upd, Nat.reduceEqDiff, reduceIte, if_false, if_true, hN, q1, Nat.add_eq_left, Nat.left_eq_add, Nat.add_assoc, Nat.reduceAdd, if_false, if_true]) | skip))) | refine awp_block ?_ | ((first | with_reducible refine aord_nil ?_ | refine awp_skip ?_ | refine awp_exit ?_ | refine awp_ret ?_); try simp only [thenA_normal, thenA_exit, thenA_goto, thenA_ret, blockA_normal, blockA_same, blockA_exit, blockA_goto, blockA_ret, Nat.reduceEqDiff, if_false, if_true, reduceIte]) | (refine awp_region tabOk rfl ?_; simp only [prep, pickO, List.map_cons, List.map_nil, List.getElem?_toArray, List.getElem?_cons_succ, List.getElem?_cons_zero, Option.bind_some, Option.map_some]) | ((with_reducible apply awp_cond); (focus (simp only [St.ev, St.set, upd, Nat.reduceEqDiff, reduceIte, if_false, if_true, hN, q1, Nat.add_eq_left, Nat.left_eq_add, Nat.add_assoc, Nat.reduceAdd, if_false, if_true]; exact rfl)); all_goals (intro hb; first | (cases hb; done) | ((try rw [hb]); (try simp only [decide_eq_true_eq, decide_eq_false_iff_not, beq_iff_eq, bne_iff_ne, beq_eq_false_iff_ne, bne_eq_false_iff_eq, Int.not_lt, Int.not_le, Bool.not_eq_true', Bool.not_eq_false'] at hb)))) | ((with_reducible refine And.intro ?_ ?_); (focus omega)) | (exfalso; omega) | fail)
          refine ⟨(G, M, j + 1), ⟨by dsimp only; omega, by dsimp only; rw [hup]; exact hI⟩, by dsimp only; omega, Wk.sub (tsd (tsd (tsd (tsd (tsd (tsd (tsd tsd0 rfl) rfl) rfl) rfl) rfl) rfl) rfl) (fun _ _ h => h) rfl⟩
        · have q1 : ((i : Int) != (j : Int)) = true := bne_iff_ne.2 (by omega)
          have q2 : decide ((i : Int) < (j : Int)) = false := decide_eq_false (by omega)
          rw [if_neg (by omega)] at hup


          repeat' (first | refine awp_seq_k fun K hK => ?_ | ((with_reducible refine hK _ ?_); clear hK K) | (clear hK K; (with_reducible refine hK _ ?_); clear hK K) | ((with_reducible refine aord_plain fun K hK => ?_); simp only [go_sem, Nat.reduceAdd, Nat.reduceMul, Nat.reduceEqDiff, Nat.reduceLT, reduceIte, reduceCtorEq, hN, q1, q2, Nat.add_eq_left, Nat.left_eq_add, Nat.add_assoc, Nat.reduceAdd, if_false, if_true, hN, q1, q2, mat.matL, DV.agg.injEq]) | ((with_reducible apply aord_guard); (focus (simp only [St.ev, St.set, upd, Nat.reduceEqDiff, reduceIte, if_false, if_true, hN, q1, q2, Nat.add_eq_left, Nat.left_eq_add, Nat.add_assoc, Nat.reduceAdd, if_false, if_true]; exact rfl)); all_goals (intro hb; (try simp only [Bool.not_true, Bool.not_false] at hb); first | (cases hb; done) | ((try rw [hb]); (try simp only [Bool.not_eq_true', Bool.not_eq_false', Bool.and_eq_true, decide_eq_true_eq, decide_eq_false_iff_not, beq_iff_eq, bne_iff_ne, beq_eq_false_iff_ne, bne_eq_false_iff_eq, Int.not_lt, Int.not_le] at hb); (try (revert hb; with_reducible refine true_imp_iff.2 ?_)); first | (intro K hK; simp only [go_sem, Nat.reduceAdd, Nat.reduceMul, Nat.reduceEqDiff, Nat.reduceLT, reduceIte, reduceCtorEq, hN, q1, q2, Nat.add_eq_left, Nat.left_eq_add, Nat.add_assoc, Nat.reduceAdd, if_false, if_true]) | (simp only [St.ev, St.set, upd, Nat.reduceEqDiff, reduceIte, if_false, if_true, hN, q1, q2, Nat.add_eq_left, Nat.left_eq_add, Nat.add_assoc, Nat.reduceAdd, if_false, if_true]) | skip))) | refine awp_block ?_ | ((first | with_reducible refine aord_nil ?_ | refine awp_skip ?_ | refine awp_exit ?_ | refine awp_ret ?_); try simp only [thenA_normal, thenA_exit, thenA_goto, thenA_ret, blockA_normal, blockA_same, blockA_exit, blockA_goto, blockA_ret, Nat.reduceEqDiff, if_false, if_true, reduceIte]) | (refine awp_region tabOk rfl ?_; simp only [prep, pickO, List.map_cons, List.map_nil, List.getElem?_toArray, List.getElem?_cons_succ, List.getElem?_cons_zero, Option.bind_some, Option.map_some]) | ((with_reducible apply awp_cond); (focus (simp only [St.ev, St.set, upd, Nat.reduceEqDiff, reduceIte, if_false, if_true, hN, q1, q2, Nat.add_eq_left, Nat.left_eq_add, Nat.add_assoc, Nat.reduceAdd, if_false, if_true]; exact rfl)); all_goals (intro hb; first | (cases hb; done) | ((try rw [hb]); (try simp only [decide_eq_true_eq, decide_eq_false_iff_not, beq_iff_eq, bne_iff_ne, beq_eq_false_iff_ne, bne_eq_false_iff_eq, Int.not_lt, Int.not_le, Bool.not_eq_true', Bool.not_eq_false'] at hb)))) | ((with_reducible refine And.intro ?_ ?_); (focus omega)) | (simp only [rBuild]; simp only [fillA, Nat.reduceLeDiff, List.getElem?_cons_zero, List.getElem?_cons_succ, List.drop_succ_cons, List.drop_nil, List.take_nil, List.cons_append, Option.isSome_some, go_sem, Nat.reduceAdd, Nat.reduceMul, Nat.reduceEqDiff, Nat.reduceLT, reduceIte, reduceCtorEq, hN, q1, q2, Nat.add_eq_left, Nat.left_eq_add, Nat.add_assoc, Nat.reduceAdd, if_false, if_true]) | (exfalso; omega) | fail)
          (refine yield_round (lp := LQ) (by first | (simp only [St.ev, St.set, upd, Nat.reduceEqDiff, reduceIte, if_false, if_true, hN, q1, q2, Nat.add_eq_left, Nat.left_eq_add, Nat.add_assoc, Nat.reduceAdd, if_false, if_true]; done) | (simp only [St.ev, St.set, upd, Nat.reduceEqDiff, reduceIte, if_false, if_true, hN, q1, q2, Nat.add_eq_left, Nat.left_eq_add, Nat.add_assoc, Nat.reduceAdd, if_false, if_true]; exact rfl)) LQ1 LQ2 (by first | exact List.mem_cons_self | exact List.mem_cons_of_mem _ List.mem_cons_self | exact List.mem_cons_of_mem _ (List.mem_cons_of_mem _ List.mem_cons_self) | exact List.mem_cons_of_mem _ (List.mem_cons_of_mem _ (List.mem_cons_of_mem _ List.mem_cons_self))) (by first | (rw [LQ3]; done) | (rw [LQ3]; rfl)) (by rw [LQ3]; decide) (fun m0 hm0 hcl hlt => ?_); rw [LQ3, LQ4, LQ5]; simp only [zipT, St.ev, St.set, upd, Nat.reduceEqDiff, reduceIte, if_false, if_true, hN, q1, q2, Nat.add_eq_left, Nat.left_eq_add, Nat.add_assoc, Nat.reduceAdd, if_false, if_true])
          repeat' (first | refine awp_seq_k fun K hK => ?_ | ((with_reducible refine hK _ ?_); clear hK K) | ((with_reducible refine aord_plain fun K hK => ?_); simp only [go_sem, Nat.reduceAdd, Nat.reduceMul, Nat.reduceEqDiff, Nat.reduceLT, reduceIte, reduceCtorEq, hN, q1, q2, Nat.add_eq_left, Nat.left_eq_add, Nat.add_assoc, Nat.reduceAdd, if_false, if_true, hN, q1, q2, mat.matL, DV.agg.injEq]) | ((with_reducible apply aord_guard); (focus (simp only [St.ev, St.set, upd, Nat.reduceEqDiff, reduceIte, if_false, if_true, hN, q1, q2, Nat.add_eq_left, Nat.left_eq_add, Nat.add_assoc, Nat.reduceAdd, if_false, if_true]; exact rfl)); all_goals (intro hb; (try simp only [Bool.not_true, Bool.not_false] at hb); first | (cases hb; done) | ((try rw [hb]); (try simp only [Bool.not_eq_true', Bool.not_eq_false', Bool.and_eq_true, decide_eq_true_eq, decide_eq_false_iff_not, beq_iff_eq, bne_iff_ne, beq_eq_false_iff_ne, bne_eq_false_iff_eq, Int.not_lt, Int.not_le] at hb); (try (revert hb; with_reducible refine true_imp_iff.2 ?_)); first | (intro K hK; simp only [go_sem, Nat.reduceAdd, Nat.reduceMul, Nat.reduceEqDiff, Nat.reduceLT, reduceIte, reduceCtorEq, hN, q1, q2, Nat.add_eq_left, Nat.left_eq_add, Nat.add_assoc, Nat.reduceAdd, if_false, if_true]) | (simp only [St.ev, St.set, upd, Nat.reduceEqDiff, reduceIte, if_false, if_true, hN, q1, q2, Nat.add_eq_left, Nat.left_eq_add, Nat.add_assoc, Nat.reduceAdd, if_false, if_true]) | skip))) | refine awp_block ?_ | ((first | with_reducible refine aord_nil ?_ | refine awp_skip ?_ | refine awp_exit ?_ | refine awp_ret ?_); try simp only [thenA_normal, thenA_exit, thenA_goto, thenA_ret, blockA_normal, blockA_same, blockA_exit, blockA_goto, blockA_ret, Nat.reduceEqDiff, if_false, if_true, reduceIte]) | (refine awp_region tabOk rfl ?_; simp only [prep, pickO, List.map_cons, List.map_nil, List.getElem?_toArray, List.getElem?_cons_succ, List.getElem?_cons_zero, Option.bind_some, Option.map_some]) | ((with_reducible apply awp_cond); (focus (simp only [St.ev, St.set, upd, Nat.reduceEqDiff, reduceIte, if_false, if_true, hN, q1, q2, Nat.add_eq_left, Nat.left_eq_add, Nat.add_assoc, Nat.reduceAdd, if_false, if_true]; exact rfl)); all_goals (intro hb; first | (cases hb; done) | ((try rw [hb]); (try simp only [decide_eq_true_eq, decide_eq_false_iff_not, beq_iff_eq, bne_iff_ne, beq_eq_false_iff_ne, bne_eq_false_iff_eq, Int.not_lt, Int.not_le, Bool.not_eq_true', Bool.not_eq_false'] at hb)))) | ((with_reducible refine And.intro ?_ ?_); (focus omega)) | ((with_reducible refine And.intro ?_ ?_); (focus (exact rfl))) | ((with_reducible refine And.intro (?_ : enters Try.prog 76) ?_); (focus exact Try.call76); (refine callX_h (callH_inline tabOk Try.func76 rfl 8 rfl [.tmp 2] rfl (Nat.le_of_ble_eq_true rfl) fun m0 hm0 hcl hlt => ?_)); simp only [initT, St.ev, St.set, upd, Nat.reduceEqDiff, reduceIte, if_false, if_true, hN, q1, q2, Nat.add_eq_left, Nat.left_eq_add, Nat.add_assoc, Nat.reduceAdd, if_false, if_true]) | (simp only [doneH]; simp only [ressK, resK, wrapR, go_sem, Nat.reduceAdd, Nat.reduceMul, Nat.reduceEqDiff, Nat.reduceLT, reduceIte, reduceCtorEq, hN, q1, q2, Nat.add_eq_left, Nat.left_eq_add, Nat.add_assoc, Nat.reduceAdd, if_false, if_true]) | (refine aStoreAll_cells (by simp only [St.ev, St.set, upd, Nat.reduceEqDiff, reduceIte, if_false, if_true, hN, q1, q2, Nat.add_eq_left, Nat.left_eq_add, Nat.add_assoc, Nat.reduceAdd, if_false, if_true]; exact rfl) ?_ ?_ ?_ ?_ ?_; (focus (first | rfl | omega | (simp; done) | (simp; omega) | (simp [szOf, tab]; done) | (simp [szOf, tab]; omega))); (focus (first | rfl | omega | (simp; done) | (simp; omega) | (simp [szOf, tab]; done) | (simp [szOf, tab]; omega))); (focus (first | rfl | omega | (simp; done) | (simp; omega) | (simp [szOf, tab]; done) | (simp [szOf, tab]; omega))); (focus (first | rfl | (simp [AV.cell, Value.oneCell']; done))); (try simp only [go_sem, Nat.reduceAdd, Nat.reduceMul, Nat.reduceEqDiff, Nat.reduceLT, reduceIte, reduceCtorEq, hN, q1, q2, Nat.add_eq_left, Nat.left_eq_add, Nat.add_assoc, Nat.reduceAdd, if_false, if_true])) | ((with_reducible refine roundA_normal ?_); simp only [St.ev, St.set, upd, Nat.reduceEqDiff, reduceIte, if_false, if_true, hN, q1, q2, Nat.add_eq_left, Nat.left_eq_add, Nat.add_assoc, Nat.reduceAdd, if_false, if_true]) | fail)
          refine ⟨((upd (upd (upd (upd (upd G (N + 8) none) M (some ⟨true, .cells [.val (.int .i64 0), .val (.int .i64 0)]⟩)) M (some ⟨true, .cells [.val (.int .i64 i), .val (.int .i64 j)]⟩)) (M + 1) (some ⟨true, .cells [.val (.int .i64 i), .val (.int .i64 j)]⟩)) (N + 8) (some ⟨true, .raw (.loop LQ)⟩)), M + 2, j + 1), ⟨by dsimp only; omega, ?_⟩, by dsimp only; omega, Wk.sub (tsd (tsd (tsd (tsd (tsd (tsd (tsd tsd0 rfl) rfl) rfl) rfl) rfl) rfl) rfl) (fun _ _ h => h) rfl⟩
          dsimp only
          rw [hup]
          refine hI.up (by omega) fun u hu => ?_
          by_cases e : u = N + 8
          · subst e; rw [upd_same]; exact c8.symm
          · rw [upd_ne _ _ e, upd_ne _ _ (by omega), upd_ne _ _ (by omega), upd_ne _ _ (by omega), upd_ne _ _ e]
      · have ej : d = j := by omega
        subst ej
        have e2 : bqTo L d (i + 1) (0, 0, (L.length : Int)) = bqRow L i d s0 := by rw [bqTo, hss]


        repeat' (first | refine awp_seq_k fun K hK => ?_ | ((with_reducible refine hK _ ?_); clear hK K) | (clear hK K; (with_reducible refine hK _ ?_); clear hK K) | ((with_reducible refine aord_plain fun K hK => ?_); simp only [go_sem, Nat.reduceAdd, Nat.reduceMul, Nat.reduceEqDiff, Nat.reduceLT, reduceIte, reduceCtorEq, mat.matL, DV.agg.injEq]) | ((with_reducible apply aord_guard); (focus (simp only [St.ev, St.set, upd, Nat.reduceEqDiff, reduceIte, if_false, if_true]; exact rfl)); all_goals (intro hb; (try simp only [Bool.not_true, Bool.not_false] at hb); first | (cases hb; done) | ((try rw [hb]); (try simp only [Bool.not_eq_true', Bool.not_eq_false', Bool.and_eq_true, decide_eq_true_eq, decide_eq_false_iff_not, beq_iff_eq, bne_iff_ne, beq_eq_false_iff_ne, bne_eq_false_iff_eq, Int.not_lt, Int.not_le] at hb); (try (revert hb; with_reducible refine true_imp_iff.2 ?_)); first | (intro K hK; simp only [go_sem, Nat.reduceAdd, Nat.reduceMul, Nat.reduceEqDiff, Nat.reduceLT, reduceIte, reduceCtorEq]) | (simp only [St.ev, St.set, upd, Nat.reduceEqDiff, reduceIte, if_false, if_true]) | skip))) | refine awp_block ?_ | ((first | with_reducible refine aord_nil ?_ | refine awp_skip ?_ | refine awp_exit ?_ | refine awp_ret ?_); try simp only [thenA_normal, thenA_exit, thenA_goto, thenA_ret, blockA_normal, blockA_same, blockA_exit, blockA_goto, blockA_ret, Nat.reduceEqDiff, if_false, if_true, reduceIte]) | (refine awp_region tabOk rfl ?_; simp only [prep, pickO, List.map_cons, List.map_nil, List.getElem?_toArray, List.getElem?_cons_succ, List.getElem?_cons_zero, Option.bind_some, Option.map_some]) | ((with_reducible apply awp_cond); (focus (simp only [St.ev, St.set, upd, Nat.reduceEqDiff, reduceIte, if_false, if_true]; exact rfl)); all_goals (intro hb; first | (cases hb; done) | ((try rw [hb]); (try simp only [decide_eq_true_eq, decide_eq_false_iff_not, beq_iff_eq, bne_iff_ne, beq_eq_false_iff_ne, bne_eq_false_iff_eq, Int.not_lt, Int.not_le, Bool.not_eq_true', Bool.not_eq_false'] at hb)))) | ((with_reducible refine And.intro ?_ ?_); (focus omega)) | (simp only [rBuild]; simp only [fillA, Nat.reduceLeDiff, List.getElem?_cons_zero, List.getElem?_cons_succ, List.drop_succ_cons, List.drop_nil, List.take_nil, List.cons_append, Option.isSome_some, go_sem, Nat.reduceAdd, Nat.reduceMul, Nat.reduceEqDiff, Nat.reduceLT, reduceIte, reduceCtorEq]) | (exfalso; omega) | fail)
        refine ⟨(G, M, i + 1), ⟨by dsimp only; omega, by dsimp only; rw [e2]; exact hI⟩, by dsimp only; omega, Wk.sub (tsd (tsd (tsd (tsd tsd0 rfl) rfl) rfl) rfl) (fun _ _ h => h) rfl⟩
    · have ei : d = i := by omega
      subst ei
      have c1 := hI.c1
      have c6 := hI.c6
      have c8 := hI.c8


      repeat' ((fail_if_success (with_reducible refine isRetQ ?_)); (first | refine awp_seq_k fun K hK => ?_ | ((with_reducible refine hK _ ?_); clear hK K) | (clear hK K; (with_reducible refine hK _ ?_); clear hK K) | ((with_reducible refine aord_plain fun K hK => ?_); simp only [go_sem, Nat.reduceAdd, Nat.reduceMul, Nat.reduceEqDiff, Nat.reduceLT, reduceIte, reduceCtorEq, c1, c6, c8, Nat.add_eq_left, Nat.left_eq_add, Nat.add_assoc, Nat.reduceAdd, if_false, if_true, c1, c6, c8, mat.matL, DV.agg.injEq]) | refine awp_block ?_ | ((first | with_reducible refine aord_nil ?_ | refine awp_skip ?_ | refine awp_exit ?_ | refine awp_ret ?_); try simp only [thenA_normal, thenA_exit, thenA_goto, thenA_ret, blockA_normal, blockA_same, blockA_exit, blockA_goto, blockA_ret, Nat.reduceEqDiff, if_false, if_true, reduceIte]) | (refine awp_region tabOk rfl ?_; simp only [prep, pickO, List.map_cons, List.map_nil, List.getElem?_toArray, List.getElem?_cons_succ, List.getElem?_cons_zero, Option.bind_some, Option.map_some]) | (refine awp_region_draw (nt := 45) (id := 12) tabOk [(0, true, false), (1, true, false), (2, true, false), (3, true, false), (4, true, false), (5, true, false), (6, true, false)] (by kernel_rfl) rfl (by kernel_rfl) ?_; simp only [prep, pickO, List.map_cons, List.map_nil, List.getElem?_toArray, List.getElem?_cons_succ, List.getElem?_cons_zero, Option.bind_some, Option.map_some]) | ((with_reducible apply awp_cond); (focus (simp only [St.ev, St.set, upd, Nat.reduceEqDiff, reduceIte, if_false, if_true, c1, c6, c8, Nat.add_eq_left, Nat.left_eq_add, Nat.add_assoc, Nat.reduceAdd, if_false, if_true]; exact rfl)); all_goals (intro hb; first | (cases hb; done) | ((try rw [hb]); (try simp only [decide_eq_true_eq, decide_eq_false_iff_not, beq_iff_eq, bne_iff_ne, beq_eq_false_iff_ne, bne_eq_false_iff_eq, Int.not_lt, Int.not_le, Bool.not_eq_true', Bool.not_eq_false'] at hb)))) | (simp only [doneH]; simp only [ressK, resK, wrapR, go_sem, Nat.reduceAdd, Nat.reduceMul, Nat.reduceEqDiff, Nat.reduceLT, reduceIte, reduceCtorEq, c1, c6, c8, Nat.add_eq_left, Nat.left_eq_add, Nat.add_assoc, Nat.reduceAdd, if_false, if_true]) | ((with_reducible apply endA_go); (focus (simp only [St.ev, St.set, upd, Nat.reduceEqDiff, reduceIte, if_false, if_true, c1, c6, c8, Nat.add_eq_left, Nat.left_eq_add, Nat.add_assoc, Nat.reduceAdd, if_false, if_true]; exact rfl)); (focus assumption); (focus assumption); (try simp only [thenA_normal, thenA_exit, thenA_goto, thenA_ret, blockA_normal, blockA_same, blockA_exit, blockA_goto, blockA_ret, Nat.reduceEqDiff, if_false, if_true, reduceIte])) | (exfalso; omega) | fail))
      have hmn := hI.mn
      have hfr := hI.fr
      have hdrop : ∀ (o : Nat) (ob : Ob), h o = some ob → upd (upd G (N + 8) none) (N + 6) none o = some ob := fun o ob ho => by
        have := (hclO o _ ho).1
        rw [upd_ne _ _ (by omega), upd_ne _ _ (by omega), hfr o (by omega), r4 o (by omega)]; exact ho
      refine awp_weaken (s' := ⟨upd (upd (upd bot 6 (.val (.bool true))) 5 (.val (.int .i64 (bqTo L d d (0, 0, (L.length : Int))).2.1))) 4 (.val (.int .i64 (bqTo L d d (0, 0, (L.length : Int))).1)), h, M⟩) (Wk.sub (tsd (tsd (tsd tsd0 rfl) rfl) rfl) hdrop rfl) ?_
      repeat' (first | ((first | with_reducible refine aord_nil ?_ | refine awp_skip ?_ | refine awp_exit ?_ | refine awp_ret ?_); try simp only [thenA_normal, thenA_exit, thenA_goto, thenA_ret, blockA_normal, blockA_same, blockA_exit, blockA_goto, blockA_ret, Nat.reduceEqDiff, if_false, if_true, reduceIte]) | (simp only [doneH]; simp only [ressK, resK, wrapR, go_sem, Nat.reduceAdd, Nat.reduceMul, Nat.reduceEqDiff, Nat.reduceLT, reduceIte, reduceCtorEq, c1, c6, c8, Nat.add_eq_left, Nat.left_eq_add, Nat.add_assoc, Nat.reduceAdd, if_false, if_true]) | fail)
      exact hQ M (by omega)

theorem specBestQuestion_sat : SatH Try.prog 14 (fun al h n K => ∃ (z : Int) (A : Nat) (b : Bool) (fs : List (Int × Int)), al = [.val (.int .i64 (z)), .sl A 0 fs.length 2 none] ∧ (h A = some ⟨b, .ints .i64 (flF fs)⟩) ∧ (fs.length ≤ 1099511627776) ∧ ∀ N : Nat, n ≤ N → K (.tup [.val (.int .i64 (bqA z fs).1), .val (.int .i64 (bqA z fs).2.1), .val (.bool (bqA z fs).2.2)]) (h) (N)) := by
  refine satH_intro tabOk Try.func14 rfl 30 rfl [.tmp 4, .tmp 5, .tmp 6] rfl ?_
  rintro F W h n al K0 ⟨z, A, b, fs, rfl, hA, hl, hQ⟩
  refine ⟨Nat.le_of_ble_eq_true rfl, fun m0 hm0 hcl hlt => ?_⟩
  simp only [initT]
  have hAn := (hcl A _ hA).1


  repeat' ((fail_if_success (with_reducible refine isRetQ ?_)); (first | refine awp_seq_k fun K hK => ?_ | ((with_reducible refine hK _ ?_); clear hK K) | ((with_reducible refine aord_plain fun K hK => ?_); simp only [go_sem, Nat.reduceAdd, Nat.reduceMul, Nat.reduceEqDiff, Nat.reduceLT, reduceIte, reduceCtorEq, hA, Nat.add_eq_left, Nat.left_eq_add, Nat.add_assoc, Nat.reduceAdd, if_false, if_true, hA, mat.matL]) | ((first | with_reducible refine aord_nil ?_ | refine awp_skip ?_ | refine awp_exit ?_ | refine awp_ret ?_); try simp only [thenA_normal, thenA_exit, thenA_goto, thenA_ret, blockA_normal, blockA_same, blockA_exit, blockA_goto, blockA_ret, Nat.reduceEqDiff, if_false, if_true, reduceIte]) | (refine awp_region tabOk rfl ?_; simp only [prep, pickO, List.map_cons, List.map_nil, List.getElem?_toArray, List.getElem?_cons_succ, List.getElem?_cons_zero, Option.bind_some, Option.map_some]) | ((with_reducible refine And.intro (?_ : enters Try.prog 44) ?_); (focus exact Try.call44); (refine callX_satH specvalidFacts_sat ?_); simp only [go_sem, and_assoc, List.nil_append, List.append_nil, List.cons_append, Nat.reduceEqDiff, reduceIte, reduceCtorEq, hA, Nat.add_eq_left, Nat.left_eq_add, Nat.add_assoc, Nat.reduceAdd, if_false, if_true, hA, mat.matL]) | fail))
  refine ⟨b, fs, rfl, rfl, rfl, hl, fun v N hv hN => ?_⟩
  cases v with
  | false =>
    rw [bqA_no (fun h => by have := hv.2 h.1; cases this)] at hQ


    repeat' (first | refine awp_seq_k fun K hK => ?_ | ((with_reducible refine hK _ ?_); clear hK K) | ((with_reducible refine aord_plain fun K hK => ?_); simp only [go_sem, Nat.reduceAdd, Nat.reduceMul, Nat.reduceEqDiff, Nat.reduceLT, reduceIte, reduceCtorEq, hA, Nat.add_eq_left, Nat.left_eq_add, Nat.add_assoc, Nat.reduceAdd, if_false, if_true, hA, mat.matL]) | ((first | with_reducible refine aord_nil ?_ | refine awp_skip ?_ | refine awp_exit ?_ | refine awp_ret ?_); try simp only [thenA_normal, thenA_exit, thenA_goto, thenA_ret, blockA_normal, blockA_same, blockA_exit, blockA_goto, blockA_ret, Nat.reduceEqDiff, if_false, if_true, reduceIte]) | (refine awp_region tabOk rfl ?_; simp only [prep, pickO, List.map_cons, List.map_nil, List.getElem?_toArray, List.getElem?_cons_succ, List.getElem?_cons_zero, Option.bind_some, Option.map_some]) | ((with_reducible apply awp_cond); (focus (simp only [St.ev, St.set, upd, Nat.reduceEqDiff, reduceIte, if_false, if_true, hA, Nat.add_eq_left, Nat.left_eq_add, Nat.add_assoc, Nat.reduceAdd, if_false, if_true]; exact rfl)); all_goals (intro hb; first | (cases hb; done) | ((try rw [hb]); (try simp only [decide_eq_true_eq, decide_eq_false_iff_not, beq_iff_eq, bne_iff_ne, beq_eq_false_iff_ne, bne_eq_false_iff_eq, Int.not_lt, Int.not_le, Bool.not_eq_true', Bool.not_eq_false'] at hb)))) | (simp only [doneH]; simp only [ressK, resK, wrapR, go_sem, Nat.reduceAdd, Nat.reduceMul, Nat.reduceEqDiff, Nat.reduceLT, reduceIte, reduceCtorEq, hA, Nat.add_eq_left, Nat.left_eq_add, Nat.add_assoc, Nat.reduceAdd, if_false, if_true]) | fail)
    exact hQ N hN
  | true =>
    have hV := hv.1 rfl
    have hcap := orO_cap z fs
    obtain ⟨d, rfl⟩ : ∃ d : Nat, z = d := ⟨z.toNat, by have := hV.1; omega⟩
    have hd5 : d ≤ 5 := by have := hV.1; omega
    have hi : itemsIn d fs := by have := hV.2.2.1; rwa [Int.toNat_natCast] at this
    have h20 := hV.2.1
    have hord := ordersOf_sat hd5 (fun i j => wT fs d i j) d
    have m1 : (A = N) = False := eq_false (by omega)
    have m2 : ∀ k, (A = N + k) = False := fun k => eq_false (by omega)
    have m3 : (N = A) = False := eq_false (by omega)
    have m4 : ∀ k, (N + k = A) = False := fun k => eq_false (by omega)


    repeat' (first | refine awp_seq_k fun K hK => ?_ | ((with_reducible refine hK _ ?_); clear hK K) | ((with_reducible refine aord_plain fun K hK => ?_); simp only [go_sem, Nat.reduceAdd, Nat.reduceMul, Nat.reduceEqDiff, Nat.reduceLT, reduceIte, reduceCtorEq, hA, m1, m2, m3, m4, Nat.add_eq_left, Nat.left_eq_add, Nat.add_assoc, Nat.reduceAdd, if_false, if_true, hA, m1, m2, m3, m4, mat.matL]) | ((first | with_reducible refine aord_nil ?_ | refine awp_skip ?_ | refine awp_exit ?_ | refine awp_ret ?_); try simp only [thenA_normal, thenA_exit, thenA_goto, thenA_ret, blockA_normal, blockA_same, blockA_exit, blockA_goto, blockA_ret, Nat.reduceEqDiff, if_false, if_true, reduceIte]) | (refine awp_region tabOk rfl ?_; simp only [prep, pickO, List.map_cons, List.map_nil, List.getElem?_toArray, List.getElem?_cons_succ, List.getElem?_cons_zero, Option.bind_some, Option.map_some]) | ((with_reducible apply awp_cond); (focus (simp only [St.ev, St.set, upd, Nat.reduceEqDiff, reduceIte, if_false, if_true, hA, m1, m2, m3, m4, Nat.add_eq_left, Nat.left_eq_add, Nat.add_assoc, Nat.reduceAdd, if_false, if_true]; exact rfl)); all_goals (intro hb; first | (cases hb; done) | ((try rw [hb]); (try simp only [decide_eq_true_eq, decide_eq_false_iff_not, beq_iff_eq, bne_iff_ne, beq_eq_false_iff_ne, bne_eq_false_iff_eq, Int.not_lt, Int.not_le, Bool.not_eq_true', Bool.not_eq_false'] at hb)))) | ((with_reducible refine And.intro ?_ ?_); (focus omega)) | ((with_reducible refine And.intro (?_ : enters Try.prog 46) ?_); (focus exact Try.call46); (refine callX_satH specReach_sat ?_); simp only [go_sem, and_assoc, List.nil_append, List.append_nil, List.cons_append, Nat.reduceEqDiff, reduceIte, reduceCtorEq, hA, m1, m2, m3, m4, Nat.add_eq_left, Nat.left_eq_add, Nat.add_assoc, Nat.reduceAdd, if_false, if_true, hA, m1, m2, m3, m4, mat.matL]) | fail)
    refine ⟨d, rfl, b, fs, rfl, rfl, rfl, hd5, by omega, hi, fun H M O f hM hfr hNM hNO => ?_⟩
    have HN : H N = some ⟨true, .ints .i64 []⟩ := (hfr N (by omega)).trans (if_pos rfl)


    repeat' (first | ((with_reducible refine hK _ ?_); clear hK K) | ((with_reducible refine aord_plain fun K hK => ?_); simp only [go_sem, Nat.reduceAdd, Nat.reduceMul, Nat.reduceEqDiff, Nat.reduceLT, reduceIte, reduceCtorEq, HN, Nat.add_eq_left, Nat.left_eq_add, Nat.add_assoc, Nat.reduceAdd, if_false, if_true, HN, mat.matL]) | ((with_reducible refine And.intro (?_ : enters Try.prog 45) ?_); (focus exact Try.call45); (refine callX_satH hord ?_); simp only [go_sem, and_assoc, List.nil_append, List.append_nil, List.cons_append, Nat.reduceEqDiff, reduceIte, reduceCtorEq, HN, Nat.add_eq_left, Nat.left_eq_add, Nat.add_assoc, Nat.reduceAdd, if_false, if_true, HN, mat.matL]) | fail)
    refine ⟨O, true, [], rfl, rfl, rfl, rfl, f, hM, Beg.nil, by simp, by rw [← orO_yes hV]; exact hcap, fun H2 N2 P2 g2 r1 r2 r3 r4 => ?_⟩
    rw [← orO_yes hV] at r1 r4 ⊢
    have hPN := r1.outn
    have hdrop : ∀ (o : Nat) (ob : Ob), h o = some ob → H2 o = some ob := fun o ob ho => by rw [r2 o (by have := (hcl o _ ho).1; omega), hfr o (by have := (hcl o _ ho).1; omega), if_neg (by have := (hcl o _ ho).1; omega)]; exact ho
    rcases Nat.lt_or_ge (orO d fs).length 2 with h2 | h2
    · have e1 : decide ((((orO d fs).length : Nat) : Int) < 2) = true := decide_eq_true (by omega)
      rw [bqA_no (fun h => by omega)] at hQ


      repeat' ((fail_if_success (with_reducible refine isRetQ ?_)); (first | refine awp_seq_k fun K hK => ?_ | ((with_reducible refine hK _ ?_); clear hK K) | ((with_reducible refine aord_plain fun K hK => ?_); simp only [go_sem, Nat.reduceAdd, Nat.reduceMul, Nat.reduceEqDiff, Nat.reduceLT, reduceIte, reduceCtorEq, e1, Nat.add_eq_left, Nat.left_eq_add, Nat.add_assoc, Nat.reduceAdd, if_false, if_true, mat.matL, e1]) | ((first | with_reducible refine aord_nil ?_ | refine awp_skip ?_ | refine awp_exit ?_ | refine awp_ret ?_); try simp only [thenA_normal, thenA_exit, thenA_goto, thenA_ret, blockA_normal, blockA_same, blockA_exit, blockA_goto, blockA_ret, Nat.reduceEqDiff, if_false, if_true, reduceIte]) | (refine awp_region tabOk rfl ?_; simp only [prep, pickO, List.map_cons, List.map_nil, List.getElem?_toArray, List.getElem?_cons_succ, List.getElem?_cons_zero, Option.bind_some, Option.map_some]) | ((with_reducible apply awp_cond); (focus (simp only [St.ev, St.set, upd, Nat.reduceEqDiff, reduceIte, if_false, if_true, e1, Nat.add_eq_left, Nat.left_eq_add, Nat.add_assoc, Nat.reduceAdd, if_false, if_true]; exact rfl)); all_goals (intro hb; first | (cases hb; done) | ((try rw [hb]); (try simp only [decide_eq_true_eq, decide_eq_false_iff_not, beq_iff_eq, bne_iff_ne, beq_eq_false_iff_ne, bne_eq_false_iff_eq, Int.not_lt, Int.not_le, Bool.not_eq_true', Bool.not_eq_false'] at hb)))) | fail))
      refine awp_weaken (s' := ⟨upd (upd (upd bot 6 (.val (.bool false))) 5 (.val (.int .i64 0))) 4 (.val (.int .i64 0)), h, N2⟩) (Wk.sub (tsd (tsd (tsd tsd0 rfl) rfl) rfl) hdrop rfl) ?_
      repeat' (first | ((first | with_reducible refine aord_nil ?_ | refine awp_skip ?_ | refine awp_exit ?_ | refine awp_ret ?_); try simp only [thenA_normal, thenA_exit, thenA_goto, thenA_ret, blockA_normal, blockA_same, blockA_exit, blockA_goto, blockA_ret, Nat.reduceEqDiff, if_false, if_true, reduceIte]) | (simp only [doneH]; simp only [ressK, resK, wrapR, go_sem, Nat.reduceAdd, Nat.reduceMul, Nat.reduceEqDiff, Nat.reduceLT, reduceIte, reduceCtorEq, e1, Nat.add_eq_left, Nat.left_eq_add, Nat.add_assoc, Nat.reduceAdd, if_false, if_true]) | fail)
      exact hQ N2 (by omega)
    · have e1 : decide ((((orO d fs).length : Nat) : Int) < 2) = false := decide_eq_false (by omega)
      rw [bqA_yes hV h2, bq_same (s := (0, 0, ((orO d fs).length : Int))) (t := (-1, -1, ((orO d fs).length : Int))) hV h2 rfl rfl] at hQ


      repeat' (first | refine awp_seq_k fun K hK => ?_ | ((with_reducible refine hK _ ?_); clear hK K) | ((with_reducible refine aord_plain fun K hK => ?_); simp only [go_sem, Nat.reduceAdd, Nat.reduceMul, Nat.reduceEqDiff, Nat.reduceLT, reduceIte, reduceCtorEq, e1, Nat.add_eq_left, Nat.left_eq_add, Nat.add_assoc, Nat.reduceAdd, if_false, if_true, mat.matL, e1]) | ((first | with_reducible refine aord_nil ?_ | refine awp_skip ?_ | refine awp_exit ?_ | refine awp_ret ?_); try simp only [thenA_normal, thenA_exit, thenA_goto, thenA_ret, blockA_normal, blockA_same, blockA_exit, blockA_goto, blockA_ret, Nat.reduceEqDiff, if_false, if_true, reduceIte]) | (refine awp_region tabOk rfl ?_; simp only [prep, pickO, List.map_cons, List.map_nil, List.getElem?_toArray, List.getElem?_cons_succ, List.getElem?_cons_zero, Option.bind_some, Option.map_some]) | ((with_reducible apply awp_cond); (focus (simp only [St.ev, St.set, upd, Nat.reduceEqDiff, reduceIte, if_false, if_true, e1, Nat.add_eq_left, Nat.left_eq_add, Nat.add_assoc, Nat.reduceAdd, if_false, if_true]; exact rfl)); all_goals (intro hb; first | (cases hb; done) | ((try rw [hb]); (try simp only [decide_eq_true_eq, decide_eq_false_iff_not, beq_iff_eq, bne_iff_ne, beq_eq_false_iff_ne, bne_eq_false_iff_eq, Int.not_lt, Int.not_le, Bool.not_eq_true', Bool.not_eq_false'] at hb)))) | ((with_reducible refine And.intro (?_ : enters Try.prog 47) ?_); (focus exact Try.call47); (refine callX_satH specBestQ_sat ?_); simp only [go_sem, and_assoc, List.nil_append, List.append_nil, List.cons_append, Nat.reduceEqDiff, reduceIte, reduceCtorEq, e1, Nat.add_eq_left, Nat.left_eq_add, Nat.add_assoc, Nat.reduceAdd, if_false, if_true, mat.matL, e1]) | fail)
      refine ⟨d, rfl, g2, fs, rfl, r1, hV, ?_⟩
      repeat' ((fail_if_success (with_reducible refine isRetQ ?_)); (first | refine awp_seq_k fun K hK => ?_ | ((with_reducible refine hK _ ?_); clear hK K) | ((with_reducible refine aord_plain fun K hK => ?_); simp only [go_sem, Nat.reduceAdd, Nat.reduceMul, Nat.reduceEqDiff, Nat.reduceLT, reduceIte, reduceCtorEq, e1, Nat.add_eq_left, Nat.left_eq_add, Nat.add_assoc, Nat.reduceAdd, if_false, if_true, mat.matL, e1]) | ((first | with_reducible refine aord_nil ?_ | refine awp_skip ?_ | refine awp_exit ?_ | refine awp_ret ?_); try simp only [thenA_normal, thenA_exit, thenA_goto, thenA_ret, blockA_normal, blockA_same, blockA_exit, blockA_goto, blockA_ret, Nat.reduceEqDiff, if_false, if_true, reduceIte]) | (refine awp_region tabOk rfl ?_; simp only [prep, pickO, List.map_cons, List.map_nil, List.getElem?_toArray, List.getElem?_cons_succ, List.getElem?_cons_zero, Option.bind_some, Option.map_some]) | fail))
      refine awp_weaken (s' := ⟨upd (upd (upd bot 6 (.val (.bool true))) 5 (.val (.int .i64 (bqTo (orO d fs) d d (-1, -1, ((orO d fs).length : Int))).2.1))) 4 (.val (.int .i64 (bqTo (orO d fs) d d (-1, -1, ((orO d fs).length : Int))).1)), h, N2⟩) (Wk.sub (tsd (tsd (tsd tsd0 rfl) rfl) rfl) hdrop rfl) ?_
      repeat' (first | ((first | with_reducible refine aord_nil ?_ | refine awp_skip ?_ | refine awp_exit ?_ | refine awp_ret ?_); try simp only [thenA_normal, thenA_exit, thenA_goto, thenA_ret, blockA_normal, blockA_same, blockA_exit, blockA_goto, blockA_ret, Nat.reduceEqDiff, if_false, if_true, reduceIte]) | (simp only [doneH]; simp only [ressK, resK, wrapR, go_sem, Nat.reduceAdd, Nat.reduceMul, Nat.reduceEqDiff, Nat.reduceLT, reduceIte, reduceCtorEq, e1, Nat.add_eq_left, Nat.left_eq_add, Nat.add_assoc, Nat.reduceAdd, if_false, if_true]) | fail)
      exact hQ N2 (by omega)

-- walk_lawF factsIn_row i64r_of
theorem FnExactBestQuestion_satF : SatH Try.prog 8 (fun al h n K => ∃ (z : Int) (A : Nat) (b : Bool) (fs : List (Int × Int)), al = [.val (.int .i64 (z)), .sl A 0 fs.length 2 none] ∧ (h A = some ⟨b, .ints .i64 (flF fs)⟩) ∧ (i64r z) ∧ (fs.length ≤ 9223372036854775807) ∧ ∀ (H : Hp) (N : Nat), K (.val (.bool (true))) (H) (N)) := by
  refine satH_intro tabOk Try.func8 rfl 53 rfl [.tmp 4] rfl ?_
  rintro F W h n al K0 ⟨z, A, b, fs, rfl, hA, hz, hl, hQ⟩
  refine ⟨Nat.le_of_ble_eq_true rfl, fun m0 hm0 hcl hlt => ?_⟩
  simp only [initT]
  have hAn := (hcl A _ hA).1
  have hfl := flF_len fs
  have a1 : (A = n) = False := eq_false (by omega)
  have a2 : (n = A) = False := eq_false (by omega)
  have hlt2 := hlt
  rcases Nat.lt_or_ge 1048576 fs.length with hbig | hsm
  · have e0 : (if (1048576 : Int) < (fs.length : Int) then (-1 : Int) else 1048576 - fs.length) = -1 := if_pos (by omega)


    repeat' (first | refine awp_seq_k fun K hK => ?_ | ((with_reducible refine hK _ ?_); clear hK K) | ((with_reducible refine aord_plain fun K hK => ?_); simp only [go_sem, Nat.reduceAdd, Nat.reduceMul, Nat.reduceEqDiff, Nat.reduceLT, reduceIte, reduceCtorEq, hA, a1, a2, e0, Nat.add_eq_left, Nat.left_eq_add, Nat.add_assoc, Nat.reduceAdd, if_false, if_true, hA, e0, mat.matL]) | ((first | with_reducible refine aord_nil ?_ | refine awp_skip ?_ | refine awp_exit ?_ | refine awp_ret ?_); try simp only [thenA_normal, thenA_exit, thenA_goto, thenA_ret, blockA_normal, blockA_same, blockA_exit, blockA_goto, blockA_ret, Nat.reduceEqDiff, if_false, if_true, reduceIte]) | (refine awp_region tabOk rfl ?_; simp only [prep, pickO, List.map_cons, List.map_nil, List.getElem?_toArray, List.getElem?_cons_succ, List.getElem?_cons_zero, Option.bind_some, Option.map_some]) | ((with_reducible apply awp_cond); (focus (simp only [St.ev, St.set, upd, Nat.reduceEqDiff, reduceIte, if_false, if_true, hA, a1, a2, e0, Nat.add_eq_left, Nat.left_eq_add, Nat.add_assoc, Nat.reduceAdd, if_false, if_true]; exact rfl)); all_goals (intro hb; first | (cases hb; done) | ((try rw [hb]); (try simp only [decide_eq_true_eq, decide_eq_false_iff_not, beq_iff_eq, bne_iff_ne, beq_eq_false_iff_ne, bne_eq_false_iff_eq, Int.not_lt, Int.not_le, Bool.not_eq_true', Bool.not_eq_false'] at hb)))) | ((with_reducible refine And.intro ?_ ?_); (focus omega)) | ((with_reducible refine And.intro (?_ : enters Try.prog 35) ?_); (focus exact Try.call35); (refine callX_satH szFactS_sat ?_); simp only [go_sem, and_assoc, List.nil_append, List.append_nil, List.cons_append, Nat.reduceEqDiff, reduceIte, reduceCtorEq, hA, a1, a2, e0, Nat.add_eq_left, Nat.left_eq_add, Nat.add_assoc, Nat.reduceAdd, if_false, if_true, hA, e0, mat.matL]) | (simp only [doneH]; simp only [ressK, resK, wrapR, go_sem, Nat.reduceAdd, Nat.reduceMul, Nat.reduceEqDiff, Nat.reduceLT, reduceIte, reduceCtorEq, hA, a1, a2, e0, Nat.add_eq_left, Nat.left_eq_add, Nat.add_assoc, Nat.reduceAdd, if_false, if_true]) | fail)
    exact hQ _ _
  · have e0 : (if (1048576 : Int) < (fs.length : Int) then (-1 : Int) else 1048576 - fs.length) = 1048576 - fs.length := if_neg (by omega)


    repeat' (first | refine awp_seq_k fun K hK => ?_ | ((with_reducible refine hK _ ?_); clear hK K) | ((with_reducible refine aord_plain fun K hK => ?_); simp only [go_sem, Nat.reduceAdd, Nat.reduceMul, Nat.reduceEqDiff, Nat.reduceLT, reduceIte, reduceCtorEq, hA, a1, a2, e0, Nat.add_eq_left, Nat.left_eq_add, Nat.add_assoc, Nat.reduceAdd, if_false, if_true, hA, e0, mat.matL]) | ((first | with_reducible refine aord_nil ?_ | refine awp_skip ?_ | refine awp_exit ?_ | refine awp_ret ?_); try simp only [thenA_normal, thenA_exit, thenA_goto, thenA_ret, blockA_normal, blockA_same, blockA_exit, blockA_goto, blockA_ret, Nat.reduceEqDiff, if_false, if_true, reduceIte]) | (refine awp_region tabOk rfl ?_; simp only [prep, pickO, List.map_cons, List.map_nil, List.getElem?_toArray, List.getElem?_cons_succ, List.getElem?_cons_zero, Option.bind_some, Option.map_some]) | ((with_reducible apply awp_cond); (focus (simp only [St.ev, St.set, upd, Nat.reduceEqDiff, reduceIte, if_false, if_true, hA, a1, a2, e0, Nat.add_eq_left, Nat.left_eq_add, Nat.add_assoc, Nat.reduceAdd, if_false, if_true]; exact rfl)); all_goals (intro hb; first | (cases hb; done) | ((try rw [hb]); (try simp only [decide_eq_true_eq, decide_eq_false_iff_not, beq_iff_eq, bne_iff_ne, beq_eq_false_iff_ne, bne_eq_false_iff_eq, Int.not_lt, Int.not_le, Bool.not_eq_true', Bool.not_eq_false'] at hb)))) | ((with_reducible refine And.intro ?_ ?_); (focus omega)) | ((with_reducible refine And.intro (?_ : enters Try.prog 35) ?_); (focus exact Try.call35); (refine callX_satH szFactS_sat ?_); simp only [go_sem, and_assoc, List.nil_append, List.append_nil, List.cons_append, Nat.reduceEqDiff, reduceIte, reduceCtorEq, hA, a1, a2, e0, Nat.add_eq_left, Nat.left_eq_add, Nat.add_assoc, Nat.reduceAdd, if_false, if_true, hA, e0, mat.matL]) | ((with_reducible refine And.intro (?_ : enters Try.prog 36) ?_); (focus exact Try.call36); (refine callX_satH toFactS_sat ?_); simp only [go_sem, and_assoc, List.nil_append, List.append_nil, List.cons_append, Nat.reduceEqDiff, reduceIte, reduceCtorEq, hA, a1, a2, e0, Nat.add_eq_left, Nat.left_eq_add, Nat.add_assoc, Nat.reduceAdd, if_false, if_true, hA, e0, mat.matL]) | (simp only [doneH]; simp only [ressK, resK, wrapR, go_sem, Nat.reduceAdd, Nat.reduceMul, Nat.reduceEqDiff, Nat.reduceLT, reduceIte, reduceCtorEq, hA, a1, a2, e0, Nat.add_eq_left, Nat.left_eq_add, Nat.add_assoc, Nat.reduceAdd, if_false, if_true]) | (exfalso; omega) | fail)
    refine ⟨b, fs, rfl, rfl, rfl, hsm, ?_⟩
    repeat' (first | ((with_reducible refine hK _ ?_); clear hK K) | ((with_reducible refine aord_plain fun K hK => ?_); simp only [go_sem, Nat.reduceAdd, Nat.reduceMul, Nat.reduceEqDiff, Nat.reduceLT, reduceIte, reduceCtorEq, hA, a1, a2, e0, Nat.add_eq_left, Nat.left_eq_add, Nat.add_assoc, Nat.reduceAdd, if_false, if_true, hA, e0, mat.matL]) | ((with_reducible refine And.intro (?_ : enters Try.prog 14) ?_); (focus exact Try.call14); (refine callX_satH specBestQuestion_sat ?_); simp only [go_sem, and_assoc, List.nil_append, List.append_nil, List.cons_append, Nat.reduceEqDiff, reduceIte, reduceCtorEq, hA, a1, a2, e0, Nat.add_eq_left, Nat.left_eq_add, Nat.add_assoc, Nat.reduceAdd, if_false, if_true, hA, e0, mat.matL]) | fail)
    refine ⟨true, fs, rfl, rfl, rfl, by omega, fun N hN => ?_⟩
    have c1 : (A = N) = False := eq_false (by omega)
    have c2 : (N = A) = False := eq_false (by omega)
    have c3 : (n = N) = False := eq_false (by omega)
    have c4 : (N = n) = False := eq_false (by omega)


    repeat' (first | refine awp_seq_k fun K hK => ?_ | ((with_reducible refine hK _ ?_); clear hK K) | ((with_reducible refine aord_plain fun K hK => ?_); simp only [go_sem, Nat.reduceAdd, Nat.reduceMul, Nat.reduceEqDiff, Nat.reduceLT, reduceIte, reduceCtorEq, hA, a1, a2, c1, c2, c3, c4, Nat.add_eq_left, Nat.left_eq_add, Nat.add_assoc, Nat.reduceAdd, if_false, if_true, hA, mat.matL]) | ((first | with_reducible refine aord_nil ?_ | refine awp_skip ?_ | refine awp_exit ?_ | refine awp_ret ?_); try simp only [thenA_normal, thenA_exit, thenA_goto, thenA_ret, blockA_normal, blockA_same, blockA_exit, blockA_goto, blockA_ret, Nat.reduceEqDiff, if_false, if_true, reduceIte]) | (refine awp_region tabOk rfl ?_; simp only [prep, pickO, List.map_cons, List.map_nil, List.getElem?_toArray, List.getElem?_cons_succ, List.getElem?_cons_zero, Option.bind_some, Option.map_some]) | ((with_reducible refine And.intro (?_ : enters Try.prog 36) ?_); (focus exact Try.call36); (refine callX_satH toFactS_sat ?_); simp only [go_sem, and_assoc, List.nil_append, List.append_nil, List.cons_append, Nat.reduceEqDiff, reduceIte, reduceCtorEq, hA, a1, a2, c1, c2, c3, c4, Nat.add_eq_left, Nat.left_eq_add, Nat.add_assoc, Nat.reduceAdd, if_false, if_true, hA, mat.matL]) | fail)
    refine ⟨b, fs, rfl, rfl, rfl, hsm, ?_⟩
    repeat' (first | refine awp_seq_k fun K hK => ?_ | ((with_reducible refine hK _ ?_); clear hK K) | ((with_reducible refine aord_plain fun K hK => ?_); simp only [go_sem, Nat.reduceAdd, Nat.reduceMul, Nat.reduceEqDiff, Nat.reduceLT, reduceIte, reduceCtorEq, hA, a1, a2, c1, c2, c3, c4, Nat.add_eq_left, Nat.left_eq_add, Nat.add_assoc, Nat.reduceAdd, if_false, if_true, hA, mat.matL]) | ((first | with_reducible refine aord_nil ?_ | refine awp_skip ?_ | refine awp_exit ?_ | refine awp_ret ?_); try simp only [thenA_normal, thenA_exit, thenA_goto, thenA_ret, blockA_normal, blockA_same, blockA_exit, blockA_goto, blockA_ret, Nat.reduceEqDiff, if_false, if_true, reduceIte]) | (refine awp_region tabOk rfl ?_; simp only [prep, pickO, List.map_cons, List.map_nil, List.getElem?_toArray, List.getElem?_cons_succ, List.getElem?_cons_zero, Option.bind_some, Option.map_some]) | ((with_reducible refine And.intro (?_ : enters Try.prog 13) ?_); (focus exact Try.call13); (refine callX_satH implBestQ_sat ?_); simp only [go_sem, and_assoc, List.nil_append, List.append_nil, List.cons_append, Nat.reduceEqDiff, reduceIte, reduceCtorEq, hA, a1, a2, c1, c2, c3, c4, Nat.add_eq_left, Nat.left_eq_add, Nat.add_assoc, Nat.reduceAdd, if_false, if_true, hA, mat.matL]) | fail)
    refine ⟨true, fs, rfl, rfl, rfl, by omega, fun N2 hN2 => ?_⟩
    have d1 : (A = N2) = False := eq_false (by omega)
    have d2 : (N2 = A) = False := eq_false (by omega)
    have d3 : (n = N2) = False := eq_false (by omega)
    have d4 : (N2 = n) = False := eq_false (by omega)
    have d5 : (N = N2) = False := eq_false (by omega)
    have d6 : (N2 = N) = False := eq_false (by omega)
    have eb : ((bqA z fs).1 != (bqA z fs).1) = false := bne_self_eq_false _
    have eb2 : ((bqA z fs).2.1 != (bqA z fs).2.1) = false := bne_self_eq_false _
    have eb3 : ((bqA z fs).2.2 != (bqA z fs).2.2) = false := bne_self_eq_false _
    have ef : decide (fs = fs) = true := decide_eq_true rfl


    repeat' (first | refine awp_seq_k fun K hK => ?_ | ((with_reducible refine hK _ ?_); clear hK K) | ((with_reducible refine aord_plain fun K hK => ?_); simp only [go_sem, Nat.reduceAdd, Nat.reduceMul, Nat.reduceEqDiff, Nat.reduceLT, reduceIte, reduceCtorEq, hA, a1, a2, c1, c2, c3, c4, d1, d2, d3, d4, d5, d6, eb, eb2, eb3, ef, Nat.add_eq_left, Nat.left_eq_add, Nat.add_assoc, Nat.reduceAdd, if_false, if_true, hA, eb, eb2, eb3, ef, mat.matL]) | ((with_reducible apply aord_guard); (focus (simp only [St.ev, St.set, upd, Nat.reduceEqDiff, reduceIte, if_false, if_true, hA, a1, a2, c1, c2, c3, c4, d1, d2, d3, d4, d5, d6, eb, eb2, eb3, ef, Nat.add_eq_left, Nat.left_eq_add, Nat.add_assoc, Nat.reduceAdd, if_false, if_true]; exact rfl)); all_goals (intro hb; (try simp only [Bool.not_true, Bool.not_false] at hb); first | (cases hb; done) | ((try rw [hb]); (try simp only [Bool.not_eq_true', Bool.not_eq_false', Bool.and_eq_true, decide_eq_true_eq, decide_eq_false_iff_not, beq_iff_eq, bne_iff_ne, beq_eq_false_iff_ne, bne_eq_false_iff_eq, Int.not_lt, Int.not_le] at hb); (try (revert hb; with_reducible refine true_imp_iff.2 ?_)); first | (intro K hK; simp only [go_sem, Nat.reduceAdd, Nat.reduceMul, Nat.reduceEqDiff, Nat.reduceLT, reduceIte, reduceCtorEq, hA, a1, a2, c1, c2, c3, c4, d1, d2, d3, d4, d5, d6, eb, eb2, eb3, ef, Nat.add_eq_left, Nat.left_eq_add, Nat.add_assoc, Nat.reduceAdd, if_false, if_true]) | (simp only [St.ev, St.set, upd, Nat.reduceEqDiff, reduceIte, if_false, if_true, hA, a1, a2, c1, c2, c3, c4, d1, d2, d3, d4, d5, d6, eb, eb2, eb3, ef, Nat.add_eq_left, Nat.left_eq_add, Nat.add_assoc, Nat.reduceAdd, if_false, if_true]) | skip))) | ((first | with_reducible refine aord_nil ?_ | refine awp_skip ?_ | refine awp_exit ?_ | refine awp_ret ?_); try simp only [thenA_normal, thenA_exit, thenA_goto, thenA_ret, blockA_normal, blockA_same, blockA_exit, blockA_goto, blockA_ret, Nat.reduceEqDiff, if_false, if_true, reduceIte]) | (refine awp_region tabOk rfl ?_; simp only [prep, pickO, List.map_cons, List.map_nil, List.getElem?_toArray, List.getElem?_cons_succ, List.getElem?_cons_zero, Option.bind_some, Option.map_some]) | ((with_reducible apply awp_cond); (focus (simp only [St.ev, St.set, upd, Nat.reduceEqDiff, reduceIte, if_false, if_true, hA, a1, a2, c1, c2, c3, c4, d1, d2, d3, d4, d5, d6, eb, eb2, eb3, ef, Nat.add_eq_left, Nat.left_eq_add, Nat.add_assoc, Nat.reduceAdd, if_false, if_true]; exact rfl)); all_goals (intro hb; first | (cases hb; done) | ((try rw [hb]); (try simp only [decide_eq_true_eq, decide_eq_false_iff_not, beq_iff_eq, bne_iff_ne, beq_eq_false_iff_ne, bne_eq_false_iff_eq, Int.not_lt, Int.not_le, Bool.not_eq_true', Bool.not_eq_false'] at hb)))) | ((with_reducible refine And.intro (?_ : enters Try.prog 36) ?_); (focus exact Try.call36); (refine callX_satH toFactS_sat ?_); simp only [go_sem, and_assoc, List.nil_append, List.append_nil, List.cons_append, Nat.reduceEqDiff, reduceIte, reduceCtorEq, hA, a1, a2, c1, c2, c3, c4, d1, d2, d3, d4, d5, d6, eb, eb2, eb3, ef, Nat.add_eq_left, Nat.left_eq_add, Nat.add_assoc, Nat.reduceAdd, if_false, if_true, hA, eb, eb2, eb3, ef, mat.matL]) | fail)
    refine ⟨b, fs, rfl, rfl, rfl, hsm, ?_⟩
    repeat' (first | ((with_reducible refine hK _ ?_); clear hK K) | ((with_reducible refine aord_plain fun K hK => ?_); simp only [go_sem, Nat.reduceAdd, Nat.reduceMul, Nat.reduceEqDiff, Nat.reduceLT, reduceIte, reduceCtorEq, hA, a1, a2, c1, c2, c3, c4, d1, d2, d3, d4, d5, d6, eb, eb2, eb3, ef, Nat.add_eq_left, Nat.left_eq_add, Nat.add_assoc, Nat.reduceAdd, if_false, if_true, hA, eb, eb2, eb3, ef, mat.matL]) | ((with_reducible refine And.intro (?_ : enters Try.prog 37) ?_); (focus exact Try.call37); (refine callX_satH eqFactS_sat ?_); simp only [go_sem, and_assoc, List.nil_append, List.append_nil, List.cons_append, Nat.reduceEqDiff, reduceIte, reduceCtorEq, hA, a1, a2, c1, c2, c3, c4, d1, d2, d3, d4, d5, d6, eb, eb2, eb3, ef, Nat.add_eq_left, Nat.left_eq_add, Nat.add_assoc, Nat.reduceAdd, if_false, if_true, hA, eb, eb2, eb3, ef, mat.matL]) | fail)
    refine ⟨N2, fs, rfl, rfl, fs, rfl, rfl, true, if_pos rfl, by omega, by omega, ?_⟩
    repeat' (first | refine awp_seq_k fun K hK => ?_ | ((with_reducible refine hK _ ?_); clear hK K) | ((with_reducible refine aord_plain fun K hK => ?_); simp only [go_sem, Nat.reduceAdd, Nat.reduceMul, Nat.reduceEqDiff, Nat.reduceLT, reduceIte, reduceCtorEq, hA, a1, a2, c1, c2, c3, c4, d1, d2, d3, d4, d5, d6, eb, eb2, eb3, ef, Nat.add_eq_left, Nat.left_eq_add, Nat.add_assoc, Nat.reduceAdd, if_false, if_true, hA, eb, eb2, eb3, ef, mat.matL]) | ((first | with_reducible refine aord_nil ?_ | refine awp_skip ?_ | refine awp_exit ?_ | refine awp_ret ?_); try simp only [thenA_normal, thenA_exit, thenA_goto, thenA_ret, blockA_normal, blockA_same, blockA_exit, blockA_goto, blockA_ret, Nat.reduceEqDiff, if_false, if_true, reduceIte]) | (refine awp_region tabOk rfl ?_; simp only [prep, pickO, List.map_cons, List.map_nil, List.getElem?_toArray, List.getElem?_cons_succ, List.getElem?_cons_zero, Option.bind_some, Option.map_some]) | ((with_reducible apply awp_cond); (focus (simp only [St.ev, St.set, upd, Nat.reduceEqDiff, reduceIte, if_false, if_true, hA, a1, a2, c1, c2, c3, c4, d1, d2, d3, d4, d5, d6, eb, eb2, eb3, ef, Nat.add_eq_left, Nat.left_eq_add, Nat.add_assoc, Nat.reduceAdd, if_false, if_true]; exact rfl)); all_goals (intro hb; first | (cases hb; done) | ((try rw [hb]); (try simp only [decide_eq_true_eq, decide_eq_false_iff_not, beq_iff_eq, bne_iff_ne, beq_eq_false_iff_ne, bne_eq_false_iff_eq, Int.not_lt, Int.not_le, Bool.not_eq_true', Bool.not_eq_false'] at hb)))) | (simp only [doneH]; simp only [ressK, resK, wrapR, go_sem, Nat.reduceAdd, Nat.reduceMul, Nat.reduceEqDiff, Nat.reduceLT, reduceIte, reduceCtorEq, hA, a1, a2, c1, c2, c3, c4, d1, d2, d3, d4, d5, d6, eb, eb2, eb3, ef, Nat.add_eq_left, Nat.left_eq_add, Nat.add_assoc, Nat.reduceAdd, if_false, if_true]) | fail)
    exact hQ _ _


theorem FnExactBestQuestion_pre {z : Int} {fs : List (Int × Int)} (hz : i64r z) (hl : fs.length ≤ 9223372036854775807) {K : AV → Hp → Nat → Prop} (hK : ∀ H N, K (.val (.bool true)) H N) : ∃ (z2 : Int) (A : Nat) (b : Bool) (fs2 : List (Int × Int)), [AV.val (.int .i64 z), .sl 0 0 fs.length 2 none] = [.val (.int .i64 z2), .sl A 0 fs2.length 2 none] ∧ (upd none' 0 (some ⟨false, .ints .i64 (flF fs)⟩)) A = some ⟨b, .ints .i64 (flF fs2)⟩ ∧ i64r z2 ∧ fs2.length ≤ 9223372036854775807 ∧ ∀ (H : Hp) (N : Nat), K (.val (.bool true)) H N :=
  ⟨z, 0, false, fs, rfl, upd_same _ _ _, hz, hl, hK⟩

end Go.Proofs.Ytacmgdaonacmeaa
