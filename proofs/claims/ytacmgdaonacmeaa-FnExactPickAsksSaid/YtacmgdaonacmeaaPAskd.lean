/- Contracts of functions of the program. -/
import Derived.Test.YtacmgdaonacmeaaPAskc
import Derived.ScopeJumps
namespace Go.Proofs.Ytacmgdaonacmeaa
open Go Go.Ab
set_option linter.all false
set_option maxHeartbeats 4000000

theorem specSplit_sat : SatH Try.prog 68 (fun al h n K => ∃ (O : Nat) (f : Nat → Nat) (xss : List (List Int)) (a c : Int), al = [.sl O 0 xss.length 1 none, .val (.int .i64 (a)), .val (.int .i64 (c))] ∧ (RowsOf h n O f xss) ∧ (xss.length ≤ 500) ∧ (∀ j, (xss.getD j []).length ≤ 1000) ∧ (a ≠ c) ∧ K (.tup [.val (.int .i64 (((xss.filter (ahP a c)).length : Nat) : Int)), .val (.int .i64 ((xss.length : Int) - (((xss.filter (ahP a c)).length : Nat) : Int)))]) (h) (n)) := by
  refine satH_intro tabOk Try.func68 rfl 30 rfl [.tmp 6, .tmp 7] rfl ?_
  rintro F W h n al K0 ⟨O, f, xss, a, c, rfl, hR, hxl, hx, hac, hQ⟩
  refine ⟨Nat.le_of_ble_eq_true rfl, fun m0 hm0 hcl hlt => ?_⟩
  simp only [initT]
  have hOn := hR.outn
  have hOr := hR.out
  have hsl := @slsN_len f xss 0


  repeat' (first | refine awp_seq_k fun K hK => ?_ | ((with_reducible refine hK _ ?_); clear hK K) | ((with_reducible refine aord_plain fun K hK => ?_); simp only [go_sem, Nat.reduceAdd, Nat.reduceMul, Nat.reduceEqDiff, Nat.reduceLT, reduceIte, reduceCtorEq, hOr, nmA, Nat.reduceAdd, ifA, ifB, hOr, hsl]) | refine awp_block ?_ | ((first | with_reducible refine aord_nil ?_ | refine awp_skip ?_ | refine awp_exit ?_ | refine awp_ret ?_); try simp only [rdA, Nat.reduceEqDiff, ifA, ifB, reduceIte]) | (refine awp_region tabOk rfl ?_; simp only [prep, pickO, lsA, lsB, lsC, lsD, lsE, lsF, lsG]) | fail)
  refine awp_loop (fun i : Nat => ⟨upd (upd (upd (upd (upd bot 9 (.val (.int .i64 i))) 8 (.val (.int .i64 ((((xss.take i).filter (ahP a c)).length : Nat) : Int)))) 2 (.val (.int .i64 c))) 1 (.val (.int .i64 a))) 0 (.sl O 0 xss.length 1 none), h, n⟩) (fun i => i ≤ xss.length) (fun i => xss.length - i) 0 (Nat.zero_le _) ?_ ?_
  · exact Wk.sub (tsd (tsd (tsd (tsd (tsd tsd0 rfl) rfl) rfl) rfl) rfl) (fun _ _ h => h) rfl
  intro i hix
  have hle := List.length_filter_le (ahP a c) (xss.take i)
  have hle2 : (xss.take i).length ≤ 500 := by rw [List.length_take]; omega
  rcases Nat.lt_or_ge i xss.length with hlt2 | hge
  · have hget := hR.get hlt2
    have hrow := hR.row i hlt2
    have hxi := hx i
    have htk : xss.take (i + 1) = xss.take i ++ [xss.getD i []] := by
      rw [List.take_succ_eq_append_getElem hlt2, List.getD_eq_getElem?_getD, List.getElem?_eq_getElem hlt2]; rfl
    cases hag : ahP a c (xss.getD i []) with
    | false =>
      have hfl2 : (xss.take (i + 1)).filter (ahP a c) = (xss.take i).filter (ahP a c) := by rw [htk, List.filter_append, List.filter_cons_of_neg (by rw [hag]; simp), List.filter_nil, List.append_nil]


      repeat' (first | refine awp_seq_k fun K hK => ?_ | ((with_reducible refine hK _ ?_); clear hK K) | (clear hK K; (with_reducible refine hK _ ?_); clear hK K) | ((with_reducible refine aord_plain fun K hK => ?_); simp only [go_sem, Nat.reduceAdd, Nat.reduceMul, Nat.reduceEqDiff, Nat.reduceLT, reduceIte, reduceCtorEq, hOr, hrow, hag, nmA, Nat.reduceAdd, ifA, ifB, hOr, hsl, hget, hrow, hag]) | refine awp_block ?_ | ((first | with_reducible refine aord_nil ?_ | refine awp_skip ?_ | refine awp_exit ?_ | refine awp_ret ?_); try simp only [rdA, Nat.reduceEqDiff, ifA, ifB, reduceIte]) | (refine awp_region tabOk rfl ?_; simp only [prep, pickO, lsA, lsB, lsC, lsD, lsE, lsF, lsG]) | ((with_reducible apply awp_cond); (focus (simp only [St.ev, St.set, upd, Nat.reduceEqDiff, reduceIte, ifA, ifB, hOr, hrow, hag, nmA, Nat.reduceAdd, ifA, ifB]; exact rfl)); all_goals (intro hb; first | (cases hb; done) | ((try rw [hb]); (try simp only [dcA, dcB, dcC, dcD, dcE, Bool.not_eq_true', Bool.not_eq_false'] at hb)))) | ((with_reducible refine And.intro ?_ ?_); (focus omega)) | ((with_reducible refine And.intro (?_ : enters Try.prog 84) ?_); (focus exact Try.call84); (refine callX_sat ahead_sat ?_); simp only [go_sem, and_assoc, List.nil_append, List.append_nil, List.cons_append, Nat.reduceEqDiff, reduceIte, reduceCtorEq, hOr, hrow, hag, nmA, Nat.reduceAdd, ifA, ifB, hOr, hsl, hget, hrow, hag]) | (simp only [doneH]; simp only [ressK, resK, wrapR, go_sem, Nat.reduceAdd, Nat.reduceMul, Nat.reduceEqDiff, Nat.reduceLT, reduceIte, reduceCtorEq, hOr, hrow, hag, nmA, Nat.reduceAdd, ifA, ifB]) | (exfalso; omega) | fail)
      refine ⟨i + 1, by omega, by omega, Wk.sub (tsd (tsd (tsd (tsd (tsd tsd0 rfl) (by rw [hfl2]; rfl)) rfl) rfl) rfl) (fun _ _ h => h) rfl⟩
    | true =>
      have hfl2 : ((xss.take (i + 1)).filter (ahP a c)).length = ((xss.take i).filter (ahP a c)).length + 1 := by rw [htk, List.filter_append, List.filter_cons_of_pos hag, List.filter_nil, List.length_append]; rfl


      repeat' (first | refine awp_seq_k fun K hK => ?_ | ((with_reducible refine hK _ ?_); clear hK K) | (clear hK K; (with_reducible refine hK _ ?_); clear hK K) | ((with_reducible refine aord_plain fun K hK => ?_); simp only [go_sem, Nat.reduceAdd, Nat.reduceMul, Nat.reduceEqDiff, Nat.reduceLT, reduceIte, reduceCtorEq, hOr, hrow, hag, nmA, Nat.reduceAdd, ifA, ifB, hOr, hsl, hget, hrow, hag]) | refine awp_block ?_ | ((first | with_reducible refine aord_nil ?_ | refine awp_skip ?_ | refine awp_exit ?_ | refine awp_ret ?_); try simp only [rdA, Nat.reduceEqDiff, ifA, ifB, reduceIte]) | (refine awp_region tabOk rfl ?_; simp only [prep, pickO, lsA, lsB, lsC, lsD, lsE, lsF, lsG]) | ((with_reducible apply awp_cond); (focus (simp only [St.ev, St.set, upd, Nat.reduceEqDiff, reduceIte, ifA, ifB, hOr, hrow, hag, nmA, Nat.reduceAdd, ifA, ifB]; exact rfl)); all_goals (intro hb; first | (cases hb; done) | ((try rw [hb]); (try simp only [dcA, dcB, dcC, dcD, dcE, Bool.not_eq_true', Bool.not_eq_false'] at hb)))) | ((with_reducible refine And.intro ?_ ?_); (focus omega)) | ((with_reducible refine And.intro (?_ : enters Try.prog 84) ?_); (focus exact Try.call84); (refine callX_sat ahead_sat ?_); simp only [go_sem, and_assoc, List.nil_append, List.append_nil, List.cons_append, Nat.reduceEqDiff, reduceIte, reduceCtorEq, hOr, hrow, hag, nmA, Nat.reduceAdd, ifA, ifB, hOr, hsl, hget, hrow, hag]) | (simp only [doneH]; simp only [ressK, resK, wrapR, go_sem, Nat.reduceAdd, Nat.reduceMul, Nat.reduceEqDiff, Nat.reduceLT, reduceIte, reduceCtorEq, hOr, hrow, hag, nmA, Nat.reduceAdd, ifA, ifB]) | (exfalso; omega) | fail)
      refine ⟨i + 1, by omega, by omega, Wk.sub (tsd (tsd (tsd (tsd (tsd tsd0 rfl) (by rw [hfl2]; rfl)) rfl) rfl) rfl) (fun _ _ h => h) rfl⟩
  · have ei : i = xss.length := by omega
    subst ei
    rw [List.take_length] at hle ⊢


    repeat' (first | refine awp_seq_k fun K hK => ?_ | ((with_reducible refine hK _ ?_); clear hK K) | (clear hK K; (with_reducible refine hK _ ?_); clear hK K) | ((with_reducible refine aord_plain fun K hK => ?_); simp only [go_sem, Nat.reduceAdd, Nat.reduceMul, Nat.reduceEqDiff, Nat.reduceLT, reduceIte, reduceCtorEq, hOr, nmA, Nat.reduceAdd, ifA, ifB, hOr, hsl]) | refine awp_block ?_ | ((first | with_reducible refine aord_nil ?_ | refine awp_skip ?_ | refine awp_exit ?_ | refine awp_ret ?_); try simp only [rdA, Nat.reduceEqDiff, ifA, ifB, reduceIte]) | (refine awp_region tabOk rfl ?_; simp only [prep, pickO, lsA, lsB, lsC, lsD, lsE, lsF, lsG]) | ((with_reducible apply awp_cond); (focus (simp only [St.ev, St.set, upd, Nat.reduceEqDiff, reduceIte, ifA, ifB, hOr, nmA, Nat.reduceAdd, ifA, ifB]; exact rfl)); all_goals (intro hb; first | (cases hb; done) | ((try rw [hb]); (try simp only [dcA, dcB, dcC, dcD, dcE, Bool.not_eq_true', Bool.not_eq_false'] at hb)))) | ((with_reducible refine And.intro ?_ ?_); (focus omega)) | (simp only [doneH]; simp only [ressK, resK, wrapR, go_sem, Nat.reduceAdd, Nat.reduceMul, Nat.reduceEqDiff, Nat.reduceLT, reduceIte, reduceCtorEq, hOr, nmA, Nat.reduceAdd, ifA, ifB]) | (exfalso; omega) | fail)
    exact hQ

/-- The greater part of the orders that an answer to a question leaves. -/
def mxP (L : List (List Int)) (i k : Nat) : Int := max (((L.filter (agB [((i : Int), (k : Int))])).length : Nat) : Int) ((L.length : Int) - (((L.filter (agB [((i : Int), (k : Int))])).length : Nat) : Int))
/-- The best question so far, and how many orders it may leave; questions about i and the items behind it up to j; all with a first item under i. -/
def bqS (L : List (List Int)) (i k : Nat) (s : Int × Int × Int) : Int × Int × Int := if mxP L i k < s.2.2 then ((i : Int), (k : Int), mxP L i k) else s
def bqRow (L : List (List Int)) (i : Nat) : Nat → Int × Int × Int → Int × Int × Int
  | 0, s => s
  | j + 1, s => if i < j then bqS L i j (bqRow L i j s) else bqRow L i j s
def bqTo (L : List (List Int)) (d : Nat) : Nat → Int × Int × Int → Int × Int × Int
  | 0, s => s
  | i + 1, s => bqRow L i d (bqTo L d i s)
theorem bqRow_low {L : List (List Int)} {i : Nat} {s : Int × Int × Int} : ∀ j, j ≤ i + 1 → bqRow L i j s = s
  | 0, _ => rfl
  | j + 1, h => by rw [bqRow, if_neg (by omega), bqRow_low j (by omega)]
theorem mxP_in {L : List (List Int)} (i k : Nat) : 0 ≤ mxP L i k ∧ mxP L i k ≤ L.length := by
  have := List.length_filter_le (agB [((i : Int), (k : Int))]) L
  unfold mxP; omega
theorem bqS_in {L : List (List Int)} {i k d : Nat} {s : Int × Int × Int} (h : (-1 ≤ s.1 ∧ s.1 < d ∨ s.1 = 0) ∧ (-1 ≤ s.2.1 ∧ s.2.1 < d ∨ s.2.1 = 0) ∧ 0 ≤ s.2.2 ∧ s.2.2 ≤ L.length) (hi : i < d) (hk : k < d) : (-1 ≤ (bqS L i k s).1 ∧ (bqS L i k s).1 < d ∨ (bqS L i k s).1 = 0) ∧ (-1 ≤ (bqS L i k s).2.1 ∧ (bqS L i k s).2.1 < d ∨ (bqS L i k s).2.1 = 0) ∧ 0 ≤ (bqS L i k s).2.2 ∧ (bqS L i k s).2.2 ≤ L.length := by
  have := mxP_in (L := L) i k
  unfold bqS
  split
  · dsimp only; omega
  · exact h
theorem bqS_two {L : List (List Int)} {i k : Nat} {s t : Int × Int × Int} (h : s.2.2 = t.2.2) : (bqS L i k s).2.2 = (bqS L i k t).2.2 ∧ (bqS L i k s = bqS L i k t ∨ (bqS L i k s = s ∧ bqS L i k t = t)) := by
  unfold bqS
  by_cases c : mxP L i k < s.2.2
  · rw [if_pos c, if_pos (by omega)]; exact ⟨rfl, .inl rfl⟩
  · rw [if_neg c, if_neg (by omega)]; exact ⟨h, .inr ⟨rfl, rfl⟩⟩
theorem bqRow_two {L : List (List Int)} {i : Nat} {s t : Int × Int × Int} (h : s.2.2 = t.2.2) : ∀ j, (bqRow L i j s).2.2 = (bqRow L i j t).2.2 ∧ (bqRow L i j s = bqRow L i j t ∨ (bqRow L i j s = s ∧ bqRow L i j t = t))
  | 0 => ⟨h, .inr ⟨rfl, rfl⟩⟩
  | j + 1 => by
    obtain ⟨h1, h2⟩ := bqRow_two (L := L) (i := i) h j
    rw [bqRow, bqRow]
    by_cases c : i < j
    · rw [if_pos c, if_pos c]
      rcases h2 with h2 | ⟨h2, h3⟩
      · rw [h2]; exact ⟨rfl, .inl rfl⟩
      · rw [h2, h3]; exact bqS_two h
    · rw [if_neg c, if_neg c]; exact ⟨h1, h2⟩
theorem bqTo_two {L : List (List Int)} {d : Nat} {s t : Int × Int × Int} (h : s.2.2 = t.2.2) : ∀ i, (bqTo L d i s).2.2 = (bqTo L d i t).2.2 ∧ (bqTo L d i s = bqTo L d i t ∨ (bqTo L d i s = s ∧ bqTo L d i t = t))
  | 0 => ⟨h, .inr ⟨rfl, rfl⟩⟩
  | i + 1 => by
    obtain ⟨h1, h2⟩ := bqTo_two (L := L) (d := d) h i
    rw [bqTo, bqTo]
    rcases h2 with h2 | ⟨h2, h3⟩
    · rw [h2]; exact ⟨rfl, .inl rfl⟩
    · rw [h2, h3]; exact bqRow_two h d
theorem bqS_le {L : List (List Int)} {i k : Nat} {s : Int × Int × Int} : (bqS L i k s).2.2 ≤ s.2.2 ∧ (bqS L i k s).2.2 ≤ mxP L i k := by
  unfold bqS
  split
  · dsimp only; omega
  · omega
theorem bqRow_le {L : List (List Int)} {i : Nat} {s : Int × Int × Int} : ∀ j, (bqRow L i j s).2.2 ≤ s.2.2 ∧ ∀ k, i < k → k < j → (bqRow L i j s).2.2 ≤ mxP L i k
  | 0 => ⟨Int.le_refl _, fun k _ h => by omega⟩
  | j + 1 => by
    obtain ⟨h1, h2⟩ := bqRow_le (L := L) (i := i) (s := s) j
    rw [bqRow]
    by_cases c : i < j
    · rw [if_pos c]
      obtain ⟨h3, h4⟩ := bqS_le (L := L) (i := i) (k := j) (s := bqRow L i j s)
      refine ⟨by omega, fun k hk hkj => ?_⟩
      rcases Nat.lt_or_ge k j with e | e
      · have := h2 k hk e; omega
      · obtain rfl : k = j := by omega
        exact h4
    · rw [if_neg c]; exact ⟨h1, fun k hk hkj => h2 k hk (by omega)⟩
theorem bqTo_le {L : List (List Int)} {d : Nat} {s : Int × Int × Int} : ∀ n, (bqTo L d n s).2.2 ≤ s.2.2 ∧ ∀ i k, i < n → i < k → k < d → (bqTo L d n s).2.2 ≤ mxP L i k
  | 0 => ⟨Int.le_refl _, fun i k h => by omega⟩
  | n + 1 => by
    obtain ⟨h1, h2⟩ := bqTo_le (L := L) (d := d) (s := s) n
    obtain ⟨h3, h4⟩ := bqRow_le (L := L) (i := n) (s := bqTo L d n s) d
    rw [bqTo]
    refine ⟨by omega, fun i k hi hk hd => ?_⟩
    rcases Nat.lt_or_ge i n with e | e
    · have := h2 i k e hk hd; omega
    · obtain rfl : i = n := by omega
      exact h4 k hk hd
theorem first_diff {p q : List Int} : ∀ n, (∀ j, j < n → p.getD j 0 = q.getD j 0) ∨ ∃ i, i < n ∧ p.getD i 0 ≠ q.getD i 0 ∧ ∀ j, j < i → p.getD j 0 = q.getD j 0
  | 0 => .inl fun j h => by omega
  | n + 1 => by
    rcases first_diff (p := p) (q := q) n with h | ⟨i, h1, h2⟩
    · by_cases e : p.getD n 0 = q.getD n 0
      · refine .inl fun j hj => ?_
        rcases Nat.lt_or_ge j n with c | c
        · exact h j c
        · obtain rfl : j = n := by omega
          exact e
      · exact .inr ⟨n, by omega, e, h⟩
    · exact .inr ⟨i, by omega, h2⟩
theorem ordK_nodup {d : Nat} (h : d ≤ 5) : (ordK d d []).Nodup := by
  have : d = 0 ∨ d = 1 ∨ d = 2 ∨ d = 3 ∨ d = 4 ∨ d = 5 := by omega
  rcases this with rfl | rfl | rfl | rfl | rfl | rfl
  all_goals decide +kernel
/-- Two orders part at a question. -/
theorem two_part {d : Nat} {p q : List Int} (hp : Beg d p) (hq : Beg d q) (hpl : p.length = d) (hql : q.length = d) (hne : p ≠ q) : ∃ i k : Nat, i < k ∧ k < d ∧ agB [((i : Int), (k : Int))] p ≠ agB [((i : Int), (k : Int))] q := by
  rcases first_diff (p := p) (q := q) d with h | ⟨i, hi, h1, h2⟩
  · exact (hne (ext_getD (hpl.trans hql.symm) fun j hj => h j (by omega))).elim
  · have ha := hp.at (show i < p.length by omega)
    have hc := hq.at (show i < q.length by omega)
    have fa := hp.fst (show i < p.length by omega)
    have fc := hq.fst (show i < q.length by omega)
    obtain ⟨j, j1, j2, j3⟩ := hp.all hpl hc
    obtain ⟨m, m1, m2, m3⟩ := hq.all hql ha
    have hij : i < j := by
      rcases Nat.lt_trichotomy i j with e | e | e
      · exact e
      · subst e; exact (h1 j2).elim
      · have h3 := h2 j e
        rw [j2] at h3
        exact (hq.inj e (by omega) h3.symm).elim
    have him : i < m := by
      rcases Nat.lt_trichotomy i m with e | e | e
      · exact e
      · subst e; exact (h1 m2.symm).elim
      · have h3 := h2 m e
        rw [m2] at h3
        exact (hp.inj e (by omega) h3).elim
    have g1 : agB [(p.getD i 0, q.getD i 0)] p = true := agB_iff.2 fun f hf => by rw [List.mem_singleton.1 hf]; dsimp only; rw [fa, j3]; omega
    have g2 : agB [(p.getD i 0, q.getD i 0)] q = false := by
      cases e : agB [(p.getD i 0, q.getD i 0)] q with
      | false => rfl
      | true => have := agB_iff.1 e _ (List.mem_singleton.2 rfl); dsimp only at this; rw [fc, m3] at this; omega
    have g3 : agB [(q.getD i 0, p.getD i 0)] q = true := agB_iff.2 fun f hf => by rw [List.mem_singleton.1 hf]; dsimp only; rw [fc, m3]; omega
    have g4 : agB [(q.getD i 0, p.getD i 0)] p = false := by
      cases e : agB [(q.getD i 0, p.getD i 0)] p with
      | false => rfl
      | true => have := agB_iff.1 e _ (List.mem_singleton.2 rfl); dsimp only at this; rw [fa, j3] at this; omega
    have ea : ((p.getD i 0).toNat : Int) = p.getD i 0 := Int.toNat_of_nonneg ha.1
    have ec : ((q.getD i 0).toNat : Int) = q.getD i 0 := Int.toNat_of_nonneg hc.1
    rcases Nat.lt_or_ge (p.getD i 0).toNat (q.getD i 0).toNat with e | e
    · exact ⟨_, _, e, by omega, by rw [ea, ec, g1, g2]; simp⟩
    · exact ⟨(q.getD i 0).toNat, (p.getD i 0).toNat, by omega, by omega, by rw [ea, ec, g3, g4]; simp⟩
theorem mx_small {L : List (List Int)} {p q : List Int} {i k : Nat} (hp : p ∈ L) (hq : q ∈ L) (h : agB [((i : Int), (k : Int))] p ≠ agB [((i : Int), (k : Int))] q) : mxP L i k < L.length := by
  have key : ∀ x y, x ∈ L → y ∈ L → agB [((i : Int), (k : Int))] x = true → agB [((i : Int), (k : Int))] y = false → mxP L i k < L.length := fun x y hx hy h1 h2 => by
    have a1 : (L.filter (agB [((i : Int), (k : Int))])).length < L.length := List.length_filter_lt_length_iff_exists.2 ⟨y, hy, by rw [h2]; simp⟩
    have a2 : 0 < (L.filter (agB [((i : Int), (k : Int))])).length := List.length_pos_of_mem (List.mem_filter.2 ⟨hx, h1⟩)
    unfold mxP; omega
  cases e1 : agB [((i : Int), (k : Int))] p <;> cases e2 : agB [((i : Int), (k : Int))] q
  · exact (h (e1.trans e2.symm)).elim
  · exact key q p hq hp e2 e1
  · exact key p q hp hq e1 e2
  · exact (h (e1.trans e2.symm)).elim
theorem bq_some {d : Nat} {fs : List (Int × Int)} (h : VF d fs) (h2 : 2 ≤ (orO d fs).length) : ∃ i k : Nat, i < k ∧ k < d ∧ mxP (orO d fs) i k < (orO d fs).length := by
  have hd : d ≤ 5 := by have := h.1; omega
  have hnd : (orO d fs).Nodup := by rw [orO_ag h]; exact (ordK_nodup hd).filter _
  have m0 : (orO d fs)[0] ∈ orO d fs := List.getElem_mem (by omega)
  have m1 : (orO d fs)[1] ∈ orO d fs := List.getElem_mem (by omega)
  have hne : (orO d fs)[0] ≠ (orO d fs)[1] := (List.pairwise_iff_getElem.1 (List.nodup_iff_pairwise_ne.1 hnd)) 0 1 (by omega) (by omega) (by decide)
  obtain ⟨b0, l0⟩ := orO_beg h m0
  obtain ⟨b1, l1⟩ := orO_beg h m1
  obtain ⟨i, k, hik, hk, hag⟩ := two_part b0 b1 l0 l1 hne
  exact ⟨i, k, hik, hk, mx_small m0 m1 hag⟩
theorem bq_same {d : Nat} {fs : List (Int × Int)} {s t : Int × Int × Int} (h : VF d fs) (h2 : 2 ≤ (orO d fs).length) (hs : s.2.2 = (orO d fs).length) (ht : t.2.2 = (orO d fs).length) : bqTo (orO d fs) d d s = bqTo (orO d fs) d d t := by
  rcases (bqTo_two (L := orO d fs) (d := d) (hs.trans ht.symm) d).2 with e | ⟨e, _⟩
  · exact e
  · obtain ⟨i, k, hik, hk, hm⟩ := bq_some h h2
    have := (bqTo_le (L := orO d fs) (d := d) (s := s) d).2 i k (by omega) hik hk
    rw [e] at this
    omega

-- awp_region_tree %satH
theorem more_sat : SatH Try.prog 69 (fun al h n K => ∃ (A : Nat) (b : Bool) (fs : List (Int × Int)) (a c : Int), al = [.sl A 0 fs.length 2 none, .val (.int .i64 (a)), .val (.int .i64 (c))] ∧ (h A = some ⟨b, .ints .i64 (flF fs)⟩) ∧ (fs.length ≤ 100) ∧ ∀ (H : Hp) (N O : Nat), H O = some ⟨true, .ints .i64 (flF (fs ++ [(a, c)]))⟩ → (∀ u, u < n → H u = h u) → n ≤ O ∧ O < N → K (.sl O 0 (fs ++ [(a, c)]).length 2 none) (H) (N)) := by
  refine satH_intro tabOk Try.func69 rfl 15 rfl [.tmp 6] rfl ?_
  rintro F W h n al K0 ⟨A, b, fs, a, c, rfl, hA, hl, hQ⟩
  refine ⟨Nat.le_of_ble_eq_true rfl, fun m0 hm0 hcl hlt => ?_⟩
  simp only [initT]
  have hAn := (hcl A _ hA).1
  have hfl := flF_len fs
  have e4 : flF (fs ++ [(a, c)]) = flF fs ++ [a, c] := by rw [flF_app]; rfl
  have e5 : (fs ++ [(a, c)]).length = fs.length + 1 := by rw [List.length_append]; rfl
  have m1 : (A = n) = False := eq_false (by omega)
  have m2 : (n = A) = False := eq_false (by omega)
  have m3 : ∀ k, (A = n + k) = False := fun k => eq_false (by omega)
  have m4 : ∀ k, (n + k = A) = False := fun k => eq_false (by omega)


  repeat' (first | refine awp_seq_k fun K hK => ?_ | ((with_reducible refine hK _ ?_); clear hK K) | ((with_reducible refine aord_plain fun K hK => ?_); simp only [go_sem, Nat.reduceAdd, Nat.reduceMul, Nat.reduceEqDiff, Nat.reduceLT, reduceIte, reduceCtorEq, hA, m1, m2, m3, m4, nmA, Nat.reduceAdd, ifA, ifB, hA, m1, m2, m3, m4, mat.matL, DV.agg.injEq]) | ((first | with_reducible refine aord_nil ?_ | refine awp_skip ?_ | refine awp_exit ?_ | refine awp_ret ?_); try simp only [rdA, Nat.reduceEqDiff, ifA, ifB, reduceIte]) | (refine awp_region tabOk rfl ?_; simp only [prep, pickO, lsA, lsB, lsC, lsD, lsE, lsF, lsG]) | fail)
  all_goals (
    refine ⟨_, _, ⟨rfl, rfl⟩, Nat.le_of_ble_eq_true rfl, ?_⟩
    (try dsimp only))
  repeat' (first | ((with_reducible refine hK _ ?_); clear hK K) | ((with_reducible refine aord_plain fun K hK => ?_); simp only [go_sem, Nat.reduceAdd, Nat.reduceMul, Nat.reduceEqDiff, Nat.reduceLT, reduceIte, reduceCtorEq, hA, m1, m2, m3, m4, nmA, Nat.reduceAdd, ifA, ifB, hA, m1, m2, m3, m4, mat.matL, DV.agg.injEq]) | fail)
  by_cases h0 : fs = []
  · subst h0
    refine aAppend_zero rfl rfl ?_
    (try dsimp only)
    repeat' (first | ((with_reducible refine hK _ ?_); clear hK K) | ((with_reducible refine aord_plain fun K hK => ?_); simp only [go_sem, Nat.reduceAdd, Nat.reduceMul, Nat.reduceEqDiff, Nat.reduceLT, reduceIte, reduceCtorEq, hA, m1, m2, m3, m4, nmA, Nat.reduceAdd, ifA, ifB, hA, m1, m2, m3, m4, mat.matL, DV.agg.injEq]) | (simp only [rBuild]; simp only [fillA, Nat.reduceLeDiff, List.getElem?_cons_zero, List.getElem?_cons_succ, List.drop_succ_cons, List.drop_nil, List.take_nil, List.cons_append, Option.isSome_some, go_sem, Nat.reduceAdd, Nat.reduceMul, Nat.reduceEqDiff, Nat.reduceLT, reduceIte, reduceCtorEq, hA, m1, m2, m3, m4, nmA, Nat.reduceAdd, ifA, ifB]) | fail)
    all_goals (refine ⟨_, _, ⟨rfl, rfl⟩, Nat.le_of_ble_eq_true rfl, ?_⟩; (try dsimp only))
    repeat' (first | ((with_reducible refine hK _ ?_); clear hK K) | ((with_reducible refine aord_plain fun K hK => ?_); simp only [go_sem, Nat.reduceAdd, Nat.reduceMul, Nat.reduceEqDiff, Nat.reduceLT, reduceIte, reduceCtorEq, hA, m1, m2, m3, m4, nmA, Nat.reduceAdd, ifA, ifB, hA, m1, m2, m3, m4, mat.matL, DV.agg.injEq]) | fail)
    refine aAppendE_ints rfl rfl rfl rfl (Nat.le_of_ble_eq_true rfl) (by decide) (by decide) (by (try dsimp only); (repeat (first | rw [upd_same] | rw [upd_ne _ _ (by omega)]))) (by (try dsimp only); (repeat (first | rw [upd_same] | rw [upd_ne _ _ (by omega)]))) rfl rfl (by decide) (by omega) ?_
    (try dsimp only)
    repeat' (first | ((with_reducible refine hK _ ?_); clear hK K) | ((with_reducible refine aord_plain fun K hK => ?_); simp only [go_sem, Nat.reduceAdd, Nat.reduceMul, Nat.reduceEqDiff, Nat.reduceLT, reduceIte, reduceCtorEq, hA, m1, m2, m3, m4, nmA, Nat.reduceAdd, ifA, ifB, hA, m1, m2, m3, m4, mat.matL, DV.agg.injEq]) | ((first | with_reducible refine aord_nil ?_ | refine awp_skip ?_ | refine awp_exit ?_ | refine awp_ret ?_); try simp only [rdA, Nat.reduceEqDiff, ifA, ifB, reduceIte]) | (simp only [doneH]; simp only [ressK, resK, wrapR, go_sem, Nat.reduceAdd, Nat.reduceMul, Nat.reduceEqDiff, Nat.reduceLT, reduceIte, reduceCtorEq, hA, m1, m2, m3, m4, nmA, Nat.reduceAdd, ifA, ifB]) | fail)
    refine hQ _ _ _ ?_ ?_ ?_
    · rw [upd_same]; rfl
    · intro u hu
      repeat rw [upd_ne _ _ (by omega)]
    · omega
  · have hp0 : 0 < fs.length := List.length_pos_iff.2 h0
    refine aAppendE_ints rfl rfl rfl rfl (Nat.le_of_ble_eq_true rfl) (by decide) (by decide) (by rw [upd_ne _ _ (by omega)]; exact hA) (upd_same _ _ _) rfl hfl hp0 (by omega) ?_
    (try dsimp only)
    repeat' (first | ((with_reducible refine hK _ ?_); clear hK K) | ((with_reducible refine aord_plain fun K hK => ?_); simp only [go_sem, Nat.reduceAdd, Nat.reduceMul, Nat.reduceEqDiff, Nat.reduceLT, reduceIte, reduceCtorEq, hA, m1, m2, m3, m4, nmA, Nat.reduceAdd, ifA, ifB, hA, m1, m2, m3, m4, mat.matL, DV.agg.injEq]) | (simp only [rBuild]; simp only [fillA, Nat.reduceLeDiff, List.getElem?_cons_zero, List.getElem?_cons_succ, List.drop_succ_cons, List.drop_nil, List.take_nil, List.cons_append, Option.isSome_some, go_sem, Nat.reduceAdd, Nat.reduceMul, Nat.reduceEqDiff, Nat.reduceLT, reduceIte, reduceCtorEq, hA, m1, m2, m3, m4, nmA, Nat.reduceAdd, ifA, ifB]) | fail)
    all_goals (refine ⟨_, _, ⟨rfl, rfl⟩, Nat.le_of_ble_eq_true rfl, ?_⟩; (try dsimp only))
    repeat' (first | ((with_reducible refine hK _ ?_); clear hK K) | ((with_reducible refine aord_plain fun K hK => ?_); simp only [go_sem, Nat.reduceAdd, Nat.reduceMul, Nat.reduceEqDiff, Nat.reduceLT, reduceIte, reduceCtorEq, hA, m1, m2, m3, m4, nmA, Nat.reduceAdd, ifA, ifB, hA, m1, m2, m3, m4, mat.matL, DV.agg.injEq]) | fail)
    refine aAppendE_ints rfl rfl rfl rfl (Nat.le_of_ble_eq_true rfl) (by decide) (by decide) (by (try dsimp only); (repeat (first | rw [upd_same] | rw [upd_ne _ _ (by omega)]))) (by (try dsimp only); (repeat (first | rw [upd_same] | rw [upd_ne _ _ (by omega)]))) hfl rfl (by decide) (by omega) ?_
    (try dsimp only)
    repeat' (first | ((with_reducible refine hK _ ?_); clear hK K) | ((with_reducible refine aord_plain fun K hK => ?_); simp only [go_sem, Nat.reduceAdd, Nat.reduceMul, Nat.reduceEqDiff, Nat.reduceLT, reduceIte, reduceCtorEq, hA, m1, m2, m3, m4, nmA, Nat.reduceAdd, ifA, ifB, hA, m1, m2, m3, m4, mat.matL, DV.agg.injEq]) | ((first | with_reducible refine aord_nil ?_ | refine awp_skip ?_ | refine awp_exit ?_ | refine awp_ret ?_); try simp only [rdA, Nat.reduceEqDiff, ifA, ifB, reduceIte]) | (simp only [doneH]; simp only [ressK, resK, wrapR, go_sem, Nat.reduceAdd, Nat.reduceMul, Nat.reduceEqDiff, Nat.reduceLT, reduceIte, reduceCtorEq, hA, m1, m2, m3, m4, nmA, Nat.reduceAdd, ifA, ifB]) | fail)
    rw [e5] at hQ
    refine hQ _ _ _ ?_ ?_ ?_
    · rw [upd_same, e4]
    · intro u hu
      repeat rw [upd_ne _ _ (by omega)]
    · omega

/-- How often p must be doubled to be at least n, and c. -/
def dbl (n p c : Nat) : Nat := if h : 0 < p ∧ p < n then dbl n (2 * p) (c + 1) else c
termination_by n - p
decreasing_by omega
theorem dbl_go {n p c : Nat} (h0 : 0 < p) (h : p < n) : dbl n (2 * p) (c + 1) = dbl n p c := by rw [dbl.eq_1 n p c, dif_pos ⟨h0, h⟩]
theorem dbl_end {n p c : Nat} (h : n ≤ p) : dbl n p c = c := by rw [dbl, dif_neg (by omega)]
theorem dbl_le : ∀ f n p c : Nat, n ≤ p + f → dbl n p c ≤ c + f
  | 0, n, p, c, h => by rw [dbl_end (by omega)]; omega
  | f + 1, n, p, c, h => by
    by_cases h1 : 0 < p ∧ p < n
    · rw [← dbl_go h1.1 h1.2]
      have := dbl_le f n (2 * p) (c + 1) (by omega)
      omega
    · rw [dbl, dif_neg h1]; omega
/-- Four times as much. -/
theorem dbl_four : ∀ f m n p c : Nat, n ≤ p + f → m = 3 * n → ∀ q, q = (m + 3) / 4 → dbl m (4 * p) c = dbl q p c := by
  intro f
  induction f with
  | zero => intro m n p c h hm q hq; rw [dbl_end (by omega), dbl_end (by omega)]
  | succ f ih =>
    intro m n p c h hm q hq
    by_cases h1 : 0 < p ∧ p < q
    · rw [← dbl_go h1.1 h1.2, ← dbl_go (n := m) (by omega) (by omega), ← ih m n (2 * p) (c + 1) (by omega) hm q hq]
      congr 1; omega
    · rw [dbl.eq_1 q, dif_neg h1, dbl, dif_neg (by omega)]
/-- All of 1 to n together. -/
def sumF (F : Nat → Nat) : Nat → Nat
  | 0 => 0
  | n + 1 => sumF F n + F (n + 1)
theorem sumF_le {F : Nat → Nat} (h : ∀ k, k ≤ 1000 → F k ≤ 5000) : ∀ n, n ≤ 1000 → sumF F n ≤ 5000 * n
  | 0, _ => by simp [sumF]
  | n + 1, hn => by have := sumF_le h n (by omega); have := h (n + 1) hn; rw [sumF]; omega
theorem sumF_same {F G : Nat → Nat} (h : ∀ k, k ≤ 1000 → F k = G k) : ∀ n, n ≤ 1000 → sumF F n = sumF G n
  | 0, _ => rfl
  | n + 1, hn => by rw [sumF, sumF, sumF_same h n (by omega), h (n + 1) hn]
def lgF (k : Nat) : Nat := dbl k 1 0
def fdF (k : Nat) : Nat := dbl (3 * k) 4 0
theorem lgF_le (k : Nat) (h : k ≤ 1000) : lgF k ≤ 5000 := by have := dbl_le 1000 k 1 0 (by omega); unfold lgF; omega
theorem fdF_le (k : Nat) (h : k ≤ 1000) : fdF k ≤ 5000 := by have := dbl_le 3000 (3 * k) 4 0 (by omega); unfold fdF; omega
theorem fdF_eq (k : Nat) : fdF k = dbl ((3 * k + 3) / 4) 1 0 := dbl_four k (3 * k) k 1 0 (by omega) rfl _ rfl


theorem specLog_sat : Sat Try.prog 95 (fun ds Q => ∃ (n : Nat) (z : Int), ds = [.val (.int .i64 (z))] ∧ (z = n) ∧ (n ≤ 5000) ∧ Q (.val (.int .i64 (((dbl n 1 0 : Nat) : Int))))) := by
  refine sat_intro tabOk Try.func95 rfl 13 rfl [.tmp 2] rfl ?_
  rintro ds Q W ⟨n, z, rfl, hz, hn, hQ⟩
  refine ⟨Nat.le_of_ble_eq_true rfl, ?_⟩
  simp only [initS, initT, mat.matL, mat, Cont.len]
  repeat' (first | refine awp_seq_k fun K hK => ?_ | ((with_reducible refine hK _ ?_); clear hK K) | ((with_reducible refine aord_plain fun K hK => ?_); simp only [go_sem, Nat.reduceAdd, Nat.reduceMul, Nat.reduceEqDiff, Nat.reduceLT, reduceIte, reduceCtorEq]) | refine awp_block ?_ | ((first | with_reducible refine aord_nil ?_ | refine awp_skip ?_ | refine awp_exit ?_ | refine awp_ret ?_); try simp only [rdA, Nat.reduceEqDiff, ifA, ifB, reduceIte]) | (refine awp_region tabOk rfl ?_; simp only [prep, pickO, lsA, lsB, lsC, lsD, lsE, lsF, lsG]) | fail)
  refine awp_loopE (α := (Nat) × (Nat)) (fun s p => ⟨(upd (upd (upd bot 0 (s.tmps 0)) 3 (.val (.int .i64 ((p.1))))) 4 (.val (.int .i64 ((p.2))))), s.heap, s.next⟩) _ (fun p => by simp only [St.ev, St.set, upd, Nat.reduceEqDiff, reduceIte, ifA, ifB]; exact rfl) (fun p => (0 < (p.2) ∧ (p.1) < (p.2) ∧ (p.2) ≤ 10000) ∧ (dbl n (p.2) (p.1) = dbl n 1 0)) (fun p => n - (p.2)) (0, 1) ?_ ?_ ?_
  · (try simp only); (refine ⟨?_, ?_⟩ <;> (first | omega | (simp only; omega) | rfl | (simp; done) | skip))
  · (apply Wk.same; (case' h2 => (focus ((repeat' (with_reducible first | exact HeapX.bot | (apply HeapX.skip; (case hx => (simp; done))) | apply HeapX.none | apply HeapX.upd)); all_goals (first | rfl | exact Nat.le_of_ble_eq_true rfl | (simp only [St.set, St.ev, upd, ren, renL, id, Nat.reduceEqDiff, reduceIte, ContLe]; done) | (exact And.intro rfl (And.intro (by first | exact Nat.le_of_ble_eq_true rfl | omega) (by first | exact Nat.le_of_ble_eq_true rfl | omega))) | (first | (simp only [St.set, St.ev, upd, ren, renL, id, Nat.reduceEqDiff, reduceIte]; exact contLe_nil) | ((repeat' (first | exact contLe_nil | refine contLe_cons (.inr ⟨?_, rfl⟩) ?_)); all_goals (first | rfl | (simp only [St.set, St.ev, upd, ren, renL, id, Nat.reduceEqDiff, reduceIte]; done) | ((try simp only [St.set, St.ev, upd, ren, renL, id, Nat.reduceEqDiff, reduceIte]); first | (with_reducible exact av_int (by omega)) | (with_reducible exact av_sl (by first | omega | (simp; done) | (simp; omega)) (by first | omega | (simp; done) | (simp; omega)))) | (simp only [St.set, St.ev, upd, ren, renL, id, Nat.reduceEqDiff, reduceIte, Int.natCast_add, Int.natCast_one, Int.cast_ofNat_Int, Int.natCast_zero]; done) | (simp only [St.set, St.ev, upd, ren, renL, id, Nat.reduceEqDiff, reduceIte]) | skip); done)) | (simp only [St.set, St.ev, upd, ren, renL, id, Nat.reduceEqDiff, reduceIte, ContLe]) | skip)))); (case' h1 => (focus ((repeat' (with_reducible first | exact TmpLe.bot | refine TmpLe.upd ?_ rfl ?_)); all_goals (first | rfl | (simp only [St.set, St.ev, upd, ren, renL, id, Nat.reduceEqDiff, reduceIte]; done) | ((try simp only [St.set, St.ev, upd, ren, renL, id, Nat.reduceEqDiff, reduceIte]); first | (with_reducible exact av_int (by omega)) | (with_reducible exact av_sl (by first | omega | (simp; done) | (simp; omega)) (by first | omega | (simp; done) | (simp; omega)))) | (simp only [St.set, St.ev, upd, ren, renL, id, Nat.reduceEqDiff, reduceIte, Int.natCast_add, Int.natCast_one, Int.cast_ofNat_Int, Int.natCast_zero]; done) | (simp only [St.set, St.ev, upd, ren, renL, id, Nat.reduceEqDiff, reduceIte]) | skip)))); (case h3 => (focus (first | (simp only [id, List.map_cons, List.map_nil]; decide) | decide | (simp; done) | (simp; omega) | fail))); (case h4 => (intro o l h; first | (cases h; done) | (have hlt0 := m0_lt (by assumption) h; (try (simp only at hlt0)); first | omega | (simp only; omega) | exact ⟨by (first | rfl | (simp only [id]; done) | ((repeat rw [if_neg (by omega)]); done)), by first | omega | (simp only; omega)⟩))))
  rintro ⟨c, q⟩ ⟨hq, hR⟩
  try simp only at hq hR
  have hgo : q < n → dbl n (2 * q) (c + 1) = dbl n 1 0 := fun h => by rw [dbl_go hq.1 h, hR]
  have hend : n ≤ q → dbl n 1 0 = c := fun h => by rw [← hR, dbl_end h]
  repeat' (first | refine awp_seq_k fun K hK => ?_ | ((with_reducible refine hK _ ?_); clear hK K) | (clear hK K; (with_reducible refine hK _ ?_); clear hK K) | ((with_reducible refine aord_plain fun K hK => ?_); simp only [go_sem, Nat.reduceAdd, Nat.reduceMul, Nat.reduceEqDiff, Nat.reduceLT, reduceIte, reduceCtorEq]) | refine awp_block ?_ | ((first | with_reducible refine aord_nil ?_ | refine awp_skip ?_ | refine awp_exit ?_ | refine awp_ret ?_); try simp only [rdA, Nat.reduceEqDiff, ifA, ifB, reduceIte]) | (refine awp_region tabOk rfl ?_; simp only [prep, pickO, lsA, lsB, lsC, lsD, lsE, lsF, lsG]) | ((with_reducible apply awp_cond); (focus (simp only [St.ev, St.set, upd, Nat.reduceEqDiff, reduceIte, ifA, ifB]; exact rfl)); all_goals (intro hb; first | (cases hb; done) | ((try rw [hb]); (try simp only [dcA, dcB, dcC, dcD, dcE, Bool.not_eq_true', Bool.not_eq_false'] at hb)))) | ((with_reducible refine And.intro ?_ ?_); (focus omega)) | fail)
  · ((refine Exists.intro (c + 1, 2 * q) ?_); (refine nxt ?_ ?_ ?_); (focus ((apply Wk.same; (case' h2 => (focus ((repeat' (with_reducible first | exact HeapX.bot | (apply HeapX.skip; (case hx => (simp; done))) | apply HeapX.none | apply HeapX.upd)); all_goals (first | rfl | exact Nat.le_of_ble_eq_true rfl | (simp only [St.set, St.ev, upd, ren, renL, id, Nat.reduceEqDiff, reduceIte, ContLe]; done) | (exact And.intro rfl (And.intro (by first | exact Nat.le_of_ble_eq_true rfl | omega) (by first | exact Nat.le_of_ble_eq_true rfl | omega))) | (first | (simp only [St.set, St.ev, upd, ren, renL, id, Nat.reduceEqDiff, reduceIte]; exact contLe_nil) | ((repeat' (first | exact contLe_nil | refine contLe_cons (.inr ⟨?_, rfl⟩) ?_)); all_goals (first | rfl | (simp only [St.set, St.ev, upd, ren, renL, id, Nat.reduceEqDiff, reduceIte]; done) | ((try simp only [St.set, St.ev, upd, ren, renL, id, Nat.reduceEqDiff, reduceIte]); first | (with_reducible exact av_int (by omega)) | (with_reducible exact av_sl (by first | omega | (simp; done) | (simp; omega)) (by first | omega | (simp; done) | (simp; omega)))) | (simp only [St.set, St.ev, upd, ren, renL, id, Nat.reduceEqDiff, reduceIte, Int.natCast_add, Int.natCast_one, Int.cast_ofNat_Int, Int.natCast_zero]; done) | (simp only [St.set, St.ev, upd, ren, renL, id, Nat.reduceEqDiff, reduceIte]) | skip); done)) | (simp only [St.set, St.ev, upd, ren, renL, id, Nat.reduceEqDiff, reduceIte, ContLe]) | skip)))); (case' h1 => (focus ((repeat' (with_reducible first | exact TmpLe.bot | refine TmpLe.upd ?_ rfl ?_)); all_goals (first | rfl | (simp only [St.set, St.ev, upd, ren, renL, id, Nat.reduceEqDiff, reduceIte]; done) | ((try simp only [St.set, St.ev, upd, ren, renL, id, Nat.reduceEqDiff, reduceIte]); first | (with_reducible exact av_int (by omega)) | (with_reducible exact av_sl (by first | omega | (simp; done) | (simp; omega)) (by first | omega | (simp; done) | (simp; omega)))) | (simp only [St.set, St.ev, upd, ren, renL, id, Nat.reduceEqDiff, reduceIte, Int.natCast_add, Int.natCast_one, Int.cast_ofNat_Int, Int.natCast_zero]; done) | (simp only [St.set, St.ev, upd, ren, renL, id, Nat.reduceEqDiff, reduceIte]) | skip)))); (case h3 => (focus (first | (simp only [id, List.map_cons, List.map_nil]; decide) | decide | (simp; done) | (simp; omega) | fail))); (case h4 => (intro o l h; first | (cases h; done) | (have hlt0 := m0_lt (by assumption) h; (try (simp only at hlt0)); first | omega | (simp only; omega) | exact ⟨by (first | rfl | (simp only [id]; done) | ((repeat rw [if_neg (by omega)]); done)), by first | omega | (simp only; omega)⟩)))))); (focus (first | omega | (simp only; omega) | (simp only [List.length_take]; omega) | (simp; done) | (simp; omega))); ((repeat' (with_reducible apply And.intro)) <;> (first | omega | (simp only; omega) | assumption | rfl | ((try simp only); exact hgo (by omega)) | skip)))
  · simp only [St.set, St.ev, doneQ, doneH, ressK, resK, wrapR, AV.ids, AV.idsL, retK, retsK, upd, Nat.reduceEqDiff, reduceIte, ifA, ifB, List.nodup_nil, List.nodup_cons, List.not_mem_nil, not_false_eq_true, true_and, and_true, exists_eq_left', Option.some.injEq, rLoad, cellOf, tab, Ty.isAgg, Ty.one, Bool.false_eq_true]
    rw [hend (by omega)] at hQ
    exact hQ


/-- The facts of a table of truths, row by row. -/
def knRow (r : Nat → Nat → Bool) (i : Nat) : Nat → List (Int × Int)
  | 0 => []
  | j + 1 => if r i j then knRow r i j ++ [((i : Int), (j : Int))] else knRow r i j
def knTo (r : Nat → Nat → Bool) (d : Nat) : Nat → List (Int × Int)
  | 0 => []
  | i + 1 => knTo r d i ++ knRow r i d
theorem knRow_len {r : Nat → Nat → Bool} {i : Nat} : ∀ j, (knRow r i j).length ≤ j
  | 0 => Nat.le_refl _
  | j + 1 => by have := knRow_len (r := r) (i := i) j; rw [knRow]; split <;> (first | omega | (simp only [List.length_append, List.length_cons, List.length_nil]; omega))
theorem knTo_len {r : Nat → Nat → Bool} {d : Nat} : ∀ i, (knTo r d i).length ≤ i * d
  | 0 => Nat.zero_le _
  | i + 1 => by have := knTo_len (r := r) (d := d) i; have := knRow_len (r := r) (i := i) d; rw [knTo, List.length_append, Nat.succ_mul]; omega
theorem kn25 {r : Nat → Nat → Bool} {d i j : Nat} (hd : d ≤ 5) (hi : i ≤ d) (hj : j ≤ d) : (knTo r d i ++ knRow r i j).length ≤ 30 := by
  have h1 := knTo_len (r := r) (d := d) i
  have h2 := knRow_len (r := r) (i := i) j
  have h3 : i * d ≤ 5 * 5 := Nat.mul_le_mul (by omega) hd
  rw [List.length_append]; omega
theorem MatOf.up {H G : Hp} {N M O X : Nat} {f : Nat → Nat} {n k : Nat} {r : Nat → Nat → Bool} (h : MatOf H N O f n k r) (hm : N ≤ M) (hX : X ≠ O) (hf : ∀ i, i < k → f i ≠ X) (g : ∀ u, u < N → u ≠ X → G u = H u) : MatOf G M O f n k r :=
  ⟨by rw [g O h.outn (Ne.symm hX)]; exact h.out, Nat.lt_of_lt_of_le h.outn hm, fun i hi => by rw [g _ (h.lt i hi).1 (hf i hi)]; exact h.row i hi, fun i hi => ⟨Nat.lt_of_lt_of_le (h.lt i hi).1 hm, (h.lt i hi).2⟩, h.inj⟩
structure KS (h : Hp) (n d O : Nat) (f : Nat → Nat) (r : Nat → Nat → Bool) (l : List (Int × Int)) (H : Hp) (N K : Nat) : Prop where
  fr : ∀ u, u < n → H u = h u
  mat : MatOf H N O f d d r
  row : H K = some ⟨true, .ints .i64 (flF l)⟩
  k : n ≤ K ∧ K < N
  ko : K ≠ O
  kf : ∀ i, i < d → f i ≠ K
theorem KS.put {h : Hp} {n d O : Nat} {f : Nat → Nat} {r : Nat → Nat → Bool} {l l2 : List (Int × Int)} {H G : Hp} {N K M K2 : Nat} (b : KS h n d O f r l H N K) (hm : N ≤ M) (hK : N ≤ K2 ∧ K2 < M) (g : ∀ u, u < N → u ≠ K → G u = H u) (gk : G K2 = some ⟨true, .ints .i64 (flF l2)⟩) : KS h n d O f r l2 G M K2 :=
  ⟨fun u hu => by have := b.k; rw [g u (by omega) (by omega)]; exact b.fr u hu, b.mat.up hm b.ko b.kf g, gk, by have := b.k; omega, by have := b.mat.outn; omega, fun i hi => by have := (b.mat.lt i hi).1; omega⟩


theorem specknown_sat : SatH Try.prog 53 (fun al h n K => ∃ (d A : Nat) (b : Bool) (fs : List (Int × Int)), al = [.val (.int .i64 (d)), .sl A 0 fs.length 2 none] ∧ (h A = some ⟨b, .ints .i64 (flF fs)⟩) ∧ (d ≤ 5) ∧ (fs.length ≤ 1000) ∧ (itemsIn d fs) ∧ ∀ (H : Hp) (N O : Nat), H O = some ⟨true, .ints .i64 (flF (knTo (fun i j => wT fs d i j) d d))⟩ → (∀ u, u < n → H u = h u) → n ≤ O ∧ O < N → K (.sl O 0 (knTo (fun i j => wT fs d i j) d d).length 2 none) (H) (N)) := by
  refine satH_intro tabOk Try.func53 rfl 37 rfl [.tmp 4] rfl ?_
  rintro F W h n al K0 ⟨d, A, b, fs, rfl, hA, hd, hl, hi, hQ⟩
  refine ⟨Nat.le_of_ble_eq_true rfl, fun m0 hm0 hcl hlt => ?_⟩
  simp only [initT]
  have hAn := (hcl A _ hA).1
  have hfl := flF_len fs
  have a1 : (A = n) = False := eq_false (by omega)
  have a2 : (n = A) = False := eq_false (by omega)


  repeat' (first | refine awp_seq_k fun K hK => ?_ | ((with_reducible refine hK _ ?_); clear hK K) | ((with_reducible refine aord_plain fun K hK => ?_); simp only [go_sem, Nat.reduceAdd, Nat.reduceMul, Nat.reduceEqDiff, Nat.reduceLT, reduceIte, reduceCtorEq, hA, a1, a2, nmA, Nat.reduceAdd, ifA, ifB, hA, a1, a2]) | ((first | with_reducible refine aord_nil ?_ | refine awp_skip ?_ | refine awp_exit ?_ | refine awp_ret ?_); try simp only [rdA, Nat.reduceEqDiff, ifA, ifB, reduceIte]) | (refine awp_region tabOk rfl ?_; simp only [prep, pickO, lsA, lsB, lsC, lsD, lsE, lsF, lsG]) | fail)
  refine ⟨_, _, ⟨rfl, rfl⟩, Nat.le_of_ble_eq_true rfl, ?_⟩
  dsimp only
  repeat' (first | refine awp_seq_k fun K hK => ?_ | ((with_reducible refine hK _ ?_); clear hK K) | ((with_reducible refine aord_plain fun K hK => ?_); simp only [go_sem, Nat.reduceAdd, Nat.reduceMul, Nat.reduceEqDiff, Nat.reduceLT, reduceIte, reduceCtorEq, hA, a1, a2, nmA, Nat.reduceAdd, ifA, ifB, hA, a1, a2]) | ((first | with_reducible refine aord_nil ?_ | refine awp_skip ?_ | refine awp_exit ?_ | refine awp_ret ?_); try simp only [rdA, Nat.reduceEqDiff, ifA, ifB, reduceIte]) | (refine awp_region tabOk rfl ?_; simp only [prep, pickO, lsA, lsB, lsC, lsD, lsE, lsF, lsG]) | ((with_reducible refine And.intro (?_ : enters Try.prog 46) ?_); (focus exact Try.call46); (refine callX_satH specReach_sat ?_); simp only [go_sem, and_assoc, List.nil_append, List.append_nil, List.cons_append, Nat.reduceEqDiff, reduceIte, reduceCtorEq, hA, a1, a2, nmA, Nat.reduceAdd, ifA, ifB, hA, a1, a2]) | fail)
  refine ⟨d, rfl, b, fs, rfl, rfl, rfl, hd, hl, hi, fun H N O f hM hfr hnN hnO => ?_⟩
  have HA : H A = some ⟨b, .ints .i64 (flF fs)⟩ := (hfr A (by omega)).trans (by rw [if_neg (by omega)]; exact hA)
  have Hn : H n = some ⟨true, .ints .i64 []⟩ := (hfr n (by omega)).trans (if_pos rfl)
  have hKS : KS h n d O f (fun i j => wT fs d i j) [] H N n := ⟨fun u hu => by rw [hfr u (by omega), if_neg (by omega)], hM, Hn, by omega, by omega, fun i hi e => by have h1 := hM.row i hi; rw [e, Hn] at h1; cases h1⟩
  clear hfr Hn hM HA
  generalize (fun i j => wT fs d i j) = r at hKS hQ


  repeat' (first | refine awp_seq_k fun K hK => ?_ | ((with_reducible refine hK _ ?_); clear hK K) | ((with_reducible refine aord_plain fun K hK => ?_); simp only [go_sem, Nat.reduceAdd, Nat.reduceMul, Nat.reduceEqDiff, Nat.reduceLT, reduceIte, reduceCtorEq]) | refine awp_block ?_ | ((first | with_reducible refine aord_nil ?_ | refine awp_skip ?_ | refine awp_exit ?_ | refine awp_ret ?_); try simp only [rdA, Nat.reduceEqDiff, ifA, ifB, reduceIte]) | (refine awp_region tabOk rfl ?_; simp only [prep, pickO, lsA, lsB, lsC, lsD, lsE, lsF, lsG]) | fail)
  refine awp_loop (fun p : Hp × Nat × Nat × Nat => ⟨upd (upd (upd (upd bot 7 (.val (.int .i64 p.2.2.2))) 6 (.sl O 0 d 1 none)) 5 (.sl p.2.2.1 0 (knTo r d p.2.2.2).length 2 none)) 0 (.val (.int .i64 d)), p.1, p.2.1⟩) (fun p => p.2.2.2 ≤ d ∧ KS h n d O f r (knTo r d p.2.2.2) p.1 p.2.1 p.2.2.1) (fun p => d - p.2.2.2) (H, N, n, 0) ⟨Nat.zero_le _, hKS⟩ ?_ ?_
  · exact Wk.sub (tsd (tsd (tsd (tsd tsd0 rfl) rfl) rfl) rfl) (fun _ _ h => h) rfl
  clear hKS hnN hnO
  rintro ⟨H, N, X, i⟩ ⟨hid, hS⟩
  dsimp only at hid hS ⊢
  rcases Nat.lt_or_ge i d with hlt | hge
  · skip


    repeat' (first | refine awp_seq_k fun K hK => ?_ | ((with_reducible refine hK _ ?_); clear hK K) | (clear hK K; (with_reducible refine hK _ ?_); clear hK K) | ((with_reducible refine aord_plain fun K hK => ?_); simp only [go_sem, Nat.reduceAdd, Nat.reduceMul, Nat.reduceEqDiff, Nat.reduceLT, reduceIte, reduceCtorEq]) | refine awp_block ?_ | ((first | with_reducible refine aord_nil ?_ | refine awp_skip ?_ | refine awp_exit ?_ | refine awp_ret ?_); try simp only [rdA, Nat.reduceEqDiff, ifA, ifB, reduceIte]) | (refine awp_region tabOk rfl ?_; simp only [prep, pickO, lsA, lsB, lsC, lsD, lsE, lsF, lsG]) | ((with_reducible apply awp_cond); (focus (simp only [St.ev, St.set, upd, Nat.reduceEqDiff, reduceIte, ifA, ifB]; exact rfl)); all_goals (intro hb; first | (cases hb; done) | ((try rw [hb]); (try simp only [dcA, dcB, dcC, dcD, dcE, Bool.not_eq_true', Bool.not_eq_false'] at hb)))) | (simp only [doneH]; simp only [ressK, resK, wrapR, go_sem, Nat.reduceAdd, Nat.reduceMul, Nat.reduceEqDiff, Nat.reduceLT, reduceIte, reduceCtorEq]) | (exfalso; omega) | fail)
    refine awp_loop (fun p : Hp × Nat × Nat × Nat => ⟨upd (upd (upd (upd (upd bot 8 (.val (.int .i64 p.2.2.2))) 7 (.val (.int .i64 i))) 6 (.sl O 0 d 1 none)) 5 (.sl p.2.2.1 0 (knTo r d i ++ knRow r i p.2.2.2).length 2 none)) 0 (.val (.int .i64 d)), p.1, p.2.1⟩) (fun p => p.2.2.2 ≤ d ∧ KS h n d O f r (knTo r d i ++ knRow r i p.2.2.2) p.1 p.2.1 p.2.2.1) (fun p => d - p.2.2.2) (H, N, X, 0) ⟨Nat.zero_le _, by dsimp only [knRow]; rw [List.append_nil]; exact hS⟩ ?_ ?_
    · exact Wk.sub (tsd (tsd (tsd (tsd (tsd tsd0 rfl) rfl) rfl) (by dsimp only [knRow]; rw [List.append_nil]; rfl)) rfl) (fun _ _ h => h) rfl
    clear hS
    rintro ⟨H, N, X, j⟩ ⟨hjd, hS⟩
    dsimp only at hjd hS ⊢
    have hO := hS.mat.out
    have hOn := hS.mat.outn
    have hXr := hS.row
    have hXn := hS.k
    have hlen := kn25 (r := r) (i := i) (j := j) hd hid hjd
    rcases Nat.lt_or_ge j d with hlt2 | hge2
    · have hml : (mCell f d d).length = d := mCell_len
      have hc := mCell_get (f := f) (n := d) hlt
      have hrow := hS.mat.row i hlt
      have hrl : (mRow d (r i)).length = d := mRow_len
      have hget : (mRow d (r i)).getD j false = r i j := mRow_get hlt2
      have hfl2 := flF_len (knTo r d i ++ knRow r i j)
      generalize hLL : knTo r d i ++ knRow r i j = L at *
      cases hw : r i j with
      | true =>
        have hk1 : knRow r i (j + 1) = knRow r i j ++ [((i : Int), (j : Int))] := by rw [knRow, if_pos hw]
        have m1 : (X = N) = False := eq_false (by omega)
        have m2 : (N = X) = False := eq_false (by omega)


        repeat' (first | refine awp_seq_k fun K hK => ?_ | ((with_reducible refine hK _ ?_); clear hK K) | (clear hK K; (with_reducible refine hK _ ?_); clear hK K) | ((with_reducible refine aord_plain fun K hK => ?_); simp only [go_sem, Nat.reduceAdd, Nat.reduceMul, Nat.reduceEqDiff, Nat.reduceLT, reduceIte, reduceCtorEq, hO, hml, hc, hrow, hrl, hget, hw, hXr, m1, m2, nmA, Nat.reduceAdd, ifA, ifB, hO, hml, hc, hrow, hrl, hget, hw, hXr, m1, m2]) | refine awp_block ?_ | ((first | with_reducible refine aord_nil ?_ | refine awp_skip ?_ | refine awp_exit ?_ | refine awp_ret ?_); try simp only [rdA, Nat.reduceEqDiff, ifA, ifB, reduceIte]) | (refine awp_region tabOk rfl ?_; simp only [prep, pickO, lsA, lsB, lsC, lsD, lsE, lsF, lsG]) | ((with_reducible apply awp_cond); (focus (simp only [St.ev, St.set, upd, Nat.reduceEqDiff, reduceIte, ifA, ifB, hO, hml, hc, hrow, hrl, hget, hw, hXr, m1, m2, nmA, Nat.reduceAdd, ifA, ifB]; exact rfl)); all_goals (intro hb; first | (cases hb; done) | ((try rw [hb]); (try simp only [dcA, dcB, dcC, dcD, dcE, Bool.not_eq_true', Bool.not_eq_false'] at hb)))) | ((with_reducible refine And.intro ?_ ?_); (focus omega)) | (simp only [rBuild]; simp only [fillA, Nat.reduceLeDiff, List.getElem?_cons_zero, List.getElem?_cons_succ, List.drop_succ_cons, List.drop_nil, List.take_nil, List.cons_append, Option.isSome_some, go_sem, Nat.reduceAdd, Nat.reduceMul, Nat.reduceEqDiff, Nat.reduceLT, reduceIte, reduceCtorEq, hO, hml, hc, hrow, hrl, hget, hw, hXr, m1, m2, nmA, Nat.reduceAdd, ifA, ifB]) | (exfalso; omega) | fail)
        refine ⟨_, _, ⟨rfl, rfl⟩, Nat.le_of_ble_eq_true rfl, ?_⟩
        (try dsimp only)
        repeat' (first | ((with_reducible refine hK _ ?_); clear hK K) | ((with_reducible refine aord_plain fun K hK => ?_); simp only [go_sem, Nat.reduceAdd, Nat.reduceMul, Nat.reduceEqDiff, Nat.reduceLT, reduceIte, reduceCtorEq, hO, hml, hc, hrow, hrl, hget, hw, hXr, m1, m2, nmA, Nat.reduceAdd, ifA, ifB, hO, hml, hc, hrow, hrl, hget, hw, hXr, m1, m2]) | fail)
        refine aAppendE_ints rfl rfl rfl rfl (Nat.le_of_ble_eq_true rfl) (by decide) (by decide) (by (try dsimp only); (repeat (first | rw [upd_same] | rw [upd_ne _ _ (by omega)]))) (by (try dsimp only); (repeat (first | rw [upd_same] | rw [upd_ne _ _ (by omega)])); exact hXr) hfl2 rfl (by decide) (by omega) ?_
        repeat' (first | ((with_reducible refine hK _ ?_); clear hK K) | ((with_reducible refine aord_plain fun K hK => ?_); simp only [go_sem, Nat.reduceAdd, Nat.reduceMul, Nat.reduceEqDiff, Nat.reduceLT, reduceIte, reduceCtorEq, hO, hml, hc, hrow, hrl, hget, hw, hXr, m1, m2, nmA, Nat.reduceAdd, ifA, ifB, hO, hml, hc, hrow, hrl, hget, hw, hXr, m1, m2]) | ((first | with_reducible refine aord_nil ?_ | refine awp_skip ?_ | refine awp_exit ?_ | refine awp_ret ?_); try simp only [rdA, Nat.reduceEqDiff, ifA, ifB, reduceIte]) | (refine awp_region tabOk rfl ?_; simp only [prep, pickO, lsA, lsB, lsC, lsD, lsE, lsF, lsG]) | ((with_reducible refine And.intro ?_ ?_); (focus omega)) | fail)
        have e2 : flF (L ++ [((i : Int), (j : Int))]) = flF L ++ [(i : Int), (j : Int)] := by rw [flF_app]; rfl
        have e3 : (L ++ [((i : Int), (j : Int))]).length = L.length + 1 := by rw [List.length_append]; rfl
        refine ⟨(upd (upd (upd H N (some ⟨true, .ints .i64 [(i : Int), (j : Int)]⟩)) X none) (N + 1) (some ⟨true, .ints .i64 (flF L ++ [(i : Int), (j : Int)])⟩), N + 2, N + 1, j + 1), ⟨by dsimp only; omega, ?_⟩, by dsimp only; omega, Wk.sub (tsd (tsd (tsd (tsd (tsd tsd0 rfl) rfl) rfl) (by dsimp only; rw [hk1, ← List.append_assoc, hLL, e3]; rfl)) rfl) (fun _ _ h => h) rfl⟩
        dsimp only
        rw [hk1, ← List.append_assoc, hLL]
        exact hS.put (by omega) (by omega) (fun u h1 h2 => by rw [upd_ne _ _ (by omega), upd_ne _ _ h2, upd_ne _ _ (by omega)]) (by rw [upd_same, e2])
      | false =>
        have hk1 : knRow r i (j + 1) = knRow r i j := by rw [knRow, if_neg (by rw [hw]; simp)]


        repeat' (first | refine awp_seq_k fun K hK => ?_ | ((with_reducible refine hK _ ?_); clear hK K) | (clear hK K; (with_reducible refine hK _ ?_); clear hK K) | ((with_reducible refine aord_plain fun K hK => ?_); simp only [go_sem, Nat.reduceAdd, Nat.reduceMul, Nat.reduceEqDiff, Nat.reduceLT, reduceIte, reduceCtorEq, hO, hml, hc, hrow, hrl, hget, hw, nmA, Nat.reduceAdd, ifA, ifB, hO, hml, hc, hrow, hrl, hget, hw]) | refine awp_block ?_ | ((first | with_reducible refine aord_nil ?_ | refine awp_skip ?_ | refine awp_exit ?_ | refine awp_ret ?_); try simp only [rdA, Nat.reduceEqDiff, ifA, ifB, reduceIte]) | (refine awp_region tabOk rfl ?_; simp only [prep, pickO, lsA, lsB, lsC, lsD, lsE, lsF, lsG]) | ((with_reducible apply awp_cond); (focus (simp only [St.ev, St.set, upd, Nat.reduceEqDiff, reduceIte, ifA, ifB, hO, hml, hc, hrow, hrl, hget, hw, nmA, Nat.reduceAdd, ifA, ifB]; exact rfl)); all_goals (intro hb; first | (cases hb; done) | ((try rw [hb]); (try simp only [dcA, dcB, dcC, dcD, dcE, Bool.not_eq_true', Bool.not_eq_false'] at hb)))) | ((with_reducible refine And.intro ?_ ?_); (focus omega)) | (exfalso; omega) | fail)
        refine ⟨(H, N, X, j + 1), ⟨by dsimp only; omega, by dsimp only; rw [hk1, hLL]; exact hS⟩, by dsimp only; omega, Wk.sub (tsd (tsd (tsd (tsd (tsd tsd0 rfl) rfl) rfl) (by dsimp only; rw [hk1, hLL]; rfl)) rfl) (fun _ _ h => h) rfl⟩
    · skip
      have ej : j = d := by omega
      subst ej
      generalize hLL : knTo r j i ++ knRow r i j = L at *


      repeat' (first | refine awp_seq_k fun K hK => ?_ | ((with_reducible refine hK _ ?_); clear hK K) | (clear hK K; (with_reducible refine hK _ ?_); clear hK K) | ((with_reducible refine aord_plain fun K hK => ?_); simp only [go_sem, Nat.reduceAdd, Nat.reduceMul, Nat.reduceEqDiff, Nat.reduceLT, reduceIte, reduceCtorEq]) | refine awp_block ?_ | ((first | with_reducible refine aord_nil ?_ | refine awp_skip ?_ | refine awp_exit ?_ | refine awp_ret ?_); try simp only [rdA, Nat.reduceEqDiff, ifA, ifB, reduceIte]) | (refine awp_region tabOk rfl ?_; simp only [prep, pickO, lsA, lsB, lsC, lsD, lsE, lsF, lsG]) | ((with_reducible apply awp_cond); (focus (simp only [St.ev, St.set, upd, Nat.reduceEqDiff, reduceIte, ifA, ifB]; exact rfl)); all_goals (intro hb; first | (cases hb; done) | ((try rw [hb]); (try simp only [dcA, dcB, dcC, dcD, dcE, Bool.not_eq_true', Bool.not_eq_false'] at hb)))) | ((with_reducible refine And.intro ?_ ?_); (focus omega)) | (exfalso; omega) | fail)
      refine ⟨(H, N, X, i + 1), ⟨by dsimp only; omega, by dsimp only [knTo]; rw [hLL]; exact hS⟩, by dsimp only; omega, Wk.sub (tsd (tsd (tsd (tsd tsd0 rfl) rfl) (by dsimp only [knTo]; rw [hLL]; rfl)) rfl) (fun _ _ h => h) rfl⟩
  · skip
    have ei : i = d := by omega
    subst ei


    repeat' (first | refine awp_seq_k fun K hK => ?_ | ((with_reducible refine hK _ ?_); clear hK K) | (clear hK K; (with_reducible refine hK _ ?_); clear hK K) | ((with_reducible refine aord_plain fun K hK => ?_); simp only [go_sem, Nat.reduceAdd, Nat.reduceMul, Nat.reduceEqDiff, Nat.reduceLT, reduceIte, reduceCtorEq]) | refine awp_block ?_ | ((first | with_reducible refine aord_nil ?_ | refine awp_skip ?_ | refine awp_exit ?_ | refine awp_ret ?_); try simp only [rdA, Nat.reduceEqDiff, ifA, ifB, reduceIte]) | (refine awp_region tabOk rfl ?_; simp only [prep, pickO, lsA, lsB, lsC, lsD, lsE, lsF, lsG]) | ((with_reducible apply awp_cond); (focus (simp only [St.ev, St.set, upd, Nat.reduceEqDiff, reduceIte, ifA, ifB]; exact rfl)); all_goals (intro hb; first | (cases hb; done) | ((try rw [hb]); (try simp only [dcA, dcB, dcC, dcD, dcE, Bool.not_eq_true', Bool.not_eq_false'] at hb)))) | (simp only [doneH]; simp only [ressK, resK, wrapR, go_sem, Nat.reduceAdd, Nat.reduceMul, Nat.reduceEqDiff, Nat.reduceLT, reduceIte, reduceCtorEq]) | (exfalso; omega) | fail)
    exact hQ H N X hS.row hS.fr hS.k

/-- KnownOf's answer. -/
noncomputable def knO (z : Int) (fs : List (Int × Int)) : List (Int × Int) := by classical exact if VF z fs then knTo (fun i j => wT fs z.toNat i j) z.toNat z.toNat else []
theorem knO_yes {d : Nat} {fs : List (Int × Int)} (h : VF d fs) : knO d fs = knTo (fun i j => wT fs d i j) d d := by
  unfold knO; rw [if_pos h]; rfl
theorem knO_no {z : Int} {fs : List (Int × Int)} (h : ¬ VF z fs) : knO z fs = [] := by
  unfold knO; rw [if_neg h]
theorem knO_len (z : Int) (fs : List (Int × Int)) : (knO z fs).length ≤ 30 := by
  by_cases h : VF z fs
  · obtain ⟨d, rfl⟩ : ∃ d : Nat, z = d := ⟨z.toNat, by have := h.1; omega⟩
    rw [knO_yes h]
    have h1 := h.1
    have := kn25 (r := fun i j => wT fs d i j) (d := d) (i := d) (j := 0) (by omega) (Nat.le_refl _) (Nat.zero_le _)
    rw [show knRow (fun i j => wT fs d i j) d 0 = [] from rfl, List.append_nil] at this
    exact this
  · rw [knO_no h]; simp


/-- What a list of valid facts says stays valid: of fewer facts, of all that follow. -/
theorem Tc_sub {fs gs : List (Int × Int)} (h : ∀ f, f ∈ fs → f ∈ gs) {a b : Int} (t : Tc fs a b) : Tc gs a b := by
  induction t with
  | base t => exact .base (h _ t)
  | step _ _ h1 h2 => exact .step h1 h2
theorem Tc_Tc {fs gs : List (Int × Int)} (h : ∀ f, f ∈ gs → Tc fs f.1 f.2) {a b : Int} (t : Tc gs a b) : Tc fs a b := by
  induction t with
  | base t => exact h _ t
  | step _ _ h1 h2 => exact .step h1 h2
theorem VF_take {z : Int} {fs : List (Int × Int)} (h : VF z fs) (k : Nat) : VF z (fs.take k) :=
  ⟨h.1, by have := h.2.1; rw [List.length_take]; omega, fun f hf => h.2.2.1 f (List.mem_of_mem_take hf), fun x t => h.2.2.2 x (Tc_sub (fun f hf => List.mem_of_mem_take hf) t)⟩
theorem knRow_mem {r : Nat → Nat → Bool} {i : Nat} {f : Int × Int} : ∀ {j : Nat}, f ∈ knRow r i j → ∃ k, k < j ∧ f = ((i : Int), (k : Int)) ∧ r i k = true
  | 0, h => by simp [knRow] at h
  | j + 1, h => by
    rw [knRow] at h
    split at h
    · rename_i hr
      rcases List.mem_append.1 h with h1 | h1
      · obtain ⟨k, hk, e⟩ := knRow_mem h1
        exact ⟨k, by omega, e⟩
      · exact ⟨j, by omega, List.mem_singleton.1 h1, hr⟩
    · obtain ⟨k, hk, e⟩ := knRow_mem h
      exact ⟨k, by omega, e⟩
theorem knTo_mem {r : Nat → Nat → Bool} {d : Nat} {f : Int × Int} : ∀ {i : Nat}, f ∈ knTo r d i → ∃ j k, j < i ∧ k < d ∧ f = ((j : Int), (k : Int)) ∧ r j k = true
  | 0, h => by simp [knTo] at h
  | i + 1, h => by
    rw [knTo] at h
    rcases List.mem_append.1 h with h1 | h1
    · obtain ⟨j, k, hj, e⟩ := knTo_mem h1
      exact ⟨j, k, by omega, e⟩
    · obtain ⟨k, hk, e⟩ := knRow_mem h1
      exact ⟨i, k, by omega, hk, e⟩
theorem knRow_lt {r : Nat → Nat → Bool} {i : Nat} (h : r i i = false) : ∀ j, (knRow r i j).length ≤ if i < j then j - 1 else j
  | 0 => by simp [knRow]
  | j + 1 => by
    have ih := knRow_lt h j
    rw [knRow]
    by_cases e : j = i
    · subst e
      rw [h, if_neg (by simp)]
      rw [if_neg (by omega)] at ih
      rw [if_pos (by omega)]
      omega
    · split
      · rw [List.length_append]
        simp only [List.length_cons, List.length_nil]
        split at ih <;> split <;> omega
      · split at ih <;> split <;> omega
theorem knTo_lt {r : Nat → Nat → Bool} {d : Nat} (h : ∀ i, i < d → r i i = false) : ∀ i, i ≤ d → (knTo r d i).length ≤ i * (d - 1)
  | 0, _ => by simp [knTo]
  | i + 1, hi => by
    have h1 := knTo_lt h i (by omega)
    have h2 := knRow_lt (h i (by omega)) d
    rw [if_pos (by omega)] at h2
    rw [knTo, List.length_append, Nat.succ_mul]
    omega
theorem VF_knO {z : Int} {fs : List (Int × Int)} (h : VF z fs) : VF z (knO z fs) := by
  obtain ⟨d, rfl⟩ : ∃ d : Nat, z = d := ⟨z.toNat, by have := h.1; omega⟩
  have hi : itemsIn d fs := by have := h.2.2.1; rwa [Int.toNat_natCast] at this
  rw [knO_yes h]
  have hir : ∀ i, i < d → wT fs d i i = false := fun i _ => by
    have h1 := h.2.2.2 i
    rw [← wT_iff hi] at h1
    simpa using h1
  refine ⟨h.1, ?_, fun f hf => ?_, fun x t => h.2.2.2 x (Tc_Tc (fun f hf => ?_) t)⟩
  · have h1 := knTo_lt (r := fun i j => wT fs d i j) hir d (Nat.le_refl _)
    have h2 : d * (d - 1) ≤ 5 * 4 := Nat.mul_le_mul (by have := h.1; omega) (by have := h.1; omega)
    omega
  · obtain ⟨j, k, hj, hk, rfl, _⟩ := knTo_mem hf
    rw [Int.toNat_natCast]
    dsimp only
    omega
  · obtain ⟨j, k, hj, hk, rfl, e⟩ := knTo_mem hf
    exact wT_sound e

theorem knRow_has {r : Nat → Nat → Bool} {i k : Nat} (h : r i k = true) : ∀ {j : Nat}, k < j → ((i : Int), (k : Int)) ∈ knRow r i j
  | j + 1, hj => by
    rw [knRow]
    rcases Nat.lt_or_ge k j with c | c
    · have := knRow_has h c
      split
      · exact List.mem_append_left _ this
      · exact this
    · obtain rfl : k = j := by omega
      rw [if_pos h]; exact List.mem_append_right _ (by simp)
theorem knTo_has {r : Nat → Nat → Bool} {d i k : Nat} (hk : k < d) (h : r i k = true) : ∀ {m : Nat}, i < m → ((i : Int), (k : Int)) ∈ knTo r d m
  | m + 1, hm => by
    rw [knTo]
    rcases Nat.lt_or_ge i m with c | c
    · exact List.mem_append_left _ (knTo_has hk h c)
    · obtain rfl : i = m := by omega
      exact List.mem_append_right _ (knRow_has h hk)
theorem Tc_kn {d : Nat} {fs : List (Int × Int)} (h : VF d fs) {a b : Int} : Tc (knO d fs) a b ↔ Tc fs a b := by
  have hi : itemsIn d fs := by have := h.2.2.1; rwa [Int.toNat_natCast] at this
  rw [knO_yes h]
  constructor
  · intro t
    refine Tc_Tc (fun f hf => ?_) t
    obtain ⟨j, k, hj, hk, rfl, e⟩ := knTo_mem hf
    exact wT_sound e
  · intro t
    obtain ⟨⟨a0, a1⟩, b0, b1⟩ := Tc_in hi t
    have hw := wT_all hi t
    have := knTo_has (r := fun i j => wT fs d i j) (d := d) (i := a.toNat) (k := b.toNat) (by omega) hw (m := d) (by omega)
    rw [Int.toNat_of_nonneg a0, Int.toNat_of_nonneg b0] at this
    exact .base this
theorem wT_kn {d : Nat} {fs : List (Int × Int)} (h : VF d fs) : (fun i j => wT (knO d fs) d i j) = (fun i j => wT fs d i j) := by
  have hi : itemsIn d fs := by have := h.2.2.1; rwa [Int.toNat_natCast] at this
  have hi2 : itemsIn d (knO d fs) := by have := (VF_knO h).2.2.1; rwa [Int.toNat_natCast] at this
  funext i j
  rw [Bool.eq_iff_iff, wT_iff hi, wT_iff hi2, Tc_kn h]
theorem knO_knO {z : Int} {fs : List (Int × Int)} (h : VF z fs) : knO z (knO z fs) = knO z fs := by
  obtain ⟨d, rfl⟩ : ∃ d : Nat, z = d := ⟨z.toNat, by have := h.1; omega⟩
  have h2 := knO_yes (VF_knO h)
  rw [wT_kn h, ← knO_yes h] at h2
  exact h2
theorem orO_knO {z : Int} {fs : List (Int × Int)} (h : VF z fs) : orO z (knO z fs) = orO z fs := by
  obtain ⟨d, rfl⟩ : ∃ d : Nat, z = d := ⟨z.toNat, by have := h.1; omega⟩
  have h2 := orO_yes (VF_knO h)
  rw [wT_kn h, ← orO_yes h] at h2
  exact h2


theorem min_item {fs : List (Int × Int)} (hx : ∀ x, ¬ Tc fs x x) : ∀ S : List Int, S ≠ [] → ∃ x, x ∈ S ∧ ∀ y, y ∈ S → ¬ Tc fs y x
  | [], h => (h rfl).elim
  | [a], _ => ⟨a, by simp, fun y hy => by rw [List.mem_singleton.1 hy]; exact hx a⟩
  | a :: b :: S, _ => by
    obtain ⟨x, h1, h2⟩ := min_item hx (b :: S) (by simp)
    by_cases c : Tc fs a x
    · refine ⟨a, by simp, fun y hy t => ?_⟩
      rcases List.mem_cons.1 hy with e | e
      · exact hx a (e ▸ t)
      · exact h2 y e (t.step c)
    · refine ⟨x, List.mem_cons_of_mem _ h1, fun y hy t => ?_⟩
      rcases List.mem_cons.1 hy with e | e
      · exact c (e ▸ t)
      · exact h2 y e t
theorem sprTo_ne {r : Nat → Nat → Bool} {g : Nat → List (List Int)} {b : List Int} {x : Nat} (ho : okS r b x = true) (hg : g x ≠ []) : ∀ {i : Nat}, x < i → sprTo r g b i ≠ []
  | i + 1, h => by
    rw [sprTo]
    rcases Nat.lt_or_ge x i with c | c
    · have := sprTo_ne ho hg c
      simp [this]
    · obtain rfl : x = i := by omega
      rw [if_pos ho]; simp [hg]
theorem beg_free {d : Nat} {b : List Int} (hb : Beg d b) (hl : b.length < d) : ∃ v : Nat, v < d ∧ (v : Int) ∉ b := by
  by_cases c : ∃ v : Nat, v < d ∧ (v : Int) ∉ b
  · exact c
  · have hall : ∀ v : Nat, v < d → (v : Int) ∈ b := fun v hv => by
      by_cases e : (v : Int) ∈ b
      · exact e
      · exact (c ⟨v, hv, e⟩).elim
    have := no_injF b.length d (fun v => (fstAt b (v : Int) b.length).toNat) (fun v hv => by
      have h1 := fst_mem.2 (hall v hv)
      have h2 := (fst_in (p := b) (v := (v : Int)) b.length).2.1
      show (fstAt b (v : Int) b.length).toNat < b.length
      omega) (fun v w hv hw e => by
      have h1 := fst_mem.2 (hall v hv)
      have h2 := (fst_in (p := b) (v := (v : Int)) b.length).2.2 h1
      have h3 := fst_mem.2 (hall w hw)
      have h4 := (fst_in (p := b) (v := (w : Int)) b.length).2.2 h3
      have e2 : (fstAt b (v : Int) b.length).toNat = (fstAt b (w : Int) b.length).toNat := e
      rw [e2, h4] at h2
      omega)
    omega
theorem ordR_ne {fs : List (Int × Int)} {d : Nat} (hi : itemsIn d fs) (hx : ∀ x, ¬ Tc fs x x) : ∀ (k : Nat) {b : List Int}, Beg d b → b.length + k = d → (∀ x y, y ∈ b → Tc fs x y → x ∈ b) → ordR (fun i j => wT fs d i j) d k b ≠ []
  | 0, b, _, _, _ => by simp [ordR]
  | k + 1, b, hb, hl, hc => by
    obtain ⟨v, hv, hvb⟩ := beg_free hb (by omega)
    obtain ⟨x, h1, h2⟩ := min_item hx (((List.range d).map Int.ofNat).filter fun i => decide (i ∉ b)) (fun e => by
      have : (v : Int) ∈ (((List.range d).map Int.ofNat).filter fun i => decide (i ∉ b)) := List.mem_filter.2 ⟨List.mem_map.2 ⟨v, List.mem_range.2 hv, rfl⟩, decide_eq_true hvb⟩
      rw [e] at this; simp at this)
    obtain ⟨h3, h4⟩ := List.mem_filter.1 h1
    obtain ⟨i, h5, rfl⟩ := List.mem_map.1 h3
    have hid := List.mem_range.1 h5
    have hib : (i : Int) ∉ b := of_decide_eq_true h4
    rw [ordR]
    refine sprTo_ne (x := i) (okS_iff.2 fun y hy => ⟨fun e => hib (e ▸ hy), ?_⟩) (ordR_ne hi hx k (hb.push hid hib) (by rw [List.length_append]; simp only [List.length_cons, List.length_nil]; omega) fun u y hy t => ?_) hid
    · cases e : wT fs d i y.toNat with
      | false => rfl
      | true =>
        have h6 := wT_sound e
        rw [Int.toNat_of_nonneg (hb.rng y hy).1] at h6
        exact (hib (hc _ _ hy h6)).elim
    · rcases List.mem_append.1 hy with h6 | h6
      · exact List.mem_append_left _ (hc _ _ h6 t)
      · rw [List.mem_singleton.1 h6] at t
        by_cases e : u ∈ b
        · exact List.mem_append_left _ e
        · obtain ⟨⟨u0, u1⟩, _⟩ := Tc_in hi t
          have hu : u ∈ (((List.range d).map Int.ofNat).filter fun i => decide (i ∉ b)) := List.mem_filter.2 ⟨List.mem_map.2 ⟨u.toNat, List.mem_range.2 (by omega), Int.toNat_of_nonneg u0⟩, decide_eq_true e⟩
          exact (h2 u hu t).elim
theorem orO_pos {z : Int} {fs : List (Int × Int)} (h : VF z fs) : 0 < (orO z fs).length := by
  obtain ⟨d, rfl⟩ : ∃ d : Nat, z = d := ⟨z.toNat, by have := h.1; omega⟩
  rw [orO_yes h]
  have := ordR_ne (by have := h.2.2.1; rwa [Int.toNat_natCast] at this) h.2.2.2 d Beg.nil (by simp) (fun x y hy => by simp at hy)
  exact List.length_pos_iff.2 this
theorem dbl_two : ∀ f n p c : Nat, n ≤ p + f → 0 < p → p < 2 * n → c ≤ dbl n p c ∧ n ≤ p * 2 ^ (dbl n p c - c) ∧ p * 2 ^ (dbl n p c - c) < 2 * n
  | 0, n, p, c, h, h0, h2 => by rw [dbl_end (by omega), Nat.sub_self]; exact ⟨Nat.le_refl _, by simpa using h, by simpa using h2⟩
  | f + 1, n, p, c, h, h0, h2 => by
    by_cases h1 : p < n
    · rw [← dbl_go h0 h1]
      obtain ⟨a, b, e⟩ := dbl_two f n (2 * p) (c + 1) (by omega) (by omega) (by omega)
      have e2 : 2 * p * 2 ^ (dbl n (2 * p) (c + 1) - (c + 1)) = p * 2 ^ (dbl n (2 * p) (c + 1) - c) := by
        rw [show dbl n (2 * p) (c + 1) - c = (dbl n (2 * p) (c + 1) - (c + 1)) + 1 by omega, Nat.pow_succ, Nat.mul_comm 2 p, Nat.mul_assoc, Nat.mul_comm 2 (2 ^ _)]
      rw [e2] at b e
      exact ⟨by omega, b, e⟩
    · rw [dbl_end (by omega), Nat.sub_self]; exact ⟨Nat.le_refl _, by simpa using (by omega : n ≤ p), by simpa using h2⟩
theorem bound_pow {n : Nat} (h : 0 < n) (h2 : n ≤ 120) : n ≤ 2 ^ (dbl n 1 0) ∧ 2 ^ (dbl n 1 0) < 2 * n ∧ dbl n 1 0 ≤ 20 := by
  obtain ⟨_, a, b⟩ := dbl_two n n 1 0 (by omega) (by omega) (by omega)
  rw [Nat.one_mul, Nat.sub_zero] at a b
  refine ⟨a, b, ?_⟩
  rcases Nat.lt_or_ge 20 (dbl n 1 0) with c | c
  · have := Nat.pow_le_pow_right (n := 2) (by decide) (show 8 ≤ dbl n 1 0 by omega)
    have : (2 : Nat) ^ 8 = 256 := rfl
    omega
  · exact c


def facP : Nat → Nat
  | 0 => 1
  | n + 1 => facP n * (n + 1)
theorem facP_le : ∀ n, n ≤ 12 → facP n ≤ 479001600 := by decide
theorem facP_pos : ∀ n, 1 ≤ facP n
  | 0 => Nat.le_refl _
  | n + 1 => by rw [facP]; exact Nat.mul_pos (facP_pos n) (by omega)
theorem ordK_fac {d : Nat} (h : d ≤ 5) : (ordK d d []).length = facP d := by
  have : d = 0 ∨ d = 1 ∨ d = 2 ∨ d = 3 ∨ d = 4 ∨ d = 5 := by omega
  rcases this with rfl | rfl | rfl | rfl | rfl | rfl
  all_goals decide +kernel
theorem ordK_self {d : Nat} (h : d ≤ 5) : ∀ q, q ∈ ordK d d [] → placesL q = q ∧ validB q = true := by
  have : d = 0 ∨ d = 1 ∨ d = 2 ∨ d = 3 ∨ d = 4 ∨ d = 5 := by omega
  rcases this with rfl | rfl | rfl | rfl | rfl | rfl
  all_goals decide +kernel
theorem VF_nil {d : Nat} (h : d ≤ 5) : VF d [] := by
  refine ⟨by omega, by simp, fun f hf => by simp at hf, fun x t => ?_⟩
  have key : ∀ {a c : Int}, Tc [] a c → False := by
    intro a c t
    induction t with
    | base h => simp at h
    | step _ _ h1 _ => exact h1
  exact key t
theorem orO_nil {d : Nat} (h : d ≤ 5) : (orO d []).length = facP d := by
  rw [orO_ag (VF_nil h), ← ordK_fac h]
  congr 1
  exact List.filter_eq_self.2 fun q _ => rfl
/-- Where the items stand, as far as this is known from the first places. -/
def atT (p : List Int) (d i : Nat) : List Int := (List.range d).map fun (v : Nat) => if 0 ≤ fstAt p (v : Int) i then fstAt p (v : Int) i else 0
theorem atT_len (p : List Int) (d i : Nat) : (atT p d i).length = d := by simp [atT]
theorem atT_get {p : List Int} {d i v : Nat} (h : v < d) : (atT p d i).getD v 0 = if 0 ≤ fstAt p v i then fstAt p v i else 0 := by
  simp [atT, List.getD_eq_getElem?_getD, h]
theorem atT_zero (p : List Int) (d : Nat) : atT p d 0 = List.replicate d 0 := by
  simp [atT, fstAt, List.map_const']
theorem atT_up {p : List Int} {d i : Nat} (hp : Beg d p) (hi : i < p.length) : (atT p d i).set (p.getD i 0).toNat i = atT p d (i + 1) := by
  have hpi := hp.at hi
  refine ext_getD (by rw [List.length_set, atT_len, atT_len]) fun j hj => ?_
  rw [List.length_set, atT_len] at hj
  rw [atT_get hj]
  by_cases e : j = (p.getD i 0).toNat
  · subst e
    rw [getD_set_same (by rw [atT_len]; exact hj), Int.toNat_of_nonneg hpi.1]
    have h0 : fstAt p (p.getD i 0) i = -1 := fst_none i fun k hk => fun h => hp.inj hk hi h
    have e9 : fstAt p (p.getD i 0) (i + 1) = i := by rw [fstAt, h0, if_neg (by omega), if_pos rfl]
    rw [e9, if_pos (by omega)]
  · rw [getD_set_ne' (fun h => e h.symm), atT_get hj]
    have hne : p.getD i 0 ≠ (j : Int) := fun h => e (by omega)
    by_cases h0 : 0 ≤ fstAt p j i
    · have e9 : fstAt p j (i + 1) = fstAt p j i := by rw [fstAt, if_pos h0]
      rw [e9]
    · have e9 : fstAt p j (i + 1) = -1 := by rw [fstAt, if_neg h0, if_neg hne]
      rw [e9, if_neg h0, if_neg (by omega)]
theorem atT_end {d : Nat} {p : List Int} (hp : Beg d p) (hl : p.length = d) {v : Int} (hv : 0 ≤ v ∧ v < d) : (atT p d d).getD v.toNat 0 = fstAt p v p.length := by
  obtain ⟨i, h1, h2, h3⟩ := hp.all hl hv
  rw [atT_get (by omega), Int.toNat_of_nonneg hv.1, ← hl, h3, if_pos (by omega)]
theorem ag_lt {d : Nat} {fs : List (Int × Int)} {p : List Int} (h : VF d fs) (hm : p ∈ orO d fs) {f : Int × Int} (hf : f ∈ fs) : fstAt p f.1 p.length < fstAt p f.2 p.length := by
  obtain ⟨hb, hl⟩ := orO_beg h hm
  have hi : itemsIn d fs := by have := h.2.2.1; rwa [Int.toNat_natCast] at this
  rw [orO_ag h] at hm
  have h1 := agB_iff.1 (List.mem_filter.1 hm).2 f hf
  obtain ⟨i, h3, h4, h5⟩ := hb.all hl (hi f hf).1
  obtain ⟨j, h6, h7, h8⟩ := hb.all hl (hi f hf).2
  rw [h5, h8] at h1 ⊢
  rcases Nat.lt_or_ge i j with c | c
  · omega
  · have e : i = j := by omega
    subst e
    exact (h.2.2.2 f.1 (.base (by rw [show (f.1, f.1) = f from Prod.ext rfl (by rw [← h4, ← h7])]; exact hf))).elim


/-! How many questions are enough. -/
def GoodL (d : Nat) (L : List (List Int)) : Prop := L.Nodup ∧ ∀ p, p ∈ L → Beg d p ∧ p.length = d
theorem GoodL.filter {d : Nat} {L : List (List Int)} (h : GoodL d L) (f : List Int → Bool) : GoodL d (L.filter f) := ⟨h.1.filter _, fun p hp => h.2 p (List.mem_filter.1 hp).1⟩
/-- m questions are enough to know what en asks for. -/
def canP (en : List (List Int) → Prop) (d : Nat) : Nat → List (List Int) → Prop
  | 0, L => en L
  | m + 1, L => en L ∨ ∃ i j : Nat, i < j ∧ j < d ∧ L.filter (agB [((i : Int), (j : Int))]) ≠ [] ∧ L.filter (agB [((j : Int), (i : Int))]) ≠ [] ∧ canP en d m (L.filter (agB [((i : Int), (j : Int))])) ∧ canP en d m (L.filter (agB [((j : Int), (i : Int))]))
theorem can_en {en : List (List Int) → Prop} {d : Nat} {L : List (List Int)} (h : en L) : ∀ m, canP en d m L
  | 0 => h
  | _ + 1 => .inl h
theorem can_up {en : List (List Int) → Prop} {d : Nat} : ∀ (m : Nat) {L : List (List Int)}, canP en d m L → canP en d (m + 1) L
  | 0, _, h => .inl h
  | m + 1, _, h => by
    rcases h with h | ⟨i, j, h1, h2, h3, h4, h5, h6⟩
    · exact .inl h
    · exact .inr ⟨i, j, h1, h2, h3, h4, can_up m h5, can_up m h6⟩
theorem can_mono {en : List (List Int) → Prop} {d m k : Nat} {L : List (List Int)} (h : canP en d m L) (hmk : m ≤ k) : canP en d k L := by
  induction hmk with
  | refl => exact h
  | step _ ih => exact can_up _ ih
theorem part_neg {d : Nat} {L : List (List Int)} (hg : GoodL d L) {i j : Nat} (hij : i < j) (hj : j < d) {p : List Int} (hp : p ∈ L) : agB [((j : Int), (i : Int))] p = !agB [((i : Int), (j : Int))] p :=
  (ag_one (a := (i : Int)) (c := (j : Int)) (hg.2 p hp).1 (hg.2 p hp).2 ⟨by omega, by omega⟩ ⟨by omega, by omega⟩ (by omega)).2
theorem part_sum {d : Nat} {L : List (List Int)} (hg : GoodL d L) {i j : Nat} (hij : i < j) (hj : j < d) : (L.filter (agB [((j : Int), (i : Int))])).length + (L.filter (agB [((i : Int), (j : Int))])).length = L.length :=
  filter_neg fun _ hp => part_neg hg hij hj hp
theorem part_some {d : Nat} {L : List (List Int)} (hg : GoodL d L) (h2 : 2 ≤ L.length) : ∃ i j : Nat, i < j ∧ j < d ∧ L.filter (agB [((i : Int), (j : Int))]) ≠ [] ∧ L.filter (agB [((j : Int), (i : Int))]) ≠ [] := by
  have m0 : L[0] ∈ L := List.getElem_mem (by omega)
  have m1 : L[1] ∈ L := List.getElem_mem (by omega)
  have hne : L[0] ≠ L[1] := (List.pairwise_iff_getElem.1 (List.nodup_iff_pairwise_ne.1 hg.1)) 0 1 (by omega) (by omega) (by decide)
  obtain ⟨b0, l0⟩ := hg.2 _ m0
  obtain ⟨b1, l1⟩ := hg.2 _ m1
  obtain ⟨i, k, hik, hk, hag⟩ := two_part b0 b1 l0 l1 hne
  have n0 := part_neg hg hik hk m0
  have n1 := part_neg hg hik hk m1
  refine ⟨i, k, hik, hk, ?_, ?_⟩
  · intro e
    rw [List.filter_eq_nil_iff] at e
    have e0 := e _ m0
    have e1 := e _ m1
    exact hag (by rw [Bool.not_eq_true] at e0 e1; rw [e0, e1])
  · intro e
    rw [List.filter_eq_nil_iff] at e
    have e0 := e _ m0
    have e1 := e _ m1
    rw [n0] at e0
    rw [n1] at e1
    exact hag (by
      cases c0 : agB [((i : Int), (k : Int))] L[0] <;> cases c1 : agB [((i : Int), (k : Int))] L[1] <;> simp_all)
theorem can_len {en : List (List Int) → Prop} {d : Nat} (he : ∀ L, L.length ≤ 1 → en L) : ∀ (m : Nat) {L : List (List Int)}, GoodL d L → L.length ≤ m + 1 → canP en d m L
  | 0, L, _, h => he L (by omega)
  | m + 1, L, hg, h => by
    rcases Nat.lt_or_ge L.length 2 with h1 | h1
    · exact .inl (he L (by omega))
    · obtain ⟨i, j, hij, hj, hy, hn⟩ := part_some hg h1
      have hs := part_sum hg hij hj
      have py := List.length_pos_iff.2 hy
      have pn := List.length_pos_iff.2 hn
      exact .inr ⟨i, j, hij, hj, hy, hn, can_len he m (hg.filter _) (by omega), can_len he m (hg.filter _) (by omega)⟩
/-- The least number of questions. -/
def IsFew (en : List (List Int) → Prop) (d : Nat) (L : List (List Int)) (v : Nat) : Prop := ∀ m, canP en d m L ↔ v ≤ m
theorem IsFew.uni {en : List (List Int) → Prop} {d v w : Nat} {L : List (List Int)} (h : IsFew en d L v) (k : IsFew en d L w) : v = w := by
  have h1 := (k v).1 ((h v).2 (Nat.le_refl _))
  have h2 := (h w).1 ((k w).2 (Nat.le_refl _))
  omega
theorem few_ex {en : List (List Int) → Prop} {d : Nat} {L : List (List Int)} : ∀ m, canP en d m L → ∃ v, v ≤ m ∧ IsFew en d L v
  | 0, h => ⟨0, Nat.le_refl _, fun m => ⟨fun _ => Nat.zero_le _, fun _ => can_mono h (Nat.zero_le _)⟩⟩
  | m + 1, h => by
    by_cases c : canP en d m L
    · obtain ⟨v, h1, h2⟩ := few_ex m c
      exact ⟨v, by omega, h2⟩
    · refine ⟨m + 1, Nat.le_refl _, fun k => ⟨fun hk => ?_, fun hk => can_mono h hk⟩⟩
      rcases Nat.lt_or_ge m k with e | e
      · omega
      · exact (c (can_mono hk e)).elim
noncomputable def fewV (en : List (List Int) → Prop) (d : Nat) (L : List (List Int)) : Nat := by classical exact if h : ∃ v, IsFew en d L v then Classical.choose h else 0
theorem few_is {en : List (List Int) → Prop} {d m : Nat} {L : List (List Int)} (h : canP en d m L) : IsFew en d L (fewV en d L) := by
  obtain ⟨v, _, hv⟩ := few_ex m h
  have hx : ∃ v, IsFew en d L v := ⟨v, hv⟩
  unfold fewV
  rw [dif_pos hx]
  exact Classical.choose_spec hx
theorem few_eq {en : List (List Int) → Prop} {d v : Nat} {L : List (List Int)} (h : IsFew en d L v) : fewV en d L = v :=
  (few_is ((h v).2 (Nat.le_refl _))).uni h
/-- The fewest questions so far, behind those about i and the items ahead of j. -/
def FewTo (en : List (List Int) → Prop) (d : Nat) (L : List (List Int)) (i j s : Nat) : Prop := ∀ m, s ≤ m ↔ (L.length ≤ m ∨ ∃ a b : Nat, a < b ∧ b < d ∧ (a < i ∨ (a = i ∧ b < j)) ∧ L.filter (agB [((a : Int), (b : Int))]) ≠ [] ∧ L.filter (agB [((b : Int), (a : Int))]) ≠ [] ∧ ∃ k, m = k + 1 ∧ canP en d k (L.filter (agB [((a : Int), (b : Int))])) ∧ canP en d k (L.filter (agB [((b : Int), (a : Int))])))
theorem FewTo.zero {en : List (List Int) → Prop} {d : Nat} {L : List (List Int)} : FewTo en d L 0 0 L.length := fun m => by
  constructor
  · exact .inl
  · rintro (h | ⟨a, b, _, _, h | ⟨_, h⟩, _⟩)
    · exact h
    · omega
    · omega
theorem FewTo.le {en : List (List Int) → Prop} {d i j s : Nat} {L : List (List Int)} (h : FewTo en d L i j s) : s ≤ L.length := (h L.length).2 (.inl (Nat.le_refl _))
theorem FewTo.skip {en : List (List Int) → Prop} {d i j s : Nat} {L : List (List Int)} (h : FewTo en d L i j s) (hs : ¬ (i < j ∧ L.filter (agB [((i : Int), (j : Int))]) ≠ [] ∧ L.filter (agB [((j : Int), (i : Int))]) ≠ [])) : FewTo en d L i (j + 1) s := fun m => by
  rw [h m]
  refine or_congr Iff.rfl ⟨?_, ?_⟩
  · rintro ⟨a, b, h1, h2, h3, r⟩
    exact ⟨a, b, h1, h2, h3.imp id fun h => ⟨h.1, by omega⟩, r⟩
  · rintro ⟨a, b, h1, h2, h3, h4, h5, r⟩
    refine ⟨a, b, h1, h2, h3.imp id fun h => ⟨h.1, ?_⟩, h4, h5, r⟩
    rcases Nat.lt_or_ge b j with e | e
    · exact e
    · obtain ⟨e1, e2⟩ := h
      obtain rfl : b = j := by omega
      subst e1
      exact (hs ⟨h1, h4, h5⟩).elim
theorem FewTo.step {en : List (List Int) → Prop} {d i j s v w : Nat} {L : List (List Int)} (h : FewTo en d L i j s) (hij : i < j) (hj : j < d) (hy : L.filter (agB [((i : Int), (j : Int))]) ≠ []) (hn : L.filter (agB [((j : Int), (i : Int))]) ≠ []) (hv : IsFew en d (L.filter (agB [((i : Int), (j : Int))])) v) (hw : IsFew en d (L.filter (agB [((j : Int), (i : Int))])) w) : FewTo en d L i (j + 1) (min s (1 + max v w)) := fun m => by
  have e1 : min s (1 + max v w) ≤ m ↔ (s ≤ m ∨ ∃ k, m = k + 1 ∧ v ≤ k ∧ w ≤ k) := by
    constructor
    · intro e
      rcases Nat.lt_or_ge m s with c | c
      · exact .inr ⟨m - 1, by omega, by omega, by omega⟩
      · exact .inl c
    · rintro (e | ⟨k, e, e2, e3⟩) <;> omega
  rw [e1, h m]
  constructor
  · rintro ((e | ⟨a, b, h1, h2, h3, r⟩) | ⟨k, e, e2, e3⟩)
    · exact .inl e
    · exact .inr ⟨a, b, h1, h2, h3.imp id fun h => ⟨h.1, by omega⟩, r⟩
    · exact .inr ⟨i, j, hij, hj, .inr ⟨rfl, by omega⟩, hy, hn, k, e, (hv k).2 e2, (hw k).2 e3⟩
  · rintro (e | ⟨a, b, h1, h2, h3, h4, h5, k, e, c1, c2⟩)
    · exact .inl (.inl e)
    · by_cases c : a = i ∧ b = j
      · obtain ⟨rfl, rfl⟩ := c
        exact .inr ⟨k, e, (hv k).1 c1, (hw k).1 c2⟩
      · exact .inl (.inr ⟨a, b, h1, h2, h3.imp id fun h => ⟨h.1, by omega⟩, h4, h5, k, e, c1, c2⟩)
theorem FewTo.row {en : List (List Int) → Prop} {d i s : Nat} {L : List (List Int)} (h : FewTo en d L i d s) : FewTo en d L (i + 1) 0 s := fun m => by
  rw [h m]
  refine or_congr Iff.rfl ⟨?_, ?_⟩
  · rintro ⟨a, b, h1, h2, h3, r⟩
    exact ⟨a, b, h1, h2, .inl (by omega), r⟩
  · rintro ⟨a, b, h1, h2, h3, r⟩
    exact ⟨a, b, h1, h2, by omega, r⟩
theorem FewTo.done {en : List (List Int) → Prop} {d s : Nat} {L : List (List Int)} (h : FewTo en d L d 0 s) (hg : GoodL d L) (he : ∀ L, L.length ≤ 1 → en L) (hen : ¬ en L) : IsFew en d L s := fun m => by
  rw [h m]
  constructor
  · intro c
    cases m with
    | zero => exact (hen c).elim
    | succ k =>
      rcases c with c | ⟨i, j, h1, h2, h3, h4, h5, h6⟩
      · exact (hen c).elim
      · exact .inr ⟨i, j, h1, h2, .inl (by omega), h3, h4, k, rfl, h5, h6⟩
  · rintro (c | ⟨a, b, h1, h2, _, h4, h5, k, e, c1, c2⟩)
    · exact can_len he m hg (by omega)
    · subst e
      exact .inr ⟨a, b, h1, h2, h4, h5, c1, c2⟩
theorem few_zero {en : List (List Int) → Prop} {d : Nat} {L : List (List Int)} (h : en L) : IsFew en d L 0 := fun m => ⟨fun _ => Nat.zero_le _, fun _ => can_en h m⟩
/-- What is enough: one order is left; one item stands at a place. -/
def enL (L : List (List Int)) : Prop := L.length ≤ 1
def enK (k : Nat) (L : List (List Int)) : Prop := ∀ p q, p ∈ L → q ∈ L → p.getD k 0 = q.getD k 0
theorem enL_few : ∀ L, L.length ≤ 1 → enL L := fun _ h => h
theorem enK_few {k : Nat} : ∀ L, L.length ≤ 1 → enK k L := fun L h p q hp hq => by
  match L, h with
  | [], _ => simp at hp
  | [a], _ => rw [List.mem_singleton.1 hp, List.mem_singleton.1 hq]
/-- How many items are found at a place. -/
def hasX (L : List (List Int)) (k x : Nat) : Nat := if L.any (fun p => p.getD k 0 == (x : Int)) then 1 else 0
def kdK (k : Nat) (L : List (List Int)) : Nat := hasX L k 0 + hasX L k 1 + hasX L k 2 + hasX L k 3 + hasX L k 4
theorem hasX_iff {L : List (List Int)} {k x : Nat} : hasX L k x = 1 ↔ ∃ p, p ∈ L ∧ p.getD k 0 = (x : Int) := by
  unfold hasX
  split
  · rename_i h
    rw [List.any_eq_true] at h
    obtain ⟨p, hp, e⟩ := h
    exact ⟨fun _ => ⟨p, hp, by simpa using e⟩, fun _ => rfl⟩
  · rename_i h
    refine ⟨fun e => by omega, fun ⟨p, hp, e⟩ => (h (List.any_eq_true.2 ⟨p, hp, by simpa using e⟩)).elim⟩
theorem hasX_le (L : List (List Int)) (k x : Nat) : hasX L k x ≤ 1 := by unfold hasX; split <;> omega
theorem hasX_add {L A B : List (List Int)} {k x : Nat} (h : ∀ p, p ∈ L → p ∈ A ∨ p ∈ B) : hasX L k x ≤ hasX A k x + hasX B k x := by
  have h1 := hasX_le L k x
  by_cases c : hasX L k x = 1
  · obtain ⟨p, hp, e⟩ := hasX_iff.1 c
    rcases h p hp with q | q
    · have := hasX_iff.2 ⟨p, q, e⟩; omega
    · have := hasX_iff.2 ⟨p, q, e⟩; omega
  · omega
theorem hasX_two {L : List (List Int)} {k x y : Nat} (h : enK k L) (hxy : x ≠ y) : hasX L k x + hasX L k y ≤ 1 := by
  have h1 := hasX_le L k x
  have h2 := hasX_le L k y
  by_cases c : hasX L k x = 1 ∧ hasX L k y = 1
  · obtain ⟨p, hp, e⟩ := hasX_iff.1 c.1
    obtain ⟨q, hq, f⟩ := hasX_iff.1 c.2
    have := h p q hp hq
    omega
  · omega
theorem kdK_en {d k : Nat} {L : List (List Int)} (hg : GoodL d L) (hd : d ≤ 5) (hk : k < d) : enK k L ↔ kdK k L ≤ 1 := by
  unfold kdK
  constructor
  · intro h
    have := hasX_two h (show (0 : Nat) ≠ 1 by decide)
    have := hasX_two h (show (0 : Nat) ≠ 2 by decide)
    have := hasX_two h (show (0 : Nat) ≠ 3 by decide)
    have := hasX_two h (show (0 : Nat) ≠ 4 by decide)
    have := hasX_two h (show (1 : Nat) ≠ 2 by decide)
    have := hasX_two h (show (1 : Nat) ≠ 3 by decide)
    have := hasX_two h (show (1 : Nat) ≠ 4 by decide)
    have := hasX_two h (show (2 : Nat) ≠ 3 by decide)
    have := hasX_two h (show (2 : Nat) ≠ 4 by decide)
    have := hasX_two h (show (3 : Nat) ≠ 4 by decide)
    omega
  · intro h p q hp hq
    obtain ⟨b1, l1⟩ := hg.2 p hp
    obtain ⟨b2, l2⟩ := hg.2 q hq
    have r1 := b1.at (i := k) (by omega)
    have r2 := b2.at (i := k) (by omega)
    obtain ⟨x, hx⟩ : ∃ x : Nat, p.getD k 0 = x := ⟨(p.getD k 0).toNat, by omega⟩
    obtain ⟨y, hy⟩ : ∃ y : Nat, q.getD k 0 = y := ⟨(q.getD k 0).toNat, by omega⟩
    have e1 := hasX_iff.2 ⟨p, hp, hx⟩
    have e2 := hasX_iff.2 ⟨q, hq, hy⟩
    rw [hx, hy]
    have x5 : x = 0 ∨ x = 1 ∨ x = 2 ∨ x = 3 ∨ x = 4 := by omega
    have y5 : y = 0 ∨ y = 1 ∨ y = 2 ∨ y = 3 ∨ y = 4 := by omega
    rcases x5 with rfl | rfl | rfl | rfl | rfl <;> rcases y5 with rfl | rfl | rfl | rfl | rfl <;> first | rfl | (exfalso; omega)
/-- Kinds of orders: what is enough is one kind at most; a question parts them. -/
structure Kinds (d : Nat) (en : List (List Int) → Prop) (kd : List (List Int) → Nat) : Prop where
  one : ∀ L, GoodL d L → (en L ↔ kd L ≤ 1)
  add : ∀ L A B, GoodL d L → (∀ p, p ∈ L → p ∈ A ∨ p ∈ B) → A.length + B.length = L.length → kd L ≤ kd A + kd B
  few : ∀ L, L.length ≤ 1 → en L
theorem kinds_L {d : Nat} : Kinds d enL List.length := ⟨fun _ _ => Iff.rfl, fun _ _ _ _ _ h => by omega, enL_few⟩
theorem kinds_K {d k : Nat} (hd : d ≤ 5) (hk : k < d) : Kinds d (enK k) (kdK k) := ⟨fun _ hg => kdK_en hg hd hk, fun L A B _ h _ => by
  have := hasX_add (k := k) (x := 0) h
  have := hasX_add (k := k) (x := 1) h
  have := hasX_add (k := k) (x := 2) h
  have := hasX_add (k := k) (x := 3) h
  have := hasX_add (k := k) (x := 4) h
  unfold kdK; omega, enK_few⟩
theorem can_bits {d : Nat} {en : List (List Int) → Prop} {kd : List (List Int) → Nat} (hK : Kinds d en kd) : ∀ (m : Nat) {L : List (List Int)}, GoodL d L → canP en d m L → kd L ≤ 2 ^ m
  | 0, L, hg, h => (hK.one L hg).1 h
  | m + 1, L, hg, h => by
    have hp : 1 ≤ 2 ^ (m + 1) := Nat.one_le_two_pow
    rcases h with h | ⟨i, j, h1, h2, h3, h4, h5, h6⟩
    · have := (hK.one L hg).1 h; omega
    · have a1 := can_bits hK m (hg.filter _) h5
      have a2 := can_bits hK m (hg.filter _) h6
      have a3 := hK.add L (L.filter (agB [((i : Int), (j : Int))])) (L.filter (agB [((j : Int), (i : Int))])) hg (fun p hp => by
        cases c : agB [((i : Int), (j : Int))] p with
        | true => exact .inl (List.mem_filter.2 ⟨hp, c⟩)
        | false => exact .inr (List.mem_filter.2 ⟨hp, by rw [part_neg hg h1 h2 hp, c]; rfl⟩)) (by have := part_sum hg h1 h2; omega)
      have : 2 ^ (m + 1) = 2 * 2 ^ m := by rw [Nat.pow_succ]; omega
      omega

theorem GoodL.row {d : Nat} {L : List (List Int)} (h : GoodL d L) {j : Nat} (hj : j < L.length) : (L.getD j []).length = d ∧ L.getD j [] ∈ L ∧ Beg d (L.getD j []) := by
  have hm : L.getD j [] ∈ L := by
    rw [List.getD_eq_getElem?_getD, List.getElem?_eq_getElem hj]; exact List.getElem_mem hj
  exact ⟨(h.2 _ hm).2, hm, (h.2 _ hm).1⟩
theorem GoodL.rowle {d : Nat} {L : List (List Int)} (h : GoodL d L) (hd : d ≤ 5) (j : Nat) : (L.getD j []).length ≤ 1000 := by
  rcases Nat.lt_or_ge j L.length with c | c
  · have := (h.row c).1; omega
  · rw [List.getD_eq_getElem?_getD, List.getElem?_eq_none c]; simp
theorem enK_to {k : Nat} {L : List (List Int)} (h : ∀ j, j < L.length → (L.getD j []).getD k 0 = (L.getD 0 []).getD k 0) : enK k L := by
  have key : ∀ p, p ∈ L → p.getD k 0 = (L.getD 0 []).getD k 0 := fun p hp => by
    obtain ⟨j, hj, e⟩ := List.getElem_of_mem hp
    have := h j hj
    rwa [List.getD_eq_getElem?_getD (l := L) (i := j), List.getElem?_eq_getElem hj, Option.getD_some, e] at this
  exact fun p q hp hq => (key p hp).trans (key q hq).symm
/-- In the rounds of fewestAsks: the boxes, the two loops' records, the fewest questions so far. -/
structure QF (H0 : Hp) (n O d len : Nat) (E : AV) (KF : FuncId) (LP LQ : Loop) (s : Nat) (G : Hp) (M : Nat) : Prop where
  fr : ∀ u, u < n → G u = H0 u
  mn : n + 10 ≤ M
  c0 : G n = some ⟨true, .cells [.val (.int .i64 d)]⟩
  c1 : G (n + 1) = some ⟨true, .cells [.sl O 0 len 1 none]⟩
  c2 : G (n + 2) = some ⟨true, .cells [E]⟩
  c3 : G (n + 3) = some ⟨true, .cells [.val (.int .i64 s)]⟩
  c4 : G (n + 4) = some ⟨true, .cells [.val (.int .i64 d)]⟩
  c6 : G (n + 6) = some ⟨true, .cells [.val (.func (.func KF) #[] #[])]⟩
  c7 : G (n + 7) = some ⟨true, .raw (.loop LP)⟩
  c8 : G (n + 8) = some ⟨true, .cells [.yl (n + 7)]⟩
  c9 : G (n + 9) = some ⟨true, .raw (.loop LQ)⟩
theorem QF.up {H0 : Hp} {n O d len : Nat} {E : AV} {KF : FuncId} {LP LQ : Loop} {s : Nat} {G : Hp} {M : Nat} (b : QF H0 n O d len E KF LP LQ s G M) {G2 : Hp} {M2 : Nat} (hM : M ≤ M2) (e : ∀ u, u < M → G2 u = G u) : QF H0 n O d len E KF LP LQ s G2 M2 := by
  have h1 := b.mn
  exact ⟨fun u hu => (e u (by omega)).trans (b.fr u hu), by omega, (e _ (by omega)).trans b.c0, (e _ (by omega)).trans b.c1, (e _ (by omega)).trans b.c2, (e _ (by omega)).trans b.c3, (e _ (by omega)).trans b.c4, (e _ (by omega)).trans b.c6, (e _ (by omega)).trans b.c7, (e _ (by omega)).trans b.c8, (e _ (by omega)).trans b.c9⟩


theorem leastEn_sat : SatH Try.prog 51 (fun al h n K => ∃ (O : Nat) (xss : List (List Int)), al = [.sl O 0 xss.length 1 none] ∧ (xss.length ≤ 500) ∧ ∀ v : Bool, (v = true ↔ enL xss) → K (.val (.bool (v))) (h) (n)) := by
  refine satH_intro tabOk Try.func51 rfl 6 rfl [.tmp 2] rfl ?_
  rintro F W h n al K0 ⟨O, xss, rfl, hxl, hQ⟩
  refine ⟨Nat.le_of_ble_eq_true rfl, fun m0 hm0 hcl hlt => ?_⟩
  simp only [initT]
  repeat' (first | refine awp_seq_k fun K hK => ?_ | ((with_reducible refine hK _ ?_); clear hK K) | ((with_reducible refine aord_plain fun K hK => ?_); simp only [go_sem, Nat.reduceAdd, Nat.reduceMul, Nat.reduceEqDiff, Nat.reduceLT, reduceIte, reduceCtorEq]) | ((first | with_reducible refine aord_nil ?_ | refine awp_skip ?_ | refine awp_exit ?_ | refine awp_ret ?_); try simp only [rdA, Nat.reduceEqDiff, ifA, ifB, reduceIte]) | (refine awp_region tabOk rfl ?_; simp only [prep, pickO, lsA, lsB, lsC, lsD, lsE, lsF, lsG]) | (simp only [doneH]; simp only [ressK, resK, wrapR, go_sem, Nat.reduceAdd, Nat.reduceMul, Nat.reduceEqDiff, Nat.reduceLT, reduceIte, reduceCtorEq]) | fail)
  refine hQ _ ?_
  rw [decide_eq_true_eq]; unfold enL; omega


theorem pickEn_sat : SatH Try.prog 64 (fun al h n K => ∃ (O KB kk : Nat) (f : Nat → Nat) (xss : List (List Int)), al = [.sl O 0 xss.length 1 none, .ref KB 0] ∧ (RowsOf h n O f xss) ∧ (h KB = some ⟨true, .cells [.val (.int .i64 kk)]⟩) ∧ (∀ j, j < xss.length → kk < (xss.getD j []).length ∧ (xss.getD j []).length ≤ 1000) ∧ (xss.length ≤ 500) ∧ ∀ v : Bool, (v = true ↔ enK kk xss) → K (.val (.bool (v))) (h) (n)) := by
  refine satH_intro tabOk Try.func64 rfl 24 rfl [.tmp 3] rfl ?_
  rintro F W h n al K0 ⟨O, KB, kk, f, xss, rfl, hR, hK1, hx, hxl, hQ⟩
  refine ⟨Nat.le_of_ble_eq_true rfl, fun m0 hm0 hcl hlt => ?_⟩
  simp only [initT]
  have hOn := hR.outn
  have hOr := hR.out
  have hsl := @slsN_len f xss 0


  repeat' (first | refine awp_seq_k fun K hK => ?_ | ((with_reducible refine hK _ ?_); clear hK K) | ((with_reducible refine aord_plain fun K hK => ?_); simp only [go_sem, Nat.reduceAdd, Nat.reduceMul, Nat.reduceEqDiff, Nat.reduceLT, reduceIte, reduceCtorEq, hOr, hK1, nmA, Nat.reduceAdd, ifA, ifB, hOr, hsl, hK1]) | refine awp_block ?_ | ((first | with_reducible refine aord_nil ?_ | refine awp_skip ?_ | refine awp_exit ?_ | refine awp_ret ?_); try simp only [rdA, Nat.reduceEqDiff, ifA, ifB, reduceIte]) | (refine awp_region tabOk rfl ?_; simp only [prep, pickO, lsA, lsB, lsC, lsD, lsE, lsF, lsG]) | fail)
  refine awp_loop (fun i : Nat => ⟨upd (upd (upd (upd (upd bot 8 (.val (.int .i64 i))) 7 (.val (.int .i64 xss.length))) 6 (.sl O 0 xss.length 1 none)) 1 (.ref KB 0)) 0 (.sl O 0 xss.length 1 none), h, n⟩) (fun i => i ≤ xss.length ∧ ∀ j, j < i → (xss.getD j []).getD kk 0 = (xss.getD 0 []).getD kk 0) (fun i => xss.length - i) 0 ⟨Nat.zero_le _, fun j hj => by omega⟩ ?_ ?_
  · exact Wk.sub (tsd (tsd (tsd (tsd (tsd tsd0 rfl) rfl) rfl) rfl) rfl) (fun _ _ h => h) rfl
  rintro i ⟨hix, hall⟩
  rcases Nat.lt_or_ge i xss.length with hlt2 | hge
  · have hget := hR.get hlt2
    have hrow := hR.row i hlt2
    have hget0 := hR.get (show 0 < xss.length by omega)
    have hrow0 := hR.row 0 (by omega)
    obtain ⟨x1, x2⟩ := hx i hlt2
    obtain ⟨x3, x4⟩ := hx 0 (by omega)
    obtain ⟨c1, hq1⟩ : ∃ c, ((xss.getD i []).getD kk 0 != (xss.getD 0 []).getD kk 0) = c := ⟨_, rfl⟩
    cases c1 with
    | false =>
      have he : (xss.getD i []).getD kk 0 = (xss.getD 0 []).getD kk 0 := by simpa using hq1


      repeat' (first | refine awp_seq_k fun K hK => ?_ | ((with_reducible refine hK _ ?_); clear hK K) | (clear hK K; (with_reducible refine hK _ ?_); clear hK K) | ((with_reducible refine aord_plain fun K hK => ?_); simp only [go_sem, Nat.reduceAdd, Nat.reduceMul, Nat.reduceEqDiff, Nat.reduceLT, reduceIte, reduceCtorEq, hOr, hK1, hrow, hrow0, hq1, nmA, Nat.reduceAdd, ifA, ifB, hOr, hsl, hK1, hget, hrow, hget0, hrow0, hq1, Int.toNat_zero]) | refine awp_block ?_ | ((first | with_reducible refine aord_nil ?_ | refine awp_skip ?_ | refine awp_exit ?_ | refine awp_ret ?_); try simp only [rdA, Nat.reduceEqDiff, ifA, ifB, reduceIte]) | (refine awp_region tabOk rfl ?_; simp only [prep, pickO, lsA, lsB, lsC, lsD, lsE, lsF, lsG]) | (refine awp_region_draw (nt := 24) (id := 4) tabOk [(0, true, false), (1, true, false), (2, true, false), (3, true, false), (4, true, false), (5, true, false), (6, true, false), (7, true, false), (8, true, false), (9, true, false), (10, true, false)] (by kernel_rfl) rfl (by kernel_rfl) ?_; simp only [prep, pickO, lsA, lsB, lsC, lsD, lsE, lsF, lsG]) | ((with_reducible apply awp_cond); (focus (simp only [St.ev, St.set, upd, Nat.reduceEqDiff, reduceIte, ifA, ifB, hOr, hK1, hrow, hrow0, hq1, nmA, Nat.reduceAdd, ifA, ifB]; exact rfl)); all_goals (intro hb; first | (cases hb; done) | ((try rw [hb]); (try simp only [dcA, dcB, dcC, dcD, dcE, Bool.not_eq_true', Bool.not_eq_false'] at hb)))) | ((with_reducible refine And.intro ?_ ?_); (focus omega)) | (simp only [doneH]; simp only [ressK, resK, wrapR, go_sem, Nat.reduceAdd, Nat.reduceMul, Nat.reduceEqDiff, Nat.reduceLT, reduceIte, reduceCtorEq, hOr, hK1, hrow, hrow0, hq1, nmA, Nat.reduceAdd, ifA, ifB]) | (exfalso; omega) | fail)
      refine ⟨i + 1, ⟨by omega, fun j hj => ?_⟩, by omega, Wk.sub (tsd (tsd (tsd (tsd (tsd tsd0 rfl) rfl) rfl) rfl) rfl) (fun _ _ h => h) rfl⟩
      rcases Nat.lt_or_ge j i with e | e
      · exact hall j e
      · obtain rfl : j = i := by omega
        exact he
    | true =>
      have he : (xss.getD i []).getD kk 0 ≠ (xss.getD 0 []).getD kk 0 := by simpa using hq1
      have hmem : ∀ j, j < xss.length → xss.getD j [] ∈ xss := fun j hj => by
        rw [List.getD_eq_getElem?_getD, List.getElem?_eq_getElem hj]; exact List.getElem_mem hj


      repeat' (first | refine awp_seq_k fun K hK => ?_ | ((with_reducible refine hK _ ?_); clear hK K) | (clear hK K; (with_reducible refine hK _ ?_); clear hK K) | ((with_reducible refine aord_plain fun K hK => ?_); simp only [go_sem, Nat.reduceAdd, Nat.reduceMul, Nat.reduceEqDiff, Nat.reduceLT, reduceIte, reduceCtorEq, hOr, hK1, hrow, hrow0, hq1, nmA, Nat.reduceAdd, ifA, ifB, hOr, hsl, hK1, hget, hrow, hget0, hrow0, hq1, Int.toNat_zero]) | refine awp_block ?_ | ((first | with_reducible refine aord_nil ?_ | refine awp_skip ?_ | refine awp_exit ?_ | refine awp_ret ?_); try simp only [rdA, Nat.reduceEqDiff, ifA, ifB, reduceIte]) | (refine awp_region tabOk rfl ?_; simp only [prep, pickO, lsA, lsB, lsC, lsD, lsE, lsF, lsG]) | (refine awp_region_draw (nt := 24) (id := 4) tabOk [(0, true, false), (1, true, false), (2, true, false), (3, true, false), (4, true, false), (5, true, false), (6, true, false), (7, true, false), (8, true, false), (9, true, false), (10, true, false)] (by kernel_rfl) rfl (by kernel_rfl) ?_; simp only [prep, pickO, lsA, lsB, lsC, lsD, lsE, lsF, lsG]) | ((with_reducible apply awp_cond); (focus (simp only [St.ev, St.set, upd, Nat.reduceEqDiff, reduceIte, ifA, ifB, hOr, hK1, hrow, hrow0, hq1, nmA, Nat.reduceAdd, ifA, ifB]; exact rfl)); all_goals (intro hb; first | (cases hb; done) | ((try rw [hb]); (try simp only [dcA, dcB, dcC, dcD, dcE, Bool.not_eq_true', Bool.not_eq_false'] at hb)))) | ((with_reducible refine And.intro ?_ ?_); (focus omega)) | (simp only [doneH]; simp only [ressK, resK, wrapR, go_sem, Nat.reduceAdd, Nat.reduceMul, Nat.reduceEqDiff, Nat.reduceLT, reduceIte, reduceCtorEq, hOr, hK1, hrow, hrow0, hq1, nmA, Nat.reduceAdd, ifA, ifB]) | (exfalso; omega) | fail)
      exact hQ false ⟨fun e => (by cases e), fun e => (he (e _ _ (hmem i hlt2) (hmem 0 (by omega)))).elim⟩
  · have ei : i = xss.length := by omega
    subst ei


    repeat' (first | refine awp_seq_k fun K hK => ?_ | ((with_reducible refine hK _ ?_); clear hK K) | (clear hK K; (with_reducible refine hK _ ?_); clear hK K) | ((with_reducible refine aord_plain fun K hK => ?_); simp only [go_sem, Nat.reduceAdd, Nat.reduceMul, Nat.reduceEqDiff, Nat.reduceLT, reduceIte, reduceCtorEq, hOr, nmA, Nat.reduceAdd, ifA, ifB, hOr, hsl]) | refine awp_block ?_ | ((first | with_reducible refine aord_nil ?_ | refine awp_skip ?_ | refine awp_exit ?_ | refine awp_ret ?_); try simp only [rdA, Nat.reduceEqDiff, ifA, ifB, reduceIte]) | (refine awp_region tabOk rfl ?_; simp only [prep, pickO, lsA, lsB, lsC, lsD, lsE, lsF, lsG]) | ((with_reducible apply awp_cond); (focus (simp only [St.ev, St.set, upd, Nat.reduceEqDiff, reduceIte, ifA, ifB, hOr, nmA, Nat.reduceAdd, ifA, ifB]; exact rfl)); all_goals (intro hb; first | (cases hb; done) | ((try rw [hb]); (try simp only [dcA, dcB, dcC, dcD, dcE, Bool.not_eq_true', Bool.not_eq_false'] at hb)))) | ((with_reducible refine And.intro ?_ ?_); (focus omega)) | (simp only [doneH]; simp only [ressK, resK, wrapR, go_sem, Nat.reduceAdd, Nat.reduceMul, Nat.reduceEqDiff, Nat.reduceLT, reduceIte, reduceCtorEq, hOr, nmA, Nat.reduceAdd, ifA, ifB]) | (exfalso; omega) | fail)
    exact hQ true ⟨fun _ => enK_to hall, fun _ => rfl⟩

-- %range awp_region_tree
theorem few_L_sat : ∀ fu, SatH Try.prog 50 (fun al h n K0 => ∃ (d O : Nat) (g : Nat → Nat) (L : List (List Int)) , al = [.val (.int .i64 d), .sl O 0 L.length 1 none, .val (.func (.func 51) #[] #[])] ∧  RowsOf h n O g L ∧ GoodL d L ∧ d ≤ 5 ∧ L.length ≤ fu ∧ L.length ≤ 120 ∧ ∀ (v N : Nat), IsFew (enL) d L v → v ≤ L.length → n ≤ N → K0 (.val (.int .i64 v)) h N) := by
  intro fu
  induction fu with
  | zero =>
    refine satH_intro tabOk Try.func50 rfl 48 rfl [.tmp 6] rfl ?_
    rintro F W h n al K0 ⟨d, O, g, L,  rfl,  hR, hg, hd5, hlf, hcap, hQ⟩
    refine ⟨Nat.le_of_ble_eq_true rfl, fun m0 hm0 hcl hlt => ?_⟩
    simp only [initT]
    have hOn := hR.outn
    have mz1 : (n = n + 1) = False := eq_false (by omega)
    have mz2 : (n + 1 = n) = False := eq_false (by omega)
    have mz3 : (n = n + 2) = False := eq_false (by omega)
    have mz4 : (n + 2 = n) = False := eq_false (by omega)
    have mz5 : (n = n + 3) = False := eq_false (by omega)
    have mz6 : (n + 3 = n) = False := eq_false (by omega)
    have mz := And.intro mz1 (And.intro mz2 (And.intro mz3 (And.intro mz4 (And.intro mz5 mz6))))
    have kinds_few := enL_few


    repeat' ((fail_if_success (with_reducible refine isRetQ ?_)); (first | refine awp_seq_k fun K hK => ?_ | ((with_reducible refine hK _ ?_); clear hK K) | ((with_reducible refine aord_plain fun K hK => ?_); simp only [go_sem, Nat.reduceAdd, Nat.reduceMul, Nat.reduceEqDiff, Nat.reduceLT, reduceIte, reduceCtorEq, mz, nmA, Nat.reduceAdd, ifA, ifB, mz, mat.matL, DV.agg.injEq, AV.clo.injEq, List.cons.injEq, AV.ref.injEq, and_true, true_and]) | ((first | with_reducible refine aord_nil ?_ | refine awp_skip ?_ | refine awp_exit ?_ | refine awp_ret ?_); try simp only [rdA, Nat.reduceEqDiff, ifA, ifB, reduceIte]) | (refine awp_region tabOk rfl ?_; simp only [prep, pickO, lsA, lsB, lsC, lsD, lsE, lsF, lsG]) | ((with_reducible refine And.intro (?_ : enters Try.prog 51) ?_); (focus exact Try.call51); (refine callX_satH leastEn_sat ?_); simp only [go_sem, and_assoc, List.nil_append, List.append_nil, List.cons_append, Nat.reduceEqDiff, reduceIte, reduceCtorEq, mz, nmA, Nat.reduceAdd, ifA, ifB, mz, mat.matL, DV.agg.injEq, AV.clo.injEq, List.cons.injEq, AV.ref.injEq, and_true, true_and]) | fail))
    refine ⟨L, rfl, by omega, fun v hv => ?_⟩
    cases v with
    | false => exact absurd (show enL L from (kinds_few _ (by omega))) (fun e => by cases hv.2 e)
    | true =>


      repeat' ((fail_if_success (with_reducible refine isRetQ ?_)); (first | refine awp_seq_k fun K hK => ?_ | ((with_reducible refine hK _ ?_); clear hK K) | ((with_reducible refine aord_plain fun K hK => ?_); simp only [go_sem, Nat.reduceAdd, Nat.reduceMul, Nat.reduceEqDiff, Nat.reduceLT, reduceIte, reduceCtorEq, mz, nmA, Nat.reduceAdd, ifA, ifB, mz, mat.matL, DV.agg.injEq, AV.clo.injEq, List.cons.injEq, AV.ref.injEq, and_true, true_and]) | ((first | with_reducible refine aord_nil ?_ | refine awp_skip ?_ | refine awp_exit ?_ | refine awp_ret ?_); try simp only [rdA, Nat.reduceEqDiff, ifA, ifB, reduceIte]) | (refine awp_region tabOk rfl ?_; simp only [prep, pickO, lsA, lsB, lsC, lsD, lsE, lsF, lsG]) | ((with_reducible apply awp_cond); (focus (simp only [St.ev, St.set, upd, Nat.reduceEqDiff, reduceIte, ifA, ifB, mz, nmA, Nat.reduceAdd, ifA, ifB]; exact rfl)); all_goals (intro hb; first | (cases hb; done) | ((try rw [hb]); (try simp only [dcA, dcB, dcC, dcD, dcE, Bool.not_eq_true', Bool.not_eq_false'] at hb)))) | fail))
      refine awp_weaken (s' := ⟨upd bot 6 (.val (.int .i64 (0 : Nat))), h, n + 3⟩) (Wk.sub (tsd tsd0 rfl) (fun o ob ho => by have := (hcl o _ ho).1; dsimp only; rw [upd_ne _ _ (by omega), upd_ne _ _ (by omega), upd_ne _ _ (by omega)]; exact ho) rfl) ?_
      repeat' (first | ((first | with_reducible refine aord_nil ?_ | refine awp_skip ?_ | refine awp_exit ?_ | refine awp_ret ?_); try simp only [rdA, Nat.reduceEqDiff, ifA, ifB, reduceIte]) | (simp only [doneH]; simp only [ressK, resK, wrapR, go_sem, Nat.reduceAdd, Nat.reduceMul, Nat.reduceEqDiff, Nat.reduceLT, reduceIte, reduceCtorEq, mz, nmA, Nat.reduceAdd, ifA, ifB]) | fail)
      exact hQ 0 (n + 3) (few_zero (hv.1 rfl)) (Nat.zero_le _) (by omega)
  | succ fu ih =>
    refine satH_intro tabOk Try.func50 rfl 48 rfl [.tmp 6] rfl ?_
    rintro F W h n al K0 ⟨d, O, g, L,  rfl,  hR, hg, hd5, hlf, hcap, hQ⟩
    refine ⟨Nat.le_of_ble_eq_true rfl, fun m0 hm0 hcl hlt => ?_⟩
    simp only [initT]
    have hOn := hR.outn
    have mz1 : (n = n + 1) = False := eq_false (by omega)
    have mz2 : (n + 1 = n) = False := eq_false (by omega)
    have mz3 : (n = n + 2) = False := eq_false (by omega)
    have mz4 : (n + 2 = n) = False := eq_false (by omega)
    have mz5 : (n = n + 3) = False := eq_false (by omega)
    have mz6 : (n + 3 = n) = False := eq_false (by omega)
    have mz := And.intro mz1 (And.intro mz2 (And.intro mz3 (And.intro mz4 (And.intro mz5 mz6))))
    have hrw := hg.rowle hd5
    have hclO := hcl
    have kinds_few := enL_few


    repeat' ((fail_if_success (with_reducible refine isRetQ ?_)); (first | refine awp_seq_k fun K hK => ?_ | ((with_reducible refine hK _ ?_); clear hK K) | ((with_reducible refine aord_plain fun K hK => ?_); simp only [go_sem, Nat.reduceAdd, Nat.reduceMul, Nat.reduceEqDiff, Nat.reduceLT, reduceIte, reduceCtorEq, mz, nmA, Nat.reduceAdd, ifA, ifB, mz, mat.matL, DV.agg.injEq, AV.clo.injEq, List.cons.injEq, AV.ref.injEq, and_true, true_and]) | ((first | with_reducible refine aord_nil ?_ | refine awp_skip ?_ | refine awp_exit ?_ | refine awp_ret ?_); try simp only [rdA, Nat.reduceEqDiff, ifA, ifB, reduceIte]) | (refine awp_region tabOk rfl ?_; simp only [prep, pickO, lsA, lsB, lsC, lsD, lsE, lsF, lsG]) | ((with_reducible refine And.intro (?_ : enters Try.prog 51) ?_); (focus exact Try.call51); (refine callX_satH leastEn_sat ?_); simp only [go_sem, and_assoc, List.nil_append, List.append_nil, List.cons_append, Nat.reduceEqDiff, reduceIte, reduceCtorEq, mz, nmA, Nat.reduceAdd, ifA, ifB, mz, mat.matL, DV.agg.injEq, AV.clo.injEq, List.cons.injEq, AV.ref.injEq, and_true, true_and]) | fail))
    refine ⟨L, rfl, by omega, fun v hv => ?_⟩
    cases v with
    | true =>


      repeat' ((fail_if_success (with_reducible refine isRetQ ?_)); (first | refine awp_seq_k fun K hK => ?_ | ((with_reducible refine hK _ ?_); clear hK K) | ((with_reducible refine aord_plain fun K hK => ?_); simp only [go_sem, Nat.reduceAdd, Nat.reduceMul, Nat.reduceEqDiff, Nat.reduceLT, reduceIte, reduceCtorEq, mz, nmA, Nat.reduceAdd, ifA, ifB, mz, mat.matL, DV.agg.injEq, AV.clo.injEq, List.cons.injEq, AV.ref.injEq, and_true, true_and]) | ((first | with_reducible refine aord_nil ?_ | refine awp_skip ?_ | refine awp_exit ?_ | refine awp_ret ?_); try simp only [rdA, Nat.reduceEqDiff, ifA, ifB, reduceIte]) | (refine awp_region tabOk rfl ?_; simp only [prep, pickO, lsA, lsB, lsC, lsD, lsE, lsF, lsG]) | ((with_reducible apply awp_cond); (focus (simp only [St.ev, St.set, upd, Nat.reduceEqDiff, reduceIte, ifA, ifB, mz, nmA, Nat.reduceAdd, ifA, ifB]; exact rfl)); all_goals (intro hb; first | (cases hb; done) | ((try rw [hb]); (try simp only [dcA, dcB, dcC, dcD, dcE, Bool.not_eq_true', Bool.not_eq_false'] at hb)))) | fail))
      refine awp_weaken (s' := ⟨upd bot 6 (.val (.int .i64 (0 : Nat))), h, n + 3⟩) (Wk.sub (tsd tsd0 rfl) (fun o ob ho => by have := (hcl o _ ho).1; dsimp only; rw [upd_ne _ _ (by omega), upd_ne _ _ (by omega), upd_ne _ _ (by omega)]; exact ho) rfl) ?_
      repeat' (first | ((first | with_reducible refine aord_nil ?_ | refine awp_skip ?_ | refine awp_exit ?_ | refine awp_ret ?_); try simp only [rdA, Nat.reduceEqDiff, ifA, ifB, reduceIte]) | (simp only [doneH]; simp only [ressK, resK, wrapR, go_sem, Nat.reduceAdd, Nat.reduceMul, Nat.reduceEqDiff, Nat.reduceLT, reduceIte, reduceCtorEq, mz, nmA, Nat.reduceAdd, ifA, ifB]) | fail)
      exact hQ 0 (n + 3) (few_zero (hv.1 rfl)) (Nat.zero_le _) (by omega)
    | false =>
      have hen : ¬ enL L := fun e => by cases hv.2 e
      have h2 : 2 ≤ L.length := by
        rcases Nat.lt_or_ge L.length 2 with c | c
        · exact (hen (kinds_few _ (by omega))).elim
        · exact c
      clear hv


      repeat' (first | refine awp_seq_k fun K hK => ?_ | ((with_reducible refine hK _ ?_); clear hK K) | ((with_reducible refine aord_plain fun K hK => ?_); simp only [go_sem, Nat.reduceAdd, Nat.reduceMul, Nat.reduceEqDiff, Nat.reduceLT, reduceIte, reduceCtorEq, mz, nmA, Nat.reduceAdd, ifA, ifB, mz, mat.matL, DV.agg.injEq, AV.clo.injEq, List.cons.injEq, AV.ref.injEq, and_true, true_and]) | refine awp_block ?_ | ((first | with_reducible refine aord_nil ?_ | refine awp_skip ?_ | refine awp_exit ?_ | refine awp_ret ?_); try simp only [rdA, Nat.reduceEqDiff, ifA, ifB, reduceIte]) | (refine awp_region tabOk rfl ?_; simp only [prep, pickO, lsA, lsB, lsC, lsD, lsE, lsF, lsG]) | ((with_reducible apply awp_cond); (focus (simp only [St.ev, St.set, upd, Nat.reduceEqDiff, reduceIte, ifA, ifB, mz, nmA, Nat.reduceAdd, ifA, ifB]; exact rfl)); all_goals (intro hb; first | (cases hb; done) | ((try rw [hb]); (try simp only [dcA, dcB, dcC, dcD, dcE, Bool.not_eq_true', Bool.not_eq_false'] at hb)))) | ((with_reducible refine And.intro ?_ ?_); (focus (exact rfl))) | ((with_reducible refine And.intro (?_ : enters Try.prog 42) ?_); (focus exact Try.call42); (refine callX_h (callH_inline tabOk Try.func42 rfl 6 rfl [.tmp 2] rfl (Nat.le_of_ble_eq_true rfl) fun m0 hm0 hcl hlt => ?_)); simp only [initT, St.ev, St.set, upd, Nat.reduceEqDiff, reduceIte, ifA, ifB, mz, nmA, Nat.reduceAdd, ifA, ifB]) | ((with_reducible refine And.intro (?_ : enters Try.prog 60) ?_); (focus exact Try.call60); (refine callX_h (callH_inline tabOk Try.func60 rfl 4 rfl [.tmp 2] rfl (Nat.le_of_ble_eq_true rfl) fun m0 hm0 hcl hlt => ?_)); simp only [initT, St.ev, St.set, upd, Nat.reduceEqDiff, reduceIte, ifA, ifB, mz, nmA, Nat.reduceAdd, ifA, ifB]) | ((with_reducible refine And.intro (?_ : enters Try.prog 59) ?_); (focus exact Try.call59); (refine callX_h (callH_inline tabOk Try.func59 rfl 6 rfl [.tmp 4] rfl (Nat.le_of_ble_eq_true rfl) fun m0 hm0 hcl hlt => ?_)); simp only [initT, St.ev, St.set, upd, Nat.reduceEqDiff, reduceIte, ifA, ifB, mz, nmA, Nat.reduceAdd, ifA, ifB]) | (simp only [doneH]; simp only [ressK, resK, wrapR, go_sem, Nat.reduceAdd, Nat.reduceMul, Nat.reduceEqDiff, Nat.reduceLT, reduceIte, reduceCtorEq, mz, nmA, Nat.reduceAdd, ifA, ifB]) | fail)
      (refine awp_range (gf := 81) (by simp only [St.ev, St.set, upd, Nat.reduceEqDiff, reduceIte, ifA, ifB, mz, nmA, Nat.reduceAdd, ifA, ifB]; first | exact fnV_clo | exact fnV_val) Try.call81 (fun LP LP1 LP2 LP3 LP4 LP5 => callX_h (callH_inline tabOk Try.func81 rfl 16 rfl [] rfl (Nat.le_of_ble_eq_true rfl) fun m0 hm0 hcl hlt => ?_)); simp only [List.nil_append, List.cons_append, initT, St.ev, St.set, upd, Nat.reduceEqDiff, reduceIte, ifA, ifB, mz, nmA, Nat.reduceAdd, ifA, ifB])
      repeat' (first | refine awp_seq_k fun K hK => ?_ | ((with_reducible refine hK _ ?_); clear hK K) | ((with_reducible refine aord_plain fun K hK => ?_); simp only [go_sem, Nat.reduceAdd, Nat.reduceMul, Nat.reduceEqDiff, Nat.reduceLT, reduceIte, reduceCtorEq, mz, nmA, Nat.reduceAdd, ifA, ifB, mz, mat.matL, DV.agg.injEq, AV.clo.injEq, List.cons.injEq, AV.ref.injEq, and_true, true_and]) | refine awp_block ?_ | ((first | with_reducible refine aord_nil ?_ | refine awp_skip ?_ | refine awp_exit ?_ | refine awp_ret ?_); try simp only [rdA, Nat.reduceEqDiff, ifA, ifB, reduceIte]) | (refine awp_region tabOk rfl ?_; simp only [prep, pickO, lsA, lsB, lsC, lsD, lsE, lsF, lsG]) | fail)
      (refine awp_range (gf := 82) (by simp only [St.ev, St.set, upd, Nat.reduceEqDiff, reduceIte, ifA, ifB, mz, nmA, Nat.reduceAdd, ifA, ifB]; first | exact fnV_clo | exact fnV_val) Try.call82 (fun LQ LQ1 LQ2 LQ3 LQ4 LQ5 => callX_h (callH_inline tabOk Try.func82 rfl 26 rfl [] rfl (Nat.le_of_ble_eq_true rfl) fun m0 hm0 hcl hlt => ?_)); simp only [List.nil_append, List.cons_append, initT, St.ev, St.set, upd, Nat.reduceEqDiff, reduceIte, ifA, ifB, mz, nmA, Nat.reduceAdd, ifA, ifB])
      repeat' (first | refine awp_seq_k fun K hK => ?_ | ((with_reducible refine hK _ ?_); clear hK K) | ((with_reducible refine aord_plain fun K hK => ?_); simp only [go_sem, Nat.reduceAdd, Nat.reduceMul, Nat.reduceEqDiff, Nat.reduceLT, reduceIte, reduceCtorEq, mz, nmA, Nat.reduceAdd, ifA, ifB, mz, mat.matL, DV.agg.injEq, AV.clo.injEq, List.cons.injEq, AV.ref.injEq, and_true, true_and]) | refine awp_block ?_ | ((first | with_reducible refine aord_nil ?_ | refine awp_skip ?_ | refine awp_exit ?_ | refine awp_ret ?_); try simp only [rdA, Nat.reduceEqDiff, ifA, ifB, reduceIte]) | (refine awp_region tabOk rfl ?_; simp only [prep, pickO, lsA, lsB, lsC, lsD, lsE, lsF, lsG]) | fail)
      have hI : ∀ G, (∀ u, u < n → G u = h u) → G n = some ⟨true, .cells [.val (.int .i64 d)]⟩ → G (n + 1) = some ⟨true, .cells [.sl O 0 L.length 1 none]⟩ → G (n + 2) = some ⟨true, .cells [.val (.func (.func 51) #[] #[])]⟩ → G (n + 3) = some ⟨true, .cells [.val (.int .i64 ((L.length : Nat) : Int))]⟩ → G (n + 4) = some ⟨true, .cells [.val (.int .i64 d)]⟩ → G (n + 6) = some ⟨true, .cells [.val (.func (.func 76) #[] #[])]⟩ → G (n + 7) = some ⟨true, .raw (.loop LP)⟩ → G (n + 8) = some ⟨true, .cells [.yl (n + 7)]⟩ → G (n + 9) = some ⟨true, .raw (.loop LQ)⟩ → QF h n O d L.length (.val (.func (.func 51) #[] #[])) 76 LP LQ L.length G (n + 10) := fun G g0 g1 g2 g3 g4 g5 g6 g7 g8 g9 => ⟨g0, Nat.le_refl _, g1, g2, g3, g4, g5, g6, g7, g8, g9⟩
      refine awp_loop (fun q : Hp × Nat × Nat × Nat => ⟨upd (upd (upd (upd bot 6 (.val (.int .i64 q.2.2.1))) 5 (.val (.int .i64 d))) 1 (.ref (n + 4) 0)) 0 (.yl (n + 9)), q.1, q.2.1⟩) (fun q => q.2.2.1 ≤ d ∧ FewTo (enL) d L q.2.2.1 0 q.2.2.2 ∧ QF h n O d L.length (.val (.func (.func 51) #[] #[])) 76 LP LQ q.2.2.2 q.1 q.2.1) (fun q => d - q.2.2.1) ((upd (upd (upd (upd (upd (upd (upd (upd (upd (upd (upd h n (some ⟨true, .cells [.val (.int .i64 d)]⟩)) (n + 1) (some ⟨true, .cells [.sl O 0 L.length 1 none]⟩)) (n + 2) (some ⟨true, .cells [.val (.func (.func 51) #[] #[])]⟩)) (n + 3) (some ⟨true, .cells [.val (.int .i64 0)]⟩)) (n + 3) (some ⟨true, .cells [.val (.int .i64 ((L.length : Nat) : Int))]⟩)) (n + 4) (some ⟨true, .cells [.val (.int .i64 d)]⟩)) (n + 5) (some ⟨true, .cells [.clo (.func 82) [] [.ref (n + 4) 0]]⟩)) (n + 6) (some ⟨true, .cells [.val (.func (.func 76) #[] #[])]⟩)) (n + 7) (some ⟨true, .raw (.loop LP)⟩)) (n + 8) (some ⟨true, .cells [.yl (n + 7)]⟩)) (n + 9) (some ⟨true, .raw (.loop LQ)⟩)), n + 10, 0, L.length) ⟨Nat.zero_le _, FewTo.zero, hI _ ?_ ?_ ?_ ?_ ?_ ?_ ?_ ?_ ?_ ?_⟩ ?_ ?_
      · exact fun u hu => by dsimp only; (repeat rw [upd_ne _ _ (by omega)])
      · dsimp only; (repeat (first | rw [upd_same] | rw [upd_ne _ _ (by omega)]))
      · dsimp only; (repeat (first | rw [upd_same] | rw [upd_ne _ _ (by omega)]))
      · dsimp only; (repeat (first | rw [upd_same] | rw [upd_ne _ _ (by omega)]))
      · dsimp only; (repeat (first | rw [upd_same] | rw [upd_ne _ _ (by omega)]))
      · dsimp only; (repeat (first | rw [upd_same] | rw [upd_ne _ _ (by omega)]))
      · dsimp only; (repeat (first | rw [upd_same] | rw [upd_ne _ _ (by omega)]))
      · dsimp only; (repeat (first | rw [upd_same] | rw [upd_ne _ _ (by omega)]))
      · dsimp only; (repeat (first | rw [upd_same] | rw [upd_ne _ _ (by omega)]))
      · dsimp only; (repeat (first | rw [upd_same] | rw [upd_ne _ _ (by omega)]))
      · exact Wk.sub (tsd (tsd (tsd (tsd tsd0 rfl) rfl) rfl) rfl) (fun _ _ h => h) rfl
      clear hI
      rintro ⟨G, M, i, s⟩ ⟨hid, hT, hI⟩
      dsimp only at hid hT hI ⊢
      rcases Nat.lt_or_ge i d with hlt2 | hge
      · have c4 := hI.c4
        have c9 := hI.c9


        repeat' (first | refine awp_seq_k fun K hK => ?_ | ((with_reducible refine hK _ ?_); clear hK K) | ((with_reducible refine aord_plain fun K hK => ?_); simp only [go_sem, Nat.reduceAdd, Nat.reduceMul, Nat.reduceEqDiff, Nat.reduceLT, reduceIte, reduceCtorEq, c4, c9, nmA, Nat.reduceAdd, ifA, ifB, c4, c9, mat.matL, DV.agg.injEq]) | refine awp_block ?_ | ((first | with_reducible refine aord_nil ?_ | refine awp_skip ?_ | refine awp_exit ?_ | refine awp_ret ?_); try simp only [rdA, Nat.reduceEqDiff, ifA, ifB, reduceIte]) | (refine awp_region tabOk rfl ?_; simp only [prep, pickO, lsA, lsB, lsC, lsD, lsE, lsF, lsG]) | ((with_reducible apply awp_cond); (focus (simp only [St.ev, St.set, upd, Nat.reduceEqDiff, reduceIte, ifA, ifB, c4, c9, nmA, Nat.reduceAdd, ifA, ifB]; exact rfl)); all_goals (intro hb; first | (cases hb; done) | ((try rw [hb]); (try simp only [dcA, dcB, dcC, dcD, dcE, Bool.not_eq_true', Bool.not_eq_false'] at hb)))) | (simp only [doneH]; simp only [ressK, resK, wrapR, go_sem, Nat.reduceAdd, Nat.reduceMul, Nat.reduceEqDiff, Nat.reduceLT, reduceIte, reduceCtorEq, c4, c9, nmA, Nat.reduceAdd, ifA, ifB]) | ((with_reducible apply endA_go); (focus (simp only [St.ev, St.set, upd, Nat.reduceEqDiff, reduceIte, ifA, ifB, c4, c9, nmA, Nat.reduceAdd, ifA, ifB]; exact rfl)); (focus assumption); (focus assumption); (try simp only [rdA, Nat.reduceEqDiff, ifA, ifB, reduceIte])) | (exfalso; omega) | fail)
        refine awp_loop (fun q : Hp × Nat × Nat × Nat => ⟨upd (upd (upd (upd (upd (upd (upd bot 10 (.val (.int .i64 q.2.2.1))) 9 (.val (.int .i64 d))) 6 (.val (.int .i64 i))) 5 (.val (.int .i64 d))) 3 (.val (.int .i64 i))) 1 (.ref (n + 4) 0)) 0 (.yl (n + 9)), q.1, q.2.1⟩) (fun q => q.2.2.1 ≤ d ∧ FewTo (enL) d L i q.2.2.1 q.2.2.2 ∧ QF h n O d L.length (.val (.func (.func 51) #[] #[])) 76 LP LQ q.2.2.2 q.1 q.2.1) (fun q => d - q.2.2.1) (G, M, 0, s) ⟨Nat.zero_le _, hT, hI⟩ ?_ ?_
        · exact Wk.sub (tsd (tsd (tsd (tsd (tsd (tsd (tsd tsd0 rfl) rfl) rfl) rfl) rfl) rfl) rfl) (fun _ _ h => h) rfl
        clear c4 c9 hI hT
        rintro ⟨G, M, j, s⟩ ⟨hjd, hT, hI⟩
        dsimp only at hjd hT hI ⊢
        have hmn := hI.mn
        have hfr := hI.fr
        have c0 := hI.c0
        have c1 := hI.c1
        have c2 := hI.c2
        have c3 := hI.c3
        have c4 := hI.c4
        have c6 := hI.c6
        have c7 := hI.c7
        have c8 := hI.c8
        have c9 := hI.c9
        have hsle := hT.le
        rcases Nat.lt_or_ge j d with hlt3 | hge3
        · have n0 : (n = M) = False := eq_false (by omega)
          have n1 : (M = n) = False := eq_false (by omega)
          have n2 : ∀ k, (n = M + k) = False := fun k => eq_false (by omega)
          have n3 : ∀ k, (M + k = n) = False := fun k => eq_false (by omega)
          have p1 : (n + 1 = M) = False := eq_false (by omega)
          have p2 : ∀ k, (n + 1 = M + k) = False := fun k => eq_false (by omega)
          have p3 : (n + 2 = M) = False := eq_false (by omega)
          have p4 : ∀ k, (n + 2 = M + k) = False := fun k => eq_false (by omega)
          have p5 : (n + 3 = M) = False := eq_false (by omega)
          have p6 : ∀ k, (n + 3 = M + k) = False := fun k => eq_false (by omega)
          have p7 : (n + 6 = M) = False := eq_false (by omega)
          have p8 : ∀ k, (n + 6 = M + k) = False := fun k => eq_false (by omega)
          have p9 : (n + 7 = M) = False := eq_false (by omega)
          have pa : ∀ k, (n + 7 = M + k) = False := fun k => eq_false (by omega)
          have pb : (n + 8 = M) = False := eq_false (by omega)
          have pc : ∀ k, (n + 8 = M + k) = False := fun k => eq_false (by omega)
          have pd : (n + 9 = M) = False := eq_false (by omega)
          have pe : ∀ k, (n + 9 = M + k) = False := fun k => eq_false (by omega)
          have pf : (M = n + 9) = False := eq_false (by omega)
          have pg : ∀ k, (M + k = n + 9) = False := fun k => eq_false (by omega)
          have ph : (M = n + 7) = False := eq_false (by omega)
          have pi : ∀ k, (M + k = n + 7) = False := fun k => eq_false (by omega)
          have hN := And.intro c0 (And.intro c1 (And.intro c2 (And.intro c3 (And.intro c4 (And.intro c6 (And.intro c7 (And.intro c8 (And.intro c9 (And.intro n0 (And.intro n1 (And.intro n2 (And.intro n3 (And.intro p1 (And.intro p2 (And.intro p3 (And.intro p4 (And.intro p5 (And.intro p6 (And.intro p7 (And.intro p8 (And.intro p9 (And.intro pa (And.intro pb (And.intro pc (And.intro pd (And.intro pe (And.intro pf (And.intro pg (And.intro ph pi)))))))))))))))))))))))))))))
          rcases Nat.lt_trichotomy i j with hij | hij | hij
          · have q1 : ((i : Int) != (j : Int)) = true := bne_iff_ne.2 (by omega)
            have q2 : decide ((i : Int) < (j : Int)) = true := decide_eq_true (by omega)


            repeat' (first | refine awp_seq_k fun K hK => ?_ | ((with_reducible refine hK _ ?_); clear hK K) | (clear hK K; (with_reducible refine hK _ ?_); clear hK K) | ((with_reducible refine aord_plain fun K hK => ?_); simp only [go_sem, Nat.reduceAdd, Nat.reduceMul, Nat.reduceEqDiff, Nat.reduceLT, reduceIte, reduceCtorEq, hN, q1, q2, nmA, Nat.reduceAdd, ifA, ifB, hN, q1, q2, mat.matL, DV.agg.injEq]) | ((with_reducible apply aord_guard); (focus (simp only [St.ev, St.set, upd, Nat.reduceEqDiff, reduceIte, ifA, ifB, hN, q1, q2, nmA, Nat.reduceAdd, ifA, ifB]; exact rfl)); all_goals (intro hb; (try simp only [Bool.not_true, Bool.not_false] at hb); first | (cases hb; done) | ((try rw [hb]); (try simp only [Bool.not_eq_true', Bool.not_eq_false', Bool.and_eq_true, dcA, dcB, dcC, dcD, dcE] at hb); (try (revert hb; with_reducible refine true_imp_iff.2 ?_)); first | (intro K hK; simp only [go_sem, Nat.reduceAdd, Nat.reduceMul, Nat.reduceEqDiff, Nat.reduceLT, reduceIte, reduceCtorEq, hN, q1, q2, nmA, Nat.reduceAdd, ifA, ifB]) | (simp only [St.ev, St.set, upd, Nat.reduceEqDiff, reduceIte, ifA, ifB, hN, q1, q2, nmA, Nat.reduceAdd, ifA, ifB]) | skip))) | refine awp_block ?_ | ((first | with_reducible refine aord_nil ?_ | refine awp_skip ?_ | refine awp_exit ?_ | refine awp_ret ?_); try simp only [rdA, Nat.reduceEqDiff, ifA, ifB, reduceIte]) | (refine awp_region tabOk rfl ?_; simp only [prep, pickO, lsA, lsB, lsC, lsD, lsE, lsF, lsG]) | ((with_reducible apply awp_cond); (focus (simp only [St.ev, St.set, upd, Nat.reduceEqDiff, reduceIte, ifA, ifB, hN, q1, q2, nmA, Nat.reduceAdd, ifA, ifB]; exact rfl)); all_goals (intro hb; first | (cases hb; done) | ((try rw [hb]); (try simp only [dcA, dcB, dcC, dcD, dcE, Bool.not_eq_true', Bool.not_eq_false'] at hb)))) | ((with_reducible refine And.intro ?_ ?_); (focus omega)) | (simp only [rBuild]; simp only [fillA, Nat.reduceLeDiff, List.getElem?_cons_zero, List.getElem?_cons_succ, List.drop_succ_cons, List.drop_nil, List.take_nil, List.cons_append, Option.isSome_some, go_sem, Nat.reduceAdd, Nat.reduceMul, Nat.reduceEqDiff, Nat.reduceLT, reduceIte, reduceCtorEq, hN, q1, q2, nmA, Nat.reduceAdd, ifA, ifB]) | (exfalso; omega) | fail)
            (refine yield_round (lp := LQ) (by first | (simp only [St.ev, St.set, upd, Nat.reduceEqDiff, reduceIte, ifA, ifB, hN, q1, q2, nmA, Nat.reduceAdd, ifA, ifB]; done) | (simp only [St.ev, St.set, upd, Nat.reduceEqDiff, reduceIte, ifA, ifB, hN, q1, q2, nmA, Nat.reduceAdd, ifA, ifB]; exact rfl)) LQ1 LQ2 (by first | exact List.mem_cons_self | exact List.mem_cons_of_mem _ List.mem_cons_self | exact List.mem_cons_of_mem _ (List.mem_cons_of_mem _ List.mem_cons_self) | exact List.mem_cons_of_mem _ (List.mem_cons_of_mem _ (List.mem_cons_of_mem _ List.mem_cons_self))) (by first | (rw [LQ3]; done) | (rw [LQ3]; rfl)) (by rw [LQ3]; decide) (fun m0 hm0 hcl hlt => ?_); rw [LQ3, LQ4, LQ5]; simp only [zipT, St.ev, St.set, upd, Nat.reduceEqDiff, reduceIte, ifA, ifB, hN, q1, q2, nmA, Nat.reduceAdd, ifA, ifB])
            repeat' (first | refine awp_seq_k fun K hK => ?_ | ((with_reducible refine hK _ ?_); clear hK K) | ((with_reducible refine aord_plain fun K hK => ?_); simp only [go_sem, Nat.reduceAdd, Nat.reduceMul, Nat.reduceEqDiff, Nat.reduceLT, reduceIte, reduceCtorEq, hN, q1, q2, nmA, Nat.reduceAdd, ifA, ifB, hN, q1, q2, mat.matL, DV.agg.injEq]) | ((with_reducible apply aord_guard); (focus (simp only [St.ev, St.set, upd, Nat.reduceEqDiff, reduceIte, ifA, ifB, hN, q1, q2, nmA, Nat.reduceAdd, ifA, ifB]; exact rfl)); all_goals (intro hb; (try simp only [Bool.not_true, Bool.not_false] at hb); first | (cases hb; done) | ((try rw [hb]); (try simp only [Bool.not_eq_true', Bool.not_eq_false', Bool.and_eq_true, dcA, dcB, dcC, dcD, dcE] at hb); (try (revert hb; with_reducible refine true_imp_iff.2 ?_)); first | (intro K hK; simp only [go_sem, Nat.reduceAdd, Nat.reduceMul, Nat.reduceEqDiff, Nat.reduceLT, reduceIte, reduceCtorEq, hN, q1, q2, nmA, Nat.reduceAdd, ifA, ifB]) | (simp only [St.ev, St.set, upd, Nat.reduceEqDiff, reduceIte, ifA, ifB, hN, q1, q2, nmA, Nat.reduceAdd, ifA, ifB]) | skip))) | refine awp_block ?_ | ((first | with_reducible refine aord_nil ?_ | refine awp_skip ?_ | refine awp_exit ?_ | refine awp_ret ?_); try simp only [rdA, Nat.reduceEqDiff, ifA, ifB, reduceIte]) | (refine awp_region tabOk rfl ?_; simp only [prep, pickO, lsA, lsB, lsC, lsD, lsE, lsF, lsG]) | ((with_reducible refine And.intro ?_ ?_); (focus (exact rfl))) | ((with_reducible refine And.intro (?_ : enters Try.prog 76) ?_); (focus exact Try.call76); (refine callX_h (callH_inline tabOk Try.func76 rfl 8 rfl [.tmp 2] rfl (Nat.le_of_ble_eq_true rfl) fun m0 hm0 hcl hlt => ?_)); simp only [initT, St.ev, St.set, upd, Nat.reduceEqDiff, reduceIte, ifA, ifB, hN, q1, q2, nmA, Nat.reduceAdd, ifA, ifB]) | (simp only [doneH]; simp only [ressK, resK, wrapR, go_sem, Nat.reduceAdd, Nat.reduceMul, Nat.reduceEqDiff, Nat.reduceLT, reduceIte, reduceCtorEq, hN, q1, q2, nmA, Nat.reduceAdd, ifA, ifB]) | (refine aStoreAll_cells (by simp only [St.ev, St.set, upd, Nat.reduceEqDiff, reduceIte, ifA, ifB, hN, q1, q2, nmA, Nat.reduceAdd, ifA, ifB]; exact rfl) ?_ ?_ ?_ ?_ ?_; (focus (first | rfl | omega | (simp; done) | (simp; omega) | (simp [szOf, tab]; done) | (simp [szOf, tab]; omega))); (focus (first | rfl | omega | (simp; done) | (simp; omega) | (simp [szOf, tab]; done) | (simp [szOf, tab]; omega))); (focus (first | rfl | omega | (simp; done) | (simp; omega) | (simp [szOf, tab]; done) | (simp [szOf, tab]; omega))); (focus (first | rfl | (simp [AV.cell, Value.oneCell']; done))); (try simp only [go_sem, Nat.reduceAdd, Nat.reduceMul, Nat.reduceEqDiff, Nat.reduceLT, reduceIte, reduceCtorEq, hN, q1, q2, nmA, Nat.reduceAdd, ifA, ifB])) | fail)
            (refine yield_round (lp := LP) (by first | (simp only [St.ev, St.set, upd, Nat.reduceEqDiff, reduceIte, ifA, ifB, hN, q1, q2, nmA, Nat.reduceAdd, ifA, ifB]; done) | (simp only [St.ev, St.set, upd, Nat.reduceEqDiff, reduceIte, ifA, ifB, hN, q1, q2, nmA, Nat.reduceAdd, ifA, ifB]; exact rfl)) LP1 LP2 (by first | exact List.mem_cons_self | exact List.mem_cons_of_mem _ List.mem_cons_self | exact List.mem_cons_of_mem _ (List.mem_cons_of_mem _ List.mem_cons_self) | exact List.mem_cons_of_mem _ (List.mem_cons_of_mem _ (List.mem_cons_of_mem _ List.mem_cons_self))) (by first | (rw [LP3]; done) | (rw [LP3]; rfl)) (by rw [LP3]; decide) (fun m0 hm0 hcl hlt => ?_); rw [LP3, LP4, LP5]; simp only [zipT, St.ev, St.set, upd, Nat.reduceEqDiff, reduceIte, ifA, ifB, hN, q1, q2, nmA, Nat.reduceAdd, ifA, ifB])
            repeat' (first | refine awp_seq_k fun K hK => ?_ | ((with_reducible refine hK _ ?_); clear hK K) | ((with_reducible refine aord_plain fun K hK => ?_); simp only [go_sem, Nat.reduceAdd, Nat.reduceMul, Nat.reduceEqDiff, Nat.reduceLT, reduceIte, reduceCtorEq, hN, q1, q2, nmA, Nat.reduceAdd, ifA, ifB, hN, q1, q2, mat.matL, DV.agg.injEq]) | refine awp_block ?_ | (refine awp_region tabOk rfl ?_; simp only [prep, pickO, lsA, lsB, lsC, lsD, lsE, lsF, lsG]) | ((with_reducible refine And.intro ?_ ?_); (focus (exact rfl))) | ((with_reducible refine And.intro (?_ : enters Try.prog 43) ?_); (focus exact Try.call43); (refine callX_satH split_sat ?_); simp only [go_sem, and_assoc, List.nil_append, List.append_nil, List.cons_append, Nat.reduceEqDiff, reduceIte, reduceCtorEq, hN, q1, q2, nmA, Nat.reduceAdd, ifA, ifB, hN, q1, q2, mat.matL, DV.agg.injEq]) | (refine aStoreAll_cells (by simp only [St.ev, St.set, upd, Nat.reduceEqDiff, reduceIte, ifA, ifB, hN, q1, q2, nmA, Nat.reduceAdd, ifA, ifB]; exact rfl) ?_ ?_ ?_ ?_ ?_; (focus (first | rfl | omega | (simp; done) | (simp; omega) | (simp [szOf, tab]; done) | (simp [szOf, tab]; omega))); (focus (first | rfl | omega | (simp; done) | (simp; omega) | (simp [szOf, tab]; done) | (simp [szOf, tab]; omega))); (focus (first | rfl | omega | (simp; done) | (simp; omega) | (simp [szOf, tab]; done) | (simp [szOf, tab]; omega))); (focus (first | rfl | (simp [AV.cell, Value.oneCell']; done))); (try simp only [go_sem, Nat.reduceAdd, Nat.reduceMul, Nat.reduceEqDiff, Nat.reduceLT, reduceIte, reduceCtorEq, hN, q1, q2, nmA, Nat.reduceAdd, ifA, ifB])) | fail)
            have hsum := part_sum hg hij hlt3
            have hl1 := hR.lt
            refine ⟨g, L, rfl, i, j, rfl, hR.keepN (by omega) (by (repeat rw [upd_ne _ _ (by omega)]); exact hfr O (by omega)) (fun m hm => by have := (hl1 m hm).1; (repeat rw [upd_ne _ _ (by omega)]); exact hfr _ (by omega)), by omega, hrw, fun H2 N2 P1 P2 g1 g2 s1 s2 s3 s4 s5 s6 s7 => ?_⟩
            have hN2 := s1.outn
            have hP2 := s2.outn
            have d0 : H2 n = some ⟨true, .cells [.val (.int .i64 d)]⟩ := by rw [s3 _ (by omega)]; (repeat rw [if_neg (by omega)]); exact c0
            have d1 : H2 (n + 1) = some ⟨true, .cells [.sl O 0 L.length 1 none]⟩ := by rw [s3 _ (by omega)]; (repeat rw [if_neg (by omega)]); exact c1
            have d2 : H2 (n + 2) = some ⟨true, .cells [.val (.func (.func 51) #[] #[])]⟩ := by rw [s3 _ (by omega)]; (repeat rw [if_neg (by omega)]); exact c2
            have d3 : H2 (n + 3) = some ⟨true, .cells [.val (.int .i64 s)]⟩ := by rw [s3 _ (by omega)]; (repeat rw [if_neg (by omega)]); exact c3
            have d4 : H2 (n + 4) = some ⟨true, .cells [.val (.int .i64 d)]⟩ := by rw [s3 _ (by omega)]; (repeat rw [if_neg (by omega)]); exact c4
            have d6 : H2 (n + 6) = some ⟨true, .cells [.val (.func (.func 76) #[] #[])]⟩ := by rw [s3 _ (by omega)]; (repeat rw [if_neg (by omega)]); exact c6
            have d8 : H2 (n + 8) = some ⟨true, .cells [.yl (n + 7)]⟩ := by rw [s3 _ (by omega)]; (repeat rw [if_neg (by omega)]); exact c8
            have hfr2 : ∀ u, u < n → H2 u = h u := fun u hu => by rw [s3 _ (by omega)]; (repeat rw [if_neg (by omega)]); exact hfr u hu
            clear s3
            have hgy := hg.filter (agB [((i : Int), (j : Int))])
            have hgn := hg.filter (agB [((j : Int), (i : Int))])
            generalize hYY : L.filter (agB [((i : Int), (j : Int))]) = Y at *
            generalize hNN : L.filter (agB [((j : Int), (i : Int))]) = NO at *
            have hskip : ¬ (0 < Y.length ∧ 0 < NO.length) → FewTo (enL) d L i (j + 1) s := fun h => hT.skip fun ⟨_, h1, h2⟩ => h (by rw [hYY] at h1; rw [hNN] at h2; exact ⟨List.length_pos_iff.2 h1, List.length_pos_iff.2 h2⟩)
            have hEnd : ∀ s2, QF h n O d L.length (.val (.func (.func 51) #[] #[])) 76 LP LQ s2 (upd (upd (upd H2 (n + 3) (some ⟨true, .cells [.val (.int .i64 s2)]⟩)) (n + 7) (some ⟨true, .raw (.loop LP)⟩)) (n + 9) (some ⟨true, .raw (.loop LQ)⟩)) N2 := fun s2 => by
              refine ⟨fun u hu => ?_, by omega, ?_, ?_, ?_, ?_, ?_, ?_, ?_, ?_, ?_⟩
              all_goals (repeat (first | rw [upd_same] | rw [upd_ne _ _ (by omega)]))
              · exact hfr2 u hu
              · exact d0
              · exact d1
              · exact d2
              · exact d4
              · exact d6
              · exact d8
            have hSame : QF h n O d L.length (.val (.func (.func 51) #[] #[])) 76 LP LQ s (upd (upd H2 (n + 7) (some ⟨true, .raw (.loop LP)⟩)) (n + 9) (some ⟨true, .raw (.loop LQ)⟩)) N2 := by
              refine ⟨fun u hu => ?_, by omega, ?_, ?_, ?_, ?_, ?_, ?_, ?_, ?_, ?_⟩
              all_goals (repeat (first | rw [upd_same] | rw [upd_ne _ _ (by omega)]))
              · exact hfr2 u hu
              · exact d0
              · exact d1
              · exact d2
              · exact d3
              · exact d4
              · exact d6
              · exact d8
            rcases Nat.eq_zero_or_pos Y.length with hy0 | hyp
            · have e1 : decide (((Y.length : Nat) : Int) > 0) = false := decide_eq_false (by omega)


              repeat' (first | refine awp_seq_k fun K hK => ?_ | ((with_reducible refine hK _ ?_); clear hK K) | ((with_reducible refine aord_plain fun K hK => ?_); simp only [go_sem, Nat.reduceAdd, Nat.reduceMul, Nat.reduceEqDiff, Nat.reduceLT, reduceIte, reduceCtorEq, d0, d1, d2, d3, d6, d8, e1, nmA, Nat.reduceAdd, ifA, ifB, d0, d1, d2, d3, d6, d8, e1, mat.matL, DV.agg.injEq]) | ((with_reducible apply aord_guard); (focus (simp only [St.ev, St.set, upd, Nat.reduceEqDiff, reduceIte, ifA, ifB, d0, d1, d2, d3, d6, d8, e1, nmA, Nat.reduceAdd, ifA, ifB]; exact rfl)); all_goals (intro hb; (try simp only [Bool.not_true, Bool.not_false] at hb); first | (cases hb; done) | ((try rw [hb]); (try simp only [Bool.not_eq_true', Bool.not_eq_false', Bool.and_eq_true, dcA, dcB, dcC, dcD, dcE] at hb); (try (revert hb; with_reducible refine true_imp_iff.2 ?_)); first | (intro K hK; simp only [go_sem, Nat.reduceAdd, Nat.reduceMul, Nat.reduceEqDiff, Nat.reduceLT, reduceIte, reduceCtorEq, d0, d1, d2, d3, d6, d8, e1, nmA, Nat.reduceAdd, ifA, ifB]) | (simp only [St.ev, St.set, upd, Nat.reduceEqDiff, reduceIte, ifA, ifB, d0, d1, d2, d3, d6, d8, e1, nmA, Nat.reduceAdd, ifA, ifB]) | skip))) | ((first | with_reducible refine aord_nil ?_ | refine awp_skip ?_ | refine awp_exit ?_ | refine awp_ret ?_); try simp only [rdA, Nat.reduceEqDiff, ifA, ifB, reduceIte]) | (refine awp_region tabOk rfl ?_; simp only [prep, pickO, lsA, lsB, lsC, lsD, lsE, lsF, lsG]) | ((with_reducible apply awp_cond); (focus (simp only [St.ev, St.set, upd, Nat.reduceEqDiff, reduceIte, ifA, ifB, d0, d1, d2, d3, d6, d8, e1, nmA, Nat.reduceAdd, ifA, ifB]; exact rfl)); all_goals (intro hb; first | (cases hb; done) | ((try rw [hb]); (try simp only [dcA, dcB, dcC, dcD, dcE, Bool.not_eq_true', Bool.not_eq_false'] at hb)))) | ((with_reducible refine And.intro ?_ ?_); (focus omega)) | ((with_reducible refine roundA_normal ?_); simp only [St.ev, St.set, upd, Nat.reduceEqDiff, reduceIte, ifA, ifB, d0, d1, d2, d3, d6, d8, e1, nmA, Nat.reduceAdd, ifA, ifB]) | fail)
              exact ⟨(upd (upd H2 (n + 7) (some ⟨true, .raw (.loop LP)⟩)) (n + 9) (some ⟨true, .raw (.loop LQ)⟩), N2, j + 1, s), ⟨by dsimp only; omega, hskip (by omega), hSame⟩, by dsimp only; omega, Wk.sub (tsd (tsd (tsd (tsd (tsd (tsd (tsd tsd0 rfl) rfl) rfl) rfl) rfl) rfl) rfl) (fun _ _ h => h) rfl⟩
            · have e1 : decide (((Y.length : Nat) : Int) > 0) = true := decide_eq_true (by omega)
              rcases Nat.eq_zero_or_pos NO.length with hn0 | hnp
              · have e2 : decide (((NO.length : Nat) : Int) > 0) = false := decide_eq_false (by omega)


                repeat' (first | refine awp_seq_k fun K hK => ?_ | ((with_reducible refine hK _ ?_); clear hK K) | ((with_reducible refine aord_plain fun K hK => ?_); simp only [go_sem, Nat.reduceAdd, Nat.reduceMul, Nat.reduceEqDiff, Nat.reduceLT, reduceIte, reduceCtorEq, d0, d1, d2, d3, d6, d8, e1, e2, nmA, Nat.reduceAdd, ifA, ifB, d0, d1, d2, d3, d6, d8, e1, e2, mat.matL, DV.agg.injEq, AV.clo.injEq, List.cons.injEq, AV.ref.injEq, and_true, true_and]) | ((with_reducible apply aord_guard); (focus (simp only [St.ev, St.set, upd, Nat.reduceEqDiff, reduceIte, ifA, ifB, d0, d1, d2, d3, d6, d8, e1, e2, nmA, Nat.reduceAdd, ifA, ifB]; exact rfl)); all_goals (intro hb; (try simp only [Bool.not_true, Bool.not_false] at hb); first | (cases hb; done) | ((try rw [hb]); (try simp only [Bool.not_eq_true', Bool.not_eq_false', Bool.and_eq_true, dcA, dcB, dcC, dcD, dcE] at hb); (try (revert hb; with_reducible refine true_imp_iff.2 ?_)); first | (intro K hK; simp only [go_sem, Nat.reduceAdd, Nat.reduceMul, Nat.reduceEqDiff, Nat.reduceLT, reduceIte, reduceCtorEq, d0, d1, d2, d3, d6, d8, e1, e2, nmA, Nat.reduceAdd, ifA, ifB]) | (simp only [St.ev, St.set, upd, Nat.reduceEqDiff, reduceIte, ifA, ifB, d0, d1, d2, d3, d6, d8, e1, e2, nmA, Nat.reduceAdd, ifA, ifB]) | skip))) | ((first | with_reducible refine aord_nil ?_ | refine awp_skip ?_ | refine awp_exit ?_ | refine awp_ret ?_); try simp only [rdA, Nat.reduceEqDiff, ifA, ifB, reduceIte]) | (refine awp_region tabOk rfl ?_; simp only [prep, pickO, lsA, lsB, lsC, lsD, lsE, lsF, lsG]) | ((with_reducible apply awp_cond); (focus (simp only [St.ev, St.set, upd, Nat.reduceEqDiff, reduceIte, ifA, ifB, d0, d1, d2, d3, d6, d8, e1, e2, nmA, Nat.reduceAdd, ifA, ifB]; exact rfl)); all_goals (intro hb; first | (cases hb; done) | ((try rw [hb]); (try simp only [dcA, dcB, dcC, dcD, dcE, Bool.not_eq_true', Bool.not_eq_false'] at hb)))) | ((with_reducible refine And.intro ?_ ?_); (focus omega)) | ((with_reducible refine roundA_normal ?_); simp only [St.ev, St.set, upd, Nat.reduceEqDiff, reduceIte, ifA, ifB, d0, d1, d2, d3, d6, d8, e1, e2, nmA, Nat.reduceAdd, ifA, ifB]) | fail)
                exact ⟨(upd (upd H2 (n + 7) (some ⟨true, .raw (.loop LP)⟩)) (n + 9) (some ⟨true, .raw (.loop LQ)⟩), N2, j + 1, s), ⟨by dsimp only; omega, hskip (by omega), hSame⟩, by dsimp only; omega, Wk.sub (tsd (tsd (tsd (tsd (tsd (tsd (tsd tsd0 rfl) rfl) rfl) rfl) rfl) rfl) rfl) (fun _ _ h => h) rfl⟩
              · have e2 : decide (((NO.length : Nat) : Int) > 0) = true := decide_eq_true (by omega)


                repeat' (first | refine awp_seq_k fun K hK => ?_ | ((with_reducible refine hK _ ?_); clear hK K) | ((with_reducible refine aord_plain fun K hK => ?_); simp only [go_sem, Nat.reduceAdd, Nat.reduceMul, Nat.reduceEqDiff, Nat.reduceLT, reduceIte, reduceCtorEq, d0, d1, d2, d3, d6, d8, e1, e2, nmA, Nat.reduceAdd, ifA, ifB, d0, d1, d2, d3, d6, d8, e1, e2, mat.matL, DV.agg.injEq, AV.clo.injEq, List.cons.injEq, AV.ref.injEq, and_true, true_and]) | ((with_reducible apply aord_guard); (focus (simp only [St.ev, St.set, upd, Nat.reduceEqDiff, reduceIte, ifA, ifB, d0, d1, d2, d3, d6, d8, e1, e2, nmA, Nat.reduceAdd, ifA, ifB]; exact rfl)); all_goals (intro hb; (try simp only [Bool.not_true, Bool.not_false] at hb); first | (cases hb; done) | ((try rw [hb]); (try simp only [Bool.not_eq_true', Bool.not_eq_false', Bool.and_eq_true, dcA, dcB, dcC, dcD, dcE] at hb); (try (revert hb; with_reducible refine true_imp_iff.2 ?_)); first | (intro K hK; simp only [go_sem, Nat.reduceAdd, Nat.reduceMul, Nat.reduceEqDiff, Nat.reduceLT, reduceIte, reduceCtorEq, d0, d1, d2, d3, d6, d8, e1, e2, nmA, Nat.reduceAdd, ifA, ifB]) | (simp only [St.ev, St.set, upd, Nat.reduceEqDiff, reduceIte, ifA, ifB, d0, d1, d2, d3, d6, d8, e1, e2, nmA, Nat.reduceAdd, ifA, ifB]) | skip))) | ((first | with_reducible refine aord_nil ?_ | refine awp_skip ?_ | refine awp_exit ?_ | refine awp_ret ?_); try simp only [rdA, Nat.reduceEqDiff, ifA, ifB, reduceIte]) | (refine awp_region tabOk rfl ?_; simp only [prep, pickO, lsA, lsB, lsC, lsD, lsE, lsF, lsG]) | (refine awp_region_tree (nt := 48) (id := 8) tabOk (.quiet 0 false (.quiet 1 false (.quiet 2 false (.quiet 5 false (.one 3 true (.quiet 4 false (.quiet 6 false (.one 7 true (.quiet 8 false (.quiet 9 false .leaf)) .stop))) (.one 4 false (.one 3 true (.quiet 6 false (.one 7 true (.quiet 8 false (.quiet 9 false .leaf)) .stop)) (.one 6 false (.one 3 true (.one 7 true (.quiet 8 false (.quiet 9 false .leaf)) .stop) .stop) .stop)) (.one 6 false (.one 3 true (.quiet 4 false (.one 7 true (.quiet 8 false (.quiet 9 false .leaf)) .stop)) (.one 4 false (.one 3 true (.one 7 true (.quiet 8 false (.quiet 9 false .leaf)) .stop) .stop) .stop)) .stop))))))) (by kernel_rfl) rfl (by kernel_rfl) ?_; simp only [aordT]) | ((with_reducible refine aordT_plain rfl (fun K hK => ?_)); simp only [go_sem, Nat.reduceAdd, Nat.reduceMul, Nat.reduceEqDiff, Nat.reduceLT, reduceIte, reduceCtorEq, d0, d1, d2, d3, d6, d8, e1, e2, nmA, Nat.reduceAdd, ifA, ifB, d0, d1, d2, d3, d6, d8, e1, e2, mat.matL, DV.agg.injEq, AV.clo.injEq, List.cons.injEq, AV.ref.injEq, and_true, true_and]) | ((with_reducible refine both ?_ ?_)) | (simp only [aordT]; try simp only [rdA, Nat.reduceEqDiff, ifA, ifB, reduceIte]) | ((with_reducible apply awp_cond); (focus (simp only [St.ev, St.set, upd, Nat.reduceEqDiff, reduceIte, ifA, ifB, d0, d1, d2, d3, d6, d8, e1, e2, nmA, Nat.reduceAdd, ifA, ifB]; exact rfl)); all_goals (intro hb; first | (cases hb; done) | ((try rw [hb]); (try simp only [dcA, dcB, dcC, dcD, dcE, Bool.not_eq_true', Bool.not_eq_false'] at hb)))) | ((with_reducible refine And.intro (?_ : enters Try.prog 50) ?_); (focus exact Try.call50); (refine callX_satH ih ?_); simp only [go_sem, and_assoc, List.nil_append, List.append_nil, List.cons_append, Nat.reduceEqDiff, reduceIte, reduceCtorEq, d0, d1, d2, d3, d6, d8, e1, e2, nmA, Nat.reduceAdd, ifA, ifB, d0, d1, d2, d3, d6, d8, e1, e2, mat.matL, DV.agg.injEq, AV.clo.injEq, List.cons.injEq, AV.ref.injEq, and_true, true_and]) | fail)
                all_goals (
                  refine ⟨d, rfl, g1, Y, rfl, s1, hgy, hd5, by omega, by omega, fun v N3 hv hvl hN3 => ?_⟩
                  have s2k : RowsOf H2 N3 P2 g2 NO := s2.keepN hN3 rfl (fun _ _ => rfl))


                repeat' (first | ((with_reducible refine hK _ ?_); clear hK K) | ((with_reducible refine aordT_plain rfl (fun K hK => ?_)); simp only [go_sem, Nat.reduceAdd, Nat.reduceMul, Nat.reduceEqDiff, Nat.reduceLT, reduceIte, reduceCtorEq, d0, d1, d2, d3, d6, d8, e1, e2, nmA, Nat.reduceAdd, ifA, ifB, d0, d1, d2, d3, d6, d8, e1, e2, mat.matL, DV.agg.injEq, AV.clo.injEq, List.cons.injEq, AV.ref.injEq, and_true, true_and]) | ((with_reducible refine both ?_ ?_)) | (simp only [aordT]; try simp only [rdA, Nat.reduceEqDiff, ifA, ifB, reduceIte]) | ((with_reducible refine And.intro (?_ : enters Try.prog 50) ?_); (focus exact Try.call50); (refine callX_satH ih ?_); simp only [go_sem, and_assoc, List.nil_append, List.append_nil, List.cons_append, Nat.reduceEqDiff, reduceIte, reduceCtorEq, d0, d1, d2, d3, d6, d8, e1, e2, nmA, Nat.reduceAdd, ifA, ifB, d0, d1, d2, d3, d6, d8, e1, e2, mat.matL, DV.agg.injEq, AV.clo.injEq, List.cons.injEq, AV.ref.injEq, and_true, true_and]) | fail)
                all_goals (
                  refine ⟨d, rfl, g2, NO, rfl, s2k, hgn, hd5, by omega, by omega, fun w N4 hw hwl hN4 => ?_⟩
                  have hstep : FewTo (enL) d L i (j + 1) (min s (1 + max v w)) := hT.step hij hlt3 (by rw [hYY]; exact List.length_pos_iff.1 hyp) (by rw [hNN]; exact List.length_pos_iff.1 hnp) (by rw [hYY]; exact hv) (by rw [hNN]; exact hw)
                  have hcast : min (s : Int) (1 + max (v : Int) (w : Int)) = ((min s (1 + max v w) : Nat) : Int) := by omega)


                repeat' (first | ((with_reducible refine hK _ ?_); clear hK K) | ((with_reducible refine aord_plain fun K hK => ?_); simp only [go_sem, Nat.reduceAdd, Nat.reduceMul, Nat.reduceEqDiff, Nat.reduceLT, reduceIte, reduceCtorEq, d0, d1, d2, d3, d6, d8, nmA, Nat.reduceAdd, ifA, ifB, d0, d1, d2, d3, d6, d8, hcast, mat.matL, DV.agg.injEq]) | ((with_reducible apply aord_guard); (focus (simp only [St.ev, St.set, upd, Nat.reduceEqDiff, reduceIte, ifA, ifB, d0, d1, d2, d3, d6, d8, nmA, Nat.reduceAdd, ifA, ifB]; exact rfl)); all_goals (intro hb; (try simp only [Bool.not_true, Bool.not_false] at hb); first | (cases hb; done) | ((try rw [hb]); (try simp only [Bool.not_eq_true', Bool.not_eq_false', Bool.and_eq_true, dcA, dcB, dcC, dcD, dcE] at hb); (try (revert hb; with_reducible refine true_imp_iff.2 ?_)); first | (intro K hK; simp only [go_sem, Nat.reduceAdd, Nat.reduceMul, Nat.reduceEqDiff, Nat.reduceLT, reduceIte, reduceCtorEq, d0, d1, d2, d3, d6, d8, nmA, Nat.reduceAdd, ifA, ifB]) | (simp only [St.ev, St.set, upd, Nat.reduceEqDiff, reduceIte, ifA, ifB, d0, d1, d2, d3, d6, d8, nmA, Nat.reduceAdd, ifA, ifB]) | skip))) | ((first | with_reducible refine aord_nil ?_ | refine awp_skip ?_ | refine awp_exit ?_ | refine awp_ret ?_); try simp only [rdA, Nat.reduceEqDiff, ifA, ifB, reduceIte]) | (refine awp_region tabOk rfl ?_; simp only [prep, pickO, lsA, lsB, lsC, lsD, lsE, lsF, lsG]) | ((with_reducible refine aordT_plain rfl (fun K hK => ?_)); simp only [go_sem, Nat.reduceAdd, Nat.reduceMul, Nat.reduceEqDiff, Nat.reduceLT, reduceIte, reduceCtorEq, d0, d1, d2, d3, d6, d8, nmA, Nat.reduceAdd, ifA, ifB, d0, d1, d2, d3, d6, d8, hcast, mat.matL, DV.agg.injEq]) | (simp only [rdA, Nat.reduceEqDiff, ifA, ifB, reduceIte]) | ((with_reducible apply awp_cond); (focus (simp only [St.ev, St.set, upd, Nat.reduceEqDiff, reduceIte, ifA, ifB, d0, d1, d2, d3, d6, d8, nmA, Nat.reduceAdd, ifA, ifB]; exact rfl)); all_goals (intro hb; first | (cases hb; done) | ((try rw [hb]); (try simp only [dcA, dcB, dcC, dcD, dcE, Bool.not_eq_true', Bool.not_eq_false'] at hb)))) | ((with_reducible refine And.intro ?_ ?_); (focus omega)) | ((with_reducible refine roundA_normal ?_); simp only [St.ev, St.set, upd, Nat.reduceEqDiff, reduceIte, ifA, ifB, d0, d1, d2, d3, d6, d8, nmA, Nat.reduceAdd, ifA, ifB]) | fail)
                all_goals exact ⟨(upd (upd (upd H2 (n + 3) (some ⟨true, .cells [.val (.int .i64 ((min s (1 + max v w) : Nat) : Int))]⟩)) (n + 7) (some ⟨true, .raw (.loop LP)⟩)) (n + 9) (some ⟨true, .raw (.loop LQ)⟩), N4, j + 1, min s (1 + max v w)), ⟨by dsimp only; omega, hstep, (hEnd _).up (by dsimp only; omega) (fun _ _ => rfl)⟩, by dsimp only; omega, Wk.sub (tsd (tsd (tsd (tsd (tsd (tsd (tsd tsd0 rfl) rfl) rfl) rfl) rfl) rfl) rfl) (fun _ _ h => h) rfl⟩
          · have q1 : ((i : Int) != (j : Int)) = false := by rw [hij]; exact bne_self_eq_false _


            repeat' (first | refine awp_seq_k fun K hK => ?_ | ((with_reducible refine hK _ ?_); clear hK K) | (clear hK K; (with_reducible refine hK _ ?_); clear hK K) | ((with_reducible refine aord_plain fun K hK => ?_); simp only [go_sem, Nat.reduceAdd, Nat.reduceMul, Nat.reduceEqDiff, Nat.reduceLT, reduceIte, reduceCtorEq, hN, q1, nmA, Nat.reduceAdd, ifA, ifB, hN, q1, mat.matL, DV.agg.injEq]) | ((with_reducible apply aord_guard); (focus (simp only [St.ev, St.set, upd, Nat.reduceEqDiff, reduceIte, ifA, ifB, hN, q1, nmA, Nat.reduceAdd, ifA, ifB]; exact rfl)); all_goals (intro hb; (try simp only [Bool.not_true, Bool.not_false] at hb); first | (cases hb; done) | ((try rw [hb]); (try simp only [Bool.not_eq_true', Bool.not_eq_false', Bool.and_eq_true, dcA, dcB, dcC, dcD, dcE] at hb); (try (revert hb; with_reducible refine true_imp_iff.2 ?_)); first | (intro K hK; simp only [go_sem, Nat.reduceAdd, Nat.reduceMul, Nat.reduceEqDiff, Nat.reduceLT, reduceIte, reduceCtorEq, hN, q1, nmA, Nat.reduceAdd, ifA, ifB]) | (simp only [St.ev, St.set, upd, Nat.reduceEqDiff, reduceIte, ifA, ifB, hN, q1, nmA, Nat.reduceAdd, ifA, ifB]) | skip))) | refine awp_block ?_ | ((first | with_reducible refine aord_nil ?_ | refine awp_skip ?_ | refine awp_exit ?_ | refine awp_ret ?_); try simp only [rdA, Nat.reduceEqDiff, ifA, ifB, reduceIte]) | (refine awp_region tabOk rfl ?_; simp only [prep, pickO, lsA, lsB, lsC, lsD, lsE, lsF, lsG]) | ((with_reducible apply awp_cond); (focus (simp only [St.ev, St.set, upd, Nat.reduceEqDiff, reduceIte, ifA, ifB, hN, q1, nmA, Nat.reduceAdd, ifA, ifB]; exact rfl)); all_goals (intro hb; first | (cases hb; done) | ((try rw [hb]); (try simp only [dcA, dcB, dcC, dcD, dcE, Bool.not_eq_true', Bool.not_eq_false'] at hb)))) | ((with_reducible refine And.intro ?_ ?_); (focus omega)) | (exfalso; omega) | fail)
            exact ⟨(G, M, j + 1, s), ⟨by dsimp only; omega, hT.skip (fun h => by omega), hI⟩, by dsimp only; omega, Wk.sub (tsd (tsd (tsd (tsd (tsd (tsd (tsd tsd0 rfl) rfl) rfl) rfl) rfl) rfl) rfl) (fun _ _ h => h) rfl⟩
          · have q1 : ((i : Int) != (j : Int)) = true := bne_iff_ne.2 (by omega)
            have q2 : decide ((i : Int) < (j : Int)) = false := decide_eq_false (by omega)


            repeat' (first | refine awp_seq_k fun K hK => ?_ | ((with_reducible refine hK _ ?_); clear hK K) | (clear hK K; (with_reducible refine hK _ ?_); clear hK K) | ((with_reducible refine aord_plain fun K hK => ?_); simp only [go_sem, Nat.reduceAdd, Nat.reduceMul, Nat.reduceEqDiff, Nat.reduceLT, reduceIte, reduceCtorEq, hN, q1, q2, nmA, Nat.reduceAdd, ifA, ifB, hN, q1, q2, mat.matL, DV.agg.injEq]) | ((with_reducible apply aord_guard); (focus (simp only [St.ev, St.set, upd, Nat.reduceEqDiff, reduceIte, ifA, ifB, hN, q1, q2, nmA, Nat.reduceAdd, ifA, ifB]; exact rfl)); all_goals (intro hb; (try simp only [Bool.not_true, Bool.not_false] at hb); first | (cases hb; done) | ((try rw [hb]); (try simp only [Bool.not_eq_true', Bool.not_eq_false', Bool.and_eq_true, dcA, dcB, dcC, dcD, dcE] at hb); (try (revert hb; with_reducible refine true_imp_iff.2 ?_)); first | (intro K hK; simp only [go_sem, Nat.reduceAdd, Nat.reduceMul, Nat.reduceEqDiff, Nat.reduceLT, reduceIte, reduceCtorEq, hN, q1, q2, nmA, Nat.reduceAdd, ifA, ifB]) | (simp only [St.ev, St.set, upd, Nat.reduceEqDiff, reduceIte, ifA, ifB, hN, q1, q2, nmA, Nat.reduceAdd, ifA, ifB]) | skip))) | refine awp_block ?_ | ((first | with_reducible refine aord_nil ?_ | refine awp_skip ?_ | refine awp_exit ?_ | refine awp_ret ?_); try simp only [rdA, Nat.reduceEqDiff, ifA, ifB, reduceIte]) | (refine awp_region tabOk rfl ?_; simp only [prep, pickO, lsA, lsB, lsC, lsD, lsE, lsF, lsG]) | ((with_reducible apply awp_cond); (focus (simp only [St.ev, St.set, upd, Nat.reduceEqDiff, reduceIte, ifA, ifB, hN, q1, q2, nmA, Nat.reduceAdd, ifA, ifB]; exact rfl)); all_goals (intro hb; first | (cases hb; done) | ((try rw [hb]); (try simp only [dcA, dcB, dcC, dcD, dcE, Bool.not_eq_true', Bool.not_eq_false'] at hb)))) | ((with_reducible refine And.intro ?_ ?_); (focus omega)) | (simp only [rBuild]; simp only [fillA, Nat.reduceLeDiff, List.getElem?_cons_zero, List.getElem?_cons_succ, List.drop_succ_cons, List.drop_nil, List.take_nil, List.cons_append, Option.isSome_some, go_sem, Nat.reduceAdd, Nat.reduceMul, Nat.reduceEqDiff, Nat.reduceLT, reduceIte, reduceCtorEq, hN, q1, q2, nmA, Nat.reduceAdd, ifA, ifB]) | (exfalso; omega) | fail)
            (refine yield_round (lp := LQ) (by first | (simp only [St.ev, St.set, upd, Nat.reduceEqDiff, reduceIte, ifA, ifB, hN, q1, q2, nmA, Nat.reduceAdd, ifA, ifB]; done) | (simp only [St.ev, St.set, upd, Nat.reduceEqDiff, reduceIte, ifA, ifB, hN, q1, q2, nmA, Nat.reduceAdd, ifA, ifB]; exact rfl)) LQ1 LQ2 (by first | exact List.mem_cons_self | exact List.mem_cons_of_mem _ List.mem_cons_self | exact List.mem_cons_of_mem _ (List.mem_cons_of_mem _ List.mem_cons_self) | exact List.mem_cons_of_mem _ (List.mem_cons_of_mem _ (List.mem_cons_of_mem _ List.mem_cons_self))) (by first | (rw [LQ3]; done) | (rw [LQ3]; rfl)) (by rw [LQ3]; decide) (fun m0 hm0 hcl hlt => ?_); rw [LQ3, LQ4, LQ5]; simp only [zipT, St.ev, St.set, upd, Nat.reduceEqDiff, reduceIte, ifA, ifB, hN, q1, q2, nmA, Nat.reduceAdd, ifA, ifB])
            repeat' (first | refine awp_seq_k fun K hK => ?_ | ((with_reducible refine hK _ ?_); clear hK K) | ((with_reducible refine aord_plain fun K hK => ?_); simp only [go_sem, Nat.reduceAdd, Nat.reduceMul, Nat.reduceEqDiff, Nat.reduceLT, reduceIte, reduceCtorEq, hN, q1, q2, nmA, Nat.reduceAdd, ifA, ifB, hN, q1, q2, mat.matL, DV.agg.injEq]) | ((with_reducible apply aord_guard); (focus (simp only [St.ev, St.set, upd, Nat.reduceEqDiff, reduceIte, ifA, ifB, hN, q1, q2, nmA, Nat.reduceAdd, ifA, ifB]; exact rfl)); all_goals (intro hb; (try simp only [Bool.not_true, Bool.not_false] at hb); first | (cases hb; done) | ((try rw [hb]); (try simp only [Bool.not_eq_true', Bool.not_eq_false', Bool.and_eq_true, dcA, dcB, dcC, dcD, dcE] at hb); (try (revert hb; with_reducible refine true_imp_iff.2 ?_)); first | (intro K hK; simp only [go_sem, Nat.reduceAdd, Nat.reduceMul, Nat.reduceEqDiff, Nat.reduceLT, reduceIte, reduceCtorEq, hN, q1, q2, nmA, Nat.reduceAdd, ifA, ifB]) | (simp only [St.ev, St.set, upd, Nat.reduceEqDiff, reduceIte, ifA, ifB, hN, q1, q2, nmA, Nat.reduceAdd, ifA, ifB]) | skip))) | refine awp_block ?_ | ((first | with_reducible refine aord_nil ?_ | refine awp_skip ?_ | refine awp_exit ?_ | refine awp_ret ?_); try simp only [rdA, Nat.reduceEqDiff, ifA, ifB, reduceIte]) | (refine awp_region tabOk rfl ?_; simp only [prep, pickO, lsA, lsB, lsC, lsD, lsE, lsF, lsG]) | ((with_reducible apply awp_cond); (focus (simp only [St.ev, St.set, upd, Nat.reduceEqDiff, reduceIte, ifA, ifB, hN, q1, q2, nmA, Nat.reduceAdd, ifA, ifB]; exact rfl)); all_goals (intro hb; first | (cases hb; done) | ((try rw [hb]); (try simp only [dcA, dcB, dcC, dcD, dcE, Bool.not_eq_true', Bool.not_eq_false'] at hb)))) | ((with_reducible refine And.intro ?_ ?_); (focus omega)) | ((with_reducible refine And.intro ?_ ?_); (focus (exact rfl))) | ((with_reducible refine And.intro (?_ : enters Try.prog 76) ?_); (focus exact Try.call76); (refine callX_h (callH_inline tabOk Try.func76 rfl 8 rfl [.tmp 2] rfl (Nat.le_of_ble_eq_true rfl) fun m0 hm0 hcl hlt => ?_)); simp only [initT, St.ev, St.set, upd, Nat.reduceEqDiff, reduceIte, ifA, ifB, hN, q1, q2, nmA, Nat.reduceAdd, ifA, ifB]) | (simp only [doneH]; simp only [ressK, resK, wrapR, go_sem, Nat.reduceAdd, Nat.reduceMul, Nat.reduceEqDiff, Nat.reduceLT, reduceIte, reduceCtorEq, hN, q1, q2, nmA, Nat.reduceAdd, ifA, ifB]) | (refine aStoreAll_cells (by simp only [St.ev, St.set, upd, Nat.reduceEqDiff, reduceIte, ifA, ifB, hN, q1, q2, nmA, Nat.reduceAdd, ifA, ifB]; exact rfl) ?_ ?_ ?_ ?_ ?_; (focus (first | rfl | omega | (simp; done) | (simp; omega) | (simp [szOf, tab]; done) | (simp [szOf, tab]; omega))); (focus (first | rfl | omega | (simp; done) | (simp; omega) | (simp [szOf, tab]; done) | (simp [szOf, tab]; omega))); (focus (first | rfl | omega | (simp; done) | (simp; omega) | (simp [szOf, tab]; done) | (simp [szOf, tab]; omega))); (focus (first | rfl | (simp [AV.cell, Value.oneCell']; done))); (try simp only [go_sem, Nat.reduceAdd, Nat.reduceMul, Nat.reduceEqDiff, Nat.reduceLT, reduceIte, reduceCtorEq, hN, q1, q2, nmA, Nat.reduceAdd, ifA, ifB])) | ((with_reducible refine roundA_normal ?_); simp only [St.ev, St.set, upd, Nat.reduceEqDiff, reduceIte, ifA, ifB, hN, q1, q2, nmA, Nat.reduceAdd, ifA, ifB]) | fail)
            refine ⟨((upd (upd (upd (upd (upd G (n + 9) none) M (some ⟨true, .cells [.val (.int .i64 0), .val (.int .i64 0)]⟩)) M (some ⟨true, .cells [.val (.int .i64 i), .val (.int .i64 j)]⟩)) (M + 1) (some ⟨true, .cells [.val (.int .i64 i), .val (.int .i64 j)]⟩)) (n + 9) (some ⟨true, .raw (.loop LQ)⟩)), M + 2, j + 1, s), ⟨by dsimp only; omega, hT.skip (fun h => by omega), ?_⟩, by dsimp only; omega, Wk.sub (tsd (tsd (tsd (tsd (tsd (tsd (tsd tsd0 rfl) rfl) rfl) rfl) rfl) rfl) rfl) (fun _ _ h => h) rfl⟩
            dsimp only
            refine hI.up (by omega) fun u hu => ?_
            by_cases e : u = n + 9
            · subst e; rw [upd_same]; exact c9.symm
            · rw [upd_ne _ _ e, upd_ne _ _ (by omega), upd_ne _ _ (by omega), upd_ne _ _ (by omega), upd_ne _ _ e]
        · have ej : d = j := by omega
          subst ej


          repeat' (first | refine awp_seq_k fun K hK => ?_ | ((with_reducible refine hK _ ?_); clear hK K) | (clear hK K; (with_reducible refine hK _ ?_); clear hK K) | ((with_reducible refine aord_plain fun K hK => ?_); simp only [go_sem, Nat.reduceAdd, Nat.reduceMul, Nat.reduceEqDiff, Nat.reduceLT, reduceIte, reduceCtorEq, mz, nmA, Nat.reduceAdd, ifA, ifB, mat.matL, DV.agg.injEq]) | ((with_reducible apply aord_guard); (focus (simp only [St.ev, St.set, upd, Nat.reduceEqDiff, reduceIte, ifA, ifB, mz, nmA, Nat.reduceAdd, ifA, ifB]; exact rfl)); all_goals (intro hb; (try simp only [Bool.not_true, Bool.not_false] at hb); first | (cases hb; done) | ((try rw [hb]); (try simp only [Bool.not_eq_true', Bool.not_eq_false', Bool.and_eq_true, dcA, dcB, dcC, dcD, dcE] at hb); (try (revert hb; with_reducible refine true_imp_iff.2 ?_)); first | (intro K hK; simp only [go_sem, Nat.reduceAdd, Nat.reduceMul, Nat.reduceEqDiff, Nat.reduceLT, reduceIte, reduceCtorEq, mz, nmA, Nat.reduceAdd, ifA, ifB]) | (simp only [St.ev, St.set, upd, Nat.reduceEqDiff, reduceIte, ifA, ifB, mz, nmA, Nat.reduceAdd, ifA, ifB]) | skip))) | refine awp_block ?_ | ((first | with_reducible refine aord_nil ?_ | refine awp_skip ?_ | refine awp_exit ?_ | refine awp_ret ?_); try simp only [rdA, Nat.reduceEqDiff, ifA, ifB, reduceIte]) | (refine awp_region tabOk rfl ?_; simp only [prep, pickO, lsA, lsB, lsC, lsD, lsE, lsF, lsG]) | ((with_reducible apply awp_cond); (focus (simp only [St.ev, St.set, upd, Nat.reduceEqDiff, reduceIte, ifA, ifB, mz, nmA, Nat.reduceAdd, ifA, ifB]; exact rfl)); all_goals (intro hb; first | (cases hb; done) | ((try rw [hb]); (try simp only [dcA, dcB, dcC, dcD, dcE, Bool.not_eq_true', Bool.not_eq_false'] at hb)))) | ((with_reducible refine And.intro ?_ ?_); (focus omega)) | (simp only [rBuild]; simp only [fillA, Nat.reduceLeDiff, List.getElem?_cons_zero, List.getElem?_cons_succ, List.drop_succ_cons, List.drop_nil, List.take_nil, List.cons_append, Option.isSome_some, go_sem, Nat.reduceAdd, Nat.reduceMul, Nat.reduceEqDiff, Nat.reduceLT, reduceIte, reduceCtorEq, mz, nmA, Nat.reduceAdd, ifA, ifB]) | (exfalso; omega) | fail)
          exact ⟨(G, M, i + 1, s), ⟨by dsimp only; omega, hT.row, hI⟩, by dsimp only; omega, Wk.sub (tsd (tsd (tsd (tsd tsd0 rfl) rfl) rfl) rfl) (fun _ _ h => h) rfl⟩
      · have ei : d = i := by omega
        subst ei
        have c3 := hI.c3
        have c7 := hI.c7
        have c9 := hI.c9
        have hdone := hT.done hg kinds_few hen
        have hsle := hT.le


        repeat' ((fail_if_success (with_reducible refine isRetQ ?_)); (first | refine awp_seq_k fun K hK => ?_ | ((with_reducible refine hK _ ?_); clear hK K) | (clear hK K; (with_reducible refine hK _ ?_); clear hK K) | ((with_reducible refine aord_plain fun K hK => ?_); simp only [go_sem, Nat.reduceAdd, Nat.reduceMul, Nat.reduceEqDiff, Nat.reduceLT, reduceIte, reduceCtorEq, c3, c7, c9, nmA, Nat.reduceAdd, ifA, ifB, c3, c7, c9, mat.matL, DV.agg.injEq]) | refine awp_block ?_ | ((first | with_reducible refine aord_nil ?_ | refine awp_skip ?_ | refine awp_exit ?_ | refine awp_ret ?_); try simp only [rdA, Nat.reduceEqDiff, ifA, ifB, reduceIte]) | (refine awp_region tabOk rfl ?_; simp only [prep, pickO, lsA, lsB, lsC, lsD, lsE, lsF, lsG]) | ((with_reducible apply awp_cond); (focus (simp only [St.ev, St.set, upd, Nat.reduceEqDiff, reduceIte, ifA, ifB, c3, c7, c9, nmA, Nat.reduceAdd, ifA, ifB]; exact rfl)); all_goals (intro hb; first | (cases hb; done) | ((try rw [hb]); (try simp only [dcA, dcB, dcC, dcD, dcE, Bool.not_eq_true', Bool.not_eq_false'] at hb)))) | (simp only [doneH]; simp only [ressK, resK, wrapR, go_sem, Nat.reduceAdd, Nat.reduceMul, Nat.reduceEqDiff, Nat.reduceLT, reduceIte, reduceCtorEq, c3, c7, c9, nmA, Nat.reduceAdd, ifA, ifB]) | ((with_reducible apply endA_go); (focus (simp only [St.ev, St.set, upd, Nat.reduceEqDiff, reduceIte, ifA, ifB, c3, c7, c9, nmA, Nat.reduceAdd, ifA, ifB]; exact rfl)); (focus assumption); (focus assumption); (try simp only [rdA, Nat.reduceEqDiff, ifA, ifB, reduceIte])) | (exfalso; omega) | fail))
        have hmn := hI.mn
        have hfr := hI.fr
        refine awp_weaken (s' := ⟨upd bot 6 (.val (.int .i64 s)), h, M⟩) (Wk.sub (tsd tsd0 rfl) (fun o ob ho => by have := (hclO o _ ho).1; dsimp only; (repeat rw [upd_ne _ _ (by omega)]); rw [hfr o (by omega)]; exact ho) rfl) ?_
        repeat' (first | ((first | with_reducible refine aord_nil ?_ | refine awp_skip ?_ | refine awp_exit ?_ | refine awp_ret ?_); try simp only [rdA, Nat.reduceEqDiff, ifA, ifB, reduceIte]) | (simp only [doneH]; simp only [ressK, resK, wrapR, go_sem, Nat.reduceAdd, Nat.reduceMul, Nat.reduceEqDiff, Nat.reduceLT, reduceIte, reduceCtorEq, c3, c7, c9, nmA, Nat.reduceAdd, ifA, ifB]) | fail)
        exact hQ s M hdone hsle (by omega)

end Go.Proofs.Ytacmgdaonacmeaa
