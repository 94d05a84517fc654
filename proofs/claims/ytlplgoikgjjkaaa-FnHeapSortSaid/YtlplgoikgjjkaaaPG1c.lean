/- Contracts of functions of the program. -/
import Derived.Test.YtlplgoikgjjkaaaPG1b
import Derived.ScopeJumps
namespace Go.Proofs.Ytlplgoikgjjkaaa
open Go Go.Ab
set_option linter.all false
set_option maxHeartbeats 4000000

theorem equalInts_sat : Sat Try.prog 10 (fun ds Q => ∃ (xs ys : List Int), ds = [.row (.ints .i64 (xs)), .row (.ints .i64 (ys))] ∧ (xs.length ≤ 1099511627776) ∧ (ys.length ≤ 1099511627776) ∧ Q (.val (.bool ((decide (xs = ys)))))) := by
  refine sat_intro tabOk Try.func10 rfl 26 rfl [.tmp 4] rfl ?_
  rintro ds Q W ⟨xs, ys, rfl, hx, hy, hQ⟩
  refine ⟨Nat.le_of_ble_eq_true rfl, ?_⟩
  simp only [initS, initT, mat.matL, mat, Cont.len]
  repeat' (first | refine awp_seq_k fun K hK => ?_ | ((with_reducible refine hK _ ?_); clear hK K) | (clear hK K; (with_reducible refine hK _ ?_); clear hK K) | (clear hK K; clear hK K; (with_reducible refine hK _ ?_); clear hK K) | (clear hK K; clear hK K; clear hK K; (with_reducible refine hK _ ?_); clear hK K) | (clear hK K; clear hK K; clear hK K; clear hK K; (with_reducible refine hK _ ?_); clear hK K) | (clear hK K; clear hK K; clear hK K; clear hK K; clear hK K; (with_reducible refine hK _ ?_); clear hK K) | ((with_reducible refine aord_plain fun K hK => ?_); simp only [go_sem, Nat.reduceAdd, Nat.reduceMul, Nat.reduceEqDiff, Nat.reduceLT, reduceIte, reduceCtorEq]) | refine awp_block ?_ | ((first | with_reducible refine aord_nil ?_ | refine awp_skip ?_ | refine awp_exit ?_ | refine awp_ret ?_); try simp only [thenA_normal, thenA_exit, thenA_goto, thenA_ret, blockA_normal, blockA_same, blockA_exit, blockA_goto, blockA_ret, Nat.reduceEqDiff, if_false, if_true, reduceIte]) | (refine awp_region tabOk rfl ?_; simp only [prep, pickO, List.map_cons, List.map_nil, List.getElem?_toArray, List.getElem?_cons_succ, List.getElem?_cons_zero, Option.bind_some, Option.map_some]) | (refine awp_region_draw (nt := 26) (id := 6) tabOk [(0, true, false), (1, true, false), (2, true, false), (3, true, false), (4, true, false), (5, true, false), (6, true, false), (7, true, false), (8, true, false)] (by kernel_rfl) rfl (by kernel_rfl) ?_; simp only [prep, pickO, List.map_cons, List.map_nil, List.getElem?_toArray, List.getElem?_cons_succ, List.getElem?_cons_zero, Option.bind_some, Option.map_some]) | ((with_reducible apply awp_cond); (focus (simp only [St.ev, St.set, upd, Nat.reduceEqDiff, reduceIte, if_false, if_true]; exact rfl)); all_goals (intro hb; first | (cases hb; done) | ((try rw [hb]); (try simp only [decide_eq_true_eq, decide_eq_false_iff_not, beq_iff_eq, bne_iff_ne, beq_eq_false_iff_ne, bne_eq_false_iff_eq, Int.not_lt, Int.not_le, Bool.not_eq_true', Bool.not_eq_false'] at hb)))) | ((with_reducible refine And.intro ?_ ?_); (focus omega)) | ((with_reducible refine And.intro ?_ ?_); (focus (exact rfl))) | (with_reducible refine And.intro (fun hb => ?_) (fun hb => ?_)) | (exfalso; omega) | fail)
  · simp only [St.set, St.ev, doneQ, doneH, ressK, resK, wrapR, AV.ids, AV.idsL, retK, retsK, upd, Nat.reduceEqDiff, reduceIte, if_false, if_true, List.nodup_nil, List.nodup_cons, List.not_mem_nil, not_false_eq_true, true_and, and_true, exists_eq_left', Option.some.injEq, rLoad, cellOf, tab, Ty.isAgg, Ty.one, Bool.false_eq_true]
    rw [decide_eq_false (fun h => hb (by rw [h]))] at hQ
    exact hQ
  · have hl : ys.length = xs.length := by omega
    refine awp_loopE (α := Nat) (fun s p => ⟨(upd (upd (upd bot 0 (s.tmps 0)) 1 (s.tmps 1)) 5 (.val (.int .i64 (p)))), s.heap, s.next⟩) _ (fun p => by simp only [St.ev, St.set, upd, Nat.reduceEqDiff, reduceIte, if_false, if_true]; exact rfl) (fun p => (p ≤ xs.length) ∧ (∀ j, j < p → xs.getD j 0 = ys.getD j 0)) (fun p => xs.length - p) (0) ?_ ?_ ?_
    · (try simp only); (refine ⟨?_, ?_⟩ <;> (first | omega | (intro j hj; omega)))
    · (apply Wk.same; (case' h2 => (focus ((repeat' (with_reducible first | exact HeapX.bot | (apply HeapX.skip; (case hx => (simp; done))) | apply HeapX.none | apply HeapX.upd)); all_goals (first | rfl | exact Nat.le_of_ble_eq_true rfl | (simp only [St.set, St.ev, upd, ren, renL, id, Nat.reduceEqDiff, reduceIte, ContLe]; done) | (first | (simp only [St.set, St.ev, upd, ren, renL, id, Nat.reduceEqDiff, reduceIte]; exact contLe_nil) | ((repeat' (first | exact contLe_nil | refine contLe_cons (.inr ⟨?_, rfl⟩) ?_)); all_goals (first | rfl | (simp only [St.set, St.ev, upd, ren, renL, id, Nat.reduceEqDiff, reduceIte]; done) | ((try simp only [St.set, St.ev, upd, ren, renL, id, Nat.reduceEqDiff, reduceIte]); first | (with_reducible exact av_int (by omega)) | (with_reducible exact av_sl (by first | omega | (simp; done) | (simp; omega)) (by first | omega | (simp; done) | (simp; omega)))) | (simp only [St.set, St.ev, upd, ren, renL, id, Nat.reduceEqDiff, reduceIte, Int.natCast_add, Int.natCast_one, Int.cast_ofNat_Int, Int.natCast_zero]; done) | (simp only [St.set, St.ev, upd, ren, renL, id, Nat.reduceEqDiff, reduceIte]) | skip); done)) | (simp only [St.set, St.ev, upd, ren, renL, id, Nat.reduceEqDiff, reduceIte, ContLe]) | skip)))); (case' h1 => (focus ((repeat' (with_reducible first | exact TmpLe.bot | refine TmpLe.upd ?_ rfl ?_)); all_goals (first | rfl | (simp only [St.set, St.ev, upd, ren, renL, id, Nat.reduceEqDiff, reduceIte]; done) | ((try simp only [St.set, St.ev, upd, ren, renL, id, Nat.reduceEqDiff, reduceIte]); first | (with_reducible exact av_int (by omega)) | (with_reducible exact av_sl (by first | omega | (simp; done) | (simp; omega)) (by first | omega | (simp; done) | (simp; omega)))) | (simp only [St.set, St.ev, upd, ren, renL, id, Nat.reduceEqDiff, reduceIte, Int.natCast_add, Int.natCast_one, Int.cast_ofNat_Int, Int.natCast_zero]; done) | (simp only [St.set, St.ev, upd, ren, renL, id, Nat.reduceEqDiff, reduceIte]) | skip)))); (case h3 => (focus (first | (simp only [id, List.map_cons, List.map_nil]; decide) | decide))); (case h4 => (intro o l h; first | (cases h; done) | (have hlt0 := m0_lt (by assumption) h; first | omega | (simp only; omega) | exact ⟨by (first | rfl | (simp only [id]; done) | (rw [if_neg (by omega)])), by first | omega | (simp only; omega)⟩))))
    rintro i ⟨hi, hj⟩
    try simp only at hi hj
    repeat' (first | refine awp_seq_k fun K hK => ?_ | ((with_reducible refine hK _ ?_); clear hK K) | (clear hK K; (with_reducible refine hK _ ?_); clear hK K) | (clear hK K; clear hK K; (with_reducible refine hK _ ?_); clear hK K) | (clear hK K; clear hK K; clear hK K; (with_reducible refine hK _ ?_); clear hK K) | (clear hK K; clear hK K; clear hK K; clear hK K; (with_reducible refine hK _ ?_); clear hK K) | (clear hK K; clear hK K; clear hK K; clear hK K; clear hK K; (with_reducible refine hK _ ?_); clear hK K) | ((with_reducible refine aord_plain fun K hK => ?_); simp only [go_sem, Nat.reduceAdd, Nat.reduceMul, Nat.reduceEqDiff, Nat.reduceLT, reduceIte, reduceCtorEq]) | refine awp_block ?_ | ((first | with_reducible refine aord_nil ?_ | refine awp_skip ?_ | refine awp_exit ?_ | refine awp_ret ?_); try simp only [thenA_normal, thenA_exit, thenA_goto, thenA_ret, blockA_normal, blockA_same, blockA_exit, blockA_goto, blockA_ret, Nat.reduceEqDiff, if_false, if_true, reduceIte]) | (refine awp_region tabOk rfl ?_; simp only [prep, pickO, List.map_cons, List.map_nil, List.getElem?_toArray, List.getElem?_cons_succ, List.getElem?_cons_zero, Option.bind_some, Option.map_some]) | (refine awp_region_draw (nt := 26) (id := 6) tabOk [(0, true, false), (1, true, false), (2, true, false), (3, true, false), (4, true, false), (5, true, false), (6, true, false), (7, true, false), (8, true, false)] (by kernel_rfl) rfl (by kernel_rfl) ?_; simp only [prep, pickO, List.map_cons, List.map_nil, List.getElem?_toArray, List.getElem?_cons_succ, List.getElem?_cons_zero, Option.bind_some, Option.map_some]) | ((with_reducible apply awp_cond); (focus (simp only [St.ev, St.set, upd, Nat.reduceEqDiff, reduceIte, if_false, if_true]; exact rfl)); all_goals (intro hb; first | (cases hb; done) | ((try rw [hb]); (try simp only [decide_eq_true_eq, decide_eq_false_iff_not, beq_iff_eq, bne_iff_ne, beq_eq_false_iff_ne, bne_eq_false_iff_eq, Int.not_lt, Int.not_le, Bool.not_eq_true', Bool.not_eq_false'] at hb)))) | ((with_reducible refine And.intro ?_ ?_); (focus omega)) | ((with_reducible refine And.intro ?_ ?_); (focus (exact rfl))) | (with_reducible refine And.intro (fun hb => ?_) (fun hb => ?_)) | (exfalso; omega) | fail)
    · simp only [St.set, St.ev, doneQ, doneH, ressK, resK, wrapR, AV.ids, AV.idsL, retK, retsK, upd, Nat.reduceEqDiff, reduceIte, if_false, if_true, List.nodup_nil, List.nodup_cons, List.not_mem_nil, not_false_eq_true, true_and, and_true, exists_eq_left', Option.some.injEq, rLoad, cellOf, tab, Ty.isAgg, Ty.one, Bool.false_eq_true]
      rw [decide_eq_false (fun h => hb (by rw [h]))] at hQ
      exact hQ
    · ((refine Exists.intro (i + 1) ?_); (refine nxt ?_ ?_ ?_); (focus (apply Wk.same; (case' h2 => (focus ((repeat' (with_reducible first | exact HeapX.bot | (apply HeapX.skip; (case hx => (simp; done))) | apply HeapX.none | apply HeapX.upd)); all_goals (first | rfl | exact Nat.le_of_ble_eq_true rfl | (simp only [St.set, St.ev, upd, ren, renL, id, Nat.reduceEqDiff, reduceIte, ContLe]; done) | (first | (simp only [St.set, St.ev, upd, ren, renL, id, Nat.reduceEqDiff, reduceIte]; exact contLe_nil) | ((repeat' (first | exact contLe_nil | refine contLe_cons (.inr ⟨?_, rfl⟩) ?_)); all_goals (first | rfl | (simp only [St.set, St.ev, upd, ren, renL, id, Nat.reduceEqDiff, reduceIte]; done) | ((try simp only [St.set, St.ev, upd, ren, renL, id, Nat.reduceEqDiff, reduceIte]); first | (with_reducible exact av_int (by omega)) | (with_reducible exact av_sl (by first | omega | (simp; done) | (simp; omega)) (by first | omega | (simp; done) | (simp; omega)))) | (simp only [St.set, St.ev, upd, ren, renL, id, Nat.reduceEqDiff, reduceIte, Int.natCast_add, Int.natCast_one, Int.cast_ofNat_Int, Int.natCast_zero]; done) | (simp only [St.set, St.ev, upd, ren, renL, id, Nat.reduceEqDiff, reduceIte]) | skip); done)) | (simp only [St.set, St.ev, upd, ren, renL, id, Nat.reduceEqDiff, reduceIte, ContLe]) | skip)))); (case' h1 => (focus ((repeat' (with_reducible first | exact TmpLe.bot | refine TmpLe.upd ?_ rfl ?_)); all_goals (first | rfl | (simp only [St.set, St.ev, upd, ren, renL, id, Nat.reduceEqDiff, reduceIte]; done) | ((try simp only [St.set, St.ev, upd, ren, renL, id, Nat.reduceEqDiff, reduceIte]); first | (with_reducible exact av_int (by omega)) | (with_reducible exact av_sl (by first | omega | (simp; done) | (simp; omega)) (by first | omega | (simp; done) | (simp; omega)))) | (simp only [St.set, St.ev, upd, ren, renL, id, Nat.reduceEqDiff, reduceIte, Int.natCast_add, Int.natCast_one, Int.cast_ofNat_Int, Int.natCast_zero]; done) | (simp only [St.set, St.ev, upd, ren, renL, id, Nat.reduceEqDiff, reduceIte]) | skip)))); (case h3 => (focus (first | (simp only [id, List.map_cons, List.map_nil]; decide) | decide))); (case h4 => (intro o l h; first | (cases h; done) | (have hlt0 := m0_lt (by assumption) h; first | omega | (simp only; omega) | exact ⟨by (first | rfl | (simp only [id]; done) | (rw [if_neg (by omega)])), by first | omega | (simp only; omega)⟩))))); (focus (first | omega | (simp only; omega) | (simp; omega))); ((repeat' (with_reducible apply And.intro)) <;> (first | omega | (simp only; omega) | assumption | rfl | ((try simp only); exact all_step hj hb) | skip)))
    · simp only [St.set, St.ev, doneQ, doneH, ressK, resK, wrapR, AV.ids, AV.idsL, retK, retsK, upd, Nat.reduceEqDiff, reduceIte, if_false, if_true, List.nodup_nil, List.nodup_cons, List.not_mem_nil, not_false_eq_true, true_and, and_true, exists_eq_left', Option.some.injEq, rLoad, cellOf, tab, Ty.isAgg, Ty.one, Bool.false_eq_true]
      rw [decide_eq_true (ext_getD hl.symm fun j h => hj j (by omega))] at hQ
      exact hQ


theorem invRow_nonneg (xs : List Int) (i : Nat) : ∀ k, 0 ≤ invRow xs i k
  | 0 => Int.le_refl 0
  | k + 1 => by have := invRow_nonneg xs i k; rw [invRow]; split <;> omega
theorem invRow_zero {xs : List Int} {i : Nat} : ∀ k, invRow xs i k = 0 ↔ ∀ j, j < k → i < j → xs.getD i 0 ≤ xs.getD j 0
  | 0 => ⟨fun _ j h => by omega, fun _ => rfl⟩
  | k + 1 => by
    have ih := invRow_zero (xs := xs) (i := i) k
    have h0 := invRow_nonneg xs i k
    rw [invRow]
    constructor
    · intro h j hj hij
      split at h
      · omega
      · rename_i hc
        rcases Nat.lt_or_ge j k with h1 | h1
        · exact ih.1 (by omega) j h1 hij
        · have : j = k := by omega
          subst this; omega
    · intro h
      have h1 := ih.2 fun j hj hij => h j (by omega) hij
      rw [if_neg (fun hc => by have := h k (by omega) hc.1; omega), h1]; rfl
theorem invTo_nonneg (xs : List Int) : ∀ i, 0 ≤ invTo xs i
  | 0 => Int.le_refl 0
  | i + 1 => by have := invTo_nonneg xs i; have := invRow_nonneg xs i xs.length; rw [invTo]; omega
theorem invTo_zero {xs : List Int} : ∀ i, invTo xs i = 0 ↔ ∀ a, a < i → ∀ j, j < xs.length → a < j → xs.getD a 0 ≤ xs.getD j 0
  | 0 => ⟨fun _ a h => by omega, fun _ => rfl⟩
  | i + 1 => by
    have ih := invTo_zero (xs := xs) i
    have h0 := invTo_nonneg xs i
    have h1 := invRow_nonneg xs i xs.length
    have h2 := invRow_zero (xs := xs) (i := i) xs.length
    rw [invTo]
    constructor
    · intro h a ha
      rcases Nat.lt_or_ge a i with h3 | h3
      · exact ih.1 (by omega) a h3
      · have : a = i := by omega
        subst this; exact h2.1 (by omega)
    · intro h
      have h3 := ih.2 fun a ha => h a (by omega)
      have h4 := h2.2 (h i (by omega))
      omega
theorem inv_srt (xs : List Int) : (invTo xs xs.length == 0) = srt xs := by
  have h1 := invTo_zero (xs := xs) xs.length
  cases e : srt xs with
  | true =>
    have : invTo xs xs.length = 0 := h1.2 fun a ha j hj haj => by
      obtain ⟨d, rfl⟩ : ∃ d, j = a + d := ⟨j - a, by omega⟩
      exact srt_le e hj
    rw [this]; rfl
  | false =>
    have : invTo xs xs.length ≠ 0 := fun h => by
      have := srt_iff.2 fun j hj => (h1.1 h) j (by omega) (j + 1) hj (by omega)
      rw [this] at e; cases e
    simpa using this
theorem ord_dec (xs : List Int) : decide (ordL xs = xs) = srt xs := by
  rw [srt_eq]; apply decide_eq_decide.2; exact eq_comm
theorem sq_beq (b : Bool) : (b == b) = true := by cases b <;> rfl
theorem sq_bne (b : Bool) : (b != b) = false := by cases b <;> rfl
theorem int_bne (n : Int) : (n != n) = false := by simp


theorem plN_ltK {xs : List Int} {i k : Nat} (hi : i < xs.length) (hk : k < xs.length) : plN xs i < plN xs k ↔ ltK xs i k := by
  constructor
  · intro h
    by_cases h1 : ltK xs i k
    · exact h1
    · by_cases e : i = k
      · subst e; omega
      · have h2 : ltK xs k i := by unfold ltK at h1 ⊢; omega
        have := plN_mono hk h2
        omega
  · exact plN_mono hi
theorem placesL_cast {xs : List Int} {i : Nat} (h : i < xs.length) : (placesL xs).getD i 0 = (plN xs i : Nat) := by
  rw [placesL_get h]; unfold plN; have := plC_nonneg xs i xs.length; omega
theorem plC_places {xs : List Int} {i : Nat} (hi : i < xs.length) : ∀ m, m ≤ xs.length → plC (placesL xs) i m = plC xs i m
  | 0, _ => rfl
  | m + 1, hm => by
    rw [plC, plC, plC_places hi m (by omega), placesL_cast (show m < xs.length by omega), placesL_cast hi]
    have h1 := plN_ltK (xs := xs) (i := m) (k := i) (by omega) hi
    have h2 : plN xs m = plN xs i → m = i := plN_inj (by omega) hi
    have e : ((plN xs m : Nat) : Int) < (plN xs i : Nat) ∨ (((plN xs m : Nat) : Int) = (plN xs i : Nat) ∧ m < i) ↔ xs.getD m 0 < xs.getD i 0 ∨ (xs.getD m 0 = xs.getD i 0 ∧ m < i) := by
      unfold ltK at h1; omega
    simp only [e]
theorem places_places (xs : List Int) : placesL (placesL xs) = placesL xs := by
  refine ext_getD (by rw [placesL_len]) fun j hj => ?_
  rw [placesL_len, placesL_len] at hj
  rw [placesL_get (by rw [placesL_len]; exact hj), placesL_len, plC_places hj _ (Nat.le_refl _), placesL_get hj]
theorem plN_places {xs : List Int} {i : Nat} (hi : i < xs.length) : plN (placesL xs) i = plN xs i := by
  unfold plN; rw [placesL_len, plC_places hi _ (Nat.le_refl _)]
theorem invRow_places {xs : List Int} {i : Nat} (hi : i < xs.length) : ∀ m, m ≤ xs.length → invRow (placesL xs) i m = invRow xs i m
  | 0, _ => rfl
  | m + 1, hm => by
    rw [invRow, invRow, invRow_places hi m (by omega), placesL_cast (show m < xs.length by omega), placesL_cast hi]
    have h1 := plN_ltK (xs := xs) (i := m) (k := i) (by omega) hi
    have e : (i < m ∧ ((plN xs m : Nat) : Int) < (plN xs i : Nat)) ↔ (i < m ∧ xs.getD m 0 < xs.getD i 0) := by
      unfold ltK at h1; omega
    simp only [e]
theorem invTo_places (xs : List Int) : ∀ i, i ≤ xs.length → invTo (placesL xs) i = invTo xs i
  | 0, _ => rfl
  | i + 1, h => by rw [invTo, invTo, invTo_places xs i (by omega), placesL_len, invRow_places (by omega) _ (Nat.le_refl _)]
def riseL (n : Nat) : List Int := (List.range n).map Int.ofNat
theorem riseL_len (n : Nat) : (riseL n).length = n := by simp [riseL]
theorem riseL_get {n i : Nat} (h : i < n) : (riseL n).getD i 0 = i := by
  rw [List.getD_eq_getElem?_getD, List.getElem?_eq_getElem (by rw [riseL_len]; exact h)]; simp [riseL]
theorem riseL_up (n : Nat) : riseL (n + 1) = riseL n ++ [(n : Int)] := by simp [riseL, List.range_succ]
theorem ord_places (xs : List Int) : ordL (placesL xs) = riseL xs.length := by
  refine ext_getD (by rw [ordL_len, placesL_len, riseL_len]) fun j hj => ?_
  rw [ordL_len, placesL_len] at hj
  obtain ⟨a, ha, rfl⟩ := ord_from hj
  rw [riseL_get hj]
  have := ord_at (xs := placesL xs) (a := a) (by rw [placesL_len]; exact ha)
  rw [plN_places ha] at this
  rw [this, placesL_cast ha]
theorem valid_places {xs : List Int} (h : validB xs = true) : validB (placesL xs) = true := by
  have h8 := valid_len h
  refine valid_all (by rw [placesL_len]; exact h8) fun j hj => ?_
  rw [placesL_len] at hj
  have := placesL_lt hj
  unfold inB
  rw [decide_eq_true (by omega), decide_eq_true (by omega)]; rfl
theorem dec_self (xs : List Int) : decide (xs = xs) = true := decide_eq_true rfl


theorem aStoreAll_cells {tab : Tab} {h : Hp} {n : Nat} {t : TypeId} {o : Nat} {old al : List AV} {K : AV → Hp → Nat → Prop} (ho : h o = some ⟨true, .cells old⟩) (hl : old.length = al.length) (hp : 0 < al.length) (hsz : szOf tab t = some al.length) (hc : al.all AV.cell = true)
    (hK : K .any (upd h o (some ⟨true, .cells al⟩)) n) : ∃ c', aStoreAll tab h n t (.ref o 0) (.agg al) c' K :=
  ⟨.cells al, _, ho, rfl, rfl, rfl, hp, by simpa [Cont.flat] using hl, by simpa using hsz, hc, rfl, hK⟩
/-- A piece of code with labels, through which one goes without a goto. -/
def noGotoA (Q : Exit → St → Prop) : Exit → St → Prop
  | .goto _, _ => False
  | e, s => Q e s
theorem noGotoA_normal (Q : Exit → St → Prop) (s : St) : noGotoA Q .normal s = Q .normal s := rfl
theorem noGotoA_exit (Q : Exit → St → Prop) (s : St) (i : Nat) : noGotoA Q (.exit i) s = Q (.exit i) s := rfl
theorem noGotoA_ret (Q : Exit → St → Prop) (s : St) : noGotoA Q .ret s = Q .ret s := rfl
theorem awp_scope {P : Program} {Γ : Ctx} {nt : Nat} {Q : Exit → St → Prop} {s : St} {c : Code} (h : AWP Γ nt P c (noGotoA Q) s) : AWP Γ nt P (.scope c) Q s := fun m a w hs =>
  wp_scope_straight (wp_mono (h m a w hs) fun e a' w' ⟨m', s', h1, h2⟩ => by
    cases e <;> first | exact ⟨m', s', h1, h2⟩ | exact h2.elim)
def swp (xs : List Int) (a b : Nat) : List Int := (xs.set a (xs.getD b 0)).set b (xs.getD a 0)
theorem swp_len (xs : List Int) (a b : Nat) : (swp xs a b).length = xs.length := by simp [swp]
/-- A key goes ahead by steps: what is there, how often was asked, how often moved. -/
def insIn (st : Nat) (k : Nat) (xs : List Int) (a m : Int) : List Int × Int × Int :=
  if h : 0 < st ∧ st ≤ k then (if xs.getD (k - st) 0 ≤ xs.getD k 0 then (xs, a + 1, m) else insIn st (k - st) (swp xs (k - st) k) (a + 1) (m + 1)) else (xs, a, m)
termination_by k
decreasing_by omega
theorem insIn_end {st k : Nat} {xs : List Int} {a m : Int} (h : k < st) : insIn st k xs a m = (xs, a, m) := by rw [insIn, dif_neg (by omega)]
theorem insIn_stop {st k : Nat} {xs : List Int} {a m : Int} (h0 : 0 < st) (h : st ≤ k) (hle : xs.getD (k - st) 0 ≤ xs.getD k 0) : insIn st k xs a m = (xs, a + 1, m) := by rw [insIn, dif_pos ⟨h0, h⟩, if_pos hle]
theorem insIn_go {st k : Nat} {xs : List Int} {a m : Int} (h0 : 0 < st) (h : st ≤ k) (hle : xs.getD k 0 < xs.getD (k - st) 0) : insIn st k xs a m = insIn st (k - st) (swp xs (k - st) k) (a + 1) (m + 1) := by rw [insIn, dif_pos ⟨h0, h⟩, if_neg (by omega)]
theorem insIn_in {st : Nat} : ∀ (f k : Nat) (xs : List Int) (a m : Int), k < f → (insIn st k xs a m).1.length = xs.length ∧ a ≤ (insIn st k xs a m).2.1 ∧ (insIn st k xs a m).2.1 ≤ a + k + 1 ∧ m ≤ (insIn st k xs a m).2.2 ∧ (insIn st k xs a m).2.2 ≤ m + k + 1
  | 0, k, xs, a, m, h => by omega
  | f + 1, k, xs, a, m, h => by
    by_cases h1 : 0 < st ∧ st ≤ k
    · rcases Int.lt_or_le (xs.getD k 0) (xs.getD (k - st) 0) with h2 | h2
      · rw [insIn_go h1.1 h1.2 h2]
        have := insIn_in (st := st) f (k - st) (swp xs (k - st) k) (a + 1) (m + 1) (by omega)
        rw [swp_len] at this
        omega
      · rw [insIn_stop h1.1 h1.2 h2]
        exact ⟨rfl, by simp only; omega, by simp only; omega, by simp only; omega, by simp only; omega⟩
    · rw [insIn, dif_neg h1]
      exact ⟨rfl, by simp only; omega, by simp only; omega, by simp only; omega, by simp only; omega⟩
def insTo (st : Nat) (s : List Int × Int × Int) : Nat → List Int × Int × Int
  | 0 => s
  | j + 1 => insIn st (st + j) (insTo st s j).1 (insTo st s j).2.1 (insTo st s j).2.2
theorem insTo_in {st : Nat} {s : List Int × Int × Int} (hn : s.1.length ≤ 8) : ∀ j, st + j ≤ s.1.length ∨ j = 0 → (insTo st s j).1.length = s.1.length ∧ s.2.1 ≤ (insTo st s j).2.1 ∧ (insTo st s j).2.1 ≤ s.2.1 + 9 * j ∧ s.2.2 ≤ (insTo st s j).2.2 ∧ (insTo st s j).2.2 ≤ s.2.2 + 9 * j
  | 0, _ => by simp [insTo]
  | j + 1, h => by
    have ih := insTo_in (st := st) hn j (by omega)
    have := insIn_in (st := st) (st + j + 1) (st + j) (insTo st s j).1 (insTo st s j).2.1 (insTo st s j).2.2 (by omega)
    rw [insTo]
    omega


theorem eqWork_sat : Sat Try.prog 13 (fun ds Q => ∃ (xs ys : List Int) (a b c d : Int), ds = [.agg [.row (.ints .i64 (xs)), .val (.int .i64 (a)), .val (.int .i64 (b))], .agg [.row (.ints .i64 (ys)), .val (.int .i64 (c)), .val (.int .i64 (d))]] ∧ (xs.length ≤ 1099511627776) ∧ (ys.length ≤ 1099511627776) ∧ Q (.val (.bool ((decide (xs = ys ∧ a = c ∧ b = d)))))) := by
  refine sat_intro tabOk Try.func13 rfl 21 rfl [.tmp 4] rfl ?_
  rintro ds Q W ⟨xs, ys, a, b, c, d, rfl, hx, hy, hQ⟩
  refine ⟨Nat.le_of_ble_eq_true rfl, ?_⟩
  simp only [initS, initT, mat.matL, mat, Cont.len]
  repeat' (first | refine awp_seq_k fun K hK => ?_ | ((with_reducible refine hK _ ?_); clear hK K) | (clear hK K; (with_reducible refine hK _ ?_); clear hK K) | (clear hK K; clear hK K; (with_reducible refine hK _ ?_); clear hK K) | (clear hK K; clear hK K; clear hK K; (with_reducible refine hK _ ?_); clear hK K) | (clear hK K; clear hK K; clear hK K; clear hK K; (with_reducible refine hK _ ?_); clear hK K) | (clear hK K; clear hK K; clear hK K; clear hK K; clear hK K; (with_reducible refine hK _ ?_); clear hK K) | ((with_reducible refine aord_plain fun K hK => ?_); simp only [go_sem, Nat.reduceAdd, Nat.reduceMul, Nat.reduceEqDiff, Nat.reduceLT, reduceIte, reduceCtorEq]) | refine awp_block ?_ | ((first | with_reducible refine aord_nil ?_ | refine awp_skip ?_ | refine awp_exit ?_ | refine awp_ret ?_); try simp only [thenA_normal, thenA_exit, thenA_goto, thenA_ret, blockA_normal, blockA_same, blockA_exit, blockA_goto, blockA_ret, Nat.reduceEqDiff, if_false, if_true, reduceIte]) | (refine awp_region tabOk rfl ?_; simp only [prep, pickO, List.map_cons, List.map_nil, List.getElem?_toArray, List.getElem?_cons_succ, List.getElem?_cons_zero, Option.bind_some, Option.map_some]) | ((with_reducible apply awp_cond); (focus (simp only [St.ev, St.set, upd, Nat.reduceEqDiff, reduceIte, if_false, if_true]; exact rfl)); all_goals (intro hb; first | (cases hb; done) | ((try rw [hb]); (try simp only [decide_eq_true_eq, decide_eq_false_iff_not, beq_iff_eq, bne_iff_ne, beq_eq_false_iff_ne, bne_eq_false_iff_eq, Int.not_lt, Int.not_le, Bool.not_eq_true', Bool.not_eq_false'] at hb)))) | ((with_reducible refine And.intro ?_ ?_); (focus omega)) | ((with_reducible refine And.intro ?_ ?_); (focus (exact rfl))) | ((with_reducible refine And.intro (?_ : enters Try.prog 14) ?_); (focus exact Try.call14); (refine callX_sat eqIntS_sat ?_); simp only [go_sem, and_assoc, List.nil_append, List.append_nil, List.cons_append, Nat.reduceEqDiff, reduceIte, reduceCtorEq]) | (with_reducible refine And.intro (fun hb => ?_) (fun hb => ?_)) | (exfalso; omega) | fail)
  all_goals simp only [St.set, St.ev, doneQ, doneH, ressK, resK, wrapR, AV.ids, AV.idsL, retK, retsK, upd, Nat.reduceEqDiff, reduceIte, if_false, if_true, List.nodup_nil, List.nodup_cons, List.not_mem_nil, not_false_eq_true, true_and, and_true, exists_eq_left', Option.some.injEq, rLoad, cellOf, tab, Ty.isAgg, Ty.one, Bool.false_eq_true]
  all_goals first | (simpa [*] using hQ; done) | (simp_all; done)


theorem heldWork_sat : Sat Try.prog 17 (fun ds Q => ∃ (xs : List Int) (a b k : Int), ds = [.agg [.row (.ints .i64 (xs)), .val (.int .i64 (a)), .val (.int .i64 (b))], .val (.int .i64 (k))] ∧ (xs = marks k xs.length) ∧ (0 ≤ k ∧ k ≤ 1000 ∧ xs.length ≤ 1099511627776) ∧ Q (.val (.int .i64 ((k + xs.length))))) := by
  refine sat_intro tabOk Try.func17 rfl 12 rfl [.tmp 4] rfl ?_
  rintro ds Q W ⟨xs, a, b, k, rfl, he, hk, hQ⟩
  refine ⟨Nat.le_of_ble_eq_true rfl, ?_⟩
  simp only [initS, initT, mat.matL, mat, Cont.len]
  repeat' (first | refine awp_seq_k fun K hK => ?_ | ((with_reducible refine hK _ ?_); clear hK K) | (clear hK K; (with_reducible refine hK _ ?_); clear hK K) | (clear hK K; clear hK K; (with_reducible refine hK _ ?_); clear hK K) | (clear hK K; clear hK K; clear hK K; (with_reducible refine hK _ ?_); clear hK K) | (clear hK K; clear hK K; clear hK K; clear hK K; (with_reducible refine hK _ ?_); clear hK K) | (clear hK K; clear hK K; clear hK K; clear hK K; clear hK K; (with_reducible refine hK _ ?_); clear hK K) | ((with_reducible refine aord_plain fun K hK => ?_); simp only [go_sem, Nat.reduceAdd, Nat.reduceMul, Nat.reduceEqDiff, Nat.reduceLT, reduceIte, reduceCtorEq]) | refine awp_block ?_ | ((first | with_reducible refine aord_nil ?_ | refine awp_skip ?_ | refine awp_exit ?_ | refine awp_ret ?_); try simp only [thenA_normal, thenA_exit, thenA_goto, thenA_ret, blockA_normal, blockA_same, blockA_exit, blockA_goto, blockA_ret, Nat.reduceEqDiff, if_false, if_true, reduceIte]) | (refine awp_region tabOk rfl ?_; simp only [prep, pickO, List.map_cons, List.map_nil, List.getElem?_toArray, List.getElem?_cons_succ, List.getElem?_cons_zero, Option.bind_some, Option.map_some]) | ((with_reducible apply awp_cond); (focus (simp only [St.ev, St.set, upd, Nat.reduceEqDiff, reduceIte, if_false, if_true]; exact rfl)); all_goals (intro hb; first | (cases hb; done) | ((try rw [hb]); (try simp only [decide_eq_true_eq, decide_eq_false_iff_not, beq_iff_eq, bne_iff_ne, beq_eq_false_iff_ne, bne_eq_false_iff_eq, Int.not_lt, Int.not_le, Bool.not_eq_true', Bool.not_eq_false'] at hb)))) | ((with_reducible refine And.intro ?_ ?_); (focus omega)) | ((with_reducible refine And.intro ?_ ?_); (focus (exact rfl))) | ((with_reducible refine And.intro (?_ : enters Try.prog 29) ?_); (focus exact Try.call29); (refine callX_sat heldIntS_sat ?_); simp only [go_sem, and_assoc, List.nil_append, List.append_nil, List.cons_append, Nat.reduceEqDiff, reduceIte, reduceCtorEq]) | (with_reducible refine And.intro (fun hb => ?_) (fun hb => ?_)) | (exfalso; omega) | fail)
  all_goals (simp only [St.set, St.ev, doneQ, doneH, ressK, resK, wrapR, AV.ids, AV.idsL, retK, retsK, upd, Nat.reduceEqDiff, reduceIte, if_false, if_true, List.nodup_nil, List.nodup_cons, List.not_mem_nil, not_false_eq_true, true_and, and_true, exists_eq_left', Option.some.injEq, rLoad, cellOf, tab, Ty.isAgg, Ty.one, Bool.false_eq_true]; exact hQ)


theorem isReg {P : Program} {Γ : Ctx} {Q : Exit → St → Prop} {s : St} {ops : Array Oper} {b : Bool} {r : Code} (nt id : Nat) (h : AWP Γ nt P (.seq (.region id ops b) r) Q s) : AWP Γ nt P (.seq (.region id ops b) r) Q s := h


theorem equalWork_sat : Sat Try.prog 7 (fun ds Q => ∃ (xs ys : List Int) (a b c d : Int), ds = [.agg [.row (.ints .i64 (xs)), .val (.int .i64 (a)), .val (.int .i64 (b))], .agg [.row (.ints .i64 (ys)), .val (.int .i64 (c)), .val (.int .i64 (d))]] ∧ (xs.length ≤ 1099511627776) ∧ (ys.length ≤ 1099511627776) ∧ Q (.val (.bool ((decide (xs = ys ∧ a = c ∧ b = d)))))) := by
  refine sat_intro tabOk Try.func7 rfl 24 rfl [.tmp 4] rfl ?_
  rintro ds Q W ⟨xs, ys, a, b, c, d, rfl, hx, hy, hQ⟩
  refine ⟨Nat.le_of_ble_eq_true rfl, ?_⟩
  simp only [initS, initT, mat.matL, mat, Cont.len]
  repeat' (first | refine awp_seq_k fun K hK => ?_ | ((with_reducible refine hK _ ?_); clear hK K) | (clear hK K; (with_reducible refine hK _ ?_); clear hK K) | (clear hK K; clear hK K; (with_reducible refine hK _ ?_); clear hK K) | (clear hK K; clear hK K; clear hK K; (with_reducible refine hK _ ?_); clear hK K) | (clear hK K; clear hK K; clear hK K; clear hK K; (with_reducible refine hK _ ?_); clear hK K) | (clear hK K; clear hK K; clear hK K; clear hK K; clear hK K; (with_reducible refine hK _ ?_); clear hK K) | ((with_reducible refine aord_plain fun K hK => ?_); simp only [go_sem, Nat.reduceAdd, Nat.reduceMul, Nat.reduceEqDiff, Nat.reduceLT, reduceIte, reduceCtorEq]) | ((with_reducible apply aord_guard); (focus (simp only [St.ev, St.set, upd, Nat.reduceEqDiff, reduceIte, if_false, if_true]; exact rfl)); all_goals (intro hb; (try simp only [Bool.not_true, Bool.not_false] at hb); first | (cases hb; done) | ((try rw [hb]); (try simp only [Bool.not_eq_true', Bool.not_eq_false', Bool.and_eq_true, decide_eq_true_eq, decide_eq_false_iff_not, beq_iff_eq, bne_iff_ne, beq_eq_false_iff_ne, bne_eq_false_iff_eq, Int.not_lt, Int.not_le] at hb); (try (revert hb; with_reducible refine true_imp_iff.2 ?_)); first | (intro K hK; simp only [go_sem, Nat.reduceAdd, Nat.reduceMul, Nat.reduceEqDiff, Nat.reduceLT, reduceIte, reduceCtorEq]) | (simp only [St.ev, St.set, upd, Nat.reduceEqDiff, reduceIte, if_false, if_true]) | skip))) | ((with_reducible apply aord_skip); (focus (simp only [St.ev, St.set, upd, Nat.reduceEqDiff, reduceIte, if_false, if_true]; done)); (simp only [St.ev, St.set, upd, Nat.reduceEqDiff, reduceIte, if_false, if_true])) | refine awp_block ?_ | ((first | with_reducible refine aord_nil ?_ | refine awp_skip ?_ | refine awp_exit ?_ | refine awp_ret ?_); try simp only [thenA_normal, thenA_exit, thenA_goto, thenA_ret, blockA_normal, blockA_same, blockA_exit, blockA_goto, blockA_ret, Nat.reduceEqDiff, if_false, if_true, reduceIte]) | (refine awp_region tabOk rfl ?_; simp only [prep, pickO, List.map_cons, List.map_nil, List.getElem?_toArray, List.getElem?_cons_succ, List.getElem?_cons_zero, Option.bind_some, Option.map_some]) | ((with_reducible refine And.intro ?_ ?_); (focus omega)) | ((with_reducible refine And.intro ?_ ?_); (focus (exact rfl))) | ((with_reducible refine And.intro (?_ : enters Try.prog 10) ?_); (focus exact Try.call10); (refine callX_sat equalInts_sat ?_); simp only [go_sem, and_assoc, List.nil_append, List.append_nil, List.cons_append, Nat.reduceEqDiff, reduceIte, reduceCtorEq]) | (with_reducible refine And.intro (fun hb => ?_) (fun hb => ?_)) | (exfalso; omega) | fail)
  all_goals simp only [St.set, St.ev, doneQ, doneH, ressK, resK, wrapR, AV.ids, AV.idsL, retK, retsK, upd, Nat.reduceEqDiff, reduceIte, if_false, if_true, List.nodup_nil, List.nodup_cons, List.not_mem_nil, not_false_eq_true, true_and, and_true, exists_eq_left', Option.some.injEq, rLoad, cellOf, tab, Ty.isAgg, Ty.one, Bool.false_eq_true]
  all_goals first | (have e : (b == d) = decide (xs = ys ∧ a = c ∧ b = d) := (by by_cases h : b = d <;> simp [*]); rw [e]; exact hQ) | (simpa [*] using hQ; done) | (simp_all; done)


theorem getD_in {xs : List Int} {i : Nat} (h : i < xs.length) : xs.getD i 0 = xs[i] := by
  rw [List.getD_eq_getElem?_getD, List.getElem?_eq_getElem h]; rfl
theorem swp_perm {xs : List Int} {a b : Nat} (ha : a < xs.length) (hb : b < xs.length) : (swp xs a b).Perm xs := by
  unfold swp
  rw [getD_in ha, getD_in hb]
  exact List.set_set_perm ha hb
theorem swp_get {xs : List Int} {a b : Nat} (ha : a < xs.length) (hb : b < xs.length) (j : Nat) : (swp xs a b).getD j 0 = if j = b then xs.getD a 0 else if j = a then xs.getD b 0 else xs.getD j 0 := by
  unfold swp
  by_cases e : b = j
  · subst e; rw [getD_set_same (by simpa using hb), if_pos rfl]
  · rw [getD_set_ne' e, if_neg (fun h => e h.symm)]
    by_cases e2 : a = j
    · subst e2; rw [getD_set_same ha, if_pos rfl]
    · rw [getD_set_ne' e2, if_neg (fun h => e2 h.symm)]
theorem srt_pair {xs : List Int} (h : srt xs = true) : xs.Pairwise (· ≤ ·) := by
  rw [List.pairwise_iff_getElem]
  intro i j hi hj hij
  obtain ⟨d, rfl⟩ : ∃ d, j = i + d := ⟨j - i, by omega⟩
  have := srt_le h (d := d) (i := i) hj
  rwa [getD_in hi, getD_in hj] at this
theorem nodup_perm : ∀ (l m : List Nat), l.Nodup → (∀ a ∈ l, a ∈ m) → m.length ≤ l.length → l.Perm m
  | [], m, _, _, h => by
    have : m = [] := List.eq_nil_of_length_eq_zero (by simpa using h)
    subst this; exact List.Perm.refl _
  | a :: t, m, hn, hs, hl => by
    have ha : a ∈ m := hs a List.mem_cons_self
    have hn2 := List.nodup_cons.1 hn
    have := nodup_perm t (m.erase a) hn2.2 (fun b hb => (List.mem_erase_of_ne (fun e => hn2.1 (by subst e; exact hb))).2 (hs b (List.mem_cons_of_mem _ hb))) (by
      rw [List.length_erase_of_mem ha]; simp only [List.length_cons] at hl; omega)
    exact (this.cons a).trans (List.perm_cons_erase ha).symm
theorem range_eq (xs : List Int) : (List.range xs.length).map (fun i => xs.getD i 0) = xs := by
  refine ext_getD (by simp) fun j hj => ?_
  simp only [List.length_map, List.length_range] at hj
  rw [List.getD_eq_getElem?_getD, List.getElem?_eq_getElem (by simpa using hj)]; simp
/-- The keys at their places are the keys. -/
theorem ord_perm (xs : List Int) : (ordL xs).Perm xs := by
  have h1 : ((List.range xs.length).map (plN xs)).Perm (List.range xs.length) := by
    refine nodup_perm _ _ ?_ ?_ (by simp)
    · rw [List.Nodup, List.pairwise_map]
      refine (List.nodup_range (n := xs.length)).imp_of_mem ?_
      intro a b ha hb hne h
      exact hne (plN_inj (List.mem_range.1 ha) (List.mem_range.1 hb) h)
    · intro a ha
      obtain ⟨i, hi, rfl⟩ := List.mem_map.1 ha
      exact List.mem_range.2 (plN_lt (List.mem_range.1 hi))
  have h2 := h1.map (fun i => (ordL xs).getD i 0)
  have h3 : (List.range xs.length).map (fun i => (ordL xs).getD i 0) = ordL xs := by have := range_eq (ordL xs); rwa [ordL_len] at this
  have h4 : ((List.range xs.length).map (plN xs)).map (fun i => (ordL xs).getD i 0) = xs := by
    rw [List.map_map]
    refine Eq.trans (List.map_congr_left fun i hi => ?_) (range_eq xs)
    exact ord_at (List.mem_range.1 hi)
  rw [h3, h4] at h2
  exact h2.symm
theorem srt_uniq {xs ys : List Int} (h : srt ys = true) (hp : ys.Perm xs) : ys = ordL xs :=
  List.Perm.eq_of_pairwise (le := (· ≤ ·)) (fun _ _ _ _ h1 h2 => Int.le_antisymm h1 h2) (srt_pair h) (srt_pair ord_srt) (hp.trans (ord_perm xs).symm)
def invL : List Int → Int
  | [] => 0
  | x :: l => (l.countP (· < x) : Nat) + invL l
theorem swp_cons (x : Int) (l : List Int) (i j : Nat) : swp (x :: l) (i + 1) (j + 1) = x :: swp l i j := by
  simp [swp]
theorem inv_adj : ∀ (l : List Int) (i : Nat), i + 1 < l.length → l.getD (i + 1) 0 < l.getD i 0 → invL (swp l i (i + 1)) + 1 = invL l
  | [], i, h, _ => by simp at h
  | [_], i, h, _ => by simp at h
  | a :: b :: t, 0, _, hlt => by
    have e : swp (a :: b :: t) 0 1 = b :: a :: t := by simp [swp]
    have hlt : b < a := by simpa using hlt
    rw [e]
    simp only [invL, List.countP_cons, decide_eq_true_eq]
    rw [if_neg (by omega), if_pos hlt]; omega
  | x :: y :: t, i + 1, h, hlt => by
    rw [swp_cons]
    have ih := inv_adj (y :: t) i (by simpa using h) (by simpa using hlt)
    have hp := swp_perm (xs := y :: t) (a := i) (b := i + 1) (by simp at h ⊢; omega) (by simpa using h)
    simp only [invL] at ih ⊢
    rw [hp.countP_eq]; omega
theorem rowS (x : Int) (l : List Int) (i : Nat) : ∀ k, invRow (x :: l) (i + 1) (k + 1) = invRow l i k
  | 0 => by simp [invRow]
  | k + 1 => by
    rw [invRow, rowS x l i k, invRow]
    simp
theorem row0 (x : Int) (l : List Int) : ∀ k, k ≤ l.length → invRow (x :: l) 0 (k + 1) = ((l.take k).countP (· < x) : Nat)
  | 0, _ => by simp [invRow]
  | k + 1, h => by
    rw [invRow, row0 x l k (by omega), List.take_succ_eq_append_getElem (by omega), List.countP_append]
    have : (x :: l).getD (k + 1) 0 = l[k] := by rw [← getD_in (show k < l.length by omega)]; simp
    rw [this]
    by_cases h1 : l[k] < x
    · rw [if_pos ⟨by omega, by simpa using h1⟩]; simp [List.countP_cons, h1]
    · rw [if_neg (fun h => h1 (by simpa using h.2))]; simp [List.countP_cons, h1]
theorem invTo_cons (x : Int) (l : List Int) : ∀ i, invTo (x :: l) (i + 1) = invRow (x :: l) 0 (l.length + 1) + invTo l i
  | 0 => by simp only [invTo, List.length_cons]; omega
  | i + 1 => by
    rw [invTo, invTo_cons x l i, invTo, List.length_cons, rowS]; omega
theorem invTo_L : ∀ l : List Int, invTo l l.length = invL l
  | [] => rfl
  | x :: l => by
    rw [List.length_cons, invTo_cons, invTo_L l, row0 x l l.length (Nat.le_refl _), List.take_length]; rfl
theorem insIn_inv : ∀ (f k : Nat) (xs : List Int) (a m : Int), k < f → k < xs.length → (insIn 1 k xs a m).1.Perm xs ∧ (insIn 1 k xs a m).2.2 + invL (insIn 1 k xs a m).1 = m + invL xs ∧ a - m ≤ (insIn 1 k xs a m).2.1 - (insIn 1 k xs a m).2.2 ∧ (insIn 1 k xs a m).2.1 - (insIn 1 k xs a m).2.2 ≤ a - m + 1
  | 0, k, xs, a, m, h, _ => by omega
  | f + 1, k, xs, a, m, h, hl => by
    by_cases h1 : 1 ≤ k
    · rcases Int.lt_or_le (xs.getD k 0) (xs.getD (k - 1) 0) with h2 | h2
      · rw [insIn_go (by omega) h1 h2]
        have ih := insIn_inv f (k - 1) (swp xs (k - 1) k) (a + 1) (m + 1) (by omega) (by rw [swp_len]; omega)
        have hp := swp_perm (xs := xs) (a := k - 1) (b := k) (by omega) hl
        have hi := inv_adj xs (k - 1) (by omega) (by rw [show k - 1 + 1 = k by omega]; exact h2)
        rw [show k - 1 + 1 = k by omega] at hi
        exact ⟨ih.1.trans hp, by omega, by omega, by omega⟩
      · rw [insIn_stop (by omega) h1 h2]
        exact ⟨List.Perm.refl _, rfl, by simp only; omega, by simp only; omega⟩
    · rw [insIn_end (by omega)]
      exact ⟨List.Perm.refl _, rfl, by simp only; omega, by simp only; omega⟩
def srtP (ys : List Int) (J k : Nat) : Prop := (∀ a b, a < b → b ≤ J → a ≠ k → b ≠ k → ys.getD a 0 ≤ ys.getD b 0) ∧ ∀ b, k < b → b ≤ J → ys.getD k 0 ≤ ys.getD b 0
theorem insIn_srt : ∀ (f k : Nat) (ys : List Int) (a m : Int) (J : Nat), k < f → k ≤ J → J < ys.length → srtP ys J k → ∀ x y, x < y → y ≤ J → (insIn 1 k ys a m).1.getD x 0 ≤ (insIn 1 k ys a m).1.getD y 0
  | 0, k, ys, a, m, J, h, _, _, _, _, _, _, _ => by omega
  | f + 1, k, ys, a, m, J, h, hkJ, hJ, hP, x, y, hxy, hy => by
    have fin : (k < 1 ∨ ys.getD (k - 1) 0 ≤ ys.getD k 0) → ys.getD x 0 ≤ ys.getD y 0 := fun hk => by
      by_cases e1 : x = k
      · subst e1; exact hP.2 y hxy hy
      · by_cases e2 : y = k
        · subst e2
          rcases hk with hk | hk
          · omega
          · by_cases e3 : x = y - 1
            · rw [e3]; exact hk
            · have := hP.1 x (y - 1) (by omega) (by omega) e1 (by omega)
              omega
        · exact hP.1 x y hxy hy e1 e2
    by_cases h1 : 1 ≤ k
    · rcases Int.lt_or_le (ys.getD k 0) (ys.getD (k - 1) 0) with h2 | h2
      · rw [insIn_go (by omega) h1 h2]
        have hg := swp_get (xs := ys) (a := k - 1) (b := k) (by omega) (by omega)
        refine insIn_srt f (k - 1) (swp ys (k - 1) k) (a + 1) (m + 1) J (by omega) (by omega) (by rw [swp_len]; exact hJ) ⟨fun a b hab hb ha hb2 => ?_, fun b hb hbJ => ?_⟩ x y hxy hy
        · rw [hg a, hg b]
          by_cases e1 : a = k
          · rw [if_pos e1, if_neg (by omega), if_neg (by omega)]
            exact hP.1 (k - 1) b (by omega) hb (by omega) (by omega)
          · rw [if_neg e1, if_neg ha]
            by_cases e2 : b = k
            · rw [if_pos e2]
              by_cases e3 : a = k - 1
              · omega
              · exact hP.1 a (k - 1) (by omega) (by omega) e1 (by omega)
            · rw [if_neg e2, if_neg hb2]; exact hP.1 a b hab hb e1 e2
        · rw [hg (k - 1), if_neg (by omega), if_pos rfl, hg b]
          by_cases e2 : b = k
          · rw [if_pos e2]; omega
          · rw [if_neg e2, if_neg (by omega)]; exact hP.2 b (by omega) hbJ
      · rw [insIn_stop (by omega) h1 h2]
        exact fin (.inr h2)
    · rw [insIn_end (by omega)]
      exact fin (.inl (by omega))
theorem insTo_all (xs : List Int) : ∀ j, j + 1 ≤ xs.length ∨ j = 0 → (insTo 1 (xs, 0, 0) j).1.Perm xs ∧ (insTo 1 (xs, 0, 0) j).2.2 + invL (insTo 1 (xs, 0, 0) j).1 = invL xs ∧ (0 ≤ (insTo 1 (xs, 0, 0) j).2.1 - (insTo 1 (xs, 0, 0) j).2.2 ∧ (insTo 1 (xs, 0, 0) j).2.1 - (insTo 1 (xs, 0, 0) j).2.2 ≤ j) ∧ ∀ x y, x < y → y ≤ j → (insTo 1 (xs, 0, 0) j).1.getD x 0 ≤ (insTo 1 (xs, 0, 0) j).1.getD y 0
  | 0, _ => ⟨List.Perm.refl _, by simp [insTo], by simp [insTo], fun x y h1 h2 => by omega⟩
  | j + 1, h => by
    obtain ⟨i1, i2, i3, i4⟩ := insTo_all xs j (by omega)
    have hl := i1.length_eq
    obtain ⟨q1, q2, q3, q4⟩ := insIn_inv (1 + j + 1) (1 + j) (insTo 1 (xs, 0, 0) j).1 (insTo 1 (xs, 0, 0) j).2.1 (insTo 1 (xs, 0, 0) j).2.2 (by omega) (by omega)
    have q5 := insIn_srt (1 + j + 1) (1 + j) (insTo 1 (xs, 0, 0) j).1 (insTo 1 (xs, 0, 0) j).2.1 (insTo 1 (xs, 0, 0) j).2.2 (j + 1) (by omega) (by omega) (by omega) ⟨fun a b hab hb ha hb2 => i4 a b hab (by omega), fun b hb hb2 => by omega⟩
    rw [insTo]
    exact ⟨q1.trans i1, by omega, by omega, q5⟩
theorem srt_of {ys : List Int} (h : ∀ x y, x < y → y < ys.length → ys.getD x 0 ≤ ys.getD y 0) : srt ys = true := srt_iff.2 fun j hj => h j (j + 1) (by omega) hj
theorem inv_sorted {ys : List Int} (h : srt ys = true) : invL ys = 0 := by
  have := inv_srt ys
  rw [h, invTo_L] at this
  simpa using this
/-- What insertion answers. -/
theorem ins_fin (xs : List Int) : (insTo 1 (xs, 0, 0) (xs.length - 1)).1 = ordL xs ∧ (insTo 1 (xs, 0, 0) (xs.length - 1)).2.2 = invTo xs xs.length ∧ (insTo 1 (xs, 0, 0) (xs.length - 1)).2.2 ≤ (insTo 1 (xs, 0, 0) (xs.length - 1)).2.1 ∧ (insTo 1 (xs, 0, 0) (xs.length - 1)).2.1 ≤ (insTo 1 (xs, 0, 0) (xs.length - 1)).2.2 + (xs.length - 1 : Nat) := by
  obtain ⟨i1, i2, i3, i4⟩ := insTo_all xs (xs.length - 1) (by omega)
  have hl := i1.length_eq
  have hs : srt (insTo 1 (xs, 0, 0) (xs.length - 1)).1 = true := srt_of fun x y h1 h2 => i4 x y h1 (by omega)
  have := inv_sorted hs
  rw [invTo_L]
  exact ⟨srt_uniq hs i1, by omega, by omega, by omega⟩
theorem invRow_le (xs : List Int) (i : Nat) : ∀ k, invRow xs i k ≤ k
  | 0 => Int.le_refl 0
  | k + 1 => by have := invRow_le xs i k; rw [invRow]; split <;> omega
theorem inv_le0 (xs : List Int) : ∀ i, invTo xs i ≤ i * xs.length
  | 0 => by simp [invTo]
  | i + 1 => by
    have := inv_le0 xs i
    have := invRow_le xs i xs.length
    have : ((i + 1 : Nat) : Int) * xs.length = i * xs.length + xs.length := by rw [Int.natCast_add, Int.add_mul]; omega
    rw [invTo]; omega
theorem inv_le {xs : List Int} (h : xs.length ≤ 8) : invTo xs xs.length ≤ 64 := by
  have h1 := inv_le0 xs xs.length
  have h2 : ((xs.length : Int)) * xs.length ≤ 8 * 8 := by
    have := Nat.mul_le_mul h h
    exact_mod_cast this
  omega
theorem srt_steps {ys : List Int} (h : ∀ a, a + 1 < ys.length → ys.getD a 0 ≤ ys.getD (a + 1) 0) : srt ys = true := srt_iff.2 h

/-- What leaves a scope; by a goto to its label: what holds there. -/
def jumpA (l : Nat) (J : St → Prop) (Q : Exit → St → Prop) : Exit → St → Prop
  | .goto l', s => l' = l ∧ J s
  | e, s => Q e s
theorem jumpA_normal (l : Nat) (J : St → Prop) (Q : Exit → St → Prop) (s : St) : jumpA l J Q .normal s = Q .normal s := rfl
theorem jumpA_exit (l : Nat) (J : St → Prop) (Q : Exit → St → Prop) (s : St) (i : Nat) : jumpA l J Q (.exit i) s = Q (.exit i) s := rfl
theorem jumpA_ret (l : Nat) (J : St → Prop) (Q : Exit → St → Prop) (s : St) : jumpA l J Q .ret s = Q .ret s := rfl
theorem jumpA_goto (l : Nat) (J : St → Prop) (Q : Exit → St → Prop) (s : St) (i : Nat) : jumpA l J Q (.goto i) s = (i = l ∧ J s) := rfl
theorem least_of {p : Nat → Prop} (h : ∃ n, p n) : ∃ n, p n ∧ ∀ k, p k → n ≤ k := by
  obtain ⟨n, hn⟩ := h
  induction n using Nat.strongRecOn with
  | _ n ih =>
    by_cases hk : ∃ k, k < n ∧ p k
    · obtain ⟨k, h1, h2⟩ := hk; exact ih k h1 h2
    · exact ⟨n, hn, fun k hp => Nat.le_of_not_lt fun hlt => hk ⟨k, hlt, hp⟩⟩
/-- A scope that begins with its label, to which the run jumps back, by a family of states. -/
theorem awp_goback {P : Program} {Γ : Ctx} {nt : Nat} {Q : Exit → St → Prop} {s : St} {α : Type} {r : Code} (l : Nat) (inv : St → α → St) (fam : α → St) (_he : ∀ x, inv s x = fam x) (p : α → Prop) (μ : α → Nat) (x0 : α) (h0 : p x0) (hw : Wk Γ s (fam x0))
    (round : ∀ x, p x → AWP Γ nt P r (jumpA l (fun s' => ∃ y, p y ∧ μ y < μ x ∧ Wk Γ s' (fam y)) Q) (fam x)) : AWP Γ nt P (.scope (.seq (.label l) r)) Q s := by
  intro m a w hs
  obtain ⟨m1, hs1⟩ := hs.weaken hw
  let R : Nat → Act → World → Prop := fun n a w => ∃ m x, p x ∧ μ x = n ∧ SimS Γ nt m (fam x) a w
  let ν : Act → World → Nat := fun a w => @dite _ (∃ n, R n a w) (Classical.propDecidable _) (fun h => Classical.choose (least_of h)) (fun _ => 0)
  have hν : ∀ a w, (∃ n, R n a w) → R (ν a w) a w ∧ ∀ k, R k a w → ν a w ≤ k := fun a w h => by
    have e : ν a w = Classical.choose (least_of h) := dif_pos h
    rw [e]
    exact Classical.choose_spec (least_of h)
  have key : ∀ x m a w, p x → SimS Γ nt m (fam x) a w → r.wp P (Exit.jump l (fun a' w' => ∃ n, n < μ x ∧ R n a' w') fun e a w => ∃ m s, SimS Γ nt m s a w ∧ Q e s) a w := by
    intro x m a w hp hs
    refine wp_mono (round x hp m a w hs) fun e a' w' ⟨m', s', h1, h2⟩ => ?_
    cases e with
    | goto l' =>
      obtain ⟨rfl, y, hy, hlt, hwk⟩ := h2
      obtain ⟨m2, hs2⟩ := h1.weaken hwk
      exact ⟨rfl, μ y, hlt, m2, y, hy, rfl, hs2⟩
    | _ => exact ⟨m', s', h1, h2⟩
  refine wp_scope_jumps l (fun a w => ∃ n, R n a w) ν (rest := .seq .skip r) (by simp [findLabel]) ?_ ?_
  · refine wp_seq (wp_label (wp_mono (key x0 m1 a w h0 hs1) fun e a' w' h => ?_))
    cases e with
    | goto l' => obtain ⟨rfl, n, _, hR⟩ := h; exact ⟨rfl, n, hR⟩
    | _ => exact h
  · intro a w hJ
    obtain ⟨⟨m, x, hp, hx, hs⟩, hmin⟩ := hν a w hJ
    refine wp_seq (wp_skip (wp_mono (key x m a w hp hs) fun e a' w' h => ?_))
    cases e with
    | goto l' =>
      obtain ⟨rfl, n, hlt, hR⟩ := h
      have := (hν a' w' ⟨_, hR⟩).2 _ hR
      exact ⟨rfl, ⟨_, hR⟩, by omega⟩
    | _ => exact h
/-- The greater of the two keys below a key in a heap. -/
def skK (n i : Nat) (ys : List Int) : Nat := if 2 * i + 2 < n ∧ ys.getD (2 * i + 1) 0 < ys.getD (2 * i + 2) 0 then 2 * i + 2 else 2 * i + 1
def skA (n i : Nat) (a : Int) : Int := if 2 * i + 2 < n then a + 1 else a
theorem skK_in (n i : Nat) (ys : List Int) (h : 2 * i + 1 < n) : i < skK n i ys ∧ skK n i ys < n := by unfold skK; split <;> omega
def sinkIn (n i : Nat) (ys : List Int) (a m : Int) : List Int × Int × Int :=
  if h : 2 * i + 1 < n then (if ys.getD i 0 < ys.getD (skK n i ys) 0 then sinkIn n (skK n i ys) (swp ys i (skK n i ys)) (skA n i a + 1) (m + 1) else (ys, skA n i a + 1, m)) else (ys, a, m)
termination_by n - i
decreasing_by have := skK_in n i ys h; omega
theorem sink_end {n i : Nat} {ys : List Int} {a m : Int} (h : n ≤ 2 * i + 1) : sinkIn n i ys a m = (ys, a, m) := by rw [sinkIn, dif_neg (by omega)]
theorem sink_go {n i k : Nat} {ys : List Int} {a b m : Int} (h : 2 * i + 1 < n) (hk : skK n i ys = k) (ha : skA n i a = b) (hlt : ys.getD i 0 < ys.getD k 0) : sinkIn n k (swp ys i k) (b + 1) (m + 1) = sinkIn n i ys a m := by
  subst hk ha; rw [sinkIn.eq_1 n i, dif_pos h, if_pos hlt]
theorem sink_stop {n i k : Nat} {ys : List Int} {a b m : Int} (h : 2 * i + 1 < n) (hk : skK n i ys = k) (ha : skA n i a = b) (hlt : ys.getD k 0 ≤ ys.getD i 0) : sinkIn n i ys a m = (ys, b + 1, m) := by
  subst hk ha; rw [sinkIn.eq_1 n i, dif_pos h, if_neg (by omega)]
theorem sink_len {n : Nat} : ∀ (f i : Nat) (ys : List Int) (a m : Int), n ≤ i + f → (sinkIn n i ys a m).1.length = ys.length
  | 0, i, ys, a, m, h => by rw [sink_end (by omega)]
  | f + 1, i, ys, a, m, h => by
    by_cases h1 : 2 * i + 1 < n
    · have hk := skK_in n i ys h1
      rcases Int.lt_or_le (ys.getD i 0) (ys.getD (skK n i ys) 0) with h2 | h2
      · rw [← sink_go h1 rfl rfl h2, sink_len f _ _ _ _ (by omega), swp_len]
      · rw [sink_stop h1 rfl rfl h2]
    · rw [sink_end (by omega)]
theorem skK_hi {n i : Nat} {ys : List Int} (h : 2 * i + 2 < n) (hlt : ys.getD (2 * i + 1) 0 < ys.getD (2 * i + 2) 0) : skK n i ys = 2 * i + 2 := by unfold skK; rw [if_pos ⟨h, hlt⟩]
theorem skK_lo {n i : Nat} {ys : List Int} (hlt : ys.getD (2 * i + 2) 0 ≤ ys.getD (2 * i + 1) 0) : skK n i ys = 2 * i + 1 := by unfold skK; rw [if_neg (by omega)]
theorem skK_no {n i : Nat} {ys : List Int} (h : n ≤ 2 * i + 2) : skK n i ys = 2 * i + 1 := by unfold skK; rw [if_neg (by omega)]
theorem skA_hi {n i : Nat} {a : Int} (h : 2 * i + 2 < n) : skA n i a = a + 1 := by unfold skA; rw [if_pos h]
theorem skA_no {n i : Nat} {a : Int} (h : n ≤ 2 * i + 2) : skA n i a = a := by unfold skA; rw [if_neg (by omega)]
/-- Keys sink from each place under j, the last one first. -/
def hpA (n : Nat) : Nat → List Int × Int × Int → List Int × Int × Int
  | 0, s => s
  | j + 1, s => hpA n j (sinkIn n j s.1 s.2.1 s.2.2)
/-- The greatest key goes to the end j - 1, and so on. -/
def hpB : Nat → List Int × Int × Int → List Int × Int × Int
  | 0, s => s
  | j + 1, s => if j = 0 then s else hpB j (sinkIn j 0 (swp s.1 0 j) s.2.1 (s.2.2 + 1))
def heap (xs : List Int) : List Int × Int × Int := hpB xs.length (hpA xs.length (xs.length / 2) (xs, 0, 0))
theorem hpA_len {n : Nat} : ∀ (j : Nat) (s : List Int × Int × Int), (hpA n j s).1.length = s.1.length
  | 0, _ => rfl
  | j + 1, s => by rw [hpA, hpA_len j, sink_len n _ _ _ _ (by omega)]
theorem hpB_len : ∀ (j : Nat) (s : List Int × Int × Int), (hpB j s).1.length = s.1.length
  | 0, _ => rfl
  | j + 1, s => by
    rw [hpB]
    split
    · rfl
    · rw [hpB_len j, sink_len j _ _ _ _ (by omega), swp_len]
theorem heap_len (xs : List Int) : (heap xs).1.length = xs.length := by unfold heap; rw [hpB_len, hpA_len]
theorem hpA_next {n j : Nat} {ys zs : List Int} {a m b c : Int} (hj : 0 < j) (h : sinkIn n (j - 1) ys a m = (zs, b, c)) : hpA n (j - 1) (zs, b, c) = hpA n j (ys, a, m) := by
  cases j with
  | zero => omega
  | succ j => simp only [Nat.add_sub_cancel] at h ⊢; rw [hpA.eq_2]; simp only; rw [h]
theorem hpB_next {j : Nat} {ys zs : List Int} {a m b c : Int} (hj : 2 ≤ j) (h : sinkIn (j - 1) 0 (swp ys 0 (j - 1)) a (m + 1) = (zs, b, c)) : hpB (j - 1) (zs, b, c) = hpB j (ys, a, m) := by
  cases j with
  | zero => omega
  | succ j => simp only [Nat.add_sub_cancel] at h ⊢; rw [hpB.eq_2, if_neg (by omega)]; simp only; rw [h]
theorem hpB_end {j : Nat} {s : List Int × Int × Int} (h : j ≤ 1) : hpB j s = s := by
  cases j with
  | zero => rfl
  | succ j => rw [hpB, if_pos (by omega)]



theorem specExchange_sat : SatH Try.prog 27 (fun al h n K => ∃ (A B : Nat) (ys : List Int) (a e : Int), al = [.agg [.sl 4 0 ys.length 1 none, .val (.int .i64 a), .val (.int .i64 e)], .val (.int .i64 (A)), .val (.int .i64 (B))] ∧ (n = 6) ∧ (h 4 = some ⟨true, .ints .i64 ys⟩) ∧ (A < ys.length ∧ B < ys.length) ∧ (0 ≤ e ∧ e ≤ 100000) ∧ K (.agg [.sl 4 0 ys.length 1 none, .val (.int .i64 a), .val (.int .i64 (e + 1))]) (upd (upd h 4 (some ⟨true, .ints .i64 (swp ys A B)⟩)) 6 (some ⟨true, .cells [.sl 4 0 ys.length 1 none, .val (.int .i64 a), .val (.int .i64 (e + 1))]⟩)) (7)) := by
  refine satH_intro tabOk Try.func27 rfl 32 rfl [.cell 6 26] rfl ?_
  rintro F W h n al K0 ⟨A, B, ys, a, e, rfl, hn, h4, hAB, he, hQ⟩
  refine ⟨Nat.le_of_ble_eq_true rfl, fun m0 hm0 hcl hlt => ?_⟩
  simp only [initT]
  subst hn
  repeat' ((fail_if_success (with_reducible refine isRet K0 ?_)); (first | refine awp_seq_k fun K hK => ?_ | ((with_reducible refine hK _ ?_); clear hK K) | (clear hK K; (with_reducible refine hK _ ?_); clear hK K) | (clear hK K; clear hK K; (with_reducible refine hK _ ?_); clear hK K) | (clear hK K; clear hK K; clear hK K; (with_reducible refine hK _ ?_); clear hK K) | (clear hK K; clear hK K; clear hK K; clear hK K; (with_reducible refine hK _ ?_); clear hK K) | (clear hK K; clear hK K; clear hK K; clear hK K; clear hK K; (with_reducible refine hK _ ?_); clear hK K) | ((with_reducible refine aord_plain fun K hK => ?_); simp only [go_sem, Nat.reduceAdd, Nat.reduceMul, Nat.reduceEqDiff, Nat.reduceLT, reduceIte, reduceCtorEq, h4]) | refine awp_block ?_ | ((first | with_reducible refine aord_nil ?_ | refine awp_skip ?_ | refine awp_exit ?_ | refine awp_ret ?_); try simp only [thenA_normal, thenA_exit, thenA_goto, thenA_ret, blockA_normal, blockA_same, blockA_exit, blockA_goto, blockA_ret, Nat.reduceEqDiff, if_false, if_true, reduceIte]) | (refine awp_region tabOk rfl ?_; simp only [prep, pickO, List.map_cons, List.map_nil, List.getElem?_toArray, List.getElem?_cons_succ, List.getElem?_cons_zero, Option.bind_some, Option.map_some]) | (refine awp_region_draw (nt := 32) (id := 2) tabOk [(0, true, false), (1, true, false), (2, true, false), (3, true, false), (4, true, false), (5, true, false), (6, true, false), (7, true, false), (8, true, false), (9, false, false)] (by kernel_rfl) rfl (by kernel_rfl) ?_; simp only [prep, pickO, List.map_cons, List.map_nil, List.getElem?_toArray, List.getElem?_cons_succ, List.getElem?_cons_zero, Option.bind_some, Option.map_some]) | ((with_reducible refine And.intro ?_ ?_); (focus omega)) | ((with_reducible refine And.intro ?_ ?_); (focus (exact rfl))) | (refine aStoreAll_ints (by simp only [St.ev, St.set, upd, Nat.reduceEqDiff, reduceIte, if_false, if_true]; exact rfl) ?_ ?_ ?_ ?_; (focus (first | rfl | omega | (simp; done) | (simp; omega) | (simp [szOf, tab]; done) | (simp [szOf, tab]; omega))); (focus (first | rfl | omega | (simp; done) | (simp; omega) | (simp [szOf, tab]; done) | (simp [szOf, tab]; omega))); (focus (first | rfl | omega | (simp; done) | (simp; omega) | (simp [szOf, tab]; done) | (simp [szOf, tab]; omega))); (try simp only [go_sem, Nat.reduceAdd, Nat.reduceMul, Nat.reduceEqDiff, Nat.reduceLT, reduceIte, reduceCtorEq])) | (simp only [doneH]; simp only [ressK, resK, wrapR, go_sem, Nat.reduceAdd, Nat.reduceMul, Nat.reduceEqDiff, Nat.reduceLT, reduceIte, reduceCtorEq]) | (refine aStoreAll_cells (by simp only [St.ev, St.set, upd, Nat.reduceEqDiff, reduceIte, if_false, if_true]; exact rfl) ?_ ?_ ?_ ?_ ?_; (focus (first | rfl | omega | (simp; done) | (simp; omega) | (simp [szOf, tab]; done) | (simp [szOf, tab]; omega))); (focus (first | rfl | omega | (simp; done) | (simp; omega) | (simp [szOf, tab]; done) | (simp [szOf, tab]; omega))); (focus (first | rfl | omega | (simp; done) | (simp; omega) | (simp [szOf, tab]; done) | (simp [szOf, tab]; omega))); (focus (first | rfl | (simp [AV.cell, Value.oneCell']; done))); (try simp only [go_sem, Nat.reduceAdd, Nat.reduceMul, Nat.reduceEqDiff, Nat.reduceLT, reduceIte, reduceCtorEq])) | (with_reducible refine And.intro (fun hb => ?_) (fun hb => ?_)) | (exfalso; omega) | fail))
  refine awp_weaken (s' := ⟨upd bot 6 (.ref 6 0), upd (upd h 4 (some ⟨true, .ints .i64 (swp ys A B)⟩)) 6 (some ⟨true, .cells [.sl 4 0 ys.length 1 none, .val (.int .i64 a), .val (.int .i64 (e + 1))]⟩), 7⟩) ?_ ?_
  · (apply Wk.over (fun o => if o = 6 then 7 else o) 6; (case' h2 => (focus ((repeat' (first | (with_reducible exact HeapX.bot) | (exact HeapX.base (by first | exact hcl | assumption) (by first | exact Nat.le_refl _ | omega | (simp only; omega)) (fun k hk => by first | rfl | (simp only [id]; done) | (rw [if_neg (by omega)])) (by intro u hu hlt'; first | rfl | (simp only [List.mem_cons, List.not_mem_nil, or_false, not_or] at hu; first | (simp [upd, hu]; done) | (simp only [upd]; (repeat rw [if_neg (by omega)]))))) | (with_reducible (apply HeapX.skip; (case hx => (simp; done)))) | (with_reducible apply HeapX.none) | (with_reducible apply HeapX.old (by first | assumption | omega) (by first | exact Nat.le_refl _ | omega | (simp only; omega)) (by first | rfl | (simp only [id]; done) | (rw [if_neg (by omega)]))) | (with_reducible apply HeapX.upd))); all_goals (first | rfl | omega | assumption | exact Nat.le_of_ble_eq_true rfl | (simp only [St.set, St.ev, upd, ren, renL, id, Nat.reduceEqDiff, reduceIte]; rfl) | (simp only [St.set, St.ev, upd, ren, renL, id, Nat.reduceEqDiff, reduceIte, ContLe]; done) | (first | (simp only [St.set, St.ev, upd, ren, renL, id, Nat.reduceEqDiff, reduceIte]; exact contLe_nil) | ((repeat' (first | exact contLe_nil | refine contLe_cons (.inr ⟨?_, rfl⟩) ?_)); all_goals (first | rfl | (simp only [St.set, St.ev, upd, ren, renL, id, Nat.reduceEqDiff, reduceIte]; done) | ((try simp only [St.set, St.ev, upd, ren, renL, id, Nat.reduceEqDiff, reduceIte]); first | (with_reducible exact av_int (by omega)) | (with_reducible exact av_sl (by first | omega | (simp; done) | (simp; omega)) (by first | omega | (simp; done) | (simp; omega)))) | (simp only [St.set, St.ev, upd, ren, renL, id, Nat.reduceEqDiff, reduceIte, Int.natCast_add, Int.natCast_one, Int.cast_ofNat_Int, Int.natCast_zero]; done) | (simp only [St.set, St.ev, upd, ren, renL, id, Nat.reduceEqDiff, reduceIte]) | skip); done)) | (simp only [St.set, St.ev, upd, ren, renL, id, Nat.reduceEqDiff, reduceIte, ContLe]) | skip)))); (case' h1 => (focus ((repeat' (with_reducible first | exact TmpLe.bot | refine TmpLe.upd ?_ (by first | rfl | (simp only [AV.lt, decide_eq_true_eq]; first | done | omega)) ?_)); all_goals (first | rfl | (simp only [St.set, St.ev, upd, ren, renL, id, Nat.reduceEqDiff, reduceIte]; done) | ((try simp only [St.set, St.ev, upd, ren, renL, id, Nat.reduceEqDiff, reduceIte]); first | (with_reducible exact av_int (by omega)) | (with_reducible exact av_sl (by first | omega | (simp; done) | (simp; omega)) (by first | omega | (simp; done) | (simp; omega)))) | (simp only [St.set, St.ev, upd, ren, renL, id, Nat.reduceEqDiff, reduceIte, Int.natCast_add, Int.natCast_one, Int.cast_ofNat_Int, Int.natCast_zero]; done) | (simp only [St.set, St.ev, upd, ren, renL, id, Nat.reduceEqDiff, reduceIte]) | skip)))); (case h3 => (focus (first | (simp only [id, List.map_cons, List.map_nil]; decide) | decide))); (case h5 => (intro d hd; first | (simp at hd; done) | (simp only [List.mem_cons, List.not_mem_nil, or_false] at hd; first | (simp only [id]; omega) | (split <;> omega) | ((try simp only); repeat' split; all_goals omega)))); (case h4 => (intro o l h; first | (cases h; done) | (have hlt0 := m0_lt (by assumption) h; first | omega | (simp only; omega) | exact ⟨by (first | rfl | (simp only [id]; done) | (rw [if_neg (by omega)])), by first | omega | (simp only; omega)⟩))))
  repeat' (first | refine awp_seq_k fun K hK => ?_ | ((with_reducible refine hK _ ?_); clear hK K) | (clear hK K; (with_reducible refine hK _ ?_); clear hK K) | (clear hK K; clear hK K; (with_reducible refine hK _ ?_); clear hK K) | (clear hK K; clear hK K; clear hK K; (with_reducible refine hK _ ?_); clear hK K) | (clear hK K; clear hK K; clear hK K; clear hK K; (with_reducible refine hK _ ?_); clear hK K) | (clear hK K; clear hK K; clear hK K; clear hK K; clear hK K; (with_reducible refine hK _ ?_); clear hK K) | ((with_reducible refine aord_plain fun K hK => ?_); simp only [go_sem, Nat.reduceAdd, Nat.reduceMul, Nat.reduceEqDiff, Nat.reduceLT, reduceIte, reduceCtorEq, h4]) | refine awp_block ?_ | ((first | with_reducible refine aord_nil ?_ | refine awp_skip ?_ | refine awp_exit ?_ | refine awp_ret ?_); try simp only [thenA_normal, thenA_exit, thenA_goto, thenA_ret, blockA_normal, blockA_same, blockA_exit, blockA_goto, blockA_ret, Nat.reduceEqDiff, if_false, if_true, reduceIte]) | (refine awp_region tabOk rfl ?_; simp only [prep, pickO, List.map_cons, List.map_nil, List.getElem?_toArray, List.getElem?_cons_succ, List.getElem?_cons_zero, Option.bind_some, Option.map_some]) | (refine awp_region_draw (nt := 32) (id := 2) tabOk [(0, true, false), (1, true, false), (2, true, false), (3, true, false), (4, true, false), (5, true, false), (6, true, false), (7, true, false), (8, true, false), (9, false, false)] (by kernel_rfl) rfl (by kernel_rfl) ?_; simp only [prep, pickO, List.map_cons, List.map_nil, List.getElem?_toArray, List.getElem?_cons_succ, List.getElem?_cons_zero, Option.bind_some, Option.map_some]) | ((with_reducible refine And.intro ?_ ?_); (focus omega)) | ((with_reducible refine And.intro ?_ ?_); (focus (exact rfl))) | (refine aStoreAll_ints (by simp only [St.ev, St.set, upd, Nat.reduceEqDiff, reduceIte, if_false, if_true]; exact rfl) ?_ ?_ ?_ ?_; (focus (first | rfl | omega | (simp; done) | (simp; omega) | (simp [szOf, tab]; done) | (simp [szOf, tab]; omega))); (focus (first | rfl | omega | (simp; done) | (simp; omega) | (simp [szOf, tab]; done) | (simp [szOf, tab]; omega))); (focus (first | rfl | omega | (simp; done) | (simp; omega) | (simp [szOf, tab]; done) | (simp [szOf, tab]; omega))); (try simp only [go_sem, Nat.reduceAdd, Nat.reduceMul, Nat.reduceEqDiff, Nat.reduceLT, reduceIte, reduceCtorEq])) | (simp only [doneH]; simp only [ressK, resK, wrapR, go_sem, Nat.reduceAdd, Nat.reduceMul, Nat.reduceEqDiff, Nat.reduceLT, reduceIte, reduceCtorEq]) | (refine aStoreAll_cells (by simp only [St.ev, St.set, upd, Nat.reduceEqDiff, reduceIte, if_false, if_true]; exact rfl) ?_ ?_ ?_ ?_ ?_; (focus (first | rfl | omega | (simp; done) | (simp; omega) | (simp [szOf, tab]; done) | (simp [szOf, tab]; omega))); (focus (first | rfl | omega | (simp; done) | (simp; omega) | (simp [szOf, tab]; done) | (simp [szOf, tab]; omega))); (focus (first | rfl | omega | (simp; done) | (simp; omega) | (simp [szOf, tab]; done) | (simp [szOf, tab]; omega))); (focus (first | rfl | (simp [AV.cell, Value.oneCell']; done))); (try simp only [go_sem, Nat.reduceAdd, Nat.reduceMul, Nat.reduceEqDiff, Nat.reduceLT, reduceIte, reduceCtorEq])) | (with_reducible refine And.intro (fun hb => ?_) (fun hb => ?_)) | (exfalso; omega) | fail)
  exact hQ


theorem specSift_sat : SatH Try.prog 26 (fun al h n K => ∃ (NN I : Nat) (ys : List Int) (a e : Int), al = [.agg [.sl 4 0 ys.length 1 none, .val (.int .i64 a), .val (.int .i64 e)], .val (.int .i64 (I)), .val (.int .i64 (NN))] ∧ (n = 6) ∧ (h 4 = some ⟨true, .ints .i64 ys⟩) ∧ (I < NN ∧ NN ≤ ys.length ∧ ys.length ≤ 8) ∧ (0 ≤ a ∧ a ≤ 100000) ∧ (0 ≤ e ∧ e ≤ 100000) ∧ K (.agg [.sl 4 0 ys.length 1 none, .val (.int .i64 (sinkIn NN I ys a e).2.1), .val (.int .i64 (sinkIn NN I ys a e).2.2)]) (upd (upd h 4 (some ⟨true, .ints .i64 (sinkIn NN I ys a e).1⟩)) 6 (some ⟨true, .cells [.sl 4 0 ys.length 1 none, .val (.int .i64 (sinkIn NN I ys a e).2.1), .val (.int .i64 (sinkIn NN I ys a e).2.2)]⟩)) (7)) := by
  refine satH_intro tabOk Try.func26 rfl 59 rfl [.cell 6 26] rfl ?_
  rintro F W h n al K0 ⟨NN, I, ys, a, e, rfl, hn, h4, hI, ha, he, hQ⟩
  refine ⟨Nat.le_of_ble_eq_true rfl, fun m0 hm0 hcl hlt => ?_⟩
  simp only [initT]
  subst hn
  repeat' ((fail_if_success (with_reducible refine isReg 59 1 ?_)); (first | refine awp_seq_k fun K hK => ?_ | ((with_reducible refine hK _ ?_); clear hK K) | (clear hK K; (with_reducible refine hK _ ?_); clear hK K) | (clear hK K; clear hK K; (with_reducible refine hK _ ?_); clear hK K) | (clear hK K; clear hK K; clear hK K; (with_reducible refine hK _ ?_); clear hK K) | (clear hK K; clear hK K; clear hK K; clear hK K; (with_reducible refine hK _ ?_); clear hK K) | (clear hK K; clear hK K; clear hK K; clear hK K; clear hK K; (with_reducible refine hK _ ?_); clear hK K) | ((with_reducible refine aord_plain fun K hK => ?_); simp only [go_sem, Nat.reduceAdd, Nat.reduceMul, Nat.reduceEqDiff, Nat.reduceLT, reduceIte, reduceCtorEq, h4]) | refine awp_block ?_ | ((first | with_reducible refine aord_nil ?_ | refine awp_skip ?_ | refine awp_exit ?_ | refine awp_ret ?_); try simp only [thenA_normal, thenA_exit, thenA_goto, thenA_ret, blockA_normal, blockA_same, blockA_exit, blockA_goto, blockA_ret, Nat.reduceEqDiff, if_false, if_true, reduceIte]) | (refine awp_region tabOk rfl ?_; simp only [prep, pickO, List.map_cons, List.map_nil, List.getElem?_toArray, List.getElem?_cons_succ, List.getElem?_cons_zero, Option.bind_some, Option.map_some]) | (refine awp_region_draw (nt := 59) (id := 5) tabOk [(0, true, false), (1, true, false), (2, true, false), (3, true, false), (4, true, false), (5, true, false), (6, true, false), (7, true, false), (8, true, false), (9, true, false), (10, true, false), (11, true, false)] (by kernel_rfl) rfl (by kernel_rfl) ?_; simp only [prep, pickO, List.map_cons, List.map_nil, List.getElem?_toArray, List.getElem?_cons_succ, List.getElem?_cons_zero, Option.bind_some, Option.map_some]) | (refine awp_region_draw (nt := 59) (id := 8) tabOk [(0, true, false), (1, true, false), (2, true, false), (3, true, false), (4, true, false), (5, true, false), (6, true, false), (7, true, false), (8, true, false), (9, true, false), (10, true, false)] (by kernel_rfl) rfl (by kernel_rfl) ?_; simp only [prep, pickO, List.map_cons, List.map_nil, List.getElem?_toArray, List.getElem?_cons_succ, List.getElem?_cons_zero, Option.bind_some, Option.map_some]) | (refine awp_region_draw (nt := 32) (id := 2) tabOk [(0, true, false), (1, true, false), (2, true, false), (3, true, false), (4, true, false), (5, true, false), (6, true, false), (7, true, false), (8, true, false), (9, false, false)] (by kernel_rfl) rfl (by kernel_rfl) ?_; simp only [prep, pickO, List.map_cons, List.map_nil, List.getElem?_toArray, List.getElem?_cons_succ, List.getElem?_cons_zero, Option.bind_some, Option.map_some]) | ((with_reducible apply awp_cond); (focus (simp only [St.ev, St.set, upd, Nat.reduceEqDiff, reduceIte, if_false, if_true]; exact rfl)); all_goals (intro hb; first | (cases hb; done) | ((try rw [hb]); (try simp only [decide_eq_true_eq, decide_eq_false_iff_not, beq_iff_eq, bne_iff_ne, beq_eq_false_iff_ne, bne_eq_false_iff_eq, Int.not_lt, Int.not_le, Bool.not_eq_true', Bool.not_eq_false'] at hb)))) | ((with_reducible refine And.intro ?_ ?_); (focus omega)) | ((with_reducible refine And.intro ?_ ?_); (focus (exact rfl))) | ((with_reducible refine And.intro (?_ : enters Try.prog 27) ?_); (focus exact Try.call27); (refine callX_h (callH_inline tabOk Try.func27 rfl 32 rfl [.cell 6 26] rfl (Nat.le_of_ble_eq_true rfl) fun m0 hm0 hcl hlt => ?_)); simp only [initT, St.ev, St.set, upd, Nat.reduceEqDiff, reduceIte, if_false, if_true]) | (refine aStoreAll_ints (by simp only [St.ev, St.set, upd, Nat.reduceEqDiff, reduceIte, if_false, if_true]; exact rfl) ?_ ?_ ?_ ?_; (focus (first | rfl | omega | (simp; done) | (simp; omega) | (simp [szOf, tab]; done) | (simp [szOf, tab]; omega))); (focus (first | rfl | omega | (simp; done) | (simp; omega) | (simp [szOf, tab]; done) | (simp [szOf, tab]; omega))); (focus (first | rfl | omega | (simp; done) | (simp; omega) | (simp [szOf, tab]; done) | (simp [szOf, tab]; omega))); (try simp only [go_sem, Nat.reduceAdd, Nat.reduceMul, Nat.reduceEqDiff, Nat.reduceLT, reduceIte, reduceCtorEq])) | (simp only [doneH]; simp only [ressK, resK, wrapR, go_sem, Nat.reduceAdd, Nat.reduceMul, Nat.reduceEqDiff, Nat.reduceLT, reduceIte, reduceCtorEq]) | (refine aStoreAll_cells (by simp only [St.ev, St.set, upd, Nat.reduceEqDiff, reduceIte, if_false, if_true]; exact rfl) ?_ ?_ ?_ ?_ ?_; (focus (first | rfl | omega | (simp; done) | (simp; omega) | (simp [szOf, tab]; done) | (simp [szOf, tab]; omega))); (focus (first | rfl | omega | (simp; done) | (simp; omega) | (simp [szOf, tab]; done) | (simp [szOf, tab]; omega))); (focus (first | rfl | omega | (simp; done) | (simp; omega) | (simp [szOf, tab]; done) | (simp [szOf, tab]; omega))); (focus (first | rfl | (simp [AV.cell, Value.oneCell']; done))); (try simp only [go_sem, Nat.reduceAdd, Nat.reduceMul, Nat.reduceEqDiff, Nat.reduceLT, reduceIte, reduceCtorEq])) | (with_reducible refine And.intro (fun hb => ?_) (fun hb => ?_)) | (exfalso; omega) | fail))
  refine awp_loopE (α := (Nat) × (List Int) × (Int) × (Int)) (fun s p => ⟨(upd (upd (upd (upd bot 1 (.val (.int .i64 ((p.1))))) 2 (s.tmps 2)) 3 (s.tmps 3)) 6 (s.tmps 6)), (upd (upd s.heap 4 (some ⟨true, .ints .i64 ((p.2.1))⟩)) 6 (some ⟨true, .cells ([.sl 4 0 ys.length 1 none, .val (.int .i64 (p.2.2.1)), .val (.int .i64 (p.2.2.2))])⟩)), s.next⟩) _ (fun p => by simp only [St.ev, St.set, upd, Nat.reduceEqDiff, reduceIte, if_false, if_true]; exact rfl) (fun p => (I ≤ (p.1) ∧ (p.1) < NN) ∧ ((p.2.1).length = ys.length) ∧ (0 ≤ (p.2.2.1) ∧ (p.2.2.1) ≤ a + 2 * ((p.1) - I : Nat)) ∧ (0 ≤ (p.2.2.2) ∧ (p.2.2.2) ≤ e + ((p.1) - I : Nat)) ∧ (sinkIn NN (p.1) (p.2.1) (p.2.2.1) (p.2.2.2) = sinkIn NN I ys a e)) (fun p => NN - (p.1)) (I, ys, a, e) ?_ ?_ ?_
  · (try simp only); (refine ⟨?_, ?_, ?_, ?_, ?_⟩ <;> (first | omega | (simp only; omega) | rfl | (simp; done) | skip))
  · (apply Wk.over (id) 6; (case' h2 => (focus ((repeat' (first | (with_reducible exact HeapX.bot) | (exact HeapX.base (by first | exact hcl | assumption) (by first | exact Nat.le_refl _ | omega | (simp only; omega)) (fun k hk => by first | rfl | (simp only [id]; done) | (rw [if_neg (by omega)])) (by intro u hu hlt'; first | rfl | (simp only [List.mem_cons, List.not_mem_nil, or_false, not_or] at hu; first | (simp [upd, hu]; done) | (simp only [upd]; (repeat rw [if_neg (by omega)]))))) | (with_reducible (apply HeapX.skip; (case hx => (simp; done)))) | (with_reducible apply HeapX.none) | (with_reducible apply HeapX.old (by first | assumption | omega) (by first | exact Nat.le_refl _ | omega | (simp only; omega)) (by first | rfl | (simp only [id]; done) | (rw [if_neg (by omega)]))) | (with_reducible apply HeapX.upd))); all_goals (first | rfl | omega | assumption | exact Nat.le_of_ble_eq_true rfl | (simp only [St.set, St.ev, upd, ren, renL, id, Nat.reduceEqDiff, reduceIte]; rfl) | (simp only [St.set, St.ev, upd, ren, renL, id, Nat.reduceEqDiff, reduceIte, ContLe]; done) | (first | (simp only [St.set, St.ev, upd, ren, renL, id, Nat.reduceEqDiff, reduceIte]; exact contLe_nil) | ((repeat' (first | exact contLe_nil | refine contLe_cons (.inr ⟨?_, rfl⟩) ?_)); all_goals (first | rfl | (simp only [St.set, St.ev, upd, ren, renL, id, Nat.reduceEqDiff, reduceIte]; done) | ((try simp only [St.set, St.ev, upd, ren, renL, id, Nat.reduceEqDiff, reduceIte]); first | (with_reducible exact av_int (by omega)) | (with_reducible exact av_sl (by first | omega | (simp; done) | (simp; omega)) (by first | omega | (simp; done) | (simp; omega)))) | (simp only [St.set, St.ev, upd, ren, renL, id, Nat.reduceEqDiff, reduceIte, Int.natCast_add, Int.natCast_one, Int.cast_ofNat_Int, Int.natCast_zero]; done) | (simp only [St.set, St.ev, upd, ren, renL, id, Nat.reduceEqDiff, reduceIte]) | skip); done)) | (simp only [St.set, St.ev, upd, ren, renL, id, Nat.reduceEqDiff, reduceIte, ContLe]) | skip)))); (case' h1 => (focus ((repeat' (with_reducible first | exact TmpLe.bot | refine TmpLe.upd ?_ (by first | rfl | (simp only [AV.lt, decide_eq_true_eq]; first | done | omega)) ?_)); all_goals (first | rfl | (simp only [St.set, St.ev, upd, ren, renL, id, Nat.reduceEqDiff, reduceIte]; done) | ((try simp only [St.set, St.ev, upd, ren, renL, id, Nat.reduceEqDiff, reduceIte]); first | (with_reducible exact av_int (by omega)) | (with_reducible exact av_sl (by first | omega | (simp; done) | (simp; omega)) (by first | omega | (simp; done) | (simp; omega)))) | (simp only [St.set, St.ev, upd, ren, renL, id, Nat.reduceEqDiff, reduceIte, Int.natCast_add, Int.natCast_one, Int.cast_ofNat_Int, Int.natCast_zero]; done) | (simp only [St.set, St.ev, upd, ren, renL, id, Nat.reduceEqDiff, reduceIte]) | skip)))); (case h3 => (focus (first | (simp only [id, List.map_cons, List.map_nil]; decide) | decide))); (case h5 => (intro d hd; first | (simp at hd; done) | (simp only [List.mem_cons, List.not_mem_nil, or_false] at hd; first | (simp only [id]; omega) | (split <;> omega) | ((try simp only); repeat' split; all_goals omega)))); (case h4 => (intro o l h; first | (cases h; done) | (have hlt0 := m0_lt (by assumption) h; first | omega | (simp only; omega) | exact ⟨by (first | rfl | (simp only [id]; done) | (rw [if_neg (by omega)])), by first | omega | (simp only; omega)⟩))))
  rintro ⟨i, zs, b, c⟩ ⟨hi, hzl, hb0, hc0, hS⟩
  try simp only at hi hzl hb0 hc0 hS
  generalize sinkIn NN I ys a e = SR at *
  have e1 : (2 * (i : Int) + 1).toNat = 2 * i + 1 := by omega
  have e2 : (2 * (i : Int) + 1 + 1).toNat = 2 * i + 2 := by omega
  have hgo1 : 2 * i + 2 < NN → zs.getD (2 * (i : Int) + 1).toNat 0 < zs.getD (2 * (i : Int) + 1 + 1).toNat 0 → zs.getD i 0 < zs.getD (2 * (i : Int) + 1 + 1).toNat 0 → sinkIn NN (2 * i + 2) ((zs.set i (zs.getD (2 * (i : Int) + 1 + 1).toNat 0)).set (2 * (i : Int) + 1 + 1).toNat (zs.getD i 0)) (b + 1 + 1) (c + 1) = SR := fun h1 h2 h3 => by
    rw [e2] at h2 h3 ⊢; rw [e1] at h2; rw [← hS, ← sink_go (by omega) (skK_hi h1 h2) (skA_hi h1) h3]; rfl
  have hgo2 : 2 * i + 2 < NN → zs.getD (2 * (i : Int) + 1 + 1).toNat 0 ≤ zs.getD (2 * (i : Int) + 1).toNat 0 → zs.getD i 0 < zs.getD (2 * (i : Int) + 1).toNat 0 → sinkIn NN (2 * i + 1) ((zs.set i (zs.getD (2 * (i : Int) + 1).toNat 0)).set (2 * (i : Int) + 1).toNat (zs.getD i 0)) (b + 1 + 1) (c + 1) = SR := fun h1 h2 h3 => by
    rw [e1] at h2 h3 ⊢; rw [e2] at h2; rw [← hS, ← sink_go (by omega) (skK_lo h2) (skA_hi h1) h3]; rfl
  have hgo3 : 2 * i + 1 < NN → NN ≤ 2 * i + 2 → zs.getD i 0 < zs.getD (2 * (i : Int) + 1).toNat 0 → sinkIn NN (2 * i + 1) ((zs.set i (zs.getD (2 * (i : Int) + 1).toNat 0)).set (2 * (i : Int) + 1).toNat (zs.getD i 0)) (b + 1) (c + 1) = SR := fun h0 h1 h3 => by
    rw [e1] at h3 ⊢; rw [← hS, ← sink_go h0 (skK_no h1) (skA_no h1) h3]; rfl
  have hst1 : 2 * i + 2 < NN → zs.getD (2 * (i : Int) + 1).toNat 0 < zs.getD (2 * (i : Int) + 1 + 1).toNat 0 → zs.getD (2 * (i : Int) + 1 + 1).toNat 0 ≤ zs.getD i 0 → SR = (zs, b + 1 + 1, c) := fun h1 h2 h3 => by
    rw [e2] at h2 h3; rw [e1] at h2; rw [← hS, sink_stop (by omega) (skK_hi h1 h2) (skA_hi h1) h3]
  have hst2 : 2 * i + 2 < NN → zs.getD (2 * (i : Int) + 1 + 1).toNat 0 ≤ zs.getD (2 * (i : Int) + 1).toNat 0 → zs.getD (2 * (i : Int) + 1).toNat 0 ≤ zs.getD i 0 → SR = (zs, b + 1 + 1, c) := fun h1 h2 h3 => by
    rw [e1] at h2 h3; rw [e2] at h2; rw [← hS, sink_stop (by omega) (skK_lo h2) (skA_hi h1) h3]
  have hst3 : 2 * i + 1 < NN → NN ≤ 2 * i + 2 → zs.getD (2 * (i : Int) + 1).toNat 0 ≤ zs.getD i 0 → SR = (zs, b + 1, c) := fun h0 h1 h3 => by
    rw [e1] at h3; rw [← hS, sink_stop h0 (skK_no h1) (skA_no h1) h3]
  have hend : NN ≤ 2 * i + 1 → SR = (zs, b, c) := fun h => by rw [← hS, sink_end h]
  clear e1 e2
  repeat' ((fail_if_success (with_reducible refine isRet K0 ?_)); (first | refine awp_seq_k fun K hK => ?_ | ((with_reducible refine hK _ ?_); clear hK K) | (clear hK K; (with_reducible refine hK _ ?_); clear hK K) | (clear hK K; clear hK K; (with_reducible refine hK _ ?_); clear hK K) | (clear hK K; clear hK K; clear hK K; (with_reducible refine hK _ ?_); clear hK K) | (clear hK K; clear hK K; clear hK K; clear hK K; (with_reducible refine hK _ ?_); clear hK K) | (clear hK K; clear hK K; clear hK K; clear hK K; clear hK K; (with_reducible refine hK _ ?_); clear hK K) | ((with_reducible refine aord_plain fun K hK => ?_); simp only [go_sem, Nat.reduceAdd, Nat.reduceMul, Nat.reduceEqDiff, Nat.reduceLT, reduceIte, reduceCtorEq, h4]) | refine awp_block ?_ | ((first | with_reducible refine aord_nil ?_ | refine awp_skip ?_ | refine awp_exit ?_ | refine awp_ret ?_); try simp only [thenA_normal, thenA_exit, thenA_goto, thenA_ret, blockA_normal, blockA_same, blockA_exit, blockA_goto, blockA_ret, Nat.reduceEqDiff, if_false, if_true, reduceIte]) | (refine awp_region tabOk rfl ?_; simp only [prep, pickO, List.map_cons, List.map_nil, List.getElem?_toArray, List.getElem?_cons_succ, List.getElem?_cons_zero, Option.bind_some, Option.map_some]) | (refine awp_region_draw (nt := 59) (id := 5) tabOk [(0, true, false), (1, true, false), (2, true, false), (3, true, false), (4, true, false), (5, true, false), (6, true, false), (7, true, false), (8, true, false), (9, true, false), (10, true, false), (11, true, false)] (by kernel_rfl) rfl (by kernel_rfl) ?_; simp only [prep, pickO, List.map_cons, List.map_nil, List.getElem?_toArray, List.getElem?_cons_succ, List.getElem?_cons_zero, Option.bind_some, Option.map_some]) | (refine awp_region_draw (nt := 59) (id := 8) tabOk [(0, true, false), (1, true, false), (2, true, false), (3, true, false), (4, true, false), (5, true, false), (6, true, false), (7, true, false), (8, true, false), (9, true, false), (10, true, false)] (by kernel_rfl) rfl (by kernel_rfl) ?_; simp only [prep, pickO, List.map_cons, List.map_nil, List.getElem?_toArray, List.getElem?_cons_succ, List.getElem?_cons_zero, Option.bind_some, Option.map_some]) | (refine awp_region_draw (nt := 32) (id := 2) tabOk [(0, true, false), (1, true, false), (2, true, false), (3, true, false), (4, true, false), (5, true, false), (6, true, false), (7, true, false), (8, true, false), (9, false, false)] (by kernel_rfl) rfl (by kernel_rfl) ?_; simp only [prep, pickO, List.map_cons, List.map_nil, List.getElem?_toArray, List.getElem?_cons_succ, List.getElem?_cons_zero, Option.bind_some, Option.map_some]) | ((with_reducible apply awp_cond); (focus (simp only [St.ev, St.set, upd, Nat.reduceEqDiff, reduceIte, if_false, if_true]; exact rfl)); all_goals (intro hb; first | (cases hb; done) | ((try rw [hb]); (try simp only [decide_eq_true_eq, decide_eq_false_iff_not, beq_iff_eq, bne_iff_ne, beq_eq_false_iff_ne, bne_eq_false_iff_eq, Int.not_lt, Int.not_le, Bool.not_eq_true', Bool.not_eq_false'] at hb)))) | ((with_reducible refine And.intro ?_ ?_); (focus omega)) | ((with_reducible refine And.intro ?_ ?_); (focus (exact rfl))) | ((with_reducible refine And.intro (?_ : enters Try.prog 27) ?_); (focus exact Try.call27); (refine callX_h (callH_inline tabOk Try.func27 rfl 32 rfl [.cell 6 26] rfl (Nat.le_of_ble_eq_true rfl) fun m0 hm0 hcl hlt => ?_)); simp only [initT, St.ev, St.set, upd, Nat.reduceEqDiff, reduceIte, if_false, if_true]) | (refine aStoreAll_ints (by simp only [St.ev, St.set, upd, Nat.reduceEqDiff, reduceIte, if_false, if_true]; exact rfl) ?_ ?_ ?_ ?_; (focus (first | rfl | omega | (simp; done) | (simp; omega) | (simp [szOf, tab]; done) | (simp [szOf, tab]; omega))); (focus (first | rfl | omega | (simp; done) | (simp; omega) | (simp [szOf, tab]; done) | (simp [szOf, tab]; omega))); (focus (first | rfl | omega | (simp; done) | (simp; omega) | (simp [szOf, tab]; done) | (simp [szOf, tab]; omega))); (try simp only [go_sem, Nat.reduceAdd, Nat.reduceMul, Nat.reduceEqDiff, Nat.reduceLT, reduceIte, reduceCtorEq])) | (simp only [doneH]; simp only [ressK, resK, wrapR, go_sem, Nat.reduceAdd, Nat.reduceMul, Nat.reduceEqDiff, Nat.reduceLT, reduceIte, reduceCtorEq]) | (refine aStoreAll_cells (by simp only [St.ev, St.set, upd, Nat.reduceEqDiff, reduceIte, if_false, if_true]; exact rfl) ?_ ?_ ?_ ?_ ?_; (focus (first | rfl | omega | (simp; done) | (simp; omega) | (simp [szOf, tab]; done) | (simp [szOf, tab]; omega))); (focus (first | rfl | omega | (simp; done) | (simp; omega) | (simp [szOf, tab]; done) | (simp [szOf, tab]; omega))); (focus (first | rfl | omega | (simp; done) | (simp; omega) | (simp [szOf, tab]; done) | (simp [szOf, tab]; omega))); (focus (first | rfl | (simp [AV.cell, Value.oneCell']; done))); (try simp only [go_sem, Nat.reduceAdd, Nat.reduceMul, Nat.reduceEqDiff, Nat.reduceLT, reduceIte, reduceCtorEq])) | (with_reducible refine And.intro (fun hb => ?_) (fun hb => ?_)) | (exfalso; omega) | fail))
  all_goals first | (focus ((have hx := hgo1 (by omega) (by omega) (by omega); (apply Exists.intro (2 * i + 2, _, b + 1 + 1, c + 1)); (refine nxt ?_ ?_ ?_); (focus (apply Wk.over (id) 6; (case' h2 => (focus ((repeat' (first | (with_reducible exact HeapX.bot) | (exact HeapX.base (by first | exact hcl | assumption) (by first | exact Nat.le_refl _ | omega | (simp only; omega)) (fun k hk => by first | rfl | (simp only [id]; done) | (rw [if_neg (by omega)])) (by intro u hu hlt'; first | rfl | (simp only [List.mem_cons, List.not_mem_nil, or_false, not_or] at hu; first | (simp [upd, hu]; done) | (simp only [upd]; (repeat rw [if_neg (by omega)]))))) | (with_reducible (apply HeapX.skip; (case hx => (simp; done)))) | (with_reducible apply HeapX.none) | (with_reducible apply HeapX.old (by first | assumption | omega) (by first | exact Nat.le_refl _ | omega | (simp only; omega)) (by first | rfl | (simp only [id]; done) | (rw [if_neg (by omega)]))) | (with_reducible apply HeapX.upd))); all_goals (first | rfl | omega | assumption | exact Nat.le_of_ble_eq_true rfl | (simp only [St.set, St.ev, upd, ren, renL, id, Nat.reduceEqDiff, reduceIte]; rfl) | (simp only [St.set, St.ev, upd, ren, renL, id, Nat.reduceEqDiff, reduceIte, ContLe]; done) | (first | (simp only [St.set, St.ev, upd, ren, renL, id, Nat.reduceEqDiff, reduceIte]; exact contLe_nil) | ((repeat' (first | exact contLe_nil | refine contLe_cons (.inr ⟨?_, rfl⟩) ?_)); all_goals (first | rfl | (simp only [St.set, St.ev, upd, ren, renL, id, Nat.reduceEqDiff, reduceIte]; done) | ((try simp only [St.set, St.ev, upd, ren, renL, id, Nat.reduceEqDiff, reduceIte]); first | (with_reducible exact av_int (by omega)) | (with_reducible exact av_sl (by first | omega | (simp; done) | (simp; omega)) (by first | omega | (simp; done) | (simp; omega)))) | (simp only [St.set, St.ev, upd, ren, renL, id, Nat.reduceEqDiff, reduceIte, Int.natCast_add, Int.natCast_one, Int.cast_ofNat_Int, Int.natCast_zero]; done) | (simp only [St.set, St.ev, upd, ren, renL, id, Nat.reduceEqDiff, reduceIte]) | skip); done)) | (simp only [St.set, St.ev, upd, ren, renL, id, Nat.reduceEqDiff, reduceIte, ContLe]) | skip)))); (case' h1 => (focus ((repeat' (with_reducible first | exact TmpLe.bot | refine TmpLe.upd ?_ (by first | rfl | (simp only [AV.lt, decide_eq_true_eq]; first | done | omega)) ?_)); all_goals (first | rfl | (simp only [St.set, St.ev, upd, ren, renL, id, Nat.reduceEqDiff, reduceIte]; done) | ((try simp only [St.set, St.ev, upd, ren, renL, id, Nat.reduceEqDiff, reduceIte]); first | (with_reducible exact av_int (by omega)) | (with_reducible exact av_sl (by first | omega | (simp; done) | (simp; omega)) (by first | omega | (simp; done) | (simp; omega)))) | (simp only [St.set, St.ev, upd, ren, renL, id, Nat.reduceEqDiff, reduceIte, Int.natCast_add, Int.natCast_one, Int.cast_ofNat_Int, Int.natCast_zero]; done) | (simp only [St.set, St.ev, upd, ren, renL, id, Nat.reduceEqDiff, reduceIte]) | skip)))); (case h3 => (focus (first | (simp only [id, List.map_cons, List.map_nil]; decide) | decide))); (case h5 => (intro d hd; first | (simp at hd; done) | (simp only [List.mem_cons, List.not_mem_nil, or_false] at hd; first | (simp only [id]; omega) | (split <;> omega) | ((try simp only); repeat' split; all_goals omega)))); (case h4 => (intro o l h; first | (cases h; done) | (have hlt0 := m0_lt (by assumption) h; first | omega | (simp only; omega) | exact ⟨by (first | rfl | (simp only [id]; done) | (rw [if_neg (by omega)])), by first | omega | (simp only; omega)⟩))))); (focus (first | omega | (simp only; omega) | (simp; omega))); ((repeat' (with_reducible apply And.intro)) <;> (first | omega | (simp only; omega) | assumption | rfl | ((try simp only); first | (simp only [List.length_set]; exact hzl) | exact hx) | fail))); done)) | (focus ((have hx := hgo2 (by omega) (by omega) (by omega); (apply Exists.intro (2 * i + 1, _, b + 1 + 1, c + 1)); (refine nxt ?_ ?_ ?_); (focus (apply Wk.over (id) 6; (case' h2 => (focus ((repeat' (first | (with_reducible exact HeapX.bot) | (exact HeapX.base (by first | exact hcl | assumption) (by first | exact Nat.le_refl _ | omega | (simp only; omega)) (fun k hk => by first | rfl | (simp only [id]; done) | (rw [if_neg (by omega)])) (by intro u hu hlt'; first | rfl | (simp only [List.mem_cons, List.not_mem_nil, or_false, not_or] at hu; first | (simp [upd, hu]; done) | (simp only [upd]; (repeat rw [if_neg (by omega)]))))) | (with_reducible (apply HeapX.skip; (case hx => (simp; done)))) | (with_reducible apply HeapX.none) | (with_reducible apply HeapX.old (by first | assumption | omega) (by first | exact Nat.le_refl _ | omega | (simp only; omega)) (by first | rfl | (simp only [id]; done) | (rw [if_neg (by omega)]))) | (with_reducible apply HeapX.upd))); all_goals (first | rfl | omega | assumption | exact Nat.le_of_ble_eq_true rfl | (simp only [St.set, St.ev, upd, ren, renL, id, Nat.reduceEqDiff, reduceIte]; rfl) | (simp only [St.set, St.ev, upd, ren, renL, id, Nat.reduceEqDiff, reduceIte, ContLe]; done) | (first | (simp only [St.set, St.ev, upd, ren, renL, id, Nat.reduceEqDiff, reduceIte]; exact contLe_nil) | ((repeat' (first | exact contLe_nil | refine contLe_cons (.inr ⟨?_, rfl⟩) ?_)); all_goals (first | rfl | (simp only [St.set, St.ev, upd, ren, renL, id, Nat.reduceEqDiff, reduceIte]; done) | ((try simp only [St.set, St.ev, upd, ren, renL, id, Nat.reduceEqDiff, reduceIte]); first | (with_reducible exact av_int (by omega)) | (with_reducible exact av_sl (by first | omega | (simp; done) | (simp; omega)) (by first | omega | (simp; done) | (simp; omega)))) | (simp only [St.set, St.ev, upd, ren, renL, id, Nat.reduceEqDiff, reduceIte, Int.natCast_add, Int.natCast_one, Int.cast_ofNat_Int, Int.natCast_zero]; done) | (simp only [St.set, St.ev, upd, ren, renL, id, Nat.reduceEqDiff, reduceIte]) | skip); done)) | (simp only [St.set, St.ev, upd, ren, renL, id, Nat.reduceEqDiff, reduceIte, ContLe]) | skip)))); (case' h1 => (focus ((repeat' (with_reducible first | exact TmpLe.bot | refine TmpLe.upd ?_ (by first | rfl | (simp only [AV.lt, decide_eq_true_eq]; first | done | omega)) ?_)); all_goals (first | rfl | (simp only [St.set, St.ev, upd, ren, renL, id, Nat.reduceEqDiff, reduceIte]; done) | ((try simp only [St.set, St.ev, upd, ren, renL, id, Nat.reduceEqDiff, reduceIte]); first | (with_reducible exact av_int (by omega)) | (with_reducible exact av_sl (by first | omega | (simp; done) | (simp; omega)) (by first | omega | (simp; done) | (simp; omega)))) | (simp only [St.set, St.ev, upd, ren, renL, id, Nat.reduceEqDiff, reduceIte, Int.natCast_add, Int.natCast_one, Int.cast_ofNat_Int, Int.natCast_zero]; done) | (simp only [St.set, St.ev, upd, ren, renL, id, Nat.reduceEqDiff, reduceIte]) | skip)))); (case h3 => (focus (first | (simp only [id, List.map_cons, List.map_nil]; decide) | decide))); (case h5 => (intro d hd; first | (simp at hd; done) | (simp only [List.mem_cons, List.not_mem_nil, or_false] at hd; first | (simp only [id]; omega) | (split <;> omega) | ((try simp only); repeat' split; all_goals omega)))); (case h4 => (intro o l h; first | (cases h; done) | (have hlt0 := m0_lt (by assumption) h; first | omega | (simp only; omega) | exact ⟨by (first | rfl | (simp only [id]; done) | (rw [if_neg (by omega)])), by first | omega | (simp only; omega)⟩))))); (focus (first | omega | (simp only; omega) | (simp; omega))); ((repeat' (with_reducible apply And.intro)) <;> (first | omega | (simp only; omega) | assumption | rfl | ((try simp only); first | (simp only [List.length_set]; exact hzl) | exact hx) | fail))); done)) | (focus ((have hx := hgo3 (by omega) (by omega) (by omega); (apply Exists.intro (2 * i + 1, _, b + 1, c + 1)); (refine nxt ?_ ?_ ?_); (focus (apply Wk.over (id) 6; (case' h2 => (focus ((repeat' (first | (with_reducible exact HeapX.bot) | (exact HeapX.base (by first | exact hcl | assumption) (by first | exact Nat.le_refl _ | omega | (simp only; omega)) (fun k hk => by first | rfl | (simp only [id]; done) | (rw [if_neg (by omega)])) (by intro u hu hlt'; first | rfl | (simp only [List.mem_cons, List.not_mem_nil, or_false, not_or] at hu; first | (simp [upd, hu]; done) | (simp only [upd]; (repeat rw [if_neg (by omega)]))))) | (with_reducible (apply HeapX.skip; (case hx => (simp; done)))) | (with_reducible apply HeapX.none) | (with_reducible apply HeapX.old (by first | assumption | omega) (by first | exact Nat.le_refl _ | omega | (simp only; omega)) (by first | rfl | (simp only [id]; done) | (rw [if_neg (by omega)]))) | (with_reducible apply HeapX.upd))); all_goals (first | rfl | omega | assumption | exact Nat.le_of_ble_eq_true rfl | (simp only [St.set, St.ev, upd, ren, renL, id, Nat.reduceEqDiff, reduceIte]; rfl) | (simp only [St.set, St.ev, upd, ren, renL, id, Nat.reduceEqDiff, reduceIte, ContLe]; done) | (first | (simp only [St.set, St.ev, upd, ren, renL, id, Nat.reduceEqDiff, reduceIte]; exact contLe_nil) | ((repeat' (first | exact contLe_nil | refine contLe_cons (.inr ⟨?_, rfl⟩) ?_)); all_goals (first | rfl | (simp only [St.set, St.ev, upd, ren, renL, id, Nat.reduceEqDiff, reduceIte]; done) | ((try simp only [St.set, St.ev, upd, ren, renL, id, Nat.reduceEqDiff, reduceIte]); first | (with_reducible exact av_int (by omega)) | (with_reducible exact av_sl (by first | omega | (simp; done) | (simp; omega)) (by first | omega | (simp; done) | (simp; omega)))) | (simp only [St.set, St.ev, upd, ren, renL, id, Nat.reduceEqDiff, reduceIte, Int.natCast_add, Int.natCast_one, Int.cast_ofNat_Int, Int.natCast_zero]; done) | (simp only [St.set, St.ev, upd, ren, renL, id, Nat.reduceEqDiff, reduceIte]) | skip); done)) | (simp only [St.set, St.ev, upd, ren, renL, id, Nat.reduceEqDiff, reduceIte, ContLe]) | skip)))); (case' h1 => (focus ((repeat' (with_reducible first | exact TmpLe.bot | refine TmpLe.upd ?_ (by first | rfl | (simp only [AV.lt, decide_eq_true_eq]; first | done | omega)) ?_)); all_goals (first | rfl | (simp only [St.set, St.ev, upd, ren, renL, id, Nat.reduceEqDiff, reduceIte]; done) | ((try simp only [St.set, St.ev, upd, ren, renL, id, Nat.reduceEqDiff, reduceIte]); first | (with_reducible exact av_int (by omega)) | (with_reducible exact av_sl (by first | omega | (simp; done) | (simp; omega)) (by first | omega | (simp; done) | (simp; omega)))) | (simp only [St.set, St.ev, upd, ren, renL, id, Nat.reduceEqDiff, reduceIte, Int.natCast_add, Int.natCast_one, Int.cast_ofNat_Int, Int.natCast_zero]; done) | (simp only [St.set, St.ev, upd, ren, renL, id, Nat.reduceEqDiff, reduceIte]) | skip)))); (case h3 => (focus (first | (simp only [id, List.map_cons, List.map_nil]; decide) | decide))); (case h5 => (intro d hd; first | (simp at hd; done) | (simp only [List.mem_cons, List.not_mem_nil, or_false] at hd; first | (simp only [id]; omega) | (split <;> omega) | ((try simp only); repeat' split; all_goals omega)))); (case h4 => (intro o l h; first | (cases h; done) | (have hlt0 := m0_lt (by assumption) h; first | omega | (simp only; omega) | exact ⟨by (first | rfl | (simp only [id]; done) | (rw [if_neg (by omega)])), by first | omega | (simp only; omega)⟩))))); (focus (first | omega | (simp only; omega) | (simp; omega))); ((repeat' (with_reducible apply And.intro)) <;> (first | omega | (simp only; omega) | assumption | rfl | ((try simp only); first | (simp only [List.length_set]; exact hzl) | exact hx) | fail))); done)) | skip
  all_goals try (
    have hx := hst1 (by omega) (by omega) (by omega)
    subst hx
    refine awp_weaken (s' := ⟨upd bot 6 (.ref 6 0), upd (upd h 4 (some ⟨true, .ints .i64 zs⟩)) 6 (some ⟨true, .cells [.sl 4 0 ys.length 1 none, .val (.int .i64 (b + 1 + 1)), .val (.int .i64 c)]⟩), 7⟩) ?_ ?_
    · (apply Wk.over (fun o => if o = 6 then 7 else o) 6; (case' h2 => (focus ((repeat' (first | (with_reducible exact HeapX.bot) | (exact HeapX.base (by first | exact hcl | assumption) (by first | exact Nat.le_refl _ | omega | (simp only; omega)) (fun k hk => by first | rfl | (simp only [id]; done) | (rw [if_neg (by omega)])) (by intro u hu hlt'; first | rfl | (simp only [List.mem_cons, List.not_mem_nil, or_false, not_or] at hu; first | (simp [upd, hu]; done) | (simp only [upd]; (repeat rw [if_neg (by omega)]))))) | (with_reducible (apply HeapX.skip; (case hx => (simp; done)))) | (with_reducible apply HeapX.none) | (with_reducible apply HeapX.old (by first | assumption | omega) (by first | exact Nat.le_refl _ | omega | (simp only; omega)) (by first | rfl | (simp only [id]; done) | (rw [if_neg (by omega)]))) | (with_reducible apply HeapX.upd))); all_goals (first | rfl | omega | assumption | exact Nat.le_of_ble_eq_true rfl | (simp only [St.set, St.ev, upd, ren, renL, id, Nat.reduceEqDiff, reduceIte]; rfl) | (simp only [St.set, St.ev, upd, ren, renL, id, Nat.reduceEqDiff, reduceIte, ContLe]; done) | (first | (simp only [St.set, St.ev, upd, ren, renL, id, Nat.reduceEqDiff, reduceIte]; exact contLe_nil) | ((repeat' (first | exact contLe_nil | refine contLe_cons (.inr ⟨?_, rfl⟩) ?_)); all_goals (first | rfl | (simp only [St.set, St.ev, upd, ren, renL, id, Nat.reduceEqDiff, reduceIte]; done) | ((try simp only [St.set, St.ev, upd, ren, renL, id, Nat.reduceEqDiff, reduceIte]); first | (with_reducible exact av_int (by omega)) | (with_reducible exact av_sl (by first | omega | (simp; done) | (simp; omega)) (by first | omega | (simp; done) | (simp; omega)))) | (simp only [St.set, St.ev, upd, ren, renL, id, Nat.reduceEqDiff, reduceIte, Int.natCast_add, Int.natCast_one, Int.cast_ofNat_Int, Int.natCast_zero]; done) | (simp only [St.set, St.ev, upd, ren, renL, id, Nat.reduceEqDiff, reduceIte]) | skip); done)) | (simp only [St.set, St.ev, upd, ren, renL, id, Nat.reduceEqDiff, reduceIte, ContLe]) | skip)))); (case' h1 => (focus ((repeat' (with_reducible first | exact TmpLe.bot | refine TmpLe.upd ?_ (by first | rfl | (simp only [AV.lt, decide_eq_true_eq]; first | done | omega)) ?_)); all_goals (first | rfl | (simp only [St.set, St.ev, upd, ren, renL, id, Nat.reduceEqDiff, reduceIte]; done) | ((try simp only [St.set, St.ev, upd, ren, renL, id, Nat.reduceEqDiff, reduceIte]); first | (with_reducible exact av_int (by omega)) | (with_reducible exact av_sl (by first | omega | (simp; done) | (simp; omega)) (by first | omega | (simp; done) | (simp; omega)))) | (simp only [St.set, St.ev, upd, ren, renL, id, Nat.reduceEqDiff, reduceIte, Int.natCast_add, Int.natCast_one, Int.cast_ofNat_Int, Int.natCast_zero]; done) | (simp only [St.set, St.ev, upd, ren, renL, id, Nat.reduceEqDiff, reduceIte]) | skip)))); (case h3 => (focus (first | (simp only [id, List.map_cons, List.map_nil]; decide) | decide))); (case h5 => (intro d hd; first | (simp at hd; done) | (simp only [List.mem_cons, List.not_mem_nil, or_false] at hd; first | (simp only [id]; omega) | (split <;> omega) | ((try simp only); repeat' split; all_goals omega)))); (case h4 => (intro o l h; first | (cases h; done) | (have hlt0 := m0_lt (by assumption) h; first | omega | (simp only; omega) | exact ⟨by (first | rfl | (simp only [id]; done) | (rw [if_neg (by omega)])), by first | omega | (simp only; omega)⟩))))
    repeat' (first | refine awp_seq_k fun K hK => ?_ | ((with_reducible refine hK _ ?_); clear hK K) | (clear hK K; (with_reducible refine hK _ ?_); clear hK K) | (clear hK K; clear hK K; (with_reducible refine hK _ ?_); clear hK K) | (clear hK K; clear hK K; clear hK K; (with_reducible refine hK _ ?_); clear hK K) | (clear hK K; clear hK K; clear hK K; clear hK K; (with_reducible refine hK _ ?_); clear hK K) | (clear hK K; clear hK K; clear hK K; clear hK K; clear hK K; (with_reducible refine hK _ ?_); clear hK K) | ((with_reducible refine aord_plain fun K hK => ?_); simp only [go_sem, Nat.reduceAdd, Nat.reduceMul, Nat.reduceEqDiff, Nat.reduceLT, reduceIte, reduceCtorEq, h4]) | refine awp_block ?_ | ((first | with_reducible refine aord_nil ?_ | refine awp_skip ?_ | refine awp_exit ?_ | refine awp_ret ?_); try simp only [thenA_normal, thenA_exit, thenA_goto, thenA_ret, blockA_normal, blockA_same, blockA_exit, blockA_goto, blockA_ret, Nat.reduceEqDiff, if_false, if_true, reduceIte]) | (refine awp_region tabOk rfl ?_; simp only [prep, pickO, List.map_cons, List.map_nil, List.getElem?_toArray, List.getElem?_cons_succ, List.getElem?_cons_zero, Option.bind_some, Option.map_some]) | (refine awp_region_draw (nt := 59) (id := 5) tabOk [(0, true, false), (1, true, false), (2, true, false), (3, true, false), (4, true, false), (5, true, false), (6, true, false), (7, true, false), (8, true, false), (9, true, false), (10, true, false), (11, true, false)] (by kernel_rfl) rfl (by kernel_rfl) ?_; simp only [prep, pickO, List.map_cons, List.map_nil, List.getElem?_toArray, List.getElem?_cons_succ, List.getElem?_cons_zero, Option.bind_some, Option.map_some]) | (refine awp_region_draw (nt := 59) (id := 8) tabOk [(0, true, false), (1, true, false), (2, true, false), (3, true, false), (4, true, false), (5, true, false), (6, true, false), (7, true, false), (8, true, false), (9, true, false), (10, true, false)] (by kernel_rfl) rfl (by kernel_rfl) ?_; simp only [prep, pickO, List.map_cons, List.map_nil, List.getElem?_toArray, List.getElem?_cons_succ, List.getElem?_cons_zero, Option.bind_some, Option.map_some]) | (refine awp_region_draw (nt := 32) (id := 2) tabOk [(0, true, false), (1, true, false), (2, true, false), (3, true, false), (4, true, false), (5, true, false), (6, true, false), (7, true, false), (8, true, false), (9, false, false)] (by kernel_rfl) rfl (by kernel_rfl) ?_; simp only [prep, pickO, List.map_cons, List.map_nil, List.getElem?_toArray, List.getElem?_cons_succ, List.getElem?_cons_zero, Option.bind_some, Option.map_some]) | ((with_reducible apply awp_cond); (focus (simp only [St.ev, St.set, upd, Nat.reduceEqDiff, reduceIte, if_false, if_true]; exact rfl)); all_goals (intro hb; first | (cases hb; done) | ((try rw [hb]); (try simp only [decide_eq_true_eq, decide_eq_false_iff_not, beq_iff_eq, bne_iff_ne, beq_eq_false_iff_ne, bne_eq_false_iff_eq, Int.not_lt, Int.not_le, Bool.not_eq_true', Bool.not_eq_false'] at hb)))) | ((with_reducible refine And.intro ?_ ?_); (focus omega)) | ((with_reducible refine And.intro ?_ ?_); (focus (exact rfl))) | ((with_reducible refine And.intro (?_ : enters Try.prog 27) ?_); (focus exact Try.call27); (refine callX_h (callH_inline tabOk Try.func27 rfl 32 rfl [.cell 6 26] rfl (Nat.le_of_ble_eq_true rfl) fun m0 hm0 hcl hlt => ?_)); simp only [initT, St.ev, St.set, upd, Nat.reduceEqDiff, reduceIte, if_false, if_true]) | (refine aStoreAll_ints (by simp only [St.ev, St.set, upd, Nat.reduceEqDiff, reduceIte, if_false, if_true]; exact rfl) ?_ ?_ ?_ ?_; (focus (first | rfl | omega | (simp; done) | (simp; omega) | (simp [szOf, tab]; done) | (simp [szOf, tab]; omega))); (focus (first | rfl | omega | (simp; done) | (simp; omega) | (simp [szOf, tab]; done) | (simp [szOf, tab]; omega))); (focus (first | rfl | omega | (simp; done) | (simp; omega) | (simp [szOf, tab]; done) | (simp [szOf, tab]; omega))); (try simp only [go_sem, Nat.reduceAdd, Nat.reduceMul, Nat.reduceEqDiff, Nat.reduceLT, reduceIte, reduceCtorEq])) | (simp only [doneH]; simp only [ressK, resK, wrapR, go_sem, Nat.reduceAdd, Nat.reduceMul, Nat.reduceEqDiff, Nat.reduceLT, reduceIte, reduceCtorEq]) | (refine aStoreAll_cells (by simp only [St.ev, St.set, upd, Nat.reduceEqDiff, reduceIte, if_false, if_true]; exact rfl) ?_ ?_ ?_ ?_ ?_; (focus (first | rfl | omega | (simp; done) | (simp; omega) | (simp [szOf, tab]; done) | (simp [szOf, tab]; omega))); (focus (first | rfl | omega | (simp; done) | (simp; omega) | (simp [szOf, tab]; done) | (simp [szOf, tab]; omega))); (focus (first | rfl | omega | (simp; done) | (simp; omega) | (simp [szOf, tab]; done) | (simp [szOf, tab]; omega))); (focus (first | rfl | (simp [AV.cell, Value.oneCell']; done))); (try simp only [go_sem, Nat.reduceAdd, Nat.reduceMul, Nat.reduceEqDiff, Nat.reduceLT, reduceIte, reduceCtorEq])) | (with_reducible refine And.intro (fun hb => ?_) (fun hb => ?_)) | (exfalso; omega) | fail)
    exact hQ
    done)
  all_goals try (
    have hx := hst2 (by omega) (by omega) (by omega)
    subst hx
    refine awp_weaken (s' := ⟨upd bot 6 (.ref 6 0), upd (upd h 4 (some ⟨true, .ints .i64 zs⟩)) 6 (some ⟨true, .cells [.sl 4 0 ys.length 1 none, .val (.int .i64 (b + 1 + 1)), .val (.int .i64 c)]⟩), 7⟩) ?_ ?_
    · (apply Wk.over (fun o => if o = 6 then 7 else o) 6; (case' h2 => (focus ((repeat' (first | (with_reducible exact HeapX.bot) | (exact HeapX.base (by first | exact hcl | assumption) (by first | exact Nat.le_refl _ | omega | (simp only; omega)) (fun k hk => by first | rfl | (simp only [id]; done) | (rw [if_neg (by omega)])) (by intro u hu hlt'; first | rfl | (simp only [List.mem_cons, List.not_mem_nil, or_false, not_or] at hu; first | (simp [upd, hu]; done) | (simp only [upd]; (repeat rw [if_neg (by omega)]))))) | (with_reducible (apply HeapX.skip; (case hx => (simp; done)))) | (with_reducible apply HeapX.none) | (with_reducible apply HeapX.old (by first | assumption | omega) (by first | exact Nat.le_refl _ | omega | (simp only; omega)) (by first | rfl | (simp only [id]; done) | (rw [if_neg (by omega)]))) | (with_reducible apply HeapX.upd))); all_goals (first | rfl | omega | assumption | exact Nat.le_of_ble_eq_true rfl | (simp only [St.set, St.ev, upd, ren, renL, id, Nat.reduceEqDiff, reduceIte]; rfl) | (simp only [St.set, St.ev, upd, ren, renL, id, Nat.reduceEqDiff, reduceIte, ContLe]; done) | (first | (simp only [St.set, St.ev, upd, ren, renL, id, Nat.reduceEqDiff, reduceIte]; exact contLe_nil) | ((repeat' (first | exact contLe_nil | refine contLe_cons (.inr ⟨?_, rfl⟩) ?_)); all_goals (first | rfl | (simp only [St.set, St.ev, upd, ren, renL, id, Nat.reduceEqDiff, reduceIte]; done) | ((try simp only [St.set, St.ev, upd, ren, renL, id, Nat.reduceEqDiff, reduceIte]); first | (with_reducible exact av_int (by omega)) | (with_reducible exact av_sl (by first | omega | (simp; done) | (simp; omega)) (by first | omega | (simp; done) | (simp; omega)))) | (simp only [St.set, St.ev, upd, ren, renL, id, Nat.reduceEqDiff, reduceIte, Int.natCast_add, Int.natCast_one, Int.cast_ofNat_Int, Int.natCast_zero]; done) | (simp only [St.set, St.ev, upd, ren, renL, id, Nat.reduceEqDiff, reduceIte]) | skip); done)) | (simp only [St.set, St.ev, upd, ren, renL, id, Nat.reduceEqDiff, reduceIte, ContLe]) | skip)))); (case' h1 => (focus ((repeat' (with_reducible first | exact TmpLe.bot | refine TmpLe.upd ?_ (by first | rfl | (simp only [AV.lt, decide_eq_true_eq]; first | done | omega)) ?_)); all_goals (first | rfl | (simp only [St.set, St.ev, upd, ren, renL, id, Nat.reduceEqDiff, reduceIte]; done) | ((try simp only [St.set, St.ev, upd, ren, renL, id, Nat.reduceEqDiff, reduceIte]); first | (with_reducible exact av_int (by omega)) | (with_reducible exact av_sl (by first | omega | (simp; done) | (simp; omega)) (by first | omega | (simp; done) | (simp; omega)))) | (simp only [St.set, St.ev, upd, ren, renL, id, Nat.reduceEqDiff, reduceIte, Int.natCast_add, Int.natCast_one, Int.cast_ofNat_Int, Int.natCast_zero]; done) | (simp only [St.set, St.ev, upd, ren, renL, id, Nat.reduceEqDiff, reduceIte]) | skip)))); (case h3 => (focus (first | (simp only [id, List.map_cons, List.map_nil]; decide) | decide))); (case h5 => (intro d hd; first | (simp at hd; done) | (simp only [List.mem_cons, List.not_mem_nil, or_false] at hd; first | (simp only [id]; omega) | (split <;> omega) | ((try simp only); repeat' split; all_goals omega)))); (case h4 => (intro o l h; first | (cases h; done) | (have hlt0 := m0_lt (by assumption) h; first | omega | (simp only; omega) | exact ⟨by (first | rfl | (simp only [id]; done) | (rw [if_neg (by omega)])), by first | omega | (simp only; omega)⟩))))
    repeat' (first | refine awp_seq_k fun K hK => ?_ | ((with_reducible refine hK _ ?_); clear hK K) | (clear hK K; (with_reducible refine hK _ ?_); clear hK K) | (clear hK K; clear hK K; (with_reducible refine hK _ ?_); clear hK K) | (clear hK K; clear hK K; clear hK K; (with_reducible refine hK _ ?_); clear hK K) | (clear hK K; clear hK K; clear hK K; clear hK K; (with_reducible refine hK _ ?_); clear hK K) | (clear hK K; clear hK K; clear hK K; clear hK K; clear hK K; (with_reducible refine hK _ ?_); clear hK K) | ((with_reducible refine aord_plain fun K hK => ?_); simp only [go_sem, Nat.reduceAdd, Nat.reduceMul, Nat.reduceEqDiff, Nat.reduceLT, reduceIte, reduceCtorEq, h4]) | refine awp_block ?_ | ((first | with_reducible refine aord_nil ?_ | refine awp_skip ?_ | refine awp_exit ?_ | refine awp_ret ?_); try simp only [thenA_normal, thenA_exit, thenA_goto, thenA_ret, blockA_normal, blockA_same, blockA_exit, blockA_goto, blockA_ret, Nat.reduceEqDiff, if_false, if_true, reduceIte]) | (refine awp_region tabOk rfl ?_; simp only [prep, pickO, List.map_cons, List.map_nil, List.getElem?_toArray, List.getElem?_cons_succ, List.getElem?_cons_zero, Option.bind_some, Option.map_some]) | (refine awp_region_draw (nt := 59) (id := 5) tabOk [(0, true, false), (1, true, false), (2, true, false), (3, true, false), (4, true, false), (5, true, false), (6, true, false), (7, true, false), (8, true, false), (9, true, false), (10, true, false), (11, true, false)] (by kernel_rfl) rfl (by kernel_rfl) ?_; simp only [prep, pickO, List.map_cons, List.map_nil, List.getElem?_toArray, List.getElem?_cons_succ, List.getElem?_cons_zero, Option.bind_some, Option.map_some]) | (refine awp_region_draw (nt := 59) (id := 8) tabOk [(0, true, false), (1, true, false), (2, true, false), (3, true, false), (4, true, false), (5, true, false), (6, true, false), (7, true, false), (8, true, false), (9, true, false), (10, true, false)] (by kernel_rfl) rfl (by kernel_rfl) ?_; simp only [prep, pickO, List.map_cons, List.map_nil, List.getElem?_toArray, List.getElem?_cons_succ, List.getElem?_cons_zero, Option.bind_some, Option.map_some]) | (refine awp_region_draw (nt := 32) (id := 2) tabOk [(0, true, false), (1, true, false), (2, true, false), (3, true, false), (4, true, false), (5, true, false), (6, true, false), (7, true, false), (8, true, false), (9, false, false)] (by kernel_rfl) rfl (by kernel_rfl) ?_; simp only [prep, pickO, List.map_cons, List.map_nil, List.getElem?_toArray, List.getElem?_cons_succ, List.getElem?_cons_zero, Option.bind_some, Option.map_some]) | ((with_reducible apply awp_cond); (focus (simp only [St.ev, St.set, upd, Nat.reduceEqDiff, reduceIte, if_false, if_true]; exact rfl)); all_goals (intro hb; first | (cases hb; done) | ((try rw [hb]); (try simp only [decide_eq_true_eq, decide_eq_false_iff_not, beq_iff_eq, bne_iff_ne, beq_eq_false_iff_ne, bne_eq_false_iff_eq, Int.not_lt, Int.not_le, Bool.not_eq_true', Bool.not_eq_false'] at hb)))) | ((with_reducible refine And.intro ?_ ?_); (focus omega)) | ((with_reducible refine And.intro ?_ ?_); (focus (exact rfl))) | ((with_reducible refine And.intro (?_ : enters Try.prog 27) ?_); (focus exact Try.call27); (refine callX_h (callH_inline tabOk Try.func27 rfl 32 rfl [.cell 6 26] rfl (Nat.le_of_ble_eq_true rfl) fun m0 hm0 hcl hlt => ?_)); simp only [initT, St.ev, St.set, upd, Nat.reduceEqDiff, reduceIte, if_false, if_true]) | (refine aStoreAll_ints (by simp only [St.ev, St.set, upd, Nat.reduceEqDiff, reduceIte, if_false, if_true]; exact rfl) ?_ ?_ ?_ ?_; (focus (first | rfl | omega | (simp; done) | (simp; omega) | (simp [szOf, tab]; done) | (simp [szOf, tab]; omega))); (focus (first | rfl | omega | (simp; done) | (simp; omega) | (simp [szOf, tab]; done) | (simp [szOf, tab]; omega))); (focus (first | rfl | omega | (simp; done) | (simp; omega) | (simp [szOf, tab]; done) | (simp [szOf, tab]; omega))); (try simp only [go_sem, Nat.reduceAdd, Nat.reduceMul, Nat.reduceEqDiff, Nat.reduceLT, reduceIte, reduceCtorEq])) | (simp only [doneH]; simp only [ressK, resK, wrapR, go_sem, Nat.reduceAdd, Nat.reduceMul, Nat.reduceEqDiff, Nat.reduceLT, reduceIte, reduceCtorEq]) | (refine aStoreAll_cells (by simp only [St.ev, St.set, upd, Nat.reduceEqDiff, reduceIte, if_false, if_true]; exact rfl) ?_ ?_ ?_ ?_ ?_; (focus (first | rfl | omega | (simp; done) | (simp; omega) | (simp [szOf, tab]; done) | (simp [szOf, tab]; omega))); (focus (first | rfl | omega | (simp; done) | (simp; omega) | (simp [szOf, tab]; done) | (simp [szOf, tab]; omega))); (focus (first | rfl | omega | (simp; done) | (simp; omega) | (simp [szOf, tab]; done) | (simp [szOf, tab]; omega))); (focus (first | rfl | (simp [AV.cell, Value.oneCell']; done))); (try simp only [go_sem, Nat.reduceAdd, Nat.reduceMul, Nat.reduceEqDiff, Nat.reduceLT, reduceIte, reduceCtorEq])) | (with_reducible refine And.intro (fun hb => ?_) (fun hb => ?_)) | (exfalso; omega) | fail)
    exact hQ
    done)
  all_goals try (
    have hx := hst3 (by omega) (by omega) (by omega)
    subst hx
    refine awp_weaken (s' := ⟨upd bot 6 (.ref 6 0), upd (upd h 4 (some ⟨true, .ints .i64 zs⟩)) 6 (some ⟨true, .cells [.sl 4 0 ys.length 1 none, .val (.int .i64 (b + 1)), .val (.int .i64 c)]⟩), 7⟩) ?_ ?_
    · (apply Wk.over (fun o => if o = 6 then 7 else o) 6; (case' h2 => (focus ((repeat' (first | (with_reducible exact HeapX.bot) | (exact HeapX.base (by first | exact hcl | assumption) (by first | exact Nat.le_refl _ | omega | (simp only; omega)) (fun k hk => by first | rfl | (simp only [id]; done) | (rw [if_neg (by omega)])) (by intro u hu hlt'; first | rfl | (simp only [List.mem_cons, List.not_mem_nil, or_false, not_or] at hu; first | (simp [upd, hu]; done) | (simp only [upd]; (repeat rw [if_neg (by omega)]))))) | (with_reducible (apply HeapX.skip; (case hx => (simp; done)))) | (with_reducible apply HeapX.none) | (with_reducible apply HeapX.old (by first | assumption | omega) (by first | exact Nat.le_refl _ | omega | (simp only; omega)) (by first | rfl | (simp only [id]; done) | (rw [if_neg (by omega)]))) | (with_reducible apply HeapX.upd))); all_goals (first | rfl | omega | assumption | exact Nat.le_of_ble_eq_true rfl | (simp only [St.set, St.ev, upd, ren, renL, id, Nat.reduceEqDiff, reduceIte]; rfl) | (simp only [St.set, St.ev, upd, ren, renL, id, Nat.reduceEqDiff, reduceIte, ContLe]; done) | (first | (simp only [St.set, St.ev, upd, ren, renL, id, Nat.reduceEqDiff, reduceIte]; exact contLe_nil) | ((repeat' (first | exact contLe_nil | refine contLe_cons (.inr ⟨?_, rfl⟩) ?_)); all_goals (first | rfl | (simp only [St.set, St.ev, upd, ren, renL, id, Nat.reduceEqDiff, reduceIte]; done) | ((try simp only [St.set, St.ev, upd, ren, renL, id, Nat.reduceEqDiff, reduceIte]); first | (with_reducible exact av_int (by omega)) | (with_reducible exact av_sl (by first | omega | (simp; done) | (simp; omega)) (by first | omega | (simp; done) | (simp; omega)))) | (simp only [St.set, St.ev, upd, ren, renL, id, Nat.reduceEqDiff, reduceIte, Int.natCast_add, Int.natCast_one, Int.cast_ofNat_Int, Int.natCast_zero]; done) | (simp only [St.set, St.ev, upd, ren, renL, id, Nat.reduceEqDiff, reduceIte]) | skip); done)) | (simp only [St.set, St.ev, upd, ren, renL, id, Nat.reduceEqDiff, reduceIte, ContLe]) | skip)))); (case' h1 => (focus ((repeat' (with_reducible first | exact TmpLe.bot | refine TmpLe.upd ?_ (by first | rfl | (simp only [AV.lt, decide_eq_true_eq]; first | done | omega)) ?_)); all_goals (first | rfl | (simp only [St.set, St.ev, upd, ren, renL, id, Nat.reduceEqDiff, reduceIte]; done) | ((try simp only [St.set, St.ev, upd, ren, renL, id, Nat.reduceEqDiff, reduceIte]); first | (with_reducible exact av_int (by omega)) | (with_reducible exact av_sl (by first | omega | (simp; done) | (simp; omega)) (by first | omega | (simp; done) | (simp; omega)))) | (simp only [St.set, St.ev, upd, ren, renL, id, Nat.reduceEqDiff, reduceIte, Int.natCast_add, Int.natCast_one, Int.cast_ofNat_Int, Int.natCast_zero]; done) | (simp only [St.set, St.ev, upd, ren, renL, id, Nat.reduceEqDiff, reduceIte]) | skip)))); (case h3 => (focus (first | (simp only [id, List.map_cons, List.map_nil]; decide) | decide))); (case h5 => (intro d hd; first | (simp at hd; done) | (simp only [List.mem_cons, List.not_mem_nil, or_false] at hd; first | (simp only [id]; omega) | (split <;> omega) | ((try simp only); repeat' split; all_goals omega)))); (case h4 => (intro o l h; first | (cases h; done) | (have hlt0 := m0_lt (by assumption) h; first | omega | (simp only; omega) | exact ⟨by (first | rfl | (simp only [id]; done) | (rw [if_neg (by omega)])), by first | omega | (simp only; omega)⟩))))
    repeat' (first | refine awp_seq_k fun K hK => ?_ | ((with_reducible refine hK _ ?_); clear hK K) | (clear hK K; (with_reducible refine hK _ ?_); clear hK K) | (clear hK K; clear hK K; (with_reducible refine hK _ ?_); clear hK K) | (clear hK K; clear hK K; clear hK K; (with_reducible refine hK _ ?_); clear hK K) | (clear hK K; clear hK K; clear hK K; clear hK K; (with_reducible refine hK _ ?_); clear hK K) | (clear hK K; clear hK K; clear hK K; clear hK K; clear hK K; (with_reducible refine hK _ ?_); clear hK K) | ((with_reducible refine aord_plain fun K hK => ?_); simp only [go_sem, Nat.reduceAdd, Nat.reduceMul, Nat.reduceEqDiff, Nat.reduceLT, reduceIte, reduceCtorEq, h4]) | refine awp_block ?_ | ((first | with_reducible refine aord_nil ?_ | refine awp_skip ?_ | refine awp_exit ?_ | refine awp_ret ?_); try simp only [thenA_normal, thenA_exit, thenA_goto, thenA_ret, blockA_normal, blockA_same, blockA_exit, blockA_goto, blockA_ret, Nat.reduceEqDiff, if_false, if_true, reduceIte]) | (refine awp_region tabOk rfl ?_; simp only [prep, pickO, List.map_cons, List.map_nil, List.getElem?_toArray, List.getElem?_cons_succ, List.getElem?_cons_zero, Option.bind_some, Option.map_some]) | (refine awp_region_draw (nt := 59) (id := 5) tabOk [(0, true, false), (1, true, false), (2, true, false), (3, true, false), (4, true, false), (5, true, false), (6, true, false), (7, true, false), (8, true, false), (9, true, false), (10, true, false), (11, true, false)] (by kernel_rfl) rfl (by kernel_rfl) ?_; simp only [prep, pickO, List.map_cons, List.map_nil, List.getElem?_toArray, List.getElem?_cons_succ, List.getElem?_cons_zero, Option.bind_some, Option.map_some]) | (refine awp_region_draw (nt := 59) (id := 8) tabOk [(0, true, false), (1, true, false), (2, true, false), (3, true, false), (4, true, false), (5, true, false), (6, true, false), (7, true, false), (8, true, false), (9, true, false), (10, true, false)] (by kernel_rfl) rfl (by kernel_rfl) ?_; simp only [prep, pickO, List.map_cons, List.map_nil, List.getElem?_toArray, List.getElem?_cons_succ, List.getElem?_cons_zero, Option.bind_some, Option.map_some]) | (refine awp_region_draw (nt := 32) (id := 2) tabOk [(0, true, false), (1, true, false), (2, true, false), (3, true, false), (4, true, false), (5, true, false), (6, true, false), (7, true, false), (8, true, false), (9, false, false)] (by kernel_rfl) rfl (by kernel_rfl) ?_; simp only [prep, pickO, List.map_cons, List.map_nil, List.getElem?_toArray, List.getElem?_cons_succ, List.getElem?_cons_zero, Option.bind_some, Option.map_some]) | ((with_reducible apply awp_cond); (focus (simp only [St.ev, St.set, upd, Nat.reduceEqDiff, reduceIte, if_false, if_true]; exact rfl)); all_goals (intro hb; first | (cases hb; done) | ((try rw [hb]); (try simp only [decide_eq_true_eq, decide_eq_false_iff_not, beq_iff_eq, bne_iff_ne, beq_eq_false_iff_ne, bne_eq_false_iff_eq, Int.not_lt, Int.not_le, Bool.not_eq_true', Bool.not_eq_false'] at hb)))) | ((with_reducible refine And.intro ?_ ?_); (focus omega)) | ((with_reducible refine And.intro ?_ ?_); (focus (exact rfl))) | ((with_reducible refine And.intro (?_ : enters Try.prog 27) ?_); (focus exact Try.call27); (refine callX_h (callH_inline tabOk Try.func27 rfl 32 rfl [.cell 6 26] rfl (Nat.le_of_ble_eq_true rfl) fun m0 hm0 hcl hlt => ?_)); simp only [initT, St.ev, St.set, upd, Nat.reduceEqDiff, reduceIte, if_false, if_true]) | (refine aStoreAll_ints (by simp only [St.ev, St.set, upd, Nat.reduceEqDiff, reduceIte, if_false, if_true]; exact rfl) ?_ ?_ ?_ ?_; (focus (first | rfl | omega | (simp; done) | (simp; omega) | (simp [szOf, tab]; done) | (simp [szOf, tab]; omega))); (focus (first | rfl | omega | (simp; done) | (simp; omega) | (simp [szOf, tab]; done) | (simp [szOf, tab]; omega))); (focus (first | rfl | omega | (simp; done) | (simp; omega) | (simp [szOf, tab]; done) | (simp [szOf, tab]; omega))); (try simp only [go_sem, Nat.reduceAdd, Nat.reduceMul, Nat.reduceEqDiff, Nat.reduceLT, reduceIte, reduceCtorEq])) | (simp only [doneH]; simp only [ressK, resK, wrapR, go_sem, Nat.reduceAdd, Nat.reduceMul, Nat.reduceEqDiff, Nat.reduceLT, reduceIte, reduceCtorEq]) | (refine aStoreAll_cells (by simp only [St.ev, St.set, upd, Nat.reduceEqDiff, reduceIte, if_false, if_true]; exact rfl) ?_ ?_ ?_ ?_ ?_; (focus (first | rfl | omega | (simp; done) | (simp; omega) | (simp [szOf, tab]; done) | (simp [szOf, tab]; omega))); (focus (first | rfl | omega | (simp; done) | (simp; omega) | (simp [szOf, tab]; done) | (simp [szOf, tab]; omega))); (focus (first | rfl | omega | (simp; done) | (simp; omega) | (simp [szOf, tab]; done) | (simp [szOf, tab]; omega))); (focus (first | rfl | (simp [AV.cell, Value.oneCell']; done))); (try simp only [go_sem, Nat.reduceAdd, Nat.reduceMul, Nat.reduceEqDiff, Nat.reduceLT, reduceIte, reduceCtorEq])) | (with_reducible refine And.intro (fun hb => ?_) (fun hb => ?_)) | (exfalso; omega) | fail)
    exact hQ
    done)
  all_goals (
    have hx := hend (by omega)
    subst hx
    refine awp_weaken (s' := ⟨upd bot 6 (.ref 6 0), upd (upd h 4 (some ⟨true, .ints .i64 zs⟩)) 6 (some ⟨true, .cells [.sl 4 0 ys.length 1 none, .val (.int .i64 (b)), .val (.int .i64 c)]⟩), 7⟩) ?_ ?_
    · (apply Wk.over (fun o => if o = 6 then 7 else o) 6; (case' h2 => (focus ((repeat' (first | (with_reducible exact HeapX.bot) | (exact HeapX.base (by first | exact hcl | assumption) (by first | exact Nat.le_refl _ | omega | (simp only; omega)) (fun k hk => by first | rfl | (simp only [id]; done) | (rw [if_neg (by omega)])) (by intro u hu hlt'; first | rfl | (simp only [List.mem_cons, List.not_mem_nil, or_false, not_or] at hu; first | (simp [upd, hu]; done) | (simp only [upd]; (repeat rw [if_neg (by omega)]))))) | (with_reducible (apply HeapX.skip; (case hx => (simp; done)))) | (with_reducible apply HeapX.none) | (with_reducible apply HeapX.old (by first | assumption | omega) (by first | exact Nat.le_refl _ | omega | (simp only; omega)) (by first | rfl | (simp only [id]; done) | (rw [if_neg (by omega)]))) | (with_reducible apply HeapX.upd))); all_goals (first | rfl | omega | assumption | exact Nat.le_of_ble_eq_true rfl | (simp only [St.set, St.ev, upd, ren, renL, id, Nat.reduceEqDiff, reduceIte]; rfl) | (simp only [St.set, St.ev, upd, ren, renL, id, Nat.reduceEqDiff, reduceIte, ContLe]; done) | (first | (simp only [St.set, St.ev, upd, ren, renL, id, Nat.reduceEqDiff, reduceIte]; exact contLe_nil) | ((repeat' (first | exact contLe_nil | refine contLe_cons (.inr ⟨?_, rfl⟩) ?_)); all_goals (first | rfl | (simp only [St.set, St.ev, upd, ren, renL, id, Nat.reduceEqDiff, reduceIte]; done) | ((try simp only [St.set, St.ev, upd, ren, renL, id, Nat.reduceEqDiff, reduceIte]); first | (with_reducible exact av_int (by omega)) | (with_reducible exact av_sl (by first | omega | (simp; done) | (simp; omega)) (by first | omega | (simp; done) | (simp; omega)))) | (simp only [St.set, St.ev, upd, ren, renL, id, Nat.reduceEqDiff, reduceIte, Int.natCast_add, Int.natCast_one, Int.cast_ofNat_Int, Int.natCast_zero]; done) | (simp only [St.set, St.ev, upd, ren, renL, id, Nat.reduceEqDiff, reduceIte]) | skip); done)) | (simp only [St.set, St.ev, upd, ren, renL, id, Nat.reduceEqDiff, reduceIte, ContLe]) | skip)))); (case' h1 => (focus ((repeat' (with_reducible first | exact TmpLe.bot | refine TmpLe.upd ?_ (by first | rfl | (simp only [AV.lt, decide_eq_true_eq]; first | done | omega)) ?_)); all_goals (first | rfl | (simp only [St.set, St.ev, upd, ren, renL, id, Nat.reduceEqDiff, reduceIte]; done) | ((try simp only [St.set, St.ev, upd, ren, renL, id, Nat.reduceEqDiff, reduceIte]); first | (with_reducible exact av_int (by omega)) | (with_reducible exact av_sl (by first | omega | (simp; done) | (simp; omega)) (by first | omega | (simp; done) | (simp; omega)))) | (simp only [St.set, St.ev, upd, ren, renL, id, Nat.reduceEqDiff, reduceIte, Int.natCast_add, Int.natCast_one, Int.cast_ofNat_Int, Int.natCast_zero]; done) | (simp only [St.set, St.ev, upd, ren, renL, id, Nat.reduceEqDiff, reduceIte]) | skip)))); (case h3 => (focus (first | (simp only [id, List.map_cons, List.map_nil]; decide) | decide))); (case h5 => (intro d hd; first | (simp at hd; done) | (simp only [List.mem_cons, List.not_mem_nil, or_false] at hd; first | (simp only [id]; omega) | (split <;> omega) | ((try simp only); repeat' split; all_goals omega)))); (case h4 => (intro o l h; first | (cases h; done) | (have hlt0 := m0_lt (by assumption) h; first | omega | (simp only; omega) | exact ⟨by (first | rfl | (simp only [id]; done) | (rw [if_neg (by omega)])), by first | omega | (simp only; omega)⟩))))
    repeat' (first | refine awp_seq_k fun K hK => ?_ | ((with_reducible refine hK _ ?_); clear hK K) | (clear hK K; (with_reducible refine hK _ ?_); clear hK K) | (clear hK K; clear hK K; (with_reducible refine hK _ ?_); clear hK K) | (clear hK K; clear hK K; clear hK K; (with_reducible refine hK _ ?_); clear hK K) | (clear hK K; clear hK K; clear hK K; clear hK K; (with_reducible refine hK _ ?_); clear hK K) | (clear hK K; clear hK K; clear hK K; clear hK K; clear hK K; (with_reducible refine hK _ ?_); clear hK K) | ((with_reducible refine aord_plain fun K hK => ?_); simp only [go_sem, Nat.reduceAdd, Nat.reduceMul, Nat.reduceEqDiff, Nat.reduceLT, reduceIte, reduceCtorEq, h4]) | refine awp_block ?_ | ((first | with_reducible refine aord_nil ?_ | refine awp_skip ?_ | refine awp_exit ?_ | refine awp_ret ?_); try simp only [thenA_normal, thenA_exit, thenA_goto, thenA_ret, blockA_normal, blockA_same, blockA_exit, blockA_goto, blockA_ret, Nat.reduceEqDiff, if_false, if_true, reduceIte]) | (refine awp_region tabOk rfl ?_; simp only [prep, pickO, List.map_cons, List.map_nil, List.getElem?_toArray, List.getElem?_cons_succ, List.getElem?_cons_zero, Option.bind_some, Option.map_some]) | (refine awp_region_draw (nt := 59) (id := 5) tabOk [(0, true, false), (1, true, false), (2, true, false), (3, true, false), (4, true, false), (5, true, false), (6, true, false), (7, true, false), (8, true, false), (9, true, false), (10, true, false), (11, true, false)] (by kernel_rfl) rfl (by kernel_rfl) ?_; simp only [prep, pickO, List.map_cons, List.map_nil, List.getElem?_toArray, List.getElem?_cons_succ, List.getElem?_cons_zero, Option.bind_some, Option.map_some]) | (refine awp_region_draw (nt := 59) (id := 8) tabOk [(0, true, false), (1, true, false), (2, true, false), (3, true, false), (4, true, false), (5, true, false), (6, true, false), (7, true, false), (8, true, false), (9, true, false), (10, true, false)] (by kernel_rfl) rfl (by kernel_rfl) ?_; simp only [prep, pickO, List.map_cons, List.map_nil, List.getElem?_toArray, List.getElem?_cons_succ, List.getElem?_cons_zero, Option.bind_some, Option.map_some]) | (refine awp_region_draw (nt := 32) (id := 2) tabOk [(0, true, false), (1, true, false), (2, true, false), (3, true, false), (4, true, false), (5, true, false), (6, true, false), (7, true, false), (8, true, false), (9, false, false)] (by kernel_rfl) rfl (by kernel_rfl) ?_; simp only [prep, pickO, List.map_cons, List.map_nil, List.getElem?_toArray, List.getElem?_cons_succ, List.getElem?_cons_zero, Option.bind_some, Option.map_some]) | ((with_reducible apply awp_cond); (focus (simp only [St.ev, St.set, upd, Nat.reduceEqDiff, reduceIte, if_false, if_true]; exact rfl)); all_goals (intro hb; first | (cases hb; done) | ((try rw [hb]); (try simp only [decide_eq_true_eq, decide_eq_false_iff_not, beq_iff_eq, bne_iff_ne, beq_eq_false_iff_ne, bne_eq_false_iff_eq, Int.not_lt, Int.not_le, Bool.not_eq_true', Bool.not_eq_false'] at hb)))) | ((with_reducible refine And.intro ?_ ?_); (focus omega)) | ((with_reducible refine And.intro ?_ ?_); (focus (exact rfl))) | ((with_reducible refine And.intro (?_ : enters Try.prog 27) ?_); (focus exact Try.call27); (refine callX_h (callH_inline tabOk Try.func27 rfl 32 rfl [.cell 6 26] rfl (Nat.le_of_ble_eq_true rfl) fun m0 hm0 hcl hlt => ?_)); simp only [initT, St.ev, St.set, upd, Nat.reduceEqDiff, reduceIte, if_false, if_true]) | (refine aStoreAll_ints (by simp only [St.ev, St.set, upd, Nat.reduceEqDiff, reduceIte, if_false, if_true]; exact rfl) ?_ ?_ ?_ ?_; (focus (first | rfl | omega | (simp; done) | (simp; omega) | (simp [szOf, tab]; done) | (simp [szOf, tab]; omega))); (focus (first | rfl | omega | (simp; done) | (simp; omega) | (simp [szOf, tab]; done) | (simp [szOf, tab]; omega))); (focus (first | rfl | omega | (simp; done) | (simp; omega) | (simp [szOf, tab]; done) | (simp [szOf, tab]; omega))); (try simp only [go_sem, Nat.reduceAdd, Nat.reduceMul, Nat.reduceEqDiff, Nat.reduceLT, reduceIte, reduceCtorEq])) | (simp only [doneH]; simp only [ressK, resK, wrapR, go_sem, Nat.reduceAdd, Nat.reduceMul, Nat.reduceEqDiff, Nat.reduceLT, reduceIte, reduceCtorEq]) | (refine aStoreAll_cells (by simp only [St.ev, St.set, upd, Nat.reduceEqDiff, reduceIte, if_false, if_true]; exact rfl) ?_ ?_ ?_ ?_ ?_; (focus (first | rfl | omega | (simp; done) | (simp; omega) | (simp [szOf, tab]; done) | (simp [szOf, tab]; omega))); (focus (first | rfl | omega | (simp; done) | (simp; omega) | (simp [szOf, tab]; done) | (simp [szOf, tab]; omega))); (focus (first | rfl | omega | (simp; done) | (simp; omega) | (simp [szOf, tab]; done) | (simp [szOf, tab]; omega))); (focus (first | rfl | (simp [AV.cell, Value.oneCell']; done))); (try simp only [go_sem, Nat.reduceAdd, Nat.reduceMul, Nat.reduceEqDiff, Nat.reduceLT, reduceIte, reduceCtorEq])) | (with_reducible refine And.intro (fun hb => ?_) (fun hb => ?_)) | (exfalso; omega) | fail)
    exact hQ
    done)

theorem isRegE {P : Program} {Γ : Ctx} {Q : Exit → St → Prop} {s : St} {ops : Array Oper} {b : Bool} (nt id : Nat) (h : AWP Γ nt P (.region id ops b) Q s) : AWP Γ nt P (.region id ops b) Q s := h
theorem sink_in {n : Nat} : ∀ (f i : Nat) (ys : List Int) (a m : Int), n ≤ i + f → a ≤ (sinkIn n i ys a m).2.1 ∧ (sinkIn n i ys a m).2.1 ≤ a + 2 * f + 2 ∧ m ≤ (sinkIn n i ys a m).2.2 ∧ (sinkIn n i ys a m).2.2 ≤ m + f
  | f, i, ys, a, m, hf => by
    by_cases h1 : 2 * i + 1 < n
    · have hk := skK_in n i ys h1
      have hA : a ≤ skA n i a ∧ skA n i a ≤ a + 1 := by unfold skA; split <;> omega
      rcases Int.lt_or_le (ys.getD i 0) (ys.getD (skK n i ys) 0) with h2 | h2
      · rw [← sink_go h1 rfl rfl h2]
        cases f with
        | zero => omega
        | succ f =>
          have := sink_in (n := n) f (skK n i ys) (swp ys i (skK n i ys)) (skA n i a + 1) (m + 1) (by omega)
          omega
      · rw [sink_stop h1 rfl rfl h2]
        exact ⟨by simp only; omega, by simp only; omega, by simp only; omega, by simp only; omega⟩
    · rw [sink_end (by omega)]
      exact ⟨by simp only; omega, by simp only; omega, by simp only; omega, by simp only; omega⟩


end Go.Proofs.Ytlplgoikgjjkaaa
