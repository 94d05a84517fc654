/- Contracts of functions of the program. -/
import Derived.Test.YtblnbbjlaonpgaaTab
import Derived.ScopeJumps
namespace Go.Proofs.Ytblnbbjlaonpgaa
open Go Go.Ab
set_option linter.all false
set_option maxHeartbeats 4000000
attribute [go_sem] AV.parts List.length_set List.set_cons_zero List.set_cons_succ List.getElem?_cons_zero List.getElem?_cons_succ Option.any_some Nat.lt_add_one tab List.nil_append List.append_nil

theorem getD_set_same {α : Type} {l : List α} {i : Nat} {a d : α} (h : i < l.length) : (l.set i a).getD i d = a := by simp [List.getD_eq_getElem?_getD, h]
theorem getD_set_ne' {α : Type} {l : List α} {i j : Nat} {a d : α} (h : i ≠ j) : (l.set i a).getD j d = l.getD j d := by simp [List.getD_eq_getElem?_getD, List.getElem?_set_ne h]
theorem ext_getD {l m : List Int} (h : l.length = m.length) (hh : ∀ j, j < l.length → l.getD j 0 = m.getD j 0) : l = m := by
  apply List.ext_getElem h
  intro j h1 h2
  have := hh j h1
  simpa [List.getD_eq_getElem?_getD, h1, h2] using this


theorem eqIntS_sat : Sat Try.prog 7 (fun ds Q => ∃ xs ys, ds = [.row (.ints .i64 xs), .row (.ints .i64 ys)] ∧ xs.length ≤ 1099511627776 ∧ ys.length ≤ 1099511627776 ∧ Q (.val (.bool (decide (xs = ys))))) := by
  refine sat_intro tabOk Try.func7 rfl 26 rfl [.tmp 4] rfl ?_
  rintro ds Q W ⟨xs, ys, rfl, hlx, hly, hQ⟩
  refine ⟨Nat.le_of_ble_eq_true rfl, ?_⟩
  simp only [initS, initT, mat.matL, mat, Cont.len]
  repeat' (first | refine awp_seq_k fun K hK => ?_ | ((with_reducible refine hK _ ?_); clear hK K) | (clear hK K; (with_reducible refine hK _ ?_); clear hK K) | (clear hK K; clear hK K; (with_reducible refine hK _ ?_); clear hK K) | (clear hK K; clear hK K; clear hK K; (with_reducible refine hK _ ?_); clear hK K) | (clear hK K; clear hK K; clear hK K; clear hK K; (with_reducible refine hK _ ?_); clear hK K) | (clear hK K; clear hK K; clear hK K; clear hK K; clear hK K; (with_reducible refine hK _ ?_); clear hK K) | ((with_reducible refine aord_plain fun K hK => ?_); simp only [go_sem, Nat.reduceAdd, Nat.reduceMul, Nat.reduceEqDiff, Nat.reduceLT, reduceIte, reduceCtorEq]) | refine awp_block ?_ | ((first | with_reducible refine aord_nil ?_ | refine awp_skip ?_ | refine awp_exit ?_ | refine awp_ret ?_); try simp only [thenA_normal, thenA_exit, thenA_goto, thenA_ret, blockA_normal, blockA_same, blockA_exit, blockA_goto, blockA_ret, Nat.reduceEqDiff, if_false, if_true, reduceIte]) | (refine awp_region tabOk rfl ?_; simp only [prep, pickO, List.map_cons, List.map_nil, List.getElem?_toArray, List.getElem?_cons_succ, List.getElem?_cons_zero, Option.bind_some, Option.map_some]) | (refine awp_region_draw (nt := 26) (id := 6) tabOk [(0, true, false), (1, true, false), (2, true, false), (3, true, false), (4, true, false), (5, true, false), (6, true, false), (7, true, false), (8, true, false)] (by kernel_rfl) rfl (by kernel_rfl) ?_; simp only [prep, pickO, List.map_cons, List.map_nil, List.getElem?_toArray, List.getElem?_cons_succ, List.getElem?_cons_zero, Option.bind_some, Option.map_some]) | ((with_reducible apply awp_cond); (focus (simp only [St.ev, St.set, upd, Nat.reduceEqDiff, reduceIte, if_false, if_true]; exact rfl)); all_goals (intro hb; first | (cases hb; done) | ((try rw [hb]); (try simp only [decide_eq_true_eq, decide_eq_false_iff_not, beq_iff_eq, bne_iff_ne, beq_eq_false_iff_ne, bne_eq_false_iff_eq, Int.not_lt, Int.not_le, Bool.not_eq_true', Bool.not_eq_false'] at hb)))) | ((with_reducible refine And.intro ?_ ?_); (focus omega)) | ((with_reducible refine And.intro ?_ ?_); (focus (exact rfl))) | (with_reducible refine And.intro (fun hb => ?_) (fun hb => ?_)) | (exfalso; omega) | fail)
  · simp only [St.set, St.ev, doneQ, doneH, ressK, resK, wrapR, AV.ids, AV.idsL, retK, retsK, upd, Nat.reduceEqDiff, reduceIte, if_false, if_true, List.nodup_nil, List.nodup_cons, List.not_mem_nil, not_false_eq_true, true_and, and_true, exists_eq_left', Option.some.injEq, rLoad, cellOf, tab, Ty.isAgg, Ty.one, Bool.false_eq_true]
    have : decide (xs = ys) = false := decide_eq_false (fun h => hb (by rw [h]))
    rw [this] at hQ
    exact hQ
  · have hlen : ys.length = xs.length := by omega
    refine awp_loop (fun i : Nat => ⟨upd (upd (upd bot 5 (.val (.int .i64 i))) 1 (.sl 1 0 ys.length 1 none)) 0 (.sl 0 0 xs.length 1 none), upd (upd none' 0 (some ⟨false, .ints .i64 xs⟩)) 1 (some ⟨false, .ints .i64 ys⟩), 2⟩) (fun i => i ≤ xs.length ∧ ∀ j, j < i → xs.getD j 0 = ys.getD j 0) (fun i => xs.length - i) 0 ⟨by omega, by omega⟩ ?_ ?_
    · (apply Wk.same; (case' h2 => (focus ((repeat' (with_reducible first | exact HeapX.bot | (apply HeapX.skip; (case hx => (simp; done))) | apply HeapX.none | apply HeapX.upd)); all_goals (first | rfl | exact Nat.le_of_ble_eq_true rfl | (simp only [St.set, St.ev, upd, ren, renL, id, Nat.reduceEqDiff, reduceIte, ContLe]; done) | (exact And.intro rfl (And.intro (by first | exact Nat.le_of_ble_eq_true rfl | omega) (by first | exact Nat.le_of_ble_eq_true rfl | omega))) | (first | (simp only [St.set, St.ev, upd, ren, renL, id, Nat.reduceEqDiff, reduceIte]; exact contLe_nil) | ((repeat' (first | exact contLe_nil | refine contLe_cons (.inr ⟨?_, rfl⟩) ?_)); all_goals (first | rfl | (simp only [St.set, St.ev, upd, ren, renL, id, Nat.reduceEqDiff, reduceIte]; done) | ((try simp only [St.set, St.ev, upd, ren, renL, id, Nat.reduceEqDiff, reduceIte]); first | (with_reducible exact av_int (by omega)) | (with_reducible exact av_sl (by first | omega | (simp; done) | (simp; omega)) (by first | omega | (simp; done) | (simp; omega)))) | (simp only [St.set, St.ev, upd, ren, renL, id, Nat.reduceEqDiff, reduceIte, Int.natCast_add, Int.natCast_one, Int.cast_ofNat_Int, Int.natCast_zero]; done) | (simp only [St.set, St.ev, upd, ren, renL, id, Nat.reduceEqDiff, reduceIte]) | skip); done)) | (simp only [St.set, St.ev, upd, ren, renL, id, Nat.reduceEqDiff, reduceIte, ContLe]) | skip)))); (case' h1 => (focus ((repeat' (with_reducible first | exact TmpLe.bot | refine TmpLe.upd ?_ rfl ?_)); all_goals (first | rfl | (simp only [St.set, St.ev, upd, ren, renL, id, Nat.reduceEqDiff, reduceIte]; done) | ((try simp only [St.set, St.ev, upd, ren, renL, id, Nat.reduceEqDiff, reduceIte]); first | (with_reducible exact av_int (by omega)) | (with_reducible exact av_sl (by first | omega | (simp; done) | (simp; omega)) (by first | omega | (simp; done) | (simp; omega)))) | (simp only [St.set, St.ev, upd, ren, renL, id, Nat.reduceEqDiff, reduceIte, Int.natCast_add, Int.natCast_one, Int.cast_ofNat_Int, Int.natCast_zero]; done) | (simp only [St.set, St.ev, upd, ren, renL, id, Nat.reduceEqDiff, reduceIte]) | skip)))); (case h3 => (focus (first | (simp only [id, List.map_cons, List.map_nil]; decide) | decide | (simp; done) | (simp; omega) | fail))); (case h4 => (intro o l h; first | (cases h; done) | (have hlt0 := m0_lt (by assumption) h; (try (simp only at hlt0)); first | omega | (simp only; omega) | exact ⟨by (first | rfl | (simp only [id]; done) | ((repeat rw [if_neg (by omega)]); done)), by first | omega | (simp only; omega)⟩))))
    · rintro i ⟨hi, hj⟩
      repeat' (first | refine awp_seq_k fun K hK => ?_ | ((with_reducible refine hK _ ?_); clear hK K) | (clear hK K; (with_reducible refine hK _ ?_); clear hK K) | (clear hK K; clear hK K; (with_reducible refine hK _ ?_); clear hK K) | (clear hK K; clear hK K; clear hK K; (with_reducible refine hK _ ?_); clear hK K) | (clear hK K; clear hK K; clear hK K; clear hK K; (with_reducible refine hK _ ?_); clear hK K) | (clear hK K; clear hK K; clear hK K; clear hK K; clear hK K; (with_reducible refine hK _ ?_); clear hK K) | ((with_reducible refine aord_plain fun K hK => ?_); simp only [go_sem, Nat.reduceAdd, Nat.reduceMul, Nat.reduceEqDiff, Nat.reduceLT, reduceIte, reduceCtorEq]) | refine awp_block ?_ | ((first | with_reducible refine aord_nil ?_ | refine awp_skip ?_ | refine awp_exit ?_ | refine awp_ret ?_); try simp only [thenA_normal, thenA_exit, thenA_goto, thenA_ret, blockA_normal, blockA_same, blockA_exit, blockA_goto, blockA_ret, Nat.reduceEqDiff, if_false, if_true, reduceIte]) | (refine awp_region tabOk rfl ?_; simp only [prep, pickO, List.map_cons, List.map_nil, List.getElem?_toArray, List.getElem?_cons_succ, List.getElem?_cons_zero, Option.bind_some, Option.map_some]) | (refine awp_region_draw (nt := 26) (id := 6) tabOk [(0, true, false), (1, true, false), (2, true, false), (3, true, false), (4, true, false), (5, true, false), (6, true, false), (7, true, false), (8, true, false)] (by kernel_rfl) rfl (by kernel_rfl) ?_; simp only [prep, pickO, List.map_cons, List.map_nil, List.getElem?_toArray, List.getElem?_cons_succ, List.getElem?_cons_zero, Option.bind_some, Option.map_some]) | ((with_reducible apply awp_cond); (focus (simp only [St.ev, St.set, upd, Nat.reduceEqDiff, reduceIte, if_false, if_true]; exact rfl)); all_goals (intro hb; first | (cases hb; done) | ((try rw [hb]); (try simp only [decide_eq_true_eq, decide_eq_false_iff_not, beq_iff_eq, bne_iff_ne, beq_eq_false_iff_ne, bne_eq_false_iff_eq, Int.not_lt, Int.not_le, Bool.not_eq_true', Bool.not_eq_false'] at hb)))) | ((with_reducible refine And.intro ?_ ?_); (focus omega)) | ((with_reducible refine And.intro ?_ ?_); (focus (exact rfl))) | (with_reducible refine And.intro (fun hb => ?_) (fun hb => ?_)) | (exfalso; omega) | fail)
      · simp only [St.set, St.ev, doneQ, doneH, ressK, resK, wrapR, AV.ids, AV.idsL, retK, retsK, upd, Nat.reduceEqDiff, reduceIte, if_false, if_true, List.nodup_nil, List.nodup_cons, List.not_mem_nil, not_false_eq_true, true_and, and_true, exists_eq_left', Option.some.injEq, rLoad, cellOf, tab, Ty.isAgg, Ty.one, Bool.false_eq_true]
        have : decide (xs = ys) = false := decide_eq_false (fun h => hb (by rw [h]))
        rw [this] at hQ
        exact hQ
      · refine ⟨i + 1, ⟨by omega, fun j h => ?_⟩, by omega, ?_⟩
        · rcases Nat.lt_or_ge j i with h1 | h1
          · exact hj j h1
          · have : j = i := by omega
            subst this
            exact hb
        · (apply Wk.same; (case' h2 => (focus ((repeat' (with_reducible first | exact HeapX.bot | (apply HeapX.skip; (case hx => (simp; done))) | apply HeapX.none | apply HeapX.upd)); all_goals (first | rfl | exact Nat.le_of_ble_eq_true rfl | (simp only [St.set, St.ev, upd, ren, renL, id, Nat.reduceEqDiff, reduceIte, ContLe]; done) | (exact And.intro rfl (And.intro (by first | exact Nat.le_of_ble_eq_true rfl | omega) (by first | exact Nat.le_of_ble_eq_true rfl | omega))) | (first | (simp only [St.set, St.ev, upd, ren, renL, id, Nat.reduceEqDiff, reduceIte]; exact contLe_nil) | ((repeat' (first | exact contLe_nil | refine contLe_cons (.inr ⟨?_, rfl⟩) ?_)); all_goals (first | rfl | (simp only [St.set, St.ev, upd, ren, renL, id, Nat.reduceEqDiff, reduceIte]; done) | ((try simp only [St.set, St.ev, upd, ren, renL, id, Nat.reduceEqDiff, reduceIte]); first | (with_reducible exact av_int (by omega)) | (with_reducible exact av_sl (by first | omega | (simp; done) | (simp; omega)) (by first | omega | (simp; done) | (simp; omega)))) | (simp only [St.set, St.ev, upd, ren, renL, id, Nat.reduceEqDiff, reduceIte, Int.natCast_add, Int.natCast_one, Int.cast_ofNat_Int, Int.natCast_zero]; done) | (simp only [St.set, St.ev, upd, ren, renL, id, Nat.reduceEqDiff, reduceIte]) | skip); done)) | (simp only [St.set, St.ev, upd, ren, renL, id, Nat.reduceEqDiff, reduceIte, ContLe]) | skip)))); (case' h1 => (focus ((repeat' (with_reducible first | exact TmpLe.bot | refine TmpLe.upd ?_ rfl ?_)); all_goals (first | rfl | (simp only [St.set, St.ev, upd, ren, renL, id, Nat.reduceEqDiff, reduceIte]; done) | ((try simp only [St.set, St.ev, upd, ren, renL, id, Nat.reduceEqDiff, reduceIte]); first | (with_reducible exact av_int (by omega)) | (with_reducible exact av_sl (by first | omega | (simp; done) | (simp; omega)) (by first | omega | (simp; done) | (simp; omega)))) | (simp only [St.set, St.ev, upd, ren, renL, id, Nat.reduceEqDiff, reduceIte, Int.natCast_add, Int.natCast_one, Int.cast_ofNat_Int, Int.natCast_zero]; done) | (simp only [St.set, St.ev, upd, ren, renL, id, Nat.reduceEqDiff, reduceIte]) | skip)))); (case h3 => (focus (first | (simp only [id, List.map_cons, List.map_nil]; decide) | decide | (simp; done) | (simp; omega) | fail))); (case h4 => (intro o l h; first | (cases h; done) | (have hlt0 := m0_lt (by assumption) h; (try (simp only at hlt0)); first | omega | (simp only; omega) | exact ⟨by (first | rfl | (simp only [id]; done) | ((repeat rw [if_neg (by omega)]); done)), by first | omega | (simp only; omega)⟩))))
      · simp only [St.set, St.ev, doneQ, doneH, ressK, resK, wrapR, AV.ids, AV.idsL, retK, retsK, upd, Nat.reduceEqDiff, reduceIte, if_false, if_true, List.nodup_nil, List.nodup_cons, List.not_mem_nil, not_false_eq_true, true_and, and_true, exists_eq_left', Option.some.injEq, rLoad, cellOf, tab, Ty.isAgg, Ty.one, Bool.false_eq_true]
        have : decide (xs = ys) = true := decide_eq_true (ext_getD hlen.symm fun j h => hj j (by omega))
        rw [this] at hQ
        exact hQ


/-- How many of the first k places hold a key less than that of place i, or an equal one and are ahead of it. -/
def plC (xs : List Int) (i : Nat) : Nat → Int
  | 0 => 0
  | k + 1 => plC xs i k + (if xs.getD k 0 < xs.getD i 0 ∨ (xs.getD k 0 = xs.getD i 0 ∧ k < i) then 1 else 0)
def placesL (xs : List Int) : List Int := (List.range xs.length).map fun i => plC xs i xs.length
theorem plC_nonneg (xs : List Int) (i : Nat) : ∀ k, 0 ≤ plC xs i k
  | 0 => Int.le_refl 0
  | k + 1 => by have := plC_nonneg xs i k; rw [plC]; split <;> omega
theorem plC_le (xs : List Int) (i : Nat) : ∀ k, plC xs i k ≤ k
  | 0 => Int.le_refl 0
  | k + 1 => by have := plC_le xs i k; rw [plC]; split <;> omega
theorem plC_own (xs : List Int) (i : Nat) : ∀ k, i < k → plC xs i k + 1 ≤ k
  | k + 1, h => by
    rw [plC]
    rcases Nat.lt_or_ge i k with h1 | h1
    · have := plC_own xs i k h1; split <;> omega
    · have e : k = i := by omega
      subst e
      have := plC_le xs k k
      rw [if_neg (by omega)]
      omega
theorem plC_up {xs : List Int} {i k : Nat} (h : xs.getD k 0 < xs.getD i 0 ∨ (xs.getD k 0 = xs.getD i 0 ∧ k < i)) : plC xs i (k + 1) = plC xs i k + 1 := by rw [plC, if_pos h]
theorem plC_stay {xs : List Int} {i k : Nat} (h : ¬ (xs.getD k 0 < xs.getD i 0 ∨ (xs.getD k 0 = xs.getD i 0 ∧ k < i))) : plC xs i (k + 1) = plC xs i k := by rw [plC, if_neg h]; omega
theorem placesL_len (xs : List Int) : (placesL xs).length = xs.length := by simp [placesL]
theorem placesL_get {xs : List Int} {i : Nat} (h : i < xs.length) : (placesL xs).getD i 0 = plC xs i xs.length := by
  rw [List.getD_eq_getElem?_getD, List.getElem?_eq_getElem (by rw [placesL_len]; exact h)]
  simp [placesL]
theorem getD_app_lo {l m : List Int} {i : Nat} (h : i < l.length) : (l ++ m).getD i 0 = l.getD i 0 := by
  simp [List.getD_eq_getElem?_getD, List.getElem?_append_left h]
theorem getD_app_at {l : List Int} {a : Int} {i : Nat} (h : i = l.length) : (l ++ [a]).getD i 0 = a := by
  subst h; simp [List.getD_eq_getElem?_getD]


/-- The numbers that are laid into a list, from k on. -/
def marks (k : Int) (m : Nat) : List Int := (List.range m).map fun i => k + Int.ofNat i
theorem marks_len (k : Int) (m : Nat) : (marks k m).length = m := by simp [marks]
theorem marks_get {k : Int} {m i : Nat} (h : i < m) : (marks k m).getD i 0 = k + i := by
  rw [List.getD_eq_getElem?_getD, List.getElem?_eq_getElem (by rw [marks_len]; exact h)]
  simp [marks]

theorem set_step {ys : List Int} {f : Nat → Int} {i : Nat} {v : Int} (hi : i < ys.length) (hj : ∀ j, j < i → ys.getD j 0 = f j) (hv : v = f i) : ∀ j, j < i + 1 → (ys.set i v).getD j 0 = f j := fun j h => by
  rcases Nat.lt_or_ge j i with h1 | h1
  · rw [getD_set_ne' (by omega)]; exact hj j h1
  · rw [show j = i by omega, getD_set_same hi]; exact hv
theorem app_step {ys : List Int} {f : Nat → Int} {i : Nat} {v : Int} (hi : ys.length = i) (hj : ∀ j, j < i → ys.getD j 0 = f j) (hv : v = f i) : ∀ j, j < i + 1 → (ys ++ [v]).getD j 0 = f j := fun j h => by
  rcases Nat.lt_or_ge j i with h1 | h1
  · rw [getD_app_lo (by omega)]; exact hj j h1
  · rw [show j = i by omega, getD_app_at (by omega)]; exact hv
theorem all_step {p : Nat → Prop} {i : Nat} (hj : ∀ j, j < i → p j) (hv : p i) : ∀ j, j < i + 1 → p j := fun j h => by
  rcases Nat.lt_or_ge j i with h1 | h1
  · exact hj j h1
  · rw [show j = i by omega]; exact hv


theorem markIntS_sat : SatH Try.prog 8 (fun al h n K => ∃ (o len : Nat) (xs : List Int) (k : Int), al = [.sl o 0 len 1 none, .val (.int .i64 (k))] ∧ (h o = some ⟨true, .ints .i64 xs⟩) ∧ (len = xs.length) ∧ (0 ≤ k ∧ k ≤ 1000 ∧ xs.length ≤ 1099511627776) ∧ K (.val (.int .i64 ((k + xs.length)))) (upd h o (some ⟨true, .ints .i64 (marks k xs.length)⟩)) (n)) := by
  refine satH_intro tabOk Try.func8 rfl 19 rfl [.tmp 4] rfl ?_
  rintro F W h n al K0 ⟨o, len, xs, k, rfl, ho, hlx, hk, hQ⟩
  refine ⟨Nat.le_of_ble_eq_true rfl, fun m0 hm0 hcl hlt => ?_⟩
  simp only [initT]
  have hon := (hcl o _ ho).1
  subst hlx
  repeat' (first | refine awp_seq_k fun K hK => ?_ | ((with_reducible refine hK _ ?_); clear hK K) | (clear hK K; (with_reducible refine hK _ ?_); clear hK K) | (clear hK K; clear hK K; (with_reducible refine hK _ ?_); clear hK K) | (clear hK K; clear hK K; clear hK K; (with_reducible refine hK _ ?_); clear hK K) | (clear hK K; clear hK K; clear hK K; clear hK K; (with_reducible refine hK _ ?_); clear hK K) | (clear hK K; clear hK K; clear hK K; clear hK K; clear hK K; (with_reducible refine hK _ ?_); clear hK K) | ((with_reducible refine aord_plain fun K hK => ?_); simp only [go_sem, Nat.reduceAdd, Nat.reduceMul, Nat.reduceEqDiff, Nat.reduceLT, reduceIte, reduceCtorEq]) | refine awp_block ?_ | ((first | with_reducible refine aord_nil ?_ | refine awp_skip ?_ | refine awp_exit ?_ | refine awp_ret ?_); try simp only [thenA_normal, thenA_exit, thenA_goto, thenA_ret, blockA_normal, blockA_same, blockA_exit, blockA_goto, blockA_ret, Nat.reduceEqDiff, if_false, if_true, reduceIte]) | (refine awp_region tabOk rfl ?_; simp only [prep, pickO, List.map_cons, List.map_nil, List.getElem?_toArray, List.getElem?_cons_succ, List.getElem?_cons_zero, Option.bind_some, Option.map_some]) | ((with_reducible apply awp_cond); (focus (simp only [St.ev, St.set, upd, Nat.reduceEqDiff, reduceIte, if_false, if_true]; exact rfl)); all_goals (intro hb; first | (cases hb; done) | ((try rw [hb]); (try simp only [decide_eq_true_eq, decide_eq_false_iff_not, beq_iff_eq, bne_iff_ne, beq_eq_false_iff_ne, bne_eq_false_iff_eq, Int.not_lt, Int.not_le, Bool.not_eq_true', Bool.not_eq_false'] at hb)))) | ((with_reducible refine And.intro ?_ ?_); (focus omega)) | ((with_reducible refine And.intro ?_ ?_); (focus (exact rfl))) | (refine aStoreAll_ints (by simp only [St.ev, St.set, upd, Nat.reduceEqDiff, reduceIte, if_false, if_true]; exact rfl) ?_ ?_ ?_ ?_; (focus (first | rfl | omega | (simp; done) | (simp; omega) | (simp [szOf, tab]; done) | (simp [szOf, tab]; omega))); (focus (first | rfl | omega | (simp; done) | (simp; omega) | (simp [szOf, tab]; done) | (simp [szOf, tab]; omega))); (focus (first | rfl | omega | (simp; done) | (simp; omega) | (simp [szOf, tab]; done) | (simp [szOf, tab]; omega))); (try simp only [go_sem, Nat.reduceAdd, Nat.reduceMul, Nat.reduceEqDiff, Nat.reduceLT, reduceIte, reduceCtorEq])) | (simp only [doneH]; simp only [ressK, resK, wrapR, go_sem, Nat.reduceAdd, Nat.reduceMul, Nat.reduceEqDiff, Nat.reduceLT, reduceIte, reduceCtorEq]) | (refine aStoreAll_cells (by simp only [St.ev, St.set, upd, Nat.reduceEqDiff, reduceIte, if_false, if_true]; exact rfl) ?_ ?_ ?_ ?_ ?_; (focus (first | rfl | omega | (simp; done) | (simp; omega) | (simp [szOf, tab]; done) | (simp [szOf, tab]; omega))); (focus (first | rfl | omega | (simp; done) | (simp; omega) | (simp [szOf, tab]; done) | (simp [szOf, tab]; omega))); (focus (first | rfl | omega | (simp; done) | (simp; omega) | (simp [szOf, tab]; done) | (simp [szOf, tab]; omega))); (focus (first | rfl | (simp [AV.cell, Value.oneCell']; done))); (try simp only [go_sem, Nat.reduceAdd, Nat.reduceMul, Nat.reduceEqDiff, Nat.reduceLT, reduceIte, reduceCtorEq])) | (with_reducible refine And.intro (fun hb => ?_) (fun hb => ?_)) | (exfalso; omega) | fail)
  refine awp_loopE (α := (Nat) × (List Int)) (fun s p => ⟨(upd (upd (upd bot 0 (s.tmps 0)) 1 (.val (.int .i64 ((k + (p.1)))))) 5 (.val (.int .i64 ((p.1))))), (upd s.heap o (some ⟨true, .ints .i64 ((p.2))⟩)), s.next⟩) _ (fun p => by simp only [St.ev, St.set, upd, Nat.reduceEqDiff, reduceIte, if_false, if_true]; exact rfl) (fun p => ((p.1) ≤ xs.length) ∧ ((p.2).length = xs.length) ∧ (∀ j, j < (p.1) → (p.2).getD j 0 = k + j)) (fun p => xs.length - (p.1)) (0, xs) ?_ ?_ ?_
  · (try simp only); (refine ⟨?_, ?_, ?_⟩ <;> (first | omega | (simp only; omega) | rfl | (simp; done) | skip))
  · (apply Wk.over (id) n; (case' h2 => (focus ((repeat' (first | (with_reducible exact HeapX.bot) | (exact HeapX.base (by first | exact hcl | assumption) (by first | exact Nat.le_refl _ | omega | (simp only; omega)) (fun k hk => by first | rfl | (simp only [id]; done) | ((repeat rw [if_neg (by omega)]); done)) (by intro u hu hlt'; first | rfl | (simp only [List.mem_cons, List.not_mem_nil, or_false, not_or] at hu; first | (simp [upd, hu]; done) | (simp only [upd]; (repeat rw [if_neg (by omega)]))))) | (with_reducible (apply HeapX.skip; (case hx => (simp; done)))) | (with_reducible apply HeapX.none) | (with_reducible apply HeapX.old (by first | assumption | omega) (by first | exact Nat.le_refl _ | omega | (simp only; omega)) (by first | rfl | (simp only [id]; done) | ((repeat rw [if_neg (by omega)]); done))) | (with_reducible apply HeapX.upd))); all_goals (first | rfl | omega | assumption | exact Nat.le_of_ble_eq_true rfl | (simp only; omega) | (simp only [St.set, St.ev, upd, ren, renL, id, Nat.reduceEqDiff, reduceIte]; rfl) | (simp only [St.set, St.ev, upd, ren, renL, id, Nat.reduceEqDiff, reduceIte, ContLe]; done) | (exact And.intro rfl (And.intro (by first | exact Nat.le_of_ble_eq_true rfl | omega) (by first | exact Nat.le_of_ble_eq_true rfl | omega))) | (first | (simp only [St.set, St.ev, upd, ren, renL, id, Nat.reduceEqDiff, reduceIte]; exact contLe_nil) | ((repeat' (first | exact contLe_nil | refine contLe_cons (.inr ⟨?_, rfl⟩) ?_ | exact contLe_refl (n0 := n) (fun k hk => by first | rfl | (simp only [id]; done) | ((repeat rw [if_neg (by omega)]); done)) (by first | exact Nat.le_refl _ | omega | (simp only; omega)) (by assumption))); all_goals (first | rfl | (simp only [St.set, St.ev, upd, ren, renL, id, Nat.reduceEqDiff, reduceIte]; done) | ((try simp only [St.set, St.ev, upd, ren, renL, id, Nat.reduceEqDiff, reduceIte]); first | (with_reducible exact av_int (by omega)) | (with_reducible exact av_sl (by first | omega | (simp; done) | (simp; omega)) (by first | omega | (simp; done) | (simp; omega)))) | (simp only [St.set, St.ev, upd, ren, renL, id, Nat.reduceEqDiff, reduceIte, Int.natCast_add, Int.natCast_one, Int.cast_ofNat_Int, Int.natCast_zero]; done) | (simp only [St.set, St.ev, upd, ren, renL, id, Nat.reduceEqDiff, reduceIte]) | skip); done)) | (simp only [St.set, St.ev, upd, ren, renL, id, Nat.reduceEqDiff, reduceIte, ContLe]) | skip)))); (case' h1 => (focus ((repeat' (with_reducible first | exact TmpLe.bot | refine TmpLe.upd ?_ (by first | rfl | (simp only [AV.lt, decide_eq_true_eq]; first | done | omega)) ?_)); all_goals (first | rfl | (simp only [St.set, St.ev, upd, ren, renL, id, Nat.reduceEqDiff, reduceIte]; done) | ((try simp only [St.set, St.ev, upd, ren, renL, id, Nat.reduceEqDiff, reduceIte]); first | (with_reducible exact av_int (by omega)) | (with_reducible exact av_sl (by first | omega | (simp; done) | (simp; omega)) (by first | omega | (simp; done) | (simp; omega)))) | (simp only [St.set, St.ev, upd, ren, renL, id, Nat.reduceEqDiff, reduceIte, Int.natCast_add, Int.natCast_one, Int.cast_ofNat_Int, Int.natCast_zero]; done) | (simp only [St.set, St.ev, upd, ren, renL, id, Nat.reduceEqDiff, reduceIte]) | skip)))); (case h3 => (focus (first | (simp only [id, List.map_cons, List.map_nil]; decide) | decide | (simp; done) | (simp; omega) | fail))); (case h5 => (intro d hd; first | (simp at hd; done) | (simp only [List.mem_cons, List.not_mem_nil, or_false] at hd; first | (simp only [id]; omega) | (split <;> omega) | ((repeat' split) <;> omega) | ((try simp only); repeat' split; all_goals omega)))); (case h4 => (intro o l h; first | (cases h; done) | (have hlt0 := m0_lt (by assumption) h; (try (simp only at hlt0)); first | omega | (simp only; omega) | exact ⟨by (first | rfl | (simp only [id]; done) | ((repeat rw [if_neg (by omega)]); done)), by first | omega | (simp only; omega)⟩))))
  rintro ⟨i, ys⟩ ⟨hi, hl, hj⟩
  try simp only at hi hl hj
  repeat' (first | refine awp_seq_k fun K hK => ?_ | ((with_reducible refine hK _ ?_); clear hK K) | (clear hK K; (with_reducible refine hK _ ?_); clear hK K) | (clear hK K; clear hK K; (with_reducible refine hK _ ?_); clear hK K) | (clear hK K; clear hK K; clear hK K; (with_reducible refine hK _ ?_); clear hK K) | (clear hK K; clear hK K; clear hK K; clear hK K; (with_reducible refine hK _ ?_); clear hK K) | (clear hK K; clear hK K; clear hK K; clear hK K; clear hK K; (with_reducible refine hK _ ?_); clear hK K) | ((with_reducible refine aord_plain fun K hK => ?_); simp only [go_sem, Nat.reduceAdd, Nat.reduceMul, Nat.reduceEqDiff, Nat.reduceLT, reduceIte, reduceCtorEq]) | refine awp_block ?_ | ((first | with_reducible refine aord_nil ?_ | refine awp_skip ?_ | refine awp_exit ?_ | refine awp_ret ?_); try simp only [thenA_normal, thenA_exit, thenA_goto, thenA_ret, blockA_normal, blockA_same, blockA_exit, blockA_goto, blockA_ret, Nat.reduceEqDiff, if_false, if_true, reduceIte]) | (refine awp_region tabOk rfl ?_; simp only [prep, pickO, List.map_cons, List.map_nil, List.getElem?_toArray, List.getElem?_cons_succ, List.getElem?_cons_zero, Option.bind_some, Option.map_some]) | ((with_reducible apply awp_cond); (focus (simp only [St.ev, St.set, upd, Nat.reduceEqDiff, reduceIte, if_false, if_true]; exact rfl)); all_goals (intro hb; first | (cases hb; done) | ((try rw [hb]); (try simp only [decide_eq_true_eq, decide_eq_false_iff_not, beq_iff_eq, bne_iff_ne, beq_eq_false_iff_ne, bne_eq_false_iff_eq, Int.not_lt, Int.not_le, Bool.not_eq_true', Bool.not_eq_false'] at hb)))) | ((with_reducible refine And.intro ?_ ?_); (focus omega)) | ((with_reducible refine And.intro ?_ ?_); (focus (exact rfl))) | (refine aStoreAll_ints (by simp only [St.ev, St.set, upd, Nat.reduceEqDiff, reduceIte, if_false, if_true]; exact rfl) ?_ ?_ ?_ ?_; (focus (first | rfl | omega | (simp; done) | (simp; omega) | (simp [szOf, tab]; done) | (simp [szOf, tab]; omega))); (focus (first | rfl | omega | (simp; done) | (simp; omega) | (simp [szOf, tab]; done) | (simp [szOf, tab]; omega))); (focus (first | rfl | omega | (simp; done) | (simp; omega) | (simp [szOf, tab]; done) | (simp [szOf, tab]; omega))); (try simp only [go_sem, Nat.reduceAdd, Nat.reduceMul, Nat.reduceEqDiff, Nat.reduceLT, reduceIte, reduceCtorEq])) | (simp only [doneH]; simp only [ressK, resK, wrapR, go_sem, Nat.reduceAdd, Nat.reduceMul, Nat.reduceEqDiff, Nat.reduceLT, reduceIte, reduceCtorEq]) | (refine aStoreAll_cells (by simp only [St.ev, St.set, upd, Nat.reduceEqDiff, reduceIte, if_false, if_true]; exact rfl) ?_ ?_ ?_ ?_ ?_; (focus (first | rfl | omega | (simp; done) | (simp; omega) | (simp [szOf, tab]; done) | (simp [szOf, tab]; omega))); (focus (first | rfl | omega | (simp; done) | (simp; omega) | (simp [szOf, tab]; done) | (simp [szOf, tab]; omega))); (focus (first | rfl | omega | (simp; done) | (simp; omega) | (simp [szOf, tab]; done) | (simp [szOf, tab]; omega))); (focus (first | rfl | (simp [AV.cell, Value.oneCell']; done))); (try simp only [go_sem, Nat.reduceAdd, Nat.reduceMul, Nat.reduceEqDiff, Nat.reduceLT, reduceIte, reduceCtorEq])) | (with_reducible refine And.intro (fun hb => ?_) (fun hb => ?_)) | (exfalso; omega) | fail)
  · ((refine Exists.intro (i + 1, ys.set i (k + i)) ?_); (refine nxt ?_ ?_ ?_); (focus ((apply Wk.over (id) n; (case' h2 => (focus ((repeat' (first | (with_reducible exact HeapX.bot) | (exact HeapX.base (by first | exact hcl | assumption) (by first | exact Nat.le_refl _ | omega | (simp only; omega)) (fun k hk => by first | rfl | (simp only [id]; done) | ((repeat rw [if_neg (by omega)]); done)) (by intro u hu hlt'; first | rfl | (simp only [List.mem_cons, List.not_mem_nil, or_false, not_or] at hu; first | (simp [upd, hu]; done) | (simp only [upd]; (repeat rw [if_neg (by omega)]))))) | (with_reducible (apply HeapX.skip; (case hx => (simp; done)))) | (with_reducible apply HeapX.none) | (with_reducible apply HeapX.old (by first | assumption | omega) (by first | exact Nat.le_refl _ | omega | (simp only; omega)) (by first | rfl | (simp only [id]; done) | ((repeat rw [if_neg (by omega)]); done))) | (with_reducible apply HeapX.upd))); all_goals (first | rfl | omega | assumption | exact Nat.le_of_ble_eq_true rfl | (simp only; omega) | (simp only [St.set, St.ev, upd, ren, renL, id, Nat.reduceEqDiff, reduceIte]; rfl) | (simp only [St.set, St.ev, upd, ren, renL, id, Nat.reduceEqDiff, reduceIte, ContLe]; done) | (exact And.intro rfl (And.intro (by first | exact Nat.le_of_ble_eq_true rfl | omega) (by first | exact Nat.le_of_ble_eq_true rfl | omega))) | (first | (simp only [St.set, St.ev, upd, ren, renL, id, Nat.reduceEqDiff, reduceIte]; exact contLe_nil) | ((repeat' (first | exact contLe_nil | refine contLe_cons (.inr ⟨?_, rfl⟩) ?_ | exact contLe_refl (n0 := n) (fun k hk => by first | rfl | (simp only [id]; done) | ((repeat rw [if_neg (by omega)]); done)) (by first | exact Nat.le_refl _ | omega | (simp only; omega)) (by assumption))); all_goals (first | rfl | (simp only [St.set, St.ev, upd, ren, renL, id, Nat.reduceEqDiff, reduceIte]; done) | ((try simp only [St.set, St.ev, upd, ren, renL, id, Nat.reduceEqDiff, reduceIte]); first | (with_reducible exact av_int (by omega)) | (with_reducible exact av_sl (by first | omega | (simp; done) | (simp; omega)) (by first | omega | (simp; done) | (simp; omega)))) | (simp only [St.set, St.ev, upd, ren, renL, id, Nat.reduceEqDiff, reduceIte, Int.natCast_add, Int.natCast_one, Int.cast_ofNat_Int, Int.natCast_zero]; done) | (simp only [St.set, St.ev, upd, ren, renL, id, Nat.reduceEqDiff, reduceIte]) | skip); done)) | (simp only [St.set, St.ev, upd, ren, renL, id, Nat.reduceEqDiff, reduceIte, ContLe]) | skip)))); (case' h1 => (focus ((repeat' (with_reducible first | exact TmpLe.bot | refine TmpLe.upd ?_ (by first | rfl | (simp only [AV.lt, decide_eq_true_eq]; first | done | omega)) ?_)); all_goals (first | rfl | (simp only [St.set, St.ev, upd, ren, renL, id, Nat.reduceEqDiff, reduceIte]; done) | ((try simp only [St.set, St.ev, upd, ren, renL, id, Nat.reduceEqDiff, reduceIte]); first | (with_reducible exact av_int (by omega)) | (with_reducible exact av_sl (by first | omega | (simp; done) | (simp; omega)) (by first | omega | (simp; done) | (simp; omega)))) | (simp only [St.set, St.ev, upd, ren, renL, id, Nat.reduceEqDiff, reduceIte, Int.natCast_add, Int.natCast_one, Int.cast_ofNat_Int, Int.natCast_zero]; done) | (simp only [St.set, St.ev, upd, ren, renL, id, Nat.reduceEqDiff, reduceIte]) | skip)))); (case h3 => (focus (first | (simp only [id, List.map_cons, List.map_nil]; decide) | decide | (simp; done) | (simp; omega) | fail))); (case h5 => (intro d hd; first | (simp at hd; done) | (simp only [List.mem_cons, List.not_mem_nil, or_false] at hd; first | (simp only [id]; omega) | (split <;> omega) | ((repeat' split) <;> omega) | ((try simp only); repeat' split; all_goals omega)))); (case h4 => (intro o l h; first | (cases h; done) | (have hlt0 := m0_lt (by assumption) h; (try (simp only at hlt0)); first | omega | (simp only; omega) | exact ⟨by (first | rfl | (simp only [id]; done) | ((repeat rw [if_neg (by omega)]); done)), by first | omega | (simp only; omega)⟩)))))); (focus (first | omega | (simp only; omega) | (simp only [List.length_take]; omega) | (simp; done) | (simp; omega))); ((repeat' (with_reducible apply And.intro)) <;> (first | omega | (simp only; omega) | assumption | rfl | ((try simp only); first | (simp [hl]; done) | exact set_step (by omega) hj rfl) | skip)))
  · try simp only [St.set, St.ev, doneQ, doneH, ressK, resK, wrapR, AV.ids, AV.idsL, retK, retsK, upd, Nat.reduceEqDiff, reduceIte, if_false, if_true, List.nodup_nil, List.nodup_cons, List.not_mem_nil, not_false_eq_true, true_and, and_true, exists_eq_left', Option.some.injEq, rLoad, cellOf, tab, Ty.isAgg, Ty.one, Bool.false_eq_true]
    have : ys = marks k xs.length := ext_getD (by rw [marks_len]; exact hl) fun j h => by rw [hj j (by omega), marks_get (by omega)]
    subst this
    rw [show i = xs.length by omega]
    exact hQ

theorem take_marks {k : Int} {m : Nat} : (marks k m).take m = marks k m := List.take_of_length_le (by rw [marks_len]; exact Nat.le_refl _)


theorem heldIntS_sat : Sat Try.prog 9 (fun ds Q => ∃ (xs : List Int) (k : Int), ds = [.row (.ints .i64 (xs)), .val (.int .i64 (k))] ∧ (xs = marks k xs.length) ∧ (0 ≤ k ∧ k ≤ 1000 ∧ xs.length ≤ 1099511627776) ∧ Q (.val (.int .i64 ((k + xs.length))))) := by
  refine sat_intro tabOk Try.func9 rfl 21 rfl [.tmp 4] rfl ?_
  rintro ds Q W ⟨xs, k, rfl, he, hk, hQ⟩
  refine ⟨Nat.le_of_ble_eq_true rfl, ?_⟩
  simp only [initS, initT, mat.matL, mat, Cont.len]
  have hg : ∀ i, i < xs.length → xs.getD i 0 = k + i := fun i h => by rw [he]; exact marks_get h
  repeat' (first | refine awp_seq_k fun K hK => ?_ | ((with_reducible refine hK _ ?_); clear hK K) | (clear hK K; (with_reducible refine hK _ ?_); clear hK K) | (clear hK K; clear hK K; (with_reducible refine hK _ ?_); clear hK K) | (clear hK K; clear hK K; clear hK K; (with_reducible refine hK _ ?_); clear hK K) | (clear hK K; clear hK K; clear hK K; clear hK K; (with_reducible refine hK _ ?_); clear hK K) | (clear hK K; clear hK K; clear hK K; clear hK K; clear hK K; (with_reducible refine hK _ ?_); clear hK K) | ((with_reducible refine aord_plain fun K hK => ?_); simp only [go_sem, Nat.reduceAdd, Nat.reduceMul, Nat.reduceEqDiff, Nat.reduceLT, reduceIte, reduceCtorEq]) | refine awp_block ?_ | ((first | with_reducible refine aord_nil ?_ | refine awp_skip ?_ | refine awp_exit ?_ | refine awp_ret ?_); try simp only [thenA_normal, thenA_exit, thenA_goto, thenA_ret, blockA_normal, blockA_same, blockA_exit, blockA_goto, blockA_ret, Nat.reduceEqDiff, if_false, if_true, reduceIte]) | (refine awp_region tabOk rfl ?_; simp only [prep, pickO, List.map_cons, List.map_nil, List.getElem?_toArray, List.getElem?_cons_succ, List.getElem?_cons_zero, Option.bind_some, Option.map_some]) | ((with_reducible apply awp_cond); (focus (simp only [St.ev, St.set, upd, Nat.reduceEqDiff, reduceIte, if_false, if_true]; exact rfl)); all_goals (intro hb; first | (cases hb; done) | ((try rw [hb]); (try simp only [decide_eq_true_eq, decide_eq_false_iff_not, beq_iff_eq, bne_iff_ne, beq_eq_false_iff_ne, bne_eq_false_iff_eq, Int.not_lt, Int.not_le, Bool.not_eq_true', Bool.not_eq_false'] at hb)))) | ((with_reducible refine And.intro ?_ ?_); (focus omega)) | ((with_reducible refine And.intro ?_ ?_); (focus (exact rfl))) | (with_reducible refine And.intro (fun hb => ?_) (fun hb => ?_)) | (exfalso; omega) | fail)
  refine awp_loopE (α := Nat) (fun s p => ⟨(upd (upd (upd bot 0 (s.tmps 0)) 1 (.val (.int .i64 ((k + p))))) 5 (.val (.int .i64 (p)))), s.heap, s.next⟩) _ (fun p => by simp only [St.ev, St.set, upd, Nat.reduceEqDiff, reduceIte, if_false, if_true]; exact rfl) (fun p => (p ≤ xs.length)) (fun p => xs.length - p) (0) ?_ ?_ ?_
  · (try simp only); (refine ?_ <;> (first | omega | (simp only; omega) | rfl | (simp; done) | skip))
  · (apply Wk.same; (case' h2 => (focus ((repeat' (with_reducible first | exact HeapX.bot | (apply HeapX.skip; (case hx => (simp; done))) | apply HeapX.none | apply HeapX.upd)); all_goals (first | rfl | exact Nat.le_of_ble_eq_true rfl | (simp only [St.set, St.ev, upd, ren, renL, id, Nat.reduceEqDiff, reduceIte, ContLe]; done) | (exact And.intro rfl (And.intro (by first | exact Nat.le_of_ble_eq_true rfl | omega) (by first | exact Nat.le_of_ble_eq_true rfl | omega))) | (first | (simp only [St.set, St.ev, upd, ren, renL, id, Nat.reduceEqDiff, reduceIte]; exact contLe_nil) | ((repeat' (first | exact contLe_nil | refine contLe_cons (.inr ⟨?_, rfl⟩) ?_)); all_goals (first | rfl | (simp only [St.set, St.ev, upd, ren, renL, id, Nat.reduceEqDiff, reduceIte]; done) | ((try simp only [St.set, St.ev, upd, ren, renL, id, Nat.reduceEqDiff, reduceIte]); first | (with_reducible exact av_int (by omega)) | (with_reducible exact av_sl (by first | omega | (simp; done) | (simp; omega)) (by first | omega | (simp; done) | (simp; omega)))) | (simp only [St.set, St.ev, upd, ren, renL, id, Nat.reduceEqDiff, reduceIte, Int.natCast_add, Int.natCast_one, Int.cast_ofNat_Int, Int.natCast_zero]; done) | (simp only [St.set, St.ev, upd, ren, renL, id, Nat.reduceEqDiff, reduceIte]) | skip); done)) | (simp only [St.set, St.ev, upd, ren, renL, id, Nat.reduceEqDiff, reduceIte, ContLe]) | skip)))); (case' h1 => (focus ((repeat' (with_reducible first | exact TmpLe.bot | refine TmpLe.upd ?_ rfl ?_)); all_goals (first | rfl | (simp only [St.set, St.ev, upd, ren, renL, id, Nat.reduceEqDiff, reduceIte]; done) | ((try simp only [St.set, St.ev, upd, ren, renL, id, Nat.reduceEqDiff, reduceIte]); first | (with_reducible exact av_int (by omega)) | (with_reducible exact av_sl (by first | omega | (simp; done) | (simp; omega)) (by first | omega | (simp; done) | (simp; omega)))) | (simp only [St.set, St.ev, upd, ren, renL, id, Nat.reduceEqDiff, reduceIte, Int.natCast_add, Int.natCast_one, Int.cast_ofNat_Int, Int.natCast_zero]; done) | (simp only [St.set, St.ev, upd, ren, renL, id, Nat.reduceEqDiff, reduceIte]) | skip)))); (case h3 => (focus (first | (simp only [id, List.map_cons, List.map_nil]; decide) | decide | (simp; done) | (simp; omega) | fail))); (case h4 => (intro o l h; first | (cases h; done) | (have hlt0 := m0_lt (by assumption) h; (try (simp only at hlt0)); first | omega | (simp only; omega) | exact ⟨by (first | rfl | (simp only [id]; done) | ((repeat rw [if_neg (by omega)]); done)), by first | omega | (simp only; omega)⟩))))
  rintro i hi
  try simp only at hi
  have hgi := hg i
  repeat' (first | refine awp_seq_k fun K hK => ?_ | ((with_reducible refine hK _ ?_); clear hK K) | (clear hK K; (with_reducible refine hK _ ?_); clear hK K) | (clear hK K; clear hK K; (with_reducible refine hK _ ?_); clear hK K) | (clear hK K; clear hK K; clear hK K; (with_reducible refine hK _ ?_); clear hK K) | (clear hK K; clear hK K; clear hK K; clear hK K; (with_reducible refine hK _ ?_); clear hK K) | (clear hK K; clear hK K; clear hK K; clear hK K; clear hK K; (with_reducible refine hK _ ?_); clear hK K) | ((with_reducible refine aord_plain fun K hK => ?_); simp only [go_sem, Nat.reduceAdd, Nat.reduceMul, Nat.reduceEqDiff, Nat.reduceLT, reduceIte, reduceCtorEq]) | refine awp_block ?_ | ((first | with_reducible refine aord_nil ?_ | refine awp_skip ?_ | refine awp_exit ?_ | refine awp_ret ?_); try simp only [thenA_normal, thenA_exit, thenA_goto, thenA_ret, blockA_normal, blockA_same, blockA_exit, blockA_goto, blockA_ret, Nat.reduceEqDiff, if_false, if_true, reduceIte]) | (refine awp_region tabOk rfl ?_; simp only [prep, pickO, List.map_cons, List.map_nil, List.getElem?_toArray, List.getElem?_cons_succ, List.getElem?_cons_zero, Option.bind_some, Option.map_some]) | ((with_reducible apply awp_cond); (focus (simp only [St.ev, St.set, upd, Nat.reduceEqDiff, reduceIte, if_false, if_true]; exact rfl)); all_goals (intro hb; first | (cases hb; done) | ((try rw [hb]); (try simp only [decide_eq_true_eq, decide_eq_false_iff_not, beq_iff_eq, bne_iff_ne, beq_eq_false_iff_ne, bne_eq_false_iff_eq, Int.not_lt, Int.not_le, Bool.not_eq_true', Bool.not_eq_false'] at hb)))) | ((with_reducible refine And.intro ?_ ?_); (focus omega)) | ((with_reducible refine And.intro ?_ ?_); (focus (exact rfl))) | (with_reducible refine And.intro (fun hb => ?_) (fun hb => ?_)) | (exfalso; omega) | fail)
  · ((refine Exists.intro (i + 1) ?_); (refine nxt ?_ ?_ ?_); (focus ((apply Wk.same; (case' h2 => (focus ((repeat' (with_reducible first | exact HeapX.bot | (apply HeapX.skip; (case hx => (simp; done))) | apply HeapX.none | apply HeapX.upd)); all_goals (first | rfl | exact Nat.le_of_ble_eq_true rfl | (simp only [St.set, St.ev, upd, ren, renL, id, Nat.reduceEqDiff, reduceIte, ContLe]; done) | (exact And.intro rfl (And.intro (by first | exact Nat.le_of_ble_eq_true rfl | omega) (by first | exact Nat.le_of_ble_eq_true rfl | omega))) | (first | (simp only [St.set, St.ev, upd, ren, renL, id, Nat.reduceEqDiff, reduceIte]; exact contLe_nil) | ((repeat' (first | exact contLe_nil | refine contLe_cons (.inr ⟨?_, rfl⟩) ?_)); all_goals (first | rfl | (simp only [St.set, St.ev, upd, ren, renL, id, Nat.reduceEqDiff, reduceIte]; done) | ((try simp only [St.set, St.ev, upd, ren, renL, id, Nat.reduceEqDiff, reduceIte]); first | (with_reducible exact av_int (by omega)) | (with_reducible exact av_sl (by first | omega | (simp; done) | (simp; omega)) (by first | omega | (simp; done) | (simp; omega)))) | (simp only [St.set, St.ev, upd, ren, renL, id, Nat.reduceEqDiff, reduceIte, Int.natCast_add, Int.natCast_one, Int.cast_ofNat_Int, Int.natCast_zero]; done) | (simp only [St.set, St.ev, upd, ren, renL, id, Nat.reduceEqDiff, reduceIte]) | skip); done)) | (simp only [St.set, St.ev, upd, ren, renL, id, Nat.reduceEqDiff, reduceIte, ContLe]) | skip)))); (case' h1 => (focus ((repeat' (with_reducible first | exact TmpLe.bot | refine TmpLe.upd ?_ rfl ?_)); all_goals (first | rfl | (simp only [St.set, St.ev, upd, ren, renL, id, Nat.reduceEqDiff, reduceIte]; done) | ((try simp only [St.set, St.ev, upd, ren, renL, id, Nat.reduceEqDiff, reduceIte]); first | (with_reducible exact av_int (by omega)) | (with_reducible exact av_sl (by first | omega | (simp; done) | (simp; omega)) (by first | omega | (simp; done) | (simp; omega)))) | (simp only [St.set, St.ev, upd, ren, renL, id, Nat.reduceEqDiff, reduceIte, Int.natCast_add, Int.natCast_one, Int.cast_ofNat_Int, Int.natCast_zero]; done) | (simp only [St.set, St.ev, upd, ren, renL, id, Nat.reduceEqDiff, reduceIte]) | skip)))); (case h3 => (focus (first | (simp only [id, List.map_cons, List.map_nil]; decide) | decide | (simp; done) | (simp; omega) | fail))); (case h4 => (intro o l h; first | (cases h; done) | (have hlt0 := m0_lt (by assumption) h; (try (simp only at hlt0)); first | omega | (simp only; omega) | exact ⟨by (first | rfl | (simp only [id]; done) | ((repeat rw [if_neg (by omega)]); done)), by first | omega | (simp only; omega)⟩)))))); (focus (first | omega | (simp only; omega) | (simp only [List.length_take]; omega) | (simp; done) | (simp; omega))); ((repeat' (with_reducible apply And.intro)) <;> (first | omega | (simp only; omega) | assumption | rfl | (simp only))))
  · simp only [St.set, St.ev, doneQ, doneH, ressK, resK, wrapR, AV.ids, AV.idsL, retK, retsK, upd, Nat.reduceEqDiff, reduceIte, if_false, if_true, List.nodup_nil, List.nodup_cons, List.not_mem_nil, not_false_eq_true, true_and, and_true, exists_eq_left', Option.some.injEq, rLoad, cellOf, tab, Ty.isAgg, Ty.one, Bool.false_eq_true]
    rw [show i = xs.length by omega]
    exact hQ


theorem aStoreAll_cells {tab : Tab} {h : Hp} {n : Nat} {t : TypeId} {o : Nat} {old al : List AV} {K : AV → Hp → Nat → Prop} (ho : h o = some ⟨true, .cells old⟩) (hl : old.length = al.length) (hp : 0 < al.length) (hsz : szOf tab t = some al.length) (hc : al.all AV.cell = true)
    (hK : K .any (upd h o (some ⟨true, .cells al⟩)) n) : ∃ c', aStoreAll tab h n t (.ref o 0) (.agg al) c' K :=
  ⟨.cells al, _, ho, rfl, rfl, rfl, hp, by simpa [Cont.flat] using hl, by simpa using hsz, hc, rfl, hK⟩
/-- A piece of code with labels, through which one goes without a goto. -/
def noGotoA (Q : Exit → St → Prop) : Exit → St → Prop
  | .goto _, _ => False
  | e, s => Q e s
theorem noGotoA_normal (Q : Exit → St → Prop) (s : St) : noGotoA Q .normal s = Q .normal s := rfl
theorem noGotoA_exit (Q : Exit → St → Prop) (s : St) (i : Nat) : noGotoA Q (.exit i) s = Q (.exit i) s := rfl
theorem noGotoA_ret (Q : Exit → St → Prop) (s : St) : noGotoA Q .ret s = Q .ret s := rfl
theorem awp_scope {P : Program} {Γ : Ctx} {nt : Nat} {Q : Exit → St → Prop} {s : St} {c : Code} (h : AWP Γ nt P c (noGotoA Q) s) (hF : Γ.F = false := by rfl) : AWP Γ nt P (.scope c) Q s := fun hS C hC hr m a w hs => by
  have hn : C.r = none := by rw [hF] at hr; cases hc : C.r with | none => rfl | some l => rw [hc] at hr; cases hr
  have h1 := h hS C hC hr m a w hs
  rw [hn] at h1 ⊢
  refine (wpIn_wide (n := 0)).2 (wp_scope_straight (wp_mono ((wpIn_wide (n := 0)).1 h1) fun e a' w' hp => ?_))
  cases e with
  | goto l => obtain ⟨_, _, _, _, _, _, hq⟩ := hp; exact hq.elim
  | _ => exact hp
def swp (xs : List Int) (a b : Nat) : List Int := (xs.set a (xs.getD b 0)).set b (xs.getD a 0)
theorem swp_len (xs : List Int) (a b : Nat) : (swp xs a b).length = xs.length := by simp [swp]
/-- A key goes ahead by steps: what is there, how often was asked, how often moved. -/
def insIn (st : Nat) (k : Nat) (xs : List Int) (a m : Int) : List Int × Int × Int :=
  if h : 0 < st ∧ st ≤ k then (if xs.getD (k - st) 0 ≤ xs.getD k 0 then (xs, a + 1, m) else insIn st (k - st) (swp xs (k - st) k) (a + 1) (m + 1)) else (xs, a, m)
termination_by k
decreasing_by omega
theorem insIn_end {st k : Nat} {xs : List Int} {a m : Int} (h : k < st) : insIn st k xs a m = (xs, a, m) := by rw [insIn, dif_neg (by omega)]
theorem insIn_stop {st k : Nat} {xs : List Int} {a m : Int} (h0 : 0 < st) (h : st ≤ k) (hle : xs.getD (k - st) 0 ≤ xs.getD k 0) : insIn st k xs a m = (xs, a + 1, m) := by rw [insIn, dif_pos ⟨h0, h⟩, if_pos hle]
theorem insIn_go {st k : Nat} {xs : List Int} {a m : Int} (h0 : 0 < st) (h : st ≤ k) (hle : xs.getD k 0 < xs.getD (k - st) 0) : insIn st k xs a m = insIn st (k - st) (swp xs (k - st) k) (a + 1) (m + 1) := by rw [insIn, dif_pos ⟨h0, h⟩, if_neg (by omega)]
theorem insIn_in {st : Nat} : ∀ (f k : Nat) (xs : List Int) (a m : Int), k < f → (insIn st k xs a m).1.length = xs.length ∧ a ≤ (insIn st k xs a m).2.1 ∧ (insIn st k xs a m).2.1 ≤ a + k + 1 ∧ m ≤ (insIn st k xs a m).2.2 ∧ (insIn st k xs a m).2.2 ≤ m + k + 1
  | 0, k, xs, a, m, h => by omega
  | f + 1, k, xs, a, m, h => by
    by_cases h1 : 0 < st ∧ st ≤ k
    · rcases Int.lt_or_le (xs.getD k 0) (xs.getD (k - st) 0) with h2 | h2
      · rw [insIn_go h1.1 h1.2 h2]
        have := insIn_in (st := st) f (k - st) (swp xs (k - st) k) (a + 1) (m + 1) (by omega)
        rw [swp_len] at this
        omega
      · rw [insIn_stop h1.1 h1.2 h2]
        exact ⟨rfl, by simp only; omega, by simp only; omega, by simp only; omega, by simp only; omega⟩
    · rw [insIn, dif_neg h1]
      exact ⟨rfl, by simp only; omega, by simp only; omega, by simp only; omega, by simp only; omega⟩
def insTo (st : Nat) (s : List Int × Int × Int) : Nat → List Int × Int × Int
  | 0 => s
  | j + 1 => insIn st (st + j) (insTo st s j).1 (insTo st s j).2.1 (insTo st s j).2.2
theorem insTo_in {st : Nat} {s : List Int × Int × Int} (hn : s.1.length ≤ 8) : ∀ j, st + j ≤ s.1.length ∨ j = 0 → (insTo st s j).1.length = s.1.length ∧ s.2.1 ≤ (insTo st s j).2.1 ∧ (insTo st s j).2.1 ≤ s.2.1 + 9 * j ∧ s.2.2 ≤ (insTo st s j).2.2 ∧ (insTo st s j).2.2 ≤ s.2.2 + 9 * j
  | 0, _ => by simp [insTo]
  | j + 1, h => by
    have ih := insTo_in (st := st) hn j (by omega)
    have := insIn_in (st := st) (st + j + 1) (st + j) (insTo st s j).1 (insTo st s j).2.1 (insTo st s j).2.2 (by omega)
    rw [insTo]
    omega


theorem aAppend_cells {tab : Tab} {h : Hp} {n : Nat} {t e : TypeId} {i : TI} {z : Value} {o p len kk : Nat} {lim : Option Nat} {rw2 : Bool} {xs ys : List AV} {K : AV → Hp → Nat → Prop} (hty : tyOf tab t = some (.slice e)) (hi : tab e = some i) (h1 : i.size = 1) (hz : i.zero = [z]) (hb : i.bytes ≤ 24)
    (hp : h p = some ⟨rw2, .cells ys⟩) (ho : h o = some ⟨true, .cells xs⟩) (hne : o ≠ p) (hl : xs.length = len) (hk : ys.length = kk) (hle : len + kk ≤ 1000)
    (hK : K (.sl n 0 (len + kk) 1 none) (upd (upd h o none) n (some ⟨true, .cells (xs ++ ys)⟩)) (n + 1)) : aAppend tab h n t (.sl o 0 len 1 none) (.sl p 0 kk 1 lim) K := by
  refine .inl ⟨e, i, z, kk, .cells ys, hty, hi, h1, hz, .inl ⟨p, 0, lim, _, rfl, hp, ?_, ?_⟩, .inr ⟨o, len, _, .cells xs, _, rfl, ho, rfl, ?_, ?_, ?_, by omega, ?_, hK⟩⟩
  · simp [winOf, ← hk]
  · simp [Cont.flat, hk]
  · simp [Cont.flat, hl]
  · simp [winOf, ← hl]
  · simp [catOf]
  · have := Nat.mul_le_mul hle hb
    omega

/-- Slices of whole rows whose objects a function names. -/
def slsN (f : Nat → Nat) : Nat → List (List Int) → List AV
  | _, [] => []
  | k, x :: xs => .sl (f k) 0 x.length 1 none :: slsN f (k + 1) xs
theorem slsN_len {f : Nat → Nat} : ∀ {xss : List (List Int)} {b : Nat}, (slsN f b xss).length = xss.length
  | [], _ => rfl
  | x :: xs, b => by simp [slsN, slsN_len]
theorem slsN_app {f : Nat → Nat} : ∀ {xss yss : List (List Int)} {b : Nat}, slsN f b (xss ++ yss) = slsN f b xss ++ slsN f (b + xss.length) yss
  | [], _, _ => by simp [slsN]
  | x :: xs, yss, b => by rw [List.cons_append, slsN, slsN, slsN_app, List.cons_append, List.length_cons, show b + 1 + xs.length = b + (xs.length + 1) by omega]
theorem slsN_get {f : Nat → Nat} : ∀ {xss : List (List Int)} {b i : Nat}, i < xss.length → (slsN f b xss)[i]? = some (.sl (f (b + i)) 0 (xss.getD i []).length 1 none)
  | [], _, i, h => by simp at h
  | x :: xs, b, 0, _ => by simp [slsN]
  | x :: xs, b, i + 1, h => by
    rw [slsN, List.getElem?_cons_succ, slsN_get (by simpa using h), show b + 1 + i = b + (i + 1) by omega]
    simp
theorem slsN_lt {f : Nat → Nat} {n : Nat} : ∀ {xss : List (List Int)} {b : Nat}, (∀ i, i < xss.length → f (b + i) < n) → AV.ltL n (slsN f b xss) = true
  | [], _, _ => rfl
  | x :: xs, b, h => by
    have h0 := h 0 (by simp)
    simp only [slsN, AV.ltL, AV.lt, Bool.and_eq_true, decide_eq_true_eq]
    refine ⟨h0, slsN_lt fun i hi => ?_⟩
    have := h (i + 1) (by simp; omega)
    rw [show b + 1 + i = b + (i + 1) by omega]; exact this
theorem gat_slsN {h : Hp} {ik : IntKind} {f : Nat → Nat} : ∀ {xss : List (List Int)} {b : Nat}, (∀ i, i < xss.length → h (f (b + i)) = some ⟨true, .ints ik (xss.getD i [])⟩) → Gat h ik (slsN f b xss) ((List.range' b xss.length).map f) xss
  | [], _, _ => .nil
  | x :: xs, b, hh => by
    have h0 := hh 0 (by simp)
    simp only [Nat.add_zero, List.getD_cons_zero] at h0
    rw [slsN, List.length_cons, List.range'_succ, List.map_cons]
    refine .own h0 rfl (gat_slsN fun i hi => ?_)
    have := hh (i + 1) (by simp; omega)
    rw [show b + 1 + i = b + (i + 1) by omega]
    simpa using this
theorem gat_app {h : Hp} {ik : IntKind} {l l2 : List AV} {ps ps2 : List Nat} {xss yss : List (List Int)} (a : Gat h ik l ps xss) (b : Gat h ik l2 ps2 yss) : Gat h ik (l ++ l2) (ps ++ ps2) (xss ++ yss) := by
  induction a with
  | nil => exact b
  | own hp hl _ ih => exact .own hp hl ih
  | none _ ih => exact .none ih

/-- What comes back is a row of rows of one's own; of the caller's state only objects under n0 are kept. -/
theorem awp_gatherW {P : Program} {Γ : Ctx} {nt : Nat} {c : Code} {Q : Exit → St → Prop} {s : St} {h : Hp} {n0 o len : Nat} {ik : IntKind} {l : List AV} {ps : List Nat} {xss : List (List Int)} (t : Tmp) (ht : s.tmps t = .sl o 0 len 1 none) (ho : s.heap o = some ⟨true, .cells l⟩) (hg : Gat s.heap ik l ps xss) (hnd : (o :: ps).Nodup)
    (hn : n0 ≤ s.next) (hcl : HClosed h n0) (hm0 : ∀ u, n0 ≤ u → Γ.m0 u = none) (hps : ∀ p ∈ o :: ps, n0 ≤ p) (hsub : ∀ u ob, u < n0 → h u = some ob → s.heap u = some ob)
    (hK : AWP Γ nt P c Q ⟨upd bot t (.sl n0 0 len 1 none), upd h n0 (some ⟨true, .rows ik xss none⟩), n0 + 1⟩) : AWP Γ nt P c Q s := by
  refine awp_gather t o ht ho hg hnd (awp_weaken (Wk.over (dom := [n0]) (fun u => if u = n0 then s.next else u) n0 ?_ ?_ ?_ ?_ ?_) hK)
  · refine TmpLe.upd ?_ (by simp [AV.lt]) TmpLe.bot
    simp only [upd_same, ren, if_true]
  · refine HeapX.upd (c := .rows ik xss none) ?_ rfl (Nat.lt_succ_self _) (fun u ob' hx hu => ?_)
    · simp only [if_true, upd_same]
    · obtain ⟨a, b⟩ := hcl u ob' hu
      have hne : u ≠ n0 := by omega
      refine ⟨by show u < n0 + 1; omega, .inl ⟨a, if_neg hne⟩, ob', ?_, rfl, contLe_refl (fun k hk => if_neg (by omega)) (Nat.le_succ _) b⟩
      rw [if_neg hne]
      simp only
      rw [upd_ne _ _ (by omega), dropL, if_neg (fun hm => by have := hps u hm; omega)]
      exact hsub u ob' a hu
  · simp
  · intro d hd
    simp only [List.mem_singleton] at hd
    subst hd
    simpa using hn
  · intro u l hu
    have : u < n0 := by
      by_cases e : u < n0
      · exact e
      · rw [hm0 u (by omega)] at hu; cases hu
    exact ⟨if_neg (by omega), by show u < n0 + 1; omega⟩
theorem slsN_congr {f g : Nat → Nat} : ∀ {xss : List (List Int)} {b : Nat}, (∀ j, j < xss.length → f (b + j) = g (b + j)) → slsN f b xss = slsN g b xss
  | [], _, _ => rfl
  | x :: xs, b, h => by
    have h0 := h 0 (by simp)
    rw [Nat.add_zero] at h0
    have ih := slsN_congr (f := f) (g := g) (xss := xs) (b := b + 1) fun j hj => by
      have := h (j + 1) (by simp; omega)
      rw [show b + 1 + j = b + (j + 1) by omega]; exact this
    show AV.sl (f b) 0 x.length 1 none :: slsN f (b + 1) xs = AV.sl (g b) 0 x.length 1 none :: slsN g (b + 1) xs
    rw [h0, ih]
theorem slsN_set {f : Nat → Nat} {r : List Int} {m : Nat} : ∀ {xss : List (List Int)} {b k : Nat}, k < xss.length → (slsN f b xss).set k (.sl m 0 r.length 1 none) = slsN (fun j => if j = b + k then m else f j) b (xss.set k r)
  | [], _, _, h => by simp at h
  | x :: xs, b, 0, _ => by
    show AV.sl m 0 r.length 1 none :: slsN f (b + 1) xs = AV.sl (if b = b + 0 then m else f b) 0 r.length 1 none :: slsN (fun j => if j = b + 0 then m else f j) (b + 1) xs
    rw [if_pos (Nat.add_zero b).symm]
    congr 1
    exact slsN_congr fun j _ => by rw [if_neg (by omega)]
  | x :: xs, b, k + 1, h => by
    show AV.sl (f b) 0 x.length 1 none :: (slsN f (b + 1) xs).set k (.sl m 0 r.length 1 none) = AV.sl (if b = b + (k + 1) then m else f b) 0 x.length 1 none :: slsN (fun j => if j = b + (k + 1) then m else f j) (b + 1) (xs.set k r)
    rw [if_neg (by omega), slsN_set (by simpa using h)]
    congr 1
    exact slsN_congr fun j _ => by rw [show b + 1 + k = b + (k + 1) by omega]
/-- The pile that a key is put on: the first one whose last key is not greater. -/
def pilA : List (List Int) → Int → Nat
  | [], _ => 0
  | r :: xss, x => if r.getD (r.length - 1) 0 ≤ x then 0 else pilA xss x + 1
theorem pilA_le (x : Int) : ∀ xss, pilA xss x ≤ xss.length
  | [] => Nat.le_refl _
  | r :: xss => by have := pilA_le x xss; rw [pilA]; split <;> simp <;> omega
theorem pilA_is {x : Int} : ∀ {xss : List (List Int)} {k : Nat}, (∀ j, j < k → x < (xss.getD j []).getD ((xss.getD j []).length - 1) 0) → k ≤ xss.length → (k = xss.length ∨ (xss.getD k []).getD ((xss.getD k []).length - 1) 0 ≤ x) → pilA xss x = k
  | [], k, _, h, _ => by simp at h; subst h; rfl
  | r :: xss, 0, _, _, h3 => by
    rcases h3 with h3 | h3
    · simp at h3
    · rw [pilA, if_pos (by simpa using h3)]
  | r :: xss, k + 1, h1, h2, h3 => by
    have h0 := h1 0 (by omega)
    simp only [List.getD_cons_zero] at h0
    rw [pilA, if_neg (by omega), pilA_is (k := k) (fun j hj => by have := h1 (j + 1) (by omega); simpa using this) (by simpa using h2) (by rcases h3 with h3 | h3; exact .inl (by simpa using h3); exact .inr (by simpa using h3))]
def pilPut (xss : List (List Int)) (x : Int) : List (List Int) := if pilA xss x = xss.length then xss ++ [[x]] else xss.set (pilA xss x) (xss.getD (pilA xss x) [] ++ [x])
def pilTo (xs : List Int) : Nat → List (List Int)
  | 0 => []
  | i + 1 => pilPut (pilTo xs i) (xs.getD i 0)
theorem pilPut_new {xss : List (List Int)} {x : Int} (h : pilA xss x = xss.length) : pilPut xss x = xss ++ [[x]] := if_pos h
theorem pilPut_old {xss : List (List Int)} {x : Int} {k : Nat} (h : pilA xss x = k) (hk : k < xss.length) : pilPut xss x = xss.set k (xss.getD k [] ++ [x]) := by
  subst h; exact if_neg (by omega)
theorem pil_in {xs : List Int} : ∀ i, (pilTo xs i).length ≤ i ∧ ∀ j, j < (pilTo xs i).length → 1 ≤ ((pilTo xs i).getD j []).length ∧ ((pilTo xs i).getD j []).length ≤ i
  | 0 => ⟨Nat.le_refl _, fun j h => by simp [pilTo] at h⟩
  | i + 1 => by
    obtain ⟨h1, h2⟩ := pil_in (xs := xs) i
    have hle := pilA_le (xs.getD i 0) (pilTo xs i)
    rw [pilTo]
    by_cases e : pilA (pilTo xs i) (xs.getD i 0) = (pilTo xs i).length
    · rw [pilPut_new e]
      refine ⟨by simp; omega, fun j hj => ?_⟩
      by_cases c : j < (pilTo xs i).length
      · have : (pilTo xs i ++ [[xs.getD i 0]]).getD j [] = (pilTo xs i).getD j [] := by simp only [List.getD_eq_getElem?_getD]; rw [List.getElem?_append_left c]
        rw [this]; have := h2 j c; omega
      · have c2 : j = (pilTo xs i).length := by simp at hj; omega
        subst c2
        have : (pilTo xs i ++ [[xs.getD i 0]]).getD (pilTo xs i).length [] = [xs.getD i 0] := by simp [List.getD_eq_getElem?_getD]
        rw [this]; simp
    · rw [pilPut_old rfl (by omega)]
      refine ⟨by simp; omega, fun j hj => ?_⟩
      rw [List.length_set] at hj
      have hj2 := h2 j hj
      by_cases c : pilA (pilTo xs i) (xs.getD i 0) = j
      · rw [c, List.getD_eq_getElem?_getD, List.getElem?_set_self hj]
        simp only [Option.getD_some, List.length_append, List.length_singleton]; omega
      · rw [List.getD_eq_getElem?_getD, List.getElem?_set_ne c, ← List.getD_eq_getElem?_getD]; omega
/-- What is known of a heap that holds such rows. -/
structure RowsOf (H : Hp) (n O : Nat) (f : Nat → Nat) (xss : List (List Int)) : Prop where
  out : H O = some ⟨true, .cells (slsN f 0 xss)⟩
  outn : O < n
  row : ∀ j, j < xss.length → H (f j) = some ⟨true, .ints .i64 (xss.getD j [])⟩
  lt : ∀ j, j < xss.length → f j < n ∧ f j ≠ O
  inj : ∀ j l, j < xss.length → l < xss.length → f j = f l → j = l
theorem RowsOf.get {H : Hp} {n O : Nat} {f : Nat → Nat} {xss : List (List Int)} (h : RowsOf H n O f xss) {k : Nat} (hk : k < xss.length) : (slsN f 0 xss)[k]? = some (.sl (f k) 0 (xss.getD k []).length 1 none) := by
  have := slsN_get (f := f) (b := 0) hk
  rw [Nat.zero_add] at this; exact this
theorem RowsOf.gat {H : Hp} {n O : Nat} {f : Nat → Nat} {xss : List (List Int)} (h : RowsOf H n O f xss) : Gat H .i64 (slsN f 0 xss) ((List.range' 0 xss.length).map f) xss := gat_slsN fun j hj => by rw [Nat.zero_add]; exact h.row j hj
theorem RowsOf.nodup {H : Hp} {n O : Nat} {f : Nat → Nat} {xss : List (List Int)} (h : RowsOf H n O f xss) : (O :: (List.range' 0 xss.length).map f).Nodup := by
  refine List.nodup_cons.2 ⟨fun e => ?_, ?_⟩
  · obtain ⟨j, hj, e2⟩ := List.mem_map.1 e
    simp [List.mem_range'] at hj
    exact (h.lt j (by omega)).2 e2
  · refine List.pairwise_map.2 (List.Pairwise.imp_of_mem (fun {a b} ha hb hne e => hne ?_) (List.nodup_range' (s := 0) (n := xss.length)))
    simp [List.mem_range'] at ha hb
    exact h.inj a b (by omega) (by omega) e
theorem RowsOf.set {H G : Hp} {n O k : Nat} {f : Nat → Nat} {xss : List (List Int)} {x : Int} (h : RowsOf H n O f xss) (hk : k < xss.length) (gO : G O = some ⟨true, .cells ((slsN f 0 xss).set k (.sl (n + 1) 0 ((xss.getD k []).length + 1) 1 none))⟩) (gn : G (n + 1) = some ⟨true, .ints .i64 (xss.getD k [] ++ [x])⟩) (gk : ∀ u, u < n → u ≠ O → u ≠ f k → G u = H u) : RowsOf G (n + 2) O (fun j => if j = k then n + 1 else f j) (xss.set k (xss.getD k [] ++ [x])) := by
  have hOn := h.outn
  refine ⟨?_, by omega, fun j hj => ?_, fun j hj => ?_, fun j l hj hl e => ?_⟩
  · have := slsN_set (f := f) (r := xss.getD k [] ++ [x]) (m := n + 1) (b := 0) hk
    rw [List.length_append, List.length_singleton] at this
    rw [gO, this]
    simp only [Nat.zero_add]
  · rw [List.length_set] at hj
    by_cases c : j = k
    · subst c
      rw [if_pos rfl, gn, List.getD_eq_getElem?_getD (l := xss.set j _), List.getElem?_set_self hj]; rfl
    · rw [if_neg c, gk _ (h.lt j hj).1 (h.lt j hj).2 (fun e => c (h.inj j k hj hk e)), h.row j hj, List.getD_eq_getElem?_getD (l := xss.set k _), List.getElem?_set_ne (Ne.symm c), ← List.getD_eq_getElem?_getD]
  · rw [List.length_set] at hj
    have := h.lt j hj
    split <;> omega
  · rw [List.length_set] at hj hl
    have a := h.lt j hj
    have b := h.lt l hl
    by_cases c : j = k <;> by_cases d : l = k
    · omega
    · rw [if_pos c, if_neg d] at e; omega
    · rw [if_neg c, if_pos d] at e; omega
    · rw [if_neg c, if_neg d] at e; exact h.inj j l hj hl e
theorem RowsOf.push {H G : Hp} {n O : Nat} {f : Nat → Nat} {xss : List (List Int)} {r : List Int} {m nn : Nat} (h : RowsOf H n O f xss) (hm : n ≤ m) (hmn : m < nn) (gO : G (nn) = some ⟨true, .cells (slsN f 0 xss ++ [.sl m 0 r.length 1 none])⟩) (gn : G m = some ⟨true, .ints .i64 r⟩) (gk : ∀ u, u < n → u ≠ O → G u = H u) : RowsOf G (nn + 1) nn (fun j => if j = xss.length then m else f j) (xss ++ [r]) := by
  refine ⟨?_, by omega, fun j hj => ?_, fun j hj => ?_, fun j l hj hl e => ?_⟩
  · rw [gO, slsN_app, Nat.zero_add]
    have e1 : slsN f 0 xss = slsN (fun j => if j = xss.length then m else f j) 0 xss := slsN_congr fun j hj => by rw [if_neg (by omega)]
    rw [← e1]
    simp only [slsN, if_true]
  · simp only [List.length_append, List.length_singleton] at hj
    by_cases c : j = xss.length
    · subst c
      rw [if_pos rfl, gn]
      simp [List.getD_eq_getElem?_getD]
    · have hj2 : j < xss.length := by omega
      rw [if_neg c, gk _ (h.lt j hj2).1 (h.lt j hj2).2, h.row j hj2]
      simp only [List.getD_eq_getElem?_getD]; rw [List.getElem?_append_left hj2]
  · simp only [List.length_append, List.length_singleton] at hj
    by_cases c : j = xss.length
    · rw [if_pos c]; omega
    · rw [if_neg c]; have := h.lt j (by omega); omega
  · simp only [List.length_append, List.length_singleton] at hj hl
    by_cases c : j = xss.length <;> by_cases d : l = xss.length
    · omega
    · rw [if_pos c, if_neg d] at e; have := h.lt l (by omega); omega
    · rw [if_neg c, if_pos d] at e; have := h.lt j (by omega); omega
    · rw [if_neg c, if_neg d] at e; exact h.inj j l (by omega) (by omega) e
theorem RowsOf.push2 {H G : Hp} {n O m O2 N : Nat} {f : Nat → Nat} {xss : List (List Int)} {r : List Int} (h : RowsOf H n O f xss) (hm : n ≤ m) (hO2 : n ≤ O2) (hne : m ≠ O2) (hmN : m < N) (hON : O2 < N) (gO : G O2 = some ⟨true, .cells (slsN f 0 xss ++ [.sl m 0 r.length 1 none])⟩) (gn : G m = some ⟨true, .ints .i64 r⟩) (gk : ∀ u, u < n → u ≠ O → G u = H u) : RowsOf G N O2 (fun j => if j = xss.length then m else f j) (xss ++ [r]) := by
  refine ⟨?_, hON, fun j hj => ?_, fun j hj => ?_, fun j l hj hl e => ?_⟩
  · rw [gO, slsN_app, Nat.zero_add]
    have e1 : slsN f 0 xss = slsN (fun j => if j = xss.length then m else f j) 0 xss := slsN_congr fun j hj => by rw [if_neg (by omega)]
    rw [← e1]
    simp only [slsN, if_true]
  · simp only [List.length_append, List.length_singleton] at hj
    by_cases c : j = xss.length
    · subst c
      rw [if_pos rfl, gn]
      simp [List.getD_eq_getElem?_getD]
    · have hj2 : j < xss.length := by omega
      rw [if_neg c, gk _ (h.lt j hj2).1 (h.lt j hj2).2, h.row j hj2]
      simp only [List.getD_eq_getElem?_getD]; rw [List.getElem?_append_left hj2]
  · simp only [List.length_append, List.length_singleton] at hj
    by_cases c : j = xss.length
    · rw [if_pos c]; omega
    · rw [if_neg c]; have := h.lt j (by omega); omega
  · simp only [List.length_append, List.length_singleton] at hj hl
    by_cases c : j = xss.length <;> by_cases d : l = xss.length
    · omega
    · rw [if_pos c, if_neg d] at e; have := h.lt l (by omega); omega
    · rw [if_neg c, if_pos d] at e; have := h.lt j (by omega); omega
    · rw [if_neg c, if_neg d] at e; exact h.inj j l (by omega) (by omega) e


/-- A letter of a text. -/
def lt8 (s : ByteArray) (i : Nat) : Nat := (s.data.toList.getD i 0).toNat
theorem lt_get {s : ByteArray} {i : Nat} (h : i < s.size) : (s[i]'h).toNat = lt8 s i := by
  have h2 : i < s.data.toList.length := by simpa using h
  unfold lt8
  rw [List.getD_eq_getElem?_getD, List.getElem?_eq_getElem h2]
  rfl
theorem lt_le (s : ByteArray) (i : Nat) : lt8 s i < 256 := UInt8.toNat_lt _
/-- The numbers that have left, the stack, and the next number, when so many moves are done. -/
def mvS (s : ByteArray) : Nat → Option (List Int × List Int × Nat)
  | 0 => some ([], [], 0)
  | i + 1 => match mvS s i with
    | none => none
    | some (o, st, nx) => if lt8 s i = 105 then some (o, st ++ [(nx : Int)], nx + 1) else if lt8 s i = 111 then (if st.length = 0 then none else some (o ++ [st.getD (st.length - 1) 0], st.take (st.length - 1), nx)) else none
theorem mvS_put {s : ByteArray} {i : Nat} {o st : List Int} {nx : Nat} (h : mvS s i = some (o, st, nx)) (hl : lt8 s i = 105) : mvS s (i + 1) = some (o, st ++ [(nx : Int)], nx + 1) := by rw [mvS, h]; simp only; rw [if_pos hl]
theorem mvS_pop {s : ByteArray} {i : Nat} {o st : List Int} {nx : Nat} (h : mvS s i = some (o, st, nx)) (hl : lt8 s i = 111) (h0 : 0 < st.length) : mvS s (i + 1) = some (o ++ [st.getD (st.length - 1) 0], st.take (st.length - 1), nx) := by rw [mvS, h]; simp only; rw [if_neg (by omega), if_pos hl, if_neg (by omega)]
theorem mvS_bad {s : ByteArray} {i : Nat} {o st : List Int} {nx : Nat} (h : mvS s i = some (o, st, nx)) (hl : lt8 s i ≠ 105) (hb : lt8 s i ≠ 111 ∨ st.length = 0) : mvS s (i + 1) = none := by
  rw [mvS, h]; simp only; rw [if_neg hl]; split
  · rw [if_pos (by omega)]
  · rfl
theorem mvS_none {s : ByteArray} {i : Nat} (h : mvS s i = none) : ∀ d, mvS s (i + d) = none
  | 0 => h
  | d + 1 => by rw [← Nat.add_assoc, mvS, mvS_none h d]
theorem mvS_some {s : ByteArray} {n : Nat} {x : List Int × List Int × Nat} (h : mvS s n = some x) {i : Nat} (hi : i ≤ n) : ∃ o st nx, mvS s i = some (o, st, nx) := by
  cases e : mvS s i with
  | some y => exact ⟨y.1, y.2.1, y.2.2, rfl⟩
  | none => have := mvS_none e (n - i); rw [show i + (n - i) = n by omega, h] at this; cases this
theorem mvS_len {s : ByteArray} : ∀ {i : Nat} {o st : List Int} {nx : Nat}, mvS s i = some (o, st, nx) → st.length + o.length = nx ∧ nx + o.length = i := by
  intro i
  induction i with
  | zero => intro o st nx h; simp only [mvS, Option.some.injEq, Prod.mk.injEq] at h; obtain ⟨rfl, rfl, rfl⟩ := h; simp
  | succ i ih =>
    intro o st nx h
    cases e : mvS s i with
    | none => rw [mvS, e] at h; cases h
    | some y =>
      obtain ⟨o', st', nx'⟩ := y
      have a := ih e
      by_cases h1 : lt8 s i = 105
      · rw [mvS_put e h1] at h; simp only [Option.some.injEq, Prod.mk.injEq] at h; obtain ⟨rfl, rfl, rfl⟩ := h; simp only [List.length_append, List.length_singleton]; omega
      · by_cases h2 : lt8 s i = 111 ∧ 0 < st'.length
        · rw [mvS_pop e h2.1 h2.2] at h; simp only [Option.some.injEq, Prod.mk.injEq] at h; obtain ⟨rfl, rfl, rfl⟩ := h; simp only [List.length_append, List.length_singleton, List.length_take]; omega
        · rw [mvS_bad e h1 (by omega)] at h; cases h
def mvB (s : ByteArray) : Bool := (match mvS s s.size with | some (_, st, _) => decide (st.length = 0) | none => false) && decide (s.size ≤ 16)
def mvR (s : ByteArray) : List Int := if mvB s then (match mvS s s.size with | some (o, _, _) => o | none => []) else []
theorem mvB_no {s : ByteArray} {i : Nat} (h : mvS s i = none) (hi : i ≤ s.size) : mvB s = false := by
  have := mvS_none h (s.size - i)
  rw [show i + (s.size - i) = s.size by omega] at this
  unfold mvB; rw [this]; rfl
theorem mvB_end {s : ByteArray} {o st : List Int} {nx : Nat} (h : mvS s s.size = some (o, st, nx)) : mvB s = (decide (st.length = 0) && decide (s.size ≤ 16)) := by unfold mvB; rw [h]
theorem mvB_yes {s : ByteArray} (h : mvB s = true) : s.size ≤ 16 ∧ ∃ o nx, mvS s s.size = some (o, [], nx) ∧ mvR s = o := by
  cases e : mvS s s.size with
  | none => rw [mvB_no e (Nat.le_refl _)] at h; cases h
  | some y =>
    obtain ⟨o, st, nx⟩ := y
    have h2 := h
    rw [mvB_end e, Bool.and_eq_true, decide_eq_true_eq, decide_eq_true_eq] at h2
    have : st = [] := List.eq_nil_of_length_eq_zero h2.1
    subst this
    exact ⟨h2.2, o, nx, rfl, by unfold mvR; rw [if_pos h, e]⟩
theorem mvR_no {s : ByteArray} (h : mvB s = false) : mvR s = [] := by unfold mvR; rw [h]; rfl


theorem validMoves_sat : Sat Try.prog 13 (fun ds Q => ∃ (s : ByteArray), ds = [.val (.string (s))] ∧ (s.size ≤ 1099511627776) ∧ Q (.val (.bool ((mvB s))))) := by
  refine sat_intro tabOk Try.func13 rfl 31 rfl [.tmp 2] rfl ?_
  rintro ds Q W ⟨s, rfl, hs, hQ⟩
  refine ⟨Nat.le_of_ble_eq_true rfl, ?_⟩
  simp only [initS, initT, mat.matL, mat, Cont.len]
  repeat' (first | refine awp_seq_k fun K hK => ?_ | ((with_reducible refine hK _ ?_); clear hK K) | (clear hK K; (with_reducible refine hK _ ?_); clear hK K) | (clear hK K; clear hK K; (with_reducible refine hK _ ?_); clear hK K) | (clear hK K; clear hK K; clear hK K; (with_reducible refine hK _ ?_); clear hK K) | (clear hK K; clear hK K; clear hK K; clear hK K; (with_reducible refine hK _ ?_); clear hK K) | (clear hK K; clear hK K; clear hK K; clear hK K; clear hK K; (with_reducible refine hK _ ?_); clear hK K) | ((with_reducible refine aord_plain fun K hK => ?_); simp only [go_sem, Nat.reduceAdd, Nat.reduceMul, Nat.reduceEqDiff, Nat.reduceLT, reduceIte, reduceCtorEq]) | ((with_reducible apply aord_guard); (focus (simp only [St.ev, St.set, upd, Nat.reduceEqDiff, reduceIte, if_false, if_true]; exact rfl)); all_goals (intro hb; (try simp only [Bool.not_true, Bool.not_false] at hb); first | (cases hb; done) | ((try rw [hb]); (try simp only [Bool.not_eq_true', Bool.not_eq_false', Bool.and_eq_true, decide_eq_true_eq, decide_eq_false_iff_not, beq_iff_eq, bne_iff_ne, beq_eq_false_iff_ne, bne_eq_false_iff_eq, Int.not_lt, Int.not_le] at hb); (try (revert hb; with_reducible refine true_imp_iff.2 ?_)); first | (intro K hK; simp only [go_sem, Nat.reduceAdd, Nat.reduceMul, Nat.reduceEqDiff, Nat.reduceLT, reduceIte, reduceCtorEq]) | (simp only [St.ev, St.set, upd, Nat.reduceEqDiff, reduceIte, if_false, if_true]) | skip))) | ((with_reducible apply aord_skip); (focus (simp only [St.ev, St.set, upd, Nat.reduceEqDiff, reduceIte, if_false, if_true]; done)); (simp only [St.ev, St.set, upd, Nat.reduceEqDiff, reduceIte, if_false, if_true])) | refine awp_block ?_ | ((first | with_reducible refine aord_nil ?_ | refine awp_skip ?_ | refine awp_exit ?_ | refine awp_ret ?_); try simp only [thenA_normal, thenA_exit, thenA_goto, thenA_ret, blockA_normal, blockA_same, blockA_exit, blockA_goto, blockA_ret, Nat.reduceEqDiff, if_false, if_true, reduceIte]) | (refine awp_region tabOk rfl ?_; simp only [prep, pickO, List.map_cons, List.map_nil, List.getElem?_toArray, List.getElem?_cons_succ, List.getElem?_cons_zero, Option.bind_some, Option.map_some]) | ((with_reducible apply awp_cond); (focus (simp only [St.ev, St.set, upd, Nat.reduceEqDiff, reduceIte, if_false, if_true]; exact rfl)); all_goals (intro hb; first | (cases hb; done) | ((try rw [hb]); (try simp only [decide_eq_true_eq, decide_eq_false_iff_not, beq_iff_eq, bne_iff_ne, beq_eq_false_iff_ne, bne_eq_false_iff_eq, Int.not_lt, Int.not_le, Bool.not_eq_true', Bool.not_eq_false'] at hb)))) | ((with_reducible refine And.intro ?_ ?_); (focus omega)) | ((with_reducible refine And.intro ?_ ?_); (focus (exact rfl))) | (with_reducible refine And.intro (fun hb => ?_) (fun hb => ?_)) | (exfalso; omega) | fail)
  refine awp_loopE (α := (Nat) × (List Int) × (List Int) × (Nat)) (fun s p => ⟨(upd (upd (upd bot 0 (s.tmps 0)) 3 (.val (.int .i64 ((p.2.1).length)))) 4 (.val (.int .i64 ((p.1))))), s.heap, s.next⟩) _ (fun p => by simp only [St.ev, St.set, upd, Nat.reduceEqDiff, reduceIte, if_false, if_true]; exact rfl) (fun p => ((p.1) ≤ s.size) ∧ (mvS s (p.1) = some ((p.2.2.1), (p.2.1), (p.2.2.2)))) (fun p => s.size - (p.1)) (0, [], [], 0) ?_ ?_ ?_
  · (try simp only); (refine ⟨?_, ?_⟩ <;> (first | omega | rfl))
  · (apply Wk.same; (case' h2 => (focus ((repeat' (with_reducible first | exact HeapX.bot | (apply HeapX.skip; (case hx => (simp; done))) | apply HeapX.none | apply HeapX.upd)); all_goals (first | rfl | exact Nat.le_of_ble_eq_true rfl | (simp only [St.set, St.ev, upd, ren, renL, id, Nat.reduceEqDiff, reduceIte, ContLe]; done) | (exact And.intro rfl (And.intro (by first | exact Nat.le_of_ble_eq_true rfl | omega) (by first | exact Nat.le_of_ble_eq_true rfl | omega))) | (first | (simp only [St.set, St.ev, upd, ren, renL, id, Nat.reduceEqDiff, reduceIte]; exact contLe_nil) | ((repeat' (first | exact contLe_nil | refine contLe_cons (.inr ⟨?_, rfl⟩) ?_)); all_goals (first | rfl | (simp only [St.set, St.ev, upd, ren, renL, id, Nat.reduceEqDiff, reduceIte]; done) | ((try simp only [St.set, St.ev, upd, ren, renL, id, Nat.reduceEqDiff, reduceIte]); first | (with_reducible exact av_int (by omega)) | (with_reducible exact av_sl (by first | omega | (simp; done) | (simp; omega)) (by first | omega | (simp; done) | (simp; omega)))) | (simp only [St.set, St.ev, upd, ren, renL, id, Nat.reduceEqDiff, reduceIte, Int.natCast_add, Int.natCast_one, Int.cast_ofNat_Int, Int.natCast_zero]; done) | (simp only [St.set, St.ev, upd, ren, renL, id, Nat.reduceEqDiff, reduceIte]) | skip); done)) | (simp only [St.set, St.ev, upd, ren, renL, id, Nat.reduceEqDiff, reduceIte, ContLe]) | skip)))); (case' h1 => (focus ((repeat' (with_reducible first | exact TmpLe.bot | refine TmpLe.upd ?_ rfl ?_)); all_goals (first | rfl | (simp only [St.set, St.ev, upd, ren, renL, id, Nat.reduceEqDiff, reduceIte]; done) | ((try simp only [St.set, St.ev, upd, ren, renL, id, Nat.reduceEqDiff, reduceIte]); first | (with_reducible exact av_int (by omega)) | (with_reducible exact av_sl (by first | omega | (simp; done) | (simp; omega)) (by first | omega | (simp; done) | (simp; omega)))) | (simp only [St.set, St.ev, upd, ren, renL, id, Nat.reduceEqDiff, reduceIte, Int.natCast_add, Int.natCast_one, Int.cast_ofNat_Int, Int.natCast_zero]; done) | (simp only [St.set, St.ev, upd, ren, renL, id, Nat.reduceEqDiff, reduceIte]) | skip)))); (case h3 => (focus (first | (simp only [id, List.map_cons, List.map_nil]; decide) | decide | (simp; done) | (simp; omega) | fail))); (case h4 => (intro o l h; first | (cases h; done) | (have hlt0 := m0_lt (by assumption) h; (try (simp only at hlt0)); first | omega | (simp only; omega) | exact ⟨by (first | rfl | (simp only [id]; done) | ((repeat rw [if_neg (by omega)]); done)), by first | omega | (simp only; omega)⟩))))
  rintro ⟨i, st, o, nx⟩ ⟨hi, hR⟩
  try simp only at hi hR
  have hln := mvS_len hR
  rcases Nat.lt_or_ge i s.size with hil | hil
  · have hlg := lt_get hil
    have g1 : decide ((i : Int) < (s.size : Int)) = true := decide_eq_true (by omega)
    have hll := lt_le s i

    repeat' (first | refine awp_seq_k fun K hK => ?_ | ((with_reducible refine hK _ ?_); clear hK K) | (clear hK K; (with_reducible refine hK _ ?_); clear hK K) | (clear hK K; clear hK K; (with_reducible refine hK _ ?_); clear hK K) | (clear hK K; clear hK K; clear hK K; (with_reducible refine hK _ ?_); clear hK K) | (clear hK K; clear hK K; clear hK K; clear hK K; (with_reducible refine hK _ ?_); clear hK K) | (clear hK K; clear hK K; clear hK K; clear hK K; clear hK K; (with_reducible refine hK _ ?_); clear hK K) | ((with_reducible refine aord_plain fun K hK => ?_); simp only [go_sem, Nat.reduceAdd, Nat.reduceMul, Nat.reduceEqDiff, Nat.reduceLT, reduceIte, reduceCtorEq, g1, Int.toNat_natCast]) | ((with_reducible apply aord_guard); (focus (simp only [St.ev, St.set, upd, Nat.reduceEqDiff, reduceIte, if_false, if_true]; exact rfl)); all_goals (intro hb; (try simp only [Bool.not_true, Bool.not_false] at hb); first | (cases hb; done) | ((try rw [hb]); (try simp only [Bool.not_eq_true', Bool.not_eq_false', Bool.and_eq_true, decide_eq_true_eq, decide_eq_false_iff_not, beq_iff_eq, bne_iff_ne, beq_eq_false_iff_ne, bne_eq_false_iff_eq, Int.not_lt, Int.not_le] at hb); (try (revert hb; with_reducible refine true_imp_iff.2 ?_)); first | (intro K hK; simp only [go_sem, Nat.reduceAdd, Nat.reduceMul, Nat.reduceEqDiff, Nat.reduceLT, reduceIte, reduceCtorEq]) | (simp only [St.ev, St.set, upd, Nat.reduceEqDiff, reduceIte, if_false, if_true]) | skip))) | ((with_reducible apply aord_skip); (focus (simp only [St.ev, St.set, upd, Nat.reduceEqDiff, reduceIte, if_false, if_true]; done)); (simp only [St.ev, St.set, upd, Nat.reduceEqDiff, reduceIte, if_false, if_true])) | refine awp_block ?_ | ((first | with_reducible refine aord_nil ?_ | refine awp_skip ?_ | refine awp_exit ?_ | refine awp_ret ?_); try simp only [thenA_normal, thenA_exit, thenA_goto, thenA_ret, blockA_normal, blockA_same, blockA_exit, blockA_goto, blockA_ret, Nat.reduceEqDiff, if_false, if_true, reduceIte]) | (refine awp_region tabOk rfl ?_; simp only [prep, pickO, List.map_cons, List.map_nil, List.getElem?_toArray, List.getElem?_cons_succ, List.getElem?_cons_zero, Option.bind_some, Option.map_some]) | ((with_reducible apply awp_cond); (focus (simp only [St.ev, St.set, upd, Nat.reduceEqDiff, reduceIte, if_false, if_true]; exact rfl)); all_goals (intro hb; first | (cases hb; done) | ((try rw [hb]); (try simp only [decide_eq_true_eq, decide_eq_false_iff_not, beq_iff_eq, bne_iff_ne, beq_eq_false_iff_ne, bne_eq_false_iff_eq, Int.not_lt, Int.not_le, Bool.not_eq_true', Bool.not_eq_false'] at hb)))) | ((with_reducible refine And.intro ?_ ?_); (focus omega)) | ((with_reducible refine And.intro ?_ ?_); (focus (exact rfl))) | (with_reducible refine And.intro (fun hb => ?_) (fun hb => ?_)) | (exfalso; omega) | fail)
    refine ⟨hil, ?_⟩
    simp only [hlg]
    rcases (show lt8 s i = 105 ∨ (lt8 s i = 111 ∧ 0 < st.length) ∨ (lt8 s i ≠ 105 ∧ (lt8 s i ≠ 111 ∨ st.length = 0)) by omega) with h1 | ⟨h1, h0⟩ | ⟨h1, h2⟩
    · have g2 : (((lt8 s i : Nat) : Int) == 105) = true := beq_iff_eq.2 (by omega)
      have hu := mvS_put hR h1

      repeat' (first | refine awp_seq_k fun K hK => ?_ | ((with_reducible refine hK _ ?_); clear hK K) | (clear hK K; (with_reducible refine hK _ ?_); clear hK K) | (clear hK K; clear hK K; (with_reducible refine hK _ ?_); clear hK K) | (clear hK K; clear hK K; clear hK K; (with_reducible refine hK _ ?_); clear hK K) | (clear hK K; clear hK K; clear hK K; clear hK K; (with_reducible refine hK _ ?_); clear hK K) | (clear hK K; clear hK K; clear hK K; clear hK K; clear hK K; (with_reducible refine hK _ ?_); clear hK K) | ((with_reducible refine aord_plain fun K hK => ?_); simp only [go_sem, Nat.reduceAdd, Nat.reduceMul, Nat.reduceEqDiff, Nat.reduceLT, reduceIte, reduceCtorEq, g2]) | ((with_reducible apply aord_guard); (focus (simp only [St.ev, St.set, upd, Nat.reduceEqDiff, reduceIte, if_false, if_true]; exact rfl)); all_goals (intro hb; (try simp only [Bool.not_true, Bool.not_false] at hb); first | (cases hb; done) | ((try rw [hb]); (try simp only [Bool.not_eq_true', Bool.not_eq_false', Bool.and_eq_true, decide_eq_true_eq, decide_eq_false_iff_not, beq_iff_eq, bne_iff_ne, beq_eq_false_iff_ne, bne_eq_false_iff_eq, Int.not_lt, Int.not_le] at hb); (try (revert hb; with_reducible refine true_imp_iff.2 ?_)); first | (intro K hK; simp only [go_sem, Nat.reduceAdd, Nat.reduceMul, Nat.reduceEqDiff, Nat.reduceLT, reduceIte, reduceCtorEq]) | (simp only [St.ev, St.set, upd, Nat.reduceEqDiff, reduceIte, if_false, if_true]) | skip))) | ((with_reducible apply aord_skip); (focus (simp only [St.ev, St.set, upd, Nat.reduceEqDiff, reduceIte, if_false, if_true]; done)); (simp only [St.ev, St.set, upd, Nat.reduceEqDiff, reduceIte, if_false, if_true])) | refine awp_block ?_ | ((first | with_reducible refine aord_nil ?_ | refine awp_skip ?_ | refine awp_exit ?_ | refine awp_ret ?_); try simp only [thenA_normal, thenA_exit, thenA_goto, thenA_ret, blockA_normal, blockA_same, blockA_exit, blockA_goto, blockA_ret, Nat.reduceEqDiff, if_false, if_true, reduceIte]) | (refine awp_region tabOk rfl ?_; simp only [prep, pickO, List.map_cons, List.map_nil, List.getElem?_toArray, List.getElem?_cons_succ, List.getElem?_cons_zero, Option.bind_some, Option.map_some]) | ((with_reducible apply awp_cond); (focus (simp only [St.ev, St.set, upd, Nat.reduceEqDiff, reduceIte, if_false, if_true]; exact rfl)); all_goals (intro hb; first | (cases hb; done) | ((try rw [hb]); (try simp only [decide_eq_true_eq, decide_eq_false_iff_not, beq_iff_eq, bne_iff_ne, beq_eq_false_iff_ne, bne_eq_false_iff_eq, Int.not_lt, Int.not_le, Bool.not_eq_true', Bool.not_eq_false'] at hb)))) | ((with_reducible refine And.intro ?_ ?_); (focus omega)) | ((with_reducible refine And.intro ?_ ?_); (focus (exact rfl))) | (with_reducible refine And.intro (fun hb => ?_) (fun hb => ?_)) | (exfalso; omega) | fail)
      ((refine Exists.intro (i + 1, st ++ [(nx : Int)], o, nx + 1) ?_); (refine nxt ?_ ?_ ?_); (focus ((apply Wk.same; (case' h2 => (focus ((repeat' (with_reducible first | exact HeapX.bot | (apply HeapX.skip; (case hx => (simp; done))) | apply HeapX.none | apply HeapX.upd)); all_goals (first | rfl | exact Nat.le_of_ble_eq_true rfl | (simp only [St.set, St.ev, upd, ren, renL, id, Nat.reduceEqDiff, reduceIte, ContLe]; done) | (exact And.intro rfl (And.intro (by first | exact Nat.le_of_ble_eq_true rfl | omega) (by first | exact Nat.le_of_ble_eq_true rfl | omega))) | (first | (simp only [St.set, St.ev, upd, ren, renL, id, Nat.reduceEqDiff, reduceIte]; exact contLe_nil) | ((repeat' (first | exact contLe_nil | refine contLe_cons (.inr ⟨?_, rfl⟩) ?_)); all_goals (first | rfl | (simp only [St.set, St.ev, upd, ren, renL, id, Nat.reduceEqDiff, reduceIte]; done) | ((try simp only [St.set, St.ev, upd, ren, renL, id, Nat.reduceEqDiff, reduceIte]); first | (with_reducible exact av_int (by omega)) | (with_reducible exact av_sl (by first | omega | (simp; done) | (simp; omega)) (by first | omega | (simp; done) | (simp; omega)))) | (simp only [St.set, St.ev, upd, ren, renL, id, Nat.reduceEqDiff, reduceIte, Int.natCast_add, Int.natCast_one, Int.cast_ofNat_Int, Int.natCast_zero]; done) | (simp only [St.set, St.ev, upd, ren, renL, id, Nat.reduceEqDiff, reduceIte]) | skip); done)) | (simp only [St.set, St.ev, upd, ren, renL, id, Nat.reduceEqDiff, reduceIte, ContLe]) | skip)))); (case' h1 => (focus ((repeat' (with_reducible first | exact TmpLe.bot | refine TmpLe.upd ?_ rfl ?_)); all_goals (first | rfl | (simp only [St.set, St.ev, upd, ren, renL, id, Nat.reduceEqDiff, reduceIte]; done) | ((try simp only [St.set, St.ev, upd, ren, renL, id, Nat.reduceEqDiff, reduceIte]); first | (with_reducible exact av_int (by omega)) | (with_reducible exact av_sl (by first | omega | (simp; done) | (simp; omega)) (by first | omega | (simp; done) | (simp; omega)))) | (simp only [St.set, St.ev, upd, ren, renL, id, Nat.reduceEqDiff, reduceIte, Int.natCast_add, Int.natCast_one, Int.cast_ofNat_Int, Int.natCast_zero]; done) | (simp only [St.set, St.ev, upd, ren, renL, id, Nat.reduceEqDiff, reduceIte]) | skip)))); (case h3 => (focus (first | (simp only [id, List.map_cons, List.map_nil]; decide) | decide | (simp; done) | (simp; omega) | fail))); (case h4 => (intro o l h; first | (cases h; done) | (have hlt0 := m0_lt (by assumption) h; (try (simp only at hlt0)); first | omega | (simp only; omega) | exact ⟨by (first | rfl | (simp only [id]; done) | ((repeat rw [if_neg (by omega)]); done)), by first | omega | (simp only; omega)⟩)))))); (focus (first | omega | (simp only; omega) | (simp only [List.length_take]; omega) | (simp; done) | (simp; omega))); ((repeat' (with_reducible apply And.intro)) <;> (first | omega | (simp only; omega) | assumption | rfl | ((try simp only); skip) | skip)))
      exact ⟨(show i + 1 ≤ s.size by omega), hu⟩
    · have g2 : (((lt8 s i : Nat) : Int) == 105) = false := beq_eq_false_iff_ne.2 (by omega)
      have g3 : (((lt8 s i : Nat) : Int) == 111) = true := beq_iff_eq.2 (by omega)
      have hu := mvS_pop hR h1 h0
      have hk : (st.take (st.length - 1)).length = st.length - 1 := by simp

      repeat' (first | refine awp_seq_k fun K hK => ?_ | ((with_reducible refine hK _ ?_); clear hK K) | (clear hK K; (with_reducible refine hK _ ?_); clear hK K) | (clear hK K; clear hK K; (with_reducible refine hK _ ?_); clear hK K) | (clear hK K; clear hK K; clear hK K; (with_reducible refine hK _ ?_); clear hK K) | (clear hK K; clear hK K; clear hK K; clear hK K; (with_reducible refine hK _ ?_); clear hK K) | (clear hK K; clear hK K; clear hK K; clear hK K; clear hK K; (with_reducible refine hK _ ?_); clear hK K) | ((with_reducible refine aord_plain fun K hK => ?_); simp only [go_sem, Nat.reduceAdd, Nat.reduceMul, Nat.reduceEqDiff, Nat.reduceLT, reduceIte, reduceCtorEq, g2, g3]) | ((with_reducible apply aord_guard); (focus (simp only [St.ev, St.set, upd, Nat.reduceEqDiff, reduceIte, if_false, if_true]; exact rfl)); all_goals (intro hb; (try simp only [Bool.not_true, Bool.not_false] at hb); first | (cases hb; done) | ((try rw [hb]); (try simp only [Bool.not_eq_true', Bool.not_eq_false', Bool.and_eq_true, decide_eq_true_eq, decide_eq_false_iff_not, beq_iff_eq, bne_iff_ne, beq_eq_false_iff_ne, bne_eq_false_iff_eq, Int.not_lt, Int.not_le] at hb); (try (revert hb; with_reducible refine true_imp_iff.2 ?_)); first | (intro K hK; simp only [go_sem, Nat.reduceAdd, Nat.reduceMul, Nat.reduceEqDiff, Nat.reduceLT, reduceIte, reduceCtorEq]) | (simp only [St.ev, St.set, upd, Nat.reduceEqDiff, reduceIte, if_false, if_true]) | skip))) | ((with_reducible apply aord_skip); (focus (simp only [St.ev, St.set, upd, Nat.reduceEqDiff, reduceIte, if_false, if_true]; done)); (simp only [St.ev, St.set, upd, Nat.reduceEqDiff, reduceIte, if_false, if_true])) | refine awp_block ?_ | ((first | with_reducible refine aord_nil ?_ | refine awp_skip ?_ | refine awp_exit ?_ | refine awp_ret ?_); try simp only [thenA_normal, thenA_exit, thenA_goto, thenA_ret, blockA_normal, blockA_same, blockA_exit, blockA_goto, blockA_ret, Nat.reduceEqDiff, if_false, if_true, reduceIte]) | (refine awp_region tabOk rfl ?_; simp only [prep, pickO, List.map_cons, List.map_nil, List.getElem?_toArray, List.getElem?_cons_succ, List.getElem?_cons_zero, Option.bind_some, Option.map_some]) | ((with_reducible apply awp_cond); (focus (simp only [St.ev, St.set, upd, Nat.reduceEqDiff, reduceIte, if_false, if_true]; exact rfl)); all_goals (intro hb; first | (cases hb; done) | ((try rw [hb]); (try simp only [decide_eq_true_eq, decide_eq_false_iff_not, beq_iff_eq, bne_iff_ne, beq_eq_false_iff_ne, bne_eq_false_iff_eq, Int.not_lt, Int.not_le, Bool.not_eq_true', Bool.not_eq_false'] at hb)))) | ((with_reducible refine And.intro ?_ ?_); (focus omega)) | ((with_reducible refine And.intro ?_ ?_); (focus (exact rfl))) | (with_reducible refine And.intro (fun hb => ?_) (fun hb => ?_)) | (exfalso; omega) | fail)
      ((apply Exists.intro (i + 1, st.take (st.length - 1), _, nx)); (refine nxt ?_ ?_ ?_); (focus ((apply Wk.same; (case' h2 => (focus ((repeat' (with_reducible first | exact HeapX.bot | (apply HeapX.skip; (case hx => (simp; done))) | apply HeapX.none | apply HeapX.upd)); all_goals (first | rfl | exact Nat.le_of_ble_eq_true rfl | (simp only [St.set, St.ev, upd, ren, renL, id, Nat.reduceEqDiff, reduceIte, ContLe]; done) | (exact And.intro rfl (And.intro (by first | exact Nat.le_of_ble_eq_true rfl | omega) (by first | exact Nat.le_of_ble_eq_true rfl | omega))) | (first | (simp only [St.set, St.ev, upd, ren, renL, id, Nat.reduceEqDiff, reduceIte]; exact contLe_nil) | ((repeat' (first | exact contLe_nil | refine contLe_cons (.inr ⟨?_, rfl⟩) ?_)); all_goals (first | rfl | (simp only [St.set, St.ev, upd, ren, renL, id, Nat.reduceEqDiff, reduceIte]; done) | ((try simp only [St.set, St.ev, upd, ren, renL, id, Nat.reduceEqDiff, reduceIte]); first | (with_reducible exact av_int (by omega)) | (with_reducible exact av_sl (by first | omega | (simp; done) | (simp; omega)) (by first | omega | (simp; done) | (simp; omega)))) | (simp only [St.set, St.ev, upd, ren, renL, id, Nat.reduceEqDiff, reduceIte, Int.natCast_add, Int.natCast_one, Int.cast_ofNat_Int, Int.natCast_zero]; done) | (simp only [St.set, St.ev, upd, ren, renL, id, Nat.reduceEqDiff, reduceIte]) | skip); done)) | (simp only [St.set, St.ev, upd, ren, renL, id, Nat.reduceEqDiff, reduceIte, ContLe]) | skip)))); (case' h1 => (focus ((repeat' (with_reducible first | exact TmpLe.bot | refine TmpLe.upd ?_ rfl ?_)); all_goals (first | rfl | (simp only [St.set, St.ev, upd, ren, renL, id, Nat.reduceEqDiff, reduceIte]; done) | ((try simp only [St.set, St.ev, upd, ren, renL, id, Nat.reduceEqDiff, reduceIte]); first | (with_reducible exact av_int (by omega)) | (with_reducible exact av_sl (by first | omega | (simp; done) | (simp; omega)) (by first | omega | (simp; done) | (simp; omega)))) | (simp only [St.set, St.ev, upd, ren, renL, id, Nat.reduceEqDiff, reduceIte, Int.natCast_add, Int.natCast_one, Int.cast_ofNat_Int, Int.natCast_zero]; done) | (simp only [St.set, St.ev, upd, ren, renL, id, Nat.reduceEqDiff, reduceIte]) | skip)))); (case h3 => (focus (first | (simp only [id, List.map_cons, List.map_nil]; decide) | decide | (simp; done) | (simp; omega) | fail))); (case h4 => (intro o l h; first | (cases h; done) | (have hlt0 := m0_lt (by assumption) h; (try (simp only at hlt0)); first | omega | (simp only; omega) | exact ⟨by (first | rfl | (simp only [id]; done) | ((repeat rw [if_neg (by omega)]); done)), by first | omega | (simp only; omega)⟩)))))); (focus (first | omega | (simp only; omega) | (simp only [List.length_take]; omega) | (simp; done) | (simp; omega))); ((repeat' (with_reducible apply And.intro)) <;> (first | omega | (simp only; omega) | assumption | rfl | ((try simp only); first | omega | exact hu | exact ⟨(show i + 1 ≤ s.size by omega), hu⟩) | skip)))
    · have g2 : (((lt8 s i : Nat) : Int) == 105) = false := beq_eq_false_iff_ne.2 (by omega)
      have hu := mvS_bad hR h1 h2
      rw [mvB_no hu (by omega)] at hQ

      repeat' (first | refine awp_seq_k fun K hK => ?_ | ((with_reducible refine hK _ ?_); clear hK K) | (clear hK K; (with_reducible refine hK _ ?_); clear hK K) | (clear hK K; clear hK K; (with_reducible refine hK _ ?_); clear hK K) | (clear hK K; clear hK K; clear hK K; (with_reducible refine hK _ ?_); clear hK K) | (clear hK K; clear hK K; clear hK K; clear hK K; (with_reducible refine hK _ ?_); clear hK K) | (clear hK K; clear hK K; clear hK K; clear hK K; clear hK K; (with_reducible refine hK _ ?_); clear hK K) | ((with_reducible refine aord_plain fun K hK => ?_); simp only [go_sem, Nat.reduceAdd, Nat.reduceMul, Nat.reduceEqDiff, Nat.reduceLT, reduceIte, reduceCtorEq, g2]) | ((with_reducible apply aord_guard); (focus (simp only [St.ev, St.set, upd, Nat.reduceEqDiff, reduceIte, if_false, if_true]; exact rfl)); all_goals (intro hb; (try simp only [Bool.not_true, Bool.not_false] at hb); first | (cases hb; done) | ((try rw [hb]); (try simp only [Bool.not_eq_true', Bool.not_eq_false', Bool.and_eq_true, decide_eq_true_eq, decide_eq_false_iff_not, beq_iff_eq, bne_iff_ne, beq_eq_false_iff_ne, bne_eq_false_iff_eq, Int.not_lt, Int.not_le] at hb); (try (revert hb; with_reducible refine true_imp_iff.2 ?_)); first | (intro K hK; simp only [go_sem, Nat.reduceAdd, Nat.reduceMul, Nat.reduceEqDiff, Nat.reduceLT, reduceIte, reduceCtorEq]) | (simp only [St.ev, St.set, upd, Nat.reduceEqDiff, reduceIte, if_false, if_true]) | skip))) | ((with_reducible apply aord_skip); (focus (simp only [St.ev, St.set, upd, Nat.reduceEqDiff, reduceIte, if_false, if_true]; done)); (simp only [St.ev, St.set, upd, Nat.reduceEqDiff, reduceIte, if_false, if_true])) | refine awp_block ?_ | ((first | with_reducible refine aord_nil ?_ | refine awp_skip ?_ | refine awp_exit ?_ | refine awp_ret ?_); try simp only [thenA_normal, thenA_exit, thenA_goto, thenA_ret, blockA_normal, blockA_same, blockA_exit, blockA_goto, blockA_ret, Nat.reduceEqDiff, if_false, if_true, reduceIte]) | (refine awp_region tabOk rfl ?_; simp only [prep, pickO, List.map_cons, List.map_nil, List.getElem?_toArray, List.getElem?_cons_succ, List.getElem?_cons_zero, Option.bind_some, Option.map_some]) | ((with_reducible apply awp_cond); (focus (simp only [St.ev, St.set, upd, Nat.reduceEqDiff, reduceIte, if_false, if_true]; exact rfl)); all_goals (intro hb; first | (cases hb; done) | ((try rw [hb]); (try simp only [decide_eq_true_eq, decide_eq_false_iff_not, beq_iff_eq, bne_iff_ne, beq_eq_false_iff_ne, bne_eq_false_iff_eq, Int.not_lt, Int.not_le, Bool.not_eq_true', Bool.not_eq_false'] at hb)))) | ((with_reducible refine And.intro ?_ ?_); (focus omega)) | ((with_reducible refine And.intro ?_ ?_); (focus (exact rfl))) | (with_reducible refine And.intro (fun hb => ?_) (fun hb => ?_)) | (exfalso; omega) | fail)
      all_goals (simp only [St.set, St.ev, doneQ, doneH, ressK, resK, wrapR, AV.ids, AV.idsL, retK, retsK, upd, Nat.reduceEqDiff, reduceIte, if_false, if_true, List.nodup_nil, List.nodup_cons, List.not_mem_nil, not_false_eq_true, true_and, and_true, exists_eq_left', Option.some.injEq, rLoad, cellOf, tab, Ty.isAgg, Ty.one, Bool.false_eq_true]; exact hQ)
  · obtain rfl : i = s.size := by omega
    have g1 : decide ((s.size : Int) < (s.size : Int)) = false := decide_eq_false (by omega)
    have g4 : decide ((s.size : Int) ≤ 16) = decide (s.size ≤ 16) := decide_eq_decide.2 (by omega)
    rw [mvB_end hR] at hQ
    rcases (show st.length = 0 ∨ 0 < st.length by omega) with h0 | h0
    · have g2 : ((st.length : Int) == 0) = true := beq_iff_eq.2 (by omega)
      rw [decide_eq_true h0, Bool.true_and] at hQ

      repeat' (first | refine awp_seq_k fun K hK => ?_ | ((with_reducible refine hK _ ?_); clear hK K) | (clear hK K; (with_reducible refine hK _ ?_); clear hK K) | (clear hK K; clear hK K; (with_reducible refine hK _ ?_); clear hK K) | (clear hK K; clear hK K; clear hK K; (with_reducible refine hK _ ?_); clear hK K) | (clear hK K; clear hK K; clear hK K; clear hK K; (with_reducible refine hK _ ?_); clear hK K) | (clear hK K; clear hK K; clear hK K; clear hK K; clear hK K; (with_reducible refine hK _ ?_); clear hK K) | ((with_reducible refine aord_plain fun K hK => ?_); simp only [go_sem, Nat.reduceAdd, Nat.reduceMul, Nat.reduceEqDiff, Nat.reduceLT, reduceIte, reduceCtorEq, g1, g2, g4]) | ((with_reducible apply aord_guard); (focus (simp only [St.ev, St.set, upd, Nat.reduceEqDiff, reduceIte, if_false, if_true]; exact rfl)); all_goals (intro hb; (try simp only [Bool.not_true, Bool.not_false] at hb); first | (cases hb; done) | ((try rw [hb]); (try simp only [Bool.not_eq_true', Bool.not_eq_false', Bool.and_eq_true, decide_eq_true_eq, decide_eq_false_iff_not, beq_iff_eq, bne_iff_ne, beq_eq_false_iff_ne, bne_eq_false_iff_eq, Int.not_lt, Int.not_le] at hb); (try (revert hb; with_reducible refine true_imp_iff.2 ?_)); first | (intro K hK; simp only [go_sem, Nat.reduceAdd, Nat.reduceMul, Nat.reduceEqDiff, Nat.reduceLT, reduceIte, reduceCtorEq]) | (simp only [St.ev, St.set, upd, Nat.reduceEqDiff, reduceIte, if_false, if_true]) | skip))) | ((with_reducible apply aord_skip); (focus (simp only [St.ev, St.set, upd, Nat.reduceEqDiff, reduceIte, if_false, if_true]; done)); (simp only [St.ev, St.set, upd, Nat.reduceEqDiff, reduceIte, if_false, if_true])) | refine awp_block ?_ | ((first | with_reducible refine aord_nil ?_ | refine awp_skip ?_ | refine awp_exit ?_ | refine awp_ret ?_); try simp only [thenA_normal, thenA_exit, thenA_goto, thenA_ret, blockA_normal, blockA_same, blockA_exit, blockA_goto, blockA_ret, Nat.reduceEqDiff, if_false, if_true, reduceIte]) | (refine awp_region tabOk rfl ?_; simp only [prep, pickO, List.map_cons, List.map_nil, List.getElem?_toArray, List.getElem?_cons_succ, List.getElem?_cons_zero, Option.bind_some, Option.map_some]) | ((with_reducible apply awp_cond); (focus (simp only [St.ev, St.set, upd, Nat.reduceEqDiff, reduceIte, if_false, if_true]; exact rfl)); all_goals (intro hb; first | (cases hb; done) | ((try rw [hb]); (try simp only [decide_eq_true_eq, decide_eq_false_iff_not, beq_iff_eq, bne_iff_ne, beq_eq_false_iff_ne, bne_eq_false_iff_eq, Int.not_lt, Int.not_le, Bool.not_eq_true', Bool.not_eq_false'] at hb)))) | ((with_reducible refine And.intro ?_ ?_); (focus omega)) | ((with_reducible refine And.intro ?_ ?_); (focus (exact rfl))) | (with_reducible refine And.intro (fun hb => ?_) (fun hb => ?_)) | (exfalso; omega) | fail)
      all_goals (simp only [St.set, St.ev, doneQ, doneH, ressK, resK, wrapR, AV.ids, AV.idsL, retK, retsK, upd, Nat.reduceEqDiff, reduceIte, if_false, if_true, List.nodup_nil, List.nodup_cons, List.not_mem_nil, not_false_eq_true, true_and, and_true, exists_eq_left', Option.some.injEq, rLoad, cellOf, tab, Ty.isAgg, Ty.one, Bool.false_eq_true]; exact hQ)
    · have g2 : ((st.length : Int) == 0) = false := beq_eq_false_iff_ne.2 (by omega)
      rw [decide_eq_false (by omega), Bool.false_and] at hQ

      repeat' (first | refine awp_seq_k fun K hK => ?_ | ((with_reducible refine hK _ ?_); clear hK K) | (clear hK K; (with_reducible refine hK _ ?_); clear hK K) | (clear hK K; clear hK K; (with_reducible refine hK _ ?_); clear hK K) | (clear hK K; clear hK K; clear hK K; (with_reducible refine hK _ ?_); clear hK K) | (clear hK K; clear hK K; clear hK K; clear hK K; (with_reducible refine hK _ ?_); clear hK K) | (clear hK K; clear hK K; clear hK K; clear hK K; clear hK K; (with_reducible refine hK _ ?_); clear hK K) | ((with_reducible refine aord_plain fun K hK => ?_); simp only [go_sem, Nat.reduceAdd, Nat.reduceMul, Nat.reduceEqDiff, Nat.reduceLT, reduceIte, reduceCtorEq, g1, g2, g4]) | ((with_reducible apply aord_guard); (focus (simp only [St.ev, St.set, upd, Nat.reduceEqDiff, reduceIte, if_false, if_true]; exact rfl)); all_goals (intro hb; (try simp only [Bool.not_true, Bool.not_false] at hb); first | (cases hb; done) | ((try rw [hb]); (try simp only [Bool.not_eq_true', Bool.not_eq_false', Bool.and_eq_true, decide_eq_true_eq, decide_eq_false_iff_not, beq_iff_eq, bne_iff_ne, beq_eq_false_iff_ne, bne_eq_false_iff_eq, Int.not_lt, Int.not_le] at hb); (try (revert hb; with_reducible refine true_imp_iff.2 ?_)); first | (intro K hK; simp only [go_sem, Nat.reduceAdd, Nat.reduceMul, Nat.reduceEqDiff, Nat.reduceLT, reduceIte, reduceCtorEq]) | (simp only [St.ev, St.set, upd, Nat.reduceEqDiff, reduceIte, if_false, if_true]) | skip))) | ((with_reducible apply aord_skip); (focus (simp only [St.ev, St.set, upd, Nat.reduceEqDiff, reduceIte, if_false, if_true]; done)); (simp only [St.ev, St.set, upd, Nat.reduceEqDiff, reduceIte, if_false, if_true])) | refine awp_block ?_ | ((first | with_reducible refine aord_nil ?_ | refine awp_skip ?_ | refine awp_exit ?_ | refine awp_ret ?_); try simp only [thenA_normal, thenA_exit, thenA_goto, thenA_ret, blockA_normal, blockA_same, blockA_exit, blockA_goto, blockA_ret, Nat.reduceEqDiff, if_false, if_true, reduceIte]) | (refine awp_region tabOk rfl ?_; simp only [prep, pickO, List.map_cons, List.map_nil, List.getElem?_toArray, List.getElem?_cons_succ, List.getElem?_cons_zero, Option.bind_some, Option.map_some]) | ((with_reducible apply awp_cond); (focus (simp only [St.ev, St.set, upd, Nat.reduceEqDiff, reduceIte, if_false, if_true]; exact rfl)); all_goals (intro hb; first | (cases hb; done) | ((try rw [hb]); (try simp only [decide_eq_true_eq, decide_eq_false_iff_not, beq_iff_eq, bne_iff_ne, beq_eq_false_iff_ne, bne_eq_false_iff_eq, Int.not_lt, Int.not_le, Bool.not_eq_true', Bool.not_eq_false'] at hb)))) | ((with_reducible refine And.intro ?_ ?_); (focus omega)) | ((with_reducible refine And.intro ?_ ?_); (focus (exact rfl))) | (with_reducible refine And.intro (fun hb => ?_) (fun hb => ?_)) | (exfalso; omega) | fail)
      all_goals (simp only [St.set, St.ev, doneQ, doneH, ressK, resK, wrapR, AV.ids, AV.idsL, retK, retsK, upd, Nat.reduceEqDiff, reduceIte, if_false, if_true, List.nodup_nil, List.nodup_cons, List.not_mem_nil, not_false_eq_true, true_and, and_true, exists_eq_left', Option.some.injEq, rLoad, cellOf, tab, Ty.isAgg, Ty.one, Bool.false_eq_true]; exact hQ)


theorem specOrderOfMoves_sat : Sat Try.prog 5 (fun ds Q => ∃ (s : ByteArray), ds = [.val (.string (s))] ∧ (s.size ≤ 1099511627776) ∧ Q (.row (.ints .i64 ((mvR s))))) := by
  refine sat_intro tabOk Try.func5 rfl 43 rfl [.tmp 2] rfl ?_
  rintro ds Q W ⟨s, rfl, hs, hQ⟩
  refine ⟨Nat.le_of_ble_eq_true rfl, ?_⟩
  simp only [initS, initT, mat.matL, mat, Cont.len]
  cases hv : mvB s with
  | false =>
    rw [mvR_no hv] at hQ

    repeat' ((fail_if_success (with_reducible refine isRetQ ?_)); (first | refine awp_seq_k fun K hK => ?_ | ((with_reducible refine hK _ ?_); clear hK K) | (clear hK K; (with_reducible refine hK _ ?_); clear hK K) | (clear hK K; clear hK K; (with_reducible refine hK _ ?_); clear hK K) | (clear hK K; clear hK K; clear hK K; (with_reducible refine hK _ ?_); clear hK K) | (clear hK K; clear hK K; clear hK K; clear hK K; (with_reducible refine hK _ ?_); clear hK K) | (clear hK K; clear hK K; clear hK K; clear hK K; clear hK K; (with_reducible refine hK _ ?_); clear hK K) | ((with_reducible refine aord_plain fun K hK => ?_); simp only [go_sem, Nat.reduceAdd, Nat.reduceMul, Nat.reduceEqDiff, Nat.reduceLT, reduceIte, reduceCtorEq, hv, Value.string.injEq]) | refine awp_block ?_ | ((first | with_reducible refine aord_nil ?_ | refine awp_skip ?_ | refine awp_exit ?_ | refine awp_ret ?_); try simp only [thenA_normal, thenA_exit, thenA_goto, thenA_ret, blockA_normal, blockA_same, blockA_exit, blockA_goto, blockA_ret, Nat.reduceEqDiff, if_false, if_true, reduceIte]) | (refine awp_region tabOk rfl ?_; simp only [prep, pickO, List.map_cons, List.map_nil, List.getElem?_toArray, List.getElem?_cons_succ, List.getElem?_cons_zero, Option.bind_some, Option.map_some]) | ((with_reducible apply awp_cond); (focus (simp only [St.ev, St.set, upd, Nat.reduceEqDiff, reduceIte, if_false, if_true]; exact rfl)); all_goals (intro hb; first | (cases hb; done) | ((try rw [hb]); (try simp only [decide_eq_true_eq, decide_eq_false_iff_not, beq_iff_eq, bne_iff_ne, beq_eq_false_iff_ne, bne_eq_false_iff_eq, Int.not_lt, Int.not_le, Bool.not_eq_true', Bool.not_eq_false'] at hb)))) | ((with_reducible refine And.intro ?_ ?_); (focus omega)) | ((with_reducible refine And.intro ?_ ?_); (focus (exact rfl))) | ((with_reducible refine And.intro (?_ : enters Try.prog 13) ?_); (focus exact Try.call13); (refine callX_sat validMoves_sat ?_); simp only [go_sem, and_assoc, List.nil_append, List.append_nil, List.cons_append, Nat.reduceEqDiff, reduceIte, reduceCtorEq, hv, Value.string.injEq]) | (refine aAppend_ints rfl rfl rfl rfl (Nat.le_of_ble_eq_true rfl) (by simp only [St.ev, St.set, upd, Nat.reduceEqDiff, reduceIte, if_false, if_true]; exact rfl) (by simp only [St.ev, St.set, upd, Nat.reduceEqDiff, reduceIte, if_false, if_true]; exact rfl) rfl (by first | decide | omega | (simp; done) | fail) ?_ ?_ ?_ ?_; (focus (first | rfl | omega | (simp; done) | (simp; omega) | (simp [szOf, tab]; done) | (simp [szOf, tab]; omega))); (focus (first | rfl | omega | (simp; done) | (simp; omega) | (simp [szOf, tab]; done) | (simp [szOf, tab]; omega))); (focus (first | rfl | omega | (simp; done) | (simp; omega) | (simp [szOf, tab]; done) | (simp [szOf, tab]; omega))); (try simp only [go_sem, Nat.reduceAdd, Nat.reduceMul, Nat.reduceEqDiff, Nat.reduceLT, reduceIte, reduceCtorEq])) | (refine aAppend_none rfl rfl rfl rfl (Nat.le_of_ble_eq_true rfl) (by simp only [St.ev, St.set, upd, Nat.reduceEqDiff, reduceIte, if_false, if_true]; exact rfl) ?_ ?_ ?_; (focus (first | rfl | omega | (simp; done) | (simp; omega) | (simp [szOf, tab]; done) | (simp [szOf, tab]; omega))); (focus (first | rfl | omega | (simp; done) | (simp; omega) | (simp [szOf, tab]; done) | (simp [szOf, tab]; omega))); (try simp only [go_sem, Nat.reduceAdd, Nat.reduceMul, Nat.reduceEqDiff, Nat.reduceLT, reduceIte, reduceCtorEq])) | (with_reducible refine And.intro (fun hb => ?_) (fun hb => ?_)) | (exfalso; omega) | fail))
    refine awp_nil 2 (.ints .i64 []) rfl rfl (by simp only [St.ev, St.set, upd, Nat.reduceEqDiff, reduceIte, if_false, if_true]) ?_; simp only [St.ev, St.set, upd, Nat.reduceEqDiff, reduceIte, if_false, if_true]
    repeat' (first | refine awp_seq_k fun K hK => ?_ | ((with_reducible refine hK _ ?_); clear hK K) | (clear hK K; (with_reducible refine hK _ ?_); clear hK K) | (clear hK K; clear hK K; (with_reducible refine hK _ ?_); clear hK K) | (clear hK K; clear hK K; clear hK K; (with_reducible refine hK _ ?_); clear hK K) | (clear hK K; clear hK K; clear hK K; clear hK K; (with_reducible refine hK _ ?_); clear hK K) | (clear hK K; clear hK K; clear hK K; clear hK K; clear hK K; (with_reducible refine hK _ ?_); clear hK K) | ((with_reducible refine aord_plain fun K hK => ?_); simp only [go_sem, Nat.reduceAdd, Nat.reduceMul, Nat.reduceEqDiff, Nat.reduceLT, reduceIte, reduceCtorEq, hv, Value.string.injEq]) | refine awp_block ?_ | ((first | with_reducible refine aord_nil ?_ | refine awp_skip ?_ | refine awp_exit ?_ | refine awp_ret ?_); try simp only [thenA_normal, thenA_exit, thenA_goto, thenA_ret, blockA_normal, blockA_same, blockA_exit, blockA_goto, blockA_ret, Nat.reduceEqDiff, if_false, if_true, reduceIte]) | (refine awp_region tabOk rfl ?_; simp only [prep, pickO, List.map_cons, List.map_nil, List.getElem?_toArray, List.getElem?_cons_succ, List.getElem?_cons_zero, Option.bind_some, Option.map_some]) | ((with_reducible apply awp_cond); (focus (simp only [St.ev, St.set, upd, Nat.reduceEqDiff, reduceIte, if_false, if_true]; exact rfl)); all_goals (intro hb; first | (cases hb; done) | ((try rw [hb]); (try simp only [decide_eq_true_eq, decide_eq_false_iff_not, beq_iff_eq, bne_iff_ne, beq_eq_false_iff_ne, bne_eq_false_iff_eq, Int.not_lt, Int.not_le, Bool.not_eq_true', Bool.not_eq_false'] at hb)))) | ((with_reducible refine And.intro ?_ ?_); (focus omega)) | ((with_reducible refine And.intro ?_ ?_); (focus (exact rfl))) | ((with_reducible refine And.intro (?_ : enters Try.prog 13) ?_); (focus exact Try.call13); (refine callX_sat validMoves_sat ?_); simp only [go_sem, and_assoc, List.nil_append, List.append_nil, List.cons_append, Nat.reduceEqDiff, reduceIte, reduceCtorEq, hv, Value.string.injEq]) | (refine aAppend_ints rfl rfl rfl rfl (Nat.le_of_ble_eq_true rfl) (by simp only [St.ev, St.set, upd, Nat.reduceEqDiff, reduceIte, if_false, if_true]; exact rfl) (by simp only [St.ev, St.set, upd, Nat.reduceEqDiff, reduceIte, if_false, if_true]; exact rfl) rfl (by first | decide | omega | (simp; done) | fail) ?_ ?_ ?_ ?_; (focus (first | rfl | omega | (simp; done) | (simp; omega) | (simp [szOf, tab]; done) | (simp [szOf, tab]; omega))); (focus (first | rfl | omega | (simp; done) | (simp; omega) | (simp [szOf, tab]; done) | (simp [szOf, tab]; omega))); (focus (first | rfl | omega | (simp; done) | (simp; omega) | (simp [szOf, tab]; done) | (simp [szOf, tab]; omega))); (try simp only [go_sem, Nat.reduceAdd, Nat.reduceMul, Nat.reduceEqDiff, Nat.reduceLT, reduceIte, reduceCtorEq])) | (refine aAppend_none rfl rfl rfl rfl (Nat.le_of_ble_eq_true rfl) (by simp only [St.ev, St.set, upd, Nat.reduceEqDiff, reduceIte, if_false, if_true]; exact rfl) ?_ ?_ ?_; (focus (first | rfl | omega | (simp; done) | (simp; omega) | (simp [szOf, tab]; done) | (simp [szOf, tab]; omega))); (focus (first | rfl | omega | (simp; done) | (simp; omega) | (simp [szOf, tab]; done) | (simp [szOf, tab]; omega))); (try simp only [go_sem, Nat.reduceAdd, Nat.reduceMul, Nat.reduceEqDiff, Nat.reduceLT, reduceIte, reduceCtorEq])) | (with_reducible refine And.intro (fun hb => ?_) (fun hb => ?_)) | (exfalso; omega) | fail)
    simp only [St.set, St.ev, doneQ, doneH, ressK, resK, wrapR, AV.ids, AV.idsL, retK, retsK, upd, Nat.reduceEqDiff, reduceIte, if_false, if_true, List.nodup_nil, List.nodup_cons, List.not_mem_nil, not_false_eq_true, true_and, and_true, exists_eq_left', Option.some.injEq, rLoad, cellOf, tab, Ty.isAgg, Ty.one, Bool.false_eq_true]
    exact ⟨rfl, rfl, hQ⟩
  | true =>
    obtain ⟨h16, oo, nn, he, hr⟩ := mvB_yes hv
    rw [hr] at hQ

    repeat' (first | refine awp_seq_k fun K hK => ?_ | ((with_reducible refine hK _ ?_); clear hK K) | (clear hK K; (with_reducible refine hK _ ?_); clear hK K) | (clear hK K; clear hK K; (with_reducible refine hK _ ?_); clear hK K) | (clear hK K; clear hK K; clear hK K; (with_reducible refine hK _ ?_); clear hK K) | (clear hK K; clear hK K; clear hK K; clear hK K; (with_reducible refine hK _ ?_); clear hK K) | (clear hK K; clear hK K; clear hK K; clear hK K; clear hK K; (with_reducible refine hK _ ?_); clear hK K) | ((with_reducible refine aord_plain fun K hK => ?_); simp only [go_sem, Nat.reduceAdd, Nat.reduceMul, Nat.reduceEqDiff, Nat.reduceLT, reduceIte, reduceCtorEq, hv, Value.string.injEq]) | refine awp_block ?_ | ((first | with_reducible refine aord_nil ?_ | refine awp_skip ?_ | refine awp_exit ?_ | refine awp_ret ?_); try simp only [thenA_normal, thenA_exit, thenA_goto, thenA_ret, blockA_normal, blockA_same, blockA_exit, blockA_goto, blockA_ret, Nat.reduceEqDiff, if_false, if_true, reduceIte]) | (refine awp_region tabOk rfl ?_; simp only [prep, pickO, List.map_cons, List.map_nil, List.getElem?_toArray, List.getElem?_cons_succ, List.getElem?_cons_zero, Option.bind_some, Option.map_some]) | ((with_reducible apply awp_cond); (focus (simp only [St.ev, St.set, upd, Nat.reduceEqDiff, reduceIte, if_false, if_true]; exact rfl)); all_goals (intro hb; first | (cases hb; done) | ((try rw [hb]); (try simp only [decide_eq_true_eq, decide_eq_false_iff_not, beq_iff_eq, bne_iff_ne, beq_eq_false_iff_ne, bne_eq_false_iff_eq, Int.not_lt, Int.not_le, Bool.not_eq_true', Bool.not_eq_false'] at hb)))) | ((with_reducible refine And.intro ?_ ?_); (focus omega)) | ((with_reducible refine And.intro ?_ ?_); (focus (exact rfl))) | ((with_reducible refine And.intro (?_ : enters Try.prog 13) ?_); (focus exact Try.call13); (refine callX_sat validMoves_sat ?_); simp only [go_sem, and_assoc, List.nil_append, List.append_nil, List.cons_append, Nat.reduceEqDiff, reduceIte, reduceCtorEq, hv, Value.string.injEq]) | (refine aAppend_ints rfl rfl rfl rfl (Nat.le_of_ble_eq_true rfl) (by simp only [St.ev, St.set, upd, Nat.reduceEqDiff, reduceIte, if_false, if_true]; exact rfl) (by simp only [St.ev, St.set, upd, Nat.reduceEqDiff, reduceIte, if_false, if_true]; exact rfl) rfl (by first | decide | omega | (simp; done) | fail) ?_ ?_ ?_ ?_; (focus (first | rfl | omega | (simp; done) | (simp; omega) | (simp [szOf, tab]; done) | (simp [szOf, tab]; omega))); (focus (first | rfl | omega | (simp; done) | (simp; omega) | (simp [szOf, tab]; done) | (simp [szOf, tab]; omega))); (focus (first | rfl | omega | (simp; done) | (simp; omega) | (simp [szOf, tab]; done) | (simp [szOf, tab]; omega))); (try simp only [go_sem, Nat.reduceAdd, Nat.reduceMul, Nat.reduceEqDiff, Nat.reduceLT, reduceIte, reduceCtorEq])) | (refine aAppend_none rfl rfl rfl rfl (Nat.le_of_ble_eq_true rfl) (by simp only [St.ev, St.set, upd, Nat.reduceEqDiff, reduceIte, if_false, if_true]; exact rfl) ?_ ?_ ?_; (focus (first | rfl | omega | (simp; done) | (simp; omega) | (simp [szOf, tab]; done) | (simp [szOf, tab]; omega))); (focus (first | rfl | omega | (simp; done) | (simp; omega) | (simp [szOf, tab]; done) | (simp [szOf, tab]; omega))); (try simp only [go_sem, Nat.reduceAdd, Nat.reduceMul, Nat.reduceEqDiff, Nat.reduceLT, reduceIte, reduceCtorEq])) | (with_reducible refine And.intro (fun hb => ?_) (fun hb => ?_)) | (exfalso; omega) | fail)
    refine awp_loopE (α := (Nat) × (List Int) × (List Int) × (Nat)) (fun s p => ⟨(upd (upd (upd (upd (upd bot 0 (s.tmps 0)) 3 (.sl 0 0 (p.2.2.1).length 1 none)) 4 (.sl 1 0 (p.2.1).length 1 none)) 5 (.val (.int .i64 ((p.2.2.2))))) 6 (.val (.int .i64 ((p.1))))), (upd (upd s.heap 0 (some ⟨true, .ints .i64 ((p.2.2.1))⟩)) 1 (some ⟨true, .ints .i64 ((p.2.1))⟩)), s.next⟩) _ (fun p => by simp only [St.ev, St.set, upd, Nat.reduceEqDiff, reduceIte, if_false, if_true]; exact rfl) (fun p => ((p.1) ≤ s.size) ∧ (mvS s (p.1) = some ((p.2.2.1), (p.2.1), (p.2.2.2)))) (fun p => s.size - (p.1)) (0, [], [], 0) ?_ ?_ ?_
    · (try simp only); (refine ⟨?_, ?_⟩ <;> (first | omega | rfl))
    · (apply Wk.same; (case' h2 => (focus ((repeat' (with_reducible first | exact HeapX.bot | (apply HeapX.skip; (case hx => (simp; done))) | apply HeapX.none | apply HeapX.upd)); all_goals (first | rfl | exact Nat.le_of_ble_eq_true rfl | (simp only [St.set, St.ev, upd, ren, renL, id, Nat.reduceEqDiff, reduceIte, ContLe]; done) | (exact And.intro rfl (And.intro (by first | exact Nat.le_of_ble_eq_true rfl | omega) (by first | exact Nat.le_of_ble_eq_true rfl | omega))) | (first | (simp only [St.set, St.ev, upd, ren, renL, id, Nat.reduceEqDiff, reduceIte]; exact contLe_nil) | ((repeat' (first | exact contLe_nil | refine contLe_cons (.inr ⟨?_, rfl⟩) ?_)); all_goals (first | rfl | (simp only [St.set, St.ev, upd, ren, renL, id, Nat.reduceEqDiff, reduceIte]; done) | ((try simp only [St.set, St.ev, upd, ren, renL, id, Nat.reduceEqDiff, reduceIte]); first | (with_reducible exact av_int (by omega)) | (with_reducible exact av_sl (by first | omega | (simp; done) | (simp; omega)) (by first | omega | (simp; done) | (simp; omega)))) | (simp only [St.set, St.ev, upd, ren, renL, id, Nat.reduceEqDiff, reduceIte, Int.natCast_add, Int.natCast_one, Int.cast_ofNat_Int, Int.natCast_zero]; done) | (simp only [St.set, St.ev, upd, ren, renL, id, Nat.reduceEqDiff, reduceIte]) | skip); done)) | (simp only [St.set, St.ev, upd, ren, renL, id, Nat.reduceEqDiff, reduceIte, ContLe]) | skip)))); (case' h1 => (focus ((repeat' (with_reducible first | exact TmpLe.bot | refine TmpLe.upd ?_ rfl ?_)); all_goals (first | rfl | (simp only [St.set, St.ev, upd, ren, renL, id, Nat.reduceEqDiff, reduceIte]; done) | ((try simp only [St.set, St.ev, upd, ren, renL, id, Nat.reduceEqDiff, reduceIte]); first | (with_reducible exact av_int (by omega)) | (with_reducible exact av_sl (by first | omega | (simp; done) | (simp; omega)) (by first | omega | (simp; done) | (simp; omega)))) | (simp only [St.set, St.ev, upd, ren, renL, id, Nat.reduceEqDiff, reduceIte, Int.natCast_add, Int.natCast_one, Int.cast_ofNat_Int, Int.natCast_zero]; done) | (simp only [St.set, St.ev, upd, ren, renL, id, Nat.reduceEqDiff, reduceIte]) | skip)))); (case h3 => (focus (first | (simp only [id, List.map_cons, List.map_nil]; decide) | decide | (simp; done) | (simp; omega) | fail))); (case h4 => (intro o l h; first | (cases h; done) | (have hlt0 := m0_lt (by assumption) h; (try (simp only at hlt0)); first | omega | (simp only; omega) | exact ⟨by (first | rfl | (simp only [id]; done) | ((repeat rw [if_neg (by omega)]); done)), by first | omega | (simp only; omega)⟩))))
    rintro ⟨i, st, o, nx⟩ ⟨hi, hR⟩
    try simp only at hi hR
    have hln := mvS_len hR
    rcases Nat.lt_or_ge i s.size with hil | hil
    · have hlg := lt_get hil
      have g1 : decide ((i : Int) < (s.size : Int)) = true := decide_eq_true (by omega)
      obtain ⟨o2, st2, nx2, hn⟩ := mvS_some he (i := i + 1) (by omega)

      repeat' (first | refine awp_seq_k fun K hK => ?_ | ((with_reducible refine hK _ ?_); clear hK K) | (clear hK K; (with_reducible refine hK _ ?_); clear hK K) | (clear hK K; clear hK K; (with_reducible refine hK _ ?_); clear hK K) | (clear hK K; clear hK K; clear hK K; (with_reducible refine hK _ ?_); clear hK K) | (clear hK K; clear hK K; clear hK K; clear hK K; (with_reducible refine hK _ ?_); clear hK K) | (clear hK K; clear hK K; clear hK K; clear hK K; clear hK K; (with_reducible refine hK _ ?_); clear hK K) | ((with_reducible refine aord_plain fun K hK => ?_); simp only [go_sem, Nat.reduceAdd, Nat.reduceMul, Nat.reduceEqDiff, Nat.reduceLT, reduceIte, reduceCtorEq, g1, Int.toNat_natCast]) | refine awp_block ?_ | ((first | with_reducible refine aord_nil ?_ | refine awp_skip ?_ | refine awp_exit ?_ | refine awp_ret ?_); try simp only [thenA_normal, thenA_exit, thenA_goto, thenA_ret, blockA_normal, blockA_same, blockA_exit, blockA_goto, blockA_ret, Nat.reduceEqDiff, if_false, if_true, reduceIte]) | (refine awp_region tabOk rfl ?_; simp only [prep, pickO, List.map_cons, List.map_nil, List.getElem?_toArray, List.getElem?_cons_succ, List.getElem?_cons_zero, Option.bind_some, Option.map_some]) | ((with_reducible apply awp_cond); (focus (simp only [St.ev, St.set, upd, Nat.reduceEqDiff, reduceIte, if_false, if_true]; exact rfl)); all_goals (intro hb; first | (cases hb; done) | ((try rw [hb]); (try simp only [decide_eq_true_eq, decide_eq_false_iff_not, beq_iff_eq, bne_iff_ne, beq_eq_false_iff_ne, bne_eq_false_iff_eq, Int.not_lt, Int.not_le, Bool.not_eq_true', Bool.not_eq_false'] at hb)))) | ((with_reducible refine And.intro ?_ ?_); (focus omega)) | ((with_reducible refine And.intro ?_ ?_); (focus (exact rfl))) | ((with_reducible refine And.intro (?_ : enters Try.prog 13) ?_); (focus exact Try.call13); (refine callX_sat validMoves_sat ?_); simp only [go_sem, and_assoc, List.nil_append, List.append_nil, List.cons_append, Nat.reduceEqDiff, reduceIte, reduceCtorEq, g1, Int.toNat_natCast]) | (refine aAppend_ints rfl rfl rfl rfl (Nat.le_of_ble_eq_true rfl) (by simp only [St.ev, St.set, upd, Nat.reduceEqDiff, reduceIte, if_false, if_true]; exact rfl) (by simp only [St.ev, St.set, upd, Nat.reduceEqDiff, reduceIte, if_false, if_true]; exact rfl) rfl (by first | decide | omega | (simp; done) | fail) ?_ ?_ ?_ ?_; (focus (first | rfl | omega | (simp; done) | (simp; omega) | (simp [szOf, tab]; done) | (simp [szOf, tab]; omega))); (focus (first | rfl | omega | (simp; done) | (simp; omega) | (simp [szOf, tab]; done) | (simp [szOf, tab]; omega))); (focus (first | rfl | omega | (simp; done) | (simp; omega) | (simp [szOf, tab]; done) | (simp [szOf, tab]; omega))); (try simp only [go_sem, Nat.reduceAdd, Nat.reduceMul, Nat.reduceEqDiff, Nat.reduceLT, reduceIte, reduceCtorEq])) | (refine aAppend_none rfl rfl rfl rfl (Nat.le_of_ble_eq_true rfl) (by simp only [St.ev, St.set, upd, Nat.reduceEqDiff, reduceIte, if_false, if_true]; exact rfl) ?_ ?_ ?_; (focus (first | rfl | omega | (simp; done) | (simp; omega) | (simp [szOf, tab]; done) | (simp [szOf, tab]; omega))); (focus (first | rfl | omega | (simp; done) | (simp; omega) | (simp [szOf, tab]; done) | (simp [szOf, tab]; omega))); (try simp only [go_sem, Nat.reduceAdd, Nat.reduceMul, Nat.reduceEqDiff, Nat.reduceLT, reduceIte, reduceCtorEq])) | (with_reducible refine And.intro (fun hb => ?_) (fun hb => ?_)) | (exfalso; omega) | fail)
      refine ⟨hil, ?_⟩
      simp only [hlg]
      by_cases h1 : lt8 s i = 105
      · have g2 : (((lt8 s i : Nat) : Int) == 105) = true := beq_iff_eq.2 (by omega)
        have hu := mvS_put hR h1

        repeat' (first | refine awp_seq_k fun K hK => ?_ | ((with_reducible refine hK _ ?_); clear hK K) | (clear hK K; (with_reducible refine hK _ ?_); clear hK K) | (clear hK K; clear hK K; (with_reducible refine hK _ ?_); clear hK K) | (clear hK K; clear hK K; clear hK K; (with_reducible refine hK _ ?_); clear hK K) | (clear hK K; clear hK K; clear hK K; clear hK K; (with_reducible refine hK _ ?_); clear hK K) | (clear hK K; clear hK K; clear hK K; clear hK K; clear hK K; (with_reducible refine hK _ ?_); clear hK K) | ((with_reducible refine aord_plain fun K hK => ?_); simp only [go_sem, Nat.reduceAdd, Nat.reduceMul, Nat.reduceEqDiff, Nat.reduceLT, reduceIte, reduceCtorEq, g2]) | refine awp_block ?_ | ((first | with_reducible refine aord_nil ?_ | refine awp_skip ?_ | refine awp_exit ?_ | refine awp_ret ?_); try simp only [thenA_normal, thenA_exit, thenA_goto, thenA_ret, blockA_normal, blockA_same, blockA_exit, blockA_goto, blockA_ret, Nat.reduceEqDiff, if_false, if_true, reduceIte]) | (refine awp_region tabOk rfl ?_; simp only [prep, pickO, List.map_cons, List.map_nil, List.getElem?_toArray, List.getElem?_cons_succ, List.getElem?_cons_zero, Option.bind_some, Option.map_some]) | ((with_reducible apply awp_cond); (focus (simp only [St.ev, St.set, upd, Nat.reduceEqDiff, reduceIte, if_false, if_true]; exact rfl)); all_goals (intro hb; first | (cases hb; done) | ((try rw [hb]); (try simp only [decide_eq_true_eq, decide_eq_false_iff_not, beq_iff_eq, bne_iff_ne, beq_eq_false_iff_ne, bne_eq_false_iff_eq, Int.not_lt, Int.not_le, Bool.not_eq_true', Bool.not_eq_false'] at hb)))) | ((with_reducible refine And.intro ?_ ?_); (focus omega)) | ((with_reducible refine And.intro ?_ ?_); (focus (exact rfl))) | ((with_reducible refine And.intro (?_ : enters Try.prog 13) ?_); (focus exact Try.call13); (refine callX_sat validMoves_sat ?_); simp only [go_sem, and_assoc, List.nil_append, List.append_nil, List.cons_append, Nat.reduceEqDiff, reduceIte, reduceCtorEq, g2]) | (refine aAppend_ints rfl rfl rfl rfl (Nat.le_of_ble_eq_true rfl) (by simp only [St.ev, St.set, upd, Nat.reduceEqDiff, reduceIte, if_false, if_true]; exact rfl) (by simp only [St.ev, St.set, upd, Nat.reduceEqDiff, reduceIte, if_false, if_true]; exact rfl) rfl (by first | decide | omega | (simp; done) | fail) ?_ ?_ ?_ ?_; (focus (first | rfl | omega | (simp; done) | (simp; omega) | (simp [szOf, tab]; done) | (simp [szOf, tab]; omega))); (focus (first | rfl | omega | (simp; done) | (simp; omega) | (simp [szOf, tab]; done) | (simp [szOf, tab]; omega))); (focus (first | rfl | omega | (simp; done) | (simp; omega) | (simp [szOf, tab]; done) | (simp [szOf, tab]; omega))); (try simp only [go_sem, Nat.reduceAdd, Nat.reduceMul, Nat.reduceEqDiff, Nat.reduceLT, reduceIte, reduceCtorEq])) | (refine aAppend_none rfl rfl rfl rfl (Nat.le_of_ble_eq_true rfl) (by simp only [St.ev, St.set, upd, Nat.reduceEqDiff, reduceIte, if_false, if_true]; exact rfl) ?_ ?_ ?_; (focus (first | rfl | omega | (simp; done) | (simp; omega) | (simp [szOf, tab]; done) | (simp [szOf, tab]; omega))); (focus (first | rfl | omega | (simp; done) | (simp; omega) | (simp [szOf, tab]; done) | (simp [szOf, tab]; omega))); (try simp only [go_sem, Nat.reduceAdd, Nat.reduceMul, Nat.reduceEqDiff, Nat.reduceLT, reduceIte, reduceCtorEq])) | (with_reducible refine And.intro (fun hb => ?_) (fun hb => ?_)) | (exfalso; omega) | fail)
        ((refine Exists.intro (i + 1, st ++ [(nx : Int)], o, nx + 1) ?_); (refine nxt ?_ ?_ ?_); (focus ((apply Wk.named (fun o => if o = 1 then 3 else o); (case' h2 => (focus ((repeat' (with_reducible first | exact HeapX.bot | (apply HeapX.skip; (case hx => (simp; done))) | apply HeapX.none | apply HeapX.upd)); all_goals (first | rfl | exact Nat.le_of_ble_eq_true rfl | (simp only [St.set, St.ev, upd, ren, renL, id, Nat.reduceEqDiff, reduceIte, ContLe]; done) | (exact And.intro rfl (And.intro (by first | exact Nat.le_of_ble_eq_true rfl | omega) (by first | exact Nat.le_of_ble_eq_true rfl | omega))) | (first | (simp only [St.set, St.ev, upd, ren, renL, id, Nat.reduceEqDiff, reduceIte]; exact contLe_nil) | ((repeat' (first | exact contLe_nil | refine contLe_cons (.inr ⟨?_, rfl⟩) ?_)); all_goals (first | rfl | (simp only [St.set, St.ev, upd, ren, renL, id, Nat.reduceEqDiff, reduceIte]; done) | ((try simp only [St.set, St.ev, upd, ren, renL, id, Nat.reduceEqDiff, reduceIte]); first | (with_reducible exact av_int (by omega)) | (with_reducible exact av_sl (by first | omega | (simp; done) | (simp; omega)) (by first | omega | (simp; done) | (simp; omega)))) | (simp only [St.set, St.ev, upd, ren, renL, id, Nat.reduceEqDiff, reduceIte, Int.natCast_add, Int.natCast_one, Int.cast_ofNat_Int, Int.natCast_zero]; done) | (simp only [St.set, St.ev, upd, ren, renL, id, Nat.reduceEqDiff, reduceIte]) | skip); done)) | (simp only [St.set, St.ev, upd, ren, renL, id, Nat.reduceEqDiff, reduceIte, ContLe]) | skip)))); (case' h1 => (focus ((repeat' (with_reducible first | exact TmpLe.bot | refine TmpLe.upd ?_ rfl ?_)); all_goals (first | rfl | (simp only [St.set, St.ev, upd, ren, renL, id, Nat.reduceEqDiff, reduceIte]; done) | ((try simp only [St.set, St.ev, upd, ren, renL, id, Nat.reduceEqDiff, reduceIte]); first | (with_reducible exact av_int (by omega)) | (with_reducible exact av_sl (by first | omega | (simp; done) | (simp; omega)) (by first | omega | (simp; done) | (simp; omega)))) | (simp only [St.set, St.ev, upd, ren, renL, id, Nat.reduceEqDiff, reduceIte, Int.natCast_add, Int.natCast_one, Int.cast_ofNat_Int, Int.natCast_zero]; done) | (simp only [St.set, St.ev, upd, ren, renL, id, Nat.reduceEqDiff, reduceIte]) | skip)))); (case h3 => (focus (first | (simp only [id, List.map_cons, List.map_nil]; decide) | decide | (simp; done) | (simp; omega) | fail))); (case h4 => (intro o l h; first | (cases h; done) | (have hlt0 := m0_lt (by assumption) h; (try (simp only at hlt0)); first | omega | (simp only; omega) | exact ⟨by (first | rfl | (simp only [id]; done) | ((repeat rw [if_neg (by omega)]); done)), by first | omega | (simp only; omega)⟩)))))); (focus (first | omega | (simp only; omega) | (simp only [List.length_take]; omega) | (simp; done) | (simp; omega))); ((repeat' (with_reducible apply And.intro)) <;> (first | omega | (simp only; omega) | assumption | rfl | ((try simp only); first | omega | exact hu | exact ⟨(show i + 1 ≤ s.size by omega), hu⟩ | (simp; omega)) | skip)))
      · have g2 : (((lt8 s i : Nat) : Int) == 105) = false := beq_eq_false_iff_ne.2 (by omega)
        have h2 : lt8 s i = 111 ∧ 0 < st.length := by
          by_cases c : lt8 s i = 111 ∧ 0 < st.length
          · exact c
          · rw [mvS_bad hR h1 (by omega)] at hn; cases hn
        have hu := mvS_pop hR h2.1 h2.2
        have hk : (st.take (st.length - 1)).length = st.length - 1 := by simp
        have e1 : ((st.length : Int) - 1).toNat = st.length - 1 := by omega

        repeat' (first | refine awp_seq_k fun K hK => ?_ | ((with_reducible refine hK _ ?_); clear hK K) | (clear hK K; (with_reducible refine hK _ ?_); clear hK K) | (clear hK K; clear hK K; (with_reducible refine hK _ ?_); clear hK K) | (clear hK K; clear hK K; clear hK K; (with_reducible refine hK _ ?_); clear hK K) | (clear hK K; clear hK K; clear hK K; clear hK K; (with_reducible refine hK _ ?_); clear hK K) | (clear hK K; clear hK K; clear hK K; clear hK K; clear hK K; (with_reducible refine hK _ ?_); clear hK K) | ((with_reducible refine aord_plain fun K hK => ?_); simp only [go_sem, Nat.reduceAdd, Nat.reduceMul, Nat.reduceEqDiff, Nat.reduceLT, reduceIte, reduceCtorEq, g2, e1]) | refine awp_block ?_ | ((first | with_reducible refine aord_nil ?_ | refine awp_skip ?_ | refine awp_exit ?_ | refine awp_ret ?_); try simp only [thenA_normal, thenA_exit, thenA_goto, thenA_ret, blockA_normal, blockA_same, blockA_exit, blockA_goto, blockA_ret, Nat.reduceEqDiff, if_false, if_true, reduceIte]) | (refine awp_region tabOk rfl ?_; simp only [prep, pickO, List.map_cons, List.map_nil, List.getElem?_toArray, List.getElem?_cons_succ, List.getElem?_cons_zero, Option.bind_some, Option.map_some]) | ((with_reducible apply awp_cond); (focus (simp only [St.ev, St.set, upd, Nat.reduceEqDiff, reduceIte, if_false, if_true]; exact rfl)); all_goals (intro hb; first | (cases hb; done) | ((try rw [hb]); (try simp only [decide_eq_true_eq, decide_eq_false_iff_not, beq_iff_eq, bne_iff_ne, beq_eq_false_iff_ne, bne_eq_false_iff_eq, Int.not_lt, Int.not_le, Bool.not_eq_true', Bool.not_eq_false'] at hb)))) | ((with_reducible refine And.intro ?_ ?_); (focus omega)) | ((with_reducible refine And.intro ?_ ?_); (focus (exact rfl))) | ((with_reducible refine And.intro (?_ : enters Try.prog 13) ?_); (focus exact Try.call13); (refine callX_sat validMoves_sat ?_); simp only [go_sem, and_assoc, List.nil_append, List.append_nil, List.cons_append, Nat.reduceEqDiff, reduceIte, reduceCtorEq, g2, e1]) | (refine aAppend_ints rfl rfl rfl rfl (Nat.le_of_ble_eq_true rfl) (by simp only [St.ev, St.set, upd, Nat.reduceEqDiff, reduceIte, if_false, if_true]; exact rfl) (by simp only [St.ev, St.set, upd, Nat.reduceEqDiff, reduceIte, if_false, if_true]; exact rfl) rfl (by first | decide | omega | (simp; done) | fail) ?_ ?_ ?_ ?_; (focus (first | rfl | omega | (simp; done) | (simp; omega) | (simp [szOf, tab]; done) | (simp [szOf, tab]; omega))); (focus (first | rfl | omega | (simp; done) | (simp; omega) | (simp [szOf, tab]; done) | (simp [szOf, tab]; omega))); (focus (first | rfl | omega | (simp; done) | (simp; omega) | (simp [szOf, tab]; done) | (simp [szOf, tab]; omega))); (try simp only [go_sem, Nat.reduceAdd, Nat.reduceMul, Nat.reduceEqDiff, Nat.reduceLT, reduceIte, reduceCtorEq])) | (refine aAppend_none rfl rfl rfl rfl (Nat.le_of_ble_eq_true rfl) (by simp only [St.ev, St.set, upd, Nat.reduceEqDiff, reduceIte, if_false, if_true]; exact rfl) ?_ ?_ ?_; (focus (first | rfl | omega | (simp; done) | (simp; omega) | (simp [szOf, tab]; done) | (simp [szOf, tab]; omega))); (focus (first | rfl | omega | (simp; done) | (simp; omega) | (simp [szOf, tab]; done) | (simp [szOf, tab]; omega))); (try simp only [go_sem, Nat.reduceAdd, Nat.reduceMul, Nat.reduceEqDiff, Nat.reduceLT, reduceIte, reduceCtorEq])) | (with_reducible refine And.intro (fun hb => ?_) (fun hb => ?_)) | (exfalso; omega) | fail)
        ((apply Exists.intro (i + 1, st.take (st.length - 1), _, nx)); (refine nxt ?_ ?_ ?_); (focus ((refine Wk.keep (1) (st.length - 1) (by simp only [St.ev, St.set, upd, Nat.reduceEqDiff, reduceIte, if_false, if_true]; exact rfl) ?_); (try dsimp only); (apply Wk.named (fun o => if o = 0 then 3 else o); (case' h2 => (focus ((repeat' (with_reducible first | exact HeapX.bot | (apply HeapX.skip; (case hx => (simp; done))) | apply HeapX.none | apply HeapX.upd)); all_goals (first | rfl | exact Nat.le_of_ble_eq_true rfl | (simp only [St.set, St.ev, upd, ren, renL, id, Nat.reduceEqDiff, reduceIte, ContLe]; done) | (exact And.intro rfl (And.intro (by first | exact Nat.le_of_ble_eq_true rfl | omega) (by first | exact Nat.le_of_ble_eq_true rfl | omega))) | (first | (simp only [St.set, St.ev, upd, ren, renL, id, Nat.reduceEqDiff, reduceIte]; exact contLe_nil) | ((repeat' (first | exact contLe_nil | refine contLe_cons (.inr ⟨?_, rfl⟩) ?_)); all_goals (first | rfl | (simp only [St.set, St.ev, upd, ren, renL, id, Nat.reduceEqDiff, reduceIte]; done) | ((try simp only [St.set, St.ev, upd, ren, renL, id, Nat.reduceEqDiff, reduceIte]); first | (with_reducible exact av_int (by omega)) | (with_reducible exact av_sl (by first | omega | (simp; done) | (simp; omega)) (by first | omega | (simp; done) | (simp; omega)))) | (simp only [St.set, St.ev, upd, ren, renL, id, Nat.reduceEqDiff, reduceIte, Int.natCast_add, Int.natCast_one, Int.cast_ofNat_Int, Int.natCast_zero]; done) | (simp only [St.set, St.ev, upd, ren, renL, id, Nat.reduceEqDiff, reduceIte]) | skip); done)) | (simp only [St.set, St.ev, upd, ren, renL, id, Nat.reduceEqDiff, reduceIte, ContLe]) | skip)))); (case' h1 => (focus ((repeat' (with_reducible first | exact TmpLe.bot | refine TmpLe.upd ?_ rfl ?_)); all_goals (first | rfl | (simp only [St.set, St.ev, upd, ren, renL, id, Nat.reduceEqDiff, reduceIte]; done) | ((try simp only [St.set, St.ev, upd, ren, renL, id, Nat.reduceEqDiff, reduceIte]); first | (with_reducible exact av_int (by omega)) | (with_reducible exact av_sl (by first | omega | (simp; done) | (simp; omega)) (by first | omega | (simp; done) | (simp; omega)))) | (simp only [St.set, St.ev, upd, ren, renL, id, Nat.reduceEqDiff, reduceIte, Int.natCast_add, Int.natCast_one, Int.cast_ofNat_Int, Int.natCast_zero]; done) | (simp only [St.set, St.ev, upd, ren, renL, id, Nat.reduceEqDiff, reduceIte]) | skip)))); (case h3 => (focus (first | (simp only [id, List.map_cons, List.map_nil]; decide) | decide | (simp; done) | (simp; omega) | fail))); (case h4 => (intro o l h; first | (cases h; done) | (have hlt0 := m0_lt (by assumption) h; (try (simp only at hlt0)); first | omega | (simp only; omega) | exact ⟨by (first | rfl | (simp only [id]; done) | ((repeat rw [if_neg (by omega)]); done)), by first | omega | (simp only; omega)⟩)))))); (focus (first | omega | (simp only; omega) | (simp only [List.length_take]; omega) | (simp; done) | (simp; omega))); ((repeat' (with_reducible apply And.intro)) <;> (first | omega | (simp only; omega) | assumption | rfl | ((try simp only); first | omega | exact hu | exact ⟨(show i + 1 ≤ s.size by omega), hu⟩ | (simp; omega)) | skip)))
    · obtain rfl : i = s.size := by omega
      have g1 : decide ((s.size : Int) < (s.size : Int)) = false := decide_eq_false (by omega)
      rw [hR] at he
      simp only [Option.some.injEq, Prod.mk.injEq] at he

      repeat' (first | refine awp_seq_k fun K hK => ?_ | ((with_reducible refine hK _ ?_); clear hK K) | (clear hK K; (with_reducible refine hK _ ?_); clear hK K) | (clear hK K; clear hK K; (with_reducible refine hK _ ?_); clear hK K) | (clear hK K; clear hK K; clear hK K; (with_reducible refine hK _ ?_); clear hK K) | (clear hK K; clear hK K; clear hK K; clear hK K; (with_reducible refine hK _ ?_); clear hK K) | (clear hK K; clear hK K; clear hK K; clear hK K; clear hK K; (with_reducible refine hK _ ?_); clear hK K) | ((with_reducible refine aord_plain fun K hK => ?_); simp only [go_sem, Nat.reduceAdd, Nat.reduceMul, Nat.reduceEqDiff, Nat.reduceLT, reduceIte, reduceCtorEq, g1]) | refine awp_block ?_ | ((first | with_reducible refine aord_nil ?_ | refine awp_skip ?_ | refine awp_exit ?_ | refine awp_ret ?_); try simp only [thenA_normal, thenA_exit, thenA_goto, thenA_ret, blockA_normal, blockA_same, blockA_exit, blockA_goto, blockA_ret, Nat.reduceEqDiff, if_false, if_true, reduceIte]) | (refine awp_region tabOk rfl ?_; simp only [prep, pickO, List.map_cons, List.map_nil, List.getElem?_toArray, List.getElem?_cons_succ, List.getElem?_cons_zero, Option.bind_some, Option.map_some]) | ((with_reducible apply awp_cond); (focus (simp only [St.ev, St.set, upd, Nat.reduceEqDiff, reduceIte, if_false, if_true]; exact rfl)); all_goals (intro hb; first | (cases hb; done) | ((try rw [hb]); (try simp only [decide_eq_true_eq, decide_eq_false_iff_not, beq_iff_eq, bne_iff_ne, beq_eq_false_iff_ne, bne_eq_false_iff_eq, Int.not_lt, Int.not_le, Bool.not_eq_true', Bool.not_eq_false'] at hb)))) | ((with_reducible refine And.intro ?_ ?_); (focus omega)) | ((with_reducible refine And.intro ?_ ?_); (focus (exact rfl))) | ((with_reducible refine And.intro (?_ : enters Try.prog 13) ?_); (focus exact Try.call13); (refine callX_sat validMoves_sat ?_); simp only [go_sem, and_assoc, List.nil_append, List.append_nil, List.cons_append, Nat.reduceEqDiff, reduceIte, reduceCtorEq, g1]) | (refine aAppend_ints rfl rfl rfl rfl (Nat.le_of_ble_eq_true rfl) (by simp only [St.ev, St.set, upd, Nat.reduceEqDiff, reduceIte, if_false, if_true]; exact rfl) (by simp only [St.ev, St.set, upd, Nat.reduceEqDiff, reduceIte, if_false, if_true]; exact rfl) rfl (by first | decide | omega | (simp; done) | fail) ?_ ?_ ?_ ?_; (focus (first | rfl | omega | (simp; done) | (simp; omega) | (simp [szOf, tab]; done) | (simp [szOf, tab]; omega))); (focus (first | rfl | omega | (simp; done) | (simp; omega) | (simp [szOf, tab]; done) | (simp [szOf, tab]; omega))); (focus (first | rfl | omega | (simp; done) | (simp; omega) | (simp [szOf, tab]; done) | (simp [szOf, tab]; omega))); (try simp only [go_sem, Nat.reduceAdd, Nat.reduceMul, Nat.reduceEqDiff, Nat.reduceLT, reduceIte, reduceCtorEq])) | (refine aAppend_none rfl rfl rfl rfl (Nat.le_of_ble_eq_true rfl) (by simp only [St.ev, St.set, upd, Nat.reduceEqDiff, reduceIte, if_false, if_true]; exact rfl) ?_ ?_ ?_; (focus (first | rfl | omega | (simp; done) | (simp; omega) | (simp [szOf, tab]; done) | (simp [szOf, tab]; omega))); (focus (first | rfl | omega | (simp; done) | (simp; omega) | (simp [szOf, tab]; done) | (simp [szOf, tab]; omega))); (try simp only [go_sem, Nat.reduceAdd, Nat.reduceMul, Nat.reduceEqDiff, Nat.reduceLT, reduceIte, reduceCtorEq])) | (with_reducible refine And.intro (fun hb => ?_) (fun hb => ?_)) | (exfalso; omega) | fail)
      simp only [St.set, St.ev, doneQ, doneH, ressK, resK, wrapR, AV.ids, AV.idsL, retK, retsK, upd, Nat.reduceEqDiff, reduceIte, if_false, if_true, List.nodup_nil, List.nodup_cons, List.not_mem_nil, not_false_eq_true, true_and, and_true, exists_eq_left', Option.some.injEq, rLoad, cellOf, tab, Ty.isAgg, Ty.one, Bool.false_eq_true]
      rw [← he.1] at hQ
      exact ⟨rfl, rfl, hQ⟩


theorem dec_lt {s : ByteArray} {i : Nat} (h : i < s.size) (hl : lt8 s i < 128) : Utf8.decode s i = (lt8 s i, 1) := by
  have e : (s.get! (i + 0)).toNat = lt8 s i := by
    rw [← lt_get h]
    show (s.data[i]!).toNat = _
    rw [getElem!_pos s.data i h]; rfl
  unfold Utf8.decode
  simp only [e]
  rw [if_pos (by omega)]
theorem dec_ge {s : ByteArray} {i : Nat} (h : i < s.size) (hl : 128 ≤ lt8 s i) : 128 ≤ (Utf8.decode s i).1 := by
  have e : (s.get! (i + 0)).toNat = lt8 s i := by
    rw [← lt_get h]
    show (s.data[i]!).toNat = _
    rw [getElem!_pos s.data i h]; rfl
  unfold Utf8.decode
  simp only [e]
  rw [if_neg (by omega)]
  have hre : 128 ≤ Utf8.runeError := by decide
  repeat' split
  all_goals first | exact hre | (simp only; omega) | (simp_all; omega) | skip

/-- The moves of the first letters, and how many numbers have been put. -/
def mvC (s : ByteArray) : Nat → List AV × Nat
  | 0 => ([], 0)
  | i + 1 => if lt8 s i = 105 then ((mvC s i).1 ++ [.ifc 57 (.agg [.val (.int .i64 ((mvC s i).2 : Nat))])], (mvC s i).2 + 1) else ((mvC s i).1 ++ [.ifc 59 (.agg [])], (mvC s i).2)
theorem mvC_len (s : ByteArray) : ∀ i, (mvC s i).1.length = i ∧ (mvC s i).2 ≤ i
  | 0 => ⟨rfl, Nat.le_refl _⟩
  | i + 1 => by have := mvC_len s i; rw [mvC]; split <;> (simp only [List.length_append, List.length_singleton]; omega)
theorem mvC_get (s : ByteArray) : ∀ {n j : Nat}, j < n → (mvC s n).1[j]? = some (if lt8 s j = 105 then .ifc 57 (.agg [.val (.int .i64 ((mvC s j).2 : Nat))]) else .ifc 59 (.agg []))
  | 0, j, h => by omega
  | n + 1, j, h => by
    have hl := (mvC_len s n).1
    by_cases e : j < n
    · have ih := mvC_get s e
      rw [mvC]; split <;> (simp only; rw [List.getElem?_append_left (by omega)]; exact ih)
    · obtain rfl : j = n := by omega
      rw [mvC]; split <;> (simp only; rw [List.getElem?_append_right (by omega), hl, Nat.sub_self]; rfl)
theorem mvS_next {s : ByteArray} : ∀ {i : Nat} {o st : List Int} {nx : Nat}, mvS s i = some (o, st, nx) → (mvC s i).2 = nx := by
  intro i
  induction i with
  | zero => intro o st nx h; simp only [mvS, Option.some.injEq, Prod.mk.injEq] at h; exact h.2.2
  | succ i ih =>
    intro o st nx h
    cases e : mvS s i with
    | none => rw [mvS, e] at h; cases h
    | some y =>
      obtain ⟨o', st', nx'⟩ := y
      have a := ih e
      by_cases h1 : lt8 s i = 105
      · rw [mvS_put e h1] at h; simp only [Option.some.injEq, Prod.mk.injEq] at h; rw [mvC, if_pos h1]; simp only; omega
      · by_cases h2 : lt8 s i = 111 ∧ 0 < st'.length
        · rw [mvS_pop e h2.1 h2.2] at h; simp only [Option.some.injEq, Prod.mk.injEq] at h; rw [mvC, if_neg h1]; simp only; omega
        · rw [mvS_bad e h1 (by omega)] at h; cases h
theorem mvS_badl {s : ByteArray} {i : Nat} (h1 : lt8 s i ≠ 105) (h2 : lt8 s i ≠ 111) : mvS s (i + 1) = none := by
  rw [mvS]
  split
  · rfl
  · rw [if_neg h1, if_neg h2]
theorem mvB_big {s : ByteArray} (h : ¬ s.size ≤ 16) : mvB s = false := by unfold mvB; rw [decide_eq_false h, Bool.and_false]
theorem dec_bad {s : ByteArray} {i : Nat} (h : i < s.size) (h1 : lt8 s i ≠ 105) (h2 : lt8 s i ≠ 111) : ∃ c w : Nat, Utf8.decode s i = (c, w) ∧ c ≠ 105 ∧ c ≠ 111 := by
  refine ⟨(Utf8.decode s i).1, (Utf8.decode s i).2, rfl, ?_⟩
  by_cases hl : lt8 s i < 128
  · rw [dec_lt h hl]; exact ⟨h1, h2⟩
  · have := dec_ge h (by omega); omega
theorem ltL_snoc {n : Nat} : ∀ {l : List AV} {a : AV}, AV.ltL n l = true → a.lt n = true → AV.ltL n (l ++ [a]) = true
  | [], a, _, h => by simp only [List.nil_append, AV.ltL, h, Bool.and_self]
  | b :: l, a, h1, h => by
    simp only [AV.ltL, Bool.and_eq_true] at h1
    simp only [List.cons_append, AV.ltL, Bool.and_eq_true]
    exact ⟨h1.1, ltL_snoc h1.2 h⟩
theorem mvC_lt (s : ByteArray) (n : Nat) : ∀ i, (Cont.cells (mvC s i).1).lt n = true
  | 0 => rfl
  | i + 1 => by
    have ih : AV.ltL n (mvC s i).1 = true := mvC_lt s n i
    show AV.ltL n (mvC s (i + 1)).1 = true
    rw [mvC]; split
    · exact ltL_snoc ih rfl
    · exact ltL_snoc ih rfl


end Go.Proofs.Ytblnbbjlaonpgaa
