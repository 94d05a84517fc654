/- Contracts of functions of the program. -/
import Derived.Test.YtcegfpkfhcjfcaaPFNMOd
import Derived.ScopeJumps
namespace Go.Proofs.Ytcegfpkfhcjfcaa
open Go Go.Ab
set_option linter.all false
set_option maxHeartbeats 4000000

theorem keysOf_sat4 : SatH Try.prog 47 (fun al h n K => ∃ (bs : List Int) (L : Nat) (lim : Option Nat) (N : Int) (q : Nat), al = [.ref 1 0, .val (.int .i64 (N))] ∧ (n = 4) ∧ (h 0 = some ⟨false, .ints .u8 bs⟩) ∧ (h 1 = some ⟨true, .cells [.sl 0 0 L 1 lim, .val (.int .i64 q)]⟩) ∧ (L ≤ bs.length ∧ L ≤ 1099511627776) ∧ (bytesOk bs) ∧ (q ≤ 999000) ∧ (0 ≤ N ∧ N ≤ 8) ∧ ∀ (ys : List Int) (r : Nat), ys.length ≤ 8 → r ≤ q + 20 → K (.sl 4 0 ys.length 1 none) (upd (upd h 1 (some ⟨true, .cells [.sl 0 0 L 1 lim, .val (.int .i64 r)]⟩)) 4 (some ⟨true, .ints .i64 ys⟩)) (5)) := by
  refine satH_intro tabOk Try.func47 rfl 44 rfl [.tmp 4] rfl ?_
  rintro F W h n al K0 ⟨bs, L, lim, N, q, rfl, hn, h0, h1, hL, hbs, hq, hN, hQ⟩
  refine ⟨Nat.le_of_ble_eq_true rfl, fun m0 hm0 hcl hlt => ?_⟩
  simp only [initT]
  subst hn
  repeat' (first | refine awp_seq_k fun K hK => ?_ | ((with_reducible refine hK _ ?_); clear hK K) | ((with_reducible refine aord_plain fun K hK => ?_); simp only [go_sem, Nat.reduceAdd, Nat.reduceMul, Nat.reduceEqDiff, Nat.reduceLT, reduceIte, reduceCtorEq, h0, h1]) | ((first | with_reducible refine aord_nil ?_ | refine awp_skip ?_ | refine awp_exit ?_ | refine awp_ret ?_); try simp only [thenA_normal, thenA_exit, thenA_goto, thenA_ret, blockA_normal, blockA_same, blockA_exit, blockA_goto, blockA_ret, Nat.reduceEqDiff, if_false, if_true, reduceIte]) | (refine awp_region tabOk rfl ?_; simp only [prep, pickO, List.map_cons, List.map_nil, List.getElem?_toArray, List.getElem?_cons_succ, List.getElem?_cons_zero, Option.bind_some, Option.map_some]) | ((with_reducible refine And.intro ?_ ?_); (focus omega)) | ((with_reducible refine And.intro (?_ : enters Try.prog 46) ?_); (focus exact Try.call46); (refine callX_satH one_sat ?_); simp only [go_sem, and_assoc, List.nil_append, List.append_nil, List.cons_append, Nat.reduceEqDiff, reduceIte, reduceCtorEq, h0, h1]) | fail)
  refine ⟨L, lim, _, q, rfl, hL.1, hL.2, hbs, rfl, rfl, by omega, by omega, by omega, ?_⟩
  intro v hv
  have hmo := (by decide : ∀ v, v < 5 → 2 ≤ ([9, 4, 20, 2, 99] : List Int).getD v 0 ∧ ([9, 4, 20, 2, 99] : List Int).getD v 0 ≤ 99) v hv
  generalize ([9, 4, 20, 2, 99] : List Int).getD v 0 = mo at *
  repeat' (first | refine awp_seq_k fun K hK => ?_ | ((with_reducible refine hK _ ?_); clear hK K) | ((with_reducible refine aord_plain fun K hK => ?_); simp only [go_sem, Nat.reduceAdd, Nat.reduceMul, Nat.reduceEqDiff, Nat.reduceLT, reduceIte, reduceCtorEq, h0, h1]) | refine awp_block ?_ | ((first | with_reducible refine aord_nil ?_ | refine awp_skip ?_ | refine awp_exit ?_ | refine awp_ret ?_); try simp only [thenA_normal, thenA_exit, thenA_goto, thenA_ret, blockA_normal, blockA_same, blockA_exit, blockA_goto, blockA_ret, Nat.reduceEqDiff, if_false, if_true, reduceIte]) | fail)
  refine awp_loopE (α := (List Int) × (Nat)) (fun s p => ⟨(upd (upd (upd (upd bot 0 (s.tmps 0)) 1 (s.tmps 1)) 5 (.sl 4 0 (p.1).length 1 none)) 6 (s.tmps 6)), (upd (upd s.heap 4 (some ⟨true, .ints .i64 ((p.1))⟩)) 1 (some ⟨true, .cells ([.sl 0 0 L 1 lim, .val (.int .i64 ((p.2) : Nat))])⟩)), s.next⟩) _ (fun p => by simp only [St.ev, St.set, upd, Nat.reduceEqDiff, reduceIte, if_false, if_true]; exact rfl) (fun p => (((p.1).length : Int) ≤ N) ∧ ((p.2) ≤ q + 1 + 2 * (p.1).length)) (fun p => N.toNat - (p.1).length) ([], q + 1) ?_ ?_ ?_
  · (try simp only); (refine ⟨?_, ?_⟩ <;> (first | omega | (simp; omega)))
  · (apply Wk.over (id) 4; (case' h2 => (focus ((repeat' (first | (with_reducible exact HeapX.bot) | (exact HeapX.base (by first | exact hcl | assumption) (by first | exact Nat.le_refl _ | omega | (simp only; omega)) (fun k hk => by first | rfl | (simp only [id]; done) | ((repeat rw [if_neg (by omega)]); done)) (by intro u hu hlt'; first | rfl | (simp only [List.mem_cons, List.not_mem_nil, or_false, not_or] at hu; first | (simp [upd, hu]; done) | (simp only [upd]; (repeat rw [if_neg (by omega)]))))) | (with_reducible (apply HeapX.skip; (case hx => (simp; done)))) | (with_reducible apply HeapX.none) | (with_reducible apply HeapX.old (by first | assumption | omega) (by first | exact Nat.le_refl _ | omega | (simp only; omega)) (by first | rfl | (simp only [id]; done) | ((repeat rw [if_neg (by omega)]); done))) | (with_reducible apply HeapX.upd))); all_goals (first | rfl | omega | assumption | exact Nat.le_of_ble_eq_true rfl | (simp only; omega) | (simp only [St.set, St.ev, upd, ren, renL, id, Nat.reduceEqDiff, reduceIte]; rfl) | (simp only [St.set, St.ev, upd, ren, renL, id, Nat.reduceEqDiff, reduceIte, ContLe]; done) | (exact And.intro rfl (And.intro (by first | exact Nat.le_of_ble_eq_true rfl | omega) (by first | exact Nat.le_of_ble_eq_true rfl | omega))) | (first | (simp only [St.set, St.ev, upd, ren, renL, id, Nat.reduceEqDiff, reduceIte]; exact contLe_nil) | ((repeat' (first | exact contLe_nil | refine contLe_cons (.inr ⟨?_, rfl⟩) ?_ | exact contLe_refl (n0 := 4) (fun k hk => by first | rfl | (simp only [id]; done) | ((repeat rw [if_neg (by omega)]); done)) (by first | exact Nat.le_refl _ | omega | (simp only; omega)) (by assumption))); all_goals (first | rfl | (simp only [St.set, St.ev, upd, ren, renL, id, Nat.reduceEqDiff, reduceIte]; done) | ((try simp only [St.set, St.ev, upd, ren, renL, id, Nat.reduceEqDiff, reduceIte]); first | (with_reducible exact av_int (by omega)) | (with_reducible exact av_sl (by first | omega | (simp; done) | (simp; omega)) (by first | omega | (simp; done) | (simp; omega)))) | (simp only [St.set, St.ev, upd, ren, renL, id, Nat.reduceEqDiff, reduceIte, Int.natCast_add, Int.natCast_one, Int.cast_ofNat_Int, Int.natCast_zero]; done) | (simp only [St.set, St.ev, upd, ren, renL, id, Nat.reduceEqDiff, reduceIte]) | skip); done)) | (simp only [St.set, St.ev, upd, ren, renL, id, Nat.reduceEqDiff, reduceIte, ContLe]) | skip)))); (case' h1 => (focus ((repeat' (with_reducible first | exact TmpLe.bot | refine TmpLe.upd ?_ (by first | rfl | (simp only [AV.lt, decide_eq_true_eq]; first | done | omega)) ?_)); all_goals (first | rfl | (simp only [St.set, St.ev, upd, ren, renL, id, Nat.reduceEqDiff, reduceIte]; done) | ((try simp only [St.set, St.ev, upd, ren, renL, id, Nat.reduceEqDiff, reduceIte]); first | (with_reducible exact av_int (by omega)) | (with_reducible exact av_sl (by first | omega | (simp; done) | (simp; omega)) (by first | omega | (simp; done) | (simp; omega)))) | (simp only [St.set, St.ev, upd, ren, renL, id, Nat.reduceEqDiff, reduceIte, Int.natCast_add, Int.natCast_one, Int.cast_ofNat_Int, Int.natCast_zero]; done) | (simp only [St.set, St.ev, upd, ren, renL, id, Nat.reduceEqDiff, reduceIte]) | skip)))); (case h3 => (focus (first | (simp only [id, List.map_cons, List.map_nil]; decide) | decide | (simp; done) | (simp; omega) | fail))); (case h5 => (intro d hd; first | (simp at hd; done) | (simp only [List.mem_cons, List.not_mem_nil, or_false] at hd; first | (simp only [id]; omega) | (split <;> omega) | ((repeat' split) <;> omega) | ((try simp only); repeat' split; all_goals omega)))); (case h4 => (intro o l h; first | (cases h; done) | (have hlt0 := m0_lt (by assumption) h; (try (simp only at hlt0)); first | omega | (simp only; omega) | exact ⟨by (first | rfl | (simp only [id]; done) | ((repeat rw [if_neg (by omega)]); done)), by first | omega | (simp only; omega)⟩))))
  rintro ⟨ys, r⟩ ⟨hy, hr⟩
  try simp only at hy hr
  repeat' ((fail_if_success (with_reducible refine isRet K0 ?_)); (first | refine awp_seq_k fun K hK => ?_ | ((with_reducible refine hK _ ?_); clear hK K) | (clear hK K; (with_reducible refine hK _ ?_); clear hK K) | ((with_reducible refine aord_plain fun K hK => ?_); simp only [go_sem, Nat.reduceAdd, Nat.reduceMul, Nat.reduceEqDiff, Nat.reduceLT, reduceIte, reduceCtorEq, h0, h1]) | refine awp_block ?_ | ((first | with_reducible refine aord_nil ?_ | refine awp_skip ?_ | refine awp_exit ?_ | refine awp_ret ?_); try simp only [thenA_normal, thenA_exit, thenA_goto, thenA_ret, blockA_normal, blockA_same, blockA_exit, blockA_goto, blockA_ret, Nat.reduceEqDiff, if_false, if_true, reduceIte]) | (refine awp_region tabOk rfl ?_; simp only [prep, pickO, List.map_cons, List.map_nil, List.getElem?_toArray, List.getElem?_cons_succ, List.getElem?_cons_zero, Option.bind_some, Option.map_some]) | ((with_reducible apply awp_cond); (focus (simp only [St.ev, St.set, upd, Nat.reduceEqDiff, reduceIte, if_false, if_true]; exact rfl)); all_goals (intro hb; first | (cases hb; done) | ((try rw [hb]); (try simp only [decide_eq_true_eq, decide_eq_false_iff_not, beq_iff_eq, bne_iff_ne, beq_eq_false_iff_ne, bne_eq_false_iff_eq, Int.not_lt, Int.not_le, Bool.not_eq_true', Bool.not_eq_false'] at hb)))) | ((with_reducible refine And.intro (?_ : enters Try.prog 20) ?_); (focus exact Try.call20); (refine callX_satH pick_sat ?_); simp only [go_sem, and_assoc, List.nil_append, List.append_nil, List.cons_append, Nat.reduceEqDiff, reduceIte, reduceCtorEq, h0, h1]) | fail))
  · refine ⟨L, lim, r, rfl, hL.1, hL.2, hbs, by omega, by omega, ?_⟩
    intro w hw0 hw1
    repeat' (first | refine awp_seq_k fun K hK => ?_ | ((with_reducible refine hK _ ?_); clear hK K) | ((with_reducible refine aord_plain fun K hK => ?_); simp only [go_sem, Nat.reduceAdd, Nat.reduceMul, Nat.reduceEqDiff, Nat.reduceLT, reduceIte, reduceCtorEq, h0, h1]) | refine awp_block ?_ | ((first | with_reducible refine aord_nil ?_ | refine awp_skip ?_ | refine awp_exit ?_ | refine awp_ret ?_); try simp only [thenA_normal, thenA_exit, thenA_goto, thenA_ret, blockA_normal, blockA_same, blockA_exit, blockA_goto, blockA_ret, Nat.reduceEqDiff, if_false, if_true, reduceIte]) | (refine awp_region tabOk rfl ?_; simp only [prep, pickO, List.map_cons, List.map_nil, List.getElem?_toArray, List.getElem?_cons_succ, List.getElem?_cons_zero, Option.bind_some, Option.map_some]) | ((with_reducible apply awp_cond); (focus (simp only [St.ev, St.set, upd, Nat.reduceEqDiff, reduceIte, if_false, if_true]; exact rfl)); all_goals (intro hb; first | (cases hb; done) | ((try rw [hb]); (try simp only [decide_eq_true_eq, decide_eq_false_iff_not, beq_iff_eq, bne_iff_ne, beq_eq_false_iff_ne, bne_eq_false_iff_eq, Int.not_lt, Int.not_le, Bool.not_eq_true', Bool.not_eq_false'] at hb)))) | ((with_reducible refine And.intro ?_ ?_); (focus omega)) | ((with_reducible refine And.intro (?_ : enters Try.prog 20) ?_); (focus exact Try.call20); (refine callX_satH pick_sat ?_); simp only [go_sem, and_assoc, List.nil_append, List.append_nil, List.cons_append, Nat.reduceEqDiff, reduceIte, reduceCtorEq, h0, h1]) | (refine aAppend_ints rfl rfl rfl rfl (Nat.le_of_ble_eq_true rfl) (by simp only [St.ev, St.set, upd, Nat.reduceEqDiff, reduceIte, if_false, if_true]; exact rfl) (by simp only [St.ev, St.set, upd, Nat.reduceEqDiff, reduceIte, if_false, if_true]; exact rfl) rfl (by first | decide | omega | (simp; done) | fail) ?_ ?_ ?_ ?_; (focus (first | rfl | omega | (simp; done) | (simp; omega) | (simp [szOf, tab]; done) | (simp [szOf, tab]; omega))); (focus (first | rfl | omega | (simp; done) | (simp; omega) | (simp [szOf, tab]; done) | (simp [szOf, tab]; omega))); (focus (first | rfl | omega | (simp; done) | (simp; omega) | (simp [szOf, tab]; done) | (simp [szOf, tab]; omega))); (try simp only [go_sem, Nat.reduceAdd, Nat.reduceMul, Nat.reduceEqDiff, Nat.reduceLT, reduceIte, reduceCtorEq])) | fail)
    all_goals try (
      refine ⟨L, lim, r + 1, rfl, hL.1, hL.2, hbs, by omega, by omega, ?_⟩
      intro x hx0 hx1)
    repeat' (first | ((with_reducible refine hK _ ?_); clear hK K) | ((with_reducible refine aord_plain fun K hK => ?_); simp only [go_sem, Nat.reduceAdd, Nat.reduceMul, Nat.reduceEqDiff, Nat.reduceLT, reduceIte, reduceCtorEq, h0, h1]) | ((first | with_reducible refine aord_nil ?_ | refine awp_skip ?_ | refine awp_exit ?_ | refine awp_ret ?_); try simp only [thenA_normal, thenA_exit, thenA_goto, thenA_ret, blockA_normal, blockA_same, blockA_exit, blockA_goto, blockA_ret, Nat.reduceEqDiff, if_false, if_true, reduceIte]) | ((with_reducible refine And.intro ?_ ?_); (focus omega)) | (refine aAppend_ints rfl rfl rfl rfl (Nat.le_of_ble_eq_true rfl) (by simp only [St.ev, St.set, upd, Nat.reduceEqDiff, reduceIte, if_false, if_true]; exact rfl) (by simp only [St.ev, St.set, upd, Nat.reduceEqDiff, reduceIte, if_false, if_true]; exact rfl) rfl (by first | decide | omega | (simp; done) | fail) ?_ ?_ ?_ ?_; (focus (first | rfl | omega | (simp; done) | (simp; omega) | (simp [szOf, tab]; done) | (simp [szOf, tab]; omega))); (focus (first | rfl | omega | (simp; done) | (simp; omega) | (simp [szOf, tab]; done) | (simp [szOf, tab]; omega))); (focus (first | rfl | omega | (simp; done) | (simp; omega) | (simp [szOf, tab]; done) | (simp [szOf, tab]; omega))); (try simp only [go_sem, Nat.reduceAdd, Nat.reduceMul, Nat.reduceEqDiff, Nat.reduceLT, reduceIte, reduceCtorEq])) | fail)
    all_goals first | (focus (((apply Exists.intro (_, r + 2)); (refine nxt ?_ ?_ ?_); (focus ((apply Wk.over (fun o => if o = 4 then 7 else o) 4; (case' h2 => (focus ((repeat' (first | (with_reducible exact HeapX.bot) | (exact HeapX.base (by first | exact hcl | assumption) (by first | exact Nat.le_refl _ | omega | (simp only; omega)) (fun k hk => by first | rfl | (simp only [id]; done) | ((repeat rw [if_neg (by omega)]); done)) (by intro u hu hlt'; first | rfl | (simp only [List.mem_cons, List.not_mem_nil, or_false, not_or] at hu; first | (simp [upd, hu]; done) | (simp only [upd]; (repeat rw [if_neg (by omega)]))))) | (with_reducible (apply HeapX.skip; (case hx => (simp; done)))) | (with_reducible apply HeapX.none) | (with_reducible apply HeapX.old (by first | assumption | omega) (by first | exact Nat.le_refl _ | omega | (simp only; omega)) (by first | rfl | (simp only [id]; done) | ((repeat rw [if_neg (by omega)]); done))) | (with_reducible apply HeapX.upd))); all_goals (first | rfl | omega | assumption | exact Nat.le_of_ble_eq_true rfl | (simp only; omega) | (simp only [St.set, St.ev, upd, ren, renL, id, Nat.reduceEqDiff, reduceIte]; rfl) | (simp only [St.set, St.ev, upd, ren, renL, id, Nat.reduceEqDiff, reduceIte, ContLe]; done) | (exact And.intro rfl (And.intro (by first | exact Nat.le_of_ble_eq_true rfl | omega) (by first | exact Nat.le_of_ble_eq_true rfl | omega))) | (first | (simp only [St.set, St.ev, upd, ren, renL, id, Nat.reduceEqDiff, reduceIte]; exact contLe_nil) | ((repeat' (first | exact contLe_nil | refine contLe_cons (.inr ⟨?_, rfl⟩) ?_ | exact contLe_refl (n0 := 4) (fun k hk => by first | rfl | (simp only [id]; done) | ((repeat rw [if_neg (by omega)]); done)) (by first | exact Nat.le_refl _ | omega | (simp only; omega)) (by assumption))); all_goals (first | rfl | (simp only [St.set, St.ev, upd, ren, renL, id, Nat.reduceEqDiff, reduceIte]; done) | ((try simp only [St.set, St.ev, upd, ren, renL, id, Nat.reduceEqDiff, reduceIte]); first | (with_reducible exact av_int (by omega)) | (with_reducible exact av_sl (by first | omega | (simp; done) | (simp; omega)) (by first | omega | (simp; done) | (simp; omega)))) | (simp only [St.set, St.ev, upd, ren, renL, id, Nat.reduceEqDiff, reduceIte, Int.natCast_add, Int.natCast_one, Int.cast_ofNat_Int, Int.natCast_zero]; done) | (simp only [St.set, St.ev, upd, ren, renL, id, Nat.reduceEqDiff, reduceIte]) | skip); done)) | (simp only [St.set, St.ev, upd, ren, renL, id, Nat.reduceEqDiff, reduceIte, ContLe]) | skip)))); (case' h1 => (focus ((repeat' (with_reducible first | exact TmpLe.bot | refine TmpLe.upd ?_ (by first | rfl | (simp only [AV.lt, decide_eq_true_eq]; first | done | omega)) ?_)); all_goals (first | rfl | (simp only [St.set, St.ev, upd, ren, renL, id, Nat.reduceEqDiff, reduceIte]; done) | ((try simp only [St.set, St.ev, upd, ren, renL, id, Nat.reduceEqDiff, reduceIte]); first | (with_reducible exact av_int (by omega)) | (with_reducible exact av_sl (by first | omega | (simp; done) | (simp; omega)) (by first | omega | (simp; done) | (simp; omega)))) | (simp only [St.set, St.ev, upd, ren, renL, id, Nat.reduceEqDiff, reduceIte, Int.natCast_add, Int.natCast_one, Int.cast_ofNat_Int, Int.natCast_zero]; done) | (simp only [St.set, St.ev, upd, ren, renL, id, Nat.reduceEqDiff, reduceIte]) | skip)))); (case h3 => (focus (first | (simp only [id, List.map_cons, List.map_nil]; decide) | decide | (simp; done) | (simp; omega) | fail))); (case h5 => (intro d hd; first | (simp at hd; done) | (simp only [List.mem_cons, List.not_mem_nil, or_false] at hd; first | (simp only [id]; omega) | (split <;> omega) | ((repeat' split) <;> omega) | ((try simp only); repeat' split; all_goals omega)))); (case h4 => (intro o l h; first | (cases h; done) | (have hlt0 := m0_lt (by assumption) h; (try (simp only at hlt0)); first | omega | (simp only; omega) | exact ⟨by (first | rfl | (simp only [id]; done) | ((repeat rw [if_neg (by omega)]); done)), by first | omega | (simp only; omega)⟩)))))); (focus (first | omega | (simp only; omega) | (simp only [List.length_take]; omega) | (simp; done) | (simp; omega))); ((repeat' (with_reducible apply And.intro)) <;> (first | omega | (simp only; omega) | assumption | rfl | ((try simp only); (simp; omega)) | fail))); done)) | (focus (((apply Exists.intro (_, r + 1)); (refine nxt ?_ ?_ ?_); (focus ((apply Wk.over (fun o => if o = 4 then 7 else o) 4; (case' h2 => (focus ((repeat' (first | (with_reducible exact HeapX.bot) | (exact HeapX.base (by first | exact hcl | assumption) (by first | exact Nat.le_refl _ | omega | (simp only; omega)) (fun k hk => by first | rfl | (simp only [id]; done) | ((repeat rw [if_neg (by omega)]); done)) (by intro u hu hlt'; first | rfl | (simp only [List.mem_cons, List.not_mem_nil, or_false, not_or] at hu; first | (simp [upd, hu]; done) | (simp only [upd]; (repeat rw [if_neg (by omega)]))))) | (with_reducible (apply HeapX.skip; (case hx => (simp; done)))) | (with_reducible apply HeapX.none) | (with_reducible apply HeapX.old (by first | assumption | omega) (by first | exact Nat.le_refl _ | omega | (simp only; omega)) (by first | rfl | (simp only [id]; done) | ((repeat rw [if_neg (by omega)]); done))) | (with_reducible apply HeapX.upd))); all_goals (first | rfl | omega | assumption | exact Nat.le_of_ble_eq_true rfl | (simp only; omega) | (simp only [St.set, St.ev, upd, ren, renL, id, Nat.reduceEqDiff, reduceIte]; rfl) | (simp only [St.set, St.ev, upd, ren, renL, id, Nat.reduceEqDiff, reduceIte, ContLe]; done) | (exact And.intro rfl (And.intro (by first | exact Nat.le_of_ble_eq_true rfl | omega) (by first | exact Nat.le_of_ble_eq_true rfl | omega))) | (first | (simp only [St.set, St.ev, upd, ren, renL, id, Nat.reduceEqDiff, reduceIte]; exact contLe_nil) | ((repeat' (first | exact contLe_nil | refine contLe_cons (.inr ⟨?_, rfl⟩) ?_ | exact contLe_refl (n0 := 4) (fun k hk => by first | rfl | (simp only [id]; done) | ((repeat rw [if_neg (by omega)]); done)) (by first | exact Nat.le_refl _ | omega | (simp only; omega)) (by assumption))); all_goals (first | rfl | (simp only [St.set, St.ev, upd, ren, renL, id, Nat.reduceEqDiff, reduceIte]; done) | ((try simp only [St.set, St.ev, upd, ren, renL, id, Nat.reduceEqDiff, reduceIte]); first | (with_reducible exact av_int (by omega)) | (with_reducible exact av_sl (by first | omega | (simp; done) | (simp; omega)) (by first | omega | (simp; done) | (simp; omega)))) | (simp only [St.set, St.ev, upd, ren, renL, id, Nat.reduceEqDiff, reduceIte, Int.natCast_add, Int.natCast_one, Int.cast_ofNat_Int, Int.natCast_zero]; done) | (simp only [St.set, St.ev, upd, ren, renL, id, Nat.reduceEqDiff, reduceIte]) | skip); done)) | (simp only [St.set, St.ev, upd, ren, renL, id, Nat.reduceEqDiff, reduceIte, ContLe]) | skip)))); (case' h1 => (focus ((repeat' (with_reducible first | exact TmpLe.bot | refine TmpLe.upd ?_ (by first | rfl | (simp only [AV.lt, decide_eq_true_eq]; first | done | omega)) ?_)); all_goals (first | rfl | (simp only [St.set, St.ev, upd, ren, renL, id, Nat.reduceEqDiff, reduceIte]; done) | ((try simp only [St.set, St.ev, upd, ren, renL, id, Nat.reduceEqDiff, reduceIte]); first | (with_reducible exact av_int (by omega)) | (with_reducible exact av_sl (by first | omega | (simp; done) | (simp; omega)) (by first | omega | (simp; done) | (simp; omega)))) | (simp only [St.set, St.ev, upd, ren, renL, id, Nat.reduceEqDiff, reduceIte, Int.natCast_add, Int.natCast_one, Int.cast_ofNat_Int, Int.natCast_zero]; done) | (simp only [St.set, St.ev, upd, ren, renL, id, Nat.reduceEqDiff, reduceIte]) | skip)))); (case h3 => (focus (first | (simp only [id, List.map_cons, List.map_nil]; decide) | decide | (simp; done) | (simp; omega) | fail))); (case h5 => (intro d hd; first | (simp at hd; done) | (simp only [List.mem_cons, List.not_mem_nil, or_false] at hd; first | (simp only [id]; omega) | (split <;> omega) | ((repeat' split) <;> omega) | ((try simp only); repeat' split; all_goals omega)))); (case h4 => (intro o l h; first | (cases h; done) | (have hlt0 := m0_lt (by assumption) h; (try (simp only at hlt0)); first | omega | (simp only; omega) | exact ⟨by (first | rfl | (simp only [id]; done) | ((repeat rw [if_neg (by omega)]); done)), by first | omega | (simp only; omega)⟩)))))); (focus (first | omega | (simp only; omega) | (simp only [List.length_take]; omega) | (simp; done) | (simp; omega))); ((repeat' (with_reducible apply And.intro)) <;> (first | omega | (simp only; omega) | assumption | rfl | ((try simp only); (simp; omega)) | fail))); done)) | skip
  · refine awp_weaken (s' := ⟨upd bot 4 (.sl 4 0 ys.length 1 none), upd (upd h 1 (some ⟨true, .cells [.sl 0 0 L 1 lim, .val (.int .i64 r)]⟩)) 4 (some ⟨true, .ints .i64 ys⟩), 5⟩) ?_ ?_
    · (apply Wk.over (id) 4; (case' h2 => (focus ((repeat' (first | (with_reducible exact HeapX.bot) | (exact HeapX.base (by first | exact hcl | assumption) (by first | exact Nat.le_refl _ | omega | (simp only; omega)) (fun k hk => by first | rfl | (simp only [id]; done) | ((repeat rw [if_neg (by omega)]); done)) (by intro u hu hlt'; first | rfl | (simp only [List.mem_cons, List.not_mem_nil, or_false, not_or] at hu; first | (simp [upd, hu]; done) | (simp only [upd]; (repeat rw [if_neg (by omega)]))))) | (with_reducible (apply HeapX.skip; (case hx => (simp; done)))) | (with_reducible apply HeapX.none) | (with_reducible apply HeapX.old (by first | assumption | omega) (by first | exact Nat.le_refl _ | omega | (simp only; omega)) (by first | rfl | (simp only [id]; done) | ((repeat rw [if_neg (by omega)]); done))) | (with_reducible apply HeapX.upd))); all_goals (first | rfl | omega | assumption | exact Nat.le_of_ble_eq_true rfl | (simp only; omega) | (simp only [St.set, St.ev, upd, ren, renL, id, Nat.reduceEqDiff, reduceIte]; rfl) | (simp only [St.set, St.ev, upd, ren, renL, id, Nat.reduceEqDiff, reduceIte, ContLe]; done) | (exact And.intro rfl (And.intro (by first | exact Nat.le_of_ble_eq_true rfl | omega) (by first | exact Nat.le_of_ble_eq_true rfl | omega))) | (first | (simp only [St.set, St.ev, upd, ren, renL, id, Nat.reduceEqDiff, reduceIte]; exact contLe_nil) | ((repeat' (first | exact contLe_nil | refine contLe_cons (.inr ⟨?_, rfl⟩) ?_ | exact contLe_refl (n0 := 4) (fun k hk => by first | rfl | (simp only [id]; done) | ((repeat rw [if_neg (by omega)]); done)) (by first | exact Nat.le_refl _ | omega | (simp only; omega)) (by assumption))); all_goals (first | rfl | (simp only [St.set, St.ev, upd, ren, renL, id, Nat.reduceEqDiff, reduceIte]; done) | ((try simp only [St.set, St.ev, upd, ren, renL, id, Nat.reduceEqDiff, reduceIte]); first | (with_reducible exact av_int (by omega)) | (with_reducible exact av_sl (by first | omega | (simp; done) | (simp; omega)) (by first | omega | (simp; done) | (simp; omega)))) | (simp only [St.set, St.ev, upd, ren, renL, id, Nat.reduceEqDiff, reduceIte, Int.natCast_add, Int.natCast_one, Int.cast_ofNat_Int, Int.natCast_zero]; done) | (simp only [St.set, St.ev, upd, ren, renL, id, Nat.reduceEqDiff, reduceIte]) | skip); done)) | (simp only [St.set, St.ev, upd, ren, renL, id, Nat.reduceEqDiff, reduceIte, ContLe]) | skip)))); (case' h1 => (focus ((repeat' (with_reducible first | exact TmpLe.bot | refine TmpLe.upd ?_ (by first | rfl | (simp only [AV.lt, decide_eq_true_eq]; first | done | omega)) ?_)); all_goals (first | rfl | (simp only [St.set, St.ev, upd, ren, renL, id, Nat.reduceEqDiff, reduceIte]; done) | ((try simp only [St.set, St.ev, upd, ren, renL, id, Nat.reduceEqDiff, reduceIte]); first | (with_reducible exact av_int (by omega)) | (with_reducible exact av_sl (by first | omega | (simp; done) | (simp; omega)) (by first | omega | (simp; done) | (simp; omega)))) | (simp only [St.set, St.ev, upd, ren, renL, id, Nat.reduceEqDiff, reduceIte, Int.natCast_add, Int.natCast_one, Int.cast_ofNat_Int, Int.natCast_zero]; done) | (simp only [St.set, St.ev, upd, ren, renL, id, Nat.reduceEqDiff, reduceIte]) | skip)))); (case h3 => (focus (first | (simp only [id, List.map_cons, List.map_nil]; decide) | decide | (simp; done) | (simp; omega) | fail))); (case h5 => (intro d hd; first | (simp at hd; done) | (simp only [List.mem_cons, List.not_mem_nil, or_false] at hd; first | (simp only [id]; omega) | (split <;> omega) | ((repeat' split) <;> omega) | ((try simp only); repeat' split; all_goals omega)))); (case h4 => (intro o l h; first | (cases h; done) | (have hlt0 := m0_lt (by assumption) h; (try (simp only at hlt0)); first | omega | (simp only; omega) | exact ⟨by (first | rfl | (simp only [id]; done) | ((repeat rw [if_neg (by omega)]); done)), by first | omega | (simp only; omega)⟩))))
    repeat' (first | ((first | with_reducible refine aord_nil ?_ | refine awp_skip ?_ | refine awp_exit ?_ | refine awp_ret ?_); try simp only [thenA_normal, thenA_exit, thenA_goto, thenA_ret, blockA_normal, blockA_same, blockA_exit, blockA_goto, blockA_ret, Nat.reduceEqDiff, if_false, if_true, reduceIte]) | (simp only [doneH]; simp only [ressK, resK, wrapR, go_sem, Nat.reduceAdd, Nat.reduceMul, Nat.reduceEqDiff, Nat.reduceLT, reduceIte, reduceCtorEq]) | fail)
    exact hQ ys r (by omega) (by omega)


theorem goodKeys_sat3 : SatH Try.prog 22 (fun al h n K => ∃ (bs : List Int) (L : Nat) (lim : Option Nat) (q : Nat), al = [.ref 1 0] ∧ (n = 3) ∧ (h 0 = some ⟨false, .ints .u8 bs⟩) ∧ (h 1 = some ⟨true, .cells [.sl 0 0 L 1 lim, .val (.int .i64 q)]⟩) ∧ (L ≤ bs.length ∧ L ≤ 1099511627776) ∧ (bytesOk bs) ∧ (q ≤ 900000) ∧ ∀ (ys : List Int) (r : Nat), ys.length ≤ 8 → r ≤ q + 25 → K (.sl 3 0 ys.length 1 none) (upd (upd h 1 (some ⟨true, .cells [.sl 0 0 L 1 lim, .val (.int .i64 r)]⟩)) 3 (some ⟨true, .ints .i64 ys⟩)) (4)) := by
  refine satH_intro tabOk Try.func22 rfl 52 rfl [.tmp 2] rfl ?_
  rintro F W h n al K0 ⟨bs, L, lim, q, rfl, hn, h0, h1, hL, hbs, hq, hQ⟩
  refine ⟨Nat.le_of_ble_eq_true rfl, fun m0 hm0 hcl hlt => ?_⟩
  simp only [initT]
  subst hn
  repeat' (first | refine awp_seq_k fun K hK => ?_ | ((with_reducible refine hK _ ?_); clear hK K) | ((with_reducible refine aord_plain fun K hK => ?_); simp only [go_sem, Nat.reduceAdd, Nat.reduceMul, Nat.reduceEqDiff, Nat.reduceLT, reduceIte, reduceCtorEq, h0, h1]) | ((first | with_reducible refine aord_nil ?_ | refine awp_skip ?_ | refine awp_exit ?_ | refine awp_ret ?_); try simp only [thenA_normal, thenA_exit, thenA_goto, thenA_ret, blockA_normal, blockA_same, blockA_exit, blockA_goto, blockA_ret, Nat.reduceEqDiff, if_false, if_true, reduceIte]) | (refine awp_region tabOk rfl ?_; simp only [prep, pickO, List.map_cons, List.map_nil, List.getElem?_toArray, List.getElem?_cons_succ, List.getElem?_cons_zero, Option.bind_some, Option.map_some]) | ((with_reducible refine And.intro ?_ ?_); (focus omega)) | ((with_reducible refine And.intro (?_ : enters Try.prog 46) ?_); (focus exact Try.call46); (refine callX_satH one_sat ?_); simp only [go_sem, and_assoc, List.nil_append, List.append_nil, List.cons_append, Nat.reduceEqDiff, reduceIte, reduceCtorEq, h0, h1]) | fail)
  refine ⟨L, lim, _, q, rfl, hL.1, hL.2, hbs, rfl, rfl, by omega, by omega, by omega, ?_⟩
  intro v hv
  have hmo := (by decide : ∀ v, v < 9 → 0 ≤ ([5, 6, 4, 7, 8, 3, 2, 1, 0] : List Int).getD v 0 ∧ ([5, 6, 4, 7, 8, 3, 2, 1, 0] : List Int).getD v 0 ≤ 8) v hv
  generalize ([5, 6, 4, 7, 8, 3, 2, 1, 0] : List Int).getD v 0 = mo at *
  repeat' (first | ((with_reducible refine hK _ ?_); clear hK K) | ((with_reducible refine aord_plain fun K hK => ?_); simp only [go_sem, Nat.reduceAdd, Nat.reduceMul, Nat.reduceEqDiff, Nat.reduceLT, reduceIte, reduceCtorEq, h0, h1]) | ((with_reducible refine And.intro (?_ : enters Try.prog 47) ?_); (focus exact Try.call47); (refine callX_satH keysOf_sat4 ?_); simp only [go_sem, and_assoc, List.nil_append, List.append_nil, List.cons_append, Nat.reduceEqDiff, reduceIte, reduceCtorEq, h0, h1]) | fail)
  refine ⟨L, lim, q + 1, rfl, hL.1, hL.2, hbs, by omega, by omega, by omega, ?_⟩
  intro ys r hys hr
  have hol := ordL_len ys
  repeat' (first | refine awp_seq_k fun K hK => ?_ | ((with_reducible refine hK _ ?_); clear hK K) | ((with_reducible refine aord_plain fun K hK => ?_); simp only [go_sem, Nat.reduceAdd, Nat.reduceMul, Nat.reduceEqDiff, Nat.reduceLT, reduceIte, reduceCtorEq, h0, h1]) | ((first | with_reducible refine aord_nil ?_ | refine awp_skip ?_ | refine awp_exit ?_ | refine awp_ret ?_); try simp only [thenA_normal, thenA_exit, thenA_goto, thenA_ret, blockA_normal, blockA_same, blockA_exit, blockA_goto, blockA_ret, Nat.reduceEqDiff, if_false, if_true, reduceIte]) | (refine awp_region tabOk rfl ?_; simp only [prep, pickO, List.map_cons, List.map_nil, List.getElem?_toArray, List.getElem?_cons_succ, List.getElem?_cons_zero, Option.bind_some, Option.map_some]) | ((with_reducible refine And.intro (?_ : enters Try.prog 20) ?_); (focus exact Try.call20); (refine callX_satH pick_sat ?_); simp only [go_sem, and_assoc, List.nil_append, List.append_nil, List.cons_append, Nat.reduceEqDiff, reduceIte, reduceCtorEq, h0, h1]) | fail)
  refine ⟨L, lim, r, rfl, hL.1, hL.2, hbs, by omega, by omega, ?_⟩
  intro w hw0 hw1
  repeat' ((fail_if_success (with_reducible refine isRet K0 ?_)); (first | refine awp_seq_k fun K hK => ?_ | ((with_reducible refine hK _ ?_); clear hK K) | ((with_reducible refine aord_plain fun K hK => ?_); simp only [go_sem, Nat.reduceAdd, Nat.reduceMul, Nat.reduceEqDiff, Nat.reduceLT, reduceIte, reduceCtorEq, h0, h1]) | refine awp_block ?_ | ((first | with_reducible refine aord_nil ?_ | refine awp_skip ?_ | refine awp_exit ?_ | refine awp_ret ?_); try simp only [thenA_normal, thenA_exit, thenA_goto, thenA_ret, blockA_normal, blockA_same, blockA_exit, blockA_goto, blockA_ret, Nat.reduceEqDiff, if_false, if_true, reduceIte]) | (refine awp_region tabOk rfl ?_; simp only [prep, pickO, List.map_cons, List.map_nil, List.getElem?_toArray, List.getElem?_cons_succ, List.getElem?_cons_zero, Option.bind_some, Option.map_some]) | ((with_reducible apply awp_cond); (focus (simp only [St.ev, St.set, upd, Nat.reduceEqDiff, reduceIte, if_false, if_true]; exact rfl)); all_goals (intro hb; first | (cases hb; done) | ((try rw [hb]); (try simp only [decide_eq_true_eq, decide_eq_false_iff_not, beq_iff_eq, bne_iff_ne, beq_eq_false_iff_ne, bne_eq_false_iff_eq, Int.not_lt, Int.not_le, Bool.not_eq_true', Bool.not_eq_false'] at hb)))) | ((with_reducible refine And.intro ?_ ?_); (focus omega)) | ((with_reducible refine And.intro (?_ : enters Try.prog 48) ?_); (focus exact Try.call48); (refine callX_sat specOrder_sat ?_); simp only [go_sem, and_assoc, List.nil_append, List.append_nil, List.cons_append, Nat.reduceEqDiff, reduceIte, reduceCtorEq, h0, h1]) | fail))
  · refine awp_weaken (s' := ⟨upd bot 2 (.sl 3 0 (ordL ys).length 1 none), upd (upd h 1 (some ⟨true, .cells [.sl 0 0 L 1 lim, .val (.int .i64 ((r + 1 : Nat) : Int))]⟩)) 3 (some ⟨true, .ints .i64 (ordL ys)⟩), 4⟩) ?_ ?_
    · (apply Wk.over (fun o => if o = 3 then 5 else o) 3; (case' h2 => (focus ((repeat' (first | (with_reducible exact HeapX.bot) | (exact HeapX.base (by first | exact hcl | assumption) (by first | exact Nat.le_refl _ | omega | (simp only; omega)) (fun k hk => by first | rfl | (simp only [id]; done) | ((repeat rw [if_neg (by omega)]); done)) (by intro u hu hlt'; first | rfl | (simp only [List.mem_cons, List.not_mem_nil, or_false, not_or] at hu; first | (simp [upd, hu]; done) | (simp only [upd]; (repeat rw [if_neg (by omega)]))))) | (with_reducible (apply HeapX.skip; (case hx => (simp; done)))) | (with_reducible apply HeapX.none) | (with_reducible apply HeapX.old (by first | assumption | omega) (by first | exact Nat.le_refl _ | omega | (simp only; omega)) (by first | rfl | (simp only [id]; done) | ((repeat rw [if_neg (by omega)]); done))) | (with_reducible apply HeapX.upd))); all_goals (first | rfl | omega | assumption | exact Nat.le_of_ble_eq_true rfl | (simp only; omega) | (simp only [St.set, St.ev, upd, ren, renL, id, Nat.reduceEqDiff, reduceIte]; rfl) | (simp only [St.set, St.ev, upd, ren, renL, id, Nat.reduceEqDiff, reduceIte, ContLe]; done) | (exact And.intro rfl (And.intro (by first | exact Nat.le_of_ble_eq_true rfl | omega) (by first | exact Nat.le_of_ble_eq_true rfl | omega))) | (first | (simp only [St.set, St.ev, upd, ren, renL, id, Nat.reduceEqDiff, reduceIte]; exact contLe_nil) | ((repeat' (first | exact contLe_nil | refine contLe_cons (.inr ⟨?_, rfl⟩) ?_ | exact contLe_refl (n0 := 3) (fun k hk => by first | rfl | (simp only [id]; done) | ((repeat rw [if_neg (by omega)]); done)) (by first | exact Nat.le_refl _ | omega | (simp only; omega)) (by assumption))); all_goals (first | rfl | (simp only [St.set, St.ev, upd, ren, renL, id, Nat.reduceEqDiff, reduceIte]; done) | ((try simp only [St.set, St.ev, upd, ren, renL, id, Nat.reduceEqDiff, reduceIte]); first | (with_reducible exact av_int (by omega)) | (with_reducible exact av_sl (by first | omega | (simp; done) | (simp; omega)) (by first | omega | (simp; done) | (simp; omega)))) | (simp only [St.set, St.ev, upd, ren, renL, id, Nat.reduceEqDiff, reduceIte, Int.natCast_add, Int.natCast_one, Int.cast_ofNat_Int, Int.natCast_zero]; done) | (simp only [St.set, St.ev, upd, ren, renL, id, Nat.reduceEqDiff, reduceIte]) | skip); done)) | (simp only [St.set, St.ev, upd, ren, renL, id, Nat.reduceEqDiff, reduceIte, ContLe]) | skip)))); (case' h1 => (focus ((repeat' (with_reducible first | exact TmpLe.bot | refine TmpLe.upd ?_ (by first | rfl | (simp only [AV.lt, decide_eq_true_eq]; first | done | omega)) ?_)); all_goals (first | rfl | (simp only [St.set, St.ev, upd, ren, renL, id, Nat.reduceEqDiff, reduceIte]; done) | ((try simp only [St.set, St.ev, upd, ren, renL, id, Nat.reduceEqDiff, reduceIte]); first | (with_reducible exact av_int (by omega)) | (with_reducible exact av_sl (by first | omega | (simp; done) | (simp; omega)) (by first | omega | (simp; done) | (simp; omega)))) | (simp only [St.set, St.ev, upd, ren, renL, id, Nat.reduceEqDiff, reduceIte, Int.natCast_add, Int.natCast_one, Int.cast_ofNat_Int, Int.natCast_zero]; done) | (simp only [St.set, St.ev, upd, ren, renL, id, Nat.reduceEqDiff, reduceIte]) | skip)))); (case h3 => (focus (first | (simp only [id, List.map_cons, List.map_nil]; decide) | decide | (simp; done) | (simp; omega) | fail))); (case h5 => (intro d hd; first | (simp at hd; done) | (simp only [List.mem_cons, List.not_mem_nil, or_false] at hd; first | (simp only [id]; omega) | (split <;> omega) | ((repeat' split) <;> omega) | ((try simp only); repeat' split; all_goals omega)))); (case h4 => (intro o l h; first | (cases h; done) | (have hlt0 := m0_lt (by assumption) h; (try (simp only at hlt0)); first | omega | (simp only; omega) | exact ⟨by (first | rfl | (simp only [id]; done) | ((repeat rw [if_neg (by omega)]); done)), by first | omega | (simp only; omega)⟩))))
    repeat' (first | ((first | with_reducible refine aord_nil ?_ | refine awp_skip ?_ | refine awp_exit ?_ | refine awp_ret ?_); try simp only [thenA_normal, thenA_exit, thenA_goto, thenA_ret, blockA_normal, blockA_same, blockA_exit, blockA_goto, blockA_ret, Nat.reduceEqDiff, if_false, if_true, reduceIte]) | (simp only [doneH]; simp only [ressK, resK, wrapR, go_sem, Nat.reduceAdd, Nat.reduceMul, Nat.reduceEqDiff, Nat.reduceLT, reduceIte, reduceCtorEq]) | fail)
    exact hQ (ordL ys) (r + 1) (by omega) (by omega)
  · skip
    refine awp_loopE (α := (Nat) × (List Int)) (fun s p => ⟨(upd (upd bot 3 (s.tmps 3)) 4 (.val (.int .i64 ((p.1))))), (upd s.heap 5 (some ⟨true, .ints .i64 ((p.2))⟩)), s.next⟩) _ (fun p => by simp only [St.ev, St.set, upd, Nat.reduceEqDiff, reduceIte, if_false, if_true]; exact rfl) (fun p => (2 * (p.1) ≤ ys.length) ∧ ((p.2).length = ys.length)) (fun p => ys.length - (p.1)) (0, ordL ys) ?_ ?_ ?_
    · (try simp only); (refine ⟨?_, ?_⟩ <;> (first | omega | (simp only; omega) | rfl | (simp; done) | skip))
    · (apply Wk.over (id) 3; (case' h2 => (focus ((repeat' (first | (with_reducible exact HeapX.bot) | (exact HeapX.base (by first | exact hcl | assumption) (by first | exact Nat.le_refl _ | omega | (simp only; omega)) (fun k hk => by first | rfl | (simp only [id]; done) | ((repeat rw [if_neg (by omega)]); done)) (by intro u hu hlt'; first | rfl | (simp only [List.mem_cons, List.not_mem_nil, or_false, not_or] at hu; first | (simp [upd, hu]; done) | (simp only [upd]; (repeat rw [if_neg (by omega)]))))) | (with_reducible (apply HeapX.skip; (case hx => (simp; done)))) | (with_reducible apply HeapX.none) | (with_reducible apply HeapX.old (by first | assumption | omega) (by first | exact Nat.le_refl _ | omega | (simp only; omega)) (by first | rfl | (simp only [id]; done) | ((repeat rw [if_neg (by omega)]); done))) | (with_reducible apply HeapX.upd))); all_goals (first | rfl | omega | assumption | exact Nat.le_of_ble_eq_true rfl | (simp only; omega) | (simp only [St.set, St.ev, upd, ren, renL, id, Nat.reduceEqDiff, reduceIte]; rfl) | (simp only [St.set, St.ev, upd, ren, renL, id, Nat.reduceEqDiff, reduceIte, ContLe]; done) | (exact And.intro rfl (And.intro (by first | exact Nat.le_of_ble_eq_true rfl | omega) (by first | exact Nat.le_of_ble_eq_true rfl | omega))) | (first | (simp only [St.set, St.ev, upd, ren, renL, id, Nat.reduceEqDiff, reduceIte]; exact contLe_nil) | ((repeat' (first | exact contLe_nil | refine contLe_cons (.inr ⟨?_, rfl⟩) ?_ | exact contLe_refl (n0 := 3) (fun k hk => by first | rfl | (simp only [id]; done) | ((repeat rw [if_neg (by omega)]); done)) (by first | exact Nat.le_refl _ | omega | (simp only; omega)) (by assumption))); all_goals (first | rfl | (simp only [St.set, St.ev, upd, ren, renL, id, Nat.reduceEqDiff, reduceIte]; done) | ((try simp only [St.set, St.ev, upd, ren, renL, id, Nat.reduceEqDiff, reduceIte]); first | (with_reducible exact av_int (by omega)) | (with_reducible exact av_sl (by first | omega | (simp; done) | (simp; omega)) (by first | omega | (simp; done) | (simp; omega)))) | (simp only [St.set, St.ev, upd, ren, renL, id, Nat.reduceEqDiff, reduceIte, Int.natCast_add, Int.natCast_one, Int.cast_ofNat_Int, Int.natCast_zero]; done) | (simp only [St.set, St.ev, upd, ren, renL, id, Nat.reduceEqDiff, reduceIte]) | skip); done)) | (simp only [St.set, St.ev, upd, ren, renL, id, Nat.reduceEqDiff, reduceIte, ContLe]) | skip)))); (case' h1 => (focus ((repeat' (with_reducible first | exact TmpLe.bot | refine TmpLe.upd ?_ (by first | rfl | (simp only [AV.lt, decide_eq_true_eq]; first | done | omega)) ?_)); all_goals (first | rfl | (simp only [St.set, St.ev, upd, ren, renL, id, Nat.reduceEqDiff, reduceIte]; done) | ((try simp only [St.set, St.ev, upd, ren, renL, id, Nat.reduceEqDiff, reduceIte]); first | (with_reducible exact av_int (by omega)) | (with_reducible exact av_sl (by first | omega | (simp; done) | (simp; omega)) (by first | omega | (simp; done) | (simp; omega)))) | (simp only [St.set, St.ev, upd, ren, renL, id, Nat.reduceEqDiff, reduceIte, Int.natCast_add, Int.natCast_one, Int.cast_ofNat_Int, Int.natCast_zero]; done) | (simp only [St.set, St.ev, upd, ren, renL, id, Nat.reduceEqDiff, reduceIte]) | skip)))); (case h3 => (focus (first | (simp only [id, List.map_cons, List.map_nil]; decide) | decide | (simp; done) | (simp; omega) | fail))); (case h5 => (intro d hd; first | (simp at hd; done) | (simp only [List.mem_cons, List.not_mem_nil, or_false] at hd; first | (simp only [id]; omega) | (split <;> omega) | ((repeat' split) <;> omega) | ((try simp only); repeat' split; all_goals omega)))); (case h4 => (intro o l h; first | (cases h; done) | (have hlt0 := m0_lt (by assumption) h; (try (simp only at hlt0)); first | omega | (simp only; omega) | exact ⟨by (first | rfl | (simp only [id]; done) | ((repeat rw [if_neg (by omega)]); done)), by first | omega | (simp only; omega)⟩))))
    rintro ⟨i, zs⟩ ⟨hi, hzl⟩
    try simp only at hi hzl
    repeat' ((fail_if_success (with_reducible refine isRet K0 ?_)); (first | refine awp_seq_k fun K hK => ?_ | ((with_reducible refine hK _ ?_); clear hK K) | (clear hK K; (with_reducible refine hK _ ?_); clear hK K) | ((with_reducible refine aord_plain fun K hK => ?_); simp only [go_sem, Nat.reduceAdd, Nat.reduceMul, Nat.reduceEqDiff, Nat.reduceLT, reduceIte, reduceCtorEq, h0, h1]) | refine awp_block ?_ | ((first | with_reducible refine aord_nil ?_ | refine awp_skip ?_ | refine awp_exit ?_ | refine awp_ret ?_); try simp only [thenA_normal, thenA_exit, thenA_goto, thenA_ret, blockA_normal, blockA_same, blockA_exit, blockA_goto, blockA_ret, Nat.reduceEqDiff, if_false, if_true, reduceIte]) | (refine awp_region tabOk rfl ?_; simp only [prep, pickO, List.map_cons, List.map_nil, List.getElem?_toArray, List.getElem?_cons_succ, List.getElem?_cons_zero, Option.bind_some, Option.map_some]) | ((with_reducible apply awp_cond); (focus (simp only [St.ev, St.set, upd, Nat.reduceEqDiff, reduceIte, if_false, if_true]; exact rfl)); all_goals (intro hb; first | (cases hb; done) | ((try rw [hb]); (try simp only [decide_eq_true_eq, decide_eq_false_iff_not, beq_iff_eq, bne_iff_ne, beq_eq_false_iff_ne, bne_eq_false_iff_eq, Int.not_lt, Int.not_le, Bool.not_eq_true', Bool.not_eq_false'] at hb)))) | ((with_reducible refine And.intro ?_ ?_); (focus omega)) | fail))
    · ((apply Exists.intro (i + 1, _)); (refine nxt ?_ ?_ ?_); (focus ((apply Wk.over (id) 3; (case' h2 => (focus ((repeat' (first | (with_reducible exact HeapX.bot) | (exact HeapX.base (by first | exact hcl | assumption) (by first | exact Nat.le_refl _ | omega | (simp only; omega)) (fun k hk => by first | rfl | (simp only [id]; done) | ((repeat rw [if_neg (by omega)]); done)) (by intro u hu hlt'; first | rfl | (simp only [List.mem_cons, List.not_mem_nil, or_false, not_or] at hu; first | (simp [upd, hu]; done) | (simp only [upd]; (repeat rw [if_neg (by omega)]))))) | (with_reducible (apply HeapX.skip; (case hx => (simp; done)))) | (with_reducible apply HeapX.none) | (with_reducible apply HeapX.old (by first | assumption | omega) (by first | exact Nat.le_refl _ | omega | (simp only; omega)) (by first | rfl | (simp only [id]; done) | ((repeat rw [if_neg (by omega)]); done))) | (with_reducible apply HeapX.upd))); all_goals (first | rfl | omega | assumption | exact Nat.le_of_ble_eq_true rfl | (simp only; omega) | (simp only [St.set, St.ev, upd, ren, renL, id, Nat.reduceEqDiff, reduceIte]; rfl) | (simp only [St.set, St.ev, upd, ren, renL, id, Nat.reduceEqDiff, reduceIte, ContLe]; done) | (exact And.intro rfl (And.intro (by first | exact Nat.le_of_ble_eq_true rfl | omega) (by first | exact Nat.le_of_ble_eq_true rfl | omega))) | (first | (simp only [St.set, St.ev, upd, ren, renL, id, Nat.reduceEqDiff, reduceIte]; exact contLe_nil) | ((repeat' (first | exact contLe_nil | refine contLe_cons (.inr ⟨?_, rfl⟩) ?_ | exact contLe_refl (n0 := 3) (fun k hk => by first | rfl | (simp only [id]; done) | ((repeat rw [if_neg (by omega)]); done)) (by first | exact Nat.le_refl _ | omega | (simp only; omega)) (by assumption))); all_goals (first | rfl | (simp only [St.set, St.ev, upd, ren, renL, id, Nat.reduceEqDiff, reduceIte]; done) | ((try simp only [St.set, St.ev, upd, ren, renL, id, Nat.reduceEqDiff, reduceIte]); first | (with_reducible exact av_int (by omega)) | (with_reducible exact av_sl (by first | omega | (simp; done) | (simp; omega)) (by first | omega | (simp; done) | (simp; omega)))) | (simp only [St.set, St.ev, upd, ren, renL, id, Nat.reduceEqDiff, reduceIte, Int.natCast_add, Int.natCast_one, Int.cast_ofNat_Int, Int.natCast_zero]; done) | (simp only [St.set, St.ev, upd, ren, renL, id, Nat.reduceEqDiff, reduceIte]) | skip); done)) | (simp only [St.set, St.ev, upd, ren, renL, id, Nat.reduceEqDiff, reduceIte, ContLe]) | skip)))); (case' h1 => (focus ((repeat' (with_reducible first | exact TmpLe.bot | refine TmpLe.upd ?_ (by first | rfl | (simp only [AV.lt, decide_eq_true_eq]; first | done | omega)) ?_)); all_goals (first | rfl | (simp only [St.set, St.ev, upd, ren, renL, id, Nat.reduceEqDiff, reduceIte]; done) | ((try simp only [St.set, St.ev, upd, ren, renL, id, Nat.reduceEqDiff, reduceIte]); first | (with_reducible exact av_int (by omega)) | (with_reducible exact av_sl (by first | omega | (simp; done) | (simp; omega)) (by first | omega | (simp; done) | (simp; omega)))) | (simp only [St.set, St.ev, upd, ren, renL, id, Nat.reduceEqDiff, reduceIte, Int.natCast_add, Int.natCast_one, Int.cast_ofNat_Int, Int.natCast_zero]; done) | (simp only [St.set, St.ev, upd, ren, renL, id, Nat.reduceEqDiff, reduceIte]) | skip)))); (case h3 => (focus (first | (simp only [id, List.map_cons, List.map_nil]; decide) | decide | (simp; done) | (simp; omega) | fail))); (case h5 => (intro d hd; first | (simp at hd; done) | (simp only [List.mem_cons, List.not_mem_nil, or_false] at hd; first | (simp only [id]; omega) | (split <;> omega) | ((repeat' split) <;> omega) | ((try simp only); repeat' split; all_goals omega)))); (case h4 => (intro o l h; first | (cases h; done) | (have hlt0 := m0_lt (by assumption) h; (try (simp only at hlt0)); first | omega | (simp only; omega) | exact ⟨by (first | rfl | (simp only [id]; done) | ((repeat rw [if_neg (by omega)]); done)), by first | omega | (simp only; omega)⟩)))))); (focus (first | omega | (simp only; omega) | (simp only [List.length_take]; omega) | (simp; done) | (simp; omega))); ((repeat' (with_reducible apply And.intro)) <;> (first | omega | (simp only; omega) | assumption | rfl | ((try simp only); (simp only [List.length_set]; exact hzl)) | skip)))
    · refine awp_weaken (s' := ⟨upd bot 2 (.sl 3 0 zs.length 1 none), upd (upd h 1 (some ⟨true, .cells [.sl 0 0 L 1 lim, .val (.int .i64 ((r + 1 : Nat) : Int))]⟩)) 3 (some ⟨true, .ints .i64 zs⟩), 4⟩) ?_ ?_
      · (apply Wk.over (fun o => if o = 3 then 5 else o) 3; (case' h2 => (focus ((repeat' (first | (with_reducible exact HeapX.bot) | (exact HeapX.base (by first | exact hcl | assumption) (by first | exact Nat.le_refl _ | omega | (simp only; omega)) (fun k hk => by first | rfl | (simp only [id]; done) | ((repeat rw [if_neg (by omega)]); done)) (by intro u hu hlt'; first | rfl | (simp only [List.mem_cons, List.not_mem_nil, or_false, not_or] at hu; first | (simp [upd, hu]; done) | (simp only [upd]; (repeat rw [if_neg (by omega)]))))) | (with_reducible (apply HeapX.skip; (case hx => (simp; done)))) | (with_reducible apply HeapX.none) | (with_reducible apply HeapX.old (by first | assumption | omega) (by first | exact Nat.le_refl _ | omega | (simp only; omega)) (by first | rfl | (simp only [id]; done) | ((repeat rw [if_neg (by omega)]); done))) | (with_reducible apply HeapX.upd))); all_goals (first | rfl | omega | assumption | exact Nat.le_of_ble_eq_true rfl | (simp only; omega) | (simp only [St.set, St.ev, upd, ren, renL, id, Nat.reduceEqDiff, reduceIte]; rfl) | (simp only [St.set, St.ev, upd, ren, renL, id, Nat.reduceEqDiff, reduceIte, ContLe]; done) | (exact And.intro rfl (And.intro (by first | exact Nat.le_of_ble_eq_true rfl | omega) (by first | exact Nat.le_of_ble_eq_true rfl | omega))) | (first | (simp only [St.set, St.ev, upd, ren, renL, id, Nat.reduceEqDiff, reduceIte]; exact contLe_nil) | ((repeat' (first | exact contLe_nil | refine contLe_cons (.inr ⟨?_, rfl⟩) ?_ | exact contLe_refl (n0 := 3) (fun k hk => by first | rfl | (simp only [id]; done) | ((repeat rw [if_neg (by omega)]); done)) (by first | exact Nat.le_refl _ | omega | (simp only; omega)) (by assumption))); all_goals (first | rfl | (simp only [St.set, St.ev, upd, ren, renL, id, Nat.reduceEqDiff, reduceIte]; done) | ((try simp only [St.set, St.ev, upd, ren, renL, id, Nat.reduceEqDiff, reduceIte]); first | (with_reducible exact av_int (by omega)) | (with_reducible exact av_sl (by first | omega | (simp; done) | (simp; omega)) (by first | omega | (simp; done) | (simp; omega)))) | (simp only [St.set, St.ev, upd, ren, renL, id, Nat.reduceEqDiff, reduceIte, Int.natCast_add, Int.natCast_one, Int.cast_ofNat_Int, Int.natCast_zero]; done) | (simp only [St.set, St.ev, upd, ren, renL, id, Nat.reduceEqDiff, reduceIte]) | skip); done)) | (simp only [St.set, St.ev, upd, ren, renL, id, Nat.reduceEqDiff, reduceIte, ContLe]) | skip)))); (case' h1 => (focus ((repeat' (with_reducible first | exact TmpLe.bot | refine TmpLe.upd ?_ (by first | rfl | (simp only [AV.lt, decide_eq_true_eq]; first | done | omega)) ?_)); all_goals (first | rfl | (simp only [St.set, St.ev, upd, ren, renL, id, Nat.reduceEqDiff, reduceIte]; done) | ((try simp only [St.set, St.ev, upd, ren, renL, id, Nat.reduceEqDiff, reduceIte]); first | (with_reducible exact av_int (by omega)) | (with_reducible exact av_sl (by first | omega | (simp; done) | (simp; omega)) (by first | omega | (simp; done) | (simp; omega)))) | (simp only [St.set, St.ev, upd, ren, renL, id, Nat.reduceEqDiff, reduceIte, Int.natCast_add, Int.natCast_one, Int.cast_ofNat_Int, Int.natCast_zero]; done) | (simp only [St.set, St.ev, upd, ren, renL, id, Nat.reduceEqDiff, reduceIte]) | skip)))); (case h3 => (focus (first | (simp only [id, List.map_cons, List.map_nil]; decide) | decide | (simp; done) | (simp; omega) | fail))); (case h5 => (intro d hd; first | (simp at hd; done) | (simp only [List.mem_cons, List.not_mem_nil, or_false] at hd; first | (simp only [id]; omega) | (split <;> omega) | ((repeat' split) <;> omega) | ((try simp only); repeat' split; all_goals omega)))); (case h4 => (intro o l h; first | (cases h; done) | (have hlt0 := m0_lt (by assumption) h; (try (simp only at hlt0)); first | omega | (simp only; omega) | exact ⟨by (first | rfl | (simp only [id]; done) | ((repeat rw [if_neg (by omega)]); done)), by first | omega | (simp only; omega)⟩))))
      repeat' (first | ((first | with_reducible refine aord_nil ?_ | refine awp_skip ?_ | refine awp_exit ?_ | refine awp_ret ?_); try simp only [thenA_normal, thenA_exit, thenA_goto, thenA_ret, blockA_normal, blockA_same, blockA_exit, blockA_goto, blockA_ret, Nat.reduceEqDiff, if_false, if_true, reduceIte]) | (simp only [doneH]; simp only [ressK, resK, wrapR, go_sem, Nat.reduceAdd, Nat.reduceMul, Nat.reduceEqDiff, Nat.reduceLT, reduceIte, reduceCtorEq]) | fail)
      exact hQ zs (r + 1) (by omega) (by omega)
  · refine awp_weaken (s' := ⟨upd bot 2 (.sl 3 0 ys.length 1 none), upd (upd h 1 (some ⟨true, .cells [.sl 0 0 L 1 lim, .val (.int .i64 ((r + 1 : Nat) : Int))]⟩)) 3 (some ⟨true, .ints .i64 ys⟩), 4⟩) ?_ ?_
    · (apply Wk.over (fun o => if o = 3 then 4 else o) 3; (case' h2 => (focus ((repeat' (first | (with_reducible exact HeapX.bot) | (exact HeapX.base (by first | exact hcl | assumption) (by first | exact Nat.le_refl _ | omega | (simp only; omega)) (fun k hk => by first | rfl | (simp only [id]; done) | ((repeat rw [if_neg (by omega)]); done)) (by intro u hu hlt'; first | rfl | (simp only [List.mem_cons, List.not_mem_nil, or_false, not_or] at hu; first | (simp [upd, hu]; done) | (simp only [upd]; (repeat rw [if_neg (by omega)]))))) | (with_reducible (apply HeapX.skip; (case hx => (simp; done)))) | (with_reducible apply HeapX.none) | (with_reducible apply HeapX.old (by first | assumption | omega) (by first | exact Nat.le_refl _ | omega | (simp only; omega)) (by first | rfl | (simp only [id]; done) | ((repeat rw [if_neg (by omega)]); done))) | (with_reducible apply HeapX.upd))); all_goals (first | rfl | omega | assumption | exact Nat.le_of_ble_eq_true rfl | (simp only; omega) | (simp only [St.set, St.ev, upd, ren, renL, id, Nat.reduceEqDiff, reduceIte]; rfl) | (simp only [St.set, St.ev, upd, ren, renL, id, Nat.reduceEqDiff, reduceIte, ContLe]; done) | (exact And.intro rfl (And.intro (by first | exact Nat.le_of_ble_eq_true rfl | omega) (by first | exact Nat.le_of_ble_eq_true rfl | omega))) | (first | (simp only [St.set, St.ev, upd, ren, renL, id, Nat.reduceEqDiff, reduceIte]; exact contLe_nil) | ((repeat' (first | exact contLe_nil | refine contLe_cons (.inr ⟨?_, rfl⟩) ?_ | exact contLe_refl (n0 := 3) (fun k hk => by first | rfl | (simp only [id]; done) | ((repeat rw [if_neg (by omega)]); done)) (by first | exact Nat.le_refl _ | omega | (simp only; omega)) (by assumption))); all_goals (first | rfl | (simp only [St.set, St.ev, upd, ren, renL, id, Nat.reduceEqDiff, reduceIte]; done) | ((try simp only [St.set, St.ev, upd, ren, renL, id, Nat.reduceEqDiff, reduceIte]); first | (with_reducible exact av_int (by omega)) | (with_reducible exact av_sl (by first | omega | (simp; done) | (simp; omega)) (by first | omega | (simp; done) | (simp; omega)))) | (simp only [St.set, St.ev, upd, ren, renL, id, Nat.reduceEqDiff, reduceIte, Int.natCast_add, Int.natCast_one, Int.cast_ofNat_Int, Int.natCast_zero]; done) | (simp only [St.set, St.ev, upd, ren, renL, id, Nat.reduceEqDiff, reduceIte]) | skip); done)) | (simp only [St.set, St.ev, upd, ren, renL, id, Nat.reduceEqDiff, reduceIte, ContLe]) | skip)))); (case' h1 => (focus ((repeat' (with_reducible first | exact TmpLe.bot | refine TmpLe.upd ?_ (by first | rfl | (simp only [AV.lt, decide_eq_true_eq]; first | done | omega)) ?_)); all_goals (first | rfl | (simp only [St.set, St.ev, upd, ren, renL, id, Nat.reduceEqDiff, reduceIte]; done) | ((try simp only [St.set, St.ev, upd, ren, renL, id, Nat.reduceEqDiff, reduceIte]); first | (with_reducible exact av_int (by omega)) | (with_reducible exact av_sl (by first | omega | (simp; done) | (simp; omega)) (by first | omega | (simp; done) | (simp; omega)))) | (simp only [St.set, St.ev, upd, ren, renL, id, Nat.reduceEqDiff, reduceIte, Int.natCast_add, Int.natCast_one, Int.cast_ofNat_Int, Int.natCast_zero]; done) | (simp only [St.set, St.ev, upd, ren, renL, id, Nat.reduceEqDiff, reduceIte]) | skip)))); (case h3 => (focus (first | (simp only [id, List.map_cons, List.map_nil]; decide) | decide | (simp; done) | (simp; omega) | fail))); (case h5 => (intro d hd; first | (simp at hd; done) | (simp only [List.mem_cons, List.not_mem_nil, or_false] at hd; first | (simp only [id]; omega) | (split <;> omega) | ((repeat' split) <;> omega) | ((try simp only); repeat' split; all_goals omega)))); (case h4 => (intro o l h; first | (cases h; done) | (have hlt0 := m0_lt (by assumption) h; (try (simp only at hlt0)); first | omega | (simp only; omega) | exact ⟨by (first | rfl | (simp only [id]; done) | ((repeat rw [if_neg (by omega)]); done)), by first | omega | (simp only; omega)⟩))))
    repeat' (first | ((first | with_reducible refine aord_nil ?_ | refine awp_skip ?_ | refine awp_exit ?_ | refine awp_ret ?_); try simp only [thenA_normal, thenA_exit, thenA_goto, thenA_ret, blockA_normal, blockA_same, blockA_exit, blockA_goto, blockA_ret, Nat.reduceEqDiff, if_false, if_true, reduceIte]) | (simp only [doneH]; simp only [ressK, resK, wrapR, go_sem, Nat.reduceAdd, Nat.reduceMul, Nat.reduceEqDiff, Nat.reduceLT, reduceIte, reduceCtorEq]) | fail)
    exact hQ ys (r + 1) (by omega) (by omega)

theorem someKeys_sat3 : SatH Try.prog 13 (fun al h n K => ∃ (bs : List Int) (L : Nat) (lim : Option Nat) (q : Nat), al = [.ref 1 0] ∧ (n = 3) ∧ (h 0 = some ⟨false, .ints .u8 bs⟩) ∧ (h 1 = some ⟨true, .cells [.sl 0 0 L 1 lim, .val (.int .i64 q)]⟩) ∧ (L ≤ bs.length ∧ L ≤ 1099511627776) ∧ (bytesOk bs) ∧ (q ≤ 800000) ∧ ∀ (ys : List Int) (r : Nat), ys.length ≤ 17 → r ≤ q + 30 → K (.sl 3 0 ys.length 1 none) (upd (upd h 1 (some ⟨true, .cells [.sl 0 0 L 1 lim, .val (.int .i64 r)]⟩)) 3 (some ⟨true, .ints .i64 ys⟩)) (4)) := by
  refine satH_intro tabOk Try.func13 rfl 7 rfl [.tmp 2] rfl ?_
  rintro F W h n al K0 ⟨bs, L, lim, q, rfl, hn, h0, h1, hL, hbs, hq, hQ⟩
  refine ⟨Nat.le_of_ble_eq_true rfl, fun m0 hm0 hcl hlt => ?_⟩
  simp only [initT]
  subst hn
  have hclO := hcl
  repeat' (first | refine awp_seq_k fun K hK => ?_ | ((with_reducible refine hK _ ?_); clear hK K) | ((with_reducible refine aord_plain fun K hK => ?_); simp only [go_sem, Nat.reduceAdd, Nat.reduceMul, Nat.reduceEqDiff, Nat.reduceLT, reduceIte, reduceCtorEq, h0, h1]) | ((first | with_reducible refine aord_nil ?_ | refine awp_skip ?_ | refine awp_exit ?_ | refine awp_ret ?_); try simp only [thenA_normal, thenA_exit, thenA_goto, thenA_ret, blockA_normal, blockA_same, blockA_exit, blockA_goto, blockA_ret, Nat.reduceEqDiff, if_false, if_true, reduceIte]) | (refine awp_region tabOk rfl ?_; simp only [prep, pickO, List.map_cons, List.map_nil, List.getElem?_toArray, List.getElem?_cons_succ, List.getElem?_cons_zero, Option.bind_some, Option.map_some]) | ((with_reducible refine And.intro (?_ : enters Try.prog 22) ?_); (focus exact Try.call22); (refine callX_satH goodKeys_sat3 ?_); simp only [go_sem, and_assoc, List.nil_append, List.append_nil, List.cons_append, Nat.reduceEqDiff, reduceIte, reduceCtorEq, h0, h1]) | fail)
  refine ⟨L, lim, q, rfl, hL.1, hL.2, hbs, by omega, ?_⟩
  intro ks r hks hr
  repeat' (first | refine awp_seq_k fun K hK => ?_ | ((with_reducible refine hK _ ?_); clear hK K) | ((with_reducible refine aord_plain fun K hK => ?_); simp only [go_sem, Nat.reduceAdd, Nat.reduceMul, Nat.reduceEqDiff, Nat.reduceLT, reduceIte, reduceCtorEq, h0, h1]) | ((first | with_reducible refine aord_nil ?_ | refine awp_skip ?_ | refine awp_exit ?_ | refine awp_ret ?_); try simp only [thenA_normal, thenA_exit, thenA_goto, thenA_ret, blockA_normal, blockA_same, blockA_exit, blockA_goto, blockA_ret, Nat.reduceEqDiff, if_false, if_true, reduceIte]) | (refine awp_region tabOk rfl ?_; simp only [prep, pickO, List.map_cons, List.map_nil, List.getElem?_toArray, List.getElem?_cons_succ, List.getElem?_cons_zero, Option.bind_some, Option.map_some]) | ((with_reducible refine And.intro (?_ : enters Try.prog 20) ?_); (focus exact Try.call20); (refine callX_satH pick_sat ?_); simp only [go_sem, and_assoc, List.nil_append, List.append_nil, List.cons_append, Nat.reduceEqDiff, reduceIte, reduceCtorEq, h0, h1]) | ((with_reducible refine And.intro (?_ : enters Try.prog 21) ?_); (focus exact Try.call21); (refine callX_h (callH_inline tabOk Try.func21 rfl 27 rfl [.tmp 4] rfl (Nat.le_of_ble_eq_true rfl) fun m0 hm0 hcl hlt => ?_)); simp only [initT, St.ev, St.set, upd, Nat.reduceEqDiff, reduceIte, if_false, if_true]) | fail)
  refine ⟨L, lim, r, rfl, hL.1, hL.2, hbs, by omega, by omega, ?_⟩
  intro w hw0 hw1
  repeat' ((fail_if_success (with_reducible refine isRet K0 ?_)); (first | refine awp_seq_k fun K hK => ?_ | ((with_reducible refine hK _ ?_); clear hK K) | (clear hK K; (with_reducible refine hK _ ?_); clear hK K) | ((with_reducible refine aord_plain fun K hK => ?_); simp only [go_sem, Nat.reduceAdd, Nat.reduceMul, Nat.reduceEqDiff, Nat.reduceLT, reduceIte, reduceCtorEq, h0, h1]) | refine awp_block ?_ | ((first | with_reducible refine aord_nil ?_ | refine awp_skip ?_ | refine awp_exit ?_ | refine awp_ret ?_); try simp only [thenA_normal, thenA_exit, thenA_goto, thenA_ret, blockA_normal, blockA_same, blockA_exit, blockA_goto, blockA_ret, Nat.reduceEqDiff, if_false, if_true, reduceIte]) | (refine awp_region tabOk rfl ?_; simp only [prep, pickO, List.map_cons, List.map_nil, List.getElem?_toArray, List.getElem?_cons_succ, List.getElem?_cons_zero, Option.bind_some, Option.map_some]) | ((with_reducible apply awp_cond); (focus (simp only [St.ev, St.set, upd, Nat.reduceEqDiff, reduceIte, if_false, if_true]; exact rfl)); all_goals (intro hb; first | (cases hb; done) | ((try rw [hb]); (try simp only [decide_eq_true_eq, decide_eq_false_iff_not, beq_iff_eq, bne_iff_ne, beq_eq_false_iff_ne, bne_eq_false_iff_eq, Int.not_lt, Int.not_le, Bool.not_eq_true', Bool.not_eq_false'] at hb)))) | ((with_reducible refine And.intro ?_ ?_); (focus omega)) | ((with_reducible refine And.intro (?_ : enters Try.prog 20) ?_); (focus exact Try.call20); (refine callX_satH pick_sat ?_); simp only [go_sem, and_assoc, List.nil_append, List.append_nil, List.cons_append, Nat.reduceEqDiff, reduceIte, reduceCtorEq, h0, h1]) | (refine aAppend_ints rfl rfl rfl rfl (Nat.le_of_ble_eq_true rfl) (by simp only [St.ev, St.set, upd, Nat.reduceEqDiff, reduceIte, if_false, if_true]; exact rfl) (by simp only [St.ev, St.set, upd, Nat.reduceEqDiff, reduceIte, if_false, if_true]; exact rfl) rfl (by first | decide | omega | (simp; done) | fail) ?_ ?_ ?_ ?_; (focus (first | rfl | omega | (simp; done) | (simp; omega) | (simp [szOf, tab]; done) | (simp [szOf, tab]; omega))); (focus (first | rfl | omega | (simp; done) | (simp; omega) | (simp [szOf, tab]; done) | (simp [szOf, tab]; omega))); (focus (first | rfl | omega | (simp; done) | (simp; omega) | (simp [szOf, tab]; done) | (simp [szOf, tab]; omega))); (try simp only [go_sem, Nat.reduceAdd, Nat.reduceMul, Nat.reduceEqDiff, Nat.reduceLT, reduceIte, reduceCtorEq])) | (simp only [doneH]; simp only [ressK, resK, wrapR, go_sem, Nat.reduceAdd, Nat.reduceMul, Nat.reduceEqDiff, Nat.reduceLT, reduceIte, reduceCtorEq]) | fail))
  all_goals try (
    refine ⟨L, lim, r + 1, rfl, hL.1, hL.2, hbs, by omega, by omega, ?_⟩
    intro x hx0 hx1)
  repeat' ((fail_if_success (with_reducible refine isRet K0 ?_)); (first | ((with_reducible refine hK _ ?_); clear hK K) | ((with_reducible refine aord_plain fun K hK => ?_); simp only [go_sem, Nat.reduceAdd, Nat.reduceMul, Nat.reduceEqDiff, Nat.reduceLT, reduceIte, reduceCtorEq, h0, h1]) | ((with_reducible refine And.intro ?_ ?_); (focus omega)) | ((with_reducible refine And.intro (?_ : enters Try.prog 46) ?_); (focus exact Try.call46); (refine callX_satH one_sat ?_); simp only [go_sem, and_assoc, List.nil_append, List.append_nil, List.cons_append, Nat.reduceEqDiff, reduceIte, reduceCtorEq, h0, h1]) | fail))
  all_goals try (
    refine ⟨L, lim, _, r + 2, rfl, hL.1, hL.2, hbs, rfl, rfl, by omega, by omega, by omega, ?_⟩
    intro v hv
    generalize ([100, -100, 4611686018427387904, 99, -99] : List Int).getD v 0 = kk)
  repeat' ((fail_if_success (with_reducible refine isRet K0 ?_)); (first | refine awp_seq_k fun K hK => ?_ | ((with_reducible refine hK _ ?_); clear hK K) | ((with_reducible refine aord_plain fun K hK => ?_); simp only [go_sem, Nat.reduceAdd, Nat.reduceMul, Nat.reduceEqDiff, Nat.reduceLT, reduceIte, reduceCtorEq, h0, h1]) | ((first | with_reducible refine aord_nil ?_ | refine awp_skip ?_ | refine awp_exit ?_ | refine awp_ret ?_); try simp only [thenA_normal, thenA_exit, thenA_goto, thenA_ret, blockA_normal, blockA_same, blockA_exit, blockA_goto, blockA_ret, Nat.reduceEqDiff, if_false, if_true, reduceIte]) | (refine awp_region tabOk rfl ?_; simp only [prep, pickO, List.map_cons, List.map_nil, List.getElem?_toArray, List.getElem?_cons_succ, List.getElem?_cons_zero, Option.bind_some, Option.map_some]) | ((with_reducible refine And.intro ?_ ?_); (focus omega)) | (simp only [doneH]; simp only [ressK, resK, wrapR, go_sem, Nat.reduceAdd, Nat.reduceMul, Nat.reduceEqDiff, Nat.reduceLT, reduceIte, reduceCtorEq]) | fail))
  all_goals have hcl := hclO
  · refine awp_weaken (s' := ⟨upd bot 2 (.sl 3 0 (ks.set x.toNat kk).length 1 none), upd (upd h 1 (some ⟨true, .cells [.sl 0 0 L 1 lim, .val (.int .i64 ((r + 3 : Nat) : Int))]⟩)) 3 (some ⟨true, .ints .i64 (ks.set x.toNat kk)⟩), 4⟩) ?_ ?_
    · (apply Wk.over (id) 3; (case' h2 => (focus ((repeat' (first | (with_reducible exact HeapX.bot) | (exact HeapX.base (by first | exact hcl | assumption) (by first | exact Nat.le_refl _ | omega | (simp only; omega)) (fun k hk => by first | rfl | (simp only [id]; done) | ((repeat rw [if_neg (by omega)]); done)) (by intro u hu hlt'; first | rfl | (simp only [List.mem_cons, List.not_mem_nil, or_false, not_or] at hu; first | (simp [upd, hu]; done) | (simp only [upd]; (repeat rw [if_neg (by omega)]))))) | (with_reducible (apply HeapX.skip; (case hx => (simp; done)))) | (with_reducible apply HeapX.none) | (with_reducible apply HeapX.old (by first | assumption | omega) (by first | exact Nat.le_refl _ | omega | (simp only; omega)) (by first | rfl | (simp only [id]; done) | ((repeat rw [if_neg (by omega)]); done))) | (with_reducible apply HeapX.upd))); all_goals (first | rfl | omega | assumption | exact Nat.le_of_ble_eq_true rfl | (simp only; omega) | (simp only [St.set, St.ev, upd, ren, renL, id, Nat.reduceEqDiff, reduceIte]; rfl) | (simp only [St.set, St.ev, upd, ren, renL, id, Nat.reduceEqDiff, reduceIte, ContLe]; done) | (exact And.intro rfl (And.intro (by first | exact Nat.le_of_ble_eq_true rfl | omega) (by first | exact Nat.le_of_ble_eq_true rfl | omega))) | (first | (simp only [St.set, St.ev, upd, ren, renL, id, Nat.reduceEqDiff, reduceIte]; exact contLe_nil) | ((repeat' (first | exact contLe_nil | refine contLe_cons (.inr ⟨?_, rfl⟩) ?_ | exact contLe_refl (n0 := 3) (fun k hk => by first | rfl | (simp only [id]; done) | ((repeat rw [if_neg (by omega)]); done)) (by first | exact Nat.le_refl _ | omega | (simp only; omega)) (by assumption))); all_goals (first | rfl | (simp only [St.set, St.ev, upd, ren, renL, id, Nat.reduceEqDiff, reduceIte]; done) | ((try simp only [St.set, St.ev, upd, ren, renL, id, Nat.reduceEqDiff, reduceIte]); first | (with_reducible exact av_int (by omega)) | (with_reducible exact av_sl (by first | omega | (simp; done) | (simp; omega)) (by first | omega | (simp; done) | (simp; omega)))) | (simp only [St.set, St.ev, upd, ren, renL, id, Nat.reduceEqDiff, reduceIte, Int.natCast_add, Int.natCast_one, Int.cast_ofNat_Int, Int.natCast_zero]; done) | (simp only [St.set, St.ev, upd, ren, renL, id, Nat.reduceEqDiff, reduceIte]) | skip); done)) | (simp only [St.set, St.ev, upd, ren, renL, id, Nat.reduceEqDiff, reduceIte, ContLe]) | skip)))); (case' h1 => (focus ((repeat' (with_reducible first | exact TmpLe.bot | refine TmpLe.upd ?_ (by first | rfl | (simp only [AV.lt, decide_eq_true_eq]; first | done | omega)) ?_)); all_goals (first | rfl | (simp only [St.set, St.ev, upd, ren, renL, id, Nat.reduceEqDiff, reduceIte]; done) | ((try simp only [St.set, St.ev, upd, ren, renL, id, Nat.reduceEqDiff, reduceIte]); first | (with_reducible exact av_int (by omega)) | (with_reducible exact av_sl (by first | omega | (simp; done) | (simp; omega)) (by first | omega | (simp; done) | (simp; omega)))) | (simp only [St.set, St.ev, upd, ren, renL, id, Nat.reduceEqDiff, reduceIte, Int.natCast_add, Int.natCast_one, Int.cast_ofNat_Int, Int.natCast_zero]; done) | (simp only [St.set, St.ev, upd, ren, renL, id, Nat.reduceEqDiff, reduceIte]) | skip)))); (case h3 => (focus (first | (simp only [id, List.map_cons, List.map_nil]; decide) | decide | (simp; done) | (simp; omega) | fail))); (case h5 => (intro d hd; first | (simp at hd; done) | (simp only [List.mem_cons, List.not_mem_nil, or_false] at hd; first | (simp only [id]; omega) | (split <;> omega) | ((repeat' split) <;> omega) | ((try simp only); repeat' split; all_goals omega)))); (case h4 => (intro o l h; first | (cases h; done) | (have hlt0 := m0_lt (by assumption) h; (try (simp only at hlt0)); first | omega | (simp only; omega) | exact ⟨by (first | rfl | (simp only [id]; done) | ((repeat rw [if_neg (by omega)]); done)), by first | omega | (simp only; omega)⟩))))
    repeat' (first | ((first | with_reducible refine aord_nil ?_ | refine awp_skip ?_ | refine awp_exit ?_ | refine awp_ret ?_); try simp only [thenA_normal, thenA_exit, thenA_goto, thenA_ret, blockA_normal, blockA_same, blockA_exit, blockA_goto, blockA_ret, Nat.reduceEqDiff, if_false, if_true, reduceIte]) | (simp only [doneH]; simp only [ressK, resK, wrapR, go_sem, Nat.reduceAdd, Nat.reduceMul, Nat.reduceEqDiff, Nat.reduceLT, reduceIte, reduceCtorEq]) | fail)
    have h9 := hQ (ks.set x.toNat kk) (r + 3) (by simp; omega) (by omega)
    simp only [List.length_set] at h9 ⊢
    exact h9
  · refine awp_weaken (s' := ⟨upd bot 2 (.sl 3 0 ks.length 1 none), upd (upd h 1 (some ⟨true, .cells [.sl 0 0 L 1 lim, .val (.int .i64 ((r + 1 : Nat) : Int))]⟩)) 3 (some ⟨true, .ints .i64 ks⟩), 4⟩) ?_ ?_
    · (apply Wk.over (id) 3; (case' h2 => (focus ((repeat' (first | (with_reducible exact HeapX.bot) | (exact HeapX.base (by first | exact hcl | assumption) (by first | exact Nat.le_refl _ | omega | (simp only; omega)) (fun k hk => by first | rfl | (simp only [id]; done) | ((repeat rw [if_neg (by omega)]); done)) (by intro u hu hlt'; first | rfl | (simp only [List.mem_cons, List.not_mem_nil, or_false, not_or] at hu; first | (simp [upd, hu]; done) | (simp only [upd]; (repeat rw [if_neg (by omega)]))))) | (with_reducible (apply HeapX.skip; (case hx => (simp; done)))) | (with_reducible apply HeapX.none) | (with_reducible apply HeapX.old (by first | assumption | omega) (by first | exact Nat.le_refl _ | omega | (simp only; omega)) (by first | rfl | (simp only [id]; done) | ((repeat rw [if_neg (by omega)]); done))) | (with_reducible apply HeapX.upd))); all_goals (first | rfl | omega | assumption | exact Nat.le_of_ble_eq_true rfl | (simp only; omega) | (simp only [St.set, St.ev, upd, ren, renL, id, Nat.reduceEqDiff, reduceIte]; rfl) | (simp only [St.set, St.ev, upd, ren, renL, id, Nat.reduceEqDiff, reduceIte, ContLe]; done) | (exact And.intro rfl (And.intro (by first | exact Nat.le_of_ble_eq_true rfl | omega) (by first | exact Nat.le_of_ble_eq_true rfl | omega))) | (first | (simp only [St.set, St.ev, upd, ren, renL, id, Nat.reduceEqDiff, reduceIte]; exact contLe_nil) | ((repeat' (first | exact contLe_nil | refine contLe_cons (.inr ⟨?_, rfl⟩) ?_ | exact contLe_refl (n0 := 3) (fun k hk => by first | rfl | (simp only [id]; done) | ((repeat rw [if_neg (by omega)]); done)) (by first | exact Nat.le_refl _ | omega | (simp only; omega)) (by assumption))); all_goals (first | rfl | (simp only [St.set, St.ev, upd, ren, renL, id, Nat.reduceEqDiff, reduceIte]; done) | ((try simp only [St.set, St.ev, upd, ren, renL, id, Nat.reduceEqDiff, reduceIte]); first | (with_reducible exact av_int (by omega)) | (with_reducible exact av_sl (by first | omega | (simp; done) | (simp; omega)) (by first | omega | (simp; done) | (simp; omega)))) | (simp only [St.set, St.ev, upd, ren, renL, id, Nat.reduceEqDiff, reduceIte, Int.natCast_add, Int.natCast_one, Int.cast_ofNat_Int, Int.natCast_zero]; done) | (simp only [St.set, St.ev, upd, ren, renL, id, Nat.reduceEqDiff, reduceIte]) | skip); done)) | (simp only [St.set, St.ev, upd, ren, renL, id, Nat.reduceEqDiff, reduceIte, ContLe]) | skip)))); (case' h1 => (focus ((repeat' (with_reducible first | exact TmpLe.bot | refine TmpLe.upd ?_ (by first | rfl | (simp only [AV.lt, decide_eq_true_eq]; first | done | omega)) ?_)); all_goals (first | rfl | (simp only [St.set, St.ev, upd, ren, renL, id, Nat.reduceEqDiff, reduceIte]; done) | ((try simp only [St.set, St.ev, upd, ren, renL, id, Nat.reduceEqDiff, reduceIte]); first | (with_reducible exact av_int (by omega)) | (with_reducible exact av_sl (by first | omega | (simp; done) | (simp; omega)) (by first | omega | (simp; done) | (simp; omega)))) | (simp only [St.set, St.ev, upd, ren, renL, id, Nat.reduceEqDiff, reduceIte, Int.natCast_add, Int.natCast_one, Int.cast_ofNat_Int, Int.natCast_zero]; done) | (simp only [St.set, St.ev, upd, ren, renL, id, Nat.reduceEqDiff, reduceIte]) | skip)))); (case h3 => (focus (first | (simp only [id, List.map_cons, List.map_nil]; decide) | decide | (simp; done) | (simp; omega) | fail))); (case h5 => (intro d hd; first | (simp at hd; done) | (simp only [List.mem_cons, List.not_mem_nil, or_false] at hd; first | (simp only [id]; omega) | (split <;> omega) | ((repeat' split) <;> omega) | ((try simp only); repeat' split; all_goals omega)))); (case h4 => (intro o l h; first | (cases h; done) | (have hlt0 := m0_lt (by assumption) h; (try (simp only at hlt0)); first | omega | (simp only; omega) | exact ⟨by (first | rfl | (simp only [id]; done) | ((repeat rw [if_neg (by omega)]); done)), by first | omega | (simp only; omega)⟩))))
    repeat' (first | ((first | with_reducible refine aord_nil ?_ | refine awp_skip ?_ | refine awp_exit ?_ | refine awp_ret ?_); try simp only [thenA_normal, thenA_exit, thenA_goto, thenA_ret, blockA_normal, blockA_same, blockA_exit, blockA_goto, blockA_ret, Nat.reduceEqDiff, if_false, if_true, reduceIte]) | (simp only [doneH]; simp only [ressK, resK, wrapR, go_sem, Nat.reduceAdd, Nat.reduceMul, Nat.reduceEqDiff, Nat.reduceLT, reduceIte, reduceCtorEq]) | fail)
    exact hQ ks (r + 1) (by omega) (by omega)
  · refine awp_weaken (s' := ⟨upd bot 2 (.sl 3 0 (ks ++ [1, 2, 3, 4, 5, 6, 7, 8, 9]).length 1 none), upd (upd h 1 (some ⟨true, .cells [.sl 0 0 L 1 lim, .val (.int .i64 ((r + 1 : Nat) : Int))]⟩)) 3 (some ⟨true, .ints .i64 (ks ++ [1, 2, 3, 4, 5, 6, 7, 8, 9])⟩), 4⟩) ?_ ?_
    · (apply Wk.over (fun o => if o = 3 then 5 else o) 3; (case' h2 => (focus ((repeat' (first | (with_reducible exact HeapX.bot) | (exact HeapX.base (by first | exact hcl | assumption) (by first | exact Nat.le_refl _ | omega | (simp only; omega)) (fun k hk => by first | rfl | (simp only [id]; done) | ((repeat rw [if_neg (by omega)]); done)) (by intro u hu hlt'; first | rfl | (simp only [List.mem_cons, List.not_mem_nil, or_false, not_or] at hu; first | (simp [upd, hu]; done) | (simp only [upd]; (repeat rw [if_neg (by omega)]))))) | (with_reducible (apply HeapX.skip; (case hx => (simp; done)))) | (with_reducible apply HeapX.none) | (with_reducible apply HeapX.old (by first | assumption | omega) (by first | exact Nat.le_refl _ | omega | (simp only; omega)) (by first | rfl | (simp only [id]; done) | ((repeat rw [if_neg (by omega)]); done))) | (with_reducible apply HeapX.upd))); all_goals (first | rfl | omega | assumption | exact Nat.le_of_ble_eq_true rfl | (simp only; omega) | (simp only [St.set, St.ev, upd, ren, renL, id, Nat.reduceEqDiff, reduceIte]; rfl) | (simp only [St.set, St.ev, upd, ren, renL, id, Nat.reduceEqDiff, reduceIte, ContLe]; done) | (exact And.intro rfl (And.intro (by first | exact Nat.le_of_ble_eq_true rfl | omega) (by first | exact Nat.le_of_ble_eq_true rfl | omega))) | (first | (simp only [St.set, St.ev, upd, ren, renL, id, Nat.reduceEqDiff, reduceIte]; exact contLe_nil) | ((repeat' (first | exact contLe_nil | refine contLe_cons (.inr ⟨?_, rfl⟩) ?_ | exact contLe_refl (n0 := 3) (fun k hk => by first | rfl | (simp only [id]; done) | ((repeat rw [if_neg (by omega)]); done)) (by first | exact Nat.le_refl _ | omega | (simp only; omega)) (by assumption))); all_goals (first | rfl | (simp only [St.set, St.ev, upd, ren, renL, id, Nat.reduceEqDiff, reduceIte]; done) | ((try simp only [St.set, St.ev, upd, ren, renL, id, Nat.reduceEqDiff, reduceIte]); first | (with_reducible exact av_int (by omega)) | (with_reducible exact av_sl (by first | omega | (simp; done) | (simp; omega)) (by first | omega | (simp; done) | (simp; omega)))) | (simp only [St.set, St.ev, upd, ren, renL, id, Nat.reduceEqDiff, reduceIte, Int.natCast_add, Int.natCast_one, Int.cast_ofNat_Int, Int.natCast_zero]; done) | (simp only [St.set, St.ev, upd, ren, renL, id, Nat.reduceEqDiff, reduceIte]) | skip); done)) | (simp only [St.set, St.ev, upd, ren, renL, id, Nat.reduceEqDiff, reduceIte, ContLe]) | skip)))); (case' h1 => (focus ((repeat' (with_reducible first | exact TmpLe.bot | refine TmpLe.upd ?_ (by first | rfl | (simp only [AV.lt, decide_eq_true_eq]; first | done | omega)) ?_)); all_goals (first | rfl | (simp only [St.set, St.ev, upd, ren, renL, id, Nat.reduceEqDiff, reduceIte]; done) | ((try simp only [St.set, St.ev, upd, ren, renL, id, Nat.reduceEqDiff, reduceIte]); first | (with_reducible exact av_int (by omega)) | (with_reducible exact av_sl (by first | omega | (simp; done) | (simp; omega)) (by first | omega | (simp; done) | (simp; omega)))) | (simp only [St.set, St.ev, upd, ren, renL, id, Nat.reduceEqDiff, reduceIte, Int.natCast_add, Int.natCast_one, Int.cast_ofNat_Int, Int.natCast_zero]; done) | (simp only [St.set, St.ev, upd, ren, renL, id, Nat.reduceEqDiff, reduceIte]) | skip)))); (case h3 => (focus (first | (simp only [id, List.map_cons, List.map_nil]; decide) | decide | (simp; done) | (simp; omega) | fail))); (case h5 => (intro d hd; first | (simp at hd; done) | (simp only [List.mem_cons, List.not_mem_nil, or_false] at hd; first | (simp only [id]; omega) | (split <;> omega) | ((repeat' split) <;> omega) | ((try simp only); repeat' split; all_goals omega)))); (case h4 => (intro o l h; first | (cases h; done) | (have hlt0 := m0_lt (by assumption) h; (try (simp only at hlt0)); first | omega | (simp only; omega) | exact ⟨by (first | rfl | (simp only [id]; done) | ((repeat rw [if_neg (by omega)]); done)), by first | omega | (simp only; omega)⟩))))
    repeat' (first | ((first | with_reducible refine aord_nil ?_ | refine awp_skip ?_ | refine awp_exit ?_ | refine awp_ret ?_); try simp only [thenA_normal, thenA_exit, thenA_goto, thenA_ret, blockA_normal, blockA_same, blockA_exit, blockA_goto, blockA_ret, Nat.reduceEqDiff, if_false, if_true, reduceIte]) | (simp only [doneH]; simp only [ressK, resK, wrapR, go_sem, Nat.reduceAdd, Nat.reduceMul, Nat.reduceEqDiff, Nat.reduceLT, reduceIte, reduceCtorEq]) | fail)
    have h9 := hQ (ks ++ [1, 2, 3, 4, 5, 6, 7, 8, 9]) (r + 1) (by simp; omega) (by omega)
    simpa using h9
  · refine awp_weaken (s' := ⟨upd bot 2 (.sl 3 0 ks.length 1 none), upd (upd h 1 (some ⟨true, .cells [.sl 0 0 L 1 lim, .val (.int .i64 ((r + 1 : Nat) : Int))]⟩)) 3 (some ⟨true, .ints .i64 ks⟩), 4⟩) ?_ ?_
    · (apply Wk.over (id) 3; (case' h2 => (focus ((repeat' (first | (with_reducible exact HeapX.bot) | (exact HeapX.base (by first | exact hcl | assumption) (by first | exact Nat.le_refl _ | omega | (simp only; omega)) (fun k hk => by first | rfl | (simp only [id]; done) | ((repeat rw [if_neg (by omega)]); done)) (by intro u hu hlt'; first | rfl | (simp only [List.mem_cons, List.not_mem_nil, or_false, not_or] at hu; first | (simp [upd, hu]; done) | (simp only [upd]; (repeat rw [if_neg (by omega)]))))) | (with_reducible (apply HeapX.skip; (case hx => (simp; done)))) | (with_reducible apply HeapX.none) | (with_reducible apply HeapX.old (by first | assumption | omega) (by first | exact Nat.le_refl _ | omega | (simp only; omega)) (by first | rfl | (simp only [id]; done) | ((repeat rw [if_neg (by omega)]); done))) | (with_reducible apply HeapX.upd))); all_goals (first | rfl | omega | assumption | exact Nat.le_of_ble_eq_true rfl | (simp only; omega) | (simp only [St.set, St.ev, upd, ren, renL, id, Nat.reduceEqDiff, reduceIte]; rfl) | (simp only [St.set, St.ev, upd, ren, renL, id, Nat.reduceEqDiff, reduceIte, ContLe]; done) | (exact And.intro rfl (And.intro (by first | exact Nat.le_of_ble_eq_true rfl | omega) (by first | exact Nat.le_of_ble_eq_true rfl | omega))) | (first | (simp only [St.set, St.ev, upd, ren, renL, id, Nat.reduceEqDiff, reduceIte]; exact contLe_nil) | ((repeat' (first | exact contLe_nil | refine contLe_cons (.inr ⟨?_, rfl⟩) ?_ | exact contLe_refl (n0 := 3) (fun k hk => by first | rfl | (simp only [id]; done) | ((repeat rw [if_neg (by omega)]); done)) (by first | exact Nat.le_refl _ | omega | (simp only; omega)) (by assumption))); all_goals (first | rfl | (simp only [St.set, St.ev, upd, ren, renL, id, Nat.reduceEqDiff, reduceIte]; done) | ((try simp only [St.set, St.ev, upd, ren, renL, id, Nat.reduceEqDiff, reduceIte]); first | (with_reducible exact av_int (by omega)) | (with_reducible exact av_sl (by first | omega | (simp; done) | (simp; omega)) (by first | omega | (simp; done) | (simp; omega)))) | (simp only [St.set, St.ev, upd, ren, renL, id, Nat.reduceEqDiff, reduceIte, Int.natCast_add, Int.natCast_one, Int.cast_ofNat_Int, Int.natCast_zero]; done) | (simp only [St.set, St.ev, upd, ren, renL, id, Nat.reduceEqDiff, reduceIte]) | skip); done)) | (simp only [St.set, St.ev, upd, ren, renL, id, Nat.reduceEqDiff, reduceIte, ContLe]) | skip)))); (case' h1 => (focus ((repeat' (with_reducible first | exact TmpLe.bot | refine TmpLe.upd ?_ (by first | rfl | (simp only [AV.lt, decide_eq_true_eq]; first | done | omega)) ?_)); all_goals (first | rfl | (simp only [St.set, St.ev, upd, ren, renL, id, Nat.reduceEqDiff, reduceIte]; done) | ((try simp only [St.set, St.ev, upd, ren, renL, id, Nat.reduceEqDiff, reduceIte]); first | (with_reducible exact av_int (by omega)) | (with_reducible exact av_sl (by first | omega | (simp; done) | (simp; omega)) (by first | omega | (simp; done) | (simp; omega)))) | (simp only [St.set, St.ev, upd, ren, renL, id, Nat.reduceEqDiff, reduceIte, Int.natCast_add, Int.natCast_one, Int.cast_ofNat_Int, Int.natCast_zero]; done) | (simp only [St.set, St.ev, upd, ren, renL, id, Nat.reduceEqDiff, reduceIte]) | skip)))); (case h3 => (focus (first | (simp only [id, List.map_cons, List.map_nil]; decide) | decide | (simp; done) | (simp; omega) | fail))); (case h5 => (intro d hd; first | (simp at hd; done) | (simp only [List.mem_cons, List.not_mem_nil, or_false] at hd; first | (simp only [id]; omega) | (split <;> omega) | ((repeat' split) <;> omega) | ((try simp only); repeat' split; all_goals omega)))); (case h4 => (intro o l h; first | (cases h; done) | (have hlt0 := m0_lt (by assumption) h; (try (simp only at hlt0)); first | omega | (simp only; omega) | exact ⟨by (first | rfl | (simp only [id]; done) | ((repeat rw [if_neg (by omega)]); done)), by first | omega | (simp only; omega)⟩))))
    repeat' (first | ((first | with_reducible refine aord_nil ?_ | refine awp_skip ?_ | refine awp_exit ?_ | refine awp_ret ?_); try simp only [thenA_normal, thenA_exit, thenA_goto, thenA_ret, blockA_normal, blockA_same, blockA_exit, blockA_goto, blockA_ret, Nat.reduceEqDiff, if_false, if_true, reduceIte]) | (simp only [doneH]; simp only [ressK, resK, wrapR, go_sem, Nat.reduceAdd, Nat.reduceMul, Nat.reduceEqDiff, Nat.reduceLT, reduceIte, reduceCtorEq]) | fail)
    exact hQ ks (r + 1) (by omega) (by omega)



theorem of_sat : SatH Try.prog 12 (fun al h n K => ∃ (bs : List Int) (L : Nat) (lim : Option Nat) (j m : Nat) (zs : List ByteArray) (q : Nat), al = [.ref 1 0, .sl j 0 m 1 none] ∧ (h 0 = some ⟨false, .ints .u8 bs⟩) ∧ (h 1 = some ⟨true, .cells [.sl 0 0 L 1 lim, .val (.int .i64 q)]⟩) ∧ (L ≤ bs.length ∧ L ≤ 1099511627776) ∧ (bytesOk bs) ∧ (h j = some ⟨true, .strs zs⟩) ∧ (j ≠ 1) ∧ (m = zs.length ∧ 0 < m ∧ m ≤ 1000) ∧ (q ≤ 1000000) ∧ ∀ v : Nat, v < m → K (.val (.string (zs.getD v ByteArray.empty))) (upd h 1 (some ⟨true, .cells [.sl 0 0 L 1 lim, .val (.int .i64 ((q : Int) + 1))]⟩)) (n)) := by
  refine satH_intro tabOk Try.func12 rfl 12 rfl [.tmp 4] rfl ?_
  rintro F W h n al K0 ⟨bs, L, lim, j, m, zs, q, rfl, h0, h1, hL, hbs, hj, hj1, hm, hq, hQ⟩
  refine ⟨Nat.le_of_ble_eq_true rfl, fun m0 hm0 hcl hlt => ?_⟩
  simp only [initT]
  have hne : (j = 1) = False := eq_false hj1
  repeat' (first | refine awp_seq_k fun K hK => ?_ | ((with_reducible refine hK _ ?_); clear hK K) | ((with_reducible refine aord_plain fun K hK => ?_); simp only [go_sem, Nat.reduceAdd, Nat.reduceMul, Nat.reduceEqDiff, Nat.reduceLT, reduceIte, reduceCtorEq, h0, h1, hj, hne]) | ((first | with_reducible refine aord_nil ?_ | refine awp_skip ?_ | refine awp_exit ?_ | refine awp_ret ?_); try simp only [thenA_normal, thenA_exit, thenA_goto, thenA_ret, blockA_normal, blockA_same, blockA_exit, blockA_goto, blockA_ret, Nat.reduceEqDiff, if_false, if_true, reduceIte]) | (refine awp_region tabOk rfl ?_; simp only [prep, pickO, List.map_cons, List.map_nil, List.getElem?_toArray, List.getElem?_cons_succ, List.getElem?_cons_zero, Option.bind_some, Option.map_some]) | ((with_reducible refine And.intro (?_ : enters Try.prog 20) ?_); (focus exact Try.call20); (refine callX_satH pick_sat ?_); simp only [go_sem, and_assoc, List.nil_append, List.append_nil, List.cons_append, Nat.reduceEqDiff, reduceIte, reduceCtorEq, h0, h1, hj, hne]) | fail)
  refine ⟨L, lim, q, rfl, hL.1, hL.2, hbs, hq, by omega, ?_⟩
  intro v hv0 hv1
  repeat' (first | ((with_reducible refine hK _ ?_); clear hK K) | ((with_reducible refine aord_plain fun K hK => ?_); simp only [go_sem, Nat.reduceAdd, Nat.reduceMul, Nat.reduceEqDiff, Nat.reduceLT, reduceIte, reduceCtorEq, h0, h1, hj, hne]) | ((first | with_reducible refine aord_nil ?_ | refine awp_skip ?_ | refine awp_exit ?_ | refine awp_ret ?_); try simp only [thenA_normal, thenA_exit, thenA_goto, thenA_ret, blockA_normal, blockA_same, blockA_exit, blockA_goto, blockA_ret, Nat.reduceEqDiff, if_false, if_true, reduceIte]) | ((with_reducible refine And.intro ?_ ?_); (focus omega)) | (simp only [doneH]; simp only [ressK, resK, wrapR, go_sem, Nat.reduceAdd, Nat.reduceMul, Nat.reduceEqDiff, Nat.reduceLT, reduceIte, reduceCtorEq]) | fail)
  exact hQ v.toNat (by omega)

theorem drawMeasureOf_sat : Sat Try.prog 5 (fun ds Q => ∃ bs, ds = [.row (.ints .u8 bs)] ∧ bs.length ≤ 1099511627776 ∧ bytesOk bs ∧ ∀ (k : ByteArray) (ys : List Int), ys.length ≤ 17 → Q (.tup [.val (.string k), .row (.ints .i64 ys)])) := by
  refine sat_intro tabOk Try.func5 rfl 12 rfl [.tmp 2, .tmp 3] rfl ?_
  rintro ds Q W ⟨bs, rfl, hlen, hbs, hQ⟩
  refine ⟨Nat.le_of_ble_eq_true rfl, ?_⟩
  simp only [initS, initT, mat.matL, mat, Cont.len]
  repeat' (first | refine awp_seq_k fun K hK => ?_ | ((with_reducible refine hK _ ?_); clear hK K) | ((with_reducible refine aord_plain fun K hK => ?_); simp only [go_sem, Nat.reduceAdd, Nat.reduceMul, Nat.reduceEqDiff, Nat.reduceLT, reduceIte, reduceCtorEq, Int.toNat_zero, mat.matL]) | ((first | with_reducible refine aord_nil ?_ | refine awp_skip ?_ | refine awp_exit ?_ | refine awp_ret ?_); try simp only [thenA_normal, thenA_exit, thenA_goto, thenA_ret, blockA_normal, blockA_same, blockA_exit, blockA_goto, blockA_ret, Nat.reduceEqDiff, if_false, if_true, reduceIte]) | (refine awp_region tabOk rfl ?_; simp only [prep, pickO, List.map_cons, List.map_nil, List.getElem?_toArray, List.getElem?_cons_succ, List.getElem?_cons_zero, Option.bind_some, Option.map_some]) | ((with_reducible apply awp_cond); (focus (simp only [St.ev, St.set, upd, Nat.reduceEqDiff, reduceIte, if_false, if_true]; exact rfl)); all_goals (intro hb; first | (cases hb; done) | ((try rw [hb]); (try simp only [decide_eq_true_eq, decide_eq_false_iff_not, beq_iff_eq, bne_iff_ne, beq_eq_false_iff_ne, bne_eq_false_iff_eq, Int.not_lt, Int.not_le, Bool.not_eq_true', Bool.not_eq_false'] at hb)))) | ((with_reducible refine And.intro ?_ ?_); (focus omega)) | ((with_reducible refine And.intro (?_ : enters Try.prog 12) ?_); (focus exact Try.call12); (refine callX_satH of_sat ?_); simp only [go_sem, and_assoc, List.nil_append, List.append_nil, List.cons_append, Nat.reduceEqDiff, reduceIte, reduceCtorEq, Int.toNat_zero, mat.matL]) | ((with_reducible refine And.intro (?_ : enters Try.prog 11) ?_); (focus exact Try.call11); (refine callX_h (callH_inline tabOk Try.func11 rfl 11 rfl [.tmp 2] rfl (Nat.le_of_ble_eq_true rfl) fun m0 hm0 hcl hlt => ?_)); simp only [initT, St.ev, St.set, upd, Nat.reduceEqDiff, reduceIte, if_false, if_true]) | (simp only [rBuild]; simp only [fillA, Nat.reduceLeDiff, List.getElem?_cons_zero, List.getElem?_cons_succ, List.drop_succ_cons, List.drop_nil, List.take_nil, List.cons_append, Option.isSome_some, go_sem, Nat.reduceAdd, Nat.reduceMul, Nat.reduceEqDiff, Nat.reduceLT, reduceIte, reduceCtorEq]) | (simp only [doneH]; simp only [ressK, resK, wrapR, go_sem, Nat.reduceAdd, Nat.reduceMul, Nat.reduceEqDiff, Nat.reduceLT, reduceIte, reduceCtorEq]) | fail)
  all_goals (
    refine ⟨_, _, _, 0, rfl, by omega, by omega, hbs, rfl, by rfl, by omega, by omega, by omega, ?_⟩
    intro v hv
    generalize (([_, _, _, _, _, _, _, _, _, _, _, _] : List ByteArray).getD v ByteArray.empty) = k)
  repeat' (first | ((with_reducible refine hK _ ?_); clear hK K) | ((with_reducible refine aord_plain fun K hK => ?_); simp only [go_sem, Nat.reduceAdd, Nat.reduceMul, Nat.reduceEqDiff, Nat.reduceLT, reduceIte, reduceCtorEq, Int.toNat_zero, mat.matL]) | ((with_reducible refine And.intro (?_ : enters Try.prog 13) ?_); (focus exact Try.call13); (refine callX_satH someKeys_sat3 ?_); simp only [go_sem, and_assoc, List.nil_append, List.append_nil, List.cons_append, Nat.reduceEqDiff, reduceIte, reduceCtorEq, Int.toNat_zero, mat.matL]) | fail)
  all_goals (
    refine ⟨_, _, 1, rfl, by omega, by omega, hbs, by omega, ?_⟩
    intro ys r hys hr)
  repeat' (first | ((with_reducible refine hK _ ?_); clear hK K) | ((with_reducible refine aord_plain fun K hK => ?_); simp only [go_sem, Nat.reduceAdd, Nat.reduceMul, Nat.reduceEqDiff, Nat.reduceLT, reduceIte, reduceCtorEq, Int.toNat_zero, mat.matL]) | ((first | with_reducible refine aord_nil ?_ | refine awp_skip ?_ | refine awp_exit ?_ | refine awp_ret ?_); try simp only [thenA_normal, thenA_exit, thenA_goto, thenA_ret, blockA_normal, blockA_same, blockA_exit, blockA_goto, blockA_ret, Nat.reduceEqDiff, if_false, if_true, reduceIte]) | fail)
  all_goals (simp only [St.set, St.ev, doneQ, doneH, ressK, resK, wrapR, AV.ids, AV.idsL, retK, retsK, upd, Nat.reduceEqDiff, reduceIte, if_false, if_true, List.nodup_nil, List.nodup_cons, List.not_mem_nil, not_false_eq_true, true_and, and_true, exists_eq_left', Option.some.injEq, rLoad, cellOf, tab, Ty.isAgg, Ty.one, Bool.false_eq_true]; simp only [Cont.closed, Cont.len, true_and]; exact ⟨by decide, hQ k ys hys⟩)

theorem invRow_nonneg (xs : List Int) (i : Nat) : ∀ k, 0 ≤ invRow xs i k
  | 0 => Int.le_refl 0
  | k + 1 => by have := invRow_nonneg xs i k; rw [invRow]; split <;> omega
theorem invRow_zero {xs : List Int} {i : Nat} : ∀ k, invRow xs i k = 0 ↔ ∀ j, j < k → i < j → xs.getD i 0 ≤ xs.getD j 0
  | 0 => ⟨fun _ j h => by omega, fun _ => rfl⟩
  | k + 1 => by
    have ih := invRow_zero (xs := xs) (i := i) k
    have h0 := invRow_nonneg xs i k
    rw [invRow]
    constructor
    · intro h j hj hij
      split at h
      · omega
      · rename_i hc
        rcases Nat.lt_or_ge j k with h1 | h1
        · exact ih.1 (by omega) j h1 hij
        · have : j = k := by omega
          subst this; omega
    · intro h
      have h1 := ih.2 fun j hj hij => h j (by omega) hij
      rw [if_neg (fun hc => by have := h k (by omega) hc.1; omega), h1]; rfl
theorem invTo_nonneg (xs : List Int) : ∀ i, 0 ≤ invTo xs i
  | 0 => Int.le_refl 0
  | i + 1 => by have := invTo_nonneg xs i; have := invRow_nonneg xs i xs.length; rw [invTo]; omega
theorem invTo_zero {xs : List Int} : ∀ i, invTo xs i = 0 ↔ ∀ a, a < i → ∀ j, j < xs.length → a < j → xs.getD a 0 ≤ xs.getD j 0
  | 0 => ⟨fun _ a h => by omega, fun _ => rfl⟩
  | i + 1 => by
    have ih := invTo_zero (xs := xs) i
    have h0 := invTo_nonneg xs i
    have h1 := invRow_nonneg xs i xs.length
    have h2 := invRow_zero (xs := xs) (i := i) xs.length
    rw [invTo]
    constructor
    · intro h a ha
      rcases Nat.lt_or_ge a i with h3 | h3
      · exact ih.1 (by omega) a h3
      · have : a = i := by omega
        subst this; exact h2.1 (by omega)
    · intro h
      have h3 := ih.2 fun a ha => h a (by omega)
      have h4 := h2.2 (h i (by omega))
      omega
theorem inv_srt (xs : List Int) : (invTo xs xs.length == 0) = srt xs := by
  have h1 := invTo_zero (xs := xs) xs.length
  cases e : srt xs with
  | true =>
    have : invTo xs xs.length = 0 := h1.2 fun a ha j hj haj => by
      obtain ⟨d, rfl⟩ : ∃ d, j = a + d := ⟨j - a, by omega⟩
      exact srt_le e hj
    rw [this]; rfl
  | false =>
    have : invTo xs xs.length ≠ 0 := fun h => by
      have := srt_iff.2 fun j hj => (h1.1 h) j (by omega) (j + 1) hj (by omega)
      rw [this] at e; cases e
    simpa using this
theorem ord_dec (xs : List Int) : decide (ordL xs = xs) = srt xs := by
  rw [srt_eq]; apply decide_eq_decide.2; exact eq_comm
theorem sq_beq (b : Bool) : (b == b) = true := by cases b <;> rfl
theorem sq_bne (b : Bool) : (b != b) = false := by cases b <;> rfl
theorem int_bne (n : Int) : (n != n) = false := by simp


theorem plN_ltK {xs : List Int} {i k : Nat} (hi : i < xs.length) (hk : k < xs.length) : plN xs i < plN xs k ↔ ltK xs i k := by
  constructor
  · intro h
    by_cases h1 : ltK xs i k
    · exact h1
    · by_cases e : i = k
      · subst e; omega
      · have h2 : ltK xs k i := by unfold ltK at h1 ⊢; omega
        have := plN_mono hk h2
        omega
  · exact plN_mono hi
theorem placesL_cast {xs : List Int} {i : Nat} (h : i < xs.length) : (placesL xs).getD i 0 = (plN xs i : Nat) := by
  rw [placesL_get h]; unfold plN; have := plC_nonneg xs i xs.length; omega
theorem plC_places {xs : List Int} {i : Nat} (hi : i < xs.length) : ∀ m, m ≤ xs.length → plC (placesL xs) i m = plC xs i m
  | 0, _ => rfl
  | m + 1, hm => by
    rw [plC, plC, plC_places hi m (by omega), placesL_cast (show m < xs.length by omega), placesL_cast hi]
    have h1 := plN_ltK (xs := xs) (i := m) (k := i) (by omega) hi
    have h2 : plN xs m = plN xs i → m = i := plN_inj (by omega) hi
    have e : ((plN xs m : Nat) : Int) < (plN xs i : Nat) ∨ (((plN xs m : Nat) : Int) = (plN xs i : Nat) ∧ m < i) ↔ xs.getD m 0 < xs.getD i 0 ∨ (xs.getD m 0 = xs.getD i 0 ∧ m < i) := by
      unfold ltK at h1; omega
    simp only [e]
theorem places_places (xs : List Int) : placesL (placesL xs) = placesL xs := by
  refine ext_getD (by rw [placesL_len]) fun j hj => ?_
  rw [placesL_len, placesL_len] at hj
  rw [placesL_get (by rw [placesL_len]; exact hj), placesL_len, plC_places hj _ (Nat.le_refl _), placesL_get hj]
theorem plN_places {xs : List Int} {i : Nat} (hi : i < xs.length) : plN (placesL xs) i = plN xs i := by
  unfold plN; rw [placesL_len, plC_places hi _ (Nat.le_refl _)]
theorem invRow_places {xs : List Int} {i : Nat} (hi : i < xs.length) : ∀ m, m ≤ xs.length → invRow (placesL xs) i m = invRow xs i m
  | 0, _ => rfl
  | m + 1, hm => by
    rw [invRow, invRow, invRow_places hi m (by omega), placesL_cast (show m < xs.length by omega), placesL_cast hi]
    have h1 := plN_ltK (xs := xs) (i := m) (k := i) (by omega) hi
    have e : (i < m ∧ ((plN xs m : Nat) : Int) < (plN xs i : Nat)) ↔ (i < m ∧ xs.getD m 0 < xs.getD i 0) := by
      unfold ltK at h1; omega
    simp only [e]
theorem invTo_places (xs : List Int) : ∀ i, i ≤ xs.length → invTo (placesL xs) i = invTo xs i
  | 0, _ => rfl
  | i + 1, h => by rw [invTo, invTo, invTo_places xs i (by omega), placesL_len, invRow_places (by omega) _ (Nat.le_refl _)]
def riseL (n : Nat) : List Int := (List.range n).map Int.ofNat
theorem riseL_len (n : Nat) : (riseL n).length = n := by simp [riseL]
theorem riseL_get {n i : Nat} (h : i < n) : (riseL n).getD i 0 = i := by
  rw [List.getD_eq_getElem?_getD, List.getElem?_eq_getElem (by rw [riseL_len]; exact h)]; simp [riseL]
theorem riseL_up (n : Nat) : riseL (n + 1) = riseL n ++ [(n : Int)] := by simp [riseL, List.range_succ]
theorem ord_places (xs : List Int) : ordL (placesL xs) = riseL xs.length := by
  refine ext_getD (by rw [ordL_len, placesL_len, riseL_len]) fun j hj => ?_
  rw [ordL_len, placesL_len] at hj
  obtain ⟨a, ha, rfl⟩ := ord_from hj
  rw [riseL_get hj]
  have := ord_at (xs := placesL xs) (a := a) (by rw [placesL_len]; exact ha)
  rw [plN_places ha] at this
  rw [this, placesL_cast ha]
theorem valid_places {xs : List Int} (h : validB xs = true) : validB (placesL xs) = true := by
  have h8 := valid_len h
  refine valid_all (by rw [placesL_len]; exact h8) fun j hj => ?_
  rw [placesL_len] at hj
  have := placesL_lt hj
  unfold inB
  rw [decide_eq_true (by omega), decide_eq_true (by omega)]; rfl
theorem dec_self (xs : List Int) : decide (xs = xs) = true := decide_eq_true rfl


theorem misN_in (P : List Int) : ∀ n, 0 ≤ misN P n ∧ misN P n ≤ n
  | 0 => by simp [misN]
  | n + 1 => by have := misN_in P n; rw [misN]; split <;> omega
theorem misN_zero {P : List Int} : ∀ n, misN P n = 0 ↔ ∀ i, i < n → P.getD i 0 = i
  | 0 => ⟨fun _ i h => by omega, fun _ => rfl⟩
  | n + 1 => by
    have ih := misN_zero (P := P) n
    have h0 := misN_in P n
    rw [misN]
    constructor
    · intro h i hi
      split at h
      · rename_i hc
        rcases Nat.lt_or_ge i n with h1 | h1
        · exact ih.1 (by omega) i h1
        · rw [show i = n by omega]; exact hc
      · omega
    · intro h
      rw [if_pos (h n (by omega)), ih.2 fun i hi => h i (by omega)]; rfl
theorem misN_one {P : List Int} : ∀ n, misN P n = 1 → ∃ p, p < n ∧ P.getD p 0 ≠ p ∧ ∀ i, i < n → i ≠ p → P.getD i 0 = i
  | 0, h => by simp [misN] at h
  | n + 1, h => by
    rw [misN] at h
    split at h
    · rename_i hc
      obtain ⟨p, h1, h2, h3⟩ := misN_one (P := P) n (by omega)
      refine ⟨p, by omega, h2, fun i hi hip => ?_⟩
      rcases Nat.lt_or_ge i n with h4 | h4
      · exact h3 i h4 hip
      · rw [show i = n by omega]; exact hc
    · rename_i hc
      have h1 := (misN_zero (P := P) n).1 (by omega)
      exact ⟨n, by omega, hc, fun i hi hip => h1 i (by omega)⟩
theorem mis_ne (xs : List Int) : (misN (placesL xs) xs.length != 1) = true := by
  have : misN (placesL xs) xs.length ≠ 1 := fun h => by
    obtain ⟨p, h1, h2, h3⟩ := misN_one _ h
    have e := placesL_cast h1
    have hl := plN_lt h1
    have hne : plN xs p ≠ p := fun h => h2 (by rw [e, h])
    have h4 := h3 (plN xs p) hl hne
    rw [placesL_cast hl] at h4
    have := plN_inj hl h1 (by omega)
    exact hne this
  simpa using this
theorem mis_srt (xs : List Int) : (misN (placesL xs) xs.length == 0) = srt xs := by
  have h1 := misN_zero (P := placesL xs) xs.length
  cases e : srt xs with
  | true =>
    have : misN (placesL xs) xs.length = 0 := h1.2 fun i hi => by
      rw [placesL_get hi, srt_pl e hi _ (Nat.le_refl _)]; omega
    rw [this]; rfl
  | false =>
    have : misN (placesL xs) xs.length ≠ 0 := fun h => by
      have h2 := h1.1 h
      have : ordL xs = xs := ext_getD (ordL_len xs) fun j hj => by
        rw [ordL_len] at hj
        have h3 := h2 j hj
        rw [placesL_cast hj] at h3
        have h4 := ord_at hj
        rwa [show plN xs j = j by omega] at h4
      have h5 := ord_dec xs
      rw [decide_eq_true this, e] at h5; cases h5
    simpa using this
theorem mis_le (xs : List Int) : decide (misN (placesL xs) xs.length ≤ (xs.length : Int)) = true := decide_eq_true (misN_in _ _).2


/-- How often the keys fall among the first k neighbours. -/
def fallN (xs : List Int) : Nat → Int
  | 0 => 0
  | k + 1 => fallN xs k + (if xs.getD (k + 1) 0 < xs.getD k 0 then 1 else 0)
theorem fallN_in (xs : List Int) : ∀ k, 0 ≤ fallN xs k ∧ fallN xs k ≤ k
  | 0 => by simp [fallN]
  | k + 1 => by have := fallN_in xs k; rw [fallN]; split <;> omega
theorem fallN_up {xs : List Int} {k : Nat} (h : xs.getD (k + 1) 0 < xs.getD k 0) : fallN xs (k + 1) = fallN xs k + 1 := by rw [fallN, if_pos h]
theorem fallN_no {xs : List Int} {k : Nat} (h : xs.getD k 0 ≤ xs.getD (k + 1) 0) : fallN xs (k + 1) = fallN xs k := by rw [fallN, if_neg (by omega)]; omega
theorem runs_falls (xs : List Int) : ∀ k, ((runsTo xs (k + 1)).length : Int) = fallN xs k + 1
  | 0 => by simp [runsTo, fallN]
  | k + 1 => by
    have ih := runs_falls xs k
    rw [runsTo, fallN]
    by_cases h : xs.getD k 0 ≤ xs.getD (k + 1) 0
    · rw [if_pos ⟨by omega, by simpa using h⟩, if_neg (by omega), incL_len]; omega
    · rw [if_neg (fun h1 => h (by simpa using h1.2)), if_pos (by omega)]; simp; omega
theorem incL_sum {l : List Int} (h : 0 < l.length) : (incL l).sum = l.sum + 1 := by
  obtain ⟨l', a, rfl⟩ : ∃ l' a, l = l' ++ [a] := ⟨l.dropLast, l.getLast (List.ne_nil_of_length_pos h), (List.dropLast_concat_getLast _).symm⟩
  rw [incL_app, List.sum_append, List.sum_append]; simp only [List.sum_cons, List.sum_nil]; omega
theorem runs_sum (xs : List Int) : ∀ k, (runsTo xs k).sum = k
  | 0 => rfl
  | k + 1 => by
    have ih := runs_sum xs k
    have hl := (runsTo_len xs k).2
    rw [runsTo]
    split
    · rename_i h; rw [incL_sum (hl h.1), ih]; omega
    · simp [ih]
theorem take_sum_in {l : List Int} (h : ∀ j, 0 ≤ l.getD j 0) (i : Nat) : 0 ≤ (l.take i).sum ∧ (l.take i).sum ≤ l.sum := by
  have hn : ∀ (m : List Int), (∀ x ∈ m, 0 ≤ x) → 0 ≤ m.sum := fun m => by
    induction m with
    | nil => intro _; simp
    | cons a t ih => intro h; have h1 := h a List.mem_cons_self; have h2 := ih fun x hx => h x (List.mem_cons_of_mem _ hx); simp; omega
  have hm : ∀ x ∈ l, 0 ≤ x := fun x hx => by
    obtain ⟨j, h1, h2⟩ := List.mem_iff_getElem.1 hx
    have := h j
    rw [List.getD_eq_getElem?_getD, List.getElem?_eq_getElem h1] at this
    simpa [h2] using this
  have h1 := hn (l.take i) fun x hx => hm x (List.mem_of_mem_take hx)
  have h2 := hn (l.drop i) fun x hx => hm x (List.mem_of_mem_drop hx)
  have h3 : (l.take i).sum + (l.drop i).sum = l.sum := by rw [← List.sum_append, List.take_append_drop]
  omega
theorem take_sum_up {l : List Int} {i : Nat} (h : i < l.length) : (l.take (i + 1)).sum = (l.take i).sum + l.getD i 0 := by
  rw [List.take_succ_eq_append_getElem h, List.sum_append, List.getD_eq_getElem?_getD, List.getElem?_eq_getElem h]; simp


/-- How many of the d numbers from a on are told by P. -/
def cnt (P : Nat → Bool) : Nat → Nat → Int
  | _, 0 => 0
  | a, d + 1 => (if P a = true then 1 else 0) + cnt P (a + 1) d
theorem cnt_in (P : Nat → Bool) : ∀ d a, 0 ≤ cnt P a d ∧ cnt P a d ≤ d
  | 0, a => by simp [cnt]
  | d + 1, a => by have := cnt_in P d (a + 1); rw [cnt]; split <;> omega
theorem cnt_up (P : Nat → Bool) : ∀ d a, cnt P a (d + 1) = cnt P a d + (if P (a + d) = true then 1 else 0)
  | 0, a => by simp [cnt]
  | d + 1, a => by rw [cnt, cnt_up P d (a + 1), show cnt P a (d + 1) = (if P a = true then 1 else 0) + cnt P (a + 1) d from rfl, show a + 1 + d = a + (d + 1) by omega]; omega


theorem best_ex {r : Int → Int → Bool} {xs : List Int} {g : Nat → Int} {i : Nat} (hg : ∀ k, 0 ≤ g k) : ∀ n, best r xs g i n = 0 ∨ ∃ k, i < k ∧ k < n ∧ r (xs.getD i 0) (xs.getD k 0) = true ∧ best r xs g i n = g k
  | 0 => .inl rfl
  | n + 1 => by
    rw [best]
    have ih := best_ex (r := r) (xs := xs) (i := i) hg n
    split
    · rename_i hc
      rcases Int.le_total (best r xs g i n) (g n) with h | h
      · exact .inr ⟨n, hc.1, by omega, hc.2, by omega⟩
      · rcases ih with h0 | ⟨k, h1, h2, h3, h4⟩
        · have := hg n; exact .inl (by omega)
        · exact .inr ⟨k, h1, by omega, h3, by omega⟩
    · rcases ih with h0 | ⟨k, h1, h2, h3, h4⟩
      · exact .inl h0
      · exact .inr ⟨k, h1, by omega, h3, h4⟩
theorem best_ge {r : Int → Int → Bool} {xs : List Int} {g : Nat → Int} {i k : Nat} (hik : i < k) (hr : r (xs.getD i 0) (xs.getD k 0) = true) : ∀ n, k < n → g k ≤ best r xs g i n
  | 0, h => by omega
  | n + 1, h => by
    rw [best]
    by_cases e : k = n
    · subst e; rw [if_pos ⟨hik, hr⟩]; omega
    · have := best_ge (g := g) hik hr n (by omega)
      split <;> omega
theorem mostN_ge {g : Nat → Int} {k : Nat} : ∀ n, k < n → g k ≤ mostN g n
  | 0, h => by omega
  | n + 1, h => by
    rw [mostN]
    by_cases e : k = n
    · subst e; omega
    · have := mostN_ge (g := g) n (show k < n by omega); omega
theorem mostN_ex {g : Nat → Int} (hg : ∀ k, 0 ≤ g k) : ∀ n, mostN g n = 0 ∨ ∃ k, k < n ∧ mostN g n = g k
  | 0 => .inl rfl
  | n + 1 => by
    rw [mostN]
    rcases Int.le_total (mostN g n) (g n) with h | h
    · exact .inr ⟨n, by omega, by omega⟩
    · rcases mostN_ex hg n with h0 | ⟨k, h1, h2⟩
      · have := hg n; exact .inl (by omega)
      · exact .inr ⟨k, by omega, by omega⟩
/-- Keys that follow each other two by two are no more than the longest row. -/
theorem chain_best {r : Int → Int → Bool} {xs : List Int} {P : Nat → Bool} (hP : ∀ i k, i < k → k < xs.length → P i = true → P k = true → r (xs.getD i 0) (xs.getD k 0) = true) : ∀ (d a f i : Nat), i < a → a + d = xs.length → d ≤ f + 1 → (∀ k, a ≤ k → k < xs.length → P k = true → r (xs.getD i 0) (xs.getD k 0) = true) → cnt P a d ≤ best r xs (chn r xs f) i xs.length
  | 0, a, f, i, h1, h2, h3, h4 => by have := best_in (r := r) (xs := xs) (i := i) (g := chn r xs f) (B := f + 1) (by omega) (fun k => chn_in f k) xs.length; simp only [cnt]; omega
  | d + 1, a, f, i, h1, h2, h3, h4 => by
    rw [cnt]
    split
    · rename_i hc
      have hb := best_ge (g := chn r xs f) h1 (h4 a (Nat.le_refl _) (by omega) hc) xs.length (by omega)
      have hch : 1 + cnt P (a + 1) d ≤ chn r xs f a := by
        cases f with
        | zero =>
          have : d = 0 := by omega
          subst this; simp [cnt, chn]
        | succ f =>
          have := chain_best hP d (a + 1) f a (by omega) (by omega) (by omega) (fun k h5 h6 h7 => hP a k (by omega) h6 hc h7)
          simp only [chn]; omega
      omega
    · have := chain_best hP d (a + 1) f i (by omega) (by omega) (by omega) (fun k h5 h6 h7 => h4 k (by omega) h6 h7)
      omega
theorem chain_most {r : Int → Int → Bool} {xs : List Int} {P : Nat → Bool} (hP : ∀ i k, i < k → k < xs.length → P i = true → P k = true → r (xs.getD i 0) (xs.getD k 0) = true) (h8 : xs.length ≤ 8) : ∀ d a, a + d = xs.length → cnt P a d ≤ mostN (chn r xs 8) xs.length
  | 0, a, h => by simp only [cnt]; exact mostN_nonneg _
  | d + 1, a, h => by
    rw [cnt]
    split
    · rename_i hc
      have h1 := chain_best hP d (a + 1) 7 a (by omega) (by omega) (by omega) (fun k h5 h6 h7 => hP a k (by omega) h6 hc h7)
      have h2 := mostN_ge (g := chn r xs 8) (k := a) xs.length (by omega)
      have h3 : chn r xs 8 a = best r xs (chn r xs 7) a xs.length + 1 := rfl
      omega
    · have := chain_most hP h8 d (a + 1) (by omega)
      omega


/-- The first index of the longest row that is laid, with what is left of it. -/
theorem rise_most {xs : List Int} (h8 : xs.length ≤ 8) : ∀ i, i ≤ xs.length → ((riseTo xs i).length : Int) + mostC xs (riseTo xs i) i xs.length = mostN (chn leB xs 8) xs.length
  | 0, _ => by rw [riseTo, mostC_none]; simp
  | i + 1, h => by
    have ih := rise_most h8 i (by omega)
    rw [riseTo]
    split
    · rename_i hc
      have := rise_take h8 hc.2
      simp only [List.length_append, List.length_cons, List.length_nil]
      omega
    · rename_i hc
      have := rise_pass (xs := xs) (out := riseTo xs i) (i := i) (by omega) (by
        rcases Bool.eq_false_or_eq_true (cmpR xs (riseTo xs i) i) with h1 | h1
        · exact .inr fun h2 => hc ⟨h1, h2⟩
        · exact .inl h1)
      omega
theorem rise_len {xs : List Int} (h8 : xs.length ≤ 8) : ((riseTo xs xs.length).length : Int) = mostN (chn leB xs 8) xs.length := by
  have := rise_most h8 xs.length (Nat.le_refl _)
  rw [mostC_low _ (Nat.le_refl _)] at this
  omega
/-- An index is one of the longest row. -/
def inR (xs : List Int) (i : Nat) : Bool := decide ((riseTo xs i).length < (riseTo xs (i + 1)).length)
theorem rise_stepLen (xs : List Int) (i : Nat) : (riseTo xs (i + 1)).length = (riseTo xs i).length + (if inR xs i = true then 1 else 0) := by
  unfold inR
  rw [riseTo]
  split <;> simp
theorem rise_cnt (xs : List Int) : ∀ n, cnt (inR xs) 0 n = (riseTo xs n).length
  | 0 => by simp [cnt, riseTo]
  | n + 1 => by rw [cnt_up, rise_cnt xs n, rise_stepLen, Nat.zero_add]; split <;> simp
theorem inR_iff {xs : List Int} {i : Nat} (h : inR xs i = true) : riseTo xs (i + 1) = riseTo xs i ++ [(i : Int)] ∧ cmpR xs (riseTo xs i) i = true := by
  unfold inR at h
  rw [riseTo] at h ⊢
  split
  · rename_i hc; exact ⟨rfl, hc.1⟩
  · rename_i hc; rw [if_neg hc] at h; simp at h
theorem inR_not {xs : List Int} {i : Nat} (h : ¬ inR xs i = true) : riseTo xs (i + 1) = riseTo xs i := by
  unfold inR at h
  rw [riseTo] at h ⊢
  split
  · rename_i hc; rw [if_pos hc] at h; simp at h
  · rfl
theorem last_app {l : List Int} {a : Int} : (l ++ [a]).getD ((l ++ [a]).length - 1) 0 = a := getD_app_at (by simp)
theorem inR_last (xs : List Int) : ∀ i j, j < i → inR xs j = true → 0 < (riseTo xs i).length ∧ xs.getD j 0 ≤ xs.getD ((riseTo xs i).getD ((riseTo xs i).length - 1) 0).toNat 0
  | 0, j, h, _ => by omega
  | i + 1, j, h, hj => by
    by_cases hi : inR xs i = true
    · obtain ⟨h1, h2⟩ := inR_iff hi
      rw [h1]
      refine ⟨by simp, ?_⟩
      rw [last_app]
      by_cases e : j = i
      · subst e; rw [show (j : Int).toNat = j by omega]; exact Int.le_refl _
      · obtain ⟨h3, h4⟩ := inR_last xs i j (by omega) hj
        unfold cmpR at h2
        rw [decide_eq_false (by omega), Bool.false_or, decide_eq_true_eq] at h2
        rw [show (i : Int).toNat = i by omega]
        omega
    · rw [inR_not hi]
      have : j ≠ i := fun e => hi (e ▸ hj)
      exact inR_last xs i j (by omega) hj
theorem inR_two {xs : List Int} {i k : Nat} (h : i < k) (hi : inR xs i = true) (hk : inR xs k = true) : xs.getD i 0 ≤ xs.getD k 0 := by
  obtain ⟨h1, h2⟩ := inR_last xs k i h hi
  have h3 := (inR_iff hk).2
  unfold cmpR at h3
  rw [decide_eq_false (by omega), Bool.false_or, decide_eq_true_eq] at h3
  omega
theorem rise_at (xs : List Int) : ∀ i j, j < (riseTo xs i).length → ∃ k, k < i ∧ inR xs k = true ∧ (riseTo xs i).getD j 0 = k ∧ j = (riseTo xs k).length
  | 0, j, h => by simp [riseTo] at h
  | i + 1, j, h => by
    by_cases hi : inR xs i = true
    · obtain ⟨h1, _⟩ := inR_iff hi
      rw [h1] at h ⊢
      simp only [List.length_append, List.length_cons, List.length_nil] at h
      rcases Nat.lt_or_ge j (riseTo xs i).length with h2 | h2
      · obtain ⟨k, q1, q2, q3, q4⟩ := rise_at xs i j h2
        exact ⟨k, by omega, q2, by rw [getD_app_lo h2]; exact q3, q4⟩
      · exact ⟨i, by omega, hi, getD_app_at (by omega), by omega⟩
    · rw [inR_not hi] at h ⊢
      obtain ⟨k, q1, q2, q3, q4⟩ := rise_at xs i j h
      exact ⟨k, by omega, q2, q3, q4⟩
theorem rise_mono (xs : List Int) {a : Nat} : ∀ d, (riseTo xs a).length ≤ (riseTo xs (a + d)).length
  | 0 => Nat.le_refl _
  | d + 1 => by have := rise_mono xs (a := a) d; have := rise_stepLen xs (a + d); rw [← Nat.add_assoc]; omega
/-- The indices of the longest row ascend, and their keys do not fall. -/
theorem rise_two {xs : List Int} {n a b : Nat} (hab : a < b) (hb : b < (riseTo xs n).length) : (riseTo xs n).getD a 0 < (riseTo xs n).getD b 0 ∧ xs.getD ((riseTo xs n).getD a 0).toNat 0 ≤ xs.getD ((riseTo xs n).getD b 0).toNat 0 := by
  obtain ⟨k, h1, h2, h3, h4⟩ := rise_at xs n a (by omega)
  obtain ⟨m, q1, q2, q3, q4⟩ := rise_at xs n b hb
  have hkm : k < m := by
    rcases Nat.lt_or_ge k m with h | h
    · exact h
    · have := rise_mono xs (a := m) (k - m)
      rw [show m + (k - m) = k by omega] at this
      omega
  rw [h3, q3]
  refine ⟨by omega, ?_⟩
  have := inR_two hkm h2 q2
  rw [show (k : Int).toNat = k by omega, show (m : Int).toNat = m by omega]
  exact this
theorem rise_full {xs : List Int} (h : (riseTo xs xs.length).length = xs.length) : srt xs = true := by
  have hall : ∀ n, (riseTo xs n).length = n → ∀ i, i < n → inR xs i = true := by
    intro n
    induction n with
    | zero => intro _ i hi; omega
    | succ n ih =>
      intro h i hi
      have h1 := rise_stepLen xs n
      have h2 := riseTo_len xs n
      split at h1
      · rename_i hc
        rcases Nat.lt_or_ge i n with h3 | h3
        · exact ih (by omega) i h3
        · rw [show i = n by omega]; exact hc
      · omega
  exact srt_iff.2 fun j hj => inR_two (by omega) (hall _ h j (by omega)) (hall _ h (j + 1) hj)


theorem inv_cnt {xs : List Int} {P : Nat → Bool} (hP : ∀ i, i < xs.length → P i = false → 1 ≤ invRow xs i xs.length) : ∀ n, n ≤ xs.length → (n : Int) ≤ cnt P 0 n + invTo xs n
  | 0, _ => by simp [cnt, invTo]
  | n + 1, h => by
    have ih := inv_cnt hP n (by omega)
    have h0 := invRow_nonneg xs n xs.length
    rw [cnt_up, invTo, Nat.zero_add]
    cases hp : P n with
    | true => simp; omega
    | false => have := hP n (by omega) hp; simp; omega
theorem rem_inv {xs : List Int} (h8 : xs.length ≤ 8) : (xs.length : Int) - (riseTo xs xs.length).length ≤ invTo xs xs.length := by
  have h1 := inv_cnt (xs := xs) (P := fun i => decide (invRow xs i xs.length = 0)) (fun i _ h => by have := invRow_nonneg xs i xs.length; simp only [decide_eq_false_iff_not] at h; omega) xs.length (Nat.le_refl _)
  have h2 := chain_most (r := leB) (xs := xs) (P := fun i => decide (invRow xs i xs.length = 0)) (fun i k hik hk hi _ => by
    simp only [decide_eq_true_eq] at hi
    unfold leB
    exact decide_eq_true ((invRow_zero _).1 hi k hk hik)) h8 xs.length 0 (by omega)
  rw [rise_len h8]
  omega
theorem mis_cnt (P : List Int) : ∀ n, cnt (fun i => decide (P.getD i 0 = (i : Int))) 0 n + misN P n = n
  | 0 => by simp [cnt, misN]
  | n + 1 => by
    have ih := mis_cnt P n
    rw [cnt_up, misN, Nat.zero_add]
    by_cases h : P.getD n 0 = (n : Int)
    · simp only [h, decide_true, if_true]; omega
    · simp only [h, decide_false, if_false, Bool.false_eq_true]; omega
theorem rem_mis {xs : List Int} (h8 : xs.length ≤ 8) : (xs.length : Int) - (riseTo xs xs.length).length ≤ misN (placesL xs) xs.length := by
  have h1 := mis_cnt (placesL xs) xs.length
  have h2 := chain_most (r := leB) (xs := xs) (P := fun i => decide ((placesL xs).getD i 0 = (i : Int))) (fun i k hik hk hi hk2 => by
    simp only [decide_eq_true_eq] at hi hk2
    rw [placesL_cast (by omega)] at hi hk2
    have := (plN_ltK (xs := xs) (i := i) (k := k) (by omega) hk).1 (by omega)
    unfold ltK at this
    unfold leB
    exact decide_eq_true (by omega)) h8 xs.length 0 (by omega)
  rw [rise_len h8]
  omega
theorem rem_srt {xs : List Int} (h8 : xs.length ≤ 8) : ((xs.length : Int) - (riseTo xs xs.length).length == 0) = srt xs := by
  have hl := riseTo_len xs xs.length
  cases e : srt xs with
  | true =>
    have h1 := rem_inv h8
    have h2 := inv_srt xs
    rw [e] at h2
    simp only [beq_iff_eq] at h2
    have : (xs.length : Int) - (riseTo xs xs.length).length = 0 := by omega
    rw [this]; rfl
  | false =>
    have : (xs.length : Int) - (riseTo xs xs.length).length ≠ 0 := fun h => by
      rw [rise_full (by omega)] at e; cases e
    simpa using this


theorem widRow_in {xs : List Int} {i : Nat} {n : Int} : ∀ k, n ≤ widRow xs i n k ∧ (widRow xs i n k = n ∨ ∃ j, i < j ∧ j < k ∧ xs.getD j 0 < xs.getD i 0 ∧ widRow xs i n k = (j : Int) - i)
  | 0 => ⟨Int.le_refl _, .inl rfl⟩
  | k + 1 => by
    obtain ⟨h1, h2⟩ := widRow_in (xs := xs) (i := i) (n := n) k
    rw [widRow]
    split
    · rename_i hc
      refine ⟨by omega, ?_⟩
      rcases Int.le_total (widRow xs i n k) ((k : Int) - i) with h | h
      · exact .inr ⟨k, hc.1, by omega, hc.2, by omega⟩
      · rcases h2 with h0 | ⟨j, q1, q2, q3, q4⟩
        · exact .inl (by omega)
        · exact .inr ⟨j, q1, by omega, q3, by omega⟩
    · refine ⟨h1, ?_⟩
      rcases h2 with h0 | ⟨j, q1, q2, q3, q4⟩
      · exact .inl h0
      · exact .inr ⟨j, q1, by omega, q3, q4⟩
theorem widRow_ge {xs : List Int} {i j : Nat} {n : Int} (hij : i < j) (hx : xs.getD j 0 < xs.getD i 0) : ∀ k, j < k → (j : Int) - i ≤ widRow xs i n k
  | 0, h => by omega
  | k + 1, h => by
    by_cases e : j = k
    · subst e; rw [widRow, if_pos ⟨hij, hx⟩]; omega
    · have := widRow_ge (n := n) hij hx k (by omega)
      rw [widRow]; split <;> omega
theorem widTo_in {xs : List Int} : ∀ m, 0 ≤ widTo xs m ∧ (widTo xs m = 0 ∨ ∃ i j, i < m ∧ i < j ∧ j < xs.length ∧ xs.getD j 0 < xs.getD i 0 ∧ widTo xs m = (j : Int) - i)
  | 0 => ⟨Int.le_refl _, .inl rfl⟩
  | m + 1 => by
    obtain ⟨h1, h2⟩ := widTo_in (xs := xs) m
    obtain ⟨h3, h4⟩ := widRow_in (xs := xs) (i := m) (n := widTo xs m) xs.length
    rw [widTo]
    refine ⟨by omega, ?_⟩
    rcases h4 with h5 | ⟨j, q1, q2, q3, q4⟩
    · rw [h5]
      rcases h2 with h0 | ⟨i, j, q1, q2, q3, q4, q5⟩
      · exact .inl h0
      · exact .inr ⟨i, j, by omega, q2, q3, q4, q5⟩
    · exact .inr ⟨m, j, by omega, q1, q2, q3, q4⟩
theorem widTo_ge {xs : List Int} {i j : Nat} (hij : i < j) (hj : j < xs.length) (hx : xs.getD j 0 < xs.getD i 0) : ∀ m, i < m → (j : Int) - i ≤ widTo xs m
  | 0, h => by omega
  | m + 1, h => by
    rw [widTo]
    by_cases e : i = m
    · subst e; exact widRow_ge hij hx _ hj
    · have h1 := widTo_ge hij hj hx m (by omega)
      have h2 := (widRow_in (xs := xs) (i := m) (n := widTo xs m) xs.length).1
      omega
theorem invRow_mono {xs : List Int} {i a : Nat} : ∀ d, invRow xs i a ≤ invRow xs i (a + d)
  | 0 => Int.le_refl _
  | d + 1 => by have := invRow_mono (xs := xs) (i := i) (a := a) d; rw [← Nat.add_assoc, invRow]; split <;> omega
theorem invTo_mono {xs : List Int} {a : Nat} : ∀ d, invTo xs a ≤ invTo xs (a + d)
  | 0 => Int.le_refl _
  | d + 1 => by have := invTo_mono (xs := xs) (a := a) d; have := invRow_nonneg xs (a + d) xs.length; rw [← Nat.add_assoc, invTo]; omega
theorem invRow_pos {xs : List Int} {i j : Nat} (hij : i < j) (hj : j < xs.length) (hx : xs.getD j 0 < xs.getD i 0) : 1 ≤ invRow xs i xs.length := by
  have h0 := invRow_nonneg xs i xs.length
  have : invRow xs i xs.length ≠ 0 := fun h => by have := (invRow_zero _).1 h j hj hij; omega
  omega
/-- Between the places of a pair that stands the wrong way round each place makes another one. -/
theorem wide_inv {xs : List Int} {i k : Nat} (hk : k < xs.length) (hx : xs.getD k 0 < xs.getD i 0) : ∀ m, i + 1 + m ≤ k → (m : Int) ≤ invRow xs i (i + 1 + m) + (invTo xs (i + 1 + m) - invTo xs (i + 1))
  | 0, h => by have := invRow_nonneg xs i (i + 1); simp; omega
  | m + 1, h => by
    have ih := wide_inv hk hx m (by omega)
    rw [show i + 1 + (m + 1) = i + 1 + m + 1 by omega, invRow, invTo]
    have h0 := invRow_nonneg xs (i + 1 + m) xs.length
    by_cases hc : xs.getD (i + 1 + m) 0 < xs.getD i 0
    · rw [if_pos ⟨by omega, hc⟩]; omega
    · rw [if_neg (fun h => hc h.2)]
      have := invRow_pos (xs := xs) (i := i + 1 + m) (j := k) (by omega) hk (by omega)
      omega
theorem wid_inv {xs : List Int} : widTo xs xs.length ≤ invTo xs xs.length := by
  obtain ⟨h1, h2⟩ := widTo_in (xs := xs) xs.length
  rcases h2 with h0 | ⟨i, k, q1, q2, q3, q4, q5⟩
  · rw [h0]; exact invTo_nonneg _ _
  · have h3 := wide_inv q3 q4 (k - (i + 1)) (by omega)
    rw [show i + 1 + (k - (i + 1)) = k by omega] at h3
    have h4 := invTo_mono (xs := xs) (a := k) (xs.length - k)
    rw [show k + (xs.length - k) = xs.length by omega] at h4
    have h5 : invTo xs (i + 1) = invTo xs i + invRow xs i xs.length := rfl
    have h6 := invTo_nonneg xs i
    have h7 : invRow xs i (k + 1) = invRow xs i k + 1 := by rw [invRow, if_pos ⟨q2, q4⟩]
    have h8 := invRow_mono (xs := xs) (i := i) (a := k + 1) (xs.length - (k + 1))
    rw [show k + 1 + (xs.length - (k + 1)) = xs.length by omega] at h8
    omega
theorem wid_srt (xs : List Int) : (widTo xs xs.length == 0) = srt xs := by
  obtain ⟨h1, h2⟩ := widTo_in (xs := xs) xs.length
  cases e : srt xs with
  | true =>
    have h3 := inv_srt xs
    rw [e, beq_iff_eq] at h3
    have := wid_inv (xs := xs)
    have : widTo xs xs.length = 0 := by omega
    rw [this]; rfl
  | false =>
    have : widTo xs xs.length ≠ 0 := fun h => by
      have : srt xs = true := srt_iff.2 fun j hj => by
        rcases Int.lt_or_le (xs.getD (j + 1) 0) (xs.getD j 0) with h3 | h3
        · have := widTo_ge (i := j) (j := j + 1) (by omega) hj h3 xs.length (by omega); omega
        · exact h3
      rw [this] at e; cases e
    simpa using this
theorem wid_lt {xs : List Int} : decide (widTo xs xs.length < max (xs.length : Int) 1) = true := by
  obtain ⟨h1, h2⟩ := widTo_in (xs := xs) xs.length
  rcases h2 with h0 | ⟨i, k, q1, q2, q3, q4, q5⟩
  · exact decide_eq_true (by omega)
  · exact decide_eq_true (by omega)


theorem plC_more {xs : List Int} {i a : Nat} : ∀ d, plC xs i a ≤ plC xs i (a + d) ∧ (plC xs i a < plC xs i (a + d) → ∃ k, a ≤ k ∧ k < a + d ∧ ltK xs k i) ∧ (plC xs i (a + d) < plC xs i a + d → ∃ k, a ≤ k ∧ k < a + d ∧ ¬ ltK xs k i)
  | 0 => ⟨Int.le_refl _, fun h => by simp at h, fun h => by simp at h⟩
  | d + 1 => by
    obtain ⟨h1, h2, h3⟩ := plC_more (xs := xs) (i := i) (a := a) d
    rw [← Nat.add_assoc, plC]
    by_cases hc : xs.getD (a + d) 0 < xs.getD i 0 ∨ (xs.getD (a + d) 0 = xs.getD i 0 ∧ a + d < i)
    · rw [if_pos hc]
      refine ⟨by omega, fun _ => ⟨a + d, by omega, by omega, hc⟩, fun h => ?_⟩
      obtain ⟨k, q1, q2, q3⟩ := h3 (by omega)
      exact ⟨k, q1, by omega, q3⟩
    · rw [if_neg hc]
      refine ⟨by omega, fun h => ?_, fun _ => ⟨a + d, by omega, by omega, hc⟩⟩
      obtain ⟨k, q1, q2, q3⟩ := h2 (by omega)
      exact ⟨k, q1, by omega, q3⟩
theorem far_wid_one {xs : List Int} {i : Nat} (hi : i < xs.length) : (plN xs i : Int) - i ≤ widTo xs xs.length ∧ (i : Int) - plN xs i ≤ widTo xs xs.length := by
  have hw := (widTo_in (xs := xs) xs.length).1
  have hlt := plN_lt hi
  have hp : (plN xs i : Int) = plC xs i xs.length := by unfold plN; have := plC_nonneg xs i xs.length; omega
  constructor
  · rcases Int.lt_or_le (i : Int) (plN xs i) with h | h
    · have h1 := plC_own xs i (plN xs i) (by omega)
      obtain ⟨_, h2, _⟩ := plC_more (xs := xs) (i := i) (a := plN xs i) (xs.length - plN xs i)
      rw [show plN xs i + (xs.length - plN xs i) = xs.length by omega] at h2
      obtain ⟨k, q1, q2, q3⟩ := h2 (by omega)
      unfold ltK at q3
      have := widTo_ge (xs := xs) (i := i) (j := k) (by omega) q2 (by omega) xs.length hi
      omega
    · omega
  · rcases Int.lt_or_le (plN xs i : Int) i with h | h
    · obtain ⟨h0, _, h2⟩ := plC_more (xs := xs) (i := i) (a := 0) (plN xs i + 1)
      rw [Nat.zero_add] at h0 h2
      have h3 := (plC_more (xs := xs) (i := i) (a := plN xs i + 1) (xs.length - (plN xs i + 1))).1
      rw [show plN xs i + 1 + (xs.length - (plN xs i + 1)) = xs.length by omega] at h3
      have h4 : plC xs i 0 = 0 := rfl
      obtain ⟨k, q1, q2, q3⟩ := h2 (by omega)
      unfold ltK at q3
      have := widTo_ge (xs := xs) (i := k) (j := i) (by omega) hi (by omega) xs.length (by omega)
      omega
    · omega
theorem far_wid {xs : List Int} : ∀ m, m ≤ xs.length → farN (placesL xs) m ≤ widTo xs xs.length
  | 0, _ => (widTo_in (xs := xs) xs.length).1
  | m + 1, h => by
    have ih := far_wid (xs := xs) m (by omega)
    have := far_wid_one (xs := xs) (i := m) (by omega)
    rw [farN, placesL_cast (show m < xs.length by omega)]
    omega
theorem farN_ge {P : List Int} {i : Nat} : ∀ m, i < m → P.getD i 0 - i ≤ farN P m ∧ (i : Int) - P.getD i 0 ≤ farN P m
  | 0, h => by omega
  | m + 1, h => by
    rw [farN]
    by_cases e : i = m
    · subst e; omega
    · have := farN_ge (P := P) m (show i < m by omega); omega
theorem farN_nonneg (P : List Int) : ∀ m, 0 ≤ farN P m
  | 0 => Int.le_refl _
  | m + 1 => by have := farN_nonneg P m; rw [farN]; omega
/-- A wide pair has a key that is at least half as far from its place. -/
theorem wid_far {xs : List Int} : farN (placesL xs) xs.length = 0 ∧ widTo xs xs.length = 0 ∨ widTo xs xs.length < 2 * farN (placesL xs) xs.length := by
  obtain ⟨h1, h2⟩ := widTo_in (xs := xs) xs.length
  have h3 := far_wid (xs := xs) xs.length (Nat.le_refl _)
  have h4 := farN_nonneg (placesL xs) xs.length
  rcases h2 with h0 | ⟨i, k, q1, q2, q3, q4, q5⟩
  · omega
  · have h5 := farN_ge (P := placesL xs) (i := i) xs.length q1
    have h6 := farN_ge (P := placesL xs) (i := k) xs.length q3
    rw [placesL_cast q1] at h5
    rw [placesL_cast q3] at h6
    have := plN_mono (xs := xs) (i := k) (k := i) q3 (.inl q4)
    omega


theorem brkN_in (P : List Int) : ∀ k, 0 ≤ brkN P k ∧ brkN P k ≤ k
  | 0 => by simp [brkN]
  | k + 1 => by have := brkN_in P k; rw [brkN]; split <;> omega
/-- The value of the last one kept of the first k, -1 if there is none. -/
def lastK (xs : List Int) (P : Nat → Bool) : Nat → Int
  | 0 => -1
  | k + 1 => if P k = true then plN xs k else lastK xs P k
theorem lastK_in {xs : List Int} {P : Nat → Bool} (hP : ∀ i k, i < k → k < xs.length → P i = true → P k = true → plN xs i < plN xs k) {m : Nat} (hm : m < xs.length) (hPm : P m = true) : ∀ k, k ≤ m → lastK xs P k < plN xs m
  | 0, _ => by simp only [lastK]; omega
  | k + 1, h => by
    rw [lastK]
    split
    · rename_i hc; have := hP k m (by omega) hm hc hPm; omega
    · exact lastK_in hP hm hPm k (by omega)
theorem lastK_lt {xs : List Int} {P : Nat → Bool} : ∀ k, k ≤ xs.length → lastK xs P k < xs.length
  | 0, _ => by simp only [lastK]; omega
  | k + 1, h => by
    rw [lastK]
    split
    · have := plN_lt (xs := xs) (i := k) (by omega); omega
    · exact lastK_lt k (by omega)
/-- Breaks are paid by the keys that are removed: two at most at each one, and one for the gap that it leaves. -/
theorem brk_pay {xs : List Int} {P : Nat → Bool} (hP : ∀ i k, i < k → k < xs.length → P i = true → P k = true → plN xs i < plN xs k) : ∀ k, k ≤ xs.length → (prevAt (brkL xs) k = lastK xs P k ∧ brkN (brkL xs) k ≤ 2 * (k - cnt P 0 k) + (lastK xs P k + 1 - cnt P 0 k)) ∨ brkN (brkL xs) k ≤ 2 * (k - cnt P 0 k) - 1 + (lastK xs P k + 1 - cnt P 0 k)
  | 0, _ => by left; simp [brkN, cnt, lastK, prevAt]
  | k + 1, h => by
    have ih := brk_pay hP k (by omega)
    rw [brkN, cnt_up, lastK, Nat.zero_add]
    have hb : (brkL xs).getD k 0 = plN xs k := by rw [brkL_lo (by omega), placesL_cast (by omega)]
    have hpv : prevAt (brkL xs) (k + 1) = plN xs k := by rw [prev_pos (by omega), Nat.add_sub_cancel, hb]
    rw [hb, hpv]
    by_cases hk : P k = true
    · have h1 := lastK_in hP (by omega) hk k (Nat.le_refl _)
      rw [if_pos hk, if_pos hk]
      left
      refine ⟨rfl, ?_⟩
      rcases ih with ⟨i1, i2⟩ | i2
      · rw [i1]; split <;> omega
      · split <;> omega
    · rw [if_neg hk, if_neg hk]
      right
      rcases ih with ⟨i1, i2⟩ | i2 <;> split <;> omega
theorem inR_pl {xs : List Int} (i k : Nat) (h : i < k) (hk : k < xs.length) (h1 : inR xs i = true) (h2 : inR xs k = true) : plN xs i < plN xs k := by
  have := inR_two h h1 h2
  exact plN_mono (xs := xs) (i := i) (k := k) (by omega) (by unfold ltK; omega)
theorem brk_rem {xs : List Int} : brkN (brkL xs) (xs.length + 1) ≤ 3 * ((xs.length : Int) - (riseTo xs xs.length).length) := by
  have h1 := brk_pay (xs := xs) (P := inR xs) (fun i k => inR_pl i k) xs.length (Nat.le_refl _)
  have h2 := lastK_lt (xs := xs) (P := inR xs) xs.length (Nat.le_refl _)
  rw [rise_cnt] at h1
  rw [brkN, brkL_at rfl]
  rcases h1 with ⟨i1, i2⟩ | i2
  · rw [i1]; split <;> omega
  · split <;> omega
theorem brk_zero {xs : List Int} : ∀ k, k ≤ xs.length → brkN (brkL xs) k = 0 → ∀ i, i < k → (placesL xs).getD i 0 = i
  | 0, _, _, i, h => by omega
  | k + 1, hk, h, i, hi => by
    have h0 := brkN_in (brkL xs) k
    rw [brkN] at h
    split at h
    · rename_i hc
      have ih := brk_zero (xs := xs) k (by omega) (by omega)
      rcases Nat.lt_or_ge i k with h1 | h1
      · exact ih i h1
      · have : i = k := by omega
        subst this
        rw [brkL_lo (by omega)] at hc
        rw [hc]
        rcases Nat.eq_zero_or_pos i with h2 | h2
        · subst h2; rfl
        · rw [prev_pos h2, brkL_lo (by omega), ih (i - 1) (by omega)]; omega
    · omega
theorem brk_srt (xs : List Int) : (brkN (brkL xs) (xs.length + 1) == 0) = srt xs := by
  cases e : srt xs with
  | true =>
    have hz : ∀ k, k ≤ xs.length → brkN (brkL xs) k = 0 := by
      intro k
      induction k with
      | zero => intro _; rfl
      | succ k ih =>
        intro hk
        rw [brkN, ih (by omega), brkL_lo (by omega), placesL_get (by omega), srt_pl e (by omega) _ (Nat.le_refl _), if_pos]
        · rfl
        · unfold prevAt
          split
          · omega
          · rw [brkL_lo (by omega), placesL_get (by omega), srt_pl e (by omega) _ (Nat.le_refl _)]; omega
    have : brkN (brkL xs) (xs.length + 1) = 0 := by
      rw [brkN, hz _ (Nat.le_refl _), brkL_at rfl, if_pos]
      · rfl
      · unfold prevAt
        split
        · omega
        · rw [brkL_lo (by omega), placesL_get (by omega), srt_pl e (by omega) _ (Nat.le_refl _)]; omega
    rw [this]; rfl
  | false =>
    have : brkN (brkL xs) (xs.length + 1) ≠ 0 := fun h => by
      have h0 := brkN_in (brkL xs) xs.length
      rw [brkN] at h
      have h1 := brk_zero (xs := xs) xs.length (Nat.le_refl _) (by split at h <;> omega)
      have h2 := (misN_zero (P := placesL xs) xs.length).2 h1
      have h3 := mis_srt xs
      rw [h2, e] at h3
      cases h3
    simpa using this


/-- The sum of the first n values. -/
def sm (f : Nat → Int) : Nat → Int
  | 0 => 0
  | n + 1 => sm f n + f n
theorem sm_le {f g : Nat → Int} : ∀ n, (∀ i, i < n → f i ≤ g i) → sm f n ≤ sm g n
  | 0, _ => Int.le_refl _
  | n + 1, h => by have := sm_le (f := f) (g := g) n fun i hi => h i (by omega); have := h n (by omega); simp only [sm]; omega
theorem sm_eq {f g : Nat → Int} : ∀ n, (∀ i, i < n → f i = g i) → sm f n = sm g n
  | 0, _ => rfl
  | n + 1, h => by have := sm_eq (f := f) (g := g) n fun i hi => h i (by omega); have := h n (by omega); simp only [sm]; omega
theorem sm_add (f g : Nat → Int) : ∀ n, sm (fun i => f i + g i) n = sm f n + sm g n
  | 0 => rfl
  | n + 1 => by have := sm_add f g n; simp only [sm]; omega
theorem sm_zero : ∀ n, sm (fun _ => 0) n = 0
  | 0 => rfl
  | n + 1 => by rw [sm, sm_zero n]; rfl
theorem sm_swap (f : Nat → Nat → Int) : ∀ m n, sm (fun i => sm (fun k => f i k) n) m = sm (fun k => sm (fun i => f i k) m) n
  | 0, n => by simp only [sm]; exact (sm_zero n).symm
  | m + 1, n => by simp only [sm]; rw [sm_swap f m n, ← sm_add]
theorem sm_more {f : Nat → Int} (h : ∀ i, 0 ≤ f i) {n : Nat} : ∀ d, sm f n ≤ sm f (n + d)
  | 0 => Int.le_refl _
  | d + 1 => by have := sm_more h (n := n) d; have := h (n + d); rw [← Nat.add_assoc, sm]; omega
theorem sm_shift (f : Nat → Int) : ∀ n, sm f (n + 1) = f 0 + sm (fun i => f (i + 1)) n
  | 0 => by simp [sm]
  | n + 1 => by rw [sm, sm_shift f n, sm]; omega
theorem sm_rev (f : Nat → Int) : ∀ n, sm (fun i => f (n - 1 - i)) n = sm f n
  | 0 => rfl
  | n + 1 => by
    rw [sm_shift, sm, show n + 1 - 1 - 0 = n by omega, ← sm_rev f n]
    have : sm (fun i => f (n + 1 - 1 - (i + 1))) n = sm (fun i => f (n - 1 - i)) n := sm_eq n fun i hi => by rw [show n + 1 - 1 - (i + 1) = n - 1 - i by omega]
    rw [this]; omega
def invI (xs : List Int) (i k : Nat) : Int := if i < k ∧ xs.getD k 0 < xs.getD i 0 then 1 else 0
def btwI (xs : List Int) (i k : Nat) : Int := if min (xs.getD i 0) (xs.getD (i + 1) 0) < xs.getD k 0 ∧ xs.getD k 0 < max (xs.getD i 0) (xs.getD (i + 1) 0) then 1 else 0
theorem invI_in (xs : List Int) (i k : Nat) : 0 ≤ invI xs i k := by unfold invI; split <;> omega
theorem invRow_sm (xs : List Int) (i : Nat) : ∀ k, invRow xs i k = sm (invI xs i) k
  | 0 => rfl
  | k + 1 => by rw [invRow, sm, invRow_sm xs i k]; rfl
theorem invTo_sm (xs : List Int) : ∀ i, invTo xs i = sm (fun i => sm (invI xs i) xs.length) i
  | 0 => rfl
  | i + 1 => by rw [invTo, sm, invTo_sm xs i, invRow_sm]
theorem btwC_sm (xs : List Int) (i : Nat) : ∀ k, btwC xs (xs.getD i 0) (xs.getD (i + 1) 0) k = sm (btwI xs i) k
  | 0 => rfl
  | k + 1 => by rw [btwC, sm, btwC_sm xs i k]; rfl
theorem swTo_sm (xs : List Int) : ∀ i, swTo xs i = sm (fun i => sm (btwI xs i) xs.length) i
  | 0 => rfl
  | i + 1 => by rw [swTo, sm, swTo_sm xs i, btwC_sm]
theorem btw_inv (xs : List Int) (i k : Nat) : btwI xs i k ≤ invI xs i k + invI xs k i + (invI xs (i + 1) k + invI xs k (i + 1)) := by
  have h1 := invI_in xs i k; have h2 := invI_in xs k i; have h3 := invI_in xs (i + 1) k; have h4 := invI_in xs k (i + 1)
  by_cases hb : min (xs.getD i 0) (xs.getD (i + 1) 0) < xs.getD k 0 ∧ xs.getD k 0 < max (xs.getD i 0) (xs.getD (i + 1) 0)
  · have hbi : btwI xs i k = 1 := if_pos hb
    have hne : k ≠ i := fun e => by subst e; omega
    have hne2 : k ≠ i + 1 := fun e => by subst e; omega
    rw [hbi]
    rcases Int.lt_or_le (xs.getD i 0) (xs.getD (i + 1) 0) with h | h
    · rcases Nat.lt_or_ge i k with hk | hk
      · have : invI xs (i + 1) k = 1 := if_pos ⟨by omega, by omega⟩
        omega
      · have : invI xs k i = 1 := if_pos ⟨by omega, by omega⟩
        omega
    · rcases Nat.lt_or_ge i k with hk | hk
      · have : invI xs i k = 1 := if_pos ⟨by omega, by omega⟩
        omega
      · have : invI xs k (i + 1) = 1 := if_pos ⟨by omega, by omega⟩
        omega
  · have hbi : btwI xs i k = 0 := if_neg hb
    omega
theorem sw_inv (xs : List Int) : swTo xs (xs.length - 1) ≤ 4 * invTo xs xs.length := by
  rw [swTo_sm, invTo_sm]
  rcases Nat.eq_zero_or_pos xs.length with h0 | h0
  · rw [h0]; simp [sm]
  · have hn : xs.length = (xs.length - 1) + 1 := by omega
    have h1 : sm (fun i => sm (btwI xs i) xs.length) (xs.length - 1) ≤ sm (fun i => sm (fun k => invI xs i k + invI xs k i + (invI xs (i + 1) k + invI xs k (i + 1))) xs.length) (xs.length - 1) := sm_le _ fun i _ => sm_le _ fun k _ => btw_inv xs i k
    have h2 : sm (fun i => sm (fun k => invI xs i k + invI xs k i + (invI xs (i + 1) k + invI xs k (i + 1))) xs.length) (xs.length - 1) = sm (fun i => sm (fun k => invI xs i k) xs.length) (xs.length - 1) + sm (fun i => sm (fun k => invI xs k i) xs.length) (xs.length - 1) + (sm (fun i => sm (fun k => invI xs (i + 1) k) xs.length) (xs.length - 1) + sm (fun i => sm (fun k => invI xs k (i + 1)) xs.length) (xs.length - 1)) := by
      rw [← sm_add, ← sm_add, ← sm_add]
      refine sm_eq _ fun i _ => ?_
      rw [← sm_add, ← sm_add, ← sm_add]
    have hp : ∀ i, 0 ≤ sm (fun k => invI xs i k) xs.length := fun i => by rw [← sm_zero xs.length]; exact sm_le _ fun k _ => invI_in _ _ _
    have hq : ∀ i, 0 ≤ sm (fun k => invI xs k i) xs.length := fun i => by rw [← sm_zero xs.length]; exact sm_le _ fun k _ => invI_in _ _ _
    have h3 := sm_more hp (n := xs.length - 1) 1
    have h4 := sm_more hq (n := xs.length - 1) 1
    have h5 := sm_shift (fun i => sm (fun k => invI xs i k) xs.length) (xs.length - 1)
    have h6 := sm_shift (fun i => sm (fun k => invI xs k i) xs.length) (xs.length - 1)
    have h7 := sm_swap (fun i k => invI xs k i) xs.length xs.length
    rw [← hn] at h3 h4 h5 h6
    have h8 := hp 0
    have h9 := hq 0
    have e1 : sm (fun i => sm (invI xs i) xs.length) xs.length = sm (fun i => sm (fun k => invI xs i k) xs.length) xs.length := rfl
    omega
theorem rev_getD {xs : List Int} {j : Nat} (h : j < xs.length) : xs.reverse.getD j 0 = xs.getD (xs.length - 1 - j) 0 := by
  rw [List.getD_eq_getElem?_getD, List.getD_eq_getElem?_getD, List.getElem?_reverse h]
theorem sw_rev (xs : List Int) : swTo xs.reverse (xs.reverse.length - 1) = swTo xs (xs.length - 1) := by
  rw [swTo_sm, swTo_sm, List.length_reverse]
  rcases Nat.eq_zero_or_pos xs.length with h0 | h0
  · rw [h0]; rfl
  · rw [← sm_rev (fun i => sm (btwI xs i) xs.length)]
    refine sm_eq _ fun i hi => ?_
    rw [← sm_rev (btwI xs (xs.length - 1 - 1 - i))]
    refine sm_eq _ fun k hk => ?_
    unfold btwI
    rw [rev_getD (by omega), rev_getD (by omega), rev_getD hk, show xs.length - 1 - (i + 1) = xs.length - 1 - 1 - i by omega, show xs.length - 1 - 1 - i + 1 = xs.length - 1 - i by omega, Int.min_comm, Int.max_comm]
theorem swTo_nonneg (xs : List Int) : ∀ i, 0 ≤ swTo xs i ∧ swTo xs i ≤ xs.length * i
  | 0 => by simp [swTo]
  | i + 1 => by
    have := swTo_nonneg xs i
    have := btw_in xs (xs.getD i 0) (xs.getD (i + 1) 0) xs.length
    rw [swTo, show ((xs.length : Int)) * ((i + 1 : Nat) : Int) = xs.length * i + xs.length by rw [show ((i + 1 : Nat) : Int) = (i : Int) + 1 by omega, Int.mul_add, Int.mul_one]]
    omega

theorem cnt_app (P : Nat → Bool) : ∀ d e a, cnt P a (d + e) = cnt P a d + cnt P (a + d) e
  | 0, e, a => by simp [cnt]
  | d + 1, e, a => by rw [show d + 1 + e = (d + e) + 1 by omega, cnt, cnt_app P d e (a + 1), cnt, show a + 1 + d = a + (d + 1) by omega]; omega
theorem cnt_same {P Q : Nat → Bool} : ∀ d a, (∀ k, a ≤ k → k < a + d → P k = Q k) → cnt P a d = cnt Q a d
  | 0, _, _ => rfl
  | d + 1, a, h => by rw [cnt, cnt, h a (by omega) (by omega), cnt_same d (a + 1) fun k h1 h2 => h k (by omega) (by omega)]
theorem cnt_less {Q : Nat → Bool} {c : Nat} (hQ : Q c = true) {N : Nat} (hc : c < N) : cnt (fun k => Q k && decide (k ≠ c)) 0 N = cnt Q 0 N - 1 := by
  have h1 : cnt Q 0 N = cnt Q 0 c + (1 + cnt Q (c + 1) (N - (c + 1))) := by
    have h2 := cnt_app Q c ((N - (c + 1)) + 1) 0
    rw [show c + (N - (c + 1) + 1) = N by omega, Nat.zero_add, cnt, if_pos hQ] at h2
    exact h2
  have h3 : cnt (fun k => Q k && decide (k ≠ c)) 0 N = cnt Q 0 c + (0 + cnt Q (c + 1) (N - (c + 1))) := by
    have h2 := cnt_app (fun k => Q k && decide (k ≠ c)) c ((N - (c + 1)) + 1) 0
    rw [show c + (N - (c + 1) + 1) = N by omega, Nat.zero_add, cnt, if_neg (by simp)] at h2
    rw [h2, cnt_same (Q := Q) c 0 (fun k q1 q2 => by rw [decide_eq_true (by omega), Bool.and_true]), cnt_same (Q := Q) (N - (c + 1)) (c + 1) (fun k q1 q2 => by rw [decide_eq_true (by omega), Bool.and_true])]
  omega
/-- What is told apart by R is no more than what R leads to. -/
theorem cnt_inj {R : Nat → Nat → Prop} : ∀ (n : Nat) {P Q : Nat → Bool} {N : Nat}, (∀ i, i < n → P i = true → ∃ c, c < N ∧ Q c = true ∧ R i c) → (∀ i k c, i < n → k < n → P i = true → P k = true → R i c → R k c → i = k) → cnt P 0 n ≤ cnt Q 0 N
  | 0, P, Q, N, _, _ => by have := cnt_in Q N 0; simp only [cnt]; omega
  | n + 1, P, Q, N, h1, h2 => by
    rw [cnt_up, Nat.zero_add]
    cases hp : P n with
    | false =>
      have := cnt_inj n (P := P) (Q := Q) (N := N) (fun i hi => h1 i (by omega)) (fun i k c hi hk => h2 i k c (by omega) (by omega))
      simp; omega
    | true =>
      obtain ⟨c, hc, hQc, hR⟩ := h1 n (by omega) hp
      have := cnt_inj n (P := P) (Q := fun k => Q k && decide (k ≠ c)) (N := N) (fun i hi hPi => by
        obtain ⟨d, q1, q2, q3⟩ := h1 i (by omega) hPi
        refine ⟨d, q1, ?_, q3⟩
        have : d ≠ c := fun e => by
          subst e
          have := h2 i n d (by omega) (by omega) hPi hp q3 hR
          omega
        show (Q d && decide (d ≠ c)) = true
        rw [q2, decide_eq_true this]; rfl) (fun i k c hi hk => h2 i k c (by omega) (by omega))
      rw [cnt_less hQc hc] at this
      simp; omega
theorem cnt_rows {Q : Nat → Bool} {n : Nat} : ∀ m, cnt Q 0 (m * n) = sm (fun i => cnt Q (i * n) n) m
  | 0 => by simp [cnt, sm]
  | m + 1 => by rw [Nat.succ_mul, cnt_app, cnt_rows m, sm, Nat.zero_add]
theorem cnt_sm {Q : Nat → Bool} {a : Nat} : ∀ n, cnt Q a n = sm (fun k => if Q (a + k) = true then 1 else 0) n
  | 0 => rfl
  | n + 1 => by rw [cnt_up, cnt_sm n, sm]


/-- Pairs that stand the wrong way round, as one number each. -/
def invC (xs : List Int) (c : Nat) : Bool := decide (c / xs.length < c % xs.length ∧ xs.getD (c % xs.length) 0 < xs.getD (c / xs.length) 0)
theorem code_div {n a b : Nat} (h : b < n) : (a * n + b) / n = a ∧ (a * n + b) % n = b := by
  constructor
  · rw [Nat.mul_comm, Nat.mul_add_div (by omega), Nat.div_eq_of_lt h, Nat.add_zero]
  · rw [Nat.mul_comm, Nat.mul_add_mod, Nat.mod_eq_of_lt h]
theorem invC_cnt (xs : List Int) : cnt (invC xs) 0 (xs.length * xs.length) = invTo xs xs.length := by
  rw [cnt_rows, invTo_sm]
  refine sm_eq _ fun i _ => ?_
  rw [cnt_sm]
  refine sm_eq _ fun k hk => ?_
  unfold invC invI
  rw [(code_div hk).1, (code_div hk).2]
  simp only [decide_eq_true_eq]
theorem leastOf_ex {p : Nat → Prop} : ∀ (n : Nat), p n → ∃ k, k ≤ n ∧ p k ∧ ∀ j, j < k → ¬ p j := by
  intro n
  induction n using Nat.strongRecOn with
  | _ n ih =>
    intro h
    by_cases hx : ∃ m, m < n ∧ p m
    · obtain ⟨m, h1, h2⟩ := hx
      obtain ⟨k, q1, q2, q3⟩ := ih m h1 h2
      exact ⟨k, by omega, q2, q3⟩
    · exact ⟨n, Nat.le_refl _, h, fun j hj hp => hx ⟨j, hj, hp⟩⟩
theorem last_of {p : Nat → Prop} (n k : Nat) (hk : k < n) (h : p k) : ∃ m, k ≤ m ∧ m < n ∧ p m ∧ ∀ j, m < j → j < n → ¬ p j := by
  obtain ⟨d, h1, h2, h3⟩ := leastOf_ex (p := fun d => d < n ∧ p (n - 1 - d)) (n - 1 - k) ⟨by omega, by rwa [show n - 1 - (n - 1 - k) = k by omega]⟩
  refine ⟨n - 1 - d, by omega, by omega, h2.2, fun j q1 q2 hp => h3 (n - 1 - j) (by omega) ⟨by omega, ?_⟩⟩
  rwa [show n - 1 - (n - 1 - j) = j by omega]
/-- The way of a circle that stays at or above i, from the place of y on to x, and comes from under i and goes under i. -/
def arcP (xs : List Int) (i y x : Nat) : Prop := y < i ∧ x < xs.length ∧ ∃ L t0, t0 ≤ L ∧ (∀ t, t ≤ L → i ≤ itP xs t (plN xs y)) ∧ itP xs t0 (plN xs y) = i ∧ itP xs (L + 1) (plN xs y) < i ∧ x = itP xs L (plN xs y)
theorem itP_suc {xs : List Int} {y : Nat} (t : Nat) : itP xs t (plN xs y) = itP xs (t + 1) y := by rw [itP_add]; rfl
theorem arc_ex {xs : List Int} {i : Nat} (hi : i < xs.length) (h : lstB xs i = false) : ∃ y x, arcP xs i y x := by
  have hn : ∃ k, itP xs k i < i := Classical.byContradiction fun hx => by
    have : lstB xs i = true := (lstB_iff hi).2 fun k => by
      rcases Nat.lt_or_ge (itP xs k i) i with h1 | h1
      · exact (hx ⟨k, h1⟩).elim
      · exact h1
    rw [h] at this; cases this
  obtain ⟨k0, hk0⟩ := hn
  obtain ⟨T, hT, hTn, hTi⟩ := itP_ret hi
  rw [itP_mod hTi k0] at hk0
  have hlt := Nat.mod_lt k0 hT
  generalize k0 % T = k at hk0 hlt
  obtain ⟨k1, a1, a2, a3⟩ := leastOf_ex (p := fun k => itP xs k i < i) k hk0
  obtain ⟨k2, b1, b2, b3, b4⟩ := last_of (p := fun k => itP xs k i < i) T k hlt hk0
  have h10 : k1 ≠ 0 := fun e => by rw [e] at a2; exact Nat.lt_irrefl _ a2
  have key : ∀ t, t ≤ T - k2 - 1 + (k1 - 1) → i ≤ itP xs t (plN xs (itP xs k2 i)) := fun t ht => by
    rw [itP_suc, ← itP_add]
    rcases Nat.lt_or_ge (t + 1 + k2) T with h1 | h1
    · exact Nat.le_of_not_lt (b4 (t + 1 + k2) (by omega) h1)
    · rw [show t + 1 + k2 = (t + 1 + k2 - T) + T by omega, itP_add, hTi]
      exact Nat.le_of_not_lt (a3 (t + 1 + k2 - T) (by omega))
  refine ⟨itP xs k2 i, itP xs (T - k2 - 1 + (k1 - 1)) (plN xs (itP xs k2 i)), b3, itP_lt (plN_lt (itP_lt hi _)) _, T - k2 - 1 + (k1 - 1), T - k2 - 1, by omega, key, ?_, ?_, rfl⟩
  · rw [itP_suc, ← itP_add, show T - k2 - 1 + 1 + k2 = T by omega, hTi]
  · rw [itP_suc, ← itP_add, show T - k2 - 1 + (k1 - 1) + 1 + 1 + k2 = k1 + T by omega, itP_add, hTi]
    exact a2
theorem arc_one {xs : List Int} {i j y x : Nat} (h1 : arcP xs i y x) (h2 : arcP xs j y x) : ¬ i < j := fun hij => by
  obtain ⟨_, _, L, t, q1, q2, q3, q4, q5⟩ := h1
  obtain ⟨_, _, L', t', p1, p2, p3, p4, p5⟩ := h2
  rcases Nat.lt_or_ge L L' with h | h
  · have := p2 (L + 1) (by omega); omega
  · rcases Nat.lt_or_ge L' L with h3 | h3
    · have h4 := q2 (L' + 1) (by omega)
      have h5 : itP xs (L' + 1) (plN xs y) = plN xs x := by rw [p5]; rfl
      have h6 : itP xs (L + 1) (plN xs y) = plN xs x := by rw [q5]; rfl
      omega
    · have : L = L' := by omega
      subst this
      have := p2 t q1
      omega
theorem arc_inv {xs : List Int} {i y x : Nat} (hi : i < xs.length) (h : arcP xs i y x) : invC xs (y * xs.length + x) = true := by
  obtain ⟨h1, h2, L, t, q1, q2, q3, q4, q5⟩ := h
  have h3 := q2 L (Nat.le_refl _)
  have h4 := q2 0 (Nat.zero_le _)
  have h5 : itP xs (L + 1) (plN xs y) = plN xs x := by rw [q5]; rfl
  have h6 : itP xs 0 (plN xs y) = plN xs y := rfl
  have h7 := (plN_ltK (xs := xs) (i := x) (k := y) h2 (by omega)).1 (by omega)
  unfold ltK at h7
  unfold invC
  rw [(code_div h2).1, (code_div h2).2]
  exact decide_eq_true (by omega)


def notL (xs : List Int) (i : Nat) : Bool := !lstB xs i
theorem cir_cnt (xs : List Int) : ∀ n : Nat, (n : Int) - cirN xs n = cnt (notL xs) 0 n
  | 0 => by simp [cirN, cnt]
  | n + 1 => by
    have ih := cir_cnt xs n
    rw [cirN, cnt_up, Nat.zero_add, ← ih]
    unfold notL
    cases lstB xs n <;> simp <;> omega
theorem exc_inv (xs : List Int) : (xs.length : Int) - cirN xs xs.length ≤ invTo xs xs.length := by
  rw [cir_cnt, ← invC_cnt]
  refine cnt_inj (R := fun i c => ∃ y x, x < xs.length ∧ c = y * xs.length + x ∧ arcP xs i y x) _ (fun i hi hP => ?_) (fun i k c hi hk hP hPk h1 h2 => ?_)
  · obtain ⟨y, x, h⟩ := arc_ex hi (by unfold notL at hP; simpa using hP)
    have hx : x < xs.length := h.2.1
    have hy : y < xs.length := by have := h.1; omega
    refine ⟨y * xs.length + x, ?_, arc_inv hi h, y, x, hx, rfl, h⟩
    have : (y + 1) * xs.length ≤ xs.length * xs.length := Nat.mul_le_mul_right _ (by omega)
    rw [Nat.succ_mul] at this
    omega
  · obtain ⟨y, x, hx, hc, ha⟩ := h1
    obtain ⟨y', x', hx', hc', ha'⟩ := h2
    have e1 := code_div (a := y) hx
    have e2 := code_div (a := y') hx'
    rw [← hc] at e1
    rw [← hc'] at e2
    obtain rfl : y = y' := by omega
    obtain rfl : x = x' := by omega
    have := arc_one ha ha'
    have := arc_one ha' ha
    omega


def offB (xs : List Int) (i : Nat) : Bool := decide (plN xs i ≠ i)
theorem off_cnt (xs : List Int) : ∀ n, n ≤ xs.length → misN (placesL xs) n = cnt (offB xs) 0 n
  | 0, _ => rfl
  | n + 1, h => by
    rw [misN, cnt_up, off_cnt xs n (by omega), Nat.zero_add, placesL_cast (by omega)]
    unfold offB
    by_cases e : plN xs n = n
    · rw [if_pos (by omega), decide_eq_false (by omega)]; rfl
    · rw [if_neg (by omega), decide_eq_true e]; rfl
theorem off_not {xs : List Int} {i : Nat} (hi : i < xs.length) (h : plN xs i = i) : lstB xs i = true := by
  rw [lstB_iff hi]
  intro k
  have : itP xs k i = i := by
    induction k with
    | zero => rfl
    | succ k ih => show plN xs _ = i; rw [ih, h]
  omega
theorem cnt_leB {P Q : Nat → Bool} : ∀ d a, (∀ k, a ≤ k → k < a + d → P k = true → Q k = true) → cnt P a d ≤ cnt Q a d
  | 0, _, _ => Int.le_refl _
  | d + 1, a, h => by
    have ih := cnt_leB (P := P) (Q := Q) d (a + 1) fun k h1 h2 => h k (by omega) (by omega)
    have := h a (by omega) (by omega)
    rw [cnt, cnt]
    cases hp : P a with
    | true => rw [this hp, if_pos rfl]; omega
    | false => rw [if_neg Bool.false_ne_true]; split <;> omega
theorem cnt_pos {P : Nat → Bool} : ∀ d a, cnt P a d ≠ 0 → ∃ k, a ≤ k ∧ k < a + d ∧ P k = true
  | 0, a, h => by simp [cnt] at h
  | d + 1, a, h => by
    rw [cnt] at h
    by_cases hp : P a = true
    · exact ⟨a, by omega, by omega, hp⟩
    · rw [if_neg hp] at h
      obtain ⟨k, q1, q2, q3⟩ := cnt_pos (P := P) d (a + 1) (by omega)
      exact ⟨k, by omega, by omega, q3⟩
theorem cnt_one {P : Nat → Bool} {k n : Nat} (hk : k < n) (h : P k = true) : 1 ≤ cnt P 0 n := by
  have h1 := cnt_app P k ((n - (k + 1)) + 1) 0
  rw [show k + (n - (k + 1) + 1) = n by omega, Nat.zero_add, cnt, if_pos h] at h1
  have := cnt_in P k 0
  have := cnt_in P (n - (k + 1)) (k + 1)
  omega
/-- A key that is the least of its circle, and not alone in it. -/
def headB (xs : List Int) (i : Nat) : Bool := lstB xs i && offB xs i
theorem mis_split (xs : List Int) : ∀ n, n ≤ xs.length → cnt (offB xs) 0 n = cnt (headB xs) 0 n + cnt (notL xs) 0 n
  | 0, _ => rfl
  | n + 1, h => by
    rw [cnt_up, cnt_up, cnt_up, mis_split xs n (by omega), Nat.zero_add]
    unfold headB notL offB
    by_cases e : plN xs n = n
    · rw [off_not (by omega) e, decide_eq_false (by omega)]; simp
    · rw [decide_eq_true e]
      cases lstB xs n <;> simp <;> omega
theorem head_step {xs : List Int} {i : Nat} (hi : i < xs.length) (h : headB xs i = true) : notL xs (plN xs i) = true := by
  unfold headB offB at h
  rw [Bool.and_eq_true, decide_eq_true_eq] at h
  unfold notL
  cases e : lstB xs (plN xs i) with
  | false => rfl
  | true =>
    exfalso
    have h1 := (lstB_iff hi).1 h.1 1
    have h2 : itP xs 1 i = plN xs i := rfl
    obtain ⟨m, hm⟩ := itP_back (xs := xs) (a := i) (k := 1) hi
    rw [h2] at hm
    have h3 := (lstB_iff (plN_lt hi)).1 e m
    omega
theorem mis_exc (xs : List Int) : misN (placesL xs) xs.length ≤ 2 * ((xs.length : Int) - cirN xs xs.length) := by
  rw [cir_cnt, off_cnt xs _ (Nat.le_refl _), mis_split xs _ (Nat.le_refl _)]
  have := cnt_inj (R := fun i c => plN xs i = c) xs.length (P := headB xs) (Q := notL xs) (N := xs.length) (fun i hi h => ⟨plN xs i, plN_lt hi, head_step hi h, rfl⟩) (fun i k c hi hk _ _ h1 h2 => plN_inj hi hk (h1.trans h2.symm))
  omega
theorem exc_mis (xs : List Int) : (xs.length : Int) - cirN xs xs.length = 0 ∨ (xs.length : Int) - cirN xs xs.length < misN (placesL xs) xs.length := by
  rw [cir_cnt, off_cnt xs _ (Nat.le_refl _), mis_split xs _ (Nat.le_refl _)]
  by_cases h0 : cnt (notL xs) 0 xs.length = 0
  · exact .inl h0
  · right
    obtain ⟨i, _, hi, hP⟩ := cnt_pos _ _ h0
    rw [Nat.zero_add] at hi
    have hl : lstB xs i = false := by unfold notL at hP; simpa using hP
    -- the least one of the circle
    have hex : ∃ m, m < xs.length ∧ (∃ k, itP xs k i = m) := ⟨i, hi, 0, rfl⟩
    obtain ⟨m0, hm0, hk0⟩ := hex
    obtain ⟨m, _, ⟨k, hk⟩, hmin⟩ := leastOf_ex (p := fun m => ∃ k, itP xs k i = m) m0 hk0
    have hm : m < xs.length := by rw [← hk]; exact itP_lt hi k
    have h1 : lstB xs m = true := (lstB_iff hm).2 fun j => by
      rcases Nat.lt_or_ge (itP xs j m) m with h2 | h2
      · exact (hmin _ h2 ⟨j + k, by rw [itP_add, hk]⟩).elim
      · exact h2
    have h2 : plN xs m ≠ m := fun e => by
      obtain ⟨r, hr⟩ := itP_back (xs := xs) (a := i) (k := k) hi
      rw [hk] at hr
      have : itP xs r m = m := by
        clear hr
        induction r with
        | zero => rfl
        | succ r ih => show plN xs _ = m; rw [ih, e]
      have hmi : m = i := this.symm.trans hr
      rw [← hmi, h1] at hl
      cases hl
    have := cnt_one (P := headB xs) hm (by unfold headB offB; rw [h1, decide_eq_true h2]; rfl)
    omega
theorem exc_srt (xs : List Int) : ((xs.length : Int) - cirN xs xs.length == 0) = srt xs := by
  have h1 := mis_exc xs
  have h2 := exc_mis xs
  have h3 := misN_in (placesL xs) xs.length
  have h4 := mis_srt xs
  cases e : srt xs with
  | true =>
    rw [e, beq_iff_eq] at h4
    have : (xs.length : Int) - cirN xs xs.length = 0 := by omega
    rw [this]; rfl
  | false =>
    rw [e] at h4
    have : (xs.length : Int) - cirN xs xs.length ≠ 0 := fun h => by
      have : misN (placesL xs) xs.length = 0 := by omega
      rw [this] at h4; cases h4
    simpa using this

theorem fallN_zero (xs : List Int) : ∀ k, fallN xs k = 0 ↔ ∀ j, j < k → xs.getD j 0 ≤ xs.getD (j + 1) 0
  | 0 => ⟨fun _ j h => by omega, fun _ => rfl⟩
  | k + 1 => by
    have ih := fallN_zero xs k
    have hn := (fallN_in xs k).1
    rw [fallN]
    constructor
    · intro h j hj
      split at h
      · omega
      · rcases Nat.lt_or_ge j k with h1 | h1
        · exact (ih.1 (by omega)) j h1
        · obtain rfl : j = k := by omega
          omega
    · intro h
      rw [if_neg (by have := h k (by omega); omega), ih.2 fun j hj => h j (by omega)]; rfl
theorem run_srt (xs : List Int) : (max (((runsTo xs xs.length).length : Int) - 1) 0 == 0) = srt xs := by
  rcases Nat.eq_zero_or_pos xs.length with h0 | h0
  · have : xs = [] := List.length_eq_zero_iff.1 h0
    subst this; rfl
  · obtain ⟨k, hk⟩ : ∃ k, xs.length = k + 1 := ⟨xs.length - 1, by omega⟩
    have h1 := runs_falls xs k
    have h2 := fallN_zero xs k
    have h3 := (fallN_in xs k).1
    rw [hk, h1]
    cases e : srt xs with
    | true =>
      have : fallN xs k = 0 := h2.2 fun j hj => srt_iff.1 e j (by omega)
      rw [this]; rfl
    | false =>
      have : fallN xs k ≠ 0 := fun h => by
        have := srt_iff.2 fun j hj => h2.1 h j (by omega)
        rw [this] at e; cases e
      exact beq_eq_false_iff_ne.2 (by omega)
theorem farN_zero {P : List Int} : ∀ n, farN P n = 0 ↔ ∀ i, i < n → P.getD i 0 = i
  | 0 => ⟨fun _ i h => by omega, fun _ => rfl⟩
  | n + 1 => by
    have ih := farN_zero (P := P) n
    have h0 := farN_nonneg P n
    rw [farN]
    constructor
    · intro h i hi
      rcases Nat.lt_or_ge i n with h1 | h1
      · exact ih.1 (by omega) i h1
      · obtain rfl : i = n := by omega
        omega
    · intro h
      have := h n (by omega)
      have := ih.2 fun i hi => h i (by omega)
      omega
theorem far_srt (xs : List Int) : (farN (placesL xs) xs.length == 0) = srt xs := by
  rw [← mis_srt]
  have h1 := farN_zero (P := placesL xs) xs.length
  have h2 := misN_zero (P := placesL xs) xs.length
  rw [Bool.eq_iff_iff, beq_iff_eq, beq_iff_eq, h1, h2]
theorem pilPut_len (xss : List (List Int)) (x : Int) : xss.length ≤ (pilPut xss x).length := by
  unfold pilPut; split <;> simp
theorem pil_one {xs : List Int} : ∀ i, i + 1 ≤ xs.length → (pilTo xs (i + 1) = [xs.take (i + 1)] ∧ ∀ j, j < i → xs.getD j 0 ≤ xs.getD (j + 1) 0) ∨ (2 ≤ (pilTo xs (i + 1)).length ∧ ∃ j, j < i ∧ xs.getD (j + 1) 0 < xs.getD j 0)
  | 0, h => by
    refine .inl ⟨?_, fun j hj => by omega⟩
    rw [pilTo, pilTo, pilPut_new (by rfl)]
    cases xs with
    | nil => simp at h
    | cons x l => simp
  | i + 1, h => by
    rcases pil_one (xs := xs) i (by omega) with ⟨h1, h2⟩ | ⟨h1, j, h2, h3⟩
    · rw [pilTo, h1]
      have hl : (xs.take (i + 1)).length = i + 1 := by rw [List.length_take]; omega
      have hg : (xs.take (i + 1)).getD ((xs.take (i + 1)).length - 1) 0 = xs.getD i 0 := by
        rw [hl, List.getD_eq_getElem?_getD, List.getElem?_take, if_pos (by omega), ← List.getD_eq_getElem?_getD, Nat.add_sub_cancel]
      by_cases c : xs.getD i 0 ≤ xs.getD (i + 1) 0
      · refine .inl ⟨?_, fun j hj => ?_⟩
        · have hp : pilA [xs.take (i + 1)] (xs.getD (i + 1) 0) = 0 := by rw [pilA, if_pos (by rw [hg]; exact c)]
          rw [pilPut_old hp (by simp)]
          have ht : xs.take (i + 1 + 1) = xs.take (i + 1) ++ [xs.getD (i + 1) 0] := by
            rw [List.take_succ_eq_append_getElem (show i + 1 < xs.length by omega), List.getD_eq_getElem?_getD, List.getElem?_eq_getElem (show i + 1 < xs.length by omega)]; rfl
          rw [ht]; rfl
        · rcases Nat.lt_or_ge j i with h4 | h4
          · exact h2 j h4
          · obtain rfl : j = i := by omega
            exact c
      · refine .inr ⟨?_, i, by omega, by omega⟩
        have hp : pilA [xs.take (i + 1)] (xs.getD (i + 1) 0) = 1 := by rw [pilA, if_neg (by rw [hg]; exact c)]; rfl
        rw [pilPut_new (by rw [hp]; rfl)]; simp
    · refine .inr ⟨?_, j, by omega, h3⟩
      rw [pilTo]
      exact Nat.le_trans h1 (pilPut_len _ _)
theorem pil_is (xs : List Int) : (max (((pilTo xs xs.length).length : Int) - 1) 0 == 0) = srt xs := by
  rcases Nat.eq_zero_or_pos xs.length with h0 | h0
  · have : xs = [] := List.length_eq_zero_iff.1 h0
    subst this; rfl
  · obtain ⟨k, hk⟩ : ∃ k, xs.length = k + 1 := ⟨xs.length - 1, by omega⟩
    rcases pil_one (xs := xs) k (by omega) with ⟨h1, h2⟩ | ⟨h1, j, h2, h3⟩
    · rw [hk, h1, srt_iff.2 fun j hj => h2 j (by omega)]; rfl
    · have e : srt xs = false := by
        cases e : srt xs with
        | false => rfl
        | true => have := srt_iff.1 e j (by omega); omega
      rw [hk, e]; exact beq_eq_false_iff_ne.2 (by omega)
theorem mea_some {k : ByteArray} {xs : List Int} (h8 : xs.length ≤ 8) (h : (meaV k xs).isSome = true) : 0 ≤ (meaV k xs).getD 0 ∧ (srt xs = true → (meaV k xs).getD 0 = 0) ∧ (k = nm_swings ∨ ((meaV k xs).getD 0 == 0) = srt xs) := by
  have key : ∀ m : Int, 0 ≤ m → (m == 0) = srt xs → 0 ≤ m ∧ (srt xs = true → m = 0) ∧ (k = nm_swings ∨ (m == 0) = srt xs) := fun m h0 h1 => ⟨h0, fun h2 => by rw [h2] at h1; simpa using h1, .inr h1⟩
  unfold meaV at h ⊢
  by_cases c0 : k = nm_inversions
  · rw [if_pos c0]; exact key _ (invTo_nonneg xs _) (inv_srt xs)
  rw [if_neg c0] at h ⊢
  by_cases c1 : k = nm_runs
  · rw [if_pos c1]; exact key _ (by show (0 : Int) ≤ max _ 0; omega) (run_srt xs)
  rw [if_neg c1] at h ⊢
  by_cases c2 : k = nm_removals
  · rw [if_pos c2]; exact key _ (by show (0 : Int) ≤ _ - _; have := riseTo_len xs xs.length; omega) (rem_srt h8)
  rw [if_neg c2] at h ⊢
  by_cases c3 : k = nm_exchanges
  · rw [if_pos c3]; exact key _ (by show (0 : Int) ≤ _ - _; have := cirN_in xs xs.length; omega) (exc_srt xs)
  rw [if_neg c3] at h ⊢
  by_cases c4 : k = nm_misplaced
  · rw [if_pos c4]; exact key _ (misN_in _ _).1 (mis_srt xs)
  rw [if_neg c4] at h ⊢
  by_cases c5 : k = nm_farthest
  · rw [if_pos c5]; exact key _ (farN_nonneg _ _) (far_srt xs)
  rw [if_neg c5] at h ⊢
  by_cases c6 : k = nm_widest
  · rw [if_pos c6]; exact key _ (widTo_in _).1 (wid_srt xs)
  rw [if_neg c6] at h ⊢
  by_cases c7 : k = nm_piles
  · rw [if_pos c7]; exact key _ (by show (0 : Int) ≤ max _ 0; omega) (pil_is xs)
  rw [if_neg c7] at h ⊢
  by_cases c8 : k = nm_swings
  · rw [if_pos c8]
    have h1 := (swTo_nonneg xs (xs.length - 1)).1
    refine ⟨h1, fun hs => ?_, .inl c8⟩
    have h2 := sw_inv xs
    have h3 : invTo xs xs.length = 0 := by have := inv_srt xs; rw [hs] at this; simpa using this
    show swTo xs (xs.length - 1) = 0
    omega
  rw [if_neg c8] at h ⊢
  by_cases c9 : k = nm_breaks
  · rw [if_pos c9]; exact key _ (brkN_in _ _).1 (brk_srt xs)
  rw [if_neg c9] at h
  cases h

theorem FnMeasureOf_sat : Sat Try.prog 3 (fun ds Q => ∃ bs, ds = [.row (.ints .u8 bs)] ∧ bs.length ≤ 9223372036854775807 ∧ bytesOk bs ∧ Q (.val (.bool true))) := by
  refine sat_intro tabOk Try.func3 rfl 72 rfl [.tmp 2] rfl ?_
  rintro ds Q W ⟨bs, rfl, hlen, hbs, hQ⟩
  refine ⟨Nat.le_of_ble_eq_true rfl, ?_⟩
  simp only [initS, initT, mat.matL, mat, Cont.len]
  repeat' (first | refine awp_seq_k fun K hK => ?_ | ((with_reducible refine hK _ ?_); clear hK K) | ((with_reducible refine aord_plain fun K hK => ?_); simp only [go_sem, Nat.reduceAdd, Nat.reduceMul, Nat.reduceEqDiff, Nat.reduceLT, reduceIte, reduceCtorEq, mat.matL, ba_lbeq, Value.string.injEq]) | ((first | with_reducible refine aord_nil ?_ | refine awp_skip ?_ | refine awp_exit ?_ | refine awp_ret ?_); try simp only [thenA_normal, thenA_exit, thenA_goto, thenA_ret, blockA_normal, blockA_same, blockA_exit, blockA_goto, blockA_ret, Nat.reduceEqDiff, if_false, if_true, reduceIte]) | (refine awp_region tabOk rfl ?_; simp only [prep, pickO, List.map_cons, List.map_nil, List.getElem?_toArray, List.getElem?_cons_succ, List.getElem?_cons_zero, Option.bind_some, Option.map_some]) | ((with_reducible apply awp_cond); (focus (simp only [St.ev, St.set, upd, Nat.reduceEqDiff, reduceIte, if_false, if_true]; exact rfl)); all_goals (intro hb; first | (cases hb; done) | ((try rw [hb]); (try simp only [decide_eq_true_eq, decide_eq_false_iff_not, beq_iff_eq, bne_iff_ne, beq_eq_false_iff_ne, bne_eq_false_iff_eq, Int.not_lt, Int.not_le, Bool.not_eq_true', Bool.not_eq_false'] at hb)))) | ((with_reducible refine And.intro ?_ ?_); (focus omega)) | ((with_reducible refine And.intro (?_ : enters Try.prog 5) ?_); (focus exact Try.call5); (refine callX_sat drawMeasureOf_sat ?_); simp only [go_sem, and_assoc, List.nil_append, List.append_nil, List.cons_append, Nat.reduceEqDiff, reduceIte, reduceCtorEq, mat.matL, ba_lbeq, Value.string.injEq]) | fail)
  · simp only [St.set, St.ev, doneQ, doneH, ressK, resK, wrapR, AV.ids, AV.idsL, retK, retsK, upd, Nat.reduceEqDiff, reduceIte, if_false, if_true, List.nodup_nil, List.nodup_cons, List.not_mem_nil, not_false_eq_true, true_and, and_true, exists_eq_left', Option.some.injEq, rLoad, cellOf, tab, Ty.isAgg, Ty.one, Bool.false_eq_true]
    exact hQ
  intro k xs hxs
  cases hb : meaB k xs with
  | false =>

    repeat' (first | refine awp_seq_k fun K hK => ?_ | ((with_reducible refine hK _ ?_); clear hK K) | ((with_reducible refine aord_plain fun K hK => ?_); simp only [go_sem, Nat.reduceAdd, Nat.reduceMul, Nat.reduceEqDiff, Nat.reduceLT, reduceIte, reduceCtorEq, mat.matL, ba_lbeq, Value.string.injEq, hb, sq_beq, sq_bne, int_bne, beq_self_eq_true]) | ((with_reducible apply aord_guard); (focus (simp only [St.ev, St.set, upd, Nat.reduceEqDiff, reduceIte, if_false, if_true]; exact rfl)); all_goals (intro hb; (try simp only [Bool.not_true, Bool.not_false] at hb); first | (cases hb; done) | ((try rw [hb]); (try simp only [Bool.not_eq_true', Bool.not_eq_false', Bool.and_eq_true, decide_eq_true_eq, decide_eq_false_iff_not, beq_iff_eq, bne_iff_ne, beq_eq_false_iff_ne, bne_eq_false_iff_eq, Int.not_lt, Int.not_le] at hb); (try (revert hb; with_reducible refine true_imp_iff.2 ?_)); first | (intro K hK; simp only [go_sem, Nat.reduceAdd, Nat.reduceMul, Nat.reduceEqDiff, Nat.reduceLT, reduceIte, reduceCtorEq]) | (simp only [St.ev, St.set, upd, Nat.reduceEqDiff, reduceIte, if_false, if_true]) | skip))) | ((first | with_reducible refine aord_nil ?_ | refine awp_skip ?_ | refine awp_exit ?_ | refine awp_ret ?_); try simp only [thenA_normal, thenA_exit, thenA_goto, thenA_ret, blockA_normal, blockA_same, blockA_exit, blockA_goto, blockA_ret, Nat.reduceEqDiff, if_false, if_true, reduceIte]) | (refine awp_region tabOk rfl ?_; simp only [prep, pickO, List.map_cons, List.map_nil, List.getElem?_toArray, List.getElem?_cons_succ, List.getElem?_cons_zero, Option.bind_some, Option.map_some]) | ((with_reducible apply awp_cond); (focus (simp only [St.ev, St.set, upd, Nat.reduceEqDiff, reduceIte, if_false, if_true]; exact rfl)); all_goals (intro hb; first | (cases hb; done) | ((try rw [hb]); (try simp only [decide_eq_true_eq, decide_eq_false_iff_not, beq_iff_eq, bne_iff_ne, beq_eq_false_iff_ne, bne_eq_false_iff_eq, Int.not_lt, Int.not_le, Bool.not_eq_true', Bool.not_eq_false'] at hb)))) | ((with_reducible refine And.intro ?_ ?_); (focus omega)) | ((with_reducible refine And.intro (?_ : enters Try.prog 6) ?_); (focus exact Try.call6); (refine callX_sat implMeasureOf_sat ?_); simp only [go_sem, and_assoc, List.nil_append, List.append_nil, List.cons_append, Nat.reduceEqDiff, reduceIte, reduceCtorEq, mat.matL, ba_lbeq, Value.string.injEq, hb, sq_beq, sq_bne, int_bne, beq_self_eq_true]) | ((with_reducible refine And.intro (?_ : enters Try.prog 7) ?_); (focus exact Try.call7); (refine callX_sat specMeasureOf_sat ?_); simp only [go_sem, and_assoc, List.nil_append, List.append_nil, List.cons_append, Nat.reduceEqDiff, reduceIte, reduceCtorEq, mat.matL, ba_lbeq, Value.string.injEq, hb, sq_beq, sq_bne, int_bne, beq_self_eq_true]) | fail)
    all_goals (simp only [St.set, St.ev, doneQ, doneH, ressK, resK, wrapR, AV.ids, AV.idsL, retK, retsK, upd, Nat.reduceEqDiff, reduceIte, if_false, if_true, List.nodup_nil, List.nodup_cons, List.not_mem_nil, not_false_eq_true, true_and, and_true, exists_eq_left', Option.some.injEq, rLoad, cellOf, tab, Ty.isAgg, Ty.one, Bool.false_eq_true]; exact hQ)
  | true =>
    have hv : validB xs = true := by unfold meaB at hb; exact (Bool.and_eq_true_iff.1 hb).1
    have hs : (meaV k xs).isSome = true := by unfold meaB at hb; exact (Bool.and_eq_true_iff.1 hb).2
    have h8 := valid_len hv
    obtain ⟨m0, m1, m2⟩ := mea_some h8 hs
    have eW : meaW k xs = (meaV k xs).getD 0 := by unfold meaW; rw [hv]; rfl
    rw [← eW] at m0 m1 m2
    have hge : decide (meaW k xs ≥ 0) = true := decide_eq_true m0
    cases hsr : srt xs with
    | true =>
      have hz : (meaW k xs == 0) = true := beq_iff_eq.2 (m1 hsr)
      cases hk : decide (k = (⟨#[115, 119, 105, 110, 103, 115]⟩ : ByteArray))
      all_goals (

        repeat' (first | refine awp_seq_k fun K hK => ?_ | ((with_reducible refine hK _ ?_); clear hK K) | ((with_reducible refine aord_plain fun K hK => ?_); simp only [go_sem, Nat.reduceAdd, Nat.reduceMul, Nat.reduceEqDiff, Nat.reduceLT, reduceIte, reduceCtorEq, mat.matL, ba_lbeq, Value.string.injEq, hb, hv, hge, hz, hk, hsr, sq_beq, sq_bne, int_bne, beq_self_eq_true, Bool.true_and]) | ((with_reducible apply aord_guard); (focus (simp only [St.ev, St.set, upd, Nat.reduceEqDiff, reduceIte, if_false, if_true]; exact rfl)); all_goals (intro hb; (try simp only [Bool.not_true, Bool.not_false] at hb); first | (cases hb; done) | ((try rw [hb]); (try simp only [Bool.not_eq_true', Bool.not_eq_false', Bool.and_eq_true, decide_eq_true_eq, decide_eq_false_iff_not, beq_iff_eq, bne_iff_ne, beq_eq_false_iff_ne, bne_eq_false_iff_eq, Int.not_lt, Int.not_le] at hb); (try (revert hb; with_reducible refine true_imp_iff.2 ?_)); first | (intro K hK; simp only [go_sem, Nat.reduceAdd, Nat.reduceMul, Nat.reduceEqDiff, Nat.reduceLT, reduceIte, reduceCtorEq]) | (simp only [St.ev, St.set, upd, Nat.reduceEqDiff, reduceIte, if_false, if_true]) | skip))) | ((first | with_reducible refine aord_nil ?_ | refine awp_skip ?_ | refine awp_exit ?_ | refine awp_ret ?_); try simp only [thenA_normal, thenA_exit, thenA_goto, thenA_ret, blockA_normal, blockA_same, blockA_exit, blockA_goto, blockA_ret, Nat.reduceEqDiff, if_false, if_true, reduceIte]) | (refine awp_region tabOk rfl ?_; simp only [prep, pickO, List.map_cons, List.map_nil, List.getElem?_toArray, List.getElem?_cons_succ, List.getElem?_cons_zero, Option.bind_some, Option.map_some]) | ((with_reducible apply awp_cond); (focus (simp only [St.ev, St.set, upd, Nat.reduceEqDiff, reduceIte, if_false, if_true]; exact rfl)); all_goals (intro hb; first | (cases hb; done) | ((try rw [hb]); (try simp only [decide_eq_true_eq, decide_eq_false_iff_not, beq_iff_eq, bne_iff_ne, beq_eq_false_iff_ne, bne_eq_false_iff_eq, Int.not_lt, Int.not_le, Bool.not_eq_true', Bool.not_eq_false'] at hb)))) | ((with_reducible refine And.intro ?_ ?_); (focus omega)) | ((with_reducible refine And.intro (?_ : enters Try.prog 6) ?_); (focus exact Try.call6); (refine callX_sat implMeasureOf_sat ?_); simp only [go_sem, and_assoc, List.nil_append, List.append_nil, List.cons_append, Nat.reduceEqDiff, reduceIte, reduceCtorEq, mat.matL, ba_lbeq, Value.string.injEq, hb, hv, hge, hz, hk, hsr, sq_beq, sq_bne, int_bne, beq_self_eq_true, Bool.true_and]) | ((with_reducible refine And.intro (?_ : enters Try.prog 7) ?_); (focus exact Try.call7); (refine callX_sat specMeasureOf_sat ?_); simp only [go_sem, and_assoc, List.nil_append, List.append_nil, List.cons_append, Nat.reduceEqDiff, reduceIte, reduceCtorEq, mat.matL, ba_lbeq, Value.string.injEq, hb, hv, hge, hz, hk, hsr, sq_beq, sq_bne, int_bne, beq_self_eq_true, Bool.true_and]) | ((with_reducible refine And.intro (?_ : enters Try.prog 8) ?_); (focus exact Try.call8); (refine callX_sat implIsSorted_sat ?_); simp only [go_sem, and_assoc, List.nil_append, List.append_nil, List.cons_append, Nat.reduceEqDiff, reduceIte, reduceCtorEq, mat.matL, ba_lbeq, Value.string.injEq, hb, hv, hge, hz, hk, hsr, sq_beq, sq_bne, int_bne, beq_self_eq_true, Bool.true_and]) | fail))
      all_goals (simp only [St.set, St.ev, doneQ, doneH, ressK, resK, wrapR, AV.ids, AV.idsL, retK, retsK, upd, Nat.reduceEqDiff, reduceIte, if_false, if_true, List.nodup_nil, List.nodup_cons, List.not_mem_nil, not_false_eq_true, true_and, and_true, exists_eq_left', Option.some.injEq, rLoad, cellOf, tab, Ty.isAgg, Ty.one, Bool.false_eq_true]; exact hQ)
    | false =>
      cases hk : decide (k = (⟨#[115, 119, 105, 110, 103, 115]⟩ : ByteArray)) with
      | true =>
        have hk2 : k = nm_swings := of_decide_eq_true hk
        clear hk
        subst hk2
        have g8 : decide (nm_swings = (⟨#[115, 119, 105, 110, 103, 115]⟩ : ByteArray)) = true := by decide

        repeat' (first | refine awp_seq_k fun K hK => ?_ | ((with_reducible refine hK _ ?_); clear hK K) | ((with_reducible refine aord_plain fun K hK => ?_); simp only [go_sem, Nat.reduceAdd, Nat.reduceMul, Nat.reduceEqDiff, Nat.reduceLT, reduceIte, reduceCtorEq, mat.matL, ba_lbeq, Value.string.injEq, hb, hv, hge, g8, hsr, sq_beq, sq_bne, int_bne, beq_self_eq_true, Bool.true_and]) | ((with_reducible apply aord_guard); (focus (simp only [St.ev, St.set, upd, Nat.reduceEqDiff, reduceIte, if_false, if_true]; exact rfl)); all_goals (intro hb; (try simp only [Bool.not_true, Bool.not_false] at hb); first | (cases hb; done) | ((try rw [hb]); (try simp only [Bool.not_eq_true', Bool.not_eq_false', Bool.and_eq_true, decide_eq_true_eq, decide_eq_false_iff_not, beq_iff_eq, bne_iff_ne, beq_eq_false_iff_ne, bne_eq_false_iff_eq, Int.not_lt, Int.not_le] at hb); (try (revert hb; with_reducible refine true_imp_iff.2 ?_)); first | (intro K hK; simp only [go_sem, Nat.reduceAdd, Nat.reduceMul, Nat.reduceEqDiff, Nat.reduceLT, reduceIte, reduceCtorEq]) | (simp only [St.ev, St.set, upd, Nat.reduceEqDiff, reduceIte, if_false, if_true]) | skip))) | ((first | with_reducible refine aord_nil ?_ | refine awp_skip ?_ | refine awp_exit ?_ | refine awp_ret ?_); try simp only [thenA_normal, thenA_exit, thenA_goto, thenA_ret, blockA_normal, blockA_same, blockA_exit, blockA_goto, blockA_ret, Nat.reduceEqDiff, if_false, if_true, reduceIte]) | (refine awp_region tabOk rfl ?_; simp only [prep, pickO, List.map_cons, List.map_nil, List.getElem?_toArray, List.getElem?_cons_succ, List.getElem?_cons_zero, Option.bind_some, Option.map_some]) | ((with_reducible apply awp_cond); (focus (simp only [St.ev, St.set, upd, Nat.reduceEqDiff, reduceIte, if_false, if_true]; exact rfl)); all_goals (intro hb; first | (cases hb; done) | ((try rw [hb]); (try simp only [decide_eq_true_eq, decide_eq_false_iff_not, beq_iff_eq, bne_iff_ne, beq_eq_false_iff_ne, bne_eq_false_iff_eq, Int.not_lt, Int.not_le, Bool.not_eq_true', Bool.not_eq_false'] at hb)))) | ((with_reducible refine And.intro ?_ ?_); (focus omega)) | ((with_reducible refine And.intro (?_ : enters Try.prog 6) ?_); (focus exact Try.call6); (refine callX_sat implMeasureOf_sat ?_); simp only [go_sem, and_assoc, List.nil_append, List.append_nil, List.cons_append, Nat.reduceEqDiff, reduceIte, reduceCtorEq, mat.matL, ba_lbeq, Value.string.injEq, hb, hv, hge, g8, hsr, sq_beq, sq_bne, int_bne, beq_self_eq_true, Bool.true_and]) | ((with_reducible refine And.intro (?_ : enters Try.prog 7) ?_); (focus exact Try.call7); (refine callX_sat specMeasureOf_sat ?_); simp only [go_sem, and_assoc, List.nil_append, List.append_nil, List.cons_append, Nat.reduceEqDiff, reduceIte, reduceCtorEq, mat.matL, ba_lbeq, Value.string.injEq, hb, hv, hge, g8, hsr, sq_beq, sq_bne, int_bne, beq_self_eq_true, Bool.true_and]) | ((with_reducible refine And.intro (?_ : enters Try.prog 8) ?_); (focus exact Try.call8); (refine callX_sat implIsSorted_sat ?_); simp only [go_sem, and_assoc, List.nil_append, List.append_nil, List.cons_append, Nat.reduceEqDiff, reduceIte, reduceCtorEq, mat.matL, ba_lbeq, Value.string.injEq, hb, hv, hge, g8, hsr, sq_beq, sq_bne, int_bne, beq_self_eq_true, Bool.true_and]) | fail)
        all_goals (simp only [St.set, St.ev, doneQ, doneH, ressK, resK, wrapR, AV.ids, AV.idsL, retK, retsK, upd, Nat.reduceEqDiff, reduceIte, if_false, if_true, List.nodup_nil, List.nodup_cons, List.not_mem_nil, not_false_eq_true, true_and, and_true, exists_eq_left', Option.some.injEq, rLoad, cellOf, tab, Ty.isAgg, Ty.one, Bool.false_eq_true]; exact hQ)
      | false =>
        have hz : (meaW k xs == 0) = false := (m2.resolve_left (of_decide_eq_false hk)).trans hsr

        repeat' (first | refine awp_seq_k fun K hK => ?_ | ((with_reducible refine hK _ ?_); clear hK K) | ((with_reducible refine aord_plain fun K hK => ?_); simp only [go_sem, Nat.reduceAdd, Nat.reduceMul, Nat.reduceEqDiff, Nat.reduceLT, reduceIte, reduceCtorEq, mat.matL, ba_lbeq, Value.string.injEq, hb, hv, hge, hz, hk, hsr, sq_beq, sq_bne, int_bne, beq_self_eq_true, Bool.true_and]) | ((with_reducible apply aord_guard); (focus (simp only [St.ev, St.set, upd, Nat.reduceEqDiff, reduceIte, if_false, if_true]; exact rfl)); all_goals (intro hb; (try simp only [Bool.not_true, Bool.not_false] at hb); first | (cases hb; done) | ((try rw [hb]); (try simp only [Bool.not_eq_true', Bool.not_eq_false', Bool.and_eq_true, decide_eq_true_eq, decide_eq_false_iff_not, beq_iff_eq, bne_iff_ne, beq_eq_false_iff_ne, bne_eq_false_iff_eq, Int.not_lt, Int.not_le] at hb); (try (revert hb; with_reducible refine true_imp_iff.2 ?_)); first | (intro K hK; simp only [go_sem, Nat.reduceAdd, Nat.reduceMul, Nat.reduceEqDiff, Nat.reduceLT, reduceIte, reduceCtorEq]) | (simp only [St.ev, St.set, upd, Nat.reduceEqDiff, reduceIte, if_false, if_true]) | skip))) | ((first | with_reducible refine aord_nil ?_ | refine awp_skip ?_ | refine awp_exit ?_ | refine awp_ret ?_); try simp only [thenA_normal, thenA_exit, thenA_goto, thenA_ret, blockA_normal, blockA_same, blockA_exit, blockA_goto, blockA_ret, Nat.reduceEqDiff, if_false, if_true, reduceIte]) | (refine awp_region tabOk rfl ?_; simp only [prep, pickO, List.map_cons, List.map_nil, List.getElem?_toArray, List.getElem?_cons_succ, List.getElem?_cons_zero, Option.bind_some, Option.map_some]) | ((with_reducible apply awp_cond); (focus (simp only [St.ev, St.set, upd, Nat.reduceEqDiff, reduceIte, if_false, if_true]; exact rfl)); all_goals (intro hb; first | (cases hb; done) | ((try rw [hb]); (try simp only [decide_eq_true_eq, decide_eq_false_iff_not, beq_iff_eq, bne_iff_ne, beq_eq_false_iff_ne, bne_eq_false_iff_eq, Int.not_lt, Int.not_le, Bool.not_eq_true', Bool.not_eq_false'] at hb)))) | ((with_reducible refine And.intro ?_ ?_); (focus omega)) | ((with_reducible refine And.intro (?_ : enters Try.prog 6) ?_); (focus exact Try.call6); (refine callX_sat implMeasureOf_sat ?_); simp only [go_sem, and_assoc, List.nil_append, List.append_nil, List.cons_append, Nat.reduceEqDiff, reduceIte, reduceCtorEq, mat.matL, ba_lbeq, Value.string.injEq, hb, hv, hge, hz, hk, hsr, sq_beq, sq_bne, int_bne, beq_self_eq_true, Bool.true_and]) | ((with_reducible refine And.intro (?_ : enters Try.prog 7) ?_); (focus exact Try.call7); (refine callX_sat specMeasureOf_sat ?_); simp only [go_sem, and_assoc, List.nil_append, List.append_nil, List.cons_append, Nat.reduceEqDiff, reduceIte, reduceCtorEq, mat.matL, ba_lbeq, Value.string.injEq, hb, hv, hge, hz, hk, hsr, sq_beq, sq_bne, int_bne, beq_self_eq_true, Bool.true_and]) | ((with_reducible refine And.intro (?_ : enters Try.prog 8) ?_); (focus exact Try.call8); (refine callX_sat implIsSorted_sat ?_); simp only [go_sem, and_assoc, List.nil_append, List.append_nil, List.cons_append, Nat.reduceEqDiff, reduceIte, reduceCtorEq, mat.matL, ba_lbeq, Value.string.injEq, hb, hv, hge, hz, hk, hsr, sq_beq, sq_bne, int_bne, beq_self_eq_true, Bool.true_and]) | fail)
        have h9 : (true : Bool) = ((meaW k xs == 0) == false) := by rw [hz]; rfl
        all_goals (simp only [St.set, St.ev, doneQ, doneH, ressK, resK, wrapR, AV.ids, AV.idsL, retK, retsK, upd, Nat.reduceEqDiff, reduceIte, if_false, if_true, List.nodup_nil, List.nodup_cons, List.not_mem_nil, not_false_eq_true, true_and, and_true, exists_eq_left', Option.some.injEq, rLoad, cellOf, tab, Ty.isAgg, Ty.one, Bool.false_eq_true]; first | exact hQ | (rw [h9] at hQ; exact hQ))

end Go.Proofs.Ytcegfpkfhcjfcaa
