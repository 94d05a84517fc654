/- Contracts of functions of the program. -/
import Derived.Test.YtacmgdaonacmeaaPBQd
import Derived.ScopeJumps
namespace Go.Proofs.Ytacmgdaonacmeaa
open Go Go.Ab
set_option linter.all false
set_option maxHeartbeats 4000000

theorem factsOf_sat : SatH Try.prog 75 (fun al h n K => ∃ (bs : List Int) (L : Nat) (lim : Option Nat) (N : Int) (q : Nat), al = [.ref 1 0, .val (.int .i64 (N))] ∧ (n = 3) ∧ (h 0 = some ⟨false, .ints .u8 bs⟩) ∧ (h 1 = some ⟨true, .cells [.sl 0 0 L 1 lim, .val (.int .i64 q)]⟩) ∧ (L ≤ bs.length ∧ L ≤ 1099511627776) ∧ (bytesOk bs) ∧ (q ≤ 900000) ∧ (0 ≤ N ∧ N ≤ 5) ∧ ∀ (fs : List (Int × Int)) (r : Nat), fs.length ≤ 6 → r ≤ q + 60 → K (.sl 3 0 fs.length 2 none) (upd (upd h 1 (some ⟨true, .cells [.sl 0 0 L 1 lim, .val (.int .i64 r)]⟩)) 3 (some ⟨true, .ints .i64 (flF fs)⟩)) (4)) := by
  refine satH_intro tabOk Try.func75 rfl 47 rfl [.tmp 4] rfl ?_
  rintro F W h n al K0 ⟨bs, L, lim, N, q, rfl, hn, h0, h1, hL, hbs, hq, hN, hQ⟩
  refine ⟨Nat.le_of_ble_eq_true rfl, fun m0 hm0 hcl hlt => ?_⟩
  simp only [initT]
  subst hn
  repeat' (first | refine awp_seq_k fun K hK => ?_ | ((with_reducible refine hK _ ?_); clear hK K) | ((with_reducible refine aord_plain fun K hK => ?_); simp only [go_sem, Nat.reduceAdd, Nat.reduceMul, Nat.reduceEqDiff, Nat.reduceLT, reduceIte, reduceCtorEq, h0, h1]) | ((first | with_reducible refine aord_nil ?_ | refine awp_skip ?_ | refine awp_exit ?_ | refine awp_ret ?_); try simp only [rdA, Nat.reduceEqDiff, ifA, ifB, reduceIte]) | (refine awp_region tabOk rfl ?_; simp only [prep, pickO, lsA, lsB, lsC, lsD, lsE, lsF, lsG]) | fail)
  refine ⟨_, _, ⟨rfl, rfl⟩, Nat.le_of_ble_eq_true rfl, ?_⟩
  dsimp only
  repeat' (first | refine awp_seq_k fun K hK => ?_ | ((with_reducible refine hK _ ?_); clear hK K) | ((with_reducible refine aord_plain fun K hK => ?_); simp only [go_sem, Nat.reduceAdd, Nat.reduceMul, Nat.reduceEqDiff, Nat.reduceLT, reduceIte, reduceCtorEq, h0, h1]) | ((first | with_reducible refine aord_nil ?_ | refine awp_skip ?_ | refine awp_exit ?_ | refine awp_ret ?_); try simp only [rdA, Nat.reduceEqDiff, ifA, ifB, reduceIte]) | (refine awp_region tabOk rfl ?_; simp only [prep, pickO, lsA, lsB, lsC, lsD, lsE, lsF, lsG]) | ((with_reducible refine And.intro ?_ ?_); (focus omega)) | ((with_reducible refine And.intro (?_ : enters Try.prog 92) ?_); (focus exact Try.call92); (refine callX_satH aList_sat ?_); simp only [go_sem, and_assoc, List.nil_append, List.append_nil, List.cons_append, Nat.reduceEqDiff, reduceIte, reduceCtorEq, h0, h1]) | fail)
  refine ⟨L, lim, q, rfl, hL.1, hL.2, hbs, by omega, by omega, by omega, ?_⟩
  intro ys r0 hys hr0
  repeat' (first | refine awp_seq_k fun K hK => ?_ | ((with_reducible refine hK _ ?_); clear hK K) | ((with_reducible refine aord_plain fun K hK => ?_); simp only [go_sem, Nat.reduceAdd, Nat.reduceMul, Nat.reduceEqDiff, Nat.reduceLT, reduceIte, reduceCtorEq, h0, h1]) | ((first | with_reducible refine aord_nil ?_ | refine awp_skip ?_ | refine awp_exit ?_ | refine awp_ret ?_); try simp only [rdA, Nat.reduceEqDiff, ifA, ifB, reduceIte]) | (refine awp_region tabOk rfl ?_; simp only [prep, pickO, lsA, lsB, lsC, lsD, lsE, lsF, lsG]) | ((with_reducible refine And.intro ?_ ?_); (focus omega)) | ((with_reducible refine And.intro (?_ : enters Try.prog 63) ?_); (focus exact Try.call63); (refine callX_satH one_sat ?_); simp only [go_sem, and_assoc, List.nil_append, List.append_nil, List.cons_append, Nat.reduceEqDiff, reduceIte, reduceCtorEq, h0, h1]) | fail)
  refine ⟨L, lim, _, r0, rfl, hL.1, hL.2, hbs, rfl, rfl, by omega, by omega, by omega, ?_⟩
  intro v hv
  have hmo := (by decide : ∀ v, v < 6 → 0 ≤ ([2, 3, 1, 0, 4, 6] : List Int).getD v 0 ∧ ([2, 3, 1, 0, 4, 6] : List Int).getD v 0 ≤ 6) v hv
  generalize ([2, 3, 1, 0, 4, 6] : List Int).getD v 0 = mo at *
  repeat' (first | ((with_reducible refine hK _ ?_); clear hK K) | ((with_reducible refine aord_plain fun K hK => ?_); simp only [go_sem, Nat.reduceAdd, Nat.reduceMul, Nat.reduceEqDiff, Nat.reduceLT, reduceIte, reduceCtorEq, h0, h1]) | refine awp_block ?_ | ((first | with_reducible refine aord_nil ?_ | refine awp_skip ?_ | refine awp_exit ?_ | refine awp_ret ?_); try simp only [rdA, Nat.reduceEqDiff, ifA, ifB, reduceIte]) | fail)
  obtain ⟨m, rfl⟩ : ∃ m : Nat, mo = m := ⟨mo.toNat, by omega⟩
  refine awp_loopE (α := (List (Int × Int)) × (Nat) × (Nat)) (fun s p => ⟨(upd (upd (upd (upd (upd bot 0 (s.tmps 0)) 1 (s.tmps 1)) 5 (.sl 3 0 (p.1).length 2 none)) 6 (s.tmps 6)) 7 (.val (.int .i64 ((p.2.1))))), (upd (upd s.heap 3 (some ⟨true, .ints .i64 ((flF (p.1)))⟩)) 1 (some ⟨true, .cells ([.sl 0 0 L 1 lim, .val (.int .i64 ((p.2.2) : Nat))])⟩)), s.next⟩) _ (fun p => by simp only [St.ev, St.set, upd, Nat.reduceEqDiff, reduceIte, ifA, ifB]; exact rfl) (fun p => ((p.1).length + (p.2.1) ≤ 6) ∧ ((p.2.2) + 2 * (p.2.1) ≤ r0 + 20)) (fun p => (p.2.1)) ([], m, r0 + 1) ?_ ?_ ?_
  · (try simp only); (refine ⟨?_, ?_⟩ <;> (first | omega | (simp; omega)))
  · (apply Wk.over (id) 3; (case' h2 => (focus ((repeat' (first | (with_reducible exact HeapX.bot) | (exact HeapX.base (by first | exact hcl | assumption) (by first | exact Nat.le_refl _ | omega | (simp only; omega)) (fun k hk => by first | rfl | (simp only [id]; done) | ((repeat rw [if_neg (by omega)]); done)) (by intro u hu hlt'; first | rfl | (simp only [List.mem_cons, List.not_mem_nil, or_false, not_or] at hu; first | (simp [upd, hu]; done) | (simp only [upd]; (repeat rw [if_neg (by omega)]))))) | (with_reducible (apply HeapX.skip; (case hx => (simp; done)))) | (with_reducible apply HeapX.none) | (with_reducible apply HeapX.old (by first | assumption | omega) (by first | exact Nat.le_refl _ | omega | (simp only; omega)) (by first | rfl | (simp only [id]; done) | ((repeat rw [if_neg (by omega)]); done))) | (with_reducible apply HeapX.upd))); all_goals (first | rfl | omega | assumption | exact Nat.le_of_ble_eq_true rfl | (simp only; omega) | (simp only [St.set, St.ev, upd, ren, renL, id, Nat.reduceEqDiff, reduceIte]; rfl) | (simp only [St.set, St.ev, upd, ren, renL, id, Nat.reduceEqDiff, reduceIte, ContLe]; done) | (exact And.intro rfl (And.intro (by first | exact Nat.le_of_ble_eq_true rfl | omega) (by first | exact Nat.le_of_ble_eq_true rfl | omega))) | (first | (simp only [St.set, St.ev, upd, ren, renL, id, Nat.reduceEqDiff, reduceIte]; exact contLe_nil) | ((repeat' (first | exact contLe_nil | refine contLe_cons (.inr ⟨?_, rfl⟩) ?_ | exact contLe_refl (n0 := 3) (fun k hk => by first | rfl | (simp only [id]; done) | ((repeat rw [if_neg (by omega)]); done)) (by first | exact Nat.le_refl _ | omega | (simp only; omega)) (by assumption))); all_goals (first | rfl | (simp only [St.set, St.ev, upd, ren, renL, id, Nat.reduceEqDiff, reduceIte]; done) | ((try simp only [St.set, St.ev, upd, ren, renL, id, Nat.reduceEqDiff, reduceIte]); first | (with_reducible exact av_int (by omega)) | (with_reducible exact av_sl (by first | omega | (simp; done) | (simp; omega)) (by first | omega | (simp; done) | (simp; omega)))) | (simp only [St.set, St.ev, upd, ren, renL, id, Nat.reduceEqDiff, reduceIte, Int.natCast_add, Int.natCast_one, Int.cast_ofNat_Int, Int.natCast_zero]; done) | (simp only [St.set, St.ev, upd, ren, renL, id, Nat.reduceEqDiff, reduceIte]) | skip); done)) | (simp only [St.set, St.ev, upd, ren, renL, id, Nat.reduceEqDiff, reduceIte, ContLe]) | skip)))); (case' h1 => (focus ((repeat' (with_reducible first | exact TmpLe.bot | refine TmpLe.upd ?_ (by first | rfl | (simp only [AV.lt, decide_eq_true_eq]; first | done | omega)) ?_)); all_goals (first | rfl | (simp only [St.set, St.ev, upd, ren, renL, id, Nat.reduceEqDiff, reduceIte]; done) | ((try simp only [St.set, St.ev, upd, ren, renL, id, Nat.reduceEqDiff, reduceIte]); first | (with_reducible exact av_int (by omega)) | (with_reducible exact av_sl (by first | omega | (simp; done) | (simp; omega)) (by first | omega | (simp; done) | (simp; omega)))) | (simp only [St.set, St.ev, upd, ren, renL, id, Nat.reduceEqDiff, reduceIte, Int.natCast_add, Int.natCast_one, Int.cast_ofNat_Int, Int.natCast_zero]; done) | (simp only [St.set, St.ev, upd, ren, renL, id, Nat.reduceEqDiff, reduceIte]) | skip)))); (case h3 => (focus (first | (simp only [id, List.map_cons, List.map_nil]; decide) | decide | (simp; done) | (simp; omega) | fail))); (case h5 => (intro d hd; first | (simp at hd; done) | (simp only [List.mem_cons, List.not_mem_nil, or_false] at hd; first | (simp only [id]; omega) | (split <;> omega) | ((repeat' split) <;> omega) | ((try simp only); repeat' split; all_goals omega)))); (case h4 => (intro o l h; first | (cases h; done) | (have hlt0 := m0_lt (by assumption) h; (try (simp only at hlt0)); first | omega | (simp only; omega) | exact ⟨by (first | rfl | (simp only [id]; done) | ((repeat rw [if_neg (by omega)]); done)), by first | omega | (simp only; omega)⟩))))
  rintro ⟨fs, k, r⟩ ⟨hk, hr⟩
  try simp only at hk hr
  have hfl := flF_len fs
  repeat' ((fail_if_success (with_reducible refine isRet K0 ?_)); (first | refine awp_seq_k fun K hK => ?_ | ((with_reducible refine hK _ ?_); clear hK K) | (clear hK K; (with_reducible refine hK _ ?_); clear hK K) | ((with_reducible refine aord_plain fun K hK => ?_); simp only [go_sem, Nat.reduceAdd, Nat.reduceMul, Nat.reduceEqDiff, Nat.reduceLT, reduceIte, reduceCtorEq, h0, h1]) | ((with_reducible apply aord_guard); (focus (simp only [St.ev, St.set, upd, Nat.reduceEqDiff, reduceIte, ifA, ifB]; exact rfl)); all_goals (intro hb; (try simp only [Bool.not_true, Bool.not_false] at hb); first | (cases hb; done) | ((try rw [hb]); (try simp only [Bool.not_eq_true', Bool.not_eq_false', Bool.and_eq_true, dcA, dcB, dcC, dcD, dcE] at hb); (try (revert hb; with_reducible refine true_imp_iff.2 ?_)); first | (intro K hK; simp only [go_sem, Nat.reduceAdd, Nat.reduceMul, Nat.reduceEqDiff, Nat.reduceLT, reduceIte, reduceCtorEq]) | (simp only [St.ev, St.set, upd, Nat.reduceEqDiff, reduceIte, ifA, ifB]) | skip))) | refine awp_block ?_ | ((first | with_reducible refine aord_nil ?_ | refine awp_skip ?_ | refine awp_exit ?_ | refine awp_ret ?_); try simp only [rdA, Nat.reduceEqDiff, ifA, ifB, reduceIte]) | (refine awp_region tabOk rfl ?_; simp only [prep, pickO, lsA, lsB, lsC, lsD, lsE, lsF, lsG]) | ((with_reducible apply awp_cond); (focus (simp only [St.ev, St.set, upd, Nat.reduceEqDiff, reduceIte, ifA, ifB]; exact rfl)); all_goals (intro hb; first | (cases hb; done) | ((try rw [hb]); (try simp only [dcA, dcB, dcC, dcD, dcE, Bool.not_eq_true', Bool.not_eq_false'] at hb)))) | ((with_reducible refine And.intro (?_ : enters Try.prog 49) ?_); (focus exact Try.call49); (refine callX_satH pick_sat ?_); simp only [go_sem, and_assoc, List.nil_append, List.append_nil, List.cons_append, Nat.reduceEqDiff, reduceIte, reduceCtorEq, h0, h1]) | fail))
  · refine ⟨L, lim, r, rfl, hL.1, hL.2, hbs, by omega, by omega, ?_⟩
    intro a ha0 ha1
    repeat' (first | refine awp_seq_k fun K hK => ?_ | ((with_reducible refine hK _ ?_); clear hK K) | ((with_reducible refine aord_plain fun K hK => ?_); simp only [go_sem, Nat.reduceAdd, Nat.reduceMul, Nat.reduceEqDiff, Nat.reduceLT, reduceIte, reduceCtorEq, h0, h1]) | ((first | with_reducible refine aord_nil ?_ | refine awp_skip ?_ | refine awp_exit ?_ | refine awp_ret ?_); try simp only [rdA, Nat.reduceEqDiff, ifA, ifB, reduceIte]) | (refine awp_region tabOk rfl ?_; simp only [prep, pickO, lsA, lsB, lsC, lsD, lsE, lsF, lsG]) | ((with_reducible refine And.intro (?_ : enters Try.prog 49) ?_); (focus exact Try.call49); (refine callX_satH pick_sat ?_); simp only [go_sem, and_assoc, List.nil_append, List.append_nil, List.cons_append, Nat.reduceEqDiff, reduceIte, reduceCtorEq, h0, h1]) | fail)
    refine ⟨L, lim, r + 1, rfl, hL.1, hL.2, hbs, by omega, by omega, ?_⟩
    intro c hc0 hc1
    repeat' (first | refine awp_seq_k fun K hK => ?_ | ((with_reducible refine hK _ ?_); clear hK K) | ((with_reducible refine aord_plain fun K hK => ?_); simp only [go_sem, Nat.reduceAdd, Nat.reduceMul, Nat.reduceEqDiff, Nat.reduceLT, reduceIte, reduceCtorEq, h0, h1]) | ((first | with_reducible refine aord_nil ?_ | refine awp_skip ?_ | refine awp_exit ?_ | refine awp_ret ?_); try simp only [rdA, Nat.reduceEqDiff, ifA, ifB, reduceIte]) | (refine awp_region tabOk rfl ?_; simp only [prep, pickO, lsA, lsB, lsC, lsD, lsE, lsF, lsG]) | (refine awp_region_draw (nt := 47) (id := 9) tabOk [(0, true, false), (1, true, false), (2, true, false), (3, true, false), (4, true, false), (5, true, false), (6, true, false), (7, true, false), (8, true, false), (9, true, false), (10, false, false), (11, false, true), (12, true, false)] (by kernel_rfl) rfl (by kernel_rfl) ?_; simp only [prep, pickO, lsA, lsB, lsC, lsD, lsE, lsF, lsG]) | ((with_reducible apply awp_cond); (focus (simp only [St.ev, St.set, upd, Nat.reduceEqDiff, reduceIte, ifA, ifB]; exact rfl)); all_goals (intro hb; first | (cases hb; done) | ((try rw [hb]); (try simp only [dcA, dcB, dcC, dcD, dcE, Bool.not_eq_true', Bool.not_eq_false'] at hb)))) | ((with_reducible refine And.intro ?_ ?_); (focus omega)) | (simp only [rBuild]; simp only [fillA, Nat.reduceLeDiff, List.getElem?_cons_zero, List.getElem?_cons_succ, List.drop_succ_cons, List.drop_nil, List.take_nil, List.cons_append, Option.isSome_some, go_sem, Nat.reduceAdd, Nat.reduceMul, Nat.reduceEqDiff, Nat.reduceLT, reduceIte, reduceCtorEq]) | fail)
    · refine ⟨_, _, ⟨rfl, rfl⟩, Nat.le_of_ble_eq_true rfl, ?_⟩
      (try dsimp only)
      repeat' (first | ((with_reducible refine hK _ ?_); clear hK K) | ((with_reducible refine aord_plain fun K hK => ?_); simp only [go_sem, Nat.reduceAdd, Nat.reduceMul, Nat.reduceEqDiff, Nat.reduceLT, reduceIte, reduceCtorEq, h0, h1]) | fail)
      refine aAppendE_ints rfl rfl rfl rfl (Nat.le_of_ble_eq_true rfl) (by decide) (by decide) (by (try dsimp only); (repeat (first | rw [upd_same] | rw [upd_ne _ _ (by omega)]))) (by (try dsimp only); (repeat (first | rw [upd_same] | rw [upd_ne _ _ (by omega)]))) hfl rfl (by decide) (by omega) ?_
      repeat' (first | ((with_reducible refine hK _ ?_); clear hK K) | ((with_reducible refine aord_plain fun K hK => ?_); simp only [go_sem, Nat.reduceAdd, Nat.reduceMul, Nat.reduceEqDiff, Nat.reduceLT, reduceIte, reduceCtorEq, h0, h1]) | ((first | with_reducible refine aord_nil ?_ | refine awp_skip ?_ | refine awp_exit ?_ | refine awp_ret ?_); try simp only [rdA, Nat.reduceEqDiff, ifA, ifB, reduceIte]) | (refine awp_region tabOk rfl ?_; simp only [prep, pickO, lsA, lsB, lsC, lsD, lsE, lsF, lsG]) | ((with_reducible refine And.intro ?_ ?_); (focus omega)) | fail)
      have e2 : flF fs ++ [ys.getD a.toNat 0, ys.getD c.toNat 0] = flF (fs ++ [(ys.getD a.toNat 0, ys.getD c.toNat 0)]) := by rw [flF_app]; rfl
      have e3 : fs.length + 1 = (fs ++ [(ys.getD a.toNat 0, ys.getD c.toNat 0)]).length := by rw [List.length_append]; rfl
      rw [e2, e3]
      generalize fs ++ [(ys.getD a.toNat 0, ys.getD c.toNat 0)] = fs2 at *
      ((refine Exists.intro (fs2, k - 1, r + 2) ?_); (refine nxt ?_ ?_ ?_); (focus ((apply Wk.over (fun o => if o = 3 then 7 else o) 3; (case' h2 => (focus ((repeat' (first | (with_reducible exact HeapX.bot) | (exact HeapX.base (by first | exact hcl | assumption) (by first | exact Nat.le_refl _ | omega | (simp only; omega)) (fun k hk => by first | rfl | (simp only [id]; done) | ((repeat rw [if_neg (by omega)]); done)) (by intro u hu hlt'; first | rfl | (simp only [List.mem_cons, List.not_mem_nil, or_false, not_or] at hu; first | (simp [upd, hu]; done) | (simp only [upd]; (repeat rw [if_neg (by omega)]))))) | (with_reducible (apply HeapX.skip; (case hx => (simp; done)))) | (with_reducible apply HeapX.none) | (with_reducible apply HeapX.old (by first | assumption | omega) (by first | exact Nat.le_refl _ | omega | (simp only; omega)) (by first | rfl | (simp only [id]; done) | ((repeat rw [if_neg (by omega)]); done))) | (with_reducible apply HeapX.upd))); all_goals (first | rfl | omega | assumption | exact Nat.le_of_ble_eq_true rfl | (simp only; omega) | (simp only [St.set, St.ev, upd, ren, renL, id, Nat.reduceEqDiff, reduceIte]; rfl) | (simp only [St.set, St.ev, upd, ren, renL, id, Nat.reduceEqDiff, reduceIte, ContLe]; done) | (exact And.intro rfl (And.intro (by first | exact Nat.le_of_ble_eq_true rfl | omega) (by first | exact Nat.le_of_ble_eq_true rfl | omega))) | (first | (simp only [St.set, St.ev, upd, ren, renL, id, Nat.reduceEqDiff, reduceIte]; exact contLe_nil) | ((repeat' (first | exact contLe_nil | refine contLe_cons (.inr ⟨?_, rfl⟩) ?_ | exact contLe_refl (n0 := 3) (fun k hk => by first | rfl | (simp only [id]; done) | ((repeat rw [if_neg (by omega)]); done)) (by first | exact Nat.le_refl _ | omega | (simp only; omega)) (by assumption))); all_goals (first | rfl | (simp only [St.set, St.ev, upd, ren, renL, id, Nat.reduceEqDiff, reduceIte]; done) | ((try simp only [St.set, St.ev, upd, ren, renL, id, Nat.reduceEqDiff, reduceIte]); first | (with_reducible exact av_int (by omega)) | (with_reducible exact av_sl (by first | omega | (simp; done) | (simp; omega)) (by first | omega | (simp; done) | (simp; omega)))) | (simp only [St.set, St.ev, upd, ren, renL, id, Nat.reduceEqDiff, reduceIte, Int.natCast_add, Int.natCast_one, Int.cast_ofNat_Int, Int.natCast_zero]; done) | (simp only [St.set, St.ev, upd, ren, renL, id, Nat.reduceEqDiff, reduceIte]) | skip); done)) | (simp only [St.set, St.ev, upd, ren, renL, id, Nat.reduceEqDiff, reduceIte, ContLe]) | skip)))); (case' h1 => (focus ((repeat' (with_reducible first | exact TmpLe.bot | refine TmpLe.upd ?_ (by first | rfl | (simp only [AV.lt, decide_eq_true_eq]; first | done | omega)) ?_)); all_goals (first | rfl | (simp only [St.set, St.ev, upd, ren, renL, id, Nat.reduceEqDiff, reduceIte]; done) | ((try simp only [St.set, St.ev, upd, ren, renL, id, Nat.reduceEqDiff, reduceIte]); first | (with_reducible exact av_int (by omega)) | (with_reducible exact av_sl (by first | omega | (simp; done) | (simp; omega)) (by first | omega | (simp; done) | (simp; omega)))) | (simp only [St.set, St.ev, upd, ren, renL, id, Nat.reduceEqDiff, reduceIte, Int.natCast_add, Int.natCast_one, Int.cast_ofNat_Int, Int.natCast_zero]; done) | (simp only [St.set, St.ev, upd, ren, renL, id, Nat.reduceEqDiff, reduceIte]) | skip)))); (case h3 => (focus (first | (simp only [id, List.map_cons, List.map_nil]; decide) | decide | (simp; done) | (simp; omega) | fail))); (case h5 => (intro d hd; first | (simp at hd; done) | (simp only [List.mem_cons, List.not_mem_nil, or_false] at hd; first | (simp only [id]; omega) | (split <;> omega) | ((repeat' split) <;> omega) | ((try simp only); repeat' split; all_goals omega)))); (case h4 => (intro o l h; first | (cases h; done) | (have hlt0 := m0_lt (by assumption) h; (try (simp only at hlt0)); first | omega | (simp only; omega) | exact ⟨by (first | rfl | (simp only [id]; done) | ((repeat rw [if_neg (by omega)]); done)), by first | omega | (simp only; omega)⟩)))))); (focus (first | omega | (simp only; omega) | (simp only [List.length_take]; omega) | (simp; done) | (simp; omega))); ((repeat' (with_reducible apply And.intro)) <;> (first | omega | (simp only; omega) | assumption | rfl | (simp only))))
    · ((refine Exists.intro (fs, k - 1, r + 2) ?_); (refine nxt ?_ ?_ ?_); (focus ((apply Wk.over (id) 3; (case' h2 => (focus ((repeat' (first | (with_reducible exact HeapX.bot) | (exact HeapX.base (by first | exact hcl | assumption) (by first | exact Nat.le_refl _ | omega | (simp only; omega)) (fun k hk => by first | rfl | (simp only [id]; done) | ((repeat rw [if_neg (by omega)]); done)) (by intro u hu hlt'; first | rfl | (simp only [List.mem_cons, List.not_mem_nil, or_false, not_or] at hu; first | (simp [upd, hu]; done) | (simp only [upd]; (repeat rw [if_neg (by omega)]))))) | (with_reducible (apply HeapX.skip; (case hx => (simp; done)))) | (with_reducible apply HeapX.none) | (with_reducible apply HeapX.old (by first | assumption | omega) (by first | exact Nat.le_refl _ | omega | (simp only; omega)) (by first | rfl | (simp only [id]; done) | ((repeat rw [if_neg (by omega)]); done))) | (with_reducible apply HeapX.upd))); all_goals (first | rfl | omega | assumption | exact Nat.le_of_ble_eq_true rfl | (simp only; omega) | (simp only [St.set, St.ev, upd, ren, renL, id, Nat.reduceEqDiff, reduceIte]; rfl) | (simp only [St.set, St.ev, upd, ren, renL, id, Nat.reduceEqDiff, reduceIte, ContLe]; done) | (exact And.intro rfl (And.intro (by first | exact Nat.le_of_ble_eq_true rfl | omega) (by first | exact Nat.le_of_ble_eq_true rfl | omega))) | (first | (simp only [St.set, St.ev, upd, ren, renL, id, Nat.reduceEqDiff, reduceIte]; exact contLe_nil) | ((repeat' (first | exact contLe_nil | refine contLe_cons (.inr ⟨?_, rfl⟩) ?_ | exact contLe_refl (n0 := 3) (fun k hk => by first | rfl | (simp only [id]; done) | ((repeat rw [if_neg (by omega)]); done)) (by first | exact Nat.le_refl _ | omega | (simp only; omega)) (by assumption))); all_goals (first | rfl | (simp only [St.set, St.ev, upd, ren, renL, id, Nat.reduceEqDiff, reduceIte]; done) | ((try simp only [St.set, St.ev, upd, ren, renL, id, Nat.reduceEqDiff, reduceIte]); first | (with_reducible exact av_int (by omega)) | (with_reducible exact av_sl (by first | omega | (simp; done) | (simp; omega)) (by first | omega | (simp; done) | (simp; omega)))) | (simp only [St.set, St.ev, upd, ren, renL, id, Nat.reduceEqDiff, reduceIte, Int.natCast_add, Int.natCast_one, Int.cast_ofNat_Int, Int.natCast_zero]; done) | (simp only [St.set, St.ev, upd, ren, renL, id, Nat.reduceEqDiff, reduceIte]) | skip); done)) | (simp only [St.set, St.ev, upd, ren, renL, id, Nat.reduceEqDiff, reduceIte, ContLe]) | skip)))); (case' h1 => (focus ((repeat' (with_reducible first | exact TmpLe.bot | refine TmpLe.upd ?_ (by first | rfl | (simp only [AV.lt, decide_eq_true_eq]; first | done | omega)) ?_)); all_goals (first | rfl | (simp only [St.set, St.ev, upd, ren, renL, id, Nat.reduceEqDiff, reduceIte]; done) | ((try simp only [St.set, St.ev, upd, ren, renL, id, Nat.reduceEqDiff, reduceIte]); first | (with_reducible exact av_int (by omega)) | (with_reducible exact av_sl (by first | omega | (simp; done) | (simp; omega)) (by first | omega | (simp; done) | (simp; omega)))) | (simp only [St.set, St.ev, upd, ren, renL, id, Nat.reduceEqDiff, reduceIte, Int.natCast_add, Int.natCast_one, Int.cast_ofNat_Int, Int.natCast_zero]; done) | (simp only [St.set, St.ev, upd, ren, renL, id, Nat.reduceEqDiff, reduceIte]) | skip)))); (case h3 => (focus (first | (simp only [id, List.map_cons, List.map_nil]; decide) | decide | (simp; done) | (simp; omega) | fail))); (case h5 => (intro d hd; first | (simp at hd; done) | (simp only [List.mem_cons, List.not_mem_nil, or_false] at hd; first | (simp only [id]; omega) | (split <;> omega) | ((repeat' split) <;> omega) | ((try simp only); repeat' split; all_goals omega)))); (case h4 => (intro o l h; first | (cases h; done) | (have hlt0 := m0_lt (by assumption) h; (try (simp only at hlt0)); first | omega | (simp only; omega) | exact ⟨by (first | rfl | (simp only [id]; done) | ((repeat rw [if_neg (by omega)]); done)), by first | omega | (simp only; omega)⟩)))))); (focus (first | omega | (simp only; omega) | (simp only [List.length_take]; omega) | (simp; done) | (simp; omega))); ((repeat' (with_reducible apply And.intro)) <;> (first | omega | (simp only; omega) | assumption | rfl | (simp only))))
  all_goals (
    refine awp_weaken (s' := ⟨upd bot 4 (.sl 3 0 fs.length 2 none), upd (upd h 1 (some ⟨true, .cells [.sl 0 0 L 1 lim, .val (.int .i64 r)]⟩)) 3 (some ⟨true, .ints .i64 (flF fs)⟩), 4⟩) ?_ ?_
    · (apply Wk.over (id) 3; (case' h2 => (focus ((repeat' (first | (with_reducible exact HeapX.bot) | (exact HeapX.base (by first | exact hcl | assumption) (by first | exact Nat.le_refl _ | omega | (simp only; omega)) (fun k hk => by first | rfl | (simp only [id]; done) | ((repeat rw [if_neg (by omega)]); done)) (by intro u hu hlt'; first | rfl | (simp only [List.mem_cons, List.not_mem_nil, or_false, not_or] at hu; first | (simp [upd, hu]; done) | (simp only [upd]; (repeat rw [if_neg (by omega)]))))) | (with_reducible (apply HeapX.skip; (case hx => (simp; done)))) | (with_reducible apply HeapX.none) | (with_reducible apply HeapX.old (by first | assumption | omega) (by first | exact Nat.le_refl _ | omega | (simp only; omega)) (by first | rfl | (simp only [id]; done) | ((repeat rw [if_neg (by omega)]); done))) | (with_reducible apply HeapX.upd))); all_goals (first | rfl | omega | assumption | exact Nat.le_of_ble_eq_true rfl | (simp only; omega) | (simp only [St.set, St.ev, upd, ren, renL, id, Nat.reduceEqDiff, reduceIte]; rfl) | (simp only [St.set, St.ev, upd, ren, renL, id, Nat.reduceEqDiff, reduceIte, ContLe]; done) | (exact And.intro rfl (And.intro (by first | exact Nat.le_of_ble_eq_true rfl | omega) (by first | exact Nat.le_of_ble_eq_true rfl | omega))) | (first | (simp only [St.set, St.ev, upd, ren, renL, id, Nat.reduceEqDiff, reduceIte]; exact contLe_nil) | ((repeat' (first | exact contLe_nil | refine contLe_cons (.inr ⟨?_, rfl⟩) ?_ | exact contLe_refl (n0 := 3) (fun k hk => by first | rfl | (simp only [id]; done) | ((repeat rw [if_neg (by omega)]); done)) (by first | exact Nat.le_refl _ | omega | (simp only; omega)) (by assumption))); all_goals (first | rfl | (simp only [St.set, St.ev, upd, ren, renL, id, Nat.reduceEqDiff, reduceIte]; done) | ((try simp only [St.set, St.ev, upd, ren, renL, id, Nat.reduceEqDiff, reduceIte]); first | (with_reducible exact av_int (by omega)) | (with_reducible exact av_sl (by first | omega | (simp; done) | (simp; omega)) (by first | omega | (simp; done) | (simp; omega)))) | (simp only [St.set, St.ev, upd, ren, renL, id, Nat.reduceEqDiff, reduceIte, Int.natCast_add, Int.natCast_one, Int.cast_ofNat_Int, Int.natCast_zero]; done) | (simp only [St.set, St.ev, upd, ren, renL, id, Nat.reduceEqDiff, reduceIte]) | skip); done)) | (simp only [St.set, St.ev, upd, ren, renL, id, Nat.reduceEqDiff, reduceIte, ContLe]) | skip)))); (case' h1 => (focus ((repeat' (with_reducible first | exact TmpLe.bot | refine TmpLe.upd ?_ (by first | rfl | (simp only [AV.lt, decide_eq_true_eq]; first | done | omega)) ?_)); all_goals (first | rfl | (simp only [St.set, St.ev, upd, ren, renL, id, Nat.reduceEqDiff, reduceIte]; done) | ((try simp only [St.set, St.ev, upd, ren, renL, id, Nat.reduceEqDiff, reduceIte]); first | (with_reducible exact av_int (by omega)) | (with_reducible exact av_sl (by first | omega | (simp; done) | (simp; omega)) (by first | omega | (simp; done) | (simp; omega)))) | (simp only [St.set, St.ev, upd, ren, renL, id, Nat.reduceEqDiff, reduceIte, Int.natCast_add, Int.natCast_one, Int.cast_ofNat_Int, Int.natCast_zero]; done) | (simp only [St.set, St.ev, upd, ren, renL, id, Nat.reduceEqDiff, reduceIte]) | skip)))); (case h3 => (focus (first | (simp only [id, List.map_cons, List.map_nil]; decide) | decide | (simp; done) | (simp; omega) | fail))); (case h5 => (intro d hd; first | (simp at hd; done) | (simp only [List.mem_cons, List.not_mem_nil, or_false] at hd; first | (simp only [id]; omega) | (split <;> omega) | ((repeat' split) <;> omega) | ((try simp only); repeat' split; all_goals omega)))); (case h4 => (intro o l h; first | (cases h; done) | (have hlt0 := m0_lt (by assumption) h; (try (simp only at hlt0)); first | omega | (simp only; omega) | exact ⟨by (first | rfl | (simp only [id]; done) | ((repeat rw [if_neg (by omega)]); done)), by first | omega | (simp only; omega)⟩))))
    repeat' (first | ((first | with_reducible refine aord_nil ?_ | refine awp_skip ?_ | refine awp_exit ?_ | refine awp_ret ?_); try simp only [rdA, Nat.reduceEqDiff, ifA, ifB, reduceIte]) | (simp only [doneH]; simp only [ressK, resK, wrapR, go_sem, Nat.reduceAdd, Nat.reduceMul, Nat.reduceEqDiff, Nat.reduceLT, reduceIte, reduceCtorEq]) | fail)
    exact hQ fs r (by omega) (by omega))

theorem someFacts_sat : SatH Try.prog 40 (fun al h n K => ∃ (bs : List Int) (L : Nat) (lim : Option Nat) (q : Nat), al = [.ref 1 0, .val (.int .i64 (5))] ∧ (n = 2) ∧ (h 0 = some ⟨false, .ints .u8 bs⟩) ∧ (h 1 = some ⟨true, .cells [.sl 0 0 L 1 lim, .val (.int .i64 q)]⟩) ∧ (L ≤ bs.length ∧ L ≤ 1099511627776) ∧ (bytesOk bs) ∧ (q ≤ 800000) ∧ ∀ (z : Int) (fs : List (Int × Int)) (r : Nat), -1 ≤ z ∧ z ≤ 6 → fs.length ≤ 8 → r ≤ q + 80 → K (.tup [.val (.int .i64 z), .sl 2 0 fs.length 2 none]) (upd (upd h 1 (some ⟨true, .cells [.sl 0 0 L 1 lim, .val (.int .i64 r)]⟩)) 2 (some ⟨true, .ints .i64 (flF fs)⟩)) (3)) := by
  refine satH_intro tabOk Try.func40 rfl 45 rfl [.tmp 4, .tmp 5] rfl ?_
  rintro F W h n al K0 ⟨bs, L, lim, q, rfl, hn, h0, h1, hL, hbs, hq, hQ⟩
  refine ⟨Nat.le_of_ble_eq_true rfl, fun m0 hm0 hcl hlt => ?_⟩
  simp only [initT]
  subst hn
  repeat' (first | refine awp_seq_k fun K hK => ?_ | ((with_reducible refine hK _ ?_); clear hK K) | ((with_reducible refine aord_plain fun K hK => ?_); simp only [go_sem, Nat.reduceAdd, Nat.reduceMul, Nat.reduceEqDiff, Nat.reduceLT, reduceIte, reduceCtorEq, h0, h1]) | ((first | with_reducible refine aord_nil ?_ | refine awp_skip ?_ | refine awp_exit ?_ | refine awp_ret ?_); try simp only [rdA, Nat.reduceEqDiff, ifA, ifB, reduceIte]) | (refine awp_region tabOk rfl ?_; simp only [prep, pickO, lsA, lsB, lsC, lsD, lsE, lsF, lsG]) | ((with_reducible refine And.intro ?_ ?_); (focus omega)) | ((with_reducible refine And.intro (?_ : enters Try.prog 63) ?_); (focus exact Try.call63); (refine callX_satH one_sat ?_); simp only [go_sem, and_assoc, List.nil_append, List.append_nil, List.cons_append, Nat.reduceEqDiff, reduceIte, reduceCtorEq, h0, h1]) | fail)
  refine ⟨L, lim, _, q, rfl, hL.1, hL.2, hbs, rfl, rfl, by omega, by omega, by omega, ?_⟩
  intro v hv
  have hmo := (by decide : ∀ v, v < 6 → 0 ≤ ([3, 4, 5, 2, 1, 0] : List Int).getD v 0 ∧ ([3, 4, 5, 2, 1, 0] : List Int).getD v 0 ≤ 5) v hv
  generalize ([3, 4, 5, 2, 1, 0] : List Int).getD v 0 = N at *
  repeat' (first | refine awp_seq_k fun K hK => ?_ | ((with_reducible refine hK _ ?_); clear hK K) | ((with_reducible refine aord_plain fun K hK => ?_); simp only [go_sem, Nat.reduceAdd, Nat.reduceMul, Nat.reduceEqDiff, Nat.reduceLT, reduceIte, reduceCtorEq, h0, h1]) | ((first | with_reducible refine aord_nil ?_ | refine awp_skip ?_ | refine awp_exit ?_ | refine awp_ret ?_); try simp only [rdA, Nat.reduceEqDiff, ifA, ifB, reduceIte]) | (refine awp_region tabOk rfl ?_; simp only [prep, pickO, lsA, lsB, lsC, lsD, lsE, lsF, lsG]) | ((with_reducible refine And.intro (?_ : enters Try.prog 75) ?_); (focus exact Try.call75); (refine callX_satH factsOf_sat ?_); simp only [go_sem, and_assoc, List.nil_append, List.append_nil, List.cons_append, Nat.reduceEqDiff, reduceIte, reduceCtorEq, h0, h1]) | fail)
  refine ⟨L, lim, q + 1, rfl, hL.1, hL.2, hbs, by omega, by omega, by omega, ?_⟩
  intro fs r hfs hr
  have hfl := flF_len fs
  repeat' (first | refine awp_seq_k fun K hK => ?_ | ((with_reducible refine hK _ ?_); clear hK K) | ((with_reducible refine aord_plain fun K hK => ?_); simp only [go_sem, Nat.reduceAdd, Nat.reduceMul, Nat.reduceEqDiff, Nat.reduceLT, reduceIte, reduceCtorEq, h0, h1]) | ((first | with_reducible refine aord_nil ?_ | refine awp_skip ?_ | refine awp_exit ?_ | refine awp_ret ?_); try simp only [rdA, Nat.reduceEqDiff, ifA, ifB, reduceIte]) | (refine awp_region tabOk rfl ?_; simp only [prep, pickO, lsA, lsB, lsC, lsD, lsE, lsF, lsG]) | ((with_reducible refine And.intro (?_ : enters Try.prog 49) ?_); (focus exact Try.call49); (refine callX_satH pick_sat ?_); simp only [go_sem, and_assoc, List.nil_append, List.append_nil, List.cons_append, Nat.reduceEqDiff, reduceIte, reduceCtorEq, h0, h1]) | fail)
  refine ⟨L, lim, r, rfl, hL.1, hL.2, hbs, by omega, by omega, ?_⟩
  intro w hw0 hw1
  repeat' ((fail_if_success (with_reducible refine isRetQ ?_)); (first | refine awp_seq_k fun K hK => ?_ | ((with_reducible refine hK _ ?_); clear hK K) | ((with_reducible refine aord_plain fun K hK => ?_); simp only [go_sem, Nat.reduceAdd, Nat.reduceMul, Nat.reduceEqDiff, Nat.reduceLT, reduceIte, reduceCtorEq, h0, h1]) | refine awp_block ?_ | ((first | with_reducible refine aord_nil ?_ | refine awp_skip ?_ | refine awp_exit ?_ | refine awp_ret ?_); try simp only [rdA, Nat.reduceEqDiff, ifA, ifB, reduceIte]) | (refine awp_region tabOk rfl ?_; simp only [prep, pickO, lsA, lsB, lsC, lsD, lsE, lsF, lsG]) | ((with_reducible apply awp_cond); (focus (simp only [St.ev, St.set, upd, Nat.reduceEqDiff, reduceIte, ifA, ifB]; exact rfl)); all_goals (intro hb; first | (cases hb; done) | ((try rw [hb]); (try simp only [dcA, dcB, dcC, dcD, dcE, Bool.not_eq_true', Bool.not_eq_false'] at hb)))) | ((with_reducible refine And.intro ?_ ?_); (focus omega)) | ((with_reducible refine And.intro (?_ : enters Try.prog 63) ?_); (focus exact Try.call63); (refine callX_satH one_sat ?_); simp only [go_sem, and_assoc, List.nil_append, List.append_nil, List.cons_append, Nat.reduceEqDiff, reduceIte, reduceCtorEq, h0, h1]) | (simp only [rBuild]; simp only [fillA, Nat.reduceLeDiff, List.getElem?_cons_zero, List.getElem?_cons_succ, List.drop_succ_cons, List.drop_nil, List.take_nil, List.cons_append, Option.isSome_some, go_sem, Nat.reduceAdd, Nat.reduceMul, Nat.reduceEqDiff, Nat.reduceLT, reduceIte, reduceCtorEq]) | fail))
  · refine ⟨L, lim, _, r + 1, rfl, hL.1, hL.2, hbs, rfl, rfl, by omega, by omega, by omega, ?_⟩
    intro u hu
    have hz : -1 ≤ ([-1, 6, N + 1] : List Int).getD u 0 ∧ ([-1, 6, N + 1] : List Int).getD u 0 ≤ 6 := by
      rcases (show u = 0 ∨ u = 1 ∨ u = 2 by omega) with rfl | rfl | rfl <;> simp <;> omega
    generalize ([-1, 6, N + 1] : List Int).getD u 0 = z at *
    repeat' ((fail_if_success (with_reducible refine isRetQ ?_)); (first | ((with_reducible refine hK _ ?_); clear hK K) | ((with_reducible refine aord_plain fun K hK => ?_); simp only [go_sem, Nat.reduceAdd, Nat.reduceMul, Nat.reduceEqDiff, Nat.reduceLT, reduceIte, reduceCtorEq, h0, h1]) | ((first | with_reducible refine aord_nil ?_ | refine awp_skip ?_ | refine awp_exit ?_ | refine awp_ret ?_); try simp only [rdA, Nat.reduceEqDiff, ifA, ifB, reduceIte]) | fail))
    refine awp_weaken (s' := ⟨upd (upd bot 4 (.val (.int .i64 z))) 5 (.sl 2 0 fs.length 2 none), upd (upd h 1 (some ⟨true, .cells [.sl 0 0 L 1 lim, .val (.int .i64 ((r + 2 : Nat) : Int))]⟩)) 2 (some ⟨true, .ints .i64 (flF fs)⟩), 3⟩) ?_ ?_
    · (apply Wk.over (fun o => if o = 2 then 3 else o) 2; (case' h2 => (focus ((repeat' (first | (with_reducible exact HeapX.bot) | (exact HeapX.base (by first | exact hcl | assumption) (by first | exact Nat.le_refl _ | omega | (simp only; omega)) (fun k hk => by first | rfl | (simp only [id]; done) | ((repeat rw [if_neg (by omega)]); done)) (by intro u hu hlt'; first | rfl | (simp only [List.mem_cons, List.not_mem_nil, or_false, not_or] at hu; first | (simp [upd, hu]; done) | (simp only [upd]; (repeat rw [if_neg (by omega)]))))) | (with_reducible (apply HeapX.skip; (case hx => (simp; done)))) | (with_reducible apply HeapX.none) | (with_reducible apply HeapX.old (by first | assumption | omega) (by first | exact Nat.le_refl _ | omega | (simp only; omega)) (by first | rfl | (simp only [id]; done) | ((repeat rw [if_neg (by omega)]); done))) | (with_reducible apply HeapX.upd))); all_goals (first | rfl | omega | assumption | exact Nat.le_of_ble_eq_true rfl | (simp only; omega) | (simp only [St.set, St.ev, upd, ren, renL, id, Nat.reduceEqDiff, reduceIte]; rfl) | (simp only [St.set, St.ev, upd, ren, renL, id, Nat.reduceEqDiff, reduceIte, ContLe]; done) | (exact And.intro rfl (And.intro (by first | exact Nat.le_of_ble_eq_true rfl | omega) (by first | exact Nat.le_of_ble_eq_true rfl | omega))) | (first | (simp only [St.set, St.ev, upd, ren, renL, id, Nat.reduceEqDiff, reduceIte]; exact contLe_nil) | ((repeat' (first | exact contLe_nil | refine contLe_cons (.inr ⟨?_, rfl⟩) ?_ | exact contLe_refl (n0 := 2) (fun k hk => by first | rfl | (simp only [id]; done) | ((repeat rw [if_neg (by omega)]); done)) (by first | exact Nat.le_refl _ | omega | (simp only; omega)) (by assumption))); all_goals (first | rfl | (simp only [St.set, St.ev, upd, ren, renL, id, Nat.reduceEqDiff, reduceIte]; done) | ((try simp only [St.set, St.ev, upd, ren, renL, id, Nat.reduceEqDiff, reduceIte]); first | (with_reducible exact av_int (by omega)) | (with_reducible exact av_sl (by first | omega | (simp; done) | (simp; omega)) (by first | omega | (simp; done) | (simp; omega)))) | (simp only [St.set, St.ev, upd, ren, renL, id, Nat.reduceEqDiff, reduceIte, Int.natCast_add, Int.natCast_one, Int.cast_ofNat_Int, Int.natCast_zero]; done) | (simp only [St.set, St.ev, upd, ren, renL, id, Nat.reduceEqDiff, reduceIte]) | skip); done)) | (simp only [St.set, St.ev, upd, ren, renL, id, Nat.reduceEqDiff, reduceIte, ContLe]) | skip)))); (case' h1 => (focus ((repeat' (with_reducible first | exact TmpLe.bot | refine TmpLe.upd ?_ (by first | rfl | (simp only [AV.lt, decide_eq_true_eq]; first | done | omega)) ?_)); all_goals (first | rfl | (simp only [St.set, St.ev, upd, ren, renL, id, Nat.reduceEqDiff, reduceIte]; done) | ((try simp only [St.set, St.ev, upd, ren, renL, id, Nat.reduceEqDiff, reduceIte]); first | (with_reducible exact av_int (by omega)) | (with_reducible exact av_sl (by first | omega | (simp; done) | (simp; omega)) (by first | omega | (simp; done) | (simp; omega)))) | (simp only [St.set, St.ev, upd, ren, renL, id, Nat.reduceEqDiff, reduceIte, Int.natCast_add, Int.natCast_one, Int.cast_ofNat_Int, Int.natCast_zero]; done) | (simp only [St.set, St.ev, upd, ren, renL, id, Nat.reduceEqDiff, reduceIte]) | skip)))); (case h3 => (focus (first | (simp only [id, List.map_cons, List.map_nil]; decide) | decide | (simp; done) | (simp; omega) | fail))); (case h5 => (intro d hd; first | (simp at hd; done) | (simp only [List.mem_cons, List.not_mem_nil, or_false] at hd; first | (simp only [id]; omega) | (split <;> omega) | ((repeat' split) <;> omega) | ((try simp only); repeat' split; all_goals omega)))); (case h4 => (intro o l h; first | (cases h; done) | (have hlt0 := m0_lt (by assumption) h; (try (simp only at hlt0)); first | omega | (simp only; omega) | exact ⟨by (first | rfl | (simp only [id]; done) | ((repeat rw [if_neg (by omega)]); done)), by first | omega | (simp only; omega)⟩))))
    repeat' (first | ((first | with_reducible refine aord_nil ?_ | refine awp_skip ?_ | refine awp_exit ?_ | refine awp_ret ?_); try simp only [rdA, Nat.reduceEqDiff, ifA, ifB, reduceIte]) | (simp only [doneH]; simp only [ressK, resK, wrapR, go_sem, Nat.reduceAdd, Nat.reduceMul, Nat.reduceEqDiff, Nat.reduceLT, reduceIte, reduceCtorEq]) | fail)
    exact hQ z fs (r + 2) hz (by omega) (by omega)
  · refine ⟨L, lim, _, r + 1, rfl, hL.1, hL.2, hbs, rfl, rfl, by omega, by omega, by omega, ?_⟩
    intro u hu
    generalize ([0, -1, 5] : List Int).getD u 0 = y at *
    repeat' ((fail_if_success (with_reducible refine isRetQ ?_)); (first | ((with_reducible refine hK _ ?_); clear hK K) | ((with_reducible refine aord_plain fun K hK => ?_); simp only [go_sem, Nat.reduceAdd, Nat.reduceMul, Nat.reduceEqDiff, Nat.reduceLT, reduceIte, reduceCtorEq, h0, h1]) | (simp only [rBuild]; simp only [fillA, Nat.reduceLeDiff, List.getElem?_cons_zero, List.getElem?_cons_succ, List.drop_succ_cons, List.drop_nil, List.take_nil, List.cons_append, Option.isSome_some, go_sem, Nat.reduceAdd, Nat.reduceMul, Nat.reduceEqDiff, Nat.reduceLT, reduceIte, reduceCtorEq]) | fail))
    refine ⟨_, _, ⟨rfl, rfl⟩, Nat.le_of_ble_eq_true rfl, ?_⟩
    (try dsimp only)
    repeat' ((fail_if_success (with_reducible refine isRetQ ?_)); (first | ((with_reducible refine hK _ ?_); clear hK K) | ((with_reducible refine aord_plain fun K hK => ?_); simp only [go_sem, Nat.reduceAdd, Nat.reduceMul, Nat.reduceEqDiff, Nat.reduceLT, reduceIte, reduceCtorEq, h0, h1]) | fail))
    refine aAppendE_ints rfl rfl rfl rfl (Nat.le_of_ble_eq_true rfl) (by decide) (by decide) (by (try dsimp only); (repeat (first | rw [upd_same] | rw [upd_ne _ _ (by omega)]))) (by (try dsimp only); (repeat (first | rw [upd_same] | rw [upd_ne _ _ (by omega)]))) hfl rfl (by decide) (by omega) ?_
    repeat' ((fail_if_success (with_reducible refine isRetQ ?_)); (first | ((with_reducible refine hK _ ?_); clear hK K) | ((with_reducible refine aord_plain fun K hK => ?_); simp only [go_sem, Nat.reduceAdd, Nat.reduceMul, Nat.reduceEqDiff, Nat.reduceLT, reduceIte, reduceCtorEq, h0, h1]) | ((first | with_reducible refine aord_nil ?_ | refine awp_skip ?_ | refine awp_exit ?_ | refine awp_ret ?_); try simp only [rdA, Nat.reduceEqDiff, ifA, ifB, reduceIte]) | fail))
    have e2 : flF fs ++ [y, 0] = flF (fs ++ [(y, 0)]) := by rw [flF_app]; rfl
    have e3 : fs.length + 1 = (fs ++ [(y, 0)]).length := by rw [List.length_append]; rfl
    have e4 : (fs ++ [(y, 0)]).length ≤ 8 := by omega
    rw [e2, e3]
    generalize fs ++ [(y, 0)] = fs2 at *
    refine awp_weaken (s' := ⟨upd (upd bot 4 (.val (.int .i64 N))) 5 (.sl 2 0 fs2.length 2 none), upd (upd h 1 (some ⟨true, .cells [.sl 0 0 L 1 lim, .val (.int .i64 ((r + 2 : Nat) : Int))]⟩)) 2 (some ⟨true, .ints .i64 (flF fs2)⟩), 3⟩) ?_ ?_
    · (apply Wk.over (fun o => if o = 2 then 6 else o) 2; (case' h2 => (focus ((repeat' (first | (with_reducible exact HeapX.bot) | (exact HeapX.base (by first | exact hcl | assumption) (by first | exact Nat.le_refl _ | omega | (simp only; omega)) (fun k hk => by first | rfl | (simp only [id]; done) | ((repeat rw [if_neg (by omega)]); done)) (by intro u hu hlt'; first | rfl | (simp only [List.mem_cons, List.not_mem_nil, or_false, not_or] at hu; first | (simp [upd, hu]; done) | (simp only [upd]; (repeat rw [if_neg (by omega)]))))) | (with_reducible (apply HeapX.skip; (case hx => (simp; done)))) | (with_reducible apply HeapX.none) | (with_reducible apply HeapX.old (by first | assumption | omega) (by first | exact Nat.le_refl _ | omega | (simp only; omega)) (by first | rfl | (simp only [id]; done) | ((repeat rw [if_neg (by omega)]); done))) | (with_reducible apply HeapX.upd))); all_goals (first | rfl | omega | assumption | exact Nat.le_of_ble_eq_true rfl | (simp only; omega) | (simp only [St.set, St.ev, upd, ren, renL, id, Nat.reduceEqDiff, reduceIte]; rfl) | (simp only [St.set, St.ev, upd, ren, renL, id, Nat.reduceEqDiff, reduceIte, ContLe]; done) | (exact And.intro rfl (And.intro (by first | exact Nat.le_of_ble_eq_true rfl | omega) (by first | exact Nat.le_of_ble_eq_true rfl | omega))) | (first | (simp only [St.set, St.ev, upd, ren, renL, id, Nat.reduceEqDiff, reduceIte]; exact contLe_nil) | ((repeat' (first | exact contLe_nil | refine contLe_cons (.inr ⟨?_, rfl⟩) ?_ | exact contLe_refl (n0 := 2) (fun k hk => by first | rfl | (simp only [id]; done) | ((repeat rw [if_neg (by omega)]); done)) (by first | exact Nat.le_refl _ | omega | (simp only; omega)) (by assumption))); all_goals (first | rfl | (simp only [St.set, St.ev, upd, ren, renL, id, Nat.reduceEqDiff, reduceIte]; done) | ((try simp only [St.set, St.ev, upd, ren, renL, id, Nat.reduceEqDiff, reduceIte]); first | (with_reducible exact av_int (by omega)) | (with_reducible exact av_sl (by first | omega | (simp; done) | (simp; omega)) (by first | omega | (simp; done) | (simp; omega)))) | (simp only [St.set, St.ev, upd, ren, renL, id, Nat.reduceEqDiff, reduceIte, Int.natCast_add, Int.natCast_one, Int.cast_ofNat_Int, Int.natCast_zero]; done) | (simp only [St.set, St.ev, upd, ren, renL, id, Nat.reduceEqDiff, reduceIte]) | skip); done)) | (simp only [St.set, St.ev, upd, ren, renL, id, Nat.reduceEqDiff, reduceIte, ContLe]) | skip)))); (case' h1 => (focus ((repeat' (with_reducible first | exact TmpLe.bot | refine TmpLe.upd ?_ (by first | rfl | (simp only [AV.lt, decide_eq_true_eq]; first | done | omega)) ?_)); all_goals (first | rfl | (simp only [St.set, St.ev, upd, ren, renL, id, Nat.reduceEqDiff, reduceIte]; done) | ((try simp only [St.set, St.ev, upd, ren, renL, id, Nat.reduceEqDiff, reduceIte]); first | (with_reducible exact av_int (by omega)) | (with_reducible exact av_sl (by first | omega | (simp; done) | (simp; omega)) (by first | omega | (simp; done) | (simp; omega)))) | (simp only [St.set, St.ev, upd, ren, renL, id, Nat.reduceEqDiff, reduceIte, Int.natCast_add, Int.natCast_one, Int.cast_ofNat_Int, Int.natCast_zero]; done) | (simp only [St.set, St.ev, upd, ren, renL, id, Nat.reduceEqDiff, reduceIte]) | skip)))); (case h3 => (focus (first | (simp only [id, List.map_cons, List.map_nil]; decide) | decide | (simp; done) | (simp; omega) | fail))); (case h5 => (intro d hd; first | (simp at hd; done) | (simp only [List.mem_cons, List.not_mem_nil, or_false] at hd; first | (simp only [id]; omega) | (split <;> omega) | ((repeat' split) <;> omega) | ((try simp only); repeat' split; all_goals omega)))); (case h4 => (intro o l h; first | (cases h; done) | (have hlt0 := m0_lt (by assumption) h; (try (simp only at hlt0)); first | omega | (simp only; omega) | exact ⟨by (first | rfl | (simp only [id]; done) | ((repeat rw [if_neg (by omega)]); done)), by first | omega | (simp only; omega)⟩))))
    repeat' (first | ((first | with_reducible refine aord_nil ?_ | refine awp_skip ?_ | refine awp_exit ?_ | refine awp_ret ?_); try simp only [rdA, Nat.reduceEqDiff, ifA, ifB, reduceIte]) | (simp only [doneH]; simp only [ressK, resK, wrapR, go_sem, Nat.reduceAdd, Nat.reduceMul, Nat.reduceEqDiff, Nat.reduceLT, reduceIte, reduceCtorEq]) | fail)
    exact hQ N fs2 (r + 2) (by omega) e4 (by omega)
  · refine ⟨Value.int .i64 0, [Value.int .i64 0], ⟨rfl, rfl⟩, Nat.le_of_ble_eq_true rfl, Nat.le_of_ble_eq_true rfl, ?_⟩
    simp only [List.cons_append, List.nil_append, packInts]
    repeat' ((fail_if_success (with_reducible refine isRetQ ?_)); (first | ((with_reducible refine hK _ ?_); clear hK K) | ((with_reducible refine aord_plain fun K hK => ?_); simp only [go_sem, Nat.reduceAdd, Nat.reduceMul, Nat.reduceEqDiff, Nat.reduceLT, reduceIte, reduceCtorEq, h0, h1]) | fail))
    refine aAppendE_ints rfl rfl rfl rfl (Nat.le_of_ble_eq_true rfl) (by decide) (by decide) (by (try dsimp only); (repeat (first | rw [upd_same] | rw [upd_ne _ _ (by omega)]))) (by (try dsimp only); (repeat (first | rw [upd_same] | rw [upd_ne _ _ (by omega)]))) hfl rfl (by decide) (by omega) ?_
    repeat' ((fail_if_success (with_reducible refine isRetQ ?_)); (first | ((with_reducible refine hK _ ?_); clear hK K) | ((with_reducible refine aord_plain fun K hK => ?_); simp only [go_sem, Nat.reduceAdd, Nat.reduceMul, Nat.reduceEqDiff, Nat.reduceLT, reduceIte, reduceCtorEq, h0, h1]) | ((first | with_reducible refine aord_nil ?_ | refine awp_skip ?_ | refine awp_exit ?_ | refine awp_ret ?_); try simp only [rdA, Nat.reduceEqDiff, ifA, ifB, reduceIte]) | fail))
    have e2 : flF fs ++ [0, 1, 1, 0] = flF (fs ++ [(0, 1), (1, 0)]) := by rw [flF_app]; rfl
    have e3 : fs.length + 2 = (fs ++ [((0 : Int), (1 : Int)), (1, 0)]).length := by rw [List.length_append]; rfl
    have e4 : (fs ++ [((0 : Int), (1 : Int)), (1, 0)]).length ≤ 8 := by omega
    rw [e2, e3]
    generalize fs ++ [((0 : Int), (1 : Int)), (1, 0)] = fs2 at *
    refine awp_weaken (s' := ⟨upd (upd bot 4 (.val (.int .i64 N))) 5 (.sl 2 0 fs2.length 2 none), upd (upd h 1 (some ⟨true, .cells [.sl 0 0 L 1 lim, .val (.int .i64 ((r + 1 : Nat) : Int))]⟩)) 2 (some ⟨true, .ints .i64 (flF fs2)⟩), 3⟩) ?_ ?_
    · (apply Wk.over (fun o => if o = 2 then 5 else o) 2; (case' h2 => (focus ((repeat' (first | (with_reducible exact HeapX.bot) | (exact HeapX.base (by first | exact hcl | assumption) (by first | exact Nat.le_refl _ | omega | (simp only; omega)) (fun k hk => by first | rfl | (simp only [id]; done) | ((repeat rw [if_neg (by omega)]); done)) (by intro u hu hlt'; first | rfl | (simp only [List.mem_cons, List.not_mem_nil, or_false, not_or] at hu; first | (simp [upd, hu]; done) | (simp only [upd]; (repeat rw [if_neg (by omega)]))))) | (with_reducible (apply HeapX.skip; (case hx => (simp; done)))) | (with_reducible apply HeapX.none) | (with_reducible apply HeapX.old (by first | assumption | omega) (by first | exact Nat.le_refl _ | omega | (simp only; omega)) (by first | rfl | (simp only [id]; done) | ((repeat rw [if_neg (by omega)]); done))) | (with_reducible apply HeapX.upd))); all_goals (first | rfl | omega | assumption | exact Nat.le_of_ble_eq_true rfl | (simp only; omega) | (simp only [St.set, St.ev, upd, ren, renL, id, Nat.reduceEqDiff, reduceIte]; rfl) | (simp only [St.set, St.ev, upd, ren, renL, id, Nat.reduceEqDiff, reduceIte, ContLe]; done) | (exact And.intro rfl (And.intro (by first | exact Nat.le_of_ble_eq_true rfl | omega) (by first | exact Nat.le_of_ble_eq_true rfl | omega))) | (first | (simp only [St.set, St.ev, upd, ren, renL, id, Nat.reduceEqDiff, reduceIte]; exact contLe_nil) | ((repeat' (first | exact contLe_nil | refine contLe_cons (.inr ⟨?_, rfl⟩) ?_ | exact contLe_refl (n0 := 2) (fun k hk => by first | rfl | (simp only [id]; done) | ((repeat rw [if_neg (by omega)]); done)) (by first | exact Nat.le_refl _ | omega | (simp only; omega)) (by assumption))); all_goals (first | rfl | (simp only [St.set, St.ev, upd, ren, renL, id, Nat.reduceEqDiff, reduceIte]; done) | ((try simp only [St.set, St.ev, upd, ren, renL, id, Nat.reduceEqDiff, reduceIte]); first | (with_reducible exact av_int (by omega)) | (with_reducible exact av_sl (by first | omega | (simp; done) | (simp; omega)) (by first | omega | (simp; done) | (simp; omega)))) | (simp only [St.set, St.ev, upd, ren, renL, id, Nat.reduceEqDiff, reduceIte, Int.natCast_add, Int.natCast_one, Int.cast_ofNat_Int, Int.natCast_zero]; done) | (simp only [St.set, St.ev, upd, ren, renL, id, Nat.reduceEqDiff, reduceIte]) | skip); done)) | (simp only [St.set, St.ev, upd, ren, renL, id, Nat.reduceEqDiff, reduceIte, ContLe]) | skip)))); (case' h1 => (focus ((repeat' (with_reducible first | exact TmpLe.bot | refine TmpLe.upd ?_ (by first | rfl | (simp only [AV.lt, decide_eq_true_eq]; first | done | omega)) ?_)); all_goals (first | rfl | (simp only [St.set, St.ev, upd, ren, renL, id, Nat.reduceEqDiff, reduceIte]; done) | ((try simp only [St.set, St.ev, upd, ren, renL, id, Nat.reduceEqDiff, reduceIte]); first | (with_reducible exact av_int (by omega)) | (with_reducible exact av_sl (by first | omega | (simp; done) | (simp; omega)) (by first | omega | (simp; done) | (simp; omega)))) | (simp only [St.set, St.ev, upd, ren, renL, id, Nat.reduceEqDiff, reduceIte, Int.natCast_add, Int.natCast_one, Int.cast_ofNat_Int, Int.natCast_zero]; done) | (simp only [St.set, St.ev, upd, ren, renL, id, Nat.reduceEqDiff, reduceIte]) | skip)))); (case h3 => (focus (first | (simp only [id, List.map_cons, List.map_nil]; decide) | decide | (simp; done) | (simp; omega) | fail))); (case h5 => (intro d hd; first | (simp at hd; done) | (simp only [List.mem_cons, List.not_mem_nil, or_false] at hd; first | (simp only [id]; omega) | (split <;> omega) | ((repeat' split) <;> omega) | ((try simp only); repeat' split; all_goals omega)))); (case h4 => (intro o l h; first | (cases h; done) | (have hlt0 := m0_lt (by assumption) h; (try (simp only at hlt0)); first | omega | (simp only; omega) | exact ⟨by (first | rfl | (simp only [id]; done) | ((repeat rw [if_neg (by omega)]); done)), by first | omega | (simp only; omega)⟩))))
    repeat' (first | ((first | with_reducible refine aord_nil ?_ | refine awp_skip ?_ | refine awp_exit ?_ | refine awp_ret ?_); try simp only [rdA, Nat.reduceEqDiff, ifA, ifB, reduceIte]) | (simp only [doneH]; simp only [ressK, resK, wrapR, go_sem, Nat.reduceAdd, Nat.reduceMul, Nat.reduceEqDiff, Nat.reduceLT, reduceIte, reduceCtorEq]) | fail)
    exact hQ N fs2 (r + 1) (by omega) e4 (by omega)
  · refine awp_weaken (s' := ⟨upd (upd bot 4 (.val (.int .i64 N))) 5 (.sl 2 0 fs.length 2 none), upd (upd h 1 (some ⟨true, .cells [.sl 0 0 L 1 lim, .val (.int .i64 ((r + 1 : Nat) : Int))]⟩)) 2 (some ⟨true, .ints .i64 (flF fs)⟩), 3⟩) ?_ ?_
    · (apply Wk.over (fun o => if o = 2 then 3 else o) 2; (case' h2 => (focus ((repeat' (first | (with_reducible exact HeapX.bot) | (exact HeapX.base (by first | exact hcl | assumption) (by first | exact Nat.le_refl _ | omega | (simp only; omega)) (fun k hk => by first | rfl | (simp only [id]; done) | ((repeat rw [if_neg (by omega)]); done)) (by intro u hu hlt'; first | rfl | (simp only [List.mem_cons, List.not_mem_nil, or_false, not_or] at hu; first | (simp [upd, hu]; done) | (simp only [upd]; (repeat rw [if_neg (by omega)]))))) | (with_reducible (apply HeapX.skip; (case hx => (simp; done)))) | (with_reducible apply HeapX.none) | (with_reducible apply HeapX.old (by first | assumption | omega) (by first | exact Nat.le_refl _ | omega | (simp only; omega)) (by first | rfl | (simp only [id]; done) | ((repeat rw [if_neg (by omega)]); done))) | (with_reducible apply HeapX.upd))); all_goals (first | rfl | omega | assumption | exact Nat.le_of_ble_eq_true rfl | (simp only; omega) | (simp only [St.set, St.ev, upd, ren, renL, id, Nat.reduceEqDiff, reduceIte]; rfl) | (simp only [St.set, St.ev, upd, ren, renL, id, Nat.reduceEqDiff, reduceIte, ContLe]; done) | (exact And.intro rfl (And.intro (by first | exact Nat.le_of_ble_eq_true rfl | omega) (by first | exact Nat.le_of_ble_eq_true rfl | omega))) | (first | (simp only [St.set, St.ev, upd, ren, renL, id, Nat.reduceEqDiff, reduceIte]; exact contLe_nil) | ((repeat' (first | exact contLe_nil | refine contLe_cons (.inr ⟨?_, rfl⟩) ?_ | exact contLe_refl (n0 := 2) (fun k hk => by first | rfl | (simp only [id]; done) | ((repeat rw [if_neg (by omega)]); done)) (by first | exact Nat.le_refl _ | omega | (simp only; omega)) (by assumption))); all_goals (first | rfl | (simp only [St.set, St.ev, upd, ren, renL, id, Nat.reduceEqDiff, reduceIte]; done) | ((try simp only [St.set, St.ev, upd, ren, renL, id, Nat.reduceEqDiff, reduceIte]); first | (with_reducible exact av_int (by omega)) | (with_reducible exact av_sl (by first | omega | (simp; done) | (simp; omega)) (by first | omega | (simp; done) | (simp; omega)))) | (simp only [St.set, St.ev, upd, ren, renL, id, Nat.reduceEqDiff, reduceIte, Int.natCast_add, Int.natCast_one, Int.cast_ofNat_Int, Int.natCast_zero]; done) | (simp only [St.set, St.ev, upd, ren, renL, id, Nat.reduceEqDiff, reduceIte]) | skip); done)) | (simp only [St.set, St.ev, upd, ren, renL, id, Nat.reduceEqDiff, reduceIte, ContLe]) | skip)))); (case' h1 => (focus ((repeat' (with_reducible first | exact TmpLe.bot | refine TmpLe.upd ?_ (by first | rfl | (simp only [AV.lt, decide_eq_true_eq]; first | done | omega)) ?_)); all_goals (first | rfl | (simp only [St.set, St.ev, upd, ren, renL, id, Nat.reduceEqDiff, reduceIte]; done) | ((try simp only [St.set, St.ev, upd, ren, renL, id, Nat.reduceEqDiff, reduceIte]); first | (with_reducible exact av_int (by omega)) | (with_reducible exact av_sl (by first | omega | (simp; done) | (simp; omega)) (by first | omega | (simp; done) | (simp; omega)))) | (simp only [St.set, St.ev, upd, ren, renL, id, Nat.reduceEqDiff, reduceIte, Int.natCast_add, Int.natCast_one, Int.cast_ofNat_Int, Int.natCast_zero]; done) | (simp only [St.set, St.ev, upd, ren, renL, id, Nat.reduceEqDiff, reduceIte]) | skip)))); (case h3 => (focus (first | (simp only [id, List.map_cons, List.map_nil]; decide) | decide | (simp; done) | (simp; omega) | fail))); (case h5 => (intro d hd; first | (simp at hd; done) | (simp only [List.mem_cons, List.not_mem_nil, or_false] at hd; first | (simp only [id]; omega) | (split <;> omega) | ((repeat' split) <;> omega) | ((try simp only); repeat' split; all_goals omega)))); (case h4 => (intro o l h; first | (cases h; done) | (have hlt0 := m0_lt (by assumption) h; (try (simp only at hlt0)); first | omega | (simp only; omega) | exact ⟨by (first | rfl | (simp only [id]; done) | ((repeat rw [if_neg (by omega)]); done)), by first | omega | (simp only; omega)⟩))))
    repeat' (first | ((first | with_reducible refine aord_nil ?_ | refine awp_skip ?_ | refine awp_exit ?_ | refine awp_ret ?_); try simp only [rdA, Nat.reduceEqDiff, ifA, ifB, reduceIte]) | (simp only [doneH]; simp only [ressK, resK, wrapR, go_sem, Nat.reduceAdd, Nat.reduceMul, Nat.reduceEqDiff, Nat.reduceLT, reduceIte, reduceCtorEq]) | fail)
    exact hQ N fs (r + 1) (by omega) (by omega) (by omega)

theorem equalFacts_sat : SatH Try.prog 27 (fun al h n K => ∃ (A B : Nat) (xs ys : List (Int × Int)) (ba bb : Bool), al = [.sl A 0 xs.length 2 none, .sl B 0 ys.length 2 none] ∧ (h A = some ⟨ba, .ints .i64 (flF xs)⟩) ∧ (h B = some ⟨bb, .ints .i64 (flF ys)⟩) ∧ (xs.length ≤ 1099511627776) ∧ (ys.length ≤ 1099511627776) ∧ K (.val (.bool ((decide (xs = ys))))) (h) (n)) := by
  refine satH_intro tabOk Try.func27 rfl 26 rfl [.tmp 4] rfl ?_
  rintro F W h n al K0 ⟨A, B, xs, ys, ba, bb, rfl, hA, hB, hx, hy, hQ⟩
  refine ⟨Nat.le_of_ble_eq_true rfl, fun m0 hm0 hcl hlt => ?_⟩
  simp only [initT]
  have hAn := (hcl A _ hA).1
  have hBn := (hcl B _ hB).1
  have hxl := flF_len xs
  have hyl := flF_len ys


  repeat' (first | refine awp_seq_k fun K hK => ?_ | ((with_reducible refine hK _ ?_); clear hK K) | ((with_reducible refine aord_plain fun K hK => ?_); simp only [go_sem, Nat.reduceAdd, Nat.reduceMul, Nat.reduceEqDiff, Nat.reduceLT, reduceIte, reduceCtorEq, hA, hB, nmA, Nat.reduceAdd, ifA, ifB, mat.matL, DV.agg.injEq, hA, hB, hxl, hyl]) | refine awp_block ?_ | ((first | with_reducible refine aord_nil ?_ | refine awp_skip ?_ | refine awp_exit ?_ | refine awp_ret ?_); try simp only [rdA, Nat.reduceEqDiff, ifA, ifB, reduceIte]) | (refine awp_region tabOk rfl ?_; simp only [prep, pickO, lsA, lsB, lsC, lsD, lsE, lsF, lsG]) | ((with_reducible apply awp_cond); (focus (simp only [St.ev, St.set, upd, Nat.reduceEqDiff, reduceIte, ifA, ifB, hA, hB, nmA, Nat.reduceAdd, ifA, ifB]; exact rfl)); all_goals (intro hb; first | (cases hb; done) | ((try rw [hb]); (try simp only [dcA, dcB, dcC, dcD, dcE, Bool.not_eq_true', Bool.not_eq_false'] at hb)))) | (simp only [doneH]; simp only [ressK, resK, wrapR, go_sem, Nat.reduceAdd, Nat.reduceMul, Nat.reduceEqDiff, Nat.reduceLT, reduceIte, reduceCtorEq, hA, hB, nmA, Nat.reduceAdd, ifA, ifB]) | fail)
  · rw [decide_eq_false (fun e => absurd (congrArg List.length e) (by omega))] at hQ
    exact hQ
  refine awp_loopE (α := Nat) (fun s p => ⟨(upd (upd (upd bot 0 (s.tmps 0)) 1 (s.tmps 1)) 5 (.val (.int .i64 (p)))), s.heap, s.next⟩) _ (fun p => by simp only [St.ev, St.set, upd, Nat.reduceEqDiff, reduceIte, ifA, ifB, hA, hB, nmA, Nat.reduceAdd, ifA, ifB]; exact rfl) (fun p => (p ≤ xs.length) ∧ (∀ j, j < p → xs.getD j (0, 0) = ys.getD j (0, 0))) (fun p => xs.length - p) (0) ?_ ?_ ?_
  · (try simp only); (refine ⟨?_, ?_⟩ <;> (first | omega | (intro j h; omega)))
  · (apply Wk.over (id) n; (case' h2 => (focus ((repeat' (first | (with_reducible exact HeapX.bot) | (exact HeapX.base (by first | exact hcl | assumption) (by first | exact Nat.le_refl _ | omega | (simp only; omega)) (fun k hk => by first | rfl | (simp only [id]; done) | ((repeat rw [if_neg (by omega)]); done)) (by intro u hu hlt'; first | rfl | (simp only [List.mem_cons, List.not_mem_nil, or_false, not_or] at hu; first | (simp [upd, hu]; done) | (simp only [upd]; (repeat rw [if_neg (by omega)]))))) | (with_reducible (apply HeapX.skip; (case hx => (simp; done)))) | (with_reducible apply HeapX.none) | (with_reducible apply HeapX.old (by first | assumption | omega) (by first | exact Nat.le_refl _ | omega | (simp only; omega)) (by first | rfl | (simp only [id]; done) | ((repeat rw [if_neg (by omega)]); done))) | (with_reducible apply HeapX.upd))); all_goals (first | rfl | omega | assumption | exact Nat.le_of_ble_eq_true rfl | (simp only; omega) | (simp only [St.set, St.ev, upd, ren, renL, id, Nat.reduceEqDiff, reduceIte, hA, hB, nmA, Nat.reduceAdd, ifA, ifB]; rfl) | (simp only [St.set, St.ev, upd, ren, renL, id, Nat.reduceEqDiff, reduceIte, hA, hB, nmA, Nat.reduceAdd, ifA, ifB, ContLe]; done) | (exact And.intro rfl (And.intro (by first | exact Nat.le_of_ble_eq_true rfl | omega) (by first | exact Nat.le_of_ble_eq_true rfl | omega))) | (first | (simp only [St.set, St.ev, upd, ren, renL, id, Nat.reduceEqDiff, reduceIte, hA, hB, nmA, Nat.reduceAdd, ifA, ifB]; exact contLe_nil) | ((repeat' (first | exact contLe_nil | refine contLe_cons (.inr ⟨?_, rfl⟩) ?_ | exact contLe_refl (n0 := n) (fun k hk => by first | rfl | (simp only [id]; done) | ((repeat rw [if_neg (by omega)]); done)) (by first | exact Nat.le_refl _ | omega | (simp only; omega)) (by assumption))); all_goals (first | rfl | (simp only [St.set, St.ev, upd, ren, renL, id, Nat.reduceEqDiff, reduceIte, hA, hB, nmA, Nat.reduceAdd, ifA, ifB]; done) | ((try simp only [St.set, St.ev, upd, ren, renL, id, Nat.reduceEqDiff, reduceIte, hA, hB, nmA, Nat.reduceAdd, ifA, ifB]); first | (with_reducible exact av_int (by omega)) | (with_reducible exact av_sl (by first | omega | (simp; done) | (simp; omega)) (by first | omega | (simp; done) | (simp; omega)))) | (simp only [St.set, St.ev, upd, ren, renL, id, Nat.reduceEqDiff, reduceIte, hA, hB, nmA, Nat.reduceAdd, ifA, ifB, Int.natCast_add, Int.natCast_one, Int.cast_ofNat_Int, Int.natCast_zero]; done) | (simp only [St.set, St.ev, upd, ren, renL, id, Nat.reduceEqDiff, reduceIte, hA, hB, nmA, Nat.reduceAdd, ifA, ifB]) | skip); done)) | (simp only [St.set, St.ev, upd, ren, renL, id, Nat.reduceEqDiff, reduceIte, hA, hB, nmA, Nat.reduceAdd, ifA, ifB, ContLe]) | skip)))); (case' h1 => (focus ((repeat' (with_reducible first | exact TmpLe.bot | refine TmpLe.upd ?_ (by first | rfl | (simp only [AV.lt, decide_eq_true_eq]; first | done | omega)) ?_)); all_goals (first | rfl | (simp only [St.set, St.ev, upd, ren, renL, id, Nat.reduceEqDiff, reduceIte, hA, hB, nmA, Nat.reduceAdd, ifA, ifB]; done) | ((try simp only [St.set, St.ev, upd, ren, renL, id, Nat.reduceEqDiff, reduceIte, hA, hB, nmA, Nat.reduceAdd, ifA, ifB]); first | (with_reducible exact av_int (by omega)) | (with_reducible exact av_sl (by first | omega | (simp; done) | (simp; omega)) (by first | omega | (simp; done) | (simp; omega)))) | (simp only [St.set, St.ev, upd, ren, renL, id, Nat.reduceEqDiff, reduceIte, hA, hB, nmA, Nat.reduceAdd, ifA, ifB, Int.natCast_add, Int.natCast_one, Int.cast_ofNat_Int, Int.natCast_zero]; done) | (simp only [St.set, St.ev, upd, ren, renL, id, Nat.reduceEqDiff, reduceIte, hA, hB, nmA, Nat.reduceAdd, ifA, ifB]) | skip)))); (case h3 => (focus (first | (simp only [id, List.map_cons, List.map_nil]; decide) | decide | (simp; done) | (simp; omega) | fail))); (case h5 => (intro d hd; first | (simp at hd; done) | (simp only [List.mem_cons, List.not_mem_nil, or_false] at hd; first | (simp only [id]; omega) | (split <;> omega) | ((repeat' split) <;> omega) | ((try simp only); repeat' split; all_goals omega)))); (case h4 => (intro o l h; first | (cases h; done) | (have hlt0 := m0_lt (by assumption) h; (try (simp only at hlt0)); first | omega | (simp only; omega) | exact ⟨by (first | rfl | (simp only [id]; done) | ((repeat rw [if_neg (by omega)]); done)), by first | omega | (simp only; omega)⟩))))
  rintro i ⟨hi, hj⟩
  try simp only at hi hj
  rcases Nat.lt_or_ge i xs.length with hlt | hge
  · have hgx := flF_take hlt
    have hgy := flF_take (show i < ys.length by omega)

    repeat' (first | refine awp_seq_k fun K hK => ?_ | ((with_reducible refine hK _ ?_); clear hK K) | (clear hK K; (with_reducible refine hK _ ?_); clear hK K) | ((with_reducible refine aord_plain fun K hK => ?_); simp only [go_sem, Nat.reduceAdd, Nat.reduceMul, Nat.reduceEqDiff, Nat.reduceLT, reduceIte, reduceCtorEq, hA, hB, nmA, Nat.reduceAdd, ifA, ifB, mat.matL, DV.agg.injEq, hA, hB, hxl, hyl, hgx, hgy]) | refine awp_block ?_ | ((first | with_reducible refine aord_nil ?_ | refine awp_skip ?_ | refine awp_exit ?_ | refine awp_ret ?_); try simp only [rdA, Nat.reduceEqDiff, ifA, ifB, reduceIte]) | (refine awp_region tabOk rfl ?_; simp only [prep, pickO, lsA, lsB, lsC, lsD, lsE, lsF, lsG]) | (refine awp_region_draw (nt := 26) (id := 6) tabOk [(0, true, false), (1, true, false), (2, true, false), (3, true, false), (4, true, false), (5, true, false), (6, true, false), (7, true, false), (8, true, false)] (by kernel_rfl) rfl (by kernel_rfl) ?_; simp only [prep, pickO, lsA, lsB, lsC, lsD, lsE, lsF, lsG]) | ((with_reducible apply awp_cond); (focus (simp only [St.ev, St.set, upd, Nat.reduceEqDiff, reduceIte, ifA, ifB, hA, hB, nmA, Nat.reduceAdd, ifA, ifB]; exact rfl)); all_goals (intro hb; first | (cases hb; done) | ((try rw [hb]); (try simp only [dcA, dcB, dcC, dcD, dcE, Bool.not_eq_true', Bool.not_eq_false'] at hb)))) | ((with_reducible refine And.intro ?_ ?_); (focus omega)) | (simp only [doneH]; simp only [ressK, resK, wrapR, go_sem, Nat.reduceAdd, Nat.reduceMul, Nat.reduceEqDiff, Nat.reduceLT, reduceIte, reduceCtorEq, hA, hB, nmA, Nat.reduceAdd, ifA, ifB]) | (exfalso; omega) | fail)
    refine .inr ⟨_, .i64, _, _, _, _, _, rfl, rfl, rfl, rfl, rfl, rfl, ?_⟩
    repeat' (first | refine awp_seq_k fun K hK => ?_ | ((with_reducible refine hK _ ?_); clear hK K) | ((with_reducible refine aord_plain fun K hK => ?_); simp only [go_sem, Nat.reduceAdd, Nat.reduceMul, Nat.reduceEqDiff, Nat.reduceLT, reduceIte, reduceCtorEq, hA, hB, nmA, Nat.reduceAdd, ifA, ifB, mat.matL, DV.agg.injEq, hA, hB, hxl, hyl, hgx, hgy]) | ((first | with_reducible refine aord_nil ?_ | refine awp_skip ?_ | refine awp_exit ?_ | refine awp_ret ?_); try simp only [rdA, Nat.reduceEqDiff, ifA, ifB, reduceIte]) | (refine awp_region tabOk rfl ?_; simp only [prep, pickO, lsA, lsB, lsC, lsD, lsE, lsF, lsG]) | ((with_reducible apply awp_cond); (focus (simp only [St.ev, St.set, upd, Nat.reduceEqDiff, reduceIte, ifA, ifB, hA, hB, nmA, Nat.reduceAdd, ifA, ifB]; exact rfl)); all_goals (intro hb; first | (cases hb; done) | ((try rw [hb]); (try simp only [dcA, dcB, dcC, dcD, dcE, Bool.not_eq_true', Bool.not_eq_false'] at hb)))) | ((with_reducible refine And.intro ?_ ?_); (focus omega)) | (simp only [doneH]; simp only [ressK, resK, wrapR, go_sem, Nat.reduceAdd, Nat.reduceMul, Nat.reduceEqDiff, Nat.reduceLT, reduceIte, reduceCtorEq, hA, hB, nmA, Nat.reduceAdd, ifA, ifB]) | fail)
    · rw [decide_eq_false (fun e => by subst e; omega)] at hQ
      exact hQ
    · ((refine Exists.intro (i + 1) ?_); (refine nxt ?_ ?_ ?_); (focus ((apply Wk.over (id) n; (case' h2 => (focus ((repeat' (first | (with_reducible exact HeapX.bot) | (exact HeapX.base (by first | exact hcl | assumption) (by first | exact Nat.le_refl _ | omega | (simp only; omega)) (fun k hk => by first | rfl | (simp only [id]; done) | ((repeat rw [if_neg (by omega)]); done)) (by intro u hu hlt'; first | rfl | (simp only [List.mem_cons, List.not_mem_nil, or_false, not_or] at hu; first | (simp [upd, hu]; done) | (simp only [upd]; (repeat rw [if_neg (by omega)]))))) | (with_reducible (apply HeapX.skip; (case hx => (simp; done)))) | (with_reducible apply HeapX.none) | (with_reducible apply HeapX.old (by first | assumption | omega) (by first | exact Nat.le_refl _ | omega | (simp only; omega)) (by first | rfl | (simp only [id]; done) | ((repeat rw [if_neg (by omega)]); done))) | (with_reducible apply HeapX.upd))); all_goals (first | rfl | omega | assumption | exact Nat.le_of_ble_eq_true rfl | (simp only; omega) | (simp only [St.set, St.ev, upd, ren, renL, id, Nat.reduceEqDiff, reduceIte, hA, hB, nmA, Nat.reduceAdd, ifA, ifB]; rfl) | (simp only [St.set, St.ev, upd, ren, renL, id, Nat.reduceEqDiff, reduceIte, hA, hB, nmA, Nat.reduceAdd, ifA, ifB, ContLe]; done) | (exact And.intro rfl (And.intro (by first | exact Nat.le_of_ble_eq_true rfl | omega) (by first | exact Nat.le_of_ble_eq_true rfl | omega))) | (first | (simp only [St.set, St.ev, upd, ren, renL, id, Nat.reduceEqDiff, reduceIte, hA, hB, nmA, Nat.reduceAdd, ifA, ifB]; exact contLe_nil) | ((repeat' (first | exact contLe_nil | refine contLe_cons (.inr ⟨?_, rfl⟩) ?_ | exact contLe_refl (n0 := n) (fun k hk => by first | rfl | (simp only [id]; done) | ((repeat rw [if_neg (by omega)]); done)) (by first | exact Nat.le_refl _ | omega | (simp only; omega)) (by assumption))); all_goals (first | rfl | (simp only [St.set, St.ev, upd, ren, renL, id, Nat.reduceEqDiff, reduceIte, hA, hB, nmA, Nat.reduceAdd, ifA, ifB]; done) | ((try simp only [St.set, St.ev, upd, ren, renL, id, Nat.reduceEqDiff, reduceIte, hA, hB, nmA, Nat.reduceAdd, ifA, ifB]); first | (with_reducible exact av_int (by omega)) | (with_reducible exact av_sl (by first | omega | (simp; done) | (simp; omega)) (by first | omega | (simp; done) | (simp; omega)))) | (simp only [St.set, St.ev, upd, ren, renL, id, Nat.reduceEqDiff, reduceIte, hA, hB, nmA, Nat.reduceAdd, ifA, ifB, Int.natCast_add, Int.natCast_one, Int.cast_ofNat_Int, Int.natCast_zero]; done) | (simp only [St.set, St.ev, upd, ren, renL, id, Nat.reduceEqDiff, reduceIte, hA, hB, nmA, Nat.reduceAdd, ifA, ifB]) | skip); done)) | (simp only [St.set, St.ev, upd, ren, renL, id, Nat.reduceEqDiff, reduceIte, hA, hB, nmA, Nat.reduceAdd, ifA, ifB, ContLe]) | skip)))); (case' h1 => (focus ((repeat' (with_reducible first | exact TmpLe.bot | refine TmpLe.upd ?_ (by first | rfl | (simp only [AV.lt, decide_eq_true_eq]; first | done | omega)) ?_)); all_goals (first | rfl | (simp only [St.set, St.ev, upd, ren, renL, id, Nat.reduceEqDiff, reduceIte, hA, hB, nmA, Nat.reduceAdd, ifA, ifB]; done) | ((try simp only [St.set, St.ev, upd, ren, renL, id, Nat.reduceEqDiff, reduceIte, hA, hB, nmA, Nat.reduceAdd, ifA, ifB]); first | (with_reducible exact av_int (by omega)) | (with_reducible exact av_sl (by first | omega | (simp; done) | (simp; omega)) (by first | omega | (simp; done) | (simp; omega)))) | (simp only [St.set, St.ev, upd, ren, renL, id, Nat.reduceEqDiff, reduceIte, hA, hB, nmA, Nat.reduceAdd, ifA, ifB, Int.natCast_add, Int.natCast_one, Int.cast_ofNat_Int, Int.natCast_zero]; done) | (simp only [St.set, St.ev, upd, ren, renL, id, Nat.reduceEqDiff, reduceIte, hA, hB, nmA, Nat.reduceAdd, ifA, ifB]) | skip)))); (case h3 => (focus (first | (simp only [id, List.map_cons, List.map_nil]; decide) | decide | (simp; done) | (simp; omega) | fail))); (case h5 => (intro d hd; first | (simp at hd; done) | (simp only [List.mem_cons, List.not_mem_nil, or_false] at hd; first | (simp only [id]; omega) | (split <;> omega) | ((repeat' split) <;> omega) | ((try simp only); repeat' split; all_goals omega)))); (case h4 => (intro o l h; first | (cases h; done) | (have hlt0 := m0_lt (by assumption) h; (try (simp only at hlt0)); first | omega | (simp only; omega) | exact ⟨by (first | rfl | (simp only [id]; done) | ((repeat rw [if_neg (by omega)]); done)), by first | omega | (simp only; omega)⟩)))))); (focus (first | omega | (simp only; omega) | (simp only [List.length_take]; omega) | (simp; done) | (simp; omega))); ((repeat' (with_reducible apply And.intro)) <;> (first | omega | (simp only; omega) | assumption | rfl | ((try simp only); (intro j h; rcases Nat.lt_or_ge j i with h1 | h1; exact hj j h1; obtain rfl : j = i := (by omega); exact Prod.ext (by omega) (by omega))) | skip)))
  · skip

    repeat' (first | refine awp_seq_k fun K hK => ?_ | ((with_reducible refine hK _ ?_); clear hK K) | (clear hK K; (with_reducible refine hK _ ?_); clear hK K) | ((with_reducible refine aord_plain fun K hK => ?_); simp only [go_sem, Nat.reduceAdd, Nat.reduceMul, Nat.reduceEqDiff, Nat.reduceLT, reduceIte, reduceCtorEq, hA, hB, nmA, Nat.reduceAdd, ifA, ifB, mat.matL, DV.agg.injEq, hA, hB, hxl, hyl]) | refine awp_block ?_ | ((first | with_reducible refine aord_nil ?_ | refine awp_skip ?_ | refine awp_exit ?_ | refine awp_ret ?_); try simp only [rdA, Nat.reduceEqDiff, ifA, ifB, reduceIte]) | (refine awp_region tabOk rfl ?_; simp only [prep, pickO, lsA, lsB, lsC, lsD, lsE, lsF, lsG]) | (refine awp_region_draw (nt := 26) (id := 6) tabOk [(0, true, false), (1, true, false), (2, true, false), (3, true, false), (4, true, false), (5, true, false), (6, true, false), (7, true, false), (8, true, false)] (by kernel_rfl) rfl (by kernel_rfl) ?_; simp only [prep, pickO, lsA, lsB, lsC, lsD, lsE, lsF, lsG]) | ((with_reducible apply awp_cond); (focus (simp only [St.ev, St.set, upd, Nat.reduceEqDiff, reduceIte, ifA, ifB, hA, hB, nmA, Nat.reduceAdd, ifA, ifB]; exact rfl)); all_goals (intro hb; first | (cases hb; done) | ((try rw [hb]); (try simp only [dcA, dcB, dcC, dcD, dcE, Bool.not_eq_true', Bool.not_eq_false'] at hb)))) | ((with_reducible refine And.intro ?_ ?_); (focus omega)) | (simp only [doneH]; simp only [ressK, resK, wrapR, go_sem, Nat.reduceAdd, Nat.reduceMul, Nat.reduceEqDiff, Nat.reduceLT, reduceIte, reduceCtorEq, hA, hB, nmA, Nat.reduceAdd, ifA, ifB]) | (exfalso; omega) | fail)
    rw [decide_eq_true (pair_ext (by omega) fun j h => hj j (by omega))] at hQ
    exact hQ


theorem min_item {fs : List (Int × Int)} (hx : ∀ x, ¬ Tc fs x x) : ∀ S : List Int, S ≠ [] → ∃ x, x ∈ S ∧ ∀ y, y ∈ S → ¬ Tc fs y x
  | [], h => (h rfl).elim
  | [a], _ => ⟨a, by simp, fun y hy => by rw [List.mem_singleton.1 hy]; exact hx a⟩
  | a :: b :: S, _ => by
    obtain ⟨x, h1, h2⟩ := min_item hx (b :: S) (by simp)
    by_cases c : Tc fs a x
    · refine ⟨a, by simp, fun y hy t => ?_⟩
      rcases List.mem_cons.1 hy with e | e
      · exact hx a (e ▸ t)
      · exact h2 y e (t.step c)
    · refine ⟨x, List.mem_cons_of_mem _ h1, fun y hy t => ?_⟩
      rcases List.mem_cons.1 hy with e | e
      · exact c (e ▸ t)
      · exact h2 y e t
theorem sprTo_ne {r : Nat → Nat → Bool} {g : Nat → List (List Int)} {b : List Int} {x : Nat} (ho : okS r b x = true) (hg : g x ≠ []) : ∀ {i : Nat}, x < i → sprTo r g b i ≠ []
  | i + 1, h => by
    rw [sprTo]
    rcases Nat.lt_or_ge x i with c | c
    · have := sprTo_ne ho hg c
      simp [this]
    · obtain rfl : x = i := by omega
      rw [if_pos ho]; simp [hg]
theorem beg_free {d : Nat} {b : List Int} (hb : Beg d b) (hl : b.length < d) : ∃ v : Nat, v < d ∧ (v : Int) ∉ b := by
  by_cases c : ∃ v : Nat, v < d ∧ (v : Int) ∉ b
  · exact c
  · have hall : ∀ v : Nat, v < d → (v : Int) ∈ b := fun v hv => by
      by_cases e : (v : Int) ∈ b
      · exact e
      · exact (c ⟨v, hv, e⟩).elim
    have := no_injF b.length d (fun v => (fstAt b (v : Int) b.length).toNat) (fun v hv => by
      have h1 := fst_mem.2 (hall v hv)
      have h2 := (fst_in (p := b) (v := (v : Int)) b.length).2.1
      show (fstAt b (v : Int) b.length).toNat < b.length
      omega) (fun v w hv hw e => by
      have h1 := fst_mem.2 (hall v hv)
      have h2 := (fst_in (p := b) (v := (v : Int)) b.length).2.2 h1
      have h3 := fst_mem.2 (hall w hw)
      have h4 := (fst_in (p := b) (v := (w : Int)) b.length).2.2 h3
      have e2 : (fstAt b (v : Int) b.length).toNat = (fstAt b (w : Int) b.length).toNat := e
      rw [e2, h4] at h2
      omega)
    omega
theorem ordR_ne {fs : List (Int × Int)} {d : Nat} (hi : itemsIn d fs) (hx : ∀ x, ¬ Tc fs x x) : ∀ (k : Nat) {b : List Int}, Beg d b → b.length + k = d → (∀ x y, y ∈ b → Tc fs x y → x ∈ b) → ordR (fun i j => wT fs d i j) d k b ≠ []
  | 0, b, _, _, _ => by simp [ordR]
  | k + 1, b, hb, hl, hc => by
    obtain ⟨v, hv, hvb⟩ := beg_free hb (by omega)
    obtain ⟨x, h1, h2⟩ := min_item hx (((List.range d).map Int.ofNat).filter fun i => decide (i ∉ b)) (fun e => by
      have : (v : Int) ∈ (((List.range d).map Int.ofNat).filter fun i => decide (i ∉ b)) := List.mem_filter.2 ⟨List.mem_map.2 ⟨v, List.mem_range.2 hv, rfl⟩, decide_eq_true hvb⟩
      rw [e] at this; simp at this)
    obtain ⟨h3, h4⟩ := List.mem_filter.1 h1
    obtain ⟨i, h5, rfl⟩ := List.mem_map.1 h3
    have hid := List.mem_range.1 h5
    have hib : (i : Int) ∉ b := of_decide_eq_true h4
    rw [ordR]
    refine sprTo_ne (x := i) (okS_iff.2 fun y hy => ⟨fun e => hib (e ▸ hy), ?_⟩) (ordR_ne hi hx k (hb.push hid hib) (by rw [List.length_append]; simp only [List.length_cons, List.length_nil]; omega) fun u y hy t => ?_) hid
    · cases e : wT fs d i y.toNat with
      | false => rfl
      | true =>
        have h6 := wT_sound e
        rw [Int.toNat_of_nonneg (hb.rng y hy).1] at h6
        exact (hib (hc _ _ hy h6)).elim
    · rcases List.mem_append.1 hy with h6 | h6
      · exact List.mem_append_left _ (hc _ _ h6 t)
      · rw [List.mem_singleton.1 h6] at t
        by_cases e : u ∈ b
        · exact List.mem_append_left _ e
        · obtain ⟨⟨u0, u1⟩, _⟩ := Tc_in hi t
          have hu : u ∈ (((List.range d).map Int.ofNat).filter fun i => decide (i ∉ b)) := List.mem_filter.2 ⟨List.mem_map.2 ⟨u.toNat, List.mem_range.2 (by omega), Int.toNat_of_nonneg u0⟩, decide_eq_true e⟩
          exact (h2 u hu t).elim
theorem orO_pos {z : Int} {fs : List (Int × Int)} (h : VF z fs) : 0 < (orO z fs).length := by
  obtain ⟨d, rfl⟩ : ∃ d : Nat, z = d := ⟨z.toNat, by have := h.1; omega⟩
  rw [orO_yes h]
  have := ordR_ne (by have := h.2.2.1; rwa [Int.toNat_natCast] at this) h.2.2.2 d Beg.nil (by simp) (fun x y hy => by simp at hy)
  exact List.length_pos_iff.2 this
theorem dbl_two : ∀ f n p c : Nat, n ≤ p + f → 0 < p → p < 2 * n → c ≤ dbl n p c ∧ n ≤ p * 2 ^ (dbl n p c - c) ∧ p * 2 ^ (dbl n p c - c) < 2 * n
  | 0, n, p, c, h, h0, h2 => by rw [dbl_end (by omega), Nat.sub_self]; exact ⟨Nat.le_refl _, by simpa using h, by simpa using h2⟩
  | f + 1, n, p, c, h, h0, h2 => by
    by_cases h1 : p < n
    · rw [← dbl_go h0 h1]
      obtain ⟨a, b, e⟩ := dbl_two f n (2 * p) (c + 1) (by omega) (by omega) (by omega)
      have e2 : 2 * p * 2 ^ (dbl n (2 * p) (c + 1) - (c + 1)) = p * 2 ^ (dbl n (2 * p) (c + 1) - c) := by
        rw [show dbl n (2 * p) (c + 1) - c = (dbl n (2 * p) (c + 1) - (c + 1)) + 1 by omega, Nat.pow_succ, Nat.mul_comm 2 p, Nat.mul_assoc, Nat.mul_comm 2 (2 ^ _)]
      rw [e2] at b e
      exact ⟨by omega, b, e⟩
    · rw [dbl_end (by omega), Nat.sub_self]; exact ⟨Nat.le_refl _, by simpa using (by omega : n ≤ p), by simpa using h2⟩
theorem bound_pow {n : Nat} (h : 0 < n) (h2 : n ≤ 120) : n ≤ 2 ^ (dbl n 1 0) ∧ 2 ^ (dbl n 1 0) < 2 * n ∧ dbl n 1 0 ≤ 20 := by
  obtain ⟨_, a, b⟩ := dbl_two n n 1 0 (by omega) (by omega) (by omega)
  rw [Nat.one_mul, Nat.sub_zero] at a b
  refine ⟨a, b, ?_⟩
  rcases Nat.lt_or_ge 20 (dbl n 1 0) with c | c
  · have := Nat.pow_le_pow_right (n := 2) (by decide) (show 8 ≤ dbl n 1 0 by omega)
    have : (2 : Nat) ^ 8 = 256 := rfl
    omega
  · exact c


def facP : Nat → Nat
  | 0 => 1
  | n + 1 => facP n * (n + 1)
theorem facP_le : ∀ n, n ≤ 12 → facP n ≤ 479001600 := by decide
theorem facP_pos : ∀ n, 1 ≤ facP n
  | 0 => Nat.le_refl _
  | n + 1 => by rw [facP]; exact Nat.mul_pos (facP_pos n) (by omega)
theorem ordK_fac {d : Nat} (h : d ≤ 5) : (ordK d d []).length = facP d := by
  have : d = 0 ∨ d = 1 ∨ d = 2 ∨ d = 3 ∨ d = 4 ∨ d = 5 := by omega
  rcases this with rfl | rfl | rfl | rfl | rfl | rfl
  all_goals decide +kernel
theorem ordK_self {d : Nat} (h : d ≤ 5) : ∀ q, q ∈ ordK d d [] → placesL q = q ∧ validB q = true := by
  have : d = 0 ∨ d = 1 ∨ d = 2 ∨ d = 3 ∨ d = 4 ∨ d = 5 := by omega
  rcases this with rfl | rfl | rfl | rfl | rfl | rfl
  all_goals decide +kernel
theorem VF_nil {d : Nat} (h : d ≤ 5) : VF d [] := by
  refine ⟨by omega, by simp, fun f hf => by simp at hf, fun x t => ?_⟩
  have key : ∀ {a c : Int}, Tc [] a c → False := by
    intro a c t
    induction t with
    | base h => simp at h
    | step _ _ h1 _ => exact h1
  exact key t
theorem orO_nil {d : Nat} (h : d ≤ 5) : (orO d []).length = facP d := by
  rw [orO_ag (VF_nil h), ← ordK_fac h]
  congr 1
  exact List.filter_eq_self.2 fun q _ => rfl
/-- Where the items stand, as far as this is known from the first places. -/
def atT (p : List Int) (d i : Nat) : List Int := (List.range d).map fun (v : Nat) => if 0 ≤ fstAt p (v : Int) i then fstAt p (v : Int) i else 0
theorem atT_len (p : List Int) (d i : Nat) : (atT p d i).length = d := by simp [atT]
theorem atT_get {p : List Int} {d i v : Nat} (h : v < d) : (atT p d i).getD v 0 = if 0 ≤ fstAt p v i then fstAt p v i else 0 := by
  simp [atT, List.getD_eq_getElem?_getD, h]
theorem atT_zero (p : List Int) (d : Nat) : atT p d 0 = List.replicate d 0 := by
  simp [atT, fstAt, List.map_const']
theorem atT_up {p : List Int} {d i : Nat} (hp : Beg d p) (hi : i < p.length) : (atT p d i).set (p.getD i 0).toNat i = atT p d (i + 1) := by
  have hpi := hp.at hi
  refine ext_getD (by rw [List.length_set, atT_len, atT_len]) fun j hj => ?_
  rw [List.length_set, atT_len] at hj
  rw [atT_get hj]
  by_cases e : j = (p.getD i 0).toNat
  · subst e
    rw [getD_set_same (by rw [atT_len]; exact hj), Int.toNat_of_nonneg hpi.1]
    have h0 : fstAt p (p.getD i 0) i = -1 := fst_none i fun k hk => fun h => hp.inj hk hi h
    have e9 : fstAt p (p.getD i 0) (i + 1) = i := by rw [fstAt, h0, if_neg (by omega), if_pos rfl]
    rw [e9, if_pos (by omega)]
  · rw [getD_set_ne' (fun h => e h.symm), atT_get hj]
    have hne : p.getD i 0 ≠ (j : Int) := fun h => e (by omega)
    by_cases h0 : 0 ≤ fstAt p j i
    · have e9 : fstAt p j (i + 1) = fstAt p j i := by rw [fstAt, if_pos h0]
      rw [e9]
    · have e9 : fstAt p j (i + 1) = -1 := by rw [fstAt, if_neg h0, if_neg hne]
      rw [e9, if_neg h0, if_neg (by omega)]
theorem atT_end {d : Nat} {p : List Int} (hp : Beg d p) (hl : p.length = d) {v : Int} (hv : 0 ≤ v ∧ v < d) : (atT p d d).getD v.toNat 0 = fstAt p v p.length := by
  obtain ⟨i, h1, h2, h3⟩ := hp.all hl hv
  rw [atT_get (by omega), Int.toNat_of_nonneg hv.1, ← hl, h3, if_pos (by omega)]
theorem ag_lt {d : Nat} {fs : List (Int × Int)} {p : List Int} (h : VF d fs) (hm : p ∈ orO d fs) {f : Int × Int} (hf : f ∈ fs) : fstAt p f.1 p.length < fstAt p f.2 p.length := by
  obtain ⟨hb, hl⟩ := orO_beg h hm
  have hi : itemsIn d fs := by have := h.2.2.1; rwa [Int.toNat_natCast] at this
  rw [orO_ag h] at hm
  have h1 := agB_iff.1 (List.mem_filter.1 hm).2 f hf
  obtain ⟨i, h3, h4, h5⟩ := hb.all hl (hi f hf).1
  obtain ⟨j, h6, h7, h8⟩ := hb.all hl (hi f hf).2
  rw [h5, h8] at h1 ⊢
  rcases Nat.lt_or_ge i j with c | c
  · omega
  · have e : i = j := by omega
    subst e
    exact (h.2.2.2 f.1 (.base (by rw [show (f.1, f.1) = f from Prod.ext rfl (by rw [← h4, ← h7])]; exact hf))).elim


/-! How many questions are enough. -/
def GoodL (d : Nat) (L : List (List Int)) : Prop := L.Nodup ∧ ∀ p, p ∈ L → Beg d p ∧ p.length = d
theorem GoodL.filter {d : Nat} {L : List (List Int)} (h : GoodL d L) (f : List Int → Bool) : GoodL d (L.filter f) := ⟨h.1.filter _, fun p hp => h.2 p (List.mem_filter.1 hp).1⟩
/-- m questions are enough to know what en asks for. -/
def canP (en : List (List Int) → Prop) (d : Nat) : Nat → List (List Int) → Prop
  | 0, L => en L
  | m + 1, L => en L ∨ ∃ i j : Nat, i < j ∧ j < d ∧ L.filter (agB [((i : Int), (j : Int))]) ≠ [] ∧ L.filter (agB [((j : Int), (i : Int))]) ≠ [] ∧ canP en d m (L.filter (agB [((i : Int), (j : Int))])) ∧ canP en d m (L.filter (agB [((j : Int), (i : Int))]))
theorem can_en {en : List (List Int) → Prop} {d : Nat} {L : List (List Int)} (h : en L) : ∀ m, canP en d m L
  | 0 => h
  | _ + 1 => .inl h
theorem can_up {en : List (List Int) → Prop} {d : Nat} : ∀ (m : Nat) {L : List (List Int)}, canP en d m L → canP en d (m + 1) L
  | 0, _, h => .inl h
  | m + 1, _, h => by
    rcases h with h | ⟨i, j, h1, h2, h3, h4, h5, h6⟩
    · exact .inl h
    · exact .inr ⟨i, j, h1, h2, h3, h4, can_up m h5, can_up m h6⟩
theorem can_mono {en : List (List Int) → Prop} {d m k : Nat} {L : List (List Int)} (h : canP en d m L) (hmk : m ≤ k) : canP en d k L := by
  induction hmk with
  | refl => exact h
  | step _ ih => exact can_up _ ih
theorem part_neg {d : Nat} {L : List (List Int)} (hg : GoodL d L) {i j : Nat} (hij : i < j) (hj : j < d) {p : List Int} (hp : p ∈ L) : agB [((j : Int), (i : Int))] p = !agB [((i : Int), (j : Int))] p :=
  (ag_one (a := (i : Int)) (c := (j : Int)) (hg.2 p hp).1 (hg.2 p hp).2 ⟨by omega, by omega⟩ ⟨by omega, by omega⟩ (by omega)).2
theorem part_sum {d : Nat} {L : List (List Int)} (hg : GoodL d L) {i j : Nat} (hij : i < j) (hj : j < d) : (L.filter (agB [((j : Int), (i : Int))])).length + (L.filter (agB [((i : Int), (j : Int))])).length = L.length :=
  filter_neg fun _ hp => part_neg hg hij hj hp
theorem part_some {d : Nat} {L : List (List Int)} (hg : GoodL d L) (h2 : 2 ≤ L.length) : ∃ i j : Nat, i < j ∧ j < d ∧ L.filter (agB [((i : Int), (j : Int))]) ≠ [] ∧ L.filter (agB [((j : Int), (i : Int))]) ≠ [] := by
  have m0 : L[0] ∈ L := List.getElem_mem (by omega)
  have m1 : L[1] ∈ L := List.getElem_mem (by omega)
  have hne : L[0] ≠ L[1] := (List.pairwise_iff_getElem.1 (List.nodup_iff_pairwise_ne.1 hg.1)) 0 1 (by omega) (by omega) (by decide)
  obtain ⟨b0, l0⟩ := hg.2 _ m0
  obtain ⟨b1, l1⟩ := hg.2 _ m1
  obtain ⟨i, k, hik, hk, hag⟩ := two_part b0 b1 l0 l1 hne
  have n0 := part_neg hg hik hk m0
  have n1 := part_neg hg hik hk m1
  refine ⟨i, k, hik, hk, ?_, ?_⟩
  · intro e
    rw [List.filter_eq_nil_iff] at e
    have e0 := e _ m0
    have e1 := e _ m1
    exact hag (by rw [Bool.not_eq_true] at e0 e1; rw [e0, e1])
  · intro e
    rw [List.filter_eq_nil_iff] at e
    have e0 := e _ m0
    have e1 := e _ m1
    rw [n0] at e0
    rw [n1] at e1
    exact hag (by
      cases c0 : agB [((i : Int), (k : Int))] L[0] <;> cases c1 : agB [((i : Int), (k : Int))] L[1] <;> simp_all)
theorem can_len {en : List (List Int) → Prop} {d : Nat} (he : ∀ L, L.length ≤ 1 → en L) : ∀ (m : Nat) {L : List (List Int)}, GoodL d L → L.length ≤ m + 1 → canP en d m L
  | 0, L, _, h => he L (by omega)
  | m + 1, L, hg, h => by
    rcases Nat.lt_or_ge L.length 2 with h1 | h1
    · exact .inl (he L (by omega))
    · obtain ⟨i, j, hij, hj, hy, hn⟩ := part_some hg h1
      have hs := part_sum hg hij hj
      have py := List.length_pos_iff.2 hy
      have pn := List.length_pos_iff.2 hn
      exact .inr ⟨i, j, hij, hj, hy, hn, can_len he m (hg.filter _) (by omega), can_len he m (hg.filter _) (by omega)⟩
/-- The least number of questions. -/
def IsFew (en : List (List Int) → Prop) (d : Nat) (L : List (List Int)) (v : Nat) : Prop := ∀ m, canP en d m L ↔ v ≤ m
theorem IsFew.uni {en : List (List Int) → Prop} {d v w : Nat} {L : List (List Int)} (h : IsFew en d L v) (k : IsFew en d L w) : v = w := by
  have h1 := (k v).1 ((h v).2 (Nat.le_refl _))
  have h2 := (h w).1 ((k w).2 (Nat.le_refl _))
  omega
theorem few_ex {en : List (List Int) → Prop} {d : Nat} {L : List (List Int)} : ∀ m, canP en d m L → ∃ v, v ≤ m ∧ IsFew en d L v
  | 0, h => ⟨0, Nat.le_refl _, fun m => ⟨fun _ => Nat.zero_le _, fun _ => can_mono h (Nat.zero_le _)⟩⟩
  | m + 1, h => by
    by_cases c : canP en d m L
    · obtain ⟨v, h1, h2⟩ := few_ex m c
      exact ⟨v, by omega, h2⟩
    · refine ⟨m + 1, Nat.le_refl _, fun k => ⟨fun hk => ?_, fun hk => can_mono h hk⟩⟩
      rcases Nat.lt_or_ge m k with e | e
      · omega
      · exact (c (can_mono hk e)).elim
noncomputable def fewV (en : List (List Int) → Prop) (d : Nat) (L : List (List Int)) : Nat := by classical exact if h : ∃ v, IsFew en d L v then Classical.choose h else 0
theorem few_is {en : List (List Int) → Prop} {d m : Nat} {L : List (List Int)} (h : canP en d m L) : IsFew en d L (fewV en d L) := by
  obtain ⟨v, _, hv⟩ := few_ex m h
  have hx : ∃ v, IsFew en d L v := ⟨v, hv⟩
  unfold fewV
  rw [dif_pos hx]
  exact Classical.choose_spec hx
theorem few_eq {en : List (List Int) → Prop} {d v : Nat} {L : List (List Int)} (h : IsFew en d L v) : fewV en d L = v :=
  (few_is ((h v).2 (Nat.le_refl _))).uni h
/-- The fewest questions so far, behind those about i and the items ahead of j. -/
def FewTo (en : List (List Int) → Prop) (d : Nat) (L : List (List Int)) (i j s : Nat) : Prop := ∀ m, s ≤ m ↔ (L.length ≤ m ∨ ∃ a b : Nat, a < b ∧ b < d ∧ (a < i ∨ (a = i ∧ b < j)) ∧ L.filter (agB [((a : Int), (b : Int))]) ≠ [] ∧ L.filter (agB [((b : Int), (a : Int))]) ≠ [] ∧ ∃ k, m = k + 1 ∧ canP en d k (L.filter (agB [((a : Int), (b : Int))])) ∧ canP en d k (L.filter (agB [((b : Int), (a : Int))])))
theorem FewTo.zero {en : List (List Int) → Prop} {d : Nat} {L : List (List Int)} : FewTo en d L 0 0 L.length := fun m => by
  constructor
  · exact .inl
  · rintro (h | ⟨a, b, _, _, h | ⟨_, h⟩, _⟩)
    · exact h
    · omega
    · omega
theorem FewTo.le {en : List (List Int) → Prop} {d i j s : Nat} {L : List (List Int)} (h : FewTo en d L i j s) : s ≤ L.length := (h L.length).2 (.inl (Nat.le_refl _))
theorem FewTo.skip {en : List (List Int) → Prop} {d i j s : Nat} {L : List (List Int)} (h : FewTo en d L i j s) (hs : ¬ (i < j ∧ L.filter (agB [((i : Int), (j : Int))]) ≠ [] ∧ L.filter (agB [((j : Int), (i : Int))]) ≠ [])) : FewTo en d L i (j + 1) s := fun m => by
  rw [h m]
  refine or_congr Iff.rfl ⟨?_, ?_⟩
  · rintro ⟨a, b, h1, h2, h3, r⟩
    exact ⟨a, b, h1, h2, h3.imp id fun h => ⟨h.1, by omega⟩, r⟩
  · rintro ⟨a, b, h1, h2, h3, h4, h5, r⟩
    refine ⟨a, b, h1, h2, h3.imp id fun h => ⟨h.1, ?_⟩, h4, h5, r⟩
    rcases Nat.lt_or_ge b j with e | e
    · exact e
    · obtain ⟨e1, e2⟩ := h
      obtain rfl : b = j := by omega
      subst e1
      exact (hs ⟨h1, h4, h5⟩).elim
theorem FewTo.step {en : List (List Int) → Prop} {d i j s v w : Nat} {L : List (List Int)} (h : FewTo en d L i j s) (hij : i < j) (hj : j < d) (hy : L.filter (agB [((i : Int), (j : Int))]) ≠ []) (hn : L.filter (agB [((j : Int), (i : Int))]) ≠ []) (hv : IsFew en d (L.filter (agB [((i : Int), (j : Int))])) v) (hw : IsFew en d (L.filter (agB [((j : Int), (i : Int))])) w) : FewTo en d L i (j + 1) (min s (1 + max v w)) := fun m => by
  have e1 : min s (1 + max v w) ≤ m ↔ (s ≤ m ∨ ∃ k, m = k + 1 ∧ v ≤ k ∧ w ≤ k) := by
    constructor
    · intro e
      rcases Nat.lt_or_ge m s with c | c
      · exact .inr ⟨m - 1, by omega, by omega, by omega⟩
      · exact .inl c
    · rintro (e | ⟨k, e, e2, e3⟩) <;> omega
  rw [e1, h m]
  constructor
  · rintro ((e | ⟨a, b, h1, h2, h3, r⟩) | ⟨k, e, e2, e3⟩)
    · exact .inl e
    · exact .inr ⟨a, b, h1, h2, h3.imp id fun h => ⟨h.1, by omega⟩, r⟩
    · exact .inr ⟨i, j, hij, hj, .inr ⟨rfl, by omega⟩, hy, hn, k, e, (hv k).2 e2, (hw k).2 e3⟩
  · rintro (e | ⟨a, b, h1, h2, h3, h4, h5, k, e, c1, c2⟩)
    · exact .inl (.inl e)
    · by_cases c : a = i ∧ b = j
      · obtain ⟨rfl, rfl⟩ := c
        exact .inr ⟨k, e, (hv k).1 c1, (hw k).1 c2⟩
      · exact .inl (.inr ⟨a, b, h1, h2, h3.imp id fun h => ⟨h.1, by omega⟩, h4, h5, k, e, c1, c2⟩)
theorem FewTo.row {en : List (List Int) → Prop} {d i s : Nat} {L : List (List Int)} (h : FewTo en d L i d s) : FewTo en d L (i + 1) 0 s := fun m => by
  rw [h m]
  refine or_congr Iff.rfl ⟨?_, ?_⟩
  · rintro ⟨a, b, h1, h2, h3, r⟩
    exact ⟨a, b, h1, h2, .inl (by omega), r⟩
  · rintro ⟨a, b, h1, h2, h3, r⟩
    exact ⟨a, b, h1, h2, by omega, r⟩
theorem FewTo.done {en : List (List Int) → Prop} {d s : Nat} {L : List (List Int)} (h : FewTo en d L d 0 s) (hg : GoodL d L) (he : ∀ L, L.length ≤ 1 → en L) (hen : ¬ en L) : IsFew en d L s := fun m => by
  rw [h m]
  constructor
  · intro c
    cases m with
    | zero => exact (hen c).elim
    | succ k =>
      rcases c with c | ⟨i, j, h1, h2, h3, h4, h5, h6⟩
      · exact (hen c).elim
      · exact .inr ⟨i, j, h1, h2, .inl (by omega), h3, h4, k, rfl, h5, h6⟩
  · rintro (c | ⟨a, b, h1, h2, _, h4, h5, k, e, c1, c2⟩)
    · exact can_len he m hg (by omega)
    · subst e
      exact .inr ⟨a, b, h1, h2, h4, h5, c1, c2⟩
theorem few_zero {en : List (List Int) → Prop} {d : Nat} {L : List (List Int)} (h : en L) : IsFew en d L 0 := fun m => ⟨fun _ => Nat.zero_le _, fun _ => can_en h m⟩
/-- What is enough: one order is left; one item stands at a place. -/
def enL (L : List (List Int)) : Prop := L.length ≤ 1
def enK (k : Nat) (L : List (List Int)) : Prop := ∀ p q, p ∈ L → q ∈ L → p.getD k 0 = q.getD k 0
theorem enL_few : ∀ L, L.length ≤ 1 → enL L := fun _ h => h
theorem enK_few {k : Nat} : ∀ L, L.length ≤ 1 → enK k L := fun L h p q hp hq => by
  match L, h with
  | [], _ => simp at hp
  | [a], _ => rw [List.mem_singleton.1 hp, List.mem_singleton.1 hq]
/-- How many items are found at a place. -/
def hasX (L : List (List Int)) (k x : Nat) : Nat := if L.any (fun p => p.getD k 0 == (x : Int)) then 1 else 0
def kdK (k : Nat) (L : List (List Int)) : Nat := hasX L k 0 + hasX L k 1 + hasX L k 2 + hasX L k 3 + hasX L k 4
theorem hasX_iff {L : List (List Int)} {k x : Nat} : hasX L k x = 1 ↔ ∃ p, p ∈ L ∧ p.getD k 0 = (x : Int) := by
  unfold hasX
  split
  · rename_i h
    rw [List.any_eq_true] at h
    obtain ⟨p, hp, e⟩ := h
    exact ⟨fun _ => ⟨p, hp, by simpa using e⟩, fun _ => rfl⟩
  · rename_i h
    refine ⟨fun e => by omega, fun ⟨p, hp, e⟩ => (h (List.any_eq_true.2 ⟨p, hp, by simpa using e⟩)).elim⟩
theorem hasX_le (L : List (List Int)) (k x : Nat) : hasX L k x ≤ 1 := by unfold hasX; split <;> omega
theorem hasX_add {L A B : List (List Int)} {k x : Nat} (h : ∀ p, p ∈ L → p ∈ A ∨ p ∈ B) : hasX L k x ≤ hasX A k x + hasX B k x := by
  have h1 := hasX_le L k x
  by_cases c : hasX L k x = 1
  · obtain ⟨p, hp, e⟩ := hasX_iff.1 c
    rcases h p hp with q | q
    · have := hasX_iff.2 ⟨p, q, e⟩; omega
    · have := hasX_iff.2 ⟨p, q, e⟩; omega
  · omega
theorem hasX_two {L : List (List Int)} {k x y : Nat} (h : enK k L) (hxy : x ≠ y) : hasX L k x + hasX L k y ≤ 1 := by
  have h1 := hasX_le L k x
  have h2 := hasX_le L k y
  by_cases c : hasX L k x = 1 ∧ hasX L k y = 1
  · obtain ⟨p, hp, e⟩ := hasX_iff.1 c.1
    obtain ⟨q, hq, f⟩ := hasX_iff.1 c.2
    have := h p q hp hq
    omega
  · omega
theorem kdK_en {d k : Nat} {L : List (List Int)} (hg : GoodL d L) (hd : d ≤ 5) (hk : k < d) : enK k L ↔ kdK k L ≤ 1 := by
  unfold kdK
  constructor
  · intro h
    have := hasX_two h (show (0 : Nat) ≠ 1 by decide)
    have := hasX_two h (show (0 : Nat) ≠ 2 by decide)
    have := hasX_two h (show (0 : Nat) ≠ 3 by decide)
    have := hasX_two h (show (0 : Nat) ≠ 4 by decide)
    have := hasX_two h (show (1 : Nat) ≠ 2 by decide)
    have := hasX_two h (show (1 : Nat) ≠ 3 by decide)
    have := hasX_two h (show (1 : Nat) ≠ 4 by decide)
    have := hasX_two h (show (2 : Nat) ≠ 3 by decide)
    have := hasX_two h (show (2 : Nat) ≠ 4 by decide)
    have := hasX_two h (show (3 : Nat) ≠ 4 by decide)
    omega
  · intro h p q hp hq
    obtain ⟨b1, l1⟩ := hg.2 p hp
    obtain ⟨b2, l2⟩ := hg.2 q hq
    have r1 := b1.at (i := k) (by omega)
    have r2 := b2.at (i := k) (by omega)
    obtain ⟨x, hx⟩ : ∃ x : Nat, p.getD k 0 = x := ⟨(p.getD k 0).toNat, by omega⟩
    obtain ⟨y, hy⟩ : ∃ y : Nat, q.getD k 0 = y := ⟨(q.getD k 0).toNat, by omega⟩
    have e1 := hasX_iff.2 ⟨p, hp, hx⟩
    have e2 := hasX_iff.2 ⟨q, hq, hy⟩
    rw [hx, hy]
    have x5 : x = 0 ∨ x = 1 ∨ x = 2 ∨ x = 3 ∨ x = 4 := by omega
    have y5 : y = 0 ∨ y = 1 ∨ y = 2 ∨ y = 3 ∨ y = 4 := by omega
    rcases x5 with rfl | rfl | rfl | rfl | rfl <;> rcases y5 with rfl | rfl | rfl | rfl | rfl <;> first | rfl | (exfalso; omega)
/-- Kinds of orders: what is enough is one kind at most; a question parts them. -/
structure Kinds (d : Nat) (en : List (List Int) → Prop) (kd : List (List Int) → Nat) : Prop where
  one : ∀ L, GoodL d L → (en L ↔ kd L ≤ 1)
  add : ∀ L A B, GoodL d L → (∀ p, p ∈ L → p ∈ A ∨ p ∈ B) → A.length + B.length = L.length → kd L ≤ kd A + kd B
  few : ∀ L, L.length ≤ 1 → en L
theorem kinds_L {d : Nat} : Kinds d enL List.length := ⟨fun _ _ => Iff.rfl, fun _ _ _ _ _ h => by omega, enL_few⟩
theorem kinds_K {d k : Nat} (hd : d ≤ 5) (hk : k < d) : Kinds d (enK k) (kdK k) := ⟨fun _ hg => kdK_en hg hd hk, fun L A B _ h _ => by
  have := hasX_add (k := k) (x := 0) h
  have := hasX_add (k := k) (x := 1) h
  have := hasX_add (k := k) (x := 2) h
  have := hasX_add (k := k) (x := 3) h
  have := hasX_add (k := k) (x := 4) h
  unfold kdK; omega, enK_few⟩
theorem can_bits {d : Nat} {en : List (List Int) → Prop} {kd : List (List Int) → Nat} (hK : Kinds d en kd) : ∀ (m : Nat) {L : List (List Int)}, GoodL d L → canP en d m L → kd L ≤ 2 ^ m
  | 0, L, hg, h => (hK.one L hg).1 h
  | m + 1, L, hg, h => by
    have hp : 1 ≤ 2 ^ (m + 1) := Nat.one_le_two_pow
    rcases h with h | ⟨i, j, h1, h2, h3, h4, h5, h6⟩
    · have := (hK.one L hg).1 h; omega
    · have a1 := can_bits hK m (hg.filter _) h5
      have a2 := can_bits hK m (hg.filter _) h6
      have a3 := hK.add L (L.filter (agB [((i : Int), (j : Int))])) (L.filter (agB [((j : Int), (i : Int))])) hg (fun p hp => by
        cases c : agB [((i : Int), (j : Int))] p with
        | true => exact .inl (List.mem_filter.2 ⟨hp, c⟩)
        | false => exact .inr (List.mem_filter.2 ⟨hp, by rw [part_neg hg h1 h2 hp, c]; rfl⟩)) (by have := part_sum hg h1 h2; omega)
      have : 2 ^ (m + 1) = 2 * 2 ^ m := by rw [Nat.pow_succ]; omega
      omega

theorem GoodL.row {d : Nat} {L : List (List Int)} (h : GoodL d L) {j : Nat} (hj : j < L.length) : (L.getD j []).length = d ∧ L.getD j [] ∈ L ∧ Beg d (L.getD j []) := by
  have hm : L.getD j [] ∈ L := by
    rw [List.getD_eq_getElem?_getD, List.getElem?_eq_getElem hj]; exact List.getElem_mem hj
  exact ⟨(h.2 _ hm).2, hm, (h.2 _ hm).1⟩
theorem GoodL.rowle {d : Nat} {L : List (List Int)} (h : GoodL d L) (hd : d ≤ 5) (j : Nat) : (L.getD j []).length ≤ 1000 := by
  rcases Nat.lt_or_ge j L.length with c | c
  · have := (h.row c).1; omega
  · rw [List.getD_eq_getElem?_getD, List.getElem?_eq_none c]; simp
theorem enK_to {k : Nat} {L : List (List Int)} (h : ∀ j, j < L.length → (L.getD j []).getD k 0 = (L.getD 0 []).getD k 0) : enK k L := by
  have key : ∀ p, p ∈ L → p.getD k 0 = (L.getD 0 []).getD k 0 := fun p hp => by
    obtain ⟨j, hj, e⟩ := List.getElem_of_mem hp
    have := h j hj
    rwa [List.getD_eq_getElem?_getD (l := L) (i := j), List.getElem?_eq_getElem hj, Option.getD_some, e] at this
  exact fun p q hp hq => (key p hp).trans (key q hq).symm
/-- In the rounds of fewestAsks: the boxes, the two loops' records, the fewest questions so far. -/
structure QF (H0 : Hp) (n O d len : Nat) (E : AV) (KF : FuncId) (LP LQ : Loop) (s : Nat) (G : Hp) (M : Nat) : Prop where
  fr : ∀ u, u < n → G u = H0 u
  mn : n + 10 ≤ M
  c0 : G n = some ⟨true, .cells [.val (.int .i64 d)]⟩
  c1 : G (n + 1) = some ⟨true, .cells [.sl O 0 len 1 none]⟩
  c2 : G (n + 2) = some ⟨true, .cells [E]⟩
  c3 : G (n + 3) = some ⟨true, .cells [.val (.int .i64 s)]⟩
  c4 : G (n + 4) = some ⟨true, .cells [.val (.int .i64 d)]⟩
  c6 : G (n + 6) = some ⟨true, .cells [.val (.func (.func KF) #[] #[])]⟩
  c7 : G (n + 7) = some ⟨true, .raw (.loop LP)⟩
  c8 : G (n + 8) = some ⟨true, .cells [.yl (n + 7)]⟩
  c9 : G (n + 9) = some ⟨true, .raw (.loop LQ)⟩
theorem QF.up {H0 : Hp} {n O d len : Nat} {E : AV} {KF : FuncId} {LP LQ : Loop} {s : Nat} {G : Hp} {M : Nat} (b : QF H0 n O d len E KF LP LQ s G M) {G2 : Hp} {M2 : Nat} (hM : M ≤ M2) (e : ∀ u, u < M → G2 u = G u) : QF H0 n O d len E KF LP LQ s G2 M2 := by
  have h1 := b.mn
  exact ⟨fun u hu => (e u (by omega)).trans (b.fr u hu), by omega, (e _ (by omega)).trans b.c0, (e _ (by omega)).trans b.c1, (e _ (by omega)).trans b.c2, (e _ (by omega)).trans b.c3, (e _ (by omega)).trans b.c4, (e _ (by omega)).trans b.c6, (e _ (by omega)).trans b.c7, (e _ (by omega)).trans b.c8, (e _ (by omega)).trans b.c9⟩


theorem leastEn_sat : SatH Try.prog 51 (fun al h n K => ∃ (O : Nat) (xss : List (List Int)), al = [.sl O 0 xss.length 1 none] ∧ (xss.length ≤ 500) ∧ ∀ v : Bool, (v = true ↔ enL xss) → K (.val (.bool (v))) (h) (n)) := by
  refine satH_intro tabOk Try.func51 rfl 6 rfl [.tmp 2] rfl ?_
  rintro F W h n al K0 ⟨O, xss, rfl, hxl, hQ⟩
  refine ⟨Nat.le_of_ble_eq_true rfl, fun m0 hm0 hcl hlt => ?_⟩
  simp only [initT]
  repeat' (first | refine awp_seq_k fun K hK => ?_ | ((with_reducible refine hK _ ?_); clear hK K) | ((with_reducible refine aord_plain fun K hK => ?_); simp only [go_sem, Nat.reduceAdd, Nat.reduceMul, Nat.reduceEqDiff, Nat.reduceLT, reduceIte, reduceCtorEq]) | ((first | with_reducible refine aord_nil ?_ | refine awp_skip ?_ | refine awp_exit ?_ | refine awp_ret ?_); try simp only [rdA, Nat.reduceEqDiff, ifA, ifB, reduceIte]) | (refine awp_region tabOk rfl ?_; simp only [prep, pickO, lsA, lsB, lsC, lsD, lsE, lsF, lsG]) | (simp only [doneH]; simp only [ressK, resK, wrapR, go_sem, Nat.reduceAdd, Nat.reduceMul, Nat.reduceEqDiff, Nat.reduceLT, reduceIte, reduceCtorEq]) | fail)
  refine hQ _ ?_
  rw [decide_eq_true_eq]; unfold enL; omega


end Go.Proofs.Ytacmgdaonacmeaa
