/- Contracts of functions of the program. -/
import Derived.Test.YtcpjbniehenmoaaPPF2a
import Derived.ScopeJumps
namespace Go.Proofs.Ytcpjbniehenmoaa
open Go Go.Ab
set_option linter.all false
set_option maxHeartbeats 4000000

theorem pick_sat : SatH Try.prog 55 (fun al h n K => ∃ (bs : List Int) (L : Nat) (lim : Option Nat) (k : Int) (q : Nat), al = [.ref 1 0, .val (.int .i64 (k))] ∧ (h 0 = some ⟨false, .ints .u8 bs⟩) ∧ (h 1 = some ⟨true, .cells [.sl 0 0 L 1 lim, .val (.int .i64 q)]⟩) ∧ (L ≤ bs.length ∧ L ≤ 1099511627776) ∧ (bytesOk bs) ∧ (q ≤ 1000000 ∧ k ≤ 1000000) ∧ ∀ v : Int, 0 ≤ v → v < max k 1 → K (.val (.int .i64 (v))) (upd h 1 (some ⟨true, .cells [.sl 0 0 L 1 lim, .val (.int .i64 ((q : Int) + 1))]⟩)) (n)) := by
  refine satH_intro tabOk Try.func55 rfl 99 rfl [.tmp 4] rfl ?_
  rintro F W h n al K0 ⟨bs, L, lim, k, q, rfl, h0, h1, hL, hbs, hq, hQ⟩
  refine ⟨Nat.le_of_ble_eq_true rfl, fun m0 hm0 hcl hlt => ?_⟩
  simp only [initT]
  have hm : ∀ a : Int, 1 ≤ k → 0 ≤ a % k ∧ a % k < k := fun a h => ⟨Int.emod_nonneg a (by omega), Int.emod_lt_of_pos a (by omega)⟩
  have hB0 := hbs ((q : Int) + 1 - 1).toNat
  have hL1 : (L : Int) ≠ 0 → 0 ≤ ((q : Int) + 1 - 1) % (L : Int) ∧ ((q : Int) + 1 - 1) % (L : Int) < L := fun h => ⟨Int.emod_nonneg _ h, Int.emod_lt_of_pos _ (by omega)⟩
  have hL2 : (L : Int) ≠ 0 → 0 ≤ (((q : Int) + 1 - 1) * 7 + 3) % (L : Int) ∧ (((q : Int) + 1 - 1) * 7 + 3) % (L : Int) < L := fun h => ⟨Int.emod_nonneg _ h, Int.emod_lt_of_pos _ (by omega)⟩
  have hL3 : (L : Int) ≠ 0 → 0 ≤ ((q : Int) + 1 - 1) / (L : Int) ∧ ((q : Int) + 1 - 1) / (L : Int) ≤ q := fun h => ⟨Int.ediv_nonneg (by omega) (by omega), Int.le_trans (Int.ediv_le_self _ (by omega)) (by omega)⟩
  have hB1 := hbs (((q : Int) + 1 - 1) % (L : Int)).toNat
  have hB2 := hbs ((((q : Int) + 1 - 1) * 7 + 3) % (L : Int)).toNat
  repeat' (first | refine awp_seq_k fun K hK => ?_ | ((with_reducible refine hK _ ?_); clear hK K) | (clear hK K; (with_reducible refine hK _ ?_); clear hK K) | (clear hK K; clear hK K; (with_reducible refine hK _ ?_); clear hK K) | (clear hK K; clear hK K; clear hK K; (with_reducible refine hK _ ?_); clear hK K) | (clear hK K; clear hK K; clear hK K; clear hK K; (with_reducible refine hK _ ?_); clear hK K) | (clear hK K; clear hK K; clear hK K; clear hK K; clear hK K; (with_reducible refine hK _ ?_); clear hK K) | ((with_reducible refine aord_plain fun K hK => ?_); simp only [go_sem, Nat.reduceAdd, Nat.reduceMul, Nat.reduceEqDiff, Nat.reduceLT, reduceIte, reduceCtorEq, h0, h1]) | ((with_reducible apply aord_guard); (focus (simp only [St.ev, St.set, upd, Nat.reduceEqDiff, reduceIte, if_false, if_true]; exact rfl)); all_goals (intro hb; (try simp only [Bool.not_true, Bool.not_false] at hb); first | (cases hb; done) | ((try rw [hb]); (try simp only [Bool.not_eq_true', Bool.not_eq_false', Bool.and_eq_true, decide_eq_true_eq, decide_eq_false_iff_not, beq_iff_eq, bne_iff_ne, beq_eq_false_iff_ne, bne_eq_false_iff_eq, Int.not_lt, Int.not_le] at hb); (try (revert hb; with_reducible refine true_imp_iff.2 ?_)); first | (intro K hK; simp only [go_sem, Nat.reduceAdd, Nat.reduceMul, Nat.reduceEqDiff, Nat.reduceLT, reduceIte, reduceCtorEq]) | (simp only [St.ev, St.set, upd, Nat.reduceEqDiff, reduceIte, if_false, if_true]) | skip))) | ((with_reducible apply aord_skip); (focus (simp only [St.ev, St.set, upd, Nat.reduceEqDiff, reduceIte, if_false, if_true]; done)); (simp only [St.ev, St.set, upd, Nat.reduceEqDiff, reduceIte, if_false, if_true])) | refine awp_block ?_ | ((first | with_reducible refine aord_nil ?_ | refine awp_skip ?_ | refine awp_exit ?_ | refine awp_ret ?_); try simp only [thenA_normal, thenA_exit, thenA_goto, thenA_ret, blockA_normal, blockA_same, blockA_exit, blockA_goto, blockA_ret, Nat.reduceEqDiff, if_false, if_true, reduceIte]) | (refine awp_region tabOk rfl ?_; simp only [prep, pickO, List.map_cons, List.map_nil, List.getElem?_toArray, List.getElem?_cons_succ, List.getElem?_cons_zero, Option.bind_some, Option.map_some]) | (refine awp_region_draw (nt := 99) (id := 7) tabOk [(0, true, false), (1, true, false), (2, true, false), (3, true, false), (4, true, false), (5, true, false), (6, true, false), (7, true, false), (8, true, false), (9, true, false), (10, true, false), (11, true, false), (12, true, false), (13, true, false), (14, true, false), (15, true, false), (16, true, false), (17, true, false), (18, true, false), (19, true, false), (20, true, false), (21, true, false), (22, true, false), (23, true, false), (24, true, false), (25, true, false), (26, true, false), (27, true, false), (28, true, false), (29, true, false), (30, true, false), (31, true, false), (32, true, false), (33, true, false), (34, true, false), (35, true, false), (36, true, false), (37, true, false), (38, true, false), (39, true, false), (40, true, false), (41, true, false), (42, true, false), (43, true, false), (44, true, false), (45, true, false)] (by kernel_rfl) rfl (by kernel_rfl) ?_; simp only [prep, pickO, List.map_cons, List.map_nil, List.getElem?_toArray, List.getElem?_cons_succ, List.getElem?_cons_zero, Option.bind_some, Option.map_some]) | ((with_reducible apply awp_cond); (focus (simp only [St.ev, St.set, upd, Nat.reduceEqDiff, reduceIte, if_false, if_true]; exact rfl)); all_goals (intro hb; first | (cases hb; done) | ((try rw [hb]); (try simp only [decide_eq_true_eq, decide_eq_false_iff_not, beq_iff_eq, bne_iff_ne, beq_eq_false_iff_ne, bne_eq_false_iff_eq, Int.not_lt, Int.not_le, Bool.not_eq_true', Bool.not_eq_false'] at hb)))) | ((with_reducible refine And.intro ?_ ?_); (focus omega)) | ((with_reducible refine And.intro ?_ ?_); (focus (exact rfl))) | (refine aStoreAll_ints (by simp only [St.ev, St.set, upd, Nat.reduceEqDiff, reduceIte, if_false, if_true]; exact rfl) ?_ ?_ ?_ ?_; (focus (first | rfl | omega | (simp; done) | (simp; omega) | (simp [szOf, tab]; done) | (simp [szOf, tab]; omega))); (focus (first | rfl | omega | (simp; done) | (simp; omega) | (simp [szOf, tab]; done) | (simp [szOf, tab]; omega))); (focus (first | rfl | omega | (simp; done) | (simp; omega) | (simp [szOf, tab]; done) | (simp [szOf, tab]; omega))); (try simp only [go_sem, Nat.reduceAdd, Nat.reduceMul, Nat.reduceEqDiff, Nat.reduceLT, reduceIte, reduceCtorEq])) | (simp only [doneH]; simp only [ressK, resK, wrapR, go_sem, Nat.reduceAdd, Nat.reduceMul, Nat.reduceEqDiff, Nat.reduceLT, reduceIte, reduceCtorEq]) | (refine aStoreAll_cells (by simp only [St.ev, St.set, upd, Nat.reduceEqDiff, reduceIte, if_false, if_true]; exact rfl) ?_ ?_ ?_ ?_ ?_; (focus (first | rfl | omega | (simp; done) | (simp; omega) | (simp [szOf, tab]; done) | (simp [szOf, tab]; omega))); (focus (first | rfl | omega | (simp; done) | (simp; omega) | (simp [szOf, tab]; done) | (simp [szOf, tab]; omega))); (focus (first | rfl | omega | (simp; done) | (simp; omega) | (simp [szOf, tab]; done) | (simp [szOf, tab]; omega))); (focus (first | rfl | (simp [AV.cell, Value.oneCell']; done))); (try simp only [go_sem, Nat.reduceAdd, Nat.reduceMul, Nat.reduceEqDiff, Nat.reduceLT, reduceIte, reduceCtorEq])) | (with_reducible refine And.intro (fun hb => ?_) (fun hb => ?_)) | (exfalso; omega) | fail)
  all_goals first | (exact hQ 0 (by omega) (by omega)) | (exact hQ _ (hm _ (by omega)).1 (by have h9 := (hm (bs.getD ((q : Int) + 1 - 1).toNat 0) (by omega)).2; omega)) | skip
  refine ⟨_, fun P w => rfl, ?_⟩
  have hx := bits_xor_in (bs.getD (((q : Int) + 1 - 1) % (L : Int)).toNat 0 * 131 + bs.getD ((((q : Int) + 1 - 1) * 7 + 3) % (L : Int)).toNat 0 * 1117 + ((q : Int) + 1 - 1) * 29 + ((q : Int) + 1 - 1) / (L : Int) * 53) ((bs.getD (((q : Int) + 1 - 1) % (L : Int)).toNat 0 * 131 + bs.getD ((((q : Int) + 1 - 1) * 7 + 3) % (L : Int)).toNat 0 * 1117 + ((q : Int) + 1 - 1) * 29 + ((q : Int) + 1 - 1) / (L : Int) * 53) / 64) (by omega) (by omega)
  generalize bits .xor .i64 (bs.getD (((q : Int) + 1 - 1) % (L : Int)).toNat 0 * 131 + bs.getD ((((q : Int) + 1 - 1) * 7 + 3) % (L : Int)).toNat 0 * 1117 + ((q : Int) + 1 - 1) * 29 + ((q : Int) + 1 - 1) / (L : Int) * 53) ((bs.getD (((q : Int) + 1 - 1) % (L : Int)).toNat 0 * 131 + bs.getD ((((q : Int) + 1 - 1) * 7 + 3) % (L : Int)).toNat 0 * 1117 + ((q : Int) + 1 - 1) * 29 + ((q : Int) + 1 - 1) / (L : Int) * 53) / 64) = x at *
  repeat' (first | refine awp_seq_k fun K hK => ?_ | ((with_reducible refine hK _ ?_); clear hK K) | (clear hK K; (with_reducible refine hK _ ?_); clear hK K) | (clear hK K; clear hK K; (with_reducible refine hK _ ?_); clear hK K) | (clear hK K; clear hK K; clear hK K; (with_reducible refine hK _ ?_); clear hK K) | (clear hK K; clear hK K; clear hK K; clear hK K; (with_reducible refine hK _ ?_); clear hK K) | (clear hK K; clear hK K; clear hK K; clear hK K; clear hK K; (with_reducible refine hK _ ?_); clear hK K) | ((with_reducible refine aord_plain fun K hK => ?_); simp only [go_sem, Nat.reduceAdd, Nat.reduceMul, Nat.reduceEqDiff, Nat.reduceLT, reduceIte, reduceCtorEq, h0, h1]) | ((with_reducible apply aord_guard); (focus (simp only [St.ev, St.set, upd, Nat.reduceEqDiff, reduceIte, if_false, if_true]; exact rfl)); all_goals (intro hb; (try simp only [Bool.not_true, Bool.not_false] at hb); first | (cases hb; done) | ((try rw [hb]); (try simp only [Bool.not_eq_true', Bool.not_eq_false', Bool.and_eq_true, decide_eq_true_eq, decide_eq_false_iff_not, beq_iff_eq, bne_iff_ne, beq_eq_false_iff_ne, bne_eq_false_iff_eq, Int.not_lt, Int.not_le] at hb); (try (revert hb; with_reducible refine true_imp_iff.2 ?_)); first | (intro K hK; simp only [go_sem, Nat.reduceAdd, Nat.reduceMul, Nat.reduceEqDiff, Nat.reduceLT, reduceIte, reduceCtorEq]) | (simp only [St.ev, St.set, upd, Nat.reduceEqDiff, reduceIte, if_false, if_true]) | skip))) | ((with_reducible apply aord_skip); (focus (simp only [St.ev, St.set, upd, Nat.reduceEqDiff, reduceIte, if_false, if_true]; done)); (simp only [St.ev, St.set, upd, Nat.reduceEqDiff, reduceIte, if_false, if_true])) | refine awp_block ?_ | ((first | with_reducible refine aord_nil ?_ | refine awp_skip ?_ | refine awp_exit ?_ | refine awp_ret ?_); try simp only [thenA_normal, thenA_exit, thenA_goto, thenA_ret, blockA_normal, blockA_same, blockA_exit, blockA_goto, blockA_ret, Nat.reduceEqDiff, if_false, if_true, reduceIte]) | (refine awp_region tabOk rfl ?_; simp only [prep, pickO, List.map_cons, List.map_nil, List.getElem?_toArray, List.getElem?_cons_succ, List.getElem?_cons_zero, Option.bind_some, Option.map_some]) | (refine awp_region_draw (nt := 99) (id := 7) tabOk [(0, true, false), (1, true, false), (2, true, false), (3, true, false), (4, true, false), (5, true, false), (6, true, false), (7, true, false), (8, true, false), (9, true, false), (10, true, false), (11, true, false), (12, true, false), (13, true, false), (14, true, false), (15, true, false), (16, true, false), (17, true, false), (18, true, false), (19, true, false), (20, true, false), (21, true, false), (22, true, false), (23, true, false), (24, true, false), (25, true, false), (26, true, false), (27, true, false), (28, true, false), (29, true, false), (30, true, false), (31, true, false), (32, true, false), (33, true, false), (34, true, false), (35, true, false), (36, true, false), (37, true, false), (38, true, false), (39, true, false), (40, true, false), (41, true, false), (42, true, false), (43, true, false), (44, true, false), (45, true, false)] (by kernel_rfl) rfl (by kernel_rfl) ?_; simp only [prep, pickO, List.map_cons, List.map_nil, List.getElem?_toArray, List.getElem?_cons_succ, List.getElem?_cons_zero, Option.bind_some, Option.map_some]) | ((with_reducible apply awp_cond); (focus (simp only [St.ev, St.set, upd, Nat.reduceEqDiff, reduceIte, if_false, if_true]; exact rfl)); all_goals (intro hb; first | (cases hb; done) | ((try rw [hb]); (try simp only [decide_eq_true_eq, decide_eq_false_iff_not, beq_iff_eq, bne_iff_ne, beq_eq_false_iff_ne, bne_eq_false_iff_eq, Int.not_lt, Int.not_le, Bool.not_eq_true', Bool.not_eq_false'] at hb)))) | ((with_reducible refine And.intro ?_ ?_); (focus omega)) | ((with_reducible refine And.intro ?_ ?_); (focus (exact rfl))) | (refine aStoreAll_ints (by simp only [St.ev, St.set, upd, Nat.reduceEqDiff, reduceIte, if_false, if_true]; exact rfl) ?_ ?_ ?_ ?_; (focus (first | rfl | omega | (simp; done) | (simp; omega) | (simp [szOf, tab]; done) | (simp [szOf, tab]; omega))); (focus (first | rfl | omega | (simp; done) | (simp; omega) | (simp [szOf, tab]; done) | (simp [szOf, tab]; omega))); (focus (first | rfl | omega | (simp; done) | (simp; omega) | (simp [szOf, tab]; done) | (simp [szOf, tab]; omega))); (try simp only [go_sem, Nat.reduceAdd, Nat.reduceMul, Nat.reduceEqDiff, Nat.reduceLT, reduceIte, reduceCtorEq])) | (simp only [doneH]; simp only [ressK, resK, wrapR, go_sem, Nat.reduceAdd, Nat.reduceMul, Nat.reduceEqDiff, Nat.reduceLT, reduceIte, reduceCtorEq]) | (refine aStoreAll_cells (by simp only [St.ev, St.set, upd, Nat.reduceEqDiff, reduceIte, if_false, if_true]; exact rfl) ?_ ?_ ?_ ?_ ?_; (focus (first | rfl | omega | (simp; done) | (simp; omega) | (simp [szOf, tab]; done) | (simp [szOf, tab]; omega))); (focus (first | rfl | omega | (simp; done) | (simp; omega) | (simp [szOf, tab]; done) | (simp [szOf, tab]; omega))); (focus (first | rfl | omega | (simp; done) | (simp; omega) | (simp [szOf, tab]; done) | (simp [szOf, tab]; omega))); (focus (first | rfl | (simp [AV.cell, Value.oneCell']; done))); (try simp only [go_sem, Nat.reduceAdd, Nat.reduceMul, Nat.reduceEqDiff, Nat.reduceLT, reduceIte, reduceCtorEq])) | (with_reducible refine And.intro (fun hb => ?_) (fun hb => ?_)) | (exfalso; omega) | fail)
  all_goals exact hQ _ (hm _ (by omega)).1 (by have h9 := (hm x (by omega)).2; omega)


theorem isRet {P : Program} {tab : Tab} {Γ : Ctx} {nt : Nat} {rs : List ResultVar} {s : St} (K0 : AV → Hp → Nat → Prop) (h : AWP Γ nt P .ret (doneH tab rs K0) s) : AWP Γ nt P .ret (doneH tab rs K0) s := h


theorem one_sat : SatH Try.prog 75 (fun al h n K => ∃ (bs : List Int) (L : Nat) (lim : Option Nat) (j m : Nat) (zs : List Int) (q : Nat), al = [.ref 1 0, .sl j 0 m 1 none] ∧ (h 0 = some ⟨false, .ints .u8 bs⟩) ∧ (h 1 = some ⟨true, .cells [.sl 0 0 L 1 lim, .val (.int .i64 q)]⟩) ∧ (L ≤ bs.length ∧ L ≤ 1099511627776) ∧ (bytesOk bs) ∧ (h j = some ⟨true, .ints .i64 zs⟩) ∧ (j ≠ 1) ∧ (m = zs.length ∧ 0 < m ∧ m ≤ 1000) ∧ (q ≤ 1000000) ∧ ∀ v : Nat, v < m → K (.val (.int .i64 ((zs.getD v 0)))) (upd h 1 (some ⟨true, .cells [.sl 0 0 L 1 lim, .val (.int .i64 ((q : Int) + 1))]⟩)) (n)) := by
  refine satH_intro tabOk Try.func75 rfl 12 rfl [.tmp 4] rfl ?_
  rintro F W h n al K0 ⟨bs, L, lim, j, m, zs, q, rfl, h0, h1, hL, hbs, hj, hj1, hm, hq, hQ⟩
  refine ⟨Nat.le_of_ble_eq_true rfl, fun m0 hm0 hcl hlt => ?_⟩
  simp only [initT]
  have hne : (j = 1) = False := eq_false hj1
  repeat' (first | refine awp_seq_k fun K hK => ?_ | ((with_reducible refine hK _ ?_); clear hK K) | (clear hK K; (with_reducible refine hK _ ?_); clear hK K) | (clear hK K; clear hK K; (with_reducible refine hK _ ?_); clear hK K) | (clear hK K; clear hK K; clear hK K; (with_reducible refine hK _ ?_); clear hK K) | (clear hK K; clear hK K; clear hK K; clear hK K; (with_reducible refine hK _ ?_); clear hK K) | (clear hK K; clear hK K; clear hK K; clear hK K; clear hK K; (with_reducible refine hK _ ?_); clear hK K) | ((with_reducible refine aord_plain fun K hK => ?_); simp only [go_sem, Nat.reduceAdd, Nat.reduceMul, Nat.reduceEqDiff, Nat.reduceLT, reduceIte, reduceCtorEq, h0, h1, hj, hne]) | refine awp_block ?_ | ((first | with_reducible refine aord_nil ?_ | refine awp_skip ?_ | refine awp_exit ?_ | refine awp_ret ?_); try simp only [thenA_normal, thenA_exit, thenA_goto, thenA_ret, blockA_normal, blockA_same, blockA_exit, blockA_goto, blockA_ret, Nat.reduceEqDiff, if_false, if_true, reduceIte]) | (refine awp_region tabOk rfl ?_; simp only [prep, pickO, List.map_cons, List.map_nil, List.getElem?_toArray, List.getElem?_cons_succ, List.getElem?_cons_zero, Option.bind_some, Option.map_some]) | ((with_reducible refine And.intro ?_ ?_); (focus omega)) | ((with_reducible refine And.intro ?_ ?_); (focus (exact rfl))) | ((with_reducible refine And.intro (?_ : enters Try.prog 55) ?_); (focus exact Try.call55); (refine callX_satH pick_sat ?_); simp only [go_sem, and_assoc, List.nil_append, List.append_nil, List.cons_append, Nat.reduceEqDiff, reduceIte, reduceCtorEq, h0, h1, hj, hne]) | (simp only [doneH]; simp only [ressK, resK, wrapR, go_sem, Nat.reduceAdd, Nat.reduceMul, Nat.reduceEqDiff, Nat.reduceLT, reduceIte, reduceCtorEq]) | (with_reducible refine And.intro (fun hb => ?_) (fun hb => ?_)) | (exfalso; omega) | fail)
  refine ⟨L, lim, q, rfl, hL.1, hL.2, hbs, hq, by omega, ?_⟩
  intro v hv0 hv1
  repeat' (first | refine awp_seq_k fun K hK => ?_ | ((with_reducible refine hK _ ?_); clear hK K) | (clear hK K; (with_reducible refine hK _ ?_); clear hK K) | (clear hK K; clear hK K; (with_reducible refine hK _ ?_); clear hK K) | (clear hK K; clear hK K; clear hK K; (with_reducible refine hK _ ?_); clear hK K) | (clear hK K; clear hK K; clear hK K; clear hK K; (with_reducible refine hK _ ?_); clear hK K) | (clear hK K; clear hK K; clear hK K; clear hK K; clear hK K; (with_reducible refine hK _ ?_); clear hK K) | ((with_reducible refine aord_plain fun K hK => ?_); simp only [go_sem, Nat.reduceAdd, Nat.reduceMul, Nat.reduceEqDiff, Nat.reduceLT, reduceIte, reduceCtorEq, h0, h1, hj, hne]) | refine awp_block ?_ | ((first | with_reducible refine aord_nil ?_ | refine awp_skip ?_ | refine awp_exit ?_ | refine awp_ret ?_); try simp only [thenA_normal, thenA_exit, thenA_goto, thenA_ret, blockA_normal, blockA_same, blockA_exit, blockA_goto, blockA_ret, Nat.reduceEqDiff, if_false, if_true, reduceIte]) | (refine awp_region tabOk rfl ?_; simp only [prep, pickO, List.map_cons, List.map_nil, List.getElem?_toArray, List.getElem?_cons_succ, List.getElem?_cons_zero, Option.bind_some, Option.map_some]) | ((with_reducible refine And.intro ?_ ?_); (focus omega)) | ((with_reducible refine And.intro ?_ ?_); (focus (exact rfl))) | ((with_reducible refine And.intro (?_ : enters Try.prog 55) ?_); (focus exact Try.call55); (refine callX_satH pick_sat ?_); simp only [go_sem, and_assoc, List.nil_append, List.append_nil, List.cons_append, Nat.reduceEqDiff, reduceIte, reduceCtorEq, h0, h1, hj, hne]) | (simp only [doneH]; simp only [ressK, resK, wrapR, go_sem, Nat.reduceAdd, Nat.reduceMul, Nat.reduceEqDiff, Nat.reduceLT, reduceIte, reduceCtorEq]) | (with_reducible refine And.intro (fun hb => ?_) (fun hb => ?_)) | (exfalso; omega) | fail)
  exact hQ v.toNat (by omega)


theorem equalInts_sat : Sat Try.prog 16 (fun ds Q => ∃ (xs ys : List Int), ds = [.row (.ints .i64 (xs)), .row (.ints .i64 (ys))] ∧ (xs.length ≤ 1099511627776) ∧ (ys.length ≤ 1099511627776) ∧ Q (.val (.bool ((decide (xs = ys)))))) := by
  refine sat_intro tabOk Try.func16 rfl 26 rfl [.tmp 4] rfl ?_
  rintro ds Q W ⟨xs, ys, rfl, hx, hy, hQ⟩
  refine ⟨Nat.le_of_ble_eq_true rfl, ?_⟩
  simp only [initS, initT, mat.matL, mat, Cont.len]
  repeat' (first | refine awp_seq_k fun K hK => ?_ | ((with_reducible refine hK _ ?_); clear hK K) | (clear hK K; (with_reducible refine hK _ ?_); clear hK K) | (clear hK K; clear hK K; (with_reducible refine hK _ ?_); clear hK K) | (clear hK K; clear hK K; clear hK K; (with_reducible refine hK _ ?_); clear hK K) | (clear hK K; clear hK K; clear hK K; clear hK K; (with_reducible refine hK _ ?_); clear hK K) | (clear hK K; clear hK K; clear hK K; clear hK K; clear hK K; (with_reducible refine hK _ ?_); clear hK K) | ((with_reducible refine aord_plain fun K hK => ?_); simp only [go_sem, Nat.reduceAdd, Nat.reduceMul, Nat.reduceEqDiff, Nat.reduceLT, reduceIte, reduceCtorEq]) | refine awp_block ?_ | ((first | with_reducible refine aord_nil ?_ | refine awp_skip ?_ | refine awp_exit ?_ | refine awp_ret ?_); try simp only [thenA_normal, thenA_exit, thenA_goto, thenA_ret, blockA_normal, blockA_same, blockA_exit, blockA_goto, blockA_ret, Nat.reduceEqDiff, if_false, if_true, reduceIte]) | (refine awp_region tabOk rfl ?_; simp only [prep, pickO, List.map_cons, List.map_nil, List.getElem?_toArray, List.getElem?_cons_succ, List.getElem?_cons_zero, Option.bind_some, Option.map_some]) | (refine awp_region_draw (nt := 26) (id := 6) tabOk [(0, true, false), (1, true, false), (2, true, false), (3, true, false), (4, true, false), (5, true, false), (6, true, false), (7, true, false), (8, true, false)] (by kernel_rfl) rfl (by kernel_rfl) ?_; simp only [prep, pickO, List.map_cons, List.map_nil, List.getElem?_toArray, List.getElem?_cons_succ, List.getElem?_cons_zero, Option.bind_some, Option.map_some]) | ((with_reducible apply awp_cond); (focus (simp only [St.ev, St.set, upd, Nat.reduceEqDiff, reduceIte, if_false, if_true]; exact rfl)); all_goals (intro hb; first | (cases hb; done) | ((try rw [hb]); (try simp only [decide_eq_true_eq, decide_eq_false_iff_not, beq_iff_eq, bne_iff_ne, beq_eq_false_iff_ne, bne_eq_false_iff_eq, Int.not_lt, Int.not_le, Bool.not_eq_true', Bool.not_eq_false'] at hb)))) | ((with_reducible refine And.intro ?_ ?_); (focus omega)) | ((with_reducible refine And.intro ?_ ?_); (focus (exact rfl))) | (with_reducible refine And.intro (fun hb => ?_) (fun hb => ?_)) | (exfalso; omega) | fail)
  · simp only [St.set, St.ev, doneQ, doneH, ressK, resK, wrapR, AV.ids, AV.idsL, retK, retsK, upd, Nat.reduceEqDiff, reduceIte, if_false, if_true, List.nodup_nil, List.nodup_cons, List.not_mem_nil, not_false_eq_true, true_and, and_true, exists_eq_left', Option.some.injEq, rLoad, cellOf, tab, Ty.isAgg, Ty.one, Bool.false_eq_true]
    rw [decide_eq_false (fun h => hb (by rw [h]))] at hQ
    exact hQ
  · have hl : ys.length = xs.length := by omega
    refine awp_loopE (α := Nat) (fun s p => ⟨(upd (upd (upd bot 0 (s.tmps 0)) 1 (s.tmps 1)) 5 (.val (.int .i64 (p)))), s.heap, s.next⟩) _ (fun p => by simp only [St.ev, St.set, upd, Nat.reduceEqDiff, reduceIte, if_false, if_true]; exact rfl) (fun p => (p ≤ xs.length) ∧ (∀ j, j < p → xs.getD j 0 = ys.getD j 0)) (fun p => xs.length - p) (0) ?_ ?_ ?_
    · (try simp only); (refine ⟨?_, ?_⟩ <;> (first | omega | (intro j hj; omega)))
    · (apply Wk.same; (case' h2 => (focus ((repeat' (with_reducible first | exact HeapX.bot | (apply HeapX.skip; (case hx => (simp; done))) | apply HeapX.none | apply HeapX.upd)); all_goals (first | rfl | exact Nat.le_of_ble_eq_true rfl | (simp only [St.set, St.ev, upd, ren, renL, id, Nat.reduceEqDiff, reduceIte, ContLe]; done) | (first | (simp only [St.set, St.ev, upd, ren, renL, id, Nat.reduceEqDiff, reduceIte]; exact contLe_nil) | ((repeat' (first | exact contLe_nil | refine contLe_cons (.inr ⟨?_, rfl⟩) ?_)); all_goals (first | rfl | (simp only [St.set, St.ev, upd, ren, renL, id, Nat.reduceEqDiff, reduceIte]; done) | ((try simp only [St.set, St.ev, upd, ren, renL, id, Nat.reduceEqDiff, reduceIte]); first | (with_reducible exact av_int (by omega)) | (with_reducible exact av_sl (by first | omega | (simp; done) | (simp; omega)) (by first | omega | (simp; done) | (simp; omega)))) | (simp only [St.set, St.ev, upd, ren, renL, id, Nat.reduceEqDiff, reduceIte, Int.natCast_add, Int.natCast_one, Int.cast_ofNat_Int, Int.natCast_zero]; done) | (simp only [St.set, St.ev, upd, ren, renL, id, Nat.reduceEqDiff, reduceIte]) | skip); done)) | (simp only [St.set, St.ev, upd, ren, renL, id, Nat.reduceEqDiff, reduceIte, ContLe]) | skip)))); (case' h1 => (focus ((repeat' (with_reducible first | exact TmpLe.bot | refine TmpLe.upd ?_ rfl ?_)); all_goals (first | rfl | (simp only [St.set, St.ev, upd, ren, renL, id, Nat.reduceEqDiff, reduceIte]; done) | ((try simp only [St.set, St.ev, upd, ren, renL, id, Nat.reduceEqDiff, reduceIte]); first | (with_reducible exact av_int (by omega)) | (with_reducible exact av_sl (by first | omega | (simp; done) | (simp; omega)) (by first | omega | (simp; done) | (simp; omega)))) | (simp only [St.set, St.ev, upd, ren, renL, id, Nat.reduceEqDiff, reduceIte, Int.natCast_add, Int.natCast_one, Int.cast_ofNat_Int, Int.natCast_zero]; done) | (simp only [St.set, St.ev, upd, ren, renL, id, Nat.reduceEqDiff, reduceIte]) | skip)))); (case h3 => (focus (first | (simp only [id, List.map_cons, List.map_nil]; decide) | decide))); (case h4 => (intro o l h; first | (cases h; done) | (have hlt0 := m0_lt (by assumption) h; first | omega | (simp only; omega) | exact ⟨by (first | rfl | (simp only [id]; done) | (rw [if_neg (by omega)])), by first | omega | (simp only; omega)⟩))))
    rintro i ⟨hi, hj⟩
    try simp only at hi hj
    repeat' (first | refine awp_seq_k fun K hK => ?_ | ((with_reducible refine hK _ ?_); clear hK K) | (clear hK K; (with_reducible refine hK _ ?_); clear hK K) | (clear hK K; clear hK K; (with_reducible refine hK _ ?_); clear hK K) | (clear hK K; clear hK K; clear hK K; (with_reducible refine hK _ ?_); clear hK K) | (clear hK K; clear hK K; clear hK K; clear hK K; (with_reducible refine hK _ ?_); clear hK K) | (clear hK K; clear hK K; clear hK K; clear hK K; clear hK K; (with_reducible refine hK _ ?_); clear hK K) | ((with_reducible refine aord_plain fun K hK => ?_); simp only [go_sem, Nat.reduceAdd, Nat.reduceMul, Nat.reduceEqDiff, Nat.reduceLT, reduceIte, reduceCtorEq]) | refine awp_block ?_ | ((first | with_reducible refine aord_nil ?_ | refine awp_skip ?_ | refine awp_exit ?_ | refine awp_ret ?_); try simp only [thenA_normal, thenA_exit, thenA_goto, thenA_ret, blockA_normal, blockA_same, blockA_exit, blockA_goto, blockA_ret, Nat.reduceEqDiff, if_false, if_true, reduceIte]) | (refine awp_region tabOk rfl ?_; simp only [prep, pickO, List.map_cons, List.map_nil, List.getElem?_toArray, List.getElem?_cons_succ, List.getElem?_cons_zero, Option.bind_some, Option.map_some]) | (refine awp_region_draw (nt := 26) (id := 6) tabOk [(0, true, false), (1, true, false), (2, true, false), (3, true, false), (4, true, false), (5, true, false), (6, true, false), (7, true, false), (8, true, false)] (by kernel_rfl) rfl (by kernel_rfl) ?_; simp only [prep, pickO, List.map_cons, List.map_nil, List.getElem?_toArray, List.getElem?_cons_succ, List.getElem?_cons_zero, Option.bind_some, Option.map_some]) | ((with_reducible apply awp_cond); (focus (simp only [St.ev, St.set, upd, Nat.reduceEqDiff, reduceIte, if_false, if_true]; exact rfl)); all_goals (intro hb; first | (cases hb; done) | ((try rw [hb]); (try simp only [decide_eq_true_eq, decide_eq_false_iff_not, beq_iff_eq, bne_iff_ne, beq_eq_false_iff_ne, bne_eq_false_iff_eq, Int.not_lt, Int.not_le, Bool.not_eq_true', Bool.not_eq_false'] at hb)))) | ((with_reducible refine And.intro ?_ ?_); (focus omega)) | ((with_reducible refine And.intro ?_ ?_); (focus (exact rfl))) | (with_reducible refine And.intro (fun hb => ?_) (fun hb => ?_)) | (exfalso; omega) | fail)
    · simp only [St.set, St.ev, doneQ, doneH, ressK, resK, wrapR, AV.ids, AV.idsL, retK, retsK, upd, Nat.reduceEqDiff, reduceIte, if_false, if_true, List.nodup_nil, List.nodup_cons, List.not_mem_nil, not_false_eq_true, true_and, and_true, exists_eq_left', Option.some.injEq, rLoad, cellOf, tab, Ty.isAgg, Ty.one, Bool.false_eq_true]
      rw [decide_eq_false (fun h => hb (by rw [h]))] at hQ
      exact hQ
    · ((refine Exists.intro (i + 1) ?_); (refine nxt ?_ ?_ ?_); (focus ((apply Wk.same; (case' h2 => (focus ((repeat' (with_reducible first | exact HeapX.bot | (apply HeapX.skip; (case hx => (simp; done))) | apply HeapX.none | apply HeapX.upd)); all_goals (first | rfl | exact Nat.le_of_ble_eq_true rfl | (simp only [St.set, St.ev, upd, ren, renL, id, Nat.reduceEqDiff, reduceIte, ContLe]; done) | (first | (simp only [St.set, St.ev, upd, ren, renL, id, Nat.reduceEqDiff, reduceIte]; exact contLe_nil) | ((repeat' (first | exact contLe_nil | refine contLe_cons (.inr ⟨?_, rfl⟩) ?_)); all_goals (first | rfl | (simp only [St.set, St.ev, upd, ren, renL, id, Nat.reduceEqDiff, reduceIte]; done) | ((try simp only [St.set, St.ev, upd, ren, renL, id, Nat.reduceEqDiff, reduceIte]); first | (with_reducible exact av_int (by omega)) | (with_reducible exact av_sl (by first | omega | (simp; done) | (simp; omega)) (by first | omega | (simp; done) | (simp; omega)))) | (simp only [St.set, St.ev, upd, ren, renL, id, Nat.reduceEqDiff, reduceIte, Int.natCast_add, Int.natCast_one, Int.cast_ofNat_Int, Int.natCast_zero]; done) | (simp only [St.set, St.ev, upd, ren, renL, id, Nat.reduceEqDiff, reduceIte]) | skip); done)) | (simp only [St.set, St.ev, upd, ren, renL, id, Nat.reduceEqDiff, reduceIte, ContLe]) | skip)))); (case' h1 => (focus ((repeat' (with_reducible first | exact TmpLe.bot | refine TmpLe.upd ?_ rfl ?_)); all_goals (first | rfl | (simp only [St.set, St.ev, upd, ren, renL, id, Nat.reduceEqDiff, reduceIte]; done) | ((try simp only [St.set, St.ev, upd, ren, renL, id, Nat.reduceEqDiff, reduceIte]); first | (with_reducible exact av_int (by omega)) | (with_reducible exact av_sl (by first | omega | (simp; done) | (simp; omega)) (by first | omega | (simp; done) | (simp; omega)))) | (simp only [St.set, St.ev, upd, ren, renL, id, Nat.reduceEqDiff, reduceIte, Int.natCast_add, Int.natCast_one, Int.cast_ofNat_Int, Int.natCast_zero]; done) | (simp only [St.set, St.ev, upd, ren, renL, id, Nat.reduceEqDiff, reduceIte]) | skip)))); (case h3 => (focus (first | (simp only [id, List.map_cons, List.map_nil]; decide) | decide))); (case h4 => (intro o l h; first | (cases h; done) | (have hlt0 := m0_lt (by assumption) h; first | omega | (simp only; omega) | exact ⟨by (first | rfl | (simp only [id]; done) | (rw [if_neg (by omega)])), by first | omega | (simp only; omega)⟩)))))); (focus (first | omega | (simp only; omega) | (simp only [List.length_take]; omega) | (simp; omega))); ((repeat' (with_reducible apply And.intro)) <;> (first | omega | (simp only; omega) | assumption | rfl | ((try simp only); exact all_step hj hb) | skip)))
    · simp only [St.set, St.ev, doneQ, doneH, ressK, resK, wrapR, AV.ids, AV.idsL, retK, retsK, upd, Nat.reduceEqDiff, reduceIte, if_false, if_true, List.nodup_nil, List.nodup_cons, List.not_mem_nil, not_false_eq_true, true_and, and_true, exists_eq_left', Option.some.injEq, rLoad, cellOf, tab, Ty.isAgg, Ty.one, Bool.false_eq_true]
      rw [decide_eq_true (ext_getD hl.symm fun j h => hj j (by omega))] at hQ
      exact hQ


theorem invRow_nonneg (xs : List Int) (i : Nat) : ∀ k, 0 ≤ invRow xs i k
  | 0 => Int.le_refl 0
  | k + 1 => by have := invRow_nonneg xs i k; rw [invRow]; split <;> omega
theorem invRow_zero {xs : List Int} {i : Nat} : ∀ k, invRow xs i k = 0 ↔ ∀ j, j < k → i < j → xs.getD i 0 ≤ xs.getD j 0
  | 0 => ⟨fun _ j h => by omega, fun _ => rfl⟩
  | k + 1 => by
    have ih := invRow_zero (xs := xs) (i := i) k
    have h0 := invRow_nonneg xs i k
    rw [invRow]
    constructor
    · intro h j hj hij
      split at h
      · omega
      · rename_i hc
        rcases Nat.lt_or_ge j k with h1 | h1
        · exact ih.1 (by omega) j h1 hij
        · have : j = k := by omega
          subst this; omega
    · intro h
      have h1 := ih.2 fun j hj hij => h j (by omega) hij
      rw [if_neg (fun hc => by have := h k (by omega) hc.1; omega), h1]; rfl
theorem invTo_nonneg (xs : List Int) : ∀ i, 0 ≤ invTo xs i
  | 0 => Int.le_refl 0
  | i + 1 => by have := invTo_nonneg xs i; have := invRow_nonneg xs i xs.length; rw [invTo]; omega
theorem invTo_zero {xs : List Int} : ∀ i, invTo xs i = 0 ↔ ∀ a, a < i → ∀ j, j < xs.length → a < j → xs.getD a 0 ≤ xs.getD j 0
  | 0 => ⟨fun _ a h => by omega, fun _ => rfl⟩
  | i + 1 => by
    have ih := invTo_zero (xs := xs) i
    have h0 := invTo_nonneg xs i
    have h1 := invRow_nonneg xs i xs.length
    have h2 := invRow_zero (xs := xs) (i := i) xs.length
    rw [invTo]
    constructor
    · intro h a ha
      rcases Nat.lt_or_ge a i with h3 | h3
      · exact ih.1 (by omega) a h3
      · have : a = i := by omega
        subst this; exact h2.1 (by omega)
    · intro h
      have h3 := ih.2 fun a ha => h a (by omega)
      have h4 := h2.2 (h i (by omega))
      omega
theorem inv_srt (xs : List Int) : (invTo xs xs.length == 0) = srt xs := by
  have h1 := invTo_zero (xs := xs) xs.length
  cases e : srt xs with
  | true =>
    have : invTo xs xs.length = 0 := h1.2 fun a ha j hj haj => by
      obtain ⟨d, rfl⟩ : ∃ d, j = a + d := ⟨j - a, by omega⟩
      exact srt_le e hj
    rw [this]; rfl
  | false =>
    have : invTo xs xs.length ≠ 0 := fun h => by
      have := srt_iff.2 fun j hj => (h1.1 h) j (by omega) (j + 1) hj (by omega)
      rw [this] at e; cases e
    simpa using this
theorem ord_dec (xs : List Int) : decide (ordL xs = xs) = srt xs := by
  rw [srt_eq]; apply decide_eq_decide.2; exact eq_comm
theorem sq_beq (b : Bool) : (b == b) = true := by cases b <;> rfl
theorem sq_bne (b : Bool) : (b != b) = false := by cases b <;> rfl
theorem int_bne (n : Int) : (n != n) = false := by simp


theorem plN_ltK {xs : List Int} {i k : Nat} (hi : i < xs.length) (hk : k < xs.length) : plN xs i < plN xs k ↔ ltK xs i k := by
  constructor
  · intro h
    by_cases h1 : ltK xs i k
    · exact h1
    · by_cases e : i = k
      · subst e; omega
      · have h2 : ltK xs k i := by unfold ltK at h1 ⊢; omega
        have := plN_mono hk h2
        omega
  · exact plN_mono hi
theorem placesL_cast {xs : List Int} {i : Nat} (h : i < xs.length) : (placesL xs).getD i 0 = (plN xs i : Nat) := by
  rw [placesL_get h]; unfold plN; have := plC_nonneg xs i xs.length; omega
theorem plC_places {xs : List Int} {i : Nat} (hi : i < xs.length) : ∀ m, m ≤ xs.length → plC (placesL xs) i m = plC xs i m
  | 0, _ => rfl
  | m + 1, hm => by
    rw [plC, plC, plC_places hi m (by omega), placesL_cast (show m < xs.length by omega), placesL_cast hi]
    have h1 := plN_ltK (xs := xs) (i := m) (k := i) (by omega) hi
    have h2 : plN xs m = plN xs i → m = i := plN_inj (by omega) hi
    have e : ((plN xs m : Nat) : Int) < (plN xs i : Nat) ∨ (((plN xs m : Nat) : Int) = (plN xs i : Nat) ∧ m < i) ↔ xs.getD m 0 < xs.getD i 0 ∨ (xs.getD m 0 = xs.getD i 0 ∧ m < i) := by
      unfold ltK at h1; omega
    simp only [e]
theorem places_places (xs : List Int) : placesL (placesL xs) = placesL xs := by
  refine ext_getD (by rw [placesL_len]) fun j hj => ?_
  rw [placesL_len, placesL_len] at hj
  rw [placesL_get (by rw [placesL_len]; exact hj), placesL_len, plC_places hj _ (Nat.le_refl _), placesL_get hj]
theorem plN_places {xs : List Int} {i : Nat} (hi : i < xs.length) : plN (placesL xs) i = plN xs i := by
  unfold plN; rw [placesL_len, plC_places hi _ (Nat.le_refl _)]
theorem invRow_places {xs : List Int} {i : Nat} (hi : i < xs.length) : ∀ m, m ≤ xs.length → invRow (placesL xs) i m = invRow xs i m
  | 0, _ => rfl
  | m + 1, hm => by
    rw [invRow, invRow, invRow_places hi m (by omega), placesL_cast (show m < xs.length by omega), placesL_cast hi]
    have h1 := plN_ltK (xs := xs) (i := m) (k := i) (by omega) hi
    have e : (i < m ∧ ((plN xs m : Nat) : Int) < (plN xs i : Nat)) ↔ (i < m ∧ xs.getD m 0 < xs.getD i 0) := by
      unfold ltK at h1; omega
    simp only [e]
theorem invTo_places (xs : List Int) : ∀ i, i ≤ xs.length → invTo (placesL xs) i = invTo xs i
  | 0, _ => rfl
  | i + 1, h => by rw [invTo, invTo, invTo_places xs i (by omega), placesL_len, invRow_places (by omega) _ (Nat.le_refl _)]
def riseL (n : Nat) : List Int := (List.range n).map Int.ofNat
theorem riseL_len (n : Nat) : (riseL n).length = n := by simp [riseL]
theorem riseL_get {n i : Nat} (h : i < n) : (riseL n).getD i 0 = i := by
  rw [List.getD_eq_getElem?_getD, List.getElem?_eq_getElem (by rw [riseL_len]; exact h)]; simp [riseL]
theorem riseL_up (n : Nat) : riseL (n + 1) = riseL n ++ [(n : Int)] := by simp [riseL, List.range_succ]
theorem ord_places (xs : List Int) : ordL (placesL xs) = riseL xs.length := by
  refine ext_getD (by rw [ordL_len, placesL_len, riseL_len]) fun j hj => ?_
  rw [ordL_len, placesL_len] at hj
  obtain ⟨a, ha, rfl⟩ := ord_from hj
  rw [riseL_get hj]
  have := ord_at (xs := placesL xs) (a := a) (by rw [placesL_len]; exact ha)
  rw [plN_places ha] at this
  rw [this, placesL_cast ha]
theorem valid_places {xs : List Int} (h : validB xs = true) : validB (placesL xs) = true := by
  have h8 := valid_len h
  refine valid_all (by rw [placesL_len]; exact h8) fun j hj => ?_
  rw [placesL_len] at hj
  have := placesL_lt hj
  unfold inB
  rw [decide_eq_true (by omega), decide_eq_true (by omega)]; rfl
theorem dec_self (xs : List Int) : decide (xs = xs) = true := decide_eq_true rfl


theorem rising_sat : Sat Try.prog 21 (fun ds Q => ∃ (n : Nat) (z : Int), ds = [.val (.int .i64 (z))] ∧ (z = n) ∧ (n ≤ 1000) ∧ Q (.row (.ints .i64 ((riseL n))))) := by
  refine sat_intro tabOk Try.func21 rfl 15 rfl [.tmp 2] rfl ?_
  rintro ds Q W ⟨n, z, rfl, hz, hn, hQ⟩
  refine ⟨Nat.le_of_ble_eq_true rfl, ?_⟩
  simp only [initS, initT, mat.matL, mat, Cont.len]
  repeat' (first | refine awp_seq_k fun K hK => ?_ | ((with_reducible refine hK _ ?_); clear hK K) | (clear hK K; (with_reducible refine hK _ ?_); clear hK K) | (clear hK K; clear hK K; (with_reducible refine hK _ ?_); clear hK K) | (clear hK K; clear hK K; clear hK K; (with_reducible refine hK _ ?_); clear hK K) | (clear hK K; clear hK K; clear hK K; clear hK K; (with_reducible refine hK _ ?_); clear hK K) | (clear hK K; clear hK K; clear hK K; clear hK K; clear hK K; (with_reducible refine hK _ ?_); clear hK K) | ((with_reducible refine aord_plain fun K hK => ?_); simp only [go_sem, Nat.reduceAdd, Nat.reduceMul, Nat.reduceEqDiff, Nat.reduceLT, reduceIte, reduceCtorEq]) | refine awp_block ?_ | ((first | with_reducible refine aord_nil ?_ | refine awp_skip ?_ | refine awp_exit ?_ | refine awp_ret ?_); try simp only [thenA_normal, thenA_exit, thenA_goto, thenA_ret, blockA_normal, blockA_same, blockA_exit, blockA_goto, blockA_ret, Nat.reduceEqDiff, if_false, if_true, reduceIte]) | (refine awp_region tabOk rfl ?_; simp only [prep, pickO, List.map_cons, List.map_nil, List.getElem?_toArray, List.getElem?_cons_succ, List.getElem?_cons_zero, Option.bind_some, Option.map_some]) | ((with_reducible apply awp_cond); (focus (simp only [St.ev, St.set, upd, Nat.reduceEqDiff, reduceIte, if_false, if_true]; exact rfl)); all_goals (intro hb; first | (cases hb; done) | ((try rw [hb]); (try simp only [decide_eq_true_eq, decide_eq_false_iff_not, beq_iff_eq, bne_iff_ne, beq_eq_false_iff_ne, bne_eq_false_iff_eq, Int.not_lt, Int.not_le, Bool.not_eq_true', Bool.not_eq_false'] at hb)))) | ((with_reducible refine And.intro ?_ ?_); (focus omega)) | ((with_reducible refine And.intro ?_ ?_); (focus (exact rfl))) | (refine aAppend_ints rfl rfl rfl rfl (Nat.le_of_ble_eq_true rfl) (by simp only [St.ev, St.set, upd, Nat.reduceEqDiff, reduceIte, if_false, if_true]; exact rfl) (by simp only [St.ev, St.set, upd, Nat.reduceEqDiff, reduceIte, if_false, if_true]; exact rfl) rfl (by decide) ?_ ?_ ?_ ?_; (focus (first | rfl | omega | (simp; done) | (simp; omega) | (simp [szOf, tab]; done) | (simp [szOf, tab]; omega))); (focus (first | rfl | omega | (simp; done) | (simp; omega) | (simp [szOf, tab]; done) | (simp [szOf, tab]; omega))); (focus (first | rfl | omega | (simp; done) | (simp; omega) | (simp [szOf, tab]; done) | (simp [szOf, tab]; omega))); (try simp only [go_sem, Nat.reduceAdd, Nat.reduceMul, Nat.reduceEqDiff, Nat.reduceLT, reduceIte, reduceCtorEq])) | (refine aAppend_none rfl rfl rfl rfl (Nat.le_of_ble_eq_true rfl) (by simp only [St.ev, St.set, upd, Nat.reduceEqDiff, reduceIte, if_false, if_true]; exact rfl) ?_ ?_ ?_; (focus (first | rfl | omega | (simp; done) | (simp; omega) | (simp [szOf, tab]; done) | (simp [szOf, tab]; omega))); (focus (first | rfl | omega | (simp; done) | (simp; omega) | (simp [szOf, tab]; done) | (simp [szOf, tab]; omega))); (try simp only [go_sem, Nat.reduceAdd, Nat.reduceMul, Nat.reduceEqDiff, Nat.reduceLT, reduceIte, reduceCtorEq])) | (with_reducible refine And.intro (fun hb => ?_) (fun hb => ?_)) | (exfalso; omega) | fail)
  refine awp_loopE (α := Nat) (fun s p => ⟨(upd (upd bot 0 (s.tmps 0)) 3 (.sl 0 0 p 1 none)), (upd s.heap 0 (some ⟨true, .ints .i64 (riseL p)⟩)), s.next⟩) _ (fun p => by simp only [St.ev, St.set, upd, Nat.reduceEqDiff, reduceIte, if_false, if_true]; exact rfl) (fun p => (p ≤ n)) (fun p => n - p) (0) ?_ ?_ ?_
  · (try simp only); (refine ?_ <;> (first | omega | (simp only; omega) | rfl | (simp; done) | skip))
  · (apply Wk.same; (case' h2 => (focus ((repeat' (with_reducible first | exact HeapX.bot | (apply HeapX.skip; (case hx => (simp; done))) | apply HeapX.none | apply HeapX.upd)); all_goals (first | rfl | exact Nat.le_of_ble_eq_true rfl | (simp only [St.set, St.ev, upd, ren, renL, id, Nat.reduceEqDiff, reduceIte, ContLe]; done) | (first | (simp only [St.set, St.ev, upd, ren, renL, id, Nat.reduceEqDiff, reduceIte]; exact contLe_nil) | ((repeat' (first | exact contLe_nil | refine contLe_cons (.inr ⟨?_, rfl⟩) ?_)); all_goals (first | rfl | (simp only [St.set, St.ev, upd, ren, renL, id, Nat.reduceEqDiff, reduceIte]; done) | ((try simp only [St.set, St.ev, upd, ren, renL, id, Nat.reduceEqDiff, reduceIte]); first | (with_reducible exact av_int (by omega)) | (with_reducible exact av_sl (by first | omega | (simp; done) | (simp; omega)) (by first | omega | (simp; done) | (simp; omega)))) | (simp only [St.set, St.ev, upd, ren, renL, id, Nat.reduceEqDiff, reduceIte, Int.natCast_add, Int.natCast_one, Int.cast_ofNat_Int, Int.natCast_zero]; done) | (simp only [St.set, St.ev, upd, ren, renL, id, Nat.reduceEqDiff, reduceIte]) | skip); done)) | (simp only [St.set, St.ev, upd, ren, renL, id, Nat.reduceEqDiff, reduceIte, ContLe]) | skip)))); (case' h1 => (focus ((repeat' (with_reducible first | exact TmpLe.bot | refine TmpLe.upd ?_ rfl ?_)); all_goals (first | rfl | (simp only [St.set, St.ev, upd, ren, renL, id, Nat.reduceEqDiff, reduceIte]; done) | ((try simp only [St.set, St.ev, upd, ren, renL, id, Nat.reduceEqDiff, reduceIte]); first | (with_reducible exact av_int (by omega)) | (with_reducible exact av_sl (by first | omega | (simp; done) | (simp; omega)) (by first | omega | (simp; done) | (simp; omega)))) | (simp only [St.set, St.ev, upd, ren, renL, id, Nat.reduceEqDiff, reduceIte, Int.natCast_add, Int.natCast_one, Int.cast_ofNat_Int, Int.natCast_zero]; done) | (simp only [St.set, St.ev, upd, ren, renL, id, Nat.reduceEqDiff, reduceIte]) | skip)))); (case h3 => (focus (first | (simp only [id, List.map_cons, List.map_nil]; decide) | decide))); (case h4 => (intro o l h; first | (cases h; done) | (have hlt0 := m0_lt (by assumption) h; first | omega | (simp only; omega) | exact ⟨by (first | rfl | (simp only [id]; done) | (rw [if_neg (by omega)])), by first | omega | (simp only; omega)⟩))))
  rintro k hk
  try simp only at hk
  have hrl := riseL_len k
  repeat' (first | refine awp_seq_k fun K hK => ?_ | ((with_reducible refine hK _ ?_); clear hK K) | (clear hK K; (with_reducible refine hK _ ?_); clear hK K) | (clear hK K; clear hK K; (with_reducible refine hK _ ?_); clear hK K) | (clear hK K; clear hK K; clear hK K; (with_reducible refine hK _ ?_); clear hK K) | (clear hK K; clear hK K; clear hK K; clear hK K; (with_reducible refine hK _ ?_); clear hK K) | (clear hK K; clear hK K; clear hK K; clear hK K; clear hK K; (with_reducible refine hK _ ?_); clear hK K) | ((with_reducible refine aord_plain fun K hK => ?_); simp only [go_sem, Nat.reduceAdd, Nat.reduceMul, Nat.reduceEqDiff, Nat.reduceLT, reduceIte, reduceCtorEq]) | refine awp_block ?_ | ((first | with_reducible refine aord_nil ?_ | refine awp_skip ?_ | refine awp_exit ?_ | refine awp_ret ?_); try simp only [thenA_normal, thenA_exit, thenA_goto, thenA_ret, blockA_normal, blockA_same, blockA_exit, blockA_goto, blockA_ret, Nat.reduceEqDiff, if_false, if_true, reduceIte]) | (refine awp_region tabOk rfl ?_; simp only [prep, pickO, List.map_cons, List.map_nil, List.getElem?_toArray, List.getElem?_cons_succ, List.getElem?_cons_zero, Option.bind_some, Option.map_some]) | ((with_reducible apply awp_cond); (focus (simp only [St.ev, St.set, upd, Nat.reduceEqDiff, reduceIte, if_false, if_true]; exact rfl)); all_goals (intro hb; first | (cases hb; done) | ((try rw [hb]); (try simp only [decide_eq_true_eq, decide_eq_false_iff_not, beq_iff_eq, bne_iff_ne, beq_eq_false_iff_ne, bne_eq_false_iff_eq, Int.not_lt, Int.not_le, Bool.not_eq_true', Bool.not_eq_false'] at hb)))) | ((with_reducible refine And.intro ?_ ?_); (focus omega)) | ((with_reducible refine And.intro ?_ ?_); (focus (exact rfl))) | (refine aAppend_ints rfl rfl rfl rfl (Nat.le_of_ble_eq_true rfl) (by simp only [St.ev, St.set, upd, Nat.reduceEqDiff, reduceIte, if_false, if_true]; exact rfl) (by simp only [St.ev, St.set, upd, Nat.reduceEqDiff, reduceIte, if_false, if_true]; exact rfl) rfl (by decide) ?_ ?_ ?_ ?_; (focus (first | rfl | omega | (simp; done) | (simp; omega) | (simp [szOf, tab]; done) | (simp [szOf, tab]; omega))); (focus (first | rfl | omega | (simp; done) | (simp; omega) | (simp [szOf, tab]; done) | (simp [szOf, tab]; omega))); (focus (first | rfl | omega | (simp; done) | (simp; omega) | (simp [szOf, tab]; done) | (simp [szOf, tab]; omega))); (try simp only [go_sem, Nat.reduceAdd, Nat.reduceMul, Nat.reduceEqDiff, Nat.reduceLT, reduceIte, reduceCtorEq])) | (refine aAppend_none rfl rfl rfl rfl (Nat.le_of_ble_eq_true rfl) (by simp only [St.ev, St.set, upd, Nat.reduceEqDiff, reduceIte, if_false, if_true]; exact rfl) ?_ ?_ ?_; (focus (first | rfl | omega | (simp; done) | (simp; omega) | (simp [szOf, tab]; done) | (simp [szOf, tab]; omega))); (focus (first | rfl | omega | (simp; done) | (simp; omega) | (simp [szOf, tab]; done) | (simp [szOf, tab]; omega))); (try simp only [go_sem, Nat.reduceAdd, Nat.reduceMul, Nat.reduceEqDiff, Nat.reduceLT, reduceIte, reduceCtorEq])) | (with_reducible refine And.intro (fun hb => ?_) (fun hb => ?_)) | (exfalso; omega) | fail)
  · simp only [← riseL_up]
    ((refine Exists.intro (k + 1) ?_); (refine nxt ?_ ?_ ?_); (focus ((apply Wk.named (fun o => if o = 0 then 2 else o); (case' h2 => (focus ((repeat' (with_reducible first | exact HeapX.bot | (apply HeapX.skip; (case hx => (simp; done))) | apply HeapX.none | apply HeapX.upd)); all_goals (first | rfl | exact Nat.le_of_ble_eq_true rfl | (simp only [St.set, St.ev, upd, ren, renL, id, Nat.reduceEqDiff, reduceIte, ContLe]; done) | (first | (simp only [St.set, St.ev, upd, ren, renL, id, Nat.reduceEqDiff, reduceIte]; exact contLe_nil) | ((repeat' (first | exact contLe_nil | refine contLe_cons (.inr ⟨?_, rfl⟩) ?_)); all_goals (first | rfl | (simp only [St.set, St.ev, upd, ren, renL, id, Nat.reduceEqDiff, reduceIte]; done) | ((try simp only [St.set, St.ev, upd, ren, renL, id, Nat.reduceEqDiff, reduceIte]); first | (with_reducible exact av_int (by omega)) | (with_reducible exact av_sl (by first | omega | (simp; done) | (simp; omega)) (by first | omega | (simp; done) | (simp; omega)))) | (simp only [St.set, St.ev, upd, ren, renL, id, Nat.reduceEqDiff, reduceIte, Int.natCast_add, Int.natCast_one, Int.cast_ofNat_Int, Int.natCast_zero]; done) | (simp only [St.set, St.ev, upd, ren, renL, id, Nat.reduceEqDiff, reduceIte]) | skip); done)) | (simp only [St.set, St.ev, upd, ren, renL, id, Nat.reduceEqDiff, reduceIte, ContLe]) | skip)))); (case' h1 => (focus ((repeat' (with_reducible first | exact TmpLe.bot | refine TmpLe.upd ?_ rfl ?_)); all_goals (first | rfl | (simp only [St.set, St.ev, upd, ren, renL, id, Nat.reduceEqDiff, reduceIte]; done) | ((try simp only [St.set, St.ev, upd, ren, renL, id, Nat.reduceEqDiff, reduceIte]); first | (with_reducible exact av_int (by omega)) | (with_reducible exact av_sl (by first | omega | (simp; done) | (simp; omega)) (by first | omega | (simp; done) | (simp; omega)))) | (simp only [St.set, St.ev, upd, ren, renL, id, Nat.reduceEqDiff, reduceIte, Int.natCast_add, Int.natCast_one, Int.cast_ofNat_Int, Int.natCast_zero]; done) | (simp only [St.set, St.ev, upd, ren, renL, id, Nat.reduceEqDiff, reduceIte]) | skip)))); (case h3 => (focus (first | (simp only [id, List.map_cons, List.map_nil]; decide) | decide))); (case h4 => (intro o l h; first | (cases h; done) | (have hlt0 := m0_lt (by assumption) h; first | omega | (simp only; omega) | exact ⟨by (first | rfl | (simp only [id]; done) | (rw [if_neg (by omega)])), by first | omega | (simp only; omega)⟩)))))); (focus (first | omega | (simp only; omega) | (simp only [List.length_take]; omega) | (simp; omega))); ((repeat' (with_reducible apply And.intro)) <;> (first | omega | (simp only; omega) | assumption | rfl | (simp only))))
  · simp only [St.set, St.ev, doneQ, doneH, ressK, resK, wrapR, AV.ids, AV.idsL, retK, retsK, upd, Nat.reduceEqDiff, reduceIte, if_false, if_true, List.nodup_nil, List.nodup_cons, List.not_mem_nil, not_false_eq_true, true_and, and_true, exists_eq_left', Option.some.injEq, rLoad, cellOf, tab, Ty.isAgg, Ty.one, Bool.false_eq_true]
    simp only [Cont.closed, Cont.len, true_and, riseL_len]
    rw [show n = k by omega] at hQ
    exact hQ


theorem misN_in (P : List Int) : ∀ n, 0 ≤ misN P n ∧ misN P n ≤ n
  | 0 => by simp [misN]
  | n + 1 => by have := misN_in P n; rw [misN]; split <;> omega
theorem misN_zero {P : List Int} : ∀ n, misN P n = 0 ↔ ∀ i, i < n → P.getD i 0 = i
  | 0 => ⟨fun _ i h => by omega, fun _ => rfl⟩
  | n + 1 => by
    have ih := misN_zero (P := P) n
    have h0 := misN_in P n
    rw [misN]
    constructor
    · intro h i hi
      split at h
      · rename_i hc
        rcases Nat.lt_or_ge i n with h1 | h1
        · exact ih.1 (by omega) i h1
        · rw [show i = n by omega]; exact hc
      · omega
    · intro h
      rw [if_pos (h n (by omega)), ih.2 fun i hi => h i (by omega)]; rfl
theorem misN_one {P : List Int} : ∀ n, misN P n = 1 → ∃ p, p < n ∧ P.getD p 0 ≠ p ∧ ∀ i, i < n → i ≠ p → P.getD i 0 = i
  | 0, h => by simp [misN] at h
  | n + 1, h => by
    rw [misN] at h
    split at h
    · rename_i hc
      obtain ⟨p, h1, h2, h3⟩ := misN_one (P := P) n (by omega)
      refine ⟨p, by omega, h2, fun i hi hip => ?_⟩
      rcases Nat.lt_or_ge i n with h4 | h4
      · exact h3 i h4 hip
      · rw [show i = n by omega]; exact hc
    · rename_i hc
      have h1 := (misN_zero (P := P) n).1 (by omega)
      exact ⟨n, by omega, hc, fun i hi hip => h1 i (by omega)⟩
theorem mis_ne (xs : List Int) : (misN (placesL xs) xs.length != 1) = true := by
  have : misN (placesL xs) xs.length ≠ 1 := fun h => by
    obtain ⟨p, h1, h2, h3⟩ := misN_one _ h
    have e := placesL_cast h1
    have hl := plN_lt h1
    have hne : plN xs p ≠ p := fun h => h2 (by rw [e, h])
    have h4 := h3 (plN xs p) hl hne
    rw [placesL_cast hl] at h4
    have := plN_inj hl h1 (by omega)
    exact hne this
  simpa using this
theorem mis_srt (xs : List Int) : (misN (placesL xs) xs.length == 0) = srt xs := by
  have h1 := misN_zero (P := placesL xs) xs.length
  cases e : srt xs with
  | true =>
    have : misN (placesL xs) xs.length = 0 := h1.2 fun i hi => by
      rw [placesL_get hi, srt_pl e hi _ (Nat.le_refl _)]; omega
    rw [this]; rfl
  | false =>
    have : misN (placesL xs) xs.length ≠ 0 := fun h => by
      have h2 := h1.1 h
      have : ordL xs = xs := ext_getD (ordL_len xs) fun j hj => by
        rw [ordL_len] at hj
        have h3 := h2 j hj
        rw [placesL_cast hj] at h3
        have h4 := ord_at hj
        rwa [show plN xs j = j by omega] at h4
      have h5 := ord_dec xs
      rw [decide_eq_true this, e] at h5; cases h5
    simpa using this
theorem mis_le (xs : List Int) : decide (misN (placesL xs) xs.length ≤ (xs.length : Int)) = true := decide_eq_true (misN_in _ _).2


/-- How many of the d numbers from a on are told by P. -/
def cnt (P : Nat → Bool) : Nat → Nat → Int
  | _, 0 => 0
  | a, d + 1 => (if P a = true then 1 else 0) + cnt P (a + 1) d
theorem cnt_in (P : Nat → Bool) : ∀ d a, 0 ≤ cnt P a d ∧ cnt P a d ≤ d
  | 0, a => by simp [cnt]
  | d + 1, a => by have := cnt_in P d (a + 1); rw [cnt]; split <;> omega
theorem cnt_up (P : Nat → Bool) : ∀ d a, cnt P a (d + 1) = cnt P a d + (if P (a + d) = true then 1 else 0)
  | 0, a => by simp [cnt]
  | d + 1, a => by rw [cnt, cnt_up P d (a + 1), show cnt P a (d + 1) = (if P a = true then 1 else 0) + cnt P (a + 1) d from rfl, show a + 1 + d = a + (d + 1) by omega]; omega


/-- The first index of the longest row that is laid, with what is left of it. -/
theorem rise_most {xs : List Int} (h8 : xs.length ≤ 8) : ∀ i, i ≤ xs.length → ((riseTo xs i).length : Int) + mostC xs (riseTo xs i) i xs.length = mostN (chn leB xs 8) xs.length
  | 0, _ => by rw [riseTo, mostC_none]; simp
  | i + 1, h => by
    have ih := rise_most h8 i (by omega)
    rw [riseTo]
    split
    · rename_i hc
      have := rise_take h8 hc.2
      simp only [List.length_append, List.length_cons, List.length_nil]
      omega
    · rename_i hc
      have := rise_pass (xs := xs) (out := riseTo xs i) (i := i) (by omega) (by
        rcases Bool.eq_false_or_eq_true (cmpR xs (riseTo xs i) i) with h1 | h1
        · exact .inr fun h2 => hc ⟨h1, h2⟩
        · exact .inl h1)
      omega
theorem rise_len {xs : List Int} (h8 : xs.length ≤ 8) : ((riseTo xs xs.length).length : Int) = mostN (chn leB xs 8) xs.length := by
  have := rise_most h8 xs.length (Nat.le_refl _)
  rw [mostC_low _ (Nat.le_refl _)] at this
  omega
/-- An index is one of the longest row. -/
def inR (xs : List Int) (i : Nat) : Bool := decide ((riseTo xs i).length < (riseTo xs (i + 1)).length)
theorem rise_stepLen (xs : List Int) (i : Nat) : (riseTo xs (i + 1)).length = (riseTo xs i).length + (if inR xs i = true then 1 else 0) := by
  unfold inR
  rw [riseTo]
  split <;> simp
theorem rise_cnt (xs : List Int) : ∀ n, cnt (inR xs) 0 n = (riseTo xs n).length
  | 0 => by simp [cnt, riseTo]
  | n + 1 => by rw [cnt_up, rise_cnt xs n, rise_stepLen, Nat.zero_add]; split <;> simp
theorem inR_iff {xs : List Int} {i : Nat} (h : inR xs i = true) : riseTo xs (i + 1) = riseTo xs i ++ [(i : Int)] ∧ cmpR xs (riseTo xs i) i = true := by
  unfold inR at h
  rw [riseTo] at h ⊢
  split
  · rename_i hc; exact ⟨rfl, hc.1⟩
  · rename_i hc; rw [if_neg hc] at h; simp at h
theorem inR_not {xs : List Int} {i : Nat} (h : ¬ inR xs i = true) : riseTo xs (i + 1) = riseTo xs i := by
  unfold inR at h
  rw [riseTo] at h ⊢
  split
  · rename_i hc; rw [if_pos hc] at h; simp at h
  · rfl
theorem last_app {l : List Int} {a : Int} : (l ++ [a]).getD ((l ++ [a]).length - 1) 0 = a := getD_app_at (by simp)
theorem inR_last (xs : List Int) : ∀ i j, j < i → inR xs j = true → 0 < (riseTo xs i).length ∧ xs.getD j 0 ≤ xs.getD ((riseTo xs i).getD ((riseTo xs i).length - 1) 0).toNat 0
  | 0, j, h, _ => by omega
  | i + 1, j, h, hj => by
    by_cases hi : inR xs i = true
    · obtain ⟨h1, h2⟩ := inR_iff hi
      rw [h1]
      refine ⟨by simp, ?_⟩
      rw [last_app]
      by_cases e : j = i
      · subst e; rw [show (j : Int).toNat = j by omega]; exact Int.le_refl _
      · obtain ⟨h3, h4⟩ := inR_last xs i j (by omega) hj
        unfold cmpR at h2
        rw [decide_eq_false (by omega), Bool.false_or, decide_eq_true_eq] at h2
        rw [show (i : Int).toNat = i by omega]
        omega
    · rw [inR_not hi]
      have : j ≠ i := fun e => hi (e ▸ hj)
      exact inR_last xs i j (by omega) hj
theorem inR_two {xs : List Int} {i k : Nat} (h : i < k) (hi : inR xs i = true) (hk : inR xs k = true) : xs.getD i 0 ≤ xs.getD k 0 := by
  obtain ⟨h1, h2⟩ := inR_last xs k i h hi
  have h3 := (inR_iff hk).2
  unfold cmpR at h3
  rw [decide_eq_false (by omega), Bool.false_or, decide_eq_true_eq] at h3
  omega
theorem rise_at (xs : List Int) : ∀ i j, j < (riseTo xs i).length → ∃ k, k < i ∧ inR xs k = true ∧ (riseTo xs i).getD j 0 = k ∧ j = (riseTo xs k).length
  | 0, j, h => by simp [riseTo] at h
  | i + 1, j, h => by
    by_cases hi : inR xs i = true
    · obtain ⟨h1, _⟩ := inR_iff hi
      rw [h1] at h ⊢
      simp only [List.length_append, List.length_cons, List.length_nil] at h
      rcases Nat.lt_or_ge j (riseTo xs i).length with h2 | h2
      · obtain ⟨k, q1, q2, q3, q4⟩ := rise_at xs i j h2
        exact ⟨k, by omega, q2, by rw [getD_app_lo h2]; exact q3, q4⟩
      · exact ⟨i, by omega, hi, getD_app_at (by omega), by omega⟩
    · rw [inR_not hi] at h ⊢
      obtain ⟨k, q1, q2, q3, q4⟩ := rise_at xs i j h
      exact ⟨k, by omega, q2, q3, q4⟩
theorem rise_mono (xs : List Int) {a : Nat} : ∀ d, (riseTo xs a).length ≤ (riseTo xs (a + d)).length
  | 0 => Nat.le_refl _
  | d + 1 => by have := rise_mono xs (a := a) d; have := rise_stepLen xs (a + d); rw [← Nat.add_assoc]; omega
/-- The indices of the longest row ascend, and their keys do not fall. -/
theorem rise_two {xs : List Int} {n a b : Nat} (hab : a < b) (hb : b < (riseTo xs n).length) : (riseTo xs n).getD a 0 < (riseTo xs n).getD b 0 ∧ xs.getD ((riseTo xs n).getD a 0).toNat 0 ≤ xs.getD ((riseTo xs n).getD b 0).toNat 0 := by
  obtain ⟨k, h1, h2, h3, h4⟩ := rise_at xs n a (by omega)
  obtain ⟨m, q1, q2, q3, q4⟩ := rise_at xs n b hb
  have hkm : k < m := by
    rcases Nat.lt_or_ge k m with h | h
    · exact h
    · have := rise_mono xs (a := m) (k - m)
      rw [show m + (k - m) = k by omega] at this
      omega
  rw [h3, q3]
  refine ⟨by omega, ?_⟩
  have := inR_two hkm h2 q2
  rw [show (k : Int).toNat = k by omega, show (m : Int).toNat = m by omega]
  exact this
theorem rise_full {xs : List Int} (h : (riseTo xs xs.length).length = xs.length) : srt xs = true := by
  have hall : ∀ n, (riseTo xs n).length = n → ∀ i, i < n → inR xs i = true := by
    intro n
    induction n with
    | zero => intro _ i hi; omega
    | succ n ih =>
      intro h i hi
      have h1 := rise_stepLen xs n
      have h2 := riseTo_len xs n
      split at h1
      · rename_i hc
        rcases Nat.lt_or_ge i n with h3 | h3
        · exact ih (by omega) i h3
        · rw [show i = n by omega]; exact hc
      · omega
  exact srt_iff.2 fun j hj => inR_two (by omega) (hall _ h j (by omega)) (hall _ h (j + 1) hj)


theorem brkN_in (P : List Int) : ∀ k, 0 ≤ brkN P k ∧ brkN P k ≤ k
  | 0 => by simp [brkN]
  | k + 1 => by have := brkN_in P k; rw [brkN]; split <;> omega
/-- The value of the last one kept of the first k, -1 if there is none. -/
def lastK (xs : List Int) (P : Nat → Bool) : Nat → Int
  | 0 => -1
  | k + 1 => if P k = true then plN xs k else lastK xs P k
theorem lastK_in {xs : List Int} {P : Nat → Bool} (hP : ∀ i k, i < k → k < xs.length → P i = true → P k = true → plN xs i < plN xs k) {m : Nat} (hm : m < xs.length) (hPm : P m = true) : ∀ k, k ≤ m → lastK xs P k < plN xs m
  | 0, _ => by simp only [lastK]; omega
  | k + 1, h => by
    rw [lastK]
    split
    · rename_i hc; have := hP k m (by omega) hm hc hPm; omega
    · exact lastK_in hP hm hPm k (by omega)
theorem lastK_lt {xs : List Int} {P : Nat → Bool} : ∀ k, k ≤ xs.length → lastK xs P k < xs.length
  | 0, _ => by simp only [lastK]; omega
  | k + 1, h => by
    rw [lastK]
    split
    · have := plN_lt (xs := xs) (i := k) (by omega); omega
    · exact lastK_lt k (by omega)
/-- Breaks are paid by the keys that are removed: two at most at each one, and one for the gap that it leaves. -/
theorem brk_pay {xs : List Int} {P : Nat → Bool} (hP : ∀ i k, i < k → k < xs.length → P i = true → P k = true → plN xs i < plN xs k) : ∀ k, k ≤ xs.length → (prevAt (brkL xs) k = lastK xs P k ∧ brkN (brkL xs) k ≤ 2 * (k - cnt P 0 k) + (lastK xs P k + 1 - cnt P 0 k)) ∨ brkN (brkL xs) k ≤ 2 * (k - cnt P 0 k) - 1 + (lastK xs P k + 1 - cnt P 0 k)
  | 0, _ => by left; simp [brkN, cnt, lastK, prevAt]
  | k + 1, h => by
    have ih := brk_pay hP k (by omega)
    rw [brkN, cnt_up, lastK, Nat.zero_add]
    have hb : (brkL xs).getD k 0 = plN xs k := by rw [brkL_lo (by omega), placesL_cast (by omega)]
    have hpv : prevAt (brkL xs) (k + 1) = plN xs k := by rw [prev_pos (by omega), Nat.add_sub_cancel, hb]
    rw [hb, hpv]
    by_cases hk : P k = true
    · have h1 := lastK_in hP (by omega) hk k (Nat.le_refl _)
      rw [if_pos hk, if_pos hk]
      left
      refine ⟨rfl, ?_⟩
      rcases ih with ⟨i1, i2⟩ | i2
      · rw [i1]; split <;> omega
      · split <;> omega
    · rw [if_neg hk, if_neg hk]
      right
      rcases ih with ⟨i1, i2⟩ | i2 <;> split <;> omega
theorem inR_pl {xs : List Int} (i k : Nat) (h : i < k) (hk : k < xs.length) (h1 : inR xs i = true) (h2 : inR xs k = true) : plN xs i < plN xs k := by
  have := inR_two h h1 h2
  exact plN_mono (xs := xs) (i := i) (k := k) (by omega) (by unfold ltK; omega)
theorem brk_rem {xs : List Int} : brkN (brkL xs) (xs.length + 1) ≤ 3 * ((xs.length : Int) - (riseTo xs xs.length).length) := by
  have h1 := brk_pay (xs := xs) (P := inR xs) (fun i k => inR_pl i k) xs.length (Nat.le_refl _)
  have h2 := lastK_lt (xs := xs) (P := inR xs) xs.length (Nat.le_refl _)
  rw [rise_cnt] at h1
  rw [brkN, brkL_at rfl]
  rcases h1 with ⟨i1, i2⟩ | i2
  · rw [i1]; split <;> omega
  · split <;> omega
theorem brk_zero {xs : List Int} : ∀ k, k ≤ xs.length → brkN (brkL xs) k = 0 → ∀ i, i < k → (placesL xs).getD i 0 = i
  | 0, _, _, i, h => by omega
  | k + 1, hk, h, i, hi => by
    have h0 := brkN_in (brkL xs) k
    rw [brkN] at h
    split at h
    · rename_i hc
      have ih := brk_zero (xs := xs) k (by omega) (by omega)
      rcases Nat.lt_or_ge i k with h1 | h1
      · exact ih i h1
      · have : i = k := by omega
        subst this
        rw [brkL_lo (by omega)] at hc
        rw [hc]
        rcases Nat.eq_zero_or_pos i with h2 | h2
        · subst h2; rfl
        · rw [prev_pos h2, brkL_lo (by omega), ih (i - 1) (by omega)]; omega
    · omega
theorem brk_srt (xs : List Int) : (brkN (brkL xs) (xs.length + 1) == 0) = srt xs := by
  cases e : srt xs with
  | true =>
    have hz : ∀ k, k ≤ xs.length → brkN (brkL xs) k = 0 := by
      intro k
      induction k with
      | zero => intro _; rfl
      | succ k ih =>
        intro hk
        rw [brkN, ih (by omega), brkL_lo (by omega), placesL_get (by omega), srt_pl e (by omega) _ (Nat.le_refl _), if_pos]
        · rfl
        · unfold prevAt
          split
          · omega
          · rw [brkL_lo (by omega), placesL_get (by omega), srt_pl e (by omega) _ (Nat.le_refl _)]; omega
    have : brkN (brkL xs) (xs.length + 1) = 0 := by
      rw [brkN, hz _ (Nat.le_refl _), brkL_at rfl, if_pos]
      · rfl
      · unfold prevAt
        split
        · omega
        · rw [brkL_lo (by omega), placesL_get (by omega), srt_pl e (by omega) _ (Nat.le_refl _)]; omega
    rw [this]; rfl
  | false =>
    have : brkN (brkL xs) (xs.length + 1) ≠ 0 := fun h => by
      have h0 := brkN_in (brkL xs) xs.length
      rw [brkN] at h
      have h1 := brk_zero (xs := xs) xs.length (Nat.le_refl _) (by split at h <;> omega)
      have h2 := (misN_zero (P := placesL xs) xs.length).2 h1
      have h3 := mis_srt xs
      rw [h2, e] at h3
      cases h3
    simpa using this


/-- The sum of the first n values. -/
def sm (f : Nat → Int) : Nat → Int
  | 0 => 0
  | n + 1 => sm f n + f n
theorem sm_le {f g : Nat → Int} : ∀ n, (∀ i, i < n → f i ≤ g i) → sm f n ≤ sm g n
  | 0, _ => Int.le_refl _
  | n + 1, h => by have := sm_le (f := f) (g := g) n fun i hi => h i (by omega); have := h n (by omega); simp only [sm]; omega
theorem sm_eq {f g : Nat → Int} : ∀ n, (∀ i, i < n → f i = g i) → sm f n = sm g n
  | 0, _ => rfl
  | n + 1, h => by have := sm_eq (f := f) (g := g) n fun i hi => h i (by omega); have := h n (by omega); simp only [sm]; omega
theorem sm_add (f g : Nat → Int) : ∀ n, sm (fun i => f i + g i) n = sm f n + sm g n
  | 0 => rfl
  | n + 1 => by have := sm_add f g n; simp only [sm]; omega
theorem sm_zero : ∀ n, sm (fun _ => 0) n = 0
  | 0 => rfl
  | n + 1 => by rw [sm, sm_zero n]; rfl
theorem sm_swap (f : Nat → Nat → Int) : ∀ m n, sm (fun i => sm (fun k => f i k) n) m = sm (fun k => sm (fun i => f i k) m) n
  | 0, n => by simp only [sm]; exact (sm_zero n).symm
  | m + 1, n => by simp only [sm]; rw [sm_swap f m n, ← sm_add]
theorem sm_more {f : Nat → Int} (h : ∀ i, 0 ≤ f i) {n : Nat} : ∀ d, sm f n ≤ sm f (n + d)
  | 0 => Int.le_refl _
  | d + 1 => by have := sm_more h (n := n) d; have := h (n + d); rw [← Nat.add_assoc, sm]; omega
theorem sm_shift (f : Nat → Int) : ∀ n, sm f (n + 1) = f 0 + sm (fun i => f (i + 1)) n
  | 0 => by simp [sm]
  | n + 1 => by rw [sm, sm_shift f n, sm]; omega
theorem sm_rev (f : Nat → Int) : ∀ n, sm (fun i => f (n - 1 - i)) n = sm f n
  | 0 => rfl
  | n + 1 => by
    rw [sm_shift, sm, show n + 1 - 1 - 0 = n by omega, ← sm_rev f n]
    have : sm (fun i => f (n + 1 - 1 - (i + 1))) n = sm (fun i => f (n - 1 - i)) n := sm_eq n fun i hi => by rw [show n + 1 - 1 - (i + 1) = n - 1 - i by omega]
    rw [this]; omega
def invI (xs : List Int) (i k : Nat) : Int := if i < k ∧ xs.getD k 0 < xs.getD i 0 then 1 else 0
def btwI (xs : List Int) (i k : Nat) : Int := if min (xs.getD i 0) (xs.getD (i + 1) 0) < xs.getD k 0 ∧ xs.getD k 0 < max (xs.getD i 0) (xs.getD (i + 1) 0) then 1 else 0
theorem invI_in (xs : List Int) (i k : Nat) : 0 ≤ invI xs i k := by unfold invI; split <;> omega
theorem invRow_sm (xs : List Int) (i : Nat) : ∀ k, invRow xs i k = sm (invI xs i) k
  | 0 => rfl
  | k + 1 => by rw [invRow, sm, invRow_sm xs i k]; rfl
theorem invTo_sm (xs : List Int) : ∀ i, invTo xs i = sm (fun i => sm (invI xs i) xs.length) i
  | 0 => rfl
  | i + 1 => by rw [invTo, sm, invTo_sm xs i, invRow_sm]
theorem btwC_sm (xs : List Int) (i : Nat) : ∀ k, btwC xs (xs.getD i 0) (xs.getD (i + 1) 0) k = sm (btwI xs i) k
  | 0 => rfl
  | k + 1 => by rw [btwC, sm, btwC_sm xs i k]; rfl
theorem swTo_sm (xs : List Int) : ∀ i, swTo xs i = sm (fun i => sm (btwI xs i) xs.length) i
  | 0 => rfl
  | i + 1 => by rw [swTo, sm, swTo_sm xs i, btwC_sm]
theorem btw_inv (xs : List Int) (i k : Nat) : btwI xs i k ≤ invI xs i k + invI xs k i + (invI xs (i + 1) k + invI xs k (i + 1)) := by
  have h1 := invI_in xs i k; have h2 := invI_in xs k i; have h3 := invI_in xs (i + 1) k; have h4 := invI_in xs k (i + 1)
  by_cases hb : min (xs.getD i 0) (xs.getD (i + 1) 0) < xs.getD k 0 ∧ xs.getD k 0 < max (xs.getD i 0) (xs.getD (i + 1) 0)
  · have hbi : btwI xs i k = 1 := if_pos hb
    have hne : k ≠ i := fun e => by subst e; omega
    have hne2 : k ≠ i + 1 := fun e => by subst e; omega
    rw [hbi]
    rcases Int.lt_or_le (xs.getD i 0) (xs.getD (i + 1) 0) with h | h
    · rcases Nat.lt_or_ge i k with hk | hk
      · have : invI xs (i + 1) k = 1 := if_pos ⟨by omega, by omega⟩
        omega
      · have : invI xs k i = 1 := if_pos ⟨by omega, by omega⟩
        omega
    · rcases Nat.lt_or_ge i k with hk | hk
      · have : invI xs i k = 1 := if_pos ⟨by omega, by omega⟩
        omega
      · have : invI xs k (i + 1) = 1 := if_pos ⟨by omega, by omega⟩
        omega
  · have hbi : btwI xs i k = 0 := if_neg hb
    omega
theorem sw_inv (xs : List Int) : swTo xs (xs.length - 1) ≤ 4 * invTo xs xs.length := by
  rw [swTo_sm, invTo_sm]
  rcases Nat.eq_zero_or_pos xs.length with h0 | h0
  · rw [h0]; simp [sm]
  · have hn : xs.length = (xs.length - 1) + 1 := by omega
    have h1 : sm (fun i => sm (btwI xs i) xs.length) (xs.length - 1) ≤ sm (fun i => sm (fun k => invI xs i k + invI xs k i + (invI xs (i + 1) k + invI xs k (i + 1))) xs.length) (xs.length - 1) := sm_le _ fun i _ => sm_le _ fun k _ => btw_inv xs i k
    have h2 : sm (fun i => sm (fun k => invI xs i k + invI xs k i + (invI xs (i + 1) k + invI xs k (i + 1))) xs.length) (xs.length - 1) = sm (fun i => sm (fun k => invI xs i k) xs.length) (xs.length - 1) + sm (fun i => sm (fun k => invI xs k i) xs.length) (xs.length - 1) + (sm (fun i => sm (fun k => invI xs (i + 1) k) xs.length) (xs.length - 1) + sm (fun i => sm (fun k => invI xs k (i + 1)) xs.length) (xs.length - 1)) := by
      rw [← sm_add, ← sm_add, ← sm_add]
      refine sm_eq _ fun i _ => ?_
      rw [← sm_add, ← sm_add, ← sm_add]
    have hp : ∀ i, 0 ≤ sm (fun k => invI xs i k) xs.length := fun i => by rw [← sm_zero xs.length]; exact sm_le _ fun k _ => invI_in _ _ _
    have hq : ∀ i, 0 ≤ sm (fun k => invI xs k i) xs.length := fun i => by rw [← sm_zero xs.length]; exact sm_le _ fun k _ => invI_in _ _ _
    have h3 := sm_more hp (n := xs.length - 1) 1
    have h4 := sm_more hq (n := xs.length - 1) 1
    have h5 := sm_shift (fun i => sm (fun k => invI xs i k) xs.length) (xs.length - 1)
    have h6 := sm_shift (fun i => sm (fun k => invI xs k i) xs.length) (xs.length - 1)
    have h7 := sm_swap (fun i k => invI xs k i) xs.length xs.length
    rw [← hn] at h3 h4 h5 h6
    have h8 := hp 0
    have h9 := hq 0
    have e1 : sm (fun i => sm (invI xs i) xs.length) xs.length = sm (fun i => sm (fun k => invI xs i k) xs.length) xs.length := rfl
    omega
theorem rev_getD {xs : List Int} {j : Nat} (h : j < xs.length) : xs.reverse.getD j 0 = xs.getD (xs.length - 1 - j) 0 := by
  rw [List.getD_eq_getElem?_getD, List.getD_eq_getElem?_getD, List.getElem?_reverse h]
theorem sw_rev (xs : List Int) : swTo xs.reverse (xs.reverse.length - 1) = swTo xs (xs.length - 1) := by
  rw [swTo_sm, swTo_sm, List.length_reverse]
  rcases Nat.eq_zero_or_pos xs.length with h0 | h0
  · rw [h0]; rfl
  · rw [← sm_rev (fun i => sm (btwI xs i) xs.length)]
    refine sm_eq _ fun i hi => ?_
    rw [← sm_rev (btwI xs (xs.length - 1 - 1 - i))]
    refine sm_eq _ fun k hk => ?_
    unfold btwI
    rw [rev_getD (by omega), rev_getD (by omega), rev_getD hk, show xs.length - 1 - (i + 1) = xs.length - 1 - 1 - i by omega, show xs.length - 1 - 1 - i + 1 = xs.length - 1 - i by omega, Int.min_comm, Int.max_comm]
theorem swTo_nonneg (xs : List Int) : ∀ i, 0 ≤ swTo xs i ∧ swTo xs i ≤ xs.length * i
  | 0 => by simp [swTo]
  | i + 1 => by
    have := swTo_nonneg xs i
    have := btw_in xs (xs.getD i 0) (xs.getD (i + 1) 0) xs.length
    rw [swTo, show ((xs.length : Int)) * ((i + 1 : Nat) : Int) = xs.length * i + xs.length by rw [show ((i + 1 : Nat) : Int) = (i : Int) + 1 by omega, Int.mul_add, Int.mul_one]]
    omega

theorem cnt_app (P : Nat → Bool) : ∀ d e a, cnt P a (d + e) = cnt P a d + cnt P (a + d) e
  | 0, e, a => by simp [cnt]
  | d + 1, e, a => by rw [show d + 1 + e = (d + e) + 1 by omega, cnt, cnt_app P d e (a + 1), cnt, show a + 1 + d = a + (d + 1) by omega]; omega
theorem cnt_same {P Q : Nat → Bool} : ∀ d a, (∀ k, a ≤ k → k < a + d → P k = Q k) → cnt P a d = cnt Q a d
  | 0, _, _ => rfl
  | d + 1, a, h => by rw [cnt, cnt, h a (by omega) (by omega), cnt_same d (a + 1) fun k h1 h2 => h k (by omega) (by omega)]
theorem cnt_less {Q : Nat → Bool} {c : Nat} (hQ : Q c = true) {N : Nat} (hc : c < N) : cnt (fun k => Q k && decide (k ≠ c)) 0 N = cnt Q 0 N - 1 := by
  have h1 : cnt Q 0 N = cnt Q 0 c + (1 + cnt Q (c + 1) (N - (c + 1))) := by
    have h2 := cnt_app Q c ((N - (c + 1)) + 1) 0
    rw [show c + (N - (c + 1) + 1) = N by omega, Nat.zero_add, cnt, if_pos hQ] at h2
    exact h2
  have h3 : cnt (fun k => Q k && decide (k ≠ c)) 0 N = cnt Q 0 c + (0 + cnt Q (c + 1) (N - (c + 1))) := by
    have h2 := cnt_app (fun k => Q k && decide (k ≠ c)) c ((N - (c + 1)) + 1) 0
    rw [show c + (N - (c + 1) + 1) = N by omega, Nat.zero_add, cnt, if_neg (by simp)] at h2
    rw [h2, cnt_same (Q := Q) c 0 (fun k q1 q2 => by rw [decide_eq_true (by omega), Bool.and_true]), cnt_same (Q := Q) (N - (c + 1)) (c + 1) (fun k q1 q2 => by rw [decide_eq_true (by omega), Bool.and_true])]
  omega
/-- What is told apart by R is no more than what R leads to. -/
theorem cnt_inj {R : Nat → Nat → Prop} : ∀ (n : Nat) {P Q : Nat → Bool} {N : Nat}, (∀ i, i < n → P i = true → ∃ c, c < N ∧ Q c = true ∧ R i c) → (∀ i k c, i < n → k < n → P i = true → P k = true → R i c → R k c → i = k) → cnt P 0 n ≤ cnt Q 0 N
  | 0, P, Q, N, _, _ => by have := cnt_in Q N 0; simp only [cnt]; omega
  | n + 1, P, Q, N, h1, h2 => by
    rw [cnt_up, Nat.zero_add]
    cases hp : P n with
    | false =>
      have := cnt_inj n (P := P) (Q := Q) (N := N) (fun i hi => h1 i (by omega)) (fun i k c hi hk => h2 i k c (by omega) (by omega))
      simp; omega
    | true =>
      obtain ⟨c, hc, hQc, hR⟩ := h1 n (by omega) hp
      have := cnt_inj n (P := P) (Q := fun k => Q k && decide (k ≠ c)) (N := N) (fun i hi hPi => by
        obtain ⟨d, q1, q2, q3⟩ := h1 i (by omega) hPi
        refine ⟨d, q1, ?_, q3⟩
        have : d ≠ c := fun e => by
          subst e
          have := h2 i n d (by omega) (by omega) hPi hp q3 hR
          omega
        show (Q d && decide (d ≠ c)) = true
        rw [q2, decide_eq_true this]; rfl) (fun i k c hi hk => h2 i k c (by omega) (by omega))
      rw [cnt_less hQc hc] at this
      simp; omega
theorem cnt_rows {Q : Nat → Bool} {n : Nat} : ∀ m, cnt Q 0 (m * n) = sm (fun i => cnt Q (i * n) n) m
  | 0 => by simp [cnt, sm]
  | m + 1 => by rw [Nat.succ_mul, cnt_app, cnt_rows m, sm, Nat.zero_add]
theorem cnt_sm {Q : Nat → Bool} {a : Nat} : ∀ n, cnt Q a n = sm (fun k => if Q (a + k) = true then 1 else 0) n
  | 0 => rfl
  | n + 1 => by rw [cnt_up, cnt_sm n, sm]


/-- Pairs that stand the wrong way round, as one number each. -/
def invC (xs : List Int) (c : Nat) : Bool := decide (c / xs.length < c % xs.length ∧ xs.getD (c % xs.length) 0 < xs.getD (c / xs.length) 0)
theorem code_div {n a b : Nat} (h : b < n) : (a * n + b) / n = a ∧ (a * n + b) % n = b := by
  constructor
  · rw [Nat.mul_comm, Nat.mul_add_div (by omega), Nat.div_eq_of_lt h, Nat.add_zero]
  · rw [Nat.mul_comm, Nat.mul_add_mod, Nat.mod_eq_of_lt h]
theorem invC_cnt (xs : List Int) : cnt (invC xs) 0 (xs.length * xs.length) = invTo xs xs.length := by
  rw [cnt_rows, invTo_sm]
  refine sm_eq _ fun i _ => ?_
  rw [cnt_sm]
  refine sm_eq _ fun k hk => ?_
  unfold invC invI
  rw [(code_div hk).1, (code_div hk).2]
  simp only [decide_eq_true_eq]
theorem leastOf_ex {p : Nat → Prop} : ∀ (n : Nat), p n → ∃ k, k ≤ n ∧ p k ∧ ∀ j, j < k → ¬ p j := by
  intro n
  induction n using Nat.strongRecOn with
  | _ n ih =>
    intro h
    by_cases hx : ∃ m, m < n ∧ p m
    · obtain ⟨m, h1, h2⟩ := hx
      obtain ⟨k, q1, q2, q3⟩ := ih m h1 h2
      exact ⟨k, by omega, q2, q3⟩
    · exact ⟨n, Nat.le_refl _, h, fun j hj hp => hx ⟨j, hj, hp⟩⟩
theorem last_of {p : Nat → Prop} (n k : Nat) (hk : k < n) (h : p k) : ∃ m, k ≤ m ∧ m < n ∧ p m ∧ ∀ j, m < j → j < n → ¬ p j := by
  obtain ⟨d, h1, h2, h3⟩ := leastOf_ex (p := fun d => d < n ∧ p (n - 1 - d)) (n - 1 - k) ⟨by omega, by rwa [show n - 1 - (n - 1 - k) = k by omega]⟩
  refine ⟨n - 1 - d, by omega, by omega, h2.2, fun j q1 q2 hp => h3 (n - 1 - j) (by omega) ⟨by omega, ?_⟩⟩
  rwa [show n - 1 - (n - 1 - j) = j by omega]
/-- The way of a circle that stays at or above i, from the place of y on to x, and comes from under i and goes under i. -/
def arcP (xs : List Int) (i y x : Nat) : Prop := y < i ∧ x < xs.length ∧ ∃ L t0, t0 ≤ L ∧ (∀ t, t ≤ L → i ≤ itP xs t (plN xs y)) ∧ itP xs t0 (plN xs y) = i ∧ itP xs (L + 1) (plN xs y) < i ∧ x = itP xs L (plN xs y)
theorem itP_suc {xs : List Int} {y : Nat} (t : Nat) : itP xs t (plN xs y) = itP xs (t + 1) y := by rw [itP_add]; rfl
theorem arc_ex {xs : List Int} {i : Nat} (hi : i < xs.length) (h : lstB xs i = false) : ∃ y x, arcP xs i y x := by
  have hn : ∃ k, itP xs k i < i := Classical.byContradiction fun hx => by
    have : lstB xs i = true := (lstB_iff hi).2 fun k => by
      rcases Nat.lt_or_ge (itP xs k i) i with h1 | h1
      · exact (hx ⟨k, h1⟩).elim
      · exact h1
    rw [h] at this; cases this
  obtain ⟨k0, hk0⟩ := hn
  obtain ⟨T, hT, hTn, hTi⟩ := itP_ret hi
  rw [itP_mod hTi k0] at hk0
  have hlt := Nat.mod_lt k0 hT
  generalize k0 % T = k at hk0 hlt
  obtain ⟨k1, a1, a2, a3⟩ := leastOf_ex (p := fun k => itP xs k i < i) k hk0
  obtain ⟨k2, b1, b2, b3, b4⟩ := last_of (p := fun k => itP xs k i < i) T k hlt hk0
  have h10 : k1 ≠ 0 := fun e => by rw [e] at a2; exact Nat.lt_irrefl _ a2
  have key : ∀ t, t ≤ T - k2 - 1 + (k1 - 1) → i ≤ itP xs t (plN xs (itP xs k2 i)) := fun t ht => by
    rw [itP_suc, ← itP_add]
    rcases Nat.lt_or_ge (t + 1 + k2) T with h1 | h1
    · exact Nat.le_of_not_lt (b4 (t + 1 + k2) (by omega) h1)
    · rw [show t + 1 + k2 = (t + 1 + k2 - T) + T by omega, itP_add, hTi]
      exact Nat.le_of_not_lt (a3 (t + 1 + k2 - T) (by omega))
  refine ⟨itP xs k2 i, itP xs (T - k2 - 1 + (k1 - 1)) (plN xs (itP xs k2 i)), b3, itP_lt (plN_lt (itP_lt hi _)) _, T - k2 - 1 + (k1 - 1), T - k2 - 1, by omega, key, ?_, ?_, rfl⟩
  · rw [itP_suc, ← itP_add, show T - k2 - 1 + 1 + k2 = T by omega, hTi]
  · rw [itP_suc, ← itP_add, show T - k2 - 1 + (k1 - 1) + 1 + 1 + k2 = k1 + T by omega, itP_add, hTi]
    exact a2
theorem arc_one {xs : List Int} {i j y x : Nat} (h1 : arcP xs i y x) (h2 : arcP xs j y x) : ¬ i < j := fun hij => by
  obtain ⟨_, _, L, t, q1, q2, q3, q4, q5⟩ := h1
  obtain ⟨_, _, L', t', p1, p2, p3, p4, p5⟩ := h2
  rcases Nat.lt_or_ge L L' with h | h
  · have := p2 (L + 1) (by omega); omega
  · rcases Nat.lt_or_ge L' L with h3 | h3
    · have h4 := q2 (L' + 1) (by omega)
      have h5 : itP xs (L' + 1) (plN xs y) = plN xs x := by rw [p5]; rfl
      have h6 : itP xs (L + 1) (plN xs y) = plN xs x := by rw [q5]; rfl
      omega
    · have : L = L' := by omega
      subst this
      have := p2 t q1
      omega
theorem arc_inv {xs : List Int} {i y x : Nat} (hi : i < xs.length) (h : arcP xs i y x) : invC xs (y * xs.length + x) = true := by
  obtain ⟨h1, h2, L, t, q1, q2, q3, q4, q5⟩ := h
  have h3 := q2 L (Nat.le_refl _)
  have h4 := q2 0 (Nat.zero_le _)
  have h5 : itP xs (L + 1) (plN xs y) = plN xs x := by rw [q5]; rfl
  have h6 : itP xs 0 (plN xs y) = plN xs y := rfl
  have h7 := (plN_ltK (xs := xs) (i := x) (k := y) h2 (by omega)).1 (by omega)
  unfold ltK at h7
  unfold invC
  rw [(code_div h2).1, (code_div h2).2]
  exact decide_eq_true (by omega)


/-- Numbers are an order: few, each of 0 and so on up to their number less 1, and no two alike. -/
def isOrd (p : List Int) : Prop := p.length ≤ 5 ∧ (∀ i, i < p.length → 0 ≤ p.getD i 0 ∧ p.getD i 0 < p.length) ∧ ∀ a b, a < b → b < p.length → p.getD a 0 ≠ p.getD b 0
/-- Each of 0 and so on up to their number less 1, once. -/
def isOnce (p : List Int) : Prop := (∀ i, i < p.length → 0 ≤ p.getD i 0 ∧ p.getD i 0 < p.length) ∧ ∀ a b, a < b → b < p.length → p.getD a 0 ≠ p.getD b 0
noncomputable def onceB (p : List Int) : Bool := @decide (isOnce p) (Classical.propDecidable _)
theorem onceB_iff {p : List Int} : onceB p = true ↔ isOnce p := by unfold onceB; simp
theorem onceB_no {p : List Int} (h : ¬ isOnce p) : onceB p = false := by
  cases e : onceB p with
  | false => rfl
  | true => exact (h (onceB_iff.1 e)).elim
noncomputable def ordB (p : List Int) : Bool := @decide (isOrd p) (Classical.propDecidable _)
theorem ordB_iff {p : List Int} : ordB p = true ↔ isOrd p := by unfold ordB; simp
theorem ordB_no {p : List Int} (h : ¬ isOrd p) : ordB p = false := by
  cases e : ordB p with
  | false => rfl
  | true => exact (h (ordB_iff.1 e)).elim
/-- The first of the first k places with a value, -1 if there is none. -/
def fstAt (p : List Int) (v : Int) : Nat → Int
  | 0 => -1
  | k + 1 => if 0 ≤ fstAt p v k then fstAt p v k else if p.getD k 0 = v then (k : Int) else -1
theorem fst_none {p : List Int} {v : Int} : ∀ n, (∀ j, j < n → p.getD j 0 ≠ v) → fstAt p v n = -1
  | 0, _ => rfl
  | n + 1, h => by rw [fstAt, fst_none n fun j hj => h j (by omega), if_neg (by omega), if_neg (h n (by omega))]
theorem fst_keep {p : List Int} {v : Int} {k : Nat} (h : 0 ≤ fstAt p v k) : ∀ d, fstAt p v (k + d) = fstAt p v k
  | 0 => rfl
  | d + 1 => by rw [← Nat.add_assoc, fstAt, fst_keep h d, if_pos h]
theorem fst_at {p : List Int} {v : Int} {i n : Nat} (hi : i < n) (hv : p.getD i 0 = v) (hn : ∀ j, j < i → p.getD j 0 ≠ v) : fstAt p v n = i := by
  have h1 : fstAt p v (i + 1) = i := by rw [fstAt, fst_none i hn, if_neg (by omega), if_pos hv]
  have h2 := fst_keep (p := p) (v := v) (k := i + 1) (by omega) (n - (i + 1))
  rw [show i + 1 + (n - (i + 1)) = n by omega, h1] at h2
  exact h2
theorem fst_in {p : List Int} {v : Int} : ∀ n, -1 ≤ fstAt p v n ∧ fstAt p v n < n ∧ (0 ≤ fstAt p v n → p.getD (fstAt p v n).toNat 0 = v)
  | 0 => ⟨by simp [fstAt], by simp [fstAt], fun h => by simp [fstAt] at h⟩
  | n + 1 => by
    have ih := fst_in (p := p) (v := v) n
    rw [fstAt]
    split
    · exact ⟨by omega, by omega, ih.2.2⟩
    · split
      · rename_i h; exact ⟨by omega, by omega, fun _ => by rw [show ((n : Int)).toNat = n by omega]; exact h⟩
      · exact ⟨by omega, by omega, fun h => by omega⟩
theorem fst_some {p : List Int} {v : Int} {i n : Nat} (hi : i < n) (hv : p.getD i 0 = v) : 0 ≤ fstAt p v n := by
  have h1 : 0 ≤ fstAt p v (i + 1) := by
    rw [fstAt]
    split
    · assumption
    · first | (rw [if_pos hv]; omega) | omega
  have h2 := fst_keep h1 (n - (i + 1))
  rw [show i + 1 + (n - (i + 1)) = n by omega] at h2
  omega
/-- An order has each number once; the place of a number. -/
theorem once_has {p : List Int} (h : isOnce p) {v : Nat} (hv : v < p.length) : ∃ i, i < p.length ∧ p.getD i 0 = v := by
  obtain ⟨h2, h3⟩ := h
  obtain ⟨i, hi, he⟩ := inj_surj (n := p.length) (f := fun i => (p.getD i 0).toNat) (fun a ha => by have := h2 a ha; show (p.getD a 0).toNat < _; omega) (fun a b ha hb hab => by
    have hab : (p.getD a 0).toNat = (p.getD b 0).toNat := hab
    have := h2 a ha
    have := h2 b hb
    rcases Nat.lt_trichotomy a b with q | q | q
    · exact (h3 a b q hb (by omega)).elim
    · exact q
    · exact (h3 b a q ha (by omega)).elim) hv
  have := h2 i hi
  have he : (p.getD i 0).toNat = v := he
  exact ⟨i, hi, by omega⟩
theorem ord_has {p : List Int} (h : isOrd p) {v : Nat} (hv : v < p.length) : ∃ i, i < p.length ∧ p.getD i 0 = v := once_has h.2 hv
theorem once_of {p : List Int} (h : ∀ v, v < p.length → ∃ i, i < p.length ∧ p.getD i 0 = (v : Int)) : isOnce p := by
  have hf : ∀ v, ∃ i, v < p.length → i < p.length ∧ p.getD i 0 = (v : Int) := fun v => by
    by_cases hv : v < p.length
    · obtain ⟨i, hi⟩ := h v hv; exact ⟨i, fun _ => hi⟩
    · exact ⟨0, fun h => (hv h).elim⟩
  let f : Nat → Nat := fun v => (hf v).choose
  have hfs : ∀ v, v < p.length → f v < p.length ∧ p.getD (f v) 0 = (v : Int) := fun v => (hf v).choose_spec
  have hsur : ∀ i, i < p.length → ∃ v, v < p.length ∧ f v = i := fun i hi => inj_surj (n := p.length) (f := f) (fun a ha => (hfs a ha).1) (fun a b ha hb hab => by
    have h1 := (hfs a ha).2
    have h2 := (hfs b hb).2
    rw [hab] at h1
    omega) hi
  refine ⟨fun i hi => ?_, fun a b hab hb he => ?_⟩
  · obtain ⟨v, hv, rfl⟩ := hsur i hi
    rw [(hfs v hv).2]; omega
  · obtain ⟨u, hu, rfl⟩ := hsur a (by omega)
    obtain ⟨v, hv, rfl⟩ := hsur b hb
    rw [(hfs u hu).2, (hfs v hv).2] at he
    have : u = v := by omega
    subst this
    omega
theorem ord_of {p : List Int} (h5 : p.length ≤ 5) (h : ∀ v, v < p.length → ∃ i, i < p.length ∧ p.getD i 0 = (v : Int)) : isOrd p := ⟨h5, once_of h⟩
theorem ordB_eq (p : List Int) : ordB p = (decide (p.length ≤ 5) && onceB p) := by
  by_cases h : isOrd p
  · rw [ordB_iff.2 h, onceB_iff.2 h.2, decide_eq_true h.1]; rfl
  · rw [ordB_no h]
    by_cases h5 : p.length ≤ 5
    · rw [onceB_no (fun h2 => h ⟨h5, h2⟩), Bool.and_false]
    · rw [decide_eq_false h5, Bool.false_and]
/-- The places of the numbers of one order in another one. -/
def relL (p q : List Int) : List Int := (List.range p.length).map fun i => fstAt q (p.getD i 0) q.length
theorem relL_len (p q : List Int) : (relL p q).length = p.length := by simp [relL]
theorem relL_get {p q : List Int} {i : Nat} (h : i < p.length) : (relL p q).getD i 0 = fstAt q (p.getD i 0) q.length := by
  rw [List.getD_eq_getElem?_getD, List.getElem?_eq_getElem (by rw [relL_len]; exact h)]; simp [relL]
theorem relL_up {p q : List Int} {i : Nat} (h : i < p.length) : (relL p q).take i ++ [fstAt q (p.getD i 0) q.length] = (relL p q).take (i + 1) := by
  rw [List.take_succ_eq_append_getElem (by rw [relL_len]; exact h)]
  congr 2
  have := relL_get (q := q) h
  rw [List.getD_eq_getElem?_getD, List.getElem?_eq_getElem (by rw [relL_len]; exact h)] at this
  simpa using this.symm
/-- What is there behind i numbers and k places of the next one. -/
def relIn (p q : List Int) (i k : Nat) : List Int := (relL p q).take i ++ (if 0 ≤ fstAt q (p.getD i 0) k then [fstAt q (p.getD i 0) k] else [])
theorem relIn_zero (p q : List Int) (i : Nat) : relIn p q i 0 = (relL p q).take i := by unfold relIn; rw [show fstAt q (p.getD i 0) 0 = -1 from rfl, if_neg (by omega), List.append_nil]
theorem relIn_hit {p q : List Int} {i k : Nat} (hq : isOrd q) (hk : k < q.length) (h : q.getD k 0 = p.getD i 0) : relIn p q i k ++ [(k : Int)] = relIn p q i (k + 1) := by
  have h0 : fstAt q (p.getD i 0) k = -1 := fst_none k fun j hj he => hq.2.2 j k hj hk (by omega)
  unfold relIn
  have h1 : fstAt q (p.getD i 0) (k + 1) = k := by rw [fstAt, h0, if_neg (by omega), if_pos h]
  rw [h1, h0, if_neg (by omega), if_pos (by omega), List.append_nil]
theorem relIn_miss {p q : List Int} {i k : Nat} (h : q.getD k 0 ≠ p.getD i 0) : relIn p q i (k + 1) = relIn p q i k := by
  unfold relIn
  rw [fstAt]
  by_cases h0 : 0 ≤ fstAt q (p.getD i 0) k
  · rw [if_pos h0]
  · rw [if_neg h0, if_neg h, if_neg (by omega), if_neg h0]
theorem rel_ord {p q : List Int} (hp : isOrd p) (hq : isOrd q) (hl : p.length = q.length) {i : Nat} (hi : i < p.length) : 0 ≤ fstAt q (p.getD i 0) q.length := by
  have h1 := hp.2.1 i hi
  obtain ⟨k, hk, he⟩ := ord_has hq (v := (p.getD i 0).toNat) (by omega)
  exact fst_some hk (by omega)
theorem relIn_end {p q : List Int} (hp : isOrd p) (hq : isOrd q) (hl : p.length = q.length) {i : Nat} (hi : i < p.length) : relIn p q i q.length = (relL p q).take (i + 1) := by
  unfold relIn
  rw [if_pos (rel_ord hp hq hl hi), relL_up hi]
theorem relIn_len {p q : List Int} {i k : Nat} (hi : i < p.length) (hk : k ≤ q.length) (h5 : q.length ≤ 5) : (relIn p q i k).length ≤ i + 1 := by
  unfold relIn
  have : ((relL p q).take i).length ≤ i := by rw [List.length_take]; omega
  split <;> simp <;> omega
/-- Both fine, and of one length. -/
noncomputable def ord2B (p q : List Int) : Bool := @decide (isOrd p ∧ isOrd q ∧ p.length = q.length) (Classical.propDecidable _)
theorem ord2B_iff {p q : List Int} : ord2B p q = true ↔ isOrd p ∧ isOrd q ∧ p.length = q.length := by unfold ord2B; simp
theorem ord2B_no {p q : List Int} (h : ¬ (isOrd p ∧ isOrd q ∧ p.length = q.length)) : ord2B p q = false := by
  cases e : ord2B p q with
  | false => rfl
  | true => exact (h (ord2B_iff.1 e)).elim

theorem ord2B_eq (p q : List Int) : ord2B p q = (decide ((p.length : Int) = q.length) && ordB p && ordB q) := by
  by_cases h : isOrd p ∧ isOrd q ∧ p.length = q.length
  · rw [ord2B_iff.2 h, ordB_iff.2 h.1, ordB_iff.2 h.2.1, decide_eq_true (by omega)]; rfl
  · rw [ord2B_no h]
    cases hp : ordB p with
    | false => simp
    | true =>
      cases hq : ordB q with
      | false => simp
      | true => rw [decide_eq_false (fun e => h ⟨ordB_iff.1 hp, ordB_iff.1 hq, by omega⟩)]; rfl


theorem slIndex_sat : Sat Try.prog 58 (fun ds Q => ∃ (xs : List Int) (v : Int), ds = [.row (.ints .i64 (xs)), .val (.int .i64 (v))] ∧ (xs.length ≤ 1099511627776) ∧ Q (.val (.int .i64 ((fstAt xs v xs.length))))) := by
  refine sat_intro tabOk Try.func58 rfl 19 rfl [.tmp 4] rfl ?_
  rintro ds Q W ⟨xs, v, rfl, hl, hQ⟩
  refine ⟨Nat.le_of_ble_eq_true rfl, ?_⟩
  simp only [initS, initT, mat.matL, mat, Cont.len]
  repeat' (first | refine awp_seq_k fun K hK => ?_ | ((with_reducible refine hK _ ?_); clear hK K) | (clear hK K; (with_reducible refine hK _ ?_); clear hK K) | (clear hK K; clear hK K; (with_reducible refine hK _ ?_); clear hK K) | (clear hK K; clear hK K; clear hK K; (with_reducible refine hK _ ?_); clear hK K) | (clear hK K; clear hK K; clear hK K; clear hK K; (with_reducible refine hK _ ?_); clear hK K) | (clear hK K; clear hK K; clear hK K; clear hK K; clear hK K; (with_reducible refine hK _ ?_); clear hK K) | ((with_reducible refine aord_plain fun K hK => ?_); simp only [go_sem, Nat.reduceAdd, Nat.reduceMul, Nat.reduceEqDiff, Nat.reduceLT, reduceIte, reduceCtorEq]) | refine awp_block ?_ | ((first | with_reducible refine aord_nil ?_ | refine awp_skip ?_ | refine awp_exit ?_ | refine awp_ret ?_); try simp only [thenA_normal, thenA_exit, thenA_goto, thenA_ret, blockA_normal, blockA_same, blockA_exit, blockA_goto, blockA_ret, Nat.reduceEqDiff, if_false, if_true, reduceIte]) | (refine awp_region tabOk rfl ?_; simp only [prep, pickO, List.map_cons, List.map_nil, List.getElem?_toArray, List.getElem?_cons_succ, List.getElem?_cons_zero, Option.bind_some, Option.map_some]) | ((with_reducible apply awp_cond); (focus (simp only [St.ev, St.set, upd, Nat.reduceEqDiff, reduceIte, if_false, if_true]; exact rfl)); all_goals (intro hb; first | (cases hb; done) | ((try rw [hb]); (try simp only [decide_eq_true_eq, decide_eq_false_iff_not, beq_iff_eq, bne_iff_ne, beq_eq_false_iff_ne, bne_eq_false_iff_eq, Int.not_lt, Int.not_le, Bool.not_eq_true', Bool.not_eq_false'] at hb)))) | ((with_reducible refine And.intro ?_ ?_); (focus omega)) | ((with_reducible refine And.intro ?_ ?_); (focus (exact rfl))) | (with_reducible refine And.intro (fun hb => ?_) (fun hb => ?_)) | (exfalso; omega) | fail)
  refine awp_loopE (α := Nat) (fun s p => ⟨(upd (upd (upd (upd bot 0 (s.tmps 0)) 1 (s.tmps 1)) 7 (s.tmps 7)) 8 (.val (.int .i64 (p)))), s.heap, s.next⟩) _ (fun p => by simp only [St.ev, St.set, upd, Nat.reduceEqDiff, reduceIte, if_false, if_true]; exact rfl) (fun p => (p ≤ xs.length) ∧ (∀ j, j < p → xs.getD j 0 ≠ v)) (fun p => xs.length - p) (0) ?_ ?_ ?_
  · (try simp only); (refine ⟨?_, ?_⟩ <;> (first | omega | (intro j h; omega)))
  · (apply Wk.same; (case' h2 => (focus ((repeat' (with_reducible first | exact HeapX.bot | (apply HeapX.skip; (case hx => (simp; done))) | apply HeapX.none | apply HeapX.upd)); all_goals (first | rfl | exact Nat.le_of_ble_eq_true rfl | (simp only [St.set, St.ev, upd, ren, renL, id, Nat.reduceEqDiff, reduceIte, ContLe]; done) | (first | (simp only [St.set, St.ev, upd, ren, renL, id, Nat.reduceEqDiff, reduceIte]; exact contLe_nil) | ((repeat' (first | exact contLe_nil | refine contLe_cons (.inr ⟨?_, rfl⟩) ?_)); all_goals (first | rfl | (simp only [St.set, St.ev, upd, ren, renL, id, Nat.reduceEqDiff, reduceIte]; done) | ((try simp only [St.set, St.ev, upd, ren, renL, id, Nat.reduceEqDiff, reduceIte]); first | (with_reducible exact av_int (by omega)) | (with_reducible exact av_sl (by first | omega | (simp; done) | (simp; omega)) (by first | omega | (simp; done) | (simp; omega)))) | (simp only [St.set, St.ev, upd, ren, renL, id, Nat.reduceEqDiff, reduceIte, Int.natCast_add, Int.natCast_one, Int.cast_ofNat_Int, Int.natCast_zero]; done) | (simp only [St.set, St.ev, upd, ren, renL, id, Nat.reduceEqDiff, reduceIte]) | skip); done)) | (simp only [St.set, St.ev, upd, ren, renL, id, Nat.reduceEqDiff, reduceIte, ContLe]) | skip)))); (case' h1 => (focus ((repeat' (with_reducible first | exact TmpLe.bot | refine TmpLe.upd ?_ rfl ?_)); all_goals (first | rfl | (simp only [St.set, St.ev, upd, ren, renL, id, Nat.reduceEqDiff, reduceIte]; done) | ((try simp only [St.set, St.ev, upd, ren, renL, id, Nat.reduceEqDiff, reduceIte]); first | (with_reducible exact av_int (by omega)) | (with_reducible exact av_sl (by first | omega | (simp; done) | (simp; omega)) (by first | omega | (simp; done) | (simp; omega)))) | (simp only [St.set, St.ev, upd, ren, renL, id, Nat.reduceEqDiff, reduceIte, Int.natCast_add, Int.natCast_one, Int.cast_ofNat_Int, Int.natCast_zero]; done) | (simp only [St.set, St.ev, upd, ren, renL, id, Nat.reduceEqDiff, reduceIte]) | skip)))); (case h3 => (focus (first | (simp only [id, List.map_cons, List.map_nil]; decide) | decide))); (case h4 => (intro o l h; first | (cases h; done) | (have hlt0 := m0_lt (by assumption) h; first | omega | (simp only; omega) | exact ⟨by (first | rfl | (simp only [id]; done) | (rw [if_neg (by omega)])), by first | omega | (simp only; omega)⟩))))
  rintro i ⟨hi, hn⟩
  try simp only at hi hn
  repeat' (first | refine awp_seq_k fun K hK => ?_ | ((with_reducible refine hK _ ?_); clear hK K) | (clear hK K; (with_reducible refine hK _ ?_); clear hK K) | (clear hK K; clear hK K; (with_reducible refine hK _ ?_); clear hK K) | (clear hK K; clear hK K; clear hK K; (with_reducible refine hK _ ?_); clear hK K) | (clear hK K; clear hK K; clear hK K; clear hK K; (with_reducible refine hK _ ?_); clear hK K) | (clear hK K; clear hK K; clear hK K; clear hK K; clear hK K; (with_reducible refine hK _ ?_); clear hK K) | ((with_reducible refine aord_plain fun K hK => ?_); simp only [go_sem, Nat.reduceAdd, Nat.reduceMul, Nat.reduceEqDiff, Nat.reduceLT, reduceIte, reduceCtorEq]) | refine awp_block ?_ | ((first | with_reducible refine aord_nil ?_ | refine awp_skip ?_ | refine awp_exit ?_ | refine awp_ret ?_); try simp only [thenA_normal, thenA_exit, thenA_goto, thenA_ret, blockA_normal, blockA_same, blockA_exit, blockA_goto, blockA_ret, Nat.reduceEqDiff, if_false, if_true, reduceIte]) | (refine awp_region tabOk rfl ?_; simp only [prep, pickO, List.map_cons, List.map_nil, List.getElem?_toArray, List.getElem?_cons_succ, List.getElem?_cons_zero, Option.bind_some, Option.map_some]) | ((with_reducible apply awp_cond); (focus (simp only [St.ev, St.set, upd, Nat.reduceEqDiff, reduceIte, if_false, if_true]; exact rfl)); all_goals (intro hb; first | (cases hb; done) | ((try rw [hb]); (try simp only [decide_eq_true_eq, decide_eq_false_iff_not, beq_iff_eq, bne_iff_ne, beq_eq_false_iff_ne, bne_eq_false_iff_eq, Int.not_lt, Int.not_le, Bool.not_eq_true', Bool.not_eq_false'] at hb)))) | ((with_reducible refine And.intro ?_ ?_); (focus omega)) | ((with_reducible refine And.intro ?_ ?_); (focus (exact rfl))) | (with_reducible refine And.intro (fun hb => ?_) (fun hb => ?_)) | (exfalso; omega) | fail)
  · simp only [St.set, St.ev, doneQ, doneH, ressK, resK, wrapR, AV.ids, AV.idsL, retK, retsK, upd, Nat.reduceEqDiff, reduceIte, if_false, if_true, List.nodup_nil, List.nodup_cons, List.not_mem_nil, not_false_eq_true, true_and, and_true, exists_eq_left', Option.some.injEq, rLoad, cellOf, tab, Ty.isAgg, Ty.one, Bool.false_eq_true]
    rw [fst_at (i := i) (n := xs.length) (by omega) (by omega) hn] at hQ
    exact hQ
  · ((refine Exists.intro (i + 1) ?_); (refine nxt ?_ ?_ ?_); (focus ((apply Wk.same; (case' h2 => (focus ((repeat' (with_reducible first | exact HeapX.bot | (apply HeapX.skip; (case hx => (simp; done))) | apply HeapX.none | apply HeapX.upd)); all_goals (first | rfl | exact Nat.le_of_ble_eq_true rfl | (simp only [St.set, St.ev, upd, ren, renL, id, Nat.reduceEqDiff, reduceIte, ContLe]; done) | (first | (simp only [St.set, St.ev, upd, ren, renL, id, Nat.reduceEqDiff, reduceIte]; exact contLe_nil) | ((repeat' (first | exact contLe_nil | refine contLe_cons (.inr ⟨?_, rfl⟩) ?_)); all_goals (first | rfl | (simp only [St.set, St.ev, upd, ren, renL, id, Nat.reduceEqDiff, reduceIte]; done) | ((try simp only [St.set, St.ev, upd, ren, renL, id, Nat.reduceEqDiff, reduceIte]); first | (with_reducible exact av_int (by omega)) | (with_reducible exact av_sl (by first | omega | (simp; done) | (simp; omega)) (by first | omega | (simp; done) | (simp; omega)))) | (simp only [St.set, St.ev, upd, ren, renL, id, Nat.reduceEqDiff, reduceIte, Int.natCast_add, Int.natCast_one, Int.cast_ofNat_Int, Int.natCast_zero]; done) | (simp only [St.set, St.ev, upd, ren, renL, id, Nat.reduceEqDiff, reduceIte]) | skip); done)) | (simp only [St.set, St.ev, upd, ren, renL, id, Nat.reduceEqDiff, reduceIte, ContLe]) | skip)))); (case' h1 => (focus ((repeat' (with_reducible first | exact TmpLe.bot | refine TmpLe.upd ?_ rfl ?_)); all_goals (first | rfl | (simp only [St.set, St.ev, upd, ren, renL, id, Nat.reduceEqDiff, reduceIte]; done) | ((try simp only [St.set, St.ev, upd, ren, renL, id, Nat.reduceEqDiff, reduceIte]); first | (with_reducible exact av_int (by omega)) | (with_reducible exact av_sl (by first | omega | (simp; done) | (simp; omega)) (by first | omega | (simp; done) | (simp; omega)))) | (simp only [St.set, St.ev, upd, ren, renL, id, Nat.reduceEqDiff, reduceIte, Int.natCast_add, Int.natCast_one, Int.cast_ofNat_Int, Int.natCast_zero]; done) | (simp only [St.set, St.ev, upd, ren, renL, id, Nat.reduceEqDiff, reduceIte]) | skip)))); (case h3 => (focus (first | (simp only [id, List.map_cons, List.map_nil]; decide) | decide))); (case h4 => (intro o l h; first | (cases h; done) | (have hlt0 := m0_lt (by assumption) h; first | omega | (simp only; omega) | exact ⟨by (first | rfl | (simp only [id]; done) | (rw [if_neg (by omega)])), by first | omega | (simp only; omega)⟩)))))); (focus (first | omega | (simp only; omega) | (simp only [List.length_take]; omega) | (simp; omega))); ((repeat' (with_reducible apply And.intro)) <;> (first | omega | (simp only; omega) | assumption | rfl | ((try simp only); exact all_step hn (by omega)) | skip)))
  · simp only [St.set, St.ev, doneQ, doneH, ressK, resK, wrapR, AV.ids, AV.idsL, retK, retsK, upd, Nat.reduceEqDiff, reduceIte, if_false, if_true, List.nodup_nil, List.nodup_cons, List.not_mem_nil, not_false_eq_true, true_and, and_true, exists_eq_left', Option.some.injEq, rLoad, cellOf, tab, Ty.isAgg, Ty.one, Bool.false_eq_true]
    rw [fst_none xs.length (fun j hj => hn j (by omega))] at hQ
    exact hQ


theorem slContains_sat : Sat Try.prog 77 (fun ds Q => ∃ (xs : List Int) (v : Int), ds = [.row (.ints .i64 (xs)), .val (.int .i64 (v))] ∧ (xs.length ≤ 1099511627776) ∧ Q (.val (.bool ((decide (fstAt xs v xs.length ≥ 0)))))) := by
  refine sat_intro tabOk Try.func77 rfl 9 rfl [.tmp 4] rfl ?_
  rintro ds Q W ⟨xs, v, rfl, hl, hQ⟩
  refine ⟨Nat.le_of_ble_eq_true rfl, ?_⟩
  simp only [initS, initT, mat.matL, mat, Cont.len]
  repeat' (first | refine awp_seq_k fun K hK => ?_ | ((with_reducible refine hK _ ?_); clear hK K) | (clear hK K; (with_reducible refine hK _ ?_); clear hK K) | (clear hK K; clear hK K; (with_reducible refine hK _ ?_); clear hK K) | (clear hK K; clear hK K; clear hK K; (with_reducible refine hK _ ?_); clear hK K) | (clear hK K; clear hK K; clear hK K; clear hK K; (with_reducible refine hK _ ?_); clear hK K) | (clear hK K; clear hK K; clear hK K; clear hK K; clear hK K; (with_reducible refine hK _ ?_); clear hK K) | ((with_reducible refine aord_plain fun K hK => ?_); simp only [go_sem, Nat.reduceAdd, Nat.reduceMul, Nat.reduceEqDiff, Nat.reduceLT, reduceIte, reduceCtorEq]) | refine awp_block ?_ | ((first | with_reducible refine aord_nil ?_ | refine awp_skip ?_ | refine awp_exit ?_ | refine awp_ret ?_); try simp only [thenA_normal, thenA_exit, thenA_goto, thenA_ret, blockA_normal, blockA_same, blockA_exit, blockA_goto, blockA_ret, Nat.reduceEqDiff, if_false, if_true, reduceIte]) | (refine awp_region tabOk rfl ?_; simp only [prep, pickO, List.map_cons, List.map_nil, List.getElem?_toArray, List.getElem?_cons_succ, List.getElem?_cons_zero, Option.bind_some, Option.map_some]) | ((with_reducible refine And.intro ?_ ?_); (focus omega)) | ((with_reducible refine And.intro ?_ ?_); (focus (exact rfl))) | ((with_reducible refine And.intro (?_ : enters Try.prog 58) ?_); (focus exact Try.call58); (refine callX_sat slIndex_sat ?_); simp only [go_sem, and_assoc, List.nil_append, List.append_nil, List.cons_append, Nat.reduceEqDiff, reduceIte, reduceCtorEq]) | (with_reducible refine And.intro (fun hb => ?_) (fun hb => ?_)) | (exfalso; omega) | fail)
  simp only [St.set, St.ev, doneQ, doneH, ressK, resK, wrapR, AV.ids, AV.idsL, retK, retsK, upd, Nat.reduceEqDiff, reduceIte, if_false, if_true, List.nodup_nil, List.nodup_cons, List.not_mem_nil, not_false_eq_true, true_and, and_true, exists_eq_left', Option.some.injEq, rLoad, cellOf, tab, Ty.isAgg, Ty.one, Bool.false_eq_true]
  exact hQ


theorem comeOnce_sat : Sat Try.prog 53 (fun ds Q => ∃ (us : List Int), ds = [.row (.ints .i64 (us))] ∧ (us.length ≤ 1099511627776) ∧ Q (.val (.bool ((onceB us))))) := by
  refine sat_intro tabOk Try.func53 rfl 14 rfl [.tmp 2] rfl ?_
  rintro ds Q W ⟨us, rfl, hl, hQ⟩
  refine ⟨Nat.le_of_ble_eq_true rfl, ?_⟩
  simp only [initS, initT, mat.matL, mat, Cont.len]
  repeat' (first | refine awp_seq_k fun K hK => ?_ | ((with_reducible refine hK _ ?_); clear hK K) | (clear hK K; (with_reducible refine hK _ ?_); clear hK K) | (clear hK K; clear hK K; (with_reducible refine hK _ ?_); clear hK K) | (clear hK K; clear hK K; clear hK K; (with_reducible refine hK _ ?_); clear hK K) | (clear hK K; clear hK K; clear hK K; clear hK K; (with_reducible refine hK _ ?_); clear hK K) | (clear hK K; clear hK K; clear hK K; clear hK K; clear hK K; (with_reducible refine hK _ ?_); clear hK K) | ((with_reducible refine aord_plain fun K hK => ?_); simp only [go_sem, Nat.reduceAdd, Nat.reduceMul, Nat.reduceEqDiff, Nat.reduceLT, reduceIte, reduceCtorEq]) | refine awp_block ?_ | ((first | with_reducible refine aord_nil ?_ | refine awp_skip ?_ | refine awp_exit ?_ | refine awp_ret ?_); try simp only [thenA_normal, thenA_exit, thenA_goto, thenA_ret, blockA_normal, blockA_same, blockA_exit, blockA_goto, blockA_ret, Nat.reduceEqDiff, if_false, if_true, reduceIte]) | (refine awp_region tabOk rfl ?_; simp only [prep, pickO, List.map_cons, List.map_nil, List.getElem?_toArray, List.getElem?_cons_succ, List.getElem?_cons_zero, Option.bind_some, Option.map_some]) | ((with_reducible apply awp_cond); (focus (simp only [St.ev, St.set, upd, Nat.reduceEqDiff, reduceIte, if_false, if_true]; exact rfl)); all_goals (intro hb; first | (cases hb; done) | ((try rw [hb]); (try simp only [decide_eq_true_eq, decide_eq_false_iff_not, beq_iff_eq, bne_iff_ne, beq_eq_false_iff_ne, bne_eq_false_iff_eq, Int.not_lt, Int.not_le, Bool.not_eq_true', Bool.not_eq_false'] at hb)))) | ((with_reducible refine And.intro ?_ ?_); (focus omega)) | ((with_reducible refine And.intro ?_ ?_); (focus (exact rfl))) | ((with_reducible refine And.intro (?_ : enters Try.prog 77) ?_); (focus exact Try.call77); (refine callX_sat slContains_sat ?_); simp only [go_sem, and_assoc, List.nil_append, List.append_nil, List.cons_append, Nat.reduceEqDiff, reduceIte, reduceCtorEq]) | (with_reducible refine And.intro (fun hb => ?_) (fun hb => ?_)) | (exfalso; omega) | fail)
  · skip
    refine awp_loopE (α := Nat) (fun s p => ⟨(upd (upd (upd bot 0 (s.tmps 0)) 5 (s.tmps 5)) 6 (.val (.int .i64 (p)))), s.heap, s.next⟩) _ (fun p => by simp only [St.ev, St.set, upd, Nat.reduceEqDiff, reduceIte, if_false, if_true]; exact rfl) (fun p => (p ≤ us.length) ∧ (∀ v : Nat, v < p → 0 ≤ fstAt us v us.length)) (fun p => us.length - p) (0) ?_ ?_ ?_
    · (try simp only); (refine ⟨?_, ?_⟩ <;> (first | omega | (intro j h; omega)))
    · (apply Wk.same; (case' h2 => (focus ((repeat' (with_reducible first | exact HeapX.bot | (apply HeapX.skip; (case hx => (simp; done))) | apply HeapX.none | apply HeapX.upd)); all_goals (first | rfl | exact Nat.le_of_ble_eq_true rfl | (simp only [St.set, St.ev, upd, ren, renL, id, Nat.reduceEqDiff, reduceIte, ContLe]; done) | (first | (simp only [St.set, St.ev, upd, ren, renL, id, Nat.reduceEqDiff, reduceIte]; exact contLe_nil) | ((repeat' (first | exact contLe_nil | refine contLe_cons (.inr ⟨?_, rfl⟩) ?_)); all_goals (first | rfl | (simp only [St.set, St.ev, upd, ren, renL, id, Nat.reduceEqDiff, reduceIte]; done) | ((try simp only [St.set, St.ev, upd, ren, renL, id, Nat.reduceEqDiff, reduceIte]); first | (with_reducible exact av_int (by omega)) | (with_reducible exact av_sl (by first | omega | (simp; done) | (simp; omega)) (by first | omega | (simp; done) | (simp; omega)))) | (simp only [St.set, St.ev, upd, ren, renL, id, Nat.reduceEqDiff, reduceIte, Int.natCast_add, Int.natCast_one, Int.cast_ofNat_Int, Int.natCast_zero]; done) | (simp only [St.set, St.ev, upd, ren, renL, id, Nat.reduceEqDiff, reduceIte]) | skip); done)) | (simp only [St.set, St.ev, upd, ren, renL, id, Nat.reduceEqDiff, reduceIte, ContLe]) | skip)))); (case' h1 => (focus ((repeat' (with_reducible first | exact TmpLe.bot | refine TmpLe.upd ?_ rfl ?_)); all_goals (first | rfl | (simp only [St.set, St.ev, upd, ren, renL, id, Nat.reduceEqDiff, reduceIte]; done) | ((try simp only [St.set, St.ev, upd, ren, renL, id, Nat.reduceEqDiff, reduceIte]); first | (with_reducible exact av_int (by omega)) | (with_reducible exact av_sl (by first | omega | (simp; done) | (simp; omega)) (by first | omega | (simp; done) | (simp; omega)))) | (simp only [St.set, St.ev, upd, ren, renL, id, Nat.reduceEqDiff, reduceIte, Int.natCast_add, Int.natCast_one, Int.cast_ofNat_Int, Int.natCast_zero]; done) | (simp only [St.set, St.ev, upd, ren, renL, id, Nat.reduceEqDiff, reduceIte]) | skip)))); (case h3 => (focus (first | (simp only [id, List.map_cons, List.map_nil]; decide) | decide))); (case h4 => (intro o l h; first | (cases h; done) | (have hlt0 := m0_lt (by assumption) h; first | omega | (simp only; omega) | exact ⟨by (first | rfl | (simp only [id]; done) | (rw [if_neg (by omega)])), by first | omega | (simp only; omega)⟩))))
    rintro i ⟨hi, hn⟩
    try simp only at hi hn
    repeat' (first | refine awp_seq_k fun K hK => ?_ | ((with_reducible refine hK _ ?_); clear hK K) | (clear hK K; (with_reducible refine hK _ ?_); clear hK K) | (clear hK K; clear hK K; (with_reducible refine hK _ ?_); clear hK K) | (clear hK K; clear hK K; clear hK K; (with_reducible refine hK _ ?_); clear hK K) | (clear hK K; clear hK K; clear hK K; clear hK K; (with_reducible refine hK _ ?_); clear hK K) | (clear hK K; clear hK K; clear hK K; clear hK K; clear hK K; (with_reducible refine hK _ ?_); clear hK K) | ((with_reducible refine aord_plain fun K hK => ?_); simp only [go_sem, Nat.reduceAdd, Nat.reduceMul, Nat.reduceEqDiff, Nat.reduceLT, reduceIte, reduceCtorEq]) | refine awp_block ?_ | ((first | with_reducible refine aord_nil ?_ | refine awp_skip ?_ | refine awp_exit ?_ | refine awp_ret ?_); try simp only [thenA_normal, thenA_exit, thenA_goto, thenA_ret, blockA_normal, blockA_same, blockA_exit, blockA_goto, blockA_ret, Nat.reduceEqDiff, if_false, if_true, reduceIte]) | (refine awp_region tabOk rfl ?_; simp only [prep, pickO, List.map_cons, List.map_nil, List.getElem?_toArray, List.getElem?_cons_succ, List.getElem?_cons_zero, Option.bind_some, Option.map_some]) | ((with_reducible apply awp_cond); (focus (simp only [St.ev, St.set, upd, Nat.reduceEqDiff, reduceIte, if_false, if_true]; exact rfl)); all_goals (intro hb; first | (cases hb; done) | ((try rw [hb]); (try simp only [decide_eq_true_eq, decide_eq_false_iff_not, beq_iff_eq, bne_iff_ne, beq_eq_false_iff_ne, bne_eq_false_iff_eq, Int.not_lt, Int.not_le, Bool.not_eq_true', Bool.not_eq_false'] at hb)))) | ((with_reducible refine And.intro ?_ ?_); (focus omega)) | ((with_reducible refine And.intro ?_ ?_); (focus (exact rfl))) | ((with_reducible refine And.intro (?_ : enters Try.prog 77) ?_); (focus exact Try.call77); (refine callX_sat slContains_sat ?_); simp only [go_sem, and_assoc, List.nil_append, List.append_nil, List.cons_append, Nat.reduceEqDiff, reduceIte, reduceCtorEq]) | (with_reducible refine And.intro (fun hb => ?_) (fun hb => ?_)) | (exfalso; omega) | fail)
    · simp only [St.set, St.ev, doneQ, doneH, ressK, resK, wrapR, AV.ids, AV.idsL, retK, retsK, upd, Nat.reduceEqDiff, reduceIte, if_false, if_true, List.nodup_nil, List.nodup_cons, List.not_mem_nil, not_false_eq_true, true_and, and_true, exists_eq_left', Option.some.injEq, rLoad, cellOf, tab, Ty.isAgg, Ty.one, Bool.false_eq_true]
      rw [onceB_no (fun h => by obtain ⟨k, hk, he⟩ := once_has h (v := i) (by omega); have := fst_some hk he; omega)] at hQ
      exact hQ
    · ((refine Exists.intro (i + 1) ?_); (refine nxt ?_ ?_ ?_); (focus ((apply Wk.same; (case' h2 => (focus ((repeat' (with_reducible first | exact HeapX.bot | (apply HeapX.skip; (case hx => (simp; done))) | apply HeapX.none | apply HeapX.upd)); all_goals (first | rfl | exact Nat.le_of_ble_eq_true rfl | (simp only [St.set, St.ev, upd, ren, renL, id, Nat.reduceEqDiff, reduceIte, ContLe]; done) | (first | (simp only [St.set, St.ev, upd, ren, renL, id, Nat.reduceEqDiff, reduceIte]; exact contLe_nil) | ((repeat' (first | exact contLe_nil | refine contLe_cons (.inr ⟨?_, rfl⟩) ?_)); all_goals (first | rfl | (simp only [St.set, St.ev, upd, ren, renL, id, Nat.reduceEqDiff, reduceIte]; done) | ((try simp only [St.set, St.ev, upd, ren, renL, id, Nat.reduceEqDiff, reduceIte]); first | (with_reducible exact av_int (by omega)) | (with_reducible exact av_sl (by first | omega | (simp; done) | (simp; omega)) (by first | omega | (simp; done) | (simp; omega)))) | (simp only [St.set, St.ev, upd, ren, renL, id, Nat.reduceEqDiff, reduceIte, Int.natCast_add, Int.natCast_one, Int.cast_ofNat_Int, Int.natCast_zero]; done) | (simp only [St.set, St.ev, upd, ren, renL, id, Nat.reduceEqDiff, reduceIte]) | skip); done)) | (simp only [St.set, St.ev, upd, ren, renL, id, Nat.reduceEqDiff, reduceIte, ContLe]) | skip)))); (case' h1 => (focus ((repeat' (with_reducible first | exact TmpLe.bot | refine TmpLe.upd ?_ rfl ?_)); all_goals (first | rfl | (simp only [St.set, St.ev, upd, ren, renL, id, Nat.reduceEqDiff, reduceIte]; done) | ((try simp only [St.set, St.ev, upd, ren, renL, id, Nat.reduceEqDiff, reduceIte]); first | (with_reducible exact av_int (by omega)) | (with_reducible exact av_sl (by first | omega | (simp; done) | (simp; omega)) (by first | omega | (simp; done) | (simp; omega)))) | (simp only [St.set, St.ev, upd, ren, renL, id, Nat.reduceEqDiff, reduceIte, Int.natCast_add, Int.natCast_one, Int.cast_ofNat_Int, Int.natCast_zero]; done) | (simp only [St.set, St.ev, upd, ren, renL, id, Nat.reduceEqDiff, reduceIte]) | skip)))); (case h3 => (focus (first | (simp only [id, List.map_cons, List.map_nil]; decide) | decide))); (case h4 => (intro o l h; first | (cases h; done) | (have hlt0 := m0_lt (by assumption) h; first | omega | (simp only; omega) | exact ⟨by (first | rfl | (simp only [id]; done) | (rw [if_neg (by omega)])), by first | omega | (simp only; omega)⟩)))))); (focus (first | omega | (simp only; omega) | (simp only [List.length_take]; omega) | (simp; omega))); ((repeat' (with_reducible apply And.intro)) <;> (first | omega | (simp only; omega) | assumption | rfl | ((try simp only); exact all_step (p := fun v : Nat => 0 ≤ fstAt us v us.length) hn (by show 0 ≤ fstAt us i us.length; omega)) | skip)))
    · simp only [St.set, St.ev, doneQ, doneH, ressK, resK, wrapR, AV.ids, AV.idsL, retK, retsK, upd, Nat.reduceEqDiff, reduceIte, if_false, if_true, List.nodup_nil, List.nodup_cons, List.not_mem_nil, not_false_eq_true, true_and, and_true, exists_eq_left', Option.some.injEq, rLoad, cellOf, tab, Ty.isAgg, Ty.one, Bool.false_eq_true]
      rw [onceB_iff.2 (once_of fun v hv => by
        have h1 := hn v (by omega)
        have h2 := fst_in (p := us) (v := v) us.length
        exact ⟨(fstAt us v us.length).toNat, by omega, h2.2.2 h1⟩)] at hQ
      exact hQ


theorem implValidOrder_sat : Sat Try.prog 14 (fun ds Q => ∃ (us : List Int), ds = [.row (.ints .i64 (us))] ∧ (us.length ≤ 1099511627776) ∧ Q (.val (.bool ((ordB us))))) := by
  refine sat_intro tabOk Try.func14 rfl 10 rfl [.tmp 2] rfl ?_
  rintro ds Q W ⟨us, rfl, hl, hQ⟩
  refine ⟨Nat.le_of_ble_eq_true rfl, ?_⟩
  simp only [initS, initT, mat.matL, mat, Cont.len]
  rw [ordB_eq] at hQ
  repeat' (first | refine awp_seq_k fun K hK => ?_ | ((with_reducible refine hK _ ?_); clear hK K) | (clear hK K; (with_reducible refine hK _ ?_); clear hK K) | (clear hK K; clear hK K; (with_reducible refine hK _ ?_); clear hK K) | (clear hK K; clear hK K; clear hK K; (with_reducible refine hK _ ?_); clear hK K) | (clear hK K; clear hK K; clear hK K; clear hK K; (with_reducible refine hK _ ?_); clear hK K) | (clear hK K; clear hK K; clear hK K; clear hK K; clear hK K; (with_reducible refine hK _ ?_); clear hK K) | ((with_reducible refine aord_plain fun K hK => ?_); simp only [go_sem, Nat.reduceAdd, Nat.reduceMul, Nat.reduceEqDiff, Nat.reduceLT, reduceIte, reduceCtorEq]) | ((with_reducible apply aord_guard); (focus (simp only [St.ev, St.set, upd, Nat.reduceEqDiff, reduceIte, if_false, if_true]; exact rfl)); all_goals (intro hb; (try simp only [Bool.not_true, Bool.not_false] at hb); first | (cases hb; done) | ((try rw [hb]); (try simp only [Bool.not_eq_true', Bool.not_eq_false', Bool.and_eq_true, decide_eq_true_eq, decide_eq_false_iff_not, beq_iff_eq, bne_iff_ne, beq_eq_false_iff_ne, bne_eq_false_iff_eq, Int.not_lt, Int.not_le] at hb); (try (revert hb; with_reducible refine true_imp_iff.2 ?_)); first | (intro K hK; simp only [go_sem, Nat.reduceAdd, Nat.reduceMul, Nat.reduceEqDiff, Nat.reduceLT, reduceIte, reduceCtorEq]) | (simp only [St.ev, St.set, upd, Nat.reduceEqDiff, reduceIte, if_false, if_true]) | skip))) | ((with_reducible apply aord_skip); (focus (simp only [St.ev, St.set, upd, Nat.reduceEqDiff, reduceIte, if_false, if_true]; done)); (simp only [St.ev, St.set, upd, Nat.reduceEqDiff, reduceIte, if_false, if_true])) | refine awp_block ?_ | ((first | with_reducible refine aord_nil ?_ | refine awp_skip ?_ | refine awp_exit ?_ | refine awp_ret ?_); try simp only [thenA_normal, thenA_exit, thenA_goto, thenA_ret, blockA_normal, blockA_same, blockA_exit, blockA_goto, blockA_ret, Nat.reduceEqDiff, if_false, if_true, reduceIte]) | (refine awp_region tabOk rfl ?_; simp only [prep, pickO, List.map_cons, List.map_nil, List.getElem?_toArray, List.getElem?_cons_succ, List.getElem?_cons_zero, Option.bind_some, Option.map_some]) | ((with_reducible refine And.intro ?_ ?_); (focus omega)) | ((with_reducible refine And.intro ?_ ?_); (focus (exact rfl))) | ((with_reducible refine And.intro (?_ : enters Try.prog 53) ?_); (focus exact Try.call53); (refine callX_sat comeOnce_sat ?_); simp only [go_sem, and_assoc, List.nil_append, List.append_nil, List.cons_append, Nat.reduceEqDiff, reduceIte, reduceCtorEq]) | (with_reducible refine And.intro (fun hb => ?_) (fun hb => ?_)) | (exfalso; omega) | fail)
  all_goals simp only [St.set, St.ev, doneQ, doneH, ressK, resK, wrapR, AV.ids, AV.idsL, retK, retsK, upd, Nat.reduceEqDiff, reduceIte, if_false, if_true, List.nodup_nil, List.nodup_cons, List.not_mem_nil, not_false_eq_true, true_and, and_true, exists_eq_left', Option.some.injEq, rLoad, cellOf, tab, Ty.isAgg, Ty.one, Bool.false_eq_true]
  · rw [decide_eq_true (by omega), Bool.true_and] at hQ
    exact hQ
  · rw [decide_eq_false (by omega), Bool.false_and] at hQ
    exact hQ


theorem specvalidOrder_sat : Sat Try.prog 54 (fun ds Q => ∃ (us : List Int), ds = [.row (.ints .i64 (us))] ∧ (us.length ≤ 1099511627776) ∧ Q (.val (.bool ((ordB us))))) := by
  refine sat_intro tabOk Try.func54 rfl 37 rfl [.tmp 2] rfl ?_
  rintro ds Q W ⟨us, rfl, hl, hQ⟩
  refine ⟨Nat.le_of_ble_eq_true rfl, ?_⟩
  simp only [initS, initT, mat.matL, mat, Cont.len]
  repeat' (first | refine awp_seq_k fun K hK => ?_ | ((with_reducible refine hK _ ?_); clear hK K) | (clear hK K; (with_reducible refine hK _ ?_); clear hK K) | (clear hK K; clear hK K; (with_reducible refine hK _ ?_); clear hK K) | (clear hK K; clear hK K; clear hK K; (with_reducible refine hK _ ?_); clear hK K) | (clear hK K; clear hK K; clear hK K; clear hK K; (with_reducible refine hK _ ?_); clear hK K) | (clear hK K; clear hK K; clear hK K; clear hK K; clear hK K; (with_reducible refine hK _ ?_); clear hK K) | ((with_reducible refine aord_plain fun K hK => ?_); simp only [go_sem, Nat.reduceAdd, Nat.reduceMul, Nat.reduceEqDiff, Nat.reduceLT, reduceIte, reduceCtorEq]) | refine awp_block ?_ | ((first | with_reducible refine aord_nil ?_ | refine awp_skip ?_ | refine awp_exit ?_ | refine awp_ret ?_); try simp only [thenA_normal, thenA_exit, thenA_goto, thenA_ret, blockA_normal, blockA_same, blockA_exit, blockA_goto, blockA_ret, Nat.reduceEqDiff, if_false, if_true, reduceIte]) | (refine awp_region tabOk rfl ?_; simp only [prep, pickO, List.map_cons, List.map_nil, List.getElem?_toArray, List.getElem?_cons_succ, List.getElem?_cons_zero, Option.bind_some, Option.map_some]) | (refine awp_region_draw (nt := 37) (id := 9) tabOk [(0, true, false), (1, true, false), (2, true, false), (3, true, false), (4, true, false), (5, true, false), (6, true, false), (7, true, false), (8, true, false)] (by kernel_rfl) rfl (by kernel_rfl) ?_; simp only [prep, pickO, List.map_cons, List.map_nil, List.getElem?_toArray, List.getElem?_cons_succ, List.getElem?_cons_zero, Option.bind_some, Option.map_some]) | ((with_reducible apply awp_cond); (focus (simp only [St.ev, St.set, upd, Nat.reduceEqDiff, reduceIte, if_false, if_true]; exact rfl)); all_goals (intro hb; first | (cases hb; done) | ((try rw [hb]); (try simp only [decide_eq_true_eq, decide_eq_false_iff_not, beq_iff_eq, bne_iff_ne, beq_eq_false_iff_ne, bne_eq_false_iff_eq, Int.not_lt, Int.not_le, Bool.not_eq_true', Bool.not_eq_false'] at hb)))) | ((with_reducible refine And.intro ?_ ?_); (focus omega)) | ((with_reducible refine And.intro ?_ ?_); (focus (exact rfl))) | ((with_reducible refine And.intro (?_ : enters Try.prog 76) ?_); (focus exact Try.call76); (refine callX_sat inRange_sat ?_); simp only [go_sem, and_assoc, List.nil_append, List.append_nil, List.cons_append, Nat.reduceEqDiff, reduceIte, reduceCtorEq]) | (with_reducible refine And.intro (fun hb => ?_) (fun hb => ?_)) | (exfalso; omega) | fail)
  refine awp_loopE (α := Nat) (fun s p => ⟨(upd (upd bot 0 (s.tmps 0)) 3 (.val (.int .i64 (p)))), s.heap, s.next⟩) _ (fun p => by simp only [St.ev, St.set, upd, Nat.reduceEqDiff, reduceIte, if_false, if_true]; exact rfl) (fun p => (p ≤ us.length) ∧ (∀ j, j < p → 0 ≤ us.getD j 0 ∧ us.getD j 0 < us.length) ∧ (∀ a b, a < b → b < p → us.getD a 0 ≠ us.getD b 0)) (fun p => us.length - p) (0) ?_ ?_ ?_
  · (try simp only); (refine ⟨?_, ?_, ?_⟩ <;> (first | omega | (intro j h; omega) | (intro a b h1 h2; omega)))
  · (apply Wk.same; (case' h2 => (focus ((repeat' (with_reducible first | exact HeapX.bot | (apply HeapX.skip; (case hx => (simp; done))) | apply HeapX.none | apply HeapX.upd)); all_goals (first | rfl | exact Nat.le_of_ble_eq_true rfl | (simp only [St.set, St.ev, upd, ren, renL, id, Nat.reduceEqDiff, reduceIte, ContLe]; done) | (first | (simp only [St.set, St.ev, upd, ren, renL, id, Nat.reduceEqDiff, reduceIte]; exact contLe_nil) | ((repeat' (first | exact contLe_nil | refine contLe_cons (.inr ⟨?_, rfl⟩) ?_)); all_goals (first | rfl | (simp only [St.set, St.ev, upd, ren, renL, id, Nat.reduceEqDiff, reduceIte]; done) | ((try simp only [St.set, St.ev, upd, ren, renL, id, Nat.reduceEqDiff, reduceIte]); first | (with_reducible exact av_int (by omega)) | (with_reducible exact av_sl (by first | omega | (simp; done) | (simp; omega)) (by first | omega | (simp; done) | (simp; omega)))) | (simp only [St.set, St.ev, upd, ren, renL, id, Nat.reduceEqDiff, reduceIte, Int.natCast_add, Int.natCast_one, Int.cast_ofNat_Int, Int.natCast_zero]; done) | (simp only [St.set, St.ev, upd, ren, renL, id, Nat.reduceEqDiff, reduceIte]) | skip); done)) | (simp only [St.set, St.ev, upd, ren, renL, id, Nat.reduceEqDiff, reduceIte, ContLe]) | skip)))); (case' h1 => (focus ((repeat' (with_reducible first | exact TmpLe.bot | refine TmpLe.upd ?_ rfl ?_)); all_goals (first | rfl | (simp only [St.set, St.ev, upd, ren, renL, id, Nat.reduceEqDiff, reduceIte]; done) | ((try simp only [St.set, St.ev, upd, ren, renL, id, Nat.reduceEqDiff, reduceIte]); first | (with_reducible exact av_int (by omega)) | (with_reducible exact av_sl (by first | omega | (simp; done) | (simp; omega)) (by first | omega | (simp; done) | (simp; omega)))) | (simp only [St.set, St.ev, upd, ren, renL, id, Nat.reduceEqDiff, reduceIte, Int.natCast_add, Int.natCast_one, Int.cast_ofNat_Int, Int.natCast_zero]; done) | (simp only [St.set, St.ev, upd, ren, renL, id, Nat.reduceEqDiff, reduceIte]) | skip)))); (case h3 => (focus (first | (simp only [id, List.map_cons, List.map_nil]; decide) | decide))); (case h4 => (intro o l h; first | (cases h; done) | (have hlt0 := m0_lt (by assumption) h; first | omega | (simp only; omega) | exact ⟨by (first | rfl | (simp only [id]; done) | (rw [if_neg (by omega)])), by first | omega | (simp only; omega)⟩))))
  rintro i ⟨hi, hr, hd⟩
  try simp only at hi hr hd
  repeat' (first | refine awp_seq_k fun K hK => ?_ | ((with_reducible refine hK _ ?_); clear hK K) | (clear hK K; (with_reducible refine hK _ ?_); clear hK K) | (clear hK K; clear hK K; (with_reducible refine hK _ ?_); clear hK K) | (clear hK K; clear hK K; clear hK K; (with_reducible refine hK _ ?_); clear hK K) | (clear hK K; clear hK K; clear hK K; clear hK K; (with_reducible refine hK _ ?_); clear hK K) | (clear hK K; clear hK K; clear hK K; clear hK K; clear hK K; (with_reducible refine hK _ ?_); clear hK K) | ((with_reducible refine aord_plain fun K hK => ?_); simp only [go_sem, Nat.reduceAdd, Nat.reduceMul, Nat.reduceEqDiff, Nat.reduceLT, reduceIte, reduceCtorEq]) | refine awp_block ?_ | ((first | with_reducible refine aord_nil ?_ | refine awp_skip ?_ | refine awp_exit ?_ | refine awp_ret ?_); try simp only [thenA_normal, thenA_exit, thenA_goto, thenA_ret, blockA_normal, blockA_same, blockA_exit, blockA_goto, blockA_ret, Nat.reduceEqDiff, if_false, if_true, reduceIte]) | (refine awp_region tabOk rfl ?_; simp only [prep, pickO, List.map_cons, List.map_nil, List.getElem?_toArray, List.getElem?_cons_succ, List.getElem?_cons_zero, Option.bind_some, Option.map_some]) | (refine awp_region_draw (nt := 37) (id := 9) tabOk [(0, true, false), (1, true, false), (2, true, false), (3, true, false), (4, true, false), (5, true, false), (6, true, false), (7, true, false), (8, true, false)] (by kernel_rfl) rfl (by kernel_rfl) ?_; simp only [prep, pickO, List.map_cons, List.map_nil, List.getElem?_toArray, List.getElem?_cons_succ, List.getElem?_cons_zero, Option.bind_some, Option.map_some]) | ((with_reducible apply awp_cond); (focus (simp only [St.ev, St.set, upd, Nat.reduceEqDiff, reduceIte, if_false, if_true]; exact rfl)); all_goals (intro hb; first | (cases hb; done) | ((try rw [hb]); (try simp only [decide_eq_true_eq, decide_eq_false_iff_not, beq_iff_eq, bne_iff_ne, beq_eq_false_iff_ne, bne_eq_false_iff_eq, Int.not_lt, Int.not_le, Bool.not_eq_true', Bool.not_eq_false'] at hb)))) | ((with_reducible refine And.intro ?_ ?_); (focus omega)) | ((with_reducible refine And.intro ?_ ?_); (focus (exact rfl))) | ((with_reducible refine And.intro (?_ : enters Try.prog 76) ?_); (focus exact Try.call76); (refine callX_sat inRange_sat ?_); simp only [go_sem, and_assoc, List.nil_append, List.append_nil, List.cons_append, Nat.reduceEqDiff, reduceIte, reduceCtorEq]) | (with_reducible refine And.intro (fun hb => ?_) (fun hb => ?_)) | (exfalso; omega) | fail)
  · simp only [St.set, St.ev, doneQ, doneH, ressK, resK, wrapR, AV.ids, AV.idsL, retK, retsK, upd, Nat.reduceEqDiff, reduceIte, if_false, if_true, List.nodup_nil, List.nodup_cons, List.not_mem_nil, not_false_eq_true, true_and, and_true, exists_eq_left', Option.some.injEq, rLoad, cellOf, tab, Ty.isAgg, Ty.one, Bool.false_eq_true]
    rw [ordB_no (fun h => by
      have h2 := h.2.1 i (by omega)
      rw [decide_eq_true (by omega), decide_eq_true (by omega)] at hb; cases hb)] at hQ
    exact hQ
  · have hbi : 0 ≤ us.getD i 0 ∧ us.getD i 0 ≤ (us.length : Int) - 1 := by simpa using hb
    refine awp_loopE (α := Nat) (fun s p => ⟨(upd (upd (upd bot 0 (s.tmps 0)) 3 (s.tmps 3)) 4 (.val (.int .i64 (p)))), s.heap, s.next⟩) _ (fun p => by simp only [St.ev, St.set, upd, Nat.reduceEqDiff, reduceIte, if_false, if_true]; exact rfl) (fun p => (p ≤ i) ∧ (∀ a, a < p → us.getD a 0 ≠ us.getD i 0)) (fun p => i - p) (0) ?_ ?_ ?_
    · (try simp only); (refine ⟨?_, ?_⟩ <;> (first | omega | (intro a h1; omega)))
    · (apply Wk.same; (case' h2 => (focus ((repeat' (with_reducible first | exact HeapX.bot | (apply HeapX.skip; (case hx => (simp; done))) | apply HeapX.none | apply HeapX.upd)); all_goals (first | rfl | exact Nat.le_of_ble_eq_true rfl | (simp only [St.set, St.ev, upd, ren, renL, id, Nat.reduceEqDiff, reduceIte, ContLe]; done) | (first | (simp only [St.set, St.ev, upd, ren, renL, id, Nat.reduceEqDiff, reduceIte]; exact contLe_nil) | ((repeat' (first | exact contLe_nil | refine contLe_cons (.inr ⟨?_, rfl⟩) ?_)); all_goals (first | rfl | (simp only [St.set, St.ev, upd, ren, renL, id, Nat.reduceEqDiff, reduceIte]; done) | ((try simp only [St.set, St.ev, upd, ren, renL, id, Nat.reduceEqDiff, reduceIte]); first | (with_reducible exact av_int (by omega)) | (with_reducible exact av_sl (by first | omega | (simp; done) | (simp; omega)) (by first | omega | (simp; done) | (simp; omega)))) | (simp only [St.set, St.ev, upd, ren, renL, id, Nat.reduceEqDiff, reduceIte, Int.natCast_add, Int.natCast_one, Int.cast_ofNat_Int, Int.natCast_zero]; done) | (simp only [St.set, St.ev, upd, ren, renL, id, Nat.reduceEqDiff, reduceIte]) | skip); done)) | (simp only [St.set, St.ev, upd, ren, renL, id, Nat.reduceEqDiff, reduceIte, ContLe]) | skip)))); (case' h1 => (focus ((repeat' (with_reducible first | exact TmpLe.bot | refine TmpLe.upd ?_ rfl ?_)); all_goals (first | rfl | (simp only [St.set, St.ev, upd, ren, renL, id, Nat.reduceEqDiff, reduceIte]; done) | ((try simp only [St.set, St.ev, upd, ren, renL, id, Nat.reduceEqDiff, reduceIte]); first | (with_reducible exact av_int (by omega)) | (with_reducible exact av_sl (by first | omega | (simp; done) | (simp; omega)) (by first | omega | (simp; done) | (simp; omega)))) | (simp only [St.set, St.ev, upd, ren, renL, id, Nat.reduceEqDiff, reduceIte, Int.natCast_add, Int.natCast_one, Int.cast_ofNat_Int, Int.natCast_zero]; done) | (simp only [St.set, St.ev, upd, ren, renL, id, Nat.reduceEqDiff, reduceIte]) | skip)))); (case h3 => (focus (first | (simp only [id, List.map_cons, List.map_nil]; decide) | decide))); (case h4 => (intro o l h; first | (cases h; done) | (have hlt0 := m0_lt (by assumption) h; first | omega | (simp only; omega) | exact ⟨by (first | rfl | (simp only [id]; done) | (rw [if_neg (by omega)])), by first | omega | (simp only; omega)⟩))))
    rintro k ⟨hk, he⟩
    try simp only at hk he
    repeat' (first | refine awp_seq_k fun K hK => ?_ | ((with_reducible refine hK _ ?_); clear hK K) | (clear hK K; (with_reducible refine hK _ ?_); clear hK K) | (clear hK K; clear hK K; (with_reducible refine hK _ ?_); clear hK K) | (clear hK K; clear hK K; clear hK K; (with_reducible refine hK _ ?_); clear hK K) | (clear hK K; clear hK K; clear hK K; clear hK K; (with_reducible refine hK _ ?_); clear hK K) | (clear hK K; clear hK K; clear hK K; clear hK K; clear hK K; (with_reducible refine hK _ ?_); clear hK K) | ((with_reducible refine aord_plain fun K hK => ?_); simp only [go_sem, Nat.reduceAdd, Nat.reduceMul, Nat.reduceEqDiff, Nat.reduceLT, reduceIte, reduceCtorEq]) | refine awp_block ?_ | ((first | with_reducible refine aord_nil ?_ | refine awp_skip ?_ | refine awp_exit ?_ | refine awp_ret ?_); try simp only [thenA_normal, thenA_exit, thenA_goto, thenA_ret, blockA_normal, blockA_same, blockA_exit, blockA_goto, blockA_ret, Nat.reduceEqDiff, if_false, if_true, reduceIte]) | (refine awp_region tabOk rfl ?_; simp only [prep, pickO, List.map_cons, List.map_nil, List.getElem?_toArray, List.getElem?_cons_succ, List.getElem?_cons_zero, Option.bind_some, Option.map_some]) | (refine awp_region_draw (nt := 37) (id := 9) tabOk [(0, true, false), (1, true, false), (2, true, false), (3, true, false), (4, true, false), (5, true, false), (6, true, false), (7, true, false), (8, true, false)] (by kernel_rfl) rfl (by kernel_rfl) ?_; simp only [prep, pickO, List.map_cons, List.map_nil, List.getElem?_toArray, List.getElem?_cons_succ, List.getElem?_cons_zero, Option.bind_some, Option.map_some]) | ((with_reducible apply awp_cond); (focus (simp only [St.ev, St.set, upd, Nat.reduceEqDiff, reduceIte, if_false, if_true]; exact rfl)); all_goals (intro hb; first | (cases hb; done) | ((try rw [hb]); (try simp only [decide_eq_true_eq, decide_eq_false_iff_not, beq_iff_eq, bne_iff_ne, beq_eq_false_iff_ne, bne_eq_false_iff_eq, Int.not_lt, Int.not_le, Bool.not_eq_true', Bool.not_eq_false'] at hb)))) | ((with_reducible refine And.intro ?_ ?_); (focus omega)) | ((with_reducible refine And.intro ?_ ?_); (focus (exact rfl))) | ((with_reducible refine And.intro (?_ : enters Try.prog 76) ?_); (focus exact Try.call76); (refine callX_sat inRange_sat ?_); simp only [go_sem, and_assoc, List.nil_append, List.append_nil, List.cons_append, Nat.reduceEqDiff, reduceIte, reduceCtorEq]) | (with_reducible refine And.intro (fun hb => ?_) (fun hb => ?_)) | (exfalso; omega) | fail)
    · simp only [St.set, St.ev, doneQ, doneH, ressK, resK, wrapR, AV.ids, AV.idsL, retK, retsK, upd, Nat.reduceEqDiff, reduceIte, if_false, if_true, List.nodup_nil, List.nodup_cons, List.not_mem_nil, not_false_eq_true, true_and, and_true, exists_eq_left', Option.some.injEq, rLoad, cellOf, tab, Ty.isAgg, Ty.one, Bool.false_eq_true]
      rw [ordB_no (fun h => h.2.2 k i (by omega) (by omega) (by assumption))] at hQ
      exact hQ
    · ((refine Exists.intro (k + 1) ?_); (refine nxt ?_ ?_ ?_); (focus ((apply Wk.same; (case' h2 => (focus ((repeat' (with_reducible first | exact HeapX.bot | (apply HeapX.skip; (case hx => (simp; done))) | apply HeapX.none | apply HeapX.upd)); all_goals (first | rfl | exact Nat.le_of_ble_eq_true rfl | (simp only [St.set, St.ev, upd, ren, renL, id, Nat.reduceEqDiff, reduceIte, ContLe]; done) | (first | (simp only [St.set, St.ev, upd, ren, renL, id, Nat.reduceEqDiff, reduceIte]; exact contLe_nil) | ((repeat' (first | exact contLe_nil | refine contLe_cons (.inr ⟨?_, rfl⟩) ?_)); all_goals (first | rfl | (simp only [St.set, St.ev, upd, ren, renL, id, Nat.reduceEqDiff, reduceIte]; done) | ((try simp only [St.set, St.ev, upd, ren, renL, id, Nat.reduceEqDiff, reduceIte]); first | (with_reducible exact av_int (by omega)) | (with_reducible exact av_sl (by first | omega | (simp; done) | (simp; omega)) (by first | omega | (simp; done) | (simp; omega)))) | (simp only [St.set, St.ev, upd, ren, renL, id, Nat.reduceEqDiff, reduceIte, Int.natCast_add, Int.natCast_one, Int.cast_ofNat_Int, Int.natCast_zero]; done) | (simp only [St.set, St.ev, upd, ren, renL, id, Nat.reduceEqDiff, reduceIte]) | skip); done)) | (simp only [St.set, St.ev, upd, ren, renL, id, Nat.reduceEqDiff, reduceIte, ContLe]) | skip)))); (case' h1 => (focus ((repeat' (with_reducible first | exact TmpLe.bot | refine TmpLe.upd ?_ rfl ?_)); all_goals (first | rfl | (simp only [St.set, St.ev, upd, ren, renL, id, Nat.reduceEqDiff, reduceIte]; done) | ((try simp only [St.set, St.ev, upd, ren, renL, id, Nat.reduceEqDiff, reduceIte]); first | (with_reducible exact av_int (by omega)) | (with_reducible exact av_sl (by first | omega | (simp; done) | (simp; omega)) (by first | omega | (simp; done) | (simp; omega)))) | (simp only [St.set, St.ev, upd, ren, renL, id, Nat.reduceEqDiff, reduceIte, Int.natCast_add, Int.natCast_one, Int.cast_ofNat_Int, Int.natCast_zero]; done) | (simp only [St.set, St.ev, upd, ren, renL, id, Nat.reduceEqDiff, reduceIte]) | skip)))); (case h3 => (focus (first | (simp only [id, List.map_cons, List.map_nil]; decide) | decide))); (case h4 => (intro o l h; first | (cases h; done) | (have hlt0 := m0_lt (by assumption) h; first | omega | (simp only; omega) | exact ⟨by (first | rfl | (simp only [id]; done) | (rw [if_neg (by omega)])), by first | omega | (simp only; omega)⟩)))))); (focus (first | omega | (simp only; omega) | (simp only [List.length_take]; omega) | (simp; omega))); ((repeat' (with_reducible apply And.intro)) <;> (first | omega | (simp only; omega) | assumption | rfl | ((try simp only); exact all_step he (by assumption)) | skip)))
    · have hd2 : ∀ a b, a < b → b < i + 1 → us.getD a 0 ≠ us.getD b 0 := fun a b h1 h2 => by
        rcases Nat.lt_or_ge b i with h3 | h3
        · exact hd a b h1 h3
        · rw [show b = i by omega] at h1 ⊢; exact he a (by omega)
      have hr2 : ∀ j, j < i + 1 → 0 ≤ us.getD j 0 ∧ us.getD j 0 < us.length := all_step hr (by omega)
      ((refine Exists.intro (i + 1) ?_); (refine nxt ?_ ?_ ?_); (focus ((apply Wk.same; (case' h2 => (focus ((repeat' (with_reducible first | exact HeapX.bot | (apply HeapX.skip; (case hx => (simp; done))) | apply HeapX.none | apply HeapX.upd)); all_goals (first | rfl | exact Nat.le_of_ble_eq_true rfl | (simp only [St.set, St.ev, upd, ren, renL, id, Nat.reduceEqDiff, reduceIte, ContLe]; done) | (first | (simp only [St.set, St.ev, upd, ren, renL, id, Nat.reduceEqDiff, reduceIte]; exact contLe_nil) | ((repeat' (first | exact contLe_nil | refine contLe_cons (.inr ⟨?_, rfl⟩) ?_)); all_goals (first | rfl | (simp only [St.set, St.ev, upd, ren, renL, id, Nat.reduceEqDiff, reduceIte]; done) | ((try simp only [St.set, St.ev, upd, ren, renL, id, Nat.reduceEqDiff, reduceIte]); first | (with_reducible exact av_int (by omega)) | (with_reducible exact av_sl (by first | omega | (simp; done) | (simp; omega)) (by first | omega | (simp; done) | (simp; omega)))) | (simp only [St.set, St.ev, upd, ren, renL, id, Nat.reduceEqDiff, reduceIte, Int.natCast_add, Int.natCast_one, Int.cast_ofNat_Int, Int.natCast_zero]; done) | (simp only [St.set, St.ev, upd, ren, renL, id, Nat.reduceEqDiff, reduceIte]) | skip); done)) | (simp only [St.set, St.ev, upd, ren, renL, id, Nat.reduceEqDiff, reduceIte, ContLe]) | skip)))); (case' h1 => (focus ((repeat' (with_reducible first | exact TmpLe.bot | refine TmpLe.upd ?_ rfl ?_)); all_goals (first | rfl | (simp only [St.set, St.ev, upd, ren, renL, id, Nat.reduceEqDiff, reduceIte]; done) | ((try simp only [St.set, St.ev, upd, ren, renL, id, Nat.reduceEqDiff, reduceIte]); first | (with_reducible exact av_int (by omega)) | (with_reducible exact av_sl (by first | omega | (simp; done) | (simp; omega)) (by first | omega | (simp; done) | (simp; omega)))) | (simp only [St.set, St.ev, upd, ren, renL, id, Nat.reduceEqDiff, reduceIte, Int.natCast_add, Int.natCast_one, Int.cast_ofNat_Int, Int.natCast_zero]; done) | (simp only [St.set, St.ev, upd, ren, renL, id, Nat.reduceEqDiff, reduceIte]) | skip)))); (case h3 => (focus (first | (simp only [id, List.map_cons, List.map_nil]; decide) | decide))); (case h4 => (intro o l h; first | (cases h; done) | (have hlt0 := m0_lt (by assumption) h; first | omega | (simp only; omega) | exact ⟨by (first | rfl | (simp only [id]; done) | (rw [if_neg (by omega)])), by first | omega | (simp only; omega)⟩)))))); (focus (first | omega | (simp only; omega) | (simp only [List.length_take]; omega) | (simp; omega))); ((repeat' (with_reducible apply And.intro)) <;> (first | omega | (simp only; omega) | assumption | rfl | ((try simp only); first | exact hd2 | exact hr2) | skip)))
  · simp only [St.set, St.ev, doneQ, doneH, ressK, resK, wrapR, AV.ids, AV.idsL, retK, retsK, upd, Nat.reduceEqDiff, reduceIte, if_false, if_true, List.nodup_nil, List.nodup_cons, List.not_mem_nil, not_false_eq_true, true_and, and_true, exists_eq_left', Option.some.injEq, rLoad, cellOf, tab, Ty.isAgg, Ty.one, Bool.false_eq_true]
    by_cases h5 : us.length ≤ 5
    · rw [ordB_iff.2 ⟨h5, fun j hj => hr j (by omega), fun a b h1 h2 => hd a b h1 (by omega)⟩] at hQ
      rw [decide_eq_true (by omega)]; exact hQ
    · rw [ordB_no (fun h => h5 h.1)] at hQ
      rw [decide_eq_false (by omega)]; exact hQ


theorem specValidOrder_sat : Sat Try.prog 15 (fun ds Q => ∃ (us : List Int), ds = [.row (.ints .i64 (us))] ∧ (us.length ≤ 1099511627776) ∧ Q (.val (.bool ((ordB us))))) := by
  refine sat_intro tabOk Try.func15 rfl 5 rfl [.tmp 2] rfl ?_
  rintro ds Q W ⟨us, rfl, hl, hQ⟩
  refine ⟨Nat.le_of_ble_eq_true rfl, ?_⟩
  simp only [initS, initT, mat.matL, mat, Cont.len]
  repeat' (first | refine awp_seq_k fun K hK => ?_ | ((with_reducible refine hK _ ?_); clear hK K) | (clear hK K; (with_reducible refine hK _ ?_); clear hK K) | (clear hK K; clear hK K; (with_reducible refine hK _ ?_); clear hK K) | (clear hK K; clear hK K; clear hK K; (with_reducible refine hK _ ?_); clear hK K) | (clear hK K; clear hK K; clear hK K; clear hK K; (with_reducible refine hK _ ?_); clear hK K) | (clear hK K; clear hK K; clear hK K; clear hK K; clear hK K; (with_reducible refine hK _ ?_); clear hK K) | ((with_reducible refine aord_plain fun K hK => ?_); simp only [go_sem, Nat.reduceAdd, Nat.reduceMul, Nat.reduceEqDiff, Nat.reduceLT, reduceIte, reduceCtorEq]) | refine awp_block ?_ | ((first | with_reducible refine aord_nil ?_ | refine awp_skip ?_ | refine awp_exit ?_ | refine awp_ret ?_); try simp only [thenA_normal, thenA_exit, thenA_goto, thenA_ret, blockA_normal, blockA_same, blockA_exit, blockA_goto, blockA_ret, Nat.reduceEqDiff, if_false, if_true, reduceIte]) | (refine awp_region tabOk rfl ?_; simp only [prep, pickO, List.map_cons, List.map_nil, List.getElem?_toArray, List.getElem?_cons_succ, List.getElem?_cons_zero, Option.bind_some, Option.map_some]) | ((with_reducible refine And.intro ?_ ?_); (focus omega)) | ((with_reducible refine And.intro ?_ ?_); (focus (exact rfl))) | ((with_reducible refine And.intro (?_ : enters Try.prog 54) ?_); (focus exact Try.call54); (refine callX_sat specvalidOrder_sat ?_); simp only [go_sem, and_assoc, List.nil_append, List.append_nil, List.cons_append, Nat.reduceEqDiff, reduceIte, reduceCtorEq]) | (with_reducible refine And.intro (fun hb => ?_) (fun hb => ?_)) | (exfalso; omega) | fail)
  simp only [St.set, St.ev, doneQ, doneH, ressK, resK, wrapR, AV.ids, AV.idsL, retK, retsK, upd, Nat.reduceEqDiff, reduceIte, if_false, if_true, List.nodup_nil, List.nodup_cons, List.not_mem_nil, not_false_eq_true, true_and, and_true, exists_eq_left', Option.some.injEq, rLoad, cellOf, tab, Ty.isAgg, Ty.one, Bool.false_eq_true]
  exact hQ


theorem areOrders_sat : Sat Try.prog 57 (fun ds Q => ∃ (us vs : List Int), ds = [.row (.ints .i64 (us)), .row (.ints .i64 (vs))] ∧ (us.length ≤ 1099511627776) ∧ (vs.length ≤ 1099511627776) ∧ Q (.val (.bool ((ord2B us vs))))) := by
  refine sat_intro tabOk Try.func57 rfl 18 rfl [.tmp 4] rfl ?_
  rintro ds Q W ⟨us, vs, rfl, hl, hq, hQ⟩
  refine ⟨Nat.le_of_ble_eq_true rfl, ?_⟩
  simp only [initS, initT, mat.matL, mat, Cont.len]
  have hE := ord2B_eq us vs
  repeat' (first | refine awp_seq_k fun K hK => ?_ | ((with_reducible refine hK _ ?_); clear hK K) | (clear hK K; (with_reducible refine hK _ ?_); clear hK K) | (clear hK K; clear hK K; (with_reducible refine hK _ ?_); clear hK K) | (clear hK K; clear hK K; clear hK K; (with_reducible refine hK _ ?_); clear hK K) | (clear hK K; clear hK K; clear hK K; clear hK K; (with_reducible refine hK _ ?_); clear hK K) | (clear hK K; clear hK K; clear hK K; clear hK K; clear hK K; (with_reducible refine hK _ ?_); clear hK K) | ((with_reducible refine aord_plain fun K hK => ?_); simp only [go_sem, Nat.reduceAdd, Nat.reduceMul, Nat.reduceEqDiff, Nat.reduceLT, reduceIte, reduceCtorEq]) | ((with_reducible apply aord_guard); (focus (simp only [St.ev, St.set, upd, Nat.reduceEqDiff, reduceIte, if_false, if_true]; exact rfl)); all_goals (intro hb; (try simp only [Bool.not_true, Bool.not_false] at hb); first | (cases hb; done) | ((try rw [hb]); (try simp only [Bool.not_eq_true', Bool.not_eq_false', Bool.and_eq_true, decide_eq_true_eq, decide_eq_false_iff_not, beq_iff_eq, bne_iff_ne, beq_eq_false_iff_ne, bne_eq_false_iff_eq, Int.not_lt, Int.not_le] at hb); (try (revert hb; with_reducible refine true_imp_iff.2 ?_)); first | (intro K hK; simp only [go_sem, Nat.reduceAdd, Nat.reduceMul, Nat.reduceEqDiff, Nat.reduceLT, reduceIte, reduceCtorEq]) | (simp only [St.ev, St.set, upd, Nat.reduceEqDiff, reduceIte, if_false, if_true]) | skip))) | ((with_reducible apply aord_skip); (focus (simp only [St.ev, St.set, upd, Nat.reduceEqDiff, reduceIte, if_false, if_true]; done)); (simp only [St.ev, St.set, upd, Nat.reduceEqDiff, reduceIte, if_false, if_true])) | refine awp_block ?_ | ((first | with_reducible refine aord_nil ?_ | refine awp_skip ?_ | refine awp_exit ?_ | refine awp_ret ?_); try simp only [thenA_normal, thenA_exit, thenA_goto, thenA_ret, blockA_normal, blockA_same, blockA_exit, blockA_goto, blockA_ret, Nat.reduceEqDiff, if_false, if_true, reduceIte]) | (refine awp_region tabOk rfl ?_; simp only [prep, pickO, List.map_cons, List.map_nil, List.getElem?_toArray, List.getElem?_cons_succ, List.getElem?_cons_zero, Option.bind_some, Option.map_some]) | ((with_reducible refine And.intro ?_ ?_); (focus omega)) | ((with_reducible refine And.intro ?_ ?_); (focus (exact rfl))) | ((with_reducible refine And.intro (?_ : enters Try.prog 14) ?_); (focus exact Try.call14); (refine callX_sat implValidOrder_sat ?_); simp only [go_sem, and_assoc, List.nil_append, List.append_nil, List.cons_append, Nat.reduceEqDiff, reduceIte, reduceCtorEq]) | (with_reducible refine And.intro (fun hb => ?_) (fun hb => ?_)) | (exfalso; omega) | fail)
  all_goals simp only [St.set, St.ev, doneQ, doneH, ressK, resK, wrapR, AV.ids, AV.idsL, retK, retsK, upd, Nat.reduceEqDiff, reduceIte, if_false, if_true, List.nodup_nil, List.nodup_cons, List.not_mem_nil, not_false_eq_true, true_and, and_true, exists_eq_left', Option.some.injEq, rLoad, cellOf, tab, Ty.isAgg, Ty.one, Bool.false_eq_true]
  all_goals first
    | (have e : ((us.length : Int) == (vs.length : Int)) = decide ((us.length : Int) = vs.length) := rfl
       simp_all; done)
    | skip


theorem implRelativeOf_sat : Sat Try.prog 19 (fun ds Q => ∃ (us vs : List Int), ds = [.row (.ints .i64 (us)), .row (.ints .i64 (vs))] ∧ (us.length ≤ 1099511627776) ∧ (vs.length ≤ 1099511627776) ∧ Q (.tup [.row (.ints .i64 ((if ord2B us vs then relL us vs else []))), .val (.bool ((ord2B us vs)))])) := by
  refine sat_intro tabOk Try.func19 rfl 27 rfl [.tmp 4, .tmp 5] rfl ?_
  rintro ds Q W ⟨us, vs, rfl, hl, hq, hQ⟩
  refine ⟨Nat.le_of_ble_eq_true rfl, ?_⟩
  simp only [initS, initT, mat.matL, mat, Cont.len]
  repeat' (first | refine awp_seq_k fun K hK => ?_ | ((with_reducible refine hK _ ?_); clear hK K) | (clear hK K; (with_reducible refine hK _ ?_); clear hK K) | (clear hK K; clear hK K; (with_reducible refine hK _ ?_); clear hK K) | (clear hK K; clear hK K; clear hK K; (with_reducible refine hK _ ?_); clear hK K) | (clear hK K; clear hK K; clear hK K; clear hK K; (with_reducible refine hK _ ?_); clear hK K) | (clear hK K; clear hK K; clear hK K; clear hK K; clear hK K; (with_reducible refine hK _ ?_); clear hK K) | ((with_reducible refine aord_plain fun K hK => ?_); simp only [go_sem, Nat.reduceAdd, Nat.reduceMul, Nat.reduceEqDiff, Nat.reduceLT, reduceIte, reduceCtorEq]) | refine awp_block ?_ | ((first | with_reducible refine aord_nil ?_ | refine awp_skip ?_ | refine awp_exit ?_ | refine awp_ret ?_); try simp only [thenA_normal, thenA_exit, thenA_goto, thenA_ret, blockA_normal, blockA_same, blockA_exit, blockA_goto, blockA_ret, Nat.reduceEqDiff, if_false, if_true, reduceIte]) | (refine awp_region tabOk rfl ?_; simp only [prep, pickO, List.map_cons, List.map_nil, List.getElem?_toArray, List.getElem?_cons_succ, List.getElem?_cons_zero, Option.bind_some, Option.map_some]) | ((with_reducible apply awp_cond); (focus (simp only [St.ev, St.set, upd, Nat.reduceEqDiff, reduceIte, if_false, if_true]; exact rfl)); all_goals (intro hb; first | (cases hb; done) | ((try rw [hb]); (try simp only [decide_eq_true_eq, decide_eq_false_iff_not, beq_iff_eq, bne_iff_ne, beq_eq_false_iff_ne, bne_eq_false_iff_eq, Int.not_lt, Int.not_le, Bool.not_eq_true', Bool.not_eq_false'] at hb)))) | ((with_reducible refine And.intro ?_ ?_); (focus omega)) | ((with_reducible refine And.intro ?_ ?_); (focus (exact rfl))) | ((with_reducible refine And.intro (?_ : enters Try.prog 57) ?_); (focus exact Try.call57); (refine callX_sat areOrders_sat ?_); simp only [go_sem, and_assoc, List.nil_append, List.append_nil, List.cons_append, Nat.reduceEqDiff, reduceIte, reduceCtorEq]) | ((with_reducible refine And.intro (?_ : enters Try.prog 58) ?_); (focus exact Try.call58); (refine callX_sat slIndex_sat ?_); simp only [go_sem, and_assoc, List.nil_append, List.append_nil, List.cons_append, Nat.reduceEqDiff, reduceIte, reduceCtorEq]) | (refine aAppend_ints rfl rfl rfl rfl (Nat.le_of_ble_eq_true rfl) (by simp only [St.ev, St.set, upd, Nat.reduceEqDiff, reduceIte, if_false, if_true]; exact rfl) (by simp only [St.ev, St.set, upd, Nat.reduceEqDiff, reduceIte, if_false, if_true]; exact rfl) rfl (by decide) ?_ ?_ ?_ ?_; (focus (first | rfl | omega | (simp; done) | (simp; omega) | (simp [szOf, tab]; done) | (simp [szOf, tab]; omega))); (focus (first | rfl | omega | (simp; done) | (simp; omega) | (simp [szOf, tab]; done) | (simp [szOf, tab]; omega))); (focus (first | rfl | omega | (simp; done) | (simp; omega) | (simp [szOf, tab]; done) | (simp [szOf, tab]; omega))); (try simp only [go_sem, Nat.reduceAdd, Nat.reduceMul, Nat.reduceEqDiff, Nat.reduceLT, reduceIte, reduceCtorEq])) | (refine aAppend_none rfl rfl rfl rfl (Nat.le_of_ble_eq_true rfl) (by simp only [St.ev, St.set, upd, Nat.reduceEqDiff, reduceIte, if_false, if_true]; exact rfl) ?_ ?_ ?_; (focus (first | rfl | omega | (simp; done) | (simp; omega) | (simp [szOf, tab]; done) | (simp [szOf, tab]; omega))); (focus (first | rfl | omega | (simp; done) | (simp; omega) | (simp [szOf, tab]; done) | (simp [szOf, tab]; omega))); (try simp only [go_sem, Nat.reduceAdd, Nat.reduceMul, Nat.reduceEqDiff, Nat.reduceLT, reduceIte, reduceCtorEq])) | (with_reducible refine And.intro (fun hb => ?_) (fun hb => ?_)) | (exfalso; omega) | fail)
  · simp only [St.set, St.ev, doneQ, doneH, ressK, resK, wrapR, AV.ids, AV.idsL, retK, retsK, upd, Nat.reduceEqDiff, reduceIte, if_false, if_true, List.nodup_nil, List.nodup_cons, List.not_mem_nil, not_false_eq_true, true_and, and_true, exists_eq_left', Option.some.injEq, rLoad, cellOf, tab, Ty.isAgg, Ty.one, Bool.false_eq_true]
    simp only [hb] at hQ
    exact ⟨by simp, .ints .i64 [], rfl, rfl, rfl, hQ⟩
  · obtain ⟨o1, o2, o3⟩ := ord2B_iff.1 hb
    have h5 := o1.1
    simp only [hb, if_true] at hQ
    refine awp_nil 6 (.ints .i64 []) rfl rfl (by simp only [St.ev, St.set, upd, Nat.reduceEqDiff, reduceIte, if_false, if_true]) ?_; simp only [St.ev, St.set, upd, Nat.reduceEqDiff, reduceIte, if_false, if_true]
    refine awp_loopE (α := Nat) (fun s p => ⟨(upd (upd (upd (upd (upd bot 1 (s.tmps 1)) 6 (.sl 2 0 p 1 none)) 13 (s.tmps 13)) 14 (s.tmps 14)) 15 (.val (.int .i64 (p)))), (upd s.heap 2 (some ⟨true, .ints .i64 ((relL us vs).take p)⟩)), s.next⟩) _ (fun p => by simp only [St.ev, St.set, upd, Nat.reduceEqDiff, reduceIte, if_false, if_true]; exact rfl) (fun p => (p ≤ us.length)) (fun p => us.length - p) (0) ?_ ?_ ?_
    · (try simp only); (refine ?_ <;> (first | omega | (simp only; omega) | rfl | (simp; done) | skip))
    · (apply Wk.same; (case' h2 => (focus ((repeat' (with_reducible first | exact HeapX.bot | (apply HeapX.skip; (case hx => (simp; done))) | apply HeapX.none | apply HeapX.upd)); all_goals (first | rfl | exact Nat.le_of_ble_eq_true rfl | (simp only [St.set, St.ev, upd, ren, renL, id, Nat.reduceEqDiff, reduceIte, ContLe]; done) | (first | (simp only [St.set, St.ev, upd, ren, renL, id, Nat.reduceEqDiff, reduceIte]; exact contLe_nil) | ((repeat' (first | exact contLe_nil | refine contLe_cons (.inr ⟨?_, rfl⟩) ?_)); all_goals (first | rfl | (simp only [St.set, St.ev, upd, ren, renL, id, Nat.reduceEqDiff, reduceIte]; done) | ((try simp only [St.set, St.ev, upd, ren, renL, id, Nat.reduceEqDiff, reduceIte]); first | (with_reducible exact av_int (by omega)) | (with_reducible exact av_sl (by first | omega | (simp; done) | (simp; omega)) (by first | omega | (simp; done) | (simp; omega)))) | (simp only [St.set, St.ev, upd, ren, renL, id, Nat.reduceEqDiff, reduceIte, Int.natCast_add, Int.natCast_one, Int.cast_ofNat_Int, Int.natCast_zero]; done) | (simp only [St.set, St.ev, upd, ren, renL, id, Nat.reduceEqDiff, reduceIte]) | skip); done)) | (simp only [St.set, St.ev, upd, ren, renL, id, Nat.reduceEqDiff, reduceIte, ContLe]) | skip)))); (case' h1 => (focus ((repeat' (with_reducible first | exact TmpLe.bot | refine TmpLe.upd ?_ rfl ?_)); all_goals (first | rfl | (simp only [St.set, St.ev, upd, ren, renL, id, Nat.reduceEqDiff, reduceIte]; done) | ((try simp only [St.set, St.ev, upd, ren, renL, id, Nat.reduceEqDiff, reduceIte]); first | (with_reducible exact av_int (by omega)) | (with_reducible exact av_sl (by first | omega | (simp; done) | (simp; omega)) (by first | omega | (simp; done) | (simp; omega)))) | (simp only [St.set, St.ev, upd, ren, renL, id, Nat.reduceEqDiff, reduceIte, Int.natCast_add, Int.natCast_one, Int.cast_ofNat_Int, Int.natCast_zero]; done) | (simp only [St.set, St.ev, upd, ren, renL, id, Nat.reduceEqDiff, reduceIte]) | skip)))); (case h3 => (focus (first | (simp only [id, List.map_cons, List.map_nil]; decide) | decide))); (case h4 => (intro o l h; first | (cases h; done) | (have hlt0 := m0_lt (by assumption) h; first | omega | (simp only; omega) | exact ⟨by (first | rfl | (simp only [id]; done) | (rw [if_neg (by omega)])), by first | omega | (simp only; omega)⟩))))
    rintro i hi
    try simp only at hi
    have hrl := relL_len us vs
    have htl : ((relL us vs).take i).length = i := by rw [List.length_take]; omega
    have hup := fun h : i < us.length => relL_up (q := vs) h
    repeat' (first | refine awp_seq_k fun K hK => ?_ | ((with_reducible refine hK _ ?_); clear hK K) | (clear hK K; (with_reducible refine hK _ ?_); clear hK K) | (clear hK K; clear hK K; (with_reducible refine hK _ ?_); clear hK K) | (clear hK K; clear hK K; clear hK K; (with_reducible refine hK _ ?_); clear hK K) | (clear hK K; clear hK K; clear hK K; clear hK K; (with_reducible refine hK _ ?_); clear hK K) | (clear hK K; clear hK K; clear hK K; clear hK K; clear hK K; (with_reducible refine hK _ ?_); clear hK K) | ((with_reducible refine aord_plain fun K hK => ?_); simp only [go_sem, Nat.reduceAdd, Nat.reduceMul, Nat.reduceEqDiff, Nat.reduceLT, reduceIte, reduceCtorEq]) | refine awp_block ?_ | ((first | with_reducible refine aord_nil ?_ | refine awp_skip ?_ | refine awp_exit ?_ | refine awp_ret ?_); try simp only [thenA_normal, thenA_exit, thenA_goto, thenA_ret, blockA_normal, blockA_same, blockA_exit, blockA_goto, blockA_ret, Nat.reduceEqDiff, if_false, if_true, reduceIte]) | (refine awp_region tabOk rfl ?_; simp only [prep, pickO, List.map_cons, List.map_nil, List.getElem?_toArray, List.getElem?_cons_succ, List.getElem?_cons_zero, Option.bind_some, Option.map_some]) | ((with_reducible apply awp_cond); (focus (simp only [St.ev, St.set, upd, Nat.reduceEqDiff, reduceIte, if_false, if_true]; exact rfl)); all_goals (intro hb; first | (cases hb; done) | ((try rw [hb]); (try simp only [decide_eq_true_eq, decide_eq_false_iff_not, beq_iff_eq, bne_iff_ne, beq_eq_false_iff_ne, bne_eq_false_iff_eq, Int.not_lt, Int.not_le, Bool.not_eq_true', Bool.not_eq_false'] at hb)))) | ((with_reducible refine And.intro ?_ ?_); (focus omega)) | ((with_reducible refine And.intro ?_ ?_); (focus (exact rfl))) | ((with_reducible refine And.intro (?_ : enters Try.prog 57) ?_); (focus exact Try.call57); (refine callX_sat areOrders_sat ?_); simp only [go_sem, and_assoc, List.nil_append, List.append_nil, List.cons_append, Nat.reduceEqDiff, reduceIte, reduceCtorEq]) | ((with_reducible refine And.intro (?_ : enters Try.prog 58) ?_); (focus exact Try.call58); (refine callX_sat slIndex_sat ?_); simp only [go_sem, and_assoc, List.nil_append, List.append_nil, List.cons_append, Nat.reduceEqDiff, reduceIte, reduceCtorEq]) | (refine aAppend_ints rfl rfl rfl rfl (Nat.le_of_ble_eq_true rfl) (by simp only [St.ev, St.set, upd, Nat.reduceEqDiff, reduceIte, if_false, if_true]; exact rfl) (by simp only [St.ev, St.set, upd, Nat.reduceEqDiff, reduceIte, if_false, if_true]; exact rfl) rfl (by decide) ?_ ?_ ?_ ?_; (focus (first | rfl | omega | (simp; done) | (simp; omega) | (simp [szOf, tab]; done) | (simp [szOf, tab]; omega))); (focus (first | rfl | omega | (simp; done) | (simp; omega) | (simp [szOf, tab]; done) | (simp [szOf, tab]; omega))); (focus (first | rfl | omega | (simp; done) | (simp; omega) | (simp [szOf, tab]; done) | (simp [szOf, tab]; omega))); (try simp only [go_sem, Nat.reduceAdd, Nat.reduceMul, Nat.reduceEqDiff, Nat.reduceLT, reduceIte, reduceCtorEq])) | (refine aAppend_none rfl rfl rfl rfl (Nat.le_of_ble_eq_true rfl) (by simp only [St.ev, St.set, upd, Nat.reduceEqDiff, reduceIte, if_false, if_true]; exact rfl) ?_ ?_ ?_; (focus (first | rfl | omega | (simp; done) | (simp; omega) | (simp [szOf, tab]; done) | (simp [szOf, tab]; omega))); (focus (first | rfl | omega | (simp; done) | (simp; omega) | (simp [szOf, tab]; done) | (simp [szOf, tab]; omega))); (try simp only [go_sem, Nat.reduceAdd, Nat.reduceMul, Nat.reduceEqDiff, Nat.reduceLT, reduceIte, reduceCtorEq])) | (with_reducible refine And.intro (fun hb => ?_) (fun hb => ?_)) | (exfalso; omega) | fail)
    · simp only [hup (by omega)]
      ((refine Exists.intro (i + 1) ?_); (refine nxt ?_ ?_ ?_); (focus ((apply Wk.named (fun o => if o = 2 then 4 else o); (case' h2 => (focus ((repeat' (with_reducible first | exact HeapX.bot | (apply HeapX.skip; (case hx => (simp; done))) | apply HeapX.none | apply HeapX.upd)); all_goals (first | rfl | exact Nat.le_of_ble_eq_true rfl | (simp only [St.set, St.ev, upd, ren, renL, id, Nat.reduceEqDiff, reduceIte, ContLe]; done) | (first | (simp only [St.set, St.ev, upd, ren, renL, id, Nat.reduceEqDiff, reduceIte]; exact contLe_nil) | ((repeat' (first | exact contLe_nil | refine contLe_cons (.inr ⟨?_, rfl⟩) ?_)); all_goals (first | rfl | (simp only [St.set, St.ev, upd, ren, renL, id, Nat.reduceEqDiff, reduceIte]; done) | ((try simp only [St.set, St.ev, upd, ren, renL, id, Nat.reduceEqDiff, reduceIte]); first | (with_reducible exact av_int (by omega)) | (with_reducible exact av_sl (by first | omega | (simp; done) | (simp; omega)) (by first | omega | (simp; done) | (simp; omega)))) | (simp only [St.set, St.ev, upd, ren, renL, id, Nat.reduceEqDiff, reduceIte, Int.natCast_add, Int.natCast_one, Int.cast_ofNat_Int, Int.natCast_zero]; done) | (simp only [St.set, St.ev, upd, ren, renL, id, Nat.reduceEqDiff, reduceIte]) | skip); done)) | (simp only [St.set, St.ev, upd, ren, renL, id, Nat.reduceEqDiff, reduceIte, ContLe]) | skip)))); (case' h1 => (focus ((repeat' (with_reducible first | exact TmpLe.bot | refine TmpLe.upd ?_ rfl ?_)); all_goals (first | rfl | (simp only [St.set, St.ev, upd, ren, renL, id, Nat.reduceEqDiff, reduceIte]; done) | ((try simp only [St.set, St.ev, upd, ren, renL, id, Nat.reduceEqDiff, reduceIte]); first | (with_reducible exact av_int (by omega)) | (with_reducible exact av_sl (by first | omega | (simp; done) | (simp; omega)) (by first | omega | (simp; done) | (simp; omega)))) | (simp only [St.set, St.ev, upd, ren, renL, id, Nat.reduceEqDiff, reduceIte, Int.natCast_add, Int.natCast_one, Int.cast_ofNat_Int, Int.natCast_zero]; done) | (simp only [St.set, St.ev, upd, ren, renL, id, Nat.reduceEqDiff, reduceIte]) | skip)))); (case h3 => (focus (first | (simp only [id, List.map_cons, List.map_nil]; decide) | decide))); (case h4 => (intro o l h; first | (cases h; done) | (have hlt0 := m0_lt (by assumption) h; first | omega | (simp only; omega) | exact ⟨by (first | rfl | (simp only [id]; done) | (rw [if_neg (by omega)])), by first | omega | (simp only; omega)⟩)))))); (focus (first | omega | (simp only; omega) | (simp only [List.length_take]; omega) | (simp; omega))); ((repeat' (with_reducible apply And.intro)) <;> (first | omega | (simp only; omega) | assumption | rfl | (simp only))))
    · simp only [St.set, St.ev, doneQ, doneH, ressK, resK, wrapR, AV.ids, AV.idsL, retK, retsK, upd, Nat.reduceEqDiff, reduceIte, if_false, if_true, List.nodup_nil, List.nodup_cons, List.not_mem_nil, not_false_eq_true, true_and, and_true, exists_eq_left', Option.some.injEq, rLoad, cellOf, tab, Ty.isAgg, Ty.one, Bool.false_eq_true]
      have e : (relL us vs).take i = relL us vs := by rw [show i = (relL us vs).length by omega, List.take_length]
      simp only [Cont.closed, Cont.len, true_and, e]
      first | exact hQ | exact ⟨by simp, hQ⟩ | exact ⟨by simp, by omega, hQ⟩ | exact ⟨by simp, by simp, hQ⟩ | exact ⟨by simp, rfl, by omega, hQ⟩


end Go.Proofs.Ytcpjbniehenmoaa
