/- Contracts of functions of the program. -/
import Derived.Test.YtcegfpkfhcjfcaaPFNMOc
import Derived.ScopeJumps
namespace Go.Proofs.Ytcegfpkfhcjfcaa
open Go Go.Ab
set_option linter.all false
set_option maxHeartbeats 4000000

theorem implExchangesOf_sat : Sat Try.prog 25 (fun ds Q => ∃ (xs : List Int), ds = [.row (.ints .i64 (xs))] ∧ (xs.length ≤ 1099511627776) ∧ Q (.val (.int .i64 ((if validB xs then (xs.length : Int) - cirN xs xs.length else -1))))) := by
  refine sat_intro tabOk Try.func25 rfl 40 rfl [.tmp 2] rfl ?_
  rintro ds Q W ⟨xs, rfl, hlen, hQ⟩
  refine ⟨Nat.le_of_ble_eq_true rfl, ?_⟩
  simp only [initS, initT, mat.matL, mat, Cont.len]
  have hci := cirN_in xs xs.length
  have hpl := placesL_len xs
  repeat' (first | refine awp_seq_k fun K hK => ?_ | ((with_reducible refine hK _ ?_); clear hK K) | ((with_reducible refine aord_plain fun K hK => ?_); simp only [go_sem, Nat.reduceAdd, Nat.reduceMul, Nat.reduceEqDiff, Nat.reduceLT, reduceIte, reduceCtorEq]) | refine awp_block ?_ | ((first | with_reducible refine aord_nil ?_ | refine awp_skip ?_ | refine awp_exit ?_ | refine awp_ret ?_); try simp only [thenA_normal, thenA_exit, thenA_goto, thenA_ret, blockA_normal, blockA_same, blockA_exit, blockA_goto, blockA_ret, Nat.reduceEqDiff, if_false, if_true, reduceIte]) | (refine awp_region tabOk rfl ?_; simp only [prep, pickO, List.map_cons, List.map_nil, List.getElem?_toArray, List.getElem?_cons_succ, List.getElem?_cons_zero, Option.bind_some, Option.map_some]) | ((with_reducible apply awp_cond); (focus (simp only [St.ev, St.set, upd, Nat.reduceEqDiff, reduceIte, if_false, if_true]; exact rfl)); all_goals (intro hb; first | (cases hb; done) | ((try rw [hb]); (try simp only [decide_eq_true_eq, decide_eq_false_iff_not, beq_iff_eq, bne_iff_ne, beq_eq_false_iff_ne, bne_eq_false_iff_eq, Int.not_lt, Int.not_le, Bool.not_eq_true', Bool.not_eq_false'] at hb)))) | ((with_reducible refine And.intro ?_ ?_); (focus omega)) | ((with_reducible refine And.intro ?_ ?_); (focus (exact rfl))) | ((with_reducible refine And.intro (?_ : enters Try.prog 15) ?_); (focus exact Try.call15); (refine callX_sat implValidKeys_sat ?_); simp only [go_sem, and_assoc, List.nil_append, List.append_nil, List.cons_append, Nat.reduceEqDiff, reduceIte, reduceCtorEq]) | ((with_reducible refine And.intro (?_ : enters Try.prog 45) ?_); (focus exact Try.call45); (refine callX_sat implPlacesOf_sat ?_); simp only [go_sem, and_assoc, List.nil_append, List.append_nil, List.cons_append, Nat.reduceEqDiff, reduceIte, reduceCtorEq]) | fail)
  · simp only [St.set, St.ev, doneQ, doneH, ressK, resK, wrapR, AV.ids, AV.idsL, retK, retsK, upd, Nat.reduceEqDiff, reduceIte, if_false, if_true, List.nodup_nil, List.nodup_cons, List.not_mem_nil, not_false_eq_true, true_and, and_true, exists_eq_left', Option.some.injEq, rLoad, cellOf, tab, Ty.isAgg, Ty.one, Bool.false_eq_true]
    simp only [hb] at hQ
    exact hQ
  · have h8 := valid_len hb
    rw [if_pos hb] at hQ
    simp only [if_pos hb]
    repeat' (first | refine awp_seq_k fun K hK => ?_ | ((with_reducible refine hK _ ?_); clear hK K) | (clear hK K; (with_reducible refine hK _ ?_); clear hK K) | (clear hK K; clear hK K; (with_reducible refine hK _ ?_); clear hK K) | (clear hK K; clear hK K; clear hK K; (with_reducible refine hK _ ?_); clear hK K) | (clear hK K; clear hK K; clear hK K; clear hK K; (with_reducible refine hK _ ?_); clear hK K) | (clear hK K; clear hK K; clear hK K; clear hK K; clear hK K; (with_reducible refine hK _ ?_); clear hK K) | ((with_reducible refine aord_plain fun K hK => ?_); simp only [go_sem, Nat.reduceAdd, Nat.reduceMul, Nat.reduceEqDiff, Nat.reduceLT, reduceIte, reduceCtorEq]) | refine awp_block ?_ | ((first | with_reducible refine aord_nil ?_ | refine awp_skip ?_ | refine awp_exit ?_ | refine awp_ret ?_); try simp only [thenA_normal, thenA_exit, thenA_goto, thenA_ret, blockA_normal, blockA_same, blockA_exit, blockA_goto, blockA_ret, Nat.reduceEqDiff, if_false, if_true, reduceIte]) | (refine awp_region tabOk rfl ?_; simp only [prep, pickO, List.map_cons, List.map_nil, List.getElem?_toArray, List.getElem?_cons_succ, List.getElem?_cons_zero, Option.bind_some, Option.map_some]) | ((with_reducible apply awp_cond); (focus (simp only [St.ev, St.set, upd, Nat.reduceEqDiff, reduceIte, if_false, if_true]; exact rfl)); all_goals (intro hb; first | (cases hb; done) | ((try rw [hb]); (try simp only [decide_eq_true_eq, decide_eq_false_iff_not, beq_iff_eq, bne_iff_ne, beq_eq_false_iff_ne, bne_eq_false_iff_eq, Int.not_lt, Int.not_le, Bool.not_eq_true', Bool.not_eq_false'] at hb)))) | ((with_reducible refine And.intro ?_ ?_); (focus omega)) | ((with_reducible refine And.intro ?_ ?_); (focus (exact rfl))) | ((with_reducible refine And.intro (?_ : enters Try.prog 15) ?_); (focus exact Try.call15); (refine callX_sat implValidKeys_sat ?_); simp only [go_sem, and_assoc, List.nil_append, List.append_nil, List.cons_append, Nat.reduceEqDiff, reduceIte, reduceCtorEq]) | ((with_reducible refine And.intro (?_ : enters Try.prog 45) ?_); (focus exact Try.call45); (refine callX_sat implPlacesOf_sat ?_); simp only [go_sem, and_assoc, List.nil_append, List.append_nil, List.cons_append, Nat.reduceEqDiff, reduceIte, reduceCtorEq]) | (refine aStoreAll_ints (by simp only [St.ev, St.set, upd, Nat.reduceEqDiff, reduceIte, if_false, if_true]; exact rfl) ?_ ?_ ?_ ?_; (focus (first | rfl | omega | (simp; done) | (simp; omega) | (simp [szOf, tab]; done) | (simp [szOf, tab]; omega))); (focus (first | rfl | omega | (simp; done) | (simp; omega) | (simp [szOf, tab]; done) | (simp [szOf, tab]; omega))); (focus (first | rfl | omega | (simp; done) | (simp; omega) | (simp [szOf, tab]; done) | (simp [szOf, tab]; omega))); (try simp only [go_sem, Nat.reduceAdd, Nat.reduceMul, Nat.reduceEqDiff, Nat.reduceLT, reduceIte, reduceCtorEq])) | (refine aStoreAll_cells (by simp only [St.ev, St.set, upd, Nat.reduceEqDiff, reduceIte, if_false, if_true]; exact rfl) ?_ ?_ ?_ ?_ ?_; (focus (first | rfl | omega | (simp; done) | (simp; omega) | (simp [szOf, tab]; done) | (simp [szOf, tab]; omega))); (focus (first | rfl | omega | (simp; done) | (simp; omega) | (simp [szOf, tab]; done) | (simp [szOf, tab]; omega))); (focus (first | rfl | omega | (simp; done) | (simp; omega) | (simp [szOf, tab]; done) | (simp [szOf, tab]; omega))); (focus (first | rfl | (simp [AV.cell, Value.oneCell']; done))); (try simp only [go_sem, Nat.reduceAdd, Nat.reduceMul, Nat.reduceEqDiff, Nat.reduceLT, reduceIte, reduceCtorEq])) | (with_reducible refine And.intro (fun hb => ?_) (fun hb => ?_)) | (exfalso; omega) | fail)
    refine awp_loopE (α := (Nat) × (Int) × (List Bool)) (fun s p => ⟨(upd (upd (upd (upd (upd (upd bot 0 (s.tmps 0)) 3 (s.tmps 3)) 4 (s.tmps 4)) 5 (.val (.int .i64 ((p.2.1))))) 14 (s.tmps 14)) 15 (.val (.int .i64 ((p.1))))), (upd s.heap 2 (some ⟨true, .bools ((p.2.2))⟩)), s.next⟩) _ (fun p => by simp only [St.ev, St.set, upd, Nat.reduceEqDiff, reduceIte, if_false, if_true]; exact rfl) (fun p => ((p.1) ≤ xs.length) ∧ ((p.2.1) = cirN xs (p.1)) ∧ ((p.2.2).length = 8) ∧ (∀ a, a < xs.length → ((p.2.2).getD a false = true ↔ seenP xs (p.1) a))) (fun p => xs.length - (p.1)) (0, 0, List.replicate 8 false) ?_ ?_ ?_
    · (try simp only); (refine ⟨?_, ?_, ?_, ?_⟩ <;> (first | omega | rfl | (simp; done) | (intro a ha; rw [getB_rep]; constructor; exact (fun h => by cases h); exact (fun ⟨b, hb, _⟩ => by omega))))
    · (apply Wk.same; (case' h2 => (focus ((repeat' (with_reducible first | exact HeapX.bot | (apply HeapX.skip; (case hx => (simp; done))) | apply HeapX.none | apply HeapX.upd)); all_goals (first | rfl | exact Nat.le_of_ble_eq_true rfl | (simp only [St.set, St.ev, upd, ren, renL, id, Nat.reduceEqDiff, reduceIte, ContLe]; done) | (exact And.intro rfl (And.intro (by first | exact Nat.le_of_ble_eq_true rfl | omega) (by first | exact Nat.le_of_ble_eq_true rfl | omega))) | (first | (simp only [St.set, St.ev, upd, ren, renL, id, Nat.reduceEqDiff, reduceIte]; exact contLe_nil) | ((repeat' (first | exact contLe_nil | refine contLe_cons (.inr ⟨?_, rfl⟩) ?_)); all_goals (first | rfl | (simp only [St.set, St.ev, upd, ren, renL, id, Nat.reduceEqDiff, reduceIte]; done) | ((try simp only [St.set, St.ev, upd, ren, renL, id, Nat.reduceEqDiff, reduceIte]); first | (with_reducible exact av_int (by omega)) | (with_reducible exact av_sl (by first | omega | (simp; done) | (simp; omega)) (by first | omega | (simp; done) | (simp; omega)))) | (simp only [St.set, St.ev, upd, ren, renL, id, Nat.reduceEqDiff, reduceIte, Int.natCast_add, Int.natCast_one, Int.cast_ofNat_Int, Int.natCast_zero]; done) | (simp only [St.set, St.ev, upd, ren, renL, id, Nat.reduceEqDiff, reduceIte]) | skip); done)) | (simp only [St.set, St.ev, upd, ren, renL, id, Nat.reduceEqDiff, reduceIte, ContLe]) | skip)))); (case' h1 => (focus ((repeat' (with_reducible first | exact TmpLe.bot | refine TmpLe.upd ?_ rfl ?_)); all_goals (first | rfl | (simp only [St.set, St.ev, upd, ren, renL, id, Nat.reduceEqDiff, reduceIte]; done) | ((try simp only [St.set, St.ev, upd, ren, renL, id, Nat.reduceEqDiff, reduceIte]); first | (with_reducible exact av_int (by omega)) | (with_reducible exact av_sl (by first | omega | (simp; done) | (simp; omega)) (by first | omega | (simp; done) | (simp; omega)))) | (simp only [St.set, St.ev, upd, ren, renL, id, Nat.reduceEqDiff, reduceIte, Int.natCast_add, Int.natCast_one, Int.cast_ofNat_Int, Int.natCast_zero]; done) | (simp only [St.set, St.ev, upd, ren, renL, id, Nat.reduceEqDiff, reduceIte]) | skip)))); (case h3 => (focus (first | (simp only [id, List.map_cons, List.map_nil]; decide) | decide | (simp; done) | (simp; omega) | fail))); (case h4 => (intro o l h; first | (cases h; done) | (have hlt0 := m0_lt (by assumption) h; (try (simp only at hlt0)); first | omega | (simp only; omega) | exact ⟨by (first | rfl | (simp only [id]; done) | ((repeat rw [if_neg (by omega)]); done)), by first | omega | (simp only; omega)⟩))))
    rintro ⟨i, c, sn⟩ ⟨hi, hc, hl, hs⟩
    try simp only at hi hc hl hs
    have hc0 := cirN_in xs i
    have hup : i < xs.length → sn.getD i false = false → cirN xs (i + 1) = c + 1 := fun h1 h2 => by rw [cirN, if_pos ((seen_lst h1).2 (fun h => by rw [(hs i h1).2 h] at h2; cases h2)), hc]
    have hno : i < xs.length → sn.getD i false = true → cirN xs (i + 1) = c := fun h1 h2 => by rw [cirN, if_neg (fun h => (seen_lst h1).1 h ((hs i h1).1 h2)), hc]; omega
    repeat' (first | refine awp_seq_k fun K hK => ?_ | ((with_reducible refine hK _ ?_); clear hK K) | (clear hK K; (with_reducible refine hK _ ?_); clear hK K) | ((with_reducible refine aord_plain fun K hK => ?_); simp only [go_sem, Nat.reduceAdd, Nat.reduceMul, Nat.reduceEqDiff, Nat.reduceLT, reduceIte, reduceCtorEq]) | refine awp_block ?_ | ((first | with_reducible refine aord_nil ?_ | refine awp_skip ?_ | refine awp_exit ?_ | refine awp_ret ?_); try simp only [thenA_normal, thenA_exit, thenA_goto, thenA_ret, blockA_normal, blockA_same, blockA_exit, blockA_goto, blockA_ret, Nat.reduceEqDiff, if_false, if_true, reduceIte]) | (refine awp_region tabOk rfl ?_; simp only [prep, pickO, List.map_cons, List.map_nil, List.getElem?_toArray, List.getElem?_cons_succ, List.getElem?_cons_zero, Option.bind_some, Option.map_some]) | ((with_reducible apply awp_cond); (focus (simp only [St.ev, St.set, upd, Nat.reduceEqDiff, reduceIte, if_false, if_true]; exact rfl)); all_goals (intro hb; first | (cases hb; done) | ((try rw [hb]); (try simp only [decide_eq_true_eq, decide_eq_false_iff_not, beq_iff_eq, bne_iff_ne, beq_eq_false_iff_ne, bne_eq_false_iff_eq, Int.not_lt, Int.not_le, Bool.not_eq_true', Bool.not_eq_false'] at hb)))) | ((with_reducible refine And.intro ?_ ?_); (focus omega)) | fail)
    all_goals first
      | (skip
         have hix : i < xs.length := by omega
         refine awp_loopE (α := (Nat) × (List Bool)) (fun s p => ⟨(upd (upd (upd (upd (upd (upd (upd bot 0 (s.tmps 0)) 3 (s.tmps 3)) 4 (s.tmps 4)) 5 (s.tmps 5)) 7 (.val (.int .i64 (((itP xs (p.1) i : Nat) : Int))))) 14 (s.tmps 14)) 15 (s.tmps 15)), (upd s.heap 2 (some ⟨true, .bools ((p.2))⟩)), s.next⟩) _ (fun p => by simp only [St.ev, St.set, upd, Nat.reduceEqDiff, reduceIte, if_false, if_true]; exact rfl) (fun p => (∀ j, j < (p.1) → ∀ j', j' < j → itP xs j i ≠ itP xs j' i) ∧ ((p.2).length = 8) ∧ (∀ a, a < xs.length → ((p.2).getD a false = true ↔ (seenP xs i a ∨ ∃ j, j < (p.1) ∧ itP xs j i = a)))) (fun p => xs.length + 1 - (p.1)) (0, sn) ?_ ?_ ?_
         · (try simp only); (refine ⟨?_, ?_, ?_⟩ <;> (first | omega | (intro j h1 j' h2; omega) | (intro a ha; rw [hs a ha]; constructor; exact (fun h => .inl h); exact (fun h => h.elim id (fun ⟨j, hj, _⟩ => by omega)))))
         · (apply Wk.same; (case' h2 => (focus ((repeat' (with_reducible first | exact HeapX.bot | (apply HeapX.skip; (case hx => (simp; done))) | apply HeapX.none | apply HeapX.upd)); all_goals (first | rfl | exact Nat.le_of_ble_eq_true rfl | (simp only [St.set, St.ev, upd, ren, renL, id, Nat.reduceEqDiff, reduceIte, ContLe]; done) | (exact And.intro rfl (And.intro (by first | exact Nat.le_of_ble_eq_true rfl | omega) (by first | exact Nat.le_of_ble_eq_true rfl | omega))) | (first | (simp only [St.set, St.ev, upd, ren, renL, id, Nat.reduceEqDiff, reduceIte]; exact contLe_nil) | ((repeat' (first | exact contLe_nil | refine contLe_cons (.inr ⟨?_, rfl⟩) ?_)); all_goals (first | rfl | (simp only [St.set, St.ev, upd, ren, renL, id, Nat.reduceEqDiff, reduceIte]; done) | ((try simp only [St.set, St.ev, upd, ren, renL, id, Nat.reduceEqDiff, reduceIte]); first | (with_reducible exact av_int (by omega)) | (with_reducible exact av_sl (by first | omega | (simp; done) | (simp; omega)) (by first | omega | (simp; done) | (simp; omega)))) | (simp only [St.set, St.ev, upd, ren, renL, id, Nat.reduceEqDiff, reduceIte, Int.natCast_add, Int.natCast_one, Int.cast_ofNat_Int, Int.natCast_zero]; done) | (simp only [St.set, St.ev, upd, ren, renL, id, Nat.reduceEqDiff, reduceIte]) | skip); done)) | (simp only [St.set, St.ev, upd, ren, renL, id, Nat.reduceEqDiff, reduceIte, ContLe]) | skip)))); (case' h1 => (focus ((repeat' (with_reducible first | exact TmpLe.bot | refine TmpLe.upd ?_ rfl ?_)); all_goals (first | rfl | (simp only [St.set, St.ev, upd, ren, renL, id, Nat.reduceEqDiff, reduceIte]; done) | ((try simp only [St.set, St.ev, upd, ren, renL, id, Nat.reduceEqDiff, reduceIte]); first | (with_reducible exact av_int (by omega)) | (with_reducible exact av_sl (by first | omega | (simp; done) | (simp; omega)) (by first | omega | (simp; done) | (simp; omega)))) | (simp only [St.set, St.ev, upd, ren, renL, id, Nat.reduceEqDiff, reduceIte, Int.natCast_add, Int.natCast_one, Int.cast_ofNat_Int, Int.natCast_zero]; done) | (simp only [St.set, St.ev, upd, ren, renL, id, Nat.reduceEqDiff, reduceIte]) | skip)))); (case h3 => (focus (first | (simp only [id, List.map_cons, List.map_nil]; decide) | decide | (simp; done) | (simp; omega) | fail))); (case h4 => (intro o l h; first | (cases h; done) | (have hlt0 := m0_lt (by assumption) h; (try (simp only at hlt0)); first | omega | (simp only; omega) | exact ⟨by (first | rfl | (simp only [id]; done) | ((repeat rw [if_neg (by omega)]); done)), by first | omega | (simp only; omega)⟩))))
         rintro ⟨k, s2⟩ ⟨hk, hl2, hs2⟩
         try simp only at hk hl2 hs2
         have hkn : k ≤ xs.length := no_inj xs.length k (fun j => itP xs j i) (fun j _ => itP_lt hix j) (fun a b ha hb hab => by rcases Nat.lt_trichotomy a b with h1 | h1 | h1; exact (hk b hb a h1 hab.symm).elim; exact h1; exact (hk a ha b h1 hab).elim)
         have hnx : ((itP xs (k + 1) i : Nat) : Int) = (placesL xs).getD (itP xs k i) 0 := (pl_cast (itP_lt hix k)).symm
         have hilt := itP_lt hix k
         have hex := fun h : s2.getD (itP xs k i) false = true => seen_exit hix ((hs2 _ hilt).1 h)
         have hk2 : s2.getD (itP xs k i) false = false → ∀ j, j < k + 1 → ∀ j', j' < j → itP xs j i ≠ itP xs j' i := fun h j h1 j' h2 e => by
           rcases Nat.lt_or_ge j k with h3 | h3
           · exact hk j h3 j' h2 e
           · rw [show j = k by omega] at e h2
             rw [(hs2 _ hilt).2 (.inr ⟨j', h2, e.symm⟩)] at h
             cases h
         have hs3 : ∀ a, a < xs.length → ((s2.set (itP xs k i) true).getD a false = true ↔ (seenP xs i a ∨ ∃ j, j < k + 1 ∧ itP xs j i = a)) := fun a ha => by
           by_cases e : itP xs k i = a
           · rw [← e, getB_same (by omega)]
             exact ⟨fun _ => .inr ⟨k, by omega, rfl⟩, fun _ => rfl⟩
           · rw [getB_ne e, hs2 a ha]
             constructor
             · rintro (h | ⟨j, hj, h⟩)
               · exact .inl h
               · exact .inr ⟨j, by omega, h⟩
             · rintro (h | ⟨j, hj, h⟩)
               · exact .inl h
               · refine .inr ⟨j, ?_, h⟩
                 rcases Nat.lt_or_ge j k with h3 | h3
                 · exact h3
                 · exact (e (by rw [← h, show j = k by omega])).elim
         repeat' (first | refine awp_seq_k fun K hK => ?_ | ((with_reducible refine hK _ ?_); clear hK K) | (clear hK K; (with_reducible refine hK _ ?_); clear hK K) | ((with_reducible refine aord_plain fun K hK => ?_); simp only [go_sem, Nat.reduceAdd, Nat.reduceMul, Nat.reduceEqDiff, Nat.reduceLT, reduceIte, reduceCtorEq]) | refine awp_block ?_ | ((first | with_reducible refine aord_nil ?_ | refine awp_skip ?_ | refine awp_exit ?_ | refine awp_ret ?_); try simp only [thenA_normal, thenA_exit, thenA_goto, thenA_ret, blockA_normal, blockA_same, blockA_exit, blockA_goto, blockA_ret, Nat.reduceEqDiff, if_false, if_true, reduceIte]) | (refine awp_region tabOk rfl ?_; simp only [prep, pickO, List.map_cons, List.map_nil, List.getElem?_toArray, List.getElem?_cons_succ, List.getElem?_cons_zero, Option.bind_some, Option.map_some]) | ((with_reducible apply awp_cond); (focus (simp only [St.ev, St.set, upd, Nat.reduceEqDiff, reduceIte, if_false, if_true]; exact rfl)); all_goals (intro hb; first | (cases hb; done) | ((try rw [hb]); (try simp only [decide_eq_true_eq, decide_eq_false_iff_not, beq_iff_eq, bne_iff_ne, beq_eq_false_iff_ne, bne_eq_false_iff_eq, Int.not_lt, Int.not_le, Bool.not_eq_true', Bool.not_eq_false'] at hb)))) | ((with_reducible refine And.intro ?_ ?_); (focus omega)) | fail)
         all_goals first | (focus (((apply Exists.intro (k + 1, _)); (refine nxt ?_ ?_ ?_); (focus ((apply Wk.same; (case' h2 => (focus ((repeat' (with_reducible first | exact HeapX.bot | (apply HeapX.skip; (case hx => (simp; done))) | apply HeapX.none | apply HeapX.upd)); all_goals (first | rfl | exact Nat.le_of_ble_eq_true rfl | (simp only [St.set, St.ev, upd, ren, renL, id, Nat.reduceEqDiff, reduceIte, ContLe]; done) | (exact And.intro rfl (And.intro (by first | exact Nat.le_of_ble_eq_true rfl | omega) (by first | exact Nat.le_of_ble_eq_true rfl | omega))) | (first | (simp only [St.set, St.ev, upd, ren, renL, id, Nat.reduceEqDiff, reduceIte]; exact contLe_nil) | ((repeat' (first | exact contLe_nil | refine contLe_cons (.inr ⟨?_, rfl⟩) ?_)); all_goals (first | rfl | (simp only [St.set, St.ev, upd, ren, renL, id, Nat.reduceEqDiff, reduceIte]; done) | ((try simp only [St.set, St.ev, upd, ren, renL, id, Nat.reduceEqDiff, reduceIte]); first | (with_reducible exact av_int (by omega)) | (with_reducible exact av_sl (by first | omega | (simp; done) | (simp; omega)) (by first | omega | (simp; done) | (simp; omega)))) | (simp only [St.set, St.ev, upd, ren, renL, id, Nat.reduceEqDiff, reduceIte, Int.natCast_add, Int.natCast_one, Int.cast_ofNat_Int, Int.natCast_zero]; done) | (simp only [St.set, St.ev, upd, ren, renL, id, Nat.reduceEqDiff, reduceIte]) | skip); done)) | (simp only [St.set, St.ev, upd, ren, renL, id, Nat.reduceEqDiff, reduceIte, ContLe]) | skip)))); (case' h1 => (focus ((repeat' (with_reducible first | exact TmpLe.bot | refine TmpLe.upd ?_ rfl ?_)); all_goals (first | rfl | (simp only [St.set, St.ev, upd, ren, renL, id, Nat.reduceEqDiff, reduceIte]; done) | ((try simp only [St.set, St.ev, upd, ren, renL, id, Nat.reduceEqDiff, reduceIte]); first | (with_reducible exact av_int (by omega)) | (with_reducible exact av_sl (by first | omega | (simp; done) | (simp; omega)) (by first | omega | (simp; done) | (simp; omega)))) | (simp only [St.set, St.ev, upd, ren, renL, id, Nat.reduceEqDiff, reduceIte, Int.natCast_add, Int.natCast_one, Int.cast_ofNat_Int, Int.natCast_zero]; done) | (simp only [St.set, St.ev, upd, ren, renL, id, Nat.reduceEqDiff, reduceIte]) | skip)))); (case h3 => (focus (first | (simp only [id, List.map_cons, List.map_nil]; decide) | decide | (simp; done) | (simp; omega) | fail))); (case h4 => (intro o l h; first | (cases h; done) | (have hlt0 := m0_lt (by assumption) h; (try (simp only at hlt0)); first | omega | (simp only; omega) | exact ⟨by (first | rfl | (simp only [id]; done) | ((repeat rw [if_neg (by omega)]); done)), by first | omega | (simp only; omega)⟩)))))); (focus (first | omega | (simp only; omega) | (simp only [List.length_take]; omega) | (simp; done) | (simp; omega))); ((repeat' (with_reducible apply And.intro)) <;> (first | omega | (simp only; omega) | assumption | rfl | ((try simp only); first | exact hk2 (by assumption) | (rw [List.length_set]; exact hl2) | exact hs3) | fail))); done)) | (focus (((refine Exists.intro (i + 1, c + 1, s2) ?_); (refine nxt ?_ ?_ ?_); (focus ((apply Wk.same; (case' h2 => (focus ((repeat' (with_reducible first | exact HeapX.bot | (apply HeapX.skip; (case hx => (simp; done))) | apply HeapX.none | apply HeapX.upd)); all_goals (first | rfl | exact Nat.le_of_ble_eq_true rfl | (simp only [St.set, St.ev, upd, ren, renL, id, Nat.reduceEqDiff, reduceIte, ContLe]; done) | (exact And.intro rfl (And.intro (by first | exact Nat.le_of_ble_eq_true rfl | omega) (by first | exact Nat.le_of_ble_eq_true rfl | omega))) | (first | (simp only [St.set, St.ev, upd, ren, renL, id, Nat.reduceEqDiff, reduceIte]; exact contLe_nil) | ((repeat' (first | exact contLe_nil | refine contLe_cons (.inr ⟨?_, rfl⟩) ?_)); all_goals (first | rfl | (simp only [St.set, St.ev, upd, ren, renL, id, Nat.reduceEqDiff, reduceIte]; done) | ((try simp only [St.set, St.ev, upd, ren, renL, id, Nat.reduceEqDiff, reduceIte]); first | (with_reducible exact av_int (by omega)) | (with_reducible exact av_sl (by first | omega | (simp; done) | (simp; omega)) (by first | omega | (simp; done) | (simp; omega)))) | (simp only [St.set, St.ev, upd, ren, renL, id, Nat.reduceEqDiff, reduceIte, Int.natCast_add, Int.natCast_one, Int.cast_ofNat_Int, Int.natCast_zero]; done) | (simp only [St.set, St.ev, upd, ren, renL, id, Nat.reduceEqDiff, reduceIte]) | skip); done)) | (simp only [St.set, St.ev, upd, ren, renL, id, Nat.reduceEqDiff, reduceIte, ContLe]) | skip)))); (case' h1 => (focus ((repeat' (with_reducible first | exact TmpLe.bot | refine TmpLe.upd ?_ rfl ?_)); all_goals (first | rfl | (simp only [St.set, St.ev, upd, ren, renL, id, Nat.reduceEqDiff, reduceIte]; done) | ((try simp only [St.set, St.ev, upd, ren, renL, id, Nat.reduceEqDiff, reduceIte]); first | (with_reducible exact av_int (by omega)) | (with_reducible exact av_sl (by first | omega | (simp; done) | (simp; omega)) (by first | omega | (simp; done) | (simp; omega)))) | (simp only [St.set, St.ev, upd, ren, renL, id, Nat.reduceEqDiff, reduceIte, Int.natCast_add, Int.natCast_one, Int.cast_ofNat_Int, Int.natCast_zero]; done) | (simp only [St.set, St.ev, upd, ren, renL, id, Nat.reduceEqDiff, reduceIte]) | skip)))); (case h3 => (focus (first | (simp only [id, List.map_cons, List.map_nil]; decide) | decide | (simp; done) | (simp; omega) | fail))); (case h4 => (intro o l h; first | (cases h; done) | (have hlt0 := m0_lt (by assumption) h; (try (simp only at hlt0)); first | omega | (simp only; omega) | exact ⟨by (first | rfl | (simp only [id]; done) | ((repeat rw [if_neg (by omega)]); done)), by first | omega | (simp only; omega)⟩)))))); (focus (first | omega | (simp only; omega) | (simp only [List.length_take]; omega) | (simp; done) | (simp; omega))); ((repeat' (with_reducible apply And.intro)) <;> (first | omega | (simp only; omega) | assumption | rfl | ((try simp only); first | exact (hup hix (by assumption)).symm | (intro a ha; rw [hs2 a ha]; exact hex (by assumption) a)) | fail))); done)) | (focus (((refine Exists.intro (i + 1, c, s2) ?_); (refine nxt ?_ ?_ ?_); (focus ((apply Wk.same; (case' h2 => (focus ((repeat' (with_reducible first | exact HeapX.bot | (apply HeapX.skip; (case hx => (simp; done))) | apply HeapX.none | apply HeapX.upd)); all_goals (first | rfl | exact Nat.le_of_ble_eq_true rfl | (simp only [St.set, St.ev, upd, ren, renL, id, Nat.reduceEqDiff, reduceIte, ContLe]; done) | (exact And.intro rfl (And.intro (by first | exact Nat.le_of_ble_eq_true rfl | omega) (by first | exact Nat.le_of_ble_eq_true rfl | omega))) | (first | (simp only [St.set, St.ev, upd, ren, renL, id, Nat.reduceEqDiff, reduceIte]; exact contLe_nil) | ((repeat' (first | exact contLe_nil | refine contLe_cons (.inr ⟨?_, rfl⟩) ?_)); all_goals (first | rfl | (simp only [St.set, St.ev, upd, ren, renL, id, Nat.reduceEqDiff, reduceIte]; done) | ((try simp only [St.set, St.ev, upd, ren, renL, id, Nat.reduceEqDiff, reduceIte]); first | (with_reducible exact av_int (by omega)) | (with_reducible exact av_sl (by first | omega | (simp; done) | (simp; omega)) (by first | omega | (simp; done) | (simp; omega)))) | (simp only [St.set, St.ev, upd, ren, renL, id, Nat.reduceEqDiff, reduceIte, Int.natCast_add, Int.natCast_one, Int.cast_ofNat_Int, Int.natCast_zero]; done) | (simp only [St.set, St.ev, upd, ren, renL, id, Nat.reduceEqDiff, reduceIte]) | skip); done)) | (simp only [St.set, St.ev, upd, ren, renL, id, Nat.reduceEqDiff, reduceIte, ContLe]) | skip)))); (case' h1 => (focus ((repeat' (with_reducible first | exact TmpLe.bot | refine TmpLe.upd ?_ rfl ?_)); all_goals (first | rfl | (simp only [St.set, St.ev, upd, ren, renL, id, Nat.reduceEqDiff, reduceIte]; done) | ((try simp only [St.set, St.ev, upd, ren, renL, id, Nat.reduceEqDiff, reduceIte]); first | (with_reducible exact av_int (by omega)) | (with_reducible exact av_sl (by first | omega | (simp; done) | (simp; omega)) (by first | omega | (simp; done) | (simp; omega)))) | (simp only [St.set, St.ev, upd, ren, renL, id, Nat.reduceEqDiff, reduceIte, Int.natCast_add, Int.natCast_one, Int.cast_ofNat_Int, Int.natCast_zero]; done) | (simp only [St.set, St.ev, upd, ren, renL, id, Nat.reduceEqDiff, reduceIte]) | skip)))); (case h3 => (focus (first | (simp only [id, List.map_cons, List.map_nil]; decide) | decide | (simp; done) | (simp; omega) | fail))); (case h4 => (intro o l h; first | (cases h; done) | (have hlt0 := m0_lt (by assumption) h; (try (simp only at hlt0)); first | omega | (simp only; omega) | exact ⟨by (first | rfl | (simp only [id]; done) | ((repeat rw [if_neg (by omega)]); done)), by first | omega | (simp only; omega)⟩)))))); (focus (first | omega | (simp only; omega) | (simp only [List.length_take]; omega) | (simp; done) | (simp; omega))); ((repeat' (with_reducible apply And.intro)) <;> (first | omega | (simp only; omega) | assumption | rfl | ((try simp only); first | exact (hno hix (by assumption)).symm | (intro a ha; rw [hs2 a ha]; exact hex (by assumption) a)) | fail))); done)) | skip
         done)
      | skip
    · simp only [St.set, St.ev, doneQ, doneH, ressK, resK, wrapR, AV.ids, AV.idsL, retK, retsK, upd, Nat.reduceEqDiff, reduceIte, if_false, if_true, List.nodup_nil, List.nodup_cons, List.not_mem_nil, not_false_eq_true, true_and, and_true, exists_eq_left', Option.some.injEq, rLoad, cellOf, tab, Ty.isAgg, Ty.one, Bool.false_eq_true]
      rw [hc, show i = xs.length by omega]
      exact hQ


/-! TreeDepths: the windows that keys fall through, and what a tree of them holds after the first keys: the side of node j holds the first later key in that side's window. -/
def tIn (w : Int × Int) (y : Int) : Prop := w.1 ≤ y ∧ y < w.2
instance {w y} : Decidable (tIn w y) := by unfold tIn; infer_instance
/-- The side of a key in its window. -/
def tSide (w : Int × Int) (c : Int) (l : Bool) : Int × Int := if l then (w.1, c) else (c, w.2)
/-- The window of x after the first keys. -/
def tWin (xs : List Int) (x : Int) : Nat → Int × Int
  | 0 => (-99, 100)
  | k + 1 => if tIn (tWin xs x k) (xs.getD k 0) then tSide (tWin xs x k) (xs.getD k 0) (decide (x < xs.getD k 0)) else tWin xs x k
/-- How many keys are met. -/
def tDep (xs : List Int) (x : Int) : Nat → Nat
  | 0 => 0
  | k + 1 => tDep xs x k + if tIn (tWin xs x k) (xs.getD k 0) then 1 else 0
/-- The last key that is met, and on which side of it. -/
def tLst (xs : List Int) (x : Int) : Nat → Option (Nat × Bool)
  | 0 => none
  | k + 1 => if tIn (tWin xs x k) (xs.getD k 0) then some (k, decide (x < xs.getD k 0)) else tLst xs x k
/-- The first key from k on, and ahead of n, that lies in a window. -/
def tNxt (xs : List Int) (w : Int × Int) (k : Nat) : Nat → Option Nat
  | 0 => none
  | n + 1 => match tNxt xs w k n with
    | some j => some j
    | none => if k ≤ n ∧ tIn w (xs.getD n 0) then some n else none
theorem tSide_sub {w : Int × Int} {c y : Int} {l : Bool} (hc : tIn w c) (h : tIn (tSide w c l) y) : tIn w y := by
  unfold tSide at h; unfold tIn at *; cases l <;> simp at h <;> omega
theorem tWin_sub {xs : List Int} {x y : Int} {k : Nat} (h : tIn (tWin xs x (k + 1)) y) : tIn (tWin xs x k) y := by
  rw [tWin] at h
  split at h
  · rename_i hc; exact tSide_sub hc h
  · exact h
theorem tWin_same {xs : List Int} {x y : Int} : ∀ {k : Nat}, tIn (tWin xs x k) y → tWin xs y k = tWin xs x k
  | 0, _ => rfl
  | k + 1, h => by
    have ih := tWin_same (tWin_sub h)
    rw [tWin, tWin, ih]
    split
    · rename_i hc
      rw [tWin, if_pos hc] at h
      congr 1
      unfold tSide tIn at h
      apply decide_eq_decide.2
      generalize xs.getD k 0 = c at *
      by_cases hx : x < c
      · rw [decide_eq_true hx, if_pos rfl] at h; simp only at h; omega
      · rw [decide_eq_false hx, if_neg (by decide)] at h; simp only at h; omega
    · rfl
theorem tWin_self {xs : List Int} {x : Int} (h : -99 ≤ x ∧ x ≤ 99) : ∀ k, tIn (tWin xs x k) x
  | 0 => by unfold tIn tWin; simp only; omega
  | k + 1 => by
    have ih := tWin_self (xs := xs) h k
    rw [tWin]
    split
    · unfold tSide tIn at *
      generalize xs.getD k 0 = c at *
      by_cases hx : x < c
      · rw [decide_eq_true hx, if_pos rfl]; simp only; omega
      · rw [decide_eq_false hx, if_neg (by decide)]; simp only; omega
    · exact ih
theorem tNxt_none {xs : List Int} {w : Int × Int} {k : Nat} : ∀ {n : Nat}, tNxt xs w k n = none → ∀ j, k ≤ j → j < n → ¬ tIn w (xs.getD j 0)
  | 0, _, j, _, h => by omega
  | n + 1, h, j, h1, h2 => by
    rw [tNxt] at h
    split at h
    · cases h
    · rename_i hn
      split at h
      · cases h
      · rename_i hc
        by_cases e : j = n
        · subst e; exact fun hw => hc ⟨h1, hw⟩
        · exact tNxt_none hn j h1 (by omega)
theorem tNxt_some {xs : List Int} {w : Int × Int} {k m : Nat} : ∀ {n : Nat}, tNxt xs w k n = some m → k ≤ m ∧ m < n ∧ tIn w (xs.getD m 0) ∧ ∀ j, k ≤ j → j < m → ¬ tIn w (xs.getD j 0)
  | 0, h => by cases h
  | n + 1, h => by
    rw [tNxt] at h
    split at h
    · rename_i j hj
      cases h
      obtain ⟨h1, h2, h3⟩ := tNxt_some hj
      exact ⟨h1, by omega, h3⟩
    · rename_i hn
      split at h
      · rename_i hc
        cases h
        exact ⟨hc.1, by omega, hc.2, fun j h1 h2 => tNxt_none hn j h1 h2⟩
      · cases h
theorem tSkip {xs : List Int} {x : Int} {k : Nat} : ∀ (d : Nat), (∀ j, k ≤ j → j < k + d → ¬ tIn (tWin xs x k) (xs.getD j 0)) → tWin xs x (k + d) = tWin xs x k ∧ tDep xs x (k + d) = tDep xs x k ∧ tLst xs x (k + d) = tLst xs x k
  | 0, _ => ⟨rfl, rfl, rfl⟩
  | d + 1, h => by
    obtain ⟨h1, h2, h3⟩ := tSkip d fun j a b => h j a (by omega)
    have hn : ¬ tIn (tWin xs x (k + d)) (xs.getD (k + d) 0) := by rw [h1]; exact h (k + d) (by omega) (by omega)
    rw [← Nat.add_assoc, tWin, tDep, tLst, if_neg hn, if_neg hn, if_neg hn]
    exact ⟨h1, h2, h3⟩
/-- One step of the walk: the next key that is met. -/
theorem tWalk_some {xs : List Int} {x : Int} {k n m : Nat} (h : tNxt xs (tWin xs x k) k n = some m) : k ≤ m ∧ m < n ∧ tDep xs x (m + 1) = tDep xs x k + 1 ∧ tWin xs x (m + 1) = tSide (tWin xs (xs.getD m 0) m) (xs.getD m 0) (decide (x < xs.getD m 0)) ∧ tLst xs x (m + 1) = some (m, decide (x < xs.getD m 0)) := by
  obtain ⟨h1, h2, h3, h4⟩ := tNxt_some h
  obtain ⟨s1, s2, s3⟩ := tSkip (xs := xs) (x := x) (k := k) (m - k) fun j a b => h4 j a (by omega)
  rw [show k + (m - k) = m by omega] at s1 s2 s3
  rw [← s1] at h3
  rw [tDep, tWin, tLst, if_pos h3, if_pos h3, if_pos h3, s2, tWin_same h3]
  exact ⟨h1, h2, rfl, rfl, rfl⟩
/-- The walk's end. -/
theorem tWalk_none {xs : List Int} {x : Int} {k n : Nat} (hk : k ≤ n) (h : tNxt xs (tWin xs x k) k n = none) : tDep xs x n = tDep xs x k ∧ tLst xs x n = tLst xs x k := by
  obtain ⟨s1, s2, s3⟩ := tSkip (xs := xs) (x := x) (k := k) (n - k) fun j a b => tNxt_none h j a (by omega)
  rw [show k + (n - k) = n by omega] at s1 s2 s3
  exact ⟨s2, s3⟩
/-- Where a new key is put: a side that would take it is the one where the walk ends. -/
theorem tPut_one {xs : List Int} {n j : Nat} {l : Bool} (hj : j < n) (hr : ∀ k, -99 ≤ xs.getD k 0 ∧ xs.getD k 0 ≤ 99) (hn : tNxt xs (tSide (tWin xs (xs.getD j 0) j) (xs.getD j 0) l) (j + 1) n = none)
    (hx : tIn (tSide (tWin xs (xs.getD j 0) j) (xs.getD j 0) l) (xs.getD n 0)) : tLst xs (xs.getD n 0) n = some (j, l) := by
  have hc := tWin_self (xs := xs) (hr j) j
  have hw := tWin_same (tSide_sub hc hx)
  have hl : decide (xs.getD n 0 < xs.getD j 0) = l := by
    unfold tSide tIn at hx
    cases l <;> simp at hx ⊢ <;> omega
  have hs : tWin xs (xs.getD n 0) (j + 1) = tSide (tWin xs (xs.getD j 0) j) (xs.getD j 0) l := by rw [tWin, hw, if_pos hc, hl]
  have := tWalk_none (xs := xs) (x := xs.getD n 0) (k := j + 1) (n := n) (by omega) (by rw [hs]; exact hn)
  rw [this.2, tLst, hw, if_pos hc, hl]
theorem tNxt_ge {xs : List Int} {w : Int × Int} {k : Nat} : ∀ {n : Nat}, n ≤ k → tNxt xs w k n = none
  | 0, _ => rfl
  | n + 1, h => by rw [tNxt, tNxt_ge (by omega)]; simp only; rw [if_neg (by omega)]
theorem tNxt_put {xs : List Int} {w : Int × Int} {k n : Nat} (h : tNxt xs w k n = none) (hk : k ≤ n) (hx : tIn w (xs.getD n 0)) : tNxt xs w k (n + 1) = some n := by
  rw [tNxt, h]; simp only; rw [if_pos ⟨hk, hx⟩]
theorem tNxt_old {xs : List Int} {w : Int × Int} {k n m : Nat} (h : tNxt xs w k n = some m) : tNxt xs w k (n + 1) = some m := by rw [tNxt, h]
/-- Every other side stays as it is. -/
theorem tNxt_keep {xs : List Int} {n j : Nat} {l : Bool} (hj : j < n) (hr : ∀ k, -99 ≤ xs.getD k 0 ∧ xs.getD k 0 ≤ 99) (hne : tLst xs (xs.getD n 0) n ≠ some (j, l)) :
    tNxt xs (tSide (tWin xs (xs.getD j 0) j) (xs.getD j 0) l) (j + 1) (n + 1) = tNxt xs (tSide (tWin xs (xs.getD j 0) j) (xs.getD j 0) l) (j + 1) n := by
  rcases hn : tNxt xs (tSide (tWin xs (xs.getD j 0) j) (xs.getD j 0) l) (j + 1) n with _ | m
  · rw [tNxt, hn]
    simp only
    rw [if_neg fun h => hne (tPut_one hj hr hn h.2)]
  · exact tNxt_old hn
/-- The root. -/
theorem tNxt_root {xs : List Int} (hr : ∀ k, -99 ≤ xs.getD k 0 ∧ xs.getD k 0 ≤ 99) : ∀ n, tNxt xs (-99, 100) 0 (n + 1) = some 0
  | 0 => tNxt_put rfl (Nat.le_refl _) (by have := hr 0; unfold tIn; simp only; omega)
  | n + 1 => tNxt_old (tNxt_root hr n)

theorem tStep_l {xs : List Int} {x : Int} {k : Nat} (h1 : (tWin xs x k).1 ≤ xs.getD k 0) (h2 : xs.getD k 0 < (tWin xs x k).2) (h3 : x < xs.getD k 0) : tDep xs x (k + 1) = tDep xs x k + 1 ∧ (tWin xs x (k + 1)).1 = (tWin xs x k).1 ∧ (tWin xs x (k + 1)).2 = xs.getD k 0 := by
  have hc : tIn (tWin xs x k) (xs.getD k 0) := ⟨h1, h2⟩
  rw [tDep, tWin, if_pos hc, if_pos hc, decide_eq_true h3, tSide, if_pos rfl]; exact ⟨rfl, rfl, rfl⟩
theorem tStep_r {xs : List Int} {x : Int} {k : Nat} (h1 : (tWin xs x k).1 ≤ xs.getD k 0) (h2 : xs.getD k 0 < (tWin xs x k).2) (h3 : xs.getD k 0 ≤ x) : tDep xs x (k + 1) = tDep xs x k + 1 ∧ (tWin xs x (k + 1)).1 = xs.getD k 0 ∧ (tWin xs x (k + 1)).2 = (tWin xs x k).2 := by
  have hc : tIn (tWin xs x k) (xs.getD k 0) := ⟨h1, h2⟩
  rw [tDep, tWin, if_pos hc, if_pos hc, decide_eq_false (by omega), tSide, if_neg (by decide)]; exact ⟨rfl, rfl, rfl⟩
theorem tStep_n {xs : List Int} {x : Int} {k : Nat} (h1 : ¬ ((tWin xs x k).1 ≤ xs.getD k 0 ∧ xs.getD k 0 < (tWin xs x k).2)) : tDep xs x (k + 1) = tDep xs x k ∧ (tWin xs x (k + 1)).1 = (tWin xs x k).1 ∧ (tWin xs x (k + 1)).2 = (tWin xs x k).2 := by
  have hc : ¬ tIn (tWin xs x k) (xs.getD k 0) := h1
  rw [tDep, tWin, if_neg hc, if_neg hc]; exact ⟨rfl, rfl, rfl⟩
theorem tDep_le {xs : List Int} {x : Int} : ∀ k, tDep xs x k ≤ k
  | 0 => Nat.le_refl _
  | k + 1 => by have := tDep_le (xs := xs) (x := x) k; rw [tDep]; split <;> omega
/-- How many keys each of the first keys meets. -/
def tdTo (xs : List Int) : Nat → List Int
  | 0 => []
  | i + 1 => tdTo xs i ++ [((tDep xs (xs.getD i 0) i : Nat) : Int)]
theorem tdTo_len (xs : List Int) : ∀ i, (tdTo xs i).length = i
  | 0 => rfl
  | i + 1 => by rw [tdTo, List.length_append, tdTo_len xs i]; rfl
theorem tValid_in {xs : List Int} (h : validB xs = true) : ∀ k, -99 ≤ xs.getD k 0 ∧ xs.getD k 0 ≤ 99 := fun k => by
  by_cases hk : k < xs.length
  · have h1 := (Bool.and_eq_true_iff.1 h).1
    have := List.all_eq_true.1 h1 (xs.getD k 0) (by rw [List.getD_eq_getElem?_getD, List.getElem?_eq_getElem hk]; exact List.getElem_mem hk)
    unfold inB at this
    simp only [Bool.and_eq_true, decide_eq_true_eq] at this
    omega
  · rw [List.getD_eq_getElem?_getD, List.getElem?_eq_none (by omega)]; simp


theorem tsb {f g : Nat → AV} {t0 : Nat} {v : AV} (h : ∀ t, f t = .any ∨ f t = g t) (hv : v = g t0) : ∀ t, upd f t0 v t = .any ∨ upd f t0 v t = g t := fun t => by
  unfold upd
  split
  · rename_i e; subst e; exact .inr hv
  · exact h t
theorem tsb0 {g : Nat → AV} : ∀ t, bot t = .any ∨ bot t = g t := fun _ => .inl rfl
theorem ds_set {xs : List Int} {i n : Nat} (h : i < n) : (tdTo xs i ++ List.replicate (n - i) (0 : Int)).set i ((tDep xs (xs.getD i 0) i : Nat) : Int) = tdTo xs (i + 1) ++ List.replicate (n - (i + 1)) 0 := by
  rw [List.set_append_right _ _ (by rw [tdTo_len]; exact Nat.le_refl _), tdTo_len, Nat.sub_self, show n - i = (n - (i + 1)) + 1 by omega, List.replicate_succ, List.set_cons_zero, tdTo, List.append_assoc]
  rfl
theorem ds_len {xs : List Int} {i n : Nat} (h : i ≤ n) : (tdTo xs i ++ List.replicate (n - i) (0 : Int)).length = n := by
  rw [List.length_append, tdTo_len, List.length_replicate]; omega


theorem aAppend_cells {tab : Tab} {h : Hp} {n : Nat} {t e : TypeId} {i : TI} {z : Value} {o p len kk : Nat} {lim : Option Nat} {rw2 : Bool} {xs ys : List AV} {K : AV → Hp → Nat → Prop} (hty : tyOf tab t = some (.slice e)) (hi : tab e = some i) (h1 : i.size = 1) (hz : i.zero = [z]) (hb : i.bytes ≤ 24)
    (hp : h p = some ⟨rw2, .cells ys⟩) (ho : h o = some ⟨true, .cells xs⟩) (hne : o ≠ p) (hl : xs.length = len) (hk : ys.length = kk) (hle : len + kk ≤ 1000)
    (hK : K (.sl n 0 (len + kk) 1 none) (upd (upd h o none) n (some ⟨true, .cells (xs ++ ys)⟩)) (n + 1)) : aAppend tab h n t (.sl o 0 len 1 none) (.sl p 0 kk 1 lim) K := by
  refine .inl ⟨e, i, z, kk, .cells ys, hty, hi, h1, hz, .inl ⟨p, 0, lim, _, rfl, hp, ?_, ?_⟩, .inr ⟨o, len, _, .cells xs, _, rfl, ho, rfl, ?_, ?_, ?_, by omega, ?_, hK⟩⟩
  · simp [winOf, ← hk]
  · simp [Cont.flat, hk]
  · simp [Cont.flat, hl]
  · simp [winOf, ← hl]
  · simp [catOf]
  · have := Nat.mul_le_mul hle hb
    omega

/-- Slices of whole rows whose objects a function names. -/
def slsN (f : Nat → Nat) : Nat → List (List Int) → List AV
  | _, [] => []
  | k, x :: xs => .sl (f k) 0 x.length 1 none :: slsN f (k + 1) xs
theorem slsN_len {f : Nat → Nat} : ∀ {xss : List (List Int)} {b : Nat}, (slsN f b xss).length = xss.length
  | [], _ => rfl
  | x :: xs, b => by simp [slsN, slsN_len]
theorem slsN_app {f : Nat → Nat} : ∀ {xss yss : List (List Int)} {b : Nat}, slsN f b (xss ++ yss) = slsN f b xss ++ slsN f (b + xss.length) yss
  | [], _, _ => by simp [slsN]
  | x :: xs, yss, b => by rw [List.cons_append, slsN, slsN, slsN_app, List.cons_append, List.length_cons, show b + 1 + xs.length = b + (xs.length + 1) by omega]
theorem slsN_get {f : Nat → Nat} : ∀ {xss : List (List Int)} {b i : Nat}, i < xss.length → (slsN f b xss)[i]? = some (.sl (f (b + i)) 0 (xss.getD i []).length 1 none)
  | [], _, i, h => by simp at h
  | x :: xs, b, 0, _ => by simp [slsN]
  | x :: xs, b, i + 1, h => by
    rw [slsN, List.getElem?_cons_succ, slsN_get (by simpa using h), show b + 1 + i = b + (i + 1) by omega]
    simp
theorem slsN_lt {f : Nat → Nat} {n : Nat} : ∀ {xss : List (List Int)} {b : Nat}, (∀ i, i < xss.length → f (b + i) < n) → AV.ltL n (slsN f b xss) = true
  | [], _, _ => rfl
  | x :: xs, b, h => by
    have h0 := h 0 (by simp)
    simp only [slsN, AV.ltL, AV.lt, Bool.and_eq_true, decide_eq_true_eq]
    refine ⟨h0, slsN_lt fun i hi => ?_⟩
    have := h (i + 1) (by simp; omega)
    rw [show b + 1 + i = b + (i + 1) by omega]; exact this
theorem gat_slsN {h : Hp} {ik : IntKind} {f : Nat → Nat} : ∀ {xss : List (List Int)} {b : Nat}, (∀ i, i < xss.length → h (f (b + i)) = some ⟨true, .ints ik (xss.getD i [])⟩) → Gat h ik (slsN f b xss) ((List.range' b xss.length).map f) xss
  | [], _, _ => .nil
  | x :: xs, b, hh => by
    have h0 := hh 0 (by simp)
    simp only [Nat.add_zero, List.getD_cons_zero] at h0
    rw [slsN, List.length_cons, List.range'_succ, List.map_cons]
    refine .own h0 rfl (gat_slsN fun i hi => ?_)
    have := hh (i + 1) (by simp; omega)
    rw [show b + 1 + i = b + (i + 1) by omega]
    simpa using this
theorem gat_app {h : Hp} {ik : IntKind} {l l2 : List AV} {ps ps2 : List Nat} {xss yss : List (List Int)} (a : Gat h ik l ps xss) (b : Gat h ik l2 ps2 yss) : Gat h ik (l ++ l2) (ps ++ ps2) (xss ++ yss) := by
  induction a with
  | nil => exact b
  | own hp hl _ ih => exact .own hp hl ih
  | none _ ih => exact .none ih

/-- What comes back is a row of rows of one's own; of the caller's state only objects under n0 are kept. -/
theorem awp_gatherW {P : Program} {Γ : Ctx} {nt : Nat} {c : Code} {Q : Exit → St → Prop} {s : St} {h : Hp} {n0 o len : Nat} {ik : IntKind} {l : List AV} {ps : List Nat} {xss : List (List Int)} (t : Tmp) (ht : s.tmps t = .sl o 0 len 1 none) (ho : s.heap o = some ⟨true, .cells l⟩) (hg : Gat s.heap ik l ps xss) (hnd : (o :: ps).Nodup)
    (hn : n0 ≤ s.next) (hcl : HClosed h n0) (hm0 : ∀ u, n0 ≤ u → Γ.m0 u = none) (hps : ∀ p ∈ o :: ps, n0 ≤ p) (hsub : ∀ u ob, u < n0 → h u = some ob → s.heap u = some ob)
    (hK : AWP Γ nt P c Q ⟨upd bot t (.sl n0 0 len 1 none), upd h n0 (some ⟨true, .rows ik xss none⟩), n0 + 1⟩) : AWP Γ nt P c Q s := by
  refine awp_gather t o ht ho hg hnd (awp_weaken (Wk.over (dom := [n0]) (fun u => if u = n0 then s.next else u) n0 ?_ ?_ ?_ ?_ ?_) hK)
  · refine TmpLe.upd ?_ (by simp [AV.lt]) TmpLe.bot
    simp only [upd_same, ren, if_true]
  · refine HeapX.upd (c := .rows ik xss none) ?_ rfl (Nat.lt_succ_self _) (fun u ob' hx hu => ?_)
    · simp only [if_true, upd_same]
    · obtain ⟨a, b⟩ := hcl u ob' hu
      have hne : u ≠ n0 := by omega
      refine ⟨by show u < n0 + 1; omega, .inl ⟨a, if_neg hne⟩, ob', ?_, rfl, contLe_refl (fun k hk => if_neg (by omega)) (Nat.le_succ _) b⟩
      rw [if_neg hne]
      simp only
      rw [upd_ne _ _ (by omega), dropL, if_neg (fun hm => by have := hps u hm; omega)]
      exact hsub u ob' a hu
  · simp
  · intro d hd
    simp only [List.mem_singleton] at hd
    subst hd
    simpa using hn
  · intro u l hu
    have : u < n0 := by
      by_cases e : u < n0
      · exact e
      · rw [hm0 u (by omega)] at hu; cases hu
    exact ⟨if_neg (by omega), by show u < n0 + 1; omega⟩
theorem slsN_congr {f g : Nat → Nat} : ∀ {xss : List (List Int)} {b : Nat}, (∀ j, j < xss.length → f (b + j) = g (b + j)) → slsN f b xss = slsN g b xss
  | [], _, _ => rfl
  | x :: xs, b, h => by
    have h0 := h 0 (by simp)
    rw [Nat.add_zero] at h0
    have ih := slsN_congr (f := f) (g := g) (xss := xs) (b := b + 1) fun j hj => by
      have := h (j + 1) (by simp; omega)
      rw [show b + 1 + j = b + (j + 1) by omega]; exact this
    show AV.sl (f b) 0 x.length 1 none :: slsN f (b + 1) xs = AV.sl (g b) 0 x.length 1 none :: slsN g (b + 1) xs
    rw [h0, ih]
theorem slsN_set {f : Nat → Nat} {r : List Int} {m : Nat} : ∀ {xss : List (List Int)} {b k : Nat}, k < xss.length → (slsN f b xss).set k (.sl m 0 r.length 1 none) = slsN (fun j => if j = b + k then m else f j) b (xss.set k r)
  | [], _, _, h => by simp at h
  | x :: xs, b, 0, _ => by
    show AV.sl m 0 r.length 1 none :: slsN f (b + 1) xs = AV.sl (if b = b + 0 then m else f b) 0 r.length 1 none :: slsN (fun j => if j = b + 0 then m else f j) (b + 1) xs
    rw [if_pos (Nat.add_zero b).symm]
    congr 1
    exact slsN_congr fun j _ => by rw [if_neg (by omega)]
  | x :: xs, b, k + 1, h => by
    show AV.sl (f b) 0 x.length 1 none :: (slsN f (b + 1) xs).set k (.sl m 0 r.length 1 none) = AV.sl (if b = b + (k + 1) then m else f b) 0 x.length 1 none :: slsN (fun j => if j = b + (k + 1) then m else f j) (b + 1) (xs.set k r)
    rw [if_neg (by omega), slsN_set (by simpa using h)]
    congr 1
    exact slsN_congr fun j _ => by rw [show b + 1 + k = b + (k + 1) by omega]
/-- The pile that a key is put on: the first one whose last key is not greater. -/
def pilA : List (List Int) → Int → Nat
  | [], _ => 0
  | r :: xss, x => if r.getD (r.length - 1) 0 ≤ x then 0 else pilA xss x + 1
theorem pilA_le (x : Int) : ∀ xss, pilA xss x ≤ xss.length
  | [] => Nat.le_refl _
  | r :: xss => by have := pilA_le x xss; rw [pilA]; split <;> simp <;> omega
theorem pilA_is {x : Int} : ∀ {xss : List (List Int)} {k : Nat}, (∀ j, j < k → x < (xss.getD j []).getD ((xss.getD j []).length - 1) 0) → k ≤ xss.length → (k = xss.length ∨ (xss.getD k []).getD ((xss.getD k []).length - 1) 0 ≤ x) → pilA xss x = k
  | [], k, _, h, _ => by simp at h; subst h; rfl
  | r :: xss, 0, _, _, h3 => by
    rcases h3 with h3 | h3
    · simp at h3
    · rw [pilA, if_pos (by simpa using h3)]
  | r :: xss, k + 1, h1, h2, h3 => by
    have h0 := h1 0 (by omega)
    simp only [List.getD_cons_zero] at h0
    rw [pilA, if_neg (by omega), pilA_is (k := k) (fun j hj => by have := h1 (j + 1) (by omega); simpa using this) (by simpa using h2) (by rcases h3 with h3 | h3; exact .inl (by simpa using h3); exact .inr (by simpa using h3))]
def pilPut (xss : List (List Int)) (x : Int) : List (List Int) := if pilA xss x = xss.length then xss ++ [[x]] else xss.set (pilA xss x) (xss.getD (pilA xss x) [] ++ [x])
def pilTo (xs : List Int) : Nat → List (List Int)
  | 0 => []
  | i + 1 => pilPut (pilTo xs i) (xs.getD i 0)
theorem pilPut_new {xss : List (List Int)} {x : Int} (h : pilA xss x = xss.length) : pilPut xss x = xss ++ [[x]] := if_pos h
theorem pilPut_old {xss : List (List Int)} {x : Int} {k : Nat} (h : pilA xss x = k) (hk : k < xss.length) : pilPut xss x = xss.set k (xss.getD k [] ++ [x]) := by
  subst h; exact if_neg (by omega)
theorem pil_in {xs : List Int} : ∀ i, (pilTo xs i).length ≤ i ∧ ∀ j, j < (pilTo xs i).length → 1 ≤ ((pilTo xs i).getD j []).length ∧ ((pilTo xs i).getD j []).length ≤ i
  | 0 => ⟨Nat.le_refl _, fun j h => by simp [pilTo] at h⟩
  | i + 1 => by
    obtain ⟨h1, h2⟩ := pil_in (xs := xs) i
    have hle := pilA_le (xs.getD i 0) (pilTo xs i)
    rw [pilTo]
    by_cases e : pilA (pilTo xs i) (xs.getD i 0) = (pilTo xs i).length
    · rw [pilPut_new e]
      refine ⟨by simp; omega, fun j hj => ?_⟩
      by_cases c : j < (pilTo xs i).length
      · have : (pilTo xs i ++ [[xs.getD i 0]]).getD j [] = (pilTo xs i).getD j [] := by simp only [List.getD_eq_getElem?_getD]; rw [List.getElem?_append_left c]
        rw [this]; have := h2 j c; omega
      · have c2 : j = (pilTo xs i).length := by simp at hj; omega
        subst c2
        have : (pilTo xs i ++ [[xs.getD i 0]]).getD (pilTo xs i).length [] = [xs.getD i 0] := by simp [List.getD_eq_getElem?_getD]
        rw [this]; simp
    · rw [pilPut_old rfl (by omega)]
      refine ⟨by simp; omega, fun j hj => ?_⟩
      rw [List.length_set] at hj
      have hj2 := h2 j hj
      by_cases c : pilA (pilTo xs i) (xs.getD i 0) = j
      · rw [c, List.getD_eq_getElem?_getD, List.getElem?_set_self hj]
        simp only [Option.getD_some, List.length_append, List.length_singleton]; omega
      · rw [List.getD_eq_getElem?_getD, List.getElem?_set_ne c, ← List.getD_eq_getElem?_getD]; omega
/-- What is known of a heap that holds such rows. -/
structure RowsOf (H : Hp) (n O : Nat) (f : Nat → Nat) (xss : List (List Int)) : Prop where
  out : H O = some ⟨true, .cells (slsN f 0 xss)⟩
  outn : O < n
  row : ∀ j, j < xss.length → H (f j) = some ⟨true, .ints .i64 (xss.getD j [])⟩
  lt : ∀ j, j < xss.length → f j < n ∧ f j ≠ O
  inj : ∀ j l, j < xss.length → l < xss.length → f j = f l → j = l
theorem RowsOf.get {H : Hp} {n O : Nat} {f : Nat → Nat} {xss : List (List Int)} (h : RowsOf H n O f xss) {k : Nat} (hk : k < xss.length) : (slsN f 0 xss)[k]? = some (.sl (f k) 0 (xss.getD k []).length 1 none) := by
  have := slsN_get (f := f) (b := 0) hk
  rw [Nat.zero_add] at this; exact this
theorem RowsOf.gat {H : Hp} {n O : Nat} {f : Nat → Nat} {xss : List (List Int)} (h : RowsOf H n O f xss) : Gat H .i64 (slsN f 0 xss) ((List.range' 0 xss.length).map f) xss := gat_slsN fun j hj => by rw [Nat.zero_add]; exact h.row j hj
theorem RowsOf.nodup {H : Hp} {n O : Nat} {f : Nat → Nat} {xss : List (List Int)} (h : RowsOf H n O f xss) : (O :: (List.range' 0 xss.length).map f).Nodup := by
  refine List.nodup_cons.2 ⟨fun e => ?_, ?_⟩
  · obtain ⟨j, hj, e2⟩ := List.mem_map.1 e
    simp [List.mem_range'] at hj
    exact (h.lt j (by omega)).2 e2
  · refine List.pairwise_map.2 (List.Pairwise.imp_of_mem (fun {a b} ha hb hne e => hne ?_) (List.nodup_range' (s := 0) (n := xss.length)))
    simp [List.mem_range'] at ha hb
    exact h.inj a b (by omega) (by omega) e
theorem RowsOf.set {H G : Hp} {n O k : Nat} {f : Nat → Nat} {xss : List (List Int)} {x : Int} (h : RowsOf H n O f xss) (hk : k < xss.length) (gO : G O = some ⟨true, .cells ((slsN f 0 xss).set k (.sl (n + 1) 0 ((xss.getD k []).length + 1) 1 none))⟩) (gn : G (n + 1) = some ⟨true, .ints .i64 (xss.getD k [] ++ [x])⟩) (gk : ∀ u, u < n → u ≠ O → u ≠ f k → G u = H u) : RowsOf G (n + 2) O (fun j => if j = k then n + 1 else f j) (xss.set k (xss.getD k [] ++ [x])) := by
  have hOn := h.outn
  refine ⟨?_, by omega, fun j hj => ?_, fun j hj => ?_, fun j l hj hl e => ?_⟩
  · have := slsN_set (f := f) (r := xss.getD k [] ++ [x]) (m := n + 1) (b := 0) hk
    rw [List.length_append, List.length_singleton] at this
    rw [gO, this]
    simp only [Nat.zero_add]
  · rw [List.length_set] at hj
    by_cases c : j = k
    · subst c
      rw [if_pos rfl, gn, List.getD_eq_getElem?_getD (l := xss.set j _), List.getElem?_set_self hj]; rfl
    · rw [if_neg c, gk _ (h.lt j hj).1 (h.lt j hj).2 (fun e => c (h.inj j k hj hk e)), h.row j hj, List.getD_eq_getElem?_getD (l := xss.set k _), List.getElem?_set_ne (Ne.symm c), ← List.getD_eq_getElem?_getD]
  · rw [List.length_set] at hj
    have := h.lt j hj
    split <;> omega
  · rw [List.length_set] at hj hl
    have a := h.lt j hj
    have b := h.lt l hl
    by_cases c : j = k <;> by_cases d : l = k
    · omega
    · rw [if_pos c, if_neg d] at e; omega
    · rw [if_neg c, if_pos d] at e; omega
    · rw [if_neg c, if_neg d] at e; exact h.inj j l hj hl e
theorem RowsOf.push {H G : Hp} {n O : Nat} {f : Nat → Nat} {xss : List (List Int)} {r : List Int} {m nn : Nat} (h : RowsOf H n O f xss) (hm : n ≤ m) (hmn : m < nn) (gO : G (nn) = some ⟨true, .cells (slsN f 0 xss ++ [.sl m 0 r.length 1 none])⟩) (gn : G m = some ⟨true, .ints .i64 r⟩) (gk : ∀ u, u < n → u ≠ O → G u = H u) : RowsOf G (nn + 1) nn (fun j => if j = xss.length then m else f j) (xss ++ [r]) := by
  refine ⟨?_, by omega, fun j hj => ?_, fun j hj => ?_, fun j l hj hl e => ?_⟩
  · rw [gO, slsN_app, Nat.zero_add]
    have e1 : slsN f 0 xss = slsN (fun j => if j = xss.length then m else f j) 0 xss := slsN_congr fun j hj => by rw [if_neg (by omega)]
    rw [← e1]
    simp only [slsN, if_true]
  · simp only [List.length_append, List.length_singleton] at hj
    by_cases c : j = xss.length
    · subst c
      rw [if_pos rfl, gn]
      simp [List.getD_eq_getElem?_getD]
    · have hj2 : j < xss.length := by omega
      rw [if_neg c, gk _ (h.lt j hj2).1 (h.lt j hj2).2, h.row j hj2]
      simp only [List.getD_eq_getElem?_getD]; rw [List.getElem?_append_left hj2]
  · simp only [List.length_append, List.length_singleton] at hj
    by_cases c : j = xss.length
    · rw [if_pos c]; omega
    · rw [if_neg c]; have := h.lt j (by omega); omega
  · simp only [List.length_append, List.length_singleton] at hj hl
    by_cases c : j = xss.length <;> by_cases d : l = xss.length
    · omega
    · rw [if_pos c, if_neg d] at e; have := h.lt l (by omega); omega
    · rw [if_neg c, if_pos d] at e; have := h.lt j (by omega); omega
    · rw [if_neg c, if_neg d] at e; exact h.inj j l (by omega) (by omega) e
theorem RowsOf.push2 {H G : Hp} {n O m O2 N : Nat} {f : Nat → Nat} {xss : List (List Int)} {r : List Int} (h : RowsOf H n O f xss) (hm : n ≤ m) (hO2 : n ≤ O2) (hne : m ≠ O2) (hmN : m < N) (hON : O2 < N) (gO : G O2 = some ⟨true, .cells (slsN f 0 xss ++ [.sl m 0 r.length 1 none])⟩) (gn : G m = some ⟨true, .ints .i64 r⟩) (gk : ∀ u, u < n → u ≠ O → G u = H u) : RowsOf G N O2 (fun j => if j = xss.length then m else f j) (xss ++ [r]) := by
  refine ⟨?_, hON, fun j hj => ?_, fun j hj => ?_, fun j l hj hl e => ?_⟩
  · rw [gO, slsN_app, Nat.zero_add]
    have e1 : slsN f 0 xss = slsN (fun j => if j = xss.length then m else f j) 0 xss := slsN_congr fun j hj => by rw [if_neg (by omega)]
    rw [← e1]
    simp only [slsN, if_true]
  · simp only [List.length_append, List.length_singleton] at hj
    by_cases c : j = xss.length
    · subst c
      rw [if_pos rfl, gn]
      simp [List.getD_eq_getElem?_getD]
    · have hj2 : j < xss.length := by omega
      rw [if_neg c, gk _ (h.lt j hj2).1 (h.lt j hj2).2, h.row j hj2]
      simp only [List.getD_eq_getElem?_getD]; rw [List.getElem?_append_left hj2]
  · simp only [List.length_append, List.length_singleton] at hj
    by_cases c : j = xss.length
    · rw [if_pos c]; omega
    · rw [if_neg c]; have := h.lt j (by omega); omega
  · simp only [List.length_append, List.length_singleton] at hj hl
    by_cases c : j = xss.length <;> by_cases d : l = xss.length
    · omega
    · rw [if_pos c, if_neg d] at e; have := h.lt l (by omega); omega
    · rw [if_neg c, if_pos d] at e; have := h.lt j (by omega); omega
    · rw [if_neg c, if_neg d] at e; exact h.inj j l (by omega) (by omega) e


theorem specPiles_sat : Sat Try.prog 42 (fun ds Q => ∃ (xs : List Int), ds = [.row (.ints .i64 (xs))] ∧ (validB xs = true) ∧ Q (.row (.rows .i64 (pilTo xs xs.length) none))) := by
  refine sat_intro tabOk Try.func42 rfl 64 rfl [.tmp 2] rfl ?_
  rintro ds Q W ⟨xs, rfl, hv, hQ⟩
  refine ⟨Nat.le_of_ble_eq_true rfl, ?_⟩
  simp only [initS, initT, mat.matL, mat, Cont.len]
  have h8 := valid_len hv
  repeat' (first | refine awp_seq_k fun K hK => ?_ | ((with_reducible refine hK _ ?_); clear hK K) | ((with_reducible refine aord_plain fun K hK => ?_); simp only [go_sem, Nat.reduceAdd, Nat.reduceMul, Nat.reduceEqDiff, Nat.reduceLT, reduceIte, reduceCtorEq]) | refine awp_block ?_ | ((first | with_reducible refine aord_nil ?_ | refine awp_skip ?_ | refine awp_exit ?_ | refine awp_ret ?_); try simp only [thenA_normal, thenA_exit, thenA_goto, thenA_ret, blockA_normal, blockA_same, blockA_exit, blockA_goto, blockA_ret, Nat.reduceEqDiff, if_false, if_true, reduceIte]) | (refine awp_region tabOk rfl ?_; simp only [prep, pickO, List.map_cons, List.map_nil, List.getElem?_toArray, List.getElem?_cons_succ, List.getElem?_cons_zero, Option.bind_some, Option.map_some]) | ((with_reducible refine And.intro ?_ ?_); (focus omega)) | fail)
  refine awp_loop (fun p : Hp × Nat × Nat × (Nat → Nat) × Nat => ⟨upd (upd (upd bot 4 (.val (.int .i64 p.2.2.2.2))) 3 (.sl p.2.2.1 0 (pilTo xs p.2.2.2.2).length 1 none)) 0 (.sl 0 0 xs.length 1 none), p.1, p.2.1⟩) (fun p => p.2.2.2.2 ≤ xs.length ∧ p.1 0 = some ⟨false, .ints .i64 xs⟩ ∧ p.2.2.1 ≠ 0 ∧ RowsOf p.1 p.2.1 p.2.2.1 p.2.2.2.1 (pilTo xs p.2.2.2.2) ∧ ∀ j, j < (pilTo xs p.2.2.2.2).length → p.2.2.2.1 j ≠ 0) (fun p => xs.length - p.2.2.2.2) (upd (upd none' 0 (some ⟨false, .ints .i64 xs⟩)) 1 (some ⟨true, .cells []⟩), 2, 1, fun _ => 0, 0) ⟨Nat.zero_le _, rfl, Nat.one_ne_zero, ⟨rfl, Nat.lt_succ_self 1, fun j h => by simp [pilTo] at h, fun j h => by simp [pilTo] at h, fun j l h => by simp [pilTo] at h⟩, fun j h => by simp [pilTo] at h⟩ ?_ ?_
  · exact Wk.sub (tsb (tsb (tsb tsb0 rfl) rfl) rfl) (fun _ _ h => h) rfl
  rintro ⟨H, n, O, f, i⟩ ⟨hi, H0, hO0, hR, hf0⟩
  dsimp only at hi H0 hO0 hR hf0 ⊢
  obtain ⟨hpl, hpr⟩ := pil_in (xs := xs) i
  have hup : pilTo xs (i + 1) = pilPut (pilTo xs i) (xs.getD i 0) := rfl
  obtain ⟨xss, hxss⟩ : ∃ xss, pilTo xs i = xss := ⟨_, rfl⟩
  rw [hxss] at hR hf0 hpl hpr hup ⊢
  have hO := hR.out
  have hOn := hR.outn
  have hn0 : 0 < n := by omega
  have m1 : (0 = n) = False := eq_false (by omega)
  have m2 : ∀ k, (0 = n + k) = False := fun k => eq_false (by omega)
  have m3 : (n = 0) = False := eq_false (by omega)
  have m4 : ∀ k, (n + k = 0) = False := fun k => eq_false (by omega)
  have m5 : (O = n) = False := eq_false (by omega)
  have m6 : ∀ k, (O = n + k) = False := fun k => eq_false (by omega)
  have m7 : (n = O) = False := eq_false (by omega)
  have m8 : ∀ k, (n + k = O) = False := fun k => eq_false (by omega)
  have m9 : (O = 0) = False := eq_false hO0
  have ma : (0 = O) = False := eq_false (Ne.symm hO0)
  have hNm := And.intro H0 (And.intro hO (And.intro m1 (And.intro m2 (And.intro m3 (And.intro m4 (And.intro m5 (And.intro m6 (And.intro m7 (And.intro m8 (And.intro m9 ma))))))))))
  have hsl := @slsN_len f xss 0


  repeat' ((fail_if_success (with_reducible refine isRetQ ?_)); (first | refine awp_seq_k fun K hK => ?_ | ((with_reducible refine hK _ ?_); clear hK K) | (clear hK K; (with_reducible refine hK _ ?_); clear hK K) | ((with_reducible refine aord_plain fun K hK => ?_); simp only [go_sem, Nat.reduceAdd, Nat.reduceMul, Nat.reduceEqDiff, Nat.reduceLT, reduceIte, reduceCtorEq, hNm, Nat.add_eq_left, Nat.left_eq_add, Nat.add_assoc, Nat.reduceAdd, if_false, if_true, hNm, hsl]) | refine awp_block ?_ | ((first | with_reducible refine aord_nil ?_ | refine awp_skip ?_ | refine awp_exit ?_ | refine awp_ret ?_); try simp only [thenA_normal, thenA_exit, thenA_goto, thenA_ret, blockA_normal, blockA_same, blockA_exit, blockA_goto, blockA_ret, Nat.reduceEqDiff, if_false, if_true, reduceIte]) | (refine awp_region tabOk rfl ?_; simp only [prep, pickO, List.map_cons, List.map_nil, List.getElem?_toArray, List.getElem?_cons_succ, List.getElem?_cons_zero, Option.bind_some, Option.map_some]) | ((with_reducible apply awp_cond); (focus (simp only [St.ev, St.set, upd, Nat.reduceEqDiff, reduceIte, if_false, if_true, hNm, Nat.add_eq_left, Nat.left_eq_add, Nat.add_assoc, Nat.reduceAdd, if_false, if_true]; exact rfl)); all_goals (intro hb; first | (cases hb; done) | ((try rw [hb]); (try simp only [decide_eq_true_eq, decide_eq_false_iff_not, beq_iff_eq, bne_iff_ne, beq_eq_false_iff_ne, bne_eq_false_iff_eq, Int.not_lt, Int.not_le, Bool.not_eq_true', Bool.not_eq_false'] at hb)))) | (simp only [aAppendZ, go_sem, Nat.reduceAdd, Nat.reduceMul, Nat.reduceEqDiff, Nat.reduceLT, reduceIte, reduceCtorEq, hNm, Nat.add_eq_left, Nat.left_eq_add, Nat.add_assoc, Nat.reduceAdd, if_false, if_true, hNm, hsl]) | fail))
  · skip
    refine awp_loop (fun k : Nat => ⟨upd (upd (upd (upd bot 5 (.val (.int .i64 k))) 4 (.val (.int .i64 i))) 3 (.sl O 0 xss.length 1 none)) 0 (.sl 0 0 xs.length 1 none), H, n⟩) (fun k => k ≤ xss.length ∧ ∀ j, j < k → xs.getD i 0 < (xss.getD j []).getD ((xss.getD j []).length - 1) 0) (fun k => xss.length - k) 0 ⟨Nat.zero_le _, fun j h => by omega⟩ (Wk.sub (tsb (tsb (tsb (tsb tsb0 rfl) rfl) rfl) rfl) (fun _ _ h => h) rfl) ?_
    rintro k ⟨hk, hpre⟩
    have hpa := fun h => pilA_is hpre hk h
    rcases Nat.lt_or_ge k xss.length with hkl | hkl
    · have hget := hR.get hkl
      have hrow := hR.row k hkl
      have hlt := hR.lt k hkl
      have hfk0 := hf0 k hkl
      have hln := hpr k hkl
      have e1 : (((xss.getD k []).length : Int) - 1).toNat = (xss.getD k []).length - 1 := by omega
      generalize hfk : f k = r at *
      have r1 : (r = n) = False := eq_false (by omega)
      have r2 : ∀ k, (r = n + k) = False := fun k => eq_false (by omega)
      have r3 : (n = r) = False := eq_false (by omega)
      have r4 : ∀ k, (n + k = r) = False := fun k => eq_false (by omega)
      have r5 : (r = O) = False := eq_false hlt.2
      have r6 : (O = r) = False := eq_false (Ne.symm hlt.2)
      have r7 : (r = 0) = False := eq_false hfk0
      have r8 : (0 = r) = False := eq_false (Ne.symm hfk0)
      have hNr := And.intro hrow (And.intro r1 (And.intro r2 (And.intro r3 (And.intro r4 (And.intro r5 (And.intro r6 (And.intro r7 r8)))))))
      generalize hrk : xss.getD k [] = row at *


      repeat' (first | refine awp_seq_k fun K hK => ?_ | ((with_reducible refine hK _ ?_); clear hK K) | (clear hK K; (with_reducible refine hK _ ?_); clear hK K) | ((with_reducible refine aord_plain fun K hK => ?_); simp only [go_sem, Nat.reduceAdd, Nat.reduceMul, Nat.reduceEqDiff, Nat.reduceLT, reduceIte, reduceCtorEq, hNm, hNr, Nat.add_eq_left, Nat.left_eq_add, Nat.add_assoc, Nat.reduceAdd, if_false, if_true, hNm, hsl, hget, hNr, e1]) | ((with_reducible apply aord_guard); (focus (simp only [St.ev, St.set, upd, Nat.reduceEqDiff, reduceIte, if_false, if_true, hNm, hNr, Nat.add_eq_left, Nat.left_eq_add, Nat.add_assoc, Nat.reduceAdd, if_false, if_true]; exact rfl)); all_goals (intro hb; (try simp only [Bool.not_true, Bool.not_false] at hb); first | (cases hb; done) | ((try rw [hb]); (try simp only [Bool.not_eq_true', Bool.not_eq_false', Bool.and_eq_true, decide_eq_true_eq, decide_eq_false_iff_not, beq_iff_eq, bne_iff_ne, beq_eq_false_iff_ne, bne_eq_false_iff_eq, Int.not_lt, Int.not_le] at hb); (try (revert hb; with_reducible refine true_imp_iff.2 ?_)); first | (intro K hK; simp only [go_sem, Nat.reduceAdd, Nat.reduceMul, Nat.reduceEqDiff, Nat.reduceLT, reduceIte, reduceCtorEq, hNm, hNr, Nat.add_eq_left, Nat.left_eq_add, Nat.add_assoc, Nat.reduceAdd, if_false, if_true]) | (simp only [St.ev, St.set, upd, Nat.reduceEqDiff, reduceIte, if_false, if_true, hNm, hNr, Nat.add_eq_left, Nat.left_eq_add, Nat.add_assoc, Nat.reduceAdd, if_false, if_true]) | skip))) | refine awp_block ?_ | ((first | with_reducible refine aord_nil ?_ | refine awp_skip ?_ | refine awp_exit ?_ | refine awp_ret ?_); try simp only [thenA_normal, thenA_exit, thenA_goto, thenA_ret, blockA_normal, blockA_same, blockA_exit, blockA_goto, blockA_ret, Nat.reduceEqDiff, if_false, if_true, reduceIte]) | (refine awp_region tabOk rfl ?_; simp only [prep, pickO, List.map_cons, List.map_nil, List.getElem?_toArray, List.getElem?_cons_succ, List.getElem?_cons_zero, Option.bind_some, Option.map_some]) | (refine awp_region_draw (nt := 64) (id := 6) tabOk [(0, true, false), (1, true, false), (2, true, false), (3, true, false), (4, true, false), (5, true, false), (6, true, false), (7, true, false), (8, true, false), (9, true, false), (10, true, false), (11, true, false), (12, true, false), (13, true, false), (14, true, false), (15, true, false), (16, true, false), (17, true, false), (18, true, false), (19, true, false), (20, true, false), (21, true, false), (22, true, false)] (by kernel_rfl) rfl (by kernel_rfl) ?_; simp only [prep, pickO, List.map_cons, List.map_nil, List.getElem?_toArray, List.getElem?_cons_succ, List.getElem?_cons_zero, Option.bind_some, Option.map_some]) | (refine awp_region_draw (nt := 64) (id := 10) tabOk [(0, true, false), (1, true, false), (2, true, false), (3, true, false), (4, true, false), (5, true, false), (6, true, false), (7, true, false), (8, true, false), (9, true, false), (10, false, false), (11, false, true), (12, true, false), (13, false, false)] (by kernel_rfl) rfl (by kernel_rfl) ?_; simp only [prep, pickO, List.map_cons, List.map_nil, List.getElem?_toArray, List.getElem?_cons_succ, List.getElem?_cons_zero, Option.bind_some, Option.map_some]) | ((with_reducible apply awp_cond); (focus (simp only [St.ev, St.set, upd, Nat.reduceEqDiff, reduceIte, if_false, if_true, hNm, hNr, Nat.add_eq_left, Nat.left_eq_add, Nat.add_assoc, Nat.reduceAdd, if_false, if_true]; exact rfl)); all_goals (intro hb; first | (cases hb; done) | ((try rw [hb]); (try simp only [decide_eq_true_eq, decide_eq_false_iff_not, beq_iff_eq, bne_iff_ne, beq_eq_false_iff_ne, bne_eq_false_iff_eq, Int.not_lt, Int.not_le, Bool.not_eq_true', Bool.not_eq_false'] at hb)))) | ((with_reducible refine And.intro ?_ ?_); (focus omega)) | (refine aAppend_ints rfl rfl rfl rfl (Nat.le_of_ble_eq_true rfl) (by simp only [St.ev, St.set, upd, Nat.reduceEqDiff, reduceIte, if_false, if_true, hNm, hNr, Nat.add_eq_left, Nat.left_eq_add, Nat.add_assoc, Nat.reduceAdd, if_false, if_true]; exact rfl) (by simp only [St.ev, St.set, upd, Nat.reduceEqDiff, reduceIte, if_false, if_true, hNm, hNr, Nat.add_eq_left, Nat.left_eq_add, Nat.add_assoc, Nat.reduceAdd, if_false, if_true]; exact rfl) rfl (by first | decide | omega | (simp; done) | fail) ?_ ?_ ?_ ?_; (focus (first | rfl | omega | (simp; done) | (simp; omega) | (simp [szOf, tab]; done) | (simp [szOf, tab]; omega))); (focus (first | rfl | omega | (simp; done) | (simp; omega) | (simp [szOf, tab]; done) | (simp [szOf, tab]; omega))); (focus (first | rfl | omega | (simp; done) | (simp; omega) | (simp [szOf, tab]; done) | (simp [szOf, tab]; omega))); (try simp only [go_sem, Nat.reduceAdd, Nat.reduceMul, Nat.reduceEqDiff, Nat.reduceLT, reduceIte, reduceCtorEq, hNm, hNr, Nat.add_eq_left, Nat.left_eq_add, Nat.add_assoc, Nat.reduceAdd, if_false, if_true])) | (simp only [aAppendZ, go_sem, Nat.reduceAdd, Nat.reduceMul, Nat.reduceEqDiff, Nat.reduceLT, reduceIte, reduceCtorEq, hNm, hNr, Nat.add_eq_left, Nat.left_eq_add, Nat.add_assoc, Nat.reduceAdd, if_false, if_true, hNm, hsl, hget, hNr, e1]) | (exfalso; omega) | fail)
      · refine ⟨k + 1, ⟨by omega, fun j hj => ?_⟩, by omega, Wk.sub (tsb (tsb (tsb (tsb tsb0 rfl) rfl) rfl) rfl) (fun _ _ h => h) rfl⟩
        by_cases c : j = k
        · subst c; rw [hrk]; omega
        · exact hpre j (by omega)
      · have hpa2 := hpa (.inr (by omega))
        have hput := pilPut_old hpa2 hkl
        have hxl : (pilTo xs (i + 1)).length = xss.length := by rw [hup, hput, List.length_set]
        refine ⟨(upd (upd (upd (upd H n (some ⟨true, .ints .i64 [xs.getD i 0]⟩)) r none) (n + 1) (some ⟨true, .ints .i64 (row ++ [xs.getD i 0])⟩)) O (some ⟨true, .cells ((slsN f 0 xss).set k (.sl (n + 1) 0 (row.length + 1) 1 none))⟩), n + 2, O, (fun j => if j = k then n + 1 else f j), i + 1), ⟨by dsimp only; omega, ?_, hO0, ?_, ?_⟩, by dsimp only; omega, Wk.sub (tsb (tsb (tsb tsb0 rfl) (by rw [hxl]; rfl)) rfl) (fun _ _ h => h) rfl⟩
        · (try dsimp only); (repeat (first | rw [upd_same] | rw [upd_ne _ _ (by omega)]))
          exact H0
        · dsimp only
          rw [hup, hput]
          refine hR.set hkl ?_ ?_ (fun u h1 h2 h3 => ?_)
          · rw [hrk]; (try dsimp only); (repeat (first | rw [upd_same] | rw [upd_ne _ _ (by omega)]))
          · rw [hrk]; (try dsimp only); (repeat (first | rw [upd_same] | rw [upd_ne _ _ (by omega)]))
          · rw [hfk] at h3; (try dsimp only); (repeat (first | rw [upd_same] | rw [upd_ne _ _ (by omega)]))
        · intro j hj
          dsimp only at hj ⊢
          rw [hxl] at hj
          have := hf0 j hj
          split <;> omega
    · have hke : k = xss.length := by omega
      subst hke
      have hput := pilPut_new (hpa (.inl rfl))
      have hxl : (pilTo xs (i + 1)).length = xss.length + 1 := by rw [hup, hput, List.length_append]; rfl


      repeat' (first | refine awp_seq_k fun K hK => ?_ | ((with_reducible refine hK _ ?_); clear hK K) | (clear hK K; (with_reducible refine hK _ ?_); clear hK K) | ((with_reducible refine aord_plain fun K hK => ?_); simp only [go_sem, Nat.reduceAdd, Nat.reduceMul, Nat.reduceEqDiff, Nat.reduceLT, reduceIte, reduceCtorEq, hNm, Nat.add_eq_left, Nat.left_eq_add, Nat.add_assoc, Nat.reduceAdd, if_false, if_true, hNm, hsl]) | ((with_reducible apply aord_guard); (focus (simp only [St.ev, St.set, upd, Nat.reduceEqDiff, reduceIte, if_false, if_true, hNm, Nat.add_eq_left, Nat.left_eq_add, Nat.add_assoc, Nat.reduceAdd, if_false, if_true]; exact rfl)); all_goals (intro hb; (try simp only [Bool.not_true, Bool.not_false] at hb); first | (cases hb; done) | ((try rw [hb]); (try simp only [Bool.not_eq_true', Bool.not_eq_false', Bool.and_eq_true, decide_eq_true_eq, decide_eq_false_iff_not, beq_iff_eq, bne_iff_ne, beq_eq_false_iff_ne, bne_eq_false_iff_eq, Int.not_lt, Int.not_le] at hb); (try (revert hb; with_reducible refine true_imp_iff.2 ?_)); first | (intro K hK; simp only [go_sem, Nat.reduceAdd, Nat.reduceMul, Nat.reduceEqDiff, Nat.reduceLT, reduceIte, reduceCtorEq, hNm, Nat.add_eq_left, Nat.left_eq_add, Nat.add_assoc, Nat.reduceAdd, if_false, if_true]) | (simp only [St.ev, St.set, upd, Nat.reduceEqDiff, reduceIte, if_false, if_true, hNm, Nat.add_eq_left, Nat.left_eq_add, Nat.add_assoc, Nat.reduceAdd, if_false, if_true]) | skip))) | ((first | with_reducible refine aord_nil ?_ | refine awp_skip ?_ | refine awp_exit ?_ | refine awp_ret ?_); try simp only [thenA_normal, thenA_exit, thenA_goto, thenA_ret, blockA_normal, blockA_same, blockA_exit, blockA_goto, blockA_ret, Nat.reduceEqDiff, if_false, if_true, reduceIte]) | (refine awp_region tabOk rfl ?_; simp only [prep, pickO, List.map_cons, List.map_nil, List.getElem?_toArray, List.getElem?_cons_succ, List.getElem?_cons_zero, Option.bind_some, Option.map_some]) | (refine awp_region_draw (nt := 64) (id := 6) tabOk [(0, true, false), (1, true, false), (2, true, false), (3, true, false), (4, true, false), (5, true, false), (6, true, false), (7, true, false), (8, true, false), (9, true, false), (10, true, false), (11, true, false), (12, true, false), (13, true, false), (14, true, false), (15, true, false), (16, true, false), (17, true, false), (18, true, false), (19, true, false), (20, true, false), (21, true, false), (22, true, false)] (by kernel_rfl) rfl (by kernel_rfl) ?_; simp only [prep, pickO, List.map_cons, List.map_nil, List.getElem?_toArray, List.getElem?_cons_succ, List.getElem?_cons_zero, Option.bind_some, Option.map_some]) | ((with_reducible apply awp_cond); (focus (simp only [St.ev, St.set, upd, Nat.reduceEqDiff, reduceIte, if_false, if_true, hNm, Nat.add_eq_left, Nat.left_eq_add, Nat.add_assoc, Nat.reduceAdd, if_false, if_true]; exact rfl)); all_goals (intro hb; first | (cases hb; done) | ((try rw [hb]); (try simp only [decide_eq_true_eq, decide_eq_false_iff_not, beq_iff_eq, bne_iff_ne, beq_eq_false_iff_ne, bne_eq_false_iff_eq, Int.not_lt, Int.not_le, Bool.not_eq_true', Bool.not_eq_false'] at hb)))) | ((with_reducible refine And.intro ?_ ?_); (focus omega)) | (exfalso; omega) | fail)
      refine aAppend_cells rfl rfl rfl rfl (Nat.le_of_ble_eq_true rfl) (by (try dsimp only); (repeat (first | rw [upd_same] | rw [upd_ne _ _ (by omega)]))) (by (try dsimp only); (repeat (first | rw [upd_same] | rw [upd_ne _ _ (by omega)])); exact hO) (by omega) hsl rfl (by omega) ?_
      repeat' (first | ((with_reducible refine hK _ ?_); clear hK K) | ((with_reducible refine aord_plain fun K hK => ?_); simp only [go_sem, Nat.reduceAdd, Nat.reduceMul, Nat.reduceEqDiff, Nat.reduceLT, reduceIte, reduceCtorEq, hNm, Nat.add_eq_left, Nat.left_eq_add, Nat.add_assoc, Nat.reduceAdd, if_false, if_true, hNm, hsl]) | ((first | with_reducible refine aord_nil ?_ | refine awp_skip ?_ | refine awp_exit ?_ | refine awp_ret ?_); try simp only [thenA_normal, thenA_exit, thenA_goto, thenA_ret, blockA_normal, blockA_same, blockA_exit, blockA_goto, blockA_ret, Nat.reduceEqDiff, if_false, if_true, reduceIte]) | (refine awp_region tabOk rfl ?_; simp only [prep, pickO, List.map_cons, List.map_nil, List.getElem?_toArray, List.getElem?_cons_succ, List.getElem?_cons_zero, Option.bind_some, Option.map_some]) | ((with_reducible refine And.intro ?_ ?_); (focus omega)) | (simp only [aAppendZ, go_sem, Nat.reduceAdd, Nat.reduceMul, Nat.reduceEqDiff, Nat.reduceLT, reduceIte, reduceCtorEq, hNm, Nat.add_eq_left, Nat.left_eq_add, Nat.add_assoc, Nat.reduceAdd, if_false, if_true, hNm, hsl]) | fail)
      refine ⟨(upd (upd (upd (upd H n (some ⟨true, .ints .i64 [xs.getD i 0]⟩)) (n + 1) (some ⟨true, .cells [.sl n 0 1 1 none]⟩)) O none) (n + 2) (some ⟨true, .cells (slsN f 0 xss ++ [.sl n 0 1 1 none])⟩), n + 3, n + 2, (fun j => if j = xss.length then n else f j), i + 1), ⟨by dsimp only; omega, ?_, by dsimp only; omega, ?_, ?_⟩, by dsimp only; omega, Wk.sub (tsb (tsb (tsb tsb0 rfl) (by rw [hxl]; rfl)) rfl) (fun _ _ h => h) rfl⟩
      · (try dsimp only); (repeat (first | rw [upd_same] | rw [upd_ne _ _ (by omega)]))
        exact H0
      · dsimp only
        rw [hup, hput]
        refine hR.push (m := n) (Nat.le_refl _) (by omega) ?_ ?_ (fun u h1 h2 => ?_)
        · (try dsimp only); (repeat (first | rw [upd_same] | rw [upd_ne _ _ (by omega)])); rfl
        · (try dsimp only); (repeat (first | rw [upd_same] | rw [upd_ne _ _ (by omega)]))
        · (try dsimp only); (repeat (first | rw [upd_same] | rw [upd_ne _ _ (by omega)]))
      · intro j hj
        dsimp only at hj ⊢
        rw [hxl] at hj
        by_cases c : j = xss.length
        · rw [if_pos c]; omega
        · rw [if_neg c]; exact hf0 j (by omega)
  · skip
    have hie : i = xs.length := by omega
    subst hie
    rw [hxss] at hQ
    refine awp_gather (ik := .i64) (len := xss.length) 2 O (by simp only [upd, Nat.reduceEqDiff, if_true, if_false, reduceIte]) hO hR.gat hR.nodup ?_


    repeat' (first | ((first | with_reducible refine aord_nil ?_ | refine awp_skip ?_ | refine awp_exit ?_ | refine awp_ret ?_); try simp only [thenA_normal, thenA_exit, thenA_goto, thenA_ret, blockA_normal, blockA_same, blockA_exit, blockA_goto, blockA_ret, Nat.reduceEqDiff, if_false, if_true, reduceIte]) | fail)
    simp only [St.set, St.ev, doneQ, doneH, ressK, resK, wrapR, AV.ids, AV.idsL, retK, retsK, upd, Nat.reduceEqDiff, reduceIte, if_false, if_true, List.nodup_nil, List.nodup_cons, List.not_mem_nil, not_false_eq_true, true_and, and_true, exists_eq_left', Option.some.injEq, rLoad, cellOf, tab, Ty.isAgg, Ty.one, Bool.false_eq_true]
    exact ⟨rfl, by simp only [Cont.len], hQ⟩

theorem pilRises_sat : Sat Try.prog 58 (fun ds Q => ∃ (a b : Int), ds = [.val (.int .i64 (a)), .val (.int .i64 (b))] ∧ Q (.val (.bool ((decide (a ≤ b)))))) := by
  refine sat_intro tabOk Try.func58 rfl 8 rfl [.tmp 4] rfl ?_
  rintro ds Q W ⟨a, b, rfl, hQ⟩
  refine ⟨Nat.le_of_ble_eq_true rfl, ?_⟩
  simp only [initS, initT, mat.matL, mat, Cont.len]
  repeat' (first | refine awp_seq_k fun K hK => ?_ | ((with_reducible refine hK _ ?_); clear hK K) | ((with_reducible refine aord_plain fun K hK => ?_); simp only [go_sem, Nat.reduceAdd, Nat.reduceMul, Nat.reduceEqDiff, Nat.reduceLT, reduceIte, reduceCtorEq]) | ((first | with_reducible refine aord_nil ?_ | refine awp_skip ?_ | refine awp_exit ?_ | refine awp_ret ?_); try simp only [thenA_normal, thenA_exit, thenA_goto, thenA_ret, blockA_normal, blockA_same, blockA_exit, blockA_goto, blockA_ret, Nat.reduceEqDiff, if_false, if_true, reduceIte]) | (refine awp_region tabOk rfl ?_; simp only [prep, pickO, List.map_cons, List.map_nil, List.getElem?_toArray, List.getElem?_cons_succ, List.getElem?_cons_zero, Option.bind_some, Option.map_some]) | fail)
  all_goals simp only [St.set, St.ev, doneQ, doneH, ressK, resK, wrapR, AV.ids, AV.idsL, retK, retsK, upd, Nat.reduceEqDiff, reduceIte, if_false, if_true, List.nodup_nil, List.nodup_cons, List.not_mem_nil, not_false_eq_true, true_and, and_true, exists_eq_left', Option.some.injEq, rLoad, cellOf, tab, Ty.isAgg, Ty.one, Bool.false_eq_true]
  exact hQ


theorem pileFor_sat : Sat Try.prog 61 (fun ds Q => ∃ (xss : List (List Int)) (x : Int), ds = [.row (.rows .i64 xss none), .val (.int .i64 (x))] ∧ (xss.length ≤ 100) ∧ (∀ j, j < xss.length → 1 ≤ (xss.getD j []).length ∧ (xss.getD j []).length ≤ 100) ∧ Q (.val (.int .i64 (((pilA xss x : Nat) : Int))))) := by
  refine sat_intro tabOk Try.func61 rfl 26 rfl [.tmp 4] rfl ?_
  rintro ds Q W ⟨xss, x, rfl, hl, hr, hQ⟩
  refine ⟨Nat.le_of_ble_eq_true rfl, ?_⟩
  simp only [initS, initT, mat.matL, mat, Cont.len]
  repeat' (first | refine awp_seq_k fun K hK => ?_ | ((with_reducible refine hK _ ?_); clear hK K) | ((with_reducible refine aord_plain fun K hK => ?_); simp only [go_sem, Nat.reduceAdd, Nat.reduceMul, Nat.reduceEqDiff, Nat.reduceLT, reduceIte, reduceCtorEq]) | refine awp_block ?_ | ((first | with_reducible refine aord_nil ?_ | refine awp_skip ?_ | refine awp_exit ?_ | refine awp_ret ?_); try simp only [thenA_normal, thenA_exit, thenA_goto, thenA_ret, blockA_normal, blockA_same, blockA_exit, blockA_goto, blockA_ret, Nat.reduceEqDiff, if_false, if_true, reduceIte]) | (refine awp_region tabOk rfl ?_; simp only [prep, pickO, List.map_cons, List.map_nil, List.getElem?_toArray, List.getElem?_cons_succ, List.getElem?_cons_zero, Option.bind_some, Option.map_some]) | fail)
  refine awp_loopE (α := Nat) (fun s p => ⟨(upd (upd (upd (upd (upd bot 0 (s.tmps 0)) 1 (s.tmps 1)) 7 (s.tmps 7)) 8 (s.tmps 8)) 9 (.val (.int .i64 (p)))), s.heap, s.next⟩) _ (fun p => by simp only [St.ev, St.set, upd, Nat.reduceEqDiff, reduceIte, if_false, if_true]; exact rfl) (fun p => (p ≤ xss.length) ∧ (∀ j, j < p → x < (xss.getD j []).getD ((xss.getD j []).length - 1) 0)) (fun p => xss.length - p) (0) ?_ ?_ ?_
  · (try simp only); (refine ⟨?_, ?_⟩ <;> (first | omega | (intro j h; omega)))
  · (apply Wk.same; (case' h2 => (focus ((repeat' (with_reducible first | exact HeapX.bot | (apply HeapX.skip; (case hx => (simp; done))) | apply HeapX.none | apply HeapX.upd)); all_goals (first | rfl | exact Nat.le_of_ble_eq_true rfl | (simp only [St.set, St.ev, upd, ren, renL, id, Nat.reduceEqDiff, reduceIte, ContLe]; done) | (exact And.intro rfl (And.intro (by first | exact Nat.le_of_ble_eq_true rfl | omega) (by first | exact Nat.le_of_ble_eq_true rfl | omega))) | (first | (simp only [St.set, St.ev, upd, ren, renL, id, Nat.reduceEqDiff, reduceIte]; exact contLe_nil) | ((repeat' (first | exact contLe_nil | refine contLe_cons (.inr ⟨?_, rfl⟩) ?_)); all_goals (first | rfl | (simp only [St.set, St.ev, upd, ren, renL, id, Nat.reduceEqDiff, reduceIte]; done) | ((try simp only [St.set, St.ev, upd, ren, renL, id, Nat.reduceEqDiff, reduceIte]); first | (with_reducible exact av_int (by omega)) | (with_reducible exact av_sl (by first | omega | (simp; done) | (simp; omega)) (by first | omega | (simp; done) | (simp; omega)))) | (simp only [St.set, St.ev, upd, ren, renL, id, Nat.reduceEqDiff, reduceIte, Int.natCast_add, Int.natCast_one, Int.cast_ofNat_Int, Int.natCast_zero]; done) | (simp only [St.set, St.ev, upd, ren, renL, id, Nat.reduceEqDiff, reduceIte]) | skip); done)) | (simp only [St.set, St.ev, upd, ren, renL, id, Nat.reduceEqDiff, reduceIte, ContLe]) | skip)))); (case' h1 => (focus ((repeat' (with_reducible first | exact TmpLe.bot | refine TmpLe.upd ?_ rfl ?_)); all_goals (first | rfl | (simp only [St.set, St.ev, upd, ren, renL, id, Nat.reduceEqDiff, reduceIte]; done) | ((try simp only [St.set, St.ev, upd, ren, renL, id, Nat.reduceEqDiff, reduceIte]); first | (with_reducible exact av_int (by omega)) | (with_reducible exact av_sl (by first | omega | (simp; done) | (simp; omega)) (by first | omega | (simp; done) | (simp; omega)))) | (simp only [St.set, St.ev, upd, ren, renL, id, Nat.reduceEqDiff, reduceIte, Int.natCast_add, Int.natCast_one, Int.cast_ofNat_Int, Int.natCast_zero]; done) | (simp only [St.set, St.ev, upd, ren, renL, id, Nat.reduceEqDiff, reduceIte]) | skip)))); (case h3 => (focus (first | (simp only [id, List.map_cons, List.map_nil]; decide) | decide | (simp; done) | (simp; omega) | fail))); (case h4 => (intro o l h; first | (cases h; done) | (have hlt0 := m0_lt (by assumption) h; (try (simp only at hlt0)); first | omega | (simp only; omega) | exact ⟨by (first | rfl | (simp only [id]; done) | ((repeat rw [if_neg (by omega)]); done)), by first | omega | (simp only; omega)⟩))))
  rintro k ⟨hk, hpre⟩
  try simp only at hk hpre
  have hpa := fun h => pilA_is hpre hk h
  have hrk : k < xss.length → 1 ≤ (xss.getD k []).length ∧ (xss.getD k []).length ≤ 100 := hr k
  have e1 : (((xss.getD k []).length : Int) - 1).toNat = (xss.getD k []).length - 1 ∨ (xss.getD k []).length = 0 := by omega
  rcases Nat.lt_or_ge k xss.length with hkl | hkl
  · have hrk := hrk hkl
    have e1 : (((xss.getD k []).length : Int) - 1).toNat = (xss.getD k []).length - 1 := by omega

    repeat' (first | refine awp_seq_k fun K hK => ?_ | ((with_reducible refine hK _ ?_); clear hK K) | (clear hK K; (with_reducible refine hK _ ?_); clear hK K) | ((with_reducible refine aord_plain fun K hK => ?_); simp only [go_sem, Nat.reduceAdd, Nat.reduceMul, Nat.reduceEqDiff, Nat.reduceLT, reduceIte, reduceCtorEq, e1]) | refine awp_block ?_ | ((first | with_reducible refine aord_nil ?_ | refine awp_skip ?_ | refine awp_exit ?_ | refine awp_ret ?_); try simp only [thenA_normal, thenA_exit, thenA_goto, thenA_ret, blockA_normal, blockA_same, blockA_exit, blockA_goto, blockA_ret, Nat.reduceEqDiff, if_false, if_true, reduceIte]) | (refine awp_region tabOk rfl ?_; simp only [prep, pickO, List.map_cons, List.map_nil, List.getElem?_toArray, List.getElem?_cons_succ, List.getElem?_cons_zero, Option.bind_some, Option.map_some]) | ((with_reducible apply awp_cond); (focus (simp only [St.ev, St.set, upd, Nat.reduceEqDiff, reduceIte, if_false, if_true]; exact rfl)); all_goals (intro hb; first | (cases hb; done) | ((try rw [hb]); (try simp only [decide_eq_true_eq, decide_eq_false_iff_not, beq_iff_eq, bne_iff_ne, beq_eq_false_iff_ne, bne_eq_false_iff_eq, Int.not_lt, Int.not_le, Bool.not_eq_true', Bool.not_eq_false'] at hb)))) | ((with_reducible refine And.intro ?_ ?_); (focus omega)) | ((with_reducible refine And.intro (?_ : enters Try.prog 58) ?_); (focus exact Try.call58); (refine callX_sat pilRises_sat ?_); simp only [go_sem, and_assoc, List.nil_append, List.append_nil, List.cons_append, Nat.reduceEqDiff, reduceIte, reduceCtorEq, e1]) | (exfalso; omega) | fail)
    · simp only [St.set, St.ev, doneQ, doneH, ressK, resK, wrapR, AV.ids, AV.idsL, retK, retsK, upd, Nat.reduceEqDiff, reduceIte, if_false, if_true, List.nodup_nil, List.nodup_cons, List.not_mem_nil, not_false_eq_true, true_and, and_true, exists_eq_left', Option.some.injEq, rLoad, cellOf, tab, Ty.isAgg, Ty.one, Bool.false_eq_true]
      rw [hpa (.inr (by omega))] at hQ
      exact hQ
    · refine ⟨k + 1, ⟨by omega, fun j hj => ?_⟩, by omega, Wk.sub (tsb (tsb (tsb (tsb (tsb tsb0 rfl) rfl) rfl) rfl) rfl) (fun _ _ h => h) rfl⟩
      by_cases c : j = k
      · subst c; omega
      · exact hpre j (by omega)
  · skip
    repeat' (first | refine awp_seq_k fun K hK => ?_ | ((with_reducible refine hK _ ?_); clear hK K) | (clear hK K; (with_reducible refine hK _ ?_); clear hK K) | ((with_reducible refine aord_plain fun K hK => ?_); simp only [go_sem, Nat.reduceAdd, Nat.reduceMul, Nat.reduceEqDiff, Nat.reduceLT, reduceIte, reduceCtorEq, e1]) | refine awp_block ?_ | ((first | with_reducible refine aord_nil ?_ | refine awp_skip ?_ | refine awp_exit ?_ | refine awp_ret ?_); try simp only [thenA_normal, thenA_exit, thenA_goto, thenA_ret, blockA_normal, blockA_same, blockA_exit, blockA_goto, blockA_ret, Nat.reduceEqDiff, if_false, if_true, reduceIte]) | (refine awp_region tabOk rfl ?_; simp only [prep, pickO, List.map_cons, List.map_nil, List.getElem?_toArray, List.getElem?_cons_succ, List.getElem?_cons_zero, Option.bind_some, Option.map_some]) | ((with_reducible apply awp_cond); (focus (simp only [St.ev, St.set, upd, Nat.reduceEqDiff, reduceIte, if_false, if_true]; exact rfl)); all_goals (intro hb; first | (cases hb; done) | ((try rw [hb]); (try simp only [decide_eq_true_eq, decide_eq_false_iff_not, beq_iff_eq, bne_iff_ne, beq_eq_false_iff_ne, bne_eq_false_iff_eq, Int.not_lt, Int.not_le, Bool.not_eq_true', Bool.not_eq_false'] at hb)))) | ((with_reducible refine And.intro ?_ ?_); (focus omega)) | (exfalso; omega) | fail)
    simp only [St.set, St.ev, doneQ, doneH, ressK, resK, wrapR, AV.ids, AV.idsL, retK, retsK, upd, Nat.reduceEqDiff, reduceIte, if_false, if_true, List.nodup_nil, List.nodup_cons, List.not_mem_nil, not_false_eq_true, true_and, and_true, exists_eq_left', Option.some.injEq, rLoad, cellOf, tab, Ty.isAgg, Ty.one, Bool.false_eq_true]
    rw [hpa (.inl (by omega))] at hQ
    rw [show xss.length = k by omega]
    exact hQ


theorem implPilesOf_sat : Sat Try.prog 55 (fun ds Q => ∃ (xs : List Int), ds = [.row (.ints .i64 (xs))] ∧ (xs.length ≤ 1099511627776) ∧ Q (.row (.rows .i64 (if validB xs then pilTo xs xs.length else []) none))) := by
  refine sat_intro tabOk Try.func55 rfl 38 rfl [.tmp 2] rfl ?_
  rintro ds Q W ⟨xs, rfl, hlen, hQ⟩
  refine ⟨Nat.le_of_ble_eq_true rfl, ?_⟩
  simp only [initS, initT, mat.matL, mat, Cont.len]
  cases hv : validB xs with
  | false =>
    simp only [hv, Bool.false_eq_true, if_false] at hQ

    repeat' ((fail_if_success (with_reducible refine isRetQ ?_)); (first | refine awp_seq_k fun K hK => ?_ | ((with_reducible refine hK _ ?_); clear hK K) | ((with_reducible refine aord_plain fun K hK => ?_); simp only [go_sem, Nat.reduceAdd, Nat.reduceMul, Nat.reduceEqDiff, Nat.reduceLT, reduceIte, reduceCtorEq, hv]) | ((first | with_reducible refine aord_nil ?_ | refine awp_skip ?_ | refine awp_exit ?_ | refine awp_ret ?_); try simp only [thenA_normal, thenA_exit, thenA_goto, thenA_ret, blockA_normal, blockA_same, blockA_exit, blockA_goto, blockA_ret, Nat.reduceEqDiff, if_false, if_true, reduceIte]) | (refine awp_region tabOk rfl ?_; simp only [prep, pickO, List.map_cons, List.map_nil, List.getElem?_toArray, List.getElem?_cons_succ, List.getElem?_cons_zero, Option.bind_some, Option.map_some]) | ((with_reducible apply awp_cond); (focus (simp only [St.ev, St.set, upd, Nat.reduceEqDiff, reduceIte, if_false, if_true]; exact rfl)); all_goals (intro hb; first | (cases hb; done) | ((try rw [hb]); (try simp only [decide_eq_true_eq, decide_eq_false_iff_not, beq_iff_eq, bne_iff_ne, beq_eq_false_iff_ne, bne_eq_false_iff_eq, Int.not_lt, Int.not_le, Bool.not_eq_true', Bool.not_eq_false'] at hb)))) | ((with_reducible refine And.intro ?_ ?_); (focus omega)) | ((with_reducible refine And.intro (?_ : enters Try.prog 15) ?_); (focus exact Try.call15); (refine callX_sat implValidKeys_sat ?_); simp only [go_sem, and_assoc, List.nil_append, List.append_nil, List.cons_append, Nat.reduceEqDiff, reduceIte, reduceCtorEq, hv]) | fail))
    refine awp_nil 2 (.cells []) rfl rfl (by simp only [St.ev, St.set, upd, Nat.reduceEqDiff, reduceIte, if_false, if_true]) ?_; simp only [St.ev, St.set, upd, Nat.reduceEqDiff, reduceIte, if_false, if_true]
    refine awp_gather (ik := .i64) (len := 0) (xss := []) 2 1 (by simp only [St.ev, St.set, upd, Nat.reduceEqDiff, reduceIte, if_false, if_true]) (by simp only [St.ev, St.set, upd, Nat.reduceEqDiff, reduceIte, if_false, if_true]) .nil (by simp) ?_
    repeat' (first | ((first | with_reducible refine aord_nil ?_ | refine awp_skip ?_ | refine awp_exit ?_ | refine awp_ret ?_); try simp only [thenA_normal, thenA_exit, thenA_goto, thenA_ret, blockA_normal, blockA_same, blockA_exit, blockA_goto, blockA_ret, Nat.reduceEqDiff, if_false, if_true, reduceIte]) | (simp only [aAppendZ, go_sem, Nat.reduceAdd, Nat.reduceMul, Nat.reduceEqDiff, Nat.reduceLT, reduceIte, reduceCtorEq, hv]) | fail)
    simp only [St.set, St.ev, doneQ, doneH, ressK, resK, wrapR, AV.ids, AV.idsL, retK, retsK, upd, Nat.reduceEqDiff, reduceIte, if_false, if_true, List.nodup_nil, List.nodup_cons, List.not_mem_nil, not_false_eq_true, true_and, and_true, exists_eq_left', Option.some.injEq, rLoad, cellOf, tab, Ty.isAgg, Ty.one, Bool.false_eq_true]
    exact ⟨rfl, rfl, hQ⟩
  | true =>
    simp only [hv, if_true] at hQ
    have h8 := valid_len hv

    repeat' (first | refine awp_seq_k fun K hK => ?_ | ((with_reducible refine hK _ ?_); clear hK K) | ((with_reducible refine aord_plain fun K hK => ?_); simp only [go_sem, Nat.reduceAdd, Nat.reduceMul, Nat.reduceEqDiff, Nat.reduceLT, reduceIte, reduceCtorEq, hv]) | refine awp_block ?_ | ((first | with_reducible refine aord_nil ?_ | refine awp_skip ?_ | refine awp_exit ?_ | refine awp_ret ?_); try simp only [thenA_normal, thenA_exit, thenA_goto, thenA_ret, blockA_normal, blockA_same, blockA_exit, blockA_goto, blockA_ret, Nat.reduceEqDiff, if_false, if_true, reduceIte]) | (refine awp_region tabOk rfl ?_; simp only [prep, pickO, List.map_cons, List.map_nil, List.getElem?_toArray, List.getElem?_cons_succ, List.getElem?_cons_zero, Option.bind_some, Option.map_some]) | ((with_reducible apply awp_cond); (focus (simp only [St.ev, St.set, upd, Nat.reduceEqDiff, reduceIte, if_false, if_true]; exact rfl)); all_goals (intro hb; first | (cases hb; done) | ((try rw [hb]); (try simp only [decide_eq_true_eq, decide_eq_false_iff_not, beq_iff_eq, bne_iff_ne, beq_eq_false_iff_ne, bne_eq_false_iff_eq, Int.not_lt, Int.not_le, Bool.not_eq_true', Bool.not_eq_false'] at hb)))) | ((with_reducible refine And.intro ?_ ?_); (focus omega)) | ((with_reducible refine And.intro (?_ : enters Try.prog 15) ?_); (focus exact Try.call15); (refine callX_sat implValidKeys_sat ?_); simp only [go_sem, and_assoc, List.nil_append, List.append_nil, List.cons_append, Nat.reduceEqDiff, reduceIte, reduceCtorEq, hv]) | fail)
    refine awp_nil 3 (.cells []) rfl rfl (by simp only [St.ev, St.set, upd, Nat.reduceEqDiff, reduceIte, if_false, if_true]) ?_; simp only [St.ev, St.set, upd, Nat.reduceEqDiff, reduceIte, if_false, if_true]
    refine awp_loop (fun p : Hp × Nat × Nat × (Nat → Nat) × Nat => ⟨upd (upd (upd (upd bot 12 (.val (.int .i64 p.2.2.2.2))) 11 (.val (.int .i64 xs.length))) 10 (.sl 0 0 xs.length 1 none)) 3 (.sl p.2.2.1 0 (pilTo xs p.2.2.2.2).length 1 none), p.1, p.2.1⟩) (fun p => p.2.2.2.2 ≤ xs.length ∧ p.1 0 = some ⟨false, .ints .i64 xs⟩ ∧ p.2.2.1 ≠ 0 ∧ RowsOf p.1 p.2.1 p.2.2.1 p.2.2.2.1 (pilTo xs p.2.2.2.2) ∧ ∀ j, j < (pilTo xs p.2.2.2.2).length → p.2.2.2.1 j ≠ 0) (fun p => xs.length - p.2.2.2.2) (upd (upd none' 0 (some ⟨false, .ints .i64 xs⟩)) 1 (some ⟨true, .cells []⟩), 2, 1, fun _ => 0, 0) ⟨Nat.zero_le _, rfl, Nat.one_ne_zero, ⟨rfl, Nat.lt_succ_self 1, fun j h => by simp [pilTo] at h, fun j h => by simp [pilTo] at h, fun j l h => by simp [pilTo] at h⟩, fun j h => by simp [pilTo] at h⟩ ?_ ?_
    · exact Wk.sub (tsb (tsb (tsb (tsb tsb0 rfl) rfl) rfl) rfl) (fun _ _ h => h) rfl
    rintro ⟨H, n, O, f, i⟩ ⟨hi, H0, hO0, hR, hf0⟩
    dsimp only at hi H0 hO0 hR hf0 ⊢
    obtain ⟨hpl, hpr⟩ := pil_in (xs := xs) i
    have hup : pilTo xs (i + 1) = pilPut (pilTo xs i) (xs.getD i 0) := rfl
    obtain ⟨xss, hxss⟩ : ∃ xss, pilTo xs i = xss := ⟨_, rfl⟩
    rw [hxss] at hR hf0 hpl hpr hup ⊢
    have hpe := pilA_le (xs.getD i 0) xss
    have hO := hR.out
    have hOn := hR.outn
    have hn0 : 0 < n := by omega
    have m1 : (0 = n) = False := eq_false (by omega)
    have m2 : ∀ k, (0 = n + k) = False := fun k => eq_false (by omega)
    have m3 : (n = 0) = False := eq_false (by omega)
    have m4 : ∀ k, (n + k = 0) = False := fun k => eq_false (by omega)
    have m5 : (O = n) = False := eq_false (by omega)
    have m6 : ∀ k, (O = n + k) = False := fun k => eq_false (by omega)
    have m7 : (n = O) = False := eq_false (by omega)
    have m8 : ∀ k, (n + k = O) = False := fun k => eq_false (by omega)
    have m9 : (O = 0) = False := eq_false hO0
    have ma : (0 = O) = False := eq_false (Ne.symm hO0)
    have hNm := And.intro H0 (And.intro hO (And.intro m1 (And.intro m2 (And.intro m3 (And.intro m4 (And.intro m5 (And.intro m6 (And.intro m7 (And.intro m8 (And.intro m9 ma))))))))))
    have hsl := @slsN_len f xss 0
    have hst : (slsN f 0 xss).take xss.length = slsN f 0 xss := List.take_of_length_le (by omega)
    have hll : 0 + xss.length ≤ xss.length := by omega


    repeat' ((fail_if_success (with_reducible refine isRetQ ?_)); (first | refine awp_seq_k fun K hK => ?_ | ((with_reducible refine hK _ ?_); clear hK K) | (clear hK K; (with_reducible refine hK _ ?_); clear hK K) | ((with_reducible refine aord_plain fun K hK => ?_); simp only [go_sem, Nat.reduceAdd, Nat.reduceMul, Nat.reduceEqDiff, Nat.reduceLT, reduceIte, reduceCtorEq, hNm, Nat.add_eq_left, Nat.left_eq_add, Nat.add_assoc, Nat.reduceAdd, if_false, if_true, hNm, hsl, hst, List.drop_zero, hv]) | refine awp_block ?_ | ((first | with_reducible refine aord_nil ?_ | refine awp_skip ?_ | refine awp_exit ?_ | refine awp_ret ?_); try simp only [thenA_normal, thenA_exit, thenA_goto, thenA_ret, blockA_normal, blockA_same, blockA_exit, blockA_goto, blockA_ret, Nat.reduceEqDiff, if_false, if_true, reduceIte]) | (refine awp_region tabOk rfl ?_; simp only [prep, pickO, List.map_cons, List.map_nil, List.getElem?_toArray, List.getElem?_cons_succ, List.getElem?_cons_zero, Option.bind_some, Option.map_some]) | ((with_reducible apply awp_cond); (focus (simp only [St.ev, St.set, upd, Nat.reduceEqDiff, reduceIte, if_false, if_true, hNm, Nat.add_eq_left, Nat.left_eq_add, Nat.add_assoc, Nat.reduceAdd, if_false, if_true]; exact rfl)); all_goals (intro hb; first | (cases hb; done) | ((try rw [hb]); (try simp only [decide_eq_true_eq, decide_eq_false_iff_not, beq_iff_eq, bne_iff_ne, beq_eq_false_iff_ne, bne_eq_false_iff_eq, Int.not_lt, Int.not_le, Bool.not_eq_true', Bool.not_eq_false'] at hb)))) | ((with_reducible refine And.intro ?_ ?_); (focus omega)) | ((with_reducible refine And.intro (?_ : enters Try.prog 61) ?_); (focus exact Try.call61); (refine callX_satR pileFor_sat ?_); simp only [viewsKR, viewKR, rowsK, go_sem, and_assoc, List.nil_append, List.append_nil, List.cons_append, Nat.reduceEqDiff, reduceIte, reduceCtorEq, hNm, Nat.add_eq_left, Nat.left_eq_add, Nat.add_assoc, Nat.reduceAdd, if_false, if_true, hNm, hsl, hst, List.drop_zero, hv]) | fail))
    · refine rowsK_gat hR.gat _ ⟨xss, rfl, by omega, fun j hj => by have := hpr j hj; omega, ?_⟩
      rcases Nat.lt_or_ge (pilA xss (xs.getD i 0)) xss.length with hkl | hkl
      · have hput := pilPut_old rfl hkl
        generalize hka : pilA xss (xs.getD i 0) = k at *
        have hget := hR.get hkl
        have hrow := hR.row k hkl
        have hlt := hR.lt k hkl
        have hfk0 := hf0 k hkl
        have hln := hpr k hkl
        have hxl : (pilTo xs (i + 1)).length = xss.length := by rw [hup, hput, List.length_set]
        generalize hfk : f k = r at *
        have r1 : (r = n) = False := eq_false (by omega)
        have r2 : ∀ k, (r = n + k) = False := fun k => eq_false (by omega)
        have r3 : (n = r) = False := eq_false (by omega)
        have r4 : ∀ k, (n + k = r) = False := fun k => eq_false (by omega)
        have r5 : (r = O) = False := eq_false hlt.2
        have r6 : (O = r) = False := eq_false (Ne.symm hlt.2)
        have r7 : (r = 0) = False := eq_false hfk0
        have r8 : (0 = r) = False := eq_false (Ne.symm hfk0)
        have hNr := And.intro hrow (And.intro r1 (And.intro r2 (And.intro r3 (And.intro r4 (And.intro r5 (And.intro r6 (And.intro r7 r8)))))))
        generalize hrk : xss.getD k [] = row at *


        repeat' (first | refine awp_seq_k fun K hK => ?_ | ((with_reducible refine hK _ ?_); clear hK K) | ((with_reducible refine aord_plain fun K hK => ?_); simp only [go_sem, Nat.reduceAdd, Nat.reduceMul, Nat.reduceEqDiff, Nat.reduceLT, reduceIte, reduceCtorEq, hNm, hNr, Nat.add_eq_left, Nat.left_eq_add, Nat.add_assoc, Nat.reduceAdd, if_false, if_true, hNm, hsl, hget, hNr]) | ((first | with_reducible refine aord_nil ?_ | refine awp_skip ?_ | refine awp_exit ?_ | refine awp_ret ?_); try simp only [thenA_normal, thenA_exit, thenA_goto, thenA_ret, blockA_normal, blockA_same, blockA_exit, blockA_goto, blockA_ret, Nat.reduceEqDiff, if_false, if_true, reduceIte]) | (refine awp_region tabOk rfl ?_; simp only [prep, pickO, List.map_cons, List.map_nil, List.getElem?_toArray, List.getElem?_cons_succ, List.getElem?_cons_zero, Option.bind_some, Option.map_some]) | ((with_reducible apply awp_cond); (focus (simp only [St.ev, St.set, upd, Nat.reduceEqDiff, reduceIte, if_false, if_true, hNm, hNr, Nat.add_eq_left, Nat.left_eq_add, Nat.add_assoc, Nat.reduceAdd, if_false, if_true]; exact rfl)); all_goals (intro hb; first | (cases hb; done) | ((try rw [hb]); (try simp only [decide_eq_true_eq, decide_eq_false_iff_not, beq_iff_eq, bne_iff_ne, beq_eq_false_iff_ne, bne_eq_false_iff_eq, Int.not_lt, Int.not_le, Bool.not_eq_true', Bool.not_eq_false'] at hb)))) | ((with_reducible refine And.intro ?_ ?_); (focus omega)) | (refine aAppend_ints rfl rfl rfl rfl (Nat.le_of_ble_eq_true rfl) (by simp only [St.ev, St.set, upd, Nat.reduceEqDiff, reduceIte, if_false, if_true, hNm, hNr, Nat.add_eq_left, Nat.left_eq_add, Nat.add_assoc, Nat.reduceAdd, if_false, if_true]; exact rfl) (by simp only [St.ev, St.set, upd, Nat.reduceEqDiff, reduceIte, if_false, if_true, hNm, hNr, Nat.add_eq_left, Nat.left_eq_add, Nat.add_assoc, Nat.reduceAdd, if_false, if_true]; exact rfl) rfl (by first | decide | omega | (simp; done) | fail) ?_ ?_ ?_ ?_; (focus (first | rfl | omega | (simp; done) | (simp; omega) | (simp [szOf, tab]; done) | (simp [szOf, tab]; omega))); (focus (first | rfl | omega | (simp; done) | (simp; omega) | (simp [szOf, tab]; done) | (simp [szOf, tab]; omega))); (focus (first | rfl | omega | (simp; done) | (simp; omega) | (simp [szOf, tab]; done) | (simp [szOf, tab]; omega))); (try simp only [go_sem, Nat.reduceAdd, Nat.reduceMul, Nat.reduceEqDiff, Nat.reduceLT, reduceIte, reduceCtorEq, hNm, hNr, Nat.add_eq_left, Nat.left_eq_add, Nat.add_assoc, Nat.reduceAdd, if_false, if_true])) | (simp only [aAppendZ, go_sem, Nat.reduceAdd, Nat.reduceMul, Nat.reduceEqDiff, Nat.reduceLT, reduceIte, reduceCtorEq, hNm, hNr, Nat.add_eq_left, Nat.left_eq_add, Nat.add_assoc, Nat.reduceAdd, if_false, if_true, hNm, hsl, hget, hNr]) | (exfalso; omega) | fail)
        refine ⟨(upd (upd (upd (upd H n (some ⟨true, .ints .i64 [xs.getD i 0]⟩)) r none) (n + 1) (some ⟨true, .ints .i64 (row ++ [xs.getD i 0])⟩)) O (some ⟨true, .cells ((slsN f 0 xss).set k (.sl (n + 1) 0 (row.length + 1) 1 none))⟩), n + 2, O, (fun j => if j = k then n + 1 else f j), i + 1), ⟨by dsimp only; omega, ?_, hO0, ?_, ?_⟩, by dsimp only; omega, Wk.sub (tsb (tsb (tsb (tsb tsb0 rfl) rfl) rfl) (by rw [hxl]; rfl)) (fun _ _ h => h) rfl⟩
        · (try dsimp only); (repeat (first | rw [upd_same] | rw [upd_ne _ _ (by omega)]))
          exact H0
        · dsimp only
          rw [hup, hput, ← hrk]
          refine hR.set hkl ?_ ?_ (fun u h1 h2 h3 => ?_)
          · (try dsimp only); (repeat (first | rw [upd_same] | rw [upd_ne _ _ (by omega)]))
          · (try dsimp only); (repeat (first | rw [upd_same] | rw [upd_ne _ _ (by omega)]))
          · rw [hfk] at h3; (try dsimp only); (repeat (first | rw [upd_same] | rw [upd_ne _ _ (by omega)]))
        · intro j hj
          dsimp only at hj ⊢
          rw [hxl] at hj
          have := hf0 j hj
          split <;> omega
      · have hke : pilA xss (xs.getD i 0) = xss.length := by omega
        have hput := pilPut_new hke
        have hxl : (pilTo xs (i + 1)).length = xss.length + 1 := by rw [hup, hput, List.length_append]; rfl
        have hgn : (slsN f 0 xss ++ [AV.val (.slice none 0 0)])[xss.length]? = some (AV.val (.slice none 0 0)) := by rw [List.getElem?_append_right (by omega), hsl, Nat.sub_self]; rfl
        have hgl : (slsN f 0 xss ++ [AV.val (.slice none 0 0)]).length = xss.length + 1 := by rw [List.length_append, hsl]; rfl
        rw [hke]


        repeat' (first | refine awp_seq_k fun K hK => ?_ | ((with_reducible refine hK _ ?_); clear hK K) | ((with_reducible refine aord_plain fun K hK => ?_); simp only [go_sem, Nat.reduceAdd, Nat.reduceMul, Nat.reduceEqDiff, Nat.reduceLT, reduceIte, reduceCtorEq, hNm, Nat.add_eq_left, Nat.left_eq_add, Nat.add_assoc, Nat.reduceAdd, if_false, if_true, hNm, hsl, hgn, hgl]) | ((first | with_reducible refine aord_nil ?_ | refine awp_skip ?_ | refine awp_exit ?_ | refine awp_ret ?_); try simp only [thenA_normal, thenA_exit, thenA_goto, thenA_ret, blockA_normal, blockA_same, blockA_exit, blockA_goto, blockA_ret, Nat.reduceEqDiff, if_false, if_true, reduceIte]) | (refine awp_region tabOk rfl ?_; simp only [prep, pickO, List.map_cons, List.map_nil, List.getElem?_toArray, List.getElem?_cons_succ, List.getElem?_cons_zero, Option.bind_some, Option.map_some]) | ((with_reducible apply awp_cond); (focus (simp only [St.ev, St.set, upd, Nat.reduceEqDiff, reduceIte, if_false, if_true, hNm, Nat.add_eq_left, Nat.left_eq_add, Nat.add_assoc, Nat.reduceAdd, if_false, if_true]; exact rfl)); all_goals (intro hb; first | (cases hb; done) | ((try rw [hb]); (try simp only [decide_eq_true_eq, decide_eq_false_iff_not, beq_iff_eq, bne_iff_ne, beq_eq_false_iff_ne, bne_eq_false_iff_eq, Int.not_lt, Int.not_le, Bool.not_eq_true', Bool.not_eq_false'] at hb)))) | ((with_reducible refine And.intro ?_ ?_); (focus omega)) | fail)
        refine aAppend_cells rfl rfl rfl rfl (Nat.le_of_ble_eq_true rfl) (by (try dsimp only); (repeat (first | rw [upd_same] | rw [upd_ne _ _ (by omega)]))) (by (try dsimp only); (repeat (first | rw [upd_same] | rw [upd_ne _ _ (by omega)])); exact hO) (by omega) hsl rfl (by omega) ?_
        repeat' (first | ((with_reducible refine hK _ ?_); clear hK K) | ((with_reducible refine aord_plain fun K hK => ?_); simp only [go_sem, Nat.reduceAdd, Nat.reduceMul, Nat.reduceEqDiff, Nat.reduceLT, reduceIte, reduceCtorEq, hNm, Nat.add_eq_left, Nat.left_eq_add, Nat.add_assoc, Nat.reduceAdd, if_false, if_true, hNm, hsl, hgn, hgl]) | ((first | with_reducible refine aord_nil ?_ | refine awp_skip ?_ | refine awp_exit ?_ | refine awp_ret ?_); try simp only [thenA_normal, thenA_exit, thenA_goto, thenA_ret, blockA_normal, blockA_same, blockA_exit, blockA_goto, blockA_ret, Nat.reduceEqDiff, if_false, if_true, reduceIte]) | (refine awp_region tabOk rfl ?_; simp only [prep, pickO, List.map_cons, List.map_nil, List.getElem?_toArray, List.getElem?_cons_succ, List.getElem?_cons_zero, Option.bind_some, Option.map_some]) | ((with_reducible refine And.intro ?_ ?_); (focus omega)) | (refine aAppend_none rfl rfl rfl rfl (Nat.le_of_ble_eq_true rfl) (by simp only [St.ev, St.set, upd, Nat.reduceEqDiff, reduceIte, if_false, if_true, hNm, Nat.add_eq_left, Nat.left_eq_add, Nat.add_assoc, Nat.reduceAdd, if_false, if_true]; exact rfl) ?_ ?_ ?_; (focus (first | rfl | omega | (simp; done) | (simp; omega) | (simp [szOf, tab]; done) | (simp [szOf, tab]; omega))); (focus (first | rfl | omega | (simp; done) | (simp; omega) | (simp [szOf, tab]; done) | (simp [szOf, tab]; omega))); (try simp only [go_sem, Nat.reduceAdd, Nat.reduceMul, Nat.reduceEqDiff, Nat.reduceLT, reduceIte, reduceCtorEq, hNm, Nat.add_eq_left, Nat.left_eq_add, Nat.add_assoc, Nat.reduceAdd, if_false, if_true])) | (simp only [aAppendZ, go_sem, Nat.reduceAdd, Nat.reduceMul, Nat.reduceEqDiff, Nat.reduceLT, reduceIte, reduceCtorEq, hNm, Nat.add_eq_left, Nat.left_eq_add, Nat.add_assoc, Nat.reduceAdd, if_false, if_true, hNm, hsl, hgn, hgl]) | fail)
        have hset : (slsN f 0 xss ++ [AV.val (.slice none 0 0)]).set xss.length (.sl (n + 3) 0 1 1 none) = slsN f 0 xss ++ [.sl (n + 3) 0 1 1 none] := by rw [List.set_append_right _ _ (by omega), hsl, Nat.sub_self]; rfl
        refine ⟨(upd (upd (upd (upd (upd (upd H n (some ⟨true, .cells [.val (.slice none 0 0)]⟩)) O none) (n + 1) (some ⟨true, .cells (slsN f 0 xss ++ [AV.val (.slice none 0 0)])⟩)) (n + 2) (some ⟨true, .ints .i64 [xs.getD i 0]⟩)) (n + 3) (some ⟨true, .ints .i64 [xs.getD i 0]⟩)) (n + 1) (some ⟨true, .cells ((slsN f 0 xss ++ [AV.val (.slice none 0 0)]).set xss.length (.sl (n + 3) 0 1 1 none))⟩), n + 4, n + 1, (fun j => if j = xss.length then n + 3 else f j), i + 1), ⟨by dsimp only; omega, ?_, by dsimp only; omega, ?_, ?_⟩, by dsimp only; omega, Wk.sub (tsb (tsb (tsb (tsb tsb0 rfl) rfl) rfl) (by rw [hxl]; rfl)) (fun _ _ h => h) rfl⟩
        · (try dsimp only); (repeat (first | rw [upd_same] | rw [upd_ne _ _ (by omega)]))
          exact H0
        · dsimp only
          rw [hup, hput]
          refine hR.push2 (m := n + 3) (r := [xs.getD i 0]) (by omega) (by omega) (by omega) (by omega) (by omega) ?_ ?_ (fun u h1 h2 => ?_)
          · (try dsimp only); (repeat (first | rw [upd_same] | rw [upd_ne _ _ (by omega)]))
            rw [hset]; rfl
          · (try dsimp only); (repeat (first | rw [upd_same] | rw [upd_ne _ _ (by omega)]))
          · (try dsimp only); (repeat (first | rw [upd_same] | rw [upd_ne _ _ (by omega)]))
        · intro j hj
          dsimp only at hj ⊢
          rw [hxl] at hj
          by_cases c : j = xss.length
          · rw [if_pos c]; omega
          · rw [if_neg c]; exact hf0 j (by omega)
    · skip
      have hie : i = xs.length := by omega
      subst hie
      rw [hxss] at hQ
      refine awp_gather (ik := .i64) (len := xss.length) 2 O (by simp only [upd, Nat.reduceEqDiff, if_true, if_false, reduceIte]) hO hR.gat hR.nodup ?_


      repeat' (first | ((first | with_reducible refine aord_nil ?_ | refine awp_skip ?_ | refine awp_exit ?_ | refine awp_ret ?_); try simp only [thenA_normal, thenA_exit, thenA_goto, thenA_ret, blockA_normal, blockA_same, blockA_exit, blockA_goto, blockA_ret, Nat.reduceEqDiff, if_false, if_true, reduceIte]) | fail)
      simp only [St.set, St.ev, doneQ, doneH, ressK, resK, wrapR, AV.ids, AV.idsL, retK, retsK, upd, Nat.reduceEqDiff, reduceIte, if_false, if_true, List.nodup_nil, List.nodup_cons, List.not_mem_nil, not_false_eq_true, true_and, and_true, exists_eq_left', Option.some.injEq, rLoad, cellOf, tab, Ty.isAgg, Ty.one, Bool.false_eq_true]
      exact ⟨rfl, by simp only [Cont.len], hQ⟩

theorem ba_loop (bs : ByteArray) : ∀ (k i : Nat) (r : List UInt8), bs.size - i = k → ByteArray.toList.loop bs i r = r.reverse ++ bs.data.toList.drop i := by
  intro k
  induction k with
  | zero => intro i r h; rw [ByteArray.toList.loop]; rw [if_neg (by omega), List.drop_of_length_le (by simp only [Array.length_toList]; show bs.size ≤ i; omega), List.append_nil]
  | succ k ih =>
    intro i r h
    rw [ByteArray.toList.loop, if_pos (by omega), ih (i + 1) _ (by omega)]
    have hlt : i < bs.data.toList.length := by simp only [Array.length_toList]; show i < bs.size; omega
    have hl2 : i < bs.data.size := by simpa using hlt
    rw [List.drop_eq_getElem_cons hlt, List.reverse_cons, List.append_assoc]
    congr 1
    simp only [List.singleton_append, List.cons.injEq, and_true]
    show bs.data[i]! = _
    rw [getElem!_pos bs.data i hl2]; simp
theorem ba_data (bs : ByteArray) : bs.toList = bs.data.toList := by
  have := ba_loop bs _ 0 [] rfl
  simpa [ByteArray.toList] using this
theorem ba_bd (a b : ByteArray) : (a == b) = (a.data == b.data) := rfl
theorem ba_lbeq (a b : ByteArray) : (a.toList == b.toList) = decide (a = b) := by
  rw [ba_data, ba_data]
  rw [Bool.eq_iff_iff, beq_iff_eq, decide_eq_true_eq]
  cases a; cases b; simp
theorem ba_beq (a b : ByteArray) : (a == b) = decide (a = b) := by
  rw [ba_bd, Bool.eq_iff_iff, beq_iff_eq, decide_eq_true_eq]
  cases a; cases b; simp
abbrev nm_inversions : ByteArray := (⟨#[105, 110, 118, 101, 114, 115, 105, 111, 110, 115]⟩ : ByteArray)
abbrev nm_runs : ByteArray := (⟨#[114, 117, 110, 115]⟩ : ByteArray)
abbrev nm_removals : ByteArray := (⟨#[114, 101, 109, 111, 118, 97, 108, 115]⟩ : ByteArray)
abbrev nm_exchanges : ByteArray := (⟨#[101, 120, 99, 104, 97, 110, 103, 101, 115]⟩ : ByteArray)
abbrev nm_misplaced : ByteArray := (⟨#[109, 105, 115, 112, 108, 97, 99, 101, 100]⟩ : ByteArray)
abbrev nm_farthest : ByteArray := (⟨#[102, 97, 114, 116, 104, 101, 115, 116]⟩ : ByteArray)
abbrev nm_widest : ByteArray := (⟨#[119, 105, 100, 101, 115, 116]⟩ : ByteArray)
abbrev nm_piles : ByteArray := (⟨#[112, 105, 108, 101, 115]⟩ : ByteArray)
abbrev nm_swings : ByteArray := (⟨#[115, 119, 105, 110, 103, 115]⟩ : ByteArray)
abbrev nm_breaks : ByteArray := (⟨#[98, 114, 101, 97, 107, 115]⟩ : ByteArray)
/-- The measure of a name. -/
def meaV (k : ByteArray) (xs : List Int) : Option Int :=
  if k = nm_inversions then some (invTo xs xs.length)
  else if k = nm_runs then some (max (((runsTo xs xs.length).length : Int) - 1) 0)
  else if k = nm_removals then some ((xs.length : Int) - ((riseTo xs xs.length).length : Int))
  else if k = nm_exchanges then some ((xs.length : Int) - cirN xs xs.length)
  else if k = nm_misplaced then some (misN (placesL xs) xs.length)
  else if k = nm_farthest then some (farN (placesL xs) xs.length)
  else if k = nm_widest then some (widTo xs xs.length)
  else if k = nm_piles then some (max (((pilTo xs xs.length).length : Int) - 1) 0)
  else if k = nm_swings then some (swTo xs (xs.length - 1))
  else if k = nm_breaks then some (brkN (brkL xs) (xs.length + 1))
  else none
theorem meaV_inversions (xs : List Int) : meaV nm_inversions xs = some (invTo xs xs.length) := by unfold meaV; rw [if_pos rfl]
theorem meaV_runs (xs : List Int) : meaV nm_runs xs = some (max (((runsTo xs xs.length).length : Int) - 1) 0) := by unfold meaV; rw [if_neg (by decide), if_pos rfl]
theorem meaV_removals (xs : List Int) : meaV nm_removals xs = some ((xs.length : Int) - ((riseTo xs xs.length).length : Int)) := by unfold meaV; rw [if_neg (by decide), if_neg (by decide), if_pos rfl]
theorem meaV_exchanges (xs : List Int) : meaV nm_exchanges xs = some ((xs.length : Int) - cirN xs xs.length) := by unfold meaV; rw [if_neg (by decide), if_neg (by decide), if_neg (by decide), if_pos rfl]
theorem meaV_misplaced (xs : List Int) : meaV nm_misplaced xs = some (misN (placesL xs) xs.length) := by unfold meaV; rw [if_neg (by decide), if_neg (by decide), if_neg (by decide), if_neg (by decide), if_pos rfl]
theorem meaV_farthest (xs : List Int) : meaV nm_farthest xs = some (farN (placesL xs) xs.length) := by unfold meaV; rw [if_neg (by decide), if_neg (by decide), if_neg (by decide), if_neg (by decide), if_neg (by decide), if_pos rfl]
theorem meaV_widest (xs : List Int) : meaV nm_widest xs = some (widTo xs xs.length) := by unfold meaV; rw [if_neg (by decide), if_neg (by decide), if_neg (by decide), if_neg (by decide), if_neg (by decide), if_neg (by decide), if_pos rfl]
theorem meaV_piles (xs : List Int) : meaV nm_piles xs = some (max (((pilTo xs xs.length).length : Int) - 1) 0) := by unfold meaV; rw [if_neg (by decide), if_neg (by decide), if_neg (by decide), if_neg (by decide), if_neg (by decide), if_neg (by decide), if_neg (by decide), if_pos rfl]
theorem meaV_swings (xs : List Int) : meaV nm_swings xs = some (swTo xs (xs.length - 1)) := by unfold meaV; rw [if_neg (by decide), if_neg (by decide), if_neg (by decide), if_neg (by decide), if_neg (by decide), if_neg (by decide), if_neg (by decide), if_neg (by decide), if_pos rfl]
theorem meaV_breaks (xs : List Int) : meaV nm_breaks xs = some (brkN (brkL xs) (xs.length + 1)) := by unfold meaV; rw [if_neg (by decide), if_neg (by decide), if_neg (by decide), if_neg (by decide), if_neg (by decide), if_neg (by decide), if_neg (by decide), if_neg (by decide), if_neg (by decide), if_pos rfl]
theorem meaV_none {k : ByteArray} (xs : List Int) (h0 : k ≠ nm_inversions) (h1 : k ≠ nm_runs) (h2 : k ≠ nm_removals) (h3 : k ≠ nm_exchanges) (h4 : k ≠ nm_misplaced) (h5 : k ≠ nm_farthest) (h6 : k ≠ nm_widest) (h7 : k ≠ nm_piles) (h8 : k ≠ nm_swings) (h9 : k ≠ nm_breaks) : meaV k xs = none := by unfold meaV; rw [if_neg h0, if_neg h1, if_neg h2, if_neg h3, if_neg h4, if_neg h5, if_neg h6, if_neg h7, if_neg h8, if_neg h9]
def meaW (k : ByteArray) (xs : List Int) : Int := if validB xs then (meaV k xs).getD 0 else 0
def meaB (k : ByteArray) (xs : List Int) : Bool := validB xs && (meaV k xs).isSome


theorem specMeasure_sat : Sat Try.prog 17 (fun ds Q => ∃ (k : ByteArray) (xs : List Int), ds = [.val (.string (k)), .row (.ints .i64 (xs))] ∧ (validB xs = true) ∧ Q (.tup [.val (.int .i64 (((meaV k xs).getD 0))), .val (.bool ((meaV k xs).isSome))])) := by
  refine sat_intro tabOk Try.func17 rfl 61 rfl [.tmp 4, .tmp 5] rfl ?_
  rintro ds Q W ⟨k, xs, rfl, hv, hQ⟩
  refine ⟨Nat.le_of_ble_eq_true rfl, ?_⟩
  simp only [initS, initT, mat.matL, mat, Cont.len]
  have h8 := valid_len hv
  have hrl := riseTo_len xs xs.length
  have hrn := (runsTo_len xs xs.length).1
  have hci := cirN_in xs xs.length
  have hpl := placesL_len xs
  have hpi := (pil_in (xs := xs) xs.length).1
  by_cases h0 : k = nm_inversions
  subst h0
  rw [meaV_inversions] at hQ
  have g0 : decide (nm_inversions = (⟨#[105, 110, 118, 101, 114, 115, 105, 111, 110, 115]⟩ : ByteArray)) = true := by decide
  have g1 : decide (nm_inversions = (⟨#[114, 117, 110, 115]⟩ : ByteArray)) = false := by decide
  have g2 : decide (nm_inversions = (⟨#[114, 101, 109, 111, 118, 97, 108, 115]⟩ : ByteArray)) = false := by decide
  have g3 : decide (nm_inversions = (⟨#[101, 120, 99, 104, 97, 110, 103, 101, 115]⟩ : ByteArray)) = false := by decide
  have g4 : decide (nm_inversions = (⟨#[109, 105, 115, 112, 108, 97, 99, 101, 100]⟩ : ByteArray)) = false := by decide
  have g5 : decide (nm_inversions = (⟨#[102, 97, 114, 116, 104, 101, 115, 116]⟩ : ByteArray)) = false := by decide
  have g6 : decide (nm_inversions = (⟨#[119, 105, 100, 101, 115, 116]⟩ : ByteArray)) = false := by decide
  have g7 : decide (nm_inversions = (⟨#[112, 105, 108, 101, 115]⟩ : ByteArray)) = false := by decide
  have g8 : decide (nm_inversions = (⟨#[115, 119, 105, 110, 103, 115]⟩ : ByteArray)) = false := by decide
  have g9 : decide (nm_inversions = (⟨#[98, 114, 101, 97, 107, 115]⟩ : ByteArray)) = false := by decide
  rotate_left
  by_cases h1 : k = nm_runs
  subst h1
  rw [meaV_runs] at hQ
  have g0 : decide (nm_runs = (⟨#[105, 110, 118, 101, 114, 115, 105, 111, 110, 115]⟩ : ByteArray)) = false := by decide
  have g1 : decide (nm_runs = (⟨#[114, 117, 110, 115]⟩ : ByteArray)) = true := by decide
  have g2 : decide (nm_runs = (⟨#[114, 101, 109, 111, 118, 97, 108, 115]⟩ : ByteArray)) = false := by decide
  have g3 : decide (nm_runs = (⟨#[101, 120, 99, 104, 97, 110, 103, 101, 115]⟩ : ByteArray)) = false := by decide
  have g4 : decide (nm_runs = (⟨#[109, 105, 115, 112, 108, 97, 99, 101, 100]⟩ : ByteArray)) = false := by decide
  have g5 : decide (nm_runs = (⟨#[102, 97, 114, 116, 104, 101, 115, 116]⟩ : ByteArray)) = false := by decide
  have g6 : decide (nm_runs = (⟨#[119, 105, 100, 101, 115, 116]⟩ : ByteArray)) = false := by decide
  have g7 : decide (nm_runs = (⟨#[112, 105, 108, 101, 115]⟩ : ByteArray)) = false := by decide
  have g8 : decide (nm_runs = (⟨#[115, 119, 105, 110, 103, 115]⟩ : ByteArray)) = false := by decide
  have g9 : decide (nm_runs = (⟨#[98, 114, 101, 97, 107, 115]⟩ : ByteArray)) = false := by decide
  rotate_left
  by_cases h2 : k = nm_removals
  subst h2
  rw [meaV_removals] at hQ
  have g0 : decide (nm_removals = (⟨#[105, 110, 118, 101, 114, 115, 105, 111, 110, 115]⟩ : ByteArray)) = false := by decide
  have g1 : decide (nm_removals = (⟨#[114, 117, 110, 115]⟩ : ByteArray)) = false := by decide
  have g2 : decide (nm_removals = (⟨#[114, 101, 109, 111, 118, 97, 108, 115]⟩ : ByteArray)) = true := by decide
  have g3 : decide (nm_removals = (⟨#[101, 120, 99, 104, 97, 110, 103, 101, 115]⟩ : ByteArray)) = false := by decide
  have g4 : decide (nm_removals = (⟨#[109, 105, 115, 112, 108, 97, 99, 101, 100]⟩ : ByteArray)) = false := by decide
  have g5 : decide (nm_removals = (⟨#[102, 97, 114, 116, 104, 101, 115, 116]⟩ : ByteArray)) = false := by decide
  have g6 : decide (nm_removals = (⟨#[119, 105, 100, 101, 115, 116]⟩ : ByteArray)) = false := by decide
  have g7 : decide (nm_removals = (⟨#[112, 105, 108, 101, 115]⟩ : ByteArray)) = false := by decide
  have g8 : decide (nm_removals = (⟨#[115, 119, 105, 110, 103, 115]⟩ : ByteArray)) = false := by decide
  have g9 : decide (nm_removals = (⟨#[98, 114, 101, 97, 107, 115]⟩ : ByteArray)) = false := by decide
  rotate_left
  by_cases h3 : k = nm_exchanges
  subst h3
  rw [meaV_exchanges] at hQ
  have g0 : decide (nm_exchanges = (⟨#[105, 110, 118, 101, 114, 115, 105, 111, 110, 115]⟩ : ByteArray)) = false := by decide
  have g1 : decide (nm_exchanges = (⟨#[114, 117, 110, 115]⟩ : ByteArray)) = false := by decide
  have g2 : decide (nm_exchanges = (⟨#[114, 101, 109, 111, 118, 97, 108, 115]⟩ : ByteArray)) = false := by decide
  have g3 : decide (nm_exchanges = (⟨#[101, 120, 99, 104, 97, 110, 103, 101, 115]⟩ : ByteArray)) = true := by decide
  have g4 : decide (nm_exchanges = (⟨#[109, 105, 115, 112, 108, 97, 99, 101, 100]⟩ : ByteArray)) = false := by decide
  have g5 : decide (nm_exchanges = (⟨#[102, 97, 114, 116, 104, 101, 115, 116]⟩ : ByteArray)) = false := by decide
  have g6 : decide (nm_exchanges = (⟨#[119, 105, 100, 101, 115, 116]⟩ : ByteArray)) = false := by decide
  have g7 : decide (nm_exchanges = (⟨#[112, 105, 108, 101, 115]⟩ : ByteArray)) = false := by decide
  have g8 : decide (nm_exchanges = (⟨#[115, 119, 105, 110, 103, 115]⟩ : ByteArray)) = false := by decide
  have g9 : decide (nm_exchanges = (⟨#[98, 114, 101, 97, 107, 115]⟩ : ByteArray)) = false := by decide
  rotate_left
  by_cases h4 : k = nm_misplaced
  subst h4
  rw [meaV_misplaced] at hQ
  have g0 : decide (nm_misplaced = (⟨#[105, 110, 118, 101, 114, 115, 105, 111, 110, 115]⟩ : ByteArray)) = false := by decide
  have g1 : decide (nm_misplaced = (⟨#[114, 117, 110, 115]⟩ : ByteArray)) = false := by decide
  have g2 : decide (nm_misplaced = (⟨#[114, 101, 109, 111, 118, 97, 108, 115]⟩ : ByteArray)) = false := by decide
  have g3 : decide (nm_misplaced = (⟨#[101, 120, 99, 104, 97, 110, 103, 101, 115]⟩ : ByteArray)) = false := by decide
  have g4 : decide (nm_misplaced = (⟨#[109, 105, 115, 112, 108, 97, 99, 101, 100]⟩ : ByteArray)) = true := by decide
  have g5 : decide (nm_misplaced = (⟨#[102, 97, 114, 116, 104, 101, 115, 116]⟩ : ByteArray)) = false := by decide
  have g6 : decide (nm_misplaced = (⟨#[119, 105, 100, 101, 115, 116]⟩ : ByteArray)) = false := by decide
  have g7 : decide (nm_misplaced = (⟨#[112, 105, 108, 101, 115]⟩ : ByteArray)) = false := by decide
  have g8 : decide (nm_misplaced = (⟨#[115, 119, 105, 110, 103, 115]⟩ : ByteArray)) = false := by decide
  have g9 : decide (nm_misplaced = (⟨#[98, 114, 101, 97, 107, 115]⟩ : ByteArray)) = false := by decide
  rotate_left
  by_cases h5 : k = nm_farthest
  subst h5
  rw [meaV_farthest] at hQ
  have g0 : decide (nm_farthest = (⟨#[105, 110, 118, 101, 114, 115, 105, 111, 110, 115]⟩ : ByteArray)) = false := by decide
  have g1 : decide (nm_farthest = (⟨#[114, 117, 110, 115]⟩ : ByteArray)) = false := by decide
  have g2 : decide (nm_farthest = (⟨#[114, 101, 109, 111, 118, 97, 108, 115]⟩ : ByteArray)) = false := by decide
  have g3 : decide (nm_farthest = (⟨#[101, 120, 99, 104, 97, 110, 103, 101, 115]⟩ : ByteArray)) = false := by decide
  have g4 : decide (nm_farthest = (⟨#[109, 105, 115, 112, 108, 97, 99, 101, 100]⟩ : ByteArray)) = false := by decide
  have g5 : decide (nm_farthest = (⟨#[102, 97, 114, 116, 104, 101, 115, 116]⟩ : ByteArray)) = true := by decide
  have g6 : decide (nm_farthest = (⟨#[119, 105, 100, 101, 115, 116]⟩ : ByteArray)) = false := by decide
  have g7 : decide (nm_farthest = (⟨#[112, 105, 108, 101, 115]⟩ : ByteArray)) = false := by decide
  have g8 : decide (nm_farthest = (⟨#[115, 119, 105, 110, 103, 115]⟩ : ByteArray)) = false := by decide
  have g9 : decide (nm_farthest = (⟨#[98, 114, 101, 97, 107, 115]⟩ : ByteArray)) = false := by decide
  rotate_left
  by_cases h6 : k = nm_widest
  subst h6
  rw [meaV_widest] at hQ
  have g0 : decide (nm_widest = (⟨#[105, 110, 118, 101, 114, 115, 105, 111, 110, 115]⟩ : ByteArray)) = false := by decide
  have g1 : decide (nm_widest = (⟨#[114, 117, 110, 115]⟩ : ByteArray)) = false := by decide
  have g2 : decide (nm_widest = (⟨#[114, 101, 109, 111, 118, 97, 108, 115]⟩ : ByteArray)) = false := by decide
  have g3 : decide (nm_widest = (⟨#[101, 120, 99, 104, 97, 110, 103, 101, 115]⟩ : ByteArray)) = false := by decide
  have g4 : decide (nm_widest = (⟨#[109, 105, 115, 112, 108, 97, 99, 101, 100]⟩ : ByteArray)) = false := by decide
  have g5 : decide (nm_widest = (⟨#[102, 97, 114, 116, 104, 101, 115, 116]⟩ : ByteArray)) = false := by decide
  have g6 : decide (nm_widest = (⟨#[119, 105, 100, 101, 115, 116]⟩ : ByteArray)) = true := by decide
  have g7 : decide (nm_widest = (⟨#[112, 105, 108, 101, 115]⟩ : ByteArray)) = false := by decide
  have g8 : decide (nm_widest = (⟨#[115, 119, 105, 110, 103, 115]⟩ : ByteArray)) = false := by decide
  have g9 : decide (nm_widest = (⟨#[98, 114, 101, 97, 107, 115]⟩ : ByteArray)) = false := by decide
  rotate_left
  by_cases h7 : k = nm_piles
  subst h7
  rw [meaV_piles] at hQ
  have g0 : decide (nm_piles = (⟨#[105, 110, 118, 101, 114, 115, 105, 111, 110, 115]⟩ : ByteArray)) = false := by decide
  have g1 : decide (nm_piles = (⟨#[114, 117, 110, 115]⟩ : ByteArray)) = false := by decide
  have g2 : decide (nm_piles = (⟨#[114, 101, 109, 111, 118, 97, 108, 115]⟩ : ByteArray)) = false := by decide
  have g3 : decide (nm_piles = (⟨#[101, 120, 99, 104, 97, 110, 103, 101, 115]⟩ : ByteArray)) = false := by decide
  have g4 : decide (nm_piles = (⟨#[109, 105, 115, 112, 108, 97, 99, 101, 100]⟩ : ByteArray)) = false := by decide
  have g5 : decide (nm_piles = (⟨#[102, 97, 114, 116, 104, 101, 115, 116]⟩ : ByteArray)) = false := by decide
  have g6 : decide (nm_piles = (⟨#[119, 105, 100, 101, 115, 116]⟩ : ByteArray)) = false := by decide
  have g7 : decide (nm_piles = (⟨#[112, 105, 108, 101, 115]⟩ : ByteArray)) = true := by decide
  have g8 : decide (nm_piles = (⟨#[115, 119, 105, 110, 103, 115]⟩ : ByteArray)) = false := by decide
  have g9 : decide (nm_piles = (⟨#[98, 114, 101, 97, 107, 115]⟩ : ByteArray)) = false := by decide
  rotate_left
  by_cases h8 : k = nm_swings
  subst h8
  rw [meaV_swings] at hQ
  have g0 : decide (nm_swings = (⟨#[105, 110, 118, 101, 114, 115, 105, 111, 110, 115]⟩ : ByteArray)) = false := by decide
  have g1 : decide (nm_swings = (⟨#[114, 117, 110, 115]⟩ : ByteArray)) = false := by decide
  have g2 : decide (nm_swings = (⟨#[114, 101, 109, 111, 118, 97, 108, 115]⟩ : ByteArray)) = false := by decide
  have g3 : decide (nm_swings = (⟨#[101, 120, 99, 104, 97, 110, 103, 101, 115]⟩ : ByteArray)) = false := by decide
  have g4 : decide (nm_swings = (⟨#[109, 105, 115, 112, 108, 97, 99, 101, 100]⟩ : ByteArray)) = false := by decide
  have g5 : decide (nm_swings = (⟨#[102, 97, 114, 116, 104, 101, 115, 116]⟩ : ByteArray)) = false := by decide
  have g6 : decide (nm_swings = (⟨#[119, 105, 100, 101, 115, 116]⟩ : ByteArray)) = false := by decide
  have g7 : decide (nm_swings = (⟨#[112, 105, 108, 101, 115]⟩ : ByteArray)) = false := by decide
  have g8 : decide (nm_swings = (⟨#[115, 119, 105, 110, 103, 115]⟩ : ByteArray)) = true := by decide
  have g9 : decide (nm_swings = (⟨#[98, 114, 101, 97, 107, 115]⟩ : ByteArray)) = false := by decide
  rotate_left
  by_cases h9 : k = nm_breaks
  subst h9
  rw [meaV_breaks] at hQ
  have g0 : decide (nm_breaks = (⟨#[105, 110, 118, 101, 114, 115, 105, 111, 110, 115]⟩ : ByteArray)) = false := by decide
  have g1 : decide (nm_breaks = (⟨#[114, 117, 110, 115]⟩ : ByteArray)) = false := by decide
  have g2 : decide (nm_breaks = (⟨#[114, 101, 109, 111, 118, 97, 108, 115]⟩ : ByteArray)) = false := by decide
  have g3 : decide (nm_breaks = (⟨#[101, 120, 99, 104, 97, 110, 103, 101, 115]⟩ : ByteArray)) = false := by decide
  have g4 : decide (nm_breaks = (⟨#[109, 105, 115, 112, 108, 97, 99, 101, 100]⟩ : ByteArray)) = false := by decide
  have g5 : decide (nm_breaks = (⟨#[102, 97, 114, 116, 104, 101, 115, 116]⟩ : ByteArray)) = false := by decide
  have g6 : decide (nm_breaks = (⟨#[119, 105, 100, 101, 115, 116]⟩ : ByteArray)) = false := by decide
  have g7 : decide (nm_breaks = (⟨#[112, 105, 108, 101, 115]⟩ : ByteArray)) = false := by decide
  have g8 : decide (nm_breaks = (⟨#[115, 119, 105, 110, 103, 115]⟩ : ByteArray)) = false := by decide
  have g9 : decide (nm_breaks = (⟨#[98, 114, 101, 97, 107, 115]⟩ : ByteArray)) = true := by decide
  rotate_left
  rw [meaV_none xs h0 h1 h2 h3 h4 h5 h6 h7 h8 h9] at hQ
  have g0 : decide (k = (⟨#[105, 110, 118, 101, 114, 115, 105, 111, 110, 115]⟩ : ByteArray)) = false := decide_eq_false h0
  have g1 : decide (k = (⟨#[114, 117, 110, 115]⟩ : ByteArray)) = false := decide_eq_false h1
  have g2 : decide (k = (⟨#[114, 101, 109, 111, 118, 97, 108, 115]⟩ : ByteArray)) = false := decide_eq_false h2
  have g3 : decide (k = (⟨#[101, 120, 99, 104, 97, 110, 103, 101, 115]⟩ : ByteArray)) = false := decide_eq_false h3
  have g4 : decide (k = (⟨#[109, 105, 115, 112, 108, 97, 99, 101, 100]⟩ : ByteArray)) = false := decide_eq_false h4
  have g5 : decide (k = (⟨#[102, 97, 114, 116, 104, 101, 115, 116]⟩ : ByteArray)) = false := decide_eq_false h5
  have g6 : decide (k = (⟨#[119, 105, 100, 101, 115, 116]⟩ : ByteArray)) = false := decide_eq_false h6
  have g7 : decide (k = (⟨#[112, 105, 108, 101, 115]⟩ : ByteArray)) = false := decide_eq_false h7
  have g8 : decide (k = (⟨#[115, 119, 105, 110, 103, 115]⟩ : ByteArray)) = false := decide_eq_false h8
  have g9 : decide (k = (⟨#[98, 114, 101, 97, 107, 115]⟩ : ByteArray)) = false := decide_eq_false h9

  repeat' (first | refine awp_seq_k fun K hK => ?_ | ((with_reducible refine hK _ ?_); clear hK K) | ((with_reducible refine aord_plain fun K hK => ?_); simp only [go_sem, Nat.reduceAdd, Nat.reduceMul, Nat.reduceEqDiff, Nat.reduceLT, reduceIte, reduceCtorEq, mat.matL, ba_lbeq, hv, g0, g1, g2, g3, g4, g5, g6, g7, g8, g9]) | refine awp_block ?_ | ((first | with_reducible refine aord_nil ?_ | refine awp_skip ?_ | refine awp_exit ?_ | refine awp_ret ?_); try simp only [thenA_normal, thenA_exit, thenA_goto, thenA_ret, blockA_normal, blockA_same, blockA_exit, blockA_goto, blockA_ret, Nat.reduceEqDiff, if_false, if_true, reduceIte]) | (refine awp_region tabOk rfl ?_; simp only [prep, pickO, List.map_cons, List.map_nil, List.getElem?_toArray, List.getElem?_cons_succ, List.getElem?_cons_zero, Option.bind_some, Option.map_some]) | ((with_reducible apply awp_cond); (focus (simp only [St.ev, St.set, upd, Nat.reduceEqDiff, reduceIte, if_false, if_true]; exact rfl)); all_goals (intro hb; first | (cases hb; done) | ((try rw [hb]); (try simp only [decide_eq_true_eq, decide_eq_false_iff_not, beq_iff_eq, bne_iff_ne, beq_eq_false_iff_ne, bne_eq_false_iff_eq, Int.not_lt, Int.not_le, Bool.not_eq_true', Bool.not_eq_false'] at hb)))) | ((with_reducible refine And.intro ?_ ?_); (focus omega)) | ((with_reducible refine And.intro (?_ : enters Try.prog 34) ?_); (focus exact Try.call34); (refine callX_sat specInversions_sat ?_); simp only [go_sem, and_assoc, List.nil_append, List.append_nil, List.cons_append, Nat.reduceEqDiff, reduceIte, reduceCtorEq, mat.matL, ba_lbeq, hv, g0, g1, g2, g3, g4, g5, g6, g7, g8, g9]) | ((with_reducible refine And.intro (?_ : enters Try.prog 35) ?_); (focus exact Try.call35); (refine callX_sat specRuns_sat ?_); simp only [go_sem, and_assoc, List.nil_append, List.append_nil, List.cons_append, Nat.reduceEqDiff, reduceIte, reduceCtorEq, mat.matL, ba_lbeq, hv, g0, g1, g2, g3, g4, g5, g6, g7, g8, g9]) | ((with_reducible refine And.intro (?_ : enters Try.prog 36) ?_); (focus exact Try.call36); (refine callX_sat specLongest_sat ?_); simp only [go_sem, and_assoc, List.nil_append, List.append_nil, List.cons_append, Nat.reduceEqDiff, reduceIte, reduceCtorEq, mat.matL, ba_lbeq, hv, g0, g1, g2, g3, g4, g5, g6, g7, g8, g9]) | ((with_reducible refine And.intro (?_ : enters Try.prog 38) ?_); (focus exact Try.call38); (refine callX_sat specPlaces_sat ?_); simp only [go_sem, and_assoc, List.nil_append, List.append_nil, List.cons_append, Nat.reduceEqDiff, reduceIte, reduceCtorEq, mat.matL, ba_lbeq, hv, g0, g1, g2, g3, g4, g5, g6, g7, g8, g9]) | ((with_reducible refine And.intro (?_ : enters Try.prog 37) ?_); (focus exact Try.call37); (refine callX_sat specCircles_sat ?_); simp only [go_sem, and_assoc, List.nil_append, List.append_nil, List.cons_append, Nat.reduceEqDiff, reduceIte, reduceCtorEq, mat.matL, ba_lbeq, hv, g0, g1, g2, g3, g4, g5, g6, g7, g8, g9]) | ((with_reducible refine And.intro (?_ : enters Try.prog 39) ?_); (focus exact Try.call39); (refine callX_sat specMisplaced_sat ?_); simp only [go_sem, and_assoc, List.nil_append, List.append_nil, List.cons_append, Nat.reduceEqDiff, reduceIte, reduceCtorEq, mat.matL, ba_lbeq, hv, g0, g1, g2, g3, g4, g5, g6, g7, g8, g9]) | ((with_reducible refine And.intro (?_ : enters Try.prog 40) ?_); (focus exact Try.call40); (refine callX_sat specFarthest_sat ?_); simp only [go_sem, and_assoc, List.nil_append, List.append_nil, List.cons_append, Nat.reduceEqDiff, reduceIte, reduceCtorEq, mat.matL, ba_lbeq, hv, g0, g1, g2, g3, g4, g5, g6, g7, g8, g9]) | ((with_reducible refine And.intro (?_ : enters Try.prog 41) ?_); (focus exact Try.call41); (refine callX_sat specWidest_sat ?_); simp only [go_sem, and_assoc, List.nil_append, List.append_nil, List.cons_append, Nat.reduceEqDiff, reduceIte, reduceCtorEq, mat.matL, ba_lbeq, hv, g0, g1, g2, g3, g4, g5, g6, g7, g8, g9]) | ((with_reducible refine And.intro (?_ : enters Try.prog 42) ?_); (focus exact Try.call42); (refine callX_sat specPiles_sat ?_); simp only [go_sem, and_assoc, List.nil_append, List.append_nil, List.cons_append, Nat.reduceEqDiff, reduceIte, reduceCtorEq, mat.matL, ba_lbeq, hv, g0, g1, g2, g3, g4, g5, g6, g7, g8, g9]) | ((with_reducible refine And.intro (?_ : enters Try.prog 43) ?_); (focus exact Try.call43); (refine callX_sat specSwings_sat ?_); simp only [go_sem, and_assoc, List.nil_append, List.append_nil, List.cons_append, Nat.reduceEqDiff, reduceIte, reduceCtorEq, mat.matL, ba_lbeq, hv, g0, g1, g2, g3, g4, g5, g6, g7, g8, g9]) | ((with_reducible refine And.intro (?_ : enters Try.prog 44) ?_); (focus exact Try.call44); (refine callX_sat specBreaks_sat ?_); simp only [go_sem, and_assoc, List.nil_append, List.append_nil, List.cons_append, Nat.reduceEqDiff, reduceIte, reduceCtorEq, mat.matL, ba_lbeq, hv, g0, g1, g2, g3, g4, g5, g6, g7, g8, g9]) | fail)
  all_goals try (refine ⟨xs, rfl, h8, ?_⟩)
  repeat' (first | ((with_reducible refine hK _ ?_); clear hK K) | ((with_reducible refine aord_plain fun K hK => ?_); simp only [go_sem, Nat.reduceAdd, Nat.reduceMul, Nat.reduceEqDiff, Nat.reduceLT, reduceIte, reduceCtorEq, mat.matL, ba_lbeq, hv, g0, g1, g2, g3, g4, g5, g6, g7, g8, g9]) | ((first | with_reducible refine aord_nil ?_ | refine awp_skip ?_ | refine awp_exit ?_ | refine awp_ret ?_); try simp only [thenA_normal, thenA_exit, thenA_goto, thenA_ret, blockA_normal, blockA_same, blockA_exit, blockA_goto, blockA_ret, Nat.reduceEqDiff, if_false, if_true, reduceIte]) | ((with_reducible refine And.intro ?_ ?_); (focus omega)) | fail)
  all_goals (simp only [St.set, St.ev, doneQ, doneH, ressK, resK, wrapR, AV.ids, AV.idsL, retK, retsK, upd, Nat.reduceEqDiff, reduceIte, if_false, if_true, List.nodup_nil, List.nodup_cons, List.not_mem_nil, not_false_eq_true, true_and, and_true, exists_eq_left', Option.some.injEq, rLoad, cellOf, tab, Ty.isAgg, Ty.one, Bool.false_eq_true]; exact ⟨by decide, hQ⟩)


theorem specMeasureOf_sat : Sat Try.prog 7 (fun ds Q => ∃ (k : ByteArray) (xs : List Int), ds = [.val (.string (k)), .row (.ints .i64 (xs))] ∧ (xs.length ≤ 1099511627776) ∧ Q (.tup [.val (.int .i64 ((meaW k xs))), .val (.bool ((meaB k xs)))])) := by
  refine sat_intro tabOk Try.func7 rfl 14 rfl [.tmp 4, .tmp 5] rfl ?_
  rintro ds Q W ⟨k, xs, rfl, hlen, hQ⟩
  refine ⟨Nat.le_of_ble_eq_true rfl, ?_⟩
  simp only [initS, initT, mat.matL, mat, Cont.len]
  cases hv : validB xs with
  | false =>
    have e1 : meaW k xs = 0 := by unfold meaW; rw [hv]; rfl
    have e2 : meaB k xs = false := by unfold meaB; rw [hv]; rfl
    rw [e1, e2] at hQ

    repeat' (first | refine awp_seq_k fun K hK => ?_ | ((with_reducible refine hK _ ?_); clear hK K) | ((with_reducible refine aord_plain fun K hK => ?_); simp only [go_sem, Nat.reduceAdd, Nat.reduceMul, Nat.reduceEqDiff, Nat.reduceLT, reduceIte, reduceCtorEq, mat.matL, hv, Value.string.injEq]) | ((first | with_reducible refine aord_nil ?_ | refine awp_skip ?_ | refine awp_exit ?_ | refine awp_ret ?_); try simp only [thenA_normal, thenA_exit, thenA_goto, thenA_ret, blockA_normal, blockA_same, blockA_exit, blockA_goto, blockA_ret, Nat.reduceEqDiff, if_false, if_true, reduceIte]) | (refine awp_region tabOk rfl ?_; simp only [prep, pickO, List.map_cons, List.map_nil, List.getElem?_toArray, List.getElem?_cons_succ, List.getElem?_cons_zero, Option.bind_some, Option.map_some]) | ((with_reducible apply awp_cond); (focus (simp only [St.ev, St.set, upd, Nat.reduceEqDiff, reduceIte, if_false, if_true]; exact rfl)); all_goals (intro hb; first | (cases hb; done) | ((try rw [hb]); (try simp only [decide_eq_true_eq, decide_eq_false_iff_not, beq_iff_eq, bne_iff_ne, beq_eq_false_iff_ne, bne_eq_false_iff_eq, Int.not_lt, Int.not_le, Bool.not_eq_true', Bool.not_eq_false'] at hb)))) | ((with_reducible refine And.intro ?_ ?_); (focus omega)) | ((with_reducible refine And.intro (?_ : enters Try.prog 16) ?_); (focus exact Try.call16); (refine callX_sat validKeys_sat ?_); simp only [go_sem, and_assoc, List.nil_append, List.append_nil, List.cons_append, Nat.reduceEqDiff, reduceIte, reduceCtorEq, mat.matL, hv, Value.string.injEq]) | fail)
    all_goals (simp only [St.set, St.ev, doneQ, doneH, ressK, resK, wrapR, AV.ids, AV.idsL, retK, retsK, upd, Nat.reduceEqDiff, reduceIte, if_false, if_true, List.nodup_nil, List.nodup_cons, List.not_mem_nil, not_false_eq_true, true_and, and_true, exists_eq_left', Option.some.injEq, rLoad, cellOf, tab, Ty.isAgg, Ty.one, Bool.false_eq_true]; exact ⟨by decide, hQ⟩)
  | true =>
    have e1 : meaW k xs = (meaV k xs).getD 0 := by unfold meaW; rw [hv]; rfl
    have e2 : meaB k xs = (meaV k xs).isSome := by unfold meaB; rw [hv]; rfl
    rw [e1, e2] at hQ

    repeat' (first | refine awp_seq_k fun K hK => ?_ | ((with_reducible refine hK _ ?_); clear hK K) | ((with_reducible refine aord_plain fun K hK => ?_); simp only [go_sem, Nat.reduceAdd, Nat.reduceMul, Nat.reduceEqDiff, Nat.reduceLT, reduceIte, reduceCtorEq, mat.matL, hv, Value.string.injEq]) | ((first | with_reducible refine aord_nil ?_ | refine awp_skip ?_ | refine awp_exit ?_ | refine awp_ret ?_); try simp only [thenA_normal, thenA_exit, thenA_goto, thenA_ret, blockA_normal, blockA_same, blockA_exit, blockA_goto, blockA_ret, Nat.reduceEqDiff, if_false, if_true, reduceIte]) | (refine awp_region tabOk rfl ?_; simp only [prep, pickO, List.map_cons, List.map_nil, List.getElem?_toArray, List.getElem?_cons_succ, List.getElem?_cons_zero, Option.bind_some, Option.map_some]) | ((with_reducible apply awp_cond); (focus (simp only [St.ev, St.set, upd, Nat.reduceEqDiff, reduceIte, if_false, if_true]; exact rfl)); all_goals (intro hb; first | (cases hb; done) | ((try rw [hb]); (try simp only [decide_eq_true_eq, decide_eq_false_iff_not, beq_iff_eq, bne_iff_ne, beq_eq_false_iff_ne, bne_eq_false_iff_eq, Int.not_lt, Int.not_le, Bool.not_eq_true', Bool.not_eq_false'] at hb)))) | ((with_reducible refine And.intro ?_ ?_); (focus omega)) | ((with_reducible refine And.intro (?_ : enters Try.prog 16) ?_); (focus exact Try.call16); (refine callX_sat validKeys_sat ?_); simp only [go_sem, and_assoc, List.nil_append, List.append_nil, List.cons_append, Nat.reduceEqDiff, reduceIte, reduceCtorEq, mat.matL, hv, Value.string.injEq]) | ((with_reducible refine And.intro (?_ : enters Try.prog 17) ?_); (focus exact Try.call17); (refine callX_sat specMeasure_sat ?_); simp only [go_sem, and_assoc, List.nil_append, List.append_nil, List.cons_append, Nat.reduceEqDiff, reduceIte, reduceCtorEq, mat.matL, hv, Value.string.injEq]) | fail)
    all_goals (simp only [St.set, St.ev, doneQ, doneH, ressK, resK, wrapR, AV.ids, AV.idsL, retK, retsK, upd, Nat.reduceEqDiff, reduceIte, if_false, if_true, List.nodup_nil, List.nodup_cons, List.not_mem_nil, not_false_eq_true, true_and, and_true, exists_eq_left', Option.some.injEq, rLoad, cellOf, tab, Ty.isAgg, Ty.one, Bool.false_eq_true]; exact ⟨by decide, hQ⟩)


theorem runsButOne_sat : Sat Try.prog 31 (fun ds Q => ∃ (xs : List Int), ds = [.row (.ints .i64 (xs))] ∧ (validB xs = true) ∧ Q (.val (.int .i64 ((max (((runsTo xs xs.length).length : Int) - 1) 0))))) := by
  refine sat_intro tabOk Try.func31 rfl 8 rfl [.tmp 2] rfl ?_
  rintro ds Q W ⟨xs, rfl, hv, hQ⟩
  refine ⟨Nat.le_of_ble_eq_true rfl, ?_⟩
  simp only [initS, initT, mat.matL, mat, Cont.len]
  have h8 := valid_len hv
  have hrn := (runsTo_len xs xs.length).1

  repeat' (first | refine awp_seq_k fun K hK => ?_ | ((with_reducible refine hK _ ?_); clear hK K) | ((with_reducible refine aord_plain fun K hK => ?_); simp only [go_sem, Nat.reduceAdd, Nat.reduceMul, Nat.reduceEqDiff, Nat.reduceLT, reduceIte, reduceCtorEq, hv]) | ((first | with_reducible refine aord_nil ?_ | refine awp_skip ?_ | refine awp_exit ?_ | refine awp_ret ?_); try simp only [thenA_normal, thenA_exit, thenA_goto, thenA_ret, blockA_normal, blockA_same, blockA_exit, blockA_goto, blockA_ret, Nat.reduceEqDiff, if_false, if_true, reduceIte]) | (refine awp_region tabOk rfl ?_; simp only [prep, pickO, List.map_cons, List.map_nil, List.getElem?_toArray, List.getElem?_cons_succ, List.getElem?_cons_zero, Option.bind_some, Option.map_some]) | ((with_reducible refine And.intro ?_ ?_); (focus omega)) | ((with_reducible refine And.intro (?_ : enters Try.prog 54) ?_); (focus exact Try.call54); (refine callX_sat implRunsOf_sat ?_); simp only [go_sem, and_assoc, List.nil_append, List.append_nil, List.cons_append, Nat.reduceEqDiff, reduceIte, reduceCtorEq, hv]) | fail)
  all_goals (simp only [St.set, St.ev, doneQ, doneH, ressK, resK, wrapR, AV.ids, AV.idsL, retK, retsK, upd, Nat.reduceEqDiff, reduceIte, if_false, if_true, List.nodup_nil, List.nodup_cons, List.not_mem_nil, not_false_eq_true, true_and, and_true, exists_eq_left', Option.some.injEq, rLoad, cellOf, tab, Ty.isAgg, Ty.one, Bool.false_eq_true]; exact hQ)


theorem pilesButOne_sat : Sat Try.prog 32 (fun ds Q => ∃ (xs : List Int), ds = [.row (.ints .i64 (xs))] ∧ (validB xs = true) ∧ Q (.val (.int .i64 ((max (((pilTo xs xs.length).length : Int) - 1) 0))))) := by
  refine sat_intro tabOk Try.func32 rfl 8 rfl [.tmp 2] rfl ?_
  rintro ds Q W ⟨xs, rfl, hv, hQ⟩
  refine ⟨Nat.le_of_ble_eq_true rfl, ?_⟩
  simp only [initS, initT, mat.matL, mat, Cont.len]
  have h8 := valid_len hv
  have hpi := (pil_in (xs := xs) xs.length).1

  repeat' (first | refine awp_seq_k fun K hK => ?_ | ((with_reducible refine hK _ ?_); clear hK K) | ((with_reducible refine aord_plain fun K hK => ?_); simp only [go_sem, Nat.reduceAdd, Nat.reduceMul, Nat.reduceEqDiff, Nat.reduceLT, reduceIte, reduceCtorEq, hv]) | ((first | with_reducible refine aord_nil ?_ | refine awp_skip ?_ | refine awp_exit ?_ | refine awp_ret ?_); try simp only [thenA_normal, thenA_exit, thenA_goto, thenA_ret, blockA_normal, blockA_same, blockA_exit, blockA_goto, blockA_ret, Nat.reduceEqDiff, if_false, if_true, reduceIte]) | (refine awp_region tabOk rfl ?_; simp only [prep, pickO, List.map_cons, List.map_nil, List.getElem?_toArray, List.getElem?_cons_succ, List.getElem?_cons_zero, Option.bind_some, Option.map_some]) | ((with_reducible refine And.intro ?_ ?_); (focus omega)) | ((with_reducible refine And.intro (?_ : enters Try.prog 55) ?_); (focus exact Try.call55); (refine callX_sat implPilesOf_sat ?_); simp only [go_sem, and_assoc, List.nil_append, List.append_nil, List.cons_append, Nat.reduceEqDiff, reduceIte, reduceCtorEq, hv]) | fail)
  all_goals (simp only [St.set, St.ev, doneQ, doneH, ressK, resK, wrapR, AV.ids, AV.idsL, retK, retsK, upd, Nat.reduceEqDiff, reduceIte, if_false, if_true, List.nodup_nil, List.nodup_cons, List.not_mem_nil, not_false_eq_true, true_and, and_true, exists_eq_left', Option.some.injEq, rLoad, cellOf, tab, Ty.isAgg, Ty.one, Bool.false_eq_true]; exact hQ)


def meaEs : List MapEntry := [⟨.string nm_inversions, .func (.func 23) #[] #[], 0⟩, ⟨.string nm_removals, .func (.func 24) #[] #[], 1⟩, ⟨.string nm_exchanges, .func (.func 25) #[] #[], 2⟩, ⟨.string nm_misplaced, .func (.func 26) #[] #[], 3⟩, ⟨.string nm_farthest, .func (.func 27) #[] #[], 4⟩, ⟨.string nm_widest, .func (.func 28) #[] #[], 5⟩, ⟨.string nm_swings, .func (.func 29) #[] #[], 6⟩, ⟨.string nm_breaks, .func (.func 30) #[] #[], 7⟩, ⟨.string nm_runs, .func (.func 31) #[] #[], 8⟩, ⟨.string nm_piles, .func (.func 32) #[] #[], 9⟩]
theorem meaL_inversions : lookS nm_inversions meaEs = some (.func (.func 23) #[] #[]) := by kernel_rfl
theorem meaL_removals : lookS nm_removals meaEs = some (.func (.func 24) #[] #[]) := by kernel_rfl
theorem meaL_exchanges : lookS nm_exchanges meaEs = some (.func (.func 25) #[] #[]) := by kernel_rfl
theorem meaL_misplaced : lookS nm_misplaced meaEs = some (.func (.func 26) #[] #[]) := by kernel_rfl
theorem meaL_farthest : lookS nm_farthest meaEs = some (.func (.func 27) #[] #[]) := by kernel_rfl
theorem meaL_widest : lookS nm_widest meaEs = some (.func (.func 28) #[] #[]) := by kernel_rfl
theorem meaL_swings : lookS nm_swings meaEs = some (.func (.func 29) #[] #[]) := by kernel_rfl
theorem meaL_breaks : lookS nm_breaks meaEs = some (.func (.func 30) #[] #[]) := by kernel_rfl
theorem meaL_runs : lookS nm_runs meaEs = some (.func (.func 31) #[] #[]) := by kernel_rfl
theorem meaL_piles : lookS nm_piles meaEs = some (.func (.func 32) #[] #[]) := by kernel_rfl
theorem meaL_none {k : ByteArray} (h0 : k ≠ nm_inversions) (h1 : k ≠ nm_runs) (h2 : k ≠ nm_removals) (h3 : k ≠ nm_exchanges) (h4 : k ≠ nm_misplaced) (h5 : k ≠ nm_farthest) (h6 : k ≠ nm_widest) (h7 : k ≠ nm_piles) (h8 : k ≠ nm_swings) (h9 : k ≠ nm_breaks) : lookS k meaEs = none := by simp only [lookS, meaEs, ba_beq, h0, h1, h2, h3, h4, h5, h6, h7, h8, h9, decide_false, Bool.false_eq_true, if_false]
theorem meaL_keys : strKeys meaEs = true := by kernel_rfl
theorem implMeasureOf_sat : Sat Try.prog 6 (fun ds Q => ∃ (k : ByteArray) (xs : List Int), ds = [.val (.string (k)), .row (.ints .i64 (xs))] ∧ (xs.length ≤ 1099511627776) ∧ Q (.tup [.val (.int .i64 ((meaW k xs))), .val (.bool ((meaB k xs)))])) := by
  refine sat_intro tabOk Try.func6 rfl 24 rfl [.tmp 4, .tmp 5] rfl ?_
  rintro ds Q W ⟨k, xs, rfl, hlen, hQ⟩
  refine ⟨Nat.le_of_ble_eq_true rfl, ?_⟩
  simp only [initS, initT, mat.matL, mat, Cont.len]
  repeat' (first | refine awp_seq_k fun K hK => ?_ | ((with_reducible refine hK _ ?_); clear hK K) | ((with_reducible refine aord_plain fun K hK => ?_); simp only [go_sem, Nat.reduceAdd, Nat.reduceMul, Nat.reduceEqDiff, Nat.reduceLT, reduceIte, reduceCtorEq, mat.matL, Value.string.injEq]) | ((first | with_reducible refine aord_nil ?_ | refine awp_skip ?_ | refine awp_exit ?_ | refine awp_ret ?_); try simp only [thenA_normal, thenA_exit, thenA_goto, thenA_ret, blockA_normal, blockA_same, blockA_exit, blockA_goto, blockA_ret, Nat.reduceEqDiff, if_false, if_true, reduceIte]) | (refine awp_region tabOk rfl ?_; simp only [prep, pickO, List.map_cons, List.map_nil, List.getElem?_toArray, List.getElem?_cons_succ, List.getElem?_cons_zero, Option.bind_some, Option.map_some]) | ((with_reducible refine And.intro (?_ : enters Try.prog 14) ?_); (focus exact Try.call14); (refine callX_h (callH_inline tabOk Try.func14 rfl 3 rfl [.tmp 0] rfl (Nat.le_of_ble_eq_true rfl) fun m0 hm0 hcl hlt => ?_)); simp only [initT, St.ev, St.set, upd, Nat.reduceEqDiff, reduceIte, if_false, if_true]) | fail)
  refine ⟨_, _, rfl, by kernel_rfl, by kernel_rfl, ?_⟩
  (with_reducible refine hK _ ?_); clear hK K
  (with_reducible refine aord_plain fun K hK => ?_)
  simp only [go_sem, Nat.reduceAdd, Nat.reduceMul, Nat.reduceEqDiff, Nat.reduceLT, reduceIte, reduceCtorEq]
  refine ⟨_, _, rfl, by kernel_rfl, by kernel_rfl, ?_⟩
  (with_reducible refine hK _ ?_); clear hK K
  (with_reducible refine aord_plain fun K hK => ?_)
  simp only [go_sem, Nat.reduceAdd, Nat.reduceMul, Nat.reduceEqDiff, Nat.reduceLT, reduceIte, reduceCtorEq]
  refine ⟨_, _, rfl, by kernel_rfl, by kernel_rfl, ?_⟩
  (with_reducible refine hK _ ?_); clear hK K
  (with_reducible refine aord_plain fun K hK => ?_)
  simp only [go_sem, Nat.reduceAdd, Nat.reduceMul, Nat.reduceEqDiff, Nat.reduceLT, reduceIte, reduceCtorEq]
  refine ⟨_, _, rfl, by kernel_rfl, by kernel_rfl, ?_⟩
  (with_reducible refine hK _ ?_); clear hK K
  (with_reducible refine aord_plain fun K hK => ?_)
  simp only [go_sem, Nat.reduceAdd, Nat.reduceMul, Nat.reduceEqDiff, Nat.reduceLT, reduceIte, reduceCtorEq]
  refine ⟨_, _, rfl, by kernel_rfl, by kernel_rfl, ?_⟩
  (with_reducible refine hK _ ?_); clear hK K
  (with_reducible refine aord_plain fun K hK => ?_)
  simp only [go_sem, Nat.reduceAdd, Nat.reduceMul, Nat.reduceEqDiff, Nat.reduceLT, reduceIte, reduceCtorEq]
  refine ⟨_, _, rfl, by kernel_rfl, by kernel_rfl, ?_⟩
  (with_reducible refine hK _ ?_); clear hK K
  (with_reducible refine aord_plain fun K hK => ?_)
  simp only [go_sem, Nat.reduceAdd, Nat.reduceMul, Nat.reduceEqDiff, Nat.reduceLT, reduceIte, reduceCtorEq]
  refine ⟨_, _, rfl, by kernel_rfl, by kernel_rfl, ?_⟩
  (with_reducible refine hK _ ?_); clear hK K
  (with_reducible refine aord_plain fun K hK => ?_)
  simp only [go_sem, Nat.reduceAdd, Nat.reduceMul, Nat.reduceEqDiff, Nat.reduceLT, reduceIte, reduceCtorEq]
  refine ⟨_, _, rfl, by kernel_rfl, by kernel_rfl, ?_⟩
  (with_reducible refine hK _ ?_); clear hK K
  (with_reducible refine aord_plain fun K hK => ?_)
  simp only [go_sem, Nat.reduceAdd, Nat.reduceMul, Nat.reduceEqDiff, Nat.reduceLT, reduceIte, reduceCtorEq]
  refine ⟨_, _, rfl, by kernel_rfl, by kernel_rfl, ?_⟩
  (with_reducible refine hK _ ?_); clear hK K
  (with_reducible refine aord_plain fun K hK => ?_)
  simp only [go_sem, Nat.reduceAdd, Nat.reduceMul, Nat.reduceEqDiff, Nat.reduceLT, reduceIte, reduceCtorEq]
  refine ⟨_, _, rfl, by kernel_rfl, by kernel_rfl, ?_⟩
  repeat' (first | ((with_reducible refine hK _ ?_); clear hK K) | ((with_reducible refine aord_plain fun K hK => ?_); simp only [go_sem, Nat.reduceAdd, Nat.reduceMul, Nat.reduceEqDiff, Nat.reduceLT, reduceIte, reduceCtorEq, mat.matL, Value.string.injEq]) | ((first | with_reducible refine aord_nil ?_ | refine awp_skip ?_ | refine awp_exit ?_ | refine awp_ret ?_); try simp only [thenA_normal, thenA_exit, thenA_goto, thenA_ret, blockA_normal, blockA_same, blockA_exit, blockA_goto, blockA_ret, Nat.reduceEqDiff, if_false, if_true, reduceIte]) | (simp only [doneH]; simp only [ressK, resK, wrapR, go_sem, Nat.reduceAdd, Nat.reduceMul, Nat.reduceEqDiff, Nat.reduceLT, reduceIte, reduceCtorEq]) | fail)
  refine ⟨true, ⟨meaEs⟩, 10, ⟨rfl, rfl⟩, meaL_keys, ?_⟩
  cases hv : validB xs with
  | false =>
    have e1 : meaW k xs = 0 := by unfold meaW; rw [hv]; rfl
    have e2 : meaB k xs = false := by unfold meaB; rw [hv]; rfl
    rw [e1, e2] at hQ
    generalize lookS k meaEs = r
    cases r
    all_goals simp only [Option.isSome_some, Option.isSome_none]

    repeat' (first | refine awp_seq_k fun K hK => ?_ | ((with_reducible refine hK _ ?_); clear hK K) | ((with_reducible refine aord_plain fun K hK => ?_); simp only [go_sem, Nat.reduceAdd, Nat.reduceMul, Nat.reduceEqDiff, Nat.reduceLT, reduceIte, reduceCtorEq, mat.matL, hv]) | ((with_reducible apply aord_guard); (focus (simp only [St.ev, St.set, upd, Nat.reduceEqDiff, reduceIte, if_false, if_true]; exact rfl)); all_goals (intro hb; (try simp only [Bool.not_true, Bool.not_false] at hb); first | (cases hb; done) | ((try rw [hb]); (try simp only [Bool.not_eq_true', Bool.not_eq_false', Bool.and_eq_true, decide_eq_true_eq, decide_eq_false_iff_not, beq_iff_eq, bne_iff_ne, beq_eq_false_iff_ne, bne_eq_false_iff_eq, Int.not_lt, Int.not_le] at hb); (try (revert hb; with_reducible refine true_imp_iff.2 ?_)); first | (intro K hK; simp only [go_sem, Nat.reduceAdd, Nat.reduceMul, Nat.reduceEqDiff, Nat.reduceLT, reduceIte, reduceCtorEq]) | (simp only [St.ev, St.set, upd, Nat.reduceEqDiff, reduceIte, if_false, if_true]) | skip))) | ((first | with_reducible refine aord_nil ?_ | refine awp_skip ?_ | refine awp_exit ?_ | refine awp_ret ?_); try simp only [thenA_normal, thenA_exit, thenA_goto, thenA_ret, blockA_normal, blockA_same, blockA_exit, blockA_goto, blockA_ret, Nat.reduceEqDiff, if_false, if_true, reduceIte]) | (refine awp_region tabOk rfl ?_; simp only [prep, pickO, List.map_cons, List.map_nil, List.getElem?_toArray, List.getElem?_cons_succ, List.getElem?_cons_zero, Option.bind_some, Option.map_some]) | ((with_reducible apply awp_cond); (focus (simp only [St.ev, St.set, upd, Nat.reduceEqDiff, reduceIte, if_false, if_true]; exact rfl)); all_goals (intro hb; first | (cases hb; done) | ((try rw [hb]); (try simp only [decide_eq_true_eq, decide_eq_false_iff_not, beq_iff_eq, bne_iff_ne, beq_eq_false_iff_ne, bne_eq_false_iff_eq, Int.not_lt, Int.not_le, Bool.not_eq_true', Bool.not_eq_false'] at hb)))) | ((with_reducible refine And.intro ?_ ?_); (focus omega)) | ((with_reducible refine And.intro (?_ : enters Try.prog 15) ?_); (focus exact Try.call15); (refine callX_sat implValidKeys_sat ?_); simp only [go_sem, and_assoc, List.nil_append, List.append_nil, List.cons_append, Nat.reduceEqDiff, reduceIte, reduceCtorEq, mat.matL, hv]) | fail)
    all_goals (simp only [St.set, St.ev, doneQ, doneH, ressK, resK, wrapR, AV.ids, AV.idsL, retK, retsK, upd, Nat.reduceEqDiff, reduceIte, if_false, if_true, List.nodup_nil, List.nodup_cons, List.not_mem_nil, not_false_eq_true, true_and, and_true, exists_eq_left', Option.some.injEq, rLoad, cellOf, tab, Ty.isAgg, Ty.one, Bool.false_eq_true]; exact ⟨by decide, hQ⟩)
  | true =>
    have e1 : meaW k xs = (meaV k xs).getD 0 := by unfold meaW; rw [hv]; rfl
    have e2 : meaB k xs = (meaV k xs).isSome := by unfold meaB; rw [hv]; rfl
    rw [e1, e2] at hQ
    by_cases h0 : k = nm_inversions
    subst h0
    rw [meaV_inversions] at hQ
    simp only [meaL_inversions, Option.isSome_some]
    rotate_left
    by_cases h1 : k = nm_runs
    subst h1
    rw [meaV_runs] at hQ
    simp only [meaL_runs, Option.isSome_some]
    rotate_left
    by_cases h2 : k = nm_removals
    subst h2
    rw [meaV_removals] at hQ
    simp only [meaL_removals, Option.isSome_some]
    rotate_left
    by_cases h3 : k = nm_exchanges
    subst h3
    rw [meaV_exchanges] at hQ
    simp only [meaL_exchanges, Option.isSome_some]
    rotate_left
    by_cases h4 : k = nm_misplaced
    subst h4
    rw [meaV_misplaced] at hQ
    simp only [meaL_misplaced, Option.isSome_some]
    rotate_left
    by_cases h5 : k = nm_farthest
    subst h5
    rw [meaV_farthest] at hQ
    simp only [meaL_farthest, Option.isSome_some]
    rotate_left
    by_cases h6 : k = nm_widest
    subst h6
    rw [meaV_widest] at hQ
    simp only [meaL_widest, Option.isSome_some]
    rotate_left
    by_cases h7 : k = nm_piles
    subst h7
    rw [meaV_piles] at hQ
    simp only [meaL_piles, Option.isSome_some]
    rotate_left
    by_cases h8 : k = nm_swings
    subst h8
    rw [meaV_swings] at hQ
    simp only [meaL_swings, Option.isSome_some]
    rotate_left
    by_cases h9 : k = nm_breaks
    subst h9
    rw [meaV_breaks] at hQ
    simp only [meaL_breaks, Option.isSome_some]
    rotate_left
    rw [meaV_none xs h0 h1 h2 h3 h4 h5 h6 h7 h8 h9] at hQ
    simp only [meaL_none h0 h1 h2 h3 h4 h5 h6 h7 h8 h9, Option.isSome_none]

    repeat' (first | refine awp_seq_k fun K hK => ?_ | ((with_reducible refine hK _ ?_); clear hK K) | ((with_reducible refine aord_plain fun K hK => ?_); simp only [go_sem, Nat.reduceAdd, Nat.reduceMul, Nat.reduceEqDiff, Nat.reduceLT, reduceIte, reduceCtorEq, mat.matL, hv]) | ((with_reducible apply aord_guard); (focus (simp only [St.ev, St.set, upd, Nat.reduceEqDiff, reduceIte, if_false, if_true]; exact rfl)); all_goals (intro hb; (try simp only [Bool.not_true, Bool.not_false] at hb); first | (cases hb; done) | ((try rw [hb]); (try simp only [Bool.not_eq_true', Bool.not_eq_false', Bool.and_eq_true, decide_eq_true_eq, decide_eq_false_iff_not, beq_iff_eq, bne_iff_ne, beq_eq_false_iff_ne, bne_eq_false_iff_eq, Int.not_lt, Int.not_le] at hb); (try (revert hb; with_reducible refine true_imp_iff.2 ?_)); first | (intro K hK; simp only [go_sem, Nat.reduceAdd, Nat.reduceMul, Nat.reduceEqDiff, Nat.reduceLT, reduceIte, reduceCtorEq]) | (simp only [St.ev, St.set, upd, Nat.reduceEqDiff, reduceIte, if_false, if_true]) | skip))) | ((first | with_reducible refine aord_nil ?_ | refine awp_skip ?_ | refine awp_exit ?_ | refine awp_ret ?_); try simp only [thenA_normal, thenA_exit, thenA_goto, thenA_ret, blockA_normal, blockA_same, blockA_exit, blockA_goto, blockA_ret, Nat.reduceEqDiff, if_false, if_true, reduceIte]) | (refine awp_region tabOk rfl ?_; simp only [prep, pickO, List.map_cons, List.map_nil, List.getElem?_toArray, List.getElem?_cons_succ, List.getElem?_cons_zero, Option.bind_some, Option.map_some]) | ((with_reducible apply awp_cond); (focus (simp only [St.ev, St.set, upd, Nat.reduceEqDiff, reduceIte, if_false, if_true]; exact rfl)); all_goals (intro hb; first | (cases hb; done) | ((try rw [hb]); (try simp only [decide_eq_true_eq, decide_eq_false_iff_not, beq_iff_eq, bne_iff_ne, beq_eq_false_iff_ne, bne_eq_false_iff_eq, Int.not_lt, Int.not_le, Bool.not_eq_true', Bool.not_eq_false'] at hb)))) | ((with_reducible refine And.intro ?_ ?_); (focus omega)) | ((with_reducible refine And.intro (?_ : enters Try.prog 15) ?_); (focus exact Try.call15); (refine callX_sat implValidKeys_sat ?_); simp only [go_sem, and_assoc, List.nil_append, List.append_nil, List.cons_append, Nat.reduceEqDiff, reduceIte, reduceCtorEq, mat.matL, hv]) | ((with_reducible refine And.intro (?_ : enters Try.prog 23) ?_); (focus exact Try.call23); (refine callX_sat implInversionsOf_sat ?_); simp only [go_sem, and_assoc, List.nil_append, List.append_nil, List.cons_append, Nat.reduceEqDiff, reduceIte, reduceCtorEq, mat.matL, hv]) | ((with_reducible refine And.intro (?_ : enters Try.prog 24) ?_); (focus exact Try.call24); (refine callX_sat implRemovalsOf_sat ?_); simp only [go_sem, and_assoc, List.nil_append, List.append_nil, List.cons_append, Nat.reduceEqDiff, reduceIte, reduceCtorEq, mat.matL, hv]) | ((with_reducible refine And.intro (?_ : enters Try.prog 25) ?_); (focus exact Try.call25); (refine callX_sat implExchangesOf_sat ?_); simp only [go_sem, and_assoc, List.nil_append, List.append_nil, List.cons_append, Nat.reduceEqDiff, reduceIte, reduceCtorEq, mat.matL, hv]) | ((with_reducible refine And.intro (?_ : enters Try.prog 26) ?_); (focus exact Try.call26); (refine callX_sat implMisplacedOf_sat ?_); simp only [go_sem, and_assoc, List.nil_append, List.append_nil, List.cons_append, Nat.reduceEqDiff, reduceIte, reduceCtorEq, mat.matL, hv]) | ((with_reducible refine And.intro (?_ : enters Try.prog 27) ?_); (focus exact Try.call27); (refine callX_sat implFarthestOf_sat ?_); simp only [go_sem, and_assoc, List.nil_append, List.append_nil, List.cons_append, Nat.reduceEqDiff, reduceIte, reduceCtorEq, mat.matL, hv]) | ((with_reducible refine And.intro (?_ : enters Try.prog 28) ?_); (focus exact Try.call28); (refine callX_sat implWidestOf_sat ?_); simp only [go_sem, and_assoc, List.nil_append, List.append_nil, List.cons_append, Nat.reduceEqDiff, reduceIte, reduceCtorEq, mat.matL, hv]) | ((with_reducible refine And.intro (?_ : enters Try.prog 29) ?_); (focus exact Try.call29); (refine callX_sat implSwingsOf_sat ?_); simp only [go_sem, and_assoc, List.nil_append, List.append_nil, List.cons_append, Nat.reduceEqDiff, reduceIte, reduceCtorEq, mat.matL, hv]) | ((with_reducible refine And.intro (?_ : enters Try.prog 30) ?_); (focus exact Try.call30); (refine callX_sat implBreaksOf_sat ?_); simp only [go_sem, and_assoc, List.nil_append, List.append_nil, List.cons_append, Nat.reduceEqDiff, reduceIte, reduceCtorEq, mat.matL, hv]) | ((with_reducible refine And.intro (?_ : enters Try.prog 31) ?_); (focus exact Try.call31); (refine callX_sat runsButOne_sat ?_); simp only [go_sem, and_assoc, List.nil_append, List.append_nil, List.cons_append, Nat.reduceEqDiff, reduceIte, reduceCtorEq, mat.matL, hv]) | ((with_reducible refine And.intro (?_ : enters Try.prog 32) ?_); (focus exact Try.call32); (refine callX_sat pilesButOne_sat ?_); simp only [go_sem, and_assoc, List.nil_append, List.append_nil, List.cons_append, Nat.reduceEqDiff, reduceIte, reduceCtorEq, mat.matL, hv]) | fail)
    all_goals (simp only [St.set, St.ev, doneQ, doneH, ressK, resK, wrapR, AV.ids, AV.idsL, retK, retsK, upd, Nat.reduceEqDiff, reduceIte, if_false, if_true, List.nodup_nil, List.nodup_cons, List.not_mem_nil, not_false_eq_true, true_and, and_true, exists_eq_left', Option.some.injEq, rLoad, cellOf, tab, Ty.isAgg, Ty.one, Bool.false_eq_true]; exact ⟨by decide, hQ⟩)


theorem bits_xor_in (a b : Int) (ha : 0 ≤ a ∧ a < 2147483648) (hb : 0 ≤ b ∧ b < 2147483648) : 0 ≤ bits .xor .i64 a b ∧ bits .xor .i64 a b < 2147483648 := by
  obtain ⟨m, rfl⟩ := Int.eq_ofNat_of_zero_le ha.1
  obtain ⟨k, rfl⟩ := Int.eq_ofNat_of_zero_le hb.1
  have hx : m ^^^ k < 2 ^ 31 := Nat.xor_lt_two_pow (by omega) (by omega)
  have h1 : (BitVec.ofInt 64 (m : Int) ^^^ BitVec.ofInt 64 (k : Int)).toNat = m ^^^ k := by
    rw [BitVec.toNat_xor, BitVec.ofInt_natCast, BitVec.ofInt_natCast, BitVec.toNat_ofNat, BitVec.toNat_ofNat, Nat.mod_eq_of_lt (by omega), Nat.mod_eq_of_lt (by omega)]
  have h2 : IntKind.i64.wrap ((m ^^^ k : Nat) : Int) = ((m ^^^ k : Nat) : Int) := wrap_in (show -9223372036854775808 ≤ ((m ^^^ k : Nat) : Int) ∧ ((m ^^^ k : Nat) : Int) ≤ 9223372036854775807 by omega)
  have h3 : bits .xor .i64 (m : Int) (k : Int) = ((m ^^^ k : Nat) : Int) := by
    show IntKind.i64.wrap ((BitVec.ofInt 64 (m : Int) ^^^ BitVec.ofInt 64 (k : Int)).toNat : Int) = _
    rw [h1, h2]
  rw [h3]; omega


/-- What a list of bytes is. -/
def bytesOk (bs : List Int) : Prop := ∀ j, 0 ≤ bs.getD j 0 ∧ bs.getD j 0 ≤ 255

theorem row_bytes {w : World} {a : Option Addr} {len cap : Nat} {zs : List Int} (h : IsRow .u8 w a len cap zs) : bytesOk (zs.take len) := by
  have hin : ∀ n ∈ zs, 0 ≤ n ∧ n ≤ 255 := by
    rcases h with ⟨_, _, _, rfl⟩ | ⟨x, _, _, _, _, _, h6⟩
    · intro n hn; cases hn
    · intro n hn
      have := h6 n hn
      simp only [Lit.wf, IntKind.min, IntKind.max, IntKind.signed, IntKind.bits, Bool.and_eq_true, decide_eq_true_eq, Bool.false_eq_true, if_false] at this
      omega
  intro j
  rw [List.getD_eq_getElem?_getD]
  cases e : (zs.take len)[j]? with
  | none => simp
  | some v =>
    have h1 := List.mem_of_getElem? e
    have := hin v (List.mem_of_mem_take h1)
    simpa using this


theorem pick_sat : SatH Try.prog 20 (fun al h n K => ∃ (bs : List Int) (L : Nat) (lim : Option Nat) (k : Int) (q : Nat), al = [.ref 1 0, .val (.int .i64 (k))] ∧ (h 0 = some ⟨false, .ints .u8 bs⟩) ∧ (h 1 = some ⟨true, .cells [.sl 0 0 L 1 lim, .val (.int .i64 q)]⟩) ∧ (L ≤ bs.length ∧ L ≤ 1099511627776) ∧ (bytesOk bs) ∧ (q ≤ 1000000 ∧ k ≤ 1000000) ∧ ∀ v : Int, 0 ≤ v → v < max k 1 → K (.val (.int .i64 (v))) (upd h 1 (some ⟨true, .cells [.sl 0 0 L 1 lim, .val (.int .i64 ((q : Int) + 1))]⟩)) (n)) := by
  refine satH_intro tabOk Try.func20 rfl 99 rfl [.tmp 4] rfl ?_
  rintro F W h n al K0 ⟨bs, L, lim, k, q, rfl, h0, h1, hL, hbs, hq, hQ⟩
  refine ⟨Nat.le_of_ble_eq_true rfl, fun m0 hm0 hcl hlt => ?_⟩
  simp only [initT]
  have hm : ∀ a : Int, 1 ≤ k → 0 ≤ a % k ∧ a % k < k := fun a h => ⟨Int.emod_nonneg a (by omega), Int.emod_lt_of_pos a (by omega)⟩
  have hB0 := hbs ((q : Int) + 1 - 1).toNat
  have hL1 : (L : Int) ≠ 0 → 0 ≤ ((q : Int) + 1 - 1) % (L : Int) ∧ ((q : Int) + 1 - 1) % (L : Int) < L := fun h => ⟨Int.emod_nonneg _ h, Int.emod_lt_of_pos _ (by omega)⟩
  have hL2 : (L : Int) ≠ 0 → 0 ≤ (((q : Int) + 1 - 1) * 7 + 3) % (L : Int) ∧ (((q : Int) + 1 - 1) * 7 + 3) % (L : Int) < L := fun h => ⟨Int.emod_nonneg _ h, Int.emod_lt_of_pos _ (by omega)⟩
  have hL3 : (L : Int) ≠ 0 → 0 ≤ ((q : Int) + 1 - 1) / (L : Int) ∧ ((q : Int) + 1 - 1) / (L : Int) ≤ q := fun h => ⟨Int.ediv_nonneg (by omega) (by omega), Int.le_trans (Int.ediv_le_self _ (by omega)) (by omega)⟩
  have hB1 := hbs (((q : Int) + 1 - 1) % (L : Int)).toNat
  have hB2 := hbs ((((q : Int) + 1 - 1) * 7 + 3) % (L : Int)).toNat
  repeat' (first | refine awp_seq_k fun K hK => ?_ | ((with_reducible refine hK _ ?_); clear hK K) | ((with_reducible refine aord_plain fun K hK => ?_); simp only [go_sem, Nat.reduceAdd, Nat.reduceMul, Nat.reduceEqDiff, Nat.reduceLT, reduceIte, reduceCtorEq, h0, h1]) | ((with_reducible apply aord_guard); (focus (simp only [St.ev, St.set, upd, Nat.reduceEqDiff, reduceIte, if_false, if_true]; exact rfl)); all_goals (intro hb; (try simp only [Bool.not_true, Bool.not_false] at hb); first | (cases hb; done) | ((try rw [hb]); (try simp only [Bool.not_eq_true', Bool.not_eq_false', Bool.and_eq_true, decide_eq_true_eq, decide_eq_false_iff_not, beq_iff_eq, bne_iff_ne, beq_eq_false_iff_ne, bne_eq_false_iff_eq, Int.not_lt, Int.not_le] at hb); (try (revert hb; with_reducible refine true_imp_iff.2 ?_)); first | (intro K hK; simp only [go_sem, Nat.reduceAdd, Nat.reduceMul, Nat.reduceEqDiff, Nat.reduceLT, reduceIte, reduceCtorEq]) | (simp only [St.ev, St.set, upd, Nat.reduceEqDiff, reduceIte, if_false, if_true]) | skip))) | ((first | with_reducible refine aord_nil ?_ | refine awp_skip ?_ | refine awp_exit ?_ | refine awp_ret ?_); try simp only [thenA_normal, thenA_exit, thenA_goto, thenA_ret, blockA_normal, blockA_same, blockA_exit, blockA_goto, blockA_ret, Nat.reduceEqDiff, if_false, if_true, reduceIte]) | (refine awp_region tabOk rfl ?_; simp only [prep, pickO, List.map_cons, List.map_nil, List.getElem?_toArray, List.getElem?_cons_succ, List.getElem?_cons_zero, Option.bind_some, Option.map_some]) | (refine awp_region_draw (nt := 99) (id := 7) tabOk [(0, true, false), (1, true, false), (2, true, false), (3, true, false), (4, true, false), (5, true, false), (6, true, false), (7, true, false), (8, true, false), (9, true, false), (10, true, false), (11, true, false), (12, true, false), (13, true, false), (14, true, false), (15, true, false), (16, true, false), (17, true, false), (18, true, false), (19, true, false), (20, true, false), (21, true, false), (22, true, false), (23, true, false), (24, true, false), (25, true, false), (26, true, false), (27, true, false), (28, true, false), (29, true, false), (30, true, false), (31, true, false), (32, true, false), (33, true, false), (34, true, false), (35, true, false), (36, true, false), (37, true, false), (38, true, false), (39, true, false), (40, true, false), (41, true, false), (42, true, false), (43, true, false), (44, true, false), (45, true, false)] (by kernel_rfl) rfl (by kernel_rfl) ?_; simp only [prep, pickO, List.map_cons, List.map_nil, List.getElem?_toArray, List.getElem?_cons_succ, List.getElem?_cons_zero, Option.bind_some, Option.map_some]) | ((with_reducible apply awp_cond); (focus (simp only [St.ev, St.set, upd, Nat.reduceEqDiff, reduceIte, if_false, if_true]; exact rfl)); all_goals (intro hb; first | (cases hb; done) | ((try rw [hb]); (try simp only [decide_eq_true_eq, decide_eq_false_iff_not, beq_iff_eq, bne_iff_ne, beq_eq_false_iff_ne, bne_eq_false_iff_eq, Int.not_lt, Int.not_le, Bool.not_eq_true', Bool.not_eq_false'] at hb)))) | ((with_reducible refine And.intro ?_ ?_); (focus omega)) | ((with_reducible refine And.intro ?_ ?_); (focus (exact rfl))) | (simp only [doneH]; simp only [ressK, resK, wrapR, go_sem, Nat.reduceAdd, Nat.reduceMul, Nat.reduceEqDiff, Nat.reduceLT, reduceIte, reduceCtorEq]) | fail)
  all_goals first | (exact hQ 0 (by omega) (by omega)) | (exact hQ _ (hm _ (by omega)).1 (by have h9 := (hm (bs.getD ((q : Int) + 1 - 1).toNat 0) (by omega)).2; omega)) | skip
  refine ⟨_, fun P w => rfl, ?_⟩
  have hx := bits_xor_in (bs.getD (((q : Int) + 1 - 1) % (L : Int)).toNat 0 * 131 + bs.getD ((((q : Int) + 1 - 1) * 7 + 3) % (L : Int)).toNat 0 * 1117 + ((q : Int) + 1 - 1) * 29 + ((q : Int) + 1 - 1) / (L : Int) * 53) ((bs.getD (((q : Int) + 1 - 1) % (L : Int)).toNat 0 * 131 + bs.getD ((((q : Int) + 1 - 1) * 7 + 3) % (L : Int)).toNat 0 * 1117 + ((q : Int) + 1 - 1) * 29 + ((q : Int) + 1 - 1) / (L : Int) * 53) / 64) (by omega) (by omega)
  generalize bits .xor .i64 (bs.getD (((q : Int) + 1 - 1) % (L : Int)).toNat 0 * 131 + bs.getD ((((q : Int) + 1 - 1) * 7 + 3) % (L : Int)).toNat 0 * 1117 + ((q : Int) + 1 - 1) * 29 + ((q : Int) + 1 - 1) / (L : Int) * 53) ((bs.getD (((q : Int) + 1 - 1) % (L : Int)).toNat 0 * 131 + bs.getD ((((q : Int) + 1 - 1) * 7 + 3) % (L : Int)).toNat 0 * 1117 + ((q : Int) + 1 - 1) * 29 + ((q : Int) + 1 - 1) / (L : Int) * 53) / 64) = x at *
  repeat' (first | refine awp_seq_k fun K hK => ?_ | ((with_reducible refine hK _ ?_); clear hK K) | ((with_reducible refine aord_plain fun K hK => ?_); simp only [go_sem, Nat.reduceAdd, Nat.reduceMul, Nat.reduceEqDiff, Nat.reduceLT, reduceIte, reduceCtorEq, h0, h1]) | ((first | with_reducible refine aord_nil ?_ | refine awp_skip ?_ | refine awp_exit ?_ | refine awp_ret ?_); try simp only [thenA_normal, thenA_exit, thenA_goto, thenA_ret, blockA_normal, blockA_same, blockA_exit, blockA_goto, blockA_ret, Nat.reduceEqDiff, if_false, if_true, reduceIte]) | (refine awp_region tabOk rfl ?_; simp only [prep, pickO, List.map_cons, List.map_nil, List.getElem?_toArray, List.getElem?_cons_succ, List.getElem?_cons_zero, Option.bind_some, Option.map_some]) | ((with_reducible refine And.intro ?_ ?_); (focus omega)) | (simp only [doneH]; simp only [ressK, resK, wrapR, go_sem, Nat.reduceAdd, Nat.reduceMul, Nat.reduceEqDiff, Nat.reduceLT, reduceIte, reduceCtorEq]) | fail)
  all_goals exact hQ _ (hm _ (by omega)).1 (by have h9 := (hm x (by omega)).2; omega)


theorem isRet {P : Program} {tab : Tab} {Γ : Ctx} {nt : Nat} {rs : List ResultVar} {s : St} (K0 : AV → Hp → Nat → Prop) (h : AWP Γ nt P .ret (doneH tab rs K0) s) : AWP Γ nt P .ret (doneH tab rs K0) s := h


theorem one_sat : SatH Try.prog 46 (fun al h n K => ∃ (bs : List Int) (L : Nat) (lim : Option Nat) (j m : Nat) (zs : List Int) (q : Nat), al = [.ref 1 0, .sl j 0 m 1 none] ∧ (h 0 = some ⟨false, .ints .u8 bs⟩) ∧ (h 1 = some ⟨true, .cells [.sl 0 0 L 1 lim, .val (.int .i64 q)]⟩) ∧ (L ≤ bs.length ∧ L ≤ 1099511627776) ∧ (bytesOk bs) ∧ (h j = some ⟨true, .ints .i64 zs⟩) ∧ (j ≠ 1) ∧ (m = zs.length ∧ 0 < m ∧ m ≤ 1000) ∧ (q ≤ 1000000) ∧ ∀ v : Nat, v < m → K (.val (.int .i64 ((zs.getD v 0)))) (upd h 1 (some ⟨true, .cells [.sl 0 0 L 1 lim, .val (.int .i64 ((q : Int) + 1))]⟩)) (n)) := by
  refine satH_intro tabOk Try.func46 rfl 12 rfl [.tmp 4] rfl ?_
  rintro F W h n al K0 ⟨bs, L, lim, j, m, zs, q, rfl, h0, h1, hL, hbs, hj, hj1, hm, hq, hQ⟩
  refine ⟨Nat.le_of_ble_eq_true rfl, fun m0 hm0 hcl hlt => ?_⟩
  simp only [initT]
  have hne : (j = 1) = False := eq_false hj1
  repeat' (first | refine awp_seq_k fun K hK => ?_ | ((with_reducible refine hK _ ?_); clear hK K) | ((with_reducible refine aord_plain fun K hK => ?_); simp only [go_sem, Nat.reduceAdd, Nat.reduceMul, Nat.reduceEqDiff, Nat.reduceLT, reduceIte, reduceCtorEq, h0, h1, hj, hne]) | ((first | with_reducible refine aord_nil ?_ | refine awp_skip ?_ | refine awp_exit ?_ | refine awp_ret ?_); try simp only [thenA_normal, thenA_exit, thenA_goto, thenA_ret, blockA_normal, blockA_same, blockA_exit, blockA_goto, blockA_ret, Nat.reduceEqDiff, if_false, if_true, reduceIte]) | (refine awp_region tabOk rfl ?_; simp only [prep, pickO, List.map_cons, List.map_nil, List.getElem?_toArray, List.getElem?_cons_succ, List.getElem?_cons_zero, Option.bind_some, Option.map_some]) | ((with_reducible refine And.intro (?_ : enters Try.prog 20) ?_); (focus exact Try.call20); (refine callX_satH pick_sat ?_); simp only [go_sem, and_assoc, List.nil_append, List.append_nil, List.cons_append, Nat.reduceEqDiff, reduceIte, reduceCtorEq, h0, h1, hj, hne]) | fail)
  refine ⟨L, lim, q, rfl, hL.1, hL.2, hbs, hq, by omega, ?_⟩
  intro v hv0 hv1
  repeat' (first | ((with_reducible refine hK _ ?_); clear hK K) | ((with_reducible refine aord_plain fun K hK => ?_); simp only [go_sem, Nat.reduceAdd, Nat.reduceMul, Nat.reduceEqDiff, Nat.reduceLT, reduceIte, reduceCtorEq, h0, h1, hj, hne]) | ((first | with_reducible refine aord_nil ?_ | refine awp_skip ?_ | refine awp_exit ?_ | refine awp_ret ?_); try simp only [thenA_normal, thenA_exit, thenA_goto, thenA_ret, blockA_normal, blockA_same, blockA_exit, blockA_goto, blockA_ret, Nat.reduceEqDiff, if_false, if_true, reduceIte]) | ((with_reducible refine And.intro ?_ ?_); (focus omega)) | (simp only [doneH]; simp only [ressK, resK, wrapR, go_sem, Nat.reduceAdd, Nat.reduceMul, Nat.reduceEqDiff, Nat.reduceLT, reduceIte, reduceCtorEq]) | fail)
  exact hQ v.toNat (by omega)


end Go.Proofs.Ytcegfpkfhcjfcaa
