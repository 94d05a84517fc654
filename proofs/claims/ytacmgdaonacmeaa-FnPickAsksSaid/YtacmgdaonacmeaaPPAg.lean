/- Contracts of functions of the program. -/
import Derived.Test.YtacmgdaonacmeaaPPAf
import Derived.ScopeJumps
namespace Go.Proofs.Ytacmgdaonacmeaa
open Go Go.Ab
set_option linter.all false
set_option maxHeartbeats 4000000

theorem drawPickAsks_sat : SatH Try.prog 22 (fun al h n K => ∃ (bs : List Int), al = [.sl 0 0 bs.length 1 none] ∧ (n = 1) ∧ (h 0 = some ⟨false, .ints .u8 bs⟩) ∧ (bs.length ≤ 1099511627776) ∧ (bytesOk bs) ∧ ∀ (H : Hp) (N A : Nat) (z : Int) (fs : List (Int × Int)) (c : Int), -1 ≤ z ∧ z ≤ 6 → fs.length ≤ 8 → H A = some ⟨true, .ints .i64 (flF fs)⟩ → A < N → K (.tup [.val (.int .i64 z), .sl A 0 fs.length 2 none, .val (.int .i64 c)]) (H) (N)) := by
  refine satH_intro tabOk Try.func22 rfl 26 rfl [.tmp 2, .tmp 3, .tmp 4] rfl ?_
  rintro F W h n al K0 ⟨bs, rfl, hn, h0, hL, hbs, hQ⟩
  refine ⟨Nat.le_of_ble_eq_true rfl, fun m0 hm0 hcl hlt => ?_⟩
  simp only [initT]
  subst hn


  repeat' (first | refine awp_seq_k fun K hK => ?_ | ((with_reducible refine hK _ ?_); clear hK K) | ((with_reducible refine aord_plain fun K hK => ?_); simp only [go_sem, Nat.reduceAdd, Nat.reduceMul, Nat.reduceEqDiff, Nat.reduceLT, reduceIte, reduceCtorEq, h0, nmA, Nat.reduceAdd, ifA, ifB, h0, mat.matL]) | ((first | with_reducible refine aord_nil ?_ | refine awp_skip ?_ | refine awp_exit ?_ | refine awp_ret ?_); try simp only [rdA, Nat.reduceEqDiff, ifA, ifB, reduceIte]) | (refine awp_region tabOk rfl ?_; simp only [prep, pickO, lsA, lsB, lsC, lsD, lsE, lsF, lsG]) | ((with_reducible apply awp_cond); (focus (simp only [St.ev, St.set, upd, Nat.reduceEqDiff, reduceIte, ifA, ifB, h0, nmA, Nat.reduceAdd, ifA, ifB]; exact rfl)); all_goals (intro hb; first | (cases hb; done) | ((try rw [hb]); (try simp only [dcA, dcB, dcC, dcD, dcE, Bool.not_eq_true', Bool.not_eq_false'] at hb)))) | ((with_reducible refine And.intro ?_ ?_); (focus omega)) | ((with_reducible refine And.intro (?_ : enters Try.prog 40) ?_); (focus exact Try.call40); (refine callX_satH someFacts4_sat ?_); simp only [go_sem, and_assoc, List.nil_append, List.append_nil, List.cons_append, Nat.reduceEqDiff, reduceIte, reduceCtorEq, h0, nmA, Nat.reduceAdd, ifA, ifB, h0, mat.matL]) | ((with_reducible refine And.intro (?_ : enters Try.prog 41) ?_); (focus exact Try.call41); (refine callX_h (callH_inline tabOk Try.func41 rfl 11 rfl [.tmp 2] rfl (Nat.le_of_ble_eq_true rfl) fun m0 hm0 hcl hlt => ?_)); simp only [initT, St.ev, St.set, upd, Nat.reduceEqDiff, reduceIte, ifA, ifB, h0, nmA, Nat.reduceAdd, ifA, ifB]) | (simp only [rBuild]; simp only [fillA, Nat.reduceLeDiff, List.getElem?_cons_zero, List.getElem?_cons_succ, List.drop_succ_cons, List.drop_nil, List.take_nil, List.cons_append, Option.isSome_some, go_sem, Nat.reduceAdd, Nat.reduceMul, Nat.reduceEqDiff, Nat.reduceLT, reduceIte, reduceCtorEq, h0, nmA, Nat.reduceAdd, ifA, ifB]) | (simp only [doneH]; simp only [ressK, resK, wrapR, go_sem, Nat.reduceAdd, Nat.reduceMul, Nat.reduceEqDiff, Nat.reduceLT, reduceIte, reduceCtorEq, h0, nmA, Nat.reduceAdd, ifA, ifB]) | fail)
  all_goals (
    refine ⟨_, _, 0, rfl, by omega, by omega, hbs, by omega, ?_⟩
    intro z fs r hz hfs hr)
  repeat' (first | refine awp_seq_k fun K hK => ?_ | ((with_reducible refine hK _ ?_); clear hK K) | ((with_reducible refine aord_plain fun K hK => ?_); simp only [go_sem, Nat.reduceAdd, Nat.reduceMul, Nat.reduceEqDiff, Nat.reduceLT, reduceIte, reduceCtorEq, h0, nmA, Nat.reduceAdd, ifA, ifB, h0, mat.matL]) | ((first | with_reducible refine aord_nil ?_ | refine awp_skip ?_ | refine awp_exit ?_ | refine awp_ret ?_); try simp only [rdA, Nat.reduceEqDiff, ifA, ifB, reduceIte]) | (refine awp_region tabOk rfl ?_; simp only [prep, pickO, lsA, lsB, lsC, lsD, lsE, lsF, lsG]) | ((with_reducible refine And.intro (?_ : enters Try.prog 49) ?_); (focus exact Try.call49); (refine callX_satH pick_sat ?_); simp only [go_sem, and_assoc, List.nil_append, List.append_nil, List.cons_append, Nat.reduceEqDiff, reduceIte, reduceCtorEq, h0, nmA, Nat.reduceAdd, ifA, ifB, h0, mat.matL]) | fail)
  all_goals (
    refine ⟨_, _, r, rfl, by omega, by omega, hbs, by omega, by decide, ?_⟩
    intro v hv0 hv1)
  repeat' (first | refine awp_seq_k fun K hK => ?_ | ((with_reducible refine hK _ ?_); clear hK K) | ((with_reducible refine aord_plain fun K hK => ?_); simp only [go_sem, Nat.reduceAdd, Nat.reduceMul, Nat.reduceEqDiff, Nat.reduceLT, reduceIte, reduceCtorEq, h0, nmA, Nat.reduceAdd, ifA, ifB, h0, mat.matL]) | ((first | with_reducible refine aord_nil ?_ | refine awp_skip ?_ | refine awp_exit ?_ | refine awp_ret ?_); try simp only [rdA, Nat.reduceEqDiff, ifA, ifB, reduceIte]) | (refine awp_region tabOk rfl ?_; simp only [prep, pickO, lsA, lsB, lsC, lsD, lsE, lsF, lsG]) | ((with_reducible apply awp_cond); (focus (simp only [St.ev, St.set, upd, Nat.reduceEqDiff, reduceIte, ifA, ifB, h0, nmA, Nat.reduceAdd, ifA, ifB]; exact rfl)); all_goals (intro hb; first | (cases hb; done) | ((try rw [hb]); (try simp only [dcA, dcB, dcC, dcD, dcE, Bool.not_eq_true', Bool.not_eq_false'] at hb)))) | ((with_reducible refine And.intro ?_ ?_); (focus omega)) | ((with_reducible refine And.intro (?_ : enters Try.prog 63) ?_); (focus exact Try.call63); (refine callX_satH one_sat ?_); simp only [go_sem, and_assoc, List.nil_append, List.append_nil, List.cons_append, Nat.reduceEqDiff, reduceIte, reduceCtorEq, h0, nmA, Nat.reduceAdd, ifA, ifB, h0, mat.matL]) | fail)
  all_goals try (
    refine ⟨_, _, ⟨rfl, rfl⟩, Nat.le_of_ble_eq_true rfl, ?_⟩
    (try dsimp only))
  repeat' (first | refine awp_seq_k fun K hK => ?_ | ((with_reducible refine hK _ ?_); clear hK K) | ((with_reducible refine aord_plain fun K hK => ?_); simp only [go_sem, Nat.reduceAdd, Nat.reduceMul, Nat.reduceEqDiff, Nat.reduceLT, reduceIte, reduceCtorEq, h0, nmA, Nat.reduceAdd, ifA, ifB, h0, mat.matL]) | ((first | with_reducible refine aord_nil ?_ | refine awp_skip ?_ | refine awp_exit ?_ | refine awp_ret ?_); try simp only [rdA, Nat.reduceEqDiff, ifA, ifB, reduceIte]) | (refine awp_region tabOk rfl ?_; simp only [prep, pickO, lsA, lsB, lsC, lsD, lsE, lsF, lsG]) | ((with_reducible refine And.intro ?_ ?_); (focus omega)) | ((with_reducible refine And.intro (?_ : enters Try.prog 63) ?_); (focus exact Try.call63); (refine callX_satH one_sat ?_); simp only [go_sem, and_assoc, List.nil_append, List.append_nil, List.cons_append, Nat.reduceEqDiff, reduceIte, reduceCtorEq, h0, nmA, Nat.reduceAdd, ifA, ifB, h0, mat.matL]) | fail)
  all_goals (
    refine ⟨_, _, _, r + 1, rfl, by omega, by omega, hbs, rfl, rfl, by omega, by omega, by omega, ?_⟩
    intro w hw
    generalize ([0, 1, z - 1, 2, -1] : List Int).getD w 0 = c)
  repeat' (first | ((with_reducible refine hK _ ?_); clear hK K) | ((with_reducible refine aord_plain fun K hK => ?_); simp only [go_sem, Nat.reduceAdd, Nat.reduceMul, Nat.reduceEqDiff, Nat.reduceLT, reduceIte, reduceCtorEq, h0, nmA, Nat.reduceAdd, ifA, ifB, h0, mat.matL]) | ((first | with_reducible refine aord_nil ?_ | refine awp_skip ?_ | refine awp_exit ?_ | refine awp_ret ?_); try simp only [rdA, Nat.reduceEqDiff, ifA, ifB, reduceIte]) | (simp only [doneH]; simp only [ressK, resK, wrapR, go_sem, Nat.reduceAdd, Nat.reduceMul, Nat.reduceEqDiff, Nat.reduceLT, reduceIte, reduceCtorEq, h0, nmA, Nat.reduceAdd, ifA, ifB]) | fail)
  all_goals first
    | exact hQ _ _ 3 z [] c hz (by simp) (by (repeat (first | rw [upd_same] | rw [upd_ne _ _ (by omega)])); rfl) (by omega)
    | exact hQ _ _ 2 z fs c hz hfs (by (repeat (first | rw [upd_same] | rw [upd_ne _ _ (by omega)]))) (by omega)


theorem implLeastAsksA_sat : SatH Try.prog 17 (fun al h n K => ∃ (z : Int) (fa : AV) (fs : List (Int × Int)), al = [.val (.int .i64 z), fa] ∧ FArg h fa fs ∧ fs.length ≤ 1099511627776 ∧ ∀ (H : Hp) (N : Nat), (∀ u, u < n → H u = h u) → n ≤ N → K (.val (.int .i64 (leA z fs))) H N) := by
  rintro F W h n al K ⟨z, fa, fs, rfl, hF, hl, hQ⟩
  rcases hF with ⟨A, b, rfl, hA⟩ | ⟨rfl, rfl⟩
  · exact implLeastAsks_sat F W h n _ K ⟨z, A, b, fs, rfl, hA, hl, fun N hN => hQ h N (fun _ _ => rfl) hN⟩
  · refine aCallH_nil (es := 2) ?_
    refine implLeastAsks_sat F W _ _ _ K ⟨z, n, true, [], rfl, upd_same _ _ _, by simp, fun N hN => hQ _ N (fun u hu => upd_ne _ _ (by omega)) (by omega)⟩


theorem aCallH_nil3 {P : Program} {B : Bool} {S : List Snap} {f : FuncId} {h : Hp} {n es : Nat} {z y : Value} {K : AV → Hp → Nat → Prop} (H : aCallH P B S f (upd h n (some ⟨true, .ints .i64 []⟩)) (n + 1) [.val z, .sl n 0 0 es none, .val y] K) : aCallH P B S f h n [.val z, .val (.slice none 0 0), .val y] K := fun F W m xs w hS hs hr => by
  have hm := hs.mono_next (⟨0, 0, 0, []⟩ : Ab.Loc)
  have hf : ∀ o, (Cont.ints .i64 []).flat o = [] := fun o => rfl
  have hadd : Sim F W (upd m n (some ⟨0, 0, 0, []⟩)) (upd h n (some ⟨true, .ints .i64 []⟩)) (n + 1) w :=
    hs.add [] rfl rfl rfl (Nat.le_refl _) (fun _ _ _ => rfl) (by simp) (by simp) ⟨0, 0, 0, []⟩ ⟨true, .ints .i64 []⟩ rfl (by simp [blks]) (by simp [blks]) (by simp [blks]) (by simp [hf])
      ⟨fun j a hj => (by rw [hf] at hj; simp at hj), trivial⟩ ⟨rfl, fun h => absurd rfl h, trivial⟩
  match xs, hr with
  | [x1, x2, x3], hr =>
    simp only [RepL, Rep, and_true] at hr
    have hr2 : RepL (upd m n (some ⟨0, 0, 0, []⟩)) [.val z, .sl n 0 0 es none, .val y] [x1, x2, x3] := by
      simp only [RepL, Rep, and_true]
      exact ⟨hr.1, ⟨_, upd_same _ _ _, none, 0, hr.2.1, Nat.le_refl _, fun h => absurd rfl h, Nat.zero_add _ ▸ Nat.zero_mul _⟩, hr.2.2⟩
    exact (H F W _ _ w (fun p hp => (hS p hp).mono hm) hadd hr2).mono fun e w' ⟨v, he, m', a, h', n', q1, q2, q3, q4, q5⟩ => ⟨v, he, m', a, h', n', q1, q2, q3, fun o l h => q4 o l (hm o l h), fun h => by cases h⟩
theorem swF_take {fs : List (Int × Int)} {i : Nat} (hi : i < fs.length) : swF (fs.take (i + 1)) = swF (fs.take i) ++ [((fs.getD i (0, 0)).2, (fs.getD i (0, 0)).1)] := by
  unfold swF
  rw [tk_snoc hi, List.map_append]; rfl


theorem implPickAsksA_sat : SatH Try.prog 23 (fun al h n K => ∃ (z : Int) (fa : AV) (fs : List (Int × Int)) (k : Int), al = [.val (.int .i64 z), fa, .val (.int .i64 k)] ∧ FArg h fa fs ∧ fs.length ≤ 1099511627776 ∧ ∀ (H : Hp) (N : Nat), (∀ u, u < n → H u = h u) → n ≤ N → K (.val (.int .i64 (piA z fs k))) H N) := by
  rintro F W h n al K ⟨z, fa, fs, k, rfl, hF, hl, hQ⟩
  rcases hF with ⟨A, b, rfl, hA⟩ | ⟨rfl, rfl⟩
  · exact implPickAsks_sat F W h n _ K ⟨z, A, b, fs, k, rfl, hA, hl, fun N hN => hQ h N (fun _ _ => rfl) hN⟩
  · refine aCallH_nil3 (es := 2) ?_
    refine implPickAsks_sat F W _ _ _ K ⟨z, n, true, [], k, rfl, upd_same _ _ _, by simp, fun N hN => hQ _ N (fun u hu => upd_ne _ _ (by omega)) (by omega)⟩


theorem FnPickAsks_sat : Sat Try.prog 5 (fun ds Q => ∃ bs, ds = [.row (.ints .u8 bs)] ∧ bs.length ≤ 9223372036854775807 ∧ bytesOk bs ∧ Q (.val (.bool true))) := by
  refine sat_intro tabOk Try.func5 rfl 82 rfl [.tmp 2] rfl ?_
  rintro ds Q W ⟨bs, rfl, hlen, hbs, hQ⟩
  refine ⟨Nat.le_of_ble_eq_true rfl, ?_⟩
  simp only [initS, initT, mat.matL, mat, Cont.len]
  repeat' (first | refine awp_seq_k fun K hK => ?_ | ((with_reducible refine hK _ ?_); clear hK K) | ((with_reducible refine aord_plain fun K hK => ?_); simp only [go_sem, Nat.reduceAdd, Nat.reduceMul, Nat.reduceEqDiff, Nat.reduceLT, reduceIte, reduceCtorEq, mat.matL, Int.toNat_zero]) | ((first | with_reducible refine aord_nil ?_ | refine awp_skip ?_ | refine awp_exit ?_ | refine awp_ret ?_); try simp only [rdA, Nat.reduceEqDiff, ifA, ifB, reduceIte]) | (refine awp_region tabOk rfl ?_; simp only [prep, pickO, lsA, lsB, lsC, lsD, lsE, lsF, lsG]) | ((with_reducible apply awp_cond); (focus (simp only [St.ev, St.set, upd, Nat.reduceEqDiff, reduceIte, ifA, ifB]; exact rfl)); all_goals (intro hb; first | (cases hb; done) | ((try rw [hb]); (try simp only [dcA, dcB, dcC, dcD, dcE, Bool.not_eq_true', Bool.not_eq_false'] at hb)))) | ((with_reducible refine And.intro (?_ : enters Try.prog 22) ?_); (focus exact Try.call22); (refine callX_satH drawPickAsks_sat ?_); simp only [go_sem, and_assoc, List.nil_append, List.append_nil, List.cons_append, Nat.reduceEqDiff, reduceIte, reduceCtorEq, mat.matL, Int.toNat_zero]) | fail)
  · simp only [St.set, St.ev, doneQ, doneH, ressK, resK, wrapR, AV.ids, AV.idsL, retK, retsK, upd, Nat.reduceEqDiff, reduceIte, ifA, ifB, List.nodup_nil, List.nodup_cons, List.not_mem_nil, not_false_eq_true, true_and, and_true, exists_eq_left', Option.some.injEq, rLoad, cellOf, tab, Ty.isAgg, Ty.one, Bool.false_eq_true]
    exact hQ
  refine ⟨bs, rfl, rfl, by omega, hbs, fun H N0 A z fs k hz hfs HA hAN => ?_⟩
  have hfl := flF_len fs
  have eb : (piA z fs k != piA z fs k) = false := bne_self_eq_false _
  have eb2 : (piA z fs k == piA z fs k) = true := beq_self_eq_true _


  repeat' (first | refine awp_seq_k fun K hK => ?_ | ((with_reducible refine hK _ ?_); clear hK K) | ((with_reducible refine aord_plain fun K hK => ?_); simp only [go_sem, Nat.reduceAdd, Nat.reduceMul, Nat.reduceEqDiff, Nat.reduceLT, reduceIte, reduceCtorEq, HA, nmA, Nat.reduceAdd, ifA, ifB, HA, mat.matL]) | ((first | with_reducible refine aord_nil ?_ | refine awp_skip ?_ | refine awp_exit ?_ | refine awp_ret ?_); try simp only [rdA, Nat.reduceEqDiff, ifA, ifB, reduceIte]) | (refine awp_region tabOk rfl ?_; simp only [prep, pickO, lsA, lsB, lsC, lsD, lsE, lsF, lsG]) | ((with_reducible refine And.intro (?_ : enters Try.prog 23) ?_); (focus exact Try.call23); (refine callX_satH implPickAsksA_sat ?_); simp only [go_sem, and_assoc, List.nil_append, List.append_nil, List.cons_append, Nat.reduceEqDiff, reduceIte, reduceCtorEq, HA, nmA, Nat.reduceAdd, ifA, ifB, HA, mat.matL]) | fail)
  refine ⟨fs, .inl ⟨A, true, rfl, HA⟩, by omega, fun H1 N1 f1 hN1 => ?_⟩
  have HA1 : H1 A = some ⟨true, .ints .i64 (flF fs)⟩ := (f1 A (by omega)).trans HA


  repeat' (first | refine awp_seq_k fun K hK => ?_ | ((with_reducible refine hK _ ?_); clear hK K) | ((with_reducible refine aord_plain fun K hK => ?_); simp only [go_sem, Nat.reduceAdd, Nat.reduceMul, Nat.reduceEqDiff, Nat.reduceLT, reduceIte, reduceCtorEq, HA1, nmA, Nat.reduceAdd, ifA, ifB, HA1, mat.matL]) | ((first | with_reducible refine aord_nil ?_ | refine awp_skip ?_ | refine awp_exit ?_ | refine awp_ret ?_); try simp only [rdA, Nat.reduceEqDiff, ifA, ifB, reduceIte]) | (refine awp_region tabOk rfl ?_; simp only [prep, pickO, lsA, lsB, lsC, lsD, lsE, lsF, lsG]) | ((with_reducible refine And.intro (?_ : enters Try.prog 24) ?_); (focus exact Try.call24); (refine callX_satH specPickAsks_sat ?_); simp only [go_sem, and_assoc, List.nil_append, List.append_nil, List.cons_append, Nat.reduceEqDiff, reduceIte, reduceCtorEq, HA1, nmA, Nat.reduceAdd, ifA, ifB, HA1, mat.matL]) | fail)
  refine ⟨true, fs, rfl, rfl, rfl, by omega, fun N2 hN2 => ?_⟩
  by_cases hG : VF z fs ∧ z ≤ 4 ∧ 0 ≤ k ∧ k < z
  · obtain ⟨hV, h4, hk0, hkz⟩ := hG
    obtain ⟨d, rfl⟩ : ∃ d : Nat, z = d := ⟨z.toNat, by omega⟩
    obtain ⟨kk, rfl⟩ : ∃ kk : Nat, k = kk := ⟨k.toNat, by omega⟩
    have hd4 : d ≤ 4 := by omega
    have hkd : kk < d := by omega
    have eP := piA_yes hV hd4 hkd
    have eL := leA_yes hV hd4
    have b1 := pi_le (k := kk) hV
    have b2 := pi_sw hV hkd
    have eS := piA_yes (VF_sw hV) hd4 (show d - 1 - kk < d by omega)
    have eZ := piA_yes (VF_nil (d := d) (by omega)) hd4 (show 0 < d by omega)
    have b3 := pi_nil (show 1 ≤ d by omega) hd4
    have en : decide (piA d fs kk < 0) = false := decide_eq_false (by omega)
    have q1 : decide (piA d fs kk ≤ leA d fs) = true := decide_eq_true (by omega)
    have q2 : (piA d (swF fs) ((d : Int) - 1 - (kk : Int)) == piA d fs kk) = true := by
      rw [beq_iff_eq, show (d : Int) - 1 - (kk : Int) = ((d - 1 - kk : Nat) : Int) by omega]; omega
    have q3 : (piA d [] 0 == (d : Int) - 1) = true := by
      rw [beq_iff_eq, show (0 : Int) = ((0 : Nat) : Int) from rfl]; omega
    clear eP eL b1 b2 eS eZ b3


    repeat' (first | refine awp_seq_k fun K hK => ?_ | ((with_reducible refine hK _ ?_); clear hK K) | ((with_reducible refine aord_plain fun K hK => ?_); simp only [go_sem, Nat.reduceAdd, Nat.reduceMul, Nat.reduceEqDiff, Nat.reduceLT, reduceIte, reduceCtorEq, HA1, eb, en, nmA, Nat.reduceAdd, ifA, ifB, HA1, mat.matL, eb, en]) | ((with_reducible apply aord_guard); (focus (simp only [St.ev, St.set, upd, Nat.reduceEqDiff, reduceIte, ifA, ifB, HA1, eb, en, nmA, Nat.reduceAdd, ifA, ifB]; exact rfl)); all_goals (intro hb; (try simp only [Bool.not_true, Bool.not_false] at hb); first | (cases hb; done) | ((try rw [hb]); (try simp only [Bool.not_eq_true', Bool.not_eq_false', Bool.and_eq_true, dcA, dcB, dcC, dcD, dcE] at hb); (try (revert hb; with_reducible refine true_imp_iff.2 ?_)); first | (intro K hK; simp only [go_sem, Nat.reduceAdd, Nat.reduceMul, Nat.reduceEqDiff, Nat.reduceLT, reduceIte, reduceCtorEq, HA1, eb, en, nmA, Nat.reduceAdd, ifA, ifB]) | (simp only [St.ev, St.set, upd, Nat.reduceEqDiff, reduceIte, ifA, ifB, HA1, eb, en, nmA, Nat.reduceAdd, ifA, ifB]) | skip))) | ((first | with_reducible refine aord_nil ?_ | refine awp_skip ?_ | refine awp_exit ?_ | refine awp_ret ?_); try simp only [rdA, Nat.reduceEqDiff, ifA, ifB, reduceIte]) | (refine awp_region tabOk rfl ?_; simp only [prep, pickO, lsA, lsB, lsC, lsD, lsE, lsF, lsG]) | ((with_reducible apply awp_cond); (focus (simp only [St.ev, St.set, upd, Nat.reduceEqDiff, reduceIte, ifA, ifB, HA1, eb, en, nmA, Nat.reduceAdd, ifA, ifB]; exact rfl)); all_goals (intro hb; first | (cases hb; done) | ((try rw [hb]); (try simp only [dcA, dcB, dcC, dcD, dcE, Bool.not_eq_true', Bool.not_eq_false'] at hb)))) | fail)
    refine ⟨_, _, ⟨rfl, rfl⟩, Nat.le_of_ble_eq_true rfl, ?_⟩
    (try dsimp only)
    repeat' (first | refine awp_seq_k fun K hK => ?_ | ((with_reducible refine hK _ ?_); clear hK K) | ((with_reducible refine aord_plain fun K hK => ?_); simp only [go_sem, Nat.reduceAdd, Nat.reduceMul, Nat.reduceEqDiff, Nat.reduceLT, reduceIte, reduceCtorEq, HA1, eb, en, nmA, Nat.reduceAdd, ifA, ifB, HA1, mat.matL, eb, en]) | refine awp_block ?_ | ((first | with_reducible refine aord_nil ?_ | refine awp_skip ?_ | refine awp_exit ?_ | refine awp_ret ?_); try simp only [rdA, Nat.reduceEqDiff, ifA, ifB, reduceIte]) | (refine awp_region tabOk rfl ?_; simp only [prep, pickO, lsA, lsB, lsC, lsD, lsE, lsF, lsG]) | fail)
    refine awp_loop (fun q : Hp × Nat × Nat × Nat => ⟨upd (upd (upd (upd (upd (upd bot 8 (.val (.int .i64 q.2.2.2))) 7 (.sl q.2.2.1 0 q.2.2.2 2 none)) 6 (.val (.int .i64 (piA d fs kk)))) 5 (.val (.int .i64 kk))) 4 (.sl A 0 fs.length 2 none)) 3 (.val (.int .i64 d)), q.1, q.2.1⟩) (fun q => q.2.2.2 ≤ fs.length ∧ q.1 q.2.2.1 = some ⟨true, .ints .i64 (flF (swF (fs.take q.2.2.2)))⟩ ∧ (∀ u, u < N2 → q.1 u = H1 u) ∧ N2 ≤ q.2.2.1 ∧ q.2.2.1 < q.2.1) (fun q => fs.length - q.2.2.2) (upd H1 N2 (some ⟨true, .ints .i64 []⟩), N2 + 1, N2, 0) ⟨Nat.zero_le _, upd_same _ _ _, fun u hu => upd_ne _ _ (by omega), Nat.le_refl _, by dsimp only; omega⟩ ?_ ?_
    · exact Wk.sub (tsd (tsd (tsd (tsd (tsd (tsd tsd0 rfl) rfl) rfl) rfl) rfl) rfl) (fun _ _ h => h) rfl
    rintro ⟨G, M, O, i⟩ ⟨hif, hO, hfr, hNO, hOM⟩
    dsimp only at hif hO hfr hNO hOM ⊢
    have HAG : G A = some ⟨true, .ints .i64 (flF fs)⟩ := (hfr A (by omega)).trans HA1
    rcases Nat.lt_or_ge i fs.length with hlt2 | hge
    · obtain ⟨g1, g2⟩ := flF_get hlt2
      have hsw := swF_take hlt2
      have hsl : (swF (fs.take i)).length = i := by rw [swF_len, List.length_take]; omega
      have hfl2 := flF_len (swF (fs.take i))
      rw [hsl] at hfl2
      generalize hLL : swF (fs.take i) = L at *
      have m1 : (O = M) = False := eq_false (by omega)
      have m2 : (M = O) = False := eq_false (by omega)
      have m3 : (A = M) = False := eq_false (by omega)
      have m4 : (M = A) = False := eq_false (by omega)
      have m5 : (A = O) = False := eq_false (by omega)
      have m6 : (O = A) = False := eq_false (by omega)


      repeat' (first | refine awp_seq_k fun K hK => ?_ | ((with_reducible refine hK _ ?_); clear hK K) | (clear hK K; (with_reducible refine hK _ ?_); clear hK K) | ((with_reducible refine aord_plain fun K hK => ?_); simp only [go_sem, Nat.reduceAdd, Nat.reduceMul, Nat.reduceEqDiff, Nat.reduceLT, reduceIte, reduceCtorEq, HAG, hO, m1, m2, m3, m4, m5, m6, nmA, Nat.reduceAdd, ifA, ifB, HAG, hO, m1, m2, m3, m4, m5, m6, hfl, mat.matL]) | refine awp_block ?_ | ((first | with_reducible refine aord_nil ?_ | refine awp_skip ?_ | refine awp_exit ?_ | refine awp_ret ?_); try simp only [rdA, Nat.reduceEqDiff, ifA, ifB, reduceIte]) | (refine awp_region tabOk rfl ?_; simp only [prep, pickO, lsA, lsB, lsC, lsD, lsE, lsF, lsG]) | (refine awp_region_draw (nt := 82) (id := 11) tabOk [(0, true, false), (1, true, false), (2, true, false), (3, true, false), (4, true, false), (5, true, false), (6, true, false), (7, true, false), (8, true, false), (9, true, false), (10, true, false), (11, true, false), (12, false, false), (13, false, true), (14, true, false)] (by kernel_rfl) rfl (by kernel_rfl) ?_; simp only [prep, pickO, lsA, lsB, lsC, lsD, lsE, lsF, lsG]) | ((with_reducible apply awp_cond); (focus (simp only [St.ev, St.set, upd, Nat.reduceEqDiff, reduceIte, ifA, ifB, HAG, hO, m1, m2, m3, m4, m5, m6, nmA, Nat.reduceAdd, ifA, ifB]; exact rfl)); all_goals (intro hb; first | (cases hb; done) | ((try rw [hb]); (try simp only [dcA, dcB, dcC, dcD, dcE, Bool.not_eq_true', Bool.not_eq_false'] at hb)))) | ((with_reducible refine And.intro ?_ ?_); (focus omega)) | (simp only [rBuild]; simp only [fillA, Nat.reduceLeDiff, List.getElem?_cons_zero, List.getElem?_cons_succ, List.drop_succ_cons, List.drop_nil, List.take_nil, List.cons_append, Option.isSome_some, go_sem, Nat.reduceAdd, Nat.reduceMul, Nat.reduceEqDiff, Nat.reduceLT, reduceIte, reduceCtorEq, HAG, hO, m1, m2, m3, m4, m5, m6, nmA, Nat.reduceAdd, ifA, ifB]) | (exfalso; omega) | fail)
      all_goals (
        refine ⟨_, _, ⟨rfl, rfl⟩, Nat.le_of_ble_eq_true rfl, ?_⟩
        (try dsimp only))
      repeat' (first | ((with_reducible refine hK _ ?_); clear hK K) | ((with_reducible refine aord_plain fun K hK => ?_); simp only [go_sem, Nat.reduceAdd, Nat.reduceMul, Nat.reduceEqDiff, Nat.reduceLT, reduceIte, reduceCtorEq, HAG, hO, m1, m2, m3, m4, m5, m6, nmA, Nat.reduceAdd, ifA, ifB, HAG, hO, m1, m2, m3, m4, m5, m6, hfl, mat.matL]) | fail)
      all_goals (refine aAppendE_ints rfl rfl rfl rfl (Nat.le_of_ble_eq_true rfl) (by decide) (by decide) (by (try dsimp only); (repeat (first | rw [upd_same] | rw [upd_ne _ _ (by omega)]))) (by (try dsimp only); (repeat (first | rw [upd_same] | rw [upd_ne _ _ (by omega)])); exact hO) hfl2 rfl (by decide) (by omega) ?_)
      repeat' (first | ((with_reducible refine hK _ ?_); clear hK K) | ((with_reducible refine aord_plain fun K hK => ?_); simp only [go_sem, Nat.reduceAdd, Nat.reduceMul, Nat.reduceEqDiff, Nat.reduceLT, reduceIte, reduceCtorEq, HAG, hO, m1, m2, m3, m4, m5, m6, nmA, Nat.reduceAdd, ifA, ifB, HAG, hO, m1, m2, m3, m4, m5, m6, hfl, mat.matL]) | ((first | with_reducible refine aord_nil ?_ | refine awp_skip ?_ | refine awp_exit ?_ | refine awp_ret ?_); try simp only [rdA, Nat.reduceEqDiff, ifA, ifB, reduceIte]) | (refine awp_region tabOk rfl ?_; simp only [prep, pickO, lsA, lsB, lsC, lsD, lsE, lsF, lsG]) | ((with_reducible refine And.intro ?_ ?_); (focus omega)) | fail)
      all_goals (
        refine ⟨(upd (upd (upd G M (some ⟨true, .ints .i64 [(flF fs).getD (i * 2 + 1) 0, (flF fs).getD (i * 2) 0]⟩)) O none) (M + 1) (some ⟨true, .ints .i64 (flF L ++ [(flF fs).getD (i * 2 + 1) 0, (flF fs).getD (i * 2) 0])⟩), M + 2, M + 1, i + 1), ⟨by dsimp only; omega, ?_, fun u hu => ?_, by dsimp only; omega, by dsimp only; omega⟩, by dsimp only; omega, Wk.sub (tsd (tsd (tsd (tsd (tsd (tsd tsd0 rfl) rfl) rfl) rfl) rfl) rfl) (fun _ _ h => h) rfl⟩
        · dsimp only
          rw [hsw, upd_same, flF_app, g1, g2]; rfl
        · dsimp only
          rw [upd_ne _ _ (by omega), upd_ne _ _ (by omega), upd_ne _ _ (by omega)]
          exact hfr u hu)
    · have ei : fs.length = i := by omega
      subst ei
      rw [List.take_length] at hO
      have hsl := swF_len fs


      repeat' (first | refine awp_seq_k fun K hK => ?_ | ((with_reducible refine hK _ ?_); clear hK K) | (clear hK K; (with_reducible refine hK _ ?_); clear hK K) | ((with_reducible refine aord_plain fun K hK => ?_); simp only [go_sem, Nat.reduceAdd, Nat.reduceMul, Nat.reduceEqDiff, Nat.reduceLT, reduceIte, reduceCtorEq, HAG, hO, q1, nmA, Nat.reduceAdd, ifA, ifB, HAG, hO, mat.matL, q1]) | refine awp_block ?_ | ((first | with_reducible refine aord_nil ?_ | refine awp_skip ?_ | refine awp_exit ?_ | refine awp_ret ?_); try simp only [rdA, Nat.reduceEqDiff, ifA, ifB, reduceIte]) | (refine awp_region tabOk rfl ?_; simp only [prep, pickO, lsA, lsB, lsC, lsD, lsE, lsF, lsG]) | (refine awp_region_draw (nt := 82) (id := 11) tabOk [(0, true, false), (1, true, false), (2, true, false), (3, true, false), (4, true, false), (5, true, false), (6, true, false), (7, true, false), (8, true, false), (9, true, false), (10, true, false), (11, true, false), (12, false, false), (13, false, true), (14, true, false)] (by kernel_rfl) rfl (by kernel_rfl) ?_; simp only [prep, pickO, lsA, lsB, lsC, lsD, lsE, lsF, lsG]) | ((with_reducible apply awp_cond); (focus (simp only [St.ev, St.set, upd, Nat.reduceEqDiff, reduceIte, ifA, ifB, HAG, hO, q1, nmA, Nat.reduceAdd, ifA, ifB]; exact rfl)); all_goals (intro hb; first | (cases hb; done) | ((try rw [hb]); (try simp only [dcA, dcB, dcC, dcD, dcE, Bool.not_eq_true', Bool.not_eq_false'] at hb)))) | ((with_reducible refine And.intro ?_ ?_); (focus omega)) | ((with_reducible refine And.intro (?_ : enters Try.prog 17) ?_); (focus exact Try.call17); (refine callX_satH implLeastAsksA_sat ?_); simp only [go_sem, and_assoc, List.nil_append, List.append_nil, List.cons_append, Nat.reduceEqDiff, reduceIte, reduceCtorEq, HAG, hO, q1, nmA, Nat.reduceAdd, ifA, ifB, HAG, hO, mat.matL, q1]) | (simp only [rBuild]; simp only [fillA, Nat.reduceLeDiff, List.getElem?_cons_zero, List.getElem?_cons_succ, List.drop_succ_cons, List.drop_nil, List.take_nil, List.cons_append, Option.isSome_some, go_sem, Nat.reduceAdd, Nat.reduceMul, Nat.reduceEqDiff, Nat.reduceLT, reduceIte, reduceCtorEq, HAG, hO, q1, nmA, Nat.reduceAdd, ifA, ifB]) | (exfalso; omega) | fail)
      refine ⟨fs, .inl ⟨A, true, rfl, HAG⟩, by omega, fun H4 N4 f4 hN4 => ?_⟩
      have HO4 : H4 O = some ⟨true, .ints .i64 (flF (swF fs))⟩ := (f4 O (by omega)).trans hO


      repeat' (first | ((with_reducible refine hK _ ?_); clear hK K) | ((with_reducible refine aord_plain fun K hK => ?_); simp only [go_sem, Nat.reduceAdd, Nat.reduceMul, Nat.reduceEqDiff, Nat.reduceLT, reduceIte, reduceCtorEq, HO4, q1, q2, nmA, Nat.reduceAdd, ifA, ifB, HO4, mat.matL, q1, q2]) | ((with_reducible apply aord_guard); (focus (simp only [St.ev, St.set, upd, Nat.reduceEqDiff, reduceIte, ifA, ifB, HO4, q1, q2, nmA, Nat.reduceAdd, ifA, ifB]; exact rfl)); all_goals (intro hb; (try simp only [Bool.not_true, Bool.not_false] at hb); first | (cases hb; done) | ((try rw [hb]); (try simp only [Bool.not_eq_true', Bool.not_eq_false', Bool.and_eq_true, dcA, dcB, dcC, dcD, dcE] at hb); (try (revert hb; with_reducible refine true_imp_iff.2 ?_)); first | (intro K hK; simp only [go_sem, Nat.reduceAdd, Nat.reduceMul, Nat.reduceEqDiff, Nat.reduceLT, reduceIte, reduceCtorEq, HO4, q1, q2, nmA, Nat.reduceAdd, ifA, ifB]) | (simp only [St.ev, St.set, upd, Nat.reduceEqDiff, reduceIte, ifA, ifB, HO4, q1, q2, nmA, Nat.reduceAdd, ifA, ifB]) | skip))) | ((with_reducible refine And.intro ?_ ?_); (focus omega)) | ((with_reducible refine And.intro (?_ : enters Try.prog 23) ?_); (focus exact Try.call23); (refine callX_satH implPickAsksA_sat ?_); simp only [go_sem, and_assoc, List.nil_append, List.append_nil, List.cons_append, Nat.reduceEqDiff, reduceIte, reduceCtorEq, HO4, q1, q2, nmA, Nat.reduceAdd, ifA, ifB, HO4, mat.matL, q1, q2]) | fail)
      refine ⟨swF fs, .inl ⟨O, true, by rw [hsl], HO4⟩, by omega, fun H5 N5 f5 hN5 => ?_⟩


      repeat' (first | ((with_reducible refine hK _ ?_); clear hK K) | ((with_reducible refine aord_plain fun K hK => ?_); simp only [go_sem, Nat.reduceAdd, Nat.reduceMul, Nat.reduceEqDiff, Nat.reduceLT, reduceIte, reduceCtorEq, q2, nmA, Nat.reduceAdd, ifA, ifB, mat.matL, q2]) | ((with_reducible apply aord_guard); (focus (simp only [St.ev, St.set, upd, Nat.reduceEqDiff, reduceIte, ifA, ifB, q2, nmA, Nat.reduceAdd, ifA, ifB]; exact rfl)); all_goals (intro hb; (try simp only [Bool.not_true, Bool.not_false] at hb); first | (cases hb; done) | ((try rw [hb]); (try simp only [Bool.not_eq_true', Bool.not_eq_false', Bool.and_eq_true, dcA, dcB, dcC, dcD, dcE] at hb); (try (revert hb; with_reducible refine true_imp_iff.2 ?_)); first | (intro K hK; simp only [go_sem, Nat.reduceAdd, Nat.reduceMul, Nat.reduceEqDiff, Nat.reduceLT, reduceIte, reduceCtorEq, q2, nmA, Nat.reduceAdd, ifA, ifB]) | (simp only [St.ev, St.set, upd, Nat.reduceEqDiff, reduceIte, ifA, ifB, q2, nmA, Nat.reduceAdd, ifA, ifB]) | skip))) | ((with_reducible refine And.intro (?_ : enters Try.prog 23) ?_); (focus exact Try.call23); (refine callX_satH implPickAsksA_sat ?_); simp only [go_sem, and_assoc, List.nil_append, List.append_nil, List.cons_append, Nat.reduceEqDiff, reduceIte, reduceCtorEq, q2, nmA, Nat.reduceAdd, ifA, ifB, mat.matL, q2]) | fail)
      refine ⟨[], .inr ⟨rfl, rfl⟩, by simp, fun H6 N6 f6 hN6 => ?_⟩


      repeat' (first | ((with_reducible refine hK _ ?_); clear hK K) | ((with_reducible refine aord_plain fun K hK => ?_); simp only [go_sem, Nat.reduceAdd, Nat.reduceMul, Nat.reduceEqDiff, Nat.reduceLT, reduceIte, reduceCtorEq, q3, nmA, Nat.reduceAdd, ifA, ifB, mat.matL, q3]) | ((with_reducible apply aord_guard); (focus (simp only [St.ev, St.set, upd, Nat.reduceEqDiff, reduceIte, ifA, ifB, q3, nmA, Nat.reduceAdd, ifA, ifB]; exact rfl)); all_goals (intro hb; (try simp only [Bool.not_true, Bool.not_false] at hb); first | (cases hb; done) | ((try rw [hb]); (try simp only [Bool.not_eq_true', Bool.not_eq_false', Bool.and_eq_true, dcA, dcB, dcC, dcD, dcE] at hb); (try (revert hb; with_reducible refine true_imp_iff.2 ?_)); first | (intro K hK; simp only [go_sem, Nat.reduceAdd, Nat.reduceMul, Nat.reduceEqDiff, Nat.reduceLT, reduceIte, reduceCtorEq, q3, nmA, Nat.reduceAdd, ifA, ifB]) | (simp only [St.ev, St.set, upd, Nat.reduceEqDiff, reduceIte, ifA, ifB, q3, nmA, Nat.reduceAdd, ifA, ifB]) | skip))) | ((first | with_reducible refine aord_nil ?_ | refine awp_skip ?_ | refine awp_exit ?_ | refine awp_ret ?_); try simp only [rdA, Nat.reduceEqDiff, ifA, ifB, reduceIte]) | ((with_reducible refine And.intro ?_ ?_); (focus omega)) | fail)
      all_goals (simp only [St.set, St.ev, doneQ, doneH, ressK, resK, wrapR, AV.ids, AV.idsL, retK, retsK, upd, Nat.reduceEqDiff, reduceIte, ifA, ifB, List.nodup_nil, List.nodup_cons, List.not_mem_nil, not_false_eq_true, true_and, and_true, exists_eq_left', Option.some.injEq, rLoad, cellOf, tab, Ty.isAgg, Ty.one, Bool.false_eq_true]; first | exact hQ | (rw [q3]; exact hQ))
  · have e1 := piA_no hG
    rw [e1] at eb eb2 ⊢


    repeat' (first | refine awp_seq_k fun K hK => ?_ | ((with_reducible refine hK _ ?_); clear hK K) | ((with_reducible refine aord_plain fun K hK => ?_); simp only [go_sem, Nat.reduceAdd, Nat.reduceMul, Nat.reduceEqDiff, Nat.reduceLT, reduceIte, reduceCtorEq, HA1, eb, eb2, nmA, Nat.reduceAdd, ifA, ifB, HA1, mat.matL, eb, eb2]) | ((with_reducible apply aord_guard); (focus (simp only [St.ev, St.set, upd, Nat.reduceEqDiff, reduceIte, ifA, ifB, HA1, eb, eb2, nmA, Nat.reduceAdd, ifA, ifB]; exact rfl)); all_goals (intro hb; (try simp only [Bool.not_true, Bool.not_false] at hb); first | (cases hb; done) | ((try rw [hb]); (try simp only [Bool.not_eq_true', Bool.not_eq_false', Bool.and_eq_true, dcA, dcB, dcC, dcD, dcE] at hb); (try (revert hb; with_reducible refine true_imp_iff.2 ?_)); first | (intro K hK; simp only [go_sem, Nat.reduceAdd, Nat.reduceMul, Nat.reduceEqDiff, Nat.reduceLT, reduceIte, reduceCtorEq, HA1, eb, eb2, nmA, Nat.reduceAdd, ifA, ifB]) | (simp only [St.ev, St.set, upd, Nat.reduceEqDiff, reduceIte, ifA, ifB, HA1, eb, eb2, nmA, Nat.reduceAdd, ifA, ifB]) | skip))) | ((first | with_reducible refine aord_nil ?_ | refine awp_skip ?_ | refine awp_exit ?_ | refine awp_ret ?_); try simp only [rdA, Nat.reduceEqDiff, ifA, ifB, reduceIte]) | (refine awp_region tabOk rfl ?_; simp only [prep, pickO, lsA, lsB, lsC, lsD, lsE, lsF, lsG]) | ((with_reducible apply awp_cond); (focus (simp only [St.ev, St.set, upd, Nat.reduceEqDiff, reduceIte, ifA, ifB, HA1, eb, eb2, nmA, Nat.reduceAdd, ifA, ifB]; exact rfl)); all_goals (intro hb; first | (cases hb; done) | ((try rw [hb]); (try simp only [dcA, dcB, dcC, dcD, dcE, Bool.not_eq_true', Bool.not_eq_false'] at hb)))) | ((with_reducible refine And.intro (?_ : enters Try.prog 24) ?_); (focus exact Try.call24); (refine callX_satH specPickAsks_sat ?_); simp only [go_sem, and_assoc, List.nil_append, List.append_nil, List.cons_append, Nat.reduceEqDiff, reduceIte, reduceCtorEq, HA1, eb, eb2, nmA, Nat.reduceAdd, ifA, ifB, HA1, mat.matL, eb, eb2]) | fail)
    refine ⟨true, fs, rfl, rfl, rfl, by omega, fun N3 hN3 => ?_⟩
    rw [e1]
    repeat' (first | ((with_reducible refine hK _ ?_); clear hK K) | ((with_reducible refine aord_plain fun K hK => ?_); simp only [go_sem, Nat.reduceAdd, Nat.reduceMul, Nat.reduceEqDiff, Nat.reduceLT, reduceIte, reduceCtorEq, HA1, eb, eb2, nmA, Nat.reduceAdd, ifA, ifB, HA1, mat.matL, eb, eb2]) | ((first | with_reducible refine aord_nil ?_ | refine awp_skip ?_ | refine awp_exit ?_ | refine awp_ret ?_); try simp only [rdA, Nat.reduceEqDiff, ifA, ifB, reduceIte]) | fail)
    all_goals (simp only [St.set, St.ev, doneQ, doneH, ressK, resK, wrapR, AV.ids, AV.idsL, retK, retsK, upd, Nat.reduceEqDiff, reduceIte, ifA, ifB, List.nodup_nil, List.nodup_cons, List.not_mem_nil, not_false_eq_true, true_and, and_true, exists_eq_left', Option.some.injEq, rLoad, cellOf, tab, Ty.isAgg, Ty.one, Bool.false_eq_true]; exact hQ)

end Go.Proofs.Ytacmgdaonacmeaa
