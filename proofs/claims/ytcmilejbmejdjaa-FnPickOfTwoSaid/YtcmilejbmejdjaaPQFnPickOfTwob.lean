/- Contracts of functions of the program. -/
import Derived.Test.YtcmilejbmejdjaaPQFnPickOfTwoa
import Derived.ScopeJumps
namespace Go.Proofs.Ytcmilejbmejdjaa
open Go Go.Ab
set_option linter.all false
set_option maxHeartbeats 4000000

theorem one_sat : SatH Try.prog 74 (fun al h n K => ∃ (bs : List Int) (L : Nat) (lim : Option Nat) (j m : Nat) (zs : List Int) (q : Nat), al = [.ref 1 0, .sl j 0 m 1 none] ∧ (h 0 = some ⟨false, .ints .u8 bs⟩) ∧ (h 1 = some ⟨true, .cells [.sl 0 0 L 1 lim, .val (.int .i64 q)]⟩) ∧ (L ≤ bs.length ∧ L ≤ 1099511627776) ∧ (bytesOk bs) ∧ (h j = some ⟨true, .ints .i64 zs⟩) ∧ (j ≠ 1) ∧ (m = zs.length ∧ 0 < m ∧ m ≤ 1000) ∧ (q ≤ 1000000) ∧ ∀ v : Nat, v < m → K (.val (.int .i64 ((zs.getD v 0)))) (upd h 1 (some ⟨true, .cells [.sl 0 0 L 1 lim, .val (.int .i64 ((q : Int) + 1))]⟩)) (n)) := by
  refine satH_intro tabOk Try.func74 rfl 12 rfl [.tmp 4] rfl ?_
  rintro F W h n al K0 ⟨bs, L, lim, j, m, zs, q, rfl, h0, h1, hL, hbs, hj, hj1, hm, hq, hQ⟩
  refine ⟨Nat.le_of_ble_eq_true rfl, fun m0 hm0 hcl hlt => ?_⟩
  simp only [initT]
  have hne : (j = 1) = False := eq_false hj1
  repeat' (first | refine awp_seq_k fun K hK => ?_ | ((with_reducible refine hK _ ?_); clear hK K) | (clear hK K; (with_reducible refine hK _ ?_); clear hK K) | (clear hK K; clear hK K; (with_reducible refine hK _ ?_); clear hK K) | (clear hK K; clear hK K; clear hK K; (with_reducible refine hK _ ?_); clear hK K) | (clear hK K; clear hK K; clear hK K; clear hK K; (with_reducible refine hK _ ?_); clear hK K) | (clear hK K; clear hK K; clear hK K; clear hK K; clear hK K; (with_reducible refine hK _ ?_); clear hK K) | ((with_reducible refine aord_plain fun K hK => ?_); simp only [go_sem, Nat.reduceAdd, Nat.reduceMul, Nat.reduceEqDiff, Nat.reduceLT, reduceIte, reduceCtorEq, h0, h1, hj, hne]) | refine awp_block ?_ | ((first | with_reducible refine aord_nil ?_ | refine awp_skip ?_ | refine awp_exit ?_ | refine awp_ret ?_); try simp only [thenA_normal, thenA_exit, thenA_goto, thenA_ret, blockA_normal, blockA_same, blockA_exit, blockA_goto, blockA_ret, Nat.reduceEqDiff, if_false, if_true, reduceIte]) | (refine awp_region tabOk rfl ?_; simp only [prep, pickO, List.map_cons, List.map_nil, List.getElem?_toArray, List.getElem?_cons_succ, List.getElem?_cons_zero, Option.bind_some, Option.map_some]) | ((with_reducible refine And.intro ?_ ?_); (focus omega)) | ((with_reducible refine And.intro ?_ ?_); (focus (exact rfl))) | ((with_reducible refine And.intro (?_ : enters Try.prog 75) ?_); (focus exact Try.call75); (refine callX_satH pick_sat ?_); simp only [go_sem, and_assoc, List.nil_append, List.append_nil, List.cons_append, Nat.reduceEqDiff, reduceIte, reduceCtorEq, h0, h1, hj, hne]) | (simp only [doneH]; simp only [ressK, resK, wrapR, go_sem, Nat.reduceAdd, Nat.reduceMul, Nat.reduceEqDiff, Nat.reduceLT, reduceIte, reduceCtorEq]) | (with_reducible refine And.intro (fun hb => ?_) (fun hb => ?_)) | (exfalso; omega) | fail)
  refine ⟨L, lim, q, rfl, hL.1, hL.2, hbs, hq, by omega, ?_⟩
  intro v hv0 hv1
  repeat' (first | refine awp_seq_k fun K hK => ?_ | ((with_reducible refine hK _ ?_); clear hK K) | (clear hK K; (with_reducible refine hK _ ?_); clear hK K) | (clear hK K; clear hK K; (with_reducible refine hK _ ?_); clear hK K) | (clear hK K; clear hK K; clear hK K; (with_reducible refine hK _ ?_); clear hK K) | (clear hK K; clear hK K; clear hK K; clear hK K; (with_reducible refine hK _ ?_); clear hK K) | (clear hK K; clear hK K; clear hK K; clear hK K; clear hK K; (with_reducible refine hK _ ?_); clear hK K) | ((with_reducible refine aord_plain fun K hK => ?_); simp only [go_sem, Nat.reduceAdd, Nat.reduceMul, Nat.reduceEqDiff, Nat.reduceLT, reduceIte, reduceCtorEq, h0, h1, hj, hne]) | refine awp_block ?_ | ((first | with_reducible refine aord_nil ?_ | refine awp_skip ?_ | refine awp_exit ?_ | refine awp_ret ?_); try simp only [thenA_normal, thenA_exit, thenA_goto, thenA_ret, blockA_normal, blockA_same, blockA_exit, blockA_goto, blockA_ret, Nat.reduceEqDiff, if_false, if_true, reduceIte]) | (refine awp_region tabOk rfl ?_; simp only [prep, pickO, List.map_cons, List.map_nil, List.getElem?_toArray, List.getElem?_cons_succ, List.getElem?_cons_zero, Option.bind_some, Option.map_some]) | ((with_reducible refine And.intro ?_ ?_); (focus omega)) | ((with_reducible refine And.intro ?_ ?_); (focus (exact rfl))) | ((with_reducible refine And.intro (?_ : enters Try.prog 75) ?_); (focus exact Try.call75); (refine callX_satH pick_sat ?_); simp only [go_sem, and_assoc, List.nil_append, List.append_nil, List.cons_append, Nat.reduceEqDiff, reduceIte, reduceCtorEq, h0, h1, hj, hne]) | (simp only [doneH]; simp only [ressK, resK, wrapR, go_sem, Nat.reduceAdd, Nat.reduceMul, Nat.reduceEqDiff, Nat.reduceLT, reduceIte, reduceCtorEq]) | (with_reducible refine And.intro (fun hb => ?_) (fun hb => ?_)) | (exfalso; omega) | fail)
  exact hQ v.toNat (by omega)


theorem scN_in {xs : List Int} (h : ∀ j, inB (xs.getD j 0) = true) (P : List Int) : ∀ k j, inB ((scN P xs k).getD j 0) = true
  | 0, j => by rw [scN, getD_rep]; rfl
  | k + 1, j => by
    rw [scN]
    by_cases e : (P.getD k 0).toNat = j
    · subst e
      by_cases hl : (P.getD k 0).toNat < (scN P xs k).length
      · rw [getD_set_same hl]; exact h k
      · rw [List.set_eq_of_length_le (by omega)]; exact scN_in h P k _
    · rw [getD_set_ne' e]; exact scN_in h P k j
theorem valid_in {xs : List Int} (h : validB xs = true) (j : Nat) : inB (xs.getD j 0) = true := by
  rcases Nat.lt_or_ge j xs.length with h1 | h1
  · cases e : inB (xs.getD j 0) with
    | true => rfl
    | false => rw [valid_not h1 e] at h; cases h
  · rw [List.getD_eq_getElem?_getD, List.getElem?_eq_none h1]; rfl
theorem valid_ord {xs : List Int} (h : validB xs = true) : validB (ordL xs) = true :=
  valid_all (by rw [ordL_len]; exact valid_len h) fun j _ => scN_in (valid_in h) _ _ j
theorem valid_take {xs : List Int} (h : validB xs = true) (k : Nat) : validB (xs.take k) = true := by
  refine valid_all (by rw [List.length_take]; have := valid_len h; omega) fun j hj => ?_
  have e : (xs.take k).getD j 0 = xs.getD j 0 := by
    rw [List.length_take] at hj
    rw [List.getD_eq_getElem?_getD, List.getD_eq_getElem?_getD, List.getElem?_take_of_lt (by omega)]
  rw [e]; exact valid_in h j


theorem invRow_nonneg (xs : List Int) (i : Nat) : ∀ k, 0 ≤ invRow xs i k
  | 0 => Int.le_refl 0
  | k + 1 => by have := invRow_nonneg xs i k; rw [invRow]; split <;> omega
theorem invRow_zero {xs : List Int} {i : Nat} : ∀ k, invRow xs i k = 0 ↔ ∀ j, j < k → i < j → xs.getD i 0 ≤ xs.getD j 0
  | 0 => ⟨fun _ j h => by omega, fun _ => rfl⟩
  | k + 1 => by
    have ih := invRow_zero (xs := xs) (i := i) k
    have h0 := invRow_nonneg xs i k
    rw [invRow]
    constructor
    · intro h j hj hij
      split at h
      · omega
      · rename_i hc
        rcases Nat.lt_or_ge j k with h1 | h1
        · exact ih.1 (by omega) j h1 hij
        · have : j = k := by omega
          subst this; omega
    · intro h
      have h1 := ih.2 fun j hj hij => h j (by omega) hij
      rw [if_neg (fun hc => by have := h k (by omega) hc.1; omega), h1]; rfl
theorem invTo_nonneg (xs : List Int) : ∀ i, 0 ≤ invTo xs i
  | 0 => Int.le_refl 0
  | i + 1 => by have := invTo_nonneg xs i; have := invRow_nonneg xs i xs.length; rw [invTo]; omega
theorem invTo_zero {xs : List Int} : ∀ i, invTo xs i = 0 ↔ ∀ a, a < i → ∀ j, j < xs.length → a < j → xs.getD a 0 ≤ xs.getD j 0
  | 0 => ⟨fun _ a h => by omega, fun _ => rfl⟩
  | i + 1 => by
    have ih := invTo_zero (xs := xs) i
    have h0 := invTo_nonneg xs i
    have h1 := invRow_nonneg xs i xs.length
    have h2 := invRow_zero (xs := xs) (i := i) xs.length
    rw [invTo]
    constructor
    · intro h a ha
      rcases Nat.lt_or_ge a i with h3 | h3
      · exact ih.1 (by omega) a h3
      · have : a = i := by omega
        subst this; exact h2.1 (by omega)
    · intro h
      have h3 := ih.2 fun a ha => h a (by omega)
      have h4 := h2.2 (h i (by omega))
      omega
theorem inv_srt (xs : List Int) : (invTo xs xs.length == 0) = srt xs := by
  have h1 := invTo_zero (xs := xs) xs.length
  cases e : srt xs with
  | true =>
    have : invTo xs xs.length = 0 := h1.2 fun a ha j hj haj => by
      obtain ⟨d, rfl⟩ : ∃ d, j = a + d := ⟨j - a, by omega⟩
      exact srt_le e hj
    rw [this]; rfl
  | false =>
    have : invTo xs xs.length ≠ 0 := fun h => by
      have := srt_iff.2 fun j hj => (h1.1 h) j (by omega) (j + 1) hj (by omega)
      rw [this] at e; cases e
    simpa using this
theorem ord_dec (xs : List Int) : decide (ordL xs = xs) = srt xs := by
  rw [srt_eq]; apply decide_eq_decide.2; exact eq_comm
theorem sq_beq (b : Bool) : (b == b) = true := by cases b <;> rfl
theorem sq_bne (b : Bool) : (b != b) = false := by cases b <;> rfl
theorem int_bne (n : Int) : (n != n) = false := by simp


theorem plN_ltK {xs : List Int} {i k : Nat} (hi : i < xs.length) (hk : k < xs.length) : plN xs i < plN xs k ↔ ltK xs i k := by
  constructor
  · intro h
    by_cases h1 : ltK xs i k
    · exact h1
    · by_cases e : i = k
      · subst e; omega
      · have h2 : ltK xs k i := by unfold ltK at h1 ⊢; omega
        have := plN_mono hk h2
        omega
  · exact plN_mono hi
theorem placesL_cast {xs : List Int} {i : Nat} (h : i < xs.length) : (placesL xs).getD i 0 = (plN xs i : Nat) := by
  rw [placesL_get h]; unfold plN; have := plC_nonneg xs i xs.length; omega
theorem plC_places {xs : List Int} {i : Nat} (hi : i < xs.length) : ∀ m, m ≤ xs.length → plC (placesL xs) i m = plC xs i m
  | 0, _ => rfl
  | m + 1, hm => by
    rw [plC, plC, plC_places hi m (by omega), placesL_cast (show m < xs.length by omega), placesL_cast hi]
    have h1 := plN_ltK (xs := xs) (i := m) (k := i) (by omega) hi
    have h2 : plN xs m = plN xs i → m = i := plN_inj (by omega) hi
    have e : ((plN xs m : Nat) : Int) < (plN xs i : Nat) ∨ (((plN xs m : Nat) : Int) = (plN xs i : Nat) ∧ m < i) ↔ xs.getD m 0 < xs.getD i 0 ∨ (xs.getD m 0 = xs.getD i 0 ∧ m < i) := by
      unfold ltK at h1; omega
    simp only [e]
theorem places_places (xs : List Int) : placesL (placesL xs) = placesL xs := by
  refine ext_getD (by rw [placesL_len]) fun j hj => ?_
  rw [placesL_len, placesL_len] at hj
  rw [placesL_get (by rw [placesL_len]; exact hj), placesL_len, plC_places hj _ (Nat.le_refl _), placesL_get hj]
theorem plN_places {xs : List Int} {i : Nat} (hi : i < xs.length) : plN (placesL xs) i = plN xs i := by
  unfold plN; rw [placesL_len, plC_places hi _ (Nat.le_refl _)]
theorem invRow_places {xs : List Int} {i : Nat} (hi : i < xs.length) : ∀ m, m ≤ xs.length → invRow (placesL xs) i m = invRow xs i m
  | 0, _ => rfl
  | m + 1, hm => by
    rw [invRow, invRow, invRow_places hi m (by omega), placesL_cast (show m < xs.length by omega), placesL_cast hi]
    have h1 := plN_ltK (xs := xs) (i := m) (k := i) (by omega) hi
    have e : (i < m ∧ ((plN xs m : Nat) : Int) < (plN xs i : Nat)) ↔ (i < m ∧ xs.getD m 0 < xs.getD i 0) := by
      unfold ltK at h1; omega
    simp only [e]
theorem invTo_places (xs : List Int) : ∀ i, i ≤ xs.length → invTo (placesL xs) i = invTo xs i
  | 0, _ => rfl
  | i + 1, h => by rw [invTo, invTo, invTo_places xs i (by omega), placesL_len, invRow_places (by omega) _ (Nat.le_refl _)]
def riseL (n : Nat) : List Int := (List.range n).map Int.ofNat
theorem riseL_len (n : Nat) : (riseL n).length = n := by simp [riseL]
theorem riseL_get {n i : Nat} (h : i < n) : (riseL n).getD i 0 = i := by
  rw [List.getD_eq_getElem?_getD, List.getElem?_eq_getElem (by rw [riseL_len]; exact h)]; simp [riseL]
theorem riseL_up (n : Nat) : riseL (n + 1) = riseL n ++ [(n : Int)] := by simp [riseL, List.range_succ]
theorem ord_places (xs : List Int) : ordL (placesL xs) = riseL xs.length := by
  refine ext_getD (by rw [ordL_len, placesL_len, riseL_len]) fun j hj => ?_
  rw [ordL_len, placesL_len] at hj
  obtain ⟨a, ha, rfl⟩ := ord_from hj
  rw [riseL_get hj]
  have := ord_at (xs := placesL xs) (a := a) (by rw [placesL_len]; exact ha)
  rw [plN_places ha] at this
  rw [this, placesL_cast ha]
theorem valid_places {xs : List Int} (h : validB xs = true) : validB (placesL xs) = true := by
  have h8 := valid_len h
  refine valid_all (by rw [placesL_len]; exact h8) fun j hj => ?_
  rw [placesL_len] at hj
  have := placesL_lt hj
  unfold inB
  rw [decide_eq_true (by omega), decide_eq_true (by omega)]; rfl
theorem dec_self (xs : List Int) : decide (xs = xs) = true := decide_eq_true rfl


/-- How often merging halves asks at most. -/
def mgm (n : Nat) : Nat := if h : n < 2 then 0 else mgm (n / 2) + mgm (n - n / 2) + (n - 1)
termination_by n
decreasing_by all_goals omega
theorem mgm_low {n : Nat} (h : n < 2) : mgm n = 0 := by rw [mgm, dif_pos h]
theorem mgm_up {n : Nat} (h : 2 ≤ n) : mgm n = mgm (n / 2) + mgm (n - n / 2) + (n - 1) := by rw [mgm, dif_neg (by omega)]
theorem mgm_in : ∀ f n, n ≤ f → mgm n ≤ n * f
  | 0, n, h => by rw [mgm_low (by omega)]; omega
  | f + 1, n, h => by
    rcases Nat.lt_or_ge n 2 with h1 | h1
    · rw [mgm_low h1]; omega
    · rw [mgm_up h1]
      have a := mgm_in f (n / 2) (by omega)
      have b := mgm_in f (n - n / 2) (by omega)
      have c : n / 2 * f + (n - n / 2) * f = n * f := by rw [← Nat.add_mul]; congr 1; omega
      have d : n * (f + 1) = n * f + n := Nat.mul_succ n f
      omega
theorem mgm_le {n : Nat} (h : n ≤ 1000) : mgm n ≤ 1000000 := by
  have := mgm_in 1000 n h
  omega


theorem aStoreAll_cells {tab : Tab} {h : Hp} {n : Nat} {t : TypeId} {o : Nat} {old al : List AV} {K : AV → Hp → Nat → Prop} (ho : h o = some ⟨true, .cells old⟩) (hl : old.length = al.length) (hp : 0 < al.length) (hsz : szOf tab t = some al.length) (hc : al.all AV.cell = true)
    (hK : K .any (upd h o (some ⟨true, .cells al⟩)) n) : ∃ c', aStoreAll tab h n t (.ref o 0) (.agg al) c' K :=
  ⟨.cells al, _, ho, rfl, rfl, rfl, hp, by simpa [Cont.flat] using hl, by simpa using hsz, hc, rfl, hK⟩
/-- A piece of code with labels, through which one goes without a goto. -/
def noGotoA (Q : Exit → St → Prop) : Exit → St → Prop
  | .goto _, _ => False
  | e, s => Q e s
theorem noGotoA_normal (Q : Exit → St → Prop) (s : St) : noGotoA Q .normal s = Q .normal s := rfl
theorem noGotoA_exit (Q : Exit → St → Prop) (s : St) (i : Nat) : noGotoA Q (.exit i) s = Q (.exit i) s := rfl
theorem noGotoA_ret (Q : Exit → St → Prop) (s : St) : noGotoA Q .ret s = Q .ret s := rfl
theorem awp_scope {P : Program} {Γ : Ctx} {nt : Nat} {Q : Exit → St → Prop} {s : St} {c : Code} (h : AWP Γ nt P c (noGotoA Q) s) : AWP Γ nt P (.scope c) Q s := fun m a w hs =>
  wp_scope_straight (wp_mono (h m a w hs) fun e a' w' ⟨m', s', h1, h2⟩ => by
    cases e <;> first | exact ⟨m', s', h1, h2⟩ | exact h2.elim)
def swp (xs : List Int) (a b : Nat) : List Int := (xs.set a (xs.getD b 0)).set b (xs.getD a 0)
theorem swp_len (xs : List Int) (a b : Nat) : (swp xs a b).length = xs.length := by simp [swp]
/-- A key goes ahead by steps: what is there, how often was asked, how often moved. -/
def insIn (st : Nat) (k : Nat) (xs : List Int) (a m : Int) : List Int × Int × Int :=
  if h : 0 < st ∧ st ≤ k then (if xs.getD (k - st) 0 ≤ xs.getD k 0 then (xs, a + 1, m) else insIn st (k - st) (swp xs (k - st) k) (a + 1) (m + 1)) else (xs, a, m)
termination_by k
decreasing_by omega
theorem insIn_end {st k : Nat} {xs : List Int} {a m : Int} (h : k < st) : insIn st k xs a m = (xs, a, m) := by rw [insIn, dif_neg (by omega)]
theorem insIn_stop {st k : Nat} {xs : List Int} {a m : Int} (h0 : 0 < st) (h : st ≤ k) (hle : xs.getD (k - st) 0 ≤ xs.getD k 0) : insIn st k xs a m = (xs, a + 1, m) := by rw [insIn, dif_pos ⟨h0, h⟩, if_pos hle]
theorem insIn_go {st k : Nat} {xs : List Int} {a m : Int} (h0 : 0 < st) (h : st ≤ k) (hle : xs.getD k 0 < xs.getD (k - st) 0) : insIn st k xs a m = insIn st (k - st) (swp xs (k - st) k) (a + 1) (m + 1) := by rw [insIn, dif_pos ⟨h0, h⟩, if_neg (by omega)]
theorem insIn_in {st : Nat} : ∀ (f k : Nat) (xs : List Int) (a m : Int), k < f → (insIn st k xs a m).1.length = xs.length ∧ a ≤ (insIn st k xs a m).2.1 ∧ (insIn st k xs a m).2.1 ≤ a + k + 1 ∧ m ≤ (insIn st k xs a m).2.2 ∧ (insIn st k xs a m).2.2 ≤ m + k + 1
  | 0, k, xs, a, m, h => by omega
  | f + 1, k, xs, a, m, h => by
    by_cases h1 : 0 < st ∧ st ≤ k
    · rcases Int.lt_or_le (xs.getD k 0) (xs.getD (k - st) 0) with h2 | h2
      · rw [insIn_go h1.1 h1.2 h2]
        have := insIn_in (st := st) f (k - st) (swp xs (k - st) k) (a + 1) (m + 1) (by omega)
        rw [swp_len] at this
        omega
      · rw [insIn_stop h1.1 h1.2 h2]
        exact ⟨rfl, by simp only; omega, by simp only; omega, by simp only; omega, by simp only; omega⟩
    · rw [insIn, dif_neg h1]
      exact ⟨rfl, by simp only; omega, by simp only; omega, by simp only; omega, by simp only; omega⟩
def insTo (st : Nat) (s : List Int × Int × Int) : Nat → List Int × Int × Int
  | 0 => s
  | j + 1 => insIn st (st + j) (insTo st s j).1 (insTo st s j).2.1 (insTo st s j).2.2
theorem insTo_in {st : Nat} {s : List Int × Int × Int} (hn : s.1.length ≤ 8) : ∀ j, st + j ≤ s.1.length ∨ j = 0 → (insTo st s j).1.length = s.1.length ∧ s.2.1 ≤ (insTo st s j).2.1 ∧ (insTo st s j).2.1 ≤ s.2.1 + 9 * j ∧ s.2.2 ≤ (insTo st s j).2.2 ∧ (insTo st s j).2.2 ≤ s.2.2 + 9 * j
  | 0, _ => by simp [insTo]
  | j + 1, h => by
    have ih := insTo_in (st := st) hn j (by omega)
    have := insIn_in (st := st) (st + j + 1) (st + j) (insTo st s j).1 (insTo st s j).2.1 (insTo st s j).2.2 (by omega)
    rw [insTo]
    omega


theorem getD_in {xs : List Int} {i : Nat} (h : i < xs.length) : xs.getD i 0 = xs[i] := by
  rw [List.getD_eq_getElem?_getD, List.getElem?_eq_getElem h]; rfl
theorem swp_perm {xs : List Int} {a b : Nat} (ha : a < xs.length) (hb : b < xs.length) : (swp xs a b).Perm xs := by
  unfold swp
  rw [getD_in ha, getD_in hb]
  exact List.set_set_perm ha hb
theorem swp_get {xs : List Int} {a b : Nat} (ha : a < xs.length) (hb : b < xs.length) (j : Nat) : (swp xs a b).getD j 0 = if j = b then xs.getD a 0 else if j = a then xs.getD b 0 else xs.getD j 0 := by
  unfold swp
  by_cases e : b = j
  · subst e; rw [getD_set_same (by simpa using hb), if_pos rfl]
  · rw [getD_set_ne' e, if_neg (fun h => e h.symm)]
    by_cases e2 : a = j
    · subst e2; rw [getD_set_same ha, if_pos rfl]
    · rw [getD_set_ne' e2, if_neg (fun h => e2 h.symm)]
theorem srt_pair {xs : List Int} (h : srt xs = true) : xs.Pairwise (· ≤ ·) := by
  rw [List.pairwise_iff_getElem]
  intro i j hi hj hij
  obtain ⟨d, rfl⟩ : ∃ d, j = i + d := ⟨j - i, by omega⟩
  have := srt_le h (d := d) (i := i) hj
  rwa [getD_in hi, getD_in hj] at this
theorem nodup_perm : ∀ (l m : List Nat), l.Nodup → (∀ a ∈ l, a ∈ m) → m.length ≤ l.length → l.Perm m
  | [], m, _, _, h => by
    have : m = [] := List.eq_nil_of_length_eq_zero (by simpa using h)
    subst this; exact List.Perm.refl _
  | a :: t, m, hn, hs, hl => by
    have ha : a ∈ m := hs a List.mem_cons_self
    have hn2 := List.nodup_cons.1 hn
    have := nodup_perm t (m.erase a) hn2.2 (fun b hb => (List.mem_erase_of_ne (fun e => hn2.1 (by subst e; exact hb))).2 (hs b (List.mem_cons_of_mem _ hb))) (by
      rw [List.length_erase_of_mem ha]; simp only [List.length_cons] at hl; omega)
    exact (this.cons a).trans (List.perm_cons_erase ha).symm
theorem range_eq (xs : List Int) : (List.range xs.length).map (fun i => xs.getD i 0) = xs := by
  refine ext_getD (by simp) fun j hj => ?_
  simp only [List.length_map, List.length_range] at hj
  rw [List.getD_eq_getElem?_getD, List.getElem?_eq_getElem (by simpa using hj)]; simp
/-- The keys at their places are the keys. -/
theorem ord_perm (xs : List Int) : (ordL xs).Perm xs := by
  have h1 : ((List.range xs.length).map (plN xs)).Perm (List.range xs.length) := by
    refine nodup_perm _ _ ?_ ?_ (by simp)
    · rw [List.Nodup, List.pairwise_map]
      refine (List.nodup_range (n := xs.length)).imp_of_mem ?_
      intro a b ha hb hne h
      exact hne (plN_inj (List.mem_range.1 ha) (List.mem_range.1 hb) h)
    · intro a ha
      obtain ⟨i, hi, rfl⟩ := List.mem_map.1 ha
      exact List.mem_range.2 (plN_lt (List.mem_range.1 hi))
  have h2 := h1.map (fun i => (ordL xs).getD i 0)
  have h3 : (List.range xs.length).map (fun i => (ordL xs).getD i 0) = ordL xs := by have := range_eq (ordL xs); rwa [ordL_len] at this
  have h4 : ((List.range xs.length).map (plN xs)).map (fun i => (ordL xs).getD i 0) = xs := by
    rw [List.map_map]
    refine Eq.trans (List.map_congr_left fun i hi => ?_) (range_eq xs)
    exact ord_at (List.mem_range.1 hi)
  rw [h3, h4] at h2
  exact h2.symm
theorem srt_uniq {xs ys : List Int} (h : srt ys = true) (hp : ys.Perm xs) : ys = ordL xs :=
  List.Perm.eq_of_pairwise (le := (· ≤ ·)) (fun _ _ _ _ h1 h2 => Int.le_antisymm h1 h2) (srt_pair h) (srt_pair ord_srt) (hp.trans (ord_perm xs).symm)
def invL : List Int → Int
  | [] => 0
  | x :: l => (l.countP (· < x) : Nat) + invL l
theorem swp_cons (x : Int) (l : List Int) (i j : Nat) : swp (x :: l) (i + 1) (j + 1) = x :: swp l i j := by
  simp [swp]
theorem inv_adj : ∀ (l : List Int) (i : Nat), i + 1 < l.length → l.getD (i + 1) 0 < l.getD i 0 → invL (swp l i (i + 1)) + 1 = invL l
  | [], i, h, _ => by simp at h
  | [_], i, h, _ => by simp at h
  | a :: b :: t, 0, _, hlt => by
    have e : swp (a :: b :: t) 0 1 = b :: a :: t := by simp [swp]
    have hlt : b < a := by simpa using hlt
    rw [e]
    simp only [invL, List.countP_cons, decide_eq_true_eq]
    rw [if_neg (by omega), if_pos hlt]; omega
  | x :: y :: t, i + 1, h, hlt => by
    rw [swp_cons]
    have ih := inv_adj (y :: t) i (by simpa using h) (by simpa using hlt)
    have hp := swp_perm (xs := y :: t) (a := i) (b := i + 1) (by simp at h ⊢; omega) (by simpa using h)
    simp only [invL] at ih ⊢
    rw [hp.countP_eq]; omega
theorem rowS (x : Int) (l : List Int) (i : Nat) : ∀ k, invRow (x :: l) (i + 1) (k + 1) = invRow l i k
  | 0 => by simp [invRow]
  | k + 1 => by
    rw [invRow, rowS x l i k, invRow]
    simp
theorem row0 (x : Int) (l : List Int) : ∀ k, k ≤ l.length → invRow (x :: l) 0 (k + 1) = ((l.take k).countP (· < x) : Nat)
  | 0, _ => by simp [invRow]
  | k + 1, h => by
    rw [invRow, row0 x l k (by omega), List.take_succ_eq_append_getElem (by omega), List.countP_append]
    have : (x :: l).getD (k + 1) 0 = l[k] := by rw [← getD_in (show k < l.length by omega)]; simp
    rw [this]
    by_cases h1 : l[k] < x
    · rw [if_pos ⟨by omega, by simpa using h1⟩]; simp [List.countP_cons, h1]
    · rw [if_neg (fun h => h1 (by simpa using h.2))]; simp [List.countP_cons, h1]
theorem invTo_cons (x : Int) (l : List Int) : ∀ i, invTo (x :: l) (i + 1) = invRow (x :: l) 0 (l.length + 1) + invTo l i
  | 0 => by simp only [invTo, List.length_cons]; omega
  | i + 1 => by
    rw [invTo, invTo_cons x l i, invTo, List.length_cons, rowS]; omega
theorem invTo_L : ∀ l : List Int, invTo l l.length = invL l
  | [] => rfl
  | x :: l => by
    rw [List.length_cons, invTo_cons, invTo_L l, row0 x l l.length (Nat.le_refl _), List.take_length]; rfl
theorem insIn_inv : ∀ (f k : Nat) (xs : List Int) (a m : Int), k < f → k < xs.length → (insIn 1 k xs a m).1.Perm xs ∧ (insIn 1 k xs a m).2.2 + invL (insIn 1 k xs a m).1 = m + invL xs ∧ a - m ≤ (insIn 1 k xs a m).2.1 - (insIn 1 k xs a m).2.2 ∧ (insIn 1 k xs a m).2.1 - (insIn 1 k xs a m).2.2 ≤ a - m + 1
  | 0, k, xs, a, m, h, _ => by omega
  | f + 1, k, xs, a, m, h, hl => by
    by_cases h1 : 1 ≤ k
    · rcases Int.lt_or_le (xs.getD k 0) (xs.getD (k - 1) 0) with h2 | h2
      · rw [insIn_go (by omega) h1 h2]
        have ih := insIn_inv f (k - 1) (swp xs (k - 1) k) (a + 1) (m + 1) (by omega) (by rw [swp_len]; omega)
        have hp := swp_perm (xs := xs) (a := k - 1) (b := k) (by omega) hl
        have hi := inv_adj xs (k - 1) (by omega) (by rw [show k - 1 + 1 = k by omega]; exact h2)
        rw [show k - 1 + 1 = k by omega] at hi
        exact ⟨ih.1.trans hp, by omega, by omega, by omega⟩
      · rw [insIn_stop (by omega) h1 h2]
        exact ⟨List.Perm.refl _, rfl, by simp only; omega, by simp only; omega⟩
    · rw [insIn_end (by omega)]
      exact ⟨List.Perm.refl _, rfl, by simp only; omega, by simp only; omega⟩
def srtP (ys : List Int) (J k : Nat) : Prop := (∀ a b, a < b → b ≤ J → a ≠ k → b ≠ k → ys.getD a 0 ≤ ys.getD b 0) ∧ ∀ b, k < b → b ≤ J → ys.getD k 0 ≤ ys.getD b 0
theorem insIn_srt : ∀ (f k : Nat) (ys : List Int) (a m : Int) (J : Nat), k < f → k ≤ J → J < ys.length → srtP ys J k → ∀ x y, x < y → y ≤ J → (insIn 1 k ys a m).1.getD x 0 ≤ (insIn 1 k ys a m).1.getD y 0
  | 0, k, ys, a, m, J, h, _, _, _, _, _, _, _ => by omega
  | f + 1, k, ys, a, m, J, h, hkJ, hJ, hP, x, y, hxy, hy => by
    have fin : (k < 1 ∨ ys.getD (k - 1) 0 ≤ ys.getD k 0) → ys.getD x 0 ≤ ys.getD y 0 := fun hk => by
      by_cases e1 : x = k
      · subst e1; exact hP.2 y hxy hy
      · by_cases e2 : y = k
        · subst e2
          rcases hk with hk | hk
          · omega
          · by_cases e3 : x = y - 1
            · rw [e3]; exact hk
            · have := hP.1 x (y - 1) (by omega) (by omega) e1 (by omega)
              omega
        · exact hP.1 x y hxy hy e1 e2
    by_cases h1 : 1 ≤ k
    · rcases Int.lt_or_le (ys.getD k 0) (ys.getD (k - 1) 0) with h2 | h2
      · rw [insIn_go (by omega) h1 h2]
        have hg := swp_get (xs := ys) (a := k - 1) (b := k) (by omega) (by omega)
        refine insIn_srt f (k - 1) (swp ys (k - 1) k) (a + 1) (m + 1) J (by omega) (by omega) (by rw [swp_len]; exact hJ) ⟨fun a b hab hb ha hb2 => ?_, fun b hb hbJ => ?_⟩ x y hxy hy
        · rw [hg a, hg b]
          by_cases e1 : a = k
          · rw [if_pos e1, if_neg (by omega), if_neg (by omega)]
            exact hP.1 (k - 1) b (by omega) hb (by omega) (by omega)
          · rw [if_neg e1, if_neg ha]
            by_cases e2 : b = k
            · rw [if_pos e2]
              by_cases e3 : a = k - 1
              · omega
              · exact hP.1 a (k - 1) (by omega) (by omega) e1 (by omega)
            · rw [if_neg e2, if_neg hb2]; exact hP.1 a b hab hb e1 e2
        · rw [hg (k - 1), if_neg (by omega), if_pos rfl, hg b]
          by_cases e2 : b = k
          · rw [if_pos e2]; omega
          · rw [if_neg e2, if_neg (by omega)]; exact hP.2 b (by omega) hbJ
      · rw [insIn_stop (by omega) h1 h2]
        exact fin (.inr h2)
    · rw [insIn_end (by omega)]
      exact fin (.inl (by omega))
theorem insTo_all (xs : List Int) : ∀ j, j + 1 ≤ xs.length ∨ j = 0 → (insTo 1 (xs, 0, 0) j).1.Perm xs ∧ (insTo 1 (xs, 0, 0) j).2.2 + invL (insTo 1 (xs, 0, 0) j).1 = invL xs ∧ (0 ≤ (insTo 1 (xs, 0, 0) j).2.1 - (insTo 1 (xs, 0, 0) j).2.2 ∧ (insTo 1 (xs, 0, 0) j).2.1 - (insTo 1 (xs, 0, 0) j).2.2 ≤ j) ∧ ∀ x y, x < y → y ≤ j → (insTo 1 (xs, 0, 0) j).1.getD x 0 ≤ (insTo 1 (xs, 0, 0) j).1.getD y 0
  | 0, _ => ⟨List.Perm.refl _, by simp [insTo], by simp [insTo], fun x y h1 h2 => by omega⟩
  | j + 1, h => by
    obtain ⟨i1, i2, i3, i4⟩ := insTo_all xs j (by omega)
    have hl := i1.length_eq
    obtain ⟨q1, q2, q3, q4⟩ := insIn_inv (1 + j + 1) (1 + j) (insTo 1 (xs, 0, 0) j).1 (insTo 1 (xs, 0, 0) j).2.1 (insTo 1 (xs, 0, 0) j).2.2 (by omega) (by omega)
    have q5 := insIn_srt (1 + j + 1) (1 + j) (insTo 1 (xs, 0, 0) j).1 (insTo 1 (xs, 0, 0) j).2.1 (insTo 1 (xs, 0, 0) j).2.2 (j + 1) (by omega) (by omega) (by omega) ⟨fun a b hab hb ha hb2 => i4 a b hab (by omega), fun b hb hb2 => by omega⟩
    rw [insTo]
    exact ⟨q1.trans i1, by omega, by omega, q5⟩
theorem srt_of {ys : List Int} (h : ∀ x y, x < y → y < ys.length → ys.getD x 0 ≤ ys.getD y 0) : srt ys = true := srt_iff.2 fun j hj => h j (j + 1) (by omega) hj
theorem inv_sorted {ys : List Int} (h : srt ys = true) : invL ys = 0 := by
  have := inv_srt ys
  rw [h, invTo_L] at this
  simpa using this
/-- What insertion answers. -/
theorem ins_fin (xs : List Int) : (insTo 1 (xs, 0, 0) (xs.length - 1)).1 = ordL xs ∧ (insTo 1 (xs, 0, 0) (xs.length - 1)).2.2 = invTo xs xs.length ∧ (insTo 1 (xs, 0, 0) (xs.length - 1)).2.2 ≤ (insTo 1 (xs, 0, 0) (xs.length - 1)).2.1 ∧ (insTo 1 (xs, 0, 0) (xs.length - 1)).2.1 ≤ (insTo 1 (xs, 0, 0) (xs.length - 1)).2.2 + (xs.length - 1 : Nat) := by
  obtain ⟨i1, i2, i3, i4⟩ := insTo_all xs (xs.length - 1) (by omega)
  have hl := i1.length_eq
  have hs : srt (insTo 1 (xs, 0, 0) (xs.length - 1)).1 = true := srt_of fun x y h1 h2 => i4 x y h1 (by omega)
  have := inv_sorted hs
  rw [invTo_L]
  exact ⟨srt_uniq hs i1, by omega, by omega, by omega⟩
theorem invRow_le (xs : List Int) (i : Nat) : ∀ k, invRow xs i k ≤ k
  | 0 => Int.le_refl 0
  | k + 1 => by have := invRow_le xs i k; rw [invRow]; split <;> omega
theorem inv_le0 (xs : List Int) : ∀ i, invTo xs i ≤ i * xs.length
  | 0 => by simp [invTo]
  | i + 1 => by
    have := inv_le0 xs i
    have := invRow_le xs i xs.length
    have : ((i + 1 : Nat) : Int) * xs.length = i * xs.length + xs.length := by rw [Int.natCast_add, Int.add_mul]; omega
    rw [invTo]; omega
theorem inv_le {xs : List Int} (h : xs.length ≤ 8) : invTo xs xs.length ≤ 64 := by
  have h1 := inv_le0 xs xs.length
  have h2 : ((xs.length : Int)) * xs.length ≤ 8 * 8 := by
    have := Nat.mul_le_mul h h
    exact_mod_cast this
  omega
theorem srt_steps {ys : List Int} (h : ∀ a, a + 1 < ys.length → ys.getD a 0 ≤ ys.getD (a + 1) 0) : srt ys = true := srt_iff.2 h

/-- The place behind the last key that is less than y, by halving, and how often was asked. -/
def fndS (xs : List Int) (y : Int) (lo hi : Nat) (q : Int) : Nat × Int :=
  if h : lo < hi then (if xs.getD ((lo + hi) / 2) 0 < y then fndS xs y ((lo + hi) / 2 + 1) hi (q + 1) else fndS xs y lo ((lo + hi) / 2) (q + 1)) else (lo, q)
termination_by hi - lo
decreasing_by all_goals omega
theorem fndS_end {xs : List Int} {y : Int} {lo hi : Nat} {q : Int} (h : hi ≤ lo) : fndS xs y lo hi q = (lo, q) := by rw [fndS, dif_neg (by omega)]
theorem fndS_hi {xs : List Int} {y : Int} {lo hi m : Nat} {q : Int} (h : lo < hi) (hm : m = (lo + hi) / 2) (hle : xs.getD m 0 < y) : fndS xs y (m + 1) hi (q + 1) = fndS xs y lo hi q := by subst hm; rw [fndS.eq_1 xs y lo hi, dif_pos h, if_pos hle]
theorem fndS_lo {xs : List Int} {y : Int} {lo hi m : Nat} {q : Int} (h : lo < hi) (hm : m = (lo + hi) / 2) (hle : y ≤ xs.getD m 0) : fndS xs y lo m (q + 1) = fndS xs y lo hi q := by subst hm; rw [fndS.eq_1 xs y lo hi, dif_pos h, if_neg (by omega)]
theorem fndS_in {xs : List Int} {y : Int} : ∀ (f lo hi : Nat) (q : Int), hi - lo ≤ f → lo ≤ hi → lo ≤ (fndS xs y lo hi q).1 ∧ (fndS xs y lo hi q).1 ≤ hi ∧ q ≤ (fndS xs y lo hi q).2 ∧ (fndS xs y lo hi q).2 ≤ q + (hi - lo : Nat)
  | 0, lo, hi, q, hf, h => by rw [fndS_end (by omega)]; exact ⟨Nat.le_refl _, h, by simp, by simp only; omega⟩
  | f + 1, lo, hi, q, hf, h => by
    by_cases hlt : lo < hi
    · obtain ⟨m, hm⟩ : ∃ m, m = (lo + hi) / 2 := ⟨_, rfl⟩
      rcases Int.lt_or_le (xs.getD m 0) y with hc | hc
      · rw [← fndS_hi hlt hm hc]
        have := fndS_in (xs := xs) (y := y) f (m + 1) hi (q + 1) (by omega) (by omega)
        omega
      · rw [← fndS_lo hlt hm hc]
        have := fndS_in (xs := xs) (y := y) f lo m (q + 1) (by omega) (by omega)
        omega
    · rw [fndS_end (by omega)]; exact ⟨Nat.le_refl _, h, by simp, by simp only; omega⟩
/-- How many keys are less than y. -/
def lessN (xs : List Int) (y : Int) : Nat → Nat
  | 0 => 0
  | n + 1 => lessN xs y n + if xs.getD n 0 < y then 1 else 0
theorem lessN_upto {xs : List Int} {y : Int} {p : Nat} : ∀ n, (∀ j, j < p → j < n → xs.getD j 0 < y) → (∀ j, p ≤ j → j < n → y ≤ xs.getD j 0) → lessN xs y n = min p n
  | 0, _, _ => by simp [lessN]
  | n + 1, h1, h2 => by
    rw [lessN, lessN_upto n (fun j a b => h1 j a (by omega)) (fun j a b => h2 j a (by omega))]
    by_cases h : n < p
    · rw [if_pos (h1 n h (by omega))]; omega
    · rw [if_neg (by have := h2 n (by omega) (by omega); omega)]; omega
theorem fndS_at {xs : List Int} {y : Int} (hs : ∀ a b, a < b → b < xs.length → xs.getD a 0 ≤ xs.getD b 0) : ∀ (f lo hi : Nat) (q : Int), hi - lo ≤ f → lo ≤ hi → hi ≤ xs.length → (∀ j, j < lo → xs.getD j 0 < y) → (∀ j, hi ≤ j → j < xs.length → y ≤ xs.getD j 0) → (fndS xs y lo hi q).1 = lessN xs y xs.length
  | 0, lo, hi, q, hf, h, hl, h1, h2 => by
    rw [fndS_end (by omega), lessN_upto (p := lo) _ (fun j a _ => h1 j a) (fun j a b => h2 j (by omega) b)]; simp only; omega
  | f + 1, lo, hi, q, hf, h, hl, h1, h2 => by
    by_cases hlt : lo < hi
    · obtain ⟨m, hm⟩ : ∃ m, m = (lo + hi) / 2 := ⟨_, rfl⟩
      rcases Int.lt_or_le (xs.getD m 0) y with hc | hc
      · rw [← fndS_hi hlt hm hc]
        exact fndS_at hs f (m + 1) hi (q + 1) (by omega) (by omega) hl (fun j a => by
          by_cases e : j = m
          · rw [e]; exact hc
          · have := hs j m (by omega) (by omega); omega) h2
      · rw [← fndS_lo hlt hm hc]
        exact fndS_at hs f lo m (q + 1) (by omega) (by omega) (by omega) h1 (fun j a b => by
          by_cases e : j = m
          · rw [e]; exact hc
          · have := hs m j (by omega) b; omega)
    · rw [fndS_end (by omega), lessN_upto (p := lo) _ (fun j a _ => h1 j a) (fun j a b => h2 j (by omega) b)]; simp only; omega
theorem drop_at {xs : List Int} {i : Nat} (h : i < xs.length) : xs.drop i = xs.getD i 0 :: xs.drop (i + 1) := by
  rw [List.drop_eq_getElem_cons h, List.getD_eq_getElem?_getD, List.getElem?_eq_getElem h]; rfl
/-- Two lists merged, and how often was asked. -/
def mrg : List Int → List Int → List Int × Int
  | [], b => (b, 0)
  | a, [] => (a, 0)
  | x :: a, y :: b => if y < x then (y :: (mrg (x :: a) b).1, (mrg (x :: a) b).2 + 1) else (x :: (mrg a (y :: b)).1, (mrg a (y :: b)).2 + 1)
theorem mrg_nil (a : List Int) : mrg a [] = (a, 0) := by cases a <;> simp [mrg]
theorem nil_mrg (b : List Int) : mrg [] b = (b, 0) := by simp [mrg]
theorem mrg_perm : ∀ a b, (mrg a b).1.Perm (a ++ b)
  | [], b => by rw [nil_mrg]; exact List.Perm.refl _
  | x :: a, [] => by rw [mrg_nil]; simp
  | x :: a, y :: b => by
    rw [mrg]
    split
    · exact ((mrg_perm (x :: a) b).cons y).trans (List.perm_middle.symm)
    · exact (mrg_perm a (y :: b)).cons x
termination_by a b => a.length + b.length
theorem mrg_len (a b : List Int) : (mrg a b).1.length = a.length + b.length := by rw [(mrg_perm a b).length_eq, List.length_append]
theorem mrg_asks : ∀ a b : List Int, 0 ≤ (mrg a b).2 ∧ ((min a.length b.length : Nat) : Int) ≤ (mrg a b).2 ∧ (mrg a b).2 ≤ (a.length + b.length - 1 : Nat)
  | [], b => by rw [nil_mrg]; simp
  | x :: a, [] => by rw [mrg_nil]; simp
  | x :: a, y :: b => by
    rw [mrg]
    split
    · have := mrg_asks (x :: a) b
      simp only [List.length_cons] at this ⊢; omega
    · have := mrg_asks a (y :: b)
      simp only [List.length_cons] at this ⊢; omega
termination_by a b => a.length + b.length
theorem mrg_a {a b : List Int} {i k : Nat} (hi : i < a.length) (h : b.length ≤ k ∨ a.getD i 0 ≤ b.getD k 0) : mrg (a.drop i) (b.drop k) = (a.getD i 0 :: (mrg (a.drop (i + 1)) (b.drop k)).1, (mrg (a.drop (i + 1)) (b.drop k)).2 + if k < b.length then 1 else 0) := by
  rw [drop_at hi]
  by_cases hk : k < b.length
  · rw [drop_at hk, mrg, if_neg (by omega), if_pos hk]
  · rw [List.drop_eq_nil_of_le (by omega : b.length ≤ k), mrg_nil, mrg_nil, if_neg hk]; rfl
theorem mrg_b {a b : List Int} {i k : Nat} (hk : k < b.length) (h : a.length ≤ i ∨ b.getD k 0 < a.getD i 0) : mrg (a.drop i) (b.drop k) = (b.getD k 0 :: (mrg (a.drop i) (b.drop (k + 1))).1, (mrg (a.drop i) (b.drop (k + 1))).2 + if i < a.length then 1 else 0) := by
  rw [drop_at hk]
  by_cases hi : i < a.length
  · rw [drop_at hi, mrg, if_pos (by omega), if_pos hi]
  · rw [List.drop_eq_nil_of_le (by omega : a.length ≤ i), nil_mrg, nil_mrg, if_neg hi]; rfl
theorem mrg_srt : ∀ a b : List Int, a.Pairwise (· ≤ ·) → b.Pairwise (· ≤ ·) → (mrg a b).1.Pairwise (· ≤ ·)
  | [], b, _, hb => by rw [nil_mrg]; exact hb
  | x :: a, [], ha, _ => by rw [mrg_nil]; exact ha
  | x :: a, y :: b, ha, hb => by
    rw [mrg]
    have ha' := List.pairwise_cons.1 ha
    have hb' := List.pairwise_cons.1 hb
    split
    · rename_i hc
      refine List.pairwise_cons.2 ⟨fun z hz => ?_, mrg_srt (x :: a) b ha hb'.2⟩
      have := (mrg_perm (x :: a) b).mem_iff.1 hz
      simp only [List.mem_append, List.mem_cons] at this
      rcases this with (h | h) | h
      · omega
      · have := ha'.1 z h; omega
      · exact hb'.1 z h
    · rename_i hc
      refine List.pairwise_cons.2 ⟨fun z hz => ?_, mrg_srt a (y :: b) ha'.2 hb⟩
      have := (mrg_perm a (y :: b)).mem_iff.1 hz
      simp only [List.mem_append, List.mem_cons] at this
      rcases this with h | (h | h)
      · exact ha'.1 z h
      · omega
      · have := hb'.1 z h; omega
termination_by a b => a.length + b.length
/-- In how many ways m and i things are merged, one by one. -/
def mdN (m : Nat) : Nat → Nat
  | 0 => 1
  | i + 1 => mdN m i * (m + (i + 1)) / (i + 1)
theorem mdN_in : ∀ m, m ≤ 8 → ∀ i, i ≤ 8 → 1 ≤ mdN m i ∧ mdN m i ≤ 12870 := by decide
theorem mdN_turn : ∀ m, m ≤ 8 → ∀ k, k ≤ 8 → mdN k m = mdN m k := by decide
theorem mdN_sum : ∀ m, m ≤ 7 → ∀ k, k ≤ 7 → mdN (m + 1) (k + 1) = mdN m (k + 1) + mdN (m + 1) k := by decide
theorem mdN_one : ∀ m, m ≤ 8 → mdN 0 m = 1 ∧ mdN m 0 = 1 := by decide

/-- Whether two lists of keys may be merged. -/
def okM (xs ys : List Int) : Bool := validB xs && validB ys && srt xs && srt ys && decide (xs.length + ys.length ≤ 8)
theorem okM_iff {xs ys : List Int} : okM xs ys = true ↔ validB xs = true ∧ validB ys = true ∧ srt xs = true ∧ srt ys = true ∧ xs.length + ys.length ≤ 8 := by
  unfold okM; simp only [Bool.and_eq_true, decide_eq_true_eq, and_assoc]


theorem specMergeTwo_sat : Sat Try.prog 71 (fun ds Q => ∃ (xs ys : List Int), ds = [.row (.ints .i64 (xs)), .row (.ints .i64 (ys))] ∧ (xs.length ≤ 100) ∧ (ys.length ≤ 100) ∧ Q (.agg [.row (.ints .i64 ((mrg xs ys).1)), .val (.int .i64 ((mrg xs ys).2)), .val (.int .i64 (((xs.length + ys.length : Nat) : Int)))])) := by
  refine sat_intro tabOk Try.func71 rfl 76 rfl [.cell 4 26] rfl ?_
  rintro ds Q W ⟨xs, ys, rfl, hlen, hlen2, hQ⟩
  refine ⟨Nat.le_of_ble_eq_true rfl, ?_⟩
  simp only [initS, initT, mat.matL, mat, Cont.len]
  repeat' (first | refine awp_seq_k fun K hK => ?_ | ((with_reducible refine hK _ ?_); clear hK K) | (clear hK K; (with_reducible refine hK _ ?_); clear hK K) | (clear hK K; clear hK K; (with_reducible refine hK _ ?_); clear hK K) | (clear hK K; clear hK K; clear hK K; (with_reducible refine hK _ ?_); clear hK K) | (clear hK K; clear hK K; clear hK K; clear hK K; (with_reducible refine hK _ ?_); clear hK K) | (clear hK K; clear hK K; clear hK K; clear hK K; clear hK K; (with_reducible refine hK _ ?_); clear hK K) | ((with_reducible refine aord_plain fun K hK => ?_); simp only [go_sem, Nat.reduceAdd, Nat.reduceMul, Nat.reduceEqDiff, Nat.reduceLT, reduceIte, reduceCtorEq]) | ((with_reducible apply aord_guard); (focus (simp only [St.ev, St.set, upd, Nat.reduceEqDiff, reduceIte, if_false, if_true]; exact rfl)); all_goals (intro hb; (try simp only [Bool.not_true, Bool.not_false] at hb); first | (cases hb; done) | ((try rw [hb]); (try simp only [Bool.not_eq_true', Bool.not_eq_false', Bool.and_eq_true, decide_eq_true_eq, decide_eq_false_iff_not, beq_iff_eq, bne_iff_ne, beq_eq_false_iff_ne, bne_eq_false_iff_eq, Int.not_lt, Int.not_le] at hb); (try (revert hb; with_reducible refine true_imp_iff.2 ?_)); first | (intro K hK; simp only [go_sem, Nat.reduceAdd, Nat.reduceMul, Nat.reduceEqDiff, Nat.reduceLT, reduceIte, reduceCtorEq]) | (simp only [St.ev, St.set, upd, Nat.reduceEqDiff, reduceIte, if_false, if_true]) | skip))) | ((with_reducible apply aord_skip); (focus (simp only [St.ev, St.set, upd, Nat.reduceEqDiff, reduceIte, if_false, if_true]; done)); (simp only [St.ev, St.set, upd, Nat.reduceEqDiff, reduceIte, if_false, if_true])) | refine awp_block ?_ | ((first | with_reducible refine aord_nil ?_ | refine awp_skip ?_ | refine awp_exit ?_ | refine awp_ret ?_); try simp only [thenA_normal, thenA_exit, thenA_goto, thenA_ret, blockA_normal, blockA_same, blockA_exit, blockA_goto, blockA_ret, Nat.reduceEqDiff, if_false, if_true, reduceIte]) | (refine awp_region tabOk rfl ?_; simp only [prep, pickO, List.map_cons, List.map_nil, List.getElem?_toArray, List.getElem?_cons_succ, List.getElem?_cons_zero, Option.bind_some, Option.map_some]) | (refine awp_region_draw (nt := 76) (id := 8) tabOk [(0, true, false), (1, true, false), (2, true, false), (3, true, false), (4, true, false), (5, true, false), (6, true, false), (7, true, false), (8, true, false), (9, true, false)] (by kernel_rfl) rfl (by kernel_rfl) ?_; simp only [prep, pickO, List.map_cons, List.map_nil, List.getElem?_toArray, List.getElem?_cons_succ, List.getElem?_cons_zero, Option.bind_some, Option.map_some]) | (refine awp_region_draw (nt := 76) (id := 10) tabOk [(0, true, false), (1, true, false), (2, true, false), (3, true, false), (4, true, false), (5, true, false), (6, false, false), (7, false, true), (8, true, false), (9, false, false)] (by kernel_rfl) rfl (by kernel_rfl) ?_; simp only [prep, pickO, List.map_cons, List.map_nil, List.getElem?_toArray, List.getElem?_cons_succ, List.getElem?_cons_zero, Option.bind_some, Option.map_some]) | (refine awp_region_draw (nt := 76) (id := 12) tabOk [(0, true, false), (1, true, false), (2, true, false), (3, true, false), (4, true, false), (5, true, false), (6, false, false), (7, false, true), (8, true, false), (9, false, false)] (by kernel_rfl) rfl (by kernel_rfl) ?_; simp only [prep, pickO, List.map_cons, List.map_nil, List.getElem?_toArray, List.getElem?_cons_succ, List.getElem?_cons_zero, Option.bind_some, Option.map_some]) | ((with_reducible apply awp_cond); (focus (simp only [St.ev, St.set, upd, Nat.reduceEqDiff, reduceIte, if_false, if_true]; exact rfl)); all_goals (intro hb; first | (cases hb; done) | ((try rw [hb]); (try simp only [decide_eq_true_eq, decide_eq_false_iff_not, beq_iff_eq, bne_iff_ne, beq_eq_false_iff_ne, bne_eq_false_iff_eq, Int.not_lt, Int.not_le, Bool.not_eq_true', Bool.not_eq_false'] at hb)))) | ((with_reducible refine And.intro ?_ ?_); (focus omega)) | ((with_reducible refine And.intro ?_ ?_); (focus (exact rfl))) | (refine aAppend_ints rfl rfl rfl rfl (Nat.le_of_ble_eq_true rfl) (by simp only [St.ev, St.set, upd, Nat.reduceEqDiff, reduceIte, if_false, if_true]; exact rfl) (by simp only [St.ev, St.set, upd, Nat.reduceEqDiff, reduceIte, if_false, if_true]; exact rfl) rfl (by first | decide | omega | (simp; done) | fail) ?_ ?_ ?_ ?_; (focus (first | rfl | omega | (simp; done) | (simp; omega) | (simp [szOf, tab]; done) | (simp [szOf, tab]; omega))); (focus (first | rfl | omega | (simp; done) | (simp; omega) | (simp [szOf, tab]; done) | (simp [szOf, tab]; omega))); (focus (first | rfl | omega | (simp; done) | (simp; omega) | (simp [szOf, tab]; done) | (simp [szOf, tab]; omega))); (try simp only [go_sem, Nat.reduceAdd, Nat.reduceMul, Nat.reduceEqDiff, Nat.reduceLT, reduceIte, reduceCtorEq])) | (refine aAppend_none rfl rfl rfl rfl (Nat.le_of_ble_eq_true rfl) (by simp only [St.ev, St.set, upd, Nat.reduceEqDiff, reduceIte, if_false, if_true]; exact rfl) ?_ ?_ ?_; (focus (first | rfl | omega | (simp; done) | (simp; omega) | (simp [szOf, tab]; done) | (simp [szOf, tab]; omega))); (focus (first | rfl | omega | (simp; done) | (simp; omega) | (simp [szOf, tab]; done) | (simp [szOf, tab]; omega))); (try simp only [go_sem, Nat.reduceAdd, Nat.reduceMul, Nat.reduceEqDiff, Nat.reduceLT, reduceIte, reduceCtorEq])) | (refine aStoreAll_ints (by simp only [St.ev, St.set, upd, Nat.reduceEqDiff, reduceIte, if_false, if_true]; exact rfl) ?_ ?_ ?_ ?_; (focus (first | rfl | omega | (simp; done) | (simp; omega) | (simp [szOf, tab]; done) | (simp [szOf, tab]; omega))); (focus (first | rfl | omega | (simp; done) | (simp; omega) | (simp [szOf, tab]; done) | (simp [szOf, tab]; omega))); (focus (first | rfl | omega | (simp; done) | (simp; omega) | (simp [szOf, tab]; done) | (simp [szOf, tab]; omega))); (try simp only [go_sem, Nat.reduceAdd, Nat.reduceMul, Nat.reduceEqDiff, Nat.reduceLT, reduceIte, reduceCtorEq])) | (simp only [rBuild]; simp only [fillA, Nat.reduceLeDiff, List.getElem?_cons_zero, List.getElem?_cons_succ, List.drop_succ_cons, List.drop_nil, List.take_nil, List.cons_append, Option.isSome_some, go_sem, Nat.reduceAdd, Nat.reduceMul, Nat.reduceEqDiff, Nat.reduceLT, reduceIte, reduceCtorEq]) | (refine aStoreAll_cells (by simp only [St.ev, St.set, upd, Nat.reduceEqDiff, reduceIte, if_false, if_true]; exact rfl) ?_ ?_ ?_ ?_ ?_; (focus (first | rfl | omega | (simp; done) | (simp; omega) | (simp [szOf, tab]; done) | (simp [szOf, tab]; omega))); (focus (first | rfl | omega | (simp; done) | (simp; omega) | (simp [szOf, tab]; done) | (simp [szOf, tab]; omega))); (focus (first | rfl | omega | (simp; done) | (simp; omega) | (simp [szOf, tab]; done) | (simp [szOf, tab]; omega))); (focus (first | rfl | (simp [AV.cell, Value.oneCell']; done))); (try simp only [go_sem, Nat.reduceAdd, Nat.reduceMul, Nat.reduceEqDiff, Nat.reduceLT, reduceIte, reduceCtorEq])) | (with_reducible refine And.intro (fun hb => ?_) (fun hb => ?_)) | (exfalso; omega) | fail)
  refine awp_loopE (α := (Nat) × (Nat) × (List Int) × (Int)) (fun s p => ⟨(upd (upd (upd (upd (upd (upd bot 0 (s.tmps 0)) 1 (s.tmps 1)) 4 (s.tmps 4)) 5 (s.tmps 5)) 6 (.val (.int .i64 ((p.1))))) 7 (.val (.int .i64 ((p.2.1))))), (upd (upd s.heap 3 (some ⟨true, .ints .i64 ((p.2.2.1))⟩)) 4 (some ⟨true, .cells ([.sl 3 0 (p.2.2.1).length 1 none, .val (.int .i64 (p.2.2.2)), .val (.int .i64 (((p.1) + (p.2.1) : Nat) : Int))])⟩)), s.next⟩) _ (fun p => by simp only [St.ev, St.set, upd, Nat.reduceEqDiff, reduceIte, if_false, if_true]; exact rfl) (fun p => ((p.1) ≤ xs.length) ∧ ((p.2.1) ≤ ys.length) ∧ ((p.2.2.1).length = (p.1) + (p.2.1)) ∧ (0 ≤ (p.2.2.2) ∧ (p.2.2.2) ≤ (p.1) + (p.2.1)) ∧ ((p.2.2.1) ++ (mrg (xs.drop (p.1)) (ys.drop (p.2.1))).1 = (mrg xs ys).1) ∧ ((p.2.2.2) + (mrg (xs.drop (p.1)) (ys.drop (p.2.1))).2 = (mrg xs ys).2)) (fun p => xs.length + ys.length - ((p.1) + (p.2.1))) (0, 0, [], 0) ?_ ?_ ?_
  · (try simp only); (refine ⟨?_, ?_, ?_, ?_, ?_, ?_⟩ <;> (first | omega | rfl | (simp; done) | (simp only; omega)))
  · (apply Wk.same; (case' h2 => (focus ((repeat' (with_reducible first | exact HeapX.bot | (apply HeapX.skip; (case hx => (simp; done))) | apply HeapX.none | apply HeapX.upd)); all_goals (first | rfl | exact Nat.le_of_ble_eq_true rfl | (simp only [St.set, St.ev, upd, ren, renL, id, Nat.reduceEqDiff, reduceIte, ContLe]; done) | (first | (simp only [St.set, St.ev, upd, ren, renL, id, Nat.reduceEqDiff, reduceIte]; exact contLe_nil) | ((repeat' (first | exact contLe_nil | refine contLe_cons (.inr ⟨?_, rfl⟩) ?_)); all_goals (first | rfl | (simp only [St.set, St.ev, upd, ren, renL, id, Nat.reduceEqDiff, reduceIte]; done) | ((try simp only [St.set, St.ev, upd, ren, renL, id, Nat.reduceEqDiff, reduceIte]); first | (with_reducible exact av_int (by omega)) | (with_reducible exact av_sl (by first | omega | (simp; done) | (simp; omega)) (by first | omega | (simp; done) | (simp; omega)))) | (simp only [St.set, St.ev, upd, ren, renL, id, Nat.reduceEqDiff, reduceIte, Int.natCast_add, Int.natCast_one, Int.cast_ofNat_Int, Int.natCast_zero]; done) | (simp only [St.set, St.ev, upd, ren, renL, id, Nat.reduceEqDiff, reduceIte]) | skip); done)) | (simp only [St.set, St.ev, upd, ren, renL, id, Nat.reduceEqDiff, reduceIte, ContLe]) | skip)))); (case' h1 => (focus ((repeat' (with_reducible first | exact TmpLe.bot | refine TmpLe.upd ?_ rfl ?_)); all_goals (first | rfl | (simp only [St.set, St.ev, upd, ren, renL, id, Nat.reduceEqDiff, reduceIte]; done) | ((try simp only [St.set, St.ev, upd, ren, renL, id, Nat.reduceEqDiff, reduceIte]); first | (with_reducible exact av_int (by omega)) | (with_reducible exact av_sl (by first | omega | (simp; done) | (simp; omega)) (by first | omega | (simp; done) | (simp; omega)))) | (simp only [St.set, St.ev, upd, ren, renL, id, Nat.reduceEqDiff, reduceIte, Int.natCast_add, Int.natCast_one, Int.cast_ofNat_Int, Int.natCast_zero]; done) | (simp only [St.set, St.ev, upd, ren, renL, id, Nat.reduceEqDiff, reduceIte]) | skip)))); (case h3 => (focus (first | (simp only [id, List.map_cons, List.map_nil]; decide) | decide | (simp; done) | (simp; omega) | fail))); (case h4 => (intro o l h; first | (cases h; done) | (have hlt0 := m0_lt (by assumption) h; first | omega | (simp only; omega) | exact ⟨by (first | rfl | (simp only [id]; done) | ((repeat rw [if_neg (by omega)]); done)), by first | omega | (simp only; omega)⟩))))
  rintro ⟨i, k, zs, q⟩ ⟨hi, hk, hz, hq, hR1, hR2⟩
  try simp only at hi hk hz hq hR1 hR2
  have hA1 : i < xs.length → k < ys.length → xs.getD i 0 ≤ ys.getD k 0 → (zs ++ [xs.getD i 0]) ++ (mrg (xs.drop (i + 1)) (ys.drop k)).1 = (mrg xs ys).1 ∧ q + 1 + (mrg (xs.drop (i + 1)) (ys.drop k)).2 = (mrg xs ys).2 := fun h1 h2 h3 => by
    rw [mrg_a h1 (.inr h3), if_pos h2] at hR1 hR2; exact ⟨by rw [← hR1]; simp, by rw [← hR2]; simp only; omega⟩
  have hA0 : i < xs.length → ys.length ≤ k → (zs ++ [xs.getD i 0]) ++ (mrg (xs.drop (i + 1)) (ys.drop k)).1 = (mrg xs ys).1 ∧ q + (mrg (xs.drop (i + 1)) (ys.drop k)).2 = (mrg xs ys).2 := fun h1 h2 => by
    rw [mrg_a h1 (.inl h2), if_neg (by omega)] at hR1 hR2; exact ⟨by rw [← hR1]; simp, by rw [← hR2]; simp only; omega⟩
  have hB1 : k < ys.length → i < xs.length → ys.getD k 0 < xs.getD i 0 → (zs ++ [ys.getD k 0]) ++ (mrg (xs.drop i) (ys.drop (k + 1))).1 = (mrg xs ys).1 ∧ q + 1 + (mrg (xs.drop i) (ys.drop (k + 1))).2 = (mrg xs ys).2 := fun h1 h2 h3 => by
    rw [mrg_b h1 (.inr h3), if_pos h2] at hR1 hR2; exact ⟨by rw [← hR1]; simp, by rw [← hR2]; simp only; omega⟩
  have hB0 : k < ys.length → xs.length ≤ i → (zs ++ [ys.getD k 0]) ++ (mrg (xs.drop i) (ys.drop (k + 1))).1 = (mrg xs ys).1 ∧ q + (mrg (xs.drop i) (ys.drop (k + 1))).2 = (mrg xs ys).2 := fun h1 h2 => by
    rw [mrg_b h1 (.inl h2), if_neg (by omega)] at hR1 hR2; exact ⟨by rw [← hR1]; simp, by rw [← hR2]; simp only; omega⟩
  have hend : xs.length ≤ i → ys.length ≤ k → mrg xs ys = (zs, q) := fun h1 h2 => by
    rw [List.drop_eq_nil_of_le h1, List.drop_eq_nil_of_le h2, nil_mrg] at hR1 hR2
    simp only [List.append_nil, Int.add_zero] at hR1 hR2
    rw [hR1, hR2]
  clear hR1 hR2
  repeat' (first | refine awp_seq_k fun K hK => ?_ | ((with_reducible refine hK _ ?_); clear hK K) | (clear hK K; (with_reducible refine hK _ ?_); clear hK K) | (clear hK K; clear hK K; (with_reducible refine hK _ ?_); clear hK K) | (clear hK K; clear hK K; clear hK K; (with_reducible refine hK _ ?_); clear hK K) | (clear hK K; clear hK K; clear hK K; clear hK K; (with_reducible refine hK _ ?_); clear hK K) | (clear hK K; clear hK K; clear hK K; clear hK K; clear hK K; (with_reducible refine hK _ ?_); clear hK K) | ((with_reducible refine aord_plain fun K hK => ?_); simp only [go_sem, Nat.reduceAdd, Nat.reduceMul, Nat.reduceEqDiff, Nat.reduceLT, reduceIte, reduceCtorEq]) | ((with_reducible apply aord_guard); (focus (simp only [St.ev, St.set, upd, Nat.reduceEqDiff, reduceIte, if_false, if_true]; exact rfl)); all_goals (intro hb; (try simp only [Bool.not_true, Bool.not_false] at hb); first | (cases hb; done) | ((try rw [hb]); (try simp only [Bool.not_eq_true', Bool.not_eq_false', Bool.and_eq_true, decide_eq_true_eq, decide_eq_false_iff_not, beq_iff_eq, bne_iff_ne, beq_eq_false_iff_ne, bne_eq_false_iff_eq, Int.not_lt, Int.not_le] at hb); (try (revert hb; with_reducible refine true_imp_iff.2 ?_)); first | (intro K hK; simp only [go_sem, Nat.reduceAdd, Nat.reduceMul, Nat.reduceEqDiff, Nat.reduceLT, reduceIte, reduceCtorEq]) | (simp only [St.ev, St.set, upd, Nat.reduceEqDiff, reduceIte, if_false, if_true]) | skip))) | ((with_reducible apply aord_skip); (focus (simp only [St.ev, St.set, upd, Nat.reduceEqDiff, reduceIte, if_false, if_true]; done)); (simp only [St.ev, St.set, upd, Nat.reduceEqDiff, reduceIte, if_false, if_true])) | refine awp_block ?_ | ((first | with_reducible refine aord_nil ?_ | refine awp_skip ?_ | refine awp_exit ?_ | refine awp_ret ?_); try simp only [thenA_normal, thenA_exit, thenA_goto, thenA_ret, blockA_normal, blockA_same, blockA_exit, blockA_goto, blockA_ret, Nat.reduceEqDiff, if_false, if_true, reduceIte]) | (refine awp_region tabOk rfl ?_; simp only [prep, pickO, List.map_cons, List.map_nil, List.getElem?_toArray, List.getElem?_cons_succ, List.getElem?_cons_zero, Option.bind_some, Option.map_some]) | (refine awp_region_draw (nt := 76) (id := 8) tabOk [(0, true, false), (1, true, false), (2, true, false), (3, true, false), (4, true, false), (5, true, false), (6, true, false), (7, true, false), (8, true, false), (9, true, false)] (by kernel_rfl) rfl (by kernel_rfl) ?_; simp only [prep, pickO, List.map_cons, List.map_nil, List.getElem?_toArray, List.getElem?_cons_succ, List.getElem?_cons_zero, Option.bind_some, Option.map_some]) | (refine awp_region_draw (nt := 76) (id := 10) tabOk [(0, true, false), (1, true, false), (2, true, false), (3, true, false), (4, true, false), (5, true, false), (6, false, false), (7, false, true), (8, true, false), (9, false, false)] (by kernel_rfl) rfl (by kernel_rfl) ?_; simp only [prep, pickO, List.map_cons, List.map_nil, List.getElem?_toArray, List.getElem?_cons_succ, List.getElem?_cons_zero, Option.bind_some, Option.map_some]) | (refine awp_region_draw (nt := 76) (id := 12) tabOk [(0, true, false), (1, true, false), (2, true, false), (3, true, false), (4, true, false), (5, true, false), (6, false, false), (7, false, true), (8, true, false), (9, false, false)] (by kernel_rfl) rfl (by kernel_rfl) ?_; simp only [prep, pickO, List.map_cons, List.map_nil, List.getElem?_toArray, List.getElem?_cons_succ, List.getElem?_cons_zero, Option.bind_some, Option.map_some]) | ((with_reducible apply awp_cond); (focus (simp only [St.ev, St.set, upd, Nat.reduceEqDiff, reduceIte, if_false, if_true]; exact rfl)); all_goals (intro hb; first | (cases hb; done) | ((try rw [hb]); (try simp only [decide_eq_true_eq, decide_eq_false_iff_not, beq_iff_eq, bne_iff_ne, beq_eq_false_iff_ne, bne_eq_false_iff_eq, Int.not_lt, Int.not_le, Bool.not_eq_true', Bool.not_eq_false'] at hb)))) | ((with_reducible refine And.intro ?_ ?_); (focus omega)) | ((with_reducible refine And.intro ?_ ?_); (focus (exact rfl))) | (refine aAppend_ints rfl rfl rfl rfl (Nat.le_of_ble_eq_true rfl) (by simp only [St.ev, St.set, upd, Nat.reduceEqDiff, reduceIte, if_false, if_true]; exact rfl) (by simp only [St.ev, St.set, upd, Nat.reduceEqDiff, reduceIte, if_false, if_true]; exact rfl) rfl (by first | decide | omega | (simp; done) | fail) ?_ ?_ ?_ ?_; (focus (first | rfl | omega | (simp; done) | (simp; omega) | (simp [szOf, tab]; done) | (simp [szOf, tab]; omega))); (focus (first | rfl | omega | (simp; done) | (simp; omega) | (simp [szOf, tab]; done) | (simp [szOf, tab]; omega))); (focus (first | rfl | omega | (simp; done) | (simp; omega) | (simp [szOf, tab]; done) | (simp [szOf, tab]; omega))); (try simp only [go_sem, Nat.reduceAdd, Nat.reduceMul, Nat.reduceEqDiff, Nat.reduceLT, reduceIte, reduceCtorEq])) | (refine aAppend_none rfl rfl rfl rfl (Nat.le_of_ble_eq_true rfl) (by simp only [St.ev, St.set, upd, Nat.reduceEqDiff, reduceIte, if_false, if_true]; exact rfl) ?_ ?_ ?_; (focus (first | rfl | omega | (simp; done) | (simp; omega) | (simp [szOf, tab]; done) | (simp [szOf, tab]; omega))); (focus (first | rfl | omega | (simp; done) | (simp; omega) | (simp [szOf, tab]; done) | (simp [szOf, tab]; omega))); (try simp only [go_sem, Nat.reduceAdd, Nat.reduceMul, Nat.reduceEqDiff, Nat.reduceLT, reduceIte, reduceCtorEq])) | (refine aStoreAll_ints (by simp only [St.ev, St.set, upd, Nat.reduceEqDiff, reduceIte, if_false, if_true]; exact rfl) ?_ ?_ ?_ ?_; (focus (first | rfl | omega | (simp; done) | (simp; omega) | (simp [szOf, tab]; done) | (simp [szOf, tab]; omega))); (focus (first | rfl | omega | (simp; done) | (simp; omega) | (simp [szOf, tab]; done) | (simp [szOf, tab]; omega))); (focus (first | rfl | omega | (simp; done) | (simp; omega) | (simp [szOf, tab]; done) | (simp [szOf, tab]; omega))); (try simp only [go_sem, Nat.reduceAdd, Nat.reduceMul, Nat.reduceEqDiff, Nat.reduceLT, reduceIte, reduceCtorEq])) | (simp only [rBuild]; simp only [fillA, Nat.reduceLeDiff, List.getElem?_cons_zero, List.getElem?_cons_succ, List.drop_succ_cons, List.drop_nil, List.take_nil, List.cons_append, Option.isSome_some, go_sem, Nat.reduceAdd, Nat.reduceMul, Nat.reduceEqDiff, Nat.reduceLT, reduceIte, reduceCtorEq]) | (refine aStoreAll_cells (by simp only [St.ev, St.set, upd, Nat.reduceEqDiff, reduceIte, if_false, if_true]; exact rfl) ?_ ?_ ?_ ?_ ?_; (focus (first | rfl | omega | (simp; done) | (simp; omega) | (simp [szOf, tab]; done) | (simp [szOf, tab]; omega))); (focus (first | rfl | omega | (simp; done) | (simp; omega) | (simp [szOf, tab]; done) | (simp [szOf, tab]; omega))); (focus (first | rfl | omega | (simp; done) | (simp; omega) | (simp [szOf, tab]; done) | (simp [szOf, tab]; omega))); (focus (first | rfl | (simp [AV.cell, Value.oneCell']; done))); (try simp only [go_sem, Nat.reduceAdd, Nat.reduceMul, Nat.reduceEqDiff, Nat.reduceLT, reduceIte, reduceCtorEq])) | (with_reducible refine And.intro (fun hb => ?_) (fun hb => ?_)) | (exfalso; omega) | fail)
  all_goals first | (focus ((have hx := hA1 (by omega) (by omega) (by omega); (refine Exists.intro (i + 1, k, zs ++ [xs.getD i 0], q + 1) ?_); (refine nxt ?_ ?_ ?_); (focus ((apply Wk.named (fun o => if o = 3 then 6 else o); (case' h2 => (focus ((repeat' (with_reducible first | exact HeapX.bot | (apply HeapX.skip; (case hx => (simp; done))) | apply HeapX.none | apply HeapX.upd)); all_goals (first | rfl | exact Nat.le_of_ble_eq_true rfl | (simp only [St.set, St.ev, upd, ren, renL, id, Nat.reduceEqDiff, reduceIte, ContLe]; done) | (first | (simp only [St.set, St.ev, upd, ren, renL, id, Nat.reduceEqDiff, reduceIte]; exact contLe_nil) | ((repeat' (first | exact contLe_nil | refine contLe_cons (.inr ⟨?_, rfl⟩) ?_)); all_goals (first | rfl | (simp only [St.set, St.ev, upd, ren, renL, id, Nat.reduceEqDiff, reduceIte]; done) | ((try simp only [St.set, St.ev, upd, ren, renL, id, Nat.reduceEqDiff, reduceIte]); first | (with_reducible exact av_int (by omega)) | (with_reducible exact av_sl (by first | omega | (simp; done) | (simp; omega)) (by first | omega | (simp; done) | (simp; omega)))) | (simp only [St.set, St.ev, upd, ren, renL, id, Nat.reduceEqDiff, reduceIte, Int.natCast_add, Int.natCast_one, Int.cast_ofNat_Int, Int.natCast_zero]; done) | (simp only [St.set, St.ev, upd, ren, renL, id, Nat.reduceEqDiff, reduceIte]) | skip); done)) | (simp only [St.set, St.ev, upd, ren, renL, id, Nat.reduceEqDiff, reduceIte, ContLe]) | skip)))); (case' h1 => (focus ((repeat' (with_reducible first | exact TmpLe.bot | refine TmpLe.upd ?_ rfl ?_)); all_goals (first | rfl | (simp only [St.set, St.ev, upd, ren, renL, id, Nat.reduceEqDiff, reduceIte]; done) | ((try simp only [St.set, St.ev, upd, ren, renL, id, Nat.reduceEqDiff, reduceIte]); first | (with_reducible exact av_int (by omega)) | (with_reducible exact av_sl (by first | omega | (simp; done) | (simp; omega)) (by first | omega | (simp; done) | (simp; omega)))) | (simp only [St.set, St.ev, upd, ren, renL, id, Nat.reduceEqDiff, reduceIte, Int.natCast_add, Int.natCast_one, Int.cast_ofNat_Int, Int.natCast_zero]; done) | (simp only [St.set, St.ev, upd, ren, renL, id, Nat.reduceEqDiff, reduceIte]) | skip)))); (case h3 => (focus (first | (simp only [id, List.map_cons, List.map_nil]; decide) | decide | (simp; done) | (simp; omega) | fail))); (case h4 => (intro o l h; first | (cases h; done) | (have hlt0 := m0_lt (by assumption) h; first | omega | (simp only; omega) | exact ⟨by (first | rfl | (simp only [id]; done) | ((repeat rw [if_neg (by omega)]); done)), by first | omega | (simp only; omega)⟩)))))); (focus (first | omega | (simp only; omega) | (simp only [List.length_take]; omega) | (simp; omega))); ((repeat' (with_reducible apply And.intro)) <;> (first | omega | (simp only; omega) | assumption | rfl | ((try simp only); first | exact hx.1 | exact hx.2 | (simp; omega)) | fail))); done)) | (focus ((have hx := hA0 (by omega) (by omega); (refine Exists.intro (i + 1, k, zs ++ [xs.getD i 0], q) ?_); (refine nxt ?_ ?_ ?_); (focus ((apply Wk.named (fun o => if o = 3 then 6 else o); (case' h2 => (focus ((repeat' (with_reducible first | exact HeapX.bot | (apply HeapX.skip; (case hx => (simp; done))) | apply HeapX.none | apply HeapX.upd)); all_goals (first | rfl | exact Nat.le_of_ble_eq_true rfl | (simp only [St.set, St.ev, upd, ren, renL, id, Nat.reduceEqDiff, reduceIte, ContLe]; done) | (first | (simp only [St.set, St.ev, upd, ren, renL, id, Nat.reduceEqDiff, reduceIte]; exact contLe_nil) | ((repeat' (first | exact contLe_nil | refine contLe_cons (.inr ⟨?_, rfl⟩) ?_)); all_goals (first | rfl | (simp only [St.set, St.ev, upd, ren, renL, id, Nat.reduceEqDiff, reduceIte]; done) | ((try simp only [St.set, St.ev, upd, ren, renL, id, Nat.reduceEqDiff, reduceIte]); first | (with_reducible exact av_int (by omega)) | (with_reducible exact av_sl (by first | omega | (simp; done) | (simp; omega)) (by first | omega | (simp; done) | (simp; omega)))) | (simp only [St.set, St.ev, upd, ren, renL, id, Nat.reduceEqDiff, reduceIte, Int.natCast_add, Int.natCast_one, Int.cast_ofNat_Int, Int.natCast_zero]; done) | (simp only [St.set, St.ev, upd, ren, renL, id, Nat.reduceEqDiff, reduceIte]) | skip); done)) | (simp only [St.set, St.ev, upd, ren, renL, id, Nat.reduceEqDiff, reduceIte, ContLe]) | skip)))); (case' h1 => (focus ((repeat' (with_reducible first | exact TmpLe.bot | refine TmpLe.upd ?_ rfl ?_)); all_goals (first | rfl | (simp only [St.set, St.ev, upd, ren, renL, id, Nat.reduceEqDiff, reduceIte]; done) | ((try simp only [St.set, St.ev, upd, ren, renL, id, Nat.reduceEqDiff, reduceIte]); first | (with_reducible exact av_int (by omega)) | (with_reducible exact av_sl (by first | omega | (simp; done) | (simp; omega)) (by first | omega | (simp; done) | (simp; omega)))) | (simp only [St.set, St.ev, upd, ren, renL, id, Nat.reduceEqDiff, reduceIte, Int.natCast_add, Int.natCast_one, Int.cast_ofNat_Int, Int.natCast_zero]; done) | (simp only [St.set, St.ev, upd, ren, renL, id, Nat.reduceEqDiff, reduceIte]) | skip)))); (case h3 => (focus (first | (simp only [id, List.map_cons, List.map_nil]; decide) | decide | (simp; done) | (simp; omega) | fail))); (case h4 => (intro o l h; first | (cases h; done) | (have hlt0 := m0_lt (by assumption) h; first | omega | (simp only; omega) | exact ⟨by (first | rfl | (simp only [id]; done) | ((repeat rw [if_neg (by omega)]); done)), by first | omega | (simp only; omega)⟩)))))); (focus (first | omega | (simp only; omega) | (simp only [List.length_take]; omega) | (simp; omega))); ((repeat' (with_reducible apply And.intro)) <;> (first | omega | (simp only; omega) | assumption | rfl | ((try simp only); first | exact hx.1 | exact hx.2 | (simp; omega)) | fail))); done)) | (focus ((have hx := hB1 (by omega) (by omega) (by omega); (refine Exists.intro (i, k + 1, zs ++ [ys.getD k 0], q + 1) ?_); (refine nxt ?_ ?_ ?_); (focus ((apply Wk.named (fun o => if o = 3 then 6 else o); (case' h2 => (focus ((repeat' (with_reducible first | exact HeapX.bot | (apply HeapX.skip; (case hx => (simp; done))) | apply HeapX.none | apply HeapX.upd)); all_goals (first | rfl | exact Nat.le_of_ble_eq_true rfl | (simp only [St.set, St.ev, upd, ren, renL, id, Nat.reduceEqDiff, reduceIte, ContLe]; done) | (first | (simp only [St.set, St.ev, upd, ren, renL, id, Nat.reduceEqDiff, reduceIte]; exact contLe_nil) | ((repeat' (first | exact contLe_nil | refine contLe_cons (.inr ⟨?_, rfl⟩) ?_)); all_goals (first | rfl | (simp only [St.set, St.ev, upd, ren, renL, id, Nat.reduceEqDiff, reduceIte]; done) | ((try simp only [St.set, St.ev, upd, ren, renL, id, Nat.reduceEqDiff, reduceIte]); first | (with_reducible exact av_int (by omega)) | (with_reducible exact av_sl (by first | omega | (simp; done) | (simp; omega)) (by first | omega | (simp; done) | (simp; omega)))) | (simp only [St.set, St.ev, upd, ren, renL, id, Nat.reduceEqDiff, reduceIte, Int.natCast_add, Int.natCast_one, Int.cast_ofNat_Int, Int.natCast_zero]; done) | (simp only [St.set, St.ev, upd, ren, renL, id, Nat.reduceEqDiff, reduceIte]) | skip); done)) | (simp only [St.set, St.ev, upd, ren, renL, id, Nat.reduceEqDiff, reduceIte, ContLe]) | skip)))); (case' h1 => (focus ((repeat' (with_reducible first | exact TmpLe.bot | refine TmpLe.upd ?_ rfl ?_)); all_goals (first | rfl | (simp only [St.set, St.ev, upd, ren, renL, id, Nat.reduceEqDiff, reduceIte]; done) | ((try simp only [St.set, St.ev, upd, ren, renL, id, Nat.reduceEqDiff, reduceIte]); first | (with_reducible exact av_int (by omega)) | (with_reducible exact av_sl (by first | omega | (simp; done) | (simp; omega)) (by first | omega | (simp; done) | (simp; omega)))) | (simp only [St.set, St.ev, upd, ren, renL, id, Nat.reduceEqDiff, reduceIte, Int.natCast_add, Int.natCast_one, Int.cast_ofNat_Int, Int.natCast_zero]; done) | (simp only [St.set, St.ev, upd, ren, renL, id, Nat.reduceEqDiff, reduceIte]) | skip)))); (case h3 => (focus (first | (simp only [id, List.map_cons, List.map_nil]; decide) | decide | (simp; done) | (simp; omega) | fail))); (case h4 => (intro o l h; first | (cases h; done) | (have hlt0 := m0_lt (by assumption) h; first | omega | (simp only; omega) | exact ⟨by (first | rfl | (simp only [id]; done) | ((repeat rw [if_neg (by omega)]); done)), by first | omega | (simp only; omega)⟩)))))); (focus (first | omega | (simp only; omega) | (simp only [List.length_take]; omega) | (simp; omega))); ((repeat' (with_reducible apply And.intro)) <;> (first | omega | (simp only; omega) | assumption | rfl | ((try simp only); first | exact hx.1 | exact hx.2 | (simp; omega)) | fail))); done)) | (focus ((have hx := hB0 (by omega) (by omega); (refine Exists.intro (i, k + 1, zs ++ [ys.getD k 0], q) ?_); (refine nxt ?_ ?_ ?_); (focus ((apply Wk.named (fun o => if o = 3 then 6 else o); (case' h2 => (focus ((repeat' (with_reducible first | exact HeapX.bot | (apply HeapX.skip; (case hx => (simp; done))) | apply HeapX.none | apply HeapX.upd)); all_goals (first | rfl | exact Nat.le_of_ble_eq_true rfl | (simp only [St.set, St.ev, upd, ren, renL, id, Nat.reduceEqDiff, reduceIte, ContLe]; done) | (first | (simp only [St.set, St.ev, upd, ren, renL, id, Nat.reduceEqDiff, reduceIte]; exact contLe_nil) | ((repeat' (first | exact contLe_nil | refine contLe_cons (.inr ⟨?_, rfl⟩) ?_)); all_goals (first | rfl | (simp only [St.set, St.ev, upd, ren, renL, id, Nat.reduceEqDiff, reduceIte]; done) | ((try simp only [St.set, St.ev, upd, ren, renL, id, Nat.reduceEqDiff, reduceIte]); first | (with_reducible exact av_int (by omega)) | (with_reducible exact av_sl (by first | omega | (simp; done) | (simp; omega)) (by first | omega | (simp; done) | (simp; omega)))) | (simp only [St.set, St.ev, upd, ren, renL, id, Nat.reduceEqDiff, reduceIte, Int.natCast_add, Int.natCast_one, Int.cast_ofNat_Int, Int.natCast_zero]; done) | (simp only [St.set, St.ev, upd, ren, renL, id, Nat.reduceEqDiff, reduceIte]) | skip); done)) | (simp only [St.set, St.ev, upd, ren, renL, id, Nat.reduceEqDiff, reduceIte, ContLe]) | skip)))); (case' h1 => (focus ((repeat' (with_reducible first | exact TmpLe.bot | refine TmpLe.upd ?_ rfl ?_)); all_goals (first | rfl | (simp only [St.set, St.ev, upd, ren, renL, id, Nat.reduceEqDiff, reduceIte]; done) | ((try simp only [St.set, St.ev, upd, ren, renL, id, Nat.reduceEqDiff, reduceIte]); first | (with_reducible exact av_int (by omega)) | (with_reducible exact av_sl (by first | omega | (simp; done) | (simp; omega)) (by first | omega | (simp; done) | (simp; omega)))) | (simp only [St.set, St.ev, upd, ren, renL, id, Nat.reduceEqDiff, reduceIte, Int.natCast_add, Int.natCast_one, Int.cast_ofNat_Int, Int.natCast_zero]; done) | (simp only [St.set, St.ev, upd, ren, renL, id, Nat.reduceEqDiff, reduceIte]) | skip)))); (case h3 => (focus (first | (simp only [id, List.map_cons, List.map_nil]; decide) | decide | (simp; done) | (simp; omega) | fail))); (case h4 => (intro o l h; first | (cases h; done) | (have hlt0 := m0_lt (by assumption) h; first | omega | (simp only; omega) | exact ⟨by (first | rfl | (simp only [id]; done) | ((repeat rw [if_neg (by omega)]); done)), by first | omega | (simp only; omega)⟩)))))); (focus (first | omega | (simp only; omega) | (simp only [List.length_take]; omega) | (simp; omega))); ((repeat' (with_reducible apply And.intro)) <;> (first | omega | (simp only; omega) | assumption | rfl | ((try simp only); first | exact hx.1 | exact hx.2 | (simp; omega)) | fail))); done)) | skip
  · simp only [St.set, St.ev, doneQ, doneH, ressK, resK, wrapR, AV.ids, AV.idsL, retK, retsK, upd, Nat.reduceEqDiff, reduceIte, if_false, if_true, List.nodup_nil, List.nodup_cons, List.not_mem_nil, not_false_eq_true, true_and, and_true, exists_eq_left', Option.some.injEq, rLoad, cellOf, tab, Ty.isAgg, Ty.one, Bool.false_eq_true, Cont.flat, List.drop_zero, List.take_succ_cons, List.take_zero, List.take_nil, List.nil_append, List.append_nil, List.length_cons, List.length_nil, Nat.le_refl, Nat.zero_add, Nat.reduceAdd, Nat.reduceLeDiff, List.drop_succ_cons, List.cons_append]
    obtain rfl : i = xs.length := by omega
    obtain rfl : k = ys.length := by omega
    rw [hend (Nat.le_refl _) (Nat.le_refl _)] at hQ
    exact ⟨rfl, by simp only [Cont.len], hQ⟩


/-- The numbers less than one, and the others. -/
def lowL (x : Int) (l : List Int) : List Int := l.filter fun y => decide (y < x)
def highL (x : Int) (l : List Int) : List Int := l.filter fun y => !decide (y < x)
theorem low_high (x : Int) (l : List Int) : (lowL x l).length + (highL x l).length = l.length := by
  unfold lowL highL
  induction l with
  | nil => rfl
  | cons y l ih =>
    by_cases h : y < x
    · simp [h] at ih ⊢; omega
    · simp [h] at ih ⊢; omega
theorem low_up {x : Int} {l : List Int} {i : Nat} (h : i < l.length) : lowL x (l.take (i + 1)) = lowL x (l.take i) ++ (if l.getD i 0 < x then [l.getD i 0] else []) := by
  unfold lowL
  rw [List.take_succ_eq_append_getElem h, List.filter_append, List.getD_eq_getElem?_getD, List.getElem?_eq_getElem h]
  simp only [Option.getD_some, List.filter_cons, List.filter_nil, decide_eq_true_eq]
theorem high_up {x : Int} {l : List Int} {i : Nat} (h : i < l.length) : highL x (l.take (i + 1)) = highL x (l.take i) ++ (if l.getD i 0 < x then [] else [l.getD i 0]) := by
  unfold highL
  rw [List.take_succ_eq_append_getElem h, List.filter_append, List.getD_eq_getElem?_getD, List.getElem?_eq_getElem h]
  by_cases h1 : l[i] < x
  · simp [h1]
  · simp [h1]
theorem low_in {x : Int} {l : List Int} (i : Nat) : (lowL x (l.take i)).length ≤ i ∧ (highL x (l.take i)).length ≤ i := by
  have := low_high x (l.take i)
  have h : (l.take i).length ≤ i := by rw [List.length_take]; omega
  omega
theorem getD_drop1 (xs : List Int) (i : Nat) : (xs.drop 1).getD i 0 = xs.getD (i + 1) 0 := by
  rw [List.getD_eq_getElem?_getD, List.getD_eq_getElem?_getD, List.getElem?_drop, Nat.add_comm]
/-- The key at a place, and how often is asked, when those are parted again and again among which it is. -/
def qpk : Nat → List Int → Nat → Int × Int
  | 0, xs, _ => (xs.getD 0 0, 0)
  | f + 1, xs, k => if k = (lowL (xs.getD 0 0) (xs.drop 1)).length then (xs.getD 0 0, (xs.length : Int) - 1) else if k < (lowL (xs.getD 0 0) (xs.drop 1)).length then ((qpk f (lowL (xs.getD 0 0) (xs.drop 1)) k).1, (qpk f (lowL (xs.getD 0 0) (xs.drop 1)) k).2 + xs.length - 1) else ((qpk f (highL (xs.getD 0 0) (xs.drop 1)) (k - (lowL (xs.getD 0 0) (xs.drop 1)).length - 1)).1, (qpk f (highL (xs.getD 0 0) (xs.drop 1)) (k - (lowL (xs.getD 0 0) (xs.drop 1)).length - 1)).2 + xs.length - 1)
theorem qpk_at {f : Nat} {xs : List Int} {k : Nat} (h1 : 1 ≤ xs.length) (h2 : xs.length ≤ f + 1) (hk : k = (lowL (xs.getD 0 0) (xs.drop 1)).length) : qpk f xs k = (xs.getD 0 0, (xs.length : Int) - 1) := by
  cases f with
  | zero => rw [qpk, show xs.length = 1 by omega]; rfl
  | succ f => rw [qpk, if_pos hk]
theorem qpk_low {f : Nat} {xs : List Int} {k : Nat} (hk : k < (lowL (xs.getD 0 0) (xs.drop 1)).length) : qpk (f + 1) xs k = ((qpk f (lowL (xs.getD 0 0) (xs.drop 1)) k).1, (qpk f (lowL (xs.getD 0 0) (xs.drop 1)) k).2 + xs.length - 1) := by
  rw [qpk, if_neg (by omega), if_pos hk]
theorem qpk_high {f : Nat} {xs : List Int} {k : Nat} (hk : (lowL (xs.getD 0 0) (xs.drop 1)).length < k) : qpk (f + 1) xs k = ((qpk f (highL (xs.getD 0 0) (xs.drop 1)) (k - (lowL (xs.getD 0 0) (xs.drop 1)).length - 1)).1, (qpk f (highL (xs.getD 0 0) (xs.drop 1)) (k - (lowL (xs.getD 0 0) (xs.drop 1)).length - 1)).2 + xs.length - 1) := by
  rw [qpk, if_neg (by omega), if_neg (by omega)]
theorem qpk_in : ∀ (f : Nat) (xs : List Int) (k : Nat), 1 ≤ xs.length → xs.length ≤ f + 1 → k < xs.length → f ≤ 7 → 0 ≤ (qpk f xs k).2 ∧ (qpk f xs k).2 ≤ 8 * f
  | 0, xs, k, _, _, _, _ => by simp [qpk]
  | f + 1, xs, k, h1, h2, h3, h4 => by
    have hl := low_high (xs.getD 0 0) (xs.drop 1)
    rw [List.length_drop] at hl
    rcases Nat.lt_trichotomy k (lowL (xs.getD 0 0) (xs.drop 1)).length with h | h | h
    · rw [qpk_low h]
      have := qpk_in f (lowL (xs.getD 0 0) (xs.drop 1)) k (by omega) (by omega) h (by omega)
      simp only; omega
    · rw [qpk_at h1 (by omega) h]; simp only; omega
    · rw [qpk_high h]
      have := qpk_in f (highL (xs.getD 0 0) (xs.drop 1)) (k - (lowL (xs.getD 0 0) (xs.drop 1)).length - 1) (by omega) (by omega) (by omega) (by omega)
      simp only; omega
/-- A place among keys. -/
def okP (xs : List Int) (k : Int) : Prop := validB xs = true ∧ 0 ≤ k ∧ k < xs.length
instance (xs : List Int) (k : Int) : Decidable (okP xs k) := by unfold okP; infer_instance


theorem flat_take {xss : List (List Int)} {i : Nat} (h : i < xss.length) : (xss.take (i + 1)).flatten = (xss.take i).flatten ++ xss.getD i [] := by
  rw [List.take_succ_eq_append_getElem h, List.flatten_append, List.getD_eq_getElem?_getD, List.getElem?_eq_getElem h]; simp
theorem flat_le {xss : List (List Int)} (i : Nat) : (xss.take i).flatten.length ≤ xss.flatten.length := by
  have h : xss.flatten = (xss.take i).flatten ++ (xss.drop i).flatten := by rw [← List.flatten_append, List.take_append_drop]
  have := congrArg List.length h
  rw [List.length_append] at this; omega



theorem concat_sat : Sat Try.prog 87 (fun ds Q => ∃ (xss : List (List Int)), ds = [.row (.rows .i64 xss none)] ∧ (xss.flatten.length ≤ 1000) ∧ (xss.length ≤ 100) ∧ Q (.row (.ints .i64 (xss.flatten)))) := by
  refine sat_intro tabOk Try.func87 rfl 36 rfl [.tmp 2] rfl ?_
  rintro ds Q W ⟨xss, rfl, hl, hn, hQ⟩
  refine ⟨Nat.le_of_ble_eq_true rfl, ?_⟩
  simp only [initS, initT, mat.matL, mat, Cont.len]
  repeat' (first | refine awp_seq_k fun K hK => ?_ | ((with_reducible refine hK _ ?_); clear hK K) | (clear hK K; (with_reducible refine hK _ ?_); clear hK K) | (clear hK K; clear hK K; (with_reducible refine hK _ ?_); clear hK K) | (clear hK K; clear hK K; clear hK K; (with_reducible refine hK _ ?_); clear hK K) | (clear hK K; clear hK K; clear hK K; clear hK K; (with_reducible refine hK _ ?_); clear hK K) | (clear hK K; clear hK K; clear hK K; clear hK K; clear hK K; (with_reducible refine hK _ ?_); clear hK K) | ((with_reducible refine aord_plain fun K hK => ?_); simp only [go_sem, Nat.reduceAdd, Nat.reduceMul, Nat.reduceEqDiff, Nat.reduceLT, reduceIte, reduceCtorEq]) | refine awp_block ?_ | ((first | with_reducible refine aord_nil ?_ | refine awp_skip ?_ | refine awp_exit ?_ | refine awp_ret ?_); try simp only [thenA_normal, thenA_exit, thenA_goto, thenA_ret, blockA_normal, blockA_same, blockA_exit, blockA_goto, blockA_ret, Nat.reduceEqDiff, if_false, if_true, reduceIte]) | (refine awp_region tabOk rfl ?_; simp only [prep, pickO, List.map_cons, List.map_nil, List.getElem?_toArray, List.getElem?_cons_succ, List.getElem?_cons_zero, Option.bind_some, Option.map_some]) | ((with_reducible apply awp_cond); (focus (simp only [St.ev, St.set, upd, Nat.reduceEqDiff, reduceIte, if_false, if_true]; exact rfl)); all_goals (intro hb; first | (cases hb; done) | ((try rw [hb]); (try simp only [decide_eq_true_eq, decide_eq_false_iff_not, beq_iff_eq, bne_iff_ne, beq_eq_false_iff_ne, bne_eq_false_iff_eq, Int.not_lt, Int.not_le, Bool.not_eq_true', Bool.not_eq_false'] at hb)))) | ((with_reducible refine And.intro ?_ ?_); (focus omega)) | ((with_reducible refine And.intro ?_ ?_); (focus (exact rfl))) | ((with_reducible refine And.intro (?_ : enters Try.prog 93) ?_); (focus exact Try.call93); (refine callX_h (callH_inline tabOk Try.func93 rfl 27 rfl [.tmp 4] rfl (Nat.le_of_ble_eq_true rfl) fun m0 hm0 hcl hlt => ?_)); simp only [initT, St.ev, St.set, upd, Nat.reduceEqDiff, reduceIte, if_false, if_true]) | (refine aAppend_ints rfl rfl rfl rfl (Nat.le_of_ble_eq_true rfl) (by simp only [St.ev, St.set, upd, Nat.reduceEqDiff, reduceIte, if_false, if_true]; exact rfl) (by simp only [St.ev, St.set, upd, Nat.reduceEqDiff, reduceIte, if_false, if_true]; exact rfl) rfl (by first | decide | omega | (simp; done) | fail) ?_ ?_ ?_ ?_; (focus (first | rfl | omega | (simp; done) | (simp; omega) | (simp [szOf, tab]; done) | (simp [szOf, tab]; omega))); (focus (first | rfl | omega | (simp; done) | (simp; omega) | (simp [szOf, tab]; done) | (simp [szOf, tab]; omega))); (focus (first | rfl | omega | (simp; done) | (simp; omega) | (simp [szOf, tab]; done) | (simp [szOf, tab]; omega))); (try simp only [go_sem, Nat.reduceAdd, Nat.reduceMul, Nat.reduceEqDiff, Nat.reduceLT, reduceIte, reduceCtorEq])) | (refine aAppend_none rfl rfl rfl rfl (Nat.le_of_ble_eq_true rfl) (by simp only [St.ev, St.set, upd, Nat.reduceEqDiff, reduceIte, if_false, if_true]; exact rfl) ?_ ?_ ?_; (focus (first | rfl | omega | (simp; done) | (simp; omega) | (simp [szOf, tab]; done) | (simp [szOf, tab]; omega))); (focus (first | rfl | omega | (simp; done) | (simp; omega) | (simp [szOf, tab]; done) | (simp [szOf, tab]; omega))); (try simp only [go_sem, Nat.reduceAdd, Nat.reduceMul, Nat.reduceEqDiff, Nat.reduceLT, reduceIte, reduceCtorEq])) | (refine aAppend_row rfl rfl rfl rfl (Nat.le_of_ble_eq_true rfl) (by simp only [St.ev, St.set, upd, Nat.reduceEqDiff, reduceIte, if_false, if_true]; exact rfl) (by simp only [St.ev, St.set, upd, Nat.reduceEqDiff, reduceIte, if_false, if_true]; exact rfl) rfl ?_ ?_ ?_ ?_ ?_; (focus (first | rfl | omega | (simp; done) | (simp; omega) | (simp [szOf, tab]; done) | (simp [szOf, tab]; omega))); (focus (first | rfl | omega | (simp; done) | (simp; omega) | (simp [szOf, tab]; done) | (simp [szOf, tab]; omega))); (focus (first | rfl | omega | (simp; done) | (simp; omega) | (simp [szOf, tab]; done) | (simp [szOf, tab]; omega))); (focus (first | rfl | omega | (simp; done) | (simp; omega) | (simp [szOf, tab]; done) | (simp [szOf, tab]; omega))); (try simp only [go_sem, Nat.reduceAdd, Nat.reduceMul, Nat.reduceEqDiff, Nat.reduceLT, reduceIte, reduceCtorEq])) | (simp only [aAppendZ, go_sem, Nat.reduceAdd, Nat.reduceMul, Nat.reduceEqDiff, Nat.reduceLT, reduceIte, reduceCtorEq]) | (simp only [doneH]; simp only [ressK, resK, wrapR, go_sem, Nat.reduceAdd, Nat.reduceMul, Nat.reduceEqDiff, Nat.reduceLT, reduceIte, reduceCtorEq]) | (with_reducible refine And.intro (fun hb => ?_) (fun hb => ?_)) | (exfalso; omega) | fail)
  refine awp_loopE (α := Nat) (fun s p => ⟨(upd (upd (upd (upd (upd bot 0 (s.tmps 0)) 3 (.val (.int .i64 ((xss.take p).flatten.length)))) 9 (s.tmps 9)) 10 (s.tmps 10)) 11 (.val (.int .i64 (p)))), s.heap, s.next⟩) _ (fun p => by simp only [St.ev, St.set, upd, Nat.reduceEqDiff, reduceIte, if_false, if_true]; exact rfl) (fun p => (p ≤ xss.length)) (fun p => xss.length - p) (0) ?_ ?_ ?_
  · (try simp only); (refine ?_ <;> (first | omega | rfl))
  · (apply Wk.same; (case' h2 => (focus ((repeat' (with_reducible first | exact HeapX.bot | (apply HeapX.skip; (case hx => (simp; done))) | apply HeapX.none | apply HeapX.upd)); all_goals (first | rfl | exact Nat.le_of_ble_eq_true rfl | (simp only [St.set, St.ev, upd, ren, renL, id, Nat.reduceEqDiff, reduceIte, ContLe]; done) | (first | (simp only [St.set, St.ev, upd, ren, renL, id, Nat.reduceEqDiff, reduceIte]; exact contLe_nil) | ((repeat' (first | exact contLe_nil | refine contLe_cons (.inr ⟨?_, rfl⟩) ?_)); all_goals (first | rfl | (simp only [St.set, St.ev, upd, ren, renL, id, Nat.reduceEqDiff, reduceIte]; done) | ((try simp only [St.set, St.ev, upd, ren, renL, id, Nat.reduceEqDiff, reduceIte]); first | (with_reducible exact av_int (by omega)) | (with_reducible exact av_sl (by first | omega | (simp; done) | (simp; omega)) (by first | omega | (simp; done) | (simp; omega)))) | (simp only [St.set, St.ev, upd, ren, renL, id, Nat.reduceEqDiff, reduceIte, Int.natCast_add, Int.natCast_one, Int.cast_ofNat_Int, Int.natCast_zero]; done) | (simp only [St.set, St.ev, upd, ren, renL, id, Nat.reduceEqDiff, reduceIte]) | skip); done)) | (simp only [St.set, St.ev, upd, ren, renL, id, Nat.reduceEqDiff, reduceIte, ContLe]) | skip)))); (case' h1 => (focus ((repeat' (with_reducible first | exact TmpLe.bot | refine TmpLe.upd ?_ rfl ?_)); all_goals (first | rfl | (simp only [St.set, St.ev, upd, ren, renL, id, Nat.reduceEqDiff, reduceIte]; done) | ((try simp only [St.set, St.ev, upd, ren, renL, id, Nat.reduceEqDiff, reduceIte]); first | (with_reducible exact av_int (by omega)) | (with_reducible exact av_sl (by first | omega | (simp; done) | (simp; omega)) (by first | omega | (simp; done) | (simp; omega)))) | (simp only [St.set, St.ev, upd, ren, renL, id, Nat.reduceEqDiff, reduceIte, Int.natCast_add, Int.natCast_one, Int.cast_ofNat_Int, Int.natCast_zero]; done) | (simp only [St.set, St.ev, upd, ren, renL, id, Nat.reduceEqDiff, reduceIte]) | skip)))); (case h3 => (focus (first | (simp only [id, List.map_cons, List.map_nil]; decide) | decide | (simp; done) | (simp; omega) | fail))); (case h4 => (intro o l h; first | (cases h; done) | (have hlt0 := m0_lt (by assumption) h; first | omega | (simp only; omega) | exact ⟨by (first | rfl | (simp only [id]; done) | ((repeat rw [if_neg (by omega)]); done)), by first | omega | (simp only; omega)⟩))))
  rintro i hi
  try simp only at hi
  have hft := fun h : i < xss.length => flat_take h
  have hfl : i < xss.length → (xss.take (i + 1)).flatten.length = (xss.take i).flatten.length + (xss.getD i []).length := fun h => by rw [hft h, List.length_append]
  have hle := flat_le (xss := xss) i
  have hle1 := flat_le (xss := xss) (i + 1)
  repeat' (first | refine awp_seq_k fun K hK => ?_ | ((with_reducible refine hK _ ?_); clear hK K) | (clear hK K; (with_reducible refine hK _ ?_); clear hK K) | (clear hK K; clear hK K; (with_reducible refine hK _ ?_); clear hK K) | (clear hK K; clear hK K; clear hK K; (with_reducible refine hK _ ?_); clear hK K) | (clear hK K; clear hK K; clear hK K; clear hK K; (with_reducible refine hK _ ?_); clear hK K) | (clear hK K; clear hK K; clear hK K; clear hK K; clear hK K; (with_reducible refine hK _ ?_); clear hK K) | ((with_reducible refine aord_plain fun K hK => ?_); simp only [go_sem, Nat.reduceAdd, Nat.reduceMul, Nat.reduceEqDiff, Nat.reduceLT, reduceIte, reduceCtorEq]) | refine awp_block ?_ | ((first | with_reducible refine aord_nil ?_ | refine awp_skip ?_ | refine awp_exit ?_ | refine awp_ret ?_); try simp only [thenA_normal, thenA_exit, thenA_goto, thenA_ret, blockA_normal, blockA_same, blockA_exit, blockA_goto, blockA_ret, Nat.reduceEqDiff, if_false, if_true, reduceIte]) | (refine awp_region tabOk rfl ?_; simp only [prep, pickO, List.map_cons, List.map_nil, List.getElem?_toArray, List.getElem?_cons_succ, List.getElem?_cons_zero, Option.bind_some, Option.map_some]) | ((with_reducible apply awp_cond); (focus (simp only [St.ev, St.set, upd, Nat.reduceEqDiff, reduceIte, if_false, if_true]; exact rfl)); all_goals (intro hb; first | (cases hb; done) | ((try rw [hb]); (try simp only [decide_eq_true_eq, decide_eq_false_iff_not, beq_iff_eq, bne_iff_ne, beq_eq_false_iff_ne, bne_eq_false_iff_eq, Int.not_lt, Int.not_le, Bool.not_eq_true', Bool.not_eq_false'] at hb)))) | ((with_reducible refine And.intro ?_ ?_); (focus omega)) | ((with_reducible refine And.intro ?_ ?_); (focus (exact rfl))) | ((with_reducible refine And.intro (?_ : enters Try.prog 93) ?_); (focus exact Try.call93); (refine callX_h (callH_inline tabOk Try.func93 rfl 27 rfl [.tmp 4] rfl (Nat.le_of_ble_eq_true rfl) fun m0 hm0 hcl hlt => ?_)); simp only [initT, St.ev, St.set, upd, Nat.reduceEqDiff, reduceIte, if_false, if_true]) | (refine aAppend_ints rfl rfl rfl rfl (Nat.le_of_ble_eq_true rfl) (by simp only [St.ev, St.set, upd, Nat.reduceEqDiff, reduceIte, if_false, if_true]; exact rfl) (by simp only [St.ev, St.set, upd, Nat.reduceEqDiff, reduceIte, if_false, if_true]; exact rfl) rfl (by first | decide | omega | (simp; done) | fail) ?_ ?_ ?_ ?_; (focus (first | rfl | omega | (simp; done) | (simp; omega) | (simp [szOf, tab]; done) | (simp [szOf, tab]; omega))); (focus (first | rfl | omega | (simp; done) | (simp; omega) | (simp [szOf, tab]; done) | (simp [szOf, tab]; omega))); (focus (first | rfl | omega | (simp; done) | (simp; omega) | (simp [szOf, tab]; done) | (simp [szOf, tab]; omega))); (try simp only [go_sem, Nat.reduceAdd, Nat.reduceMul, Nat.reduceEqDiff, Nat.reduceLT, reduceIte, reduceCtorEq])) | (refine aAppend_none rfl rfl rfl rfl (Nat.le_of_ble_eq_true rfl) (by simp only [St.ev, St.set, upd, Nat.reduceEqDiff, reduceIte, if_false, if_true]; exact rfl) ?_ ?_ ?_; (focus (first | rfl | omega | (simp; done) | (simp; omega) | (simp [szOf, tab]; done) | (simp [szOf, tab]; omega))); (focus (first | rfl | omega | (simp; done) | (simp; omega) | (simp [szOf, tab]; done) | (simp [szOf, tab]; omega))); (try simp only [go_sem, Nat.reduceAdd, Nat.reduceMul, Nat.reduceEqDiff, Nat.reduceLT, reduceIte, reduceCtorEq])) | (refine aAppend_row rfl rfl rfl rfl (Nat.le_of_ble_eq_true rfl) (by simp only [St.ev, St.set, upd, Nat.reduceEqDiff, reduceIte, if_false, if_true]; exact rfl) (by simp only [St.ev, St.set, upd, Nat.reduceEqDiff, reduceIte, if_false, if_true]; exact rfl) rfl ?_ ?_ ?_ ?_ ?_; (focus (first | rfl | omega | (simp; done) | (simp; omega) | (simp [szOf, tab]; done) | (simp [szOf, tab]; omega))); (focus (first | rfl | omega | (simp; done) | (simp; omega) | (simp [szOf, tab]; done) | (simp [szOf, tab]; omega))); (focus (first | rfl | omega | (simp; done) | (simp; omega) | (simp [szOf, tab]; done) | (simp [szOf, tab]; omega))); (focus (first | rfl | omega | (simp; done) | (simp; omega) | (simp [szOf, tab]; done) | (simp [szOf, tab]; omega))); (try simp only [go_sem, Nat.reduceAdd, Nat.reduceMul, Nat.reduceEqDiff, Nat.reduceLT, reduceIte, reduceCtorEq])) | (simp only [aAppendZ, go_sem, Nat.reduceAdd, Nat.reduceMul, Nat.reduceEqDiff, Nat.reduceLT, reduceIte, reduceCtorEq]) | (simp only [doneH]; simp only [ressK, resK, wrapR, go_sem, Nat.reduceAdd, Nat.reduceMul, Nat.reduceEqDiff, Nat.reduceLT, reduceIte, reduceCtorEq]) | (with_reducible refine And.intro (fun hb => ?_) (fun hb => ?_)) | (exfalso; omega) | fail)
  · ((refine Exists.intro (i + 1) ?_); (refine nxt ?_ ?_ ?_); (focus ((apply Wk.same; (case' h2 => (focus ((repeat' (with_reducible first | exact HeapX.bot | (apply HeapX.skip; (case hx => (simp; done))) | apply HeapX.none | apply HeapX.upd)); all_goals (first | rfl | exact Nat.le_of_ble_eq_true rfl | (simp only [St.set, St.ev, upd, ren, renL, id, Nat.reduceEqDiff, reduceIte, ContLe]; done) | (first | (simp only [St.set, St.ev, upd, ren, renL, id, Nat.reduceEqDiff, reduceIte]; exact contLe_nil) | ((repeat' (first | exact contLe_nil | refine contLe_cons (.inr ⟨?_, rfl⟩) ?_)); all_goals (first | rfl | (simp only [St.set, St.ev, upd, ren, renL, id, Nat.reduceEqDiff, reduceIte]; done) | ((try simp only [St.set, St.ev, upd, ren, renL, id, Nat.reduceEqDiff, reduceIte]); first | (with_reducible exact av_int (by omega)) | (with_reducible exact av_sl (by first | omega | (simp; done) | (simp; omega)) (by first | omega | (simp; done) | (simp; omega)))) | (simp only [St.set, St.ev, upd, ren, renL, id, Nat.reduceEqDiff, reduceIte, Int.natCast_add, Int.natCast_one, Int.cast_ofNat_Int, Int.natCast_zero]; done) | (simp only [St.set, St.ev, upd, ren, renL, id, Nat.reduceEqDiff, reduceIte]) | skip); done)) | (simp only [St.set, St.ev, upd, ren, renL, id, Nat.reduceEqDiff, reduceIte, ContLe]) | skip)))); (case' h1 => (focus ((repeat' (with_reducible first | exact TmpLe.bot | refine TmpLe.upd ?_ rfl ?_)); all_goals (first | rfl | (simp only [St.set, St.ev, upd, ren, renL, id, Nat.reduceEqDiff, reduceIte]; done) | ((try simp only [St.set, St.ev, upd, ren, renL, id, Nat.reduceEqDiff, reduceIte]); first | (with_reducible exact av_int (by omega)) | (with_reducible exact av_sl (by first | omega | (simp; done) | (simp; omega)) (by first | omega | (simp; done) | (simp; omega)))) | (simp only [St.set, St.ev, upd, ren, renL, id, Nat.reduceEqDiff, reduceIte, Int.natCast_add, Int.natCast_one, Int.cast_ofNat_Int, Int.natCast_zero]; done) | (simp only [St.set, St.ev, upd, ren, renL, id, Nat.reduceEqDiff, reduceIte]) | skip)))); (case h3 => (focus (first | (simp only [id, List.map_cons, List.map_nil]; decide) | decide | (simp; done) | (simp; omega) | fail))); (case h4 => (intro o l h; first | (cases h; done) | (have hlt0 := m0_lt (by assumption) h; first | omega | (simp only; omega) | exact ⟨by (first | rfl | (simp only [id]; done) | ((repeat rw [if_neg (by omega)]); done)), by first | omega | (simp only; omega)⟩)))))); (focus (first | omega | (simp only; omega) | (simp only [List.length_take]; omega) | (simp; omega))); ((repeat' (with_reducible apply And.intro)) <;> (first | omega | (simp only; omega) | assumption | rfl | (simp only))))
  all_goals (
    first
    | (refine awp_keep 1 0 (by simp only [St.ev, St.set, upd, Nat.reduceEqDiff, reduceIte, if_false, if_true]; exact rfl) ?_; simp only [St.ev, St.set, upd, Nat.reduceEqDiff, reduceIte, if_false, if_true, List.take_zero])
    | (refine awp_nil 6 (.ints .i64 []) rfl rfl (by simp only [St.ev, St.set, upd, Nat.reduceEqDiff, reduceIte, if_false, if_true]) ?_; simp only [St.ev, St.set, upd, Nat.reduceEqDiff, reduceIte, if_false, if_true]))
  · skip
    refine awp_loopE (α := (Nat) × (List Int)) (fun s p => ⟨(upd (upd (upd (upd bot 6 (.sl 1 0 (p.2).length 1 none)) 25 (s.tmps 25)) 26 (s.tmps 26)) 27 (.val (.int .i64 ((p.1))))), (upd s.heap 1 (some ⟨true, .ints .i64 ((p.2))⟩)), s.next⟩) _ (fun p => by simp only [St.ev, St.set, upd, Nat.reduceEqDiff, reduceIte, if_false, if_true]; exact rfl) (fun p => ((p.1) ≤ xss.length) ∧ ((p.2) = (xss.take (p.1)).flatten)) (fun p => xss.length - (p.1)) (0, []) ?_ ?_ ?_
    · (try simp only); (refine ⟨?_, ?_⟩ <;> (first | omega | (simp only; omega) | rfl | (simp; done) | skip))
    · (apply Wk.same; (case' h2 => (focus ((repeat' (with_reducible first | exact HeapX.bot | (apply HeapX.skip; (case hx => (simp; done))) | apply HeapX.none | apply HeapX.upd)); all_goals (first | rfl | exact Nat.le_of_ble_eq_true rfl | (simp only [St.set, St.ev, upd, ren, renL, id, Nat.reduceEqDiff, reduceIte, ContLe]; done) | (first | (simp only [St.set, St.ev, upd, ren, renL, id, Nat.reduceEqDiff, reduceIte]; exact contLe_nil) | ((repeat' (first | exact contLe_nil | refine contLe_cons (.inr ⟨?_, rfl⟩) ?_)); all_goals (first | rfl | (simp only [St.set, St.ev, upd, ren, renL, id, Nat.reduceEqDiff, reduceIte]; done) | ((try simp only [St.set, St.ev, upd, ren, renL, id, Nat.reduceEqDiff, reduceIte]); first | (with_reducible exact av_int (by omega)) | (with_reducible exact av_sl (by first | omega | (simp; done) | (simp; omega)) (by first | omega | (simp; done) | (simp; omega)))) | (simp only [St.set, St.ev, upd, ren, renL, id, Nat.reduceEqDiff, reduceIte, Int.natCast_add, Int.natCast_one, Int.cast_ofNat_Int, Int.natCast_zero]; done) | (simp only [St.set, St.ev, upd, ren, renL, id, Nat.reduceEqDiff, reduceIte]) | skip); done)) | (simp only [St.set, St.ev, upd, ren, renL, id, Nat.reduceEqDiff, reduceIte, ContLe]) | skip)))); (case' h1 => (focus ((repeat' (with_reducible first | exact TmpLe.bot | refine TmpLe.upd ?_ rfl ?_)); all_goals (first | rfl | (simp only [St.set, St.ev, upd, ren, renL, id, Nat.reduceEqDiff, reduceIte]; done) | ((try simp only [St.set, St.ev, upd, ren, renL, id, Nat.reduceEqDiff, reduceIte]); first | (with_reducible exact av_int (by omega)) | (with_reducible exact av_sl (by first | omega | (simp; done) | (simp; omega)) (by first | omega | (simp; done) | (simp; omega)))) | (simp only [St.set, St.ev, upd, ren, renL, id, Nat.reduceEqDiff, reduceIte, Int.natCast_add, Int.natCast_one, Int.cast_ofNat_Int, Int.natCast_zero]; done) | (simp only [St.set, St.ev, upd, ren, renL, id, Nat.reduceEqDiff, reduceIte]) | skip)))); (case h3 => (focus (first | (simp only [id, List.map_cons, List.map_nil]; decide) | decide | (simp; done) | (simp; omega) | fail))); (case h4 => (intro o l h; first | (cases h; done) | (have hlt0 := m0_lt (by assumption) h; first | omega | (simp only; omega) | exact ⟨by (first | rfl | (simp only [id]; done) | ((repeat rw [if_neg (by omega)]); done)), by first | omega | (simp only; omega)⟩))))
    rintro ⟨k, acc⟩ ⟨hk, hacc⟩
    try simp only at hk hacc
    have hft2 := fun h : k < xss.length => flat_take h
    have hfl2 : k < xss.length → (xss.take (k + 1)).flatten.length = (xss.take k).flatten.length + (xss.getD k []).length := fun h => by rw [hft2 h, List.length_append]
    have hle2 := flat_le (xss := xss) k
    have hle3 := flat_le (xss := xss) (k + 1)
    have hal : acc.length = (xss.take k).flatten.length := by rw [hacc]
    have hap : k < xss.length → acc ++ xss.getD k [] = (xss.take (k + 1)).flatten := fun h => by rw [hft2 h, hacc]
    repeat' (first | refine awp_seq_k fun K hK => ?_ | ((with_reducible refine hK _ ?_); clear hK K) | (clear hK K; (with_reducible refine hK _ ?_); clear hK K) | (clear hK K; clear hK K; (with_reducible refine hK _ ?_); clear hK K) | (clear hK K; clear hK K; clear hK K; (with_reducible refine hK _ ?_); clear hK K) | (clear hK K; clear hK K; clear hK K; clear hK K; (with_reducible refine hK _ ?_); clear hK K) | (clear hK K; clear hK K; clear hK K; clear hK K; clear hK K; (with_reducible refine hK _ ?_); clear hK K) | ((with_reducible refine aord_plain fun K hK => ?_); simp only [go_sem, Nat.reduceAdd, Nat.reduceMul, Nat.reduceEqDiff, Nat.reduceLT, reduceIte, reduceCtorEq]) | refine awp_block ?_ | ((first | with_reducible refine aord_nil ?_ | refine awp_skip ?_ | refine awp_exit ?_ | refine awp_ret ?_); try simp only [thenA_normal, thenA_exit, thenA_goto, thenA_ret, blockA_normal, blockA_same, blockA_exit, blockA_goto, blockA_ret, Nat.reduceEqDiff, if_false, if_true, reduceIte]) | (refine awp_region tabOk rfl ?_; simp only [prep, pickO, List.map_cons, List.map_nil, List.getElem?_toArray, List.getElem?_cons_succ, List.getElem?_cons_zero, Option.bind_some, Option.map_some]) | ((with_reducible apply awp_cond); (focus (simp only [St.ev, St.set, upd, Nat.reduceEqDiff, reduceIte, if_false, if_true]; exact rfl)); all_goals (intro hb; first | (cases hb; done) | ((try rw [hb]); (try simp only [decide_eq_true_eq, decide_eq_false_iff_not, beq_iff_eq, bne_iff_ne, beq_eq_false_iff_ne, bne_eq_false_iff_eq, Int.not_lt, Int.not_le, Bool.not_eq_true', Bool.not_eq_false'] at hb)))) | ((with_reducible refine And.intro ?_ ?_); (focus omega)) | ((with_reducible refine And.intro ?_ ?_); (focus (exact rfl))) | ((with_reducible refine And.intro (?_ : enters Try.prog 93) ?_); (focus exact Try.call93); (refine callX_h (callH_inline tabOk Try.func93 rfl 27 rfl [.tmp 4] rfl (Nat.le_of_ble_eq_true rfl) fun m0 hm0 hcl hlt => ?_)); simp only [initT, St.ev, St.set, upd, Nat.reduceEqDiff, reduceIte, if_false, if_true]) | (refine aAppend_ints rfl rfl rfl rfl (Nat.le_of_ble_eq_true rfl) (by simp only [St.ev, St.set, upd, Nat.reduceEqDiff, reduceIte, if_false, if_true]; exact rfl) (by simp only [St.ev, St.set, upd, Nat.reduceEqDiff, reduceIte, if_false, if_true]; exact rfl) rfl (by first | decide | omega | (simp; done) | fail) ?_ ?_ ?_ ?_; (focus (first | rfl | omega | (simp; done) | (simp; omega) | (simp [szOf, tab]; done) | (simp [szOf, tab]; omega))); (focus (first | rfl | omega | (simp; done) | (simp; omega) | (simp [szOf, tab]; done) | (simp [szOf, tab]; omega))); (focus (first | rfl | omega | (simp; done) | (simp; omega) | (simp [szOf, tab]; done) | (simp [szOf, tab]; omega))); (try simp only [go_sem, Nat.reduceAdd, Nat.reduceMul, Nat.reduceEqDiff, Nat.reduceLT, reduceIte, reduceCtorEq])) | (refine aAppend_none rfl rfl rfl rfl (Nat.le_of_ble_eq_true rfl) (by simp only [St.ev, St.set, upd, Nat.reduceEqDiff, reduceIte, if_false, if_true]; exact rfl) ?_ ?_ ?_; (focus (first | rfl | omega | (simp; done) | (simp; omega) | (simp [szOf, tab]; done) | (simp [szOf, tab]; omega))); (focus (first | rfl | omega | (simp; done) | (simp; omega) | (simp [szOf, tab]; done) | (simp [szOf, tab]; omega))); (try simp only [go_sem, Nat.reduceAdd, Nat.reduceMul, Nat.reduceEqDiff, Nat.reduceLT, reduceIte, reduceCtorEq])) | (refine aAppend_row rfl rfl rfl rfl (Nat.le_of_ble_eq_true rfl) (by simp only [St.ev, St.set, upd, Nat.reduceEqDiff, reduceIte, if_false, if_true]; exact rfl) (by simp only [St.ev, St.set, upd, Nat.reduceEqDiff, reduceIte, if_false, if_true]; exact rfl) rfl ?_ ?_ ?_ ?_ ?_; (focus (first | rfl | omega | (simp; done) | (simp; omega) | (simp [szOf, tab]; done) | (simp [szOf, tab]; omega))); (focus (first | rfl | omega | (simp; done) | (simp; omega) | (simp [szOf, tab]; done) | (simp [szOf, tab]; omega))); (focus (first | rfl | omega | (simp; done) | (simp; omega) | (simp [szOf, tab]; done) | (simp [szOf, tab]; omega))); (focus (first | rfl | omega | (simp; done) | (simp; omega) | (simp [szOf, tab]; done) | (simp [szOf, tab]; omega))); (try simp only [go_sem, Nat.reduceAdd, Nat.reduceMul, Nat.reduceEqDiff, Nat.reduceLT, reduceIte, reduceCtorEq])) | (simp only [aAppendZ, go_sem, Nat.reduceAdd, Nat.reduceMul, Nat.reduceEqDiff, Nat.reduceLT, reduceIte, reduceCtorEq]) | (simp only [doneH]; simp only [ressK, resK, wrapR, go_sem, Nat.reduceAdd, Nat.reduceMul, Nat.reduceEqDiff, Nat.reduceLT, reduceIte, reduceCtorEq]) | (with_reducible refine And.intro (fun hb => ?_) (fun hb => ?_)) | (exfalso; omega) | fail)
    · ((apply Exists.intro (k + 1, _)); (refine nxt ?_ ?_ ?_); (focus ((apply Wk.named (fun o => if o = 1 then 2 else o); (case' h2 => (focus ((repeat' (with_reducible first | exact HeapX.bot | (apply HeapX.skip; (case hx => (simp; done))) | apply HeapX.none | apply HeapX.upd)); all_goals (first | rfl | exact Nat.le_of_ble_eq_true rfl | (simp only [St.set, St.ev, upd, ren, renL, id, Nat.reduceEqDiff, reduceIte, ContLe]; done) | (first | (simp only [St.set, St.ev, upd, ren, renL, id, Nat.reduceEqDiff, reduceIte]; exact contLe_nil) | ((repeat' (first | exact contLe_nil | refine contLe_cons (.inr ⟨?_, rfl⟩) ?_)); all_goals (first | rfl | (simp only [St.set, St.ev, upd, ren, renL, id, Nat.reduceEqDiff, reduceIte]; done) | ((try simp only [St.set, St.ev, upd, ren, renL, id, Nat.reduceEqDiff, reduceIte]); first | (with_reducible exact av_int (by omega)) | (with_reducible exact av_sl (by first | omega | (simp; done) | (simp; omega)) (by first | omega | (simp; done) | (simp; omega)))) | (simp only [St.set, St.ev, upd, ren, renL, id, Nat.reduceEqDiff, reduceIte, Int.natCast_add, Int.natCast_one, Int.cast_ofNat_Int, Int.natCast_zero]; done) | (simp only [St.set, St.ev, upd, ren, renL, id, Nat.reduceEqDiff, reduceIte]) | skip); done)) | (simp only [St.set, St.ev, upd, ren, renL, id, Nat.reduceEqDiff, reduceIte, ContLe]) | skip)))); (case' h1 => (focus ((repeat' (with_reducible first | exact TmpLe.bot | refine TmpLe.upd ?_ rfl ?_)); all_goals (first | rfl | (simp only [St.set, St.ev, upd, ren, renL, id, Nat.reduceEqDiff, reduceIte]; done) | ((try simp only [St.set, St.ev, upd, ren, renL, id, Nat.reduceEqDiff, reduceIte]); first | (with_reducible exact av_int (by omega)) | (with_reducible exact av_sl (by first | omega | (simp; done) | (simp; omega)) (by first | omega | (simp; done) | (simp; omega)))) | (simp only [St.set, St.ev, upd, ren, renL, id, Nat.reduceEqDiff, reduceIte, Int.natCast_add, Int.natCast_one, Int.cast_ofNat_Int, Int.natCast_zero]; done) | (simp only [St.set, St.ev, upd, ren, renL, id, Nat.reduceEqDiff, reduceIte]) | skip)))); (case h3 => (focus (first | (simp only [id, List.map_cons, List.map_nil]; decide) | decide | (simp; done) | (simp; omega) | fail))); (case h4 => (intro o l h; first | (cases h; done) | (have hlt0 := m0_lt (by assumption) h; first | omega | (simp only; omega) | exact ⟨by (first | rfl | (simp only [id]; done) | ((repeat rw [if_neg (by omega)]); done)), by first | omega | (simp only; omega)⟩)))))); (focus (first | omega | (simp only; omega) | (simp only [List.length_take]; omega) | (simp; omega))); ((repeat' (with_reducible apply And.intro)) <;> (first | omega | (simp only; omega) | assumption | rfl | ((try simp only); first | exact hap (by omega) | (simp; omega)) | skip)))
    · simp only [St.set, St.ev, doneQ, doneH, ressK, resK, wrapR, AV.ids, AV.idsL, retK, retsK, upd, Nat.reduceEqDiff, reduceIte, if_false, if_true, List.nodup_nil, List.nodup_cons, List.not_mem_nil, not_false_eq_true, true_and, and_true, exists_eq_left', Option.some.injEq, rLoad, cellOf, tab, Ty.isAgg, Ty.one, Bool.false_eq_true]
      have e : acc = xss.flatten := by rw [hacc, show k = xss.length by omega, List.take_length]
      subst e
      exact ⟨rfl, by simp only [Cont.len], hQ⟩
  · skip
    refine awp_loopE (α := (Nat) × (List Int)) (fun s p => ⟨(upd (upd (upd (upd bot 6 (.sl 1 0 (p.2).length 1 none)) 25 (s.tmps 25)) 26 (s.tmps 26)) 27 (.val (.int .i64 ((p.1))))), (upd s.heap 1 (some ⟨true, .ints .i64 ((p.2))⟩)), s.next⟩) _ (fun p => by simp only [St.ev, St.set, upd, Nat.reduceEqDiff, reduceIte, if_false, if_true]; exact rfl) (fun p => ((p.1) ≤ xss.length) ∧ ((p.2) = (xss.take (p.1)).flatten)) (fun p => xss.length - (p.1)) (0, []) ?_ ?_ ?_
    · (try simp only); (refine ⟨?_, ?_⟩ <;> (first | omega | (simp only; omega) | rfl | (simp; done) | skip))
    · (apply Wk.same; (case' h2 => (focus ((repeat' (with_reducible first | exact HeapX.bot | (apply HeapX.skip; (case hx => (simp; done))) | apply HeapX.none | apply HeapX.upd)); all_goals (first | rfl | exact Nat.le_of_ble_eq_true rfl | (simp only [St.set, St.ev, upd, ren, renL, id, Nat.reduceEqDiff, reduceIte, ContLe]; done) | (first | (simp only [St.set, St.ev, upd, ren, renL, id, Nat.reduceEqDiff, reduceIte]; exact contLe_nil) | ((repeat' (first | exact contLe_nil | refine contLe_cons (.inr ⟨?_, rfl⟩) ?_)); all_goals (first | rfl | (simp only [St.set, St.ev, upd, ren, renL, id, Nat.reduceEqDiff, reduceIte]; done) | ((try simp only [St.set, St.ev, upd, ren, renL, id, Nat.reduceEqDiff, reduceIte]); first | (with_reducible exact av_int (by omega)) | (with_reducible exact av_sl (by first | omega | (simp; done) | (simp; omega)) (by first | omega | (simp; done) | (simp; omega)))) | (simp only [St.set, St.ev, upd, ren, renL, id, Nat.reduceEqDiff, reduceIte, Int.natCast_add, Int.natCast_one, Int.cast_ofNat_Int, Int.natCast_zero]; done) | (simp only [St.set, St.ev, upd, ren, renL, id, Nat.reduceEqDiff, reduceIte]) | skip); done)) | (simp only [St.set, St.ev, upd, ren, renL, id, Nat.reduceEqDiff, reduceIte, ContLe]) | skip)))); (case' h1 => (focus ((repeat' (with_reducible first | exact TmpLe.bot | refine TmpLe.upd ?_ rfl ?_)); all_goals (first | rfl | (simp only [St.set, St.ev, upd, ren, renL, id, Nat.reduceEqDiff, reduceIte]; done) | ((try simp only [St.set, St.ev, upd, ren, renL, id, Nat.reduceEqDiff, reduceIte]); first | (with_reducible exact av_int (by omega)) | (with_reducible exact av_sl (by first | omega | (simp; done) | (simp; omega)) (by first | omega | (simp; done) | (simp; omega)))) | (simp only [St.set, St.ev, upd, ren, renL, id, Nat.reduceEqDiff, reduceIte, Int.natCast_add, Int.natCast_one, Int.cast_ofNat_Int, Int.natCast_zero]; done) | (simp only [St.set, St.ev, upd, ren, renL, id, Nat.reduceEqDiff, reduceIte]) | skip)))); (case h3 => (focus (first | (simp only [id, List.map_cons, List.map_nil]; decide) | decide | (simp; done) | (simp; omega) | fail))); (case h4 => (intro o l h; first | (cases h; done) | (have hlt0 := m0_lt (by assumption) h; first | omega | (simp only; omega) | exact ⟨by (first | rfl | (simp only [id]; done) | ((repeat rw [if_neg (by omega)]); done)), by first | omega | (simp only; omega)⟩))))
    rintro ⟨k, acc⟩ ⟨hk, hacc⟩
    try simp only at hk hacc
    have hft2 := fun h : k < xss.length => flat_take h
    have hfl2 : k < xss.length → (xss.take (k + 1)).flatten.length = (xss.take k).flatten.length + (xss.getD k []).length := fun h => by rw [hft2 h, List.length_append]
    have hle2 := flat_le (xss := xss) k
    have hle3 := flat_le (xss := xss) (k + 1)
    have hal : acc.length = (xss.take k).flatten.length := by rw [hacc]
    have hap : k < xss.length → acc ++ xss.getD k [] = (xss.take (k + 1)).flatten := fun h => by rw [hft2 h, hacc]
    repeat' (first | refine awp_seq_k fun K hK => ?_ | ((with_reducible refine hK _ ?_); clear hK K) | (clear hK K; (with_reducible refine hK _ ?_); clear hK K) | (clear hK K; clear hK K; (with_reducible refine hK _ ?_); clear hK K) | (clear hK K; clear hK K; clear hK K; (with_reducible refine hK _ ?_); clear hK K) | (clear hK K; clear hK K; clear hK K; clear hK K; (with_reducible refine hK _ ?_); clear hK K) | (clear hK K; clear hK K; clear hK K; clear hK K; clear hK K; (with_reducible refine hK _ ?_); clear hK K) | ((with_reducible refine aord_plain fun K hK => ?_); simp only [go_sem, Nat.reduceAdd, Nat.reduceMul, Nat.reduceEqDiff, Nat.reduceLT, reduceIte, reduceCtorEq]) | refine awp_block ?_ | ((first | with_reducible refine aord_nil ?_ | refine awp_skip ?_ | refine awp_exit ?_ | refine awp_ret ?_); try simp only [thenA_normal, thenA_exit, thenA_goto, thenA_ret, blockA_normal, blockA_same, blockA_exit, blockA_goto, blockA_ret, Nat.reduceEqDiff, if_false, if_true, reduceIte]) | (refine awp_region tabOk rfl ?_; simp only [prep, pickO, List.map_cons, List.map_nil, List.getElem?_toArray, List.getElem?_cons_succ, List.getElem?_cons_zero, Option.bind_some, Option.map_some]) | ((with_reducible apply awp_cond); (focus (simp only [St.ev, St.set, upd, Nat.reduceEqDiff, reduceIte, if_false, if_true]; exact rfl)); all_goals (intro hb; first | (cases hb; done) | ((try rw [hb]); (try simp only [decide_eq_true_eq, decide_eq_false_iff_not, beq_iff_eq, bne_iff_ne, beq_eq_false_iff_ne, bne_eq_false_iff_eq, Int.not_lt, Int.not_le, Bool.not_eq_true', Bool.not_eq_false'] at hb)))) | ((with_reducible refine And.intro ?_ ?_); (focus omega)) | ((with_reducible refine And.intro ?_ ?_); (focus (exact rfl))) | ((with_reducible refine And.intro (?_ : enters Try.prog 93) ?_); (focus exact Try.call93); (refine callX_h (callH_inline tabOk Try.func93 rfl 27 rfl [.tmp 4] rfl (Nat.le_of_ble_eq_true rfl) fun m0 hm0 hcl hlt => ?_)); simp only [initT, St.ev, St.set, upd, Nat.reduceEqDiff, reduceIte, if_false, if_true]) | (refine aAppend_ints rfl rfl rfl rfl (Nat.le_of_ble_eq_true rfl) (by simp only [St.ev, St.set, upd, Nat.reduceEqDiff, reduceIte, if_false, if_true]; exact rfl) (by simp only [St.ev, St.set, upd, Nat.reduceEqDiff, reduceIte, if_false, if_true]; exact rfl) rfl (by first | decide | omega | (simp; done) | fail) ?_ ?_ ?_ ?_; (focus (first | rfl | omega | (simp; done) | (simp; omega) | (simp [szOf, tab]; done) | (simp [szOf, tab]; omega))); (focus (first | rfl | omega | (simp; done) | (simp; omega) | (simp [szOf, tab]; done) | (simp [szOf, tab]; omega))); (focus (first | rfl | omega | (simp; done) | (simp; omega) | (simp [szOf, tab]; done) | (simp [szOf, tab]; omega))); (try simp only [go_sem, Nat.reduceAdd, Nat.reduceMul, Nat.reduceEqDiff, Nat.reduceLT, reduceIte, reduceCtorEq])) | (refine aAppend_none rfl rfl rfl rfl (Nat.le_of_ble_eq_true rfl) (by simp only [St.ev, St.set, upd, Nat.reduceEqDiff, reduceIte, if_false, if_true]; exact rfl) ?_ ?_ ?_; (focus (first | rfl | omega | (simp; done) | (simp; omega) | (simp [szOf, tab]; done) | (simp [szOf, tab]; omega))); (focus (first | rfl | omega | (simp; done) | (simp; omega) | (simp [szOf, tab]; done) | (simp [szOf, tab]; omega))); (try simp only [go_sem, Nat.reduceAdd, Nat.reduceMul, Nat.reduceEqDiff, Nat.reduceLT, reduceIte, reduceCtorEq])) | (refine aAppend_row rfl rfl rfl rfl (Nat.le_of_ble_eq_true rfl) (by simp only [St.ev, St.set, upd, Nat.reduceEqDiff, reduceIte, if_false, if_true]; exact rfl) (by simp only [St.ev, St.set, upd, Nat.reduceEqDiff, reduceIte, if_false, if_true]; exact rfl) rfl ?_ ?_ ?_ ?_ ?_; (focus (first | rfl | omega | (simp; done) | (simp; omega) | (simp [szOf, tab]; done) | (simp [szOf, tab]; omega))); (focus (first | rfl | omega | (simp; done) | (simp; omega) | (simp [szOf, tab]; done) | (simp [szOf, tab]; omega))); (focus (first | rfl | omega | (simp; done) | (simp; omega) | (simp [szOf, tab]; done) | (simp [szOf, tab]; omega))); (focus (first | rfl | omega | (simp; done) | (simp; omega) | (simp [szOf, tab]; done) | (simp [szOf, tab]; omega))); (try simp only [go_sem, Nat.reduceAdd, Nat.reduceMul, Nat.reduceEqDiff, Nat.reduceLT, reduceIte, reduceCtorEq])) | (simp only [aAppendZ, go_sem, Nat.reduceAdd, Nat.reduceMul, Nat.reduceEqDiff, Nat.reduceLT, reduceIte, reduceCtorEq]) | (simp only [doneH]; simp only [ressK, resK, wrapR, go_sem, Nat.reduceAdd, Nat.reduceMul, Nat.reduceEqDiff, Nat.reduceLT, reduceIte, reduceCtorEq]) | (with_reducible refine And.intro (fun hb => ?_) (fun hb => ?_)) | (exfalso; omega) | fail)
    · ((apply Exists.intro (k + 1, _)); (refine nxt ?_ ?_ ?_); (focus ((apply Wk.named (fun o => if o = 1 then 2 else o); (case' h2 => (focus ((repeat' (with_reducible first | exact HeapX.bot | (apply HeapX.skip; (case hx => (simp; done))) | apply HeapX.none | apply HeapX.upd)); all_goals (first | rfl | exact Nat.le_of_ble_eq_true rfl | (simp only [St.set, St.ev, upd, ren, renL, id, Nat.reduceEqDiff, reduceIte, ContLe]; done) | (first | (simp only [St.set, St.ev, upd, ren, renL, id, Nat.reduceEqDiff, reduceIte]; exact contLe_nil) | ((repeat' (first | exact contLe_nil | refine contLe_cons (.inr ⟨?_, rfl⟩) ?_)); all_goals (first | rfl | (simp only [St.set, St.ev, upd, ren, renL, id, Nat.reduceEqDiff, reduceIte]; done) | ((try simp only [St.set, St.ev, upd, ren, renL, id, Nat.reduceEqDiff, reduceIte]); first | (with_reducible exact av_int (by omega)) | (with_reducible exact av_sl (by first | omega | (simp; done) | (simp; omega)) (by first | omega | (simp; done) | (simp; omega)))) | (simp only [St.set, St.ev, upd, ren, renL, id, Nat.reduceEqDiff, reduceIte, Int.natCast_add, Int.natCast_one, Int.cast_ofNat_Int, Int.natCast_zero]; done) | (simp only [St.set, St.ev, upd, ren, renL, id, Nat.reduceEqDiff, reduceIte]) | skip); done)) | (simp only [St.set, St.ev, upd, ren, renL, id, Nat.reduceEqDiff, reduceIte, ContLe]) | skip)))); (case' h1 => (focus ((repeat' (with_reducible first | exact TmpLe.bot | refine TmpLe.upd ?_ rfl ?_)); all_goals (first | rfl | (simp only [St.set, St.ev, upd, ren, renL, id, Nat.reduceEqDiff, reduceIte]; done) | ((try simp only [St.set, St.ev, upd, ren, renL, id, Nat.reduceEqDiff, reduceIte]); first | (with_reducible exact av_int (by omega)) | (with_reducible exact av_sl (by first | omega | (simp; done) | (simp; omega)) (by first | omega | (simp; done) | (simp; omega)))) | (simp only [St.set, St.ev, upd, ren, renL, id, Nat.reduceEqDiff, reduceIte, Int.natCast_add, Int.natCast_one, Int.cast_ofNat_Int, Int.natCast_zero]; done) | (simp only [St.set, St.ev, upd, ren, renL, id, Nat.reduceEqDiff, reduceIte]) | skip)))); (case h3 => (focus (first | (simp only [id, List.map_cons, List.map_nil]; decide) | decide | (simp; done) | (simp; omega) | fail))); (case h4 => (intro o l h; first | (cases h; done) | (have hlt0 := m0_lt (by assumption) h; first | omega | (simp only; omega) | exact ⟨by (first | rfl | (simp only [id]; done) | ((repeat rw [if_neg (by omega)]); done)), by first | omega | (simp only; omega)⟩)))))); (focus (first | omega | (simp only; omega) | (simp only [List.length_take]; omega) | (simp; omega))); ((repeat' (with_reducible apply And.intro)) <;> (first | omega | (simp only; omega) | assumption | rfl | ((try simp only); first | exact hap (by omega) | (simp; omega)) | skip)))
    · simp only [St.set, St.ev, doneQ, doneH, ressK, resK, wrapR, AV.ids, AV.idsL, retK, retsK, upd, Nat.reduceEqDiff, reduceIte, if_false, if_true, List.nodup_nil, List.nodup_cons, List.not_mem_nil, not_false_eq_true, true_and, and_true, exists_eq_left', Option.some.injEq, rLoad, cellOf, tab, Ty.isAgg, Ty.one, Bool.false_eq_true]
      have e : acc = xss.flatten := by rw [hacc, show k = xss.length by omega, List.take_length]
      subst e
      exact ⟨rfl, by simp only [Cont.len], hQ⟩

/-- Keys parted and sorted again and again: the keys, how often is asked, how many are moved. -/
def qsK : Nat → List Int → List Int
  | 0, xs => xs
  | f + 1, xs => if xs.length < 2 then xs else qsK f (lowL (xs.getD 0 0) (xs.drop 1)) ++ [xs.getD 0 0] ++ qsK f (highL (xs.getD 0 0) (xs.drop 1))
def qsA : Nat → List Int → Int
  | 0, _ => 0
  | f + 1, xs => if xs.length < 2 then 0 else qsA f (lowL (xs.getD 0 0) (xs.drop 1)) + qsA f (highL (xs.getD 0 0) (xs.drop 1)) + (xs.length : Int) - 1
def qsM : Nat → List Int → Int
  | 0, _ => 0
  | f + 1, xs => if xs.length < 2 then 0 else qsM f (lowL (xs.getD 0 0) (xs.drop 1)) + qsM f (highL (xs.getD 0 0) (xs.drop 1)) + ((lowL (xs.getD 0 0) (xs.drop 1)).length : Int)
theorem qs_few {f : Nat} {xs : List Int} (h : xs.length < 2) : qsK f xs = xs ∧ qsA f xs = 0 ∧ qsM f xs = 0 := by
  cases f with
  | zero => exact ⟨rfl, rfl, rfl⟩
  | succ f => exact ⟨by rw [qsK, if_pos h], by rw [qsA, if_pos h], by rw [qsM, if_pos h]⟩
theorem qs_many {xs : List Int} (h : 2 ≤ xs.length) : True ∧ 2 ≤ xs.length := ⟨trivial, h⟩
theorem qs_up {f : Nat} {xs : List Int} (h : 2 ≤ xs.length) : qsK (f + 1) xs = qsK f (lowL (xs.getD 0 0) (xs.drop 1)) ++ [xs.getD 0 0] ++ qsK f (highL (xs.getD 0 0) (xs.drop 1)) ∧ qsA (f + 1) xs = qsA f (lowL (xs.getD 0 0) (xs.drop 1)) + qsA f (highL (xs.getD 0 0) (xs.drop 1)) + (xs.length : Int) - 1 ∧ qsM (f + 1) xs = qsM f (lowL (xs.getD 0 0) (xs.drop 1)) + qsM f (highL (xs.getD 0 0) (xs.drop 1)) + ((lowL (xs.getD 0 0) (xs.drop 1)).length : Int) :=
  ⟨by rw [qsK, if_neg (by omega)], by rw [qsA, if_neg (by omega)], by rw [qsM, if_neg (by omega)]⟩
theorem qs_in : ∀ (f : Nat) (xs : List Int), (qsK f xs).length = xs.length ∧ 0 ≤ qsA f xs ∧ 0 ≤ qsM f xs ∧ qsA f xs ≤ 100 * f * xs.length ∧ qsM f xs ≤ 100 * f * xs.length
  | 0, xs => by simp [qsK, qsA, qsM]
  | f + 1, xs => by
    rcases Nat.lt_or_ge xs.length 2 with h | h
    · obtain ⟨h1, h2, h3⟩ := qs_few (f := f + 1) h
      rw [h1, h2, h3]
      have h0 : 0 ≤ 100 * ((f + 1 : Nat) : Int) * (xs.length : Int) := Int.mul_nonneg (by omega) (by omega)
      exact ⟨rfl, Int.le_refl 0, Int.le_refl 0, h0, h0⟩
    · obtain ⟨h1, h2, h3⟩ := qs_up (f := f) h
      obtain ⟨a1, a2, a3, a4, a5⟩ := qs_in f (lowL (xs.getD 0 0) (xs.drop 1))
      obtain ⟨b1, b2, b3, b4, b5⟩ := qs_in f (highL (xs.getD 0 0) (xs.drop 1))
      have hl := low_high (xs.getD 0 0) (xs.drop 1)
      rw [List.length_drop] at hl
      rw [h1, h2, h3]
      generalize lowL (xs.getD 0 0) (xs.drop 1) = L at *
      generalize highL (xs.getD 0 0) (xs.drop 1) = H at *
      have e1 : 100 * (f : Int) * (L.length : Int) + 100 * (f : Int) * (H.length : Int) = 100 * (f : Int) * ((xs.length : Int) - 1) := by
        rw [← Int.mul_add]; congr 1; omega
      have e2 : 100 * ((f + 1 : Nat) : Int) * (xs.length : Int) = 100 * (f : Int) * ((xs.length : Int) - 1) + 100 * (f : Int) + 100 * (xs.length : Int) := by
        rw [show ((f + 1 : Nat) : Int) = (f : Int) + 1 by omega, Int.mul_add, Int.mul_one, Int.add_mul, Int.mul_sub, Int.mul_one]; omega
      refine ⟨by simp only [List.length_append, List.length_cons, List.length_nil, a1, b1]; omega, by omega, by omega, ?_, ?_⟩
      · rw [e2, ← e1]; omega
      · rw [e2, ← e1]; omega


def qs3 (xs : List Int) : List Int × Int × Int := (qsK 7 xs, qsA 7 xs, qsM 7 xs)
theorem qs3_len (xs : List Int) : (qs3 xs).1.length = xs.length := (qs_in 7 xs).1


/-- Keys sorted by merging halves: the keys, how often is asked, how many are put. -/
def msK : Nat → List Int → List Int
  | 0, xs => xs
  | f + 1, xs => if xs.length < 2 then xs else (mrg (msK f (xs.take (xs.length / 2))) (msK f (xs.drop (xs.length / 2)))).1
def msA : Nat → List Int → Int
  | 0, _ => 0
  | f + 1, xs => if xs.length < 2 then 0 else msA f (xs.take (xs.length / 2)) + msA f (xs.drop (xs.length / 2)) + (mrg (msK f (xs.take (xs.length / 2))) (msK f (xs.drop (xs.length / 2)))).2
def msM : Nat → List Int → Int
  | 0, _ => 0
  | f + 1, xs => if xs.length < 2 then 0 else msM f (xs.take (xs.length / 2)) + msM f (xs.drop (xs.length / 2)) + (xs.length : Int)
theorem ms_few {f : Nat} {xs : List Int} (h : xs.length < 2) : msK f xs = xs ∧ msA f xs = 0 ∧ msM f xs = 0 := by
  cases f with
  | zero => exact ⟨rfl, rfl, rfl⟩
  | succ f => exact ⟨by rw [msK, if_pos h], by rw [msA, if_pos h], by rw [msM, if_pos h]⟩
theorem ms_many {xs : List Int} (h : 2 ≤ xs.length) : True ∧ 2 ≤ xs.length := ⟨trivial, h⟩
theorem ms_up {f : Nat} {xs : List Int} (h : 2 ≤ xs.length) : msK (f + 1) xs = (mrg (msK f (xs.take (xs.length / 2))) (msK f (xs.drop (xs.length / 2)))).1 ∧ msA (f + 1) xs = msA f (xs.take (xs.length / 2)) + msA f (xs.drop (xs.length / 2)) + (mrg (msK f (xs.take (xs.length / 2))) (msK f (xs.drop (xs.length / 2)))).2 ∧ msM (f + 1) xs = msM f (xs.take (xs.length / 2)) + msM f (xs.drop (xs.length / 2)) + (xs.length : Int) :=
  ⟨by rw [msK, if_neg (by omega)], by rw [msA, if_neg (by omega)], by rw [msM, if_neg (by omega)]⟩
theorem ms_in : ∀ (f : Nat) (xs : List Int), (msK f xs).length = xs.length ∧ 0 ≤ msA f xs ∧ 0 ≤ msM f xs ∧ msA f xs ≤ msM f xs ∧ msM f xs ≤ 100 * f * xs.length
  | 0, xs => by simp [msK, msA, msM]
  | f + 1, xs => by
    rcases Nat.lt_or_ge xs.length 2 with h | h
    · obtain ⟨h1, h2, h3⟩ := ms_few (f := f + 1) h
      rw [h1, h2, h3]
      have h0 : 0 ≤ 100 * ((f + 1 : Nat) : Int) * (xs.length : Int) := Int.mul_nonneg (by omega) (by omega)
      exact ⟨rfl, Int.le_refl 0, Int.le_refl 0, Int.le_refl 0, h0⟩
    · obtain ⟨h1, h2, h3⟩ := ms_up (f := f) h
      obtain ⟨a1, a2, a3, a4, a5⟩ := ms_in f (xs.take (xs.length / 2))
      obtain ⟨b1, b2, b3, b4, b5⟩ := ms_in f (xs.drop (xs.length / 2))
      have hl : (xs.take (xs.length / 2)).length + (xs.drop (xs.length / 2)).length = xs.length := by rw [List.length_take, List.length_drop]; omega
      have hm := mrg_asks (msK f (xs.take (xs.length / 2))) (msK f (xs.drop (xs.length / 2)))
      have hml := mrg_len (msK f (xs.take (xs.length / 2))) (msK f (xs.drop (xs.length / 2)))
      rw [h1, h2, h3]
      generalize xs.take (xs.length / 2) = L at *
      generalize xs.drop (xs.length / 2) = H at *
      have e1 : 100 * (f : Int) * (L.length : Int) + 100 * (f : Int) * (H.length : Int) = 100 * (f : Int) * (xs.length : Int) := by
        rw [← Int.mul_add]; congr 1; omega
      have e2 : 100 * ((f + 1 : Nat) : Int) * (xs.length : Int) = 100 * (f : Int) * (xs.length : Int) + 100 * (xs.length : Int) := by
        rw [show ((f + 1 : Nat) : Int) = (f : Int) + 1 by omega, Int.mul_add, Int.mul_one, Int.add_mul]
      refine ⟨by omega, by omega, by omega, by omega, ?_⟩
      rw [e2, ← e1]; omega

def ms3 (xs : List Int) : List Int × Int × Int := (msK 7 xs, msA 7 xs, msM 7 xs)
theorem ms3_len (xs : List Int) : (ms3 xs).1.length = xs.length := (ms_in 7 xs).1



theorem pw_srt {xs : List Int} (h : xs.Pairwise (· ≤ ·)) : srt xs = true := srt_iff.2 fun j hj => by
  have := List.pairwise_iff_getElem.1 h j (j + 1) (by omega) hj (by omega)
  rw [List.getD_eq_getElem?_getD, List.getD_eq_getElem?_getD, List.getElem?_eq_getElem (by omega), List.getElem?_eq_getElem hj]; exact this
theorem ms_perm : ∀ (f : Nat) (xs : List Int), (msK f xs).Perm xs
  | 0, xs => List.Perm.refl _
  | f + 1, xs => by
    rcases Nat.lt_or_ge xs.length 2 with h | h
    · rw [(ms_few h).1]
    · rw [(ms_up (f := f) h).1]
      exact (mrg_perm _ _).trans (((ms_perm f _).append (ms_perm f _)).trans (by rw [List.take_append_drop]))
theorem few_pw {xs : List Int} (h : xs.length < 2) : xs.Pairwise (· ≤ ·) := by
  match xs, h with
  | [], _ => exact List.Pairwise.nil
  | [x], _ => exact List.pairwise_singleton _ _
theorem ms_srt : ∀ (f : Nat) (xs : List Int), xs.length ≤ f + 1 → (msK f xs).Pairwise (· ≤ ·)
  | 0, xs, h => few_pw (by rw [(ms_few (f := 0) (xs := xs) (by omega)).1]; omega)
  | f + 1, xs, h => by
    rcases Nat.lt_or_ge xs.length 2 with h2 | h2
    · rw [(ms_few h2).1]; exact few_pw h2
    · rw [(ms_up (f := f) h2).1]
      exact mrg_srt _ _ (ms_srt f _ (by rw [List.length_take]; omega)) (ms_srt f _ (by rw [List.length_drop]; omega))
theorem ms_most : ∀ (f : Nat) (xs : List Int), msA f xs ≤ ((mgm xs.length : Nat) : Int)
  | 0, xs => by rw [msA]; omega
  | f + 1, xs => by
    rcases Nat.lt_or_ge xs.length 2 with h | h
    · rw [(ms_few h).2.1]; omega
    · rw [(ms_up (f := f) h).2.1, mgm_up h]
      have a := ms_most f (xs.take (xs.length / 2))
      have b := ms_most f (xs.drop (xs.length / 2))
      have e1 : (xs.take (xs.length / 2)).length = xs.length / 2 := by rw [List.length_take]; omega
      have e2 : (xs.drop (xs.length / 2)).length = xs.length - xs.length / 2 := List.length_drop
      have hm := mrg_asks (msK f (xs.take (xs.length / 2))) (msK f (xs.drop (xs.length / 2)))
      rw [(ms_in f _).1, (ms_in f _).1, e1, e2] at hm
      rw [e1] at a
      rw [e2] at b
      omega
theorem ms_len_only : ∀ (f : Nat) (xs ys : List Int), xs.length = ys.length → msM f xs = msM f ys
  | 0, _, _, _ => rfl
  | f + 1, xs, ys, h => by
    rcases Nat.lt_or_ge xs.length 2 with h2 | h2
    · rw [(ms_few h2).2.2, (ms_few (by omega)).2.2]
    · rw [(ms_up (f := f) h2).2.2, (ms_up (f := f) (by omega)).2.2, ms_len_only f (xs.take (xs.length / 2)) (ys.take (ys.length / 2)) (by rw [List.length_take, List.length_take]; omega), ms_len_only f (xs.drop (xs.length / 2)) (ys.drop (ys.length / 2)) (by rw [List.length_drop, List.length_drop]; omega), h]
theorem ms_fin {xs : List Int} (h : xs.length ≤ 8) : (ms3 xs).1 = ordL xs ∧ (ms3 xs).2.1 ≤ ((mgm xs.length : Nat) : Int) ∧ (ms3 (ordL xs)).2.2 = (ms3 xs).2.2 ∧ (ms3 xs).2.1 ≤ (ms3 xs).2.2 :=
  ⟨srt_uniq (pw_srt (ms_srt 7 xs (by omega))) (ms_perm 7 xs), ms_most 7 xs, ms_len_only 7 _ _ (ordL_len xs), (ms_in 7 xs).2.2.2.1⟩


theorem low_mem {x y : Int} {l : List Int} : y ∈ lowL x l ↔ y ∈ l ∧ y < x := by unfold lowL; simp
theorem high_mem {x y : Int} {l : List Int} : y ∈ highL x l ↔ y ∈ l ∧ x ≤ y := by unfold highL; simp
theorem lh_perm (x : Int) : ∀ l : List Int, (lowL x l ++ highL x l).Perm l
  | [] => List.Perm.refl _
  | y :: l => by
    have ih := lh_perm x l
    unfold lowL highL at ih ⊢
    by_cases h : y < x
    · simpa [h] using ih
    · simp only [List.filter_cons, h, decide_false, Bool.false_eq_true, if_false, Bool.not_false, if_true]
      exact (List.perm_middle).trans (ih.cons y)
theorem qs_perm : ∀ (f : Nat) (xs : List Int), (qsK f xs).Perm xs
  | 0, xs => List.Perm.refl _
  | f + 1, xs => by
    rcases Nat.lt_or_ge xs.length 2 with h | h
    · rw [(qs_few h).1]
    · rw [(qs_up (f := f) h).1]
      cases xs with
      | nil => simp at h
      | cons x l =>
        have e0 : (x :: l).getD 0 0 = x := rfl
        have e1 : (x :: l).drop 1 = l := rfl
        rw [e0, e1]
        have p1 := (qs_perm f (lowL x l)).append_right [x]
        have p2 := p1.append (qs_perm f (highL x l))
        refine p2.trans ?_
        rw [List.append_assoc]
        exact (List.perm_middle).trans ((lh_perm x l).cons x)
theorem qs_srt : ∀ (f : Nat) (xs : List Int), xs.length ≤ f + 1 → (qsK f xs).Pairwise (· ≤ ·)
  | 0, xs, h => few_pw (by rw [(qs_few (f := 0) (xs := xs) (by omega)).1]; omega)
  | f + 1, xs, h => by
    rcases Nat.lt_or_ge xs.length 2 with h2 | h2
    · rw [(qs_few h2).1]; exact few_pw h2
    · rw [(qs_up (f := f) h2).1]
      have hl := low_high (xs.getD 0 0) (xs.drop 1)
      rw [List.length_drop] at hl
      have s1 := qs_srt f (lowL (xs.getD 0 0) (xs.drop 1)) (by omega)
      have s2 := qs_srt f (highL (xs.getD 0 0) (xs.drop 1)) (by omega)
      have m1 : ∀ y ∈ qsK f (lowL (xs.getD 0 0) (xs.drop 1)), y < xs.getD 0 0 := fun y hy => (low_mem.1 ((qs_perm f _).mem_iff.1 hy)).2
      have m2 : ∀ y ∈ qsK f (highL (xs.getD 0 0) (xs.drop 1)), xs.getD 0 0 ≤ y := fun y hy => (high_mem.1 ((qs_perm f _).mem_iff.1 hy)).2
      refine List.pairwise_append.2 ⟨List.pairwise_append.2 ⟨s1, List.pairwise_singleton _ _, fun a ha b hb => ?_⟩, s2, fun a ha b hb => ?_⟩
      · simp only [List.mem_singleton] at hb; subst hb; have := m1 a ha; omega
      · simp only [List.mem_append, List.mem_singleton] at ha
        have := m2 b hb
        rcases ha with ha | ha
        · have := m1 a ha; omega
        · subst ha; exact this
theorem qs_ord {xs : List Int} (h : xs.length ≤ 8) : (qs3 xs).1 = ordL xs := srt_uniq (pw_srt (qs_srt 7 xs (by omega))) (qs_perm 7 xs)
theorem getD_app {a b : List Int} {k : Nat} : (a ++ b).getD k 0 = if k < a.length then a.getD k 0 else b.getD (k - a.length) 0 := by
  rw [List.getD_eq_getElem?_getD]
  split
  · rename_i h; rw [List.getElem?_append_left h, List.getD_eq_getElem?_getD]
  · rename_i h; rw [List.getElem?_append_right (by omega), List.getD_eq_getElem?_getD]
theorem qpk_qs : ∀ (f : Nat) (xs : List Int) (k : Nat), 1 ≤ xs.length → xs.length ≤ f + 1 → k < xs.length → (qpk f xs k).1 = (qsK f xs).getD k 0 ∧ (qpk f xs k).2 ≤ qsA f xs ∧ (xs.length : Int) - 1 ≤ (qpk f xs k).2
  | 0, xs, k, h1, h2, h3 => by
    rw [show k = 0 by omega]
    exact ⟨rfl, Int.le_refl 0, by simp only [qpk]; omega⟩
  | f + 1, xs, k, h1, h2, h3 => by
    rcases Nat.lt_or_ge xs.length 2 with h | h
    · have hl : (lowL (xs.getD 0 0) (xs.drop 1)).length = 0 := by
        have := low_high (xs.getD 0 0) (xs.drop 1); rw [List.length_drop] at this; omega
      rw [qpk_at h1 (by omega) (by omega), (qs_few h).1, (qs_few h).2.1, show k = 0 by omega]
      exact ⟨rfl, by simp only; omega, Int.le_refl _⟩
    · obtain ⟨u1, u2, u3⟩ := qs_up (f := f) h
      have hl := low_high (xs.getD 0 0) (xs.drop 1)
      rw [List.length_drop] at hl
      obtain ⟨a1, a2, a3, _, _⟩ := qs_in f (lowL (xs.getD 0 0) (xs.drop 1))
      obtain ⟨b1, b2, b3, _, _⟩ := qs_in f (highL (xs.getD 0 0) (xs.drop 1))
      rw [u1, u2, List.append_assoc, getD_app, a1]
      rcases Nat.lt_trichotomy k (lowL (xs.getD 0 0) (xs.drop 1)).length with hk | hk | hk
      · obtain ⟨r1, r2, r3⟩ := qpk_qs f (lowL (xs.getD 0 0) (xs.drop 1)) k (by omega) (by omega) hk
        rw [if_pos hk, qpk_low hk]
        exact ⟨r1, by simp only; omega, by simp only; omega⟩
      · rw [if_neg (by omega), qpk_at h1 (by omega) hk, ← hk, Nat.sub_self]
        exact ⟨rfl, by simp only; omega, Int.le_refl _⟩
      · obtain ⟨r1, r2, r3⟩ := qpk_qs f (highL (xs.getD 0 0) (xs.drop 1)) (k - (lowL (xs.getD 0 0) (xs.drop 1)).length - 1) (by omega) (by omega) (by omega)
        have e : ([xs.getD 0 0] ++ qsK f (highL (xs.getD 0 0) (xs.drop 1))).getD (k - (lowL (xs.getD 0 0) (xs.drop 1)).length) 0 = (qsK f (highL (xs.getD 0 0) (xs.drop 1))).getD (k - (lowL (xs.getD 0 0) (xs.drop 1)).length - 1) 0 := by
          rw [getD_app, List.length_singleton, if_neg (by omega)]
        rw [if_neg (by omega), qpk_high hk, e]
        exact ⟨r1, by simp only; omega, by simp only; omega⟩
theorem pick_fin {xs : List Int} {k : Nat} (h8 : xs.length ≤ 8) (hk : k < xs.length) : (qpk 7 xs k).1 = (ordL xs).getD k 0 ∧ (qpk 7 xs k).2 ≤ (qs3 xs).2.1 ∧ (xs.length : Int) - 1 ≤ (qpk 7 xs k).2 := by
  have h := qpk_qs 7 xs k (by omega) (by omega) hk
  rw [show qsK 7 xs = ordL xs from qs_ord h8] at h
  exact h


end Go.Proofs.Ytcmilejbmejdjaa
