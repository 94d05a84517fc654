/- Contracts of functions of the program. -/
import Derived.Test.YtgdnichfaeojpaaPG2d
import Derived.ScopeJumps
namespace Go.Proofs.Ytgdnichfaeojpaa
open Go Go.Ab
set_option linter.all false
set_option maxHeartbeats 4000000

theorem misN_in (P : List Int) : ∀ n, 0 ≤ misN P n ∧ misN P n ≤ n
  | 0 => by simp [misN]
  | n + 1 => by have := misN_in P n; rw [misN]; split <;> omega
theorem misN_zero {P : List Int} : ∀ n, misN P n = 0 ↔ ∀ i, i < n → P.getD i 0 = i
  | 0 => ⟨fun _ i h => by omega, fun _ => rfl⟩
  | n + 1 => by
    have ih := misN_zero (P := P) n
    have h0 := misN_in P n
    rw [misN]
    constructor
    · intro h i hi
      split at h
      · rename_i hc
        rcases Nat.lt_or_ge i n with h1 | h1
        · exact ih.1 (by omega) i h1
        · rw [show i = n by omega]; exact hc
      · omega
    · intro h
      rw [if_pos (h n (by omega)), ih.2 fun i hi => h i (by omega)]; rfl
theorem misN_one {P : List Int} : ∀ n, misN P n = 1 → ∃ p, p < n ∧ P.getD p 0 ≠ p ∧ ∀ i, i < n → i ≠ p → P.getD i 0 = i
  | 0, h => by simp [misN] at h
  | n + 1, h => by
    rw [misN] at h
    split at h
    · rename_i hc
      obtain ⟨p, h1, h2, h3⟩ := misN_one (P := P) n (by omega)
      refine ⟨p, by omega, h2, fun i hi hip => ?_⟩
      rcases Nat.lt_or_ge i n with h4 | h4
      · exact h3 i h4 hip
      · rw [show i = n by omega]; exact hc
    · rename_i hc
      have h1 := (misN_zero (P := P) n).1 (by omega)
      exact ⟨n, by omega, hc, fun i hi hip => h1 i (by omega)⟩
theorem mis_ne (xs : List Int) : (misN (placesL xs) xs.length != 1) = true := by
  have : misN (placesL xs) xs.length ≠ 1 := fun h => by
    obtain ⟨p, h1, h2, h3⟩ := misN_one _ h
    have e := placesL_cast h1
    have hl := plN_lt h1
    have hne : plN xs p ≠ p := fun h => h2 (by rw [e, h])
    have h4 := h3 (plN xs p) hl hne
    rw [placesL_cast hl] at h4
    have := plN_inj hl h1 (by omega)
    exact hne this
  simpa using this
theorem mis_srt (xs : List Int) : (misN (placesL xs) xs.length == 0) = srt xs := by
  have h1 := misN_zero (P := placesL xs) xs.length
  cases e : srt xs with
  | true =>
    have : misN (placesL xs) xs.length = 0 := h1.2 fun i hi => by
      rw [placesL_get hi, srt_pl e hi _ (Nat.le_refl _)]; omega
    rw [this]; rfl
  | false =>
    have : misN (placesL xs) xs.length ≠ 0 := fun h => by
      have h2 := h1.1 h
      have : ordL xs = xs := ext_getD (ordL_len xs) fun j hj => by
        rw [ordL_len] at hj
        have h3 := h2 j hj
        rw [placesL_cast hj] at h3
        have h4 := ord_at hj
        rwa [show plN xs j = j by omega] at h4
      have h5 := ord_dec xs
      rw [decide_eq_true this, e] at h5; cases h5
    simpa using this
theorem mis_le (xs : List Int) : decide (misN (placesL xs) xs.length ≤ (xs.length : Int)) = true := decide_eq_true (misN_in _ _).2


/-- How often the keys fall among the first k neighbours. -/
def fallN (xs : List Int) : Nat → Int
  | 0 => 0
  | k + 1 => fallN xs k + (if xs.getD (k + 1) 0 < xs.getD k 0 then 1 else 0)
theorem fallN_in (xs : List Int) : ∀ k, 0 ≤ fallN xs k ∧ fallN xs k ≤ k
  | 0 => by simp [fallN]
  | k + 1 => by have := fallN_in xs k; rw [fallN]; split <;> omega
theorem fallN_up {xs : List Int} {k : Nat} (h : xs.getD (k + 1) 0 < xs.getD k 0) : fallN xs (k + 1) = fallN xs k + 1 := by rw [fallN, if_pos h]
theorem fallN_no {xs : List Int} {k : Nat} (h : xs.getD k 0 ≤ xs.getD (k + 1) 0) : fallN xs (k + 1) = fallN xs k := by rw [fallN, if_neg (by omega)]; omega
theorem runs_falls (xs : List Int) : ∀ k, ((runsTo xs (k + 1)).length : Int) = fallN xs k + 1
  | 0 => by simp [runsTo, fallN]
  | k + 1 => by
    have ih := runs_falls xs k
    rw [runsTo, fallN]
    by_cases h : xs.getD k 0 ≤ xs.getD (k + 1) 0
    · rw [if_pos ⟨by omega, by simpa using h⟩, if_neg (by omega), incL_len]; omega
    · rw [if_neg (fun h1 => h (by simpa using h1.2)), if_pos (by omega)]; simp; omega
theorem incL_sum {l : List Int} (h : 0 < l.length) : (incL l).sum = l.sum + 1 := by
  obtain ⟨l', a, rfl⟩ : ∃ l' a, l = l' ++ [a] := ⟨l.dropLast, l.getLast (List.ne_nil_of_length_pos h), (List.dropLast_concat_getLast _).symm⟩
  rw [incL_app, List.sum_append, List.sum_append]; simp only [List.sum_cons, List.sum_nil]; omega
theorem runs_sum (xs : List Int) : ∀ k, (runsTo xs k).sum = k
  | 0 => rfl
  | k + 1 => by
    have ih := runs_sum xs k
    have hl := (runsTo_len xs k).2
    rw [runsTo]
    split
    · rename_i h; rw [incL_sum (hl h.1), ih]; omega
    · simp [ih]
theorem take_sum_in {l : List Int} (h : ∀ j, 0 ≤ l.getD j 0) (i : Nat) : 0 ≤ (l.take i).sum ∧ (l.take i).sum ≤ l.sum := by
  have hn : ∀ (m : List Int), (∀ x ∈ m, 0 ≤ x) → 0 ≤ m.sum := fun m => by
    induction m with
    | nil => intro _; simp
    | cons a t ih => intro h; have h1 := h a List.mem_cons_self; have h2 := ih fun x hx => h x (List.mem_cons_of_mem _ hx); simp; omega
  have hm : ∀ x ∈ l, 0 ≤ x := fun x hx => by
    obtain ⟨j, h1, h2⟩ := List.mem_iff_getElem.1 hx
    have := h j
    rw [List.getD_eq_getElem?_getD, List.getElem?_eq_getElem h1] at this
    simpa [h2] using this
  have h1 := hn (l.take i) fun x hx => hm x (List.mem_of_mem_take hx)
  have h2 := hn (l.drop i) fun x hx => hm x (List.mem_of_mem_drop hx)
  have h3 : (l.take i).sum + (l.drop i).sum = l.sum := by rw [← List.sum_append, List.take_append_drop]
  omega
theorem take_sum_up {l : List Int} {i : Nat} (h : i < l.length) : (l.take (i + 1)).sum = (l.take i).sum + l.getD i 0 := by
  rw [List.take_succ_eq_append_getElem h, List.sum_append, List.getD_eq_getElem?_getD, List.getElem?_eq_getElem h]; simp


/-- How many of the d numbers from a on are told by P. -/
def cnt (P : Nat → Bool) : Nat → Nat → Int
  | _, 0 => 0
  | a, d + 1 => (if P a = true then 1 else 0) + cnt P (a + 1) d
theorem cnt_in (P : Nat → Bool) : ∀ d a, 0 ≤ cnt P a d ∧ cnt P a d ≤ d
  | 0, a => by simp [cnt]
  | d + 1, a => by have := cnt_in P d (a + 1); rw [cnt]; split <;> omega
theorem cnt_up (P : Nat → Bool) : ∀ d a, cnt P a (d + 1) = cnt P a d + (if P (a + d) = true then 1 else 0)
  | 0, a => by simp [cnt]
  | d + 1, a => by rw [cnt, cnt_up P d (a + 1), show cnt P a (d + 1) = (if P a = true then 1 else 0) + cnt P (a + 1) d from rfl, show a + 1 + d = a + (d + 1) by omega]; omega


theorem best_ex {r : Int → Int → Bool} {xs : List Int} {g : Nat → Int} {i : Nat} (hg : ∀ k, 0 ≤ g k) : ∀ n, best r xs g i n = 0 ∨ ∃ k, i < k ∧ k < n ∧ r (xs.getD i 0) (xs.getD k 0) = true ∧ best r xs g i n = g k
  | 0 => .inl rfl
  | n + 1 => by
    rw [best]
    have ih := best_ex (r := r) (xs := xs) (i := i) hg n
    split
    · rename_i hc
      rcases Int.le_total (best r xs g i n) (g n) with h | h
      · exact .inr ⟨n, hc.1, by omega, hc.2, by omega⟩
      · rcases ih with h0 | ⟨k, h1, h2, h3, h4⟩
        · have := hg n; exact .inl (by omega)
        · exact .inr ⟨k, h1, by omega, h3, by omega⟩
    · rcases ih with h0 | ⟨k, h1, h2, h3, h4⟩
      · exact .inl h0
      · exact .inr ⟨k, h1, by omega, h3, h4⟩
theorem best_ge {r : Int → Int → Bool} {xs : List Int} {g : Nat → Int} {i k : Nat} (hik : i < k) (hr : r (xs.getD i 0) (xs.getD k 0) = true) : ∀ n, k < n → g k ≤ best r xs g i n
  | 0, h => by omega
  | n + 1, h => by
    rw [best]
    by_cases e : k = n
    · subst e; rw [if_pos ⟨hik, hr⟩]; omega
    · have := best_ge (g := g) hik hr n (by omega)
      split <;> omega
theorem mostN_ge {g : Nat → Int} {k : Nat} : ∀ n, k < n → g k ≤ mostN g n
  | 0, h => by omega
  | n + 1, h => by
    rw [mostN]
    by_cases e : k = n
    · subst e; omega
    · have := mostN_ge (g := g) n (show k < n by omega); omega
theorem mostN_ex {g : Nat → Int} (hg : ∀ k, 0 ≤ g k) : ∀ n, mostN g n = 0 ∨ ∃ k, k < n ∧ mostN g n = g k
  | 0 => .inl rfl
  | n + 1 => by
    rw [mostN]
    rcases Int.le_total (mostN g n) (g n) with h | h
    · exact .inr ⟨n, by omega, by omega⟩
    · rcases mostN_ex hg n with h0 | ⟨k, h1, h2⟩
      · have := hg n; exact .inl (by omega)
      · exact .inr ⟨k, by omega, by omega⟩
/-- Keys that follow each other two by two are no more than the longest row. -/
theorem chain_best {r : Int → Int → Bool} {xs : List Int} {P : Nat → Bool} (hP : ∀ i k, i < k → k < xs.length → P i = true → P k = true → r (xs.getD i 0) (xs.getD k 0) = true) : ∀ (d a f i : Nat), i < a → a + d = xs.length → d ≤ f + 1 → (∀ k, a ≤ k → k < xs.length → P k = true → r (xs.getD i 0) (xs.getD k 0) = true) → cnt P a d ≤ best r xs (chn r xs f) i xs.length
  | 0, a, f, i, h1, h2, h3, h4 => by have := best_in (r := r) (xs := xs) (i := i) (g := chn r xs f) (B := f + 1) (by omega) (fun k => chn_in f k) xs.length; simp only [cnt]; omega
  | d + 1, a, f, i, h1, h2, h3, h4 => by
    rw [cnt]
    split
    · rename_i hc
      have hb := best_ge (g := chn r xs f) h1 (h4 a (Nat.le_refl _) (by omega) hc) xs.length (by omega)
      have hch : 1 + cnt P (a + 1) d ≤ chn r xs f a := by
        cases f with
        | zero =>
          have : d = 0 := by omega
          subst this; simp [cnt, chn]
        | succ f =>
          have := chain_best hP d (a + 1) f a (by omega) (by omega) (by omega) (fun k h5 h6 h7 => hP a k (by omega) h6 hc h7)
          simp only [chn]; omega
      omega
    · have := chain_best hP d (a + 1) f i (by omega) (by omega) (by omega) (fun k h5 h6 h7 => h4 k (by omega) h6 h7)
      omega
theorem chain_most {r : Int → Int → Bool} {xs : List Int} {P : Nat → Bool} (hP : ∀ i k, i < k → k < xs.length → P i = true → P k = true → r (xs.getD i 0) (xs.getD k 0) = true) (h8 : xs.length ≤ 8) : ∀ d a, a + d = xs.length → cnt P a d ≤ mostN (chn r xs 8) xs.length
  | 0, a, h => by simp only [cnt]; exact mostN_nonneg _
  | d + 1, a, h => by
    rw [cnt]
    split
    · rename_i hc
      have h1 := chain_best hP d (a + 1) 7 a (by omega) (by omega) (by omega) (fun k h5 h6 h7 => hP a k (by omega) h6 hc h7)
      have h2 := mostN_ge (g := chn r xs 8) (k := a) xs.length (by omega)
      have h3 : chn r xs 8 a = best r xs (chn r xs 7) a xs.length + 1 := rfl
      omega
    · have := chain_most hP h8 d (a + 1) (by omega)
      omega


/-- The first index of the longest row that is laid, with what is left of it. -/
theorem rise_most {xs : List Int} (h8 : xs.length ≤ 8) : ∀ i, i ≤ xs.length → ((riseTo xs i).length : Int) + mostC xs (riseTo xs i) i xs.length = mostN (chn leB xs 8) xs.length
  | 0, _ => by rw [riseTo, mostC_none]; simp
  | i + 1, h => by
    have ih := rise_most h8 i (by omega)
    rw [riseTo]
    split
    · rename_i hc
      have := rise_take h8 hc.2
      simp only [List.length_append, List.length_cons, List.length_nil]
      omega
    · rename_i hc
      have := rise_pass (xs := xs) (out := riseTo xs i) (i := i) (by omega) (by
        rcases Bool.eq_false_or_eq_true (cmpR xs (riseTo xs i) i) with h1 | h1
        · exact .inr fun h2 => hc ⟨h1, h2⟩
        · exact .inl h1)
      omega
theorem rise_len {xs : List Int} (h8 : xs.length ≤ 8) : ((riseTo xs xs.length).length : Int) = mostN (chn leB xs 8) xs.length := by
  have := rise_most h8 xs.length (Nat.le_refl _)
  rw [mostC_low _ (Nat.le_refl _)] at this
  omega
/-- An index is one of the longest row. -/
def inR (xs : List Int) (i : Nat) : Bool := decide ((riseTo xs i).length < (riseTo xs (i + 1)).length)
theorem rise_stepLen (xs : List Int) (i : Nat) : (riseTo xs (i + 1)).length = (riseTo xs i).length + (if inR xs i = true then 1 else 0) := by
  unfold inR
  rw [riseTo]
  split <;> simp
theorem rise_cnt (xs : List Int) : ∀ n, cnt (inR xs) 0 n = (riseTo xs n).length
  | 0 => by simp [cnt, riseTo]
  | n + 1 => by rw [cnt_up, rise_cnt xs n, rise_stepLen, Nat.zero_add]; split <;> simp
theorem inR_iff {xs : List Int} {i : Nat} (h : inR xs i = true) : riseTo xs (i + 1) = riseTo xs i ++ [(i : Int)] ∧ cmpR xs (riseTo xs i) i = true := by
  unfold inR at h
  rw [riseTo] at h ⊢
  split
  · rename_i hc; exact ⟨rfl, hc.1⟩
  · rename_i hc; rw [if_neg hc] at h; simp at h
theorem inR_not {xs : List Int} {i : Nat} (h : ¬ inR xs i = true) : riseTo xs (i + 1) = riseTo xs i := by
  unfold inR at h
  rw [riseTo] at h ⊢
  split
  · rename_i hc; rw [if_pos hc] at h; simp at h
  · rfl
theorem last_app {l : List Int} {a : Int} : (l ++ [a]).getD ((l ++ [a]).length - 1) 0 = a := getD_app_at (by simp)
theorem inR_last (xs : List Int) : ∀ i j, j < i → inR xs j = true → 0 < (riseTo xs i).length ∧ xs.getD j 0 ≤ xs.getD ((riseTo xs i).getD ((riseTo xs i).length - 1) 0).toNat 0
  | 0, j, h, _ => by omega
  | i + 1, j, h, hj => by
    by_cases hi : inR xs i = true
    · obtain ⟨h1, h2⟩ := inR_iff hi
      rw [h1]
      refine ⟨by simp, ?_⟩
      rw [last_app]
      by_cases e : j = i
      · subst e; rw [show (j : Int).toNat = j by omega]; exact Int.le_refl _
      · obtain ⟨h3, h4⟩ := inR_last xs i j (by omega) hj
        unfold cmpR at h2
        rw [decide_eq_false (by omega), Bool.false_or, decide_eq_true_eq] at h2
        rw [show (i : Int).toNat = i by omega]
        omega
    · rw [inR_not hi]
      have : j ≠ i := fun e => hi (e ▸ hj)
      exact inR_last xs i j (by omega) hj
theorem inR_two {xs : List Int} {i k : Nat} (h : i < k) (hi : inR xs i = true) (hk : inR xs k = true) : xs.getD i 0 ≤ xs.getD k 0 := by
  obtain ⟨h1, h2⟩ := inR_last xs k i h hi
  have h3 := (inR_iff hk).2
  unfold cmpR at h3
  rw [decide_eq_false (by omega), Bool.false_or, decide_eq_true_eq] at h3
  omega
theorem rise_at (xs : List Int) : ∀ i j, j < (riseTo xs i).length → ∃ k, k < i ∧ inR xs k = true ∧ (riseTo xs i).getD j 0 = k ∧ j = (riseTo xs k).length
  | 0, j, h => by simp [riseTo] at h
  | i + 1, j, h => by
    by_cases hi : inR xs i = true
    · obtain ⟨h1, _⟩ := inR_iff hi
      rw [h1] at h ⊢
      simp only [List.length_append, List.length_cons, List.length_nil] at h
      rcases Nat.lt_or_ge j (riseTo xs i).length with h2 | h2
      · obtain ⟨k, q1, q2, q3, q4⟩ := rise_at xs i j h2
        exact ⟨k, by omega, q2, by rw [getD_app_lo h2]; exact q3, q4⟩
      · exact ⟨i, by omega, hi, getD_app_at (by omega), by omega⟩
    · rw [inR_not hi] at h ⊢
      obtain ⟨k, q1, q2, q3, q4⟩ := rise_at xs i j h
      exact ⟨k, by omega, q2, q3, q4⟩
theorem rise_mono (xs : List Int) {a : Nat} : ∀ d, (riseTo xs a).length ≤ (riseTo xs (a + d)).length
  | 0 => Nat.le_refl _
  | d + 1 => by have := rise_mono xs (a := a) d; have := rise_stepLen xs (a + d); rw [← Nat.add_assoc]; omega
/-- The indices of the longest row ascend, and their keys do not fall. -/
theorem rise_two {xs : List Int} {n a b : Nat} (hab : a < b) (hb : b < (riseTo xs n).length) : (riseTo xs n).getD a 0 < (riseTo xs n).getD b 0 ∧ xs.getD ((riseTo xs n).getD a 0).toNat 0 ≤ xs.getD ((riseTo xs n).getD b 0).toNat 0 := by
  obtain ⟨k, h1, h2, h3, h4⟩ := rise_at xs n a (by omega)
  obtain ⟨m, q1, q2, q3, q4⟩ := rise_at xs n b hb
  have hkm : k < m := by
    rcases Nat.lt_or_ge k m with h | h
    · exact h
    · have := rise_mono xs (a := m) (k - m)
      rw [show m + (k - m) = k by omega] at this
      omega
  rw [h3, q3]
  refine ⟨by omega, ?_⟩
  have := inR_two hkm h2 q2
  rw [show (k : Int).toNat = k by omega, show (m : Int).toNat = m by omega]
  exact this
theorem rise_full {xs : List Int} (h : (riseTo xs xs.length).length = xs.length) : srt xs = true := by
  have hall : ∀ n, (riseTo xs n).length = n → ∀ i, i < n → inR xs i = true := by
    intro n
    induction n with
    | zero => intro _ i hi; omega
    | succ n ih =>
      intro h i hi
      have h1 := rise_stepLen xs n
      have h2 := riseTo_len xs n
      split at h1
      · rename_i hc
        rcases Nat.lt_or_ge i n with h3 | h3
        · exact ih (by omega) i h3
        · rw [show i = n by omega]; exact hc
      · omega
  exact srt_iff.2 fun j hj => inR_two (by omega) (hall _ h j (by omega)) (hall _ h (j + 1) hj)


/-- A fall that keeps under a bound meets none of the keys that keep it. -/
theorem fall_off {xs : List Int} {P : Nat → Bool} : ∀ (f i : Nat) (b : Int), i < xs.length → xs.getD i 0 < b → (∀ k, i ≤ k → k < xs.length → P k = true → b ≤ xs.getD k 0) → chn gtB xs f i + cnt P i (xs.length - i) ≤ xs.length - i
  | f, i, b, hi, hb, hP => by
    have hPi : P i ≠ true := fun h => by have := hP i (Nat.le_refl _) hi h; omega
    have hc : cnt P i (xs.length - i) = cnt P (i + 1) (xs.length - (i + 1)) := by
      rw [show xs.length - i = (xs.length - (i + 1)) + 1 by omega, cnt, if_neg hPi]; omega
    have hin := cnt_in P (xs.length - (i + 1)) (i + 1)
    cases f with
    | zero => simp only [chn]; omega
    | succ f =>
      simp only [chn]
      rcases best_ex (r := gtB) (xs := xs) (g := chn gtB xs f) (i := i) (fun k => (chn_in f k).1) xs.length with h0 | ⟨k, h1, h2, h3, h4⟩
      · omega
      · unfold gtB at h3
        rw [decide_eq_true_eq] at h3
        have ih := fall_off (P := P) f k b h2 (by omega) (fun j q1 q2 q3 => hP j (by omega) q2 q3)
        have hsplit : ∀ d a, cnt P a (d + (xs.length - k)) ≤ d + cnt P (a + d) (xs.length - k) := fun d => by
          induction d with
          | zero => intro a; simp
          | succ d ihd =>
            intro a
            rw [show d + 1 + (xs.length - k) = (d + (xs.length - k)) + 1 by omega, cnt]
            have := ihd (a + 1)
            rw [show a + 1 + d = a + (d + 1) by omega] at this
            split <;> omega
        have := hsplit (k - (i + 1)) (i + 1)
        rw [show k - (i + 1) + (xs.length - k) = xs.length - (i + 1) by omega, show i + 1 + (k - (i + 1)) = k by omega] at this
        omega
theorem cnt_skip (P : Nat → Bool) (m : Nat) : ∀ d a, cnt P a (d + m) ≤ d + cnt P (a + d) m
  | 0, a => by simp
  | d + 1, a => by
    rw [show d + 1 + m = (d + m) + 1 by omega, cnt]
    have := cnt_skip P m d (a + 1)
    rw [show a + 1 + d = a + (d + 1) by omega] at this
    split <;> omega
/-- A fall meets keys that do not fall once at most. -/
theorem fall_once {xs : List Int} {P : Nat → Bool} (hP : ∀ i k, i < k → k < xs.length → P i = true → P k = true → xs.getD i 0 ≤ xs.getD k 0) : ∀ (f i : Nat), i < xs.length → chn gtB xs f i + cnt P i (xs.length - i) ≤ xs.length - i + 1
  | f, i, hi => by
    have hc : cnt P i (xs.length - i) = (if P i = true then 1 else 0) + cnt P (i + 1) (xs.length - (i + 1)) := by
      rw [show xs.length - i = (xs.length - (i + 1)) + 1 by omega, cnt]
    have hin := cnt_in P (xs.length - (i + 1)) (i + 1)
    have hin2 := cnt_in P (xs.length - i) i
    cases f with
    | zero => simp only [chn]; omega
    | succ f =>
      simp only [chn]
      rcases best_ex (r := gtB) (xs := xs) (g := chn gtB xs f) (i := i) (fun k => (chn_in f k).1) xs.length with h0 | ⟨k, h1, h2, h3, h4⟩
      · omega
      · unfold gtB at h3
        rw [decide_eq_true_eq] at h3
        have hsk := cnt_skip P (xs.length - k) (k - (i + 1)) (i + 1)
        rw [show k - (i + 1) + (xs.length - k) = xs.length - (i + 1) by omega, show i + 1 + (k - (i + 1)) = k by omega] at hsk
        by_cases hPi : P i = true
        · rw [if_pos hPi] at hc
          have := fall_off (P := P) f k (xs.getD i 0) h2 (by omega) (fun j q1 q2 q3 => hP i j (by omega) q2 hPi q3)
          omega
        · rw [if_neg hPi] at hc
          have := fall_once hP f k h2
          omega
theorem fall_rem {xs : List Int} : mostN (chn gtB xs 8) xs.length ≤ (xs.length : Int) - (riseTo xs xs.length).length + 1 := by
  have hl := riseTo_len xs xs.length
  rcases mostN_ex (g := chn gtB xs 8) (fun k => (chn_in 8 k).1) xs.length with h0 | ⟨k, h1, h2⟩
  · omega
  · have h3 := fall_once (xs := xs) (P := inR xs) (fun i k h _ h1 h2 => inR_two h h1 h2) 8 k h1
    have h4 := cnt_skip (inR xs) (xs.length - k) k 0
    rw [show k + (xs.length - k) = xs.length by omega, rise_cnt, Nat.zero_add] at h4
    omega
theorem fallN_flat {xs : List Int} {i : Nat} : ∀ d, fallN xs i ≤ fallN xs (i + d) ∧ (fallN xs (i + d) = fallN xs i → xs.getD i 0 ≤ xs.getD (i + d) 0)
  | 0 => ⟨Int.le_refl _, fun _ => Int.le_refl _⟩
  | d + 1 => by
    obtain ⟨h1, h2⟩ := fallN_flat (xs := xs) (i := i) d
    have e : i + (d + 1) = i + d + 1 := by omega
    rw [e, fallN]
    split
    · exact ⟨by omega, fun h => by omega⟩
    · exact ⟨by omega, fun h => by have := h2 (by omega); omega⟩
theorem fall_runs {xs : List Int} : ∀ (f i : Nat), i < xs.length → chn gtB xs f i + fallN xs i ≤ fallN xs (xs.length - 1) + 1
  | f, i, hi => by
    have h0 := (fallN_flat (xs := xs) (i := i) (xs.length - 1 - i)).1
    rw [show i + (xs.length - 1 - i) = xs.length - 1 by omega] at h0
    cases f with
    | zero => simp only [chn]; omega
    | succ f =>
      simp only [chn]
      rcases best_ex (r := gtB) (xs := xs) (g := chn gtB xs f) (i := i) (fun k => (chn_in f k).1) xs.length with h | ⟨k, h1, h2, h3, h4⟩
      · omega
      · unfold gtB at h3
        rw [decide_eq_true_eq] at h3
        have ih := fall_runs (xs := xs) f k h2
        obtain ⟨q1, q2⟩ := fallN_flat (xs := xs) (i := i) (k - i)
        rw [show i + (k - i) = k by omega] at q1 q2
        have : fallN xs k ≠ fallN xs i := fun h => by have := q2 h; omega
        omega
theorem falls_runs {xs : List Int} : mostN (chn gtB xs 8) xs.length ≤ (runsTo xs xs.length).length := by
  rcases mostN_ex (g := chn gtB xs 8) (fun k => (chn_in 8 k).1) xs.length with h0 | ⟨k, h1, h2⟩
  · omega
  · have h3 := fall_runs (xs := xs) 8 k h1
    have h4 := fallN_in xs k
    have h5 := runs_falls xs (xs.length - 1)
    rw [show xs.length - 1 + 1 = xs.length by omega] at h5
    omega
theorem fall_pos {xs : List Int} : decide (mostN (chn gtB xs 8) xs.length > 0) = decide ((xs.length : Int) > 0) := by
  rcases Nat.eq_zero_or_pos xs.length with h | h
  · rw [h]; rfl
  · have h1 := mostN_ge (g := chn gtB xs 8) (k := 0) xs.length h
    have h2 := (chn_in (r := gtB) (xs := xs) 7 0).1
    have h3 : chn gtB xs 8 0 = best gtB xs (chn gtB xs 7) 0 xs.length + 1 := rfl
    have h4 := (best_in (r := gtB) (xs := xs) (i := 0) (g := chn gtB xs 7) (B := 8) (by omega) (fun k => by have := chn_in (r := gtB) (xs := xs) 7 k; omega) xs.length).1
    rw [decide_eq_true (by omega), decide_eq_true (by omega)]

theorem brkN_in (P : List Int) : ∀ k, 0 ≤ brkN P k ∧ brkN P k ≤ k
  | 0 => by simp [brkN]
  | k + 1 => by have := brkN_in P k; rw [brkN]; split <;> omega
/-- The value of the last one kept of the first k, -1 if there is none. -/
def lastK (xs : List Int) (P : Nat → Bool) : Nat → Int
  | 0 => -1
  | k + 1 => if P k = true then plN xs k else lastK xs P k
theorem lastK_in {xs : List Int} {P : Nat → Bool} (hP : ∀ i k, i < k → k < xs.length → P i = true → P k = true → plN xs i < plN xs k) {m : Nat} (hm : m < xs.length) (hPm : P m = true) : ∀ k, k ≤ m → lastK xs P k < plN xs m
  | 0, _ => by simp only [lastK]; omega
  | k + 1, h => by
    rw [lastK]
    split
    · rename_i hc; have := hP k m (by omega) hm hc hPm; omega
    · exact lastK_in hP hm hPm k (by omega)
theorem lastK_lt {xs : List Int} {P : Nat → Bool} : ∀ k, k ≤ xs.length → lastK xs P k < xs.length
  | 0, _ => by simp only [lastK]; omega
  | k + 1, h => by
    rw [lastK]
    split
    · have := plN_lt (xs := xs) (i := k) (by omega); omega
    · exact lastK_lt k (by omega)
/-- Breaks are paid by the keys that are removed: two at most at each one, and one for the gap that it leaves. -/
theorem brk_pay {xs : List Int} {P : Nat → Bool} (hP : ∀ i k, i < k → k < xs.length → P i = true → P k = true → plN xs i < plN xs k) : ∀ k, k ≤ xs.length → (prevAt (brkL xs) k = lastK xs P k ∧ brkN (brkL xs) k ≤ 2 * (k - cnt P 0 k) + (lastK xs P k + 1 - cnt P 0 k)) ∨ brkN (brkL xs) k ≤ 2 * (k - cnt P 0 k) - 1 + (lastK xs P k + 1 - cnt P 0 k)
  | 0, _ => by left; simp [brkN, cnt, lastK, prevAt]
  | k + 1, h => by
    have ih := brk_pay hP k (by omega)
    rw [brkN, cnt_up, lastK, Nat.zero_add]
    have hb : (brkL xs).getD k 0 = plN xs k := by rw [brkL_lo (by omega), placesL_cast (by omega)]
    have hpv : prevAt (brkL xs) (k + 1) = plN xs k := by rw [prev_pos (by omega), Nat.add_sub_cancel, hb]
    rw [hb, hpv]
    by_cases hk : P k = true
    · have h1 := lastK_in hP (by omega) hk k (Nat.le_refl _)
      rw [if_pos hk, if_pos hk]
      left
      refine ⟨rfl, ?_⟩
      rcases ih with ⟨i1, i2⟩ | i2
      · rw [i1]; split <;> omega
      · split <;> omega
    · rw [if_neg hk, if_neg hk]
      right
      rcases ih with ⟨i1, i2⟩ | i2 <;> split <;> omega
theorem inR_pl {xs : List Int} (i k : Nat) (h : i < k) (hk : k < xs.length) (h1 : inR xs i = true) (h2 : inR xs k = true) : plN xs i < plN xs k := by
  have := inR_two h h1 h2
  exact plN_mono (xs := xs) (i := i) (k := k) (by omega) (by unfold ltK; omega)
theorem brk_rem {xs : List Int} : brkN (brkL xs) (xs.length + 1) ≤ 3 * ((xs.length : Int) - (riseTo xs xs.length).length) := by
  have h1 := brk_pay (xs := xs) (P := inR xs) (fun i k => inR_pl i k) xs.length (Nat.le_refl _)
  have h2 := lastK_lt (xs := xs) (P := inR xs) xs.length (Nat.le_refl _)
  rw [rise_cnt] at h1
  rw [brkN, brkL_at rfl]
  rcases h1 with ⟨i1, i2⟩ | i2
  · rw [i1]; split <;> omega
  · split <;> omega
theorem brk_zero {xs : List Int} : ∀ k, k ≤ xs.length → brkN (brkL xs) k = 0 → ∀ i, i < k → (placesL xs).getD i 0 = i
  | 0, _, _, i, h => by omega
  | k + 1, hk, h, i, hi => by
    have h0 := brkN_in (brkL xs) k
    rw [brkN] at h
    split at h
    · rename_i hc
      have ih := brk_zero (xs := xs) k (by omega) (by omega)
      rcases Nat.lt_or_ge i k with h1 | h1
      · exact ih i h1
      · have : i = k := by omega
        subst this
        rw [brkL_lo (by omega)] at hc
        rw [hc]
        rcases Nat.eq_zero_or_pos i with h2 | h2
        · subst h2; rfl
        · rw [prev_pos h2, brkL_lo (by omega), ih (i - 1) (by omega)]; omega
    · omega
theorem brk_srt (xs : List Int) : (brkN (brkL xs) (xs.length + 1) == 0) = srt xs := by
  cases e : srt xs with
  | true =>
    have hz : ∀ k, k ≤ xs.length → brkN (brkL xs) k = 0 := by
      intro k
      induction k with
      | zero => intro _; rfl
      | succ k ih =>
        intro hk
        rw [brkN, ih (by omega), brkL_lo (by omega), placesL_get (by omega), srt_pl e (by omega) _ (Nat.le_refl _), if_pos]
        · rfl
        · unfold prevAt
          split
          · omega
          · rw [brkL_lo (by omega), placesL_get (by omega), srt_pl e (by omega) _ (Nat.le_refl _)]; omega
    have : brkN (brkL xs) (xs.length + 1) = 0 := by
      rw [brkN, hz _ (Nat.le_refl _), brkL_at rfl, if_pos]
      · rfl
      · unfold prevAt
        split
        · omega
        · rw [brkL_lo (by omega), placesL_get (by omega), srt_pl e (by omega) _ (Nat.le_refl _)]; omega
    rw [this]; rfl
  | false =>
    have : brkN (brkL xs) (xs.length + 1) ≠ 0 := fun h => by
      have h0 := brkN_in (brkL xs) xs.length
      rw [brkN] at h
      have h1 := brk_zero (xs := xs) xs.length (Nat.le_refl _) (by split at h <;> omega)
      have h2 := (misN_zero (P := placesL xs) xs.length).2 h1
      have h3 := mis_srt xs
      rw [h2, e] at h3
      cases h3
    simpa using this


/-- The sum of the first n values. -/
def sm (f : Nat → Int) : Nat → Int
  | 0 => 0
  | n + 1 => sm f n + f n
theorem sm_le {f g : Nat → Int} : ∀ n, (∀ i, i < n → f i ≤ g i) → sm f n ≤ sm g n
  | 0, _ => Int.le_refl _
  | n + 1, h => by have := sm_le (f := f) (g := g) n fun i hi => h i (by omega); have := h n (by omega); simp only [sm]; omega
theorem sm_eq {f g : Nat → Int} : ∀ n, (∀ i, i < n → f i = g i) → sm f n = sm g n
  | 0, _ => rfl
  | n + 1, h => by have := sm_eq (f := f) (g := g) n fun i hi => h i (by omega); have := h n (by omega); simp only [sm]; omega
theorem sm_add (f g : Nat → Int) : ∀ n, sm (fun i => f i + g i) n = sm f n + sm g n
  | 0 => rfl
  | n + 1 => by have := sm_add f g n; simp only [sm]; omega
theorem sm_zero : ∀ n, sm (fun _ => 0) n = 0
  | 0 => rfl
  | n + 1 => by rw [sm, sm_zero n]; rfl
theorem sm_swap (f : Nat → Nat → Int) : ∀ m n, sm (fun i => sm (fun k => f i k) n) m = sm (fun k => sm (fun i => f i k) m) n
  | 0, n => by simp only [sm]; exact (sm_zero n).symm
  | m + 1, n => by simp only [sm]; rw [sm_swap f m n, ← sm_add]
theorem sm_more {f : Nat → Int} (h : ∀ i, 0 ≤ f i) {n : Nat} : ∀ d, sm f n ≤ sm f (n + d)
  | 0 => Int.le_refl _
  | d + 1 => by have := sm_more h (n := n) d; have := h (n + d); rw [← Nat.add_assoc, sm]; omega
theorem sm_shift (f : Nat → Int) : ∀ n, sm f (n + 1) = f 0 + sm (fun i => f (i + 1)) n
  | 0 => by simp [sm]
  | n + 1 => by rw [sm, sm_shift f n, sm]; omega
theorem sm_rev (f : Nat → Int) : ∀ n, sm (fun i => f (n - 1 - i)) n = sm f n
  | 0 => rfl
  | n + 1 => by
    rw [sm_shift, sm, show n + 1 - 1 - 0 = n by omega, ← sm_rev f n]
    have : sm (fun i => f (n + 1 - 1 - (i + 1))) n = sm (fun i => f (n - 1 - i)) n := sm_eq n fun i hi => by rw [show n + 1 - 1 - (i + 1) = n - 1 - i by omega]
    rw [this]; omega
def invI (xs : List Int) (i k : Nat) : Int := if i < k ∧ xs.getD k 0 < xs.getD i 0 then 1 else 0
def btwI (xs : List Int) (i k : Nat) : Int := if min (xs.getD i 0) (xs.getD (i + 1) 0) < xs.getD k 0 ∧ xs.getD k 0 < max (xs.getD i 0) (xs.getD (i + 1) 0) then 1 else 0
theorem invI_in (xs : List Int) (i k : Nat) : 0 ≤ invI xs i k := by unfold invI; split <;> omega
theorem invRow_sm (xs : List Int) (i : Nat) : ∀ k, invRow xs i k = sm (invI xs i) k
  | 0 => rfl
  | k + 1 => by rw [invRow, sm, invRow_sm xs i k]; rfl
theorem invTo_sm (xs : List Int) : ∀ i, invTo xs i = sm (fun i => sm (invI xs i) xs.length) i
  | 0 => rfl
  | i + 1 => by rw [invTo, sm, invTo_sm xs i, invRow_sm]
theorem btwC_sm (xs : List Int) (i : Nat) : ∀ k, btwC xs (xs.getD i 0) (xs.getD (i + 1) 0) k = sm (btwI xs i) k
  | 0 => rfl
  | k + 1 => by rw [btwC, sm, btwC_sm xs i k]; rfl
theorem swTo_sm (xs : List Int) : ∀ i, swTo xs i = sm (fun i => sm (btwI xs i) xs.length) i
  | 0 => rfl
  | i + 1 => by rw [swTo, sm, swTo_sm xs i, btwC_sm]
theorem btw_inv (xs : List Int) (i k : Nat) : btwI xs i k ≤ invI xs i k + invI xs k i + (invI xs (i + 1) k + invI xs k (i + 1)) := by
  have h1 := invI_in xs i k; have h2 := invI_in xs k i; have h3 := invI_in xs (i + 1) k; have h4 := invI_in xs k (i + 1)
  by_cases hb : min (xs.getD i 0) (xs.getD (i + 1) 0) < xs.getD k 0 ∧ xs.getD k 0 < max (xs.getD i 0) (xs.getD (i + 1) 0)
  · have hbi : btwI xs i k = 1 := if_pos hb
    have hne : k ≠ i := fun e => by subst e; omega
    have hne2 : k ≠ i + 1 := fun e => by subst e; omega
    rw [hbi]
    rcases Int.lt_or_le (xs.getD i 0) (xs.getD (i + 1) 0) with h | h
    · rcases Nat.lt_or_ge i k with hk | hk
      · have : invI xs (i + 1) k = 1 := if_pos ⟨by omega, by omega⟩
        omega
      · have : invI xs k i = 1 := if_pos ⟨by omega, by omega⟩
        omega
    · rcases Nat.lt_or_ge i k with hk | hk
      · have : invI xs i k = 1 := if_pos ⟨by omega, by omega⟩
        omega
      · have : invI xs k (i + 1) = 1 := if_pos ⟨by omega, by omega⟩
        omega
  · have hbi : btwI xs i k = 0 := if_neg hb
    omega
theorem sw_inv (xs : List Int) : swTo xs (xs.length - 1) ≤ 4 * invTo xs xs.length := by
  rw [swTo_sm, invTo_sm]
  rcases Nat.eq_zero_or_pos xs.length with h0 | h0
  · rw [h0]; simp [sm]
  · have hn : xs.length = (xs.length - 1) + 1 := by omega
    have h1 : sm (fun i => sm (btwI xs i) xs.length) (xs.length - 1) ≤ sm (fun i => sm (fun k => invI xs i k + invI xs k i + (invI xs (i + 1) k + invI xs k (i + 1))) xs.length) (xs.length - 1) := sm_le _ fun i _ => sm_le _ fun k _ => btw_inv xs i k
    have h2 : sm (fun i => sm (fun k => invI xs i k + invI xs k i + (invI xs (i + 1) k + invI xs k (i + 1))) xs.length) (xs.length - 1) = sm (fun i => sm (fun k => invI xs i k) xs.length) (xs.length - 1) + sm (fun i => sm (fun k => invI xs k i) xs.length) (xs.length - 1) + (sm (fun i => sm (fun k => invI xs (i + 1) k) xs.length) (xs.length - 1) + sm (fun i => sm (fun k => invI xs k (i + 1)) xs.length) (xs.length - 1)) := by
      rw [← sm_add, ← sm_add, ← sm_add]
      refine sm_eq _ fun i _ => ?_
      rw [← sm_add, ← sm_add, ← sm_add]
    have hp : ∀ i, 0 ≤ sm (fun k => invI xs i k) xs.length := fun i => by rw [← sm_zero xs.length]; exact sm_le _ fun k _ => invI_in _ _ _
    have hq : ∀ i, 0 ≤ sm (fun k => invI xs k i) xs.length := fun i => by rw [← sm_zero xs.length]; exact sm_le _ fun k _ => invI_in _ _ _
    have h3 := sm_more hp (n := xs.length - 1) 1
    have h4 := sm_more hq (n := xs.length - 1) 1
    have h5 := sm_shift (fun i => sm (fun k => invI xs i k) xs.length) (xs.length - 1)
    have h6 := sm_shift (fun i => sm (fun k => invI xs k i) xs.length) (xs.length - 1)
    have h7 := sm_swap (fun i k => invI xs k i) xs.length xs.length
    rw [← hn] at h3 h4 h5 h6
    have h8 := hp 0
    have h9 := hq 0
    have e1 : sm (fun i => sm (invI xs i) xs.length) xs.length = sm (fun i => sm (fun k => invI xs i k) xs.length) xs.length := rfl
    omega
theorem rev_getD {xs : List Int} {j : Nat} (h : j < xs.length) : xs.reverse.getD j 0 = xs.getD (xs.length - 1 - j) 0 := by
  rw [List.getD_eq_getElem?_getD, List.getD_eq_getElem?_getD, List.getElem?_reverse h]
theorem sw_rev (xs : List Int) : swTo xs.reverse (xs.reverse.length - 1) = swTo xs (xs.length - 1) := by
  rw [swTo_sm, swTo_sm, List.length_reverse]
  rcases Nat.eq_zero_or_pos xs.length with h0 | h0
  · rw [h0]; rfl
  · rw [← sm_rev (fun i => sm (btwI xs i) xs.length)]
    refine sm_eq _ fun i hi => ?_
    rw [← sm_rev (btwI xs (xs.length - 1 - 1 - i))]
    refine sm_eq _ fun k hk => ?_
    unfold btwI
    rw [rev_getD (by omega), rev_getD (by omega), rev_getD hk, show xs.length - 1 - (i + 1) = xs.length - 1 - 1 - i by omega, show xs.length - 1 - 1 - i + 1 = xs.length - 1 - i by omega, Int.min_comm, Int.max_comm]
theorem swTo_nonneg (xs : List Int) : ∀ i, 0 ≤ swTo xs i ∧ swTo xs i ≤ xs.length * i
  | 0 => by simp [swTo]
  | i + 1 => by
    have := swTo_nonneg xs i
    have := btw_in xs (xs.getD i 0) (xs.getD (i + 1) 0) xs.length
    rw [swTo, show ((xs.length : Int)) * ((i + 1 : Nat) : Int) = xs.length * i + xs.length by rw [show ((i + 1 : Nat) : Int) = (i : Int) + 1 by omega, Int.mul_add, Int.mul_one]]
    omega

theorem drawLongestRise_sat : Sat Try.prog 12 (fun ds Q => ∃ bs, ds = [.row (.ints .u8 bs)] ∧ bs.length ≤ 1099511627776 ∧ bytesOk bs ∧ ∀ ys : List Int, ys.length ≤ 17 → Q (.row (.ints .i64 ys))) := by
  refine sat_intro tabOk Try.func12 rfl 6 rfl [.tmp 2] rfl ?_
  rintro ds Q W ⟨bs, rfl, hlen, hbs, hQ⟩
  refine ⟨Nat.le_of_ble_eq_true rfl, ?_⟩
  simp only [initS, initT, mat.matL, mat, Cont.len]
  repeat' (first | refine awp_seq_k fun K hK => ?_ | ((with_reducible refine hK _ ?_); clear hK K) | (clear hK K; (with_reducible refine hK _ ?_); clear hK K) | (clear hK K; clear hK K; (with_reducible refine hK _ ?_); clear hK K) | (clear hK K; clear hK K; clear hK K; (with_reducible refine hK _ ?_); clear hK K) | (clear hK K; clear hK K; clear hK K; clear hK K; (with_reducible refine hK _ ?_); clear hK K) | (clear hK K; clear hK K; clear hK K; clear hK K; clear hK K; (with_reducible refine hK _ ?_); clear hK K) | ((with_reducible refine aord_plain fun K hK => ?_); simp only [go_sem, Nat.reduceAdd, Nat.reduceMul, Nat.reduceEqDiff, Nat.reduceLT, reduceIte, reduceCtorEq, Int.toNat_zero]) | refine awp_block ?_ | ((first | with_reducible refine aord_nil ?_ | refine awp_skip ?_ | refine awp_exit ?_ | refine awp_ret ?_); try simp only [thenA_normal, thenA_exit, thenA_goto, thenA_ret, blockA_normal, blockA_same, blockA_exit, blockA_goto, blockA_ret, Nat.reduceEqDiff, if_false, if_true, reduceIte]) | (refine awp_region tabOk rfl ?_; simp only [prep, pickO, List.map_cons, List.map_nil, List.getElem?_toArray, List.getElem?_cons_succ, List.getElem?_cons_zero, Option.bind_some, Option.map_some]) | ((with_reducible apply awp_cond); (focus (simp only [St.ev, St.set, upd, Nat.reduceEqDiff, reduceIte, if_false, if_true]; exact rfl)); all_goals (intro hb; first | (cases hb; done) | ((try rw [hb]); (try simp only [decide_eq_true_eq, decide_eq_false_iff_not, beq_iff_eq, bne_iff_ne, beq_eq_false_iff_ne, bne_eq_false_iff_eq, Int.not_lt, Int.not_le, Bool.not_eq_true', Bool.not_eq_false'] at hb)))) | ((with_reducible refine And.intro ?_ ?_); (focus omega)) | ((with_reducible refine And.intro ?_ ?_); (focus (exact rfl))) | ((with_reducible refine And.intro (?_ : enters Try.prog 46) ?_); (focus exact Try.call46); (refine callX_satH someKeys_sat ?_); simp only [go_sem, and_assoc, List.nil_append, List.append_nil, List.cons_append, Nat.reduceEqDiff, reduceIte, reduceCtorEq, Int.toNat_zero]) | ((with_reducible refine And.intro (?_ : enters Try.prog 47) ?_); (focus exact Try.call47); (refine callX_h (callH_inline tabOk Try.func47 rfl 11 rfl [.tmp 2] rfl (Nat.le_of_ble_eq_true rfl) fun m0 hm0 hcl hlt => ?_)); simp only [initT, St.ev, St.set, upd, Nat.reduceEqDiff, reduceIte, if_false, if_true]) | (simp only [rBuild]; simp only [fillA, Nat.reduceLeDiff, List.getElem?_cons_zero, List.getElem?_cons_succ, List.drop_succ_cons, List.drop_nil, List.take_nil, List.cons_append, Option.isSome_some, go_sem, Nat.reduceAdd, Nat.reduceMul, Nat.reduceEqDiff, Nat.reduceLT, reduceIte, reduceCtorEq]) | (simp only [doneH]; simp only [ressK, resK, wrapR, go_sem, Nat.reduceAdd, Nat.reduceMul, Nat.reduceEqDiff, Nat.reduceLT, reduceIte, reduceCtorEq]) | (with_reducible refine And.intro (fun hb => ?_) (fun hb => ?_)) | (exfalso; omega) | fail)
  all_goals (
    refine ⟨_, _, 0, rfl, by omega, by omega, hbs, by omega, ?_⟩
    intro ys r hys hr)
  repeat' (first | refine awp_seq_k fun K hK => ?_ | ((with_reducible refine hK _ ?_); clear hK K) | (clear hK K; (with_reducible refine hK _ ?_); clear hK K) | (clear hK K; clear hK K; (with_reducible refine hK _ ?_); clear hK K) | (clear hK K; clear hK K; clear hK K; (with_reducible refine hK _ ?_); clear hK K) | (clear hK K; clear hK K; clear hK K; clear hK K; (with_reducible refine hK _ ?_); clear hK K) | (clear hK K; clear hK K; clear hK K; clear hK K; clear hK K; (with_reducible refine hK _ ?_); clear hK K) | ((with_reducible refine aord_plain fun K hK => ?_); simp only [go_sem, Nat.reduceAdd, Nat.reduceMul, Nat.reduceEqDiff, Nat.reduceLT, reduceIte, reduceCtorEq, Int.toNat_zero]) | refine awp_block ?_ | ((first | with_reducible refine aord_nil ?_ | refine awp_skip ?_ | refine awp_exit ?_ | refine awp_ret ?_); try simp only [thenA_normal, thenA_exit, thenA_goto, thenA_ret, blockA_normal, blockA_same, blockA_exit, blockA_goto, blockA_ret, Nat.reduceEqDiff, if_false, if_true, reduceIte]) | (refine awp_region tabOk rfl ?_; simp only [prep, pickO, List.map_cons, List.map_nil, List.getElem?_toArray, List.getElem?_cons_succ, List.getElem?_cons_zero, Option.bind_some, Option.map_some]) | ((with_reducible apply awp_cond); (focus (simp only [St.ev, St.set, upd, Nat.reduceEqDiff, reduceIte, if_false, if_true]; exact rfl)); all_goals (intro hb; first | (cases hb; done) | ((try rw [hb]); (try simp only [decide_eq_true_eq, decide_eq_false_iff_not, beq_iff_eq, bne_iff_ne, beq_eq_false_iff_ne, bne_eq_false_iff_eq, Int.not_lt, Int.not_le, Bool.not_eq_true', Bool.not_eq_false'] at hb)))) | ((with_reducible refine And.intro ?_ ?_); (focus omega)) | ((with_reducible refine And.intro ?_ ?_); (focus (exact rfl))) | ((with_reducible refine And.intro (?_ : enters Try.prog 46) ?_); (focus exact Try.call46); (refine callX_satH someKeys_sat ?_); simp only [go_sem, and_assoc, List.nil_append, List.append_nil, List.cons_append, Nat.reduceEqDiff, reduceIte, reduceCtorEq, Int.toNat_zero]) | ((with_reducible refine And.intro (?_ : enters Try.prog 47) ?_); (focus exact Try.call47); (refine callX_h (callH_inline tabOk Try.func47 rfl 11 rfl [.tmp 2] rfl (Nat.le_of_ble_eq_true rfl) fun m0 hm0 hcl hlt => ?_)); simp only [initT, St.ev, St.set, upd, Nat.reduceEqDiff, reduceIte, if_false, if_true]) | (simp only [rBuild]; simp only [fillA, Nat.reduceLeDiff, List.getElem?_cons_zero, List.getElem?_cons_succ, List.drop_succ_cons, List.drop_nil, List.take_nil, List.cons_append, Option.isSome_some, go_sem, Nat.reduceAdd, Nat.reduceMul, Nat.reduceEqDiff, Nat.reduceLT, reduceIte, reduceCtorEq]) | (simp only [doneH]; simp only [ressK, resK, wrapR, go_sem, Nat.reduceAdd, Nat.reduceMul, Nat.reduceEqDiff, Nat.reduceLT, reduceIte, reduceCtorEq]) | (with_reducible refine And.intro (fun hb => ?_) (fun hb => ?_)) | (exfalso; omega) | fail)
  all_goals (simp only [St.set, St.ev, doneQ, doneH, ressK, resK, wrapR, AV.ids, AV.idsL, retK, retsK, upd, Nat.reduceEqDiff, reduceIte, if_false, if_true, List.nodup_nil, List.nodup_cons, List.not_mem_nil, not_false_eq_true, true_and, and_true, exists_eq_left', Option.some.injEq, rLoad, cellOf, tab, Ty.isAgg, Ty.one, Bool.false_eq_true]; simp only [Cont.closed, Cont.len, true_and]; exact hQ ys hys)

theorem drawLongestFall_sat : Sat Try.prog 33 (fun ds Q => ∃ bs, ds = [.row (.ints .u8 bs)] ∧ bs.length ≤ 1099511627776 ∧ bytesOk bs ∧ ∀ ys : List Int, ys.length ≤ 17 → Q (.row (.ints .i64 ys))) := by
  refine sat_intro tabOk Try.func33 rfl 6 rfl [.tmp 2] rfl ?_
  rintro ds Q W ⟨bs, rfl, hlen, hbs, hQ⟩
  refine ⟨Nat.le_of_ble_eq_true rfl, ?_⟩
  simp only [initS, initT, mat.matL, mat, Cont.len]
  repeat' (first | refine awp_seq_k fun K hK => ?_ | ((with_reducible refine hK _ ?_); clear hK K) | (clear hK K; (with_reducible refine hK _ ?_); clear hK K) | (clear hK K; clear hK K; (with_reducible refine hK _ ?_); clear hK K) | (clear hK K; clear hK K; clear hK K; (with_reducible refine hK _ ?_); clear hK K) | (clear hK K; clear hK K; clear hK K; clear hK K; (with_reducible refine hK _ ?_); clear hK K) | (clear hK K; clear hK K; clear hK K; clear hK K; clear hK K; (with_reducible refine hK _ ?_); clear hK K) | ((with_reducible refine aord_plain fun K hK => ?_); simp only [go_sem, Nat.reduceAdd, Nat.reduceMul, Nat.reduceEqDiff, Nat.reduceLT, reduceIte, reduceCtorEq, Int.toNat_zero]) | refine awp_block ?_ | ((first | with_reducible refine aord_nil ?_ | refine awp_skip ?_ | refine awp_exit ?_ | refine awp_ret ?_); try simp only [thenA_normal, thenA_exit, thenA_goto, thenA_ret, blockA_normal, blockA_same, blockA_exit, blockA_goto, blockA_ret, Nat.reduceEqDiff, if_false, if_true, reduceIte]) | (refine awp_region tabOk rfl ?_; simp only [prep, pickO, List.map_cons, List.map_nil, List.getElem?_toArray, List.getElem?_cons_succ, List.getElem?_cons_zero, Option.bind_some, Option.map_some]) | ((with_reducible apply awp_cond); (focus (simp only [St.ev, St.set, upd, Nat.reduceEqDiff, reduceIte, if_false, if_true]; exact rfl)); all_goals (intro hb; first | (cases hb; done) | ((try rw [hb]); (try simp only [decide_eq_true_eq, decide_eq_false_iff_not, beq_iff_eq, bne_iff_ne, beq_eq_false_iff_ne, bne_eq_false_iff_eq, Int.not_lt, Int.not_le, Bool.not_eq_true', Bool.not_eq_false'] at hb)))) | ((with_reducible refine And.intro ?_ ?_); (focus omega)) | ((with_reducible refine And.intro ?_ ?_); (focus (exact rfl))) | ((with_reducible refine And.intro (?_ : enters Try.prog 46) ?_); (focus exact Try.call46); (refine callX_satH someKeys_sat ?_); simp only [go_sem, and_assoc, List.nil_append, List.append_nil, List.cons_append, Nat.reduceEqDiff, reduceIte, reduceCtorEq, Int.toNat_zero]) | ((with_reducible refine And.intro (?_ : enters Try.prog 47) ?_); (focus exact Try.call47); (refine callX_h (callH_inline tabOk Try.func47 rfl 11 rfl [.tmp 2] rfl (Nat.le_of_ble_eq_true rfl) fun m0 hm0 hcl hlt => ?_)); simp only [initT, St.ev, St.set, upd, Nat.reduceEqDiff, reduceIte, if_false, if_true]) | (simp only [rBuild]; simp only [fillA, Nat.reduceLeDiff, List.getElem?_cons_zero, List.getElem?_cons_succ, List.drop_succ_cons, List.drop_nil, List.take_nil, List.cons_append, Option.isSome_some, go_sem, Nat.reduceAdd, Nat.reduceMul, Nat.reduceEqDiff, Nat.reduceLT, reduceIte, reduceCtorEq]) | (simp only [doneH]; simp only [ressK, resK, wrapR, go_sem, Nat.reduceAdd, Nat.reduceMul, Nat.reduceEqDiff, Nat.reduceLT, reduceIte, reduceCtorEq]) | (with_reducible refine And.intro (fun hb => ?_) (fun hb => ?_)) | (exfalso; omega) | fail)
  all_goals (
    refine ⟨_, _, 0, rfl, by omega, by omega, hbs, by omega, ?_⟩
    intro ys r hys hr)
  repeat' (first | refine awp_seq_k fun K hK => ?_ | ((with_reducible refine hK _ ?_); clear hK K) | (clear hK K; (with_reducible refine hK _ ?_); clear hK K) | (clear hK K; clear hK K; (with_reducible refine hK _ ?_); clear hK K) | (clear hK K; clear hK K; clear hK K; (with_reducible refine hK _ ?_); clear hK K) | (clear hK K; clear hK K; clear hK K; clear hK K; (with_reducible refine hK _ ?_); clear hK K) | (clear hK K; clear hK K; clear hK K; clear hK K; clear hK K; (with_reducible refine hK _ ?_); clear hK K) | ((with_reducible refine aord_plain fun K hK => ?_); simp only [go_sem, Nat.reduceAdd, Nat.reduceMul, Nat.reduceEqDiff, Nat.reduceLT, reduceIte, reduceCtorEq, Int.toNat_zero]) | refine awp_block ?_ | ((first | with_reducible refine aord_nil ?_ | refine awp_skip ?_ | refine awp_exit ?_ | refine awp_ret ?_); try simp only [thenA_normal, thenA_exit, thenA_goto, thenA_ret, blockA_normal, blockA_same, blockA_exit, blockA_goto, blockA_ret, Nat.reduceEqDiff, if_false, if_true, reduceIte]) | (refine awp_region tabOk rfl ?_; simp only [prep, pickO, List.map_cons, List.map_nil, List.getElem?_toArray, List.getElem?_cons_succ, List.getElem?_cons_zero, Option.bind_some, Option.map_some]) | ((with_reducible apply awp_cond); (focus (simp only [St.ev, St.set, upd, Nat.reduceEqDiff, reduceIte, if_false, if_true]; exact rfl)); all_goals (intro hb; first | (cases hb; done) | ((try rw [hb]); (try simp only [decide_eq_true_eq, decide_eq_false_iff_not, beq_iff_eq, bne_iff_ne, beq_eq_false_iff_ne, bne_eq_false_iff_eq, Int.not_lt, Int.not_le, Bool.not_eq_true', Bool.not_eq_false'] at hb)))) | ((with_reducible refine And.intro ?_ ?_); (focus omega)) | ((with_reducible refine And.intro ?_ ?_); (focus (exact rfl))) | ((with_reducible refine And.intro (?_ : enters Try.prog 46) ?_); (focus exact Try.call46); (refine callX_satH someKeys_sat ?_); simp only [go_sem, and_assoc, List.nil_append, List.append_nil, List.cons_append, Nat.reduceEqDiff, reduceIte, reduceCtorEq, Int.toNat_zero]) | ((with_reducible refine And.intro (?_ : enters Try.prog 47) ?_); (focus exact Try.call47); (refine callX_h (callH_inline tabOk Try.func47 rfl 11 rfl [.tmp 2] rfl (Nat.le_of_ble_eq_true rfl) fun m0 hm0 hcl hlt => ?_)); simp only [initT, St.ev, St.set, upd, Nat.reduceEqDiff, reduceIte, if_false, if_true]) | (simp only [rBuild]; simp only [fillA, Nat.reduceLeDiff, List.getElem?_cons_zero, List.getElem?_cons_succ, List.drop_succ_cons, List.drop_nil, List.take_nil, List.cons_append, Option.isSome_some, go_sem, Nat.reduceAdd, Nat.reduceMul, Nat.reduceEqDiff, Nat.reduceLT, reduceIte, reduceCtorEq]) | (simp only [doneH]; simp only [ressK, resK, wrapR, go_sem, Nat.reduceAdd, Nat.reduceMul, Nat.reduceEqDiff, Nat.reduceLT, reduceIte, reduceCtorEq]) | (with_reducible refine And.intro (fun hb => ?_) (fun hb => ?_)) | (exfalso; omega) | fail)
  all_goals (simp only [St.set, St.ev, doneQ, doneH, ressK, resK, wrapR, AV.ids, AV.idsL, retK, retsK, upd, Nat.reduceEqDiff, reduceIte, if_false, if_true, List.nodup_nil, List.nodup_cons, List.not_mem_nil, not_false_eq_true, true_and, and_true, exists_eq_left', Option.some.injEq, rLoad, cellOf, tab, Ty.isAgg, Ty.one, Bool.false_eq_true]; simp only [Cont.closed, Cont.len, true_and]; exact hQ ys hys)

theorem drawBreaksOf_sat : Sat Try.prog 41 (fun ds Q => ∃ bs, ds = [.row (.ints .u8 bs)] ∧ bs.length ≤ 1099511627776 ∧ bytesOk bs ∧ ∀ ys : List Int, ys.length ≤ 17 → Q (.row (.ints .i64 ys))) := by
  refine sat_intro tabOk Try.func41 rfl 6 rfl [.tmp 2] rfl ?_
  rintro ds Q W ⟨bs, rfl, hlen, hbs, hQ⟩
  refine ⟨Nat.le_of_ble_eq_true rfl, ?_⟩
  simp only [initS, initT, mat.matL, mat, Cont.len]
  repeat' (first | refine awp_seq_k fun K hK => ?_ | ((with_reducible refine hK _ ?_); clear hK K) | (clear hK K; (with_reducible refine hK _ ?_); clear hK K) | (clear hK K; clear hK K; (with_reducible refine hK _ ?_); clear hK K) | (clear hK K; clear hK K; clear hK K; (with_reducible refine hK _ ?_); clear hK K) | (clear hK K; clear hK K; clear hK K; clear hK K; (with_reducible refine hK _ ?_); clear hK K) | (clear hK K; clear hK K; clear hK K; clear hK K; clear hK K; (with_reducible refine hK _ ?_); clear hK K) | ((with_reducible refine aord_plain fun K hK => ?_); simp only [go_sem, Nat.reduceAdd, Nat.reduceMul, Nat.reduceEqDiff, Nat.reduceLT, reduceIte, reduceCtorEq, Int.toNat_zero]) | refine awp_block ?_ | ((first | with_reducible refine aord_nil ?_ | refine awp_skip ?_ | refine awp_exit ?_ | refine awp_ret ?_); try simp only [thenA_normal, thenA_exit, thenA_goto, thenA_ret, blockA_normal, blockA_same, blockA_exit, blockA_goto, blockA_ret, Nat.reduceEqDiff, if_false, if_true, reduceIte]) | (refine awp_region tabOk rfl ?_; simp only [prep, pickO, List.map_cons, List.map_nil, List.getElem?_toArray, List.getElem?_cons_succ, List.getElem?_cons_zero, Option.bind_some, Option.map_some]) | ((with_reducible apply awp_cond); (focus (simp only [St.ev, St.set, upd, Nat.reduceEqDiff, reduceIte, if_false, if_true]; exact rfl)); all_goals (intro hb; first | (cases hb; done) | ((try rw [hb]); (try simp only [decide_eq_true_eq, decide_eq_false_iff_not, beq_iff_eq, bne_iff_ne, beq_eq_false_iff_ne, bne_eq_false_iff_eq, Int.not_lt, Int.not_le, Bool.not_eq_true', Bool.not_eq_false'] at hb)))) | ((with_reducible refine And.intro ?_ ?_); (focus omega)) | ((with_reducible refine And.intro ?_ ?_); (focus (exact rfl))) | ((with_reducible refine And.intro (?_ : enters Try.prog 46) ?_); (focus exact Try.call46); (refine callX_satH someKeys_sat ?_); simp only [go_sem, and_assoc, List.nil_append, List.append_nil, List.cons_append, Nat.reduceEqDiff, reduceIte, reduceCtorEq, Int.toNat_zero]) | ((with_reducible refine And.intro (?_ : enters Try.prog 47) ?_); (focus exact Try.call47); (refine callX_h (callH_inline tabOk Try.func47 rfl 11 rfl [.tmp 2] rfl (Nat.le_of_ble_eq_true rfl) fun m0 hm0 hcl hlt => ?_)); simp only [initT, St.ev, St.set, upd, Nat.reduceEqDiff, reduceIte, if_false, if_true]) | (simp only [rBuild]; simp only [fillA, Nat.reduceLeDiff, List.getElem?_cons_zero, List.getElem?_cons_succ, List.drop_succ_cons, List.drop_nil, List.take_nil, List.cons_append, Option.isSome_some, go_sem, Nat.reduceAdd, Nat.reduceMul, Nat.reduceEqDiff, Nat.reduceLT, reduceIte, reduceCtorEq]) | (simp only [doneH]; simp only [ressK, resK, wrapR, go_sem, Nat.reduceAdd, Nat.reduceMul, Nat.reduceEqDiff, Nat.reduceLT, reduceIte, reduceCtorEq]) | (with_reducible refine And.intro (fun hb => ?_) (fun hb => ?_)) | (exfalso; omega) | fail)
  all_goals (
    refine ⟨_, _, 0, rfl, by omega, by omega, hbs, by omega, ?_⟩
    intro ys r hys hr)
  repeat' (first | refine awp_seq_k fun K hK => ?_ | ((with_reducible refine hK _ ?_); clear hK K) | (clear hK K; (with_reducible refine hK _ ?_); clear hK K) | (clear hK K; clear hK K; (with_reducible refine hK _ ?_); clear hK K) | (clear hK K; clear hK K; clear hK K; (with_reducible refine hK _ ?_); clear hK K) | (clear hK K; clear hK K; clear hK K; clear hK K; (with_reducible refine hK _ ?_); clear hK K) | (clear hK K; clear hK K; clear hK K; clear hK K; clear hK K; (with_reducible refine hK _ ?_); clear hK K) | ((with_reducible refine aord_plain fun K hK => ?_); simp only [go_sem, Nat.reduceAdd, Nat.reduceMul, Nat.reduceEqDiff, Nat.reduceLT, reduceIte, reduceCtorEq, Int.toNat_zero]) | refine awp_block ?_ | ((first | with_reducible refine aord_nil ?_ | refine awp_skip ?_ | refine awp_exit ?_ | refine awp_ret ?_); try simp only [thenA_normal, thenA_exit, thenA_goto, thenA_ret, blockA_normal, blockA_same, blockA_exit, blockA_goto, blockA_ret, Nat.reduceEqDiff, if_false, if_true, reduceIte]) | (refine awp_region tabOk rfl ?_; simp only [prep, pickO, List.map_cons, List.map_nil, List.getElem?_toArray, List.getElem?_cons_succ, List.getElem?_cons_zero, Option.bind_some, Option.map_some]) | ((with_reducible apply awp_cond); (focus (simp only [St.ev, St.set, upd, Nat.reduceEqDiff, reduceIte, if_false, if_true]; exact rfl)); all_goals (intro hb; first | (cases hb; done) | ((try rw [hb]); (try simp only [decide_eq_true_eq, decide_eq_false_iff_not, beq_iff_eq, bne_iff_ne, beq_eq_false_iff_ne, bne_eq_false_iff_eq, Int.not_lt, Int.not_le, Bool.not_eq_true', Bool.not_eq_false'] at hb)))) | ((with_reducible refine And.intro ?_ ?_); (focus omega)) | ((with_reducible refine And.intro ?_ ?_); (focus (exact rfl))) | ((with_reducible refine And.intro (?_ : enters Try.prog 46) ?_); (focus exact Try.call46); (refine callX_satH someKeys_sat ?_); simp only [go_sem, and_assoc, List.nil_append, List.append_nil, List.cons_append, Nat.reduceEqDiff, reduceIte, reduceCtorEq, Int.toNat_zero]) | ((with_reducible refine And.intro (?_ : enters Try.prog 47) ?_); (focus exact Try.call47); (refine callX_h (callH_inline tabOk Try.func47 rfl 11 rfl [.tmp 2] rfl (Nat.le_of_ble_eq_true rfl) fun m0 hm0 hcl hlt => ?_)); simp only [initT, St.ev, St.set, upd, Nat.reduceEqDiff, reduceIte, if_false, if_true]) | (simp only [rBuild]; simp only [fillA, Nat.reduceLeDiff, List.getElem?_cons_zero, List.getElem?_cons_succ, List.drop_succ_cons, List.drop_nil, List.take_nil, List.cons_append, Option.isSome_some, go_sem, Nat.reduceAdd, Nat.reduceMul, Nat.reduceEqDiff, Nat.reduceLT, reduceIte, reduceCtorEq]) | (simp only [doneH]; simp only [ressK, resK, wrapR, go_sem, Nat.reduceAdd, Nat.reduceMul, Nat.reduceEqDiff, Nat.reduceLT, reduceIte, reduceCtorEq]) | (with_reducible refine And.intro (fun hb => ?_) (fun hb => ?_)) | (exfalso; omega) | fail)
  all_goals (simp only [St.set, St.ev, doneQ, doneH, ressK, resK, wrapR, AV.ids, AV.idsL, retK, retsK, upd, Nat.reduceEqDiff, reduceIte, if_false, if_true, List.nodup_nil, List.nodup_cons, List.not_mem_nil, not_false_eq_true, true_and, and_true, exists_eq_left', Option.some.injEq, rLoad, cellOf, tab, Ty.isAgg, Ty.one, Bool.false_eq_true]; simp only [Cont.closed, Cont.len, true_and]; exact hQ ys hys)



theorem FnLongestFall_sat : Sat Try.prog 8 (fun ds Q => ∃ bs, ds = [.row (.ints .u8 bs)] ∧ bs.length ≤ 9223372036854775807 ∧ bytesOk bs ∧ Q (.val (.bool true))) := by
  refine sat_intro tabOk Try.func8 rfl 45 rfl [.tmp 2] rfl ?_
  rintro ds Q W ⟨bs, rfl, hlen, hbs, hQ⟩
  refine ⟨Nat.le_of_ble_eq_true rfl, ?_⟩
  simp only [initS, initT, mat.matL, mat, Cont.len]
  repeat' (first | refine awp_seq_k fun K hK => ?_ | ((with_reducible refine hK _ ?_); clear hK K) | (clear hK K; (with_reducible refine hK _ ?_); clear hK K) | (clear hK K; clear hK K; (with_reducible refine hK _ ?_); clear hK K) | (clear hK K; clear hK K; clear hK K; (with_reducible refine hK _ ?_); clear hK K) | (clear hK K; clear hK K; clear hK K; clear hK K; (with_reducible refine hK _ ?_); clear hK K) | (clear hK K; clear hK K; clear hK K; clear hK K; clear hK K; (with_reducible refine hK _ ?_); clear hK K) | ((with_reducible refine aord_plain fun K hK => ?_); simp only [go_sem, Nat.reduceAdd, Nat.reduceMul, Nat.reduceEqDiff, Nat.reduceLT, reduceIte, reduceCtorEq]) | ((with_reducible apply aord_guard); (focus (simp only [St.ev, St.set, upd, Nat.reduceEqDiff, reduceIte, if_false, if_true]; exact rfl)); all_goals (intro hb; (try simp only [Bool.not_true, Bool.not_false] at hb); first | (cases hb; done) | ((try rw [hb]); (try simp only [Bool.not_eq_true', Bool.not_eq_false', Bool.and_eq_true, decide_eq_true_eq, decide_eq_false_iff_not, beq_iff_eq, bne_iff_ne, beq_eq_false_iff_ne, bne_eq_false_iff_eq, Int.not_lt, Int.not_le] at hb); (try (revert hb; with_reducible refine true_imp_iff.2 ?_)); first | (intro K hK; simp only [go_sem, Nat.reduceAdd, Nat.reduceMul, Nat.reduceEqDiff, Nat.reduceLT, reduceIte, reduceCtorEq]) | (simp only [St.ev, St.set, upd, Nat.reduceEqDiff, reduceIte, if_false, if_true]) | skip))) | ((with_reducible apply aord_skip); (focus (simp only [St.ev, St.set, upd, Nat.reduceEqDiff, reduceIte, if_false, if_true]; done)); (simp only [St.ev, St.set, upd, Nat.reduceEqDiff, reduceIte, if_false, if_true])) | refine awp_block ?_ | ((first | with_reducible refine aord_nil ?_ | refine awp_skip ?_ | refine awp_exit ?_ | refine awp_ret ?_); try simp only [thenA_normal, thenA_exit, thenA_goto, thenA_ret, blockA_normal, blockA_same, blockA_exit, blockA_goto, blockA_ret, Nat.reduceEqDiff, if_false, if_true, reduceIte]) | (refine awp_region tabOk rfl ?_; simp only [prep, pickO, List.map_cons, List.map_nil, List.getElem?_toArray, List.getElem?_cons_succ, List.getElem?_cons_zero, Option.bind_some, Option.map_some]) | ((with_reducible apply awp_cond); (focus (simp only [St.ev, St.set, upd, Nat.reduceEqDiff, reduceIte, if_false, if_true]; exact rfl)); all_goals (intro hb; first | (cases hb; done) | ((try rw [hb]); (try simp only [decide_eq_true_eq, decide_eq_false_iff_not, beq_iff_eq, bne_iff_ne, beq_eq_false_iff_ne, bne_eq_false_iff_eq, Int.not_lt, Int.not_le, Bool.not_eq_true', Bool.not_eq_false'] at hb)))) | ((with_reducible refine And.intro ?_ ?_); (focus omega)) | ((with_reducible refine And.intro ?_ ?_); (focus (exact rfl))) | ((with_reducible refine And.intro (?_ : enters Try.prog 33) ?_); (focus exact Try.call33); (refine callX_sat drawLongestFall_sat ?_); simp only [go_sem, and_assoc, List.nil_append, List.append_nil, List.cons_append, Nat.reduceEqDiff, reduceIte, reduceCtorEq]) | ((with_reducible refine And.intro (?_ : enters Try.prog 34) ?_); (focus exact Try.call34); (refine callX_sat implLongestFall_sat ?_); simp only [go_sem, and_assoc, List.nil_append, List.append_nil, List.cons_append, Nat.reduceEqDiff, reduceIte, reduceCtorEq]) | ((with_reducible refine And.intro (?_ : enters Try.prog 35) ?_); (focus exact Try.call35); (refine callX_sat specLongestFall_sat ?_); simp only [go_sem, and_assoc, List.nil_append, List.append_nil, List.cons_append, Nat.reduceEqDiff, reduceIte, reduceCtorEq]) | ((with_reducible refine And.intro (?_ : enters Try.prog 16) ?_); (focus exact Try.call16); (refine callX_sat implValidKeys_sat ?_); simp only [go_sem, and_assoc, List.nil_append, List.append_nil, List.cons_append, Nat.reduceEqDiff, reduceIte, reduceCtorEq]) | ((with_reducible refine And.intro (?_ : enters Try.prog 36) ?_); (focus exact Try.call36); (refine callX_sat implRunsOf_sat ?_); simp only [go_sem, and_assoc, List.nil_append, List.append_nil, List.cons_append, Nat.reduceEqDiff, reduceIte, reduceCtorEq]) | ((with_reducible refine And.intro (?_ : enters Try.prog 19) ?_); (focus exact Try.call19); (refine callX_sat implRemovalsOf_sat ?_); simp only [go_sem, and_assoc, List.nil_append, List.append_nil, List.cons_append, Nat.reduceEqDiff, reduceIte, reduceCtorEq]) | (with_reducible refine And.intro (fun hb => ?_) (fun hb => ?_)) | (exfalso; omega) | fail)
  · simp only [St.set, St.ev, doneQ, doneH, ressK, resK, wrapR, AV.ids, AV.idsL, retK, retsK, upd, Nat.reduceEqDiff, reduceIte, if_false, if_true, List.nodup_nil, List.nodup_cons, List.not_mem_nil, not_false_eq_true, true_and, and_true, exists_eq_left', Option.some.injEq, rLoad, cellOf, tab, Ty.isAgg, Ty.one, Bool.false_eq_true]
    exact hQ
  intro xs hxs
  rcases Bool.eq_false_or_eq_true (validB xs) with hv | hv
  · have h8 := valid_len hv
    have hrl := riseTo_len xs xs.length
    have h1 := decide_eq_true (falls_runs (xs := xs))
    have h2 := decide_eq_true (fall_rem (xs := xs))
    have h3 := fall_pos (xs := xs)

    repeat' (first | refine awp_seq_k fun K hK => ?_ | ((with_reducible refine hK _ ?_); clear hK K) | (clear hK K; (with_reducible refine hK _ ?_); clear hK K) | (clear hK K; clear hK K; (with_reducible refine hK _ ?_); clear hK K) | (clear hK K; clear hK K; clear hK K; (with_reducible refine hK _ ?_); clear hK K) | (clear hK K; clear hK K; clear hK K; clear hK K; (with_reducible refine hK _ ?_); clear hK K) | (clear hK K; clear hK K; clear hK K; clear hK K; clear hK K; (with_reducible refine hK _ ?_); clear hK K) | ((with_reducible refine aord_plain fun K hK => ?_); simp only [go_sem, Nat.reduceAdd, Nat.reduceMul, Nat.reduceEqDiff, Nat.reduceLT, reduceIte, reduceCtorEq, hv, h1, h2, h3, sq_beq, sq_bne, int_bne, Bool.true_and]) | ((with_reducible apply aord_guard); (focus (simp only [St.ev, St.set, upd, Nat.reduceEqDiff, reduceIte, if_false, if_true]; exact rfl)); all_goals (intro hb; (try simp only [Bool.not_true, Bool.not_false] at hb); first | (cases hb; done) | ((try rw [hb]); (try simp only [Bool.not_eq_true', Bool.not_eq_false', Bool.and_eq_true, decide_eq_true_eq, decide_eq_false_iff_not, beq_iff_eq, bne_iff_ne, beq_eq_false_iff_ne, bne_eq_false_iff_eq, Int.not_lt, Int.not_le] at hb); (try (revert hb; with_reducible refine true_imp_iff.2 ?_)); first | (intro K hK; simp only [go_sem, Nat.reduceAdd, Nat.reduceMul, Nat.reduceEqDiff, Nat.reduceLT, reduceIte, reduceCtorEq]) | (simp only [St.ev, St.set, upd, Nat.reduceEqDiff, reduceIte, if_false, if_true]) | skip))) | ((with_reducible apply aord_skip); (focus (simp only [St.ev, St.set, upd, Nat.reduceEqDiff, reduceIte, if_false, if_true]; done)); (simp only [St.ev, St.set, upd, Nat.reduceEqDiff, reduceIte, if_false, if_true])) | refine awp_block ?_ | ((first | with_reducible refine aord_nil ?_ | refine awp_skip ?_ | refine awp_exit ?_ | refine awp_ret ?_); try simp only [thenA_normal, thenA_exit, thenA_goto, thenA_ret, blockA_normal, blockA_same, blockA_exit, blockA_goto, blockA_ret, Nat.reduceEqDiff, if_false, if_true, reduceIte]) | (refine awp_region tabOk rfl ?_; simp only [prep, pickO, List.map_cons, List.map_nil, List.getElem?_toArray, List.getElem?_cons_succ, List.getElem?_cons_zero, Option.bind_some, Option.map_some]) | ((with_reducible apply awp_cond); (focus (simp only [St.ev, St.set, upd, Nat.reduceEqDiff, reduceIte, if_false, if_true]; exact rfl)); all_goals (intro hb; first | (cases hb; done) | ((try rw [hb]); (try simp only [decide_eq_true_eq, decide_eq_false_iff_not, beq_iff_eq, bne_iff_ne, beq_eq_false_iff_ne, bne_eq_false_iff_eq, Int.not_lt, Int.not_le, Bool.not_eq_true', Bool.not_eq_false'] at hb)))) | ((with_reducible refine And.intro ?_ ?_); (focus omega)) | ((with_reducible refine And.intro ?_ ?_); (focus (exact rfl))) | ((with_reducible refine And.intro (?_ : enters Try.prog 33) ?_); (focus exact Try.call33); (refine callX_sat drawLongestFall_sat ?_); simp only [go_sem, and_assoc, List.nil_append, List.append_nil, List.cons_append, Nat.reduceEqDiff, reduceIte, reduceCtorEq, hv, h1, h2, h3, sq_beq, sq_bne, int_bne, Bool.true_and]) | ((with_reducible refine And.intro (?_ : enters Try.prog 34) ?_); (focus exact Try.call34); (refine callX_sat implLongestFall_sat ?_); simp only [go_sem, and_assoc, List.nil_append, List.append_nil, List.cons_append, Nat.reduceEqDiff, reduceIte, reduceCtorEq, hv, h1, h2, h3, sq_beq, sq_bne, int_bne, Bool.true_and]) | ((with_reducible refine And.intro (?_ : enters Try.prog 35) ?_); (focus exact Try.call35); (refine callX_sat specLongestFall_sat ?_); simp only [go_sem, and_assoc, List.nil_append, List.append_nil, List.cons_append, Nat.reduceEqDiff, reduceIte, reduceCtorEq, hv, h1, h2, h3, sq_beq, sq_bne, int_bne, Bool.true_and]) | ((with_reducible refine And.intro (?_ : enters Try.prog 16) ?_); (focus exact Try.call16); (refine callX_sat implValidKeys_sat ?_); simp only [go_sem, and_assoc, List.nil_append, List.append_nil, List.cons_append, Nat.reduceEqDiff, reduceIte, reduceCtorEq, hv, h1, h2, h3, sq_beq, sq_bne, int_bne, Bool.true_and]) | ((with_reducible refine And.intro (?_ : enters Try.prog 36) ?_); (focus exact Try.call36); (refine callX_sat implRunsOf_sat ?_); simp only [go_sem, and_assoc, List.nil_append, List.append_nil, List.cons_append, Nat.reduceEqDiff, reduceIte, reduceCtorEq, hv, h1, h2, h3, sq_beq, sq_bne, int_bne, Bool.true_and]) | ((with_reducible refine And.intro (?_ : enters Try.prog 19) ?_); (focus exact Try.call19); (refine callX_sat implRemovalsOf_sat ?_); simp only [go_sem, and_assoc, List.nil_append, List.append_nil, List.cons_append, Nat.reduceEqDiff, reduceIte, reduceCtorEq, hv, h1, h2, h3, sq_beq, sq_bne, int_bne, Bool.true_and]) | (with_reducible refine And.intro (fun hb => ?_) (fun hb => ?_)) | (exfalso; omega) | fail)
    simp only [St.set, St.ev, doneQ, doneH, ressK, resK, wrapR, AV.ids, AV.idsL, retK, retsK, upd, Nat.reduceEqDiff, reduceIte, if_false, if_true, List.nodup_nil, List.nodup_cons, List.not_mem_nil, not_false_eq_true, true_and, and_true, exists_eq_left', Option.some.injEq, rLoad, cellOf, tab, Ty.isAgg, Ty.one, Bool.false_eq_true]
    exact hQ
  · skip

    repeat' (first | refine awp_seq_k fun K hK => ?_ | ((with_reducible refine hK _ ?_); clear hK K) | (clear hK K; (with_reducible refine hK _ ?_); clear hK K) | (clear hK K; clear hK K; (with_reducible refine hK _ ?_); clear hK K) | (clear hK K; clear hK K; clear hK K; (with_reducible refine hK _ ?_); clear hK K) | (clear hK K; clear hK K; clear hK K; clear hK K; (with_reducible refine hK _ ?_); clear hK K) | (clear hK K; clear hK K; clear hK K; clear hK K; clear hK K; (with_reducible refine hK _ ?_); clear hK K) | ((with_reducible refine aord_plain fun K hK => ?_); simp only [go_sem, Nat.reduceAdd, Nat.reduceMul, Nat.reduceEqDiff, Nat.reduceLT, reduceIte, reduceCtorEq, hv, sq_beq, sq_bne, int_bne, dec_self]) | ((with_reducible apply aord_guard); (focus (simp only [St.ev, St.set, upd, Nat.reduceEqDiff, reduceIte, if_false, if_true]; exact rfl)); all_goals (intro hb; (try simp only [Bool.not_true, Bool.not_false] at hb); first | (cases hb; done) | ((try rw [hb]); (try simp only [Bool.not_eq_true', Bool.not_eq_false', Bool.and_eq_true, decide_eq_true_eq, decide_eq_false_iff_not, beq_iff_eq, bne_iff_ne, beq_eq_false_iff_ne, bne_eq_false_iff_eq, Int.not_lt, Int.not_le] at hb); (try (revert hb; with_reducible refine true_imp_iff.2 ?_)); first | (intro K hK; simp only [go_sem, Nat.reduceAdd, Nat.reduceMul, Nat.reduceEqDiff, Nat.reduceLT, reduceIte, reduceCtorEq]) | (simp only [St.ev, St.set, upd, Nat.reduceEqDiff, reduceIte, if_false, if_true]) | skip))) | ((with_reducible apply aord_skip); (focus (simp only [St.ev, St.set, upd, Nat.reduceEqDiff, reduceIte, if_false, if_true]; done)); (simp only [St.ev, St.set, upd, Nat.reduceEqDiff, reduceIte, if_false, if_true])) | refine awp_block ?_ | ((first | with_reducible refine aord_nil ?_ | refine awp_skip ?_ | refine awp_exit ?_ | refine awp_ret ?_); try simp only [thenA_normal, thenA_exit, thenA_goto, thenA_ret, blockA_normal, blockA_same, blockA_exit, blockA_goto, blockA_ret, Nat.reduceEqDiff, if_false, if_true, reduceIte]) | (refine awp_region tabOk rfl ?_; simp only [prep, pickO, List.map_cons, List.map_nil, List.getElem?_toArray, List.getElem?_cons_succ, List.getElem?_cons_zero, Option.bind_some, Option.map_some]) | ((with_reducible apply awp_cond); (focus (simp only [St.ev, St.set, upd, Nat.reduceEqDiff, reduceIte, if_false, if_true]; exact rfl)); all_goals (intro hb; first | (cases hb; done) | ((try rw [hb]); (try simp only [decide_eq_true_eq, decide_eq_false_iff_not, beq_iff_eq, bne_iff_ne, beq_eq_false_iff_ne, bne_eq_false_iff_eq, Int.not_lt, Int.not_le, Bool.not_eq_true', Bool.not_eq_false'] at hb)))) | ((with_reducible refine And.intro ?_ ?_); (focus omega)) | ((with_reducible refine And.intro ?_ ?_); (focus (exact rfl))) | ((with_reducible refine And.intro (?_ : enters Try.prog 33) ?_); (focus exact Try.call33); (refine callX_sat drawLongestFall_sat ?_); simp only [go_sem, and_assoc, List.nil_append, List.append_nil, List.cons_append, Nat.reduceEqDiff, reduceIte, reduceCtorEq, hv, sq_beq, sq_bne, int_bne, dec_self]) | ((with_reducible refine And.intro (?_ : enters Try.prog 34) ?_); (focus exact Try.call34); (refine callX_sat implLongestFall_sat ?_); simp only [go_sem, and_assoc, List.nil_append, List.append_nil, List.cons_append, Nat.reduceEqDiff, reduceIte, reduceCtorEq, hv, sq_beq, sq_bne, int_bne, dec_self]) | ((with_reducible refine And.intro (?_ : enters Try.prog 35) ?_); (focus exact Try.call35); (refine callX_sat specLongestFall_sat ?_); simp only [go_sem, and_assoc, List.nil_append, List.append_nil, List.cons_append, Nat.reduceEqDiff, reduceIte, reduceCtorEq, hv, sq_beq, sq_bne, int_bne, dec_self]) | ((with_reducible refine And.intro (?_ : enters Try.prog 16) ?_); (focus exact Try.call16); (refine callX_sat implValidKeys_sat ?_); simp only [go_sem, and_assoc, List.nil_append, List.append_nil, List.cons_append, Nat.reduceEqDiff, reduceIte, reduceCtorEq, hv, sq_beq, sq_bne, int_bne, dec_self]) | ((with_reducible refine And.intro (?_ : enters Try.prog 36) ?_); (focus exact Try.call36); (refine callX_sat implRunsOf_sat ?_); simp only [go_sem, and_assoc, List.nil_append, List.append_nil, List.cons_append, Nat.reduceEqDiff, reduceIte, reduceCtorEq, hv, sq_beq, sq_bne, int_bne, dec_self]) | ((with_reducible refine And.intro (?_ : enters Try.prog 19) ?_); (focus exact Try.call19); (refine callX_sat implRemovalsOf_sat ?_); simp only [go_sem, and_assoc, List.nil_append, List.append_nil, List.cons_append, Nat.reduceEqDiff, reduceIte, reduceCtorEq, hv, sq_beq, sq_bne, int_bne, dec_self]) | (with_reducible refine And.intro (fun hb => ?_) (fun hb => ?_)) | (exfalso; omega) | fail)
    simp only [St.set, St.ev, doneQ, doneH, ressK, resK, wrapR, AV.ids, AV.idsL, retK, retsK, upd, Nat.reduceEqDiff, reduceIte, if_false, if_true, List.nodup_nil, List.nodup_cons, List.not_mem_nil, not_false_eq_true, true_and, and_true, exists_eq_left', Option.some.injEq, rLoad, cellOf, tab, Ty.isAgg, Ty.one, Bool.false_eq_true]
    exact hQ


theorem FnBreaksOf_sat : Sat Try.prog 10 (fun ds Q => ∃ bs, ds = [.row (.ints .u8 bs)] ∧ bs.length ≤ 9223372036854775807 ∧ bytesOk bs ∧ Q (.val (.bool true))) := by
  refine sat_intro tabOk Try.func10 rfl 44 rfl [.tmp 2] rfl ?_
  rintro ds Q W ⟨bs, rfl, hlen, hbs, hQ⟩
  refine ⟨Nat.le_of_ble_eq_true rfl, ?_⟩
  simp only [initS, initT, mat.matL, mat, Cont.len]
  repeat' (first | refine awp_seq_k fun K hK => ?_ | ((with_reducible refine hK _ ?_); clear hK K) | (clear hK K; (with_reducible refine hK _ ?_); clear hK K) | (clear hK K; clear hK K; (with_reducible refine hK _ ?_); clear hK K) | (clear hK K; clear hK K; clear hK K; (with_reducible refine hK _ ?_); clear hK K) | (clear hK K; clear hK K; clear hK K; clear hK K; (with_reducible refine hK _ ?_); clear hK K) | (clear hK K; clear hK K; clear hK K; clear hK K; clear hK K; (with_reducible refine hK _ ?_); clear hK K) | ((with_reducible refine aord_plain fun K hK => ?_); simp only [go_sem, Nat.reduceAdd, Nat.reduceMul, Nat.reduceEqDiff, Nat.reduceLT, reduceIte, reduceCtorEq]) | ((with_reducible apply aord_guard); (focus (simp only [St.ev, St.set, upd, Nat.reduceEqDiff, reduceIte, if_false, if_true]; exact rfl)); all_goals (intro hb; (try simp only [Bool.not_true, Bool.not_false] at hb); first | (cases hb; done) | ((try rw [hb]); (try simp only [Bool.not_eq_true', Bool.not_eq_false', Bool.and_eq_true, decide_eq_true_eq, decide_eq_false_iff_not, beq_iff_eq, bne_iff_ne, beq_eq_false_iff_ne, bne_eq_false_iff_eq, Int.not_lt, Int.not_le] at hb); (try (revert hb; with_reducible refine true_imp_iff.2 ?_)); first | (intro K hK; simp only [go_sem, Nat.reduceAdd, Nat.reduceMul, Nat.reduceEqDiff, Nat.reduceLT, reduceIte, reduceCtorEq]) | (simp only [St.ev, St.set, upd, Nat.reduceEqDiff, reduceIte, if_false, if_true]) | skip))) | ((with_reducible apply aord_skip); (focus (simp only [St.ev, St.set, upd, Nat.reduceEqDiff, reduceIte, if_false, if_true]; done)); (simp only [St.ev, St.set, upd, Nat.reduceEqDiff, reduceIte, if_false, if_true])) | refine awp_block ?_ | ((first | with_reducible refine aord_nil ?_ | refine awp_skip ?_ | refine awp_exit ?_ | refine awp_ret ?_); try simp only [thenA_normal, thenA_exit, thenA_goto, thenA_ret, blockA_normal, blockA_same, blockA_exit, blockA_goto, blockA_ret, Nat.reduceEqDiff, if_false, if_true, reduceIte]) | (refine awp_region tabOk rfl ?_; simp only [prep, pickO, List.map_cons, List.map_nil, List.getElem?_toArray, List.getElem?_cons_succ, List.getElem?_cons_zero, Option.bind_some, Option.map_some]) | ((with_reducible apply awp_cond); (focus (simp only [St.ev, St.set, upd, Nat.reduceEqDiff, reduceIte, if_false, if_true]; exact rfl)); all_goals (intro hb; first | (cases hb; done) | ((try rw [hb]); (try simp only [decide_eq_true_eq, decide_eq_false_iff_not, beq_iff_eq, bne_iff_ne, beq_eq_false_iff_ne, bne_eq_false_iff_eq, Int.not_lt, Int.not_le, Bool.not_eq_true', Bool.not_eq_false'] at hb)))) | ((with_reducible refine And.intro ?_ ?_); (focus omega)) | ((with_reducible refine And.intro ?_ ?_); (focus (exact rfl))) | ((with_reducible refine And.intro (?_ : enters Try.prog 41) ?_); (focus exact Try.call41); (refine callX_sat drawBreaksOf_sat ?_); simp only [go_sem, and_assoc, List.nil_append, List.append_nil, List.cons_append, Nat.reduceEqDiff, reduceIte, reduceCtorEq]) | ((with_reducible refine And.intro (?_ : enters Try.prog 42) ?_); (focus exact Try.call42); (refine callX_sat implBreaksOf_sat ?_); simp only [go_sem, and_assoc, List.nil_append, List.append_nil, List.cons_append, Nat.reduceEqDiff, reduceIte, reduceCtorEq]) | ((with_reducible refine And.intro (?_ : enters Try.prog 43) ?_); (focus exact Try.call43); (refine callX_sat specBreaksOf_sat ?_); simp only [go_sem, and_assoc, List.nil_append, List.append_nil, List.cons_append, Nat.reduceEqDiff, reduceIte, reduceCtorEq]) | ((with_reducible refine And.intro (?_ : enters Try.prog 16) ?_); (focus exact Try.call16); (refine callX_sat implValidKeys_sat ?_); simp only [go_sem, and_assoc, List.nil_append, List.append_nil, List.cons_append, Nat.reduceEqDiff, reduceIte, reduceCtorEq]) | ((with_reducible refine And.intro (?_ : enters Try.prog 19) ?_); (focus exact Try.call19); (refine callX_sat implRemovalsOf_sat ?_); simp only [go_sem, and_assoc, List.nil_append, List.append_nil, List.cons_append, Nat.reduceEqDiff, reduceIte, reduceCtorEq]) | ((with_reducible refine And.intro (?_ : enters Try.prog 18) ?_); (focus exact Try.call18); (refine callX_sat implIsSorted_sat ?_); simp only [go_sem, and_assoc, List.nil_append, List.append_nil, List.cons_append, Nat.reduceEqDiff, reduceIte, reduceCtorEq]) | (with_reducible refine And.intro (fun hb => ?_) (fun hb => ?_)) | (exfalso; omega) | fail)
  · simp only [St.set, St.ev, doneQ, doneH, ressK, resK, wrapR, AV.ids, AV.idsL, retK, retsK, upd, Nat.reduceEqDiff, reduceIte, if_false, if_true, List.nodup_nil, List.nodup_cons, List.not_mem_nil, not_false_eq_true, true_and, and_true, exists_eq_left', Option.some.injEq, rLoad, cellOf, tab, Ty.isAgg, Ty.one, Bool.false_eq_true]
    exact hQ
  intro xs hxs
  rcases Bool.eq_false_or_eq_true (validB xs) with hv | hv
  · have h8 := valid_len hv
    have hrl := riseTo_len xs xs.length
    have h1 := decide_eq_true (brk_rem (xs := xs))
    have h2 : decide (brkN (brkL xs) (xs.length + 1) ≤ (xs.length : Int) + 1) = true := decide_eq_true (by have := (brkN_in (brkL xs) (xs.length + 1)).2; omega)
    have h3 := brk_srt xs

    repeat' (first | refine awp_seq_k fun K hK => ?_ | ((with_reducible refine hK _ ?_); clear hK K) | (clear hK K; (with_reducible refine hK _ ?_); clear hK K) | (clear hK K; clear hK K; (with_reducible refine hK _ ?_); clear hK K) | (clear hK K; clear hK K; clear hK K; (with_reducible refine hK _ ?_); clear hK K) | (clear hK K; clear hK K; clear hK K; clear hK K; (with_reducible refine hK _ ?_); clear hK K) | (clear hK K; clear hK K; clear hK K; clear hK K; clear hK K; (with_reducible refine hK _ ?_); clear hK K) | ((with_reducible refine aord_plain fun K hK => ?_); simp only [go_sem, Nat.reduceAdd, Nat.reduceMul, Nat.reduceEqDiff, Nat.reduceLT, reduceIte, reduceCtorEq, hv, h1, h2, h3, sq_beq, sq_bne, int_bne, Bool.true_and]) | ((with_reducible apply aord_guard); (focus (simp only [St.ev, St.set, upd, Nat.reduceEqDiff, reduceIte, if_false, if_true]; exact rfl)); all_goals (intro hb; (try simp only [Bool.not_true, Bool.not_false] at hb); first | (cases hb; done) | ((try rw [hb]); (try simp only [Bool.not_eq_true', Bool.not_eq_false', Bool.and_eq_true, decide_eq_true_eq, decide_eq_false_iff_not, beq_iff_eq, bne_iff_ne, beq_eq_false_iff_ne, bne_eq_false_iff_eq, Int.not_lt, Int.not_le] at hb); (try (revert hb; with_reducible refine true_imp_iff.2 ?_)); first | (intro K hK; simp only [go_sem, Nat.reduceAdd, Nat.reduceMul, Nat.reduceEqDiff, Nat.reduceLT, reduceIte, reduceCtorEq]) | (simp only [St.ev, St.set, upd, Nat.reduceEqDiff, reduceIte, if_false, if_true]) | skip))) | ((with_reducible apply aord_skip); (focus (simp only [St.ev, St.set, upd, Nat.reduceEqDiff, reduceIte, if_false, if_true]; done)); (simp only [St.ev, St.set, upd, Nat.reduceEqDiff, reduceIte, if_false, if_true])) | refine awp_block ?_ | ((first | with_reducible refine aord_nil ?_ | refine awp_skip ?_ | refine awp_exit ?_ | refine awp_ret ?_); try simp only [thenA_normal, thenA_exit, thenA_goto, thenA_ret, blockA_normal, blockA_same, blockA_exit, blockA_goto, blockA_ret, Nat.reduceEqDiff, if_false, if_true, reduceIte]) | (refine awp_region tabOk rfl ?_; simp only [prep, pickO, List.map_cons, List.map_nil, List.getElem?_toArray, List.getElem?_cons_succ, List.getElem?_cons_zero, Option.bind_some, Option.map_some]) | ((with_reducible apply awp_cond); (focus (simp only [St.ev, St.set, upd, Nat.reduceEqDiff, reduceIte, if_false, if_true]; exact rfl)); all_goals (intro hb; first | (cases hb; done) | ((try rw [hb]); (try simp only [decide_eq_true_eq, decide_eq_false_iff_not, beq_iff_eq, bne_iff_ne, beq_eq_false_iff_ne, bne_eq_false_iff_eq, Int.not_lt, Int.not_le, Bool.not_eq_true', Bool.not_eq_false'] at hb)))) | ((with_reducible refine And.intro ?_ ?_); (focus omega)) | ((with_reducible refine And.intro ?_ ?_); (focus (exact rfl))) | ((with_reducible refine And.intro (?_ : enters Try.prog 41) ?_); (focus exact Try.call41); (refine callX_sat drawBreaksOf_sat ?_); simp only [go_sem, and_assoc, List.nil_append, List.append_nil, List.cons_append, Nat.reduceEqDiff, reduceIte, reduceCtorEq, hv, h1, h2, h3, sq_beq, sq_bne, int_bne, Bool.true_and]) | ((with_reducible refine And.intro (?_ : enters Try.prog 42) ?_); (focus exact Try.call42); (refine callX_sat implBreaksOf_sat ?_); simp only [go_sem, and_assoc, List.nil_append, List.append_nil, List.cons_append, Nat.reduceEqDiff, reduceIte, reduceCtorEq, hv, h1, h2, h3, sq_beq, sq_bne, int_bne, Bool.true_and]) | ((with_reducible refine And.intro (?_ : enters Try.prog 43) ?_); (focus exact Try.call43); (refine callX_sat specBreaksOf_sat ?_); simp only [go_sem, and_assoc, List.nil_append, List.append_nil, List.cons_append, Nat.reduceEqDiff, reduceIte, reduceCtorEq, hv, h1, h2, h3, sq_beq, sq_bne, int_bne, Bool.true_and]) | ((with_reducible refine And.intro (?_ : enters Try.prog 16) ?_); (focus exact Try.call16); (refine callX_sat implValidKeys_sat ?_); simp only [go_sem, and_assoc, List.nil_append, List.append_nil, List.cons_append, Nat.reduceEqDiff, reduceIte, reduceCtorEq, hv, h1, h2, h3, sq_beq, sq_bne, int_bne, Bool.true_and]) | ((with_reducible refine And.intro (?_ : enters Try.prog 19) ?_); (focus exact Try.call19); (refine callX_sat implRemovalsOf_sat ?_); simp only [go_sem, and_assoc, List.nil_append, List.append_nil, List.cons_append, Nat.reduceEqDiff, reduceIte, reduceCtorEq, hv, h1, h2, h3, sq_beq, sq_bne, int_bne, Bool.true_and]) | ((with_reducible refine And.intro (?_ : enters Try.prog 18) ?_); (focus exact Try.call18); (refine callX_sat implIsSorted_sat ?_); simp only [go_sem, and_assoc, List.nil_append, List.append_nil, List.cons_append, Nat.reduceEqDiff, reduceIte, reduceCtorEq, hv, h1, h2, h3, sq_beq, sq_bne, int_bne, Bool.true_and]) | (with_reducible refine And.intro (fun hb => ?_) (fun hb => ?_)) | (exfalso; omega) | fail)
    simp only [St.set, St.ev, doneQ, doneH, ressK, resK, wrapR, AV.ids, AV.idsL, retK, retsK, upd, Nat.reduceEqDiff, reduceIte, if_false, if_true, List.nodup_nil, List.nodup_cons, List.not_mem_nil, not_false_eq_true, true_and, and_true, exists_eq_left', Option.some.injEq, rLoad, cellOf, tab, Ty.isAgg, Ty.one, Bool.false_eq_true]
    exact hQ
  · skip

    repeat' (first | refine awp_seq_k fun K hK => ?_ | ((with_reducible refine hK _ ?_); clear hK K) | (clear hK K; (with_reducible refine hK _ ?_); clear hK K) | (clear hK K; clear hK K; (with_reducible refine hK _ ?_); clear hK K) | (clear hK K; clear hK K; clear hK K; (with_reducible refine hK _ ?_); clear hK K) | (clear hK K; clear hK K; clear hK K; clear hK K; (with_reducible refine hK _ ?_); clear hK K) | (clear hK K; clear hK K; clear hK K; clear hK K; clear hK K; (with_reducible refine hK _ ?_); clear hK K) | ((with_reducible refine aord_plain fun K hK => ?_); simp only [go_sem, Nat.reduceAdd, Nat.reduceMul, Nat.reduceEqDiff, Nat.reduceLT, reduceIte, reduceCtorEq, hv, sq_beq, sq_bne, int_bne, dec_self]) | ((with_reducible apply aord_guard); (focus (simp only [St.ev, St.set, upd, Nat.reduceEqDiff, reduceIte, if_false, if_true]; exact rfl)); all_goals (intro hb; (try simp only [Bool.not_true, Bool.not_false] at hb); first | (cases hb; done) | ((try rw [hb]); (try simp only [Bool.not_eq_true', Bool.not_eq_false', Bool.and_eq_true, decide_eq_true_eq, decide_eq_false_iff_not, beq_iff_eq, bne_iff_ne, beq_eq_false_iff_ne, bne_eq_false_iff_eq, Int.not_lt, Int.not_le] at hb); (try (revert hb; with_reducible refine true_imp_iff.2 ?_)); first | (intro K hK; simp only [go_sem, Nat.reduceAdd, Nat.reduceMul, Nat.reduceEqDiff, Nat.reduceLT, reduceIte, reduceCtorEq]) | (simp only [St.ev, St.set, upd, Nat.reduceEqDiff, reduceIte, if_false, if_true]) | skip))) | ((with_reducible apply aord_skip); (focus (simp only [St.ev, St.set, upd, Nat.reduceEqDiff, reduceIte, if_false, if_true]; done)); (simp only [St.ev, St.set, upd, Nat.reduceEqDiff, reduceIte, if_false, if_true])) | refine awp_block ?_ | ((first | with_reducible refine aord_nil ?_ | refine awp_skip ?_ | refine awp_exit ?_ | refine awp_ret ?_); try simp only [thenA_normal, thenA_exit, thenA_goto, thenA_ret, blockA_normal, blockA_same, blockA_exit, blockA_goto, blockA_ret, Nat.reduceEqDiff, if_false, if_true, reduceIte]) | (refine awp_region tabOk rfl ?_; simp only [prep, pickO, List.map_cons, List.map_nil, List.getElem?_toArray, List.getElem?_cons_succ, List.getElem?_cons_zero, Option.bind_some, Option.map_some]) | ((with_reducible apply awp_cond); (focus (simp only [St.ev, St.set, upd, Nat.reduceEqDiff, reduceIte, if_false, if_true]; exact rfl)); all_goals (intro hb; first | (cases hb; done) | ((try rw [hb]); (try simp only [decide_eq_true_eq, decide_eq_false_iff_not, beq_iff_eq, bne_iff_ne, beq_eq_false_iff_ne, bne_eq_false_iff_eq, Int.not_lt, Int.not_le, Bool.not_eq_true', Bool.not_eq_false'] at hb)))) | ((with_reducible refine And.intro ?_ ?_); (focus omega)) | ((with_reducible refine And.intro ?_ ?_); (focus (exact rfl))) | ((with_reducible refine And.intro (?_ : enters Try.prog 41) ?_); (focus exact Try.call41); (refine callX_sat drawBreaksOf_sat ?_); simp only [go_sem, and_assoc, List.nil_append, List.append_nil, List.cons_append, Nat.reduceEqDiff, reduceIte, reduceCtorEq, hv, sq_beq, sq_bne, int_bne, dec_self]) | ((with_reducible refine And.intro (?_ : enters Try.prog 42) ?_); (focus exact Try.call42); (refine callX_sat implBreaksOf_sat ?_); simp only [go_sem, and_assoc, List.nil_append, List.append_nil, List.cons_append, Nat.reduceEqDiff, reduceIte, reduceCtorEq, hv, sq_beq, sq_bne, int_bne, dec_self]) | ((with_reducible refine And.intro (?_ : enters Try.prog 43) ?_); (focus exact Try.call43); (refine callX_sat specBreaksOf_sat ?_); simp only [go_sem, and_assoc, List.nil_append, List.append_nil, List.cons_append, Nat.reduceEqDiff, reduceIte, reduceCtorEq, hv, sq_beq, sq_bne, int_bne, dec_self]) | ((with_reducible refine And.intro (?_ : enters Try.prog 16) ?_); (focus exact Try.call16); (refine callX_sat implValidKeys_sat ?_); simp only [go_sem, and_assoc, List.nil_append, List.append_nil, List.cons_append, Nat.reduceEqDiff, reduceIte, reduceCtorEq, hv, sq_beq, sq_bne, int_bne, dec_self]) | ((with_reducible refine And.intro (?_ : enters Try.prog 19) ?_); (focus exact Try.call19); (refine callX_sat implRemovalsOf_sat ?_); simp only [go_sem, and_assoc, List.nil_append, List.append_nil, List.cons_append, Nat.reduceEqDiff, reduceIte, reduceCtorEq, hv, sq_beq, sq_bne, int_bne, dec_self]) | ((with_reducible refine And.intro (?_ : enters Try.prog 18) ?_); (focus exact Try.call18); (refine callX_sat implIsSorted_sat ?_); simp only [go_sem, and_assoc, List.nil_append, List.append_nil, List.cons_append, Nat.reduceEqDiff, reduceIte, reduceCtorEq, hv, sq_beq, sq_bne, int_bne, dec_self]) | (with_reducible refine And.intro (fun hb => ?_) (fun hb => ?_)) | (exfalso; omega) | fail)
    simp only [St.set, St.ev, doneQ, doneH, ressK, resK, wrapR, AV.ids, AV.idsL, retK, retsK, upd, Nat.reduceEqDiff, reduceIte, if_false, if_true, List.nodup_nil, List.nodup_cons, List.not_mem_nil, not_false_eq_true, true_and, and_true, exists_eq_left', Option.some.injEq, rLoad, cellOf, tab, Ty.isAgg, Ty.one, Bool.false_eq_true]
    exact hQ


theorem rev_take {l : List Int} {j : Nat} (h : j < l.length) : l.take (j + 1) = l.take j ++ [l.getD j 0] := by
  rw [List.take_succ_eq_append_getElem h, List.getD_eq_getElem?_getD, List.getElem?_eq_getElem h]; rfl
theorem valid_rev {xs : List Int} (h : validB xs = true) : validB xs.reverse = true :=
  valid_all (by rw [List.length_reverse]; exact valid_len h) fun j hj => by
    rw [List.length_reverse] at hj
    rw [rev_getD hj]; exact valid_in h _


/-- The keys at some indices. -/
def atL (xs l : List Int) : List Int := l.map fun n => xs.getD n.toNat 0
theorem atL_get {xs l : List Int} {j : Nat} (h : j < l.length) : (atL xs l).getD j 0 = xs.getD (l.getD j 0).toNat 0 := by
  unfold atL; simp [List.getD_eq_getElem?_getD, List.getElem?_eq_getElem h]
theorem atL_len (xs l : List Int) : (atL xs l).length = l.length := by simp [atL]


theorem ascends_sat : Sat Try.prog 17 (fun ds Q => ∃ (xs : List Int), ds = [.row (.ints .i64 (xs))] ∧ (xs.length ≤ 1000) ∧ (∀ j, j + 1 < xs.length → xs.getD j 0 < xs.getD (j + 1) 0) ∧ Q (.val (.bool (true)))) := by
  refine sat_intro tabOk Try.func17 rfl 20 rfl [.tmp 2] rfl ?_
  rintro ds Q W ⟨xs, rfl, hl, ha, hQ⟩
  refine ⟨Nat.le_of_ble_eq_true rfl, ?_⟩
  simp only [initS, initT, mat.matL, mat, Cont.len]
  repeat' (first | refine awp_seq_k fun K hK => ?_ | ((with_reducible refine hK _ ?_); clear hK K) | (clear hK K; (with_reducible refine hK _ ?_); clear hK K) | (clear hK K; clear hK K; (with_reducible refine hK _ ?_); clear hK K) | (clear hK K; clear hK K; clear hK K; (with_reducible refine hK _ ?_); clear hK K) | (clear hK K; clear hK K; clear hK K; clear hK K; (with_reducible refine hK _ ?_); clear hK K) | (clear hK K; clear hK K; clear hK K; clear hK K; clear hK K; (with_reducible refine hK _ ?_); clear hK K) | ((with_reducible refine aord_plain fun K hK => ?_); simp only [go_sem, Nat.reduceAdd, Nat.reduceMul, Nat.reduceEqDiff, Nat.reduceLT, reduceIte, reduceCtorEq]) | refine awp_block ?_ | ((first | with_reducible refine aord_nil ?_ | refine awp_skip ?_ | refine awp_exit ?_ | refine awp_ret ?_); try simp only [thenA_normal, thenA_exit, thenA_goto, thenA_ret, blockA_normal, blockA_same, blockA_exit, blockA_goto, blockA_ret, Nat.reduceEqDiff, if_false, if_true, reduceIte]) | (refine awp_region tabOk rfl ?_; simp only [prep, pickO, List.map_cons, List.map_nil, List.getElem?_toArray, List.getElem?_cons_succ, List.getElem?_cons_zero, Option.bind_some, Option.map_some]) | (refine awp_region_draw (nt := 20) (id := 4) tabOk [(0, true, false), (1, true, false), (2, true, false), (3, true, false), (4, true, false), (5, true, false), (6, true, false), (7, true, false), (8, true, false), (9, true, false)] (by kernel_rfl) rfl (by kernel_rfl) ?_; simp only [prep, pickO, List.map_cons, List.map_nil, List.getElem?_toArray, List.getElem?_cons_succ, List.getElem?_cons_zero, Option.bind_some, Option.map_some]) | ((with_reducible apply awp_cond); (focus (simp only [St.ev, St.set, upd, Nat.reduceEqDiff, reduceIte, if_false, if_true]; exact rfl)); all_goals (intro hb; first | (cases hb; done) | ((try rw [hb]); (try simp only [decide_eq_true_eq, decide_eq_false_iff_not, beq_iff_eq, bne_iff_ne, beq_eq_false_iff_ne, bne_eq_false_iff_eq, Int.not_lt, Int.not_le, Bool.not_eq_true', Bool.not_eq_false'] at hb)))) | ((with_reducible refine And.intro ?_ ?_); (focus omega)) | ((with_reducible refine And.intro ?_ ?_); (focus (exact rfl))) | (with_reducible refine And.intro (fun hb => ?_) (fun hb => ?_)) | (exfalso; omega) | fail)
  refine awp_loopE (α := Nat) (fun s p => ⟨(upd (upd bot 0 (s.tmps 0)) 3 (.val (.int .i64 (((p : Int) + 1))))), s.heap, s.next⟩) _ (fun p => by simp only [St.ev, St.set, upd, Nat.reduceEqDiff, reduceIte, if_false, if_true]; exact rfl) (fun p => (p ≤ xs.length)) (fun p => xs.length - p) (0) ?_ ?_ ?_
  · (try simp only); (refine ?_ <;> (first | omega | (simp only; omega) | rfl | (simp; done) | skip))
  · (apply Wk.same; (case' h2 => (focus ((repeat' (with_reducible first | exact HeapX.bot | (apply HeapX.skip; (case hx => (simp; done))) | apply HeapX.none | apply HeapX.upd)); all_goals (first | rfl | exact Nat.le_of_ble_eq_true rfl | (simp only [St.set, St.ev, upd, ren, renL, id, Nat.reduceEqDiff, reduceIte, ContLe]; done) | (first | (simp only [St.set, St.ev, upd, ren, renL, id, Nat.reduceEqDiff, reduceIte]; exact contLe_nil) | ((repeat' (first | exact contLe_nil | refine contLe_cons (.inr ⟨?_, rfl⟩) ?_)); all_goals (first | rfl | (simp only [St.set, St.ev, upd, ren, renL, id, Nat.reduceEqDiff, reduceIte]; done) | ((try simp only [St.set, St.ev, upd, ren, renL, id, Nat.reduceEqDiff, reduceIte]); first | (with_reducible exact av_int (by omega)) | (with_reducible exact av_sl (by first | omega | (simp; done) | (simp; omega)) (by first | omega | (simp; done) | (simp; omega)))) | (simp only [St.set, St.ev, upd, ren, renL, id, Nat.reduceEqDiff, reduceIte, Int.natCast_add, Int.natCast_one, Int.cast_ofNat_Int, Int.natCast_zero]; done) | (simp only [St.set, St.ev, upd, ren, renL, id, Nat.reduceEqDiff, reduceIte]) | skip); done)) | (simp only [St.set, St.ev, upd, ren, renL, id, Nat.reduceEqDiff, reduceIte, ContLe]) | skip)))); (case' h1 => (focus ((repeat' (with_reducible first | exact TmpLe.bot | refine TmpLe.upd ?_ rfl ?_)); all_goals (first | rfl | (simp only [St.set, St.ev, upd, ren, renL, id, Nat.reduceEqDiff, reduceIte]; done) | ((try simp only [St.set, St.ev, upd, ren, renL, id, Nat.reduceEqDiff, reduceIte]); first | (with_reducible exact av_int (by omega)) | (with_reducible exact av_sl (by first | omega | (simp; done) | (simp; omega)) (by first | omega | (simp; done) | (simp; omega)))) | (simp only [St.set, St.ev, upd, ren, renL, id, Nat.reduceEqDiff, reduceIte, Int.natCast_add, Int.natCast_one, Int.cast_ofNat_Int, Int.natCast_zero]; done) | (simp only [St.set, St.ev, upd, ren, renL, id, Nat.reduceEqDiff, reduceIte]) | skip)))); (case h3 => (focus (first | (simp only [id, List.map_cons, List.map_nil]; decide) | decide))); (case h4 => (intro o l h; first | (cases h; done) | (have hlt0 := m0_lt (by assumption) h; first | omega | (simp only; omega) | exact ⟨by (first | rfl | (simp only [id]; done) | (rw [if_neg (by omega)])), by first | omega | (simp only; omega)⟩))))
  rintro j hj
  try simp only at hj
  have h1 := ha j
  have e1 : ((j : Int) + 1).toNat = j + 1 := by omega
  have e2 : ((j : Int) + 1 - 1).toNat = j := by omega
  have h2 : (j : Int) + 1 < xs.length → xs.getD ((j : Int) + 1 - 1).toNat 0 < xs.getD ((j : Int) + 1).toNat 0 := fun h => by rw [e1, e2]; exact h1 (by omega)
  clear e1 e2
  repeat' (first | refine awp_seq_k fun K hK => ?_ | ((with_reducible refine hK _ ?_); clear hK K) | (clear hK K; (with_reducible refine hK _ ?_); clear hK K) | (clear hK K; clear hK K; (with_reducible refine hK _ ?_); clear hK K) | (clear hK K; clear hK K; clear hK K; (with_reducible refine hK _ ?_); clear hK K) | (clear hK K; clear hK K; clear hK K; clear hK K; (with_reducible refine hK _ ?_); clear hK K) | (clear hK K; clear hK K; clear hK K; clear hK K; clear hK K; (with_reducible refine hK _ ?_); clear hK K) | ((with_reducible refine aord_plain fun K hK => ?_); simp only [go_sem, Nat.reduceAdd, Nat.reduceMul, Nat.reduceEqDiff, Nat.reduceLT, reduceIte, reduceCtorEq]) | refine awp_block ?_ | ((first | with_reducible refine aord_nil ?_ | refine awp_skip ?_ | refine awp_exit ?_ | refine awp_ret ?_); try simp only [thenA_normal, thenA_exit, thenA_goto, thenA_ret, blockA_normal, blockA_same, blockA_exit, blockA_goto, blockA_ret, Nat.reduceEqDiff, if_false, if_true, reduceIte]) | (refine awp_region tabOk rfl ?_; simp only [prep, pickO, List.map_cons, List.map_nil, List.getElem?_toArray, List.getElem?_cons_succ, List.getElem?_cons_zero, Option.bind_some, Option.map_some]) | (refine awp_region_draw (nt := 20) (id := 4) tabOk [(0, true, false), (1, true, false), (2, true, false), (3, true, false), (4, true, false), (5, true, false), (6, true, false), (7, true, false), (8, true, false), (9, true, false)] (by kernel_rfl) rfl (by kernel_rfl) ?_; simp only [prep, pickO, List.map_cons, List.map_nil, List.getElem?_toArray, List.getElem?_cons_succ, List.getElem?_cons_zero, Option.bind_some, Option.map_some]) | ((with_reducible apply awp_cond); (focus (simp only [St.ev, St.set, upd, Nat.reduceEqDiff, reduceIte, if_false, if_true]; exact rfl)); all_goals (intro hb; first | (cases hb; done) | ((try rw [hb]); (try simp only [decide_eq_true_eq, decide_eq_false_iff_not, beq_iff_eq, bne_iff_ne, beq_eq_false_iff_ne, bne_eq_false_iff_eq, Int.not_lt, Int.not_le, Bool.not_eq_true', Bool.not_eq_false'] at hb)))) | ((with_reducible refine And.intro ?_ ?_); (focus omega)) | ((with_reducible refine And.intro ?_ ?_); (focus (exact rfl))) | (with_reducible refine And.intro (fun hb => ?_) (fun hb => ?_)) | (exfalso; omega) | fail)
  · ((refine Exists.intro (j + 1) ?_); (refine nxt ?_ ?_ ?_); (focus (apply Wk.same; (case' h2 => (focus ((repeat' (with_reducible first | exact HeapX.bot | (apply HeapX.skip; (case hx => (simp; done))) | apply HeapX.none | apply HeapX.upd)); all_goals (first | rfl | exact Nat.le_of_ble_eq_true rfl | (simp only [St.set, St.ev, upd, ren, renL, id, Nat.reduceEqDiff, reduceIte, ContLe]; done) | (first | (simp only [St.set, St.ev, upd, ren, renL, id, Nat.reduceEqDiff, reduceIte]; exact contLe_nil) | ((repeat' (first | exact contLe_nil | refine contLe_cons (.inr ⟨?_, rfl⟩) ?_)); all_goals (first | rfl | (simp only [St.set, St.ev, upd, ren, renL, id, Nat.reduceEqDiff, reduceIte]; done) | ((try simp only [St.set, St.ev, upd, ren, renL, id, Nat.reduceEqDiff, reduceIte]); first | (with_reducible exact av_int (by omega)) | (with_reducible exact av_sl (by first | omega | (simp; done) | (simp; omega)) (by first | omega | (simp; done) | (simp; omega)))) | (simp only [St.set, St.ev, upd, ren, renL, id, Nat.reduceEqDiff, reduceIte, Int.natCast_add, Int.natCast_one, Int.cast_ofNat_Int, Int.natCast_zero]; done) | (simp only [St.set, St.ev, upd, ren, renL, id, Nat.reduceEqDiff, reduceIte]) | skip); done)) | (simp only [St.set, St.ev, upd, ren, renL, id, Nat.reduceEqDiff, reduceIte, ContLe]) | skip)))); (case' h1 => (focus ((repeat' (with_reducible first | exact TmpLe.bot | refine TmpLe.upd ?_ rfl ?_)); all_goals (first | rfl | (simp only [St.set, St.ev, upd, ren, renL, id, Nat.reduceEqDiff, reduceIte]; done) | ((try simp only [St.set, St.ev, upd, ren, renL, id, Nat.reduceEqDiff, reduceIte]); first | (with_reducible exact av_int (by omega)) | (with_reducible exact av_sl (by first | omega | (simp; done) | (simp; omega)) (by first | omega | (simp; done) | (simp; omega)))) | (simp only [St.set, St.ev, upd, ren, renL, id, Nat.reduceEqDiff, reduceIte, Int.natCast_add, Int.natCast_one, Int.cast_ofNat_Int, Int.natCast_zero]; done) | (simp only [St.set, St.ev, upd, ren, renL, id, Nat.reduceEqDiff, reduceIte]) | skip)))); (case h3 => (focus (first | (simp only [id, List.map_cons, List.map_nil]; decide) | decide))); (case h4 => (intro o l h; first | (cases h; done) | (have hlt0 := m0_lt (by assumption) h; first | omega | (simp only; omega) | exact ⟨by (first | rfl | (simp only [id]; done) | (rw [if_neg (by omega)])), by first | omega | (simp only; omega)⟩))))); (focus (first | omega | (simp only; omega) | (simp; omega))); ((repeat' (with_reducible apply And.intro)) <;> (first | omega | (simp only; omega) | assumption | rfl | (simp only))))
  · simp only [St.set, St.ev, doneQ, doneH, ressK, resK, wrapR, AV.ids, AV.idsL, retK, retsK, upd, Nat.reduceEqDiff, reduceIte, if_false, if_true, List.nodup_nil, List.nodup_cons, List.not_mem_nil, not_false_eq_true, true_and, and_true, exists_eq_left', Option.some.injEq, rLoad, cellOf, tab, Ty.isAgg, Ty.one, Bool.false_eq_true]
    exact hQ


theorem FnLongestRise_sat : Sat Try.prog 3 (fun ds Q => ∃ bs, ds = [.row (.ints .u8 bs)] ∧ bs.length ≤ 9223372036854775807 ∧ bytesOk bs ∧ Q (.val (.bool true))) := by
  refine sat_intro tabOk Try.func3 rfl 61 rfl [.tmp 2] rfl ?_
  rintro ds Q W ⟨bs, rfl, hlen, hbs, hQ⟩
  refine ⟨Nat.le_of_ble_eq_true rfl, ?_⟩
  simp only [initS, initT, mat.matL, mat, Cont.len]
  repeat' (first | refine awp_seq_k fun K hK => ?_ | ((with_reducible refine hK _ ?_); clear hK K) | (clear hK K; (with_reducible refine hK _ ?_); clear hK K) | (clear hK K; clear hK K; (with_reducible refine hK _ ?_); clear hK K) | (clear hK K; clear hK K; clear hK K; (with_reducible refine hK _ ?_); clear hK K) | (clear hK K; clear hK K; clear hK K; clear hK K; (with_reducible refine hK _ ?_); clear hK K) | (clear hK K; clear hK K; clear hK K; clear hK K; clear hK K; (with_reducible refine hK _ ?_); clear hK K) | ((with_reducible refine aord_plain fun K hK => ?_); simp only [go_sem, Nat.reduceAdd, Nat.reduceMul, Nat.reduceEqDiff, Nat.reduceLT, reduceIte, reduceCtorEq]) | ((with_reducible apply aord_guard); (focus (simp only [St.ev, St.set, upd, Nat.reduceEqDiff, reduceIte, if_false, if_true]; exact rfl)); all_goals (intro hb; (try simp only [Bool.not_true, Bool.not_false] at hb); first | (cases hb; done) | ((try rw [hb]); (try simp only [Bool.not_eq_true', Bool.not_eq_false', Bool.and_eq_true, decide_eq_true_eq, decide_eq_false_iff_not, beq_iff_eq, bne_iff_ne, beq_eq_false_iff_ne, bne_eq_false_iff_eq, Int.not_lt, Int.not_le] at hb); (try (revert hb; with_reducible refine true_imp_iff.2 ?_)); first | (intro K hK; simp only [go_sem, Nat.reduceAdd, Nat.reduceMul, Nat.reduceEqDiff, Nat.reduceLT, reduceIte, reduceCtorEq]) | (simp only [St.ev, St.set, upd, Nat.reduceEqDiff, reduceIte, if_false, if_true]) | skip))) | ((with_reducible apply aord_skip); (focus (simp only [St.ev, St.set, upd, Nat.reduceEqDiff, reduceIte, if_false, if_true]; done)); (simp only [St.ev, St.set, upd, Nat.reduceEqDiff, reduceIte, if_false, if_true])) | refine awp_block ?_ | ((first | with_reducible refine aord_nil ?_ | refine awp_skip ?_ | refine awp_exit ?_ | refine awp_ret ?_); try simp only [thenA_normal, thenA_exit, thenA_goto, thenA_ret, blockA_normal, blockA_same, blockA_exit, blockA_goto, blockA_ret, Nat.reduceEqDiff, if_false, if_true, reduceIte]) | (refine awp_region tabOk rfl ?_; simp only [prep, pickO, List.map_cons, List.map_nil, List.getElem?_toArray, List.getElem?_cons_succ, List.getElem?_cons_zero, Option.bind_some, Option.map_some]) | ((with_reducible apply awp_cond); (focus (simp only [St.ev, St.set, upd, Nat.reduceEqDiff, reduceIte, if_false, if_true]; exact rfl)); all_goals (intro hb; first | (cases hb; done) | ((try rw [hb]); (try simp only [decide_eq_true_eq, decide_eq_false_iff_not, beq_iff_eq, bne_iff_ne, beq_eq_false_iff_ne, bne_eq_false_iff_eq, Int.not_lt, Int.not_le, Bool.not_eq_true', Bool.not_eq_false'] at hb)))) | ((with_reducible refine And.intro ?_ ?_); (focus omega)) | ((with_reducible refine And.intro ?_ ?_); (focus (exact rfl))) | ((with_reducible refine And.intro (?_ : enters Try.prog 12) ?_); (focus exact Try.call12); (refine callX_sat drawLongestRise_sat ?_); simp only [go_sem, and_assoc, List.nil_append, List.append_nil, List.cons_append, Nat.reduceEqDiff, reduceIte, reduceCtorEq]) | ((with_reducible refine And.intro (?_ : enters Try.prog 13) ?_); (focus exact Try.call13); (refine callX_sat implLongestRise_sat ?_); simp only [go_sem, and_assoc, List.nil_append, List.append_nil, List.cons_append, Nat.reduceEqDiff, reduceIte, reduceCtorEq]) | ((with_reducible refine And.intro (?_ : enters Try.prog 15) ?_); (focus exact Try.call15); (refine callX_sat specLongestRise_sat ?_); simp only [go_sem, and_assoc, List.nil_append, List.append_nil, List.cons_append, Nat.reduceEqDiff, reduceIte, reduceCtorEq]) | ((with_reducible refine And.intro (?_ : enters Try.prog 16) ?_); (focus exact Try.call16); (refine callX_sat implValidKeys_sat ?_); simp only [go_sem, and_assoc, List.nil_append, List.append_nil, List.cons_append, Nat.reduceEqDiff, reduceIte, reduceCtorEq]) | ((with_reducible refine And.intro (?_ : enters Try.prog 14) ?_); (focus exact Try.call14); (refine callX_sat equalInts_sat ?_); simp only [go_sem, and_assoc, List.nil_append, List.append_nil, List.cons_append, Nat.reduceEqDiff, reduceIte, reduceCtorEq]) | ((with_reducible refine And.intro (?_ : enters Try.prog 17) ?_); (focus exact Try.call17); (refine callX_sat ascends_sat ?_); simp only [go_sem, and_assoc, List.nil_append, List.append_nil, List.cons_append, Nat.reduceEqDiff, reduceIte, reduceCtorEq]) | ((with_reducible refine And.intro (?_ : enters Try.prog 18) ?_); (focus exact Try.call18); (refine callX_sat implIsSorted_sat ?_); simp only [go_sem, and_assoc, List.nil_append, List.append_nil, List.cons_append, Nat.reduceEqDiff, reduceIte, reduceCtorEq]) | ((with_reducible refine And.intro (?_ : enters Try.prog 19) ?_); (focus exact Try.call19); (refine callX_sat implRemovalsOf_sat ?_); simp only [go_sem, and_assoc, List.nil_append, List.append_nil, List.cons_append, Nat.reduceEqDiff, reduceIte, reduceCtorEq]) | (refine aAppend_ints rfl rfl rfl rfl (Nat.le_of_ble_eq_true rfl) (by simp only [St.ev, St.set, upd, Nat.reduceEqDiff, reduceIte, if_false, if_true]; exact rfl) (by simp only [St.ev, St.set, upd, Nat.reduceEqDiff, reduceIte, if_false, if_true]; exact rfl) rfl (by decide) ?_ ?_ ?_ ?_; (focus (first | rfl | omega | (simp; done) | (simp; omega) | (simp [szOf, tab]; done) | (simp [szOf, tab]; omega))); (focus (first | rfl | omega | (simp; done) | (simp; omega) | (simp [szOf, tab]; done) | (simp [szOf, tab]; omega))); (focus (first | rfl | omega | (simp; done) | (simp; omega) | (simp [szOf, tab]; done) | (simp [szOf, tab]; omega))); (try simp only [go_sem, Nat.reduceAdd, Nat.reduceMul, Nat.reduceEqDiff, Nat.reduceLT, reduceIte, reduceCtorEq])) | (refine aAppend_none rfl rfl rfl rfl (Nat.le_of_ble_eq_true rfl) (by simp only [St.ev, St.set, upd, Nat.reduceEqDiff, reduceIte, if_false, if_true]; exact rfl) ?_ ?_ ?_; (focus (first | rfl | omega | (simp; done) | (simp; omega) | (simp [szOf, tab]; done) | (simp [szOf, tab]; omega))); (focus (first | rfl | omega | (simp; done) | (simp; omega) | (simp [szOf, tab]; done) | (simp [szOf, tab]; omega))); (try simp only [go_sem, Nat.reduceAdd, Nat.reduceMul, Nat.reduceEqDiff, Nat.reduceLT, reduceIte, reduceCtorEq])) | (with_reducible refine And.intro (fun hb => ?_) (fun hb => ?_)) | (exfalso; omega) | fail)
  · simp only [St.set, St.ev, doneQ, doneH, ressK, resK, wrapR, AV.ids, AV.idsL, retK, retsK, upd, Nat.reduceEqDiff, reduceIte, if_false, if_true, List.nodup_nil, List.nodup_cons, List.not_mem_nil, not_false_eq_true, true_and, and_true, exists_eq_left', Option.some.injEq, rLoad, cellOf, tab, Ty.isAgg, Ty.one, Bool.false_eq_true]
    exact hQ
  intro xs hxs
  rcases Bool.eq_false_or_eq_true (validB xs) with hv | hv
  · have h8 := valid_len hv
    have hrl := riseTo_len xs xs.length
    have hal := atL_len xs (riseTo xs xs.length)

    repeat' (first | refine awp_seq_k fun K hK => ?_ | ((with_reducible refine hK _ ?_); clear hK K) | (clear hK K; (with_reducible refine hK _ ?_); clear hK K) | (clear hK K; clear hK K; (with_reducible refine hK _ ?_); clear hK K) | (clear hK K; clear hK K; clear hK K; (with_reducible refine hK _ ?_); clear hK K) | (clear hK K; clear hK K; clear hK K; clear hK K; (with_reducible refine hK _ ?_); clear hK K) | (clear hK K; clear hK K; clear hK K; clear hK K; clear hK K; (with_reducible refine hK _ ?_); clear hK K) | ((with_reducible refine aord_plain fun K hK => ?_); simp only [go_sem, Nat.reduceAdd, Nat.reduceMul, Nat.reduceEqDiff, Nat.reduceLT, reduceIte, reduceCtorEq, hv, dec_self, sq_beq, sq_bne, int_bne]) | ((with_reducible apply aord_guard); (focus (simp only [St.ev, St.set, upd, Nat.reduceEqDiff, reduceIte, if_false, if_true]; exact rfl)); all_goals (intro hb; (try simp only [Bool.not_true, Bool.not_false] at hb); first | (cases hb; done) | ((try rw [hb]); (try simp only [Bool.not_eq_true', Bool.not_eq_false', Bool.and_eq_true, decide_eq_true_eq, decide_eq_false_iff_not, beq_iff_eq, bne_iff_ne, beq_eq_false_iff_ne, bne_eq_false_iff_eq, Int.not_lt, Int.not_le] at hb); (try (revert hb; with_reducible refine true_imp_iff.2 ?_)); first | (intro K hK; simp only [go_sem, Nat.reduceAdd, Nat.reduceMul, Nat.reduceEqDiff, Nat.reduceLT, reduceIte, reduceCtorEq]) | (simp only [St.ev, St.set, upd, Nat.reduceEqDiff, reduceIte, if_false, if_true]) | skip))) | ((with_reducible apply aord_skip); (focus (simp only [St.ev, St.set, upd, Nat.reduceEqDiff, reduceIte, if_false, if_true]; done)); (simp only [St.ev, St.set, upd, Nat.reduceEqDiff, reduceIte, if_false, if_true])) | refine awp_block ?_ | ((first | with_reducible refine aord_nil ?_ | refine awp_skip ?_ | refine awp_exit ?_ | refine awp_ret ?_); try simp only [thenA_normal, thenA_exit, thenA_goto, thenA_ret, blockA_normal, blockA_same, blockA_exit, blockA_goto, blockA_ret, Nat.reduceEqDiff, if_false, if_true, reduceIte]) | (refine awp_region tabOk rfl ?_; simp only [prep, pickO, List.map_cons, List.map_nil, List.getElem?_toArray, List.getElem?_cons_succ, List.getElem?_cons_zero, Option.bind_some, Option.map_some]) | ((with_reducible apply awp_cond); (focus (simp only [St.ev, St.set, upd, Nat.reduceEqDiff, reduceIte, if_false, if_true]; exact rfl)); all_goals (intro hb; first | (cases hb; done) | ((try rw [hb]); (try simp only [decide_eq_true_eq, decide_eq_false_iff_not, beq_iff_eq, bne_iff_ne, beq_eq_false_iff_ne, bne_eq_false_iff_eq, Int.not_lt, Int.not_le, Bool.not_eq_true', Bool.not_eq_false'] at hb)))) | ((with_reducible refine And.intro ?_ ?_); (focus omega)) | ((with_reducible refine And.intro ?_ ?_); (focus (exact rfl))) | ((with_reducible refine And.intro (?_ : enters Try.prog 12) ?_); (focus exact Try.call12); (refine callX_sat drawLongestRise_sat ?_); simp only [go_sem, and_assoc, List.nil_append, List.append_nil, List.cons_append, Nat.reduceEqDiff, reduceIte, reduceCtorEq, hv, dec_self, sq_beq, sq_bne, int_bne]) | ((with_reducible refine And.intro (?_ : enters Try.prog 13) ?_); (focus exact Try.call13); (refine callX_sat implLongestRise_sat ?_); simp only [go_sem, and_assoc, List.nil_append, List.append_nil, List.cons_append, Nat.reduceEqDiff, reduceIte, reduceCtorEq, hv, dec_self, sq_beq, sq_bne, int_bne]) | ((with_reducible refine And.intro (?_ : enters Try.prog 15) ?_); (focus exact Try.call15); (refine callX_sat specLongestRise_sat ?_); simp only [go_sem, and_assoc, List.nil_append, List.append_nil, List.cons_append, Nat.reduceEqDiff, reduceIte, reduceCtorEq, hv, dec_self, sq_beq, sq_bne, int_bne]) | ((with_reducible refine And.intro (?_ : enters Try.prog 16) ?_); (focus exact Try.call16); (refine callX_sat implValidKeys_sat ?_); simp only [go_sem, and_assoc, List.nil_append, List.append_nil, List.cons_append, Nat.reduceEqDiff, reduceIte, reduceCtorEq, hv, dec_self, sq_beq, sq_bne, int_bne]) | ((with_reducible refine And.intro (?_ : enters Try.prog 14) ?_); (focus exact Try.call14); (refine callX_sat equalInts_sat ?_); simp only [go_sem, and_assoc, List.nil_append, List.append_nil, List.cons_append, Nat.reduceEqDiff, reduceIte, reduceCtorEq, hv, dec_self, sq_beq, sq_bne, int_bne]) | ((with_reducible refine And.intro (?_ : enters Try.prog 17) ?_); (focus exact Try.call17); (refine callX_sat ascends_sat ?_); simp only [go_sem, and_assoc, List.nil_append, List.append_nil, List.cons_append, Nat.reduceEqDiff, reduceIte, reduceCtorEq, hv, dec_self, sq_beq, sq_bne, int_bne]) | ((with_reducible refine And.intro (?_ : enters Try.prog 18) ?_); (focus exact Try.call18); (refine callX_sat implIsSorted_sat ?_); simp only [go_sem, and_assoc, List.nil_append, List.append_nil, List.cons_append, Nat.reduceEqDiff, reduceIte, reduceCtorEq, hv, dec_self, sq_beq, sq_bne, int_bne]) | ((with_reducible refine And.intro (?_ : enters Try.prog 19) ?_); (focus exact Try.call19); (refine callX_sat implRemovalsOf_sat ?_); simp only [go_sem, and_assoc, List.nil_append, List.append_nil, List.cons_append, Nat.reduceEqDiff, reduceIte, reduceCtorEq, hv, dec_self, sq_beq, sq_bne, int_bne]) | (refine aAppend_ints rfl rfl rfl rfl (Nat.le_of_ble_eq_true rfl) (by simp only [St.ev, St.set, upd, Nat.reduceEqDiff, reduceIte, if_false, if_true]; exact rfl) (by simp only [St.ev, St.set, upd, Nat.reduceEqDiff, reduceIte, if_false, if_true]; exact rfl) rfl (by decide) ?_ ?_ ?_ ?_; (focus (first | rfl | omega | (simp; done) | (simp; omega) | (simp [szOf, tab]; done) | (simp [szOf, tab]; omega))); (focus (first | rfl | omega | (simp; done) | (simp; omega) | (simp [szOf, tab]; done) | (simp [szOf, tab]; omega))); (focus (first | rfl | omega | (simp; done) | (simp; omega) | (simp [szOf, tab]; done) | (simp [szOf, tab]; omega))); (try simp only [go_sem, Nat.reduceAdd, Nat.reduceMul, Nat.reduceEqDiff, Nat.reduceLT, reduceIte, reduceCtorEq])) | (refine aAppend_none rfl rfl rfl rfl (Nat.le_of_ble_eq_true rfl) (by simp only [St.ev, St.set, upd, Nat.reduceEqDiff, reduceIte, if_false, if_true]; exact rfl) ?_ ?_ ?_; (focus (first | rfl | omega | (simp; done) | (simp; omega) | (simp [szOf, tab]; done) | (simp [szOf, tab]; omega))); (focus (first | rfl | omega | (simp; done) | (simp; omega) | (simp [szOf, tab]; done) | (simp [szOf, tab]; omega))); (try simp only [go_sem, Nat.reduceAdd, Nat.reduceMul, Nat.reduceEqDiff, Nat.reduceLT, reduceIte, reduceCtorEq])) | (with_reducible refine And.intro (fun hb => ?_) (fun hb => ?_)) | (exfalso; omega) | fail)
    refine awp_loopE (α := Nat) (fun s p => ⟨(upd (upd (upd (upd bot 3 (s.tmps 3)) 4 (s.tmps 4)) 5 (.sl 4 0 p 1 none)) 6 (.val (.int .i64 (p)))), (upd s.heap 4 (some ⟨true, .ints .i64 ((atL xs (riseTo xs xs.length)).take p)⟩)), s.next⟩) _ (fun p => by simp only [St.ev, St.set, upd, Nat.reduceEqDiff, reduceIte, if_false, if_true]; exact rfl) (fun p => (p ≤ (riseTo xs xs.length).length)) (fun p => (riseTo xs xs.length).length - p) (0) ?_ ?_ ?_
    · (try simp only); (refine ?_ <;> (first | omega | (simp only; omega) | rfl | (simp; done) | skip))
    · (apply Wk.same; (case' h2 => (focus ((repeat' (with_reducible first | exact HeapX.bot | (apply HeapX.skip; (case hx => (simp; done))) | apply HeapX.none | apply HeapX.upd)); all_goals (first | rfl | exact Nat.le_of_ble_eq_true rfl | (simp only [St.set, St.ev, upd, ren, renL, id, Nat.reduceEqDiff, reduceIte, ContLe]; done) | (first | (simp only [St.set, St.ev, upd, ren, renL, id, Nat.reduceEqDiff, reduceIte]; exact contLe_nil) | ((repeat' (first | exact contLe_nil | refine contLe_cons (.inr ⟨?_, rfl⟩) ?_)); all_goals (first | rfl | (simp only [St.set, St.ev, upd, ren, renL, id, Nat.reduceEqDiff, reduceIte]; done) | ((try simp only [St.set, St.ev, upd, ren, renL, id, Nat.reduceEqDiff, reduceIte]); first | (with_reducible exact av_int (by omega)) | (with_reducible exact av_sl (by first | omega | (simp; done) | (simp; omega)) (by first | omega | (simp; done) | (simp; omega)))) | (simp only [St.set, St.ev, upd, ren, renL, id, Nat.reduceEqDiff, reduceIte, Int.natCast_add, Int.natCast_one, Int.cast_ofNat_Int, Int.natCast_zero]; done) | (simp only [St.set, St.ev, upd, ren, renL, id, Nat.reduceEqDiff, reduceIte]) | skip); done)) | (simp only [St.set, St.ev, upd, ren, renL, id, Nat.reduceEqDiff, reduceIte, ContLe]) | skip)))); (case' h1 => (focus ((repeat' (with_reducible first | exact TmpLe.bot | refine TmpLe.upd ?_ rfl ?_)); all_goals (first | rfl | (simp only [St.set, St.ev, upd, ren, renL, id, Nat.reduceEqDiff, reduceIte]; done) | ((try simp only [St.set, St.ev, upd, ren, renL, id, Nat.reduceEqDiff, reduceIte]); first | (with_reducible exact av_int (by omega)) | (with_reducible exact av_sl (by first | omega | (simp; done) | (simp; omega)) (by first | omega | (simp; done) | (simp; omega)))) | (simp only [St.set, St.ev, upd, ren, renL, id, Nat.reduceEqDiff, reduceIte, Int.natCast_add, Int.natCast_one, Int.cast_ofNat_Int, Int.natCast_zero]; done) | (simp only [St.set, St.ev, upd, ren, renL, id, Nat.reduceEqDiff, reduceIte]) | skip)))); (case h3 => (focus (first | (simp only [id, List.map_cons, List.map_nil]; decide) | decide))); (case h4 => (intro o l h; first | (cases h; done) | (have hlt0 := m0_lt (by assumption) h; first | omega | (simp only; omega) | exact ⟨by (first | rfl | (simp only [id]; done) | (rw [if_neg (by omega)])), by first | omega | (simp only; omega)⟩))))
    rintro k hk
    try simp only at hk
    have htl : ((atL xs (riseTo xs xs.length)).take k).length = k := by rw [List.length_take]; omega
    have hri : k < (riseTo xs xs.length).length → 0 ≤ (riseTo xs xs.length).getD k 0 ∧ (riseTo xs xs.length).getD k 0 < xs.length := fun h => riseTo_in xs xs.length k h
    have hup : k < (riseTo xs xs.length).length → (atL xs (riseTo xs xs.length)).take k ++ [xs.getD ((riseTo xs xs.length).getD k 0).toNat 0] = (atL xs (riseTo xs xs.length)).take (k + 1) := fun h => by
      rw [rev_take (by omega), atL_get h]
    repeat' (first | refine awp_seq_k fun K hK => ?_ | ((with_reducible refine hK _ ?_); clear hK K) | (clear hK K; (with_reducible refine hK _ ?_); clear hK K) | (clear hK K; clear hK K; (with_reducible refine hK _ ?_); clear hK K) | (clear hK K; clear hK K; clear hK K; (with_reducible refine hK _ ?_); clear hK K) | (clear hK K; clear hK K; clear hK K; clear hK K; (with_reducible refine hK _ ?_); clear hK K) | (clear hK K; clear hK K; clear hK K; clear hK K; clear hK K; (with_reducible refine hK _ ?_); clear hK K) | ((with_reducible refine aord_plain fun K hK => ?_); simp only [go_sem, Nat.reduceAdd, Nat.reduceMul, Nat.reduceEqDiff, Nat.reduceLT, reduceIte, reduceCtorEq, hv, dec_self, sq_beq, sq_bne, int_bne]) | ((with_reducible apply aord_guard); (focus (simp only [St.ev, St.set, upd, Nat.reduceEqDiff, reduceIte, if_false, if_true]; exact rfl)); all_goals (intro hb; (try simp only [Bool.not_true, Bool.not_false] at hb); first | (cases hb; done) | ((try rw [hb]); (try simp only [Bool.not_eq_true', Bool.not_eq_false', Bool.and_eq_true, decide_eq_true_eq, decide_eq_false_iff_not, beq_iff_eq, bne_iff_ne, beq_eq_false_iff_ne, bne_eq_false_iff_eq, Int.not_lt, Int.not_le] at hb); (try (revert hb; with_reducible refine true_imp_iff.2 ?_)); first | (intro K hK; simp only [go_sem, Nat.reduceAdd, Nat.reduceMul, Nat.reduceEqDiff, Nat.reduceLT, reduceIte, reduceCtorEq]) | (simp only [St.ev, St.set, upd, Nat.reduceEqDiff, reduceIte, if_false, if_true]) | skip))) | ((with_reducible apply aord_skip); (focus (simp only [St.ev, St.set, upd, Nat.reduceEqDiff, reduceIte, if_false, if_true]; done)); (simp only [St.ev, St.set, upd, Nat.reduceEqDiff, reduceIte, if_false, if_true])) | refine awp_block ?_ | ((first | with_reducible refine aord_nil ?_ | refine awp_skip ?_ | refine awp_exit ?_ | refine awp_ret ?_); try simp only [thenA_normal, thenA_exit, thenA_goto, thenA_ret, blockA_normal, blockA_same, blockA_exit, blockA_goto, blockA_ret, Nat.reduceEqDiff, if_false, if_true, reduceIte]) | (refine awp_region tabOk rfl ?_; simp only [prep, pickO, List.map_cons, List.map_nil, List.getElem?_toArray, List.getElem?_cons_succ, List.getElem?_cons_zero, Option.bind_some, Option.map_some]) | ((with_reducible apply awp_cond); (focus (simp only [St.ev, St.set, upd, Nat.reduceEqDiff, reduceIte, if_false, if_true]; exact rfl)); all_goals (intro hb; first | (cases hb; done) | ((try rw [hb]); (try simp only [decide_eq_true_eq, decide_eq_false_iff_not, beq_iff_eq, bne_iff_ne, beq_eq_false_iff_ne, bne_eq_false_iff_eq, Int.not_lt, Int.not_le, Bool.not_eq_true', Bool.not_eq_false'] at hb)))) | ((with_reducible refine And.intro ?_ ?_); (focus omega)) | ((with_reducible refine And.intro ?_ ?_); (focus (exact rfl))) | ((with_reducible refine And.intro (?_ : enters Try.prog 12) ?_); (focus exact Try.call12); (refine callX_sat drawLongestRise_sat ?_); simp only [go_sem, and_assoc, List.nil_append, List.append_nil, List.cons_append, Nat.reduceEqDiff, reduceIte, reduceCtorEq, hv, dec_self, sq_beq, sq_bne, int_bne]) | ((with_reducible refine And.intro (?_ : enters Try.prog 13) ?_); (focus exact Try.call13); (refine callX_sat implLongestRise_sat ?_); simp only [go_sem, and_assoc, List.nil_append, List.append_nil, List.cons_append, Nat.reduceEqDiff, reduceIte, reduceCtorEq, hv, dec_self, sq_beq, sq_bne, int_bne]) | ((with_reducible refine And.intro (?_ : enters Try.prog 15) ?_); (focus exact Try.call15); (refine callX_sat specLongestRise_sat ?_); simp only [go_sem, and_assoc, List.nil_append, List.append_nil, List.cons_append, Nat.reduceEqDiff, reduceIte, reduceCtorEq, hv, dec_self, sq_beq, sq_bne, int_bne]) | ((with_reducible refine And.intro (?_ : enters Try.prog 16) ?_); (focus exact Try.call16); (refine callX_sat implValidKeys_sat ?_); simp only [go_sem, and_assoc, List.nil_append, List.append_nil, List.cons_append, Nat.reduceEqDiff, reduceIte, reduceCtorEq, hv, dec_self, sq_beq, sq_bne, int_bne]) | ((with_reducible refine And.intro (?_ : enters Try.prog 14) ?_); (focus exact Try.call14); (refine callX_sat equalInts_sat ?_); simp only [go_sem, and_assoc, List.nil_append, List.append_nil, List.cons_append, Nat.reduceEqDiff, reduceIte, reduceCtorEq, hv, dec_self, sq_beq, sq_bne, int_bne]) | ((with_reducible refine And.intro (?_ : enters Try.prog 17) ?_); (focus exact Try.call17); (refine callX_sat ascends_sat ?_); simp only [go_sem, and_assoc, List.nil_append, List.append_nil, List.cons_append, Nat.reduceEqDiff, reduceIte, reduceCtorEq, hv, dec_self, sq_beq, sq_bne, int_bne]) | ((with_reducible refine And.intro (?_ : enters Try.prog 18) ?_); (focus exact Try.call18); (refine callX_sat implIsSorted_sat ?_); simp only [go_sem, and_assoc, List.nil_append, List.append_nil, List.cons_append, Nat.reduceEqDiff, reduceIte, reduceCtorEq, hv, dec_self, sq_beq, sq_bne, int_bne]) | ((with_reducible refine And.intro (?_ : enters Try.prog 19) ?_); (focus exact Try.call19); (refine callX_sat implRemovalsOf_sat ?_); simp only [go_sem, and_assoc, List.nil_append, List.append_nil, List.cons_append, Nat.reduceEqDiff, reduceIte, reduceCtorEq, hv, dec_self, sq_beq, sq_bne, int_bne]) | (refine aAppend_ints rfl rfl rfl rfl (Nat.le_of_ble_eq_true rfl) (by simp only [St.ev, St.set, upd, Nat.reduceEqDiff, reduceIte, if_false, if_true]; exact rfl) (by simp only [St.ev, St.set, upd, Nat.reduceEqDiff, reduceIte, if_false, if_true]; exact rfl) rfl (by decide) ?_ ?_ ?_ ?_; (focus (first | rfl | omega | (simp; done) | (simp; omega) | (simp [szOf, tab]; done) | (simp [szOf, tab]; omega))); (focus (first | rfl | omega | (simp; done) | (simp; omega) | (simp [szOf, tab]; done) | (simp [szOf, tab]; omega))); (focus (first | rfl | omega | (simp; done) | (simp; omega) | (simp [szOf, tab]; done) | (simp [szOf, tab]; omega))); (try simp only [go_sem, Nat.reduceAdd, Nat.reduceMul, Nat.reduceEqDiff, Nat.reduceLT, reduceIte, reduceCtorEq])) | (refine aAppend_none rfl rfl rfl rfl (Nat.le_of_ble_eq_true rfl) (by simp only [St.ev, St.set, upd, Nat.reduceEqDiff, reduceIte, if_false, if_true]; exact rfl) ?_ ?_ ?_; (focus (first | rfl | omega | (simp; done) | (simp; omega) | (simp [szOf, tab]; done) | (simp [szOf, tab]; omega))); (focus (first | rfl | omega | (simp; done) | (simp; omega) | (simp [szOf, tab]; done) | (simp [szOf, tab]; omega))); (try simp only [go_sem, Nat.reduceAdd, Nat.reduceMul, Nat.reduceEqDiff, Nat.reduceLT, reduceIte, reduceCtorEq])) | (with_reducible refine And.intro (fun hb => ?_) (fun hb => ?_)) | (exfalso; omega) | fail)
    · simp only [hup (by omega)]
      ((refine Exists.intro (k + 1) ?_); (refine nxt ?_ ?_ ?_); (focus (apply Wk.named (fun o => if o = 4 then 6 else o); (case' h2 => (focus ((repeat' (with_reducible first | exact HeapX.bot | (apply HeapX.skip; (case hx => (simp; done))) | apply HeapX.none | apply HeapX.upd)); all_goals (first | rfl | exact Nat.le_of_ble_eq_true rfl | (simp only [St.set, St.ev, upd, ren, renL, id, Nat.reduceEqDiff, reduceIte, ContLe]; done) | (first | (simp only [St.set, St.ev, upd, ren, renL, id, Nat.reduceEqDiff, reduceIte]; exact contLe_nil) | ((repeat' (first | exact contLe_nil | refine contLe_cons (.inr ⟨?_, rfl⟩) ?_)); all_goals (first | rfl | (simp only [St.set, St.ev, upd, ren, renL, id, Nat.reduceEqDiff, reduceIte]; done) | ((try simp only [St.set, St.ev, upd, ren, renL, id, Nat.reduceEqDiff, reduceIte]); first | (with_reducible exact av_int (by omega)) | (with_reducible exact av_sl (by first | omega | (simp; done) | (simp; omega)) (by first | omega | (simp; done) | (simp; omega)))) | (simp only [St.set, St.ev, upd, ren, renL, id, Nat.reduceEqDiff, reduceIte, Int.natCast_add, Int.natCast_one, Int.cast_ofNat_Int, Int.natCast_zero]; done) | (simp only [St.set, St.ev, upd, ren, renL, id, Nat.reduceEqDiff, reduceIte]) | skip); done)) | (simp only [St.set, St.ev, upd, ren, renL, id, Nat.reduceEqDiff, reduceIte, ContLe]) | skip)))); (case' h1 => (focus ((repeat' (with_reducible first | exact TmpLe.bot | refine TmpLe.upd ?_ rfl ?_)); all_goals (first | rfl | (simp only [St.set, St.ev, upd, ren, renL, id, Nat.reduceEqDiff, reduceIte]; done) | ((try simp only [St.set, St.ev, upd, ren, renL, id, Nat.reduceEqDiff, reduceIte]); first | (with_reducible exact av_int (by omega)) | (with_reducible exact av_sl (by first | omega | (simp; done) | (simp; omega)) (by first | omega | (simp; done) | (simp; omega)))) | (simp only [St.set, St.ev, upd, ren, renL, id, Nat.reduceEqDiff, reduceIte, Int.natCast_add, Int.natCast_one, Int.cast_ofNat_Int, Int.natCast_zero]; done) | (simp only [St.set, St.ev, upd, ren, renL, id, Nat.reduceEqDiff, reduceIte]) | skip)))); (case h3 => (focus (first | (simp only [id, List.map_cons, List.map_nil]; decide) | decide))); (case h4 => (intro o l h; first | (cases h; done) | (have hlt0 := m0_lt (by assumption) h; first | omega | (simp only; omega) | exact ⟨by (first | rfl | (simp only [id]; done) | (rw [if_neg (by omega)])), by first | omega | (simp only; omega)⟩))))); (focus (first | omega | (simp only; omega) | (simp; omega))); ((repeat' (with_reducible apply And.intro)) <;> (first | omega | (simp only; omega) | assumption | rfl | (simp only))))
    · obtain rfl : k = (riseTo xs xs.length).length := by omega
      have hat : (atL xs (riseTo xs xs.length)).take (riseTo xs xs.length).length = atL xs (riseTo xs xs.length) := by rw [← hal, List.take_length]
      have hv3 : validB (atL xs (riseTo xs xs.length)) = true := valid_all (by omega) fun j hj => by rw [atL_get (by omega)]; exact valid_in hv _
      have hs3 : srt (atL xs (riseTo xs xs.length)) = true := srt_iff.2 fun j hj => by
        rw [atL_get (by omega), atL_get (by omega)]; exact (rise_two (xs := xs) (n := xs.length) (Nat.lt_succ_self j) (by omega)).2
      have hsum : ((((riseTo xs xs.length).length : Int) + ((xs.length : Int) - (riseTo xs xs.length).length)) == (xs.length : Int)) = true := by simp only [beq_iff_eq]; omega

      refine ⟨fun j hj => (rise_two (xs := xs) (n := xs.length) (Nat.lt_succ_self j) hj).1, ?_⟩
      repeat' (first | refine awp_seq_k fun K hK => ?_ | ((with_reducible refine hK _ ?_); clear hK K) | (clear hK K; (with_reducible refine hK _ ?_); clear hK K) | (clear hK K; clear hK K; (with_reducible refine hK _ ?_); clear hK K) | (clear hK K; clear hK K; clear hK K; (with_reducible refine hK _ ?_); clear hK K) | (clear hK K; clear hK K; clear hK K; clear hK K; (with_reducible refine hK _ ?_); clear hK K) | (clear hK K; clear hK K; clear hK K; clear hK K; clear hK K; (with_reducible refine hK _ ?_); clear hK K) | ((with_reducible refine aord_plain fun K hK => ?_); simp only [go_sem, Nat.reduceAdd, Nat.reduceMul, Nat.reduceEqDiff, Nat.reduceLT, reduceIte, reduceCtorEq, hv, dec_self, sq_beq, sq_bne, int_bne, hat, hv3, hs3, hsum, Bool.true_and]) | ((with_reducible apply aord_guard); (focus (simp only [St.ev, St.set, upd, Nat.reduceEqDiff, reduceIte, if_false, if_true]; exact rfl)); all_goals (intro hb; (try simp only [Bool.not_true, Bool.not_false] at hb); first | (cases hb; done) | ((try rw [hb]); (try simp only [Bool.not_eq_true', Bool.not_eq_false', Bool.and_eq_true, decide_eq_true_eq, decide_eq_false_iff_not, beq_iff_eq, bne_iff_ne, beq_eq_false_iff_ne, bne_eq_false_iff_eq, Int.not_lt, Int.not_le] at hb); (try (revert hb; with_reducible refine true_imp_iff.2 ?_)); first | (intro K hK; simp only [go_sem, Nat.reduceAdd, Nat.reduceMul, Nat.reduceEqDiff, Nat.reduceLT, reduceIte, reduceCtorEq]) | (simp only [St.ev, St.set, upd, Nat.reduceEqDiff, reduceIte, if_false, if_true]) | skip))) | ((with_reducible apply aord_skip); (focus (simp only [St.ev, St.set, upd, Nat.reduceEqDiff, reduceIte, if_false, if_true]; done)); (simp only [St.ev, St.set, upd, Nat.reduceEqDiff, reduceIte, if_false, if_true])) | refine awp_block ?_ | ((first | with_reducible refine aord_nil ?_ | refine awp_skip ?_ | refine awp_exit ?_ | refine awp_ret ?_); try simp only [thenA_normal, thenA_exit, thenA_goto, thenA_ret, blockA_normal, blockA_same, blockA_exit, blockA_goto, blockA_ret, Nat.reduceEqDiff, if_false, if_true, reduceIte]) | (refine awp_region tabOk rfl ?_; simp only [prep, pickO, List.map_cons, List.map_nil, List.getElem?_toArray, List.getElem?_cons_succ, List.getElem?_cons_zero, Option.bind_some, Option.map_some]) | ((with_reducible apply awp_cond); (focus (simp only [St.ev, St.set, upd, Nat.reduceEqDiff, reduceIte, if_false, if_true]; exact rfl)); all_goals (intro hb; first | (cases hb; done) | ((try rw [hb]); (try simp only [decide_eq_true_eq, decide_eq_false_iff_not, beq_iff_eq, bne_iff_ne, beq_eq_false_iff_ne, bne_eq_false_iff_eq, Int.not_lt, Int.not_le, Bool.not_eq_true', Bool.not_eq_false'] at hb)))) | ((with_reducible refine And.intro ?_ ?_); (focus omega)) | ((with_reducible refine And.intro ?_ ?_); (focus (exact rfl))) | ((with_reducible refine And.intro (?_ : enters Try.prog 12) ?_); (focus exact Try.call12); (refine callX_sat drawLongestRise_sat ?_); simp only [go_sem, and_assoc, List.nil_append, List.append_nil, List.cons_append, Nat.reduceEqDiff, reduceIte, reduceCtorEq, hv, dec_self, sq_beq, sq_bne, int_bne, hat, hv3, hs3, hsum, Bool.true_and]) | ((with_reducible refine And.intro (?_ : enters Try.prog 13) ?_); (focus exact Try.call13); (refine callX_sat implLongestRise_sat ?_); simp only [go_sem, and_assoc, List.nil_append, List.append_nil, List.cons_append, Nat.reduceEqDiff, reduceIte, reduceCtorEq, hv, dec_self, sq_beq, sq_bne, int_bne, hat, hv3, hs3, hsum, Bool.true_and]) | ((with_reducible refine And.intro (?_ : enters Try.prog 15) ?_); (focus exact Try.call15); (refine callX_sat specLongestRise_sat ?_); simp only [go_sem, and_assoc, List.nil_append, List.append_nil, List.cons_append, Nat.reduceEqDiff, reduceIte, reduceCtorEq, hv, dec_self, sq_beq, sq_bne, int_bne, hat, hv3, hs3, hsum, Bool.true_and]) | ((with_reducible refine And.intro (?_ : enters Try.prog 16) ?_); (focus exact Try.call16); (refine callX_sat implValidKeys_sat ?_); simp only [go_sem, and_assoc, List.nil_append, List.append_nil, List.cons_append, Nat.reduceEqDiff, reduceIte, reduceCtorEq, hv, dec_self, sq_beq, sq_bne, int_bne, hat, hv3, hs3, hsum, Bool.true_and]) | ((with_reducible refine And.intro (?_ : enters Try.prog 14) ?_); (focus exact Try.call14); (refine callX_sat equalInts_sat ?_); simp only [go_sem, and_assoc, List.nil_append, List.append_nil, List.cons_append, Nat.reduceEqDiff, reduceIte, reduceCtorEq, hv, dec_self, sq_beq, sq_bne, int_bne, hat, hv3, hs3, hsum, Bool.true_and]) | ((with_reducible refine And.intro (?_ : enters Try.prog 17) ?_); (focus exact Try.call17); (refine callX_sat ascends_sat ?_); simp only [go_sem, and_assoc, List.nil_append, List.append_nil, List.cons_append, Nat.reduceEqDiff, reduceIte, reduceCtorEq, hv, dec_self, sq_beq, sq_bne, int_bne, hat, hv3, hs3, hsum, Bool.true_and]) | ((with_reducible refine And.intro (?_ : enters Try.prog 18) ?_); (focus exact Try.call18); (refine callX_sat implIsSorted_sat ?_); simp only [go_sem, and_assoc, List.nil_append, List.append_nil, List.cons_append, Nat.reduceEqDiff, reduceIte, reduceCtorEq, hv, dec_self, sq_beq, sq_bne, int_bne, hat, hv3, hs3, hsum, Bool.true_and]) | ((with_reducible refine And.intro (?_ : enters Try.prog 19) ?_); (focus exact Try.call19); (refine callX_sat implRemovalsOf_sat ?_); simp only [go_sem, and_assoc, List.nil_append, List.append_nil, List.cons_append, Nat.reduceEqDiff, reduceIte, reduceCtorEq, hv, dec_self, sq_beq, sq_bne, int_bne, hat, hv3, hs3, hsum, Bool.true_and]) | (refine aAppend_ints rfl rfl rfl rfl (Nat.le_of_ble_eq_true rfl) (by simp only [St.ev, St.set, upd, Nat.reduceEqDiff, reduceIte, if_false, if_true]; exact rfl) (by simp only [St.ev, St.set, upd, Nat.reduceEqDiff, reduceIte, if_false, if_true]; exact rfl) rfl (by decide) ?_ ?_ ?_ ?_; (focus (first | rfl | omega | (simp; done) | (simp; omega) | (simp [szOf, tab]; done) | (simp [szOf, tab]; omega))); (focus (first | rfl | omega | (simp; done) | (simp; omega) | (simp [szOf, tab]; done) | (simp [szOf, tab]; omega))); (focus (first | rfl | omega | (simp; done) | (simp; omega) | (simp [szOf, tab]; done) | (simp [szOf, tab]; omega))); (try simp only [go_sem, Nat.reduceAdd, Nat.reduceMul, Nat.reduceEqDiff, Nat.reduceLT, reduceIte, reduceCtorEq])) | (refine aAppend_none rfl rfl rfl rfl (Nat.le_of_ble_eq_true rfl) (by simp only [St.ev, St.set, upd, Nat.reduceEqDiff, reduceIte, if_false, if_true]; exact rfl) ?_ ?_ ?_; (focus (first | rfl | omega | (simp; done) | (simp; omega) | (simp [szOf, tab]; done) | (simp [szOf, tab]; omega))); (focus (first | rfl | omega | (simp; done) | (simp; omega) | (simp [szOf, tab]; done) | (simp [szOf, tab]; omega))); (try simp only [go_sem, Nat.reduceAdd, Nat.reduceMul, Nat.reduceEqDiff, Nat.reduceLT, reduceIte, reduceCtorEq])) | (with_reducible refine And.intro (fun hb => ?_) (fun hb => ?_)) | (exfalso; omega) | fail)
      simp only [St.set, St.ev, doneQ, doneH, ressK, resK, wrapR, AV.ids, AV.idsL, retK, retsK, upd, Nat.reduceEqDiff, reduceIte, if_false, if_true, List.nodup_nil, List.nodup_cons, List.not_mem_nil, not_false_eq_true, true_and, and_true, exists_eq_left', Option.some.injEq, rLoad, cellOf, tab, Ty.isAgg, Ty.one, Bool.false_eq_true]
      exact hQ
  · skip

    repeat' (first | refine awp_seq_k fun K hK => ?_ | ((with_reducible refine hK _ ?_); clear hK K) | (clear hK K; (with_reducible refine hK _ ?_); clear hK K) | (clear hK K; clear hK K; (with_reducible refine hK _ ?_); clear hK K) | (clear hK K; clear hK K; clear hK K; (with_reducible refine hK _ ?_); clear hK K) | (clear hK K; clear hK K; clear hK K; clear hK K; (with_reducible refine hK _ ?_); clear hK K) | (clear hK K; clear hK K; clear hK K; clear hK K; clear hK K; (with_reducible refine hK _ ?_); clear hK K) | ((with_reducible refine aord_plain fun K hK => ?_); simp only [go_sem, Nat.reduceAdd, Nat.reduceMul, Nat.reduceEqDiff, Nat.reduceLT, reduceIte, reduceCtorEq, hv, sq_beq, sq_bne, int_bne, dec_self]) | ((with_reducible apply aord_guard); (focus (simp only [St.ev, St.set, upd, Nat.reduceEqDiff, reduceIte, if_false, if_true]; exact rfl)); all_goals (intro hb; (try simp only [Bool.not_true, Bool.not_false] at hb); first | (cases hb; done) | ((try rw [hb]); (try simp only [Bool.not_eq_true', Bool.not_eq_false', Bool.and_eq_true, decide_eq_true_eq, decide_eq_false_iff_not, beq_iff_eq, bne_iff_ne, beq_eq_false_iff_ne, bne_eq_false_iff_eq, Int.not_lt, Int.not_le] at hb); (try (revert hb; with_reducible refine true_imp_iff.2 ?_)); first | (intro K hK; simp only [go_sem, Nat.reduceAdd, Nat.reduceMul, Nat.reduceEqDiff, Nat.reduceLT, reduceIte, reduceCtorEq]) | (simp only [St.ev, St.set, upd, Nat.reduceEqDiff, reduceIte, if_false, if_true]) | skip))) | ((with_reducible apply aord_skip); (focus (simp only [St.ev, St.set, upd, Nat.reduceEqDiff, reduceIte, if_false, if_true]; done)); (simp only [St.ev, St.set, upd, Nat.reduceEqDiff, reduceIte, if_false, if_true])) | refine awp_block ?_ | ((first | with_reducible refine aord_nil ?_ | refine awp_skip ?_ | refine awp_exit ?_ | refine awp_ret ?_); try simp only [thenA_normal, thenA_exit, thenA_goto, thenA_ret, blockA_normal, blockA_same, blockA_exit, blockA_goto, blockA_ret, Nat.reduceEqDiff, if_false, if_true, reduceIte]) | (refine awp_region tabOk rfl ?_; simp only [prep, pickO, List.map_cons, List.map_nil, List.getElem?_toArray, List.getElem?_cons_succ, List.getElem?_cons_zero, Option.bind_some, Option.map_some]) | ((with_reducible apply awp_cond); (focus (simp only [St.ev, St.set, upd, Nat.reduceEqDiff, reduceIte, if_false, if_true]; exact rfl)); all_goals (intro hb; first | (cases hb; done) | ((try rw [hb]); (try simp only [decide_eq_true_eq, decide_eq_false_iff_not, beq_iff_eq, bne_iff_ne, beq_eq_false_iff_ne, bne_eq_false_iff_eq, Int.not_lt, Int.not_le, Bool.not_eq_true', Bool.not_eq_false'] at hb)))) | ((with_reducible refine And.intro ?_ ?_); (focus omega)) | ((with_reducible refine And.intro ?_ ?_); (focus (exact rfl))) | ((with_reducible refine And.intro (?_ : enters Try.prog 12) ?_); (focus exact Try.call12); (refine callX_sat drawLongestRise_sat ?_); simp only [go_sem, and_assoc, List.nil_append, List.append_nil, List.cons_append, Nat.reduceEqDiff, reduceIte, reduceCtorEq, hv, sq_beq, sq_bne, int_bne, dec_self]) | ((with_reducible refine And.intro (?_ : enters Try.prog 13) ?_); (focus exact Try.call13); (refine callX_sat implLongestRise_sat ?_); simp only [go_sem, and_assoc, List.nil_append, List.append_nil, List.cons_append, Nat.reduceEqDiff, reduceIte, reduceCtorEq, hv, sq_beq, sq_bne, int_bne, dec_self]) | ((with_reducible refine And.intro (?_ : enters Try.prog 15) ?_); (focus exact Try.call15); (refine callX_sat specLongestRise_sat ?_); simp only [go_sem, and_assoc, List.nil_append, List.append_nil, List.cons_append, Nat.reduceEqDiff, reduceIte, reduceCtorEq, hv, sq_beq, sq_bne, int_bne, dec_self]) | ((with_reducible refine And.intro (?_ : enters Try.prog 16) ?_); (focus exact Try.call16); (refine callX_sat implValidKeys_sat ?_); simp only [go_sem, and_assoc, List.nil_append, List.append_nil, List.cons_append, Nat.reduceEqDiff, reduceIte, reduceCtorEq, hv, sq_beq, sq_bne, int_bne, dec_self]) | ((with_reducible refine And.intro (?_ : enters Try.prog 14) ?_); (focus exact Try.call14); (refine callX_sat equalInts_sat ?_); simp only [go_sem, and_assoc, List.nil_append, List.append_nil, List.cons_append, Nat.reduceEqDiff, reduceIte, reduceCtorEq, hv, sq_beq, sq_bne, int_bne, dec_self]) | ((with_reducible refine And.intro (?_ : enters Try.prog 17) ?_); (focus exact Try.call17); (refine callX_sat ascends_sat ?_); simp only [go_sem, and_assoc, List.nil_append, List.append_nil, List.cons_append, Nat.reduceEqDiff, reduceIte, reduceCtorEq, hv, sq_beq, sq_bne, int_bne, dec_self]) | ((with_reducible refine And.intro (?_ : enters Try.prog 18) ?_); (focus exact Try.call18); (refine callX_sat implIsSorted_sat ?_); simp only [go_sem, and_assoc, List.nil_append, List.append_nil, List.cons_append, Nat.reduceEqDiff, reduceIte, reduceCtorEq, hv, sq_beq, sq_bne, int_bne, dec_self]) | ((with_reducible refine And.intro (?_ : enters Try.prog 19) ?_); (focus exact Try.call19); (refine callX_sat implRemovalsOf_sat ?_); simp only [go_sem, and_assoc, List.nil_append, List.append_nil, List.cons_append, Nat.reduceEqDiff, reduceIte, reduceCtorEq, hv, sq_beq, sq_bne, int_bne, dec_self]) | (refine aAppend_ints rfl rfl rfl rfl (Nat.le_of_ble_eq_true rfl) (by simp only [St.ev, St.set, upd, Nat.reduceEqDiff, reduceIte, if_false, if_true]; exact rfl) (by simp only [St.ev, St.set, upd, Nat.reduceEqDiff, reduceIte, if_false, if_true]; exact rfl) rfl (by decide) ?_ ?_ ?_ ?_; (focus (first | rfl | omega | (simp; done) | (simp; omega) | (simp [szOf, tab]; done) | (simp [szOf, tab]; omega))); (focus (first | rfl | omega | (simp; done) | (simp; omega) | (simp [szOf, tab]; done) | (simp [szOf, tab]; omega))); (focus (first | rfl | omega | (simp; done) | (simp; omega) | (simp [szOf, tab]; done) | (simp [szOf, tab]; omega))); (try simp only [go_sem, Nat.reduceAdd, Nat.reduceMul, Nat.reduceEqDiff, Nat.reduceLT, reduceIte, reduceCtorEq])) | (refine aAppend_none rfl rfl rfl rfl (Nat.le_of_ble_eq_true rfl) (by simp only [St.ev, St.set, upd, Nat.reduceEqDiff, reduceIte, if_false, if_true]; exact rfl) ?_ ?_ ?_; (focus (first | rfl | omega | (simp; done) | (simp; omega) | (simp [szOf, tab]; done) | (simp [szOf, tab]; omega))); (focus (first | rfl | omega | (simp; done) | (simp; omega) | (simp [szOf, tab]; done) | (simp [szOf, tab]; omega))); (try simp only [go_sem, Nat.reduceAdd, Nat.reduceMul, Nat.reduceEqDiff, Nat.reduceLT, reduceIte, reduceCtorEq])) | (with_reducible refine And.intro (fun hb => ?_) (fun hb => ?_)) | (exfalso; omega) | fail)
    simp only [St.set, St.ev, doneQ, doneH, ressK, resK, wrapR, AV.ids, AV.idsL, retK, retsK, upd, Nat.reduceEqDiff, reduceIte, if_false, if_true, List.nodup_nil, List.nodup_cons, List.not_mem_nil, not_false_eq_true, true_and, and_true, exists_eq_left', Option.some.injEq, rLoad, cellOf, tab, Ty.isAgg, Ty.one, Bool.false_eq_true]
    exact hQ

end Go.Proofs.Ytgdnichfaeojpaa
