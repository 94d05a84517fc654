/- Contracts of functions of the program. -/
import Derived.Test.YthknhcgdbpgcjaaPWSeca
import Derived.ScopeJumps
namespace Go.Proofs.Ythknhcgdbpgcjaa
open Go Go.Ab
set_option linter.all false
set_option maxHeartbeats 4000000

/-- A cup: of two that meet the winner and the loser. -/
def cpW (xs : List Int) (p q : Int) : Int := if xs.getD q.toNat 0 < xs.getD p.toNat 0 then q else p
def cpL (xs : List Int) (p q : Int) : Int := if xs.getD q.toNat 0 < xs.getD p.toNat 0 then p else q
def cpPut (bt : List (List Int)) (w l : Int) : List (List Int) := bt.set w.toNat (bt.getD w.toNat [] ++ [l])
/-- The first pairs of a round. -/
def cpTo (xs now : List Int) (bt : List (List Int)) : Nat → List Int × List (List Int)
  | 0 => ([], bt)
  | j + 1 => ((cpTo xs now bt j).1 ++ [cpW xs (now.getD (2 * j) 0) (now.getD (2 * j + 1) 0)], cpPut (cpTo xs now bt j).2 (cpW xs (now.getD (2 * j) 0) (now.getD (2 * j + 1) 0)) (cpL xs (now.getD (2 * j) 0) (now.getD (2 * j + 1) 0)))
def cpRound (xs now : List Int) (bt : List (List Int)) : List Int × List (List Int) :=
  if now.length % 2 = 1 then ((cpTo xs now bt (now.length / 2)).1 ++ [now.getD (now.length - 1) 0], (cpTo xs now bt (now.length / 2)).2) else cpTo xs now bt (now.length / 2)
def riseI (n : Nat) : List Int := (List.range n).map fun (k : Nat) => (k : Int)
/-- So many rounds. -/
def cpIt (xs : List Int) : Nat → List Int × List (List Int)
  | 0 => (riseI xs.length, List.replicate xs.length [])
  | c + 1 => cpRound xs (cpIt xs c).1 (cpIt xs c).2
theorem riseI_len (n : Nat) : (riseI n).length = n := by simp [riseI]
theorem riseI_up (n : Nat) : riseI (n + 1) = riseI n ++ [(n : Int)] := by simp [riseI, List.range_succ]
theorem riseI_get {n k : Nat} (h : k < n) : (riseI n).getD k 0 = (k : Int) := by
  simp [riseI, List.getD_eq_getElem?_getD, List.getElem?_map, List.getElem?_range h]
/-- What is kept: indices of keys, as many rows as keys. -/
structure CupOk (xs now : List Int) (bt : List (List Int)) : Prop where
  idx : ∀ j, j < now.length → 0 ≤ now.getD j 0 ∧ now.getD j 0 < xs.length
  rows : bt.length = xs.length
  len : ∀ k, (bt.getD k []).length + now.length ≤ xs.length
theorem cpW_in {xs now : List Int} {bt : List (List Int)} (h : CupOk xs now bt) {j : Nat} (hj : 2 * j + 1 < now.length) : 0 ≤ cpW xs (now.getD (2 * j) 0) (now.getD (2 * j + 1) 0) ∧ cpW xs (now.getD (2 * j) 0) (now.getD (2 * j + 1) 0) < xs.length := by
  have a := h.idx (2 * j) (by omega)
  have b := h.idx (2 * j + 1) (by omega)
  unfold cpW; split <;> omega
theorem cpTo_len (xs now : List Int) (bt : List (List Int)) : ∀ j, (cpTo xs now bt j).1.length = j ∧ (cpTo xs now bt j).2.length = bt.length
  | 0 => ⟨rfl, rfl⟩
  | j + 1 => by
    obtain ⟨a, b⟩ := cpTo_len xs now bt j
    rw [cpTo]
    exact ⟨by simp [a], by simp [cpPut, b]⟩
theorem cpPut_row (bt : List (List Int)) (w l : Int) (k : Nat) : ((cpPut bt w l).getD k []).length ≤ (bt.getD k []).length + 1 := by
  unfold cpPut
  by_cases e : w.toNat = k
  · subst e
    by_cases h : w.toNat < bt.length
    · rw [List.getD_eq_getElem?_getD, List.getElem?_set_self h]; simp
    · rw [List.set_eq_of_length_le (by omega)]; omega
  · rw [List.getD_eq_getElem?_getD, List.getElem?_set_ne e, ← List.getD_eq_getElem?_getD]; omega
theorem cpTo_row (xs now : List Int) (bt : List (List Int)) (k : Nat) : ∀ j, ((cpTo xs now bt j).2.getD k []).length ≤ (bt.getD k []).length + j
  | 0 => Nat.le_refl _
  | j + 1 => by
    have a := cpTo_row xs now bt k j
    have b := cpPut_row (cpTo xs now bt j).2 (cpW xs (now.getD (2 * j) 0) (now.getD (2 * j + 1) 0)) (cpL xs (now.getD (2 * j) 0) (now.getD (2 * j + 1) 0)) k
    rw [cpTo]; simp only; omega
theorem cpRound_len (xs now : List Int) (bt : List (List Int)) : (cpRound xs now bt).1.length = (now.length + 1) / 2 ∧ (cpRound xs now bt).2.length = bt.length := by
  obtain ⟨a, b⟩ := cpTo_len xs now bt (now.length / 2)
  unfold cpRound
  split
  · simp only [List.length_append, List.length_singleton]; omega
  · omega
theorem cpTo_idx {xs now : List Int} {bt : List (List Int)} (h : CupOk xs now bt) : ∀ j, 2 * j ≤ now.length → ∀ k, k < j → 0 ≤ (cpTo xs now bt j).1.getD k 0 ∧ (cpTo xs now bt j).1.getD k 0 < xs.length
  | 0, _, k, hk => by omega
  | j + 1, hj, k, hk => by
    have hl := (cpTo_len xs now bt j).1
    rw [cpTo]
    simp only
    by_cases e : k < j
    · rw [List.getD_eq_getElem?_getD, List.getElem?_append_left (by omega), ← List.getD_eq_getElem?_getD]; exact cpTo_idx h j (by omega) k e
    · obtain rfl : k = j := by omega
      rw [List.getD_eq_getElem?_getD, List.getElem?_append_right (by omega), hl, Nat.sub_self]
      exact cpW_in h (by omega)
theorem cpRound_ok {xs now : List Int} {bt : List (List Int)} (h : CupOk xs now bt) : CupOk xs (cpRound xs now bt).1 (cpRound xs now bt).2 := by
  have hl := (cpTo_len xs now bt (now.length / 2)).1
  have hrow := fun k => cpTo_row xs now bt k (now.length / 2)
  refine ⟨fun j hj => ?_, by rw [(cpRound_len xs now bt).2]; exact h.rows, fun k => ?_⟩
  · rw [(cpRound_len xs now bt).1] at hj
    unfold cpRound
    split
    · by_cases e : j < now.length / 2
      · rw [List.getD_eq_getElem?_getD, List.getElem?_append_left (by omega), ← List.getD_eq_getElem?_getD]; exact cpTo_idx h _ (by omega) j e
      · rw [List.getD_eq_getElem?_getD, List.getElem?_append_right (by omega), show j - (cpTo xs now bt (now.length / 2)).1.length = 0 by omega]
        exact h.idx (now.length - 1) (by omega)
    · exact cpTo_idx h _ (by omega) j (by omega)
  · have := hrow k
    have := h.len k
    rw [(cpRound_len xs now bt).1]
    unfold cpRound; split <;> (try dsimp only) <;> omega
theorem cpIt_ok (xs : List Int) : ∀ c, CupOk xs (cpIt xs c).1 (cpIt xs c).2
  | 0 => by
    rw [cpIt]
    refine ⟨fun j hj => ?_, by simp, fun k => ?_⟩
    · simp only [riseI_len] at hj
      simp only [riseI_get hj]; omega
    · simp only [riseI_len]
      rw [show (List.replicate xs.length ([] : List Int)).getD k [] = [] by
        rw [List.getD_eq_getElem?_getD, List.getElem?_replicate]; split <;> rfl]
      simp
  | c + 1 => by rw [cpIt]; exact cpRound_ok (cpIt_ok xs c)
theorem cpIt_len (xs : List Int) : ∀ c, (cpIt xs (c + 1)).1.length = ((cpIt xs c).1.length + 1) / 2
  | c => by rw [cpIt]; exact (cpRound_len xs _ _).1
/-- One is left when the rounds are over. -/
theorem cpIt_fin (xs : List Int) : ∀ c, 0 < xs.length → xs.length ≤ 2 ^ c → (cpIt xs c).1.length = 1 := by
  have key : ∀ c, 0 < xs.length → 1 ≤ (cpIt xs c).1.length ∧ ((cpIt xs c).1.length - 1) * 2 ^ c < xs.length := by
    intro c h0
    induction c with
    | zero => rw [cpIt]; simp only [riseI_len]; omega
    | succ c ih =>
      rw [cpIt_len]
      obtain ⟨a, b⟩ := ih
      refine ⟨by omega, Nat.lt_of_le_of_lt ?_ b⟩
      rw [Nat.pow_succ, ← Nat.mul_assoc, Nat.mul_right_comm]
      exact Nat.mul_le_mul_right _ (by omega)
  intro c h0 h
  obtain ⟨a, b⟩ := key c h0
  by_cases e : (cpIt xs c).1.length = 1
  · exact e
  · have : 1 * 2 ^ c ≤ ((cpIt xs c).1.length - 1) * 2 ^ c := Nat.mul_le_mul_right _ (by omega)
    omega
/-- The winner is a least key: all others have gone to a lesser or an equal one. -/
structure CupLow (xs now : List Int) : Prop where
  low : ∀ k, k < xs.length → ∃ j, j < now.length ∧ xs.getD (now.getD j 0).toNat 0 ≤ xs.getD k 0
theorem cpW_low (xs : List Int) (p q : Int) : xs.getD (cpW xs p q).toNat 0 ≤ xs.getD p.toNat 0 ∧ xs.getD (cpW xs p q).toNat 0 ≤ xs.getD q.toNat 0 := by
  unfold cpW; split <;> omega
theorem cpTo_get (xs now : List Int) (bt : List (List Int)) : ∀ j k, k < j → (cpTo xs now bt j).1.getD k 0 = cpW xs (now.getD (2 * k) 0) (now.getD (2 * k + 1) 0)
  | 0, k, h => by omega
  | j + 1, k, h => by
    have hl := (cpTo_len xs now bt j).1
    rw [cpTo]
    simp only
    by_cases e : k < j
    · rw [List.getD_eq_getElem?_getD, List.getElem?_append_left (by omega), ← List.getD_eq_getElem?_getD]; exact cpTo_get xs now bt j k e
    · obtain rfl : k = j := by omega
      rw [List.getD_eq_getElem?_getD, List.getElem?_append_right (by omega), hl, Nat.sub_self]; rfl
theorem cpRound_get (xs now : List Int) (bt : List (List Int)) {k : Nat} (h : k < now.length / 2) : (cpRound xs now bt).1.getD k 0 = cpW xs (now.getD (2 * k) 0) (now.getD (2 * k + 1) 0) := by
  have hl := (cpTo_len xs now bt (now.length / 2)).1
  unfold cpRound; split
  · simp only
    rw [List.getD_eq_getElem?_getD, List.getElem?_append_left (by omega), ← List.getD_eq_getElem?_getD]; exact cpTo_get xs now bt _ k h
  · exact cpTo_get xs now bt _ k h
theorem cpRound_last (xs now : List Int) (bt : List (List Int)) (h : now.length % 2 = 1) : (cpRound xs now bt).1.getD (now.length / 2) 0 = now.getD (now.length - 1) 0 := by
  have hl := (cpTo_len xs now bt (now.length / 2)).1
  unfold cpRound; rw [if_pos h]
  simp only
  rw [List.getD_eq_getElem?_getD, List.getElem?_append_right (by omega), hl, Nat.sub_self]; rfl
theorem cpRound_low {xs now : List Int} {bt : List (List Int)} (h : CupLow xs now) : CupLow xs (cpRound xs now bt).1 := by
  refine ⟨fun k hk => ?_⟩
  obtain ⟨j, hj, e⟩ := h.low k hk
  rw [(cpRound_len xs now bt).1]
  by_cases o : j / 2 < now.length / 2
  · refine ⟨j / 2, by omega, ?_⟩
    rw [cpRound_get xs now bt o]
    have a := cpW_low xs (now.getD (2 * (j / 2)) 0) (now.getD (2 * (j / 2) + 1) 0)
    rcases (show j = 2 * (j / 2) ∨ j = 2 * (j / 2) + 1 by omega) with q | q
    · rw [← q] at a; rw [← q]; exact Int.le_trans a.1 e
    · rw [← q] at a; rw [← q]; exact Int.le_trans a.2 e
  · refine ⟨now.length / 2, by omega, ?_⟩
    rw [cpRound_last xs now bt (by omega), show now.length - 1 = j by omega]; exact e
theorem cpIt_low (xs : List Int) : ∀ c, CupLow xs (cpIt xs c).1
  | 0 => ⟨fun k hk => ⟨k, by rw [cpIt]; simpa [riseI_len] using hk, by rw [cpIt]; simp only [riseI_get hk]; simp⟩⟩
  | c + 1 => by rw [cpIt]; exact cpRound_low (cpIt_low xs c)

/-- One index stands before another: a lesser key, or as great a one and first. -/
def lexI (xs : List Int) (a b : Int) : Prop := xs.getD a.toNat 0 < xs.getD b.toNat 0 ∨ xs.getD a.toNat 0 = xs.getD b.toNat 0 ∧ a ≤ b
theorem lexI_trans {xs : List Int} {a b c : Int} (h : lexI xs a b) (g : lexI xs b c) : lexI xs a c := by
  unfold lexI at *; omega
theorem lexI_refl (xs : List Int) (a : Int) : lexI xs a a := Or.inr ⟨rfl, Int.le_refl _⟩
structure CupIn (xs cur : List Int) (bt : List (List Int)) : Prop where
  rows : bt.length = xs.length
  up : cur.Pairwise (· < ·)
  idx : ∀ x ∈ cur, 0 ≤ x ∧ x < xs.length
  inn : ∀ k y, y ∈ bt.getD k [] → 0 ≤ y ∧ y < xs.length
  out : ∀ k y, y ∈ bt.getD k [] → y ∉ cur
  nd : ∀ k, (bt.getD k []).Nodup
  over : ∀ k y, y ∈ bt.getD k [] → lexI xs (k : Int) y
  low : ∀ k : Nat, k < xs.length → (k : Int) ∈ cur ∨ ∃ m : Nat, (m : Int) ∈ cur ∧ ∃ y ∈ bt.getD m [], lexI xs y k
theorem cpPut_get {bt : List (List Int)} {w l : Int} (h : w.toNat < bt.length) (k : Nat) : (cpPut bt w l).getD k [] = if w.toNat = k then bt.getD k [] ++ [l] else bt.getD k [] := by
  unfold cpPut
  split
  next e => subst e; rw [List.getD_eq_getElem?_getD, List.getElem?_set_self h]; rfl
  next e => rw [List.getD_eq_getElem?_getD, List.getElem?_set_ne e, ← List.getD_eq_getElem?_getD]
theorem cpWL (xs : List Int) {p q : Int} (h : p < q) : ((cpW xs p q = p ∧ cpL xs p q = q) ∨ (cpW xs p q = q ∧ cpL xs p q = p)) ∧ lexI xs (cpW xs p q) (cpL xs p q) := by
  unfold cpW cpL lexI; split
  next e => exact ⟨Or.inr ⟨rfl, rfl⟩, Or.inl e⟩
  next e => exact ⟨Or.inl ⟨rfl, rfl⟩, by omega⟩
theorem CupIn.meet {xs A B : List Int} {bt : List (List Int)} {p q : Int} (h : CupIn xs (A ++ p :: q :: B) bt) : CupIn xs (A ++ cpW xs p q :: B) (cpPut bt (cpW xs p q) (cpL xs p q)) := by
  have hup := h.up
  rw [List.pairwise_append] at hup
  obtain ⟨uA, uB, uAB⟩ := hup
  rw [List.pairwise_cons, List.pairwise_cons] at uB
  obtain ⟨up, uq, uB⟩ := uB
  have hpq : p < q := up q (by simp)
  obtain ⟨hwl, hlex⟩ := cpWL xs hpq
  generalize cpW xs p q = w at *
  generalize cpL xs p q = l at *
  have mw : w ∈ A ++ p :: q :: B := by rcases hwl with e | e <;> simp [e.1]
  have ml : l ∈ A ++ p :: q :: B := by rcases hwl with e | e <;> simp [e.2]
  have iw := h.idx w mw
  have il := h.idx l ml
  have hw : w.toNat < bt.length := by rw [h.rows]; omega
  have sub : ∀ x, x ∈ A ++ w :: B → x ∈ A ++ p :: q :: B := by
    intro x hx
    rcases List.mem_append.1 hx with a | a
    · exact List.mem_append.2 (Or.inl a)
    · rcases List.mem_cons.1 a with a | a
      · rw [a]; exact mw
      · exact List.mem_append.2 (Or.inr (List.mem_cons_of_mem _ (List.mem_cons_of_mem _ a)))
  have sup : ∀ x, x ∈ A ++ p :: q :: B → x = l ∨ x ∈ A ++ w :: B := by
    intro x hx
    simp only [List.mem_append, List.mem_cons] at hx ⊢
    rcases hwl with e | e <;> (rw [e.1, e.2]; rcases hx with a | a | a | a <;> simp [a])
  have nl : l ∉ A ++ w :: B := by
    intro hx
    rcases List.mem_append.1 hx with a | a
    · have := uAB l a p (by simp); have := uAB l a q (by simp)
      rcases hwl with e | e <;> omega
    · rcases List.mem_cons.1 a with a | a
      · rcases hwl with e | e <;> omega
      · have := up l (by simp [a]); have := uq l a
        rcases hwl with e | e <;> omega
  have row := cpPut_get (l := l) hw
  refine ⟨by unfold cpPut; rw [List.length_set]; exact h.rows, ?_, fun x hx => h.idx x (sub x hx), ?_, ?_, ?_, ?_, ?_⟩
  · rw [List.pairwise_append, List.pairwise_cons]
    refine ⟨uA, ⟨?_, uB⟩, ?_⟩
    · intro x hx
      have := up x (by simp [hx]); have := uq x hx
      rcases hwl with e | e <;> omega
    · intro a ha b hb
      have := uAB a ha p (by simp)
      have := uAB a ha q (by simp)
      rcases List.mem_cons.1 hb with e' | hb
      · rcases hwl with e | e <;> omega
      · exact uAB a ha b (by simp [hb])
  · intro k y hy
    rw [row] at hy
    split at hy
    · rcases List.mem_append.1 hy with a | a
      · exact h.inn k y a
      · rw [List.mem_singleton.1 a]; exact il
    · exact h.inn k y hy
  · intro k y hy hx
    rw [row] at hy
    split at hy
    · rcases List.mem_append.1 hy with a | a
      · exact h.out k y a (sub y hx)
      · rw [List.mem_singleton.1 a] at hx; exact nl hx
    · exact h.out k y hy (sub y hx)
  · intro k
    rw [row]
    split
    · rw [List.nodup_append]
      refine ⟨h.nd k, by simp, ?_⟩
      intro a ha b hb e
      rw [List.mem_singleton.1 hb] at e
      exact h.out k a ha (by rw [e]; exact ml)
    · exact h.nd k
  · intro k y hy
    rw [row] at hy
    split at hy
    next e =>
      rcases List.mem_append.1 hy with a | a
      · exact h.over k y a
      · rw [List.mem_singleton.1 a, show (k : Int) = w by omega]; exact hlex
    · exact h.over k y hy
  · intro k hk
    have lw : ∀ z, lexI xs l z → ∃ m : Nat, (m : Int) ∈ A ++ w :: B ∧ ∃ y ∈ (cpPut bt w l).getD m [], lexI xs y z := by
      intro z hz
      refine ⟨w.toNat, by rw [show ((w.toNat : Nat) : Int) = w by omega]; simp, l, ?_, hz⟩
      rw [row, if_pos rfl]; simp
    rcases h.low k hk with a | ⟨m, hm, y, hy, e⟩
    · rcases sup _ a with e | e
      · exact Or.inr (lw k (by rw [e]; exact lexI_refl xs l))
      · exact Or.inl e
    · rcases sup _ hm with e' | e'
      · have o := h.over m y hy
        rw [e'] at o
        exact Or.inr (lw k (lexI_trans o e))
      · refine Or.inr ⟨m, e', y, ?_, e⟩
        rw [row]; split
        · exact List.mem_append.2 (Or.inl hy)
        · exact hy

theorem drop_two {l : List Int} {i : Nat} (h : i + 1 < l.length) : l.drop i = l.getD i 0 :: l.getD (i + 1) 0 :: l.drop (i + 2) := by
  rw [List.drop_eq_getElem_cons (by omega), List.drop_eq_getElem_cons h, List.getD_eq_getElem?_getD, List.getD_eq_getElem?_getD, List.getElem?_eq_getElem (by omega), List.getElem?_eq_getElem h]; rfl
theorem CupIn.to {xs now : List Int} {bt : List (List Int)} (h : CupIn xs now bt) : ∀ j, 2 * j ≤ now.length → CupIn xs ((cpTo xs now bt j).1 ++ now.drop (2 * j)) (cpTo xs now bt j).2
  | 0, _ => by simpa [cpTo] using h
  | j + 1, hj => by
    have a := CupIn.to h j (by omega)
    rw [drop_two (by omega)] at a
    have b := a.meet
    rw [cpTo]
    simp only
    rw [List.append_assoc]
    exact b
theorem cpRound_eq (xs now : List Int) (bt : List (List Int)) : (cpRound xs now bt).1 = (cpTo xs now bt (now.length / 2)).1 ++ now.drop (2 * (now.length / 2)) ∧ (cpRound xs now bt).2 = (cpTo xs now bt (now.length / 2)).2 := by
  unfold cpRound
  split
  next o =>
    refine ⟨?_, rfl⟩
    simp only
    rw [List.drop_eq_getElem_cons (by omega), List.drop_of_length_le (by omega), List.getD_eq_getElem?_getD, List.getElem?_eq_getElem (by omega)]
    simp only [Option.getD_some]
    congr 2
    congr 1; omega
  next o => rw [List.drop_of_length_le (by omega), List.append_nil]; exact ⟨rfl, rfl⟩
theorem cpIt_in (xs : List Int) : ∀ c, CupIn xs (cpIt xs c).1 (cpIt xs c).2
  | 0 => by
    rw [cpIt]
    have nil : ∀ k, (List.replicate xs.length ([] : List Int)).getD k [] = [] := by
      intro k; rw [List.getD_eq_getElem?_getD, List.getElem?_replicate]; split <;> rfl
    refine ⟨by simp, ?_, ?_, fun k y hy => by simp only [nil] at hy; simp at hy, fun k y hy => by simp only [nil] at hy; simp at hy, fun k => by simp only [nil]; simp, fun k y hy => by simp only [nil] at hy; simp at hy, fun k hk => Or.inl ?_⟩
    · simp only [riseI]
      rw [List.pairwise_map]
      exact List.pairwise_lt_range.imp (fun h => by omega)
    · intro x hx
      simp only [riseI, List.mem_map, List.mem_range] at hx
      obtain ⟨k, hk, rfl⟩ := hx; omega
    · simp only [riseI, List.mem_map, List.mem_range]
      exact ⟨k, hk, rfl⟩
  | c + 1 => by
    rw [cpIt, (cpRound_eq xs _ _).1, (cpRound_eq xs _ _).2]
    exact (cpIt_in xs c).to _ (by omega)
theorem cpTo_won {xs now : List Int} {bt : List (List Int)} (h : CupIn xs now bt) (k : Nat) : ∀ j, 2 * j ≤ now.length → ((cpTo xs now bt j).2.getD k []).length ≤ (bt.getD k []).length + 1 ∧ ((k : Int) ∉ (cpTo xs now bt j).1 → ((cpTo xs now bt j).2.getD k []).length ≤ (bt.getD k []).length)
  | 0, _ => ⟨Nat.le_succ _, fun _ => Nat.le_refl _⟩
  | j + 1, hj => by
    obtain ⟨a, b⟩ := cpTo_won h k j (by omega)
    have c := CupIn.to h j (by omega)
    rw [drop_two (by omega)] at c
    have hup := c.up
    rw [List.pairwise_append] at hup
    obtain ⟨-, uB, uAB⟩ := hup
    have hlt := (List.pairwise_cons.1 uB).1 (now.getD (2 * j + 1) 0) (by simp)
    have hwl := (cpWL xs hlt).1
    have iw : 0 ≤ cpW xs (now.getD (2 * j) 0) (now.getD (2 * j + 1) 0) ∧ cpW xs (now.getD (2 * j) 0) (now.getD (2 * j + 1) 0) < xs.length := by
      rcases hwl with e | e <;> (rw [e.1]; exact c.idx _ (by simp))
    have nw : cpW xs (now.getD (2 * j) 0) (now.getD (2 * j + 1) 0) ∉ (cpTo xs now bt j).1 := by
      intro hx
      have := uAB _ hx (now.getD (2 * j) 0) (by simp)
      have := uAB _ hx (now.getD (2 * j + 1) 0) (by simp)
      rcases hwl with e | e <;> omega
    rw [cpTo]
    simp only
    rw [cpPut_get (by rw [c.rows]; omega)]
    split
    next e =>
      have hk : (k : Int) = cpW xs (now.getD (2 * j) 0) (now.getD (2 * j + 1) 0) := by omega
      have := b (by rw [hk]; exact nw)
      refine ⟨by rw [List.length_append, List.length_singleton]; omega, fun hn => ?_⟩
      exact absurd (List.mem_append.2 (Or.inr (by rw [hk]; exact List.mem_singleton.2 rfl))) hn
    next e => exact ⟨a, fun hn => b fun hm => hn (List.mem_append.2 (Or.inl hm))⟩
theorem cpIt_won (xs : List Int) (k : Nat) : ∀ c, ((cpIt xs c).2.getD k []).length ≤ c
  | 0 => by
    rw [cpIt]
    rw [show (List.replicate xs.length ([] : List Int)).getD k [] = [] by rw [List.getD_eq_getElem?_getD, List.getElem?_replicate]; split <;> rfl]
    exact Nat.le_refl _
  | c + 1 => by
    have a := cpIt_won xs k c
    have b := (cpTo_won (cpIt_in xs c) k ((cpIt xs c).1.length / 2) (by omega)).1
    rw [cpIt, (cpRound_eq xs _ _).2]; omega
/-- A round of one changes nothing. -/
theorem cpRound_one {xs now : List Int} {bt : List (List Int)} (h : now.length = 1) : cpRound xs now bt = (now, bt) := by
  obtain ⟨x, rfl⟩ := List.length_eq_one_iff.1 h
  simp [cpRound, cpTo]
theorem cpIt_more (xs : List Int) {c : Nat} (h : (cpIt xs c).1.length = 1) : ∀ d, cpIt xs (c + d) = cpIt xs c
  | 0 => rfl
  | d + 1 => by
    have := cpIt_more xs h d
    rw [← Nat.add_assoc, cpIt, this, cpRound_one h]
/-- The end of a cup: the first least key; all others are no less than one of those that it won against. -/
theorem cpIt_end {xs : List Int} {c : Nat} (h : (cpIt xs c).1.length = 1) : ∃ w : Nat, (cpIt xs c).1 = [(w : Int)] ∧ w < xs.length ∧ (∀ k, k < xs.length → lexI xs (w : Int) (k : Int)) ∧ (∀ k, k < xs.length → k ≠ w → ∃ y ∈ (cpIt xs c).2.getD w [], lexI xs y (k : Int)) ∧ ((cpIt xs c).2.getD w []).Nodup ∧ (∀ y ∈ (cpIt xs c).2.getD w [], 0 ≤ y ∧ y < xs.length ∧ y ≠ (w : Int)) ∧ ((cpIt xs c).2.getD w []).length ≤ c := by
  obtain ⟨x, e⟩ := List.length_eq_one_iff.1 h
  have a := cpIt_in xs c
  have ix := a.idx x (by rw [e]; simp)
  obtain ⟨w, rfl⟩ : ∃ w : Nat, x = (w : Int) := ⟨x.toNat, by omega⟩
  have key : ∀ k, k < xs.length → k ≠ w → ∃ y ∈ (cpIt xs c).2.getD w [], lexI xs y (k : Int) := by
    intro k hk ne
    rcases a.low k hk with b | ⟨m, hm, b⟩
    · rw [e, List.mem_singleton] at b; omega
    · rw [e, List.mem_singleton] at hm
      rw [show m = w by omega] at b; exact b
  refine ⟨w, e, by omega, fun k hk => ?_, key, a.nd w, fun y hy => ?_, cpIt_won xs w c⟩
  · by_cases ne : k = w
    · rw [ne]; exact lexI_refl xs _
    · obtain ⟨y, hy, b⟩ := key k hk ne
      exact lexI_trans (a.over w y hy) b
  · have b := a.inn w y hy
    have o := a.out w y hy
    rw [e, List.mem_singleton] at o
    exact ⟨b.1, b.2, o⟩
/-- The end of a cup of all keys. -/
def cupWin (xs : List Int) : Int := (cpIt xs xs.length).1.getD 0 0
def cupRows (xs : List Int) : List (List Int) := (cpIt xs xs.length).2
theorem two_pow (n : Nat) : n ≤ 2 ^ n := Nat.le_of_lt Nat.lt_two_pow_self
theorem cup_at {xs : List Int} {c : Nat} (h0 : 0 < xs.length) (h : (cpIt xs c).1.length = 1) : cupWin xs = (cpIt xs c).1.getD 0 0 ∧ cupRows xs = (cpIt xs c).2 := by
  unfold cupWin cupRows
  rcases Nat.le_total c xs.length with e | e
  · obtain ⟨d, hd⟩ : ∃ d, xs.length = c + d := ⟨xs.length - c, by omega⟩
    rw [hd, cpIt_more xs h d]; exact ⟨rfl, rfl⟩
  · obtain ⟨d, hd⟩ : ∃ d, c = xs.length + d := ⟨c - xs.length, by omega⟩
    rw [hd, cpIt_more xs (cpIt_fin xs xs.length h0 (two_pow _)) d]; exact ⟨rfl, rfl⟩
theorem dropL_one (h : Hp) (o : Nat) : dropL h [o] = upd h o none := by
  funext k; unfold dropL upd; by_cases e : k = o <;> simp [e]

/-- The pairs of a round and the last one alone. -/
def cpAt (xs now : List Int) (bt : List (List Int)) (j : Nat) : List Int × List (List Int) := if 2 * j ≤ now.length then cpTo xs now bt j else cpRound xs now bt
theorem cpAt_zero (xs now : List Int) (bt : List (List Int)) : cpAt xs now bt 0 = ([], bt) := by unfold cpAt; rw [if_pos (by omega)]; rfl
theorem cpAt_lt {xs now : List Int} {bt : List (List Int)} {j : Nat} (h : 2 * j + 1 < now.length) (hb : xs.getD (now.getD (2 * j + 1) 0).toNat 0 < xs.getD (now.getD (2 * j) 0).toNat 0) : cpAt xs now bt (j + 1) = ((cpAt xs now bt j).1 ++ [now.getD (2 * j + 1) 0], cpPut (cpAt xs now bt j).2 (now.getD (2 * j + 1) 0) (now.getD (2 * j) 0)) := by
  unfold cpAt; rw [if_pos (by omega), if_pos (by omega), cpTo]; unfold cpW cpL; rw [if_pos hb, if_pos hb]
theorem cpAt_ge {xs now : List Int} {bt : List (List Int)} {j : Nat} (h : 2 * j + 1 < now.length) (hb : ¬ xs.getD (now.getD (2 * j + 1) 0).toNat 0 < xs.getD (now.getD (2 * j) 0).toNat 0) : cpAt xs now bt (j + 1) = ((cpAt xs now bt j).1 ++ [now.getD (2 * j) 0], cpPut (cpAt xs now bt j).2 (now.getD (2 * j) 0) (now.getD (2 * j + 1) 0)) := by
  unfold cpAt; rw [if_pos (by omega), if_pos (by omega), cpTo]; unfold cpW cpL; rw [if_neg hb, if_neg hb]
theorem cpAt_odd {xs now : List Int} {bt : List (List Int)} {j : Nat} (h : 2 * j + 1 = now.length) : cpAt xs now bt (j + 1) = ((cpAt xs now bt j).1 ++ [now.getD (2 * j) 0], (cpAt xs now bt j).2) := by
  unfold cpAt; rw [if_neg (by omega), if_pos (by omega)]; unfold cpRound; rw [if_pos (by omega), show now.length / 2 = j by omega, show now.length - 1 = 2 * j by omega]
theorem cpAt_end {xs now : List Int} {bt : List (List Int)} {j : Nat} (h : now.length ≤ 2 * j) : cpAt xs now bt j = cpRound xs now bt := by
  unfold cpAt; split
  · unfold cpRound; rw [if_neg (by omega), show now.length / 2 = j by omega]
  · rfl
theorem cpAt_len {xs now : List Int} {bt : List (List Int)} (j : Nat) : (cpAt xs now bt j).2.length = bt.length ∧ (cpAt xs now bt j).1.length ≤ now.length := by
  unfold cpAt; split
  · have := cpTo_len xs now bt j; omega
  · have := cpRound_len xs now bt; omega
theorem cpAt_row {xs now : List Int} {bt : List (List Int)} (h : CupOk xs now bt) (j k : Nat) : ((cpAt xs now bt j).2.getD k []).length ≤ xs.length := by
  have := h.len k
  unfold cpAt; split
  · have := cpTo_row xs now bt k j; omega
  · have := (cpRound_ok h).len k; omega
structure CupSt (xs now : List Int) (bt : List (List Int)) (c : Nat) : Prop where
  e1 : now = (cpIt xs c).1
  e2 : bt = (cpIt xs c).2
  one : 1 ≤ now.length
  len : now.length ≤ xs.length
theorem CupSt.zero {xs : List Int} (h : 0 < xs.length) : CupSt xs (riseI xs.length) (List.replicate xs.length []) 0 := ⟨rfl, rfl, by rw [riseI_len]; exact h, by rw [riseI_len]; exact Nat.le_refl _⟩
theorem CupSt.up {xs now : List Int} {bt : List (List Int)} {c : Nat} (h : CupSt xs now bt c) {ws : List Int} {bs : List (List Int)} {j : Nat} (hj : now.length ≤ 2 * j) (h1 : ws = (cpAt xs now bt j).1) (h2 : bs = (cpAt xs now bt j).2) : CupSt xs ws bs (c + 1) ∧ ws.length = (now.length + 1) / 2 := by
  obtain ⟨e1, e2, h3, h4⟩ := h
  rw [cpAt_end hj] at h1 h2
  have := (cpRound_len xs now bt).1
  rw [← h1] at this
  exact ⟨⟨by rw [h1, e1, e2, cpIt], by rw [h2, e1, e2, cpIt], by omega, by omega⟩, this⟩
theorem CupSt.ok {xs now : List Int} {bt : List (List Int)} {c : Nat} (h : CupSt xs now bt c) : CupOk xs now bt := by rw [h.e1, h.e2]; exact cpIt_ok xs c
theorem CupSt.fin {xs now : List Int} {bt : List (List Int)} {c : Nat} (h0 : 0 < xs.length) (h : CupSt xs now bt c) (h1 : now.length = 1) : cupWin xs = now.getD 0 0 ∧ cupRows xs = bt := by
  rw [h.e1, h.e2]; exact cup_at h0 (by rw [← h.e1]; exact h1)

theorem dbl_pow : ∀ f n p c : Nat, n ≤ p + f → 0 < p → c ≤ dbl n p c ∧ n ≤ p * 2 ^ (dbl n p c - c)
  | 0, n, p, c, h, h0 => by rw [dbl_end (by omega), Nat.sub_self]; exact ⟨Nat.le_refl _, by simpa using h⟩
  | f + 1, n, p, c, h, h0 => by
    by_cases h1 : p < n
    · rw [← dbl_go h0 h1]
      obtain ⟨a, b⟩ := dbl_pow f n (2 * p) (c + 1) (by omega) (by omega)
      refine ⟨by omega, ?_⟩
      rw [show dbl n (2 * p) (c + 1) - c = dbl n (2 * p) (c + 1) - (c + 1) + 1 by omega, Nat.pow_succ, Nat.mul_comm _ 2, ← Nat.mul_assoc, Nat.mul_comm p 2]
      exact b
    · rw [dbl_end (by omega), Nat.sub_self]; exact ⟨Nat.le_refl _, by simp; omega⟩

end Go.Proofs.Ythknhcgdbpgcjaa
