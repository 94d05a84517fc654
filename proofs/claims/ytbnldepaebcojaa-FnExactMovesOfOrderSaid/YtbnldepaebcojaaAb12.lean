/- From a slice that came in to what a contract is told; a law out of its contract. -/
import Derived.Test.YtbnldepaebcojaaAb11
import Derived.Tactics
namespace Go.Ab
set_option linter.all false
open Go Go.RowKit

/-- A slice of integers that came in: nil, or a row of 'cap' cells, of which the first 'len' are its elements. -/
def IsRow (k : IntKind) (w : World) (a : Option Addr) (len cap : Nat) (zs : List Int) : Prop :=
  (a = none ∧ len = 0 ∧ cap = 0 ∧ zs = []) ∨
  ∃ x, a = some x ∧ len ≤ cap ∧ cap ≤ maxLen ∧ zs.length = cap ∧ (∀ i, i < zs.length → w.cell? (x.add i) = some (.int k (zs.getD i 0))) ∧ ∀ n ∈ zs, (Lit.int k n).wf = true

theorem IsRow.len_le {k : IntKind} {w : World} {a : Option Addr} {len cap : Nat} {zs : List Int} (h : IsRow k w a len cap zs) : (zs.take len).length ≤ 9223372036854775807 := by
  rcases h with ⟨_, rfl, _, rfl⟩ | ⟨x, _, h1, h2, h3, _⟩
  · simp
  · unfold maxLen at h2
    rw [List.length_take]
    omega

theorem view_row {k : IntKind} {w : World} {a : Option Addr} {len cap : Nat} {zs : List Int} (h : IsRow k w a len cap zs) : View w (.row (.ints k (zs.take len))) (.slice a len cap) := by
  rcases h with ⟨rfl, rfl, rfl, rfl⟩ | ⟨x, rfl, h1, h2, h3, h4, _⟩
  · exact nil_row w rfl rfl rfl
  · simp only [View]
    have hl : (Cont.ints k (zs.take len)).len = len := by simp only [Cont.len, List.length_take]; omega
    refine ⟨rfl, ?_⟩
    by_cases h0 : cap = 0
    · subst h0
      have hl0 : len = 0 := by omega
      subst hl0
      refine ⟨⟨0, 0, 0, []⟩, ⟨_, _, by rw [hl], Nat.le_refl _, fun h => absurd rfl h, rfl⟩, ⟨fun i b hb => ?_, trivial⟩, by rw [hl]; exact Nat.le_refl _, fun b hb => ?_⟩
      · simp [Cont.flat] at hb
      · simp [blks] at hb
    · have hc0 := h4 0 (by omega)
      have hsp : x.spot = none := by
        cases hs : x.spot with
        | none => rfl
        | some q =>
          have e : x.add 0 = x := by simp [Addr.add]
          rw [e] at hc0
          unfold World.cell? at hc0
          rw [hs] at hc0
          simp at hc0
          split at hc0 <;> simp at hc0
      have hx : x = ⟨x.block, x.off, none⟩ := by cases x; simp only at hsp; subst hsp; rfl
      have hadd : ∀ i, x.add i = ⟨x.block, x.off + i, none⟩ := fun i => by rw [hx]; exact addr_add _ _ _
      refine ⟨⟨x.block, x.off, cap, []⟩, ⟨_, _, by rw [hl], by rw [hl]; exact h1, fun _ => by rw [hx]; simp, by simp⟩, ⟨fun i b hb => ?_, trivial⟩, by rw [hl]; exact h1, fun b hb => ?_⟩
      · simp only [Cont.flat, List.getElem?_map, Option.map_eq_some_iff, List.getElem?_take] at hb
        obtain ⟨n, hn, rfl⟩ := hb
        split at hn
        · rename_i hi
          have hlt := (List.getElem?_eq_some_iff.1 hn).1
          have := h4 i hlt
          rw [hadd, List.getD_eq_getElem?_getD, hn] at this
          exact ⟨.int k n, this, rfl, by simp [Rep]⟩
        · cases hn
      · rw [blks_simple rfl] at hb
        simp only [h0, if_false, List.mem_singleton] at hb
        subst hb
        have := World.block_lt_of_cell? w _ hc0
        rw [hadd] at this
        exact this

theorem nxt {A B C : Prop} (hC : C) (hB : B) (hA : A) : A ∧ B ∧ C := ⟨hA, hB, hC⟩
theorem av_int {k : IntKind} {a b : Int} (h : a = b) : AV.val (.int k a) = AV.val (.int k b) := by rw [h]
theorem av_sl {o off off' len len' es : Nat} {lim : Option Nat} (h1 : off = off') (h : len = len') : AV.sl o off len es lim = AV.sl o off' len' es lim := by rw [h1, h]
theorem viewL_nil {w : World} : ViewL w [] [] := by simp [ViewL]
theorem viewL_cons {w : World} {d : DV} {x : Value} {ds : List DV} {xs : List Value} (h1 : View w d x) (h2 : ViewL w ds xs) : ViewL w (d :: ds) (x :: xs) := by simp only [ViewL]; exact ⟨h1, h2⟩
theorem view_val {w : World} {v : Value} : View w (.val v) v := by simp only [View]

theorem aAppend_ints {tab : Tab} {h : Hp} {n : Nat} {t e : TypeId} {i : TI} {z : Value} {o p len kk : Nat} {lim : Option Nat} {rw2 : Bool} {k k' : IntKind} {xs ys : List Int} {K : AV → Hp → Nat → Prop} (hty : tyOf tab t = some (.slice e)) (hi : tab e = some i) (h1 : i.size = 1) (hz : i.zero = [z]) (hb : i.bytes ≤ 8)
    (hp : h p = some ⟨rw2, .ints k' ys⟩) (ho : h o = some ⟨true, .ints k xs⟩) (hkk : k = k') (hne : o ≠ p) (hl : xs.length = len) (hk : ys.length = kk) (hle : len + kk ≤ 16777216)
    (hK : K (.sl n 0 (len + kk) 1 none) (upd (upd h o none) n (some ⟨true, .ints k (xs ++ ys)⟩)) (n + 1)) : aAppend tab h n t (.sl o 0 len 1 none) (.sl p 0 kk 1 lim) K := by
  subst hkk
  refine .inl ⟨e, i, z, kk, .ints k ys, hty, hi, h1, hz, .inl ⟨p, 0, lim, _, rfl, hp, ?_, ?_⟩, .inr ⟨o, len, _, .ints k xs, _, rfl, ho, rfl, ?_, ?_, ?_, by omega, ?_, hK⟩⟩
  · simp [winOf, ← hk]
  · simp [Cont.flat, hk]
  · simp [Cont.flat, hl]
  · simp [winOf, ← hl]
  · simp [catOf]
  · have := Nat.mul_le_mul (hle) hb
    omega
theorem aAppend2_ints {tab : Tab} {h : Hp} {n : Nat} {t e : TypeId} {i : TI} {z : Value} {o p len kk : Nat} {lim : Option Nat} {rw2 : Bool} {k k' : IntKind} {xs ys : List Int} {K : AV → Hp → Nat → Prop} (hty : tyOf tab t = some (.slice e)) (hi : tab e = some i) (h1 : i.size = 1) (hz : i.zero = [z]) (hb : i.bytes ≤ 8)
    (hp : h p = some ⟨rw2, .ints k' ys⟩) (ho : h o = some ⟨true, .ints k xs⟩) (hkk : k = k') (hne : o ≠ p) (hl : xs.length = len) (hk : ys.length = kk) (hle : len + kk ≤ 16777216)
    (hK : K (.sl n 0 (len + kk) 1 none) (upd (upd h o none) n (some ⟨true, .ints k (xs ++ ys)⟩)) (n + 1)) : aAppend2 tab h n t (.sl o 0 len 1 none) (.sl p 0 kk 1 lim) K := by
  subst hkk
  refine ⟨e, i, z, kk, .ints k ys, hty, hi, h1, hz, .inl ⟨p, 0, lim, _, rfl, hp, ?_, ?_⟩, .inr ⟨o, len, _, .ints k xs, _, rfl, ho, rfl, ?_, ?_, ?_, by omega, ?_, hK⟩⟩
  · simp [winOf, ← hk]
  · simp [Cont.flat, hk]
  · simp [Cont.flat, hl]
  · simp [winOf, ← hl]
  · simp [catOf]
  · have := Nat.mul_le_mul (hle) hb
    omega
theorem aAppend_none {tab : Tab} {h : Hp} {n : Nat} {t e : TypeId} {i : TI} {z : Value} {p kk : Nat} {lim : Option Nat} {rw2 : Bool} {k : IntKind} {ys : List Int} {K : AV → Hp → Nat → Prop} (hty : tyOf tab t = some (.slice e)) (hi : tab e = some i) (h1 : i.size = 1) (hz : i.zero = [z]) (hb : i.bytes ≤ 8)
    (hp : h p = some ⟨rw2, .ints k ys⟩) (hk : ys.length = kk) (hle : kk ≤ 16777216)
    (hK : K (.sl n 0 kk 1 none) (upd h n (some ⟨true, .ints k ys⟩)) (n + 1)) : aAppend tab h n t (.val (.slice none 0 0)) (.sl p 0 kk 1 lim) K := by
  refine .inl ⟨e, i, z, kk, .ints k ys, hty, hi, h1, hz, .inl ⟨p, 0, lim, _, rfl, hp, ?_, ?_⟩, .inl ⟨rfl, by omega, ?_, hK⟩⟩
  · simp [winOf, ← hk]
  · simp [Cont.flat, hk]
  · have := Nat.mul_le_mul (hle) hb
    omega
/-- Onto a row of which only the beginning is kept, and of a part of a row. -/
theorem aAppend_win {tab : Tab} {h : Hp} {n : Nat} {t e : TypeId} {i : TI} {z : Value} {o p len kk off : Nat} {lim : Option Nat} {rw2 : Bool} {k k' : IntKind} {xs ys : List Int} {K : AV → Hp → Nat → Prop} (hty : tyOf tab t = some (.slice e)) (hi : tab e = some i) (h1 : i.size = 1) (hz : i.zero = [z]) (hb : i.bytes ≤ 8)
    (hp : h p = some ⟨rw2, .ints k' ys⟩) (ho : h o = some ⟨true, .ints k xs⟩) (hkk : k = k') (hne : o ≠ p) (hl : xs.length = len) (hk : off + kk ≤ ys.length) (hle : len + kk ≤ 16777216)
    (hK : K (.sl n 0 (len + kk) 1 none) (upd (upd h o none) n (some ⟨true, .ints k (xs ++ ((ys.drop off).take kk))⟩)) (n + 1)) : aAppend tab h n t (.sl o 0 len 1 none) (.sl p off kk 1 lim) K := by
  subst hkk
  refine .inl ⟨e, i, z, kk, .ints k ((ys.drop off).take kk), hty, hi, h1, hz, .inl ⟨p, off, lim, _, rfl, hp, ?_, ?_⟩, .inr ⟨o, len, _, .ints k xs, _, rfl, ho, rfl, ?_, ?_, ?_, by omega, ?_, hK⟩⟩
  · simp [winOf]
  · simpa [Cont.flat] using hk
  · simp [Cont.flat, hl]
  · simp [winOf, ← hl]
  · simp [catOf]
  · have := Nat.mul_le_mul (hle) hb
    omega
/-- One number more, behind a row of rows of one's own. -/
theorem aAppend_psl {tab : Tab} {h : Hp} {n : Nat} {t e : TypeId} {i : TI} {z : Value} {o p j len kk : Nat} {lim : Option Nat} {rw2 : Bool} {k k' : IntKind} {xss : List (List Int)} {ys : List Int} {K : AV → Hp → Nat → Prop} (hty : tyOf tab t = some (.slice e)) (hi : tab e = some i) (h1 : i.size = 1) (hz : i.zero = [z]) (hb : i.bytes ≤ 8)
    (hp : h p = some ⟨rw2, .ints k' ys⟩) (ho : h o = some ⟨true, .rows k xss none⟩) (hkk : k = k') (hj : j < xss.length) (hpn : p ≠ n) (hl : len = (xss.getD j []).length) (hk : ys.length = kk) (hle : len + kk ≤ 16777216)
    (hK : K (.sl (n + 1) 0 (len + kk) 1 none) (upd (upd (upd (upd h o (some ⟨true, .rows k xss (some j)⟩)) n (some ⟨true, .ints k (xss.getD j [])⟩)) n none) (n + 1) (some ⟨true, .ints k (xss.getD j [] ++ ys)⟩)) (n + 1 + 1)) : aAppend tab h n t (.psl o j 0 len none) (.sl p 0 kk 1 lim) K := by
  have hop : p ≠ o := fun e => by subst e; rw [hp] at ho; cases ho
  refine .inr (.inl ⟨o, j, len, k, xss, rfl, ho, hj, hl, ?_⟩)
  have hx : (upd (upd h o (some ⟨true, .rows k xss (some j)⟩)) n (some ⟨true, .ints k (xss.getD j [])⟩)) p = some ⟨rw2, .ints k' ys⟩ := by rw [upd_ne _ _ hpn, upd_ne _ _ hop]; exact hp
  exact aAppend2_ints hty hi h1 hz hb hx (upd_same _ _ _) hkk (Ne.symm hpn) hl.symm hk hle hK
/-- Elements of several cells are put behind. -/
theorem aAppendE_ints {tab : Tab} {h : Hp} {n : Nat} {t e : TypeId} {i : TI} {o p len kk es : Nat} {lim : Option Nat} {rw2 : Bool} {k : IntKind} {xs ys : List Int} {K : AV → Hp → Nat → Prop} (hty : tyOf tab t = some (.slice e)) (hi : tab e = some i) (h1 : i.size = es) (hz : i.zero.length = es) (hb : i.bytes ≤ 8 * es) (hes : es ≤ 8) (hes0 : 0 < es)
    (hp : h p = some ⟨rw2, .ints k ys⟩) (ho : h o = some ⟨true, .ints k xs⟩) (hl : xs.length = len * es) (hk : ys.length = kk * es) (hk0 : 0 < kk) (hle : len + kk ≤ 1000)
    (hK : K (.sl n 0 (len + kk) es none) (upd (upd h o none) n (some ⟨true, .ints k (xs ++ ys)⟩)) (n + 1)) : aAppend tab h n t (.sl o 0 len es none) (.sl p 0 kk es lim) K := by
  subst h1
  refine .inr (.inr (.inl ⟨e, i, kk, .ints k ys, p, 0, lim, _, hty, hi, hz, rfl, hp, ?_, ?_, Nat.mul_pos hk0 hes0, .inr ⟨o, len, _, .ints k xs, _, rfl, ho, rfl, ?_, ?_, ?_, by omega, ?_, hK⟩⟩))
  · simp [winOf, ← hk]
  · simp [Cont.flat, hk]
  · simp [Cont.flat, hl]
  · simp [winOf, ← hl]
  · simp [catOf]
  · have := Nat.mul_le_mul hle (show i.bytes ≤ 64 by omega)
    omega
/-- Onto a row of which older slices are still read: two outcomes. -/
theorem aAppendB_ints {tab : Tab} {h : Hp} {n : Nat} {t e : TypeId} {i : TI} {o p len kk es : Nat} {lim : Option Nat} {rw2 : Bool} {k : IntKind} {xs ys : List Int} {K : AV → Hp → Nat → Prop} (hty : tyOf tab t = some (.slice e)) (hi : tab e = some i) (h1 : i.size = es) (hz : i.zero.length = es) (hb : i.bytes ≤ 8 * es) (hes : es ≤ 8) (hes0 : 0 < es) (hop : o ≠ p)
    (hp : h p = some ⟨rw2, .ints k ys⟩) (ho : h o = some ⟨true, .ints k xs⟩) (hl : xs.length = len * es) (hk : ys.length = kk * es) (hk0 : 0 < kk) (hle : len + kk ≤ 1000)
    (hK1 : K (.sl n 0 (len + kk) es none) (upd h n (some ⟨true, .ints k (xs ++ ys)⟩)) (n + 1)) (hK2 : K (.sl o 0 (len + kk) es none) (upd h o (some ⟨true, .ints k (xs ++ ys)⟩)) n) : aAppend tab h n t (.sl o 0 len es none) (.sl p 0 kk es lim) K := by
  subst h1
  refine .inr (.inr (.inr (.inl ⟨e, i, kk, .ints k ys, p, 0, lim, _, hty, hi, hz, rfl, hp, ?_, ?_, Nat.mul_pos hk0 hes0, o, len, _, .ints k xs, _, rfl, ho, rfl, hop, ?_, ?_, ?_, by omega, ?_, hK1, hK2⟩)))
  · simp [winOf, ← hk]
  · simp [Cont.flat, hk]
  · simp [Cont.flat, hl]
  · simp [winOf, ← hl]
  · simp [catOf]
  · have := Nat.mul_le_mul hle (show i.bytes ≤ 64 by omega)
    omega
theorem aAppendE_cells {tab : Tab} {h : Hp} {n : Nat} {t e : TypeId} {i : TI} {o p len kk es : Nat} {lim : Option Nat} {rw2 : Bool} {xs ys : List AV} {K : AV → Hp → Nat → Prop} (hty : tyOf tab t = some (.slice e)) (hi : tab e = some i) (h1 : i.size = es) (hz : i.zero.length = es) (hb : i.bytes ≤ 24 * es) (hes : es ≤ 8) (hes0 : 0 < es)
    (hp : h p = some ⟨rw2, .cells ys⟩) (ho : h o = some ⟨true, .cells xs⟩) (hl : xs.length = len * es) (hk : ys.length = kk * es) (hk0 : 0 < kk) (hle : len + kk ≤ 1000)
    (hK : K (.sl n 0 (len + kk) es none) (upd (upd h o none) n (some ⟨true, .cells (xs ++ ys)⟩)) (n + 1)) : aAppend tab h n t (.sl o 0 len es none) (.sl p 0 kk es lim) K := by
  subst h1
  refine .inr (.inr (.inl ⟨e, i, kk, .cells ys, p, 0, lim, _, hty, hi, hz, rfl, hp, ?_, ?_, Nat.mul_pos hk0 hes0, .inr ⟨o, len, _, .cells xs, _, rfl, ho, rfl, ?_, ?_, ?_, by omega, ?_, hK⟩⟩))
  · simp [winOf, ← hk]
  · simp [Cont.flat, hk]
  · simp [Cont.flat, hl]
  · simp [winOf, ← hl]
  · simp [catOf]
  · have := Nat.mul_le_mul hle (show i.bytes ≤ 192 by omega)
    omega
/-- Nothing is put behind: of slices, or nil. -/
theorem aAppend_zero {tab : Tab} {h : Hp} {n : Nat} {t e : TypeId} {i : TI} {o p len off es es' : Nat} {lim : Option Nat} {K : AV → Hp → Nat → Prop} (hty : tyOf tab t = some (.slice e)) (hi : tab e = some i) (hK : K (.sl o 0 len es none) h n) : aAppend tab h n t (.sl o 0 len es none) (.sl p off 0 es' lim) K :=
  .inr (.inr (.inr (.inr ⟨e, i, hty, hi, .inl ⟨o, len, es, rfl⟩, .inr ⟨p, off, es', lim, rfl⟩, hK⟩)))
theorem aAppend_zeroN {tab : Tab} {h : Hp} {n : Nat} {t e : TypeId} {i : TI} {o len es : Nat} {K : AV → Hp → Nat → Prop} (hty : tyOf tab t = some (.slice e)) (hi : tab e = some i) (hK : K (.sl o 0 len es none) h n) : aAppend tab h n t (.sl o 0 len es none) (.val (.slice none 0 0)) K :=
  .inr (.inr (.inr (.inr ⟨e, i, hty, hi, .inl ⟨o, len, es, rfl⟩, .inl rfl, hK⟩)))
/-- A row of rows is put behind. -/
theorem aAppend_row {tab : Tab} {h : Hp} {n : Nat} {t e : TypeId} {i : TI} {z : Value} {o p j off len kk : Nat} {lim : Option Nat} {rw2 : Bool} {k k' : IntKind} {xs : List Int} {xss : List (List Int)} {K : AV → Hp → Nat → Prop} (hty : tyOf tab t = some (.slice e)) (hi : tab e = some i) (h1 : i.size = 1) (hz : i.zero = [z]) (hb : i.bytes ≤ 8)
    (hp : h p = some ⟨rw2, .rows k' xss none⟩) (ho : h o = some ⟨true, .ints k xs⟩) (hkk : k = k') (hj : j < xss.length) (hk : off + kk ≤ (xss.getD j []).length) (hl : len ≤ xs.length) (hle : len + kk ≤ 16777216)
    (hK : K (.sl n 0 (len + kk) 1 none) (upd (upd h o none) n (some ⟨true, .ints k (xs.take len ++ (((xss.getD j []).drop off).take kk))⟩)) (n + 1)) : aAppend tab h n t (.sl o 0 len 1 none) (.psl p j off kk lim) K := by
  subst hkk
  refine .inl ⟨e, i, z, kk, .ints k (((xss.getD j []).drop off).take kk), hty, hi, h1, hz, .inr (.inl ⟨p, j, off, lim, _, _, _, _, rfl, hp, hj, by simp, hk, rfl⟩), .inr ⟨o, len, _, .ints k (xs.take len), _, rfl, ho, rfl, ?_, ?_, ?_, by omega, ?_, hK⟩⟩
  · simp [Cont.flat, hl]
  · simp [winOf]
  · simp [catOf]
  · have := Nat.mul_le_mul (hle) hb
    omega

theorem aCopy_ints {tab : Tab} {h : Hp} {n : Nat} {t e : TypeId} {o off len p off2 kk : Nat} {lim lim2 : Option Nat} {rw2 : Bool} {k : IntKind} {xs ys : List Int} {K : AV → Hp → Nat → Prop} (hty : tyOf tab t = some (.slice e)) (hsz : szOf tab e = some 1)
    (ho : h o = some ⟨true, .ints k xs⟩) (hl : off + len ≤ xs.length) (hp : h p = some ⟨rw2, .ints k ys⟩) (hne : o ≠ p) (hk : off2 + kk ≤ ys.length)
    (hK : K (.val (.int .i64 (Nat.min kk len : Nat))) (upd h o (some ⟨true, .ints k (xs.take off ++ (ys.drop off2).take (Nat.min kk len) ++ xs.drop (off + ((ys.drop off2).take (Nat.min kk len)).length))⟩)) n) : aCopy tab h n t (.sl o off len 1 lim) (.sl p off2 kk 1 lim2) K := by
  refine ⟨e, o, off, len, lim, _, hty, hsz, rfl, ho, rfl, by simpa [Cont.flat] using hl, .inr ⟨p, off2, kk, lim2, _, .ints k ((ys.drop off2).take (Nat.min kk len)), _, rfl, hne, hp, by simpa [Cont.flat] using hk, ?_, ?_, hK⟩⟩
  · simp only [winOf]
  · simp only [spliceOf, if_true]
theorem aStoreAll_ints {tab : Tab} {h : Hp} {n : Nat} {t : TypeId} {o : Nat} {k : IntKind} {old xs : List Int} {K : AV → Hp → Nat → Prop} (ho : h o = some ⟨true, .ints k old⟩) (hl : old.length = xs.length) (hp : 0 < xs.length) (hsz : szOf tab t = some xs.length)
    (hK : K .any (upd h o (some ⟨true, .ints k xs⟩)) n) : ∃ c', aStoreAll tab h n t (.ref o 0) (.agg (xs.map fun n => .val (.int k n))) c' K := by
  refine ⟨.ints k xs, .inl ⟨_, ho, rfl, rfl, rfl, by simpa using hp, by simp [Cont.flat, hl], by simpa using hsz, ?_, rfl, hK⟩⟩
  exact List.all_eq_true.2 fun a ha => by obtain ⟨m, _, rfl⟩ := List.mem_map.1 ha; rfl
/-- Numbers are stored into a part of a row. -/
theorem aStoreAt_ints {tab : Tab} {h : Hp} {n : Nat} {t : TypeId} {o p : Nat} {k : IntKind} {xs ys : List Int} {K : AV → Hp → Nat → Prop} (ho : h o = some ⟨true, .ints k xs⟩) (hp : 0 < ys.length) (hle : p + ys.length ≤ xs.length) (hsz : szOf tab t = some ys.length)
    (hK : K .any (upd h o (some ⟨true, .ints k (xs.take p ++ ys ++ xs.drop (p + ys.length))⟩)) n) : ∃ c', aStoreAll tab h n t (.ref o p) (.agg (ys.map fun n => .val (.int k n))) c' K := by
  refine ⟨.ints k _, .inr ⟨_, ho, rfl, rfl, rfl, by simpa using hp, by simpa [Cont.flat] using hle, by simpa using hsz, ?_, by simp [Cont.flat], hK⟩⟩
  exact List.all_eq_true.2 fun a ha => by obtain ⟨m, _, rfl⟩ := List.mem_map.1 ha; rfl
theorem matL_ints {rw : Bool} {k : IntKind} : ∀ {xs : List Int} {h : Hp} {n : Nat}, mat.matL rw (xs.map fun n => DV.val (.int k n)) h n = (xs.map fun n => AV.val (.int k n), h, n)
  | [], _, _ => by simp only [List.map_nil, mat.matL]
  | x :: xs, h, n => by simp only [List.map_cons, mat.matL, mat, matL_ints]
theorem viewsK_ints {h : Hp} {k : IntKind} : ∀ {xs : List Int} {K : List DV → Prop}, viewsK h (xs.map fun n => AV.val (.int k n)) K = K (xs.map fun n => DV.val (.int k n))
  | [], _ => by simp only [List.map_nil, viewsK]
  | x :: xs, K => by simp only [List.map_cons, viewsK, viewK, viewsK_ints]
theorem retsK_ints {h : Hp} {k : IntKind} : ∀ {xs : List Int} {K : List DV → Prop}, retsK h (xs.map fun n => AV.val (.int k n)) K = K (xs.map fun n => DV.val (.int k n))
  | [], _ => by simp only [List.map_nil, retsK]
  | x :: xs, K => by simp only [List.map_cons, retsK, retK, retsK_ints]
theorem idsL_ints {k : IntKind} : ∀ {xs : List Int}, AV.idsL (xs.map fun n => AV.val (.int k n)) = []
  | [] => by simp only [List.map_nil, AV.idsL]
  | x :: xs => by simp only [List.map_cons, AV.idsL, AV.ids, idsL_ints, List.append_nil]

/-! The rules by which an operation is carried out. -/
attribute [go_sem] step1 aop rop aBuildSliceE aInsert aMakeMap rLookup rMkI rAssert rNilI Ty.conc aRange aStoreNone Option.some.injEq St.set St.ev Bool.false_eq_true if_false if_true upd rBin rUn rNil rIndexAddr rIndex rLoad rConv rField rFieldAddr partOf cellOf rBuiltin rMax rSlice rSliceL rSlice3 loOf rExtract tyOf szOf tabAgg Ty.isAgg Ty.one aAlloc aBox aStore setIn aMake aMake2 aBuildSlice zcont packZ pack packInts packStrs catOf winOf Cont.flat inOrder AV.cell Value.oneCell' List.all_cons List.all_nil Bool.and_self Bool.and_true Bool.true_and List.length_map List.length_append List.take_succ_cons List.take_zero InR ite_true ite_false true_and and_true exists_eq_left' exists_eq_left exists_and_left AV.val.injEq AV.sl.injEq Value.bool.injEq Value.int.injEq Option.some.injEq Ty.int.injEq Ty.slice.injEq Ob.mk.injEq List.map_cons List.map_nil List.length_cons List.length_nil Option.map_some Option.map_none decide_eq_true_eq decide_eq_false_iff_not decide_true decide_false Bool.not_true Bool.not_false not_true not_false_eq_true Int.toNat_natCast Nat.mul_one Nat.zero_add Nat.add_zero List.drop_zero List.take_length Bool.not_eq_true' Bool.not_eq_false' beq_self_eq_true implies_true ne_eq false_implies forall_const imp_self viewsK viewK viewC List.cons.injEq DV.val.injEq DV.row.injEq Cont.ints.injEq mat Nat.le_refl Cont.len false_and exists_false and_self exists_const

/-- A law out of its contract. -/
theorem walk_law {P : Program} {f : FuncId} {S : Ctr} (hS : Sat P f S) {args : List Value} {ds : List DV} {w : World} (hv : ViewL w ds args) (hs : ∀ Q : DV → Prop, Q (.val (.bool true)) → S ds Q) :
    Calls P f args.toArray w fun e w' => e = .returned (.bool true) ∧ Below w.heap.size w w' := by
  refine (hS w args ds (fun r => r = .val (.bool true)) hv (hs _ rfl)).mono ?_
  rintro e w' ⟨v, r, bs, rfl, rfl, hg, hf, _⟩
  simp only [Fresh] at hf
  obtain ⟨rfl, _⟩ := hf
  exact ⟨rfl, hg⟩
end Go.Ab
