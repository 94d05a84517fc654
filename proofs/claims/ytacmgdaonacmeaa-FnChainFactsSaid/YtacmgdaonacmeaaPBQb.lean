/- Contracts of functions of the program. -/
import Derived.Test.YtacmgdaonacmeaaPBQa
import Derived.ScopeJumps
namespace Go.Proofs.Ytacmgdaonacmeaa
open Go Go.Ab
set_option linter.all false
set_option maxHeartbeats 4000000

theorem aStoreAll_cells {tab : Tab} {h : Hp} {n : Nat} {t : TypeId} {o : Nat} {old al : List AV} {K : AV → Hp → Nat → Prop} (ho : h o = some ⟨true, .cells old⟩) (hl : old.length = al.length) (hp : 0 < al.length) (hsz : szOf tab t = some al.length) (hc : al.all AV.cell = true)
    (hK : K .any (upd h o (some ⟨true, .cells al⟩)) n) : ∃ c', aStoreAll tab h n t (.ref o 0) (.agg al) c' K :=
  ⟨.cells al, .inl ⟨_, ho, rfl, rfl, rfl, hp, by simpa [Cont.flat] using hl, by simpa using hsz, hc, rfl, hK⟩⟩
/-- A piece of code with labels, through which one goes without a goto. -/
def noGotoA (Q : Exit → St → Prop) : Exit → St → Prop
  | .goto _, _ => False
  | e, s => Q e s
theorem noGotoA_normal (Q : Exit → St → Prop) (s : St) : noGotoA Q .normal s = Q .normal s := rfl
theorem noGotoA_exit (Q : Exit → St → Prop) (s : St) (i : Nat) : noGotoA Q (.exit i) s = Q (.exit i) s := rfl
theorem noGotoA_ret (Q : Exit → St → Prop) (s : St) : noGotoA Q .ret s = Q .ret s := rfl
theorem awp_scope {P : Program} {Γ : Ctx} {nt : Nat} {Q : Exit → St → Prop} {s : St} {c : Code} (h : AWP Γ nt P c (noGotoA Q) s) (hF : Γ.F = false := by rfl) : AWP Γ nt P (.scope c) Q s := fun hS C hC hr m a w hs => by
  have hn : C.r = none := by rw [hF] at hr; cases hc : C.r with | none => rfl | some l => rw [hc] at hr; cases hr
  have h1 := h hS C hC hr m a w hs
  rw [hn] at h1 ⊢
  refine (wpIn_wide (n := 0)).2 (wp_scope_straight (wp_mono ((wpIn_wide (n := 0)).1 h1) fun e a' w' hp => ?_))
  cases e with
  | goto l => obtain ⟨_, _, _, _, _, _, hq⟩ := hp; exact hq.elim
  | _ => exact hp
def swp (xs : List Int) (a b : Nat) : List Int := (xs.set a (xs.getD b 0)).set b (xs.getD a 0)
theorem swp_len (xs : List Int) (a b : Nat) : (swp xs a b).length = xs.length := by simp [swp]
/-- A key goes ahead by steps: what is there, how often was asked, how often moved. -/
def insIn (st : Nat) (k : Nat) (xs : List Int) (a m : Int) : List Int × Int × Int :=
  if h : 0 < st ∧ st ≤ k then (if xs.getD (k - st) 0 ≤ xs.getD k 0 then (xs, a + 1, m) else insIn st (k - st) (swp xs (k - st) k) (a + 1) (m + 1)) else (xs, a, m)
termination_by k
decreasing_by omega
theorem insIn_end {st k : Nat} {xs : List Int} {a m : Int} (h : k < st) : insIn st k xs a m = (xs, a, m) := by rw [insIn, dif_neg (by omega)]
theorem insIn_stop {st k : Nat} {xs : List Int} {a m : Int} (h0 : 0 < st) (h : st ≤ k) (hle : xs.getD (k - st) 0 ≤ xs.getD k 0) : insIn st k xs a m = (xs, a + 1, m) := by rw [insIn, dif_pos ⟨h0, h⟩, if_pos hle]
theorem insIn_go {st k : Nat} {xs : List Int} {a m : Int} (h0 : 0 < st) (h : st ≤ k) (hle : xs.getD k 0 < xs.getD (k - st) 0) : insIn st k xs a m = insIn st (k - st) (swp xs (k - st) k) (a + 1) (m + 1) := by rw [insIn, dif_pos ⟨h0, h⟩, if_neg (by omega)]
theorem insIn_in {st : Nat} : ∀ (f k : Nat) (xs : List Int) (a m : Int), k < f → (insIn st k xs a m).1.length = xs.length ∧ a ≤ (insIn st k xs a m).2.1 ∧ (insIn st k xs a m).2.1 ≤ a + k + 1 ∧ m ≤ (insIn st k xs a m).2.2 ∧ (insIn st k xs a m).2.2 ≤ m + k + 1
  | 0, k, xs, a, m, h => by omega
  | f + 1, k, xs, a, m, h => by
    by_cases h1 : 0 < st ∧ st ≤ k
    · rcases Int.lt_or_le (xs.getD k 0) (xs.getD (k - st) 0) with h2 | h2
      · rw [insIn_go h1.1 h1.2 h2]
        have := insIn_in (st := st) f (k - st) (swp xs (k - st) k) (a + 1) (m + 1) (by omega)
        rw [swp_len] at this
        omega
      · rw [insIn_stop h1.1 h1.2 h2]
        exact ⟨rfl, by simp only; omega, by simp only; omega, by simp only; omega, by simp only; omega⟩
    · rw [insIn, dif_neg h1]
      exact ⟨rfl, by simp only; omega, by simp only; omega, by simp only; omega, by simp only; omega⟩
def insTo (st : Nat) (s : List Int × Int × Int) : Nat → List Int × Int × Int
  | 0 => s
  | j + 1 => insIn st (st + j) (insTo st s j).1 (insTo st s j).2.1 (insTo st s j).2.2
theorem insTo_in {st : Nat} {s : List Int × Int × Int} (hn : s.1.length ≤ 8) : ∀ j, st + j ≤ s.1.length ∨ j = 0 → (insTo st s j).1.length = s.1.length ∧ s.2.1 ≤ (insTo st s j).2.1 ∧ (insTo st s j).2.1 ≤ s.2.1 + 9 * j ∧ s.2.2 ≤ (insTo st s j).2.2 ∧ (insTo st s j).2.2 ≤ s.2.2 + 9 * j
  | 0, _ => by simp [insTo]
  | j + 1, h => by
    have ih := insTo_in (st := st) hn j (by omega)
    have := insIn_in (st := st) (st + j + 1) (st + j) (insTo st s j).1 (insTo st s j).2.1 (insTo st s j).2.2 (by omega)
    rw [insTo]
    omega


/-- What has been learnt follows, each once. -/
structure KnI (fs kn : List (Int × Int)) : Prop where
  nd : kn.Nodup
  tc : ∀ f, f ∈ kn → Tc fs f.1 f.2
theorem KnI.len {d : Nat} {fs kn : List (Int × Int)} (h : KnI fs kn) (hd : d ≤ 5) (hi : itemsIn d fs) : kn.length ≤ 25 :=
  kn_len hd (fun f hf => Tc_in hi (h.tc f hf)) h.nd
theorem KnI.learn {fs kn : List (Int × Int)} {f : Int × Int} (h : KnI fs kn) (hf : Tc fs f.1 f.2) : KnI fs (learnK kn f) :=
  ⟨learnK_nodup h.nd, fun g hg => (learnK_mem.1 hg).elim (h.tc g) fun e => e ▸ hf⟩
theorem KnOf.up {H G : Hp} {N M kb O : Nat} {kn : List (Int × Int)} (h : KnOf H N kb O kn) (hm : N ≤ M) (g : ∀ u, u < N → G u = H u) : KnOf G M kb O kn :=
  ⟨by rw [g _ h.lt.2]; exact h.cell, by rw [g _ h.lt.1]; exact h.row, h.ne, by have := h.lt; omega⟩
/-- In a round of follow's second loop: the fact e at place i is read against those ahead of it, P, that lie in R. -/
structure FB (h : Hp) (n : Nat) (fs : List (Int × Int)) (i : Nat) (P : List (Int × Int)) (e : Int × Int) (R Fo : Nat) (H : Hp) (N O : Nat) (kn : List (Int × Int)) : Prop where
  fr : ∀ u, u < n → H u = h u
  kno : KnOf H N n O kn
  on : n < O
  ofo : O ≠ Fo
  r : R ≠ n ∧ R ≠ Fo ∧ R < N ∧ n < R
  rrow : ∃ ks, H R = some ⟨true, .ints .i64 (flF ks)⟩ ∧ ks.take i = P ∧ i ≤ ks.length
  fo : H Fo = some ⟨true, .cells [.val (.int .i64 e.1), .val (.int .i64 e.2)]⟩
  fon : n < Fo ∧ Fo < N
  tk : kn.take i = P
  il : i < kn.length
  ge : kn.getD i (0, 0) = e
  kni : KnI fs kn
  cl : ∀ f g, f ∈ P → g ∈ P → f.2 = g.1 → (f.1, g.2) ∈ kn
theorem FB.up {h : Hp} {n : Nat} {fs : List (Int × Int)} {i : Nat} {P : List (Int × Int)} {e : Int × Int} {R Fo : Nat} {H G : Hp} {N M O : Nat} {kn : List (Int × Int)} (b : FB h n fs i P e R Fo H N O kn) (hm : N ≤ M) (g : ∀ u, u < N → G u = H u) : FB h n fs i P e R Fo G M O kn := by
  have h1 := b.kno.lt
  have h2 := b.r
  have h3 := b.fon
  exact ⟨fun u hu => by rw [g u (by omega)]; exact b.fr u hu, b.kno.up hm g, b.on, b.ofo, by omega, by rw [g R (by omega)]; exact b.rrow, by rw [g Fo (by omega)]; exact b.fo, by omega, b.tk, b.il, b.ge, b.kni, b.cl⟩
theorem FB.learn {h : Hp} {n : Nat} {fs : List (Int × Int)} {i : Nat} {P : List (Int × Int)} {e : Int × Int} {R Fo : Nat} {H G : Hp} {N M O O2 : Nat} {kn : List (Int × Int)} (b : FB h n fs i P e R Fo H N O kn) {f : Int × Int} (hf : Tc fs f.1 f.2)
    (k : KnOf G M n O2 (learnK kn f)) (g : ∀ u, u < N → u ≠ n → u ≠ O → G u = H u) (gO : ∃ ys, G O = some ⟨true, .ints .i64 (flF (kn ++ ys))⟩) (ho : O2 = O ∨ N ≤ O2) (hm : N ≤ M) : FB h n fs i P e R Fo G M O2 (learnK kn f) := by
  have h1 := b.kno.lt
  have h2 := b.r
  have h3 := b.fon
  have h4 := b.on
  have h5 := b.ofo
  have h6 := b.il
  obtain ⟨ys, hy⟩ := learnK_pre kn f
  refine ⟨fun u hu => by rw [g u (by omega) (by omega) (by omega)]; exact b.fr u hu, k, by omega, by omega, by omega, ?_, by rw [g Fo (by omega) (by omega) (Ne.symm h5)]; exact b.fo, by omega, ?_, ?_, ?_, b.kni.learn hf, fun x y hx hy' he => learnK_mem.2 (.inl (b.cl x y hx hy' he))⟩
  · by_cases e1 : R = O
    · obtain ⟨zs, hz⟩ := gO
      rw [e1]
      exact ⟨_, hz, by rw [List.take_append_of_le_length (by omega)]; exact b.tk, by rw [List.length_append]; omega⟩
    · rw [g R (by omega) h2.1 e1]; exact b.rrow
  · rw [hy, List.take_append_of_le_length (by omega)]; exact b.tk
  · rw [hy, List.length_append]; omega
  · rw [hy, List.getD_eq_getElem?_getD, List.getElem?_append_left h6, ← List.getD_eq_getElem?_getD]; exact b.ge
theorem tk_get {kn : List (Int × Int)} {i k : Nat} (h : k < i) : (kn.take i).getD k (0, 0) = kn.getD k (0, 0) := by
  rw [List.getD_eq_getElem?_getD, List.getElem?_take_of_lt h, ← List.getD_eq_getElem?_getD]
/-- What e and g say together is known. -/
def Dn (kn : List (Int × Int)) (e g : Int × Int) : Prop := (e.2 = g.1 → (e.1, g.2) ∈ kn) ∧ (g.2 = e.1 → (g.1, e.2) ∈ kn)
theorem dn_up {P kn kx : List (Int × Int)} {e : Int × Int} {k : Nat} (hk : k < P.length) (hs : ∀ f, f ∈ kn → f ∈ kx) (h : ∀ g, g ∈ P.take k → Dn kn e g) (hn : Dn kx e (P.getD k (0, 0))) : ∀ g, g ∈ P.take (k + 1) → Dn kx e g := by
  intro g hg
  rw [tk_snoc hk] at hg
  rcases List.mem_append.1 hg with h1 | h1
  · exact ⟨fun q => hs _ ((h g h1).1 q), fun q => hs _ ((h g h1).2 q)⟩
  · rw [List.mem_singleton.1 h1]; exact hn


theorem follow_sat : SatH Try.prog 57 (fun al h n K => ∃ (d A : Nat) (b : Bool) (fs : List (Int × Int)), al = [.sl A 0 fs.length 2 none] ∧ (h A = some ⟨b, .ints .i64 (flF fs)⟩) ∧ (d ≤ 5) ∧ (fs.length ≤ 1000) ∧ (itemsIn d fs) ∧ ∀ (H : Hp) (N O : Nat) (kn : List (Int × Int)), (∀ x y, (x, y) ∈ kn ↔ Tc fs x y) → kn.length ≤ 25 → H O = some ⟨true, .ints .i64 (flF kn)⟩ → (∀ u, u < n → H u = h u) → n ≤ N → n ≤ O ∧ O < N → K (.sl O 0 kn.length 2 none) (H) (N)) := by
  refine satH_intro tabOk Try.func57 rfl 66 rfl [.tmp 2] rfl ?_
  rintro F W h n al K0 ⟨d, A, b, fs, rfl, hA, hd, hl, hi, hQ⟩
  refine ⟨Nat.le_of_ble_eq_true rfl, fun m0 hm0 hcl hlt => ?_⟩
  simp only [initT]
  have hAn := (hcl A _ hA).1
  have hfl := flF_len fs
  have a1 : (A = n) = False := eq_false (by omega)
  have a2 : (n = A) = False := eq_false (by omega)


  repeat' (first | refine awp_seq_k fun K hK => ?_ | ((with_reducible refine hK _ ?_); clear hK K) | ((with_reducible refine aord_plain fun K hK => ?_); simp only [go_sem, Nat.reduceAdd, Nat.reduceMul, Nat.reduceEqDiff, Nat.reduceLT, reduceIte, reduceCtorEq, hA, a1, a2, nmA, Nat.reduceAdd, ifA, ifB, hA]) | refine awp_block ?_ | ((first | with_reducible refine aord_nil ?_ | refine awp_skip ?_ | refine awp_exit ?_ | refine awp_ret ?_); try simp only [rdA, Nat.reduceEqDiff, ifA, ifB, reduceIte]) | (refine awp_region tabOk rfl ?_; simp only [prep, pickO, lsA, lsB, lsC, lsD, lsE, lsF, lsG]) | ((with_reducible refine And.intro ?_ ?_); (focus (exact rfl))) | fail)
  refine awp_nilcellE 2 n 0 [.val (.slice none 0 0)] (.ints .i64 []) rfl rfl (by simp only [St.ev, St.set, upd, Nat.reduceEqDiff, reduceIte, ifA, ifB, hA, a1, a2, nmA, Nat.reduceAdd, ifA, ifB] <;> exact rfl) rfl ?_
  simp only [St.ev, St.set, upd, Nat.reduceEqDiff, reduceIte, ifA, ifB, hA, a1, a2, nmA, Nat.reduceAdd, ifA, ifB, List.set_cons_zero]
  refine awp_loop (fun p : Hp × Nat × Nat × List (Int × Int) × Nat => ⟨upd (upd (upd (upd (upd bot 14 (.val (.int .i64 p.2.2.2.2))) 13 (.val (.int .i64 fs.length))) 12 (.sl A 0 fs.length 2 none)) 4 (.clo (.func 79) [] [.ref n 0])) 3 (.ref n 0), p.1, p.2.1⟩) (fun p => p.2.2.2.2 ≤ fs.length ∧ (∀ u, u < n → p.1 u = h u) ∧ KnOf p.1 p.2.1 n p.2.2.1 p.2.2.2.1 ∧ n < p.2.2.1 ∧ KnI fs p.2.2.2.1 ∧ ∀ f, f ∈ fs.take p.2.2.2.2 → f ∈ p.2.2.2.1) (fun p => fs.length - p.2.2.2.2) (upd (upd (upd h n (some ⟨true, .cells [.val (.slice none 0 0)]⟩)) n (some ⟨true, .cells [.sl (n + 1) 0 0 2 none]⟩)) (n + 1) (some ⟨true, .ints .i64 []⟩), n + 2, n + 1, [], 0) ⟨Nat.zero_le _, fun u hu => (by (try dsimp only); (repeat (first | rw [upd_same] | rw [upd_ne _ _ (by omega)])); (try rfl)), ⟨(by (try dsimp only); (repeat (first | rw [upd_same] | rw [upd_ne _ _ (by omega)])); (try rfl)), (by (try dsimp only); (repeat (first | rw [upd_same] | rw [upd_ne _ _ (by omega)])); (try rfl)), by dsimp only; omega, by dsimp only; omega⟩, by dsimp only; omega, ⟨List.nodup_nil, fun f hf => by simp at hf⟩, fun f hf => by simp at hf⟩ ?_ ?_
  · exact Wk.sub (tsd (tsd (tsd (tsd (tsd tsd0 rfl) rfl) rfl) rfl) rfl) (fun _ _ h => h) rfl
  rintro ⟨H, N, O, kn, j⟩ ⟨hj, hfr, hkn, hnO, hki, hin⟩
  dsimp only at hj hfr hkn hnO hki hin ⊢
  have HA := (hfr A hAn).trans hA
  have hk25 := hki.len hd hi
  have hNn := hkn.lt
  rcases Nat.lt_or_ge j fs.length with hlt | hge
  · have hg := flF_take hlt
    have hmem := getD_memF hlt
    have m1 : (A = N) = False := eq_false (by omega)
    have m2 : (N = A) = False := eq_false (by omega)


    repeat' (first | refine awp_seq_k fun K hK => ?_ | ((with_reducible refine hK _ ?_); clear hK K) | (clear hK K; (with_reducible refine hK _ ?_); clear hK K) | ((with_reducible refine aord_plain fun K hK => ?_); simp only [go_sem, Nat.reduceAdd, Nat.reduceMul, Nat.reduceEqDiff, Nat.reduceLT, reduceIte, reduceCtorEq, HA, m1, m2, hg, nmA, Nat.reduceAdd, ifA, ifB, HA, m1, m2, hg]) | refine awp_block ?_ | ((first | with_reducible refine aord_nil ?_ | refine awp_skip ?_ | refine awp_exit ?_ | refine awp_ret ?_); try simp only [rdA, Nat.reduceEqDiff, ifA, ifB, reduceIte]) | (refine awp_region tabOk rfl ?_; simp only [prep, pickO, lsA, lsB, lsC, lsD, lsE, lsF, lsG]) | ((with_reducible apply awp_cond); (focus (simp only [St.ev, St.set, upd, Nat.reduceEqDiff, reduceIte, ifA, ifB, HA, m1, m2, hg, nmA, Nat.reduceAdd, ifA, ifB]; exact rfl)); all_goals (intro hb; first | (cases hb; done) | ((try rw [hb]); (try simp only [dcA, dcB, dcC, dcD, dcE, Bool.not_eq_true', Bool.not_eq_false'] at hb)))) | ((with_reducible refine And.intro ?_ ?_); (focus omega)) | ((with_reducible refine And.intro ?_ ?_); (focus (exact rfl))) | ((with_reducible refine And.intro (?_ : enters Try.prog 79) ?_); (focus exact Try.call79); (refine callX_satH learn_sat ?_); simp only [go_sem, and_assoc, List.nil_append, List.append_nil, List.cons_append, Nat.reduceEqDiff, reduceIte, reduceCtorEq, HA, m1, m2, hg, nmA, Nat.reduceAdd, ifA, ifB, HA, m1, m2, hg]) | (refine aStoreAll_cells (by simp only [St.ev, St.set, upd, Nat.reduceEqDiff, reduceIte, ifA, ifB, HA, m1, m2, hg, nmA, Nat.reduceAdd, ifA, ifB]; exact rfl) ?_ ?_ ?_ ?_ ?_; (focus (first | rfl | omega | (simp; done) | (simp; omega) | (simp [szOf, tab]; done) | (simp [szOf, tab]; omega))); (focus (first | rfl | omega | (simp; done) | (simp; omega) | (simp [szOf, tab]; done) | (simp [szOf, tab]; omega))); (focus (first | rfl | omega | (simp; done) | (simp; omega) | (simp [szOf, tab]; done) | (simp [szOf, tab]; omega))); (focus (first | rfl | (simp [AV.cell, Value.oneCell']; done))); (try simp only [go_sem, Nat.reduceAdd, Nat.reduceMul, Nat.reduceEqDiff, Nat.reduceLT, reduceIte, reduceCtorEq, HA, m1, m2, hg, nmA, Nat.reduceAdd, ifA, ifB])) | (exfalso; omega) | fail)
    refine ⟨n, O, kn, _, _, rfl, rfl, hkn.up (Nat.le_succ N) (fun u hu => (by (try dsimp only); (repeat (first | rw [upd_same] | rw [upd_ne _ _ (by omega)])); (try rfl))), by omega, fun H' N' O' hk' hfr' hys ho' hN' => ?_⟩


    repeat' (first | ((with_reducible refine hK _ ?_); clear hK K) | ((with_reducible refine aord_plain fun K hK => ?_); simp only [go_sem, Nat.reduceAdd, Nat.reduceMul, Nat.reduceEqDiff, Nat.reduceLT, reduceIte, reduceCtorEq]) | ((first | with_reducible refine aord_nil ?_ | refine awp_skip ?_ | refine awp_exit ?_ | refine awp_ret ?_); try simp only [rdA, Nat.reduceEqDiff, ifA, ifB, reduceIte]) | (refine awp_region tabOk rfl ?_; simp only [prep, pickO, lsA, lsB, lsC, lsD, lsE, lsF, lsG]) | ((with_reducible refine And.intro ?_ ?_); (focus omega)) | fail)
    refine ⟨(H', N', O', learnK kn ((fs.getD j (0, 0)).1, (fs.getD j (0, 0)).2), j + 1), ⟨by dsimp only; omega, fun u hu => ?_, hk', by dsimp only; omega, hki.learn (.base hmem), fun f hf => ?_⟩, by dsimp only; omega, Wk.sub (tsd (tsd (tsd (tsd (tsd tsd0 rfl) rfl) rfl) rfl) rfl) (fun _ _ h => h) rfl⟩
    · dsimp only
      rw [hfr' u (by omega) (by omega) (by omega), if_neg (by omega), if_neg (by omega)]; exact hfr u hu
    · dsimp only at hf ⊢
      rw [tk_snoc hlt] at hf
      rcases List.mem_append.1 hf with h1 | h1
      · exact learnK_mem.2 (.inl (hin f h1))
      · exact learnK_mem.2 (.inr (List.mem_singleton.1 h1))
  · skip
    rw [List.take_of_length_le (by omega)] at hin


    repeat' (first | refine awp_seq_k fun K hK => ?_ | ((with_reducible refine hK _ ?_); clear hK K) | (clear hK K; (with_reducible refine hK _ ?_); clear hK K) | ((with_reducible refine aord_plain fun K hK => ?_); simp only [go_sem, Nat.reduceAdd, Nat.reduceMul, Nat.reduceEqDiff, Nat.reduceLT, reduceIte, reduceCtorEq]) | refine awp_block ?_ | ((first | with_reducible refine aord_nil ?_ | refine awp_skip ?_ | refine awp_exit ?_ | refine awp_ret ?_); try simp only [rdA, Nat.reduceEqDiff, ifA, ifB, reduceIte]) | (refine awp_region tabOk rfl ?_; simp only [prep, pickO, lsA, lsB, lsC, lsD, lsE, lsF, lsG]) | ((with_reducible apply awp_cond); (focus (simp only [St.ev, St.set, upd, Nat.reduceEqDiff, reduceIte, ifA, ifB]; exact rfl)); all_goals (intro hb; first | (cases hb; done) | ((try rw [hb]); (try simp only [dcA, dcB, dcC, dcD, dcE, Bool.not_eq_true', Bool.not_eq_false'] at hb)))) | ((with_reducible refine And.intro ?_ ?_); (focus omega)) | (exfalso; omega) | fail)
    refine awp_loop (fun p : Hp × Nat × Nat × List (Int × Int) × Nat => ⟨upd (upd (upd bot 7 (.val (.int .i64 p.2.2.2.2))) 4 (.clo (.func 79) [] [.ref n 0])) 3 (.ref n 0), p.1, p.2.1⟩) (fun p => p.2.2.2.2 ≤ p.2.2.2.1.length ∧ (∀ u, u < n → p.1 u = h u) ∧ KnOf p.1 p.2.1 n p.2.2.1 p.2.2.2.1 ∧ n < p.2.2.1 ∧ KnI fs p.2.2.2.1 ∧ (∀ f, f ∈ fs → f ∈ p.2.2.2.1) ∧ ∀ f g, f ∈ p.2.2.2.1.take p.2.2.2.2 → g ∈ p.2.2.2.1.take p.2.2.2.2 → f.2 = g.1 → (f.1, g.2) ∈ p.2.2.2.1) (fun p => 26 - p.2.2.2.2) (H, N, O, kn, 0) ⟨Nat.zero_le _, hfr, hkn, hnO, hki, hin, fun f g hf => by simp at hf⟩ ?_ ?_
    · exact Wk.sub (tsd (tsd (tsd tsd0 rfl) rfl) rfl) (fun _ _ h => h) rfl
    clear hfr hkn hnO hki hin HA hk25 hNn
    rintro ⟨H, N, O, kn, i⟩ ⟨hil, hfr, hkn, hnO, hki, hin, hcl2⟩
    dsimp only at hil hfr hkn hnO hki hin hcl2 ⊢
    have hk25 := hki.len hd hi
    have hNn := hkn.lt
    have hKc := hkn.cell
    have hKr := hkn.row
    have hkfl := flF_len kn
    have m1 : (n = N) = False := eq_false (by omega)
    have m2 : (N = n) = False := eq_false (by omega)
    have m3 : (O = N) = False := eq_false (by omega)
    have m4 : (N = O) = False := eq_false (by omega)
    rcases Nat.lt_or_ge i kn.length with hlt | hge
    · have hg := flF_take hlt
      have hem := getD_memF hlt
      have hegd : kn.getD i (0, 0) = ((kn.getD i (0, 0)).1, (kn.getD i (0, 0)).2) := rfl


      repeat' (first | refine awp_seq_k fun K hK => ?_ | ((with_reducible refine hK _ ?_); clear hK K) | (clear hK K; (with_reducible refine hK _ ?_); clear hK K) | ((with_reducible refine aord_plain fun K hK => ?_); simp only [go_sem, Nat.reduceAdd, Nat.reduceMul, Nat.reduceEqDiff, Nat.reduceLT, reduceIte, reduceCtorEq, hKc, hKr, m1, m2, m3, m4, hg, nmA, Nat.reduceAdd, ifA, ifB, hKc, hKr, m1, m2, m3, m4, hg]) | refine awp_block ?_ | ((first | with_reducible refine aord_nil ?_ | refine awp_skip ?_ | refine awp_exit ?_ | refine awp_ret ?_); try simp only [rdA, Nat.reduceEqDiff, ifA, ifB, reduceIte]) | (refine awp_region tabOk rfl ?_; simp only [prep, pickO, lsA, lsB, lsC, lsD, lsE, lsF, lsG]) | ((with_reducible apply awp_cond); (focus (simp only [St.ev, St.set, upd, Nat.reduceEqDiff, reduceIte, ifA, ifB, hKc, hKr, m1, m2, m3, m4, hg, nmA, Nat.reduceAdd, ifA, ifB]; exact rfl)); all_goals (intro hb; first | (cases hb; done) | ((try rw [hb]); (try simp only [dcA, dcB, dcC, dcD, dcE, Bool.not_eq_true', Bool.not_eq_false'] at hb)))) | ((with_reducible refine And.intro ?_ ?_); (focus omega)) | ((with_reducible refine And.intro ?_ ?_); (focus (exact rfl))) | (simp only [doneH]; simp only [ressK, resK, wrapR, go_sem, Nat.reduceAdd, Nat.reduceMul, Nat.reduceEqDiff, Nat.reduceLT, reduceIte, reduceCtorEq, hKc, hKr, m1, m2, m3, m4, hg, nmA, Nat.reduceAdd, ifA, ifB]) | (refine aStoreAll_cells (by simp only [St.ev, St.set, upd, Nat.reduceEqDiff, reduceIte, ifA, ifB, hKc, hKr, m1, m2, m3, m4, hg, nmA, Nat.reduceAdd, ifA, ifB]; exact rfl) ?_ ?_ ?_ ?_ ?_; (focus (first | rfl | omega | (simp; done) | (simp; omega) | (simp [szOf, tab]; done) | (simp [szOf, tab]; omega))); (focus (first | rfl | omega | (simp; done) | (simp; omega) | (simp [szOf, tab]; done) | (simp [szOf, tab]; omega))); (focus (first | rfl | omega | (simp; done) | (simp; omega) | (simp [szOf, tab]; done) | (simp [szOf, tab]; omega))); (focus (first | rfl | (simp [AV.cell, Value.oneCell']; done))); (try simp only [go_sem, Nat.reduceAdd, Nat.reduceMul, Nat.reduceEqDiff, Nat.reduceLT, reduceIte, reduceCtorEq, hKc, hKr, m1, m2, m3, m4, hg, nmA, Nat.reduceAdd, ifA, ifB])) | (exfalso; omega) | fail)
      refine awp_loop (fun p : Hp × Nat × Nat × List (Int × Int) × Nat => ⟨upd (upd (upd (upd (upd (upd (upd bot 36 (.val (.int .i64 p.2.2.2.2))) 35 (.val (.int .i64 i))) 34 (.sl O 0 i 2 none)) 8 (.ref N 0)) 7 (.val (.int .i64 i))) 4 (.clo (.func 79) [] [.ref n 0])) 3 (.ref n 0), p.1, p.2.1⟩) (fun p => p.2.2.2.2 ≤ i ∧ FB h n fs i (kn.take i) (kn.getD i (0, 0)) O N p.1 p.2.1 p.2.2.1 p.2.2.2.1 ∧ (∀ f, f ∈ fs → f ∈ p.2.2.2.1) ∧ ∀ g, g ∈ (kn.take i).take p.2.2.2.2 → Dn p.2.2.2.1 (kn.getD i (0, 0)) g) (fun p => i - p.2.2.2.2) (upd (upd H N (some ⟨true, .cells [.val (.int .i64 0), .val (.int .i64 0)]⟩)) N (some ⟨true, .cells [.val (.int .i64 (kn.getD i (0, 0)).1), .val (.int .i64 (kn.getD i (0, 0)).2)]⟩), N + 1, O, kn, 0) ⟨Nat.zero_le _, ⟨fun u hu => (by (try dsimp only); (repeat (first | rw [upd_same] | rw [upd_ne _ _ (by omega)])); (try rfl); exact hfr u hu), hkn.up (Nat.le_succ N) (fun u hu => (by (try dsimp only); (repeat (first | rw [upd_same] | rw [upd_ne _ _ (by omega)])); (try rfl))), hnO, by dsimp only; omega, by dsimp only; omega, ⟨kn, (by (try dsimp only); (repeat (first | rw [upd_same] | rw [upd_ne _ _ (by omega)])); (try rfl); exact hKr), rfl, by omega⟩, (by (try dsimp only); (repeat (first | rw [upd_same] | rw [upd_ne _ _ (by omega)])); (try rfl)), by dsimp only; omega, rfl, hlt, rfl, hki, hcl2⟩, hin, fun g hg => by simp at hg⟩ ?_ ?_
      · exact Wk.sub (tsd (tsd (tsd (tsd (tsd (tsd (tsd tsd0 (by first | rfl | (congr 1; omega))) (by first | rfl | exact av_int (by omega))) (by first | rfl | exact av_sl (by omega) (by omega))) rfl) rfl) rfl) rfl) (fun _ _ h => h) rfl
      have hPl : (kn.take i).length = i := by rw [List.length_take]; omega
      clear hfr hkn hnO hki hin hcl2 hKc hKr hkfl m1 m2 m3 m4 hg hegd hem hk25
      generalize kn.take i = P at *
      generalize kn.getD i (0, 0) = e at *
      obtain ⟨e1, e2⟩ := e
      rintro ⟨H2, N2, O2, kn2, k⟩ ⟨hki, hB, hin2, hdone⟩
      dsimp only at hki hB hin2 hdone ⊢
      have hk25 := hB.kni.len hd hi
      obtain ⟨ks, hRr, htk, hile⟩ := hB.rrow
      have hfo := hB.fo
      have hfon := hB.fon
      have hi25 := hB.il
      have hrr := hB.r
      have hno2 := hB.kno.lt
      have hon2 := hB.on
      have hofo := hB.ofo
      dsimp only at hfo
      rcases Nat.lt_or_ge k i with hki2 | hki2
      · have hgk := flF_take (show k < ks.length by omega)
        have hksl := flF_len ks
        have hgP : ks.getD k (0, 0) = P.getD k (0, 0) := by rw [← htk, tk_get hki2]
        have hgK : P.getD k (0, 0) = kn2.getD k (0, 0) := by rw [← hB.tk, tk_get hki2]
        have hgm := getD_memF (show k < kn2.length by have := hB.il; omega)
        have hem := getD_memF hB.il
        rw [hB.ge] at hem
        rw [← hgK] at hgm
        rw [hgP] at hgk
        have hte := hB.kni.tc _ hem
        have htg := hB.kni.tc _ hgm
        have hdn := fun kx hs hn => dn_up (kx := kx) (show k < P.length by omega) hs hdone hn
        generalize P.getD k (0, 0) = g at *
        obtain ⟨g1, g2⟩ := g
        dsimp only at hte htg hgk
        have m1 : (O = N2) = False := eq_false (by omega)
        have m2 : (N = N2) = False := eq_false (by omega)
        have m3 : (N2 = N) = False := eq_false (by omega)
        have m4 : (n = N2) = False := eq_false (by omega)
        obtain ⟨c1, q1⟩ : ∃ c, (e2 == g1) = c := ⟨_, rfl⟩
        obtain ⟨c2, q2⟩ : ∃ c, (g2 == e1) = c := ⟨_, rfl⟩
        have hB1 := hB.up (G := upd (upd H2 N2 (some ⟨true, .cells [.val (.int .i64 0), .val (.int .i64 0)]⟩)) N2 (some ⟨true, .cells [.val (.int .i64 g1), .val (.int .i64 g2)]⟩)) (Nat.le_succ N2) (fun u hu => (by (try dsimp only); (repeat (first | rw [upd_same] | rw [upd_ne _ _ (by omega)])); (try rfl)))
        cases c1 <;> cases c2
        all_goals (


          repeat' (first | refine awp_seq_k fun K hK => ?_ | ((with_reducible refine hK _ ?_); clear hK K) | (clear hK K; (with_reducible refine hK _ ?_); clear hK K) | ((with_reducible refine aord_plain fun K hK => ?_); simp only [go_sem, Nat.reduceAdd, Nat.reduceMul, Nat.reduceEqDiff, Nat.reduceLT, reduceIte, reduceCtorEq, hRr, hfo, m1, m2, m3, m4, hgk, q1, q2, nmA, Nat.reduceAdd, ifA, ifB, hRr, hfo, m1, m2, m3, m4, hgk, q1, q2]) | refine awp_block ?_ | ((first | with_reducible refine aord_nil ?_ | refine awp_skip ?_ | refine awp_exit ?_ | refine awp_ret ?_); try simp only [rdA, Nat.reduceEqDiff, ifA, ifB, reduceIte]) | (refine awp_region tabOk rfl ?_; simp only [prep, pickO, lsA, lsB, lsC, lsD, lsE, lsF, lsG]) | ((with_reducible apply awp_cond); (focus (simp only [St.ev, St.set, upd, Nat.reduceEqDiff, reduceIte, ifA, ifB, hRr, hfo, m1, m2, m3, m4, hgk, q1, q2, nmA, Nat.reduceAdd, ifA, ifB]; exact rfl)); all_goals (intro hb; first | (cases hb; done) | ((try rw [hb]); (try simp only [dcA, dcB, dcC, dcD, dcE, Bool.not_eq_true', Bool.not_eq_false'] at hb)))) | ((with_reducible refine And.intro ?_ ?_); (focus omega)) | ((with_reducible refine And.intro ?_ ?_); (focus (exact rfl))) | ((with_reducible refine And.intro (?_ : enters Try.prog 79) ?_); (focus exact Try.call79); (refine callX_satH learn_sat ?_); simp only [go_sem, and_assoc, List.nil_append, List.append_nil, List.cons_append, Nat.reduceEqDiff, reduceIte, reduceCtorEq, hRr, hfo, m1, m2, m3, m4, hgk, q1, q2, nmA, Nat.reduceAdd, ifA, ifB, hRr, hfo, m1, m2, m3, m4, hgk, q1, q2]) | (simp only [rBuild]; simp only [fillA, Nat.reduceLeDiff, List.getElem?_cons_zero, List.getElem?_cons_succ, List.drop_succ_cons, List.drop_nil, List.take_nil, List.cons_append, Option.isSome_some, go_sem, Nat.reduceAdd, Nat.reduceMul, Nat.reduceEqDiff, Nat.reduceLT, reduceIte, reduceCtorEq, hRr, hfo, m1, m2, m3, m4, hgk, q1, q2, nmA, Nat.reduceAdd, ifA, ifB]) | (refine aStoreAll_cells (by simp only [St.ev, St.set, upd, Nat.reduceEqDiff, reduceIte, ifA, ifB, hRr, hfo, m1, m2, m3, m4, hgk, q1, q2, nmA, Nat.reduceAdd, ifA, ifB]; exact rfl) ?_ ?_ ?_ ?_ ?_; (focus (first | rfl | omega | (simp; done) | (simp; omega) | (simp [szOf, tab]; done) | (simp [szOf, tab]; omega))); (focus (first | rfl | omega | (simp; done) | (simp; omega) | (simp [szOf, tab]; done) | (simp [szOf, tab]; omega))); (focus (first | rfl | omega | (simp; done) | (simp; omega) | (simp [szOf, tab]; done) | (simp [szOf, tab]; omega))); (focus (first | rfl | (simp [AV.cell, Value.oneCell']; done))); (try simp only [go_sem, Nat.reduceAdd, Nat.reduceMul, Nat.reduceEqDiff, Nat.reduceLT, reduceIte, reduceCtorEq, hRr, hfo, m1, m2, m3, m4, hgk, q1, q2, nmA, Nat.reduceAdd, ifA, ifB])) | (exfalso; omega) | fail))
        · have n1 := beq_eq_false_iff_ne.1 q1
          have n2 := beq_eq_false_iff_ne.1 q2
          exact ⟨((upd (upd H2 N2 (some ⟨true, .cells [.val (.int .i64 0), .val (.int .i64 0)]⟩)) N2 (some ⟨true, .cells [.val (.int .i64 g1), .val (.int .i64 g2)]⟩)), N2 + 1, O2, kn2, k + 1), ⟨by dsimp only; omega, hB1, hin2, hdn kn2 (fun f h => h) ⟨fun q => absurd q n1, fun q => absurd q n2⟩⟩, by dsimp only; omega, Wk.sub (tsd (tsd (tsd (tsd (tsd (tsd (tsd tsd0 rfl) rfl) rfl) rfl) rfl) rfl) rfl) (fun _ _ h => h) rfl⟩
        · refine ⟨n, O2, kn2, g1, e2, rfl, rfl, hB1.kno, by omega, fun H3 N3 O3 hk3 hf3 hy3 ho3 hn3 => ?_⟩
          have n1 := beq_eq_false_iff_ne.1 q1
          have n2 := eq_of_beq q2
          have hB2 := hB1.learn (f := (g1, e2)) (.step htg (by rw [n2]; exact hte)) hk3 (fun u h1 h2 h3 => hf3 u h1 h2 h3) hy3 ho3 hn3


          repeat' (first | ((with_reducible refine hK _ ?_); clear hK K) | ((with_reducible refine aord_plain fun K hK => ?_); simp only [go_sem, Nat.reduceAdd, Nat.reduceMul, Nat.reduceEqDiff, Nat.reduceLT, reduceIte, reduceCtorEq]) | ((first | with_reducible refine aord_nil ?_ | refine awp_skip ?_ | refine awp_exit ?_ | refine awp_ret ?_); try simp only [rdA, Nat.reduceEqDiff, ifA, ifB, reduceIte]) | (refine awp_region tabOk rfl ?_; simp only [prep, pickO, lsA, lsB, lsC, lsD, lsE, lsF, lsG]) | ((with_reducible refine And.intro ?_ ?_); (focus omega)) | fail)
          exact ⟨(H3, N3, O3, learnK kn2 (g1, e2), k + 1), ⟨by dsimp only; omega, hB2, fun f hf => learnK_mem.2 (.inl (hin2 f hf)), hdn _ (fun f hf => learnK_mem.2 (.inl hf)) ⟨fun q => absurd q n1, fun _ => learnK_mem.2 (.inr rfl)⟩⟩, by dsimp only; omega, Wk.sub (tsd (tsd (tsd (tsd (tsd (tsd (tsd tsd0 rfl) rfl) rfl) rfl) rfl) rfl) rfl) (fun _ _ h => h) rfl⟩
        · refine ⟨n, O2, kn2, e1, g2, rfl, rfl, hB1.kno, by omega, fun H3 N3 O3 hk3 hf3 hy3 ho3 hn3 => ?_⟩
          have n1 := eq_of_beq q1
          have n2 := beq_eq_false_iff_ne.1 q2
          have hB2 := hB1.learn (f := (e1, g2)) (.step hte (by rw [n1]; exact htg)) hk3 (fun u h1 h2 h3 => hf3 u h1 h2 h3) hy3 ho3 hn3
          have h3a := (hf3 N2 (by omega) (by omega) (by omega)).trans (if_pos rfl)
          have h3b := hB2.fo
          dsimp only at h3b


          repeat' (first | refine awp_seq_k fun K hK => ?_ | ((with_reducible refine hK _ ?_); clear hK K) | ((with_reducible refine aord_plain fun K hK => ?_); simp only [go_sem, Nat.reduceAdd, Nat.reduceMul, Nat.reduceEqDiff, Nat.reduceLT, reduceIte, reduceCtorEq, h3a, h3b, q1, q2, nmA, Nat.reduceAdd, ifA, ifB, h3a, h3b, q1, q2]) | ((first | with_reducible refine aord_nil ?_ | refine awp_skip ?_ | refine awp_exit ?_ | refine awp_ret ?_); try simp only [rdA, Nat.reduceEqDiff, ifA, ifB, reduceIte]) | (refine awp_region tabOk rfl ?_; simp only [prep, pickO, lsA, lsB, lsC, lsD, lsE, lsF, lsG]) | ((with_reducible apply awp_cond); (focus (simp only [St.ev, St.set, upd, Nat.reduceEqDiff, reduceIte, ifA, ifB, h3a, h3b, q1, q2, nmA, Nat.reduceAdd, ifA, ifB]; exact rfl)); all_goals (intro hb; first | (cases hb; done) | ((try rw [hb]); (try simp only [dcA, dcB, dcC, dcD, dcE, Bool.not_eq_true', Bool.not_eq_false'] at hb)))) | ((with_reducible refine And.intro ?_ ?_); (focus omega)) | fail)
          exact ⟨(H3, N3, O3, learnK kn2 (e1, g2), k + 1), ⟨by dsimp only; omega, hB2, fun f hf => learnK_mem.2 (.inl (hin2 f hf)), hdn _ (fun f hf => learnK_mem.2 (.inl hf)) ⟨fun _ => learnK_mem.2 (.inr rfl), fun q => absurd q n2⟩⟩, by dsimp only; omega, Wk.sub (tsd (tsd (tsd (tsd (tsd (tsd (tsd tsd0 rfl) rfl) rfl) rfl) rfl) rfl) rfl) (fun _ _ h => h) rfl⟩
        · refine ⟨n, O2, kn2, e1, g2, rfl, rfl, hB1.kno, by omega, fun H3 N3 O3 hk3 hf3 hy3 ho3 hn3 => ?_⟩
          have n1 := eq_of_beq q1
          have n2 := eq_of_beq q2
          have hB2 := hB1.learn (f := (e1, g2)) (.step hte (by rw [n1]; exact htg)) hk3 (fun u h1 h2 h3 => hf3 u h1 h2 h3) hy3 ho3 hn3
          have h3a := (hf3 N2 (by omega) (by omega) (by omega)).trans (if_pos rfl)
          have h3b := hB2.fo
          have hl3 := hB2.kni.len hd hi
          dsimp only at h3b


          repeat' (first | refine awp_seq_k fun K hK => ?_ | ((with_reducible refine hK _ ?_); clear hK K) | ((with_reducible refine aord_plain fun K hK => ?_); simp only [go_sem, Nat.reduceAdd, Nat.reduceMul, Nat.reduceEqDiff, Nat.reduceLT, reduceIte, reduceCtorEq, h3a, h3b, q1, q2, nmA, Nat.reduceAdd, ifA, ifB, h3a, h3b, q1, q2]) | ((first | with_reducible refine aord_nil ?_ | refine awp_skip ?_ | refine awp_exit ?_ | refine awp_ret ?_); try simp only [rdA, Nat.reduceEqDiff, ifA, ifB, reduceIte]) | (refine awp_region tabOk rfl ?_; simp only [prep, pickO, lsA, lsB, lsC, lsD, lsE, lsF, lsG]) | ((with_reducible apply awp_cond); (focus (simp only [St.ev, St.set, upd, Nat.reduceEqDiff, reduceIte, ifA, ifB, h3a, h3b, q1, q2, nmA, Nat.reduceAdd, ifA, ifB]; exact rfl)); all_goals (intro hb; first | (cases hb; done) | ((try rw [hb]); (try simp only [dcA, dcB, dcC, dcD, dcE, Bool.not_eq_true', Bool.not_eq_false'] at hb)))) | ((with_reducible refine And.intro (?_ : enters Try.prog 79) ?_); (focus exact Try.call79); (refine callX_satH learn_sat ?_); simp only [go_sem, and_assoc, List.nil_append, List.append_nil, List.cons_append, Nat.reduceEqDiff, reduceIte, reduceCtorEq, h3a, h3b, q1, q2, nmA, Nat.reduceAdd, ifA, ifB, h3a, h3b, q1, q2]) | (simp only [rBuild]; simp only [fillA, Nat.reduceLeDiff, List.getElem?_cons_zero, List.getElem?_cons_succ, List.drop_succ_cons, List.drop_nil, List.take_nil, List.cons_append, Option.isSome_some, go_sem, Nat.reduceAdd, Nat.reduceMul, Nat.reduceEqDiff, Nat.reduceLT, reduceIte, reduceCtorEq, h3a, h3b, q1, q2, nmA, Nat.reduceAdd, ifA, ifB]) | fail)
          refine ⟨n, O3, learnK kn2 (e1, g2), g1, e2, rfl, rfl, hB2.kno, by omega, fun H4 N4 O4 hk4 hf4 hy4 ho4 hn4 => ?_⟩
          have hB3 := hB2.learn (f := (g1, e2)) (.step htg (by rw [n2]; exact hte)) hk4 (fun u h1 h2 h3 => hf4 u h1 h2 h3) hy4 ho4 hn4


          repeat' (first | ((with_reducible refine hK _ ?_); clear hK K) | ((with_reducible refine aord_plain fun K hK => ?_); simp only [go_sem, Nat.reduceAdd, Nat.reduceMul, Nat.reduceEqDiff, Nat.reduceLT, reduceIte, reduceCtorEq]) | ((first | with_reducible refine aord_nil ?_ | refine awp_skip ?_ | refine awp_exit ?_ | refine awp_ret ?_); try simp only [rdA, Nat.reduceEqDiff, ifA, ifB, reduceIte]) | (refine awp_region tabOk rfl ?_; simp only [prep, pickO, lsA, lsB, lsC, lsD, lsE, lsF, lsG]) | ((with_reducible refine And.intro ?_ ?_); (focus omega)) | fail)
          exact ⟨(H4, N4, O4, learnK (learnK kn2 (e1, g2)) (g1, e2), k + 1), ⟨by dsimp only; omega, hB3, fun f hf => learnK_mem.2 (.inl (learnK_mem.2 (.inl (hin2 f hf)))), hdn _ (fun f hf => learnK_mem.2 (.inl (learnK_mem.2 (.inl hf)))) ⟨fun _ => learnK_mem.2 (.inl (learnK_mem.2 (.inr rfl))), fun _ => learnK_mem.2 (.inr rfl)⟩⟩, by dsimp only; omega, Wk.sub (tsd (tsd (tsd (tsd (tsd (tsd (tsd tsd0 rfl) rfl) rfl) rfl) rfl) rfl) rfl) (fun _ _ h => h) rfl⟩
      · skip
        have hPk : P.take k = P := List.take_of_length_le (by omega)
        rw [hPk] at hdone
        have hi2 := hB.il
        have hem := getD_memF hB.il
        rw [hB.ge] at hem


        repeat' (first | refine awp_seq_k fun K hK => ?_ | ((with_reducible refine hK _ ?_); clear hK K) | (clear hK K; (with_reducible refine hK _ ?_); clear hK K) | ((with_reducible refine aord_plain fun K hK => ?_); simp only [go_sem, Nat.reduceAdd, Nat.reduceMul, Nat.reduceEqDiff, Nat.reduceLT, reduceIte, reduceCtorEq]) | refine awp_block ?_ | ((first | with_reducible refine aord_nil ?_ | refine awp_skip ?_ | refine awp_exit ?_ | refine awp_ret ?_); try simp only [rdA, Nat.reduceEqDiff, ifA, ifB, reduceIte]) | (refine awp_region tabOk rfl ?_; simp only [prep, pickO, lsA, lsB, lsC, lsD, lsE, lsF, lsG]) | ((with_reducible apply awp_cond); (focus (simp only [St.ev, St.set, upd, Nat.reduceEqDiff, reduceIte, ifA, ifB]; exact rfl)); all_goals (intro hb; first | (cases hb; done) | ((try rw [hb]); (try simp only [dcA, dcB, dcC, dcD, dcE, Bool.not_eq_true', Bool.not_eq_false'] at hb)))) | ((with_reducible refine And.intro ?_ ?_); (focus omega)) | (exfalso; omega) | fail)
        refine ⟨(H2, N2, O2, kn2, i + 1), ⟨by dsimp only; omega, hB.fr, hB.kno, hB.on, hB.kni, hin2, fun f g hf hg he => ?_⟩, by dsimp only; omega, Wk.sub (tsd (tsd (tsd tsd0 rfl) rfl) rfl) (fun _ _ h => h) rfl⟩
        dsimp only at hf hg ⊢
        rw [tk_snoc hB.il, hB.tk, hB.ge] at hf hg
        rcases List.mem_append.1 hf with f1 | f1 <;> rcases List.mem_append.1 hg with g1 | g1
        · exact hB.cl f g f1 g1 he
        · rw [List.mem_singleton.1 g1] at he ⊢
          exact (hdone f f1).2 he
        · rw [List.mem_singleton.1 f1] at he ⊢
          exact (hdone g g1).1 he
        · rw [List.mem_singleton.1 g1, List.mem_singleton.1 f1]
          exact hem
    · skip


      repeat' (first | refine awp_seq_k fun K hK => ?_ | ((with_reducible refine hK _ ?_); clear hK K) | (clear hK K; (with_reducible refine hK _ ?_); clear hK K) | ((with_reducible refine aord_plain fun K hK => ?_); simp only [go_sem, Nat.reduceAdd, Nat.reduceMul, Nat.reduceEqDiff, Nat.reduceLT, reduceIte, reduceCtorEq, hKc, hKr, nmA, Nat.reduceAdd, ifA, ifB, hKc, hKr]) | refine awp_block ?_ | ((first | with_reducible refine aord_nil ?_ | refine awp_skip ?_ | refine awp_exit ?_ | refine awp_ret ?_); try simp only [rdA, Nat.reduceEqDiff, ifA, ifB, reduceIte]) | (refine awp_region tabOk rfl ?_; simp only [prep, pickO, lsA, lsB, lsC, lsD, lsE, lsF, lsG]) | ((with_reducible apply awp_cond); (focus (simp only [St.ev, St.set, upd, Nat.reduceEqDiff, reduceIte, ifA, ifB, hKc, hKr, nmA, Nat.reduceAdd, ifA, ifB]; exact rfl)); all_goals (intro hb; first | (cases hb; done) | ((try rw [hb]); (try simp only [dcA, dcB, dcC, dcD, dcE, Bool.not_eq_true', Bool.not_eq_false'] at hb)))) | ((with_reducible refine And.intro ?_ ?_); (focus omega)) | (simp only [doneH]; simp only [ressK, resK, wrapR, go_sem, Nat.reduceAdd, Nat.reduceMul, Nat.reduceEqDiff, Nat.reduceLT, reduceIte, reduceCtorEq, hKc, hKr, nmA, Nat.reduceAdd, ifA, ifB]) | (exfalso; omega) | fail)
      rw [List.take_of_length_le (by omega)] at hcl2
      exact hQ H N O kn (fun x y => Tc_mem hin hki.tc hcl2) hk25 hKr hfr (by omega) (by omega)

theorem isItem_sat : Sat Try.prog 48 (fun ds Q => ∃ (z x : Int), ds = [.val (.int .i64 (z)), .val (.int .i64 (x))] ∧ Q (.val (.bool ((decide (0 ≤ x) && decide (x < z)))))) := by
  refine sat_intro tabOk Try.func48 rfl 12 rfl [.tmp 4] rfl ?_
  rintro ds Q W ⟨z, x, rfl, hQ⟩
  refine ⟨Nat.le_of_ble_eq_true rfl, ?_⟩
  simp only [initS, initT, mat.matL, mat, Cont.len]
  by_cases h1 : 0 ≤ x
  · have e1 : decide (x ≥ 0) = true := decide_eq_true h1
    rw [decide_eq_true h1, Bool.true_and] at hQ

    repeat' (first | refine awp_seq_k fun K hK => ?_ | ((with_reducible refine hK _ ?_); clear hK K) | ((with_reducible refine aord_plain fun K hK => ?_); simp only [go_sem, Nat.reduceAdd, Nat.reduceMul, Nat.reduceEqDiff, Nat.reduceLT, reduceIte, reduceCtorEq, e1]) | ((with_reducible apply aord_guard); (focus (simp only [St.ev, St.set, upd, Nat.reduceEqDiff, reduceIte, ifA, ifB]; exact rfl)); all_goals (intro hb; (try simp only [Bool.not_true, Bool.not_false] at hb); first | (cases hb; done) | ((try rw [hb]); (try simp only [Bool.not_eq_true', Bool.not_eq_false', Bool.and_eq_true, dcA, dcB, dcC, dcD, dcE] at hb); (try (revert hb; with_reducible refine true_imp_iff.2 ?_)); first | (intro K hK; simp only [go_sem, Nat.reduceAdd, Nat.reduceMul, Nat.reduceEqDiff, Nat.reduceLT, reduceIte, reduceCtorEq]) | (simp only [St.ev, St.set, upd, Nat.reduceEqDiff, reduceIte, ifA, ifB]) | skip))) | ((first | with_reducible refine aord_nil ?_ | refine awp_skip ?_ | refine awp_exit ?_ | refine awp_ret ?_); try simp only [rdA, Nat.reduceEqDiff, ifA, ifB, reduceIte]) | (refine awp_region tabOk rfl ?_; simp only [prep, pickO, lsA, lsB, lsC, lsD, lsE, lsF, lsG]) | fail)
    simp only [St.set, St.ev, doneQ, doneH, ressK, resK, wrapR, AV.ids, AV.idsL, retK, retsK, upd, Nat.reduceEqDiff, reduceIte, ifA, ifB, List.nodup_nil, List.nodup_cons, List.not_mem_nil, not_false_eq_true, true_and, and_true, exists_eq_left', Option.some.injEq, rLoad, cellOf, tab, Ty.isAgg, Ty.one, Bool.false_eq_true]
    exact hQ
  · have e1 : decide (x ≥ 0) = false := decide_eq_false h1
    rw [decide_eq_false h1, Bool.false_and] at hQ

    repeat' (first | refine awp_seq_k fun K hK => ?_ | ((with_reducible refine hK _ ?_); clear hK K) | ((with_reducible refine aord_plain fun K hK => ?_); simp only [go_sem, Nat.reduceAdd, Nat.reduceMul, Nat.reduceEqDiff, Nat.reduceLT, reduceIte, reduceCtorEq, e1]) | ((with_reducible apply aord_guard); (focus (simp only [St.ev, St.set, upd, Nat.reduceEqDiff, reduceIte, ifA, ifB]; exact rfl)); all_goals (intro hb; (try simp only [Bool.not_true, Bool.not_false] at hb); first | (cases hb; done) | ((try rw [hb]); (try simp only [Bool.not_eq_true', Bool.not_eq_false', Bool.and_eq_true, dcA, dcB, dcC, dcD, dcE] at hb); (try (revert hb; with_reducible refine true_imp_iff.2 ?_)); first | (intro K hK; simp only [go_sem, Nat.reduceAdd, Nat.reduceMul, Nat.reduceEqDiff, Nat.reduceLT, reduceIte, reduceCtorEq]) | (simp only [St.ev, St.set, upd, Nat.reduceEqDiff, reduceIte, ifA, ifB]) | skip))) | ((first | with_reducible refine aord_nil ?_ | refine awp_skip ?_ | refine awp_exit ?_ | refine awp_ret ?_); try simp only [rdA, Nat.reduceEqDiff, ifA, ifB, reduceIte]) | (refine awp_region tabOk rfl ?_; simp only [prep, pickO, lsA, lsB, lsC, lsD, lsE, lsF, lsG]) | fail)
    simp only [St.set, St.ev, doneQ, doneH, ressK, resK, wrapR, AV.ids, AV.idsL, retK, retsK, upd, Nat.reduceEqDiff, reduceIte, ifA, ifB, List.nodup_nil, List.nodup_cons, List.not_mem_nil, not_false_eq_true, true_and, and_true, exists_eq_left', Option.some.injEq, rLoad, cellOf, tab, Ty.isAgg, Ty.one, Bool.false_eq_true]
    exact hQ


theorem opposite_sat : Sat Try.prog 67 (fun ds Q => ∃ (a b : Int), ds = [.agg [.val (.int .i64 (a)), .val (.int .i64 (b))]] ∧ Q (.agg [.val (.int .i64 (b)), .val (.int .i64 (a))])) := by
  refine sat_intro tabOk Try.func67 rfl 8 rfl [.cell 2 38] rfl ?_
  rintro ds Q W ⟨a, b, rfl, hQ⟩
  refine ⟨Nat.le_of_ble_eq_true rfl, ?_⟩
  simp only [initS, initT, mat.matL, mat, Cont.len]
  repeat' (first | refine awp_seq_k fun K hK => ?_ | ((with_reducible refine hK _ ?_); clear hK K) | ((with_reducible refine aord_plain fun K hK => ?_); simp only [go_sem, Nat.reduceAdd, Nat.reduceMul, Nat.reduceEqDiff, Nat.reduceLT, reduceIte, reduceCtorEq]) | ((first | with_reducible refine aord_nil ?_ | refine awp_skip ?_ | refine awp_exit ?_ | refine awp_ret ?_); try simp only [rdA, Nat.reduceEqDiff, ifA, ifB, reduceIte]) | (refine awp_region tabOk rfl ?_; simp only [prep, pickO, lsA, lsB, lsC, lsD, lsE, lsF, lsG]) | ((with_reducible refine And.intro ?_ ?_); (focus (exact rfl))) | (simp only [rBuild]; simp only [fillA, Nat.reduceLeDiff, List.getElem?_cons_zero, List.getElem?_cons_succ, List.drop_succ_cons, List.drop_nil, List.take_nil, List.cons_append, Option.isSome_some, go_sem, Nat.reduceAdd, Nat.reduceMul, Nat.reduceEqDiff, Nat.reduceLT, reduceIte, reduceCtorEq]) | (refine aStoreAll_cells (by simp only [St.ev, St.set, upd, Nat.reduceEqDiff, reduceIte, ifA, ifB]; exact rfl) ?_ ?_ ?_ ?_ ?_; (focus (first | rfl | omega | (simp; done) | (simp; omega) | (simp [szOf, tab]; done) | (simp [szOf, tab]; omega))); (focus (first | rfl | omega | (simp; done) | (simp; omega) | (simp [szOf, tab]; done) | (simp [szOf, tab]; omega))); (focus (first | rfl | omega | (simp; done) | (simp; omega) | (simp [szOf, tab]; done) | (simp [szOf, tab]; omega))); (focus (first | rfl | (simp [AV.cell, Value.oneCell']; done))); (try simp only [go_sem, Nat.reduceAdd, Nat.reduceMul, Nat.reduceEqDiff, Nat.reduceLT, reduceIte, reduceCtorEq])) | fail)
  simp only [St.set, St.ev, doneQ, doneH, ressK, resK, wrapR, AV.ids, AV.idsL, retK, retsK, upd, Nat.reduceEqDiff, reduceIte, ifA, ifB, List.nodup_nil, List.nodup_cons, List.not_mem_nil, not_false_eq_true, true_and, and_true, exists_eq_left', Option.some.injEq, rLoad, cellOf, tab, Ty.isAgg, Ty.one, Bool.false_eq_true, Cont.flat, List.drop_zero, List.take_succ_cons, List.take_zero, List.take_nil, List.nil_append, List.append_nil, List.length_cons, List.length_nil, Nat.le_refl, Nat.zero_add, Nat.reduceAdd, Nat.reduceLeDiff, List.drop_succ_cons, List.cons_append]
  exact hQ


theorem implValidFacts_sat : SatH Try.prog 33 (fun al h n K => ∃ (z : Int) (A : Nat) (b : Bool) (fs : List (Int × Int)), al = [.val (.int .i64 (z)), .sl A 0 fs.length 2 none] ∧ (h A = some ⟨b, .ints .i64 (flF fs)⟩) ∧ (fs.length ≤ 1099511627776) ∧ ∀ (v : Bool) (N : Nat), (v = true ↔ VF z fs) → n ≤ N → K (.val (.bool (v))) (h) (N)) := by
  refine satH_intro tabOk Try.func33 rfl 51 rfl [.tmp 4] rfl ?_
  rintro F W h n al K0 ⟨z, A, b, fs, rfl, hA, hl, hQ⟩
  refine ⟨Nat.le_of_ble_eq_true rfl, fun m0 hm0 hcl hlt => ?_⟩
  simp only [initT]
  have hAn := (hcl A _ hA).1
  have hfl := flF_len fs
  by_cases h0 : (0 ≤ z ∧ z ≤ 5) ∧ fs.length ≤ 20
  · obtain ⟨d, rfl⟩ : ∃ d : Nat, z = d := ⟨z.toNat, by omega⟩
    have q1 : decide ((d : Int) < 0) = false := decide_eq_false (by omega)
    have q2 : decide ((5 : Int) < (d : Int)) = false := decide_eq_false (by omega)
    have q3 : decide ((20 : Int) < (fs.length : Int)) = false := decide_eq_false (by omega)


    repeat' (first | refine awp_seq_k fun K hK => ?_ | ((with_reducible refine hK _ ?_); clear hK K) | ((with_reducible refine aord_plain fun K hK => ?_); simp only [go_sem, Nat.reduceAdd, Nat.reduceMul, Nat.reduceEqDiff, Nat.reduceLT, reduceIte, reduceCtorEq, hA, q1, q2, q3, nmA, Nat.reduceAdd, ifA, ifB, hA, q1, q2, q3, mat.matL, DV.agg.injEq]) | ((with_reducible apply aord_guard); (focus (simp only [St.ev, St.set, upd, Nat.reduceEqDiff, reduceIte, ifA, ifB, hA, q1, q2, q3, nmA, Nat.reduceAdd, ifA, ifB]; exact rfl)); all_goals (intro hb; (try simp only [Bool.not_true, Bool.not_false] at hb); first | (cases hb; done) | ((try rw [hb]); (try simp only [Bool.not_eq_true', Bool.not_eq_false', Bool.and_eq_true, dcA, dcB, dcC, dcD, dcE] at hb); (try (revert hb; with_reducible refine true_imp_iff.2 ?_)); first | (intro K hK; simp only [go_sem, Nat.reduceAdd, Nat.reduceMul, Nat.reduceEqDiff, Nat.reduceLT, reduceIte, reduceCtorEq, hA, q1, q2, q3, nmA, Nat.reduceAdd, ifA, ifB]) | (simp only [St.ev, St.set, upd, Nat.reduceEqDiff, reduceIte, ifA, ifB, hA, q1, q2, q3, nmA, Nat.reduceAdd, ifA, ifB]) | skip))) | refine awp_block ?_ | ((first | with_reducible refine aord_nil ?_ | refine awp_skip ?_ | refine awp_exit ?_ | refine awp_ret ?_); try simp only [rdA, Nat.reduceEqDiff, ifA, ifB, reduceIte]) | (refine awp_region tabOk rfl ?_; simp only [prep, pickO, lsA, lsB, lsC, lsD, lsE, lsF, lsG]) | ((with_reducible apply awp_cond); (focus (simp only [St.ev, St.set, upd, Nat.reduceEqDiff, reduceIte, ifA, ifB, hA, q1, q2, q3, nmA, Nat.reduceAdd, ifA, ifB]; exact rfl)); all_goals (intro hb; first | (cases hb; done) | ((try rw [hb]); (try simp only [dcA, dcB, dcC, dcD, dcE, Bool.not_eq_true', Bool.not_eq_false'] at hb)))) | fail)
    refine awp_loop (fun p : Nat × Nat => ⟨upd (upd (upd (upd (upd bot 22 (.val (.int .i64 p.2))) 21 (.val (.int .i64 fs.length))) 20 (.sl A 0 fs.length 2 none)) 1 (.sl A 0 fs.length 2 none)) 0 (.val (.int .i64 d)), h, p.1⟩) (fun p => p.2 ≤ fs.length ∧ n ≤ p.1 ∧ itemsIn d (fs.take p.2)) (fun p => fs.length - p.2) (n, 0) ⟨Nat.zero_le _, Nat.le_refl _, fun f hf => by simp at hf⟩ ?_ ?_
    · exact Wk.sub (tsd (tsd (tsd (tsd (tsd tsd0 rfl) rfl) rfl) rfl) rfl) (fun _ _ h => h) rfl
    rintro ⟨N, i⟩ ⟨hii, hnN, hit⟩
    dsimp only at hii hnN hit ⊢
    rcases Nat.lt_or_ge i fs.length with hlt | hge
    · have hg := flF_take hlt
      have hup := itemsIn_up hlt hit
      have hmem := getD_memF hlt
      have m1 : (A = N) = False := eq_false (by omega)
      have m2 : (N = A) = False := eq_false (by omega)
      obtain ⟨c1, hq1⟩ : ∃ c, (decide (0 ≤ (fs.getD i (0, 0)).1) && decide ((fs.getD i (0, 0)).1 < (d : Int))) = c := ⟨_, rfl⟩
      obtain ⟨c2, hq2⟩ : ∃ c, (decide (0 ≤ (fs.getD i (0, 0)).2) && decide ((fs.getD i (0, 0)).2 < (d : Int))) = c := ⟨_, rfl⟩
      have hc1 : c1 = true ↔ 0 ≤ (fs.getD i (0, 0)).1 ∧ (fs.getD i (0, 0)).1 < (d : Int) := by rw [← hq1, Bool.and_eq_true, decide_eq_true_eq, decide_eq_true_eq]
      have hc2 : c2 = true ↔ 0 ≤ (fs.getD i (0, 0)).2 ∧ (fs.getD i (0, 0)).2 < (d : Int) := by rw [← hq2, Bool.and_eq_true, decide_eq_true_eq, decide_eq_true_eq]
      have hbad : ¬ (c1 = true ∧ c2 = true) → ¬ VF d fs := fun h hv => by
        have := hv.2.2.1 _ hmem
        rw [Int.toNat_natCast] at this
        exact h ⟨hc1.2 (by omega), hc2.2 (by omega)⟩
      have hdrop : ∀ (o : Nat) (ob : Ob), h o = some ob → upd (upd h N (some ⟨true, .cells [.val (.int .i64 0), .val (.int .i64 0)]⟩)) N (some ⟨true, .cells [.val (.int .i64 (fs.getD i (0, 0)).1), .val (.int .i64 (fs.getD i (0, 0)).2)]⟩) o = some ob := fun o ob ho => by rw [upd_ne _ _ (by have := (hcl o _ ho).1; omega), upd_ne _ _ (by have := (hcl o _ ho).1; omega)]; exact ho
      cases c1 <;> cases c2
      all_goals (


        repeat' ((fail_if_success (with_reducible refine isRetQ ?_)); (first | refine awp_seq_k fun K hK => ?_ | ((with_reducible refine hK _ ?_); clear hK K) | (clear hK K; (with_reducible refine hK _ ?_); clear hK K) | ((with_reducible refine aord_plain fun K hK => ?_); simp only [go_sem, Nat.reduceAdd, Nat.reduceMul, Nat.reduceEqDiff, Nat.reduceLT, reduceIte, reduceCtorEq, hA, hg, hq1, hq2, m1, m2, nmA, Nat.reduceAdd, ifA, ifB, hA, hg, hq1, hq2, m1, m2, mat.matL, DV.agg.injEq]) | ((with_reducible apply aord_guard); (focus (simp only [St.ev, St.set, upd, Nat.reduceEqDiff, reduceIte, ifA, ifB, hA, hg, hq1, hq2, m1, m2, nmA, Nat.reduceAdd, ifA, ifB]; exact rfl)); all_goals (intro hb; (try simp only [Bool.not_true, Bool.not_false] at hb); first | (cases hb; done) | ((try rw [hb]); (try simp only [Bool.not_eq_true', Bool.not_eq_false', Bool.and_eq_true, dcA, dcB, dcC, dcD, dcE] at hb); (try (revert hb; with_reducible refine true_imp_iff.2 ?_)); first | (intro K hK; simp only [go_sem, Nat.reduceAdd, Nat.reduceMul, Nat.reduceEqDiff, Nat.reduceLT, reduceIte, reduceCtorEq, hA, hg, hq1, hq2, m1, m2, nmA, Nat.reduceAdd, ifA, ifB]) | (simp only [St.ev, St.set, upd, Nat.reduceEqDiff, reduceIte, ifA, ifB, hA, hg, hq1, hq2, m1, m2, nmA, Nat.reduceAdd, ifA, ifB]) | skip))) | refine awp_block ?_ | ((first | with_reducible refine aord_nil ?_ | refine awp_skip ?_ | refine awp_exit ?_ | refine awp_ret ?_); try simp only [rdA, Nat.reduceEqDiff, ifA, ifB, reduceIte]) | (refine awp_region tabOk rfl ?_; simp only [prep, pickO, lsA, lsB, lsC, lsD, lsE, lsF, lsG]) | ((with_reducible apply awp_cond); (focus (simp only [St.ev, St.set, upd, Nat.reduceEqDiff, reduceIte, ifA, ifB, hA, hg, hq1, hq2, m1, m2, nmA, Nat.reduceAdd, ifA, ifB]; exact rfl)); all_goals (intro hb; first | (cases hb; done) | ((try rw [hb]); (try simp only [dcA, dcB, dcC, dcD, dcE, Bool.not_eq_true', Bool.not_eq_false'] at hb)))) | ((with_reducible refine And.intro ?_ ?_); (focus omega)) | ((with_reducible refine And.intro ?_ ?_); (focus (exact rfl))) | ((with_reducible refine And.intro (?_ : enters Try.prog 48) ?_); (focus exact Try.call48); (refine callX_sat isItem_sat ?_); simp only [go_sem, and_assoc, List.nil_append, List.append_nil, List.cons_append, Nat.reduceEqDiff, reduceIte, reduceCtorEq, hA, hg, hq1, hq2, m1, m2, nmA, Nat.reduceAdd, ifA, ifB, hA, hg, hq1, hq2, m1, m2, mat.matL, DV.agg.injEq]) | (refine aStoreAll_cells (by simp only [St.ev, St.set, upd, Nat.reduceEqDiff, reduceIte, ifA, ifB, hA, hg, hq1, hq2, m1, m2, nmA, Nat.reduceAdd, ifA, ifB]; exact rfl) ?_ ?_ ?_ ?_ ?_; (focus (first | rfl | omega | (simp; done) | (simp; omega) | (simp [szOf, tab]; done) | (simp [szOf, tab]; omega))); (focus (first | rfl | omega | (simp; done) | (simp; omega) | (simp [szOf, tab]; done) | (simp [szOf, tab]; omega))); (focus (first | rfl | omega | (simp; done) | (simp; omega) | (simp [szOf, tab]; done) | (simp [szOf, tab]; omega))); (focus (first | rfl | (simp [AV.cell, Value.oneCell']; done))); (try simp only [go_sem, Nat.reduceAdd, Nat.reduceMul, Nat.reduceEqDiff, Nat.reduceLT, reduceIte, reduceCtorEq, hA, hg, hq1, hq2, m1, m2, nmA, Nat.reduceAdd, ifA, ifB])) | (exfalso; omega) | fail)))
      all_goals first
        | (refine awp_weaken (s' := ⟨upd bot 4 (.val (.bool false)), h, N + 1⟩) (Wk.sub (tsd tsd0 rfl) hdrop rfl) ?_
           repeat' (first | ((first | with_reducible refine aord_nil ?_ | refine awp_skip ?_ | refine awp_exit ?_ | refine awp_ret ?_); try simp only [rdA, Nat.reduceEqDiff, ifA, ifB, reduceIte]) | (simp only [doneH]; simp only [ressK, resK, wrapR, go_sem, Nat.reduceAdd, Nat.reduceMul, Nat.reduceEqDiff, Nat.reduceLT, reduceIte, reduceCtorEq, hA, hg, hq1, hq2, m1, m2, nmA, Nat.reduceAdd, ifA, ifB]) | fail)
           exact hQ false (N + 1) (by simp only [Bool.false_eq_true, false_iff]; exact hbad (by simp)) (by omega))
        | exact ⟨(N + 1, i + 1), ⟨by dsimp only; omega, by dsimp only; omega, hup (hc1.1 rfl) (hc2.1 rfl)⟩, by dsimp only; omega, Wk.sub (tsd (tsd (tsd (tsd (tsd tsd0 rfl) rfl) rfl) rfl) rfl) hdrop rfl⟩
    · rw [List.take_of_length_le (by omega)] at hit


      repeat' (first | refine awp_seq_k fun K hK => ?_ | ((with_reducible refine hK _ ?_); clear hK K) | (clear hK K; (with_reducible refine hK _ ?_); clear hK K) | ((with_reducible refine aord_plain fun K hK => ?_); simp only [go_sem, Nat.reduceAdd, Nat.reduceMul, Nat.reduceEqDiff, Nat.reduceLT, reduceIte, reduceCtorEq, hA, nmA, Nat.reduceAdd, ifA, ifB, hA, mat.matL, DV.agg.injEq]) | refine awp_block ?_ | ((first | with_reducible refine aord_nil ?_ | refine awp_skip ?_ | refine awp_exit ?_ | refine awp_ret ?_); try simp only [rdA, Nat.reduceEqDiff, ifA, ifB, reduceIte]) | (refine awp_region tabOk rfl ?_; simp only [prep, pickO, lsA, lsB, lsC, lsD, lsE, lsF, lsG]) | ((with_reducible apply awp_cond); (focus (simp only [St.ev, St.set, upd, Nat.reduceEqDiff, reduceIte, ifA, ifB, hA, nmA, Nat.reduceAdd, ifA, ifB]; exact rfl)); all_goals (intro hb; first | (cases hb; done) | ((try rw [hb]); (try simp only [dcA, dcB, dcC, dcD, dcE, Bool.not_eq_true', Bool.not_eq_false'] at hb)))) | ((with_reducible refine And.intro ?_ ?_); (focus omega)) | ((with_reducible refine And.intro (?_ : enters Try.prog 57) ?_); (focus exact Try.call57); (refine callX_satH follow_sat ?_); simp only [go_sem, and_assoc, List.nil_append, List.append_nil, List.cons_append, Nat.reduceEqDiff, reduceIte, reduceCtorEq, hA, nmA, Nat.reduceAdd, ifA, ifB, hA, mat.matL, DV.agg.injEq]) | (exfalso; omega) | fail)
      refine ⟨d, b, fs, rfl, rfl, rfl, by omega, by omega, hit, fun H N2 O kn hkn hk25 hO hfr hnN2 hOO => ?_⟩
      repeat' (first | ((with_reducible refine hK _ ?_); clear hK K) | ((with_reducible refine aord_plain fun K hK => ?_); simp only [go_sem, Nat.reduceAdd, Nat.reduceMul, Nat.reduceEqDiff, Nat.reduceLT, reduceIte, reduceCtorEq, hA, nmA, Nat.reduceAdd, ifA, ifB, hA, mat.matL, DV.agg.injEq]) | refine awp_block ?_ | ((first | with_reducible refine aord_nil ?_ | refine awp_skip ?_ | refine awp_exit ?_ | refine awp_ret ?_); try simp only [rdA, Nat.reduceEqDiff, ifA, ifB, reduceIte]) | fail)
      have hkfl := flF_len kn
      refine awp_loop (fun p : Hp × Nat × Nat => ⟨upd (upd (upd bot 42 (.val (.int .i64 p.2.2))) 41 (.val (.int .i64 kn.length))) 40 (.sl O 0 kn.length 2 none), p.1, p.2.1⟩) (fun p => p.2.2 ≤ kn.length ∧ (∀ u, u < n → p.1 u = h u) ∧ n ≤ p.2.1 ∧ O < p.2.1 ∧ p.1 O = some ⟨true, .ints .i64 (flF kn)⟩ ∧ ∀ f, f ∈ kn.take p.2.2 → f.1 ≠ f.2) (fun p => kn.length - p.2.2) (H, N2, 0) ⟨Nat.zero_le _, fun u hu => hfr u (by omega), by dsimp only; omega, hOO.2, hO, fun f hf => by simp at hf⟩ ?_ ?_
      · exact Wk.sub (tsd (tsd (tsd tsd0 rfl) rfl) rfl) (fun _ _ h => h) rfl
      clear hfr hnN2 hO
      rintro ⟨H, N, i⟩ ⟨hik, hfr, hnN, hON, hO, hne⟩
      dsimp only at hik hfr hnN hON hO hne ⊢
      rcases Nat.lt_or_ge i kn.length with hlt | hge2
      · have hg := flF_take hlt
        have hmem := getD_memF hlt
        have m1 : (O = N) = False := eq_false (by omega)
        have m2 : (N = O) = False := eq_false (by omega)
        have hdrop : ∀ (o : Nat) (ob : Ob), h o = some ob → upd (upd H N (some ⟨true, .cells [.val (.int .i64 0), .val (.int .i64 0)]⟩)) N (some ⟨true, .cells [.val (.int .i64 (kn.getD i (0, 0)).1), .val (.int .i64 (kn.getD i (0, 0)).2)]⟩) o = some ob := fun o ob ho => by
          have := (hcl o _ ho).1
          rw [upd_ne _ _ (by omega), upd_ne _ _ (by omega), hfr o this]; exact ho


        repeat' (first | refine awp_seq_k fun K hK => ?_ | ((with_reducible refine hK _ ?_); clear hK K) | (clear hK K; (with_reducible refine hK _ ?_); clear hK K) | ((with_reducible refine aord_plain fun K hK => ?_); simp only [go_sem, Nat.reduceAdd, Nat.reduceMul, Nat.reduceEqDiff, Nat.reduceLT, reduceIte, reduceCtorEq, hO, m1, m2, hg, nmA, Nat.reduceAdd, ifA, ifB, hO, m1, m2, hg, mat.matL, DV.agg.injEq]) | refine awp_block ?_ | ((first | with_reducible refine aord_nil ?_ | refine awp_skip ?_ | refine awp_exit ?_ | refine awp_ret ?_); try simp only [rdA, Nat.reduceEqDiff, ifA, ifB, reduceIte]) | (refine awp_region tabOk rfl ?_; simp only [prep, pickO, lsA, lsB, lsC, lsD, lsE, lsF, lsG]) | (refine awp_region_draw (nt := 51) (id := 12) tabOk [(0, true, false), (1, true, false), (2, false, false), (3, true, false)] (by kernel_rfl) rfl (by kernel_rfl) ?_; simp only [prep, pickO, lsA, lsB, lsC, lsD, lsE, lsF, lsG]) | ((with_reducible apply awp_cond); (focus (simp only [St.ev, St.set, upd, Nat.reduceEqDiff, reduceIte, ifA, ifB, hO, m1, m2, hg, nmA, Nat.reduceAdd, ifA, ifB]; exact rfl)); all_goals (intro hb; first | (cases hb; done) | ((try rw [hb]); (try simp only [dcA, dcB, dcC, dcD, dcE, Bool.not_eq_true', Bool.not_eq_false'] at hb)))) | ((with_reducible refine And.intro ?_ ?_); (focus omega)) | ((with_reducible refine And.intro ?_ ?_); (focus (exact rfl))) | ((with_reducible refine And.intro (?_ : enters Try.prog 67) ?_); (focus exact Try.call67); (refine callX_sat opposite_sat ?_); simp only [go_sem, and_assoc, List.nil_append, List.append_nil, List.cons_append, Nat.reduceEqDiff, reduceIte, reduceCtorEq, hO, m1, m2, hg, nmA, Nat.reduceAdd, ifA, ifB, hO, m1, m2, hg, mat.matL, DV.agg.injEq]) | (simp only [doneH]; simp only [ressK, resK, wrapR, go_sem, Nat.reduceAdd, Nat.reduceMul, Nat.reduceEqDiff, Nat.reduceLT, reduceIte, reduceCtorEq, hO, m1, m2, hg, nmA, Nat.reduceAdd, ifA, ifB]) | (refine aStoreAll_cells (by simp only [St.ev, St.set, upd, Nat.reduceEqDiff, reduceIte, ifA, ifB, hO, m1, m2, hg, nmA, Nat.reduceAdd, ifA, ifB]; exact rfl) ?_ ?_ ?_ ?_ ?_; (focus (first | rfl | omega | (simp; done) | (simp; omega) | (simp [szOf, tab]; done) | (simp [szOf, tab]; omega))); (focus (first | rfl | omega | (simp; done) | (simp; omega) | (simp [szOf, tab]; done) | (simp [szOf, tab]; omega))); (focus (first | rfl | omega | (simp; done) | (simp; omega) | (simp [szOf, tab]; done) | (simp [szOf, tab]; omega))); (focus (first | rfl | (simp [AV.cell, Value.oneCell']; done))); (try simp only [go_sem, Nat.reduceAdd, Nat.reduceMul, Nat.reduceEqDiff, Nat.reduceLT, reduceIte, reduceCtorEq, hO, m1, m2, hg, nmA, Nat.reduceAdd, ifA, ifB])) | (exfalso; omega) | fail)
        refine .inr ⟨_, .i64, (kn.getD i (0, 0)).1, (kn.getD i (0, 0)).2, (kn.getD i (0, 0)).2, (kn.getD i (0, 0)).1, _, rfl, rfl, rfl, rfl, rfl, rfl, ?_⟩
        by_cases he : (kn.getD i (0, 0)).1 = (kn.getD i (0, 0)).2
        · have e1 : decide ((kn.getD i (0, 0)).1 = (kn.getD i (0, 0)).2 ∧ (kn.getD i (0, 0)).2 = (kn.getD i (0, 0)).1) = true := decide_eq_true ⟨he, he.symm⟩
          rw [e1]
          repeat' ((fail_if_success (with_reducible refine isRetQ ?_)); (first | refine awp_seq_k fun K hK => ?_ | ((with_reducible refine hK _ ?_); clear hK K) | ((with_reducible refine aord_plain fun K hK => ?_); simp only [go_sem, Nat.reduceAdd, Nat.reduceMul, Nat.reduceEqDiff, Nat.reduceLT, reduceIte, reduceCtorEq, hO, m1, m2, hg, nmA, Nat.reduceAdd, ifA, ifB, hO, m1, m2, hg, mat.matL, DV.agg.injEq]) | ((first | with_reducible refine aord_nil ?_ | refine awp_skip ?_ | refine awp_exit ?_ | refine awp_ret ?_); try simp only [rdA, Nat.reduceEqDiff, ifA, ifB, reduceIte]) | (refine awp_region tabOk rfl ?_; simp only [prep, pickO, lsA, lsB, lsC, lsD, lsE, lsF, lsG]) | ((with_reducible apply awp_cond); (focus (simp only [St.ev, St.set, upd, Nat.reduceEqDiff, reduceIte, ifA, ifB, hO, m1, m2, hg, nmA, Nat.reduceAdd, ifA, ifB]; exact rfl)); all_goals (intro hb; first | (cases hb; done) | ((try rw [hb]); (try simp only [dcA, dcB, dcC, dcD, dcE, Bool.not_eq_true', Bool.not_eq_false'] at hb)))) | fail))
          refine awp_weaken (s' := ⟨upd bot 4 (.val (.bool false)), h, N + 1⟩) (Wk.sub (tsd tsd0 rfl) hdrop rfl) ?_
          repeat' (first | ((first | with_reducible refine aord_nil ?_ | refine awp_skip ?_ | refine awp_exit ?_ | refine awp_ret ?_); try simp only [rdA, Nat.reduceEqDiff, ifA, ifB, reduceIte]) | (simp only [doneH]; simp only [ressK, resK, wrapR, go_sem, Nat.reduceAdd, Nat.reduceMul, Nat.reduceEqDiff, Nat.reduceLT, reduceIte, reduceCtorEq, hO, m1, m2, hg, nmA, Nat.reduceAdd, ifA, ifB]) | fail)
          refine hQ false (N + 1) ?_ (by omega)
          simp only [Bool.false_eq_true, false_iff]
          intro hv
          refine hv.2.2.2 (kn.getD i (0, 0)).1 ((hkn _ _).1 ?_)
          have e2 : ((kn.getD i (0, 0)).1, (kn.getD i (0, 0)).1) = kn.getD i (0, 0) := Prod.ext rfl he
          rw [e2]; exact hmem
        · have e1 : decide ((kn.getD i (0, 0)).1 = (kn.getD i (0, 0)).2 ∧ (kn.getD i (0, 0)).2 = (kn.getD i (0, 0)).1) = false := decide_eq_false fun h => he h.1
          rw [e1]
          repeat' ((fail_if_success (with_reducible refine isRetQ ?_)); (first | ((with_reducible refine hK _ ?_); clear hK K) | ((with_reducible refine aord_plain fun K hK => ?_); simp only [go_sem, Nat.reduceAdd, Nat.reduceMul, Nat.reduceEqDiff, Nat.reduceLT, reduceIte, reduceCtorEq, hO, m1, m2, hg, nmA, Nat.reduceAdd, ifA, ifB, hO, m1, m2, hg, mat.matL, DV.agg.injEq]) | ((first | with_reducible refine aord_nil ?_ | refine awp_skip ?_ | refine awp_exit ?_ | refine awp_ret ?_); try simp only [rdA, Nat.reduceEqDiff, ifA, ifB, reduceIte]) | (refine awp_region tabOk rfl ?_; simp only [prep, pickO, lsA, lsB, lsC, lsD, lsE, lsF, lsG]) | ((with_reducible apply awp_cond); (focus (simp only [St.ev, St.set, upd, Nat.reduceEqDiff, reduceIte, ifA, ifB, hO, m1, m2, hg, nmA, Nat.reduceAdd, ifA, ifB]; exact rfl)); all_goals (intro hb; first | (cases hb; done) | ((try rw [hb]); (try simp only [dcA, dcB, dcC, dcD, dcE, Bool.not_eq_true', Bool.not_eq_false'] at hb)))) | ((with_reducible refine And.intro ?_ ?_); (focus omega)) | fail))
          refine ⟨(upd (upd H N (some ⟨true, .cells [.val (.int .i64 0), .val (.int .i64 0)]⟩)) N (some ⟨true, .cells [.val (.int .i64 (kn.getD i (0, 0)).1), .val (.int .i64 (kn.getD i (0, 0)).2)]⟩), N + 1, i + 1), ⟨by dsimp only; omega, fun u hu => by dsimp only; rw [upd_ne _ _ (by omega), upd_ne _ _ (by omega)]; exact hfr u hu, by dsimp only; omega, by dsimp only; omega, by dsimp only; rw [upd_ne _ _ (by omega), upd_ne _ _ (by omega)]; exact hO, fun f hf => ?_⟩, by dsimp only; omega, Wk.sub (tsd (tsd (tsd tsd0 rfl) rfl) rfl) (fun _ _ h => h) rfl⟩
          dsimp only at hf
          rw [tk_snoc hlt] at hf
          rcases List.mem_append.1 hf with h1 | h1
          · exact hne f h1
          · rw [List.mem_singleton.1 h1]; exact he
      · rw [List.take_of_length_le (by omega)] at hne
        have hdrop : ∀ (o : Nat) (ob : Ob), h o = some ob → H o = some ob := fun o ob ho => by rw [hfr o (hcl o _ ho).1]; exact ho


        repeat' ((fail_if_success (with_reducible refine isRetQ ?_)); (first | refine awp_seq_k fun K hK => ?_ | ((with_reducible refine hK _ ?_); clear hK K) | (clear hK K; (with_reducible refine hK _ ?_); clear hK K) | ((with_reducible refine aord_plain fun K hK => ?_); simp only [go_sem, Nat.reduceAdd, Nat.reduceMul, Nat.reduceEqDiff, Nat.reduceLT, reduceIte, reduceCtorEq, hO, nmA, Nat.reduceAdd, ifA, ifB, hO]) | refine awp_block ?_ | ((first | with_reducible refine aord_nil ?_ | refine awp_skip ?_ | refine awp_exit ?_ | refine awp_ret ?_); try simp only [rdA, Nat.reduceEqDiff, ifA, ifB, reduceIte]) | (refine awp_region tabOk rfl ?_; simp only [prep, pickO, lsA, lsB, lsC, lsD, lsE, lsF, lsG]) | ((with_reducible apply awp_cond); (focus (simp only [St.ev, St.set, upd, Nat.reduceEqDiff, reduceIte, ifA, ifB, hO, nmA, Nat.reduceAdd, ifA, ifB]; exact rfl)); all_goals (intro hb; first | (cases hb; done) | ((try rw [hb]); (try simp only [dcA, dcB, dcC, dcD, dcE, Bool.not_eq_true', Bool.not_eq_false'] at hb)))) | ((with_reducible refine And.intro ?_ ?_); (focus omega)) | (exfalso; omega) | fail))
        refine awp_weaken (s' := ⟨upd bot 4 (.val (.bool true)), h, N⟩) (Wk.sub (tsd tsd0 rfl) hdrop rfl) ?_
        repeat' (first | ((first | with_reducible refine aord_nil ?_ | refine awp_skip ?_ | refine awp_exit ?_ | refine awp_ret ?_); try simp only [rdA, Nat.reduceEqDiff, ifA, ifB, reduceIte]) | (simp only [doneH]; simp only [ressK, resK, wrapR, go_sem, Nat.reduceAdd, Nat.reduceMul, Nat.reduceEqDiff, Nat.reduceLT, reduceIte, reduceCtorEq, hO, nmA, Nat.reduceAdd, ifA, ifB]) | fail)
        exact hQ true N ⟨fun _ => ⟨h0.1, h0.2, by rw [Int.toNat_natCast]; exact hit, fun x hx => hne _ ((hkn x x).2 hx) rfl⟩, fun _ => rfl⟩ hnN
  · skip
    have hno : ¬ VF z fs := fun h => h0 ⟨h.1, h.2.1⟩


    repeat' (first | refine awp_seq_k fun K hK => ?_ | ((with_reducible refine hK _ ?_); clear hK K) | ((with_reducible refine aord_plain fun K hK => ?_); simp only [go_sem, Nat.reduceAdd, Nat.reduceMul, Nat.reduceEqDiff, Nat.reduceLT, reduceIte, reduceCtorEq, hA, nmA, Nat.reduceAdd, ifA, ifB, hA]) | ((with_reducible apply aord_guard); (focus (simp only [St.ev, St.set, upd, Nat.reduceEqDiff, reduceIte, ifA, ifB, hA, nmA, Nat.reduceAdd, ifA, ifB]; exact rfl)); all_goals (intro hb; (try simp only [Bool.not_true, Bool.not_false] at hb); first | (cases hb; done) | ((try rw [hb]); (try simp only [Bool.not_eq_true', Bool.not_eq_false', Bool.and_eq_true, dcA, dcB, dcC, dcD, dcE] at hb); (try (revert hb; with_reducible refine true_imp_iff.2 ?_)); first | (intro K hK; simp only [go_sem, Nat.reduceAdd, Nat.reduceMul, Nat.reduceEqDiff, Nat.reduceLT, reduceIte, reduceCtorEq, hA, nmA, Nat.reduceAdd, ifA, ifB]) | (simp only [St.ev, St.set, upd, Nat.reduceEqDiff, reduceIte, ifA, ifB, hA, nmA, Nat.reduceAdd, ifA, ifB]) | skip))) | refine awp_block ?_ | ((first | with_reducible refine aord_nil ?_ | refine awp_skip ?_ | refine awp_exit ?_ | refine awp_ret ?_); try simp only [rdA, Nat.reduceEqDiff, ifA, ifB, reduceIte]) | (refine awp_region tabOk rfl ?_; simp only [prep, pickO, lsA, lsB, lsC, lsD, lsE, lsF, lsG]) | ((with_reducible apply awp_cond); (focus (simp only [St.ev, St.set, upd, Nat.reduceEqDiff, reduceIte, ifA, ifB, hA, nmA, Nat.reduceAdd, ifA, ifB]; exact rfl)); all_goals (intro hb; first | (cases hb; done) | ((try rw [hb]); (try simp only [dcA, dcB, dcC, dcD, dcE, Bool.not_eq_true', Bool.not_eq_false'] at hb)))) | (simp only [doneH]; simp only [ressK, resK, wrapR, go_sem, Nat.reduceAdd, Nat.reduceMul, Nat.reduceEqDiff, Nat.reduceLT, reduceIte, reduceCtorEq, hA, nmA, Nat.reduceAdd, ifA, ifB]) | (exfalso; omega) | fail)
    all_goals (first | (exact hQ false n (by simp [hno]) (Nat.le_refl _)) | skip)

theorem aAppend_cells {tab : Tab} {h : Hp} {n : Nat} {t e : TypeId} {i : TI} {z : Value} {o p len kk : Nat} {lim : Option Nat} {rw2 : Bool} {xs ys : List AV} {K : AV → Hp → Nat → Prop} (hty : tyOf tab t = some (.slice e)) (hi : tab e = some i) (h1 : i.size = 1) (hz : i.zero = [z]) (hb : i.bytes ≤ 24)
    (hp : h p = some ⟨rw2, .cells ys⟩) (ho : h o = some ⟨true, .cells xs⟩) (hne : o ≠ p) (hl : xs.length = len) (hk : ys.length = kk) (hle : len + kk ≤ 1000)
    (hK : K (.sl n 0 (len + kk) 1 none) (upd (upd h o none) n (some ⟨true, .cells (xs ++ ys)⟩)) (n + 1)) : aAppend tab h n t (.sl o 0 len 1 none) (.sl p 0 kk 1 lim) K := by
  refine .inl ⟨e, i, z, kk, .cells ys, hty, hi, h1, hz, .inl ⟨p, 0, lim, _, rfl, hp, ?_, ?_⟩, .inr ⟨o, len, _, .cells xs, _, rfl, ho, rfl, ?_, ?_, ?_, by omega, ?_, hK⟩⟩
  · simp [winOf, ← hk]
  · simp [Cont.flat, hk]
  · simp [Cont.flat, hl]
  · simp [winOf, ← hl]
  · simp [catOf]
  · have := Nat.mul_le_mul hle hb
    omega

/-- Slices of whole rows whose objects a function names. -/
def slsN (f : Nat → Nat) : Nat → List (List Int) → List AV
  | _, [] => []
  | k, x :: xs => .sl (f k) 0 x.length 1 none :: slsN f (k + 1) xs
theorem slsN_len {f : Nat → Nat} : ∀ {xss : List (List Int)} {b : Nat}, (slsN f b xss).length = xss.length
  | [], _ => rfl
  | x :: xs, b => by simp [slsN, slsN_len]
theorem slsN_app {f : Nat → Nat} : ∀ {xss yss : List (List Int)} {b : Nat}, slsN f b (xss ++ yss) = slsN f b xss ++ slsN f (b + xss.length) yss
  | [], _, _ => by simp [slsN]
  | x :: xs, yss, b => by rw [List.cons_append, slsN, slsN, slsN_app, List.cons_append, List.length_cons, show b + 1 + xs.length = b + (xs.length + 1) by omega]
theorem slsN_get {f : Nat → Nat} : ∀ {xss : List (List Int)} {b i : Nat}, i < xss.length → (slsN f b xss)[i]? = some (.sl (f (b + i)) 0 (xss.getD i []).length 1 none)
  | [], _, i, h => by simp at h
  | x :: xs, b, 0, _ => by simp [slsN]
  | x :: xs, b, i + 1, h => by
    rw [slsN, List.getElem?_cons_succ, slsN_get (by simpa using h), show b + 1 + i = b + (i + 1) by omega]
    simp
theorem slsN_lt {f : Nat → Nat} {n : Nat} : ∀ {xss : List (List Int)} {b : Nat}, (∀ i, i < xss.length → f (b + i) < n) → AV.ltL n (slsN f b xss) = true
  | [], _, _ => rfl
  | x :: xs, b, h => by
    have h0 := h 0 (by simp)
    simp only [slsN, AV.ltL, AV.lt, Bool.and_eq_true, decide_eq_true_eq]
    refine ⟨h0, slsN_lt fun i hi => ?_⟩
    have := h (i + 1) (by simp; omega)
    rw [show b + 1 + i = b + (i + 1) by omega]; exact this
theorem gat_slsN {h : Hp} {ik : IntKind} {f : Nat → Nat} : ∀ {xss : List (List Int)} {b : Nat}, (∀ i, i < xss.length → h (f (b + i)) = some ⟨true, .ints ik (xss.getD i [])⟩) → Gat h ik (slsN f b xss) ((List.range' b xss.length).map f) xss
  | [], _, _ => .nil
  | x :: xs, b, hh => by
    have h0 := hh 0 (by simp)
    simp only [Nat.add_zero, List.getD_cons_zero] at h0
    rw [slsN, List.length_cons, List.range'_succ, List.map_cons]
    refine .own h0 rfl (gat_slsN fun i hi => ?_)
    have := hh (i + 1) (by simp; omega)
    rw [show b + 1 + i = b + (i + 1) by omega]
    simpa using this
theorem gat_app {h : Hp} {ik : IntKind} {l l2 : List AV} {ps ps2 : List Nat} {xss yss : List (List Int)} (a : Gat h ik l ps xss) (b : Gat h ik l2 ps2 yss) : Gat h ik (l ++ l2) (ps ++ ps2) (xss ++ yss) := by
  induction a with
  | nil => exact b
  | own hp hl _ ih => exact .own hp hl ih
  | none _ ih => exact .none ih

/-- What comes back is a row of rows of one's own; of the caller's state only objects under n0 are kept. -/
theorem awp_gatherW {P : Program} {Γ : Ctx} {nt : Nat} {c : Code} {Q : Exit → St → Prop} {s : St} {h : Hp} {n0 o len : Nat} {ik : IntKind} {l : List AV} {ps : List Nat} {xss : List (List Int)} (t : Tmp) (ht : s.tmps t = .sl o 0 len 1 none) (ho : s.heap o = some ⟨true, .cells l⟩) (hg : Gat s.heap ik l ps xss) (hnd : (o :: ps).Nodup)
    (hn : n0 ≤ s.next) (hcl : HClosed h n0) (hm0 : ∀ u, n0 ≤ u → Γ.m0 u = none) (hps : ∀ p ∈ o :: ps, n0 ≤ p) (hsub : ∀ u ob, u < n0 → h u = some ob → s.heap u = some ob)
    (hK : AWP Γ nt P c Q ⟨upd bot t (.sl n0 0 len 1 none), upd h n0 (some ⟨true, .rows ik xss none⟩), n0 + 1⟩) : AWP Γ nt P c Q s := by
  refine awp_gather t o ht ho hg hnd (awp_weaken (Wk.over (dom := [n0]) (fun u => if u = n0 then s.next else u) n0 ?_ ?_ ?_ ?_ ?_) hK)
  · refine TmpLe.upd ?_ (by simp [AV.lt]) TmpLe.bot
    simp only [upd_same, ren, if_true]
  · refine HeapX.upd (c := .rows ik xss none) ?_ rfl (Nat.lt_succ_self _) (fun u ob' hx hu => ?_)
    · simp only [if_true, upd_same]
    · obtain ⟨a, b⟩ := hcl u ob' hu
      have hne : u ≠ n0 := by omega
      refine ⟨by show u < n0 + 1; omega, .inl ⟨a, if_neg hne⟩, ob', ?_, rfl, contLe_refl (fun k hk => if_neg (by omega)) (Nat.le_succ _) b⟩
      rw [if_neg hne]
      simp only
      rw [upd_ne _ _ (by omega), dropL, if_neg (fun hm => by have := hps u hm; omega)]
      exact hsub u ob' a hu
  · simp
  · intro d hd
    simp only [List.mem_singleton] at hd
    subst hd
    simpa using hn
  · intro u l hu
    have : u < n0 := by
      by_cases e : u < n0
      · exact e
      · rw [hm0 u (by omega)] at hu; cases hu
    exact ⟨if_neg (by omega), by show u < n0 + 1; omega⟩
theorem slsN_congr {f g : Nat → Nat} : ∀ {xss : List (List Int)} {b : Nat}, (∀ j, j < xss.length → f (b + j) = g (b + j)) → slsN f b xss = slsN g b xss
  | [], _, _ => rfl
  | x :: xs, b, h => by
    have h0 := h 0 (by simp)
    rw [Nat.add_zero] at h0
    have ih := slsN_congr (f := f) (g := g) (xss := xs) (b := b + 1) fun j hj => by
      have := h (j + 1) (by simp; omega)
      rw [show b + 1 + j = b + (j + 1) by omega]; exact this
    show AV.sl (f b) 0 x.length 1 none :: slsN f (b + 1) xs = AV.sl (g b) 0 x.length 1 none :: slsN g (b + 1) xs
    rw [h0, ih]
theorem slsN_set {f : Nat → Nat} {r : List Int} {m : Nat} : ∀ {xss : List (List Int)} {b k : Nat}, k < xss.length → (slsN f b xss).set k (.sl m 0 r.length 1 none) = slsN (fun j => if j = b + k then m else f j) b (xss.set k r)
  | [], _, _, h => by simp at h
  | x :: xs, b, 0, _ => by
    show AV.sl m 0 r.length 1 none :: slsN f (b + 1) xs = AV.sl (if b = b + 0 then m else f b) 0 r.length 1 none :: slsN (fun j => if j = b + 0 then m else f j) (b + 1) xs
    rw [if_pos (Nat.add_zero b).symm]
    congr 1
    exact slsN_congr fun j _ => by rw [if_neg (by omega)]
  | x :: xs, b, k + 1, h => by
    show AV.sl (f b) 0 x.length 1 none :: (slsN f (b + 1) xs).set k (.sl m 0 r.length 1 none) = AV.sl (if b = b + (k + 1) then m else f b) 0 x.length 1 none :: slsN (fun j => if j = b + (k + 1) then m else f j) (b + 1) (xs.set k r)
    rw [if_neg (by omega), slsN_set (by simpa using h)]
    congr 1
    exact slsN_congr fun j _ => by rw [show b + 1 + k = b + (k + 1) by omega]
/-- The pile that a key is put on: the first one whose last key is not greater. -/
def pilA : List (List Int) → Int → Nat
  | [], _ => 0
  | r :: xss, x => if r.getD (r.length - 1) 0 ≤ x then 0 else pilA xss x + 1
theorem pilA_le (x : Int) : ∀ xss, pilA xss x ≤ xss.length
  | [] => Nat.le_refl _
  | r :: xss => by have := pilA_le x xss; rw [pilA]; split <;> simp <;> omega
theorem pilA_is {x : Int} : ∀ {xss : List (List Int)} {k : Nat}, (∀ j, j < k → x < (xss.getD j []).getD ((xss.getD j []).length - 1) 0) → k ≤ xss.length → (k = xss.length ∨ (xss.getD k []).getD ((xss.getD k []).length - 1) 0 ≤ x) → pilA xss x = k
  | [], k, _, h, _ => by simp at h; subst h; rfl
  | r :: xss, 0, _, _, h3 => by
    rcases h3 with h3 | h3
    · simp at h3
    · rw [pilA, if_pos (by simpa using h3)]
  | r :: xss, k + 1, h1, h2, h3 => by
    have h0 := h1 0 (by omega)
    simp only [List.getD_cons_zero] at h0
    rw [pilA, if_neg (by omega), pilA_is (k := k) (fun j hj => by have := h1 (j + 1) (by omega); simpa using this) (by simpa using h2) (by rcases h3 with h3 | h3; exact .inl (by simpa using h3); exact .inr (by simpa using h3))]
def pilPut (xss : List (List Int)) (x : Int) : List (List Int) := if pilA xss x = xss.length then xss ++ [[x]] else xss.set (pilA xss x) (xss.getD (pilA xss x) [] ++ [x])
def pilTo (xs : List Int) : Nat → List (List Int)
  | 0 => []
  | i + 1 => pilPut (pilTo xs i) (xs.getD i 0)
theorem pilPut_new {xss : List (List Int)} {x : Int} (h : pilA xss x = xss.length) : pilPut xss x = xss ++ [[x]] := if_pos h
theorem pilPut_old {xss : List (List Int)} {x : Int} {k : Nat} (h : pilA xss x = k) (hk : k < xss.length) : pilPut xss x = xss.set k (xss.getD k [] ++ [x]) := by
  subst h; exact if_neg (by omega)
theorem pil_in {xs : List Int} : ∀ i, (pilTo xs i).length ≤ i ∧ ∀ j, j < (pilTo xs i).length → 1 ≤ ((pilTo xs i).getD j []).length ∧ ((pilTo xs i).getD j []).length ≤ i
  | 0 => ⟨Nat.le_refl _, fun j h => by simp [pilTo] at h⟩
  | i + 1 => by
    obtain ⟨h1, h2⟩ := pil_in (xs := xs) i
    have hle := pilA_le (xs.getD i 0) (pilTo xs i)
    rw [pilTo]
    by_cases e : pilA (pilTo xs i) (xs.getD i 0) = (pilTo xs i).length
    · rw [pilPut_new e]
      refine ⟨by simp; omega, fun j hj => ?_⟩
      by_cases c : j < (pilTo xs i).length
      · have : (pilTo xs i ++ [[xs.getD i 0]]).getD j [] = (pilTo xs i).getD j [] := by simp only [List.getD_eq_getElem?_getD]; rw [List.getElem?_append_left c]
        rw [this]; have := h2 j c; omega
      · have c2 : j = (pilTo xs i).length := by simp at hj; omega
        subst c2
        have : (pilTo xs i ++ [[xs.getD i 0]]).getD (pilTo xs i).length [] = [xs.getD i 0] := by simp [List.getD_eq_getElem?_getD]
        rw [this]; simp
    · rw [pilPut_old rfl (by omega)]
      refine ⟨by simp; omega, fun j hj => ?_⟩
      rw [List.length_set] at hj
      have hj2 := h2 j hj
      by_cases c : pilA (pilTo xs i) (xs.getD i 0) = j
      · rw [c, List.getD_eq_getElem?_getD, List.getElem?_set_self hj]
        simp only [Option.getD_some, List.length_append, List.length_singleton]; omega
      · rw [List.getD_eq_getElem?_getD, List.getElem?_set_ne c, ← List.getD_eq_getElem?_getD]; omega
/-- What is known of a heap that holds such rows. -/
structure RowsOf (H : Hp) (n O : Nat) (f : Nat → Nat) (xss : List (List Int)) : Prop where
  out : H O = some ⟨true, .cells (slsN f 0 xss)⟩
  outn : O < n
  row : ∀ j, j < xss.length → H (f j) = some ⟨true, .ints .i64 (xss.getD j [])⟩
  lt : ∀ j, j < xss.length → f j < n ∧ f j ≠ O
  inj : ∀ j l, j < xss.length → l < xss.length → f j = f l → j = l
theorem RowsOf.get {H : Hp} {n O : Nat} {f : Nat → Nat} {xss : List (List Int)} (h : RowsOf H n O f xss) {k : Nat} (hk : k < xss.length) : (slsN f 0 xss)[k]? = some (.sl (f k) 0 (xss.getD k []).length 1 none) := by
  have := slsN_get (f := f) (b := 0) hk
  rw [Nat.zero_add] at this; exact this
theorem RowsOf.gat {H : Hp} {n O : Nat} {f : Nat → Nat} {xss : List (List Int)} (h : RowsOf H n O f xss) : Gat H .i64 (slsN f 0 xss) ((List.range' 0 xss.length).map f) xss := gat_slsN fun j hj => by rw [Nat.zero_add]; exact h.row j hj
theorem RowsOf.nodup {H : Hp} {n O : Nat} {f : Nat → Nat} {xss : List (List Int)} (h : RowsOf H n O f xss) : (O :: (List.range' 0 xss.length).map f).Nodup := by
  refine List.nodup_cons.2 ⟨fun e => ?_, ?_⟩
  · obtain ⟨j, hj, e2⟩ := List.mem_map.1 e
    simp [List.mem_range'] at hj
    exact (h.lt j (by omega)).2 e2
  · refine List.pairwise_map.2 (List.Pairwise.imp_of_mem (fun {a b} ha hb hne e => hne ?_) (List.nodup_range' (s := 0) (n := xss.length)))
    simp [List.mem_range'] at ha hb
    exact h.inj a b (by omega) (by omega) e
theorem RowsOf.set {H G : Hp} {n O k : Nat} {f : Nat → Nat} {xss : List (List Int)} {x : Int} (h : RowsOf H n O f xss) (hk : k < xss.length) (gO : G O = some ⟨true, .cells ((slsN f 0 xss).set k (.sl (n + 1) 0 ((xss.getD k []).length + 1) 1 none))⟩) (gn : G (n + 1) = some ⟨true, .ints .i64 (xss.getD k [] ++ [x])⟩) (gk : ∀ u, u < n → u ≠ O → u ≠ f k → G u = H u) : RowsOf G (n + 2) O (fun j => if j = k then n + 1 else f j) (xss.set k (xss.getD k [] ++ [x])) := by
  have hOn := h.outn
  refine ⟨?_, by omega, fun j hj => ?_, fun j hj => ?_, fun j l hj hl e => ?_⟩
  · have := slsN_set (f := f) (r := xss.getD k [] ++ [x]) (m := n + 1) (b := 0) hk
    rw [List.length_append, List.length_singleton] at this
    rw [gO, this]
    simp only [Nat.zero_add]
  · rw [List.length_set] at hj
    by_cases c : j = k
    · subst c
      rw [if_pos rfl, gn, List.getD_eq_getElem?_getD (l := xss.set j _), List.getElem?_set_self hj]; rfl
    · rw [if_neg c, gk _ (h.lt j hj).1 (h.lt j hj).2 (fun e => c (h.inj j k hj hk e)), h.row j hj, List.getD_eq_getElem?_getD (l := xss.set k _), List.getElem?_set_ne (Ne.symm c), ← List.getD_eq_getElem?_getD]
  · rw [List.length_set] at hj
    have := h.lt j hj
    split <;> omega
  · rw [List.length_set] at hj hl
    have a := h.lt j hj
    have b := h.lt l hl
    by_cases c : j = k <;> by_cases d : l = k
    · omega
    · rw [if_pos c, if_neg d] at e; omega
    · rw [if_neg c, if_pos d] at e; omega
    · rw [if_neg c, if_neg d] at e; exact h.inj j l hj hl e
theorem RowsOf.push {H G : Hp} {n O : Nat} {f : Nat → Nat} {xss : List (List Int)} {r : List Int} {m nn : Nat} (h : RowsOf H n O f xss) (hm : n ≤ m) (hmn : m < nn) (gO : G (nn) = some ⟨true, .cells (slsN f 0 xss ++ [.sl m 0 r.length 1 none])⟩) (gn : G m = some ⟨true, .ints .i64 r⟩) (gk : ∀ u, u < n → u ≠ O → G u = H u) : RowsOf G (nn + 1) nn (fun j => if j = xss.length then m else f j) (xss ++ [r]) := by
  refine ⟨?_, by omega, fun j hj => ?_, fun j hj => ?_, fun j l hj hl e => ?_⟩
  · rw [gO, slsN_app, Nat.zero_add]
    have e1 : slsN f 0 xss = slsN (fun j => if j = xss.length then m else f j) 0 xss := slsN_congr fun j hj => by rw [if_neg (by omega)]
    rw [← e1]
    simp only [slsN, if_true]
  · simp only [List.length_append, List.length_singleton] at hj
    by_cases c : j = xss.length
    · subst c
      rw [if_pos rfl, gn]
      simp [List.getD_eq_getElem?_getD]
    · have hj2 : j < xss.length := by omega
      rw [if_neg c, gk _ (h.lt j hj2).1 (h.lt j hj2).2, h.row j hj2]
      simp only [List.getD_eq_getElem?_getD]; rw [List.getElem?_append_left hj2]
  · simp only [List.length_append, List.length_singleton] at hj
    by_cases c : j = xss.length
    · rw [if_pos c]; omega
    · rw [if_neg c]; have := h.lt j (by omega); omega
  · simp only [List.length_append, List.length_singleton] at hj hl
    by_cases c : j = xss.length <;> by_cases d : l = xss.length
    · omega
    · rw [if_pos c, if_neg d] at e; have := h.lt l (by omega); omega
    · rw [if_neg c, if_pos d] at e; have := h.lt j (by omega); omega
    · rw [if_neg c, if_neg d] at e; exact h.inj j l (by omega) (by omega) e
theorem RowsOf.push2 {H G : Hp} {n O m O2 N : Nat} {f : Nat → Nat} {xss : List (List Int)} {r : List Int} (h : RowsOf H n O f xss) (hm : n ≤ m) (hO2 : n ≤ O2) (hne : m ≠ O2) (hmN : m < N) (hON : O2 < N) (gO : G O2 = some ⟨true, .cells (slsN f 0 xss ++ [.sl m 0 r.length 1 none])⟩) (gn : G m = some ⟨true, .ints .i64 r⟩) (gk : ∀ u, u < n → u ≠ O → G u = H u) : RowsOf G N O2 (fun j => if j = xss.length then m else f j) (xss ++ [r]) := by
  refine ⟨?_, hON, fun j hj => ?_, fun j hj => ?_, fun j l hj hl e => ?_⟩
  · rw [gO, slsN_app, Nat.zero_add]
    have e1 : slsN f 0 xss = slsN (fun j => if j = xss.length then m else f j) 0 xss := slsN_congr fun j hj => by rw [if_neg (by omega)]
    rw [← e1]
    simp only [slsN, if_true]
  · simp only [List.length_append, List.length_singleton] at hj
    by_cases c : j = xss.length
    · subst c
      rw [if_pos rfl, gn]
      simp [List.getD_eq_getElem?_getD]
    · have hj2 : j < xss.length := by omega
      rw [if_neg c, gk _ (h.lt j hj2).1 (h.lt j hj2).2, h.row j hj2]
      simp only [List.getD_eq_getElem?_getD]; rw [List.getElem?_append_left hj2]
  · simp only [List.length_append, List.length_singleton] at hj
    by_cases c : j = xss.length
    · rw [if_pos c]; omega
    · rw [if_neg c]; have := h.lt j (by omega); omega
  · simp only [List.length_append, List.length_singleton] at hj hl
    by_cases c : j = xss.length <;> by_cases d : l = xss.length
    · omega
    · rw [if_pos c, if_neg d] at e; have := h.lt l (by omega); omega
    · rw [if_neg c, if_pos d] at e; have := h.lt j (by omega); omega
    · rw [if_neg c, if_neg d] at e; exact h.inj j l (by omega) (by omega) e


/-- What is laid at the places, of the first k keys. -/
def scN (P xs : List Int) : Nat → List Int
  | 0 => List.replicate xs.length 0
  | k + 1 => (scN P xs k).set (P.getD k 0).toNat (xs.getD k 0)
theorem scN_len (P xs : List Int) : ∀ k, (scN P xs k).length = xs.length
  | 0 => by simp [scN]
  | k + 1 => by simp [scN, scN_len P xs k]
def ordL (xs : List Int) : List Int := scN (placesL xs) xs xs.length
theorem ordL_len (xs : List Int) : (ordL xs).length = xs.length := scN_len _ _ _

theorem placesL_lt {xs : List Int} {i : Nat} (h : i < xs.length) : 0 ≤ (placesL xs).getD i 0 ∧ (placesL xs).getD i 0 < xs.length := by
  rw [placesL_get h]
  have := plC_nonneg xs i xs.length
  have := plC_own xs i xs.length h
  omega


theorem no_inj : ∀ (m n : Nat) (f : Nat → Nat), (∀ a, a < n → f a < m) → (∀ a b, a < n → b < n → f a = f b → a = b) → n ≤ m
  | 0, n, f, h, _ => by
    rcases Nat.eq_zero_or_pos n with h0 | h0
    · omega
    · have := h 0 h0; omega
  | m + 1, n, f, h, hi => by
    by_cases hx : ∃ a, a < n ∧ f a = m
    · obtain ⟨a0, ha0, hf0⟩ := hx
      have := no_inj m (n - 1) (fun a => f (if a < a0 then a else a + 1)) (fun a ha => by
        have h1 := h (if a < a0 then a else a + 1) (by split <;> omega)
        have h2 : f (if a < a0 then a else a + 1) ≠ m := fun e => by
          have := hi (if a < a0 then a else a + 1) a0 (by split <;> omega) ha0 (by rw [e, hf0])
          split at this <;> omega
        show f (if a < a0 then a else a + 1) < m
        omega) (fun a b ha hb hab => by
        have := hi (if a < a0 then a else a + 1) (if b < a0 then b else b + 1) (by split <;> omega) (by split <;> omega) hab
        split at this <;> split at this <;> omega)
      omega
    · have := no_inj m n f (fun a ha => by
        have := h a ha
        have : f a ≠ m := fun e => hx ⟨a, ha, e⟩
        omega) hi
      omega
theorem inj_surj {n : Nat} {f : Nat → Nat} (h : ∀ a, a < n → f a < n) (hi : ∀ a b, a < n → b < n → f a = f b → a = b) {b : Nat} (hb : b < n) : ∃ a, a < n ∧ f a = b := by
  by_cases hx : ∃ a, a < n ∧ f a = b
  · exact hx
  · exfalso
    have hne : ∀ a, a < n → f a ≠ b := fun a ha e => hx ⟨a, ha, e⟩
    have := no_inj (n - 1) n (fun a => if f a < b then f a else f a - 1) (fun a ha => by
      have := h a ha; have := hne a ha
      show (if f a < b then f a else f a - 1) < n - 1
      split <;> omega) (fun a c ha hc hac => by
      have h1 := hne a ha; have h2 := hne c hc
      apply hi a c ha hc
      have hac : (if f a < b then f a else f a - 1) = (if f c < b then f c else f c - 1) := hac
      split at hac <;> split at hac <;> omega)
    omega
/-- A key comes ahead of another one: it is less, or equal and ahead. -/
def ltK (xs : List Int) (i k : Nat) : Prop := xs.getD i 0 < xs.getD k 0 ∨ (xs.getD i 0 = xs.getD k 0 ∧ i < k)
theorem plC_mono {xs : List Int} {i k : Nat} (h : ltK xs i k) : ∀ m, plC xs i m + (if i < m then 1 else 0) ≤ plC xs k m
  | 0 => by simp [plC]
  | m + 1 => by
    have ih := plC_mono h m
    unfold ltK at h
    rw [plC, plC]
    by_cases h1 : m = i
    · subst h1
      rw [if_neg (by omega)] at ih
      rw [if_neg (by omega), if_pos (by omega), if_pos h]
      omega
    · by_cases h2 : xs.getD m 0 < xs.getD i 0 ∨ (xs.getD m 0 = xs.getD i 0 ∧ m < i)
      · have h3 : xs.getD m 0 < xs.getD k 0 ∨ (xs.getD m 0 = xs.getD k 0 ∧ m < k) := by omega
        rw [if_pos h2, if_pos h3]
        split at ih <;> split <;> omega
      · rw [if_neg h2]
        split at ih <;> split <;> split <;> omega
def plN (xs : List Int) (i : Nat) : Nat := (plC xs i xs.length).toNat
theorem plN_lt {xs : List Int} {i : Nat} (h : i < xs.length) : plN xs i < xs.length := by
  have := plC_own xs i xs.length h
  have := plC_nonneg xs i xs.length
  unfold plN; omega
theorem plN_mono {xs : List Int} {i k : Nat} (hi : i < xs.length) (h : ltK xs i k) : plN xs i < plN xs k := by
  have := plC_mono h xs.length
  have := plC_nonneg xs i xs.length
  rw [if_pos hi] at *
  unfold plN; omega
theorem plN_inj {xs : List Int} {i k : Nat} (hi : i < xs.length) (hk : k < xs.length) (h : plN xs i = plN xs k) : i = k := by
  by_cases e : i = k
  · exact e
  · exfalso
    have : ltK xs i k ∨ ltK xs k i := by unfold ltK; omega
    rcases this with h1 | h1
    · have := plN_mono hi h1; omega
    · have := plN_mono hk h1; omega
theorem plN_get {xs : List Int} {i : Nat} (h : i < xs.length) : ((placesL xs).getD i 0).toNat = plN xs i := by rw [placesL_get h]; rfl
theorem scN_at {xs : List Int} : ∀ k, k ≤ xs.length → ∀ a, a < k → (scN (placesL xs) xs k).getD (plN xs a) 0 = xs.getD a 0
  | 0, _, a, h => by omega
  | k + 1, hk, a, h => by
    rw [scN, plN_get (by omega)]
    by_cases e : a = k
    · subst e
      exact getD_set_same (by rw [scN_len]; exact plN_lt (by omega))
    · rw [getD_set_ne' (fun h1 => e (plN_inj (by omega) (by omega) h1.symm))]
      exact scN_at k (by omega) a (by omega)
theorem ord_at {xs : List Int} {a : Nat} (h : a < xs.length) : (ordL xs).getD (plN xs a) 0 = xs.getD a 0 := scN_at xs.length (Nat.le_refl _) a h
theorem ord_from {xs : List Int} {b : Nat} (h : b < xs.length) : ∃ a, a < xs.length ∧ plN xs a = b := inj_surj (fun a ha => plN_lt ha) (fun a b ha hb h => plN_inj ha hb h) h
theorem ord_mono {xs : List Int} {p q : Nat} (hpq : p < q) (hq : q < xs.length) : (ordL xs).getD p 0 ≤ (ordL xs).getD q 0 := by
  obtain ⟨a, ha, rfl⟩ := ord_from (xs := xs) (b := p) (by omega)
  obtain ⟨b, hb, rfl⟩ := ord_from (xs := xs) hq
  rw [ord_at ha, ord_at hb]
  by_cases h : xs.getD a 0 ≤ xs.getD b 0
  · exact h
  · have : ltK xs b a := .inl (by omega)
    have := plN_mono hb this
    omega
/-- No key is less than the one ahead. -/
def srt (xs : List Int) : Bool := (List.range (xs.length - 1)).all fun j => decide (xs.getD j 0 ≤ xs.getD (j + 1) 0)
theorem srt_iff {xs : List Int} : srt xs = true ↔ ∀ j, j + 1 < xs.length → xs.getD j 0 ≤ xs.getD (j + 1) 0 := by
  unfold srt
  rw [List.all_eq_true]
  constructor
  · intro h j hj; have := h j (List.mem_range.2 (by omega)); simpa using this
  · intro h j hj; have := List.mem_range.1 hj; simpa using h j (by omega)
theorem srt_le {xs : List Int} (h : srt xs = true) : ∀ {d i : Nat}, i + d < xs.length → xs.getD i 0 ≤ xs.getD (i + d) 0
  | 0, i, _ => Int.le_refl _
  | d + 1, i, hd => by have := srt_le h (d := d) (i := i) (by omega); have := srt_iff.1 h (i + d) (by omega); rw [← Nat.add_assoc]; omega
theorem srt_ltK {xs : List Int} (h : srt xs = true) {i k : Nat} (hi : i < xs.length) (hk : k < xs.length) : ltK xs i k ↔ i < k := by
  unfold ltK
  constructor
  · intro h1
    rcases Nat.lt_or_ge i k with h2 | h2
    · exact h2
    · have := srt_le h (i := k) (d := i - k) (by omega)
      rw [show k + (i - k) = i by omega] at this
      omega
  · intro h1
    have := srt_le h (i := i) (d := k - i) (by omega)
    rw [show i + (k - i) = k by omega] at this
    omega
theorem srt_pl {xs : List Int} (h : srt xs = true) {i : Nat} (hi : i < xs.length) : ∀ m, m ≤ xs.length → plC xs i m = (min i m : Nat)
  | 0, _ => by simp [plC]
  | m + 1, hm => by
    have ih := srt_pl h hi m (by omega)
    have := srt_ltK h (i := m) (k := i) (by omega) hi
    unfold ltK at this
    rw [plC, ih]
    split <;> rename_i h1
    · have := this.1 h1; omega
    · have : ¬ m < i := fun h2 => h1 (this.2 h2)
      omega
theorem srt_ord {xs : List Int} (h : srt xs = true) : ordL xs = xs := by
  apply ext_getD (ordL_len xs)
  intro j hj
  rw [ordL_len] at hj
  have e : plN xs j = j := by unfold plN; rw [srt_pl h hj xs.length (Nat.le_refl _)]; omega
  have := ord_at hj
  rw [e] at this
  exact this
theorem ord_srt {xs : List Int} : srt (ordL xs) = true := srt_iff.2 fun j hj => ord_mono (by omega) (by rw [ordL_len] at hj; exact hj)
theorem srt_eq {xs : List Int} : srt xs = decide (xs = ordL xs) := by
  by_cases h : srt xs = true
  · rw [h, srt_ord h]; simp
  · have : xs ≠ ordL xs := fun e => h (by rw [e]; exact ord_srt)
    simp only [Bool.not_eq_true] at h
    rw [h]; simp [this]
/-- Zeros behind the keys. -/
def padL (xs : List Int) : List Int := xs ++ List.replicate (8 - xs.length) 0
theorem padL_len {xs : List Int} (h : xs.length ≤ 8) : (padL xs).length = 8 := by simp [padL]; omega
theorem padL_inj {xs ys : List Int} (h : xs.length = ys.length) : padL xs = padL ys ↔ xs = ys := by
  constructor
  · intro e; exact (List.append_inj e h).1
  · rintro rfl; rfl


/-- Numbers are an order: few, each of 0 and so on up to their number less 1, and no two alike. -/
def isOrd (p : List Int) : Prop := p.length ≤ 5 ∧ (∀ i, i < p.length → 0 ≤ p.getD i 0 ∧ p.getD i 0 < p.length) ∧ ∀ a b, a < b → b < p.length → p.getD a 0 ≠ p.getD b 0
/-- Each of 0 and so on up to their number less 1, once. -/
def isOnce (p : List Int) : Prop := (∀ i, i < p.length → 0 ≤ p.getD i 0 ∧ p.getD i 0 < p.length) ∧ ∀ a b, a < b → b < p.length → p.getD a 0 ≠ p.getD b 0
noncomputable def onceB (p : List Int) : Bool := @decide (isOnce p) (Classical.propDecidable _)
theorem onceB_iff {p : List Int} : onceB p = true ↔ isOnce p := by unfold onceB; simp
theorem onceB_no {p : List Int} (h : ¬ isOnce p) : onceB p = false := by
  cases e : onceB p with
  | false => rfl
  | true => exact (h (onceB_iff.1 e)).elim
noncomputable def ordB (p : List Int) : Bool := @decide (isOrd p) (Classical.propDecidable _)
theorem ordB_iff {p : List Int} : ordB p = true ↔ isOrd p := by unfold ordB; simp
theorem ordB_no {p : List Int} (h : ¬ isOrd p) : ordB p = false := by
  cases e : ordB p with
  | false => rfl
  | true => exact (h (ordB_iff.1 e)).elim
/-- The first of the first k places with a value, -1 if there is none. -/
def fstAt (p : List Int) (v : Int) : Nat → Int
  | 0 => -1
  | k + 1 => if 0 ≤ fstAt p v k then fstAt p v k else if p.getD k 0 = v then (k : Int) else -1
theorem fst_none {p : List Int} {v : Int} : ∀ n, (∀ j, j < n → p.getD j 0 ≠ v) → fstAt p v n = -1
  | 0, _ => rfl
  | n + 1, h => by rw [fstAt, fst_none n fun j hj => h j (by omega), if_neg (by omega), if_neg (h n (by omega))]
theorem fst_keep {p : List Int} {v : Int} {k : Nat} (h : 0 ≤ fstAt p v k) : ∀ d, fstAt p v (k + d) = fstAt p v k
  | 0 => rfl
  | d + 1 => by rw [← Nat.add_assoc, fstAt, fst_keep h d, if_pos h]
theorem fst_at {p : List Int} {v : Int} {i n : Nat} (hi : i < n) (hv : p.getD i 0 = v) (hn : ∀ j, j < i → p.getD j 0 ≠ v) : fstAt p v n = i := by
  have h1 : fstAt p v (i + 1) = i := by rw [fstAt, fst_none i hn, if_neg (by omega), if_pos hv]
  have h2 := fst_keep (p := p) (v := v) (k := i + 1) (by omega) (n - (i + 1))
  rw [show i + 1 + (n - (i + 1)) = n by omega, h1] at h2
  exact h2
theorem fst_in {p : List Int} {v : Int} : ∀ n, -1 ≤ fstAt p v n ∧ fstAt p v n < n ∧ (0 ≤ fstAt p v n → p.getD (fstAt p v n).toNat 0 = v)
  | 0 => ⟨by simp [fstAt], by simp [fstAt], fun h => by simp [fstAt] at h⟩
  | n + 1 => by
    have ih := fst_in (p := p) (v := v) n
    rw [fstAt]
    split
    · exact ⟨by omega, by omega, ih.2.2⟩
    · split
      · rename_i h; exact ⟨by omega, by omega, fun _ => by rw [show ((n : Int)).toNat = n by omega]; exact h⟩
      · exact ⟨by omega, by omega, fun h => by omega⟩
theorem fst_some {p : List Int} {v : Int} {i n : Nat} (hi : i < n) (hv : p.getD i 0 = v) : 0 ≤ fstAt p v n := by
  have h1 : 0 ≤ fstAt p v (i + 1) := by
    rw [fstAt]
    split
    · assumption
    · first | (rw [if_pos hv]; omega) | omega
  have h2 := fst_keep h1 (n - (i + 1))
  rw [show i + 1 + (n - (i + 1)) = n by omega] at h2
  omega
/-- An order has each number once; the place of a number. -/
theorem once_has {p : List Int} (h : isOnce p) {v : Nat} (hv : v < p.length) : ∃ i, i < p.length ∧ p.getD i 0 = v := by
  obtain ⟨h2, h3⟩ := h
  obtain ⟨i, hi, he⟩ := inj_surj (n := p.length) (f := fun i => (p.getD i 0).toNat) (fun a ha => by have := h2 a ha; show (p.getD a 0).toNat < _; omega) (fun a b ha hb hab => by
    have hab : (p.getD a 0).toNat = (p.getD b 0).toNat := hab
    have := h2 a ha
    have := h2 b hb
    rcases Nat.lt_trichotomy a b with q | q | q
    · exact (h3 a b q hb (by omega)).elim
    · exact q
    · exact (h3 b a q ha (by omega)).elim) hv
  have := h2 i hi
  have he : (p.getD i 0).toNat = v := he
  exact ⟨i, hi, by omega⟩
theorem ord_has {p : List Int} (h : isOrd p) {v : Nat} (hv : v < p.length) : ∃ i, i < p.length ∧ p.getD i 0 = v := once_has h.2 hv
theorem once_of {p : List Int} (h : ∀ v, v < p.length → ∃ i, i < p.length ∧ p.getD i 0 = (v : Int)) : isOnce p := by
  have hf : ∀ v, ∃ i, v < p.length → i < p.length ∧ p.getD i 0 = (v : Int) := fun v => by
    by_cases hv : v < p.length
    · obtain ⟨i, hi⟩ := h v hv; exact ⟨i, fun _ => hi⟩
    · exact ⟨0, fun h => (hv h).elim⟩
  let f : Nat → Nat := fun v => (hf v).choose
  have hfs : ∀ v, v < p.length → f v < p.length ∧ p.getD (f v) 0 = (v : Int) := fun v => (hf v).choose_spec
  have hsur : ∀ i, i < p.length → ∃ v, v < p.length ∧ f v = i := fun i hi => inj_surj (n := p.length) (f := f) (fun a ha => (hfs a ha).1) (fun a b ha hb hab => by
    have h1 := (hfs a ha).2
    have h2 := (hfs b hb).2
    rw [hab] at h1
    omega) hi
  refine ⟨fun i hi => ?_, fun a b hab hb he => ?_⟩
  · obtain ⟨v, hv, rfl⟩ := hsur i hi
    rw [(hfs v hv).2]; omega
  · obtain ⟨u, hu, rfl⟩ := hsur a (by omega)
    obtain ⟨v, hv, rfl⟩ := hsur b hb
    rw [(hfs u hu).2, (hfs v hv).2] at he
    have : u = v := by omega
    subst this
    omega
theorem ord_of {p : List Int} (h5 : p.length ≤ 5) (h : ∀ v, v < p.length → ∃ i, i < p.length ∧ p.getD i 0 = (v : Int)) : isOrd p := ⟨h5, once_of h⟩
theorem ordB_eq (p : List Int) : ordB p = (decide (p.length ≤ 5) && onceB p) := by
  by_cases h : isOrd p
  · rw [ordB_iff.2 h, onceB_iff.2 h.2, decide_eq_true h.1]; rfl
  · rw [ordB_no h]
    by_cases h5 : p.length ≤ 5
    · rw [onceB_no (fun h2 => h ⟨h5, h2⟩), Bool.and_false]
    · rw [decide_eq_false h5, Bool.false_and]
/-- The places of the numbers of one order in another one. -/
def relL (p q : List Int) : List Int := (List.range p.length).map fun i => fstAt q (p.getD i 0) q.length
theorem relL_len (p q : List Int) : (relL p q).length = p.length := by simp [relL]
theorem relL_get {p q : List Int} {i : Nat} (h : i < p.length) : (relL p q).getD i 0 = fstAt q (p.getD i 0) q.length := by
  rw [List.getD_eq_getElem?_getD, List.getElem?_eq_getElem (by rw [relL_len]; exact h)]; simp [relL]
theorem relL_up {p q : List Int} {i : Nat} (h : i < p.length) : (relL p q).take i ++ [fstAt q (p.getD i 0) q.length] = (relL p q).take (i + 1) := by
  rw [List.take_succ_eq_append_getElem (by rw [relL_len]; exact h)]
  congr 2
  have := relL_get (q := q) h
  rw [List.getD_eq_getElem?_getD, List.getElem?_eq_getElem (by rw [relL_len]; exact h)] at this
  simpa using this.symm
/-- What is there behind i numbers and k places of the next one. -/
def relIn (p q : List Int) (i k : Nat) : List Int := (relL p q).take i ++ (if 0 ≤ fstAt q (p.getD i 0) k then [fstAt q (p.getD i 0) k] else [])
theorem relIn_zero (p q : List Int) (i : Nat) : relIn p q i 0 = (relL p q).take i := by unfold relIn; rw [show fstAt q (p.getD i 0) 0 = -1 from rfl, if_neg (by omega), List.append_nil]
theorem relIn_hit {p q : List Int} {i k : Nat} (hq : isOrd q) (hk : k < q.length) (h : q.getD k 0 = p.getD i 0) : relIn p q i k ++ [(k : Int)] = relIn p q i (k + 1) := by
  have h0 : fstAt q (p.getD i 0) k = -1 := fst_none k fun j hj he => hq.2.2 j k hj hk (by omega)
  unfold relIn
  have h1 : fstAt q (p.getD i 0) (k + 1) = k := by rw [fstAt, h0, if_neg (by omega), if_pos h]
  rw [h1, h0, if_neg (by omega), if_pos (by omega), List.append_nil]
theorem relIn_miss {p q : List Int} {i k : Nat} (h : q.getD k 0 ≠ p.getD i 0) : relIn p q i (k + 1) = relIn p q i k := by
  unfold relIn
  rw [fstAt]
  by_cases h0 : 0 ≤ fstAt q (p.getD i 0) k
  · rw [if_pos h0]
  · rw [if_neg h0, if_neg h, if_neg (by omega), if_neg h0]
theorem rel_ord {p q : List Int} (hp : isOrd p) (hq : isOrd q) (hl : p.length = q.length) {i : Nat} (hi : i < p.length) : 0 ≤ fstAt q (p.getD i 0) q.length := by
  have h1 := hp.2.1 i hi
  obtain ⟨k, hk, he⟩ := ord_has hq (v := (p.getD i 0).toNat) (by omega)
  exact fst_some hk (by omega)
theorem relIn_end {p q : List Int} (hp : isOrd p) (hq : isOrd q) (hl : p.length = q.length) {i : Nat} (hi : i < p.length) : relIn p q i q.length = (relL p q).take (i + 1) := by
  unfold relIn
  rw [if_pos (rel_ord hp hq hl hi), relL_up hi]
theorem relIn_len {p q : List Int} {i k : Nat} (hi : i < p.length) (hk : k ≤ q.length) (h5 : q.length ≤ 5) : (relIn p q i k).length ≤ i + 1 := by
  unfold relIn
  have : ((relL p q).take i).length ≤ i := by rw [List.length_take]; omega
  split <;> simp <;> omega
/-- Both fine, and of one length. -/
noncomputable def ord2B (p q : List Int) : Bool := @decide (isOrd p ∧ isOrd q ∧ p.length = q.length) (Classical.propDecidable _)
theorem ord2B_iff {p q : List Int} : ord2B p q = true ↔ isOrd p ∧ isOrd q ∧ p.length = q.length := by unfold ord2B; simp
theorem ord2B_no {p q : List Int} (h : ¬ (isOrd p ∧ isOrd q ∧ p.length = q.length)) : ord2B p q = false := by
  cases e : ord2B p q with
  | false => rfl
  | true => exact (h (ord2B_iff.1 e)).elim

theorem ord2B_eq (p q : List Int) : ord2B p q = (decide ((p.length : Int) = q.length) && ordB p && ordB q) := by
  by_cases h : isOrd p ∧ isOrd q ∧ p.length = q.length
  · rw [ord2B_iff.2 h, ordB_iff.2 h.1, ordB_iff.2 h.2.1, decide_eq_true (by omega)]; rfl
  · rw [ord2B_no h]
    cases hp : ordB p with
    | false => simp
    | true =>
      cases hq : ordB q with
      | false => simp
      | true => rw [decide_eq_false (fun e => h ⟨ordB_iff.1 hp, ordB_iff.1 hq, by omega⟩)]; rfl


theorem slIndex_sat : Sat Try.prog 88 (fun ds Q => ∃ (xs : List Int) (v : Int), ds = [.row (.ints .i64 (xs)), .val (.int .i64 (v))] ∧ (xs.length ≤ 1099511627776) ∧ Q (.val (.int .i64 ((fstAt xs v xs.length))))) := by
  refine sat_intro tabOk Try.func88 rfl 19 rfl [.tmp 4] rfl ?_
  rintro ds Q W ⟨xs, v, rfl, hl, hQ⟩
  refine ⟨Nat.le_of_ble_eq_true rfl, ?_⟩
  simp only [initS, initT, mat.matL, mat, Cont.len]
  repeat' (first | refine awp_seq_k fun K hK => ?_ | ((with_reducible refine hK _ ?_); clear hK K) | ((with_reducible refine aord_plain fun K hK => ?_); simp only [go_sem, Nat.reduceAdd, Nat.reduceMul, Nat.reduceEqDiff, Nat.reduceLT, reduceIte, reduceCtorEq]) | refine awp_block ?_ | ((first | with_reducible refine aord_nil ?_ | refine awp_skip ?_ | refine awp_exit ?_ | refine awp_ret ?_); try simp only [rdA, Nat.reduceEqDiff, ifA, ifB, reduceIte]) | (refine awp_region tabOk rfl ?_; simp only [prep, pickO, lsA, lsB, lsC, lsD, lsE, lsF, lsG]) | fail)
  refine awp_loopE (α := Nat) (fun s p => ⟨(upd (upd (upd (upd bot 0 (s.tmps 0)) 1 (s.tmps 1)) 7 (s.tmps 7)) 8 (.val (.int .i64 (p)))), s.heap, s.next⟩) _ (fun p => by simp only [St.ev, St.set, upd, Nat.reduceEqDiff, reduceIte, ifA, ifB]; exact rfl) (fun p => (p ≤ xs.length) ∧ (∀ j, j < p → xs.getD j 0 ≠ v)) (fun p => xs.length - p) (0) ?_ ?_ ?_
  · (try simp only); (refine ⟨?_, ?_⟩ <;> (first | omega | (intro j h; omega)))
  · (apply Wk.same; (case' h2 => (focus ((repeat' (with_reducible first | exact HeapX.bot | (apply HeapX.skip; (case hx => (simp; done))) | apply HeapX.none | apply HeapX.upd)); all_goals (first | rfl | exact Nat.le_of_ble_eq_true rfl | (simp only [St.set, St.ev, upd, ren, renL, id, Nat.reduceEqDiff, reduceIte, ContLe]; done) | (exact And.intro rfl (And.intro (by first | exact Nat.le_of_ble_eq_true rfl | omega) (by first | exact Nat.le_of_ble_eq_true rfl | omega))) | (first | (simp only [St.set, St.ev, upd, ren, renL, id, Nat.reduceEqDiff, reduceIte]; exact contLe_nil) | ((repeat' (first | exact contLe_nil | refine contLe_cons (.inr ⟨?_, rfl⟩) ?_)); all_goals (first | rfl | (simp only [St.set, St.ev, upd, ren, renL, id, Nat.reduceEqDiff, reduceIte]; done) | ((try simp only [St.set, St.ev, upd, ren, renL, id, Nat.reduceEqDiff, reduceIte]); first | (with_reducible exact av_int (by omega)) | (with_reducible exact av_sl (by first | omega | (simp; done) | (simp; omega)) (by first | omega | (simp; done) | (simp; omega)))) | (simp only [St.set, St.ev, upd, ren, renL, id, Nat.reduceEqDiff, reduceIte, Int.natCast_add, Int.natCast_one, Int.cast_ofNat_Int, Int.natCast_zero]; done) | (simp only [St.set, St.ev, upd, ren, renL, id, Nat.reduceEqDiff, reduceIte]) | skip); done)) | (simp only [St.set, St.ev, upd, ren, renL, id, Nat.reduceEqDiff, reduceIte, ContLe]) | skip)))); (case' h1 => (focus ((repeat' (with_reducible first | exact TmpLe.bot | refine TmpLe.upd ?_ rfl ?_)); all_goals (first | rfl | (simp only [St.set, St.ev, upd, ren, renL, id, Nat.reduceEqDiff, reduceIte]; done) | ((try simp only [St.set, St.ev, upd, ren, renL, id, Nat.reduceEqDiff, reduceIte]); first | (with_reducible exact av_int (by omega)) | (with_reducible exact av_sl (by first | omega | (simp; done) | (simp; omega)) (by first | omega | (simp; done) | (simp; omega)))) | (simp only [St.set, St.ev, upd, ren, renL, id, Nat.reduceEqDiff, reduceIte, Int.natCast_add, Int.natCast_one, Int.cast_ofNat_Int, Int.natCast_zero]; done) | (simp only [St.set, St.ev, upd, ren, renL, id, Nat.reduceEqDiff, reduceIte]) | skip)))); (case h3 => (focus (first | (simp only [id, List.map_cons, List.map_nil]; decide) | decide | (simp; done) | (simp; omega) | fail))); (case h4 => (intro o l h; first | (cases h; done) | (have hlt0 := m0_lt (by assumption) h; (try (simp only at hlt0)); first | omega | (simp only; omega) | exact ⟨by (first | rfl | (simp only [id]; done) | ((repeat rw [if_neg (by omega)]); done)), by first | omega | (simp only; omega)⟩))))
  rintro i ⟨hi, hn⟩
  try simp only at hi hn
  repeat' (first | refine awp_seq_k fun K hK => ?_ | ((with_reducible refine hK _ ?_); clear hK K) | (clear hK K; (with_reducible refine hK _ ?_); clear hK K) | ((with_reducible refine aord_plain fun K hK => ?_); simp only [go_sem, Nat.reduceAdd, Nat.reduceMul, Nat.reduceEqDiff, Nat.reduceLT, reduceIte, reduceCtorEq]) | refine awp_block ?_ | ((first | with_reducible refine aord_nil ?_ | refine awp_skip ?_ | refine awp_exit ?_ | refine awp_ret ?_); try simp only [rdA, Nat.reduceEqDiff, ifA, ifB, reduceIte]) | (refine awp_region tabOk rfl ?_; simp only [prep, pickO, lsA, lsB, lsC, lsD, lsE, lsF, lsG]) | ((with_reducible apply awp_cond); (focus (simp only [St.ev, St.set, upd, Nat.reduceEqDiff, reduceIte, ifA, ifB]; exact rfl)); all_goals (intro hb; first | (cases hb; done) | ((try rw [hb]); (try simp only [dcA, dcB, dcC, dcD, dcE, Bool.not_eq_true', Bool.not_eq_false'] at hb)))) | ((with_reducible refine And.intro ?_ ?_); (focus omega)) | fail)
  · simp only [St.set, St.ev, doneQ, doneH, ressK, resK, wrapR, AV.ids, AV.idsL, retK, retsK, upd, Nat.reduceEqDiff, reduceIte, ifA, ifB, List.nodup_nil, List.nodup_cons, List.not_mem_nil, not_false_eq_true, true_and, and_true, exists_eq_left', Option.some.injEq, rLoad, cellOf, tab, Ty.isAgg, Ty.one, Bool.false_eq_true]
    rw [fst_at (i := i) (n := xs.length) (by omega) (by omega) hn] at hQ
    exact hQ
  · ((refine Exists.intro (i + 1) ?_); (refine nxt ?_ ?_ ?_); (focus ((apply Wk.same; (case' h2 => (focus ((repeat' (with_reducible first | exact HeapX.bot | (apply HeapX.skip; (case hx => (simp; done))) | apply HeapX.none | apply HeapX.upd)); all_goals (first | rfl | exact Nat.le_of_ble_eq_true rfl | (simp only [St.set, St.ev, upd, ren, renL, id, Nat.reduceEqDiff, reduceIte, ContLe]; done) | (exact And.intro rfl (And.intro (by first | exact Nat.le_of_ble_eq_true rfl | omega) (by first | exact Nat.le_of_ble_eq_true rfl | omega))) | (first | (simp only [St.set, St.ev, upd, ren, renL, id, Nat.reduceEqDiff, reduceIte]; exact contLe_nil) | ((repeat' (first | exact contLe_nil | refine contLe_cons (.inr ⟨?_, rfl⟩) ?_)); all_goals (first | rfl | (simp only [St.set, St.ev, upd, ren, renL, id, Nat.reduceEqDiff, reduceIte]; done) | ((try simp only [St.set, St.ev, upd, ren, renL, id, Nat.reduceEqDiff, reduceIte]); first | (with_reducible exact av_int (by omega)) | (with_reducible exact av_sl (by first | omega | (simp; done) | (simp; omega)) (by first | omega | (simp; done) | (simp; omega)))) | (simp only [St.set, St.ev, upd, ren, renL, id, Nat.reduceEqDiff, reduceIte, Int.natCast_add, Int.natCast_one, Int.cast_ofNat_Int, Int.natCast_zero]; done) | (simp only [St.set, St.ev, upd, ren, renL, id, Nat.reduceEqDiff, reduceIte]) | skip); done)) | (simp only [St.set, St.ev, upd, ren, renL, id, Nat.reduceEqDiff, reduceIte, ContLe]) | skip)))); (case' h1 => (focus ((repeat' (with_reducible first | exact TmpLe.bot | refine TmpLe.upd ?_ rfl ?_)); all_goals (first | rfl | (simp only [St.set, St.ev, upd, ren, renL, id, Nat.reduceEqDiff, reduceIte]; done) | ((try simp only [St.set, St.ev, upd, ren, renL, id, Nat.reduceEqDiff, reduceIte]); first | (with_reducible exact av_int (by omega)) | (with_reducible exact av_sl (by first | omega | (simp; done) | (simp; omega)) (by first | omega | (simp; done) | (simp; omega)))) | (simp only [St.set, St.ev, upd, ren, renL, id, Nat.reduceEqDiff, reduceIte, Int.natCast_add, Int.natCast_one, Int.cast_ofNat_Int, Int.natCast_zero]; done) | (simp only [St.set, St.ev, upd, ren, renL, id, Nat.reduceEqDiff, reduceIte]) | skip)))); (case h3 => (focus (first | (simp only [id, List.map_cons, List.map_nil]; decide) | decide | (simp; done) | (simp; omega) | fail))); (case h4 => (intro o l h; first | (cases h; done) | (have hlt0 := m0_lt (by assumption) h; (try (simp only at hlt0)); first | omega | (simp only; omega) | exact ⟨by (first | rfl | (simp only [id]; done) | ((repeat rw [if_neg (by omega)]); done)), by first | omega | (simp only; omega)⟩)))))); (focus (first | omega | (simp only; omega) | (simp only [List.length_take]; omega) | (simp; done) | (simp; omega))); ((repeat' (with_reducible apply And.intro)) <;> (first | omega | (simp only; omega) | assumption | rfl | ((try simp only); exact all_step hn (by omega)) | skip)))
  · simp only [St.set, St.ev, doneQ, doneH, ressK, resK, wrapR, AV.ids, AV.idsL, retK, retsK, upd, Nat.reduceEqDiff, reduceIte, ifA, ifB, List.nodup_nil, List.nodup_cons, List.not_mem_nil, not_false_eq_true, true_and, and_true, exists_eq_left', Option.some.injEq, rLoad, cellOf, tab, Ty.isAgg, Ty.one, Bool.false_eq_true]
    rw [fst_none xs.length (fun j hj => hn j (by omega))] at hQ
    exact hQ


theorem slContains_sat : Sat Try.prog 90 (fun ds Q => ∃ (xs : List Int) (v : Int), ds = [.row (.ints .i64 (xs)), .val (.int .i64 (v))] ∧ (xs.length ≤ 1099511627776) ∧ Q (.val (.bool ((decide (fstAt xs v xs.length ≥ 0)))))) := by
  refine sat_intro tabOk Try.func90 rfl 9 rfl [.tmp 4] rfl ?_
  rintro ds Q W ⟨xs, v, rfl, hl, hQ⟩
  refine ⟨Nat.le_of_ble_eq_true rfl, ?_⟩
  simp only [initS, initT, mat.matL, mat, Cont.len]
  repeat' (first | refine awp_seq_k fun K hK => ?_ | ((with_reducible refine hK _ ?_); clear hK K) | ((with_reducible refine aord_plain fun K hK => ?_); simp only [go_sem, Nat.reduceAdd, Nat.reduceMul, Nat.reduceEqDiff, Nat.reduceLT, reduceIte, reduceCtorEq]) | ((first | with_reducible refine aord_nil ?_ | refine awp_skip ?_ | refine awp_exit ?_ | refine awp_ret ?_); try simp only [rdA, Nat.reduceEqDiff, ifA, ifB, reduceIte]) | (refine awp_region tabOk rfl ?_; simp only [prep, pickO, lsA, lsB, lsC, lsD, lsE, lsF, lsG]) | ((with_reducible refine And.intro ?_ ?_); (focus omega)) | ((with_reducible refine And.intro (?_ : enters Try.prog 88) ?_); (focus exact Try.call88); (refine callX_sat slIndex_sat ?_); simp only [go_sem, and_assoc, List.nil_append, List.append_nil, List.cons_append, Nat.reduceEqDiff, reduceIte, reduceCtorEq]) | fail)
  simp only [St.set, St.ev, doneQ, doneH, ressK, resK, wrapR, AV.ids, AV.idsL, retK, retsK, upd, Nat.reduceEqDiff, reduceIte, ifA, ifB, List.nodup_nil, List.nodup_cons, List.not_mem_nil, not_false_eq_true, true_and, and_true, exists_eq_left', Option.some.injEq, rLoad, cellOf, tab, Ty.isAgg, Ty.one, Bool.false_eq_true]
  exact hQ


theorem slCloneI_sat : Sat Try.prog 91 (fun ds Q => ∃ (xs : List Int), ds = [.row (.ints .i64 (xs))] ∧ (xs.length ≤ 1000000) ∧ Q (.row (.ints .i64 (xs)))) := by
  refine sat_intro tabOk Try.func91 rfl 8 rfl [.tmp 2] rfl ?_
  rintro ds Q W ⟨xs, rfl, hl, hQ⟩
  refine ⟨Nat.le_of_ble_eq_true rfl, ?_⟩
  simp only [initS, initT, mat.matL, mat, Cont.len]
  repeat' (first | refine awp_seq_k fun K hK => ?_ | ((with_reducible refine hK _ ?_); clear hK K) | ((with_reducible refine aord_plain fun K hK => ?_); simp only [go_sem, Nat.reduceAdd, Nat.reduceMul, Nat.reduceEqDiff, Nat.reduceLT, reduceIte, reduceCtorEq]) | ((first | with_reducible refine aord_nil ?_ | refine awp_skip ?_ | refine awp_exit ?_ | refine awp_ret ?_); try simp only [rdA, Nat.reduceEqDiff, ifA, ifB, reduceIte]) | (refine awp_region tabOk rfl ?_; simp only [prep, pickO, lsA, lsB, lsC, lsD, lsE, lsF, lsG]) | fail)
  refine ⟨⟨_, rfl⟩, fun b hbn => ?_⟩
  refine hK _ ?_
  clear hK K
  repeat' (first | refine awp_seq_k fun K hK => ?_ | ((with_reducible refine hK _ ?_); clear hK K) | ((with_reducible refine aord_plain fun K hK => ?_); simp only [go_sem, Nat.reduceAdd, Nat.reduceMul, Nat.reduceEqDiff, Nat.reduceLT, reduceIte, reduceCtorEq]) | ((first | with_reducible refine aord_nil ?_ | refine awp_skip ?_ | refine awp_exit ?_ | refine awp_ret ?_); try simp only [rdA, Nat.reduceEqDiff, ifA, ifB, reduceIte]) | (refine awp_region tabOk rfl ?_; simp only [prep, pickO, lsA, lsB, lsC, lsD, lsE, lsF, lsG]) | ((with_reducible apply awp_cond); (focus (simp only [St.ev, St.set, upd, Nat.reduceEqDiff, reduceIte, ifA, ifB]; exact rfl)); all_goals (intro hb; first | (cases hb; done) | ((try rw [hb]); (try simp only [dcA, dcB, dcC, dcD, dcE, Bool.not_eq_true', Bool.not_eq_false'] at hb)))) | ((with_reducible refine And.intro ?_ ?_); (focus omega)) | (refine aAppend_ints rfl rfl rfl rfl (Nat.le_of_ble_eq_true rfl) (by simp only [St.ev, St.set, upd, Nat.reduceEqDiff, reduceIte, ifA, ifB]; exact rfl) (by simp only [St.ev, St.set, upd, Nat.reduceEqDiff, reduceIte, ifA, ifB]; exact rfl) rfl (by first | decide | omega | (simp; done) | fail) ?_ ?_ ?_ ?_; (focus (first | rfl | omega | (simp; done) | (simp; omega) | (simp [szOf, tab]; done) | (simp [szOf, tab]; omega))); (focus (first | rfl | omega | (simp; done) | (simp; omega) | (simp [szOf, tab]; done) | (simp [szOf, tab]; omega))); (focus (first | rfl | omega | (simp; done) | (simp; omega) | (simp [szOf, tab]; done) | (simp [szOf, tab]; omega))); (try simp only [go_sem, Nat.reduceAdd, Nat.reduceMul, Nat.reduceEqDiff, Nat.reduceLT, reduceIte, reduceCtorEq])) | fail)
  · simp only [St.set, St.ev, doneQ, doneH, ressK, resK, wrapR, AV.ids, AV.idsL, retK, retsK, upd, Nat.reduceEqDiff, reduceIte, ifA, ifB, List.nodup_nil, List.nodup_cons, List.not_mem_nil, not_false_eq_true, true_and, and_true, exists_eq_left', Option.some.injEq, rLoad, cellOf, tab, Ty.isAgg, Ty.one, Bool.false_eq_true]
    have : xs.length = 0 := by
      rcases Nat.eq_zero_or_pos xs.length with h | h
      · exact h
      · have := hbn h; simp_all
    have : xs = [] := List.eq_nil_of_length_eq_zero this
    subst this
    exact ⟨.ints .i64 [], rfl, rfl, rfl, hQ⟩
  · simp only [St.set, St.ev, doneQ, doneH, ressK, resK, wrapR, AV.ids, AV.idsL, retK, retsK, upd, Nat.reduceEqDiff, reduceIte, ifA, ifB, List.nodup_nil, List.nodup_cons, List.not_mem_nil, not_false_eq_true, true_and, and_true, exists_eq_left', Option.some.injEq, rLoad, cellOf, tab, Ty.isAgg, Ty.one, Bool.false_eq_true]
    simp only [Cont.closed, Cont.len, true_and]
    exact hQ


theorem aYield_mono {P : Program} {S : List Snap} {o : Nat} {h : Hp} {n : Nat} {al : List AV} {K K' : AV → Hp → Nat → Prop} (hk : ∀ v h2 n2, K v h2 n2 → K' v h2 n2) (hy : aYield P S o h n al K) : aYield P S o h n al K' := fun F W m l xs w hS hs hl hr => by
  obtain ⟨f, t, a, b, h1, h2⟩ := hy F W m l xs w hS hs hl hr
  refine ⟨f, t, a, b, h1, h2.mono fun e w' ⟨v, he, m', v', h', n', q1, q2⟩ => ⟨v, he, m', v', h', n', hk _ _ _ q1, q2⟩⟩

/-- All orders of d items that begin with some. -/
def ordTo (g : Nat → List (List Int)) (b : List Int) : Nat → List (List Int)
  | 0 => []
  | i + 1 => ordTo g b i ++ (if 0 ≤ fstAt b i b.length then [] else g i)
def ordK (d : Nat) : Nat → List Int → List (List Int)
  | 0, b => [b]
  | k + 1, b => ordTo (fun x => ordK d k (b ++ [(x : Int)])) b d

theorem ordTo_len (g : Nat → List (List Int)) (b : List Int) {i j : Nat} (h : i ≤ j) : (ordTo g b i).length ≤ (ordTo g b j).length := by
  induction h with
  | refl => exact Nat.le_refl _
  | step _ ih => rw [ordTo, List.length_append]; omega
theorem ordK_cap {d : Nat} (h : d ≤ 5) : (ordK d d []).length ≤ 120 := by
  have : d = 0 ∨ d = 1 ∨ d = 2 ∨ d = 3 ∨ d = 4 ∨ d = 5 := by omega
  rcases this with rfl | rfl | rfl | rfl | rfl | rfl
  all_goals decide +kernel

/-- What is asked of a loop that is given orders of d items, one after the other: J tells what has been done, and on what objects this stands. -/
structure GiveO (P : Program) (S : List Snap) (o d : Nat) (J : List (List Int) → (Nat → Prop) → Hp → Nat → Prop) : Prop where
  up : ∀ {done : List (List Int)} {φ : Nat → Prop} {h : Hp} {n : Nat} {G : Hp} {N : Nat}, J done φ h n → n ≤ N → (∀ u, φ u → G u = h u) → J done φ G N
  lt : ∀ {done : List (List Int)} {φ : Nat → Prop} {h : Hp} {n u : Nat}, J done φ h n → φ u → u < n
  yl : ∀ {done : List (List Int)} {φ : Nat → Prop} {h : Hp} {n p : Nat} {x : List Int} (S' : List Snap), (∀ q ∈ S, q ∈ S') → J done φ h n → done.length < 120 → ¬ φ p → p < n → h p = some ⟨true, .ints .i64 x⟩ → x.length = d →
    aYield P S' o h n [.sl p 0 d 1 none] fun v h2 n2 => v = .val (.bool true) ∧ ∃ φ2, J (done ++ [x]) φ2 h2 n2 ∧ n ≤ n2 ∧ (∀ u, u < n → ¬ φ u → u ≠ p → h2 u = h u) ∧ ∀ u, φ2 u → φ u ∨ u = p ∨ n ≤ u


-- awp_region_tree %range
theorem ord_it {d : Nat} (hd : d ≤ 5) : ∀ (k : Nat) {S : List Snap} {o : Nat} {J : List (List Int) → (Nat → Prop) → Hp → Nat → Prop}, GiveO Try.prog S o d J → ∀ {fl : Bool} {bg : List Int} {h : Hp} {n : Nat} {done : List (List Int)} {φ : Nat → Prop} {B b N0 : Nat} {K : AV → Hp → Nat → Prop}, bg.length + k = d → J done φ h n → done.length + (ordK d k bg).length ≤ 120 →
    h B = some ⟨true, .cells [.sl b 0 bg.length 1 none]⟩ → h b = some ⟨true, .ints .i64 bg⟩ → h N0 = some ⟨true, .cells [.val (.int .i64 d)]⟩ → ¬ φ B → ¬ φ b → ¬ φ N0 →
    (∀ h2 n2 φ2, J (done ++ ordK d k bg) φ2 h2 n2 → n ≤ n2 → (∀ u, u < n → ¬ φ u → u ≠ b → h2 u = h u) → (∀ u, φ2 u → φ u ∨ u = b ∨ n ≤ u) → K (.tup []) h2 n2) → aCallH Try.prog fl S 89 h n [.yl o, .ref B 0, .ref N0 0] K := by
  intro k
  induction k with
  | zero =>
    intro S o J hJ fl bg h n done φ B b N0 K hbd hj hcap hB hbb hN pB pb pN hQ
    refine callH_inline tabOk Try.func89 rfl 33 rfl [] rfl (Nat.le_of_ble_eq_true rfl) fun m0 hm0 hcl hlt => ?_
    have hBn := (hcl B _ hB).1
    have hbn := (hcl b _ hbb).1
    have hNn := (hcl N0 _ hN).1
    have a1 : (B = n) = False := eq_false (by omega)
    have a2 : (n = B) = False := eq_false (by omega)
    have a3 : (b = n) = False := eq_false (by omega)
    have a4 : (n = b) = False := eq_false (by omega)
    have a5 : (N0 = n) = False := eq_false (by omega)
    have a6 : (n = N0) = False := eq_false (by omega)
    simp only [initT]


    repeat' (first | refine awp_seq_k fun K hK => ?_ | ((with_reducible refine hK _ ?_); clear hK K) | ((with_reducible refine aord_plain fun K hK => ?_); simp only [go_sem, Nat.reduceAdd, Nat.reduceMul, Nat.reduceEqDiff, Nat.reduceLT, reduceIte, reduceCtorEq, hB, hbb, hN, a1, a2, a3, a4, a5, a6, nmA, Nat.reduceAdd, ifA, ifB, hB, hbb, hN, a1, a2, a3, a4, a5, a6]) | refine awp_block ?_ | ((first | with_reducible refine aord_nil ?_ | refine awp_skip ?_ | refine awp_exit ?_ | refine awp_ret ?_); try simp only [rdA, Nat.reduceEqDiff, ifA, ifB, reduceIte]) | (refine awp_region tabOk rfl ?_; simp only [prep, pickO, lsA, lsB, lsC, lsD, lsE, lsF, lsG]) | ((with_reducible apply awp_cond); (focus (simp only [St.ev, St.set, upd, Nat.reduceEqDiff, reduceIte, ifA, ifB, hB, hbb, hN, a1, a2, a3, a4, a5, a6, nmA, Nat.reduceAdd, ifA, ifB]; exact rfl)); all_goals (intro hb; first | (cases hb; done) | ((try rw [hb]); (try simp only [dcA, dcB, dcC, dcD, dcE, Bool.not_eq_true', Bool.not_eq_false'] at hb)))) | (exfalso; omega) | fail)
    have hl0 : bg.length = d := by omega
    have hj1 := hJ.up hj (Nat.le_succ n) (G := upd h n (some ⟨true, .cells [.yl o]⟩)) (fun u hu => upd_ne _ _ (by have := hJ.lt hj hu; omega))
    have hyl := hJ.yl S (fun q hq => hq) hj1 (by rw [ordK] at hcap; simp only [List.length_cons, List.length_nil] at hcap; omega) pb (by omega) (by rw [upd_ne _ _ (by omega)]; exact hbb) hl0
    rw [hl0]
    refine aYield_mono ?_ hyl
    rintro v h2 n2 ⟨rfl, φ2, hj2, hn2, hfr2, hφ2⟩


    repeat' (first | ((with_reducible refine hK _ ?_); clear hK K) | ((first | with_reducible refine aord_nil ?_ | refine awp_skip ?_ | refine awp_exit ?_ | refine awp_ret ?_); try simp only [rdA, Nat.reduceEqDiff, ifA, ifB, reduceIte]) | (simp only [doneH]; simp only [ressK, resK, wrapR, go_sem, Nat.reduceAdd, Nat.reduceMul, Nat.reduceEqDiff, Nat.reduceLT, reduceIte, reduceCtorEq]) | fail)
    refine hQ h2 n2 φ2 hj2 (by omega) (fun u hu q1 q2 => by rw [hfr2 u (by omega) q1 q2, upd_ne _ _ (by omega)]) (fun u hu => (hφ2 u hu).imp_right fun e => e.imp_right fun e2 => by omega)
  | succ k ih =>
    intro S o J hJ fl bg h n done φ B b N0 K hbd hj hcap hB hbb hN pB pb pN hQ
    refine callH_inline tabOk Try.func89 rfl 33 rfl [] rfl (Nat.le_of_ble_eq_true rfl) fun m0 hm0 hcl hlt => ?_
    have hBn := (hcl B _ hB).1
    have hbn := (hcl b _ hbb).1
    have hNn := (hcl N0 _ hN).1
    have a1 : (B = n) = False := eq_false (by omega)
    have a2 : (n = B) = False := eq_false (by omega)
    have a3 : (b = n) = False := eq_false (by omega)
    have a4 : (n = b) = False := eq_false (by omega)
    have a5 : (N0 = n) = False := eq_false (by omega)
    have a6 : (n = N0) = False := eq_false (by omega)
    simp only [initT]


    repeat' (first | refine awp_seq_k fun K hK => ?_ | ((with_reducible refine hK _ ?_); clear hK K) | ((with_reducible refine aord_plain fun K hK => ?_); simp only [go_sem, Nat.reduceAdd, Nat.reduceMul, Nat.reduceEqDiff, Nat.reduceLT, reduceIte, reduceCtorEq, hB, hbb, hN, a1, a2, a3, a4, a5, a6, nmA, Nat.reduceAdd, ifA, ifB, hB, hbb, hN, a1, a2, a3, a4, a5, a6]) | refine awp_block ?_ | ((first | with_reducible refine aord_nil ?_ | refine awp_skip ?_ | refine awp_exit ?_ | refine awp_ret ?_); try simp only [rdA, Nat.reduceEqDiff, ifA, ifB, reduceIte]) | (refine awp_region tabOk rfl ?_; simp only [prep, pickO, lsA, lsB, lsC, lsD, lsE, lsF, lsG]) | ((with_reducible apply awp_cond); (focus (simp only [St.ev, St.set, upd, Nat.reduceEqDiff, reduceIte, ifA, ifB, hB, hbb, hN, a1, a2, a3, a4, a5, a6, nmA, Nat.reduceAdd, ifA, ifB]; exact rfl)); all_goals (intro hb; first | (cases hb; done) | ((try rw [hb]); (try simp only [dcA, dcB, dcC, dcD, dcE, Bool.not_eq_true', Bool.not_eq_false'] at hb)))) | (exfalso; omega) | fail)
    refine awp_loop (fun q : Hp × Nat × Nat × (Nat → Prop) => ⟨upd (upd (upd (upd (upd bot 14 (.val (.int .i64 q.2.2.1))) 13 (.val (.int .i64 d))) 3 (.ref n 0)) 2 (.ref N0 0)) 1 (.ref B 0), q.1, q.2.1⟩) (fun q => q.2.2.1 ≤ d ∧ J (done ++ ordTo (fun x => ordK d k (bg ++ [(x : Int)])) bg q.2.2.1) q.2.2.2 q.1 q.2.1 ∧ n + 1 ≤ q.2.1 ∧ (∀ u, u < n → ¬ φ u → q.1 u = h u) ∧ (∀ u, q.2.2.2 u → φ u ∨ n + 1 ≤ u) ∧ q.1 n = some ⟨true, .cells [.yl o]⟩) (fun q => d - q.2.2.1) (upd h n (some ⟨true, .cells [.yl o]⟩), n + 1, 0, φ) ⟨Nat.zero_le _, ?_, Nat.le_refl _, fun u hu _ => upd_ne _ _ (by omega), fun u hu => .inl hu, upd_same _ _ _⟩ ?_ ?_
    · dsimp only [ordTo]
      rw [List.append_nil]
      exact hJ.up hj (Nat.le_succ n) (fun u hu => upd_ne _ _ (by have := hJ.lt hj hu; omega))
    · exact Wk.sub (tsd (tsd (tsd (tsd (tsd tsd0 rfl) rfl) rfl) rfl) rfl) (fun _ _ h => h) rfl
    rintro ⟨H, N, i, ψ⟩ ⟨hid, hj1, hnN, hfr, hψ, hy⟩
    dsimp only at hid hj1 hnN hfr hψ hy ⊢
    have HB : H B = some ⟨true, .cells [.sl b 0 bg.length 1 none]⟩ := (hfr B hBn pB).trans hB
    have Hb : H b = some ⟨true, .ints .i64 bg⟩ := (hfr b hbn pb).trans hbb
    have HN : H N0 = some ⟨true, .cells [.val (.int .i64 d)]⟩ := (hfr N0 hNn pN).trans hN
    have m1 : (B = N) = False := eq_false (by omega)
    have m2 : (N = B) = False := eq_false (by omega)
    have m3 : ∀ k, (B = N + k) = False := fun k => eq_false (by omega)
    have m4 : ∀ k, (N + k = B) = False := fun k => eq_false (by omega)
    have m5 : (b = N) = False := eq_false (by omega)
    have m6 : (N = b) = False := eq_false (by omega)
    have m7 : ∀ k, (b = N + k) = False := fun k => eq_false (by omega)
    have m8 : ∀ k, (N + k = b) = False := fun k => eq_false (by omega)
    have m9 : (N0 = N) = False := eq_false (by omega)
    have ma : (N = N0) = False := eq_false (by omega)
    have mb : ∀ k, (N0 = N + k) = False := fun k => eq_false (by omega)
    have mc : ∀ k, (N + k = N0) = False := fun k => eq_false (by omega)
    have md : (n = N) = False := eq_false (by omega)
    have me : (N = n) = False := eq_false (by omega)
    have mf : ∀ k, (n = N + k) = False := fun k => eq_false (by omega)
    have mg : ∀ k, (N + k = n) = False := fun k => eq_false (by omega)
    have hNm := And.intro HB (And.intro Hb (And.intro HN (And.intro hy (And.intro m1 (And.intro m2 (And.intro m3 (And.intro m4 (And.intro m5 (And.intro m6 (And.intro m7 (And.intro m8 (And.intro m9 (And.intro ma (And.intro mb (And.intro mc (And.intro md (And.intro me (And.intro mf mg))))))))))))))))))
    rcases Nat.lt_or_ge i d with hlt2 | hge
    · cases hc : decide (fstAt bg i bg.length ≥ 0) with
      | true =>
        have hc0 : 0 ≤ fstAt bg i bg.length := of_decide_eq_true hc


        repeat' (first | refine awp_seq_k fun K hK => ?_ | ((with_reducible refine hK _ ?_); clear hK K) | (clear hK K; (with_reducible refine hK _ ?_); clear hK K) | ((with_reducible refine aord_plain fun K hK => ?_); simp only [go_sem, Nat.reduceAdd, Nat.reduceMul, Nat.reduceEqDiff, Nat.reduceLT, reduceIte, reduceCtorEq, hNm, hc, nmA, Nat.reduceAdd, ifA, ifB, hNm, hc]) | refine awp_block ?_ | ((first | with_reducible refine aord_nil ?_ | refine awp_skip ?_ | refine awp_exit ?_ | refine awp_ret ?_); try simp only [rdA, Nat.reduceEqDiff, ifA, ifB, reduceIte]) | (refine awp_region tabOk rfl ?_; simp only [prep, pickO, lsA, lsB, lsC, lsD, lsE, lsF, lsG]) | ((with_reducible apply awp_cond); (focus (simp only [St.ev, St.set, upd, Nat.reduceEqDiff, reduceIte, ifA, ifB, hNm, hc, nmA, Nat.reduceAdd, ifA, ifB]; exact rfl)); all_goals (intro hb; first | (cases hb; done) | ((try rw [hb]); (try simp only [dcA, dcB, dcC, dcD, dcE, Bool.not_eq_true', Bool.not_eq_false'] at hb)))) | ((with_reducible refine And.intro ?_ ?_); (focus omega)) | ((with_reducible refine And.intro (?_ : enters Try.prog 90) ?_); (focus exact Try.call90); (refine callX_sat slContains_sat ?_); simp only [go_sem, and_assoc, List.nil_append, List.append_nil, List.cons_append, Nat.reduceEqDiff, reduceIte, reduceCtorEq, hNm, hc, nmA, Nat.reduceAdd, ifA, ifB, hNm, hc]) | (simp only [doneH]; simp only [ressK, resK, wrapR, go_sem, Nat.reduceAdd, Nat.reduceMul, Nat.reduceEqDiff, Nat.reduceLT, reduceIte, reduceCtorEq, hNm, hc, nmA, Nat.reduceAdd, ifA, ifB]) | (exfalso; omega) | fail)
        refine ⟨(H, N, i + 1, ψ), ⟨by dsimp only; omega, ?_, hnN, hfr, hψ, hy⟩, by dsimp only; omega, Wk.sub (tsd (tsd (tsd (tsd (tsd tsd0 rfl) rfl) rfl) rfl) rfl) (fun _ _ h => h) rfl⟩
        dsimp only
        rw [ordTo, if_pos hc0, List.append_nil]; exact hj1
      | false =>
        have hc0 : ¬ 0 ≤ fstAt bg i bg.length := of_decide_eq_false hc
        have hnJ := hJ.lt hj1 (u := n)
        have hnψ : ¬ ψ n := fun e => (hψ n e).elim (fun e => Nat.lt_irrefl _ (hJ.lt hj e)) (fun e => by omega)
        have hNψ : ∀ k, ¬ ψ (N + k) := fun k e => by have := hJ.lt hj1 e; omega
        have hbl : (bg ++ [(i : Int)]).length = bg.length + 1 := by rw [List.length_append]; rfl


        repeat' (first | refine awp_seq_k fun K hK => ?_ | ((with_reducible refine hK _ ?_); clear hK K) | ((with_reducible refine aord_plain fun K hK => ?_); simp only [go_sem, Nat.reduceAdd, Nat.reduceMul, Nat.reduceEqDiff, Nat.reduceLT, reduceIte, reduceCtorEq, hNm, hc, nmA, Nat.reduceAdd, ifA, ifB, hNm, hc]) | refine awp_block ?_ | ((first | with_reducible refine aord_nil ?_ | refine awp_skip ?_ | refine awp_exit ?_ | refine awp_ret ?_); try simp only [rdA, Nat.reduceEqDiff, ifA, ifB, reduceIte]) | (refine awp_region tabOk rfl ?_; simp only [prep, pickO, lsA, lsB, lsC, lsD, lsE, lsF, lsG]) | (refine awp_region_tree (nt := 33) (id := 7) tabOk (.quiet 0 false (.quiet 2 false (.one 1 false (.one 3 false (.one 4 true (.quiet 5 false (.one 6 true .leaf .stop)) (.one 5 false (.one 4 true (.one 6 true .leaf .stop) .stop) .stop)) (.one 5 false (.one 3 false (.one 4 true (.one 6 true .leaf .stop) .stop) .stop) .stop)) (.one 3 false (.one 1 false (.one 4 true (.quiet 5 false (.one 6 true .leaf .stop)) (.one 5 false (.one 4 true (.one 6 true .leaf .stop) .stop) .stop)) (.one 5 false (.one 1 false (.one 4 true (.one 6 true .leaf .stop) .stop) .stop) .stop)) (.one 5 false (.one 1 false (.one 3 false (.one 4 true (.one 6 true .leaf .stop) .stop) .stop) (.one 3 false (.one 1 false (.one 4 true (.one 6 true .leaf .stop) .stop) .stop) .stop)) .stop))))) (by kernel_rfl) rfl (by kernel_rfl) ?_; simp only [aordT]) | ((with_reducible refine aordT_plain rfl (fun K hK => ?_)); simp only [go_sem, Nat.reduceAdd, Nat.reduceMul, Nat.reduceEqDiff, Nat.reduceLT, reduceIte, reduceCtorEq, hNm, hc, nmA, Nat.reduceAdd, ifA, ifB, hNm, hc]) | ((with_reducible refine both ?_ ?_)) | (simp only [aordT]; try simp only [rdA, Nat.reduceEqDiff, ifA, ifB, reduceIte]) | (simp only [rdA, Nat.reduceEqDiff, ifA, ifB, reduceIte]) | ((with_reducible apply awp_cond); (focus (simp only [St.ev, St.set, upd, Nat.reduceEqDiff, reduceIte, ifA, ifB, hNm, hc, nmA, Nat.reduceAdd, ifA, ifB]; exact rfl)); all_goals (intro hb; first | (cases hb; done) | ((try rw [hb]); (try simp only [dcA, dcB, dcC, dcD, dcE, Bool.not_eq_true', Bool.not_eq_false'] at hb)))) | ((with_reducible refine And.intro ?_ ?_); (focus omega)) | ((with_reducible refine And.intro (?_ : enters Try.prog 91) ?_); (focus exact Try.call91); (refine callX_sat slCloneI_sat ?_); simp only [go_sem, and_assoc, List.nil_append, List.append_nil, List.cons_append, Nat.reduceEqDiff, reduceIte, reduceCtorEq, hNm, hc, nmA, Nat.reduceAdd, ifA, ifB, hNm, hc]) | ((with_reducible refine And.intro (?_ : enters Try.prog 90) ?_); (focus exact Try.call90); (refine callX_sat slContains_sat ?_); simp only [go_sem, and_assoc, List.nil_append, List.append_nil, List.cons_append, Nat.reduceEqDiff, reduceIte, reduceCtorEq, hNm, hc, nmA, Nat.reduceAdd, ifA, ifB, hNm, hc]) | ((with_reducible refine And.intro (?_ : enters Try.prog 72) ?_); (focus exact Try.call72); (refine callX_h (callH_inline tabOk Try.func72 rfl 6 rfl [.tmp 4] rfl (Nat.le_of_ble_eq_true rfl) fun m0 hm0 hcl hlt => ?_)); simp only [initT, St.ev, St.set, upd, Nat.reduceEqDiff, reduceIte, ifA, ifB, hNm, hc, nmA, Nat.reduceAdd, ifA, ifB]) | (refine aAppend_ints rfl rfl rfl rfl (Nat.le_of_ble_eq_true rfl) (by simp only [St.ev, St.set, upd, Nat.reduceEqDiff, reduceIte, ifA, ifB, hNm, hc, nmA, Nat.reduceAdd, ifA, ifB]; exact rfl) (by simp only [St.ev, St.set, upd, Nat.reduceEqDiff, reduceIte, ifA, ifB, hNm, hc, nmA, Nat.reduceAdd, ifA, ifB]; exact rfl) rfl (by first | decide | omega | (simp; done) | fail) ?_ ?_ ?_ ?_; (focus (first | rfl | omega | (simp; done) | (simp; omega) | (simp [szOf, tab]; done) | (simp [szOf, tab]; omega))); (focus (first | rfl | omega | (simp; done) | (simp; omega) | (simp [szOf, tab]; done) | (simp [szOf, tab]; omega))); (focus (first | rfl | omega | (simp; done) | (simp; omega) | (simp [szOf, tab]; done) | (simp [szOf, tab]; omega))); (try simp only [go_sem, Nat.reduceAdd, Nat.reduceMul, Nat.reduceEqDiff, Nat.reduceLT, reduceIte, reduceCtorEq, hNm, hc, nmA, Nat.reduceAdd, ifA, ifB])) | (simp only [doneH]; simp only [ressK, resK, wrapR, go_sem, Nat.reduceAdd, Nat.reduceMul, Nat.reduceEqDiff, Nat.reduceLT, reduceIte, reduceCtorEq, hNm, hc, nmA, Nat.reduceAdd, ifA, ifB]) | (exfalso; omega) | fail)
        all_goals (
          refine awp_range (gf := 89) (by simp only [St.ev, St.set, upd, Nat.reduceEqDiff, reduceIte, ifA, ifB, hNm, hc, nmA, Nat.reduceAdd, ifA, ifB]; exact fnV_clo) Try.call89 (fun LQ l1 l2 l3 l4 l5 => callX_h ?_)
          simp only [List.nil_append, List.cons_append, St.ev, St.set, upd, Nat.reduceEqDiff, reduceIte, ifA, ifB, hNm, hc, nmA, Nat.reduceAdd, ifA, ifB]
          refine ih (J := fun dn χ G M => ∃ φ0 : Nat → Prop, J dn φ0 G M ∧ (∀ u, χ u ↔ φ0 u ∨ u = N + 5 ∨ u = n) ∧ G (N + 5) = some ⟨true, .raw (.loop LQ)⟩ ∧ ¬ φ0 (N + 5) ∧ N + 5 < M ∧ G n = some ⟨true, .cells [.yl o]⟩ ∧ ¬ φ0 n) ⟨?_, ?_, ?_⟩ (bg := bg ++ [(i : Int)]) (done := done ++ ordTo (fun x => ordK d k (bg ++ [(x : Int)])) bg i) (φ := fun u => ψ u ∨ u = N + 5 ∨ u = n) (B := N + 3) (b := N + 2) (N0 := N + 4) ?_ ?_ ?_ ?_ ?_ ?_ ?_ ?_ ?_ ?_
          · rintro dn χ G M G2 M2 ⟨φ0, q1, q2, q3, q4, q5, q6, q7⟩ hM hG
            exact ⟨φ0, hJ.up q1 hM (fun u hu => hG u ((q2 u).2 (.inl hu))), q2, (hG _ ((q2 _).2 (.inr (.inl rfl)))).trans q3, q4, by omega, (hG _ ((q2 _).2 (.inr (.inr rfl)))).trans q6, q7⟩
          · rintro dn χ G M u ⟨φ0, q1, q2, q3, q4, q5, q6, q7⟩ hu
            rcases (q2 u).1 hu with e | e | e
            · exact hJ.lt q1 e
            · omega
            · omega
          · rintro dn χ G M p x S2 hS2 ⟨φ0, q1, q2, q3, q4, q5, q6, q7⟩ hdl hp hpM hpx hxl
            have p1 : ¬ φ0 p := fun e => hp ((q2 p).2 (.inl e))
            have p2 : p ≠ N + 5 := fun e => hp ((q2 p).2 (.inr (.inl e)))
            have p3 : p ≠ n := fun e => hp ((q2 p).2 (.inr (.inr e)))
            refine yield_round (lp := LQ) q3 l1 l2 (hS2 _ List.mem_cons_self) (by rw [l3]; rfl) (by rw [l3]; decide) (fun m1 hm1 hcl1 hlt1 => ?_)
            rw [l3, l4, l5]
            have w1 : (n = N + 5) = False := eq_false (by omega)
            have w2 : (N + 5 = n) = False := eq_false (by omega)
            simp only [zipT, St.ev, St.set, upd, Nat.reduceEqDiff, reduceIte, ifA, ifB, hNm, hc, nmA, Nat.reduceAdd, ifA, ifB]


            repeat' (first | refine awp_seq_k fun K hK => ?_ | ((with_reducible refine hK _ ?_); clear hK K) | ((with_reducible refine aord_plain fun K hK => ?_); simp only [go_sem, Nat.reduceAdd, Nat.reduceMul, Nat.reduceEqDiff, Nat.reduceLT, reduceIte, reduceCtorEq, q6, w1, w2, nmA, Nat.reduceAdd, ifA, ifB, q6, w1, w2]) | refine awp_block ?_ | (refine awp_region tabOk rfl ?_; simp only [prep, pickO, lsA, lsB, lsC, lsD, lsE, lsF, lsG]) | fail)
            have hy2 := hJ.yl S2 (fun q hq => hS2 _ (List.mem_cons_of_mem _ hq)) (hJ.up q1 (Nat.le_refl M) (G := upd G (N + 5) none) (fun u hu => upd_ne _ _ (fun e => q4 (e ▸ hu)))) hdl p1 hpM (by rw [upd_ne _ _ p2]; exact hpx) hxl
            refine aYield_mono ?_ hy2
            rintro v h2 n2 ⟨rfl, φ2, r1, r2, r3, r4⟩
            have n5 : ¬ φ2 (N + 5) := fun e => (r4 _ e).elim q4 (fun e => e.elim (fun e => p2 e.symm) (fun e => by omega))
            have nn : ¬ φ2 n := fun e => (r4 _ e).elim q7 (fun e => e.elim (fun e => p3 e.symm) (fun e => by omega))


            repeat' (first | ((with_reducible refine hK _ ?_); clear hK K) | ((with_reducible refine aord_plain fun K hK => ?_); simp only [go_sem, Nat.reduceAdd, Nat.reduceMul, Nat.reduceEqDiff, Nat.reduceLT, reduceIte, reduceCtorEq]) | ((first | with_reducible refine aord_nil ?_ | refine awp_skip ?_ | refine awp_exit ?_ | refine awp_ret ?_); try simp only [rdA, Nat.reduceEqDiff, ifA, ifB, reduceIte]) | ((with_reducible apply awp_cond); (focus (simp only [St.ev, St.set, upd, Nat.reduceEqDiff, reduceIte, ifA, ifB]; exact rfl)); all_goals (intro hb; first | (cases hb; done) | ((try rw [hb]); (try simp only [dcA, dcB, dcC, dcD, dcE, Bool.not_eq_true', Bool.not_eq_false'] at hb)))) | ((with_reducible refine And.intro ?_ ?_); (focus omega)) | ((with_reducible refine roundA_normal ?_); simp only [St.ev, St.set, upd, Nat.reduceEqDiff, reduceIte, ifA, ifB]) | fail)
            refine ⟨fun u => φ2 u ∨ u = N + 5 ∨ u = n, ⟨φ2, hJ.up r1 (Nat.le_refl _) (fun u hu => upd_ne _ _ (fun e => n5 (e ▸ hu))), fun u => Iff.rfl, (by first | trivial | exact upd_same _ _ _), n5, by omega, by rw [if_neg (by omega), r3 n (by omega) q7 (Ne.symm p3), upd_ne _ _ (by omega)]; exact q6, nn⟩, r2, fun u hu e1 e2 => ?_, fun u hu => ?_⟩
            · have e3 : u ≠ N + 5 := fun e => e1 ((q2 u).2 (.inr (.inl e)))
              rw [if_neg e3, r3 u hu (fun e => e1 ((q2 u).2 (.inl e))) e2, upd_ne _ _ e3]
            · rcases hu with hu | hu | hu
              · exact (r4 u hu).imp_left fun e => (q2 u).2 (.inl e)
              · exact .inl ((q2 u).2 (.inr (.inl hu)))
              · exact .inl ((q2 u).2 (.inr (.inr hu)))
          · omega
          · refine ⟨ψ, hJ.up hj1 (by omega) (fun u hu => ?_), fun u => Iff.rfl, upd_same _ _ _, hNψ 5, by omega, ?_, hnψ⟩
            · have := hJ.lt hj1 hu
              (repeat rw [upd_ne _ _ (by omega)])
            · (repeat rw [upd_ne _ _ (by omega)])
              exact hy
          · rw [List.length_append]
            have e1 := ordTo_len (fun x => ordK d k (bg ++ [(x : Int)])) bg (show i + 1 ≤ d by omega)
            rw [ordTo, if_neg hc0, List.length_append] at e1
            rw [ordK] at hcap
            omega
          · rw [hbl]; (repeat (first | rw [upd_same] | rw [upd_ne _ _ (by omega)]))
          · (repeat (first | rw [upd_same] | rw [upd_ne _ _ (by omega)]))
          · (repeat (first | rw [upd_same] | rw [upd_ne _ _ (by omega)]))
          · rintro (e | e | e)
            · exact hNψ 3 e
            · omega
            · omega
          · rintro (e | e | e)
            · exact hNψ 2 e
            · omega
            · omega
          · rintro (e | e | e)
            · exact hNψ 4 e
            · omega
            · omega
          · rintro h2 n2 χ ⟨φ2, r1, r2, r3, r4, r5, r6, r7⟩ hn2 hfr2 hχ
            refine endA_go r3 l1 l2 ?_


            repeat' (first | ((with_reducible refine hK _ ?_); clear hK K) | ((with_reducible refine aord_plain fun K hK => ?_); simp only [go_sem, Nat.reduceAdd, Nat.reduceMul, Nat.reduceEqDiff, Nat.reduceLT, reduceIte, reduceCtorEq]) | ((first | with_reducible refine aord_nil ?_ | refine awp_skip ?_ | refine awp_exit ?_ | refine awp_ret ?_); try simp only [rdA, Nat.reduceEqDiff, ifA, ifB, reduceIte]) | (refine awp_region tabOk rfl ?_; simp only [prep, pickO, lsA, lsB, lsC, lsD, lsE, lsF, lsG]) | (simp only [rdA, Nat.reduceEqDiff, ifA, ifB, reduceIte]) | ((with_reducible refine And.intro ?_ ?_); (focus omega)) | fail)
            refine ⟨(upd h2 (N + 5) none, n2, i + 1, φ2), ⟨by dsimp only; omega, ?_, by dsimp only; omega, fun u hu e1 => ?_, fun u hu => ?_, ?_⟩, by dsimp only; omega, Wk.sub (tsd (tsd (tsd (tsd (tsd tsd0 rfl) rfl) rfl) rfl) rfl) (fun _ _ h => h) rfl⟩
            · dsimp only
              rw [ordTo, if_neg hc0, ← List.append_assoc]
              exact hJ.up r1 (Nat.le_refl _) (fun u hu => upd_ne _ _ (fun e => r4 (e ▸ hu)))
            · dsimp only
              rw [upd_ne _ _ (by omega), hfr2 u (by omega) (fun e => e.elim (fun e => (hψ u e).elim e1 (fun e => by omega)) (fun e => e.elim (fun e => by omega) (fun e => by omega))) (by omega)]
              (repeat rw [upd_ne _ _ (by omega)])
              exact hfr u hu e1
            · have := hχ u ((r2 u).2 (.inl hu))
              rcases this with (e | e | e) | e | e
              · exact hψ u e
              · exact .inr (by omega)
              · exact (r7 (e ▸ hu)).elim
              · exact .inr (by omega)
              · exact .inr (by omega)
            · dsimp only
              rw [upd_ne _ _ (by omega)]; exact r6)
    · skip
      obtain rfl : i = d := by omega


      repeat' (first | refine awp_seq_k fun K hK => ?_ | ((with_reducible refine hK _ ?_); clear hK K) | ((with_reducible refine aord_plain fun K hK => ?_); simp only [go_sem, Nat.reduceAdd, Nat.reduceMul, Nat.reduceEqDiff, Nat.reduceLT, reduceIte, reduceCtorEq, hNm, nmA, Nat.reduceAdd, ifA, ifB, hNm]) | refine awp_block ?_ | ((first | with_reducible refine aord_nil ?_ | refine awp_skip ?_ | refine awp_exit ?_ | refine awp_ret ?_); try simp only [rdA, Nat.reduceEqDiff, ifA, ifB, reduceIte]) | (refine awp_region tabOk rfl ?_; simp only [prep, pickO, lsA, lsB, lsC, lsD, lsE, lsF, lsG]) | ((with_reducible apply awp_cond); (focus (simp only [St.ev, St.set, upd, Nat.reduceEqDiff, reduceIte, ifA, ifB, hNm, nmA, Nat.reduceAdd, ifA, ifB]; exact rfl)); all_goals (intro hb; first | (cases hb; done) | ((try rw [hb]); (try simp only [dcA, dcB, dcC, dcD, dcE, Bool.not_eq_true', Bool.not_eq_false'] at hb)))) | ((with_reducible refine And.intro ?_ ?_); (focus omega)) | (simp only [doneH]; simp only [ressK, resK, wrapR, go_sem, Nat.reduceAdd, Nat.reduceMul, Nat.reduceEqDiff, Nat.reduceLT, reduceIte, reduceCtorEq, hNm, nmA, Nat.reduceAdd, ifA, ifB]) | (exfalso; omega) | fail)
      exact hQ H N ψ (by rw [ordK]; exact hj1) (by omega) (fun u hu q1 q2 => hfr u hu q1) (fun u hu => (hψ u hu).imp_right fun e => .inr (by omega))

/-! The orders that agree with facts: what is left of all orders, and what the reader's tree finds. -/
theorem fst_mem {b : List Int} {v : Int} : 0 ≤ fstAt b v b.length ↔ v ∈ b := by
  constructor
  · intro h
    obtain ⟨_, h1, h2⟩ := fst_in (p := b) (v := v) b.length
    have h3 := h2 h
    have hl : (fstAt b v b.length).toNat < b.length := by omega
    rw [List.getD_eq_getElem?_getD, List.getElem?_eq_getElem hl] at h3
    exact h3 ▸ List.getElem_mem hl
  · intro h
    obtain ⟨i, hi, e⟩ := List.getElem_of_mem h
    exact fst_some hi (by rw [List.getD_eq_getElem?_getD, List.getElem?_eq_getElem hi]; exact e)
/-- Different items of d. -/
structure Beg (d : Nat) (b : List Int) : Prop where
  rng : ∀ v, v ∈ b → 0 ≤ v ∧ v < d
  nd : b.Nodup
theorem Beg.nil {d : Nat} : Beg d [] := ⟨fun v h => by simp at h, List.nodup_nil⟩
theorem Beg.push {d : Nat} {b : List Int} {x : Nat} (h : Beg d b) (hx : x < d) (hn : (x : Int) ∉ b) : Beg d (b ++ [(x : Int)]) := by
  refine ⟨fun v hv => ?_, ?_⟩
  · rcases List.mem_append.1 hv with h1 | h1
    · exact h.rng v h1
    · rw [List.mem_singleton.1 h1]; omega
  · rw [List.nodup_append]
    exact ⟨h.nd, by simp, fun a ha c hc e => hn (by rw [← List.mem_singleton.1 hc, ← e]; exact ha)⟩
theorem Beg.inj {d : Nat} {b : List Int} (h : Beg d b) {i j : Nat} (hij : i < j) (hj : j < b.length) : b.getD i 0 ≠ b.getD j 0 := by
  have := List.pairwise_iff_getElem.1 (List.nodup_iff_pairwise_ne.1 h.nd) i j (by omega) hj hij
  rw [List.getD_eq_getElem?_getD, List.getD_eq_getElem?_getD, List.getElem?_eq_getElem hj, List.getElem?_eq_getElem (show i < b.length by omega)]
  exact this
theorem Beg.at {d : Nat} {b : List Int} (h : Beg d b) {i : Nat} (hi : i < b.length) : 0 ≤ b.getD i 0 ∧ b.getD i 0 < d := by
  refine h.rng _ ?_
  rw [List.getD_eq_getElem?_getD, List.getElem?_eq_getElem hi]; exact List.getElem_mem hi
theorem Beg.fst {d : Nat} {b : List Int} (h : Beg d b) {i : Nat} (hi : i < b.length) : fstAt b (b.getD i 0) b.length = i :=
  fst_at hi rfl fun j hj => h.inj hj hi
theorem Beg.all {d : Nat} {b : List Int} (h : Beg d b) (hl : b.length = d) {v : Int} (hv : 0 ≤ v ∧ v < d) : ∃ i, i < b.length ∧ b.getD i 0 = v ∧ fstAt b v b.length = i := by
  have ho : isOnce b := ⟨fun i hi => by have := h.at hi; omega, fun a c hac hc => h.inj hac hc⟩
  obtain ⟨i, hi, e⟩ := once_has ho (v := v.toNat) (by omega)
  rw [Int.toNat_of_nonneg hv.1] at e
  exact ⟨i, hi, e, by rw [← e]; exact h.fst hi⟩
theorem ordTo_mem {g : Nat → List (List Int)} {b p : List Int} : ∀ i, p ∈ ordTo g b i → ∃ x, x < i ∧ (x : Int) ∉ b ∧ p ∈ g x
  | 0, h => by simp [ordTo] at h
  | i + 1, h => by
    rw [ordTo] at h
    rcases List.mem_append.1 h with h1 | h1
    · obtain ⟨x, hx, r⟩ := ordTo_mem i h1
      exact ⟨x, by omega, r⟩
    · split at h1
      · simp at h1
      · rename_i hn
        exact ⟨i, by omega, fun hm => hn (fst_mem.2 hm), h1⟩
theorem ordK_mem {d : Nat} {p : List Int} : ∀ (k : Nat) {b : List Int}, Beg d b → p ∈ ordK d k b → Beg d p ∧ p.length = b.length + k ∧ ∃ t, p = b ++ t
  | 0, b, hb, h => by
    rw [ordK] at h
    rw [List.mem_singleton.1 h]
    exact ⟨hb, rfl, [], (List.append_nil _).symm⟩
  | k + 1, b, hb, h => by
    rw [ordK] at h
    obtain ⟨x, hx, hn, hp⟩ := ordTo_mem d h
    obtain ⟨h1, h2, t, h3⟩ := ordK_mem k (hb.push hx hn) hp
    exact ⟨h1, by rw [h2, List.length_append]; simp only [List.length_cons, List.length_nil]; omega, _, by rw [h3, List.append_assoc]⟩
/-- An item stands behind one that must come later. -/
def badP (fs : List (Int × Int)) (b : List Int) : Prop := ∃ i j, i < j ∧ j < b.length ∧ Tc fs (b.getD j 0) (b.getD i 0)
theorem badP.app {fs : List (Int × Int)} {b : List Int} (h : badP fs b) (t : List Int) : badP fs (b ++ t) := by
  obtain ⟨i, j, h1, h2, h3⟩ := h
  have e : ∀ k, k < b.length → (b ++ t).getD k 0 = b.getD k 0 := fun k hk => by rw [List.getD_eq_getElem?_getD, List.getElem?_append_left hk, ← List.getD_eq_getElem?_getD]
  exact ⟨i, j, h1, by rw [List.length_append]; omega, by rw [e j h2, e i (by omega)]; exact h3⟩
/-- An order agrees with facts. -/
def agB (fs : List (Int × Int)) (p : List Int) : Bool := fs.all fun f => decide (fstAt p f.1 p.length ≤ fstAt p f.2 p.length)
theorem agB_iff {fs : List (Int × Int)} {p : List Int} : agB fs p = true ↔ ∀ f, f ∈ fs → fstAt p f.1 p.length ≤ fstAt p f.2 p.length := by
  unfold agB
  rw [List.all_eq_true]
  exact ⟨fun h f hf => of_decide_eq_true (h f hf), fun h f hf => decide_eq_true (h f hf)⟩
theorem ag_good {fs : List (Int × Int)} {d : Nat} {p : List Int} (hi : itemsIn d fs) (hp : Beg d p) (hl : p.length = d) : agB fs p = true ↔ ¬ badP fs p := by
  rw [agB_iff]
  constructor
  · rintro h ⟨i, j, h1, h2, h3⟩
    have key : ∀ {a c : Int}, Tc fs a c → fstAt p a p.length ≤ fstAt p c p.length := by
      intro a c t
      induction t with
      | base t => exact h _ t
      | step _ _ g1 g2 => omega
    have h4 := key h3
    rw [hp.fst h2, hp.fst (show i < p.length by omega)] at h4
    omega
  · intro h f hf
    obtain ⟨h1, h2⟩ := hi f hf
    obtain ⟨i, hi1, e1, q1⟩ := hp.all hl h1
    obtain ⟨j, hj1, e2, q2⟩ := hp.all hl h2
    rw [q1, q2]
    rcases Nat.lt_or_ge j i with c | c
    · exact (h ⟨j, i, c, hi1, by rw [e1, e2]; exact .base hf⟩).elim
    · omega
/-- An item may stand behind others. -/
def okS (r : Nat → Nat → Bool) (b : List Int) (x : Nat) : Bool := b.all fun y => decide (y ≠ (x : Int)) && !r x y.toNat
def sprTo (r : Nat → Nat → Bool) (g : Nat → List (List Int)) (b : List Int) : Nat → List (List Int)
  | 0 => []
  | i + 1 => sprTo r g b i ++ (if okS r b i = true then g i else [])
/-- What the reader's tree finds. -/
def ordR (r : Nat → Nat → Bool) (d : Nat) : Nat → List Int → List (List Int)
  | 0, b => [b]
  | k + 1, b => sprTo r (fun x => ordR r d k (b ++ [(x : Int)])) b d
theorem okS_iff {r : Nat → Nat → Bool} {b : List Int} {x : Nat} : okS r b x = true ↔ ∀ y, y ∈ b → y ≠ (x : Int) ∧ r x y.toNat = false := by
  unfold okS
  rw [List.all_eq_true]
  refine ⟨fun h y hy => ?_, fun h y hy => ?_⟩
  · have := h y hy
    rw [Bool.and_eq_true, decide_eq_true_eq, Bool.not_eq_true'] at this
    exact this
  · rw [Bool.and_eq_true, decide_eq_true_eq, Bool.not_eq_true']
    exact h y hy
theorem ord_left {fs : List (Int × Int)} {d : Nat} (hi : itemsIn d fs) : ∀ (k : Nat) {b : List Int}, Beg d b → b.length + k = d → ¬ badP fs b → (ordK d k b).filter (agB fs) = ordR (fun i j => wT fs d i j) d k b
  | 0, b, hb, hl, hg => by
    rw [ordK, ordR, List.filter_cons_of_pos ((ag_good hi hb (by omega)).2 hg), List.filter_nil]
  | k + 1, b, hb, hl, hg => by
    rw [ordK, ordR]
    have key : ∀ i, i ≤ d → (ordTo (fun x => ordK d k (b ++ [(x : Int)])) b i).filter (agB fs) = sprTo (fun i j => wT fs d i j) (fun x => ordR (fun i j => wT fs d i j) d k (b ++ [(x : Int)])) b i := by
      intro i
      induction i with
      | zero => intro _; rfl
      | succ i ih =>
        intro hid
        rw [ordTo, sprTo, List.filter_append, ih (by omega)]
        congr 1
        by_cases hm : (i : Int) ∈ b
        · rw [if_pos (fst_mem.2 hm), if_neg (fun h => (okS_iff.1 h _ hm).1 rfl), List.filter_nil]
        · rw [if_neg (fun h => hm (fst_mem.1 h))]
          have hp := hb.push (show i < d by omega) hm
          have hll : (b ++ [(i : Int)]).length = b.length + 1 := by rw [List.length_append]; rfl
          have e1 : ∀ j, j < b.length → (b ++ [(i : Int)]).getD j 0 = b.getD j 0 := fun j hj => by rw [List.getD_eq_getElem?_getD, List.getElem?_append_left hj, ← List.getD_eq_getElem?_getD]
          have e2 : (b ++ [(i : Int)]).getD b.length 0 = i := by rw [List.getD_eq_getElem?_getD, List.getElem?_append_right (Nat.le_refl _), Nat.sub_self]; rfl
          by_cases ho : okS (fun i j => wT fs d i j) b i = true
          · rw [if_pos ho]
            refine ord_left hi k hp (by omega) ?_
            rintro ⟨x, y, h1, h2, h3⟩
            rw [hll] at h2
            rcases Nat.lt_or_ge y b.length with c | c
            · rw [e1 y c, e1 x (by omega)] at h3
              exact hg ⟨x, y, h1, c, h3⟩
            · obtain rfl : y = b.length := by omega
              rw [e2, e1 x h1] at h3
              have hx := hb.at h1
              have hxm : b.getD x 0 ∈ b := by rw [List.getD_eq_getElem?_getD, List.getElem?_eq_getElem h1]; exact List.getElem_mem h1
              have h4 := (okS_iff.1 ho _ hxm).2
              have h5 : wT fs d i (b.getD x 0).toNat = true := (wT_iff hi).2 (by rw [Int.toNat_of_nonneg hx.1]; exact h3)
              rw [h5] at h4; cases h4
          · rw [if_neg ho, List.filter_eq_nil_iff]
            intro p hpm hag
            obtain ⟨q1, q2, t, q3⟩ := ordK_mem k hp hpm
            refine (ag_good hi q1 (by omega)).1 hag ?_
            rw [q3]
            refine badP.app ?_ t
            have ho2 : ∃ y, y ∈ b ∧ wT fs d i y.toNat = true := by
              by_cases c : ∃ y, y ∈ b ∧ wT fs d i y.toNat = true
              · exact c
              · exact (ho (okS_iff.2 fun y hy => ⟨fun e => hm (e ▸ hy), by
                  cases e : wT fs d i y.toNat with
                  | false => rfl
                  | true => exact (c ⟨y, hy, e⟩).elim⟩)).elim
            obtain ⟨y, hy, hw⟩ := ho2
            obtain ⟨x, hx, e3⟩ := List.getElem_of_mem hy
            have e4 : b.getD x 0 = y := by rw [List.getD_eq_getElem?_getD, List.getElem?_eq_getElem hx]; exact e3
            refine ⟨x, b.length, hx, by omega, ?_⟩
            rw [e2, e1 x hx, e4]
            have h6 := wT_sound hw
            rwa [Int.toNat_of_nonneg (hb.rng y hy).1] at h6
    exact key d (Nat.le_refl _)
/-- OrdersLeft's answer. -/
noncomputable def orO (z : Int) (fs : List (Int × Int)) : List (List Int) := by classical exact if VF z fs then ordR (fun i j => wT fs z.toNat i j) z.toNat z.toNat [] else []
theorem orO_yes {d : Nat} {fs : List (Int × Int)} (h : VF d fs) : orO d fs = ordR (fun i j => wT fs d i j) d d [] := by
  unfold orO; rw [if_pos h]; rfl
theorem orO_no {z : Int} {fs : List (Int × Int)} (h : ¬ VF z fs) : orO z fs = [] := by
  unfold orO; rw [if_neg h]
theorem orO_ag {d : Nat} {fs : List (Int × Int)} (h : VF d fs) : orO d fs = (ordK d d []).filter (agB fs) := by
  rw [orO_yes h]
  exact (ord_left (by have := h.2.2.1; rwa [Int.toNat_natCast] at this) d .nil (by simp) (fun ⟨i, j, h1, h2, h3⟩ => by simp at h2)).symm

theorem agB_take {fs : List (Int × Int)} {x : List Int} {i : Nat} (hi : i < fs.length) (h : agB (fs.take i) x = true) (h1 : fstAt x (fs.getD i (0, 0)).1 x.length ≤ fstAt x (fs.getD i (0, 0)).2 x.length) : agB (fs.take (i + 1)) x = true := by
  rw [agB_iff] at h ⊢
  intro f hf
  rw [tk_snoc hi] at hf
  rcases List.mem_append.1 hf with h2 | h2
  · exact h f h2
  · rw [List.mem_singleton.1 h2]; exact h1


theorem agree_sat : SatH Try.prog 87 (fun al h n K => ∃ (pp A cb : Nat) (bp bA : Bool) (x : List Int) (fs : List (Int × Int)), al = [.sl pp 0 x.length 1 none, .ref cb 0] ∧ (h pp = some ⟨bp, .ints .i64 x⟩) ∧ (h A = some ⟨bA, .ints .i64 (flF fs)⟩) ∧ (h cb = some ⟨true, .cells [.sl A 0 fs.length 2 none]⟩) ∧ (x.length ≤ 1000) ∧ (fs.length ≤ 1000) ∧ ∀ N : Nat, n ≤ N → K (.val (.bool ((agB fs x)))) (h) (N)) := by
  refine satH_intro tabOk Try.func87 rfl 22 rfl [.tmp 3] rfl ?_
  rintro F W h n al K0 ⟨pp, A, cb, bp, bA, x, fs, rfl, hp, hA, hc, hx, hl, hQ⟩
  refine ⟨Nat.le_of_ble_eq_true rfl, fun m0 hm0 hcl hlt => ?_⟩
  simp only [initT]
  have hpn := (hcl pp _ hp).1
  have hAn := (hcl A _ hA).1
  have hcn := (hcl cb _ hc).1
  have hfl := flF_len fs


  repeat' (first | refine awp_seq_k fun K hK => ?_ | ((with_reducible refine hK _ ?_); clear hK K) | ((with_reducible refine aord_plain fun K hK => ?_); simp only [go_sem, Nat.reduceAdd, Nat.reduceMul, Nat.reduceEqDiff, Nat.reduceLT, reduceIte, reduceCtorEq, hp, hA, hc, nmA, Nat.reduceAdd, ifA, ifB, hp, hA, hc]) | refine awp_block ?_ | ((first | with_reducible refine aord_nil ?_ | refine awp_skip ?_ | refine awp_exit ?_ | refine awp_ret ?_); try simp only [rdA, Nat.reduceEqDiff, ifA, ifB, reduceIte]) | (refine awp_region tabOk rfl ?_; simp only [prep, pickO, lsA, lsB, lsC, lsD, lsE, lsF, lsG]) | fail)
  refine awp_loop (fun q : Nat × Nat => ⟨upd (upd (upd (upd bot 8 (.val (.int .i64 q.2))) 7 (.val (.int .i64 fs.length))) 6 (.sl A 0 fs.length 2 none)) 0 (.sl pp 0 x.length 1 none), h, q.1⟩) (fun q => q.2 ≤ fs.length ∧ n ≤ q.1 ∧ agB (fs.take q.2) x = true) (fun q => fs.length - q.2) (n, 0) ⟨Nat.zero_le _, Nat.le_refl _, rfl⟩ ?_ ?_
  · exact Wk.sub (tsd (tsd (tsd (tsd tsd0 rfl) rfl) rfl) rfl) (fun _ _ h => h) rfl
  rintro ⟨N, i⟩ ⟨hii, hnN, hit⟩
  dsimp only at hii hnN hit ⊢
  rcases Nat.lt_or_ge i fs.length with hlt | hge
  · have hg := flF_take hlt
    have hmem := getD_memF hlt
    have m1 : (A = N) = False := eq_false (by omega)
    have m2 : (N = A) = False := eq_false (by omega)
    have m3 : (pp = N) = False := eq_false (by omega)
    have m4 : (N = pp) = False := eq_false (by omega)
    have m5 : (cb = N) = False := eq_false (by omega)
    have m6 : (N = cb) = False := eq_false (by omega)
    have hdrop : ∀ (o : Nat) (ob : Ob), h o = some ob → upd (upd h N (some ⟨true, .cells [.val (.int .i64 0), .val (.int .i64 0)]⟩)) N (some ⟨true, .cells [.val (.int .i64 (fs.getD i (0, 0)).1), .val (.int .i64 (fs.getD i (0, 0)).2)]⟩) o = some ob := fun o ob ho => by rw [upd_ne _ _ (by have := (hcl o _ ho).1; omega), upd_ne _ _ (by have := (hcl o _ ho).1; omega)]; exact ho
    obtain ⟨c1, hq1⟩ : ∃ c, decide (fstAt x (fs.getD i (0, 0)).1 x.length > fstAt x (fs.getD i (0, 0)).2 x.length) = c := ⟨_, rfl⟩
    cases c1
    all_goals (


      repeat' ((fail_if_success (with_reducible refine isRetQ ?_)); (first | refine awp_seq_k fun K hK => ?_ | ((with_reducible refine hK _ ?_); clear hK K) | (clear hK K; (with_reducible refine hK _ ?_); clear hK K) | ((with_reducible refine aord_plain fun K hK => ?_); simp only [go_sem, Nat.reduceAdd, Nat.reduceMul, Nat.reduceEqDiff, Nat.reduceLT, reduceIte, reduceCtorEq, hp, hA, hc, hg, hq1, m1, m2, m3, m4, m5, m6, nmA, Nat.reduceAdd, ifA, ifB, hp, hA, hc, hg, hq1, m1, m2, m3, m4, m5, m6]) | refine awp_block ?_ | ((first | with_reducible refine aord_nil ?_ | refine awp_skip ?_ | refine awp_exit ?_ | refine awp_ret ?_); try simp only [rdA, Nat.reduceEqDiff, ifA, ifB, reduceIte]) | (refine awp_region tabOk rfl ?_; simp only [prep, pickO, lsA, lsB, lsC, lsD, lsE, lsF, lsG]) | (refine awp_region_draw (nt := 22) (id := 4) tabOk [(0, true, false), (1, true, false), (2, true, false), (4, true, false), (5, true, false), (6, true, false), (3, false, false), (7, false, false), (8, true, false)] (by kernel_rfl) rfl (by kernel_rfl) ?_; simp only [prep, pickO, lsA, lsB, lsC, lsD, lsE, lsF, lsG]) | ((with_reducible apply awp_cond); (focus (simp only [St.ev, St.set, upd, Nat.reduceEqDiff, reduceIte, ifA, ifB, hp, hA, hc, hg, hq1, m1, m2, m3, m4, m5, m6, nmA, Nat.reduceAdd, ifA, ifB]; exact rfl)); all_goals (intro hb; first | (cases hb; done) | ((try rw [hb]); (try simp only [dcA, dcB, dcC, dcD, dcE, Bool.not_eq_true', Bool.not_eq_false'] at hb)))) | ((with_reducible refine And.intro ?_ ?_); (focus omega)) | ((with_reducible refine And.intro ?_ ?_); (focus (exact rfl))) | ((with_reducible refine And.intro (?_ : enters Try.prog 88) ?_); (focus exact Try.call88); (refine callX_sat slIndex_sat ?_); simp only [go_sem, and_assoc, List.nil_append, List.append_nil, List.cons_append, Nat.reduceEqDiff, reduceIte, reduceCtorEq, hp, hA, hc, hg, hq1, m1, m2, m3, m4, m5, m6, nmA, Nat.reduceAdd, ifA, ifB, hp, hA, hc, hg, hq1, m1, m2, m3, m4, m5, m6]) | (refine aStoreAll_cells (by simp only [St.ev, St.set, upd, Nat.reduceEqDiff, reduceIte, ifA, ifB, hp, hA, hc, hg, hq1, m1, m2, m3, m4, m5, m6, nmA, Nat.reduceAdd, ifA, ifB]; exact rfl) ?_ ?_ ?_ ?_ ?_; (focus (first | rfl | omega | (simp; done) | (simp; omega) | (simp [szOf, tab]; done) | (simp [szOf, tab]; omega))); (focus (first | rfl | omega | (simp; done) | (simp; omega) | (simp [szOf, tab]; done) | (simp [szOf, tab]; omega))); (focus (first | rfl | omega | (simp; done) | (simp; omega) | (simp [szOf, tab]; done) | (simp [szOf, tab]; omega))); (focus (first | rfl | (simp [AV.cell, Value.oneCell']; done))); (try simp only [go_sem, Nat.reduceAdd, Nat.reduceMul, Nat.reduceEqDiff, Nat.reduceLT, reduceIte, reduceCtorEq, hp, hA, hc, hg, hq1, m1, m2, m3, m4, m5, m6, nmA, Nat.reduceAdd, ifA, ifB])) | fail)))
    all_goals try (exfalso; omega)
    · exact ⟨(N + 1, i + 1), ⟨by dsimp only; omega, by dsimp only; omega, agB_take hlt hit (by have := of_decide_eq_false hq1; omega)⟩, by dsimp only; omega, Wk.sub (tsd (tsd (tsd (tsd tsd0 rfl) rfl) rfl) rfl) hdrop rfl⟩
    · have hno : agB fs x = false := by
        cases e : agB fs x with
        | false => rfl
        | true => have := agB_iff.1 e _ hmem; have := of_decide_eq_true hq1; omega
      refine awp_weaken (s' := ⟨upd bot 3 (.val (.bool false)), h, N + 1⟩) (Wk.sub (tsd tsd0 rfl) hdrop rfl) ?_
      repeat' (first | ((first | with_reducible refine aord_nil ?_ | refine awp_skip ?_ | refine awp_exit ?_ | refine awp_ret ?_); try simp only [rdA, Nat.reduceEqDiff, ifA, ifB, reduceIte]) | (simp only [doneH]; simp only [ressK, resK, wrapR, go_sem, Nat.reduceAdd, Nat.reduceMul, Nat.reduceEqDiff, Nat.reduceLT, reduceIte, reduceCtorEq, hp, hA, hc, hg, hq1, m1, m2, m3, m4, m5, m6, nmA, Nat.reduceAdd, ifA, ifB]) | fail)
      rw [hno] at hQ
      exact hQ (N + 1) (by omega)
  · rw [List.take_of_length_le (by omega)] at hit


    repeat' (first | refine awp_seq_k fun K hK => ?_ | ((with_reducible refine hK _ ?_); clear hK K) | (clear hK K; (with_reducible refine hK _ ?_); clear hK K) | ((with_reducible refine aord_plain fun K hK => ?_); simp only [go_sem, Nat.reduceAdd, Nat.reduceMul, Nat.reduceEqDiff, Nat.reduceLT, reduceIte, reduceCtorEq, hp, hA, hc, nmA, Nat.reduceAdd, ifA, ifB, hp, hA, hc]) | refine awp_block ?_ | ((first | with_reducible refine aord_nil ?_ | refine awp_skip ?_ | refine awp_exit ?_ | refine awp_ret ?_); try simp only [rdA, Nat.reduceEqDiff, ifA, ifB, reduceIte]) | (refine awp_region tabOk rfl ?_; simp only [prep, pickO, lsA, lsB, lsC, lsD, lsE, lsF, lsG]) | ((with_reducible apply awp_cond); (focus (simp only [St.ev, St.set, upd, Nat.reduceEqDiff, reduceIte, ifA, ifB, hp, hA, hc, nmA, Nat.reduceAdd, ifA, ifB]; exact rfl)); all_goals (intro hb; first | (cases hb; done) | ((try rw [hb]); (try simp only [dcA, dcB, dcC, dcD, dcE, Bool.not_eq_true', Bool.not_eq_false'] at hb)))) | ((with_reducible refine And.intro ?_ ?_); (focus omega)) | (simp only [doneH]; simp only [ressK, resK, wrapR, go_sem, Nat.reduceAdd, Nat.reduceMul, Nat.reduceEqDiff, Nat.reduceLT, reduceIte, reduceCtorEq, hp, hA, hc, nmA, Nat.reduceAdd, ifA, ifB]) | (exfalso; omega) | fail)
    rw [hit] at hQ
    exact hQ N hnN

end Go.Proofs.Ytacmgdaonacmeaa
