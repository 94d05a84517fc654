/- A call by contract. -/
import Derived.Test.YtbnldepaebcojaaAb7
namespace Go.Ab
set_option linter.all false
open Go Go.RowKit

section
variable {P : Program} {F : Fr} {W w : World} {m : Lm} {h : Hp} {next : Nat}

theorem nil_row (w : World) {c : Cont} (hc : c.simple = true) (hcl : c.closed = true) (h0 : c.len = 0) : View w (.row c) (.slice none 0 0) := by
  simp only [View]
  have hf : c.flat 0 = [] := List.eq_nil_of_length_eq_zero (by rw [flat_len]; exact h0)
  refine ⟨hcl, ⟨0, 0, 0, []⟩, ⟨none, 0, by rw [h0], by omega, fun h => absurd rfl h, rfl⟩, ⟨fun i a ha => by rw [hf] at ha; simp at ha, by cases c <;> simp [Cont.simple] at hc <;> trivial⟩, by omega, fun k hk => ?_⟩
  rw [blks_simple hc] at hk
  simp at hk

mutual
theorem viewK_sound (hs : Sim F W m h next w) : ∀ (a : AV) (x : Value) (K : DV → Prop), Rep m a x → viewK h a K → ∃ d, K d ∧ View w d x
  | .val v, x, K, hr, hv => by
    simp only [Rep] at hr
    subst hr
    unfold viewK at hv
    split at hv
    case h_6 => exact hv.elim
    case h_1 =>
      rename_i h1
      cases h1
      obtain ⟨c, h1, h2, h3, hK⟩ := hv
      exact ⟨_, hK, nil_row w h1 h2 h3⟩
    case h_2 =>
      rename_i v' h1
      cases h1
      exact ⟨_, hv, by simp only [View]⟩
    all_goals rename_i h1; cases h1
  | .sl o off len es lim, x, K, hr, hv => by
    unfold viewK at hv
    split at hv
    case h_3 =>
      rename_i h1
      cases h1
      obtain ⟨ob, hob, hv⟩ := hv
      exact viewC_sound hs hob hr hv
    case h_6 => exact hv.elim
    all_goals rename_i h1; cases h1
  | .psl o i off len lim, x, K, hr, hv => by
    simp only [viewK] at hv
    · obtain ⟨r, k, xss, hole, hob, h1, h2, h3, hK⟩ := hv
      simp only [Rep] at hr
      obtain ⟨l, li, hl, hli, hsl⟩ := hr
      obtain ⟨l', hl', hok⟩ := hs.obj o _ hob
      have : l' = l := Option.some.inj (hl'.symm.trans hl)
      subst this
      obtain ⟨c, hsl', hlc, hcc⟩ := slRep_win hsl
      have e1 : xss[i]? = some (xss.getD i []) := by simp [List.getElem?_eq_getElem h1, List.getD_eq_getElem?_getD]
      obtain ⟨li2, hli2, hle, hcell⟩ := hok.cells.2 i _ e1 h2
      have : li2 = li := Option.some.inj (hli2.symm.trans hli)
      subst this
      refine ⟨_, hK, ?_⟩
      simp only [View]
      have hdl : (Cont.ints k (((xss.getD i []).drop off).take len)).len = len := by simp only [Cont.len, List.length_take, List.length_drop]; omega
      refine ⟨rfl, ⟨li2.blk, li2.base + off, c, []⟩, by rw [hdl]; exact hsl', ⟨fun j a ha => ?_, trivial⟩, by rw [hdl]; exact hlc, fun b hb => ?_⟩
      · simp only [Cont.flat, List.getElem?_map, Option.map_eq_some_iff, List.getElem?_take, List.getElem?_drop] at ha
        obtain ⟨n, hn, rfl⟩ := ha
        split at hn
        · exact ⟨.int k n, by have := hcell _ _ hn; rw [Nat.add_assoc]; exact this, rfl, by simp [Rep]⟩
        · cases hn
      · rw [blks_simple rfl] at hb
        split at hb <;> simp at hb
        subst hb
        have : li2.capc ≠ 0 := by simp only at *; omega
        exact hok.lt _ (inner_mem hli this h2)
  | .agg as, x, K, hr, hv => by
    simp only [viewK] at hv
    · simp only [Rep] at hr
      obtain ⟨xs, rfl, hxs⟩ := hr
      obtain ⟨ds, hK, hd⟩ := viewsK_sound hs _ xs _ hxs hv
      exact ⟨_, hK, by simp only [View]; exact ⟨xs, rfl, hd⟩⟩
  | .any, _, _, _, hv => by simp [viewK] at hv
  | .ref _ _, _, _, _, hv => by simp [viewK] at hv
  | .pref _ _ _, _, _, _, hv => by simp [viewK] at hv
  | .tup _, _, _, _, hv => by simp [viewK] at hv
  | .ifc _ _, _, _, _, hv => by simp [viewK] at hv
  | .clo _ _ _, _, _, _, hv => by simp [viewK] at hv
  | .mp _, _, _, _, hv => by simp [viewK] at hv
theorem viewsK_sound (hs : Sim F W m h next w) : ∀ (as : List AV) (xs : List Value) (K : List DV → Prop), RepL m as xs → viewsK h as K → ∃ ds, K ds ∧ ViewL w ds xs
  | [], [], K, _, hv => ⟨[], by simpa [viewsK] using hv, by simp [ViewL]⟩
  | [], _ :: _, _, hr, _ => by simp [RepL] at hr
  | _ :: _, [], _, hr, _ => by simp [RepL] at hr
  | a :: as, x :: xs, K, hr, hv => by
    simp only [RepL] at hr
    simp only [viewsK] at hv
    obtain ⟨d, hv', hd⟩ := viewK_sound hs a x _ hr.1 hv
    obtain ⟨ds, hK, hds⟩ := viewsK_sound hs as xs _ hr.2 hv'
    exact ⟨_, hK, by simp only [ViewL]; exact ⟨hd, hds⟩⟩
end

/-- What is kept while objects are laid for a result: old objects lie below B or among the blocks that are done. -/
def Apart (m : Lm) (h : Hp) (B : Nat) (done : List Nat) : Prop := ∀ o ob l, h o = some ob → m o = some l → ∀ k ∈ blks l ob.cont, k < B ∨ k ∈ done

mutual
theorem mat_sound {B : Nat} (hPB : ∀ b o, (b, o) ∈ F.p → b < B) : ∀ (d : DV) (x : Value) (bs done : List Nat) (m : Lm) (h : Hp) (next : Nat), Sim F W m h next w → W.heap.size ≤ B → Apart m h B done → Fresh w d x bs → bs.Nodup → (∀ k ∈ bs, B ≤ k ∧ k < w.heap.size ∧ k ∉ done) →
    ∃ m', Rep m' (mat true d h next).1 x ∧ Sim F W m' (mat true d h next).2.1 (mat true d h next).2.2 w ∧ (∀ o l, m o = some l → m' o = some l) ∧ Apart m' (mat true d h next).2.1 B (done ++ bs)
  | .val v, x, bs, done, m, h, next, hs, _, ha, hf, _, _ => by
    simp only [Fresh] at hf
    obtain ⟨rfl, rfl⟩ := hf
    exact ⟨m, by simp only [mat, Rep], by simpa [mat] using hs, fun _ _ h => h, by simpa [mat] using ha⟩
  | .row c, x, bs, done, m, h, next, hs, hB, ha, hf, hnd, hbs => by
    simp only [Fresh] at hf
    obtain ⟨hcl, l, hsl, hcells, hlen, hop, rfl⟩ := hf
    have hm := hs.mono_next l
    refine ⟨upd m next (some l), ?_, ?_, hm, ?_⟩
    · simp only [mat, Rep]; exact ⟨l, upd_same _ _ _, hsl⟩
    · simp only [mat]
      refine hs.add (blks l c) rfl rfl rfl (Nat.le_refl _) (fun _ _ _ => rfl) (fun k hk => ⟨.inr (Nat.le_trans hB (hbs k hk).1), fun ⟨o', ho'⟩ => by have := hPB k o' ho'; have := (hbs k hk).1; omega⟩) (fun o ob l' h1 h2 k hk hk' => ?_) l ⟨true, c⟩ rfl (fun k hk => .inl hk) hnd (fun k hk => (hbs k hk).2.1) (by rw [flat_len]; exact hlen) (cells_re hcl rfl (upd_same _ _ _) hcells) hop
      rcases ha o ob l' h1 h2 k hk with h3 | h3
      · have := (hbs k hk').1; omega
      · exact (hbs k hk').2.2 h3
    · simp only [mat]
      intro o ob l' h1 h2 k hk
      by_cases e : o = next
      · subst e
        rw [upd_same] at h1 h2
        cases h1; cases h2
        exact .inr (List.mem_append_right _ hk)
      · rw [upd_ne _ _ e] at h1 h2
        rcases ha o ob l' h1 h2 k hk with h3 | h3
        · exact .inl h3
        · exact .inr (List.mem_append_left _ h3)
  | .agg ds, x, bs, done, m, h, next, hs, hB, ha, hf, hnd, hbs => by
    simp only [Fresh] at hf
    obtain ⟨xs, rfl, hxs⟩ := hf
    obtain ⟨m', h1, h2, h3, h4⟩ := matL_sound hPB ds xs bs done m h next hs hB ha hxs hnd hbs
    exact ⟨m', by simp only [mat, Rep]; exact ⟨xs, rfl, h1⟩, by simpa [mat] using h2, h3, by simpa [mat] using h4⟩
  | .tup ds, x, bs, done, m, h, next, hs, hB, ha, hf, hnd, hbs => by
    simp only [Fresh] at hf
    obtain ⟨xs, rfl, hxs⟩ := hf
    obtain ⟨m', h1, h2, h3, h4⟩ := matL_sound hPB ds xs bs done m h next hs hB ha hxs hnd hbs
    exact ⟨m', by simp only [mat, Rep]; exact ⟨xs, rfl, h1⟩, by simpa [mat] using h2, h3, by simpa [mat] using h4⟩
theorem matL_sound {B : Nat} (hPB : ∀ b o, (b, o) ∈ F.p → b < B) : ∀ (ds : List DV) (xs : List Value) (bs done : List Nat) (m : Lm) (h : Hp) (next : Nat), Sim F W m h next w → W.heap.size ≤ B → Apart m h B done → FreshL w ds xs bs → bs.Nodup → (∀ k ∈ bs, B ≤ k ∧ k < w.heap.size ∧ k ∉ done) →
    ∃ m', RepL m' (mat.matL true ds h next).1 xs ∧ Sim F W m' (mat.matL true ds h next).2.1 (mat.matL true ds h next).2.2 w ∧ (∀ o l, m o = some l → m' o = some l) ∧ Apart m' (mat.matL true ds h next).2.1 B (done ++ bs)
  | [], [], bs, done, m, h, next, hs, _, ha, hf, _, _ => by
    simp only [FreshL] at hf
    subst hf
    exact ⟨m, by simp [mat.matL, RepL], by simpa [mat.matL] using hs, fun _ _ h => h, by simpa [mat.matL] using ha⟩
  | [], _ :: _, _, _, _, _, _, _, _, _, hf, _, _ => by simp [FreshL] at hf
  | _ :: _, [], _, _, _, _, _, _, _, _, hf, _, _ => by simp [FreshL] at hf
  | d :: ds, x :: xs, bs, done, m, h, next, hs, hB, ha, hf, hnd, hbs => by
    simp only [FreshL] at hf
    obtain ⟨b1, b2, rfl, hd, hds⟩ := hf
    have hnd1 := (List.nodup_append.1 hnd)
    obtain ⟨m1, h1, h2, h3, h4⟩ := mat_sound hPB d x b1 done m h next hs hB ha hd hnd1.1 (fun k hk => hbs k (List.mem_append_left _ hk))
    obtain ⟨m2, g1, g2, g3, g4⟩ := matL_sound hPB ds xs b2 (done ++ b1) m1 _ _ h2 hB h4 hds hnd1.2.1 (fun k hk => by
      obtain ⟨e1, e2, e3⟩ := hbs k (List.mem_append_right _ hk)
      refine ⟨e1, e2, fun hm => ?_⟩
      rcases List.mem_append.1 hm with h5 | h5
      · exact e3 h5
      · exact hnd1.2.2 k h5 k hk rfl)
    refine ⟨m2, by simp only [mat.matL, RepL]; exact ⟨h1.mono g3, g1⟩, by simpa [mat.matL] using g2, fun o l ho => g3 _ _ (h3 _ _ ho), ?_⟩
    simp only [mat.matL]
    rw [← List.append_assoc]
    exact g4
end

theorem aCall_sound (hs : Sim F W m h next w) {f : FuncId} {as : List AV} {xs : List Value} {K : AV → Hp → Nat → Prop} (hr : aCall P f h next as K) (hx : RepL m as xs) :
    Calls P f xs.toArray w fun e w' => ∃ v, e = .returned v ∧ Acts F W m w true K v w' := by
  obtain ⟨S, hS, hv⟩ := hr
  obtain ⟨ds, hK, hview⟩ := viewsK_sound hs as xs _ hx hv
  refine (hS w xs ds _ hview hK).mono fun e w' ⟨v, r, bs, he, hKr, hg, hf, hnd, hbs⟩ => ⟨v, he, ?_⟩
  have hs' := hs.grow hg
  have ha : Apart m h w.heap.size [] := fun o ob l ho hl k hk => by
    obtain ⟨l', hl', hok⟩ := hs.obj o ob ho
    have : l' = l := Option.some.inj (hl'.symm.trans hl)
    subst this
    exact .inl (hok.lt k hk)
  obtain ⟨m', h1, h2, h3, _⟩ := mat_sound (fun b o hb => hs.prot_lt hb) r v bs [] m h next hs' hs.kept.size ha hf hnd (fun k hk => ⟨(hbs k hk).1, (hbs k hk).2, by simp⟩)
  exact ⟨m', _, _, _, hKr, h1, h2, h3, fun _ => hg⟩

theorem viewKR_sound (hs : Sim F W m h next w) (a : AV) (x : Value) (K : DV → Prop) (hr : Rep m a x) (hv : viewKR h a K) : ∃ d, K d ∧ View w d x := by
  unfold viewKR at hv
  split at hv
  · rename_i o off len lim
    obtain ⟨ob, hob, hv⟩ := hv
    obtain ⟨b, c⟩ := ob
    cases c with
    | cells as => exact rowsView_sound hs hob hr hv.1 hv.2
    | ints k xs => exact viewC_sound hs hob hr hv
    | strs ss => exact viewC_sound hs hob hr hv
    | bools bs => exact viewC_sound hs hob hr hv
    | rows k xss hole => exact viewC_sound hs hob hr hv
    | raw b => exact viewC_sound hs hob hr hv
    | same o q => exact viewC_sound hs hob hr hv
  · exact viewK_sound hs a x K hr hv
theorem viewsKR_sound (hs : Sim F W m h next w) : ∀ (as : List AV) (xs : List Value) (K : List DV → Prop), RepL m as xs → viewsKR h as K → ∃ ds, K ds ∧ ViewL w ds xs
  | [], [], K, _, hv => ⟨[], by simpa [viewsKR] using hv, by simp [ViewL]⟩
  | [], _ :: _, _, hr, _ => by simp [RepL] at hr
  | _ :: _, [], _, hr, _ => by simp [RepL] at hr
  | a :: as, x :: xs, K, hr, hv => by
    simp only [RepL] at hr
    simp only [viewsKR] at hv
    obtain ⟨d, hv', hd⟩ := viewKR_sound hs a x _ hr.1 hv
    obtain ⟨ds, hK, hds⟩ := viewsKR_sound hs as xs _ hr.2 hv'
    exact ⟨_, hK, by simp only [ViewL]; exact ⟨hd, hds⟩⟩

/-- A call by contract, with rows of slices handed over as rows. -/
def aCallR (P : Program) (f : FuncId) (h : Hp) (n : Nat) (as : List AV) (K : AV → Hp → Nat → Prop) : Prop :=
  ∃ S, Sat P f S ∧ viewsKR h as fun ds => S ds fun r => K (mat true r h n).1 (mat true r h n).2.1 (mat true r h n).2.2
theorem aCallR_sound (hs : Sim F W m h next w) {f : FuncId} {as : List AV} {xs : List Value} {K : AV → Hp → Nat → Prop} (hr : aCallR P f h next as K) (hx : RepL m as xs) :
    Calls P f xs.toArray w fun e w' => ∃ v, e = .returned v ∧ Acts F W m w true K v w' := by
  obtain ⟨S, hS, hv⟩ := hr
  obtain ⟨ds, hK, hview⟩ := viewsKR_sound hs as xs _ hx hv
  refine (hS w xs ds _ hview hK).mono fun e w' ⟨v, r, bs, he, hKr, hg, hf, hnd, hbs⟩ => ⟨v, he, ?_⟩
  have hs' := hs.grow hg
  have ha : Apart m h w.heap.size [] := fun o ob l ho hl k hk => by
    obtain ⟨l', hl', hok⟩ := hs.obj o ob ho
    have : l' = l := Option.some.inj (hl'.symm.trans hl)
    subst this
    exact .inl (hok.lt k hk)
  obtain ⟨m', h1, h2, h3, _⟩ := mat_sound (fun b o hb => hs.prot_lt hb) r v bs [] m h next hs' hs.kept.size ha hf hnd (fun k hk => ⟨(hbs k hk).1, (hbs k hk).2, by simp⟩)
  exact ⟨m', _, _, _, hKr, h1, h2, h3, fun _ => hg⟩

/-- What the record of a loop over a function bears: the frame's slots as they were. -/
structure Snap where
  lp : Loop
  nt : Nat
  tm : Nat → AV
def RecOk (m : Lm) (p : Snap) : Prop := p.lp.tmps.size = p.nt ∧ ∀ t, Rep m (p.tm t) (p.lp.tmps.getD t undef)
theorem RecOk.mono {m m' : Lm} (hm : ∀ o l, m o = some l → m' o = some l) {p : Snap} (h : RecOk m p) : RecOk m' p := ⟨h.1, fun t => (h.2 t).mono hm⟩

/-- A call, told from the state in which it is made: it may write what the state says may be written. -/
def aCallH (P : Program) (_ : Bool) (S : List Snap) (f : FuncId) (h : Hp) (n : Nat) (as : List AV) (K : AV → Hp → Nat → Prop) : Prop :=
  ∀ (F : Fr) (W : World) (m : Lm) (xs : List Value) (w : World), (∀ p ∈ S, RecOk m p) → Sim F W m h n w → RepL m as xs →
    Calls P f xs.toArray w fun e w' => ∃ v, e = .returned v ∧ Acts F W m w false K v w'

/-- The same, of a call that writes nothing that was there. -/
def aCallT (P : Program) (_ : Bool) (S : List Snap) (f : FuncId) (h : Hp) (n : Nat) (as : List AV) (K : AV → Hp → Nat → Prop) : Prop :=
  ∀ (F : Fr) (W : World) (m : Lm) (xs : List Value) (w : World), (∀ p ∈ S, RecOk m p) → Sim F W m h n w → RepL m as xs →
    Calls P f xs.toArray w fun e w' => ∃ v, e = .returned v ∧ Acts F W m w true K v w'

/-- A call by one of the four. -/
def aCallX (P : Program) (fl : Bool) (S : List Snap) (wild : Bool) (f : FuncId) (h : Hp) (n : Nat) (as : List AV) (K : AV → Hp → Nat → Prop) : Prop :=
  aCall P f h n as K ∨ aCallT P fl S f h n as K ∨ aCallR P f h n as K ∨ (wild = true ∧ aCallH P fl S f h n as K)

variable {fl : Bool} {S : List Snap}
theorem aCallX_sound (hS : ∀ p ∈ S, RecOk m p) (hs : Sim F W m h next w) {wild : Bool} {f : FuncId} {as : List AV} {xs : List Value} {K : AV → Hp → Nat → Prop} (hr : aCallX P fl S wild f h next as K) (hx : RepL m as xs) :
    Calls P f xs.toArray w fun e w' => ∃ v, e = .returned v ∧ Acts F W m w (!wild) K v w' := by
  rcases hr with hr | hr | hr | ⟨rfl, hr⟩
  · refine (aCall_sound hs hr hx).mono fun e w' ⟨v, he, m', a, h', n', q1, q2, q3, q4, q5⟩ => ⟨v, he, m', a, h', n', q1, q2, q3, q4, fun _ => q5 rfl⟩
  · refine (hr F W m xs w hS hs hx).mono fun e w' ⟨v, he, m', a, h', n', q1, q2, q3, q4, q5⟩ => ⟨v, he, m', a, h', n', q1, q2, q3, q4, fun _ => q5 rfl⟩
  · refine (aCallR_sound hs hr hx).mono fun e w' ⟨v, he, m', a, h', n', q1, q2, q3, q4, q5⟩ => ⟨v, he, m', a, h', n', q1, q2, q3, q4, fun _ => q5 rfl⟩
  · exact hr F W m xs w hS hs hx

/-- A call of yield: a round is run. -/
def aYield (P : Program) (S : List Snap) (o : Nat) (h : Hp) (n : Nat) (as : List AV) (K : AV → Hp → Nat → Prop) : Prop :=
  ∀ (F : Fr) (W : World) (m : Lm) (l : Loc) (xs : List Value) (w : World), (∀ p ∈ S, RecOk m p) → Sim F W m h n w → m o = some l → RepL m as xs →
    ∃ f tmps assign body, (Instr.yield l.blk xs.toArray).run P w = .ok (.round l.blk f tmps assign body) w ∧
      RoundIn Fence.wide 0 P l.blk f tmps assign body w fun e w' => ∃ v, e = .returned v ∧ Acts F W m w false K v w'

theorem callX_sat {wild : Bool} {f : FuncId} {S' : Ctr} {as : List AV} {K : AV → Hp → Nat → Prop} (hS : Sat P f S') (h1 : viewsK h as fun ds => S' ds fun r => K (mat true r h next).1 (mat true r h next).2.1 (mat true r h next).2.2) : aCallX P fl S wild f h next as K :=
  .inl ⟨S', hS, h1⟩
theorem callX_h {f : FuncId} {as : List AV} {K : AV → Hp → Nat → Prop} (hr : aCallH P fl S f h next as K) : aCallX P fl S true f h next as K := .inr (.inr (.inr ⟨rfl, hr⟩))
theorem callX_satR {wild : Bool} {f : FuncId} {S' : Ctr} {as : List AV} {K : AV → Hp → Nat → Prop} (hS : Sat P f S') (h1 : viewsKR h as fun ds => S' ds fun r => K (mat true r h next).1 (mat true r h next).2.1 (mat true r h next).2.2) : aCallX P fl S wild f h next as K :=
  .inr (.inr (.inl ⟨S', hS, h1⟩))
theorem callX_t {wild : Bool} {f : FuncId} {as : List AV} {K : AV → Hp → Nat → Prop} (hr : aCallT P fl S f h next as K) : aCallX P fl S wild f h next as K := .inr (.inl hr)
end
end Go.Ab
