/- FnExactCountInRows: for every input the law returns true, and its arguments read behind the call as they read before. No condition. -/
import Derived.Test.YtaeeahgcmkafcaaRows
import Derived.Test.YtaeeahgcmkafcaaPFCd
import Derived.WalkKit
import Derived.ProofKit
import Derived.OpenShut
import Derived.ShutString
import Derived.ChangeOld
import Derived.Below
import Derived.Deep.Matrix
namespace Go.Proofs.Ytaeeahgcmkafcaa.fnExactCountInRows
open Go.Ab
set_option linter.all false
open Go.ChangeShapes Go.WideShapes Go.ChangeAt Go.RowKit
open Go.ChangeMaps (open_string shut_string)
set_option linter.unusedVariables false

theorem spot_none {w : World} {a : Addr} {v : Value} (h : w.cell? a = some v) (hv : (∃ k n, v = .int k n) ∨ ∃ x l c, v = .slice x l c) : a.spot = none := by
  cases hs : a.spot with
  | none => rfl
  | some q =>
    unfold World.cell? at h
    rw [hs] at h
    rcases hv with ⟨k, n, rfl⟩ | ⟨x, l, c, rfl⟩
    all_goals (simp at h; split at h <;> simp at h)
theorem addr_none {a : Addr} (h : a.spot = none) : a = ⟨a.block, a.off, none⟩ := by cases a; simp only at h; subst h; rfl
theorem add_none {a : Addr} (h : a.spot = none) (i : Nat) : a.add i = ⟨a.block, a.off + i, none⟩ := by rw [addr_none h]; exact addr_add _ _ _

theorem view_rows {w : World} {k : IntKind} {a : Addr} {len cap : Nat} {A : Nat → Option Addr} {L C : Nat → Nat} {Z : Nat → List Int} (hl : len ≤ cap)
    (h : ∀ r, r < cap → w.cell? (a.add r) = some (.slice (A r) (L r) (C r)) ∧ L r ≤ C r ∧ (Z r).length = C r ∧ (A r = none → C r = 0) ∧ ∀ a', A r = some a' → ∀ c, c < C r → w.cell? (a'.add c) = some (.int k ((Z r).getD c 0))) :
    View w (.row (.rows k ((List.range len).map fun r => (Z r).take (L r)) none)) (.slice (some a) len cap) := by
  simp only [View]
  refine ⟨rfl, ?_⟩
  obtain ⟨I, hI⟩ : ∃ I : Nat → In, ∀ r, I r = ⟨(A r).elim 0 (·.block), (A r).elim 0 (·.off), C r⟩ := ⟨_, fun _ => rfl⟩
  have hin : ∀ r, r < cap → C r ≠ 0 → ∃ b o, A r = some ⟨b, o, none⟩ ∧ I r = ⟨b, o, C r⟩ := fun r hr hc => by
    obtain ⟨_, _, _, h5, h6⟩ := h r hr
    rcases hA : A r with _ | a'
    · exact absurd (h5 hA) hc
    · have h0 := h6 a' hA 0 (by omega)
      have hs : (a'.add 0).spot = none := spot_none h0 (.inl ⟨_, _, rfl⟩)
      have hs' : a'.spot = none := by simpa [Addr.add] using hs
      refine ⟨a'.block, a'.off, by rw [← addr_none hs'], ?_⟩
      rw [hI, hA]; rfl
  have hsp : ∀ r, r < cap → a.spot = none := fun r hr => by
    have := spot_none (h 0 (by omega)).1 (.inr ⟨_, _, _, rfl⟩)
    simpa [Addr.add] using this
  have hlt : ∀ r, r < cap → ((Z r).take (L r)).length = L r := fun r hr => by
    obtain ⟨_, h3, h4, _⟩ := h r hr
    rw [List.length_take]; omega
  have hrow : ∀ i xs, ((List.range len).map fun r => (Z r).take (L r))[i]? = some xs → i < len ∧ xs = (Z i).take (L i) := fun i xs hx => by
    rw [List.getElem?_map, Option.map_eq_some_iff] at hx
    obtain ⟨j, hj, e⟩ := hx
    have hj' := List.getElem?_eq_some_iff.1 hj
    obtain ⟨h1, h2⟩ := hj'
    simp only [List.length_range] at h1
    simp only [List.getElem_range] at h2
    subst h2
    exact ⟨h1, e.symm⟩
  have hins : ∀ i, i < len → ((List.range len).map I)[i]? = some (I i) := fun i hi => by simp [hi]
  refine ⟨⟨a.block, a.off, cap, (List.range len).map I⟩, ⟨some a, cap, by simp [Cont.len], by simpa [Cont.len] using hl, fun h0 => ?_, by simp⟩, ⟨fun i b hb => ?_, fun i xs hi _ => ?_⟩, by simpa [Cont.len] using hl, fun b hb => ?_⟩
  · rw [Nat.add_zero, ← addr_none (hsp 0 (by omega))]
  · simp only [Cont.flat, reduceCtorEq, if_false, List.getElem?_map, Option.map_eq_some_iff] at hb
    obtain ⟨⟨xs, j⟩, hx, rfl⟩ := hb
    rw [List.getElem?_zipIdx, Option.map_eq_some_iff] at hx
    obtain ⟨zs, hz, he⟩ := hx
    simp only [Nat.zero_add, Prod.mk.injEq] at he
    obtain ⟨rfl, rfl⟩ := he
    obtain ⟨h1, h2⟩ := hrow i zs hz
    subst h2
    obtain ⟨q1, q2, q3, q4, q5⟩ := h i (by omega)
    rw [add_none (hsp i (by omega))] at q1
    refine ⟨_, q1, rfl, ?_⟩
    simp only [Rep]
    refine ⟨_, I i, rfl, hins i h1, A i, C i, by rw [hlt i (by omega)], by rw [hlt i (by omega)]; exact q2, fun hc => ?_, by rw [hI]; simp⟩
    obtain ⟨b, o, e1, e2⟩ := hin i (by omega) hc
    rw [e1, e2, Nat.add_zero]
  · obtain ⟨h1, h2⟩ := hrow i xs hi
    subst h2
    obtain ⟨q1, q2, q3, q4, q5⟩ := h i (by omega)
    refine ⟨I i, hins i h1, by rw [hlt i (by omega), hI]; exact q2, fun j n hj => ?_⟩
    rw [List.getElem?_take] at hj
    split at hj
    · rename_i hjL
      obtain ⟨b, o, e1, e2⟩ := hin i (by omega) (by omega)
      have := q5 _ e1 j (by omega)
      rw [addr_add, List.getD_eq_getElem?_getD, hj] at this
      rw [e2]; exact this
    · cases hj
  · simp only [blks, reduceCtorEq, or_false] at hb
    rcases List.mem_append.1 hb with hb | hb
    · split at hb
      · simp at hb
      · simp only [List.mem_singleton] at hb
        subst hb
        have := World.block_lt_of_cell? w _ (h 0 (by omega)).1
        simpa [Addr.add] using this
    · rw [List.mem_filterMap] at hb
      obtain ⟨⟨li, j⟩, hm, he⟩ := hb
      have hm' := List.mem_zipIdx_iff_getElem?.1 hm
      simp only [List.getElem?_map, Option.map_eq_some_iff] at hm'
      obtain ⟨r, hr, rfl⟩ := hm'
      obtain ⟨r1, r2⟩ := List.getElem?_eq_some_iff.1 hr
      simp only [List.length_range] at r1
      simp only [List.getElem_range] at r2
      subst r2
      split at he
      · cases he
      · rename_i hne
        simp only [Option.some.injEq] at he
        subst he
        obtain ⟨b, o, e1, e2⟩ := hin j (by omega) (by rw [hI] at hne; exact hne)
        have := World.block_lt_of_cell? w _ ((h j (by omega)).2.2.2.2 _ e1 0 (by rw [hI] at hne; simp only at hne; omega))
        rw [e2]
        simpa [Addr.add] using this
theorem view_rows_nil {w : World} {k : IntKind} : View w (.row (.rows k [] none)) (.slice none 0 0) := by
  simp only [View]
  refine ⟨rfl, ⟨0, 0, 0, []⟩, ⟨none, 0, rfl, Nat.le_refl _, fun h => absurd rfl h, rfl⟩, ⟨fun i b hb => by simp [Cont.flat] at hb, fun i xs hi => by simp at hi⟩, Nat.le_refl _, fun b hb => by simp [blks] at hb⟩
theorem rows_small {L C : Nat → Nat} {Z : Nat → List Int} {len cap : Nat} (hl : len ≤ cap) (h : ∀ r, r < cap → (Z r).length = C r ∧ C r ≤ maxLen) : ∀ i, (((List.range len).map fun r => (Z r).take (L r)).getD i []).length ≤ 9223372036854775807 := fun i => by
  rw [List.getD_eq_getElem?_getD]
  by_cases hi : i < len
  · rw [List.getElem?_map, List.getElem?_range hi]
    have := h i (by omega)
    unfold maxLen at this
    simp only [Option.map_some, Option.getD_some, List.length_take]
    omega
  · rw [List.getElem?_eq_none (by simp; omega)]; simp

theorem own : ownKnob Try.prog.godebug = none := by kernel_rfl
theorem laidOut : laidOutB Try.prog = true := by kernel_rfl

theorem walk (v0 : Value) (xss : List (List Int)) (a1 : Int) (w : World) (w0 : View w (.row (.rows .i64 xss none)) v0) (wl : xss.length ≤ 9223372036854775807) (wr : ∀ i, (xss.getD i []).length ≤ 9223372036854775807) :
    Calls Try.prog 14 #[v0, .int .i64 a1] w fun e w' => e = .returned (.bool true) ∧ Below w.heap.size w w' := by
  exact walk_law FnExactCountInRows_sat (viewL_cons w0 (viewL_cons view_val viewL_nil)) (fun Q h => ⟨_, _, rfl, wl, wr, h⟩)

set_option maxRecDepth 100000 in
theorem lifted (os : Os) (started : os.Started) (H : Type) (enc : TypeId × Value → H) :
    ReturnsInHanded {} Try.checked os 14 .any (Rows.fnExactCountInRowsSpec.pre6 enc Try.prog Try.f14 Rows.fnExactCountInRowsRow.domain false) (Rows.fnExactCountInRowsSpec.post enc Try.prog Try.f14 false true false false) := by
  refine returnsInHanded_of_change (C := Try.checked) own started (by kernel_rfl) Try.func14
    (ChangeSpec.witness6 (enc := enc) (C := Try.checked) false ⟨#[], #[.slice none 0 0, .int .i64 0], []⟩ 8 (by kernel_rfl) (by kernel_rfl) (by kernel_rfl) (by kernel_rfl)) ?_
  intro W base args ds gs before hval0 hW hcnd _
  have hval : ∀ (j : Nat) t v, Try.f14.params[j]? = some t → args[j]? = some v → Value.okWide Try.prog W .any base t v := hval0
  have hW' := hW
  obtain ⟨p, q, hA0, hV, rfl, hfz, hnd⟩ := hW
  have hA : DataW.TrodAll enc Try.prog W 0 (fun _ => true) true Try.f14.params.toList args.toList ds p := hA0
  rw [Try.params14] at hA hval
  obtain ⟨v0, vs0, d0, ds0, p0, q0, hargs, rfl, rfl, h0, r0⟩ := trodAll_cons hA
  obtain ⟨v1, vs1, d1, ds1, p1, q1, rfl, rfl, rfl, h1, r1⟩ := trodAll_cons r0
  obtain ⟨rfl, rfl, rfl⟩ := trodAll_nil r1
  obtain rfl : args = #[v0, v1] := by cases args; simp_all
  obtain ⟨rfl, rfl⟩ := trodVars_none hV
  obtain ⟨a0, len0, cap0, rfl⟩ := okWide_slice Try.underlying37 (hval 0 37 v0 rfl rfl)
  have k0 := h0
  have lt0 : ∀ x ∈ p0, x.block < W.heap.size := by obtain ⟨m, hm⟩ := k0; exact DataW.trod_lt m _ _ _ hm
  obtain ⟨xss, w0, wl, wr⟩ : ∃ xss, View W (.row (.rows .i64 xss none)) (.slice a0 len0 cap0) ∧ xss.length ≤ 9223372036854775807 ∧ ∀ i, (xss.getD i []).length ≤ 9223372036854775807 := by
    obtain ⟨fuel, hf⟩ := h0
    rcases Go.Deep.open_int_rows Try.underlying37 Try.underlying23 Try.underlying3 (by kernel_rfl) (by kernel_rfl) hf with ⟨hcs, _⟩ | ⟨a, len, cap, A, L, C, Z, hcs, _, hl, hm, _, hr⟩
    · simp [Value.cells] at hcs
      obtain ⟨rfl, rfl, rfl⟩ := hcs
      exact ⟨[], view_rows_nil, by simp, fun i => by simp⟩
    · simp [Value.cells] at hcs
      obtain ⟨rfl, rfl, rfl⟩ := hcs
      refine ⟨_, view_rows (A := A) (L := L) (C := C) (Z := Z) hl fun r h => ?_, ?_, rows_small (C := C) hl fun r h => ?_⟩
      · obtain ⟨e1, e2, e3, e4, _, e6, e7⟩ := hr r h
        exact ⟨e1, e2, e4, e6, fun a' ha => (e7 a' ha).2⟩
      · unfold maxLen at hm
        simp only [List.length_map, List.length_range]
        omega
      · obtain ⟨e1, e2, e3, e4, _, e6, e7⟩ := hr r h
        exact ⟨e4, e3⟩
  obtain ⟨a1, rfl, rfl, rfl, w1⟩ := open_int Try.underlying3 (hval 1 3 v1 rfl rfl) h1
  clear hA0 hval0
  refine (walk (.slice a0 len0 cap0) xss a1 W w0 wl wr).mono fun e W' ⟨he, bel⟩ => ?_
  subst he
  exact ⟨_, rfl, _, _, _, [], _, [], hW', trodAll_mk1 (shut_bool Try.underlying4 _), (trodAll_cons_mk (Below.trod laidOut (by kernel_rfl) (of_decide_eq_true (by kernel_rfl)) k0 bel lt0) (trodAll_cons_mk (shut_int Try.underlying3 w1) trodAll_mk0)), rfl, bel.frame _, fun h => by cases h⟩

theorem over : Rows.fnExactCountInRowsRow.holds Try.pinned (OpenSpec.ofChange Rows.fnExactCountInRowsSpec) :=
  OpenClaim.holds_of_wide 14 Try.f14 rfl rfl rfl rfl rfl rfl rfl ⟨rfl, rfl, rfl, rfl, rfl⟩ rfl rfl rfl rfl rfl (by kernel_rfl) Try.func14 (by kernel_rfl)
    (of_decide_eq_true (by kernel_rfl)) (by unfold Func.isWrapper; first | (rw [if_pos (by decide +kernel)]; kernel_rfl) | (rw [if_neg (by decide +kernel)]; exact ⟨rfl, rfl⟩))
    (fun os started H enc _ => lifted os started H enc)

theorem proved : Rows.FnExactCountInRowsSaid := over
#print axioms proved
end Go.Proofs.Ytaeeahgcmkafcaa.fnExactCountInRows
