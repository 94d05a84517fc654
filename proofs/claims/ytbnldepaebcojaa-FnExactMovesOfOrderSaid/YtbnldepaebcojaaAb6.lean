/- make, slice literals and append over abstract values. -/
import Derived.Test.YtbnldepaebcojaaAb5
import Derived.Lib.AppendZeros
import Derived.Laws.IdiomCopy
namespace Go.Ab
set_option linter.all false
open Go Go.RowKit

def aMake (tab : Tab) (h : Hp) (n : Nat) (t : TypeId) (len cap : AV) (K : AV → Hp → Nat → Prop) : Prop :=
  match len, cap with
  | .val (.int _ l), .val (.int _ c) => ∃ e i, tyOf tab t = some (.slice e) ∧ tab e = some i ∧ i.size = 1 ∧ 0 ≤ l ∧ l ≤ c ∧ (i.bytes : Int) * c ≤ 281474976710656 ∧ c ≤ 9223372036854775807 ∧
    (match i.ty with
    | .int ik => i.zero = [.int ik 0] ∧ K (.sl n 0 l.toNat 1 none) (upd h n (some ⟨true, .ints ik (List.replicate l.toNat 0)⟩)) (n + 1)
    | .bool => i.zero = [.bool false] ∧ K (.sl n 0 l.toNat 1 none) (upd h n (some ⟨true, .bools (List.replicate l.toNat false)⟩)) (n + 1)
    | .string => i.zero = [.string ByteArray.empty] ∧ K (.sl n 0 l.toNat 1 none) (upd h n (some ⟨true, .strs (List.replicate l.toNat ByteArray.empty)⟩)) (n + 1)
    | .slice _ => i.zero = [.slice none 0 0] ∧ K (.sl n 0 l.toNat 1 none) (upd h n (some ⟨true, .cells (List.replicate l.toNat (.val (.slice none 0 0)))⟩)) (n + 1)
    | _ => False)
  | _, _ => False

/-- make for structs of two numbers. -/
def aMake2 (tab : Tab) (h : Hp) (n : Nat) (t : TypeId) (len cap : AV) (K : AV → Hp → Nat → Prop) : Prop :=
  match len, cap with
  | .val (.int _ l), .val (.int _ c) => ∃ e i ik, tyOf tab t = some (.slice e) ∧ tab e = some i ∧ i.size = 2 ∧ i.zero = [.int ik 0, .int ik 0] ∧ 0 ≤ l ∧ l ≤ c ∧ (i.bytes : Int) * c ≤ 281474976710656 ∧ c ≤ 9223372036854775807 ∧
    K (.sl n 0 l.toNat 2 none) (upd h n (some ⟨true, .ints ik (List.replicate (l.toNat * 2) 0)⟩)) (n + 1)
  | _, _ => False

/-- A list of parts as a content. -/
def packInts (k : IntKind) : List AV → Option (List Int)
  | [] => some []
  | .val (.int k' n) :: as => if k' = k then (packInts k as).map (n :: ·) else none
  | _ => none
def packStrs : List AV → Option (List ByteArray)
  | [] => some []
  | .val (.string s) :: as => (packStrs as).map (s :: ·)
  | _ => none
def pack (as : List AV) : Cont :=
  match as with
  | .val (.int k _) :: _ => (match packInts k as with | some xs => .ints k xs | none => .cells as)
  | .val (.string _) :: _ => (match packStrs as with | some ss => .strs ss | none => .cells as)
  | _ => .cells as

/-- The same, with a kind for none. -/
def packZ (z : Value) : List AV → Cont
  | [] => (match z with | .int k _ => .ints k [] | .string _ => .strs [] | .bool _ => .bools [] | _ => .cells [])
  | a :: as => pack (a :: as)

/-- The parts stand in order, from number k on. -/
def inOrder : Nat → List (Nat × AV) → Bool
  | _, [] => true
  | k, p :: ps => p.1 == k && inOrder (k + 1) ps

def aBuildSlice (tab : Tab) (h : Hp) (n : Nat) (t : TypeId) (len : Nat) (parts : List (Nat × AV)) (K : AV → Hp → Nat → Prop) : Prop :=
  ∃ e i z, tyOf tab t = some (.slice e) ∧ tab e = some i ∧ i.size = 1 ∧ i.zero = [z] ∧ len = parts.length ∧ len ≤ 16777216 ∧ inOrder 0 parts = true ∧ (parts.map (·.2)).all AV.cell = true ∧
    K (.sl n 0 len 1 none) (upd h n (some ⟨true, packZ z (parts.map (·.2))⟩)) (n + 1)

/-- None, or one element of more than one cell. -/
def aBuildSliceE (tab : Tab) (h : Hp) (n : Nat) (t : TypeId) (len : Nat) (parts : List (Nat × AV)) (K : AV → Hp → Nat → Prop) : Prop :=
  ∃ e i z zs, tyOf tab t = some (.slice e) ∧ tab e = some i ∧ i.zero = z :: zs ∧ i.zero.length = i.size ∧ i.size ≤ 16777216 ∧
    (match parts with
      | [] => len = 0 ∧ K (.sl n 0 0 i.size none) (upd h n (some ⟨true, packZ z []⟩)) (n + 1)
      | [p] => (match p.2 with
        | .agg as => p.1 = 0 ∧ len = 1 ∧ as.length = i.size ∧ as.all AV.cell = true ∧ K (.sl n 0 1 i.size none) (upd h n (some ⟨true, packZ z as⟩)) (n + 1)
        | _ => False)
      | [p, q] => (match p.2 with
        | .agg as => (match q.2 with
          | .agg bs => p.1 = 0 ∧ q.1 = 1 ∧ len = 2 ∧ as.length = i.size ∧ bs.length = i.size ∧ as.all AV.cell = true ∧ bs.all AV.cell = true ∧ 2 * i.size ≤ 16777216 ∧ K (.sl n 0 2 i.size none) (upd h n (some ⟨true, packZ z (as ++ bs)⟩)) (n + 1)
          | _ => False)
        | _ => False)
      | _ => False)

/-- A part of a content; two contents, one behind the other. -/
def winOf (c : Cont) (off len : Nat) : Option Cont :=
  match c with
  | .cells as => some (.cells ((as.drop off).take len))
  | .ints k xs => some (.ints k ((xs.drop off).take len))
  | .strs ss => some (.strs ((ss.drop off).take len))
  | .bools bs => some (.bools ((bs.drop off).take len))
  | .rows .. => none
  | .raw _ => none
  | .same _ _ => none

def catOf (c d : Cont) : Option Cont :=
  match c, d with
  | .cells as, .cells bs => some (.cells (as ++ bs))
  | .ints k xs, .ints k' ys => if k = k' then some (.ints k (xs ++ ys)) else none
  | .strs ss, .strs ts => some (.strs (ss ++ ts))
  | .bools bs, .bools cs => some (.bools (bs ++ cs))
  | _, _ => none

def lenOf (c : Cont) : Nat := (c.flat 0).length
def Cont.len' (c : Cont) : Nat := (c.flat 0).length

/-- What is put behind: k cells, that hold d. -/
def aSrc (h : Hp) (x : AV) (k : Nat) (d : Cont) : Prop :=
  (∃ p off lim ob2, x = .sl p off k 1 lim ∧ h p = some ob2 ∧ winOf ob2.cont off k = some d ∧ off + k ≤ (ob2.cont.flat p).length) ∨
  (∃ p i off lim r ik xss hole, x = .psl p i off k lim ∧ h p = some ⟨r, .rows ik xss hole⟩ ∧ i < xss.length ∧ hole ≠ some i ∧ off + k ≤ (xss.getD i []).length ∧ d = .ints ik (((xss.getD i []).drop off).take k)) ∨
  (x = .val (.slice none 0 0) ∧ k = 0 ∧ d.simple = true ∧ d.len' = 0)

def aAppend2 (tab : Tab) (h : Hp) (n : Nat) (t : TypeId) (s x : AV) (K : AV → Hp → Nat → Prop) : Prop :=
  ∃ e i z k d, tyOf tab t = some (.slice e) ∧ tab e = some i ∧ i.size = 1 ∧ i.zero = [z] ∧ aSrc h x k d ∧
    ((s = .val (.slice none 0 0) ∧ k ≤ 140737488355328 ∧ k * i.bytes ≤ 140737488355328 ∧ K (.sl n 0 k 1 none) (upd h n (some ⟨true, d⟩)) (n + 1)) ∨
     ∃ o len ob c0 c', s = .sl o 0 len 1 none ∧ h o = some ob ∧ ob.rw = true ∧ len ≤ (ob.cont.flat o).length ∧ winOf ob.cont 0 len = some c0 ∧ catOf c0 d = some c' ∧ len + k ≤ 140737488355328 ∧ (len + k) * i.bytes ≤ 140737488355328 ∧
      K (.sl n 0 (len + k) 1 none) (upd (upd h o none) n (some ⟨true, c'⟩)) (n + 1))

/-- Elements of more than one cell are put behind. -/
def aAppendE (tab : Tab) (h : Hp) (n : Nat) (t : TypeId) (s x : AV) (K : AV → Hp → Nat → Prop) : Prop :=
  ∃ e i k d p off lim ob2, tyOf tab t = some (.slice e) ∧ tab e = some i ∧ i.zero.length = i.size ∧ x = .sl p off k i.size lim ∧ h p = some ob2 ∧ winOf ob2.cont off (k * i.size) = some d ∧ off + k * i.size ≤ (ob2.cont.flat p).length ∧ 0 < k * i.size ∧
    ((s = .val (.slice none 0 0) ∧ k ≤ 140737488355328 ∧ k * i.bytes ≤ 140737488355328 ∧ K (.sl n 0 k i.size none) (upd h n (some ⟨true, d⟩)) (n + 1)) ∨
     ∃ o len ob c0 c', s = .sl o 0 len i.size none ∧ h o = some ob ∧ ob.rw = true ∧ len * i.size ≤ (ob.cont.flat o).length ∧ winOf ob.cont 0 (len * i.size) = some c0 ∧ catOf c0 d = some c' ∧ len + k ≤ 140737488355328 ∧ (len + k) * i.bytes ≤ 140737488355328 ∧
      K (.sl n 0 (len + k) i.size none) (upd (upd h o none) n (some ⟨true, c'⟩)) (n + 1))

/-- Onto a row of one's own of which older slices are still read: either it is written in its block behind all (the object is longer), or all lies anew (the object stays, too). -/
def aAppendB (tab : Tab) (h : Hp) (n : Nat) (t : TypeId) (s x : AV) (K : AV → Hp → Nat → Prop) : Prop :=
  ∃ e i k d p off lim ob2, tyOf tab t = some (.slice e) ∧ tab e = some i ∧ i.zero.length = i.size ∧ x = .sl p off k i.size lim ∧ h p = some ob2 ∧ winOf ob2.cont off (k * i.size) = some d ∧ off + k * i.size ≤ (ob2.cont.flat p).length ∧ 0 < k * i.size ∧
     ∃ o len ob c0 c', s = .sl o 0 len i.size none ∧ h o = some ob ∧ ob.rw = true ∧ o ≠ p ∧ len * i.size = (ob.cont.flat o).length ∧ winOf ob.cont 0 (len * i.size) = some c0 ∧ catOf c0 d = some c' ∧ len + k ≤ 140737488355328 ∧ (len + k) * i.bytes ≤ 140737488355328 ∧
      K (.sl n 0 (len + k) i.size none) (upd h n (some ⟨true, c'⟩)) (n + 1) ∧ K (.sl o 0 (len + k) i.size none) (upd h o (some ⟨true, c'⟩)) n

/-- Nothing is put behind: the slice stays as it is. -/
def aAppend0 (tab : Tab) (h : Hp) (n : Nat) (t : TypeId) (s x : AV) (K : AV → Hp → Nat → Prop) : Prop :=
  ∃ e i, tyOf tab t = some (.slice e) ∧ tab e = some i ∧ ((∃ o len sz, s = .sl o 0 len sz none) ∨ s = .val (.slice none 0 0)) ∧ (x = .val (.slice none 0 0) ∨ ∃ p off sz lim, x = .sl p off 0 sz lim) ∧ K s h n

/-- A row of rows of one's own may be appended to, too: it is taken out. -/
def aAppend (tab : Tab) (h : Hp) (n : Nat) (t : TypeId) (s x : AV) (K : AV → Hp → Nat → Prop) : Prop :=
  aAppend2 tab h n t s x K ∨ (∃ o j len ik xss, s = .psl o j 0 len none ∧ h o = some ⟨true, .rows ik xss none⟩ ∧ j < xss.length ∧ len = (xss.getD j []).length ∧
    aAppend2 tab (upd (upd h o (some ⟨true, .rows ik xss (some j)⟩)) n (some ⟨true, .ints ik (xss.getD j [])⟩)) (n + 1) t (.sl n 0 len 1 none) x K) ∨ aAppendE tab h n t s x K ∨ aAppendB tab h n t s x K ∨ aAppend0 tab h n t s x K

theorem flat_any {c : Cont} (h : c.simple = true) (o o' : Nat) : c.flat o = c.flat o' := by cases c <;> simp [Cont.simple] at h <;> rfl

theorem pack_simple (as : List AV) : (pack as).simple = true := by
  unfold pack
  split
  · split <;> rfl
  · split <;> rfl
  · rfl

theorem packInts_flat {k : IntKind} : ∀ {as : List AV} {xs : List Int}, packInts k as = some xs → as = xs.map fun n => .val (.int k n)
  | [], _, h => by simp [packInts] at h; subst h; rfl
  | a :: as, xs, h => by
    unfold packInts at h
    split at h
    · rename_i h1; cases h1
    · rename_i k' n as' h1
      cases h1
      split at h
      · rename_i hk
        subst hk
        obtain ⟨ys, hy, rfl⟩ := Option.map_eq_some_iff.1 h
        rw [packInts_flat hy]
        rfl
      · cases h
    · cases h

theorem packStrs_flat : ∀ {as : List AV} {xs : List ByteArray}, packStrs as = some xs → as = xs.map fun n => .val (.string n)
  | [], _, h => by simp [packStrs] at h; subst h; rfl
  | a :: as, xs, h => by
    unfold packStrs at h
    split at h
    · rename_i h1; cases h1
    · rename_i n as' h1
      cases h1
      obtain ⟨ys, hy, rfl⟩ := Option.map_eq_some_iff.1 h
      rw [packStrs_flat hy]
      rfl
    · cases h

theorem pack_flat (as : List AV) (o : Nat) : (pack as).flat o = as := by
  unfold pack
  split
  · split
    · rename_i h; exact (packInts_flat h).symm
    · rfl
  · split
    · rename_i h; exact (packStrs_flat h).symm
    · rfl
  · rfl

theorem packZ_simple (z : Value) (as : List AV) : (packZ z as).simple = true := by
  unfold packZ
  split
  · split <;> rfl
  · exact pack_simple _

theorem packZ_flat (z : Value) (as : List AV) (o : Nat) : (packZ z as).flat o = as := by
  unfold packZ
  split
  · split <;> rfl
  · exact pack_flat _ _

theorem winOf_spec {c d : Cont} {off len : Nat} (h : winOf c off len = some d) : c.simple = true ∧ d.simple = true ∧ ∀ o o', d.flat o' = ((c.flat o).drop off).take len := by
  cases c <;> simp only [winOf, Option.some.injEq, reduceCtorEq] at h <;> subst h <;> exact ⟨rfl, rfl, fun _ _ => by simp [Cont.flat, List.map_drop, List.map_take]⟩

theorem catOf_spec {c d e : Cont} (h : catOf c d = some e) : c.simple = true ∧ e.simple = true ∧ ∀ o, e.flat o = c.flat o ++ d.flat o := by
  unfold catOf at h
  split at h
  · cases h; exact ⟨rfl, rfl, fun _ => rfl⟩
  · split at h
    · rename_i hk; subst hk; cases h; exact ⟨rfl, rfl, fun _ => by simp [Cont.flat]⟩
    · cases h
  · cases h; exact ⟨rfl, rfl, fun _ => by simp [Cont.flat]⟩
  · cases h; exact ⟨rfl, rfl, fun _ => by simp [Cont.flat]⟩
  · cases h

theorem toList_made (z : Value) (n : Nat) : (madeCells #[z] n).toList = List.replicate n z := toList_madeCells_one z n

section
variable {P : Program} {tab : Tab} {F : Fr} {W w : World} {m : Lm} {h : Hp} {next : Nat}

theorem slRep_new (g n c : Nat) (hn : n ≤ c) (m : Lm) (o : Nat) : Rep (upd m o (some ⟨g, 0, c, []⟩)) (.sl o 0 n 1 none) (.slice (some ⟨g, 0, none⟩) n c) := by
  simp only [Rep]
  exact ⟨_, upd_same _ _ _, _, _, rfl, hn, fun _ => rfl, by simp⟩

theorem aMake_sound (ht : TabOk P tab) (hs : Sim F W m h next w) {t : TypeId} {x y : AV} {vx vy : Value} {K : AV → Hp → Nat → Prop} (hr : aMake tab h next t x y K) (hx : Rep m x vx) (hy : Rep m y vy) :
    ∃ v w', (Instr.makeSlice t vx vy).run P w = .ok v w' ∧ Acts F W m w true K v w' := by
  unfold aMake at hr
  split at hr
  · rename_i kl l kc c
    obtain ⟨e, i, hty, hi, hsz, h0, hlc, hb, h63, hr⟩ := hr
    obtain ⟨d, hd, hf⟩ := tab_ty ht hty
    simp only [Ty.fits] at hf
    subst hf
    obtain ⟨_, inf, z, _, _, hinf, hs1, hby, hz, hzc, _⟩ := ht e i hi
    simp only [Rep] at hx hy
    subst hx hy
    have hrun := run_make (P := P) (w := w) t e inf z hd hinf hz kl kc l c h0 hlc (by rw [hby]; exact hb) h63
    have go : ∀ (u : Value) (cont : Cont), i.zero = [u] → u.oneCell' = true → cont.simple = true → (∀ o, cont.flat o = List.replicate l.toNat (.val u)) → K (.sl next 0 l.toNat 1 none) (upd h next (some ⟨true, cont⟩)) (next + 1) →
        ∃ v w', (Instr.makeSlice t (.int kl l) (.int kc c)).run P w = .ok v w' ∧ Acts F W m w true K v w' := by
      intro u cont hu h1 hcs hfl hK
      rw [hu] at hzc
      have hzu : z.cells = #[u] := by apply Array.ext'; simpa using hzc
      rw [hs1, hsz, Nat.mul_one, hzu] at hrun
      refine ⟨_, _, hrun, upd m next (some ⟨w.heap.size, 0, (madeCells #[u] c.toNat).size, []⟩), _, _, _, hK, ?_, hs.alloc hcs ?_, hs.mono_next _, fun _ => grow_alloc _ _⟩
      · rw [size_madeCells]; exact slRep_new _ _ _ (by omega) _ _
      · refine ⟨by rw [hfl, List.length_replicate, size_madeCells]; omega, fun j a ha => ?_⟩
        rw [hfl, List.getElem?_replicate] at ha
        split at ha
        · cases ha
          refine ⟨u, ?_, h1, by simp [Rep]⟩
          rw [← Array.getElem?_toList, toList_made, List.getElem?_replicate, if_pos (by omega)]
        · cases ha
    split at hr
    · exact go _ _ hr.1 rfl rfl (fun _ => by simp [Cont.flat]) hr.2
    · exact go _ _ hr.1 rfl rfl (fun _ => by simp [Cont.flat]) hr.2
    · exact go _ _ hr.1 rfl rfl (fun _ => by simp [Cont.flat]) hr.2
    · exact go _ _ hr.1 rfl rfl (fun _ => by simp [Cont.flat]) hr.2
    · exact hr.elim
  · exact hr.elim

theorem fill_order {m : Lm} : ∀ (ps : List (Nat × AV)) (vs : List Value) (k : Nat) (cells : Array Value), inOrder k ps = true → RepL m (ps.map (·.2)) vs → (∀ v ∈ vs, v.oneCell' = true) → k + ps.length ≤ cells.size →
    Instr.fill (fun i => some (i * 1, 1)) cells ((ps.map (·.1)).zip vs) = some (cells.toList.take k ++ vs ++ cells.toList.drop (k + ps.length)).toArray
  | [], [], k, cells, _, _, _, _ => by simp [Instr.fill]
  | [], _ :: _, _, _, _, h, _, _ => by simp [RepL] at h
  | _ :: _, [], _, _, _, h, _, _ => by simp [RepL] at h
  | p :: ps, v :: vs, k, cells, ho, hr, h1, hk => by
    simp only [inOrder, Bool.and_eq_true, beq_iff_eq] at ho
    obtain ⟨hp, ho⟩ := ho
    simp only [List.map_cons, RepL] at hr
    simp only [List.length_cons] at hk
    have hv := h1 v (by simp)
    simp only [List.map_cons, List.zip_cons_cons, Instr.fill, hp, Nat.mul_one, one_cells hv]
    have e1 : ¬ ((decide ((#[v] : Array Value).size ≠ 1) || decide (k + (#[v] : Array Value).size > cells.size)) = true) := by simp; omega
    rw [if_neg e1]
    have := fill_order ps vs (k + 1) (cells.setIfInBounds k v) ho hr.2 (fun u hu => h1 u (by simp [hu])) (by simp; omega)
    simp only [Nat.mul_one] at this
    have e2 : (Array.foldl (fun cs x => cs.setIfInBounds (k + x.2) x.1) cells (#[v] : Array Value).zipIdx) = cells.setIfInBounds k v := by simp [Array.zipIdx]
    rw [e2, this]
    congr 2
    have hk' : k < cells.toList.length := by simp; omega
    simp only [Array.toList_setIfInBounds, List.length_cons]
    rw [List.set_eq_take_append_cons_drop, if_pos hk', List.take_append, List.drop_append]
    have e3 : (cells.toList.take k).length = k := by rw [List.length_take]; omega
    have e4 : k + 1 - k = 1 := by omega
    have e5 : k + 1 + ps.length - k = ps.length + 1 := by omega
    rw [e3, e4, e5, List.take_of_length_le (l := cells.toList.take k) (by omega), List.drop_of_length_le (l := cells.toList.take k) (by omega)]
    simp only [List.take_succ_cons, List.take_zero, List.drop_succ_cons, List.drop_drop, List.nil_append, List.append_assoc, List.cons_append]
    have e6 : k + 1 + ps.length = k + (ps.length + 1) := by omega
    rw [e6]

theorem aBuildSlice_sound (ht : TabOk P tab) (hs : Sim F W m h next w) {t : TypeId} {len : Nat} {ps : List (Nat × AV)} {vs : List Value} {K : AV → Hp → Nat → Prop} (hr : aBuildSlice tab h next t len ps K) (hp : RepL m (ps.map (·.2)) vs) :
    ∃ v w', (Instr.buildSlice t len ((ps.map (·.1)).zip vs).toArray).run P w = .ok v w' ∧ Acts F W m w true K v w' := by
  obtain ⟨e, i, z, hty, hi, hsz, hz1, rfl, hlen, ho, hc, hK⟩ := hr
  obtain ⟨d, hd, hf⟩ := tab_ty ht hty
  simp only [Ty.fits] at hf
  subst hf
  obtain ⟨_, inf, zv, _, _, hinf, hs1, hby, hz, hzc, _⟩ := ht e i hi
  rw [hz1] at hzc
  have hzu : zv.cells = #[z] := by apply Array.ext'; simpa using hzc
  have h1 : ∀ v ∈ vs, v.oneCell' = true := fun v hv => by
    obtain ⟨j, hj⟩ := List.mem_iff_getElem?.1 hv
    have hlt : j < (ps.map (·.2)).length := by rw [hp.length]; exact (List.getElem?_eq_some_iff.1 hj).1
    obtain ⟨y, hy, hrep⟩ := hp.get (List.getElem?_eq_getElem hlt)
    rw [hj] at hy
    cases hy
    exact cell_one (List.all_eq_true.1 hc _ (List.getElem_mem hlt)) hrep
  have hl : vs.length = ps.length := by have := hp.length; simpa using this.symm
  have hfill := fill_order ps vs 0 (madeCells #[z] ps.length) ho hp h1 (by simp [size_madeCells])
  simp only [List.take_zero, List.nil_append, Nat.zero_add] at hfill
  rw [List.drop_of_length_le (by simp [toList_made]), List.append_nil] at hfill
  refine ⟨.slice (some ⟨w.heap.size, 0, none⟩) ps.length ps.length, w.alloc (.cells vs.toArray e), ?_, upd m next (some ⟨w.heap.size, 0, vs.toArray.size, []⟩), _, _, _, hK, ?_, hs.alloc (packZ_simple _ _) ?_, hs.mono_next _, fun _ => grow_alloc _ _⟩
  · have n1 : ¬ (16777216 < ps.length) := by omega
    simp only [Instr.buildSlice, Sem.run_bind, run_underlying hd, Result.andThen_ok, sizeOf, typeInfo, run_program, hinf, Sem.run_pure, hs1, hsz, Nat.mul_one]
    simp only [Nat.mul_one] at hfill
    by_cases h0 : ps = []
    · subst h0
      have : vs = [] := by cases vs with | nil => rfl | cons _ _ => simp at hl
      subst this
      simp [Instr.fill, newRow]
      congr 2
      apply Array.ext'
      simp
    · have hmk : ((Array.range ps.length).map fun x => zv.cells[x % zv.cells.size]!) = madeCells #[z] ps.length := by rw [hzu]; rfl
      simp [n1, h0, zeroValue, typeInfo, hinf, hz, hmk, hfill, newRow]
  · have : vs.toArray.size = ps.length := by simpa using hl
    rw [this]
    exact slRep_new _ _ _ (Nat.le_refl _) _ _
  · refine fits_of_repL ?_ (by simpa using h1)
    rw [packZ_flat]
    simpa using hp.mono (hs.mono_next _)

theorem slRep_newE0 (g n c es : Nat) (hn : n ≤ c) (m : Lm) (o : Nat) : Rep (upd m o (some ⟨g, 0, c * es, []⟩)) (.sl o 0 n es none) (.slice (some ⟨g, 0, none⟩) n c) := by
  simp only [Rep]
  exact ⟨_, upd_same _ _ _, _, _, rfl, hn, fun _ => rfl, by simp⟩
theorem fill_two {size : Nat} {xs ys : List Value} (cells : Array Value) (hx : xs.length = size) (hy : ys.length = size) (hc : cells.size = 2 * size) : Instr.fill (fun i => some (i * size, size)) cells [(0, Value.agg xs.toArray), (1, Value.agg ys.toArray)] = some (xs ++ ys).toArray := by
  have e0 : ∀ l : List Value, (Value.agg l.toArray).cells = l.toArray := fun _ => rfl
  have hcl : cells.toList.length = 2 * size := by rw [Array.length_toList, hc]
  obtain ⟨c1, hc1⟩ : ∃ c1, c1 = (xs.zipIdx 0).foldl (fun cs (x : Value × Nat) => cs.setIfInBounds (0 * size + x.2) x.1) cells := ⟨_, rfl⟩
  have f1 : c1.toList = xs ++ cells.toList.drop size := by
    have := foldl_set xs 0 (0 * size) cells (by omega)
    rw [← hc1] at this
    simpa only [Nat.zero_mul, Nat.zero_add, List.take_zero, List.nil_append, hx] using this
  have hdl : (cells.toList.drop size).length = size := by rw [List.length_drop, hcl]; omega
  have l1 : c1.size = 2 * size := by
    rw [← Array.length_toList, f1, List.length_append, hdl, hx]; omega
  have f2 : ((ys.zipIdx 0).foldl (fun cs (x : Value × Nat) => cs.setIfInBounds (1 * size + x.2) x.1) c1).toList = xs ++ ys := by
    have := foldl_set ys 0 (1 * size) c1 (by omega)
    rw [this, f1, Nat.one_mul, Nat.add_zero, List.take_append_of_le_length (by omega), List.take_of_length_le (by omega), List.drop_of_length_le (by rw [List.length_append, hdl]; omega), List.append_nil]
  have h1 : (xs.toArray.zipIdx.foldl (fun cs (x : Value × Nat) => cs.setIfInBounds (0 * size + x.2) x.1) cells) = c1 := by rw [hc1]; simp
  have h2 : (ys.toArray.zipIdx.foldl (fun cs (x : Value × Nat) => cs.setIfInBounds (1 * size + x.2) x.1) c1).toList = xs ++ ys := by rw [← f2]; simp
  have s1 : xs.toArray.size = size := by simpa using hx
  have s2 : ys.toArray.size = size := by simpa using hy
  unfold Instr.fill
  dsimp only
  rw [e0, if_neg (show ¬ ((decide (xs.toArray.size ≠ size) || decide (0 * size + xs.toArray.size > cells.size)) = true) by rw [Bool.or_eq_true, decide_eq_true_eq, decide_eq_true_eq]; omega)]
  unfold Instr.fill
  dsimp only
  rw [e0, if_neg (show ¬ ((decide (ys.toArray.size ≠ size) || decide (1 * size + ys.toArray.size > (xs.toArray.zipIdx.foldl (fun cs (x : Value × Nat) => cs.setIfInBounds (0 * size + x.2) x.1) cells).size)) = true) by rw [h1, Bool.or_eq_true, decide_eq_true_eq, decide_eq_true_eq]; omega)]
  unfold Instr.fill
  congr 1
  apply Array.ext'
  have h3 := h2
  rw [← h1] at h3
  exact h3
theorem repL_ones {m : Lm} {as : List AV} {xs : List Value} (hxs : RepL m as xs) (hac : as.all AV.cell = true) : ∀ v ∈ xs, v.oneCell' = true := fun v hv => by
  obtain ⟨j, hj⟩ := List.mem_iff_getElem?.1 hv
  have hlt : j < as.length := by rw [hxs.length]; exact (List.getElem?_eq_some_iff.1 hj).1
  obtain ⟨y, hy, hrep⟩ := hxs.get (List.getElem?_eq_getElem hlt)
  rw [hj] at hy
  cases hy
  exact cell_one (List.all_eq_true.1 hac _ (List.getElem_mem hlt)) hrep
theorem aBuildSliceE_sound (ht : TabOk P tab) (hs : Sim F W m h next w) {t : TypeId} {len : Nat} {ps : List (Nat × AV)} {vs : List Value} {K : AV → Hp → Nat → Prop} (hr : aBuildSliceE tab h next t len ps K) (hp : RepL m (ps.map (·.2)) vs) :
    ∃ v w', (Instr.buildSlice t len ((ps.map (·.1)).zip vs).toArray).run P w = .ok v w' ∧ Acts F W m w true K v w' := by
  obtain ⟨e, i, z, zs, hty, hi, hz1, hzl, hbig, hr⟩ := hr
  obtain ⟨d, hd, hf⟩ := tab_ty ht hty
  simp only [Ty.fits] at hf
  subst hf
  obtain ⟨_, inf, zv, _, _, hinf, hs1, hby, hz, hzc, _⟩ := ht e i hi
  have hes : 0 < i.size := by rw [← hzl, hz1]; simp
  split at hr
  · obtain ⟨rfl, hK⟩ := hr
    have : vs = [] := by cases vs with | nil => rfl | cons _ _ => simp [RepL] at hp
    subst this
    refine ⟨.slice (some ⟨w.heap.size, 0, none⟩) 0 0, w.alloc (.cells (#[] : Array Value) e), ?_, upd m next (some ⟨w.heap.size, 0, (#[] : Array Value).size, []⟩), _, _, _, hK, ?_, hs.alloc (packZ_simple _ _) ?_, hs.mono_next _, fun _ => grow_alloc _ _⟩
    · simp [Instr.buildSlice, run_underlying hd, sizeOf, typeInfo, hinf, Instr.fill, newRow]
      congr 2
      apply Array.ext'
      simp
    · have := slRep_newE0 w.heap.size 0 0 i.size (Nat.le_refl _) m next
      simpa using this
    · refine fits_of_repL ?_ (by simp)
      rw [packZ_flat]
      simp [RepL]
  · rename_i p
    split at hr
    · rename_i as hp2
      obtain ⟨hp1, rfl, hal, hac, hK⟩ := hr
      simp only [List.map_cons, List.map_nil, hp2] at hp
      obtain ⟨v, rfl⟩ : ∃ v, vs = [v] := by
        cases vs with
        | nil => simp [RepL] at hp
        | cons v vs => cases vs with
          | nil => exact ⟨v, rfl⟩
          | cons _ _ => simp [RepL] at hp
      simp only [RepL, and_true, Rep] at hp
      obtain ⟨xs, rfl, hxs⟩ := hp
      have hxl : xs.length = i.size := by rw [← hxs.length, hal]
      have h1 : ∀ v ∈ xs, v.oneCell' = true := fun v hv => by
        obtain ⟨j, hj⟩ := List.mem_iff_getElem?.1 hv
        have hlt : j < as.length := by rw [hxs.length]; exact (List.getElem?_eq_some_iff.1 hj).1
        obtain ⟨y, hy, hrep⟩ := hxs.get (List.getElem?_eq_getElem hlt)
        rw [hj] at hy
        cases hy
        exact cell_one (List.all_eq_true.1 hac _ (List.getElem_mem hlt)) hrep
      refine ⟨.slice (some ⟨w.heap.size, 0, none⟩) 1 1, w.alloc (.cells xs.toArray e), ?_, upd m next (some ⟨w.heap.size, 0, xs.toArray.size, []⟩), _, _, _, hK, ?_, hs.alloc (packZ_simple _ _) ?_, hs.mono_next _, fun _ => grow_alloc _ _⟩
      · have n1 : ¬ (16777216 < 1 * inf.size) := by omega
        have n2 : ¬ (1 * inf.size = 0) := by omega
        have hfill : ∀ cells : Array Value, cells.size = 1 * inf.size → Instr.fill (fun i => some (i * inf.size, inf.size)) cells [(0, Value.agg xs.toArray)] = some xs.toArray := fun cells hc => by
          have e0 : (Value.agg xs.toArray).cells = xs.toArray := rfl
          simp only [Instr.fill, e0]
          split
          · rename_i hbad
            exfalso
            revert hbad
            simp
            omega
          congr 1
          apply Array.ext'
          have := foldl_set xs 0 (0 * inf.size) cells (by omega)
          simp only [Nat.zero_mul, Nat.zero_add, List.take_zero, List.nil_append] at this
          rw [List.drop_of_length_le (by simp only [Array.length_toList]; omega), List.append_nil] at this
          simpa using this
        simp only [Instr.buildSlice, Sem.run_bind, run_underlying hd, Result.andThen_ok, sizeOf, typeInfo, run_program, hinf, Sem.run_pure]
        simp [n1, n2, zeroValue, typeInfo, hinf, hz, hp1, newRow]
        have m1 : ¬ (16777216 < inf.size) := by omega
        have m2 : ¬ (inf.size = 0) := by omega
        rw [if_neg m1, if_neg m2]
        have hf2 := fun cells hc => hfill cells (by rw [Nat.one_mul]; exact hc)
        simp [hf2]
      · have := slRep_newE0 w.heap.size 1 1 i.size (Nat.le_refl _) m next
        rw [Nat.one_mul] at this
        have e1 : xs.toArray.size = i.size := by simpa using hxl
        rw [e1]; exact this
      · refine fits_of_repL ?_ (by simpa using h1)
        rw [packZ_flat]
        simpa using hxs.mono (hs.mono_next _)
    · exact hr.elim
  · rename_i p q
    split at hr
    · rename_i as hp2
      split at hr
      · rename_i bs hq2
        obtain ⟨hp1, hq1, rfl, hal, hbl, hac, hbc, hsz, hK⟩ := hr
        simp only [List.map_cons, List.map_nil, hp2, hq2] at hp
        obtain ⟨v, v2, rfl⟩ : ∃ v v2, vs = [v, v2] := by
          cases vs with
          | nil => simp [RepL] at hp
          | cons v vs => cases vs with
            | nil => simp [RepL] at hp
            | cons v2 vs => cases vs with
              | nil => exact ⟨v, v2, rfl⟩
              | cons _ _ => simp [RepL] at hp
        simp only [RepL, and_true, Rep] at hp
        obtain ⟨⟨xs, rfl, hxs⟩, ys, rfl, hys⟩ := hp
        have hxl : xs.length = i.size := by rw [← hxs.length, hal]
        have hyl : ys.length = i.size := by rw [← hys.length, hbl]
        have h1 := repL_ones hxs hac
        have h2 := repL_ones hys hbc
        refine ⟨.slice (some ⟨w.heap.size, 0, none⟩) 2 2, w.alloc (.cells (xs ++ ys).toArray e), ?_, upd m next (some ⟨w.heap.size, 0, (xs ++ ys).toArray.size, []⟩), _, _, _, hK, ?_, hs.alloc (packZ_simple _ _) ?_, hs.mono_next _, fun _ => grow_alloc _ _⟩
        · have n1 : ¬ (16777216 < 2 * inf.size) := by omega
          have n2 : ¬ (2 * inf.size = 0) := by omega
          have hf2 := fun (cells : Array Value) (hc : cells.size = 2 * inf.size) => fill_two cells (by rw [hs1]; exact hxl) (by rw [hs1]; exact hyl) hc
          simp only [Instr.buildSlice, Sem.run_bind, run_underlying hd, Result.andThen_ok, sizeOf, typeInfo, run_program, hinf, Sem.run_pure]
          simp [n1, n2, zeroValue, typeInfo, hinf, hz, hp1, hq1, newRow, hf2]
        · have := slRep_newE0 w.heap.size 2 2 i.size (Nat.le_refl _) m next
          have e1 : (xs ++ ys).toArray.size = 2 * i.size := by simp only [List.size_toArray, List.length_append]; omega
          rw [e1]; exact this
        · refine fits_of_repL ?_ (fun v hv => ?_)
          · rw [packZ_flat]
            simpa using (repL_append hxs hys).mono (hs.mono_next _)
          · rcases List.mem_append.1 (by simpa using hv) with hv | hv
            · exact h1 v hv
            · exact h2 v hv
      · exact hr.elim
    · exact hr.elim
  · exact hr.elim

theorem Sim.readWin (hs : Sim F W m h next w) {p off k : Nat} {ob : Ob} {l : Loc} (hp : h p = some ob) (hl : m p = some l) (hk : off + k ≤ (ob.cont.flat p).length) :
    ∃ news : List Value, news.length = k ∧ (∀ (j : Nat) (v : Value), news[j]? = some v → ∀ w', Grow w w' → w'.cell? ⟨l.blk, l.base + (off + j), none⟩ = some v) ∧ RepL m (((ob.cont.flat p).drop off).take k) news ∧ ∀ v ∈ news, v.oneCell' = true := by
  let g : Nat → Value := fun j => (w.cell? ⟨l.blk, l.base + (off + j), none⟩).getD undef
  have hg : ∀ j, j < k → ∃ a, (ob.cont.flat p)[off + j]? = some a ∧ Rep m a (g j) ∧ (g j).oneCell' = true ∧ ∀ w', Grow w w' → w'.cell? ⟨l.blk, l.base + (off + j), none⟩ = some (g j) := fun j hj => by
    have hlt : off + j < (ob.cont.flat p).length := by omega
    obtain ⟨l2, v, hl2, hrep, h1, hv⟩ := hs.read hp (List.getElem?_eq_getElem hlt)
    have : l2 = l := Option.some.inj (hl2.symm.trans hl)
    subst this
    have h0 := hv w (Grow.refl w)
    have hgv : g j = v := by show (w.cell? ⟨l2.blk, l2.base + (off + j), none⟩).getD undef = v; rw [h0]; rfl
    exact ⟨_, List.getElem?_eq_getElem hlt, hgv ▸ hrep, hgv ▸ h1, fun w' hw => by rw [hgv]; exact hv w' hw⟩
  refine ⟨(List.range k).map g, by simp, fun j v hj w' hw => ?_, RepL.of_get (by simp; omega) fun j a x h1 h2 => ?_, fun v hv => ?_⟩
  · have hjk : j < k := by have := (List.getElem?_eq_some_iff.1 hj).1; simpa using this
    simp [hjk] at hj
    subst hj
    exact (hg j hjk).choose_spec.2.2.2 w' hw
  · have hjk : j < k := by have := (List.getElem?_eq_some_iff.1 h2).1; simpa using this
    simp only [List.getElem?_take, hjk, if_true, List.getElem?_drop] at h1
    simp [hjk] at h2
    obtain ⟨b, hb, hrep, _⟩ := hg j hjk
    rw [hb] at h1
    cases h1
    subst h2
    exact hrep
  · obtain ⟨j, hj, rfl⟩ := List.mem_map.1 hv
    exact (hg j (List.mem_range.1 hj)).choose_spec.2.2.1

theorem run_append_zero {t ty e : TypeId} {inf : TypeInfo} (hd : P.underlying t = some (.slice e)) (hinf : P.info? e = some inf) (a ax : Option Addr) (len c cx : Nat) (hle : len ≤ c) (w : World) :
    (Builtin.append_ #[t, t] ty #[.slice a len c, .slice ax 0 cx]).run P w = .ok (.slice a len c) w := by
  cases a <;> cases ax <;> simp [Builtin.append_, run_underlying hd, sizeOf, typeInfo, hinf, Builtin.lenOf, hle, Builtin.firstCells, loadCells, loadCellsFrom, storeCells]

theorem repL_fits {m : Lm} {o : Nat} {c : Cont} {xs : List Value} {vs : Array Value} (h : RepL m (c.flat o) xs) (h1 : ∀ u ∈ xs, u.oneCell' = true) (hle : xs.length ≤ vs.size) (hv : ∀ i, i < xs.length → vs[i]? = xs[i]?) : Fits m o c vs := by
  refine ⟨by rw [h.length]; exact hle, fun i a ha => ?_⟩
  obtain ⟨x, hx, hr⟩ := h.get ha
  have hlt := (List.getElem?_eq_some_iff.1 hx).1
  exact ⟨x, by rw [hv i hlt]; exact hx, h1 x (List.mem_of_getElem? hx), hr⟩

theorem grow_drew_alloc (w : World) (o : Obj) : Grow w (w.drew.alloc o) := (Below.refl _ _).drew.alloc (Nat.le_refl _) o

theorem Sim.readWinIn (hs : Sim F W m h next w) {p i off k : Nat} {r : Bool} {ik : IntKind} {xss : List (List Int)} {hole : Option Nat} {l : Loc} {li : In} (hp : h p = some ⟨r, .rows ik xss hole⟩) (hl : m p = some l) (hli : l.inner[i]? = some li) (hi : i < xss.length) (hh : hole ≠ some i) (hk : off + k ≤ (xss.getD i []).length) :
    ∀ (j : Nat) (v : Value), (((((xss.getD i []).drop off).take k).map fun n => Value.int ik n))[j]? = some v → ∀ w', Grow w w' → w'.cell? ⟨li.blk, li.base + (off + j), none⟩ = some v := fun j v hj w' hw => by
  have e1 : xss[i]? = some (xss.getD i []) := by simp [List.getElem?_eq_getElem hi, List.getD_eq_getElem?_getD]
  simp only [List.getElem?_map, Option.map_eq_some_iff, List.getElem?_take, List.getElem?_drop] at hj
  obtain ⟨n, hn, rfl⟩ := hj
  split at hn
  · obtain ⟨l2, li2, hl2, hli2, hc⟩ := hs.readIn hp e1 hh hn
    have : l2 = l := Option.some.inj (hl2.symm.trans hl)
    subst this
    have : li2 = li := Option.some.inj (hli2.symm.trans hli)
    subst this
    exact hc w' hw
  · cases hn

/-- What is put behind, in a world. -/
theorem aSrc_sound (hs : Sim F W m h next w) {x : AV} {vx : Value} {k : Nat} {d : Cont} (hr : aSrc h x k d) (hvx : Rep m x vx) :
    d.simple = true ∧ ∃ (ax : Option Addr) (cx : Nat) (A : Addr) (news : List Value), vx = .slice ax k cx ∧ (0 < k → ax = some A) ∧ news.length = k ∧ (∀ (w' : World), Grow w w' → ∀ (j : Nat) (v : Value), news[j]? = some v → w'.cell? (A.add j) = some v) ∧ (∀ o, RepL m (d.flat o) news) ∧ ∀ v ∈ news, v.oneCell' = true := by
  rcases hr with ⟨p, off, lim, ob2, rfl, hp, hwin, hk⟩ | ⟨p, i, off, lim, r, ik, xss, hole, rfl, hp, hi, hh, hk, rfl⟩ | ⟨rfl, rfl, hds, hd0⟩
  · obtain ⟨_, hds, hdf⟩ := winOf_spec hwin
    simp only [Rep] at hvx
    obtain ⟨lp, hlp, ax, cx, rfl, hkx, hax, _⟩ := hvx
    obtain ⟨news, hnl, hnews, hnrep, hn1⟩ := hs.readWin hp hlp hk
    refine ⟨hds, ax, cx, ⟨lp.blk, lp.base + off, none⟩, news, rfl, fun h0 => by have := hax (by omega); simpa using this, hnl, fun w' hw j v hj => by rw [addr_add, Nat.add_assoc]; exact hnews j v hj w' hw, fun o => by rw [hdf p o]; exact hnrep, hn1⟩
  · simp only [Rep] at hvx
    obtain ⟨lp, li, hlp, hli, ax, cx, rfl, hkx, hax, _⟩ := hvx
    have hlen : (((xss.getD i []).drop off).take k).length = k := by rw [List.length_take, List.length_drop]; omega
    refine ⟨rfl, ax, cx, ⟨li.blk, li.base + off, none⟩, (((xss.getD i []).drop off).take k).map fun n => Value.int ik n, rfl, fun h0 => by have := hax (by omega); simpa using this, by rw [List.length_map, hlen], fun w' hw j v hj => by rw [addr_add, Nat.add_assoc]; exact hs.readWinIn hp hlp hli hi hh hk j v hj w' hw, fun o => ?_, fun v hv => ?_⟩
    · simp only [Cont.flat]
      have := repL_vals (m := m) ((((xss.getD i []).drop off).take k).map fun n => Value.int ik n)
      rw [List.map_map] at this
      exact this
    · obtain ⟨n, _, rfl⟩ := List.mem_map.1 hv; rfl
  · simp only [Rep] at hvx
    subst hvx
    refine ⟨hds, none, 0, ⟨0, 0, none⟩, [], rfl, fun h => by omega, rfl, fun _ _ j v hj => by simp at hj, fun o => ?_, fun v hv => by simp at hv⟩
    have : d.flat o = [] := by rw [flat_any hds o 0]; exact List.eq_nil_of_length_eq_zero hd0
    rw [this]; simp [RepL]

theorem aAppend2_sound (ht : TabOk P tab) (hs : Sim F W m h next w) {t ty : TypeId} {s x : AV} {vs vx : Value} {K : AV → Hp → Nat → Prop} (hr : aAppend2 tab h next t s x K) (hvs : Rep m s vs) (hvx : Rep m x vx) :
    ∃ v w', (Builtin.append_ #[t, t] ty #[vs, vx]).run P w = .ok v w' ∧ Acts F W m w false K v w' := by
  obtain ⟨e, i, z, k, d, hty, hi, hsz, hz1, hsrc, hcase⟩ := hr
  obtain ⟨dd, hd, hf⟩ := tab_ty ht hty
  simp only [Ty.fits] at hf
  subst hf
  obtain ⟨_, inf, zv, _, _, hinf, hs1, hby, hz, hzc, _⟩ := ht e i hi
  rw [hz1] at hzc
  have hzu : zv.cells = #[z] := by apply Array.ext'; simpa using hzc
  have hsz1 : inf.size = 1 := hs1.trans hsz
  obtain ⟨hds, ax, cx, A, news, rfl, haddr, hnl, hcellN, hnrep, hn1⟩ := aSrc_sound hs hsrc hvx
  have hsize : ∀ n : Nat, (Builtin.zeroCells zv.cells n).size = n := fun n => by simp [Builtin.zeroCells, hzu]
  rcases hcase with ⟨rfl, hk63, hbyte, hK⟩ | ⟨o, len, ob, c0, c', rfl, hob, hrw, hlen, hwin0, hcat, hk63, hbyte, hK⟩
  · -- onto nil
    simp only [Rep] at hvs
    subst hvs
    by_cases h0 : k = 0
    · subst h0
      refine ⟨.slice none 0 0, w, run_append_zero hd hinf none ax 0 0 cx (Nat.le_refl _) w, upd m next (some ⟨0, 0, 0, []⟩), _, _, _, hK, ?_, ?_, hs.mono_next _, fun h => by cases h⟩
      · simp only [Rep]; exact ⟨_, upd_same _ _ _, none, 0, rfl, Nat.le_refl _, fun h => absurd rfl h, rfl⟩
      · have hfl : d.flat next = [] := List.eq_nil_of_length_eq_zero (by rw [(hnrep next).length, hnl])
        exact hs.add [] rfl rfl rfl (Nat.le_refl _) (fun _ _ _ => rfl) (by simp) (by simp) ⟨0, 0, 0, []⟩ ⟨true, d⟩ rfl (by simp [blks_simple hds]) (by simp [blks_simple hds]) (by simp [blks_simple hds]) (by simp [hfl])
          ⟨fun j a hj => (by rw [hfl] at hj; simp at hj), by cases d <;> simp [Cont.simple] at hds <;> trivial⟩ ⟨rfl, fun h => absurd rfl h, by cases d <;> simp [Cont.simple] at hds <;> trivial⟩
    · have h0' : 0 < k := by omega
      rw [haddr h0']
      have hrun := run_append_nil (P := P) w t ty e inf zv hd hinf hz A k cx news (by rw [hnl, hsz1, Nat.mul_one]) (hcellN w (Grow.refl w)) h0' (by omega) (by rw [hby]; omega)
      have hge := grownCap_ge w k 0 e
      have hvsz : (news.toArray ++ Builtin.zeroCells zv.cells (grownCap w k 0 e - k)).size = grownCap w k 0 e := by rw [Array.size_append, hsize]; simp; omega
      refine ⟨_, _, hrun, upd m next (some ⟨w.heap.size, 0, (news.toArray ++ Builtin.zeroCells zv.cells (grownCap w k 0 e - k)).size, []⟩), _, _, _, hK, ?_, ?_, hs.mono_next _, fun h => by cases h⟩
      · rw [hvsz]; exact slRep_new _ _ _ hge _ _
      · refine hs.newBlk (w' := w.drew.alloc _) rfl rfl rfl (by simp) (fun k hk => heap_alloc_old w.drew _ k hk) (heap_alloc_new w.drew _) hds ?_
        refine repL_fits (xs := news) ((hnrep next).mono (hs.mono_next _)) hn1 (by rw [hvsz]; omega) fun j hj => ?_
        rw [Array.getElem?_append_left (by simpa using hj)]
        simp
  · -- onto a row of one's own
    obtain ⟨hcs, hcs', hcf⟩ := catOf_spec hcat
    simp only [Rep] at hvs
    obtain ⟨l, hl, a, c, rfl, hlc, ha, hcap⟩ := hvs
    simp only [Nat.zero_add, Nat.mul_one, Nat.add_zero] at hcap ha
    obtain ⟨l', hl', hok⟩ := hs.obj o ob hob
    have : l' = l := Option.some.inj (hl'.symm.trans hl)
    subst this
    obtain ⟨hb0, hopn, _⟩ := hok.opn hrw
    have hdrop : Sim F W m (upd h o none) next w := hs.drop fun o1 ob1 h1 => by
      by_cases e1 : o1 = o
      · subst e1; simp at h1
      · rwa [upd_ne _ _ e1] at h1
    have hfar : ∀ o1 ob1 l1, upd h o none o1 = some ob1 → m o1 = some l1 → ∀ b ∈ blks l1 ob1.cont, b ∉ blks l' ob.cont := fun o1 ob1 l1 h1 h2 b hb => by
      by_cases e1 : o1 = o
      · subst e1; simp at h1
      · rw [upd_ne _ _ e1] at h1
        exact hs.apart (Ne.symm e1) hob hrw hl h1 h2 hb
    obtain ⟨olds, hol, holds, horep, ho1⟩ := hs.readWin (off := 0) (k := len) hob hl (by omega)
    simp only [List.drop_zero] at horep
    obtain ⟨hcso, _, hc0f⟩ := winOf_spec hwin0
    have hcellO : ∀ w', Grow w w' → ∀ (j : Nat) (v : Value), olds[j]? = some v → w'.cell? ⟨l'.blk, j, none⟩ = some v := fun w' hw j v hj => by
      have := holds j v hj w' hw
      rwa [hb0, Nat.zero_add, Nat.zero_add] at this
    have hall : RepL m (c'.flat next) (olds ++ news) := by
      rw [hcf next, hc0f o next, List.drop_zero]
      exact repL_append horep (hnrep next)
    have hall1 : ∀ u ∈ olds ++ news, u.oneCell' = true := fun u hu => by
      rcases List.mem_append.1 hu with h1 | h1
      · exact ho1 u h1
      · exact hn1 u h1
    have hlen2 : (olds ++ news).length = len + k := by rw [List.length_append, hol, hnl]
    -- what the old block holds
    have hcurO : l'.capc ≠ 0 → ∃ cur e', w.heap[l'.blk]? = some (.cells cur e' (0, 0)) ∧ cur.size = l'.capc ∧ ∀ j, j < len → cur[j]? = olds[j]? := fun hc0 => by
      obtain ⟨cur, e', hcur, hcz⟩ := hopn hc0
      refine ⟨cur, e', hcur, hcz, fun j hj => ?_⟩
      have hj' : j < olds.length := by omega
      have h1 := hcellO w (Grow.refl w) j _ (List.getElem?_eq_getElem hj')
      rw [cell_of_row w l'.blk j cur e' (0, 0) hcur] at h1
      rw [h1, List.getElem?_eq_getElem hj']
    -- the object in the old block
    have stay : ∀ (w' : World) (cur' : Array Value) (e' : TypeId), w'.os = w.os → w'.tape = w.tape → w'.output = w.output → w'.heap.size = w.heap.size → (∀ b, (b ≠ l'.blk ∨ l'.capc = 0) → w'.heap[b]? = w.heap[b]?) → (l'.capc ≠ 0 → w'.heap[l'.blk]? = some (.cells cur' e' (0, 0))) → cur'.size = l'.capc →
        len + k ≤ l'.capc → (∀ j, j < len + k → cur'[j]? = (olds ++ news)[j]?) → Sim F W (upd m next (some l')) (upd (upd h o none) next (some ⟨true, c'⟩)) (next + 1) w' := by
      intro w' cur' e' q1 q2 q3 q4 q5 q6 q7 q8 q9
      have hbl : blks l' c' = blks l' ob.cont := by rw [blks_simple hcs', blks_simple hcso]
      have hfit : Fits (upd m next (some l')) next c' cur' := repL_fits (hall.mono (hs.mono_next _)) hall1 (by omega) fun j hj => q9 j (by omega)
      refine hdrop.add (blks l' ob.cont) q1 q2 q3 (by omega) (fun b _ hb => ?_) (fun b hb => ⟨hok.mine hrw b hb, hok.np b hb⟩) hfar l' ⟨true, c'⟩ rfl (fun b hb => .inl (hbl ▸ hb)) (hbl ▸ hok.nodup hrw) (fun b hb => by rw [q4]; exact hok.lt b (hbl ▸ hb)) (by rw [← q7]; exact hfit.1) ?_ ?_
      · by_cases hc0 : l'.capc = 0
        · exact q5 b (.inr hc0)
        · exact q5 b (.inl fun e1 => hb (e1 ▸ blk_mem hc0))
      · by_cases hc0 : l'.capc = 0
        · refine ⟨fun j x hj => ?_, by cases c' <;> simp [Cont.simple] at hcs' <;> trivial⟩
          have h1 : j < (c'.flat next).length := (List.getElem?_eq_some_iff.1 hj).1
          have h2 := hfit.1
          omega
        · exact cellsAt_simple hcs' hb0 (q6 hc0) hfit
      · by_cases hc0 : l'.capc = 0
        · exact ⟨hb0, fun h => absurd hc0 h, by cases c' <;> simp [Cont.simple] at hcs' <;> trivial⟩
        · exact open_simple hcs' hb0 (q6 hc0) q7
    by_cases h0 : k = 0
    · subst h0
      have hn0 : news = [] := List.eq_nil_of_length_eq_zero hnl
      refine ⟨.slice a len c, w, run_append_zero hd hinf a ax len c cx hlc w, upd m next (some l'), _, _, _, hK, ?_, ?_, hs.mono_next _, fun h => by cases h⟩
      · simp only [Rep]
        exact ⟨_, upd_same _ _ _, a, c, rfl, by omega, fun h => by simpa using ha h, by simpa using hcap⟩
      · by_cases hc0 : l'.capc = 0
        · exact stay w #[] e rfl rfl rfl rfl (fun _ _ => rfl) (fun h => absurd hc0 h) (by simp [hc0]) (by omega) (fun j hj => by omega)
        · obtain ⟨cur, e', hcur, hcz, hj⟩ := hcurO hc0
          exact stay w cur e' rfl rfl rfl rfl (fun _ _ => rfl) (fun _ => hcur) hcz (by omega) (fun j h => by rw [hn0, List.append_nil]; exact hj j (by omega))
    · have h0' : 0 < k := by omega
      rw [haddr h0']
      by_cases hroom : len + k ≤ c
      · have hc0 : c ≠ 0 := by omega
        obtain ⟨cur, e', hcur, hcz, hj⟩ := hcurO (by omega)
        rw [ha hc0, hb0]
        have hcur' : w.heap[l'.blk]? = some (.cells cur e' (0, 0)) := hcur
        have hst := run_storeCells_at P l'.blk len e' news 0 cur w hcur (by omega) hn1
        have hf := run_firstCells_some (P := P) (w := w) inf.size k A k cx news (by rw [hnl, hsz1, Nat.mul_one]) (hcellN w (Grow.refl w))
        simp only [Nat.add_zero] at hst
        have hrun : (Builtin.append_ #[t, t] ty #[.slice (some ⟨l'.blk, 0, none⟩) len c, .slice (some A) k cx]).run P w =
            .ok (.slice (some ⟨l'.blk, 0, none⟩) (len + k) c) (w.setRow l'.blk (cur.toList.take len ++ news ++ cur.toList.drop (len + news.length)).toArray) := by
          rw [hsz1] at hf
          simp [Builtin.append_, run_underlying hd, sizeOf, typeInfo, hinf, Builtin.lenOf, hroom, hsz1, hf, addr_add, hst]
        have hsz2 : (cur.toList.take len ++ news ++ cur.toList.drop (len + news.length)).toArray.size = l'.capc := by simp; omega
        refine ⟨_, _, hrun, upd m next (some l'), _, _, _, hK, ?_, ?_, hs.mono_next _, fun h => by cases h⟩
        · simp only [Rep]
          exact ⟨_, upd_same _ _ _, _, c, rfl, by omega, fun _ => by rw [hb0], by simpa using hcap⟩
        · refine stay _ _ e' rfl rfl rfl (by simp) (fun b hb => ?_) (fun _ => setRow_heap w l'.blk cur _ e' (0, 0) hcur) hsz2 (by omega) fun j hjlt => ?_
          · rcases hb with hb | hb
            · exact setRow_other w _ b _ hb
            · omega
          · simp only [List.getElem?_toArray]
            have htl : (cur.toList.take len).length = len := by simp; omega
            rw [List.getElem?_append_left (by simp; omega)]
            by_cases hjl : j < len
            · rw [List.getElem?_append_left (by omega), List.getElem?_append_left (by omega), List.getElem?_take, if_pos hjl, ← hj j hjl]
              simp
            · rw [List.getElem?_append_right (by omega), List.getElem?_append_right (by omega), htl, hol]
      · have hgrow : c < len + k := by omega
        have hfits := growslice_fits (bytes := i.bytes) hgrow hbyte
        have hge := grownCap_ge w (len + k) c e
        have hvsz : (olds.toArray ++ news.toArray ++ Builtin.zeroCells zv.cells (grownCap w (len + k) c e - (len + k))).size = grownCap w (len + k) c e := by rw [Array.size_append, hsize]; simp; omega
        have hgoal : ∀ b : Addr, a = some b ∨ (a = none ∧ len = 0) → (Builtin.append_ #[t, t] ty #[.slice a len c, .slice (some A) k cx]).run P w =
            .ok (.slice (some ⟨w.heap.size, 0, none⟩) (len + k) (grownCap w (len + k) c e)) (w.drew.alloc (.cells (olds.toArray ++ news.toArray ++ Builtin.zeroCells zv.cells (grownCap w (len + k) c e - (len + k))) e)) := by
          intro b hb
          rcases hb with rfl | ⟨rfl, rfl⟩
          · refine run_append_grow (P := P) w t ty e inf zv hd hinf hz b len c olds (by rw [hol, hsz1, Nat.mul_one]) (fun j v hj => ?_) A k cx news (by rw [hnl, hsz1, Nat.mul_one]) (hcellN w (Grow.refl w)) hgrow (by omega) (by rw [hby]; exact hfits)
            have hjlt := (List.getElem?_eq_some_iff.1 hj).1
            have := ha (by omega)
            cases this
            rw [hb0, addr_add, Nat.zero_add]
            exact hcellO w (Grow.refl w) j v hj
          · have hc0 : c = 0 := by
              by_cases hc : c = 0
              · exact hc
              · have := ha hc; cases this
            subst hc0
            have ho0 : olds = [] := List.eq_nil_of_length_eq_zero hol
            rw [ho0]
            have := run_append_nil (P := P) w t ty e inf zv hd hinf hz A k cx news (by rw [hnl, hsz1, Nat.mul_one]) (hcellN w (Grow.refl w)) h0' (by omega) (by rw [hby]; simp only [Nat.zero_add] at hbyte; omega)
            simpa using this
        have hrun := hgoal (a.getD ⟨0, 0, none⟩) (by
          cases a with
          | some b => exact .inl rfl
          | none =>
            refine .inr ⟨rfl, ?_⟩
            by_cases hc : c = 0
            · omega
            · have := ha hc; cases this)
        refine ⟨_, _, hrun, upd m next (some ⟨w.heap.size, 0, (olds.toArray ++ news.toArray ++ Builtin.zeroCells zv.cells (grownCap w (len + k) c e - (len + k))).size, []⟩), _, _, _, hK, ?_, ?_, hs.mono_next _, fun h => by cases h⟩
        · rw [hvsz]; exact slRep_new _ _ _ hge _ _
        · refine hdrop.newBlk (w' := w.drew.alloc _) rfl rfl rfl (by simp) (fun k hk => heap_alloc_old w.drew _ k hk) (heap_alloc_new w.drew _) hcs' ?_
          refine repL_fits (xs := olds ++ news) (hall.mono (hs.mono_next _)) hall1 (by rw [hvsz]; omega) fun j hj => ?_
          rw [Array.getElem?_append_left (by simpa [hol, hnl] using hj)]
          simp

theorem slRep_newE (g n c es : Nat) (hn : n ≤ c) (m : Lm) (o : Nat) : Rep (upd m o (some ⟨g, 0, c * es, []⟩)) (.sl o 0 n es none) (.slice (some ⟨g, 0, none⟩) n c) := by
  simp only [Rep]
  exact ⟨_, upd_same _ _ _, _, _, rfl, hn, fun _ => rfl, by simp⟩
theorem aMake2_sound (ht : TabOk P tab) (hs : Sim F W m h next w) {t : TypeId} {x y : AV} {vx vy : Value} {K : AV → Hp → Nat → Prop} (hr : aMake2 tab h next t x y K) (hx : Rep m x vx) (hy : Rep m y vy) :
    ∃ v w', (Instr.makeSlice t vx vy).run P w = .ok v w' ∧ Acts F W m w true K v w' := by
  unfold aMake2 at hr
  split at hr
  · rename_i kl l kc c
    obtain ⟨e, i, ik, hty, hi, hsz, hzi, h0, hlc, hb, h63, hK⟩ := hr
    obtain ⟨d, hd, hf⟩ := tab_ty ht hty
    simp only [Ty.fits] at hf
    subst hf
    obtain ⟨_, inf, z, _, _, hinf, hs1, hby, hz, hzc, _⟩ := ht e i hi
    simp only [Rep] at hx hy
    subst hx hy
    have hrun := run_make (P := P) (w := w) t e inf z hd hinf hz kl kc l c h0 hlc (by rw [hby]; exact hb) h63
    rw [hzi] at hzc
    have hzu : z.cells = #[.int ik 0, .int ik 0] := by apply Array.ext'; simpa using hzc
    rw [hs1, hsz, hzu] at hrun
    have hsz2 : (madeCells #[Value.int ik 0, .int ik 0] (c.toNat * 2)).size = c.toNat * 2 := size_madeCells _ _
    refine ⟨_, _, hrun, upd m next (some ⟨w.heap.size, 0, (madeCells #[Value.int ik 0, .int ik 0] (c.toNat * 2)).size, []⟩), _, _, _, hK, ?_, hs.alloc rfl ?_, hs.mono_next _, fun _ => grow_alloc _ _⟩
    · rw [hsz2]; exact slRep_newE0 _ _ _ _ (by omega) _ _
    · refine ⟨by simp only [Cont.flat, List.length_map, List.length_replicate, hsz2]; omega, fun j a ha => ?_⟩
      simp only [Cont.flat, List.map_replicate, List.getElem?_replicate] at ha
      split at ha
      · rename_i hj
        cases ha
        refine ⟨.int ik 0, ?_, rfl, by simp [Rep]⟩
        have hjc : j < c.toNat * 2 := by omega
        rcases Nat.mod_two_eq_zero_or_one j with hm | hm <;> simp [madeCells, hjc, hm]
      · cases ha
  · exact hr.elim
theorem aAppendE_sound (ht : TabOk P tab) (hs : Sim F W m h next w) {t ty : TypeId} {s x : AV} {vs vx : Value} {K : AV → Hp → Nat → Prop} (hr : aAppendE tab h next t s x K) (hvs : Rep m s vs) (hvx : Rep m x vx) :
    ∃ v w', (Builtin.append_ #[t, t] ty #[vs, vx]).run P w = .ok v w' ∧ Acts F W m w false K v w' := by
  obtain ⟨e, i, k, d, p, off, lim, ob2, hty, hi, hzl, rfl, hob2, hwin, hoff, hpos, hcase⟩ := hr
  obtain ⟨dd, hd, hf⟩ := tab_ty ht hty
  simp only [Ty.fits] at hf
  subst hf
  obtain ⟨_, inf, zv, _, _, hinf, hs1, hby, hz, hzc, _⟩ := ht e i hi
  have hsz1 : inf.size = i.size := hs1
  generalize hes : i.size = es at *
  have hes0 : 0 < es := by
    rcases Nat.eq_zero_or_pos es with h0 | h0
    · subst h0; omega
    · exact h0
  have hk0 : 0 < k := by
    rcases Nat.eq_zero_or_pos k with h0 | h0
    · subst h0; omega
    · exact h0
  have hzs : zv.cells.size = es := by rw [← hzl, ← hzc]; simp
  have hsize : ∀ n : Nat, (Builtin.zeroCells zv.cells n).size = n * es := fun n => by simp [Builtin.zeroCells, hzs]
  obtain ⟨lp, hlp, -⟩ := hs.obj p ob2 hob2
  obtain ⟨hds0, hds, hdf⟩ := winOf_spec hwin
  obtain ⟨news, hnl, hcellN0, hnrep0, hn1⟩ := hs.readWin (off := off) (k := k * es) hob2 hlp hoff
  have hnrep : ∀ o, RepL m (d.flat o) news := fun o => by rw [hdf p o]; exact hnrep0
  simp only [Rep] at hvx
  obtain ⟨lx, hlx, ax, cx, rfl, hkc, hax, -⟩ := hvx
  have : lx = lp := Option.some.inj (hlx.symm.trans hlp)
  subst this
  have hax := hax (by omega)
  subst hax
  have hcellN : ∀ w', Grow w w' → ∀ (j : Nat) (v : Value), news[j]? = some v → w'.cell? ((⟨lx.blk, lx.base + off, none⟩ : Addr).add j) = some v := fun w' hw j v hj => by
    have := hcellN0 j v hj w' hw
    rw [addr_add, Nat.add_assoc]; exact this
  rcases hcase with ⟨rfl, hk63, hbyte, hK⟩ | ⟨o, len, ob, c0, c', rfl, hob, hrw, hlen, hwin0, hcat, hk63, hbyte, hK⟩
  · -- onto nil
    simp only [Rep] at hvs
    subst hvs
    have hrun := run_append_nil (P := P) w t ty e inf zv hd hinf hz ⟨lx.blk, lx.base + off, none⟩ k cx news (by rw [hnl, hsz1]) (hcellN w (Grow.refl w)) hk0 (by omega) (by rw [hby]; omega)
    have hge := grownCap_ge w k 0 e
    have hmul : k * es ≤ grownCap w k 0 e * es := Nat.mul_le_mul_right _ hge
    have hvsz : (news.toArray ++ Builtin.zeroCells zv.cells (grownCap w k 0 e - k)).size = grownCap w k 0 e * es := by rw [Array.size_append, hsize, Nat.sub_mul]; simp; omega
    refine ⟨_, _, hrun, upd m next (some ⟨w.heap.size, 0, (news.toArray ++ Builtin.zeroCells zv.cells (grownCap w k 0 e - k)).size, []⟩), _, _, _, hK, ?_, ?_, hs.mono_next _, fun h => by cases h⟩
    · rw [hvsz]; exact slRep_newE _ _ _ _ hge _ _
    · refine hs.newBlk (w' := w.drew.alloc _) rfl rfl rfl (by simp) (fun k hk => heap_alloc_old w.drew _ k hk) (heap_alloc_new w.drew _) hds ?_
      refine repL_fits (xs := news) ((hnrep next).mono (hs.mono_next _)) hn1 (by rw [hvsz]; omega) fun j hj => ?_
      rw [Array.getElem?_append_left (by simpa using hj)]
      simp
  · -- onto a row of one's own
    obtain ⟨hcs, hcs', hcf⟩ := catOf_spec hcat
    simp only [Rep] at hvs
    obtain ⟨l, hl, a, c, rfl, hlc, ha, hcap⟩ := hvs
    simp only [Nat.zero_add, Nat.add_zero] at hcap ha
    obtain ⟨l', hl', hok⟩ := hs.obj o ob hob
    have : l' = l := Option.some.inj (hl'.symm.trans hl)
    subst this
    obtain ⟨hb0, hopn, _⟩ := hok.opn hrw
    have hdrop : Sim F W m (upd h o none) next w := hs.drop fun o1 ob1 h1 => by
      by_cases e1 : o1 = o
      · subst e1; simp at h1
      · rwa [upd_ne _ _ e1] at h1
    have hfar : ∀ o1 ob1 l1, upd h o none o1 = some ob1 → m o1 = some l1 → ∀ b ∈ blks l1 ob1.cont, b ∉ blks l' ob.cont := fun o1 ob1 l1 h1 h2 b hb => by
      by_cases e1 : o1 = o
      · subst e1; simp at h1
      · rw [upd_ne _ _ e1] at h1
        exact hs.apart (Ne.symm e1) hob hrw hl h1 h2 hb
    obtain ⟨olds, hol, holds, horep, ho1⟩ := hs.readWin (off := 0) (k := len * es) hob hl (by omega)
    simp only [List.drop_zero] at horep
    obtain ⟨hcso, _, hc0f⟩ := winOf_spec hwin0
    have hcellO : ∀ w', Grow w w' → ∀ (j : Nat) (v : Value), olds[j]? = some v → w'.cell? ⟨l'.blk, j, none⟩ = some v := fun w' hw j v hj => by
      have := holds j v hj w' hw
      rwa [hb0, Nat.zero_add, Nat.zero_add] at this
    have hall : RepL m (c'.flat next) (olds ++ news) := by
      rw [hcf next, hc0f o next, List.drop_zero]
      exact repL_append horep (hnrep next)
    have hall1 : ∀ u ∈ olds ++ news, u.oneCell' = true := fun u hu => by
      rcases List.mem_append.1 hu with h1 | h1
      · exact ho1 u h1
      · exact hn1 u h1
    have hlen2 : (olds ++ news).length = (len + k) * es := by rw [List.length_append, hol, hnl, Nat.add_mul]
    -- what the old block holds
    have hcurO : l'.capc ≠ 0 → ∃ cur e', w.heap[l'.blk]? = some (.cells cur e' (0, 0)) ∧ cur.size = l'.capc ∧ ∀ j, j < len * es → cur[j]? = olds[j]? := fun hc0 => by
      obtain ⟨cur, e', hcur, hcz⟩ := hopn hc0
      refine ⟨cur, e', hcur, hcz, fun j hj => ?_⟩
      have hj' : j < olds.length := by omega
      have h1 := hcellO w (Grow.refl w) j _ (List.getElem?_eq_getElem hj')
      rw [cell_of_row w l'.blk j cur e' (0, 0) hcur] at h1
      rw [h1, List.getElem?_eq_getElem hj']
    -- the object in the old block
    have stay : ∀ (w' : World) (cur' : Array Value) (e' : TypeId), w'.os = w.os → w'.tape = w.tape → w'.output = w.output → w'.heap.size = w.heap.size → (∀ b, (b ≠ l'.blk ∨ l'.capc = 0) → w'.heap[b]? = w.heap[b]?) → (l'.capc ≠ 0 → w'.heap[l'.blk]? = some (.cells cur' e' (0, 0))) → cur'.size = l'.capc →
        (len + k) * es ≤ l'.capc → (∀ j, j < (len + k) * es → cur'[j]? = (olds ++ news)[j]?) → Sim F W (upd m next (some l')) (upd (upd h o none) next (some ⟨true, c'⟩)) (next + 1) w' := by
      intro w' cur' e' q1 q2 q3 q4 q5 q6 q7 q8 q9
      have hbl : blks l' c' = blks l' ob.cont := by rw [blks_simple hcs', blks_simple hcso]
      have hfit : Fits (upd m next (some l')) next c' cur' := repL_fits (hall.mono (hs.mono_next _)) hall1 (by omega) fun j hj => q9 j (by omega)
      refine hdrop.add (blks l' ob.cont) q1 q2 q3 (by omega) (fun b _ hb => ?_) (fun b hb => ⟨hok.mine hrw b hb, hok.np b hb⟩) hfar l' ⟨true, c'⟩ rfl (fun b hb => .inl (hbl ▸ hb)) (hbl ▸ hok.nodup hrw) (fun b hb => by rw [q4]; exact hok.lt b (hbl ▸ hb)) (by rw [← q7]; exact hfit.1) ?_ ?_
      · by_cases hc0 : l'.capc = 0
        · exact q5 b (.inr hc0)
        · exact q5 b (.inl fun e1 => hb (e1 ▸ blk_mem hc0))
      · by_cases hc0 : l'.capc = 0
        · refine ⟨fun j x hj => ?_, by cases c' <;> simp [Cont.simple] at hcs' <;> trivial⟩
          have h1 : j < (c'.flat next).length := (List.getElem?_eq_some_iff.1 hj).1
          have h2 := hfit.1
          omega
        · exact cellsAt_simple hcs' hb0 (q6 hc0) hfit
      · by_cases hc0 : l'.capc = 0
        · exact ⟨hb0, fun h => absurd hc0 h, by cases c' <;> simp [Cont.simple] at hcs' <;> trivial⟩
        · exact open_simple hcs' hb0 (q6 hc0) q7
    have h0' : 0 < k := hk0
    have hmadd : (len + k) * es = len * es + k * es := Nat.add_mul _ _ _
    by_cases hroom : len + k ≤ c
    · have hc0 : c ≠ 0 := by omega
      have hcpos : 0 < c * es := Nat.mul_pos (by omega) hes0
      have hle1 : (len + k) * es ≤ c * es := Nat.mul_le_mul_right _ hroom
      obtain ⟨cur, e', hcur, hcz, hj⟩ := hcurO (by omega)
      rw [ha hc0, hb0]
      have hcur' : w.heap[l'.blk]? = some (.cells cur e' (0, 0)) := hcur
      have hst := run_storeCells_at P l'.blk (len * es) e' news 0 cur w hcur (by omega) hn1
      have hf := run_firstCells_some (P := P) (w := w) inf.size k ⟨lx.blk, lx.base + off, none⟩ k cx news (by rw [hnl, hsz1]) (hcellN w (Grow.refl w))
      simp only [Nat.add_zero] at hst
      have hrun : (Builtin.append_ #[t, t] ty #[.slice (some ⟨l'.blk, 0, none⟩) len c, .slice (some ⟨lx.blk, lx.base + off, none⟩) k cx]).run P w =
          .ok (.slice (some ⟨l'.blk, 0, none⟩) (len + k) c) (w.setRow l'.blk (cur.toList.take (len * es) ++ news ++ cur.toList.drop (len * es + news.length)).toArray) := by
        rw [hsz1] at hf
        simp [Builtin.append_, run_underlying hd, sizeOf, typeInfo, hinf, Builtin.lenOf, hroom, hsz1, hf, addr_add, hst]
      have hsz2 : (cur.toList.take (len * es) ++ news ++ cur.toList.drop (len * es + news.length)).toArray.size = l'.capc := by simp; omega
      refine ⟨_, _, hrun, upd m next (some l'), _, _, _, hK, ?_, ?_, hs.mono_next _, fun h => by cases h⟩
      · simp only [Rep]
        exact ⟨_, upd_same _ _ _, _, c, rfl, by omega, fun _ => by rw [hb0], by simpa using hcap⟩
      · refine stay _ _ e' rfl rfl rfl (by simp) (fun b hb => ?_) (fun _ => setRow_heap w l'.blk cur _ e' (0, 0) hcur) hsz2 (by omega) fun j hjlt => ?_
        · rcases hb with hb | hb
          · exact setRow_other w _ b _ hb
          · omega
        · simp only [List.getElem?_toArray]
          have htl : (cur.toList.take (len * es)).length = len * es := by simp; omega
          rw [List.getElem?_append_left (by simp; omega)]
          by_cases hjl : j < len * es
          · rw [List.getElem?_append_left (by omega), List.getElem?_append_left (by omega), List.getElem?_take, if_pos hjl, ← hj j hjl]
            simp
          · rw [List.getElem?_append_right (by omega), List.getElem?_append_right (by omega), htl, hol]
    · have hgrow : c < len + k := by omega
      have hfits := growslice_fits (bytes := i.bytes) hgrow hbyte
      have hge := grownCap_ge w (len + k) c e
      have hmul : (len + k) * es ≤ grownCap w (len + k) c e * es := Nat.mul_le_mul_right _ hge
      have hvsz : (olds.toArray ++ news.toArray ++ Builtin.zeroCells zv.cells (grownCap w (len + k) c e - (len + k))).size = grownCap w (len + k) c e * es := by rw [Array.size_append, hsize, Nat.sub_mul]; simp; omega
      have hgoal : ∀ b : Addr, a = some b ∨ (a = none ∧ len = 0) → (Builtin.append_ #[t, t] ty #[.slice a len c, .slice (some ⟨lx.blk, lx.base + off, none⟩) k cx]).run P w =
          .ok (.slice (some ⟨w.heap.size, 0, none⟩) (len + k) (grownCap w (len + k) c e)) (w.drew.alloc (.cells (olds.toArray ++ news.toArray ++ Builtin.zeroCells zv.cells (grownCap w (len + k) c e - (len + k))) e)) := by
        intro b hb
        rcases hb with rfl | ⟨rfl, rfl⟩
        · refine run_append_grow (P := P) w t ty e inf zv hd hinf hz b len c olds (by rw [hol, hsz1]) (fun j v hj => ?_) ⟨lx.blk, lx.base + off, none⟩ k cx news (by rw [hnl, hsz1]) (hcellN w (Grow.refl w)) hgrow (by omega) (by rw [hby]; exact hfits)
          have hjlt := (List.getElem?_eq_some_iff.1 hj).1
          have := ha (fun h0 => by
            have hl0 : len = 0 := by omega
            rw [hol, hl0, Nat.zero_mul] at hjlt; omega)
          cases this
          rw [hb0, addr_add, Nat.zero_add]
          exact hcellO w (Grow.refl w) j v hj
        · have hc0 : c = 0 := by
            by_cases hc : c = 0
            · exact hc
            · have := ha hc; cases this
          subst hc0
          have ho0 : olds = [] := List.eq_nil_of_length_eq_zero (by rw [hol]; simp)
          rw [ho0]
          have := run_append_nil (P := P) w t ty e inf zv hd hinf hz ⟨lx.blk, lx.base + off, none⟩ k cx news (by rw [hnl, hsz1]) (hcellN w (Grow.refl w)) h0' (by omega) (by rw [hby]; simp only [Nat.zero_add] at hbyte; omega)
          simpa using this
      have hrun := hgoal (a.getD ⟨0, 0, none⟩) (by
        cases a with
        | some b => exact .inl rfl
        | none =>
          refine .inr ⟨rfl, ?_⟩
          by_cases hc : c = 0
          · omega
          · have := ha hc; cases this)
      refine ⟨_, _, hrun, upd m next (some ⟨w.heap.size, 0, (olds.toArray ++ news.toArray ++ Builtin.zeroCells zv.cells (grownCap w (len + k) c e - (len + k))).size, []⟩), _, _, _, hK, ?_, ?_, hs.mono_next _, fun h => by cases h⟩
      · rw [hvsz]; exact slRep_newE _ _ _ _ hge _ _
      · refine hdrop.newBlk (w' := w.drew.alloc _) rfl rfl rfl (by simp) (fun k hk => heap_alloc_old w.drew _ k hk) (heap_alloc_new w.drew _) hcs' ?_
        refine repL_fits (xs := olds ++ news) (hall.mono (hs.mono_next _)) hall1 (by rw [hvsz]; omega) fun j hj => ?_
        rw [Array.getElem?_append_left (by simpa [hol, hnl] using hj)]
        simp


theorem upd_upd_none {h : Hp} {o : Nat} {x : Option Ob} : upd (upd h o none) o x = upd h o x := by
  funext u
  unfold upd
  split <;> rfl
/-- An object is laid where one was that is gone. -/
theorem Sim.readd {F : Fr} {W w w' : World} {m : Lm} {h : Nat → Option Ob} {next o : Nat} (hs : Sim F W m h next w) (ho0 : h o = none) {l : Loc} (hl0 : m o = some l) (D : List Nat)
    (hos : w'.os = w.os) (htape : w'.tape = w.tape) (hout : w'.output = w.output) (hsz : w.heap.size ≤ w'.heap.size)
    (hblk : ∀ k, k < w.heap.size → k ∉ D → w'.heap[k]? = w.heap[k]?)
    (hD : ∀ k ∈ D, (F k ∨ W.heap.size ≤ k) ∧ ¬ F.pb k)
    (hfar : ∀ o ob l, h o = some ob → m o = some l → ∀ k ∈ blks l ob.cont, k ∉ D)
    (ob : Ob) (hrw : ob.rw = true) (hin : ∀ k ∈ blks l ob.cont, k ∈ D) (hnd : (blks l ob.cont).Nodup)
    (hlt : ∀ k ∈ blks l ob.cont, k < w'.heap.size) (hlen : (ob.cont.flat o).length ≤ l.capc)
    (hcells : CellsAt w' m o l ob.cont) (hopn : Open w' l ob.cont) :
    Sim F W m (upd h o (some ob)) next w' := by
  have hnew : ∀ o' ob' l', h o' = some ob' → ob'.rw = true → m o' = some l' → ∀ k ∈ blks l' ob'.cont, k ∉ blks l ob.cont := fun o' ob' l' ho hr hl' k hk hk' => hfar o' ob' l' ho hl' k hk (hin k hk')
  refine ⟨⟨hos.trans hs.kept.os, htape.trans hs.kept.tape, hout.trans hs.kept.output, Nat.le_trans hs.kept.size hsz, fun k hk hf => ?_⟩, fun o' ob' ho => ?_, ?_, hs.fresh, fun b ob hb => (hblk b (hs.prot_lt hb) fun hd => (hD b hd).2 ⟨ob, hb⟩).trans (hs.prot b ob hb), hs.pnd⟩
  · rw [hblk k (Nat.lt_of_lt_of_le hk hs.kept.size) (fun hd => by rcases (hD k hd).1 with h1 | h1; exact hf h1; omega)]
    exact hs.kept.block k hk hf
  · by_cases e : o' = o
    · subst e
      rw [upd_same] at ho
      cases ho
      exact ⟨l, hl0, hlen, hcells, hlt, fun _ => hnd, fun _ => hopn, fun _ k hk => (hD k (hin k hk)).1, fun hr => (by rw [hrw] at hr; cases hr), fun k hk => (hD k (hin k hk)).2⟩
    · rw [upd_ne _ _ e] at ho
      obtain ⟨l', hl', hok⟩ := hs.obj o' ob' ho
      exact ⟨l', hl', hok.local (fun _ _ h => h) hsz fun k hk => hblk k (hok.lt k hk) (hfar o' ob' l' ho hl' k hk)⟩
  · intro o1 ob1 o2 ob2 l1 l2 k hne ho1 ho2 hr1 hr2 hl1 hl2 hk
    by_cases e : o1 = o
    · subst e
      rw [upd_same] at ho1
      cases ho1
      have : l1 = l := Option.some.inj (hl1.symm.trans hl0)
      subst this
      rw [upd_ne _ _ (Ne.symm hne)] at ho2
      exact fun hk2 => hnew o2 ob2 l2 ho2 hr2 hl2 k hk2 hk
    · rw [upd_ne _ _ e] at ho1
      by_cases e' : o2 = o
      · subst e'
        rw [upd_same] at ho2
        cases ho2
        have : l2 = l := Option.some.inj (hl2.symm.trans hl0)
        subst this
        exact hnew o1 ob1 l1 ho1 hr1 hl1 k hk
      · rw [upd_ne _ _ e'] at ho2
        exact hs.sep o1 ob1 o2 ob2 l1 l2 k hne ho1 ho2 hr1 hr2 hl1 hl2 hk

theorem aAppendB_sound (ht : TabOk P tab) (hs : Sim F W m h next w) {t ty : TypeId} {s x : AV} {vs vx : Value} {K : AV → Hp → Nat → Prop} (hr : aAppendB tab h next t s x K) (hvs : Rep m s vs) (hvx : Rep m x vx) :
    ∃ v w', (Builtin.append_ #[t, t] ty #[vs, vx]).run P w = .ok v w' ∧ Acts F W m w false K v w' := by
  obtain ⟨e, i, k, d, p, off, lim, ob2, hty, hi, hzl, rfl, hob2, hwin, hoff, hpos, o, len, ob, c0, c', rfl, hob, hrw, hop, hlen0, hwin0, hcat, hk63, hbyte, hK1, hK2⟩ := hr
  have hlen := Nat.le_of_eq hlen0
  obtain ⟨dd, hd, hf⟩ := tab_ty ht hty
  simp only [Ty.fits] at hf
  subst hf
  obtain ⟨_, inf, zv, _, _, hinf, hs1, hby, hz, hzc, _⟩ := ht e i hi
  have hsz1 : inf.size = i.size := hs1
  generalize hes : i.size = es at *
  have hes0 : 0 < es := by
    rcases Nat.eq_zero_or_pos es with h0 | h0
    · subst h0; omega
    · exact h0
  have hk0 : 0 < k := by
    rcases Nat.eq_zero_or_pos k with h0 | h0
    · subst h0; omega
    · exact h0
  have hzs : zv.cells.size = es := by rw [← hzl, ← hzc]; simp
  have hsize : ∀ n : Nat, (Builtin.zeroCells zv.cells n).size = n * es := fun n => by simp [Builtin.zeroCells, hzs]
  obtain ⟨lp, hlp, -⟩ := hs.obj p ob2 hob2
  obtain ⟨hds0, hds, hdf⟩ := winOf_spec hwin
  obtain ⟨news, hnl, hcellN0, hnrep0, hn1⟩ := hs.readWin (off := off) (k := k * es) hob2 hlp hoff
  have hnrep : ∀ o, RepL m (d.flat o) news := fun o => by rw [hdf p o]; exact hnrep0
  simp only [Rep] at hvx
  obtain ⟨lx, hlx, ax, cx, rfl, hkc, hax, -⟩ := hvx
  have : lx = lp := Option.some.inj (hlx.symm.trans hlp)
  subst this
  have hax := hax (by omega)
  subst hax
  have hcellN : ∀ w', Grow w w' → ∀ (j : Nat) (v : Value), news[j]? = some v → w'.cell? ((⟨lx.blk, lx.base + off, none⟩ : Addr).add j) = some v := fun w' hw j v hj => by
    have := hcellN0 j v hj w' hw
    rw [addr_add, Nat.add_assoc]; exact this
  · skip
    obtain ⟨hcs, hcs', hcf⟩ := catOf_spec hcat
    simp only [Rep] at hvs
    obtain ⟨l, hl, a, c, rfl, hlc, ha, hcap⟩ := hvs
    simp only [Nat.zero_add, Nat.add_zero] at hcap ha
    obtain ⟨l', hl', hok⟩ := hs.obj o ob hob
    have : l' = l := Option.some.inj (hl'.symm.trans hl)
    subst this
    obtain ⟨hb0, hopn, _⟩ := hok.opn hrw
    have hdrop : Sim F W m (upd h o none) next w := hs.drop fun o1 ob1 h1 => by
      by_cases e1 : o1 = o
      · subst e1; simp at h1
      · rwa [upd_ne _ _ e1] at h1
    have hfar : ∀ o1 ob1 l1, upd h o none o1 = some ob1 → m o1 = some l1 → ∀ b ∈ blks l1 ob1.cont, b ∉ blks l' ob.cont := fun o1 ob1 l1 h1 h2 b hb => by
      by_cases e1 : o1 = o
      · subst e1; simp at h1
      · rw [upd_ne _ _ e1] at h1
        exact hs.apart (Ne.symm e1) hob hrw hl h1 h2 hb
    obtain ⟨olds, hol, holds, horep, ho1⟩ := hs.readWin (off := 0) (k := len * es) hob hl (by omega)
    simp only [List.drop_zero] at horep
    obtain ⟨hcso, _, hc0f⟩ := winOf_spec hwin0
    have hcellO : ∀ w', Grow w w' → ∀ (j : Nat) (v : Value), olds[j]? = some v → w'.cell? ⟨l'.blk, j, none⟩ = some v := fun w' hw j v hj => by
      have := holds j v hj w' hw
      rwa [hb0, Nat.zero_add, Nat.zero_add] at this
    have hall : RepL m (c'.flat next) (olds ++ news) := by
      rw [hcf next, hc0f o next, List.drop_zero]
      exact repL_append horep (hnrep next)
    have hallo : RepL m (c'.flat o) (olds ++ news) := by
      rw [hcf o, hc0f o o, List.drop_zero]
      exact repL_append horep (hnrep o)
    have hall1 : ∀ u ∈ olds ++ news, u.oneCell' = true := fun u hu => by
      rcases List.mem_append.1 hu with h1 | h1
      · exact ho1 u h1
      · exact hn1 u h1
    have hlen2 : (olds ++ news).length = (len + k) * es := by rw [List.length_append, hol, hnl, Nat.add_mul]
    -- what the old block holds
    have hcurO : l'.capc ≠ 0 → ∃ cur e', w.heap[l'.blk]? = some (.cells cur e' (0, 0)) ∧ cur.size = l'.capc ∧ ∀ j, j < len * es → cur[j]? = olds[j]? := fun hc0 => by
      obtain ⟨cur, e', hcur, hcz⟩ := hopn hc0
      refine ⟨cur, e', hcur, hcz, fun j hj => ?_⟩
      have hj' : j < olds.length := by omega
      have h1 := hcellO w (Grow.refl w) j _ (List.getElem?_eq_getElem hj')
      rw [cell_of_row w l'.blk j cur e' (0, 0) hcur] at h1
      rw [h1, List.getElem?_eq_getElem hj']
    -- the object in the old block
    have stay : ∀ (w' : World) (cur' : Array Value) (e' : TypeId), w'.os = w.os → w'.tape = w.tape → w'.output = w.output → w'.heap.size = w.heap.size → (∀ b, (b ≠ l'.blk ∨ l'.capc = 0) → w'.heap[b]? = w.heap[b]?) → (l'.capc ≠ 0 → w'.heap[l'.blk]? = some (.cells cur' e' (0, 0))) → cur'.size = l'.capc →
        (len + k) * es ≤ l'.capc → (∀ j, j < (len + k) * es → cur'[j]? = (olds ++ news)[j]?) → Sim F W m (upd h o (some ⟨true, c'⟩)) next w' := by
      intro w' cur' e' q1 q2 q3 q4 q5 q6 q7 q8 q9
      have hbl : blks l' c' = blks l' ob.cont := by rw [blks_simple hcs', blks_simple hcso]
      have hfit : Fits m o c' cur' := repL_fits hallo hall1 (by omega) fun j hj => q9 j (by omega)
      rw [← upd_upd_none]
      refine hdrop.readd (o := o) (upd_same _ _ _) hl (blks l' ob.cont) q1 q2 q3 (by omega) (fun b _ hb => ?_) (fun b hb => ⟨hok.mine hrw b hb, hok.np b hb⟩) hfar ⟨true, c'⟩ rfl (fun b hb => hbl ▸ hb) (hbl ▸ hok.nodup hrw) (fun b hb => by rw [q4]; exact hok.lt b (hbl ▸ hb)) (by rw [← q7]; exact hfit.1) ?_ ?_
      · by_cases hc0 : l'.capc = 0
        · exact q5 b (.inr hc0)
        · exact q5 b (.inl fun e1 => hb (e1 ▸ blk_mem hc0))
      · by_cases hc0 : l'.capc = 0
        · refine ⟨fun j x hj => ?_, by cases c' <;> simp [Cont.simple] at hcs' <;> trivial⟩
          have h1 : j < (c'.flat o).length := (List.getElem?_eq_some_iff.1 hj).1
          have h2 := hfit.1
          omega
        · exact cellsAt_simple hcs' hb0 (q6 hc0) hfit
      · by_cases hc0 : l'.capc = 0
        · exact ⟨hb0, fun h => absurd hc0 h, by cases c' <;> simp [Cont.simple] at hcs' <;> trivial⟩
        · exact open_simple hcs' hb0 (q6 hc0) q7
    have h0' : 0 < k := hk0
    have hmadd : (len + k) * es = len * es + k * es := Nat.add_mul _ _ _
    by_cases hroom : len + k ≤ c
    · have hc0 : c ≠ 0 := by omega
      have hcpos : 0 < c * es := Nat.mul_pos (by omega) hes0
      have hle1 : (len + k) * es ≤ c * es := Nat.mul_le_mul_right _ hroom
      obtain ⟨cur, e', hcur, hcz, hj⟩ := hcurO (by omega)
      rw [ha hc0, hb0]
      have hcur' : w.heap[l'.blk]? = some (.cells cur e' (0, 0)) := hcur
      have hst := run_storeCells_at P l'.blk (len * es) e' news 0 cur w hcur (by omega) hn1
      have hf := run_firstCells_some (P := P) (w := w) inf.size k ⟨lx.blk, lx.base + off, none⟩ k cx news (by rw [hnl, hsz1]) (hcellN w (Grow.refl w))
      simp only [Nat.add_zero] at hst
      have hrun : (Builtin.append_ #[t, t] ty #[.slice (some ⟨l'.blk, 0, none⟩) len c, .slice (some ⟨lx.blk, lx.base + off, none⟩) k cx]).run P w =
          .ok (.slice (some ⟨l'.blk, 0, none⟩) (len + k) c) (w.setRow l'.blk (cur.toList.take (len * es) ++ news ++ cur.toList.drop (len * es + news.length)).toArray) := by
        rw [hsz1] at hf
        simp [Builtin.append_, run_underlying hd, sizeOf, typeInfo, hinf, Builtin.lenOf, hroom, hsz1, hf, addr_add, hst]
      have hsz2 : (cur.toList.take (len * es) ++ news ++ cur.toList.drop (len * es + news.length)).toArray.size = l'.capc := by simp; omega
      refine ⟨_, _, hrun, m, _, _, _, hK2, ?_, ?_, fun _ _ h => h, fun h => by cases h⟩
      · simp only [Rep]
        exact ⟨_, hl, _, c, rfl, by omega, fun _ => by rw [hb0], by simpa using hcap⟩
      · refine stay _ _ e' rfl rfl rfl (by simp) (fun b hb => ?_) (fun _ => setRow_heap w l'.blk cur _ e' (0, 0) hcur) hsz2 (by omega) fun j hjlt => ?_
        · rcases hb with hb | hb
          · exact setRow_other w _ b _ hb
          · omega
        · simp only [List.getElem?_toArray]
          have htl : (cur.toList.take (len * es)).length = len * es := by simp; omega
          rw [List.getElem?_append_left (by simp; omega)]
          by_cases hjl : j < len * es
          · rw [List.getElem?_append_left (by omega), List.getElem?_append_left (by omega), List.getElem?_take, if_pos hjl, ← hj j hjl]
            simp
          · rw [List.getElem?_append_right (by omega), List.getElem?_append_right (by omega), htl, hol]
    · have hgrow : c < len + k := by omega
      have hfits := growslice_fits (bytes := i.bytes) hgrow hbyte
      have hge := grownCap_ge w (len + k) c e
      have hmul : (len + k) * es ≤ grownCap w (len + k) c e * es := Nat.mul_le_mul_right _ hge
      have hvsz : (olds.toArray ++ news.toArray ++ Builtin.zeroCells zv.cells (grownCap w (len + k) c e - (len + k))).size = grownCap w (len + k) c e * es := by rw [Array.size_append, hsize, Nat.sub_mul]; simp; omega
      have hgoal : ∀ b : Addr, a = some b ∨ (a = none ∧ len = 0) → (Builtin.append_ #[t, t] ty #[.slice a len c, .slice (some ⟨lx.blk, lx.base + off, none⟩) k cx]).run P w =
          .ok (.slice (some ⟨w.heap.size, 0, none⟩) (len + k) (grownCap w (len + k) c e)) (w.drew.alloc (.cells (olds.toArray ++ news.toArray ++ Builtin.zeroCells zv.cells (grownCap w (len + k) c e - (len + k))) e)) := by
        intro b hb
        rcases hb with rfl | ⟨rfl, rfl⟩
        · refine run_append_grow (P := P) w t ty e inf zv hd hinf hz b len c olds (by rw [hol, hsz1]) (fun j v hj => ?_) ⟨lx.blk, lx.base + off, none⟩ k cx news (by rw [hnl, hsz1]) (hcellN w (Grow.refl w)) hgrow (by omega) (by rw [hby]; exact hfits)
          have hjlt := (List.getElem?_eq_some_iff.1 hj).1
          have := ha (fun h0 => by
            have hl0 : len = 0 := by omega
            rw [hol, hl0, Nat.zero_mul] at hjlt; omega)
          cases this
          rw [hb0, addr_add, Nat.zero_add]
          exact hcellO w (Grow.refl w) j v hj
        · have hc0 : c = 0 := by
            by_cases hc : c = 0
            · exact hc
            · have := ha hc; cases this
          subst hc0
          have ho0 : olds = [] := List.eq_nil_of_length_eq_zero (by rw [hol]; simp)
          rw [ho0]
          have := run_append_nil (P := P) w t ty e inf zv hd hinf hz ⟨lx.blk, lx.base + off, none⟩ k cx news (by rw [hnl, hsz1]) (hcellN w (Grow.refl w)) h0' (by omega) (by rw [hby]; simp only [Nat.zero_add] at hbyte; omega)
          simpa using this
      have hrun := hgoal (a.getD ⟨0, 0, none⟩) (by
        cases a with
        | some b => exact .inl rfl
        | none =>
          refine .inr ⟨rfl, ?_⟩
          by_cases hc : c = 0
          · omega
          · have := ha hc; cases this)
      refine ⟨_, _, hrun, upd m next (some ⟨w.heap.size, 0, (olds.toArray ++ news.toArray ++ Builtin.zeroCells zv.cells (grownCap w (len + k) c e - (len + k))).size, []⟩), _, _, _, hK1, ?_, ?_, hs.mono_next _, fun h => by cases h⟩
      · rw [hvsz]; exact slRep_newE _ _ _ _ hge _ _
      · refine hs.newBlk (w' := w.drew.alloc _) rfl rfl rfl (by simp) (fun k hk => heap_alloc_old w.drew _ k hk) (heap_alloc_new w.drew _) hcs' ?_
        refine repL_fits (xs := olds ++ news) (hall.mono (hs.mono_next _)) hall1 (by rw [hvsz]; omega) fun j hj => ?_
        rw [Array.getElem?_append_left (by simpa [hol, hnl] using hj)]
        simp

theorem aAppend0_sound {P : Program} {tab : Tab} {F : Fr} {W : World} {m : Lm} {w : World} {h : Hp} {next : Nat} (ht : TabOk P tab) (hs : Sim F W m h next w) {t ty : TypeId} {s x : AV} {vs vx : Value} {K : AV → Hp → Nat → Prop} (hr : aAppend0 tab h next t s x K) (hvs : Rep m s vs) (hvx : Rep m x vx) :
    ∃ v w', (Builtin.append_ #[t, t] ty #[vs, vx]).run P w = .ok v w' ∧ Acts F W m w false K v w' := by
  obtain ⟨e, i, hty, hi, hsc, hxc, hK⟩ := hr
  obtain ⟨dd, hd, hf⟩ := tab_ty ht hty
  simp only [Ty.fits] at hf
  subst hf
  obtain ⟨_, inf, zv, _, _, hinf, _⟩ := ht e i hi
  have hx : ∃ ax cx, vx = .slice ax 0 cx := by
    rcases hxc with rfl | ⟨p, off, sz, lim, rfl⟩
    · simp only [Rep] at hvx; subst hvx; exact ⟨_, _, rfl⟩
    · simp only [Rep] at hvx
      obtain ⟨_, _, ax, cx, rfl, _⟩ := hvx
      exact ⟨_, _, rfl⟩
  obtain ⟨ax, cx, rfl⟩ := hx
  have hv : ∃ a len c, vs = .slice a len c ∧ len ≤ c := by
    rcases hsc with ⟨o, len, sz, rfl⟩ | rfl
    · simp only [Rep] at hvs
      obtain ⟨_, _, a, c, rfl, hc, _⟩ := hvs
      exact ⟨_, _, _, rfl, hc⟩
    · simp only [Rep] at hvs; subst hvs; exact ⟨_, _, _, rfl, Nat.le_refl _⟩
  obtain ⟨a, len, c, rfl, hle⟩ := hv
  exact ⟨_, _, run_append_zero hd hinf a ax len c cx hle w, m, s, h, next, hK, hvs, hs, fun _ _ h => h, fun h => by cases h⟩
theorem aAppend_sound (ht : TabOk P tab) (hs : Sim F W m h next w) {t ty : TypeId} {s x : AV} {vs vx : Value} {K : AV → Hp → Nat → Prop} (hr : aAppend tab h next t s x K) (hvs : Rep m s vs) (hvx : Rep m x vx) :
    ∃ v w', (Builtin.append_ #[t, t] ty #[vs, vx]).run P w = .ok v w' ∧ Acts F W m w false K v w' := by
  rcases hr with hr | ⟨o, j, len, ik, xss, rfl, ho, hj, rfl, hr⟩ | hr | hr | hr
  · exact aAppend2_sound ht hs hr hvs hvx
  · simp only [Rep] at hvs
    obtain ⟨lo, li, hlo, hli, hva⟩ := hvs
    obtain ⟨li', hli', hs1⟩ := hs.detach ho hj hlo
    have : li' = li := Option.some.inj (hli'.symm.trans hli)
    subst this
    have hm := hs.mono_next (⟨li'.blk, li'.base, li'.capc, []⟩ : Loc)
    obtain ⟨v, w', hrun, m', a, h', n', q1, q2, q3, q4, q5⟩ := aAppend2_sound (ty := ty) ht hs1 hr (show Rep _ (.sl next 0 _ 1 none) vs by simp only [Rep]; exact ⟨_, upd_same _ _ _, hva⟩) (hvx.mono hm)
    exact ⟨v, w', hrun, m', a, h', n', q1, q2, q3, fun u l hu => q4 _ _ (hm _ _ hu), q5⟩
  · exact aAppendE_sound ht hs hr hvs hvx
  · exact aAppendB_sound ht hs hr hvs hvx
  · exact aAppend0_sound ht hs hr hvs hvx

/-- As many zeros as a number says, behind nothing. -/
def aAppendZ (tab : Tab) (h : Hp) (n : Nat) (t : TypeId) (s x : AV) (K : AV → Hp → Nat → Prop) : Prop :=
  match s, x with
  | .val (.slice none 0 0), .val (.int _ l) => ∃ e i, tyOf tab t = some (.slice e) ∧ tab e = some i ∧ i.size = 1 ∧ i.bytes ≤ 8 ∧ 0 ≤ l ∧ l ≤ 16777216 ∧
    (match i.ty with
    | .int ik => i.zero = [.int ik 0] ∧ K (.sl n 0 l.toNat 1 none) (upd h n (some ⟨true, .ints ik (List.replicate l.toNat 0)⟩)) (n + 1)
    | _ => False)
  | _, _ => False

theorem aAppendZ_sound (ht : TabOk P tab) (hs : Sim F W m h next w) {t tn ty : TypeId} {kn : IntKind} {s x : AV} {vs vx : Value} {K : AV → Hp → Nat → Prop} (htn : tyOf tab tn = some (.int kn)) (hr : aAppendZ tab h next t s x K) (hvs : Rep m s vs) (hvx : Rep m x vx) :
    ∃ v w', (Builtin.append_ #[t, tn] ty #[vs, vx]).run P w = .ok v w' ∧ Acts F W m w false K v w' := by
  unfold aAppendZ at hr
  split at hr
  · rename_i kq l
    obtain ⟨e, i, hty, hi, hsz, hb8, h0, hl, hr⟩ := hr
    obtain ⟨dd, hd, hf⟩ := tab_ty ht hty
    simp only [Ty.fits] at hf
    subst hf
    obtain ⟨dn, hdn, hfn⟩ := tab_ty ht htn
    simp only [Ty.fits] at hfn
    subst hfn
    obtain ⟨_, inf, zv, _, _, hinf, hs1, hby, hz, hzc, _⟩ := ht e i hi
    split at hr
    · rename_i ik hity
      obtain ⟨hz0, hK⟩ := hr
      rw [hz0] at hzc
      have hzu : zv.cells = #[.int ik 0] := by apply Array.ext'; simpa using hzc
      have hsz1 : inf.size = 1 := hs1.trans hsz
      simp only [Rep] at hvs hvx
      subst hvs hvx
      obtain ⟨n, rfl⟩ : ∃ n : Nat, l = n := ⟨l.toNat, by omega⟩
      simp only [Int.toNat_natCast] at hK
      by_cases hn0 : n = 0
      · subst hn0
        refine ⟨.slice none 0 0, w, ?_, upd m next (some ⟨0, 0, 0, []⟩), _, _, _, hK, ?_, ?_, hs.mono_next _, fun h => by cases h⟩
        · have hw : IntKind.i64.wrap 0 = 0 := by decide
          simp [Builtin.append_, run_underlying hd, run_underlying hdn, sizeOf, typeInfo, hinf, asInt, asIntOf, hw]
        · simp only [Rep]; exact ⟨_, upd_same _ _ _, none, 0, rfl, Nat.le_refl _, fun h => absurd rfl h, rfl⟩
        · exact hs.add [] rfl rfl rfl (Nat.le_refl _) (fun _ _ _ => rfl) (by simp) (by simp) ⟨0, 0, 0, []⟩ ⟨true, .ints ik (List.replicate 0 0)⟩ rfl (by simp [blks]) (by simp [blks]) (by simp [blks]) (by simp [Cont.flat])
            ⟨fun j a hj => (by simp [Cont.flat] at hj), trivial⟩ ⟨rfl, fun h => absurd rfl h, trivial⟩
      · have hpos : 0 < n := by omega
        have hrun := Go.Lib.run_append_nil_zeros (P := P) w t tn ty e inf zv kq kn hd hdn hinf hz n hpos (by omega) (by omega) (by rw [hby]; have := Nat.mul_le_mul (show n ≤ 16777216 by omega) hb8; omega)
        have hge := grownCap_ge w n 0 e
        have hzs : ∀ q, (Builtin.zeroCells zv.cells q).toList = List.replicate q (.int ik 0) := fun q => by
          refine List.eq_replicate_iff.2 ⟨by simp [Builtin.zeroCells, hzu], fun b hb => ?_⟩
          simp [Builtin.zeroCells, hzu, Nat.mod_one] at hb
          exact hb.2.symm
        have hvl : (Builtin.zeroCells zv.cells n ++ Builtin.zeroCells zv.cells (grownCap w n 0 e - n)).toList = List.replicate (grownCap w n 0 e) (.int ik 0) := by
          rw [Array.toList_append, hzs, hzs, List.replicate_append_replicate]; congr 1; omega
        have hvsz : (Builtin.zeroCells zv.cells n ++ Builtin.zeroCells zv.cells (grownCap w n 0 e - n)).size = grownCap w n 0 e := by
          rw [← Array.length_toList, hvl, List.length_replicate]
        refine ⟨_, _, hrun, upd m next (some ⟨w.heap.size, 0, (Builtin.zeroCells zv.cells n ++ Builtin.zeroCells zv.cells (grownCap w n 0 e - n)).size, []⟩), _, _, _, hK, ?_, ?_, hs.mono_next _, fun h => by cases h⟩
        · rw [hvsz]; exact slRep_new _ _ _ hge _ _
        · refine hs.newBlk (w' := w.drew.alloc _) rfl rfl rfl (by simp) (fun k hk => heap_alloc_old w.drew _ k hk) (heap_alloc_new w.drew _) rfl ?_
          refine repL_fits (xs := List.replicate n (.int ik 0)) ?_ (fun u hu => by rw [(List.mem_replicate.1 hu).2]; rfl) (by rw [hvsz, List.length_replicate]; exact hge) fun j hj => ?_
          · simp only [Cont.flat]
            have := repL_vals (m := upd m next (some ⟨w.heap.size, 0, (Builtin.zeroCells zv.cells n ++ Builtin.zeroCells zv.cells (grownCap w n 0 e - n)).size, []⟩)) (List.replicate n (.int ik 0))
            simpa using this
          · rw [List.length_replicate] at hj
            rw [← Array.getElem?_toList, hvl, List.getElem?_replicate, List.getElem?_replicate, if_pos hj, if_pos (by omega)]
    · exact hr.elim
  · exact hr.elim

/-- A content with a part of it written over. -/
def spliceOf (c : Cont) (off : Nat) (d : Cont) : Option Cont :=
  match c, d with
  | .cells as, .cells bs => some (.cells (as.take off ++ bs ++ as.drop (off + bs.length)))
  | .ints k xs, .ints k' ys => if k = k' then some (.ints k (xs.take off ++ ys ++ xs.drop (off + ys.length))) else none
  | .strs ss, .strs ts => some (.strs (ss.take off ++ ts ++ ss.drop (off + ts.length)))
  | .bools bs, .bools cs => some (.bools (bs.take off ++ cs ++ bs.drop (off + cs.length)))
  | _, _ => none

def aCopy (tab : Tab) (h : Hp) (n : Nat) (t : TypeId) (d s : AV) (K : AV → Hp → Nat → Prop) : Prop :=
  ∃ e o off len lim ob, tyOf tab t = some (.slice e) ∧ szOf tab e = some 1 ∧ d = .sl o off len 1 lim ∧ h o = some ob ∧ ob.rw = true ∧ off + len ≤ (ob.cont.flat o).length ∧
    ((s = .val (.slice none 0 0) ∧ K (.val (.int .i64 0)) h n) ∨
     ∃ p off2 k lim2 ob2 dd c', s = .sl p off2 k 1 lim2 ∧ o ≠ p ∧ h p = some ob2 ∧ off2 + k ≤ (ob2.cont.flat p).length ∧ winOf ob2.cont off2 (Nat.min k len) = some dd ∧ spliceOf ob.cont off dd = some c' ∧
      K (.val (.int .i64 (Nat.min k len : Nat))) (upd h o (some ⟨true, c'⟩)) n)

theorem spliceOf_spec {c d e : Cont} {off : Nat} (h : spliceOf c off d = some e) : c.simple = true ∧ e.simple = true ∧ ∀ o, e.flat o = (c.flat o).take off ++ d.flat o ++ (c.flat o).drop (off + (d.flat o).length) := by
  unfold spliceOf at h
  split at h
  · cases h; exact ⟨rfl, rfl, fun _ => rfl⟩
  · split at h
    · rename_i hk; subst hk; cases h; exact ⟨rfl, rfl, fun _ => by simp [Cont.flat]⟩
    · cases h
  · cases h; exact ⟨rfl, rfl, fun _ => by simp [Cont.flat]⟩
  · cases h; exact ⟨rfl, rfl, fun _ => by simp [Cont.flat]⟩
  · cases h

theorem spliceOf_zero {c d e : Cont} {off : Nat} (h : spliceOf c off d = some e) (h0 : (d.flat 0).length = 0) : e = c := by
  unfold spliceOf at h
  split at h
  · cases h; simp [Cont.flat] at h0; subst h0; simp
  · split at h
    · cases h; simp [Cont.flat] at h0; subst h0; simp
    · cases h
  · cases h; simp [Cont.flat] at h0; subst h0; simp
  · cases h; simp [Cont.flat] at h0; subst h0; simp
  · cases h

theorem aCopy_sound (ht : TabOk P tab) (hs : Sim F W m h next w) {t t' ty : TypeId} {s x : AV} {vs vx : Value} {K : AV → Hp → Nat → Prop} (hr : aCopy tab h next t s x K) (hvs : Rep m s vs) (hvx : Rep m x vx) :
    ∃ v w', (Builtin.copy_ #[t, t'] ty #[vs, vx]).run P w = .ok v w' ∧ Acts F W m w false K v w' := by
  obtain ⟨e, o, off, len, lim, ob, hty, hsz, rfl, hob, hrw, hlen, hcase⟩ := hr
  obtain ⟨dd, hd, hf⟩ := tab_ty ht hty
  simp only [Ty.fits] at hf
  subst hf
  obtain ⟨inf, hinf, hs1⟩ := tab_size ht hsz
  have hsm : (P.info? e).map (·.size) = some 1 := by simp [hinf, hs1]
  simp only [Rep] at hvs
  obtain ⟨l, hl, a, c, rfl, hlc, ha, hcap⟩ := hvs
  obtain ⟨l', hl', hok⟩ := hs.obj o ob hob
  have : l' = l := Option.some.inj (hl'.symm.trans hl)
  subst this
  rcases hcase with ⟨rfl, hK⟩ | ⟨p, off2, k, lim2, ob2, d, c', rfl, hne, hp, hk, hwin, hspl, hK⟩
  · simp only [Rep] at hvx
    subst hvx
    exact ⟨_, _, run_copy_none w t t' ty e a none len c 0 0 hd hsm (by simp [Nat.min_def]), m, _, _, _, hK, by simp [Rep, goInt], hs, fun _ _ h => h, fun h => by cases h⟩
  · simp only [Rep] at hvx
    obtain ⟨lp, hlp, ax, cx, rfl, hkx, hax, _⟩ := hvx
    obtain ⟨_, hds, hdf⟩ := winOf_spec hwin
    obtain ⟨hcs, hcs', hcf⟩ := spliceOf_spec hspl
    have hmk : Nat.min k len ≤ k := Nat.min_le_left _ _
    have hml : Nat.min k len ≤ len := Nat.min_le_right _ _
    obtain ⟨news, hnl, hnews, hnrep, hn1⟩ := hs.readWin (off := off2) (k := Nat.min k len) hp hlp (by omega)
    have hdl : ∀ o', (d.flat o').length = Nat.min k len := fun o' => by
      rw [hdf p o', List.length_take, List.length_drop]
      generalize Nat.min k len = mm at *
      omega
    by_cases h0 : Nat.min k len = 0
    · have hc : c' = ob.cont := spliceOf_zero hspl (by rw [hdl, h0])
      have hkeep : Sim F W m (upd h o (some ⟨true, c'⟩)) next w := hs.drop fun o1 ob1 h1 => by
        by_cases e1 : o1 = o
        · subst e1; rw [upd_same] at h1; cases h1; rw [hob, hc]; cases ob; simp only at hrw; subst hrw; rfl
        · rwa [upd_ne _ _ e1] at h1
      exact ⟨_, _, run_copy_none w t t' ty e a ax len c k cx hd hsm h0, m, _, _, _, hK, by simp [Rep, goInt, h0], hkeep, fun _ _ h => h, fun h => by cases h⟩
    · obtain ⟨hb0, hopn, _⟩ := hok.opn hrw
      have hlen' := hok.len
      have hcap0 : l'.capc ≠ 0 := by omega
      obtain ⟨cur, e', hcur, hcz⟩ := hopn hcap0
      have hadr : a = some ⟨l'.blk, off, none⟩ := by have := ha (by omega); rw [hb0, Nat.zero_add] at this; exact this
      have hadx : ax = some ⟨lp.blk, lp.base + off2, none⟩ := hax (by omega)
      rw [hadr, hadx]
      have hrun := run_copy_row (P := P) w t t' ty e l'.blk off len c ⟨lp.blk, lp.base + off2, none⟩ k cx cur e' news hd hsm hcur hnl (fun j v hj => by rw [addr_add, Nat.add_assoc]; exact hnews j v hj w (Grow.refl w)) (by omega) hn1
      refine ⟨_, _, hrun, m, _, _, _, hK, by simp [Rep, goInt, hnl], ?_, fun _ _ h => h, fun h => by cases h⟩
      have hsz2 : (cur.toList.take off ++ news ++ cur.toList.drop (off + news.length)).toArray.size = l'.capc := by simp; omega
      refine hs.writeBlk (w' := w.setRow l'.blk _) hob hrw hcs hl hcap0 rfl rfl rfl (by simp) (fun k' hk' => setRow_other w _ k' _ hk') (setRow_heap w l'.blk cur _ e' (0, 0) hcur) hsz2 hcs' ?_
      refine ⟨by rw [hcf o]; simp only [List.length_append, List.length_take, List.length_drop, hdl, ← hnl]; omega, fun j b hj => ?_⟩
      rw [hcf o] at hj
      have htl : (cur.toList.take off).length = off := by simp; omega
      have htl2 : ((ob.cont.flat o).take off).length = off := by simp; omega
      simp only [List.getElem?_toArray]
      have oldc : ∀ i b, (ob.cont.flat o)[i]? = some b → ∃ v, cur[i]? = some v ∧ v.oneCell' = true ∧ Rep m b v := fun i b hi => by
        obtain ⟨v, hv, h2, hrep⟩ := hok.cells.1 i b hi
        rw [hb0, Nat.zero_add, cell_of_row w l'.blk i cur e' (0, 0) hcur] at hv
        exact ⟨v, hv, h2, hrep⟩
      by_cases hj1 : j < off
      · rw [List.append_assoc, List.getElem?_append_left (by omega), List.getElem?_take, if_pos hj1] at hj
        obtain ⟨v, hv, h2, hrep⟩ := oldc j b hj
        exact ⟨v, by rw [List.append_assoc, List.getElem?_append_left (by omega), List.getElem?_take, if_pos hj1]; simpa using hv, h2, hrep⟩
      · by_cases hj2 : j < off + news.length
        · rw [List.append_assoc, List.getElem?_append_right (by omega), htl2, List.getElem?_append_left (by rw [hdl, ← hnl]; omega), hdf p o] at hj
          obtain ⟨v, hv, hrep⟩ := hnrep.get hj
          refine ⟨v, ?_, hn1 v (List.mem_of_getElem? hv), hrep⟩
          rw [List.append_assoc, List.getElem?_append_right (by omega), htl, List.getElem?_append_left (by omega)]
          exact hv
        · rw [List.getElem?_append_right (by simp only [List.length_append, htl2, hdl, ← hnl]; omega), List.getElem?_drop] at hj
          obtain ⟨v, hv, h2, hrep⟩ := oldc _ b hj
          refine ⟨v, ?_, h2, hrep⟩
          rw [List.getElem?_append_right (by simp only [List.length_append, htl]; omega), List.getElem?_drop]
          simp only [List.length_append, htl, htl2, hdl, ← hnl] at hv ⊢
          rw [← hv, ← Array.getElem?_toList]

/-- A map of strings, made; one more entry. -/
def aMakeMap (h : Hp) (n : Nat) (K : AV → Hp → Nat → Prop) : Prop := K (.mp n) (upd h n (some ⟨true, .raw (.map #[] 0)⟩)) (n + 1)
def aInsert (tab : Tab) (h : Hp) (n : Nat) (t : TypeId) (x k v : AV) (K : AV → Hp → Nat → Prop) : Prop :=
  match tyOf tab t, x, k, v with
  | some (.map kt _), .mp o, .val (.string s), .val u => tyOf tab kt = some .string ∧ ∃ es c, h o = some ⟨true, .raw (.map es c)⟩ ∧ strKeys es.toList = true ∧ lookS s es.toList = none ∧
      K .any (upd h o (some ⟨true, .raw (.map (es.push ⟨.string s, u, c⟩) (c + 1))⟩)) n
  | _, _, _, _ => False
theorem aMakeMap_sound (hs : Sim F W m h next w) {t : TypeId} {K : AV → Hp → Nat → Prop} (hr : aMakeMap h next K) : ∃ v w', (Instr.makeMap t none).run P w = .ok v w' ∧ Acts F W m w true K v w' := by
  refine ⟨.map (some w.heap.size), w.alloc (.map #[] 0), by simp [Instr.makeMap], upd m next (some ⟨w.heap.size, 0, 0, []⟩), _, _, _, hr, by simp only [Rep]; exact ⟨_, upd_same _ _ _, rfl⟩, ?_, hs.mono_next _, fun _ => grow_alloc _ _⟩
  have hnew : (w.alloc (.map #[] 0)).heap[w.heap.size]? = some (.map #[] 0) := heap_alloc_new w _
  refine hs.add (w' := w.alloc (.map #[] 0)) [] rfl rfl rfl (by simp) (fun k hk _ => Below.heap_alloc w _ k hk) (by simp) (by simp) ⟨w.heap.size, 0, 0, []⟩ ⟨true, .raw (.map #[] 0)⟩ rfl ?_ ?_ ?_ (by simp [Cont.flat]) ⟨fun i a hi => by simp [Cont.flat] at hi, hnew⟩ ⟨rfl, fun h => absurd rfl h, trivial⟩
  · intro k hk; simp [blks] at hk; omega
  · simp [blks]
  · intro k hk; simp [blks] at hk; subst hk; simp
theorem aInsert_sound (ht : TabOk P tab) (hs : Sim F W m h next w) {t : TypeId} {x k v : AV} {vx vk vv : Value} {K : AV → Hp → Nat → Prop} (hr : aInsert tab h next t x k v K) (hx : Rep m x vx) (hk : Rep m k vk) (hv : Rep m v vv) :
    ∃ w', (Instr.mapUpdate t vx vk vv).run P w = .ok () w' ∧ Acts F W m w false K undef w' := by
  unfold aInsert at hr
  split at hr
  · rename_i kt et o s u hty
    obtain ⟨hkt, es, c, hob, hsk, hno, hK⟩ := hr
    simp only [Rep] at hx hk hv
    obtain ⟨l, hl, rfl⟩ := hx
    subst hk hv
    obtain ⟨l', hl', hok⟩ := hs.obj o _ hob
    have : l' = l := Option.some.inj (hl'.symm.trans hl)
    subst this
    have hcell : w.heap[l'.blk]? = some (.map es c) := hok.cells.2
    have hlt : l'.blk < w.heap.size := (Array.getElem?_eq_some_iff.1 hcell).1
    obtain ⟨d, hd, hf⟩ := tab_ty ht hty
    simp only [Ty.fits] at hf
    subst hf
    obtain ⟨d2, hd2, hf2⟩ := tab_ty ht hkt
    simp only [Ty.fits] at hf2
    subst hf2
    have hcap : l'.capc = 0 := by
      by_cases hc : l'.capc = 0
      · exact hc
      · have := hok.nodup rfl
        simp [blks, hc] at this
    obtain ⟨r, g1, g2⟩ := findNow_str (k := s) 0 hsk
    have hr0 : r = none := by
      cases r with
      | none => rfl
      | some p => rw [hno] at g2; cases g2
    subst hr0
    have hck : (Instr.checkKey false 10000 kt (.string s)).run P w = .ok () w := run_checkKey_str (n := 9999) hd2 w
    have hfk : (Instr.findKey kt (.string s) es.toList).run P w = .ok none w := by
      simp only [Instr.findKey, Sem.run_bind, run_underlying hd2, Result.andThen_ok, g1, Sem.run_pure]
    refine ⟨{ w with heap := w.heap.setIfInBounds l'.blk (.map (es.push ⟨.string s, vv, c⟩) (c + 1)) }, ?_, m, .any, _, _, hK, by simp [Rep], ?_, fun _ _ h => h, fun h => by cases h⟩
    · simp [Instr.mapUpdate, run_underlying hd, getObj_map hcell, hck, hfk, setObj_map _ hcell]
    · refine hs.write hob rfl rfl hl (by simp [blks]) rfl rfl rfl (by simp) (fun k hk hnk => Array.getElem?_setIfInBounds_ne (fun e => hnk (by simp [blks, e]))) (by simp [Cont.flat]) ⟨fun i a hi => by simp [Cont.flat] at hi, Array.getElem?_setIfInBounds_self_of_lt hlt⟩ ⟨(hok.opn rfl).1, fun h => absurd hcap h, trivial⟩
  · exact hr.elim

/-- A range over a string, and its next letter. -/
def aRange (tab : Tab) (h : Hp) (n : Nat) (t : TypeId) (x : AV) (K : AV → Hp → Nat → Prop) : Prop :=
  match tyOf tab t, x with
  | some .string, .val (.string s) => K (.ref n 0) (upd h n (some ⟨true, .raw (.stringIter s 0)⟩)) (n + 1)
  | _, _ => False
def aNext (h : Hp) (n : Nat) (x : AV) (isS : Bool) (K : AV → Hp → Nat → Prop) : Prop :=
  match x with
  | .ref o 0 => ∃ s pos, h o = some ⟨true, .raw (.stringIter s pos)⟩ ∧ isS = true ∧ (s.size ≤ pos → K (.tup [.val (.bool false)]) h n) ∧
      (pos < s.size → K (.tup [.val (.bool true), .val (.int .i64 pos), .val (.int .i32 (Utf8.decode s pos).1)]) (upd h o (some ⟨true, .raw (.stringIter s (pos + (Utf8.decode s pos).2))⟩)) n)
  | _ => False
theorem aRange_sound (ht : TabOk P tab) (hs : Sim F W m h next w) {t : TypeId} {x : AV} {vx : Value} {K : AV → Hp → Nat → Prop} (hr : aRange tab h next t x K) (hx : Rep m x vx) : ∃ v w', (Instr.range t vx).run P w = .ok v w' ∧ Acts F W m w true K v w' := by
  unfold aRange at hr
  split at hr
  · rename_i s hty
    obtain ⟨d, hd, hf⟩ := tab_ty ht hty
    simp only [Ty.fits] at hf
    subst hf
    simp only [Rep] at hx
    subst hx
    refine ⟨.pointer (some ⟨w.heap.size, 0, none⟩), w.alloc (.stringIter s 0), by simp [Instr.range, run_underlying hd], upd m next (some ⟨w.heap.size, 0, 0, []⟩), _, _, _, hr, by simp only [Rep]; exact ⟨_, upd_same _ _ _, rfl⟩, ?_, hs.mono_next _, fun _ => grow_alloc _ _⟩
    have hnew : (w.alloc (.stringIter s 0)).heap[w.heap.size]? = some (.stringIter s 0) := heap_alloc_new w _
    refine hs.add (w' := w.alloc (.stringIter s 0)) [] rfl rfl rfl (by simp) (fun k hk _ => Below.heap_alloc w _ k hk) (by simp) (by simp) ⟨w.heap.size, 0, 0, []⟩ ⟨true, .raw (.stringIter s 0)⟩ rfl ?_ ?_ ?_ (by simp [Cont.flat]) ⟨fun i a hi => by simp [Cont.flat] at hi, hnew⟩ ⟨rfl, fun h => absurd rfl h, trivial⟩
    · intro k hk; simp [blks] at hk; omega
    · simp [blks]
    · intro k hk; simp [blks] at hk; subst hk; simp
  · exact hr.elim
theorem aNext_sound (hs : Sim F W m h next w) {x : AV} {vx : Value} {isS : Bool} {t : TypeId} {K : AV → Hp → Nat → Prop} (hr : aNext h next x isS K) (hx : Rep m x vx) :
    ∃ v w', (Instr.next vx isS t).run P w = .ok v w' ∧ Acts F W m w false K v w' := by
  unfold aNext at hr
  split at hr
  · rename_i o
    obtain ⟨s, pos, hob, rfl, h1, h2⟩ := hr
    simp only [Rep] at hx
    obtain ⟨l, hl, rfl⟩ := hx
    obtain ⟨l', hl', hok⟩ := hs.obj o _ hob
    have : l' = l := Option.some.inj (hl'.symm.trans hl)
    subst this
    have hcell : w.heap[l'.blk]? = some (.stringIter s pos) := hok.cells.2
    have hlt : l'.blk < w.heap.size := (Array.getElem?_eq_some_iff.1 hcell).1
    have hb0 := (hok.opn rfl).1
    have hcap : l'.capc = 0 := by
      by_cases hc : l'.capc = 0
      · exact hc
      · have := hok.nodup rfl
        simp [blks, hc] at this
    have hg : (getObj l'.blk).run P w = .ok (.stringIter s pos) w := by simp [getObj, Sem.run, hcell]
    rw [hb0]
    rcases Nat.lt_or_ge pos s.size with hp | hp
    · have hset : (setObj l'.blk (.stringIter s (pos + (Utf8.decode s pos).2))).run P w = .ok () { w with heap := w.heap.setIfInBounds l'.blk (.stringIter s (pos + (Utf8.decode s pos).2)) } := by simp [setObj, Sem.run, hcell]
      refine ⟨.tuple #[.bool true, .int .i64 pos, .int .i32 (Utf8.decode s pos).1], { w with heap := w.heap.setIfInBounds l'.blk (.stringIter s (pos + (Utf8.decode s pos).2)) }, ?_, m, _, _, _, h2 hp, by simp only [Rep]; exact ⟨[_, _, _], rfl, by simp [RepL, Rep]⟩, ?_, fun _ _ h => h, fun h => by cases h⟩
      · simp [Instr.next, hg, hp, hset, goInt]
      · refine hs.write hob rfl rfl hl (by simp [blks]) rfl rfl rfl (by simp) (fun k hk hnk => Array.getElem?_setIfInBounds_ne (fun e => hnk (by simp [blks, e]))) (by simp [Cont.flat]) ⟨fun i a hi => by simp [Cont.flat] at hi, Array.getElem?_setIfInBounds_self_of_lt hlt⟩ ⟨hb0, fun h => absurd hcap h, trivial⟩
    · refine ⟨.tuple #[.bool false], w, ?_, m, _, _, _, h1 hp, by simp only [Rep]; exact ⟨[_], rfl, by simp [RepL, Rep]⟩, hs, fun _ _ h => h, fun h => by cases h⟩
      have : ¬ pos < s.size := by omega
      simp [Instr.next, hg, this]
  · exact hr.elim

/-- A variable of no cells is stored. -/
def aStoreNone (tab : Tab) (h : Hp) (n : Nat) (t : TypeId) (x v : AV) (K : AV → Hp → Nat → Prop) : Prop :=
  match x, v with
  | .ref _ _, .agg [] => szOf tab t = some 0 ∧ K .any h n
  | _, _ => False
theorem aStoreNone_sound (ht : TabOk P tab) (hs : Sim F W m h next w) {t : TypeId} {x a : AV} {vx va : Value} {K : AV → Hp → Nat → Prop} (hr : aStoreNone tab h next t x a K) (hx : Rep m x vx) (ha : Rep m a va) :
    ∃ w', (Instr.storeAt t vx va).run P w = .ok () w' ∧ Acts F W m w false K undef w' := by
  unfold aStoreNone at hr
  split at hr
  · rename_i o k
    obtain ⟨hsz, hK⟩ := hr
    obtain ⟨inf, hinf, hs1⟩ := tab_size ht hsz
    simp only [Rep] at hx ha
    obtain ⟨l, hl, rfl⟩ := hx
    obtain ⟨xs, rfl, hxs⟩ := ha
    have : xs = [] := by cases xs with | nil => rfl | cons _ _ => simp [RepL] at hxs
    subst this
    refine ⟨w, ?_, m, .any, _, _, hK, by simp [Rep], hs, fun _ _ h => h, fun h => by cases h⟩
    simp [Instr.storeAt, Instr.sureAddr, storeVar, sizeOf, typeInfo, hinf, hs1, Value.cells, storeCells]
  · exact hr.elim
end
end Go.Ab
