/-
  Chapter 8 as plain functions: the sum of a row, digests, the least key at which rows differ.
-/
import Derived.Test.YtldimfmhbdhbnaaGreatG43
import Derived.Test.YtldimfmhbdhbnaaGreatG28
import Derived.Test.YtldimfmhbdhbnaaGreatG17
import Derived.Test.YtldimfmhbdhbnaaGreatG50
import Derived.Test.YtldimfmhbdhbnaaGreatG15
namespace Go.Proofs.YtldimfmhbdhbnaaGreat
open Go.RowKit

/-- The checksum of a row's four numbers. -/
def sum8 (r : R) : Int := sumL (pk [r.1, r.2.1, r.2.2.1, r.2.2.2] 4)
theorem sum8_bd (r : R) : 0 ≤ sum8 r ∧ sum8 r ≤ 65520 := sumL_bd _
def rs8 (r : R) : Int := if emptyB r then 0 else sum8 r
theorem rs8_bd (r : R) : 0 ≤ rs8 r ∧ rs8 r ≤ 65520 := by unfold rs8; have := sum8_bd r; split <;> omega
def addS (a b : Int) : Int := (a + b) % 65521
theorem addS_bd (a b : Int) : 0 ≤ addS a b ∧ addS a b ≤ 65520 := by unfold addS; omega
def digL (rs : List R) : Int := rs.foldl (fun n r => addS n (rs8 r)) 0
theorem digL_snoc (rs : List R) (r : R) : digL (rs ++ [r]) = addS (digL rs) (rs8 r) := by simp [digL]
theorem digL_take (rs : List R) (k : Nat) (h : k < rs.length) : digL (rs.take (k + 1)) = addS (digL (rs.take k)) (rs8 rs[k]) := by
  rw [List.take_succ_eq_append_getElem h, digL_snoc]
theorem digL_bd (rs : List R) : 0 ≤ digL rs ∧ digL rs ≤ 65520 := by
  rcases List.eq_nil_or_concat rs with rfl | ⟨t, r, rfl⟩
  · exact ⟨by decide, by decide⟩
  · rw [List.concat_eq_append, digL_snoc]; exact addS_bd _ _
/-- The sum of all: a digest is it, reduced. -/
def totI : List R → Int
  | [] => 0
  | r :: t => rs8 r + totI t
theorem totI_append (a b : List R) : totI (a ++ b) = totI a + totI b := by
  induction a with
  | nil => simp [totI]
  | cons r t ih => simp only [List.cons_append, totI, ih]; omega
theorem totI_nn (a : List R) : 0 ≤ totI a := by
  induction a with
  | nil => simp [totI]
  | cons r t ih => have := rs8_bd r; simp only [totI]; omega
theorem dig_go (rs : List R) : ∀ n : Int, rs.foldl (fun n r => addS n (rs8 r)) n = if rs = [] then n else (n + totI rs) % 65521 := by
  induction rs with
  | nil => intro n; rfl
  | cons r t ih =>
    intro n
    rw [List.foldl_cons, ih]
    by_cases ht : t = []
    · subst ht; rw [if_pos rfl, if_neg (by simp)]; unfold addS; simp [totI]
    · rw [if_neg ht, if_neg (by simp)]; unfold addS; simp only [totI]; omega
theorem digL_tot (rs : List R) : digL rs = totI rs % 65521 := by
  unfold digL
  rw [dig_go]
  split
  · rename_i h; subst h; rfl
  · rw [Int.zero_add]
theorem digL_append (a b : List R) : digL (a ++ b) = addS (digL a) (digL b) := by
  rw [digL_tot, digL_tot, digL_tot, totI_append]; unfold addS; omega
theorem totI_solid (rs : List R) : totI (rs.filter fun r => !emptyB r) = totI rs := by
  induction rs with
  | nil => rfl
  | cons r t ih =>
    rw [List.filter_cons]
    cases he : emptyB r
    · rw [if_pos (by rfl)]; simp only [totI, ih]
    · rw [if_neg (by simp)]; simp only [totI, ih, rs8, he]; simp
/-- Empty rows change no digest. -/
theorem digL_solid (rs : List R) : digL (rs.filter fun r => !emptyB r) = digL rs := by rw [digL_tot, digL_tot, totI_solid]
theorem totI_cut (f t : Int) (rs : List R) (h0 : 0 ≤ f) (h1 : f ≤ t) (h2 : t ≤ 100) (hf : ∀ y ∈ rs, Fit y) : totI (cutR rs 0 f) + totI (cutR rs f t) + totI (cutR rs t 100) = totI rs := by
  induction rs with
  | nil => rfl
  | cons r s ih =>
    have hr := key_range (hf r (by simp))
    have hi := ih fun y hy => hf y (by simp [hy])
    unfold cutR at hi ⊢
    simp only [List.filter_cons]
    by_cases a : keyR r < f
    · have e1 : (decide (0 ≤ keyR r) && decide (keyR r < f)) = true := by simp; omega
      have e2 : (decide (f ≤ keyR r) && decide (keyR r < t)) = false := by simp; omega
      have e3 : (decide (t ≤ keyR r) && decide (keyR r < 100)) = false := by simp; omega
      simp only [e1, e2, e3, if_true, totI]; simp; omega
    · by_cases b : keyR r < t
      · have e1 : (decide (0 ≤ keyR r) && decide (keyR r < f)) = false := by simp; omega
        have e2 : (decide (f ≤ keyR r) && decide (keyR r < t)) = true := by simp; omega
        have e3 : (decide (t ≤ keyR r) && decide (keyR r < 100)) = false := by simp; omega
        simp only [e1, e2, e3, if_true, totI]; simp; omega
      · have e1 : (decide (0 ≤ keyR r) && decide (keyR r < f)) = false := by simp; omega
        have e2 : (decide (f ≤ keyR r) && decide (keyR r < t)) = false := by simp; omega
        have e3 : (decide (t ≤ keyR r) && decide (keyR r < 100)) = true := by simp; omega
        simp only [e1, e2, e3, if_true, totI]; simp; omega

def rsP (r : R) : Int × Int := if rowF r = 0 then (0, rs8 r) else (rowF r, 0)
def adP (a b : Int) : Int × Int := if inB a 0 65520 && inB b 0 65520 then (0, addS a b) else (3, 0)
def dgP (rs : List R) : Int × Int := if rowsF rs = 0 then (0, digL rs) else (rowsF rs, 0)
def rdP (rs : List R) (f t : Int) : Int × Int := if crC rs f t = 0 then (0, digL (crL rs f t)) else (crC rs f t, 0)

/-- The row of a place and a thing, with nothing where there is none. -/
abbrev dAt (a b : List R) (l s : Int) : Prop := getV a l s ≠ getV b l s
/-- The k-th key of all. -/
def difK (a b : List R) (k : Nat) : Bool := decide (dAt a b ((k / 20 : Nat) : Int) ((k % 20 + 1 : Nat) : Int))
def keyK (k : Nat) : Int := 21 * ((k / 20 : Nat) : Int) + ((k % 20 + 1 : Nat) : Int)
theorem keyK_lt {j k : Nat} (h : j < k) : keyK j < keyK k := by unfold keyK; omega
/-- The least key at which rows differ. -/
def dfP (a b : List R) : Int × Int :=
  if rowsF a = 0 then (if rowsF b = 0 then (match (List.range 80).find? (difK a b) with | some k => (0, keyK k) | none => (4, 0)) else (rowsF b, 0)) else (rowsF a, 0)
/-- The least key of the rows that the others lack, or 84. -/
def lackB (b : List R) (r : R) : Bool := !emptyB r && !b.contains r
def lwK (a b : List R) : Int := match a.find? (lackB b) with | some r => keyR r | none => 84

theorem getV_mem {a : List R} (ha : rowsF a = 0) {x : R} (hx : x ∈ a) : getV a x.1 x.2.1 = x := by
  have h := get_of_mem (rowsF_rising ha).1 hx
  unfold getV; rw [h]; rfl
theorem getV_cases (a : List R) (l s : Int) : (getV a l s ∈ a ∧ (getV a l s).1 = l ∧ (getV a l s).2.1 = s) ∨ getV a l s = (l, s, 0, 0) := by
  unfold getV
  cases h : getR a l s with
  | none => exact .inr rfl
  | some x =>
    left
    unfold getR at h
    have h1 := List.mem_of_find?_eq_some h
    have h2 := List.find?_some h
    simp at h2
    exact ⟨h1, h2.1, h2.2⟩
theorem lack_mem {b : List R} {r : R} : lackB b r = true ↔ emptyB r = false ∧ r ∉ b := by unfold lackB; simp
theorem fit_mem {a : List R} (ha : rowsF a = 0) {x : R} (hx : x ∈ a) : Fit x := fit_of_rowF ((rowsF_rising ha).1.above x hx).1
theorem empty_iff {r : R} : emptyB r = true ↔ r = (r.1, r.2.1, 0, 0) := by
  obtain ⟨l, s, h, d⟩ := r; simp [emptyB]
/-- A row that the others lack makes a difference at its key. -/
theorem lack_dif {a b : List R} (ha : rowsF a = 0) {x : R} (hx : x ∈ a) (hl : lackB b x = true) : getV a x.1 x.2.1 ≠ getV b x.1 x.2.1 := by
  obtain ⟨h1, h2⟩ := lack_mem.1 hl
  rw [getV_mem ha hx]
  intro e
  rcases getV_cases b x.1 x.2.1 with ⟨h, _⟩ | h
  · rw [← e] at h; exact h2 h
  · rw [h] at e
    rw [empty_iff.2 e] at h1; cases h1
theorem dif_lack {a b : List R} (ha : rowsF a = 0) (hb : rowsF b = 0) {l s : Int} (h : getV a l s ≠ getV b l s) :
    (∃ x ∈ a, x.1 = l ∧ x.2.1 = s ∧ lackB b x = true) ∨ (∃ x ∈ b, x.1 = l ∧ x.2.1 = s ∧ lackB a x = true) := by
  have inner : ∀ {a b : List R}, rowsF b = 0 → getV a l s ≠ getV b l s → emptyB (getV a l s) = false → ∃ x ∈ a, x.1 = l ∧ x.2.1 = s ∧ lackB b x = true := by
    intro a b hb h he
    rcases getV_cases a l s with ⟨h1, h2, h3⟩ | h1
    · refine ⟨_, h1, h2, h3, lack_mem.2 ⟨he, fun hm => ?_⟩⟩
      have := getV_mem hb hm
      rw [h2, h3] at this
      exact h this.symm
    · rw [h1] at he; simp [emptyB] at he
  cases he : emptyB (getV a l s)
  · exact .inl (inner hb h he)
  · cases he2 : emptyB (getV b l s)
    · exact .inr (inner ha (Ne.symm h) he2)
    · exfalso
      have key : ∀ a : List R, emptyB (getV a l s) = true → getV a l s = (l, s, 0, 0) := by
        intro a he
        rcases getV_cases a l s with ⟨_, h2, h3⟩ | h1
        · have := empty_iff.1 he; rw [h2, h3] at this; exact this
        · exact h1
      rw [key a he, key b he2] at h
      exact h rfl
theorem keyK_of {x : R} (h : Fit x) : ∃ k : Nat, k < 80 ∧ ((k / 20 : Nat) : Int) = x.1 ∧ ((k % 20 + 1 : Nat) : Int) = x.2.1 ∧ keyK k = keyR x := by
  obtain ⟨l, s, q, d⟩ := x
  obtain ⟨h0, h1, h2, h3⟩ := h
  simp only at h0 h1 h2 h3
  refine ⟨(20 * l + s - 1).toNat, by omega, by simp only; omega, by simp only; omega, ?_⟩
  unfold keyK keyR; simp only; omega
theorem lwK_cases (a b : List R) (ha : rowsF a = 0) : (lwK a b = 84 ∧ ∀ x ∈ a, lackB b x = false) ∨ (∃ x ∈ a, lackB b x = true ∧ lwK a b = keyR x ∧ ∀ y ∈ a, lackB b y = true → keyR x ≤ keyR y) := by
  unfold lwK
  cases h : a.find? (lackB b) with
  | none => exact .inl ⟨rfl, fun x hx => by have := List.find?_eq_none.1 h x hx; simpa using this⟩
  | some x =>
    right
    refine ⟨x, List.mem_of_find?_eq_some h, List.find?_some h, rfl, fun y hy hly => ?_⟩
    obtain ⟨_, ls, bs, e, hn⟩ := List.find?_eq_some_iff_append.1 h
    have hasc := rowsF_asc ha
    rw [e] at hy hasc
    rcases List.mem_append.1 hy with hy | hy
    · have := hn y hy; rw [hly] at this; simp at this
    · rcases List.mem_cons.1 hy with rfl | hy
      · exact Int.le_refl _
      · have := (List.pairwise_cons.1 (List.pairwise_append.1 hasc).2.1).1 y hy
        omega
/-- The least difference is the least row that either side lacks. -/
theorem dfP_right {a b : List R} (ha : rowsF a = 0) (hb : rowsF b = 0) : dfP a b = if min (lwK a b) (lwK b a) = 84 then (4, 0) else (0, min (lwK a b) (lwK b a)) := by
  unfold dfP
  rw [if_pos ha, if_pos hb]
  have up : ∀ {a b : List R}, rowsF a = 0 → ∀ x ∈ a, keyR x ≤ 83 := fun {a b} h x hx => (key_range (fit_mem h hx)).2
  have low : ∀ {k : Nat}, k < 80 → difK a b k = true → min (lwK a b) (lwK b a) ≤ keyK k := by
    intro k hk hd
    have hd' : getV a ((k / 20 : Nat) : Int) ((k % 20 + 1 : Nat) : Int) ≠ getV b ((k / 20 : Nat) : Int) ((k % 20 + 1 : Nat) : Int) := of_decide_eq_true hd
    rcases dif_lack ha hb hd' with ⟨x, hx, e1, e2, hl⟩ | ⟨x, hx, e1, e2, hl⟩
    · have e : keyR x = keyK k := by unfold keyR keyK; rw [e1, e2]
      rcases lwK_cases a b ha with ⟨_, h⟩ | ⟨y, hy, hly, h1, h2⟩
      · rw [h x hx] at hl; cases hl
      · have := h2 x hx hl; omega
    · have e : keyR x = keyK k := by unfold keyR keyK; rw [e1, e2]
      rcases lwK_cases b a hb with ⟨_, h⟩ | ⟨y, hy, hly, h1, h2⟩
      · rw [h x hx] at hl; cases hl
      · have := h2 x hx hl; omega
  have hit : min (lwK a b) (lwK b a) ≠ 84 → ∃ k, k < 80 ∧ difK a b k = true ∧ keyK k = min (lwK a b) (lwK b a) := by
    intro hne
    have pick : (∃ x ∈ a, lackB b x = true ∧ min (lwK a b) (lwK b a) = keyR x) ∨ (∃ x ∈ b, lackB a x = true ∧ min (lwK a b) (lwK b a) = keyR x) := by
      rcases lwK_cases a b ha with ⟨h1, _⟩ | ⟨x, hx, hl, h1, _⟩ <;> rcases lwK_cases b a hb with ⟨h2, _⟩ | ⟨y, hy, hly, h2, _⟩
      · omega
      · have := up (b := a) hb y hy; exact .inr ⟨y, hy, hly, by omega⟩
      · have := up (b := b) ha x hx; exact .inl ⟨x, hx, hl, by omega⟩
      · by_cases hle : keyR x ≤ keyR y
        · exact .inl ⟨x, hx, hl, by omega⟩
        · exact .inr ⟨y, hy, hly, by omega⟩
    rcases pick with ⟨x, hx, hl, e⟩ | ⟨x, hx, hl, e⟩
    · obtain ⟨k, hk, e1, e2, e3⟩ := keyK_of (fit_mem ha hx)
      refine ⟨k, hk, decide_eq_true ?_, e3.trans e.symm⟩
      unfold dAt; rw [e1, e2]; exact lack_dif ha hx hl
    · obtain ⟨k, hk, e1, e2, e3⟩ := keyK_of (fit_mem hb hx)
      refine ⟨k, hk, decide_eq_true ?_, e3.trans e.symm⟩
      unfold dAt; rw [e1, e2]; exact Ne.symm (lack_dif hb hx hl)
  cases h : (List.range 80).find? (difK a b) with
  | none =>
    rw [if_pos]
    apply Classical.byContradiction
    intro hne
    obtain ⟨k, hk, hd, _⟩ := hit hne
    have := List.find?_eq_none.1 h k (List.mem_range.2 hk)
    rw [hd] at this; simp at this
  | some k =>
    have hk : k < 80 := List.mem_range.1 (List.mem_of_find?_eq_some h)
    have hd := List.find?_some h
    have hle := low hk hd
    have hk2 : keyK k ≤ 83 := by unfold keyK; omega
    have hne : min (lwK a b) (lwK b a) ≠ 84 := by omega
    rw [if_neg hne]
    obtain ⟨j, hj, hdj, ej⟩ := hit hne
    obtain ⟨_, ls, bs, e, hn⟩ := List.find?_eq_some_iff_append.1 h
    have hkj : ¬ j < k := by
      intro hjk
      have hp : (List.range 80).Pairwise (· < ·) := List.pairwise_lt_range
      have hm : j ∈ List.range 80 := List.mem_range.2 hj
      rw [e] at hm hp
      rcases List.mem_append.1 hm with hm | hm
      · have := hn j hm; rw [hdj] at this; simp at this
      · rcases List.mem_cons.1 hm with rfl | hm
        · omega
        · have := (List.pairwise_cons.1 (List.pairwise_append.1 hp).2.1).1 j hm
          omega
    have : keyK k ≤ keyK j := by
      rcases Nat.lt_or_eq_of_le (Nat.le_of_not_lt hkj) with h | h
      · exact Int.le_of_lt (keyK_lt h)
      · rw [h]; exact Int.le_refl _
    simp only [Prod.mk.injEq, true_and]
    omega
/-- Where nothing differs, the rows with something are the same. -/
theorem same_of_none {a b : List R} (ha : rowsF a = 0) (hb : rowsF b = 0) (h : (dfP a b).1 = 4) : digL a = digL b := by
  rw [dfP_right ha hb] at h
  have h84 : min (lwK a b) (lwK b a) = 84 := by
    apply Classical.byContradiction
    intro hne; rw [if_neg hne] at h; cases h
  have one : ∀ {a b : List R}, rowsF a = 0 → 84 ≤ lwK a b → ∀ x ∈ a, lackB b x = false := by
    intro a b ha hl
    rcases lwK_cases a b ha with ⟨_, h⟩ | ⟨x, hx, _, h1, _⟩
    · exact h
    · have := (key_range (fit_mem ha hx)).2; omega
  have ra := rising_filter (p := fun r => !emptyB r) (rowsF_rising ha).1
  have rb := rising_filter (p := fun r => !emptyB r) (rowsF_rising hb).1
  rw [← digL_solid a, ← digL_solid b]
  congr 1
  refine rising_ext ra rb fun x => ?_
  simp only [List.mem_filter, Bool.not_eq_true']
  constructor
  · rintro ⟨hx, he⟩
    refine ⟨?_, he⟩
    have := one (b := b) ha (by omega) x hx
    apply Classical.byContradiction
    intro hn
    rw [lack_mem.2 ⟨he, hn⟩] at this; cases this
  · rintro ⟨hx, he⟩
    refine ⟨?_, he⟩
    have := one (b := a) hb (by omega) x hx
    apply Classical.byContradiction
    intro hn
    rw [lack_mem.2 ⟨he, hn⟩] at this; cases this
/-- Where the rows with something are the same, nothing differs. -/
theorem none_of_same {a b : List R} (ha : rowsF a = 0) (hb : rowsF b = 0) (h : ∀ x, (x ∈ a ∧ emptyB x = false) ↔ (x ∈ b ∧ emptyB x = false)) : dfP a b = (4, 0) := by
  rw [dfP_right ha hb, if_pos]
  rcases lwK_cases a b ha with ⟨h1, _⟩ | ⟨x, hx, hl, _, _⟩
  · rcases lwK_cases b a hb with ⟨h2, _⟩ | ⟨y, hy, hly, _, _⟩
    · omega
    · obtain ⟨he, hn⟩ := lack_mem.1 hly
      exact absurd ((h y).2 ⟨hy, he⟩).1 hn
  · obtain ⟨he, hn⟩ := lack_mem.1 hl
    exact absurd ((h x).1 ⟨hx, he⟩).1 hn
end Go.Proofs.YtldimfmhbdhbnaaGreat

/-
  Plain facts for the law on places: what was written is right and has the rows; what was laid out has the rows.
-/
namespace Go.Proofs.YtldimfmhbdhbnaaGreat
open Go.RowKit

theorem flat_rows {p : Pl} (h : placesF p = 0) : ∀ x ∈ p.fs.flatten, rowF x = 0 ∧ emptyB x = false ∧ ∃ k, ∃ hk : k < p.fs.length, x.1 = (k : Int) ∧ x ∈ p.fs[k] := by
  intro x hx
  obtain ⟨_, _, _, hf, _⟩ := placesF_zero h
  obtain ⟨l, hl, hx⟩ := List.mem_flatten.1 hx
  obtain ⟨k, hk, rfl⟩ := List.getElem_of_mem hl
  have h1 := (hf k hk).1
  have h2 := List.all_eq_true.1 (hf k hk).2 x hx
  unfold solidAt at h2
  simp only [Bool.and_eq_true, beq_iff_eq, Bool.not_eq_true'] at h2
  exact ⟨((rowsF_rising h1).1.above x hx).1, h2.2, k, hk, h2.1, hx⟩
theorem flat_rising {p : Pl} (h : placesF p = 0) : Rising none p.fs.flatten := rising_of (q := none) (fun x hx => (flat_rows h x hx).1) (asc_places h) (by simp)
theorem flat_rowsF {p : Pl} (h : placesF p = 0) : rowsF p.fs.flatten = 0 := by
  refine rising_rowsF (flat_rising h) ?_
  have := (placesF_zero h).2.2.2.2
  rw [flat_tot]; exact this
/-- What was written is right, and has the rows with the row put among them. -/
theorem wp_right {p : Pl} {r : R} {m : Int} (h : wpC p r m = 0) : placesF (wpL p r m) = 0 ∧ (wpL p r m).mark = m ∧ prC (riL p) r = 0 ∧ prL (riL p) r = riL (wpL p r m) ∧ placesF p = 0 ∧ rowF r = 0 := by
  have h0 : placesF p = 0 := by
    apply Classical.byContradiction; intro hn; rw [wpC_a hn] at h; exact hn h
  have h1 : rowF r = 0 := by
    apply Classical.byContradiction; intro hn; rw [wpC_b h0 hn] at h; exact hn h
  have h2 : m = p.mark + 1 ∧ m ≤ 999 := by
    apply Classical.byContradiction; intro hn; rw [wpC_c h0 h1 hn] at h; cases h
  have h3 : ¬ 12 < totS (wpF p r) := by
    intro hn; rw [wpC_d h0 h1 h2.1 h2.2, if_pos hn] at h; cases h
  have hL : wpL p r m = ⟨wpF p r, m⟩ := by unfold wpL; rw [if_pos h]
  rw [hL]
  obtain ⟨hl4, hm0, hm1, hf, ht⟩ := placesF_zero h0
  have hr := rowF_zero h1
  have hj : r.1.toNat < p.fs.length := by omega
  have hW : wpF p r = p.fs.set r.1.toNat (setR p.fs[r.1.toNat] r) := wpF_at (by omega) hj
  have hlen : (wpF p r).length = 4 := by rw [hW, List.length_set]; exact hl4
  have hat : ∀ k (hk : k < (wpF p r).length), (wpF p r)[k] = if r.1.toNat = k then setR p.fs[r.1.toNat] r else p.fs[k]'(by rw [hW, List.length_set] at hk; exact hk) := by
    intro k hk
    simp only [hW, List.getElem_set]
  have hjr := hf _ hj
  have hQ : placesF ⟨wpF p r, m⟩ = 0 := by
    refine placesF_of hlen (inB_true.2 ⟨by simp only; omega, by simp only; omega⟩) (fun k hk => ?_) (Nat.le_of_not_lt h3)
    show fileF ((wpF p r)[k]) k = 0
    rw [hat k hk]
    split
    · rename_i e
      subst e
      refine fileF_of (rising_rowsF (setR_rising (rowsF_rising hjr.1).1 h1) ?_) (List.all_eq_true.2 fun x hx => ?_)
      · have h5 := len_of_tot (wpF p r) r.1.toNat (by rw [hlen]; omega)
        rw [hat _ (by rw [hlen]; omega), if_pos rfl] at h5
        omega
      · rcases mem_setR.1 hx with ⟨hx, _⟩ | ⟨rfl, he⟩
        · exact List.all_eq_true.1 hjr.2 x hx
        · unfold solidAt; rw [he]; simp; omega
    · have hk' : k < p.fs.length := by rw [hlen] at hk; omega
      exact fileF_of (hf k hk').1 (hf k hk').2
  have hmem : ∀ x, x ∈ (wpF p r).flatten ↔ x ∈ setR p.fs.flatten r := by
    intro x
    rw [mem_setR]
    constructor
    · intro hx
      obtain ⟨_, _, k, hk, e1, hx⟩ := flat_rows hQ x hx
      have hk : k < (wpF p r).length := hk
      have hx : x ∈ (wpF p r)[k] := hx
      have hk' : k < p.fs.length := by rw [hlen] at hk; omega
      rw [hat k hk] at hx
      split at hx
      · rename_i e
        rcases mem_setR.1 hx with ⟨hx, hne⟩ | hx
        · exact .inl ⟨List.mem_flatten.2 ⟨_, List.getElem_mem hj, hx⟩, hne⟩
        · exact .inr hx
      · rename_i e
        refine .inl ⟨List.mem_flatten.2 ⟨_, List.getElem_mem hk', hx⟩, fun hke => ?_⟩
        have hfx := fit_of_rowF (((rowsF_rising (hf k hk').1).1.above x hx).1)
        have := (key_inj hfx (fit_of_rowF h1)).1 hke
        omega
    · intro hx
      rcases hx with ⟨hx, hne⟩ | ⟨rfl, he⟩
      · obtain ⟨_, _, k, hk, e1, hx⟩ := flat_rows h0 x hx
        have hk' : k < (wpF p r).length := by rw [hlen]; omega
        refine List.mem_flatten.2 ⟨(wpF p r)[k], List.getElem_mem hk', ?_⟩
        rw [hat k hk']
        split
        · rename_i e; subst e; exact mem_setR.2 (.inl ⟨hx, hne⟩)
        · exact hx
      · have hk' : x.1.toNat < (wpF p x).length := by rw [hlen]; omega
        refine List.mem_flatten.2 ⟨(wpF p x)[x.1.toNat], List.getElem_mem hk', ?_⟩
        rw [hat _ hk', if_pos rfl]
        exact mem_setR.2 (.inr ⟨rfl, he⟩)
  have hE : (wpF p r).flatten = setR p.fs.flatten r := rising_ext (p := none) (q := none) (flat_rising hQ) (setR_rising (flat_rising h0) h1) hmem
  have hR0 : riL p = p.fs.flatten := by unfold riL; rw [if_pos h0]
  have hR1 : riL ⟨wpF p r, m⟩ = (wpF p r).flatten := by unfold riL; rw [if_pos hQ]
  have hC : prC (riL p) r = 0 := by
    rw [hR0]
    unfold prC
    rw [if_neg (by simpa using flat_rowsF h0), if_neg (by simpa using h1), if_neg]
    rw [← hE, flat_tot]; exact h3
  refine ⟨hQ, rfl, hC, ?_, h0, h1⟩
  rw [hR1, hE]
  unfold prL
  rw [if_pos hC, hR0]
/-- What was laid out has the rows that are of something. -/
theorem po_right {rs : List R} {m : Int} (h : poC rs m = 0) : placesF (poL rs m) = 0 ∧ (poL rs m).mark = m ∧ poC (riL (poL rs m)) m = 0 ∧ poL (riL (poL rs m)) m = poL rs m ∧ dfP (riL (poL rs m)) rs = (4, 0) := by
  obtain ⟨h0, hm⟩ := poC_zero h
  have e2 : poL rs m = ⟨filesOf rs, m⟩ := by unfold poL; rw [if_pos h]
  rw [e2]
  have hr := (rowsF_rising h0).1
  have hl := (rowsF_rising h0).2
  have hQ : placesF ⟨filesOf rs, m⟩ = 0 := by
    refine placesF_of (filesOf_len rs) hm (fun k hk => ?_) (Nat.le_trans (files_tot rs) hl)
    show fileF ((filesOf rs)[k]) k = 0
    rw [filesOf_get]
    exact fileF_of (rising_rowsF (rising_filter hr) (Nat.le_trans (List.length_filter_le _ _) hl)) (List.all_eq_true.2 fun x hx => (List.mem_filter.1 hx).2)
  have hsol : Rising none (solidL rs) := rising_filter hr
  have hmem : ∀ x, x ∈ (filesOf rs).flatten ↔ x ∈ solidL rs := by
    intro x
    rw [solidL_mem]
    constructor
    · intro hx
      obtain ⟨f, hf, hx⟩ := List.mem_flatten.1 hx
      obtain ⟨k, hk, rfl⟩ := List.mem_iff_getElem.1 hf
      rw [filesOf_get] at hx
      obtain ⟨b1, b2⟩ := List.mem_filter.1 hx
      unfold solidAt at b2
      simp only [Bool.and_eq_true, Bool.not_eq_true'] at b2
      exact ⟨b1, b2.2⟩
    · rintro ⟨b1, b3⟩
      have hf := fit_of_rowF (hr.above x b1).1
      unfold Fit at hf
      have hi : x.1.toNat < (filesOf rs).length := by rw [filesOf_len]; omega
      refine List.mem_flatten.2 ⟨(filesOf rs)[x.1.toNat], List.getElem_mem hi, ?_⟩
      rw [filesOf_get]
      refine List.mem_filter.2 ⟨b1, ?_⟩
      unfold solidAt
      simp [b3]; omega
  have hE : (filesOf rs).flatten = solidL rs := rising_ext (p := none) (q := none) (flat_rising hQ) hsol hmem
  have hR : riL ⟨filesOf rs, m⟩ = solidL rs := by unfold riL; rw [if_pos hQ]; exact hE
  have hS0 : rowsF (solidL rs) = 0 := rising_rowsF hsol (Nat.le_trans (List.length_filter_le _ _) hl)
  have hF : filesOf (solidL rs) = filesOf rs := by
    unfold filesOf
    refine List.map_congr_left fun i _ => ?_
    unfold solidL
    rw [List.filter_filter]
    refine List.filter_congr fun x _ => ?_
    unfold solidAt
    cases emptyB x <;> simp
  rw [hR]
  have hC : poC (solidL rs) m = 0 := by unfold poC; rw [if_pos hS0, if_pos hm]
  refine ⟨hQ, rfl, hC, ?_, none_of_same hS0 h0 fun x => ?_⟩
  · unfold poL; rw [if_pos hC, hF]
  · rw [solidL_mem]
    constructor
    · rintro ⟨⟨a, b⟩, _⟩; exact ⟨a, b⟩
    · rintro ⟨a, b⟩; exact ⟨⟨a, b⟩, b⟩
end Go.Proofs.YtldimfmhbdhbnaaGreat
