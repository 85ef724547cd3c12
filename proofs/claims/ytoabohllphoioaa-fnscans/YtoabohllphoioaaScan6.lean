/-
  Chapter 6, plain: scans from behind the last key on give all rows in their order.
-/
import Derived.Test.YtoabohllphoioaaSpec6d
namespace Go.Proofs.Ytoabohllphoioaa

/-- Ascending by key. -/
def Asc (L : List R) : Prop := L.Pairwise fun a b => keyR a < keyR b

theorem scanF_asc : ∀ (rs : List R) (p : Option Int), scanF p rs = 0 → Asc rs ∧ (∀ k, p = some k → ∀ r ∈ rs, k < keyR r) := by
  intro rs
  induction rs with
  | nil => intro p _; exact ⟨List.Pairwise.nil, by simp⟩
  | cons r t ih =>
    intro p h
    unfold scanF at h
    by_cases h0 : rowF r = 0
    · rw [if_neg (by simpa using h0)] at h
      by_cases h1 : (p.map fun k => decide (keyR r ≤ k)) = some true
      · rw [if_pos h1] at h; cases h
      · rw [if_neg h1] at h
        obtain ⟨ha, hb⟩ := ih _ h
        refine ⟨List.Pairwise.cons (hb _ rfl) ha, ?_⟩
        rintro k rfl x hx
        have hk : k < keyR r := by simpa using h1
        rcases List.mem_cons.1 hx with rfl | hx
        · exact hk
        · have := hb _ rfl x hx; omega
    · rw [if_pos h0] at h; exact absurd h h0
theorem rowsF_asc {rs : List R} (h : rowsF rs = 0) : Asc rs := by
  unfold rowsF at h
  split at h
  · cases h
  · exact (scanF_asc rs none h).1

theorem asc_places {p : Pl} (h : placesF p = 0) : Asc p.fs.flatten := by
  have hz := (placesF_zero h).2.2.2.1
  unfold Asc
  rw [List.pairwise_flatten]
  refine ⟨fun rs hrs => ?_, ?_⟩
  · obtain ⟨k, hk, rfl⟩ := List.mem_iff_getElem.1 hrs
    exact rowsF_asc (hz k hk).1
  · rw [List.pairwise_iff_getElem]
    intro i j hi hj hij x hx y hy
    have hxi := List.all_eq_true.1 (hz i hi).2 x hx
    have hyj := List.all_eq_true.1 (hz j hj).2 y hy
    obtain ⟨a, ha, rfl⟩ := List.mem_iff_getElem.1 hx
    obtain ⟨b, hb, rfl⟩ := List.mem_iff_getElem.1 hy
    have f1 := (rowsF_fits (hz i hi).1).1 a ha
    have f2 := (rowsF_fits (hz j hj).1).1 b hb
    unfold solidAt at hxi hyj
    simp only [Bool.and_eq_true, beq_iff_eq] at hxi hyj
    unfold Fit at f1 f2
    unfold keyR
    omega

/-- Where the scan stands when j rows have come. -/
def atK (L : List R) (j : Nat) : Int := if h : 0 < j ∧ j ≤ L.length then keyR (L[j - 1]'(by omega)) + 1 else 0
theorem atK_zero (L : List R) : atK L 0 = 0 := rfl
theorem atK_pos {L : List R} {j : Nat} (h : 0 < j) (h2 : j ≤ L.length) : atK L j = keyR (L[j - 1]'(by omega)) + 1 := dif_pos ⟨h, h2⟩
theorem key_bound {L : List R} (hf : Fits L) {i : Nat} (h : i < L.length) : 1 ≤ keyR L[i] ∧ keyR L[i] ≤ 83 := by
  have := hf i h; unfold Fit at this; unfold keyR; omega
theorem atK_range {L : List R} (hf : Fits L) (j : Nat) : 0 ≤ atK L j ∧ atK L j ≤ 84 := by
  unfold atK
  split
  · rename_i h
    have := key_bound hf (show j - 1 < L.length by omega)
    omega
  · omega
theorem cut_drop {L : List R} (hf : Fits L) (ha : Asc L) (j : Nat) (h : j ≤ L.length) : cutR L (atK L j) 100 = L.drop j := by
  have hp : ∀ a b (x : a < L.length) (y : b < L.length), a < b → keyR L[a] < keyR L[b] := fun a b x y hab => (List.pairwise_iff_getElem.1 ha) a b x y hab
  have e : cutR L (atK L j) 100 = cutR (L.take j ++ L.drop j) (atK L j) 100 := by rw [List.take_append_drop]
  rw [e]
  unfold cutR
  rw [List.filter_append]
  have e1 : (L.take j).filter (fun r => decide (atK L j ≤ keyR r) && decide (keyR r < 100)) = [] := by
    rw [List.filter_eq_nil_iff]
    intro r hr
    obtain ⟨i, hi, rfl⟩ := List.mem_iff_getElem.1 hr
    rw [List.length_take] at hi
    rw [List.getElem_take, atK_pos (by omega) h]
    have : keyR (L[i]'(by omega)) ≤ keyR (L[j - 1]'(by omega)) := by
      by_cases hij : i = j - 1
      · subst hij; exact Int.le_refl _
      · exact Int.le_of_lt (hp i (j - 1) (by omega) (by omega) (by omega))
    simp only [Bool.and_eq_true, decide_eq_true_eq]
    omega
  have e2 : (L.drop j).filter (fun r => decide (atK L j ≤ keyR r) && decide (keyR r < 100)) = L.drop j := by
    rw [List.filter_eq_self]
    intro r hr
    obtain ⟨i, hi, rfl⟩ := List.mem_iff_getElem.1 hr
    rw [List.length_drop] at hi
    rw [List.getElem_drop]
    have hb := key_bound hf (show j + i < L.length by omega)
    have hc : atK L j ≤ keyR (L[j + i]'(by omega)) := by
      rcases Nat.eq_zero_or_pos j with h0 | h0
      · subst h0; rw [atK_zero]; omega
      · rw [atK_pos h0 h]
        have := hp (j - 1) (j + i) (by omega) (by omega) (by omega)
        omega
    simp only [Bool.and_eq_true, decide_eq_true_eq]
    omega
  rw [e1, e2, List.nil_append]

/-- What a round of the scan answers when j rows have come. -/
theorem sc_round {p : Pl} (h : placesF p = 0) (m : Int) (hm : 1 ≤ m ∧ m ≤ 12) (j : Nat) (hj : j ≤ p.fs.flatten.length) :
    scC p (atK p.fs.flatten j) m = 0 ∧ scL p (atK p.fs.flatten j) m = (p.fs.flatten.drop j).take (cap m (p.fs.flatten.length - j)) := by
  have hf := files_fits h
  have hr := atK_range hf j
  have hC : scC p (atK p.fs.flatten j) m = 0 := by
    unfold scC
    rw [if_pos h, inB_true.2 ⟨hr.1, by omega⟩, inB_true.2 hm]
    rfl
  refine ⟨hC, ?_⟩
  unfold scL
  rw [if_pos hC, cut_drop hf (asc_places h) j hj, List.length_drop]
/-- How far it comes: to the end, or on. -/
theorem cap_pos {m : Int} (hm : 1 ≤ m) {n : Nat} : cap m n = 0 ↔ n = 0 := by unfold cap; split <;> omega
theorem sc_more {L : List R} {m : Int} {j : Nat} (hj : j ≤ L.length) :
    L.take j ++ (L.drop j).take (cap m (L.length - j)) = L.take (j + cap m (L.length - j)) := by
  rw [List.take_add]
end Go.Proofs.Ytoabohllphoioaa
