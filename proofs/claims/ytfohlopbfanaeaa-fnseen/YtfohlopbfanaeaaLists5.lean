/-
  Plain facts on lists of requests: a request that was noted is found, the others too.
-/
import Derived.Test.YtfohlopbfanaeaaSpec5a
namespace Go.Proofs.Ytfohlopbfanaeaa
open Go.RowKit

theorem sscan_zero : ∀ (l p : List Sn), (∀ x ∈ l, FitS x) → (∀ x ∈ l, ∀ y ∈ p, y.rq ≠ x.rq) → l.Pairwise (fun x y => x.rq ≠ y.rq) → sscan p l = 0 := by
  intro l
  induction l with
  | nil => intro p _ _ _; rfl
  | cons x t ih =>
    intro p h1 h2 h3
    rw [List.pairwise_cons] at h3
    unfold sscan
    have hb : seenB x = true := seenB_iff.2 (h1 x (by simp))
    have hh : hasS p x.rq = false := by
      unfold hasS
      rw [List.any_eq_false]
      intro y hy
      have := h2 x (by simp) y hy
      simpa using this
    rw [if_neg (by rw [hb]; decide), if_neg (by rw [hh]; decide)]
    refine ih _ (fun y hy => h1 y (List.mem_cons_of_mem _ hy)) ?_ h3.2
    intro y hy z hz
    rcases List.mem_append.1 hz with hz | hz
    · exact h2 y (List.mem_cons_of_mem _ hy) z hz
    · simp at hz; subst hz; exact h3.1 y hy
theorem seenF_zero {l : List Sn} (h1 : ∀ x ∈ l, FitS x) (h2 : l.Pairwise (fun x y => x.rq ≠ y.rq)) (h3 : l.length ≤ 6) : seenF l = 0 := by
  unfold seenF
  rw [if_neg (by omega)]
  exact sscan_zero l [] h1 (by simp) h2
theorem getS_mem {l : List Sn} (hp : l.Pairwise (fun x y => x.rq ≠ y.rq)) {x : Sn} (hx : x ∈ l) : getS l x.rq = x ∧ hasS l x.rq = true := by
  constructor
  · unfold getS
    have : l.find? (fun y => y.rq == x.rq) = some x := by
      induction l with
      | nil => cases hx
      | cons y t ih =>
        rw [List.pairwise_cons] at hp
        rw [List.find?_cons]
        rcases List.mem_cons.1 hx with rfl | hx
        · simp
        · have := hp.1 x hx
          rw [show (y.rq == x.rq) = false by simpa using this]
          exact ih hp.2 hx
    rw [this]; rfl
  · unfold hasS
    rw [List.any_eq_true]
    exact ⟨x, hx, by simp⟩
theorem findS_mem {l : List Sn} (h0 : seenF l = 0) {x : Sn} (hx : x ∈ l) : findS l x.rq = (0, x.vl) := by
  obtain ⟨_, hp, _⟩ := seenF_fits h0
  obtain ⟨h1, h2⟩ := getS_mem hp hx
  unfold findS
  rw [if_pos h0, if_pos h2, h1]
theorem noteC_zero {l : List Sn} {x : Sn} (h : noteC l x = 0) : seenF l = 0 ∧ seenB x = true ∧ hasS l x.rq = false := by
  unfold noteC at h
  split at h
  · rename_i h0
    split at h
    · rename_i h1
      split at h
      · cases h
      · rename_i h2; exact ⟨h0, h1, by simpa using h2⟩
    · cases h
  · rename_i h0; exact absurd h h0
theorem note_ok {l : List Sn} {x : Sn} (h : noteC l x = 0) : seenF (noteS l x) = 0 ∧ (noteS l x).length ≤ 6 ∧ findS (noteS l x) x.rq = (0, x.vl) ∧ ∀ i (hi : i < l.length), 1 ≤ i → findS (noteS l x) l[i].rq = (0, l[i].vl) := by
  obtain ⟨h0, h1, h2⟩ := noteC_zero h
  obtain ⟨f1, f2, f3⟩ := seenF_fits h0
  have hn : ∀ y ∈ l, y.rq ≠ x.rq := fun y hy e => by
    have : hasS l x.rq = true := by unfold hasS; rw [List.any_eq_true]; exact ⟨y, hy, by simpa using e⟩
    rw [h2] at this; cases this
  have hall : ∀ y ∈ l ++ [x], FitS y := fun y hy => by
    rcases List.mem_append.1 hy with hy | hy
    · exact f1 y hy
    · simp at hy; subst hy; exact seenB_iff.1 h1
  have hpw : (l ++ [x]).Pairwise (fun x y => x.rq ≠ y.rq) := by
    rw [List.pairwise_append]
    exact ⟨f2, by simp, fun y hy z hz => by simp at hz; subst hz; exact hn y hy⟩
  have hL : noteS l x = noteL l x := by unfold noteS; rw [if_pos h]
  rw [hL]
  unfold noteL
  split
  · have hz : seenF (l ++ [x]) = 0 := seenF_zero hall hpw (by simp; omega)
    exact ⟨hz, by simp; omega, findS_mem hz (by simp), fun i hi _ => findS_mem hz (List.mem_append_left _ (List.getElem_mem hi))⟩
  · have hz : seenF ((l ++ [x]).drop 1) = 0 := seenF_zero (fun y hy => hall y (List.mem_of_mem_drop hy)) (hpw.sublist (List.drop_sublist _ _)) (by simp; omega)
    refine ⟨hz, by simp; omega, findS_mem hz ?_, fun i hi h1i => findS_mem hz ?_⟩
    · rw [List.mem_iff_getElem]
      refine ⟨l.length - 1, by simp; omega, ?_⟩
      rw [List.getElem_drop, List.getElem_append_right (by omega)]
      simp
    · rw [List.mem_iff_getElem]
      refine ⟨i - 1, by simp; omega, ?_⟩
      rw [List.getElem_drop, List.getElem_append_left (by omega)]
      congr 1
      omega
end Go.Proofs.Ytfohlopbfanaeaa
