/-
  Plain lemmas on lists, arrays and worlds that the walks over slices of integers use.
-/
import Derived.Test.YtoabohllphoioaaBase
import Derived.Laws.MakeOwn
namespace Go.Proofs.Ytoabohllphoioaa
open Go.RowKit

theorem Rd.at_ {w : World} {v : Value} {xs : List Value} {fp : List Nat} {A : Option Addr} {n c k : Nat} (h : Rd w 1 v xs fp) (hv : v = .slice A n c) (hk : k < n) :
    ∃ b off u, A = some ⟨b, off, none⟩ ∧ fp = [b] ∧ b < w.heap.size ∧ xs[k]? = some u ∧ w.cell? ⟨b, off + k, none⟩ = some u := by
  obtain ⟨A', n', c', e, h1, h2, h2', h3⟩ := h
  rw [hv] at e
  injection e with e1 e2 e3
  subst e1 e2 e3
  rcases h3 with ⟨h3, _⟩ | ⟨b, off, rfl, rfl, hlt, hc⟩
  · omega
  · have hl : k < xs.length := by omega
    exact ⟨b, off, xs[k], rfl, rfl, hlt, List.getElem?_eq_getElem hl, hc k _ (List.getElem?_eq_getElem hl)⟩

theorem Rd.ints_at {w : World} {K : IntKind} {zs : List Int} {fp : List Nat} {A : Option Addr} {c k : Nat} (h : Rd w 1 (.slice A zs.length c) (cellsOf K zs) fp) (hk : k < zs.length) :
    ∃ b off, A = some ⟨b, off, none⟩ ∧ fp = [b] ∧ b < w.heap.size ∧ w.cell? ⟨b, off + k, none⟩ = some (.int K zs[k]) := by
  obtain ⟨b, off, u, hA, hf, hb, hx, hc⟩ := h.at_ rfl hk
  rw [List.getElem?_map, List.getElem?_eq_getElem hk] at hx
  simp only [Option.map_some, Option.some.injEq] at hx
  subst hx
  exact ⟨b, off, hA, hf, hb, hc⟩

theorem Rd.len_le {w : World} {size : Nat} {xs : List Value} {fp : List Nat} {A : Option Addr} {n c : Nat} (h : Rd w size (.slice A n c) xs fp) : n ≤ 9223372036854775807 := by
  obtain ⟨A', n', c', e, h1, h2, h2', h3⟩ := h
  injection e with e1 e2 e3
  subst e2
  simpa [maxLen] using h2
theorem Rd.len_eq {w : World} {K : IntKind} {zs : List Int} {fp : List Nat} {A : Option Addr} {n c : Nat} (h : Rd w 1 (.slice A n c) (cellsOf K zs) fp) : n = zs.length := by
  obtain ⟨A', n', c', e, h1, h2, h2', h3⟩ := h
  injection e with e1 e2 e3
  subst e2
  simpa using h1.symm
/-- What reads as a list of integers is a slice of that length. -/
theorem Rd.form {w : World} {K : IntKind} {zs : List Int} {fp : List Nat} {v : Value} (h : Rd w 1 v (cellsOf K zs) fp) : ∃ A c, v = .slice A zs.length c := by
  have h' := h
  obtain ⟨A', n', c', rfl, _⟩ := h'
  exact ⟨A', c', by rw [h.len_eq]⟩

/-- The first k cells filled, the others still zero. -/
def part (z : Value) (xs : List Value) (k : Nat) : Array Value := (xs.take k ++ List.replicate (xs.length - k) z).toArray
theorem part_zero (z : Value) (xs : List Value) : part z xs 0 = madeCells #[z] xs.length := by
  unfold part madeCells
  apply Array.ext'
  apply List.ext_getElem?
  intro i
  simp only [List.take_zero, List.nil_append, Nat.sub_zero, List.getElem?_replicate, Array.toList_map, Array.toList_range, List.getElem?_map]
  by_cases h : i < xs.length
  · simp [h, Nat.mod_one]
  · simp [h]
theorem part_full (z : Value) (xs : List Value) : part z xs xs.length = xs.toArray := by simp [part]
theorem part_set (z : Value) (xs : List Value) (k : Nat) (h : k < xs.length) : (part z xs k).setIfInBounds k xs[k] = part z xs (k + 1) := by
  unfold part
  rw [List.setIfInBounds_toArray]
  congr 1
  have e : xs.length - k = (xs.length - (k + 1)) + 1 := by omega
  have e2 : min k xs.length = k := by omega
  rw [e, List.replicate_succ, List.set_append, if_neg (by simp [List.length_take, e2]), List.length_take, e2, Nat.sub_self, List.set_cons_zero, List.take_succ_eq_append_getElem h, List.append_assoc]
  rfl
theorem part_size (z : Value) (xs : List Value) (k : Nat) (h : k ≤ xs.length) : (part z xs k).size = xs.length := by
  simp [part]; omega
/-- A fresh block that holds just the cells xs. -/
theorem Rd.fresh {w w' : World} {e : TypeId} {xs : List Value} {size n : Nat} (hn : n ≤ maxLen) (hl : xs.length = n * size) {g : Nat} (h : w'.heap[g]? = some (.cells xs.toArray e (0, 0))) (hg : w.heap.size ≤ g) :
    ∃ fp, Rd w' size (.slice (some ⟨g, 0, none⟩) n n) xs fp ∧ NF w' fp ∧ From w.heap.size fp := by
  have hlt : g < w'.heap.size := by
    rcases Nat.lt_or_ge g w'.heap.size with hlt | hge
    · exact hlt
    · rw [Array.getElem?_eq_none hge] at h; cases h
  by_cases h0 : n = 0
  · exact ⟨[], ⟨_, n, n, rfl, hl, hn, Nat.le_refl _, .inl ⟨h0, rfl⟩⟩, NF.nil _, From.nil _⟩
  · refine ⟨[g], ⟨_, n, n, rfl, hl, hn, Nat.le_refl _, .inr ⟨g, 0, rfl, rfl, hlt, fun i u hu => ?_⟩⟩, fun b hb i => ?_, fun b hb => ?_⟩
    · simp [World.cell?, h, hu]
    · simp at hb; subst hb
      simp [World.frozen?, h]
    · simp at hb; subst hb; exact hg

/-- What a copy answers: a slice in new memory that reads as the list. -/
def CopyPost (K : IntKind) (w : World) (zs : List Int) (e : Ending) (w' : World) : Prop :=
  ∃ A c fp, e = .returned (.slice A zs.length c) ∧ Rd w' 1 (.slice A zs.length c) (cellsOf K zs) fp ∧ NF w' fp ∧ From w.heap.size fp ∧ Below w.heap.size w w'

/-- The marks: the numbers from k on, one a cell, each as f lays it. -/
def marks (f : Int → Int) (k : Int) (n : Nat) : List Int := (List.range n).map fun (i : Nat) => f (k + i)
theorem marks_length (f : Int → Int) (k : Int) (n : Nat) : (marks f k n).length = n := by simp [marks]
theorem marks_get (f : Int → Int) (k : Int) (n i : Nat) (h : i < (marks f k n).length) : (marks f k n)[i] = f (k + i) := by simp [marks]

/-- One mark more. -/
theorem mark_step {wr : World} {b off n k : Nat} {K : IntKind} {f : Int → Int} {q : Int} {old : Nat → Value} (hk : k < n)
    (hcl : ∀ j, j < n → wr.cell? ⟨b, off + j, none⟩ = some (if j < k then .int K (f (q + j)) else old j)) :
    ∀ j, j < n → (wr.setCell ⟨b, off + k, none⟩ (.int K (f (q + k)))).cell? ⟨b, off + j, none⟩ = some (if j < k + 1 then .int K (f (q + j)) else old j) := by
  intro j hj
  by_cases e : j = k
  · subst e
    rw [World.cell?_setCell_same _ _ _ (hcl j hj), if_pos (by omega)]
  · rw [World.cell?_setCell_other _ _ _ _ (by intro h; injection h with _ h2 _; omega), hcl j hj]
    by_cases h1 : j < k
    · rw [if_pos h1, if_pos (by omega)]
    · rw [if_neg h1, if_neg (by omega)]
theorem mark_done {wr : World} {b off n c : Nat} {K : IntKind} {f : Int → Int} {q : Int} {old : Nat → Value} (hn : n ≤ maxLen) (hc : n ≤ c) (hb : b < wr.heap.size)
    (hcl : ∀ j, j < n → wr.cell? ⟨b, off + j, none⟩ = some (if j < n then .int K (f (q + j)) else old j)) :
    Rd wr 1 (.slice (some ⟨b, off, none⟩) n c) (cellsOf K (marks f q n)) [b] := by
  refine ⟨_, n, c, rfl, by simp [marks], hn, hc, .inr ⟨b, off, rfl, rfl, hb, fun i u hu => ?_⟩⟩
  have hi : i < n := by
    rcases Nat.lt_or_ge i n with h | h
    · exact h
    · rw [List.getElem?_eq_none (by simpa [marks] using h)] at hu; cases hu
  rw [hcl i hi, if_pos hi, ← hu]
  simp [marks, hi]

/-- All of these numbers are bytes. -/
def Byt (zs : List Int) : Prop := ∀ z ∈ zs, 0 ≤ z ∧ z ≤ 255
theorem Byt.at_ {zs : List Int} (h : Byt zs) {k : Nat} (hk : k < zs.length) : 0 ≤ zs[k] ∧ zs[k] ≤ 255 := h _ (List.getElem_mem hk)
end Go.Proofs.Ytoabohllphoioaa
