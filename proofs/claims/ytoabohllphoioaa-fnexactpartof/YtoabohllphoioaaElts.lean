/-
  A slice of structs of one kind: each element is so many cells. Any kind, any number of cells.
-/
import Derived.Test.YtoabohllphoioaaWords
namespace Go.Proofs.Ytoabohllphoioaa
open Go.RowKit

/-- The cells of a list of elements. -/
def ecs {α : Type} (ec : α → List Value) (l : List α) : List Value := l.flatMap ec
section
variable {α : Type} {ec : α → List Value} {K : Nat}
theorem ecs_cons (r : α) (t : List α) : ecs ec (r :: t) = ec r ++ ecs ec t := rfl
theorem ecs_append (s t : List α) : ecs ec (s ++ t) = ecs ec s ++ ecs ec t := List.flatMap_append ..
theorem ecs_length (hK : ∀ a, (ec a).length = K) (l : List α) : (ecs ec l).length = l.length * K := by
  induction l with
  | nil => simp [ecs]
  | cons r t ih => rw [ecs_cons, List.length_append, ih, List.length_cons, hK, Nat.succ_mul]; omega
theorem ecs_get (hK : ∀ a, (ec a).length = K) (l : List α) (k j : Nat) (hk : k < l.length) (hj : j < K) : (ecs ec l)[k * K + j]? = (ec l[k])[j]? := by
  induction l generalizing k with
  | nil => simp at hk
  | cons r t ih =>
    rw [ecs_cons]
    match k, hk with
    | 0, _ => rw [List.getElem?_append_left (by rw [hK]; omega)]; simp
    | k + 1, hk =>
      have e : (k + 1) * K + j - (ec r).length = k * K + j := by rw [hK, Nat.succ_mul]; omega
      rw [List.getElem?_append_right (by rw [hK, Nat.succ_mul]; omega), e, ih k (by simpa using hk)]
      rfl
theorem Rd.elt_len (hK : ∀ a, (ec a).length = K) (hp : 0 < K) {w : World} {l : List α} {fp : List Nat} {A : Option Addr} {n c : Nat} (h : Rd w K (.slice A n c) (ecs ec l) fp) : n = l.length := by
  obtain ⟨A', n', c', e, h1, h2, h2', h3⟩ := h
  injection e with e1 e2 e3
  subst e2
  rw [ecs_length hK] at h1
  exact (Nat.eq_of_mul_eq_mul_right hp h1).symm
theorem Rd.elt_form (hK : ∀ a, (ec a).length = K) (hp : 0 < K) {w : World} {l : List α} {fp : List Nat} {v : Value} (h : Rd w K v (ecs ec l) fp) : ∃ A c, v = .slice A l.length c := by
  have h' := h
  obtain ⟨A', n', c', rfl, _⟩ := h'
  exact ⟨A', c', by rw [h.elt_len hK hp]⟩
/-- The k-th element of a slice lies there. -/
theorem Rd.elt_at (hK : ∀ a, (ec a).length = K) {w : World} {l : List α} {fp : List Nat} {A : Option Addr} {c k : Nat} (h : Rd w K (.slice A l.length c) (ecs ec l) fp) (hk : k < l.length) :
    ∃ b off, A = some ⟨b, off, none⟩ ∧ fp = [b] ∧ b < w.heap.size ∧ ∀ j u, j < K → (ec l[k])[j]? = some u → w.cell? ⟨b, off + k * K + j, none⟩ = some u := by
  obtain ⟨A', n', c', e, h1, h2, h2', h3⟩ := h
  injection e with e1 e2 e3
  subst e1 e2 e3
  rcases h3 with ⟨h3, _⟩ | ⟨b, off, rfl, rfl, hlt, hc⟩
  · omega
  · refine ⟨b, off, rfl, rfl, hlt, fun j u hj hu => ?_⟩
    rw [Nat.add_assoc]
    exact hc (k * K + j) _ (by rw [ecs_get hK l k j hk hj]; exact hu)
/-- The first k elements filled, the others still zero. -/
def partE (ec : α → List Value) (z : α) (l : List α) (k : Nat) : Array Value := (ecs ec (l.take k ++ List.replicate (l.length - k) z)).toArray
theorem partE_full (z : α) (l : List α) : partE ec z l l.length = (ecs ec l).toArray := by simp [partE]
theorem ecs_zeros (z : α) (u : Value) (hz : ec z = List.replicate K u) (n : Nat) : ecs ec (List.replicate n z) = List.replicate (n * K) u := by
  induction n with
  | zero => simp [ecs]
  | succ n ih => rw [List.replicate_succ, ecs_cons, ih, hz, Nat.succ_mul, Nat.add_comm (n * K) K, List.replicate_append_replicate]
theorem made_zeros (u : Value) (zc : Array Value) (hz : zc.toList = List.replicate K u) (hp : 0 < K) (n : Nat) : madeCells zc (n * K) = (List.replicate (n * K) u).toArray := by
  unfold madeCells
  apply Array.ext'
  apply List.ext_getElem?
  intro i
  simp only [List.getElem?_replicate, Array.toList_map, Array.toList_range, List.getElem?_map]
  have hs : zc.size = K := by have := congrArg List.length hz; simpa using this
  by_cases h : i < n * K
  · have h4 : i % zc.size < K := by rw [hs]; exact Nat.mod_lt _ hp
    have hg : zc.toList[i % zc.size]? = some u := by rw [hz, List.getElem?_replicate, if_pos h4]
    rw [Array.getElem?_toList] at hg
    simp only [h, if_true, List.getElem?_range h, Option.map_some]
    rw [getElem!_def, hg]
  · simp [h]
theorem partE_zero {z : α} (u : Value) (zc : Array Value) (hz : ec z = List.replicate K u) (hc : zc.toList = List.replicate K u) (hp : 0 < K) (l : List α) : partE ec z l 0 = madeCells zc (l.length * K) := by
  unfold partE
  rw [List.take_zero, List.nil_append, Nat.sub_zero, ecs_zeros z u hz, made_zeros u zc hc hp]
/-- So many cells one behind the other are set. -/
def setAll (cs : Array Value) (at_ : Nat) : List Value → Array Value
  | [] => cs
  | v :: vs => setAll (cs.setIfInBounds at_ v) (at_ + 1) vs
theorem setAll_list (l : List Value) : ∀ (vs s q t : List Value), q.length = vs.length → l = s ++ (q ++ t) → setAll l.toArray s.length vs = (s ++ (vs ++ t)).toArray := by
  intro vs
  induction vs generalizing l with
  | nil => intro s q t hq hl; have := List.eq_nil_of_length_eq_zero hq; subst this; simp [setAll, hl]
  | cons v vs ih =>
    intro s q t hq hl
    match q, hq with
    | x :: q, hq =>
      subst hl
      rw [setAll, List.setIfInBounds_toArray]
      have e : (s ++ (x :: q ++ t)).set s.length v = (s ++ [v]) ++ (q ++ t) := by
        rw [List.set_append_right _ _ (Nat.le_refl _)]; simp
      have := ih ((s ++ [v]) ++ (q ++ t)) (s ++ [v]) q t (by simpa using hq) rfl
      rw [e]
      simp only [List.length_append, List.length_cons, List.length_nil] at this
      rw [this]; simp
theorem partE_step (hK : ∀ a, (ec a).length = K) (z : α) (l : List α) (k : Nat) (h : k < l.length) : setAll (partE ec z l k) (k * K) (ec l[k]) = partE ec z l (k + 1) := by
  unfold partE
  have e : l.length - k = (l.length - (k + 1)) + 1 := by omega
  have hl : (ecs ec (l.take k)).length = k * K := by rw [ecs_length hK, List.length_take, Nat.min_eq_left (by omega)]
  rw [e, List.replicate_succ, ecs_append, ecs_cons, ← hl]
  rw [setAll_list _ (ec l[k]) (ecs ec (l.take k)) (ec z) (ecs ec (List.replicate (l.length - (k + 1)) z)) (by rw [hK, hK]) rfl]
  rw [List.take_succ_eq_append_getElem h, List.append_assoc, ecs_append]
  rfl
theorem partE_cells (hK : ∀ a, (ec a).length = K) {w : World} {g k : Nat} {t : TypeId} {l : List α} {z : α} {u : Value} (hz : ec z = List.replicate K u) (h : w.heap[g]? = some (.cells (partE ec z l k) t (0, 0))) (hk : k < l.length) :
    ∀ j, j < K → w.cell? ⟨g, k * K + j, none⟩ = some u := by
  have hl : (l.take k).length = k := by rw [List.length_take]; omega
  have hn : k < (l.take k ++ List.replicate (l.length - k) z).length := by rw [List.length_append, hl, List.length_replicate]; omega
  have hzz : (l.take k ++ List.replicate (l.length - k) z)[k] = z := by
    rw [List.getElem_append_right (by omega)]; simp
  intro j hj
  rw [cell_of_heap h]
  unfold partE
  rw [List.getElem?_toArray, ecs_get hK _ k j hn hj, hzz, hz, List.getElem?_replicate, if_pos hj]
/-- What a copy of elements answers. -/
def CopyElts (ec : α → List Value) (K : Nat) (w : World) (l : List α) (e : Ending) (w' : World) : Prop :=
  ∃ A c fp, e = .returned (.slice A l.length c) ∧ Rd w' K (.slice A l.length c) (ecs ec l) fp ∧ NF w' fp ∧ From w.heap.size fp ∧ Below w.heap.size w w'
theorem markE_done {wr : World} {b off n c : Nat} {q : Int} {old : Nat → Value} (hn : n ≤ maxLen) (hc : n ≤ c) (hb : b < wr.heap.size)
    (hcl : ∀ j, j < n * K → wr.cell? ⟨b, off + j, none⟩ = some (if j < n * K then .int .i64 ((fun x => x) (q + j)) else old j)) :
    Rd wr K (.slice (some ⟨b, off, none⟩) n c) (cellsOf .i64 (marks (fun x => x) q (n * K))) [b] := by
  refine ⟨_, n, c, rfl, by simp [marks], hn, hc, .inr ⟨b, off, rfl, rfl, hb, fun i u hu => ?_⟩⟩
  have hi : i < n * K := by
    rcases Nat.lt_or_ge i (n * K) with h | h
    · exact h
    · rw [List.getElem?_eq_none (by simpa [marks] using h)] at hu; cases hu
  rw [hcl i hi, if_pos hi, ← hu]
  simp [marks, hi]
/-- The cells of the k-th element of a slice that bears marks. -/
theorem Rd.marksE_at {w : World} {fp : List Nat} {A : Option Addr} {n c k : Nat} {q : Int} (h : Rd w K (.slice A n c) (cellsOf .i64 (marks (fun x => x) q (n * K))) fp) (hk : k < n) :
    ∃ b off, A = some ⟨b, off, none⟩ ∧ fp = [b] ∧ b < w.heap.size ∧ ∀ j, j < K → w.cell? ⟨b, off + k * K + j, none⟩ = some (.int .i64 (q + ((k * K + j : Nat) : Int))) := by
  obtain ⟨A', n', c', e, h1, h2, h2', h3⟩ := h
  injection e with e1 e2 e3
  subst e1 e2 e3
  rcases h3 with ⟨h3, _⟩ | ⟨b, off, rfl, rfl, hlt, hc⟩
  · omega
  · refine ⟨b, off, rfl, rfl, hlt, fun j hj => ?_⟩
    rw [Nat.add_assoc]
    refine hc (k * K + j) _ ?_
    have : k * K + j < n * K := Nat.lt_of_lt_of_le (Nat.add_lt_add_left hj _) (by rw [← Nat.succ_mul]; exact Nat.mul_le_mul_right K hk)
    simp [marks, this]
/-- A block of cells behind stores. -/
theorem heap_set1 {w : World} {g i : Nat} {cs : Array Value} {t : TypeId} {v : Value} (h : w.heap[g]? = some (.cells cs t (0, 0))) : (w.setCell ⟨g, i, none⟩ v).heap[g]? = some (.cells (cs.setIfInBounds i v) t (0, 0)) := by
  simp [World.setCell, Array.getElem?_modify, h]
end
end Go.Proofs.Ytoabohllphoioaa
