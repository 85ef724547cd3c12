/-
  A slice of structs of one kind: each element is so many cells. Any kind, any number of cells.
-/
import Derived.Test.YtldimfmhbdhbnaaGreatG26
import Derived.Test.YtldimfmhbdhbnaaGreatG1
namespace Go.Proofs.YtldimfmhbdhbnaaGreat
open Go.RowKit

/-- The cells of a list of elements. -/
def ecs {α : Type} (ec : α → List Value) (l : List α) : List Value := l.flatMap ec
section
variable {α : Type} {ec : α → List Value} {K : Nat}
theorem ecs_cons (r : α) (t : List α) : ecs ec (r :: t) = ec r ++ ecs ec t := rfl
theorem ecs_append (s t : List α) : ecs ec (s ++ t) = ecs ec s ++ ecs ec t := List.flatMap_append ..
theorem ecs_length (hK : ∀ a, (ec a).length = K) (l : List α) : (ecs ec l).length = l.length * K := by
  induction l with
  | nil => simp [ecs]
  | cons r t ih => rw [ecs_cons, List.length_append, ih, List.length_cons, hK, Nat.succ_mul]; omega
theorem ecs_get (hK : ∀ a, (ec a).length = K) (l : List α) (k j : Nat) (hk : k < l.length) (hj : j < K) : (ecs ec l)[k * K + j]? = (ec l[k])[j]? := by
  induction l generalizing k with
  | nil => simp at hk
  | cons r t ih =>
    rw [ecs_cons]
    match k, hk with
    | 0, _ => rw [List.getElem?_append_left (by rw [hK]; omega)]; simp
    | k + 1, hk =>
      have e : (k + 1) * K + j - (ec r).length = k * K + j := by rw [hK, Nat.succ_mul]; omega
      rw [List.getElem?_append_right (by rw [hK, Nat.succ_mul]; omega), e, ih k (by simpa using hk)]
      rfl
theorem Rd.elt_len (hK : ∀ a, (ec a).length = K) (hp : 0 < K) {w : World} {l : List α} {fp : List Nat} {A : Option Addr} {n c : Nat} (h : Rd w K (.slice A n c) (ecs ec l) fp) : n = l.length := by
  obtain ⟨A', n', c', e, h1, h2, h2', h3⟩ := h
  injection e with e1 e2 e3
  subst e2
  rw [ecs_length hK] at h1
  exact (Nat.eq_of_mul_eq_mul_right hp h1).symm
theorem Rd.elt_form (hK : ∀ a, (ec a).length = K) (hp : 0 < K) {w : World} {l : List α} {fp : List Nat} {v : Value} (h : Rd w K v (ecs ec l) fp) : ∃ A c, v = .slice A l.length c := by
  have h' := h
  obtain ⟨A', n', c', rfl, _⟩ := h'
  exact ⟨A', c', by rw [h.elt_len hK hp]⟩
/-- The k-th element of a slice lies there. -/
theorem Rd.elt_at (hK : ∀ a, (ec a).length = K) {w : World} {l : List α} {fp : List Nat} {A : Option Addr} {c k : Nat} (h : Rd w K (.slice A l.length c) (ecs ec l) fp) (hk : k < l.length) :
    ∃ b off, A = some ⟨b, off, none⟩ ∧ fp = [b] ∧ b < w.heap.size ∧ ∀ j u, j < K → (ec l[k])[j]? = some u → w.cell? ⟨b, off + k * K + j, none⟩ = some u := by
  obtain ⟨A', n', c', e, h1, h2, h2', h3⟩ := h
  injection e with e1 e2 e3
  subst e1 e2 e3
  rcases h3 with ⟨h3, _⟩ | ⟨b, off, rfl, rfl, hlt, hc⟩
  · omega
  · refine ⟨b, off, rfl, rfl, hlt, fun j u hj hu => ?_⟩
    rw [Nat.add_assoc]
    exact hc (k * K + j) _ (by rw [ecs_get hK l k j hk hj]; exact hu)
/-- The first k elements filled, the others still zero. -/
def partE (ec : α → List Value) (z : α) (l : List α) (k : Nat) : Array Value := (ecs ec (l.take k ++ List.replicate (l.length - k) z)).toArray
theorem partE_full (z : α) (l : List α) : partE ec z l l.length = (ecs ec l).toArray := by simp [partE]
theorem ecs_zeros (z : α) (u : Value) (hz : ec z = List.replicate K u) (n : Nat) : ecs ec (List.replicate n z) = List.replicate (n * K) u := by
  induction n with
  | zero => simp [ecs]
  | succ n ih => rw [List.replicate_succ, ecs_cons, ih, hz, Nat.succ_mul, Nat.add_comm (n * K) K, List.replicate_append_replicate]
theorem made_zeros (u : Value) (zc : Array Value) (hz : zc.toList = List.replicate K u) (hp : 0 < K) (n : Nat) : madeCells zc (n * K) = (List.replicate (n * K) u).toArray := by
  unfold madeCells
  apply Array.ext'
  apply List.ext_getElem?
  intro i
  simp only [List.getElem?_replicate, Array.toList_map, Array.toList_range, List.getElem?_map]
  have hs : zc.size = K := by have := congrArg List.length hz; simpa using this
  by_cases h : i < n * K
  · have h4 : i % zc.size < K := by rw [hs]; exact Nat.mod_lt _ hp
    have hg : zc.toList[i % zc.size]? = some u := by rw [hz, List.getElem?_replicate, if_pos h4]
    rw [Array.getElem?_toList] at hg
    simp only [h, if_true, List.getElem?_range h, Option.map_some]
    rw [getElem!_def, hg]
  · simp [h]
theorem partE_zero {z : α} (u : Value) (zc : Array Value) (hz : ec z = List.replicate K u) (hc : zc.toList = List.replicate K u) (hp : 0 < K) (l : List α) : partE ec z l 0 = madeCells zc (l.length * K) := by
  unfold partE
  rw [List.take_zero, List.nil_append, Nat.sub_zero, ecs_zeros z u hz, made_zeros u zc hc hp]
/-- So many cells one behind the other are set. -/
def setAll (cs : Array Value) (at_ : Nat) : List Value → Array Value
  | [] => cs
  | v :: vs => setAll (cs.setIfInBounds at_ v) (at_ + 1) vs
theorem setAll_list (l : List Value) : ∀ (vs s q t : List Value), q.length = vs.length → l = s ++ (q ++ t) → setAll l.toArray s.length vs = (s ++ (vs ++ t)).toArray := by
  intro vs
  induction vs generalizing l with
  | nil => intro s q t hq hl; have := List.eq_nil_of_length_eq_zero hq; subst this; simp [setAll, hl]
  | cons v vs ih =>
    intro s q t hq hl
    match q, hq with
    | x :: q, hq =>
      subst hl
      rw [setAll, List.setIfInBounds_toArray]
      have e : (s ++ (x :: q ++ t)).set s.length v = (s ++ [v]) ++ (q ++ t) := by
        rw [List.set_append_right _ _ (Nat.le_refl _)]; simp
      have := ih ((s ++ [v]) ++ (q ++ t)) (s ++ [v]) q t (by simpa using hq) rfl
      rw [e]
      simp only [List.length_append, List.length_cons, List.length_nil] at this
      rw [this]; simp
theorem partE_step (hK : ∀ a, (ec a).length = K) (z : α) (l : List α) (k : Nat) (h : k < l.length) : setAll (partE ec z l k) (k * K) (ec l[k]) = partE ec z l (k + 1) := by
  unfold partE
  have e : l.length - k = (l.length - (k + 1)) + 1 := by omega
  have hl : (ecs ec (l.take k)).length = k * K := by rw [ecs_length hK, List.length_take, Nat.min_eq_left (by omega)]
  rw [e, List.replicate_succ, ecs_append, ecs_cons, ← hl]
  rw [setAll_list _ (ec l[k]) (ecs ec (l.take k)) (ec z) (ecs ec (List.replicate (l.length - (k + 1)) z)) (by rw [hK, hK]) rfl]
  rw [List.take_succ_eq_append_getElem h, List.append_assoc, ecs_append]
  rfl
theorem partE_cells (hK : ∀ a, (ec a).length = K) {w : World} {g k : Nat} {t : TypeId} {l : List α} {z : α} {u : Value} (hz : ec z = List.replicate K u) (h : w.heap[g]? = some (.cells (partE ec z l k) t (0, 0))) (hk : k < l.length) :
    ∀ j, j < K → w.cell? ⟨g, k * K + j, none⟩ = some u := by
  have hl : (l.take k).length = k := by rw [List.length_take]; omega
  have hn : k < (l.take k ++ List.replicate (l.length - k) z).length := by rw [List.length_append, hl, List.length_replicate]; omega
  have hzz : (l.take k ++ List.replicate (l.length - k) z)[k] = z := by
    rw [List.getElem_append_right (by omega)]; simp
  intro j hj
  rw [cell_of_heap h]
  unfold partE
  rw [List.getElem?_toArray, ecs_get hK _ k j hn hj, hzz, hz, List.getElem?_replicate, if_pos hj]
/-- What a copy of elements answers. -/
def CopyElts (ec : α → List Value) (K : Nat) (w : World) (l : List α) (e : Ending) (w' : World) : Prop :=
  ∃ A c fp, e = .returned (.slice A l.length c) ∧ Rd w' K (.slice A l.length c) (ecs ec l) fp ∧ NF w' fp ∧ From w.heap.size fp ∧ Below w.heap.size w w'
theorem markE_done {wr : World} {b off n c : Nat} {q : Int} {old : Nat → Value} (hn : n ≤ maxLen) (hc : n ≤ c) (hb : b < wr.heap.size)
    (hcl : ∀ j, j < n * K → wr.cell? ⟨b, off + j, none⟩ = some (if j < n * K then .int .i64 ((fun x => x) (q + j)) else old j)) :
    Rd wr K (.slice (some ⟨b, off, none⟩) n c) (cellsOf .i64 (marks (fun x => x) q (n * K))) [b] := by
  refine ⟨_, n, c, rfl, by simp [marks], hn, hc, .inr ⟨b, off, rfl, rfl, hb, fun i u hu => ?_⟩⟩
  have hi : i < n * K := by
    rcases Nat.lt_or_ge i (n * K) with h | h
    · exact h
    · rw [List.getElem?_eq_none (by simpa [marks] using h)] at hu; cases hu
  rw [hcl i hi, if_pos hi, ← hu]
  simp [marks, hi]
/-- The cells of the k-th element of a slice that bears marks. -/
theorem Rd.marksE_at {w : World} {fp : List Nat} {A : Option Addr} {n c k : Nat} {q : Int} (h : Rd w K (.slice A n c) (cellsOf .i64 (marks (fun x => x) q (n * K))) fp) (hk : k < n) :
    ∃ b off, A = some ⟨b, off, none⟩ ∧ fp = [b] ∧ b < w.heap.size ∧ ∀ j, j < K → w.cell? ⟨b, off + k * K + j, none⟩ = some (.int .i64 (q + ((k * K + j : Nat) : Int))) := by
  obtain ⟨A', n', c', e, h1, h2, h2', h3⟩ := h
  injection e with e1 e2 e3
  subst e1 e2 e3
  rcases h3 with ⟨h3, _⟩ | ⟨b, off, rfl, rfl, hlt, hc⟩
  · omega
  · refine ⟨b, off, rfl, rfl, hlt, fun j hj => ?_⟩
    rw [Nat.add_assoc]
    refine hc (k * K + j) _ ?_
    have : k * K + j < n * K := Nat.lt_of_lt_of_le (Nat.add_lt_add_left hj _) (by rw [← Nat.succ_mul]; exact Nat.mul_le_mul_right K hk)
    simp [marks, this]
/-- A block of cells behind stores. -/
theorem heap_set1 {w : World} {g i : Nat} {cs : Array Value} {t : TypeId} {v : Value} (h : w.heap[g]? = some (.cells cs t (0, 0))) : (w.setCell ⟨g, i, none⟩ v).heap[g]? = some (.cells (cs.setIfInBounds i v) t (0, 0)) := by
  simp [World.setCell, Array.getElem?_modify, h]
end
end Go.Proofs.YtldimfmhbdhbnaaGreat

/-
  A slice whose elements reach further memory: each element is so many cells, read by a predicate of its own, with the blocks that lie behind them.
-/
namespace Go.Proofs.YtldimfmhbdhbnaaGreat
open Go.RowKit

/-- Nothing has happened but draws. -/
def Qt (w w' : World) : Prop := ∃ m, w' = w.drewN m
theorem Qt.refl (w : World) : Qt w w := ⟨0, rfl⟩
theorem Qt.of (w : World) (m : Nat) : Qt w (w.drewN m) := ⟨m, rfl⟩
theorem Qt.trans {a b c : World} (h : Qt a b) (k : Qt b c) : Qt a c := by
  obtain ⟨m, rfl⟩ := h
  obtain ⟨n, rfl⟩ := k
  exact ⟨_, World.drewN_drewN _ _ _⟩
theorem Qt.drewN {a b : World} (h : Qt a b) (n : Nat) : Qt a (b.drewN n) := h.trans ⟨n, rfl⟩
theorem Qt.drew {a b : World} (h : Qt a b) : Qt a b.drew := h.trans ⟨1, rfl⟩
theorem Qt.below {a b : World} (h : Qt a b) : Below a.heap.size a b := by
  obtain ⟨m, rfl⟩ := h
  exact below_drewN' (Below.refl _ _) m
theorem Qt.cell {a b : World} (h : Qt a b) (p : Addr) : b.cell? p = a.cell? p := by
  obtain ⟨m, rfl⟩ := h
  rfl
theorem Qt.size {a b : World} (h : Qt a b) : b.heap.size = a.heap.size := by
  obtain ⟨m, rfl⟩ := h
  rfl
theorem Rd.qt {w w' : World} {size : Nat} {v : Value} {xs : List Value} {fp : List Nat} (h : Rd w size v xs fp) (q : Qt w w') : Rd w' size v xs fp := h.below' q.below

/-- Three lists go together, place by place. -/
def All3 {α β γ : Type} (P : α → β → γ → Prop) : List α → List β → List γ → Prop
  | [], [], [] => True
  | a :: l, u :: us, f :: fs => P a u f ∧ All3 P l us fs
  | _, _, _ => False
section
variable {α β γ : Type} {P Q : α → β → γ → Prop}
theorem All3.len {l : List α} {us : List β} {fs : List γ} (h : All3 P l us fs) : us.length = l.length ∧ fs.length = l.length := by
  induction l generalizing us fs with
  | nil => match us, fs, h with | [], [], _ => exact ⟨rfl, rfl⟩
  | cons a l ih => match us, fs, h with | u :: us, f :: fs, h => exact ⟨by simp [(ih h.2).1], by simp [(ih h.2).2]⟩
theorem All3.append {l l' : List α} {us us' : List β} {fs fs' : List γ} (h : All3 P l us fs) (h' : All3 P l' us' fs') : All3 P (l ++ l') (us ++ us') (fs ++ fs') := by
  induction l generalizing us fs with
  | nil => match us, fs, h with | [], [], _ => exact h'
  | cons a l ih => match us, fs, h with | u :: us, f :: fs, h => exact ⟨h.1, ih h.2⟩
theorem All3.snoc {l : List α} {us : List β} {fs : List γ} {a : α} {u : β} {f : γ} (h : All3 P l us fs) (h' : P a u f) : All3 P (l ++ [a]) (us ++ [u]) (fs ++ [f]) := h.append ⟨h', trivial⟩
theorem All3.split {l l' : List α} {us : List β} {fs : List γ} (h : All3 P (l ++ l') us fs) : ∃ ua ub fa fb, us = ua ++ ub ∧ fs = fa ++ fb ∧ All3 P l ua fa ∧ All3 P l' ub fb := by
  induction l generalizing us fs with
  | nil => exact ⟨[], us, [], fs, rfl, rfl, trivial, h⟩
  | cons a l ih => match us, fs, h with
    | u :: us, f :: fs, h =>
      obtain ⟨ua, ub, fa, fb, rfl, rfl, h1, h2⟩ := ih h.2
      exact ⟨u :: ua, ub, f :: fa, fb, rfl, rfl, ⟨h.1, h1⟩, h2⟩
theorem All3.cons {a : α} {l : List α} {us : List β} {fs : List γ} (h : All3 P (a :: l) us fs) : ∃ u us' f fs', us = u :: us' ∧ fs = f :: fs' ∧ P a u f ∧ All3 P l us' fs' := by
  match us, fs, h with
  | u :: us, f :: fs, h => exact ⟨u, us, f, fs, rfl, rfl, h.1, h.2⟩
theorem All3.imp {l : List α} {us : List β} {fs : List γ} (h : All3 P l us fs) (k : ∀ a u f, f ∈ fs → P a u f → Q a u f) : All3 Q l us fs := by
  induction l generalizing us fs with
  | nil => match us, fs, h with | [], [], _ => trivial
  | cons a l ih => match us, fs, h with | u :: us, f :: fs, h => exact ⟨k _ _ _ (by simp) h.1, ih h.2 fun a u f hf => k a u f (by simp [hf])⟩
theorem All3.at_ {l : List α} {us : List β} {fs : List γ} (h : All3 P l us fs) {i : Nat} (hi : i < l.length) : ∃ u f, us[i]? = some u ∧ fs[i]? = some f ∧ P l[i] u f := by
  induction l generalizing us fs i with
  | nil => simp at hi
  | cons a l ih => match us, fs, h with
    | u :: us, f :: fs, h =>
      match i, hi with
      | 0, _ => exact ⟨u, f, rfl, rfl, h.1⟩
      | i + 1, hi => exact ih h.2 (by simpa using hi)
theorem All3.each {l : List α} {us : List β} {fs : List γ} (h : All3 P l us fs) : ∀ f ∈ fs, ∃ a u, P a u f := by
  induction l generalizing us fs with
  | nil => match us, fs, h with | [], [], _ => simp
  | cons a l ih => match us, fs, h with
    | u :: us, f :: fs, h =>
      intro x hx
      rcases List.mem_cons.1 hx with rfl | hx
      · exact ⟨_, _, h.1⟩
      · exact ih h.2 x hx
theorem All3.each_u {l : List α} {us : List β} {fs : List γ} (h : All3 P l us fs) : ∀ u ∈ us, ∃ a f, P a u f := by
  induction l generalizing us fs with
  | nil => match us, fs, h with | [], [], _ => simp
  | cons a l ih => match us, fs, h with
    | u :: us, f :: fs, h =>
      intro x hx
      rcases List.mem_cons.1 hx with rfl | hx
      · exact ⟨_, _, h.1⟩
      · exact ih h.2 x hx
end

/-- How an element reads: so many cells, and the blocks behind them. -/
structure Kd (α : Type) where
  K : Nat
  pos : 0 < K
  P : World → α → List Value → List Nat → Prop
  len : ∀ {w : World} {a : α} {us : List Value} {f : List Nat}, P w a us f → us.length = K
  lt : ∀ {w : World} {a : α} {us : List Value} {f : List Nat}, P w a us f → ∀ b ∈ f, b < w.heap.size
  keep : ∀ {w w' : World} {a : α} {us : List Value} {f : List Nat}, P w a us f → w.heap.size ≤ w'.heap.size → (∀ b ∈ f, w'.heap[b]? = w.heap[b]?) → P w' a us f

/-- The i-th cells of many. -/
theorem flat_get {K : Nat} {us : List (List Value)} (hK : ∀ u ∈ us, u.length = K) {i j : Nat} {u : List Value} (hi : us[i]? = some u) (hj : j < K) : us.flatten[i * K + j]? = u[j]? := by
  induction us generalizing i with
  | nil => simp at hi
  | cons x t ih =>
    have hx := hK x (by simp)
    match i, hi with
    | 0, hi =>
      simp at hi; subst hi
      rw [List.flatten_cons, List.getElem?_append_left (by omega)]; simp
    | i + 1, hi =>
      have e : (i + 1) * K + j - x.length = i * K + j := by rw [hx, Nat.succ_mul]; omega
      rw [List.flatten_cons, List.getElem?_append_right (by rw [hx, Nat.succ_mul]; omega), e]
      exact ih (fun u hu => hK u (by simp [hu])) (by simpa using hi)
theorem flat_len {K : Nat} {us : List (List Value)} (hK : ∀ u ∈ us, u.length = K) : us.flatten.length = us.length * K := by
  induction us with
  | nil => simp
  | cons x t ih => rw [List.flatten_cons, List.length_append, ih (fun u hu => hK u (by simp [hu])), hK x (by simp), List.length_cons, Nat.succ_mul]; omega

/-- The slice v reads as the list l; fp: all the blocks that are reached. -/
def Sl {α : Type} (k : Kd α) (w : World) (v : Value) (l : List α) (fp : List Nat) : Prop :=
  ∃ (us : List (List Value)) (f0 : List Nat) (fs : List (List Nat)), Rd w k.K v us.flatten f0 ∧ All3 (k.P w) l us fs ∧ fp = f0 ++ fs.flatten
section
variable {α : Type} {k : Kd α} {w w' : World} {v : Value} {l : List α} {fp : List Nat}
theorem Kd.lens {us : List (List Value)} {fs : List (List Nat)} (h : All3 (k.P w) l us fs) : ∀ u ∈ us, u.length = k.K := fun u hu => by
  obtain ⟨a, f, hp⟩ := h.each_u u hu
  exact k.len hp
theorem Kd.flat_of {us : List (List Value)} {fs : List (List Nat)} (h : All3 (k.P w) l us fs) : us.flatten.length = l.length * k.K := by rw [flat_len (Kd.lens h), h.len.1]
theorem Sl.form (h : Sl k w v l fp) : ∃ A c, v = .slice A l.length c ∧ l.length ≤ maxLen := by
  obtain ⟨us, f0, fs, hr, ha, rfl⟩ := h
  obtain ⟨A, n, c, rfl, h1, h2, _⟩ := hr
  rw [Kd.flat_of ha] at h1
  obtain rfl := Nat.eq_of_mul_eq_mul_right k.pos h1
  exact ⟨A, c, rfl, h2⟩
theorem Sl.len_le {A : Option Addr} {n c : Nat} (h : Sl k w (.slice A n c) l fp) : n = l.length ∧ n ≤ 9223372036854775807 := by
  obtain ⟨A', c', e, h2⟩ := h.form
  injection e with _ e2 _
  subst e2
  exact ⟨rfl, by unfold maxLen at h2; omega⟩
theorem Sl.lt (h : Sl k w v l fp) : ∀ b ∈ fp, b < w.heap.size := by
  obtain ⟨us, f0, fs, hr, ha, rfl⟩ := h
  intro b hb
  rcases List.mem_append.1 hb with hb | hb
  · exact hr.lt b hb
  · obtain ⟨f, hf, hb⟩ := List.mem_flatten.1 hb
    obtain ⟨a, u, hp⟩ := ha.each f hf
    exact k.lt hp b hb
theorem Kd.keeps {us : List (List Value)} {fs : List (List Nat)} (h : All3 (k.P w) l us fs) (hs : w.heap.size ≤ w'.heap.size) (hb : ∀ b ∈ fs.flatten, w'.heap[b]? = w.heap[b]?) : All3 (k.P w') l us fs :=
  h.imp fun _ _ f hf hp => k.keep hp hs fun b hm => hb b (List.mem_flatten.2 ⟨f, hf, hm⟩)
theorem Sl.keep (h : Sl k w v l fp) (hs : w.heap.size ≤ w'.heap.size) (hb : ∀ b ∈ fp, w'.heap[b]? = w.heap[b]?) : Sl k w' v l fp := by
  obtain ⟨us, f0, fs, hr, ha, rfl⟩ := h
  exact ⟨us, f0, fs, hr.keep hs fun b hm => hb b (by simp [hm]), Kd.keeps ha hs fun b hm => hb b (by simp only [List.mem_append]; exact .inr hm), rfl⟩
theorem Sl.below {B : Nat} (h : Sl k w v l fp) (hb : Below B w w') (hB : ∀ b ∈ fp, b < B) : Sl k w' v l fp := h.keep hb.size fun b hm => hb.block b (hB b hm)
theorem Sl.below' (h : Sl k w v l fp) (hb : Below w.heap.size w w') : Sl k w' v l fp := h.below hb h.lt
theorem Sl.but {bs : List Nat} (h : Sl k w v l fp) (hb : But bs w w') (hd : ∀ b ∈ fp, b ∉ bs) : Sl k w' v l fp := h.keep hb.size fun b hm => hb.block b (h.lt b hm) (hd b hm)
theorem Sl.alloc (h : Sl k w v l fp) (o : Obj) : Sl k (w.alloc o) v l fp := h.keep (by simp) fun b hm => Below.heap_alloc _ _ _ (h.lt b hm)
theorem Sl.qt (h : Sl k w v l fp) (q : Qt w w') : Sl k w' v l fp := h.below' q.below
theorem Sl.drewN (h : Sl k w v l fp) (n : Nat) : Sl k (w.drewN n) v l fp := h.keep (Nat.le_refl _) fun _ _ => rfl
theorem Sl.drew (h : Sl k w v l fp) : Sl k w.drew v l fp := h.keep (Nat.le_refl _) fun _ _ => rfl
/-- The i-th element lies there. -/
theorem Sl.at_ {A : Option Addr} {c i : Nat} (h : Sl k w (.slice A l.length c) l fp) (hi : i < l.length) :
    ∃ b off us f, A = some ⟨b, off, none⟩ ∧ b ∈ fp ∧ b < w.heap.size ∧ us.length = k.K ∧ (∀ j u, us[j]? = some u → w.cell? ⟨b, off + i * k.K + j, none⟩ = some u) ∧ k.P w l[i] us f ∧ ∀ x ∈ f, x ∈ fp := by
  obtain ⟨us, f0, fs, hr, ha, rfl⟩ := h
  obtain ⟨u, f, hu, hf, hp⟩ := ha.at_ hi
  have hfl := Kd.flat_of ha
  obtain ⟨A', n', c', e, h1, h2, h2', h3⟩ := hr
  injection e with e1 e2 e3
  subst e1 e2 e3
  rcases h3 with ⟨h3, _⟩ | ⟨b, off, rfl, rfl, hlt, hc⟩
  · omega
  · refine ⟨b, off, u, f, rfl, by simp, hlt, k.len hp, fun j x hx => ?_, hp, fun x hx => by simp only [List.mem_append]; exact .inr (List.mem_flatten.2 ⟨f, List.mem_of_getElem? hf, hx⟩)⟩
    have hj : j < k.K := by
      have := (List.getElem?_eq_some_iff.1 hx).1
      rwa [k.len hp] at this
    rw [Nat.add_assoc]
    exact hc (i * k.K + j) x (by rw [flat_get (Kd.lens ha) hu hj]; exact hx)
theorem Sl.nil (w : World) : Sl k w (.slice none 0 0) [] [] := ⟨[], [], [], Rd.nil w _, trivial, rfl⟩
end
theorem Rd.nodup {w : World} {size : Nat} {v : Value} {xs : List Value} {fp : List Nat} (h : Rd w size v xs fp) : fp.Nodup := by
  obtain ⟨A, n, c, rfl, h1, h2, h2', h3⟩ := h
  rcases h3 with ⟨_, rfl⟩ | ⟨b, off, rfl, rfl, _⟩ <;> simp

/-- Rows as an element: one cell, the slice. -/
def rowsK : Kd (List R) where
  K := 1
  pos := Nat.one_pos
  P w rs us f := ∃ v, us = [v] ∧ Rd w 4 v (rcs rs) f
  len := by rintro w a us f ⟨v, rfl, _⟩; rfl
  lt := by rintro w a us f ⟨v, rfl, h⟩; exact h.lt
  keep := by rintro w w' a us f ⟨v, rfl, h⟩ hs hb; exact ⟨v, rfl, h.keep hs hb⟩
/-- A slice of slices of rows. -/
abbrev RdF (w : World) (v : Value) (fs : List (List R)) (fp : List Nat) : Prop := Sl rowsK w v fs fp
/-- The i-th rows. -/
theorem rowsAt {w : World} {A : Option Addr} {c i : Nat} {l : List (List R)} {fp : List Nat} (h : RdF w (.slice A l.length c) l fp) (hi : i < l.length) :
    ∃ b off B d f, A = some ⟨b, off, none⟩ ∧ b ∈ fp ∧ b < w.heap.size ∧ w.cell? ⟨b, off + i, none⟩ = some (.slice B l[i].length d) ∧ Rd w 4 (.slice B l[i].length d) (rcs l[i]) f ∧ ∀ x ∈ f, x ∈ fp := by
  obtain ⟨b, off, us, f, rfl, hb, hlt, hl, hc, ⟨v, rfl, hr⟩, hf⟩ := Sl.at_ h hi
  obtain ⟨B, d, rfl⟩ := hr.rows_form
  have := hc 0 _ rfl
  simp only [rowsK, Nat.mul_one, Nat.add_zero] at this
  exact ⟨b, off, B, d, f, rfl, hb, hlt, this, hr, hf⟩
end Go.Proofs.YtldimfmhbdhbnaaGreat

/-
  A slice of things of one kind is filled, place by place; it is marked, place by place.
-/
namespace Go.Proofs.YtldimfmhbdhbnaaGreat
open Go.RowKit
section
variable {α : Type} {kd : Kd α}
/-- The first i places of the slice in the first new block are filled, the others zero. -/
def Fill (kd : Kd α) (z : List Value) (w : World) (T : TypeId) (l : List α) (i : Nat) (wr : World) : Prop :=
  ∃ (us : List (List Value)) (fs : List (List Nat)), All3 (kd.P wr) (l.take i) us fs ∧ wr.heap[w.heap.size]? = some (.cells (us.flatten ++ (List.replicate (l.length - i) z).flatten).toArray T (0, 0)) ∧
    NF wr fs.flatten ∧ From (w.heap.size + 1) fs.flatten ∧ fs.flatten.Nodup ∧ Below w.heap.size w wr
theorem Fill.zero {z : List Value} {w : World} {T : TypeId} {l : List α} {cs : Array Value} (hc : cs = (List.replicate l.length z).flatten.toArray) : Fill kd z w T l 0 (w.alloc (.cells cs T)) :=
  ⟨[], [], trivial, by rw [heap_new w _ rfl, hc]; simp, NF.nil _, From.nil _, by simp, below_new _⟩
theorem Fill.below {z : List Value} {w : World} {T : TypeId} {l : List α} {i : Nat} {wr : World} (h : Fill kd z w T l i wr) : Below w.heap.size w wr := by obtain ⟨_, _, _, _, _, _, _, h⟩ := h; exact h
/-- What lies at the next place: zero. -/
theorem Fill.cells {z : List Value} (hz : z.length = kd.K) {w : World} {T : TypeId} {l : List α} {i : Nat} {wr w1 : World} (h : Fill kd z w T l i wr) (hi : i < l.length) (hb : Below wr.heap.size wr w1) :
    w.heap.size < w1.heap.size ∧ (∀ j, w1.frozen? ⟨w.heap.size, j, none⟩ = false) ∧ ∀ j u, z[j]? = some u → w1.cell? ⟨w.heap.size, i * kd.K + j, none⟩ = some u := by
  obtain ⟨us, fs, ha, hg, _⟩ := h
  have hg1 := (hb.block _ (heap_lt hg)).trans hg
  refine ⟨heap_lt hg1, fun j => frozen_of_heap hg1, fun j u hu => ?_⟩
  have hl := Kd.flat_of ha
  rw [List.length_take, Nat.min_eq_left (by omega)] at hl
  have hj := (List.getElem?_eq_some_iff.1 hu).1
  obtain ⟨m, hm⟩ : ∃ m, l.length - i = m + 1 := ⟨l.length - i - 1, by omega⟩
  rw [cell_of_heap hg1, List.getElem?_toArray, List.getElem?_append_right (by omega), hl, hm, List.replicate_succ, List.flatten_cons]
  rw [List.getElem?_append_left (by omega), ← hu]
  congr 1; omega
theorem Fill.step {z : List Value} (hz : z.length = kd.K) {w : World} {T : TypeId} {l : List α} {i : Nat} {wr w1 w2 : World} (h : Fill kd z w T l i wr) (hi : i < l.length) (hb : Below wr.heap.size wr w1)
    {u : List Value} {f : List Nat} (hp : kd.P w1 l[i] u f) (hn : NF w1 f) (hf : From wr.heap.size f) (hnd : f.Nodup) (hbut : But [w.heap.size] w1 w2)
    (hset : ∀ cs, w1.heap[w.heap.size]? = some (.cells cs T (0, 0)) → w2.heap[w.heap.size]? = some (.cells (setAll cs (i * kd.K) u) T (0, 0))) : Fill kd z w T l (i + 1) w2 := by
  obtain ⟨us, fs, ha, hg, hnf, hfr, hno, hbel⟩ := h
  have hg1 := (hb.block _ (heap_lt hg)).trans hg
  have hlt : ∀ b ∈ fs.flatten, b < wr.heap.size := fun b hm => by
    obtain ⟨x, hx, hm⟩ := List.mem_flatten.1 hm
    obtain ⟨a, u, hp⟩ := ha.each x hx
    exact kd.lt hp b hm
  have hz0 := heap_lt hg
  have hs1 := hb.size
  have hl := Kd.flat_of ha
  rw [List.length_take, Nat.min_eq_left (by omega)] at hl
  have kp1 : ∀ b ∈ fs.flatten, w2.heap[b]? = wr.heap[b]? := fun b hm => (hbut.block b (by have := hlt b hm; omega) (by have := hfr b hm; simp; omega)).trans (hb.block b (hlt b hm))
  have kp2 : ∀ b ∈ f, w2.heap[b]? = w1.heap[b]? := fun b hm => hbut.block b (kd.lt hp b hm) (by have := hf b hm; simp; omega)
  refine ⟨us ++ [u], fs ++ [f], ?_, ?_, ?_, ?_, ?_, ?_⟩
  · rw [List.take_succ_eq_append_getElem hi]
    exact (Kd.keeps ha (Nat.le_trans hs1 hbut.size) kp1).snoc (kd.keep hp hbut.size kp2)
  · rw [hset _ hg1]
    obtain ⟨m, hm⟩ : ∃ m, l.length - i = m + 1 := ⟨l.length - i - 1, by omega⟩
    have hm2 : l.length - (i + 1) = m := by omega
    rw [hm, hm2, List.replicate_succ, List.flatten_cons, ← hl, setAll_list _ u us.flatten z (List.replicate m z).flatten (by rw [hz, kd.len hp]) rfl]
    simp
  · intro b hm
    simp only [List.flatten_append, List.flatten_cons, List.flatten_nil, List.append_nil, List.mem_append] at hm
    intro j
    rcases hm with hm | hm
    · exact (World.frozen?_of_block (w := wr) (kp1 b hm)).trans (hnf b hm j)
    · exact (World.frozen?_of_block (w := w1) (kp2 b hm)).trans (hn b hm j)
  · intro b hm
    simp only [List.flatten_append, List.flatten_cons, List.flatten_nil, List.append_nil, List.mem_append] at hm
    rcases hm with hm | hm
    · exact hfr b hm
    · have := hf b hm; omega
  · simp only [List.flatten_append, List.flatten_cons, List.flatten_nil, List.append_nil]
    refine List.nodup_append.2 ⟨hno, hnd, fun a ha b hb2 => ?_⟩
    have := hlt a ha; have := hf b hb2; omega
  · have : Below w.heap.size w w1 := hbel.trans (hb.mono (by omega))
    exact this.trans (hbut.below this.size (by intro b hm; simp at hm; omega))
/-- What a copy answers: a slice in new memory. -/
def CopySl (kd : Kd α) (w : World) (l : List α) (e : Ending) (w' : World) : Prop :=
  ∃ A c fp, e = .returned (.slice A l.length c) ∧ Sl kd w' (.slice A l.length c) l fp ∧ NF w' fp ∧ From w.heap.size fp ∧ fp.Nodup ∧ Below w.heap.size w w'
theorem Fill.done {z : List Value} {w : World} {T : TypeId} {l : List α} {wr : World} (hmax : l.length ≤ maxLen) (h : Fill kd z w T l l.length wr) :
    CopySl kd w l (.returned (.slice (some ⟨w.heap.size, 0, none⟩) l.length l.length)) wr := by
  obtain ⟨us, fs, ha, hg, hnf, hfr, hno, hbel⟩ := h
  rw [List.take_length] at ha
  rw [Nat.sub_self, List.replicate_zero, List.flatten_nil, List.append_nil] at hg
  obtain ⟨f0, h1, h2, h3⟩ := Rd.fresh (w := w) (n := l.length) (size := kd.K) hmax (Kd.flat_of ha) hg (Nat.le_refl _)
  have h0 : ∀ b ∈ f0, b = w.heap.size := by
    obtain ⟨A, n, c, e, _, _, _, h⟩ := h1
    injection e with e1 _ _
    rcases h with ⟨_, rfl⟩ | ⟨b, off, e2, rfl, _⟩
    · simp
    · rw [e2] at e1; injection e1 with e1; injection e1 with e1 _ _; intro x hx; simp at hx; rw [hx, e1]
  refine ⟨_, _, f0 ++ fs.flatten, rfl, ⟨us, f0, fs, h1, ha, rfl⟩, ?_, ?_, ?_, hbel⟩
  · intro b hm; rcases List.mem_append.1 hm with hm | hm
    · exact h2 b hm
    · exact hnf b hm
  · intro b hm; rcases List.mem_append.1 hm with hm | hm
    · exact h3 b hm
    · have := hfr b hm; omega
  · exact List.nodup_append.2 ⟨h1.nodup, hno, fun a ha b hb => by have := h0 a ha; have := hfr b hb; omega⟩

/-- Marks: each element takes so many numbers, in order. -/
def cntL (cnt : α → Nat) (l : List α) : Nat := (l.map cnt).sum
def markL (mk : α → Int → α) (cnt : α → Nat) : List α → Int → List α
  | [], _ => []
  | a :: t, q => mk a q :: markL mk cnt t (q + cnt a)
section
variable {mk : α → Int → α} {cnt : α → Nat}
theorem cntL_cons (a : α) (t : List α) : cntL cnt (a :: t) = cnt a + cntL cnt t := by simp [cntL]
theorem cntL_append (s t : List α) : cntL cnt (s ++ t) = cntL cnt s + cntL cnt t := by simp [cntL]
theorem cntL_take (l : List α) (i : Nat) (h : i < l.length) : cntL cnt (l.take (i + 1)) = cntL cnt (l.take i) + cnt l[i] := by
  rw [List.take_succ_eq_append_getElem h, cntL_append, cntL_cons]; rfl
theorem cntL_take_le (l : List α) (i : Nat) : cntL cnt (l.take i) ≤ cntL cnt l := by
  have h := List.take_append_drop i l
  have e : cntL cnt l = cntL cnt (l.take i) + cntL cnt (l.drop i) := by
    rw [← cntL_append, h]
  omega
theorem markL_length (l : List α) (q : Int) : (markL mk cnt l q).length = l.length := by
  induction l generalizing q with
  | nil => rfl
  | cons a t ih => simp [markL, ih]
theorem markL_get (l : List α) (q : Int) (i : Nat) (h : i < l.length) (h' : i < (markL mk cnt l q).length) : (markL mk cnt l q)[i] = mk l[i] (q + (cntL cnt (l.take i) : Nat)) := by
  induction l generalizing q i with
  | nil => simp at h
  | cons a t ih =>
    match i, h with
    | 0, _ => simp [markL, cntL]
    | i + 1, h =>
      have := ih (q + cnt a) i (by simpa using h) (by rw [markL_length]; simpa using h)
      simp only [markL, List.getElem_cons_succ, List.take_succ_cons, cntL_cons]
      rw [this]; congr 1; push_cast; omega
theorem markL_set (l : List α) (q : Int) (i : Nat) (h : i < l.length) :
    (markL mk cnt (l.take i) q ++ l.drop i).set i (mk l[i] (q + (cntL cnt (l.take i) : Nat))) = markL mk cnt (l.take (i + 1)) q ++ l.drop (i + 1) := by
  have hl : (markL mk cnt (l.take i) q).length = i := by rw [markL_length, List.length_take]; omega
  rw [List.set_append_right _ _ (by omega), hl, Nat.sub_self, List.drop_eq_getElem_cons h, List.set_cons_zero]
  have : markL mk cnt (l.take (i + 1)) q = markL mk cnt (l.take i) q ++ [mk l[i] (q + (cntL cnt (l.take i) : Nat))] := by
    apply List.ext_getElem
    · simp [markL_length]; omega
    · intro j h1 h2
      rw [markL_length, List.length_take] at h1
      rw [markL_get _ _ _ (by rw [List.length_take]; omega)]
      by_cases hj : j < i
      · rw [List.getElem_append_left (by omega), markL_get _ _ _ (by rw [List.length_take]; omega)]
        have e1 : (l.take (i + 1)).take j = l.take j := by rw [List.take_take, Nat.min_eq_left (by omega)]
        have e2 : (l.take i).take j = l.take j := by rw [List.take_take, Nat.min_eq_left (by omega)]
        rw [e1, e2]; simp only [List.getElem_take]
      · obtain rfl : j = i := by omega
        rw [List.getElem_append_right (by omega)]
        have e1 : (l.take (j + 1)).take j = l.take j := by rw [List.take_take, Nat.min_eq_left (by omega)]
        rw [e1]; simp only [List.getElem_take, hl, Nat.sub_self, List.getElem_singleton]
  rw [this, List.append_assoc]
  rfl
end
/-- One element is changed behind its own blocks. -/
theorem Sl.change {w : World} {v : Value} {l : List α} {fp : List Nat} (h : Sl kd w v l fp) (hnd : fp.Nodup) {i : Nat} (hi : i < l.length) :
    ∃ A c b off u f, v = .slice A l.length c ∧ A = some ⟨b, off, none⟩ ∧ b ∈ fp ∧ b ∉ f ∧ b < w.heap.size ∧ u.length = kd.K ∧ (∀ j x, u[j]? = some x → w.cell? ⟨b, off + i * kd.K + j, none⟩ = some x) ∧ kd.P w l[i] u f ∧ (∀ x ∈ f, x ∈ fp) ∧
      ∀ w' a', But f w w' → kd.P w' a' u f → Sl kd w' v (l.set i a') fp := by
  obtain ⟨A, c, rfl, hmx⟩ := h.form
  have h' := h
  obtain ⟨us, f0, fs, hr, ha, rfl⟩ := h'
  have hi2 : i < us.length := by rw [ha.len.1]; exact hi
  have hi3 : i < fs.length := by rw [ha.len.2]; exact hi
  have ha' := ha
  rw [← List.take_append_drop i l] at ha'
  obtain ⟨ua, ub, fa, fb, rfl, rfl, h1, h2⟩ := ha'.split
  rw [List.drop_eq_getElem_cons hi] at h2
  obtain ⟨u, ub, f, fb, rfl, rfl, hp, h2⟩ := h2.cons
  have hla : fa.length = i := by rw [h1.len.2, List.length_take]; omega
  have hlu : ua.length = i := by rw [h1.len.1, List.length_take]; omega
  simp only [List.flatten_append, List.flatten_cons] at hnd
  have n1 := List.nodup_append.1 hnd
  have n2 := List.nodup_append.1 n1.2.1
  have n3 := List.nodup_append.1 n2.2.1
  have hfp : ∀ x ∈ f, x ∈ f0 ++ (fa ++ f :: fb).flatten := fun x hx => by simp [hx]
  have hd0 : ∀ x ∈ f0, x ∉ f := fun x hx hy => n1.2.2 x hx x (by simp [hy]) rfl
  have hda : ∀ x ∈ fa.flatten, x ∉ f := fun x hx hy => n2.2.2 x hx x (by simp [hy]) rfl
  have hdb : ∀ x ∈ fb.flatten, x ∉ f := fun x hx hy => n3.2.2 x hy x hx rfl
  have hlt := h.lt
  obtain ⟨A', n', c', e, e1, e2, e3, e4⟩ := hr
  injection e with q1 q2 q3
  subst q1 q2 q3
  rcases e4 with ⟨e4, _⟩ | ⟨b, off, rfl, rfl, hbl, hc⟩
  · omega
  have hf : (ua ++ u :: ub)[i]? = some u := by rw [List.getElem?_append_right (by omega), hlu]; simp
  refine ⟨_, c, b, off, u, f, rfl, rfl, by simp, hd0 b (by simp), hbl, kd.len hp, fun j x hx => ?_, hp, hfp, fun w' a' hbut hp' => ?_⟩
  · rw [Nat.add_assoc]
    have hj : j < kd.K := by
      have := (List.getElem?_eq_some_iff.1 hx).1
      rwa [kd.len hp] at this
    exact hc (i * kd.K + j) x (by rw [flat_get (Kd.lens ha) hf hj]; exact hx)
  · refine ⟨ua ++ u :: ub, [b], fa ++ f :: fb, ⟨_, _, c, rfl, e1, e2, e3, .inr ⟨b, off, rfl, rfl, Nat.lt_of_lt_of_le hbl hbut.size, fun j x hx => (World.cell?_of_block (w := w) (hbut.block b hbl (hd0 b (by simp)))).trans (hc j x hx)⟩⟩, ?_, rfl⟩
    have hk1 := Kd.keeps h1 hbut.size fun x hx => hbut.block x (hlt x (by simp [hx])) (hda x hx)
    have hk2 := Kd.keeps h2 hbut.size fun x hx => hbut.block x (hlt x (by simp [hx])) (hdb x hx)
    have hs : l.set i a' = l.take i ++ a' :: l.drop (i + 1) := by rw [List.set_eq_take_append_cons_drop, if_pos hi]
    rw [hs]
    exact hk1.append ⟨hp', hk2⟩
end
end Go.Proofs.YtldimfmhbdhbnaaGreat
