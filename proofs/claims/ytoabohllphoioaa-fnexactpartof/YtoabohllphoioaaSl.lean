/-
  A slice whose elements reach further memory: each element is so many cells, read by a predicate of its own, with the blocks that lie behind them.
-/
import Derived.Test.YtoabohllphoioaaElts
import Derived.Test.YtoabohllphoioaaG1
namespace Go.Proofs.Ytoabohllphoioaa
open Go.RowKit

/-- Nothing has happened but draws. -/
def Qt (w w' : World) : Prop := ∃ m, w' = w.drewN m
theorem Qt.refl (w : World) : Qt w w := ⟨0, rfl⟩
theorem Qt.of (w : World) (m : Nat) : Qt w (w.drewN m) := ⟨m, rfl⟩
theorem Qt.trans {a b c : World} (h : Qt a b) (k : Qt b c) : Qt a c := by
  obtain ⟨m, rfl⟩ := h
  obtain ⟨n, rfl⟩ := k
  exact ⟨_, World.drewN_drewN _ _ _⟩
theorem Qt.drewN {a b : World} (h : Qt a b) (n : Nat) : Qt a (b.drewN n) := h.trans ⟨n, rfl⟩
theorem Qt.drew {a b : World} (h : Qt a b) : Qt a b.drew := h.trans ⟨1, rfl⟩
theorem Qt.below {a b : World} (h : Qt a b) : Below a.heap.size a b := by
  obtain ⟨m, rfl⟩ := h
  exact below_drewN' (Below.refl _ _) m
theorem Qt.cell {a b : World} (h : Qt a b) (p : Addr) : b.cell? p = a.cell? p := by
  obtain ⟨m, rfl⟩ := h
  rfl
theorem Qt.size {a b : World} (h : Qt a b) : b.heap.size = a.heap.size := by
  obtain ⟨m, rfl⟩ := h
  rfl
theorem Rd.qt {w w' : World} {size : Nat} {v : Value} {xs : List Value} {fp : List Nat} (h : Rd w size v xs fp) (q : Qt w w') : Rd w' size v xs fp := h.below' q.below

/-- Three lists go together, place by place. -/
def All3 {α β γ : Type} (P : α → β → γ → Prop) : List α → List β → List γ → Prop
  | [], [], [] => True
  | a :: l, u :: us, f :: fs => P a u f ∧ All3 P l us fs
  | _, _, _ => False
section
variable {α β γ : Type} {P Q : α → β → γ → Prop}
theorem All3.len {l : List α} {us : List β} {fs : List γ} (h : All3 P l us fs) : us.length = l.length ∧ fs.length = l.length := by
  induction l generalizing us fs with
  | nil => match us, fs, h with | [], [], _ => exact ⟨rfl, rfl⟩
  | cons a l ih => match us, fs, h with | u :: us, f :: fs, h => exact ⟨by simp [(ih h.2).1], by simp [(ih h.2).2]⟩
theorem All3.append {l l' : List α} {us us' : List β} {fs fs' : List γ} (h : All3 P l us fs) (h' : All3 P l' us' fs') : All3 P (l ++ l') (us ++ us') (fs ++ fs') := by
  induction l generalizing us fs with
  | nil => match us, fs, h with | [], [], _ => exact h'
  | cons a l ih => match us, fs, h with | u :: us, f :: fs, h => exact ⟨h.1, ih h.2⟩
theorem All3.snoc {l : List α} {us : List β} {fs : List γ} {a : α} {u : β} {f : γ} (h : All3 P l us fs) (h' : P a u f) : All3 P (l ++ [a]) (us ++ [u]) (fs ++ [f]) := h.append ⟨h', trivial⟩
theorem All3.split {l l' : List α} {us : List β} {fs : List γ} (h : All3 P (l ++ l') us fs) : ∃ ua ub fa fb, us = ua ++ ub ∧ fs = fa ++ fb ∧ All3 P l ua fa ∧ All3 P l' ub fb := by
  induction l generalizing us fs with
  | nil => exact ⟨[], us, [], fs, rfl, rfl, trivial, h⟩
  | cons a l ih => match us, fs, h with
    | u :: us, f :: fs, h =>
      obtain ⟨ua, ub, fa, fb, rfl, rfl, h1, h2⟩ := ih h.2
      exact ⟨u :: ua, ub, f :: fa, fb, rfl, rfl, ⟨h.1, h1⟩, h2⟩
theorem All3.cons {a : α} {l : List α} {us : List β} {fs : List γ} (h : All3 P (a :: l) us fs) : ∃ u us' f fs', us = u :: us' ∧ fs = f :: fs' ∧ P a u f ∧ All3 P l us' fs' := by
  match us, fs, h with
  | u :: us, f :: fs, h => exact ⟨u, us, f, fs, rfl, rfl, h.1, h.2⟩
theorem All3.imp {l : List α} {us : List β} {fs : List γ} (h : All3 P l us fs) (k : ∀ a u f, f ∈ fs → P a u f → Q a u f) : All3 Q l us fs := by
  induction l generalizing us fs with
  | nil => match us, fs, h with | [], [], _ => trivial
  | cons a l ih => match us, fs, h with | u :: us, f :: fs, h => exact ⟨k _ _ _ (by simp) h.1, ih h.2 fun a u f hf => k a u f (by simp [hf])⟩
theorem All3.at_ {l : List α} {us : List β} {fs : List γ} (h : All3 P l us fs) {i : Nat} (hi : i < l.length) : ∃ u f, us[i]? = some u ∧ fs[i]? = some f ∧ P l[i] u f := by
  induction l generalizing us fs i with
  | nil => simp at hi
  | cons a l ih => match us, fs, h with
    | u :: us, f :: fs, h =>
      match i, hi with
      | 0, _ => exact ⟨u, f, rfl, rfl, h.1⟩
      | i + 1, hi => exact ih h.2 (by simpa using hi)
theorem All3.each {l : List α} {us : List β} {fs : List γ} (h : All3 P l us fs) : ∀ f ∈ fs, ∃ a u, P a u f := by
  induction l generalizing us fs with
  | nil => match us, fs, h with | [], [], _ => simp
  | cons a l ih => match us, fs, h with
    | u :: us, f :: fs, h =>
      intro x hx
      rcases List.mem_cons.1 hx with rfl | hx
      · exact ⟨_, _, h.1⟩
      · exact ih h.2 x hx
theorem All3.each_u {l : List α} {us : List β} {fs : List γ} (h : All3 P l us fs) : ∀ u ∈ us, ∃ a f, P a u f := by
  induction l generalizing us fs with
  | nil => match us, fs, h with | [], [], _ => simp
  | cons a l ih => match us, fs, h with
    | u :: us, f :: fs, h =>
      intro x hx
      rcases List.mem_cons.1 hx with rfl | hx
      · exact ⟨_, _, h.1⟩
      · exact ih h.2 x hx
end

/-- How an element reads: so many cells, and the blocks behind them. -/
structure Kd (α : Type) where
  K : Nat
  pos : 0 < K
  P : World → α → List Value → List Nat → Prop
  len : ∀ {w : World} {a : α} {us : List Value} {f : List Nat}, P w a us f → us.length = K
  lt : ∀ {w : World} {a : α} {us : List Value} {f : List Nat}, P w a us f → ∀ b ∈ f, b < w.heap.size
  keep : ∀ {w w' : World} {a : α} {us : List Value} {f : List Nat}, P w a us f → w.heap.size ≤ w'.heap.size → (∀ b ∈ f, w'.heap[b]? = w.heap[b]?) → P w' a us f

/-- The i-th cells of many. -/
theorem flat_get {K : Nat} {us : List (List Value)} (hK : ∀ u ∈ us, u.length = K) {i j : Nat} {u : List Value} (hi : us[i]? = some u) (hj : j < K) : us.flatten[i * K + j]? = u[j]? := by
  induction us generalizing i with
  | nil => simp at hi
  | cons x t ih =>
    have hx := hK x (by simp)
    match i, hi with
    | 0, hi =>
      simp at hi; subst hi
      rw [List.flatten_cons, List.getElem?_append_left (by omega)]; simp
    | i + 1, hi =>
      have e : (i + 1) * K + j - x.length = i * K + j := by rw [hx, Nat.succ_mul]; omega
      rw [List.flatten_cons, List.getElem?_append_right (by rw [hx, Nat.succ_mul]; omega), e]
      exact ih (fun u hu => hK u (by simp [hu])) (by simpa using hi)
theorem flat_len {K : Nat} {us : List (List Value)} (hK : ∀ u ∈ us, u.length = K) : us.flatten.length = us.length * K := by
  induction us with
  | nil => simp
  | cons x t ih => rw [List.flatten_cons, List.length_append, ih (fun u hu => hK u (by simp [hu])), hK x (by simp), List.length_cons, Nat.succ_mul]; omega

/-- The slice v reads as the list l; fp: all the blocks that are reached. -/
def Sl {α : Type} (k : Kd α) (w : World) (v : Value) (l : List α) (fp : List Nat) : Prop :=
  ∃ (us : List (List Value)) (f0 : List Nat) (fs : List (List Nat)), Rd w k.K v us.flatten f0 ∧ All3 (k.P w) l us fs ∧ fp = f0 ++ fs.flatten
section
variable {α : Type} {k : Kd α} {w w' : World} {v : Value} {l : List α} {fp : List Nat}
theorem Kd.lens {us : List (List Value)} {fs : List (List Nat)} (h : All3 (k.P w) l us fs) : ∀ u ∈ us, u.length = k.K := fun u hu => by
  obtain ⟨a, f, hp⟩ := h.each_u u hu
  exact k.len hp
theorem Kd.flat_of {us : List (List Value)} {fs : List (List Nat)} (h : All3 (k.P w) l us fs) : us.flatten.length = l.length * k.K := by rw [flat_len (Kd.lens h), h.len.1]
theorem Sl.form (h : Sl k w v l fp) : ∃ A c, v = .slice A l.length c ∧ l.length ≤ maxLen := by
  obtain ⟨us, f0, fs, hr, ha, rfl⟩ := h
  obtain ⟨A, n, c, rfl, h1, h2, _⟩ := hr
  rw [Kd.flat_of ha] at h1
  obtain rfl := Nat.eq_of_mul_eq_mul_right k.pos h1
  exact ⟨A, c, rfl, h2⟩
theorem Sl.len_le {A : Option Addr} {n c : Nat} (h : Sl k w (.slice A n c) l fp) : n = l.length ∧ n ≤ 9223372036854775807 := by
  obtain ⟨A', c', e, h2⟩ := h.form
  injection e with _ e2 _
  subst e2
  exact ⟨rfl, by unfold maxLen at h2; omega⟩
theorem Sl.lt (h : Sl k w v l fp) : ∀ b ∈ fp, b < w.heap.size := by
  obtain ⟨us, f0, fs, hr, ha, rfl⟩ := h
  intro b hb
  rcases List.mem_append.1 hb with hb | hb
  · exact hr.lt b hb
  · obtain ⟨f, hf, hb⟩ := List.mem_flatten.1 hb
    obtain ⟨a, u, hp⟩ := ha.each f hf
    exact k.lt hp b hb
theorem Kd.keeps {us : List (List Value)} {fs : List (List Nat)} (h : All3 (k.P w) l us fs) (hs : w.heap.size ≤ w'.heap.size) (hb : ∀ b ∈ fs.flatten, w'.heap[b]? = w.heap[b]?) : All3 (k.P w') l us fs :=
  h.imp fun _ _ f hf hp => k.keep hp hs fun b hm => hb b (List.mem_flatten.2 ⟨f, hf, hm⟩)
theorem Sl.keep (h : Sl k w v l fp) (hs : w.heap.size ≤ w'.heap.size) (hb : ∀ b ∈ fp, w'.heap[b]? = w.heap[b]?) : Sl k w' v l fp := by
  obtain ⟨us, f0, fs, hr, ha, rfl⟩ := h
  exact ⟨us, f0, fs, hr.keep hs fun b hm => hb b (by simp [hm]), Kd.keeps ha hs fun b hm => hb b (by simp only [List.mem_append]; exact .inr hm), rfl⟩
theorem Sl.below {B : Nat} (h : Sl k w v l fp) (hb : Below B w w') (hB : ∀ b ∈ fp, b < B) : Sl k w' v l fp := h.keep hb.size fun b hm => hb.block b (hB b hm)
theorem Sl.below' (h : Sl k w v l fp) (hb : Below w.heap.size w w') : Sl k w' v l fp := h.below hb h.lt
theorem Sl.but {bs : List Nat} (h : Sl k w v l fp) (hb : But bs w w') (hd : ∀ b ∈ fp, b ∉ bs) : Sl k w' v l fp := h.keep hb.size fun b hm => hb.block b (h.lt b hm) (hd b hm)
theorem Sl.alloc (h : Sl k w v l fp) (o : Obj) : Sl k (w.alloc o) v l fp := h.keep (by simp) fun b hm => Below.heap_alloc _ _ _ (h.lt b hm)
theorem Sl.qt (h : Sl k w v l fp) (q : Qt w w') : Sl k w' v l fp := h.below' q.below
theorem Sl.drewN (h : Sl k w v l fp) (n : Nat) : Sl k (w.drewN n) v l fp := h.keep (Nat.le_refl _) fun _ _ => rfl
theorem Sl.drew (h : Sl k w v l fp) : Sl k w.drew v l fp := h.keep (Nat.le_refl _) fun _ _ => rfl
/-- The i-th element lies there. -/
theorem Sl.at_ {A : Option Addr} {c i : Nat} (h : Sl k w (.slice A l.length c) l fp) (hi : i < l.length) :
    ∃ b off us f, A = some ⟨b, off, none⟩ ∧ b ∈ fp ∧ b < w.heap.size ∧ us.length = k.K ∧ (∀ j u, us[j]? = some u → w.cell? ⟨b, off + i * k.K + j, none⟩ = some u) ∧ k.P w l[i] us f ∧ ∀ x ∈ f, x ∈ fp := by
  obtain ⟨us, f0, fs, hr, ha, rfl⟩ := h
  obtain ⟨u, f, hu, hf, hp⟩ := ha.at_ hi
  have hfl := Kd.flat_of ha
  obtain ⟨A', n', c', e, h1, h2, h2', h3⟩ := hr
  injection e with e1 e2 e3
  subst e1 e2 e3
  rcases h3 with ⟨h3, _⟩ | ⟨b, off, rfl, rfl, hlt, hc⟩
  · omega
  · refine ⟨b, off, u, f, rfl, by simp, hlt, k.len hp, fun j x hx => ?_, hp, fun x hx => by simp only [List.mem_append]; exact .inr (List.mem_flatten.2 ⟨f, List.mem_of_getElem? hf, hx⟩)⟩
    have hj : j < k.K := by
      have := (List.getElem?_eq_some_iff.1 hx).1
      rwa [k.len hp] at this
    rw [Nat.add_assoc]
    exact hc (i * k.K + j) x (by rw [flat_get (Kd.lens ha) hu hj]; exact hx)
theorem Sl.nil (w : World) : Sl k w (.slice none 0 0) [] [] := ⟨[], [], [], Rd.nil w _, trivial, rfl⟩
end
theorem Rd.nodup {w : World} {size : Nat} {v : Value} {xs : List Value} {fp : List Nat} (h : Rd w size v xs fp) : fp.Nodup := by
  obtain ⟨A, n, c, rfl, h1, h2, h2', h3⟩ := h
  rcases h3 with ⟨_, rfl⟩ | ⟨b, off, rfl, rfl, _⟩ <;> simp

/-- Rows as an element: one cell, the slice. -/
def rowsK : Kd (List R) where
  K := 1
  pos := Nat.one_pos
  P w rs us f := ∃ v, us = [v] ∧ Rd w 4 v (rcs rs) f
  len := by rintro w a us f ⟨v, rfl, _⟩; rfl
  lt := by rintro w a us f ⟨v, rfl, h⟩; exact h.lt
  keep := by rintro w w' a us f ⟨v, rfl, h⟩ hs hb; exact ⟨v, rfl, h.keep hs hb⟩
/-- A slice of slices of rows. -/
abbrev RdF (w : World) (v : Value) (fs : List (List R)) (fp : List Nat) : Prop := Sl rowsK w v fs fp
/-- The i-th rows. -/
theorem rowsAt {w : World} {A : Option Addr} {c i : Nat} {l : List (List R)} {fp : List Nat} (h : RdF w (.slice A l.length c) l fp) (hi : i < l.length) :
    ∃ b off B d f, A = some ⟨b, off, none⟩ ∧ b ∈ fp ∧ b < w.heap.size ∧ w.cell? ⟨b, off + i, none⟩ = some (.slice B l[i].length d) ∧ Rd w 4 (.slice B l[i].length d) (rcs l[i]) f ∧ ∀ x ∈ f, x ∈ fp := by
  obtain ⟨b, off, us, f, rfl, hb, hlt, hl, hc, ⟨v, rfl, hr⟩, hf⟩ := Sl.at_ h hi
  obtain ⟨B, d, rfl⟩ := hr.rows_form
  have := hc 0 _ rfl
  simp only [rowsK, Nat.mul_one, Nat.add_zero] at this
  exact ⟨b, off, B, d, f, rfl, hb, hlt, this, hr, hf⟩
end Go.Proofs.Ytoabohllphoioaa
