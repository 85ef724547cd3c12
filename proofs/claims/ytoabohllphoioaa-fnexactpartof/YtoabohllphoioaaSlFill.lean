/-
  A slice of things of one kind is filled, place by place; it is marked, place by place.
-/
import Derived.Test.YtoabohllphoioaaSl
namespace Go.Proofs.Ytoabohllphoioaa
open Go.RowKit
section
variable {α : Type} {kd : Kd α}
/-- The first i places of the slice in the first new block are filled, the others zero. -/
def Fill (kd : Kd α) (z : List Value) (w : World) (T : TypeId) (l : List α) (i : Nat) (wr : World) : Prop :=
  ∃ (us : List (List Value)) (fs : List (List Nat)), All3 (kd.P wr) (l.take i) us fs ∧ wr.heap[w.heap.size]? = some (.cells (us.flatten ++ (List.replicate (l.length - i) z).flatten).toArray T (0, 0)) ∧
    NF wr fs.flatten ∧ From (w.heap.size + 1) fs.flatten ∧ fs.flatten.Nodup ∧ Below w.heap.size w wr
theorem Fill.zero {z : List Value} {w : World} {T : TypeId} {l : List α} {cs : Array Value} (hc : cs = (List.replicate l.length z).flatten.toArray) : Fill kd z w T l 0 (w.alloc (.cells cs T)) :=
  ⟨[], [], trivial, by rw [heap_new w _ rfl, hc]; simp, NF.nil _, From.nil _, by simp, below_new _⟩
theorem Fill.below {z : List Value} {w : World} {T : TypeId} {l : List α} {i : Nat} {wr : World} (h : Fill kd z w T l i wr) : Below w.heap.size w wr := by obtain ⟨_, _, _, _, _, _, _, h⟩ := h; exact h
/-- What lies at the next place: zero. -/
theorem Fill.cells {z : List Value} (hz : z.length = kd.K) {w : World} {T : TypeId} {l : List α} {i : Nat} {wr w1 : World} (h : Fill kd z w T l i wr) (hi : i < l.length) (hb : Below wr.heap.size wr w1) :
    w.heap.size < w1.heap.size ∧ (∀ j, w1.frozen? ⟨w.heap.size, j, none⟩ = false) ∧ ∀ j u, z[j]? = some u → w1.cell? ⟨w.heap.size, i * kd.K + j, none⟩ = some u := by
  obtain ⟨us, fs, ha, hg, _⟩ := h
  have hg1 := (hb.block _ (heap_lt hg)).trans hg
  refine ⟨heap_lt hg1, fun j => frozen_of_heap hg1, fun j u hu => ?_⟩
  have hl := Kd.flat_of ha
  rw [List.length_take, Nat.min_eq_left (by omega)] at hl
  have hj := (List.getElem?_eq_some_iff.1 hu).1
  obtain ⟨m, hm⟩ : ∃ m, l.length - i = m + 1 := ⟨l.length - i - 1, by omega⟩
  rw [cell_of_heap hg1, List.getElem?_toArray, List.getElem?_append_right (by omega), hl, hm, List.replicate_succ, List.flatten_cons]
  rw [List.getElem?_append_left (by omega), ← hu]
  congr 1; omega
theorem Fill.step {z : List Value} (hz : z.length = kd.K) {w : World} {T : TypeId} {l : List α} {i : Nat} {wr w1 w2 : World} (h : Fill kd z w T l i wr) (hi : i < l.length) (hb : Below wr.heap.size wr w1)
    {u : List Value} {f : List Nat} (hp : kd.P w1 l[i] u f) (hn : NF w1 f) (hf : From wr.heap.size f) (hnd : f.Nodup) (hbut : But [w.heap.size] w1 w2)
    (hset : ∀ cs, w1.heap[w.heap.size]? = some (.cells cs T (0, 0)) → w2.heap[w.heap.size]? = some (.cells (setAll cs (i * kd.K) u) T (0, 0))) : Fill kd z w T l (i + 1) w2 := by
  obtain ⟨us, fs, ha, hg, hnf, hfr, hno, hbel⟩ := h
  have hg1 := (hb.block _ (heap_lt hg)).trans hg
  have hlt : ∀ b ∈ fs.flatten, b < wr.heap.size := fun b hm => by
    obtain ⟨x, hx, hm⟩ := List.mem_flatten.1 hm
    obtain ⟨a, u, hp⟩ := ha.each x hx
    exact kd.lt hp b hm
  have hz0 := heap_lt hg
  have hs1 := hb.size
  have hl := Kd.flat_of ha
  rw [List.length_take, Nat.min_eq_left (by omega)] at hl
  have kp1 : ∀ b ∈ fs.flatten, w2.heap[b]? = wr.heap[b]? := fun b hm => (hbut.block b (by have := hlt b hm; omega) (by have := hfr b hm; simp; omega)).trans (hb.block b (hlt b hm))
  have kp2 : ∀ b ∈ f, w2.heap[b]? = w1.heap[b]? := fun b hm => hbut.block b (kd.lt hp b hm) (by have := hf b hm; simp; omega)
  refine ⟨us ++ [u], fs ++ [f], ?_, ?_, ?_, ?_, ?_, ?_⟩
  · rw [List.take_succ_eq_append_getElem hi]
    exact (Kd.keeps ha (Nat.le_trans hs1 hbut.size) kp1).snoc (kd.keep hp hbut.size kp2)
  · rw [hset _ hg1]
    obtain ⟨m, hm⟩ : ∃ m, l.length - i = m + 1 := ⟨l.length - i - 1, by omega⟩
    have hm2 : l.length - (i + 1) = m := by omega
    rw [hm, hm2, List.replicate_succ, List.flatten_cons, ← hl, setAll_list _ u us.flatten z (List.replicate m z).flatten (by rw [hz, kd.len hp]) rfl]
    simp
  · intro b hm
    simp only [List.flatten_append, List.flatten_cons, List.flatten_nil, List.append_nil, List.mem_append] at hm
    intro j
    rcases hm with hm | hm
    · exact (World.frozen?_of_block (w := wr) (kp1 b hm)).trans (hnf b hm j)
    · exact (World.frozen?_of_block (w := w1) (kp2 b hm)).trans (hn b hm j)
  · intro b hm
    simp only [List.flatten_append, List.flatten_cons, List.flatten_nil, List.append_nil, List.mem_append] at hm
    rcases hm with hm | hm
    · exact hfr b hm
    · have := hf b hm; omega
  · simp only [List.flatten_append, List.flatten_cons, List.flatten_nil, List.append_nil]
    refine List.nodup_append.2 ⟨hno, hnd, fun a ha b hb2 => ?_⟩
    have := hlt a ha; have := hf b hb2; omega
  · have : Below w.heap.size w w1 := hbel.trans (hb.mono (by omega))
    exact this.trans (hbut.below this.size (by intro b hm; simp at hm; omega))
/-- What a copy answers: a slice in new memory. -/
def CopySl (kd : Kd α) (w : World) (l : List α) (e : Ending) (w' : World) : Prop :=
  ∃ A c fp, e = .returned (.slice A l.length c) ∧ Sl kd w' (.slice A l.length c) l fp ∧ NF w' fp ∧ From w.heap.size fp ∧ fp.Nodup ∧ Below w.heap.size w w'
theorem Fill.done {z : List Value} {w : World} {T : TypeId} {l : List α} {wr : World} (hmax : l.length ≤ maxLen) (h : Fill kd z w T l l.length wr) :
    CopySl kd w l (.returned (.slice (some ⟨w.heap.size, 0, none⟩) l.length l.length)) wr := by
  obtain ⟨us, fs, ha, hg, hnf, hfr, hno, hbel⟩ := h
  rw [List.take_length] at ha
  rw [Nat.sub_self, List.replicate_zero, List.flatten_nil, List.append_nil] at hg
  obtain ⟨f0, h1, h2, h3⟩ := Rd.fresh (w := w) (n := l.length) (size := kd.K) hmax (Kd.flat_of ha) hg (Nat.le_refl _)
  have h0 : ∀ b ∈ f0, b = w.heap.size := by
    obtain ⟨A, n, c, e, _, _, _, h⟩ := h1
    injection e with e1 _ _
    rcases h with ⟨_, rfl⟩ | ⟨b, off, e2, rfl, _⟩
    · simp
    · rw [e2] at e1; injection e1 with e1; injection e1 with e1 _ _; intro x hx; simp at hx; rw [hx, e1]
  refine ⟨_, _, f0 ++ fs.flatten, rfl, ⟨us, f0, fs, h1, ha, rfl⟩, ?_, ?_, ?_, hbel⟩
  · intro b hm; rcases List.mem_append.1 hm with hm | hm
    · exact h2 b hm
    · exact hnf b hm
  · intro b hm; rcases List.mem_append.1 hm with hm | hm
    · exact h3 b hm
    · have := hfr b hm; omega
  · exact List.nodup_append.2 ⟨h1.nodup, hno, fun a ha b hb => by have := h0 a ha; have := hfr b hb; omega⟩

/-- Marks: each element takes so many numbers, in order. -/
def cntL (cnt : α → Nat) (l : List α) : Nat := (l.map cnt).sum
def markL (mk : α → Int → α) (cnt : α → Nat) : List α → Int → List α
  | [], _ => []
  | a :: t, q => mk a q :: markL mk cnt t (q + cnt a)
section
variable {mk : α → Int → α} {cnt : α → Nat}
theorem cntL_cons (a : α) (t : List α) : cntL cnt (a :: t) = cnt a + cntL cnt t := by simp [cntL]
theorem cntL_append (s t : List α) : cntL cnt (s ++ t) = cntL cnt s + cntL cnt t := by simp [cntL]
theorem cntL_take (l : List α) (i : Nat) (h : i < l.length) : cntL cnt (l.take (i + 1)) = cntL cnt (l.take i) + cnt l[i] := by
  rw [List.take_succ_eq_append_getElem h, cntL_append, cntL_cons]; rfl
theorem cntL_take_le (l : List α) (i : Nat) : cntL cnt (l.take i) ≤ cntL cnt l := by
  have h := List.take_append_drop i l
  have e : cntL cnt l = cntL cnt (l.take i) + cntL cnt (l.drop i) := by
    rw [← cntL_append, h]
  omega
theorem markL_length (l : List α) (q : Int) : (markL mk cnt l q).length = l.length := by
  induction l generalizing q with
  | nil => rfl
  | cons a t ih => simp [markL, ih]
theorem markL_get (l : List α) (q : Int) (i : Nat) (h : i < l.length) (h' : i < (markL mk cnt l q).length) : (markL mk cnt l q)[i] = mk l[i] (q + (cntL cnt (l.take i) : Nat)) := by
  induction l generalizing q i with
  | nil => simp at h
  | cons a t ih =>
    match i, h with
    | 0, _ => simp [markL, cntL]
    | i + 1, h =>
      have := ih (q + cnt a) i (by simpa using h) (by rw [markL_length]; simpa using h)
      simp only [markL, List.getElem_cons_succ, List.take_succ_cons, cntL_cons]
      rw [this]; congr 1; push_cast; omega
theorem markL_set (l : List α) (q : Int) (i : Nat) (h : i < l.length) :
    (markL mk cnt (l.take i) q ++ l.drop i).set i (mk l[i] (q + (cntL cnt (l.take i) : Nat))) = markL mk cnt (l.take (i + 1)) q ++ l.drop (i + 1) := by
  have hl : (markL mk cnt (l.take i) q).length = i := by rw [markL_length, List.length_take]; omega
  rw [List.set_append_right _ _ (by omega), hl, Nat.sub_self, List.drop_eq_getElem_cons h, List.set_cons_zero]
  have : markL mk cnt (l.take (i + 1)) q = markL mk cnt (l.take i) q ++ [mk l[i] (q + (cntL cnt (l.take i) : Nat))] := by
    apply List.ext_getElem
    · simp [markL_length]; omega
    · intro j h1 h2
      rw [markL_length, List.length_take] at h1
      rw [markL_get _ _ _ (by rw [List.length_take]; omega)]
      by_cases hj : j < i
      · rw [List.getElem_append_left (by omega), markL_get _ _ _ (by rw [List.length_take]; omega)]
        have e1 : (l.take (i + 1)).take j = l.take j := by rw [List.take_take, Nat.min_eq_left (by omega)]
        have e2 : (l.take i).take j = l.take j := by rw [List.take_take, Nat.min_eq_left (by omega)]
        rw [e1, e2]; simp only [List.getElem_take]
      · obtain rfl : j = i := by omega
        rw [List.getElem_append_right (by omega)]
        have e1 : (l.take (j + 1)).take j = l.take j := by rw [List.take_take, Nat.min_eq_left (by omega)]
        rw [e1]; simp only [List.getElem_take, hl, Nat.sub_self, List.getElem_singleton]
  rw [this, List.append_assoc]
  rfl
end
/-- One element is changed behind its own blocks. -/
theorem Sl.change {w : World} {v : Value} {l : List α} {fp : List Nat} (h : Sl kd w v l fp) (hnd : fp.Nodup) {i : Nat} (hi : i < l.length) :
    ∃ A c b off u f, v = .slice A l.length c ∧ A = some ⟨b, off, none⟩ ∧ b ∈ fp ∧ b ∉ f ∧ b < w.heap.size ∧ u.length = kd.K ∧ (∀ j x, u[j]? = some x → w.cell? ⟨b, off + i * kd.K + j, none⟩ = some x) ∧ kd.P w l[i] u f ∧ (∀ x ∈ f, x ∈ fp) ∧
      ∀ w' a', But f w w' → kd.P w' a' u f → Sl kd w' v (l.set i a') fp := by
  obtain ⟨A, c, rfl, hmx⟩ := h.form
  have h' := h
  obtain ⟨us, f0, fs, hr, ha, rfl⟩ := h'
  have hi2 : i < us.length := by rw [ha.len.1]; exact hi
  have hi3 : i < fs.length := by rw [ha.len.2]; exact hi
  have ha' := ha
  rw [← List.take_append_drop i l] at ha'
  obtain ⟨ua, ub, fa, fb, rfl, rfl, h1, h2⟩ := ha'.split
  rw [List.drop_eq_getElem_cons hi] at h2
  obtain ⟨u, ub, f, fb, rfl, rfl, hp, h2⟩ := h2.cons
  have hla : fa.length = i := by rw [h1.len.2, List.length_take]; omega
  have hlu : ua.length = i := by rw [h1.len.1, List.length_take]; omega
  simp only [List.flatten_append, List.flatten_cons] at hnd
  have n1 := List.nodup_append.1 hnd
  have n2 := List.nodup_append.1 n1.2.1
  have n3 := List.nodup_append.1 n2.2.1
  have hfp : ∀ x ∈ f, x ∈ f0 ++ (fa ++ f :: fb).flatten := fun x hx => by simp [hx]
  have hd0 : ∀ x ∈ f0, x ∉ f := fun x hx hy => n1.2.2 x hx x (by simp [hy]) rfl
  have hda : ∀ x ∈ fa.flatten, x ∉ f := fun x hx hy => n2.2.2 x hx x (by simp [hy]) rfl
  have hdb : ∀ x ∈ fb.flatten, x ∉ f := fun x hx hy => n3.2.2 x hy x hx rfl
  have hlt := h.lt
  obtain ⟨A', n', c', e, e1, e2, e3, e4⟩ := hr
  injection e with q1 q2 q3
  subst q1 q2 q3
  rcases e4 with ⟨e4, _⟩ | ⟨b, off, rfl, rfl, hbl, hc⟩
  · omega
  have hf : (ua ++ u :: ub)[i]? = some u := by rw [List.getElem?_append_right (by omega), hlu]; simp
  refine ⟨_, c, b, off, u, f, rfl, rfl, by simp, hd0 b (by simp), hbl, kd.len hp, fun j x hx => ?_, hp, hfp, fun w' a' hbut hp' => ?_⟩
  · rw [Nat.add_assoc]
    have hj : j < kd.K := by
      have := (List.getElem?_eq_some_iff.1 hx).1
      rwa [kd.len hp] at this
    exact hc (i * kd.K + j) x (by rw [flat_get (Kd.lens ha) hf hj]; exact hx)
  · refine ⟨ua ++ u :: ub, [b], fa ++ f :: fb, ⟨_, _, c, rfl, e1, e2, e3, .inr ⟨b, off, rfl, rfl, Nat.lt_of_lt_of_le hbl hbut.size, fun j x hx => (World.cell?_of_block (w := w) (hbut.block b hbl (hd0 b (by simp)))).trans (hc j x hx)⟩⟩, ?_, rfl⟩
    have hk1 := Kd.keeps h1 hbut.size fun x hx => hbut.block x (hlt x (by simp [hx])) (hda x hx)
    have hk2 := Kd.keeps h2 hbut.size fun x hx => hbut.block x (hlt x (by simp [hx])) (hdb x hx)
    have hs : l.set i a' = l.take i ++ a' :: l.drop (i + 1) := by rw [List.set_eq_take_append_cons_drop, if_pos hi]
    rw [hs]
    exact hk1.append ⟨hp', hk2⟩
end
end Go.Proofs.Ytoabohllphoioaa
