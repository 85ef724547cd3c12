/-
  Slices of parts: how a part reads; one part changed with its own cells.
-/
import Derived.Test.YtldimfmhbdhbnaaGreatModel7
import Derived.Test.YtldimfmhbdhbnaaGreatG40
namespace Go.Proofs.YtldimfmhbdhbnaaGreat
open Go.RowKit

/-- A part as an element: two cells, the rows and the mark. -/
def partK : Kd Pt where
  K := 2
  pos := by omega
  P w p us f := ∃ v, us = [v, .int .i64 p.mark] ∧ Rd w 4 v (rcs p.rows) f
  len := by rintro w a us f ⟨v, rfl, _⟩; rfl
  lt := by rintro w a us f ⟨v, rfl, h⟩; exact h.lt
  keep := by rintro w w' a us f ⟨v, rfl, h⟩ hs hb; exact ⟨v, rfl, h.keep hs hb⟩
/-- A slice of parts. -/
abbrev RdP (w : World) (v : Value) (l : List Pt) (fp : List Nat) : Prop := Sl partK w v l fp
/-- The i-th part. -/
theorem partsAt {w : World} {A : Option Addr} {c i : Nat} {l : List Pt} {fp : List Nat} (h : RdP w (.slice A l.length c) l fp) (hi : i < l.length) :
    ∃ b off B d f, A = some ⟨b, off, none⟩ ∧ b ∈ fp ∧ b < w.heap.size ∧ w.cell? ⟨b, off + i * 2, none⟩ = some (.slice B l[i].rows.length d) ∧ w.cell? ⟨b, off + i * 2 + 1, none⟩ = some (.int .i64 l[i].mark) ∧
      Rd w 4 (.slice B l[i].rows.length d) (rcs l[i].rows) f ∧ ∀ x ∈ f, x ∈ fp := by
  obtain ⟨b, off, us, f, rfl, hb, hlt, hl, hc, ⟨v, rfl, hr⟩, hf⟩ := Sl.at_ h hi
  obtain ⟨B, d, rfl⟩ := hr.rows_form
  have h0 := hc 0 _ rfl
  have h1 := hc 1 _ rfl
  simp only [partK, Nat.add_zero] at h0 h1
  exact ⟨b, off, B, d, f, rfl, hb, hlt, h0, h1, hr, hf⟩

section
variable {α : Type} {kd : Kd α}
/-- One element is changed, in its own cells and behind its own blocks. -/
theorem Sl.change2 {w : World} {v : Value} {l : List α} {fp : List Nat} (h : Sl kd w v l fp) (hnd : fp.Nodup) {i : Nat} (hi : i < l.length) :
    ∃ A c b off u f, v = .slice A l.length c ∧ A = some ⟨b, off, none⟩ ∧ b ∈ fp ∧ b ∉ f ∧ b < w.heap.size ∧ u.length = kd.K ∧ (∀ j x, u[j]? = some x → w.cell? ⟨b, off + i * kd.K + j, none⟩ = some x) ∧ kd.P w l[i] u f ∧ (∀ x ∈ f, x ∈ fp) ∧
      ∀ w' a' u', But (b :: f) w w' → (∀ j x, u'[j]? = some x → w'.cell? ⟨b, off + i * kd.K + j, none⟩ = some x) → (∀ j, j < i * kd.K ∨ i * kd.K + kd.K ≤ j → w'.cell? ⟨b, off + j, none⟩ = w.cell? ⟨b, off + j, none⟩) →
        kd.P w' a' u' f → Sl kd w' v (l.set i a') fp := by
  obtain ⟨A, c, rfl, hmx⟩ := h.form
  have h' := h
  obtain ⟨us, f0, fs, hr, ha, rfl⟩ := h'
  have ha' := ha
  rw [← List.take_append_drop i l] at ha'
  obtain ⟨ua, ub, fa, fb, rfl, rfl, h1, h2⟩ := ha'.split
  rw [List.drop_eq_getElem_cons hi] at h2
  obtain ⟨u, ub, f, fb, rfl, rfl, hp, h22⟩ := h2.cons
  have hla : fa.length = i := by rw [h1.len.2, List.length_take]; omega
  have hlu : ua.length = i := by rw [h1.len.1, List.length_take]; omega
  simp only [List.flatten_append, List.flatten_cons] at hnd
  have n1 := List.nodup_append.1 hnd
  have n2 := List.nodup_append.1 n1.2.1
  have n3 := List.nodup_append.1 n2.2.1
  have hfp : ∀ x ∈ f, x ∈ f0 ++ (fa ++ f :: fb).flatten := fun x hx => by simp [hx]
  have hd0 : ∀ x ∈ f0, x ∉ f := fun x hx hy => n1.2.2 x hx x (by simp [hy]) rfl
  have hda : ∀ x ∈ fa.flatten, x ∉ f := fun x hx hy => n2.2.2 x hx x (by simp [hy]) rfl
  have hdb : ∀ x ∈ fb.flatten, x ∉ f := fun x hx hy => n3.2.2 x hy x hx rfl
  have hlt := h.lt
  obtain ⟨A', n', c', e, e1, e2, e3, e4⟩ := hr
  injection e with q1 q2 q3
  subst q1 q2 q3
  rcases e4 with ⟨e4, _⟩ | ⟨b, off, rfl, rfl, hbl, hc⟩
  · omega
  have hf : (ua ++ u :: ub)[i]? = some u := by rw [List.getElem?_append_right (by omega), hlu]; simp
  have hka : ua.flatten.length = i * kd.K := by rw [flat_len (Kd.lens h1), hlu]
  have hb1 : ∀ x ∈ fa.flatten, x ∉ b :: f := fun x hx hm => by
    rcases List.mem_cons.1 hm with rfl | hm
    · exact n1.2.2 x (by simp) x (by simp [hx]) rfl
    · exact hda x hx hm
  have hb2 : ∀ x ∈ fb.flatten, x ∉ b :: f := fun x hx hm => by
    rcases List.mem_cons.1 hm with rfl | hm
    · exact n1.2.2 x (by simp) x (by simp [hx]) rfl
    · exact hdb x hx hm
  refine ⟨_, c, b, off, u, f, rfl, rfl, by simp, hd0 b (by simp), hbl, kd.len hp, fun j x hx => ?_, hp, hfp, fun w' a' u' hbut hcu hco hp' => ?_⟩
  · rw [Nat.add_assoc]
    have hj : j < kd.K := by
      have := (List.getElem?_eq_some_iff.1 hx).1
      rwa [kd.len hp] at this
    exact hc (i * kd.K + j) x (by rw [flat_get (Kd.lens ha) hf hj]; exact hx)
  · have hul' := kd.len hp'
    have hul := kd.len hp
    refine ⟨ua ++ u' :: ub, [b], fa ++ f :: fb, ⟨_, _, c, rfl, ?_, e2, e3, .inr ⟨b, off, rfl, rfl, Nat.lt_of_lt_of_le hbl hbut.size, fun j x hx => ?_⟩⟩, ?_, rfl⟩
    · rw [← e1]; simp [hul', hul]
    · simp only [List.flatten_append, List.flatten_cons] at hx hc
      by_cases j1 : j < i * kd.K
      · rw [hco j (.inl j1)]
        refine hc j x ?_
        rw [List.getElem?_append_left (by omega)] at hx ⊢
        exact hx
      · by_cases j2 : i * kd.K + kd.K ≤ j
        · rw [hco j (.inr j2)]
          refine hc j x ?_
          rw [List.getElem?_append_right (by omega), List.getElem?_append_right (by omega), hka] at hx ⊢
          rw [hul'] at hx
          rw [hul]
          exact hx
        · rw [List.getElem?_append_right (by omega), List.getElem?_append_left (by omega), hka] at hx
          have := hcu (j - i * kd.K) x hx
          rw [← this]
          congr 1
          congr 1
          omega
    · have hk1 := Kd.keeps h1 hbut.size fun x hx => hbut.block x (hlt x (by simp [hx])) (hb1 x hx)
      have hk2 := Kd.keeps h22 hbut.size fun x hx => hbut.block x (hlt x (by simp [hx])) (hb2 x hx)
      have hs : l.set i a' = l.take i ++ a' :: l.drop (i + 1) := by rw [List.set_eq_take_append_cons_drop, if_pos hi]
      rw [hs]
      exact hk1.append ⟨hp', hk2⟩
end
end Go.Proofs.YtldimfmhbdhbnaaGreat

/-
  Contracts of the laws' helpers over parts and slices of parts: measuring, copying, comparing, marking; results that hold parts.
-/
namespace Go.Proofs.YtldimfmhbdhbnaaGreat
open Go.RowKit

/-- A part as a value. -/
abbrev ptv (v : Value) (m : Int) : Value := .agg #[v, .int .i64 m]
/-- A code and parts as a value. -/
abbrev psv (code : Int) (v : Value) : Value := .agg #[.int .i64 code, v]
/-- What a copy of one part answers. -/
def CopyPart (w : World) (p : Pt) (e : Ending) (w' : World) : Prop :=
  ∃ A c fp, e = .returned (ptv (.slice A p.rows.length c) p.mark) ∧ Rd w' 4 (.slice A p.rows.length c) (rcs p.rows) fp ∧ NF w' fp ∧ From w.heap.size fp ∧ Below w.heap.size w w'
/-- A marked part: the numbers from q on, four a row, then one. -/
def markT (p : Pt) (q : Int) : Pt := ⟨markR p.rows q, q + ((p.rows.length * 4 : Nat) : Int)⟩
def cntT (p : Pt) : Nat := p.rows.length * 4 + 1
abbrev markPs (l : List Pt) (q : Int) : List Pt := markL markT cntT l q
def cntPs (l : List Pt) : Nat := cntL cntT l
theorem cntPs_eq (l : List Pt) : cntPs l = totP l * 4 + l.length := by
  unfold cntPs totP
  induction l with
  | nil => rfl
  | cons a t ih => rw [cntL_cons, cntL_cons, ih, List.length_cons]; unfold cntT; omega
theorem cntPs_le (l : List Pt) (h : psz l ≤ 1048576) : cntPs l ≤ 4194304 := by have := cntPs_eq l; unfold psz at h; omega
theorem cntPs_take (l : List Pt) (i : Nat) (h : i < l.length) : cntPs (l.take (i + 1)) = cntPs (l.take i) + (l[i].rows.length * 4 + 1) := cntL_take (cnt := cntT) l i h
theorem cntPs_take_le (l : List Pt) (i : Nat) : cntPs (l.take i) ≤ cntPs l := cntL_take_le (cnt := cntT) l i




set_option maxRecDepth 1000000 in
theorem infoPart : ∃ i, Tryz.prog.info? 100 = some i ∧ i.zero = some (ptv (.slice none 0 0) 0) ∧ i.size = 2 ∧ i.bytes = 32 := ⟨_, rfl, rfl, rfl, rfl⟩
theorem makePartS (n : Nat) (hn : n ≤ 1099511627776) (W : World) : (Instr.makeSlice 33 (.int .i64 (n : Int)) (.int .i64 (n : Int))).run Tryz.prog W = .ok (.slice (some ⟨W.heap.size, 0, none⟩) n n) (W.alloc (.cells (madeCells #[.slice none 0 0, .int .i64 0] (n * 2)) 100)) := by
  obtain ⟨i, hi, hz, hsz, hby⟩ := infoPart
  have hr := run_make (P := Tryz.prog) W 33 100 i (ptv (.slice none 0 0) 0) Tryz.underlying33 hi hz .i64 .i64 n n (by omega) (by omega) (by rw [hby]; omega) (by omega)
  simp only [Int.toNat_natCast, hsz] at hr
  exact hr
theorem madePairs (a b : Value) (n : Nat) : madeCells #[a, b] (n * 2) = (List.replicate n [a, b]).flatten.toArray := by
  have hl : ∀ u ∈ List.replicate n [a, b], u.length = 2 := by intro u hu; rw [(List.mem_replicate.1 hu).2]; rfl
  unfold madeCells
  apply Array.ext'
  apply List.ext_getElem?
  intro i
  simp only [Array.toList_map, Array.toList_range, List.getElem?_map]
  by_cases h : i < n * 2
  · have hm : i % 2 < 2 := Nat.mod_lt _ (by omega)
    have hd : i / 2 * 2 + i % 2 = i := Nat.div_add_mod' i 2
    have hg := flat_get hl (i := i / 2) (j := i % 2) (u := [a, b]) (by rw [List.getElem?_replicate, if_pos (by omega)]) hm
    rw [hd] at hg
    rw [hg, List.getElem?_range h]
    simp only [Option.map_some]
    have : i % 2 = 0 ∨ i % 2 = 1 := by omega
    rcases this with e | e <;> simp [e]
  · rw [List.getElem?_eq_none (by simp; omega), List.getElem?_eq_none (by rw [flat_len hl, List.length_replicate]; omega)]
    rfl







theorem Sl.form' {α : Type} {k : Kd α} {w : World} {v : Value} {l : List α} {fp : List Nat} (h : Sl k w v l fp) : ∃ A c, v = .slice A l.length c := by
  obtain ⟨A, c, e, _⟩ := h.form
  exact ⟨A, c, e⟩
/-- What a call answers that gives a code and parts in memory of its own. -/
def PsResPost (w : World) (code : Int) (l : List Pt) (e : Ending) (w' : World) : Prop :=
  ∃ v fp, e = .returned (psv code v) ∧ RdP w' v l fp ∧ NF w' fp ∧ (From w.heap.size fp ∧ fp.Nodup) ∧ Below w.heap.size w w'



end Go.Proofs.YtldimfmhbdhbnaaGreat
