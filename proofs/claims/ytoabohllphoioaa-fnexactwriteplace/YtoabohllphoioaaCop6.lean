/-
  A slice of slices of rows that is made by appending copies.
-/
import Derived.Test.YtoabohllphoioaaApp3
import Derived.Test.YtoabohllphoioaaG11
namespace Go.Proofs.Ytoabohllphoioaa
open Go.RowKit

/-- vo is the call's own and holds the slices us, which read as ls, in blocks fs of their own. -/
structure CopF (w : World) (B : Nat) (vo : Value) (us : List Value) (fs : List (List Nat)) (ls : List (List R)) (T1 : TypeId) : Prop where
  own : w.ownsRow B T1 1 vo us.length us
  all : All3 (rowsK.P w) ls (us.map fun v => [v]) fs
  nf : NF w fs.flatten
  fr : From B fs.flatten
  nd : fs.flatten.Nodup
  ap : ∀ g, vo.ownBlock = some g → g ∉ fs.flatten
section
variable {w w' : World} {B : Nat} {vo : Value} {us : List Value} {fs : List (List Nat)} {ls : List (List R)} {T1 : TypeId}
theorem CopF.lt (h : CopF w B vo us fs ls T1) : ∀ b ∈ fs.flatten, b < w.heap.size := fun b hb => by
  obtain ⟨f, hf, hb⟩ := List.mem_flatten.1 hb
  obtain ⟨a, u, hp⟩ := h.all.each f hf
  exact rowsK.lt hp b hb
/-- Another block has grown. -/
theorem CopF.grown (h : CopF w B vo us fs ls T1) {row : Option Nat} (hg : w.grownBy w' row) (h1 : ∀ g, row = some g → g ∉ fs.flatten) (h2 : ∀ g, row = some g → vo.ownBlock ≠ some g) : CopF w' B vo us fs ls T1 := by
  have hb : ∀ b ∈ fs.flatten, w'.heap[b]? = w.heap[b]? := fun b hb => hg.block b (h.lt b hb) (fun e => h1 b e.symm hb)
  refine ⟨h.own.kept hg ?_, Kd.keeps h.all hg.size hb, h.nf.keep hb, h.fr, h.nd, h.ap⟩
  cases hv : vo.ownBlock with
  | none => exact .inl rfl
  | some g => exact .inr fun e => h2 g e.symm hv
theorem CopF.alloc (h : CopF w B vo us fs ls T1) (o : Obj) : CopF (w.alloc o) B vo us fs ls T1 :=
  h.grown (row := none) (World.grownBy_alloc w o none) (fun g e => by cases e) (fun g e => by cases e)
theorem CopF.drewN (h : CopF w B vo us fs ls T1) (n : Nat) : CopF (w.drewN n) B vo us fs ls T1 :=
  h.grown (row := none) ⟨rfl, rfl, rfl, Nat.le_refl _, fun _ _ _ => rfl⟩ (fun g e => by cases e) (fun g e => by cases e)
/-- One more. -/
theorem CopF.push (h : CopF w B vo us fs ls T1) {v' u : Value} {f : List Nat} {r : List R} (hr : Rd w 4 u (rcs r) f) (hn : NF w f) (hf : From B f) (hnew : ∀ b ∈ f, b ∉ fs.flatten) (hvo : ∀ g, vo.ownBlock = some g → g ∉ f)
    (hown : w'.ownsRow B T1 1 v' (us.length + 1) (us ++ [u])) (hg : w.grownBy w' vo.ownBlock) (hw : v'.ownBlock = vo.ownBlock ∨ v'.ownBlock = some w.heap.size) : CopF w' B v' (us ++ [u]) (fs ++ [f]) (ls ++ [r]) T1 := by
  have hb : ∀ b ∈ fs.flatten, w'.heap[b]? = w.heap[b]? := fun b hb => hg.block b (h.lt b hb) (fun e => h.ap b e.symm hb)
  have hb2 : ∀ b ∈ f, w'.heap[b]? = w.heap[b]? := fun b hb => hg.block b (hr.lt b hb) (fun e => hvo b e.symm hb)
  have hfl : (fs ++ [f]).flatten = fs.flatten ++ f := by simp
  refine ⟨by simpa using hown, ?_, ?_, ?_, ?_, ?_⟩
  · rw [List.map_append]
    exact (Kd.keeps h.all hg.size hb).snoc ⟨u, rfl, hr.keep hg.size hb2⟩
  · rw [hfl]; intro b hm
    rcases List.mem_append.1 hm with hm | hm
    · exact h.nf.keep hb b hm
    · exact hn.keep hb2 b hm
  · rw [hfl]; intro b hm
    rcases List.mem_append.1 hm with hm | hm
    · exact h.fr b hm
    · exact hf b hm
  · rw [hfl]
    exact List.nodup_append.2 ⟨h.nd, hr.nodup, fun a ha b hb e => hnew b hb (e ▸ ha)⟩
  · rw [hfl]; intro g hg' hm
    rcases hw with hw | hw
    · rw [hw] at hg'
      rcases List.mem_append.1 hm with hm | hm
      · exact h.ap g hg' hm
      · exact hvo g hg' hm
    · rw [hw] at hg'; injection hg' with hg'; subst hg'
      rcases List.mem_append.1 hm with hm | hm
      · have := h.lt _ hm; omega
      · have := hr.lt _ hm; omega
theorem CopF.nil (w : World) (B : Nat) (T1 : TypeId) : CopF w B (.slice none 0 0) [] [] [] T1 :=
  ⟨World.ownsRow_nil _ _ _ _, trivial, NF.nil _, From.nil _, by simp, fun g hg => by simp [Value.ownBlock] at hg⟩
/-- It reads. -/
theorem CopF.done (h : CopF w B vo us fs ls T1) : ∃ fp, RdF w vo ls fp ∧ NF w fp ∧ From B fp ∧ fp.Nodup := by
  obtain ⟨f0, r1, r2, r3, r4⟩ := Rd.of_own6 h.own
  have hfl : (us.map fun v => [v]).flatten = us := by
    have : ∀ us : List Value, (us.map fun v => [v]).flatten = us := fun us => by
      induction us with
      | nil => rfl
      | cons a t ih => rw [List.map_cons, List.flatten_cons, ih]; rfl
    exact this us
  refine ⟨f0 ++ fs.flatten, ⟨us.map fun v => [v], f0, fs, by rw [hfl]; exact r1, h.all, rfl⟩, ?_, ?_, ?_⟩
  · intro b hm
    rcases List.mem_append.1 hm with hm | hm
    · exact r2 b hm
    · exact h.nf b hm
  · intro b hm
    rcases List.mem_append.1 hm with hm | hm
    · exact r3 b hm
    · exact h.fr b hm
  · exact List.nodup_append.2 ⟨r1.nodup, h.nd, fun a ha b hb e => h.ap a (r4 a ha) (e ▸ hb)⟩
end
theorem rd1_new {w : World} {u : Value} {t : TypeId} : ∀ j x, [u][j]? = some x → (w.alloc (.cells #[u] t)).cell? ((⟨w.heap.size, 0, none⟩ : Addr).add j) = some x := by
  intro j x hx
  rw [Addr.add_lit, cell_of_heap (heap_new w _ rfl)]
  match j, hx with
  | 0, hx => simpa using hx
/-- One element of a slice of slices of rows is replaced. -/
theorem Sl.put {w : World} {v : Value} {l : List (List R)} {fp : List Nat} (h : RdF w v l fp) (hnd : fp.Nodup) {i : Nat} (hi : i < l.length) :
    ∃ c b off old, v = .slice (some ⟨b, off, none⟩) l.length c ∧ b ∈ fp ∧ b < w.heap.size ∧ w.cell? ⟨b, off + i, none⟩ = some old ∧
      ∀ (w' : World) (u : Value) (a' : List R) (f' : List Nat), But [b] w w' → w'.cell? ⟨b, off + i, none⟩ = some u → (∀ j, j ≠ i → w'.cell? ⟨b, off + j, none⟩ = w.cell? ⟨b, off + j, none⟩) → Rd w' 4 u (rcs a') f' → (∀ x ∈ f', x ∉ fp) →
        ∃ fq, RdF w' v (l.set i a') fq ∧ fq.Nodup ∧ ∀ x ∈ fq, x ∈ fp ∨ x ∈ f' := by
  obtain ⟨A, c, rfl, hmx⟩ := Sl.form h
  have h' := h
  obtain ⟨us, f0, fs, hr, ha, rfl⟩ := h'
  have ha' := ha
  rw [← List.take_append_drop i l] at ha'
  obtain ⟨ua, ub, fa, fb, rfl, rfl, h1, h2⟩ := ha'.split
  rw [List.drop_eq_getElem_cons hi] at h2
  obtain ⟨u0, ub, f, fb, rfl, rfl, ⟨v0, rfl, hp⟩, h22⟩ := h2.cons
  have hla : fa.length = i := by rw [h1.len.2, List.length_take]; omega
  have hlu : ua.length = i := by rw [h1.len.1, List.length_take]; omega
  have hlt := Sl.lt h
  simp only [List.flatten_append, List.flatten_cons] at hnd
  have n1 := List.nodup_append.1 hnd
  have n2 := List.nodup_append.1 n1.2.1
  have n3 := List.nodup_append.1 n2.2.1
  have hua : ∀ u ∈ ua, u.length = 1 := Kd.lens (k := rowsK) h1
  have hub : ∀ u ∈ ub, u.length = 1 := Kd.lens (k := rowsK) h22
  have hfua : ua.flatten.length = i := by rw [flat_len hua, hlu, Nat.mul_one]
  have hfl : (ua ++ [v0] :: ub).flatten = ua.flatten ++ v0 :: ub.flatten := by simp
  rw [hfl] at hr
  obtain ⟨A', n', c', e, e1, e2, e3, e4⟩ := hr
  injection e with q1 q2 q3
  subst q1 q2 q3
  rcases e4 with ⟨e4, _⟩ | ⟨b, off, rfl, rfl, hbl, hc⟩
  · omega
  refine ⟨c, b, off, v0, rfl, by simp, hbl, ?_, fun w' u a' f' hbut hcu hco hrd hnew => ?_⟩
  · exact hc i v0 (by rw [List.getElem?_append_right (by omega), hfua]; simp)
  · have hbn : ∀ x ∈ (fa ++ f :: fb).flatten, x ∉ [b] := fun x hx he => by simp at he; subst he; exact n1.2.2 x (by simp) x (by simpa using hx) rfl
    have k1 := Kd.keeps h1 hbut.size fun x hx => hbut.block x (hlt x (by simp [hx])) (hbn x (by simp [hx]))
    have k2 := Kd.keeps h22 hbut.size fun x hx => hbut.block x (hlt x (by simp [hx])) (hbn x (by simp [hx]))
    have hs : l.set i a' = l.take i ++ a' :: l.drop (i + 1) := by rw [List.set_eq_take_append_cons_drop, if_pos hi]
    have hfl2 : (ua ++ [u] :: ub).flatten = ua.flatten ++ u :: ub.flatten := by simp
    refine ⟨[b] ++ (fa ++ f' :: fb).flatten, ⟨ua ++ [u] :: ub, [b], fa ++ f' :: fb, ?_, ?_, rfl⟩, ?_, ?_⟩
    · rw [hfl2]
      refine ⟨_, _, c, rfl, by simp only [List.length_append, List.length_cons] at e1 ⊢; exact e1, e2, e3, .inr ⟨b, off, rfl, rfl, Nat.lt_of_lt_of_le hbl hbut.size, fun j x hx => ?_⟩⟩
      by_cases hj : j = i
      · subst hj
        rw [List.getElem?_append_right (by omega), hfua, Nat.sub_self] at hx
        simp at hx; subst hx; exact hcu
      · rw [hco j hj]
        refine hc j x ?_
        by_cases hji : j < i
        · rw [List.getElem?_append_left (by omega)] at hx ⊢; exact hx
        · rw [List.getElem?_append_right (by omega), hfua] at hx ⊢
          obtain ⟨d, hd⟩ : ∃ d, j - i = d + 1 := ⟨j - i - 1, by omega⟩
          rw [hd] at hx ⊢
          simpa using hx
    · rw [hs]
      exact k1.append ⟨⟨u, rfl, hrd⟩, k2⟩
    · simp only [List.flatten_append, List.flatten_cons]
      have hn : ∀ x ∈ f', x ∉ [b] ++ (fa.flatten ++ (f ++ fb.flatten)) := fun x hx => by simpa using hnew x hx
      refine List.nodup_append.2 ⟨n1.1, List.nodup_append.2 ⟨n2.1, List.nodup_append.2 ⟨hrd.nodup, n3.2.1, fun x hx y hy e => hn x hx (by subst e; simp [hy])⟩, fun x hx y hy e => ?_⟩, fun x hx y hy e => ?_⟩
      · subst e
        rcases List.mem_append.1 hy with hy | hy
        · exact hn x hy (by simp [hx])
        · exact n2.2.2 x hx x (by simp [hy]) rfl
      · subst e
        rcases List.mem_append.1 hy with hy | hy
        · exact n1.2.2 x hx x (by simp [hy]) rfl
        · rcases List.mem_append.1 hy with hy | hy
          · exact hn x hy (by simp at hx; simp [hx])
          · exact n1.2.2 x hx x (by simp [hy]) rfl
    · intro x hx
      simp only [List.flatten_append, List.flatten_cons, List.mem_append] at hx ⊢
      rcases hx with hx | hx | hx | hx
      · exact .inl (.inl hx)
      · exact .inl (.inr (.inl hx))
      · exact .inr hx
      · exact .inl (.inr (.inr (.inr hx)))
end Go.Proofs.Ytoabohllphoioaa
