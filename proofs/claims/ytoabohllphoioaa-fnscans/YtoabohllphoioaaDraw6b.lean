/-
  The model's draws of chapter 6, second part: places that may be wrong.
-/
import Derived.Test.YtoabohllphoioaaDraw6a
namespace Go.Proofs.Ytoabohllphoioaa
open Go.RowKit

theorem own_ne {w : World} {base size n b : Nat} {T T' : TypeId} {v : Value} {xs : List Value} {cs : Array Value} (h : w.ownsRow base T size v n xs) (hb : w.heap[b]? = some (.cells cs T' (0, 0))) (hT : T ≠ T') : v.ownBlock ≠ some b := by
  rcases h.2 with ⟨rfl, _⟩ | ⟨g', cap, cur, rfl, _, hh, _⟩
  · simp [Value.ownBlock]
  · intro e
    simp [Value.ownBlock] at e
    subst e
    rw [hb] at hh
    injection hh with hh
    injection hh with _ hh
    exact hT hh.symm
theorem own_lower {w : World} {base base' size n : Nat} {T : TypeId} {v : Value} {xs : List Value} (h : w.ownsRow base T size v n xs) (hb : base' ≤ base) : w.ownsRow base' T size v n xs := by
  refine ⟨h.1, ?_⟩
  rcases h.2 with h0 | ⟨g, cap, cur, h1, h2, h3, h4⟩
  · exact .inl h0
  · exact .inr ⟨g, cap, cur, h1, Nat.le_trans hb h2, h3, h4⟩
theorem OwnF.lower {w : World} {B B' : Nat} {vs : List Value} {ls : List (List R)} {T : TypeId} (h : OwnF w B vs ls T) (hb : B' ≤ B) : OwnF w B' vs ls T :=
  ⟨h.len, fun j hj => by obtain ⟨v, n, h1, h2⟩ := h.own j hj; exact ⟨v, n, h1, own_lower h2 hb⟩, h.apart⟩
theorem flat_one (us : List Value) : (us.map fun v => [v]).flatten = us := by
  induction us with
  | nil => rfl
  | cons a t ih => rw [List.map_cons, List.flatten_cons, ih]; rfl

/-- Four files of the call's own, from the k-th on. -/
theorem own_reads {w' : World} {ls : List (List R)} (m : Int) {g B : Nat} {vs : List Value} (k : Nat) (hk : k < 4) (h4 : ls.length = 4) (HG : w'.heap[g]? = some (.cells vs.toArray 29 (0, 0))) (ho : OwnF w' B vs ls 34) (hgB : g < B) :
    ∃ fp, PlAt w' ⟨ls.drop k, m⟩ (.slice (some ⟨g, k, none⟩) (4 - k) (4 - k)) fp ∧ NF w' fp ∧ From g fp ∧ fp.Nodup := by
  obtain ⟨fs, ha, hn, hf, hd⟩ := ho.reads
  have hvl : vs.length = 4 := by rw [ho.len, h4]
  have ha' := ha
  rw [← List.take_append_drop k ls] at ha'
  obtain ⟨ua, ub, fa, fb, e1, rfl, h1, h2⟩ := ha'.split
  have hlu : ua.length = k := by rw [h1.len.1, List.length_take]; omega
  have hub : ub = (vs.drop k).map fun v => [v] := by rw [List.map_drop, e1, List.drop_left' hlu]
  subst hub
  simp only [List.flatten_append] at hn hf hd
  have hrd : Rd w' 1 (.slice (some ⟨g, k, none⟩) (4 - k) (4 - k)) ((vs.drop k).map fun v => [v]).flatten [g] := by
    rw [flat_one]
    refine ⟨_, 4 - k, 4 - k, rfl, by rw [List.length_drop, hvl, Nat.mul_one], by unfold maxLen; omega, Nat.le_refl _, .inr ⟨_, k, rfl, rfl, heap_lt HG, fun i u hu => ?_⟩⟩
    rw [List.getElem?_drop] at hu
    rw [cell_of_heap HG, List.getElem?_toArray]
    exact hu
  refine ⟨[g] ++ fb.flatten, ⟨⟨_, _, fb, hrd, h2, rfl⟩⟩, fun x hx i => ?_, fun x hx => ?_, List.nodup_append.2 ⟨by simp, (List.nodup_append.1 hd).2.1, fun a ha b hb => ?_⟩⟩
  · rcases List.mem_append.1 hx with hx | hx
    · simp at hx; subst hx; exact frozen_of_heap HG
    · exact hn x (List.mem_append.2 (.inr hx)) i
  · rcases List.mem_append.1 hx with hx | hx
    · simp at hx; omega
    · have := hf x (List.mem_append.2 (.inr hx)); omega
  · have := hf b (List.mem_append.2 (.inr hb)); simp at ha; omega

/-- Drawn places. -/
def DPlPost (w : World) (s : Nat) (zs : List Int) (a : Nat) (e : Ending) (w' : World) : Prop :=
  ∃ (p : Pl) (vf : Value) (fp : List Nat) (d : Nat), e = .returned (plv p.mark vf) ∧ PlAt w' p vf fp ∧ NF w' fp ∧ From w.heap.size fp ∧ fp.Nodup ∧ (∀ l ∈ p.fs, ∀ r ∈ l, Mild r) ∧ (-20000 ≤ p.mark ∧ p.mark ≤ 20000) ∧ plsz p ≤ 1000 ∧ d ≤ 60 ∧ Drawn w s zs a d w'
theorem fsz_le {l : List (List R)} {n : Nat} (h : ∀ x ∈ l, x.length ≤ n) : fsz l ≤ (l.length : Int) + ((l.length * n : Nat) : Int) := by
  have : totS l ≤ l.length * n := by
    unfold totS cntL
    induction l with
    | nil => simp
    | cons a t ih =>
      have h1 := h a (by simp)
      have h2 := ih (fun x hx => h x (by simp [hx]))
      rw [List.map_cons, List.sum_cons, List.length_cons, Nat.succ_mul]; omega
  unfold fsz
  omega
/-- What stands: the files in block g, the value in block p, the answer's block. -/
structure LB (w : World) (s : Nat) (zs : List Int) (a d g p n k : Nat) (vs : List Value) (ls : List (List R)) (q : Int) (wr : World) : Prop where
  hg : wr.heap[g]? = some (.cells vs.toArray 29 (0, 0))
  own : OwnF wr (g + 1) vs ls 34
  box : wr.heap[p]? = some (.cells #[.slice (some ⟨g, k, none⟩) (4 - k) (4 - k), .int .i64 q] 26 (0, 0))
  res : wr.heap[w.heap.size]? = some (.cells #[.slice none 0 0, .int .i64 0] 26 (0, 0))
  drawn : Drawn w s zs a d wr
  l4 : ls.length = 4
  mild : ∀ l ∈ ls, ∀ r ∈ l, Mild r
  sz : ∀ l ∈ ls, l.length ≤ n
  gl : w.heap.size < g
  pg : g < p
  sl : s < w.heap.size
section
variable {w wr : World} {s : Nat} {zs : List Int} {a d g p n k : Nat} {vs : List Value} {ls : List (List R)} {q : Int}
theorem LB.draw (h : LB w s zs a d g p n k vs ls q wr) {e : Nat} {w1 : World} (hd : Drawn wr s zs (a + d) e w1) : LB w s zs a (d + e) g p n k vs ls q w1 := by
  have h1 := h.sl; have h2 := h.gl; have h3 := h.pg
  refine ⟨hd.but.heap h.hg (by simp; omega), h.own.kept fun v n xs ho => hd.keeps4 ho (by omega), hd.but.heap h.box (by simp; omega), hd.but.heap h.res (by simp; omega), h.drawn.trans hd, h.l4, h.mild, h.sz, h.gl, h.pg, h.sl⟩
theorem LB.below (h : LB w s zs a d g p n k vs ls q wr) {w1 : World} (hb : Below wr.heap.size wr w1) : LB w s zs a d g p n k vs ls q w1 := by
  have keep : ∀ {b : Nat} {o : Obj}, wr.heap[b]? = some o → w1.heap[b]? = some o := fun hh => (hb.block _ (heap_lt hh)).trans hh
  refine ⟨keep h.hg, h.own.kept fun v n xs ho => ?_, keep h.box, keep h.res, h.drawn.below hb, h.l4, h.mild, h.sz, h.gl, h.pg, h.sl⟩
  refine ⟨ho.1, ?_⟩
  rcases ho.2 with h0 | ⟨g, cap, cur, h1, h2, h3, h4⟩
  · exact .inl h0
  · exact .inr ⟨g, cap, cur, h1, h2, keep h3, h4⟩
/-- The value's block is stored into. -/
theorem LB.store (h : LB w s zs a d g p n k vs ls q wr) (i k' : Nat) (u : Value) (q' : Int)
    (hc : #[Value.slice (some ⟨g, k, none⟩) (4 - k) (4 - k), .int .i64 q].setIfInBounds i u = #[Value.slice (some ⟨g, k', none⟩) (4 - k') (4 - k'), .int .i64 q']) : LB w s zs a d g p n k' vs ls q' (wr.setCell ⟨p, i, none⟩ u) := by
  have h1 := h.sl; have h2 := h.gl; have h3 := h.pg
  have hb : But [p] wr (wr.setCell ⟨p, i, none⟩ u) := (But.refl [p] wr).setCell (p := ⟨p, i, none⟩) (by simp) u
  refine ⟨hb.heap h.hg (by simp; omega), h.own.kept fun v n xs ho => ?_, ?_, hb.heap h.res (by simp; omega), h.drawn.set ⟨by omega, h1⟩ i u, h.l4, h.mild, h.sz, h.gl, h.pg, h.sl⟩
  · refine ho.kept (row := some p) ⟨hb.os, hb.tape, hb.output, hb.size, fun x hx hne => hb.block x hx (by simp; intro e; exact hne (by rw [e]))⟩ ?_
    cases hv : v.ownBlock with
    | none => exact .inl rfl
    | some g' => exact .inr fun e => own_ne ho h.box (by decide) (by rw [hv, e])
  · rw [← hc]; exact heap_set1 h.box
theorem LB.fin (h : LB w s zs a d g p n k vs ls q wr) (hk : k < 4) (hn : n ≤ 100) (hq : -20000 ≤ q ∧ q ≤ 20000) (hd : d ≤ 60) (u v : Value) :
    DPlPost w s zs a (.returned (plv q (.slice (some ⟨g, k, none⟩) (4 - k) (4 - k)))) ((wr.setCell ⟨w.heap.size, 0, none⟩ u).setCell ⟨w.heap.size, 1, none⟩ v) := by
  have h1 := h.sl; have h2 := h.gl; have h3 := h.pg; have h4 := h.l4
  obtain ⟨fp, k1, k2, k3, k4⟩ := own_reads q k hk h4 h.hg h.own (Nat.lt_succ_self g)
  have hbut := ((But.refl [w.heap.size] wr).setCell (p := ⟨w.heap.size, 0, none⟩) (by simp) u).setCell (p := ⟨w.heap.size, 1, none⟩) (by simp) v
  have a1 : ∀ x ∈ fp, x ∉ [w.heap.size] := fun x hx he => by have := k3 x hx; simp at he; omega
  have hz := fsz_le (l := ls.drop k) (n := n) (fun x hx => h.sz x (List.mem_of_mem_drop hx))
  have hlen : (ls.drop k).length ≤ 4 := by rw [List.length_drop]; omega
  have hm : (ls.drop k).length * n ≤ 4 * 100 := Nat.mul_le_mul hlen hn
  exact ⟨⟨ls.drop k, q⟩, _, fp, d, rfl, k1.but hbut a1, k2.but hbut k1.lt a1, k3.mono (by omega), k4, fun l hl => h.mild l (List.mem_of_mem_drop hl), hq, by show fsz (ls.drop k) ≤ 1000; omega, hd, (h.drawn.set ⟨Nat.le_refl _, h1⟩ _ _).set ⟨Nat.le_refl _, h1⟩ _ _⟩
/-- A file's slice is stored. -/
theorem LB.put (h : LB w s zs a d g p n k vs ls q wr) {j : Nat} {w2 : World} {v' : Value} {l' : List R} {n' d' : Nat} (hn : n ≤ n') (hg2 : w2.heap[g]? = some (.cells vs.toArray 29 (0, 0)))
    (own2 : OwnF w2 (g + 1) (vs.set j v') (ls.set j l') 34) (box2 : w2.heap[p]? = some (.cells #[.slice (some ⟨g, k, none⟩) (4 - k) (4 - k), .int .i64 q] 26 (0, 0)))
    (res2 : w2.heap[w.heap.size]? = some (.cells #[.slice none 0 0, .int .i64 0] 26 (0, 0))) (hd2 : Drawn w s zs a d' w2) (hm : ∀ r ∈ l', Mild r) (hl : l'.length ≤ n') :
    LB w s zs a d' g p n' k (vs.set j v') (ls.set j l') q (w2.setCell ⟨g, j, none⟩ v') := by
  have h1 := h.sl; have h2 := h.gl; have h3 := h.pg
  have hb : But [g] w2 (w2.setCell ⟨g, j, none⟩ v') := (But.refl [g] w2).setCell (p := ⟨g, j, none⟩) (by simp) v'
  refine ⟨?_, own2.kept fun v n xs ho => ?_, hb.heap box2 (by simp; omega), hb.heap res2 (by simp; omega), hd2.set ⟨by omega, h1⟩ j v', by rw [List.length_set]; exact h.l4, fun l hl2 => ?_, fun l hl2 => ?_, h2, h3, h1⟩
  · have := heap_set1 (i := j) (v := v') hg2
    rw [List.setIfInBounds_toArray] at this
    exact this
  · refine ho.kept (row := some g) ⟨hb.os, hb.tape, hb.output, hb.size, fun x hx hne => hb.block x hx (by simp; intro e; exact hne (by rw [e]))⟩ ?_
    cases hv : v.ownBlock with
    | none => exact .inl rfl
    | some g' => exact .inr fun e => own_ne ho hg2 (by decide) (by rw [hv, e])
  · rcases List.mem_or_eq_of_mem_set hl2 with h' | rfl
    · exact h.mild l h'
    · exact hm
  · rcases List.mem_or_eq_of_mem_set hl2 with h' | rfl
    · exact Nat.le_trans (h.sz l h') hn
    · exact hl
end
/-- One of them is replaced by what lies in new blocks. -/
theorem OwnF.put {w w' : World} {B : Nat} {vs : List Value} {ls : List (List R)} {T : TypeId} (h : OwnF w B vs ls T) {j : Nat} (hj : j < ls.length) {v' : Value} {n : Nat} {l' : List R} (hown : w'.ownsRow B T 4 v' n (rcs l'))
    (hb : Below w.heap.size w w') (hnew : ∀ g, v'.ownBlock = some g → w.heap.size ≤ g) : OwnF w' B (vs.set j v') (ls.set j l') T := by
  have hjv : j < vs.length := by rw [h.len]; exact hj
  have old : ∀ (k : Nat) (u : Value) (g : Nat), vs[k]? = some u → u.ownBlock = some g → g < w.heap.size := fun k u g hk hg => by
    have hkl : k < ls.length := by rw [← h.len]; exact (List.getElem?_eq_some_iff.1 hk).1
    obtain ⟨u', m, h1, h2⟩ := h.own k hkl
    rw [hk] at h1; injection h1 with h1; subst h1
    exact own_lt6 h2 hg
  refine ⟨by simp [h.len], fun k hk => ?_, fun a b va vb g hab ha hb' hga hgb => ?_⟩
  · rw [List.length_set] at hk
    by_cases e : j = k
    · subst e
      exact ⟨v', n, by rw [List.getElem?_set_self hjv], by simpa using hown⟩
    · obtain ⟨u, m, h1, h2⟩ := h.own k hk
      refine ⟨u, m, by rw [List.getElem?_set_ne e]; exact h1, ?_⟩
      rw [List.getElem_set_ne e]
      refine ⟨h2.1, ?_⟩
      rcases h2.2 with h0 | ⟨g, cap, cur, k1, k2, k3, k4⟩
      · exact .inl h0
      · exact .inr ⟨g, cap, cur, k1, k2, (hb.block _ (heap_lt k3)).trans k3, k4⟩
  · by_cases ea : j = a
    · subst ea
      rw [List.getElem?_set_self hjv] at ha; injection ha with ha; subst ha
      rw [List.getElem?_set_ne hab] at hb'
      have := old b vb g hb' hgb
      have := hnew g hga
      omega
    · rw [List.getElem?_set_ne ea] at ha
      by_cases eb : j = b
      · subst eb
        rw [List.getElem?_set_self hjv] at hb'; injection hb' with hb'; subst hb'
        have := old a va g ha hga
        have := hnew g hgb
        omega
      · rw [List.getElem?_set_ne eb] at hb'
        exact h.apart a b va vb g hab ha hb' hga hgb
end Go.Proofs.Ytoabohllphoioaa
