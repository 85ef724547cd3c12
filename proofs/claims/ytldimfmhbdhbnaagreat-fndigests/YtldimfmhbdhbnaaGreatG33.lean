/-
  The model's draws of chapter 7, first part: parts; what stands while parts are drawn.
-/
import Derived.Test.YtldimfmhbdhbnaaGreatG32
import Derived.Test.YtldimfmhbdhbnaaGreatG44
import Derived.Test.YtldimfmhbdhbnaaGreatG43
import Derived.Test.YtldimfmhbdhbnaaGreatG23
import Derived.Test.YtldimfmhbdhbnaaGreatG25
namespace Go.Proofs.YtldimfmhbdhbnaaGreat
open Go.RowKit

/-- Drawn parts: three of the call's own. -/
def DPOfPost (w : World) (s : Nat) (zs : List Int) (a : Nat) (e : Ending) (w' : World) : Prop :=
  ∃ (rs : List R) (q : Int) (g B : Nat) (vs : List Value) (d : Nat), e = .returned (.slice (some ⟨g, 0, none⟩) 3 3) ∧ w'.heap[g]? = some (.cells (ilv vs q).toArray 100 (0, 0)) ∧ OwnF w' B vs (laidP (solidL rs)) 40 ∧ w.heap.size ≤ g ∧ g < B ∧
    (∀ r ∈ rs, Fit r ∧ Mild r) ∧ rs.length ≤ 7 ∧ (0 ≤ q ∧ q ≤ 999) ∧ d ≤ 30 ∧ Drawn w s zs a d w'

set_option maxRecDepth 100000 in
set_option maxHeartbeats 4000000 in
theorem l7Draw_c (w : World) (s : Nat) (zs : List Int) (a : Nat) (h : Src w s zs a) (ha : a < 970000) :
    Calls Tryz.prog 68 #[.pointer (some ⟨s, 0, none⟩)] w (DPOfPost w s zs a) := by
  have hls := h.lt
  have HD0 := Lib.hid (Drawn.start h)
  clear h
  go_enter Tryz.func68, Tryz.ntmps68
  go_wp2_with fail
  refine (l2Draw_f w s zs (a + 0) HD0.out.src (by omega)).mono ?_
  rintro e w1 ⟨v, fv, rs, d, rfl, hr, hf, hm, hl, hd, hdr⟩
  obtain ⟨A, c, rfl⟩ := hr.rows_form
  have hsz1 := hdr.but.size
  have hap : ∀ b ∈ fv, b ∉ [s] := fun b hb he => by have := hf b hb; simp at he; omega
  have HR := Lib.hid hr; have HM := Lib.hid hm; have HD := Lib.hid (HD0.out.trans hdr); have HAP := Lib.hid hap
  clear hr hf hm hdr hap HD0
  go_wp2_with fail
  refine (pick_6 w1 s zs (a + (0 + d)) w1.heap.size [0, 1, 5, 999] HD.out.src rfl (by omega) (by simp) (by simp)).mono ?_
  rintro e w2 ⟨q, rfl, hq, hd2⟩
  have hq' : 0 ≤ q ∧ q ≤ 999 := by simp at hq; omega
  have HR2 := Lib.hid (HR.out.but hd2.but HAP.out)
  have HD2 := Lib.hid (HD.out.trans hd2)
  have hsz2 := hd2.but.size
  clear hq hd2
  go_wp2_with fail
  refine (l7From_o A c rs q w2 fv (by omega) (fits_iff.2 fun x hx => (HM.out x hx).1) HR2.out).mono ?_
  rintro e w3 ⟨g, B, vs, rfl, hg, ho, hgl, hgB, hb⟩
  have HX := Lib.hid (And.intro hg (And.intro ho (HD2.out.below hb)))
  clear hg ho hb
  go_wp2_with fail
  go_ret
  exact ⟨rs, q, g, B, vs, _, rfl, HX.out.1, HX.out.2.1, by omega, hgB, HM.out, hl, hq', by omega, HX.out.2.2⟩

/-- Parts of short numbers. -/
def MildT (l : List Pt) : Prop := ∀ p ∈ l, (-20000 ≤ p.mark ∧ p.mark ≤ 20000) ∧ ∀ r ∈ p.rows, Mild r
/-- Drawn parts that may be wrong. -/
def DPtPost (w : World) (s : Nat) (zs : List Int) (a : Nat) (e : Ending) (w' : World) : Prop :=
  ∃ (l : List Pt) (A : Option Addr) (c : Nat) (fp : List Nat) (d : Nat), e = .returned (.slice A l.length c) ∧ RdP w' (.slice A l.length c) l fp ∧ NF w' fp ∧ From w.heap.size fp ∧ fp.Nodup ∧ MildT l ∧ psz l ≤ 1000 ∧ d ≤ 60 ∧ Drawn w s zs a d w'

section
variable {v0 v1 v2 : Value} {l0 l1 l2 : List R} {m0 m1 m2 : Int}
/-- Six cells of block g are three parts. -/
theorem own_pt3 {w' : World} {g B : Nat} (HG : w'.heap[g]? = some (.cells #[v0, .int .i64 m0, v1, .int .i64 m1, v2, .int .i64 m2] 100 (0, 0))) (ho : OwnF w' B [v0, v1, v2] [l0, l1, l2] 40) (hgB : g < B) :
    (∃ fp, RdP w' (.slice (some ⟨g, 0, none⟩) 3 3) [⟨l0, m0⟩, ⟨l1, m1⟩, ⟨l2, m2⟩] fp ∧ NF w' fp ∧ From g fp ∧ fp.Nodup) ∧ ∃ fp, RdP w' (.slice (some ⟨g, 2, none⟩) 2 2) [⟨l1, m1⟩, ⟨l2, m2⟩] fp ∧ NF w' fp ∧ From g fp ∧ fp.Nodup := by
  obtain ⟨fs, ha, hn, hf, hd⟩ := ho.reads
  match fs, ha with
  | [f0, f1, f2], ⟨⟨u0, e0, r0⟩, ⟨u1, e1, r1⟩, ⟨u2, e2, r2⟩, _⟩ =>
    injection e0 with e0 _; injection e1 with e1 _; injection e2 with e2 _
    subst e0 e1 e2
    simp only [List.flatten_cons, List.flatten_nil, List.append_nil] at hn hf hd
    have n1 := List.nodup_append.1 hd
    have hlt := heap_lt HG
    have hfz := fun i => frozen_of_heap (i := i) HG
    have fin : ∀ (f : List Nat), (∀ x ∈ f, x ∈ f0 ++ (f1 ++ f2)) → f.Nodup → NF w' ([g] ++ f) ∧ From g ([g] ++ f) ∧ ([g] ++ f).Nodup := fun f hs hnd => by
      refine ⟨fun x hx i => ?_, fun x hx => ?_, List.nodup_append.2 ⟨by simp, hnd, fun a ha b hb => ?_⟩⟩
      · rcases List.mem_append.1 hx with hx | hx
        · simp at hx; subst hx; exact hfz i
        · exact hn x (hs x hx) i
      · rcases List.mem_append.1 hx with hx | hx
        · simp at hx; omega
        · have := hf x (hs x hx); omega
      · have := hf b (hs b hb); simp at ha; omega
    refine ⟨⟨[g] ++ (f0 ++ (f1 ++ f2)), ⟨[[v0, .int .i64 m0], [v1, .int .i64 m1], [v2, .int .i64 m2]], [g], [f0, f1, f2], ⟨_, 3, 3, rfl, rfl, by unfold maxLen; omega, by omega, .inr ⟨g, 0, rfl, rfl, hlt, fun i u hu => ?_⟩⟩, ⟨⟨_, rfl, r0⟩, ⟨_, rfl, r1⟩, ⟨_, rfl, r2⟩, trivial⟩, by simp⟩, fin _ (fun x hx => hx) hd⟩,
      ⟨[g] ++ (f1 ++ f2), ⟨[[v1, .int .i64 m1], [v2, .int .i64 m2]], [g], [f1, f2], ⟨_, 2, 2, rfl, rfl, by unfold maxLen; omega, by omega, .inr ⟨g, 2, rfl, rfl, hlt, fun i u hu => ?_⟩⟩, ⟨⟨_, rfl, r1⟩, ⟨_, rfl, r2⟩, trivial⟩, by simp⟩, fin _ (fun x hx => by simp at hx ⊢; exact .inr hx) n1.2.1⟩⟩
    · rw [Nat.zero_add, cell_of_heap HG, List.getElem?_toArray]
      exact hu
    · rw [Nat.add_comm, cell_of_heap HG, List.getElem?_toArray]
      exact hu

/-- What stands: three parts in block g. -/
structure LP (w : World) (s : Nat) (zs : List Int) (a d g n : Nat) (v0 v1 v2 : Value) (l0 l1 l2 : List R) (m0 m1 m2 : Int) (wr : World) : Prop where
  hg : wr.heap[g]? = some (.cells #[v0, .int .i64 m0, v1, .int .i64 m1, v2, .int .i64 m2] 100 (0, 0))
  own : OwnF wr (g + 1) [v0, v1, v2] [l0, l1, l2] 40
  drawn : Drawn w s zs a d wr
  mild : ∀ l ∈ [l0, l1, l2], ∀ r ∈ l, Mild r
  sz : ∀ l ∈ [l0, l1, l2], l.length ≤ n
  gl : w.heap.size ≤ g
  sl : s < w.heap.size
variable {w wr : World} {s : Nat} {zs : List Int} {a d g n : Nat}
theorem LP.draw (h : LP w s zs a d g n v0 v1 v2 l0 l1 l2 m0 m1 m2 wr) {e : Nat} {w1 : World} (hd : Drawn wr s zs (a + d) e w1) : LP w s zs a (d + e) g n v0 v1 v2 l0 l1 l2 m0 m1 m2 w1 := by
  have h1 := h.sl; have h2 := h.gl
  exact ⟨hd.but.heap h.hg (by simp; omega), h.own.kept fun v n xs ho => hd.keeps4 ho (by omega), h.drawn.trans hd, h.mild, h.sz, h.gl, h.sl⟩
theorem LP.below (h : LP w s zs a d g n v0 v1 v2 l0 l1 l2 m0 m1 m2 wr) {w1 : World} (hb : Below wr.heap.size wr w1) : LP w s zs a d g n v0 v1 v2 l0 l1 l2 m0 m1 m2 w1 := by
  have keep : ∀ {b : Nat} {o : Obj}, wr.heap[b]? = some o → w1.heap[b]? = some o := fun hh => (hb.block _ (heap_lt hh)).trans hh
  refine ⟨keep h.hg, h.own.kept fun v n xs ho => ?_, h.drawn.below hb, h.mild, h.sz, h.gl, h.sl⟩
  refine ⟨ho.1, ?_⟩
  rcases ho.2 with h0 | ⟨g, cap, cur, h1, h2, h3, h4⟩
  · exact .inl h0
  · exact .inr ⟨g, cap, cur, h1, h2, keep h3, h4⟩
/-- The second mark is stored. -/
theorem LP.mark (h : LP w s zs a d g n v0 v1 v2 l0 l1 l2 m0 m1 m2 wr) (q : Int) : LP w s zs a d g n v0 v1 v2 l0 l1 l2 m0 q m2 (wr.setCell ⟨g, 3, none⟩ (.int .i64 q)) := by
  have h1 := h.sl; have h2 := h.gl
  have hb : But [g] wr (wr.setCell ⟨g, 3, none⟩ (.int .i64 q)) := (But.refl [g] wr).setCell (p := ⟨g, 3, none⟩) (by simp) _
  refine ⟨heap_set1 h.hg, h.own.kept fun v n xs ho => ?_, h.drawn.set ⟨by omega, h1⟩ _ _, h.mild, h.sz, h.gl, h.sl⟩
  refine ho.kept (row := some g) ⟨hb.os, hb.tape, hb.output, hb.size, fun x hx hne => hb.block x hx (by simp; intro e; exact hne (by rw [e]))⟩ ?_
  cases hv : v.ownBlock with
  | none => exact .inl rfl
  | some g' => exact .inr fun e => by have := own_base' ho hv; injection e with e; omega
/-- The third slice is stored. -/
theorem LP.put (h : LP w s zs a d g n v0 v1 v2 l0 l1 l2 m0 m1 m2 wr) {w2 : World} {v' : Value} {l' : List R} {n' d' : Nat} (hn : n ≤ n') (hg2 : w2.heap[g]? = some (.cells #[v0, .int .i64 m0, v1, .int .i64 m1, v2, .int .i64 m2] 100 (0, 0)))
    (own2 : OwnF w2 (g + 1) [v0, v1, v'] [l0, l1, l'] 40) (hd2 : Drawn w s zs a d' w2) (hm : ∀ r ∈ l', Mild r) (hl : l'.length ≤ n') :
    LP w s zs a d' g n' v0 v1 v' l0 l1 l' m0 m1 m2 (w2.setCell ⟨g, 4, none⟩ v') := by
  have h1 := h.sl; have h2 := h.gl
  have hb : But [g] w2 (w2.setCell ⟨g, 4, none⟩ v') := (But.refl [g] w2).setCell (p := ⟨g, 4, none⟩) (by simp) v'
  refine ⟨heap_set1 hg2, own2.kept fun v n xs ho => ?_, hd2.set ⟨by omega, h1⟩ _ _, fun l hl2 => ?_, fun l hl2 => ?_, h2, h1⟩
  · refine ho.kept (row := some g) ⟨hb.os, hb.tape, hb.output, hb.size, fun x hx hne => hb.block x hx (by simp; intro e; exact hne (by rw [e]))⟩ ?_
    cases hv : v.ownBlock with
    | none => exact .inl rfl
    | some g' => exact .inr fun e => by have := own_base' ho hv; injection e with e; omega
  · simp only [List.mem_cons, List.not_mem_nil, or_false] at hl2
    rcases hl2 with rfl | rfl | rfl
    · exact h.mild _ (by simp)
    · exact h.mild _ (by simp)
    · exact hm
  · simp only [List.mem_cons, List.not_mem_nil, or_false] at hl2
    rcases hl2 with rfl | rfl | rfl
    · exact Nat.le_trans (h.sz _ (by simp)) hn
    · exact Nat.le_trans (h.sz _ (by simp)) hn
    · exact hl
theorem LP.small (h : LP w s zs a d g n v0 v1 v2 l0 l1 l2 m0 m1 m2 wr) (hn : n ≤ 100) : l0.length ≤ 100 ∧ l1.length ≤ 100 ∧ l2.length ≤ 100 :=
  ⟨Nat.le_trans (h.sz _ (by simp)) hn, Nat.le_trans (h.sz _ (by simp)) hn, Nat.le_trans (h.sz _ (by simp)) hn⟩
theorem LP.fin (h : LP w s zs a d g n v0 v1 v2 l0 l1 l2 m0 m1 m2 wr) (hn : n ≤ 100) (h0 : -20000 ≤ m0 ∧ m0 ≤ 20000) (h1 : -20000 ≤ m1 ∧ m1 ≤ 20000) (h2 : -20000 ≤ m2 ∧ m2 ≤ 20000) (hd : d ≤ 60) :
    DPtPost w s zs a (.returned (.slice (some ⟨g, 0, none⟩) 3 3)) wr := by
  have hgl := h.gl
  obtain ⟨⟨fp, k1, k2, k3, k4⟩, _⟩ := own_pt3 h.hg h.own (Nat.lt_succ_self g)
  obtain ⟨s0, s1, s2⟩ := h.small hn
  refine ⟨[⟨l0, m0⟩, ⟨l1, m1⟩, ⟨l2, m2⟩], _, _, fp, d, rfl, k1, k2, k3.mono hgl, k4, fun p hp => ?_, ?_, hd, h.drawn⟩
  · simp only [List.mem_cons, List.not_mem_nil, or_false] at hp
    rcases hp with rfl | rfl | rfl
    · exact ⟨h0, h.mild _ (by simp)⟩
    · exact ⟨h1, h.mild _ (by simp)⟩
    · exact ⟨h2, h.mild _ (by simp)⟩
  · unfold psz; rw [three_tot]; simp only [List.length_cons, List.length_nil]; omega
theorem LP.fin1 (h : LP w s zs a d g n v0 v1 v2 l0 l1 l2 m0 m1 m2 wr) (hn : n ≤ 100) (h1 : -20000 ≤ m1 ∧ m1 ≤ 20000) (h2 : -20000 ≤ m2 ∧ m2 ≤ 20000) (hd : d ≤ 60) :
    DPtPost w s zs a (.returned (.slice (some ⟨g, 2, none⟩) 2 2)) wr := by
  have hgl := h.gl
  obtain ⟨_, ⟨fp, k1, k2, k3, k4⟩⟩ := own_pt3 h.hg h.own (Nat.lt_succ_self g)
  obtain ⟨s0, s1, s2⟩ := h.small hn
  refine ⟨[⟨l1, m1⟩, ⟨l2, m2⟩], _, _, fp, d, rfl, k1, k2, k3.mono hgl, k4, fun p hp => ?_, ?_, hd, h.drawn⟩
  · simp only [List.mem_cons, List.not_mem_nil, or_false] at hp
    rcases hp with rfl | rfl
    · exact ⟨h1, h.mild _ (by simp)⟩
    · exact ⟨h2, h.mild _ (by simp)⟩
  · have e : totP [⟨l1, m1⟩, ⟨l2, m2⟩] = l1.length + (l2.length + 0) := rfl
    unfold psz; rw [e]; simp only [List.length_cons, List.length_nil]; omega
end
end Go.Proofs.YtldimfmhbdhbnaaGreat

/-
  The model's draws of chapter 7, second part: parts that may be wrong; the draws of the laws. By a maker (gen7g.py).
-/
namespace Go.Proofs.YtldimfmhbdhbnaaGreat
open Go.RowKit

theorem OwnF.lower7 {w : World} {B B' : Nat} {vs : List Value} {ls : List (List R)} {T : TypeId} (h : OwnF w B vs ls T) (hb : B' ≤ B) : OwnF w B' vs ls T :=
  ⟨h.len, fun j hj => by obtain ⟨v, n, h1, h2⟩ := h.own j hj; exact ⟨v, n, h1, own_lower h2 hb⟩, h.apart⟩

set_option maxRecDepth 100000 in
set_option maxHeartbeats 8000000 in
theorem l7Bent_c (w : World) (s : Nat) (zs : List Int) (a : Nat) (h : Src w s zs a) (ha : a < 900000) :
    Calls Tryz.prog 28 #[.pointer (some ⟨s, 0, none⟩)] w (DPtPost w s zs a) := by
  have hls := h.lt
  have HD0 := Lib.hid (Drawn.start h)
  clear h
  go_enter Tryz.func28, Tryz.ntmps28
  go_wp2_with fail
  refine (l7Draw_c w s zs (a + 0) HD0.out.src (by omega)).mono ?_
  rintro e w1 ⟨rs, q, g, B, vs, d, rfl, hg, ho, hgl, hgB, hm, hl, hq, hd, hdr⟩
  have hmil : ∀ l ∈ laidP (solidL rs), ∀ r ∈ l, Mild r := fun l hl2 r hr => by
    obtain ⟨i, hi, rfl⟩ := List.mem_iff_getElem.1 hl2
    rw [laidP_get] at hr
    have := (List.mem_filter.1 hr).1
    unfold solidL at this
    exact (hm r (List.mem_filter.1 this).1).2
  have hsz : ∀ l ∈ laidP (solidL rs), l.length ≤ 7 := fun l hl2 => by
    obtain ⟨i, hi, rfl⟩ := List.mem_iff_getElem.1 hl2
    rw [laidP_get]
    unfold solidL
    exact Nat.le_trans (List.length_filter_le _ _) (Nat.le_trans (List.length_filter_le _ _) hl)
  have hl3 := laidP_len (solidL rs)
  generalize laidP (solidL rs) = ls at *
  obtain ⟨l0, l1, l2, rfl⟩ : ∃ a b c, ls = [a, b, c] := by
    match ls, hl3 with
    | [a, b, c], _ => exact ⟨a, b, c, rfl⟩
  obtain ⟨v0, v1, v2, rfl⟩ : ∃ a b c, vs = [a, b, c] := by
    have := ho.len
    match vs, this with
    | [a, b, c], _ => exact ⟨a, b, c, rfl⟩
  have HLB := Lib.hid (show LP w s zs a (0 + d) g 7 v0 v1 v2 l0 l1 l2 q q q w1 from ⟨hg, ho.lower7 (by omega), HD0.out.trans hdr, hmil, hsz, hgl, hls⟩)
  clear hg ho hm hdr hmil hsz HD0 hl hl3
  go_wp2_with fail
  refine (next_6 w1 s zs (a + (0 + d)) 12 HLB.out.drawn.src (by omega) (by omega) (by omega)).mono ?_
  rintro e w3 ⟨x, rfl, hx0, hx1, hd3⟩
  have HL3 := Lib.hid (HLB.out.draw hd3)
  clear hd3 HLB
  by_cases e0 : x = 0
  · subst e0
    go_wp2_with fail
    go_ret
    exact HL3.out.fin1 (by omega) (by omega) (by omega) (by omega)
  by_cases e1 : x = 1
  · subst e1
    go_wp2_with fail
    refine (pick_6 w3 s zs (a + (0 + d + 1)) w3.heap.size [-1, 1000, 3] HL3.out.drawn.src rfl (by omega) (by simp) (by simp)).mono ?_
    rintro e w4 ⟨q', rfl, hq', hd4⟩
    have hq'' : -1 ≤ q' ∧ q' ≤ 1000 := by simp at hq'; omega
    have HL4 := Lib.hid (HL3.out.draw hd4)
    clear hq' hd4 HL3
    have c3 : w4.cell? ⟨g, 3, none⟩ = some (.int .i64 q) := cell_of_heap HL4.out.hg
    have f3 : w4.frozen? ⟨g, 3, none⟩ = false := frozen_of_heap HL4.out.hg
    have hz := heap_lt HL4.out.hg
    have HL5 := Lib.hid (HL4.out.mark q')
    go_wp2_with fail
    go_ret
    exact HL5.out.fin (by omega) (by omega) (by omega) (by omega) (by omega)
  by_cases e2 : x = 2
  · subst e2
    obtain ⟨i0, hi, hz, hsz, hby⟩ := infoRow
    have h2 : 2 < [l0, l1, l2].length := by simp
    have HQ5 : Hid (∀ w' : World, w'.heap[g]? = some (.cells #[v0, .int .i64 q, v1, .int .i64 q, v2, .int .i64 q] 100 (0, 0)) → w'.cell? ⟨g, 4, none⟩ = some v2) := fun w' h => cell_of_heap h
    have HQ := HQ5
    go_wp2_with fail
    refine wp_region_sch (fun _ => True) (.run 0 (.run 1 (.run 2 (.run 3 (.run 5 (.fork 4 6 (.one 6 (.one 7 (.one 8 (.run 9 (.run 10 (.one 11 .done)))))) (.fork 4 7 (.one 7 (.one 8 (.run 9 (.run 10 (.one 11 .done))))) (.one 4 (.one 8 (.run 9 (.run 10 (.one 11 .done)))))))))))) (by kernel_rfl) (by kernel_rfl) (by kernel_rfl) (by kernel_rfl) (fun _ _ d _ _ h => by cases d <;> exact h) trivial ?_
    simp only [Sch.res, Option.map_some, Option.bind_some, List.getElem?_toArray, List.getElem?_cons_zero, List.getElem?_cons_succ, wpSchR_some]
    generalize hW0 : ({ heap := w3.heap, tape := w3.tape, drawn := w3.drawn + 1, os := w3.os, output := w3.output } : World) = x0
    have HW0 : Hid (LP w s zs a (0 + d + 1) g 7 v0 v1 v2 l0 l1 l2 q q q x0) := by rw [← hW0]; exact HL3.out.below (Below.refl _ _).drew
    clear hW0 HL3
    refine sch_run (v := ?_) (by rfl) ?_ ?_
    rotate_left
    · (intro w' hS'; go_simp; try with_reducible rfl)
    try simp only [Act.put, List.setIfInBounds_toArray, List.set_cons_zero, List.set_cons_succ]
    refine sch_run (v := ?_) (by rfl) ?_ ?_
    rotate_left
    · (intro w' hS'; go_simp; try with_reducible rfl)
    try simp only [Act.put, List.setIfInBounds_toArray, List.set_cons_zero, List.set_cons_succ]
    refine sch_run (v := ?_) (by rfl) ?_ ?_
    rotate_left
    · (intro w' hS'; go_simp; try with_reducible rfl)
    try simp only [Act.put, List.setIfInBounds_toArray, List.set_cons_zero, List.set_cons_succ]
    refine sch_run (v := ?_) (by rfl) ?_ ?_
    rotate_left
    · (intro w' hS'; go_simp; try with_reducible rfl)
    try simp only [Act.put, List.setIfInBounds_toArray, List.set_cons_zero, List.set_cons_succ]
    refine sch_run (v := ?_) (by rfl) ?_ ?_
    rotate_left
    · (intro w' hS'; go_simp; try with_reducible rfl)
    try simp only [Act.put, List.setIfInBounds_toArray, List.set_cons_zero, List.set_cons_succ]
    refine sch_fork (by rfl) (by rfl) (fun K hK => ?_) (fun K hK => ?_)
    · skip
      have q1 := HQ.out _ HW0.out.hg
      go_simp
      refine hK _ _ trivial ?_
      try simp only [Act.put, List.setIfInBounds_toArray, List.set_cons_zero, List.set_cons_succ]
      clear q1
      refine sch_one (by rfl) (fun K hK => ?_)
      go_simp
      refine (l2BentRow_c x0 s zs _ HW0.out.drawn.src (by omega)).mono ?_
      rintro e w4 ⟨r, d4, rfl, hmr, hd4, hdr4⟩
      have HA := Lib.hid (HW0.out.draw hdr4); have HMR := Lib.hid hmr
      clear hdr4 hmr
      refine hK _ _ trivial ?_
      try simp only [Act.put, List.setIfInBounds_toArray, List.set_cons_zero, List.set_cons_succ]
      refine sch_one (by rfl) (fun K hK => ?_)
      go_simp
      have HB := Lib.hid (HA.out.below (below_new (.cells #[.int .i64 r.1, .int .i64 r.2.1, .int .i64 r.2.2.1, .int .i64 r.2.2.2] 40)))
      refine hK _ _ trivial ?_
      try simp only [Act.put, List.setIfInBounds_toArray, List.set_cons_zero, List.set_cons_succ]
      refine sch_one (by rfl) (fun K hK => ?_)
      obtain ⟨vx, nx, hvx, hox⟩ := HB.out.own.own 2 h2
      have hvx' : some v2 = some vx := hvx
      injection hvx' with hvx'; subst hvx'
      replace hox : World.ownsRow _ (g + 1) 40 4 v2 nx (rcs l2) := hox
      have hn1 := HB.out.sz l2 (by simp)
      have hnx : nx ≤ 7 := by have := hox.1; rw [rcs_length] at this; omega
      have hm1 := HB.out.mild l2 (by simp)
      have hgz := heap_lt HB.out.hg
      refine wp_append_o (.tmp 26) (.tmp 29) 24 rfl (g + 1) 40 i0 (rv (0, 0, 0, 0)) 4 32 Tryz.underlying24 hi hz hsz hby rfl (by decide) v2 nx _ rfl hox ⟨w4.heap.size, 0, none⟩ 1 1 (rc r) rfl rfl (rc_new r) (rc_one r) (by unfold maxLen; omega) (by omega) hgz (by omega) ?_
      intro v3 w5 hown2 hgrow2 hwh
      have hg5 := (hgrow2.block _ (heap_lt HB.out.hg) (fun e => by have := own_base' hox e.symm; omega)).trans HB.out.hg
      have hl0 := HB.out.gl
      have hd5 := HB.out.drawn.grown hgrow2 (fun g' hg' => by have := own_base' hox hg'; omega) hls
      have own5 := HB.out.own.step h2 rfl (l' := l2 ++ [r]) (n := nx + 1) (by rw [rcs_append]; exact hown2) hgrow2 hwh
      obtain ⟨gv, cv, hv3⟩ : ∃ g cap, v3 = .slice (some ⟨g, 0, none⟩) (nx + 1) cap := by
        rcases hown2.2 with ⟨_, h⟩ | ⟨g, cap, cur, h, _⟩
        · omega
        · exact ⟨g, cap, h⟩
      subst hv3
      have hL := HB.out.put (n' := 8) (by omega) hg5 own5 hd5 (fun x hx => by
        rcases List.mem_append.1 hx with hx | hx
        · exact hm1 x hx
        · simp at hx; exact hx ▸ HMR.out) (by rw [List.length_append]; simp; omega)
      have HL := Lib.hid hL
      have q5 := HQ5.out _ hg5
      have qf5 : w5.frozen? ⟨g, 4, none⟩ = false := frozen_of_heap hg5
      have qz5 := heap_lt hg5
      clear hL own5 hd5 hg5 hown2 hgrow2 hwh hox hm1
      refine hK _ _ trivial ?_
      try simp only [Act.put, List.setIfInBounds_toArray, List.set_cons_zero, List.set_cons_succ]
      refine sch_run (v := ?_) (by rfl) ?_ ?_
      rotate_left
      · (intro w' hS'; go_simp; try with_reducible rfl)
      try simp only [Act.put, List.setIfInBounds_toArray, List.set_cons_zero, List.set_cons_succ]
      refine sch_run (v := ?_) (by rfl) ?_ ?_
      rotate_left
      · (intro w' hS'; go_simp; try with_reducible rfl)
      try simp only [Act.put, List.setIfInBounds_toArray, List.set_cons_zero, List.set_cons_succ]
      refine sch_one (by rfl) (fun K hK => ?_)
      go_simp
      refine hK _ _ trivial (sch_done ?_)
      clear q5 qf5 qz5
      go_wp2_with fail
      go_ret
      exact HL.out.fin (by omega) (by omega) (by omega) (by omega) (by omega)
    · skip
      go_simp
      refine (l2BentRow_c x0 s zs _ HW0.out.drawn.src (by omega)).mono ?_
      rintro e w4 ⟨r, d4, rfl, hmr, hd4, hdr4⟩
      have HA := Lib.hid (HW0.out.draw hdr4); have HMR := Lib.hid hmr
      clear hdr4 hmr
      refine hK _ _ trivial ?_
      try simp only [Act.put, List.setIfInBounds_toArray, List.set_cons_zero, List.set_cons_succ]
      refine sch_fork (by rfl) (by rfl) (fun K hK => ?_) (fun K hK => ?_)
      · skip
        have q1 := HQ.out _ HA.out.hg
        go_simp
        refine hK _ _ trivial ?_
        try simp only [Act.put, List.setIfInBounds_toArray, List.set_cons_zero, List.set_cons_succ]
        clear q1
        refine sch_one (by rfl) (fun K hK => ?_)
        go_simp
        have HB := Lib.hid (HA.out.below (below_new (.cells #[.int .i64 r.1, .int .i64 r.2.1, .int .i64 r.2.2.1, .int .i64 r.2.2.2] 40)))
        refine hK _ _ trivial ?_
        try simp only [Act.put, List.setIfInBounds_toArray, List.set_cons_zero, List.set_cons_succ]
        refine sch_one (by rfl) (fun K hK => ?_)
        obtain ⟨vx, nx, hvx, hox⟩ := HB.out.own.own 2 h2
        have hvx' : some v2 = some vx := hvx
        injection hvx' with hvx'; subst hvx'
        replace hox : World.ownsRow _ (g + 1) 40 4 v2 nx (rcs l2) := hox
        have hn1 := HB.out.sz l2 (by simp)
        have hnx : nx ≤ 7 := by have := hox.1; rw [rcs_length] at this; omega
        have hm1 := HB.out.mild l2 (by simp)
        have hgz := heap_lt HB.out.hg
        refine wp_append_o (.tmp 26) (.tmp 29) 24 rfl (g + 1) 40 i0 (rv (0, 0, 0, 0)) 4 32 Tryz.underlying24 hi hz hsz hby rfl (by decide) v2 nx _ rfl hox ⟨w4.heap.size, 0, none⟩ 1 1 (rc r) rfl rfl (rc_new r) (rc_one r) (by unfold maxLen; omega) (by omega) hgz (by omega) ?_
        intro v3 w5 hown2 hgrow2 hwh
        have hg5 := (hgrow2.block _ (heap_lt HB.out.hg) (fun e => by have := own_base' hox e.symm; omega)).trans HB.out.hg
        have hl0 := HB.out.gl
        have hd5 := HB.out.drawn.grown hgrow2 (fun g' hg' => by have := own_base' hox hg'; omega) hls
        have own5 := HB.out.own.step h2 rfl (l' := l2 ++ [r]) (n := nx + 1) (by rw [rcs_append]; exact hown2) hgrow2 hwh
        obtain ⟨gv, cv, hv3⟩ : ∃ g cap, v3 = .slice (some ⟨g, 0, none⟩) (nx + 1) cap := by
          rcases hown2.2 with ⟨_, h⟩ | ⟨g, cap, cur, h, _⟩
          · omega
          · exact ⟨g, cap, h⟩
        subst hv3
        have hL := HB.out.put (n' := 8) (by omega) hg5 own5 hd5 (fun x hx => by
          rcases List.mem_append.1 hx with hx | hx
          · exact hm1 x hx
          · simp at hx; exact hx ▸ HMR.out) (by rw [List.length_append]; simp; omega)
        have HL := Lib.hid hL
        have q5 := HQ5.out _ hg5
        have qf5 : w5.frozen? ⟨g, 4, none⟩ = false := frozen_of_heap hg5
        have qz5 := heap_lt hg5
        clear hL own5 hd5 hg5 hown2 hgrow2 hwh hox hm1
        refine hK _ _ trivial ?_
        try simp only [Act.put, List.setIfInBounds_toArray, List.set_cons_zero, List.set_cons_succ]
        refine sch_run (v := ?_) (by rfl) ?_ ?_
        rotate_left
        · (intro w' hS'; go_simp; try with_reducible rfl)
        try simp only [Act.put, List.setIfInBounds_toArray, List.set_cons_zero, List.set_cons_succ]
        refine sch_run (v := ?_) (by rfl) ?_ ?_
        rotate_left
        · (intro w' hS'; go_simp; try with_reducible rfl)
        try simp only [Act.put, List.setIfInBounds_toArray, List.set_cons_zero, List.set_cons_succ]
        refine sch_one (by rfl) (fun K hK => ?_)
        go_simp
        refine hK _ _ trivial (sch_done ?_)
        clear q5 qf5 qz5
        go_wp2_with fail
        go_ret
        exact HL.out.fin (by omega) (by omega) (by omega) (by omega) (by omega)
      · skip
        go_simp
        have HB := Lib.hid (HA.out.below (below_new (.cells #[.int .i64 r.1, .int .i64 r.2.1, .int .i64 r.2.2.1, .int .i64 r.2.2.2] 40)))
        refine hK _ _ trivial ?_
        try simp only [Act.put, List.setIfInBounds_toArray, List.set_cons_zero, List.set_cons_succ]
        refine sch_one (by rfl) (fun K hK => ?_)
        have q1 := HQ.out _ HB.out.hg
        go_simp
        refine hK _ _ trivial ?_
        try simp only [Act.put, List.setIfInBounds_toArray, List.set_cons_zero, List.set_cons_succ]
        clear q1
        refine sch_one (by rfl) (fun K hK => ?_)
        obtain ⟨vx, nx, hvx, hox⟩ := HB.out.own.own 2 h2
        have hvx' : some v2 = some vx := hvx
        injection hvx' with hvx'; subst hvx'
        replace hox : World.ownsRow _ (g + 1) 40 4 v2 nx (rcs l2) := hox
        have hn1 := HB.out.sz l2 (by simp)
        have hnx : nx ≤ 7 := by have := hox.1; rw [rcs_length] at this; omega
        have hm1 := HB.out.mild l2 (by simp)
        have hgz := heap_lt HB.out.hg
        refine wp_append_o (.tmp 26) (.tmp 29) 24 rfl (g + 1) 40 i0 (rv (0, 0, 0, 0)) 4 32 Tryz.underlying24 hi hz hsz hby rfl (by decide) v2 nx _ rfl hox ⟨w4.heap.size, 0, none⟩ 1 1 (rc r) rfl rfl (rc_new r) (rc_one r) (by unfold maxLen; omega) (by omega) hgz (by omega) ?_
        intro v3 w5 hown2 hgrow2 hwh
        have hg5 := (hgrow2.block _ (heap_lt HB.out.hg) (fun e => by have := own_base' hox e.symm; omega)).trans HB.out.hg
        have hl0 := HB.out.gl
        have hd5 := HB.out.drawn.grown hgrow2 (fun g' hg' => by have := own_base' hox hg'; omega) hls
        have own5 := HB.out.own.step h2 rfl (l' := l2 ++ [r]) (n := nx + 1) (by rw [rcs_append]; exact hown2) hgrow2 hwh
        obtain ⟨gv, cv, hv3⟩ : ∃ g cap, v3 = .slice (some ⟨g, 0, none⟩) (nx + 1) cap := by
          rcases hown2.2 with ⟨_, h⟩ | ⟨g, cap, cur, h, _⟩
          · omega
          · exact ⟨g, cap, h⟩
        subst hv3
        have hL := HB.out.put (n' := 8) (by omega) hg5 own5 hd5 (fun x hx => by
          rcases List.mem_append.1 hx with hx | hx
          · exact hm1 x hx
          · simp at hx; exact hx ▸ HMR.out) (by rw [List.length_append]; simp; omega)
        have HL := Lib.hid hL
        have q5 := HQ5.out _ hg5
        have qf5 : w5.frozen? ⟨g, 4, none⟩ = false := frozen_of_heap hg5
        have qz5 := heap_lt hg5
        clear hL own5 hd5 hg5 hown2 hgrow2 hwh hox hm1
        refine hK _ _ trivial ?_
        try simp only [Act.put, List.setIfInBounds_toArray, List.set_cons_zero, List.set_cons_succ]
        refine sch_run (v := ?_) (by rfl) ?_ ?_
        rotate_left
        · (intro w' hS'; go_simp; try with_reducible rfl)
        try simp only [Act.put, List.setIfInBounds_toArray, List.set_cons_zero, List.set_cons_succ]
        refine sch_run (v := ?_) (by rfl) ?_ ?_
        rotate_left
        · (intro w' hS'; go_simp; try with_reducible rfl)
        try simp only [Act.put, List.setIfInBounds_toArray, List.set_cons_zero, List.set_cons_succ]
        refine sch_one (by rfl) (fun K hK => ?_)
        go_simp
        refine hK _ _ trivial (sch_done ?_)
        clear q5 qf5 qz5
        go_wp2_with fail
        go_ret
        exact HL.out.fin (by omega) (by omega) (by omega) (by omega) (by omega)
  have b0 : (x == 0) = false := by simp [e0]
  have b1 : (x == 1) = false := by simp [e1]
  have b2 : (x == 2) = false := by simp [e2]
  clear e0 e1 e2
  go_wp2_with fail
  go_ret
  exact HL3.out.fin (by omega) (by omega) (by omega) (by omega) (by omega)

/-- Parts were drawn. -/
def PtsPost (w : World) (e : Ending) (w' : World) : Prop :=
  ∃ (l : List Pt) (A : Option Addr) (c : Nat) (fp : List Nat), e = .returned (.slice A l.length c) ∧ RdP w' (.slice A l.length c) l fp ∧ NF w' fp ∧ From w.heap.size fp ∧ fp.Nodup ∧ MildT l ∧ psz l ≤ 1000 ∧ Below w.heap.size w w'

/-- Parts, a row and a number were drawn. -/
def PtRowPost (w : World) (e : Ending) (w' : World) : Prop :=
  ∃ (l : List Pt) (A : Option Addr) (c : Nat) (fp : List Nat) (r : R) (m : Int), e = .returned (.tuple #[.slice A l.length c, rv r, .int .i64 m]) ∧ RdP w' (.slice A l.length c) l fp ∧ NF w' fp ∧ From w.heap.size fp ∧ fp.Nodup ∧ MildT l ∧ psz l ≤ 1000 ∧ Mild r ∧ (-20000 ≤ m ∧ m ≤ 20000) ∧ Below w.heap.size w w'

/-- Rows and a number were drawn. -/
def RowsIntPost (w : World) (e : Ending) (w' : World) : Prop :=
  ∃ (rs : List R) (A : Option Addr) (c : Nat) (fp : List Nat) (m : Int), e = .returned (.tuple #[.slice A rs.length c, .int .i64 m]) ∧ Rd w' 4 (.slice A rs.length c) (rcs rs) fp ∧ (∀ r ∈ rs, Mild r) ∧ rs.length ≤ 13 ∧ (-20000 ≤ m ∧ m ≤ 20000) ∧ Below w.heap.size w w'

end Go.Proofs.YtldimfmhbdhbnaaGreat
