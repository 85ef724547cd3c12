/-
  The model's draws of chapter 7, first part: parts; what stands while parts are drawn.
-/
import Derived.Test.YtldimfmhbdhbnaaG32
import Derived.Test.YtldimfmhbdhbnaaSpec7c
import Derived.Test.YtldimfmhbdhbnaaPlain7
import Derived.Test.YtldimfmhbdhbnaaG23
import Derived.Test.YtldimfmhbdhbnaaG25
namespace Go.Proofs.Ytldimfmhbdhbnaa
open Go.RowKit

/-- Drawn parts: three of the call's own. -/
def DPOfPost (w : World) (s : Nat) (zs : List Int) (a : Nat) (e : Ending) (w' : World) : Prop :=
  ∃ (rs : List R) (q : Int) (g B : Nat) (vs : List Value) (d : Nat), e = .returned (.slice (some ⟨g, 0, none⟩) 3 3) ∧ w'.heap[g]? = some (.cells (ilv vs q).toArray 116 (0, 0)) ∧ OwnF w' B vs (laidP (solidL rs)) 34 ∧ w.heap.size ≤ g ∧ g < B ∧
    (∀ r ∈ rs, Fit r ∧ Mild r) ∧ rs.length ≤ 7 ∧ (0 ≤ q ∧ q ≤ 999) ∧ d ≤ 30 ∧ Drawn w s zs a d w'

/-- Parts of short numbers. -/
def MildT (l : List Pt) : Prop := ∀ p ∈ l, (-20000 ≤ p.mark ∧ p.mark ≤ 20000) ∧ ∀ r ∈ p.rows, Mild r
/-- Drawn parts that may be wrong. -/
def DPtPost (w : World) (s : Nat) (zs : List Int) (a : Nat) (e : Ending) (w' : World) : Prop :=
  ∃ (l : List Pt) (A : Option Addr) (c : Nat) (fp : List Nat) (d : Nat), e = .returned (.slice A l.length c) ∧ RdP w' (.slice A l.length c) l fp ∧ NF w' fp ∧ From w.heap.size fp ∧ fp.Nodup ∧ MildT l ∧ psz l ≤ 1000 ∧ d ≤ 60 ∧ Drawn w s zs a d w'

section
variable {v0 v1 v2 : Value} {l0 l1 l2 : List R} {m0 m1 m2 : Int}
/-- Six cells of block g are three parts. -/
theorem own_pt3 {w' : World} {g B : Nat} (HG : w'.heap[g]? = some (.cells #[v0, .int .i64 m0, v1, .int .i64 m1, v2, .int .i64 m2] 116 (0, 0))) (ho : OwnF w' B [v0, v1, v2] [l0, l1, l2] 34) (hgB : g < B) :
    (∃ fp, RdP w' (.slice (some ⟨g, 0, none⟩) 3 3) [⟨l0, m0⟩, ⟨l1, m1⟩, ⟨l2, m2⟩] fp ∧ NF w' fp ∧ From g fp ∧ fp.Nodup) ∧ ∃ fp, RdP w' (.slice (some ⟨g, 2, none⟩) 2 2) [⟨l1, m1⟩, ⟨l2, m2⟩] fp ∧ NF w' fp ∧ From g fp ∧ fp.Nodup := by
  obtain ⟨fs, ha, hn, hf, hd⟩ := ho.reads
  match fs, ha with
  | [f0, f1, f2], ⟨⟨u0, e0, r0⟩, ⟨u1, e1, r1⟩, ⟨u2, e2, r2⟩, _⟩ =>
    injection e0 with e0 _; injection e1 with e1 _; injection e2 with e2 _
    subst e0 e1 e2
    simp only [List.flatten_cons, List.flatten_nil, List.append_nil] at hn hf hd
    have n1 := List.nodup_append.1 hd
    have hlt := heap_lt HG
    have hfz := fun i => frozen_of_heap (i := i) HG
    have fin : ∀ (f : List Nat), (∀ x ∈ f, x ∈ f0 ++ (f1 ++ f2)) → f.Nodup → NF w' ([g] ++ f) ∧ From g ([g] ++ f) ∧ ([g] ++ f).Nodup := fun f hs hnd => by
      refine ⟨fun x hx i => ?_, fun x hx => ?_, List.nodup_append.2 ⟨by simp, hnd, fun a ha b hb => ?_⟩⟩
      · rcases List.mem_append.1 hx with hx | hx
        · simp at hx; subst hx; exact hfz i
        · exact hn x (hs x hx) i
      · rcases List.mem_append.1 hx with hx | hx
        · simp at hx; omega
        · have := hf x (hs x hx); omega
      · have := hf b (hs b hb); simp at ha; omega
    refine ⟨⟨[g] ++ (f0 ++ (f1 ++ f2)), ⟨[[v0, .int .i64 m0], [v1, .int .i64 m1], [v2, .int .i64 m2]], [g], [f0, f1, f2], ⟨_, 3, 3, rfl, rfl, by unfold maxLen; omega, by omega, .inr ⟨g, 0, rfl, rfl, hlt, fun i u hu => ?_⟩⟩, ⟨⟨_, rfl, r0⟩, ⟨_, rfl, r1⟩, ⟨_, rfl, r2⟩, trivial⟩, by simp⟩, fin _ (fun x hx => hx) hd⟩,
      ⟨[g] ++ (f1 ++ f2), ⟨[[v1, .int .i64 m1], [v2, .int .i64 m2]], [g], [f1, f2], ⟨_, 2, 2, rfl, rfl, by unfold maxLen; omega, by omega, .inr ⟨g, 2, rfl, rfl, hlt, fun i u hu => ?_⟩⟩, ⟨⟨_, rfl, r1⟩, ⟨_, rfl, r2⟩, trivial⟩, by simp⟩, fin _ (fun x hx => by simp at hx ⊢; exact .inr hx) n1.2.1⟩⟩
    · rw [Nat.zero_add, cell_of_heap HG, List.getElem?_toArray]
      exact hu
    · rw [Nat.add_comm, cell_of_heap HG, List.getElem?_toArray]
      exact hu

/-- What stands: three parts in block g. -/
structure LP (w : World) (s : Nat) (zs : List Int) (a d g n : Nat) (v0 v1 v2 : Value) (l0 l1 l2 : List R) (m0 m1 m2 : Int) (wr : World) : Prop where
  hg : wr.heap[g]? = some (.cells #[v0, .int .i64 m0, v1, .int .i64 m1, v2, .int .i64 m2] 116 (0, 0))
  own : OwnF wr (g + 1) [v0, v1, v2] [l0, l1, l2] 34
  drawn : Drawn w s zs a d wr
  mild : ∀ l ∈ [l0, l1, l2], ∀ r ∈ l, Mild r
  sz : ∀ l ∈ [l0, l1, l2], l.length ≤ n
  gl : w.heap.size ≤ g
  sl : s < w.heap.size
variable {w wr : World} {s : Nat} {zs : List Int} {a d g n : Nat}
theorem LP.draw (h : LP w s zs a d g n v0 v1 v2 l0 l1 l2 m0 m1 m2 wr) {e : Nat} {w1 : World} (hd : Drawn wr s zs (a + d) e w1) : LP w s zs a (d + e) g n v0 v1 v2 l0 l1 l2 m0 m1 m2 w1 := by
  have h1 := h.sl; have h2 := h.gl
  exact ⟨hd.but.heap h.hg (by simp; omega), h.own.kept fun v n xs ho => hd.keeps4 ho (by omega), h.drawn.trans hd, h.mild, h.sz, h.gl, h.sl⟩
theorem LP.below (h : LP w s zs a d g n v0 v1 v2 l0 l1 l2 m0 m1 m2 wr) {w1 : World} (hb : Below wr.heap.size wr w1) : LP w s zs a d g n v0 v1 v2 l0 l1 l2 m0 m1 m2 w1 := by
  have keep : ∀ {b : Nat} {o : Obj}, wr.heap[b]? = some o → w1.heap[b]? = some o := fun hh => (hb.block _ (heap_lt hh)).trans hh
  refine ⟨keep h.hg, h.own.kept fun v n xs ho => ?_, h.drawn.below hb, h.mild, h.sz, h.gl, h.sl⟩
  refine ⟨ho.1, ?_⟩
  rcases ho.2 with h0 | ⟨g, cap, cur, h1, h2, h3, h4⟩
  · exact .inl h0
  · exact .inr ⟨g, cap, cur, h1, h2, keep h3, h4⟩
/-- The second mark is stored. -/
theorem LP.mark (h : LP w s zs a d g n v0 v1 v2 l0 l1 l2 m0 m1 m2 wr) (q : Int) : LP w s zs a d g n v0 v1 v2 l0 l1 l2 m0 q m2 (wr.setCell ⟨g, 3, none⟩ (.int .i64 q)) := by
  have h1 := h.sl; have h2 := h.gl
  have hb : But [g] wr (wr.setCell ⟨g, 3, none⟩ (.int .i64 q)) := (But.refl [g] wr).setCell (p := ⟨g, 3, none⟩) (by simp) _
  refine ⟨heap_set1 h.hg, h.own.kept fun v n xs ho => ?_, h.drawn.set ⟨by omega, h1⟩ _ _, h.mild, h.sz, h.gl, h.sl⟩
  refine ho.kept (row := some g) ⟨hb.os, hb.tape, hb.output, hb.size, fun x hx hne => hb.block x hx (by simp; intro e; exact hne (by rw [e]))⟩ ?_
  cases hv : v.ownBlock with
  | none => exact .inl rfl
  | some g' => exact .inr fun e => by have := own_base' ho hv; injection e with e; omega
/-- The third slice is stored. -/
theorem LP.put (h : LP w s zs a d g n v0 v1 v2 l0 l1 l2 m0 m1 m2 wr) {w2 : World} {v' : Value} {l' : List R} {n' d' : Nat} (hn : n ≤ n') (hg2 : w2.heap[g]? = some (.cells #[v0, .int .i64 m0, v1, .int .i64 m1, v2, .int .i64 m2] 116 (0, 0)))
    (own2 : OwnF w2 (g + 1) [v0, v1, v'] [l0, l1, l'] 34) (hd2 : Drawn w s zs a d' w2) (hm : ∀ r ∈ l', Mild r) (hl : l'.length ≤ n') :
    LP w s zs a d' g n' v0 v1 v' l0 l1 l' m0 m1 m2 (w2.setCell ⟨g, 4, none⟩ v') := by
  have h1 := h.sl; have h2 := h.gl
  have hb : But [g] w2 (w2.setCell ⟨g, 4, none⟩ v') := (But.refl [g] w2).setCell (p := ⟨g, 4, none⟩) (by simp) v'
  refine ⟨heap_set1 hg2, own2.kept fun v n xs ho => ?_, hd2.set ⟨by omega, h1⟩ _ _, fun l hl2 => ?_, fun l hl2 => ?_, h2, h1⟩
  · refine ho.kept (row := some g) ⟨hb.os, hb.tape, hb.output, hb.size, fun x hx hne => hb.block x hx (by simp; intro e; exact hne (by rw [e]))⟩ ?_
    cases hv : v.ownBlock with
    | none => exact .inl rfl
    | some g' => exact .inr fun e => by have := own_base' ho hv; injection e with e; omega
  · simp only [List.mem_cons, List.not_mem_nil, or_false] at hl2
    rcases hl2 with rfl | rfl | rfl
    · exact h.mild _ (by simp)
    · exact h.mild _ (by simp)
    · exact hm
  · simp only [List.mem_cons, List.not_mem_nil, or_false] at hl2
    rcases hl2 with rfl | rfl | rfl
    · exact Nat.le_trans (h.sz _ (by simp)) hn
    · exact Nat.le_trans (h.sz _ (by simp)) hn
    · exact hl
theorem LP.small (h : LP w s zs a d g n v0 v1 v2 l0 l1 l2 m0 m1 m2 wr) (hn : n ≤ 100) : l0.length ≤ 100 ∧ l1.length ≤ 100 ∧ l2.length ≤ 100 :=
  ⟨Nat.le_trans (h.sz _ (by simp)) hn, Nat.le_trans (h.sz _ (by simp)) hn, Nat.le_trans (h.sz _ (by simp)) hn⟩
theorem LP.fin (h : LP w s zs a d g n v0 v1 v2 l0 l1 l2 m0 m1 m2 wr) (hn : n ≤ 100) (h0 : -20000 ≤ m0 ∧ m0 ≤ 20000) (h1 : -20000 ≤ m1 ∧ m1 ≤ 20000) (h2 : -20000 ≤ m2 ∧ m2 ≤ 20000) (hd : d ≤ 60) :
    DPtPost w s zs a (.returned (.slice (some ⟨g, 0, none⟩) 3 3)) wr := by
  have hgl := h.gl
  obtain ⟨⟨fp, k1, k2, k3, k4⟩, _⟩ := own_pt3 h.hg h.own (Nat.lt_succ_self g)
  obtain ⟨s0, s1, s2⟩ := h.small hn
  refine ⟨[⟨l0, m0⟩, ⟨l1, m1⟩, ⟨l2, m2⟩], _, _, fp, d, rfl, k1, k2, k3.mono hgl, k4, fun p hp => ?_, ?_, hd, h.drawn⟩
  · simp only [List.mem_cons, List.not_mem_nil, or_false] at hp
    rcases hp with rfl | rfl | rfl
    · exact ⟨h0, h.mild _ (by simp)⟩
    · exact ⟨h1, h.mild _ (by simp)⟩
    · exact ⟨h2, h.mild _ (by simp)⟩
  · unfold psz; rw [three_tot]; simp only [List.length_cons, List.length_nil]; omega
theorem LP.fin1 (h : LP w s zs a d g n v0 v1 v2 l0 l1 l2 m0 m1 m2 wr) (hn : n ≤ 100) (h1 : -20000 ≤ m1 ∧ m1 ≤ 20000) (h2 : -20000 ≤ m2 ∧ m2 ≤ 20000) (hd : d ≤ 60) :
    DPtPost w s zs a (.returned (.slice (some ⟨g, 2, none⟩) 2 2)) wr := by
  have hgl := h.gl
  obtain ⟨_, ⟨fp, k1, k2, k3, k4⟩⟩ := own_pt3 h.hg h.own (Nat.lt_succ_self g)
  obtain ⟨s0, s1, s2⟩ := h.small hn
  refine ⟨[⟨l1, m1⟩, ⟨l2, m2⟩], _, _, fp, d, rfl, k1, k2, k3.mono hgl, k4, fun p hp => ?_, ?_, hd, h.drawn⟩
  · simp only [List.mem_cons, List.not_mem_nil, or_false] at hp
    rcases hp with rfl | rfl
    · exact ⟨h1, h.mild _ (by simp)⟩
    · exact ⟨h2, h.mild _ (by simp)⟩
  · have e : totP [⟨l1, m1⟩, ⟨l2, m2⟩] = l1.length + (l2.length + 0) := rfl
    unfold psz; rw [e]; simp only [List.length_cons, List.length_nil]; omega
end
end Go.Proofs.Ytldimfmhbdhbnaa

/-
  The model's draws of chapter 7, second part: parts that may be wrong; the draws of the laws. By a maker (gen7g.py).
-/
namespace Go.Proofs.Ytldimfmhbdhbnaa
open Go.RowKit

theorem OwnF.lower7 {w : World} {B B' : Nat} {vs : List Value} {ls : List (List R)} {T : TypeId} (h : OwnF w B vs ls T) (hb : B' ≤ B) : OwnF w B' vs ls T :=
  ⟨h.len, fun j hj => by obtain ⟨v, n, h1, h2⟩ := h.own j hj; exact ⟨v, n, h1, own_lower h2 hb⟩, h.apart⟩

/-- Parts were drawn. -/
def PtsPost (w : World) (e : Ending) (w' : World) : Prop :=
  ∃ (l : List Pt) (A : Option Addr) (c : Nat) (fp : List Nat), e = .returned (.slice A l.length c) ∧ RdP w' (.slice A l.length c) l fp ∧ NF w' fp ∧ From w.heap.size fp ∧ fp.Nodup ∧ MildT l ∧ psz l ≤ 1000 ∧ Below w.heap.size w w'

/-- Parts, a row and a number were drawn. -/
def PtRowPost (w : World) (e : Ending) (w' : World) : Prop :=
  ∃ (l : List Pt) (A : Option Addr) (c : Nat) (fp : List Nat) (r : R) (m : Int), e = .returned (.tuple #[.slice A l.length c, rv r, .int .i64 m]) ∧ RdP w' (.slice A l.length c) l fp ∧ NF w' fp ∧ From w.heap.size fp ∧ fp.Nodup ∧ MildT l ∧ psz l ≤ 1000 ∧ Mild r ∧ (-20000 ≤ m ∧ m ≤ 20000) ∧ Below w.heap.size w w'

/-- Rows and a number were drawn. -/
def RowsIntPost (w : World) (e : Ending) (w' : World) : Prop :=
  ∃ (rs : List R) (A : Option Addr) (c : Nat) (fp : List Nat) (m : Int), e = .returned (.tuple #[.slice A rs.length c, .int .i64 m]) ∧ Rd w' 4 (.slice A rs.length c) (rcs rs) fp ∧ (∀ r ∈ rs, Mild r) ∧ rs.length ≤ 13 ∧ (-20000 ≤ m ∧ m ≤ 20000) ∧ Below w.heap.size w w'

set_option maxRecDepth 100000 in
set_option maxHeartbeats 4000000 in
theorem drawPlacesOf_c (A : Option Addr) (c : Nat) (zs : List Int) (w : World) (fp : List Nat) (ha : Rd w 1 (.slice A zs.length c) (cellsOf .u8 zs) fp) (hby : Byt zs) (hb : zs.length ≤ 1048576) :
    Calls Try.prog 11 #[.slice A zs.length c] w (RowsIntPost w) := by
  go_enter Try.func11, Try.ntmps11
  go_wp2_with fail
  refine (l1Source_c A c zs w fp ha hby hb).mono ?_
  rintro e w1 ⟨rfl, hs1, hb1, hz1⟩
  have hl1 : w.heap.size < w1.heap.size := by omega
  have HB1 := Lib.hid hb1
  clear ha hb1
  go_wp2_with fail
  refine (l2Bent_c _ w.heap.size zs 0 hs1 (by omega)).mono ?_
  rintro e w2 ⟨v, fv, rs, d, n, B, rfl, hr, hn, hf, hB, ho, hm, hl, hd, hdr⟩
  obtain ⟨Ar, cr, rfl⟩ := hr.rows_form
  have hap : ∀ b ∈ fv, b ∉ [w.heap.size] := fun b hb hm => by have := hf b hb; simp at hm; omega
  have HP := Lib.hid hr; have HM := Lib.hid hm; have HD := Lib.hid hdr; have HAP := Lib.hid hap
  clear hr hn hf ho hm hdr hap hs1
  go_wp2_with fail
  refine (pick_6 w2 w.heap.size zs (0 + d) w2.heap.size [0, 999, 1000, -1] HD.out.src rfl (by omega) (by simp) (by simp)).mono ?_
  rintro e w3 ⟨m, rfl, hq, hd3⟩
  have hq1 : -20000 ≤ m ∧ m ≤ 20000 := by simp at hq; omega
  have HX := Lib.hid (And.intro (HP.out.but hd3.but HAP.out) (Drawn.fresh2 HB1.out (HD.out.trans hd3) (by omega)))
  clear hq hd3 HP HD
  go_wp2_with fail
  refine bodyPost_ret (v := .tuple #[.slice Ar rs.length cr, .int .i64 m]) (by simp [results, Try.results11, go_sem]) rfl ?_
  exact ⟨rs, _, _, fv, m, rfl, HX.out.1, HM.out, hl, hq1, HX.out.2⟩

end Go.Proofs.Ytldimfmhbdhbnaa
