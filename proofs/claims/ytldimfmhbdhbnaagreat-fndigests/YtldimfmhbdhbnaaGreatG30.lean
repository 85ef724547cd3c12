/-
  The program's functions of chapter 7, fourth part: parts made anew; rows laid into parts. By a maker (gen7d.py).
-/
import Derived.Test.YtldimfmhbdhbnaaGreatG13
import Derived.Test.YtldimfmhbdhbnaaGreatG44
namespace Go.Proofs.YtldimfmhbdhbnaaGreat
open Go.RowKit

theorem one_at7 {w : World} {g : Nat} {u : Value} {t : TypeId} (h : w.heap[g]? = some (.cells #[u] t (0, 0))) : w.cell? ⟨g, 0, none⟩ = some u ∧ w.frozen? ⟨g, 0, none⟩ = false ∧ g < w.heap.size := ⟨cell_of_heap h, frozen_of_heap h, heap_lt h⟩
/-- Rows laid into parts with marks of their own. -/
def npL (rs : List R) (m0 m1 m2 : Int) : List Pt := [⟨rs.filter fun r => decide (rpart r = ((0 : Nat) : Int)), m0⟩, ⟨rs.filter fun r => decide (rpart r = ((1 : Nat) : Int)), m1⟩, ⟨rs.filter fun r => decide (rpart r = ((2 : Nat) : Int)), m2⟩]
theorem npL_len (rs : List R) (m0 m1 m2 : Int) : (npL rs m0 m1 m2).length = 3 := rfl
theorem npL_solid (rs : List R) (m : Int) : npL (solidL rs) m m m = partsOf rs m := by rw [← laidP_parts]; rfl

set_option maxRecDepth 100000 in
set_option maxHeartbeats 2000000 in
theorem newPartsFn (A : Option Addr) (c : Nat) (rs : List R) (fp : List Nat) (B1 B2 : Nat) (mf : Nat → Int) (w : World) (hs : rs.length ≤ 12) (hfit : Fits rs) (ha : Rd w 4 (.slice A rs.length c) (rcs rs) fp)
    (h1 : w.cell? ⟨B1, 0, none⟩ = some (.slice A rs.length c)) (l1 : B1 < w.heap.size) (h2 : ∀ k, k < 3 → w.cell? ⟨B2, k, none⟩ = some (.int .i64 (mf k))) (l2 : B2 < w.heap.size)
    (W : World) (k : Nat) (hk : k < 3) (hb : Below w.heap.size w W) :
    Calls Tryz.prog 97 (#[.int .i64 (k : Int)] ++ #[.pointer (some ⟨B1, 0, none⟩), .pointer (some ⟨B2, 0, none⟩)]) W fun e w' =>
      ∃ A' c' f, e = .returned (ptv (.slice A' (rs.filter fun r => decide (rpart r = (k : Int))).length c') (mf k)) ∧ Rd w' 4 (.slice A' (rs.filter fun r => decide (rpart r = (k : Int))).length c') (rcs (rs.filter fun r => decide (rpart r = (k : Int)))) f ∧ NF w' f ∧ From W.heap.size f ∧ Below W.heap.size W w' := by
  have eg : ∀ args w, (callFunc 98 args).run Tryz.prog w = .ok (.enter 98 args) w := enters_of Tryz.func98 (by kernel_rfl) rfl
  have hn1 : Below W.heap.size W ((W.alloc (.cells #[.int .i64 (k : Int)] 2)).alloc (.cells #[.slice none 0 0, .int .i64 0] 100)) := below_more (below_new _) _
  have g1 := (hn1.cell (p := ⟨B1, 0, none⟩) (Nat.lt_of_lt_of_le l1 hb.size)).trans ((hb.cell (p := ⟨B1, 0, none⟩) l1).trans h1)
  have g2 := (hn1.cell (p := ⟨B2, k, none⟩) (Nat.lt_of_lt_of_le l2 hb.size)).trans ((hb.cell (p := ⟨B2, k, none⟩) l2).trans (h2 k hk))
  have m1 : B1 < ((W.alloc (.cells #[.int .i64 (k : Int)] 2)).alloc (.cells #[.slice none 0 0, .int .i64 0] 100)).heap.size := by have := hb.size; simp; omega
  have m2 : B2 < ((W.alloc (.cells #[.int .i64 (k : Int)] 2)).alloc (.cells #[.slice none 0 0, .int .i64 0] 100)).heap.size := by have := hb.size; simp; omega
  have HG1 := Lib.hid (heap_old (o' := .cells #[.slice none 0 0, .int .i64 0] 100) (heap_new W (.cells #[.int .i64 (k : Int)] 2) rfl))
  have HG2 := Lib.hid (heap_new (W.alloc (.cells #[.int .i64 (k : Int)] 2)) (.cells #[.slice none 0 0, .int .i64 0] 100) (g := W.heap.size + 1) (by simp))
  have hcall := keep_c 98 #[.pointer (some ⟨W.heap.size, 0, none⟩)] (fun r => decide (rpart r = (k : Int))) eg A c rs ((W.alloc (.cells #[.int .i64 (k : Int)] 2)).alloc (.cells #[.slice none 0 0, .int .i64 0] 100)) fp (by omega) hfit
    (ownPred (k : Int) W.heap.size _ (cell_of_heap HG1.out) (heap_lt HG1.out)) ((ha.below' hb).below' hn1)
  have HC := Lib.hid hcall; have HN1 := Lib.hid hn1
  have hk0 : (0 : Int) ≤ (k : Int) := by omega
  have hk3 : (k : Int) < 3 := by omega
  generalize (rs.filter fun r => decide (rpart r = (k : Int))) = S at *
  generalize mf k = mk at *
  clear hcall eg hn1 ha h1 h2 hb hfit
  show Calls Tryz.prog 97 #[.int .i64 (k : Int), .pointer (some ⟨B1, 0, none⟩), .pointer (some ⟨B2, 0, none⟩)] W _
  go_enter Tryz.func97, Tryz.ntmps97
  go_wp2_with fail
  refine HC.out.mono ?_
  rintro e w1 ⟨v1, f1, rfl, hr1, hn1, hf1, hb1, _⟩
  obtain ⟨A1, c1, rfl⟩ := hr1.rows_form
  have g3 := (hb1.cell (p := ⟨B2, k, none⟩) m2).trans g2
  obtain ⟨k0, _, kz⟩ := one_at7 ((hb1.block _ (heap_lt HG1.out)).trans HG1.out)
  obtain ⟨y0, y1, z0, z1, yz⟩ := two_at ((hb1.block _ (heap_lt HG2.out)).trans HG2.out)
  have m3 := Nat.lt_of_lt_of_le m2 hb1.size
  have HB1 := Lib.hid (HN1.out.trans (hb1.mono HN1.out.size))
  have HR := Lib.hid hr1; have HNF := Lib.hid hn1; have HFR := Lib.hid hf1
  clear hb1 hr1 hn1 hf1 g1 g2 m1 m2
  go_wp2_with fail
  refine bodyPost_ret (v := ptv (.slice A1 S.length c1) mk) (by simp [results, Tryz.results97, go_sem, y0, y1]) rfl ?_
  have hbut := But.two w1 (W.heap.size + 1) 0 1 (.slice A1 S.length c1) (.int .i64 mk)
  have hx : ∀ b ∈ f1, b ∉ [W.heap.size + 1] := fun b hm h => by have := HFR.out b hm; have := heap_lt HG2.out; simp at h; omega
  exact ⟨A1, c1, f1, rfl, HR.out.but hbut hx, HNF.out.but hbut HR.out.lt hx, fun b hm => by have := HFR.out b hm; have := heap_lt HG1.out; omega, HB1.out.trans (hbut.below HB1.out.size (by intro b hb; simp at hb; omega))⟩

theorem six_at {w : World} {g : Nat} {a b c d e f : Value} {t : TypeId} (h : w.heap[g]? = some (.cells #[a, b, c, d, e, f] t (0, 0))) :
    w.cell? ⟨g, 0, none⟩ = some a ∧ w.cell? ⟨g, 1, none⟩ = some b ∧ w.cell? ⟨g, 2, none⟩ = some c ∧ w.cell? ⟨g, 3, none⟩ = some d ∧ w.cell? ⟨g, 4, none⟩ = some e ∧ w.cell? ⟨g, 5, none⟩ = some f ∧ (∀ i, w.frozen? ⟨g, i, none⟩ = false) ∧ g < w.heap.size :=
  ⟨cell_of_heap h, cell_of_heap h, cell_of_heap h, cell_of_heap h, cell_of_heap h, cell_of_heap h, fun i => frozen_of_heap h, heap_lt h⟩
/-- An array of three parts. -/
def ArrPost (w : World) (r0 r1 r2 : List R) (m0 m1 m2 : Int) (e : Ending) (w' : World) : Prop :=
  ∃ (A0 A1 A2 : Option Addr) (c0 c1 c2 : Nat) (f0 f1 f2 : List Nat), e = .returned (.agg #[.slice A0 r0.length c0, .int .i64 m0, .slice A1 r1.length c1, .int .i64 m1, .slice A2 r2.length c2, .int .i64 m2]) ∧
    Rd w' 4 (.slice A0 r0.length c0) (rcs r0) f0 ∧ Rd w' 4 (.slice A1 r1.length c1) (rcs r1) f1 ∧ Rd w' 4 (.slice A2 r2.length c2) (rcs r2) f2 ∧ NF w' [f0, f1, f2].flatten ∧ From w.heap.size [f0, f1, f2].flatten ∧ [f0, f1, f2].flatten.Nodup ∧ Below w.heap.size w w'

set_option maxRecDepth 100000 in
set_option maxHeartbeats 4000000 in
theorem forPts_c (g : Nat) (lb : Array Value) (eg : ∀ args w, (callFunc g args).run Tryz.prog w = .ok (.enter g args) w) (r0 r1 r2 : List R) (m0 m1 m2 : Int) (w : World)
    (hp : ∀ (W : World) (k : Nat) (p : Pt), [(⟨r0, m0⟩ : Pt), ⟨r1, m1⟩, ⟨r2, m2⟩][k]? = some p → Below w.heap.size w W → Calls Tryz.prog g (#[.int .i64 (k : Int)] ++ lb) W fun e w' =>
      ∃ A' c' f, e = .returned (ptv (.slice A' p.rows.length c') p.mark) ∧ Rd w' 4 (.slice A' p.rows.length c') (rcs p.rows) f ∧ NF w' f ∧ From W.heap.size f ∧ Below W.heap.size W w') :
    Calls Tryz.prog 96 #[.func (.func g) #[] lb] w (ArrPost w r0 r1 r2 m0 m1 m2) := by
  have HP := Lib.hid hp; clear hp
  obtain ⟨l, hl⟩ : ∃ l : List Pt, l = [(⟨r0, m0⟩ : Pt), ⟨r1, m1⟩, ⟨r2, m2⟩] := ⟨_, rfl⟩
  rw [← hl] at HP
  have hln : l.length = 3 := by rw [hl]; rfl
  have HL := Lib.hid hl; have HLN := Lib.hid hln
  clear hl hln
  have hz6 : (#[.slice none 0 0, .int .i64 0, .slice none 0 0, .int .i64 0, .slice none 0 0, .int .i64 0] : Array Value) = (List.replicate l.length [Value.slice none 0 0, .int .i64 0]).flatten.toArray := by rw [HLN.out]; rfl
  have HF0 : Hid (Fill partK [.slice none 0 0, .int .i64 0] (w.alloc (.cells #[.slice none 0 0, .int .i64 0, .slice none 0 0, .int .i64 0, .slice none 0 0, .int .i64 0] 127)) 127 l 0 ((w.alloc (.cells #[.slice none 0 0, .int .i64 0, .slice none 0 0, .int .i64 0, .slice none 0 0, .int .i64 0] 127)).alloc (.cells #[.slice none 0 0, .int .i64 0, .slice none 0 0, .int .i64 0, .slice none 0 0, .int .i64 0] 127))) := Fill.zero hz6
  have HG0 := Lib.hid (heap_new w (.cells #[.slice none 0 0, .int .i64 0, .slice none 0 0, .int .i64 0, .slice none 0 0, .int .i64 0] 127) rfl)
  have HW1 := Lib.hid (below_new (w := w) (.cells #[.slice none 0 0, .int .i64 0, .slice none 0 0, .int .i64 0, .slice none 0 0, .int .i64 0] 127))
  have HS1 : Hid ((w.alloc (.cells #[.slice none 0 0, .int .i64 0, .slice none 0 0, .int .i64 0, .slice none 0 0, .int .i64 0] 127)).heap.size = w.heap.size + 1) := by exact Lib.hid (by simp)
  clear hz6
  go_enter Tryz.func96, Tryz.ntmps96
  go_wp2_with fail
  generalize hw1 : w.alloc (.cells #[.slice none 0 0, .int .i64 0, .slice none 0 0, .int .i64 0, .slice none 0 0, .int .i64 0] 127) = w1 at HF0 HG0 HW1 HS1
  have HWE := Lib.hid hw1; clear hw1
  go_loopw [5] (fun i wr => ∃ k : Nat, k ≤ 3 ∧ i = .int .i64 k ∧ Hid (Fill partK [.slice none 0 0, .int .i64 0] w1 127 l k wr)) (fun i _ => 3 - (intOf i).toNat)
  case atStart => exact ⟨0, Nat.zero_le _, rfl, HF0⟩
  case round =>
    clear HF0 HWE
    obtain ⟨k, hk, rfl, HFL⟩ := hrel
    by_cases hlt : k < 3
    · have hkl : k < l.length := by rw [HLN.out]; exact hlt
      have hbw : Below w.heap.size w wr := HW1.out.trans (HFL.out.below.mono HW1.out.size)
      have hcall := HP.out wr k l[k] (List.getElem?_eq_getElem hkl) hbw
      have HCL := Lib.hid hcall
      have hk0 : (0 : Int) ≤ (k : Int) := by omega
      have hk3 : (k : Int) < 3 := by omega
      obtain ⟨p, hpe⟩ : ∃ p, p = l[k] := ⟨_, rfl⟩
      rw [← hpe] at HCL
      have HPE := Lib.hid hpe
      clear hcall hbw hpe
      go_wp2_with fail
      refine HCL.out.mono ?_
      rintro e w2 ⟨A2, c2, f2, rfl, hr2, hn2, hf2, hb2⟩
      obtain ⟨hz1, hfz, hcl⟩ := HFL.out.cells (by rfl) hkl hb2
      have c0 := hcl 0 _ rfl
      have c1 := hcl 1 _ rfl
      simp only [partK, Nat.add_zero] at c0 c1
      have f0 := hfz (k * 2)
      have f1 := hfz (k * 2 + 1)
      have hst : ∀ w3, But [w1.heap.size] w2 w3 → (∀ cs, w2.heap[w1.heap.size]? = some (.cells cs 127 (0, 0)) → w3.heap[w1.heap.size]? = some (.cells (setAll cs (k * partK.K) [.slice A2 p.rows.length c2, .int .i64 p.mark]) 127 (0, 0))) → Fill partK [.slice none 0 0, .int .i64 0] w1 127 l (k + 1) w3 :=
        fun w3 hbut hset => HFL.out.step rfl hkl hb2 (by rw [← HPE.out]; exact ⟨_, rfl, hr2⟩) hn2 hf2 hr2.nodup hbut hset
      have HST := Lib.hid hst; clear hst
      rw [HS1.out] at hz1 c0 c1 f0 f1
      clear hr2 hn2 hf2 hb2 HFL hfz hcl
      go_wp2_with fail
      refine ⟨⟨k + 1, by omega, by go_num, Lib.hid (HST.out _ (((But.refl _ _).setCell (by rw [HS1.out]; simp) _).setCell (by rw [HS1.out]; simp) _) (fun cs hcs => ?_))⟩, by simp [intOf]; omega⟩
      simp only [partK, setAll]
      rw [HS1.out] at hcs ⊢
      exact heap_set1 (heap_set1 hcs)
    · obtain rfl : k = 3 := by omega
      obtain ⟨us, fs, ha, hg, hnf, hfr, hno, hbel⟩ := HFL.out
      rw [show l.take 3 = l by rw [← HLN.out, List.take_length], HL.out] at ha
      rw [HLN.out, Nat.sub_self, List.replicate_zero, List.flatten_nil, List.append_nil] at hg
      obtain ⟨u0, us, f0, fs, rfl, rfl, ⟨v0, e0, q0⟩, ha⟩ := ha.cons
      obtain ⟨u1, us, f1, fs, rfl, rfl, ⟨v1, e1, q1⟩, ha⟩ := ha.cons
      obtain ⟨u2, us, f2, fs, rfl, rfl, ⟨v2, e2, q2⟩, ha⟩ := ha.cons
      match us, fs, ha with
      | [], [], _ =>
        subst e0 e1 e2
        obtain ⟨A0, c0, rfl⟩ := Rd.rows_form (rs := r0) q0
        obtain ⟨A1, c1, rfl⟩ := Rd.rows_form (rs := r1) q1
        obtain ⟨A2, c2, rfl⟩ := Rd.rows_form (rs := r2) q2
        have hg' : wr.heap[w.heap.size + 1]? = some (.cells #[.slice A0 r0.length c0, .int .i64 m0, .slice A1 r1.length c1, .int .i64 m1, .slice A2 r2.length c2, .int .i64 m2] 127 (0, 0)) := by rw [← HS1.out]; exact hg
        obtain ⟨x0, x1, x2, x3, x4, x5, xf, xz⟩ := six_at hg'
        obtain ⟨y0, y1, y2, y3, y4, y5, yf, yz⟩ := six_at ((hbel.block _ (heap_lt HG0.out)).trans HG0.out)
        have z0 := yf 0; have z1 := yf 1; have z2 := yf 2; have z3 := yf 3; have z4 := yf 4; have z5 := yf 5
        have HX : Hid (Rd wr 4 (.slice A0 r0.length c0) (rcs r0) f0 ∧ Rd wr 4 (.slice A1 r1.length c1) (rcs r1) f1 ∧ Rd wr 4 (.slice A2 r2.length c2) (rcs r2) f2 ∧ NF wr [f0, f1, f2].flatten ∧ From (w.heap.size + 1) [f0, f1, f2].flatten ∧ [f0, f1, f2].flatten.Nodup ∧ Below w.heap.size w wr) :=
          ⟨q0, q1, q2, hnf, hfr.mono (by rw [HS1.out]; omega), hno, HW1.out.trans (hbel.mono HW1.out.size)⟩
        clear q0 q1 q2 hnf hfr hno hbel hg hg' HFL xf yf
        go_wp2_with fail
        refine bodyPost_ret (v := .agg #[.slice A0 r0.length c0, .int .i64 m0, .slice A1 r1.length c1, .int .i64 m1, .slice A2 r2.length c2, .int .i64 m2]) (by simp [results, Tryz.results96, go_sem, y0, y1, y2, y3, y4, y5]) rfl ?_
        obtain ⟨k1, k2, k3, k4, k5, k6, k7⟩ := HX.out
        have hbut := ((((((But.refl [w.heap.size] wr).setCell (p := ⟨w.heap.size, 0, none⟩) (by simp) (.slice A0 r0.length c0)).setCell (p := ⟨w.heap.size, 1, none⟩) (by simp) (.int .i64 m0)).setCell (p := ⟨w.heap.size, 2, none⟩) (by simp) (.slice A1 r1.length c1)).setCell (p := ⟨w.heap.size, 3, none⟩) (by simp) (.int .i64 m1)).setCell (p := ⟨w.heap.size, 4, none⟩) (by simp) (.slice A2 r2.length c2)).setCell (p := ⟨w.heap.size, 5, none⟩) (by simp) (.int .i64 m2)
        have hx : ∀ b ∈ [f0, f1, f2].flatten, b ∉ [w.heap.size] := fun b hm h => by have := k5 b hm; simp at h; omega
        have x0 : ∀ b ∈ f0, b ∉ [w.heap.size] := fun b hm => hx b (by simp [hm])
        have x1 : ∀ b ∈ f1, b ∉ [w.heap.size] := fun b hm => hx b (by simp [hm])
        have x2 : ∀ b ∈ f2, b ∉ [w.heap.size] := fun b hm => hx b (by simp [hm])
        have hlt : ∀ b ∈ [f0, f1, f2].flatten, b < wr.heap.size := fun b hm => by
          simp only [List.flatten_cons, List.flatten_nil, List.append_nil, List.mem_append] at hm
          rcases hm with hm | hm | hm
          · exact k1.lt b hm
          · exact k2.lt b hm
          · exact k3.lt b hm
        exact ⟨A0, A1, A2, c0, c1, c2, f0, f1, f2, rfl, k1.but hbut x0, k2.but hbut x1, k3.but hbut x2, k4.but hbut hlt hx, k5.mono (by omega), k6, k7.trans (hbut.below k7.size (by intro b hb; simp at hb; omega))⟩

/-- Three parts in a block. -/
theorem three_parts {w : World} {g : Nat} {t : TypeId} {A0 A1 A2 : Option Addr} {c0 c1 c2 : Nat} {r0 r1 r2 : List R} {m0 m1 m2 : Int} {f0 f1 f2 : List Nat} (hg : w.heap[g]? = some (.cells #[.slice A0 r0.length c0, .int .i64 m0, .slice A1 r1.length c1, .int .i64 m1, .slice A2 r2.length c2, .int .i64 m2] t (0, 0)))
    (h0 : Rd w 4 (.slice A0 r0.length c0) (rcs r0) f0) (h1 : Rd w 4 (.slice A1 r1.length c1) (rcs r1) f1) (h2 : Rd w 4 (.slice A2 r2.length c2) (rcs r2) f2) :
    RdP w (.slice (some ⟨g, 0, none⟩) 3 3) [⟨r0, m0⟩, ⟨r1, m1⟩, ⟨r2, m2⟩] ([g] ++ [f0, f1, f2].flatten) :=
  ⟨[[.slice A0 r0.length c0, .int .i64 m0], [.slice A1 r1.length c1, .int .i64 m1], [.slice A2 r2.length c2, .int .i64 m2]], [g], [f0, f1, f2], ⟨_, 3, 3, rfl, rfl, by unfold maxLen; omega, by omega, .inr ⟨g, 0, rfl, rfl, heap_lt hg, fun i u hu => by
    rw [Nat.zero_add, cell_of_heap hg, List.getElem?_toArray]; exact hu⟩⟩, ⟨⟨_, rfl, h0⟩, ⟨_, rfl, h1⟩, ⟨_, rfl, h2⟩, trivial⟩, rfl⟩

set_option maxRecDepth 100000 in
set_option maxHeartbeats 4000000 in
theorem newParts_c (A : Option Addr) (c : Nat) (rs : List R) (m0 m1 m2 : Int) (w : World) (fp : List Nat) (hs : rs.length ≤ 12) (hfit : Fits rs) (ha : Rd w 4 (.slice A rs.length c) (rcs rs) fp) :
    Calls Tryz.prog 63 #[.slice A rs.length c, .agg #[.int .i64 m0, .int .i64 m1, .int .i64 m2]] w (CopySl partK w (npL rs m0 m1 m2)) := by
  have eg : ∀ args w, (callFunc 97 args).run Tryz.prog w = .ok (.enter 97 args) w := enters_of Tryz.func97 (by kernel_rfl) rfl
  have hn1 : Below w.heap.size w ((w.alloc (.cells #[.slice A rs.length c] 24)).alloc (.cells #[.int .i64 m0, .int .i64 m1, .int .i64 m2] 92)) := below_more (below_new _) _
  have hg1 := heap_old (o' := .cells #[.int .i64 m0, .int .i64 m1, .int .i64 m2] 92) (heap_new w (.cells #[.slice A rs.length c] 24) rfl)
  have hg2 := heap_new (w.alloc (.cells #[.slice A rs.length c] 24)) (.cells #[.int .i64 m0, .int .i64 m1, .int .i64 m2] 92) (g := w.heap.size + 1) (by simp)
  have hcall := forPts_c 97 #[.pointer (some ⟨w.heap.size, 0, none⟩), .pointer (some ⟨w.heap.size + 1, 0, none⟩)] eg (rs.filter fun r => decide (rpart r = ((0 : Nat) : Int))) (rs.filter fun r => decide (rpart r = ((1 : Nat) : Int))) (rs.filter fun r => decide (rpart r = ((2 : Nat) : Int))) m0 m1 m2 _ (fun W k p hp hb => by
    have hk : k < 3 := by
      have := (List.getElem?_eq_some_iff.1 hp).1
      simpa using this
    have h := newPartsFn A c rs fp w.heap.size (w.heap.size + 1) (fun | 0 => m0 | 1 => m1 | _ => m2) _ hs hfit (ha.below' hn1) (cell_of_heap hg1) (heap_lt hg1) (fun k hk => by
      rw [cell_of_heap hg2]
      match k, hk with
      | 0, _ => rfl
      | 1, _ => rfl
      | 2, _ => rfl) (heap_lt hg2) W k hk hb
    match k, hk, hp with
    | 0, _, hp => injection hp with hp; subst hp; exact h
    | 1, _, hp => injection hp with hp; subst hp; exact h
    | 2, _, hp => injection hp with hp; subst hp; exact h)
  have HC := Lib.hid hcall; have HN1 := Lib.hid hn1; have HZ2 := Lib.hid (heap_lt hg2)
  have hnp : npL rs m0 m1 m2 = [⟨rs.filter fun r => decide (rpart r = ((0 : Nat) : Int)), m0⟩, ⟨rs.filter fun r => decide (rpart r = ((1 : Nat) : Int)), m1⟩, ⟨rs.filter fun r => decide (rpart r = ((2 : Nat) : Int)), m2⟩] := rfl
  rw [hnp]
  generalize (rs.filter fun r => decide (rpart r = ((0 : Nat) : Int))) = r0 at *
  generalize (rs.filter fun r => decide (rpart r = ((1 : Nat) : Int))) = r1 at *
  generalize (rs.filter fun r => decide (rpart r = ((2 : Nat) : Int))) = r2 at *
  clear hcall eg hn1 hg1 hg2 ha hfit hnp
  go_enter Tryz.func63, Tryz.ntmps63
  go_wp2_with fail
  refine HC.out.mono ?_
  rintro e w1 ⟨A0, A1, A2, c0, c1, c2, f0, f1, f2, rfl, k1, k2, k3, k4, k5, k6, k7⟩
  have hlt : ∀ b ∈ [f0, f1, f2].flatten, b < w1.heap.size := fun b hm => by
    simp only [List.flatten_cons, List.flatten_nil, List.append_nil, List.mem_append] at hm
    rcases hm with hm | hm | hm
    · exact k1.lt b hm
    · exact k2.lt b hm
    · exact k3.lt b hm
  have hgn := heap_new w1 (.cells #[.slice A0 r0.length c0, .int .i64 m0, .slice A1 r1.length c1, .int .i64 m1, .slice A2 r2.length c2, .int .i64 m2] 127) rfl
  have hB : Below w.heap.size w w1 := HN1.out.trans (k7.mono HN1.out.size)
  have hB2 := below_more hB (.cells #[.slice A0 r0.length c0, .int .i64 m0, .slice A1 r1.length c1, .int .i64 m1, .slice A2 r2.length c2, .int .i64 m2] 127)
  have hgz := hB.size
  have HX : Hid (CopySl partK w [⟨r0, m0⟩, ⟨r1, m1⟩, ⟨r2, m2⟩] (.returned (.slice (some ⟨w1.heap.size, 0, none⟩) 3 3)) (w1.alloc (.cells #[.slice A0 r0.length c0, .int .i64 m0, .slice A1 r1.length c1, .int .i64 m1, .slice A2 r2.length c2, .int .i64 m2] 127))) := by
    refine ⟨_, 3, [w1.heap.size] ++ [f0, f1, f2].flatten, rfl, three_parts hgn (k1.alloc _) (k2.alloc _) (k3.alloc _), fun x hx i => ?_, fun x hx => ?_, List.nodup_append.2 ⟨by simp, k6, fun a ha b hb => ?_⟩, hB2⟩
    · rcases List.mem_append.1 hx with hx | hx
      · simp at hx; subst hx; exact frozen_of_heap hgn
      · exact (k4.keep fun b hm => Below.heap_alloc _ _ _ (hlt b hm)) x hx i
    · rcases List.mem_append.1 hx with hx | hx
      · simp at hx; omega
      · have := k5 x hx; have := HZ2.out; omega
    · have := hlt b hb; simp at ha; omega
  clear k1 k2 k3 k4 k5 k6 k7 hlt hgn hB hB2 hgz
  go_wp2
  go_ret
  exact HX.out

theorem newParts_q (A : Option Addr) (c : Nat) (rs : List R) (m0 m1 m2 : Int) (L : List Pt) (hL : npL rs m0 m1 m2 = L) (w : World) (fp : List Nat) (hs : rs.length ≤ 12) (hfit : Fits rs) (ha : Rd w 4 (.slice A rs.length c) (rcs rs) fp) :
    Calls Tryz.prog 63 #[.slice A rs.length c, .agg #[.int .i64 m0, .int .i64 m1, .int .i64 m2]] w (CopySl partK w L) := by
  subst hL
  exact newParts_c A c rs m0 m1 m2 w fp hs hfit ha
def AskPartsFrom : Prop := ∀ (A : Option Addr) (c : Nat) (rs : List R) (m : Int) (w : World) (fp : List Nat), rs.length ≤ 1048576 → (∀ r ∈ rs, WfR r) → (Lit.int .i64 m).wf = true → Rd w 4 (.slice A rs.length c) (rcs rs) fp →
  Calls Tryz.prog 23 #[.slice A rs.length c, .int .i64 m] w (PsResPost w (poC rs m) (ppL rs m))
theorem partsFromFn (B : Nat) (m : Int) (w : World) (hB : w.cell? ⟨B, 0, none⟩ = some (.int .i64 m)) (hBz : B < w.heap.size) (W : World) (k : Nat) (hb : Below w.heap.size w W) :
    Calls Tryz.prog 62 (#[.int .i64 (k : Int)] ++ #[.pointer (some ⟨B, 0, none⟩)]) W fun e w' => e = .returned (.int .i64 m) ∧ W = w' := by
  have g0 := (hb.cell (p := ⟨B, 0, none⟩) hBz).trans hB
  have m1 := Nat.lt_of_lt_of_le hBz hb.size
  clear hb hB
  show Calls Tryz.prog 62 #[.int .i64 (k : Int), .pointer (some ⟨B, 0, none⟩)] W _
  go_enter Tryz.func62, Tryz.ntmps62
  go_wp2
  go_ret
  exact ⟨rfl, rfl⟩
theorem filledPred (w : World) : PredRow 64 #[] (fun r => !emptyB r) w := fun W x _ _ => isFilled_b x (emptyB x) rfl W

set_option maxRecDepth 100000 in
set_option maxHeartbeats 4000000 in
theorem implPartsFrom_a : AskPartsFrom := by
  intro A c rs m w fp hs hwf _ ha
  have hb0 : Below w.heap.size w ((w.alloc (.cells #[.int .i64 m] 2)).alloc (.cells #[.int .i64 0, .slice none 0 0] 53)) := below_more (below_new _) _
  have HB0 := Lib.hid hb0
  have HM0 := Lib.hid (heap_old (o' := .cells #[.int .i64 0, .slice none 0 0] 53) (heap_new w (.cells #[.int .i64 m] 2) rfl))
  have HG0 := Lib.hid (heap_new (w.alloc (.cells #[.int .i64 m] 2)) (.cells #[.int .i64 0, .slice none 0 0] 53) (g := w.heap.size + 1) (by simp))
  have HA := Lib.hid (ha.below' hb0); have HWF := Lib.hid hwf; have HAP := Lib.hid ha.lt
  clear ha hwf hb0
  by_cases h0 : rowsF rs = 0
  case neg =>
    have hC : poC rs m = rowsF rs := by unfold poC; rw [if_neg h0]
    have hL : ppL rs m = [] := by unfold ppL; rw [if_neg (by rw [hC]; exact h0)]
    rw [hC, hL]
    generalize hV : rowsF rs = V at h0 ⊢
    have HV := Lib.hid hV
    have t1 : (V != 0) = true := by simpa using h0
    clear h0 hC hL hV
    go_enter Tryz.func23, Tryz.ntmps23
    go_wp2_with fail
    refine (implRowsFault_a A c rs _ fp hs HWF.out HA.out).mono ?_
    rw [HV.out]
    rintro e w1 ⟨rfl, hb1⟩
    have HB1 := Lib.hid (HB0.out.trans (hb1.mono HB0.out.size))
    obtain ⟨y0, y1, z0, z1, yz⟩ := two_at ((hb1.block _ (heap_lt HG0.out)).trans HG0.out)
    clear hb1
    go_wp2_with fail
    exact bodyPost_ret (v := psv V (.slice none 0 0)) (by simp [results, Tryz.results23, go_sem, y0, y1]) rfl (psres_none (HB1.out.trans ((But.two _ (w.heap.size + 1) 0 1 _ _).below HB1.out.size (by intro b hb; simp at hb; omega))))
  cases h1 : inB m 0 999
  case false =>
    have hC : poC rs m = 3 := by unfold poC; rw [if_pos h0, h1]; rfl
    have hL : ppL rs m = [] := by unfold ppL; rw [if_neg (by rw [hC]; decide)]
    rw [hC, hL]
    have H0 := Lib.hid h0; have H1 := Lib.hid h1
    clear h0 hC hL h1
    go_enter Tryz.func23, Tryz.ntmps23
    go_wp2_with fail
    refine (implRowsFault_a A c rs _ fp hs HWF.out HA.out).mono ?_
    rw [H0.out]
    rintro e w1 ⟨rfl, hb1⟩
    have HB1 := Lib.hid (HB0.out.trans (hb1.mono HB0.out.size))
    obtain ⟨k0, _, kz⟩ := one_at7 ((hb1.block _ (heap_lt HM0.out)).trans HM0.out)
    obtain ⟨y0, y1, z0, z1, yz⟩ := two_at ((hb1.block _ (heap_lt HG0.out)).trans HG0.out)
    clear hb1
    go_wp2_with fail
    refine (isMark_b m false H1.out _).mono ?_
    rintro e w' ⟨rfl, hw⟩
    subst hw
    go_wp2_with fail
    exact bodyPost_ret (v := psv 3 (.slice none 0 0)) (by simp [results, Tryz.results23, go_sem, y0, y1]) rfl (psres_none (HB1.out.trans ((But.two _ (w.heap.size + 1) 0 1 _ _).below HB1.out.size (by intro b hb; simp at hb; omega))))
  have hC : poC rs m = 0 := by unfold poC; rw [if_pos h0, h1]; rfl
  have hL : ppL rs m = partsOf rs m := by unfold ppL; rw [if_pos hC]
  rw [hC, hL]
  obtain ⟨hfit, h12⟩ := rowsF_fits h0
  have eg : ∀ args w, (callFunc 62 args).run Tryz.prog w = .ok (.enter 62 args) w := enters_of Tryz.func62 (by kernel_rfl) rfl
  have eg2 : ∀ args w, (callFunc 64 args).run Tryz.prog w = .ok (.enter 64 args) w := enters_of Tryz.func64 (by kernel_rfl) rfl
  have EG := Lib.hid eg; have EG2 := Lib.hid eg2
  have H0 := Lib.hid h0; have H1 := Lib.hid h1; have HFIT := Lib.hid hfit
  obtain ⟨L, hLe⟩ : ∃ L, L = partsOf rs m := ⟨_, rfl⟩
  have HLE : Hid (npL (solidL rs) m m m = L) := (npL_solid rs m).trans hLe.symm
  have hL3 : L.length = 3 := by rw [hLe]; exact partsOf_len rs m
  rw [← hLe]
  have hfs : Fits (solidL rs) := fun j hj => by
    have hm : (solidL rs)[j] ∈ solidL rs := List.getElem_mem hj
    unfold solidL at hm
    obtain ⟨i, hi, e⟩ := List.mem_iff_getElem.1 (List.mem_filter.1 hm).1
    have e' : rs[i] = (solidL rs)[j] := e
    rw [← e']; exact hfit i hi
  have hsl := solid_len rs rs.length
  rw [List.take_length] at hsl
  have HFS := Lib.hid hfs; have HL3 := Lib.hid hL3
  clear h0 hC hL h1 hfit eg eg2 hLe hfs hL3
  go_enter Tryz.func23, Tryz.ntmps23
  go_wp2_with fail
  refine (implRowsFault_a A c rs _ fp hs HWF.out HA.out).mono ?_
  rw [H0.out]
  rintro e w1 ⟨rfl, hb1⟩
  have HB1 := Lib.hid (HB0.out.trans (hb1.mono HB0.out.size))
  have HG1 := Lib.hid ((hb1.block _ (heap_lt HG0.out)).trans HG0.out)
  have HM1 := Lib.hid ((hb1.block _ (heap_lt HM0.out)).trans HM0.out)
  have HA1 := Lib.hid (HA.out.below' hb1)
  obtain ⟨k0, _, kz⟩ := one_at7 HM1.out
  clear hb1
  go_wp2_with fail
  refine (isMark_b m true H1.out _).mono ?_
  rintro e w' ⟨rfl, hw⟩
  subst hw
  have HC1 := Lib.hid (forInts_c 62 #[.pointer (some ⟨w.heap.size, 0, none⟩)] EG.out (fun _ => m) w1 (fun W k _ hb => partsFromFn w.heap.size m w1 k0 kz W k hb))
  clear k0 kz
  go_wp2_with fail
  refine HC1.out.mono ?_
  rintro e w2 ⟨rfl, hb2⟩
  have HB2 := Lib.hid (below_more (HB1.out.trans (hb2.mono HB1.out.size)) (.cells #[.int .i64 m, .int .i64 m, .int .i64 m] 92))
  have HG2 := Lib.hid (heap_old (o' := .cells #[.int .i64 m, .int .i64 m, .int .i64 m] 92) ((hb2.block _ (heap_lt HG1.out)).trans HG1.out))
  have HK2 := Lib.hid (heap_new w2 (.cells #[.int .i64 m, .int .i64 m, .int .i64 m] 92) rfl)
  have HA2 := Lib.hid ((HA1.out.below' hb2).alloc (.cells #[.int .i64 m, .int .i64 m, .int .i64 m] 92))
  have hzz : w.heap.size + 1 < w2.heap.size := by have := heap_lt HG1.out; have := hb2.size; omega
  clear hb2
  generalize hW3 : w2.alloc (.cells #[.int .i64 m, .int .i64 m, .int .i64 m] 92) = W3 at HB2 HG2 HK2 HA2
  have HW3 := Lib.hid hW3; clear hW3
  generalize hgm : w2.heap.size = gm at HK2 hzz
  have HGM := Lib.hid hgm; clear hgm
  obtain ⟨a0, a1, a2, _, _, _, az⟩ := three_at6 HK2.out
  obtain ⟨y0, y1, z0, z1, yz⟩ := two_at HG2.out
  go_wp2_with fail
  rw [HW3.out, HGM.out]
  have hld : ∀ w', But [w.heap.size + 1] W3 w' → w'.cell? ⟨gm, 0, none⟩ = some (.int .i64 m) ∧ w'.cell? ⟨gm, 1, none⟩ = some (.int .i64 m) ∧ w'.cell? ⟨gm, 2, none⟩ = some (.int .i64 m) := fun w' h => ⟨(h.cell (p := ⟨gm, 0, none⟩) az (by simp; omega)).trans a0, (h.cell (p := ⟨gm, 1, none⟩) az (by simp; omega)).trans a1, (h.cell (p := ⟨gm, 2, none⟩) az (by simp; omega)).trans a2⟩
  have HLD := Lib.hid hld; clear hld
  refine wp_region_sched (fun w' => But [w.heap.size + 1] W3 w') [(0, true), (2, true), (1, false), (3, false), (4, true), (5, false)] (by kernel_rfl) (by kernel_rfl) (by kernel_rfl) (by kernel_rfl) (fun _ _ d _ _ h => by cases d <;> exact h) (But.drewN (But.refl _ _) 1) ?_
  simp only [opsOf, List.filterMap_cons, List.filterMap_nil, Option.map_some, List.getElem?_toArray, List.getElem?_cons_zero, List.getElem?_cons_succ]
  generalize hW0 : ({ heap := W3.heap, tape := W3.tape, drawn := W3.drawn + 1, os := W3.os, output := W3.output } : World) = v0
  have hv0 : But [w.heap.size + 1] W3 v0 := by rw [← hW0]; exact (But.drewN (But.refl _ _) 1)
  have HGV0 : Hid (v0.heap[w.heap.size + 1]? = some (.cells #[.int .i64 0, .slice none 0 0] 53 (0, 0))) := by rw [← hW0]; exact HG2.out
  clear hW0
  refine sched_run (v := ?_) (by rfl) ?_ ?_
  rotate_left
  · (intro w' hS'; go_simp; try with_reducible rfl)
  try simp only [Act.put, List.setIfInBounds_toArray, List.set_cons_zero, List.set_cons_succ]
  refine sched_run (v := ?_) (by rfl) ?_ ?_
  rotate_left
  · (intro w' hS'; obtain ⟨b0, b1, b2⟩ := HLD.out w' hS'; go_simp; try with_reducible rfl)
  try simp only [Act.put, List.setIfInBounds_toArray, List.set_cons_zero, List.set_cons_succ]
  refine sched_call (by rfl) (fun K hK => ?_)
  go_simp
  refine (keep_c 64 #[] (fun r => !emptyB r) EG2.out A c rs _ fp (by omega) HFIT.out (filledPred _) (HA2.out.but hv0 (fun b hb => by have := HAP.out b hb; simp; omega))).mono ?_
  rintro e v1 ⟨s1, f1, rfl, hr1, hn1, hf1, hbv0, _⟩
  have hv1 : But [w.heap.size + 1] W3 v1 := hv0.trans (But.of_below hbv0 _)
  have HGV1 := Lib.hid ((hbv0.block _ (heap_lt HGV0.out)).trans HGV0.out)
  obtain ⟨A1, c1, rfl⟩ := hr1.rows_form
  have HR1 : Hid (Rd v1 4 (.slice A1 (solidL rs).length c1) (rcs (solidL rs)) f1) := hr1
  clear hr1 hn1 hf1
  clear hbv0
  refine hK _ _ hv1 ?_
  try simp only [Act.put, List.setIfInBounds_toArray, List.set_cons_zero, List.set_cons_succ]
  refine sched_call (by rfl) (fun K hK => ?_)
  go_simp
  refine (newParts_q A1 c1 (solidL rs) m m m L HLE.out _ f1 (by omega) HFS.out HR1.out).mono ?_
  rintro e v2 ⟨A2, c2, f2, rfl, hr2, hn2, hf2, hd2, hbv1⟩
  have hv2 : But [w.heap.size + 1] W3 v2 := hv1.trans (But.of_below hbv1 _)
  have HGV2 := Lib.hid ((hbv1.block _ (heap_lt HGV1.out)).trans HGV1.out)
  obtain ⟨s0, s1, t0, t1, sz⟩ := two_at HGV2.out
  have HX2 : Hid (RdP v2 (.slice A2 L.length c2) L f2 ∧ NF v2 f2 ∧ From (w.heap.size + 1 + 1) f2 ∧ f2.Nodup ∧ But [w.heap.size + 1] W3 v2) := ⟨hr2, hn2, hf2.mono (by have := hv1.size; have := yz; omega), hd2, hv2⟩
  clear hr2 hn2 hf2 hd2
  clear hbv1
  refine hK _ _ hv2 ?_
  try simp only [Act.put, List.setIfInBounds_toArray, List.set_cons_zero, List.set_cons_succ]
  refine sched_run (v := ?_) (by rfl) ?_ ?_
  rotate_left
  · (intro w' hS'; go_simp; try with_reducible rfl)
  try simp only [Act.put, List.setIfInBounds_toArray, List.set_cons_zero, List.set_cons_succ]
  refine sched_call (by rfl) (fun K hK => ?_)
  go_simp
  refine hK _ _ ?_ ?_
  · exact (hv2.setCell (p := ⟨w.heap.size + 1, 0, none⟩) (by simp) _ |>.setCell (p := ⟨w.heap.size + 1, 1, none⟩) (by simp) _)
  try simp only [Act.put, List.setIfInBounds_toArray, List.set_cons_zero, List.set_cons_succ]
  refine sched_done ?_
  go_wp2_with fail
  obtain ⟨k1, k2, k3, k4, k5⟩ := HX2.out
  exact bodyPost_ret (v := psv 0 (.slice A2 L.length c2)) (by simp [results, Tryz.results23, go_sem, s0, s1]) rfl (psres_stored (HB2.out.trans (k5.below HB2.out.size (fun b hb => by simp at hb; omega))) (by omega) k1 k2 k3 k4)
end Go.Proofs.YtldimfmhbdhbnaaGreat
