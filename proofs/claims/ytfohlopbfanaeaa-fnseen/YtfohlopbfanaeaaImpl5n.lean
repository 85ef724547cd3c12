/-
  The program's NoteSeen.
-/
import Derived.Test.YtfohlopbfanaeaaRing5d
namespace Go.Proofs.Ytfohlopbfanaeaa
open Go.RowKit

/-- A ring with a request added, told as a list: the two ways behind one name. -/
theorem note_ring (l : List Sn) (x : Sn) (hl : l.length ≤ 6) : ∃ (l' : List Sn) (f' c' : Int), (∀ w, Calls Try.prog 79 #[rgv l 0 l.length, sv x] w fun e w' => e = .returned (rgv l' f' c') ∧ Below w.heap.size w w') ∧
    ∀ w, Calls Try.prog 80 #[rgv l' f' c'] w (EPost sc 2 w (noteL l x)) := by
  by_cases h : l.length < 6
  · refine ⟨l ++ [x], 0, (l.length : Int) + 1, fun w => withL_c l x w h _ rfl, fun w => ?_⟩
    rw [noteL_eq, if_pos h]
    exact listL_c (l ++ [x]) w (by simp; omega) _ (by simp)
  · have h6 : l.length = 6 := by omega
    refine ⟨x :: l.drop 1, 1, 6, fun w => ?_, fun w => ?_⟩
    · rw [h6]; exact withF_c l x w
    · rw [noteL_eq, if_neg h]
      exact listF_c l x w h6

def AskNoteSeen : Prop := ∀ (A : Option Addr) (c : Nat) (l : List Sn) (x : Sn) (w : World) (fp : List Nat), l.length ≤ 1048576 → (∀ y ∈ l, WfS y) → WfS x → Rd w 2 (.slice A l.length c) (ecs sc l) fp →
  Calls Try.prog 40 #[.slice A l.length c, sv x] w (EResPost sc 2 w (noteC l x) (noteS l x))

set_option maxRecDepth 100000 in
set_option maxHeartbeats 4000000 in
theorem implNoteSeen_a : AskNoteSeen := by
  intro A c l x w fp hs hwf _ ha
  generalize hC : noteC l x = C
  generalize hL : noteS l x = L
  have HC := Lib.hid hC; have HL := Lib.hid hL; clear hC hL
  have HA := Lib.hid ha; have HWF := Lib.hid hwf; clear ha hwf
  go_enter Try.func40, Try.ntmps40
  go_wp2_with fail
  generalize hW : ((w.alloc (.cells #[.int .i64 x.rq, .int .i64 x.vl] 64)).alloc (.cells #[.int .i64 0, .slice none 0 0] 62)) = W
  have HBW : Hid (Below w.heap.size w W) := by rw [← hW]; exact below_more (below_new _) _
  have GX : Hid (W.heap[w.heap.size]? = some (.cells #[.int .i64 x.rq, .int .i64 x.vl] 64 (0, 0))) := by rw [← hW]; exact heap_old (heap_new w _ rfl)
  have GR : Hid (W.heap[w.heap.size + 1]? = some (.cells #[.int .i64 0, .slice none 0 0] 62 (0, 0))) := by rw [← hW]; exact heap_new _ _ (by simp)
  clear hW
  refine (implSeenFault_a A c l _ fp hs HWF.out (HA.out.below' HBW.out)).mono ?_
  rintro e w1 ⟨rfl, hb1⟩
  have GX1 := Lib.hid ((hb1.block _ (heap_lt GX.out)).trans GX.out)
  have GR1 := Lib.hid ((hb1.block _ (heap_lt GR.out)).trans GR.out)
  have HB1 := Lib.hid (HBW.out.trans (hb1.mono HBW.out.size))
  clear hb1
  obtain ⟨x0, x1, _, _, hzx⟩ := pair_at5 GX1.out
  obtain ⟨z0, z1, f0, f1, hz⟩ := pair_at5 GR1.out
  by_cases h0 : seenF l = 0
  case neg =>
    have hC : seenF l = C := by rw [← HC.out]; unfold noteC; rw [if_neg h0]
    have hL : L = [] := by rw [← HL.out]; unfold noteS; rw [HC.out, ← hC, if_neg h0]
    subst hL
    rw [hC] at h0
    rw [hC]
    have t1 : (C != 0) = true := by simpa using h0
    clear hC h0 HC HL
    go_wp2_with fail
    refine bodyPost_ret (v := .agg #[.int .i64 C, .slice none 0 0]) (by simp [results, Try.results40, go_sem, z0, z1, hz]) rfl ⟨_, rfl, ⟨_, [], rfl, Rd.nil _ _, NF.nil _, From.nil _⟩, ?_⟩
    exact (HB1.out.setCell (by simp) _).setCell (by simp) _
  rw [h0]
  cases hB : seenB x
  · have hC : C = 3 := by rw [← HC.out]; unfold noteC; rw [if_pos h0, hB]; rfl
    have hL : L = [] := by rw [← HL.out]; unfold noteS; rw [HC.out, hC]; rfl
    subst hL hC
    have HBX := Lib.hid hB
    clear h0 HC HL hB
    go_wp2_with fail
    refine (isSeen_b x _ HBX.out _).mono ?_
    rintro e w2 ⟨rfl, hw⟩
    have hb2 : Below w1.heap.size w1 w2 := by rw [hw]; exact below_new _
    have HB2 := Lib.hid (HB1.out.trans (hb2.mono HB1.out.size))
    have gr2 := (hb2.block _ (heap_lt GR1.out)).trans GR1.out
    clear hw hb2 z0 z1 f0 f1 hz
    obtain ⟨z0, z1, f0, f1, hz⟩ := pair_at5 gr2
    clear gr2
    go_wp2_with fail
    refine bodyPost_ret (v := .agg #[.int .i64 3, .slice none 0 0]) (by simp [results, Try.results40, go_sem, z0, z1, hz]) rfl ⟨_, rfl, ⟨_, [], rfl, Rd.nil _ _, NF.nil _, From.nil _⟩, ?_⟩
    exact (HB2.out.setCell (by simp) _).setCell (by simp) _
  · have HBX := Lib.hid hB
    go_wp2_with fail
    refine (isSeen_b x _ HBX.out _).mono ?_
    rintro e w2 ⟨rfl, hw⟩
    have hb2 : Below w1.heap.size w1 w2 := by rw [hw]; exact below_new _
    have HB2 := Lib.hid (HB1.out.trans (hb2.mono HB1.out.size))
    have GX2 := Lib.hid ((hb2.block _ (heap_lt GX1.out)).trans GX1.out)
    have GR2 := Lib.hid ((hb2.block _ (heap_lt GR1.out)).trans GR1.out)
    clear hw hb2 z0 z1 f0 f1 hz x0 x1 hzx
    obtain ⟨x0, x1, _, _, hzx⟩ := pair_at5 GX2.out
    go_wp2_with fail
    refine (findReq_c A c l.length l x.rq _ fp rfl (HA.out.below' HB2.out)).mono ?_
    rintro e w3 ⟨rfl, hb3⟩
    generalize getS l x.rq = V
    have HB3 := Lib.hid (below_more (HB2.out.trans (hb3.mono HB2.out.size)) (sbox V))
    have GX3 := Lib.hid (heap_old (o' := sbox V) ((hb3.block _ (heap_lt GX2.out)).trans GX2.out))
    have GR3 := Lib.hid (heap_old (o' := sbox V) ((hb3.block _ (heap_lt GR2.out)).trans GR2.out))
    have GW3 := Lib.hid ((hb3.block _ (heap_lt GR2.out)).trans GR2.out)
    have HBV := Lib.hid (HB2.out.trans (hb3.mono HB2.out.size))
    clear hb3 x0 x1 hzx
    cases hH : hasS l x.rq
    · have hC : C = 0 := by rw [← HC.out]; unfold noteC; rw [if_pos h0, if_pos hB, hH]; rfl
      have hL : noteL l x = L := by rw [← HL.out]; unfold noteS; rw [HC.out, hC]; rfl
      have hl6 := (seenF_fits h0).2.2
      subst hC
      have HLL := Lib.hid hL
      obtain ⟨l', f', c', hwith, hlist⟩ := note_ring l x hl6
      have HWI := Lib.hid hwith; have HLI := Lib.hid hlist
      clear h0 HC HL hB hH hL hwith hlist
      go_upto_region 9 with (fail)
      generalize w3.alloc (sbox V) = w4 at *
      obtain ⟨x0, x1, _, _, hzx⟩ := pair_at5 GX3.out
      have HA4 := Lib.hid (HA.out.below' HB3.out)
      have hzr := heap_lt GR3.out
      go_region_held3 (fun w' => w'.cell? ⟨w.heap.size, 0, none⟩ = some (.int .i64 x.rq) ∧ w'.cell? ⟨w.heap.size, 1, none⟩ = some (.int .i64 x.vl))
        (first
          | go_keep
          | (refine ⟨(Below.cell (w := w4) (p := ⟨w.heap.size, _, none⟩) ?_ hzx).trans x0, (Below.cell (w := w4) (p := ⟨w.heap.size, _, none⟩) ?_ hzx).trans x1⟩ <;> (first | with_reducible exact hq3 | with_reducible exact hq2 | with_reducible exact hq1)))
        (first
          | (go_at_call 78
             refine (ringOf_c A c l _ fp hl6 (HA4.out.below' (Below.refl _ _).drew)).mono ?_
             rintro e y1 ⟨rfl, hbq⟩
             have hq1 : Below w4.heap.size w4 y1 := (Below.refl _ _).drew.trans hbq
             clear hbq)
          | (go_at_call 79
             refine (HWI.out _).mono ?_
             rintro e y2 ⟨rfl, hbq⟩
             have hq2 : Below w4.heap.size w4 y2 := hq1.trans (hbq.mono hq1.size)
             clear hbq)
          | (go_at_call 80
             refine (HLI.out _).mono ?_
             rw [HLL.out]
             rintro e y3 ⟨v3, g3, rfl, hr3, hn3, hf3, hbq⟩
             obtain ⟨A3, c3, rfl⟩ := hr3.elt_form sc_len (by omega)
             have hq3 : Below w4.heap.size w4 y3 := hq2.trans (hbq.mono hq2.size)
             have hf3' := hf3.mono hq2.size
             obtain ⟨z0, z1, f0, f1, hz⟩ := pair_at5 ((hq3.block _ hzr).trans GR3.out)
             clear hbq hf3))
      have hbut := But.two y3 (w.heap.size + 1) 0 1 (.int .i64 0) (.slice A3 L.length c3)
      have hap : ∀ y ∈ g3, y ∉ [w.heap.size + 1] := fun y hy he => by have := hf3' y hy; simp at he; omega
      have HX := Lib.hid (And.intro (hr3.but hbut hap) (And.intro (hn3.but hbut hr3.lt hap) (And.intro (hf3'.mono HB3.out.size) (((HB3.out.trans (hq3.mono HB3.out.size)).setCell (p := ⟨w.heap.size + 1, 0, none⟩) (by simp) (.int .i64 0)).setCell (p := ⟨w.heap.size + 1, 1, none⟩) (by simp) (.slice A3 L.length c3)))))
      have r0 : ((y3.setCell ⟨w.heap.size + 1, 0, none⟩ (.int .i64 0)).setCell ⟨w.heap.size + 1, 1, none⟩ (.slice A3 L.length c3)).cell? ⟨w.heap.size + 1, 0, none⟩ = some (.int .i64 0) := cell_of_heap (heap_set1 (heap_set1 ((hq3.block _ hzr).trans GR3.out)))
      have r1 : ((y3.setCell ⟨w.heap.size + 1, 0, none⟩ (.int .i64 0)).setCell ⟨w.heap.size + 1, 1, none⟩ (.slice A3 L.length c3)).cell? ⟨w.heap.size + 1, 1, none⟩ = some (.slice A3 L.length c3) := cell_of_heap (heap_set1 (heap_set1 ((hq3.block _ hzr).trans GR3.out)))
      clear hbut hap hr3 hn3 hf3' hq1 hq2 hq3 z0 z1 f0 f1 hz
      generalize (y3.setCell ⟨w.heap.size + 1, 0, none⟩ (.int .i64 0)).setCell ⟨w.heap.size + 1, 1, none⟩ (.slice A3 L.length c3) = Y at *
      go_wp2_with fail
      exact bodyPost_ret (v := .agg #[.int .i64 0, .slice A3 L.length c3]) (by simp [results, Try.results40, go_sem, r0, r1]) rfl ⟨_, rfl, ⟨_, g3, rfl, HX.out.1, HX.out.2.1, HX.out.2.2.1⟩, HX.out.2.2.2⟩
    · have hC : C = 6 := by rw [← HC.out]; unfold noteC; rw [if_pos h0, if_pos hB, if_pos hH]
      have hL : L = [] := by rw [← HL.out]; unfold noteS; rw [HC.out, hC]; rfl
      subst hL hC
      clear h0 HC HL hB hH
      obtain ⟨z0, z1, f0, f1, hz⟩ := pair_at5 GW3.out
      go_wp2_with fail
      refine bodyPost_ret (v := .agg #[.int .i64 6, .slice none 0 0]) (by simp [results, Try.results40, go_sem, z0, z1, hz]) rfl ⟨_, rfl, ⟨_, [], rfl, Rd.nil _ _, NF.nil _, From.nil _⟩, ?_⟩
      exact below_more ((HBV.out.setCell (by simp) _).setCell (by simp) _) _
end Go.Proofs.Ytfohlopbfanaeaa
