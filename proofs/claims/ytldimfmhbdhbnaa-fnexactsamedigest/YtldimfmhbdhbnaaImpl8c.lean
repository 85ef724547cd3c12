/-
  The program's functions of chapter 8, third part: both digests as one complex number; SameDigest.
-/
import Derived.Test.YtldimfmhbdhbnaaImpl8b
import Derived.Test.YtldimfmhbdhbnaaSpec8b
import Derived.Test.YtldimfmhbdhbnaaImpl7c
import Derived.Test.YtldimfmhbdhbnaaFloat8
namespace Go.Proofs.Ytldimfmhbdhbnaa
open Go.RowKit

def AskSameDigest : Prop := ∀ (p : Pl) (vf : Value) (A : Option Addr) (c : Nat) (l : List Pt) (w : World) (fp fq : List Nat), plsz p ≤ 1048576 → (Lit.int .i64 p.mark).wf = true → WfF p.fs → psz l ≤ 1048576 → WfT l → PlAt w p vf fp → RdP w (.slice A l.length c) l fq →
  Calls Try.prog 39 #[plv p.mark vf, .slice A l.length c] w fun e w' => e = .returned (.bool (sdB p l)) ∧ Below w.heap.size w w'

set_option maxRecDepth 100000 in
set_option maxHeartbeats 2000000 in
theorem bothDigests_c (A B : Option Addr) (c d : Nat) (a b : List R) (X Y : Int) (hX : digL a = X) (hY : digL b = Y) (w : World) (fp fq : List Nat) (hva : ∀ x ∈ a, rowF x = 0) (hvb : ∀ x ∈ b, rowF x = 0) (ha : Rd w 4 (.slice A a.length c) (rcs a) fp) (hb : Rd w 4 (.slice B b.length d) (rcs b) fq) :
    Calls Try.prog 88 #[.slice A a.length c, .slice B b.length d] w fun e w' => e = .returned (.complex .f64 (flo X) (flo Y)) ∧ Below w.heap.size w w' := by
  have HA := Lib.hid ha; have HB := Lib.hid hb; have HX := Lib.hid hX; have HY := Lib.hid hY; have HVA := Lib.hid hva; have HVB := Lib.hid hvb
  have u1 := Try.underlying2
  have u2 := Try.underlying121
  have u3 : (Try.prog.underlying 2).isSome = true := by rw [u1]; rfl
  have U1 := Lib.hid u1; have U2 := Lib.hid u2; have U3 := Lib.hid u3
  have c1 : ∀ (n : Int) (W : World), (convert 2 121 (.int .i64 n)).run Try.prog W = .ok (.float .f64 (flo n)) W := fun n W => run_convert_int_float W 2 121 .i64 .f64 n U3.out U2.out
  clear ha hb hX hY hva hvb u1 u2 u3
  go_enter Try.func88, Try.ntmps88
  go_wp2_with fail
  refine (digestRows_c A c a X HX.out _ fp HVA.out HA.out).mono ?_
  rintro e w1 ⟨rfl, hb1⟩
  have HB1 := Lib.hid hb1
  clear hb1
  go_wp2_with fail
  refine (digestRows_c B d b Y HY.out _ fq HVB.out (HB.out.below' HB1.out)).mono ?_
  rintro e w2 ⟨rfl, hb2⟩
  have HB2 := Lib.hid (HB1.out.trans (hb2.mono HB1.out.size))
  clear hb2
  go_wp2_with fail
  go_ret
  exact ⟨rfl, HB2.out⟩

set_option maxRecDepth 100000 in
set_option maxHeartbeats 4000000 in
theorem implSameDigest_a : AskSameDigest := by
  intro p vf A c l w fp fq hs wn hwf hsl hwt h ha
  have HB0 := Lib.hid (below_new (w := w) (.cells #[vf, .int .i64 p.mark] 29))
  obtain ⟨B, d, rfl⟩ := h.form
  have HK := Lib.hid (heap_new w (.cells #[.slice B p.fs.length d, .int .i64 p.mark] 29) rfl)
  have hri := implRowsIn_a p (.slice B p.fs.length d) _ fp hs wn hwf (h.below' HB0.out)
  have HRI := Lib.hid hri
  have HRO := Lib.hid (fun W (hW : Below w.heap.size w W) => implRowsOf_a A c l W fq hsl hwt (ha.below' hW))
  have hsd : sdB p l = if riC p = 0 ∧ roC l = 0 then decide (digL (riL p) = digL (roL l)) else false := by
    unfold sdB riC roC
    by_cases h0 : placesF p = 0 <;> by_cases h1 : partsF l = 0 <;> simp [h0, h1]
  have hlr : riC p = 0 → ∀ x ∈ riL p, rowF x = 0 := fun h => riL_rows h
  have hmr : roC l = 0 → ∀ x ∈ roL l, rowF x = 0 := fun h => roL_rows h
  generalize sdB p l = S at *
  generalize hC : riC p = C at *
  generalize riL p = L at *
  generalize hD : roC l = D at *
  generalize roL l = M at *
  have HSD := Lib.hid hsd; have HLR := Lib.hid hlr; have HMR := Lib.hid hmr
  clear hri hsd hlr hmr h ha hwf hwt
  go_enter Try.func39, Try.ntmps39
  obtain ⟨k0, k1, _, _, hzk⟩ := two_at HK.out
  go_wp2_with fail
  clear k0 k1 hzk
  refine HRI.out.mono ?_
  rintro e w1 ⟨_, rfl, ⟨v1, f1, rfl, hr1, _, _⟩, hb1⟩
  obtain ⟨A1, c1, hv1⟩ := hr1.rows_form
  subst hv1
  have HB1 := Lib.hid (HB0.out.trans (hb1.mono HB0.out.size)); have HR1 := Lib.hid hr1
  clear hb1 hr1
  go_wp2_with fail
  refine (HRO.out w1 HB1.out).mono ?_
  rintro e w2 ⟨_, rfl, ⟨v2, f2, rfl, hr2, _, _⟩, hb2⟩
  obtain ⟨A2, c2, hv2⟩ := hr2.rows_form
  subst hv2
  have HB2 := Lib.hid (below_more (below_more (HB1.out.trans (hb2.mono HB1.out.size)) (.cells #[.int .i64 C, .slice A1 L.length c1] 41)) (.cells #[.int .i64 D, .slice A2 M.length c2] 41))
  have HR2 := Lib.hid (((HR1.out.below' hb2).alloc (.cells #[.int .i64 C, .slice A1 L.length c1] 41)).alloc (.cells #[.int .i64 D, .slice A2 M.length c2] 41))
  have HM2 := Lib.hid ((hr2.alloc (.cells #[.int .i64 C, .slice A1 L.length c1] 41)).alloc (.cells #[.int .i64 D, .slice A2 M.length c2] 41))
  have HX := Lib.hid (heap_old (o' := .cells #[.int .i64 D, .slice A2 M.length c2] 41) (heap_new w2 (.cells #[.int .i64 C, .slice A1 L.length c1] 41) rfl))
  have HY := Lib.hid (heap_new (w2.alloc (.cells #[.int .i64 C, .slice A1 L.length c1] 41)) (.cells #[.int .i64 D, .slice A2 M.length c2] 41) (g := w2.heap.size + 1) (by simp))
  clear hb2 hr2
  obtain ⟨x0, x1, _, _, hzx⟩ := two_at HX.out
  obtain ⟨y0, y1, _, _, hzy⟩ := two_at HY.out
  by_cases h0 : C = 0
  case neg =>
    have hS : S = false := by rw [HSD.out, if_neg (fun h => h0 h.1)]
    have HS := Lib.hid hS
    have t1 : (C != 0) = true := by simpa using h0
    clear hS h0
    go_wp2_with fail
    go_ret
    exact ⟨congrArg (fun z => Ending.returned (Value.bool z)) HS.out.symm, HB2.out⟩
  subst h0
  by_cases h1 : D = 0
  case neg =>
    have hS : S = false := by rw [HSD.out, if_neg (fun h => h1 h.2)]
    have HS := Lib.hid hS
    have t1 : (D != 0) = true := by simpa using h1
    clear hS h1
    go_wp2_with fail
    go_ret
    exact ⟨congrArg (fun z => Ending.returned (Value.bool z)) HS.out.symm, HB2.out⟩
  subst h1
  have hS : S = decide (digL L = digL M) := by rw [HSD.out, if_pos ⟨rfl, rfl⟩]
  have hlr := HLR.out rfl; have hmr := HMR.out rfl
  have hXb := digL_bd L; have hYb := digL_bd M
  generalize hX : digL L = X at *
  generalize hY : digL M = Y at *
  have HS := Lib.hid hS; have HLR2 := Lib.hid hlr; have HMR2 := Lib.hid hmr; have HXX := Lib.hid hX; have HYY := Lib.hid hY
  have HFE := Lib.hid (flo_eq X Y hXb.1 hXb.2 hYb.1 hYb.2)
  clear hS hlr hmr hX hY hXb hYb HSD HLR HMR
  go_wp2_with fail
  refine (bothDigests_c A1 A2 c1 c2 L M X Y HXX.out HYY.out _ f1 f2 HLR2.out HMR2.out HR2.out HM2.out).mono ?_
  rintro e w3 ⟨rfl, hb3⟩
  have HB3 := Lib.hid (HB2.out.trans (hb3.mono HB2.out.size))
  clear hb3 x0 x1 y0 y1
  go_wp2_with fail
  go_ret
  exact ⟨congrArg (fun z => Ending.returned (Value.bool z)) (HFE.out.trans HS.out.symm), HB3.out⟩
end Go.Proofs.Ytldimfmhbdhbnaa
