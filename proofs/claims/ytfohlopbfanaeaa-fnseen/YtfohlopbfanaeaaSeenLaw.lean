/- The law FnSeen answers true for every slice of bytes: the walk. -/
import Derived.Test.YtfohlopbfanaeaaDraw5
import Derived.Test.YtfohlopbfanaeaaLists5
import Derived.Test.YtfohlopbfanaeaaImpl5n
import Derived.Test.YtfohlopbfanaeaaLwBig
namespace Go.Proofs.Ytfohlopbfanaeaa
open Go.RowKit

theorem fldInt0 (x y : Value) (w : World) : (Instr.field 36 (.agg #[x, y]) 0).run Try.prog w = .ok x w := by kernel_rfl
theorem fldInt1 (x y : Value) (w : World) : (Instr.field 36 (.agg #[x, y]) 1).run Try.prog w = .ok y w := by kernel_rfl
theorem fldSeen0 (x y : Value) (w : World) : (Instr.field 62 (.agg #[x, y]) 0).run Try.prog w = .ok x w := by kernel_rfl
/-- What stands through the law. -/
structure SL (w : World) (l : List Sn) (x : Sn) (Al : Option Addr) (cl : Nat) (fl : List Nat) (gx : Nat) (C : Int) (L : List Sn) (An : Option Addr) (cn : Nat) (fn : List Nat) (gn : Nat) (W : World) : Prop where
  bel : Below w.heap.size w W
  rl : Rd W 2 (.slice Al l.length cl) (ecs sc l) fl
  bx : W.heap[gx]? = some (.cells #[.int .i64 x.rq, .int .i64 x.vl] 64 (0, 0))
  bn : W.heap[gn]? = some (.cells #[.int .i64 C, .slice An L.length cn] 62 (0, 0))
  rn : Rd W 2 (.slice An L.length cn) (ecs sc L) fn
theorem SL.below' {w : World} {l : List Sn} {x : Sn} {Al : Option Addr} {cl : Nat} {fl : List Nat} {gx : Nat} {C : Int} {L : List Sn} {An : Option Addr} {cn : Nat} {fn : List Nat} {gn : Nat} {W W' : World}
    (h : SL w l x Al cl fl gx C L An cn fn gn W) (hb : Below W.heap.size W W') : SL w l x Al cl fl gx C L An cn fn gn W' :=
  ⟨h.bel.trans (hb.mono h.bel.size), h.rl.below' hb, (hb.block _ (heap_lt h.bx)).trans h.bx, (hb.block _ (heap_lt h.bn)).trans h.bn, h.rn.below' hb⟩

set_option maxRecDepth 100000 in
set_option maxHeartbeats 16000000 in
theorem lawSeen_c (a : Option Addr) (len cap : Nat) (z : List Int) (w : World) (h0 : IsRow .u8 w a len cap z) :
    Calls Try.prog 13 #[.slice a len cap] w fun e w' => e = .returned (.bool true) ∧ Below w.heap.size w w' := by
  have hlen := h0.len
  have hby := h0.byt
  obtain ⟨fp, hr⟩ := h0.rd
  clear h0
  generalize z.take len = zs at *
  subst hlen
  clear z
  have hmax := hr.len_le
  by_cases hbig : 1048576 < zs.length
  · have HBD := Lib.hid (show decide (1048576 < zs.length) = true by simp [hbig])
    go_enter Try.func13, Try.ntmps13
    go_wp2_with fail
    refine (bigCode_c _ _ _ _ hmax).mono ?_
    rintro e w1 ⟨rfl, rfl⟩
    rw [HBD.out]
    go_wp2
    go_ret
    exact ⟨rfl, Below.refl _ _⟩
  · have hs : zs.length ≤ 1048576 := by omega
    have HBD := Lib.hid (show decide (1048576 < zs.length) = false by simp [hs])
    have HCR := Lib.hid hr; have HBY := Lib.hid hby
    clear hr hby hbig
    go_enter Try.func13, Try.ntmps13
    go_wp2_with fail
    refine (bigCode_c _ _ _ _ hmax).mono ?_
    rintro e w0 ⟨rfl, rfl⟩
    rw [HBD.out]
    go_wp2_with fail
    refine (drawNoteSeen_c a cap zs w fp HCR.out HBY.out hs).mono ?_
    rintro e w1 ⟨vl, fl, l, x, rfl, hrl, hml, hll, hmx, _, hb1⟩
    obtain ⟨Al, cl, rfl⟩ := hrl.elt_form sc_len (by omega)
    have HML := Lib.hid hml; have HMX := Lib.hid hmx
    have B1 := Lib.hid (below_more hb1 (.cells #[.int .i64 x.rq, .int .i64 x.vl] 64))
    have RL1 := Lib.hid (hrl.alloc (.cells #[.int .i64 x.rq, .int .i64 x.vl] 64))
    have GX1 := Lib.hid (heap_new w1 (.cells #[.int .i64 x.rq, .int .i64 x.vl] 64) rfl)
    clear hrl hml hmx hb1
    go_wp2_with fail
    generalize w1.alloc (.cells #[.int .i64 x.rq, .int .i64 x.vl] 64) = W1 at *
    generalize w1.heap.size = gx at *
    generalize hC : noteC l x = C
    generalize hL : noteS l x = L
    have HC := Lib.hid hC; have HL := Lib.hid hL; clear hC hL
    refine (implNoteSeen_a Al cl l x _ fl (by omega) (fun y hy => (HML.out y hy).wf) HMX.out.wf RL1.out).mono ?_
    rw [HC.out, HL.out]
    rintro e w2 ⟨_, rfl, ⟨vn, fn, rfl, hrn, _, _⟩, hb2⟩
    obtain ⟨An, cn, rfl⟩ := hrn.elt_form sc_len (by omega)
    have HSL := Lib.hid (show SL w l x Al cl fl gx C L An cn fn w2.heap.size (w2.alloc (.cells #[.int .i64 C, .slice An L.length cn] 62)) from
      ⟨below_more (B1.out.trans (hb2.mono B1.out.size)) _, (RL1.out.below' hb2).alloc _, heap_old ((hb2.block _ (heap_lt GX1.out)).trans GX1.out), heap_new w2 _ rfl, hrn.alloc _⟩)
    clear hrn hb2
    go_wp2_with fail
    generalize w2.alloc (.cells #[.int .i64 C, .slice An L.length cn] 62) = W2 at *
    generalize w2.heap.size = gn at *
    clear RL1 GX1 B1
    refine (drawFindSeen_c a cap zs _ fp (HCR.out.below' HSL.out.bel) HBY.out hs).mono ?_
    rintro e w3 ⟨vy, fy, y, q, rfl, hry, hmy, hly, hq0, hq1, _, hb3⟩
    obtain ⟨Ay, cy, rfl⟩ := hry.elt_form sc_len (by omega)
    have HSL3 := Lib.hid (HSL.out.below' hb3); have HRY := Lib.hid hry; have HMY := Lib.hid hmy
    clear hry hmy hb3 HSL
    generalize hP : findS y q = P
    have HP := Lib.hid hP; clear hP
    go_wp2_with fail
    refine (implFindSeen_a Ay cy y q _ fy (by omega) (fun y hy => (HMY.out y hy).wf) (wf_small (by omega) (by omega)) HRY.out).mono ?_
    rw [HP.out]
    rintro e w4 ⟨rfl, hb4⟩
    have HSL4 := Lib.hid ((HSL3.out.below' hb4).below' (below_new (.cells #[.int .i64 P.1, .int .i64 P.2] 36)))
    have HRY4 := Lib.hid ((HRY.out.below' hb4).alloc (.cells #[.int .i64 P.1, .int .i64 P.2] 36))
    have hgf := heap_new w4 (.cells #[.int .i64 P.1, .int .i64 P.2] 36) rfl
    obtain ⟨f0, f1, _, _, hzf⟩ := pair_at5 hgf
    clear hb4 HSL3 HRY hgf
    have fi0 := fldInt0; have fi1 := fldInt1
    have t1 : (P.1 != P.1) = false := by simp
    have t2 : (P.2 != P.2) = false := by simp
    go_wp2_with fail
    generalize w4.alloc (.cells #[.int .i64 P.1, .int .i64 P.2] 36) = W4 at *
    generalize w4.heap.size = gf at *
    go_region_held3 (fun w' => w'.cell? ⟨gf, 0, none⟩ = some (.int .i64 P.1) ∧ w'.cell? ⟨gf, 1, none⟩ = some (.int .i64 P.2))
      (first
        | go_keep
        | (refine ⟨(Below.cell (w := W4) (p := ⟨gf, _, none⟩) ?_ hzf).trans f0, (Below.cell (w := W4) (p := ⟨gf, _, none⟩) ?_ hzf).trans f1⟩ <;> (first | with_reducible exact hq2 | with_reducible exact hq1)))
      (first
        | (go_at_call 45
           refine (specFindSeen_c Ay cy y q _ fy (HRY4.out.below' (Below.refl _ _).drew)).mono ?_
           rw [HP.out]
           rintro e y1 ⟨rfl, hbq⟩
           have hq1 : Below W4.heap.size W4 y1 := (Below.refl _ _).drew.trans hbq
           clear hbq)
        | (go_at_call 45
           refine (specFindSeen_c Ay cy y q _ fy (HRY4.out.below' hq1)).mono ?_
           rw [HP.out]
           rintro e y2 ⟨rfl, hbq⟩
           have hq2 : Below W4.heap.size W4 y2 := hq1.trans (hbq.mono hq1.size)
           clear hbq))
    have HSL5 := Lib.hid (HSL4.out.below' hq2)
    clear hq1 hq2 f0 f1 hzf HRY4 HSL4 t1 t2
    obtain ⟨n0, n1, _, _, hzn⟩ := pair_at5 HSL5.out.bn
    obtain ⟨x0, x1, _, _, hzx⟩ := pair_at5 HSL5.out.bx
    by_cases hC0 : C = 0
    case neg =>
      have tc : (C != 0) = true := by simpa using hC0
      have fs0 := fldSeen0
      have t3 : (C == C) = true := by simp
      generalize hV : seenF l = V
      have HV := Lib.hid hV; clear hV
      have t4 : (V == V) = true := by simp
      go_wp2_with fail
      go_region_held3 (fun w' => w'.cell? ⟨gn, 0, none⟩ = some (.int .i64 C) ∧ w'.cell? ⟨gx, 0, none⟩ = some (.int .i64 x.rq) ∧ w'.cell? ⟨gx, 1, none⟩ = some (.int .i64 x.vl))
        (first
          | go_keep
          | (refine ⟨(Below.cell (w := y2) (p := ⟨gn, _, none⟩) ?_ hzn).trans n0, (Below.cell (w := y2) (p := ⟨gx, _, none⟩) ?_ hzx).trans x0, (Below.cell (w := y2) (p := ⟨gx, _, none⟩) ?_ hzx).trans x1⟩ <;> (first | with_reducible exact hq3 | with_reducible exact hq2 | with_reducible exact hq1)))
        (first
          | (go_at_call 38
             refine (specNoteSeen_c Al cl l x _ fl (HSL5.out.rl.below' (Below.refl _ _).drew)).mono ?_
             rw [HC.out, HL.out]
             rintro e u1 ⟨_, rfl, ⟨vs, fs, rfl, _, _, _⟩, hbq⟩
             have hq1 : Below y2.heap.size y2 u1 := (Below.refl _ _).drew.trans hbq
             clear hbq)
          | (go_at_call 31
             refine (implSeenFault_a Al cl l _ fl (by omega) (fun y hy => (HML.out y hy).wf) (HSL5.out.rl.below' hq1)).mono ?_
             rw [HV.out]
             rintro e u2 ⟨rfl, hbq⟩
             have hq2 : Below y2.heap.size y2 u2 := hq1.trans (hbq.mono hq1.size)
             clear hbq)
          | (go_at_call 29
             refine (specSeenFault_c Al cl l _ fl (HSL5.out.rl.below' hq2)).mono ?_
             rw [HV.out]
             rintro e u3 ⟨rfl, hbq⟩
             have hq3 : Below y2.heap.size y2 u3 := hq2.trans (hbq.mono hq2.size)
             clear hbq))
      have HE := Lib.hid (HSL5.out.below' hq3).bel
      clear hq1 hq2 hq3
      go_wp2_with fail
      go_ret
      exact ⟨rfl, HE.out⟩
    subst hC0
    obtain ⟨k1, k2, k3, k4⟩ := note_ok HC.out
    rw [HL.out] at k1 k2 k3 k4
    have hwfL : ∀ y ∈ L, WfS y := fun y hy => by have := (seenF_fits k1).1 y hy; unfold FitS at this; exact ⟨wf_small (by omega) (by omega), wf_small (by omega) (by omega)⟩
    have K1 := Lib.hid k1; have K3 := Lib.hid k3; have K4 := Lib.hid k4; have HWL := Lib.hid hwfL
    clear k1 k3 k4 hwfL
    go_wp2_with fail
    clear n0 n1 hzn x0 x1 hzx
    go_loopw [9] (fun i wr => ∃ k : Nat, 1 ≤ k ∧ k ≤ 100 ∧ i = .int .i64 k ∧ Hid (SL w l x Al cl fl gx 0 L An cn fn gn wr)) (fun i _ => l.length - (intOf i).toNat)
    case atStart => exact ⟨1, by omega, by omega, rfl, HSL5⟩
    case round =>
      clear HSL5
      obtain ⟨k, hk1, hk2, rfl, HS⟩ := hrel
      obtain ⟨n0, n1, _, _, hzn⟩ := pair_at5 HS.out.bn
      obtain ⟨x0, x1, _, _, hzx⟩ := pair_at5 HS.out.bx
      by_cases hlt : k < l.length
      · obtain ⟨b1, o1, hA, _, hl1, p0, p1⟩ := HS.out.rl.seen_at hlt
        have hA' := hA
        subst hA
        have hf := K4.out k hlt hk1
        have hwr := (HML.out l[k] (List.getElem_mem hlt)).wf.1
        generalize l[k] = r at *
        have HF := Lib.hid hf; have HWR := Lib.hid hwr
        have t5 : (r.vl != r.vl) = false := by simp
        have hi0 : (0 : Int) ≤ (k : Int) := by omega
        have hi1 : (k : Int) < (l.length : Int) := by omega
        clear hf hwr hA'
        go_wp2_with fail
        go_region_held3 (fun w' => w'.cell? ⟨gn, 1, none⟩ = some (.slice An L.length cn) ∧ w'.cell? ⟨b1, o1 + k * 2, none⟩ = some (.int .i64 r.rq) ∧ w'.cell? ⟨b1, o1 + k * 2 + 1, none⟩ = some (.int .i64 r.vl))
          (first
            | go_keep
            | (refine ⟨(Below.cell (w := wr) (p := ⟨gn, _, none⟩) ?_ hzn).trans n1, (Below.cell (w := wr) (p := ⟨b1, _, none⟩) ?_ hl1).trans p0, (Below.cell (w := wr) (p := ⟨b1, _, none⟩) ?_ hl1).trans p1⟩ <;> with_reducible exact hq1))
          ((go_at_call 46; refine (implFindSeen_a An cn L r.rq _ fn (by omega) HWL.out HWR.out (HS.out.rn.below' (Below.refl _ _).drew)).mono ?_; rw [HF.out]; rintro e u1 ⟨rfl, hbq⟩; have hq1 : Below wr.heap.size wr u1 := (Below.refl _ _).drew.trans hbq; clear hbq))
        have HSN := Lib.hid (HS.out.below' hq1)
        clear hq1 p0 p1 n0 n1 hzn x0 x1 hzx
        go_wp2_with fail
        exact ⟨⟨k + 1, by omega, by omega, by go_num, HSN⟩, by simp [intOf]; omega⟩
      · have t6 : (x.vl == x.vl) = true := by simp
        have t7 : ((0 : Int) == 0) = true := by simp
        have t8 : decide ((L.length : Int) ≤ 6) = true := by simp; omega
        go_wp2_with fail
        go_region_held3 (fun w' => w'.cell? ⟨gn, 1, none⟩ = some (.slice An L.length cn) ∧ w'.cell? ⟨gx, 0, none⟩ = some (.int .i64 x.rq) ∧ w'.cell? ⟨gx, 1, none⟩ = some (.int .i64 x.vl))
          (first
            | go_keep
            | (refine ⟨(Below.cell (w := wr) (p := ⟨gn, _, none⟩) ?_ hzn).trans n1, (Below.cell (w := wr) (p := ⟨gx, _, none⟩) ?_ hzx).trans x0, (Below.cell (w := wr) (p := ⟨gx, _, none⟩) ?_ hzx).trans x1⟩ <;> (first | with_reducible exact hq3 | with_reducible exact hq2 | with_reducible exact hq1)))
          (first
            | (go_at_call 31
               refine (implSeenFault_a An cn L _ fn (by omega) HWL.out (HS.out.rn.below' (Below.refl _ _).drew)).mono ?_
               rw [K1.out]
               rintro e u1 ⟨rfl, hbq⟩
               have hq1 : Below wr.heap.size wr u1 := (Below.refl _ _).drew.trans hbq
               clear hbq)
            | (go_at_call 46
               refine (implFindSeen_a An cn L x.rq _ fn (by omega) HWL.out HMX.out.wf.1 (HS.out.rn.below' hq2)).mono ?_
               rw [K3.out]
               rintro e u3 ⟨rfl, hbq⟩
               have hq3 : Below wr.heap.size wr u3 := hq2.trans (hbq.mono hq2.size)
               clear hbq)
            | (go_at_call 46
               refine (implFindSeen_a An cn L x.rq _ fn (by omega) HWL.out HMX.out.wf.1 (HS.out.rn.below' hq1)).mono ?_
               rw [K3.out]
               rintro e u2 ⟨rfl, hbq⟩
               have hq2 : Below wr.heap.size wr u2 := hq1.trans (hbq.mono hq1.size)
               clear hbq))
        have HE := Lib.hid (HS.out.below' hq3).bel
        clear hq1 hq2 hq3
        go_wp2_with fail
        go_ret
        exact ⟨rfl, HE.out⟩
end Go.Proofs.Ytfohlopbfanaeaa
