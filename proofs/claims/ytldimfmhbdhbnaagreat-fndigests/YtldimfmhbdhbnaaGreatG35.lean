/-
  The program's functions of chapter 8, first part: the sum of a filled row, adding, whether a row is among others; the iterator's closure and its contract.
-/
import Derived.RangeFuncNested
import Derived.RangeFuncBound
import Derived.RangeFuncCalls
import Derived.RangeFuncLeaves
import Derived.Shelf.Abstract
import Derived.Shelf.RegionOpen
import Derived.WalkKit
import Derived.OwnWalkIn
import Derived.TacticsInMore
import Derived.LoopNIn
import Derived.LoopIn
import Derived.Test.YtldimfmhbdhbnaaGreatG42
import Derived.Test.YtldimfmhbdhbnaaGreatG13
import Derived.Test.YtldimfmhbdhbnaaGreatG27
import Derived.Test.YtldimfmhbdhbnaaGreatG50
namespace Go.Proofs.YtldimfmhbdhbnaaGreat
open Go.RowKit Go.Shelf

attribute [local go_sem] Oper.semAt_some

theorem isSum_b (v : Int) (b : Bool) (hb : inB v 0 65520 = b) (w : World) : Calls Tryz.prog 54 #[.int .i64 v] w fun e w' => e = .returned (.bool b) ∧ w = w' := by
  subst hb
  by_cases h1 : (0 : Int) ≤ v <;> by_cases h2 : v ≤ 65520
  all_goals
    go_enter Tryz.func54, Tryz.ntmps54
    go_wp2
    go_ret
    refine ⟨?_, rfl⟩
    simp [inB, *]
theorem addSums_c (a b : Int) (w : World) (a0 : 0 ≤ a) (a1 : a ≤ 65520) (b0 : 0 ≤ b) (b1 : b ≤ 65520) : Calls Tryz.prog 55 #[.int .i64 a, .int .i64 b] w fun e w' => e = .returned (.int .i64 (addS a b)) ∧ w = w' := by
  go_enter Tryz.func55, Tryz.ntmps55
  go_wp2
  go_ret
  exact ⟨rfl, rfl⟩

set_option maxRecDepth 100000 in
set_option maxHeartbeats 1000000 in
theorem filledSum_c (r : R) (V : Int) (hV : sum8 r = V) (w : World) (hv : rowF r = 0) :
    Calls Tryz.prog 51 #[rv r] w fun e w' => e = .returned (.int .i64 V) ∧ Below w.heap.size w w' := by
  obtain ⟨l, s, h, d⟩ := r
  unfold sum8 at hV
  simp only at hV
  have hby := byt_pk4 l s h d
  generalize hP : pk [l, s, h, d] 4 = P at *
  have hcall := packFourI_c l s h d _ _ _ P hP hv (four_ints (w.alloc (.cells #[.int .i64 l, .int .i64 s, .int .i64 h, .int .i64 d] 40)) l s h d 2)
  rw [show (w.alloc (.cells #[.int .i64 l, .int .i64 s, .int .i64 h, .int .i64 d] 40)).heap.size = w.heap.size + 1 by simp] at hcall
  have HS := Lib.hid hV; have HBY := Lib.hid hby; have HC := Lib.hid hcall
  clear hP hV hby hcall hv
  go_enter Tryz.func51, Tryz.ntmps51
  go_wp2_with fail
  refine HC.out.mono ?_
  rintro e w1 ⟨q, rfl, ⟨v1, f1, rfl, hr1, hn1, hf1⟩, hb1⟩
  obtain ⟨A1, c1, rfl⟩ := hr1.form
  have HR1 := Lib.hid hr1
  have HB := Lib.hid ((below_more (below_new (w := w) (.cells #[.int .i64 l, .int .i64 s, .int .i64 h, .int .i64 d] 40)) (.cells #[.int .i64 l, .int .i64 s, .int .i64 h, .int .i64 d] 2)).trans (hb1.mono (by simp; omega)))
  have q1 := fun w => fldB7 (.int .i64 0) (.slice A1 P.length c1) w
  clear hr1 hn1 hf1 hb1
  go_wp2_with fail
  refine (sumBytes_q A1 c1 P V HS.out _ f1 HBY.out HR1.out).mono ?_
  rintro e w2 ⟨rfl, hw⟩
  subst hw
  clear q1
  go_wp2
  go_ret
  exact ⟨rfl, HB.out⟩

/-- Where a row stands, or -1. -/
def idxR (rs : List R) (r : R) (k : Nat) : Int := match (rs.drop k).find? (fun x => decide (x = r)) with | some _ => 0 | none => -1
theorem idxR_hit {rs : List R} {r : R} {k : Nat} (h : k < rs.length) (e : rs[k] = r) : idxR rs r k = 0 := by
  unfold idxR; rw [List.drop_eq_getElem_cons h, List.find?_cons]; simp [e]
theorem idxR_miss {rs : List R} {r : R} {k : Nat} (h : k < rs.length) (e : rs[k] ≠ r) : idxR rs r k = idxR rs r (k + 1) := by
  unfold idxR; rw [List.drop_eq_getElem_cons h, List.find?_cons]; simp [e]
theorem idxR_end (rs : List R) (r : R) : idxR rs r rs.length = -1 := by unfold idxR; rw [List.drop_length]; rfl
theorem idxR_mem (rs : List R) (r : R) : decide (0 ≤ idxR rs r 0) = decide (r ∈ rs) := by
  unfold idxR
  rw [List.drop_zero]
  cases h : rs.find? (fun x => decide (x = r)) with
  | none =>
    have := List.find?_eq_none.1 h
    have hn : r ∉ rs := fun hm => by have := this r hm; simp at this
    simp [hn]
  | some x =>
    have h1 := List.mem_of_find?_eq_some h
    have h2 := List.find?_some h
    have e : x = r := by simpa using h2
    subst e
    simp [h1]
/-- What a search answers: a number from 0 on, or -1. -/
def IdxPost (w : World) (b : Bool) (e : Ending) (w' : World) : Prop := ∃ z : Int, e = .returned (.int .i64 z) ∧ decide (0 ≤ z) = b ∧ Below w.heap.size w w'

set_option maxRecDepth 100000 in
set_option maxHeartbeats 1000000 in
theorem rowIndex_c (A : Option Addr) (c : Nat) (rs : List R) (r : R) (w : World) (fp : List Nat) (ha : Rd w 4 (.slice A rs.length c) (rcs rs) fp) :
    Calls Tryz.prog 102 #[.slice A rs.length c, rv r] w (IdxPost w (decide (r ∈ rs))) := by
  have hmax := ha.len_le
  have HA := Lib.hid (ha.alloc (rbox r))
  have HK := Lib.hid (heap_new w (rbox r) rfl)
  have HB := Lib.hid (below_new (w := w) (rbox r))
  have q1 := rowEql; have q2 := rowGuard
  rw [← idxR_mem]
  generalize hV : idxR rs r 0 = V
  have HV := Lib.hid hV
  clear ha hV
  go_enter Tryz.func102, Tryz.ntmps102
  go_wp2
  go_loopw [8] (fun i wr => ∃ k m : Nat, k ≤ rs.length ∧ i = .int .i64 k ∧ wr = (w.alloc (rbox r)).drewN m ∧ Hid (idxR rs r k = V)) (fun i _ => rs.length - (intOf i).toNat)
  case atStart => exact ⟨0, 0, Nat.zero_le _, rfl, rfl, HV⟩
  case round =>
    obtain ⟨k, m, hk, rfl, rfl, hv⟩ := hrel
    obtain ⟨k0, k1, k2, k3, _, _, _, _, hzk⟩ := four_at HK.out
    by_cases hlt : k < rs.length
    · obtain ⟨b, off, rfl, _, hbl, p0, p1, p2, p3⟩ := HA.out.row_at hlt
      have hit := @idxR_hit rs r k hlt
      have miss := @idxR_miss rs r k hlt
      generalize rs[k] = x at *
      by_cases he : x = r
      · have hv0 : V = 0 := by rw [← hv.out]; exact hit he
        have HV0 := Lib.hid hv0
        have hd : decide (r = x) = true := by simp [he]
        clear hv0 hit miss he hv
        go_wp2_with fail
        go_quiet (fail)
        go_wp2_with fail
        go_ret
        exact ⟨_, rfl, by rw [HV0.out]; simp, by repeat (first | with_reducible exact HB.out | with_reducible refine below_drewN' ?_ _)⟩
      · have hv1 : idxR rs r (k + 1) = V := by rw [← miss he]; exact hv.out
        have HV1 := Lib.hid hv1
        have hd : decide (r = x) = false := by simp; exact fun e => he e.symm
        clear hv1 hit miss he hv
        go_wp2_with fail
        go_quiet (fail)
        go_wp2_with fail
        exact ⟨⟨k + 1, _, by omega, by go_num, rfl, HV1⟩, by simp [intOf]; omega⟩
    · obtain rfl : k = rs.length := by omega
      have hv0 : V = -1 := by rw [← hv.out]; exact idxR_end rs r
      have HV0 := Lib.hid hv0
      clear hv0 hv
      go_wp2
      go_ret
      exact ⟨_, rfl, by rw [HV0.out], below_drewN' HB.out m⟩

set_option maxRecDepth 100000 in
set_option maxHeartbeats 1000000 in
theorem rowContains_c (A : Option Addr) (c : Nat) (rs : List R) (r : R) (v : Bool) (hv : decide (r ∈ rs) = v) (w : World) (fp : List Nat) (ha : Rd w 4 (.slice A rs.length c) (rcs rs) fp) :
    Calls Tryz.prog 75 #[.slice A rs.length c, rv r] w fun e w' => e = .returned (.bool v) ∧ Below w.heap.size w w' := by
  have HA := Lib.hid (ha.alloc (rbox r))
  have HK := Lib.hid (heap_new w (rbox r) rfl)
  have HB := Lib.hid (below_new (w := w) (rbox r))
  have HV := Lib.hid hv
  clear ha hv
  go_enter Tryz.func75, Tryz.ntmps75
  obtain ⟨k0, k1, k2, k3, _, _, _, _, hzk⟩ := four_at HK.out
  go_wp2_with fail
  refine (rowIndex_c A c rs r _ fp HA.out).mono ?_
  rintro e w1 ⟨z, rfl, hz, hb1⟩
  rw [HV.out] at hz
  have HB1 := Lib.hid (HB.out.trans (hb1.mono HB.out.size))
  have HZ := Lib.hid hz
  clear hb1 hz k0 k1 k2 k3 hzk
  go_wp2_with fail
  go_ret
  exact ⟨by rw [← HZ.out]; rfl, HB1.out⟩

/-- A right row. -/
abbrev VR := { x : R // rowF x = 0 }
def valV (vs : List VR) : List R := vs.map Subtype.val
def solidV (vs : List VR) : List VR := vs.filter fun x => !emptyB x.1
theorem solidV_succ (vs : List VR) (k : Nat) (h : k < vs.length) : solidV (vs.take (k + 1)) = solidV (vs.take k) ++ (if emptyB vs[k].1 then [] else [vs[k]]) := by
  unfold solidV
  rw [List.take_succ_eq_append_getElem h, List.filter_append]
  cases he : emptyB vs[k].1 <;> simp [he]
theorem solidV_len (vs : List VR) (k : Nat) : (solidV (vs.take k)).length ≤ k := Nat.le_trans (List.length_filter_le _ _) (List.length_take_le _ _)
theorem solidV_pre (vs : List VR) (k : Nat) : solidV (vs.take k) <+: solidV vs := List.IsPrefix.filter _ (List.take_prefix k vs)
theorem valV_at (vs : List VR) (k : Nat) (h : k < vs.length) : (valV vs)[k]'(by simpa [valV] using h) = vs[k].1 := by simp [valV]
theorem valV_len (vs : List VR) : (valV vs).length = vs.length := by simp [valV]
/-- Right rows, each with its proof. -/
theorem lift_vr {rs : List R} (h : ∀ x ∈ rs, rowF x = 0) : ∃ vs : List VR, valV vs = rs :=
  ⟨rs.attach.map fun x => ⟨x.1, h x.1 x.2⟩, by unfold valV; rw [List.map_map]; exact List.attach_map_subtype_val rs⟩
theorem grown_of {w w' : World} (h : Below w.heap.size w w') : w.grownBy w' none := ⟨h.os, h.tape, h.output, h.size, fun k hk _ => h.block k hk⟩

set_option maxRecDepth 100000 in
set_option maxHeartbeats 4000000 in
/-- The iterator's closure, for every loop body that keeps what lay below n₀. -/
theorem filled1_in (n : Nat) (hn : 1 ≤ n) (l Bs n₀ : Nat) (A : Option Addr) (c : Nat) (vs : List VR) (fp : List Nat) (hfp : ∀ b ∈ fp, b < n₀) (J Jx : List VR → World → Prop) (W : World) (hJ : AbidesFrom W.heap.size J)
    (hY : ∀ pre x W1, J pre W1 → pre.length < vs.length → YieldAt Fence.wide (n - 1) Tryz.prog l #[rv x.1] W1 fun e W' =>
      (e = .returned (.bool true) ∧ J (pre ++ [x]) W' ∧ Below n₀ W1 W') ∨ (e = .returned (.bool false) ∧ Jx (pre ++ [x]) W'))
    (hn₀ : n₀ ≤ W.heap.size) (hBs : W.cell? ⟨Bs, 0, none⟩ = some (.slice A vs.length c)) (ha : Rd W 4 (.slice A vs.length c) (rcs (valV vs)) fp) (h0 : J [] W) :
    CallsIn Fence.wide n Tryz.prog 101 #[.func (.yield l) #[] #[], .pointer (some ⟨Bs, 0, none⟩)] W fun e W' => (∃ v, e = .returned v) ∧
      ((∃ ys, ys = solidV vs ∧ J ys W') ∨ (∃ pre, pre <+: solidV vs ∧ Jx pre W')) := by
  have hmax : vs.length ≤ maxLen := by have := (valV_len vs) ▸ (show Rd W 4 (.slice A (valV vs).length c) (rcs (valV vs)) fp by rw [valV_len]; exact ha).len_le; exact this
  unfold maxLen at hmax
  have HA := Lib.hid (show Rd W 4 (.slice A (valV vs).length c) (rcs (valV vs)) fp by rw [valV_len]; exact ha)
  have HY := Lib.hid hY; have HFP := Lib.hid hfp; have HJ := Lib.hid hJ
  clear hY hfp hJ ha
  refine callsIn_of_wp Tryz.func101 rfl trivial ?_ rfl
  simp only [Tryz.ntmps101, List.size_toArray, List.length_cons, List.length_nil, Nat.reduceAdd, Nat.reduceSub, Array.replicate_succ, Array.replicate_zero, List.push_toArray, List.append_toArray, List.nil_append, List.cons_append]
  gi_wp2
  gi_loopw [7] (fun i wr => ∃ k : Nat, k ≤ vs.length ∧ i = .int .i64 k ∧ Hid (J (solidV (vs.take k)) wr) ∧ Hid (Below n₀ W wr))
    (fun i _ => vs.length - (intOf i).toNat)
  case atStart => exact ⟨0, Nat.zero_le _, rfl, Lib.hid h0, Lib.hid (Below.refl _ _)⟩
  case round =>
    clear hBs h0
    obtain ⟨k, hk, rfl, HJs, HB⟩ := hrel
    by_cases hlt : k < vs.length
    · obtain ⟨b, off, hAeq, _, hbl, p0, p1, p2, p3⟩ := (HA.out.below HB.out HFP.out).row_at (by rw [valV_len]; exact hlt)
      subst hAeq
      rw [valV_at vs k hlt] at p0 p1 p2 p3
      have hs := solidV_succ vs k hlt
      have hlen := solidV_len vs k
      generalize vs[k] = x at *
      have HS := Lib.hid hs; have HLEN := Lib.hid (Nat.lt_of_le_of_lt hlen hlt)
      clear hs hlen
      have HG0 := Lib.hid (HJ.out _ wr (wr.alloc (rbox x.1)) none HJs.out (grown_of (below_new _)) (fun r e => by cases e))
      have HW0 := Lib.hid (HB.out.trans ((below_new (w := wr) (rbox x.1)).mono (Nat.le_trans hn₀ HB.out.size)))
      have hnew := heap_new wr (rbox x.1) rfl
      have HN := Lib.hid hnew
      obtain ⟨k0, k1, k2, k3, _, _, _, _, hzk⟩ := four_at HN.out
      clear hnew HJs
      cases he : emptyB x.1
      all_goals
        rw [he] at HS
        have HE := Lib.hid he; clear he
        gi_wp2_with fail
        refine ⟨trivial, ?_⟩
        refine (callsIn_wide.2 (isFilled_b x.1 _ HE.out _)).mono ?_
        rintro e w2 ⟨rfl, hb2⟩
        have HG2 := Lib.hid (HJ.out _ _ w2 none HG0.out (grown_of hb2) (fun r e => by cases e))
        have HW2 := Lib.hid (HW0.out.trans (hb2.mono (Nat.le_trans hn₀ HW0.out.size)))
        have HN2 := Lib.hid ((hb2.block _ (heap_lt HN.out)).trans HN.out)
        clear hb2 k0 k1 k2 k3 hzk p0 p1 p2 p3
      · obtain ⟨k0, k1, k2, k3, _, _, _, _, hzk⟩ := four_at HN2.out
        obtain ⟨fn, tmps, assign, body, hy, hR⟩ := HY.out _ x w2 HG2.out HLEN.out
        have HRR := Lib.hid hR; clear hR
        gi_wp2
        refine HRR.out.mono ?_
        rintro e W3 (⟨rfl, hJ3, hk3⟩ | ⟨rfl, hJx3⟩)
        · gi_wp2
          go_roundw
          case rel => exact ⟨k + 1, by omega, by simp, by rw [HS.out]; exact Lib.hid hJ3, Lib.hid (HW2.out.trans hk3)⟩
          case measure => simp [intOf]; omega
        · gi_wp2
          refine bodyPost_ret (results_none rfl _ _ _) rfl ?_
          exact ⟨⟨_, rfl⟩, .inr ⟨_, by have h := solidV_pre vs (k + 1); rw [HS.out] at h; exact h, hJx3⟩⟩
      · gi_wp2
        refine ⟨fun _ h => (by cases h), ?_⟩
        gi_wp2
        go_roundw
        case rel => exact ⟨k + 1, by omega, by simp, by rw [HS.out]; simpa using HG2, HW2⟩
        case measure => simp [intOf]; omega
    · obtain rfl : k = vs.length := by omega
      have hj := HJs.out
      rw [List.take_length] at hj
      have HJE := Lib.hid hj; clear hj
      gi_wp2
      go_end0
      exact ⟨⟨_, rfl⟩, .inl ⟨_, rfl, HJE.out⟩⟩

/-- The iterator's function value. -/
theorem filledRows_c (A : Option Addr) (n c : Nat) (w : World) :
    Calls Tryz.prog 74 #[.slice A n c] w fun e w' => e = .returned (.func (.func 101) #[] #[.pointer (some ⟨w.heap.size, 0, none⟩)]) ∧ w' = w.alloc (.cells #[.slice A n c] 24) := by
  go_enter Tryz.func74, Tryz.ntmps74
  go_wp2
  go_ret
  exact ⟨rfl, rfl⟩
/-- It yields the filled rows in their order, or a part of them. -/
theorem filled_stops (n : Nat) (hn : 1 ≤ n) (Bs n₀ : Nat) (A : Option Addr) (c : Nat) (vs : List VR) (fp : List Nat) (hfp : ∀ b ∈ fp, b < n₀) (w : World) (hBs : Bs < w.heap.size) (hn₀ : n₀ ≤ w.heap.size)
    (hc : w.cell? ⟨Bs, 0, none⟩ = some (.slice A vs.length c)) (ha : Rd w 4 (.slice A vs.length c) (rcs (valV vs)) fp) :
    SeqStopsK Fence.wide n Tryz.prog 101 #[.pointer (some ⟨Bs, 0, none⟩)] (fun x : VR => #[rv x.1]) (Below n₀) (fun ys => ys = solidV vs) (fun pre => pre <+: solidV vs) vs.length w := fun l J Jx W hW hJ _ hY h0 =>
  filled1_in n hn l Bs n₀ A c vs fp hfp J Jx W hJ hY (Nat.le_trans hn₀ hW.size) ((hW.cell (p := ⟨Bs, 0, none⟩) hBs).trans hc) (ha.below' hW) h0

/-- The sum of the sums of rows. -/
def digV (vs : List VR) : Int := vs.foldl (fun n x => addS n (sum8 x.1)) 0
theorem digV_snoc (vs : List VR) (x : VR) : digV (vs ++ [x]) = addS (digV vs) (sum8 x.1) := by simp [digV]
theorem digV_bd (vs : List VR) : 0 ≤ digV vs ∧ digV vs ≤ 65520 := by
  rcases List.eq_nil_or_concat vs with rfl | ⟨t, r, rfl⟩
  · exact ⟨by decide, by decide⟩
  · rw [List.concat_eq_append, digV_snoc]; exact addS_bd _ _
theorem digV_solid (vs : List VR) : digV (solidV vs) = digL (valV vs) := by
  have go : ∀ (vs : List VR) (n : Int), 0 ≤ n → n ≤ 65520 → (solidV vs).foldl (fun n x => addS n (sum8 x.1)) n = (valV vs).foldl (fun n r => addS n (rs8 r)) n := by
    intro vs
    induction vs with
    | nil => intro n _ _; rfl
    | cons x t ih =>
      intro n h0 h1
      have hv : valV (x :: t) = x.1 :: valV t := rfl
      rw [hv, List.foldl_cons]
      unfold solidV at ih ⊢
      rw [List.filter_cons]
      cases he : emptyB x.1
      · rw [if_pos (by rfl), List.foldl_cons, ih _ (addS_bd _ _).1 (addS_bd _ _).2]
        unfold rs8; rw [he]; rfl
      · rw [if_neg (by simp), ih n h0 h1]
        have : addS n (rs8 x.1) = n := by unfold rs8 addS; rw [he]; simp; omega
        rw [this]
  exact go vs 0 (by omega) (by omega)
theorem belowFrom {B : Nat} {W W' : World} (h : Below W.heap.size W W') : KeepsFrom B W W' := ⟨h.size, fun k _ _ hk _ => (h.block k (heap_lt hk)).trans hk⟩
theorem boxed_below {B : Nat} {W W' : World} {t : TypeId} {v : Value} (hb : Boxed W B t v) (h : Below W.heap.size W W') : Boxed W' B t v := (h.block B (heap_lt hb)).trans hb
abbrev rowBox (W : World) (B : Nat) (r : R) : Prop := W.heap[B]? = some (.cells #[.int .i64 r.1, .int .i64 r.2.1, .int .i64 r.2.2.1, .int .i64 r.2.2.2] 40 (0, 0))
theorem rowBox_own {β : Type} (B : Nat) (f : β → R) : Own (fun s W => rowBox W B (f s)) := fun s X Y row hs hg hrow => by
  have hne : some B ≠ row := fun e' => by obtain ⟨o, ho, hc⟩ := hrow B e'.symm; rw [show X.heap[B]? = _ from hs] at ho; cases ho; cases hc
  exact (hg.block B (heap_lt hs) hne).trans hs

set_option maxRecDepth 100000 in
set_option maxHeartbeats 4000000 in
theorem digestRows_c (A : Option Addr) (c : Nat) (rs : List R) (V : Int) (hV : digL rs = V) (w : World) (fp : List Nat) (hv : ∀ x ∈ rs, rowF x = 0) (ha : Rd w 4 (.slice A rs.length c) (rcs rs) fp) :
    Calls Tryz.prog 49 #[.slice A rs.length c] w fun e w' => e = .returned (.int .i64 V) ∧ Below w.heap.size w w' := by
  obtain ⟨vs, rfl⟩ := lift_vr hv
  rw [← digV_solid] at hV
  have HV := Lib.hid hV
  have HLT := Lib.hid ha.lt
  rw [valV_len] at ha ⊢
  have HA := Lib.hid ha
  clear hV hv ha
  refine (callsIn_wide (n := 6)).1 ?_
  refine callsIn_of_wp_marks Tryz.func49 rfl trivial ?_ rfl
  simp only [Tryz.ntmps49, List.size_toArray, List.length_cons, List.length_nil, Nat.reduceAdd, Nat.reduceSub, Array.replicate_succ, Array.replicate_zero, List.push_toArray, List.append_toArray, List.nil_append, List.cons_append]
  gi_wp2_with fail
  refine ⟨trivial, ?_⟩
  refine (callsIn_wide.2 (filledRows_c A vs.length c _)).mono ?_
  rintro e w1 ⟨rfl, rfl⟩
  have bS := (Boxed.new w 2 (.int .i64 0)).alloc (.cells #[.slice A vs.length c] 24)
  have bI := Boxed.new (w.alloc (.cells #[.int .i64 0] 2)) 24 (.slice A vs.length c)
  have hB0 : Below w.heap.size w ((w.alloc (.cells #[.int .i64 0] 2)).alloc (.cells #[.slice A vs.length c] 24)) := below_more (below_new _) _
  have hsz : ((w.alloc (.cells #[.int .i64 0] 2)).alloc (.cells #[.slice A vs.length c] 24)).heap.size = w.heap.size + 2 := by simp
  simp only [World.size_alloc] at bI
  gi_wp2_with fail
  obtain ⟨W0, hW0⟩ : ∃ W0, (w.alloc (.cells #[.int .i64 0] 2)).alloc (.cells #[.slice A vs.length c] 24) = W0 := ⟨_, rfl⟩
  rw [hW0] at bS bI hB0 hsz ⊢
  clear hW0
  have BS := Lib.hid bS; have BI := Lib.hid bI; have HB0 := Lib.hid hB0; have HSZ := Lib.hid hsz
  have hzw : w.heap.size + 1 < W0.heap.size := by omega
  clear bS bI hB0 hsz
  refine wpIn_rangeFunc_ownH rfl (by omega) (gf := 101) (lb := #[.pointer (some ⟨w.heap.size + 1, 0, none⟩)]) rfl trivial (enters_of Tryz.func101 (by kernel_rfl) rfl)
    (filled_stops (6 - 1) (by omega) (w.heap.size + 1) w.heap.size A c vs fp HLT.out W0 hzw (by omega) BI.out.cell (HA.out.below' HB0.out)) belowK_t (belowK_b (by omega)) (Below.refl _ _) (fun _ => rfl)
    (fun pre W => Boxed W w.heap.size 2 (.int .i64 (digV pre)) ∧ Below w.heap.size w W)
    (fun _ _ _ => False)
    (OwnFrom.and (Own.from (boxed_own _ _ _) _) (ownFrom_below (Nat.le_refl _) (by omega)))
    (fun _ _ _ _ _ hs _ _ => hs)
    ⟨BS.out, HB0.out⟩
    (fun x a' W => ∃ Bx, w.heap.size < Bx ∧ rowBox W Bx x.1 ∧ a' = { tmps := #[.slice A vs.length c, undef, .int .i64 0, .pointer (some ⟨w.heap.size, 0, none⟩), .pointer (some ⟨Bx, 0, none⟩), .slice A vs.length c, .func (.func 101) #[] #[.pointer (some ⟨w.heap.size + 1, 0, none⟩)], rv x.1, undef, undef, undef, undef, undef], defers := [] })
    (fun x a' _ X Y row hs hg hr => by obtain ⟨Bx, h1, h2, h3⟩ := hs; exact ⟨Bx, h1, rowBox_own Bx (fun (_ : Unit) => x.1) () X Y row h2 hg (fun r e => (hr r e).2), h3⟩)
    ?assign ?body ?done ?stop
  case assign =>
    rintro l pre x W K ⟨bS1, hB1⟩ hK
    have HB1 := Lib.hid hB1; have BS1 := Lib.hid bS1
    have hlt : w.heap.size < W.heap.size := bS1.lt
    clear hB1 bS1
    gi_wp2
    exact hK _ _ (belowFrom (below_new _)) ((below_new _).mono (Nat.le_of_lt hlt)) ⟨boxed_below BS1.out (below_new _), HB1.out.alloc (Nat.le_of_lt hlt) _⟩ ⟨W.heap.size, hlt, heap_new W _ rfl, rfl⟩
  case body =>
    rintro l pre x a' W hl _ ⟨bS1, hB1⟩ ⟨Bx, hBx, bX, rfl⟩ hlt
    have hnx : Bx ≠ w.heap.size := by omega
    have hsn := digV_snoc pre x
    obtain ⟨d0, d1⟩ := digV_bd pre
    obtain ⟨q0, q1⟩ := sum8_bd x.1
    generalize hq : sum8 x.1 = q at *
    generalize hd : digV pre = d at *
    have HQ := Lib.hid hq; have HSN := Lib.hid hsn; have HB1 := Lib.hid hB1; have BS1 := Lib.hid bS1
    have hsz := bS1.lt
    have cS := bS1.cell; have fS := bS1.frozen
    obtain ⟨k0, k1, k2, k3, _, _, _, _, hzk⟩ := four_at bX
    have hmx : Tryz.prog.follows .mixedOrders = true := by kernel_rfl
    clear hq hd hsn hB1 bS1 bX
    gi_wp2
    gi_region_with_o (first
      | (refine ⟨trivial, ?_⟩
         gi_at_call 51
         refine (CallsIn.inRound l (callsIn_wide.2 (filledSum_c x.1 q HQ.out _ x.2))).mono ?_
         rintro e w2 ⟨rfl, hb2⟩
         have cS2 := (hb2.cell (p := ⟨w.heap.size, 0, none⟩) hsz).trans cS
         have fS2 := (hb2.frozen (p := ⟨w.heap.size, 0, none⟩) hsz).trans fS)
      | (refine ⟨trivial, ?_⟩
         gi_at_call 55
         refine (CallsIn.inRound l (callsIn_wide.2 (addSums_c d q _ d0 d1 q0 q1))).mono ?_
         rintro e w3 ⟨rfl, rfl⟩))
    all_goals gi_wp2
    all_goals (try go_bits)
    all_goals
      have hB2 : Below W.heap.size W w2 := (Below.refl _ W).drew.trans hb2
      exact ⟨(belowFrom hB2).trans ((KeepsOthers.setCell _ _ _).from _), (hB2.mono (Nat.le_of_lt hsz)).setCell (p := ⟨w.heap.size, 0, none⟩) (Nat.le_refl _) _, by rw [HSN.out]; exact (boxed_below BS1.out hB2).set _, (HB1.out.trans (hB2.mono (Nat.le_of_lt hsz))).setCell (p := ⟨w.heap.size, 0, none⟩) (Nat.le_refl _) _⟩
  case done =>
    rintro D zs W hD rfl ⟨bS1, hB1⟩ hK
    rw [HV.out] at bS1
    have cS := bS1.cell
    gi_wp2
    refine ⟨by simp, .inl ⟨_, _, rfl, run_takeDeferred hK, ?_⟩⟩
    exact ⟨_, results_tmp rfl _ _ _, rfl, hB1.trans (belowK_b (w := w) (Nat.le_refl _) W D _ _ (by omega) hK rfl rfl)⟩
  case stop =>
    rintro D c pre W _ _ h _
    exact h.elim

theorem valV_solid (vs : List VR) : valV (solidV vs) = (valV vs).filter fun r => !emptyB r := by
  unfold valV solidV
  rw [List.filter_map]
  rfl
theorem find_lack (vs : List VR) (b : List R) : (valV vs).find? (lackB b) = (valV (solidV vs)).find? fun r => !b.contains r := by
  rw [valV_solid, List.find?_filter]
  congr 1
  funext r
  unfold lackB
  rw [Bool.decide_and]
  simp
theorem lwK_hit {vs : List VR} {b : List R} {ini : List VR} {x : VR} (hp : ini ++ [x] <+: solidV vs) (hi : ∀ y ∈ ini, y.1 ∈ b) (hx : x.1 ∉ b) : lwK (valV vs) b = keyR x.1 := by
  obtain ⟨rest, hr⟩ := hp
  have e : (valV vs).find? (lackB b) = some x.1 := by
    rw [find_lack, ← hr]
    unfold valV
    rw [List.map_append, List.map_append, List.find?_append, List.find?_append]
    have h1 : (ini.map Subtype.val).find? (fun r => !b.contains r) = none := by
      rw [List.find?_eq_none]
      intro r hr
      obtain ⟨y, hy, rfl⟩ := List.mem_map.1 hr
      simpa using hi y hy
    rw [h1]
    have h2 : (!b.contains x.1) = true := by simpa using hx
    simp [hx]
  unfold lwK
  rw [e]
theorem lwK_none {vs : List VR} {b : List R} (hi : ∀ y ∈ solidV vs, y.1 ∈ b) : lwK (valV vs) b = 84 := by
  have e : (valV vs).find? (lackB b) = none := by
    rw [find_lack, List.find?_eq_none]
    intro r hr
    obtain ⟨y, hy, rfl⟩ := List.mem_map.1 hr
    simpa using hi y hy
  unfold lwK
  rw [e]
/-- How the loop may be left. -/
def LackAt (b : List R) (B : Nat) (pre : List VR) (W : World) : Prop := ∃ (ini : List VR) (x : VR), pre = ini ++ [x] ∧ (∀ y ∈ ini, y.1 ∈ b) ∧ x.1 ∉ b ∧ Boxed W B 2 (.int .i64 (keyR x.1))
theorem lackAt_own (b : List R) (B : Nat) : Own (LackAt b B) := fun s X Y row hs hg hr => by
  obtain ⟨ini, x, h1, h2, h3, h4⟩ := hs
  exact ⟨ini, x, h1, h2, h3, boxed_own B 2 (fun (_ : Unit) => .int .i64 (keyR x.1)) () X Y row h4 hg hr⟩
def AllIn (b : List R) (vs : List VR) : Prop := ∀ y ∈ vs, y.1 ∈ b

set_option maxRecDepth 100000 in
set_option maxHeartbeats 8000000 in
theorem leastWithout_c (A : Option Addr) (c : Nat) (rs : List R) (B : Option Addr) (d : Nat) (b : List R) (V : Int) (hV : lwK rs b = V) (w : World) (fp fq : List Nat) (hv : ∀ x ∈ rs, rowF x = 0) (ha : Rd w 4 (.slice A rs.length c) (rcs rs) fp) (hb : Rd w 4 (.slice B b.length d) (rcs b) fq) :
    Calls Tryz.prog 35 #[.slice A rs.length c, .slice B b.length d] w fun e w' => e = .returned (.int .i64 V) ∧ Below w.heap.size w w' := by
  obtain ⟨vs, rfl⟩ := lift_vr hv
  have HV := Lib.hid hV
  have HLT := Lib.hid ha.lt
  rw [valV_len] at ha ⊢
  have HA := Lib.hid ha; have HBB := Lib.hid hb
  clear hV hv ha hb
  refine (callsIn_wide (n := 6)).1 ?_
  refine callsIn_of_wp_marks Tryz.func35 rfl trivial ?_ rfl
  simp only [Tryz.ntmps35, List.size_toArray, List.length_cons, List.length_nil, Nat.reduceAdd, Nat.reduceSub, Array.replicate_succ, Array.replicate_zero, List.push_toArray, List.append_toArray, List.nil_append, List.cons_append]
  gi_wp2_with fail
  refine ⟨trivial, ?_⟩
  refine (callsIn_wide.2 (filledRows_c A vs.length c _)).mono ?_
  rintro e w1 ⟨rfl, rfl⟩
  have bO := ((Boxed.new w 24 (.slice B b.length d)).alloc (.cells #[.int .i64 0] 2)).alloc (.cells #[.slice A vs.length c] 24)
  have bS := (Boxed.new (w.alloc (.cells #[.slice B b.length d] 24)) 2 (.int .i64 0)).alloc (.cells #[.slice A vs.length c] 24)
  have bI := Boxed.new ((w.alloc (.cells #[.slice B b.length d] 24)).alloc (.cells #[.int .i64 0] 2)) 24 (.slice A vs.length c)
  have hB0 : Below w.heap.size w (((w.alloc (.cells #[.slice B b.length d] 24)).alloc (.cells #[.int .i64 0] 2)).alloc (.cells #[.slice A vs.length c] 24)) := below_more (below_more (below_new _) _) _
  have hsz : (((w.alloc (.cells #[.slice B b.length d] 24)).alloc (.cells #[.int .i64 0] 2)).alloc (.cells #[.slice A vs.length c] 24)).heap.size = w.heap.size + 3 := by simp
  simp only [World.size_alloc] at bI bS
  gi_wp2_with fail
  obtain ⟨W0, hW0⟩ : ∃ W0, ((w.alloc (.cells #[.slice B b.length d] 24)).alloc (.cells #[.int .i64 0] 2)).alloc (.cells #[.slice A vs.length c] 24) = W0 := ⟨_, rfl⟩
  rw [hW0] at bO bS bI hB0 hsz ⊢
  clear hW0
  have BO := Lib.hid bO; have BS := Lib.hid bS; have BI := Lib.hid bI; have HB0 := Lib.hid hB0; have HSZ := Lib.hid hsz
  have hzw : w.heap.size + 1 + 1 < W0.heap.size := by omega
  clear bO bS bI hB0 hsz
  refine wpIn_rangeFunc_ownH rfl (by omega) (gf := 101) (lb := #[.pointer (some ⟨w.heap.size + 1 + 1, 0, none⟩)]) rfl trivial (enters_of Tryz.func101 (by kernel_rfl) rfl)
    (filled_stops (6 - 1) (by omega) (w.heap.size + 1 + 1) w.heap.size A c vs fp HLT.out W0 hzw (by omega) BI.out.cell (HA.out.below' HB0.out)) belowK_t (belowK_b (by omega)) (Below.refl _ _) (fun _ => rfl)
    (fun pre W => (AllIn b pre ∧ Boxed W w.heap.size 24 (.slice B b.length d) ∧ ∃ z : Int, Boxed W (w.heap.size + 1) 2 (.int .i64 z)) ∧ Below w.heap.size w W)
    (fun cd pre W => (cd = .ret ∧ LackAt b (w.heap.size + 1) pre W) ∧ Below w.heap.size w W)
    (OwnFrom.and (Own.from (fun s X Y row hs hg hr => ⟨hs.1, boxed_own w.heap.size 24 (fun (_ : Unit) => .slice B b.length d) () X Y row hs.2.1 hg hr, by obtain ⟨z, hz⟩ := hs.2.2; exact ⟨z, boxed_own (w.heap.size + 1) 2 (fun (_ : Unit) => .int .i64 z) () X Y row hz hg hr⟩⟩) _) (ownFrom_below (Nat.le_refl _) (by omega)))
    (fun cd => OwnFrom.and (Own.from (fun s X Y row hs hg hr => ⟨hs.1, lackAt_own b (w.heap.size + 1) s X Y row hs.2 hg hr⟩) _) (ownFrom_below (Nat.le_refl _) (by omega)))
    ⟨⟨(fun y hy => by cases hy), BO.out, 0, BS.out⟩, HB0.out⟩
    (fun x a' W => ∃ Bx, w.heap.size + 1 < Bx ∧ rowBox W Bx x.1 ∧ a' = { tmps := #[.slice A vs.length c, .slice B b.length d, undef, .pointer (some ⟨w.heap.size, 0, none⟩), .pointer (some ⟨w.heap.size + 1, 0, none⟩), .pointer (some ⟨Bx, 0, none⟩), .slice A vs.length c, .func (.func 101) #[] #[.pointer (some ⟨w.heap.size + 1 + 1, 0, none⟩)], rv x.1, undef, undef, undef, undef, undef, undef], defers := [] })
    (fun x a' _ X Y row hs hg hr => by obtain ⟨Bx, h1, h2, h3⟩ := hs; exact ⟨Bx, h1, rowBox_own Bx (fun (_ : Unit) => x.1) () X Y row h2 hg (fun r e => (hr r e).2), h3⟩)
    ?assign ?body ?done ?stop
  case assign =>
    rintro l pre x W K ⟨⟨hall, bO1, z, bS1⟩, hB1⟩ hK
    have HB1 := Lib.hid hB1; have BO1 := Lib.hid bO1; have BS1 := Lib.hid bS1; have HALL := Lib.hid hall
    have hlt : w.heap.size + 1 < W.heap.size := bS1.lt
    clear hB1 bS1 bO1 hall
    gi_wp2
    exact hK _ _ (belowFrom (below_new _)) ((below_new _).mono (by omega)) ⟨⟨HALL.out, boxed_below BO1.out (below_new _), z, boxed_below BS1.out (below_new _)⟩, HB1.out.alloc (by omega) _⟩ ⟨W.heap.size, hlt, heap_new W _ rfl, rfl⟩
  case body =>
    rintro l pre x a' W hl _ ⟨⟨hall, bO1, z, bS1⟩, hB1⟩ ⟨Bx, hBx, bX, rfl⟩ hlt
    have hsz := bS1.lt
    have hszo := bO1.lt
    have cO := bO1.cell
    have HALL := Lib.hid hall; have HB1 := Lib.hid hB1; have BO1 := Lib.hid bO1; have BS1 := Lib.hid bS1; have HBX := Lib.hid bX
    have hbW : Rd W 4 (.slice B b.length d) (rcs b) fq := HBB.out.below' hB1
    have HBW := Lib.hid hbW
    obtain ⟨k0, k1, k2, k3, _, _, _, _, hzk⟩ := four_at bX
    clear hall hB1 bO1 bS1 bX hbW
    by_cases hm : x.1 ∈ b
    · have HD := Lib.hid (decide_eq_true hm); have HM := Lib.hid hm
      clear hm
      gi_wp2_with fail
      refine ⟨trivial, ?_⟩
      refine (CallsIn.inRound l (callsIn_wide.2 (rowContains_c B d b x.1 true HD.out _ fq HBW.out))).mono ?_
      rintro e w2 ⟨rfl, hb2⟩
      have HB2 := Lib.hid hb2
      clear hb2
      gi_wp2
      exact ⟨belowFrom HB2.out, HB2.out.mono (by omega), ⟨(fun y hy => by
        rcases List.mem_append.1 hy with hy | hy
        · exact HALL.out y hy
        · simp at hy; subst hy; exact HM.out), boxed_below BO1.out HB2.out, z, boxed_below BS1.out HB2.out⟩, HB1.out.trans (HB2.out.mono (by omega))⟩
    · have HD := Lib.hid (decide_eq_false hm); have HM := Lib.hid hm
      clear hm
      gi_wp2_with fail
      refine ⟨trivial, ?_⟩
      refine (CallsIn.inRound l (callsIn_wide.2 (rowContains_c B d b x.1 false HD.out _ fq HBW.out))).mono ?_
      rintro e w2 ⟨rfl, hb2⟩
      have HB2 := Lib.hid hb2
      have HX2 := Lib.hid ((hb2.block _ (heap_lt HBX.out)).trans HBX.out)
      have HBS2 := Lib.hid (boxed_below BS1.out hb2)
      clear hb2 k0 k1 k2 k3 hzk cO
      obtain ⟨k0, k1, k2, k3, _, _, _, _, hzk⟩ := four_at HX2.out
      gi_wp2_with fail
      refine ⟨trivial, ?_⟩
      refine (CallsIn.inRound l (callsIn_wide.2 (rowKey_b x.1 _ (fit_of_rowF x.2)))).mono ?_
      rintro e w3 ⟨rfl, hb3⟩
      have HB3 := Lib.hid (HB2.out.trans (hb3.mono HB2.out.size))
      have HBS3 := Lib.hid (boxed_below HBS2.out hb3)
      have cS := HBS3.out.cell; have fS := HBS3.out.frozen
      clear hb3 k0 k1 k2 k3 hzk HBS2 HX2
      gi_wp2
      exact ⟨(belowFrom HB3.out).trans ((KeepsOthers.setCell _ _ _).from _), ⟨rfl, pre, x, rfl, HALL.out, HM.out, HBS3.out.set _⟩, (HB1.out.trans (HB3.out.mono (by omega))).setCell (p := ⟨w.heap.size + 1, 0, none⟩) (by simp) _⟩
  case done =>
    rintro D zs W hD rfl ⟨⟨hall, bO1, z, bS1⟩, hB1⟩ hK
    have hv84 : V = 84 := by rw [← HV.out]; exact lwK_none hall
    have H84 := Lib.hid hv84
    have cS := bS1.cell; have fS := bS1.frozen
    have BS1 := Lib.hid bS1; have HB1 := Lib.hid hB1; have HK := Lib.hid hK
    clear hv84 hall bO1 bS1 hB1
    gi_wp2
    have hK' := (KeepsOthers.setCell W ⟨w.heap.size + 1, 0, none⟩ (.int .i64 84)).same D _ HK.out rfl
    refine ⟨by simp, .inl ⟨_, _, rfl, run_takeDeferred hK', ?_⟩⟩
    have hc5 := cell_kept (BS1.out.set (.int .i64 84)).cell (grownBy_putObj' _ D (.deferred none)) (fun r e => by cases e; exact ⟨_, hK', rfl⟩)
    refine ⟨.int .i64 84, ?_, by rw [H84.out], (HB1.out.setCell (p := ⟨w.heap.size + 1, 0, none⟩) (by simp) _).trans (belowK_b (w := w) (Nat.le_refl _) _ D _ _ (by omega) hK' rfl rfl)⟩
    simp [results, Tryz.f35, go_sem, hc5]
  case stop =>
    rintro D cd pre W hD hpre ⟨⟨rfl, ini, x, rfl, hi, hx, bS1⟩, hB1⟩ hK
    have hvk : V = keyR x.1 := by rw [← HV.out]; exact lwK_hit hpre hi hx
    have HVK := Lib.hid hvk
    have HB1 := Lib.hid hB1; have HK := Lib.hid hK; have BS1 := Lib.hid bS1
    clear hvk hpre hi hx hB1 bS1
    gi_wp2
    refine ⟨by simp, .inl ⟨_, _, rfl, run_takeDeferred HK.out, ?_⟩⟩
    have hc5 := cell_kept BS1.out.cell (grownBy_putObj' _ D (.deferred none)) (fun r e => by cases e; exact ⟨_, HK.out, rfl⟩)
    refine ⟨.int .i64 (keyR x.1), ?_, by rw [HVK.out], HB1.out.trans (belowK_b (w := w) (Nat.le_refl _) W D _ _ (by omega) HK.out rfl rfl)⟩
    simp [results, Tryz.f35, go_sem, hc5]
end Go.Proofs.YtldimfmhbdhbnaaGreat

/-
  The program's functions of chapter 8, second part: RowSum, AddDigest, DigestOf, RangeDigest, DifferAt.
-/
namespace Go.Proofs.YtldimfmhbdhbnaaGreat
open Go.RowKit

def AskRowSum : Prop := ∀ (r : R) (w : World), WfR r → Calls Tryz.prog 17 #[rv r] w fun e w' => e = .returned (pairV (rsP r)) ∧ Below w.heap.size w w'
def AskAddDigest : Prop := ∀ (a b : Int) (w : World), (Lit.int .i64 a).wf = true → (Lit.int .i64 b).wf = true → Calls Tryz.prog 19 #[.int .i64 a, .int .i64 b] w fun e w' => e = .returned (pairV (adP a b)) ∧ Below w.heap.size w w'
def AskDigestOf : Prop := ∀ (A : Option Addr) (c : Nat) (rs : List R) (w : World) (fp : List Nat), rs.length ≤ 1048576 → (∀ r ∈ rs, WfR r) → Rd w 4 (.slice A rs.length c) (rcs rs) fp →
  Calls Tryz.prog 16 #[.slice A rs.length c] w fun e w' => e = .returned (pairV (dgP rs)) ∧ Below w.heap.size w w'
def AskRangeDigest : Prop := ∀ (A : Option Addr) (c : Nat) (rs : List R) (f t : Int) (w : World) (fp : List Nat), rs.length ≤ 1048576 → (∀ r ∈ rs, WfR r) → (Lit.int .i64 f).wf = true → (Lit.int .i64 t).wf = true → Rd w 4 (.slice A rs.length c) (rcs rs) fp →
  Calls Tryz.prog 6 #[.slice A rs.length c, .int .i64 f, .int .i64 t] w fun e w' => e = .returned (pairV (rdP rs f t)) ∧ Below w.heap.size w w'
def AskDifferAt : Prop := ∀ (A B : Option Addr) (c d : Nat) (a b : List R) (w : World) (fp fq : List Nat), a.length ≤ 1048576 → b.length ≤ 1048576 → (∀ r ∈ a, WfR r) → (∀ r ∈ b, WfR r) → Rd w 4 (.slice A a.length c) (rcs a) fp → Rd w 4 (.slice B b.length d) (rcs b) fq →
  Calls Tryz.prog 9 #[.slice A a.length c, .slice B b.length d] w fun e w' => e = .returned (pairV (dfP a b)) ∧ Below w.heap.size w w'

abbrev rbx (r : R) : Obj := .cells #[.int .i64 r.1, .int .i64 r.2.1, .int .i64 r.2.2.1, .int .i64 r.2.2.2] 40
abbrev ibx : Obj := .cells #[.int .i64 0, .int .i64 0] 28
theorem emptyRow_b (r : R) (b : Bool) (hb : emptyB r = b) (w : World) : Calls Tryz.prog 50 #[rv r] w fun e w' => e = .returned (.bool b) ∧ Below w.heap.size w w' :=
  (isEmptyRow_b r b hb w).mono fun _ _ ⟨he, hw⟩ => ⟨he, hw ▸ below_new _⟩

set_option maxRecDepth 100000 in
set_option maxHeartbeats 2000000 in
theorem implRowSum_a : AskRowSum := by
  intro r w hwf
  have HB0 := Lib.hid (below_more (below_new (w := w) (rbx r)) ibx)
  have HK := Lib.hid (heap_old (o' := ibx) (heap_new w (rbx r) rfl))
  have HZ := Lib.hid (heap_new (w.alloc (rbx r)) ibx (g := w.heap.size + 1) (by simp))
  have hbz : w.heap.size < ((w.alloc (rbx r)).alloc ibx).heap.size := by simp; omega
  have HWF := Lib.hid hwf
  clear hwf
  by_cases hv : rowF r = 0
  case neg =>
    have e : rsP r = (rowF r, 0) := by unfold rsP; rw [if_neg hv]
    rw [e]
    generalize hF : rowF r = F at *
    have HF := Lib.hid hF
    have t1 : (F != 0) = true := by simpa using hv
    clear hF e hv
    go_enter Tryz.func17, Tryz.ntmps17
    obtain ⟨k0, k1, k2, k3, _, _, _, _, hzk⟩ := four_at HK.out
    go_wp2_with fail
    generalize (w.alloc (rbx r)).alloc ibx = W at *
    refine (implRowFault_a r W HWF.out).mono ?_
    rw [HF.out]
    rintro e w1 ⟨rfl, hb1⟩
    have HB1 := Lib.hid (HB0.out.trans (hb1.mono HB0.out.size))
    obtain ⟨z0, z1, y0, y1, hzz⟩ := two_at ((hb1.block _ (heap_lt HZ.out)).trans HZ.out)
    clear hb1 k0 k1 k2 k3 hzk
    go_wp2_with fail
    refine bodyPost_ret (v := pairV (F, 0)) (by simp [results, Tryz.results17, go_sem, z0, z1]) rfl ⟨rfl, ?_⟩
    exact HB1.out.trans ((But.two _ (w.heap.size + 1) 0 1 _ _).below HB1.out.size (by intro x hx; simp at hx; omega))
  cases he : emptyB r
  all_goals
    have HF := Lib.hid hv; have HE := Lib.hid he
    have e : rsP r = (0, rs8 r) := by unfold rsP; rw [if_pos hv]
    have hq : rs8 r = if emptyB r then 0 else sum8 r := rfl
    rw [he] at hq
    rw [e]
    generalize rs8 r = q at *
    have HQ := Lib.hid hq
    clear he hv e hq
    go_enter Tryz.func17, Tryz.ntmps17
    obtain ⟨k0, k1, k2, k3, _, _, _, _, hzk⟩ := four_at HK.out
    go_wp2_with fail
    generalize (w.alloc (rbx r)).alloc ibx = W at *
    refine (implRowFault_a r W HWF.out).mono ?_
    rw [HF.out]
    rintro e w1 ⟨rfl, hb1⟩
    have HB1 := Lib.hid (HB0.out.trans (hb1.mono HB0.out.size))
    have HK1 := Lib.hid ((hb1.block _ (heap_lt HK.out)).trans HK.out)
    have HZ1 := Lib.hid ((hb1.block _ (heap_lt HZ.out)).trans HZ.out)
    clear hb1 k0 k1 k2 k3 hzk
    obtain ⟨k0, k1, k2, k3, _, _, _, _, hzk⟩ := four_at HK1.out
    go_wp2_with fail
    refine (emptyRow_b r _ HE.out w1).mono ?_
    rintro e w2 ⟨rfl, hb2⟩
    have HB2 := Lib.hid (HB1.out.trans (hb2.mono HB1.out.size))
    have HK2 := Lib.hid ((hb2.block _ (heap_lt HK1.out)).trans HK1.out)
    have HZ2 := Lib.hid ((hb2.block _ (heap_lt HZ1.out)).trans HZ1.out)
    clear hb2 k0 k1 k2 k3 hzk
  · have hq : sum8 r = q := HQ.out.symm
    replace HQ := Lib.hid hq
    clear hq
    obtain ⟨k0, k1, k2, k3, _, _, _, _, hzk⟩ := four_at HK2.out
    go_wp2_with fail
    refine (filledSum_c r q HQ.out w2 HF.out).mono ?_
    rintro e w3 ⟨rfl, hb3⟩
    have HB3 := Lib.hid (HB2.out.trans (hb3.mono HB2.out.size))
    obtain ⟨z0, z1, y0, y1, hzz⟩ := two_at ((hb3.block _ (heap_lt HZ2.out)).trans HZ2.out)
    clear hb3 k0 k1 k2 k3 hzk
    go_wp2_with fail
    refine bodyPost_ret (v := pairV (0, q)) (by simp [results, Tryz.results17, go_sem, z0, z1]) rfl ⟨rfl, ?_⟩
    exact HB3.out.trans ((But.two _ (w.heap.size + 1) 0 1 _ _).below HB3.out.size (by intro x hx; simp at hx; omega))
  · have hq : q = 0 := HQ.out
    replace HQ := Lib.hid hq
    clear hq
    obtain ⟨z0, z1, y0, y1, hzz⟩ := two_at HZ2.out
    go_wp2_with fail
    refine bodyPost_ret (v := pairV (0, 0)) (by simp [results, Tryz.results17, go_sem, z0, z1]) rfl ⟨by rw [HQ.out], ?_⟩
    exact HB2.out.trans ((But.two _ (w.heap.size + 1) 0 1 _ _).below HB2.out.size (by intro x hx; simp at hx; omega))

set_option maxRecDepth 100000 in
set_option maxHeartbeats 2000000 in
theorem implAddDigest_a : AskAddDigest := by
  intro a b w _ _
  cases h1 : inB a 0 65520
  · have e : adP a b = (3, 0) := by simp [adP, h1]
    rw [e]
    have H1 := Lib.hid h1; clear h1 e
    go_enter Tryz.func19, Tryz.ntmps19
    go_wp2_with fail
    refine (isSum_b _ _ H1.out _).mono ?_
    rintro e w1 ⟨rfl, rfl⟩
    go_wp2_with fail
    exact bodyPost_ret (v := pairV (3, 0)) (by simp [results, Tryz.results19, go_sem]) rfl ⟨rfl, below_new _⟩
  cases h2 : inB b 0 65520
  · have e : adP a b = (3, 0) := by simp [adP, h1, h2]
    rw [e]
    have H1 := Lib.hid h1; have H2 := Lib.hid h2; clear h1 h2 e
    go_enter Tryz.func19, Tryz.ntmps19
    go_wp2_with fail
    refine (isSum_b _ _ H1.out _).mono ?_
    rintro e w1 ⟨rfl, rfl⟩
    go_wp2_with fail
    refine (isSum_b _ _ H2.out _).mono ?_
    rintro e w1 ⟨rfl, rfl⟩
    go_wp2_with fail
    exact bodyPost_ret (v := pairV (3, 0)) (by simp [results, Tryz.results19, go_sem]) rfl ⟨rfl, below_new _⟩
  have e : adP a b = (0, addS a b) := by simp [adP, h1, h2]
  rw [e]
  obtain ⟨a0, a1⟩ := inB_true.1 h1
  obtain ⟨b0, b1⟩ := inB_true.1 h2
  have H1 := Lib.hid h1; have H2 := Lib.hid h2; clear h1 h2 e
  go_enter Tryz.func19, Tryz.ntmps19
  go_wp2_with fail
  refine (isSum_b _ _ H1.out _).mono ?_
  rintro e w1 ⟨rfl, rfl⟩
  go_wp2_with fail
  refine (isSum_b _ _ H2.out _).mono ?_
  rintro e w1 ⟨rfl, rfl⟩
  go_wp2_with fail
  refine (addSums_c a b _ a0 a1 b0 b1).mono ?_
  rintro e w1 ⟨rfl, rfl⟩
  go_wp2_with fail
  exact bodyPost_ret (v := pairV (0, addS a b)) (by simp [results, Tryz.results19, go_sem]) rfl ⟨rfl, below_new _⟩

set_option maxRecDepth 100000 in
set_option maxHeartbeats 2000000 in
theorem implDigestOf_a : AskDigestOf := by
  intro A c rs w fp hs hwf ha
  have HB0 := Lib.hid (below_new (w := w) ibx)
  have HZ := Lib.hid (heap_new w ibx rfl)
  have HA := Lib.hid (ha.below' HB0.out); have HWF := Lib.hid hwf
  clear ha hwf
  by_cases hv : rowsF rs = 0
  case neg =>
    have e : dgP rs = (rowsF rs, 0) := by unfold dgP; rw [if_neg hv]
    rw [e]
    generalize hF : rowsF rs = F at *
    have HF := Lib.hid hF
    have t1 : (F != 0) = true := by simpa using hv
    clear hF e hv
    go_enter Tryz.func16, Tryz.ntmps16
    go_wp2_with fail
    refine (implRowsFault_a A c rs _ fp hs HWF.out HA.out).mono ?_
    rw [HF.out]
    rintro e w1 ⟨rfl, hb1⟩
    have HB1 := Lib.hid (HB0.out.trans (hb1.mono HB0.out.size))
    obtain ⟨z0, z1, y0, y1, hzz⟩ := two_at ((hb1.block _ (heap_lt HZ.out)).trans HZ.out)
    clear hb1
    go_wp2_with fail
    refine bodyPost_ret (v := pairV (F, 0)) (by simp [results, Tryz.results16, go_sem, z0, z1]) rfl ⟨rfl, ?_⟩
    exact below_set (below_set HB1.out _ _) _ _
  have e : dgP rs = (0, digL rs) := by unfold dgP; rw [if_pos hv]
  rw [e]
  generalize hV : digL rs = V at *
  have HV := Lib.hid hV; have HF := Lib.hid hv; have HOK := Lib.hid (fun x hx => ((rowsF_rising hv).1.above x hx).1 : ∀ x ∈ rs, rowF x = 0)
  clear hV e hv
  go_enter Tryz.func16, Tryz.ntmps16
  go_wp2_with fail
  refine (implRowsFault_a A c rs _ fp hs HWF.out HA.out).mono ?_
  rw [HF.out]
  rintro e w1 ⟨rfl, hb1⟩
  have HB1 := Lib.hid (HB0.out.trans (hb1.mono HB0.out.size))
  have HZ1 := Lib.hid ((hb1.block _ (heap_lt HZ.out)).trans HZ.out)
  have HA1 := Lib.hid (HA.out.below' hb1)
  clear hb1
  go_wp2_with fail
  refine (digestRows_c A c rs V HV.out w1 fp HOK.out HA1.out).mono ?_
  rintro e w2 ⟨rfl, hb2⟩
  have HB2 := Lib.hid (HB1.out.trans (hb2.mono HB1.out.size))
  obtain ⟨z0, z1, y0, y1, hzz⟩ := two_at ((hb2.block _ (heap_lt HZ1.out)).trans HZ1.out)
  clear hb2
  go_wp2_with fail
  refine bodyPost_ret (v := pairV (0, V)) (by simp [results, Tryz.results16, go_sem, z0, z1]) rfl ⟨rfl, ?_⟩
  exact below_set (below_set HB2.out _ _) _ _

set_option maxRecDepth 100000 in
set_option maxHeartbeats 2000000 in
theorem implRangeDigest_a : AskRangeDigest := by
  intro A c rs f t w fp hs hwf wf wt ha
  have HB0 := Lib.hid (below_new (w := w) ibx)
  have HZ := Lib.hid (heap_new w ibx rfl)
  have HA := Lib.hid (ha.below' HB0.out); have HWF := Lib.hid hwf
  clear ha hwf
  have hcut := implCutRows_a A c rs f t _ fp hs HWF.out wf wt HA.out
  have hrd : rdP rs f t = if crC rs f t = 0 then (0, digL (crL rs f t)) else (crC rs f t, 0) := rfl
  have hok : crC rs f t = 0 → rowsF (crL rs f t) = 0 := fun h => by
    unfold crL
    rw [if_pos h]
    unfold crC at h
    split at h
    · rename_i h1; exact absurd h h1
    · rename_i h1; exact cut_right (by simpa using h1)
  generalize hC : crC rs f t = C at *
  generalize crL rs f t = L at *
  generalize rdP rs f t = Q at *
  have HC := Lib.hid hcut; have HRD := Lib.hid hrd; have HOK := Lib.hid hok
  clear hcut hrd hok hC
  go_enter Tryz.func6, Tryz.ntmps6
  go_wp2_with fail
  refine HC.out.mono ?_
  rintro e w1 ⟨_, rfl, ⟨v1, f1, rfl, hr1, _, _⟩, hb1⟩
  obtain ⟨A1, c1, hv1⟩ := hr1.rows_form
  subst hv1
  have HB1 := Lib.hid (HB0.out.trans (hb1.mono HB0.out.size))
  have HZ1 := Lib.hid (heap_old (o' := .cells #[.int .i64 C, .slice A1 L.length c1] 56) ((hb1.block _ (heap_lt HZ.out)).trans HZ.out))
  have HK1 := Lib.hid (heap_new w1 (.cells #[.int .i64 C, .slice A1 L.length c1] 56) rfl)
  have HR1 := Lib.hid (hr1.alloc (.cells #[.int .i64 C, .slice A1 L.length c1] 56))
  have HE1 := Lib.hid (below_more HB1.out (.cells #[.int .i64 C, .slice A1 L.length c1] 56))
  clear hb1 hr1
  obtain ⟨k0, k1, _, _, hzk⟩ := two_at HK1.out
  by_cases h0 : C = 0
  case neg =>
    have hq : Q = (C, 0) := by rw [HRD.out, if_neg h0]
    have HQ := Lib.hid hq
    have t1 : (C != 0) = true := by simpa using h0
    clear hq h0
    obtain ⟨z0, z1, y0, y1, hzz⟩ := two_at HZ1.out
    have hw1 := HB1.out.size
    go_wp2_with fail
    refine bodyPost_ret (v := pairV (C, 0)) (by simp [results, Tryz.results6, go_sem, z0, z1]) rfl ⟨by rw [HQ.out], ?_⟩
    exact below_set (below_set HE1.out _ _) _ _
  subst h0
  have hq : Q = (0, digL L) := by rw [HRD.out, if_pos rfl]
  have HQ := Lib.hid hq; have HL0 := Lib.hid (HOK.out rfl)
  clear hq HOK HRD
  go_wp2_with fail
  have hlen : L.length ≤ 1048576 := by have := (rowsF_fits HL0.out).2; omega
  refine (implDigestOf_a A1 c1 L _ f1 hlen (fun x hx => wf_of_rowF (((rowsF_rising HL0.out).1.above x hx).1)) HR1.out).mono ?_
  rw [show dgP L = Q by rw [HQ.out]; unfold dgP; rw [if_pos HL0.out]]
  rintro e w2 ⟨rfl, hb2⟩
  have HE2 := Lib.hid (HE1.out.trans (hb2.mono HE1.out.size))
  obtain ⟨z0, z1, y0, y1, hzz⟩ := two_at ((hb2.block _ (heap_lt HZ1.out)).trans HZ1.out)
  clear hb2 k0 k1 hzk
  go_wp2_with fail
  refine bodyPost_ret (v := pairV Q) (by simp [results, Tryz.results6, go_sem, z0, z1]) rfl ⟨rfl, ?_⟩
  exact below_set (below_set HE2.out _ _) _ _

theorem lwK_bd {a b : List R} (ha : rowsF a = 0) : 0 ≤ lwK a b ∧ lwK a b ≤ 84 := by
  rcases lwK_cases a b ha with ⟨h, _⟩ | ⟨x, hx, _, h, _⟩
  · omega
  · have := key_range (fit_mem ha hx); omega

set_option maxRecDepth 100000 in
set_option maxHeartbeats 4000000 in
theorem implDifferAt_a : AskDifferAt := by
  intro A B c d a b w fp fq hsa hsb hwa hwb ha hb
  have HB0 := Lib.hid (below_new (w := w) ibx)
  have HZ := Lib.hid (heap_new w ibx rfl)
  have HA := Lib.hid (ha.below' HB0.out); have HWA := Lib.hid hwa; have HBB := Lib.hid (hb.below' HB0.out); have HWB := Lib.hid hwb
  clear ha hwa hb hwb
  by_cases hva : rowsF a = 0
  case neg =>
    have e : dfP a b = (rowsF a, 0) := by unfold dfP; rw [if_neg hva]
    rw [e]
    generalize hF : rowsF a = F at *
    have HF := Lib.hid hF
    have t1 : (F != 0) = true := by simpa using hva
    clear hF e hva
    go_enter Tryz.func9, Tryz.ntmps9
    go_wp2_with fail
    refine (implRowsFault_a A c a _ fp hsa HWA.out HA.out).mono ?_
    rw [HF.out]
    rintro e w1 ⟨rfl, hb1⟩
    have HB1 := Lib.hid (HB0.out.trans (hb1.mono HB0.out.size))
    obtain ⟨z0, z1, y0, y1, hzz⟩ := two_at ((hb1.block _ (heap_lt HZ.out)).trans HZ.out)
    clear hb1
    go_wp2_with fail
    refine bodyPost_ret (v := pairV (F, 0)) (by simp [results, Tryz.results9, go_sem, z0, z1]) rfl ⟨rfl, ?_⟩
    exact below_set (below_set HB1.out _ _) _ _
  by_cases hvb : rowsF b = 0
  case neg =>
    have e : dfP a b = (rowsF b, 0) := by unfold dfP; rw [if_pos hva, if_neg hvb]
    rw [e]
    generalize hF : rowsF b = F at *
    have HF := Lib.hid hF; have HF0 := Lib.hid hva
    have t1 : (F != 0) = true := by simpa using hvb
    clear hF e hva hvb
    go_enter Tryz.func9, Tryz.ntmps9
    go_wp2_with fail
    refine (implRowsFault_a A c a _ fp hsa HWA.out HA.out).mono ?_
    rw [HF0.out]
    rintro e w1 ⟨rfl, hb1⟩
    have HB1 := Lib.hid (HB0.out.trans (hb1.mono HB0.out.size))
    have HZ1 := Lib.hid ((hb1.block _ (heap_lt HZ.out)).trans HZ.out)
    have HBB1 := Lib.hid (HBB.out.below' hb1)
    clear hb1
    go_wp2_with fail
    refine (implRowsFault_a B d b _ fq hsb HWB.out HBB1.out).mono ?_
    rw [HF.out]
    rintro e w2 ⟨rfl, hb2⟩
    have HB2 := Lib.hid (HB1.out.trans (hb2.mono HB1.out.size))
    obtain ⟨z0, z1, y0, y1, hzz⟩ := two_at ((hb2.block _ (heap_lt HZ1.out)).trans HZ1.out)
    clear hb2
    go_wp2_with fail
    refine bodyPost_ret (v := pairV (F, 0)) (by simp [results, Tryz.results9, go_sem, z0, z1]) rfl ⟨rfl, ?_⟩
    exact below_set (below_set HB2.out _ _) _ _
  have hdf := dfP_right hva hvb
  have hba := lwK_bd (b := b) hva
  have hbb := lwK_bd (b := a) hvb
  have HF0 := Lib.hid hva; have HF1 := Lib.hid hvb
  have HOA := Lib.hid (fun x hx => ((rowsF_rising hva).1.above x hx).1 : ∀ x ∈ a, rowF x = 0)
  have HOB := Lib.hid (fun x hx => ((rowsF_rising hvb).1.above x hx).1 : ∀ x ∈ b, rowF x = 0)
  generalize hm : lwK a b = m at *
  generalize hn : lwK b a = n at *
  generalize dfP a b = Q at *
  obtain ⟨m0, m1⟩ := hba
  obtain ⟨n0, n1⟩ := hbb
  have HM := Lib.hid hm; have HN := Lib.hid hn; have HDF := Lib.hid hdf
  clear hva hvb hm hn hdf
  go_enter Tryz.func9, Tryz.ntmps9
  go_wp2_with fail
  refine (implRowsFault_a A c a _ fp hsa HWA.out HA.out).mono ?_
  rw [HF0.out]
  rintro e w1 ⟨rfl, hb1⟩
  have HB1 := Lib.hid (HB0.out.trans (hb1.mono HB0.out.size))
  have HZ1 := Lib.hid ((hb1.block _ (heap_lt HZ.out)).trans HZ.out)
  have HBB1 := Lib.hid (HBB.out.below' hb1)
  have HA1 := Lib.hid (HA.out.below' hb1)
  clear hb1
  go_wp2_with fail
  refine (implRowsFault_a B d b _ fq hsb HWB.out HBB1.out).mono ?_
  rw [HF1.out]
  rintro e w2 ⟨rfl, hb2⟩
  have HB2 := Lib.hid (HB1.out.trans (hb2.mono HB1.out.size))
  have HZ2 := Lib.hid ((hb2.block _ (heap_lt HZ1.out)).trans HZ1.out)
  have HBB2 := Lib.hid (HBB1.out.below' hb2)
  have HA2 := Lib.hid (HA1.out.below' hb2)
  clear hb2
  go_wp2_with fail
  refine (leastWithout_c A c a B d b m HM.out w2 fp fq HOA.out HA2.out HBB2.out).mono ?_
  rintro e w3 ⟨rfl, hb3⟩
  have HB3 := Lib.hid (HB2.out.trans (hb3.mono HB2.out.size))
  have HZ3 := Lib.hid ((hb3.block _ (heap_lt HZ2.out)).trans HZ2.out)
  have HBB3 := Lib.hid (HBB2.out.below' hb3)
  have HA3 := Lib.hid (HA2.out.below' hb3)
  clear hb3
  go_wp2_with fail
  refine (leastWithout_c B d b A c a n HN.out w3 fq fp HOB.out HBB3.out HA3.out).mono ?_
  rintro e w4 ⟨rfl, hb4⟩
  have HB4 := Lib.hid (HB3.out.trans (hb4.mono HB3.out.size))
  have HZ4 := Lib.hid ((hb4.block _ (heap_lt HZ3.out)).trans HZ3.out)
  clear hb4
  by_cases h84 : min m n = 84
  · have hq : Q = (4, 0) := by rw [HDF.out, if_pos h84]
    have HQ := Lib.hid hq
    obtain rfl : m = 84 := by omega
    obtain rfl : n = 84 := by omega
    obtain ⟨z0, z1, y0, y1, hzz⟩ := two_at HZ4.out
    clear hq h84
    go_wp2_with fail
    refine bodyPost_ret (v := pairV (4, 0)) (by simp [results, Tryz.results9, go_sem, z0, z1]) rfl ⟨by rw [HQ.out], ?_⟩
    exact below_set (below_set HB4.out _ _) _ _
  · have hq : Q = (0, min m n) := by rw [HDF.out, if_neg h84]
    have HQ := Lib.hid hq
    obtain ⟨z0, z1, y0, y1, hzz⟩ := two_at HZ4.out
    clear hq
    go_wp2_with fail
    refine bodyPost_ret (v := pairV (0, min m n)) (by simp [results, Tryz.results9, go_sem, z0, z1]) rfl ⟨by rw [HQ.out], ?_⟩
    exact below_set (below_set HB4.out _ _) _ _
end Go.Proofs.YtldimfmhbdhbnaaGreat
