/-
  The rows that are kept, where the predicate is a method with its receiver bound: by a maker, out of keep_c (Impl2c).
-/
import Derived.Test.YtldimfmhbdhbnaaGreatG27
import Derived.Test.YtldimfmhbdhbnaaGreatModel7
namespace Go.Proofs.YtldimfmhbdhbnaaGreat
open Go.RowKit

/-- The method g, with its receiver, tells of a row that fits whether p holds, and writes nothing that lay in w. -/
def PredMth (g : Nat) (lb : Array Value) (p : R → Bool) (w : World) : Prop :=
  ∀ (W : World) (x : R), Fit x → Below w.heap.size w W → Calls Tryz.prog g (lb ++ #[rv x]) W fun e w' => e = .returned (.bool (p x)) ∧ Below W.heap.size W w'

set_option maxRecDepth 100000 in
set_option maxHeartbeats 2000000 in
theorem keepM_c (g : Nat) (lb : Array Value) (p : R → Bool) (eg : ∀ args w, (callFunc g args).run Tryz.prog w = .ok (.enter g args) w) (A : Option Addr) (c : Nat) (rs : List R) (w : World) (fp : List Nat) (hs : rs.length ≤ 1000000) (hfit : Fits rs) (hp : PredMth g lb p w) (ha : Rd w 4 (.slice A rs.length c) (rcs rs) fp) :
    Calls Tryz.prog 59 #[.slice A rs.length c, .func (.func g) lb #[]] w (RowsPost w (rs.filter p)) := by
  have hlt0 := ha.lt
  have HL := Lib.hid hlt0; clear hlt0
  have HFT := Lib.hid hfit; clear hfit
  have HP := Lib.hid hp; clear hp
  obtain ⟨i0, hi, hz, hsz, hby⟩ := infoRow
  go_enter Tryz.func59, Tryz.ntmps59
  go_wp2
  go_loopw [5, 10] (fun v i wr => ∃ k n : Nat, k ≤ rs.length ∧ n ≤ 1000000 ∧ i = .int .i64 k ∧ wr.ownsRow w.heap.size 40 4 v n (rcs ((rs.take k).filter p)) ∧ Below w.heap.size w wr) (fun _ i _ => rs.length - (intOf i).toNat)
  case atStart => exact ⟨0, 0, Nat.zero_le _, by omega, rfl, World.ownsRow_nil _ _ _ _, Below.refl _ _⟩
  case round =>
    obtain ⟨k, n, hk, hn, rfl, hown, hbel⟩ := hrel
    have hsize := hbel.size
    by_cases hlt : k < rs.length
    · obtain ⟨b, off, hA, _, _, p0, p1, p2, p3⟩ := (ha.below hbel HL.out).row_at hlt
      subst hA
      have hfk := HFT.out k hlt
      have hcs := filter_succ p rs k hlt
      have hrow : ∀ g, u5.ownBlock = some g → w.heap.size ≤ g := fun g hg => own_base' hown hg
      have HR := Lib.hid hrow; clear hrow
      generalize rs[k] = r at *
      have HCS := Lib.hid hcs; clear hcs
      have hown0 := hown.alloc (rbox r)
      have hbel0 := below_more hbel (rbox r)
      have hcall := HP.out (wr.alloc (rbox r)) r hfk hbel0
      have HO0 := Lib.hid hown0; have HB0 := Lib.hid hbel0
      clear hown hbel hown0 hbel0 hfk
      cases hpr : p r
      · rw [hpr] at hcall
        have hcs := HCS.out
        rw [hpr] at hcs
        simp only [Bool.false_eq_true, if_false, List.append_nil] at hcs
        have HC2 := Lib.hid hcs; clear hcs HCS hpr
        go_wp2_with fail
        refine hcall.mono ?_
        rintro e w1 ⟨rfl, hb1⟩
        clear hcall
        have hown3 : w1.ownsRow w.heap.size 40 4 u5 n (rcs ((rs.take (k + 1)).filter p)) := by rw [HC2.out]; exact own_below HO0.out hb1
        have hbel3 : Below w.heap.size w w1 := HB0.out.trans (hb1.mono HB0.out.size)
        have HO := Lib.hid hown3; have HBL := Lib.hid hbel3
        clear hown3 hbel3 hb1 p0 p1 p2 p3
        go_wp2_with fail
        exact ⟨⟨k + 1, n, by omega, hn, by go_num, HO.out, HBL.out⟩, by simp [intOf]; omega⟩
      · rw [hpr] at hcall
        have hcs := HCS.out
        rw [hpr] at hcs
        simp only [if_true] at hcs
        have HC2 := Lib.hid hcs; clear hcs HCS hpr
        go_wp2_with fail
        refine hcall.mono ?_
        rintro e w1 ⟨rfl, hb1⟩
        clear hcall
        have hg1 : w1.heap[wr.heap.size]? = some (rbox r) := (hb1.block _ (by simp)).trans (heap_new wr _ rfl)
        obtain ⟨c0, c1, c2, c3, _, _, _, _, hz1⟩ := four_at hg1
        have hown1 : (w1.alloc (rbox r)).ownsRow w.heap.size 40 4 u5 n (rcs ((rs.take k).filter p)) := (own_below HO0.out hb1).alloc _
        have hbel1 := below_more (HB0.out.trans (hb1.mono HB0.out.size)) (rbox r)
        have HO1 := Lib.hid hown1; have HB1 := Lib.hid hbel1
        clear hown1 hbel1 hg1 hb1 p0 p1 p2 p3
        go_wp2_with (at_builtin; refine wpList_append_own _ rfl _ _ 24 rfl w.heap.size 40 i0 (rv (0, 0, 0, 0)) 4 32 Tryz.underlying24 hi hz hsz hby rfl (by decide) _ _ _ rfl HO1.out ⟨w1.heap.size, 0, none⟩ 1 1 (rc r) rfl rfl ?c1 ?c2 ?c3 ?c4 ?c5 ?_)
        case c1 => exact rc_new (w := w1) r
        case c2 => exact rc_one r
        case c3 => unfold maxLen; omega
        case c4 => omega
        case c5 => have := HB1.out.size; exact this
        intro v' w2 hown2 hgrow _
        have hbel2 := HB1.out.grown hgrow HB1.out.size HR.out
        have hown3 : w2.ownsRow w.heap.size 40 4 v' (n + 1) (rcs ((rs.take (k + 1)).filter p)) := by rw [HC2.out, rcs_append]; exact hown2
        have hln := hown3.1
        rw [rcs_length] at hln
        have hl2 := filter_len p rs (k + 1)
        have hn1 : n + 1 ≤ 1000000 := by omega
        have HO := Lib.hid hown3; have HBL := Lib.hid hbel2
        clear hown2 hown3 hbel2 hgrow hln hl2
        go_wp2_with fail
        exact ⟨⟨k + 1, n + 1, by omega, hn1, by go_num, HO.out, HBL.out⟩, by simp [intOf]; omega⟩
    · obtain rfl : k = rs.length := by omega
      rw [List.take_length] at hown
      obtain ⟨fq, hrv, hnv, hfv⟩ := Rd.of_own hown
      have HB := Lib.hid hbel; have HOW := Lib.hid hown; clear hbel hown
      go_wp2
      go_ret
      exact ⟨_, fq, rfl, hrv, hnv, hfv, HB.out, _, _, Nat.le_refl _, HOW.out⟩
end Go.Proofs.YtldimfmhbdhbnaaGreat

/-
  The program's check that rows fit: with a closure, and with a method whose receiver is bound.
-/
namespace Go.Proofs.YtldimfmhbdhbnaaGreat
open Go.RowKit

set_option maxRecDepth 100000 in
set_option maxHeartbeats 2000000 in
theorem fitFault_c (g : Nat) (lb : Array Value) (p : R → Bool) (eg : ∀ args w, (callFunc g args).run Tryz.prog w = .ok (.enter g args) w) (A : Option Addr) (c : Nat) (rs : List R) (w : World) (fp : List Nat) (hs : rs.length ≤ 1048576) (hwf : ∀ r ∈ rs, WfR r) (hp : rowsF rs = 0 → PredRow g lb p w) (ha : Rd w 4 (.slice A rs.length c) (rcs rs) fp) :
    Calls Tryz.prog 117 #[.slice A rs.length c, .func (.func g) #[] lb] w fun e w' => e = .returned (.int .i64 (fitF p rs)) ∧ Below w.heap.size w w' := by
  have hmax := ha.len_le
  have HA := Lib.hid ha; have HWF := Lib.hid hwf
  clear ha hwf
  by_cases h0 : rowsF rs = 0
  case neg =>
    rw [fitF_rows h0]
    generalize hr : rowsF rs = V at h0
    have HR := Lib.hid hr; clear hr hp
    have t1 : (V != 0) = true := by simpa using h0
    go_enter Tryz.func117, Tryz.ntmps117
    go_wp2_with fail
    refine (implRowsFault_a A c rs _ fp hs HWF.out HA.out).mono ?_
    rintro e w2 ⟨rfl, hb⟩
    rw [HR.out]
    have HB := Lib.hid hb; clear hb
    go_wp2
    go_ret
    exact ⟨rfl, HB.out⟩
  rw [fitF_rest h0]
  have HP := Lib.hid (hp h0); clear hp
  have HFT := Lib.hid (rowsF_fits h0).1
  generalize hV : restQ p rs 0 = V
  have HV := Lib.hid hV; clear hV
  have H0 := Lib.hid h0; clear h0
  go_enter Tryz.func117, Tryz.ntmps117
  go_wp2_with fail
  refine (implRowsFault_a A c rs _ fp hs HWF.out HA.out).mono ?_
  rintro e w2 ⟨rfl, hb⟩
  rw [H0.out]
  have HB := Lib.hid hb
  clear hb
  go_wp2_with fail
  go_loopw [15] (fun i wr => ∃ k : Nat, k ≤ rs.length ∧ i = .int .i64 k ∧ Hid (Below w.heap.size w wr) ∧ Hid (restQ p rs k = V)) (fun i _ => rs.length - (intOf i).toNat)
  case atStart => exact ⟨0, Nat.zero_le _, rfl, HB, HV⟩
  case round =>
    clear HB HV
    obtain ⟨k, hk, rfl, HB, HRS⟩ := hrel
    by_cases hlt : k < rs.length
    · obtain ⟨b, off, rfl, _, hbl, p0, p1, p2, p3⟩ := (HA.out.below' HB.out).row_at hlt
      have hok := @restQ_ok p rs k hlt
      have hbad := @restQ_bad p rs k hlt
      have hfk := HFT.out k hlt
      generalize rs[k] = r at *
      have HOK := Lib.hid hok; have HBAD := Lib.hid hbad
      clear hok hbad
      have HB1 := Lib.hid (below_more HB.out (rbox r))
      have hcall := HP.out (wr.alloc (rbox r)) r hfk HB1.out
      clear hfk
      cases hpr : p r
      all_goals
        rw [hpr] at hcall
        have HPR := Lib.hid hpr; clear hpr
        go_wp2_with fail
        refine hcall.mono ?_
        rintro e w3 ⟨rfl, hb3⟩
        have HB3 := Lib.hid (HB1.out.trans (hb3.mono HB1.out.size))
        clear hb3 p0 p1 p2 p3 hcall
      · have hs2 : V = 1 := HRS.out.symm.trans (HBAD.out HPR.out)
        have HS := Lib.hid hs2; clear hs2
        go_wp2_with fail
        go_ret
        exact ⟨congrArg (fun z => Ending.returned (Value.int .i64 z)) HS.out.symm, HB3.out⟩
      · have hs2 : restQ p rs (k + 1) = V := (HOK.out HPR.out).symm.trans HRS.out
        have HS := Lib.hid hs2; clear hs2
        go_wp2_with fail
        exact ⟨⟨k + 1, by omega, by go_num, HB3, HS⟩, by simp [intOf]; omega⟩
    · obtain rfl : k = rs.length := by omega
      have hs2 : V = 0 := HRS.out.symm.trans (restQ_end p rs)
      have HS := Lib.hid hs2; clear hs2
      go_wp2
      go_ret
      exact ⟨congrArg (fun z => Ending.returned (Value.int .i64 z)) HS.out.symm, HB.out⟩

set_option maxRecDepth 100000 in
set_option maxHeartbeats 2000000 in
theorem fitFaultM_c (g : Nat) (lb : Array Value) (p : R → Bool) (eg : ∀ args w, (callFunc g args).run Tryz.prog w = .ok (.enter g args) w) (A : Option Addr) (c : Nat) (rs : List R) (w : World) (fp : List Nat) (hs : rs.length ≤ 1048576) (hwf : ∀ r ∈ rs, WfR r) (hp : rowsF rs = 0 → PredMth g lb p w) (ha : Rd w 4 (.slice A rs.length c) (rcs rs) fp) :
    Calls Tryz.prog 117 #[.slice A rs.length c, .func (.func g) lb #[]] w fun e w' => e = .returned (.int .i64 (fitF p rs)) ∧ Below w.heap.size w w' := by
  have hmax := ha.len_le
  have HA := Lib.hid ha; have HWF := Lib.hid hwf
  clear ha hwf
  by_cases h0 : rowsF rs = 0
  case neg =>
    rw [fitF_rows h0]
    generalize hr : rowsF rs = V at h0
    have HR := Lib.hid hr; clear hr hp
    have t1 : (V != 0) = true := by simpa using h0
    go_enter Tryz.func117, Tryz.ntmps117
    go_wp2_with fail
    refine (implRowsFault_a A c rs _ fp hs HWF.out HA.out).mono ?_
    rintro e w2 ⟨rfl, hb⟩
    rw [HR.out]
    have HB := Lib.hid hb; clear hb
    go_wp2
    go_ret
    exact ⟨rfl, HB.out⟩
  rw [fitF_rest h0]
  have HP := Lib.hid (hp h0); clear hp
  have HFT := Lib.hid (rowsF_fits h0).1
  generalize hV : restQ p rs 0 = V
  have HV := Lib.hid hV; clear hV
  have H0 := Lib.hid h0; clear h0
  go_enter Tryz.func117, Tryz.ntmps117
  go_wp2_with fail
  refine (implRowsFault_a A c rs _ fp hs HWF.out HA.out).mono ?_
  rintro e w2 ⟨rfl, hb⟩
  rw [H0.out]
  have HB := Lib.hid hb
  clear hb
  go_wp2_with fail
  go_loopw [15] (fun i wr => ∃ k : Nat, k ≤ rs.length ∧ i = .int .i64 k ∧ Hid (Below w.heap.size w wr) ∧ Hid (restQ p rs k = V)) (fun i _ => rs.length - (intOf i).toNat)
  case atStart => exact ⟨0, Nat.zero_le _, rfl, HB, HV⟩
  case round =>
    clear HB HV
    obtain ⟨k, hk, rfl, HB, HRS⟩ := hrel
    by_cases hlt : k < rs.length
    · obtain ⟨b, off, rfl, _, hbl, p0, p1, p2, p3⟩ := (HA.out.below' HB.out).row_at hlt
      have hok := @restQ_ok p rs k hlt
      have hbad := @restQ_bad p rs k hlt
      have hfk := HFT.out k hlt
      generalize rs[k] = r at *
      have HOK := Lib.hid hok; have HBAD := Lib.hid hbad
      clear hok hbad
      have HB1 := Lib.hid (below_more HB.out (rbox r))
      have hcall := HP.out (wr.alloc (rbox r)) r hfk HB1.out
      clear hfk
      cases hpr : p r
      all_goals
        rw [hpr] at hcall
        have HPR := Lib.hid hpr; clear hpr
        go_wp2_with fail
        refine hcall.mono ?_
        rintro e w3 ⟨rfl, hb3⟩
        have HB3 := Lib.hid (HB1.out.trans (hb3.mono HB1.out.size))
        clear hb3 p0 p1 p2 p3 hcall
      · have hs2 : V = 1 := HRS.out.symm.trans (HBAD.out HPR.out)
        have HS := Lib.hid hs2; clear hs2
        go_wp2_with fail
        go_ret
        exact ⟨congrArg (fun z => Ending.returned (Value.int .i64 z)) HS.out.symm, HB3.out⟩
      · have hs2 : restQ p rs (k + 1) = V := (HOK.out HPR.out).symm.trans HRS.out
        have HS := Lib.hid hs2; clear hs2
        go_wp2_with fail
        exact ⟨⟨k + 1, by omega, by go_num, HB3, HS⟩, by simp [intOf]; omega⟩
    · obtain rfl : k = rs.length := by omega
      have hs2 : V = 0 := HRS.out.symm.trans (restQ_end p rs)
      have HS := Lib.hid hs2; clear hs2
      go_wp2
      go_ret
      exact ⟨congrArg (fun z => Ending.returned (Value.int .i64 z)) HS.out.symm, HB.out⟩
end Go.Proofs.YtldimfmhbdhbnaaGreat
