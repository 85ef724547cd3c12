/-
  The program's functions of chapter 6, first part: the faults of places.
-/
import Derived.Test.YtldimfmhbdhbnaaGreatG11
import Derived.Test.YtldimfmhbdhbnaaGreatG12
namespace Go.Proofs.YtldimfmhbdhbnaaGreat
open Go.RowKit

theorem isMark_b (v : Int) (b : Bool) (hb : inB v 0 999 = b) (w : World) : Calls Tryz.prog 58 #[.int .i64 v] w fun e w' => e = .returned (.bool b) ∧ w = w' := by
  subst hb
  by_cases h1 : (0 : Int) ≤ v <;> by_cases h2 : v ≤ 999
  all_goals
    go_enter Tryz.func58, Tryz.ntmps58
    go_wp2
    go_ret
    exact ⟨by simp [inB, h1, h2], rfl⟩

set_option maxRecDepth 100000 in
set_option maxHeartbeats 1000000 in
theorem fits_c (loc : Int) (r : R) (w : World) :
    Calls Tryz.prog 60 #[.agg #[.int .i64 loc], rv r] w fun e w' => e = .returned (.bool (solidAt loc r)) ∧ Below w.heap.size w w' := by
  by_cases h1 : r.1 = loc
  · subst h1
    have t1 : (r.1 == r.1) = true := by simp
    cases h2 : emptyB r
    all_goals
      have H2 := Lib.hid h2; clear h2
      go_enter Tryz.func60, Tryz.ntmps60
      go_wp2_with fail
      refine (isEmptyRow_b r _ H2.out _).mono ?_
      rintro e w' ⟨rfl, hw⟩
      have HW := Lib.hid hw; clear hw
      go_wp2
      go_ret
      exact ⟨by simp [solidAt, H2.out], by rw [HW.out]; exact below_more (below_more (below_new _) _) _⟩
  · have t1 : (r.1 == loc) = false := by simp [h1]
    go_enter Tryz.func60, Tryz.ntmps60
    go_wp2
    go_ret
    exact ⟨by simp [solidAt, h1], below_more (below_new _) _⟩

set_option maxRecDepth 100000 in
set_option maxHeartbeats 2000000 in
theorem fileFault_c (loc : Int) (A : Option Addr) (c : Nat) (rs : List R) (w : World) (fp : List Nat) (hs : rs.length ≤ 1048576) (hwf : ∀ r ∈ rs, WfR r) (ha : Rd w 4 (.slice A rs.length c) (rcs rs) fp) :
    Calls Tryz.prog 104 #[.agg #[.int .i64 loc, .slice A rs.length c]] w fun e w' => e = .returned (.int .i64 (fileF rs loc)) ∧ Below w.heap.size w w' := by
  have hmax := ha.len_le
  have eg : ∀ args w, (callFunc 60 args).run Tryz.prog w = .ok (.enter 60 args) w := enters_of Tryz.func60 (by kernel_rfl) rfl
  have hcall := fitFaultM_c 60 #[.agg #[.int .i64 loc]] (solidAt loc) eg A c rs (w.alloc (.cells #[.int .i64 loc, .slice A rs.length c] 133)) fp hs hwf (fun _ W x _ _ => fits_c loc x W) (ha.alloc _)
  rw [fileF_fitF]
  clear ha hwf eg
  generalize fitF (solidAt loc) rs = V at *
  go_enter Tryz.func104, Tryz.ntmps104
  go_wp2_with fail
  refine hcall.mono ?_
  rintro e w2 ⟨rfl, hb⟩
  have HB := Lib.hid ((below_new _).trans (hb.mono (by simp))); clear hb
  go_wp2
  go_ret
  exact ⟨rfl, HB.out⟩

set_option maxRecDepth 100000 in
set_option maxHeartbeats 2000000 in
theorem countRows_c (A : Option Addr) (c : Nat) (l : List (List R)) (w : World) (fp : List Nat) (hs : fsz l ≤ 4194304) (ha : RdF w (.slice A l.length c) l fp) :
    Calls Tryz.prog 105 #[.slice A l.length c] w fun e w' => e = .returned (.int .i64 (totS l : Nat)) ∧ w = w' := by
  have hmax := ha.len_le.2
  have hT : totS l ≤ 4194304 := by unfold fsz at hs; omega
  have HA := Lib.hid ha
  clear ha hs
  go_enter Tryz.func105, Tryz.ntmps105
  go_wp2
  go_loop [3, 8] (fun s i => ∃ k : Nat, k ≤ l.length ∧ i = .int .i64 k ∧ s = .int .i64 (totS (l.take k) : Nat)) (fun _ i => l.length - (intOf i).toNat)
  case atStart => exact ⟨0, Nat.zero_le _, rfl, rfl⟩
  case round =>
    obtain ⟨k, hk, rfl, rfl⟩ := hrel
    by_cases hlt : k < l.length
    · obtain ⟨b, off, B, d, f, rfl, _, hbl, hc, hr, _⟩ := rowsAt HA.out hlt
      have hn := hr.len_le
      have ht := totS_take l k hlt
      have hle := totS_le l (k + 1)
      generalize l[k].length = n at *
      have HT := Lib.hid ht
      clear hr
      have t1 : ((totS (l.take k) : Nat) : Int) + (n : Int) ≤ 4194304 := by omega
      clear ht hle
      go_wp2
      exact ⟨⟨k + 1, by omega, by go_num, by rw [HT.out]; congr 1⟩, by simp [intOf]; omega⟩
    · obtain rfl : k = l.length := by omega
      go_wp2
      go_ret
      exact ⟨rfl, rfl⟩

theorem countRows_q (A : Option Addr) (c : Nat) (l : List (List R)) (T : Nat) (hT : totS l = T) (w : World) (fp : List Nat) (hs : fsz l ≤ 4194304) (ha : RdF w (.slice A l.length c) l fp) :
    Calls Tryz.prog 105 #[.slice A l.length c] w fun e w' => e = .returned (.int .i64 (T : Nat)) ∧ w = w' := by
  subst hT
  exact countRows_c A c l w fp hs ha

/-- All rows of places are in the machine's numbers. -/
def WfF (l : List (List R)) : Prop := ∀ rs ∈ l, ∀ r ∈ rs, WfR r

set_option maxRecDepth 100000 in
set_option maxHeartbeats 4000000 in
theorem implPlacesFault_c (mk : Int) (A : Option Addr) (c : Nat) (l : List (List R)) (w : World) (fp : List Nat) (hs : fsz l ≤ 1048576) (hwf : WfF l) (ha : RdF w (.slice A l.length c) l fp) :
    Calls Tryz.prog 77 #[.agg #[.slice A l.length c, .int .i64 mk]] w fun e w' => e = .returned (.int .i64 (placesF ⟨l, mk⟩)) ∧ Below w.heap.size w w' := by
  have hmax := ha.len_le.2
  have HA := Lib.hid ha; have HWF := Lib.hid hwf
  clear ha hwf
  by_cases h1 : l.length = 4
  case neg =>
    rw [placesF_len (p := ⟨l, mk⟩) h1]
    have t1 : ((l.length : Int) != 4) = true := by simp; omega
    go_enter Tryz.func77, Tryz.ntmps77
    go_wp2
    go_ret
    exact ⟨rfl, below_new _⟩
  have t1 : ((l.length : Int) != 4) = false := by simp; omega
  cases h2 : inB mk 0 999
  case false =>
    rw [placesF_mark (p := ⟨l, mk⟩) h1 h2]
    have H2 := Lib.hid h2; clear h2 h1
    go_enter Tryz.func77, Tryz.ntmps77
    go_wp2_with fail
    refine (isMark_b mk false H2.out _).mono ?_
    rintro e w' ⟨rfl, hw⟩
    subst hw
    go_wp2
    go_ret
    exact ⟨rfl, below_new _⟩
  have hmany := @placesF_many ⟨l, mk⟩ h1 h2
  have hfile := @placesF_file ⟨l, mk⟩ h1 h2
  have HMANY := Lib.hid hmany; have HFILE := Lib.hid hfile
  have H2 := Lib.hid h2
  obtain ⟨T, hT⟩ : ∃ T, T = totS l := ⟨_, rfl⟩
  have HTT := Lib.hid hT.symm
  have hT4 : T ≤ 4194304 := by unfold fsz at hs; omega
  simp only [← hT] at HMANY HFILE
  have HSZ := Lib.hid hs
  clear hmany hfile h2 hT hs h1
  generalize hV : restF l 0 = V at *
  have HV := Lib.hid hV; clear hV
  generalize hP : placesF ⟨l, mk⟩ = P at *
  have HP := Lib.hid hP; clear hP
  go_enter Tryz.func77, Tryz.ntmps77
  go_wp2_with fail
  refine (isMark_b mk true H2.out _).mono ?_
  rintro e w' ⟨rfl, hw⟩
  subst hw
  go_wp2_with fail
  go_loopw [18] (fun i wr => ∃ k : Nat, k ≤ l.length ∧ i = .int .i64 k ∧ Hid (Below w.heap.size w wr) ∧ Hid (wr.heap[w.heap.size]? = some (.cells #[.slice A l.length c, .int .i64 mk] 32 (0, 0))) ∧ Hid (restF l k = V)) (fun i _ => l.length - (intOf i).toNat)
  case atStart => exact ⟨0, Nat.zero_le _, rfl, below_new _, heap_new w _ rfl, HV⟩
  case round =>
    clear HV
    obtain ⟨k, hk, rfl, HB, HG, HRS⟩ := hrel
    by_cases hlt : k < l.length
    · obtain ⟨b, off, B, d, f, rfl, _, hbl, hc, hr, _⟩ := rowsAt (HA.out.below' HB.out) hlt
      have hok := @restF_ok l k hlt
      have hbad := @restF_bad l k hlt
      have hw1 := HWF.out l[k] (List.getElem_mem hlt)
      have hl1 : l[k].length ≤ 1048576 := by have h1 := len_of_tot l k hlt; have h2 := HSZ.out; unfold fsz at h2; omega
      generalize l[k] = rs at *
      have HOK := Lib.hid hok; have HBAD := Lib.hid hbad; have HW1 := Lib.hid hw1
      have HB1 := Lib.hid (below_more HB.out (.cells #[.int .i64 (k : Int), .slice B rs.length d] 133))
      have HG1 := Lib.hid (heap_old (o' := .cells #[.int .i64 (k : Int), .slice B rs.length d] 133) HG.out)
      have HR := Lib.hid (hr.alloc (.cells #[.int .i64 (k : Int), .slice B rs.length d] 133))
      clear hok hbad hw1 hr
      go_wp2_with fail
      refine (fileFault_c (k : Int) B d rs _ f hl1 HW1.out HR.out).mono ?_
      rintro e w2 ⟨rfl, hb2⟩
      have HB2 := Lib.hid (HB1.out.trans (hb2.mono HB1.out.size))
      have HG2 := Lib.hid ((hb2.block _ (heap_lt HG1.out)).trans HG1.out)
      clear hb2
      by_cases h3 : fileF rs k = 0
      · have hs2 : restF l (k + 1) = V := (HOK.out h3).symm.trans HRS.out
        have HS2 := Lib.hid hs2; clear hs2
        rw [h3]
        go_wp2_with fail
        exact ⟨⟨k + 1, by omega, by go_num, HB2, HG2, HS2⟩, by simp [intOf]; omega⟩
      · have hs2 : V = fileF rs k := HRS.out.symm.trans (HBAD.out h3)
        rw [← hs2] at h3 ⊢
        have hPV : P = V := by exact HFILE.out h3
        have HPV := Lib.hid hPV; clear hPV hs2
        have t2 : (V != 0) = true := by simpa using h3
        go_wp2_with fail
        go_ret
        exact ⟨congrArg (fun z => Ending.returned (Value.int .i64 z)) HPV.out.symm, HB2.out⟩
    · obtain rfl : k = l.length := by omega
      have hs2 : V = 0 := HRS.out.symm.trans (restF_end l)
      have hPV : P = if 12 < T then 2 else 0 := by exact HMANY.out hs2
      have HPV := Lib.hid hPV
      clear hs2 hPV
      obtain ⟨g0, g1, _, _, hgz⟩ := two_at HG.out
      go_wp2_with fail
      refine (countRows_q A c l T HTT.out _ fp (by have := HSZ.out; omega) (HA.out.below' HB.out)).mono ?_
      rintro e w2 ⟨rfl, hw⟩
      subst hw
      by_cases h4 : 12 < T
      · have e : P = 2 := by rw [HPV.out, if_pos h4]
        have HE := Lib.hid e; clear e
        go_wp2
        go_ret
        exact ⟨congrArg (fun z => Ending.returned (Value.int .i64 z)) HE.out.symm, HB.out⟩
      · have e : P = 0 := by rw [HPV.out, if_neg h4]
        have HE := Lib.hid e; clear e
        go_wp2
        go_ret
        exact ⟨congrArg (fun z => Ending.returned (Value.int .i64 z)) HE.out.symm, HB.out⟩
end Go.Proofs.YtldimfmhbdhbnaaGreat
