/-
  The model's functions of chapter 6, first part: the faults of places.
-/
import Derived.Test.YtldimfmhbdhbnaaGreatG40
import Derived.Test.YtldimfmhbdhbnaaGreatG1
namespace Go.Proofs.YtldimfmhbdhbnaaGreat
open Go.RowKit

theorem l6Nothing_c (b off : Nat) (r : R) (w : World) (h : RowAt w b off r) :
    Calls Tryz.prog 92 #[.pointer (some ⟨b, off, none⟩)] w fun e w' => e = .returned (.bool (emptyB r)) ∧ w = w' := by
  obtain ⟨c0, c1, c2, c3⟩ := h
  obtain ⟨l, s, h, d⟩ := r
  simp only at c0 c1 c2 c3
  by_cases h1 : h = 0 <;> by_cases h2 : d = 0
  all_goals
    go_enter Tryz.func92, Tryz.ntmps92
    go_wp2
    go_ret
    exact ⟨by simp [emptyB, h1, h2], rfl⟩

set_option maxRecDepth 100000 in
set_option maxHeartbeats 2000000 in
theorem l6File_c (A : Option Addr) (c : Nat) (rs : List R) (loc : Int) (w : World) (fp : List Nat) (ha : Rd w 4 (.slice A rs.length c) (rcs rs) fp) :
    Calls Tryz.prog 69 #[.slice A rs.length c, .int .i64 loc] w fun e w' => e = .returned (.int .i64 (fileF rs loc)) ∧ Qt w w' := by
  have hmax := ha.len_le
  have HA := Lib.hid ha
  clear ha
  by_cases h0 : rowsF rs = 0
  case neg =>
    rw [fileF_rows h0]
    generalize hr : rowsF rs = V at h0
    have HR := Lib.hid hr; clear hr
    have t1 : (V != 0) = true := by simpa using h0
    go_enter Tryz.func69, Tryz.ntmps69
    go_wp2_with fail
    refine (l2Fault_c A c rs _ fp HA.out).mono ?_
    rintro e w2 ⟨rfl, hw⟩
    rw [HR.out]
    have HW := Lib.hid hw; clear hw
    go_wp2
    go_ret
    exact ⟨rfl, HW.out⟩
  rw [fileF_rest h0]
  generalize hV : restA loc rs 0 = V
  have HV := Lib.hid hV; clear hV
  have H0 := Lib.hid h0; clear h0
  go_enter Tryz.func69, Tryz.ntmps69
  go_wp2_with fail
  refine (l2Fault_c A c rs _ fp HA.out).mono ?_
  rintro e w2 ⟨rfl, hw⟩
  rw [H0.out]
  have HQ : Hid (Qt w w2) := hw
  clear hw
  go_wp2_with fail
  go_loopw [6] (fun i wr => ∃ k : Nat, k ≤ rs.length ∧ i = .int .i64 k ∧ Hid (Qt w wr) ∧ Hid (restA loc rs k = V)) (fun i _ => rs.length - (intOf i).toNat)
  case atStart => exact ⟨0, Nat.zero_le _, rfl, HQ, HV⟩
  case round =>
    clear HQ HV
    obtain ⟨k, hk, rfl, HQ, hrs⟩ := hrel
    by_cases hlt : k < rs.length
    · obtain ⟨b, off, rfl, _, hbl, c0, c1, c2, c3⟩ := (HA.out.qt HQ.out).row_at hlt
      have hok := @restA_ok loc rs k hlt
      have hbad := @restA_bad loc rs k hlt
      generalize rs[k] = r at *
      have HOK := Lib.hid hok; have HBAD := Lib.hid hbad
      clear hok hbad
      by_cases h1 : r.1 = loc
      · have t1 : (r.1 != loc) = false := by simp [h1]
        go_wp2_with fail
        refine (l6Nothing_c b (off + k * 4) r _ ⟨c0, c1, c2, c3⟩).mono ?_
        rintro e w' ⟨rfl, hw⟩
        subst hw
        cases h2 : emptyB r
        · have hs : restA loc rs (k + 1) = V := (HOK.out (by simp [solidAt, h1, h2])).symm.trans hrs.out
          have HS := Lib.hid hs; clear hs
          go_wp2_with fail
          exact ⟨⟨k + 1, by omega, by go_num, by first | exact HQ | exact Lib.hid HQ.out.drew | exact Lib.hid (HQ.out.drewN _), HS⟩, by simp [intOf]; omega⟩
        · have hs : V = 1 := hrs.out.symm.trans (HBAD.out (by simp [solidAt, h2]))
          have HS := Lib.hid hs; clear hs
          go_wp2_with fail
          go_ret
          exact ⟨congrArg (fun z => Ending.returned (Value.int .i64 z)) HS.out.symm, by first | exact HQ.out | exact HQ.out.drew | exact HQ.out.drewN _⟩
      · have t1 : (r.1 != loc) = true := by simp [h1]
        have hs : V = 1 := hrs.out.symm.trans (HBAD.out (by simp [solidAt, h1]))
        have HS := Lib.hid hs; clear hs
        go_wp2_with fail
        go_ret
        exact ⟨congrArg (fun z => Ending.returned (Value.int .i64 z)) HS.out.symm, by first | exact HQ.out | exact HQ.out.drew | exact HQ.out.drewN _⟩
    · obtain rfl : k = rs.length := by omega
      have hs : V = 0 := hrs.out.symm.trans (restA_end loc rs)
      have HS := Lib.hid hs; clear hs
      go_wp2
      go_ret
      exact ⟨congrArg (fun z => Ending.returned (Value.int .i64 z)) HS.out.symm, by first | exact HQ.out | exact HQ.out.drew | exact HQ.out.drewN _⟩

set_option maxRecDepth 100000 in
set_option maxHeartbeats 2000000 in
theorem l6Count_c (A : Option Addr) (c : Nat) (l : List (List R)) (w : World) (fp : List Nat) (hs : fsz l ≤ 4194304) (ha : RdF w (.slice A l.length c) l fp) :
    Calls Tryz.prog 70 #[.slice A l.length c] w fun e w' => e = .returned (.int .i64 (totS l : Nat)) ∧ w = w' := by
  have hmax := ha.len_le.2
  have hT : totS l ≤ 4194304 := by unfold fsz at hs; omega
  have HA := Lib.hid ha
  clear ha hs
  go_enter Tryz.func70, Tryz.ntmps70
  go_wp2
  go_loop [3, 4] (fun s i => ∃ k : Nat, k ≤ l.length ∧ i = .int .i64 k ∧ s = .int .i64 (totS (l.take k) : Nat)) (fun _ i => l.length - (intOf i).toNat)
  case atStart => exact ⟨0, Nat.zero_le _, rfl, rfl⟩
  case round =>
    obtain ⟨k, hk, rfl, rfl⟩ := hrel
    by_cases hlt : k < l.length
    · obtain ⟨b, off, B, d, f, rfl, _, hbl, hc, hr, _⟩ := rowsAt HA.out hlt
      have hn := hr.len_le
      have ht := totS_take l k hlt
      have hle := totS_le l (k + 1)
      generalize l[k].length = n at *
      have HT := Lib.hid ht
      clear hr
      have t1 : ((totS (l.take k) : Nat) : Int) + (n : Int) ≤ 4194304 := by omega
      clear ht hle
      go_wp2
      exact ⟨⟨k + 1, by omega, by go_num, by rw [HT.out]; congr 1⟩, by simp [intOf]; omega⟩
    · obtain rfl : k = l.length := by omega
      go_wp2
      go_ret
      exact ⟨rfl, rfl⟩

theorem l6Count_q (A : Option Addr) (c : Nat) (l : List (List R)) (T : Nat) (hT : totS l = T) (w : World) (fp : List Nat) (hs : fsz l ≤ 4194304) (ha : RdF w (.slice A l.length c) l fp) :
    Calls Tryz.prog 70 #[.slice A l.length c] w fun e w' => e = .returned (.int .i64 (T : Nat)) ∧ w = w' := by
  subst hT
  exact l6Count_c A c l w fp hs ha

end Go.Proofs.YtldimfmhbdhbnaaGreat

/-
  The model's functions of chapter 6, second part: the fault of places.
-/
namespace Go.Proofs.YtldimfmhbdhbnaaGreat
open Go.RowKit

/-- The two cells of places in a block. -/
structure PlBox (w : World) (g : Nat) (v : Value) (mk : Int) : Prop where
  c0 : w.cell? ⟨g, 0, none⟩ = some v
  c1 : w.cell? ⟨g, 1, none⟩ = some (.int .i64 mk)
  lt : g < w.heap.size
theorem PlBox.below {w w' : World} {g B : Nat} {v : Value} {mk : Int} (h : PlBox w g v mk) (hb : Below B w w') (hg : g < B) : PlBox w' g v mk :=
  ⟨(hb.cell (p := ⟨g, 0, none⟩) hg).trans h.c0, (hb.cell (p := ⟨g, 1, none⟩) hg).trans h.c1, Nat.lt_of_lt_of_le h.lt hb.size⟩

set_option maxRecDepth 100000 in
set_option maxHeartbeats 4000000 in
theorem l6Fault_c (g : Nat) (mk : Int) (A : Option Addr) (c : Nat) (l : List (List R)) (w : World) (fp : List Nat) (hs : fsz l ≤ 4194304)
    (hg : PlBox w g (.slice A l.length c) mk) (ha : RdF w (.slice A l.length c) l fp) :
    Calls Tryz.prog 29 #[.pointer (some ⟨g, 0, none⟩)] w fun e w' => e = .returned (.int .i64 (placesF ⟨l, mk⟩)) ∧ Qt w w' := by
  have hmax := ha.len_le.2
  obtain ⟨c0, c1, hz⟩ := hg
  have HA := Lib.hid ha
  clear ha
  by_cases h1 : l.length = 4
  case neg =>
    rw [placesF_len (p := ⟨l, mk⟩) h1]
    have t1 : ((l.length : Int) != 4) = true := by simp; omega
    go_enter Tryz.func29, Tryz.ntmps29
    go_wp2
    go_ret
    exact ⟨rfl, Qt.refl _⟩
  have t1 : ((l.length : Int) != 4) = false := by simp; omega
  cases h2 : inB mk 0 999
  case false =>
    rw [placesF_mark (p := ⟨l, mk⟩) h1 h2]
    have H2 := Lib.hid h2; clear h2 h1
    go_enter Tryz.func29, Tryz.ntmps29
    go_wp2_with fail
    refine (l1In_c mk 0 999 _).mono ?_
    rw [H2.out]
    rintro e w' ⟨rfl, hw⟩
    subst hw
    go_wp2
    go_ret
    exact ⟨rfl, Qt.refl _⟩
  have hmany := @placesF_many ⟨l, mk⟩ h1 h2
  have hfile := @placesF_file ⟨l, mk⟩ h1 h2
  have HMANY := Lib.hid hmany; have HFILE := Lib.hid hfile
  have H2 := Lib.hid h2
  obtain ⟨T, hT⟩ : ∃ T, T = totS l := ⟨_, rfl⟩
  have HTT := Lib.hid hT.symm
  have hT4 : T ≤ 4194304 := by unfold fsz at hs; omega
  simp only [← hT] at HMANY HFILE
  have HSZ := Lib.hid hs
  clear hmany hfile h2 hT hs h1
  generalize hV : restF l 0 = V at *
  have HV := Lib.hid hV; clear hV
  generalize hP : placesF ⟨l, mk⟩ = P at *
  have HP := Lib.hid hP; clear hP
  go_enter Tryz.func29, Tryz.ntmps29
  go_wp2_with fail
  refine (l1In_c mk 0 999 _).mono ?_
  rw [H2.out]
  rintro e w' ⟨rfl, hw⟩
  subst hw
  go_wp2_with fail
  go_loopw [3] (fun i wr => ∃ k : Nat, k ≤ l.length ∧ i = .int .i64 k ∧ Hid (Qt w wr) ∧ Hid (restF l k = V)) (fun i _ => l.length - (intOf i).toNat)
  case atStart => exact ⟨0, Nat.zero_le _, rfl, Lib.hid (Qt.refl _), HV⟩
  case round =>
    clear HV
    obtain ⟨k, hk, rfl, HQ, hrs⟩ := hrel
    have d0 := (HQ.out.cell _).trans c0
    by_cases hlt : k < l.length
    · obtain ⟨b, off, B, d, f, rfl, _, hbl, hc, hr, _⟩ := rowsAt (HA.out.qt HQ.out) hlt
      have hok := @restF_ok l k hlt
      have hbad := @restF_bad l k hlt
      generalize l[k] = rs at *
      have HOK := Lib.hid hok; have HBAD := Lib.hid hbad; have HR := Lib.hid hr
      clear hok hbad hr
      go_wp2_with fail
      refine (l6File_c B d rs (k : Int) _ f HR.out).mono ?_
      rintro e w2 ⟨rfl, hw⟩
      have HQ2 := Lib.hid (HQ.out.trans hw)
      clear hw
      have d1 := (HQ2.out.cell _).trans c0
      clear d0
      by_cases h3 : fileF rs k = 0
      · have hs2 : restF l (k + 1) = V := (HOK.out h3).symm.trans hrs.out
        have HS2 := Lib.hid hs2; clear hs2
        rw [h3]
        go_wp2_with fail
        exact ⟨⟨k + 1, by omega, by go_num, HQ2, HS2⟩, by simp [intOf]; omega⟩
      · have hs2 : V = fileF rs k := hrs.out.symm.trans (HBAD.out h3)
        rw [← hs2] at h3 ⊢
        have hPV : P = V := by exact HFILE.out h3
        have HPV := Lib.hid hPV; clear hPV hs2
        have t2 : (V != 0) = true := by simpa using h3
        go_wp2_with fail
        go_ret
        exact ⟨congrArg (fun z => Ending.returned (Value.int .i64 z)) HPV.out.symm, HQ2.out⟩
    · obtain rfl : k = l.length := by omega
      have hs2 : V = 0 := hrs.out.symm.trans (restF_end l)
      have hPV : P = if 12 < T then 2 else 0 := by exact HMANY.out hs2
      have HPV := Lib.hid hPV
      clear hs2 hPV
      go_wp2_with fail
      refine (l6Count_q A c l T HTT.out _ fp HSZ.out (HA.out.qt HQ.out)).mono ?_
      rintro e w2 ⟨rfl, hw⟩
      subst hw
      by_cases h4 : 12 < T
      · have e : P = 2 := by rw [HPV.out, if_pos h4]
        have HE := Lib.hid e; clear e
        go_wp2
        go_ret
        exact ⟨congrArg (fun z => Ending.returned (Value.int .i64 z)) HE.out.symm, HQ.out⟩
      · have e : P = 0 := by rw [HPV.out, if_neg h4]
        have HE := Lib.hid e; clear e
        go_wp2
        go_ret
        exact ⟨congrArg (fun z => Ending.returned (Value.int .i64 z)) HE.out.symm, HQ.out⟩

end Go.Proofs.YtldimfmhbdhbnaaGreat
