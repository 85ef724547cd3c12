/-
  The model's functions of chapter 6, second part: the fault of places.
-/
import Derived.Test.YtdohgpdkfdbenaaSpec6a
namespace Go.Proofs.Ytdohgpdkfdbenaa
open Go.RowKit

/-- The two cells of places in a block. -/
structure PlBox (w : World) (g : Nat) (v : Value) (mk : Int) : Prop where
  c0 : w.cell? ⟨g, 0, none⟩ = some v
  c1 : w.cell? ⟨g, 1, none⟩ = some (.int .i64 mk)
  lt : g < w.heap.size
theorem PlBox.below {w w' : World} {g B : Nat} {v : Value} {mk : Int} (h : PlBox w g v mk) (hb : Below B w w') (hg : g < B) : PlBox w' g v mk :=
  ⟨(hb.cell (p := ⟨g, 0, none⟩) hg).trans h.c0, (hb.cell (p := ⟨g, 1, none⟩) hg).trans h.c1, Nat.lt_of_lt_of_le h.lt hb.size⟩

set_option maxRecDepth 100000 in
set_option maxHeartbeats 4000000 in
theorem l6Fault_c (g : Nat) (mk : Int) (A : Option Addr) (c : Nat) (l : List (List R)) (w : World) (fp : List Nat) (hs : fsz l ≤ 4194304)
    (hg : PlBox w g (.slice A l.length c) mk) (ha : RdF w (.slice A l.length c) l fp) :
    Calls Try.prog 47 #[.pointer (some ⟨g, 0, none⟩)] w fun e w' => e = .returned (.int .i64 (placesF ⟨l, mk⟩)) ∧ Qt w w' := by
  have hmax := ha.len_le.2
  obtain ⟨c0, c1, hz⟩ := hg
  have HA := Lib.hid ha
  clear ha
  by_cases h1 : l.length = 4
  case neg =>
    rw [placesF_len (p := ⟨l, mk⟩) h1]
    have t1 : ((l.length : Int) != 4) = true := by simp; omega
    go_enter Try.func47, Try.ntmps47
    go_wp2
    go_ret
    exact ⟨rfl, Qt.refl _⟩
  have t1 : ((l.length : Int) != 4) = false := by simp; omega
  cases h2 : inB mk 0 999
  case false =>
    rw [placesF_mark (p := ⟨l, mk⟩) h1 h2]
    have H2 := Lib.hid h2; clear h2 h1
    go_enter Try.func47, Try.ntmps47
    go_wp2_with fail
    refine (l1In_c mk 0 999 _).mono ?_
    rw [H2.out]
    rintro e w' ⟨rfl, hw⟩
    subst hw
    go_wp2
    go_ret
    exact ⟨rfl, Qt.refl _⟩
  have hmany := @placesF_many ⟨l, mk⟩ h1 h2
  have hfile := @placesF_file ⟨l, mk⟩ h1 h2
  have HMANY := Lib.hid hmany; have HFILE := Lib.hid hfile
  have H2 := Lib.hid h2
  obtain ⟨T, hT⟩ : ∃ T, T = totS l := ⟨_, rfl⟩
  have HTT := Lib.hid hT.symm
  have hT4 : T ≤ 4194304 := by unfold fsz at hs; omega
  simp only [← hT] at HMANY HFILE
  have HSZ := Lib.hid hs
  clear hmany hfile h2 hT hs h1
  generalize hV : restF l 0 = V at *
  have HV := Lib.hid hV; clear hV
  generalize hP : placesF ⟨l, mk⟩ = P at *
  have HP := Lib.hid hP; clear hP
  go_enter Try.func47, Try.ntmps47
  go_wp2_with fail
  refine (l1In_c mk 0 999 _).mono ?_
  rw [H2.out]
  rintro e w' ⟨rfl, hw⟩
  subst hw
  go_wp2_with fail
  go_loopw [3] (fun i wr => ∃ k : Nat, k ≤ l.length ∧ i = .int .i64 k ∧ Hid (Qt w wr) ∧ Hid (restF l k = V)) (fun i _ => l.length - (intOf i).toNat)
  case atStart => exact ⟨0, Nat.zero_le _, rfl, Lib.hid (Qt.refl _), HV⟩
  case round =>
    clear HV
    obtain ⟨k, hk, rfl, HQ, hrs⟩ := hrel
    have d0 := (HQ.out.cell _).trans c0
    by_cases hlt : k < l.length
    · obtain ⟨b, off, B, d, f, rfl, _, hbl, hc, hr, _⟩ := rowsAt (HA.out.qt HQ.out) hlt
      have hok := @restF_ok l k hlt
      have hbad := @restF_bad l k hlt
      generalize l[k] = rs at *
      have HOK := Lib.hid hok; have HBAD := Lib.hid hbad; have HR := Lib.hid hr
      clear hok hbad hr
      go_wp2_with fail
      refine (l6File_c B d rs (k : Int) _ f HR.out).mono ?_
      rintro e w2 ⟨rfl, hw⟩
      have HQ2 := Lib.hid (HQ.out.trans hw)
      clear hw
      have d1 := (HQ2.out.cell _).trans c0
      clear d0
      by_cases h3 : fileF rs k = 0
      · have hs2 : restF l (k + 1) = V := (HOK.out h3).symm.trans hrs.out
        have HS2 := Lib.hid hs2; clear hs2
        rw [h3]
        go_wp2_with fail
        exact ⟨⟨k + 1, by omega, by go_num, HQ2, HS2⟩, by simp [intOf]; omega⟩
      · have hs2 : V = fileF rs k := hrs.out.symm.trans (HBAD.out h3)
        rw [← hs2] at h3 ⊢
        have hPV : P = V := by exact HFILE.out h3
        have HPV := Lib.hid hPV; clear hPV hs2
        have t2 : (V != 0) = true := by simpa using h3
        go_wp2_with fail
        go_ret
        exact ⟨congrArg (fun z => Ending.returned (Value.int .i64 z)) HPV.out.symm, HQ2.out⟩
    · obtain rfl : k = l.length := by omega
      have hs2 : V = 0 := hrs.out.symm.trans (restF_end l)
      have hPV : P = if 12 < T then 2 else 0 := by exact HMANY.out hs2
      have HPV := Lib.hid hPV
      clear hs2 hPV
      go_wp2_with fail
      refine (l6Count_q A c l T HTT.out _ fp HSZ.out (HA.out.qt HQ.out)).mono ?_
      rintro e w2 ⟨rfl, hw⟩
      subst hw
      by_cases h4 : 12 < T
      · have e : P = 2 := by rw [HPV.out, if_pos h4]
        have HE := Lib.hid e; clear e
        go_wp2
        go_ret
        exact ⟨congrArg (fun z => Ending.returned (Value.int .i64 z)) HE.out.symm, HQ.out⟩
      · have e : P = 0 := by rw [HPV.out, if_neg h4]
        have HE := Lib.hid e; clear e
        go_wp2
        go_ret
        exact ⟨congrArg (fun z => Ending.returned (Value.int .i64 z)) HE.out.symm, HQ.out⟩

theorem specPlacesFault_c (mk : Int) (A : Option Addr) (c : Nat) (l : List (List R)) (w : World) (fp : List Nat) (hs : fsz l ≤ 4194304) (ha : RdF w (.slice A l.length c) l fp) :
    Calls Try.prog 18 #[.agg #[.slice A l.length c, .int .i64 mk]] w fun e w' => e = .returned (.int .i64 (placesF ⟨l, mk⟩)) ∧ Below w.heap.size w w' := by
  have HA := Lib.hid ha; clear ha
  go_enter Try.func18, Try.ntmps18
  go_wp2_with fail
  refine (l6Fault_c w.heap.size mk A c l _ fp hs ⟨by simp, by simp, by simp⟩ (HA.out.alloc _)).mono ?_
  rintro e w1 ⟨rfl, hw⟩
  have HQ := Lib.hid ((below_new _).trans (hw.below.mono (by simp))); clear hw
  go_wp2
  go_ret
  exact ⟨rfl, HQ.out⟩
end Go.Proofs.Ytdohgpdkfdbenaa
