/-
  The model's functions of chapter 6, first part: the faults of places.
-/
import Derived.Test.YtdohgpdkfdbenaaFilesH
import Derived.Test.YtdohgpdkfdbenaaG1
namespace Go.Proofs.Ytdohgpdkfdbenaa
open Go.RowKit

theorem l6Nothing_c (b off : Nat) (r : R) (w : World) (h : RowAt w b off r) :
    Calls Try.prog 94 #[.pointer (some ⟨b, off, none⟩)] w fun e w' => e = .returned (.bool (emptyB r)) ∧ w = w' := by
  obtain ⟨c0, c1, c2, c3⟩ := h
  obtain ⟨l, s, h, d⟩ := r
  simp only at c0 c1 c2 c3
  by_cases h1 : h = 0 <;> by_cases h2 : d = 0
  all_goals
    go_enter Try.func94, Try.ntmps94
    go_wp2
    go_ret
    exact ⟨by simp [emptyB, h1, h2], rfl⟩

set_option maxRecDepth 100000 in
set_option maxHeartbeats 2000000 in
theorem l6File_c (A : Option Addr) (c : Nat) (rs : List R) (loc : Int) (w : World) (fp : List Nat) (ha : Rd w 4 (.slice A rs.length c) (rcs rs) fp) :
    Calls Try.prog 81 #[.slice A rs.length c, .int .i64 loc] w fun e w' => e = .returned (.int .i64 (fileF rs loc)) ∧ Qt w w' := by
  have hmax := ha.len_le
  have HA := Lib.hid ha
  clear ha
  by_cases h0 : rowsF rs = 0
  case neg =>
    rw [fileF_rows h0]
    generalize hr : rowsF rs = V at h0
    have HR := Lib.hid hr; clear hr
    have t1 : (V != 0) = true := by simpa using h0
    go_enter Try.func81, Try.ntmps81
    go_wp2_with fail
    refine (l2Fault_c A c rs _ fp HA.out).mono ?_
    rintro e w2 ⟨rfl, hw⟩
    rw [HR.out]
    have HW := Lib.hid hw; clear hw
    go_wp2
    go_ret
    exact ⟨rfl, HW.out⟩
  rw [fileF_rest h0]
  generalize hV : restA loc rs 0 = V
  have HV := Lib.hid hV; clear hV
  have H0 := Lib.hid h0; clear h0
  go_enter Try.func81, Try.ntmps81
  go_wp2_with fail
  refine (l2Fault_c A c rs _ fp HA.out).mono ?_
  rintro e w2 ⟨rfl, hw⟩
  rw [H0.out]
  have HQ : Hid (Qt w w2) := hw
  clear hw
  go_wp2_with fail
  go_loopw [6] (fun i wr => ∃ k : Nat, k ≤ rs.length ∧ i = .int .i64 k ∧ Hid (Qt w wr) ∧ Hid (restA loc rs k = V)) (fun i _ => rs.length - (intOf i).toNat)
  case atStart => exact ⟨0, Nat.zero_le _, rfl, HQ, HV⟩
  case round =>
    clear HQ HV
    obtain ⟨k, hk, rfl, HQ, hrs⟩ := hrel
    by_cases hlt : k < rs.length
    · obtain ⟨b, off, rfl, _, hbl, c0, c1, c2, c3⟩ := (HA.out.qt HQ.out).row_at hlt
      have hok := @restA_ok loc rs k hlt
      have hbad := @restA_bad loc rs k hlt
      generalize rs[k] = r at *
      have HOK := Lib.hid hok; have HBAD := Lib.hid hbad
      clear hok hbad
      by_cases h1 : r.1 = loc
      · have t1 : (r.1 != loc) = false := by simp [h1]
        go_wp2_with fail
        refine (l6Nothing_c b (off + k * 4) r _ ⟨c0, c1, c2, c3⟩).mono ?_
        rintro e w' ⟨rfl, hw⟩
        subst hw
        cases h2 : emptyB r
        · have hs : restA loc rs (k + 1) = V := (HOK.out (by simp [solidAt, h1, h2])).symm.trans hrs.out
          have HS := Lib.hid hs; clear hs
          go_wp2_with fail
          exact ⟨⟨k + 1, by omega, by go_num, by first | exact HQ | exact Lib.hid HQ.out.drew | exact Lib.hid (HQ.out.drewN _), HS⟩, by simp [intOf]; omega⟩
        · have hs : V = 1 := hrs.out.symm.trans (HBAD.out (by simp [solidAt, h2]))
          have HS := Lib.hid hs; clear hs
          go_wp2_with fail
          go_ret
          exact ⟨congrArg (fun z => Ending.returned (Value.int .i64 z)) HS.out.symm, by first | exact HQ.out | exact HQ.out.drew | exact HQ.out.drewN _⟩
      · have t1 : (r.1 != loc) = true := by simp [h1]
        have hs : V = 1 := hrs.out.symm.trans (HBAD.out (by simp [solidAt, h1]))
        have HS := Lib.hid hs; clear hs
        go_wp2_with fail
        go_ret
        exact ⟨congrArg (fun z => Ending.returned (Value.int .i64 z)) HS.out.symm, by first | exact HQ.out | exact HQ.out.drew | exact HQ.out.drewN _⟩
    · obtain rfl : k = rs.length := by omega
      have hs : V = 0 := hrs.out.symm.trans (restA_end loc rs)
      have HS := Lib.hid hs; clear hs
      go_wp2
      go_ret
      exact ⟨congrArg (fun z => Ending.returned (Value.int .i64 z)) HS.out.symm, by first | exact HQ.out | exact HQ.out.drew | exact HQ.out.drewN _⟩

set_option maxRecDepth 100000 in
set_option maxHeartbeats 2000000 in
theorem l6Count_c (A : Option Addr) (c : Nat) (l : List (List R)) (w : World) (fp : List Nat) (hs : fsz l ≤ 4194304) (ha : RdF w (.slice A l.length c) l fp) :
    Calls Try.prog 72 #[.slice A l.length c] w fun e w' => e = .returned (.int .i64 (totS l : Nat)) ∧ w = w' := by
  have hmax := ha.len_le.2
  have hT : totS l ≤ 4194304 := by unfold fsz at hs; omega
  have HA := Lib.hid ha
  clear ha hs
  go_enter Try.func72, Try.ntmps72
  go_wp2
  go_loop [3, 4] (fun s i => ∃ k : Nat, k ≤ l.length ∧ i = .int .i64 k ∧ s = .int .i64 (totS (l.take k) : Nat)) (fun _ i => l.length - (intOf i).toNat)
  case atStart => exact ⟨0, Nat.zero_le _, rfl, rfl⟩
  case round =>
    obtain ⟨k, hk, rfl, rfl⟩ := hrel
    by_cases hlt : k < l.length
    · obtain ⟨b, off, B, d, f, rfl, _, hbl, hc, hr, _⟩ := rowsAt HA.out hlt
      have hn := hr.len_le
      have ht := totS_take l k hlt
      have hle := totS_le l (k + 1)
      generalize l[k].length = n at *
      have HT := Lib.hid ht
      clear hr
      have t1 : ((totS (l.take k) : Nat) : Int) + (n : Int) ≤ 4194304 := by omega
      clear ht hle
      go_wp2
      exact ⟨⟨k + 1, by omega, by go_num, by rw [HT.out]; congr 1⟩, by simp [intOf]; omega⟩
    · obtain rfl : k = l.length := by omega
      go_wp2
      go_ret
      exact ⟨rfl, rfl⟩

theorem l6Count_q (A : Option Addr) (c : Nat) (l : List (List R)) (T : Nat) (hT : totS l = T) (w : World) (fp : List Nat) (hs : fsz l ≤ 4194304) (ha : RdF w (.slice A l.length c) l fp) :
    Calls Try.prog 72 #[.slice A l.length c] w fun e w' => e = .returned (.int .i64 (T : Nat)) ∧ w = w' := by
  subst hT
  exact l6Count_c A c l w fp hs ha

end Go.Proofs.Ytdohgpdkfdbenaa
