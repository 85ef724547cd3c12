/-
  Contracts of the model's functions of chapter 2.
-/
import Derived.Test.YthmmjkpgepffeaaModel2
import Derived.Test.YthmmjkpgepffeaaRowHelp
namespace Go.Proofs.Ythmmjkpgepffeaa
open Go.RowKit

theorem isB_ff {l s : Int} (h : inB l 0 3 = false) : isB l s = false := by simp [isB, h]
theorem isB_tt {l s : Int} (h : inB l 0 3 = true) : isB l s = inB s 1 20 := by simp [isB, h]

theorem l2Is_b (l s : Int) (b : Bool) (hb : isB l s = b) (w : World) :
    Calls Try.prog 55 #[.int .i64 l, .int .i64 s] w fun e w' => e = .returned (.bool b) ∧ w' = w := by
  subst hb
  cases h1 : inB l 0 3
  · rw [isB_ff h1]
    go_enter Try.func55, Try.ntmps55
    go_wp2_with ((go_at_call 68; refine (l1In_c _ _ _ _).mono ?_; rintro e w' ⟨rfl, rfl⟩; rw [h1]))
    go_ret
    exact ⟨rfl, rfl⟩
  · rw [isB_tt h1]
    have H1 := Lib.hid h1; clear h1
    go_enter Try.func55, Try.ntmps55
    go_wp2_with fail
    refine (l1In_c _ _ _ _).mono ?_
    rintro e w' ⟨rfl, rfl⟩
    rw [H1.out]
    go_wp2_with fail
    refine (l1In_c _ _ _ _).mono ?_
    rintro e w' ⟨rfl, rfl⟩
    go_wp2
    go_ret
    exact ⟨rfl, rfl⟩
theorem l1Qty_b (v : Int) (b : Bool) (hb : inB v 0 9999 = b) (w : World) : Calls Try.prog 79 #[.int .i64 v] w fun e w' => e = .returned (.bool b) ∧ w' = w := by
  subst hb
  exact (l1Qty_c v w).mono fun e w' ⟨h1, h2⟩ => ⟨h1, h2.symm⟩

/-- The four cells of a row lie from off on. -/
def RowAt (w : World) (b off : Nat) (r : R) : Prop :=
  w.cell? ⟨b, off, none⟩ = some (.int .i64 r.1) ∧ w.cell? ⟨b, off + 1, none⟩ = some (.int .i64 r.2.1) ∧ w.cell? ⟨b, off + 2, none⟩ = some (.int .i64 r.2.2.1) ∧ w.cell? ⟨b, off + 3, none⟩ = some (.int .i64 r.2.2.2)

set_option maxRecDepth 100000 in
set_option maxHeartbeats 1000000 in
theorem l2Key_c (b off : Nat) (r : R) (w : World) (h : RowAt w b off r) (h0 : 0 ≤ r.1) (h1 : r.1 ≤ 3) (h2 : 1 ≤ r.2.1) (h3 : r.2.1 ≤ 20) :
    Calls Try.prog 78 #[.pointer (some ⟨b, off, none⟩)] w fun e w' => e = .returned (.int .i64 (keyR r)) ∧ ∃ m, w' = w.drewN m := by
  obtain ⟨c0, c1, _, _⟩ := h
  obtain ⟨l, s, q⟩ := r
  simp only at c0 c1 h0 h1 h2 h3
  go_enter Try.func78, Try.ntmps78
  go_wp2_with fail
  go_quiet (fail)
  go_wp2_with fail
  go_ret
  exact ⟨rfl, _, rfl⟩

set_option maxRecDepth 100000 in
set_option maxHeartbeats 2000000 in
theorem l2Row_c (b off : Nat) (r : R) (w : World) (h : RowAt w b off r) :
    Calls Try.prog 60 #[.pointer (some ⟨b, off, none⟩)] w fun e w' => e = .returned (.int .i64 (rowF r)) ∧ ∃ m, w' = w.drewN m := by
  obtain ⟨c0, c1, c2, c3⟩ := h
  obtain ⟨l, s, h, d⟩ := r
  simp only at c0 c1 c2 c3
  cases h1 : isB l s
  · have e : rowF (l, s, h, d) = 3 := by simp [rowF, h1]
    rw [e]
    clear e
    have H1 := Lib.hid h1; clear h1
    go_enter Try.func60, Try.ntmps60
    go_wp2_with fail
    go_quiet ((go_at_call 55; exact Calls.quiet_of_same (l2Is_b _ _ false H1.out _)))
    go_wp2_with fail
    go_ret
    exact ⟨rfl, _, rfl⟩
  · cases h2 : inB h 0 9999
    · have e : rowF (l, s, h, d) = 3 := by simp [rowF, h1, h2]
      rw [e]
      clear e
      have H1 := Lib.hid h1; have H2 := Lib.hid h2; clear h1 h2
      go_enter Try.func60, Try.ntmps60
      go_wp2_with fail
      go_quiet (first | (go_at_call 55; exact Calls.quiet_of_same (l2Is_b _ _ true H1.out _)) | (go_at_call 79; exact Calls.quiet_of_same (l1Qty_b _ false H2.out _)))
      go_wp2_with fail
      go_ret
      exact ⟨rfl, _, rfl⟩
    · cases h3 : inB d 0 9999
      · have e : rowF (l, s, h, d) = 3 := by simp [rowF, h1, h2, h3]
        rw [e]
        clear e
        have H1 := Lib.hid h1; have H2 := Lib.hid h2; have H3 := Lib.hid h3; clear h1 h2 h3
        go_enter Try.func60, Try.ntmps60
        go_wp2_with fail
        go_quiet (first | (go_at_call 55; exact Calls.quiet_of_same (l2Is_b _ _ true H1.out _)) | (go_at_call 79; exact Calls.quiet_of_same (l1Qty_b h true H2.out _)) | (go_at_call 79; exact Calls.quiet_of_same (l1Qty_b d false H3.out _)))
        go_wp2_with fail
        go_ret
        exact ⟨rfl, _, rfl⟩
      · by_cases h4 : h < d
        · have e : rowF (l, s, h, d) = 7 := by simp [rowF, h1, h2, h3, h4]
          rw [e]
          clear e
          have H1 := Lib.hid h1; have H2 := Lib.hid h2; have H3 := Lib.hid h3; clear h1 h2 h3
          go_enter Try.func60, Try.ntmps60
          go_wp2_with fail
          go_quiet (first | (go_at_call 55; exact Calls.quiet_of_same (l2Is_b _ _ true H1.out _)) | (go_at_call 79; exact Calls.quiet_of_same (l1Qty_b h true H2.out _)) | (go_at_call 79; exact Calls.quiet_of_same (l1Qty_b d true H3.out _)))
          go_wp2_with fail
          go_quiet (fail)
          go_wp2_with fail
          go_ret
          exact ⟨rfl, _, World.drewN_drewN _ _ _⟩
        · have e : rowF (l, s, h, d) = 0 := by simp [rowF, h1, h2, h3, h4]
          rw [e]
          clear e
          have H1 := Lib.hid h1; have H2 := Lib.hid h2; have H3 := Lib.hid h3; clear h1 h2 h3
          go_enter Try.func60, Try.ntmps60
          go_wp2_with fail
          go_quiet (first | (go_at_call 55; exact Calls.quiet_of_same (l2Is_b _ _ true H1.out _)) | (go_at_call 79; exact Calls.quiet_of_same (l1Qty_b h true H2.out _)) | (go_at_call 79; exact Calls.quiet_of_same (l1Qty_b d true H3.out _)))
          go_wp2_with fail
          go_quiet (fail)
          go_wp2_with fail
          go_ret
          exact ⟨rfl, _, World.drewN_drewN _ _ _⟩

theorem specRowFault_c (r : R) (w : World) :
    Calls Try.prog 24 #[rv r] w fun e w' => e = .returned (.int .i64 (rowF r)) ∧ Below w.heap.size w w' := by
  go_enter Try.func24, Try.ntmps24
  go_wp2_with fail
  refine (l2Row_c _ _ r _ ⟨by simp, by simp, by simp, by simp⟩).mono ?_
  rintro e w1 ⟨rfl, m, rfl⟩
  go_wp2
  go_ret
  exact ⟨rfl, below_drewN' ((Below.refl _ _).alloc (Nat.le_refl _) _) _⟩

theorem RowAt.of_rd {w : World} {rs : List R} {fp : List Nat} {b off c k : Nat} (h : Rd w 4 (.slice (some ⟨b, off, none⟩) rs.length c) (rcs rs) fp) (hk : k < rs.length) : RowAt w b (off + k * 4) rs[k] := by
  obtain ⟨b', off', e, _, _, h0, h1, h2, h3⟩ := h.row_at hk
  injection e with e; injection e with e1 e2 _; subst e1 e2
  exact ⟨h0, h1, h2, h3⟩

set_option maxRecDepth 100000 in
set_option maxHeartbeats 2000000 in
theorem l2Fault_c (A : Option Addr) (c : Nat) (rs : List R) (w : World) (fp : List Nat) (ha : Rd w 4 (.slice A rs.length c) (rcs rs) fp) :
    Calls Try.prog 54 #[.slice A rs.length c] w fun e w' => e = .returned (.int .i64 (rowsF rs)) ∧ ∃ m, w' = w.drewN m := by
  have hmax := ha.len_le
  by_cases hbig : 12 < rs.length
  · have e : rowsF rs = 2 := by simp [rowsF, hbig]
    rw [e]
    clear e
    go_enter Try.func54, Try.ntmps54
    go_wp2
    go_ret
    exact ⟨rfl, 0, rfl⟩
  · have e : rowsF rs = scanF (prevK rs 0) (rs.drop 0) := by simp [rowsF, hbig, prevK]
    rw [e]
    clear e
    generalize hS : scanF (prevK rs 0) (rs.drop 0) = S
    have HS := Lib.hid hS; clear hS
    go_enter Try.func54, Try.ntmps54
    go_wp2
    go_loopw [3, 4] (fun i _ wr => ∃ k m : Nat, k ≤ rs.length ∧ i = .int .i64 k ∧ wr = w.drewN m ∧ Hid (scanF (prevK rs k) (rs.drop k) = S) ∧ Hid (∀ j (h : j < rs.length), j < k → rowF rs[j] = 0)) (fun i _ _ => rs.length - (intOf i).toNat)
    case atStart => exact ⟨0, 0, Nat.zero_le _, rfl, rfl, HS.out, fun j _ h => by omega⟩
    case round =>
      obtain ⟨k, m, hk, rfl, rfl, hsc, hok⟩ := hrel
      by_cases hlt : k < rs.length
      · obtain ⟨b, off, hA, _, _, _, _, _, _⟩ := ha.row_at hlt
        subst hA
        have hra : RowAt (w.drewN m) b (off + k * 4) rs[k] := RowAt.of_rd (ha.drewN m) hlt
        have hst := hsc.out
        rw [scanF_at rs k hlt] at hst
        have HST := Lib.hid hst; clear hst
        have HRA := Lib.hid hra; clear hra
        go_wp2_with fail
        refine (l2Row_c b (off + k * 4) rs[k] _ HRA.out).mono ?_
        rintro e w1 ⟨rfl, m1, hw1⟩
        rw [World.drewN_drewN] at hw1
        have hr1 : Rd w1 4 (.slice (some ⟨b, off, none⟩) rs.length c) (rcs rs) fp := by rw [hw1]; exact ha.drewN _
        have HW1 := Lib.hid hw1; clear hw1
        have HR1 := Lib.hid hr1; clear hr1
        by_cases hr0 : rowF rs[k] = 0
        · have hst := HST.out
          rw [if_neg (by simpa using hr0)] at hst
          have hb := rowF_zero hr0
          have hok' : ∀ j (h : j < rs.length), j < k + 1 → rowF rs[j] = 0 := fun j h hj => by
            by_cases e : j = k
            · subst e; exact hr0
            · exact hok.out j h (by omega)
          have HOK := Lib.hid hok'; clear hok'
          rw [hr0]
          have HR0 := Lib.hid hr0; clear hr0
          rcases Nat.eq_zero_or_pos k with h0 | h0
          · subst h0
            rw [if_neg (by simp [prevK])] at hst
            have HS1 := Lib.hid hst; clear hst
            have hd : decide ((0 : Int) < ((0 : Nat) : Int)) = false := by simp
            clear hb
            go_wp2_with fail
            go_quiet (fail)
            go_wp2_with fail
            exact ⟨⟨1, _, by omega, rfl, by rw [HW1.out, World.drewN_drewN], HS1.out, HOK.out⟩, by simp [intOf]; omega⟩
          · obtain ⟨j, rfl⟩ : ∃ j, k = j + 1 := ⟨k - 1, by omega⟩
            have hjl : j < rs.length := by omega
            have hbj := rowF_zero (hok.out j hjl (by omega))
            have hpk : prevK rs (j + 1) = some (keyR rs[j]) := prevK_succ rs j hjl
            rw [hpk] at hst
            have hraj : ∀ n, RowAt (w1.drewN n) b (off + j * 4) rs[j] := fun n => RowAt.of_rd (HR1.out.drewN n) hjl
            have hrak : ∀ n, RowAt (w1.drewN n) b (off + (j + 1) * 4) rs[j + 1] := fun n => RowAt.of_rd (HR1.out.drewN n) hlt
            have HJ := Lib.hid hraj; have HK := Lib.hid hrak; have HBJ := Lib.hid hbj; have HBK := Lib.hid hb
            clear hraj hrak hbj hb hpk
            have i0 : (0 : Int) ≤ ((j : Int) + 1) := by omega
            have i1 : ((j : Int) + 1) < (rs.length : Int) := by omega
            have i2 : (j : Int) < (rs.length : Int) := by omega
            have i3 : (0 : Int) < (j : Int) + 1 := by omega
            have i4 : (j : Int) + 1 - 1 = (j : Int) := by omega
            have hd : decide ((0 : Int) < (j : Int) + 1) = true := by rw [decide_eq_true_eq]; omega
            go_wp2_with fail
            go_quiet ((go_at_call 78; first | with_reducible exact Calls.quiet_of (l2Key_c b (off + (j + 1) * 4) rs[j + 1] _ (HK.out _) HBK.out.1 HBK.out.2.1 HBK.out.2.2.1 HBK.out.2.2.2.1) | with_reducible exact Calls.quiet_of (l2Key_c b (off + j * 4) rs[j] _ (HJ.out _) HBJ.out.1 HBJ.out.2.1 HBJ.out.2.2.1 HBJ.out.2.2.2.1)))
            by_cases hle : keyR rs[j + 1] ≤ keyR rs[j]
            · rw [if_pos (by simp [hle])] at hst
              have HF := Lib.hid hst; clear hst
              go_wp2
              go_ret
              exact ⟨congrArg (fun z => Ending.returned (Value.int .i64 z)) HF.out, _, by rw [HW1.out, World.drewN_drewN]⟩
            · rw [if_neg (by simp; omega)] at hst
              have HF := Lib.hid hst; clear hst
              go_wp2
              exact ⟨⟨j + 1 + 1, _, by omega, by go_num, by rw [HW1.out, World.drewN_drewN], HF.out, HOK.out⟩, by simp [intOf]; omega⟩
        · have hne : (rowF rs[k] != 0) = true := by simpa using hr0
          have hfin := HST.out
          rw [if_pos hr0] at hfin
          have HF := Lib.hid hfin; clear hfin hr0
          go_wp2
          go_ret
          exact ⟨congrArg (fun z => Ending.returned (Value.int .i64 z)) HF.out, _, HW1.out⟩
      · obtain rfl : k = rs.length := by omega
        have hfin := hsc.out
        rw [List.drop_length] at hfin
        have e0 : S = 0 := by rw [← hfin]; cases prevK rs rs.length <;> rfl
        have HF := Lib.hid e0; clear hfin e0
        go_wp2
        go_ret
        exact ⟨congrArg (fun z => Ending.returned (Value.int .i64 z)) HF.out.symm, _, rfl⟩
end Go.Proofs.Ythmmjkpgepffeaa
