/-
  Contracts of the program's functions of chapter 2, first part: single rows, faults, keys.
-/
import Derived.Test.YtoabohllphoioaaAsk2a
import Derived.Test.YtoabohllphoioaaG22
namespace Go.Proofs.Ytoabohllphoioaa
open Go.RowKit

theorem isLoc_b (v : Int) (b : Bool) (hb : inB v 0 3 = b) (w : World) : Calls Try.prog 75 #[.int .i64 v] w fun e w' => e = .returned (.bool b) ∧ w = w' := by
  subst hb
  by_cases h1 : (0 : Int) ≤ v <;> by_cases h2 : v ≤ 3
  all_goals
    go_enter Try.func75, Try.ntmps75
    go_wp2
    go_ret
    refine ⟨?_, rfl⟩
    simp [inB, *]
theorem isSku_b (v : Int) (b : Bool) (hb : inB v 1 20 = b) (w : World) : Calls Try.prog 76 #[.int .i64 v] w fun e w' => e = .returned (.bool b) ∧ w = w' := by
  subst hb
  by_cases h1 : (1 : Int) ≤ v <;> by_cases h2 : v ≤ 20
  all_goals
    go_enter Try.func76, Try.ntmps76
    go_wp2
    go_ret
    refine ⟨?_, rfl⟩
    simp [inB, *]
theorem isQty_b (v : Int) (b : Bool) (hb : inB v 0 9999 = b) (w : World) : Calls Try.prog 131 #[.int .i64 v] w fun e w' => e = .returned (.bool b) ∧ w = w' := by
  subst hb
  by_cases h1 : (0 : Int) ≤ v <;> by_cases h2 : v ≤ 9999
  all_goals
    go_enter Try.func131, Try.ntmps131
    go_wp2
    go_ret
    refine ⟨?_, rfl⟩
    simp [inB, *]

/-- The box of a row. -/
abbrev rbox (r : R) : Obj := .cells #[.int .i64 r.1, .int .i64 r.2.1, .int .i64 r.2.2.1, .int .i64 r.2.2.2] 34

theorem rowKey_c (r : R) (w : World) (hf : Fit r) :
    Calls Try.prog 69 #[rv r] w fun e w' => e = .returned (.int .i64 (keyR r)) ∧ w' = w.alloc (rbox r) := by
  obtain ⟨l, s, h, d⟩ := r
  obtain ⟨f0, f1, f2, f3⟩ := hf
  simp only at f0 f1 f2 f3
  go_enter Try.func69, Try.ntmps69
  go_wp2
  go_ret
  exact ⟨rfl, rfl⟩
theorem rowKey_b (r : R) (w : World) (hf : Fit r) :
    Calls Try.prog 69 #[rv r] w fun e w' => e = .returned (.int .i64 (keyR r)) ∧ Below w.heap.size w w' :=
  (rowKey_c r w hf).mono fun _ _ ⟨he, hw⟩ => ⟨he, hw ▸ below_new _⟩

theorem isEmptyRow_b (r : R) (b : Bool) (hb : emptyB r = b) (w : World) :
    Calls Try.prog 133 #[rv r] w fun e w' => e = .returned (.bool b) ∧ w' = w.alloc (rbox r) := by
  have he : decide (r = (r.1, r.2.1, 0, 0)) = b := by
    rw [← hb]
    obtain ⟨l, s, h, d⟩ := r
    by_cases h1 : h = 0 <;> by_cases h2 : d = 0 <;> simp [emptyB, h1, h2]
  have q1 : ∀ w, (binOp .eql 34 (rv r) (.agg #[.int .i64 r.1, .int .i64 r.2.1, .int .i64 0, .int .i64 0])).run Try.prog w = .ok (.bool b) w := fun w => by
    have := rowEql r (r.1, r.2.1, 0, 0) w
    rw [he] at this; exact this
  have q2 : ∀ p q w, (eqGuard .eql 34 p q (rv r) (.agg #[.int .i64 r.1, .int .i64 r.2.1, .int .i64 0, .int .i64 0])).run Try.prog w = .ok () w := fun p q w => rowGuard .eql p q r (r.1, r.2.1, 0, 0) w
  clear he hb
  go_enter Try.func133, Try.ntmps133
  go_wp2
  go_ret
  exact ⟨rfl, rfl⟩

set_option maxRecDepth 100000 in
set_option maxHeartbeats 2000000 in
theorem implRowFault_a : AskRowFault := by
  intro r w _
  obtain ⟨l, s, h, d⟩ := r
  generalize hC : rowF (l, s, h, d) = C
  have HC := Lib.hid hC; clear hC
  cases h1 : inB l 0 3 <;> cases h2 : inB s 1 20 <;> cases h3 : inB h 0 9999 <;> cases h4 : inB d 0 9999
  all_goals
    have H1 := Lib.hid h1; have H2 := Lib.hid h2; have H3 := Lib.hid h3; have H4 := Lib.hid h4
    clear h1 h2 h3 h4
    go_enter Try.func90, Try.ntmps90
    go_wp2_with (first
      | (go_at_call 75; refine (isLoc_b _ _ H1.out _).mono ?_; rintro e w' ⟨rfl, rfl⟩)
      | (go_at_call 76; refine (isSku_b _ _ H2.out _).mono ?_; rintro e w' ⟨rfl, rfl⟩)
      | (go_at_call 131; ((first | (with_reducible refine (isQty_b h _ H3.out _).mono ?_) | (with_reducible refine (isQty_b d _ H4.out _).mono ?_)); rintro e w' ⟨rfl, rfl⟩)))
    all_goals
      go_ret
      exact ⟨by rw [← HC.out]; simp [rowF, isB, H1.out, H2.out, H3.out, H4.out, *], below_new _⟩

/-- The key ahead of the k-th row, 0 at the beginning. -/
def prevN (rs : List R) (k : Nat) : Int := (prevK rs k).getD 0
theorem prevN_succ (rs : List R) (k : Nat) (h : k < rs.length) : prevN rs (k + 1) = keyR rs[k] := by simp [prevN, prevK_succ rs k h]
theorem prevN_test (rs : List R) (k : Nat) (x : R) (hx : rowF x = 0) : (((prevK rs k).map fun q => decide (keyR x ≤ q)) = some true) ↔ keyR x ≤ prevN rs k := by
  have := rowF_zero hx
  unfold prevN
  cases prevK rs k with
  | none => simp [keyR]; omega
  | some q => simp

set_option maxRecDepth 100000 in
set_option maxHeartbeats 2000000 in
theorem implRowsFault_a : AskRowsFault := by
  intro A c rs w fp hs hwf ha
  have hmax := ha.len_le
  have HWF := Lib.hid hwf; clear hwf
  by_cases hbig : 12 < rs.length
  · have e : rowsF rs = 2 := by simp [rowsF, hbig]
    rw [e]
    clear e
    go_enter Try.func105, Try.ntmps105
    go_wp2
    go_ret
    exact ⟨rfl, Below.refl _ _⟩
  · have e : rowsF rs = scanF (prevK rs 0) (rs.drop 0) := by simp [rowsF, hbig, prevK]
    rw [e]
    clear e
    generalize hS : scanF (prevK rs 0) (rs.drop 0) = S
    have HS := Lib.hid hS; clear hS
    go_enter Try.func105, Try.ntmps105
    go_wp2
    go_loopw [3, 12] (fun p i wr => ∃ k : Nat, k ≤ rs.length ∧ i = .int .i64 k ∧ p = .int .i64 (prevN rs k) ∧ Below w.heap.size w wr ∧ Hid (scanF (prevK rs k) (rs.drop k) = S)) (fun _ i _ => rs.length - (intOf i).toNat)
    case atStart => exact ⟨0, Nat.zero_le _, rfl, rfl, Below.refl _ _, HS.out⟩
    case round =>
      obtain ⟨k, hk, rfl, rfl, hbel, hsc⟩ := hrel
      by_cases hlt : k < rs.length
      · obtain ⟨b, off, hA, _, _, p0, p1, p2, p3⟩ := (ha.below' hbel).row_at hlt
        subst hA
        have hst := hsc.out
        rw [scanF_at rs k hlt] at hst
        have hwk := HWF.out rs[k] (List.getElem_mem hlt)
        have hpn := prevN_succ rs k hlt
        have hpt := prevN_test rs k rs[k]
        generalize prevN rs k = pn at *
        generalize rs[k] = r at *
        have HPN := Lib.hid hpn; clear hpn
        have HST := Lib.hid hst; clear hst
        have HPT := Lib.hid hpt; clear hpt
        have HB := Lib.hid hbel; clear hbel
        have HW := Lib.hid hwk; clear hwk
        go_wp2_with fail
        refine (implRowFault_a r _ HW.out).mono ?_
        rintro e w1 ⟨rfl, hb1⟩
        have hg1 : w1.heap[wr.heap.size]? = some (rbox r) := (hb1.block _ (by simp)).trans (heap_new wr _ rfl)
        obtain ⟨c0, c1, c2, c3, _, _, _, _, hz⟩ := four_at hg1
        have hb2 : Below w.heap.size w w1 := (HB.out.alloc HB.out.size _).trans (hb1.mono (by have := HB.out.size; simp; omega))
        have HB2 := Lib.hid hb2
        clear hg1 hb1 hb2 p0 p1 p2 p3
        by_cases hr0 : rowF r = 0
        · have hst := HST.out
          rw [if_neg (by simpa using hr0)] at hst
          have hf := fit_of_rowF hr0
          have htest := HPT.out hr0
          rw [hr0]
          have HF := Lib.hid hf; clear hf hr0
          go_wp2_with fail
          refine (rowKey_c r _ HF.out).mono ?_
          rintro e w2 ⟨rfl, rfl⟩
          by_cases hle : keyR r ≤ pn
          · rw [if_pos (htest.2 hle)] at hst
            have HFI := Lib.hid hst; clear hst htest
            go_wp2_with fail
            go_ret
            exact ⟨congrArg (fun z => Ending.returned (Value.int .i64 z)) HFI.out, HB2.out.alloc HB2.out.size _⟩
          · rw [if_neg (fun h => hle (htest.1 h))] at hst
            have HFI := Lib.hid hst; clear hst htest
            go_wp2_with fail
            refine (rowKey_c r _ HF.out).mono ?_
            rintro e w2 ⟨rfl, rfl⟩
            go_wp2_with fail
            exact ⟨⟨k + 1, by omega, by go_num, by rw [HPN.out], (HB2.out.alloc HB2.out.size _).alloc (by have := HB2.out.size; simp; omega) _, HFI.out⟩, by simp [intOf]; omega⟩
        · have hne : (rowF r != 0) = true := by simpa using hr0
          have hfin := HST.out
          rw [if_pos hr0] at hfin
          have HF := Lib.hid hfin; clear hfin hr0
          go_wp2
          go_ret
          exact ⟨congrArg (fun z => Ending.returned (Value.int .i64 z)) HF.out, HB2.out⟩
      · obtain rfl : k = rs.length := by omega
        have hfin := hsc.out
        rw [List.drop_length] at hfin
        have e0 : S = 0 := by rw [← hfin]; cases prevK rs rs.length <;> rfl
        have HF := Lib.hid e0; clear hfin e0
        have HB := Lib.hid hbel; clear hbel
        go_wp2
        go_ret
        exact ⟨congrArg (fun z => Ending.returned (Value.int .i64 z)) HF.out.symm, HB.out⟩

theorem implKeyOf_a : AskKeyOf := by
  intro l s w _ _
  cases h1 : inB l 0 3
  · have e : keyP l s = (3, 0) := by simp [keyP, isB, h1]
    rw [e]
    have H1 := Lib.hid h1; clear h1 e
    go_enter Try.func19, Try.ntmps19
    go_wp2_with (first
      | (go_at_call 75; refine (isLoc_b _ _ H1.out _).mono ?_; rintro e w' ⟨rfl, rfl⟩))
    exact bodyPost_ret (v := pairV (3, 0)) (by simp [results, Try.results19, go_sem]) rfl ⟨rfl, below_new _⟩
  · cases h2 : inB s 1 20
    · have e : keyP l s = (3, 0) := by simp [keyP, isB, h1, h2]
      rw [e]
      have H1 := Lib.hid h1; have H2 := Lib.hid h2; clear h1 h2 e
      go_enter Try.func19, Try.ntmps19
      go_wp2_with (first
        | (go_at_call 75; refine (isLoc_b _ _ H1.out _).mono ?_; rintro e w' ⟨rfl, rfl⟩)
        | (go_at_call 76; refine (isSku_b _ _ H2.out _).mono ?_; rintro e w' ⟨rfl, rfl⟩))
      exact bodyPost_ret (v := pairV (3, 0)) (by simp [results, Try.results19, go_sem]) rfl ⟨rfl, below_new _⟩
    · have e : keyP l s = (0, keyR (l, s, 0, 0)) := by simp [keyP, isB, h1, h2, keyR]
      rw [e]
      have hf : Fit (l, s, 0, 0) := by have := inB_true.1 h1; have := inB_true.1 h2; unfold Fit; simp only; omega
      have H1 := Lib.hid h1; have H2 := Lib.hid h2; have HF := Lib.hid hf; clear h1 h2 e hf
      go_enter Try.func19, Try.ntmps19
      go_wp2_with (first
        | (go_at_call 75; refine (isLoc_b _ _ H1.out _).mono ?_; rintro e w' ⟨rfl, rfl⟩)
        | (go_at_call 76; refine (isSku_b _ _ H2.out _).mono ?_; rintro e w' ⟨rfl, rfl⟩)
        | (go_at_call 69; refine (rowKey_c (l, s, 0, 0) _ HF.out).mono ?_; rintro e w' ⟨rfl, rfl⟩))
      exact bodyPost_ret (v := pairV (0, keyR (l, s, 0, 0))) (by simp [results, Try.results19, go_sem]) rfl ⟨rfl, below_more (below_new _) _⟩
end Go.Proofs.Ytoabohllphoioaa
