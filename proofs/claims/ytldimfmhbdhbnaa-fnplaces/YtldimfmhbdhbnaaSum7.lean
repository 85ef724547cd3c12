/-
  The checksum, and the part of a row: the model's functions and the program's.
-/
import Derived.Test.YtldimfmhbdhbnaaPlain7
import Derived.Test.YtldimfmhbdhbnaaG27
namespace Go.Proofs.Ytldimfmhbdhbnaa
open Go.RowKit

set_option maxRecDepth 100000 in
set_option maxHeartbeats 1000000 in
theorem l1Sum_c (A : Option Addr) (c : Nat) (zs : List Int) (w : World) (fp : List Nat) (hz : Byt zs) (ha : Rd w 1 (.slice A zs.length c) (cellsOf .u8 zs) fp) :
    Calls Try.prog 114 #[.slice A zs.length c] w fun e w' => e = .returned (.int .i64 (sumL zs)) ∧ w = w' := by
  have hmax := ha.len_le
  have HZ := Lib.hid hz; have HA := Lib.hid ha
  clear hz ha
  go_enter Try.func114, Try.ntmps114
  go_wp2
  go_loop [3, 4] (fun s i => ∃ k : Nat, k ≤ zs.length ∧ i = .int .i64 k ∧ ∃ n : Int, s = .int .i64 n ∧ Hid (n = sumL (zs.take k)) ∧ 0 ≤ n ∧ n ≤ 65520) (fun _ i => zs.length - (intOf i).toNat)
  case atStart => exact ⟨0, Nat.zero_le _, rfl, 19, rfl, Lib.hid rfl, by omega, by omega⟩
  case round =>
    obtain ⟨k, hk, rfl, n, rfl, hn, n0, n1⟩ := hrel
    by_cases hlt : k < zs.length
    · obtain ⟨b, off, rfl, _, hbl, hc⟩ := HA.out.ints_at hlt
      obtain ⟨z0, z1⟩ := HZ.out.at_ hlt
      have ht := sumL_take zs k hlt
      rw [← hn.out] at ht
      have hbd := sumStep_bd n zs[k]
      generalize zs[k] = z at *
      have HT := Lib.hid ht; clear ht
      go_wp2
      exact ⟨⟨k + 1, by omega, by go_num, sumStep n z, rfl, Lib.hid HT.out.symm, hbd.1, hbd.2⟩, by simp [intOf]; omega⟩
    · obtain rfl : k = zs.length := by omega
      have h := hn.out
      rw [List.take_length] at h
      have H := Lib.hid h; clear h
      go_wp2
      go_ret
      exact ⟨by rw [H.out]; rfl, rfl⟩

theorem nextSum_c (n z : Int) (w : World) (h0 : 0 ≤ n) (h1 : n ≤ 65520) (z0 : 0 ≤ z) (z1 : z ≤ 255) :
    Calls Try.prog 133 #[.int .i64 n, .int .u8 z] w fun e w' => e = .returned (.int .i64 (sumStep n z)) ∧ w = w' := by
  go_enter Try.func133, Try.ntmps133
  go_wp2
  go_ret
  exact ⟨by unfold sumStep; rw [show n * 241 + z + 1 = 241 * n + z + 1 by omega]; rfl, rfl⟩

set_option maxRecDepth 100000 in
set_option maxHeartbeats 1000000 in
theorem sumBytes_c (A : Option Addr) (c : Nat) (zs : List Int) (w : World) (fp : List Nat) (hz : Byt zs) (ha : Rd w 1 (.slice A zs.length c) (cellsOf .u8 zs) fp) :
    Calls Try.prog 116 #[.slice A zs.length c] w fun e w' => e = .returned (.int .i64 (sumL zs)) ∧ w = w' := by
  have hmax := ha.len_le
  have HZ := Lib.hid hz; have HA := Lib.hid ha
  clear hz ha
  go_enter Try.func116, Try.ntmps116
  go_wp2
  go_loop [3, 8] (fun s i => ∃ k : Nat, k ≤ zs.length ∧ i = .int .i64 k ∧ ∃ n : Int, s = .int .i64 n ∧ Hid (n = sumL (zs.take k)) ∧ 0 ≤ n ∧ n ≤ 65520) (fun _ i => zs.length - (intOf i).toNat)
  case atStart => exact ⟨0, Nat.zero_le _, rfl, 19, rfl, Lib.hid rfl, by omega, by omega⟩
  case round =>
    obtain ⟨k, hk, rfl, n, rfl, hn, n0, n1⟩ := hrel
    by_cases hlt : k < zs.length
    · obtain ⟨b, off, rfl, _, hbl, hc⟩ := HA.out.ints_at hlt
      obtain ⟨z0, z1⟩ := HZ.out.at_ hlt
      have ht := sumL_take zs k hlt
      rw [← hn.out] at ht
      have hbd := sumStep_bd n zs[k]
      generalize zs[k] = z at *
      have HT := Lib.hid ht; clear ht
      go_wp2_with fail
      refine (nextSum_c n z _ n0 n1 z0 z1).mono ?_
      rintro e w1 ⟨rfl, hw⟩
      subst hw
      go_wp2_with fail
      exact ⟨⟨k + 1, by omega, by go_num, sumStep n z, rfl, Lib.hid HT.out.symm, hbd.1, hbd.2⟩, by simp [intOf]; omega⟩
    · obtain rfl : k = zs.length := by omega
      have h := hn.out
      rw [List.take_length] at h
      have H := Lib.hid h; clear h
      go_wp2
      go_ret
      exact ⟨by rw [H.out]; rfl, rfl⟩

theorem shortB_of {z : Int} (h0 : 0 ≤ z) (h1 : z ≤ 100) : shortB z = true := inB_true.2 ⟨by omega, by omega⟩
theorem allShort_two {l s : Int} (h0 : 0 ≤ l) (h1 : l ≤ 100) (h2 : 0 ≤ s) (h3 : s ≤ 100) : allShort [l, s] := by
  intro k hk
  match k, hk with
  | 0, _ => exact shortB_of h0 h1
  | 1, _ => exact shortB_of h2 h3
theorem byt_pk (l s : Int) : Byt (pk [l, s] 2) := by
  intro z hz
  simp only [pk, List.length_cons, List.length_nil, List.take_succ_cons, List.take_zero, List.flatMap_cons, List.flatMap_nil, List.append_nil, put2, List.mem_cons, List.mem_append, List.not_mem_nil, or_false] at hz
  omega
/-- Two integers in a block of their own. -/
theorem two_ints (w : World) (l s : Int) (t : TypeId) : Rd (w.alloc (.cells #[.int .i64 l, .int .i64 s] t)) 1 (.slice (some ⟨w.heap.size, 0, none⟩) [l, s].length 2) (cellsOf .i64 [l, s]) [w.heap.size] :=
  ⟨_, 2, 2, rfl, rfl, by unfold maxLen; omega, Nat.le_refl _, .inr ⟨_, 0, rfl, rfl, heap_lt (heap_new w _ rfl), fun i u hu => by
    rw [Nat.zero_add, cell_of_heap (heap_new w _ rfl), List.getElem?_toArray]; exact hu⟩⟩

theorem l1Sum_q (A : Option Addr) (c : Nat) (zs : List Int) (S : Int) (hS : sumL zs = S) (w : World) (fp : List Nat) (hz : Byt zs) (ha : Rd w 1 (.slice A zs.length c) (cellsOf .u8 zs) fp) :
    Calls Try.prog 114 #[.slice A zs.length c] w fun e w' => e = .returned (.int .i64 S) ∧ w = w' := by subst hS; exact l1Sum_c A c zs w fp hz ha
theorem sumBytes_q (A : Option Addr) (c : Nat) (zs : List Int) (S : Int) (hS : sumL zs = S) (w : World) (fp : List Nat) (hz : Byt zs) (ha : Rd w 1 (.slice A zs.length c) (cellsOf .u8 zs) fp) :
    Calls Try.prog 116 #[.slice A zs.length c] w fun e w' => e = .returned (.int .i64 S) ∧ w = w' := by subst hS; exact sumBytes_c A c zs w fp hz ha
/-- Two short numbers packed, in memory of the call's own. -/
theorem packTwo_c (l s : Int) (w : World) (B : Nat) (t : TypeId) (P : List Int) (hP : pk [l, s] 2 = P) (h0 : 0 ≤ l) (h1 : l ≤ 100) (h2 : 0 ≤ s) (h3 : s ≤ 100) (hB : w.heap.size = B) :
    Calls Try.prog 115 #[.slice (some ⟨B, 0, none⟩) 2 2] (w.alloc (.cells #[.int .i64 l, .int .i64 s] t)) (SlicePost .u8 (w.alloc (.cells #[.int .i64 l, .int .i64 s] t)) P) := by
  subst hP hB
  exact l1Pack_c _ 2 [l, s] _ _ (by simp) (allShort_two h0 h1 h2 h3) (two_ints w l s t)
theorem packTwoI_c (l s : Int) (w : World) (B : Nat) (t : TypeId) (P : List Int) (hP : pk [l, s] 2 = P) (h0 : 0 ≤ l) (h1 : l ≤ 100) (h2 : 0 ≤ s) (h3 : s ≤ 100) (hB : w.heap.size = B) :
    Calls Try.prog 117 #[.slice (some ⟨B, 0, none⟩) 2 2] (w.alloc (.cells #[.int .i64 l, .int .i64 s] t)) (BytesPost (w.alloc (.cells #[.int .i64 l, .int .i64 s] t)) 0 P) := by
  subst hP hB
  have h := implPackNumbers_c _ 2 [l, s] _ _ (two_ints w l s t)
  rw [packC_0 (by simp) (allShort_two h0 h1 h2 h3), packL_0 (by simp) (allShort_two h0 h1 h2 h3)] at h
  exact h

set_option maxRecDepth 100000 in
set_option maxHeartbeats 1000000 in
theorem l7Part_c (l s : Int) (w : World) (h0 : 0 ≤ l) (h1 : l ≤ 3) (h2 : 1 ≤ s) (h3 : s ≤ 20) :
    Calls Try.prog 136 #[.int .i64 l, .int .i64 s] w fun e w' => e = .returned (.int .i64 (partI l s)) ∧ Below w.heap.size w w' := by
  unfold partI
  have hbd := sumL_bd (pk [l, s] 2)
  have hby := byt_pk l s
  generalize hP : pk [l, s] 2 = P at *
  generalize hS : sumL P = S at *
  have hcall := packTwo_c l s w w.heap.size 2 P hP h0 (by omega) (by omega) (by omega) rfl
  have HS := Lib.hid hS; have HBY := Lib.hid hby; have HC := Lib.hid hcall
  clear hP hS hby hcall h0 h1 h2 h3
  go_enter Try.func136, Try.ntmps136
  go_wp2_with fail
  refine HC.out.mono ?_
  rintro e w1 ⟨v1, f1, rfl, hr1, hn1, hf1, hb1⟩
  obtain ⟨A1, c1, rfl⟩ := hr1.form
  have HR1 := Lib.hid hr1
  have HB := Lib.hid ((below_new (w := w) (.cells #[.int .i64 l, .int .i64 s] 2)).trans (hb1.mono (by simp)))
  clear hr1 hn1 hf1 hb1
  go_wp2_with fail
  refine (l1Sum_q A1 c1 P S HS.out _ f1 HBY.out HR1.out).mono ?_
  rintro e w2 ⟨rfl, hw⟩
  subst hw
  go_wp2
  go_ret
  exact ⟨rfl, HB.out⟩

theorem fldB7 (x y : Value) (w : World) : (Instr.field 145 (.agg #[x, y]) 1).run Try.prog w = .ok y w := by kernel_rfl

set_option maxRecDepth 100000 in
set_option maxHeartbeats 1000000 in
theorem rowPart_c (r : R) (w : World) (hf : Fit r) :
    Calls Try.prog 151 #[rv r] w fun e w' => e = .returned (.int .i64 (rpart r)) ∧ Below w.heap.size w w' := by
  obtain ⟨l, s, h, d⟩ := r
  obtain ⟨h0, h1, h2, h3⟩ := hf
  simp only at h0 h1 h2 h3
  unfold rpart partI
  simp only
  have hbd := sumL_bd (pk [l, s] 2)
  have hby := byt_pk l s
  generalize hP : pk [l, s] 2 = P at *
  generalize hS : sumL P = S at *
  have hcall := packTwoI_c l s (w.alloc (.cells #[.int .i64 l, .int .i64 s, .int .i64 h, .int .i64 d] 34)) (w.heap.size + 1) 2 P hP h0 (by omega) (by omega) (by omega) (by simp)
  have HS := Lib.hid hS; have HBY := Lib.hid hby; have HC := Lib.hid hcall
  clear hP hS hby hcall h0 h1 h2 h3
  go_enter Try.func151, Try.ntmps151
  go_wp2_with fail
  refine HC.out.mono ?_
  rintro e w1 ⟨q, rfl, ⟨v1, f1, rfl, hr1, hn1, hf1⟩, hb1⟩
  obtain ⟨A1, c1, rfl⟩ := hr1.form
  have HR1 := Lib.hid hr1
  have HB := Lib.hid ((below_more (below_new (w := w) (.cells #[.int .i64 l, .int .i64 s, .int .i64 h, .int .i64 d] 34)) (.cells #[.int .i64 l, .int .i64 s] 2)).trans (hb1.mono (by simp; omega)))
  have q1 := fun w => fldB7 (.int .i64 0) (.slice A1 P.length c1) w
  clear hr1 hn1 hf1 hb1
  go_wp2_with fail
  refine (sumBytes_q A1 c1 P S HS.out _ f1 HBY.out HR1.out).mono ?_
  rintro e w2 ⟨rfl, hw⟩
  subst hw
  clear q1
  go_wp2
  go_ret
  exact ⟨rfl, HB.out⟩

def poP (l s : Int) : Int × Int := if isB l s then (0, partI l s) else (3, 0)
end Go.Proofs.Ytldimfmhbdhbnaa
