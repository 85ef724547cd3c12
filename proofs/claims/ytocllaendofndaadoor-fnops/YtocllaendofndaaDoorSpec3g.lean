/-
  Contracts of the model's functions of chapter 3, sixth part: numbers and operations as text.
-/
import Derived.Test.YtocllaendofndaaDoorSpec3c
import Derived.Test.YtocllaendofndaaDoorText3
import Derived.Laws.BytesArg
import Derived.Deep.RegionWith
namespace Go.Proofs.YtocllaendofndaaDoor
open Go.RowKit

/-- One byte in a block, as a string. -/
theorem byteText (b : Nat) (x : Int) (w : World) (hc : w.cell? ⟨b, 0, none⟩ = some (.int .u8 x)) : (convert 22 9 (.slice (some ⟨b, 0, none⟩) 1 1)).run Tryd.prog w = .ok (.string ⟨#[UInt8.ofNat x.toNat]⟩) w :=
  run_convert_bytes_arg w 22 5 Tryd.underlying22 Tryd.underlying5 b 0 1 1 [x] rfl (fun i hi => by
    have : i = 0 := by simp at hi; omega
    subst this
    simpa using hc) 9 Tryd.underlying9

theorem str_app (A B : List UInt8) : (⟨A.toArray⟩ : ByteArray) ++ ⟨B.toArray⟩ = ⟨(A ++ B).toArray⟩ := by
  apply ByteArray.ext
  simp [ByteArray.data_append]
theorem digits_len (n : Nat) : (digits n).length ≤ n + 1 := by
  induction n using Nat.strongRecOn with
  | _ n ih =>
    by_cases h : n < 10
    · rw [digits_small h]; simp
    · rw [digits_big h]
      have := ih (n / 10) (by omega)
      simp
      omega
theorem dig_add {n : Nat} (h : n < 10) : 48 + UInt8.ofNat n = dig n := by
  apply UInt8.toNat_inj.1
  rw [dig_nat, UInt8.toNat_add, UInt8.toNat_ofNat']
  simp
  omega
theorem dig_rem (n : Nat) : 48 + UInt8.ofNat (n % 10) = dig n := by
  apply UInt8.toNat_inj.1
  rw [dig_nat, UInt8.toNat_add, UInt8.toNat_ofNat']
  simp
  omega
set_option maxRecDepth 100000 in
set_option maxHeartbeats 2000000 in
theorem l1Digits_small (n : Nat) (h : n < 10) (w : World) :
    Calls Tryd.prog 49 #[.int .i64 n] w fun e w' => e = .returned (.string ⟨(digits n).toArray⟩) ∧ Below w.heap.size w w' := by
  rw [digits_small h]
  have hx : ((n : Int) < 10) := by omega
  have h0 : ¬ ((48 + (n : Int)) < 0) := by omega
  have hbt := byteText w.heap.size (48 + n) (w.alloc (.cells #[.int .u8 (48 + n)] 5)) (by simp [go_sem])
  go_enter Tryd.func49, Tryd.ntmps49
  go_wp2
  exact bodyPost_ret (v := .string ⟨#[48 + UInt8.ofNat n]⟩) (by simp [results, Tryd.results49, go_sem]) rfl ⟨by rw [dig_add h], below_new _⟩

theorem wrap_id {n : Int} (h0 : 0 ≤ n) (h1 : n < 9223372036854775808) : IntKind.i64.wrap n = n := by
  show (if (true && decide (n % 18446744073709551616 ≥ 9223372036854775808)) = true then n % 18446744073709551616 - 18446744073709551616 else n % 18446744073709551616) = _
  rw [if_neg (by simp; omega)]; omega
theorem wrap_u8 {n : Int} (h0 : 0 ≤ n) (h1 : n < 256) : IntKind.u8.wrap n = n := by
  show (if (false && decide (n % 256 ≥ 128)) = true then n % 256 - 256 else n % 256) = _
  rw [if_neg (by simp)]; omega
set_option maxRecDepth 100000 in
set_option maxHeartbeats 4000000 in
theorem l1Digits_big (n : Nat) (h : ¬ n < 10) (h5 : n ≤ 99999) (ih : ∀ w, Calls Tryd.prog 49 #[.int .i64 ((n / 10 : Nat) : Int)] w fun e w' => e = .returned (.string ⟨(digits (n / 10)).toArray⟩) ∧ Below w.heap.size w w') (w : World) :
    Calls Tryd.prog 49 #[.int .i64 n] w fun e w' => e = .returned (.string ⟨(digits n).toArray⟩) ∧ Below w.heap.size w w' := by
  rw [digits_big h]
  have hx : ¬ ((n : Int) < 10) := by omega
  have hq : Int.tdiv (n : Int) 10 = ((n / 10 : Nat) : Int) := by rw [Int.tdiv_eq_ediv_of_nonneg (by omega)]; omega
  have hr : Int.tmod (n : Int) 10 = ((n % 10 : Nat) : Int) := by rw [Int.tmod_eq_emod_of_nonneg (by omega)]; omega
  have hd := dig_rem n
  generalize hQ : n / 10 = q at *
  generalize hR : n % 10 = r at *
  have hr10 : r < 10 := by omega
  have hq9 : q ≤ 9999 := by omega
  have hwq : IntKind.i64.wrap (q : Int) = q := wrap_id (by omega) (by omega)
  have hwr : IntKind.i64.wrap (r : Int) = r := wrap_id (by omega) (by omega)
  have hws : IntKind.i64.wrap (48 + (r : Int)) = 48 + r := wrap_id (by omega) (by omega)
  have hwu : IntKind.u8.wrap (48 + (r : Int)) = 48 + r := wrap_u8 (by omega) (by omega)
  have hlen : (digits q).length ≤ 10000 := Nat.le_trans (digits_len q) (by omega)
  generalize digits q = D at *
  clear hQ hR h
  have IH := Lib.hid ih; clear ih
  have hbt := byteText w.heap.size (48 + r) (w.alloc (.cells #[.int .u8 (48 + r)] 5)).drew (cell_of_heap (heap_new w _ rfl))
  go_enter Tryd.func49, Tryd.ntmps49
  go_wp2_with fail
  go_region_with (go_at_call 49; refine (IH.out _).mono ?_; rintro e w' ⟨rfl, hb⟩; first | (have hbt2 := byteText w.heap.size (48 + r) w' (cell_of_heap ((hb.block _ (by simp)).trans (heap_new w (.cells #[.int .u8 (48 + r)] 5) rfl)))) | (have hbt3 := byteText w'.heap.size (48 + r) (w'.alloc (.cells #[.int .u8 (48 + r)] 5)) (by simp [go_sem])))
  all_goals
    go_wp2_with fail
    refine bodyPost_ret (v := .string (⟨D.toArray⟩ ++ ⟨#[UInt8.ofNat (48 + r)]⟩)) (by simp [results, Tryd.results49, go_sem, hd]) rfl ⟨?_, ?_⟩
    · rw [show UInt8.ofNat (48 + r) = dig n by rw [← hd]; exact UInt8.ofNat_add 48 r]
      exact congrArg (fun s => Ending.returned (Value.string s)) (str_app D [dig n])
    · first
        | exact below_more ((Below.refl _ _).drew.trans hb) _
        | exact (below_new _).drew.trans (hb.mono (by simp))
theorem l1Digits_c (n : Nat) : n ≤ 99999 → ∀ w, Calls Tryd.prog 49 #[.int .i64 n] w fun e w' => e = .returned (.string ⟨(digits n).toArray⟩) ∧ Below w.heap.size w w' := by
  induction n using Nat.strongRecOn with
  | _ n ih =>
    intro h5 w
    by_cases h : n < 10
    · exact l1Digits_small n h w
    · exact l1Digits_big n h h5 (fun w => ih (n / 10) (by omega) (by omega) w) w
end Go.Proofs.YtocllaendofndaaDoor
