/-
  Contracts of the program's functions of chapter 3, first part: limits, numbers and the fault of an operation.
-/
import Derived.Test.YtocllaendofndaaDoorG4
import Derived.Test.YtocllaendofndaaDoorG3
import Derived.Laws.StructEq
import Derived.ChangeKeysEq
import Derived.KernelRfl
namespace Go.Proofs.YtocllaendofndaaDoor
open Go.RowKit

/-- The limits of Req, Loc, To, Sku, Qty and Hold. -/
structure L6 where
  q0 : Int × Int
  q1 : Int × Int
  q2 : Int × Int
  q3 : Int × Int
  q4 : Int × Int
  q5 : Int × Int
def limOf (k : Int) : L6 :=
  if k = 1 then ⟨(0, 999), (0, 3), (0, 0), (1, 20), (1, 9999), (0, 0)⟩ else if k = 2 then ⟨(0, 999), (0, 3), (0, 0), (1, 20), (1, 9999), (0, 0)⟩ else if k = 3 then ⟨(0, 999), (0, 3), (1, 999), (1, 20), (1, 9999), (1, 50)⟩
  else if k = 4 then ⟨(0, 999), (0, 0), (0, 0), (0, 0), (0, 0), (1, 50)⟩ else if k = 5 then ⟨(0, 999), (0, 0), (0, 0), (0, 0), (0, 0), (1, 50)⟩ else if k = 6 then ⟨(0, 999), (0, 3), (0, 3), (1, 20), (1, 9999), (0, 0)⟩
  else if k = 7 then ⟨(0, 0), (0, 0), (0, 0), (0, 0), (1, 999), (0, 0)⟩ else ⟨(0, 0), (0, 0), (0, 0), (0, 0), (0, 0), (0, 0)⟩
abbrev lmv (p : Int × Int) : Value := .agg #[.int .i64 p.1, .int .i64 p.2]
abbrev lv (l : L6) : Value := .agg #[.int .i64 l.q0.1, .int .i64 l.q0.2, .int .i64 l.q1.1, .int .i64 l.q1.2, .int .i64 l.q2.1, .int .i64 l.q2.2, .int .i64 l.q3.1, .int .i64 l.q3.2, .int .i64 l.q4.1, .int .i64 l.q4.2, .int .i64 l.q5.1, .int .i64 l.q5.2]

set_option maxRecDepth 100000 in
set_option maxHeartbeats 2000000 in
theorem opLimits_1 (w : World) : Calls Tryd.prog 42 #[.int .i64 1] w fun e w' => e = .returned (.tuple #[lv (limOf 1), .bool true]) ∧ Below w.heap.size w w' := by
  have hl : limOf 1 = ⟨(0, 999), (0, 3), (0, 0), (1, 20), (1, 9999), (0, 0)⟩ := rfl
  rw [hl]
  clear hl
  go_enter Tryd.func42, Tryd.ntmps42
  go_wp2
  exact bodyPost_ret (v := .tuple #[lv ⟨(0, 999), (0, 3), (0, 0), (1, 20), (1, 9999), (0, 0)⟩, .bool true]) (by simp [results, Tryd.results42, go_sem]) rfl ⟨rfl, by repeat (first | exact Below.refl _ _ | (refine below_more ?_ _))⟩
set_option maxRecDepth 100000 in
set_option maxHeartbeats 2000000 in
theorem opLimits_2 (w : World) : Calls Tryd.prog 42 #[.int .i64 2] w fun e w' => e = .returned (.tuple #[lv (limOf 2), .bool true]) ∧ Below w.heap.size w w' := by
  have hl : limOf 2 = ⟨(0, 999), (0, 3), (0, 0), (1, 20), (1, 9999), (0, 0)⟩ := rfl
  rw [hl]
  clear hl
  go_enter Tryd.func42, Tryd.ntmps42
  go_wp2
  exact bodyPost_ret (v := .tuple #[lv ⟨(0, 999), (0, 3), (0, 0), (1, 20), (1, 9999), (0, 0)⟩, .bool true]) (by simp [results, Tryd.results42, go_sem]) rfl ⟨rfl, by repeat (first | exact Below.refl _ _ | (refine below_more ?_ _))⟩
set_option maxRecDepth 100000 in
set_option maxHeartbeats 2000000 in
theorem opLimits_3 (w : World) : Calls Tryd.prog 42 #[.int .i64 3] w fun e w' => e = .returned (.tuple #[lv (limOf 3), .bool true]) ∧ Below w.heap.size w w' := by
  have hl : limOf 3 = ⟨(0, 999), (0, 3), (1, 999), (1, 20), (1, 9999), (1, 50)⟩ := rfl
  rw [hl]
  clear hl
  go_enter Tryd.func42, Tryd.ntmps42
  go_wp2
  exact bodyPost_ret (v := .tuple #[lv ⟨(0, 999), (0, 3), (1, 999), (1, 20), (1, 9999), (1, 50)⟩, .bool true]) (by simp [results, Tryd.results42, go_sem]) rfl ⟨rfl, by repeat (first | exact Below.refl _ _ | (refine below_more ?_ _))⟩
set_option maxRecDepth 100000 in
set_option maxHeartbeats 2000000 in
theorem opLimits_4 (w : World) : Calls Tryd.prog 42 #[.int .i64 4] w fun e w' => e = .returned (.tuple #[lv (limOf 4), .bool true]) ∧ Below w.heap.size w w' := by
  have hl : limOf 4 = ⟨(0, 999), (0, 0), (0, 0), (0, 0), (0, 0), (1, 50)⟩ := rfl
  rw [hl]
  clear hl
  go_enter Tryd.func42, Tryd.ntmps42
  go_wp2
  exact bodyPost_ret (v := .tuple #[lv ⟨(0, 999), (0, 0), (0, 0), (0, 0), (0, 0), (1, 50)⟩, .bool true]) (by simp [results, Tryd.results42, go_sem]) rfl ⟨rfl, by repeat (first | exact Below.refl _ _ | (refine below_more ?_ _))⟩
set_option maxRecDepth 100000 in
set_option maxHeartbeats 2000000 in
theorem opLimits_5 (w : World) : Calls Tryd.prog 42 #[.int .i64 5] w fun e w' => e = .returned (.tuple #[lv (limOf 5), .bool true]) ∧ Below w.heap.size w w' := by
  have hl : limOf 5 = ⟨(0, 999), (0, 0), (0, 0), (0, 0), (0, 0), (1, 50)⟩ := rfl
  rw [hl]
  clear hl
  go_enter Tryd.func42, Tryd.ntmps42
  go_wp2
  exact bodyPost_ret (v := .tuple #[lv ⟨(0, 999), (0, 0), (0, 0), (0, 0), (0, 0), (1, 50)⟩, .bool true]) (by simp [results, Tryd.results42, go_sem]) rfl ⟨rfl, by repeat (first | exact Below.refl _ _ | (refine below_more ?_ _))⟩
set_option maxRecDepth 100000 in
set_option maxHeartbeats 2000000 in
theorem opLimits_6 (w : World) : Calls Tryd.prog 42 #[.int .i64 6] w fun e w' => e = .returned (.tuple #[lv (limOf 6), .bool true]) ∧ Below w.heap.size w w' := by
  have hl : limOf 6 = ⟨(0, 999), (0, 3), (0, 3), (1, 20), (1, 9999), (0, 0)⟩ := rfl
  rw [hl]
  clear hl
  go_enter Tryd.func42, Tryd.ntmps42
  go_wp2
  exact bodyPost_ret (v := .tuple #[lv ⟨(0, 999), (0, 3), (0, 3), (1, 20), (1, 9999), (0, 0)⟩, .bool true]) (by simp [results, Tryd.results42, go_sem]) rfl ⟨rfl, by repeat (first | exact Below.refl _ _ | (refine below_more ?_ _))⟩
set_option maxRecDepth 100000 in
set_option maxHeartbeats 2000000 in
theorem opLimits_7 (w : World) : Calls Tryd.prog 42 #[.int .i64 7] w fun e w' => e = .returned (.tuple #[lv (limOf 7), .bool true]) ∧ Below w.heap.size w w' := by
  have hl : limOf 7 = ⟨(0, 0), (0, 0), (0, 0), (0, 0), (1, 999), (0, 0)⟩ := rfl
  rw [hl]
  clear hl
  go_enter Tryd.func42, Tryd.ntmps42
  go_wp2
  exact bodyPost_ret (v := .tuple #[lv ⟨(0, 0), (0, 0), (0, 0), (0, 0), (1, 999), (0, 0)⟩, .bool true]) (by simp [results, Tryd.results42, go_sem]) rfl ⟨rfl, by repeat (first | exact Below.refl _ _ | (refine below_more ?_ _))⟩
set_option maxRecDepth 100000 in
set_option maxHeartbeats 2000000 in
theorem opLimits_no (k : Int) (h1 : ¬ k = 1) (h2 : ¬ k = 2) (h3 : ¬ k = 3) (h4 : ¬ k = 4) (h5 : ¬ k = 5) (h6 : ¬ k = 6) (h7 : ¬ k = 7) (w : World) : Calls Tryd.prog 42 #[.int .i64 k] w fun e w' => e = .returned (.tuple #[lv ⟨(0, 0), (0, 0), (0, 0), (0, 0), (0, 0), (0, 0)⟩, .bool false]) ∧ Below w.heap.size w w' := by
  go_enter Tryd.func42, Tryd.ntmps42
  go_wp2
  exact bodyPost_ret (v := .tuple #[lv ⟨(0, 0), (0, 0), (0, 0), (0, 0), (0, 0), (0, 0)⟩, .bool false]) (by simp [results, Tryd.results42, go_sem]) rfl ⟨rfl, by repeat (first | exact Below.refl _ _ | (refine below_more ?_ _))⟩
theorem opLimits_c (k : Int) (h : inB k 1 7 = true) (w : World) : Calls Tryd.prog 42 #[.int .i64 k] w fun e w' => e = .returned (.tuple #[lv (limOf k), .bool true]) ∧ Below w.heap.size w w' := by
  have hk := inB_true.1 h
  have h7 : k = 1 ∨ k = 2 ∨ k = 3 ∨ k = 4 ∨ k = 5 ∨ k = 6 ∨ k = 7 := by omega
  rcases h7 with rfl | rfl | rfl | rfl | rfl | rfl | rfl
  · exact opLimits_1 w
  · exact opLimits_2 w
  · exact opLimits_3 w
  · exact opLimits_4 w
  · exact opLimits_5 w
  · exact opLimits_6 w
  · exact opLimits_7 w

theorem opNumbers_c (o : O) (w : World) : Calls Tryd.prog 36 #[ov o] w fun e w' => e = .returned (ov o) ∧ Below w.heap.size w w' := by
  go_enter Tryd.func36, Tryd.ntmps36
  go_wp2
  exact bodyPost_ret (v := ov o) (by simp [results, Tryd.results36, go_sem]) rfl ⟨rfl, by repeat (first | exact Below.refl _ _ | (refine below_more ?_ _))⟩
end Go.Proofs.YtocllaendofndaaDoor
