/-
  Contracts of the laws' helpers over operations and texts.
-/
import Derived.Test.YtocllaendofndaaDoorOps7
import Derived.WalkKit
import Derived.ProofKit
import Derived.WalkSpells
namespace Go.Proofs.YtocllaendofndaaDoor
open Go.RowKit

/-- A code and an operation as a value. -/
abbrev orv (code : Int) (o : O) : Value := .agg #[.int .i64 code, .int .i64 o.k, .int .i64 o.rq, .int .i64 o.lc, .int .i64 o.tt, .int .i64 o.sk, .int .i64 o.qt, .int .i64 o.hd]

set_option maxRecDepth 100000 in
set_option maxHeartbeats 1000000 in
theorem toOp_c (o : O) (w : World) :
    Calls Tryd.prog 20 #[ov o] w fun e w' => e = .returned (ov o) ∧ Below w.heap.size w w' := by
  go_enter Tryd.func20, Tryd.ntmps20
  go_wp2
  refine bodyPost_ret (v := ov o) (by simp [results, Tryd.results20, go_sem]) rfl ⟨rfl, ?_⟩
  exact (((Below.refl _ _).alloc (Nat.le_refl _) _).alloc (by simp) _).alloc (by simp; omega) _

set_option maxRecDepth 100000 in
set_option maxHeartbeats 1000000 in
theorem eqOp_c (o : O) (w : World) :
    Calls Tryd.prog 43 #[ov o, ov o] w fun e w' => e = .returned (.bool true) ∧ Below w.heap.size w w' := by
  go_enter Tryd.func43, Tryd.ntmps43
  go_wp2
  go_ret
  exact ⟨rfl, ((Below.refl _ _).alloc (Nat.le_refl _) _).alloc (by simp) _⟩

set_option maxRecDepth 100000 in
set_option maxHeartbeats 1000000 in
theorem eqOpResult_c (code : Int) (o : O) (w : World) :
    Calls Tryd.prog 22 #[orv code o, orv code o] w fun e w' => e = .returned (.bool true) ∧ Below w.heap.size w w' := by
  go_enter Tryd.func22, Tryd.ntmps22
  go_wp2_with fail
  refine (eqOp_c o _).mono ?_
  rintro e w1 ⟨rfl, hb1⟩
  have HB := Lib.hid hb1; clear hb1
  go_wp2
  go_ret
  exact ⟨rfl, (((Below.refl _ _).alloc (Nat.le_refl _) _).alloc (by simp) _).trans (HB.out.mono (by simp; omega))⟩

set_option maxRecDepth 100000 in
set_option maxHeartbeats 1000000 in
theorem eqTextResult_c (code : Int) (s : ByteArray) (w : World) :
    Calls Tryd.prog 21 #[.agg #[.int .i64 code, .string s], .agg #[.int .i64 code, .string s]] w fun e w' => e = .returned (.bool true) ∧ Below w.heap.size w w' := by
  go_enter Tryd.func21, Tryd.ntmps21
  go_wp2
  go_ret
  exact ⟨rfl, ((Below.refl _ _).alloc (Nat.le_refl _) _).alloc (by simp) _⟩
end Go.Proofs.YtocllaendofndaaDoor
