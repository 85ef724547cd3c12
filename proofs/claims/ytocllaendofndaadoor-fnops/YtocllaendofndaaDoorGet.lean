/-
  Contracts of GetNumber, the program's and the model's.
-/
import Derived.Test.YtocllaendofndaaDoorPut
import Derived.Laws.BitsAllLaws
import Derived.Laws.BitsLemmas
namespace Go.Proofs.YtocllaendofndaaDoor
open Go.RowKit

/-- The number of two bytes. -/
def get2 (x y : Int) : Int := if 256 * x + y > 32767 then 256 * x + y - 65536 else 256 * x + y
theorem get2_hi {x y : Int} (h : 32767 < 256 * x + y) : get2 x y = 256 * x + y - 65536 := by unfold get2; rw [if_pos (by omega)]
theorem get2_lo {x y : Int} (h : 256 * x + y ≤ 32767) : get2 x y = 256 * x + y := by unfold get2; rw [if_neg (by omega)]
theorem wrapI16 (n : Int) : IntKind.i16.wrap n = (n + 32768) % 65536 - 32768 := by
  show (if (true && decide (n % 65536 ≥ 32768)) = true then n % 65536 - 65536 else n % 65536) = _
  by_cases h : n % 65536 ≥ 32768
  · rw [if_pos (by simpa using h)]; omega
  · rw [if_neg (by simpa using h)]; omega
theorem or_bytes {x y : Int} (x0 : 0 ≤ x) (x1 : x ≤ 255) (y0 : 0 ≤ y) (y1 : y ≤ 255) : bits .or .u16 (x * 256) y = 256 * x + y := by
  rw [u16_or _ _ (by omega) (by omega) y0 (by omega)]
  have e : (x * 256).toNat = 2 ^ 8 * x.toNat := by omega
  rw [e, ← Nat.two_pow_add_eq_or_of_lt (by omega : y.toNat < 2 ^ 8)]
  omega
theorem sign16 {x y : Int} (x0 : 0 ≤ x) (x1 : x ≤ 255) (y0 : 0 ≤ y) (y1 : y ≤ 255) : wrap64 (IntKind.i16.wrap (bits .or .u16 (x * 256) y)) = get2 x y := by
  rw [or_bytes x0 x1 y0 y1]
  have e : IntKind.i16.wrap (256 * x + y) = get2 x y := by
    rw [wrapI16]
    unfold get2
    split <;> omega
  rw [e]
  have b : -32768 ≤ get2 x y ∧ get2 x y ≤ 32767 := by unfold get2; split <;> omega
  unfold wrap64
  omega
set_option maxRecDepth 100000 in
set_option maxHeartbeats 1000000 in
theorem l1Get_c (A : Option Addr) (c : Nat) (zs : List Int) (k : Nat) (w : World) (fp : List Nat) (hk : k + 1 < zs.length) (hby : Byt zs)
    (ha : Rd w 1 (.slice A zs.length c) (cellsOf .u8 zs) fp) :
    Calls Tryd.prog 65 #[.slice A zs.length c, .int .i64 (k : Int)] w fun e w' => e = .returned (.int .i64 (get2 zs[k] zs[k + 1])) ∧ ∃ m, w' = w.drewN m := by
  have hmax := ha.len_le
  obtain ⟨b, off, hA, _, _, hc0⟩ := ha.ints_at (k := k) (by omega)
  subst hA
  obtain ⟨b', off', hA, _, _, hc1⟩ := ha.ints_at (k := k + 1) (by omega)
  injection hA with hA; injection hA with e1 e2 _; subst e1 e2
  have hx := hby.at_ (k := k) (by omega)
  have hy := hby.at_ (k := k + 1) (by omega)
  clear ha hby
  generalize zs[k] = x at *
  generalize zs[k + 1] = y at *
  obtain ⟨x0, x1⟩ := hx
  obtain ⟨y0, y1⟩ := hy
  have hk1 : k < zs.length := by omega
  have hk2 : ((k : Int) + 1) < (zs.length : Int) := by omega
  have ek : ((k : Int) + 1).toNat = k + 1 := by omega
  go_enter Tryd.func65, Tryd.ntmps65
  go_wp2_with fail
  go_quiet (fail)
  go_wp2_with fail
  all_goals
    go_ret
    refine ⟨?_, _, rfl⟩
    first
    | exact congrArg (fun z => Ending.returned (Value.int .i64 z)) (get2_hi ‹_›).symm
    | exact congrArg (fun z => Ending.returned (Value.int .i64 z)) (get2_lo ‹_›).symm

set_option maxRecDepth 100000 in
set_option maxHeartbeats 1000000 in
theorem shortAt_c (A : Option Addr) (c : Nat) (zs : List Int) (k : Nat) (w : World) (fp : List Nat) (hk : k + 1 < zs.length) (hby : Byt zs)
    (ha : Rd w 1 (.slice A zs.length c) (cellsOf .u8 zs) fp) :
    Calls Tryd.prog 62 #[.slice A zs.length c, .int .i64 (k : Int)] w fun e w' => e = .returned (.int .i64 (get2 zs[k] zs[k + 1])) ∧ ∃ m, w' = w.drewN m := by
  have hmax := ha.len_le
  obtain ⟨b, off, hA, _, _, hc0⟩ := ha.ints_at (k := k) (by omega)
  subst hA
  obtain ⟨b', off', hA, _, _, hc1⟩ := ha.ints_at (k := k + 1) (by omega)
  injection hA with hA; injection hA with e1 e2 _; subst e1 e2
  have hx := hby.at_ (k := k) (by omega)
  have hy := hby.at_ (k := k + 1) (by omega)
  clear ha hby
  generalize zs[k] = x at *
  generalize zs[k + 1] = y at *
  obtain ⟨x0, x1⟩ := hx
  obtain ⟨y0, y1⟩ := hy
  have hk1 : k < zs.length := by omega
  have hk2 : ((k : Int) + 1) < (zs.length : Int) := by omega
  have ek : ((k : Int) + 1).toNat = k + 1 := by omega
  go_enter Tryd.func62, Tryd.ntmps62
  go_wp2_with fail
  go_quiet (fail)
  go_wp2_with fail
  all_goals
    go_ret
    exact ⟨congrArg (fun z => Ending.returned (Value.int .i64 z)) (sign16 x0 x1 y0 y1), _, rfl⟩
/-- The code and the number of GetNumber. -/
def getP (zs : List Int) (p : Int) : Int × Int := if 0 ≤ p ∧ p + 1 < zs.length then (0, get2 (zs.getD p.toNat 0) (zs.getD (p.toNat + 1) 0)) else (3, 0)
theorem getP_no {zs : List Int} {p : Int} (h : ¬ (0 ≤ p ∧ p + 1 < zs.length)) : getP zs p = (3, 0) := by unfold getP; rw [if_neg h]
theorem getP_at {zs : List Int} {k : Nat} (h : k + 1 < zs.length) : getP zs (k : Int) = (0, get2 zs[k] zs[k + 1]) := by
  unfold getP
  rw [if_pos (by omega), Int.toNat_natCast, List.getD_eq_getElem?_getD, List.getD_eq_getElem?_getD, List.getElem?_eq_getElem (by omega), List.getElem?_eq_getElem h]
  rfl

end Go.Proofs.YtocllaendofndaaDoor
