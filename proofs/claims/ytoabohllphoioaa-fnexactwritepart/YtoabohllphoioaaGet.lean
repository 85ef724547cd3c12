/-
  Contracts of GetNumber, the program's and the model's.
-/
import Derived.Test.YtoabohllphoioaaPut
import Derived.Laws.BitsAllLaws
import Derived.Laws.BitsLemmas
namespace Go.Proofs.Ytoabohllphoioaa
open Go.RowKit

/-- The number of two bytes. -/
def get2 (x y : Int) : Int := if 256 * x + y > 32767 then 256 * x + y - 65536 else 256 * x + y
theorem get2_hi {x y : Int} (h : 32767 < 256 * x + y) : get2 x y = 256 * x + y - 65536 := by unfold get2; rw [if_pos (by omega)]
theorem get2_lo {x y : Int} (h : 256 * x + y ≤ 32767) : get2 x y = 256 * x + y := by unfold get2; rw [if_neg (by omega)]
theorem wrapI16 (n : Int) : IntKind.i16.wrap n = (n + 32768) % 65536 - 32768 := by
  show (if (true && decide (n % 65536 ≥ 32768)) = true then n % 65536 - 65536 else n % 65536) = _
  by_cases h : n % 65536 ≥ 32768
  · rw [if_pos (by simpa using h)]; omega
  · rw [if_neg (by simpa using h)]; omega
theorem or_bytes {x y : Int} (x0 : 0 ≤ x) (x1 : x ≤ 255) (y0 : 0 ≤ y) (y1 : y ≤ 255) : bits .or .u16 (x * 256) y = 256 * x + y := by
  rw [u16_or _ _ (by omega) (by omega) y0 (by omega)]
  have e : (x * 256).toNat = 2 ^ 8 * x.toNat := by omega
  rw [e, ← Nat.two_pow_add_eq_or_of_lt (by omega : y.toNat < 2 ^ 8)]
  omega
theorem sign16 {x y : Int} (x0 : 0 ≤ x) (x1 : x ≤ 255) (y0 : 0 ≤ y) (y1 : y ≤ 255) : wrap64 (IntKind.i16.wrap (bits .or .u16 (x * 256) y)) = get2 x y := by
  rw [or_bytes x0 x1 y0 y1]
  have e : IntKind.i16.wrap (256 * x + y) = get2 x y := by
    rw [wrapI16]
    unfold get2
    split <;> omega
  rw [e]
  have b : -32768 ≤ get2 x y ∧ get2 x y ≤ 32767 := by unfold get2; split <;> omega
  unfold wrap64
  omega
/-- The code and the number of GetNumber. -/
def getP (zs : List Int) (p : Int) : Int × Int := if 0 ≤ p ∧ p + 1 < zs.length then (0, get2 (zs.getD p.toNat 0) (zs.getD (p.toNat + 1) 0)) else (3, 0)
theorem getP_no {zs : List Int} {p : Int} (h : ¬ (0 ≤ p ∧ p + 1 < zs.length)) : getP zs p = (3, 0) := by unfold getP; rw [if_neg h]
theorem getP_at {zs : List Int} {k : Nat} (h : k + 1 < zs.length) : getP zs (k : Int) = (0, get2 zs[k] zs[k + 1]) := by
  unfold getP
  rw [if_pos (by omega), Int.toNat_natCast, List.getD_eq_getElem?_getD, List.getD_eq_getElem?_getD, List.getElem?_eq_getElem (by omega), List.getElem?_eq_getElem h]
  rfl

end Go.Proofs.Ytoabohllphoioaa
