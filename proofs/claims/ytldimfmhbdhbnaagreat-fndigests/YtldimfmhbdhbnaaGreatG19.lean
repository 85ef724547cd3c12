/-
  Contracts of PutNumber, the program's and the model's: both answer the two bytes of a short number.
-/
import Derived.Test.YtldimfmhbdhbnaaGreatG4
import Derived.Test.YtldimfmhbdhbnaaGreatAddQ
import Derived.Laws.AppendOwn
import Derived.Laws.BitsAllLaws
import Derived.Laws.BitsLemmas
namespace Go.Proofs.YtldimfmhbdhbnaaGreat
open Go.RowKit

def shortB (n : Int) : Bool := inB n (-32768) 32767
/-- The two bytes of a short number. -/
def put2 (n : Int) : List Int := [n / 256 % 256, n % 256]
/-- The code and the bytes of PutNumber. -/
def putC (n : Int) : Int := if shortB n then 0 else 3
def putL (n : Int) : List Int := if shortB n then put2 n else []

theorem isShort_c (n : Int) (w : World) :
    Calls Tryz.prog 114 #[.int .i64 n] w fun e w' => e = .returned (.bool (shortB n)) ∧ w = w' := by
  by_cases h1 : -32768 ≤ n <;> by_cases h2 : n ≤ 32767
  all_goals
    go_enter Tryz.func114, Tryz.ntmps114
    go_wp2
    go_ret
    refine ⟨?_, rfl⟩
    simp [shortB, inB, *]

theorem grownBy_trans {a b c : World} {row : Option Nat} (h : a.grownBy b row) (k : b.grownBy c row) : a.grownBy c row :=
  ⟨k.os.trans h.os, k.tape.trans h.tape, k.output.trans h.output, Nat.le_trans h.size k.size, fun i hi hn => (k.block i (Nat.lt_of_lt_of_le hi h.size) hn).trans (h.block i hi hn)⟩

theorem l1Put_c (n : Int) (w : World) (hs : shortB n = true) :
    Calls Tryz.prog 116 #[.int .i64 n] w fun e w' => e = .returned (.slice (some ⟨w.heap.size, 0, none⟩) 2 2) ∧ w' = w.alloc (.cells (cellsOf .u8 (put2 n)).toArray 5) := by
  obtain ⟨h1, h2⟩ := inB_true.1 hs
  have HS := Lib.hid hs; clear hs
  by_cases h0 : n < 0
  · go_enter Tryz.func116, Tryz.ntmps116
    go_wp2
    go_ret
    refine ⟨rfl, ?_⟩
    have e1 : (n + 65536) / 256 = n / 256 % 256 := by omega
    have e2 : (n + 65536) % 256 = n % 256 := by omega
    rw [e1, e2]
    rfl
  · go_enter Tryz.func116, Tryz.ntmps116
    go_wp2
    go_ret
    refine ⟨rfl, ?_⟩
    have e1 : n / 256 % 256 = n / 256 := by omega
    unfold put2
    rw [e1]
    rfl

set_option maxRecDepth 100000 in
set_option maxHeartbeats 1000000 in
theorem appendShort_c (n : Int) (v : Value) (m : Nat) (xs : List Value) (base : Nat) (w : World) (hs : shortB n = true) (hm : m ≤ 1000000) (hbase : base ≤ w.heap.size)
    (ho : w.ownsRow base 5 1 v m xs) :
    Calls Tryz.prog 115 #[v, .int .i64 n] w fun e w' => ∃ v', e = .returned v' ∧ w'.ownsRow base 5 1 v' (m + 2) (xs ++ cellsOf .u8 (put2 n)) ∧ w.grownBy w' v.ownBlock := by
  obtain ⟨h1, h2⟩ := inB_true.1 hs
  have HS := Lib.hid hs; clear hs
  obtain ⟨i, hi, hz, hsz, hby⟩ := infoByteS
  go_enter Tryz.func115, Tryz.ntmps115
  go_wp2_with (at_builtin; refine wpList_append_own _ rfl _ _ 22 rfl base 5 i (.int .u8 0) 1 1 Tryz.underlying22 hi hz hsz hby rfl (by decide) _ _ _ rfl (ho.alloc _) ⟨w.heap.size, 0, none⟩ 2 2 (cellsOf .u8 (put2 n)) rfl rfl ?c1 ?c2 ?c3 ?c4 ?c5 ?_)
  case c1 =>
    intro j u hj
    match j, hj with
    | 0, hj => simp [put2] at hj; subst hj; simp [Addr.add]
    | 1, hj => simp [put2] at hj; subst hj; simp [Addr.add]
  case c2 => intro u hu; simp [put2] at hu; rcases hu with rfl | rfl <;> rfl
  case c3 => unfold maxLen; omega
  case c4 => omega
  case c5 => simp; omega
  intro v' w1 hown' hgrow _
  have HG := Lib.hid hgrow; clear hgrow
  go_wp2
  go_ret
  exact ⟨v', rfl, hown', grownBy_trans (World.grownBy_alloc _ _ _) HG.out⟩

/-- What a call answers that gives a code and bytes in memory of its own. -/
def BytesPost (w : World) (code : Int) (bs : List Int) (e : Ending) (w' : World) : Prop :=
  ∃ r, e = .returned r ∧ SRes .u8 w' w.heap.size r code bs ∧ Below w.heap.size w w'

theorem sres_nil (K : IntKind) (w : World) (lo : Nat) (code : Int) : SRes K w lo (.agg #[.int .i64 code, .slice none 0 0]) code [] := ⟨_, [], rfl, Rd.nil w 1, NF.nil w, From.nil lo⟩

end Go.Proofs.YtldimfmhbdhbnaaGreat

/-
  Contracts of GetNumber, the program's and the model's.
-/
namespace Go.Proofs.YtldimfmhbdhbnaaGreat
open Go.RowKit

/-- The number of two bytes. -/
def get2 (x y : Int) : Int := if 256 * x + y > 32767 then 256 * x + y - 65536 else 256 * x + y
theorem get2_hi {x y : Int} (h : 32767 < 256 * x + y) : get2 x y = 256 * x + y - 65536 := by unfold get2; rw [if_pos (by omega)]
theorem get2_lo {x y : Int} (h : 256 * x + y ≤ 32767) : get2 x y = 256 * x + y := by unfold get2; rw [if_neg (by omega)]
theorem wrapI16 (n : Int) : IntKind.i16.wrap n = (n + 32768) % 65536 - 32768 := by
  show (if (true && decide (n % 65536 ≥ 32768)) = true then n % 65536 - 65536 else n % 65536) = _
  by_cases h : n % 65536 ≥ 32768
  · rw [if_pos (by simpa using h)]; omega
  · rw [if_neg (by simpa using h)]; omega
theorem or_bytes {x y : Int} (x0 : 0 ≤ x) (x1 : x ≤ 255) (y0 : 0 ≤ y) (y1 : y ≤ 255) : bits .or .u16 (x * 256) y = 256 * x + y := by
  rw [u16_or _ _ (by omega) (by omega) y0 (by omega)]
  have e : (x * 256).toNat = 2 ^ 8 * x.toNat := by omega
  rw [e, ← Nat.two_pow_add_eq_or_of_lt (by omega : y.toNat < 2 ^ 8)]
  omega
theorem sign16 {x y : Int} (x0 : 0 ≤ x) (x1 : x ≤ 255) (y0 : 0 ≤ y) (y1 : y ≤ 255) : wrap64 (IntKind.i16.wrap (bits .or .u16 (x * 256) y)) = get2 x y := by
  rw [or_bytes x0 x1 y0 y1]
  have e : IntKind.i16.wrap (256 * x + y) = get2 x y := by
    rw [wrapI16]
    unfold get2
    split <;> omega
  rw [e]
  have b : -32768 ≤ get2 x y ∧ get2 x y ≤ 32767 := by unfold get2; split <;> omega
  unfold wrap64
  omega
/-- The code and the number of GetNumber. -/
def getP (zs : List Int) (p : Int) : Int × Int := if 0 ≤ p ∧ p + 1 < zs.length then (0, get2 (zs.getD p.toNat 0) (zs.getD (p.toNat + 1) 0)) else (3, 0)
theorem getP_no {zs : List Int} {p : Int} (h : ¬ (0 ≤ p ∧ p + 1 < zs.length)) : getP zs p = (3, 0) := by unfold getP; rw [if_neg h]
theorem getP_at {zs : List Int} {k : Nat} (h : k + 1 < zs.length) : getP zs (k : Int) = (0, get2 zs[k] zs[k + 1]) := by
  unfold getP
  rw [if_pos (by omega), Int.toNat_natCast, List.getD_eq_getElem?_getD, List.getD_eq_getElem?_getD, List.getElem?_eq_getElem (by omega), List.getElem?_eq_getElem h]
  rfl

end Go.Proofs.YtldimfmhbdhbnaaGreat
