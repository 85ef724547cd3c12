/-
  The model's functions of chapter 6, fifth part: rows laid into files.
-/
import Derived.Test.YtldimfmhbdhbnaaG11
import Derived.Test.YtldimfmhbdhbnaaPlace6
import Derived.Test.YtldimfmhbdhbnaaG24
import Derived.Test.YtldimfmhbdhbnaaModel6
namespace Go.Proofs.Ytldimfmhbdhbnaa
open Go.RowKit

def solidL (rs : List R) : List R := rs.filter fun r => !emptyB r
theorem solid_succ (rs : List R) (k : Nat) (h : k < rs.length) : solidL (rs.take (k + 1)) = solidL (rs.take k) ++ (if emptyB rs[k] then [] else [rs[k]]) := by
  unfold solidL
  rw [List.take_succ_eq_append_getElem h, List.filter_append]
  cases he : emptyB rs[k] <;> simp [he]
theorem solid_len (rs : List R) (k : Nat) : (solidL (rs.take k)).length ≤ rs.length := by
  unfold solidL
  exact Nat.le_trans (List.length_filter_le _ _) (by rw [List.length_take]; omega)

set_option maxRecDepth 100000 in
set_option maxHeartbeats 2000000 in
theorem l6Solid_c (A : Option Addr) (c : Nat) (rs : List R) (w : World) (fp : List Nat) (hs : rs.length ≤ 1000000) (ha : Rd w 4 (.slice A rs.length c) (rcs rs) fp) :
    Calls Try.prog 110 #[.slice A rs.length c] w (RowsPost w (solidL rs)) := by
  have hlt0 := ha.lt
  have HL := Lib.hid hlt0; clear hlt0
  obtain ⟨i0, hi, hz, hsz, hby⟩ := infoRow
  go_enter Try.func110, Try.ntmps110
  go_wp2
  go_loopw [3, 4] (fun v i wr => ∃ k n : Nat, k ≤ rs.length ∧ n ≤ 1000000 ∧ i = .int .i64 k ∧ wr.ownsRow w.heap.size 34 4 v n (rcs (solidL (rs.take k))) ∧ Below w.heap.size w wr) (fun _ i _ => rs.length - (intOf i).toNat)
  case atStart => exact ⟨0, 0, Nat.zero_le _, by omega, rfl, own_emptyR (Nat.le_refl _), below_new _⟩
  case round =>
    obtain ⟨k, n, hk, hn, rfl, hown, hbel⟩ := hrel
    have hsize := hbel.size
    by_cases hlt : k < rs.length
    · obtain ⟨b, off, hA, _, _, p0, p1, p2, p3⟩ := (ha.below hbel HL.out).row_at hlt
      subst hA
      have hra : RowAt wr b (off + k * 4) rs[k] := ⟨p0, p1, p2, p3⟩
      have hcs := solid_succ rs k hlt
      have HCS := Lib.hid hcs; clear hcs
      have hrow : ∀ g, u3.ownBlock = some g → w.heap.size ≤ g := fun g hg => own_base' hown hg
      have HR := Lib.hid hrow; clear hrow
      generalize rs[k] = r at *
      go_wp2_with fail
      refine (l6Nothing_c b (off + k * 4) r _ hra).mono ?_
      rintro e w1 ⟨rfl, hw⟩
      subst hw
      clear hra
      cases h1 : emptyB r
      · have hcs := HCS.out
        rw [h1] at hcs
        simp only [Bool.false_eq_true, if_false] at hcs
        have HC2 := Lib.hid hcs; clear hcs HCS
        have hown1 : (wr.alloc (.cells #[.int .i64 r.1, .int .i64 r.2.1, .int .i64 r.2.2.1, .int .i64 r.2.2.2] 34)).ownsRow w.heap.size 34 4 u3 n (rcs (solidL (rs.take k))) := World.ownsRow.alloc hown _
        have hbel1 := below_more hbel (.cells #[.int .i64 r.1, .int .i64 r.2.1, .int .i64 r.2.2.1, .int .i64 r.2.2.2] 34)
        have HO1 := Lib.hid hown1; have HB1 := Lib.hid hbel1
        clear hown hbel hown1 hbel1
        go_wp2_with (at_builtin; refine wpList_append_own _ rfl _ _ 24 rfl w.heap.size 34 i0 (rv (0, 0, 0, 0)) 4 32 Try.underlying24 hi hz hsz hby rfl (by decide) _ _ _ rfl HO1.out ⟨wr.heap.size, 0, none⟩ 1 1 (rc r) rfl rfl ?c1 ?c2 ?c3 ?c4 ?c5 ?_)
        case c1 => exact rc_new (w := wr) r
        case c2 => exact rc_one r
        case c3 => unfold maxLen; omega
        case c4 => omega
        case c5 => have := HB1.out.size; exact this
        intro v' w2 hown2 hgrow _
        have hbel2 := HB1.out.grown hgrow HB1.out.size HR.out
        have hown3 : w2.ownsRow w.heap.size 34 4 v' (n + 1) (rcs (solidL (rs.take (k + 1)))) := by rw [HC2.out, rcs_append]; exact hown2
        have hln := hown3.1
        rw [rcs_length] at hln
        have hl2 := solid_len rs (k + 1)
        have hn1 : n + 1 ≤ 1000000 := by omega
        have HO := Lib.hid hown3; have HBL := Lib.hid hbel2
        clear hown2 hown3 hbel2 hgrow hln hl2
        go_wp2_with fail
        exact ⟨⟨k + 1, n + 1, by omega, hn1, by go_num, HO.out, HBL.out⟩, by simp [intOf]; omega⟩
      · have hcs := HCS.out
        rw [h1] at hcs
        simp only [if_true, List.append_nil] at hcs
        have HC2 := Lib.hid hcs; clear hcs HCS
        have hown3 : wr.ownsRow w.heap.size 34 4 u3 n (rcs (solidL (rs.take (k + 1)))) := by rw [HC2.out]; exact hown
        have HO := Lib.hid hown3; have HBL := Lib.hid hbel
        clear hown hown3 hbel
        go_wp2_with fail
        exact ⟨⟨k + 1, n, by omega, hn, by go_num, HO.out, HBL.out⟩, by simp [intOf]; omega⟩
    · obtain rfl : k = rs.length := by omega
      rw [List.take_length] at hown
      obtain ⟨fq, hrv, hnv, hfv⟩ := Rd.of_own hown
      have HB := Lib.hid hbel; have HOW := Lib.hid hown; clear hbel hown
      go_wp2
      go_ret
      exact ⟨_, fq, rfl, hrv, hnv, hfv, HB.out, _, _, Nat.le_refl _, HOW.out⟩

/-- Rows by their place. -/
def laid (s : List R) : List (List R) := (List.range 4).map fun (i : Nat) => s.filter fun r => r.1 == (i : Int)
theorem laid_len (s : List R) : (laid s).length = 4 := by simp [laid]
theorem laid_get (s : List R) (i : Nat) (h : i < (laid s).length) : (laid s)[i] = s.filter fun r => r.1 == (i : Int) := by simp [laid]
theorem laid_solid (rs : List R) : laid (solidL rs) = filesOf rs := by
  unfold laid filesOf solidL
  refine List.map_congr_left fun i _ => ?_
  rw [List.filter_filter]
  rfl
theorem laid_step (s : List R) (k : Nat) (h : k < s.length) (j : Nat) (hj : j < (laid (s.take k)).length) (e : s[k].1 = (j : Int)) : laid (s.take (k + 1)) = (laid (s.take k)).set j ((laid (s.take k))[j] ++ [s[k]]) := by
  apply List.ext_getElem
  · simp [laid]
  · intro i h1 h2
    rw [laid_get]
    rw [List.take_succ_eq_append_getElem h, List.filter_append]
    by_cases hij : j = i
    · subst hij
      rw [List.getElem_set_self, laid_get]
      simp [e]
    · rw [List.getElem_set_ne hij, laid_get]
      have : (s[k].1 == (i : Int)) = false := by rw [e]; simp; omega
      simp [this]
theorem but_grown {bs : List Nat} {a w w' : World} {row : Option Nat} (h : But bs a w) (hg : w.grownBy w' row) (hrow : ∀ k, row = some k → a.heap.size ≤ k) : But bs a w' :=
  ⟨hg.os.trans h.os, hg.tape.trans h.tape, hg.output.trans h.output, Nat.le_trans h.size hg.size, fun k hk hn => (hg.block k (Nat.lt_of_lt_of_le hk h.size) (fun e => by have := hrow k e.symm; omega)).trans (h.block k hk hn)⟩
end Go.Proofs.Ytldimfmhbdhbnaa
