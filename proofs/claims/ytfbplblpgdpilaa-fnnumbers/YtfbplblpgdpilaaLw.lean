/-
  Contracts of the laws' small helpers.
-/
import Derived.Test.YtfbplblpgdpilaaDraws2
import Derived.Test.YtfbplblpgdpilaaRound
import Derived.Laws.BytesArg
namespace Go.Proofs.Ytfbplblpgdpilaa
open Go.RowKit

theorem lwBig_c (A : Option Addr) (n c : Nat) (w : World) (hn : n ≤ 9223372036854775807) :
    Calls Try.prog 9 #[.slice A n c] w fun e w' => e = .returned (.bool (decide (1048576 < n))) ∧ w = w' := by
  by_cases h : 1048576 < n
  all_goals
    go_enter Try.func9, Try.ntmps9
    go_wp2
    go_ret
    refine ⟨?_, rfl⟩
    first | rfl | (simp [h]; done) | (simp; omega)

set_option maxHeartbeats 1000000 in
theorem lwNums_c (A B : Option Addr) (c d : Nat) (zs : List Int) (w : World) (fp fq : List Nat)
    (ha : Rd w 1 (.slice A zs.length c) (cellsOf .i64 zs) fp) (hb : Rd w 1 (.slice B zs.length d) (cellsOf .i64 zs) fq) :
    Calls Try.prog 20 #[.slice A zs.length c, .slice B zs.length d] w fun e w' => e = .returned (.bool true) ∧ Below w.heap.size w w' := by
  have hmax := ha.len_le
  go_enter Try.func20, Try.ntmps20
  go_wp2
  go_loopw [5] (fun i wr => ∃ k m : Nat, k ≤ zs.length ∧ i = .int .i64 k ∧ wr = w.drewN m) (fun i _ => zs.length - (intOf i).toNat)
  case atStart => exact ⟨0, 0, Nat.zero_le _, rfl, rfl⟩
  case round =>
    obtain ⟨k, m, hk, rfl, rfl⟩ := hrel
    by_cases hlt : k < zs.length
    · obtain ⟨b1, o1, rfl, _, _, hc1⟩ := ha.ints_at hlt
      obtain ⟨b2, o2, rfl, _, _, hc2⟩ := hb.ints_at hlt
      clear ha hb
      go_wp2_with fail
      go_quiet (fail)
      go_wp2_with fail
      exact ⟨⟨k + 1, _, by omega, by go_num, rfl⟩, by simp [intOf]; omega⟩
    · go_wp2
      go_ret
      exact ⟨rfl, below_drewN' (Below.refl _ _) m⟩

theorem Rd.str {w : World} {A : Option Addr} {c : Nat} {zs : List Int} {fp : List Nat} (h : Rd w 1 (.slice A zs.length c) (cellsOf .u8 zs) fp) :
    (convert 22 9 (.slice A zs.length c)).run Try.prog w = .ok (.string (strOfNums zs)) w := by
  obtain ⟨A', n', c', e, h1, h2, h2', h3⟩ := h
  injection e with e1 e2 e3
  subst e1 e2 e3
  rcases h3 with ⟨h3, _⟩ | ⟨b, off, rfl, rfl, hlt, hc⟩
  · have hz : zs = [] := List.eq_nil_of_length_eq_zero h3
    subst hz
    rcases A with _ | a
    · exact run_convert_bytes_nil w _ _ Try.underlying22 Try.underlying5 _ _ _ Try.underlying9
    · rw [run_convert_bytes_string w 22 9 5 _ _ _ Try.underlying22 Try.underlying5 Try.underlying9, run_bytesToString w a _ _ [] (by simp [loadCells, loadCellsFrom])]
      rfl
  · refine run_convert_bytes_arg w _ _ Try.underlying22 Try.underlying5 b off _ _ zs rfl (fun i hi => ?_) _ Try.underlying9
    refine hc i _ ?_
    rw [List.getElem?_map, List.getElem?_eq_getElem hi, List.getD_eq_getElem?_getD, List.getElem?_eq_getElem hi]
    rfl

set_option maxHeartbeats 1000000 in
theorem lwBytes_c (A B : Option Addr) (c d : Nat) (zs : List Int) (w : World) (fp fq : List Nat)
    (ha : Rd w 1 (.slice A zs.length c) (cellsOf .u8 zs) fp) (hb : Rd w 1 (.slice B zs.length d) (cellsOf .u8 zs) fq) :
    Calls Try.prog 18 #[.slice A zs.length c, .slice B zs.length d] w fun e w' => e = .returned (.bool true) ∧ Below w.heap.size w w' := by
  have h1 := ha.str
  have h2 := hb.str
  go_enter Try.func18, Try.ntmps18
  go_wp2_with fail
  go_ret
  exact ⟨rfl, Below.refl _ _⟩
end Go.Proofs.Ytfbplblpgdpilaa
