/-
  Contracts of the laws' helpers over SeenResult, by a maker (rowtoelt.py).
-/
import Derived.Test.YtfohlopbfanaeaaSeenS
import Derived.Test.YtfohlopbfanaeaaNote5
namespace Go.Proofs.Ytfohlopbfanaeaa
open Go.RowKit

set_option maxRecDepth 100000 in
set_option maxHeartbeats 1000000 in
theorem eqSeenResult_c (code : Int) (v u : Value) (rs : List Sn) (w : World) (fp fq : List Nat) (ha : Rd w 2 v (ecs sc rs) fp) (hb : Rd w 2 u (ecs sc rs) fq) :
    Calls Try.prog 41 #[.agg #[.int .i64 code, v], .agg #[.int .i64 code, u]] w fun e w' => e = .returned (.bool true) ∧ Below w.heap.size w w' := by
  obtain ⟨A, c, rfl⟩ := ha.elt_form sc_len (by omega)
  obtain ⟨B, d, rfl⟩ := hb.elt_form sc_len (by omega)
  go_enter Try.func41, Try.ntmps41
  go_wp2_with fail
  refine (eqSeenS_c A B c d rs _ fp fq ((ha.alloc _).alloc _) ((hb.alloc _).alloc _)).mono ?_
  rintro e w1 ⟨rfl, hb1⟩
  have HB := Lib.hid hb1; clear hb1
  go_wp2
  go_ret
  exact ⟨rfl, (((Below.refl _ _).alloc (Nat.le_refl _) _).alloc (by simp) _).trans (HB.out.mono (by simp; omega))⟩

set_option maxRecDepth 100000 in
set_option maxHeartbeats 1000000 in
theorem markSeenResult_c (code : Int) (v : Value) (rs : List Sn) (q : Int) (w : World) (fp : List Nat) (hq : 0 ≤ q) (hn : rs.length ≤ 1099511627776) (hq2 : q ≤ 1099511627776)
    (ha : Rd w 2 v (ecs sc rs) fp) (hnf : NF w fp) :
    Calls Try.prog 43 #[.agg #[.int .i64 code, v], .int .i64 q] w fun e w' => e = .returned (.int .i64 (q + (rs.length * 2 : Nat))) ∧ But fp w w' ∧ Rd w' 2 v (cellsOf .i64 (marks (fun x => x) q (rs.length * 2))) fp := by
  obtain ⟨A, c, rfl⟩ := ha.elt_form sc_len (by omega)
  have hlt := ha.lt
  have ha' := ha.alloc (.cells #[.int .i64 code, .slice A rs.length c] 62)
  have hnf' : NF (w.alloc (.cells #[.int .i64 code, .slice A rs.length c] 62)) fp := hnf.keep fun b hb => Below.heap_alloc _ _ _ (hlt b hb)
  have H2 := Lib.hid hlt; clear hlt
  go_enter Try.func43, Try.ntmps43
  go_wp2_with fail
  refine (markSeenS_c A c rs.length _ q _ fp hq hn hq2 ha' hnf').mono ?_
  rintro e w1 ⟨rfl, hbut, hsz, hrd, hn1⟩
  have HSZ := Lib.hid hsz; clear hsz
  go_wp2
  go_ret
  exact ⟨by simp, ((But.refl fp w).alloc _).trans hbut, hrd⟩

set_option maxRecDepth 100000 in
set_option maxHeartbeats 1000000 in
theorem heldSeenResult_c (code : Int) (v : Value) (n : Nat) (q : Int) (w : World) (fp : List Nat) (hq : 0 ≤ q) (hn : n ≤ 1099511627776) (hq2 : q ≤ 1099511627776) (A : Option Addr) (c : Nat) (hv : v = .slice A n c)
    (ha : Rd w 2 v (cellsOf .i64 (marks (fun x => x) q (n * 2))) fp) :
    Calls Try.prog 44 #[.agg #[.int .i64 code, v], .int .i64 q] w fun e w' => e = .returned (.int .i64 (q + (n * 2 : Nat))) ∧ Below w.heap.size w w' := by
  subst hv
  have ha' := ha.alloc (.cells #[.int .i64 code, .slice A n c] 62)
  go_enter Try.func44, Try.ntmps44
  go_wp2_with fail
  refine (heldSeenS_c A c n q _ fp hq hn hq2 ha').mono ?_
  rintro e w1 ⟨rfl, rfl⟩
  have h0 : decide (q + ((n * 2 : Nat) : Int) < 0) = false := by simp; omega
  have h1 : ¬ (q + (n : Int) * 4 < 0) := by omega
  go_wp2
  go_ret
  exact ⟨by simp, (Below.refl _ _).alloc (Nat.le_refl _) _⟩

end Go.Proofs.Ytfohlopbfanaeaa
