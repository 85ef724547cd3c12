/-
  Contracts of the laws' helpers over the results that hold a slice: comparison, marks, check.
-/
import Derived.Test.YtocllaendofndaaBytes
import Derived.Test.YtocllaendofndaaInt64s
namespace Go.Proofs.Ytocllaendofndaa
open Go.RowKit

/-- The struct r holds a code and a slice of integers of kind K that reads as bs and lies in blocks of its own from lo on. -/
def SRes (K : IntKind) (w : World) (lo : Nat) (r : Value) (code : Int) (bs : List Int) : Prop :=
  ∃ v fp, r = .agg #[.int .i64 code, v] ∧ Rd w 1 v (cellsOf K bs) fp ∧ NF w fp ∧ From lo fp

theorem SRes.but {K : IntKind} {w w' : World} {lo : Nat} {r : Value} {code : Int} {zs : List Int} {bs : List Nat} (h : SRes K w lo r code zs) (hb : But bs w w') (hd : ∀ b ∈ bs, b < lo) : SRes K w' lo r code zs := by
  obtain ⟨v, fp, rfl, hr, hn, hf⟩ := h
  have hx : ∀ b ∈ fp, b ∉ bs := fun b hm hb' => by have := hf b hm; have := hd b hb'; omega
  exact ⟨v, fp, rfl, hr.but hb hx, hn.but hb hr.lt hx, hf⟩
theorem SRes.below {K : IntKind} {w w' : World} {lo : Nat} {r : Value} {code : Int} {zs : List Int} (h : SRes K w lo r code zs) (hb : Below w.heap.size w w') : SRes K w' lo r code zs :=
  h.but (But.of_below hb []) (fun _ hm => by cases hm)
theorem SRes.lower {K : IntKind} {w : World} {lo lo' : Nat} {r : Value} {code : Int} {zs : List Int} (h : SRes K w lo r code zs) (hl : lo' ≤ lo) : SRes K w lo' r code zs := by
  obtain ⟨v, fp, rfl, hr, hn, hf⟩ := h
  exact ⟨v, fp, rfl, hr, hn, hf.mono hl⟩

set_option maxRecDepth 100000 in
set_option maxHeartbeats 1000000 in
theorem eqBytesResult_c (code : Int) (v u : Value) (zs : List Int) (w : World) (fp fq : List Nat) (ha : Rd w 1 v (cellsOf .u8 zs) fp) (hb : Rd w 1 u (cellsOf .u8 zs) fq) :
    Calls Try.prog 11 #[.agg #[.int .i64 code, v], .agg #[.int .i64 code, u]] w fun e w' => e = .returned (.bool true) ∧ Below w.heap.size w w' := by
  obtain ⟨A, c, rfl⟩ := ha.form
  obtain ⟨B, d, rfl⟩ := hb.form
  go_enter Try.func11, Try.ntmps11
  go_wp2_with (go_at_call 18; refine (eqByteS_c A B c d zs _ fp fq ((ha.alloc _).alloc _) ((hb.alloc _).alloc _)).mono ?_; rintro e w' ⟨rfl, m, rfl⟩)
  go_ret
  exact ⟨rfl, below_drewN' (((Below.refl _ _).alloc (Nat.le_refl _) _).alloc (by simp) _) _⟩

set_option maxRecDepth 100000 in
set_option maxHeartbeats 1000000 in
theorem markBytesResult_c (code : Int) (v : Value) (zs : List Int) (q : Int) (w : World) (fp : List Nat) (hq : 0 ≤ q) (hq2 : q + zs.length ≤ 4611686018427387904)
    (ha : Rd w 1 v (cellsOf .u8 zs) fp) (hnf : NF w fp) :
    Calls Try.prog 12 #[.agg #[.int .i64 code, v], .int .i64 q] w fun e w' => e = .returned (.int .i64 (q + zs.length)) ∧ But fp w w' ∧ Rd w' 1 v (cellsOf .u8 (marks (fun x => x % 256) q zs.length)) fp := by
  obtain ⟨A, c, rfl⟩ := ha.form
  have hlt := ha.lt
  have ha' := ha.alloc (.cells #[.int .i64 code, .slice A zs.length c] 30)
  have hnf' : NF (w.alloc (.cells #[.int .i64 code, .slice A zs.length c] 30)) fp := hnf.keep fun b hb => Below.heap_alloc _ _ _ (hlt b hb)
  have H2 := Lib.hid hlt; clear hlt
  go_enter Try.func12, Try.ntmps12
  go_wp2_with fail
  refine (markByteS_c A c zs.length _ q _ fp hq hq2 ha' hnf').mono ?_
  rintro e w1 ⟨rfl, hbut, hsz, hrd, hn1⟩
  have HSZ := Lib.hid hsz; clear hsz
  go_wp2
  go_ret
  exact ⟨rfl, ((But.refl fp w).alloc _).trans hbut, hrd⟩

set_option maxRecDepth 100000 in
set_option maxHeartbeats 1000000 in
theorem heldBytesResult_c (code : Int) (v : Value) (n : Nat) (q : Int) (w : World) (fp : List Nat) (hq : 0 ≤ q) (hq2 : q + n ≤ 4611686018427387904)
    (ha : Rd w 1 v (cellsOf .u8 (marks (fun x => x % 256) q n)) fp) :
    Calls Try.prog 13 #[.agg #[.int .i64 code, v], .int .i64 q] w fun e w' => e = .returned (.int .i64 (q + n)) ∧ Below w.heap.size w w' := by
  obtain ⟨A, c, e⟩ := ha.form
  rw [marks_length] at e
  subst e
  have ha' := ha.alloc (.cells #[.int .i64 code, .slice A n c] 30)
  go_enter Try.func13, Try.ntmps13
  go_wp2_with fail
  refine (heldByteS_c A c n q _ fp hq hq2 ha').mono ?_
  rintro e w1 ⟨rfl, rfl⟩
  have h0 : decide (q + (n : Int) < 0) = false := by simp; omega
  go_wp2
  go_ret
  exact ⟨rfl, (Below.refl _ _).alloc (Nat.le_refl _) _⟩

end Go.Proofs.Ytocllaendofndaa
