/-
  Contracts of the program's functions of chapter 2, sixth part: joining.
-/
import Derived.Test.YtldimfmhbdhbnaaG18
import Derived.Test.YtldimfmhbdhbnaaG31
namespace Go.Proofs.Ytldimfmhbdhbnaa
open Go.RowKit

/-! Sorting and searching where there is nothing. -/
theorem insertNone (p : Option Addr) (cap : Nat) (fv : Value) (w : World) :
    Calls Try.prog 140 #[.slice p 0 cap, .int .i64 0, .int .i64 0, fv] w fun e w' => e = .returned (.tuple #[]) ∧ w' = w := by
  go_enter Try.func140, Try.ntmps140
  go_wp2
  refine wp_loop_rounds 1 ?_
  rw [rounds_succ]
  go_wp2
  go_end0
  exact ⟨rfl, rfl⟩
set_option maxRecDepth 100000 in
set_option maxHeartbeats 2000000 in
theorem pdqNone (p : Option Addr) (cap : Nat) (lim : Int) (fv : Value) (w : World) :
    Calls Try.prog 126 #[.slice p 0 cap, .int .i64 0, .int .i64 0, .int .i64 lim, fv] w fun e w' => e = .returned (.tuple #[]) ∧ w' = w := by
  go_enter Try.func126, Try.ntmps126
  go_wp2
  refine wp_loop_rounds 1 ?_
  rw [rounds_succ]
  go_wp2_with (go_at_call 140; refine (insertNone _ _ _ _).mono ?_; rintro e w' ⟨rfl, rfl⟩)
  (try simp only [Exit.inBlock, Exit.then]); refine bodyPost_ret (results_none rfl _ _ _) rfl ?_
  exact ⟨rfl, rfl⟩
theorem sortNone (p : Option Addr) (cap : Nat) (fv : Value) (w : World) :
    Calls Try.prog 107 #[.slice p 0 cap, fv] w fun e w' => e = .returned (.tuple #[]) ∧ w' = w := by
  have hl := bitsLen_c 0 w (by omega)
  go_enter Try.func107, Try.ntmps107
  go_wp2_with (first | (go_at_call 127; refine hl.mono ?_; rintro e w' ⟨⟨l, rfl⟩, rfl⟩) | (go_at_call 126; refine (pdqNone _ _ _ _ _).mono ?_; rintro e w' ⟨rfl, rfl⟩))
  go_end0
  exact ⟨rfl, rfl⟩
theorem sortByNone (p : Option Addr) (cap : Nat) (fv : Value) (w : World) (h1 : fv.oneCell' = true) (hf : ∃ f a b, fv = .func f a b) :
    Calls Try.prog 67 #[.slice p 0 cap, fv] w fun e w' => e = .returned (.tuple #[]) ∧ Below w.heap.size w w' := by
  obtain ⟨f, a, b, rfl⟩ := hf
  go_enter Try.func67, Try.ntmps67
  go_wp2_with fail
  refine (sortNone _ _ _ _).mono ?_
  rintro e w1 ⟨rfl, rfl⟩
  go_wp2_with fail
  go_end0
  exact ⟨rfl, below_new _⟩
set_option maxRecDepth 100000 in
set_option maxHeartbeats 4000000 in
theorem concat_c (A B : Option Addr) (c d g : Nat) (a b : List R) (w : World) (fp fq : List Nat) (hla : a.length ≤ 12) (hlb : b.length ≤ 12) (ha : Rd w 4 (.slice A a.length c) (rcs a) fp) (hb : Rd w 4 (.slice B b.length d) (rcs b) fq)
    (hg : w.heap[g]? = some (.cells #[.slice A a.length c, .slice B b.length d] 24 (0, 0))) :
    Calls Try.prog 63 #[.slice (some ⟨g, 0, none⟩) 2 2] w (ConcatPost w (a ++ b)) := by
  obtain ⟨i0, hi, hz, hsz, hby⟩ := infoRow
  have c0 : w.cell? ⟨g, 0, none⟩ = some (.slice A a.length c) := cell_of_heap hg
  have c1 : w.cell? ⟨g, 1, none⟩ = some (.slice B b.length d) := cell_of_heap hg
  have HG := Lib.hid hg; have HA := Lib.hid ha; have HBR := Lib.hid hb
  clear hg ha hb
  go_enter Try.func63, Try.ntmps63
  go_wp2
  refine wp_loop_rounds 3 ?_
  rw [rounds_succ]
  go_wp2
  rw [rounds_succ]
  go_wp2
  rw [rounds_succ]
  have hgr := grow_c (a.length + b.length) (by omega) w
  rw [Int.natCast_add] at hgr
  have HGR := Lib.hid hgr; clear hgr
  go_wp2_with fail
  refine HGR.out.mono ?_
  rintro e w1 ⟨v, rfl, hown, hb1⟩
  have hg1 := (hb1.block _ (heap_lt HG.out)).trans HG.out
  have ha1 := HA.out.below' hb1
  have HOW := Lib.hid hown; have HB1 := Lib.hid hb1; have HA1 := Lib.hid ha1
  clear c0 c1
  have c0 : w1.cell? ⟨g, 0, none⟩ = some (.slice A a.length c) := cell_of_heap hg1
  have hrow1 : ∀ k, v.ownBlock = some k → w.heap.size ≤ k := fun k hk => own_base' hown hk
  have HRW1 := Lib.hid hrow1
  have hs1 := hb1.size
  clear hg1 hown hb1 ha1 hrow1
  go_wp2_with fail
  refine wp_loop_rounds 3 ?_
  rw [rounds_succ]
  go_wp2_with (at_builtin; refine wpList_append_rd rfl _ _ 24 rfl w.heap.size 34 i0 (rv (0, 0, 0, 0)) 4 32 Try.underlying24 hi hz hsz hby rfl (by decide) _ 0 [] rfl HOW.out A a.length c (rcs a) fp rfl HA1.out (rcs_one a) ?d1 ?d2 ?d3 ?_)
  case d1 => unfold maxLen; omega
  case d2 => omega
  case d3 => exact hs1
  intro v2 w2 hown2 hgrow2
  have hb2 : Below w.heap.size w w2 := HB1.out.grown hgrow2 HB1.out.size HRW1.out
  have hg2 := (hb2.block _ (heap_lt HG.out)).trans HG.out
  have hbr2 := HBR.out.below' hb2
  have hown2' : w2.ownsRow w.heap.size 34 4 v2 a.length (rcs a) := by simpa using hown2
  have HOW2 := Lib.hid hown2'; have HB2 := Lib.hid hb2; have HBR2 := Lib.hid hbr2
  clear c0
  have c1 : w2.cell? ⟨g, 1, none⟩ = some (.slice B b.length d) := cell_of_heap hg2
  have hrow2 : ∀ k, v2.ownBlock = some k → w.heap.size ≤ k := fun k hk => own_base' hown2 hk
  have HRW2 := Lib.hid hrow2
  have hs2 := hb2.size
  clear hg2 hown2 hown2' hb2 hbr2 hrow2 hgrow2
  go_wp2_with fail
  rw [rounds_succ]
  go_wp2_with (at_builtin; refine wpList_append_rd rfl _ _ 24 rfl w.heap.size 34 i0 (rv (0, 0, 0, 0)) 4 32 Try.underlying24 hi hz hsz hby rfl (by decide) _ a.length (rcs a) rfl HOW2.out B b.length d (rcs b) fq rfl HBR2.out (rcs_one b) ?f1 ?f2 ?f3 ?_)
  case f1 => unfold maxLen; omega
  case f2 => omega
  case f3 => exact hs2
  intro v3 w3 hown3 hgrow3
  have hb3 : Below w.heap.size w w3 := HB2.out.grown hgrow3 HB2.out.size HRW2.out
  have hown3' : w3.ownsRow w.heap.size 34 4 v3 (a ++ b).length (rcs (a ++ b)) := by rw [List.length_append, rcs_append]; exact hown3
  have HOW3 := Lib.hid hown3'; have HB3 := Lib.hid hb3
  clear hown3 hown3' hb3 hgrow3 c1
  go_wp2_with fail
  rw [rounds_succ]
  go_wp2_with fail
  go_ret
  exact ⟨_, rfl, HOW3.out, HB3.out⟩
theorem joined_is {L xs ys o : List R} (hp : L.Perm (xs ++ ys)) (hl : L.Pairwise (fun x y => keyR x ≤ keyR y)) (ra : Rising none xs) (rb : Rising none ys) (hx : ∀ x ∈ ys, ∀ y ∈ xs, keyR y ≠ keyR x) (ro : Rising none o) (hm : ∀ x, x ∈ o ↔ x ∈ xs ∨ x ∈ ys) : L = o := by
  have h0 : ∀ x ∈ L, rowF x = 0 := fun x h => by
    rcases List.mem_append.1 (hp.mem_iff.1 h) with h | h
    · exact (ra.above x h).1
    · exact (rb.above x h).1
  have hne0 : (xs ++ ys).Pairwise (fun x y => keyR x ≠ keyR y) := List.pairwise_append.2 ⟨(rising_pairwise ra).imp (fun h => by omega), (rising_pairwise rb).imp (fun h => by omega), fun x hxa y hyb => hx y hyb x hxa⟩
  have hne : L.Pairwise (fun x y => keyR x ≠ keyR y) := (hp.pairwise_iff (fun {_ _} h => fun e => h e.symm)).2 hne0
  have hlt : L.Pairwise (fun x y => keyR x < keyR y) := (hl.and hne).imp (fun h => by omega)
  exact rising_ext (pairwise_rising (p := none) h0 hlt (fun k e => by cases e)) ro fun x => by rw [hp.mem_iff, List.mem_append, hm]
theorem any_key {ys : List R} {k : Int} : (ys.any fun x => keyR x == k) = true ↔ ∃ x ∈ ys, keyR x = k := by simp [List.any_eq_true]

end Go.Proofs.Ytldimfmhbdhbnaa
