/-
  Contracts of the program's functions of chapter 2, sixth part: joining.
-/
import Derived.Test.YtldimfmhbdhbnaaGreatG18
import Derived.Test.YtldimfmhbdhbnaaGreatG31
import Derived.Test.YtldimfmhbdhbnaaGreatG13
namespace Go.Proofs.YtldimfmhbdhbnaaGreat
open Go.RowKit

/-! Sorting and searching where there is nothing. -/
theorem insertNone (p : Option Addr) (cap : Nat) (fv : Value) (w : World) :
    Calls Tryz.prog 122 #[.slice p 0 cap, .int .i64 0, .int .i64 0, fv] w fun e w' => e = .returned (.tuple #[]) ∧ w' = w := by
  go_enter Tryz.func122, Tryz.ntmps122
  go_wp2
  refine wp_loop_rounds 1 ?_
  rw [rounds_succ]
  go_wp2
  go_end0
  exact ⟨rfl, rfl⟩
set_option maxRecDepth 100000 in
set_option maxHeartbeats 2000000 in
theorem pdqNone (p : Option Addr) (cap : Nat) (lim : Int) (fv : Value) (w : World) :
    Calls Tryz.prog 119 #[.slice p 0 cap, .int .i64 0, .int .i64 0, .int .i64 lim, fv] w fun e w' => e = .returned (.tuple #[]) ∧ w' = w := by
  go_enter Tryz.func119, Tryz.ntmps119
  go_wp2
  refine wp_loop_rounds 1 ?_
  rw [rounds_succ]
  go_wp2_with (go_at_call 122; refine (insertNone _ _ _ _).mono ?_; rintro e w' ⟨rfl, rfl⟩)
  (try simp only [Exit.inBlock, Exit.then]); refine bodyPost_ret (results_none rfl _ _ _) rfl ?_
  exact ⟨rfl, rfl⟩
theorem sortNone (p : Option Addr) (cap : Nat) (fv : Value) (w : World) :
    Calls Tryz.prog 110 #[.slice p 0 cap, fv] w fun e w' => e = .returned (.tuple #[]) ∧ w' = w := by
  have hl := bitsLen_c 0 w (by omega)
  go_enter Tryz.func110, Tryz.ntmps110
  go_wp2_with (first | (go_at_call 120; refine hl.mono ?_; rintro e w' ⟨⟨l, rfl⟩, rfl⟩) | (go_at_call 119; refine (pdqNone _ _ _ _ _).mono ?_; rintro e w' ⟨rfl, rfl⟩))
  go_end0
  exact ⟨rfl, rfl⟩
theorem sortByNone (p : Option Addr) (cap : Nat) (fv : Value) (w : World) (h1 : fv.oneCell' = true) (hf : ∃ f a b, fv = .func f a b) :
    Calls Tryz.prog 81 #[.slice p 0 cap, fv] w fun e w' => e = .returned (.tuple #[]) ∧ Below w.heap.size w w' := by
  obtain ⟨f, a, b, rfl⟩ := hf
  go_enter Tryz.func81, Tryz.ntmps81
  go_wp2_with fail
  refine (sortNone _ _ _ _).mono ?_
  rintro e w1 ⟨rfl, rfl⟩
  go_wp2_with fail
  go_end0
  exact ⟨rfl, below_new _⟩
set_option maxRecDepth 100000 in
set_option maxHeartbeats 4000000 in
theorem concat_c (A B : Option Addr) (c d g : Nat) (a b : List R) (w : World) (fp fq : List Nat) (hla : a.length ≤ 12) (hlb : b.length ≤ 12) (ha : Rd w 4 (.slice A a.length c) (rcs a) fp) (hb : Rd w 4 (.slice B b.length d) (rcs b) fq)
    (hg : w.heap[g]? = some (.cells #[.slice A a.length c, .slice B b.length d] 24 (0, 0))) :
    Calls Tryz.prog 78 #[.slice (some ⟨g, 0, none⟩) 2 2] w (ConcatPost w (a ++ b)) := by
  obtain ⟨i0, hi, hz, hsz, hby⟩ := infoRow
  have c0 : w.cell? ⟨g, 0, none⟩ = some (.slice A a.length c) := cell_of_heap hg
  have c1 : w.cell? ⟨g, 1, none⟩ = some (.slice B b.length d) := cell_of_heap hg
  have HG := Lib.hid hg; have HA := Lib.hid ha; have HBR := Lib.hid hb
  clear hg ha hb
  go_enter Tryz.func78, Tryz.ntmps78
  go_wp2
  refine wp_loop_rounds 3 ?_
  rw [rounds_succ]
  go_wp2
  rw [rounds_succ]
  go_wp2
  rw [rounds_succ]
  have hgr := grow_c (a.length + b.length) (by omega) w
  rw [Int.natCast_add] at hgr
  have HGR := Lib.hid hgr; clear hgr
  go_wp2_with fail
  refine HGR.out.mono ?_
  rintro e w1 ⟨v, rfl, hown, hb1⟩
  have hg1 := (hb1.block _ (heap_lt HG.out)).trans HG.out
  have ha1 := HA.out.below' hb1
  have HOW := Lib.hid hown; have HB1 := Lib.hid hb1; have HA1 := Lib.hid ha1
  clear c0 c1
  have c0 : w1.cell? ⟨g, 0, none⟩ = some (.slice A a.length c) := cell_of_heap hg1
  have hrow1 : ∀ k, v.ownBlock = some k → w.heap.size ≤ k := fun k hk => own_base' hown hk
  have HRW1 := Lib.hid hrow1
  have hs1 := hb1.size
  clear hg1 hown hb1 ha1 hrow1
  go_wp2_with fail
  refine wp_loop_rounds 3 ?_
  rw [rounds_succ]
  go_wp2_with (at_builtin; refine wpList_append_rd rfl _ _ 24 rfl w.heap.size 40 i0 (rv (0, 0, 0, 0)) 4 32 Tryz.underlying24 hi hz hsz hby rfl (by decide) _ 0 [] rfl HOW.out A a.length c (rcs a) fp rfl HA1.out (rcs_one a) ?d1 ?d2 ?d3 ?_)
  case d1 => unfold maxLen; omega
  case d2 => omega
  case d3 => exact hs1
  intro v2 w2 hown2 hgrow2
  have hb2 : Below w.heap.size w w2 := HB1.out.grown hgrow2 HB1.out.size HRW1.out
  have hg2 := (hb2.block _ (heap_lt HG.out)).trans HG.out
  have hbr2 := HBR.out.below' hb2
  have hown2' : w2.ownsRow w.heap.size 40 4 v2 a.length (rcs a) := by simpa using hown2
  have HOW2 := Lib.hid hown2'; have HB2 := Lib.hid hb2; have HBR2 := Lib.hid hbr2
  clear c0
  have c1 : w2.cell? ⟨g, 1, none⟩ = some (.slice B b.length d) := cell_of_heap hg2
  have hrow2 : ∀ k, v2.ownBlock = some k → w.heap.size ≤ k := fun k hk => own_base' hown2 hk
  have HRW2 := Lib.hid hrow2
  have hs2 := hb2.size
  clear hg2 hown2 hown2' hb2 hbr2 hrow2 hgrow2
  go_wp2_with fail
  rw [rounds_succ]
  go_wp2_with (at_builtin; refine wpList_append_rd rfl _ _ 24 rfl w.heap.size 40 i0 (rv (0, 0, 0, 0)) 4 32 Tryz.underlying24 hi hz hsz hby rfl (by decide) _ a.length (rcs a) rfl HOW2.out B b.length d (rcs b) fq rfl HBR2.out (rcs_one b) ?f1 ?f2 ?f3 ?_)
  case f1 => unfold maxLen; omega
  case f2 => omega
  case f3 => exact hs2
  intro v3 w3 hown3 hgrow3
  have hb3 : Below w.heap.size w w3 := HB2.out.grown hgrow3 HB2.out.size HRW2.out
  have hown3' : w3.ownsRow w.heap.size 40 4 v3 (a ++ b).length (rcs (a ++ b)) := by rw [List.length_append, rcs_append]; exact hown3
  have HOW3 := Lib.hid hown3'; have HB3 := Lib.hid hb3
  clear hown3 hown3' hb3 hgrow3 c1
  go_wp2_with fail
  rw [rounds_succ]
  go_wp2_with fail
  go_ret
  exact ⟨_, rfl, HOW3.out, HB3.out⟩
theorem joined_is {L xs ys o : List R} (hp : L.Perm (xs ++ ys)) (hl : L.Pairwise (fun x y => keyR x ≤ keyR y)) (ra : Rising none xs) (rb : Rising none ys) (hx : ∀ x ∈ ys, ∀ y ∈ xs, keyR y ≠ keyR x) (ro : Rising none o) (hm : ∀ x, x ∈ o ↔ x ∈ xs ∨ x ∈ ys) : L = o := by
  have h0 : ∀ x ∈ L, rowF x = 0 := fun x h => by
    rcases List.mem_append.1 (hp.mem_iff.1 h) with h | h
    · exact (ra.above x h).1
    · exact (rb.above x h).1
  have hne0 : (xs ++ ys).Pairwise (fun x y => keyR x ≠ keyR y) := List.pairwise_append.2 ⟨(rising_pairwise ra).imp (fun h => by omega), (rising_pairwise rb).imp (fun h => by omega), fun x hxa y hyb => hx y hyb x hxa⟩
  have hne : L.Pairwise (fun x y => keyR x ≠ keyR y) := (hp.pairwise_iff (fun {_ _} h => fun e => h e.symm)).2 hne0
  have hlt : L.Pairwise (fun x y => keyR x < keyR y) := (hl.and hne).imp (fun h => by omega)
  exact rising_ext (pairwise_rising (p := none) h0 hlt (fun k e => by cases e)) ro fun x => by rw [hp.mem_iff, List.mem_append, hm]
theorem any_key {ys : List R} {k : Int} : (ys.any fun x => keyR x == k) = true ↔ ∃ x ∈ ys, keyR x = k := by simp [List.any_eq_true]

end Go.Proofs.YtldimfmhbdhbnaaGreat

/-
  The program's functions of chapter 7, third part: the least mark; all rows.
-/
namespace Go.Proofs.YtldimfmhbdhbnaaGreat
open Go.RowKit

theorem leastI_first (zs : List Int) (h : 0 < zs.length) : leastI (zs.take 1) = zs[0] := by
  match zs, h with
  | z :: t, _ => rfl
theorem three_marks {w : World} {g : Nat} {t : TypeId} {a b c : Int} (hg : w.heap[g]? = some (.cells #[.int .i64 a, .int .i64 b, .int .i64 c] t (0, 0))) : Rd w 1 (.slice (some ⟨g, 0, none⟩) [a, b, c].length 3) (cellsOf .i64 [a, b, c]) [g] :=
  ⟨_, 3, 3, rfl, rfl, by unfold maxLen; omega, by omega, .inr ⟨g, 0, rfl, rfl, heap_lt hg, fun i u hu => by
    rw [Nat.zero_add, cell_of_heap hg, List.getElem?_toArray]; exact hu⟩⟩

/-- Rows that are the call's own, sorted. -/
theorem sortOwn_c (L S : List R) (v : Value) (base : Nat) (w : World) (hown : w.ownsRow base 40 4 v L.length (rcs L)) (h12 : L.length ≤ 12) (hfit : ∀ x ∈ L, Fit x) (hS : Rising none S) (hp : L.Perm S) :
    Calls Tryz.prog 81 #[v, .func (.func 48) #[] #[]] w fun e w' => e = .returned (.tuple #[]) ∧ (∃ f, Rd w' 4 v (rcs S) f ∧ NF w' f ∧ From base f) ∧ ∀ B0, B0 ≤ base → B0 ≤ w.heap.size → Below B0 w w' := by
  rcases Nat.eq_zero_or_pos L.length with hz | hz
  · have hnil : L = [] := List.eq_nil_of_length_eq_zero hz
    subst hnil
    have hS0 : S = [] := by have := hp.length_eq; exact List.eq_nil_of_length_eq_zero (by simpa using this.symm)
    subst hS0
    obtain ⟨f5, hrv, hnv, hfv⟩ := Rd.of_own hown
    obtain ⟨A5, c5, hv⟩ := Rd.rows_form (rs := []) hrv
    have hv : v = .slice A5 0 c5 := hv
    subst hv
    refine (sortByNone A5 c5 _ _ rfl ⟨_, _, _, rfl⟩).mono ?_
    rintro e w6 ⟨rfl, hb6⟩
    exact ⟨rfl, ⟨f5, hrv.below' hb6, hnv.keep fun q hq => hb6.block q (hrv.lt q hq), hfv⟩, fun B0 _ h => hb6.mono h⟩
  · obtain ⟨nn, hnn⟩ : ∃ nn, L.length = nn + 1 := ⟨L.length - 1, by omega⟩
    rw [hnn] at hown
    obtain ⟨g, off, c5, rfl, hc5, hgb, hrd5, hnf5⟩ := own_rd hown
    obtain ⟨D, hD⟩ := lift_fit (L := L) hfit
    have hDl : D.length = nn + 1 := by
      have := congrArg List.length hD
      rw [List.length_map, hnn] at this
      exact this
    rw [← hD, ← hDl] at hrd5
    have hsort := sortBy_c D g off c5 w (by omega) (by omega) hrd5 hnf5
    rw [hD, hDl] at hsort
    refine hsort.mono ?_
    rintro e w6 ⟨rfl, L', q1, q2, q3, q4, q5⟩
    have hL' : L' = S := sorted_is (q1.trans hp) hS q2
    subst hL'
    exact ⟨rfl, ⟨[g], q3, q4, fun b hb => by simp at hb; omega⟩, fun B0 h1 h2 => q5.below h2 (fun b hb => by simp at hb; omega)⟩

def AskRowsOf : Prop := ∀ (A : Option Addr) (c : Nat) (l : List Pt) (w : World) (fp : List Nat), psz l ≤ 1048576 → WfT l → RdP w (.slice A l.length c) l fp →
  Calls Tryz.prog 39 #[.slice A l.length c] w (RResPost w (roC l) (roL l))

theorem allR_three {l : List Pt} (h : l.length = 3) : [(l.getD 0 default).rows, (l.getD 1 default).rows, (l.getD 2 default).rows].flatten = allR l := by
  obtain ⟨a, b, c, rfl⟩ := eq_three h
  rfl

set_option maxRecDepth 100000 in
set_option maxHeartbeats 4000000 in
theorem implRowsOf_a : AskRowsOf := by
  intro A c l w fp hs hwf ha
  have HB0 := Lib.hid (below_new (w := w) (.cells #[.int .i64 0, .slice none 0 0] 56))
  have HG0 := Lib.hid (heap_new w (.cells #[.int .i64 0, .slice none 0 0] 56) rfl)
  have hcall := implPartsFault_a A c l _ fp hs hwf (ha.below' HB0.out)
  have HA := Lib.hid ha
  unfold roC
  by_cases h0 : partsF l = 0
  case neg =>
    have e : roL l = [] := by unfold roL; rw [if_neg h0]
    rw [e]
    generalize partsF l = V at *
    have HC := Lib.hid hcall
    have t1 : (V != 0) = true := by simpa using h0
    clear h0 e hcall ha hs hwf
    go_enter Tryz.func39, Tryz.ntmps39
    go_wp2_with fail
    refine HC.out.mono ?_
    rintro e w1 ⟨rfl, hb1⟩
    have HB1 := Lib.hid (HB0.out.trans (hb1.mono HB0.out.size))
    obtain ⟨y0, y1, z0, z1, yz⟩ := two_at ((hb1.block _ (heap_lt HG0.out)).trans HG0.out)
    clear hb1
    go_wp2_with fail
    exact bodyPost_ret (v := .agg #[.int .i64 V, .slice none 0 0]) (by simp [results, Tryz.results39, go_sem, y0, y1]) rfl ⟨_, rfl, rres_nil _ _ _, HB1.out.trans ((But.two _ w.heap.size 0 1 _ _).below HB1.out.size (by intro b hb; simp at hb; omega))⟩
  have h3 := (partsF_zero h0).1
  have e : roL l = mergeAll (allR l) := by unfold roL; rw [if_pos h0]
  have hal := allR_three h3
  obtain ⟨hrow, hdis, hl12⟩ := parts_rows h0
  obtain ⟨hris, hmem, hcnt, _⟩ := roL_facts h0
  have hperm : (allR l).Perm (mergeAll (allR l)) := by
    have key : ∀ {X Y : List R}, X.Nodup → Y.Nodup → (∀ x, x ∈ X ↔ x ∈ Y) → X.Perm Y := fun {X Y} hX hY h => (List.perm_ext_iff_of_nodup hX hY).2 h
    refine key (hdis.imp fun h e => h (by rw [e])) ((rising_pairwise hris).imp fun h e => by rw [e] at h; omega) fun x => (hmem x).symm
  have hsz : fsz [(l.getD 0 default).rows, (l.getD 1 default).rows, (l.getD 2 default).rows] ≤ 1000 := by
    unfold fsz
    rw [← flat_tot, hal]; simp; omega
  have hlists := fun (w : World) (fp : List Nat) (ha : RdP w (.slice A l.length c) l fp) => partLists_c A c l w fp h3 ha
  have HLS := Lib.hid hlists
  rw [e]
  rw [h0] at hcall ⊢
  have HC := Lib.hid hcall; have HSZ := Lib.hid hsz; have HAL := Lib.hid hal; have HPERM := Lib.hid hperm; have HRIS := Lib.hid hris
  have HFT : Hid (∀ x ∈ allR l, Fit x) := fun x hx => fit_of_rowF (hrow x hx)
  have HL12 := Lib.hid hl12
  generalize mergeAll (allR l) = S at *
  clear h0 e hcall ha hs hwf hlists h3 hsz hal hperm hris hrow hdis hl12 hmem hcnt
  go_enter Tryz.func39, Tryz.ntmps39
  go_wp2_with fail
  refine HC.out.mono ?_
  rintro e w1 ⟨rfl, hb1⟩
  have HB1 := Lib.hid (HB0.out.trans (hb1.mono HB0.out.size))
  have HG1 := Lib.hid ((hb1.block _ (heap_lt HG0.out)).trans HG0.out)
  have HA1 := Lib.hid (HA.out.below' HB1.out)
  clear hb1
  go_wp2_with fail
  refine (HLS.out _ fp HA1.out).mono ?_
  rintro e w2 ⟨Af, cf, ff, rfl, hrd, hb2⟩
  have r0 := hrd 0 (by omega); have r1 := hrd 1 (by omega); have r2 := hrd 2 (by omega)
  clear hrd
  generalize l.getD 0 default = q0 at *
  generalize l.getD 1 default = q1 at *
  generalize l.getD 2 default = q2 at *
  have HB2 := Lib.hid (below_more (HB1.out.trans (hb2.mono HB1.out.size)) (.cells #[.slice (Af 0) q0.rows.length (cf 0), .slice (Af 1) q1.rows.length (cf 1), .slice (Af 2) q2.rows.length (cf 2)] 112))
  have HG2 := Lib.hid (heap_old (o' := .cells #[.slice (Af 0) q0.rows.length (cf 0), .slice (Af 1) q1.rows.length (cf 1), .slice (Af 2) q2.rows.length (cf 2)] 112) ((hb2.block _ (heap_lt HG1.out)).trans HG1.out))
  have hg2 := heap_new w2 (.cells #[.slice (Af 0) q0.rows.length (cf 0), .slice (Af 1) q1.rows.length (cf 1), .slice (Af 2) q2.rows.length (cf 2)] 112) rfl
  have HRL := Lib.hid (three_lists hg2 (r0.alloc _) (r1.alloc _) (r2.alloc _))
  clear hg2 r0 r1 r2 hb2
  go_wp2_with fail
  generalize w2.alloc (.cells #[.slice (Af 0) q0.rows.length (cf 0), .slice (Af 1) q1.rows.length (cf 1), .slice (Af 2) q2.rows.length (cf 2)] 112) = w3 at *
  refine (concatAll_c _ 3 [q0.rows, q1.rows, q2.rows] _ _ HSZ.out HRL.out).mono ?_
  rw [HAL.out]
  rintro e w4 ⟨v4, rfl, hown4, hb4⟩
  obtain ⟨f4, hr4, _, _⟩ := Rd.of_own hown4
  obtain ⟨A4, c4, rfl⟩ := hr4.rows_form
  have HCS := Lib.hid (sortOwn_c (allR l) S _ w3.heap.size w4 hown4 HL12.out HFT.out HRIS.out HPERM.out)
  have HB4 := Lib.hid (HB2.out.trans (hb4.mono HB2.out.size))
  have HG4 := Lib.hid ((hb4.block _ (heap_lt HG2.out)).trans HG2.out)
  have HZ := Lib.hid (heap_lt HG2.out)
  have HZ4 := Lib.hid hb4.size
  clear hown4 hr4 hb4
  go_wp2_with fail
  refine HCS.out.mono ?_
  rintro e w5 ⟨rfl, ⟨f5, hr5, hn5, hf5⟩, hb5⟩
  have hbb := hb5 w3.heap.size (Nat.le_refl _) HZ4.out
  obtain ⟨y0, y1, z0, z1, yz⟩ := two_at ((hbb.block _ HZ.out).trans HG4.out)
  have hsl : (allR l).length = S.length := HPERM.out.length_eq
  rw [hsl] at hr5 ⊢
  have HX := Lib.hid (rres_stored (code := 0) (g := w.heap.size) (HB4.out.trans (hb5 w.heap.size (by have := HZ.out; omega) HB4.out.size)) (Nat.le_refl _) hr5 hn5 (hf5.mono HZ.out))
  clear hr5 hn5 hf5 hb5 hbb hsl
  go_wp2_with fail
  exact bodyPost_ret (v := .agg #[.int .i64 0, .slice A4 S.length c4]) (by simp [results, Tryz.results39, go_sem, y0, y1]) rfl ⟨_, rfl, HX.out.1, HX.out.2⟩
end Go.Proofs.YtldimfmhbdhbnaaGreat
