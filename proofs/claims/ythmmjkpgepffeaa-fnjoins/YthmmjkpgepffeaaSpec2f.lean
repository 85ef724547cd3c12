/-
  Contract of the model's JoinRows.
-/
import Derived.Test.YthmmjkpgepffeaaSpec2e
import Derived.Test.YthmmjkpgepffeaaApp
namespace Go.Proofs.Ythmmjkpgepffeaa
open Go.RowKit

theorem mergeGo_length (r : R) (rs : List R) : (mergeGo r false rs).length ≤ rs.length + 1 ∧ (mergeGo r true rs).length ≤ rs.length := by
  induction rs with
  | nil => simp [mergeGo]
  | cons x t ih =>
    unfold mergeGo
    by_cases h : keyR r < keyR x
    · simp [h]; omega
    · simp [h]; omega
theorem mergeGo_mem {r x : R} {rs : List R} {done : Bool} (h : x ∈ mergeGo r done rs) : x = r ∨ x ∈ rs := by
  induction rs generalizing done with
  | nil => unfold mergeGo at h; split at h <;> simp at h; exact .inl h
  | cons y t ih =>
    unfold mergeGo at h
    simp only [List.mem_append] at h
    rcases h with (h | h) | h
    · split at h <;> simp at h; exact .inl h
    · simp at h; simp [h]
    · rcases ih h with h | h
      · exact .inl h
      · simp [h]
theorem fits_iff {rs : List R} : Fits rs ↔ ∀ x ∈ rs, Fit x := by
  constructor
  · intro h x hx
    obtain ⟨j, hj, rfl⟩ := List.getElem_of_mem hx
    exact h j hj
  · intro h j hj; exact h _ (List.getElem_mem hj)
theorem fits_merge {rs : List R} {r : R} (h : Fits rs) (hr : Fit r) : Fits (mergeGo r false rs) := by
  rw [fits_iff] at h ⊢
  intro x hx
  rcases mergeGo_mem hx with rfl | hx
  · exact hr
  · exact h x hx

/-- What JoinRows makes of the rows of b that follow: none where one of them is taken. -/
def joinGo (a : List R) : List R → List R → Option (List R)
  | out, [] => some out
  | out, x :: t => if (getR a x.1 x.2.1).isSome then none else joinGo a (mergeGo x false out) t
theorem joinGo_at (a out b : List R) (k : Nat) (h : k < b.length) : joinGo a out (b.drop k) = if (getR a b[k].1 b[k].2.1).isSome then none else joinGo a (mergeGo b[k] false out) (b.drop (k + 1)) := by
  rw [List.drop_eq_getElem_cons h]; rfl
/-- JoinRows's code and rows. -/
def jC : Option (List R) → Int
  | none => 6
  | some o => if 12 < o.length then 2 else 0
def jrC (a b : List R) : Int := if rowsF a ≠ 0 then rowsF a else if rowsF b ≠ 0 then rowsF b else jC (joinGo a a b)
def jrL (a b : List R) : List R := if jrC a b = 0 then (joinGo a a b).getD [] else []

theorem rcs_one (rs : List R) : ∀ u ∈ rcs rs, u.oneCell' = true := by
  intro u hu
  obtain ⟨r, _, hr⟩ := List.mem_flatMap.1 hu
  exact rc_one r u hr

set_option maxRecDepth 100000 in
set_option maxHeartbeats 4000000 in
theorem specJoinRows_c (A B : Option Addr) (c d : Nat) (a b : List R) (w : World) (fp fq : List Nat) (ha : Rd w 4 (.slice A a.length c) (rcs a) fp) (hb : Rd w 4 (.slice B b.length d) (rcs b) fq) :
    Calls Try.prog 33 #[.slice A a.length c, .slice B b.length d] w (RResPost w (jrC a b) (jrL a b)) := by
  have ha' := ha.alloc (.cells #[.int .i64 0, .slice none 0 0] 30)
  have hb' := hb.alloc (.cells #[.int .i64 0, .slice none 0 0] 30)
  by_cases h0 : rowsF a = 0
  · by_cases h1 : rowsF b = 0
    · obtain ⟨hfa, hla⟩ := rowsF_fits h0
      obtain ⟨hfb, hlb⟩ := rowsF_fits h1
      have H0 := Lib.hid h0; have H1 := Lib.hid h1; have HFA := Lib.hid hfa; have HFB := Lib.hid hfb
      have hlta := ha.lt; have hltb := hb.lt
      have HLA := Lib.hid hlta; have HLB := Lib.hid hltb
      generalize hJ : joinGo a a b = J
      have hC : jrC a b = jC J := by rw [← hJ]; simp [jrC, h0, h1]
      have hL : jrL a b = if jrC a b = 0 then J.getD [] else [] := by rw [← hJ]; rfl
      generalize jrC a b = C at *
      generalize jrL a b = L at *
      have HC := Lib.hid hC; have HL := Lib.hid hL; have HJ := Lib.hid hJ
      obtain ⟨i0, hi, hz, hsz, hby⟩ := infoRow
      clear h0 h1 hfa hfb hlta hltb hJ hC hL
      have HA := Lib.hid ha'; have HBB := Lib.hid hb'; clear ha' hb' ha hb
      go_enter Try.func33, Try.ntmps33
      go_wp2_with fail
      refine (l2Fault_c A c a _ fp HA.out).mono ?_
      rintro e w1 ⟨rfl, m1, rfl⟩
      rw [H0.out]
      go_wp2_with fail
      refine (l2Fault_c B d b _ fq (HBB.out.drewN m1)).mono ?_
      rintro e w2 ⟨rfl, m2, hw2⟩
      rw [World.drewN_drewN] at hw2
      generalize m1 + m2 = m at hw2
      subst hw2
      rw [H1.out]
      have hO : (((w.alloc (.cells #[.int .i64 0, .slice none 0 0] 30)).drewN m).alloc (.cells #[] 26)).ownsRow (w.heap.size + 1) 26 4 (.slice (some ⟨w.heap.size + 1, 0, none⟩) 0 0) 0 [] := by
        have := own_emptyR (w := (w.alloc (.cells #[.int .i64 0, .slice none 0 0] 30)).drewN m) (t := 26) (base := w.heap.size + 1) (by simp)
        simpa using this
      have HO := Lib.hid hO; clear hO
      have HRA := Lib.hid ((HA.out.drewN m).alloc (.cells #[] 26))
      have HBel := Lib.hid (show Below (w.heap.size + 1) (w.alloc (.cells #[.int .i64 0, .slice none 0 0] 30)) (((w.alloc (.cells #[.int .i64 0, .slice none 0 0] 30)).drewN m).alloc (.cells #[] 26)) from (below_drewN' (Below.refl _ _) m).alloc (by simp) _)
      go_wp2_with (at_builtin; refine wpList_append_rd rfl _ _ 24 rfl (w.heap.size + 1) 26 i0 (rv (0, 0, 0, 0)) 4 32 Try.underlying24 hi hz hsz hby rfl (by decide) _ _ _ rfl HO.out A a.length c (rcs a) fp rfl HRA.out (rcs_one a) ?c3 ?c4 ?c5 ?_)
      case c3 => unfold maxLen; omega
      case c4 => omega
      case c5 => simp
      intro v3 w3 hown3 hgrow3
      have hb3 := HBel.out.grown hgrow3 (by simp) (by intro g hg; simp [Value.ownBlock] at hg; omega)
      obtain ⟨f3, hr3, hn3, hf3⟩ := Rd.of_own hown3
      have HR3 := Lib.hid hr3; have HN3 := Lib.hid hn3; have HF3 := Lib.hid hf3; have HB3 := Lib.hid hb3
      clear hown3 hgrow3 hb3 hr3 hn3 hf3 HBel HRA HO
      go_wp2_with fail
      go_loopw [7, 8] (fun v i wr => ∃ (k : Nat) (acc : List R) (fv : List Nat), k ≤ b.length ∧ i = .int .i64 k ∧ acc.length ≤ 12 + k ∧ Hid (Rd wr 4 v (rcs acc) fv) ∧ Hid (NF wr fv) ∧ Hid (From (w.heap.size + 1) fv) ∧ Hid (Below (w.heap.size + 1) (w.alloc (.cells #[.int .i64 0, .slice none 0 0] 30)) wr) ∧ Hid (Fits acc) ∧ Hid (joinGo a acc (b.drop k) = J)) (fun _ i _ => b.length - (intOf i).toNat)
      case atStart => exact ⟨0, a, f3, Nat.zero_le _, rfl, by omega, HR3, HN3, HF3, HB3, HFA, HJ⟩
      case round =>
        obtain ⟨k, acc, fv, hk, rfl, hlen, HRV, HNV, HFV, HBV, HFT, HJV⟩ := hrel
        clear HR3 HN3 HF3 HB3
        by_cases hlt : k < b.length
        · obtain ⟨bb, off, hB, _, hl1, p0, p1, p2, p3⟩ := (HBB.out.below HBV.out (fun b' hb' => by have := HLB.out b' hb'; omega)).row_at hlt
          subst hB
          have hfx := HFB.out k hlt
          have hj := HJV.out
          rw [joinGo_at a acc b k hlt] at hj
          obtain ⟨Av, cv, hv⟩ := HRV.out.rows_form
          subst hv
          generalize b[k] = x at *
          have HFX := Lib.hid hfx; clear hfx
          have hi0 : (0 : Int) ≤ (k : Int) := by omega
          have hi1 : (k : Int) < (b.length : Int) := by omega
          have HRA := Lib.hid (HA.out.below HBV.out (fun b' hb' => by have := HLA.out b' hb'; omega))
          cases hg : (getR a x.1 x.2.1).isSome
          · rw [hg, if_neg (by simp)] at hj
            have HJ2 := Lib.hid hj; clear hj
            have HG := Lib.hid hg; clear hg
            go_wp2_with fail
            go_region_held3 (fun w' => w'.cell? ⟨bb, off + k * 4, none⟩ = some (.int .i64 x.1) ∧ w'.cell? ⟨bb, off + k * 4 + 1, none⟩ = some (.int .i64 x.2.1))
              (first
                | go_keep
                | (refine ⟨(Below.cell (w := wr) (p := ⟨bb, _, none⟩) ?_ hl1).trans p0, (Below.cell (w := wr) (p := ⟨bb, _, none⟩) ?_ hl1).trans p1⟩ <;> (repeat (first | with_reducible exact hb1 | with_reducible refine below_set ?_ _ _ | with_reducible refine below_more ?_ _))))
              (first
                | (go_at_call 56
                   refine (l2Get_c A c a x.1 x.2.1 _ fp (HRA.out.below' (Below.refl _ _).drew)).mono ?_
                   rintro e w4 ⟨rfl, hb0⟩
                   rw [HG.out]
                   generalize getV a x.1 x.2.1 = V
                   have hb1 : Below wr.heap.size wr w4 := (Below.refl _ _).drew.trans hb0
                   clear hb0)
                | (go_at_call 56
                   refine (l2Get_c A c a x.1 x.2.1 _ fp (HRA.out.below' ((Below.refl _ _).drew.alloc (by simp) _))).mono ?_
                   rintro e w4 ⟨rfl, hb0⟩
                   rw [HG.out]
                   generalize getV a x.1 x.2.1 = V
                   have hb1 : Below wr.heap.size wr w4 := ((Below.refl _ _).drew.alloc (by simp) _).trans (hb0.mono (by simp))
                   obtain ⟨y0, y1, y2, y3, z0, z1, z2, z3, z4⟩ := four_at (g := wr.heap.size) ((hb0.block wr.heap.size (by simp)).trans (heap_new wr.drew _ rfl))
                   clear hb0))
            · have hb5 := below_more hb1 (.cells #[.int .i64 V.1, .int .i64 V.2.1, .int .i64 V.2.2.1, .int .i64 V.2.2.2] 26)
              generalize w4.alloc (.cells #[.int .i64 V.1, .int .i64 V.2.1, .int .i64 V.2.2.1, .int .i64 V.2.2.2] 26) = w5 at hb5 ⊢
              have hwr := HBV.out.size
              simp only [World.size_alloc] at hwr
              have hB5 : Below (w.heap.size + 1) (w.alloc (.cells #[.int .i64 0, .slice none 0 0] 30)) w5 := HBV.out.trans (hb5.mono hwr)
              have q0 := (hb5.cell (p := ⟨bb, _, none⟩) hl1).trans p0
              have q1 := (hb5.cell (p := ⟨bb, _, none⟩) hl1).trans p1
              have q2 := (hb5.cell (p := ⟨bb, _, none⟩) hl1).trans p2
              have q3 := (hb5.cell (p := ⟨bb, _, none⟩) hl1).trans p3
              have HR5 := Lib.hid (HRV.out.below' hb5)
              have HB5 := Lib.hid hB5
              have hsz5 := hB5.size
              simp only [World.size_alloc] at hsz5
              clear hb1 hb5 hB5 HRV HNV HFV HBV p0 p1 p2 p3 hwr
              go_wp2_with fail
              refine (l2Merge_c Av cv acc x _ fv (by omega) HFT.out HFX.out HR5.out).mono ?_
              rintro e w6 ⟨v6, f6, rfl, hr6, hn6, hf6, hb6, _⟩
              have hB6 : Below (w.heap.size + 1) (w.alloc (.cells #[.int .i64 0, .slice none 0 0] 30)) w6 := HB5.out.trans (hb6.mono hsz5)
              have hf6' : From (w.heap.size + 1) f6 := hf6.mono hsz5
              have HR6 := Lib.hid hr6; have HN6 := Lib.hid hn6; have HF6 := Lib.hid hf6'; have HB6 := Lib.hid hB6
              clear hr6 hn6 hf6 hf6' hb6 hB6 q0 q1 q2 q3 HR5 HB5
              go_wp2_with fail
              exact ⟨⟨k + 1, mergeGo x false acc, f6, by omega, by go_num, by have := (mergeGo_length x acc).1; omega, HR6, HN6, HF6, HB6, Lib.hid (fits_merge HFT.out HFX.out), HJ2⟩, by simp [intOf]; omega⟩
            · have hb5 := below_set (below_set (below_set (below_set hb1 0 (.int .i64 V.1)) 1 (.int .i64 V.2.1)) 2 (.int .i64 V.2.2.1)) 3 (.int .i64 V.2.2.2)
              generalize (((w4.setCell ⟨wr.heap.size, 0, none⟩ (.int .i64 V.1)).setCell ⟨wr.heap.size, 1, none⟩ (.int .i64 V.2.1)).setCell ⟨wr.heap.size, 2, none⟩ (.int .i64 V.2.2.1)).setCell ⟨wr.heap.size, 3, none⟩ (.int .i64 V.2.2.2) = w5 at hb5 ⊢
              clear y0 y1 y2 y3 z0 z1 z2 z3 z4
              have hwr := HBV.out.size
              simp only [World.size_alloc] at hwr
              have hB5 : Below (w.heap.size + 1) (w.alloc (.cells #[.int .i64 0, .slice none 0 0] 30)) w5 := HBV.out.trans (hb5.mono hwr)
              have q0 := (hb5.cell (p := ⟨bb, _, none⟩) hl1).trans p0
              have q1 := (hb5.cell (p := ⟨bb, _, none⟩) hl1).trans p1
              have q2 := (hb5.cell (p := ⟨bb, _, none⟩) hl1).trans p2
              have q3 := (hb5.cell (p := ⟨bb, _, none⟩) hl1).trans p3
              have HR5 := Lib.hid (HRV.out.below' hb5)
              have HB5 := Lib.hid hB5
              have hsz5 := hB5.size
              simp only [World.size_alloc] at hsz5
              clear hb1 hb5 hB5 HRV HNV HFV HBV p0 p1 p2 p3 hwr
              go_wp2_with fail
              refine (l2Merge_c Av cv acc x _ fv (by omega) HFT.out HFX.out HR5.out).mono ?_
              rintro e w6 ⟨v6, f6, rfl, hr6, hn6, hf6, hb6, _⟩
              have hB6 : Below (w.heap.size + 1) (w.alloc (.cells #[.int .i64 0, .slice none 0 0] 30)) w6 := HB5.out.trans (hb6.mono hsz5)
              have hf6' : From (w.heap.size + 1) f6 := hf6.mono hsz5
              have HR6 := Lib.hid hr6; have HN6 := Lib.hid hn6; have HF6 := Lib.hid hf6'; have HB6 := Lib.hid hB6
              clear hr6 hn6 hf6 hf6' hb6 hB6 q0 q1 q2 q3 HR5 HB5
              go_wp2_with fail
              exact ⟨⟨k + 1, mergeGo x false acc, f6, by omega, by go_num, by have := (mergeGo_length x acc).1; omega, HR6, HN6, HF6, HB6, Lib.hid (fits_merge HFT.out HFX.out), HJ2⟩, by simp [intOf]; omega⟩
          · rw [hg, if_pos rfl] at hj
            obtain rfl : J = none := hj.symm
            obtain rfl : C = 6 := HC.out
            obtain rfl : L = [] := HL.out
            have HG := Lib.hid hg; clear hg hj HC HL HJ HJV
            go_wp2_with fail
            go_region_held3 (fun w' => w'.cell? ⟨bb, off + k * 4, none⟩ = some (.int .i64 x.1) ∧ w'.cell? ⟨bb, off + k * 4 + 1, none⟩ = some (.int .i64 x.2.1))
              (first
                | go_keep
                | (refine ⟨(Below.cell (w := wr) (p := ⟨bb, _, none⟩) ?_ hl1).trans p0, (Below.cell (w := wr) (p := ⟨bb, _, none⟩) ?_ hl1).trans p1⟩ <;> (repeat (first | with_reducible exact hb1 | with_reducible refine below_set ?_ _ _ | with_reducible refine below_more ?_ _))))
              (first
                | (go_at_call 56
                   refine (l2Get_c A c a x.1 x.2.1 _ fp (HRA.out.below' (Below.refl _ _).drew)).mono ?_
                   rintro e w4 ⟨rfl, hb0⟩
                   rw [HG.out]
                   generalize getV a x.1 x.2.1 = V
                   have hb1 : Below wr.heap.size wr w4 := (Below.refl _ _).drew.trans hb0
                   clear hb0)
                | (go_at_call 56
                   refine (l2Get_c A c a x.1 x.2.1 _ fp (HRA.out.below' ((Below.refl _ _).drew.alloc (by simp) _))).mono ?_
                   rintro e w4 ⟨rfl, hb0⟩
                   rw [HG.out]
                   generalize getV a x.1 x.2.1 = V
                   have hb1 : Below wr.heap.size wr w4 := ((Below.refl _ _).drew.alloc (by simp) _).trans (hb0.mono (by simp))
                   obtain ⟨y0, y1, y2, y3, z0, z1, z2, z3, z4⟩ := four_at (g := wr.heap.size) ((hb0.block wr.heap.size (by simp)).trans (heap_new wr.drew _ rfl))
                   clear hb0))
            · have hb5 := below_more hb1 (.cells #[.int .i64 V.1, .int .i64 V.2.1, .int .i64 V.2.2.1, .int .i64 V.2.2.2] 26)
              generalize w4.alloc (.cells #[.int .i64 V.1, .int .i64 V.2.1, .int .i64 V.2.2.1, .int .i64 V.2.2.2] 26) = w5 at hb5 ⊢
              have hwr := HBV.out.size
              simp only [World.size_alloc] at hwr
              have hB5 : Below (w.heap.size + 1) (w.alloc (.cells #[.int .i64 0, .slice none 0 0] 30)) w5 := HBV.out.trans (hb5.mono hwr)
              obtain ⟨c0, c1, f0, f1, hz5⟩ := two_at (newest hB5 (by omega))
              have HB5 := Lib.hid hB5
              clear hb1 hb5 hB5 HRV HNV HFV HBV p0 p1 p2 p3 hwr
              go_wp2_with fail
              exact bodyPost_ret (v := .agg #[.int .i64 6, .slice none 0 0]) (by simp [results, Try.results33, go_sem, c0, c1, hz5]) rfl ⟨_, rfl, rres_nil _ _ _, ((below_new _).trans (HB5.out.mono (by omega))).trans ((But.two _ w.heap.size 0 1 _ _).below (by omega) (by intro b hb; simp at hb; omega))⟩
            · have hb5 := below_set (below_set (below_set (below_set hb1 0 (.int .i64 V.1)) 1 (.int .i64 V.2.1)) 2 (.int .i64 V.2.2.1)) 3 (.int .i64 V.2.2.2)
              generalize (((w4.setCell ⟨wr.heap.size, 0, none⟩ (.int .i64 V.1)).setCell ⟨wr.heap.size, 1, none⟩ (.int .i64 V.2.1)).setCell ⟨wr.heap.size, 2, none⟩ (.int .i64 V.2.2.1)).setCell ⟨wr.heap.size, 3, none⟩ (.int .i64 V.2.2.2) = w5 at hb5 ⊢
              clear y0 y1 y2 y3 z0 z1 z2 z3 z4
              have hwr := HBV.out.size
              simp only [World.size_alloc] at hwr
              have hB5 : Below (w.heap.size + 1) (w.alloc (.cells #[.int .i64 0, .slice none 0 0] 30)) w5 := HBV.out.trans (hb5.mono hwr)
              obtain ⟨c0, c1, f0, f1, hz5⟩ := two_at (newest hB5 (by omega))
              have HB5 := Lib.hid hB5
              clear hb1 hb5 hB5 HRV HNV HFV HBV p0 p1 p2 p3 hwr
              go_wp2_with fail
              exact bodyPost_ret (v := .agg #[.int .i64 6, .slice none 0 0]) (by simp [results, Try.results33, go_sem, c0, c1, hz5]) rfl ⟨_, rfl, rres_nil _ _ _, ((below_new _).trans (HB5.out.mono (by omega))).trans ((But.two _ w.heap.size 0 1 _ _).below (by omega) (by intro b hb; simp at hb; omega))⟩
        · obtain rfl : k = b.length := by omega
          have hj := HJV.out
          rw [List.drop_of_length_le (Nat.le_refl _)] at hj
          obtain rfl : J = some acc := hj.symm
          obtain ⟨Av, cv, hv⟩ := HRV.out.rows_form
          subst hv
          have hnewr := newest HBV.out (by omega)
          obtain ⟨c0, c1, f0, f1, hz5⟩ := two_at hnewr
          clear hnewr HJ HJV hj
          by_cases hbig : 12 < acc.length
          · obtain rfl : C = 2 := by rw [HC.out]; simp [jC, hbig]
            obtain rfl : L = [] := HL.out
            clear HC HL
            go_wp2_with fail
            exact bodyPost_ret (v := .agg #[.int .i64 2, .slice none 0 0]) (by simp [results, Try.results33, go_sem, c0, c1, hz5]) rfl ⟨_, rfl, rres_nil _ _ _, ((below_new _).trans (HBV.out.mono (by omega))).trans ((But.two _ w.heap.size 0 1 _ _).below (by omega) (by intro b hb; simp at hb; omega))⟩
          · obtain rfl : C = 0 := by rw [HC.out]; simp [jC, hbig]
            obtain rfl : L = acc := HL.out
            clear HC HL
            have hst := rres_stored (w := w) (code := 0) (g := w.heap.size) ((below_new _).trans (HBV.out.mono (by omega))) (by omega) HRV.out HNV.out HFV.out
            have HST := Lib.hid hst; clear hst
            go_wp2_with fail
            exact bodyPost_ret (v := .agg #[.int .i64 0, .slice Av L.length cv]) (by simp [results, Try.results33, go_sem, c0, c1, hz5]) rfl ⟨_, rfl, HST.out.1, HST.out.2⟩
    · have hC : jrC a b = rowsF b := by simp [jrC, h0, h1]
      have hL : jrL a b = [] := by simp [jrL, hC, h1]
      rw [hC, hL]
      have hne : (rowsF b != 0) = true := by simpa using h1
      have H0 := Lib.hid h0
      clear h0 h1 hC hL
      go_enter Try.func33, Try.ntmps33
      go_wp2_with fail
      refine (l2Fault_c A c a _ fp ha').mono ?_
      rintro e w1 ⟨rfl, m1, rfl⟩
      rw [H0.out]
      go_wp2_with fail
      refine (l2Fault_c B d b _ fq (hb'.drewN m1)).mono ?_
      rintro e w2 ⟨rfl, m2, hw2⟩
      rw [World.drewN_drewN] at hw2
      generalize m1 + m2 = m at hw2
      subst hw2
      go_wp2_with fail
      exact bodyPost_ret (v := .agg #[.int .i64 (rowsF b), .slice none 0 0]) (by simp [results, Try.results33, go_sem]) rfl ⟨_, rfl, rres_nil _ _ _, (below_drewN' (below_new _) m).trans ((But.two _ (w.heap.size) 0 1 _ _).below (by simp) (by intro b hb; simp at hb; omega))⟩
  · have hC : jrC a b = rowsF a := by simp [jrC, h0]
    have hL : jrL a b = [] := by simp [jrL, hC, h0]
    rw [hC, hL]
    have hne : (rowsF a != 0) = true := by simpa using h0
    clear h0 hC hL
    go_enter Try.func33, Try.ntmps33
    go_wp2_with fail
    refine (l2Fault_c A c a _ fp ha').mono ?_
    rintro e w1 ⟨rfl, m, rfl⟩
    go_wp2_with fail
    exact bodyPost_ret (v := .agg #[.int .i64 (rowsF a), .slice none 0 0]) (by simp [results, Try.results33, go_sem]) rfl ⟨_, rfl, rres_nil _ _ _, (below_drewN' (below_new _) m).trans ((But.two _ (w.heap.size) 0 1 _ _).below (by simp) (by intro b hb; simp at hb; omega))⟩
end Go.Proofs.Ythmmjkpgepffeaa
