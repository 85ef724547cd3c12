/-
  Contracts of the program's functions of chapter 2, second part: finding a row, comparing rows.
-/
import Derived.Test.YtfohlopbfanaeaaImpl2a
namespace Go.Proofs.Ytfohlopbfanaeaa
open Go.RowKit

theorem key_is {l s : Int} {x : R} (hf : Fit x) (hi : isB l s = true) : keyR x = 21 * l + s ↔ x.1 = l ∧ x.2.1 = s := by
  unfold isB at hi
  rw [Bool.and_eq_true, inB_true, inB_true] at hi
  unfold Fit at hf; unfold keyR; omega
theorem five_at {w : World} {g : Nat} {u v x y z : Value} {t : TypeId} (h : w.heap[g]? = some (.cells #[u, v, x, y, z] t (0, 0))) :
    w.cell? ⟨g, 0, none⟩ = some u ∧ w.cell? ⟨g, 1, none⟩ = some v ∧ w.cell? ⟨g, 2, none⟩ = some x ∧ w.cell? ⟨g, 3, none⟩ = some y ∧ w.cell? ⟨g, 4, none⟩ = some z ∧
    w.frozen? ⟨g, 0, none⟩ = false ∧ w.frozen? ⟨g, 1, none⟩ = false ∧ w.frozen? ⟨g, 2, none⟩ = false ∧ w.frozen? ⟨g, 3, none⟩ = false ∧ w.frozen? ⟨g, 4, none⟩ = false ∧ g < w.heap.size :=
  ⟨cell_of_heap h, cell_of_heap h, cell_of_heap h, cell_of_heap h, cell_of_heap h, frozen_of_heap h, frozen_of_heap h, frozen_of_heap h, frozen_of_heap h, frozen_of_heap h, heap_lt h⟩
/-- Five stores into one block. -/
theorem But.five (w : World) (g : Nat) (a b c d e : Value) : But [g] w (((((w.setCell ⟨g, 0, none⟩ a).setCell ⟨g, 1, none⟩ b).setCell ⟨g, 2, none⟩ c).setCell ⟨g, 3, none⟩ d).setCell ⟨g, 4, none⟩ e) :=
  (((((But.refl [g] w).setCell (p := ⟨g, 0, none⟩) (by simp) a).setCell (p := ⟨g, 1, none⟩) (by simp) b).setCell (p := ⟨g, 2, none⟩) (by simp) c).setCell (p := ⟨g, 3, none⟩) (by simp) d).setCell (p := ⟨g, 4, none⟩) (by simp) e
theorem below_five {w w1 : World} (hb : Below w.heap.size w w1) (a b c d e : Value) : Below w.heap.size w (((((w1.setCell ⟨w.heap.size, 0, none⟩ a).setCell ⟨w.heap.size, 1, none⟩ b).setCell ⟨w.heap.size, 2, none⟩ c).setCell ⟨w.heap.size, 3, none⟩ d).setCell ⟨w.heap.size, 4, none⟩ e) :=
  hb.trans ((But.five w1 w.heap.size a b c d e).below hb.size (by intro b hb; simp at hb; omega))

set_option maxRecDepth 100000 in
set_option maxHeartbeats 2000000 in
theorem implFindRow_a : AskFindRow := by
  intro A c rs l s w fp hs hwf hwl hws ha
  have hmax := ha.len_le
  have ha' := ha.alloc (.cells #[.int .i64 0, .int .i64 0, .int .i64 0, .int .i64 0, .int .i64 0] 94)
  by_cases h0 : rowsF rs = 0
  · cases hi : isB l s
    · have eC : findC rs l s = 3 := by simp [findC, h0, hi]
      have eV : findV rs l s = (0, 0, 0, 0) := by simp [findV, eC]
      have eK : keyP l s = (3, 0) := by simp [keyP, hi]
      rw [eC, eV]
      have H0 := Lib.hid h0; have HI := Lib.hid hi; have HK := Lib.hid eK; clear h0 hi eC eV eK
      go_enter Try.func103, Try.ntmps103
      go_wp2_with fail
      refine (implRowsFault_a A c rs _ fp hs hwf ha').mono ?_
      rintro e w1 ⟨rfl, hb1⟩
      rw [H0.out]
      have hg1 := newest hb1 (by simp)
      have hb1' : Below w.heap.size w w1 := (below_new _).trans (hb1.mono (by simp))
      have HB1 := Lib.hid hb1'; have HG1 := Lib.hid hg1; clear hb1 hb1' hg1
      go_wp2_with fail
      refine (implKeyOf_a l s _ hwl hws).mono ?_
      rintro e w2 ⟨rfl, hb2⟩
      rw [HK.out]
      have hg2 := (hb2.block _ (heap_lt HG1.out)).trans HG1.out
      obtain ⟨c0, c1, c2, c3, c4, f0, f1, f2, f3, f4, hz⟩ := five_at hg2
      have hb2' : Below w.heap.size w w2 := HB1.out.trans (hb2.mono HB1.out.size)
      have HB2 := Lib.hid hb2'; clear hb2 hb2' hg2
      go_wp2_with fail
      exact bodyPost_ret (v := rrv 3 (0, 0, 0, 0)) (by simp [results, Try.results103, go_sem, c0, c1, c2, c3, c4, hz]) rfl ⟨rfl, below_more (below_five HB2.out _ _ _ _ _) _⟩
    · have HI := Lib.hid hi
      have eK : keyP l s = (0, 21 * l + s) := by simp [keyP, hi]
      have eC : findC rs l s = if (getR (rs.drop 0) l s).isSome then 0 else 4 := by simp [findC, h0, hi]
      have eV : findV rs l s = if (getR (rs.drop 0) l s).isSome then getV (rs.drop 0) l s else (0, 0, 0, 0) := by unfold findV; rw [eC]; cases hq : (getR (rs.drop 0) l s).isSome <;> simp
      have hfits : ∀ j (h : j < rs.length), Fit rs[j] := (rowsF_fits h0).1
      generalize hC : findC rs l s = C at *
      generalize hV : findV rs l s = V at *
      have HC := Lib.hid eC; have HV := Lib.hid eV; have HFT := Lib.hid hfits
      have H0 := Lib.hid h0; have HK := Lib.hid eK; clear h0 hi eC eV eK hC hV hfits
      go_enter Try.func103, Try.ntmps103
      go_wp2_with fail
      refine (implRowsFault_a A c rs _ fp hs hwf ha').mono ?_
      rintro e w1 ⟨rfl, hb1⟩
      rw [H0.out]
      have hg1 := newest hb1 (by simp)
      have hb1' : Below w.heap.size w w1 := (below_new _).trans (hb1.mono (by simp))
      have HB1 := Lib.hid hb1'; have HG1 := Lib.hid hg1; clear hb1 hb1' hg1
      go_wp2_with fail
      refine (implKeyOf_a l s _ hwl hws).mono ?_
      rintro e w2 ⟨rfl, hb2⟩
      rw [HK.out]
      have hg2 := (hb2.block _ (heap_lt HG1.out)).trans HG1.out
      have hb2' : Below w.heap.size w w2 := HB1.out.trans (hb2.mono HB1.out.size)
      have hzz := heap_lt hg2
      have HB2 := Lib.hid hb2'; have HG2 := Lib.hid hg2; clear hb2 hb2' hg2
      go_wp2_with fail
      go_loopw [28] (fun i wr => ∃ k : Nat, k ≤ rs.length ∧ i = .int .i64 k ∧ Hid (Below (w2.heap.size + 1) (w2.alloc (.cells #[.int .i64 0, .int .i64 (21 * l + s)] 36)) wr) ∧ Hid (getR (rs.drop k) l s = getR (rs.drop 0) l s)) (fun i _ => rs.length - (intOf i).toNat)
      case atStart => exact ⟨0, Nat.zero_le _, rfl, by first | exact Below.refl _ _ | skip, rfl⟩
      case round =>
        obtain ⟨k, hk, rfl, hbel, hgo⟩ := hrel
        have hgr : wr.heap[w.heap.size]? = some (.cells #[.int .i64 0, .int .i64 0, .int .i64 0, .int .i64 0, .int .i64 0] 94 (0, 0)) := (hbel.out.block _ (by omega)).trans (heap_old HG2.out)
        have hgk : wr.heap[w2.heap.size]? = some (.cells #[.int .i64 0, .int .i64 (21 * l + s)] 36 (0, 0)) := (hbel.out.block _ (by omega)).trans (heap_new w2 _ rfl)
        have hbw : Below w.heap.size w wr := (below_more HB2.out _).trans (hbel.out.mono (by have := HB2.out.size; omega))
        have HBW := Lib.hid hbw
        by_cases hlt : k < rs.length
        · obtain ⟨b, off, hA, _, _, p0, p1, p2, p3⟩ := (ha.below' hbw).row_at hlt
          subst hA
          have hfk := HFT.out k hlt
          have hki := key_is hfk HI.out
          have hst := getR_drop_succ rs l s k hlt
          have hVk : getV (rs.drop k) l s = getV (rs.drop 0) l s := by unfold getV; rw [hgo.out]
          generalize hr : rs[k] = r at *
          have HRK := Lib.hid hr; clear hr
          have HKI := Lib.hid hki; have HST := Lib.hid hst; have HFK := Lib.hid hfk; have HVK := Lib.hid hVk
          have hzk := heap_lt hgk
          have hck : wr.cell? ⟨w2.heap.size, 1, none⟩ = some (.int .i64 (21 * l + s)) := cell_of_heap hgk
          have HGK := Lib.hid hgk; have HGR := Lib.hid hgr
          have hzr := heap_lt hgr
          clear hki hst hfk hbw hgk hgr hVk
          go_wp2_with fail
          go_region_held3 (fun w' => w'.cell? ⟨wr.heap.size, 0, none⟩ = some (.int .i64 r.1) ∧ w'.cell? ⟨wr.heap.size, 1, none⟩ = some (.int .i64 r.2.1) ∧ w'.cell? ⟨wr.heap.size, 2, none⟩ = some (.int .i64 r.2.2.1) ∧ w'.cell? ⟨wr.heap.size, 3, none⟩ = some (.int .i64 r.2.2.2) ∧ w'.cell? ⟨w2.heap.size, 1, none⟩ = some (.int .i64 (21 * l + s)))
            (first
              | go_keep
              | exact ⟨(hb1.cell (p := ⟨wr.heap.size, 0, none⟩) (by simp)).trans (by simp), (hb1.cell (p := ⟨wr.heap.size, 1, none⟩) (by simp)).trans (by simp), (hb1.cell (p := ⟨wr.heap.size, 2, none⟩) (by simp)).trans (by simp), (hb1.cell (p := ⟨wr.heap.size, 3, none⟩) (by simp)).trans (by simp),
                  (hb1.cell (p := ⟨w2.heap.size, 1, none⟩) (by simp; omega)).trans (by simp [*])⟩)
            ((go_at_call 95; refine (rowKey_b r _ HFK.out).mono ?_; rintro e w3 ⟨rfl, hb1⟩))
          have hB3 : Below (w2.heap.size + 1) (w2.alloc (.cells #[.int .i64 0, .int .i64 (21 * l + s)] 36)) w3 := (hbel.out.alloc (by have := hbel.out.size; simp at this; omega) _).drew.trans (hb1.mono (by have := hbel.out.size; simp at this ⊢; omega))
          have hg3 : w3.heap[w.heap.size]? = some (.cells #[.int .i64 0, .int .i64 0, .int .i64 0, .int .i64 0, .int .i64 0] 94 (0, 0)) := (hB3.block _ (by omega)).trans (heap_old HG2.out)
          have hbw3 : Below w.heap.size w w3 := (below_more HB2.out _).trans (hB3.mono (by have := HB2.out.size; omega))
          rename_i hheld
          obtain ⟨r0, r1, r2, r3, _⟩ := hheld
          have HB3 := Lib.hid hB3; have HG3 := Lib.hid hg3; have HBW3 := Lib.hid hbw3
          clear hB3 hg3 hbw3 hb1 hck p0 p1 p2 p3
          by_cases hkey : keyR r = 21 * l + s
          · have hd : (keyR r == 21 * l + s) = true := by simpa using hkey
            have hsome : getR (rs.drop 0) l s = some r := by rw [← hgo.out, HST.out, if_pos (HKI.out.1 hkey)]
            have hC : C = 0 := by rw [HC.out, hsome]; rfl
            have hV : V = r := by
              rw [HV.out, hsome]
              show getV (rs.drop 0) l s = r
              unfold getV
              rw [hsome]; rfl
            subst hC hV
            clear hsome hkey
            obtain ⟨c0, c1, c2, c3, c4, f0, f1, f2, f3, f4, hz⟩ := five_at HG3.out
            go_wp2_with fail
            exact bodyPost_ret (v := rrv 0 V) (by simp [results, Try.results103, go_sem, c0, c1, c2, c3, c4, hz]) rfl ⟨rfl, below_five HBW3.out _ _ _ _ _⟩
          · have hd : (keyR r == 21 * l + s) = false := by simpa using hkey
            have hgo' : getR (rs.drop (k + 1)) l s = getR (rs.drop 0) l s := by rw [← hgo.out, HST.out, if_neg (fun h => hkey (HKI.out.2 h))]
            have HGO := Lib.hid hgo'
            clear hgo' hkey
            go_wp2_with fail
            exact ⟨⟨k + 1, by omega, by go_num, HB3.out, HGO.out⟩, by simp [intOf]; omega⟩
        · obtain rfl : k = rs.length := by omega
          have hnone : getR (rs.drop 0) l s = none := by rw [← hgo.out, List.drop_length]; rfl
          have hC : C = 4 := by rw [HC.out, hnone]; rfl
          have hV : V = (0, 0, 0, 0) := by rw [HV.out, hnone]; rfl
          subst hC hV
          clear hnone hbw hgk
          obtain ⟨c0, c1, c2, c3, c4, f0, f1, f2, f3, f4, hz⟩ := five_at hgr
          clear hgr
          go_wp2_with fail
          exact bodyPost_ret (v := rrv 4 (0, 0, 0, 0)) (by simp [results, Try.results103, go_sem, c0, c1, c2, c3, c4, hz]) rfl ⟨rfl, below_five HBW.out _ _ _ _ _⟩
  · have eC : findC rs l s = rowsF rs := by simp [findC, h0]
    have eV : findV rs l s = (0, 0, 0, 0) := by simp [findV, eC, h0]
    rw [eC, eV]
    have hne : (rowsF rs != 0) = true := by simpa using h0
    clear h0 eC eV
    go_enter Try.func103, Try.ntmps103
    go_wp2_with fail
    refine (implRowsFault_a A c rs _ fp hs hwf ha').mono ?_
    rintro e w1 ⟨rfl, hb1⟩
    obtain ⟨c0, c1, c2, c3, c4, f0, f1, f2, f3, f4, hz⟩ := five_at (newest hb1 (by simp))
    have hb1' : Below w.heap.size w w1 := (below_new _).trans (hb1.mono (by simp))
    have HB1 := Lib.hid hb1'; clear hb1 hb1'
    go_wp2_with fail
    exact bodyPost_ret (v := rrv (rowsF rs) (0, 0, 0, 0)) (by simp [results, Try.results103, go_sem, c0, c1, c2, c3, c4, hz]) rfl ⟨rfl, below_five HB1.out _ _ _ _ _⟩

set_option maxRecDepth 100000 in
set_option maxHeartbeats 1000000 in
theorem implSameRows_a : AskSameRows := by
  intro A B c d xs ys w fp fq _ _ _ _ ha hb
  have hmax := ha.len_le
  have hmax2 := hb.len_le
  by_cases hl : xs.length = ys.length
  · have hne : ((xs.length : Int) != (ys.length : Int)) = false := by simp [hl]
    have HL := Lib.hid hl; clear hl
    generalize hR : decide (xs = ys) = res
    have HR := Lib.hid hR; clear hR
    have q1 := rowNeq; have q2 := rowGuard
    go_enter Try.func67, Try.ntmps67
    go_wp2
    go_loopw [13] (fun i wr => ∃ k m : Nat, k ≤ xs.length ∧ i = .int .i64 k ∧ wr = w.drewN m ∧ Hid (∀ j (h1 : j < xs.length) (h2 : j < ys.length), j < k → xs[j] = ys[j])) (fun i _ => xs.length - (intOf i).toNat)
    case atStart => exact ⟨0, 0, Nat.zero_le _, rfl, rfl, fun j _ _ h => by omega⟩
    case round =>
      obtain ⟨k, m, hk, rfl, rfl, hsame⟩ := hrel
      by_cases hlt : k < xs.length
      · have hlt2 : k < ys.length := by rw [← HL.out]; exact hlt
        obtain ⟨b1, o1, rfl, _, hl1, p0, p1, p2, p3⟩ := ha.row_at hlt
        obtain ⟨b2, o2, rfl, _, hl2, r0, r1, r2, r3⟩ := hb.row_at hlt2
        by_cases he : xs[k] = ys[k]
        · rw [← he] at r0 r1 r2 r3
          have hsame' : ∀ j (h1 : j < xs.length) (h2 : j < ys.length), j < k + 1 → xs[j] = ys[j] := fun j h1 h2 hj => by
            by_cases e : j = k
            · subst e; exact he
            · exact hsame.out j h1 h2 (by omega)
          have HS := Lib.hid hsame'; clear hsame' he
          generalize xs[k] = r at *
          clear ha hb
          go_wp2_with fail
          go_quiet (fail)
          go_wp2_with fail
          exact ⟨⟨k + 1, _, by omega, by go_num, rfl, HS.out⟩, by simp [intOf]; omega⟩
        · have hd : decide (xs[k] = ys[k]) = false := by simp [he]
          have hres : res = false := by rw [← HR.out]; simp; intro e; subst e; exact he rfl
          have HRS := Lib.hid hres; clear hres he
          generalize xs[k] = r at *
          generalize ys[k] = s at *
          clear ha hb
          go_wp2_with fail
          go_quiet (fail)
          go_wp2_with fail
          go_ret
          exact ⟨by rw [HRS.out]; rfl, by repeat (first | with_reducible exact Below.refl _ _ | with_reducible exact below_new _ | with_reducible refine below_set ?_ _ _ | with_reducible refine below_drewN' ?_ _ | with_reducible assumption | with_reducible refine below_more ?_ _)⟩
      · have hres : res = true := by rw [← HR.out]; simp; exact take_eq_of HL.out fun j h1 h2 => hsame.out j h1 h2 (by omega)
        have HRS := Lib.hid hres; clear hres
        go_wp2
        go_ret
        exact ⟨by rw [HRS.out]; rfl, by repeat (first | with_reducible exact Below.refl _ _ | with_reducible exact below_new _ | with_reducible refine below_set ?_ _ _ | with_reducible refine below_drewN' ?_ _ | with_reducible assumption | with_reducible refine below_more ?_ _)⟩
  · have hne : ((xs.length : Int) != (ys.length : Int)) = true := by simp; omega
    have hd : decide (xs = ys) = false := by simp; intro e; subst e; exact hl rfl
    rw [hd]
    clear hd hl
    go_enter Try.func67, Try.ntmps67
    go_wp2
    go_ret
    exact ⟨rfl, Below.refl _ _⟩
end Go.Proofs.Ytfohlopbfanaeaa
