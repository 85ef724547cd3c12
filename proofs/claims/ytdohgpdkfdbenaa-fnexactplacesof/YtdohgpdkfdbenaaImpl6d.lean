/-
  The program's functions of chapter 6, fourth part: rows laid into files.
-/
import Derived.Test.YtdohgpdkfdbenaaImpl6a
import Derived.Test.YtdohgpdkfdbenaaPlace6
import Derived.Test.YtdohgpdkfdbenaaKeepM
namespace Go.Proofs.Ytdohgpdkfdbenaa
open Go.RowKit

def AskPlacesOf : Prop := ∀ (A : Option Addr) (c : Nat) (rs : List R) (m : Int) (w : World) (fp : List Nat), rs.length ≤ 1048576 → (∀ r ∈ rs, WfR r) → (Lit.int .i64 m).wf = true → Rd w 4 (.slice A rs.length c) (rcs rs) fp →
  Calls Try.prog 25 #[.slice A rs.length c, .int .i64 m] w (PResPost w (poC rs m) (poL rs m))

set_option maxRecDepth 100000 in
set_option maxHeartbeats 4000000 in
theorem implPlacesOf_a : AskPlacesOf := by
  intro A c rs m w fp hs hwf _ ha
  have HB0 := Lib.hid (below_new (w := w) (.cells #[.int .i64 0, .slice none 0 0, .int .i64 0] 51))
  have HG0 := Lib.hid (heap_new w (.cells #[.int .i64 0, .slice none 0 0, .int .i64 0] 51) rfl)
  have HA := Lib.hid (ha.alloc (.cells #[.int .i64 0, .slice none 0 0, .int .i64 0] 51)); have HWF := Lib.hid hwf
  clear ha hwf
  by_cases h0 : rowsF rs = 0
  case neg =>
    have hC : poC rs m = rowsF rs := by unfold poC; rw [if_neg h0]
    have hL : poL rs m = ⟨[], 0⟩ := by unfold poL; rw [if_neg (by rw [hC]; exact h0)]
    rw [hC, hL]
    generalize hV : rowsF rs = V at h0 ⊢
    have HV := Lib.hid hV
    have t1 : (V != 0) = true := by simpa using h0
    clear h0 hC hL hV
    go_enter Try.func25, Try.ntmps25
    go_wp2_with fail
    refine (implRowsFault_a A c rs _ fp hs HWF.out HA.out).mono ?_
    rw [HV.out]
    rintro e w1 ⟨rfl, hb1⟩
    have HB1 := Lib.hid (HB0.out.trans (hb1.mono HB0.out.size))
    obtain ⟨y0, y1, y2, z0, z1, z2, yz⟩ := three_at6 ((hb1.block _ (heap_lt HG0.out)).trans HG0.out)
    clear hb1
    go_wp2_with fail
    refine bodyPost_ret (v := plrv V 0 (.slice none 0 0)) (by simp [results, Try.results25, go_sem, y0, y1, y2]) rfl (pres_none ?_)
    exact HB1.out.trans (((((But.refl [w.heap.size] w1).setCell (p := ⟨w.heap.size, 0, none⟩) (by simp) _).setCell (p := ⟨w.heap.size, 1, none⟩) (by simp) _).setCell (p := ⟨w.heap.size, 2, none⟩) (by simp) _).below HB1.out.size (by intro b hb; simp at hb; omega))
  cases h1 : inB m 0 999
  case false =>
    have hC : poC rs m = 3 := by unfold poC; rw [if_pos h0, h1]; rfl
    have hL : poL rs m = ⟨[], 0⟩ := by unfold poL; rw [if_neg (by rw [hC]; decide)]
    rw [hC, hL]
    have H0 := Lib.hid h0; have H1 := Lib.hid h1
    clear h0 hC hL h1
    go_enter Try.func25, Try.ntmps25
    go_wp2_with fail
    refine (implRowsFault_a A c rs _ fp hs HWF.out HA.out).mono ?_
    rw [H0.out]
    rintro e w1 ⟨rfl, hb1⟩
    have HB1 := Lib.hid (HB0.out.trans (hb1.mono HB0.out.size))
    obtain ⟨y0, y1, y2, z0, z1, z2, yz⟩ := three_at6 ((hb1.block _ (heap_lt HG0.out)).trans HG0.out)
    clear hb1
    go_wp2_with fail
    refine (isMark_b m false H1.out _).mono ?_
    rintro e w' ⟨rfl, hw⟩
    subst hw
    go_wp2_with fail
    refine bodyPost_ret (v := plrv 3 0 (.slice none 0 0)) (by simp [results, Try.results25, go_sem, y0, y1, y2]) rfl (pres_none ?_)
    exact HB1.out.trans (((((But.refl [w.heap.size] w1).setCell (p := ⟨w.heap.size, 0, none⟩) (by simp) _).setCell (p := ⟨w.heap.size, 1, none⟩) (by simp) _).setCell (p := ⟨w.heap.size, 2, none⟩) (by simp) _).below HB1.out.size (by intro b hb; simp at hb; omega))
  have hC : poC rs m = 0 := by unfold poC; rw [if_pos h0, h1]; rfl
  have hL : poL rs m = ⟨filesOf rs, m⟩ := by unfold poL; rw [if_pos hC]
  rw [hC, hL]
  obtain ⟨hfit, h12⟩ := rowsF_fits h0
  have eg : ∀ args w, (callFunc 64 args).run Try.prog w = .ok (.enter 64 args) w := enters_of Try.func64 (by kernel_rfl) rfl
  have hmk : ∀ W : World, (Instr.makeSlice 24 (.int .i64 4) (.int .i64 4)).run Try.prog W = .ok (.slice (some ⟨W.heap.size, 0, none⟩) 4 4) (W.alloc (.cells (madeCells #[.slice none 0 0] 4) 29)) := fun W => makeRowSS 4 (by omega) W
  have H0 := Lib.hid h0; have H1 := Lib.hid h1; have HFIT := Lib.hid hfit; have EG := Lib.hid eg
  have hget : Hid (∀ k (h : k < (filesOf rs).length), (filesOf rs)[k] = rs.filter (solidAt k)) := filesOf_get rs
  have hlen : Hid ((filesOf rs).length = 4) := filesOf_len rs
  generalize filesOf rs = l at *
  clear h0 hC hL h1 hfit eg
  go_enter Try.func25, Try.ntmps25
  go_wp2_with fail
  refine (implRowsFault_a A c rs _ fp hs HWF.out HA.out).mono ?_
  rw [H0.out]
  rintro e w1 ⟨rfl, hb1⟩
  have HB1 := Lib.hid (HB0.out.trans (hb1.mono HB0.out.size))
  have HG1 := Lib.hid ((hb1.block _ (heap_lt HG0.out)).trans HG0.out)
  have HA1 := Lib.hid (HA.out.below' hb1)
  clear hb1
  go_wp2_with fail
  refine (isMark_b m true H1.out _).mono ?_
  rintro e w' ⟨rfl, hw⟩
  subst hw
  go_wp2_with fail
  clear hmk
  go_loopw [22] (fun i wr => ∃ k : Nat, k ≤ 4 ∧ i = .int .i64 k ∧ Hid (Fill rowsK [.slice none 0 0] w1 29 l k wr)) (fun i _ => 4 - (intOf i).toNat)
  case atStart => exact ⟨0, Nat.zero_le _, rfl, Lib.hid (Fill.zero (kd := rowsK) (l := l) (by rw [hlen.out]; exact madeNils 4))⟩
  case round =>
    obtain ⟨k, hk, rfl, hfl⟩ := hrel
    by_cases hlt : k < 4
    · have hkl : k < l.length := by rw [hlen.out]; exact hlt
      have hB := hfl.out.below
      have HHB := Lib.hid (below_new (w := wr) (.cells #[.int .i64 (k : Int)] 85))
      have HAK := Lib.hid ((HA1.out.below' hB).alloc (.cells #[.int .i64 (k : Int)] 85))
      have HPM : Hid (PredMth 64 #[.agg #[.int .i64 (k : Int)]] (solidAt k) (wr.alloc (.cells #[.int .i64 (k : Int)] 85))) := fun W x _ _ => fits_c (k : Int) x W
      have hge := hget.out k hkl
      have HGE := Lib.hid hge
      clear hB hge
      go_wp2_with fail
      refine (keepM_c 64 #[.agg #[.int .i64 (k : Int)]] (solidAt k) EG.out A c rs _ fp (by omega) HFIT.out HPM.out HAK.out).mono ?_
      rw [← HGE.out]
      rintro e w2 ⟨v2, f2, rfl, hr2, hn2, hf2, hb2, _⟩
      obtain ⟨A2, c2, rfl⟩ := hr2.rows_form
      have hb3 : Below wr.heap.size wr w2 := HHB.out.trans (hb2.mono HHB.out.size)
      obtain ⟨hz1, hfz, hcl⟩ := hfl.out.cells (by rfl) hkl hb3
      have c0 := hcl 0 _ rfl
      simp only [rowsK, Nat.mul_one, Nat.add_zero] at c0
      have f0 := hfz k
      have hst : ∀ w3, But [w1.heap.size] w2 w3 → (∀ cs, w2.heap[w1.heap.size]? = some (.cells cs 29 (0, 0)) → w3.heap[w1.heap.size]? = some (.cells (setAll cs (k * rowsK.K) [.slice A2 l[k].length c2]) 29 (0, 0))) → Fill rowsK [.slice none 0 0] w1 29 l (k + 1) w3 :=
        fun w3 hbut hset => hfl.out.step rfl hkl hb3 ⟨_, rfl, hr2⟩ hn2 (hf2.mono HHB.out.size) hr2.nodup hbut hset
      have HST := Lib.hid hst; clear hst
      clear hr2 hn2 hf2 hb2 hb3 hfl hfz hcl
      go_wp2_with fail
      refine ⟨⟨k + 1, by omega, by go_num, Lib.hid (HST.out _ ((But.refl _ _).setCell (by simp) _) (fun cs hcs => ?_))⟩, by simp [intOf]; omega⟩
      simp only [rowsK, Nat.mul_one, setAll]
      exact heap_set1 hcs
    · obtain rfl : k = 4 := by omega
      have hfd : Fill rowsK [.slice none 0 0] w1 29 l l.length wr := by rw [hlen.out]; exact hfl.out
      obtain ⟨A2, c2, f2, e2, hr2, hn2, hf2, hd2, hb2⟩ := hfd.done (by rw [hlen.out]; unfold maxLen; omega)
      rw [hlen.out] at e2 hr2
      injection e2 with e2; injection e2 with e2 _ e4
      subst e2 e4
      have hz1 := heap_lt HG1.out
      obtain ⟨y0, y1, y2, z0, z1, z2, yz⟩ := three_at6 ((hb2.block _ hz1).trans HG1.out)
      have HX := Lib.hid (pres_stored (code := 0) (p := ⟨l, m⟩) (HB1.out.trans (hb2.mono HB1.out.size)) (Nat.le_refl _) ⟨hr2⟩ hn2 (hf2.mono hz1) hd2)
      clear hr2 hn2 hf2 hd2 hb2 hfd hz1
      go_wp2_with fail
      exact bodyPost_ret (v := plrv 0 m (.slice (some ⟨w1.heap.size, 0, none⟩) 4 4)) (by simp [results, Try.results25, go_sem, y0, y1, y2]) rfl HX.out
end Go.Proofs.Ytdohgpdkfdbenaa
