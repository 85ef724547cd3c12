/-
  The program's functions of chapter 6, fourth part: rows laid into files.
-/
import Derived.Test.YtldimfmhbdhbnaaGreatImpl6a
import Derived.Test.YtldimfmhbdhbnaaGreatG48
import Derived.Test.YtldimfmhbdhbnaaGreatG12
import Derived.Test.YtldimfmhbdhbnaaGreatG20
import Derived.Test.YtldimfmhbdhbnaaGreatShelf2
import Derived.Test.YtldimfmhbdhbnaaGreatG24
import Derived.Test.YtldimfmhbdhbnaaGreatG28
namespace Go.Proofs.YtldimfmhbdhbnaaGreat
open Go.RowKit

def AskPlacesOf : Prop := ∀ (A : Option Addr) (c : Nat) (rs : List R) (m : Int) (w : World) (fp : List Nat), rs.length ≤ 1048576 → (∀ r ∈ rs, WfR r) → (Lit.int .i64 m).wf = true → Rd w 4 (.slice A rs.length c) (rcs rs) fp →
  Calls Tryz.prog 22 #[.slice A rs.length c, .int .i64 m] w (PResPost w (poC rs m) (poL rs m))

set_option maxRecDepth 100000 in
set_option maxHeartbeats 4000000 in
theorem implPlacesOf_a : AskPlacesOf := by
  intro A c rs m w fp hs hwf _ ha
  have HB0 := Lib.hid (below_new (w := w) (.cells #[.int .i64 0, .slice none 0 0, .int .i64 0] 50))
  have HG0 := Lib.hid (heap_new w (.cells #[.int .i64 0, .slice none 0 0, .int .i64 0] 50) rfl)
  have HA := Lib.hid (ha.alloc (.cells #[.int .i64 0, .slice none 0 0, .int .i64 0] 50)); have HWF := Lib.hid hwf
  clear ha hwf
  by_cases h0 : rowsF rs = 0
  case neg =>
    have hC : poC rs m = rowsF rs := by unfold poC; rw [if_neg h0]
    have hL : poL rs m = ⟨[], 0⟩ := by unfold poL; rw [if_neg (by rw [hC]; exact h0)]
    rw [hC, hL]
    generalize hV : rowsF rs = V at h0 ⊢
    have HV := Lib.hid hV
    have t1 : (V != 0) = true := by simpa using h0
    clear h0 hC hL hV
    go_enter Tryz.func22, Tryz.ntmps22
    go_wp2_with fail
    refine (implRowsFault_a A c rs _ fp hs HWF.out HA.out).mono ?_
    rw [HV.out]
    rintro e w1 ⟨rfl, hb1⟩
    have HB1 := Lib.hid (HB0.out.trans (hb1.mono HB0.out.size))
    obtain ⟨y0, y1, y2, z0, z1, z2, yz⟩ := three_at6 ((hb1.block _ (heap_lt HG0.out)).trans HG0.out)
    clear hb1
    go_wp2_with fail
    refine bodyPost_ret (v := plrv V 0 (.slice none 0 0)) (by simp [results, Tryz.results22, go_sem, y0, y1, y2]) rfl (pres_none ?_)
    exact HB1.out.trans (((((But.refl [w.heap.size] w1).setCell (p := ⟨w.heap.size, 0, none⟩) (by simp) _).setCell (p := ⟨w.heap.size, 1, none⟩) (by simp) _).setCell (p := ⟨w.heap.size, 2, none⟩) (by simp) _).below HB1.out.size (by intro b hb; simp at hb; omega))
  cases h1 : inB m 0 999
  case false =>
    have hC : poC rs m = 3 := by unfold poC; rw [if_pos h0, h1]; rfl
    have hL : poL rs m = ⟨[], 0⟩ := by unfold poL; rw [if_neg (by rw [hC]; decide)]
    rw [hC, hL]
    have H0 := Lib.hid h0; have H1 := Lib.hid h1
    clear h0 hC hL h1
    go_enter Tryz.func22, Tryz.ntmps22
    go_wp2_with fail
    refine (implRowsFault_a A c rs _ fp hs HWF.out HA.out).mono ?_
    rw [H0.out]
    rintro e w1 ⟨rfl, hb1⟩
    have HB1 := Lib.hid (HB0.out.trans (hb1.mono HB0.out.size))
    obtain ⟨y0, y1, y2, z0, z1, z2, yz⟩ := three_at6 ((hb1.block _ (heap_lt HG0.out)).trans HG0.out)
    clear hb1
    go_wp2_with fail
    refine (isMark_b m false H1.out _).mono ?_
    rintro e w' ⟨rfl, hw⟩
    subst hw
    go_wp2_with fail
    refine bodyPost_ret (v := plrv 3 0 (.slice none 0 0)) (by simp [results, Tryz.results22, go_sem, y0, y1, y2]) rfl (pres_none ?_)
    exact HB1.out.trans (((((But.refl [w.heap.size] w1).setCell (p := ⟨w.heap.size, 0, none⟩) (by simp) _).setCell (p := ⟨w.heap.size, 1, none⟩) (by simp) _).setCell (p := ⟨w.heap.size, 2, none⟩) (by simp) _).below HB1.out.size (by intro b hb; simp at hb; omega))
  have hC : poC rs m = 0 := by unfold poC; rw [if_pos h0, h1]; rfl
  have hL : poL rs m = ⟨filesOf rs, m⟩ := by unfold poL; rw [if_pos hC]
  rw [hC, hL]
  obtain ⟨hfit, h12⟩ := rowsF_fits h0
  have eg : ∀ args w, (callFunc 60 args).run Tryz.prog w = .ok (.enter 60 args) w := enters_of Tryz.func60 (by kernel_rfl) rfl
  have hmk : ∀ W : World, (Instr.makeSlice 30 (.int .i64 4) (.int .i64 4)).run Tryz.prog W = .ok (.slice (some ⟨W.heap.size, 0, none⟩) 4 4) (W.alloc (.cells (madeCells #[.slice none 0 0] 4) 24)) := fun W => makeRowSS 4 (by omega) W
  have H0 := Lib.hid h0; have H1 := Lib.hid h1; have HFIT := Lib.hid hfit; have EG := Lib.hid eg
  have hget : Hid (∀ k (h : k < (filesOf rs).length), (filesOf rs)[k] = rs.filter (solidAt k)) := filesOf_get rs
  have hlen : Hid ((filesOf rs).length = 4) := filesOf_len rs
  generalize filesOf rs = l at *
  clear h0 hC hL h1 hfit eg
  go_enter Tryz.func22, Tryz.ntmps22
  go_wp2_with fail
  refine (implRowsFault_a A c rs _ fp hs HWF.out HA.out).mono ?_
  rw [H0.out]
  rintro e w1 ⟨rfl, hb1⟩
  have HB1 := Lib.hid (HB0.out.trans (hb1.mono HB0.out.size))
  have HG1 := Lib.hid ((hb1.block _ (heap_lt HG0.out)).trans HG0.out)
  have HA1 := Lib.hid (HA.out.below' hb1)
  clear hb1
  go_wp2_with fail
  refine (isMark_b m true H1.out _).mono ?_
  rintro e w' ⟨rfl, hw⟩
  subst hw
  go_wp2_with fail
  clear hmk
  go_loopw [22] (fun i wr => ∃ k : Nat, k ≤ 4 ∧ i = .int .i64 k ∧ Hid (Fill rowsK [.slice none 0 0] w1 24 l k wr)) (fun i _ => 4 - (intOf i).toNat)
  case atStart => exact ⟨0, Nat.zero_le _, rfl, Lib.hid (Fill.zero (kd := rowsK) (l := l) (by rw [hlen.out]; exact madeNils 4))⟩
  case round =>
    obtain ⟨k, hk, rfl, hfl⟩ := hrel
    by_cases hlt : k < 4
    · have hkl : k < l.length := by rw [hlen.out]; exact hlt
      have hB := hfl.out.below
      have HHB := Lib.hid (below_new (w := wr) (.cells #[.int .i64 (k : Int)] 89))
      have HAK := Lib.hid ((HA1.out.below' hB).alloc (.cells #[.int .i64 (k : Int)] 89))
      have HPM : Hid (PredMth 60 #[.agg #[.int .i64 (k : Int)]] (solidAt k) (wr.alloc (.cells #[.int .i64 (k : Int)] 89))) := fun W x _ _ => fits_c (k : Int) x W
      have hge := hget.out k hkl
      have HGE := Lib.hid hge
      clear hB hge
      go_wp2_with fail
      refine (keepM_c 60 #[.agg #[.int .i64 (k : Int)]] (solidAt k) EG.out A c rs _ fp (by omega) HFIT.out HPM.out HAK.out).mono ?_
      rw [← HGE.out]
      rintro e w2 ⟨v2, f2, rfl, hr2, hn2, hf2, hb2, _⟩
      obtain ⟨A2, c2, rfl⟩ := hr2.rows_form
      have hb3 : Below wr.heap.size wr w2 := HHB.out.trans (hb2.mono HHB.out.size)
      obtain ⟨hz1, hfz, hcl⟩ := hfl.out.cells (by rfl) hkl hb3
      have c0 := hcl 0 _ rfl
      simp only [rowsK, Nat.mul_one, Nat.add_zero] at c0
      have f0 := hfz k
      have hst : ∀ w3, But [w1.heap.size] w2 w3 → (∀ cs, w2.heap[w1.heap.size]? = some (.cells cs 24 (0, 0)) → w3.heap[w1.heap.size]? = some (.cells (setAll cs (k * rowsK.K) [.slice A2 l[k].length c2]) 24 (0, 0))) → Fill rowsK [.slice none 0 0] w1 24 l (k + 1) w3 :=
        fun w3 hbut hset => hfl.out.step rfl hkl hb3 ⟨_, rfl, hr2⟩ hn2 (hf2.mono HHB.out.size) hr2.nodup hbut hset
      have HST := Lib.hid hst; clear hst
      clear hr2 hn2 hf2 hb2 hb3 hfl hfz hcl
      go_wp2_with fail
      refine ⟨⟨k + 1, by omega, by go_num, Lib.hid (HST.out _ ((But.refl _ _).setCell (by simp) _) (fun cs hcs => ?_))⟩, by simp [intOf]; omega⟩
      simp only [rowsK, Nat.mul_one, setAll]
      exact heap_set1 hcs
    · obtain rfl : k = 4 := by omega
      have hfd : Fill rowsK [.slice none 0 0] w1 24 l l.length wr := by rw [hlen.out]; exact hfl.out
      obtain ⟨A2, c2, f2, e2, hr2, hn2, hf2, hd2, hb2⟩ := hfd.done (by rw [hlen.out]; unfold maxLen; omega)
      rw [hlen.out] at e2 hr2
      injection e2 with e2; injection e2 with e2 _ e4
      subst e2 e4
      have hz1 := heap_lt HG1.out
      obtain ⟨y0, y1, y2, z0, z1, z2, yz⟩ := three_at6 ((hb2.block _ hz1).trans HG1.out)
      have HX := Lib.hid (pres_stored (code := 0) (p := ⟨l, m⟩) (HB1.out.trans (hb2.mono HB1.out.size)) (Nat.le_refl _) ⟨hr2⟩ hn2 (hf2.mono hz1) hd2)
      clear hr2 hn2 hf2 hd2 hb2 hfd hz1
      go_wp2_with fail
      exact bodyPost_ret (v := plrv 0 m (.slice (some ⟨w1.heap.size, 0, none⟩) 4 4)) (by simp [results, Tryz.results22, go_sem, y0, y1, y2]) rfl HX.out
end Go.Proofs.YtldimfmhbdhbnaaGreat

/-
  Growing nothing, and what joining lists of rows answers.
-/
namespace Go.Proofs.YtldimfmhbdhbnaaGreat
open Go.RowKit

theorem zero_cells (n : Nat) : (Builtin.zeroCells (rv (0, 0, 0, 0)).cells n).size = n * 4 := by
  simp [Builtin.zeroCells, Value.cells]
/-- What growing nothing answers. -/
def GrowPost (w : World) (e : Ending) (w' : World) : Prop := ∃ v, e = .returned v ∧ w'.ownsRow w.heap.size 40 4 v 0 [] ∧ Below w.heap.size w w'
theorem grow_c (n : Nat) (hn : n ≤ 1000) (w : World) :
    Calls Tryz.prog 106 #[.slice none 0 0, .int .i64 n] w (GrowPost w) := by
  obtain ⟨i0, hi, hz, hsz, hby⟩ := infoRow
  rcases Nat.eq_zero_or_pos n with h0 | h0
  · subst h0
    exact (Any8.slices_Grow_room Tryz.growRow none 0 0 0 w (by omega) (by omega) (by omega) (by omega)).mono fun e w' ⟨he, hw⟩ => ⟨_, he, by rw [hw]; exact World.ownsRow_nil _ _ _ _, by rw [hw]; exact Below.refl _ _⟩
  · refine (Any8.slices_Grow_grow Tryz.growRow i0 (rv (0, 0, 0, 0)) hi hz (by omega) none 0 0 n [] w (by omega) (by omega) (by rw [hby]; omega) (by omega) (by simp) (fun _ => rfl) (fun a h => by cases h)).mono ?_
    rintro e w' ⟨he, hw⟩
    have hge := grownCap_ge w (0 + n) 0 40
    have hle := grownCap_le_maxLen w (0 + n) 0 40 (by unfold maxLen; omega)
    refine ⟨_, he, ?_, ?_⟩
    · rw [hw]
      exact World.ownsRow_made w.drew _ _ (Nat.le_refl _) hle (by rw [Array.size_append, Array.size_append, zero_cells, zero_cells]; change 0 + _ + _ = grownCap w (0 + n) 0 40 * 4; change 0 + (0 + n - 0) * 4 + (grownCap w (0 + n) 0 40 - (0 + n)) * 4 = _; omega)
    · rw [hw]
      exact (Below.refl w.heap.size w).drew.alloc (Nat.le_refl _) _

/-- What joining two lists of rows answers. -/
def ConcatPost (w : World) (L : List R) (e : Ending) (w' : World) : Prop := ∃ v, e = .returned v ∧ w'.ownsRow w.heap.size 40 4 v L.length (rcs L) ∧ Below w.heap.size w w'
end Go.Proofs.YtldimfmhbdhbnaaGreat

/-
  The program's functions of chapter 6, second part: all rows, in order.
-/
namespace Go.Proofs.YtldimfmhbdhbnaaGreat
open Go.RowKit

set_option maxRecDepth 100000 in
set_option maxHeartbeats 4000000 in
theorem concatAll_c (A : Option Addr) (c : Nat) (l : List (List R)) (w : World) (fp : List Nat) (hs : fsz l ≤ 1000) (ha : RdF w (.slice A l.length c) l fp) :
    Calls Tryz.prog 78 #[.slice A l.length c] w (ConcatPost w l.flatten) := by
  have hmax := ha.len_le.2
  have hT : Hid (∀ k (h : k < l.length), totS (l.take k) + l[k].length ≤ 1000) := fun k h => by
    have := totS_take l k h; have := totS_le l (k + 1); unfold fsz at hs; omega
  have hT0 : totS l ≤ 1000 := by unfold fsz at hs; omega
  have HA := Lib.hid ha
  clear ha hs
  obtain ⟨i0, hi, hz, hsz, hby⟩ := infoRow
  go_enter Tryz.func78, Tryz.ntmps78
  go_wp2
  go_loop [3, 11] (fun s i => ∃ k n : Nat, k ≤ l.length ∧ i = .int .i64 k ∧ s = .int .i64 (n : Nat) ∧ Hid (n = totS (l.take k)) ∧ n ≤ 1000) (fun _ i => l.length - (intOf i).toNat)
  case atStart => exact ⟨0, 0, Nat.zero_le _, rfl, rfl, Lib.hid rfl, by omega⟩
  case round =>
    obtain ⟨k, n, hk, rfl, rfl, hn, hn1⟩ := hrel
    by_cases hlt : k < l.length
    · obtain ⟨b, off, B, d, f, rfl, _, hbl, hc, hr, _⟩ := rowsAt HA.out hlt
      have hkt := hT.out k hlt
      have ht := totS_take l k hlt
      rw [← hn.out] at hkt ht
      have HT := Lib.hid ht
      clear hr ht
      generalize l[k].length = m at *
      have t1 : ¬ ((n : Int) + (m : Int) < 0) := by omega
      go_wp2
      exact ⟨⟨k + 1, n + m, by omega, by go_num, by go_num, Lib.hid HT.out.symm, by omega⟩, by simp [intOf]; omega⟩
    · obtain rfl : k = l.length := by omega
      have hgr := grow_c n hn1 w
      have HGR := Lib.hid hgr; clear hgr
      go_wp2_with fail
      refine HGR.out.mono ?_
      rintro e w1 ⟨v, rfl, hown, hb1⟩
      have HO : Hid (w1.ownsRow w.heap.size 40 4 v (totS (l.take 0)) (rcs (l.take 0).flatten)) := hown
      have HB := Lib.hid hb1
      clear hown hb1
      go_wp2_with fail
      go_loopw [6, 27] (fun v i wr => ∃ k : Nat, k ≤ l.length ∧ i = .int .i64 k ∧ Hid (wr.ownsRow w.heap.size 40 4 v (totS (l.take k)) (rcs (l.take k).flatten)) ∧ Hid (Below w.heap.size w wr)) (fun _ i _ => l.length - (intOf i).toNat)
      case atStart => exact ⟨0, Nat.zero_le _, rfl, HO, HB⟩
      case round =>
        clear HO HB
        obtain ⟨k, hk, rfl, HOW, HB⟩ := hrel
        by_cases hlt : k < l.length
        · obtain ⟨b, off, B, d, f, rfl, _, hbl, hc, hr, _⟩ := rowsAt (HA.out.below' HB.out) hlt
          have hkt := hT.out k hlt
          have ht := totS_take l k hlt
          have hf := flat_take l k hlt
          have HT := Lib.hid ht; have HF := Lib.hid hf; have HR := Lib.hid hr
          have hsize := HB.out.size
          have HRW : Hid (∀ j, u6.ownBlock = some j → w.heap.size ≤ j) := fun j hj => own_base' HOW.out hj
          clear ht hf hr
          generalize totS (l.take k) = n at *
          generalize l[k] = rs at *
          go_wp2_with (at_builtin; refine wpList_append_rd rfl _ _ 24 rfl w.heap.size 40 i0 (rv (0, 0, 0, 0)) 4 32 Tryz.underlying24 hi hz hsz hby rfl (by decide) _ n _ rfl HOW.out B rs.length d (rcs rs) f rfl HR.out (rcs_one rs) ?d1 ?d2 ?d3 ?_)
          case d1 => unfold maxLen; omega
          case d2 => omega
          case d3 => exact hsize
          intro v2 w2 hown2 hgrow2
          have hb2 : Below w.heap.size w w2 := HB.out.grown hgrow2 HB.out.size HRW.out
          rw [← rcs_append, ← HF.out, ← HT.out] at hown2
          have HO2 := Lib.hid hown2; have HB2 := Lib.hid hb2
          clear hown2 hb2 hgrow2
          go_wp2_with fail
          exact ⟨⟨k + 1, by omega, by go_num, HO2, HB2⟩, by simp [intOf]; omega⟩
        · obtain rfl : k = l.length := by omega
          have hown := HOW.out
          rw [List.take_length, ← flat_tot] at hown
          have HX := Lib.hid hown
          clear hown
          go_wp2
          go_ret
          exact ⟨_, rfl, HX.out, HB.out⟩

def AskRowsIn : Prop := ∀ (p : Pl) (vf : Value) (w : World) (fp : List Nat), plsz p ≤ 1048576 → (Lit.int .i64 p.mark).wf = true → WfF p.fs → PlAt w p vf fp →
  Calls Tryz.prog 38 #[plv p.mark vf] w (RResPost w (riC p) (riL p))

/-- The blocks of a call: the argument's box, the answer's. -/
theorem two_new (w : World) (a b : Obj) : Below w.heap.size w ((w.alloc a).alloc b) ∧ ((w.alloc a).alloc b).heap[w.heap.size]? = some a ∧ ((w.alloc a).alloc b).heap[w.heap.size + 1]? = some b :=
  ⟨below_more (below_new _) _, heap_old (heap_new w a rfl), heap_new _ b (by simp)⟩

set_option maxRecDepth 100000 in
set_option maxHeartbeats 2000000 in
theorem implRowsIn_a : AskRowsIn := by
  intro p vf w fp hs _ hwf h
  obtain ⟨A, c, rfl⟩ := h.form
  obtain ⟨tb, t1, t2⟩ := two_new w (.cells #[.slice A p.fs.length c, .int .i64 p.mark] 32) (.cells #[.int .i64 0, .slice none 0 0] 56)
  have HF := Lib.hid (h.f.below' tb)
  have HB0 := Lib.hid tb; have HT1 := Lib.hid t1; have HT2 := Lib.hid t2; have HWF := Lib.hid hwf
  clear h tb t1 t2 hwf
  by_cases h0 : placesF p = 0
  · have hL : riL p = p.fs.flatten := by unfold riL; rw [if_pos h0]
    have hC : riC p = 0 := h0
    obtain ⟨hl4, _, _, _, htot⟩ := placesF_zero h0
    have hsz2 : fsz p.fs ≤ 1000 := by unfold fsz; omega
    have hpf : placesF ⟨p.fs, p.mark⟩ = 0 := h0
    rw [hC, hL]
    generalize hFL : p.fs.flatten = L
    have HFL := Lib.hid hFL; have HS2 := Lib.hid hsz2; have HPF := Lib.hid hpf
    clear h0 hC hL hl4 htot hsz2 hFL hpf
    obtain ⟨c0, c1, _, _, cz⟩ := two_at HT1.out
    go_enter Tryz.func38, Tryz.ntmps38
    go_wp2_with fail
    refine (implPlacesFault_c p.mark A c p.fs _ fp hs HWF.out HF.out).mono ?_
    rw [HPF.out]
    rintro e w1 ⟨rfl, hb1⟩
    have HG1 := Lib.hid ((hb1.block _ (heap_lt HT1.out)).trans HT1.out)
    have HG2 := Lib.hid ((hb1.block _ (heap_lt HT2.out)).trans HT2.out)
    have HF1 := Lib.hid (HF.out.below' hb1)
    have HB1 := Lib.hid (HB0.out.trans (hb1.mono HB0.out.size))
    clear hb1 c0 c1 cz
    obtain ⟨c0, c1, _, _, cz⟩ := two_at HG1.out
    go_wp2_with fail
    refine (concatAll_c A c p.fs _ fp HS2.out HF1.out).mono ?_
    rintro e w2 ⟨v, rfl, hown, hb2⟩
    rw [HFL.out] at hown
    obtain ⟨fv, hrv, hnv, hfv⟩ := Rd.of_own hown
    have hz1 := heap_lt HG2.out
    have hg2 := (hb2.block _ hz1).trans HG2.out
    obtain ⟨y0, y1, z0, z1, z2⟩ := two_at hg2
    obtain ⟨A2, c2, rfl⟩ := hrv.rows_form
    have HX := Lib.hid (rres_stored (code := 0) (HB1.out.trans (hb2.mono HB1.out.size)) (Nat.le_succ _) hrv hnv (hfv.mono hz1))
    clear hrv hnv hfv hb2 hg2 hown
    go_wp2_with fail
    exact bodyPost_ret (v := .agg #[.int .i64 0, .slice A2 L.length c2]) (by simp [results, Tryz.results38, go_sem, y0, y1]) rfl ⟨_, rfl, HX.out.1, HX.out.2⟩
  · have hL : riL p = [] := by unfold riL; rw [if_neg h0]
    have hC : riC p = placesF p := rfl
    have hpf : placesF ⟨p.fs, p.mark⟩ = placesF p := rfl
    rw [hC, hL]
    obtain ⟨V, hV⟩ : ∃ V, V = placesF p := ⟨_, rfl⟩
    have HPF : Hid (placesF ⟨p.fs, p.mark⟩ = V) := hV.symm
    rw [← hV] at h0 ⊢
    have t1 : (V != 0) = true := by simpa using h0
    clear h0 hC hL hpf hV
    obtain ⟨c0, c1, _, _, cz⟩ := two_at HT1.out
    go_enter Tryz.func38, Tryz.ntmps38
    go_wp2_with fail
    refine (implPlacesFault_c p.mark A c p.fs _ fp hs HWF.out HF.out).mono ?_
    rw [HPF.out]
    rintro e w1 ⟨rfl, hb1⟩
    have HB1 := Lib.hid (HB0.out.trans (hb1.mono HB0.out.size))
    obtain ⟨y0, y1, z0, z1, z2⟩ := two_at ((hb1.block _ (heap_lt HT2.out)).trans HT2.out)
    clear hb1 c0 c1 cz
    go_wp2_with fail
    exact bodyPost_ret (v := .agg #[.int .i64 V, .slice none 0 0]) (by simp [results, Tryz.results38, go_sem, y0, y1]) rfl ⟨_, rfl, rres_nil _ _ _, HB1.out.trans ((But.two _ (w.heap.size + 1) 0 1 _ _).below HB1.out.size (by intro b hb; simp at hb; omega))⟩
end Go.Proofs.YtldimfmhbdhbnaaGreat
