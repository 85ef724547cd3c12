/-
  The model's draws of chapter 8.
-/
import Derived.Test.YtldimfmhbdhbnaaGreatG32
import Derived.Test.YtldimfmhbdhbnaaGreatG33
import Derived.Test.YtldimfmhbdhbnaaGreatG41
import Derived.Test.YtldimfmhbdhbnaaGreatG28
import Derived.Test.YtldimfmhbdhbnaaGreatG39
import Derived.Test.YtldimfmhbdhbnaaGreatG24
namespace Go.Proofs.YtldimfmhbdhbnaaGreat
open Go.RowKit

set_option maxRecDepth 100000 in
set_option maxHeartbeats 2000000 in
theorem drawRangeDigest_c (A : Option Addr) (c : Nat) (zs : List Int) (w : World) (fp : List Nat) (ha : Rd w 1 (.slice A zs.length c) (cellsOf .u8 zs) fp) (hby : Byt zs) (hb : zs.length ≤ 1048576) :
    Calls Tryz.prog 5 #[.slice A zs.length c] w (RowsIntsPost w) := by
  go_enter Tryz.func5, Tryz.ntmps5
  go_wp2_with fail
  refine (drawCutRows_c A c zs w fp ha hby hb).mono ?_
  rintro e w1 ⟨v, fv, rs, l, s, rfl, hr, h⟩
  obtain ⟨Ar, cr, rfl⟩ := hr.rows_form
  have H := Lib.hid h; have HR := Lib.hid hr
  clear h ha hr
  go_wp2_with fail
  refine bodyPost_ret (v := .tuple #[.slice Ar rs.length cr, .int .i64 l, .int .i64 s]) (by simp [results, Tryz.results5, go_sem]) rfl ?_
  exact ⟨_, fv, rs, l, s, rfl, HR.out, H.out⟩
/-- A row was drawn. -/
def RowPost (w : World) (e : Ending) (w' : World) : Prop := ∃ r, e = .returned (rv r) ∧ Mild r ∧ Below w.heap.size w w'
set_option maxRecDepth 100000 in
set_option maxHeartbeats 2000000 in
theorem drawRowSum_c (A : Option Addr) (c : Nat) (zs : List Int) (w : World) (fp : List Nat) (ha : Rd w 1 (.slice A zs.length c) (cellsOf .u8 zs) fp) (hby : Byt zs) (hb : zs.length ≤ 1048576) :
    Calls Tryz.prog 10 #[.slice A zs.length c] w (RowPost w) := by
  have ha0 := ha.alloc (.cells #[.int .i64 0, .int .i64 0, .int .i64 0, .int .i64 0] 40)
  have GB0 := Lib.hid (heap_new w (.cells #[.int .i64 0, .int .i64 0, .int .i64 0, .int .i64 0] 40) rfl)
  have hz0 : w.heap.size + 1 = (w.alloc (.cells #[.int .i64 0, .int .i64 0, .int .i64 0, .int .i64 0] 40)).heap.size := by simp
  have hB0 : Below w.heap.size w (w.alloc (.cells #[.int .i64 0, .int .i64 0, .int .i64 0, .int .i64 0] 40)) := below_new _
  go_enter Tryz.func10, Tryz.ntmps10
  go_wp2_with fail
  generalize w.alloc (.cells #[.int .i64 0, .int .i64 0, .int .i64 0, .int .i64 0] 40) = w0 at *
  refine (l1Source_c A c zs w0 fp ha0 hby hb).mono ?_
  rintro e w1 ⟨rfl, hs1, hb1, hz1⟩
  have hl1 : w.heap.size ≤ w1.heap.size := by omega
  have GB1 := Lib.hid ((hb1.block _ (heap_lt GB0.out)).trans GB0.out)
  have HB1 := Lib.hid (hB0.trans (hb1.mono (by omega)))
  clear ha ha0 GB0 hB0 hb1
  go_wp2_with fail
  refine (l2BentRow_c w1 w0.heap.size zs 0 hs1 (by omega)).mono ?_
  rintro e w3 ⟨r, d4, rfl, hmr, hd4, hd3⟩
  have hg := hd3.but.heap GB1.out (by simp; omega)
  have HMR := Lib.hid hmr
  have HB3 := Lib.hid (HB1.out.trans (hd3.but.below hl1 (by intro b hm; simp at hm; omega)))
  obtain ⟨c0, c1, c2, c3, f0, f1, f2, f3, hzz⟩ := four_at hg
  clear hd3 hmr hg hs1
  go_wp2_with fail
  refine bodyPost_ret (v := rv r) (by simp [results, Tryz.results10, go_sem, c0, c1, c2, c3]) rfl ?_
  exact ⟨r, rfl, HMR.out, below_set (below_set (below_set (below_set HB3.out _ _) _ _) _ _) _ _⟩
set_option maxRecDepth 100000 in
set_option maxHeartbeats 2000000 in
theorem drawAddDigest_c (A : Option Addr) (c : Nat) (zs : List Int) (w : World) (fp : List Nat) (ha : Rd w 1 (.slice A zs.length c) (cellsOf .u8 zs) fp) (hby : Byt zs) (hb : zs.length ≤ 1048576) :
    Calls Tryz.prog 11 #[.slice A zs.length c] w fun e w' => ∃ l s, e = .returned (.tuple #[.int .i64 l, .int .i64 s]) ∧ (-1 ≤ l ∧ l ≤ 65521) ∧ (-1 ≤ s ∧ s ≤ 65521) ∧ Below w.heap.size w w' := by
  go_enter Tryz.func11, Tryz.ntmps11
  go_wp2_with fail
  refine (l1Source_c A c zs w fp ha hby hb).mono ?_
  rintro e w1 ⟨rfl, hs1, hb1, hz1⟩
  have hl1 : w.heap.size < w1.heap.size := by omega
  have HB1 := Lib.hid hb1
  clear ha hb1 hz1
  go_wp2_with fail
  refine (pick_6 w1 w.heap.size zs 0 w1.heap.size [0, 5, 65520, 65521] hs1 rfl (by omega) (by simp) (by simp)).mono ?_
  rintro e w2 ⟨l, rfl, hq, hd2⟩
  have hq1 : -1 ≤ l ∧ l ≤ 65521 := by simp at hq; omega
  have HD := Lib.hid hd2
  clear hq hd2 hs1
  go_wp2_with fail
  refine (pick_6 w2 w.heap.size zs (0 + 1) w2.heap.size [0, 1, 65520, -1] HD.out.src rfl (by omega) (by simp) (by simp)).mono ?_
  rintro e w3 ⟨s, rfl, hq, hd3⟩
  have hq2 : -1 ≤ s ∧ s ≤ 65521 := by simp at hq; omega
  have HX := Lib.hid (Drawn.fresh2 HB1.out (HD.out.trans hd3) (by omega))
  clear hq hd3 HD
  go_wp2_with fail
  refine bodyPost_ret (v := .tuple #[.int .i64 l, .int .i64 s]) (by simp [results, Tryz.results11, go_sem]) rfl ?_
  exact ⟨l, s, rfl, hq1, hq2, HX.out⟩
/-- Places and parts were drawn. -/
def PlPtsPost (w : World) (e : Ending) (w' : World) : Prop :=
  ∃ (p : Pl) (vf : Value) (fp : List Nat) (l : List Pt) (A : Option Addr) (c : Nat) (fl : List Nat), e = .returned (.tuple #[plv p.mark vf, .slice A l.length c]) ∧ PlAt w' p vf fp ∧ (∀ l ∈ p.fs, ∀ r ∈ l, Mild r) ∧ (-20000 ≤ p.mark ∧ p.mark ≤ 20000) ∧ plsz p ≤ 1000 ∧ RdP w' (.slice A l.length c) l fl ∧ MildT l ∧ psz l ≤ 1000 ∧ Below w.heap.size w w'

set_option maxRecDepth 100000 in
set_option maxHeartbeats 4000000 in
theorem drawSameDigest_c (A : Option Addr) (c : Nat) (zs : List Int) (w : World) (fp : List Nat) (ha : Rd w 1 (.slice A zs.length c) (cellsOf .u8 zs) fp) (hby : Byt zs) (hb : zs.length ≤ 1048576) :
    Calls Tryz.prog 7 #[.slice A zs.length c] w (PlPtsPost w) := by
  have ha0 := ha.alloc (.cells #[.slice none 0 0, .int .i64 0] 32)
  have GB0 := Lib.hid (heap_new w (.cells #[.slice none 0 0, .int .i64 0] 32) rfl)
  have hz0 : w.heap.size + 1 = (w.alloc (.cells #[.slice none 0 0, .int .i64 0] 32)).heap.size := by simp
  have hB0 : Below w.heap.size w (w.alloc (.cells #[.slice none 0 0, .int .i64 0] 32)) := below_new _
  go_enter Tryz.func7, Tryz.ntmps7
  go_wp2_with fail
  generalize w.alloc (.cells #[.slice none 0 0, .int .i64 0] 32) = w0 at *
  refine (l1Source_c A c zs w0 fp ha0 hby hb).mono ?_
  rintro e w1 ⟨rfl, hs1, hb1, hz1⟩
  have hl1 : w.heap.size ≤ w1.heap.size := by omega
  have GB1 := Lib.hid ((hb1.block _ (heap_lt GB0.out)).trans GB0.out)
  have HB1 := Lib.hid (hB0.trans (hb1.mono (by omega)))
  clear ha ha0 GB0 hB0 hb1
  go_wp2_with fail
  refine (l6Bent_c _ w0.heap.size zs 0 hs1 (by omega)).mono ?_
  rintro e w2 ⟨p, vf, fq, d, rfl, hp, hn, hf, hnd, hm, hmk, hsz, hd, hdr⟩
  obtain ⟨Av, cv, rfl⟩ := hp.form
  have hls := hs1.lt
  have hsz2 := hdr.but.size
  have hap : ∀ b ∈ fq, b ∉ [w0.heap.size] := fun b hb hm => by have := hf b hb; simp at hm; omega
  have PB2 := Lib.hid (heap_new w2 (.cells #[.slice Av p.fs.length cv, .int .i64 p.mark] 32) rfl)
  have HP := Lib.hid (hp.alloc (.cells #[.slice Av p.fs.length cv, .int .i64 p.mark] 32))
  have HF := Lib.hid (hf.mono (show w.heap.size + 1 ≤ w1.heap.size by omega)); have HM := Lib.hid hm; have HD := Lib.hid (hdr.alloc (.cells #[.slice Av p.fs.length cv, .int .i64 p.mark] 32)); have HAP := Lib.hid hap
  have GB2 := Lib.hid (heap_old (o' := .cells #[.slice Av p.fs.length cv, .int .i64 p.mark] 32) (hdr.but.heap GB1.out (by simp; omega)))
  clear hp hn hf hnd hm hdr hap GB1 hs1
  go_wp2_with fail
  generalize w2.alloc (.cells #[.slice Av p.fs.length cv, .int .i64 p.mark] 32) = W2 at *
  have hgp : w0.heap.size < w2.heap.size := by omega
  generalize w2.heap.size = gp at *
  refine (l7Bent_c W2 w0.heap.size zs (0 + d) HD.out.src (by omega)).mono ?_
  rintro e w3 ⟨l, Al, cl, fl, d3, rfl, hl, hnl, hfl, hndl, hml, hszl, hd3, hdr3⟩
  have hsz3 := hdr3.but.size
  have hapl : ∀ b ∈ fl, b ∉ [w0.heap.size] := fun b hb hm => by have := hfl b hb; have := HD.out.src.lt; simp at hm; omega
  have PB3 := Lib.hid (hdr3.but.heap PB2.out (by simp; omega))
  have HP3 := Lib.hid (HP.out.but hdr3.but HAP.out)
  have HD3 := Lib.hid (HD.out.trans hdr3)
  have GB3 := Lib.hid (hdr3.but.heap GB2.out (by simp; omega))
  have HL3 := Lib.hid hl; have HML := Lib.hid hml; have HAPL := Lib.hid hapl
  have hfl3 : From (w.heap.size + 1) fl := hfl.mono (by have := HD.out.src.lt; omega)
  have HFL := Lib.hid hfl3
  clear hl hnl hfl hndl hml hdr3 hapl HP HD GB2 PB2 hfl3
  have hfsz : fsz p.fs ≤ 4194304 := by have : fsz p.fs = plsz p := rfl; omega
  have hcall := l6Fault_c gp p.mark Av cv p.fs w3 fq hfsz ⟨(two_at PB3.out).1, (two_at PB3.out).2.1, heap_lt PB3.out⟩ HP3.out.f
  rw [show placesF ⟨p.fs, p.mark⟩ = placesF p from rfl] at hcall
  have HCL := Lib.hid hcall
  clear hcall
  have hfin : ∀ (w5 : World) (L : List Pt) (AL : Option Addr) (cL : Nat) (fL : List Nat), Below w.heap.size w w5 → w5.heap[w.heap.size]? = some (.cells #[.slice none 0 0, .int .i64 0] 32 (0, 0)) → PlAt w5 p (.slice Av p.fs.length cv) fq → RdP w5 (.slice AL L.length cL) L fL → From (w.heap.size + 1) fL → MildT L → psz L ≤ 1000 →
      PlPtsPost w (.returned (.tuple #[plv p.mark (.slice Av p.fs.length cv), .slice AL L.length cL])) ((w5.setCell ⟨w.heap.size, 0, none⟩ (.slice Av p.fs.length cv)).setCell ⟨w.heap.size, 1, none⟩ (.int .i64 p.mark)) := by
    intro w5 L AL cL fL hb5 hg5 hp5 hl5 hf5 hm5 hs5
    have hbut := But.two w5 w.heap.size 0 1 (.slice Av p.fs.length cv) (.int .i64 p.mark)
    have a1 : ∀ x ∈ fq, x ∉ [w.heap.size] := fun x hx he => by have := HF.out x hx; simp at he; omega
    have a2 : ∀ x ∈ fL, x ∉ [w.heap.size] := fun x hx he => by have := hf5 x hx; simp at he; omega
    exact ⟨p, _, fq, L, _, _, fL, rfl, hp5.but hbut a1, HM.out, hmk, hsz, hl5.but hbut a2, hm5, hs5, hb5.trans (hbut.below hb5.size (fun x hx => by simp at hx; omega))⟩
  have HFIN := Lib.hid hfin
  have HB3 := Lib.hid (HB1.out.trans (HD3.out.but.below hl1 (by intro b hm; simp at hm; omega)))
  clear hfin hz1 hsz2 hsz3 hls hl1
  by_cases h0 : placesF p = 0
  case neg =>
    obtain ⟨F, hF⟩ : ∃ F, placesF p = F := ⟨_, rfl⟩
    rw [hF] at h0
    have HFF := Lib.hid hF
    have t1 : (F == 0) = false := by simpa using h0
    clear h0 hF
    go_wp2_with fail
    refine HCL.out.mono ?_
    rw [HFF.out]
    rintro e w4 ⟨rfl, hq⟩
    have hb4 := hq.below
    have HB4 := Lib.hid (HB3.out.trans (hb4.mono HB3.out.size))
    have GB4 := Lib.hid ((hb4.block _ (heap_lt GB3.out)).trans GB3.out)
    have PB4 := Lib.hid ((hb4.block _ (heap_lt PB3.out)).trans PB3.out)
    have HP4 := Lib.hid (HP3.out.below' hb4); have HL4 := Lib.hid (HL3.out.below' hb4)
    clear hq hb4
    obtain ⟨x0, x1, _, _, hzx⟩ := two_at PB4.out
    obtain ⟨y0, y1, z0, z1, hzz⟩ := two_at GB4.out
    go_wp2_with fail
    refine bodyPost_ret (v := .tuple #[plv p.mark (.slice Av p.fs.length cv), .slice Al l.length cl]) (by simp [results, Tryz.results7, go_sem, y0, y1]) rfl ?_
    exact HFIN.out w4 l Al cl fl HB4.out GB4.out HP4.out HL4.out HFL.out HML.out hszl
  have HFF := Lib.hid h0
  obtain ⟨hl4, _, _, _, htot⟩ := placesF_zero h0
  have hrows := fun x hx => (flat_rows h0 x hx).1
  have hLf : Fits p.fs.flatten := fun j hj => fit_of_rowF (hrows _ (List.getElem_mem hj))
  have hL12 : p.fs.flatten.length ≤ 12 := by rw [flat_tot]; exact htot
  have hLm : ∀ x ∈ p.fs.flatten, Mild x := fun x hx => by
    obtain ⟨f, hf, hx⟩ := List.mem_flatten.1 hx
    exact HM.out f hf x hx
  have hfs2 : fsz p.fs ≤ 1000000 := by unfold fsz; omega
  have HLF := Lib.hid hLf; have HLM := Lib.hid hLm; have HS2 := Lib.hid hfs2
  generalize hFL : p.fs.flatten = L at *
  have HFLE := Lib.hid hFL
  clear h0 hrows hLf hLm hfs2 hFL hl4 htot
  go_wp2_with fail
  refine HCL.out.mono ?_
  rw [HFF.out]
  rintro e w4 ⟨rfl, hq⟩
  have hb4 := hq.below
  have HB4 := Lib.hid (HB3.out.trans (hb4.mono HB3.out.size))
  have GB4 := Lib.hid ((hb4.block _ (heap_lt GB3.out)).trans GB3.out)
  have PB4 := Lib.hid ((hb4.block _ (heap_lt PB3.out)).trans PB3.out)
  have HP4 := Lib.hid (HP3.out.below' hb4); have HL4 := Lib.hid (HL3.out.below' hb4)
  have HD4 := Lib.hid (HD3.out.below hb4)
  clear hq hb4 HCL
  go_wp2_with fail
  refine (l1Chance_c w4 w0.heap.size zs _ 2 HD4.out.src (by omega) (by omega) (by omega)).mono ?_
  rintro e w5 ⟨bb, rfl, hd5, _⟩
  have hsw := HD4.out.src.lt
  have HP5 := Lib.hid (HP4.out.but hd5.but HAP.out); have HL5 := Lib.hid (HL4.out.but hd5.but HAPL.out)
  have GB5 := Lib.hid (hd5.but.heap GB4.out (by simp; omega)); have PB5 := Lib.hid (hd5.but.heap PB4.out (by simp; omega))
  have HB5 := Lib.hid (HB4.out.trans (hd5.but.below HB4.out.size (by intro b hm; simp at hm; omega)))
  clear hd5 HP4 HL4 GB4 PB4 HD4
  cases bb
  · obtain ⟨x0, x1, _, _, hzx⟩ := two_at PB5.out
    obtain ⟨y0, y1, z0, z1, hzz⟩ := two_at GB5.out
    go_wp2_with fail
    refine bodyPost_ret (v := .tuple #[plv p.mark (.slice Av p.fs.length cv), .slice Al l.length cl]) (by simp [results, Tryz.results7, go_sem, y0, y1]) rfl ?_
    exact HFIN.out w5 l Al cl fl HB5.out GB5.out HP5.out HL5.out HFL.out HML.out hszl
  · go_wp2_with fail
    refine (l6Rows_c gp p.mark Av cv p.fs w5 fq HS2.out ⟨(two_at PB5.out).1, (two_at PB5.out).2.1, heap_lt PB5.out⟩ HP5.out.f).mono ?_
    rw [HFLE.out]
    rintro e w6 ⟨v6, f6, rfl, hr6, _, _, hb6, _⟩
    obtain ⟨A6, c6, rfl⟩ := hr6.rows_form
    have HB6 := Lib.hid (HB5.out.trans (hb6.mono HB5.out.size))
    have GB6 := Lib.hid ((hb6.block _ (heap_lt GB5.out)).trans GB5.out)
    have PB6 := Lib.hid ((hb6.block _ (heap_lt PB5.out)).trans PB5.out)
    have HP6 := Lib.hid (HP5.out.below' hb6); have HR6 := Lib.hid hr6
    clear hb6 hr6 HP5 GB5 PB5 HL5
    go_wp2_with fail
    refine (l7From_c A6 c6 L 5 w6 f6 hL12 HLF.out HR6.out).mono ?_
    rintro e w7 ⟨A7, c7, f7, rfl, hr7, _, hf7, _, hb7⟩
    have HB7 := Lib.hid (HB6.out.trans (hb7.mono HB6.out.size))
    have GB7 := Lib.hid ((hb7.block _ (heap_lt GB6.out)).trans GB6.out)
    have PB7 := Lib.hid ((hb7.block _ (heap_lt PB6.out)).trans PB6.out)
    have HP7 := Lib.hid (HP6.out.below' hb7); have HR7 := Lib.hid hr7
    have HF7 := Lib.hid (hf7.mono (show w.heap.size + 1 ≤ w6.heap.size by have := heap_lt GB6.out; omega))
    have hmp : MildT (partsOf L 5) := fun q hq => by
      obtain ⟨i, hi, rfl⟩ := List.getElem_of_mem hq
      rw [partsOf_get]
      exact ⟨by simp only; omega, fun r hr => HLM.out r (List.mem_filter.1 hr).1⟩
    have hps : psz (partsOf L 5) ≤ 1000 := by
      unfold psz
      have h1 := parts_tot L 5
      have h2 : (solidL L).length ≤ L.length := List.length_filter_le _ _
      rw [partsOf_len, h1]; omega
    have HMP := Lib.hid hmp
    clear hb7 hr7 hf7 hmp HP6 GB6 PB6
    obtain ⟨x0, x1, _, _, hzx⟩ := two_at PB7.out
    obtain ⟨y0, y1, z0, z1, hzz⟩ := two_at GB7.out
    generalize partsOf L 5 = PL at *
    go_wp2_with fail
    refine bodyPost_ret (v := .tuple #[plv p.mark (.slice Av p.fs.length cv), .slice A7 PL.length c7]) (by simp [results, Tryz.results7, go_sem, y0, y1]) rfl ?_
    exact HFIN.out w7 PL A7 c7 f7 HB7.out GB7.out HP7.out HR7.out HF7.out HMP.out hps
end Go.Proofs.YtldimfmhbdhbnaaGreat

/-
  The model's draw for chapter 8's DifferAt: rows, and a copy of them in which one may be bent.
-/
namespace Go.Proofs.YtldimfmhbdhbnaaGreat
open Go.RowKit

def zeroHand (r : R) : R := (r.1, r.2.1, 0, r.2.2.2)
theorem rcs_hand : ∀ (rs : List R) (k : Nat) (h : k < rs.length), rcs (rs.set k (zeroHand rs[k])) = (rcs rs).set (k * 4 + 2) (.int .i64 0) := by
  intro rs
  induction rs with
  | nil => intro k h; simp at h
  | cons r t ih =>
    intro k h
    cases k with
    | zero => simp [rcs_cons, rc, zeroHand]
    | succ k =>
      have h' : k < t.length := by simpa using h
      rw [List.set_cons_succ, rcs_cons, rcs_cons, List.set_append, if_neg (by simp [rc]; omega)]
      rw [show (k + 1) * 4 + 2 - (rc r).length = k * 4 + 2 by simp [rc]; omega, ← ih k h']
      rfl
/-- A row's third cell set. -/
theorem Rd.hand {w : World} {b off n c k : Nat} {rs : List R} {fp : List Nat} (h : Rd w 4 (.slice (some ⟨b, off, none⟩) n c) (rcs rs) fp) (hk : k < rs.length) :
    Rd (w.setCell ⟨b, off + k * 4 + 2, none⟩ (.int .i64 0)) 4 (.slice (some ⟨b, off, none⟩) n c) (rcs (rs.set k (zeroHand rs[k]))) fp := by
  obtain ⟨A, n', c', he, hl, h1, h2, hc⟩ := h
  cases he
  rcases hc with ⟨h0, _⟩ | ⟨b', off', hA, hfp, hb, hcell⟩
  · subst h0; rw [rcs_length] at hl; omega
  · cases hA
    refine ⟨_, n, c, rfl, by rw [rcs_length, List.length_set, ← rcs_length]; exact hl, h1, h2, .inr ⟨b, off, rfl, hfp, by simpa using hb, fun i u hu => ?_⟩⟩
    rw [rcs_hand rs k hk, List.getElem?_set] at hu
    by_cases e : k * 4 + 2 = i
    · rw [if_pos e] at hu
      have hlt : k * 4 + 2 < (rcs rs).length := by rw [rcs_length]; omega
      rw [if_pos (by omega)] at hu
      have hold : (rcs rs)[i]? = some (rcs rs)[i] := List.getElem?_eq_getElem (by omega)
      have hci := hcell i _ hold
      have hu' : Value.int .i64 0 = u := by simpa using hu
      rw [← hu', show off + i = off + k * 4 + 2 by omega]
      rw [show off + i = off + k * 4 + 2 by omega] at hci
      exact World.cell?_setCell_same _ _ _ hci
    · rw [if_neg e] at hu
      rw [World.cell?_setCell_other]
      · exact hcell i u hu
      · intro he; injection he with _ he; omega

set_option maxRecDepth 100000 in
set_option maxHeartbeats 4000000 in
theorem drawDifferAt_c (A : Option Addr) (c : Nat) (zs : List Int) (w : World) (fp : List Nat) (ha : Rd w 1 (.slice A zs.length c) (cellsOf .u8 zs) fp) (hby : Byt zs) (hb : zs.length ≤ 1048576) :
    Calls Tryz.prog 8 #[.slice A zs.length c] w (RowsRowsPost w) := by
  obtain ⟨i0, hi, hz, hsz, hbyt⟩ := infoRow
  go_enter Tryz.func8, Tryz.ntmps8
  go_wp2_with fail
  refine (l1Source_c A c zs _ fp ha hby hb).mono ?_
  rintro e w1 ⟨rfl, hs1, hb1, hz1⟩
  have hl1 : w.heap.size ≤ w1.heap.size := by omega
  clear hz1
  go_wp2_with fail
  refine (l2Bent_c _ w.heap.size zs 0 hs1 (by omega)).mono ?_
  rintro e w2 ⟨v, fv, rs, d, n, B, rfl, hr, hn, hf, _, _, hm, hl, hd, hdr⟩
  have hls := hs1.lt
  obtain ⟨Av, cv, hv⟩ := hr.rows_form
  subst hv
  have sz2 := hdr.but.size
  have hap : ∀ b ∈ fv, b ∉ [w.heap.size] := fun b hb hm => by have := hf b hb; simp at hm; omega
  have hlt2 : ∀ b ∈ fv, b < w2.heap.size := hr.lt
  have HAP := Lib.hid hap; have HM := Lib.hid hm; have HLT := Lib.hid hlt2
  have HR := Lib.hid (hr.alloc (.cells #[] 40))
  have HD := Lib.hid (hdr.alloc (.cells #[] 40))
  have hoa := own_emptyR (w := w2) (t := 40) (base := w2.heap.size) (Nat.le_refl _)
  have HO := Lib.hid hoa
  clear hr hn hf hm hdr hs1 hap hlt2 hoa
  have hszW : w2.heap.size ≤ (w2.alloc (.cells #[] 40)).heap.size := by simp
  go_wp2_with (at_builtin; refine wpList_append_rd rfl _ _ 24 rfl w2.heap.size 40 i0 (rv (0, 0, 0, 0)) 4 32 Tryz.underlying24 hi hz hsz hbyt rfl (by decide) _ 0 [] rfl HO.out Av rs.length cv (rcs rs) fv rfl HR.out (rcs_one rs) ?d1 ?d2 ?d3 ?_)
  case d1 => unfold maxLen; omega
  case d2 => omega
  case d3 => exact hszW
  intro v3 w3 hown3 hgrow3
  have hd3 := HD.out.grown hgrow3 (fun g hg => by have := own_base' HO.out hg; omega) (by omega)
  have hr3 := rd_grown HR.out hgrow3 (fun b hb he => by have := own_base' HO.out he; have := HLT.out b hb; omega)
  have ho3 : w3.ownsRow w2.heap.size 40 4 v3 rs.length (rcs rs) := by simpa using hown3
  obtain ⟨f3, hb3, hn3, hf3⟩ := Rd.of_own ho3
  obtain ⟨A3, c3, hv3⟩ := hb3.rows_form
  subst hv3
  have sz3 := hd3.src.lt
  have HD3 := Lib.hid hd3; have HR3 := Lib.hid hr3; have HB3 := Lib.hid hb3; have HN3 := Lib.hid hn3; have HF3 := Lib.hid hf3
  clear hown3 hgrow3 ho3 hd3 hr3 hb3 hn3 hf3 HD HR HO
  have hap3 : ∀ b ∈ f3, b ∉ [w.heap.size] := fun b hb hm => by have := HF3.out b hb; simp at hm; omega
  have HAP3 := Lib.hid hap3; clear hap3
  have HBX := Lib.hid hb1
  clear hb1
  by_cases h0 : ¬ 0 < rs.length
  · have t0 : decide (0 < rs.length) = false := decide_eq_false h0
    have HBB := Lib.hid (Drawn.fresh2 HBX.out HD3.out hl1)
    go_wp2_with fail
    refine bodyPost_ret (v := .tuple #[.slice Av rs.length cv, .slice A3 rs.length c3]) (by simp [results, Tryz.results8, go_sem]) rfl ?_
    exact ⟨_, _, fv, f3, rs, rs, rfl, HR3.out, HB3.out, HM.out, HM.out, by omega, by omega, HBB.out⟩
  · have h0 : 0 < rs.length := by omega
    have t0 : decide (0 < rs.length) = true := decide_eq_true h0
    go_wp2_with fail
    refine (l1Chance_c w3 w.heap.size zs _ 3 HD3.out.src (by omega) (by omega) (by omega)).mono ?_
    rintro e w4 ⟨bb, rfl, hd4, _⟩
    have HD4 := Lib.hid (HD3.out.trans hd4); have HR4 := Lib.hid (HR3.out.but hd4.but HAP.out); have HB4 := Lib.hid (HB3.out.but hd4.but HAP3.out)
    have HN4 := Lib.hid (HN3.out.but hd4.but HB3.out.lt HAP3.out)
    clear hd4 HD3 HR3 HB3 HN3
    cases bb
    · go_wp2_with fail
      refine (l1Next_c _ w.heap.size zs _ rs.length HD4.out.src (by omega) (by omega)).mono ?_
      rintro e w5 ⟨x, m1, rfl, hx0, hx1, hw⟩
      have hd5 := Drawn.of_next HD4.out.src (by omega) hw
      have HD5 := Lib.hid (HD4.out.trans hd5); have HR5 := Lib.hid (HR4.out.but hd5.but HAP.out); have HB5 := Lib.hid (HB4.out.but hd5.but HAP3.out)
      have HN5 := Lib.hid (HN4.out.but hd5.but HB4.out.lt HAP3.out)
      clear hd5 hw HD4 HR4 HB4 HN4
      obtain ⟨k, rfl⟩ : ∃ k : Nat, x = (k : Int) := ⟨x.toNat, by omega⟩
      have hk : k < rs.length := by omega
      obtain ⟨b0, off, rfl, hfp3, hl5, p0, p1, p2, p3⟩ := HB5.out.row_at hk
      have hfz : w5.frozen? ⟨b0, off + k * 4 + 2, none⟩ = false := HN5.out b0 (by rw [hfp3]; simp) _
      have HB6 := Lib.hid (HB5.out.hand hk)
      have hbf : w2.heap.size ≤ b0 := HF3.out b0 (by rw [hfp3]; simp)
      have hbut := (But.refl [b0] w5).setCell (p := ⟨b0, off + k * 4 + 2, none⟩) (by simp) (.int .i64 0)
      have HR6 := Lib.hid (HR5.out.but hbut (fun y hy he => by have := HLT.out y hy; simp at he; omega))
      have hmm : ∀ r ∈ rs.set k (zeroHand rs[k]), Mild r := fun r hr => by
        rcases List.mem_or_eq_of_mem_set hr with hr | rfl
        · exact HM.out r hr
        · have := HM.out rs[k] (List.getElem_mem hk)
          unfold Mild at this ⊢
          unfold zeroHand
          simp only
          omega
      have HMM := Lib.hid hmm
      have HBB := Lib.hid ((Drawn.fresh2 HBX.out HD5.out hl1).trans (hbut.below (Drawn.fresh2 HBX.out HD5.out hl1).size (by intro y hy; simp at hy; omega)))
      have hlen : (rs.set k (zeroHand rs[k])).length = rs.length := List.length_set
      generalize rs.set k (zeroHand rs[k]) = rs2 at *
      generalize rs[k] = r at *
      clear hmm hbut HN5 HB5 HR5 HD5
      go_wp2_with fail
      refine bodyPost_ret (v := .tuple #[.slice Av rs.length cv, .slice (some ⟨b0, off, none⟩) rs.length c3]) (by simp [results, Tryz.results8, go_sem]) rfl ?_
      exact ⟨_, _, fv, f3, rs, rs2, rfl, HR6.out, HB6.out, HM.out, HMM.out, by omega, by omega, HBB.out⟩
    · have HBB := Lib.hid (Drawn.fresh2 HBX.out HD4.out hl1)
      go_wp2_with fail
      refine bodyPost_ret (v := .tuple #[.slice Av rs.length cv, .slice A3 rs.length c3]) (by simp [results, Tryz.results8, go_sem]) rfl ?_
      exact ⟨_, _, fv, f3, rs, rs, rfl, HR4.out, HB4.out, HM.out, HM.out, by omega, by omega, HBB.out⟩
end Go.Proofs.YtldimfmhbdhbnaaGreat
