/-
  Contracts of the model's draws of chapter 2: arguments for FindRow and CutRows.
-/
import Derived.Test.YthmmjkpgepffeaaDraw2f
namespace Go.Proofs.Ythmmjkpgepffeaa
open Go.RowKit

/-- Rows and two numbers were drawn. -/
def RowsIntsPost (w : World) (e : Ending) (w' : World) : Prop :=
  ∃ v fv rs l s, e = .returned (.tuple #[v, .int .i64 l, .int .i64 s]) ∧ Rd w' 4 v (rcs rs) fv ∧ NF w' fv ∧ From w.heap.size fv ∧ (∀ r ∈ rs, Mild r) ∧ rs.length ≤ 13 ∧ (-20000 ≤ l ∧ l ≤ 20000) ∧ (-20000 ≤ s ∧ s ≤ 20000) ∧ Below w.heap.size w w'

set_option maxRecDepth 100000 in
set_option maxHeartbeats 2000000 in
theorem drawFindRow_c (A : Option Addr) (c : Nat) (zs : List Int) (w : World) (fp : List Nat) (ha : Rd w 1 (.slice A zs.length c) (cellsOf .u8 zs) fp) (hby : Byt zs) (hb : zs.length ≤ 1048576) :
    Calls Try.prog 16 #[.slice A zs.length c] w (RowsIntsPost w) := by
  go_enter Try.func16, Try.ntmps16
  go_wp2_with fail
  refine (l1Source_c A c zs _ fp ha hby hb).mono ?_
  rintro e w1 ⟨rfl, hs1, hb1, hz1⟩
  have hl1 : w.heap.size ≤ w1.heap.size := by omega
  clear hz1
  go_wp2_with fail
  refine (l2BentRow_c _ w.heap.size zs 0 hs1 (by omega)).mono ?_
  rintro e w2 ⟨r, d, rfl, hm, hd, hdr⟩
  have hsz := hdr.but.size
  have HM := Lib.hid hm
  have HD := Lib.hid (hdr.alloc (.cells #[.int .i64 r.1, .int .i64 r.2.1, .int .i64 r.2.2.1, .int .i64 r.2.2.2] 26))
  have GR := Lib.hid (heap_new w2 (.cells #[.int .i64 r.1, .int .i64 r.2.1, .int .i64 r.2.2.1, .int .i64 r.2.2.2] 26) rfl)
  have hls := hs1.lt
  clear hdr hm hs1
  obtain ⟨p0, p1, _, _, _, _, _, _, hgr⟩ := four_at GR.out
  go_wp2_with fail
  go_region_held3 (fun w' => w'.cell? ⟨w2.heap.size, 0, none⟩ = some (.int .i64 r.1) ∧ w'.cell? ⟨w2.heap.size, 1, none⟩ = some (.int .i64 r.2.1))
    (first
      | go_keep
      | exact ⟨k0, k1⟩)
    ((go_at_call 47
      refine (l2Bent_c _ w.heap.size zs (0 + d) (HD.out.src.below (Below.refl _ _).drew) (by omega)).mono ?_
      rintro e w3 ⟨v, fv, rs, d2, n, B, rfl, hr, hn, hf, _, _, hm2, hl, hd2, hdr2⟩
      have hg3 : w3.heap[w2.heap.size]? = _ := hdr2.but.heap GR.out (by simp; omega)
      obtain ⟨k0, k1, _, _, _, _, _, _, _⟩ := four_at hg3
      obtain ⟨Av, cv, hv⟩ := hr.rows_form
      subst hv))
  have hbel := Drawn.fresh2 hb1 (((HD.out.below (Below.refl _ _).drew)).trans hdr2) hl1
  have hff := hf.mono (show w.heap.size ≤ (w2.alloc (.cells #[.int .i64 r.1, .int .i64 r.2.1, .int .i64 r.2.2.1, .int .i64 r.2.2.2] 26)).drew.heap.size by show w.heap.size ≤ (w2.alloc (.cells #[.int .i64 r.1, .int .i64 r.2.1, .int .i64 r.2.2.1, .int .i64 r.2.2.2] 26)).heap.size; simp only [World.size_alloc]; omega)
  have HB := Lib.hid hbel; have HR := Lib.hid hr; have HN := Lib.hid hn; have HF := Lib.hid hff; have HM2 := Lib.hid hm2
  clear hbel hr hn hf hff hm2 hdr2 hg3 k0 k1
  go_wp2_with fail
  exact bodyPost_ret (v := .tuple #[.slice Av rs.length cv, .int .i64 r.1, .int .i64 r.2.1]) (by simp [results, Try.results16, go_sem]) rfl ⟨_, fv, rs, r.1, r.2.1, rfl, HR.out, HN.out, HF.out, HM2.out, hl, HM.out.1, HM.out.2.1, HB.out⟩

set_option maxRecDepth 100000 in
set_option maxHeartbeats 2000000 in
theorem drawCutRows_c (A : Option Addr) (c : Nat) (zs : List Int) (w : World) (fp : List Nat) (ha : Rd w 1 (.slice A zs.length c) (cellsOf .u8 zs) fp) (hby : Byt zs) (hb : zs.length ≤ 1048576) :
    Calls Try.prog 31 #[.slice A zs.length c] w (RowsIntsPost w) := by
  go_enter Try.func31, Try.ntmps31
  go_wp2_with fail
  refine (l1Source_c A c zs _ fp ha hby hb).mono ?_
  rintro e w1 ⟨rfl, hs1, hb1, hz1⟩
  have hl1 : w.heap.size ≤ w1.heap.size := by omega
  clear hz1
  go_wp2_with fail
  refine (l2Bent_c _ w.heap.size zs 0 hs1 (by omega)).mono ?_
  rintro e w2 ⟨v, fv, rs, d, n, B, rfl, hr, hn, hf, _, _, hm, hl, hd, hdr⟩
  have hls := hs1.lt
  obtain ⟨Av, cv, hv⟩ := hr.rows_form
  subst hv
  have hap : ∀ b ∈ fv, b ∉ [w.heap.size] := fun b hb hm => by have := hf b hb; simp at hm; omega
  have HR := Lib.hid hr; have HN := Lib.hid hn; have HF := Lib.hid (hf.mono hl1); have HM := Lib.hid hm; have HD := Lib.hid hdr; have HAP := Lib.hid hap
  clear hr hn hf hm hdr hs1 hap
  have hsw2 := HD.out.src.lt
  have HS := Lib.hid (HD.out.alloc (.cells (cellsOf .i64 [0, 21, 44, 101, -1]).toArray 2))
  obtain ⟨fq, hrq, _, hfq⟩ := Rd.fresh (w := w2) (w' := w2.alloc (.cells (cellsOf .i64 [0, 21, 44, 101, -1]).toArray 2)) (n := 5) (size := 1) (xs := cellsOf .i64 [0, 21, 44, 101, -1]) (e := 2) (by unfold maxLen; omega) rfl (heap_new w2 _ rfl) (Nat.le_refl _)
  have HRQ := Lib.hid hrq
  have hfs : w.heap.size ∉ fq := fun hm => by have := hfq _ hm; omega
  have HFS := Lib.hid hfs
  replace HN := Lib.hid (HN.out.but ((But.refl [] _).alloc (.cells (cellsOf .i64 [0, 21, 44, 101, -1]).toArray 2)) HR.out.lt (by simp))
  replace HR := Lib.hid (HR.out.alloc (.cells (cellsOf .i64 [0, 21, 44, 101, -1]).toArray 2))
  clear hrq hfq hfs
  go_wp2_with fail
  refine (l1Pick_c _ w.heap.size zs _ _ 5 [0, 21, 44, 101, -1] fq HS.out.src (by omega) (by simp) (by simp) HRQ.out HFS.out).mono ?_
  rintro e w3 ⟨q1, rfl, hq1, hdr, hsq⟩
  clear hsq
  have hq1' : -20000 ≤ q1 ∧ q1 ≤ 20000 := by simp at hq1; omega
  replace HN := Lib.hid (HN.out.but hdr.but HR.out.lt HAP.out)
  replace HR := Lib.hid (HR.out.but hdr.but HAP.out)
  replace HD := Lib.hid (HS.out.trans hdr)
  clear hq1 hdr HS HRQ HFS
  have hsw3 := HD.out.src.lt
  have HS := Lib.hid (HD.out.alloc (.cells (cellsOf .i64 [21, 64, 100, 101, 0]).toArray 2))
  obtain ⟨fq, hrq, _, hfq⟩ := Rd.fresh (w := w3) (w' := w3.alloc (.cells (cellsOf .i64 [21, 64, 100, 101, 0]).toArray 2)) (n := 5) (size := 1) (xs := cellsOf .i64 [21, 64, 100, 101, 0]) (e := 2) (by unfold maxLen; omega) rfl (heap_new w3 _ rfl) (Nat.le_refl _)
  have HRQ := Lib.hid hrq
  have hfs : w.heap.size ∉ fq := fun hm => by have := hfq _ hm; omega
  have HFS := Lib.hid hfs
  replace HN := Lib.hid (HN.out.but ((But.refl [] _).alloc (.cells (cellsOf .i64 [21, 64, 100, 101, 0]).toArray 2)) HR.out.lt (by simp))
  replace HR := Lib.hid (HR.out.alloc (.cells (cellsOf .i64 [21, 64, 100, 101, 0]).toArray 2))
  clear hrq hfq hfs
  go_wp2_with fail
  refine (l1Pick_c _ w.heap.size zs _ _ 5 [21, 64, 100, 101, 0] fq HS.out.src (by omega) (by simp) (by simp) HRQ.out HFS.out).mono ?_
  rintro e w4 ⟨q2, rfl, hq2, hdr, hsq⟩
  clear hsq
  have hq2' : -20000 ≤ q2 ∧ q2 ≤ 20000 := by simp at hq2; omega
  replace HN := Lib.hid (HN.out.but hdr.but HR.out.lt HAP.out)
  replace HR := Lib.hid (HR.out.but hdr.but HAP.out)
  replace HD := Lib.hid (HS.out.trans hdr)
  clear hq2 hdr HS HRQ HFS
  have HB := Lib.hid (Drawn.fresh2 hb1 HD.out hl1)
  clear hb1 HD
  go_wp2_with fail
  exact bodyPost_ret (v := .tuple #[.slice Av rs.length cv, .int .i64 q1, .int .i64 q2]) (by simp [results, Try.results31, go_sem]) rfl ⟨_, fv, rs, q1, q2, rfl, HR.out, HN.out, HF.out, HM.out, hl, hq1', hq2', HB.out⟩
end Go.Proofs.Ythmmjkpgepffeaa
