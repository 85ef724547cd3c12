/-
  Contracts of the model's draws of chapter 2: arguments for PutRow.
-/
import Derived.Test.YtldimfmhbdhbnaaGreatG25
import Derived.Maps.AppendAt
namespace Go.Proofs.YtldimfmhbdhbnaaGreat
open Go.RowKit

/-- Rows and one row were drawn. -/
def RowsRowPost (w : World) (e : Ending) (w' : World) : Prop :=
  ∃ v fv rs r, e = .returned (.tuple #[v, rv r]) ∧ Rd w' 4 v (rcs rs) fv ∧ NF w' fv ∧ From w.heap.size fv ∧ (∀ r ∈ rs, Mild r) ∧ rs.length ≤ 13 ∧ Mild r ∧ Below w.heap.size w w'

end Go.Proofs.YtldimfmhbdhbnaaGreat

/-
  Contracts of the model's draws of chapter 2: arguments for FindRow and CutRows.
-/
namespace Go.Proofs.YtldimfmhbdhbnaaGreat
open Go.RowKit

/-- Rows and two numbers were drawn. -/
def RowsIntsPost (w : World) (e : Ending) (w' : World) : Prop :=
  ∃ v fv rs l s, e = .returned (.tuple #[v, .int .i64 l, .int .i64 s]) ∧ Rd w' 4 v (rcs rs) fv ∧ NF w' fv ∧ From w.heap.size fv ∧ (∀ r ∈ rs, Mild r) ∧ rs.length ≤ 13 ∧ (-20000 ≤ l ∧ l ≤ 20000) ∧ (-20000 ≤ s ∧ s ≤ 20000) ∧ Below w.heap.size w w'

set_option maxRecDepth 100000 in
set_option maxHeartbeats 2000000 in
theorem drawCutRows_c (A : Option Addr) (c : Nat) (zs : List Int) (w : World) (fp : List Nat) (ha : Rd w 1 (.slice A zs.length c) (cellsOf .u8 zs) fp) (hby : Byt zs) (hb : zs.length ≤ 1048576) :
    Calls Tryz.prog 24 #[.slice A zs.length c] w (RowsIntsPost w) := by
  go_enter Tryz.func24, Tryz.ntmps24
  go_wp2_with fail
  refine (l1Source_c A c zs _ fp ha hby hb).mono ?_
  rintro e w1 ⟨rfl, hs1, hb1, hz1⟩
  have hl1 : w.heap.size ≤ w1.heap.size := by omega
  clear hz1
  go_wp2_with fail
  refine (l2Bent_c _ w.heap.size zs 0 hs1 (by omega)).mono ?_
  rintro e w2 ⟨v, fv, rs, d, n, B, rfl, hr, hn, hf, _, _, hm, hl, hd, hdr⟩
  have hls := hs1.lt
  obtain ⟨Av, cv, hv⟩ := hr.rows_form
  subst hv
  have hap : ∀ b ∈ fv, b ∉ [w.heap.size] := fun b hb hm => by have := hf b hb; simp at hm; omega
  have HR := Lib.hid hr; have HN := Lib.hid hn; have HF := Lib.hid (hf.mono hl1); have HM := Lib.hid hm; have HD := Lib.hid hdr; have HAP := Lib.hid hap
  clear hr hn hf hm hdr hs1 hap
  have hsw2 := HD.out.src.lt
  have HS := Lib.hid (HD.out.alloc (.cells (cellsOf .i64 [0, 21, 44, 101, -1]).toArray 2))
  obtain ⟨fq, hrq, _, hfq⟩ := Rd.fresh (w := w2) (w' := w2.alloc (.cells (cellsOf .i64 [0, 21, 44, 101, -1]).toArray 2)) (n := 5) (size := 1) (xs := cellsOf .i64 [0, 21, 44, 101, -1]) (e := 2) (by unfold maxLen; omega) rfl (heap_new w2 _ rfl) (Nat.le_refl _)
  have HRQ := Lib.hid hrq
  have hfs : w.heap.size ∉ fq := fun hm => by have := hfq _ hm; omega
  have HFS := Lib.hid hfs
  replace HN := Lib.hid (HN.out.but ((But.refl [] _).alloc (.cells (cellsOf .i64 [0, 21, 44, 101, -1]).toArray 2)) HR.out.lt (by simp))
  replace HR := Lib.hid (HR.out.alloc (.cells (cellsOf .i64 [0, 21, 44, 101, -1]).toArray 2))
  clear hrq hfq hfs
  go_wp2_with fail
  refine (l1Pick_c _ w.heap.size zs _ _ 5 [0, 21, 44, 101, -1] fq HS.out.src (by omega) (by simp) (by simp) HRQ.out HFS.out).mono ?_
  rintro e w3 ⟨q1, rfl, hq1, hdr, hsq⟩
  clear hsq
  have hq1' : -20000 ≤ q1 ∧ q1 ≤ 20000 := by simp at hq1; omega
  replace HN := Lib.hid (HN.out.but hdr.but HR.out.lt HAP.out)
  replace HR := Lib.hid (HR.out.but hdr.but HAP.out)
  replace HD := Lib.hid (HS.out.trans hdr)
  clear hq1 hdr HS HRQ HFS
  have hsw3 := HD.out.src.lt
  have HS := Lib.hid (HD.out.alloc (.cells (cellsOf .i64 [21, 64, 100, 101, 0]).toArray 2))
  obtain ⟨fq, hrq, _, hfq⟩ := Rd.fresh (w := w3) (w' := w3.alloc (.cells (cellsOf .i64 [21, 64, 100, 101, 0]).toArray 2)) (n := 5) (size := 1) (xs := cellsOf .i64 [21, 64, 100, 101, 0]) (e := 2) (by unfold maxLen; omega) rfl (heap_new w3 _ rfl) (Nat.le_refl _)
  have HRQ := Lib.hid hrq
  have hfs : w.heap.size ∉ fq := fun hm => by have := hfq _ hm; omega
  have HFS := Lib.hid hfs
  replace HN := Lib.hid (HN.out.but ((But.refl [] _).alloc (.cells (cellsOf .i64 [21, 64, 100, 101, 0]).toArray 2)) HR.out.lt (by simp))
  replace HR := Lib.hid (HR.out.alloc (.cells (cellsOf .i64 [21, 64, 100, 101, 0]).toArray 2))
  clear hrq hfq hfs
  go_wp2_with fail
  refine (l1Pick_c _ w.heap.size zs _ _ 5 [21, 64, 100, 101, 0] fq HS.out.src (by omega) (by simp) (by simp) HRQ.out HFS.out).mono ?_
  rintro e w4 ⟨q2, rfl, hq2, hdr, hsq⟩
  clear hsq
  have hq2' : -20000 ≤ q2 ∧ q2 ≤ 20000 := by simp at hq2; omega
  replace HN := Lib.hid (HN.out.but hdr.but HR.out.lt HAP.out)
  replace HR := Lib.hid (HR.out.but hdr.but HAP.out)
  replace HD := Lib.hid (HS.out.trans hdr)
  clear hq2 hdr HS HRQ HFS
  have HB := Lib.hid (Drawn.fresh2 hb1 HD.out hl1)
  clear hb1 HD
  go_wp2_with fail
  exact bodyPost_ret (v := .tuple #[.slice Av rs.length cv, .int .i64 q1, .int .i64 q2]) (by simp [results, Tryz.results24, go_sem]) rfl ⟨_, fv, rs, q1, q2, rfl, HR.out, HN.out, HF.out, HM.out, hl, hq1', hq2', HB.out⟩
end Go.Proofs.YtldimfmhbdhbnaaGreat

/-
  Contract of the model's draw of chapter 2 for JoinRows.
-/
namespace Go.Proofs.YtldimfmhbdhbnaaGreat
open Go.RowKit

/-- Two lists of rows were drawn. -/
def RowsRowsPost (w : World) (e : Ending) (w' : World) : Prop :=
  ∃ va vb fa fb ra rb, e = .returned (.tuple #[va, vb]) ∧ Rd w' 4 va (rcs ra) fa ∧ Rd w' 4 vb (rcs rb) fb ∧ (∀ r ∈ ra, Mild r) ∧ (∀ r ∈ rb, Mild r) ∧ ra.length ≤ 13 ∧ rb.length ≤ 13 ∧ Below w.heap.size w w'

theorem own_far {w w' : World} {base n : Nat} {e : TypeId} {size : Nat} {v : Value} {xs : List Value} {row : Option Nat} (h : w.ownsRow base e size v n xs) (hg : w.grownBy w' row) (hd : ∀ g, v.ownBlock = some g → row ≠ some g) : w'.ownsRow base e size v n xs := by
  refine ⟨h.1, ?_⟩
  rcases h.2 with h0 | ⟨g, cap, cur, h1, h2, h3, h4⟩
  · exact .inl h0
  · exact .inr ⟨g, cap, cur, h1, h2, (hg.block g (heap_lt h3) (fun e => hd g (by rw [h1]; rfl) e.symm)).trans h3, h4⟩
theorem own_blk_lt {w : World} {base n g : Nat} {e : TypeId} {size : Nat} {v : Value} {xs : List Value} (h : w.ownsRow base e size v n xs) (hg : v.ownBlock = some g) : g < w.heap.size := by
  rcases h.2 with ⟨h0, _⟩ | ⟨g', cap, cur, h1, h2, h3, h4⟩
  · rw [h0] at hg; cases hg
  · rw [h1] at hg; cases hg; exact heap_lt h3
theorem rd_grown {w w' : World} {fp : List Nat} {v : Value} {xs : List Value} {row : Option Nat} (h : Rd w 4 v xs fp) (hg : w.grownBy w' row) (hd : ∀ b ∈ fp, row ≠ some b) : Rd w' 4 v xs fp := by
  have hb : But (row.toList) w w' := ⟨hg.os, hg.tape, hg.output, hg.size, fun k hk hn => hg.block k hk (fun e => hn (by rw [← e]; simp))⟩
  exact h.but hb fun b hm hx => hd b hm (by cases row <;> simp_all)

end Go.Proofs.YtldimfmhbdhbnaaGreat
