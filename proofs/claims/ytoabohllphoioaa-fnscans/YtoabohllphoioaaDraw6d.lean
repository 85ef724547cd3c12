/-
  The model's draw of chapter 6 for the scans.
-/
import Derived.Test.YtoabohllphoioaaDraw6c
import Derived.Test.YtoabohllphoioaaDraw2e
namespace Go.Proofs.Ytoabohllphoioaa
open Go.RowKit

/-- Places and two numbers were drawn. -/
def PlIntsPost (w : World) (e : Ending) (w' : World) : Prop :=
  ∃ (p : Pl) (vf : Value) (fp : List Nat) (f m : Int), e = .returned (.tuple #[plv p.mark vf, .int .i64 f, .int .i64 m]) ∧ PlAt w' p vf fp ∧ NF w' fp ∧ From w.heap.size fp ∧ (∀ l ∈ p.fs, ∀ r ∈ l, Mild r) ∧ (-20000 ≤ p.mark ∧ p.mark ≤ 20000) ∧ plsz p ≤ 1000 ∧ (-20000 ≤ f ∧ f ≤ 20000) ∧ (-20000 ≤ m ∧ m ≤ 20000) ∧ Below w.heap.size w w'

set_option maxRecDepth 100000 in
set_option maxHeartbeats 4000000 in
theorem drawScanPlaces_c (A : Option Addr) (c : Nat) (zs : List Int) (w : World) (fp : List Nat) (ha : Rd w 1 (.slice A zs.length c) (cellsOf .u8 zs) fp) (hby : Byt zs) (hb : zs.length ≤ 1048576) :
    Calls Try.prog 16 #[.slice A zs.length c] w (PlIntsPost w) := by
  have ha0 := ha.alloc (.cells #[.slice none 0 0, .int .i64 0] 26)
  have GB0 := Lib.hid (heap_new w (.cells #[.slice none 0 0, .int .i64 0] 26) rfl)
  have hz0 : w.heap.size + 1 = (w.alloc (.cells #[.slice none 0 0, .int .i64 0] 26)).heap.size := by simp
  have hB0 : Below w.heap.size w (w.alloc (.cells #[.slice none 0 0, .int .i64 0] 26)) := below_new _
  go_enter Try.func16, Try.ntmps16
  go_wp2_with fail
  generalize w.alloc (.cells #[.slice none 0 0, .int .i64 0] 26) = w0 at *
  refine (l1Source_c A c zs w0 fp ha0 hby hb).mono ?_
  rintro e w1 ⟨rfl, hs1, hb1, hz1⟩
  have hl1 : w.heap.size ≤ w1.heap.size := by omega
  have GB1 := Lib.hid ((hb1.block _ (heap_lt GB0.out)).trans GB0.out)
  have hB1 := hB0.trans (hb1.mono (by omega))
  have HB1 := Lib.hid hB1
  clear ha ha0 GB0 hB0 hb1 hB1
  go_wp2_with fail
  refine (l6Bent_c _ w0.heap.size zs 0 hs1 (by omega)).mono ?_
  rintro e w2 ⟨p, vf, fq, d, rfl, hp, hn, hf, hnd, hm, hmk, hsz, hd, hdr⟩
  obtain ⟨Av, cv, rfl⟩ := hp.form
  have hls := hs1.lt
  have hsz2 := hdr.but.size
  have hap : ∀ b ∈ fq, b ∉ [w0.heap.size] := fun b hb hm => by have := hf b hb; simp at hm; omega
  have HP := Lib.hid hp; have HN := Lib.hid hn; have HF := Lib.hid (hf.mono (show w.heap.size + 1 ≤ w1.heap.size by omega)); have HM := Lib.hid hm; have HD := Lib.hid hdr; have HAP := Lib.hid hap
  have GB2 := Lib.hid (hdr.but.heap GB1.out (by simp; omega))
  clear hp hn hf hnd hm hdr hap GB1 hs1
  go_wp2_with fail
  refine (pick_6 w2 w0.heap.size zs (0 + d) w2.heap.size [0, 22, 50, 100, 101] HD.out.src rfl (by omega) (by simp) (by simp)).mono ?_
  rintro e w3 ⟨f, rfl, hq, hd3⟩
  have hq1 : -20000 ≤ f ∧ f ≤ 20000 := by simp at hq; omega
  have hsz3 := hd3.but.size
  have HP3 := Lib.hid (HP.out.but hd3.but HAP.out)
  have HN3 := Lib.hid (HN.out.but hd3.but HP.out.lt HAP.out)
  have HD3 := Lib.hid (HD.out.trans hd3)
  have GB3 := Lib.hid (hd3.but.heap GB2.out (by simp; omega))
  clear hq hd3 HP HN HD GB2
  go_wp2_with fail
  refine (pick_6 w3 w0.heap.size zs (0 + (d + 1)) w3.heap.size [1, 3, 12, 13, 0] HD3.out.src rfl (by omega) (by simp) (by simp)).mono ?_
  rintro e w4 ⟨m, rfl, hq, hd4⟩
  have hq2 : -20000 ≤ m ∧ m ≤ 20000 := by simp at hq; omega
  have HP4 := Lib.hid (HP3.out.but hd4.but HAP.out)
  have HN4 := Lib.hid (HN3.out.but hd4.but HP3.out.lt HAP.out)
  have HD4 := Lib.hid (HD3.out.trans hd4)
  have hg4 := hd4.but.heap GB3.out (by simp; omega)
  obtain ⟨y0, y1, z0, z1, zz⟩ := two_at hg4
  clear hq hd4 HP3 HN3 HD3 GB3
  go_wp2_with fail
  refine bodyPost_ret (v := .tuple #[plv p.mark (.slice Av p.fs.length cv), .int .i64 f, .int .i64 m]) (by simp [results, Try.results16, go_sem, y0, y1]) rfl ?_
  have hbut := ((But.refl [w.heap.size] w4).setCell (p := ⟨w.heap.size, 0, none⟩) (by simp) (.slice Av p.fs.length cv)).setCell (p := ⟨w.heap.size, 1, none⟩) (by simp) (.int .i64 p.mark)
  have a1 : ∀ x ∈ fq, x ∉ [w.heap.size] := fun x hx he => by have := HF.out x hx; simp at he; omega
  have hb4 : Below w.heap.size w w4 := HB1.out.trans (HD4.out.but.below hl1 (by intro b hm; simp at hm; omega))
  exact ⟨p, _, fq, f, m, rfl, HP4.out.but hbut a1, HN4.out.but hbut HP4.out.lt a1, HF.out.mono (by omega), HM.out, hmk, hsz, hq1, hq2, hb4.trans (hbut.below hb4.size (fun x hx => by simp at hx; omega))⟩
end Go.Proofs.Ytoabohllphoioaa
