/-
  The model's draws for chapter 6's writes.
-/
import Derived.Test.YtldimfmhbdhbnaaG32
import Derived.Test.YtldimfmhbdhbnaaG33
namespace Go.Proofs.Ytldimfmhbdhbnaa
open Go.RowKit

/-- Integers in a block of their own. -/
theorem list_ints (w : World) (xs : List Int) (t : TypeId) (hx : xs.length ≤ 1000) : Rd (w.alloc (.cells (cellsOf .i64 xs).toArray t)) 1 (.slice (some ⟨w.heap.size, 0, none⟩) xs.length xs.length) (cellsOf .i64 xs) [w.heap.size] ∨ xs = [] := by
  by_cases h : xs = []
  · exact .inr h
  · refine .inl ⟨_, xs.length, xs.length, rfl, by simp [cellsOf], by unfold maxLen; omega, Nat.le_refl _, .inr ⟨_, 0, rfl, rfl, heap_lt (heap_new w _ rfl), fun i u hu => ?_⟩⟩
    rw [Nat.zero_add, cell_of_heap (heap_new w _ rfl), List.getElem?_toArray]; exact hu
theorem pick_w5 (w : World) (s : Nat) (zs : List Int) (a n : Nat) (x y : Int) (h : Src w s zs a) (hn : n = w.heap.size) (ha : a < 1000000) :
    Calls Try.prog 47 #[.pointer (some ⟨s, 0, none⟩), .slice (some ⟨n, 0, none⟩) 5 5] (w.alloc (.cells #[.int .i64 x, .int .i64 x, .int .i64 x, .int .i64 y, .int .i64 5] 2)) fun e w' => ∃ v, e = .returned (.int .i64 v) ∧ v ∈ [x, x, x, y, 5] ∧ Drawn w s zs a 1 w' := pick_6 w s zs a n [x, x, x, y, 5] h hn ha (by simp) (by simp)
theorem pick_r5 (w : World) (s : Nat) (zs : List Int) (a : Nat) (A : Option Addr) (x y : Int) (fp : List Nat) (h : Src w s zs a) (ha : a < 1000000) (hr : Rd w 1 (.slice A 5 5) (cellsOf .i64 [x, x, x, y, 5]) fp) (hsf : s ∉ fp) :
    Calls Try.prog 47 #[.pointer (some ⟨s, 0, none⟩), .slice A 5 5] w fun e w' => ∃ v, e = .returned (.int .i64 v) ∧ v ∈ [x, x, x, y, 5] ∧ Drawn w s zs a 1 w' :=
  (l1Pick_c w s zs a A 5 [x, x, x, y, 5] fp h ha (by simp) (by simp) hr hsf).mono fun _ _ ⟨v, h1, h2, h3, _⟩ => ⟨v, h1, h2, h3⟩
/-- Places, a row and a number were drawn. -/
def PlRowPost (w : World) (e : Ending) (w' : World) : Prop :=
  ∃ (p : Pl) (vf : Value) (fp : List Nat) (r : R) (m : Int), e = .returned (.tuple #[plv p.mark vf, rv r, .int .i64 m]) ∧ PlAt w' p vf fp ∧ NF w' fp ∧ From w.heap.size fp ∧ (∀ l ∈ p.fs, ∀ r ∈ l, Mild r) ∧ (-20000 ≤ p.mark ∧ p.mark ≤ 20000) ∧ plsz p ≤ 1000 ∧ Mild r ∧ (-20001 ≤ m ∧ m ≤ 20001) ∧ Below w.heap.size w w'

set_option maxRecDepth 100000 in
set_option maxHeartbeats 4000000 in
theorem drawWritePlace_c (A : Option Addr) (c : Nat) (zs : List Int) (w : World) (fp : List Nat) (ha : Rd w 1 (.slice A zs.length c) (cellsOf .u8 zs) fp) (hby : Byt zs) (hb : zs.length ≤ 1048576) :
    Calls Try.prog 13 #[.slice A zs.length c] w (PlRowPost w) := by
  have ha0 := (ha.alloc (.cells #[.slice none 0 0, .int .i64 0] 29)).alloc (.cells #[.int .i64 0, .int .i64 0, .int .i64 0, .int .i64 0] 34)
  have GB0 := Lib.hid (heap_old (o' := .cells #[.int .i64 0, .int .i64 0, .int .i64 0, .int .i64 0] 34) (heap_new w (.cells #[.slice none 0 0, .int .i64 0] 29) rfl))
  have GR0 := Lib.hid (heap_new (w.alloc (.cells #[.slice none 0 0, .int .i64 0] 29)) (.cells #[.int .i64 0, .int .i64 0, .int .i64 0, .int .i64 0] 34) (g := w.heap.size + 1) (by simp))
  have hz0 : w.heap.size + 2 = ((w.alloc (.cells #[.slice none 0 0, .int .i64 0] 29)).alloc (.cells #[.int .i64 0, .int .i64 0, .int .i64 0, .int .i64 0] 34)).heap.size := by simp
  have hB0 : Below w.heap.size w ((w.alloc (.cells #[.slice none 0 0, .int .i64 0] 29)).alloc (.cells #[.int .i64 0, .int .i64 0, .int .i64 0, .int .i64 0] 34)) := below_more (below_new _) _
  go_enter Try.func13, Try.ntmps13
  go_wp2_with fail
  generalize (w.alloc (.cells #[.slice none 0 0, .int .i64 0] 29)).alloc (.cells #[.int .i64 0, .int .i64 0, .int .i64 0, .int .i64 0] 34) = w0 at *
  refine (l1Source_c A c zs w0 fp ha0 hby hb).mono ?_
  rintro e w1 ⟨rfl, hs1, hb1, hz1⟩
  have hl1 : w.heap.size ≤ w1.heap.size := by omega
  have GB1 := Lib.hid ((hb1.block _ (heap_lt GB0.out)).trans GB0.out)
  have GR1 := Lib.hid ((hb1.block _ (heap_lt GR0.out)).trans GR0.out)
  have HB1 := Lib.hid (hB0.trans (hb1.mono (by omega)))
  clear ha ha0 GB0 GR0 hB0 hb1
  go_wp2_with fail
  refine (l6Bent_c _ w0.heap.size zs 0 hs1 (by omega)).mono ?_
  rintro e w2 ⟨p, vf, fq, d, rfl, hp, hn, hf, hnd, hm, hmk, hsz, hd, hdr⟩
  obtain ⟨Av, cv, rfl⟩ := hp.form
  have hls := hs1.lt
  have hsz2 := hdr.but.size
  have hap : ∀ b ∈ fq, b ∉ [w0.heap.size] := fun b hb hm => by have := hf b hb; simp at hm; omega
  have PB2 := Lib.hid (heap_new w2 (.cells #[.slice Av p.fs.length cv, .int .i64 p.mark] 29) rfl)
  have HP := Lib.hid (hp.alloc (.cells #[.slice Av p.fs.length cv, .int .i64 p.mark] 29)); have HN := Lib.hid (hn.but ((But.refl [] _).alloc (.cells #[.slice Av p.fs.length cv, .int .i64 p.mark] 29)) hp.lt (by simp)); have HF := Lib.hid (hf.mono (show w.heap.size + 2 ≤ w1.heap.size by omega)); have HM := Lib.hid hm; have HD := Lib.hid (hdr.alloc (.cells #[.slice Av p.fs.length cv, .int .i64 p.mark] 29)); have HAP := Lib.hid hap
  have GB2 := Lib.hid (heap_old (o' := .cells #[.slice Av p.fs.length cv, .int .i64 p.mark] 29) (hdr.but.heap GB1.out (by simp; omega)))
  have GR2 := Lib.hid (heap_old (o' := .cells #[.slice Av p.fs.length cv, .int .i64 p.mark] 29) (hdr.but.heap GR1.out (by simp; omega)))
  have HSR := Lib.hid HD.out.src
  clear hp hn hf hnd hm hdr hap GB1 GR1 hs1
  go_wp2_with fail
  have hw2a : w0.heap.size < (w2.alloc (.cells #[.slice Av p.fs.length cv, .int .i64 p.mark] 29)).heap.size := HSR.out.lt
  generalize w2.alloc (.cells #[.slice Av p.fs.length cv, .int .i64 p.mark] 29) = W2 at *
  have hgp : w0.heap.size < w2.heap.size := by omega
  generalize w2.heap.size = gp at *
  obtain ⟨x0, x1, _, _, hzx⟩ := two_at PB2.out
  obtain ⟨y0, y1, fy0, fy1, hzy⟩ := two_at GB2.out
  obtain ⟨r0, r1, r2, r3, fr0, fr1, fr2, fr3, hzr⟩ := four_at GR2.out
  have hnot : gp ∉ [w0.heap.size, w.heap.size, w.heap.size + 1] := by simp; omega
  have hwr : IntKind.i64.wrap (p.mark + 1) = p.mark + 1 := IntWalk.i64_in _ (by omega)
  go_region_held3 (fun w' => w'.cell? ⟨gp, 0, none⟩ = some (.slice Av p.fs.length cv) ∧ w'.cell? ⟨gp, 1, none⟩ = some (.int .i64 p.mark))
    (first
      | exact ⟨(But.cell (w := W2) (bs := [w0.heap.size, w.heap.size, w.heap.size + 1]) (p := ⟨gp, 0, none⟩) (by repeat (first | with_reducible exact hb4 | with_reducible exact hb3 | with_reducible refine But.setCell ?_ (by simp) _ | with_reducible refine But.alloc ?_ _ | with_reducible refine But.drew ?_ | with_reducible exact But.refl _ _)) hzx hnot).trans x0, (But.cell (w := W2) (bs := [w0.heap.size, w.heap.size, w.heap.size + 1]) (p := ⟨gp, 1, none⟩) (by repeat (first | with_reducible exact hb4 | with_reducible exact hb3 | with_reducible refine But.setCell ?_ (by simp) _ | with_reducible refine But.alloc ?_ _ | with_reducible refine But.drew ?_ | with_reducible exact But.refl _ _)) hzx hnot).trans x1⟩
      | go_keep)
    (first
      | (go_at_call 53
         ((with_reducible refine (l2BentRow_c W2.drew w0.heap.size zs (0 + d) (HSR.out.below (Below.refl _ _).drew) (by omega)).mono ?_))
         rintro e w3 ⟨r, d4, rfl, hmr, hd4, hd3'⟩
         have hd3 : Drawn W2 w0.heap.size zs (0 + d) (0 + d4) w3 := ((Drawn.start HSR.out).below (Below.refl _ _).drew).trans hd3'
         have hb3 : But [w0.heap.size, w.heap.size, w.heap.size + 1] W2 w3 := hd3.but.mono (by simp)
         clear hd3')
      | (go_at_call 53
         ((with_reducible refine (l2BentRow_c (W2.alloc (.cells #[.int .i64 (p.mark + 1), .int .i64 (p.mark + 1), .int .i64 (p.mark + 1), .int .i64 p.mark, .int .i64 5] 2)).drew w0.heap.size zs (0 + d) (HSR.out.below (below_new _).drew) (by omega)).mono ?_))
         rintro e w3 ⟨r, d4, rfl, hmr, hd4, hd3'⟩
         have hrl : Rd w3 1 (.slice (some ⟨W2.heap.size, 0, none⟩) 5 5) (cellsOf .i64 [p.mark + 1, p.mark + 1, p.mark + 1, p.mark, 5]) [W2.heap.size] := (Rd.drew ((list_ints W2 [p.mark + 1, p.mark + 1, p.mark + 1, p.mark, 5] 2 (by simp)).resolve_right (by simp))).but hd3'.but (by simp; omega)
         have hd3 : Drawn W2 w0.heap.size zs (0 + d) (0 + d4) w3 := ((Drawn.start HSR.out).below (below_new _).drew).trans hd3'
         have hb3 : But [w0.heap.size, w.heap.size, w.heap.size + 1] W2 w3 := hd3.but.mono (by simp)
         clear hd3')
      | (go_at_call 47
         ((with_reducible refine (pick_w5 w3 w0.heap.size zs (0 + d + (0 + d4)) w3.heap.size (p.mark + 1) p.mark hd3.src rfl (by omega)).mono ?_))
         rintro e w4 ⟨m, rfl, hq, hd4'⟩
         have hq2 : -20001 ≤ m ∧ m ≤ 20001 := by simp at hq; omega
         have hdd := hd3.trans hd4'
         have hbt2 : But [w0.heap.size] W2 w4 := hdd.but
         have hb4 : But [w0.heap.size, w.heap.size, w.heap.size + 1] W2 w4 := hbt2.mono (by simp)
         obtain ⟨c0, c1, e0, e1, _⟩ := two_at (hbt2.heap GB2.out (by simp; omega))
         obtain ⟨b0, b1, b2, b3, g0, g1, g2, g3, _⟩ := four_at (hbt2.heap GR2.out (by simp; omega))
         clear hq hd4')
      | (go_at_call 47
         ((with_reducible refine (pick_r5 w3 w0.heap.size zs (0 + d + (0 + d4)) _ (p.mark + 1) p.mark [W2.heap.size] hd3.src (by omega) hrl (by simp; omega)).mono ?_))
         rintro e w4 ⟨m, rfl, hq, hd4'⟩
         have hq2 : -20001 ≤ m ∧ m ≤ 20001 := by simp at hq; omega
         have hdd := hd3.trans hd4'
         have hbt2 : But [w0.heap.size] W2 w4 := hdd.but
         have hb4 : But [w0.heap.size, w.heap.size, w.heap.size + 1] W2 w4 := hbt2.mono (by simp)
         obtain ⟨c0, c1, e0, e1, _⟩ := two_at (hbt2.heap GB2.out (by simp; omega))
         obtain ⟨b0, b1, b2, b3, g0, g1, g2, g3, _⟩ := four_at (hbt2.heap GR2.out (by simp; omega))
         clear hq hd4'))
  all_goals
    clear hwr hb3 hd3
    have hne : w.heap.size ≠ w.heap.size + 1 := by omega
    have hsz4 := hdd.but.size
    have hlt0 : w.heap.size < w4.heap.size := by omega
    have hlt1 : w.heap.size + 1 < w4.heap.size := by omega
    have hpl := HP.out.but hdd.but HAP.out
    have hnf := HN.out.but hdd.but HP.out.lt HAP.out
    have hb5 : Below w.heap.size w w4 := HB1.out.trans ((HD.out.but.trans hdd.but).below hl1 (by intro b hm; simp at hm; omega))
    have HPL := Lib.hid hpl; have HNF := Lib.hid hnf; have HB5 := Lib.hid hb5; have HMR := Lib.hid hmr
    clear hpl hnf hb5 hmr hdd hbt2 hb4
    go_wp2_with fail
    refine bodyPost_ret (v := .tuple #[plv p.mark (.slice Av p.fs.length cv), rv r, .int .i64 m]) (by simp [results, Try.results13, go_sem, c0, c1, b0, b1, b2, b3]) rfl ?_
    have hbut := ((((((But.refl [w.heap.size, w.heap.size + 1] w4).setCell (p := ⟨w.heap.size, 0, none⟩) (by simp) (.slice Av p.fs.length cv)).setCell (p := ⟨w.heap.size, 1, none⟩) (by simp) (.int .i64 p.mark)).setCell (p := ⟨w.heap.size + 1, 0, none⟩) (by simp) (.int .i64 r.1)).setCell (p := ⟨w.heap.size + 1, 1, none⟩) (by simp) (.int .i64 r.2.1)).setCell (p := ⟨w.heap.size + 1, 2, none⟩) (by simp) (.int .i64 r.2.2.1)).setCell (p := ⟨w.heap.size + 1, 3, none⟩) (by simp) (.int .i64 r.2.2.2)
    have a1 : ∀ x ∈ fq, x ∉ [w.heap.size, w.heap.size + 1] := fun x hx he => by have := HF.out x hx; simp at he; omega
    exact ⟨p, _, fq, r, m, rfl, HPL.out.but hbut a1, HNF.out.but hbut HPL.out.lt a1, HF.out.mono (by omega), HM.out, hmk, hsz, HMR.out, hq2, HB5.out.trans (hbut.below HB5.out.size (fun x hx => by simp at hx; omega))⟩
end Go.Proofs.Ytldimfmhbdhbnaa
