/-
  The model's functions of chapter 6, third part: all rows, in order.
-/
import Derived.Test.YtoabohllphoioaaG12
import Derived.Test.YtoabohllphoioaaPlacesH
import Derived.Test.YtoabohllphoioaaG16
import Derived.Test.YtoabohllphoioaaApp
namespace Go.Proofs.Ytoabohllphoioaa
open Go.RowKit

theorem flat_take (l : List (List R)) (k : Nat) (h : k < l.length) : (l.take (k + 1)).flatten = (l.take k).flatten ++ l[k] := by
  rw [List.take_succ_eq_append_getElem h, List.flatten_append]; simp
theorem flat_tot (l : List (List R)) : l.flatten.length = totS l := by
  induction l with
  | nil => rfl
  | cons a t ih => rw [List.flatten_cons, List.length_append, ih]; simp [totS, cntL]
/-- What is answered of all rows: the code, the rows. -/
def riC (p : Pl) : Int := placesF p
def riL (p : Pl) : List R := if placesF p = 0 then p.fs.flatten else []
theorem riL_len (p : Pl) : (riL p).length ≤ 12 := by
  unfold riL
  split
  · rename_i h
    have := (placesF_zero h).2.2.2.2
    rw [flat_tot]; exact this
  · simp

set_option maxRecDepth 100000 in
set_option maxHeartbeats 2000000 in
theorem l6Rows_c (g : Nat) (mk : Int) (A : Option Addr) (c : Nat) (l : List (List R)) (w : World) (fp : List Nat) (hs : fsz l ≤ 1000000)
    (hg : PlBox w g (.slice A l.length c) mk) (ha : RdF w (.slice A l.length c) l fp) :
    Calls Try.prog 73 #[.pointer (some ⟨g, 0, none⟩)] w (RowsPost w l.flatten) := by
  have hmax := ha.len_le.2
  have hT : Hid (∀ k (h : k < l.length), totS (l.take k) + l[k].length ≤ 1000000) := fun k h => by
    have := totS_take l k h; have := totS_le l (k + 1); unfold fsz at hs; omega
  have HA := Lib.hid ha; have HG := Lib.hid hg
  clear ha hg hs
  obtain ⟨i0, hi, hz, hsz, hby⟩ := infoRow
  go_enter Try.func73, Try.ntmps73
  go_wp2
  go_loopw [3, 4] (fun v i wr => ∃ k : Nat, k ≤ l.length ∧ i = .int .i64 k ∧ Hid (wr.ownsRow w.heap.size 34 4 v (totS (l.take k)) (rcs (l.take k).flatten)) ∧ Hid (Below w.heap.size w wr)) (fun _ i _ => l.length - (intOf i).toNat)
  case atStart => exact ⟨0, Nat.zero_le _, rfl, Lib.hid (own_emptyR (Nat.le_refl _)), Lib.hid (below_new _)⟩
  case round =>
    obtain ⟨k, hk, rfl, HOW, HB⟩ := hrel
    obtain ⟨c0, c1, hz0⟩ := HG.out.below HB.out HG.out.lt
    by_cases hlt : k < l.length
    · obtain ⟨b, off, B, d, f, rfl, _, hbl, hc, hr, _⟩ := rowsAt (HA.out.below' HB.out) hlt
      have hkt := hT.out k hlt
      have ht := totS_take l k hlt
      have hf := flat_take l k hlt
      have HT := Lib.hid ht; have HF := Lib.hid hf; have HR := Lib.hid hr
      have hsize := HB.out.size
      have HRW : Hid (∀ j, u3.ownBlock = some j → w.heap.size ≤ j) := fun j hj => own_base' HOW.out hj
      clear ht hf hr
      generalize totS (l.take k) = n at *
      generalize l[k] = rs at *
      go_wp2_with (at_builtin; refine wpList_append_rd rfl _ _ 29 rfl w.heap.size 34 i0 (rv (0, 0, 0, 0)) 4 32 Try.underlying29 hi hz hsz hby rfl (by decide) _ n _ rfl HOW.out B rs.length d (rcs rs) f rfl HR.out (rcs_one rs) ?d1 ?d2 ?d3 ?_)
      case d1 => unfold maxLen; omega
      case d2 => omega
      case d3 => exact hsize
      intro v2 w2 hown2 hgrow2
      have hb2 : Below w.heap.size w w2 := HB.out.grown hgrow2 HB.out.size HRW.out
      rw [← rcs_append, ← HF.out, ← HT.out] at hown2
      have HO2 := Lib.hid hown2; have HB2 := Lib.hid hb2
      clear hown2 hb2 hgrow2
      go_wp2_with fail
      exact ⟨⟨k + 1, by omega, by go_num, HO2, HB2⟩, by simp [intOf]; omega⟩
    · obtain rfl : k = l.length := by omega
      have hown := HOW.out
      rw [List.take_length] at hown
      obtain ⟨fq, hrv, hnv, hfv⟩ := Rd.of_own hown
      have HX := Lib.hid (And.intro hrv (And.intro hnv (And.intro hfv hown)))
      clear hrv hnv hfv hown
      go_wp2
      go_ret
      exact ⟨_, fq, rfl, HX.out.1, HX.out.2.1, HX.out.2.2.1, HB.out, _, _, Nat.le_refl _, HX.out.2.2.2⟩

theorem l6Rows_f (g : Nat) (mk : Int) (A : Option Addr) (c : Nat) (l : List (List R)) (L : List R) (hL : l.flatten = L) (w : World) (fp : List Nat) (hs : fsz l ≤ 1000000)
    (hg : PlBox w g (.slice A l.length c) mk) (ha : RdF w (.slice A l.length c) l fp) :
    Calls Try.prog 73 #[.pointer (some ⟨g, 0, none⟩)] w (RowsPost w L) := by
  subst hL
  exact l6Rows_c g mk A c l w fp hs hg ha

/-- A box of places and the block of the answer behind it. -/
theorem plbox_new (w : World) (v : Value) (mk : Int) (o : Obj) : PlBox ((w.alloc (.cells #[v, .int .i64 mk] 26)).alloc o) w.heap.size v mk := ⟨by simp, by simp, by simp; omega⟩

set_option maxRecDepth 100000 in
set_option maxHeartbeats 2000000 in
theorem specRowsIn_r (p : Pl) (vf : Value) (w : World) (fp : List Nat) (hs : plsz p ≤ 1048576) (h : PlAt w p vf fp) :
    Calls Try.prog 27 #[plv p.mark vf] w (RResPost w (riC p) (riL p)) := by
  obtain ⟨A, c, rfl⟩ := h.form
  have HF := Lib.hid ((h.f.alloc (.cells #[.slice A p.fs.length c, .int .i64 p.mark] 26)).alloc (.cells #[.int .i64 0, .slice none 0 0] 31))
  have hsf : fsz p.fs ≤ 1048576 := hs
  have hcall := l6Fault_c w.heap.size p.mark A c p.fs _ fp (by omega) (plbox_new w _ p.mark (.cells #[.int .i64 0, .slice none 0 0] 31)) HF.out
  have e : placesF ⟨p.fs, p.mark⟩ = placesF p := rfl
  rw [e] at hcall
  clear e h
  by_cases h0 : placesF p = 0
  · have hL : riL p = p.fs.flatten := by unfold riL; rw [if_pos h0]
    have hC : riC p = 0 := h0
    obtain ⟨hl4, _, _, _, htot⟩ := placesF_zero h0
    have hsz2 : fsz p.fs ≤ 1000000 := by unfold fsz; omega
    rw [hC, hL]
    rw [h0] at hcall
    have HS2 := Lib.hid hsz2
    generalize hFL : p.fs.flatten = L
    have HFL := Lib.hid hFL
    clear h0 hC hL hl4 htot hsz2 hsf hFL
    go_enter Try.func27, Try.ntmps27
    go_wp2_with fail
    refine hcall.mono ?_
    rintro e w1 ⟨rfl, hq⟩
    have HQ := Lib.hid hq
    have HB1 := Lib.hid ((below_more (below_new (w := w) (.cells #[.slice A p.fs.length c, .int .i64 p.mark] 26)) (.cells #[.int .i64 0, .slice none 0 0] 31)).trans (hq.below.mono (by simp; omega)))
    have hg1 := (hq.below.block _ (by simp)).trans (heap_new (w.alloc (.cells #[.slice A p.fs.length c, .int .i64 p.mark] 26)) (.cells #[.int .i64 0, .slice none 0 0] 31) (g := w.heap.size + 1) (by simp))
    have HG1 := Lib.hid hg1
    have HR1 := Lib.hid (HF.out.qt hq)
    have HP1 := Lib.hid ((plbox_new w (.slice A p.fs.length c) p.mark (.cells #[.int .i64 0, .slice none 0 0] 31)).below hq.below (by simp; omega))
    clear hq hg1 hcall
    go_wp2_with fail
    refine (l6Rows_c w.heap.size p.mark A c p.fs _ fp HS2.out HP1.out HR1.out).mono ?_
    rintro e w2 ⟨v, fv, rfl, hrv, hnv, hfv, hb2, _⟩
    rw [HFL.out] at hrv
    have hz1 := heap_lt HG1.out
    have hg2 := (hb2.block _ hz1).trans HG1.out
    obtain ⟨y0, y1, z0, z1, z2⟩ := two_at hg2
    obtain ⟨A2, c2, rfl⟩ := hrv.rows_form
    have HX := Lib.hid (rres_stored (code := 0) (HB1.out.trans (hb2.mono HB1.out.size)) (Nat.le_succ _) hrv hnv (hfv.mono hz1))
    clear hrv hnv hfv hb2 hg2
    go_wp2_with fail
    exact bodyPost_ret (v := .agg #[.int .i64 0, .slice A2 L.length c2]) (by simp [results, Try.results27, go_sem, y0, y1]) rfl ⟨_, rfl, HX.out.1, HX.out.2⟩
  · have hL : riL p = [] := by unfold riL; rw [if_neg h0]
    have hC : riC p = placesF p := rfl
    rw [hC, hL]
    generalize placesF p = V at *
    have t1 : (V != 0) = true := by simpa using h0
    clear h0 hC hL hsf
    go_enter Try.func27, Try.ntmps27
    go_wp2_with fail
    refine hcall.mono ?_
    rintro e w1 ⟨rfl, hq⟩
    have HB1 := Lib.hid ((below_more (below_new (w := w) (.cells #[.slice A p.fs.length c, .int .i64 p.mark] 26)) (.cells #[.int .i64 0, .slice none 0 0] 31)).trans (hq.below.mono (by simp; omega)))
    have hg1 := (hq.below.block _ (by simp)).trans (heap_new (w.alloc (.cells #[.slice A p.fs.length c, .int .i64 p.mark] 26)) (.cells #[.int .i64 0, .slice none 0 0] 31) (g := w.heap.size + 1) (by simp))
    obtain ⟨y0, y1, z0, z1, z2⟩ := two_at hg1
    clear hq hg1 hcall
    go_wp2_with fail
    exact bodyPost_ret (v := .agg #[.int .i64 V, .slice none 0 0]) (by simp [results, Try.results27, go_sem, y0, y1]) rfl ⟨_, rfl, rres_nil _ _ _, HB1.out.trans ((But.two _ (w.heap.size + 1) 0 1 _ _).below HB1.out.size (by intro b hb; simp at hb; omega))⟩
end Go.Proofs.Ytoabohllphoioaa
