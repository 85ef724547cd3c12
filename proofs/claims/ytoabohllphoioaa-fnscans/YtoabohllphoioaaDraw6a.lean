/-
  The model's draws of chapter 6, first part: places.
-/
import Derived.Test.YtoabohllphoioaaG25
import Derived.Test.YtoabohllphoioaaSpec6f
namespace Go.Proofs.Ytoabohllphoioaa
open Go.RowKit

theorem next_6 (w : World) (s : Nat) (zs : List Int) (a : Nat) (n : Int) (h : Src w s zs a) (ha : a < 1000000) (hn : 1 ≤ n) (hn2 : n ≤ 1000000) :
    Calls Try.prog 123 #[.pointer (some ⟨s, 0, none⟩), .int .i64 n] w fun e w' => ∃ v, e = .returned (.int .i64 v) ∧ 0 ≤ v ∧ v < n ∧ Drawn w s zs a 1 w' := by
  refine (l1Next_c w s zs a n h hn hn2).mono ?_
  rintro e w1 ⟨v, m, rfl, hv0, hv1, hw1⟩
  exact ⟨v, rfl, hv0, hv1, Drawn.of_next h ha hw1⟩
theorem pick_6 (w : World) (s : Nat) (zs : List Int) (a n : Nat) (xs : List Int) (h : Src w s zs a) (hn : n = w.heap.size) (ha : a < 1000000) (hx : 1 ≤ xs.length) (hx2 : xs.length ≤ 1000) :
    Calls Try.prog 66 #[.pointer (some ⟨s, 0, none⟩), .slice (some ⟨n, 0, none⟩) xs.length xs.length] (w.alloc (.cells (cellsOf .i64 xs).toArray 2)) fun e w' => ∃ v, e = .returned (.int .i64 v) ∧ v ∈ xs ∧ Drawn w s zs a 1 w' := by
  subst hn
  obtain ⟨fq, hr, _, hf⟩ := Rd.fresh (w := w) (w' := w.alloc (.cells (cellsOf .i64 xs).toArray 2)) (n := xs.length) (size := 1) (xs := cellsOf .i64 xs) (e := 2) (by unfold maxLen; omega) (by simp [cellsOf]) (heap_new _ _ rfl) (Nat.le_refl _)
  have hlt := h.lt
  have hfs : s ∉ fq := fun hm => by have := hf _ hm; omega
  have hd0 := (Drawn.start h).alloc (.cells (cellsOf .i64 xs).toArray 2)
  refine (l1Pick_c _ s zs a _ xs.length xs fq hd0.src ha hx hx2 hr hfs).mono ?_
  rintro e w1 ⟨v, rfl, hv, hd, _⟩
  exact ⟨v, rfl, hv, by have := hd0.trans hd; simpa using this⟩

/-- A drawn list of rows that are in range. -/
def DFitPost (w : World) (s : Nat) (zs : List Int) (a : Nat) (e : Ending) (w' : World) : Prop :=
  ∃ v fv rs d, e = .returned v ∧ Rd w' 4 v (rcs rs) fv ∧ From w.heap.size fv ∧ (∀ r ∈ rs, Fit r ∧ Mild r) ∧ rs.length ≤ 7 ∧ d ≤ 29 ∧ Drawn w s zs a d w'

set_option maxRecDepth 100000 in
set_option maxHeartbeats 4000000 in
theorem l2Draw_f (w : World) (s : Nat) (zs : List Int) (a : Nat) (h : Src w s zs a) (ha : a < 990000) :
    Calls Try.prog 153 #[.pointer (some ⟨s, 0, none⟩)] w (DFitPost w s zs a) := by
  have hlt := h.lt
  have HD := Lib.hid ((Drawn.start h).alloc (.cells #[] 34))
  have HO := Lib.hid (own_emptyR (w := w) (t := 34) (base := w.heap.size) (Nat.le_refl _))
  go_enter Try.func153, Try.ntmps153
  go_wp2_with fail
  refine (l1Next_c _ s zs _ 8 HD.out.src (by omega) (by omega)).mono ?_
  rintro e w1 ⟨v, m1, rfl, hv0, hv1, hw⟩
  have hd1 := Drawn.of_next HD.out.src (by omega) hw
  have ho1 := hd1.keeps4 HO.out hlt
  replace HD := Lib.hid (HD.out.trans hd1)
  replace HO := Lib.hid ho1
  clear hw hd1 ho1
  obtain ⟨k0, rfl⟩ : ∃ k0 : Nat, v = k0 := ⟨v.toNat, by omega⟩
  go_wp2_with fail
  go_loopw [3, 4] (fun v i wr => ∃ (k d n B : Nat) (acc : List R), k ≤ 7 ∧ i = .int .i64 k ∧ w.heap.size ≤ B ∧ acc.length ≤ 7 - k ∧ d ≤ 1 + 4 * (7 - k) ∧ Hid (wr.ownsRow B 34 4 v n (rcs acc)) ∧ Hid (∀ r ∈ acc, Fit r ∧ Mild r) ∧ Hid (Drawn w s zs a d wr)) (fun _ i _ => (intOf i).toNat)
  case atStart => exact ⟨k0, 1, 0, w.heap.size, [], by omega, rfl, Nat.le_refl _, by simp, by omega, HO, Lib.hid (by simp), HD⟩
  case round =>
    obtain ⟨k, d, n, B, acc, hk, rfl, hB, hl, hd, HOW, HM, HDR⟩ := hrel
    by_cases hlt : 0 < k
    · have hs1 := HDR.out.but.size
      go_wp2_with fail
      refine (l2DrawRow_c _ s zs _ HDR.out.src (by omega)).mono ?_
      rintro e w2 ⟨r, rfl, hfr, hmr, _, hd2⟩
      have ho2 := hd2.keeps4 HOW.out (by omega)
      obtain ⟨fv, hrv, hnv, hfv⟩ := Rd.of_own ho2
      obtain ⟨Av, cv, hv⟩ := hrv.rows_form
      subst hv
      have HD2 := Lib.hid (HDR.out.trans hd2)
      have HR2 := Lib.hid hrv
      have hs2 := hd2.but.size
      clear hd2 ho2 hrv hnv hfv
      go_wp2_with fail
      refine (l2Set_c Av cv acc r _ fv (by omega) (fits_iff.2 fun x hx => (HM.out x hx).1) hfr HR2.out).mono ?_
      rintro e w3 ⟨v3, f3, rfl, hr3, hn3, hf3, hb3, n3, B3, hB3, ho3⟩
      have HO3 := Lib.hid ho3
      have HD3 := Lib.hid (HD2.out.below hb3)
      have hl3 := setR_length acc r
      have hM3 : ∀ x ∈ setR acc r, Fit x ∧ Mild x := fun x hx => by
        rcases setR_mem hx with rfl | hx
        · exact ⟨hfr, hmr⟩
        · exact HM.out x hx
      have HM3 := Lib.hid hM3
      clear hr3 hn3 hf3 hb3 ho3 hM3
      go_wp2_with fail
      exact ⟨⟨k - 1, d + 4, n3, B3, setR acc r, by omega, by go_num, by omega, by omega, by omega, HO3, HM3, HD3⟩, by simp [intOf]; omega⟩
    · obtain rfl : k = 0 := by omega
      obtain ⟨fv, hrv, hnv, hfv⟩ := Rd.of_own HOW.out
      have HR2 := Lib.hid hrv
      clear hrv
      go_wp2_with fail
      go_ret
      exact ⟨_, fv, acc, d, rfl, HR2.out, hfv.mono hB, HM.out, by omega, by omega, HDR.out⟩
/-- Drawn places: four files of their own. -/
def DOfPost (w : World) (s : Nat) (zs : List Int) (a : Nat) (e : Ending) (w' : World) : Prop :=
  ∃ (rs : List R) (q : Int) (g B : Nat) (vs : List Value) (d : Nat), e = .returned (plv q (.slice (some ⟨g, 0, none⟩) 4 4)) ∧ w'.heap[g]? = some (.cells vs.toArray 29 (0, 0)) ∧ OwnF w' B vs (filesOf rs) 34 ∧ w.heap.size ≤ g ∧ g < B ∧
    (∀ r ∈ rs, Fit r ∧ Mild r) ∧ rs.length ≤ 7 ∧ (0 ≤ q ∧ q ≤ 999) ∧ d ≤ 30 ∧ Drawn w s zs a d w'

set_option maxRecDepth 100000 in
set_option maxHeartbeats 4000000 in
theorem l6Draw_c (w : World) (s : Nat) (zs : List Int) (a : Nat) (h : Src w s zs a) (ha : a < 970000) :
    Calls Try.prog 122 #[.pointer (some ⟨s, 0, none⟩)] w (DOfPost w s zs a) := by
  have hls := h.lt
  have hd0 := (Drawn.start h).alloc (.cells #[.slice none 0 0, .int .i64 0] 26)
  have GB0 := Lib.hid (heap_new w (.cells #[.slice none 0 0, .int .i64 0] 26) rfl)
  have hz0 : w.heap.size + 1 = (w.alloc (.cells #[.slice none 0 0, .int .i64 0] 26)).heap.size := by simp
  have HD0 := Lib.hid hd0
  clear hd0 h
  go_enter Try.func122, Try.ntmps122
  go_wp2_with fail
  generalize w.alloc (.cells #[.slice none 0 0, .int .i64 0] 26) = w0 at *
  refine (l2Draw_f w0 s zs (a + 0) HD0.out.src (by omega)).mono ?_
  rintro e w1 ⟨v, fv, rs, d, rfl, hr, hf, hm, hl, hd, hdr⟩
  obtain ⟨A, c, rfl⟩ := hr.rows_form
  have hsz1 := hdr.but.size
  have hap : ∀ b ∈ fv, b ∉ [s] := fun b hb he => by have := hf b hb; simp at he; omega
  have HR := Lib.hid hr; have HM := Lib.hid hm; have HD := Lib.hid (HD0.out.trans hdr); have HAP := Lib.hid hap
  have GB1 := Lib.hid (hdr.but.heap GB0.out (by simp; omega))
  clear hr hf hm hdr hap HD0 GB0
  go_wp2_with fail
  refine (pick_6 w1 s zs (a + (0 + d)) w1.heap.size [0, 1, 998, 999] HD.out.src rfl (by omega) (by simp) (by simp)).mono ?_
  rintro e w2 ⟨q, rfl, hq, hd2⟩
  have hq' : 0 ≤ q ∧ q ≤ 999 := by simp at hq; omega
  have HR2 := Lib.hid (HR.out.but hd2.but HAP.out)
  have HD2 := Lib.hid (HD.out.trans hd2)
  have GB2 := Lib.hid (hd2.but.heap GB1.out (by simp; omega))
  have hsz2 := hd2.but.size
  clear hq hd2 GB1
  go_wp2_with fail
  refine (l6Of_o A c rs q w2 fv (by omega) (fits_iff.2 fun x hx => (HM.out x hx).1) HR2.out).mono ?_
  rintro e w3 ⟨g, B, vs, rfl, hg, ho, hgl, hgB, hb⟩
  have HX := Lib.hid (And.intro hg (And.intro ho (HD2.out.below hb)))
  have hg3 := (hb.block _ (heap_lt GB2.out)).trans GB2.out
  obtain ⟨y0, y1, z0, z1, yz⟩ := two_at hg3
  clear hg ho hb
  go_wp2_with fail
  refine bodyPost_ret (v := plv q (.slice (some ⟨g, 0, none⟩) 4 4)) (by simp [results, Try.results122, go_sem, y0, y1]) rfl ?_
  have hbut := ((But.refl [w.heap.size] w3).setCell (p := ⟨w.heap.size, 0, none⟩) (by simp) (.slice (some ⟨g, 0, none⟩) 4 4)).setCell (p := ⟨w.heap.size, 1, none⟩) (by simp) (.int .i64 q)
  refine ⟨rs, q, g, B, vs, _, rfl, hbut.heap HX.out.1 (by simp; omega), HX.out.2.1.kept fun v n xs h => ?_, by omega, hgB, HM.out, hl, hq', ?_, (HX.out.2.2.set ⟨Nat.le_refl _, hls⟩ _ _).set ⟨Nat.le_refl _, hls⟩ _ _⟩
  · refine h.kept (row := some w.heap.size) ⟨hbut.os, hbut.tape, hbut.output, hbut.size, fun x hx hne => hbut.block x hx (by simp; intro e; exact hne (by rw [e]))⟩ ?_
    cases hv : v.ownBlock with
    | none => exact .inl rfl
    | some g => exact .inr fun e => by have := own_base' h hv; injection e with e; omega
  · omega
end Go.Proofs.Ytoabohllphoioaa
