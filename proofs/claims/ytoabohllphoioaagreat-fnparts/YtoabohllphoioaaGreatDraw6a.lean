/-
  The model's draws of chapter 6, first part: places.
-/
import Derived.Test.YtoabohllphoioaaGreatG25
import Derived.Test.YtoabohllphoioaaGreatSpec6f
namespace Go.Proofs.YtoabohllphoioaaGreat
open Go.RowKit

theorem next_6 (w : World) (s : Nat) (zs : List Int) (a : Nat) (n : Int) (h : Src w s zs a) (ha : a < 1000000) (hn : 1 ≤ n) (hn2 : n ≤ 1000000) :
    Calls Tryz.prog 70 #[.pointer (some ⟨s, 0, none⟩), .int .i64 n] w fun e w' => ∃ v, e = .returned (.int .i64 v) ∧ 0 ≤ v ∧ v < n ∧ Drawn w s zs a 1 w' := by
  refine (l1Next_c w s zs a n h hn hn2).mono ?_
  rintro e w1 ⟨v, m, rfl, hv0, hv1, hw1⟩
  exact ⟨v, rfl, hv0, hv1, Drawn.of_next h ha hw1⟩
theorem pick_6 (w : World) (s : Nat) (zs : List Int) (a n : Nat) (xs : List Int) (h : Src w s zs a) (hn : n = w.heap.size) (ha : a < 1000000) (hx : 1 ≤ xs.length) (hx2 : xs.length ≤ 1000) :
    Calls Tryz.prog 34 #[.pointer (some ⟨s, 0, none⟩), .slice (some ⟨n, 0, none⟩) xs.length xs.length] (w.alloc (.cells (cellsOf .i64 xs).toArray 2)) fun e w' => ∃ v, e = .returned (.int .i64 v) ∧ v ∈ xs ∧ Drawn w s zs a 1 w' := by
  subst hn
  obtain ⟨fq, hr, _, hf⟩ := Rd.fresh (w := w) (w' := w.alloc (.cells (cellsOf .i64 xs).toArray 2)) (n := xs.length) (size := 1) (xs := cellsOf .i64 xs) (e := 2) (by unfold maxLen; omega) (by simp [cellsOf]) (heap_new _ _ rfl) (Nat.le_refl _)
  have hlt := h.lt
  have hfs : s ∉ fq := fun hm => by have := hf _ hm; omega
  have hd0 := (Drawn.start h).alloc (.cells (cellsOf .i64 xs).toArray 2)
  refine (l1Pick_c _ s zs a _ xs.length xs fq hd0.src ha hx hx2 hr hfs).mono ?_
  rintro e w1 ⟨v, rfl, hv, hd, _⟩
  exact ⟨v, rfl, hv, by have := hd0.trans hd; simpa using this⟩

/-- A drawn list of rows that are in range. -/
def DFitPost (w : World) (s : Nat) (zs : List Int) (a : Nat) (e : Ending) (w' : World) : Prop :=
  ∃ v fv rs d, e = .returned v ∧ Rd w' 4 v (rcs rs) fv ∧ From w.heap.size fv ∧ (∀ r ∈ rs, Fit r ∧ Mild r) ∧ rs.length ≤ 7 ∧ d ≤ 29 ∧ Drawn w s zs a d w'

set_option maxRecDepth 100000 in
set_option maxHeartbeats 4000000 in
theorem l2Draw_f (w : World) (s : Nat) (zs : List Int) (a : Nat) (h : Src w s zs a) (ha : a < 990000) :
    Calls Tryz.prog 93 #[.pointer (some ⟨s, 0, none⟩)] w (DFitPost w s zs a) := by
  have hlt := h.lt
  have HD := Lib.hid ((Drawn.start h).alloc (.cells #[] 32))
  have HO := Lib.hid (own_emptyR (w := w) (t := 32) (base := w.heap.size) (Nat.le_refl _))
  go_enter Tryz.func93, Tryz.ntmps93
  go_wp2_with fail
  refine (l1Next_c _ s zs _ 8 HD.out.src (by omega) (by omega)).mono ?_
  rintro e w1 ⟨v, m1, rfl, hv0, hv1, hw⟩
  have hd1 := Drawn.of_next HD.out.src (by omega) hw
  have ho1 := hd1.keeps4 HO.out hlt
  replace HD := Lib.hid (HD.out.trans hd1)
  replace HO := Lib.hid ho1
  clear hw hd1 ho1
  obtain ⟨k0, rfl⟩ : ∃ k0 : Nat, v = k0 := ⟨v.toNat, by omega⟩
  go_wp2_with fail
  go_loopw [3, 4] (fun v i wr => ∃ (k d n B : Nat) (acc : List R), k ≤ 7 ∧ i = .int .i64 k ∧ w.heap.size ≤ B ∧ acc.length ≤ 7 - k ∧ d ≤ 1 + 4 * (7 - k) ∧ Hid (wr.ownsRow B 32 4 v n (rcs acc)) ∧ Hid (∀ r ∈ acc, Fit r ∧ Mild r) ∧ Hid (Drawn w s zs a d wr)) (fun _ i _ => (intOf i).toNat)
  case atStart => exact ⟨k0, 1, 0, w.heap.size, [], by omega, rfl, Nat.le_refl _, by simp, by omega, HO, Lib.hid (by simp), HD⟩
  case round =>
    obtain ⟨k, d, n, B, acc, hk, rfl, hB, hl, hd, HOW, HM, HDR⟩ := hrel
    by_cases hlt : 0 < k
    · have hs1 := HDR.out.but.size
      go_wp2_with fail
      refine (l2DrawRow_c _ s zs _ HDR.out.src (by omega)).mono ?_
      rintro e w2 ⟨r, rfl, hfr, hmr, _, hd2⟩
      have ho2 := hd2.keeps4 HOW.out (by omega)
      obtain ⟨fv, hrv, hnv, hfv⟩ := Rd.of_own ho2
      obtain ⟨Av, cv, hv⟩ := hrv.rows_form
      subst hv
      have HD2 := Lib.hid (HDR.out.trans hd2)
      have HR2 := Lib.hid hrv
      have hs2 := hd2.but.size
      clear hd2 ho2 hrv hnv hfv
      go_wp2_with fail
      refine (l2Set_c Av cv acc r _ fv (by omega) (fits_iff.2 fun x hx => (HM.out x hx).1) hfr HR2.out).mono ?_
      rintro e w3 ⟨v3, f3, rfl, hr3, hn3, hf3, hb3, n3, B3, hB3, ho3⟩
      have HO3 := Lib.hid ho3
      have HD3 := Lib.hid (HD2.out.below hb3)
      have hl3 := setR_length acc r
      have hM3 : ∀ x ∈ setR acc r, Fit x ∧ Mild x := fun x hx => by
        rcases setR_mem hx with rfl | hx
        · exact ⟨hfr, hmr⟩
        · exact HM.out x hx
      have HM3 := Lib.hid hM3
      clear hr3 hn3 hf3 hb3 ho3 hM3
      go_wp2_with fail
      exact ⟨⟨k - 1, d + 4, n3, B3, setR acc r, by omega, by go_num, by omega, by omega, by omega, HO3, HM3, HD3⟩, by simp [intOf]; omega⟩
    · obtain rfl : k = 0 := by omega
      obtain ⟨fv, hrv, hnv, hfv⟩ := Rd.of_own HOW.out
      have HR2 := Lib.hid hrv
      clear hrv
      go_wp2_with fail
      go_ret
      exact ⟨_, fv, acc, d, rfl, HR2.out, hfv.mono hB, HM.out, by omega, by omega, HDR.out⟩
/-- Drawn places: four files of their own. -/
def DOfPost (w : World) (s : Nat) (zs : List Int) (a : Nat) (e : Ending) (w' : World) : Prop :=
  ∃ (rs : List R) (q : Int) (g B : Nat) (vs : List Value) (d : Nat), e = .returned (plv q (.slice (some ⟨g, 0, none⟩) 4 4)) ∧ w'.heap[g]? = some (.cells vs.toArray 24 (0, 0)) ∧ OwnF w' B vs (filesOf rs) 32 ∧ w.heap.size ≤ g ∧ g < B ∧
    (∀ r ∈ rs, Fit r ∧ Mild r) ∧ rs.length ≤ 7 ∧ (0 ≤ q ∧ q ≤ 999) ∧ d ≤ 30 ∧ Drawn w s zs a d w'

end Go.Proofs.YtoabohllphoioaaGreat
