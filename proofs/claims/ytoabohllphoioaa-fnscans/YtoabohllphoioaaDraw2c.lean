/-
  Contracts of the model's draws of chapter 2: lists of rows.
-/
import Derived.Test.YtoabohllphoioaaDraw2b
import Derived.Test.YtoabohllphoioaaApp
namespace Go.Proofs.Ytoabohllphoioaa
open Go.RowKit

theorem setGo_length (r : R) (rs : List R) : (setGo r false rs).length ≤ rs.length + 1 ∧ (setGo r true rs).length ≤ rs.length := by
  induction rs with
  | nil => simp [setGo]
  | cons x t ih =>
    unfold setGo
    by_cases h : keyR r ≤ keyR x <;> by_cases hk : keyR x = keyR r <;> simp [h, hk] <;> omega
theorem setGo_mem {r x : R} {rs : List R} {done : Bool} (h : x ∈ setGo r done rs) : x = r ∨ x ∈ rs := by
  induction rs generalizing done with
  | nil => unfold setGo at h; split at h <;> simp at h; exact .inl h
  | cons y t ih =>
    unfold setGo at h
    simp only [List.mem_append] at h
    rcases h with (h | h) | h
    · split at h <;> simp at h; exact .inl h
    · split at h <;> simp at h; simp [h]
    · rcases ih h with h | h
      · exact .inl h
      · simp [h]
theorem setR_length (rs : List R) (r : R) : (setR rs r).length ≤ rs.length + 1 := by
  unfold setR
  have := setGo_length r rs
  cases emptyB r <;> omega
theorem setR_mem {r x : R} {rs : List R} (h : x ∈ setR rs r) : x = r ∨ x ∈ rs := setGo_mem h

/-- What a drawn list of rows is: rows of its own, the source on by some places. -/
def DListPost (w : World) (s : Nat) (zs : List Int) (a : Nat) (most far : Nat) (e : Ending) (w' : World) : Prop :=
  ∃ v fv rs d n B, e = .returned v ∧ Rd w' 4 v (rcs rs) fv ∧ NF w' fv ∧ From w.heap.size fv ∧ w.heap.size ≤ B ∧ w'.ownsRow B 34 4 v n (rcs rs) ∧ (∀ r ∈ rs, Mild r) ∧ rs.length ≤ most ∧ d ≤ far ∧ Drawn w s zs a d w'

theorem Drawn.keeps4 {w w1 : World} {s : Nat} {zs : List Int} {a d base k : Nat} {e : TypeId} {v : Value} {xs : List Value} (h : Drawn w s zs a d w1) (ho : w.ownsRow base e 4 v k xs) (hs : s < base) : w1.ownsRow base e 4 v k xs := by
  refine ⟨ho.1, ?_⟩
  rcases ho.2 with h0 | ⟨g, cap, cur, h1, h2, h3, h4⟩
  · exact .inl h0
  · exact .inr ⟨g, cap, cur, h1, h2, h.but.heap h3 (by simp; omega), h4⟩

set_option maxRecDepth 100000 in
set_option maxHeartbeats 4000000 in
theorem l2Draw_c (w : World) (s : Nat) (zs : List Int) (a : Nat) (h : Src w s zs a) (ha : a < 990000) :
    Calls Try.prog 153 #[.pointer (some ⟨s, 0, none⟩)] w (DListPost w s zs a 7 29) := by
  have hlt := h.lt
  have HD := Lib.hid ((Drawn.start h).alloc (.cells #[] 34))
  have HO := Lib.hid (own_emptyR (w := w) (t := 34) (base := w.heap.size) (Nat.le_refl _))
  go_enter Try.func153, Try.ntmps153
  go_wp2_with fail
  refine (l1Next_c _ s zs _ 8 HD.out.src (by omega) (by omega)).mono ?_
  rintro e w1 ⟨v, m1, rfl, hv0, hv1, hw⟩
  have hd1 := Drawn.of_next HD.out.src (by omega) hw
  have ho1 := hd1.keeps4 HO.out hlt
  replace HD := Lib.hid (HD.out.trans hd1)
  replace HO := Lib.hid ho1
  clear hw hd1 ho1
  obtain ⟨k0, rfl⟩ : ∃ k0 : Nat, v = k0 := ⟨v.toNat, by omega⟩
  go_wp2_with fail
  go_loopw [3, 4] (fun v i wr => ∃ (k d n B : Nat) (acc : List R), k ≤ 7 ∧ i = .int .i64 k ∧ w.heap.size ≤ B ∧ acc.length ≤ 7 - k ∧ d ≤ 1 + 4 * (7 - k) ∧ Hid (wr.ownsRow B 34 4 v n (rcs acc)) ∧ Hid (∀ r ∈ acc, Fit r ∧ Mild r) ∧ Hid (Drawn w s zs a d wr)) (fun _ i _ => (intOf i).toNat)
  case atStart => exact ⟨k0, 1, 0, w.heap.size, [], by omega, rfl, Nat.le_refl _, by simp, by omega, HO, Lib.hid (by simp), HD⟩
  case round =>
    obtain ⟨k, d, n, B, acc, hk, rfl, hB, hl, hd, HOW, HM, HDR⟩ := hrel
    by_cases hlt : 0 < k
    · have hs1 := HDR.out.but.size
      go_wp2_with fail
      refine (l2DrawRow_c _ s zs _ HDR.out.src (by omega)).mono ?_
      rintro e w2 ⟨r, rfl, hfr, hmr, _, hd2⟩
      have ho2 := hd2.keeps4 HOW.out (by omega)
      obtain ⟨fv, hrv, hnv, hfv⟩ := Rd.of_own ho2
      obtain ⟨Av, cv, hv⟩ := hrv.rows_form
      subst hv
      have HD2 := Lib.hid (HDR.out.trans hd2)
      have HR2 := Lib.hid hrv
      have hs2 := hd2.but.size
      clear hd2 ho2 hrv hnv hfv
      go_wp2_with fail
      refine (l2Set_c Av cv acc r _ fv (by omega) (fits_iff.2 fun x hx => (HM.out x hx).1) hfr HR2.out).mono ?_
      rintro e w3 ⟨v3, f3, rfl, hr3, hn3, hf3, hb3, n3, B3, hB3, ho3⟩
      have HO3 := Lib.hid ho3
      have HD3 := Lib.hid (HD2.out.below hb3)
      have hl3 := setR_length acc r
      have hM3 : ∀ x ∈ setR acc r, Fit x ∧ Mild x := fun x hx => by
        rcases setR_mem hx with rfl | hx
        · exact ⟨hfr, hmr⟩
        · exact HM.out x hx
      have HM3 := Lib.hid hM3
      clear hr3 hn3 hf3 hb3 ho3 hM3
      go_wp2_with fail
      exact ⟨⟨k - 1, d + 4, n3, B3, setR acc r, by omega, by go_num, by omega, by omega, by omega, HO3, HM3, HD3⟩, by simp [intOf]; omega⟩
    · obtain rfl : k = 0 := by omega
      obtain ⟨fv, hrv, hnv, hfv⟩ := Rd.of_own HOW.out
      have HR2 := Lib.hid hrv
      clear hrv
      go_wp2_with fail
      go_ret
      exact ⟨_, fv, acc, d, n, B, rfl, HR2.out, hnv, hfv.mono hB, hB, HOW.out, fun x hx => (HM.out x hx).2, by omega, by omega, HDR.out⟩
end Go.Proofs.Ytoabohllphoioaa
