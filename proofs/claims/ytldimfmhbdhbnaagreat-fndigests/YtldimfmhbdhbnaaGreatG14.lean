/-
  Contracts of the model's l2Set.
-/
import Derived.Test.YtldimfmhbdhbnaaGreatG20
namespace Go.Proofs.YtldimfmhbdhbnaaGreat
open Go.RowKit

/-- What is still to be appended when a row is set among the rows that follow. -/
def setGo (r : R) : Bool → List R → List R
  | done, [] => if done then [] else [r]
  | done, x :: t => (if done = false ∧ keyR r ≤ keyR x then [r] else []) ++ (if keyR x ≠ keyR r then [x] else []) ++ setGo r (done || decide (keyR r ≤ keyR x)) t
theorem setGo_at (r : R) (done : Bool) (rs : List R) (k : Nat) (h : k < rs.length) : setGo r done (rs.drop k) = (if done = false ∧ keyR r ≤ keyR rs[k] then [r] else []) ++ (if keyR rs[k] ≠ keyR r then [rs[k]] else []) ++ setGo r (done || decide (keyR r ≤ keyR rs[k])) (rs.drop (k + 1)) := by
  rw [List.drop_eq_getElem_cons h]; rfl
theorem setGo_len (r : R) (done : Bool) (rs : List R) : (setGo r done rs).length ≤ 2 * rs.length + 1 := by
  induction rs generalizing done with
  | nil => unfold setGo; split <;> simp
  | cons x t ih =>
    unfold setGo
    have := ih (done || decide (keyR r ≤ keyR x))
    have e1 : (x :: t).length = t.length + 1 := rfl
    rw [List.length_append, List.length_append, e1]
    have h1 : (if done = false ∧ keyR r ≤ keyR x then [r] else []).length ≤ 1 := by split <;> simp
    have h2 : (if keyR x ≠ keyR r then [x] else []).length ≤ 1 := by split <;> simp
    omega

set_option maxRecDepth 100000 in
set_option maxHeartbeats 8000000 in
theorem l2Set_a (A : Option Addr) (c : Nat) (rs : List R) (r : R) (w : World) (fp : List Nat) (h1 : (r.2.2.1 == 0) = false) (hs : rs.length ≤ 1000000) (hfit : Fits rs) (hr : Fit r) (ha : Rd w 4 (.slice A rs.length c) (rcs rs) fp) :
    Calls Tryz.prog 67 #[.slice A rs.length c, rv r] w (RowsPost w (setGo r false rs)) := by
  have hlt0 := ha.lt
  have ha0 := ha.alloc (.cells #[.int .i64 r.1, .int .i64 r.2.1, .int .i64 r.2.2.1, .int .i64 r.2.2.2] 40)
  have HL := Lib.hid hlt0; clear hlt0
  have HFT := Lib.hid hfit; clear hfit
  obtain ⟨q0, q1, q2, q3⟩ := hr
  obtain ⟨i0, hi, hz, hsz, hby⟩ := infoRow
  generalize hT : setGo r false rs = T
  have hT0 : ([] : List R) ++ setGo r false (rs.drop 0) = T := by rw [← hT]; rfl
  have HT0 := Lib.hid hT0; clear hT hT0
  go_enter Tryz.func67, Tryz.ntmps67
  go_wp2
  go_loopw [5, 6, 7] (fun v dn i wr => ∃ (k n : Nat) (done : Bool) (acc : List R), k ≤ rs.length ∧ n ≤ 2 * k ∧ dn = .bool done ∧ i = .int .i64 k ∧ wr.ownsRow (w.heap.size + 1) 40 4 v n (rcs acc) ∧ Below (w.heap.size + 1) (w.alloc (.cells #[.int .i64 r.1, .int .i64 r.2.1, .int .i64 r.2.2.1, .int .i64 r.2.2.2] 40)) wr ∧ Hid (acc ++ setGo r done (rs.drop k) = T)) (fun _ _ i _ => rs.length - (intOf i).toNat)
  case atStart => exact ⟨0, 0, false, [], Nat.zero_le _, by omega, rfl, rfl, by have := own_emptyR (w := (w.alloc (.cells #[.int .i64 r.1, .int .i64 r.2.1, .int .i64 r.2.2.1, .int .i64 r.2.2.2] 40))) (t := 40) (base := w.heap.size + 1) (by simp); simpa [rcs] using this, (Below.refl _ _).alloc (by simp) _, HT0.out⟩
  case round =>
    obtain ⟨k, n, done, acc, hk, hn, rfl, rfl, hown, hbel, hacc⟩ := hrel
    by_cases hlt : k < rs.length
    · obtain ⟨b, off, hA, _, _, _, _, _, _⟩ := ha.row_at hlt
      subst hA
      obtain ⟨x0, x1, x2, x3⟩ := HFT.out k hlt
      have hac := hacc.out
      rw [setGo_at r done rs k hlt] at hac
      generalize hx : rs[k] = x at *
      have HX := Lib.hid hx; clear hx hacc
      have HO := Lib.hid hown; have HB := Lib.hid hbel
      have hnew := newest hbel (by omega)
      have c0 : wr.cell? ⟨w.heap.size, 0, none⟩ = some (.int .i64 r.1) := cell_of_heap hnew
      have c1 : wr.cell? ⟨w.heap.size, 1, none⟩ = some (.int .i64 r.2.1) := cell_of_heap hnew
      have c2 : wr.cell? ⟨w.heap.size, 2, none⟩ = some (.int .i64 r.2.2.1) := cell_of_heap hnew
      have c3 : wr.cell? ⟨w.heap.size, 3, none⟩ = some (.int .i64 r.2.2.2) := cell_of_heap hnew
      have HRR : Hid (RowAt wr w.heap.size 0 r) := ⟨c0, c1, c2, c3⟩
      have hz0 := heap_lt hnew
      clear hnew
      have HRX : Hid (RowAt wr b (off + k * 4) x) := by have := RowAt.of_rd (ha0.below hbel (fun b' hb' => by have := HL.out b' hb'; omega)) hlt; rw [HX.out] at this; exact this
      obtain ⟨p0, p1, p2, p3⟩ := HRX.out
      clear hown hbel
      cases done
      · have HE0 := Lib.hid hac; clear hac
        go_wp2_with fail
        refine (l2Key_c b (off + k * 4) x _ HRX.out x0 x1 x2 x3).mono ?_
        rintro e w1 ⟨rfl, m1, hw1⟩
        have ho1 : w1.ownsRow (w.heap.size + 1) 40 4 u5 (n) (rcs (acc)) := by rw [hw1]; exact HO.out
        have hb1 : Below (w.heap.size + 1) (w.alloc (.cells #[.int .i64 r.1, .int .i64 r.2.1, .int .i64 r.2.2.1, .int .i64 r.2.2.2] 40)) w1 := by rw [hw1]; exact below_drewN' HB.out m1
        have HO1 := Lib.hid ho1; have HB1 := Lib.hid hb1; clear hw1
        clear c0 c1 c2 c3 HRR hz0 HRX p0 p1 p2 p3
        have hnew := newest hb1 (by omega)
        have c0 : w1.cell? ⟨w.heap.size, 0, none⟩ = some (.int .i64 r.1) := cell_of_heap hnew
        have c1 : w1.cell? ⟨w.heap.size, 1, none⟩ = some (.int .i64 r.2.1) := cell_of_heap hnew
        have c2 : w1.cell? ⟨w.heap.size, 2, none⟩ = some (.int .i64 r.2.2.1) := cell_of_heap hnew
        have c3 : w1.cell? ⟨w.heap.size, 3, none⟩ = some (.int .i64 r.2.2.2) := cell_of_heap hnew
        have HRR : Hid (RowAt w1 w.heap.size 0 r) := ⟨c0, c1, c2, c3⟩
        have hz0 := heap_lt hnew
        clear hnew
        have HRX : Hid (RowAt w1 b (off + k * 4) x) := by have := RowAt.of_rd (ha0.below hb1 (fun b' hb' => by have := HL.out b' hb'; omega)) hlt; rw [HX.out] at this; exact this
        obtain ⟨p0, p1, p2, p3⟩ := HRX.out
        clear ho1 hb1 HO HB
        go_wp2_with fail
        refine (l2Key_c w.heap.size 0 r _ HRR.out q0 q1 q2 q3).mono ?_
        rintro e w2 ⟨rfl, m2, hw2⟩
        have ho2 : w2.ownsRow (w.heap.size + 1) 40 4 u5 (n) (rcs (acc)) := by rw [hw2]; exact HO1.out
        have hb2 : Below (w.heap.size + 1) (w.alloc (.cells #[.int .i64 r.1, .int .i64 r.2.1, .int .i64 r.2.2.1, .int .i64 r.2.2.2] 40)) w2 := by rw [hw2]; exact below_drewN' HB1.out m2
        have HO2 := Lib.hid ho2; have HB2 := Lib.hid hb2; clear hw2
        clear c0 c1 c2 c3 HRR hz0 HRX p0 p1 p2 p3
        have hnew := newest hb2 (by omega)
        have c0 : w2.cell? ⟨w.heap.size, 0, none⟩ = some (.int .i64 r.1) := cell_of_heap hnew
        have c1 : w2.cell? ⟨w.heap.size, 1, none⟩ = some (.int .i64 r.2.1) := cell_of_heap hnew
        have c2 : w2.cell? ⟨w.heap.size, 2, none⟩ = some (.int .i64 r.2.2.1) := cell_of_heap hnew
        have c3 : w2.cell? ⟨w.heap.size, 3, none⟩ = some (.int .i64 r.2.2.2) := cell_of_heap hnew
        have HRR : Hid (RowAt w2 w.heap.size 0 r) := ⟨c0, c1, c2, c3⟩
        have hz0 := heap_lt hnew
        clear hnew
        have HRX : Hid (RowAt w2 b (off + k * 4) x) := by have := RowAt.of_rd (ha0.below hb2 (fun b' hb' => by have := HL.out b' hb'; omega)) hlt; rw [HX.out] at this; exact this
        obtain ⟨p0, p1, p2, p3⟩ := HRX.out
        clear ho2 hb2 HO1 HB1
        by_cases hcm : keyR r ≤ keyR x
        · have hdc : decide (keyR r ≤ keyR x) = true := by simp [hcm]
          have he := HE0.out
          rw [if_pos (by simp [hcm]), hdc] at he
          have hE : acc ++ [r] ++ ((if keyR x ≠ keyR r then [x] else []) ++ setGo r true (rs.drop (k + 1))) = T := by rw [← he]; simp
          have HE := Lib.hid hE; clear hE he HE0 hdc
          have hs3 := HB2.out.size
          simp only [World.size_alloc] at hs3
          have hrow3 : ∀ g, u5.ownBlock = some g → w.heap.size + 1 ≤ g := fun g hg => own_base' HO2.out hg
          have HRW3 := Lib.hid hrow3; clear hrow3
          have HOa3 := Lib.hid (World.ownsRow.alloc HO2.out (.cells #[.int .i64 r.1, .int .i64 r.2.1, .int .i64 r.2.2.1, .int .i64 r.2.2.2] 40))
          have HBa3 := Lib.hid (HB2.out.alloc hs3 (.cells #[.int .i64 r.1, .int .i64 r.2.1, .int .i64 r.2.2.1, .int .i64 r.2.2.2] 40))
          go_wp2_with (at_builtin; refine wpList_append_own _ rfl _ _ 24 rfl (w.heap.size + 1) 40 i0 (rv (0, 0, 0, 0)) 4 32 Tryz.underlying24 hi hz hsz hby rfl (by decide) _ _ _ rfl HOa3.out ⟨w2.heap.size, 0, none⟩ 1 1 (rc r) rfl rfl ?c1_3 ?c2_3 ?c3_3 ?c4_3 ?c5_3 ?_)
          case c1_3 => exact rc_new (w := w2) r
          case c2_3 => exact rc_one r
          case c3_3 => unfold maxLen; omega
          case c4_3 => omega
          case c5_3 => simp; omega
          intro v3 w3 hown3 hgrow3 _
          have hb3 := HBa3.out.grown hgrow3 (by simp; omega) HRW3.out
          have ho3 : w3.ownsRow (w.heap.size + 1) 40 4 v3 (n + 1) (rcs (acc ++ [r])) := by rw [rcs_append]; exact hown3
          have HO3 := Lib.hid ho3; have HB3 := Lib.hid hb3
          clear hown3 hgrow3 HOa3 HBa3 hs3 HRW3
          clear c0 c1 c2 c3 HRR hz0 HRX p0 p1 p2 p3
          have hnew := newest hb3 (by omega)
          have c0 : w3.cell? ⟨w.heap.size, 0, none⟩ = some (.int .i64 r.1) := cell_of_heap hnew
          have c1 : w3.cell? ⟨w.heap.size, 1, none⟩ = some (.int .i64 r.2.1) := cell_of_heap hnew
          have c2 : w3.cell? ⟨w.heap.size, 2, none⟩ = some (.int .i64 r.2.2.1) := cell_of_heap hnew
          have c3 : w3.cell? ⟨w.heap.size, 3, none⟩ = some (.int .i64 r.2.2.2) := cell_of_heap hnew
          have HRR : Hid (RowAt w3 w.heap.size 0 r) := ⟨c0, c1, c2, c3⟩
          have hz0 := heap_lt hnew
          clear hnew
          have HRX : Hid (RowAt w3 b (off + k * 4) x) := by have := RowAt.of_rd (ha0.below hb3 (fun b' hb' => by have := HL.out b' hb'; omega)) hlt; rw [HX.out] at this; exact this
          obtain ⟨p0, p1, p2, p3⟩ := HRX.out
          clear ho3 hb3 HO2 HB2
          go_wp2_with fail
          refine (l2Key_c b (off + k * 4) x _ HRX.out x0 x1 x2 x3).mono ?_
          rintro e w4 ⟨rfl, m4, hw4⟩
          have ho4 : w4.ownsRow (w.heap.size + 1) 40 4 v3 (n + 1) (rcs ((acc ++ [r]))) := by rw [hw4]; exact HO3.out
          have hb4 : Below (w.heap.size + 1) (w.alloc (.cells #[.int .i64 r.1, .int .i64 r.2.1, .int .i64 r.2.2.1, .int .i64 r.2.2.2] 40)) w4 := by rw [hw4]; exact below_drewN' HB3.out m4
          have HO4 := Lib.hid ho4; have HB4 := Lib.hid hb4; clear hw4
          clear c0 c1 c2 c3 HRR hz0 HRX p0 p1 p2 p3
          have hnew := newest hb4 (by omega)
          have c0 : w4.cell? ⟨w.heap.size, 0, none⟩ = some (.int .i64 r.1) := cell_of_heap hnew
          have c1 : w4.cell? ⟨w.heap.size, 1, none⟩ = some (.int .i64 r.2.1) := cell_of_heap hnew
          have c2 : w4.cell? ⟨w.heap.size, 2, none⟩ = some (.int .i64 r.2.2.1) := cell_of_heap hnew
          have c3 : w4.cell? ⟨w.heap.size, 3, none⟩ = some (.int .i64 r.2.2.2) := cell_of_heap hnew
          have HRR : Hid (RowAt w4 w.heap.size 0 r) := ⟨c0, c1, c2, c3⟩
          have hz0 := heap_lt hnew
          clear hnew
          have HRX : Hid (RowAt w4 b (off + k * 4) x) := by have := RowAt.of_rd (ha0.below hb4 (fun b' hb' => by have := HL.out b' hb'; omega)) hlt; rw [HX.out] at this; exact this
          obtain ⟨p0, p1, p2, p3⟩ := HRX.out
          clear ho4 hb4 HO3 HB3
          go_wp2_with fail
          refine (l2Key_c w.heap.size 0 r _ HRR.out q0 q1 q2 q3).mono ?_
          rintro e w5 ⟨rfl, m5, hw5⟩
          have ho5 : w5.ownsRow (w.heap.size + 1) 40 4 v3 (n + 1) (rcs ((acc ++ [r]))) := by rw [hw5]; exact HO4.out
          have hb5 : Below (w.heap.size + 1) (w.alloc (.cells #[.int .i64 r.1, .int .i64 r.2.1, .int .i64 r.2.2.1, .int .i64 r.2.2.2] 40)) w5 := by rw [hw5]; exact below_drewN' HB4.out m5
          have HO5 := Lib.hid ho5; have HB5 := Lib.hid hb5; clear hw5
          clear c0 c1 c2 c3 HRR hz0 HRX p0 p1 p2 p3
          have hnew := newest hb5 (by omega)
          have c0 : w5.cell? ⟨w.heap.size, 0, none⟩ = some (.int .i64 r.1) := cell_of_heap hnew
          have c1 : w5.cell? ⟨w.heap.size, 1, none⟩ = some (.int .i64 r.2.1) := cell_of_heap hnew
          have c2 : w5.cell? ⟨w.heap.size, 2, none⟩ = some (.int .i64 r.2.2.1) := cell_of_heap hnew
          have c3 : w5.cell? ⟨w.heap.size, 3, none⟩ = some (.int .i64 r.2.2.2) := cell_of_heap hnew
          have HRR : Hid (RowAt w5 w.heap.size 0 r) := ⟨c0, c1, c2, c3⟩
          have hz0 := heap_lt hnew
          clear hnew
          have HRX : Hid (RowAt w5 b (off + k * 4) x) := by have := RowAt.of_rd (ha0.below hb5 (fun b' hb' => by have := HL.out b' hb'; omega)) hlt; rw [HX.out] at this; exact this
          obtain ⟨p0, p1, p2, p3⟩ := HRX.out
          clear ho5 hb5 HO4 HB4
          by_cases hke : keyR x = keyR r
          · have hkb : (keyR x != keyR r) = false := by simp [hke]
            have hf := HE.out
            rw [if_neg (by simpa using hke)] at hf
            have hF : (acc ++ [r]) ++ setGo r true (rs.drop (k + 1)) = T := by rw [← hf]; simp
            have HF := Lib.hid hF; clear hF hf HE hke
            go_wp2_with fail
            exact ⟨⟨k + 1, n + 1, true, (acc ++ [r]), by omega, by omega, rfl, by go_num, HO5.out, HB5.out, HF.out⟩, by simp [intOf]; omega⟩
          · have hkb : (keyR x != keyR r) = true := by simp [hke]
            have hf := HE.out
            rw [if_pos (by simpa using hke)] at hf
            have hF : (acc ++ [r]) ++ [x] ++ setGo r true (rs.drop (k + 1)) = T := by rw [← hf]; simp
            have HF := Lib.hid hF; clear hF hf HE hke
            have hs6 := HB5.out.size
            simp only [World.size_alloc] at hs6
            have hrow6 : ∀ g, v3.ownBlock = some g → w.heap.size + 1 ≤ g := fun g hg => own_base' HO5.out hg
            have HRW6 := Lib.hid hrow6; clear hrow6
            have HOa6 := Lib.hid (World.ownsRow.alloc HO5.out (.cells #[.int .i64 x.1, .int .i64 x.2.1, .int .i64 x.2.2.1, .int .i64 x.2.2.2] 40))
            have HBa6 := Lib.hid (HB5.out.alloc hs6 (.cells #[.int .i64 x.1, .int .i64 x.2.1, .int .i64 x.2.2.1, .int .i64 x.2.2.2] 40))
            go_wp2_with (at_builtin; refine wpList_append_own _ rfl _ _ 24 rfl (w.heap.size + 1) 40 i0 (rv (0, 0, 0, 0)) 4 32 Tryz.underlying24 hi hz hsz hby rfl (by decide) _ _ _ rfl HOa6.out ⟨w5.heap.size, 0, none⟩ 1 1 (rc x) rfl rfl ?c1_6 ?c2_6 ?c3_6 ?c4_6 ?c5_6 ?_)
            case c1_6 => exact rc_new (w := w5) x
            case c2_6 => exact rc_one x
            case c3_6 => unfold maxLen; omega
            case c4_6 => omega
            case c5_6 => simp; omega
            intro v6 w6 hown6 hgrow6 _
            have hb6 := HBa6.out.grown hgrow6 (by simp; omega) HRW6.out
            have ho6 : w6.ownsRow (w.heap.size + 1) 40 4 v6 (n + 1 + 1) (rcs ((acc ++ [r]) ++ [x])) := by rw [rcs_append]; exact hown6
            have HO6 := Lib.hid ho6; have HB6 := Lib.hid hb6
            clear hown6 hgrow6 HOa6 HBa6 hs6 HRW6
            clear c0 c1 c2 c3 HRR hz0 HRX p0 p1 p2 p3
            have hnew := newest hb6 (by omega)
            have c0 : w6.cell? ⟨w.heap.size, 0, none⟩ = some (.int .i64 r.1) := cell_of_heap hnew
            have c1 : w6.cell? ⟨w.heap.size, 1, none⟩ = some (.int .i64 r.2.1) := cell_of_heap hnew
            have c2 : w6.cell? ⟨w.heap.size, 2, none⟩ = some (.int .i64 r.2.2.1) := cell_of_heap hnew
            have c3 : w6.cell? ⟨w.heap.size, 3, none⟩ = some (.int .i64 r.2.2.2) := cell_of_heap hnew
            have HRR : Hid (RowAt w6 w.heap.size 0 r) := ⟨c0, c1, c2, c3⟩
            have hz0 := heap_lt hnew
            clear hnew
            have HRX : Hid (RowAt w6 b (off + k * 4) x) := by have := RowAt.of_rd (ha0.below hb6 (fun b' hb' => by have := HL.out b' hb'; omega)) hlt; rw [HX.out] at this; exact this
            obtain ⟨p0, p1, p2, p3⟩ := HRX.out
            clear ho6 hb6 HO5 HB5
            go_wp2_with fail
            exact ⟨⟨k + 1, n + 1 + 1, true, ((acc ++ [r]) ++ [x]), by omega, by omega, rfl, by go_num, HO6.out, HB6.out, HF.out⟩, by simp [intOf]; omega⟩
        · have hdc : decide (keyR r ≤ keyR x) = false := by simp [hcm]
          have he := HE0.out
          rw [if_neg (by simp [hcm]), hdc] at he
          have hE : acc ++ ((if keyR x ≠ keyR r then [x] else []) ++ setGo r false (rs.drop (k + 1))) = T := by rw [← he]; simp
          have HE := Lib.hid hE; clear hE he HE0 hdc
          go_wp2_with fail
          refine (l2Key_c b (off + k * 4) x _ HRX.out x0 x1 x2 x3).mono ?_
          rintro e w7 ⟨rfl, m7, hw7⟩
          have ho7 : w7.ownsRow (w.heap.size + 1) 40 4 u5 (n) (rcs (acc)) := by rw [hw7]; exact HO2.out
          have hb7 : Below (w.heap.size + 1) (w.alloc (.cells #[.int .i64 r.1, .int .i64 r.2.1, .int .i64 r.2.2.1, .int .i64 r.2.2.2] 40)) w7 := by rw [hw7]; exact below_drewN' HB2.out m7
          have HO7 := Lib.hid ho7; have HB7 := Lib.hid hb7; clear hw7
          clear c0 c1 c2 c3 HRR hz0 HRX p0 p1 p2 p3
          have hnew := newest hb7 (by omega)
          have c0 : w7.cell? ⟨w.heap.size, 0, none⟩ = some (.int .i64 r.1) := cell_of_heap hnew
          have c1 : w7.cell? ⟨w.heap.size, 1, none⟩ = some (.int .i64 r.2.1) := cell_of_heap hnew
          have c2 : w7.cell? ⟨w.heap.size, 2, none⟩ = some (.int .i64 r.2.2.1) := cell_of_heap hnew
          have c3 : w7.cell? ⟨w.heap.size, 3, none⟩ = some (.int .i64 r.2.2.2) := cell_of_heap hnew
          have HRR : Hid (RowAt w7 w.heap.size 0 r) := ⟨c0, c1, c2, c3⟩
          have hz0 := heap_lt hnew
          clear hnew
          have HRX : Hid (RowAt w7 b (off + k * 4) x) := by have := RowAt.of_rd (ha0.below hb7 (fun b' hb' => by have := HL.out b' hb'; omega)) hlt; rw [HX.out] at this; exact this
          obtain ⟨p0, p1, p2, p3⟩ := HRX.out
          clear ho7 hb7 HO2 HB2
          go_wp2_with fail
          refine (l2Key_c w.heap.size 0 r _ HRR.out q0 q1 q2 q3).mono ?_
          rintro e w8 ⟨rfl, m8, hw8⟩
          have ho8 : w8.ownsRow (w.heap.size + 1) 40 4 u5 (n) (rcs (acc)) := by rw [hw8]; exact HO7.out
          have hb8 : Below (w.heap.size + 1) (w.alloc (.cells #[.int .i64 r.1, .int .i64 r.2.1, .int .i64 r.2.2.1, .int .i64 r.2.2.2] 40)) w8 := by rw [hw8]; exact below_drewN' HB7.out m8
          have HO8 := Lib.hid ho8; have HB8 := Lib.hid hb8; clear hw8
          clear c0 c1 c2 c3 HRR hz0 HRX p0 p1 p2 p3
          have hnew := newest hb8 (by omega)
          have c0 : w8.cell? ⟨w.heap.size, 0, none⟩ = some (.int .i64 r.1) := cell_of_heap hnew
          have c1 : w8.cell? ⟨w.heap.size, 1, none⟩ = some (.int .i64 r.2.1) := cell_of_heap hnew
          have c2 : w8.cell? ⟨w.heap.size, 2, none⟩ = some (.int .i64 r.2.2.1) := cell_of_heap hnew
          have c3 : w8.cell? ⟨w.heap.size, 3, none⟩ = some (.int .i64 r.2.2.2) := cell_of_heap hnew
          have HRR : Hid (RowAt w8 w.heap.size 0 r) := ⟨c0, c1, c2, c3⟩
          have hz0 := heap_lt hnew
          clear hnew
          have HRX : Hid (RowAt w8 b (off + k * 4) x) := by have := RowAt.of_rd (ha0.below hb8 (fun b' hb' => by have := HL.out b' hb'; omega)) hlt; rw [HX.out] at this; exact this
          obtain ⟨p0, p1, p2, p3⟩ := HRX.out
          clear ho8 hb8 HO7 HB7
          by_cases hke : keyR x = keyR r
          · have hkb : (keyR x != keyR r) = false := by simp [hke]
            have hf := HE.out
            rw [if_neg (by simpa using hke)] at hf
            have hF : acc ++ setGo r false (rs.drop (k + 1)) = T := by rw [← hf]; simp
            have HF := Lib.hid hF; clear hF hf HE hke
            go_wp2_with fail
            exact ⟨⟨k + 1, n, false, acc, by omega, by omega, rfl, by go_num, HO8.out, HB8.out, HF.out⟩, by simp [intOf]; omega⟩
          · have hkb : (keyR x != keyR r) = true := by simp [hke]
            have hf := HE.out
            rw [if_pos (by simpa using hke)] at hf
            have hF : acc ++ [x] ++ setGo r false (rs.drop (k + 1)) = T := by rw [← hf]; simp
            have HF := Lib.hid hF; clear hF hf HE hke
            have hs9 := HB8.out.size
            simp only [World.size_alloc] at hs9
            have hrow9 : ∀ g, u5.ownBlock = some g → w.heap.size + 1 ≤ g := fun g hg => own_base' HO8.out hg
            have HRW9 := Lib.hid hrow9; clear hrow9
            have HOa9 := Lib.hid (World.ownsRow.alloc HO8.out (.cells #[.int .i64 x.1, .int .i64 x.2.1, .int .i64 x.2.2.1, .int .i64 x.2.2.2] 40))
            have HBa9 := Lib.hid (HB8.out.alloc hs9 (.cells #[.int .i64 x.1, .int .i64 x.2.1, .int .i64 x.2.2.1, .int .i64 x.2.2.2] 40))
            go_wp2_with (at_builtin; refine wpList_append_own _ rfl _ _ 24 rfl (w.heap.size + 1) 40 i0 (rv (0, 0, 0, 0)) 4 32 Tryz.underlying24 hi hz hsz hby rfl (by decide) _ _ _ rfl HOa9.out ⟨w8.heap.size, 0, none⟩ 1 1 (rc x) rfl rfl ?c1_9 ?c2_9 ?c3_9 ?c4_9 ?c5_9 ?_)
            case c1_9 => exact rc_new (w := w8) x
            case c2_9 => exact rc_one x
            case c3_9 => unfold maxLen; omega
            case c4_9 => omega
            case c5_9 => simp; omega
            intro v9 w9 hown9 hgrow9 _
            have hb9 := HBa9.out.grown hgrow9 (by simp; omega) HRW9.out
            have ho9 : w9.ownsRow (w.heap.size + 1) 40 4 v9 (n + 1) (rcs (acc ++ [x])) := by rw [rcs_append]; exact hown9
            have HO9 := Lib.hid ho9; have HB9 := Lib.hid hb9
            clear hown9 hgrow9 HOa9 HBa9 hs9 HRW9
            clear c0 c1 c2 c3 HRR hz0 HRX p0 p1 p2 p3
            have hnew := newest hb9 (by omega)
            have c0 : w9.cell? ⟨w.heap.size, 0, none⟩ = some (.int .i64 r.1) := cell_of_heap hnew
            have c1 : w9.cell? ⟨w.heap.size, 1, none⟩ = some (.int .i64 r.2.1) := cell_of_heap hnew
            have c2 : w9.cell? ⟨w.heap.size, 2, none⟩ = some (.int .i64 r.2.2.1) := cell_of_heap hnew
            have c3 : w9.cell? ⟨w.heap.size, 3, none⟩ = some (.int .i64 r.2.2.2) := cell_of_heap hnew
            have HRR : Hid (RowAt w9 w.heap.size 0 r) := ⟨c0, c1, c2, c3⟩
            have hz0 := heap_lt hnew
            clear hnew
            have HRX : Hid (RowAt w9 b (off + k * 4) x) := by have := RowAt.of_rd (ha0.below hb9 (fun b' hb' => by have := HL.out b' hb'; omega)) hlt; rw [HX.out] at this; exact this
            obtain ⟨p0, p1, p2, p3⟩ := HRX.out
            clear ho9 hb9 HO8 HB8
            go_wp2_with fail
            exact ⟨⟨k + 1, n + 1, false, (acc ++ [x]), by omega, by omega, rfl, by go_num, HO9.out, HB9.out, HF.out⟩, by simp [intOf]; omega⟩
      · have he := hac
        rw [if_neg (by simp), Bool.true_or] at he
        have hE : acc ++ ((if keyR x ≠ keyR r then [x] else []) ++ setGo r true (rs.drop (k + 1))) = T := by rw [← he]; simp
        have HE := Lib.hid hE; clear hE he hac
        go_wp2_with fail
        refine (l2Key_c b (off + k * 4) x _ HRX.out x0 x1 x2 x3).mono ?_
        rintro e w10 ⟨rfl, m10, hw10⟩
        have ho10 : w10.ownsRow (w.heap.size + 1) 40 4 u5 (n) (rcs (acc)) := by rw [hw10]; exact HO.out
        have hb10 : Below (w.heap.size + 1) (w.alloc (.cells #[.int .i64 r.1, .int .i64 r.2.1, .int .i64 r.2.2.1, .int .i64 r.2.2.2] 40)) w10 := by rw [hw10]; exact below_drewN' HB.out m10
        have HO10 := Lib.hid ho10; have HB10 := Lib.hid hb10; clear hw10
        clear c0 c1 c2 c3 HRR hz0 HRX p0 p1 p2 p3
        have hnew := newest hb10 (by omega)
        have c0 : w10.cell? ⟨w.heap.size, 0, none⟩ = some (.int .i64 r.1) := cell_of_heap hnew
        have c1 : w10.cell? ⟨w.heap.size, 1, none⟩ = some (.int .i64 r.2.1) := cell_of_heap hnew
        have c2 : w10.cell? ⟨w.heap.size, 2, none⟩ = some (.int .i64 r.2.2.1) := cell_of_heap hnew
        have c3 : w10.cell? ⟨w.heap.size, 3, none⟩ = some (.int .i64 r.2.2.2) := cell_of_heap hnew
        have HRR : Hid (RowAt w10 w.heap.size 0 r) := ⟨c0, c1, c2, c3⟩
        have hz0 := heap_lt hnew
        clear hnew
        have HRX : Hid (RowAt w10 b (off + k * 4) x) := by have := RowAt.of_rd (ha0.below hb10 (fun b' hb' => by have := HL.out b' hb'; omega)) hlt; rw [HX.out] at this; exact this
        obtain ⟨p0, p1, p2, p3⟩ := HRX.out
        clear ho10 hb10 HO HB
        go_wp2_with fail
        refine (l2Key_c w.heap.size 0 r _ HRR.out q0 q1 q2 q3).mono ?_
        rintro e w11 ⟨rfl, m11, hw11⟩
        have ho11 : w11.ownsRow (w.heap.size + 1) 40 4 u5 (n) (rcs (acc)) := by rw [hw11]; exact HO10.out
        have hb11 : Below (w.heap.size + 1) (w.alloc (.cells #[.int .i64 r.1, .int .i64 r.2.1, .int .i64 r.2.2.1, .int .i64 r.2.2.2] 40)) w11 := by rw [hw11]; exact below_drewN' HB10.out m11
        have HO11 := Lib.hid ho11; have HB11 := Lib.hid hb11; clear hw11
        clear c0 c1 c2 c3 HRR hz0 HRX p0 p1 p2 p3
        have hnew := newest hb11 (by omega)
        have c0 : w11.cell? ⟨w.heap.size, 0, none⟩ = some (.int .i64 r.1) := cell_of_heap hnew
        have c1 : w11.cell? ⟨w.heap.size, 1, none⟩ = some (.int .i64 r.2.1) := cell_of_heap hnew
        have c2 : w11.cell? ⟨w.heap.size, 2, none⟩ = some (.int .i64 r.2.2.1) := cell_of_heap hnew
        have c3 : w11.cell? ⟨w.heap.size, 3, none⟩ = some (.int .i64 r.2.2.2) := cell_of_heap hnew
        have HRR : Hid (RowAt w11 w.heap.size 0 r) := ⟨c0, c1, c2, c3⟩
        have hz0 := heap_lt hnew
        clear hnew
        have HRX : Hid (RowAt w11 b (off + k * 4) x) := by have := RowAt.of_rd (ha0.below hb11 (fun b' hb' => by have := HL.out b' hb'; omega)) hlt; rw [HX.out] at this; exact this
        obtain ⟨p0, p1, p2, p3⟩ := HRX.out
        clear ho11 hb11 HO10 HB10
        by_cases hke : keyR x = keyR r
        · have hkb : (keyR x != keyR r) = false := by simp [hke]
          have hf := HE.out
          rw [if_neg (by simpa using hke)] at hf
          have hF : acc ++ setGo r true (rs.drop (k + 1)) = T := by rw [← hf]; simp
          have HF := Lib.hid hF; clear hF hf HE hke
          go_wp2_with fail
          exact ⟨⟨k + 1, n, true, acc, by omega, by omega, rfl, by go_num, HO11.out, HB11.out, HF.out⟩, by simp [intOf]; omega⟩
        · have hkb : (keyR x != keyR r) = true := by simp [hke]
          have hf := HE.out
          rw [if_pos (by simpa using hke)] at hf
          have hF : acc ++ [x] ++ setGo r true (rs.drop (k + 1)) = T := by rw [← hf]; simp
          have HF := Lib.hid hF; clear hF hf HE hke
          have hs12 := HB11.out.size
          simp only [World.size_alloc] at hs12
          have hrow12 : ∀ g, u5.ownBlock = some g → w.heap.size + 1 ≤ g := fun g hg => own_base' HO11.out hg
          have HRW12 := Lib.hid hrow12; clear hrow12
          have HOa12 := Lib.hid (World.ownsRow.alloc HO11.out (.cells #[.int .i64 x.1, .int .i64 x.2.1, .int .i64 x.2.2.1, .int .i64 x.2.2.2] 40))
          have HBa12 := Lib.hid (HB11.out.alloc hs12 (.cells #[.int .i64 x.1, .int .i64 x.2.1, .int .i64 x.2.2.1, .int .i64 x.2.2.2] 40))
          go_wp2_with (at_builtin; refine wpList_append_own _ rfl _ _ 24 rfl (w.heap.size + 1) 40 i0 (rv (0, 0, 0, 0)) 4 32 Tryz.underlying24 hi hz hsz hby rfl (by decide) _ _ _ rfl HOa12.out ⟨w11.heap.size, 0, none⟩ 1 1 (rc x) rfl rfl ?c1_12 ?c2_12 ?c3_12 ?c4_12 ?c5_12 ?_)
          case c1_12 => exact rc_new (w := w11) x
          case c2_12 => exact rc_one x
          case c3_12 => unfold maxLen; omega
          case c4_12 => omega
          case c5_12 => simp; omega
          intro v12 w12 hown12 hgrow12 _
          have hb12 := HBa12.out.grown hgrow12 (by simp; omega) HRW12.out
          have ho12 : w12.ownsRow (w.heap.size + 1) 40 4 v12 (n + 1) (rcs (acc ++ [x])) := by rw [rcs_append]; exact hown12
          have HO12 := Lib.hid ho12; have HB12 := Lib.hid hb12
          clear hown12 hgrow12 HOa12 HBa12 hs12 HRW12
          clear c0 c1 c2 c3 HRR hz0 HRX p0 p1 p2 p3
          have hnew := newest hb12 (by omega)
          have c0 : w12.cell? ⟨w.heap.size, 0, none⟩ = some (.int .i64 r.1) := cell_of_heap hnew
          have c1 : w12.cell? ⟨w.heap.size, 1, none⟩ = some (.int .i64 r.2.1) := cell_of_heap hnew
          have c2 : w12.cell? ⟨w.heap.size, 2, none⟩ = some (.int .i64 r.2.2.1) := cell_of_heap hnew
          have c3 : w12.cell? ⟨w.heap.size, 3, none⟩ = some (.int .i64 r.2.2.2) := cell_of_heap hnew
          have HRR : Hid (RowAt w12 w.heap.size 0 r) := ⟨c0, c1, c2, c3⟩
          have hz0 := heap_lt hnew
          clear hnew
          have HRX : Hid (RowAt w12 b (off + k * 4) x) := by have := RowAt.of_rd (ha0.below hb12 (fun b' hb' => by have := HL.out b' hb'; omega)) hlt; rw [HX.out] at this; exact this
          obtain ⟨p0, p1, p2, p3⟩ := HRX.out
          clear ho12 hb12 HO11 HB11
          go_wp2_with fail
          exact ⟨⟨k + 1, n + 1, true, (acc ++ [x]), by omega, by omega, rfl, by go_num, HO12.out, HB12.out, HF.out⟩, by simp [intOf]; omega⟩
    · obtain rfl : k = rs.length := by omega
      have hac := hacc.out
      rw [List.drop_length] at hac
      have HO := Lib.hid hown; have HB := Lib.hid hbel
      have hnew := newest hbel (by omega)
      have c0 : wr.cell? ⟨w.heap.size, 0, none⟩ = some (.int .i64 r.1) := cell_of_heap hnew
      have c1 : wr.cell? ⟨w.heap.size, 1, none⟩ = some (.int .i64 r.2.1) := cell_of_heap hnew
      have c2 : wr.cell? ⟨w.heap.size, 2, none⟩ = some (.int .i64 r.2.2.1) := cell_of_heap hnew
      have c3 : wr.cell? ⟨w.heap.size, 3, none⟩ = some (.int .i64 r.2.2.2) := cell_of_heap hnew
      have HRR : Hid (RowAt wr w.heap.size 0 r) := ⟨c0, c1, c2, c3⟩
      have hz0 := heap_lt hnew
      clear hnew
      clear hown hbel hacc
      cases done
      · have HF : Hid (acc ++ [r] = T) := hac
        clear hac
        have hs13 := HB.out.size
        simp only [World.size_alloc] at hs13
        have hrow13 : ∀ g, u5.ownBlock = some g → w.heap.size + 1 ≤ g := fun g hg => own_base' HO.out hg
        have HRW13 := Lib.hid hrow13; clear hrow13
        have HOa13 := Lib.hid (World.ownsRow.alloc HO.out (.cells #[.int .i64 r.1, .int .i64 r.2.1, .int .i64 r.2.2.1, .int .i64 r.2.2.2] 40))
        have HBa13 := Lib.hid (HB.out.alloc hs13 (.cells #[.int .i64 r.1, .int .i64 r.2.1, .int .i64 r.2.2.1, .int .i64 r.2.2.2] 40))
        go_wp2_with (at_builtin; refine wpList_append_own _ rfl _ _ 24 rfl (w.heap.size + 1) 40 i0 (rv (0, 0, 0, 0)) 4 32 Tryz.underlying24 hi hz hsz hby rfl (by decide) _ _ _ rfl HOa13.out ⟨wr.heap.size, 0, none⟩ 1 1 (rc r) rfl rfl ?c1_13 ?c2_13 ?c3_13 ?c4_13 ?c5_13 ?_)
        case c1_13 => exact rc_new (w := wr) r
        case c2_13 => exact rc_one r
        case c3_13 => unfold maxLen; omega
        case c4_13 => omega
        case c5_13 => simp; omega
        intro v13 w13 hown13 hgrow13 _
        have hb13 := HBa13.out.grown hgrow13 (by simp; omega) HRW13.out
        have ho13 : w13.ownsRow (w.heap.size + 1) 40 4 v13 (n + 1) (rcs (acc ++ [r])) := by rw [rcs_append]; exact hown13
        have HO13 := Lib.hid ho13; have HB13 := Lib.hid hb13
        clear hown13 hgrow13 HOa13 HBa13 hs13 HRW13
        clear c0 c1 c2 c3 HRR hz0
        have hnew := newest hb13 (by omega)
        have c0 : w13.cell? ⟨w.heap.size, 0, none⟩ = some (.int .i64 r.1) := cell_of_heap hnew
        have c1 : w13.cell? ⟨w.heap.size, 1, none⟩ = some (.int .i64 r.2.1) := cell_of_heap hnew
        have c2 : w13.cell? ⟨w.heap.size, 2, none⟩ = some (.int .i64 r.2.2.1) := cell_of_heap hnew
        have c3 : w13.cell? ⟨w.heap.size, 3, none⟩ = some (.int .i64 r.2.2.2) := cell_of_heap hnew
        have HRR : Hid (RowAt w13 w.heap.size 0 r) := ⟨c0, c1, c2, c3⟩
        have hz0 := heap_lt hnew
        clear hnew
        clear ho13 hb13 HO HB
        obtain ⟨fq, hrv, hnv, hfv⟩ := Rd.of_own HO13.out
        rw [HF.out] at hrv
        go_wp2
        go_ret
        exact ⟨_, fq, rfl, hrv, hnv, hfv.mono (by omega), (below_new _).trans (HB13.out.mono (by omega)), _, _, Nat.le_succ _, by rw [← HF.out]; exact HO13.out⟩
      · have HF : Hid (acc = T) := by rw [← hac]; exact (List.append_nil _).symm
        obtain ⟨fq, hrv, hnv, hfv⟩ := Rd.of_own HO.out
        rw [HF.out] at hrv
        clear hac
        go_wp2
        go_ret
        exact ⟨_, fq, rfl, hrv, hnv, hfv.mono (by omega), (below_new _).trans (HB.out.mono (by omega)), _, _, Nat.le_succ _, by rw [← HF.out]; exact HO.out⟩
set_option maxRecDepth 100000 in
set_option maxHeartbeats 8000000 in
theorem l2Set_b (A : Option Addr) (c : Nat) (rs : List R) (r : R) (w : World) (fp : List Nat) (h1 : (r.2.2.1 == 0) = true) (h2 : (r.2.2.2 == 0) = false) (hs : rs.length ≤ 1000000) (hfit : Fits rs) (hr : Fit r) (ha : Rd w 4 (.slice A rs.length c) (rcs rs) fp) :
    Calls Tryz.prog 67 #[.slice A rs.length c, rv r] w (RowsPost w (setGo r false rs)) := by
  have hlt0 := ha.lt
  have ha0 := ha.alloc (.cells #[.int .i64 r.1, .int .i64 r.2.1, .int .i64 r.2.2.1, .int .i64 r.2.2.2] 40)
  have HL := Lib.hid hlt0; clear hlt0
  have HFT := Lib.hid hfit; clear hfit
  obtain ⟨q0, q1, q2, q3⟩ := hr
  obtain ⟨i0, hi, hz, hsz, hby⟩ := infoRow
  generalize hT : setGo r false rs = T
  have hT0 : ([] : List R) ++ setGo r false (rs.drop 0) = T := by rw [← hT]; rfl
  have HT0 := Lib.hid hT0; clear hT hT0
  go_enter Tryz.func67, Tryz.ntmps67
  go_wp2
  go_loopw [5, 6, 7] (fun v dn i wr => ∃ (k n : Nat) (done : Bool) (acc : List R), k ≤ rs.length ∧ n ≤ 2 * k ∧ dn = .bool done ∧ i = .int .i64 k ∧ wr.ownsRow (w.heap.size + 1) 40 4 v n (rcs acc) ∧ Below (w.heap.size + 1) (w.alloc (.cells #[.int .i64 r.1, .int .i64 r.2.1, .int .i64 r.2.2.1, .int .i64 r.2.2.2] 40)) wr ∧ Hid (acc ++ setGo r done (rs.drop k) = T)) (fun _ _ i _ => rs.length - (intOf i).toNat)
  case atStart => exact ⟨0, 0, false, [], Nat.zero_le _, by omega, rfl, rfl, by have := own_emptyR (w := (w.alloc (.cells #[.int .i64 r.1, .int .i64 r.2.1, .int .i64 r.2.2.1, .int .i64 r.2.2.2] 40))) (t := 40) (base := w.heap.size + 1) (by simp); simpa [rcs] using this, (Below.refl _ _).alloc (by simp) _, HT0.out⟩
  case round =>
    obtain ⟨k, n, done, acc, hk, hn, rfl, rfl, hown, hbel, hacc⟩ := hrel
    by_cases hlt : k < rs.length
    · obtain ⟨b, off, hA, _, _, _, _, _, _⟩ := ha.row_at hlt
      subst hA
      obtain ⟨x0, x1, x2, x3⟩ := HFT.out k hlt
      have hac := hacc.out
      rw [setGo_at r done rs k hlt] at hac
      generalize hx : rs[k] = x at *
      have HX := Lib.hid hx; clear hx hacc
      have HO := Lib.hid hown; have HB := Lib.hid hbel
      have hnew := newest hbel (by omega)
      have c0 : wr.cell? ⟨w.heap.size, 0, none⟩ = some (.int .i64 r.1) := cell_of_heap hnew
      have c1 : wr.cell? ⟨w.heap.size, 1, none⟩ = some (.int .i64 r.2.1) := cell_of_heap hnew
      have c2 : wr.cell? ⟨w.heap.size, 2, none⟩ = some (.int .i64 r.2.2.1) := cell_of_heap hnew
      have c3 : wr.cell? ⟨w.heap.size, 3, none⟩ = some (.int .i64 r.2.2.2) := cell_of_heap hnew
      have HRR : Hid (RowAt wr w.heap.size 0 r) := ⟨c0, c1, c2, c3⟩
      have hz0 := heap_lt hnew
      clear hnew
      have HRX : Hid (RowAt wr b (off + k * 4) x) := by have := RowAt.of_rd (ha0.below hbel (fun b' hb' => by have := HL.out b' hb'; omega)) hlt; rw [HX.out] at this; exact this
      obtain ⟨p0, p1, p2, p3⟩ := HRX.out
      clear hown hbel
      cases done
      · have HE0 := Lib.hid hac; clear hac
        go_wp2_with fail
        refine (l2Key_c b (off + k * 4) x _ HRX.out x0 x1 x2 x3).mono ?_
        rintro e w1 ⟨rfl, m1, hw1⟩
        have ho1 : w1.ownsRow (w.heap.size + 1) 40 4 u5 (n) (rcs (acc)) := by rw [hw1]; exact HO.out
        have hb1 : Below (w.heap.size + 1) (w.alloc (.cells #[.int .i64 r.1, .int .i64 r.2.1, .int .i64 r.2.2.1, .int .i64 r.2.2.2] 40)) w1 := by rw [hw1]; exact below_drewN' HB.out m1
        have HO1 := Lib.hid ho1; have HB1 := Lib.hid hb1; clear hw1
        clear c0 c1 c2 c3 HRR hz0 HRX p0 p1 p2 p3
        have hnew := newest hb1 (by omega)
        have c0 : w1.cell? ⟨w.heap.size, 0, none⟩ = some (.int .i64 r.1) := cell_of_heap hnew
        have c1 : w1.cell? ⟨w.heap.size, 1, none⟩ = some (.int .i64 r.2.1) := cell_of_heap hnew
        have c2 : w1.cell? ⟨w.heap.size, 2, none⟩ = some (.int .i64 r.2.2.1) := cell_of_heap hnew
        have c3 : w1.cell? ⟨w.heap.size, 3, none⟩ = some (.int .i64 r.2.2.2) := cell_of_heap hnew
        have HRR : Hid (RowAt w1 w.heap.size 0 r) := ⟨c0, c1, c2, c3⟩
        have hz0 := heap_lt hnew
        clear hnew
        have HRX : Hid (RowAt w1 b (off + k * 4) x) := by have := RowAt.of_rd (ha0.below hb1 (fun b' hb' => by have := HL.out b' hb'; omega)) hlt; rw [HX.out] at this; exact this
        obtain ⟨p0, p1, p2, p3⟩ := HRX.out
        clear ho1 hb1 HO HB
        go_wp2_with fail
        refine (l2Key_c w.heap.size 0 r _ HRR.out q0 q1 q2 q3).mono ?_
        rintro e w2 ⟨rfl, m2, hw2⟩
        have ho2 : w2.ownsRow (w.heap.size + 1) 40 4 u5 (n) (rcs (acc)) := by rw [hw2]; exact HO1.out
        have hb2 : Below (w.heap.size + 1) (w.alloc (.cells #[.int .i64 r.1, .int .i64 r.2.1, .int .i64 r.2.2.1, .int .i64 r.2.2.2] 40)) w2 := by rw [hw2]; exact below_drewN' HB1.out m2
        have HO2 := Lib.hid ho2; have HB2 := Lib.hid hb2; clear hw2
        clear c0 c1 c2 c3 HRR hz0 HRX p0 p1 p2 p3
        have hnew := newest hb2 (by omega)
        have c0 : w2.cell? ⟨w.heap.size, 0, none⟩ = some (.int .i64 r.1) := cell_of_heap hnew
        have c1 : w2.cell? ⟨w.heap.size, 1, none⟩ = some (.int .i64 r.2.1) := cell_of_heap hnew
        have c2 : w2.cell? ⟨w.heap.size, 2, none⟩ = some (.int .i64 r.2.2.1) := cell_of_heap hnew
        have c3 : w2.cell? ⟨w.heap.size, 3, none⟩ = some (.int .i64 r.2.2.2) := cell_of_heap hnew
        have HRR : Hid (RowAt w2 w.heap.size 0 r) := ⟨c0, c1, c2, c3⟩
        have hz0 := heap_lt hnew
        clear hnew
        have HRX : Hid (RowAt w2 b (off + k * 4) x) := by have := RowAt.of_rd (ha0.below hb2 (fun b' hb' => by have := HL.out b' hb'; omega)) hlt; rw [HX.out] at this; exact this
        obtain ⟨p0, p1, p2, p3⟩ := HRX.out
        clear ho2 hb2 HO1 HB1
        by_cases hcm : keyR r ≤ keyR x
        · have hdc : decide (keyR r ≤ keyR x) = true := by simp [hcm]
          have he := HE0.out
          rw [if_pos (by simp [hcm]), hdc] at he
          have hE : acc ++ [r] ++ ((if keyR x ≠ keyR r then [x] else []) ++ setGo r true (rs.drop (k + 1))) = T := by rw [← he]; simp
          have HE := Lib.hid hE; clear hE he HE0 hdc
          have hs3 := HB2.out.size
          simp only [World.size_alloc] at hs3
          have hrow3 : ∀ g, u5.ownBlock = some g → w.heap.size + 1 ≤ g := fun g hg => own_base' HO2.out hg
          have HRW3 := Lib.hid hrow3; clear hrow3
          have HOa3 := Lib.hid (World.ownsRow.alloc HO2.out (.cells #[.int .i64 r.1, .int .i64 r.2.1, .int .i64 r.2.2.1, .int .i64 r.2.2.2] 40))
          have HBa3 := Lib.hid (HB2.out.alloc hs3 (.cells #[.int .i64 r.1, .int .i64 r.2.1, .int .i64 r.2.2.1, .int .i64 r.2.2.2] 40))
          go_wp2_with (at_builtin; refine wpList_append_own _ rfl _ _ 24 rfl (w.heap.size + 1) 40 i0 (rv (0, 0, 0, 0)) 4 32 Tryz.underlying24 hi hz hsz hby rfl (by decide) _ _ _ rfl HOa3.out ⟨w2.heap.size, 0, none⟩ 1 1 (rc r) rfl rfl ?c1_3 ?c2_3 ?c3_3 ?c4_3 ?c5_3 ?_)
          case c1_3 => exact rc_new (w := w2) r
          case c2_3 => exact rc_one r
          case c3_3 => unfold maxLen; omega
          case c4_3 => omega
          case c5_3 => simp; omega
          intro v3 w3 hown3 hgrow3 _
          have hb3 := HBa3.out.grown hgrow3 (by simp; omega) HRW3.out
          have ho3 : w3.ownsRow (w.heap.size + 1) 40 4 v3 (n + 1) (rcs (acc ++ [r])) := by rw [rcs_append]; exact hown3
          have HO3 := Lib.hid ho3; have HB3 := Lib.hid hb3
          clear hown3 hgrow3 HOa3 HBa3 hs3 HRW3
          clear c0 c1 c2 c3 HRR hz0 HRX p0 p1 p2 p3
          have hnew := newest hb3 (by omega)
          have c0 : w3.cell? ⟨w.heap.size, 0, none⟩ = some (.int .i64 r.1) := cell_of_heap hnew
          have c1 : w3.cell? ⟨w.heap.size, 1, none⟩ = some (.int .i64 r.2.1) := cell_of_heap hnew
          have c2 : w3.cell? ⟨w.heap.size, 2, none⟩ = some (.int .i64 r.2.2.1) := cell_of_heap hnew
          have c3 : w3.cell? ⟨w.heap.size, 3, none⟩ = some (.int .i64 r.2.2.2) := cell_of_heap hnew
          have HRR : Hid (RowAt w3 w.heap.size 0 r) := ⟨c0, c1, c2, c3⟩
          have hz0 := heap_lt hnew
          clear hnew
          have HRX : Hid (RowAt w3 b (off + k * 4) x) := by have := RowAt.of_rd (ha0.below hb3 (fun b' hb' => by have := HL.out b' hb'; omega)) hlt; rw [HX.out] at this; exact this
          obtain ⟨p0, p1, p2, p3⟩ := HRX.out
          clear ho3 hb3 HO2 HB2
          go_wp2_with fail
          refine (l2Key_c b (off + k * 4) x _ HRX.out x0 x1 x2 x3).mono ?_
          rintro e w4 ⟨rfl, m4, hw4⟩
          have ho4 : w4.ownsRow (w.heap.size + 1) 40 4 v3 (n + 1) (rcs ((acc ++ [r]))) := by rw [hw4]; exact HO3.out
          have hb4 : Below (w.heap.size + 1) (w.alloc (.cells #[.int .i64 r.1, .int .i64 r.2.1, .int .i64 r.2.2.1, .int .i64 r.2.2.2] 40)) w4 := by rw [hw4]; exact below_drewN' HB3.out m4
          have HO4 := Lib.hid ho4; have HB4 := Lib.hid hb4; clear hw4
          clear c0 c1 c2 c3 HRR hz0 HRX p0 p1 p2 p3
          have hnew := newest hb4 (by omega)
          have c0 : w4.cell? ⟨w.heap.size, 0, none⟩ = some (.int .i64 r.1) := cell_of_heap hnew
          have c1 : w4.cell? ⟨w.heap.size, 1, none⟩ = some (.int .i64 r.2.1) := cell_of_heap hnew
          have c2 : w4.cell? ⟨w.heap.size, 2, none⟩ = some (.int .i64 r.2.2.1) := cell_of_heap hnew
          have c3 : w4.cell? ⟨w.heap.size, 3, none⟩ = some (.int .i64 r.2.2.2) := cell_of_heap hnew
          have HRR : Hid (RowAt w4 w.heap.size 0 r) := ⟨c0, c1, c2, c3⟩
          have hz0 := heap_lt hnew
          clear hnew
          have HRX : Hid (RowAt w4 b (off + k * 4) x) := by have := RowAt.of_rd (ha0.below hb4 (fun b' hb' => by have := HL.out b' hb'; omega)) hlt; rw [HX.out] at this; exact this
          obtain ⟨p0, p1, p2, p3⟩ := HRX.out
          clear ho4 hb4 HO3 HB3
          go_wp2_with fail
          refine (l2Key_c w.heap.size 0 r _ HRR.out q0 q1 q2 q3).mono ?_
          rintro e w5 ⟨rfl, m5, hw5⟩
          have ho5 : w5.ownsRow (w.heap.size + 1) 40 4 v3 (n + 1) (rcs ((acc ++ [r]))) := by rw [hw5]; exact HO4.out
          have hb5 : Below (w.heap.size + 1) (w.alloc (.cells #[.int .i64 r.1, .int .i64 r.2.1, .int .i64 r.2.2.1, .int .i64 r.2.2.2] 40)) w5 := by rw [hw5]; exact below_drewN' HB4.out m5
          have HO5 := Lib.hid ho5; have HB5 := Lib.hid hb5; clear hw5
          clear c0 c1 c2 c3 HRR hz0 HRX p0 p1 p2 p3
          have hnew := newest hb5 (by omega)
          have c0 : w5.cell? ⟨w.heap.size, 0, none⟩ = some (.int .i64 r.1) := cell_of_heap hnew
          have c1 : w5.cell? ⟨w.heap.size, 1, none⟩ = some (.int .i64 r.2.1) := cell_of_heap hnew
          have c2 : w5.cell? ⟨w.heap.size, 2, none⟩ = some (.int .i64 r.2.2.1) := cell_of_heap hnew
          have c3 : w5.cell? ⟨w.heap.size, 3, none⟩ = some (.int .i64 r.2.2.2) := cell_of_heap hnew
          have HRR : Hid (RowAt w5 w.heap.size 0 r) := ⟨c0, c1, c2, c3⟩
          have hz0 := heap_lt hnew
          clear hnew
          have HRX : Hid (RowAt w5 b (off + k * 4) x) := by have := RowAt.of_rd (ha0.below hb5 (fun b' hb' => by have := HL.out b' hb'; omega)) hlt; rw [HX.out] at this; exact this
          obtain ⟨p0, p1, p2, p3⟩ := HRX.out
          clear ho5 hb5 HO4 HB4
          by_cases hke : keyR x = keyR r
          · have hkb : (keyR x != keyR r) = false := by simp [hke]
            have hf := HE.out
            rw [if_neg (by simpa using hke)] at hf
            have hF : (acc ++ [r]) ++ setGo r true (rs.drop (k + 1)) = T := by rw [← hf]; simp
            have HF := Lib.hid hF; clear hF hf HE hke
            go_wp2_with fail
            exact ⟨⟨k + 1, n + 1, true, (acc ++ [r]), by omega, by omega, rfl, by go_num, HO5.out, HB5.out, HF.out⟩, by simp [intOf]; omega⟩
          · have hkb : (keyR x != keyR r) = true := by simp [hke]
            have hf := HE.out
            rw [if_pos (by simpa using hke)] at hf
            have hF : (acc ++ [r]) ++ [x] ++ setGo r true (rs.drop (k + 1)) = T := by rw [← hf]; simp
            have HF := Lib.hid hF; clear hF hf HE hke
            have hs6 := HB5.out.size
            simp only [World.size_alloc] at hs6
            have hrow6 : ∀ g, v3.ownBlock = some g → w.heap.size + 1 ≤ g := fun g hg => own_base' HO5.out hg
            have HRW6 := Lib.hid hrow6; clear hrow6
            have HOa6 := Lib.hid (World.ownsRow.alloc HO5.out (.cells #[.int .i64 x.1, .int .i64 x.2.1, .int .i64 x.2.2.1, .int .i64 x.2.2.2] 40))
            have HBa6 := Lib.hid (HB5.out.alloc hs6 (.cells #[.int .i64 x.1, .int .i64 x.2.1, .int .i64 x.2.2.1, .int .i64 x.2.2.2] 40))
            go_wp2_with (at_builtin; refine wpList_append_own _ rfl _ _ 24 rfl (w.heap.size + 1) 40 i0 (rv (0, 0, 0, 0)) 4 32 Tryz.underlying24 hi hz hsz hby rfl (by decide) _ _ _ rfl HOa6.out ⟨w5.heap.size, 0, none⟩ 1 1 (rc x) rfl rfl ?c1_6 ?c2_6 ?c3_6 ?c4_6 ?c5_6 ?_)
            case c1_6 => exact rc_new (w := w5) x
            case c2_6 => exact rc_one x
            case c3_6 => unfold maxLen; omega
            case c4_6 => omega
            case c5_6 => simp; omega
            intro v6 w6 hown6 hgrow6 _
            have hb6 := HBa6.out.grown hgrow6 (by simp; omega) HRW6.out
            have ho6 : w6.ownsRow (w.heap.size + 1) 40 4 v6 (n + 1 + 1) (rcs ((acc ++ [r]) ++ [x])) := by rw [rcs_append]; exact hown6
            have HO6 := Lib.hid ho6; have HB6 := Lib.hid hb6
            clear hown6 hgrow6 HOa6 HBa6 hs6 HRW6
            clear c0 c1 c2 c3 HRR hz0 HRX p0 p1 p2 p3
            have hnew := newest hb6 (by omega)
            have c0 : w6.cell? ⟨w.heap.size, 0, none⟩ = some (.int .i64 r.1) := cell_of_heap hnew
            have c1 : w6.cell? ⟨w.heap.size, 1, none⟩ = some (.int .i64 r.2.1) := cell_of_heap hnew
            have c2 : w6.cell? ⟨w.heap.size, 2, none⟩ = some (.int .i64 r.2.2.1) := cell_of_heap hnew
            have c3 : w6.cell? ⟨w.heap.size, 3, none⟩ = some (.int .i64 r.2.2.2) := cell_of_heap hnew
            have HRR : Hid (RowAt w6 w.heap.size 0 r) := ⟨c0, c1, c2, c3⟩
            have hz0 := heap_lt hnew
            clear hnew
            have HRX : Hid (RowAt w6 b (off + k * 4) x) := by have := RowAt.of_rd (ha0.below hb6 (fun b' hb' => by have := HL.out b' hb'; omega)) hlt; rw [HX.out] at this; exact this
            obtain ⟨p0, p1, p2, p3⟩ := HRX.out
            clear ho6 hb6 HO5 HB5
            go_wp2_with fail
            exact ⟨⟨k + 1, n + 1 + 1, true, ((acc ++ [r]) ++ [x]), by omega, by omega, rfl, by go_num, HO6.out, HB6.out, HF.out⟩, by simp [intOf]; omega⟩
        · have hdc : decide (keyR r ≤ keyR x) = false := by simp [hcm]
          have he := HE0.out
          rw [if_neg (by simp [hcm]), hdc] at he
          have hE : acc ++ ((if keyR x ≠ keyR r then [x] else []) ++ setGo r false (rs.drop (k + 1))) = T := by rw [← he]; simp
          have HE := Lib.hid hE; clear hE he HE0 hdc
          go_wp2_with fail
          refine (l2Key_c b (off + k * 4) x _ HRX.out x0 x1 x2 x3).mono ?_
          rintro e w7 ⟨rfl, m7, hw7⟩
          have ho7 : w7.ownsRow (w.heap.size + 1) 40 4 u5 (n) (rcs (acc)) := by rw [hw7]; exact HO2.out
          have hb7 : Below (w.heap.size + 1) (w.alloc (.cells #[.int .i64 r.1, .int .i64 r.2.1, .int .i64 r.2.2.1, .int .i64 r.2.2.2] 40)) w7 := by rw [hw7]; exact below_drewN' HB2.out m7
          have HO7 := Lib.hid ho7; have HB7 := Lib.hid hb7; clear hw7
          clear c0 c1 c2 c3 HRR hz0 HRX p0 p1 p2 p3
          have hnew := newest hb7 (by omega)
          have c0 : w7.cell? ⟨w.heap.size, 0, none⟩ = some (.int .i64 r.1) := cell_of_heap hnew
          have c1 : w7.cell? ⟨w.heap.size, 1, none⟩ = some (.int .i64 r.2.1) := cell_of_heap hnew
          have c2 : w7.cell? ⟨w.heap.size, 2, none⟩ = some (.int .i64 r.2.2.1) := cell_of_heap hnew
          have c3 : w7.cell? ⟨w.heap.size, 3, none⟩ = some (.int .i64 r.2.2.2) := cell_of_heap hnew
          have HRR : Hid (RowAt w7 w.heap.size 0 r) := ⟨c0, c1, c2, c3⟩
          have hz0 := heap_lt hnew
          clear hnew
          have HRX : Hid (RowAt w7 b (off + k * 4) x) := by have := RowAt.of_rd (ha0.below hb7 (fun b' hb' => by have := HL.out b' hb'; omega)) hlt; rw [HX.out] at this; exact this
          obtain ⟨p0, p1, p2, p3⟩ := HRX.out
          clear ho7 hb7 HO2 HB2
          go_wp2_with fail
          refine (l2Key_c w.heap.size 0 r _ HRR.out q0 q1 q2 q3).mono ?_
          rintro e w8 ⟨rfl, m8, hw8⟩
          have ho8 : w8.ownsRow (w.heap.size + 1) 40 4 u5 (n) (rcs (acc)) := by rw [hw8]; exact HO7.out
          have hb8 : Below (w.heap.size + 1) (w.alloc (.cells #[.int .i64 r.1, .int .i64 r.2.1, .int .i64 r.2.2.1, .int .i64 r.2.2.2] 40)) w8 := by rw [hw8]; exact below_drewN' HB7.out m8
          have HO8 := Lib.hid ho8; have HB8 := Lib.hid hb8; clear hw8
          clear c0 c1 c2 c3 HRR hz0 HRX p0 p1 p2 p3
          have hnew := newest hb8 (by omega)
          have c0 : w8.cell? ⟨w.heap.size, 0, none⟩ = some (.int .i64 r.1) := cell_of_heap hnew
          have c1 : w8.cell? ⟨w.heap.size, 1, none⟩ = some (.int .i64 r.2.1) := cell_of_heap hnew
          have c2 : w8.cell? ⟨w.heap.size, 2, none⟩ = some (.int .i64 r.2.2.1) := cell_of_heap hnew
          have c3 : w8.cell? ⟨w.heap.size, 3, none⟩ = some (.int .i64 r.2.2.2) := cell_of_heap hnew
          have HRR : Hid (RowAt w8 w.heap.size 0 r) := ⟨c0, c1, c2, c3⟩
          have hz0 := heap_lt hnew
          clear hnew
          have HRX : Hid (RowAt w8 b (off + k * 4) x) := by have := RowAt.of_rd (ha0.below hb8 (fun b' hb' => by have := HL.out b' hb'; omega)) hlt; rw [HX.out] at this; exact this
          obtain ⟨p0, p1, p2, p3⟩ := HRX.out
          clear ho8 hb8 HO7 HB7
          by_cases hke : keyR x = keyR r
          · have hkb : (keyR x != keyR r) = false := by simp [hke]
            have hf := HE.out
            rw [if_neg (by simpa using hke)] at hf
            have hF : acc ++ setGo r false (rs.drop (k + 1)) = T := by rw [← hf]; simp
            have HF := Lib.hid hF; clear hF hf HE hke
            go_wp2_with fail
            exact ⟨⟨k + 1, n, false, acc, by omega, by omega, rfl, by go_num, HO8.out, HB8.out, HF.out⟩, by simp [intOf]; omega⟩
          · have hkb : (keyR x != keyR r) = true := by simp [hke]
            have hf := HE.out
            rw [if_pos (by simpa using hke)] at hf
            have hF : acc ++ [x] ++ setGo r false (rs.drop (k + 1)) = T := by rw [← hf]; simp
            have HF := Lib.hid hF; clear hF hf HE hke
            have hs9 := HB8.out.size
            simp only [World.size_alloc] at hs9
            have hrow9 : ∀ g, u5.ownBlock = some g → w.heap.size + 1 ≤ g := fun g hg => own_base' HO8.out hg
            have HRW9 := Lib.hid hrow9; clear hrow9
            have HOa9 := Lib.hid (World.ownsRow.alloc HO8.out (.cells #[.int .i64 x.1, .int .i64 x.2.1, .int .i64 x.2.2.1, .int .i64 x.2.2.2] 40))
            have HBa9 := Lib.hid (HB8.out.alloc hs9 (.cells #[.int .i64 x.1, .int .i64 x.2.1, .int .i64 x.2.2.1, .int .i64 x.2.2.2] 40))
            go_wp2_with (at_builtin; refine wpList_append_own _ rfl _ _ 24 rfl (w.heap.size + 1) 40 i0 (rv (0, 0, 0, 0)) 4 32 Tryz.underlying24 hi hz hsz hby rfl (by decide) _ _ _ rfl HOa9.out ⟨w8.heap.size, 0, none⟩ 1 1 (rc x) rfl rfl ?c1_9 ?c2_9 ?c3_9 ?c4_9 ?c5_9 ?_)
            case c1_9 => exact rc_new (w := w8) x
            case c2_9 => exact rc_one x
            case c3_9 => unfold maxLen; omega
            case c4_9 => omega
            case c5_9 => simp; omega
            intro v9 w9 hown9 hgrow9 _
            have hb9 := HBa9.out.grown hgrow9 (by simp; omega) HRW9.out
            have ho9 : w9.ownsRow (w.heap.size + 1) 40 4 v9 (n + 1) (rcs (acc ++ [x])) := by rw [rcs_append]; exact hown9
            have HO9 := Lib.hid ho9; have HB9 := Lib.hid hb9
            clear hown9 hgrow9 HOa9 HBa9 hs9 HRW9
            clear c0 c1 c2 c3 HRR hz0 HRX p0 p1 p2 p3
            have hnew := newest hb9 (by omega)
            have c0 : w9.cell? ⟨w.heap.size, 0, none⟩ = some (.int .i64 r.1) := cell_of_heap hnew
            have c1 : w9.cell? ⟨w.heap.size, 1, none⟩ = some (.int .i64 r.2.1) := cell_of_heap hnew
            have c2 : w9.cell? ⟨w.heap.size, 2, none⟩ = some (.int .i64 r.2.2.1) := cell_of_heap hnew
            have c3 : w9.cell? ⟨w.heap.size, 3, none⟩ = some (.int .i64 r.2.2.2) := cell_of_heap hnew
            have HRR : Hid (RowAt w9 w.heap.size 0 r) := ⟨c0, c1, c2, c3⟩
            have hz0 := heap_lt hnew
            clear hnew
            have HRX : Hid (RowAt w9 b (off + k * 4) x) := by have := RowAt.of_rd (ha0.below hb9 (fun b' hb' => by have := HL.out b' hb'; omega)) hlt; rw [HX.out] at this; exact this
            obtain ⟨p0, p1, p2, p3⟩ := HRX.out
            clear ho9 hb9 HO8 HB8
            go_wp2_with fail
            exact ⟨⟨k + 1, n + 1, false, (acc ++ [x]), by omega, by omega, rfl, by go_num, HO9.out, HB9.out, HF.out⟩, by simp [intOf]; omega⟩
      · have he := hac
        rw [if_neg (by simp), Bool.true_or] at he
        have hE : acc ++ ((if keyR x ≠ keyR r then [x] else []) ++ setGo r true (rs.drop (k + 1))) = T := by rw [← he]; simp
        have HE := Lib.hid hE; clear hE he hac
        go_wp2_with fail
        refine (l2Key_c b (off + k * 4) x _ HRX.out x0 x1 x2 x3).mono ?_
        rintro e w10 ⟨rfl, m10, hw10⟩
        have ho10 : w10.ownsRow (w.heap.size + 1) 40 4 u5 (n) (rcs (acc)) := by rw [hw10]; exact HO.out
        have hb10 : Below (w.heap.size + 1) (w.alloc (.cells #[.int .i64 r.1, .int .i64 r.2.1, .int .i64 r.2.2.1, .int .i64 r.2.2.2] 40)) w10 := by rw [hw10]; exact below_drewN' HB.out m10
        have HO10 := Lib.hid ho10; have HB10 := Lib.hid hb10; clear hw10
        clear c0 c1 c2 c3 HRR hz0 HRX p0 p1 p2 p3
        have hnew := newest hb10 (by omega)
        have c0 : w10.cell? ⟨w.heap.size, 0, none⟩ = some (.int .i64 r.1) := cell_of_heap hnew
        have c1 : w10.cell? ⟨w.heap.size, 1, none⟩ = some (.int .i64 r.2.1) := cell_of_heap hnew
        have c2 : w10.cell? ⟨w.heap.size, 2, none⟩ = some (.int .i64 r.2.2.1) := cell_of_heap hnew
        have c3 : w10.cell? ⟨w.heap.size, 3, none⟩ = some (.int .i64 r.2.2.2) := cell_of_heap hnew
        have HRR : Hid (RowAt w10 w.heap.size 0 r) := ⟨c0, c1, c2, c3⟩
        have hz0 := heap_lt hnew
        clear hnew
        have HRX : Hid (RowAt w10 b (off + k * 4) x) := by have := RowAt.of_rd (ha0.below hb10 (fun b' hb' => by have := HL.out b' hb'; omega)) hlt; rw [HX.out] at this; exact this
        obtain ⟨p0, p1, p2, p3⟩ := HRX.out
        clear ho10 hb10 HO HB
        go_wp2_with fail
        refine (l2Key_c w.heap.size 0 r _ HRR.out q0 q1 q2 q3).mono ?_
        rintro e w11 ⟨rfl, m11, hw11⟩
        have ho11 : w11.ownsRow (w.heap.size + 1) 40 4 u5 (n) (rcs (acc)) := by rw [hw11]; exact HO10.out
        have hb11 : Below (w.heap.size + 1) (w.alloc (.cells #[.int .i64 r.1, .int .i64 r.2.1, .int .i64 r.2.2.1, .int .i64 r.2.2.2] 40)) w11 := by rw [hw11]; exact below_drewN' HB10.out m11
        have HO11 := Lib.hid ho11; have HB11 := Lib.hid hb11; clear hw11
        clear c0 c1 c2 c3 HRR hz0 HRX p0 p1 p2 p3
        have hnew := newest hb11 (by omega)
        have c0 : w11.cell? ⟨w.heap.size, 0, none⟩ = some (.int .i64 r.1) := cell_of_heap hnew
        have c1 : w11.cell? ⟨w.heap.size, 1, none⟩ = some (.int .i64 r.2.1) := cell_of_heap hnew
        have c2 : w11.cell? ⟨w.heap.size, 2, none⟩ = some (.int .i64 r.2.2.1) := cell_of_heap hnew
        have c3 : w11.cell? ⟨w.heap.size, 3, none⟩ = some (.int .i64 r.2.2.2) := cell_of_heap hnew
        have HRR : Hid (RowAt w11 w.heap.size 0 r) := ⟨c0, c1, c2, c3⟩
        have hz0 := heap_lt hnew
        clear hnew
        have HRX : Hid (RowAt w11 b (off + k * 4) x) := by have := RowAt.of_rd (ha0.below hb11 (fun b' hb' => by have := HL.out b' hb'; omega)) hlt; rw [HX.out] at this; exact this
        obtain ⟨p0, p1, p2, p3⟩ := HRX.out
        clear ho11 hb11 HO10 HB10
        by_cases hke : keyR x = keyR r
        · have hkb : (keyR x != keyR r) = false := by simp [hke]
          have hf := HE.out
          rw [if_neg (by simpa using hke)] at hf
          have hF : acc ++ setGo r true (rs.drop (k + 1)) = T := by rw [← hf]; simp
          have HF := Lib.hid hF; clear hF hf HE hke
          go_wp2_with fail
          exact ⟨⟨k + 1, n, true, acc, by omega, by omega, rfl, by go_num, HO11.out, HB11.out, HF.out⟩, by simp [intOf]; omega⟩
        · have hkb : (keyR x != keyR r) = true := by simp [hke]
          have hf := HE.out
          rw [if_pos (by simpa using hke)] at hf
          have hF : acc ++ [x] ++ setGo r true (rs.drop (k + 1)) = T := by rw [← hf]; simp
          have HF := Lib.hid hF; clear hF hf HE hke
          have hs12 := HB11.out.size
          simp only [World.size_alloc] at hs12
          have hrow12 : ∀ g, u5.ownBlock = some g → w.heap.size + 1 ≤ g := fun g hg => own_base' HO11.out hg
          have HRW12 := Lib.hid hrow12; clear hrow12
          have HOa12 := Lib.hid (World.ownsRow.alloc HO11.out (.cells #[.int .i64 x.1, .int .i64 x.2.1, .int .i64 x.2.2.1, .int .i64 x.2.2.2] 40))
          have HBa12 := Lib.hid (HB11.out.alloc hs12 (.cells #[.int .i64 x.1, .int .i64 x.2.1, .int .i64 x.2.2.1, .int .i64 x.2.2.2] 40))
          go_wp2_with (at_builtin; refine wpList_append_own _ rfl _ _ 24 rfl (w.heap.size + 1) 40 i0 (rv (0, 0, 0, 0)) 4 32 Tryz.underlying24 hi hz hsz hby rfl (by decide) _ _ _ rfl HOa12.out ⟨w11.heap.size, 0, none⟩ 1 1 (rc x) rfl rfl ?c1_12 ?c2_12 ?c3_12 ?c4_12 ?c5_12 ?_)
          case c1_12 => exact rc_new (w := w11) x
          case c2_12 => exact rc_one x
          case c3_12 => unfold maxLen; omega
          case c4_12 => omega
          case c5_12 => simp; omega
          intro v12 w12 hown12 hgrow12 _
          have hb12 := HBa12.out.grown hgrow12 (by simp; omega) HRW12.out
          have ho12 : w12.ownsRow (w.heap.size + 1) 40 4 v12 (n + 1) (rcs (acc ++ [x])) := by rw [rcs_append]; exact hown12
          have HO12 := Lib.hid ho12; have HB12 := Lib.hid hb12
          clear hown12 hgrow12 HOa12 HBa12 hs12 HRW12
          clear c0 c1 c2 c3 HRR hz0 HRX p0 p1 p2 p3
          have hnew := newest hb12 (by omega)
          have c0 : w12.cell? ⟨w.heap.size, 0, none⟩ = some (.int .i64 r.1) := cell_of_heap hnew
          have c1 : w12.cell? ⟨w.heap.size, 1, none⟩ = some (.int .i64 r.2.1) := cell_of_heap hnew
          have c2 : w12.cell? ⟨w.heap.size, 2, none⟩ = some (.int .i64 r.2.2.1) := cell_of_heap hnew
          have c3 : w12.cell? ⟨w.heap.size, 3, none⟩ = some (.int .i64 r.2.2.2) := cell_of_heap hnew
          have HRR : Hid (RowAt w12 w.heap.size 0 r) := ⟨c0, c1, c2, c3⟩
          have hz0 := heap_lt hnew
          clear hnew
          have HRX : Hid (RowAt w12 b (off + k * 4) x) := by have := RowAt.of_rd (ha0.below hb12 (fun b' hb' => by have := HL.out b' hb'; omega)) hlt; rw [HX.out] at this; exact this
          obtain ⟨p0, p1, p2, p3⟩ := HRX.out
          clear ho12 hb12 HO11 HB11
          go_wp2_with fail
          exact ⟨⟨k + 1, n + 1, true, (acc ++ [x]), by omega, by omega, rfl, by go_num, HO12.out, HB12.out, HF.out⟩, by simp [intOf]; omega⟩
    · obtain rfl : k = rs.length := by omega
      have hac := hacc.out
      rw [List.drop_length] at hac
      have HO := Lib.hid hown; have HB := Lib.hid hbel
      have hnew := newest hbel (by omega)
      have c0 : wr.cell? ⟨w.heap.size, 0, none⟩ = some (.int .i64 r.1) := cell_of_heap hnew
      have c1 : wr.cell? ⟨w.heap.size, 1, none⟩ = some (.int .i64 r.2.1) := cell_of_heap hnew
      have c2 : wr.cell? ⟨w.heap.size, 2, none⟩ = some (.int .i64 r.2.2.1) := cell_of_heap hnew
      have c3 : wr.cell? ⟨w.heap.size, 3, none⟩ = some (.int .i64 r.2.2.2) := cell_of_heap hnew
      have HRR : Hid (RowAt wr w.heap.size 0 r) := ⟨c0, c1, c2, c3⟩
      have hz0 := heap_lt hnew
      clear hnew
      clear hown hbel hacc
      cases done
      · have HF : Hid (acc ++ [r] = T) := hac
        clear hac
        have hs13 := HB.out.size
        simp only [World.size_alloc] at hs13
        have hrow13 : ∀ g, u5.ownBlock = some g → w.heap.size + 1 ≤ g := fun g hg => own_base' HO.out hg
        have HRW13 := Lib.hid hrow13; clear hrow13
        have HOa13 := Lib.hid (World.ownsRow.alloc HO.out (.cells #[.int .i64 r.1, .int .i64 r.2.1, .int .i64 r.2.2.1, .int .i64 r.2.2.2] 40))
        have HBa13 := Lib.hid (HB.out.alloc hs13 (.cells #[.int .i64 r.1, .int .i64 r.2.1, .int .i64 r.2.2.1, .int .i64 r.2.2.2] 40))
        go_wp2_with (at_builtin; refine wpList_append_own _ rfl _ _ 24 rfl (w.heap.size + 1) 40 i0 (rv (0, 0, 0, 0)) 4 32 Tryz.underlying24 hi hz hsz hby rfl (by decide) _ _ _ rfl HOa13.out ⟨wr.heap.size, 0, none⟩ 1 1 (rc r) rfl rfl ?c1_13 ?c2_13 ?c3_13 ?c4_13 ?c5_13 ?_)
        case c1_13 => exact rc_new (w := wr) r
        case c2_13 => exact rc_one r
        case c3_13 => unfold maxLen; omega
        case c4_13 => omega
        case c5_13 => simp; omega
        intro v13 w13 hown13 hgrow13 _
        have hb13 := HBa13.out.grown hgrow13 (by simp; omega) HRW13.out
        have ho13 : w13.ownsRow (w.heap.size + 1) 40 4 v13 (n + 1) (rcs (acc ++ [r])) := by rw [rcs_append]; exact hown13
        have HO13 := Lib.hid ho13; have HB13 := Lib.hid hb13
        clear hown13 hgrow13 HOa13 HBa13 hs13 HRW13
        clear c0 c1 c2 c3 HRR hz0
        have hnew := newest hb13 (by omega)
        have c0 : w13.cell? ⟨w.heap.size, 0, none⟩ = some (.int .i64 r.1) := cell_of_heap hnew
        have c1 : w13.cell? ⟨w.heap.size, 1, none⟩ = some (.int .i64 r.2.1) := cell_of_heap hnew
        have c2 : w13.cell? ⟨w.heap.size, 2, none⟩ = some (.int .i64 r.2.2.1) := cell_of_heap hnew
        have c3 : w13.cell? ⟨w.heap.size, 3, none⟩ = some (.int .i64 r.2.2.2) := cell_of_heap hnew
        have HRR : Hid (RowAt w13 w.heap.size 0 r) := ⟨c0, c1, c2, c3⟩
        have hz0 := heap_lt hnew
        clear hnew
        clear ho13 hb13 HO HB
        obtain ⟨fq, hrv, hnv, hfv⟩ := Rd.of_own HO13.out
        rw [HF.out] at hrv
        go_wp2
        go_ret
        exact ⟨_, fq, rfl, hrv, hnv, hfv.mono (by omega), (below_new _).trans (HB13.out.mono (by omega)), _, _, Nat.le_succ _, by rw [← HF.out]; exact HO13.out⟩
      · have HF : Hid (acc = T) := by rw [← hac]; exact (List.append_nil _).symm
        obtain ⟨fq, hrv, hnv, hfv⟩ := Rd.of_own HO.out
        rw [HF.out] at hrv
        clear hac
        go_wp2
        go_ret
        exact ⟨_, fq, rfl, hrv, hnv, hfv.mono (by omega), (below_new _).trans (HB.out.mono (by omega)), _, _, Nat.le_succ _, by rw [← HF.out]; exact HO.out⟩
set_option maxRecDepth 100000 in
set_option maxHeartbeats 8000000 in
theorem l2Set_d (A : Option Addr) (c : Nat) (rs : List R) (r : R) (w : World) (fp : List Nat) (h1 : (r.2.2.1 == 0) = true) (h2 : (r.2.2.2 == 0) = true) (hs : rs.length ≤ 1000000) (hfit : Fits rs) (hr : Fit r) (ha : Rd w 4 (.slice A rs.length c) (rcs rs) fp) :
    Calls Tryz.prog 67 #[.slice A rs.length c, rv r] w (RowsPost w (setGo r true rs)) := by
  have hlt0 := ha.lt
  have ha0 := ha.alloc (.cells #[.int .i64 r.1, .int .i64 r.2.1, .int .i64 r.2.2.1, .int .i64 r.2.2.2] 40)
  have HL := Lib.hid hlt0; clear hlt0
  have HFT := Lib.hid hfit; clear hfit
  obtain ⟨q0, q1, q2, q3⟩ := hr
  obtain ⟨i0, hi, hz, hsz, hby⟩ := infoRow
  generalize hT : setGo r true rs = T
  have hT0 : ([] : List R) ++ setGo r true (rs.drop 0) = T := by rw [← hT]; rfl
  have HT0 := Lib.hid hT0; clear hT hT0
  go_enter Tryz.func67, Tryz.ntmps67
  go_wp2
  go_loopw [5, 6, 7] (fun v dn i wr => ∃ (k n : Nat) (done : Bool) (acc : List R), k ≤ rs.length ∧ n ≤ 2 * k ∧ dn = .bool done ∧ i = .int .i64 k ∧ wr.ownsRow (w.heap.size + 1) 40 4 v n (rcs acc) ∧ Below (w.heap.size + 1) (w.alloc (.cells #[.int .i64 r.1, .int .i64 r.2.1, .int .i64 r.2.2.1, .int .i64 r.2.2.2] 40)) wr ∧ Hid (acc ++ setGo r done (rs.drop k) = T)) (fun _ _ i _ => rs.length - (intOf i).toNat)
  case atStart => exact ⟨0, 0, true, [], Nat.zero_le _, by omega, rfl, rfl, by have := own_emptyR (w := (w.alloc (.cells #[.int .i64 r.1, .int .i64 r.2.1, .int .i64 r.2.2.1, .int .i64 r.2.2.2] 40))) (t := 40) (base := w.heap.size + 1) (by simp); simpa [rcs] using this, (Below.refl _ _).alloc (by simp) _, HT0.out⟩
  case round =>
    obtain ⟨k, n, done, acc, hk, hn, rfl, rfl, hown, hbel, hacc⟩ := hrel
    by_cases hlt : k < rs.length
    · obtain ⟨b, off, hA, _, _, _, _, _, _⟩ := ha.row_at hlt
      subst hA
      obtain ⟨x0, x1, x2, x3⟩ := HFT.out k hlt
      have hac := hacc.out
      rw [setGo_at r done rs k hlt] at hac
      generalize hx : rs[k] = x at *
      have HX := Lib.hid hx; clear hx hacc
      have HO := Lib.hid hown; have HB := Lib.hid hbel
      have hnew := newest hbel (by omega)
      have c0 : wr.cell? ⟨w.heap.size, 0, none⟩ = some (.int .i64 r.1) := cell_of_heap hnew
      have c1 : wr.cell? ⟨w.heap.size, 1, none⟩ = some (.int .i64 r.2.1) := cell_of_heap hnew
      have c2 : wr.cell? ⟨w.heap.size, 2, none⟩ = some (.int .i64 r.2.2.1) := cell_of_heap hnew
      have c3 : wr.cell? ⟨w.heap.size, 3, none⟩ = some (.int .i64 r.2.2.2) := cell_of_heap hnew
      have HRR : Hid (RowAt wr w.heap.size 0 r) := ⟨c0, c1, c2, c3⟩
      have hz0 := heap_lt hnew
      clear hnew
      have HRX : Hid (RowAt wr b (off + k * 4) x) := by have := RowAt.of_rd (ha0.below hbel (fun b' hb' => by have := HL.out b' hb'; omega)) hlt; rw [HX.out] at this; exact this
      obtain ⟨p0, p1, p2, p3⟩ := HRX.out
      clear hown hbel
      cases done
      · have HE0 := Lib.hid hac; clear hac
        go_wp2_with fail
        refine (l2Key_c b (off + k * 4) x _ HRX.out x0 x1 x2 x3).mono ?_
        rintro e w1 ⟨rfl, m1, hw1⟩
        have ho1 : w1.ownsRow (w.heap.size + 1) 40 4 u5 (n) (rcs (acc)) := by rw [hw1]; exact HO.out
        have hb1 : Below (w.heap.size + 1) (w.alloc (.cells #[.int .i64 r.1, .int .i64 r.2.1, .int .i64 r.2.2.1, .int .i64 r.2.2.2] 40)) w1 := by rw [hw1]; exact below_drewN' HB.out m1
        have HO1 := Lib.hid ho1; have HB1 := Lib.hid hb1; clear hw1
        clear c0 c1 c2 c3 HRR hz0 HRX p0 p1 p2 p3
        have hnew := newest hb1 (by omega)
        have c0 : w1.cell? ⟨w.heap.size, 0, none⟩ = some (.int .i64 r.1) := cell_of_heap hnew
        have c1 : w1.cell? ⟨w.heap.size, 1, none⟩ = some (.int .i64 r.2.1) := cell_of_heap hnew
        have c2 : w1.cell? ⟨w.heap.size, 2, none⟩ = some (.int .i64 r.2.2.1) := cell_of_heap hnew
        have c3 : w1.cell? ⟨w.heap.size, 3, none⟩ = some (.int .i64 r.2.2.2) := cell_of_heap hnew
        have HRR : Hid (RowAt w1 w.heap.size 0 r) := ⟨c0, c1, c2, c3⟩
        have hz0 := heap_lt hnew
        clear hnew
        have HRX : Hid (RowAt w1 b (off + k * 4) x) := by have := RowAt.of_rd (ha0.below hb1 (fun b' hb' => by have := HL.out b' hb'; omega)) hlt; rw [HX.out] at this; exact this
        obtain ⟨p0, p1, p2, p3⟩ := HRX.out
        clear ho1 hb1 HO HB
        go_wp2_with fail
        refine (l2Key_c w.heap.size 0 r _ HRR.out q0 q1 q2 q3).mono ?_
        rintro e w2 ⟨rfl, m2, hw2⟩
        have ho2 : w2.ownsRow (w.heap.size + 1) 40 4 u5 (n) (rcs (acc)) := by rw [hw2]; exact HO1.out
        have hb2 : Below (w.heap.size + 1) (w.alloc (.cells #[.int .i64 r.1, .int .i64 r.2.1, .int .i64 r.2.2.1, .int .i64 r.2.2.2] 40)) w2 := by rw [hw2]; exact below_drewN' HB1.out m2
        have HO2 := Lib.hid ho2; have HB2 := Lib.hid hb2; clear hw2
        clear c0 c1 c2 c3 HRR hz0 HRX p0 p1 p2 p3
        have hnew := newest hb2 (by omega)
        have c0 : w2.cell? ⟨w.heap.size, 0, none⟩ = some (.int .i64 r.1) := cell_of_heap hnew
        have c1 : w2.cell? ⟨w.heap.size, 1, none⟩ = some (.int .i64 r.2.1) := cell_of_heap hnew
        have c2 : w2.cell? ⟨w.heap.size, 2, none⟩ = some (.int .i64 r.2.2.1) := cell_of_heap hnew
        have c3 : w2.cell? ⟨w.heap.size, 3, none⟩ = some (.int .i64 r.2.2.2) := cell_of_heap hnew
        have HRR : Hid (RowAt w2 w.heap.size 0 r) := ⟨c0, c1, c2, c3⟩
        have hz0 := heap_lt hnew
        clear hnew
        have HRX : Hid (RowAt w2 b (off + k * 4) x) := by have := RowAt.of_rd (ha0.below hb2 (fun b' hb' => by have := HL.out b' hb'; omega)) hlt; rw [HX.out] at this; exact this
        obtain ⟨p0, p1, p2, p3⟩ := HRX.out
        clear ho2 hb2 HO1 HB1
        by_cases hcm : keyR r ≤ keyR x
        · have hdc : decide (keyR r ≤ keyR x) = true := by simp [hcm]
          have he := HE0.out
          rw [if_pos (by simp [hcm]), hdc] at he
          have hE : acc ++ [r] ++ ((if keyR x ≠ keyR r then [x] else []) ++ setGo r true (rs.drop (k + 1))) = T := by rw [← he]; simp
          have HE := Lib.hid hE; clear hE he HE0 hdc
          have hs3 := HB2.out.size
          simp only [World.size_alloc] at hs3
          have hrow3 : ∀ g, u5.ownBlock = some g → w.heap.size + 1 ≤ g := fun g hg => own_base' HO2.out hg
          have HRW3 := Lib.hid hrow3; clear hrow3
          have HOa3 := Lib.hid (World.ownsRow.alloc HO2.out (.cells #[.int .i64 r.1, .int .i64 r.2.1, .int .i64 r.2.2.1, .int .i64 r.2.2.2] 40))
          have HBa3 := Lib.hid (HB2.out.alloc hs3 (.cells #[.int .i64 r.1, .int .i64 r.2.1, .int .i64 r.2.2.1, .int .i64 r.2.2.2] 40))
          go_wp2_with (at_builtin; refine wpList_append_own _ rfl _ _ 24 rfl (w.heap.size + 1) 40 i0 (rv (0, 0, 0, 0)) 4 32 Tryz.underlying24 hi hz hsz hby rfl (by decide) _ _ _ rfl HOa3.out ⟨w2.heap.size, 0, none⟩ 1 1 (rc r) rfl rfl ?c1_3 ?c2_3 ?c3_3 ?c4_3 ?c5_3 ?_)
          case c1_3 => exact rc_new (w := w2) r
          case c2_3 => exact rc_one r
          case c3_3 => unfold maxLen; omega
          case c4_3 => omega
          case c5_3 => simp; omega
          intro v3 w3 hown3 hgrow3 _
          have hb3 := HBa3.out.grown hgrow3 (by simp; omega) HRW3.out
          have ho3 : w3.ownsRow (w.heap.size + 1) 40 4 v3 (n + 1) (rcs (acc ++ [r])) := by rw [rcs_append]; exact hown3
          have HO3 := Lib.hid ho3; have HB3 := Lib.hid hb3
          clear hown3 hgrow3 HOa3 HBa3 hs3 HRW3
          clear c0 c1 c2 c3 HRR hz0 HRX p0 p1 p2 p3
          have hnew := newest hb3 (by omega)
          have c0 : w3.cell? ⟨w.heap.size, 0, none⟩ = some (.int .i64 r.1) := cell_of_heap hnew
          have c1 : w3.cell? ⟨w.heap.size, 1, none⟩ = some (.int .i64 r.2.1) := cell_of_heap hnew
          have c2 : w3.cell? ⟨w.heap.size, 2, none⟩ = some (.int .i64 r.2.2.1) := cell_of_heap hnew
          have c3 : w3.cell? ⟨w.heap.size, 3, none⟩ = some (.int .i64 r.2.2.2) := cell_of_heap hnew
          have HRR : Hid (RowAt w3 w.heap.size 0 r) := ⟨c0, c1, c2, c3⟩
          have hz0 := heap_lt hnew
          clear hnew
          have HRX : Hid (RowAt w3 b (off + k * 4) x) := by have := RowAt.of_rd (ha0.below hb3 (fun b' hb' => by have := HL.out b' hb'; omega)) hlt; rw [HX.out] at this; exact this
          obtain ⟨p0, p1, p2, p3⟩ := HRX.out
          clear ho3 hb3 HO2 HB2
          go_wp2_with fail
          refine (l2Key_c b (off + k * 4) x _ HRX.out x0 x1 x2 x3).mono ?_
          rintro e w4 ⟨rfl, m4, hw4⟩
          have ho4 : w4.ownsRow (w.heap.size + 1) 40 4 v3 (n + 1) (rcs ((acc ++ [r]))) := by rw [hw4]; exact HO3.out
          have hb4 : Below (w.heap.size + 1) (w.alloc (.cells #[.int .i64 r.1, .int .i64 r.2.1, .int .i64 r.2.2.1, .int .i64 r.2.2.2] 40)) w4 := by rw [hw4]; exact below_drewN' HB3.out m4
          have HO4 := Lib.hid ho4; have HB4 := Lib.hid hb4; clear hw4
          clear c0 c1 c2 c3 HRR hz0 HRX p0 p1 p2 p3
          have hnew := newest hb4 (by omega)
          have c0 : w4.cell? ⟨w.heap.size, 0, none⟩ = some (.int .i64 r.1) := cell_of_heap hnew
          have c1 : w4.cell? ⟨w.heap.size, 1, none⟩ = some (.int .i64 r.2.1) := cell_of_heap hnew
          have c2 : w4.cell? ⟨w.heap.size, 2, none⟩ = some (.int .i64 r.2.2.1) := cell_of_heap hnew
          have c3 : w4.cell? ⟨w.heap.size, 3, none⟩ = some (.int .i64 r.2.2.2) := cell_of_heap hnew
          have HRR : Hid (RowAt w4 w.heap.size 0 r) := ⟨c0, c1, c2, c3⟩
          have hz0 := heap_lt hnew
          clear hnew
          have HRX : Hid (RowAt w4 b (off + k * 4) x) := by have := RowAt.of_rd (ha0.below hb4 (fun b' hb' => by have := HL.out b' hb'; omega)) hlt; rw [HX.out] at this; exact this
          obtain ⟨p0, p1, p2, p3⟩ := HRX.out
          clear ho4 hb4 HO3 HB3
          go_wp2_with fail
          refine (l2Key_c w.heap.size 0 r _ HRR.out q0 q1 q2 q3).mono ?_
          rintro e w5 ⟨rfl, m5, hw5⟩
          have ho5 : w5.ownsRow (w.heap.size + 1) 40 4 v3 (n + 1) (rcs ((acc ++ [r]))) := by rw [hw5]; exact HO4.out
          have hb5 : Below (w.heap.size + 1) (w.alloc (.cells #[.int .i64 r.1, .int .i64 r.2.1, .int .i64 r.2.2.1, .int .i64 r.2.2.2] 40)) w5 := by rw [hw5]; exact below_drewN' HB4.out m5
          have HO5 := Lib.hid ho5; have HB5 := Lib.hid hb5; clear hw5
          clear c0 c1 c2 c3 HRR hz0 HRX p0 p1 p2 p3
          have hnew := newest hb5 (by omega)
          have c0 : w5.cell? ⟨w.heap.size, 0, none⟩ = some (.int .i64 r.1) := cell_of_heap hnew
          have c1 : w5.cell? ⟨w.heap.size, 1, none⟩ = some (.int .i64 r.2.1) := cell_of_heap hnew
          have c2 : w5.cell? ⟨w.heap.size, 2, none⟩ = some (.int .i64 r.2.2.1) := cell_of_heap hnew
          have c3 : w5.cell? ⟨w.heap.size, 3, none⟩ = some (.int .i64 r.2.2.2) := cell_of_heap hnew
          have HRR : Hid (RowAt w5 w.heap.size 0 r) := ⟨c0, c1, c2, c3⟩
          have hz0 := heap_lt hnew
          clear hnew
          have HRX : Hid (RowAt w5 b (off + k * 4) x) := by have := RowAt.of_rd (ha0.below hb5 (fun b' hb' => by have := HL.out b' hb'; omega)) hlt; rw [HX.out] at this; exact this
          obtain ⟨p0, p1, p2, p3⟩ := HRX.out
          clear ho5 hb5 HO4 HB4
          by_cases hke : keyR x = keyR r
          · have hkb : (keyR x != keyR r) = false := by simp [hke]
            have hf := HE.out
            rw [if_neg (by simpa using hke)] at hf
            have hF : (acc ++ [r]) ++ setGo r true (rs.drop (k + 1)) = T := by rw [← hf]; simp
            have HF := Lib.hid hF; clear hF hf HE hke
            go_wp2_with fail
            exact ⟨⟨k + 1, n + 1, true, (acc ++ [r]), by omega, by omega, rfl, by go_num, HO5.out, HB5.out, HF.out⟩, by simp [intOf]; omega⟩
          · have hkb : (keyR x != keyR r) = true := by simp [hke]
            have hf := HE.out
            rw [if_pos (by simpa using hke)] at hf
            have hF : (acc ++ [r]) ++ [x] ++ setGo r true (rs.drop (k + 1)) = T := by rw [← hf]; simp
            have HF := Lib.hid hF; clear hF hf HE hke
            have hs6 := HB5.out.size
            simp only [World.size_alloc] at hs6
            have hrow6 : ∀ g, v3.ownBlock = some g → w.heap.size + 1 ≤ g := fun g hg => own_base' HO5.out hg
            have HRW6 := Lib.hid hrow6; clear hrow6
            have HOa6 := Lib.hid (World.ownsRow.alloc HO5.out (.cells #[.int .i64 x.1, .int .i64 x.2.1, .int .i64 x.2.2.1, .int .i64 x.2.2.2] 40))
            have HBa6 := Lib.hid (HB5.out.alloc hs6 (.cells #[.int .i64 x.1, .int .i64 x.2.1, .int .i64 x.2.2.1, .int .i64 x.2.2.2] 40))
            go_wp2_with (at_builtin; refine wpList_append_own _ rfl _ _ 24 rfl (w.heap.size + 1) 40 i0 (rv (0, 0, 0, 0)) 4 32 Tryz.underlying24 hi hz hsz hby rfl (by decide) _ _ _ rfl HOa6.out ⟨w5.heap.size, 0, none⟩ 1 1 (rc x) rfl rfl ?c1_6 ?c2_6 ?c3_6 ?c4_6 ?c5_6 ?_)
            case c1_6 => exact rc_new (w := w5) x
            case c2_6 => exact rc_one x
            case c3_6 => unfold maxLen; omega
            case c4_6 => omega
            case c5_6 => simp; omega
            intro v6 w6 hown6 hgrow6 _
            have hb6 := HBa6.out.grown hgrow6 (by simp; omega) HRW6.out
            have ho6 : w6.ownsRow (w.heap.size + 1) 40 4 v6 (n + 1 + 1) (rcs ((acc ++ [r]) ++ [x])) := by rw [rcs_append]; exact hown6
            have HO6 := Lib.hid ho6; have HB6 := Lib.hid hb6
            clear hown6 hgrow6 HOa6 HBa6 hs6 HRW6
            clear c0 c1 c2 c3 HRR hz0 HRX p0 p1 p2 p3
            have hnew := newest hb6 (by omega)
            have c0 : w6.cell? ⟨w.heap.size, 0, none⟩ = some (.int .i64 r.1) := cell_of_heap hnew
            have c1 : w6.cell? ⟨w.heap.size, 1, none⟩ = some (.int .i64 r.2.1) := cell_of_heap hnew
            have c2 : w6.cell? ⟨w.heap.size, 2, none⟩ = some (.int .i64 r.2.2.1) := cell_of_heap hnew
            have c3 : w6.cell? ⟨w.heap.size, 3, none⟩ = some (.int .i64 r.2.2.2) := cell_of_heap hnew
            have HRR : Hid (RowAt w6 w.heap.size 0 r) := ⟨c0, c1, c2, c3⟩
            have hz0 := heap_lt hnew
            clear hnew
            have HRX : Hid (RowAt w6 b (off + k * 4) x) := by have := RowAt.of_rd (ha0.below hb6 (fun b' hb' => by have := HL.out b' hb'; omega)) hlt; rw [HX.out] at this; exact this
            obtain ⟨p0, p1, p2, p3⟩ := HRX.out
            clear ho6 hb6 HO5 HB5
            go_wp2_with fail
            exact ⟨⟨k + 1, n + 1 + 1, true, ((acc ++ [r]) ++ [x]), by omega, by omega, rfl, by go_num, HO6.out, HB6.out, HF.out⟩, by simp [intOf]; omega⟩
        · have hdc : decide (keyR r ≤ keyR x) = false := by simp [hcm]
          have he := HE0.out
          rw [if_neg (by simp [hcm]), hdc] at he
          have hE : acc ++ ((if keyR x ≠ keyR r then [x] else []) ++ setGo r false (rs.drop (k + 1))) = T := by rw [← he]; simp
          have HE := Lib.hid hE; clear hE he HE0 hdc
          go_wp2_with fail
          refine (l2Key_c b (off + k * 4) x _ HRX.out x0 x1 x2 x3).mono ?_
          rintro e w7 ⟨rfl, m7, hw7⟩
          have ho7 : w7.ownsRow (w.heap.size + 1) 40 4 u5 (n) (rcs (acc)) := by rw [hw7]; exact HO2.out
          have hb7 : Below (w.heap.size + 1) (w.alloc (.cells #[.int .i64 r.1, .int .i64 r.2.1, .int .i64 r.2.2.1, .int .i64 r.2.2.2] 40)) w7 := by rw [hw7]; exact below_drewN' HB2.out m7
          have HO7 := Lib.hid ho7; have HB7 := Lib.hid hb7; clear hw7
          clear c0 c1 c2 c3 HRR hz0 HRX p0 p1 p2 p3
          have hnew := newest hb7 (by omega)
          have c0 : w7.cell? ⟨w.heap.size, 0, none⟩ = some (.int .i64 r.1) := cell_of_heap hnew
          have c1 : w7.cell? ⟨w.heap.size, 1, none⟩ = some (.int .i64 r.2.1) := cell_of_heap hnew
          have c2 : w7.cell? ⟨w.heap.size, 2, none⟩ = some (.int .i64 r.2.2.1) := cell_of_heap hnew
          have c3 : w7.cell? ⟨w.heap.size, 3, none⟩ = some (.int .i64 r.2.2.2) := cell_of_heap hnew
          have HRR : Hid (RowAt w7 w.heap.size 0 r) := ⟨c0, c1, c2, c3⟩
          have hz0 := heap_lt hnew
          clear hnew
          have HRX : Hid (RowAt w7 b (off + k * 4) x) := by have := RowAt.of_rd (ha0.below hb7 (fun b' hb' => by have := HL.out b' hb'; omega)) hlt; rw [HX.out] at this; exact this
          obtain ⟨p0, p1, p2, p3⟩ := HRX.out
          clear ho7 hb7 HO2 HB2
          go_wp2_with fail
          refine (l2Key_c w.heap.size 0 r _ HRR.out q0 q1 q2 q3).mono ?_
          rintro e w8 ⟨rfl, m8, hw8⟩
          have ho8 : w8.ownsRow (w.heap.size + 1) 40 4 u5 (n) (rcs (acc)) := by rw [hw8]; exact HO7.out
          have hb8 : Below (w.heap.size + 1) (w.alloc (.cells #[.int .i64 r.1, .int .i64 r.2.1, .int .i64 r.2.2.1, .int .i64 r.2.2.2] 40)) w8 := by rw [hw8]; exact below_drewN' HB7.out m8
          have HO8 := Lib.hid ho8; have HB8 := Lib.hid hb8; clear hw8
          clear c0 c1 c2 c3 HRR hz0 HRX p0 p1 p2 p3
          have hnew := newest hb8 (by omega)
          have c0 : w8.cell? ⟨w.heap.size, 0, none⟩ = some (.int .i64 r.1) := cell_of_heap hnew
          have c1 : w8.cell? ⟨w.heap.size, 1, none⟩ = some (.int .i64 r.2.1) := cell_of_heap hnew
          have c2 : w8.cell? ⟨w.heap.size, 2, none⟩ = some (.int .i64 r.2.2.1) := cell_of_heap hnew
          have c3 : w8.cell? ⟨w.heap.size, 3, none⟩ = some (.int .i64 r.2.2.2) := cell_of_heap hnew
          have HRR : Hid (RowAt w8 w.heap.size 0 r) := ⟨c0, c1, c2, c3⟩
          have hz0 := heap_lt hnew
          clear hnew
          have HRX : Hid (RowAt w8 b (off + k * 4) x) := by have := RowAt.of_rd (ha0.below hb8 (fun b' hb' => by have := HL.out b' hb'; omega)) hlt; rw [HX.out] at this; exact this
          obtain ⟨p0, p1, p2, p3⟩ := HRX.out
          clear ho8 hb8 HO7 HB7
          by_cases hke : keyR x = keyR r
          · have hkb : (keyR x != keyR r) = false := by simp [hke]
            have hf := HE.out
            rw [if_neg (by simpa using hke)] at hf
            have hF : acc ++ setGo r false (rs.drop (k + 1)) = T := by rw [← hf]; simp
            have HF := Lib.hid hF; clear hF hf HE hke
            go_wp2_with fail
            exact ⟨⟨k + 1, n, false, acc, by omega, by omega, rfl, by go_num, HO8.out, HB8.out, HF.out⟩, by simp [intOf]; omega⟩
          · have hkb : (keyR x != keyR r) = true := by simp [hke]
            have hf := HE.out
            rw [if_pos (by simpa using hke)] at hf
            have hF : acc ++ [x] ++ setGo r false (rs.drop (k + 1)) = T := by rw [← hf]; simp
            have HF := Lib.hid hF; clear hF hf HE hke
            have hs9 := HB8.out.size
            simp only [World.size_alloc] at hs9
            have hrow9 : ∀ g, u5.ownBlock = some g → w.heap.size + 1 ≤ g := fun g hg => own_base' HO8.out hg
            have HRW9 := Lib.hid hrow9; clear hrow9
            have HOa9 := Lib.hid (World.ownsRow.alloc HO8.out (.cells #[.int .i64 x.1, .int .i64 x.2.1, .int .i64 x.2.2.1, .int .i64 x.2.2.2] 40))
            have HBa9 := Lib.hid (HB8.out.alloc hs9 (.cells #[.int .i64 x.1, .int .i64 x.2.1, .int .i64 x.2.2.1, .int .i64 x.2.2.2] 40))
            go_wp2_with (at_builtin; refine wpList_append_own _ rfl _ _ 24 rfl (w.heap.size + 1) 40 i0 (rv (0, 0, 0, 0)) 4 32 Tryz.underlying24 hi hz hsz hby rfl (by decide) _ _ _ rfl HOa9.out ⟨w8.heap.size, 0, none⟩ 1 1 (rc x) rfl rfl ?c1_9 ?c2_9 ?c3_9 ?c4_9 ?c5_9 ?_)
            case c1_9 => exact rc_new (w := w8) x
            case c2_9 => exact rc_one x
            case c3_9 => unfold maxLen; omega
            case c4_9 => omega
            case c5_9 => simp; omega
            intro v9 w9 hown9 hgrow9 _
            have hb9 := HBa9.out.grown hgrow9 (by simp; omega) HRW9.out
            have ho9 : w9.ownsRow (w.heap.size + 1) 40 4 v9 (n + 1) (rcs (acc ++ [x])) := by rw [rcs_append]; exact hown9
            have HO9 := Lib.hid ho9; have HB9 := Lib.hid hb9
            clear hown9 hgrow9 HOa9 HBa9 hs9 HRW9
            clear c0 c1 c2 c3 HRR hz0 HRX p0 p1 p2 p3
            have hnew := newest hb9 (by omega)
            have c0 : w9.cell? ⟨w.heap.size, 0, none⟩ = some (.int .i64 r.1) := cell_of_heap hnew
            have c1 : w9.cell? ⟨w.heap.size, 1, none⟩ = some (.int .i64 r.2.1) := cell_of_heap hnew
            have c2 : w9.cell? ⟨w.heap.size, 2, none⟩ = some (.int .i64 r.2.2.1) := cell_of_heap hnew
            have c3 : w9.cell? ⟨w.heap.size, 3, none⟩ = some (.int .i64 r.2.2.2) := cell_of_heap hnew
            have HRR : Hid (RowAt w9 w.heap.size 0 r) := ⟨c0, c1, c2, c3⟩
            have hz0 := heap_lt hnew
            clear hnew
            have HRX : Hid (RowAt w9 b (off + k * 4) x) := by have := RowAt.of_rd (ha0.below hb9 (fun b' hb' => by have := HL.out b' hb'; omega)) hlt; rw [HX.out] at this; exact this
            obtain ⟨p0, p1, p2, p3⟩ := HRX.out
            clear ho9 hb9 HO8 HB8
            go_wp2_with fail
            exact ⟨⟨k + 1, n + 1, false, (acc ++ [x]), by omega, by omega, rfl, by go_num, HO9.out, HB9.out, HF.out⟩, by simp [intOf]; omega⟩
      · have he := hac
        rw [if_neg (by simp), Bool.true_or] at he
        have hE : acc ++ ((if keyR x ≠ keyR r then [x] else []) ++ setGo r true (rs.drop (k + 1))) = T := by rw [← he]; simp
        have HE := Lib.hid hE; clear hE he hac
        go_wp2_with fail
        refine (l2Key_c b (off + k * 4) x _ HRX.out x0 x1 x2 x3).mono ?_
        rintro e w10 ⟨rfl, m10, hw10⟩
        have ho10 : w10.ownsRow (w.heap.size + 1) 40 4 u5 (n) (rcs (acc)) := by rw [hw10]; exact HO.out
        have hb10 : Below (w.heap.size + 1) (w.alloc (.cells #[.int .i64 r.1, .int .i64 r.2.1, .int .i64 r.2.2.1, .int .i64 r.2.2.2] 40)) w10 := by rw [hw10]; exact below_drewN' HB.out m10
        have HO10 := Lib.hid ho10; have HB10 := Lib.hid hb10; clear hw10
        clear c0 c1 c2 c3 HRR hz0 HRX p0 p1 p2 p3
        have hnew := newest hb10 (by omega)
        have c0 : w10.cell? ⟨w.heap.size, 0, none⟩ = some (.int .i64 r.1) := cell_of_heap hnew
        have c1 : w10.cell? ⟨w.heap.size, 1, none⟩ = some (.int .i64 r.2.1) := cell_of_heap hnew
        have c2 : w10.cell? ⟨w.heap.size, 2, none⟩ = some (.int .i64 r.2.2.1) := cell_of_heap hnew
        have c3 : w10.cell? ⟨w.heap.size, 3, none⟩ = some (.int .i64 r.2.2.2) := cell_of_heap hnew
        have HRR : Hid (RowAt w10 w.heap.size 0 r) := ⟨c0, c1, c2, c3⟩
        have hz0 := heap_lt hnew
        clear hnew
        have HRX : Hid (RowAt w10 b (off + k * 4) x) := by have := RowAt.of_rd (ha0.below hb10 (fun b' hb' => by have := HL.out b' hb'; omega)) hlt; rw [HX.out] at this; exact this
        obtain ⟨p0, p1, p2, p3⟩ := HRX.out
        clear ho10 hb10 HO HB
        go_wp2_with fail
        refine (l2Key_c w.heap.size 0 r _ HRR.out q0 q1 q2 q3).mono ?_
        rintro e w11 ⟨rfl, m11, hw11⟩
        have ho11 : w11.ownsRow (w.heap.size + 1) 40 4 u5 (n) (rcs (acc)) := by rw [hw11]; exact HO10.out
        have hb11 : Below (w.heap.size + 1) (w.alloc (.cells #[.int .i64 r.1, .int .i64 r.2.1, .int .i64 r.2.2.1, .int .i64 r.2.2.2] 40)) w11 := by rw [hw11]; exact below_drewN' HB10.out m11
        have HO11 := Lib.hid ho11; have HB11 := Lib.hid hb11; clear hw11
        clear c0 c1 c2 c3 HRR hz0 HRX p0 p1 p2 p3
        have hnew := newest hb11 (by omega)
        have c0 : w11.cell? ⟨w.heap.size, 0, none⟩ = some (.int .i64 r.1) := cell_of_heap hnew
        have c1 : w11.cell? ⟨w.heap.size, 1, none⟩ = some (.int .i64 r.2.1) := cell_of_heap hnew
        have c2 : w11.cell? ⟨w.heap.size, 2, none⟩ = some (.int .i64 r.2.2.1) := cell_of_heap hnew
        have c3 : w11.cell? ⟨w.heap.size, 3, none⟩ = some (.int .i64 r.2.2.2) := cell_of_heap hnew
        have HRR : Hid (RowAt w11 w.heap.size 0 r) := ⟨c0, c1, c2, c3⟩
        have hz0 := heap_lt hnew
        clear hnew
        have HRX : Hid (RowAt w11 b (off + k * 4) x) := by have := RowAt.of_rd (ha0.below hb11 (fun b' hb' => by have := HL.out b' hb'; omega)) hlt; rw [HX.out] at this; exact this
        obtain ⟨p0, p1, p2, p3⟩ := HRX.out
        clear ho11 hb11 HO10 HB10
        by_cases hke : keyR x = keyR r
        · have hkb : (keyR x != keyR r) = false := by simp [hke]
          have hf := HE.out
          rw [if_neg (by simpa using hke)] at hf
          have hF : acc ++ setGo r true (rs.drop (k + 1)) = T := by rw [← hf]; simp
          have HF := Lib.hid hF; clear hF hf HE hke
          go_wp2_with fail
          exact ⟨⟨k + 1, n, true, acc, by omega, by omega, rfl, by go_num, HO11.out, HB11.out, HF.out⟩, by simp [intOf]; omega⟩
        · have hkb : (keyR x != keyR r) = true := by simp [hke]
          have hf := HE.out
          rw [if_pos (by simpa using hke)] at hf
          have hF : acc ++ [x] ++ setGo r true (rs.drop (k + 1)) = T := by rw [← hf]; simp
          have HF := Lib.hid hF; clear hF hf HE hke
          have hs12 := HB11.out.size
          simp only [World.size_alloc] at hs12
          have hrow12 : ∀ g, u5.ownBlock = some g → w.heap.size + 1 ≤ g := fun g hg => own_base' HO11.out hg
          have HRW12 := Lib.hid hrow12; clear hrow12
          have HOa12 := Lib.hid (World.ownsRow.alloc HO11.out (.cells #[.int .i64 x.1, .int .i64 x.2.1, .int .i64 x.2.2.1, .int .i64 x.2.2.2] 40))
          have HBa12 := Lib.hid (HB11.out.alloc hs12 (.cells #[.int .i64 x.1, .int .i64 x.2.1, .int .i64 x.2.2.1, .int .i64 x.2.2.2] 40))
          go_wp2_with (at_builtin; refine wpList_append_own _ rfl _ _ 24 rfl (w.heap.size + 1) 40 i0 (rv (0, 0, 0, 0)) 4 32 Tryz.underlying24 hi hz hsz hby rfl (by decide) _ _ _ rfl HOa12.out ⟨w11.heap.size, 0, none⟩ 1 1 (rc x) rfl rfl ?c1_12 ?c2_12 ?c3_12 ?c4_12 ?c5_12 ?_)
          case c1_12 => exact rc_new (w := w11) x
          case c2_12 => exact rc_one x
          case c3_12 => unfold maxLen; omega
          case c4_12 => omega
          case c5_12 => simp; omega
          intro v12 w12 hown12 hgrow12 _
          have hb12 := HBa12.out.grown hgrow12 (by simp; omega) HRW12.out
          have ho12 : w12.ownsRow (w.heap.size + 1) 40 4 v12 (n + 1) (rcs (acc ++ [x])) := by rw [rcs_append]; exact hown12
          have HO12 := Lib.hid ho12; have HB12 := Lib.hid hb12
          clear hown12 hgrow12 HOa12 HBa12 hs12 HRW12
          clear c0 c1 c2 c3 HRR hz0 HRX p0 p1 p2 p3
          have hnew := newest hb12 (by omega)
          have c0 : w12.cell? ⟨w.heap.size, 0, none⟩ = some (.int .i64 r.1) := cell_of_heap hnew
          have c1 : w12.cell? ⟨w.heap.size, 1, none⟩ = some (.int .i64 r.2.1) := cell_of_heap hnew
          have c2 : w12.cell? ⟨w.heap.size, 2, none⟩ = some (.int .i64 r.2.2.1) := cell_of_heap hnew
          have c3 : w12.cell? ⟨w.heap.size, 3, none⟩ = some (.int .i64 r.2.2.2) := cell_of_heap hnew
          have HRR : Hid (RowAt w12 w.heap.size 0 r) := ⟨c0, c1, c2, c3⟩
          have hz0 := heap_lt hnew
          clear hnew
          have HRX : Hid (RowAt w12 b (off + k * 4) x) := by have := RowAt.of_rd (ha0.below hb12 (fun b' hb' => by have := HL.out b' hb'; omega)) hlt; rw [HX.out] at this; exact this
          obtain ⟨p0, p1, p2, p3⟩ := HRX.out
          clear ho12 hb12 HO11 HB11
          go_wp2_with fail
          exact ⟨⟨k + 1, n + 1, true, (acc ++ [x]), by omega, by omega, rfl, by go_num, HO12.out, HB12.out, HF.out⟩, by simp [intOf]; omega⟩
    · obtain rfl : k = rs.length := by omega
      have hac := hacc.out
      rw [List.drop_length] at hac
      have HO := Lib.hid hown; have HB := Lib.hid hbel
      have hnew := newest hbel (by omega)
      have c0 : wr.cell? ⟨w.heap.size, 0, none⟩ = some (.int .i64 r.1) := cell_of_heap hnew
      have c1 : wr.cell? ⟨w.heap.size, 1, none⟩ = some (.int .i64 r.2.1) := cell_of_heap hnew
      have c2 : wr.cell? ⟨w.heap.size, 2, none⟩ = some (.int .i64 r.2.2.1) := cell_of_heap hnew
      have c3 : wr.cell? ⟨w.heap.size, 3, none⟩ = some (.int .i64 r.2.2.2) := cell_of_heap hnew
      have HRR : Hid (RowAt wr w.heap.size 0 r) := ⟨c0, c1, c2, c3⟩
      have hz0 := heap_lt hnew
      clear hnew
      clear hown hbel hacc
      cases done
      · have HF : Hid (acc ++ [r] = T) := hac
        clear hac
        have hs13 := HB.out.size
        simp only [World.size_alloc] at hs13
        have hrow13 : ∀ g, u5.ownBlock = some g → w.heap.size + 1 ≤ g := fun g hg => own_base' HO.out hg
        have HRW13 := Lib.hid hrow13; clear hrow13
        have HOa13 := Lib.hid (World.ownsRow.alloc HO.out (.cells #[.int .i64 r.1, .int .i64 r.2.1, .int .i64 r.2.2.1, .int .i64 r.2.2.2] 40))
        have HBa13 := Lib.hid (HB.out.alloc hs13 (.cells #[.int .i64 r.1, .int .i64 r.2.1, .int .i64 r.2.2.1, .int .i64 r.2.2.2] 40))
        go_wp2_with (at_builtin; refine wpList_append_own _ rfl _ _ 24 rfl (w.heap.size + 1) 40 i0 (rv (0, 0, 0, 0)) 4 32 Tryz.underlying24 hi hz hsz hby rfl (by decide) _ _ _ rfl HOa13.out ⟨wr.heap.size, 0, none⟩ 1 1 (rc r) rfl rfl ?c1_13 ?c2_13 ?c3_13 ?c4_13 ?c5_13 ?_)
        case c1_13 => exact rc_new (w := wr) r
        case c2_13 => exact rc_one r
        case c3_13 => unfold maxLen; omega
        case c4_13 => omega
        case c5_13 => simp; omega
        intro v13 w13 hown13 hgrow13 _
        have hb13 := HBa13.out.grown hgrow13 (by simp; omega) HRW13.out
        have ho13 : w13.ownsRow (w.heap.size + 1) 40 4 v13 (n + 1) (rcs (acc ++ [r])) := by rw [rcs_append]; exact hown13
        have HO13 := Lib.hid ho13; have HB13 := Lib.hid hb13
        clear hown13 hgrow13 HOa13 HBa13 hs13 HRW13
        clear c0 c1 c2 c3 HRR hz0
        have hnew := newest hb13 (by omega)
        have c0 : w13.cell? ⟨w.heap.size, 0, none⟩ = some (.int .i64 r.1) := cell_of_heap hnew
        have c1 : w13.cell? ⟨w.heap.size, 1, none⟩ = some (.int .i64 r.2.1) := cell_of_heap hnew
        have c2 : w13.cell? ⟨w.heap.size, 2, none⟩ = some (.int .i64 r.2.2.1) := cell_of_heap hnew
        have c3 : w13.cell? ⟨w.heap.size, 3, none⟩ = some (.int .i64 r.2.2.2) := cell_of_heap hnew
        have HRR : Hid (RowAt w13 w.heap.size 0 r) := ⟨c0, c1, c2, c3⟩
        have hz0 := heap_lt hnew
        clear hnew
        clear ho13 hb13 HO HB
        obtain ⟨fq, hrv, hnv, hfv⟩ := Rd.of_own HO13.out
        rw [HF.out] at hrv
        go_wp2
        go_ret
        exact ⟨_, fq, rfl, hrv, hnv, hfv.mono (by omega), (below_new _).trans (HB13.out.mono (by omega)), _, _, Nat.le_succ _, by rw [← HF.out]; exact HO13.out⟩
      · have HF : Hid (acc = T) := by rw [← hac]; exact (List.append_nil _).symm
        obtain ⟨fq, hrv, hnv, hfv⟩ := Rd.of_own HO.out
        rw [HF.out] at hrv
        clear hac
        go_wp2
        go_ret
        exact ⟨_, fq, rfl, hrv, hnv, hfv.mono (by omega), (below_new _).trans (HB.out.mono (by omega)), _, _, Nat.le_succ _, by rw [← HF.out]; exact HO.out⟩

/-- The rows in which a row is set. -/
def setR (rs : List R) (r : R) : List R := setGo r (emptyB r) rs
theorem l2Set_c (A : Option Addr) (c : Nat) (rs : List R) (r : R) (w : World) (fp : List Nat) (hs : rs.length ≤ 1000000) (hfit : Fits rs) (hr : Fit r) (ha : Rd w 4 (.slice A rs.length c) (rcs rs) fp) :
    Calls Tryz.prog 67 #[.slice A rs.length c, rv r] w (RowsPost w (setR rs r)) := by
  unfold setR emptyB
  cases h1 : (r.2.2.1 == 0)
  · exact l2Set_a A c rs r w fp h1 hs hfit hr ha
  · cases h2 : (r.2.2.2 == 0)
    · exact l2Set_b A c rs r w fp h1 h2 hs hfit hr ha
    · exact l2Set_d A c rs r w fp h1 h2 hs hfit hr ha
end Go.Proofs.YtldimfmhbdhbnaaGreat

/-
  Contracts of the model's l2Merge.
-/
namespace Go.Proofs.YtldimfmhbdhbnaaGreat
open Go.RowKit

/-- What is still to be appended when a row is merged among the rows that follow. -/
def mergeGo (r : R) : Bool → List R → List R
  | done, [] => if done then [] else [r]
  | done, x :: t => (if done = false ∧ keyR r < keyR x then [r] else []) ++ ([x]) ++ mergeGo r (done || decide (keyR r < keyR x)) t
theorem mergeGo_at (r : R) (done : Bool) (rs : List R) (k : Nat) (h : k < rs.length) : mergeGo r done (rs.drop k) = (if done = false ∧ keyR r < keyR rs[k] then [r] else []) ++ ([rs[k]]) ++ mergeGo r (done || decide (keyR r < keyR rs[k])) (rs.drop (k + 1)) := by
  rw [List.drop_eq_getElem_cons h]; rfl
theorem mergeGo_len (r : R) (done : Bool) (rs : List R) : (mergeGo r done rs).length ≤ 2 * rs.length + 1 := by
  induction rs generalizing done with
  | nil => unfold mergeGo; split <;> simp
  | cons x t ih =>
    unfold mergeGo
    have := ih (done || decide (keyR r < keyR x))
    have e1 : (x :: t).length = t.length + 1 := rfl
    rw [List.length_append, List.length_append, e1]
    have h1 : (if done = false ∧ keyR r < keyR x then [r] else []).length ≤ 1 := by split <;> simp
    have h2 : ([x]).length ≤ 1 := by simp
    omega

set_option maxRecDepth 100000 in
set_option maxHeartbeats 8000000 in
theorem l2Merge_c (A : Option Addr) (c : Nat) (rs : List R) (r : R) (w : World) (fp : List Nat) (hs : rs.length ≤ 1000000) (hfit : Fits rs) (hr : Fit r) (ha : Rd w 4 (.slice A rs.length c) (rcs rs) fp) :
    Calls Tryz.prog 84 #[.slice A rs.length c, rv r] w (RowsPost w (mergeGo r false rs)) := by
  have hlt0 := ha.lt
  have ha0 := ha.alloc (.cells #[.int .i64 r.1, .int .i64 r.2.1, .int .i64 r.2.2.1, .int .i64 r.2.2.2] 40)
  have HL := Lib.hid hlt0; clear hlt0
  have HFT := Lib.hid hfit; clear hfit
  obtain ⟨q0, q1, q2, q3⟩ := hr
  obtain ⟨i0, hi, hz, hsz, hby⟩ := infoRow
  generalize hT : mergeGo r false rs = T
  have hT0 : ([] : List R) ++ mergeGo r false (rs.drop 0) = T := by rw [← hT]; rfl
  have HT0 := Lib.hid hT0; clear hT hT0
  go_enter Tryz.func84, Tryz.ntmps84
  go_wp2
  go_loopw [5, 6, 7] (fun v dn i wr => ∃ (k n : Nat) (done : Bool) (acc : List R), k ≤ rs.length ∧ n ≤ 2 * k ∧ dn = .bool done ∧ i = .int .i64 k ∧ wr.ownsRow (w.heap.size + 1) 40 4 v n (rcs acc) ∧ Below (w.heap.size + 1) (w.alloc (.cells #[.int .i64 r.1, .int .i64 r.2.1, .int .i64 r.2.2.1, .int .i64 r.2.2.2] 40)) wr ∧ Hid (acc ++ mergeGo r done (rs.drop k) = T)) (fun _ _ i _ => rs.length - (intOf i).toNat)
  case atStart => exact ⟨0, 0, false, [], Nat.zero_le _, by omega, rfl, rfl, by have := own_emptyR (w := (w.alloc (.cells #[.int .i64 r.1, .int .i64 r.2.1, .int .i64 r.2.2.1, .int .i64 r.2.2.2] 40))) (t := 40) (base := w.heap.size + 1) (by simp); simpa [rcs] using this, (Below.refl _ _).alloc (by simp) _, HT0.out⟩
  case round =>
    obtain ⟨k, n, done, acc, hk, hn, rfl, rfl, hown, hbel, hacc⟩ := hrel
    by_cases hlt : k < rs.length
    · obtain ⟨b, off, hA, _, _, _, _, _, _⟩ := ha.row_at hlt
      subst hA
      obtain ⟨x0, x1, x2, x3⟩ := HFT.out k hlt
      have hac := hacc.out
      rw [mergeGo_at r done rs k hlt] at hac
      generalize hx : rs[k] = x at *
      have HX := Lib.hid hx; clear hx hacc
      have HO := Lib.hid hown; have HB := Lib.hid hbel
      have hnew := newest hbel (by omega)
      have c0 : wr.cell? ⟨w.heap.size, 0, none⟩ = some (.int .i64 r.1) := cell_of_heap hnew
      have c1 : wr.cell? ⟨w.heap.size, 1, none⟩ = some (.int .i64 r.2.1) := cell_of_heap hnew
      have c2 : wr.cell? ⟨w.heap.size, 2, none⟩ = some (.int .i64 r.2.2.1) := cell_of_heap hnew
      have c3 : wr.cell? ⟨w.heap.size, 3, none⟩ = some (.int .i64 r.2.2.2) := cell_of_heap hnew
      have HRR : Hid (RowAt wr w.heap.size 0 r) := ⟨c0, c1, c2, c3⟩
      have hz0 := heap_lt hnew
      clear hnew
      have HRX : Hid (RowAt wr b (off + k * 4) x) := by have := RowAt.of_rd (ha0.below hbel (fun b' hb' => by have := HL.out b' hb'; omega)) hlt; rw [HX.out] at this; exact this
      obtain ⟨p0, p1, p2, p3⟩ := HRX.out
      clear hown hbel
      cases done
      · have HE0 := Lib.hid hac; clear hac
        go_wp2_with fail
        refine (l2Key_c b (off + k * 4) x _ HRX.out x0 x1 x2 x3).mono ?_
        rintro e w1 ⟨rfl, m1, hw1⟩
        have ho1 : w1.ownsRow (w.heap.size + 1) 40 4 u5 (n) (rcs (acc)) := by rw [hw1]; exact HO.out
        have hb1 : Below (w.heap.size + 1) (w.alloc (.cells #[.int .i64 r.1, .int .i64 r.2.1, .int .i64 r.2.2.1, .int .i64 r.2.2.2] 40)) w1 := by rw [hw1]; exact below_drewN' HB.out m1
        have HO1 := Lib.hid ho1; have HB1 := Lib.hid hb1; clear hw1
        clear c0 c1 c2 c3 HRR hz0 HRX p0 p1 p2 p3
        have hnew := newest hb1 (by omega)
        have c0 : w1.cell? ⟨w.heap.size, 0, none⟩ = some (.int .i64 r.1) := cell_of_heap hnew
        have c1 : w1.cell? ⟨w.heap.size, 1, none⟩ = some (.int .i64 r.2.1) := cell_of_heap hnew
        have c2 : w1.cell? ⟨w.heap.size, 2, none⟩ = some (.int .i64 r.2.2.1) := cell_of_heap hnew
        have c3 : w1.cell? ⟨w.heap.size, 3, none⟩ = some (.int .i64 r.2.2.2) := cell_of_heap hnew
        have HRR : Hid (RowAt w1 w.heap.size 0 r) := ⟨c0, c1, c2, c3⟩
        have hz0 := heap_lt hnew
        clear hnew
        have HRX : Hid (RowAt w1 b (off + k * 4) x) := by have := RowAt.of_rd (ha0.below hb1 (fun b' hb' => by have := HL.out b' hb'; omega)) hlt; rw [HX.out] at this; exact this
        obtain ⟨p0, p1, p2, p3⟩ := HRX.out
        clear ho1 hb1 HO HB
        go_wp2_with fail
        refine (l2Key_c w.heap.size 0 r _ HRR.out q0 q1 q2 q3).mono ?_
        rintro e w2 ⟨rfl, m2, hw2⟩
        have ho2 : w2.ownsRow (w.heap.size + 1) 40 4 u5 (n) (rcs (acc)) := by rw [hw2]; exact HO1.out
        have hb2 : Below (w.heap.size + 1) (w.alloc (.cells #[.int .i64 r.1, .int .i64 r.2.1, .int .i64 r.2.2.1, .int .i64 r.2.2.2] 40)) w2 := by rw [hw2]; exact below_drewN' HB1.out m2
        have HO2 := Lib.hid ho2; have HB2 := Lib.hid hb2; clear hw2
        clear c0 c1 c2 c3 HRR hz0 HRX p0 p1 p2 p3
        have hnew := newest hb2 (by omega)
        have c0 : w2.cell? ⟨w.heap.size, 0, none⟩ = some (.int .i64 r.1) := cell_of_heap hnew
        have c1 : w2.cell? ⟨w.heap.size, 1, none⟩ = some (.int .i64 r.2.1) := cell_of_heap hnew
        have c2 : w2.cell? ⟨w.heap.size, 2, none⟩ = some (.int .i64 r.2.2.1) := cell_of_heap hnew
        have c3 : w2.cell? ⟨w.heap.size, 3, none⟩ = some (.int .i64 r.2.2.2) := cell_of_heap hnew
        have HRR : Hid (RowAt w2 w.heap.size 0 r) := ⟨c0, c1, c2, c3⟩
        have hz0 := heap_lt hnew
        clear hnew
        have HRX : Hid (RowAt w2 b (off + k * 4) x) := by have := RowAt.of_rd (ha0.below hb2 (fun b' hb' => by have := HL.out b' hb'; omega)) hlt; rw [HX.out] at this; exact this
        obtain ⟨p0, p1, p2, p3⟩ := HRX.out
        clear ho2 hb2 HO1 HB1
        by_cases hcm : keyR r < keyR x
        · have hdc : decide (keyR r < keyR x) = true := by simp [hcm]
          have he := HE0.out
          rw [if_pos (by simp [hcm]), hdc] at he
          have hE : acc ++ [r] ++ (([x]) ++ mergeGo r true (rs.drop (k + 1))) = T := by rw [← he]; simp
          have HE := Lib.hid hE; clear hE he HE0 hdc
          have hs3 := HB2.out.size
          simp only [World.size_alloc] at hs3
          have hrow3 : ∀ g, u5.ownBlock = some g → w.heap.size + 1 ≤ g := fun g hg => own_base' HO2.out hg
          have HRW3 := Lib.hid hrow3; clear hrow3
          have HOa3 := Lib.hid (World.ownsRow.alloc HO2.out (.cells #[.int .i64 r.1, .int .i64 r.2.1, .int .i64 r.2.2.1, .int .i64 r.2.2.2] 40))
          have HBa3 := Lib.hid (HB2.out.alloc hs3 (.cells #[.int .i64 r.1, .int .i64 r.2.1, .int .i64 r.2.2.1, .int .i64 r.2.2.2] 40))
          go_wp2_with (at_builtin; refine wpList_append_own _ rfl _ _ 24 rfl (w.heap.size + 1) 40 i0 (rv (0, 0, 0, 0)) 4 32 Tryz.underlying24 hi hz hsz hby rfl (by decide) _ _ _ rfl HOa3.out ⟨w2.heap.size, 0, none⟩ 1 1 (rc r) rfl rfl ?c1_3 ?c2_3 ?c3_3 ?c4_3 ?c5_3 ?_)
          case c1_3 => exact rc_new (w := w2) r
          case c2_3 => exact rc_one r
          case c3_3 => unfold maxLen; omega
          case c4_3 => omega
          case c5_3 => simp; omega
          intro v3 w3 hown3 hgrow3 _
          have hb3 := HBa3.out.grown hgrow3 (by simp; omega) HRW3.out
          have ho3 : w3.ownsRow (w.heap.size + 1) 40 4 v3 (n + 1) (rcs (acc ++ [r])) := by rw [rcs_append]; exact hown3
          have HO3 := Lib.hid ho3; have HB3 := Lib.hid hb3
          clear hown3 hgrow3 HOa3 HBa3 hs3 HRW3
          clear c0 c1 c2 c3 HRR hz0 HRX p0 p1 p2 p3
          have hnew := newest hb3 (by omega)
          have c0 : w3.cell? ⟨w.heap.size, 0, none⟩ = some (.int .i64 r.1) := cell_of_heap hnew
          have c1 : w3.cell? ⟨w.heap.size, 1, none⟩ = some (.int .i64 r.2.1) := cell_of_heap hnew
          have c2 : w3.cell? ⟨w.heap.size, 2, none⟩ = some (.int .i64 r.2.2.1) := cell_of_heap hnew
          have c3 : w3.cell? ⟨w.heap.size, 3, none⟩ = some (.int .i64 r.2.2.2) := cell_of_heap hnew
          have HRR : Hid (RowAt w3 w.heap.size 0 r) := ⟨c0, c1, c2, c3⟩
          have hz0 := heap_lt hnew
          clear hnew
          have HRX : Hid (RowAt w3 b (off + k * 4) x) := by have := RowAt.of_rd (ha0.below hb3 (fun b' hb' => by have := HL.out b' hb'; omega)) hlt; rw [HX.out] at this; exact this
          obtain ⟨p0, p1, p2, p3⟩ := HRX.out
          clear ho3 hb3 HO2 HB2
          have hf := HE.out
          have hF : (acc ++ [r]) ++ [x] ++ mergeGo r true (rs.drop (k + 1)) = T := by rw [← hf]; simp
          have HF := Lib.hid hF; clear hF hf HE
          have hs4 := HB3.out.size
          simp only [World.size_alloc] at hs4
          have hrow4 : ∀ g, v3.ownBlock = some g → w.heap.size + 1 ≤ g := fun g hg => own_base' HO3.out hg
          have HRW4 := Lib.hid hrow4; clear hrow4
          have HOa4 := Lib.hid (World.ownsRow.alloc HO3.out (.cells #[.int .i64 x.1, .int .i64 x.2.1, .int .i64 x.2.2.1, .int .i64 x.2.2.2] 40))
          have HBa4 := Lib.hid (HB3.out.alloc hs4 (.cells #[.int .i64 x.1, .int .i64 x.2.1, .int .i64 x.2.2.1, .int .i64 x.2.2.2] 40))
          go_wp2_with (at_builtin; refine wpList_append_own _ rfl _ _ 24 rfl (w.heap.size + 1) 40 i0 (rv (0, 0, 0, 0)) 4 32 Tryz.underlying24 hi hz hsz hby rfl (by decide) _ _ _ rfl HOa4.out ⟨w3.heap.size, 0, none⟩ 1 1 (rc x) rfl rfl ?c1_4 ?c2_4 ?c3_4 ?c4_4 ?c5_4 ?_)
          case c1_4 => exact rc_new (w := w3) x
          case c2_4 => exact rc_one x
          case c3_4 => unfold maxLen; omega
          case c4_4 => omega
          case c5_4 => simp; omega
          intro v4 w4 hown4 hgrow4 _
          have hb4 := HBa4.out.grown hgrow4 (by simp; omega) HRW4.out
          have ho4 : w4.ownsRow (w.heap.size + 1) 40 4 v4 (n + 1 + 1) (rcs ((acc ++ [r]) ++ [x])) := by rw [rcs_append]; exact hown4
          have HO4 := Lib.hid ho4; have HB4 := Lib.hid hb4
          clear hown4 hgrow4 HOa4 HBa4 hs4 HRW4
          clear c0 c1 c2 c3 HRR hz0 HRX p0 p1 p2 p3
          have hnew := newest hb4 (by omega)
          have c0 : w4.cell? ⟨w.heap.size, 0, none⟩ = some (.int .i64 r.1) := cell_of_heap hnew
          have c1 : w4.cell? ⟨w.heap.size, 1, none⟩ = some (.int .i64 r.2.1) := cell_of_heap hnew
          have c2 : w4.cell? ⟨w.heap.size, 2, none⟩ = some (.int .i64 r.2.2.1) := cell_of_heap hnew
          have c3 : w4.cell? ⟨w.heap.size, 3, none⟩ = some (.int .i64 r.2.2.2) := cell_of_heap hnew
          have HRR : Hid (RowAt w4 w.heap.size 0 r) := ⟨c0, c1, c2, c3⟩
          have hz0 := heap_lt hnew
          clear hnew
          have HRX : Hid (RowAt w4 b (off + k * 4) x) := by have := RowAt.of_rd (ha0.below hb4 (fun b' hb' => by have := HL.out b' hb'; omega)) hlt; rw [HX.out] at this; exact this
          obtain ⟨p0, p1, p2, p3⟩ := HRX.out
          clear ho4 hb4 HO3 HB3
          go_wp2_with fail
          exact ⟨⟨k + 1, n + 1 + 1, true, ((acc ++ [r]) ++ [x]), by omega, by omega, rfl, by go_num, HO4.out, HB4.out, HF.out⟩, by simp [intOf]; omega⟩
        · have hdc : decide (keyR r < keyR x) = false := by simp [hcm]
          have he := HE0.out
          rw [if_neg (by simp [hcm]), hdc] at he
          have hE : acc ++ (([x]) ++ mergeGo r false (rs.drop (k + 1))) = T := by rw [← he]; simp
          have HE := Lib.hid hE; clear hE he HE0 hdc
          have hf := HE.out
          have hF : acc ++ [x] ++ mergeGo r false (rs.drop (k + 1)) = T := by rw [← hf]; simp
          have HF := Lib.hid hF; clear hF hf HE
          have hs5 := HB2.out.size
          simp only [World.size_alloc] at hs5
          have hrow5 : ∀ g, u5.ownBlock = some g → w.heap.size + 1 ≤ g := fun g hg => own_base' HO2.out hg
          have HRW5 := Lib.hid hrow5; clear hrow5
          have HOa5 := Lib.hid (World.ownsRow.alloc HO2.out (.cells #[.int .i64 x.1, .int .i64 x.2.1, .int .i64 x.2.2.1, .int .i64 x.2.2.2] 40))
          have HBa5 := Lib.hid (HB2.out.alloc hs5 (.cells #[.int .i64 x.1, .int .i64 x.2.1, .int .i64 x.2.2.1, .int .i64 x.2.2.2] 40))
          go_wp2_with (at_builtin; refine wpList_append_own _ rfl _ _ 24 rfl (w.heap.size + 1) 40 i0 (rv (0, 0, 0, 0)) 4 32 Tryz.underlying24 hi hz hsz hby rfl (by decide) _ _ _ rfl HOa5.out ⟨w2.heap.size, 0, none⟩ 1 1 (rc x) rfl rfl ?c1_5 ?c2_5 ?c3_5 ?c4_5 ?c5_5 ?_)
          case c1_5 => exact rc_new (w := w2) x
          case c2_5 => exact rc_one x
          case c3_5 => unfold maxLen; omega
          case c4_5 => omega
          case c5_5 => simp; omega
          intro v5 w5 hown5 hgrow5 _
          have hb5 := HBa5.out.grown hgrow5 (by simp; omega) HRW5.out
          have ho5 : w5.ownsRow (w.heap.size + 1) 40 4 v5 (n + 1) (rcs (acc ++ [x])) := by rw [rcs_append]; exact hown5
          have HO5 := Lib.hid ho5; have HB5 := Lib.hid hb5
          clear hown5 hgrow5 HOa5 HBa5 hs5 HRW5
          clear c0 c1 c2 c3 HRR hz0 HRX p0 p1 p2 p3
          have hnew := newest hb5 (by omega)
          have c0 : w5.cell? ⟨w.heap.size, 0, none⟩ = some (.int .i64 r.1) := cell_of_heap hnew
          have c1 : w5.cell? ⟨w.heap.size, 1, none⟩ = some (.int .i64 r.2.1) := cell_of_heap hnew
          have c2 : w5.cell? ⟨w.heap.size, 2, none⟩ = some (.int .i64 r.2.2.1) := cell_of_heap hnew
          have c3 : w5.cell? ⟨w.heap.size, 3, none⟩ = some (.int .i64 r.2.2.2) := cell_of_heap hnew
          have HRR : Hid (RowAt w5 w.heap.size 0 r) := ⟨c0, c1, c2, c3⟩
          have hz0 := heap_lt hnew
          clear hnew
          have HRX : Hid (RowAt w5 b (off + k * 4) x) := by have := RowAt.of_rd (ha0.below hb5 (fun b' hb' => by have := HL.out b' hb'; omega)) hlt; rw [HX.out] at this; exact this
          obtain ⟨p0, p1, p2, p3⟩ := HRX.out
          clear ho5 hb5 HO2 HB2
          go_wp2_with fail
          exact ⟨⟨k + 1, n + 1, false, (acc ++ [x]), by omega, by omega, rfl, by go_num, HO5.out, HB5.out, HF.out⟩, by simp [intOf]; omega⟩
      · have he := hac
        rw [if_neg (by simp), Bool.true_or] at he
        have hE : acc ++ (([x]) ++ mergeGo r true (rs.drop (k + 1))) = T := by rw [← he]; simp
        have HE := Lib.hid hE; clear hE he hac
        have hf := HE.out
        have hF : acc ++ [x] ++ mergeGo r true (rs.drop (k + 1)) = T := by rw [← hf]; simp
        have HF := Lib.hid hF; clear hF hf HE
        have hs6 := HB.out.size
        simp only [World.size_alloc] at hs6
        have hrow6 : ∀ g, u5.ownBlock = some g → w.heap.size + 1 ≤ g := fun g hg => own_base' HO.out hg
        have HRW6 := Lib.hid hrow6; clear hrow6
        have HOa6 := Lib.hid (World.ownsRow.alloc HO.out (.cells #[.int .i64 x.1, .int .i64 x.2.1, .int .i64 x.2.2.1, .int .i64 x.2.2.2] 40))
        have HBa6 := Lib.hid (HB.out.alloc hs6 (.cells #[.int .i64 x.1, .int .i64 x.2.1, .int .i64 x.2.2.1, .int .i64 x.2.2.2] 40))
        go_wp2_with (at_builtin; refine wpList_append_own _ rfl _ _ 24 rfl (w.heap.size + 1) 40 i0 (rv (0, 0, 0, 0)) 4 32 Tryz.underlying24 hi hz hsz hby rfl (by decide) _ _ _ rfl HOa6.out ⟨wr.heap.size, 0, none⟩ 1 1 (rc x) rfl rfl ?c1_6 ?c2_6 ?c3_6 ?c4_6 ?c5_6 ?_)
        case c1_6 => exact rc_new (w := wr) x
        case c2_6 => exact rc_one x
        case c3_6 => unfold maxLen; omega
        case c4_6 => omega
        case c5_6 => simp; omega
        intro v6 w6 hown6 hgrow6 _
        have hb6 := HBa6.out.grown hgrow6 (by simp; omega) HRW6.out
        have ho6 : w6.ownsRow (w.heap.size + 1) 40 4 v6 (n + 1) (rcs (acc ++ [x])) := by rw [rcs_append]; exact hown6
        have HO6 := Lib.hid ho6; have HB6 := Lib.hid hb6
        clear hown6 hgrow6 HOa6 HBa6 hs6 HRW6
        clear c0 c1 c2 c3 HRR hz0 HRX p0 p1 p2 p3
        have hnew := newest hb6 (by omega)
        have c0 : w6.cell? ⟨w.heap.size, 0, none⟩ = some (.int .i64 r.1) := cell_of_heap hnew
        have c1 : w6.cell? ⟨w.heap.size, 1, none⟩ = some (.int .i64 r.2.1) := cell_of_heap hnew
        have c2 : w6.cell? ⟨w.heap.size, 2, none⟩ = some (.int .i64 r.2.2.1) := cell_of_heap hnew
        have c3 : w6.cell? ⟨w.heap.size, 3, none⟩ = some (.int .i64 r.2.2.2) := cell_of_heap hnew
        have HRR : Hid (RowAt w6 w.heap.size 0 r) := ⟨c0, c1, c2, c3⟩
        have hz0 := heap_lt hnew
        clear hnew
        have HRX : Hid (RowAt w6 b (off + k * 4) x) := by have := RowAt.of_rd (ha0.below hb6 (fun b' hb' => by have := HL.out b' hb'; omega)) hlt; rw [HX.out] at this; exact this
        obtain ⟨p0, p1, p2, p3⟩ := HRX.out
        clear ho6 hb6 HO HB
        go_wp2_with fail
        exact ⟨⟨k + 1, n + 1, true, (acc ++ [x]), by omega, by omega, rfl, by go_num, HO6.out, HB6.out, HF.out⟩, by simp [intOf]; omega⟩
    · obtain rfl : k = rs.length := by omega
      have hac := hacc.out
      rw [List.drop_length] at hac
      have HO := Lib.hid hown; have HB := Lib.hid hbel
      have hnew := newest hbel (by omega)
      have c0 : wr.cell? ⟨w.heap.size, 0, none⟩ = some (.int .i64 r.1) := cell_of_heap hnew
      have c1 : wr.cell? ⟨w.heap.size, 1, none⟩ = some (.int .i64 r.2.1) := cell_of_heap hnew
      have c2 : wr.cell? ⟨w.heap.size, 2, none⟩ = some (.int .i64 r.2.2.1) := cell_of_heap hnew
      have c3 : wr.cell? ⟨w.heap.size, 3, none⟩ = some (.int .i64 r.2.2.2) := cell_of_heap hnew
      have HRR : Hid (RowAt wr w.heap.size 0 r) := ⟨c0, c1, c2, c3⟩
      have hz0 := heap_lt hnew
      clear hnew
      clear hown hbel hacc
      cases done
      · have HF : Hid (acc ++ [r] = T) := hac
        clear hac
        have hs7 := HB.out.size
        simp only [World.size_alloc] at hs7
        have hrow7 : ∀ g, u5.ownBlock = some g → w.heap.size + 1 ≤ g := fun g hg => own_base' HO.out hg
        have HRW7 := Lib.hid hrow7; clear hrow7
        have HOa7 := Lib.hid (World.ownsRow.alloc HO.out (.cells #[.int .i64 r.1, .int .i64 r.2.1, .int .i64 r.2.2.1, .int .i64 r.2.2.2] 40))
        have HBa7 := Lib.hid (HB.out.alloc hs7 (.cells #[.int .i64 r.1, .int .i64 r.2.1, .int .i64 r.2.2.1, .int .i64 r.2.2.2] 40))
        go_wp2_with (at_builtin; refine wpList_append_own _ rfl _ _ 24 rfl (w.heap.size + 1) 40 i0 (rv (0, 0, 0, 0)) 4 32 Tryz.underlying24 hi hz hsz hby rfl (by decide) _ _ _ rfl HOa7.out ⟨wr.heap.size, 0, none⟩ 1 1 (rc r) rfl rfl ?c1_7 ?c2_7 ?c3_7 ?c4_7 ?c5_7 ?_)
        case c1_7 => exact rc_new (w := wr) r
        case c2_7 => exact rc_one r
        case c3_7 => unfold maxLen; omega
        case c4_7 => omega
        case c5_7 => simp; omega
        intro v7 w7 hown7 hgrow7 _
        have hb7 := HBa7.out.grown hgrow7 (by simp; omega) HRW7.out
        have ho7 : w7.ownsRow (w.heap.size + 1) 40 4 v7 (n + 1) (rcs (acc ++ [r])) := by rw [rcs_append]; exact hown7
        have HO7 := Lib.hid ho7; have HB7 := Lib.hid hb7
        clear hown7 hgrow7 HOa7 HBa7 hs7 HRW7
        clear c0 c1 c2 c3 HRR hz0
        have hnew := newest hb7 (by omega)
        have c0 : w7.cell? ⟨w.heap.size, 0, none⟩ = some (.int .i64 r.1) := cell_of_heap hnew
        have c1 : w7.cell? ⟨w.heap.size, 1, none⟩ = some (.int .i64 r.2.1) := cell_of_heap hnew
        have c2 : w7.cell? ⟨w.heap.size, 2, none⟩ = some (.int .i64 r.2.2.1) := cell_of_heap hnew
        have c3 : w7.cell? ⟨w.heap.size, 3, none⟩ = some (.int .i64 r.2.2.2) := cell_of_heap hnew
        have HRR : Hid (RowAt w7 w.heap.size 0 r) := ⟨c0, c1, c2, c3⟩
        have hz0 := heap_lt hnew
        clear hnew
        clear ho7 hb7 HO HB
        obtain ⟨fq, hrv, hnv, hfv⟩ := Rd.of_own HO7.out
        rw [HF.out] at hrv
        go_wp2
        go_ret
        exact ⟨_, fq, rfl, hrv, hnv, hfv.mono (by omega), (below_new _).trans (HB7.out.mono (by omega)), _, _, Nat.le_succ _, by rw [← HF.out]; exact HO7.out⟩
      · have HF : Hid (acc = T) := by rw [← hac]; exact (List.append_nil _).symm
        obtain ⟨fq, hrv, hnv, hfv⟩ := Rd.of_own HO.out
        rw [HF.out] at hrv
        clear hac
        go_wp2
        go_ret
        exact ⟨_, fq, rfl, hrv, hnv, hfv.mono (by omega), (below_new _).trans (HB.out.mono (by omega)), _, _, Nat.le_succ _, by rw [← HF.out]; exact HO.out⟩

/-- The rows in which a row of another key is merged. -/
def mergeR (rs : List R) (r : R) : List R := mergeGo r false rs
end Go.Proofs.YtldimfmhbdhbnaaGreat
