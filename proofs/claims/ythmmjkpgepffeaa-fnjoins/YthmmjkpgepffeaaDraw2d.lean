/-
  Contracts of the model's draws of chapter 2: lists of rows that may be wrong.
-/
import Derived.Test.YthmmjkpgepffeaaDraw2c
namespace Go.Proofs.Ythmmjkpgepffeaa
open Go.RowKit

theorem own_lift {w : World} {B lo size n : Nat} {e : TypeId} {v : Value} {xs : List Value} (h : w.ownsRow B e size v n xs) (hlo : lo ≤ B) (hs : lo ≤ w.heap.size) : ∃ B', lo ≤ B' ∧ B' ≤ w.heap.size ∧ w.ownsRow B' e size v n xs := by
  rcases h.2 with h0 | ⟨g, cap, cur, h1, h2, h3, h4⟩
  · exact ⟨lo, Nat.le_refl _, hs, h.1, .inl h0⟩
  · exact ⟨B, hlo, by have := heap_lt h3; omega, h⟩
theorem made13 : madeCells (rv (0, 0, 0, 0)).cells 52 = (rcs (List.replicate 13 (0, 0, 0, 0))).toArray := by
  have := partR_zero (List.replicate 13 (0, 0, 0, 0))
  simpa [partR] using this.symm

set_option maxRecDepth 100000 in
set_option maxHeartbeats 8000000 in
theorem l2Bent_c (w : World) (s : Nat) (zs : List Int) (a : Nat) (h : Src w s zs a) (ha : a < 980000) :
    Calls Try.prog 47 #[.pointer (some ⟨s, 0, none⟩)] w (DListPost w s zs a 13 36) := by
  have hlt := h.lt
  obtain ⟨i0, hi, hz, hsz, hby⟩ := infoRow
  go_enter Try.func47, Try.ntmps47
  go_wp2_with fail
  refine (l2Draw_c _ s zs a h (by omega)).mono ?_
  rintro e w1 ⟨v, fv, rs, d, n, B0, rfl, hr, hn, hf, hB0, ho0, hm, hl, hd, hdr⟩
  obtain ⟨B, hB, hBs, ho⟩ := own_lift ho0 hB0 hdr.but.size
  clear ho0 hB0
  obtain rfl : n = rs.length := by have := ho.1; rw [rcs_length] at this; omega
  have sz1 := hdr.but.size
  have HD := Lib.hid hdr; have HM := Lib.hid hm; have HO := Lib.hid ho
  clear hdr hm ho hr hn hf
  go_wp2_with fail
  refine (l1Next_c _ s zs _ 14 HD.out.src (by omega) (by omega)).mono ?_
  rintro e w2 ⟨x, m1, rfl, hx0, hx1, hw⟩
  have hd1 := Drawn.of_next HD.out.src (by omega) hw
  have ho1 := hd1.keeps4 HO.out (by omega)
  have sz2 := hd1.but.size
  replace HD := Lib.hid (HD.out.trans hd1)
  replace HO := Lib.hid ho1
  clear hw hd1 ho1
  by_cases e0 : x = 0
  · subst e0
    go_wp2_with fail
    refine (l2BentRow_c _ s zs _ HD.out.src (by omega)).mono ?_
    rintro e w3 ⟨r, d3, rfl, hmr, hd3, hdr⟩
    have ho3 := hdr.keeps4 HO.out (by omega)
    have sz3 := hdr.but.size
    have HD3 := Lib.hid ((HD.out.trans hdr).alloc (.cells #[.int .i64 r.1, .int .i64 r.2.1, .int .i64 r.2.2.1, .int .i64 r.2.2.2] 26))
    have HOa := Lib.hid (World.ownsRow.alloc ho3 (.cells #[.int .i64 r.1, .int .i64 r.2.1, .int .i64 r.2.2.1, .int .i64 r.2.2.2] 26))
    have hrow : ∀ g, v.ownBlock = some g → w.heap.size ≤ g := fun g hg => Nat.le_trans hB (own_base' ho3 hg)
    have HRW := Lib.hid hrow
    have hB5 : B ≤ (w3.alloc (.cells #[.int .i64 r.1, .int .i64 r.2.1, .int .i64 r.2.2.1, .int .i64 r.2.2.2] 26)).heap.size := by
      simp only [World.size_alloc]
      omega
    clear hdr ho3 hrow
    go_wp2_with (at_builtin; refine wpList_append_own _ rfl _ _ 24 rfl B 26 i0 (rv (0, 0, 0, 0)) 4 32 Try.underlying24 hi hz hsz hby rfl (by decide) _ _ _ rfl HOa.out ⟨w3.heap.size, 0, none⟩ 1 1 (rc r) rfl rfl ?c1 ?c2 ?c3 ?c4 ?c5 ?_)
    case c1 => exact rc_new (w := w3) r
    case c2 => exact rc_one r
    case c3 => unfold maxLen; omega
    case c4 => omega
    case c5 => exact hB5
    intro v4 w4 hown4 hgrow4 _
    have hd4 := HD3.out.grown hgrow4 HRW.out hlt
    have ho4 : w4.ownsRow B 26 4 v4 (rs.length + 1) (rcs (rs ++ [r])) := by rw [rcs_append]; exact hown4
    obtain ⟨f4, hr4, hn4, hf4⟩ := Rd.of_own ho4
    have HD4 := Lib.hid hd4; have HO4 := Lib.hid ho4; have HR4 := Lib.hid hr4; have HN4 := Lib.hid hn4; have HF4 := Lib.hid hf4
    clear hown4 hgrow4 hd4 ho4 hr4 hn4 hf4
    go_wp2_with fail
    go_ret
    refine ⟨_, f4, rs ++ [r], d + 1 + d3, rs.length + 1, B, rfl, HR4.out, HN4.out, HF4.out.mono hB, hB, HO4.out, fun x hx => ?_, by simp; omega, by omega, HD4.out⟩
    rcases List.mem_append.1 hx with hx | hx
    · exact HM.out x hx
    · simp at hx; exact hx ▸ hmr
  by_cases e1 : x = 1
  · subst e1
    clear HO
    have hmk : (Instr.makeSlice 24 (.int .i64 13) (.int .i64 13)).run Try.prog w2 = .ok (.slice (some ⟨w2.heap.size, 0, none⟩) 13 13) (w2.alloc (.cells (madeCells (rv (0, 0, 0, 0)).cells 52) 26)) := makeRowS 13 (by omega) w2
    have ho4 : (w2.alloc (.cells (madeCells (rv (0, 0, 0, 0)).cells 52) 26)).ownsRow w2.heap.size 26 4 (.slice (some ⟨w2.heap.size, 0, none⟩) 13 13) 13 (rcs (List.replicate 13 (0, 0, 0, 0))) :=
      ⟨rfl, .inr ⟨w2.heap.size, 13, madeCells (rv (0, 0, 0, 0)).cells 52, rfl, Nat.le_refl _, heap_new w2 _ rfl, by omega, by unfold maxLen; omega, by rw [made13]; rfl, by rw [made13]; rfl⟩⟩
    obtain ⟨f4, hr4, hn4, hf4⟩ := Rd.of_own ho4
    have HD4 := Lib.hid (HD.out.alloc (.cells (madeCells (rv (0, 0, 0, 0)).cells 52) 26)); have HO4 := Lib.hid ho4; have HR4 := Lib.hid hr4; have HN4 := Lib.hid hn4; have HF4 := Lib.hid hf4
    clear ho4 hr4 hn4 hf4
    go_wp2_with fail
    go_ret
    refine ⟨_, f4, List.replicate 13 (0, 0, 0, 0), d + 1, 13, w2.heap.size, rfl, HR4.out, HN4.out, HF4.out.mono (by omega), by omega, HO4.out, fun x hx => ?_, by simp, by omega, HD4.out⟩
    obtain rfl := (List.mem_replicate.1 hx).2
    unfold Mild; simp
  by_cases e2 : x = 2
  · subst e2
    clear HO
    have HO := Lib.hid (show w2.ownsRow w2.heap.size 26 4 (.slice none 0 0) 0 (rcs []) from ⟨rfl, .inl ⟨rfl, rfl⟩⟩)
    go_wp2_with fail
    go_loopw [3, 4] (fun v i wr => ∃ (k : Nat) (acc : List R), k ≤ 12 ∧ i = .int .i64 ((k : Int) + 1) ∧ acc.length = k ∧ Hid (wr.ownsRow w2.heap.size 26 4 v k (rcs acc)) ∧ Hid (∀ r ∈ acc, Mild r) ∧ Hid (Drawn w s zs a (d + 1) wr) ∧ Hid (w2.heap.size ≤ wr.heap.size)) (fun _ i _ => 20 - (intOf i).toNat)
    case atStart => exact ⟨0, [], by omega, rfl, rfl, HO, Lib.hid (by simp), HD, Lib.hid (Nat.le_refl _)⟩
    case round =>
      obtain ⟨k, acc, hk, rfl, hlen, HOW, HMA, HDR, HLE⟩ := hrel
      by_cases hk2 : k < 12
      · have HD3 := Lib.hid (HDR.out.alloc (.cells #[.int .i64 1, .int .i64 ((k : Int) + 1), .int .i64 1, .int .i64 0] 26))
        have HOa := Lib.hid (World.ownsRow.alloc HOW.out (.cells #[.int .i64 1, .int .i64 ((k : Int) + 1), .int .i64 1, .int .i64 0] 26))
        have hrow : ∀ g, u3.ownBlock = some g → w.heap.size ≤ g := fun g hg => by have := own_base' HOW.out hg; omega
        have HRW := Lib.hid hrow
        have h2r : w2.heap.size ≤ (wr.alloc (.cells #[.int .i64 1, .int .i64 ((k : Int) + 1), .int .i64 1, .int .i64 0] 26)).heap.size := by simp only [World.size_alloc]; exact Nat.le_succ_of_le HLE.out
        clear hrow
        go_wp2_with (at_builtin; refine wpList_append_own _ rfl _ _ 24 rfl w2.heap.size 26 i0 (rv (0, 0, 0, 0)) 4 32 Try.underlying24 hi hz hsz hby rfl (by decide) _ _ _ rfl HOa.out ⟨wr.heap.size, 0, none⟩ 1 1 (rc (1, (k : Int) + 1, 1, 0)) rfl rfl ?k1 ?k2 ?k3 ?k4 ?k5 ?_)
        case k1 => exact rc_new (w := wr) (1, (k : Int) + 1, 1, 0)
        case k2 => exact rc_one _
        case k3 => unfold maxLen; omega
        case k4 => omega
        case k5 => exact h2r
        intro v4 w4 hown4 hgrow4 _
        have hd4 := HD3.out.grown hgrow4 HRW.out hlt
        have ho4 : w4.ownsRow w2.heap.size 26 4 v4 (k + 1) (rcs (acc ++ [(1, (k : Int) + 1, 1, 0)])) := by rw [rcs_append]; exact hown4
        have hle4 : w2.heap.size ≤ w4.heap.size := Nat.le_trans h2r hgrow4.size
        have hm4 : ∀ r ∈ acc ++ [(1, (k : Int) + 1, 1, 0)], Mild r := fun x hx => by
          rcases List.mem_append.1 hx with hx | hx
          · exact HMA.out x hx
          · simp at hx; rw [hx]; unfold Mild; simp only; omega
        have HD4 := Lib.hid hd4; have HO4 := Lib.hid ho4; have HM4 := Lib.hid hm4; have HLE4 := Lib.hid hle4
        clear hown4 hgrow4 hd4 ho4 hm4 hle4 h2r
        go_wp2_with fail
        exact ⟨⟨k + 1, acc ++ [(1, (k : Int) + 1, 1, 0)], by omega, by go_num, by simp; omega, HO4, HM4, HD4, HLE4⟩, by simp [intOf]; omega⟩
      · obtain ⟨f4, hr4, hn4, hf4⟩ := Rd.of_own HOW.out
        have HR4 := Lib.hid hr4; have HN4 := Lib.hid hn4; have HF4 := Lib.hid hf4
        clear hr4 hn4 hf4
        go_wp2_with fail
        go_ret
        exact ⟨_, f4, acc, d + 1, k, w2.heap.size, rfl, HR4.out, HN4.out, HF4.out.mono (by omega), by omega, HOW.out, HMA.out, by omega, by omega, HDR.out⟩
  have b0 : (x == 0) = false := by simp [e0]
  have b1 : (x == 1) = false := by simp [e1]
  have b2 : (x == 2) = false := by simp [e2]
  clear e0 e1 e2
  obtain ⟨f4, hr4, hn4, hf4⟩ := Rd.of_own HO.out
  have HR4 := Lib.hid hr4; have HN4 := Lib.hid hn4; have HF4 := Lib.hid hf4
  clear hr4 hn4 hf4
  go_wp2_with fail
  go_ret
  exact ⟨_, f4, rs, d + 1, rs.length, B, rfl, HR4.out, HN4.out, HF4.out.mono hB, hB, HO.out, HM.out, by omega, by omega, HD.out⟩
end Go.Proofs.Ythmmjkpgepffeaa
