/-
  Contracts of the program's functions of chapter 3, sixth part: OpText.
-/
import Derived.Test.YtocllaendofndaaDoorG10
import Derived.Test.YtocllaendofndaaDoorImpl3b
namespace Go.Proofs.YtocllaendofndaaDoor
open Go.RowKit

theorem str_app3' (A B : List UInt8) : (⟨A.toArray⟩ : ByteArray) ++ (⟨#[32]⟩ ++ ⟨B.toArray⟩) = ⟨(A ++ 32 :: B).toArray⟩ := by
  have h1 := str_app [32] B
  have h2 := str_app A (32 :: B)
  rw [show (⟨#[32]⟩ : ByteArray) = ⟨[32].toArray⟩ from rfl, h1]
  exact h2

theorem num_at {w : World} {g k : Nat} {o : O} (h : w.heap[g]? = some (nbox o)) (hk : k + 1 < (opL o).length) : w.cell? ⟨g, 1 + k, none⟩ = some (.int .i64 (opL o)[k + 1]) := by
  have h7 : k = 0 ∨ k = 1 ∨ k = 2 ∨ k = 3 ∨ k = 4 ∨ k = 5 := by simp [opL] at hk; omega
  rcases h7 with rfl | rfl | rfl | rfl | rfl | rfl <;> exact cell_of_heap h
set_option maxRecDepth 100000 in
set_option maxHeartbeats 4000000 in
theorem implOpText_a (o : O) (w : World) (ho : WfO o) (hl : Ld w) : Calls Tryd.prog 15 #[ov o] w fun e w' => e = .returned (.agg #[.int .i64 (opF o), .string ⟨(otL o).toArray⟩]) ∧ Below w.heap.size w w' := by
  have hB : Below w.heap.size w ((w.alloc (obox o)).alloc (tbox 0 ⟨#[]⟩)) := below_more (below_new _) _
  have HB := Lib.hid hB; have HO := Lib.hid ho; have HL := Lib.hid hl
  clear hB ho hl
  by_cases h0 : opF o = 0
  · have e : otL o = textL o := by unfold otL; rw [if_pos h0]
    rw [h0, e, ← txt_seven]
    have hz := (opF_zero h0).1
    obtain ⟨m, hm⟩ : ∃ m : Nat, o.k = (m : Int) + 1 := ⟨(o.k - 1).toNat, by omega⟩
    have hm7 : m < 7 := by omega
    have hm7' : (m : Int) < 7 := by omega
    have H0 := Lib.hid h0
    have ht1 := txt_one o
    rw [hm] at ht1
    have HT1 := Lib.hid ht1
    have HM := Lib.hid hm
    clear h0 e hz ht1 hm
    go_enter Tryd.func15, Tryd.ntmps15
    go_wp2_with fail
    refine (implOpFault_a o _ HO.out).mono ?_
    rintro e w1 ⟨rfl, hb1⟩
    rw [H0.out]
    have hg1 : w1.heap[w.heap.size]? = some (obox o) := (hb1.block _ (by simp; omega)).trans (heap_old (heap_new w (obox o) rfl))
    have hgt : w1.heap[w.heap.size + 1]? = some (tbox 0 ⟨#[]⟩) := (hb1.block _ (by simp)).trans (heap_new (w.alloc (obox o)) _ (by simp))
    obtain ⟨c0, c1, c2, c3, c4, c5, c6, hz1⟩ := op_cells' hg1
    have c0m := c0
    rw [HM.out] at c0m
    have HB1 := Lib.hid (HB.out.trans (hb1.mono (by simp; omega)))
    have hwc := (HL.out.below HB1.out).word hm7
    have HGT := Lib.hid hgt
    clear hb1 hg1 hgt
    clear c0
    go_wp2_with fail
    rw [← HT1.out, ← HM.out]
    refine (opNumbers_c o _).mono ?_
    rintro e w2 ⟨rfl, hb2⟩
    have HB2 := Lib.hid (HB1.out.trans (hb2.mono HB1.out.size))
    have hgt2 := (hb2.block _ (heap_lt HGT.out)).trans HGT.out
    clear hb2 c0m c1 c2 c3 c4 c5 c6 hz1 hwc
    have hn3 := heap_new w2 (nbox o) rfl
    have hgt3 : (w2.alloc (nbox o)).heap[w.heap.size + 1]? = some (tbox 0 ⟨#[]⟩) := heap_old hgt2
    have HB3 := Lib.hid (below_more HB2.out (nbox o))
    have HN := Lib.hid hn3; have HGT3 := Lib.hid hgt3
    clear hn3 hgt3 hgt2 HGT
    go_wp2_with fail
    generalize w2.alloc (nbox o) = W at *
    go_loopw [4, 23] (fun out i wr => ∃ k : Nat, k ≤ 6 ∧ i = .int .i64 k ∧ out = .string ⟨(txt o (k + 1)).toArray⟩ ∧ Below W.heap.size W wr) (fun _ i _ => 6 - (intOf i).toNat)
    case atStart => exact ⟨0, by omega, rfl, rfl, Below.refl _ _⟩
    case round =>
      obtain ⟨k, hk, rfl, rfl, hbel⟩ := hrel
      have HB := Lib.hid hbel
      by_cases hlt : k < 6
      · have hlo : k + 1 < (opL o).length := by simp [opL]; omega
        have hnb := (hbel.block _ (heap_lt HN.out)).trans HN.out
        have hc := num_at hnb hlo
        have hnz := heap_lt hnb
        have hsm := opL_small H0.out (k + 1) hlo
        have hsu := txt_succ o (k + 1) (by omega) hlo
        have hln := txt_len H0.out (k + 1) (by omega)
        obtain ⟨n, hn⟩ : ∃ n : Nat, (opL o)[k + 1] = n := ⟨(opL o)[k + 1].toNat, by omega⟩
        rw [hn] at hc hsm hsu
        have hn9 : n ≤ 99999 := by omega
        rw [Int.toNat_natCast] at hsu
        have hdl := digits_len n
        have hT : (txt o (k + 1)).length ≤ 100000 := by omega
        have hT2 : (digits n).length ≤ 100000 := by omega
        have hLd := HL.out.below (HB3.out.trans (hbel.mono HB3.out.size))
        have HSU := Lib.hid hsu; have HLD := Lib.hid hLd
        clear hbel hn hsu hsm hdl hln hLd hnb
        generalize txt o (k + 1) = T at *
        go_wp2_with fail
        refine (fmt_c n hn9 _ HLD.out).mono ?_
        rintro e w3 ⟨rfl, hb3⟩
        have HBX := Lib.hid (HB.out.trans (hb3.mono HB.out.size)); clear hb3 hc
        generalize digits n = D at *
        go_wp2_with fail
        exact ⟨⟨k + 1, by omega, rfl, by rw [HSU.out]; exact congrArg Value.string (str_app3' T D), HBX.out⟩, by simp [intOf]; omega⟩
      · obtain rfl : k = 6 := by omega
        have hg := (hbel.block _ (heap_lt HGT3.out)).trans HGT3.out
        obtain ⟨c0, c1, z0, z1, hz⟩ := two_at hg
        have HBX := Lib.hid (HB3.out.trans (hbel.mono HB3.out.size))
        clear hbel hg
        go_wp2_with fail
        exact bodyPost_ret (v := .agg #[.int .i64 0, .string ⟨(txt o 7).toArray⟩]) (by simp [results, Tryd.results15, go_sem, c0, c1]) rfl ⟨rfl, (HBX.out.setCell (by simp) _).setCell (by simp) _⟩
  · have e : otL o = [] := by unfold otL; rw [if_neg h0]
    rw [e]
    generalize hC : opF o = C at h0
    have HC := Lib.hid hC
    clear hC e
    have hne : (C != 0) = true := by simpa using h0
    go_enter Tryd.func15, Tryd.ntmps15
    go_wp2_with fail
    refine (implOpFault_a o _ HO.out).mono ?_
    rintro e w1 ⟨rfl, hb1⟩
    rw [HC.out]
    have hg1 : w1.heap[w.heap.size + 1]? = some (tbox 0 ⟨#[]⟩) := (hb1.block _ (by simp)).trans (heap_new (w.alloc (obox o)) _ (by simp))
    obtain ⟨c0, c1, z0, z1, hz⟩ := two_at hg1
    have HB1 := Lib.hid (HB.out.trans (hb1.mono (by simp; omega)))
    clear hb1 hg1
    go_wp2_with fail
    exact bodyPost_ret (v := .agg #[.int .i64 C, .string ⟨#[]⟩]) (by simp [results, Tryd.results15, go_sem, c0, c1]) rfl ⟨rfl, (HB1.out.setCell (by simp) _).setCell (by simp) _⟩
end Go.Proofs.YtocllaendofndaaDoor
