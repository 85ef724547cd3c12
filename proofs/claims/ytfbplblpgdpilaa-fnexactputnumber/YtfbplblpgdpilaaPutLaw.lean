/- The law on PutNumber answers true for all integers: the walk. -/
import Derived.Test.YtfbplblpgdpilaaPut
namespace Go.Proofs.Ytfbplblpgdpilaa
open Go.RowKit

set_option maxHeartbeats 2000000 in
theorem lawPutNumber_c (n : Int) (w : World) :
    Calls Try.prog 4 #[.int .i64 n] w fun e w' => e = .returned (.bool true) ∧ Below w.heap.size w w' := by
  have hlen : (putL n).length ≤ 2 := by unfold putL put2; split <;> simp
  generalize hC : putC n = C
  generalize hL : putL n = L at hlen
  have HC := Lib.hid hC; have HL := Lib.hid hL; clear hC hL
  go_enter Try.func4, Try.ntmps4
  go_wp2_with fail
  refine (specPutNumber_c _ _).mono ?_
  rw [HC.out, HL.out]
  rintro e w1 ⟨r0, rfl, ⟨v0, fp0, rfl, hr0, hn0, hf0⟩, hb0⟩
  obtain ⟨A0, c0, rfl⟩ := hr0.form
  go_wp2_with fail
  refine (implPutNumber_c _ _).mono ?_
  rw [HC.out, HL.out]
  rintro e w2 ⟨r1, rfl, ⟨v1, fp1, rfl, hr1, hn1, hf1⟩, hb1⟩
  obtain ⟨A1, c1, rfl⟩ := hr1.form
  have g3 : w2.heap[w1.heap.size]? = some (.cells #[.int .i64 C, .slice A0 L.length c0] 31 (0, 0)) := newest hb1 (by simp)
  have hz1 : w1.heap.size < w2.heap.size := by have := hb1.size; simp at this; omega
  have hx0 : w2.cell? ⟨w1.heap.size, 0, none⟩ = some (.int .i64 C) := cell_of_heap g3
  have hx1 : w2.cell? ⟨w1.heap.size, 1, none⟩ = some (.slice A0 L.length c0) := cell_of_heap g3
  have hr0' := ((hr0.alloc (.cells #[.int .i64 C, .slice A0 L.length c0] 31)).below' hb1).alloc (.cells #[.int .i64 C, .slice A1 L.length c1] 31)
  have hr1' := hr1.alloc (.cells #[.int .i64 C, .slice A1 L.length c1] 31)
  have g3' := heap_old (o' := .cells #[.int .i64 C, .slice A1 L.length c1] 31) g3
  have g4' := heap_new w2 (.cells #[.int .i64 C, .slice A1 L.length c1] 31) rfl
  have hn1' : NF (w2.alloc (.cells #[.int .i64 C, .slice A1 L.length c1] 31)) fp1 := hn1.keep fun b hb => Below.heap_alloc _ _ _ (hr1.lt b hb)
  have hlt0 := hr0.lt
  have hlt1 := hr1.lt
  simp only [World.size_alloc] at hf1
  have hap : ∀ b ∈ fp0, b ∉ fp1 := apart_of (m := w1.heap.size + 1) (fun b hb => by have := hlt0 b hb; omega) hf1
  have n3 : w1.heap.size ∉ fp1 := fun h => by have := hf1 _ h; omega
  have n4 : w2.heap.size ∉ fp1 := fun h => by have := hlt1 _ h; omega
  have HG3 := Lib.hid g3'; have HG4 := Lib.hid g4'; clear g3 g3' g4'
  go_wp2_with fail
  refine (eqBytesResult_c C _ _ L _ fp1 fp0 hr1' hr0').mono ?_
  rintro e w3 ⟨rfl, hb3⟩
  have hB3 := But.of_below hb3 fp1
  have g4 := hB3.heap HG4.out n4
  have hy0 : w3.cell? ⟨w2.heap.size, 0, none⟩ = some (.int .i64 C) := cell_of_heap g4
  have hy1 : w3.cell? ⟨w2.heap.size, 1, none⟩ = some (.slice A1 L.length c1) := cell_of_heap g4
  have hr13 := hr1'.below' hb3
  have hn13 := hn1'.but (But.of_below hb3 []) hr1'.lt (by simp)
  clear hx0 hx1 g4
  go_wp2_with fail
  refine (markBytesResult_c C _ L 1 _ fp1 (by omega) (by omega) hr13 hn13).mono ?_
  rintro e w4 ⟨rfl, hbut4, hm4⟩
  have hB4 := hB3.trans hbut4
  have g4 := hB4.heap HG4.out n4
  have hy0 : w4.cell? ⟨w2.heap.size, 0, none⟩ = some (.int .i64 C) := cell_of_heap g4
  have hy1 : w4.cell? ⟨w2.heap.size, 1, none⟩ = some (.slice A1 L.length c1) := cell_of_heap g4
  clear g4
  go_wp2_with fail
  refine (heldBytesResult_c C _ L.length 1 _ fp1 (by omega) (by omega) hm4).mono ?_
  rintro e w5 ⟨rfl, hb5⟩
  have hB5 := hB4.trans (But.of_below hb5 fp1)
  have hm5 := hm4.below' hb5
  have hq1 : decide ((1 : Int) + (L.length : Int) < 0) = false := by simp; omega
  go_wp2_with fail
  refine (implPutNumber_c _ _).mono ?_
  rw [HC.out, HL.out]
  rintro e w6 ⟨r2, rfl, ⟨v2, fp2, rfl, hr2, hn2, hf2⟩, hb6⟩
  obtain ⟨A2, c2, rfl⟩ := hr2.form
  have hB6 := hB5.trans (But.of_below hb6 fp1)
  have g3 := hB6.heap HG3.out n3
  have hx0 : w6.cell? ⟨w1.heap.size, 0, none⟩ = some (.int .i64 C) := cell_of_heap g3
  have hx1 : w6.cell? ⟨w1.heap.size, 1, none⟩ = some (.slice A0 L.length c0) := cell_of_heap g3
  have hz6 : w1.heap.size < w6.heap.size := heap_lt g3
  have hr06 := (hr0'.but hB6 hap).alloc (.cells #[.int .i64 C, .slice A2 L.length c2] 31)
  have hr26 := hr2.alloc (.cells #[.int .i64 C, .slice A2 L.length c2] 31)
  have hm6 := (hm5.below' hb6).alloc (.cells #[.int .i64 C, .slice A2 L.length c2] 31)
  have hB6' := hB6.alloc (.cells #[.int .i64 C, .slice A2 L.length c2] 31)
  clear hy0 hy1 g3
  go_wp2_with fail
  refine (eqBytesResult_c C _ _ L _ fp2 fp0 hr26 hr06).mono ?_
  rintro e w7 ⟨rfl, hb7⟩
  have hB7 := hB6'.trans (But.of_below hb7 fp1)
  have g4 := hB7.heap HG4.out n4
  have hy0 : w7.cell? ⟨w2.heap.size, 0, none⟩ = some (.int .i64 C) := cell_of_heap g4
  have hy1 : w7.cell? ⟨w2.heap.size, 1, none⟩ = some (.slice A1 L.length c1) := cell_of_heap g4
  have hm7 := hm6.below' hb7
  clear hx0 hx1 g4
  go_wp2_with fail
  refine (heldBytesResult_c C _ L.length 1 _ fp1 (by omega) (by omega) hm7).mono ?_
  rintro e w8 ⟨rfl, hb8⟩
  have hB8 := hB7.trans (But.of_below hb8 fp1)
  go_wp2
  go_ret
  refine ⟨rfl, ?_⟩
  have s1 := hb0.size
  have s2 := hb1.size
  simp only [World.size_alloc] at s2
  exact hb0.trans ((((Below.refl _ _).alloc s1 _).trans (hb1.mono (by simp; omega))).trans (((Below.refl _ _).alloc (by omega) _).trans (hB8.below (by simp; omega) (hf1.mono (by omega)))))
end Go.Proofs.Ytfbplblpgdpilaa
