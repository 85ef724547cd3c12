/- The law on ReadNumbers answers true for every slice: the walk. -/
import Derived.Test.YtfbplblpgdpilaaRead
namespace Go.Proofs.Ytfbplblpgdpilaa
open Go.RowKit

set_option maxHeartbeats 4000000 in
theorem lawReadNumbers_c (a : Option Addr) (len cap : Nat) (z : List Int) (w : World) (h0 : IsRow .u8 w a len cap z) :
    Calls Try.prog 7 #[.slice a len cap] w fun e w' => e = .returned (.bool true) ∧ Below w.heap.size w w' := by
  have hlen := h0.len
  have hby := h0.byt
  obtain ⟨fp, hr⟩ := h0.rd
  clear h0
  generalize z.take len = zs at *
  subst hlen
  clear z
  have hmax := hr.len_le
  by_cases hbig : 1048576 < zs.length
  · go_enter Try.func7, Try.ntmps7
    go_wp2
    go_ret
    exact ⟨rfl, Below.refl _ _⟩
  · have hs : zs.length ≤ 1048576 := by omega
    have hLl := readL_len zs
    generalize hC : readC zs = C
    generalize hL : readL zs = L at hLl
    have HC := Lib.hid hC; have HL := Lib.hid hL; clear hC hL
    go_enter Try.func7, Try.ntmps7
    go_wp2_with fail
    refine (toByteS_k a cap zs _ fp hs hr).mono ?_
    rintro e w1 ⟨A1, c1, fp1, rfl, hr1, hn1, hf1, hb1⟩
    go_wp2_with fail
    refine (specReadNumbers_c _ _ zs _ fp1 hby hr1).mono ?_
    rw [HC.out, HL.out]
    rintro e w2 ⟨r0, rfl, ⟨v0, fp0, rfl, hr0, hn0, hf0⟩, hb2⟩
    obtain ⟨A0, c0, rfl⟩ := hr0.form
    have hb2' : Below w.heap.size w w2 := hb1.trans (hb2.mono hb1.size)
    have g5 := heap_new w2 (.cells #[.int .i64 C, .slice A0 L.length c0] 27) rfl
    have G5 := Lib.hid g5; clear g5
    have s2 := hb2'.size
    have hlt0 := hr0.lt
    have hr0a := hr0.alloc (.cells #[.int .i64 C, .slice A0 L.length c0] 27)
    go_wp2_with fail
    refine (toByteS_k a cap zs _ fp hs ((hr.below' hb2').alloc _)).mono ?_
    rintro e w3 ⟨A3, c3, fp3, rfl, hr3, hn3, hf3, hb3⟩
    simp only [World.size_alloc] at hf3
    go_wp2_with fail
    refine (implReadNumbers_c _ _ zs _ fp3 hby hr3).mono ?_
    rw [HC.out, HL.out]
    rintro e w4 ⟨r1, rfl, ⟨v1, fp4, rfl, hr4, hn4, hf4⟩, hb4⟩
    obtain ⟨A4, c4, rfl⟩ := hr4.form
    have hlt3 := hr3.lt
    have hlt4 := hr4.lt
    have s3 := hb3.size
    have s4 := hb4.size
    simp only [World.size_alloc] at s3
    have g5 := (hb4.block _ (by omega)).trans ((hb3.block _ (by simp)).trans G5.out)
    clear G5
    have hz5 := heap_lt g5
    have hx0 : w4.cell? ⟨w2.heap.size, 0, none⟩ = some (.int .i64 C) := cell_of_heap g5
    have hx1 : w4.cell? ⟨w2.heap.size, 1, none⟩ = some (.slice A0 L.length c0) := cell_of_heap g5
    have g5' := heap_old (o' := (.cells #[.int .i64 C, .slice A4 L.length c4] 27)) g5
    have g7' := heap_new w4 (.cells #[.int .i64 C, .slice A4 L.length c4] 27) rfl
    have G5 := Lib.hid g5'; have G7 := Lib.hid g7'; clear g5 g5' g7'
    -- what is known in the world behind the second struct
    have R0 := ((hr0a.below' hb3).below' hb4).alloc (.cells #[.int .i64 C, .slice A4 L.length c4] 27)
    have R3 := (hr3.below' hb4).alloc (.cells #[.int .i64 C, .slice A4 L.length c4] 27)
    have N3 : NF (w4.alloc (.cells #[.int .i64 C, .slice A4 L.length c4] 27)) fp3 := hn3.keep fun b hb => (Below.heap_alloc _ _ _ (by have := hlt3 b hb; omega)).trans (hb4.block b (hlt3 b hb))
    have R4 := hr4.alloc (.cells #[.int .i64 C, .slice A4 L.length c4] 27)
    have N4 : NF (w4.alloc (.cells #[.int .i64 C, .slice A4 L.length c4] 27)) fp4 := hn4.keep fun b hb => Below.heap_alloc _ _ _ (hlt4 b hb)
    have hw4 : Below w.heap.size w (w4.alloc (.cells #[.int .i64 C, .slice A4 L.length c4] 27)) := (hb2'.trans (((Below.refl _ _).alloc s2 _).trans ((hb3.mono (by simp; omega)).trans (hb4.mono (by omega))))).alloc (by omega) _
    have d03 : ∀ b ∈ fp0, b ∉ fp3 ++ fp4 := apart_of (m := w2.heap.size + 1) (fun b hb => by have := hlt0 b hb; omega) (fun b hb => by
      rcases List.mem_append.1 hb with h | h
      · exact hf3 b h
      · have := hf4 b h; omega)
    have d43 : ∀ b ∈ fp4, b ∉ fp3 := fun b hb h => by have := hf4 b hb; have := hlt3 b h; omega
    have n5 : w2.heap.size ∉ fp3 ++ fp4 := fun h => by
      rcases List.mem_append.1 h with h | h
      · have := hf3 _ h; omega
      · have := hf4 _ h; omega
    have n7 : w4.heap.size ∉ fp3 ++ fp4 := fun h => by
      rcases List.mem_append.1 h with h | h
      · have := hlt3 _ h; omega
      · have := hlt4 _ h; omega
    have da : ∀ b ∈ fp, b ∉ fp3 ++ fp4 := apart_of (m := w.heap.size) hr.lt (fun b hb => by
      rcases List.mem_append.1 hb with h | h
      · have := hf3 b h; omega
      · have := hf4 b h; omega)
    have dF : From w.heap.size (fp3 ++ fp4) := fun b hb => by
      rcases List.mem_append.1 hb with h | h
      · have := hf3 b h; omega
      · have := hf4 b h; omega
    have m3 : ∀ b ∈ fp3, b ∈ fp3 ++ fp4 := fun b hb => List.mem_append_left _ hb
    have m4 : ∀ b ∈ fp4, b ∈ fp3 ++ fp4 := fun b hb => List.mem_append_right _ hb
    have Ra := hr.below' hw4
    clear hr0a hn0 hn1 hr1 hf1 hr0 hf0 hb3 hb4 hb2
    have HD0 := Lib.hid d03; have HD4 := Lib.hid d43; have HDa := Lib.hid da; have HM3 := Lib.hid m3; have HM4 := Lib.hid m4; have HN5 := Lib.hid n5; have HN7 := Lib.hid n7
    have HLT0 := Lib.hid hlt0; have HLT3 := Lib.hid hlt3; have HLT4 := Lib.hid hlt4
    clear d03 d43 da m3 m4 n5 n7 hlt0 hlt3 hlt4
    go_wp2_with fail
    refine (eqIntsResult_c C _ _ L _ fp4 fp0 R4 R0).mono ?_
    rintro e w5 ⟨rfl, hb5⟩
    have hB5 := But.of_below hb5 (fp3 ++ fp4)
    clear hx0 hx1
    go_wp2_with fail
    refine (toByteS_k a cap zs _ fp hs (Ra.but hB5 HDa.out)).mono ?_
    rintro e w6 ⟨A6, c6, fp6, rfl, hr6, hn6, hf6, hb6⟩
    have hB6 := hB5.trans (But.of_below hb6 (fp3 ++ fp4))
    have R36 := (R3.below' hb5).below' hb6
    go_wp2_with fail
    refine (eqByteS_c _ _ _ _ zs _ fp3 fp6 R36 hr6).mono ?_
    rintro e w7 ⟨rfl, m, rfl⟩
    have hB7 := hB6.drewN m
    have N37 : NF (w6.drewN m) fp3 := (N3.but (But.of_below hb5 []) R3.lt (by simp)).but ((But.of_below hb6 []).drewN m) (R3.below' hb5).lt (by simp)
    go_wp2_with fail
    refine (markByteS_c A3 c3 zs.length _ 1 _ fp3 (by omega) (by omega) (R36.drewN m) N37).mono ?_
    rintro e w8 ⟨rfl, hbut8, hsz8, hm8, hnf8⟩
    clear hsz8 hnf8 hm8
    have hB8 := hB7.trans (hbut8.mono HM3.out)
    have R48 := (((R4.below' hb5).below' hb6).drewN m).but hbut8 HD4.out
    have N48 := (((N4.but (But.of_below hb5 []) R4.lt (by simp)).but ((But.of_below hb6 []).drewN m) (R4.below' hb5).lt (by simp)) : NF (w6.drewN m) fp4).but hbut8 (((R4.below' hb5).below' hb6).drewN m).lt HD4.out
    have R08 := R0.but hB8 HD0.out
    have g5 := hB8.heap G5.out HN5.out
    have g7 := hB8.heap G7.out HN7.out
    have hx0 : w8.cell? ⟨w2.heap.size, 0, none⟩ = some (.int .i64 C) := cell_of_heap g5
    have hx1 : w8.cell? ⟨w2.heap.size, 1, none⟩ = some (.slice A0 L.length c0) := cell_of_heap g5
    have hy0 : w8.cell? ⟨w4.heap.size, 0, none⟩ = some (.int .i64 C) := cell_of_heap g7
    have hy1 : w8.cell? ⟨w4.heap.size, 1, none⟩ = some (.slice A4 L.length c4) := cell_of_heap g7
    have hq1 : decide ((1 : Int) + (zs.length : Int) < 0) = false := by simp; omega
    have hq2 : ¬ ((1 : Int) + (zs.length : Int) < 0) := by omega
    clear g5 g7
    go_wp2_with fail
    refine (eqIntsResult_c C _ _ L _ fp4 fp0 R48 R08).mono ?_
    rintro e w9 ⟨rfl, hb9⟩
    have hB9 := hB8.trans (But.of_below hb9 (fp3 ++ fp4))
    have g7 := hB9.heap G7.out HN7.out
    have hy0 : w9.cell? ⟨w4.heap.size, 0, none⟩ = some (.int .i64 C) := cell_of_heap g7
    have hy1 : w9.cell? ⟨w4.heap.size, 1, none⟩ = some (.slice A4 L.length c4) := cell_of_heap g7
    clear g7 hx0 hx1
    go_wp2_with fail
    refine (markIntsResult_c C _ L 1 _ fp4 (by omega) (by omega) (R48.below' hb9) (N48.but (But.of_below hb9 []) R48.lt (by simp))).mono ?_
    rintro e w10 ⟨rfl, hbut10, hm10⟩
    have hB10 := hB9.trans (hbut10.mono HM4.out)
    have g7 := hB10.heap G7.out HN7.out
    have hy0 : w10.cell? ⟨w4.heap.size, 0, none⟩ = some (.int .i64 C) := cell_of_heap g7
    have hy1 : w10.cell? ⟨w4.heap.size, 1, none⟩ = some (.slice A4 L.length c4) := cell_of_heap g7
    clear g7
    go_wp2_with fail
    refine (heldIntsResult_c C _ L.length 1 _ fp4 (by omega) (by omega) hm10).mono ?_
    rintro e w11 ⟨rfl, hb11⟩
    have hB11 := hB10.trans (But.of_below hb11 (fp3 ++ fp4))
    have hm11 := hm10.below' hb11
    have hq3 : decide ((1 : Int) + (L.length : Int) < 0) = false := by simp; omega
    clear hy0 hy1
    go_wp2_with fail
    refine (toByteS_k a cap zs _ fp hs (Ra.but hB11 HDa.out)).mono ?_
    rintro e w12 ⟨A12, c12, fp12, rfl, hr12, hn12, hf12, hb12⟩
    have hB12 := hB11.trans (But.of_below hb12 (fp3 ++ fp4))
    have hm12 := hm11.below' hb12
    go_wp2_with fail
    refine (implReadNumbers_c _ _ zs _ fp12 hby hr12).mono ?_
    rw [HC.out, HL.out]
    rintro e w13 ⟨r2, rfl, ⟨v2, fp13, rfl, hr13, hn13, hf13⟩, hb13⟩
    obtain ⟨A13, c13, rfl⟩ := hr13.form
    have hB13 := hB12.trans (But.of_below hb13 (fp3 ++ fp4))
    have g5 := hB13.heap G5.out HN5.out
    have hx0 : w13.cell? ⟨w2.heap.size, 0, none⟩ = some (.int .i64 C) := cell_of_heap g5
    have hx1 : w13.cell? ⟨w2.heap.size, 1, none⟩ = some (.slice A0 L.length c0) := cell_of_heap g5
    have hz13 : w2.heap.size < w13.heap.size := heap_lt g5
    have R013 := (R0.but hB13 HD0.out).alloc (.cells #[.int .i64 C, .slice A13 L.length c13] 27)
    have R13 := hr13.alloc (.cells #[.int .i64 C, .slice A13 L.length c13] 27)
    have hm13 := (hm12.below' hb13).alloc (.cells #[.int .i64 C, .slice A13 L.length c13] 27)
    have hB13' := hB13.alloc (.cells #[.int .i64 C, .slice A13 L.length c13] 27)
    clear g5
    go_wp2_with fail
    refine (eqIntsResult_c C _ _ L _ fp13 fp0 R13 R013).mono ?_
    rintro e w14 ⟨rfl, hb14⟩
    have hB14 := hB13'.trans (But.of_below hb14 (fp3 ++ fp4))
    have g7 := hB14.heap G7.out HN7.out
    have hy0 : w14.cell? ⟨w4.heap.size, 0, none⟩ = some (.int .i64 C) := cell_of_heap g7
    have hy1 : w14.cell? ⟨w4.heap.size, 1, none⟩ = some (.slice A4 L.length c4) := cell_of_heap g7
    have hm14 := hm13.below' hb14
    clear hx0 hx1 g7
    go_wp2_with fail
    refine (heldIntsResult_c C _ L.length 1 _ fp4 (by omega) (by omega) hm14).mono ?_
    rintro e w15 ⟨rfl, hb15⟩
    have hB15 := hB14.trans (But.of_below hb15 (fp3 ++ fp4))
    go_wp2
    go_ret
    exact ⟨rfl, hw4.trans (hB15.below (by simp; omega) dF)⟩
end Go.Proofs.Ytfbplblpgdpilaa
