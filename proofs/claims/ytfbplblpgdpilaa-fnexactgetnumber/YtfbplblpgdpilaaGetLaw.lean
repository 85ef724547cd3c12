/- The law on GetNumber answers true for every slice of bytes and every integer: the walk. -/
import Derived.Test.YtfbplblpgdpilaaArgs
namespace Go.Proofs.Ytfbplblpgdpilaa
open Go.RowKit

set_option maxHeartbeats 2000000 in
theorem lawGetNumber_c (a : Option Addr) (len cap : Nat) (z : List Int) (p : Int) (w : World) (h0 : IsRow .u8 w a len cap z) (hp : (Lit.int .i64 p).wf = true) :
    Calls Try.prog 5 #[.slice a len cap, .int .i64 p] w fun e w' => e = .returned (.bool true) ∧ Below w.heap.size w w' := by
  have hlen := h0.len
  have hby := h0.byt
  obtain ⟨fp, hr⟩ := h0.rd
  clear h0
  generalize z.take len = zs at *
  subst hlen
  clear z
  have hmax := hr.len_le
  by_cases hbig : 1048576 < zs.length
  · go_enter Try.func5, Try.ntmps5
    go_wp2
    go_ret
    exact ⟨rfl, Below.refl _ _⟩
  · have hs : zs.length ≤ 1048576 := by omega
    have hmx : zs.length ≤ maxLen := by unfold maxLen; omega
    generalize hq : getP zs p = q
    have HQ := Lib.hid hq; clear hq
    go_enter Try.func5, Try.ntmps5
    go_wp2_with fail
    refine (toByteS_k a cap zs _ fp hs hr).mono ?_
    rintro e w1 ⟨A1, c1, fp1, rfl, hr1, hn1, hf1, hb1⟩
    go_wp2_with fail
    refine (specGetNumber_c _ _ zs p _ fp1 hp hby hr1).mono ?_
    rw [HQ.out]
    rintro e w2 ⟨rfl, hb2⟩
    have hb2' : Below w.heap.size w w2 := hb1.trans (hb2.mono hb1.size)
    have g5 := heap_new w2 (.cells #[.int .i64 q.1, .int .i64 q.2] 40) rfl
    have G5 := Lib.hid g5; clear g5
    have s2 := hb2'.size
    go_wp2_with fail
    refine (toByteS_k a cap zs _ fp hs ((hr.below' hb2').alloc _)).mono ?_
    rintro e w3 ⟨A3, c3, fp3, rfl, hr3, hn3, hf3, hb3⟩
    have hB3 := But.of_below hb3 []
    go_wp2_with fail
    refine (implGetNumber_c _ _ zs p _ fp3 hp hby hr3).mono ?_
    rw [HQ.out]
    rintro e w4 ⟨rfl, hb4⟩
    have hB4 := hB3.trans (But.of_below hb4 [])
    have g5 := hB4.heap G5.out (by simp)
    have hz5 := heap_lt g5
    have hx0 : w4.cell? ⟨w2.heap.size, 0, none⟩ = some (.int .i64 q.1) := cell_of_heap g5
    have hx1 : w4.cell? ⟨w2.heap.size, 1, none⟩ = some (.int .i64 q.2) := cell_of_heap g5
    clear g5
    have hr4 := (hr3.below' hb4).alloc (.cells #[.int .i64 q.1, .int .i64 q.2] 40)
    go_wp2_with fail
    refine (eqIR_c q _).mono ?_
    rintro e w5 ⟨rfl, hb5⟩
    have hr5 := hr4.below' hb5
    have hB5 := (hB4.alloc (.cells #[.int .i64 q.1, .int .i64 q.2] 40)).trans (But.of_below hb5 [])
    have hw5 : Below w.heap.size w w5 := hb2'.trans (((Below.refl _ _).alloc s2 _).trans (hB5.below (by simp; omega) (From.nil _)))
    go_wp2_with fail
    refine (toByteS_k a cap zs _ fp hs (hr.below' hw5)).mono ?_
    rintro e w6 ⟨A6, c6, fp6, rfl, hr6, hn6, hf6, hb6⟩
    go_wp2_with fail
    refine (eqByteS_c _ _ _ _ zs _ fp3 fp6 (hr5.below' hb6) hr6).mono ?_
    rintro e w7 ⟨rfl, m, rfl⟩
    go_wp2
    go_ret
    exact ⟨rfl, below_drewN' (hw5.trans (hb6.mono hw5.size)) _⟩
end Go.Proofs.Ytfbplblpgdpilaa
