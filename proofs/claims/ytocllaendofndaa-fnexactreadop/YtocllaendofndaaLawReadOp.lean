/- The law on ReadOp answers true for every slice of bytes, given what is asked of the functions: the walk. -/
import Derived.Test.YtocllaendofndaaAsk3
import Derived.Test.YtocllaendofndaaRead
namespace Go.Proofs.Ytocllaendofndaa
open Go.RowKit

/-- The operation of packed bytes. -/
def readO (zs : List Int) : Option O :=
  if readC zs = 0 then
    (match readL zs with
     | [a, b, c, d, e, f, g] => if opF ⟨a, b, c, d, e, f, g⟩ = 0 then some ⟨a, b, c, d, e, f, g⟩ else none
     | _ => none)
  else none
/-- ReadOp's code and operation. -/
def rdC (zs : List Int) : Int := if (readO zs).isSome then 0 else 5
def rdO (zs : List Int) : O := (readO zs).getD ⟨0, 0, 0, 0, 0, 0, 0⟩
def AskReadOp (F : Nat) : Prop := ∀ (A : Option Addr) (c : Nat) (zs : List Int) (w : World) (fp : List Nat), zs.length ≤ 1048576 → Byt zs → Rd w 1 (.slice A zs.length c) (cellsOf .u8 zs) fp →
  Calls Try.prog F #[.slice A zs.length c] w fun e w' => e = .returned (orv (rdC zs) (rdO zs)) ∧ Below w.heap.size w w'
/-- The block of a code and an operation. -/
abbrev orbox (C : Int) (o : O) : Obj := .cells #[.int .i64 C, .int .i64 o.k, .int .i64 o.rq, .int .i64 o.lc, .int .i64 o.tt, .int .i64 o.sk, .int .i64 o.qt, .int .i64 o.hd] 35

set_option maxRecDepth 100000 in
set_option maxHeartbeats 2000000 in
theorem lawReadOp_c (hS : AskReadOp 14) (hI : AskReadOp 16) (a : Option Addr) (len cap : Nat) (z : List Int) (w : World) (h0 : IsRow .u8 w a len cap z) :
    Calls Try.prog 5 #[.slice a len cap] w fun e w' => e = .returned (.bool true) ∧ Below w.heap.size w w' := by
  have hlen := h0.len
  have hby := h0.byt
  obtain ⟨fp, hr⟩ := h0.rd
  clear h0
  generalize z.take len = zs at *
  subst hlen
  clear z
  have hmax := hr.len_le
  by_cases hbig : 1048576 < zs.length
  · go_enter Try.func5, Try.ntmps5
    go_wp2
    go_ret
    exact ⟨rfl, Below.refl _ _⟩
  · have hs : zs.length ≤ 1048576 := by omega
    generalize hC : rdC zs = C
    generalize hO : rdO zs = o
    have HC := Lib.hid hC; have HO := Lib.hid hO; have HS := Lib.hid hS; have HI := Lib.hid hI; have HBY := Lib.hid hby
    clear hC hO hS hI hby
    go_enter Try.func5, Try.ntmps5
    go_wp2_with fail
    refine (toByteS_k a cap zs _ fp hs hr).mono ?_
    rintro e w1 ⟨A1, c1, fp1, rfl, hr1, hn1, hf1, hb1⟩
    go_wp2_with fail
    refine (HS.out _ _ zs _ fp1 hs HBY.out hr1).mono ?_
    rw [HC.out, HO.out]
    rintro e w2 ⟨rfl, hb2⟩
    have hb2' : Below w.heap.size w w2 := hb1.trans (hb2.mono hb1.size)
    have g5 := heap_new w2 (orbox C o) rfl
    have G5 := Lib.hid g5; clear g5
    have s2 := hb2'.size
    go_wp2_with fail
    refine (toByteS_k a cap zs _ fp hs ((hr.below' hb2').alloc _)).mono ?_
    rintro e w3 ⟨A3, c3, fp3, rfl, hr3, hn3, hf3, hb3⟩
    have hB3 := But.of_below hb3 []
    go_wp2_with fail
    refine (HI.out _ _ zs _ fp3 hs HBY.out hr3).mono ?_
    rw [HC.out, HO.out]
    rintro e w4 ⟨rfl, hb4⟩
    have hB4 := hB3.trans (But.of_below hb4 [])
    have g5 := hB4.heap G5.out (by simp)
    have hz5 := heap_lt g5
    have d0 : w4.cell? ⟨w2.heap.size, 0, none⟩ = some (.int .i64 C) := cell_of_heap g5
    have d1 : w4.cell? ⟨w2.heap.size, 1, none⟩ = some (.int .i64 o.k) := cell_of_heap g5
    have d2 : w4.cell? ⟨w2.heap.size, 2, none⟩ = some (.int .i64 o.rq) := cell_of_heap g5
    have d3 : w4.cell? ⟨w2.heap.size, 3, none⟩ = some (.int .i64 o.lc) := cell_of_heap g5
    have d4 : w4.cell? ⟨w2.heap.size, 4, none⟩ = some (.int .i64 o.tt) := cell_of_heap g5
    have d5 : w4.cell? ⟨w2.heap.size, 5, none⟩ = some (.int .i64 o.sk) := cell_of_heap g5
    have d6 : w4.cell? ⟨w2.heap.size, 6, none⟩ = some (.int .i64 o.qt) := cell_of_heap g5
    have d7 : w4.cell? ⟨w2.heap.size, 7, none⟩ = some (.int .i64 o.hd) := cell_of_heap g5
    clear g5
    have hr4 := (hr3.below' hb4).alloc (orbox C o)
    go_wp2_with fail
    refine (eqOpResult_c C o _).mono ?_
    rintro e w5 ⟨rfl, hb5⟩
    have hr5 := hr4.below' hb5
    have hB5 := (hB4.alloc (orbox C o)).trans (But.of_below hb5 [])
    have hw5 : Below w.heap.size w w5 := hb2'.trans (((Below.refl _ _).alloc s2 _).trans (hB5.below (by simp; omega) (From.nil _)))
    clear d0 d1 d2 d3 d4 d5 d6 d7
    go_wp2_with fail
    refine (toByteS_k a cap zs _ fp hs (hr.below' hw5)).mono ?_
    rintro e w6 ⟨A6, c6, fp6, rfl, hr6, hn6, hf6, hb6⟩
    go_wp2_with fail
    refine (eqByteS_c _ _ _ _ zs _ fp3 fp6 (hr5.below' hb6) hr6).mono ?_
    rintro e w7 ⟨rfl, m, rfl⟩
    go_wp2
    go_ret
    exact ⟨rfl, below_drewN' (hw5.trans (hb6.mono hw5.size)) _⟩
end Go.Proofs.Ytocllaendofndaa
