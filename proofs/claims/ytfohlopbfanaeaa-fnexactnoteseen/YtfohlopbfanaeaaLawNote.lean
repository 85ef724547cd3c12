/- The law on NoteSeen answers true: the walk, by a maker (rowtoelt.py). -/
import Derived.Test.YtfohlopbfanaeaaImpl5n
import Derived.Test.YtfohlopbfanaeaaResSeen
import Derived.Deep.DeepCutAuto
namespace Go.Proofs.Ytfohlopbfanaeaa
open Go.RowKit

theorem noteS_len (l : List Sn) (x : Sn) : (noteS l x).length ≤ 12 := by
  unfold noteS
  split
  · rename_i h
    have h0 : seenF l = 0 := by
      unfold noteC at h
      split at h
      · assumption
      · rename_i h1; exact absurd h h1
    have := (seenF_fits h0).2.2
    unfold noteL
    split
    · simp; omega
    · simp; omega
  · simp

/-- A block g of its own that holds a code and rows in memory of their own, made since w1. -/
structure GotN (w1 : World) (C : Int) (L : List Sn) (g : Nat) (A : Option Addr) (c : Nat) (fv : List Nat) (wc : World) : Prop where
  blk : wc.heap[g]? = some (.cells #[.int .i64 C, .slice A L.length c] 62 (0, 0))
  rd : Rd wc 2 (.slice A L.length c) (ecs sc L) fv
  nf : NF wc fv
  fr : From w1.heap.size fv
  lo : w1.heap.size ≤ g
  ap : g ∉ fv
  bel : Below w1.heap.size w1 wc
theorem gotn_new {w1 x : World} {C : Int} {L : List Sn} {A : Option Addr} {c : Nat} {fv : List Nat} (hr : Rd x 2 (.slice A L.length c) (ecs sc L) fv) (hn : NF x fv) (hf : From w1.heap.size fv) (hb : Below w1.heap.size w1 x) :
    GotN w1 C L x.heap.size A c fv (x.alloc (.cells #[.int .i64 C, .slice A L.length c] 62)) :=
  ⟨heap_new x _ rfl, hr.alloc _, hn.keep fun b hb => Below.heap_alloc _ _ _ (hr.lt b hb), hf, hb.size, fun h => by have := hr.lt _ h; omega, hb.alloc hb.size _⟩
theorem gotn_set {w1 x : World} {C : Int} {L : List Sn} {A : Option Addr} {c g : Nat} {fv : List Nat} {u v : Value} (hg : x.heap[g]? = some (.cells #[u, v] 62 (0, 0))) (hlo : w1.heap.size ≤ g) (hap : From (g + 1) fv)
    (hr : Rd x 2 (.slice A L.length c) (ecs sc L) fv) (hn : NF x fv) (hb : Below w1.heap.size w1 x) :
    GotN w1 C L g A c fv ((x.setCell ⟨g, 0, none⟩ (.int .i64 C)).setCell ⟨g, 1, none⟩ (.slice A L.length c)) := by
  have hbut := But.two x g 0 1 (.int .i64 C) (.slice A L.length c)
  have hd : ∀ b ∈ fv, b ∉ [g] := fun b hm h => by have := hap b hm; simp at h; omega
  exact ⟨by simp [World.setCell, Array.getElem?_modify, hg], hr.but hbut hd, hn.but hbut hr.lt hd, fun b hm => by have := hap b hm; omega, hlo, fun h => by have := hap _ h; omega, hb.trans (hbut.below hb.size (by intro b hm; simp at hm; omega))⟩
set_option maxRecDepth 100000 in
set_option maxHeartbeats 8000000 in
theorem lawNoteSeen_c (ask : AskNoteSeen) (a0 : Option Addr) (cap0 : Nat) (rs0 : List Sn) (wr0 : ∀ r ∈ rs0, WfS r) (r : Sn) (wrr : WfS r) (w : World) (fp0 : List Nat) (hr0 : Rd w 2 (.slice a0 rs0.length cap0) (ecs sc rs0) fp0) :
    Calls Try.prog 10 #[.slice a0 rs0.length cap0, sv r] w fun e w' => e = .returned (.bool true) ∧ Below w.heap.size w w' := by
  have hmax0 := hr0.len_le
  have hmx0 : rs0.length ≤ 9223372036854775807 := by unfold maxLen at hmax0; omega
  have hlt0 := hr0.lt
  have HLo0 := Lib.hid hlt0; clear hlt0
  by_cases hbig0 : (1048576 : Int) < (rs0.length : Int)
  · have HBIG0 := Lib.hid hbig0; clear hbig0
    go_enter Try.func10, Try.ntmps10
    go_wp2_with fail
    refine (szSeenS_c a0 rs0.length cap0 ((1048576 : Int)) _ hmx0 (by omega) (by omega)).mono ?_
    rw [if_pos (show (1048576 : Int) < (rs0.length : Int) from HBIG0.out)]
    rintro e w1 ⟨rfl, rfl⟩
    go_wp2
    go_ret
    exact ⟨rfl, below_new _⟩
  have hsml0 : (rs0.length : Int) ≤ (1048576 : Int) := by omega
  have hl0 : decide ((1048576 : Int) - (rs0.length : Int) < 0) = false := by simp; omega
  have hs0 : rs0.length ≤ 1048576 := by omega
  have HSML0 := Lib.hid hsml0; clear hsml0 hbig0
  have hLl := noteS_len rs0 r
  generalize hC : noteC rs0 r = C
  generalize hL : noteS rs0 r = L at hLl
  have HC := Lib.hid hC; have HL := Lib.hid hL; clear hC hL
  go_enter Try.func10, Try.ntmps10
  go_wp2_with fail
  refine (szSeenS_c a0 rs0.length cap0 ((1048576 : Int)) _ hmx0 (by omega) (by omega)).mono ?_
  rw [if_neg (show ¬ (1048576 : Int) < (rs0.length : Int) by have := HSML0.out; omega)]
  rintro e w1 ⟨rfl, rfl⟩
  have HW := Lib.hid (Below.refl w.heap.size w)
  have RO0 := Lib.hid hr0; clear hr0
  have HFo0 := Lib.hid (show From 0 fp0 from fun _ _ => Nat.zero_le _)
  have gN := heap_new w (.cells #[.int .i64 r.rq, .int .i64 r.vl] 60) rfl
  have bN := below_new (w := w) (.cells #[.int .i64 r.rq, .int .i64 r.vl] 60)
  have GR := Lib.hid gN; have BN := Lib.hid bN; clear gN bN
  go_upto_region 5 with (fail)
  generalize w.alloc (.cells #[.int .i64 r.rq, .int .i64 r.vl] 60) = w1 at GR BN ⊢
  have sz1 := BN.out.size
  replace RO0 := Lib.hid (RO0.out.below' BN.out)
  replace HW := Lib.hid (HW.out.trans (BN.out.mono HW.out.size))
  have sgGR := heap_lt GR.out
  clear BN
  go_upto_region 5 with (fail)
  obtain ⟨rc0, rc1, _, _, hgr⟩ := pair_at5 GR.out
  go_cut [6] (fun p wc => ∃ g A c fv, p = .pointer (some ⟨g, 0, none⟩) ∧ Hid (GotN w1 C L g A c fv wc))
  case first =>
    go_region_held3 (fun w' => w'.cell? ⟨w.heap.size, 0, none⟩ = some (.int .i64 r.rq) ∧ w'.cell? ⟨w.heap.size, 1, none⟩ = some (.int .i64 r.vl))
      (first
        | go_keep
        | (refine ⟨(Below.cell (w := w1) (p := ⟨w.heap.size, _, none⟩) ?_ hgr).trans rc0, (Below.cell (w := w1) (p := ⟨w.heap.size, _, none⟩) ?_ hgr).trans rc1⟩ <;> (repeat (first | with_reducible exact hk4 | with_reducible exact hk2 | with_reducible exact hk1 | with_reducible refine below_more ?_ _ | with_reducible refine Below.setCell ?_ hlo _))))
      (first
        | (go_at_call 30
           refine (toSeenS_c a0 cap0 rs0 _ fp0 hs0 (RO0.out.below' (Below.refl _ _).drew)).mono ?_
           rintro e x1 ⟨A1, c1, fx1, rfl, hr1, hn1, hf1, hb1⟩
           have hk1 : Below w1.heap.size w1 x1 := (Below.refl _ _).drew.trans hb1
           clear hn1 hf1 hb1)
        | (go_at_call 30
           refine (toSeenS_c a0 cap0 rs0 _ fp0 hs0 (RO0.out.below' ((Below.refl _ _).drew.alloc (by simp) _))).mono ?_
           rintro e x1 ⟨A1, c1, fx1, rfl, hr1, hn1, hf1, hb1⟩
           have hk1 : Below w1.heap.size w1 x1 := ((Below.refl _ _).drew.alloc (by simp) _).trans (hb1.mono (by simp))
           have gg := Lib.hid (show x1.heap[w1.heap.size]? = _ from (hb1.block w1.heap.size (by simp)).trans (heap_new w1.drew _ rfl))
           clear hn1 hf1 hb1)
        | (go_at_call 39
           refine (toSeen_c r _).mono ?_
           rintro e x2 ⟨rfl, hb2⟩
           have gg2 := Lib.hid ((hb2.block _ (heap_lt gg.out)).trans gg.out)
           have hk2 : Below w1.heap.size w1 x2 := hk1.trans (hb2.mono hk1.size)
           have hr2 := hr1.below' hb2
           have hlo := Nat.le_refl w1.heap.size
           clear hb2 hr1 gg)
        | (go_at_call 39
           refine (toSeen_c r _).mono ?_
           rintro e x2 ⟨rfl, hb2⟩
           have hk2 : Below w1.heap.size w1 x2 := hk1.trans (hb2.mono hk1.size)
           have hr2 := hr1.below' hb2
           clear hb2 hr1)
        | (go_at_call 39
           refine (toSeen_c r _).mono ?_
           rintro e x2 ⟨rfl, hb2⟩
           have hk2 : Below w1.heap.size w1 x2 := (below_more hk1 _).trans (hb2.mono (below_more hk1 _).size)
           have hr2 := (hr1.alloc _).below' hb2
           have gg2 := Lib.hid (show x2.heap[x1.heap.size]? = _ from (hb2.block x1.heap.size (by simp)).trans (heap_new x1 _ rfl))
           have hlo := hk1.size
           clear hb2 hr1)
        | (go_at_call 38
           refine (specNoteSeen_c _ _ rs0 r _ fx1 hr2).mono ?_
           rw [HC.out, HL.out]
           rintro e x4 ⟨q4, rfl, ⟨v4, f4, rfl, hr4, hn4, hf4⟩, hb4⟩
           have gg4 := Lib.hid ((hb4.block _ (heap_lt gg2.out)).trans gg2.out)
           obtain ⟨y0, y1, z0, z1, z4⟩ := two_at gg4.out
           have hap := hf4.mono (Nat.succ_le_of_lt (heap_lt gg2.out))
           obtain ⟨A4, c4, rfl⟩ := hr4.elt_form sc_len (by omega)
           have hk4 : Below w1.heap.size w1 x4 := hk2.trans (hb4.mono hk2.size)
           clear hb4 hr2 hf4 gg2)
        | (go_at_call 38
           refine (specNoteSeen_c _ _ rs0 r _ fx1 hr2).mono ?_
           rw [HC.out, HL.out]
           rintro e x4 ⟨q4, rfl, ⟨v4, f4, rfl, hr4, hn4, hf4⟩, hb4⟩
           obtain ⟨A4, c4, rfl⟩ := hr4.elt_form sc_len (by omega)
           have hk4 : Below w1.heap.size w1 x4 := hk2.trans (hb4.mono hk2.size)
           have hf4' := hf4.mono hk2.size
           clear hb4 hr2 hf4)
        | (go_at_call 38
           refine (specNoteSeen_c _ _ rs0 r _ fx1 (hr2.alloc _)).mono ?_
           rw [HC.out, HL.out]
           rintro e x4 ⟨q4, rfl, ⟨v4, f4, rfl, hr4, hn4, hf4⟩, hb4⟩
           have gg4 := Lib.hid (show x4.heap[x2.heap.size]? = _ from (hb4.block x2.heap.size (by simp)).trans (heap_new x2 _ rfl))
           obtain ⟨y0, y1, z0, z1, z4⟩ := two_at gg4.out
           have hap := hf4.mono (show x2.heap.size + 1 ≤ _ by simp)
           obtain ⟨A4, c4, rfl⟩ := hr4.elt_form sc_len (by omega)
           have hk4 : Below w1.heap.size w1 x4 := (below_more hk2 _).trans (hb4.mono (below_more hk2 _).size)
           have hlo := hk2.size
           clear hb4 hr2 hf4))
    all_goals (go_wp2_with fail; go_meet)
    all_goals (first | exact ⟨_, _, _, _, rfl, Lib.hid (gotn_new hr4 hn4 hf4' hk4)⟩ | exact ⟨_, _, _, _, rfl, Lib.hid (gotn_set gg4.out hlo hap hr4 hn4 hk4)⟩)
  case rest =>
    obtain ⟨g2, A2, c2, fv2, rfl, HG2⟩ := hcut
    have ⟨w2, hw2⟩ : ∃ x, x = wc := ⟨_, rfl⟩
    subst hw2
    clear rc0 rc1 hgr
    have sz2 := HG2.out.bel.size
    replace RO0 := Lib.hid (RO0.out.below' HG2.out.bel)
    replace GR := Lib.hid ((HG2.out.bel.block _ (heap_lt GR.out)).trans GR.out)
    replace HW := Lib.hid (HW.out.trans (HG2.out.bel.mono HW.out.size))
    have lo2 := HG2.out.lo
    have GS := Lib.hid HG2.out.blk; have sgGS := heap_lt HG2.out.blk
    have RX2 := Lib.hid HG2.out.rd; have NX2 := Lib.hid HG2.out.nf; have HF2 := Lib.hid HG2.out.fr; have HLT2 := Lib.hid HG2.out.rd.lt; clear HG2
    clear NX2
    go_wp2_with fail
    refine (toSeenS_c a0 cap0 rs0 _ fp0 hs0 RO0.out).mono ?_
    rintro e w3 ⟨A3, c3, fx3, rfl, hr3, hn3, hf3, hb3⟩
    have ht3 := hr3.lt
    have sz3 := hb3.size
    replace RO0 := Lib.hid (RO0.out.below' hb3)
    replace RX2 := Lib.hid (RX2.out.below' hb3)
    replace GR := Lib.hid ((hb3.block _ (heap_lt GR.out)).trans GR.out)
    replace GS := Lib.hid ((hb3.block _ (heap_lt GS.out)).trans GS.out)
    replace HW := Lib.hid (HW.out.trans (hb3.mono HW.out.size))
    have RX3 := Lib.hid hr3; have NX3 := Lib.hid hn3; have HF3 := Lib.hid hf3; have HLT3 := Lib.hid ht3; clear hr3 hn3 hf3 ht3 hb3
    have rc0 : w3.cell? ⟨w.heap.size, 0, none⟩ = some (.int .i64 r.rq) := cell_of_heap GR.out
    have rc1 : w3.cell? ⟨w.heap.size, 1, none⟩ = some (.int .i64 r.vl) := cell_of_heap GR.out
    go_wp2_with fail
    clear rc0 rc1
    refine (toSeen_c r _).mono ?_
    rintro e w4 ⟨rfl, hb4⟩
    have sz4 := hb4.size
    replace NX3 := Lib.hid (NX3.out.but (But.of_below hb4 []) RX3.out.lt (by simp))
    replace RO0 := Lib.hid (RO0.out.below' hb4)
    replace RX2 := Lib.hid (RX2.out.below' hb4)
    replace RX3 := Lib.hid (RX3.out.below' hb4)
    replace GR := Lib.hid ((hb4.block _ (heap_lt GR.out)).trans GR.out)
    replace GS := Lib.hid ((hb4.block _ (heap_lt GS.out)).trans GS.out)
    replace HW := Lib.hid (HW.out.trans (hb4.mono HW.out.size))
    clear hb4
    go_wp2_with fail
    refine (ask _ _ rs0 r _ fx3 hs0 wr0 wrr RX3.out).mono ?_
    rw [HC.out, HL.out]
    rintro e w5 ⟨q5, rfl, ⟨v5, fv5, rfl, hr5, hn5, hf5⟩, hb5⟩
    obtain ⟨A5, c5, rfl⟩ := hr5.elt_form sc_len (by omega)
    have ht5 := hr5.lt
    have sz5 := hb5.size
    replace NX3 := Lib.hid (NX3.out.but (But.of_below hb5 []) RX3.out.lt (by simp))
    replace RO0 := Lib.hid (RO0.out.below' hb5)
    replace RX2 := Lib.hid (RX2.out.below' hb5)
    replace RX3 := Lib.hid (RX3.out.below' hb5)
    replace GR := Lib.hid ((hb5.block _ (heap_lt GR.out)).trans GR.out)
    replace GS := Lib.hid ((hb5.block _ (heap_lt GS.out)).trans GS.out)
    replace HW := Lib.hid (HW.out.trans (hb5.mono HW.out.size))
    have RX5 := Lib.hid hr5; have NX5 := Lib.hid hn5; have HF5 := Lib.hid hf5; have HLT5 := Lib.hid ht5; clear hr5 hn5 hf5 ht5 hb5
    have hx0 : w5.cell? ⟨g2, 0, none⟩ = some (.int .i64 C) := cell_of_heap GS.out
    have hxz : g2 < w5.heap.size := heap_lt GS.out
    have hx1 : w5.cell? ⟨g2, 1, none⟩ = some (.slice A2 L.length c2) := cell_of_heap GS.out
    have gN := heap_new w5 (.cells #[.int .i64 C, .slice A5 L.length c5] 62) rfl
    have bN := below_new (w := w5) (.cells #[.int .i64 C, .slice A5 L.length c5] 62)
    have GN := Lib.hid gN; have BN := Lib.hid bN; clear gN bN
    go_wp2_with fail
    generalize w5.alloc (.cells #[.int .i64 C, .slice A5 L.length c5] 62) = w6 at GN BN ⊢
    have sz6 := BN.out.size
    replace NX3 := Lib.hid (NX3.out.but (But.of_below BN.out []) RX3.out.lt (by simp))
    replace NX5 := Lib.hid (NX5.out.but (But.of_below BN.out []) RX5.out.lt (by simp))
    replace RO0 := Lib.hid (RO0.out.below' BN.out)
    replace RX2 := Lib.hid (RX2.out.below' BN.out)
    replace RX3 := Lib.hid (RX3.out.below' BN.out)
    replace RX5 := Lib.hid (RX5.out.below' BN.out)
    replace GR := Lib.hid ((BN.out.block _ (heap_lt GR.out)).trans GR.out)
    replace GS := Lib.hid ((BN.out.block _ (heap_lt GS.out)).trans GS.out)
    replace HW := Lib.hid (HW.out.trans (BN.out.mono HW.out.size))
    have sgGG := heap_lt GN.out
    have GG := Lib.hid GN.out; clear GN BN
    clear hx0 hx1 hxz
    refine (eqSeenResult_c C _ _ L _ fv5 fv2 RX5.out RX2.out).mono ?_
    rintro e w7 ⟨rfl, hb7⟩
    have sz7 := hb7.size
    replace NX3 := Lib.hid (NX3.out.but (But.of_below hb7 []) RX3.out.lt (by simp))
    replace NX5 := Lib.hid (NX5.out.but (But.of_below hb7 []) RX5.out.lt (by simp))
    replace RO0 := Lib.hid (RO0.out.below' hb7)
    replace RX2 := Lib.hid (RX2.out.below' hb7)
    replace RX3 := Lib.hid (RX3.out.below' hb7)
    replace RX5 := Lib.hid (RX5.out.below' hb7)
    replace GR := Lib.hid ((hb7.block _ (heap_lt GR.out)).trans GR.out)
    replace GS := Lib.hid ((hb7.block _ (heap_lt GS.out)).trans GS.out)
    replace GG := Lib.hid ((hb7.block _ (heap_lt GG.out)).trans GG.out)
    replace HW := Lib.hid (HW.out.trans (hb7.mono HW.out.size))
    clear hb7
    go_wp2_with fail
    refine (toSeenS_c a0 cap0 rs0 _ fp0 hs0 RO0.out).mono ?_
    rintro e w8 ⟨A8, c8, fx8, rfl, hr8, hn8, hf8, hb8⟩
    have ht8 := hr8.lt
    have sz8 := hb8.size
    replace NX3 := Lib.hid (NX3.out.but (But.of_below hb8 []) RX3.out.lt (by simp))
    replace NX5 := Lib.hid (NX5.out.but (But.of_below hb8 []) RX5.out.lt (by simp))
    replace RO0 := Lib.hid (RO0.out.below' hb8)
    replace RX2 := Lib.hid (RX2.out.below' hb8)
    replace RX3 := Lib.hid (RX3.out.below' hb8)
    replace RX5 := Lib.hid (RX5.out.below' hb8)
    replace GR := Lib.hid ((hb8.block _ (heap_lt GR.out)).trans GR.out)
    replace GS := Lib.hid ((hb8.block _ (heap_lt GS.out)).trans GS.out)
    replace GG := Lib.hid ((hb8.block _ (heap_lt GG.out)).trans GG.out)
    replace HW := Lib.hid (HW.out.trans (hb8.mono HW.out.size))
    have RX8 := Lib.hid hr8; have NX8 := Lib.hid hn8; have HF8 := Lib.hid hf8; have HLT8 := Lib.hid ht8; clear hr8 hn8 hf8 ht8 hb8
    go_wp2_with fail
    refine (eqSeenS_c _ _ _ _ rs0 _ fx3 fx8 RX3.out RX8.out).mono ?_
    rintro e w9 ⟨rfl, hb9⟩
    have sz9 := hb9.size
    replace NX3 := Lib.hid (NX3.out.but (But.of_below hb9 []) RX3.out.lt (by simp))
    replace NX5 := Lib.hid (NX5.out.but (But.of_below hb9 []) RX5.out.lt (by simp))
    replace NX8 := Lib.hid (NX8.out.but (But.of_below hb9 []) RX8.out.lt (by simp))
    replace RO0 := Lib.hid (RO0.out.below' hb9)
    replace RX2 := Lib.hid (RX2.out.below' hb9)
    replace RX3 := Lib.hid (RX3.out.below' hb9)
    replace RX5 := Lib.hid (RX5.out.below' hb9)
    replace RX8 := Lib.hid (RX8.out.below' hb9)
    replace GR := Lib.hid ((hb9.block _ (heap_lt GR.out)).trans GR.out)
    replace GS := Lib.hid ((hb9.block _ (heap_lt GS.out)).trans GS.out)
    replace GG := Lib.hid ((hb9.block _ (heap_lt GG.out)).trans GG.out)
    replace HW := Lib.hid (HW.out.trans (hb9.mono HW.out.size))
    clear hb9
    clear NX8
    clear RX8
    go_wp2_with fail
    refine (markSeenS_c A3 c3 rs0.length _ (1) _ fx3 (by omega) (by omega) (by omega) RX3.out NX3.out).mono ?_
    rintro e w10 ⟨rfl, hb10, hz10, _, _⟩
    have sz10 := Nat.le_of_eq hz10.symm
    clear NX3
    replace NX5 := Lib.hid (NX5.out.but hb10 RX5.out.lt (fun b hb hx => by have h1 := HLT5.out b hb; have h2 := HF3.out b hx; have h3 := HLT3.out b hx; have h4 := HF5.out b hb; omega))
    replace RO0 := Lib.hid (RO0.out.but hb10 (fun b hb hx => by have h1 := HLo0.out b hb; have h2 := HF3.out b hx; have h3 := HLT3.out b hx; have h4 := HFo0.out b hb; omega))
    replace RX2 := Lib.hid (RX2.out.but hb10 (fun b hb hx => by have h1 := HLT2.out b hb; have h2 := HF3.out b hx; have h3 := HLT3.out b hx; have h4 := HF2.out b hb; omega))
    replace RX5 := Lib.hid (RX5.out.but hb10 (fun b hb hx => by have h1 := HLT5.out b hb; have h2 := HF3.out b hx; have h3 := HLT3.out b hx; have h4 := HF5.out b hb; omega))
    replace GR := Lib.hid (hb10.heap GR.out (fun hx => by have h2 := HF3.out _ hx; have h3 := HLT3.out _ hx; omega))
    replace GS := Lib.hid (hb10.heap GS.out (fun hx => by have h2 := HF3.out _ hx; have h3 := HLT3.out _ hx; omega))
    replace GG := Lib.hid (hb10.heap GG.out (fun hx => by have h2 := HF3.out _ hx; have h3 := HLT3.out _ hx; omega))
    replace HW := Lib.hid (HW.out.trans (hb10.below HW.out.size (fun b hx => by have h2 := HF3.out b hx; omega)))
    clear RX3
    clear hb10 hz10
    have hq1 : decide ((1 + (rs0.length * 2 : Nat) : Int) < 0) = false := by simp; omega
    have hq2 : ¬ ((1 + (rs0.length * 2 : Nat) : Int) < 0) := by omega
    have hx0 : w10.cell? ⟨g2, 0, none⟩ = some (.int .i64 C) := cell_of_heap GS.out
    have hxz : g2 < w10.heap.size := heap_lt GS.out
    have hx1 : w10.cell? ⟨g2, 1, none⟩ = some (.slice A2 L.length c2) := cell_of_heap GS.out
    have hy0 : w10.cell? ⟨w5.heap.size, 0, none⟩ = some (.int .i64 C) := cell_of_heap GG.out
    have hyz : w5.heap.size < w10.heap.size := heap_lt GG.out
    have hy1 : w10.cell? ⟨w5.heap.size, 1, none⟩ = some (.slice A5 L.length c5) := cell_of_heap GG.out
    go_wp2_with fail
    clear hx0 hx1 hxz hy0 hy1 hyz
    refine (eqSeenResult_c C _ _ L _ fv5 fv2 RX5.out RX2.out).mono ?_
    rintro e w11 ⟨rfl, hb11⟩
    have sz11 := hb11.size
    replace NX5 := Lib.hid (NX5.out.but (But.of_below hb11 []) RX5.out.lt (by simp))
    replace RO0 := Lib.hid (RO0.out.below' hb11)
    replace RX2 := Lib.hid (RX2.out.below' hb11)
    replace RX5 := Lib.hid (RX5.out.below' hb11)
    replace GR := Lib.hid ((hb11.block _ (heap_lt GR.out)).trans GR.out)
    replace GS := Lib.hid ((hb11.block _ (heap_lt GS.out)).trans GS.out)
    replace GG := Lib.hid ((hb11.block _ (heap_lt GG.out)).trans GG.out)
    replace HW := Lib.hid (HW.out.trans (hb11.mono HW.out.size))
    clear hb11
    have hy0 : w11.cell? ⟨w5.heap.size, 0, none⟩ = some (.int .i64 C) := cell_of_heap GG.out
    have hyz : w5.heap.size < w11.heap.size := heap_lt GG.out
    have hy1 : w11.cell? ⟨w5.heap.size, 1, none⟩ = some (.slice A5 L.length c5) := cell_of_heap GG.out
    go_wp2_with fail
    clear hy0 hy1 hyz
    refine (markSeenResult_c C _ L 1 _ fv5 (by omega) (by omega) (by omega) RX5.out NX5.out).mono ?_
    rintro e w12 ⟨rfl, hb12, hm12⟩
    have sz12 := hb12.size
    clear NX5
    replace RO0 := Lib.hid (RO0.out.but hb12 (fun b hb hx => by have h1 := HLo0.out b hb; have h2 := HF5.out b hx; have h3 := HLT5.out b hx; have h4 := HFo0.out b hb; omega))
    replace RX2 := Lib.hid (RX2.out.but hb12 (fun b hb hx => by have h1 := HLT2.out b hb; have h2 := HF5.out b hx; have h3 := HLT5.out b hx; have h4 := HF2.out b hb; omega))
    replace GR := Lib.hid (hb12.heap GR.out (fun hx => by have h2 := HF5.out _ hx; have h3 := HLT5.out _ hx; omega))
    replace GS := Lib.hid (hb12.heap GS.out (fun hx => by have h2 := HF5.out _ hx; have h3 := HLT5.out _ hx; omega))
    replace GG := Lib.hid (hb12.heap GG.out (fun hx => by have h2 := HF5.out _ hx; have h3 := HLT5.out _ hx; omega))
    replace HW := Lib.hid (HW.out.trans (hb12.below HW.out.size (fun b hx => by have h2 := HF5.out b hx; omega)))
    replace RX5 := Lib.hid hm12; clear hb12 hm12
    have hy0 : w12.cell? ⟨w5.heap.size, 0, none⟩ = some (.int .i64 C) := cell_of_heap GG.out
    have hyz : w5.heap.size < w12.heap.size := heap_lt GG.out
    have hy1 : w12.cell? ⟨w5.heap.size, 1, none⟩ = some (.slice A5 L.length c5) := cell_of_heap GG.out
    go_wp2_with fail
    clear hy0 hy1 hyz
    refine (heldSeenResult_c C _ L.length 1 _ fv5 (by omega) (by omega) (by omega) A5 c5 rfl RX5.out).mono ?_
    rintro e w13 ⟨rfl, hb13⟩
    have sz13 := hb13.size
    replace RO0 := Lib.hid (RO0.out.below' hb13)
    replace RX2 := Lib.hid (RX2.out.below' hb13)
    replace RX5 := Lib.hid (RX5.out.below' hb13)
    replace GR := Lib.hid ((hb13.block _ (heap_lt GR.out)).trans GR.out)
    replace GS := Lib.hid ((hb13.block _ (heap_lt GS.out)).trans GS.out)
    replace GG := Lib.hid ((hb13.block _ (heap_lt GG.out)).trans GG.out)
    replace HW := Lib.hid (HW.out.trans (hb13.mono HW.out.size))
    clear hb13
    have hq3 : decide ((1 : Int) + (L.length * 2 : Nat) < 0) = false := by simp; omega
    go_upto_region 24 with (fail)
    obtain ⟨rc0, rc1, _, _, hgr⟩ := pair_at5 GR.out
    go_cut [12] (fun p wc => ∃ g A c fv, p = .pointer (some ⟨g, 0, none⟩) ∧ Hid (GotN w13 C L g A c fv wc))
    case first =>
      go_region_held3 (fun w' => w'.cell? ⟨w.heap.size, 0, none⟩ = some (.int .i64 r.rq) ∧ w'.cell? ⟨w.heap.size, 1, none⟩ = some (.int .i64 r.vl))
        (first
          | go_keep
          | (refine ⟨(Below.cell (w := w13) (p := ⟨w.heap.size, _, none⟩) ?_ hgr).trans rc0, (Below.cell (w := w13) (p := ⟨w.heap.size, _, none⟩) ?_ hgr).trans rc1⟩ <;> (repeat (first | with_reducible exact hk4 | with_reducible exact hk2 | with_reducible exact hk1 | with_reducible refine below_more ?_ _ | with_reducible refine Below.setCell ?_ hlo _))))
        (first
          | (go_at_call 30
             refine (toSeenS_c a0 cap0 rs0 _ fp0 hs0 (RO0.out.below' (Below.refl _ _).drew)).mono ?_
             rintro e x1 ⟨A1, c1, fx1, rfl, hr1, hn1, hf1, hb1⟩
             have hk1 : Below w13.heap.size w13 x1 := (Below.refl _ _).drew.trans hb1
             clear hn1 hf1 hb1)
          | (go_at_call 30
             refine (toSeenS_c a0 cap0 rs0 _ fp0 hs0 (RO0.out.below' ((Below.refl _ _).drew.alloc (by simp) _))).mono ?_
             rintro e x1 ⟨A1, c1, fx1, rfl, hr1, hn1, hf1, hb1⟩
             have hk1 : Below w13.heap.size w13 x1 := ((Below.refl _ _).drew.alloc (by simp) _).trans (hb1.mono (by simp))
             have gg := Lib.hid (show x1.heap[w13.heap.size]? = _ from (hb1.block w13.heap.size (by simp)).trans (heap_new w13.drew _ rfl))
             clear hn1 hf1 hb1)
          | (go_at_call 39
             refine (toSeen_c r _).mono ?_
             rintro e x2 ⟨rfl, hb2⟩
             have gg2 := Lib.hid ((hb2.block _ (heap_lt gg.out)).trans gg.out)
             have hk2 : Below w13.heap.size w13 x2 := hk1.trans (hb2.mono hk1.size)
             have hr2 := hr1.below' hb2
             have hlo := Nat.le_refl w13.heap.size
             clear hb2 hr1 gg)
          | (go_at_call 39
             refine (toSeen_c r _).mono ?_
             rintro e x2 ⟨rfl, hb2⟩
             have hk2 : Below w13.heap.size w13 x2 := hk1.trans (hb2.mono hk1.size)
             have hr2 := hr1.below' hb2
             clear hb2 hr1)
          | (go_at_call 39
             refine (toSeen_c r _).mono ?_
             rintro e x2 ⟨rfl, hb2⟩
             have hk2 : Below w13.heap.size w13 x2 := (below_more hk1 _).trans (hb2.mono (below_more hk1 _).size)
             have hr2 := (hr1.alloc _).below' hb2
             have gg2 := Lib.hid (show x2.heap[x1.heap.size]? = _ from (hb2.block x1.heap.size (by simp)).trans (heap_new x1 _ rfl))
             have hlo := hk1.size
             clear hb2 hr1)
          | (go_at_call 40
             refine (ask _ _ rs0 r _ fx1 hs0 wr0 wrr hr2).mono ?_
             rw [HC.out, HL.out]
             rintro e x4 ⟨q4, rfl, ⟨v4, f4, rfl, hr4, hn4, hf4⟩, hb4⟩
             have gg4 := Lib.hid ((hb4.block _ (heap_lt gg2.out)).trans gg2.out)
             obtain ⟨y0, y1, z0, z1, z4⟩ := two_at gg4.out
             have hap := hf4.mono (Nat.succ_le_of_lt (heap_lt gg2.out))
             obtain ⟨A4, c4, rfl⟩ := hr4.elt_form sc_len (by omega)
             have hk4 : Below w13.heap.size w13 x4 := hk2.trans (hb4.mono hk2.size)
             clear hb4 hr2 hf4 gg2)
          | (go_at_call 40
             refine (ask _ _ rs0 r _ fx1 hs0 wr0 wrr hr2).mono ?_
             rw [HC.out, HL.out]
             rintro e x4 ⟨q4, rfl, ⟨v4, f4, rfl, hr4, hn4, hf4⟩, hb4⟩
             obtain ⟨A4, c4, rfl⟩ := hr4.elt_form sc_len (by omega)
             have hk4 : Below w13.heap.size w13 x4 := hk2.trans (hb4.mono hk2.size)
             have hf4' := hf4.mono hk2.size
             clear hb4 hr2 hf4)
          | (go_at_call 40
             refine (ask _ _ rs0 r _ fx1 hs0 wr0 wrr (hr2.alloc _)).mono ?_
             rw [HC.out, HL.out]
             rintro e x4 ⟨q4, rfl, ⟨v4, f4, rfl, hr4, hn4, hf4⟩, hb4⟩
             have gg4 := Lib.hid (show x4.heap[x2.heap.size]? = _ from (hb4.block x2.heap.size (by simp)).trans (heap_new x2 _ rfl))
             obtain ⟨y0, y1, z0, z1, z4⟩ := two_at gg4.out
             have hap := hf4.mono (show x2.heap.size + 1 ≤ _ by simp)
             obtain ⟨A4, c4, rfl⟩ := hr4.elt_form sc_len (by omega)
             have hk4 : Below w13.heap.size w13 x4 := (below_more hk2 _).trans (hb4.mono (below_more hk2 _).size)
             have hlo := hk2.size
             clear hb4 hr2 hf4))
      all_goals (go_wp2_with fail; go_meet)
      all_goals (first | exact ⟨_, _, _, _, rfl, Lib.hid (gotn_new hr4 hn4 hf4' hk4)⟩ | exact ⟨_, _, _, _, rfl, Lib.hid (gotn_set gg4.out hlo hap hr4 hn4 hk4)⟩)
    case rest =>
      obtain ⟨g14, A14, c14, fv14, rfl, HG14⟩ := hcut
      have ⟨w14, hw14⟩ : ∃ x, x = wc := ⟨_, rfl⟩
      subst hw14
      clear rc0 rc1 hgr
      have sz14 := HG14.out.bel.size
      replace RO0 := Lib.hid (RO0.out.below' HG14.out.bel)
      replace RX2 := Lib.hid (RX2.out.below' HG14.out.bel)
      replace RX5 := Lib.hid (RX5.out.below' HG14.out.bel)
      replace GR := Lib.hid ((HG14.out.bel.block _ (heap_lt GR.out)).trans GR.out)
      replace GS := Lib.hid ((HG14.out.bel.block _ (heap_lt GS.out)).trans GS.out)
      replace GG := Lib.hid ((HG14.out.bel.block _ (heap_lt GG.out)).trans GG.out)
      replace HW := Lib.hid (HW.out.trans (HG14.out.bel.mono HW.out.size))
      have lo14 := HG14.out.lo
      have GH := Lib.hid HG14.out.blk; have sgGH := heap_lt HG14.out.blk
      have RX14 := Lib.hid HG14.out.rd; have NX14 := Lib.hid HG14.out.nf; have HF14 := Lib.hid HG14.out.fr; have HLT14 := Lib.hid HG14.out.rd.lt; clear HG14
      have hx0 : w14.cell? ⟨g2, 0, none⟩ = some (.int .i64 C) := cell_of_heap GS.out
      have hxz : g2 < w14.heap.size := heap_lt GS.out
      have hx1 : w14.cell? ⟨g2, 1, none⟩ = some (.slice A2 L.length c2) := cell_of_heap GS.out
      have hy0 : w14.cell? ⟨g14, 0, none⟩ = some (.int .i64 C) := cell_of_heap GH.out
      have hyz : g14 < w14.heap.size := heap_lt GH.out
      have hy1 : w14.cell? ⟨g14, 1, none⟩ = some (.slice A14 L.length c14) := cell_of_heap GH.out
      go_wp2_with fail
      clear hy0 hy1 hyz
      clear hx0 hx1 hxz
      refine (eqSeenResult_c C _ _ L _ fv14 fv2 RX14.out RX2.out).mono ?_
      rintro e w15 ⟨rfl, hb15⟩
      have sz15 := hb15.size
      replace NX14 := Lib.hid (NX14.out.but (But.of_below hb15 []) RX14.out.lt (by simp))
      replace RO0 := Lib.hid (RO0.out.below' hb15)
      replace RX2 := Lib.hid (RX2.out.below' hb15)
      replace RX5 := Lib.hid (RX5.out.below' hb15)
      replace RX14 := Lib.hid (RX14.out.below' hb15)
      replace GR := Lib.hid ((hb15.block _ (heap_lt GR.out)).trans GR.out)
      replace GS := Lib.hid ((hb15.block _ (heap_lt GS.out)).trans GS.out)
      replace GG := Lib.hid ((hb15.block _ (heap_lt GG.out)).trans GG.out)
      replace GH := Lib.hid ((hb15.block _ (heap_lt GH.out)).trans GH.out)
      replace HW := Lib.hid (HW.out.trans (hb15.mono HW.out.size))
      clear hb15
      have hy0 : w15.cell? ⟨w5.heap.size, 0, none⟩ = some (.int .i64 C) := cell_of_heap GG.out
      have hyz : w5.heap.size < w15.heap.size := heap_lt GG.out
      have hy1 : w15.cell? ⟨w5.heap.size, 1, none⟩ = some (.slice A5 L.length c5) := cell_of_heap GG.out
      go_wp2_with fail
      clear hy0 hy1 hyz
      refine (heldSeenResult_c C _ L.length 1 _ fv5 (by omega) (by omega) (by omega) A5 c5 rfl RX5.out).mono ?_
      rintro e w16 ⟨rfl, hb16⟩
      have sz16 := hb16.size
      replace NX14 := Lib.hid (NX14.out.but (But.of_below hb16 []) RX14.out.lt (by simp))
      replace RO0 := Lib.hid (RO0.out.below' hb16)
      replace RX2 := Lib.hid (RX2.out.below' hb16)
      replace RX5 := Lib.hid (RX5.out.below' hb16)
      replace RX14 := Lib.hid (RX14.out.below' hb16)
      replace GR := Lib.hid ((hb16.block _ (heap_lt GR.out)).trans GR.out)
      replace GS := Lib.hid ((hb16.block _ (heap_lt GS.out)).trans GS.out)
      replace GG := Lib.hid ((hb16.block _ (heap_lt GG.out)).trans GG.out)
      replace GH := Lib.hid ((hb16.block _ (heap_lt GH.out)).trans GH.out)
      replace HW := Lib.hid (HW.out.trans (hb16.mono HW.out.size))
      clear hb16
      go_wp2
      go_ret
      exact ⟨rfl, HW.out⟩
end Go.Proofs.Ytfohlopbfanaeaa
