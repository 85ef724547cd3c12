/-
  Contracts of the program's functions of chapter 5, first part: faults of requests that were seen, finding one.
-/
import Derived.Test.YtfohlopbfanaeaaSpec5a
namespace Go.Proofs.Ytfohlopbfanaeaa
open Go.RowKit

/-- The box of a request. -/
abbrev sbox (x : Sn) : Obj := .cells #[.int .i64 x.rq, .int .i64 x.vl] 64

set_option maxRecDepth 100000 in
set_option maxHeartbeats 1000000 in
theorem isSeen_b (x : Sn) (b : Bool) (hb : seenB x = b) (w : World) :
    Calls Try.prog 71 #[sv x] w fun e w' => e = .returned (.bool b) ∧ w' = w.alloc (sbox x) := by
  have HB := Lib.hid hb; clear hb
  by_cases h1 : (1 : Int) ≤ x.rq <;> by_cases h2 : x.rq ≤ 999 <;> by_cases h3 : (0 : Int) ≤ x.vl <;> by_cases h4 : x.vl ≤ 19998
  all_goals first | (exfalso; omega) | skip
  all_goals
    go_enter Try.func71, Try.ntmps71
    go_wp2
    go_ret
    exact ⟨by rw [← HB.out]; simp [seenB, inB, *], rfl⟩

set_option maxRecDepth 100000 in
set_option maxHeartbeats 2000000 in
theorem findReq_c (A : Option Addr) (c n : Nat) (l : List Sn) (q : Int) (w : World) (fp : List Nat) (hn : n = l.length) (ha : Rd w 2 (.slice A n c) (ecs sc l) fp) :
    Calls Try.prog 72 #[.slice A n c, .int .i64 q] w fun e w' => e = .returned (.tuple #[sv (getS l q), .bool (hasS l q)]) ∧ Below w.heap.size w w' := by
  subst hn
  have hmax := ha.len_le
  generalize hR : getS l q = V
  generalize hR2 : hasS l q = B
  have HR := Lib.hid hR; have HR2 := Lib.hid hR2; clear hR hR2
  go_enter Try.func72, Try.ntmps72
  go_wp2
  go_loopw [10] (fun i wr => ∃ k : Nat, k ≤ l.length ∧ i = .int .i64 k ∧ Hid (Below (w.heap.size + 1) (w.alloc (sbox ⟨0, 0⟩)) wr) ∧ Hid (∀ j (h : j < l.length), j < k → l[j].rq ≠ q)) (fun i _ => l.length - (intOf i).toNat)
  case atStart => exact ⟨0, Nat.zero_le _, rfl, Below.refl _ _, fun j _ h => by omega⟩
  case round =>
    obtain ⟨k, hk, rfl, HB, HN⟩ := hrel
    have hbw : Below w.heap.size w wr := (below_new _).trans (HB.out.mono (by omega))
    have hg := newest HB.out (by omega)
    obtain ⟨z0, z1, f0, f1, hz⟩ := pair_at5 hg
    have HBW := Lib.hid hbw; clear hg
    by_cases hlt : k < l.length
    · obtain ⟨b1, o1, hA, _, hl1, p0, p1⟩ := (ha.below' hbw).seen_at hlt
      subst hA
      clear hbw
      by_cases he : l[k].rq = q
      · have hi := idx_found hlt he HN.out
        obtain ⟨_, _, hgs⟩ := idxS_some hi
        have hV : V = l[k] := HR.out.symm.trans hgs
        have hB : B = true := by rw [← HR2.out, hasS_idx, hi]; rfl
        clear hi hgs HR HR2 HN ha
        generalize l[k] = x at *
        subst hV hB he
        have t1 : (V.rq == V.rq) = true := by simp
        go_wp2_with fail
        refine bodyPost_ret (v := .tuple #[sv V, .bool true]) (by simp [results, Try.results72, go_sem, z0, z1, hz]) rfl ⟨rfl, ?_⟩
        exact below_more (below_two HBW.out _ _) _
      · have hs := none_step hlt he HN.out
        have t1 : (l[k].rq == q) = false := by simpa using he
        have HS := Lib.hid hs; clear hs he ha HN
        generalize l[k] = x at *
        go_wp2_with fail
        exact ⟨⟨k + 1, by omega, by go_num, HB.out.alloc (by have := HB.out.size; simp at this; omega) _, HS.out⟩, by simp [intOf]; omega⟩
    · obtain rfl : k = l.length := by omega
      obtain ⟨h1, h2⟩ := getS_none (idx_none HN.out)
      have hV : V = ⟨0, 0⟩ := HR.out.symm.trans h1
      have hB : B = false := HR2.out.symm.trans h2
      subst hV hB
      clear hbw h1 h2 HR HR2
      go_wp2_with fail
      refine bodyPost_ret (v := .tuple #[sv ⟨0, 0⟩, .bool false]) (by simp [results, Try.results72, go_sem, z0, z1, hz]) rfl ⟨rfl, ?_⟩
      exact below_two HBW.out _ _

def AskSeenFault : Prop := ∀ (A : Option Addr) (c : Nat) (l : List Sn) (w : World) (fp : List Nat), l.length ≤ 1048576 → (∀ x ∈ l, WfS x) → Rd w 2 (.slice A l.length c) (ecs sc l) fp →
  Calls Try.prog 31 #[.slice A l.length c] w fun e w' => e = .returned (.int .i64 (seenF l)) ∧ Below w.heap.size w w'

set_option maxRecDepth 100000 in
set_option maxHeartbeats 4000000 in
theorem implSeenFault_a : AskSeenFault := by
  intro A c l w fp _ _ ha
  have hmax := ha.len_le
  by_cases hbig : 6 < l.length
  · have e : seenF l = 2 := by simp [seenF, hbig]
    rw [e]
    clear e
    go_enter Try.func31, Try.ntmps31
    go_wp2
    go_ret
    exact ⟨rfl, Below.refl _ _⟩
  · rw [seenF_small hbig]
    generalize hS : sscan (l.take 0) (l.drop 0) = S
    have HS := Lib.hid hS; clear hS
    go_enter Try.func31, Try.ntmps31
    go_wp2
    go_loopw [12] (fun i wr => ∃ k : Nat, k ≤ l.length ∧ i = .int .i64 k ∧ Hid (Below w.heap.size w wr) ∧ Hid (sscan (l.take k) (l.drop k) = S)) (fun i _ => l.length - (intOf i).toNat)
    case atStart => exact ⟨0, Nat.zero_le _, rfl, Below.refl _ _, HS.out⟩
    case round =>
      obtain ⟨k, hk, rfl, HBW, hsc⟩ := hrel
      by_cases hlt : k < l.length
      · have hst := hsc.out
        rw [sscan_at l k hlt] at hst
        have ha' := ha.below' HBW.out
        obtain ⟨b1, o1, hA, _, hl1, p0, p1⟩ := ha'.seen_at hlt
        subst hA
        obtain ⟨fq, hq⟩ := ha'.take sc_len rfl hk
        have hlen : k = (l.take k).length := by rw [List.length_take]; omega
        have HQ := Lib.hid hq; have HLEN := Lib.hid hlen; clear hq hlen
        have hcap : l.length ≤ c := by obtain ⟨_, _, _, e, _, _, h, _⟩ := ha'; injection e with _ e2 e3; omega
        have HSC := Lib.hid hst; clear hst hsc ha'
        generalize hT : l.take k = T at *
        clear hT
        generalize l[k] = x at *
        cases hB : seenB x
        · have hst := HSC.out
          rw [if_pos hB] at hst
          have HF := Lib.hid hst; have HB := Lib.hid hB; clear hst hB HSC
          go_wp2_with fail
          refine (isSeen_b x _ HB.out _).mono ?_
          rintro e w1 ⟨rfl, rfl⟩
          go_wp2_with fail
          go_ret
          exact ⟨congrArg (fun z => Ending.returned (Value.int .i64 z)) HF.out, below_more (below_more HBW.out _) _⟩
        · have hst := HSC.out
          rw [if_neg (by rw [hB]; decide)] at hst
          generalize hH : hasS T x.rq = Hs at hst
          have HH := Lib.hid hH; have HB := Lib.hid hB; have HST := Lib.hid hst
          clear hB HSC hH hst
          have hi0 : (0 : Int) ≤ (k : Int) := by omega
          have hi1 : (k : Int) < (l.length : Int) := by omega
          have hi2 : (k : Int) ≤ (c : Int) := by omega
          go_wp2_with fail
          refine (isSeen_b x _ HB.out _).mono ?_
          rintro e w1 ⟨rfl, hw1⟩
          have hb1 : Below wr.heap.size wr w1 := by rw [hw1]; exact below_more (below_new _) _
          have hg1 : w1.heap[wr.heap.size]? = some (sbox x) := by rw [hw1]; exact heap_old (heap_new wr _ rfl)
          obtain ⟨y0, y1, _, _, hy⟩ := pair_at5 hg1
          have HQ1 := Lib.hid (HQ.out.below' hb1)
          have HBW1 := Lib.hid (HBW.out.trans (hb1.mono HBW.out.size))
          clear hw1 hb1 hg1 p0 p1 HQ
          go_wp2_with fail
          cases Hs
          all_goals
            have HF := Lib.hid HST.out
            go_region_held3 (fun w' => w'.cell? ⟨wr.heap.size, 0, none⟩ = some (.int .i64 x.rq))
              (first
                | go_keep
                | (refine (Below.cell (w := w1) (p := ⟨wr.heap.size, _, none⟩) ?_ hy).trans y0 <;> (repeat (first | with_reducible exact hb1 | with_reducible refine below_set ?_ _ _ | with_reducible refine below_more ?_ _))))
              (first
                | (go_at_call 72
                   refine (findReq_c (some ⟨b1, o1, none⟩) c k T x.rq _ fq HLEN.out (HQ1.out.below' (Below.refl _ _).drew)).mono ?_
                   rintro e w4 ⟨rfl, hb0⟩
                   rw [HH.out]
                   generalize getS T x.rq = V
                   have hb1 : Below w1.heap.size w1 w4 := (Below.refl _ _).drew.trans hb0
                   clear hb0)
                | (go_at_call 72
                   refine (findReq_c (some ⟨b1, o1, none⟩) c k T x.rq _ fq HLEN.out (HQ1.out.below' ((Below.refl _ _).drew.alloc (by simp) _))).mono ?_
                   rintro e w4 ⟨rfl, hb0⟩
                   rw [HH.out]
                   generalize getS T x.rq = V
                   have hb1 : Below w1.heap.size w1 w4 := ((Below.refl _ _).drew.alloc (by simp) _).trans (hb0.mono (by simp))
                   obtain ⟨yy0, yy1, yy2, yy3, yy4⟩ := pair_at5 (g := w1.heap.size) ((hb0.block w1.heap.size (by simp)).trans (heap_new w1.drew _ rfl))
                   clear hb0))
          · have hb5 := below_more hb1 (sbox V)
            generalize w4.alloc (sbox V) = w5 at hb5 ⊢
            have HBE := Lib.hid (HBW1.out.trans (hb5.mono HBW1.out.size))
            clear hb1 hb5
            go_wp2_with fail
            exact ⟨⟨k + 1, by omega, by go_num, HBE.out, HF.out⟩, by simp [intOf]; omega⟩
          · have hb5 := below_set (below_set hb1 0 (.int .i64 V.rq)) 1 (.int .i64 V.vl)
            generalize (w4.setCell ⟨w1.heap.size, 0, none⟩ (.int .i64 V.rq)).setCell ⟨w1.heap.size, 1, none⟩ (.int .i64 V.vl) = w5 at hb5 ⊢
            have HBE := Lib.hid (HBW1.out.trans (hb5.mono HBW1.out.size))
            clear hb1 hb5 yy0 yy1 yy2 yy3 yy4
            go_wp2_with fail
            exact ⟨⟨k + 1, by omega, by go_num, HBE.out, HF.out⟩, by simp [intOf]; omega⟩
          · have hb5 := below_more hb1 (sbox V)
            generalize w4.alloc (sbox V) = w5 at hb5 ⊢
            have HBE := Lib.hid (HBW1.out.trans (hb5.mono HBW1.out.size))
            clear hb1 hb5
            go_wp2_with fail
            go_ret
            exact ⟨congrArg (fun z => Ending.returned (Value.int .i64 z)) HF.out, HBE.out⟩
          · have hb5 := below_set (below_set hb1 0 (.int .i64 V.rq)) 1 (.int .i64 V.vl)
            generalize (w4.setCell ⟨w1.heap.size, 0, none⟩ (.int .i64 V.rq)).setCell ⟨w1.heap.size, 1, none⟩ (.int .i64 V.vl) = w5 at hb5 ⊢
            have HBE := Lib.hid (HBW1.out.trans (hb5.mono HBW1.out.size))
            clear hb1 hb5 yy0 yy1 yy2 yy3 yy4
            go_wp2_with fail
            go_ret
            exact ⟨congrArg (fun z => Ending.returned (Value.int .i64 z)) HF.out, HBE.out⟩
      · obtain rfl : k = l.length := by omega
        have hfin := hsc.out
        rw [List.drop_length, sscan_nil] at hfin
        have HF := Lib.hid hfin; clear hfin
        go_wp2
        go_ret
        exact ⟨congrArg (fun z => Ending.returned (Value.int .i64 z)) HF.out, HBW.out⟩

def AskFindSeen : Prop := ∀ (A : Option Addr) (c : Nat) (l : List Sn) (q : Int) (w : World) (fp : List Nat), l.length ≤ 1048576 → (∀ x ∈ l, WfS x) → (Lit.int .i64 q).wf = true → Rd w 2 (.slice A l.length c) (ecs sc l) fp →
  Calls Try.prog 46 #[.slice A l.length c, .int .i64 q] w fun e w' => e = .returned (pairV (findS l q)) ∧ Below w.heap.size w w'

set_option maxRecDepth 100000 in
set_option maxHeartbeats 1000000 in
theorem implFindSeen_a : AskFindSeen := by
  intro A c l q w fp hs hwf _ ha
  have hmax := ha.len_le
  generalize hres : findS l q = res
  have HRES := Lib.hid hres; clear hres
  have HWF := Lib.hid hwf; clear hwf
  have ha1 := ha.alloc (.cells #[.int .i64 0, .int .i64 0] 36)
  go_enter Try.func46, Try.ntmps46
  go_wp2_with fail
  refine (implSeenFault_a A c l _ fp hs HWF.out ha1).mono ?_
  rintro e w1 ⟨rfl, hb1⟩
  have hg1 := newest hb1 (by simp)
  have hbw : Below w.heap.size w w1 := (below_new _).trans (hb1.mono (by simp))
  have HBW := Lib.hid hbw; have HG1 := Lib.hid hg1
  have ha2 := ha.below' hbw
  clear hb1 hg1 hbw ha1
  by_cases h0 : seenF l = 0
  · rw [h0]
    go_wp2_with fail
    refine (findReq_c A c l.length l q _ fp rfl ha2).mono ?_
    rintro e w2 ⟨rfl, hb2⟩
    have hg2 := (hb2.block _ (heap_lt HG1.out)).trans HG1.out
    obtain ⟨z0, z1, f0, f1, hz⟩ := pair_at5 hg2
    have HBW2 := Lib.hid (HBW.out.trans (hb2.mono HBW.out.size))
    clear hb2 hg2
    cases hH : hasS l q
    · have hr : res = (4, 0) := by rw [← HRES.out]; unfold findS; rw [if_pos h0, hH]; rfl
      subst hr
      clear hH h0 HRES
      generalize getS l q = V
      go_wp2_with fail
      exact bodyPost_ret (v := pairV (4, 0)) (by simp [results, Try.results46, go_sem, z0, z1, hz]) rfl ⟨rfl, below_more (below_two HBW2.out _ _) _⟩
    · have hr : res = (0, (getS l q).vl) := by rw [← HRES.out]; unfold findS; rw [if_pos h0, hH]; rfl
      clear hH h0 HRES
      generalize getS l q = V at *
      subst hr
      go_wp2_with fail
      exact bodyPost_ret (v := pairV (0, V.vl)) (by simp [results, Try.results46, go_sem, z0, z1, hz]) rfl ⟨rfl, below_more (below_two HBW2.out _ _) _⟩
  · have hr : res = (seenF l, 0) := by rw [← HRES.out]; unfold findS; rw [if_neg h0]
    generalize seenF l = V at *
    subst hr
    have t1 : (V != 0) = true := by simpa using h0
    obtain ⟨z0, z1, f0, f1, hz⟩ := pair_at5 HG1.out
    go_wp2_with fail
    exact bodyPost_ret (v := pairV (V, 0)) (by simp [results, Try.results46, go_sem, z0, z1, hz]) rfl ⟨rfl, by first | exact below_two HBW.out _ _ | skip⟩
end Go.Proofs.Ytfohlopbfanaeaa
