/-
  The model's functions of chapter 5, first part: faults of requests that were seen, finding one.
-/
import Derived.Test.YtfohlopbfanaeaaSeen2
import Derived.Test.YtfohlopbfanaeaaSeenS
namespace Go.Proofs.Ytfohlopbfanaeaa
open Go.RowKit

theorem idx_found {l : List Sn} {q : Int} {k : Nat} (hk : k < l.length) (he : l[k].rq = q) (hn : ∀ j (h : j < l.length), j < k → l[j].rq ≠ q) : idxS l q = some k := by
  unfold idxS
  rw [List.findIdx?_eq_some_iff_getElem]
  exact ⟨hk, by simpa using he, fun j hj => by simpa using hn j (by omega) hj⟩
theorem idx_none {l : List Sn} {q : Int} (hn : ∀ j (h : j < l.length), j < l.length → l[j].rq ≠ q) : idxS l q = none := by
  unfold idxS
  rw [List.findIdx?_eq_none_iff]
  intro x hx
  obtain ⟨j, hj, rfl⟩ := List.getElem_of_mem hx
  simpa using hn j hj hj
theorem none_step {l : List Sn} {q : Int} {k : Nat} (hk : k < l.length) (he : l[k].rq ≠ q) (hn : ∀ j (h : j < l.length), j < k → l[j].rq ≠ q) : ∀ j (h : j < l.length), j < k + 1 → l[j].rq ≠ q := by
  intro j h hj
  by_cases e : j = k
  · subst e; exact he
  · exact hn j h (by omega)
theorem getS_none {l : List Sn} {q : Int} (h : idxS l q = none) : getS l q = ⟨0, 0⟩ ∧ hasS l q = false := by
  refine ⟨?_, by rw [hasS_idx, h]; rfl⟩
  unfold idxS at h
  unfold getS
  have : l.find? (fun x => x.rq == q) = none := by
    rw [List.find?_eq_none]; rw [List.findIdx?_eq_none_iff] at h
    intro x hx; simpa using h x hx
  rw [this]; rfl
/-- The first so many of a slice. -/
theorem Rd.take {α : Type} {ec : α → List Value} {K : Nat} (hK : ∀ a, (ec a).length = K) {w : World} {l : List α} {fp : List Nat} {A : Option Addr} {c n k : Nat} (hn : n = l.length) (h : Rd w K (.slice A n c) (ecs ec l) fp) (hk : k ≤ l.length) :
    ∃ fq, Rd w K (.slice A k c) (ecs ec (l.take k)) fq := by
  subst hn
  obtain ⟨A', n', c', e, h1, h2, h2', h3⟩ := h
  injection e with e1 e2 e3
  subst e1 e2 e3
  have hl : (ecs ec (l.take k)).length = k * K := by rw [ecs_length hK, List.length_take, Nat.min_eq_left hk]
  rcases Nat.eq_zero_or_pos k with h0 | h0
  · subst h0
    exact ⟨[], A, 0, c, rfl, by simpa using hl, by omega, by omega, .inl ⟨rfl, rfl⟩⟩
  · rcases h3 with ⟨h3, _⟩ | ⟨b, off, rfl, rfl, hlt, hc⟩
    · omega
    · refine ⟨[b], _, k, c, rfl, hl, by omega, by omega, .inr ⟨b, off, rfl, rfl, hlt, fun i u hu => hc i u ?_⟩⟩
      have e : ecs ec l = ecs ec (l.take k) ++ ecs ec (l.drop k) := by rw [← ecs_append, List.take_append_drop]
      rw [e, List.getElem?_append_left (List.getElem?_eq_some_iff.1 hu).1]
      exact hu

theorem l1In_q (v lo hi : Int) (b : Bool) (hb : inB v lo hi = b) (w : World) :
    Calls Try.prog 88 #[.int .i64 v, .int .i64 lo, .int .i64 hi] w fun e w' => e = .returned (.bool b) ∧ w = w' := by
  subst hb; exact l1In_c v lo hi w

theorem l5Is_c (b o : Nat) (x : Sn) (w : World) (c0 : w.cell? ⟨b, o, none⟩ = some (.int .i64 x.rq)) (c1 : w.cell? ⟨b, o + 1, none⟩ = some (.int .i64 x.vl)) :
    Calls Try.prog 75 #[.pointer (some ⟨b, o, none⟩)] w fun e w' => e = .returned (.bool (seenB x)) ∧ w = w' := by
  generalize hB : seenB x = B
  have HB := Lib.hid hB; clear hB
  cases h1 : inB x.rq 1 999
  · have e : B = false := by rw [← HB.out]; simp [seenB, h1]
    subst e
    have H1 := Lib.hid h1; clear h1
    go_enter Try.func75, Try.ntmps75
    go_wp2_with (go_at_call 88; refine (l1In_q _ _ _ _ H1.out _).mono ?_; rintro e w' ⟨rfl, rfl⟩)
    go_ret
    exact ⟨rfl, rfl⟩
  · cases h2 : inB x.vl 0 19998
    all_goals
      have HE : Hid (B = _) := HB.out.symm.trans (show seenB x = _ by unfold seenB; rw [h1, h2])
      have H1 := Lib.hid h1; have H2 := Lib.hid h2; clear h1 h2
      go_enter Try.func75, Try.ntmps75
      go_wp2_with (go_at_call 88; ((first | (with_reducible refine (l1In_q x.rq 1 999 _ H1.out _).mono ?_) | (with_reducible refine (l1In_q x.vl 0 19998 _ H2.out _).mono ?_)); rintro e w' ⟨rfl, rfl⟩))
      go_ret
      exact ⟨by rw [HE.out]; rfl, rfl⟩

set_option maxRecDepth 100000 in
set_option maxHeartbeats 1000000 in
theorem l5At_c (A : Option Addr) (c n : Nat) (l : List Sn) (q : Int) (w : World) (fp : List Nat) (hn : n = l.length) (ha : Rd w 2 (.slice A n c) (ecs sc l) fp) :
    Calls Try.prog 76 #[.slice A n c, .int .i64 q] w fun e w' => e = .returned (.int .i64 (idxN l q)) ∧ w' = w := by
  subst hn
  have hmax := ha.len_le
  generalize hR : idxN l q = V
  have HR := Lib.hid hR; clear hR
  go_enter Try.func76, Try.ntmps76
  go_wp2
  go_loop [5] (fun i => ∃ k : Nat, k ≤ l.length ∧ i = .int .i64 k ∧ Hid (∀ j (h : j < l.length), j < k → l[j].rq ≠ q)) (fun i => l.length - (intOf i).toNat)
  case atStart => exact ⟨0, Nat.zero_le _, rfl, fun j _ h => by omega⟩
  case round =>
    obtain ⟨k, hk, rfl, HN⟩ := hrel
    by_cases hlt : k < l.length
    · obtain ⟨b1, o1, rfl, _, hl1, p0, p1⟩ := ha.seen_at hlt
      by_cases he : l[k].rq = q
      · have hV : V = (k : Int) := by rw [← HR.out]; unfold idxN; rw [idx_found hlt he HN.out]
        have t1 : (l[k].rq == q) = true := by simpa using he
        have HV := Lib.hid hV; clear hV he ha
        generalize l[k] = x at *
        go_wp2
        go_ret
        exact ⟨congrArg (fun z => Ending.returned (Value.int .i64 z)) HV.out.symm, rfl⟩
      · have hs := none_step hlt he HN.out
        have t1 : (l[k].rq == q) = false := by simpa using he
        have HS := Lib.hid hs; clear hs he ha
        generalize hx : l[k] = x at *
        clear hx
        go_wp2
        exact ⟨⟨k + 1, by omega, by go_num, HS.out⟩, by simp [intOf]; omega⟩
    · obtain rfl : k = l.length := by omega
      have hV : V = -1 := by rw [← HR.out]; unfold idxN; rw [idx_none HN.out]
      have HV := Lib.hid hV; clear hV
      go_wp2
      go_ret
      exact ⟨congrArg (fun z => Ending.returned (Value.int .i64 z)) HV.out.symm, rfl⟩

theorem l5At_v (A : Option Addr) (c n : Nat) (l : List Sn) (q V : Int) (hV : idxN l q = V) (w : World) (fp : List Nat) (hn : n = l.length) (ha : Rd w 2 (.slice A n c) (ecs sc l) fp) :
    Calls Try.prog 76 #[.slice A n c, .int .i64 q] w fun e w' => e = .returned (.int .i64 V) ∧ w' = w := by
  subst hV; exact l5At_c A c n l q w fp hn ha

set_option maxRecDepth 100000 in
set_option maxHeartbeats 2000000 in
theorem l5Seen_c (A : Option Addr) (c : Nat) (l : List Sn) (w : World) (fp : List Nat) (ha : Rd w 2 (.slice A l.length c) (ecs sc l) fp) :
    Calls Try.prog 70 #[.slice A l.length c] w fun e w' => e = .returned (.int .i64 (seenF l)) ∧ ∃ m, w' = w.drewN m := by
  have hmax := ha.len_le
  by_cases hbig : 6 < l.length
  · have e : seenF l = 2 := by simp [seenF, hbig]
    rw [e]
    clear e
    go_enter Try.func70, Try.ntmps70
    go_wp2
    go_ret
    exact ⟨rfl, 0, rfl⟩
  · rw [seenF_small hbig]
    generalize hS : sscan (l.take 0) (l.drop 0) = S
    have HS := Lib.hid hS; clear hS
    go_enter Try.func70, Try.ntmps70
    go_wp2
    go_loopw [3] (fun i wr => ∃ (k m : Nat), k ≤ l.length ∧ i = .int .i64 k ∧ wr = w.drewN m ∧ Hid (sscan (l.take k) (l.drop k) = S)) (fun i _ => l.length - (intOf i).toNat)
    case atStart => exact ⟨0, 0, Nat.zero_le _, rfl, rfl, HS.out⟩
    case round =>
      obtain ⟨k, m, hk, rfl, hw, hsc⟩ := hrel
      have ha' : Rd wr 2 (.slice A l.length c) (ecs sc l) fp := by rw [hw]; exact ha.drewN m
      have HW := Lib.hid hw; clear hw
      by_cases hlt : k < l.length
      · have hst := hsc.out
        rw [sscan_at l k hlt] at hst
        obtain ⟨b1, o1, hA, _, hl1, p0, p1⟩ := ha'.seen_at hlt
        subst hA
        obtain ⟨fq, hq⟩ := ha'.take sc_len rfl hk
        have hlen : k = (l.take k).length := by rw [List.length_take]; omega
        have HQ := Lib.hid hq; have HLEN := Lib.hid hlen; clear hq hlen
        have hcap : l.length ≤ c := by obtain ⟨_, _, _, e, _, _, h, _⟩ := ha'; injection e with _ e2 e3; omega
        have HSC := Lib.hid hst; clear hst hsc ha'
        generalize hT : l.take k = T at *
        clear hT
        generalize l[k] = x at *
        cases hB : seenB x
        · have hst := HSC.out
          rw [if_pos hB] at hst
          have HF := Lib.hid hst; have HB := Lib.hid hB; clear hst hB HSC
          go_wp2_with fail
          refine (l5Is_c b1 _ x _ p0 p1).mono ?_
          rw [HB.out]
          rintro e w' ⟨rfl, hw⟩
          subst hw
          go_wp2
          go_ret
          exact ⟨congrArg (fun z => Ending.returned (Value.int .i64 z)) HF.out, m, HW.out⟩
        · have hst := HSC.out
          rw [if_neg (by rw [hB]; decide)] at hst
          have hin := idxN_neg T x.rq
          generalize hV : idxN T x.rq = V at hin
          have HV := Lib.hid hV; have HB := Lib.hid hB; clear hB HSC hV
          have hi0 : (0 : Int) ≤ (k : Int) := by omega
          have hi1 : (k : Int) < (l.length : Int) := by omega
          have hi2 : (k : Int) ≤ (c : Int) := by omega
          by_cases hge : 0 ≤ V
          · rw [if_pos (hin.1 hge)] at hst
            have HF := Lib.hid hst; clear hst hin
            go_wp2_with fail
            refine (l5Is_c b1 _ x _ p0 p1).mono ?_
            rw [HB.out]
            rintro e w' ⟨rfl, hw⟩
            subst hw
            go_wp2_with fail
            go_quiet ((go_at_call 76; exact Calls.quiet_of_same (l5At_v (some ⟨b1, o1, none⟩) c k T x.rq V HV.out _ fq HLEN.out HQ.out)))
            go_wp2
            go_ret
            exact ⟨congrArg (fun z => Ending.returned (Value.int .i64 z)) HF.out, _, by rw [HW.out, World.drewN_drewN]⟩
          · rw [if_neg (fun h => hge (hin.2 h))] at hst
            have HF := Lib.hid hst; clear hst hin
            go_wp2_with fail
            refine (l5Is_c b1 _ x _ p0 p1).mono ?_
            rw [HB.out]
            rintro e w' ⟨rfl, hw⟩
            subst hw
            go_wp2_with fail
            go_quiet ((go_at_call 76; exact Calls.quiet_of_same (l5At_v (some ⟨b1, o1, none⟩) c k T x.rq V HV.out _ fq HLEN.out HQ.out)))
            go_wp2
            exact ⟨⟨k + 1, _, by omega, by go_num, by rw [HW.out, World.drewN_drewN], HF.out⟩, by simp [intOf]; omega⟩
      · obtain rfl : k = l.length := by omega
        have hfin := hsc.out
        rw [List.drop_length, sscan_nil] at hfin
        have HF := Lib.hid hfin; clear hfin
        go_wp2
        go_ret
        exact ⟨congrArg (fun z => Ending.returned (Value.int .i64 z)) HF.out, m, HW.out⟩

theorem specSeenFault_c (A : Option Addr) (c : Nat) (l : List Sn) (w : World) (fp : List Nat) (ha : Rd w 2 (.slice A l.length c) (ecs sc l) fp) :
    Calls Try.prog 29 #[.slice A l.length c] w fun e w' => e = .returned (.int .i64 (seenF l)) ∧ Below w.heap.size w w' := by
  go_enter Try.func29, Try.ntmps29
  go_wp2_with fail
  refine (l5Seen_c A c l _ fp ha).mono ?_
  rintro e w1 ⟨rfl, m, hw⟩
  have HW := Lib.hid hw; clear hw
  go_wp2
  go_ret
  exact ⟨rfl, by rw [HW.out]; exact below_drewN' (Below.refl _ _) m⟩

theorem pair_at5 {w : World} {g : Nat} {u v : Value} {t : TypeId} (h : w.heap[g]? = some (.cells #[u, v] t (0, 0))) :
    w.cell? ⟨g, 0, none⟩ = some u ∧ w.cell? ⟨g, 1, none⟩ = some v ∧ w.frozen? ⟨g, 0, none⟩ = false ∧ w.frozen? ⟨g, 1, none⟩ = false ∧ g < w.heap.size :=
  ⟨cell_of_heap h, cell_of_heap h, frozen_of_heap h, frozen_of_heap h, heap_lt h⟩
theorem below_two {w w1 : World} (hb : Below w.heap.size w w1) (a b : Value) : Below w.heap.size w ((w1.setCell ⟨w.heap.size, 0, none⟩ a).setCell ⟨w.heap.size, 1, none⟩ b) :=
  hb.trans ((But.two w1 w.heap.size 0 1 a b).below hb.size (by intro b hb; simp at hb; omega))

set_option maxRecDepth 100000 in
set_option maxHeartbeats 1000000 in
theorem specFindSeen_c (A : Option Addr) (c : Nat) (l : List Sn) (q : Int) (w : World) (fp : List Nat) (ha : Rd w 2 (.slice A l.length c) (ecs sc l) fp) :
    Calls Try.prog 45 #[.slice A l.length c, .int .i64 q] w fun e w' => e = .returned (pairV (findS l q)) ∧ Below w.heap.size w w' := by
  have hmax := ha.len_le
  generalize hres : findS l q = res
  have HRES := Lib.hid hres; clear hres
  have ha1 := ha.alloc (.cells #[.int .i64 0, .int .i64 0] 36)
  go_enter Try.func45, Try.ntmps45
  go_wp2_with fail
  refine (l5Seen_c A c l _ fp ha1).mono ?_
  rintro e w1 ⟨rfl, m, hw⟩
  have hb1 : Below (w.heap.size + 1) (w.alloc (.cells #[.int .i64 0, .int .i64 0] 36)) w1 := by rw [hw]; exact below_drewN' (Below.refl _ _) m
  have hg1 := newest hb1 (by omega)
  obtain ⟨z0, z1, f0, f1, hz⟩ := pair_at5 hg1
  have hbw : Below w.heap.size w w1 := (below_new _).trans (hb1.mono (by omega))
  have HBW := Lib.hid hbw
  have ha2 := ha.below' hbw
  clear hw hb1 hg1 hbw ha1
  by_cases h0 : seenF l = 0
  · rw [h0]
    have hin := idxN_neg l q
    generalize hV : idxN l q = V at hin
    have HV := Lib.hid hV
    go_wp2_with fail
    refine (l5At_c A c l.length l q _ fp rfl ha2).mono ?_
    rintro e w2 ⟨rfl, hw⟩
    subst hw
    rw [HV.out]
    by_cases hge : 0 ≤ V
    · obtain ⟨i, hi⟩ : ∃ i, idxS l q = some i := by
        have := hin.1 hge
        rw [hasS_idx, Option.isSome_iff_exists] at this; exact this
      obtain ⟨hil, _, hgs⟩ := idxS_some hi
      have hVi : V = (i : Int) := by rw [← hV]; unfold idxN; rw [hi]
      have hr : res = (0, l[i].vl) := by rw [← HRES.out]; unfold findS; rw [if_pos h0, if_pos (hin.1 hge), hgs]
      obtain ⟨b1, o1, hA, _, hl1, p0, p1⟩ := ha2.seen_at hil
      subst hA
      generalize l[i] = x at *
      subst hVi hr
      have hi1 : (i : Int) < (l.length : Int) := by omega
      clear hV hin hge hgs hi ha ha2 h0
      go_wp2_with fail
      exact bodyPost_ret (v := pairV (0, x.vl)) (by simp [results, Try.results45, go_sem, z0, z1, hz]) rfl ⟨rfl, below_two HBW.out _ _⟩
    · have hr : res = (4, 0) := by rw [← HRES.out]; unfold findS; rw [if_pos h0, if_neg (fun h => hge (hin.2 h))]
      subst hr
      clear hV hin
      go_wp2_with fail
      exact bodyPost_ret (v := pairV (4, 0)) (by simp [results, Try.results45, go_sem, z0, z1, hz]) rfl ⟨rfl, below_two HBW.out _ _⟩
  · have hr : res = (seenF l, 0) := by rw [← HRES.out]; unfold findS; rw [if_neg h0]
    generalize seenF l = V at *
    subst hr
    have t1 : (V != 0) = true := by simpa using h0
    go_wp2_with fail
    exact bodyPost_ret (v := pairV (V, 0)) (by simp [results, Try.results45, go_sem, z0, z1, hz]) rfl ⟨rfl, below_two HBW.out _ _⟩
end Go.Proofs.Ytfohlopbfanaeaa
