/-
  The ring of a list of requests and the list of a ring, by a maker (mkring2.py).
-/
import Derived.Test.YtfohlopbfanaeaaRing5b
import Derived.Test.YtfohlopbfanaeaaNote5
import Derived.Laws.AppendOwn
namespace Go.Proofs.Ytfohlopbfanaeaa
open Go.RowKit

theorem withL_c (l : List Sn) (x : Sn) (w : World) (h : l.length < 6) (n : Int) (hn : n = l.length) :
    Calls Try.prog 79 #[rgv l 0 n, sv x] w fun e w' => e = .returned (rgv (l ++ [x]) 0 (n + 1)) ∧ Below w.heap.size w w' := by
  have hl : l.length = 0 ∨ l.length = 1 ∨ l.length = 2 ∨ l.length = 3 ∨ l.length = 4 ∨ l.length = 5 := by omega
  simp only [rgv, rgcs, at6_snoc]
  rcases hl with e | e | e | e | e | e
  · have hk : n = 0 := by omega
    subst hk
    simp only [e]
    exact with0_c (at6 l 0) (at6 l 1) (at6 l 2) (at6 l 3) (at6 l 4) (at6 l 5) x w
  · have hk : n = 1 := by omega
    subst hk
    simp only [e]
    exact with1_c (at6 l 0) (at6 l 1) (at6 l 2) (at6 l 3) (at6 l 4) (at6 l 5) x w
  · have hk : n = 2 := by omega
    subst hk
    simp only [e]
    exact with2_c (at6 l 0) (at6 l 1) (at6 l 2) (at6 l 3) (at6 l 4) (at6 l 5) x w
  · have hk : n = 3 := by omega
    subst hk
    simp only [e]
    exact with3_c (at6 l 0) (at6 l 1) (at6 l 2) (at6 l 3) (at6 l 4) (at6 l 5) x w
  · have hk : n = 4 := by omega
    subst hk
    simp only [e]
    exact with4_c (at6 l 0) (at6 l 1) (at6 l 2) (at6 l 3) (at6 l 4) (at6 l 5) x w
  · have hk : n = 5 := by omega
    subst hk
    simp only [e]
    exact with5_c (at6 l 0) (at6 l 1) (at6 l 2) (at6 l 3) (at6 l 4) (at6 l 5) x w

theorem at6_tail (l : List Sn) (x : Sn) (i : Nat) : at6 (x :: l.drop 1) (i + 1) = at6 l (i + 1) := by
  unfold at6
  rw [List.getD_eq_getElem?_getD, List.getD_eq_getElem?_getD, List.getElem?_cons_succ, List.getElem?_drop, Nat.add_comm 1 i]
theorem withF_c (l : List Sn) (x : Sn) (w : World) :
    Calls Try.prog 79 #[rgv l 0 6, sv x] w fun e w' => e = .returned (rgv (x :: l.drop 1) 1 6) ∧ Below w.heap.size w w' := by
  have h0 : at6 (x :: l.drop 1) 0 = x := rfl
  have h1 := at6_tail l x 0
  have h2 := at6_tail l x 1
  have h3 := at6_tail l x 2
  have h4 := at6_tail l x 3
  have h5 := at6_tail l x 4
  simp only [Nat.zero_add, Nat.reduceAdd] at h1 h2 h3 h4 h5
  simp only [rgv, rgcs, h0, h1, h2, h3, h4, h5]
  exact withFull_c (at6 l 0) (at6 l 1) (at6 l 2) (at6 l 3) (at6 l 4) (at6 l 5) x w

/-- A ring's block behind fourteen stores. -/
theorem ring_set {w : World} {g : Nat} {u0 u1 u2 u3 u4 u5 u6 u7 u8 u9 u10 u11 u12 u13 v0 v1 v2 v3 v4 v5 v6 v7 v8 v9 v10 v11 v12 v13 : Value} {t : TypeId} (h : w.heap[g]? = some (.cells #[u0, u1, u2, u3, u4, u5, u6, u7, u8, u9, u10, u11, u12, u13] t (0, 0))) : ((((((((((((((w.setCell ⟨g, 0, none⟩ v0).setCell ⟨g, 1, none⟩ v1).setCell ⟨g, 2, none⟩ v2).setCell ⟨g, 3, none⟩ v3).setCell ⟨g, 4, none⟩ v4).setCell ⟨g, 5, none⟩ v5).setCell ⟨g, 6, none⟩ v6).setCell ⟨g, 7, none⟩ v7).setCell ⟨g, 8, none⟩ v8).setCell ⟨g, 9, none⟩ v9).setCell ⟨g, 10, none⟩ v10).setCell ⟨g, 11, none⟩ v11).setCell ⟨g, 12, none⟩ v12).setCell ⟨g, 13, none⟩ v13).heap[g]? = some (.cells #[v0, v1, v2, v3, v4, v5, v6, v7, v8, v9, v10, v11, v12, v13] t (0, 0)) := by
  have h1 := heap_set1 (i := 0) (v := v0) h
  rw [show (#[u0, u1, u2, u3, u4, u5, u6, u7, u8, u9, u10, u11, u12, u13] : Array Value).setIfInBounds 0 v0 = #[v0, u1, u2, u3, u4, u5, u6, u7, u8, u9, u10, u11, u12, u13] from rfl] at h1
  have h2 := heap_set1 (i := 1) (v := v1) h1
  rw [show (#[v0, u1, u2, u3, u4, u5, u6, u7, u8, u9, u10, u11, u12, u13] : Array Value).setIfInBounds 1 v1 = #[v0, v1, u2, u3, u4, u5, u6, u7, u8, u9, u10, u11, u12, u13] from rfl] at h2
  have h3 := heap_set1 (i := 2) (v := v2) h2
  rw [show (#[v0, v1, u2, u3, u4, u5, u6, u7, u8, u9, u10, u11, u12, u13] : Array Value).setIfInBounds 2 v2 = #[v0, v1, v2, u3, u4, u5, u6, u7, u8, u9, u10, u11, u12, u13] from rfl] at h3
  have h4 := heap_set1 (i := 3) (v := v3) h3
  rw [show (#[v0, v1, v2, u3, u4, u5, u6, u7, u8, u9, u10, u11, u12, u13] : Array Value).setIfInBounds 3 v3 = #[v0, v1, v2, v3, u4, u5, u6, u7, u8, u9, u10, u11, u12, u13] from rfl] at h4
  have h5 := heap_set1 (i := 4) (v := v4) h4
  rw [show (#[v0, v1, v2, v3, u4, u5, u6, u7, u8, u9, u10, u11, u12, u13] : Array Value).setIfInBounds 4 v4 = #[v0, v1, v2, v3, v4, u5, u6, u7, u8, u9, u10, u11, u12, u13] from rfl] at h5
  have h6 := heap_set1 (i := 5) (v := v5) h5
  rw [show (#[v0, v1, v2, v3, v4, u5, u6, u7, u8, u9, u10, u11, u12, u13] : Array Value).setIfInBounds 5 v5 = #[v0, v1, v2, v3, v4, v5, u6, u7, u8, u9, u10, u11, u12, u13] from rfl] at h6
  have h7 := heap_set1 (i := 6) (v := v6) h6
  rw [show (#[v0, v1, v2, v3, v4, v5, u6, u7, u8, u9, u10, u11, u12, u13] : Array Value).setIfInBounds 6 v6 = #[v0, v1, v2, v3, v4, v5, v6, u7, u8, u9, u10, u11, u12, u13] from rfl] at h7
  have h8 := heap_set1 (i := 7) (v := v7) h7
  rw [show (#[v0, v1, v2, v3, v4, v5, v6, u7, u8, u9, u10, u11, u12, u13] : Array Value).setIfInBounds 7 v7 = #[v0, v1, v2, v3, v4, v5, v6, v7, u8, u9, u10, u11, u12, u13] from rfl] at h8
  have h9 := heap_set1 (i := 8) (v := v8) h8
  rw [show (#[v0, v1, v2, v3, v4, v5, v6, v7, u8, u9, u10, u11, u12, u13] : Array Value).setIfInBounds 8 v8 = #[v0, v1, v2, v3, v4, v5, v6, v7, v8, u9, u10, u11, u12, u13] from rfl] at h9
  have h10 := heap_set1 (i := 9) (v := v9) h9
  rw [show (#[v0, v1, v2, v3, v4, v5, v6, v7, v8, u9, u10, u11, u12, u13] : Array Value).setIfInBounds 9 v9 = #[v0, v1, v2, v3, v4, v5, v6, v7, v8, v9, u10, u11, u12, u13] from rfl] at h10
  have h11 := heap_set1 (i := 10) (v := v10) h10
  rw [show (#[v0, v1, v2, v3, v4, v5, v6, v7, v8, v9, u10, u11, u12, u13] : Array Value).setIfInBounds 10 v10 = #[v0, v1, v2, v3, v4, v5, v6, v7, v8, v9, v10, u11, u12, u13] from rfl] at h11
  have h12 := heap_set1 (i := 11) (v := v11) h11
  rw [show (#[v0, v1, v2, v3, v4, v5, v6, v7, v8, v9, v10, u11, u12, u13] : Array Value).setIfInBounds 11 v11 = #[v0, v1, v2, v3, v4, v5, v6, v7, v8, v9, v10, v11, u12, u13] from rfl] at h12
  have h13 := heap_set1 (i := 12) (v := v12) h12
  rw [show (#[v0, v1, v2, v3, v4, v5, v6, v7, v8, v9, v10, v11, u12, u13] : Array Value).setIfInBounds 12 v12 = #[v0, v1, v2, v3, v4, v5, v6, v7, v8, v9, v10, v11, v12, u13] from rfl] at h13
  have h14 := heap_set1 (i := 13) (v := v13) h13
  rw [show (#[v0, v1, v2, v3, v4, v5, v6, v7, v8, v9, v10, v11, v12, u13] : Array Value).setIfInBounds 13 v13 = #[v0, v1, v2, v3, v4, v5, v6, v7, v8, v9, v10, v11, v12, v13] from rfl] at h14
  exact h14
theorem ring_but (w : World) (g : Nat) (v0 v1 v2 v3 v4 v5 v6 v7 v8 v9 v10 v11 v12 v13 : Value) : But [g] w ((((((((((((((w.setCell ⟨g, 0, none⟩ v0).setCell ⟨g, 1, none⟩ v1).setCell ⟨g, 2, none⟩ v2).setCell ⟨g, 3, none⟩ v3).setCell ⟨g, 4, none⟩ v4).setCell ⟨g, 5, none⟩ v5).setCell ⟨g, 6, none⟩ v6).setCell ⟨g, 7, none⟩ v7).setCell ⟨g, 8, none⟩ v8).setCell ⟨g, 9, none⟩ v9).setCell ⟨g, 10, none⟩ v10).setCell ⟨g, 11, none⟩ v11).setCell ⟨g, 12, none⟩ v12).setCell ⟨g, 13, none⟩ v13) :=
  ((((((((((((((But.refl _ w).setCell (by simp) _).setCell (by simp) _).setCell (by simp) _).setCell (by simp) _).setCell (by simp) _).setCell (by simp) _).setCell (by simp) _).setCell (by simp) _).setCell (by simp) _).setCell (by simp) _).setCell (by simp) _).setCell (by simp) _).setCell (by simp) _).setCell (by simp) _

theorem at6_nil (i : Nat) : at6 [] i = ⟨0, 0⟩ := by simp [at6]
set_option maxRecDepth 100000 in
set_option maxHeartbeats 4000000 in
theorem ringOf_c (A : Option Addr) (c : Nat) (l : List Sn) (w : World) (fp : List Nat) (hl : l.length ≤ 6) (ha : Rd w 2 (.slice A l.length c) (ecs sc l) fp) :
    Calls Try.prog 78 #[.slice A l.length c] w fun e w' => e = .returned (rgv l 0 l.length) ∧ Below w.heap.size w w' := by
  have HA := Lib.hid ha; clear ha
  go_enter Try.func78, Try.ntmps78
  go_wp2
  have HST : Hid (((w.alloc (.cells #[.int .i64 0, .int .i64 0, .int .i64 0, .int .i64 0, .int .i64 0, .int .i64 0, .int .i64 0, .int .i64 0, .int .i64 0, .int .i64 0, .int .i64 0, .int .i64 0, .int .i64 0, .int .i64 0] 114)).alloc (.cells #[.int .i64 0, .int .i64 0, .int .i64 0, .int .i64 0, .int .i64 0, .int .i64 0, .int .i64 0, .int .i64 0, .int .i64 0, .int .i64 0, .int .i64 0, .int .i64 0, .int .i64 0, .int .i64 0] 114)).heap[w.heap.size + 1]? = some (.cells (rgcs (l.take 0) 0 ((0 : Nat) : Int)) 114 (0, 0)) ∧ ((w.alloc (.cells #[.int .i64 0, .int .i64 0, .int .i64 0, .int .i64 0, .int .i64 0, .int .i64 0, .int .i64 0, .int .i64 0, .int .i64 0, .int .i64 0, .int .i64 0, .int .i64 0, .int .i64 0, .int .i64 0] 114)).alloc (.cells #[.int .i64 0, .int .i64 0, .int .i64 0, .int .i64 0, .int .i64 0, .int .i64 0, .int .i64 0, .int .i64 0, .int .i64 0, .int .i64 0, .int .i64 0, .int .i64 0, .int .i64 0, .int .i64 0] 114)).heap[w.heap.size]? = some (.cells #[.int .i64 0, .int .i64 0, .int .i64 0, .int .i64 0, .int .i64 0, .int .i64 0, .int .i64 0, .int .i64 0, .int .i64 0, .int .i64 0, .int .i64 0, .int .i64 0, .int .i64 0, .int .i64 0] 114 (0, 0)) ∧ Below w.heap.size w ((w.alloc (.cells #[.int .i64 0, .int .i64 0, .int .i64 0, .int .i64 0, .int .i64 0, .int .i64 0, .int .i64 0, .int .i64 0, .int .i64 0, .int .i64 0, .int .i64 0, .int .i64 0, .int .i64 0, .int .i64 0] 114)).alloc (.cells #[.int .i64 0, .int .i64 0, .int .i64 0, .int .i64 0, .int .i64 0, .int .i64 0, .int .i64 0, .int .i64 0, .int .i64 0, .int .i64 0, .int .i64 0, .int .i64 0, .int .i64 0, .int .i64 0] 114))) :=
    ⟨(heap_new _ _ (by simp)).trans (by simp [at6_nil]), heap_old (heap_new w _ rfl), below_more (below_new _) _⟩
  go_loopw [8] (fun i wr => ∃ k : Nat, k ≤ l.length ∧ i = .int .i64 k ∧ Hid (wr.heap[w.heap.size + 1]? = some (.cells (rgcs (l.take k) 0 (k : Int)) 114 (0, 0)) ∧ wr.heap[w.heap.size]? = some (.cells #[.int .i64 0, .int .i64 0, .int .i64 0, .int .i64 0, .int .i64 0, .int .i64 0, .int .i64 0, .int .i64 0, .int .i64 0, .int .i64 0, .int .i64 0, .int .i64 0, .int .i64 0, .int .i64 0] 114 (0, 0)) ∧ Below w.heap.size w wr)) (fun i _ => l.length - (intOf i).toNat)
  case atStart => exact ⟨0, Nat.zero_le _, rfl, HST⟩
  case round =>
    clear HST
    obtain ⟨k, hk, rfl, HI⟩ := hrel
    obtain ⟨hgr, hgo, hbw⟩ := HI.out
    by_cases hlt : k < l.length
    · obtain ⟨b1, o1, hA, _, hl1, p0, p1⟩ := (HA.out.below' hbw).seen_at hlt
      subst hA
      have htk : l.take (k + 1) = l.take k ++ [l[k]] := List.take_succ_eq_append_getElem hlt
      have htl : (l.take k).length = k := by rw [List.length_take]; omega
      have HTK := Lib.hid htk; have HTL := Lib.hid htl
      generalize l[k] = x at *
      have GR := Lib.hid (heap_old (o' := sbox x) hgr); have GO := Lib.hid (heap_old (o' := sbox x) hgo); have HB := Lib.hid (below_more hbw (sbox x))
      obtain ⟨c0, c1, c2, c3, c4, c5, c6, c7, c8, c9, c10, c11, c12, c13, f0, f1, f2, f3, f4, f5, f6, f7, f8, f9, f10, f11, f12, f13, hz⟩ := ring_at hgr
      clear hgr hgo hbw HI htk htl
      go_wp2_with fail
      generalize wr.alloc (sbox x) = X at *
      refine (withL_c (l.take k) x _ (by rw [HTL.out]; omega) k (by rw [HTL.out])).mono ?_
      rintro e w2 ⟨rfl, hb2⟩
      rw [← HTK.out]
      have gr2 := (hb2.block _ (heap_lt GR.out)).trans GR.out
      have go2 := (hb2.block _ (heap_lt GO.out)).trans GO.out
      have hbl2 := HB.out.trans (hb2.mono HB.out.size)
      clear c0 c1 c2 c3 c4 c5 c6 c7 c8 c9 c10 c11 c12 c13 f0 f1 f2 f3 f4 f5 f6 f7 f8 f9 f10 f11 f12 f13 hz p0 p1
      obtain ⟨c0, c1, c2, c3, c4, c5, c6, c7, c8, c9, c10, c11, c12, c13, f0, f1, f2, f3, f4, f5, f6, f7, f8, f9, f10, f11, f12, f13, hz⟩ := ring_at gr2
      have HN := Lib.hid (And.intro gr2 (And.intro go2 hbl2))
      clear gr2 go2 hbl2 hb2
      go_wp2_with fail
      obtain ⟨n1, n2, n3⟩ := HN.out
      refine ⟨⟨k + 1, by omega, by go_num, ring_set n1, ?_, ?_⟩, by simp [intOf]; omega⟩
      · exact (ring_but w2 (w.heap.size + 1) _ _ _ _ _ _ _ _ _ _ _ _ _ _).heap n2 (by simp)
      · exact n3.trans ((ring_but w2 (w.heap.size + 1) _ _ _ _ _ _ _ _ _ _ _ _ _ _).below n3.size (fun y hy => by simp at hy; omega))
    · obtain rfl : k = l.length := by omega
      rw [List.take_length] at hgr
      obtain ⟨c0, c1, c2, c3, c4, c5, c6, c7, c8, c9, c10, c11, c12, c13, f0, f1, f2, f3, f4, f5, f6, f7, f8, f9, f10, f11, f12, f13, hz⟩ := ring_at hgr
      obtain ⟨d0, d1, d2, d3, d4, d5, d6, d7, d8, d9, d10, d11, d12, d13, e0, e1, e2, e3, e4, e5, e6, e7, e8, e9, e10, e11, e12, e13, hzd⟩ := ring_at hgo
      have HB := Lib.hid hbw
      clear hgr hgo hbw HI
      go_wp2_with fail
      refine bodyPost_ret (v := rgv l 0 l.length) (by simp [results, Try.results78, go_sem, d0, d1, d2, d3, d4, d5, d6, d7, d8, d9, d10, d11, d12, d13]) rfl ⟨rfl, ?_⟩
      exact HB.out.trans ((ring_but wr w.heap.size _ _ _ _ _ _ _ _ _ _ _ _ _ _).below HB.out.size (fun y hy => by simp at hy; omega))
end Go.Proofs.Ytfohlopbfanaeaa