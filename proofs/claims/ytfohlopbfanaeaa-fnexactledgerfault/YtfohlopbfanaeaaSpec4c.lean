/-
  The model's functions of chapter 4, third part: what is free, held, in total.
-/
import Derived.Test.YtfohlopbfanaeaaSpec4b
namespace Go.Proofs.Ytfohlopbfanaeaa
open Go.RowKit

/-- A book as a value. -/
abbrev bv (now : Int) (vr vh : Value) : Value := .agg #[.int .i64 now, vr, vh]
/-- A code and a number as a value. -/
abbrev pv (p : Int × Int) : Value := .agg #[.int .i64 p.1, .int .i64 p.2]
theorem rowsF_rowF {rs : List R} (h : rowsF rs = 0) : ∀ j (hj : j < rs.length), rowF rs[j] = 0 := by
  unfold rowsF at h
  split at h
  · cases h
  · exact scanF_fits none rs h
theorem rowsF_mem {rs : List R} (h : rowsF rs = 0) : ∀ x ∈ rs, rowF x = 0 := by
  intro x hx
  obtain ⟨j, hj, rfl⟩ := List.getElem_of_mem hx
  exact rowsF_rowF h j hj
theorem getV_bd {rs : List R} (h : rowsF rs = 0) (l s : Int) : 0 ≤ (getV rs l s).2.2.1 ∧ (getV rs l s).2.2.1 ≤ 9999 ∧ 0 ≤ (getV rs l s).2.2.2 ∧ (getV rs l s).2.2.2 ≤ 9999 := by
  unfold getV
  cases hg : getR rs l s with
  | none => simp
  | some r =>
    have hm : r ∈ rs := List.mem_of_find?_eq_some hg
    have := rowF_zero (rowsF_mem h r hm)
    simp only [Option.getD_some]
    omega
/-- The code of a question. -/
def askedF (b : Bk) (l s : Int) : Int := if bookF b = 0 then (if isB l s then 0 else 3) else bookF b
def freeP (b : Bk) (l s : Int) : Int × Int := (askedF b l s, if askedF b l s = 0 then (getV b.rs l s).2.2.1 - (getV b.rs l s).2.2.2 else 0)
def heldP (b : Bk) (l s : Int) : Int × Int := (askedF b l s, if askedF b l s = 0 then (getV b.rs l s).2.2.2 else 0)
def sumF (rs : List R) (s : Int) : Int := rs.foldl (fun n r => if r.2.1 = s then n + r.2.2.1 else n) 0
def totalP (b : Bk) (s : Int) : Int × Int := (askedF b 0 s, if askedF b 0 s = 0 then sumF b.rs s else 0)
theorem sumF_succ (rs : List R) (s : Int) (k : Nat) (h : k < rs.length) : sumF (rs.take (k + 1)) s = if rs[k].2.1 = s then sumF (rs.take k) s + rs[k].2.2.1 else sumF (rs.take k) s := by
  unfold sumF
  rw [List.take_succ_eq_append_getElem h, List.foldl_append]
  rfl
theorem sumF_bd (rs : List R) (s : Int) (hf : ∀ x ∈ rs, rowF x = 0) (k : Nat) (hk : k ≤ rs.length) : 0 ≤ sumF (rs.take k) s ∧ sumF (rs.take k) s ≤ 9999 * k := by
  induction k with
  | zero => simp [sumF]
  | succ k ih =>
    have ih := ih (by omega)
    have := rowF_zero (hf rs[k] (List.getElem_mem (by omega)))
    rw [sumF_succ rs s k (by omega)]
    split <;> omega
theorem askedF_zero {b : Bk} {l s : Int} (h : askedF b l s = 0) : bookF b = 0 ∧ isB l s = true := by
  unfold askedF at h
  split at h
  · rename_i h1
    split at h
    · rename_i h2; exact ⟨h1, h2⟩
    · cases h
  · rename_i h1; exact absurd h h1

theorem specBookFault_c (now : Int) (A B : Option Addr) (c d : Nat) (rs : List R) (hs : List Hd) (w : World) (fa fb : List Nat)
    (ha : Rd w 4 (.slice A rs.length c) (rcs rs) fa) (hb : Rd w 5 (.slice B hs.length d) (ecs hc hs) fb) :
    Calls Try.prog 15 #[bv now (.slice A rs.length c) (.slice B hs.length d)] w fun e w' => e = .returned (.int .i64 (bookF ⟨now, rs, hs⟩)) ∧ Below w.heap.size w w' := by
  go_enter Try.func15, Try.ntmps15
  go_wp2_with fail
  refine (l4Fault_c w.heap.size now A B c d rs hs _ fa fb (box_of (heap_new w _ rfl)) (ha.alloc _) (hb.alloc _)).mono ?_
  rintro e w1 ⟨rfl, hb1⟩
  have B1 := Lib.hid ((below_new _).trans (hb1.mono (by simp))); clear hb1
  go_wp2_with fail
  go_ret
  exact ⟨rfl, B1.out⟩

set_option maxRecDepth 100000 in
set_option maxHeartbeats 1000000 in
theorem l4Asked_c (g : Nat) (now : Int) (A B : Option Addr) (c d : Nat) (rs : List R) (hs : List Hd) (l s : Int) (w : World) (fa fb : List Nat)
    (hg : BoxAt w g (.int .i64 now) (.slice A rs.length c) (.slice B hs.length d))
    (ha : Rd w 4 (.slice A rs.length c) (rcs rs) fa) (hb : Rd w 5 (.slice B hs.length d) (ecs hc hs) fb) :
    Calls Try.prog 62 #[.pointer (some ⟨g, 0, none⟩), .int .i64 l, .int .i64 s] w fun e w' => e = .returned (.int .i64 (askedF ⟨now, rs, hs⟩ l s)) ∧ Below w.heap.size w w' := by
  have hc := l4Fault_c g now A B c d rs hs w fa fb hg ha hb
  generalize hb' : (⟨now, rs, hs⟩ : Bk) = b at *
  clear hg ha hb
  by_cases h0 : bookF b = 0
  · rw [h0] at hc
    cases h1 : isB l s
    · have e : askedF b l s = 3 := by simp [askedF, h0, h1]
      rw [e]; clear e
      go_enter Try.func62, Try.ntmps62
      go_wp2_with fail
      refine hc.mono ?_
      rintro e w1 ⟨rfl, hb1⟩
      have B1 := Lib.hid hb1; clear hb1
      go_wp2_with fail
      refine (l2Is_b l s _ h1 _).mono ?_
      rintro e w2 ⟨rfl, rfl⟩
      go_wp2_with fail
      go_ret
      exact ⟨rfl, B1.out⟩
    · have e : askedF b l s = 0 := by simp [askedF, h0, h1]
      rw [e]; clear e
      go_enter Try.func62, Try.ntmps62
      go_wp2_with fail
      refine hc.mono ?_
      rintro e w1 ⟨rfl, hb1⟩
      have B1 := Lib.hid hb1; clear hb1
      go_wp2_with fail
      refine (l2Is_b l s _ h1 _).mono ?_
      rintro e w2 ⟨rfl, rfl⟩
      go_wp2_with fail
      go_ret
      exact ⟨rfl, B1.out⟩
  · have e : askedF b l s = bookF b := by simp [askedF, h0]
    rw [e]; clear e
    generalize bookF b = V at *
    have hne : (V != 0) = true := by simpa using h0
    go_enter Try.func62, Try.ntmps62
    go_wp2_with fail
    refine hc.mono ?_
    rintro e w1 ⟨rfl, hb1⟩
    have B1 := Lib.hid hb1; clear hb1
    go_wp2_with fail
    go_ret
    exact ⟨rfl, B1.out⟩

set_option maxRecDepth 100000 in
set_option maxHeartbeats 1000000 in
theorem l4Free_c (g : Nat) (now : Int) (vh : Value) (A : Option Addr) (c : Nat) (rs : List R) (l s : Int) (w : World) (fa : List Nat) (hf : rowsF rs = 0)
    (hg : BoxAt w g (.int .i64 now) (.slice A rs.length c) vh) (ha : Rd w 4 (.slice A rs.length c) (rcs rs) fa) :
    Calls Try.prog 63 #[.pointer (some ⟨g, 0, none⟩), .int .i64 l, .int .i64 s] w fun e w' => e = .returned (.int .i64 ((getV rs l s).2.2.1 - (getV rs l s).2.2.2)) ∧ Below w.heap.size w w' := by
  obtain ⟨b1, b2, b3, b4⟩ := getV_bd hf l s
  obtain ⟨c0, c1, c2, _, _, _, hz⟩ := box_at hg
  have hc := fun w' h => l2Get_c A c rs l s w' fa (ha.below' (w' := w') h)
  generalize getV rs l s = V at *
  generalize (getR rs l s).isSome = t at hc
  clear hf
  go_enter Try.func63, Try.ntmps63
  go_wp2_with fail
  refine (hc _ (Below.refl _ _)).mono ?_
  rintro e w4 ⟨rfl, hb0⟩
  have hy := heap_new w4 (.cells #[.int .i64 V.1, .int .i64 V.2.1, .int .i64 V.2.2.1, .int .i64 V.2.2.2] 92) rfl
  have HB1 := Lib.hid (below_more hb0 (.cells #[.int .i64 V.1, .int .i64 V.2.1, .int .i64 V.2.2.1, .int .i64 V.2.2.2] 92))
  clear hb0
  go_wp2_with fail
  go_ret
  exact ⟨rfl, HB1.out⟩

/-- A result's block behind the box of a book: what is known of a world behind the first call. -/
theorem pair_at {w : World} {g : Nat} {u v : Value} {t : TypeId} (h : w.heap[g]? = some (.cells #[u, v] t (0, 0))) :
    w.cell? ⟨g, 0, none⟩ = some u ∧ w.cell? ⟨g, 1, none⟩ = some v ∧ w.frozen? ⟨g, 0, none⟩ = false ∧ w.frozen? ⟨g, 1, none⟩ = false ∧ g < w.heap.size :=
  ⟨cell_of_heap h, cell_of_heap h, frozen_of_heap h, frozen_of_heap h, heap_lt h⟩

set_option maxRecDepth 100000 in
set_option maxHeartbeats 1000000 in
theorem specFreeOf_c (now : Int) (A B : Option Addr) (c d : Nat) (rs : List R) (hs : List Hd) (l s : Int) (w : World) (fa fb : List Nat)
    (ha : Rd w 4 (.slice A rs.length c) (rcs rs) fa) (hb : Rd w 5 (.slice B hs.length d) (ecs hc hs) fb) :
    Calls Try.prog 19 #[bv now (.slice A rs.length c) (.slice B hs.length d), .int .i64 l, .int .i64 s] w fun e w' => e = .returned (pv (freeP ⟨now, rs, hs⟩ l s)) ∧ Below w.heap.size w w' := by
  generalize hres : freeP ⟨now, rs, hs⟩ l s = res
  have HRES := Lib.hid hres; clear hres
  have hask := l4Asked_c w.heap.size now A B c d rs hs l s ((w.alloc (bbox now (.slice A rs.length c) (.slice B hs.length d))).alloc (.cells #[.int .i64 0, .int .i64 0] 36)) fa fb (box_of (heap_old (heap_new w _ rfl))) ((ha.alloc _).alloc _) ((hb.alloc _).alloc _)
  have hg0 : ((w.alloc (bbox now (.slice A rs.length c) (.slice B hs.length d))).alloc (.cells #[.int .i64 0, .int .i64 0] 36)).heap[w.heap.size]? = some (bbox now (.slice A rs.length c) (.slice B hs.length d)) := heap_old (heap_new w _ rfl)
  have hr0 : ((w.alloc (bbox now (.slice A rs.length c) (.slice B hs.length d))).alloc (.cells #[.int .i64 0, .int .i64 0] 36)).heap[w.heap.size + 1]? = some (.cells #[.int .i64 0, .int .i64 0] 36 (0, 0)) := heap_new _ _ (by simp)
  have hb0 : Below w.heap.size w ((w.alloc (bbox now (.slice A rs.length c) (.slice B hs.length d))).alloc (.cells #[.int .i64 0, .int .i64 0] 36)) := below_more (below_new _) _
  have ha0 := (ha.alloc (bbox now (.slice A rs.length c) (.slice B hs.length d))).alloc (.cells #[.int .i64 0, .int .i64 0] 36)
  have hs0 : w.heap.size + 2 = ((w.alloc (bbox now (.slice A rs.length c) (.slice B hs.length d))).alloc (.cells #[.int .i64 0, .int .i64 0] 36)).heap.size := by simp
  have HASK := Lib.hid hask; have HG0 := Lib.hid hg0; have HR0 := Lib.hid hr0; have HB0 := Lib.hid hb0; have HA0 := Lib.hid ha0; have HS0 := Lib.hid hs0
  clear hask hg0 hr0 hb0 ha0 hs0 ha hb
  go_enter Try.func19, Try.ntmps19
  go_wp2_with fail
  generalize (w.alloc (bbox now (.slice A rs.length c) (.slice B hs.length d))).alloc (.cells #[.int .i64 0, .int .i64 0] 36) = W at HASK HG0 HR0 HB0 HA0 HS0 ⊢
  refine HASK.out.mono ?_
  rintro e w1 ⟨rfl, hb1⟩
  have hg1 := (hb1.block w.heap.size (by have := HS0.out; omega)).trans HG0.out
  have hr1 := (hb1.block (w.heap.size + 1) (by have := HS0.out; omega)).trans HR0.out
  have ha1 := HA0.out.below' hb1
  have hz1 := HS0.out.symm ▸ hb1.size
  have HB1 := Lib.hid (HB0.out.trans (hb1.mono (by have := HS0.out; omega)))
  have HG1 := Lib.hid hg1; have HR1 := Lib.hid hr1; have HA1 := Lib.hid ha1
  clear hb1 hg1 hr1 ha1 HASK HG0 HR0 HA0 HB0
  obtain ⟨r0, r1, rf0, rf1, rz⟩ := pair_at HR1.out
  obtain ⟨g0, g1, g2, gf0, gf1, gf2, gz⟩ := three_at HG1.out
  by_cases h0 : askedF ⟨now, rs, hs⟩ l s = 0
  case neg =>
    have e : freeP ⟨now, rs, hs⟩ l s = (askedF ⟨now, rs, hs⟩ l s, 0) := by unfold freeP; rw [if_neg h0]
    have hr := e.symm.trans HRES.out
    generalize askedF ⟨now, rs, hs⟩ l s = V at *
    have hne : (V != 0) = true := by simpa using h0
    have HR := Lib.hid hr; clear hr HRES e HG1 HA1
    go_wp2_with fail
    exact bodyPost_ret (v := pv (V, 0)) (by simp [results, Try.results19, go_sem, r0, r1]) rfl ⟨congrArg (fun z => Ending.returned (pv z)) HR.out, by repeat (first | with_reducible exact HB1.out | with_reducible exact HB2.out | with_reducible refine Below.setCell ?_ (by simp) _ | with_reducible refine below_drewN' ?_ _ | with_reducible refine below_more ?_ _)⟩
  obtain ⟨hb0, hi0⟩ := askedF_zero h0
  have hrow := (bookF_zero hb0).2.2.1
  rw [h0]
  have e : freeP ⟨now, rs, hs⟩ l s = (0, (getV rs l s).2.2.1 - (getV rs l s).2.2.2) := by unfold freeP; rw [h0, if_pos rfl]
  have hr := e.symm.trans HRES.out; clear HRES
  have hc := l4Free_c w.heap.size now (.slice B hs.length d) A c rs l s w1 fa hrow (box_of HG1.out) HA1.out
  generalize (getV rs l s).2.2.1 - (getV rs l s).2.2.2 = V at *
  have HR := Lib.hid hr; clear hr e h0 hb0 hi0 hrow HG1 HA1
  go_wp2_with fail
  refine hc.mono ?_
  rintro e w2 ⟨rfl, hb2⟩
  have hr2 := (hb2.block (w.heap.size + 1) (by omega)).trans HR1.out
  have HB2 := Lib.hid (HB1.out.trans (hb2.mono (by omega)))
  clear hc hb2 r0 r1 rf0 rf1 rz g0 g1 g2 gf0 gf1 gf2 gz HR1 HB1
  obtain ⟨r0, r1, rf0, rf1, rz⟩ := pair_at hr2
  go_wp2_with fail
  exact bodyPost_ret (v := pv (0, V)) (by simp [results, Try.results19, go_sem, r0, r1]) rfl ⟨congrArg (fun z => Ending.returned (pv z)) HR.out, by repeat (first | with_reducible exact HB2.out | with_reducible refine Below.setCell ?_ (by simp) _ | with_reducible refine below_drewN' ?_ _ | with_reducible refine below_more ?_ _)⟩

set_option maxRecDepth 100000 in
set_option maxHeartbeats 1000000 in
theorem specHeldOf_c (now : Int) (A B : Option Addr) (c d : Nat) (rs : List R) (hs : List Hd) (l s : Int) (w : World) (fa fb : List Nat)
    (ha : Rd w 4 (.slice A rs.length c) (rcs rs) fa) (hb : Rd w 5 (.slice B hs.length d) (ecs hc hs) fb) :
    Calls Try.prog 22 #[bv now (.slice A rs.length c) (.slice B hs.length d), .int .i64 l, .int .i64 s] w fun e w' => e = .returned (pv (heldP ⟨now, rs, hs⟩ l s)) ∧ Below w.heap.size w w' := by
  generalize hres : heldP ⟨now, rs, hs⟩ l s = res
  have HRES := Lib.hid hres; clear hres
  have hask := l4Asked_c w.heap.size now A B c d rs hs l s ((w.alloc (bbox now (.slice A rs.length c) (.slice B hs.length d))).alloc (.cells #[.int .i64 0, .int .i64 0] 36)) fa fb (box_of (heap_old (heap_new w _ rfl))) ((ha.alloc _).alloc _) ((hb.alloc _).alloc _)
  have hg0 : ((w.alloc (bbox now (.slice A rs.length c) (.slice B hs.length d))).alloc (.cells #[.int .i64 0, .int .i64 0] 36)).heap[w.heap.size]? = some (bbox now (.slice A rs.length c) (.slice B hs.length d)) := heap_old (heap_new w _ rfl)
  have hr0 : ((w.alloc (bbox now (.slice A rs.length c) (.slice B hs.length d))).alloc (.cells #[.int .i64 0, .int .i64 0] 36)).heap[w.heap.size + 1]? = some (.cells #[.int .i64 0, .int .i64 0] 36 (0, 0)) := heap_new _ _ (by simp)
  have hb0 : Below w.heap.size w ((w.alloc (bbox now (.slice A rs.length c) (.slice B hs.length d))).alloc (.cells #[.int .i64 0, .int .i64 0] 36)) := below_more (below_new _) _
  have ha0 := (ha.alloc (bbox now (.slice A rs.length c) (.slice B hs.length d))).alloc (.cells #[.int .i64 0, .int .i64 0] 36)
  have hs0 : w.heap.size + 2 = ((w.alloc (bbox now (.slice A rs.length c) (.slice B hs.length d))).alloc (.cells #[.int .i64 0, .int .i64 0] 36)).heap.size := by simp
  have HASK := Lib.hid hask; have HG0 := Lib.hid hg0; have HR0 := Lib.hid hr0; have HB0 := Lib.hid hb0; have HA0 := Lib.hid ha0; have HS0 := Lib.hid hs0
  clear hask hg0 hr0 hb0 ha0 hs0 ha hb
  go_enter Try.func22, Try.ntmps22
  go_wp2_with fail
  generalize (w.alloc (bbox now (.slice A rs.length c) (.slice B hs.length d))).alloc (.cells #[.int .i64 0, .int .i64 0] 36) = W at HASK HG0 HR0 HB0 HA0 HS0 ⊢
  refine HASK.out.mono ?_
  rintro e w1 ⟨rfl, hb1⟩
  have hg1 := (hb1.block w.heap.size (by have := HS0.out; omega)).trans HG0.out
  have hr1 := (hb1.block (w.heap.size + 1) (by have := HS0.out; omega)).trans HR0.out
  have ha1 := HA0.out.below' hb1
  have hz1 := HS0.out.symm ▸ hb1.size
  have HB1 := Lib.hid (HB0.out.trans (hb1.mono (by have := HS0.out; omega)))
  have HG1 := Lib.hid hg1; have HR1 := Lib.hid hr1; have HA1 := Lib.hid ha1
  clear hb1 hg1 hr1 ha1 HASK HG0 HR0 HA0 HB0
  obtain ⟨r0, r1, rf0, rf1, rz⟩ := pair_at HR1.out
  obtain ⟨g0, g1, g2, gf0, gf1, gf2, gz⟩ := three_at HG1.out
  by_cases h0 : askedF ⟨now, rs, hs⟩ l s = 0
  case neg =>
    have e : heldP ⟨now, rs, hs⟩ l s = (askedF ⟨now, rs, hs⟩ l s, 0) := by unfold heldP; rw [if_neg h0]
    have hr := e.symm.trans HRES.out
    generalize askedF ⟨now, rs, hs⟩ l s = V at *
    have hne : (V != 0) = true := by simpa using h0
    have HR := Lib.hid hr; clear hr HRES e HG1 HA1
    go_wp2_with fail
    exact bodyPost_ret (v := pv (V, 0)) (by simp [results, Try.results22, go_sem, r0, r1]) rfl ⟨congrArg (fun z => Ending.returned (pv z)) HR.out, by repeat (first | with_reducible exact HB1.out | with_reducible exact HB2.out | with_reducible refine Below.setCell ?_ (by simp) _ | with_reducible refine below_drewN' ?_ _ | with_reducible refine below_more ?_ _)⟩
  obtain ⟨hb0, hi0⟩ := askedF_zero h0
  have hrow := (bookF_zero hb0).2.2.1
  rw [h0]
  have e : heldP ⟨now, rs, hs⟩ l s = (0, (getV rs l s).2.2.2) := by unfold heldP; rw [h0, if_pos rfl]
  have hr := e.symm.trans HRES.out; clear HRES
  have hc := l2Get_c A c rs l s w1 fa HA1.out
  generalize getV rs l s = V at *
  generalize (getR rs l s).isSome = t at *
  have HR := Lib.hid hr; clear hr e h0 hb0 hi0 hrow HG1 HA1
  go_wp2_with fail
  refine hc.mono ?_
  rintro e w2 ⟨rfl, hb2⟩
  have hr2 := heap_old (o' := .cells #[.int .i64 V.1, .int .i64 V.2.1, .int .i64 V.2.2.1, .int .i64 V.2.2.2] 92) ((hb2.block (w.heap.size + 1) (by omega)).trans HR1.out)
  have hy := heap_new w2 (.cells #[.int .i64 V.1, .int .i64 V.2.1, .int .i64 V.2.2.1, .int .i64 V.2.2.2] 92) rfl
  have HB2 := Lib.hid (below_more (HB1.out.trans (hb2.mono (by omega))) (.cells #[.int .i64 V.1, .int .i64 V.2.1, .int .i64 V.2.2.1, .int .i64 V.2.2.2] 92))
  clear hc hb2 r0 r1 rf0 rf1 rz g0 g1 g2 gf0 gf1 gf2 gz HR1 HB1
  obtain ⟨r0, r1, rf0, rf1, rz⟩ := pair_at hr2
  go_wp2_with fail
  exact bodyPost_ret (v := pv (0, V.2.2.2)) (by simp [results, Try.results22, go_sem, r0, r1]) rfl ⟨congrArg (fun z => Ending.returned (pv z)) HR.out, by repeat (first | with_reducible exact HB2.out | with_reducible refine Below.setCell ?_ (by simp) _ | with_reducible refine below_drewN' ?_ _ | with_reducible refine below_more ?_ _)⟩

set_option maxRecDepth 100000 in
set_option maxHeartbeats 1000000 in
theorem specTotalOf_c (now : Int) (A B : Option Addr) (c d : Nat) (rs : List R) (hs : List Hd) (s : Int) (w : World) (fa fb : List Nat)
    (ha : Rd w 4 (.slice A rs.length c) (rcs rs) fa) (hb : Rd w 5 (.slice B hs.length d) (ecs hc hs) fb) :
    Calls Try.prog 26 #[bv now (.slice A rs.length c) (.slice B hs.length d), .int .i64 s] w fun e w' => e = .returned (pv (totalP ⟨now, rs, hs⟩ s)) ∧ Below w.heap.size w w' := by
  generalize hres : totalP ⟨now, rs, hs⟩ s = res
  have HRES := Lib.hid hres; clear hres
  have hask := l4Asked_c w.heap.size now A B c d rs hs 0 s ((w.alloc (bbox now (.slice A rs.length c) (.slice B hs.length d))).alloc (.cells #[.int .i64 0, .int .i64 0] 36)) fa fb (box_of (heap_old (heap_new w _ rfl))) ((ha.alloc _).alloc _) ((hb.alloc _).alloc _)
  have hg0 : ((w.alloc (bbox now (.slice A rs.length c) (.slice B hs.length d))).alloc (.cells #[.int .i64 0, .int .i64 0] 36)).heap[w.heap.size]? = some (bbox now (.slice A rs.length c) (.slice B hs.length d)) := heap_old (heap_new w _ rfl)
  have hr0 : ((w.alloc (bbox now (.slice A rs.length c) (.slice B hs.length d))).alloc (.cells #[.int .i64 0, .int .i64 0] 36)).heap[w.heap.size + 1]? = some (.cells #[.int .i64 0, .int .i64 0] 36 (0, 0)) := heap_new _ _ (by simp)
  have hb0 : Below w.heap.size w ((w.alloc (bbox now (.slice A rs.length c) (.slice B hs.length d))).alloc (.cells #[.int .i64 0, .int .i64 0] 36)) := below_more (below_new _) _
  have ha0 := (ha.alloc (bbox now (.slice A rs.length c) (.slice B hs.length d))).alloc (.cells #[.int .i64 0, .int .i64 0] 36)
  have hs0 : w.heap.size + 2 = ((w.alloc (bbox now (.slice A rs.length c) (.slice B hs.length d))).alloc (.cells #[.int .i64 0, .int .i64 0] 36)).heap.size := by simp
  have HASK := Lib.hid hask; have HG0 := Lib.hid hg0; have HR0 := Lib.hid hr0; have HB0 := Lib.hid hb0; have HA0 := Lib.hid ha0; have HS0 := Lib.hid hs0
  clear hask hg0 hr0 hb0 ha0 hs0 ha hb
  go_enter Try.func26, Try.ntmps26
  go_wp2_with fail
  generalize (w.alloc (bbox now (.slice A rs.length c) (.slice B hs.length d))).alloc (.cells #[.int .i64 0, .int .i64 0] 36) = W at HASK HG0 HR0 HB0 HA0 HS0 ⊢
  refine HASK.out.mono ?_
  rintro e w1 ⟨rfl, hb1⟩
  have hg1 := (hb1.block w.heap.size (by have := HS0.out; omega)).trans HG0.out
  have hr1 := (hb1.block (w.heap.size + 1) (by have := HS0.out; omega)).trans HR0.out
  have ha1 := HA0.out.below' hb1
  have hz1 := HS0.out.symm ▸ hb1.size
  have HB1 := Lib.hid (HB0.out.trans (hb1.mono (by have := HS0.out; omega)))
  have HG1 := Lib.hid hg1; have HR1 := Lib.hid hr1; have HA1 := Lib.hid ha1
  clear hb1 hg1 hr1 ha1 HASK HG0 HR0 HA0 HB0
  obtain ⟨r0, r1, rf0, rf1, rz⟩ := pair_at HR1.out
  obtain ⟨g0, g1, g2, gf0, gf1, gf2, gz⟩ := three_at HG1.out
  by_cases h0 : askedF ⟨now, rs, hs⟩ 0 s = 0
  case neg =>
    have e : totalP ⟨now, rs, hs⟩ s = (askedF ⟨now, rs, hs⟩ 0 s, 0) := by unfold totalP; rw [if_neg h0]
    have hr := e.symm.trans HRES.out
    generalize askedF ⟨now, rs, hs⟩ 0 s = V at *
    have hne : (V != 0) = true := by simpa using h0
    have HR := Lib.hid hr; clear hr HRES e HG1 HA1
    go_wp2_with fail
    exact bodyPost_ret (v := pv (V, 0)) (by simp [results, Try.results26, go_sem, r0, r1]) rfl ⟨congrArg (fun z => Ending.returned (pv z)) HR.out, by repeat (first | with_reducible exact HB1.out | with_reducible exact HB2.out | with_reducible refine Below.setCell ?_ (by simp) _ | with_reducible refine below_drewN' ?_ _ | with_reducible refine below_more ?_ _)⟩
  obtain ⟨hb0, hi0⟩ := askedF_zero h0
  have hrow := (bookF_zero hb0).2.2.1
  rw [h0]
  have e : totalP ⟨now, rs, hs⟩ s = (0, sumF rs s) := by unfold totalP; rw [h0, if_pos rfl]
  have hr := e.symm.trans HRES.out; clear HRES
  have hlen := (rowsF_fits hrow).2
  have hall := rowsF_mem hrow
  have HALL := Lib.hid hall
  generalize hT : sumF rs s = T at *
  have HT := Lib.hid hT
  have HR := Lib.hid hr; clear hr e h0 hb0 hi0 hrow hall hT
  go_wp2_with fail
  go_loop [6, 7] (fun n i => ∃ k : Nat, k ≤ rs.length ∧ i = .int .i64 k ∧ n = .int .i64 (sumF (rs.take k) s)) (fun _ i => rs.length - (intOf i).toNat)
  case atStart => exact ⟨0, Nat.zero_le _, rfl, rfl⟩
  case round =>
    obtain ⟨k, hk, rfl, rfl⟩ := hrel
    by_cases hlt : k < rs.length
    · obtain ⟨b1, o1, hA, _, hl1, p0, p1, p2, p3⟩ := HA1.out.row_at hlt
      subst hA
      have hstep := sumF_succ rs s k hlt
      have hbd := sumF_bd rs s HALL.out k (by omega)
      have hft := rowF_zero (HALL.out rs[k] (List.getElem_mem hlt))
      generalize sumF (rs.take k) s = n at *
      generalize rs[k] = x at *
      have q1 : 0 ≤ x.2.2.1 := by omega
      have q2 : x.2.2.1 ≤ 9999 := by omega
      have q3 := hbd.1; have q4 := hbd.2
      have HST := Lib.hid hstep
      clear hft hbd hstep
      by_cases e1 : x.2.1 = s
      · have hst := HST.out
        rw [if_pos e1] at hst
        have H := Lib.hid hst
        have t1 : (x.2.1 == s) = true := by simp [e1]
        clear hst HST e1
        go_wp2_with fail
        exact ⟨⟨k + 1, by omega, by go_num, by rw [H.out]⟩, by simp [intOf]; omega⟩
      · have hst := HST.out
        rw [if_neg e1] at hst
        have H := Lib.hid hst
        have t1 : (x.2.1 == s) = false := by simp [e1]
        clear hst HST e1
        go_wp2_with fail
        exact ⟨⟨k + 1, by omega, by go_num, by rw [H.out]⟩, by simp [intOf]; omega⟩
    · obtain rfl : k = rs.length := by omega
      rw [List.take_length, HT.out]
      clear HG1 HA1
      go_wp2_with fail
      exact bodyPost_ret (v := pv (0, T)) (by simp [results, Try.results26, go_sem, r0, r1]) rfl ⟨congrArg (fun z => Ending.returned (pv z)) HR.out, by repeat (first | with_reducible exact HB1.out | with_reducible refine Below.setCell ?_ (by simp) _ | with_reducible refine below_drewN' ?_ _ | with_reducible refine below_more ?_ _)⟩
end Go.Proofs.Ytfohlopbfanaeaa
