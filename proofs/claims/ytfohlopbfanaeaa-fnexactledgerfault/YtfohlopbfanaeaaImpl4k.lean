/-
  Whether there is a row with a key: the library's slices.IndexFunc and slices.ContainsFunc over rows, walked, and the program's hasKey.
-/
import Derived.Test.YtfohlopbfanaeaaImpl2a
import Derived.Shelf.Abstract
namespace Go.Proofs.Ytfohlopbfanaeaa
open Go.RowKit

/-- The function g, with what it has captured, tells of a row that fits whether p holds, and writes nothing that lay in w. -/
def PredR (g : Nat) (lb : Array Value) (p : R → Bool) (w : World) : Prop :=
  ∀ (W : World) (x : R), Fit x → Below w.heap.size w W → Calls Try.prog g (#[rv x] ++ lb) W fun e w' => e = .returned (.bool (p x)) ∧ Below W.heap.size W w'
/-- The first place where p holds, -1 if there is none. -/
def fidx {α : Type} (p : α → Bool) (l : List α) : Int := match l.findIdx? p with | some i => (i : Int) | none => -1
theorem fidx_found {α : Type} {p : α → Bool} {l : List α} {k : Nat} (hk : k < l.length) (he : p l[k] = true) (hn : ∀ j (h : j < l.length), j < k → p l[j] = false) : fidx p l = (k : Int) := by
  unfold fidx
  have : l.findIdx? p = some k := by
    rw [List.findIdx?_eq_some_iff_getElem]
    exact ⟨hk, he, fun j hj => by simpa using hn j (by omega) hj⟩
  rw [this]
theorem fidx_none {α : Type} {p : α → Bool} {l : List α} (hn : ∀ j (h : j < l.length), j < l.length → p l[j] = false) : fidx p l = -1 := by
  unfold fidx
  have : l.findIdx? p = none := by
    rw [List.findIdx?_eq_none_iff]
    intro x hx
    obtain ⟨j, hj, rfl⟩ := List.getElem_of_mem hx
    exact hn j hj hj
  rw [this]
theorem fidx_any {α : Type} (p : α → Bool) (l : List α) : decide (0 ≤ fidx p l) = l.any p := by
  unfold fidx
  cases h : l.findIdx? p with
  | none =>
    have : l.any p = false := by
      rw [List.findIdx?_eq_none_iff] at h
      rw [List.any_eq_false]; intro x hx; simp [h x hx]
    rw [this]; rfl
  | some i =>
    have : l.any p = true := by
      rw [List.findIdx?_eq_some_iff_getElem] at h
      obtain ⟨hi, h1, _⟩ := h
      rw [List.any_eq_true]; exact ⟨l[i], List.getElem_mem hi, h1⟩
    rw [this]; simp

set_option maxRecDepth 100000 in
set_option maxHeartbeats 2000000 in
theorem indexRow_c (g : Nat) (lb : Array Value) (p : R → Bool) (eg : ∀ args w, (callFunc g args).run Try.prog w = .ok (.enter g args) w) (A : Option Addr) (c : Nat) (rs : List R) (w : World) (fp : List Nat) (hfit : ∀ x ∈ rs, Fit x) (hp : PredR g lb p w) (ha : Rd w 4 (.slice A rs.length c) (rcs rs) fp) :
    Calls Try.prog 115 #[.slice A rs.length c, .func (.func g) #[] lb] w fun e w' => e = .returned (.int .i64 (fidx p rs)) ∧ Below w.heap.size w w' := by
  have hmax := ha.len_le
  have HFT := Lib.hid hfit; clear hfit
  have HP := Lib.hid hp; clear hp
  generalize hR : fidx p rs = V
  have HR := Lib.hid hR; clear hR
  go_enter Try.func115, Try.ntmps115
  go_wp2
  go_loopw [8] (fun i wr => ∃ k : Nat, k ≤ rs.length ∧ i = .int .i64 k ∧ Hid (Below w.heap.size w wr) ∧ Hid (∀ j (h : j < rs.length), j < k → p rs[j] = false)) (fun i _ => rs.length - (intOf i).toNat)
  case atStart => exact ⟨0, Nat.zero_le _, rfl, Below.refl _ _, fun j _ h => by omega⟩
  case round =>
    obtain ⟨k, hk, rfl, HB, HN⟩ := hrel
    by_cases hlt : k < rs.length
    · obtain ⟨b, off, hA, _, _, p0, p1, p2, p3⟩ := (ha.below' HB.out).row_at hlt
      subst hA
      have hfk := HFT.out rs[k] (List.getElem_mem hlt)
      have hcall := HP.out wr rs[k] hfk HB.out
      have hi0 : (0 : Int) ≤ (k : Int) := by omega
      have hi1 : (k : Int) < (rs.length : Int) := by omega
      cases hpk : p rs[k]
      · have hn : ∀ j (h : j < rs.length), j < k + 1 → p rs[j] = false := fun j h hj => by
          by_cases e : j = k
          · subst e; exact hpk
          · exact HN.out j h (by omega)
        have HN2 := Lib.hid hn
        rw [hpk] at hcall
        clear hn hpk hfk HN
        generalize rs[k] = r at *
        go_wp2_with fail
        refine hcall.mono ?_
        rintro e w1 ⟨rfl, hb1⟩
        have HB1 := Lib.hid (HB.out.trans (hb1.mono HB.out.size))
        clear hcall hb1 p0 p1 p2 p3
        go_wp2_with fail
        exact ⟨⟨k + 1, by omega, by go_num, HB1.out, HN2.out⟩, by simp [intOf]; omega⟩
      · have hV : V = (k : Int) := HR.out.symm.trans (fidx_found hlt hpk HN.out)
        have HV := Lib.hid hV
        rw [hpk] at hcall
        clear hV hpk hfk HN
        generalize rs[k] = r at *
        go_wp2_with fail
        refine hcall.mono ?_
        rintro e w1 ⟨rfl, hb1⟩
        have HB1 := Lib.hid (HB.out.trans (hb1.mono HB.out.size))
        clear hcall hb1 p0 p1 p2 p3
        go_wp2_with fail
        go_ret
        exact ⟨congrArg (fun z => Ending.returned (Value.int .i64 z)) HV.out.symm, HB1.out⟩
    · obtain rfl : k = rs.length := by omega
      have hV : V = -1 := HR.out.symm.trans (fidx_none HN.out)
      have HV := Lib.hid hV; clear hV
      go_wp2
      go_ret
      exact ⟨congrArg (fun z => Ending.returned (Value.int .i64 z)) HV.out.symm, HB.out⟩

theorem containsRow_c (g : Nat) (lb : Array Value) (p : R → Bool) (eg : ∀ args w, (callFunc g args).run Try.prog w = .ok (.enter g args) w) (A : Option Addr) (c : Nat) (rs : List R) (w : World) (fp : List Nat) (hfit : ∀ x ∈ rs, Fit x) (hp : PredR g lb p w) (ha : Rd w 4 (.slice A rs.length c) (rcs rs) fp) :
    Calls Try.prog 111 #[.slice A rs.length c, .func (.func g) #[] lb] w fun e w' => e = .returned (.bool (rs.any p)) ∧ Below w.heap.size w w' := by
  have hcall := indexRow_c g lb p eg A c rs w fp hfit hp ha
  have hany := fidx_any p rs
  generalize fidx p rs = V at *
  generalize rs.any p = B at *
  have HA := Lib.hid hany; clear hany eg hfit hp ha
  go_enter Try.func111, Try.ntmps111
  go_wp2_with fail
  refine hcall.mono ?_
  rintro e w1 ⟨rfl, hb1⟩
  have HB := Lib.hid hb1; clear hb1 hcall
  go_wp2
  go_ret
  exact ⟨congrArg (fun z => Ending.returned (Value.bool z)) HA.out, HB.out⟩

set_option maxRecDepth 100000 in
set_option maxHeartbeats 1000000 in
theorem keyPredR (k : Int) (B : Nat) (w : World) (hB : w.heap[B]? = some (.cells #[.int .i64 k] 2 (0, 0))) :
    PredR 112 #[.pointer (some ⟨B, 0, none⟩)] (fun x => keyR x == k) w := by
  intro W x hx hb
  have hgB : W.heap[B]? = some (.cells #[.int .i64 k] 2 (0, 0)) := (hb.block _ (heap_lt hB)).trans hB
  have HX := Lib.hid hx; have GB := Lib.hid hgB
  clear hb hB hx hgB
  show Calls Try.prog 112 #[rv x, .pointer (some ⟨B, 0, none⟩)] W fun e w' => e = .returned (.bool (keyR x == k)) ∧ Below W.heap.size W w'
  go_enter Try.func112, Try.ntmps112
  go_wp2_with fail
  obtain ⟨c0, c1, c2, c3, _, _, _, _, lx⟩ := four_at (heap_new W (rbox x) rfl)
  have hgB0 : (W.alloc (rbox x)).heap[B]? = some (.cells #[.int .i64 k] 2 (0, 0)) := heap_old GB.out
  have d0 : (W.alloc (rbox x)).cell? ⟨B, 0, none⟩ = some (.int .i64 k) := cell_of_heap hgB0
  have lB := heap_lt hgB0
  have HB0 : Hid (Below W.heap.size W (W.alloc (rbox x))) := below_new _
  clear hgB0
  generalize W.alloc (rbox x) = W0 at *
  go_region_held3 (fun w' => w'.cell? ⟨W.heap.size, 0, none⟩ = some (.int .i64 x.1) ∧ w'.cell? ⟨W.heap.size, 1, none⟩ = some (.int .i64 x.2.1) ∧ w'.cell? ⟨W.heap.size, 2, none⟩ = some (.int .i64 x.2.2.1) ∧ w'.cell? ⟨W.heap.size, 3, none⟩ = some (.int .i64 x.2.2.2) ∧ w'.cell? ⟨B, 0, none⟩ = some (.int .i64 k))
    (first
      | go_keep
      | (refine ⟨(Below.cell (w := W0) (p := ⟨W.heap.size, _, none⟩) ?_ lx).trans c0, (Below.cell (w := W0) (p := ⟨W.heap.size, _, none⟩) ?_ lx).trans c1, (Below.cell (w := W0) (p := ⟨W.heap.size, _, none⟩) ?_ lx).trans c2, (Below.cell (w := W0) (p := ⟨W.heap.size, _, none⟩) ?_ lx).trans c3, (Below.cell (w := W0) (p := ⟨B, _, none⟩) ?_ lB).trans d0⟩ <;> with_reducible exact hq1))
    ((go_at_call 95; refine (rowKey_b x _ HX.out).mono ?_; rintro e y1 ⟨rfl, hbq⟩; have hq1 : Below W0.heap.size W0 y1 := (Below.refl _ _).drew.trans hbq; clear hbq))
  have HE := Lib.hid (HB0.out.trans (hq1.mono HB0.out.size))
  clear hq1
  go_wp2_with fail
  go_ret
  exact ⟨rfl, HE.out⟩

set_option maxRecDepth 100000 in
set_option maxHeartbeats 1000000 in
theorem hasKey_c (A : Option Addr) (c : Nat) (rs : List R) (k : Int) (w : World) (fp : List Nat) (hfit : ∀ x ∈ rs, Fit x) (ha : Rd w 4 (.slice A rs.length c) (rcs rs) fp) :
    Calls Try.prog 99 #[.slice A rs.length c, .int .i64 k] w fun e w' => e = .returned (.bool (rs.any fun x => keyR x == k)) ∧ Below w.heap.size w w' := by
  have eg : ∀ args w, (callFunc 112 args).run Try.prog w = .ok (.enter 112 args) w := enters_of Try.func112 (by kernel_rfl) rfl
  have hcall := containsRow_c 112 #[.pointer (some ⟨w.heap.size, 0, none⟩)] (fun x => keyR x == k) eg A c rs (w.alloc (.cells #[.int .i64 k] 2)) fp hfit (keyPredR k w.heap.size _ (heap_new w _ rfl)) (ha.alloc _)
  generalize rs.any (fun x => keyR x == k) = B at *
  clear eg hfit ha
  go_enter Try.func99, Try.ntmps99
  go_wp2_with fail
  refine hcall.mono ?_
  rintro e w1 ⟨rfl, hb1⟩
  have HB := Lib.hid ((below_new _).trans (hb1.mono (by simp))); clear hb1 hcall
  go_wp2
  go_ret
  exact ⟨rfl, HB.out⟩
end Go.Proofs.Ytfohlopbfanaeaa
