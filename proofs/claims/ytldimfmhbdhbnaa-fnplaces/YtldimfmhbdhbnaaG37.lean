/-
  Places compared: the model's function and the program's.
-/
import Derived.Test.YtldimfmhbdhbnaaG40
import Derived.Test.YtldimfmhbdhbnaaImpl6a
import Derived.Test.YtldimfmhbdhbnaaImpl2b
import Derived.Shelf.Abstract
import Derived.Test.YtldimfmhbdhbnaaG11
import Derived.Test.YtldimfmhbdhbnaaArgs4
namespace Go.Proofs.Ytldimfmhbdhbnaa
open Go.RowKit

theorem Pl.eq_iff (p q : Pl) : p = q ↔ p.mark = q.mark ∧ p.fs = q.fs := by
  constructor
  · rintro rfl; exact ⟨rfl, rfl⟩
  · obtain ⟨a, b⟩ := p; obtain ⟨c, d⟩ := q; rintro ⟨h1, h2⟩; simp at h1 h2; simp [h1, h2]
instance : DecidableEq Pl := fun p q => decidable_of_iff _ (Pl.eq_iff p q).symm
/-- The rest of two lists from k on is the same. -/
def sameFrom (a b : List (List R)) (k : Nat) : Bool := decide (a.drop k = b.drop k)
theorem sameFrom_ok {a b : List (List R)} {k : Nat} (h1 : k < a.length) (h2 : k < b.length) (e : decide (a[k] = b[k]) = true) : sameFrom a b k = sameFrom a b (k + 1) := by
  have e := of_decide_eq_true e
  unfold sameFrom; refine decide_eq_decide.2 ?_; rw [List.drop_eq_getElem_cons (l := a) h1, List.drop_eq_getElem_cons (l := b) h2, e, List.cons.injEq]; exact ⟨fun x => x.2, fun x => ⟨rfl, x⟩⟩
theorem sameFrom_bad {a b : List (List R)} {k : Nat} (h1 : k < a.length) (h2 : k < b.length) (e : decide (a[k] = b[k]) = false) : sameFrom a b k = false := by
  have e := of_decide_eq_false e
  unfold sameFrom; simp only [decide_eq_false_iff_not]; rw [List.drop_eq_getElem_cons (l := a) h1, List.drop_eq_getElem_cons (l := b) h2]; intro h; exact e (List.cons.inj h).1
theorem sameFrom_end {a b : List (List R)} (h : a.length = b.length) : sameFrom a b a.length = true := by
  unfold sameFrom; rw [List.drop_length, h, List.drop_length]; simp
theorem same_mark {p q : Pl} (h : p.mark ≠ q.mark) : decide (p = q) = false := by simp only [decide_eq_false_iff_not]; intro e; exact h (by rw [e])
theorem same_len {p q : Pl} (h : p.fs.length ≠ q.fs.length) : decide (p = q) = false := by simp only [decide_eq_false_iff_not]; intro e; exact h (by rw [e])
theorem same_rest {p q : Pl} (h : p.mark = q.mark) : decide (p = q) = sameFrom p.fs q.fs 0 := by
  unfold sameFrom; rw [List.drop_zero, List.drop_zero]; exact decide_eq_decide.2 ((Pl.eq_iff p q).trans ⟨fun x => x.2, fun x => ⟨h, x⟩⟩)

set_option maxRecDepth 100000 in
set_option maxHeartbeats 4000000 in
theorem equalFunc_c (A B : Option Addr) (c d : Nat) (a b : List (List R)) (w : World) (fp fq : List Nat) (hsa : fsz a ≤ 1048576) (hsb : fsz b ≤ 1048576) (hwa : WfF a) (hwb : WfF b)
    (ha : RdF w (.slice A a.length c) a fp) (hb : RdF w (.slice B b.length d) b fq) :
    Calls Try.prog 68 #[.slice A a.length c, .slice B b.length d, .func (.func 17) #[] #[]] w fun e w' => e = .returned (.bool (sameFrom a b 0)) ∧ Below w.heap.size w w' := by
  have eg : ∀ args w, (callFunc 17 args).run Try.prog w = .ok (.enter 17 args) w := enters_of Try.func17 (by kernel_rfl) rfl
  have hm1 := ha.len_le.2
  have hm2 := hb.len_le.2
  have HA := Lib.hid ha; have HB := Lib.hid hb
  have HW := Lib.hid (And.intro hwa hwb)
  have HSZ : Hid ((∀ k (h : k < a.length), a[k].length ≤ 1048576) ∧ ∀ k (h : k < b.length), b[k].length ≤ 1048576) :=
    ⟨fun k h => by have := len_of_tot a k h; unfold fsz at hsa; omega, fun k h => by have := len_of_tot b k h; unfold fsz at hsb; omega⟩
  clear ha hb hwa hwb hsa hsb
  by_cases h2 : a.length = b.length
  case neg =>
    have e : sameFrom a b 0 = false := by
      unfold sameFrom; simp only [List.drop_zero, decide_eq_false_iff_not]; intro e; exact h2 (by rw [e])
    rw [e]; clear e
    have t2 : ((a.length : Int) != (b.length : Int)) = true := by simp; omega
    clear h2 HSZ HW HA HB
    generalize a.length = n1 at *
    generalize b.length = n2 at *
    go_enter Try.func68, Try.ntmps68
    go_wp2
    go_ret
    exact ⟨rfl, Below.refl _ _⟩
  have t2 : ((a.length : Int) != (b.length : Int)) = false := by simp; omega
  have H2 := Lib.hid h2
  generalize hV : sameFrom a b 0 = V
  have HV := Lib.hid hV
  clear h2 hV
  go_enter Try.func68, Try.ntmps68
  go_wp2_with fail
  go_loopw [17] (fun i wr => ∃ k : Nat, k ≤ a.length ∧ i = .int .i64 k ∧ Hid (Below w.heap.size w wr) ∧ Hid (sameFrom a b k = V)) (fun i _ => a.length - (intOf i).toNat)
  case atStart => exact ⟨0, Nat.zero_le _, rfl, Below.refl _ _, HV⟩
  case round =>
    clear HV t2
    obtain ⟨k, hk, rfl, HBW, HRS⟩ := hrel
    by_cases hlt : k < a.length
    · have hlt2 : k < b.length := by have := H2.out; omega
      obtain ⟨b1, o1, B1, d1, f1, rfl, _, hl1, p0, r1, _⟩ := rowsAt (HA.out.below' HBW.out) hlt
      obtain ⟨b2, o2, B2, d2, f2, rfl, _, hl2, q0, r2, _⟩ := rowsAt (HB.out.below' HBW.out) hlt2
      have HR := Lib.hid (And.intro r1 r2); clear r1 r2
      have hok := @sameFrom_ok a b k hlt hlt2
      have hbad := @sameFrom_bad a b k hlt hlt2
      have s1 := HSZ.out.1 k hlt
      have s2 := HSZ.out.2 k hlt2
      have w1 := HW.out.1 a[k] (List.getElem_mem hlt)
      have w2 := HW.out.2 b[k] (List.getElem_mem hlt2)
      generalize a[k] = xs at *
      generalize b[k] = ys at *
      have HOK := Lib.hid hok; have HBAD := Lib.hid hbad
      have HWW := Lib.hid (And.intro w1 w2)
      clear hok hbad w1 w2
      have hi0 : (0 : Int) ≤ (k : Int) := by omega
      have hi1 : (k : Int) < (a.length : Int) := by omega
      have hi2 : (k : Int) < (b.length : Int) := by omega
      generalize hD : decide (xs = ys) = D at *
      have HD := Lib.hid hD; clear hD
      go_wp2_with fail
      refine (implSameRows_a B1 B2 d1 d2 xs ys _ f1 f2 s1 s2 HWW.out.1 HWW.out.2 HR.out.1 HR.out.2).mono ?_
      rw [HD.out]
      rintro e w1 ⟨rfl, hb1⟩
      have HB2 := Lib.hid (HBW.out.trans (hb1.mono HBW.out.size))
      clear hb1
      cases D
      · have hs : V = false := HRS.out.symm.trans (HBAD.out rfl)
        have HS := Lib.hid hs; clear hs
        go_wp2_with fail
        go_ret
        exact ⟨congrArg (fun z => Ending.returned (Value.bool z)) HS.out.symm, HB2.out⟩
      · have hs : sameFrom a b (k + 1) = V := (HOK.out rfl).symm.trans HRS.out
        have HS := Lib.hid hs; clear hs
        go_wp2_with fail
        exact ⟨⟨k + 1, by omega, by go_num, HB2, HS⟩, by simp [intOf]; omega⟩
    · obtain rfl : k = a.length := by omega
      have hs : V = true := HRS.out.symm.trans (sameFrom_end H2.out)
      have HS := Lib.hid hs; clear hs
      go_wp2
      go_ret
      exact ⟨congrArg (fun z => Ending.returned (Value.bool z)) HS.out.symm, HBW.out⟩

set_option maxRecDepth 100000 in
set_option maxHeartbeats 2000000 in
theorem implSamePlaces_c (p q : Pl) (vf vg : Value) (fp fq : List Nat) (w : World) (hsa : plsz p ≤ 1048576) (hsb : plsz q ≤ 1048576) (hwa : WfF p.fs) (hwb : WfF q.fs) (ha : PlAt w p vf fp) (hb : PlAt w q vg fq) :
    Calls Try.prog 20 #[plv p.mark vf, plv q.mark vg] w fun e w' => e = .returned (.bool (decide (p = q))) ∧ Below w.heap.size w w' := by
  obtain ⟨A, c, rfl⟩ := ha.form
  obtain ⟨B, d, rfl⟩ := hb.form
  by_cases h1 : p.mark = q.mark
  case neg =>
    rw [same_mark h1]
    have t1 : (p.mark == q.mark) = false := by simpa using h1
    clear h1 ha hb hwa hwb hsa hsb
    go_enter Try.func20, Try.ntmps20
    go_wp2
    go_ret
    exact ⟨rfl, below_more (below_new _) _⟩
  have t1 : (p.mark == q.mark) = true := by simpa using h1
  have e := same_rest h1
  rw [e]
  have hcall := equalFunc_c A B c d p.fs q.fs ((w.alloc (.cells #[.slice A p.fs.length c, .int .i64 p.mark] 29)).alloc (.cells #[.slice B q.fs.length d, .int .i64 q.mark] 29)) fp fq hsa hsb hwa hwb ((ha.f.alloc _).alloc _) ((hb.f.alloc _).alloc _)
  clear e h1 ha hb hwa hwb hsa hsb
  generalize sameFrom p.fs q.fs 0 = V at *
  cases V
  all_goals
    go_enter Try.func20, Try.ntmps20
    go_wp2_with fail
    refine hcall.mono ?_
    rintro e w1 ⟨rfl, hb1⟩
    have HB := Lib.hid ((below_more (below_new _) _).trans (hb1.mono (by simp; omega))); clear hb1
    go_wp2
    go_ret
    exact ⟨rfl, HB.out⟩
end Go.Proofs.Ytldimfmhbdhbnaa

/- The laws on PlacesFault, SamePlaces answer true: the walks, by a maker (exlaw.py). -/
namespace Go.Proofs.Ytldimfmhbdhbnaa
open Go.RowKit
def AskPlacesFault : Prop := ∀ (p : Pl) (vf : Value) (fp : List Nat) (w : World), plsz p ≤ 1048576 → (Lit.int .i64 p.mark).wf = true → WfF p.fs → PlAt w p vf fp →
  Calls Try.prog 16 #[plv p.mark vf] w fun e w' => e = .returned (.int .i64 (placesF p)) ∧ Below w.heap.size w w'
def AskSamePlaces : Prop := ∀ (p q : Pl) (vf vg : Value) (fp fq : List Nat) (w : World), plsz p ≤ 1048576 → plsz q ≤ 1048576 → WfF p.fs → WfF q.fs → PlAt w p vf fp → PlAt w q vg fq →
  Calls Try.prog 20 #[plv p.mark vf, plv q.mark vg] w fun e w' => e = .returned (.bool (decide (p = q))) ∧ Below w.heap.size w w'
theorem implPlacesFault_a : AskPlacesFault := by
  intro p vf fp w hs _ hw h
  obtain ⟨A, c, rfl⟩ := h.form
  exact implPlacesFault_c p.mark A c p.fs w fp hs hw h.f
theorem implSamePlaces_a : AskSamePlaces := fun p q vf vg fp fq w h1 h2 h3 h4 h5 h6 => implSamePlaces_c p q vf vg fp fq w h1 h2 h3 h4 h5 h6
end Go.Proofs.Ytldimfmhbdhbnaa
