/-
  Parts compared: the model's function and the program's. By a maker (gen7e.py).
-/
import Derived.Test.YtoabohllphoioaaGreatSpec7a
import Derived.Test.YtoabohllphoioaaGreatG13
import Derived.Test.YtoabohllphoioaaGreatImpl2b
import Derived.Test.YtoabohllphoioaaGreatG20
namespace Go.Proofs.YtoabohllphoioaaGreat
open Go.RowKit

/-- The rest of two lists of parts from k on is the same. -/
def sameP (a b : List Pt) (k : Nat) : Bool := decide (a.drop k = b.drop k)
theorem sameP_ok {a b : List Pt} {k : Nat} (h1 : k < a.length) (h2 : k < b.length) (e : decide (a[k] = b[k]) = true) : sameP a b k = sameP a b (k + 1) := by
  have e := of_decide_eq_true e
  unfold sameP; refine decide_eq_decide.2 ?_; rw [List.drop_eq_getElem_cons (l := a) h1, List.drop_eq_getElem_cons (l := b) h2, e, List.cons.injEq]; exact ⟨fun x => x.2, fun x => ⟨rfl, x⟩⟩
theorem sameP_bad {a b : List Pt} {k : Nat} (h1 : k < a.length) (h2 : k < b.length) (e : decide (a[k] = b[k]) = false) : sameP a b k = false := by
  have e := of_decide_eq_false e
  unfold sameP; simp only [decide_eq_false_iff_not]; rw [List.drop_eq_getElem_cons (l := a) h1, List.drop_eq_getElem_cons (l := b) h2]; intro h; exact e (List.cons.inj h).1
theorem sameP_end {a b : List Pt} (h : a.length = b.length) : sameP a b a.length = true := by
  unfold sameP; rw [List.drop_length, h, List.drop_length]; simp
theorem sameP_len {a b : List Pt} (h : a.length ≠ b.length) : decide (a = b) = false := by simp only [decide_eq_false_iff_not]; intro e; exact h (by rw [e])
theorem sameP_zero (a b : List Pt) : decide (a = b) = sameP a b 0 := rfl
theorem pt_mark {p q : Pt} (h : p.mark ≠ q.mark) : decide (p = q) = false := by simp only [decide_eq_false_iff_not]; intro e; exact h (by rw [e])
theorem pt_rows {p q : Pt} (h : p.mark = q.mark) : decide (p = q) = decide (p.rows = q.rows) := decide_eq_decide.2 ((Pt.eq_iff p q).trans ⟨fun x => x.2, fun x => ⟨h, x⟩⟩)
set_option maxRecDepth 100000 in
set_option maxHeartbeats 2000000 in
theorem samePt_c (A B : Option Addr) (c d : Nat) (p q : Pt) (w : World) (fp fq : List Nat) (s1 : p.rows.length ≤ 1048576) (s2 : q.rows.length ≤ 1048576) (w1 : ∀ r ∈ p.rows, WfR r) (w2 : ∀ r ∈ q.rows, WfR r)
    (ha : Rd w 4 (.slice A p.rows.length c) (rcs p.rows) fp) (hb : Rd w 4 (.slice B q.rows.length d) (rcs q.rows) fq) :
    Calls Tryz.prog 56 #[ptv (.slice A p.rows.length c) p.mark, ptv (.slice B q.rows.length d) q.mark] w fun e w' => e = .returned (.bool (decide (p = q))) ∧ Below w.heap.size w w' := by
  by_cases h1 : p.mark = q.mark
  case neg =>
    rw [pt_mark h1]
    have t1 : (p.mark == q.mark) = false := by simpa using h1
    clear h1 ha hb w1 w2 s1 s2
    go_enter Tryz.func56, Tryz.ntmps56
    go_wp2
    go_ret
    exact ⟨rfl, below_more (below_new _) _⟩
  have t1 : (p.mark == q.mark) = true := by simpa using h1
  have e := pt_rows h1
  rw [e]
  have hn : Below w.heap.size w ((w.alloc (.cells #[.slice A p.rows.length c, .int .i64 p.mark] 76)).alloc (.cells #[.slice B q.rows.length d, .int .i64 q.mark] 76)) := below_more (below_new _) _
  have hcall := implSameRows_a A B c d p.rows q.rows _ fp fq s1 s2 w1 w2 (ha.below' hn) (hb.below' hn)
  have HC := Lib.hid hcall; have HN := Lib.hid hn
  clear e h1 ha hb w1 w2 s1 s2 hcall hn
  generalize decide (p.rows = q.rows) = V at *
  cases V
  all_goals
    go_enter Tryz.func56, Tryz.ntmps56
    go_wp2_with fail
    refine HC.out.mono ?_
    rintro e w1 ⟨rfl, hb1⟩
    have HB := Lib.hid (HN.out.trans (hb1.mono HN.out.size)); clear hb1
    go_wp2
    go_ret
    exact ⟨rfl, HB.out⟩

def AskSameParts : Prop := ∀ (A B : Option Addr) (c d : Nat) (a b : List Pt) (w : World) (fp fq : List Nat), psz a ≤ 1048576 → psz b ≤ 1048576 → WfT a → WfT b → RdP w (.slice A a.length c) a fp → RdP w (.slice B b.length d) b fq →
  Calls Tryz.prog 17 #[.slice A a.length c, .slice B b.length d] w fun e w' => e = .returned (.bool (decide (a = b))) ∧ Below w.heap.size w w'

set_option maxRecDepth 100000 in
set_option maxHeartbeats 4000000 in
theorem equalParts_c (A B : Option Addr) (c d : Nat) (a b : List Pt) (w : World) (fp fq : List Nat) (hsa : psz a ≤ 1048576) (hsb : psz b ≤ 1048576) (hwa : WfT a) (hwb : WfT b)
    (ha : RdP w (.slice A a.length c) a fp) (hb : RdP w (.slice B b.length d) b fq) :
    Calls Tryz.prog 55 #[.slice A a.length c, .slice B b.length d, .func (.func 56) #[] #[]] w fun e w' => e = .returned (.bool (decide (a = b))) ∧ Below w.heap.size w w' := by
  have eg : ∀ args w, (callFunc 56 args).run Tryz.prog w = .ok (.enter 56 args) w := enters_of Tryz.func56 (by kernel_rfl) rfl
  have hm1 := ha.len_le.2
  have hm2 := hb.len_le.2
  have HA := Lib.hid ha; have HB := Lib.hid hb
  have HSZ : Hid ((∀ k (h : k < a.length), a[k].rows.length ≤ 1048576 ∧ ∀ r ∈ a[k].rows, WfR r) ∧ ∀ k (h : k < b.length), b[k].rows.length ≤ 1048576 ∧ ∀ r ∈ b[k].rows, WfR r) :=
    ⟨fun k h => ⟨by have := len_of_totP a k h; unfold psz at hsa; omega, (hwa _ (List.getElem_mem h)).2⟩, fun k h => ⟨by have := len_of_totP b k h; unfold psz at hsb; omega, (hwb _ (List.getElem_mem h)).2⟩⟩
  clear ha hb hwa hwb hsa hsb
  by_cases h2 : a.length = b.length
  case neg =>
    rw [sameP_len h2]
    have t2 : ((a.length : Int) != (b.length : Int)) = true := by simp; omega
    clear h2 HSZ HA HB eg
    generalize a.length = n1 at *
    generalize b.length = n2 at *
    go_enter Tryz.func55, Tryz.ntmps55
    go_wp2
    go_ret
    exact ⟨rfl, Below.refl _ _⟩
  rw [sameP_zero]
  have t2 : ((a.length : Int) != (b.length : Int)) = false := by simp; omega
  have H2 := Lib.hid h2
  generalize hV : sameP a b 0 = V
  have HV := Lib.hid hV
  clear h2 hV
  go_enter Tryz.func55, Tryz.ntmps55
  go_wp2_with fail
  go_loopw [17] (fun i wr => ∃ k : Nat, k ≤ a.length ∧ i = .int .i64 k ∧ Hid (Below w.heap.size w wr) ∧ Hid (sameP a b k = V)) (fun i _ => a.length - (intOf i).toNat)
  case atStart => exact ⟨0, Nat.zero_le _, rfl, Below.refl _ _, HV⟩
  case round =>
    clear HV t2
    obtain ⟨k, hk, rfl, HBW, HRS⟩ := hrel
    by_cases hlt : k < a.length
    · have hlt2 : k < b.length := by have := H2.out; omega
      obtain ⟨b1, o1, B1, d1, f1, rfl, _, hl1, p0, p1, r1, _⟩ := partsAt (HA.out.below' HBW.out) hlt
      obtain ⟨b2, o2, B2, d2, f2, rfl, _, hl2, q0, q1, r2, _⟩ := partsAt (HB.out.below' HBW.out) hlt2
      have hok := @sameP_ok a b k hlt hlt2
      have hbad := @sameP_bad a b k hlt hlt2
      obtain ⟨s1, w1⟩ := HSZ.out.1 k hlt
      obtain ⟨s2, w2⟩ := HSZ.out.2 k hlt2
      have hi0 : (0 : Int) ≤ (k : Int) := by omega
      have hi1 : (k : Int) < (a.length : Int) := by omega
      have hi2 : (k : Int) < (b.length : Int) := by omega
      generalize a[k] = p at *
      generalize b[k] = q at *
      have HOK := Lib.hid hok; have HBAD := Lib.hid hbad
      have hn : Below wr.heap.size wr ((wr.alloc (.cells #[.slice B1 p.rows.length d1, .int .i64 p.mark] 76)).alloc (.cells #[.slice B2 q.rows.length d2, .int .i64 q.mark] 76)) := below_more (below_new _) _
      have q0 := ((below_new (w := wr) (.cells #[.slice B1 p.rows.length d1, .int .i64 p.mark] 76)).cell (p := ⟨b2, o2 + k * 2, none⟩) hl2).trans q0
      have q1 := ((below_new (w := wr) (.cells #[.slice B1 p.rows.length d1, .int .i64 p.mark] 76)).cell (p := ⟨b2, o2 + k * 2 + 1, none⟩) hl2).trans q1
      have hl2 : b2 < (wr.alloc (.cells #[.slice B1 p.rows.length d1, .int .i64 p.mark] 76)).heap.size := by simp; omega
      have hcall := samePt_c B1 B2 d1 d2 p q _ f1 f2 s1 s2 w1 w2 (r1.below' hn) (r2.below' hn)
      obtain ⟨D, hD⟩ : ∃ D, D = decide (p = q) := ⟨_, rfl⟩
      rw [← hD] at hcall
      have HC := Lib.hid hcall; have HD := Lib.hid hD.symm; have HN := Lib.hid (HBW.out.trans (hn.mono HBW.out.size))
      clear hok hbad hcall hD hn w1 w2 s1 s2 r1 r2
      go_wp2_with fail
      refine HC.out.mono ?_
      rintro e w3 ⟨rfl, hb3⟩
      have HB3 := Lib.hid (HN.out.trans (hb3.mono HN.out.size))
      clear hb3
      cases D
      · have hs : V = false := HRS.out.symm.trans (HBAD.out HD.out)
        have HS := Lib.hid hs; clear hs
        go_wp2_with fail
        go_ret
        exact ⟨congrArg (fun z => Ending.returned (Value.bool z)) HS.out.symm, HB3.out⟩
      · have hs : sameP a b (k + 1) = V := (HOK.out HD.out).symm.trans HRS.out
        have HS := Lib.hid hs; clear hs
        go_wp2_with fail
        exact ⟨⟨k + 1, by omega, by go_num, HB3, HS⟩, by simp [intOf]; omega⟩
    · obtain rfl : k = a.length := by omega
      have hs : V = true := HRS.out.symm.trans (sameP_end H2.out)
      have HS := Lib.hid hs; clear hs
      go_wp2
      go_ret
      exact ⟨congrArg (fun z => Ending.returned (Value.bool z)) HS.out.symm, HBW.out⟩

theorem implSameParts_a : AskSameParts := by
  intro A B c d a b w fp fq hsa hsb hwa hwb ha hb
  have hcall := equalParts_c A B c d a b w fp fq hsa hsb hwa hwb ha hb
  clear ha hb hwa hwb hsa hsb
  generalize decide (a = b) = V at *
  go_enter Tryz.func17, Tryz.ntmps17
  go_wp2_with fail
  refine hcall.mono ?_
  rintro e w1 ⟨rfl, hb1⟩
  have HB := Lib.hid hb1; clear hb1 hcall
  go_wp2
  go_ret
  exact ⟨rfl, HB.out⟩
end Go.Proofs.YtoabohllphoioaaGreat
