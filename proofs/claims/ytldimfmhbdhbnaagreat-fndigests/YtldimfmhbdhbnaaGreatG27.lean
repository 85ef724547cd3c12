/-
  What is asked of the program's functions of chapter 2 (to be shown of what landed), so that the laws answer true: faults, keys, finding, comparing.
-/
import Derived.Test.YtldimfmhbdhbnaaGreatG20
import Derived.Test.YtldimfmhbdhbnaaGreatG48
import Derived.Test.YtldimfmhbdhbnaaGreatG1
import Derived.Test.YtldimfmhbdhbnaaGreatG15
import Derived.Test.YtldimfmhbdhbnaaGreatG23
import Derived.Shelf.Abstract
namespace Go.Proofs.YtldimfmhbdhbnaaGreat
open Go.RowKit

def AskRowFault : Prop := ∀ (r : R) (w : World), WfR r → Calls Tryz.prog 47 #[rv r] w fun e w' => e = .returned (.int .i64 (rowF r)) ∧ Below w.heap.size w w'
def AskRowsFault : Prop := ∀ (A : Option Addr) (c : Nat) (rs : List R) (w : World) (fp : List Nat), rs.length ≤ 1048576 → (∀ r ∈ rs, WfR r) → Rd w 4 (.slice A rs.length c) (rcs rs) fp →
  Calls Tryz.prog 15 #[.slice A rs.length c] w fun e w' => e = .returned (.int .i64 (rowsF rs)) ∧ Below w.heap.size w w'
end Go.Proofs.YtldimfmhbdhbnaaGreat

/-
  Contracts of the program's functions of chapter 2, first part: single rows, faults, keys.
-/
namespace Go.Proofs.YtldimfmhbdhbnaaGreat
open Go.RowKit

theorem isLoc_b (v : Int) (b : Bool) (hb : inB v 0 3 = b) (w : World) : Calls Tryz.prog 85 #[.int .i64 v] w fun e w' => e = .returned (.bool b) ∧ w = w' := by
  subst hb
  by_cases h1 : (0 : Int) ≤ v <;> by_cases h2 : v ≤ 3
  all_goals
    go_enter Tryz.func85, Tryz.ntmps85
    go_wp2
    go_ret
    refine ⟨?_, rfl⟩
    simp [inB, *]
theorem isSku_b (v : Int) (b : Bool) (hb : inB v 1 20 = b) (w : World) : Calls Tryz.prog 86 #[.int .i64 v] w fun e w' => e = .returned (.bool b) ∧ w = w' := by
  subst hb
  by_cases h1 : (1 : Int) ≤ v <;> by_cases h2 : v ≤ 20
  all_goals
    go_enter Tryz.func86, Tryz.ntmps86
    go_wp2
    go_ret
    refine ⟨?_, rfl⟩
    simp [inB, *]
theorem isQty_b (v : Int) (b : Bool) (hb : inB v 0 9999 = b) (w : World) : Calls Tryz.prog 87 #[.int .i64 v] w fun e w' => e = .returned (.bool b) ∧ w = w' := by
  subst hb
  by_cases h1 : (0 : Int) ≤ v <;> by_cases h2 : v ≤ 9999
  all_goals
    go_enter Tryz.func87, Tryz.ntmps87
    go_wp2
    go_ret
    refine ⟨?_, rfl⟩
    simp [inB, *]

/-- The box of a row. -/
abbrev rbox (r : R) : Obj := .cells #[.int .i64 r.1, .int .i64 r.2.1, .int .i64 r.2.2.1, .int .i64 r.2.2.2] 40

theorem rowKey_c (r : R) (w : World) (hf : Fit r) :
    Calls Tryz.prog 48 #[rv r] w fun e w' => e = .returned (.int .i64 (keyR r)) ∧ w' = w.alloc (rbox r) := by
  obtain ⟨l, s, h, d⟩ := r
  obtain ⟨f0, f1, f2, f3⟩ := hf
  simp only at f0 f1 f2 f3
  go_enter Tryz.func48, Tryz.ntmps48
  go_wp2
  go_ret
  exact ⟨rfl, rfl⟩
theorem rowKey_b (r : R) (w : World) (hf : Fit r) :
    Calls Tryz.prog 48 #[rv r] w fun e w' => e = .returned (.int .i64 (keyR r)) ∧ Below w.heap.size w w' :=
  (rowKey_c r w hf).mono fun _ _ ⟨he, hw⟩ => ⟨he, hw ▸ below_new _⟩

theorem isEmptyRow_b (r : R) (b : Bool) (hb : emptyB r = b) (w : World) :
    Calls Tryz.prog 50 #[rv r] w fun e w' => e = .returned (.bool b) ∧ w' = w.alloc (rbox r) := by
  have he : decide (r = (r.1, r.2.1, 0, 0)) = b := by
    rw [← hb]
    obtain ⟨l, s, h, d⟩ := r
    by_cases h1 : h = 0 <;> by_cases h2 : d = 0 <;> simp [emptyB, h1, h2]
  have q1 : ∀ w, (binOp .eql 40 (rv r) (.agg #[.int .i64 r.1, .int .i64 r.2.1, .int .i64 0, .int .i64 0])).run Tryz.prog w = .ok (.bool b) w := fun w => by
    have := rowEql r (r.1, r.2.1, 0, 0) w
    rw [he] at this; exact this
  have q2 : ∀ p q w, (eqGuard .eql 40 p q (rv r) (.agg #[.int .i64 r.1, .int .i64 r.2.1, .int .i64 0, .int .i64 0])).run Tryz.prog w = .ok () w := fun p q w => rowGuard .eql p q r (r.1, r.2.1, 0, 0) w
  clear he hb
  go_enter Tryz.func50, Tryz.ntmps50
  go_wp2
  go_ret
  exact ⟨rfl, rfl⟩

set_option maxRecDepth 100000 in
set_option maxHeartbeats 2000000 in
theorem implRowFault_a : AskRowFault := by
  intro r w _
  obtain ⟨l, s, h, d⟩ := r
  generalize hC : rowF (l, s, h, d) = C
  have HC := Lib.hid hC; clear hC
  cases h1 : inB l 0 3 <;> cases h2 : inB s 1 20 <;> cases h3 : inB h 0 9999 <;> cases h4 : inB d 0 9999
  all_goals
    have H1 := Lib.hid h1; have H2 := Lib.hid h2; have H3 := Lib.hid h3; have H4 := Lib.hid h4
    clear h1 h2 h3 h4
    go_enter Tryz.func47, Tryz.ntmps47
    go_wp2_with (first
      | (go_at_call 85; refine (isLoc_b _ _ H1.out _).mono ?_; rintro e w' ⟨rfl, rfl⟩)
      | (go_at_call 86; refine (isSku_b _ _ H2.out _).mono ?_; rintro e w' ⟨rfl, rfl⟩)
      | (go_at_call 87; ((first | (with_reducible refine (isQty_b h _ H3.out _).mono ?_) | (with_reducible refine (isQty_b d _ H4.out _).mono ?_)); rintro e w' ⟨rfl, rfl⟩)))
    all_goals
      go_ret
      exact ⟨by rw [← HC.out]; simp [rowF, isB, H1.out, H2.out, H3.out, H4.out, *], below_new _⟩

/-- The key ahead of the k-th row, 0 at the beginning. -/
def prevN (rs : List R) (k : Nat) : Int := (prevK rs k).getD 0
theorem prevN_succ (rs : List R) (k : Nat) (h : k < rs.length) : prevN rs (k + 1) = keyR rs[k] := by simp [prevN, prevK_succ rs k h]
theorem prevN_test (rs : List R) (k : Nat) (x : R) (hx : rowF x = 0) : (((prevK rs k).map fun q => decide (keyR x ≤ q)) = some true) ↔ keyR x ≤ prevN rs k := by
  have := rowF_zero hx
  unfold prevN
  cases prevK rs k with
  | none => simp [keyR]; omega
  | some q => simp

set_option maxRecDepth 100000 in
set_option maxHeartbeats 2000000 in
theorem implRowsFault_a : AskRowsFault := by
  intro A c rs w fp hs hwf ha
  have hmax := ha.len_le
  have HWF := Lib.hid hwf; clear hwf
  by_cases hbig : 12 < rs.length
  · have e : rowsF rs = 2 := by simp [rowsF, hbig]
    rw [e]
    clear e
    go_enter Tryz.func15, Tryz.ntmps15
    go_wp2
    go_ret
    exact ⟨rfl, Below.refl _ _⟩
  · have e : rowsF rs = scanF (prevK rs 0) (rs.drop 0) := by simp [rowsF, hbig, prevK]
    rw [e]
    clear e
    generalize hS : scanF (prevK rs 0) (rs.drop 0) = S
    have HS := Lib.hid hS; clear hS
    go_enter Tryz.func15, Tryz.ntmps15
    go_wp2
    go_loopw [3, 12] (fun p i wr => ∃ k : Nat, k ≤ rs.length ∧ i = .int .i64 k ∧ p = .int .i64 (prevN rs k) ∧ Below w.heap.size w wr ∧ Hid (scanF (prevK rs k) (rs.drop k) = S)) (fun _ i _ => rs.length - (intOf i).toNat)
    case atStart => exact ⟨0, Nat.zero_le _, rfl, rfl, Below.refl _ _, HS.out⟩
    case round =>
      obtain ⟨k, hk, rfl, rfl, hbel, hsc⟩ := hrel
      by_cases hlt : k < rs.length
      · obtain ⟨b, off, hA, _, _, p0, p1, p2, p3⟩ := (ha.below' hbel).row_at hlt
        subst hA
        have hst := hsc.out
        rw [scanF_at rs k hlt] at hst
        have hwk := HWF.out rs[k] (List.getElem_mem hlt)
        have hpn := prevN_succ rs k hlt
        have hpt := prevN_test rs k rs[k]
        generalize prevN rs k = pn at *
        generalize rs[k] = r at *
        have HPN := Lib.hid hpn; clear hpn
        have HST := Lib.hid hst; clear hst
        have HPT := Lib.hid hpt; clear hpt
        have HB := Lib.hid hbel; clear hbel
        have HW := Lib.hid hwk; clear hwk
        go_wp2_with fail
        refine (implRowFault_a r _ HW.out).mono ?_
        rintro e w1 ⟨rfl, hb1⟩
        have hg1 : w1.heap[wr.heap.size]? = some (rbox r) := (hb1.block _ (by simp)).trans (heap_new wr _ rfl)
        obtain ⟨c0, c1, c2, c3, _, _, _, _, hz⟩ := four_at hg1
        have hb2 : Below w.heap.size w w1 := (HB.out.alloc HB.out.size _).trans (hb1.mono (by have := HB.out.size; simp; omega))
        have HB2 := Lib.hid hb2
        clear hg1 hb1 hb2 p0 p1 p2 p3
        by_cases hr0 : rowF r = 0
        · have hst := HST.out
          rw [if_neg (by simpa using hr0)] at hst
          have hf := fit_of_rowF hr0
          have htest := HPT.out hr0
          rw [hr0]
          have HF := Lib.hid hf; clear hf hr0
          go_wp2_with fail
          refine (rowKey_c r _ HF.out).mono ?_
          rintro e w2 ⟨rfl, rfl⟩
          by_cases hle : keyR r ≤ pn
          · rw [if_pos (htest.2 hle)] at hst
            have HFI := Lib.hid hst; clear hst htest
            go_wp2_with fail
            go_ret
            exact ⟨congrArg (fun z => Ending.returned (Value.int .i64 z)) HFI.out, HB2.out.alloc HB2.out.size _⟩
          · rw [if_neg (fun h => hle (htest.1 h))] at hst
            have HFI := Lib.hid hst; clear hst htest
            go_wp2_with fail
            refine (rowKey_c r _ HF.out).mono ?_
            rintro e w2 ⟨rfl, rfl⟩
            go_wp2_with fail
            exact ⟨⟨k + 1, by omega, by go_num, by rw [HPN.out], (HB2.out.alloc HB2.out.size _).alloc (by have := HB2.out.size; simp; omega) _, HFI.out⟩, by simp [intOf]; omega⟩
        · have hne : (rowF r != 0) = true := by simpa using hr0
          have hfin := HST.out
          rw [if_pos hr0] at hfin
          have HF := Lib.hid hfin; clear hfin hr0
          go_wp2
          go_ret
          exact ⟨congrArg (fun z => Ending.returned (Value.int .i64 z)) HF.out, HB2.out⟩
      · obtain rfl : k = rs.length := by omega
        have hfin := hsc.out
        rw [List.drop_length] at hfin
        have e0 : S = 0 := by rw [← hfin]; cases prevK rs rs.length <;> rfl
        have HF := Lib.hid e0; clear hfin e0
        have HB := Lib.hid hbel; clear hbel
        go_wp2
        go_ret
        exact ⟨congrArg (fun z => Ending.returned (Value.int .i64 z)) HF.out.symm, HB.out⟩

end Go.Proofs.YtldimfmhbdhbnaaGreat

/-
  What is asked of the program's functions of chapter 2 (to be shown of what landed), so that the laws answer true: putting, joining, cutting.
-/
namespace Go.Proofs.YtldimfmhbdhbnaaGreat
open Go.RowKit

def AskCutRows : Prop := ∀ (A : Option Addr) (c : Nat) (rs : List R) (f t : Int) (w : World) (fp : List Nat), rs.length ≤ 1048576 → (∀ r ∈ rs, WfR r) → (Lit.int .i64 f).wf = true → (Lit.int .i64 t).wf = true → Rd w 4 (.slice A rs.length c) (rcs rs) fp →
  Calls Tryz.prog 25 #[.slice A rs.length c, .int .i64 f, .int .i64 t] w (RResPost w (crC rs f t) (crL rs f t))

end Go.Proofs.YtldimfmhbdhbnaaGreat

/-
  Contracts of the program's functions of chapter 2, third part: the rows that are kept; cutting.
-/
namespace Go.Proofs.YtldimfmhbdhbnaaGreat
open Go.RowKit

theorem own_below {w w' : World} {base : Nat} {e : TypeId} {size n : Nat} {v : Value} {xs : List Value} (h : w.ownsRow base e size v n xs) (hb : Below w.heap.size w w') : w'.ownsRow base e size v n xs :=
  h.kept (row := none) ⟨hb.os, hb.tape, hb.output, hb.size, fun k hk _ => hb.block k hk⟩ (by cases hv : v.ownBlock <;> simp)

/-- The function g, with what it has captured, tells of a row that fits whether p holds, and writes nothing that lay in w. -/
def PredRow (g : Nat) (lb : Array Value) (p : R → Bool) (w : World) : Prop :=
  ∀ (W : World) (x : R), Fit x → Below w.heap.size w W → Calls Tryz.prog g (#[rv x] ++ lb) W fun e w' => e = .returned (.bool (p x)) ∧ Below W.heap.size W w'

theorem filter_succ (p : R → Bool) (rs : List R) (k : Nat) (h : k < rs.length) : (rs.take (k + 1)).filter p = (rs.take k).filter p ++ (if p rs[k] then [rs[k]] else []) := by
  rw [List.take_succ_eq_append_getElem h, List.filter_append]
  cases hp : p rs[k] <;> simp [hp]
theorem filter_len (p : R → Bool) (rs : List R) (k : Nat) : ((rs.take k).filter p).length ≤ rs.length :=
  Nat.le_trans (List.length_filter_le _ _) (by rw [List.length_take]; omega)

set_option maxRecDepth 100000 in
set_option maxHeartbeats 2000000 in
theorem keep_c (g : Nat) (lb : Array Value) (p : R → Bool) (eg : ∀ args w, (callFunc g args).run Tryz.prog w = .ok (.enter g args) w) (A : Option Addr) (c : Nat) (rs : List R) (w : World) (fp : List Nat) (hs : rs.length ≤ 1000000) (hfit : Fits rs) (hp : PredRow g lb p w) (ha : Rd w 4 (.slice A rs.length c) (rcs rs) fp) :
    Calls Tryz.prog 59 #[.slice A rs.length c, .func (.func g) #[] lb] w (RowsPost w (rs.filter p)) := by
  have hlt0 := ha.lt
  have HL := Lib.hid hlt0; clear hlt0
  have HFT := Lib.hid hfit; clear hfit
  have HP := Lib.hid hp; clear hp
  obtain ⟨i0, hi, hz, hsz, hby⟩ := infoRow
  go_enter Tryz.func59, Tryz.ntmps59
  go_wp2
  go_loopw [5, 10] (fun v i wr => ∃ k n : Nat, k ≤ rs.length ∧ n ≤ 1000000 ∧ i = .int .i64 k ∧ wr.ownsRow w.heap.size 40 4 v n (rcs ((rs.take k).filter p)) ∧ Below w.heap.size w wr) (fun _ i _ => rs.length - (intOf i).toNat)
  case atStart => exact ⟨0, 0, Nat.zero_le _, by omega, rfl, World.ownsRow_nil _ _ _ _, Below.refl _ _⟩
  case round =>
    obtain ⟨k, n, hk, hn, rfl, hown, hbel⟩ := hrel
    have hsize := hbel.size
    by_cases hlt : k < rs.length
    · obtain ⟨b, off, hA, _, _, p0, p1, p2, p3⟩ := (ha.below hbel HL.out).row_at hlt
      subst hA
      have hfk := HFT.out k hlt
      have hcs := filter_succ p rs k hlt
      have hrow : ∀ g, u5.ownBlock = some g → w.heap.size ≤ g := fun g hg => own_base' hown hg
      have HR := Lib.hid hrow; clear hrow
      generalize rs[k] = r at *
      have HCS := Lib.hid hcs; clear hcs
      have hown0 := hown.alloc (rbox r)
      have hbel0 := below_more hbel (rbox r)
      have hcall := HP.out (wr.alloc (rbox r)) r hfk hbel0
      have HO0 := Lib.hid hown0; have HB0 := Lib.hid hbel0
      clear hown hbel hown0 hbel0 hfk
      cases hpr : p r
      · rw [hpr] at hcall
        have hcs := HCS.out
        rw [hpr] at hcs
        simp only [Bool.false_eq_true, if_false, List.append_nil] at hcs
        have HC2 := Lib.hid hcs; clear hcs HCS hpr
        go_wp2_with fail
        refine hcall.mono ?_
        rintro e w1 ⟨rfl, hb1⟩
        clear hcall
        have hown3 : w1.ownsRow w.heap.size 40 4 u5 n (rcs ((rs.take (k + 1)).filter p)) := by rw [HC2.out]; exact own_below HO0.out hb1
        have hbel3 : Below w.heap.size w w1 := HB0.out.trans (hb1.mono HB0.out.size)
        have HO := Lib.hid hown3; have HBL := Lib.hid hbel3
        clear hown3 hbel3 hb1 p0 p1 p2 p3
        go_wp2_with fail
        exact ⟨⟨k + 1, n, by omega, hn, by go_num, HO.out, HBL.out⟩, by simp [intOf]; omega⟩
      · rw [hpr] at hcall
        have hcs := HCS.out
        rw [hpr] at hcs
        simp only [if_true] at hcs
        have HC2 := Lib.hid hcs; clear hcs HCS hpr
        go_wp2_with fail
        refine hcall.mono ?_
        rintro e w1 ⟨rfl, hb1⟩
        clear hcall
        have hg1 : w1.heap[wr.heap.size]? = some (rbox r) := (hb1.block _ (by simp)).trans (heap_new wr _ rfl)
        obtain ⟨c0, c1, c2, c3, _, _, _, _, hz1⟩ := four_at hg1
        have hown1 : (w1.alloc (rbox r)).ownsRow w.heap.size 40 4 u5 n (rcs ((rs.take k).filter p)) := (own_below HO0.out hb1).alloc _
        have hbel1 := below_more (HB0.out.trans (hb1.mono HB0.out.size)) (rbox r)
        have HO1 := Lib.hid hown1; have HB1 := Lib.hid hbel1
        clear hown1 hbel1 hg1 hb1 p0 p1 p2 p3
        go_wp2_with (at_builtin; refine wpList_append_own _ rfl _ _ 24 rfl w.heap.size 40 i0 (rv (0, 0, 0, 0)) 4 32 Tryz.underlying24 hi hz hsz hby rfl (by decide) _ _ _ rfl HO1.out ⟨w1.heap.size, 0, none⟩ 1 1 (rc r) rfl rfl ?c1 ?c2 ?c3 ?c4 ?c5 ?_)
        case c1 => exact rc_new (w := w1) r
        case c2 => exact rc_one r
        case c3 => unfold maxLen; omega
        case c4 => omega
        case c5 => have := HB1.out.size; exact this
        intro v' w2 hown2 hgrow _
        have hbel2 := HB1.out.grown hgrow HB1.out.size HR.out
        have hown3 : w2.ownsRow w.heap.size 40 4 v' (n + 1) (rcs ((rs.take (k + 1)).filter p)) := by rw [HC2.out, rcs_append]; exact hown2
        have hln := hown3.1
        rw [rcs_length] at hln
        have hl2 := filter_len p rs (k + 1)
        have hn1 : n + 1 ≤ 1000000 := by omega
        have HO := Lib.hid hown3; have HBL := Lib.hid hbel2
        clear hown2 hown3 hbel2 hgrow hln hl2
        go_wp2_with fail
        exact ⟨⟨k + 1, n + 1, by omega, hn1, by go_num, HO.out, HBL.out⟩, by simp [intOf]; omega⟩
    · obtain rfl : k = rs.length := by omega
      rw [List.take_length] at hown
      obtain ⟨fq, hrv, hnv, hfv⟩ := Rd.of_own hown
      have HB := Lib.hid hbel; have HOW := Lib.hid hown; clear hbel hown
      go_wp2
      go_ret
      exact ⟨_, fq, rfl, hrv, hnv, hfv, HB.out, _, _, Nat.le_refl _, HOW.out⟩

set_option maxRecDepth 100000 in
set_option maxHeartbeats 1000000 in
theorem cutPred (f t : Int) (B1 B2 : Nat) (w : World) (h1 : w.cell? ⟨B1, 0, none⟩ = some (.int .i64 f)) (h2 : w.cell? ⟨B2, 0, none⟩ = some (.int .i64 t)) (l1 : B1 < w.heap.size) (l2 : B2 < w.heap.size) :
    PredRow 65 #[.pointer (some ⟨B1, 0, none⟩), .pointer (some ⟨B2, 0, none⟩)] (fun r => decide (f ≤ keyR r) && decide (keyR r < t)) w := by
  intro W x hx hb
  have g1 : W.cell? ⟨B1, 0, none⟩ = some (.int .i64 f) := (hb.cell (p := ⟨B1, 0, none⟩) l1).trans h1
  have g2 : W.cell? ⟨B2, 0, none⟩ = some (.int .i64 t) := (hb.cell (p := ⟨B2, 0, none⟩) l2).trans h2
  have m1 : B1 < W.heap.size := Nat.lt_of_lt_of_le l1 hb.size
  have m2 : B2 < W.heap.size := Nat.lt_of_lt_of_le l2 hb.size
  have HX := Lib.hid hx; have G1 := Lib.hid g1; have G2 := Lib.hid g2
  clear hb h1 h2 l1 l2 hx g1 g2
  show Calls Tryz.prog 65 #[rv x, .pointer (some ⟨B1, 0, none⟩), .pointer (some ⟨B2, 0, none⟩)] W fun e w' => e = .returned (.bool (decide (f ≤ keyR x) && decide (keyR x < t))) ∧ Below W.heap.size W w'
  cases hd : decide (f ≤ keyR x)
  · rw [Bool.false_and]
    go_enter Tryz.func65, Tryz.ntmps65
    go_wp2_with fail
    have g1 := G1.out; have g2 := G2.out
    obtain ⟨c0, c1, c2, c3, _, _, _, _, hz⟩ := four_at (heap_new W (rbox x) rfl)
    have g1 := ((below_new (w := W) (rbox x)).cell (p := ⟨B1, 0, none⟩) m1).trans g1
    have g2 := ((below_new (w := W) (rbox x)).cell (p := ⟨B2, 0, none⟩) m2).trans g2
    have hB0 : Below W.heap.size W (W.alloc (rbox x)) := below_new _
    have hS0 : W.heap.size ≤ (W.alloc (rbox x)).heap.size := by simp
    generalize W.alloc (rbox x) = W0 at *
    have hld : ∀ w', Below W0.heap.size W0 w' → w'.cell? ⟨W.heap.size, 0, none⟩ = some (.int .i64 x.1) ∧ w'.cell? ⟨W.heap.size, 1, none⟩ = some (.int .i64 x.2.1) ∧ w'.cell? ⟨W.heap.size, 2, none⟩ = some (.int .i64 x.2.2.1) ∧ w'.cell? ⟨W.heap.size, 3, none⟩ = some (.int .i64 x.2.2.2) ∧ w'.cell? ⟨B1, 0, none⟩ = some (.int .i64 f) ∧ w'.cell? ⟨B2, 0, none⟩ = some (.int .i64 t) := fun w' h => ⟨(h.cell (p := ⟨W.heap.size, 0, none⟩) hz).trans c0, (h.cell (p := ⟨W.heap.size, 1, none⟩) hz).trans c1, (h.cell (p := ⟨W.heap.size, 2, none⟩) hz).trans c2, (h.cell (p := ⟨W.heap.size, 3, none⟩) hz).trans c3, (h.cell (p := ⟨B1, 0, none⟩) (Nat.lt_trans m1 hz)).trans g1, (h.cell (p := ⟨B2, 0, none⟩) (Nat.lt_trans m2 hz)).trans g2⟩
    have HLD := Lib.hid hld; clear hld
    refine wp_region_sched (fun w' => Below W0.heap.size W0 w') [(0, true), (1, true), (2, false), (3, true), (4, true), (5, true), (7, true), (6, false), (8, true), (9, true), (10, true)] (by kernel_rfl) (by kernel_rfl) (by kernel_rfl) (by kernel_rfl) (fun _ _ d _ _ h => by cases d <;> exact h) ⟨rfl, rfl, rfl, Nat.le_refl _, fun _ _ => rfl⟩ ?_
    simp only [opsOf, List.filterMap_cons, List.filterMap_nil, Option.map_some, List.getElem?_toArray, List.getElem?_cons_zero, List.getElem?_cons_succ]
    generalize hW0 : ({ heap := W0.heap, tape := W0.tape, drawn := W0.drawn + 1, os := W0.os, output := W0.output } : World) = v0
    have hv0 : Below W0.heap.size W0 v0 := by rw [← hW0]; exact ⟨rfl, rfl, rfl, Nat.le_refl _, fun _ _ => rfl⟩
    clear hW0
    refine sched_run (v := ?_) (by rfl) ?_ ?_
    rotate_left
    · (intro w' hS'; obtain ⟨a0, a1, a2, a3, a4, a5⟩ := HLD.out w' hS'; go_simp; try with_reducible rfl)
    try simp only [Act.put, List.setIfInBounds_toArray, List.set_cons_zero, List.set_cons_succ]
    refine sched_run (v := ?_) (by rfl) ?_ ?_
    rotate_left
    · (intro w' hS'; obtain ⟨a0, a1, a2, a3, a4, a5⟩ := HLD.out w' hS'; go_simp; try with_reducible rfl)
    try simp only [Act.put, List.setIfInBounds_toArray, List.set_cons_zero, List.set_cons_succ]
    refine sched_call (by rfl) (fun K hK => ?_)
    go_simp
    refine (rowKey_b x _ HX.out).mono ?_
    rintro e v1 ⟨rfl, hb0⟩
    have hv1 : Below W0.heap.size W0 v1 := hv0.trans (hb0.mono hv0.size)
    refine hK _ _ hv1 ?_
    try simp only [Act.put, List.setIfInBounds_toArray, List.set_cons_zero, List.set_cons_succ]
    refine sched_run (v := ?_) (by rfl) ?_ ?_
    rotate_left
    · (intro w' hS'; go_simp; try with_reducible rfl)
    try simp only [Act.put, List.setIfInBounds_toArray, List.set_cons_zero, List.set_cons_succ]
    refine sched_run (v := ?_) (by rfl) ?_ ?_
    rotate_left
    · (intro w' hS'; go_simp; try with_reducible rfl)
    try simp only [Act.put, List.setIfInBounds_toArray, List.set_cons_zero, List.set_cons_succ]
    refine sched_skip (by rfl) ?_
    try simp only [Act.put, List.setIfInBounds_toArray, List.set_cons_zero, List.set_cons_succ]
    refine sched_skip (by rfl) ?_
    try simp only [Act.put, List.setIfInBounds_toArray, List.set_cons_zero, List.set_cons_succ]
    refine sched_skip' (by rfl) ?_
    try simp only [Act.put, List.setIfInBounds_toArray, List.set_cons_zero, List.set_cons_succ]
    refine sched_skip (by rfl) ?_
    try simp only [Act.put, List.setIfInBounds_toArray, List.set_cons_zero, List.set_cons_succ]
    refine sched_run (v := ?_) (by rfl) ?_ ?_
    rotate_left
    · (intro w' hS'; go_simp; try with_reducible rfl)
    try simp only [Act.put, List.setIfInBounds_toArray, List.set_cons_zero, List.set_cons_succ]
    refine sched_run (v := ?_) (by rfl) ?_ ?_
    rotate_left
    · (intro w' hS'; go_simp; try with_reducible rfl)
    try simp only [Act.put, List.setIfInBounds_toArray, List.set_cons_zero, List.set_cons_succ]
    refine sched_done ?_
    go_wp2_with fail
    go_ret
    exact ⟨rfl, hB0.trans (hv1.mono hS0)⟩
  · rw [Bool.true_and]
    go_enter Tryz.func65, Tryz.ntmps65
    go_wp2_with fail
    have g1 := G1.out; have g2 := G2.out
    obtain ⟨c0, c1, c2, c3, _, _, _, _, hz⟩ := four_at (heap_new W (rbox x) rfl)
    have g1 := ((below_new (w := W) (rbox x)).cell (p := ⟨B1, 0, none⟩) m1).trans g1
    have g2 := ((below_new (w := W) (rbox x)).cell (p := ⟨B2, 0, none⟩) m2).trans g2
    have hB0 : Below W.heap.size W (W.alloc (rbox x)) := below_new _
    have hS0 : W.heap.size ≤ (W.alloc (rbox x)).heap.size := by simp
    generalize W.alloc (rbox x) = W0 at *
    have hld : ∀ w', Below W0.heap.size W0 w' → w'.cell? ⟨W.heap.size, 0, none⟩ = some (.int .i64 x.1) ∧ w'.cell? ⟨W.heap.size, 1, none⟩ = some (.int .i64 x.2.1) ∧ w'.cell? ⟨W.heap.size, 2, none⟩ = some (.int .i64 x.2.2.1) ∧ w'.cell? ⟨W.heap.size, 3, none⟩ = some (.int .i64 x.2.2.2) ∧ w'.cell? ⟨B1, 0, none⟩ = some (.int .i64 f) ∧ w'.cell? ⟨B2, 0, none⟩ = some (.int .i64 t) := fun w' h => ⟨(h.cell (p := ⟨W.heap.size, 0, none⟩) hz).trans c0, (h.cell (p := ⟨W.heap.size, 1, none⟩) hz).trans c1, (h.cell (p := ⟨W.heap.size, 2, none⟩) hz).trans c2, (h.cell (p := ⟨W.heap.size, 3, none⟩) hz).trans c3, (h.cell (p := ⟨B1, 0, none⟩) (Nat.lt_trans m1 hz)).trans g1, (h.cell (p := ⟨B2, 0, none⟩) (Nat.lt_trans m2 hz)).trans g2⟩
    have HLD := Lib.hid hld; clear hld
    refine wp_region_sched (fun w' => Below W0.heap.size W0 w') [(0, true), (1, true), (2, false), (3, true), (4, true), (5, true), (7, true), (6, false), (8, true), (9, true), (10, true)] (by kernel_rfl) (by kernel_rfl) (by kernel_rfl) (by kernel_rfl) (fun _ _ d _ _ h => by cases d <;> exact h) ⟨rfl, rfl, rfl, Nat.le_refl _, fun _ _ => rfl⟩ ?_
    simp only [opsOf, List.filterMap_cons, List.filterMap_nil, Option.map_some, List.getElem?_toArray, List.getElem?_cons_zero, List.getElem?_cons_succ]
    generalize hW0 : ({ heap := W0.heap, tape := W0.tape, drawn := W0.drawn + 1, os := W0.os, output := W0.output } : World) = v0
    have hv0 : Below W0.heap.size W0 v0 := by rw [← hW0]; exact ⟨rfl, rfl, rfl, Nat.le_refl _, fun _ _ => rfl⟩
    clear hW0
    refine sched_run (v := ?_) (by rfl) ?_ ?_
    rotate_left
    · (intro w' hS'; obtain ⟨a0, a1, a2, a3, a4, a5⟩ := HLD.out w' hS'; go_simp; try with_reducible rfl)
    try simp only [Act.put, List.setIfInBounds_toArray, List.set_cons_zero, List.set_cons_succ]
    refine sched_run (v := ?_) (by rfl) ?_ ?_
    rotate_left
    · (intro w' hS'; obtain ⟨a0, a1, a2, a3, a4, a5⟩ := HLD.out w' hS'; go_simp; try with_reducible rfl)
    try simp only [Act.put, List.setIfInBounds_toArray, List.set_cons_zero, List.set_cons_succ]
    refine sched_call (by rfl) (fun K hK => ?_)
    go_simp
    refine (rowKey_b x _ HX.out).mono ?_
    rintro e v1 ⟨rfl, hb0⟩
    have hv1 : Below W0.heap.size W0 v1 := hv0.trans (hb0.mono hv0.size)
    refine hK _ _ hv1 ?_
    try simp only [Act.put, List.setIfInBounds_toArray, List.set_cons_zero, List.set_cons_succ]
    refine sched_run (v := ?_) (by rfl) ?_ ?_
    rotate_left
    · (intro w' hS'; go_simp; try with_reducible rfl)
    try simp only [Act.put, List.setIfInBounds_toArray, List.set_cons_zero, List.set_cons_succ]
    refine sched_run (v := ?_) (by rfl) ?_ ?_
    rotate_left
    · (intro w' hS'; go_simp; try with_reducible rfl)
    try simp only [Act.put, List.setIfInBounds_toArray, List.set_cons_zero, List.set_cons_succ]
    refine sched_run (v := ?_) (by rfl) ?_ ?_
    rotate_left
    · (intro w' hS'; obtain ⟨a0, a1, a2, a3, a4, a5⟩ := HLD.out w' hS'; go_simp; try with_reducible rfl)
    try simp only [Act.put, List.setIfInBounds_toArray, List.set_cons_zero, List.set_cons_succ]
    refine sched_run (v := ?_) (by rfl) ?_ ?_
    rotate_left
    · (intro w' hS'; obtain ⟨a0, a1, a2, a3, a4, a5⟩ := HLD.out w' hS'; go_simp; try with_reducible rfl)
    try simp only [Act.put, List.setIfInBounds_toArray, List.set_cons_zero, List.set_cons_succ]
    refine sched_call (by rfl) (fun K hK => ?_)
    go_simp
    refine (rowKey_b x _ HX.out).mono ?_
    rintro e v2 ⟨rfl, hb1⟩
    have hv2 : Below W0.heap.size W0 v2 := hv1.trans (hb1.mono hv1.size)
    refine hK _ _ hv2 ?_
    try simp only [Act.put, List.setIfInBounds_toArray, List.set_cons_zero, List.set_cons_succ]
    refine sched_run (v := ?_) (by rfl) ?_ ?_
    rotate_left
    · (intro w' hS'; go_simp; try with_reducible rfl)
    try simp only [Act.put, List.setIfInBounds_toArray, List.set_cons_zero, List.set_cons_succ]
    refine sched_run (v := ?_) (by rfl) ?_ ?_
    rotate_left
    · (intro w' hS'; go_simp; try with_reducible rfl)
    try simp only [Act.put, List.setIfInBounds_toArray, List.set_cons_zero, List.set_cons_succ]
    refine sched_run (v := ?_) (by rfl) ?_ ?_
    rotate_left
    · (intro w' hS'; go_simp; try with_reducible rfl)
    try simp only [Act.put, List.setIfInBounds_toArray, List.set_cons_zero, List.set_cons_succ]
    refine sched_done ?_
    go_wp2_with fail
    go_ret
    exact ⟨rfl, hB0.trans (hv2.mono hS0)⟩

set_option maxRecDepth 100000 in
set_option maxHeartbeats 2000000 in
theorem implCutRows_a : AskCutRows := by
  intro A c rs f t w fp hs hwf hwl hwt ha
  have ha' := ((ha.alloc (.cells #[.int .i64 f] 2)).alloc (.cells #[.int .i64 t] 2)).alloc (.cells #[.int .i64 0, .slice none 0 0] 56)
  have hB0 : Below w.heap.size w (((w.alloc (.cells #[.int .i64 f] 2)).alloc (.cells #[.int .i64 t] 2)).alloc (.cells #[.int .i64 0, .slice none 0 0] 56)) := below_more (below_more (below_new _) _) _
  have HB0 := Lib.hid hB0; clear hB0
  have eg : ∀ args w, (callFunc 65 args).run Tryz.prog w = .ok (.enter 65 args) w := enters_of Tryz.func65 (by kernel_rfl) rfl
  have EG := Lib.hid eg; clear eg
  have hblk : ∀ w1, Below (w.heap.size + 3) (((w.alloc (.cells #[.int .i64 f] 2)).alloc (.cells #[.int .i64 t] 2)).alloc (.cells #[.int .i64 0, .slice none 0 0] 56)) w1 →
      w1.heap[w.heap.size]? = some (.cells #[.int .i64 f] 2 (0, 0)) ∧ w1.heap[w.heap.size + 1]? = some (.cells #[.int .i64 t] 2 (0, 0)) ∧ w1.heap[w.heap.size + 2]? = some (.cells #[.int .i64 0, .slice none 0 0] 56 (0, 0)) := fun w1 h =>
    ⟨(h.block _ (by omega)).trans (heap_old (heap_old (heap_new w _ rfl))), (h.block _ (by omega)).trans (heap_old (heap_new _ _ (by simp))), (h.block _ (by omega)).trans (heap_new _ _ (by simp))⟩
  have HBLK := Lib.hid hblk; clear hblk
  by_cases h0 : rowsF rs = 0
  · obtain ⟨hfit, hl12⟩ := rowsF_fits h0
    have H0 := Lib.hid h0; have HFT := Lib.hid hfit
    by_cases hin : 0 ≤ f ∧ f ≤ t ∧ t ≤ 100
    · have hC : crC rs f t = 0 := by
        have a1 : inB f 0 100 = true := inB_true.2 (by omega)
        have a2 : inB t f 100 = true := inB_true.2 (by omega)
        simp [crC, h0, a1, a2]
      have hL : crL rs f t = rs.filter (fun r => decide (f ≤ keyR r) && decide (keyR r < t)) := by simp [crL, hC, cutR]
      rw [hC, hL]
      obtain ⟨i1, i2, i3⟩ := hin
      generalize hS : rs.filter (fun r => decide (f ≤ keyR r) && decide (keyR r < t)) = S
      have HS := Lib.hid hS; clear hS
      clear h0 hC hL hfit
      go_enter Tryz.func25, Tryz.ntmps25
      go_wp2_with fail
      refine (implRowsFault_a A c rs _ fp hs hwf ha').mono ?_
      rintro e w1 ⟨rfl, hb1⟩
      rw [H0.out]
      have hr1 := ha'.below' hb1
      have hb1s : Below (w.heap.size + 3) _ w1 := hb1.mono (by simp)
      obtain ⟨g0, g1, g2⟩ := HBLK.out w1 hb1s
      have hbw := HB0.out.trans (hb1.mono HB0.out.size)
      have HR1 := Lib.hid hr1; have HBW := Lib.hid hbw
      have c0 : w1.cell? ⟨w.heap.size, 0, none⟩ = some (.int .i64 f) := cell_of_heap g0
      have c1 : w1.cell? ⟨w.heap.size + 1, 0, none⟩ = some (.int .i64 t) := cell_of_heap g1
      have l2 := heap_lt g2
      have G2 := Lib.hid g2
      have HP := Lib.hid (cutPred f t w.heap.size (w.heap.size + 1) w1 c0 c1 (heap_lt g0) (heap_lt g1))
      clear hb1 hr1 hb1s hbw g0 g1 g2
      go_wp2_with fail
      refine (keep_c 65 #[.pointer (some ⟨w.heap.size, 0, none⟩), .pointer (some ⟨w.heap.size + 1, 0, none⟩)] (fun r => decide (f ≤ keyR r) && decide (keyR r < t)) EG.out A c rs _ fp (by omega) HFT.out HP.out HR1.out).mono ?_
      rintro e w2 ⟨v, fv, rfl, hrv, hnv, hfv, hb2, _⟩
      rw [HS.out] at hrv
      obtain ⟨Av, cv, rfl⟩ := hrv.rows_form
      have hfv' : From (w.heap.size + 2 + 1) fv := hfv.mono (by omega)
      have hg2 := (hb2.block _ l2).trans G2.out
      obtain ⟨d0, d1, f0, f1, hz⟩ := two_at hg2
      have hbw2 := HBW.out.trans (hb2.mono HBW.out.size)
      have HST := Lib.hid (rres_stored (code := 0) (g := w.heap.size + 2) hbw2 (by omega) hrv hnv hfv')
      clear hb2 hg2 hbw2 hfv hfv' c0 c1
      go_wp2_with fail
      exact bodyPost_ret (v := .agg #[.int .i64 0, .slice Av S.length cv]) (by simp [results, Tryz.results25, go_sem, d0, d1, hz]) rfl ⟨_, rfl, HST.out.1, HST.out.2⟩
    · have hC : crC rs f t = 3 := by
        have a1 : (inB f 0 100 && inB t f 100) = false := by
          cases h1 : inB f 0 100 <;> cases h2 : inB t f 100 <;> simp
          have := inB_true.1 h1; have := inB_true.1 h2; omega
        simp [crC, h0, a1]
      have hL : crL rs f t = [] := by simp [crL, hC]
      rw [hC, hL]
      clear h0 hC hL hfit
      have hor : f < 0 ∨ (¬ f < 0 ∧ t < f) ∨ (¬ f < 0 ∧ ¬ t < f ∧ 100 < t) := by omega
      rcases hor with q1 | ⟨q1, q2⟩ | ⟨q1, q2, q3⟩
      all_goals
        clear hin
        go_enter Tryz.func25, Tryz.ntmps25
        go_wp2_with fail
        refine (implRowsFault_a A c rs _ fp hs hwf ha').mono ?_
        rintro e w1 ⟨rfl, hb1⟩
        rw [H0.out]
        have hb1s : Below (w.heap.size + 3) _ w1 := hb1.mono (by simp)
        obtain ⟨g0, g1, g2⟩ := HBLK.out w1 hb1s
        have hbw := HB0.out.trans (hb1.mono HB0.out.size)
        have c0 : w1.cell? ⟨w.heap.size, 0, none⟩ = some (.int .i64 f) := cell_of_heap g0
        have c1 : w1.cell? ⟨w.heap.size + 1, 0, none⟩ = some (.int .i64 t) := cell_of_heap g1
        obtain ⟨d0, d1, f0, f1, hz⟩ := two_at g2
        have HST := Lib.hid (rres_stored (code := 3) (rs := []) (g := w.heap.size + 2) hbw (by omega) (Rd.nil w1 4) (NF.nil w1) (From.nil _))
        clear hb1 hb1s hbw g0 g1 g2
        go_wp2_with fail
        exact bodyPost_ret (v := .agg #[.int .i64 3, .slice none 0 0]) (by simp [results, Tryz.results25, go_sem, d0, d1, hz]) rfl ⟨_, rfl, HST.out.1, HST.out.2⟩
  · have hC : crC rs f t = rowsF rs := by simp [crC, h0]
    have hL : crL rs f t = [] := by simp [crL, hC, h0]
    rw [hC, hL]
    have hne : (rowsF rs != 0) = true := by simpa using h0
    clear h0 hC hL
    go_enter Tryz.func25, Tryz.ntmps25
    go_wp2_with fail
    refine (implRowsFault_a A c rs _ fp hs hwf ha').mono ?_
    rintro e w1 ⟨rfl, hb1⟩
    have hb1s : Below (w.heap.size + 3) _ w1 := hb1.mono (by simp)
    obtain ⟨g0, g1, g2⟩ := HBLK.out w1 hb1s
    have hbw := HB0.out.trans (hb1.mono HB0.out.size)
    obtain ⟨d0, d1, f0, f1, hz⟩ := two_at g2
    have HST := Lib.hid (rres_stored (code := rowsF rs) (rs := []) (g := w.heap.size + 2) hbw (by omega) (Rd.nil w1 4) (NF.nil w1) (From.nil _))
    clear hb1 hb1s hbw g0 g1 g2
    go_wp2_with fail
    exact bodyPost_ret (v := .agg #[.int .i64 (rowsF rs), .slice none 0 0]) (by simp [results, Tryz.results25, go_sem, d0, d1, hz]) rfl ⟨_, rfl, HST.out.1, HST.out.2⟩
end Go.Proofs.YtldimfmhbdhbnaaGreat
