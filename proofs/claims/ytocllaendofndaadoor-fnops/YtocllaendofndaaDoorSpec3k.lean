/-
  Contracts of the model's functions of chapter 3, tenth part: an operation out of its text.
-/
import Derived.Test.YtocllaendofndaaDoorSpec3h
import Derived.Test.YtocllaendofndaaDoorSpec3e
import Derived.Test.YtocllaendofndaaDoorG6
namespace Go.Proofs.YtocllaendofndaaDoor
open Go.RowKit

/-- The kind of a word, of the first k ones. -/
def kindTo (w : List UInt8) : Nat → Int
  | 0 => 0
  | k + 1 => if wordL ((k : Int) + 1) = w then (k : Int) + 1 else kindTo w k
theorem kindTo_all (w : List UInt8) : kindTo w 7 = kindL w := by
  unfold kindL
  rfl
theorem kindTo_step {w : List UInt8} {k : Nat} (h : 1 ≤ k) : kindTo w k = if wordL (k : Int) = w then (k : Int) else kindTo w (k - 1) := by
  obtain ⟨j, rfl⟩ : ∃ j, k = j + 1 := ⟨k - 1, by omega⟩
  rw [kindTo, Nat.add_sub_cancel, Int.natCast_add, Int.natCast_one]
theorem cutGo_len {l : List UInt8} : ∀ {cur : List UInt8}, ∀ p ∈ cutGo cur l, p.length ≤ cur.length + l.length := by
  induction l with
  | nil => intro cur p hp; simp [cutGo] at hp; subst hp; simp
  | cons x t ih =>
    intro cur p hp
    unfold cutGo at hp
    split at hp
    · rcases List.mem_cons.1 hp with rfl | hp
      · simp
      · have := ih p hp; simp at this ⊢; omega
    · have := ih p hp; simp at this ⊢; omega
theorem cut_len {l : List UInt8} (p : List UInt8) (hp : p ∈ cutL l) : p.length ≤ l.length := by have := cutGo_len p hp; simpa using this
/-- The numbers of the pieces: the kind, then six numbers. -/
def valsOf : List (List UInt8) → List Int
  | [] => []
  | p :: t => kindL p :: t.map numL
theorem vals_at {ps : List (List UInt8)} {k : Nat} (h1 : 1 ≤ k) (hk : k < ps.length) : ∃ h : k < (valsOf ps).length, (valsOf ps)[k] = numL ps[k] := by
  match ps, hk with
  | p :: t, hk =>
    obtain ⟨j, rfl⟩ : ∃ j, k = j + 1 := ⟨k - 1, by omega⟩
    exact ⟨by simpa [valsOf] using hk, by simp [valsOf]⟩
/-- The first k of them as cells. -/
def vcells (ps : List (List UInt8)) (k : Nat) : List Value := cellsOf .i64 ((valsOf ps).take k)
theorem vcells_succ {ps : List (List UInt8)} {k : Nat} {N : Int} (hk : k < (valsOf ps).length) (hv : (valsOf ps)[k] = N) : vcells ps (k + 1) = vcells ps k ++ [.int .i64 N] := by
  unfold vcells
  rw [List.take_add_one, List.getElem?_eq_getElem hk, hv]
  unfold cellsOf
  rw [List.map_append]
  rfl
/-- What l3Parse answers. -/
def PsPost (l : List UInt8) (w : World) (e : Ending) (w' : World) : Prop :=
  ∃ (o : O) (t : Bool), e = .returned (.tuple #[ov o, .bool t]) ∧ parseO l = (if t then some o else none) ∧ Below w.heap.size w w'
theorem parse_short {l : List UInt8} (h : (cutL l).length ≠ 7) : parseO l = none := by
  unfold parseO
  split
  · rename_i hc; rw [hc] at h; simp at h
  · rfl
theorem parse_neg {l : List UInt8} {ps : List (List UInt8)} (hc : cutL l = ps) (h7 : ps.length = 7) {k : Nat} (h1 : 1 ≤ k) (hk : k < ps.length) (hn : numL ps[k] < 0) : parseO l = none := by
  match ps, h7 with
  | [w, a, b, c, d, e, f], _ =>
    unfold parseO
    rw [hc]
    simp only
    rw [if_pos]
    have : k = 1 ∨ k = 2 ∨ k = 3 ∨ k = 4 ∨ k = 5 ∨ k = 6 := by simp at hk; omega
    rcases this with rfl | rfl | rfl | rfl | rfl | rfl <;> simp at hn <;> omega
theorem parse_seven {l : List UInt8} {ps : List (List UInt8)} (hc : cutL l = ps) (h7 : ps.length = 7) (hn : ∀ k (hk : k < ps.length), 1 ≤ k → 0 ≤ numL ps[k]) : ∃ o, valsOf ps = opL o ∧ parseO l = if opF o = 0 then some o else none := by
  match ps, h7 with
  | [w, a, b, c, d, e, f], _ =>
    refine ⟨⟨kindL w, numL a, numL b, numL c, numL d, numL e, numL f⟩, rfl, ?_⟩
    unfold parseO
    rw [hc]
    simp only
    have h1 := hn 1 (by simp) (by omega); have h2 := hn 2 (by simp) (by omega); have h3 := hn 3 (by simp) (by omega)
    have h4 := hn 4 (by simp) (by omega); have h5 := hn 5 (by simp) (by omega); have h6 := hn 6 (by simp) (by omega)
    simp only [List.getElem_cons_succ, List.getElem_cons_zero] at h1 h2 h3 h4 h5 h6
    rw [if_neg (by omega)]
theorem strs_at {w : World} {A : Option Addr} {n c : Nat} {ps : List (List UInt8)} {fp : List Nat} (h : Rd w 1 (.slice A n c) (strsOf ps) fp) (h0 : 0 < ps.length) :
    n = ps.length ∧ ∃ b off, A = some ⟨b, off, none⟩ ∧ b < w.heap.size ∧ ∀ i (hi : i < ps.length), w.cell? ⟨b, off + i, none⟩ = some (.string ⟨(ps[i]).toArray⟩) := by
  obtain ⟨A', n', c', hv, hl, hmx, hnc, hx⟩ := h
  cases hv
  have hn : n = ps.length := by simp [strsOf] at hl; omega
  refine ⟨hn, ?_⟩
  rcases hx with ⟨h, _⟩ | ⟨b, off, rfl, _, hb, hc⟩
  · omega
  · exact ⟨b, off, rfl, hb, fun i hi => hc i _ (by simp [strsOf, List.getElem?_map, List.getElem?_eq_getElem hi])⟩
theorem set_one {w : World} {g : Nat} {u v : Value} {t : TypeId} (h : w.heap[g]? = some (.cells #[u] t (0, 0))) : (w.setCell ⟨g, 0, none⟩ v).heap[g]? = some (.cells #[v] t (0, 0)) := by
  unfold World.setCell
  simp only [Array.getElem?_modify, h]
  simp

set_option maxRecDepth 100000 in
set_option maxHeartbeats 4000000 in
theorem l3Parse_short (s : ByteArray) (w : World) (hs : s.size ≤ 1048576) (h7 : (cutL s.data.toList).length ≠ 7) :
    Calls Tryd.prog 38 #[.string s] w (PsPost s.data.toList w) := by
  have hp := parse_short h7
  generalize hL : s.data.toList = l at *
  generalize hc : cutL l = ps at h7
  have HP := Lib.hid hp; have HL := Lib.hid hL; have HC := Lib.hid hc
  clear hp hL hc
  go_enter Tryd.func38, Tryd.ntmps38
  go_wp2_with fail
  refine (l1Cut_c s _ hs).mono ?_
  rintro e w1 ⟨v, fq, rfl, hr, hb1⟩
  rw [HL.out, HC.out] at hr
  obtain ⟨Av, n', cv, rfl, hl, _, _, _⟩ := hr
  have hln : n' = ps.length := by simp [strsOf] at hl; omega
  subst hln
  have hg1 : w1.heap[w.heap.size]? = some (obox ⟨0, 0, 0, 0, 0, 0, 0⟩) := newest hb1 (by simp)
  obtain ⟨c0, c1, c2, c3, c4, c5, c6, hz⟩ := op_cells0 hg1
  have zf : ∀ i, w1.frozen? ⟨w.heap.size, i, none⟩ = false := fun i => frozen_of_heap hg1
  have HBR := Lib.hid ((below_new _).trans (hb1.mono (by simp)))
  clear hb1 hl hg1
  have hn7' : ((ps.length : Int) != 7) = true := by simp; omega
  go_wp2_with fail
  exact bodyPost_ret (v := .tuple #[ov ⟨0, 0, 0, 0, 0, 0, 0⟩, .bool false]) (by simp [results, Tryd.results38, go_sem, c0, c1, c2, c3, c4, c5, c6]) rfl ⟨_, false, rfl, HP.out, (below_set (below_set (below_set (below_set (below_set (below_set (below_set HBR.out _ _) _ _) _ _) _ _) _ _) _ _) _ _)⟩

set_option maxRecDepth 100000 in
set_option maxHeartbeats 8000000 in
theorem l3Parse_seven (s : ByteArray) (w : World) (hs : s.size ≤ 1048576) (h7 : (cutL s.data.toList).length = 7) :
    Calls Tryd.prog 38 #[.string s] w (PsPost s.data.toList w) := by
  have hlen := str_len s
  generalize hL : s.data.toList = l at *
  generalize hc : cutL l = ps at h7
  have hsm : ∀ k (hk : k < ps.length), (ps[k]).length ≤ 1048576 := fun k hk => by
    have := cut_len (l := l) ps[k] (by rw [hc]; exact List.getElem_mem hk)
    omega
  have H7 := Lib.hid h7
  obtain ⟨p0, hp0⟩ : ∃ p0, ps[0]? = some p0 := ⟨ps[0], List.getElem?_eq_getElem (by omega)⟩
  have HSM := Lib.hid hsm; have HL := Lib.hid hL; have HC := Lib.hid hc; have HP0 := Lib.hid hp0
  clear hL hc hsm h7 hp0 hlen
  obtain ⟨i0, hi, hz, hsz, hbyt⟩ := infoInt64S
  go_enter Tryd.func38, Tryd.ntmps38
  go_wp2_with fail
  refine (l1Cut_c s _ hs).mono ?_
  rintro e w1 ⟨v, fq, rfl, hr, hb1⟩
  rw [HL.out, HC.out] at hr
  obtain ⟨Av, n', cv, rfl⟩ : ∃ Av n' cv, v = .slice Av n' cv := by obtain ⟨Av, n', cv, rfl, _⟩ := hr; exact ⟨_, _, _, rfl⟩
  obtain ⟨hn', b, off, rfl, hbz1, hcs⟩ := strs_at hr (by rw [H7.out]; omega)
  rw [H7.out] at hn'
  subst hn'
  have hg1 : w1.heap[w.heap.size]? = some (obox ⟨0, 0, 0, 0, 0, 0, 0⟩) := newest hb1 (by simp)
  have hlt1 : w.heap.size < w1.heap.size := heap_lt hg1
  have HG1 := Lib.hid hg1
  have HBR := Lib.hid ((below_new _).trans (hb1.mono (by simp)))
  have hc01 : w1.cell? ⟨b, off, none⟩ = some (.string ⟨p0.toArray⟩) := by
    have := hcs 0 (by rw [H7.out]; omega)
    have e := HP0.out
    rw [List.getElem?_eq_getElem (by rw [H7.out]; omega)] at e
    rw [Option.some.inj e] at this
    exact this
  have HCS := Lib.hid hcs; have HC0 := Lib.hid hc01
  clear hb1 hr hg1 hcs hc01
  go_wp2_with fail
  go_loopw [6] (fun i wr => ∃ k : Nat, 1 ≤ k ∧ k ≤ 8 ∧ i = .int .i64 (k : Int) ∧ wr.heap[w1.heap.size]? = some (.cells #[.int .i64 (kindTo p0 (k - 1))] 2 (0, 0)) ∧ Below w1.heap.size w1 wr) (fun i _ => 8 - (intOf i).toNat)
  case atStart => exact ⟨1, by omega, by omega, rfl, heap_new w1 _ rfl, below_new _⟩
  case round =>
    obtain ⟨k, hk1, hk8, rfl, hnb, hbel⟩ := hrel
    have hbz : b < wr.heap.size := Nat.lt_of_lt_of_le hbz1 hbel.size
    have hc0 : wr.cell? ⟨b, off, none⟩ = some (.string ⟨p0.toArray⟩) := (hbel.cell (p := ⟨b, _, none⟩) hbz1).trans HC0.out
    have HBL := Lib.hid hbel; have HNB := Lib.hid hnb
    clear hbel hnb
    by_cases hlt : k < 8
    · have hk7 : k ≤ 7 := by omega
      have hk8' : (k : Int) < 8 := by omega
      go_upto_region 8 with (fail)
      have hld : ∀ w', Below wr.heap.size wr w' → w'.cell? ⟨b, off, none⟩ = some (.string ⟨p0.toArray⟩) ∧ b < w'.heap.size := fun w' h => ⟨(h.cell (p := ⟨b, _, none⟩) hbz).trans hc0, Nat.lt_of_lt_of_le hbz h.size⟩
      have HLD := Lib.hid hld; clear hld
      refine wp_region_sched (fun w' => Below wr.heap.size wr w') [(1, true), (4, true), (5, true), (6, true), (0, false), (2, true), (3, false), (7, true)] (by kernel_rfl) (by kernel_rfl) (by kernel_rfl) (by kernel_rfl) (fun _ _ d _ _ h => by cases d <;> exact h) ⟨rfl, rfl, rfl, Nat.le_refl _, fun _ _ => rfl⟩ ?_
      simp only [opsOf, List.filterMap_cons, List.filterMap_nil, Option.map_some, List.getElem?_toArray, List.getElem?_cons_zero, List.getElem?_cons_succ]
      generalize hW0 : ({ heap := wr.heap, tape := wr.tape, drawn := wr.drawn + 1, os := wr.os, output := wr.output } : World) = v0
      have hv0 : Below wr.heap.size wr v0 := by rw [← hW0]; exact ⟨rfl, rfl, rfl, Nat.le_refl _, fun _ _ => rfl⟩
      clear hW0
      refine sched_run (v := ?_) (by rfl) ?_ ?_
      rotate_left
      · (intro w' hS'; go_simp; try with_reducible rfl)
      try simp only [Act.put, List.setIfInBounds_toArray, List.set_cons_zero, List.set_cons_succ]
      refine sched_run (v := ?_) (by rfl) ?_ ?_
      rotate_left
      · (intro w' hS'; go_simp; try with_reducible rfl)
      try simp only [Act.put, List.setIfInBounds_toArray, List.set_cons_zero, List.set_cons_succ]
      refine sched_run (v := ?_) (by rfl) ?_ ?_
      rotate_left
      · (intro w' hS'; go_simp; try with_reducible rfl)
      try simp only [Act.put, List.setIfInBounds_toArray, List.set_cons_zero, List.set_cons_succ]
      refine sched_run (v := ?_) (by rfl) ?_ ?_
      rotate_left
      · (intro w' hS'; obtain ⟨a0, az⟩ := HLD.out w' hS'; go_simp; try with_reducible rfl)
      try simp only [Act.put, List.setIfInBounds_toArray, List.set_cons_zero, List.set_cons_succ]
      refine sched_call (by rfl) (fun K hK => ?_)
      go_simp
      refine (l3Words_c _).mono ?_
      rintro e v1 ⟨rfl, hbv0, hwd⟩
      have hv1 : Below wr.heap.size wr v1 := hv0.trans (hbv0.mono hv0.size)
      have hwc := words_at hwd hk1 hk7
      have hwz := heap_lt hwd
      clear hbv0
      refine hK _ _ hv1 ?_
      try simp only [Act.put, List.setIfInBounds_toArray, List.set_cons_zero, List.set_cons_succ]
      refine sched_run (v := ?_) (by rfl) ?_ ?_
      rotate_left
      · (intro w' hS'; go_simp; try with_reducible rfl)
      try simp only [Act.put, List.setIfInBounds_toArray, List.set_cons_zero, List.set_cons_succ]
      refine sched_call (by rfl) (fun K hK => ?_)
      go_simp
      refine hK _ _ ?_ ?_
      · exact (hv1)
      try simp only [Act.put, List.setIfInBounds_toArray, List.set_cons_zero, List.set_cons_succ]
      refine sched_run (v := ?_) (by rfl) ?_ ?_
      rotate_left
      · (intro w' hS'; go_simp; try with_reducible rfl)
      try simp only [Act.put, List.setIfInBounds_toArray, List.set_cons_zero, List.set_cons_succ]
      refine sched_done ?_
      clear HLD
      have hnb1 := (hv1.block _ (heap_lt HNB.out)).trans HNB.out
      have hnc : v1.cell? ⟨w1.heap.size, 0, none⟩ = some (.int .i64 (kindTo p0 (k - 1))) := cell_of_heap hnb1
      have hnf : v1.frozen? ⟨w1.heap.size, 0, none⟩ = false := frozen_of_heap hnb1
      have hnz := heap_lt hnb1
      have hst := kindTo_step (w := p0) hk1
      have HNB1 := Lib.hid hnb1; have HST := Lib.hid hst
      have HB1 := Lib.hid (HBL.out.trans (hv1.mono HBL.out.size))
      clear hnb1 hst hv0 hv1 hwd hwc hwz HBL HNB hc0
      by_cases hw : wordL (k : Int) = p0
      · have hcmp : (wordL (k : Int) == p0) = true := by simpa using hw
        have hset := set_one (v := .int .i64 (k : Int)) HNB1.out
        have hst := HST.out
        rw [if_pos hw] at hst
        have HS := Lib.hid hset
        clear hw hset HST
        rw [hcmp]
        go_wp2_with fail
        exact ⟨⟨k + 1, by omega, by omega, by go_num, by rw [Nat.add_sub_cancel, hst]; exact HS.out, below_set HB1.out _ _⟩, by simp [intOf]; omega⟩
      · have hcmp : (wordL (k : Int) == p0) = false := by simpa using hw
        have hst := HST.out
        rw [if_neg hw] at hst
        clear hw HST
        rw [hcmp]
        go_wp2_with fail
        exact ⟨⟨k + 1, by omega, by omega, by go_num, by rw [Nat.add_sub_cancel, hst]; exact HNB1.out, HB1.out⟩, by simp [intOf]; omega⟩
    · obtain rfl : k = 8 := by omega
      have hnb := HNB.out
      rw [show (8 : Nat) - 1 = 7 from rfl, kindTo_all] at hnb
      have hown : wr.ownsRow w1.heap.size 2 1 (.slice (some ⟨w1.heap.size, 0, none⟩) 1 1) 1 (vcells ps 1) := by
        unfold vcells
        have e : (valsOf ps).take 1 = [kindL p0] := by
          have h7 := H7.out; have h0 := HP0.out
          match ps, h7, h0 with
          | p :: t, _, h0 => simp at h0; subst h0; simp [valsOf]
        rw [e]
        exact ⟨rfl, .inr ⟨w1.heap.size, 1, #[.int .i64 (kindL p0)], rfl, Nat.le_refl _, hnb, by omega, by unfold maxLen; omega, rfl, rfl⟩⟩
      have HOW := Lib.hid hown
      clear hown hnb HNB hc0
      have hbrel := HBL.out
      generalize wr = W at *
      rw [show ((8 : Nat) : Int) = 8 from rfl]
      go_wp2_with fail
      go_loopw [5, 7] (fun n i wr => ∃ k : Nat, 1 ≤ k ∧ k ≤ 7 ∧ i = .int .i64 (k : Int) ∧ wr.ownsRow w1.heap.size 2 1 n k (vcells ps k) ∧ Below w1.heap.size w1 wr ∧ ∀ j (hj : j < ps.length), 1 ≤ j → j < k → 0 ≤ numL ps[j]) (fun _ i _ => 7 - (intOf i).toNat)
      case atStart => exact ⟨1, by omega, by omega, rfl, HOW.out, hbrel, fun j _ _ _ => by omega⟩
      case round =>
        clear HOW hbrel HBL hk1 hk8 hlt hbz
        obtain ⟨k, hk1, hk7, rfl, hown, hbel, hpos⟩ := hrel
        have hsize := hbel.size
        have hrow : ∀ g, u5.ownBlock = some g → w1.heap.size ≤ g := fun g hg => own_base hown hg
        have HR := Lib.hid hrow; clear hrow
        by_cases hlt : k < 7
        · have hlt' : (k : Int) < 7 := by omega
          have hkp : k < ps.length := by rw [H7.out]; exact hlt
          have hck : wr.cell? ⟨b, off + k, none⟩ = some (.string ⟨(ps[k]).toArray⟩) := (hbel.cell (p := ⟨b, _, none⟩) hbz1).trans (HCS.out k hkp)
          have hbz : b < wr.heap.size := Nat.lt_of_lt_of_le hbz1 hbel.size
          have hsk := HSM.out k hkp
          obtain ⟨hkv, hv⟩ := vals_at hk1 hkp
          generalize hN : numL ps[k] = N at hv
          have hown1 := hown.alloc (.cells #[.int .i64 N] 2)
          have hbel1 := hbel.alloc (o := .cells #[.int .i64 N] 2) hsize
          have HN := Lib.hid hN; have HV := Lib.hid hv
          have HB := Lib.hid hbel; have HB1 := Lib.hid hbel1; have HO1 := Lib.hid hown1; have HPS := Lib.hid hpos
          clear hN hv hbel hbel1 hown1 hpos hown
          go_wp2_with fail
          refine (l3Number_c ⟨(ps[k]).toArray⟩ _ (by simpa [ByteArray.size] using hsk)).mono ?_
          rintro e wx ⟨rfl, hwx⟩
          rw [hwx]
          clear hwx
          rw [show (⟨(ps[k]).toArray⟩ : ByteArray).data.toList = ps[k] from rfl, HN.out]
          by_cases hneg : N < 0
          · have hp := parse_neg HC.out H7.out hk1 hkp (by rw [HN.out]; exact hneg)
            have hg1 := (HB.out.block _ (heap_lt HG1.out)).trans HG1.out
            obtain ⟨c0, c1, c2, c3, c4, c5, c6, hz⟩ := op_cells0 hg1
            have zf : ∀ i, wr.frozen? ⟨w.heap.size, i, none⟩ = false := fun i => frozen_of_heap hg1
            have HP := Lib.hid hp
            have HBR2 := Lib.hid (HBR.out.trans (HB.out.mono HBR.out.size))
            clear hp hg1 HBR hck
            go_wp2_with fail
            exact bodyPost_ret (v := .tuple #[ov ⟨0, 0, 0, 0, 0, 0, 0⟩, .bool false]) (by simp [results, Tryd.results38, go_sem, c0, c1, c2, c3, c4, c5, c6]) rfl ⟨_, false, rfl, HP.out, (below_set (below_set (below_set (below_set (below_set (below_set (below_set HBR2.out _ _) _ _) _ _) _ _) _ _) _ _) _ _)⟩
          · clear hck hbz
            go_wp2_with (at_builtin; refine wpList_append_own _ rfl _ _ 51 rfl w1.heap.size 2 i0 (.int .i64 0) 1 8 Tryd.underlying51 hi hz hsz hbyt rfl (by decide) _ _ _ rfl HO1.out ⟨wr.heap.size, 0, none⟩ 1 1 [.int .i64 N] rfl rfl ?c1 ?c2 ?c3 ?c4 ?c5 ?_)
            case c1 =>
              intro j u hj
              match j, hj with
              | 0, hj => simp at hj; subst hj; exact cell_of_heap (heap_new wr _ rfl)
            case c2 => intro u hu; simp at hu; subst hu; rfl
            case c3 => unfold maxLen; omega
            case c4 => omega
            case c5 => have := HB1.out.size; exact this
            intro v' w2 hown2 hgrow2 _
            have hown3 : w2.ownsRow w1.heap.size 2 1 v' (k + 1) (vcells ps (k + 1)) := by
              rw [vcells_succ hkv HV.out]; exact hown2
            have hbel2 := HB1.out.grown hgrow2 HB1.out.size HR.out
            have hps : ∀ j (hj : j < ps.length), 1 ≤ j → j < k + 1 → 0 ≤ numL ps[j] := fun j hj h1 hjk => by
              by_cases hjk' : j < k
              · exact HPS.out j hj h1 hjk'
              · obtain rfl : j = k := by omega
                rw [HN.out]; omega
            have HO := Lib.hid hown3; have HBL := Lib.hid hbel2; have HPS2 := Lib.hid hps
            clear hown2 hown3 hbel2 hgrow2 hps HPS HB1 HO1 HB
            go_wp2_with fail
            exact ⟨⟨k + 1, by omega, by omega, by go_num, HO.out, HBL.out, HPS2.out⟩, by simp [intOf]; omega⟩
        · obtain rfl : k = 7 := by omega
          obtain ⟨o, ho, hpo⟩ := parse_seven HC.out H7.out (fun j hj h1 => hpos j hj h1 (by rw [H7.out] at hj; exact hj))
          unfold vcells at hown
          rw [ho, show (opL o).take 7 = opL o from rfl] at hown
          obtain ⟨fr, hrv, _, _⟩ := Rd.of_own hown
          obtain ⟨Av, cv2, rfl⟩ := hrv.form
          rw [show (opL o).length = 7 from rfl] at hrv
          generalize hC : opF o = C at hpo
          have HC := Lib.hid hC
          have hg1 := (hbel.block _ (heap_lt HG1.out)).trans HG1.out
          have HG1' := Lib.hid hg1; have HB1' := Lib.hid (HBR.out.trans (hbel.mono HBR.out.size))
          have HRV := Lib.hid hrv; have HPO := Lib.hid hpo
          clear hC hpo hpos hown hrv hg1 ho hbel
          go_wp2_with fail
          refine (l3Of_c Av cv2 o _ fr HRV.out).mono ?_
          rintro e w2 ⟨rfl, hb2⟩
          have hg2 := (hb2.block _ (heap_lt HG1'.out)).trans HG1'.out
          have hB2 := HB1'.out.trans (hb2.mono HB1'.out.size)
          have hlt2 : w.heap.size < w2.heap.size := heap_lt hg2
          clear hb2
          have hg3 : (w2.alloc (obox o)).heap[w.heap.size]? = some (obox ⟨0, 0, 0, 0, 0, 0, 0⟩) := heap_old hg2
          have hS3 : S5 w w2.heap.size o (w2.alloc (obox o)) := ⟨below_more hB2 _, heap_new w2 _ rfl⟩
          have HG3 := Lib.hid hg3; have HS3 := Lib.hid hS3
          clear hg2 hg3 hB2 hS3
          go_upto_region 18 with (fail)
          generalize w2.alloc (obox o) = W3 at *
          have hg3 := HG3.out; have hS3 := HS3.out
          have hld : ∀ w', S5 w w2.heap.size o w' → w'.cell? ⟨w2.heap.size, 0, none⟩ = some (.int .i64 o.k) ∧ w'.cell? ⟨w2.heap.size, 1, none⟩ = some (.int .i64 o.rq) ∧ w'.cell? ⟨w2.heap.size, 2, none⟩ = some (.int .i64 o.lc) ∧ w'.cell? ⟨w2.heap.size, 3, none⟩ = some (.int .i64 o.tt) ∧ w'.cell? ⟨w2.heap.size, 4, none⟩ = some (.int .i64 o.sk) ∧ w'.cell? ⟨w2.heap.size, 5, none⟩ = some (.int .i64 o.qt) ∧ w'.cell? ⟨w2.heap.size, 6, none⟩ = some (.int .i64 o.hd) ∧ w2.heap.size < w'.heap.size := fun w' h => op_cells0 h.2
          have HLD := Lib.hid hld; clear hld
          refine wp_region_sched (fun w' => S5 w w2.heap.size o w') [(0, true), (1, false), (2, true), (3, false), (4, true)] (by kernel_rfl) (by kernel_rfl) (by kernel_rfl) (by kernel_rfl) (fun _ _ d _ _ h => by cases d <;> exact h) ⟨hS3.1.drew, hS3.2⟩ ?_
          simp only [opsOf, List.filterMap_cons, List.filterMap_nil, Option.map_some, List.getElem?_toArray, List.getElem?_cons_zero, List.getElem?_cons_succ]
          generalize hW0 : ({ heap := W3.heap, tape := W3.tape, drawn := W3.drawn + 1, os := W3.os, output := W3.output } : World) = v0
          have hv0 : S5 w w2.heap.size o v0 := by rw [← hW0]; exact ⟨hS3.1.drew, hS3.2⟩
          have hg0 : v0.heap[w.heap.size]? = some (obox ⟨0, 0, 0, 0, 0, 0, 0⟩) := by rw [← hW0]; exact hg3
          clear hW0
          refine sched_run (v := ?_) (by rfl) ?_ ?_
          rotate_left
          · (intro w' hS'; obtain ⟨a0, a1, a2, a3, a4, a5, a6, az⟩ := HLD.out w' hS'; go_simp; try with_reducible rfl)
          try simp only [Act.put, List.setIfInBounds_toArray, List.set_cons_zero, List.set_cons_succ]
          refine sched_call (by rfl) (fun K hK => ?_)
          go_simp
          refine (l3Fault_c w2.heap.size 0 o _ (opat_of hv0.2)).mono ?_
          rintro e v1 ⟨rfl, hbv0⟩
          have hv1 : S5 w w2.heap.size o v1 := hv0.call hbv0
          rw [HC.out]
          have hgs := (hbv0.block _ (heap_lt hg0)).trans hg0
          obtain ⟨z0, z1, z2, z3, z4, z5, z6, hz⟩ := op_cells0 hgs
          have zf : ∀ i, v1.frozen? ⟨w.heap.size, i, none⟩ = false := fun i => frozen_of_heap hgs
          clear hgs
          clear hbv0
          refine hK _ _ hv1 ?_
          try simp only [Act.put, List.setIfInBounds_toArray, List.set_cons_zero, List.set_cons_succ]
          refine sched_run (v := ?_) (by rfl) ?_ ?_
          rotate_left
          · (intro w' hS'; go_simp; try with_reducible rfl)
          try simp only [Act.put, List.setIfInBounds_toArray, List.set_cons_zero, List.set_cons_succ]
          refine sched_call (by rfl) (fun K hK => ?_)
          go_simp
          refine hK _ _ ?_ ?_
          · exact ((S5.set (S5.set (S5.set (S5.set (S5.set (S5.set (S5.set hv1 hlt2) hlt2) hlt2) hlt2) hlt2) hlt2) hlt2))
          try simp only [Act.put, List.setIfInBounds_toArray, List.set_cons_zero, List.set_cons_succ]
          refine sched_run (v := ?_) (by rfl) ?_ ?_
          rotate_left
          · (intro w' hS'; go_simp; try with_reducible rfl)
          try simp only [Act.put, List.setIfInBounds_toArray, List.set_cons_zero, List.set_cons_succ]
          refine sched_done ?_
          go_wp2_with fail
          refine bodyPost_ret (v := .tuple #[ov o, .bool (C == 0)]) (by simp [results, Tryd.results38, go_sem, z0, z1, z2, z3, z4, z5, z6]) rfl ⟨o, (C == 0), rfl, ?_, (S5.set (S5.set (S5.set (S5.set (S5.set (S5.set (S5.set hv1 hlt2) hlt2) hlt2) hlt2) hlt2) hlt2) hlt2).1⟩
          rw [HPO.out]
          by_cases h0 : C = 0
          · simp [h0]
          · simp [h0]

theorem l3Parse_c (s : ByteArray) (w : World) (hs : s.size ≤ 1048576) : Calls Tryd.prog 38 #[.string s] w (PsPost s.data.toList w) := by
  by_cases h7 : (cutL s.data.toList).length = 7
  · exact l3Parse_seven s w hs h7
  · exact l3Parse_short s w hs h7
end Go.Proofs.YtocllaendofndaaDoor
