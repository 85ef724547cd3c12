/-
  Contracts of the program's functions of chapter 3, eighth part: an operation out of its text, or a panic.
-/
import Derived.Test.YtocllaendofndaaDoorImpl3g
namespace Go.Proofs.YtocllaendofndaaDoor
open Go.RowKit

theorem list7 {vs : List Int} (h : vs.length = 7) : ∃ o, vs = opL o := by
  match vs, h with
  | [a, b, c, d, e, f, g], _ => exact ⟨⟨a, b, c, d, e, f, g⟩, rfl⟩
/-- A block of seven integers. -/
abbrev vbox (vs : List Int) : Obj := .cells (cellsOf .i64 vs).toArray 61
theorem set_at {w : World} {g k : Nat} {u : Value} {cs : Array Value} {t : TypeId} (h : w.heap[g]? = some (.cells cs t (0, 0))) : (w.setCell ⟨g, k, none⟩ u).heap[g]? = some (.cells (cs.setIfInBounds k u) t (0, 0)) := by
  unfold World.setCell
  simp only [Array.getElem?_modify, h]
  simp
theorem vbox_set {vs : List Int} {k : Nat} {v : Int} : ((cellsOf .i64 vs).toArray).setIfInBounds k (.int .i64 v) = (cellsOf .i64 (vs.set k v)).toArray := by
  unfold cellsOf
  rw [List.setIfInBounds_toArray, List.map_set]
/-- How far the numbers are read. -/
structure NumsAt (ps : List (List UInt8)) (k : Nat) (vs : List Int) : Prop where
  len : vs.length = 7
  wf : ∀ z ∈ vs, (Lit.int .i64 z).wf = true
  kind : vs[0]? = some (kindL (ps.getD 0 []))
  got : ∀ i (hi : i < ps.length) (hj : i < vs.length), 1 ≤ i → i < k → Lib.parseIntB 64 ps[i] = .ok vs[i]
theorem NumsAt.step {ps : List (List UInt8)} {k : Nat} {vs : List Int} (h : NumsAt ps k vs) (hk : 1 ≤ k) (hp : k < ps.length) {v : Int} (hv : Lib.parseIntB 64 ps[k] = .ok v) : NumsAt ps (k + 1) (vs.set k v) := by
  refine ⟨by rw [List.length_set]; exact h.len, ?_, ?_, ?_⟩
  · intro z hz
    rcases List.mem_or_eq_of_mem_set hz with hz | rfl
    · exact h.wf z hz
    · exact int_fits hv
  · rw [List.getElem?_set_ne (by omega)]; exact h.kind
  · intro i hi hj h1 hik
    rw [List.length_set] at hj
    by_cases e : i = k
    · subst e
      rw [List.getElem_set_self]; exact hv
    · rw [List.getElem_set_ne (fun h => e h.symm)]
      exact h.got i hi hj h1 (by omega)
theorem NumsAt.done {l : List UInt8} {ps : List (List UInt8)} (hc : cutL l = ps) (h7 : ps.length = 7) {o : O} (h : NumsAt ps 7 (opL o)) : parseO l = (if opF o = 0 ∧ textL o = l then some o else none) ∧ WfO o := by
  refine ⟨parse_back hc h7 ?_ (fun i hi hj h1 => h.got i hi hj h1 (by omega)), h.wf⟩
  have := h.kind
  match ps, h7 with
  | p :: t, _ => simpa [opL] using this.symm
theorem split_cells {w : World} {g N : Nat} {qs : List ByteArray} {t : TypeId} {ps : List (List UInt8)} (h : w.heap[g]? = some (.cells (Lib.cellsOf qs N) t (0, 0))) (hq : qs.map (·.data.toList) = ps) (i : Nat) (hi : i < ps.length) : w.cell? ⟨g, i, none⟩ = some (.string ⟨(ps[i]).toArray⟩) := by
  rw [cell_of_heap h]
  subst hq
  have hi' : i < qs.length := by simpa using hi
  simp [Lib.cellsOf, List.getElem?_append_left, hi']

set_option maxRecDepth 100000 in
set_option maxHeartbeats 8000000 in
theorem opInText_c (s : ByteArray) (w : World) (hs : s.size ≤ 1048576) (hl : Ld2 w) : Calls Tryd.prog 34 #[.string s] w (InPost (parseO s.data.toList) w) := by
  have hlen := str_len s
  have hsp := split_seven s.data.toList
  rw [hlen] at hsp
  have hqs := Lib.splitB_data ⟨#[32]⟩ 0 (min 8 (s.size + 1) - 1) s
  generalize hQ : Lib.splitB ⟨#[32]⟩ 0 (min 8 (s.size + 1) - 1) s = qs at hqs
  have hq8 : qs.length ≤ 8 := by
    have := Lib.splitB_length_le ⟨#[32]⟩ 0 (min 8 (s.size + 1) - 1) s
    rw [hQ] at this; omega
  generalize hL : s.data.toList = l at *
  have hqs' : qs.map (·.data.toList) = Lib.splitK [32] 0 (min 8 (s.size + 1) - 1) l := hqs
  obtain ⟨m, hm⟩ := (hl.below (below_new (obox o0))).ml
  have HM := Lib.hid hm; have HQ := Lib.hid hQ; have HL := Lib.hid hL; have HLD := Lib.hid hl
  clear hm hQ hL hqs hl
  by_cases h7 : qs.length = 7
  · have hc7 : (cutL l).length = 7 := by
      by_cases h : (cutL l).length = 7
      · exact h
      · have := hsp.2 h
        rw [← hqs', List.length_map] at this
        exact absurd h7 this
    have hpq : qs.map (·.data.toList) = cutL l := by rw [hqs']; exact hsp.1 hc7
    generalize hc : cutL l = ps at hc7 hpq
    have hsm : ∀ k (hk : k < ps.length), (ps[k]).length ≤ 1048576 := fun k hk => by
      have := cut_len (l := l) ps[k] (by rw [hc]; exact List.getElem_mem hk)
      omega
    have HC7 := Lib.hid hc7; have HPQ := Lib.hid hpq; have HC := Lib.hid hc; have HSM := Lib.hid hsm
    clear hc7 hpq hc hsm hsp hqs' hlen
    obtain ⟨p0, hp0⟩ : ∃ p0, ps[0]? = some p0 := ⟨ps[0]'(by rw [HC7.out]; omega), List.getElem?_eq_getElem (by rw [HC7.out]; omega)⟩
    have HP0 := Lib.hid hp0; clear hp0
    go_enter Tryd.func34, Tryd.ntmps34
    go_wp2_with fail
    refine (Any.strings_SplitN { Tryd.splitN with } Tryd.splitN.i9 s ⟨#[32]⟩ 8 m _ (by omega) HM.out (by decide) (by omega) (by omega)).mono ?_
    rw [HQ.out]
    rintro e w1 ⟨rfl, hw1⟩
    have hb1 : Below w.heap.size w w1 := by rw [hw1]; exact below_more (below_new _) _
    have hq1 : w1.heap[w.heap.size + 1]? = some (.cells (Lib.cellsOf qs (min 8 (s.size + 1))) (Tryd.splitN_ren.t 9) (0, 0)) := by rw [hw1]; exact heap_new _ _ (by simp)
    have hr1 : w1.heap[w.heap.size]? = some (obox o0) := by rw [hw1]; exact heap_old (heap_new w _ rfl)
    have hcs := split_cells hq1 HPQ.out
    have hz1 := heap_lt hq1
    rw [show (w.alloc (obox o0)).heap.size = w.heap.size + 1 by simp, h7]
    have hc0 : w1.cell? ⟨w.heap.size + 1, 0, none⟩ = some (.string ⟨p0.toArray⟩) := by
      have := hcs 0 (by rw [HC7.out]; omega)
      have e := HP0.out
      rw [List.getElem?_eq_getElem (by rw [HC7.out]; omega)] at e
      rw [Option.some.inj e] at this
      exact this
    have HB1 := Lib.hid hb1; have HR1 := Lib.hid hr1; have HCS := Lib.hid hcs
    have hld1 := HLD.out.below hb1
    have HLD1 := Lib.hid hld1
    clear hw1 hq1 hb1 hr1 hcs hld1 HM HLD
    generalize min 8 (s.size + 1) = cp
    go_wp2_with fail
    refine (mustBe_t _).mono ?_
    rintro e w2 ⟨rfl, hw2⟩
    rw [hw2]; clear hw2
    go_wp2_with fail
    refine (kindInText_c p0 _ HLD1.out.ld).mono ?_
    by_cases hk0 : kindL p0 = 0
    · have hp := parse_kind HC.out (by rw [HC7.out]; omega) (by
        have e := HP0.out
        rw [List.getElem?_eq_getElem (by rw [HC7.out]; omega)] at e
        rw [Option.some.inj e]; exact hk0)
      rw [if_pos hk0]
      rintro e w2 ⟨⟨pv, u, rfl⟩, hb2⟩
      have HP := Lib.hid hp
      have HB2 := Lib.hid (HB1.out.trans (hb2.mono HB1.out.size))
      clear hp hb2 hc0
      go_wp2_with fail
      exact ⟨rfl, by rw [HP.out]; exact ⟨_, _, rfl⟩, HB2.out⟩
    · rw [if_neg hk0]
      rintro e w2 ⟨rfl, hb2⟩
      generalize hK : kindL p0 = kk at hk0
      have hr2 := (hb2.block _ (heap_lt HR1.out)).trans HR1.out
      have hst : NumsAt ps 1 [kk, 0, 0, 0, 0, 0, 0] := by
        refine ⟨rfl, ?_, ?_, fun i _ _ h1 h2 => by omega⟩
        · have hwk := (word_kind (w := p0) (by rw [hK]; exact hk0)).2
          rw [hK] at hwk
          intro z hz
          have : z = kk ∨ z = 0 := by simpa using hz
          rcases this with rfl | rfl
          · simp [Lit.wf, IntKind.min, IntKind.max, IntKind.bits, IntKind.signed]; omega
          · rfl
        · rw [List.getD_eq_getElem?_getD, HP0.out, ← hK]; rfl
      have HB2 := Lib.hid (HB1.out.trans (hb2.mono HB1.out.size)); have HST := Lib.hid hst; have HR2 := Lib.hid hr2
      have hcs2 : ∀ i (hi : i < ps.length), w2.cell? ⟨w.heap.size + 1, i, none⟩ = some (.string ⟨(ps[i]).toArray⟩) := fun i hi => (hb2.cell (p := ⟨_, _, none⟩) hz1).trans (HCS.out i hi)
      have hz2 : w.heap.size + 1 < w2.heap.size := Nat.lt_of_lt_of_le hz1 hb2.size
      have HCS2 := Lib.hid hcs2
      have HLD2 := Lib.hid (HLD1.out.below hb2)
      clear hb2 hc0 hst hr2 hK hcs2 HCS HB1 HR1 HLD1 hk0
      go_wp2_with fail
      go_loopw [5] (fun i wr => ∃ (k : Nat) (vs : List Int), 1 ≤ k ∧ k ≤ 7 ∧ i = .int .i64 (k : Int) ∧ NumsAt ps k vs ∧ wr.heap[w2.heap.size]? = some (vbox vs) ∧ Below w2.heap.size w2 wr) (fun i _ => 7 - (intOf i).toNat)
      case atStart => exact ⟨1, _, by omega, by omega, rfl, HST.out, heap_new w2 _ rfl, below_new _⟩
      case round =>
        obtain ⟨k, vs, hk1, hk7, rfl, hat, hnb, hbel⟩ := hrel
        by_cases hlt : k < 7
        · have hlt' : (k : Int) < 7 := by omega
          have hkp : k < ps.length := by rw [HC7.out]; exact hlt
          have hck : wr.cell? ⟨w.heap.size + 1, k, none⟩ = some (.string ⟨(ps[k]).toArray⟩) := (hbel.cell (p := ⟨_, _, none⟩) hz2).trans (HCS2.out k hkp)
          have hzr : w.heap.size + 1 < wr.heap.size := Nat.lt_of_lt_of_le hz2 hbel.size
          have hld := HLD2.out.below hbel
          have HB := Lib.hid hbel; have HAT := Lib.hid hat; have HNB := Lib.hid hnb; have HL2 := Lib.hid hld
          clear hbel hat hnb hld
          go_wp2_with fail
          refine (numberInText_c ps[k] _ (HSM.out k hkp) HL2.out).mono ?_
          cases hpi : pint ps[k] with
          | none =>
            have hp := parse_neg HC.out HC7.out hk1 hkp (pint_none hpi)
            rintro e w3 ⟨⟨pv, u, rfl⟩, hb3⟩
            have HP := Lib.hid hp
            have HB3 := Lib.hid ((HB2.out.trans (HB.out.mono HB2.out.size)).trans (hb3.mono (Nat.le_trans HB2.out.size HB.out.size)))
            clear hp hb3 hck hpi
            go_wp2_with fail
            exact ⟨rfl, by rw [HP.out]; exact ⟨_, _, rfl⟩, HB3.out⟩
          | some v =>
            have hst := HAT.out.step hk1 hkp (pint_ok hpi)
            rintro e w3 ⟨rfl, hb3⟩
            have hnb3 := (hb3.block _ (heap_lt HNB.out)).trans HNB.out
            have hkv : k < vs.length := by rw [HAT.out.len]; exact hlt
            have hnc : w3.cell? ⟨w2.heap.size, k, none⟩ = some (.int .i64 vs[k]) := by
              rw [cell_of_heap hnb3]; simp [cellsOf, List.getElem?_map, List.getElem?_eq_getElem hkv]
            have hnf : w3.frozen? ⟨w2.heap.size, k, none⟩ = false := frozen_of_heap hnb3
            have hnz := heap_lt hnb3
            have hset : (w3.setCell ⟨w2.heap.size, k, none⟩ (.int .i64 v)).heap[w2.heap.size]? = some (vbox (vs.set k v)) := by
              rw [set_at hnb3, vbox_set]
            have HST2 := Lib.hid hst; have HSET := Lib.hid hset
            have HB3 := Lib.hid (HB.out.trans (hb3.mono HB.out.size))
            clear hst hset hb3 hnb3 hpi hck HB HAT HNB HL2
            go_wp2_with fail
            exact ⟨⟨k + 1, _, by omega, by omega, by go_num, HST2.out, HSET.out, below_set HB3.out _ _⟩, by simp [intOf]; omega⟩
        · obtain rfl : k = 7 := by omega
          obtain ⟨o, rfl⟩ := op_of hat.len
          obtain ⟨hpo, hwf⟩ := hat.done HC.out HC7.out
          have hnb' : wr.heap[w2.heap.size]? = some (nbox o) := hnb
          obtain ⟨c0, c1, c2, c3, c4, c5, c6, cz⟩ : wr.cell? ⟨w2.heap.size, 0, none⟩ = some (.int .i64 o.k) ∧ wr.cell? ⟨w2.heap.size, 1, none⟩ = some (.int .i64 o.rq) ∧ wr.cell? ⟨w2.heap.size, 2, none⟩ = some (.int .i64 o.lc) ∧ wr.cell? ⟨w2.heap.size, 3, none⟩ = some (.int .i64 o.tt) ∧ wr.cell? ⟨w2.heap.size, 4, none⟩ = some (.int .i64 o.sk) ∧ wr.cell? ⟨w2.heap.size, 5, none⟩ = some (.int .i64 o.qt) ∧ wr.cell? ⟨w2.heap.size, 6, none⟩ = some (.int .i64 o.hd) ∧ w2.heap.size < wr.heap.size :=
            ⟨cell_of_heap hnb', cell_of_heap hnb', cell_of_heap hnb', cell_of_heap hnb', cell_of_heap hnb', cell_of_heap hnb', cell_of_heap hnb', heap_lt hnb'⟩
          have hr3 := (hbel.block _ (heap_lt HR2.out)).trans HR2.out
          have hld := HLD2.out.below hbel
          have HB := Lib.hid (HB2.out.trans (hbel.mono HB2.out.size)); have HPO := Lib.hid hpo; have HWF := Lib.hid hwf; have HL2 := Lib.hid hld; have HR3 := Lib.hid hr3
          clear hbel hpo hwf hnb' hnb hat hld hr3
          go_wp2_with fail
          refine (opOf_c o _).mono ?_
          rintro e w3 ⟨rfl, hb3⟩
          have hr3 := (hb3.block _ (heap_lt HR3.out)).trans HR3.out
          have hld3 := (HL2.out.below hb3).below (below_new (obox o))
          have hr4 : (w3.alloc (obox o)).heap[w.heap.size]? = some (obox o0) := heap_old hr3
          have ho4 := heap_new w3 (obox o) rfl
          have HB3 := Lib.hid (below_more (HB.out.trans (hb3.mono HB.out.size)) (obox o)); have HL3 := Lib.hid hld3; have HR4 := Lib.hid hr4; have HO4 := Lib.hid ho4
          have hlt3 : w.heap.size < w3.heap.size := heap_lt hr3
          clear hb3 hr3 hld3 c0 c1 c2 c3 c4 c5 c6 cz hr4 ho4
          go_wp2_with fail
          generalize w3.alloc (obox o) = W4 at *
          refine (implOpText_a o _ HWF.out HL3.out.ld).mono ?_
          rintro e w5 ⟨rfl, hb5⟩
          have hr5 := (hb5.block _ (heap_lt HR4.out)).trans HR4.out
          have ho5 := (hb5.block _ (heap_lt HO4.out)).trans HO4.out
          have HB5 := Lib.hid (HB3.out.trans (hb5.mono HB3.out.size))
          obtain ⟨d0, d1, d2, d3, d4, d5, d6, dz⟩ := op_cells0 ho5
          obtain ⟨z0, z1, z2, z3, z4, z5, z6, hz⟩ := op_cells0 hr5
          have zf : ∀ i, w5.frozen? ⟨w.heap.size, i, none⟩ = false := fun i => frozen_of_heap hr5
          have hsl : s.toList = l := by rw [ByteArray.toList_eq]; exact HL.out
          clear hb5 ho5 hr5
          by_cases h0 : opF o = 0
          · have e1 : otL o = textL o := by unfold otL; rw [if_pos h0]
            by_cases ht : textL o = l
            · have hp : parseO l = some o := by rw [HPO.out, if_pos ⟨h0, ht⟩]
              have ht' : otL o = s.toList := by rw [e1, hsl]; exact ht
              have HP := Lib.hid hp
              rw [h0]
              clear hp HPO e1 ht hsl h0
              go_wp2_with fail
              refine (mustBe_t _).mono ?_
              rintro e w6 ⟨rfl, hw6⟩
              rw [hw6]; clear hw6
              go_wp2_with fail
              exact bodyPost_ret (v := ov o) (by simp [results, Tryd.results34, go_sem, z0, z1, z2, z3, z4, z5, z6]) rfl ⟨by rw [HP.out], below_set (below_set (below_set (below_set (below_set (below_set (below_set HB5.out _ _) _ _) _ _) _ _) _ _) _ _) _ _⟩
            · have hp : parseO l = none := by rw [HPO.out, if_neg (fun h => ht h.2)]
              have ht' : ¬ otL o = s.toList := by rw [e1, hsl]; exact ht
              have HP := Lib.hid hp
              rw [h0]
              clear hp HPO e1 ht hsl h0
              go_wp2_with fail
              refine (mustBe_f _).mono ?_
              rintro e w6 ⟨rfl, hw6⟩
              rw [hw6]; clear hw6
              go_wp2_with fail
              exact ⟨rfl, by rw [HP.out]; exact ⟨_, _, rfl⟩, HB5.out⟩
          · have hp : parseO l = none := by rw [HPO.out, if_neg (fun h => h0 h.1)]
            have HP := Lib.hid hp
            generalize opF o = C at *
            clear hp HPO hsl
            go_wp2_with fail
            refine (mustBe_f _).mono ?_
            rintro e w6 ⟨rfl, hw6⟩
            rw [hw6]; clear hw6
            go_wp2_with fail
            exact ⟨rfl, by rw [HP.out]; exact ⟨_, _, rfl⟩, HB5.out⟩
  · have hp := parse_short (l := l) (fun h => h7 (by
      have := congrArg List.length (hsp.1 h)
      rw [← hqs', List.length_map] at this
      omega))
    have HP := Lib.hid hp
    have h7' : ((qs.length : Int) == 7) = false := by simp; omega
    clear hp hsp hqs'
    go_enter Tryd.func34, Tryd.ntmps34
    go_wp2_with fail
    refine (Any.strings_SplitN { Tryd.splitN with } Tryd.splitN.i9 s ⟨#[32]⟩ 8 m _ (by omega) HM.out (by decide) (by omega) (by omega)).mono ?_
    rw [HQ.out]
    rintro e w1 ⟨rfl, hw1⟩
    have hb1 : Below w.heap.size w w1 := by rw [hw1]; exact below_more (below_new _) _
    have HB1 := Lib.hid hb1
    clear hw1 hb1
    generalize min 8 (s.size + 1) = cp
    go_wp2_with fail
    refine (mustBe_f _).mono ?_
    rintro e w2 ⟨rfl, hw2⟩
    rw [hw2]; clear hw2
    go_wp2_with fail
    exact ⟨rfl, by rw [HP.out]; exact ⟨_, _, rfl⟩, HB1.out⟩
end Go.Proofs.YtocllaendofndaaDoor
