/-
  The model's functions of chapter 6, fifth part: rows laid into files.
-/
import Derived.Test.YtldimfmhbdhbnaaGreatG11
import Derived.Test.YtldimfmhbdhbnaaGreatG48
import Derived.Test.YtldimfmhbdhbnaaGreatG24
import Derived.Test.YtldimfmhbdhbnaaGreatModel6
import Derived.Test.YtldimfmhbdhbnaaGreatG23
namespace Go.Proofs.YtldimfmhbdhbnaaGreat
open Go.RowKit

def solidL (rs : List R) : List R := rs.filter fun r => !emptyB r
theorem solid_succ (rs : List R) (k : Nat) (h : k < rs.length) : solidL (rs.take (k + 1)) = solidL (rs.take k) ++ (if emptyB rs[k] then [] else [rs[k]]) := by
  unfold solidL
  rw [List.take_succ_eq_append_getElem h, List.filter_append]
  cases he : emptyB rs[k] <;> simp [he]
theorem solid_len (rs : List R) (k : Nat) : (solidL (rs.take k)).length ≤ rs.length := by
  unfold solidL
  exact Nat.le_trans (List.length_filter_le _ _) (by rw [List.length_take]; omega)

set_option maxRecDepth 100000 in
set_option maxHeartbeats 2000000 in
theorem l6Solid_c (A : Option Addr) (c : Nat) (rs : List R) (w : World) (fp : List Nat) (hs : rs.length ≤ 1000000) (ha : Rd w 4 (.slice A rs.length c) (rcs rs) fp) :
    Calls Tryz.prog 71 #[.slice A rs.length c] w (RowsPost w (solidL rs)) := by
  have hlt0 := ha.lt
  have HL := Lib.hid hlt0; clear hlt0
  obtain ⟨i0, hi, hz, hsz, hby⟩ := infoRow
  go_enter Tryz.func71, Tryz.ntmps71
  go_wp2
  go_loopw [3, 4] (fun v i wr => ∃ k n : Nat, k ≤ rs.length ∧ n ≤ 1000000 ∧ i = .int .i64 k ∧ wr.ownsRow w.heap.size 40 4 v n (rcs (solidL (rs.take k))) ∧ Below w.heap.size w wr) (fun _ i _ => rs.length - (intOf i).toNat)
  case atStart => exact ⟨0, 0, Nat.zero_le _, by omega, rfl, own_emptyR (Nat.le_refl _), below_new _⟩
  case round =>
    obtain ⟨k, n, hk, hn, rfl, hown, hbel⟩ := hrel
    have hsize := hbel.size
    by_cases hlt : k < rs.length
    · obtain ⟨b, off, hA, _, _, p0, p1, p2, p3⟩ := (ha.below hbel HL.out).row_at hlt
      subst hA
      have hra : RowAt wr b (off + k * 4) rs[k] := ⟨p0, p1, p2, p3⟩
      have hcs := solid_succ rs k hlt
      have HCS := Lib.hid hcs; clear hcs
      have hrow : ∀ g, u3.ownBlock = some g → w.heap.size ≤ g := fun g hg => own_base' hown hg
      have HR := Lib.hid hrow; clear hrow
      generalize rs[k] = r at *
      go_wp2_with fail
      refine (l6Nothing_c b (off + k * 4) r _ hra).mono ?_
      rintro e w1 ⟨rfl, hw⟩
      subst hw
      clear hra
      cases h1 : emptyB r
      · have hcs := HCS.out
        rw [h1] at hcs
        simp only [Bool.false_eq_true, if_false] at hcs
        have HC2 := Lib.hid hcs; clear hcs HCS
        have hown1 : (wr.alloc (.cells #[.int .i64 r.1, .int .i64 r.2.1, .int .i64 r.2.2.1, .int .i64 r.2.2.2] 40)).ownsRow w.heap.size 40 4 u3 n (rcs (solidL (rs.take k))) := World.ownsRow.alloc hown _
        have hbel1 := below_more hbel (.cells #[.int .i64 r.1, .int .i64 r.2.1, .int .i64 r.2.2.1, .int .i64 r.2.2.2] 40)
        have HO1 := Lib.hid hown1; have HB1 := Lib.hid hbel1
        clear hown hbel hown1 hbel1
        go_wp2_with (at_builtin; refine wpList_append_own _ rfl _ _ 24 rfl w.heap.size 40 i0 (rv (0, 0, 0, 0)) 4 32 Tryz.underlying24 hi hz hsz hby rfl (by decide) _ _ _ rfl HO1.out ⟨wr.heap.size, 0, none⟩ 1 1 (rc r) rfl rfl ?c1 ?c2 ?c3 ?c4 ?c5 ?_)
        case c1 => exact rc_new (w := wr) r
        case c2 => exact rc_one r
        case c3 => unfold maxLen; omega
        case c4 => omega
        case c5 => have := HB1.out.size; exact this
        intro v' w2 hown2 hgrow _
        have hbel2 := HB1.out.grown hgrow HB1.out.size HR.out
        have hown3 : w2.ownsRow w.heap.size 40 4 v' (n + 1) (rcs (solidL (rs.take (k + 1)))) := by rw [HC2.out, rcs_append]; exact hown2
        have hln := hown3.1
        rw [rcs_length] at hln
        have hl2 := solid_len rs (k + 1)
        have hn1 : n + 1 ≤ 1000000 := by omega
        have HO := Lib.hid hown3; have HBL := Lib.hid hbel2
        clear hown2 hown3 hbel2 hgrow hln hl2
        go_wp2_with fail
        exact ⟨⟨k + 1, n + 1, by omega, hn1, by go_num, HO.out, HBL.out⟩, by simp [intOf]; omega⟩
      · have hcs := HCS.out
        rw [h1] at hcs
        simp only [if_true, List.append_nil] at hcs
        have HC2 := Lib.hid hcs; clear hcs HCS
        have hown3 : wr.ownsRow w.heap.size 40 4 u3 n (rcs (solidL (rs.take (k + 1)))) := by rw [HC2.out]; exact hown
        have HO := Lib.hid hown3; have HBL := Lib.hid hbel
        clear hown hown3 hbel
        go_wp2_with fail
        exact ⟨⟨k + 1, n, by omega, hn, by go_num, HO.out, HBL.out⟩, by simp [intOf]; omega⟩
    · obtain rfl : k = rs.length := by omega
      rw [List.take_length] at hown
      obtain ⟨fq, hrv, hnv, hfv⟩ := Rd.of_own hown
      have HB := Lib.hid hbel; have HOW := Lib.hid hown; clear hbel hown
      go_wp2
      go_ret
      exact ⟨_, fq, rfl, hrv, hnv, hfv, HB.out, _, _, Nat.le_refl _, HOW.out⟩

/-- Rows by their place. -/
def laid (s : List R) : List (List R) := (List.range 4).map fun (i : Nat) => s.filter fun r => r.1 == (i : Int)
theorem laid_len (s : List R) : (laid s).length = 4 := by simp [laid]
theorem laid_get (s : List R) (i : Nat) (h : i < (laid s).length) : (laid s)[i] = s.filter fun r => r.1 == (i : Int) := by simp [laid]
theorem laid_solid (rs : List R) : laid (solidL rs) = filesOf rs := by
  unfold laid filesOf solidL
  refine List.map_congr_left fun i _ => ?_
  rw [List.filter_filter]
  rfl
theorem laid_step (s : List R) (k : Nat) (h : k < s.length) (j : Nat) (hj : j < (laid (s.take k)).length) (e : s[k].1 = (j : Int)) : laid (s.take (k + 1)) = (laid (s.take k)).set j ((laid (s.take k))[j] ++ [s[k]]) := by
  apply List.ext_getElem
  · simp [laid]
  · intro i h1 h2
    rw [laid_get]
    rw [List.take_succ_eq_append_getElem h, List.filter_append]
    by_cases hij : j = i
    · subst hij
      rw [List.getElem_set_self, laid_get]
      simp [e]
    · rw [List.getElem_set_ne hij, laid_get]
      have : (s[k].1 == (i : Int)) = false := by rw [e]; simp; omega
      simp [this]
theorem but_grown {bs : List Nat} {a w w' : World} {row : Option Nat} (h : But bs a w) (hg : w.grownBy w' row) (hrow : ∀ k, row = some k → a.heap.size ≤ k) : But bs a w' :=
  ⟨hg.os.trans h.os, hg.tape.trans h.tape, hg.output.trans h.output, Nat.le_trans h.size hg.size, fun k hk hn => (hg.block k (Nat.lt_of_lt_of_le hk h.size) (fun e => by have := hrow k e.symm; omega)).trans (h.block k hk hn)⟩
end Go.Proofs.YtldimfmhbdhbnaaGreat

/-
  The model's functions of chapter 6, sixth part: rows laid into files, the walk.
-/
namespace Go.Proofs.YtldimfmhbdhbnaaGreat
open Go.RowKit

/-- What l6Of makes: four files that are the call's own. -/
def OfPost (w : World) (rs : List R) (m : Int) (e : Ending) (w' : World) : Prop :=
  ∃ (g B : Nat) (vs : List Value), e = .returned (plv m (.slice (some ⟨g, 0, none⟩) 4 4)) ∧ w'.heap[g]? = some (.cells vs.toArray 24 (0, 0)) ∧ OwnF w' B vs (filesOf rs) 40 ∧ w.heap.size ≤ g ∧ g < B ∧ Below w.heap.size w w'

theorem OfPost.reads {w' : World} {rs : List R} {m : Int} {g B : Nat} {vs : List Value} (HG : w'.heap[g]? = some (.cells vs.toArray 24 (0, 0))) (ho : OwnF w' B vs (filesOf rs) 40) (hgB : g < B) :
    ∃ fp, PlAt w' ⟨filesOf rs, m⟩ (.slice (some ⟨g, 0, none⟩) 4 4) fp ∧ NF w' fp ∧ From g fp ∧ fp.Nodup := by
  obtain ⟨fs, ha3, hn3, hf3, hd3⟩ := ho.reads
  have hvl : vs.length = 4 := by rw [ho.len, filesOf_len]
  have hfl : (vs.map fun v => [v]).flatten = vs := by
    clear ho ha3 HG hvl
    induction vs with
    | nil => rfl
    | cons a t ih => rw [List.map_cons, List.flatten_cons, ih]; rfl
  have hrd : Rd w' 1 (.slice (some ⟨g, 0, none⟩) 4 4) (vs.map fun v => [v]).flatten [g] := by
    refine ⟨_, 4, 4, rfl, by rw [hfl, hvl], by unfold maxLen; omega, by omega, .inr ⟨_, 0, rfl, rfl, heap_lt HG, fun i u hu => ?_⟩⟩
    rw [hfl] at hu
    rw [Nat.zero_add, cell_of_heap HG, List.getElem?_toArray]
    exact hu
  refine ⟨[g] ++ fs.flatten, ⟨⟨_, _, fs, hrd, ha3, rfl⟩⟩, fun x hx i => ?_, fun x hx => ?_, List.nodup_append.2 ⟨by simp, hd3, fun a ha b hb => ?_⟩⟩
  · rcases List.mem_append.1 hx with hx | hx
    · simp at hx; subst hx; exact frozen_of_heap HG
    · exact hn3 x hx i
  · rcases List.mem_append.1 hx with hx | hx
    · simp at hx; omega
    · have := hf3 x hx; omega
  · have := hf3 b hb; simp at ha; omega
theorem OfPost.copy {w w' : World} {rs : List R} {m : Int} {e : Ending} (h : OfPost w rs m e w') : CopyPlaces w ⟨filesOf rs, m⟩ e w' := by
  obtain ⟨g, B, vs, rfl, HG, ho, hg, hgB, hb⟩ := h
  obtain ⟨fp, k1, k2, k3, k4⟩ := OfPost.reads (m := m) HG ho hgB
  exact ⟨_, fp, rfl, k1, k2, ⟨k3.mono hg, k4⟩, hb⟩

set_option maxRecDepth 100000 in
set_option maxHeartbeats 4000000 in
theorem l6Of_o (A : Option Addr) (c : Nat) (rs : List R) (m : Int) (w : World) (fp : List Nat) (hs : rs.length ≤ 12) (hfit : Fits rs) (ha : Rd w 4 (.slice A rs.length c) (rcs rs) fp) :
    Calls Tryz.prog 100 #[.slice A rs.length c, .int .i64 m] w (OfPost w rs m) := by
  obtain ⟨i0, hi, hz, hsz, hby⟩ := infoRow
  have hmk : ∀ W : World, (Instr.makeSlice 30 (.int .i64 4) (.int .i64 4)).run Tryz.prog W = .ok (.slice (some ⟨W.heap.size, 0, none⟩) 4 4) (W.alloc (.cells (madeCells #[.slice none 0 0] 4) 24)) := fun W => makeRowSS 4 (by omega) W
  have hsl := solid_len rs rs.length
  rw [List.take_length] at hsl
  have hsf : Hid (∀ k (h : k < (solidL rs).length), ∃ j : Nat, j < 4 ∧ (solidL rs)[k].1 = j) := fun k h => by
    have hm : (solidL rs)[k] ∈ solidL rs := List.getElem_mem h
    unfold solidL at hm
    obtain ⟨i, hi, e⟩ := List.mem_iff_getElem.1 (List.mem_filter.1 hm).1
    have hf := hfit i hi
    rw [e] at hf
    exact ⟨((solidL rs)[k].1).toNat, by unfold Fit at hf; unfold solidL; omega, by unfold Fit at hf; unfold solidL; omega⟩
  have HLA : Hid (laid (solidL rs) = filesOf rs) := laid_solid rs
  have HA := Lib.hid ha
  clear ha hfit
  go_enter Tryz.func100, Tryz.ntmps100
  go_wp2_with fail
  clear hmk
  have HB0 := Lib.hid (below_more (below_more (below_new (w := w) (.cells #[.slice none 0 0, .int .i64 0] 32)) (.cells (madeCells #[.slice none 0 0] 4) 24)) (.cells #[.slice (some ⟨w.heap.size + 1, 0, none⟩) 4 4, .int .i64 m] 32))
  have G0 := Lib.hid (heap_old (o' := .cells #[.slice (some ⟨w.heap.size + 1, 0, none⟩) 4 4, .int .i64 m] 32) (heap_old (o' := .cells (madeCells #[.slice none 0 0] 4) 24) (heap_new w (.cells #[.slice none 0 0, .int .i64 0] 32) rfl)))
  have G1 := Lib.hid (heap_old (o' := .cells #[.slice (some ⟨w.heap.size + 1, 0, none⟩) 4 4, .int .i64 m] 32) (heap_new (w.alloc (.cells #[.slice none 0 0, .int .i64 0] 32)) (.cells (madeCells #[.slice none 0 0] 4) 24) (g := w.heap.size + 1) (by simp)))
  have G2 := Lib.hid (heap_new ((w.alloc (.cells #[.slice none 0 0, .int .i64 0] 32)).alloc (.cells (madeCells #[.slice none 0 0] 4) 24)) (.cells #[.slice (some ⟨w.heap.size + 1, 0, none⟩) 4 4, .int .i64 m] 32) (g := w.heap.size + 1 + 1) (by simp))
  generalize (((w.alloc (.cells #[.slice none 0 0, .int .i64 0] 32)).alloc (.cells (madeCells #[.slice none 0 0] 4) 24)).alloc (.cells #[.slice (some ⟨w.heap.size + 1, 0, none⟩) 4 4, .int .i64 m] 32)) = W at *
  refine (l6Solid_c A c rs W fp (by omega) (HA.out.below' HB0.out)).mono ?_
  rintro e X ⟨v1, f1, rfl, hr1, hn1, hf1, hb1, _⟩
  obtain ⟨A1, c1, rfl⟩ := hr1.rows_form
  have HB1 := Lib.hid (HB0.out.trans (hb1.mono HB0.out.size))
  have H0 := Lib.hid ((hb1.block _ (heap_lt G0.out)).trans G0.out)
  have H1 := Lib.hid ((hb1.block _ (heap_lt G1.out)).trans G1.out)
  have H2 := Lib.hid ((hb1.block _ (heap_lt G2.out)).trans G2.out)
  have hz2 := heap_lt G2.out
  have HF1 : Hid (∀ x ∈ f1, x ∉ [w.heap.size + 1]) := fun x hx he => by have := hf1 x hx; simp at he; omega
  have HRS := Lib.hid hr1
  have HZX := Lib.hid (Nat.lt_of_lt_of_le hz2 hb1.size)
  clear hr1 hn1 hf1 hb1 hz2 G0 G1 G2 HB0
  generalize solidL rs = S at *
  have hmax := HRS.out.len_le
  go_wp2_with fail
  go_loopw [7] (fun i wr => ∃ k : Nat, k ≤ S.length ∧ i = .int .i64 k ∧ ∃ vs : List Value, Hid (OwnF wr X.heap.size vs (laid (S.take k)) 40) ∧ Hid (wr.heap[w.heap.size + 1]? = some (.cells vs.toArray 24 (0, 0))) ∧ Hid (But [w.heap.size + 1] X wr)) (fun i _ => S.length - (intOf i).toNat)
  case atStart =>
    refine ⟨0, Nat.zero_le _, rfl, List.replicate 4 (.slice none 0 0), Lib.hid ⟨by simp [laid], fun j hj => ?_, fun i j vi vj g _ h1 _ h2 => ?_⟩, Lib.hid ?_, Lib.hid (But.refl _ _)⟩
    · rw [laid_len] at hj
      refine ⟨.slice none 0 0, 0, by rw [List.getElem?_replicate, if_pos hj], ?_⟩
      rw [laid_get]
      exact World.ownsRow_nil _ _ _ _
    · have := List.mem_of_getElem? h1
      rw [List.mem_replicate] at this
      rw [this.2] at h2
      simp [Value.ownBlock] at h2
    · rw [H1.out, madeNils]
      rfl
  case round =>
    obtain ⟨k, hk, rfl, vs, HO, HG, HBT⟩ := hrel
    have HGS := Lib.hid (HBT.out.heap H2.out (by simp))
    by_cases hlt : k < S.length
    · obtain ⟨b, off, hA, _, hbl, p0, p1, p2, p3⟩ := (HRS.out.but HBT.out HF1.out).row_at hlt
      subst hA
      obtain ⟨j, hj, hje⟩ := hsf.out k hlt
      have hjl : j < (laid (S.take k)).length := by rw [laid_len]; exact hj
      have hrc : ∀ w', But [w.heap.size + 1] X w' → w'.cell? ⟨b, off + k * 4, none⟩ = some (.int .i64 S[k].1) ∧ w'.cell? ⟨b, off + k * 4 + 1, none⟩ = some (.int .i64 S[k].2.1) ∧ w'.cell? ⟨b, off + k * 4 + 2, none⟩ = some (.int .i64 S[k].2.2.1) ∧ w'.cell? ⟨b, off + k * 4 + 3, none⟩ = some (.int .i64 S[k].2.2.2) := fun w' h => by
        obtain ⟨b', off', e, _, _, x0, x1, x2, x3⟩ := (HRS.out.but h HF1.out).row_at hlt
        injection e with e; injection e with e1 e2 _; subst e1 e2
        exact ⟨x0, x1, x2, x3⟩
      have HRC := Lib.hid hrc
      clear hrc
      have hst := laid_step S k hlt j hjl hje
      have HST := Lib.hid hst
      clear hst
      generalize S[k] = r at *
      obtain ⟨r0, r1, r2, r3⟩ := r
      simp only at hje p0 p1 p2 p3
      subst hje
      obtain ⟨vj, nj, hvj, hown⟩ := HO.out.own j hjl
      have HVJ := Lib.hid hvj; have HOJ := Lib.hid hown
      have hnj : nj ≤ 1000 := by
        have h1 := hown.1
        rw [rcs_length, laid_get] at h1
        have h2 := List.length_filter_le (fun r : R => r.1 == (j : Int)) (S.take k)
        rw [List.length_take] at h2
        omega
      have HNJ := Lib.hid hnj
      clear hnj
      have hvl : vs.length = 4 := by rw [HO.out.len, laid_len]
      have q0 : wr.cell? ⟨w.heap.size + 1, j, none⟩ = some vj := by
        rw [cell_of_heap HG.out, List.getElem?_toArray]; exact hvj
      have qf : wr.frozen? ⟨w.heap.size + 1, j, none⟩ = false := frozen_of_heap HG.out
      obtain ⟨g0, g1, _, _, gz⟩ := two_at HGS.out
      have hqz := heap_lt HG.out
      have j0 : (0 : Int) ≤ (j : Int) := by omega
      have j4 : (j : Int) < 4 := by omega
      clear hvj hown hvl
      go_wp2_with fail
      have hld : ∀ w', But [w.heap.size + 1] X w' → w'.cell? ⟨w.heap.size + 1 + 1, 0, none⟩ = some (.slice (some ⟨w.heap.size + 1, 0, none⟩) 4 4) ∧ w'.cell? ⟨b, off + k * 4, none⟩ = some (.int .i64 (j : Int)) ∧ w'.cell? ⟨b, off + k * 4 + 1, none⟩ = some (.int .i64 r1) ∧ w'.cell? ⟨b, off + k * 4 + 2, none⟩ = some (.int .i64 r2) ∧ w'.cell? ⟨b, off + k * 4 + 3, none⟩ = some (.int .i64 r3) := fun w' h =>
        ⟨cell_of_heap (h.heap H2.out (by simp)), HRC.out w' h⟩
      have HLD := Lib.hid hld
      clear hld g0 g1 gz p0 p1 p2 p3 hbl
      refine wp_region_stps (fun w' => But [w.heap.size + 1] X w') [.run 0, .run 1, .run 2, .run 3, .run 4, .run 5, .run 6, .run 7, .run 8, .run 9, .run 10, .run 11, .run 12, .run 13, .run 14, .run 16, .run 17, .run 18, .run 19, .two 15 20, .one 21, .run 22, .one 23] (by kernel_rfl) (by kernel_rfl) (by kernel_rfl) (by kernel_rfl) (fun _ _ d _ _ h => by cases d <;> exact h) (HBT.out.drewN 1) ?_
      simp only [stpsOf, stpOf, List.filterMap_cons, List.filterMap_nil, Option.map_some, Option.bind_some, List.getElem?_toArray, List.getElem?_cons_zero, List.getElem?_cons_succ]
      generalize hW0 : ({ heap := wr.heap, tape := wr.tape, drawn := wr.drawn + 1, os := wr.os, output := wr.output } : World) = v0
      have HBT0 : Hid (But [w.heap.size + 1] X v0) := by rw [← hW0]; exact HBT.out.drewN 1
      have HG0 : Hid (v0.heap[w.heap.size + 1]? = some (.cells vs.toArray 24 (0, 0))) := by rw [← hW0]; exact HG.out
      have HO0 : Hid (OwnF v0 X.heap.size vs (laid (S.take k)) 40) := by rw [← hW0]; exact HO.out.kept fun v n xs h => h
      have HOJ0 : Hid (v0.ownsRow X.heap.size 40 4 vj nj (rcs (laid (S.take k))[j])) := by rw [← hW0]; exact HOJ.out
      have q00 : v0.cell? ⟨w.heap.size + 1, j, none⟩ = some vj := by rw [← hW0]; exact q0
      clear hW0 q0 qf hqz HGS HBT HG HO HOJ
      refine stp_run (v := ?_) (by rfl) ?_ ?_
      rotate_left
      · (intro w' hS'; go_simp; try with_reducible rfl)
      try simp only [Act.put, List.setIfInBounds_toArray, List.set_cons_zero, List.set_cons_succ]
      refine stp_run (v := ?_) (by rfl) ?_ ?_
      rotate_left
      · (intro w' hS'; obtain ⟨l0, l1, l2, l3, l4⟩ := HLD.out w' hS'; go_simp; try with_reducible rfl)
      try simp only [Act.put, List.setIfInBounds_toArray, List.set_cons_zero, List.set_cons_succ]
      refine stp_run (v := ?_) (by rfl) ?_ ?_
      rotate_left
      · (intro w' hS'; go_simp; try with_reducible rfl)
      try simp only [Act.put, List.setIfInBounds_toArray, List.set_cons_zero, List.set_cons_succ]
      refine stp_run (v := ?_) (by rfl) ?_ ?_
      rotate_left
      · (intro w' hS'; go_simp; try with_reducible rfl)
      try simp only [Act.put, List.setIfInBounds_toArray, List.set_cons_zero, List.set_cons_succ]
      refine stp_run (v := ?_) (by rfl) ?_ ?_
      rotate_left
      · (intro w' hS'; go_simp; try with_reducible rfl)
      try simp only [Act.put, List.setIfInBounds_toArray, List.set_cons_zero, List.set_cons_succ]
      refine stp_run (v := ?_) (by rfl) ?_ ?_
      rotate_left
      · (intro w' hS'; go_simp; try with_reducible rfl)
      try simp only [Act.put, List.setIfInBounds_toArray, List.set_cons_zero, List.set_cons_succ]
      refine stp_run (v := ?_) (by rfl) ?_ ?_
      rotate_left
      · (intro w' hS'; obtain ⟨l0, l1, l2, l3, l4⟩ := HLD.out w' hS'; go_simp; try with_reducible rfl)
      try simp only [Act.put, List.setIfInBounds_toArray, List.set_cons_zero, List.set_cons_succ]
      refine stp_run (v := ?_) (by rfl) ?_ ?_
      rotate_left
      · (intro w' hS'; go_simp; try with_reducible rfl)
      try simp only [Act.put, List.setIfInBounds_toArray, List.set_cons_zero, List.set_cons_succ]
      refine stp_run (v := ?_) (by rfl) ?_ ?_
      rotate_left
      · (intro w' hS'; obtain ⟨l0, l1, l2, l3, l4⟩ := HLD.out w' hS'; go_simp; try with_reducible rfl)
      try simp only [Act.put, List.setIfInBounds_toArray, List.set_cons_zero, List.set_cons_succ]
      refine stp_run (v := ?_) (by rfl) ?_ ?_
      rotate_left
      · (intro w' hS'; go_simp; try with_reducible rfl)
      try simp only [Act.put, List.setIfInBounds_toArray, List.set_cons_zero, List.set_cons_succ]
      refine stp_run (v := ?_) (by rfl) ?_ ?_
      rotate_left
      · (intro w' hS'; go_simp; try with_reducible rfl)
      try simp only [Act.put, List.setIfInBounds_toArray, List.set_cons_zero, List.set_cons_succ]
      refine stp_run (v := ?_) (by rfl) ?_ ?_
      rotate_left
      · (intro w' hS'; go_simp; try with_reducible rfl)
      try simp only [Act.put, List.setIfInBounds_toArray, List.set_cons_zero, List.set_cons_succ]
      refine stp_run (v := ?_) (by rfl) ?_ ?_
      rotate_left
      · (intro w' hS'; go_simp; try with_reducible rfl)
      try simp only [Act.put, List.setIfInBounds_toArray, List.set_cons_zero, List.set_cons_succ]
      refine stp_run (v := ?_) (by rfl) ?_ ?_
      rotate_left
      · (intro w' hS'; obtain ⟨l0, l1, l2, l3, l4⟩ := HLD.out w' hS'; go_simp; try with_reducible rfl)
      try simp only [Act.put, List.setIfInBounds_toArray, List.set_cons_zero, List.set_cons_succ]
      refine stp_run (v := ?_) (by rfl) ?_ ?_
      rotate_left
      · (intro w' hS'; go_simp; try with_reducible rfl)
      try simp only [Act.put, List.setIfInBounds_toArray, List.set_cons_zero, List.set_cons_succ]
      refine stp_run (v := ?_) (by rfl) ?_ ?_
      rotate_left
      · (intro w' hS'; go_simp; try with_reducible rfl)
      try simp only [Act.put, List.setIfInBounds_toArray, List.set_cons_zero, List.set_cons_succ]
      refine stp_run (v := ?_) (by rfl) ?_ ?_
      rotate_left
      · (intro w' hS'; go_simp; try with_reducible rfl)
      try simp only [Act.put, List.setIfInBounds_toArray, List.set_cons_zero, List.set_cons_succ]
      refine stp_run (v := ?_) (by rfl) ?_ ?_
      rotate_left
      · (intro w' hS'; go_simp; try with_reducible rfl)
      try simp only [Act.put, List.setIfInBounds_toArray, List.set_cons_zero, List.set_cons_succ]
      refine stp_run (v := ?_) (by rfl) ?_ ?_
      rotate_left
      · (intro w' hS'; obtain ⟨l0, l1, l2, l3, l4⟩ := HLD.out w' hS'; go_simp; try with_reducible rfl)
      try simp only [Act.put, List.setIfInBounds_toArray, List.set_cons_zero, List.set_cons_succ]
      refine stp_two (by rfl) (by rfl) (fun K hK => ?_) (fun K hK => ?_)
      · go_simp
        refine hK _ _ HBT0.out (by rfl) (fun K' hK' => ?_)
        go_simp
        refine hK' _ _ (HBT0.out.alloc _) ?_
        try simp only [Act.put, List.setIfInBounds_toArray, List.set_cons_zero, List.set_cons_succ]
        refine stp_one (by rfl) (fun K2 hK2 => ?_)
        refine wp_append_o (.tmp 34) (.tmp 39) 24 rfl X.heap.size 40 i0 (rv (0, 0, 0, 0)) 4 32 Tryz.underlying24 hi hz hsz hby rfl (by decide) vj nj _ rfl (HOJ0.out.alloc _) ⟨v0.heap.size, 0, none⟩ 1 1 (rc ((j : Int), r1, r2, r3)) rfl rfl (rc_new ((j : Int), r1, r2, r3)) (rc_one _) ?c1 ?c2 ?c3 (by omega) ?_
        case c1 => have := HNJ.out; unfold maxLen; omega
        case c2 => have := HNJ.out; omega
        case c3 => have := HBT0.out.size; simp; omega
        intro v2 w2 hown2 hgrow2 hwh
        have hb2 : But [w.heap.size + 1] X w2 := but_grown (HBT0.out.alloc (.cells #[.int .i64 (j : Int), .int .i64 r1, .int .i64 r2, .int .i64 r3] 40)) hgrow2 (fun g hg => own_base' (HOJ0.out.alloc (.cells #[.int .i64 (j : Int), .int .i64 r1, .int .i64 r2, .int .i64 r3] 40)) hg)
        have hg2 : w2.heap[w.heap.size + 1]? = some (.cells vs.toArray 24 (0, 0)) := (hgrow2.block _ (Nat.lt_of_lt_of_le (heap_lt HG0.out) (by simp)) (fun e => by have := own_base' HOJ0.out e.symm; have := HZX.out; omega)).trans (heap_old HG0.out)
        have ho2 := OwnF.step (HO0.out.kept fun v n xs h => h.alloc (.cells #[.int .i64 (j : Int), .int .i64 r1, .int .i64 r2, .int .i64 r3] 40)) hjl HVJ.out (l' := (laid (S.take k))[j] ++ [((j : Int), r1, r2, r3)]) (n := nj + 1) (by rw [rcs_append]; exact hown2) hgrow2 hwh
        rw [← HST.out] at ho2
        have q2 : w2.cell? ⟨w.heap.size + 1, j, none⟩ = some vj := by rw [cell_of_heap hg2, List.getElem?_toArray]; exact HVJ.out
        have qf2 : w2.frozen? ⟨w.heap.size + 1, j, none⟩ = false := frozen_of_heap hg2
        have qz2 := heap_lt hg2
        obtain ⟨gv, cv, hv2⟩ : ∃ g cap, v2 = .slice (some ⟨g, 0, none⟩) (nj + 1) cap := by
          rcases hown2.2 with ⟨_, h⟩ | ⟨g, cap, cur, h, _⟩
          · omega
          · exact ⟨g, cap, h⟩
        subst hv2
        have HB2 := Lib.hid hb2; have HG2 := Lib.hid hg2; have HO2 := Lib.hid ho2
        clear hb2 hg2 ho2 hown2 hgrow2 hwh
        refine hK2 _ _ HB2.out ?_
        try simp only [Act.put, List.setIfInBounds_toArray, List.set_cons_zero, List.set_cons_succ]
        refine stp_run (v := ?_) (by rfl) ?_ ?_
        rotate_left
        · (intro w' hS'; go_simp; try with_reducible rfl)
        try simp only [Act.put, List.setIfInBounds_toArray, List.set_cons_zero, List.set_cons_succ]
        refine stp_one (by rfl) (fun K3 hK3 => ?_)
        go_simp
        have hb3 := HB2.out.setCell (p := ⟨w.heap.size + 1, j, none⟩) (by simp) (.slice (some ⟨gv, 0, none⟩) (nj + 1) cv)
        refine hK3 _ _ hb3 ?_
        refine stp_done ?_
        have hg3 := heap_set1 (i := j) (v := .slice (some ⟨gv, 0, none⟩) (nj + 1) cv) HG2.out
        rw [List.setIfInBounds_toArray] at hg3
        have ho3 := HO2.out.kept (w' := w2.setCell ⟨w.heap.size + 1, j, none⟩ (.slice (some ⟨gv, 0, none⟩) (nj + 1) cv)) fun v n xs h => h.kept (row := some (w.heap.size + 1)) ⟨rfl, rfl, rfl, by simp [World.setCell], fun x _ hx => Below.heap_setCell _ _ _ _ (fun e => hx (by rw [e]))⟩ (by
          cases hv : v.ownBlock with
          | none => exact .inl rfl
          | some g => exact .inr fun e => by have := own_base' h hv; injection e with e; have := HZX.out; omega)
        have HG3 := Lib.hid hg3; have HO3 := Lib.hid ho3; have HB3 := Lib.hid hb3
        clear hg3 ho3 hb3
        go_wp2_with fail
        exact ⟨⟨k + 1, by omega, by go_num, _, HO3, HG3, HB3⟩, by simp [intOf]; omega⟩
      · go_simp
        have q01 : (v0.alloc (.cells #[.int .i64 (j : Int), .int .i64 r1, .int .i64 r2, .int .i64 r3] 40)).cell? ⟨w.heap.size + 1, j, none⟩ = some vj := (Below.cell (w := v0) (below_new _) (heap_lt HG0.out)).trans q00
        refine hK _ _ (HBT0.out.alloc _) (by rfl) (fun K' hK' => ?_)
        go_simp
        refine hK' _ _ (HBT0.out.alloc _) ?_
        try simp only [Act.put, List.setIfInBounds_toArray, List.set_cons_zero, List.set_cons_succ]
        refine stp_one (by rfl) (fun K2 hK2 => ?_)
        refine wp_append_o (.tmp 34) (.tmp 39) 24 rfl X.heap.size 40 i0 (rv (0, 0, 0, 0)) 4 32 Tryz.underlying24 hi hz hsz hby rfl (by decide) vj nj _ rfl (HOJ0.out.alloc _) ⟨v0.heap.size, 0, none⟩ 1 1 (rc ((j : Int), r1, r2, r3)) rfl rfl (rc_new ((j : Int), r1, r2, r3)) (rc_one _) ?c1 ?c2 ?c3 (by omega) ?_
        case c1 => have := HNJ.out; unfold maxLen; omega
        case c2 => have := HNJ.out; omega
        case c3 => have := HBT0.out.size; simp; omega
        intro v2 w2 hown2 hgrow2 hwh
        have hb2 : But [w.heap.size + 1] X w2 := but_grown (HBT0.out.alloc (.cells #[.int .i64 (j : Int), .int .i64 r1, .int .i64 r2, .int .i64 r3] 40)) hgrow2 (fun g hg => own_base' (HOJ0.out.alloc (.cells #[.int .i64 (j : Int), .int .i64 r1, .int .i64 r2, .int .i64 r3] 40)) hg)
        have hg2 : w2.heap[w.heap.size + 1]? = some (.cells vs.toArray 24 (0, 0)) := (hgrow2.block _ (Nat.lt_of_lt_of_le (heap_lt HG0.out) (by simp)) (fun e => by have := own_base' HOJ0.out e.symm; have := HZX.out; omega)).trans (heap_old HG0.out)
        have ho2 := OwnF.step (HO0.out.kept fun v n xs h => h.alloc (.cells #[.int .i64 (j : Int), .int .i64 r1, .int .i64 r2, .int .i64 r3] 40)) hjl HVJ.out (l' := (laid (S.take k))[j] ++ [((j : Int), r1, r2, r3)]) (n := nj + 1) (by rw [rcs_append]; exact hown2) hgrow2 hwh
        rw [← HST.out] at ho2
        have q2 : w2.cell? ⟨w.heap.size + 1, j, none⟩ = some vj := by rw [cell_of_heap hg2, List.getElem?_toArray]; exact HVJ.out
        have qf2 : w2.frozen? ⟨w.heap.size + 1, j, none⟩ = false := frozen_of_heap hg2
        have qz2 := heap_lt hg2
        obtain ⟨gv, cv, hv2⟩ : ∃ g cap, v2 = .slice (some ⟨g, 0, none⟩) (nj + 1) cap := by
          rcases hown2.2 with ⟨_, h⟩ | ⟨g, cap, cur, h, _⟩
          · omega
          · exact ⟨g, cap, h⟩
        subst hv2
        have HB2 := Lib.hid hb2; have HG2 := Lib.hid hg2; have HO2 := Lib.hid ho2
        clear hb2 hg2 ho2 hown2 hgrow2 hwh
        refine hK2 _ _ HB2.out ?_
        try simp only [Act.put, List.setIfInBounds_toArray, List.set_cons_zero, List.set_cons_succ]
        refine stp_run (v := ?_) (by rfl) ?_ ?_
        rotate_left
        · (intro w' hS'; go_simp; try with_reducible rfl)
        try simp only [Act.put, List.setIfInBounds_toArray, List.set_cons_zero, List.set_cons_succ]
        refine stp_one (by rfl) (fun K3 hK3 => ?_)
        go_simp
        have hb3 := HB2.out.setCell (p := ⟨w.heap.size + 1, j, none⟩) (by simp) (.slice (some ⟨gv, 0, none⟩) (nj + 1) cv)
        refine hK3 _ _ hb3 ?_
        refine stp_done ?_
        have hg3 := heap_set1 (i := j) (v := .slice (some ⟨gv, 0, none⟩) (nj + 1) cv) HG2.out
        rw [List.setIfInBounds_toArray] at hg3
        have ho3 := HO2.out.kept (w' := w2.setCell ⟨w.heap.size + 1, j, none⟩ (.slice (some ⟨gv, 0, none⟩) (nj + 1) cv)) fun v n xs h => h.kept (row := some (w.heap.size + 1)) ⟨rfl, rfl, rfl, by simp [World.setCell], fun x _ hx => Below.heap_setCell _ _ _ _ (fun e => hx (by rw [e]))⟩ (by
          cases hv : v.ownBlock with
          | none => exact .inl rfl
          | some g => exact .inr fun e => by have := own_base' h hv; injection e with e; have := HZX.out; omega)
        have HG3 := Lib.hid hg3; have HO3 := Lib.hid ho3; have HB3 := Lib.hid hb3
        clear hg3 ho3 hb3
        go_wp2_with fail
        exact ⟨⟨k + 1, by omega, by go_num, _, HO3, HG3, HB3⟩, by simp [intOf]; omega⟩
    · obtain rfl : k = S.length := by omega
      have ho := HO.out
      rw [List.take_length, HLA.out] at ho
      have hxz := HZX.out
      have hg0 := HBT.out.heap H0.out (by simp)
      obtain ⟨y0, y1, z0, z1, yz⟩ := two_at hg0
      obtain ⟨g0, g1, _, _, gz⟩ := two_at HGS.out
      have hb3 : Below w.heap.size w wr := HB1.out.trans (HBT.out.below HB1.out.size (by intro x hx; simp at hx; omega))
      have HX := Lib.hid (And.intro ho hb3)
      clear ho hb3 hg0
      go_wp2_with fail
      refine bodyPost_ret (v := plv m (.slice (some ⟨w.heap.size + 1, 0, none⟩) 4 4)) (by simp [results, Tryz.results100, go_sem, y0, y1]) rfl ?_
      obtain ⟨k1, k5⟩ := HX.out
      have hbut := ((But.refl [w.heap.size] wr).setCell (p := ⟨w.heap.size, 0, none⟩) (by simp) (.slice (some ⟨w.heap.size + 1, 0, none⟩) 4 4)).setCell (p := ⟨w.heap.size, 1, none⟩) (by simp) (.int .i64 m)
      refine ⟨w.heap.size + 1, X.heap.size, vs, rfl, hbut.heap HG.out (by simp), k1.kept fun v n xs h => ?_, by omega, by omega, k5.trans (hbut.below k5.size (fun x hx => by simp at hx; omega))⟩
      refine h.kept (row := some w.heap.size) ⟨hbut.os, hbut.tape, hbut.output, hbut.size, fun x hx hne => hbut.block x hx (by simp; intro e; exact hne (by rw [e]))⟩ ?_
      cases hv : v.ownBlock with
      | none => exact .inl rfl
      | some g => exact .inr fun e => by have := own_base' h hv; injection e with e; omega
theorem l6Of_c (A : Option Addr) (c : Nat) (rs : List R) (m : Int) (w : World) (fp : List Nat) (hs : rs.length ≤ 12) (hfit : Fits rs) (ha : Rd w 4 (.slice A rs.length c) (rcs rs) fp) :
    Calls Tryz.prog 100 #[.slice A rs.length c, .int .i64 m] w (CopyPlaces w ⟨filesOf rs, m⟩) :=
  (l6Of_o A c rs m w fp hs hfit ha).mono fun _ _ h => h.copy
end Go.Proofs.YtldimfmhbdhbnaaGreat
