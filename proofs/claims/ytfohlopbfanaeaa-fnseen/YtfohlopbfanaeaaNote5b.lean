/-
  The model's l5Note once more: what it answers may be appended to.
-/
import Derived.Test.YtfohlopbfanaeaaAppA
import Derived.Test.YtfohlopbfanaeaaNote5
namespace Go.Proofs.Ytfohlopbfanaeaa
open Go.RowKit

/-- What is answered: a slice in new memory that reads as the list and may be appended to. -/
def APost (w : World) (l : List Sn) (e : Ending) (w' : World) : Prop :=
  ∃ v g off cap, e = .returned v ∧ OwnA w' (w.heap.size + 1) 2 v l.length (ecs sc l) g off cap ∧ Below w.heap.size w w'

set_option maxRecDepth 100000 in
set_option maxHeartbeats 4000000 in
theorem l5Note_a (A : Option Addr) (c : Nat) (l : List Sn) (x : Sn) (w : World) (fp : List Nat) (hl : l.length ≤ 1000) (ha : Rd w 2 (.slice A l.length c) (ecs sc l) fp) :
    Calls Try.prog 77 #[.slice A l.length c, sv x] w (APost w (if l.length < 6 then l ++ [x] else (l ++ [x]).drop 1)) := by
  obtain ⟨i0, hi, hz, hsz, hby⟩ := infoSeen
  have HA := Lib.hid ha; clear ha
  generalize hR : (if l.length < 6 then l ++ [x] else (l ++ [x]).drop 1) = R
  have HR := Lib.hid hR; clear hR
  go_enter Try.func77, Try.ntmps77
  go_upto_region 1 with (fail)
  have hz1 : (w.alloc (.cells #[.int .i64 x.rq, .int .i64 x.vl] 64)).heap.size = w.heap.size + 1 := by simp
  have hg0 := heap_new w (.cells #[.int .i64 x.rq, .int .i64 x.vl] 64) rfl
  have HAW := Lib.hid (HA.out.alloc (.cells #[.int .i64 x.rq, .int .i64 x.vl] 64))
  have HBW := Lib.hid (below_new (w := w) (.cells #[.int .i64 x.rq, .int .i64 x.vl] 64))
  generalize w.alloc (.cells #[.int .i64 x.rq, .int .i64 x.vl] 64) = W at *
  obtain ⟨x0, x1, _, _, hzx⟩ := pair_at5 hg0
  have HZ := Lib.hid hz1
  clear hz1 hg0
  have ow : ∀ (X : World), w.heap.size + 1 ≤ X.heap.size → (X.alloc (.cells #[] 64)).ownsRow (w.heap.size + 1) 64 2 (.slice (some ⟨X.heap.size, 0, none⟩) 0 0) 0 [] := fun X h => own_emptyE 2 h
  have ow3 : ∀ (o : Obj), ((W.alloc o).alloc (.cells #[] 64)).ownsRow (w.heap.size + 1) 64 2 (.slice (some ⟨W.heap.size + 1, 0, none⟩) 0 0) 0 [] := fun o => by
    have := own_emptyE (w := W.alloc o) (t := 64) (base := w.heap.size + 1) 2 (by have := HZ.out; simp <;> omega)
    simpa using this
  have OW := Lib.hid ow; have OW3 := Lib.hid ow3; clear ow ow3
  go_cut [5] (fun p wc => Hid (Noted w l x p wc))
  case first =>
    have hle : w.heap.size + 1 ≤ W.heap.size := Nat.le_of_eq HZ.out.symm
    go_region_law (first
      | (refine step_append_rd rfl (.tmp 6) (.tmp 7) 46 rfl (w.heap.size + 1) 64 i0 (sv ⟨0, 0⟩) 2 16 Try.underlying46 hi hz hsz hby rfl (by decide) _ 0 [] rfl (by first | exact OW.out W hle | exact (OW.out W hle).alloc _ | exact OW3.out _) A l.length c (ecs sc l) fp rfl (by first | exact HAW.out.alloc _ | exact (HAW.out.alloc _).alloc _) (scs_one l) (by unfold maxLen; omega) (by omega) (by simp <;> omega) ?_
         intro v1 w1 hown1 hgrow1
         simp only [Nat.zero_add, List.nil_append] at hown1
         have hb1 : Below W.heap.size W w1 := Below.grown (by first | exact ((Below.refl _ _).alloc (Nat.le_refl _) _).drew | exact (((Below.refl _ _).alloc (Nat.le_refl _) _).alloc (by simp) _).drew) hgrow1 (by simp <;> omega) (fun k hk => by first | (have h' : some W.heap.size = some k := hk; injection h' with h'; omega) | (have h' : some (W.heap.size + 1) = some k := hk; injection h' with h'; omega))
         have y0 := (hb1.cell (p := ⟨w.heap.size, 0, none⟩) hzx).trans x0
         have y1 := (hb1.cell (p := ⟨w.heap.size, 1, none⟩) hzx).trans x1
         have HGR := Lib.hid hgrow1
         clear hgrow1)
      | (refine step_append_rd rfl (.tmp 8) (.tmp 10) 46 rfl (w.heap.size + 1) 64 i0 (sv ⟨0, 0⟩) 2 16 Try.underlying46 hi hz hsz hby rfl (by decide) _ l.length (ecs sc l) rfl (by first | exact hown1 | exact hown1.alloc _) _ 1 1 (sc x) _ rfl (by first | exact rd_one (heap_new w1 _ rfl) | exact rd_one ((HGR.out.block (W.heap.size + 1) (by simp) (by simp [Act.eval, Value.ownBlock])).trans (heap_new (W.alloc _) _ (by simp))) | exact rd_one ((HGR.out.block W.heap.size (by simp <;> omega) (by simp [Act.eval, Value.ownBlock])).trans (heap_old (heap_new W _ rfl)))) (sc_one x) (by unfold maxLen; omega) (by omega) (by have := hb1.size; simp; omega) ?_
         intro v2 w2 hown2 hgrow2))
    all_goals
      go_wp2_with fail
      go_meet
      refine ⟨?_, HBW.out.trans ((Below.grown (by first | exact below_more hb1 _ | exact hb1) hgrow2 (by have := hb1.size; simp <;> omega) (fun k hk => ?_)).mono HBW.out.size)⟩
      · rw [ecs_append, show ecs sc [x] = sc x by simp [ecs]]; exact hown2
      · have := own_baseE hown1 hk; have := HZ.out; omega
  case rest =>
    obtain ⟨ho, hbl⟩ := hcut.out
    have HBL := Lib.hid hbl
    obtain ⟨g0, cap0, hv0, _⟩ := own_form ho (by omega)
    obtain ⟨g, cap, hoa⟩ := OwnA.of_own ho (by rw [hv0]; simp)
    clear hv0
    have hfo := hoa.form
    subst hfo
    have hcap := hoa.nc
    have hcm := hoa.cm
    have hl7 : l.length + 1 = (l ++ [x]).length := by simp
    clear hcut hbl ho
    have ⟨Y, hY⟩ : ∃ y, y = wc := ⟨_, rfl⟩
    subst hY
    clear x0 x1 hzx
    unfold maxLen at hcm
    by_cases h6 : l.length < 6
    · have hR : R = l ++ [x] := by rw [← HR.out, if_pos h6]
      subst hR
      have t1 : ¬ (6 : Int) < ((l.length + 1 : Nat) : Int) := by omega
      have HX := Lib.hid hoa
      clear hoa hl7
      go_wp2
      go_ret
      exact ⟨_, g, 0, cap, rfl, by simpa using HX.out, HBL.out⟩
    · have hR : R = (l ++ [x]).drop 1 := by rw [← HR.out, if_neg h6]
      have HRR := Lib.hid hR
      have t1 : (6 : Int) < ((l.length + 1 : Nat) : Int) := by omega
      have hdr := hoa.drop sc_len hl7 (k := 1) (by omega)
      have hdr2 : OwnA Y (w.heap.size + 1) 2 (.slice (some ⟨g, 2, none⟩) l.length (cap - 1)) R.length (ecs sc R) g 2 (cap - 1) := by
        rw [HRR.out]
        have e1 : ((l ++ [x]).drop 1).length = l.length := by simp
        rw [e1]; simpa using hdr
      have HX := Lib.hid hdr2
      have i0 : (1 : Int) ≤ ((l.length + 1 : Nat) : Int) := by omega
      have i1 : ((l.length + 1 : Nat) : Int) ≤ (cap : Int) := by omega
      clear hoa hl7 hdr hdr2 hR
      go_wp2
      go_ret
      exact ⟨_, g, 2, cap - 1, rfl, HX.out, HBL.out⟩

end Go.Proofs.Ytfohlopbfanaeaa
