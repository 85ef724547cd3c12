/-
  Contracts of the model's functions of chapter 2, third part: cutting, putting, joining.
-/
import Derived.Test.YtoabohllphoioaaSpec2b
import Derived.Laws.AppendOwn
namespace Go.Proofs.Ytoabohllphoioaa
open Go.RowKit

/-- What a call answers that gives rows in memory of its own. -/
def RowsPost (w : World) (rs : List R) (e : Ending) (w' : World) : Prop :=
  ∃ v fp, e = .returned v ∧ Rd w' 4 v (rcs rs) fp ∧ NF w' fp ∧ From w.heap.size fp ∧ Below w.heap.size w w' ∧ ∃ n B, w.heap.size ≤ B ∧ w'.ownsRow B 34 4 v n (rcs rs)

theorem own_emptyR {w : World} {t : TypeId} {base : Nat} (hb : base ≤ w.heap.size) : (w.alloc (.cells #[] t)).ownsRow base t 4 (.slice (some ⟨w.heap.size, 0, none⟩) 0 0) 0 [] :=
  ⟨rfl, .inr ⟨w.heap.size, 0, #[], rfl, hb, heap_new w _ rfl, by omega, by unfold maxLen; omega, rfl, rfl⟩⟩
theorem rc_one (r : R) : ∀ u ∈ rc r, u.oneCell' = true := by intro u hu; simp [rc] at hu; rcases hu with rfl | rfl | rfl | rfl <;> rfl
theorem rcs_one (rs : List R) : ∀ u ∈ rcs rs, u.oneCell' = true := by
  intro u hu
  obtain ⟨r, _, hr⟩ := List.mem_flatMap.1 hu
  exact rc_one r u hr
theorem rc_new {w : World} {t : TypeId} (r : R) : ∀ j u, (rc r)[j]? = some u → (w.alloc (.cells #[.int .i64 r.1, .int .i64 r.2.1, .int .i64 r.2.2.1, .int .i64 r.2.2.2] t)).cell? ((⟨w.heap.size, 0, none⟩ : Addr).add j) = some u := by
  intro j u hu
  have e : (⟨w.heap.size, 0, none⟩ : Addr).add j = ⟨w.heap.size, j, none⟩ := by unfold Addr.add; split <;> simp_all
  rw [e, cell_of_heap (heap_new w _ rfl)]
  rw [← hu]
  unfold rc
  exact List.getElem?_toArray
theorem own_base' {w : World} {base : Nat} {e : TypeId} {size n g : Nat} {v : Value} {xs : List Value} (h : w.ownsRow base e size v n xs) (hg : v.ownBlock = some g) : base ≤ g := by
  rcases h.2 with ⟨rfl, _⟩ | ⟨g', cap, cur, rfl, hb, _⟩
  · simp [Value.ownBlock] at hg
  · simp [Value.ownBlock] at hg; omega

def cutR (rs : List R) (f t : Int) : List R := rs.filter fun r => decide (f ≤ keyR r) && decide (keyR r < t)
theorem cutR_succ (rs : List R) (f t : Int) (k : Nat) (h : k < rs.length) : cutR (rs.take (k + 1)) f t = cutR (rs.take k) f t ++ (if f ≤ keyR rs[k] ∧ keyR rs[k] < t then [rs[k]] else []) := by
  unfold cutR
  rw [List.take_succ_eq_append_getElem h, List.filter_append]
  by_cases h1 : f ≤ keyR rs[k] <;> by_cases h2 : keyR rs[k] < t <;> simp [h1, h2]
theorem cutR_len (rs : List R) (f t : Int) (k : Nat) : (cutR (rs.take k) f t).length ≤ rs.length := by
  unfold cutR
  exact Nat.le_trans (List.length_filter_le _ _) (by rw [List.length_take]; omega)

set_option maxRecDepth 100000 in
set_option maxHeartbeats 2000000 in
theorem l2Cut_c (A : Option Addr) (c : Nat) (rs : List R) (f t : Int) (w : World) (fp : List Nat) (hs : rs.length ≤ 1000000) (hfit : Fits rs) (ha : Rd w 4 (.slice A rs.length c) (rcs rs) fp) :
    Calls Try.prog 72 #[.slice A rs.length c, .int .i64 f, .int .i64 t] w (RowsPost w (cutR rs f t)) := by
  have hlt0 := ha.lt
  have HL := Lib.hid hlt0; clear hlt0
  have HFT := Lib.hid hfit; clear hfit
  obtain ⟨i0, hi, hz, hsz, hby⟩ := infoRow
  go_enter Try.func72, Try.ntmps72
  go_wp2
  go_loopw [7, 8] (fun v i wr => ∃ k n : Nat, k ≤ rs.length ∧ n ≤ 1000000 ∧ i = .int .i64 k ∧ wr.ownsRow w.heap.size 34 4 v n (rcs (cutR (rs.take k) f t)) ∧ Below w.heap.size w wr) (fun _ i _ => rs.length - (intOf i).toNat)
  case atStart => exact ⟨0, 0, Nat.zero_le _, by omega, rfl, own_emptyR (Nat.le_refl _), below_new _⟩
  case round =>
    obtain ⟨k, n, hk, hn, rfl, hown, hbel⟩ := hrel
    have hsize := hbel.size
    by_cases hlt : k < rs.length
    · obtain ⟨b, off, hA, _, _, p0, p1, p2, p3⟩ := (ha.below hbel HL.out).row_at hlt
      subst hA
      obtain ⟨f0, f1, f2, f3⟩ := HFT.out k hlt
      have hra : RowAt wr b (off + k * 4) rs[k] := ⟨p0, p1, p2, p3⟩
      have hcs := cutR_succ rs f t k hlt
      have HCS := Lib.hid hcs; clear hcs
      have hrow : ∀ g, u7.ownBlock = some g → w.heap.size ≤ g := fun g hg => own_base' hown hg
      have HR := Lib.hid hrow; clear hrow
      generalize rs[k] = r at *
      go_wp2_with fail
      refine (l2Key_c b (off + k * 4) r _ hra f0 f1 f2 f3).mono ?_
      rintro e w1 ⟨rfl, m, rfl⟩
      clear hra
      by_cases h1 : f ≤ keyR r
      · by_cases h2 : keyR r < t
        · have hcs := HCS.out
          rw [if_pos ⟨h1, h2⟩] at hcs
          have HC2 := Lib.hid hcs; clear hcs HCS
          have hown1 : ((wr.drewN m).alloc (.cells #[.int .i64 r.1, .int .i64 r.2.1, .int .i64 r.2.2.1, .int .i64 r.2.2.2] 34)).ownsRow w.heap.size 34 4 u7 n (rcs (cutR (rs.take k) f t)) := World.ownsRow.alloc (w := wr.drewN m) hown _
          have hbel1 := below_more (below_drewN' hbel m) (.cells #[.int .i64 r.1, .int .i64 r.2.1, .int .i64 r.2.2.1, .int .i64 r.2.2.2] 34)
          have HO1 := Lib.hid hown1; have HB1 := Lib.hid hbel1
          clear hown hbel hown1 hbel1
          go_wp2_with (at_builtin; refine wpList_append_own _ rfl _ _ 29 rfl w.heap.size 34 i0 (rv (0, 0, 0, 0)) 4 32 Try.underlying29 hi hz hsz hby rfl (by decide) _ _ _ rfl HO1.out ⟨wr.heap.size, 0, none⟩ 1 1 (rc r) rfl rfl ?c1 ?c2 ?c3 ?c4 ?c5 ?_)
          case c1 => exact rc_new (w := wr.drewN m) r
          case c2 => exact rc_one r
          case c3 => unfold maxLen; omega
          case c4 => omega
          case c5 => have := HB1.out.size; exact this
          intro v' w2 hown2 hgrow _
          have hbel2 := HB1.out.grown hgrow HB1.out.size HR.out
          have hown3 : w2.ownsRow w.heap.size 34 4 v' (n + 1) (rcs (cutR (rs.take (k + 1)) f t)) := by rw [HC2.out, rcs_append]; exact hown2
          have hln := hown3.1
          rw [rcs_length] at hln
          have hl2 := cutR_len rs f t (k + 1)
          have hn1 : n + 1 ≤ 1000000 := by omega
          have HO := Lib.hid hown3; have HBL := Lib.hid hbel2
          clear hown2 hown3 hbel2 hgrow hln hl2
          go_wp2_with fail
          exact ⟨⟨k + 1, n + 1, by omega, hn1, by go_num, HO.out, HBL.out⟩, by simp [intOf]; omega⟩
        · have hcs := HCS.out
          rw [if_neg (fun h => h2 h.2), List.append_nil] at hcs
          have HC2 := Lib.hid hcs; clear hcs HCS
          have hown3 : (wr.drewN m).ownsRow w.heap.size 34 4 u7 n (rcs (cutR (rs.take (k + 1)) f t)) := by rw [HC2.out]; exact hown
          have HO := Lib.hid hown3; have HBL := Lib.hid (below_drewN' hbel m)
          clear hown hown3 hbel
          go_wp2_with fail
          exact ⟨⟨k + 1, n, by omega, hn, by go_num, HO.out, HBL.out⟩, by simp [intOf]; omega⟩
      · have hcs := HCS.out
        rw [if_neg (fun h => h1 h.1), List.append_nil] at hcs
        have HC2 := Lib.hid hcs; clear hcs HCS
        have hown3 : (wr.drewN m).ownsRow w.heap.size 34 4 u7 n (rcs (cutR (rs.take (k + 1)) f t)) := by rw [HC2.out]; exact hown
        have HO := Lib.hid hown3; have HBL := Lib.hid (below_drewN' hbel m)
        clear hown hown3 hbel
        go_wp2_with fail
        exact ⟨⟨k + 1, n, by omega, hn, by go_num, HO.out, HBL.out⟩, by simp [intOf]; omega⟩
    · obtain rfl : k = rs.length := by omega
      rw [List.take_length] at hown
      obtain ⟨fq, hrv, hnv, hfv⟩ := Rd.of_own hown
      have HB := Lib.hid hbel; have HOW := Lib.hid hown; clear hbel hown
      go_wp2
      go_ret
      exact ⟨_, fq, rfl, hrv, hnv, hfv, HB.out, _, _, Nat.le_refl _, HOW.out⟩
end Go.Proofs.Ytoabohllphoioaa
