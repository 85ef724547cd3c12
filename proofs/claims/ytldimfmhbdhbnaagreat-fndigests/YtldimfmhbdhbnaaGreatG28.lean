/-
  The model's functions of chapter 6, third part: all rows, in order.
-/
import Derived.Test.YtldimfmhbdhbnaaGreatG11
import Derived.Test.YtldimfmhbdhbnaaGreatG40
import Derived.Test.YtldimfmhbdhbnaaGreatG15
import Derived.Test.YtldimfmhbdhbnaaGreatG24
namespace Go.Proofs.YtldimfmhbdhbnaaGreat
open Go.RowKit

theorem flat_take (l : List (List R)) (k : Nat) (h : k < l.length) : (l.take (k + 1)).flatten = (l.take k).flatten ++ l[k] := by
  rw [List.take_succ_eq_append_getElem h, List.flatten_append]; simp
theorem flat_tot (l : List (List R)) : l.flatten.length = totS l := by
  induction l with
  | nil => rfl
  | cons a t ih => rw [List.flatten_cons, List.length_append, ih]; simp [totS, cntL]
/-- What is answered of all rows: the code, the rows. -/
def riC (p : Pl) : Int := placesF p
def riL (p : Pl) : List R := if placesF p = 0 then p.fs.flatten else []
theorem riL_len (p : Pl) : (riL p).length ≤ 12 := by
  unfold riL
  split
  · rename_i h
    have := (placesF_zero h).2.2.2.2
    rw [flat_tot]; exact this
  · simp

set_option maxRecDepth 100000 in
set_option maxHeartbeats 2000000 in
theorem l6Rows_c (g : Nat) (mk : Int) (A : Option Addr) (c : Nat) (l : List (List R)) (w : World) (fp : List Nat) (hs : fsz l ≤ 1000000)
    (hg : PlBox w g (.slice A l.length c) mk) (ha : RdF w (.slice A l.length c) l fp) :
    Calls Tryz.prog 32 #[.pointer (some ⟨g, 0, none⟩)] w (RowsPost w l.flatten) := by
  have hmax := ha.len_le.2
  have hT : Hid (∀ k (h : k < l.length), totS (l.take k) + l[k].length ≤ 1000000) := fun k h => by
    have := totS_take l k h; have := totS_le l (k + 1); unfold fsz at hs; omega
  have HA := Lib.hid ha; have HG := Lib.hid hg
  clear ha hg hs
  obtain ⟨i0, hi, hz, hsz, hby⟩ := infoRow
  go_enter Tryz.func32, Tryz.ntmps32
  go_wp2
  go_loopw [3, 4] (fun v i wr => ∃ k : Nat, k ≤ l.length ∧ i = .int .i64 k ∧ Hid (wr.ownsRow w.heap.size 40 4 v (totS (l.take k)) (rcs (l.take k).flatten)) ∧ Hid (Below w.heap.size w wr)) (fun _ i _ => l.length - (intOf i).toNat)
  case atStart => exact ⟨0, Nat.zero_le _, rfl, Lib.hid (own_emptyR (Nat.le_refl _)), Lib.hid (below_new _)⟩
  case round =>
    obtain ⟨k, hk, rfl, HOW, HB⟩ := hrel
    obtain ⟨c0, c1, hz0⟩ := HG.out.below HB.out HG.out.lt
    by_cases hlt : k < l.length
    · obtain ⟨b, off, B, d, f, rfl, _, hbl, hc, hr, _⟩ := rowsAt (HA.out.below' HB.out) hlt
      have hkt := hT.out k hlt
      have ht := totS_take l k hlt
      have hf := flat_take l k hlt
      have HT := Lib.hid ht; have HF := Lib.hid hf; have HR := Lib.hid hr
      have hsize := HB.out.size
      have HRW : Hid (∀ j, u3.ownBlock = some j → w.heap.size ≤ j) := fun j hj => own_base' HOW.out hj
      clear ht hf hr
      generalize totS (l.take k) = n at *
      generalize l[k] = rs at *
      go_wp2_with (at_builtin; refine wpList_append_rd rfl _ _ 24 rfl w.heap.size 40 i0 (rv (0, 0, 0, 0)) 4 32 Tryz.underlying24 hi hz hsz hby rfl (by decide) _ n _ rfl HOW.out B rs.length d (rcs rs) f rfl HR.out (rcs_one rs) ?d1 ?d2 ?d3 ?_)
      case d1 => unfold maxLen; omega
      case d2 => omega
      case d3 => exact hsize
      intro v2 w2 hown2 hgrow2
      have hb2 : Below w.heap.size w w2 := HB.out.grown hgrow2 HB.out.size HRW.out
      rw [← rcs_append, ← HF.out, ← HT.out] at hown2
      have HO2 := Lib.hid hown2; have HB2 := Lib.hid hb2
      clear hown2 hb2 hgrow2
      go_wp2_with fail
      exact ⟨⟨k + 1, by omega, by go_num, HO2, HB2⟩, by simp [intOf]; omega⟩
    · obtain rfl : k = l.length := by omega
      have hown := HOW.out
      rw [List.take_length] at hown
      obtain ⟨fq, hrv, hnv, hfv⟩ := Rd.of_own hown
      have HX := Lib.hid (And.intro hrv (And.intro hnv (And.intro hfv hown)))
      clear hrv hnv hfv hown
      go_wp2
      go_ret
      exact ⟨_, fq, rfl, HX.out.1, HX.out.2.1, HX.out.2.2.1, HB.out, _, _, Nat.le_refl _, HX.out.2.2.2⟩

theorem l6Rows_f (g : Nat) (mk : Int) (A : Option Addr) (c : Nat) (l : List (List R)) (L : List R) (hL : l.flatten = L) (w : World) (fp : List Nat) (hs : fsz l ≤ 1000000)
    (hg : PlBox w g (.slice A l.length c) mk) (ha : RdF w (.slice A l.length c) l fp) :
    Calls Tryz.prog 32 #[.pointer (some ⟨g, 0, none⟩)] w (RowsPost w L) := by
  subst hL
  exact l6Rows_c g mk A c l w fp hs hg ha

/-- A box of places and the block of the answer behind it. -/
theorem plbox_new (w : World) (v : Value) (mk : Int) (o : Obj) : PlBox ((w.alloc (.cells #[v, .int .i64 mk] 32)).alloc o) w.heap.size v mk := ⟨by simp, by simp, by simp; omega⟩

end Go.Proofs.YtldimfmhbdhbnaaGreat

/-
  The model's functions of chapter 6, fourth part: scanning.
-/
namespace Go.Proofs.YtldimfmhbdhbnaaGreat
open Go.RowKit

/-- The first k rows of a slice of rows. -/
theorem Rd.rows_take {w : World} {rs : List R} {fp : List Nat} {A : Option Addr} {n c : Nat} (h : Rd w 4 (.slice A n c) (rcs rs) fp) (k : Nat) (hk : k ≤ rs.length) :
    ∃ fq, Rd w 4 (.slice A k c) (rcs (rs.take k)) fq ∧ ∀ x ∈ fq, x ∈ fp := by
  have hn := h.rows_len
  obtain ⟨A', n', c', e, h1, h2, h2', h3⟩ := h
  injection e with e1 e2 e3
  subst e1 e2 e3
  have hl : (rcs (rs.take k)).length = k * 4 := by rw [rcs_length, List.length_take, Nat.min_eq_left hk]
  rcases Nat.eq_zero_or_pos k with h0 | h0
  · exact ⟨[], ⟨_, k, c, rfl, hl, by omega, by omega, .inl ⟨h0, rfl⟩⟩, by simp⟩
  · rcases h3 with ⟨h3, _⟩ | ⟨b, off, rfl, rfl, hlt, hc⟩
    · omega
    · refine ⟨[b], ⟨_, k, c, rfl, hl, by omega, by omega, .inr ⟨b, off, rfl, rfl, hlt, fun i u hu => hc i u ?_⟩⟩, by simp⟩
      have e : rcs rs = rcs (rs.take k) ++ rcs (rs.drop k) := by rw [← rcs_append, List.take_append_drop]
      rw [e, List.getElem?_append_left (List.getElem?_eq_some_iff.1 hu).1]
      exact hu
theorem rcap {w : World} {size : Nat} {A : Option Addr} {n c : Nat} {xs : List Value} {fp : List Nat} (h : Rd w size (.slice A n c) xs fp) : n ≤ c := by
  obtain ⟨A', n', c', e, h1, h2, h2', h3⟩ := h
  injection e with e1 e2 e3
  subst e2 e3
  exact h2'

theorem l1Min_s (a b : Int) (w : World) : Calls Tryz.prog 103 #[.int .i64 a, .int .i64 b] w fun e w' => e = .returned (.int .i64 (if a < b then a else b)) ∧ w = w' := by
  by_cases h : a < b
  all_goals
    go_enter Tryz.func103, Tryz.ntmps103
    go_wp2
    go_ret
    exact ⟨by simp [h], rfl⟩
/-- How many of n there are at most. -/
def cap (m : Int) (n : Nat) : Nat := if m < (n : Int) then m.toNat else n
theorem cap_le (m : Int) (n : Nat) : cap m n ≤ n := by unfold cap; split <;> omega
theorem cap_int (m : Int) (n : Nat) (h : 0 ≤ m) : (if m < (n : Int) then m else (n : Int)) = (cap m n : Nat) := by unfold cap; split <;> omega
/-- What a scan answers: the code, the rows. -/
def scC (p : Pl) (f m : Int) : Int := if placesF p = 0 then (if inB f 0 100 then (if inB m 1 12 then 0 else 3) else 3) else placesF p
def scL (p : Pl) (f m : Int) : List R := if scC p f m = 0 then (cutR p.fs.flatten f 100).take (cap m (cutR p.fs.flatten f 100).length) else []
theorem scL_len (p : Pl) (f m : Int) : (scL p f m).length ≤ 12 := by
  unfold scL
  split
  · rename_i h
    have h0 : placesF p = 0 := by
      unfold scC at h
      split at h
      · assumption
      · exact h
    have := (placesF_zero h0).2.2.2.2
    have h2 := cutR_len p.fs.flatten f 100 p.fs.flatten.length
    rw [List.take_length, flat_tot] at h2
    rw [List.length_take]; omega
  · simp
theorem files_fits {p : Pl} (h : placesF p = 0) : Fits p.fs.flatten := by
  have hz := (placesF_zero h).2.2.2.1
  intro j hj
  have hm := List.getElem_mem hj
  obtain ⟨rs, hrs, hr⟩ := List.mem_flatten.1 hm
  obtain ⟨k, hk, rfl⟩ := List.mem_iff_getElem.1 hrs
  obtain ⟨i, hi, e⟩ := List.mem_iff_getElem.1 hr
  rw [← e]
  exact (rowsF_fits (hz k hk).1).1 i hi

end Go.Proofs.YtldimfmhbdhbnaaGreat

/-
  Chapter 6, plain: scans from behind the last key on give all rows in their order.
-/
namespace Go.Proofs.YtldimfmhbdhbnaaGreat

/-- Ascending by key. -/
def Asc (L : List R) : Prop := L.Pairwise fun a b => keyR a < keyR b

theorem scanF_asc : ∀ (rs : List R) (p : Option Int), scanF p rs = 0 → Asc rs ∧ (∀ k, p = some k → ∀ r ∈ rs, k < keyR r) := by
  intro rs
  induction rs with
  | nil => intro p _; exact ⟨List.Pairwise.nil, by simp⟩
  | cons r t ih =>
    intro p h
    unfold scanF at h
    by_cases h0 : rowF r = 0
    · rw [if_neg (by simpa using h0)] at h
      by_cases h1 : (p.map fun k => decide (keyR r ≤ k)) = some true
      · rw [if_pos h1] at h; cases h
      · rw [if_neg h1] at h
        obtain ⟨ha, hb⟩ := ih _ h
        refine ⟨List.Pairwise.cons (hb _ rfl) ha, ?_⟩
        rintro k rfl x hx
        have hk : k < keyR r := by simpa using h1
        rcases List.mem_cons.1 hx with rfl | hx
        · exact hk
        · have := hb _ rfl x hx; omega
    · rw [if_pos h0] at h; exact absurd h h0
theorem rowsF_asc {rs : List R} (h : rowsF rs = 0) : Asc rs := by
  unfold rowsF at h
  split at h
  · cases h
  · exact (scanF_asc rs none h).1

theorem asc_places {p : Pl} (h : placesF p = 0) : Asc p.fs.flatten := by
  have hz := (placesF_zero h).2.2.2.1
  unfold Asc
  rw [List.pairwise_flatten]
  refine ⟨fun rs hrs => ?_, ?_⟩
  · obtain ⟨k, hk, rfl⟩ := List.mem_iff_getElem.1 hrs
    exact rowsF_asc (hz k hk).1
  · rw [List.pairwise_iff_getElem]
    intro i j hi hj hij x hx y hy
    have hxi := List.all_eq_true.1 (hz i hi).2 x hx
    have hyj := List.all_eq_true.1 (hz j hj).2 y hy
    obtain ⟨a, ha, rfl⟩ := List.mem_iff_getElem.1 hx
    obtain ⟨b, hb, rfl⟩ := List.mem_iff_getElem.1 hy
    have f1 := (rowsF_fits (hz i hi).1).1 a ha
    have f2 := (rowsF_fits (hz j hj).1).1 b hb
    unfold solidAt at hxi hyj
    simp only [Bool.and_eq_true, beq_iff_eq] at hxi hyj
    unfold Fit at f1 f2
    unfold keyR
    omega

/-- Where the scan stands when j rows have come. -/
def atK (L : List R) (j : Nat) : Int := if h : 0 < j ∧ j ≤ L.length then keyR (L[j - 1]'(by omega)) + 1 else 0
theorem atK_zero (L : List R) : atK L 0 = 0 := rfl
theorem atK_pos {L : List R} {j : Nat} (h : 0 < j) (h2 : j ≤ L.length) : atK L j = keyR (L[j - 1]'(by omega)) + 1 := dif_pos ⟨h, h2⟩
theorem key_bound {L : List R} (hf : Fits L) {i : Nat} (h : i < L.length) : 1 ≤ keyR L[i] ∧ keyR L[i] ≤ 83 := by
  have := hf i h; unfold Fit at this; unfold keyR; omega
theorem atK_range {L : List R} (hf : Fits L) (j : Nat) : 0 ≤ atK L j ∧ atK L j ≤ 84 := by
  unfold atK
  split
  · rename_i h
    have := key_bound hf (show j - 1 < L.length by omega)
    omega
  · omega
theorem cut_drop {L : List R} (hf : Fits L) (ha : Asc L) (j : Nat) (h : j ≤ L.length) : cutR L (atK L j) 100 = L.drop j := by
  have hp : ∀ a b (x : a < L.length) (y : b < L.length), a < b → keyR L[a] < keyR L[b] := fun a b x y hab => (List.pairwise_iff_getElem.1 ha) a b x y hab
  have e : cutR L (atK L j) 100 = cutR (L.take j ++ L.drop j) (atK L j) 100 := by rw [List.take_append_drop]
  rw [e]
  unfold cutR
  rw [List.filter_append]
  have e1 : (L.take j).filter (fun r => decide (atK L j ≤ keyR r) && decide (keyR r < 100)) = [] := by
    rw [List.filter_eq_nil_iff]
    intro r hr
    obtain ⟨i, hi, rfl⟩ := List.mem_iff_getElem.1 hr
    rw [List.length_take] at hi
    rw [List.getElem_take, atK_pos (by omega) h]
    have : keyR (L[i]'(by omega)) ≤ keyR (L[j - 1]'(by omega)) := by
      by_cases hij : i = j - 1
      · subst hij; exact Int.le_refl _
      · exact Int.le_of_lt (hp i (j - 1) (by omega) (by omega) (by omega))
    simp only [Bool.and_eq_true, decide_eq_true_eq]
    omega
  have e2 : (L.drop j).filter (fun r => decide (atK L j ≤ keyR r) && decide (keyR r < 100)) = L.drop j := by
    rw [List.filter_eq_self]
    intro r hr
    obtain ⟨i, hi, rfl⟩ := List.mem_iff_getElem.1 hr
    rw [List.length_drop] at hi
    rw [List.getElem_drop]
    have hb := key_bound hf (show j + i < L.length by omega)
    have hc : atK L j ≤ keyR (L[j + i]'(by omega)) := by
      rcases Nat.eq_zero_or_pos j with h0 | h0
      · subst h0; rw [atK_zero]; omega
      · rw [atK_pos h0 h]
        have := hp (j - 1) (j + i) (by omega) (by omega) (by omega)
        omega
    simp only [Bool.and_eq_true, decide_eq_true_eq]
    omega
  rw [e1, e2, List.nil_append]

/-- What a round of the scan answers when j rows have come. -/
theorem sc_round {p : Pl} (h : placesF p = 0) (m : Int) (hm : 1 ≤ m ∧ m ≤ 12) (j : Nat) (hj : j ≤ p.fs.flatten.length) :
    scC p (atK p.fs.flatten j) m = 0 ∧ scL p (atK p.fs.flatten j) m = (p.fs.flatten.drop j).take (cap m (p.fs.flatten.length - j)) := by
  have hf := files_fits h
  have hr := atK_range hf j
  have hC : scC p (atK p.fs.flatten j) m = 0 := by
    unfold scC
    rw [if_pos h, inB_true.2 ⟨hr.1, by omega⟩, inB_true.2 hm]
    rfl
  refine ⟨hC, ?_⟩
  unfold scL
  rw [if_pos hC, cut_drop hf (asc_places h) j hj, List.length_drop]
/-- How far it comes: to the end, or on. -/
theorem cap_pos {m : Int} (hm : 1 ≤ m) {n : Nat} : cap m n = 0 ↔ n = 0 := by unfold cap; split <;> omega
theorem sc_more {L : List R} {m : Int} {j : Nat} (hj : j ≤ L.length) :
    L.take j ++ (L.drop j).take (cap m (L.length - j)) = L.take (j + cap m (L.length - j)) := by
  rw [List.take_add]
end Go.Proofs.YtldimfmhbdhbnaaGreat
