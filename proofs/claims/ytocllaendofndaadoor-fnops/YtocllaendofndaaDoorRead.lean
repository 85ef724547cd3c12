/-
  Contracts of ReadNumbers, the program's and the model's.
-/
import Derived.Test.YtocllaendofndaaDoorPack
namespace Go.Proofs.YtocllaendofndaaDoor
open Go.RowKit

/-- The first k numbers behind the count. -/
def nums (zs : List Int) (k : Nat) : List Int := (List.range k).map fun i => get2 (zs.getD (1 + 2 * i) 0) (zs.getD (1 + 2 * i + 1) 0)
theorem nums_length (zs : List Int) (k : Nat) : (nums zs k).length = k := by simp [nums]
theorem nums_get (zs : List Int) (n k : Nat) (hk : k < n) (h : 1 + 2 * k + 1 < zs.length) : (nums zs n)[k]'(by simpa [nums] using hk) = get2 zs[1 + 2 * k] zs[1 + 2 * k + 1] := by
  simp only [nums, List.getElem_map, List.getElem_range]
  rw [List.getD_eq_getElem?_getD, List.getD_eq_getElem?_getD, List.getElem?_eq_getElem (by omega), List.getElem?_eq_getElem h]
  rfl
theorem nums_part (zs : List Int) (n k : Nat) (hk : k < n) (h : 1 + 2 * k + 1 < zs.length) :
    (part (.int .i64 0) (cellsOf .i64 (nums zs n)) k).setIfInBounds k (.int .i64 (get2 zs[1 + 2 * k] zs[1 + 2 * k + 1])) = part (.int .i64 0) (cellsOf .i64 (nums zs n)) (k + 1) := by
  have hl : k < (cellsOf .i64 (nums zs n)).length := by rw [List.length_map, nums_length]; exact hk
  have e := part_set (.int .i64 0) (cellsOf .i64 (nums zs n)) k hl
  rw [List.getElem_map, nums_get zs n k hk h] at e
  exact e
theorem nums_size (zs : List Int) (n k : Nat) (hk : k ≤ n) : (part (.int .i64 0) (cellsOf .i64 (nums zs n)) k).size = n := by
  rw [part_size _ _ _ (by rw [List.length_map, nums_length]; exact hk), List.length_map, nums_length]
theorem nums_full (zs : List Int) (n : Nat) : part (.int .i64 0) (cellsOf .i64 (nums zs n)) n = (cellsOf .i64 (nums zs n)).toArray := by
  have e := part_full (.int .i64 0) (cellsOf .i64 (nums zs n))
  rw [List.length_map, nums_length] at e
  exact e
theorem nums_snoc (zs : List Int) (k : Nat) (h : 1 + 2 * k + 1 < zs.length) : nums zs (k + 1) = nums zs k ++ [get2 zs[1 + 2 * k] zs[1 + 2 * k + 1]] := by
  unfold nums
  rw [List.range_succ, List.map_append, List.map_cons, List.map_nil, List.getD_eq_getElem?_getD, List.getD_eq_getElem?_getD, List.getElem?_eq_getElem (by omega), List.getElem?_eq_getElem h]
  rfl
def readOk (zs : List Int) : Prop := 0 < zs.length ∧ zs.getD 0 0 ≤ 20 ∧ (zs.length : Int) = 1 + 2 * zs.getD 0 0
instance (zs : List Int) : Decidable (readOk zs) := by unfold readOk; infer_instance
def readC (zs : List Int) : Int := if readOk zs then 0 else 5
def readL (zs : List Int) : List Int := if readOk zs then nums zs (zs.getD 0 0).toNat else []
theorem readC_no {zs : List Int} (h : ¬ readOk zs) : readC zs = 5 := by unfold readC; rw [if_neg h]
theorem readL_no {zs : List Int} (h : ¬ readOk zs) : readL zs = [] := by unfold readL; rw [if_neg h]
theorem readC_ok {zs : List Int} (h : readOk zs) : readC zs = 0 := by unfold readC; rw [if_pos h]
theorem readL_ok {zs : List Int} (h : readOk zs) {n : Nat} (hn : zs.getD 0 0 = n) : readL zs = nums zs n := by unfold readL; rw [if_pos h, hn, Int.toNat_natCast]
theorem readL_len (zs : List Int) : (readL zs).length ≤ 1000 := by
  unfold readL
  split
  · rename_i h; rw [nums_length]; have := h.2.1; omega
  · simp

theorem setCell_drewN (w : World) (m : Nat) (a : Addr) (v : Value) : (w.drewN m).setCell a v = (w.setCell a v).drewN m := rfl

/-- What a call answers that gives a code and integers in memory of its own. -/
def IntsPost (w : World) (code : Int) (bs : List Int) (e : Ending) (w' : World) : Prop :=
  ∃ r, e = .returned r ∧ SRes .i64 w' w.heap.size r code bs ∧ Below w.heap.size w w'

set_option maxRecDepth 100000 in
set_option maxHeartbeats 2000000 in
theorem implReadNumbers_c (A : Option Addr) (c : Nat) (zs : List Int) (w : World) (fp : List Nat) (hby : Byt zs) (ha : Rd w 1 (.slice A zs.length c) (cellsOf .u8 zs) fp) :
    Calls Tryd.prog 45 #[.slice A zs.length c] w (IntsPost w (readC zs) (readL zs)) := by
  have hmax := ha.len_le
  by_cases h0 : 0 < zs.length
  · have hb0 := hby.at_ (k := 0) h0
    obtain ⟨b, off, hA, _, hbw, hc⟩ := ha.ints_at h0
    subst hA
    have eg : zs.getD 0 0 = zs[0] := by rw [List.getD_eq_getElem?_getD, List.getElem?_eq_getElem h0]; rfl
    obtain ⟨n, hn⟩ : ∃ n : Nat, zs[0] = n := ⟨zs[0].toNat, by omega⟩
    rw [hn] at hc hb0 eg
    clear hn
    have h00 : ((zs.length : Int) == 0) = false := beq_eq_false_iff_ne.2 (by omega)
    rw [Nat.add_zero] at hc
    by_cases hok : n ≤ 20 ∧ zs.length = 1 + 2 * n
    · obtain ⟨h20, hln⟩ := hok
      have hro : readOk zs := ⟨h0, by rw [eg]; omega, by rw [eg]; omega⟩
      rw [readC_ok hro, readL_ok hro eg]
      clear hro eg
      have hln2 : ((zs.length : Int) != 1 + 2 * (n : Int)) = false := by simp; omega
      have hln3 : decide ((20 : Int) < (n : Int)) = false := by simp; omega
      have HLN := Lib.hid hln; clear hln
      have hmk : ∀ W : World, (Instr.makeSlice 51 (.int .i64 (n : Int)) (.int .i64 (n : Int))).run Tryd.prog W = .ok (.slice (some ⟨W.heap.size, 0, none⟩) n n) (W.alloc (.cells (part (.int .i64 0) (cellsOf .i64 (nums zs n)) 0) 2)) := by
        intro W
        rw [makeInt64S n (by omega), part_zero, List.length_map, nums_length]
      go_enter Tryd.func45, Tryd.ntmps45
      go_wp2_with fail
      clear hmk
      go_loopw [5, 28] (fun _ i wr => ∃ k m : Nat, k ≤ n ∧ i = .int .i64 k ∧ wr = ((w.alloc (.cells #[.int .i64 0, .slice none 0 0] 78)).alloc (.cells (part (.int .i64 0) (cellsOf .i64 (nums zs n)) k) 2)).drewN m) (fun _ i _ => n - (intOf i).toNat)
      case atStart => exact ⟨0, 0, Nat.zero_le _, rfl, rfl⟩
      case round =>
        obtain ⟨k, m, hk, rfl, rfl⟩ := hrel
        by_cases hlt : k < n
        · have hlt' : k < (part (.int .i64 0) (cellsOf .i64 (nums zs n)) k).size := by rw [nums_size zs n k hk]; exact hlt
          have hra := ((ha.alloc (.cells #[.int .i64 0, .slice none 0 0] 78)).alloc (.cells (part (.int .i64 0) (cellsOf .i64 (nums zs n)) k) 2)).drewN m
          have ek : (1 : Int) + 2 * (k : Int) = ((1 + 2 * k : Nat) : Int) := by omega
          have hin : 1 + 2 * k + 1 < zs.length := by rw [HLN.out]; omega
          have EK := Lib.hid ek; clear ek
          go_wp2_with fail
          rw [EK.out]
          refine (shortAt_c _ _ zs (1 + 2 * k) _ fp hin hby hra).mono ?_
          rintro e w1 ⟨rfl, m1, rfl⟩
          clear hra
          go_wp2_with fail
          refine ⟨⟨k + 1, m + m1, by omega, by go_num, ?_⟩, by simp [intOf]; omega⟩
          rw [setCell_drewN, World.setCell_alloc_at _ _ _ _ _ (by simp), nums_part zs n k hlt hin]
        · obtain rfl : k = n := by omega
          rw [nums_full zs k]
          go_wp2_with fail
          obtain ⟨fq, hr, hn, hf⟩ := Rd.fresh (w := w.alloc (.cells #[.int .i64 0, .slice none 0 0] 78)) (w' := ((w.alloc (.cells #[.int .i64 0, .slice none 0 0] 78)).alloc (.cells (cellsOf .i64 (nums zs k)).toArray 2)).drewN m) (size := 1) (n := k) (xs := cellsOf .i64 (nums zs k)) (e := 2) (by unfold maxLen; omega) (by rw [List.length_map, nums_length, Nat.mul_one]) (g := w.heap.size + 1) (heap_new (w.alloc (.cells #[.int .i64 0, .slice none 0 0] 78)) _ (by simp)) (by simp)
          have hb : Below (w.heap.size + 1) (w.alloc (.cells #[.int .i64 0, .slice none 0 0] 78)) (((w.alloc (.cells #[.int .i64 0, .slice none 0 0] 78)).alloc (.cells (cellsOf .i64 (nums zs k)).toArray 2)).drewN m) := below_drewN' ((Below.refl _ _).alloc (by simp) _) m
          simp only [World.size_alloc] at hf
          have hst := res_stored (K := .i64) hb rfl (code := 0) hr hn hf
          exact bodyPost_ret (v := .agg #[.int .i64 0, .slice (some ⟨w.heap.size + 1, 0, none⟩) k k]) (by simp [results, Tryd.results45, go_sem]) rfl ⟨_, rfl, hst.1, hst.2⟩
    · have hro : ¬ readOk zs := fun h => hok ⟨by have := h.2.1; rw [eg] at this; omega, by have := h.2.2; rw [eg] at this; omega⟩
      rw [readC_no hro, readL_no hro]
      clear hro
      by_cases h20 : n ≤ 20
      · have hln2 : ((zs.length : Int) != 1 + 2 * (n : Int)) = true := by simp; omega
        have hln3 : decide ((20 : Int) < (n : Int)) = false := by simp; omega
        clear hok
        go_enter Tryd.func45, Tryd.ntmps45
        go_wp2_with fail
        exact bodyPost_ret (v := .agg #[.int .i64 5, .slice none 0 0]) (by simp [results, Tryd.results45, go_sem]) rfl ⟨_, rfl, sres_nil _ _ _ _, (Below.refl _ _).alloc (Nat.le_refl _) _⟩
      · have h21 : (20 : Int) < (n : Int) := by omega
        clear hok
        go_enter Tryd.func45, Tryd.ntmps45
        go_wp2_with fail
        exact bodyPost_ret (v := .agg #[.int .i64 5, .slice none 0 0]) (by simp [results, Tryd.results45, go_sem]) rfl ⟨_, rfl, sres_nil _ _ _ _, (Below.refl _ _).alloc (Nat.le_refl _) _⟩
  · have hro : ¬ readOk zs := fun h => h0 h.1
    rw [readC_no hro, readL_no hro]
    have hz : zs.length = 0 := by omega
    clear hro h0
    rw [hz] at ha ⊢
    clear hz
    go_enter Tryd.func45, Tryd.ntmps45
    go_wp2_with fail
    exact bodyPost_ret (v := .agg #[.int .i64 5, .slice none 0 0]) (by simp [results, Tryd.results45, go_sem]) rfl ⟨_, rfl, sres_nil _ _ _ _, (Below.refl _ _).alloc (Nat.le_refl _) _⟩

/-- A list is readable: its first byte is n, and there are n numbers behind it. -/
theorem readOk_of {zs : List Int} (h : readOk zs) (hby : Byt zs) : ∃ n : Nat, zs.getD 0 0 = n ∧ n ≤ 20 ∧ zs.length = 1 + 2 * n := by
  obtain ⟨h0, h1, h2⟩ := h
  have e : zs.getD 0 0 = zs[0] := by rw [List.getD_eq_getElem?_getD, List.getElem?_eq_getElem h0]; rfl
  have := hby.at_ h0
  refine ⟨(zs.getD 0 0).toNat, by omega, by omega, by omega⟩

set_option maxRecDepth 100000 in
set_option maxHeartbeats 2000000 in
theorem l1Read_no (A : Option Addr) (c : Nat) (zs : List Int) (w : World) (fp : List Nat) (hby : Byt zs) (ha : Rd w 1 (.slice A zs.length c) (cellsOf .u8 zs) fp) (hno : ¬ readOk zs) :
    Calls Tryd.prog 53 #[.slice A zs.length c] w fun e w' => e = .returned (.tuple #[.slice none 0 0, .bool false]) ∧ w = w' := by
  have hmax := ha.len_le
  by_cases h0 : 0 < zs.length
  · have hb0 := hby.at_ (k := 0) h0
    obtain ⟨b, off, hA, _, hbw, hc⟩ := ha.ints_at h0
    subst hA
    have eg : zs.getD 0 0 = zs[0] := by rw [List.getD_eq_getElem?_getD, List.getElem?_eq_getElem h0]; rfl
    obtain ⟨n, hn⟩ : ∃ n : Nat, zs[0] = n := ⟨zs[0].toNat, by omega⟩
    rw [hn] at hc hb0 eg
    clear hn
    have h00 : ¬ ((zs.length : Int) < 1) := by omega
    rw [Nat.add_zero] at hc
    by_cases h20 : n ≤ 20
    · have hln : (zs.length : Int) ≠ 1 + 2 * (n : Int) := fun h => hno ⟨h0, by rw [eg]; omega, by rw [eg]; omega⟩
      have hln2 : ((zs.length : Int) != 1 + 2 * (n : Int)) = true := by simpa using hln
      have hln3 : decide ((20 : Int) < (n : Int)) = false := by simp; omega
      have hln4 : decide ((zs.length : Int) < 1) = false := by simp; omega
      clear hln hno eg
      go_enter Tryd.func53, Tryd.ntmps53
      go_wp2_with fail
      go_ret2
      exact ⟨rfl, rfl⟩
    · have h21 : decide ((20 : Int) < (n : Int)) = true := by simp; omega
      have hln4 : decide ((zs.length : Int) < 1) = false := by simp; omega
      clear hno eg
      go_enter Tryd.func53, Tryd.ntmps53
      go_wp2_with fail
      go_ret2
      exact ⟨rfl, rfl⟩
  · have hz : zs.length = 0 := by omega
    clear h0 hno
    rw [hz] at ha ⊢
    clear hz
    go_enter Tryd.func53, Tryd.ntmps53
    go_wp2_with fail
    go_ret2
    exact ⟨rfl, rfl⟩

/-- What l1Read answers where the bytes are readable. -/
def ReadPost (w : World) (zs : List Int) (e : Ending) (w' : World) : Prop :=
  ∃ v fp, e = .returned (.tuple #[v, .bool true]) ∧ Rd w' 1 v (cellsOf .i64 zs) fp ∧ NF w' fp ∧ From w.heap.size fp ∧ Below w.heap.size w w'

theorem own_empty {w : World} {t : TypeId} {base : Nat} (hb : base ≤ w.heap.size) : (w.alloc (.cells #[] t)).ownsRow base t 1 (.slice (some ⟨w.heap.size, 0, none⟩) 0 0) 0 [] :=
  ⟨rfl, .inr ⟨w.heap.size, 0, #[], rfl, hb, heap_new w _ rfl, by omega, by unfold maxLen; omega, rfl, rfl⟩⟩

set_option maxRecDepth 100000 in
set_option maxHeartbeats 2000000 in
theorem l1Read_ok (A : Option Addr) (c : Nat) (zs : List Int) (n : Nat) (w : World) (fp : List Nat) (hby : Byt zs) (ha : Rd w 1 (.slice A zs.length c) (cellsOf .u8 zs) fp) (h20 : n ≤ 20) (hln : zs.length = 1 + 2 * n) (h0' : zs.getD 0 0 = n) :
    Calls Tryd.prog 53 #[.slice A zs.length c] w (ReadPost w (nums zs n)) := by
  have hmax := ha.len_le
  have hlt := ha.lt
  have HL := Lib.hid hlt; clear hlt
  have h0 : 0 < zs.length := by omega
  have hb0 := hby.at_ (k := 0) h0
  obtain ⟨b, off, hA, _, hbw, hc⟩ := ha.ints_at h0
  subst hA
  have eg : zs.getD 0 0 = zs[0] := by rw [List.getD_eq_getElem?_getD, List.getElem?_eq_getElem h0]; rfl
  rw [← eg, h0'] at hc
  clear eg hb0 h0'
  rw [Nat.add_zero] at hc
  have hln2 : ((zs.length : Int) != 1 + 2 * (n : Int)) = false := by simp; omega
  have hln3 : decide ((20 : Int) < (n : Int)) = false := by simp; omega
  have hln4 : decide ((zs.length : Int) < 1) = false := by simp; omega
  have HLN := Lib.hid hln; clear hln
  obtain ⟨i0, hi, hz, hsz, hbyt⟩ := infoInt64S
  go_enter Tryd.func53, Tryd.ntmps53
  go_wp2_with fail
  go_loopw [4, 5] (fun v i wr => ∃ k : Nat, k ≤ n ∧ i = .int .i64 ((1 + 2 * k : Nat) : Int) ∧ wr.ownsRow w.heap.size 2 1 v k (cellsOf .i64 (nums zs k)) ∧ Below w.heap.size w wr) (fun _ i _ => zs.length + 1 - (intOf i).toNat)
  case atStart => exact ⟨0, Nat.zero_le _, rfl, own_empty (Nat.le_refl _), (Below.refl _ _).alloc (by simp) _⟩
  case round =>
    obtain ⟨k, hk, rfl, hown, hbel⟩ := hrel
    have hsize := hbel.size
    by_cases hlt : k < n
    · have hin : 1 + 2 * k + 1 < zs.length := by rw [HLN.out]; omega
      have hin2 : 1 + 2 * k < zs.length := by omega
      have hrr := ha.below hbel HL.out
      have hrow : ∀ g, u4.ownBlock = some g → w.heap.size ≤ g := fun g hg => own_base hown hg
      have HR := Lib.hid hrow; clear hrow
      go_wp2_with fail
      refine (l1Get_c _ _ zs (1 + 2 * k) _ fp hin hby hrr).mono ?_
      rintro e w1 ⟨rfl, m1, rfl⟩
      generalize hgv : get2 zs[1 + 2 * k] zs[1 + 2 * k + 1] = gv
      have hsn := nums_snoc zs k hin
      rw [hgv] at hsn
      clear hgv hrr
      have HSN := Lib.hid hsn; clear hsn
      have hown0 : (wr.drewN m1).ownsRow w.heap.size 2 1 u4 k (cellsOf .i64 (nums zs k)) := hown
      have hown1 := hown0.alloc (.cells #[.int .i64 gv] 2)
      have hbel1 := (below_drewN' hbel m1).alloc (o := .cells #[.int .i64 gv] 2) hsize
      have HB1 := Lib.hid hbel1; have HO1 := Lib.hid hown1
      clear hbel1 hbel hown hown0 hown1
      go_wp2_with (at_builtin; refine wpList_append_own _ rfl _ _ 51 rfl w.heap.size 2 i0 (.int .i64 0) 1 8 Tryd.underlying51 hi hz hsz hbyt rfl (by decide) _ _ _ rfl HO1.out ⟨wr.heap.size, 0, none⟩ 1 1 [.int .i64 gv] rfl rfl ?c1 ?c2 ?c3 ?c4 ?c5 ?_)
      case c1 =>
        intro j u hj
        match j, hj with
        | 0, hj => simp at hj; subst hj; exact cell_of_heap (heap_new (wr.drewN m1) _ rfl)
      case c2 => intro u hu; simp at hu; subst hu; rfl
      case c3 => unfold maxLen; omega
      case c4 => omega
      case c5 => have := HB1.out.size; exact this
      intro v' w2 hown2 hgrow2 _
      have hown3 : w2.ownsRow w.heap.size 2 1 v' (k + 1) (cellsOf .i64 (nums zs (k + 1))) := by
        rw [HSN.out]; unfold cellsOf; rw [List.map_append]; exact hown2
      have hbel2 := HB1.out.grown hgrow2 HB1.out.size HR.out
      have HO := Lib.hid hown3; have HBL := Lib.hid hbel2
      clear hown2 hown3 hbel2 hgrow2
      go_wp2_with fail
      exact ⟨⟨k + 1, by omega, by go_num, HO.out, HBL.out⟩, by simp [intOf]; omega⟩
    · obtain rfl : k = n := by omega
      obtain ⟨fq, hrv, hnv, hfv⟩ := Rd.of_own hown
      clear hown
      have HBL := Lib.hid hbel; clear hbel
      have hge : ¬ (1 + 2 * k < zs.length) := by rw [HLN.out]; omega
      go_wp2
      go_ret2
      exact ⟨_, fq, rfl, hrv, hnv, hfv, HBL.out⟩

end Go.Proofs.YtocllaendofndaaDoor
