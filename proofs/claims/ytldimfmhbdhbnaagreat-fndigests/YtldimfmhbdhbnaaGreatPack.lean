/-
  Contracts of PackNumbers, the program's and the model's.
-/
import Derived.Test.YtldimfmhbdhbnaaGreatG3
import Derived.Test.YtldimfmhbdhbnaaGreatG19
namespace Go.Proofs.YtldimfmhbdhbnaaGreat
open Go.RowKit

/-- The first bytes of a packed list: the count, and the first k numbers. -/
def pk (zs : List Int) (k : Nat) : List Int := (zs.length : Int) :: (zs.take k).flatMap put2
theorem put2_length (n : Int) : (put2 n).length = 2 := rfl
theorem flat_length (zs : List Int) : (zs.flatMap put2).length = 2 * zs.length := by
  induction zs with
  | nil => rfl
  | cons z t ih => rw [List.flatMap_cons, List.length_append, ih, put2_length, List.length_cons]; omega
theorem pk_length (zs : List Int) (k : Nat) (h : k ≤ zs.length) : (pk zs k).length = 1 + 2 * k := by
  unfold pk; rw [List.length_cons, flat_length, List.length_take]; omega
theorem pk_snoc (zs : List Int) (k : Nat) (h : k < zs.length) : pk zs (k + 1) = pk zs k ++ put2 zs[k] := by
  unfold pk; rw [List.take_succ_eq_append_getElem h, List.flatMap_append]; simp
def allShort (zs : List Int) : Prop := ∀ k (h : k < zs.length), shortB zs[k] = true
instance (zs : List Int) : Decidable (allShort zs) := by unfold allShort; infer_instance
def packC (zs : List Int) : Int := if 20 < zs.length then 2 else if allShort zs then 0 else 3
def packL (zs : List Int) : List Int := if 20 < zs.length then [] else if allShort zs then pk zs zs.length else []
theorem packC_2 {zs : List Int} (h : 20 < zs.length) : packC zs = 2 := by unfold packC; rw [if_pos h]
theorem packL_2 {zs : List Int} (h : 20 < zs.length) : packL zs = [] := by unfold packL; rw [if_pos h]
theorem packC_3 {zs : List Int} (h : ¬ 20 < zs.length) {k : Nat} (hk : k < zs.length) (hn : shortB zs[k] = false) : packC zs = 3 := by
  unfold packC; rw [if_neg h, if_neg (fun ha => by have := ha k hk; rw [hn] at this; cases this)]
theorem packL_3 {zs : List Int} (h : ¬ 20 < zs.length) {k : Nat} (hk : k < zs.length) (hn : shortB zs[k] = false) : packL zs = [] := by
  unfold packL; rw [if_neg h, if_neg (fun ha => by have := ha k hk; rw [hn] at this; cases this)]
theorem packC_0 {zs : List Int} (h : ¬ 20 < zs.length) (ha : allShort zs) : packC zs = 0 := by unfold packC; rw [if_neg h, if_pos ha]
theorem packL_0 {zs : List Int} (h : ¬ 20 < zs.length) (ha : allShort zs) : packL zs = pk zs zs.length := by unfold packL; rw [if_neg h, if_pos ha]

theorem packL_len (zs : List Int) : (packL zs).length ≤ 1000 := by
  unfold packL
  split
  · simp
  · split
    · rw [pk_length _ _ (Nat.le_refl _)]; omega
    · simp

/-- A struct of a code and a slice in a block of its own, stored behind calls that kept it. -/
theorem cells_kept {w w1 : World} {u v : Value} {t : TypeId} {B : Nat} (hb : Below B (w.alloc (.cells #[u, v] t)) w1) (hB : w.heap.size < B) :
    w1.cell? ⟨w.heap.size, 0, none⟩ = some u ∧ w1.cell? ⟨w.heap.size, 1, none⟩ = some v ∧ w1.frozen? ⟨w.heap.size, 0, none⟩ = false ∧ w1.frozen? ⟨w.heap.size, 1, none⟩ = false ∧ w.heap.size < w1.heap.size :=
  ⟨cell_of_heap (newest hb hB), cell_of_heap (newest hb hB), frozen_of_heap (newest hb hB), frozen_of_heap (newest hb hB), heap_lt (newest hb hB)⟩

/-- The result's struct is stored at the end: what is answered. -/
theorem res_stored {K : IntKind} {w w1 : World} {u v : Value} {t : TypeId} {B : Nat} (hb : Below B (w.alloc (.cells #[u, v] t)) w1) (hB : w.heap.size + 1 = B) {code : Int} {x : Value} {zs : List Int} {fq : List Nat}
    (hr : Rd w1 1 x (cellsOf K zs) fq) (hn : NF w1 fq) (hf : From B fq) :
    SRes K ((w1.setCell ⟨w.heap.size, 0, none⟩ (.int .i64 code)).setCell ⟨w.heap.size, 1, none⟩ x) w.heap.size (.agg #[.int .i64 code, x]) code zs ∧
    Below w.heap.size w ((w1.setCell ⟨w.heap.size, 0, none⟩ (.int .i64 code)).setCell ⟨w.heap.size, 1, none⟩ x) := by
  subst hB
  have hbut := But.two w1 w.heap.size 0 1 (.int .i64 code) x
  have hres : SRes K w1 (w.heap.size + 1) (.agg #[.int .i64 code, x]) code zs := ⟨_, fq, rfl, hr, hn, hf⟩
  have hz := heap_lt (newest hb (by omega))
  exact ⟨(hres.but hbut (by simp)).lower (by omega), (((Below.refl _ _).alloc (Nat.le_refl _) _).trans (hb.mono (by omega))).trans (hbut.below (by omega) (by intro b hb; simp at hb; omega))⟩

theorem own_base {w : World} {base : Nat} {e : TypeId} {size n g : Nat} {v : Value} {xs : List Value} (h : w.ownsRow base e size v n xs) (hg : v.ownBlock = some g) : base ≤ g := by
  rcases h.2 with ⟨rfl, _⟩ | ⟨g', cap, cur, rfl, hb, _⟩
  · simp [Value.ownBlock] at hg
  · simp [Value.ownBlock] at hg; omega
/-- A row of one cell, just laid. -/
theorem own_new {w : World} {t : TypeId} {u : Value} {base : Nat} (hb : base ≤ w.heap.size) : (w.alloc (.cells #[u] t)).ownsRow base t 1 (.slice (some ⟨w.heap.size, 0, none⟩) 1 1) 1 [u] :=
  ⟨rfl, .inr ⟨w.heap.size, 1, #[u], rfl, hb, heap_new w _ rfl, by omega, by unfold maxLen; omega, rfl, rfl⟩⟩

set_option maxRecDepth 100000 in
set_option maxHeartbeats 2000000 in
theorem implPackNumbers_c (A : Option Addr) (c : Nat) (zs : List Int) (w : World) (fp : List Nat) (ha : Rd w 1 (.slice A zs.length c) (cellsOf .i64 zs) fp) :
    Calls Tryz.prog 89 #[.slice A zs.length c] w (BytesPost w (packC zs) (packL zs)) := by
  have hmax := ha.len_le
  have hlt := ha.lt
  by_cases hbig : 20 < zs.length
  · rw [packC_2 hbig, packL_2 hbig]
    go_enter Tryz.func89, Tryz.ntmps89
    go_wp2_with fail
    exact bodyPost_ret (v := .agg #[.int .i64 2, .slice none 0 0]) (by simp [results, Tryz.results89, go_sem]) rfl ⟨_, rfl, sres_nil _ _ _ _, (Below.refl _ _).alloc (Nat.le_refl _) _⟩
  · have hs : zs.length ≤ 20 := by omega
    have HL := Lib.hid hlt; clear hlt
    have HB := Lib.hid hbig; clear hbig
    go_enter Tryz.func89, Tryz.ntmps89
    go_wp2_with fail
    go_loopw [3, 16] (fun v i wr => ∃ k : Nat, k ≤ zs.length ∧ i = .int .i64 k ∧ wr.ownsRow (w.heap.size + 1) 5 1 v (1 + 2 * k) (cellsOf .u8 (pk zs k)) ∧ Below (w.heap.size + 1) (w.alloc (.cells #[.int .i64 0, .slice none 0 0] 120)) wr ∧ Hid (∀ j (h : j < k) (h' : j < zs.length), shortB zs[j] = true)) (fun _ i _ => zs.length - (intOf i).toNat)
    case atStart => exact ⟨0, Nat.zero_le _, rfl, by have := own_new (w := w.alloc (.cells #[.int .i64 0, .slice none 0 0] 120)) (t := 5) (u := .int .u8 zs.length) (base := w.heap.size + 1) (by simp); simpa [pk] using this, (Below.refl _ _).alloc (by simp) _, fun j h => by omega⟩
    case round =>
      obtain ⟨k, hk, rfl, hown, hbel, hsh⟩ := hrel
      obtain ⟨hc0, hc1, hf0, hf1, hz0⟩ := cells_kept hbel (by omega)
      have hra := (ha.alloc (.cells #[.int .i64 0, .slice none 0 0] 120)).below hbel (fun b hb => by have := HL.out b hb; omega)
      by_cases hlt : k < zs.length
      · obtain ⟨b, off, hA, _, _, hc⟩ := hra.ints_at hlt
        subst hA
        cases hsk : shortB zs[k]
        · have HS := Lib.hid hsk; clear hsk hra
          have HO := Lib.hid hown; clear hown
          have HBL := Lib.hid hbel; clear hbel
          go_wp2_with ((go_at_call 114; refine (isShort_c _ _).mono ?_; rintro e w' ⟨rfl, rfl⟩; rw [HS.out]))
          have hst := res_stored (K := .u8) HBL.out rfl (code := 3) (Rd.nil wr 1) (NF.nil wr) (From.nil _) (zs := [])
          refine bodyPost_ret (v := .agg #[.int .i64 3, .slice none 0 0]) (by simp [results, Tryz.results89, go_sem, hc0, hc1]) rfl ⟨_, rfl, ?_, hst.2⟩
          rw [packC_3 HB.out hlt HS.out, packL_3 HB.out hlt HS.out]
          exact hst.1
        · have HS := Lib.hid hsk; clear hsk hra
          go_wp2_with ((go_at_call 114; refine (isShort_c _ _).mono ?_; rintro e w' ⟨rfl, rfl⟩; rw [HS.out]))
          refine (appendShort_c _ _ _ _ (w.heap.size + 1) _ HS.out (by omega) (by omega) hown).mono ?_
          rintro e w1 ⟨v1, rfl, hown1, hgrow⟩
          rw [← List.map_append, ← pk_snoc zs k hlt] at hown1
          have hrow : ∀ g, u3.ownBlock = some g → w.heap.size + 1 ≤ g := fun g hg => own_base hown hg
          have hbel1 := hbel.grown hgrow (by omega) hrow
          clear hown hgrow hrow hbel hc0 hc1 hf0 hf1 hc
          have HO := Lib.hid hown1; clear hown1
          have HBL := Lib.hid hbel1; clear hbel1
          go_wp2_with fail
          exact ⟨⟨k + 1, by omega, by go_num, HO.out, HBL.out, fun j h h' => by
            by_cases e : j = k
            · subst e; exact HS.out
            · exact hsh.out j (by omega) h'⟩, by simp [intOf]; omega⟩
      · obtain rfl : k = zs.length := by omega
        obtain ⟨fq, hrv, hnv, hfv⟩ := Rd.of_own hown
        obtain ⟨Av, cv, rfl⟩ := hrv.form
        clear hown
        have HBL := Lib.hid hbel; clear hbel
        go_wp2_with fail
        have hst := res_stored (K := .u8) HBL.out rfl (code := 0) hrv hnv hfv
        refine bodyPost_ret (v := .agg #[.int .i64 0, .slice Av (pk zs zs.length).length cv]) (by simp [results, Tryz.results89, go_sem, hc0, hc1]) rfl ⟨_, rfl, ?_, hst.2⟩
        have hall : allShort zs := fun j h => hsh.out j h h
        rw [packC_0 HB.out hall, packL_0 HB.out hall]
        exact hst.1

/-- What a call answers that gives bytes in memory of its own. -/
def SlicePost (K : IntKind) (w : World) (zs : List Int) (e : Ending) (w' : World) : Prop :=
  ∃ v fp, e = .returned v ∧ Rd w' 1 v (cellsOf K zs) fp ∧ NF w' fp ∧ From w.heap.size fp ∧ Below w.heap.size w w'

set_option maxRecDepth 100000 in
set_option maxHeartbeats 2000000 in
theorem l1Pack_c (A : Option Addr) (c : Nat) (zs : List Int) (w : World) (fp : List Nat) (hs : zs.length ≤ 20) (hall : allShort zs) (ha : Rd w 1 (.slice A zs.length c) (cellsOf .i64 zs) fp) :
    Calls Tryz.prog 94 #[.slice A zs.length c] w (SlicePost .u8 w (pk zs zs.length)) := by
  have hmax := ha.len_le
  have hlt := ha.lt
  have HL := Lib.hid hlt; clear hlt
  have HA := Lib.hid hall; clear hall
  obtain ⟨i0, hi, hz, hsz, hby⟩ := infoByteS
  go_enter Tryz.func94, Tryz.ntmps94
  go_wp2_with fail
  go_loopw [3, 4] (fun v i wr => ∃ k : Nat, k ≤ zs.length ∧ i = .int .i64 k ∧ wr.ownsRow w.heap.size 5 1 v (1 + 2 * k) (cellsOf .u8 (pk zs k)) ∧ Below w.heap.size w wr) (fun _ i _ => zs.length - (intOf i).toNat)
  case atStart => exact ⟨0, Nat.zero_le _, rfl, by have := own_new (w := w) (t := 5) (u := .int .u8 zs.length) (base := w.heap.size) (by simp); simpa [pk] using this, (Below.refl _ _).alloc (by simp) _⟩
  case round =>
    obtain ⟨k, hk, rfl, hown, hbel⟩ := hrel
    have hsize := hbel.size
    by_cases hlt : k < zs.length
    · obtain ⟨b, off, hA, _, _, hc⟩ := (ha.below hbel HL.out).ints_at hlt
      subst hA
      go_wp2_with fail
      refine (l1Put_c _ _ (HA.out k hlt)).mono ?_
      rintro e w1 ⟨rfl, hw1⟩
      have hown1 := hown.alloc (.cells (cellsOf .u8 (put2 zs[k])).toArray 5)
      have hc1 : ∀ j u, (cellsOf .u8 (put2 zs[k]))[j]? = some u → w1.cell? ((⟨wr.heap.size, 0, none⟩ : Addr).add j) = some u := by
        intro j u hu
        have e : (⟨wr.heap.size, 0, none⟩ : Addr).add j = ⟨wr.heap.size, j, none⟩ := by unfold Addr.add; split <;> simp_all
        rw [e, hw1, cell_of_heap (heap_new wr _ rfl), List.getElem?_toArray]
        exact hu
      have hbel1 : Below w.heap.size w w1 := by rw [hw1]; exact hbel.alloc hsize _
      have hg1 : wr.grownBy w1 u3.ownBlock := by rw [hw1]; exact World.grownBy_alloc _ _ _
      rw [← hw1] at hown1
      have hrow : ∀ g, u3.ownBlock = some g → w.heap.size ≤ g := fun g hg => own_base hown hg
      have hsz1 := hbel1.size
      have HR := Lib.hid hrow; have HC1 := Lib.hid hc1; have HB1 := Lib.hid hbel1
      clear hw1 hg1 hown hbel hrow hc1 hbel1 hc
      go_wp2_with (at_builtin; refine wpList_append_own _ rfl _ _ 22 rfl w.heap.size 5 i0 (.int .u8 0) 1 1 Tryz.underlying22 hi hz hsz hby rfl (by decide) _ _ _ rfl hown1 ⟨wr.heap.size, 0, none⟩ 2 2 (cellsOf .u8 (put2 zs[k])) rfl rfl HC1.out ?c2 ?c3 ?c4 ?c5 ?_)
      case c2 => intro u hu; simp [put2] at hu; rcases hu with rfl | rfl <;> rfl
      case c3 => unfold maxLen; omega
      case c4 => omega
      case c5 => omega
      intro v' w2 hown2 hgrow2 _
      rw [← List.map_append, ← pk_snoc zs k hlt] at hown2
      have hbel2 := HB1.out.grown hgrow2 hsz1 HR.out
      have HO := Lib.hid hown2; have HBL := Lib.hid hbel2
      clear hown2 hbel2 hgrow2 hown1
      go_wp2_with fail
      exact ⟨⟨k + 1, by omega, by go_num, HO.out, HBL.out⟩, by simp [intOf]; omega⟩
    · obtain rfl : k = zs.length := by omega
      obtain ⟨fq, hrv, hnv, hfv⟩ := Rd.of_own hown
      clear hown
      have HBL := Lib.hid hbel; clear hbel
      go_wp2
      go_ret
      exact ⟨_, fq, rfl, hrv, hnv, hfv, HBL.out⟩

end Go.Proofs.YtldimfmhbdhbnaaGreat
