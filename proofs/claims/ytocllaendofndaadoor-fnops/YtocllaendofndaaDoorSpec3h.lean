/-
  Contracts of the model's functions of chapter 3, seventh part: the text of an operation.
-/
import Derived.Test.YtocllaendofndaaDoorSpec3g
import Derived.Test.YtocllaendofndaaDoorG4
namespace Go.Proofs.YtocllaendofndaaDoor
open Go.RowKit

/-- The words' block. -/
abbrev wbox : Obj := .cells #[.string ⟨#[]⟩, .string ⟨#[114, 101, 99, 101, 105, 118, 101]⟩, .string ⟨#[116, 97, 107, 101]⟩, .string ⟨#[114, 101, 115, 101, 114, 118, 101]⟩, .string ⟨#[99, 111, 109, 109, 105, 116]⟩, .string ⟨#[114, 101, 108, 101, 97, 115, 101]⟩, .string ⟨#[116, 114, 97, 110, 115, 102, 101, 114]⟩, .string ⟨#[116, 105, 99, 107]⟩] 9
theorem l3Words_c (w : World) : Calls Tryd.prog 48 #[] w fun e w' => e = .returned (.slice (some ⟨w.heap.size, 0, none⟩) 8 8) ∧ Below w.heap.size w w' ∧ w'.heap[w.heap.size]? = some wbox := by
  go_enter Tryd.func48, Tryd.ntmps48
  go_wp2
  go_ret
  exact ⟨rfl, below_new _, heap_new w _ rfl⟩
theorem words_at {w : World} {g kn : Nat} (h : w.heap[g]? = some wbox) (h1 : 1 ≤ kn) (h7 : kn ≤ 7) : w.cell? ⟨g, kn, none⟩ = some (.string ⟨(wordL kn).toArray⟩) := by
  have hk : kn = 1 ∨ kn = 2 ∨ kn = 3 ∨ kn = 4 ∨ kn = 5 ∨ kn = 6 ∨ kn = 7 := by omega
  rcases hk with rfl | rfl | rfl | rfl | rfl | rfl | rfl <;> exact cell_of_heap h

theorem str_app3 (A B : List UInt8) : (⟨A.toArray⟩ : ByteArray) ++ ⟨#[32]⟩ ++ ⟨B.toArray⟩ = ⟨(A ++ 32 :: B).toArray⟩ := by
  have h1 := str_app A [32]
  have h2 := str_app (A ++ [32]) B
  rw [show (⟨#[32]⟩ : ByteArray) = ⟨[32].toArray⟩ from rfl, h1, h2]
  simp
/-- The text as far as the numbers ahead of the k-th. -/
def txt (o : O) (k : Nat) : List UInt8 := wordL o.k ++ (((opL o).take k).drop 1).flatMap fun z => 32 :: digits z.toNat
theorem txt_one (o : O) : txt o 1 = wordL o.k := by simp [txt, opL]
theorem txt_seven (o : O) : txt o 7 = textL o := by simp [txt, opL, textL, glue]
theorem txt_succ (o : O) (k : Nat) (h1 : 1 ≤ k) (hk : k < (opL o).length) : txt o (k + 1) = txt o k ++ 32 :: digits ((opL o)[k]).toNat := by
  have h7 : k = 1 ∨ k = 2 ∨ k = 3 ∨ k = 4 ∨ k = 5 ∨ k = 6 := by simp [opL] at hk; omega
  rcases h7 with rfl | rfl | rfl | rfl | rfl | rfl <;> simp [txt, opL, List.append_assoc]
theorem word_len (k : Int) : (wordL k).length ≤ 8 := by unfold wordL; repeat' split
                                                        all_goals decide
theorem opL_small {o : O} (h : opF o = 0) (k : Nat) (hk : k < (opL o).length) : 0 ≤ (opL o)[k] ∧ (opL o)[k] ≤ 9999 := by
  have := opF_zero h
  have h7 : k = 0 ∨ k = 1 ∨ k = 2 ∨ k = 3 ∨ k = 4 ∨ k = 5 ∨ k = 6 := by simp [opL] at hk; omega
  rcases h7 with rfl | rfl | rfl | rfl | rfl | rfl | rfl <;> simp [opL] <;> omega
theorem txt_len {o : O} (h : opF o = 0) (k : Nat) (hk : k ≤ 7) : (txt o k).length ≤ 8 + 10001 * k := by
  induction k with
  | zero => have := word_len o.k; simp [txt]; omega
  | succ k ih =>
    by_cases h0 : k = 0
    · subst h0; rw [txt_one]; have := word_len o.k; omega
    · have hl : k < (opL o).length := by simp [opL]; omega
      rw [txt_succ o k (by omega) hl]
      have h1 := opL_small h k hl
      have h2 := digits_len ((opL o)[k]).toNat
      have := ih (by omega)
      simp
      omega

set_option maxRecDepth 100000 in
set_option maxHeartbeats 4000000 in
theorem l3Text_c (b off : Nat) (o : O) (w : World) (h : OpAt w b off o) (h0 : opF o = 0) :
    Calls Tryd.prog 31 #[.pointer (some ⟨b, off, none⟩)] w fun e w' => e = .returned (.string ⟨(textL o).toArray⟩) ∧ Below w.heap.size w w' := by
  have hz := (opF_zero h0).1
  obtain ⟨kn, hkn⟩ : ∃ kn : Nat, o.k = kn := ⟨o.k.toNat, by omega⟩
  have hk1 : 1 ≤ kn := by omega
  have hk7 : kn ≤ 7 := by omega
  have hk8 : (kn : Int) < 8 := by omega
  have HA := Lib.hid h; have H0 := Lib.hid h0
  obtain ⟨hb, c0, c1, c2, c3, c4, c5, c6⟩ := h
  rw [hkn] at c0
  have ht1 := txt_one o
  rw [hkn] at ht1
  have HT1 := Lib.hid ht1
  rw [← txt_seven]
  clear ht1 hz h0 c1 c2 c3 c4 c5 c6
  have HK := Lib.hid hkn; clear hkn
  go_enter Tryd.func31, Tryd.ntmps31
  go_upto_region 1 with (fail)
  have hld : ∀ w', Below w.heap.size w w' → w'.cell? ⟨b, off, none⟩ = some (.int .i64 kn) ∧ b < w'.heap.size := fun w' h => ⟨(h.cell (p := ⟨b, _, none⟩) hb).trans c0, Nat.lt_of_lt_of_le hb h.size⟩
  have HLD := Lib.hid hld; clear hld
  refine wp_region_sched (fun w' => Below w.heap.size w w') [(1, true), (2, true), (3, true), (4, true), (0, false), (5, true), (6, false), (7, true)] (by kernel_rfl) (by kernel_rfl) (by kernel_rfl) (by kernel_rfl) (fun _ _ d _ _ h => by cases d <;> exact h) ⟨rfl, rfl, rfl, Nat.le_refl _, fun _ _ => rfl⟩ ?_
  simp only [opsOf, List.filterMap_cons, List.filterMap_nil, Option.map_some, List.getElem?_toArray, List.getElem?_cons_zero, List.getElem?_cons_succ]
  generalize hW0 : ({ heap := w.heap, tape := w.tape, drawn := w.drawn + 1, os := w.os, output := w.output } : World) = v0
  have hv0 : Below w.heap.size w v0 := by rw [← hW0]; exact ⟨rfl, rfl, rfl, Nat.le_refl _, fun _ _ => rfl⟩
  clear hW0
  refine sched_run (v := ?_) (by rfl) ?_ ?_
  rotate_left
  · (intro w' hS'; go_simp; try with_reducible rfl)
  try simp only [Act.put, List.setIfInBounds_toArray, List.set_cons_zero, List.set_cons_succ]
  refine sched_run (v := ?_) (by rfl) ?_ ?_
  rotate_left
  · (intro w' hS'; go_simp; try with_reducible rfl)
  try simp only [Act.put, List.setIfInBounds_toArray, List.set_cons_zero, List.set_cons_succ]
  refine sched_run (v := ?_) (by rfl) ?_ ?_
  rotate_left
  · (intro w' hS'; go_simp; try with_reducible rfl)
  try simp only [Act.put, List.setIfInBounds_toArray, List.set_cons_zero, List.set_cons_succ]
  refine sched_run (v := ?_) (by rfl) ?_ ?_
  rotate_left
  · (intro w' hS'; obtain ⟨a0, az⟩ := HLD.out w' hS'; go_simp; try with_reducible rfl)
  try simp only [Act.put, List.setIfInBounds_toArray, List.set_cons_zero, List.set_cons_succ]
  refine sched_call (by rfl) (fun K hK => ?_)
  go_simp
  refine (l3Words_c _).mono ?_
  rintro e v1 ⟨rfl, hbv0, hwd⟩
  have hv1 : Below w.heap.size w v1 := hv0.trans (hbv0.mono hv0.size)
  have hwc := words_at hwd hk1 hk7
  have hwz := heap_lt hwd
  clear hbv0
  refine hK _ _ hv1 ?_
  try simp only [Act.put, List.setIfInBounds_toArray, List.set_cons_zero, List.set_cons_succ]
  refine sched_run (v := ?_) (by rfl) ?_ ?_
  rotate_left
  · (intro w' hS'; go_simp; try with_reducible rfl)
  try simp only [Act.put, List.setIfInBounds_toArray, List.set_cons_zero, List.set_cons_succ]
  refine sched_call (by rfl) (fun K hK => ?_)
  go_simp
  refine hK _ _ ?_ ?_
  · exact (hv1)
  try simp only [Act.put, List.setIfInBounds_toArray, List.set_cons_zero, List.set_cons_succ]
  refine sched_run (v := ?_) (by rfl) ?_ ?_
  rotate_left
  · (intro w' hS'; go_simp; try with_reducible rfl)
  try simp only [Act.put, List.setIfInBounds_toArray, List.set_cons_zero, List.set_cons_succ]
  refine sched_done ?_
  rw [← HT1.out]
  have HA1 := Lib.hid (HA.out.below hv1); have HB1 := Lib.hid hv1
  clear hv0 hv1 hwc hwz hwd HLD c0 hb HA
  go_wp2_with fail
  refine (l3List_c b off o _ HA1.out).mono ?_
  rintro e w2 ⟨A, c, fp, rfl, hr, hn, hf, hb2⟩
  have HR := Lib.hid hr
  have HB2 := Lib.hid (HB1.out.trans (hb2.mono HB1.out.size))
  rw [show (opL o).length = 7 from rfl]
  clear hr hn hf hb2
  go_wp2_with fail
  go_loopw [3, 5] (fun out i wr => ∃ k : Nat, 1 ≤ k ∧ k ≤ 7 ∧ i = .int .i64 k ∧ out = .string ⟨(txt o k).toArray⟩ ∧ Below w2.heap.size w2 wr) (fun _ i _ => 7 - (intOf i).toNat)
  case atStart => exact ⟨1, Nat.le_refl _, by omega, rfl, rfl, Below.refl _ _⟩
  case round =>
    obtain ⟨k, hk1', hk, rfl, rfl, hbel⟩ := hrel
    by_cases hlt : k < 7
    · have hlo : k < (opL o).length := hlt
      have hr' := HR.out.below' hbel
      obtain ⟨b2, off2, hA, _, hb2, hc⟩ := hr'.ints_at hlo
      subst hA
      have hsm := opL_small H0.out k hlo
      have hsu := txt_succ o k hk1' hlo
      have hln := txt_len H0.out k hk
      obtain ⟨n, hn⟩ : ∃ n : Nat, (opL o)[k] = n := ⟨(opL o)[k].toNat, by omega⟩
      rw [hn] at hc hsm hsu
      have hn9 : n ≤ 99999 := by omega
      rw [Int.toNat_natCast] at hsu
      have hdl := digits_len n
      have hT : (txt o k).length ≤ 100000 := by omega
      have hT2 : (digits n).length ≤ 100000 := by omega
      have HSU := Lib.hid hsu; have HB := Lib.hid hbel
      clear hr' hbel hn hsu hsm hdl hln
      generalize txt o k = T at *
      go_wp2_with fail
      refine (l1Digits_c n hn9 _).mono ?_
      rintro e w3 ⟨rfl, hb3⟩
      have HB3 := Lib.hid (HB.out.trans (hb3.mono HB.out.size)); clear hb3 hc
      generalize digits n = D at *
      go_wp2_with fail
      exact ⟨⟨k + 1, by omega, by omega, rfl, by rw [HSU.out]; exact congrArg Value.string (str_app3 T D), HB3.out⟩, by simp [intOf]; omega⟩
    · obtain rfl : k = 7 := by omega
      go_wp2_with fail
      go_ret
      exact ⟨rfl, HB2.out.trans (hbel.mono HB2.out.size)⟩

/-- The block of a code and a text. -/
abbrev tbox (C : Int) (s : ByteArray) : Obj := .cells #[.int .i64 C, .string s] 37
set_option maxRecDepth 100000 in
set_option maxHeartbeats 4000000 in
theorem specOpText_a (o : O) (w : World) : Calls Tryd.prog 19 #[ov o] w fun e w' => e = .returned (.agg #[.int .i64 (opF o), .string ⟨(otL o).toArray⟩]) ∧ Below w.heap.size w w' := by
  have hat : OpAt ((w.alloc (obox o)).alloc (tbox 0 ⟨#[]⟩)) w.heap.size 0 o := (OpAt.new w o).below (below_new _)
  have hB : Below w.heap.size w ((w.alloc (obox o)).alloc (tbox 0 ⟨#[]⟩)) := below_more (below_new _) _
  have HA := Lib.hid hat; have HB := Lib.hid hB
  clear hat hB
  by_cases h0 : opF o = 0
  · have e : otL o = textL o := by unfold otL; rw [if_pos h0]
    rw [h0, e]
    have H0 := Lib.hid h0; clear h0 e
    generalize hT : textL o = T
    have HT := Lib.hid hT; clear hT
    go_enter Tryd.func19, Tryd.ntmps19
    go_wp2_with fail
    refine (l3Fault_c w.heap.size 0 o _ HA.out).mono ?_
    rintro e w1 ⟨rfl, hb1⟩
    rw [H0.out]
    have HB1 := Lib.hid hb1; clear hb1
    go_wp2_with fail
    refine (l3Text_c w.heap.size 0 o _ (HA.out.below HB1.out) H0.out).mono ?_
    rintro e w2 ⟨rfl, hb2⟩
    rw [HT.out]
    have hb2' := HB1.out.trans (hb2.mono HB1.out.size)
    have hg2 : w2.heap[w.heap.size + 1]? = some (tbox 0 ⟨#[]⟩) := (hb2'.block _ (by simp)).trans (heap_new (w.alloc (obox o)) _ (by simp))
    obtain ⟨c0, c1, z0, z1, hz⟩ := two_at hg2
    have HB2 := Lib.hid (HB.out.trans (hb2'.mono (by simp; omega)))
    clear hb2 hb2' hg2
    go_wp2_with fail
    exact bodyPost_ret (v := .agg #[.int .i64 0, .string ⟨T.toArray⟩]) (by simp [results, Tryd.results19, go_sem, c0, c1]) rfl ⟨rfl, (HB2.out.setCell (by simp) _).setCell (by simp) _⟩
  · have e : otL o = [] := by unfold otL; rw [if_neg h0]
    rw [e]
    generalize hC : opF o = C at h0
    have HC := Lib.hid hC
    clear hC e
    have hne : (C != 0) = true := by simpa using h0
    go_enter Tryd.func19, Tryd.ntmps19
    go_wp2_with fail
    refine (l3Fault_c w.heap.size 0 o _ HA.out).mono ?_
    rintro e w1 ⟨rfl, hb1⟩
    rw [HC.out]
    have hg1 : w1.heap[w.heap.size + 1]? = some (tbox 0 ⟨#[]⟩) := (hb1.block _ (by simp)).trans (heap_new (w.alloc (obox o)) _ (by simp))
    obtain ⟨c0, c1, z0, z1, hz⟩ := two_at hg1
    have HB1 := Lib.hid (HB.out.trans (hb1.mono (by simp; omega)))
    clear hb1 hg1
    go_wp2_with fail
    exact bodyPost_ret (v := .agg #[.int .i64 C, .string ⟨#[]⟩]) (by simp [results, Tryd.results19, go_sem, c0, c1]) rfl ⟨rfl, (HB1.out.setCell (by simp) _).setCell (by simp) _⟩
end Go.Proofs.YtocllaendofndaaDoor
