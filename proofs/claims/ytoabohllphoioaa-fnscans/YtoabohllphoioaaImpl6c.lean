/-
  The program's functions of chapter 6, third part: scanning.
-/
import Derived.Test.YtoabohllphoioaaImpl6b
import Derived.Test.YtoabohllphoioaaImpl2c
import Derived.Test.YtoabohllphoioaaSpec6d
namespace Go.Proofs.Ytoabohllphoioaa
open Go.RowKit

theorem scanPred (f : Int) (B : Nat) (w : World) (h1 : w.cell? ⟨B, 0, none⟩ = some (.int .i64 f)) (l1 : B < w.heap.size) :
    PredRow 68 #[.pointer (some ⟨B, 0, none⟩)] (fun r => decide (f ≤ keyR r)) w := by
  intro W x hx hb
  have g1 : W.cell? ⟨B, 0, none⟩ = some (.int .i64 f) := (hb.cell (p := ⟨B, 0, none⟩) l1).trans h1
  have m1 : B < W.heap.size := Nat.lt_of_lt_of_le l1 hb.size
  have HX := Lib.hid hx
  clear hb h1 l1 hx
  have g2 := ((below_new (w := W) (rbox x)).cell (p := ⟨B, 0, none⟩) m1).trans g1
  obtain ⟨c0, c1, c2, c3, _, _, _, _, hz⟩ := four_at (heap_new W (rbox x) rfl)
  have hB0 : Below W.heap.size W (W.alloc (rbox x)) := below_new _
  have hBz : B < (W.alloc (rbox x)).heap.size := Nat.lt_of_lt_of_le m1 hB0.size
  have HB0 := Lib.hid hB0
  clear g1 m1 hB0
  show Calls Try.prog 68 #[rv x, .pointer (some ⟨B, 0, none⟩)] W fun e w' => e = .returned (.bool (decide (f ≤ keyR x))) ∧ Below W.heap.size W w'
  go_enter Try.func68, Try.ntmps68
  go_wp2_with fail
  generalize hW1 : W.alloc (rbox x) = W1 at *
  have HW1 := Lib.hid hW1; clear hW1
  go_region_held3 (fun w' => w'.cell? ⟨W.heap.size, 0, none⟩ = some (.int .i64 x.1) ∧ w'.cell? ⟨W.heap.size, 1, none⟩ = some (.int .i64 x.2.1) ∧ w'.cell? ⟨W.heap.size, 2, none⟩ = some (.int .i64 x.2.2.1) ∧ w'.cell? ⟨W.heap.size, 3, none⟩ = some (.int .i64 x.2.2.2) ∧ w'.cell? ⟨B, 0, none⟩ = some (.int .i64 f))
    (first
      | go_keep
      | exact ⟨(hq1.cell (p := ⟨W.heap.size, 0, none⟩) hz).trans c0, (hq1.cell (p := ⟨W.heap.size, 1, none⟩) hz).trans c1, (hq1.cell (p := ⟨W.heap.size, 2, none⟩) hz).trans c2, (hq1.cell (p := ⟨W.heap.size, 3, none⟩) hz).trans c3, (hq1.cell (p := ⟨B, 0, none⟩) hBz).trans g2⟩)
    (first
      | (go_at_call 69
         refine (rowKey_b x _ HX.out).mono ?_
         rintro e z1 ⟨rfl, hbq⟩
         have hq1 : Below W1.heap.size W1 z1 := (Below.refl _ _).drew.trans hbq
         clear hbq))
  have HE := Lib.hid (HB0.out.trans (hq1.mono HB0.out.size))
  clear hq1
  go_wp2
  go_ret
  exact ⟨rfl, HE.out⟩

theorem cut_filter {L : List R} (h : Fits L) (f : Int) : L.filter (fun r => decide (f ≤ keyR r)) = cutR L f 100 := by
  unfold cutR
  refine List.filter_congr fun r hr => ?_
  obtain ⟨i, hi, rfl⟩ := List.mem_iff_getElem.1 hr
  have := h i hi
  have : keyR L[i] < 100 := by unfold Fit at this; unfold keyR; omega
  simp [this]

def AskScanPlaces : Prop := ∀ (p : Pl) (vf : Value) (f m : Int) (w : World) (fp : List Nat), plsz p ≤ 1048576 → (Lit.int .i64 p.mark).wf = true → WfF p.fs → (Lit.int .i64 f).wf = true → (Lit.int .i64 m).wf = true → PlAt w p vf fp →
  Calls Try.prog 17 #[plv p.mark vf, .int .i64 f, .int .i64 m] w (RResPost w (scC p f m) (scL p f m))

/-- The blocks of a call: two boxes, the answer's. -/
theorem three_new (w : World) (a b c : Obj) : Below w.heap.size w (((w.alloc a).alloc b).alloc c) ∧ (((w.alloc a).alloc b).alloc c).heap[w.heap.size]? = some a ∧ (((w.alloc a).alloc b).alloc c).heap[w.heap.size + 1]? = some b ∧ (((w.alloc a).alloc b).alloc c).heap[w.heap.size + 2]? = some c :=
  ⟨below_more (below_more (below_new _) _) _, heap_old (heap_old (heap_new w a rfl)), heap_old (heap_new _ b (by simp)), heap_new _ c (by simp)⟩
theorem one_at {w : World} {g : Nat} {u : Value} {t : TypeId} (h : w.heap[g]? = some (.cells #[u] t (0, 0))) : w.cell? ⟨g, 0, none⟩ = some u ∧ w.frozen? ⟨g, 0, none⟩ = false ∧ g < w.heap.size := ⟨cell_of_heap h, frozen_of_heap h, heap_lt h⟩

set_option maxRecDepth 100000 in
set_option maxHeartbeats 4000000 in
theorem implScanPlaces_a : AskScanPlaces := by
  intro p vf f m w fp hs wn hwf _ _ h
  obtain ⟨A, c, rfl⟩ := h.form
  obtain ⟨tb, t1, t2, t3⟩ := three_new w (.cells #[.slice A p.fs.length c, .int .i64 p.mark] 26) (.cells #[.int .i64 f] 2) (.cells #[.int .i64 0, .slice none 0 0] 31)
  have hcall := implRowsIn_a p (.slice A p.fs.length c) _ fp hs wn hwf (h.below' tb)
  obtain ⟨C1, hC1⟩ : ∃ x, x = riC p := ⟨_, rfl⟩
  obtain ⟨L1, hL1⟩ : ∃ x, x = riL p := ⟨_, rfl⟩
  rw [← hC1, ← hL1] at hcall
  have HC := Lib.hid hcall; have HB0 := Lib.hid tb; have HT1 := Lib.hid t1; have HT2 := Lib.hid t2; have HT3 := Lib.hid t3
  have h12 : L1.length ≤ 12 := by rw [hL1]; exact riL_len p
  have hCC : scC p f m = if C1 = 0 then (if inB f 0 100 then (if inB m 1 12 then 0 else 3) else 3) else C1 := by rw [hC1]; rfl
  have hLL : scL p f m = if scC p f m = 0 then (cutR L1 f 100).take (cap m (cutR L1 f 100).length) else [] := by
    unfold scL
    by_cases hz : scC p f m = 0
    · have h0 : placesF p = 0 := by
        unfold scC at hz
        split at hz
        · assumption
        · exact hz
      have : L1 = p.fs.flatten := by rw [hL1]; unfold riL; rw [if_pos h0]
      rw [if_pos hz, if_pos hz, this]
    · rw [if_neg hz, if_neg hz]
  have hfit : C1 = 0 → Fits L1 := fun e => by
    have h0 : placesF p = 0 := by have h := hC1; unfold riC at h; rw [← h]; exact e
    have : L1 = p.fs.flatten := by rw [hL1]; unfold riL; rw [if_pos h0]
    rw [this]; exact files_fits h0
  rw [hLL, hCC]
  have HFIT := Lib.hid hfit
  clear h tb t1 t2 t3 hwf hs wn hcall hC1 hL1 hCC hLL hfit
  obtain ⟨c0, c1, _, _, cz⟩ := two_at HT1.out
  by_cases h0 : C1 = 0
  case neg =>
    rw [if_neg h0, if_neg h0]
    have t1 : (C1 != 0) = true := by simpa using h0
    clear h0
    go_enter Try.func17, Try.ntmps17
    go_wp2_with fail
    refine HC.out.mono ?_
    rintro e w1 ⟨q, rfl, ⟨v1, f1, rfl, hr1, hn1, hf1⟩, hb1⟩
    obtain ⟨A1, d1, rfl⟩ := hr1.rows_form
    have HB1 := Lib.hid (below_more (HB0.out.trans (hb1.mono HB0.out.size)) (.cells #[.int .i64 C1, .slice A1 L1.length d1] 31))
    have HG3 := Lib.hid (heap_old (o' := .cells #[.int .i64 C1, .slice A1 L1.length d1] 31) ((hb1.block _ (heap_lt HT3.out)).trans HT3.out))
    obtain ⟨y0, y1, z0, z1, z2⟩ := two_at HG3.out
    clear hb1 hr1 hn1 hf1 c0 c1 cz
    go_wp2_with fail
    exact bodyPost_ret (v := .agg #[.int .i64 C1, .slice none 0 0]) (by simp [results, Try.results17, go_sem, y0, y1]) rfl ⟨_, rfl, rres_nil _ _ _, HB1.out.trans ((But.two _ (w.heap.size + 2) 0 1 _ _).below HB1.out.size (by intro b hb; simp at hb; omega))⟩
  subst h0
  rw [if_pos rfl]
  have hfits := HFIT.out rfl
  have HFITS := Lib.hid hfits
  clear HFIT hfits
  by_cases g1 : f < 0
  case pos =>
    have e1 : inB f 0 100 = false := inB_false.2 (by omega)
    rw [e1]; simp only [Bool.false_eq_true, if_false]; rw [if_neg (by decide)]
    clear e1
    go_enter Try.func17, Try.ntmps17
    go_wp2_with fail
    refine HC.out.mono ?_
    rintro e w1 ⟨q, rfl, ⟨v1, f1, rfl, hr1, hn1, hf1⟩, hb1⟩
    obtain ⟨A1, d1, rfl⟩ := hr1.rows_form
    have HB1 := Lib.hid (below_more (HB0.out.trans (hb1.mono HB0.out.size)) (.cells #[.int .i64 0, .slice A1 L1.length d1] 31))
    have HG3 := Lib.hid (heap_old (o' := .cells #[.int .i64 0, .slice A1 L1.length d1] 31) ((hb1.block _ (heap_lt HT3.out)).trans HT3.out))
    have HG2 := Lib.hid (heap_old (o' := .cells #[.int .i64 0, .slice A1 L1.length d1] 31) ((hb1.block _ (heap_lt HT2.out)).trans HT2.out))
    obtain ⟨x0, _, _⟩ := one_at HG2.out
    obtain ⟨y0, y1, z0, z1, z2⟩ := two_at HG3.out
    clear hb1 hr1 hn1 hf1 c0 c1 cz
    go_wp2_with fail
    exact bodyPost_ret (v := .agg #[.int .i64 3, .slice none 0 0]) (by simp [results, Try.results17, go_sem, y0, y1]) rfl ⟨_, rfl, rres_nil _ _ _, HB1.out.trans ((But.two _ (w.heap.size + 2) 0 1 _ _).below HB1.out.size (by intro b hb; simp at hb; omega))⟩
  by_cases g2 : f ≤ 100
  case neg =>
    have e1 : inB f 0 100 = false := inB_false.2 (by omega)
    rw [e1]; simp only [Bool.false_eq_true, if_false]; rw [if_neg (by decide)]
    clear e1
    go_enter Try.func17, Try.ntmps17
    go_wp2_with fail
    refine HC.out.mono ?_
    rintro e w1 ⟨q, rfl, ⟨v1, f1, rfl, hr1, hn1, hf1⟩, hb1⟩
    obtain ⟨A1, d1, rfl⟩ := hr1.rows_form
    have HB1 := Lib.hid (below_more (HB0.out.trans (hb1.mono HB0.out.size)) (.cells #[.int .i64 0, .slice A1 L1.length d1] 31))
    have HG3 := Lib.hid (heap_old (o' := .cells #[.int .i64 0, .slice A1 L1.length d1] 31) ((hb1.block _ (heap_lt HT3.out)).trans HT3.out))
    have HG2 := Lib.hid (heap_old (o' := .cells #[.int .i64 0, .slice A1 L1.length d1] 31) ((hb1.block _ (heap_lt HT2.out)).trans HT2.out))
    obtain ⟨x0, _, _⟩ := one_at HG2.out
    obtain ⟨y0, y1, z0, z1, z2⟩ := two_at HG3.out
    clear hb1 hr1 hn1 hf1 c0 c1 cz
    go_wp2_with fail
    exact bodyPost_ret (v := .agg #[.int .i64 3, .slice none 0 0]) (by simp [results, Try.results17, go_sem, y0, y1]) rfl ⟨_, rfl, rres_nil _ _ _, HB1.out.trans ((But.two _ (w.heap.size + 2) 0 1 _ _).below HB1.out.size (by intro b hb; simp at hb; omega))⟩
  have e1 : inB f 0 100 = true := inB_true.2 (by omega)
  rw [e1]; simp only [if_true]
  clear e1
  by_cases g3 : m < 1
  case pos =>
    have e1 : inB m 1 12 = false := inB_false.2 (by omega)
    rw [e1]; simp only [Bool.false_eq_true, if_false]; rw [if_neg (by decide)]
    clear e1
    go_enter Try.func17, Try.ntmps17
    go_wp2_with fail
    refine HC.out.mono ?_
    rintro e w1 ⟨q, rfl, ⟨v1, f1, rfl, hr1, hn1, hf1⟩, hb1⟩
    obtain ⟨A1, d1, rfl⟩ := hr1.rows_form
    have HB1 := Lib.hid (below_more (HB0.out.trans (hb1.mono HB0.out.size)) (.cells #[.int .i64 0, .slice A1 L1.length d1] 31))
    have HG3 := Lib.hid (heap_old (o' := .cells #[.int .i64 0, .slice A1 L1.length d1] 31) ((hb1.block _ (heap_lt HT3.out)).trans HT3.out))
    have HG2 := Lib.hid (heap_old (o' := .cells #[.int .i64 0, .slice A1 L1.length d1] 31) ((hb1.block _ (heap_lt HT2.out)).trans HT2.out))
    obtain ⟨x0, _, _⟩ := one_at HG2.out
    obtain ⟨y0, y1, z0, z1, z2⟩ := two_at HG3.out
    clear hb1 hr1 hn1 hf1 c0 c1 cz
    go_wp2_with fail
    exact bodyPost_ret (v := .agg #[.int .i64 3, .slice none 0 0]) (by simp [results, Try.results17, go_sem, y0, y1]) rfl ⟨_, rfl, rres_nil _ _ _, HB1.out.trans ((But.two _ (w.heap.size + 2) 0 1 _ _).below HB1.out.size (by intro b hb; simp at hb; omega))⟩
  by_cases g4 : m ≤ 12
  case neg =>
    have e1 : inB m 1 12 = false := inB_false.2 (by omega)
    rw [e1]; simp only [Bool.false_eq_true, if_false]; rw [if_neg (by decide)]
    clear e1
    go_enter Try.func17, Try.ntmps17
    go_wp2_with fail
    refine HC.out.mono ?_
    rintro e w1 ⟨q, rfl, ⟨v1, f1, rfl, hr1, hn1, hf1⟩, hb1⟩
    obtain ⟨A1, d1, rfl⟩ := hr1.rows_form
    have HB1 := Lib.hid (below_more (HB0.out.trans (hb1.mono HB0.out.size)) (.cells #[.int .i64 0, .slice A1 L1.length d1] 31))
    have HG3 := Lib.hid (heap_old (o' := .cells #[.int .i64 0, .slice A1 L1.length d1] 31) ((hb1.block _ (heap_lt HT3.out)).trans HT3.out))
    have HG2 := Lib.hid (heap_old (o' := .cells #[.int .i64 0, .slice A1 L1.length d1] 31) ((hb1.block _ (heap_lt HT2.out)).trans HT2.out))
    obtain ⟨x0, _, _⟩ := one_at HG2.out
    obtain ⟨y0, y1, z0, z1, z2⟩ := two_at HG3.out
    clear hb1 hr1 hn1 hf1 c0 c1 cz
    go_wp2_with fail
    exact bodyPost_ret (v := .agg #[.int .i64 3, .slice none 0 0]) (by simp [results, Try.results17, go_sem, y0, y1]) rfl ⟨_, rfl, rres_nil _ _ _, HB1.out.trans ((But.two _ (w.heap.size + 2) 0 1 _ _).below HB1.out.size (by intro b hb; simp at hb; omega))⟩
  have e1 : inB m 1 12 = true := inB_true.2 (by omega)
  rw [e1]; simp only [if_true]
  clear e1
  have eg : ∀ args w, (callFunc 68 args).run Try.prog w = .ok (.enter 68 args) w := enters_of Try.func68 (by kernel_rfl) rfl
  have hfl := cut_filter HFITS.out f
  generalize hS : cutR L1 f 100 = S at *
  have HFL := Lib.hid hfl
  have hmi : (min m (S.length : Int)).toNat = cap m S.length := by unfold cap; split <;> omega
  have hcl := cap_le m S.length
  generalize cap m S.length = k at *
  have EG := Lib.hid eg
  clear hfl hS eg
  go_enter Try.func17, Try.ntmps17
  go_wp2_with fail
  refine HC.out.mono ?_
  rintro e w1 ⟨q, rfl, ⟨v1, f1, rfl, hr1, hn1, hf1⟩, hb1⟩
  obtain ⟨A1, d1, rfl⟩ := hr1.rows_form
  have HB1 := Lib.hid (below_more (HB0.out.trans (hb1.mono HB0.out.size)) (.cells #[.int .i64 0, .slice A1 L1.length d1] 31))
  have HG3 := Lib.hid (heap_old (o' := .cells #[.int .i64 0, .slice A1 L1.length d1] 31) ((hb1.block _ (heap_lt HT3.out)).trans HT3.out))
  have HG2 := Lib.hid (heap_old (o' := .cells #[.int .i64 0, .slice A1 L1.length d1] 31) ((hb1.block _ (heap_lt HT2.out)).trans HT2.out))
  have HR1 := Lib.hid (hr1.alloc (.cells #[.int .i64 0, .slice A1 L1.length d1] 31))
  obtain ⟨x0, _, xz⟩ := one_at HG2.out
  have HPR := Lib.hid (scanPred f (w.heap.size + 1) _ x0 xz)
  clear hb1 hr1 hn1 hf1 c0 c1 cz
  go_wp2_with fail
  refine (keep_c 68 #[.pointer (some ⟨w.heap.size + 1, 0, none⟩)] (fun r => decide (f ≤ keyR r)) EG.out A1 d1 L1 _ f1 (by omega) HFITS.out HPR.out HR1.out).mono ?_
  rw [HFL.out]
  rintro e w3 ⟨v3, fv3, rfl, hrv3, hnv3, hfv3, hb3, _⟩
  obtain ⟨A3, c3, rfl⟩ := hrv3.rows_form
  have hz1 := heap_lt HG3.out
  have hg3 := (hb3.block _ hz1).trans HG3.out
  obtain ⟨y0, y1, z0, z1, z2⟩ := two_at hg3
  obtain ⟨fk, hrk, hfk⟩ := hrv3.rows_take k hcl
  have hst := rres_stored (code := 0) (g := w.heap.size + 2) (HB1.out.trans (hb3.mono HB1.out.size)) (by omega) hrk (fun x hx => hnv3 x (hfk x hx)) (fun x hx => by have := hfv3 x (hfk x hx); omega)
  have HX := Lib.hid hst
  have hcc := rcap hrv3
  have hcm := hrv3.len_le
  clear hrv3 hnv3 hfv3 hb3 hg3 hrk hfk hst x0 xz
  go_wp2_with fail
  exact bodyPost_ret (v := .agg #[.int .i64 0, .slice A3 k c3]) (by simp [results, Try.results17, go_sem, y0, y1]) rfl ⟨_, rfl, HX.out.1, HX.out.2⟩
end Go.Proofs.Ytoabohllphoioaa
