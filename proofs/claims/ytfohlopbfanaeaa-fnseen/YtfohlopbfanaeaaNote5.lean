/-
  The model's l5Note: a request added to a copy, the oldest dropped.
-/
import Derived.Test.YtfohlopbfanaeaaApp2
import Derived.Test.YtfohlopbfanaeaaSpec5a
import Derived.Deep.RegionLaw
import Derived.Deep.DeepCutAuto
namespace Go.Proofs.Ytfohlopbfanaeaa
open Go.RowKit

/-- What is answered: a slice in new memory that reads as the list. -/
def EPost {α : Type} (ec : α → List Value) (K : Nat) (w : World) (l : List α) (e : Ending) (w' : World) : Prop :=
  ∃ v fp, e = .returned v ∧ Rd w' K v (ecs ec l) fp ∧ NF w' fp ∧ From w.heap.size fp ∧ Below w.heap.size w w'
theorem own_emptyE {w : World} {t : TypeId} {base : Nat} (K : Nat) (hb : base ≤ w.heap.size) : (w.alloc (.cells #[] t)).ownsRow base t K (.slice (some ⟨w.heap.size, 0, none⟩) 0 0) 0 [] :=
  ⟨by simp, .inr ⟨w.heap.size, 0, #[], rfl, hb, heap_new w _ rfl, by omega, by unfold maxLen; omega, by simp, by simp⟩⟩
theorem sc_one (x : Sn) : ∀ u ∈ sc x, u.oneCell' = true := by intro u hu; simp [sc] at hu; rcases hu with rfl | rfl <;> rfl
theorem scs_one (l : List Sn) : ∀ u ∈ ecs sc l, u.oneCell' = true := by
  intro u hu
  unfold ecs at hu
  rw [List.mem_flatMap] at hu
  obtain ⟨x, _, hx⟩ := hu
  exact sc_one x u hx
/-- A slice of one element in a block of its own. -/
theorem rd_one {w : World} {g : Nat} {x : Sn} {t : TypeId} (h : w.heap[g]? = some (.cells #[.int .i64 x.rq, .int .i64 x.vl] t (0, 0))) : Rd w 2 (.slice (some ⟨g, 0, none⟩) 1 1) (sc x) [g] := by
  refine ⟨_, 1, 1, rfl, rfl, by unfold maxLen; omega, Nat.le_refl _, .inr ⟨g, 0, rfl, rfl, heap_lt h, fun i u hu => ?_⟩⟩
  rw [Nat.zero_add, cell_of_heap h, ← hu]
  unfold sc
  simp
/-- The rest of a slice. -/
theorem Rd.drop {α : Type} {ec : α → List Value} {K : Nat} (hK : ∀ a, (ec a).length = K) {w : World} {l : List α} {fp : List Nat} {b off c n k : Nat} (hn : n = l.length) (h : Rd w K (.slice (some ⟨b, off, none⟩) n c) (ecs ec l) fp) (hk : k < l.length) :
    Rd w K (.slice (some ⟨b, off + k * K, none⟩) (n - k) (c - k)) (ecs ec (l.drop k)) fp := by
  subst hn
  obtain ⟨A', n', c', e, h1, h2, h2', h3⟩ := h
  injection e with e1 e2 e3
  subst e1 e2 e3
  rcases h3 with ⟨h3, _⟩ | ⟨b', off', hA, rfl, hlt, hc⟩
  · omega
  · injection hA with hA; injection hA with e1 e2 _
    subst e1 e2
    refine ⟨_, _, _, rfl, by rw [ecs_length hK, List.length_drop], by omega, by omega, .inr ⟨b, _, rfl, rfl, hlt, fun i u hu => ?_⟩⟩
    have e : ecs ec l = ecs ec (l.take k) ++ ecs ec (l.drop k) := by rw [← ecs_append, List.take_append_drop]
    have hl : (ecs ec (l.take k)).length = k * K := by rw [ecs_length hK, List.length_take, Nat.min_eq_left (by omega)]
    have := hc (k * K + i) u (by rw [e, List.getElem?_append_right (by omega), hl, Nat.add_sub_cancel_left]; exact hu)
    rwa [← Nat.add_assoc] at this
theorem own_form {w : World} {base : Nat} {e : TypeId} {size n : Nat} {v : Value} {xs : List Value} (h : w.ownsRow base e size v n xs) (hn : 0 < n) : ∃ g cap, v = .slice (some ⟨g, 0, none⟩) n cap ∧ n ≤ cap ∧ cap ≤ maxLen := by
  obtain ⟨h1, h2⟩ := h
  rcases h2 with ⟨rfl, h0⟩ | ⟨g, cap, cur, rfl, hg, hh, hnc, hcm, hcs, htk⟩
  · omega
  · exact ⟨g, cap, rfl, hnc, hcm⟩
theorem own_baseE {w : World} {base : Nat} {e : TypeId} {size n g : Nat} {v : Value} {xs : List Value} (h : w.ownsRow base e size v n xs) (hg : v.ownBlock = some g) : base ≤ g := by
  obtain ⟨h1, h2⟩ := h
  rcases h2 with ⟨rfl, _⟩ | ⟨g', cap, cur, rfl, hb, _⟩
  · simp [Value.ownBlock] at hg
  · simp [Value.ownBlock] at hg; omega

/-- Behind the two appends. -/
structure Noted (w : World) (l : List Sn) (x : Sn) (v : Value) (wc : World) : Prop where
  own : wc.ownsRow (w.heap.size + 1) 64 2 v (l.length + 1) (ecs sc (l ++ [x]))
  bel : Below w.heap.size w wc

set_option maxRecDepth 100000 in
set_option maxHeartbeats 4000000 in
theorem l5Note_c (A : Option Addr) (c : Nat) (l : List Sn) (x : Sn) (w : World) (fp : List Nat) (hl : l.length ≤ 1000) (ha : Rd w 2 (.slice A l.length c) (ecs sc l) fp) :
    Calls Try.prog 77 #[.slice A l.length c, sv x] w (EPost sc 2 w (if l.length < 6 then l ++ [x] else (l ++ [x]).drop 1)) := by
  obtain ⟨i0, hi, hz, hsz, hby⟩ := infoSeen
  have HA := Lib.hid ha; clear ha
  generalize hR : (if l.length < 6 then l ++ [x] else (l ++ [x]).drop 1) = R
  have HR := Lib.hid hR; clear hR
  go_enter Try.func77, Try.ntmps77
  go_upto_region 1 with (fail)
  have hz1 : (w.alloc (.cells #[.int .i64 x.rq, .int .i64 x.vl] 64)).heap.size = w.heap.size + 1 := by simp
  have hg0 := heap_new w (.cells #[.int .i64 x.rq, .int .i64 x.vl] 64) rfl
  have HAW := Lib.hid (HA.out.alloc (.cells #[.int .i64 x.rq, .int .i64 x.vl] 64))
  have HBW := Lib.hid (below_new (w := w) (.cells #[.int .i64 x.rq, .int .i64 x.vl] 64))
  generalize w.alloc (.cells #[.int .i64 x.rq, .int .i64 x.vl] 64) = W at *
  obtain ⟨x0, x1, _, _, hzx⟩ := pair_at5 hg0
  have HZ := Lib.hid hz1
  clear hz1 hg0
  have ow : ∀ (X : World), w.heap.size + 1 ≤ X.heap.size → (X.alloc (.cells #[] 64)).ownsRow (w.heap.size + 1) 64 2 (.slice (some ⟨X.heap.size, 0, none⟩) 0 0) 0 [] := fun X h => own_emptyE 2 h
  have ow3 : ∀ (o : Obj), ((W.alloc o).alloc (.cells #[] 64)).ownsRow (w.heap.size + 1) 64 2 (.slice (some ⟨W.heap.size + 1, 0, none⟩) 0 0) 0 [] := fun o => by
    have := own_emptyE (w := W.alloc o) (t := 64) (base := w.heap.size + 1) 2 (by have := HZ.out; simp <;> omega)
    simpa using this
  have OW := Lib.hid ow; have OW3 := Lib.hid ow3; clear ow ow3
  go_cut [5] (fun p wc => Hid (Noted w l x p wc))
  case first =>
    have hle : w.heap.size + 1 ≤ W.heap.size := Nat.le_of_eq HZ.out.symm
    go_region_law (first
      | (refine step_append_rd rfl (.tmp 6) (.tmp 7) 46 rfl (w.heap.size + 1) 64 i0 (sv ⟨0, 0⟩) 2 16 Try.underlying46 hi hz hsz hby rfl (by decide) _ 0 [] rfl (by first | exact OW.out W hle | exact (OW.out W hle).alloc _ | exact OW3.out _) A l.length c (ecs sc l) fp rfl (by first | exact HAW.out.alloc _ | exact (HAW.out.alloc _).alloc _) (scs_one l) (by unfold maxLen; omega) (by omega) (by simp <;> omega) ?_
         intro v1 w1 hown1 hgrow1
         simp only [Nat.zero_add, List.nil_append] at hown1
         have hb1 : Below W.heap.size W w1 := Below.grown (by first | exact ((Below.refl _ _).alloc (Nat.le_refl _) _).drew | exact (((Below.refl _ _).alloc (Nat.le_refl _) _).alloc (by simp) _).drew) hgrow1 (by simp <;> omega) (fun k hk => by first | (have h' : some W.heap.size = some k := hk; injection h' with h'; omega) | (have h' : some (W.heap.size + 1) = some k := hk; injection h' with h'; omega))
         have y0 := (hb1.cell (p := ⟨w.heap.size, 0, none⟩) hzx).trans x0
         have y1 := (hb1.cell (p := ⟨w.heap.size, 1, none⟩) hzx).trans x1
         have HGR := Lib.hid hgrow1
         clear hgrow1)
      | (refine step_append_rd rfl (.tmp 8) (.tmp 10) 46 rfl (w.heap.size + 1) 64 i0 (sv ⟨0, 0⟩) 2 16 Try.underlying46 hi hz hsz hby rfl (by decide) _ l.length (ecs sc l) rfl (by first | exact hown1 | exact hown1.alloc _) _ 1 1 (sc x) _ rfl (by first | exact rd_one (heap_new w1 _ rfl) | exact rd_one ((HGR.out.block (W.heap.size + 1) (by simp) (by simp [Act.eval, Value.ownBlock])).trans (heap_new (W.alloc _) _ (by simp))) | exact rd_one ((HGR.out.block W.heap.size (by simp <;> omega) (by simp [Act.eval, Value.ownBlock])).trans (heap_old (heap_new W _ rfl)))) (sc_one x) (by unfold maxLen; omega) (by omega) (by have := hb1.size; simp; omega) ?_
         intro v2 w2 hown2 hgrow2))
    all_goals
      go_wp2_with fail
      go_meet
      refine ⟨?_, HBW.out.trans ((Below.grown (by first | exact below_more hb1 _ | exact hb1) hgrow2 (by have := hb1.size; simp <;> omega) (fun k hk => ?_)).mono HBW.out.size)⟩
      · rw [ecs_append, show ecs sc [x] = sc x by simp [ecs]]; exact hown2
      · have := own_baseE hown1 hk; have := HZ.out; omega
  case rest =>
    obtain ⟨ho, hbl⟩ := hcut.out
    have HO := Lib.hid ho; have HBL := Lib.hid hbl
    obtain ⟨g, cap, rfl, hcap, hcm⟩ := own_form ho (by omega)
    obtain ⟨fq, hr, hn, hf⟩ := Rd.of_own ho
    have hl7 : l.length + 1 = (l ++ [x]).length := by simp
    clear hcut hbl ho
    have ⟨Y, hY⟩ : ∃ y, y = wc := ⟨_, rfl⟩
    subst hY
    clear x0 x1 hzx
    unfold maxLen at hcm
    by_cases h6 : l.length < 6
    · have hR : R = l ++ [x] := by rw [← HR.out, if_pos h6]
      subst hR
      have t1 : ¬ (6 : Int) < ((l.length + 1 : Nat) : Int) := by omega
      have HX := Lib.hid (And.intro hr (And.intro hn hf))
      clear hr hn hf hl7
      go_wp2
      go_ret
      exact ⟨_, fq, rfl, HX.out.1, HX.out.2.1, HX.out.2.2.mono (by omega), HBL.out⟩
    · have hR : R = (l ++ [x]).drop 1 := by rw [← HR.out, if_neg h6]
      have HRR := Lib.hid hR
      have t1 : (6 : Int) < ((l.length + 1 : Nat) : Int) := by omega
      have hdr := hr.drop sc_len hl7 (k := 1) (by simp; omega)
      have hdr2 : Rd Y 2 (.slice (some ⟨g, 2, none⟩) l.length (cap - 1)) (ecs sc R) fq := by rw [HRR.out]; simpa using hdr
      have HX := Lib.hid (And.intro hdr2 (And.intro hn hf))
      have i0 : (1 : Int) ≤ ((l.length + 1 : Nat) : Int) := by omega
      have i1 : ((l.length + 1 : Nat) : Int) ≤ (cap : Int) := by omega
      clear hr hn hf hl7 hdr hdr2 hR
      go_wp2
      go_ret
      exact ⟨_, fq, rfl, HX.out.1, HX.out.2.1, HX.out.2.2.mono (by omega), HBL.out⟩

theorem noteL_eq (l : List Sn) (x : Sn) : noteL l x = if l.length < 6 then l ++ [x] else (l ++ [x]).drop 1 := rfl
/-- A struct of a code and a slice, as a value, that reads as the list, in blocks from lo on. -/
def ERes {α : Type} (ec : α → List Value) (K : Nat) (w : World) (lo : Nat) (x : Value) (code : Int) (l : List α) : Prop :=
  ∃ v fp, x = .agg #[.int .i64 code, v] ∧ Rd w K v (ecs ec l) fp ∧ NF w fp ∧ From lo fp
def EResPost {α : Type} (ec : α → List Value) (K : Nat) (w : World) (code : Int) (l : List α) (e : Ending) (w' : World) : Prop :=
  ∃ x, e = .returned x ∧ ERes ec K w' w.heap.size x code l ∧ Below w.heap.size w w'

set_option maxRecDepth 100000 in
set_option maxHeartbeats 2000000 in
theorem specNoteSeen_c (A : Option Addr) (c : Nat) (l : List Sn) (x : Sn) (w : World) (fp : List Nat) (ha : Rd w 2 (.slice A l.length c) (ecs sc l) fp) :
    Calls Try.prog 38 #[.slice A l.length c, sv x] w (EResPost sc 2 w (noteC l x) (noteS l x)) := by
  generalize hC : noteC l x = C
  generalize hL : noteS l x = L
  have HC := Lib.hid hC; have HL := Lib.hid hL; clear hC hL
  have HA := Lib.hid ha; clear ha
  go_enter Try.func38, Try.ntmps38
  go_wp2_with fail
  generalize hW : ((w.alloc (.cells #[.int .i64 x.rq, .int .i64 x.vl] 64)).alloc (.cells #[.int .i64 0, .slice none 0 0] 62)) = W
  have HBW : Hid (Below w.heap.size w W) := by rw [← hW]; exact below_more (below_new _) _
  have GX : Hid (W.heap[w.heap.size]? = some (.cells #[.int .i64 x.rq, .int .i64 x.vl] 64 (0, 0))) := by rw [← hW]; exact heap_old (heap_new w _ rfl)
  have GR : Hid (W.heap[w.heap.size + 1]? = some (.cells #[.int .i64 0, .slice none 0 0] 62 (0, 0))) := by rw [← hW]; exact heap_new _ _ (by simp)
  clear hW
  refine (l5Seen_c A c l _ fp (HA.out.below' HBW.out)).mono ?_
  rintro e w1 ⟨rfl, m, hw⟩
  have hb1 : Below W.heap.size W w1 := by rw [hw]; exact below_drewN' (Below.refl _ _) m
  have GX1 := Lib.hid ((hb1.block _ (heap_lt GX.out)).trans GX.out)
  have GR1 := Lib.hid ((hb1.block _ (heap_lt GR.out)).trans GR.out)
  have HB1 := Lib.hid (HBW.out.trans (hb1.mono HBW.out.size))
  clear hw hb1
  obtain ⟨x0, x1, _, _, hzx⟩ := pair_at5 GX1.out
  obtain ⟨z0, z1, f0, f1, hz⟩ := pair_at5 GR1.out
  by_cases h0 : seenF l = 0
  case neg =>
    have hC : seenF l = C := by rw [← HC.out]; unfold noteC; rw [if_neg h0]
    have hL : L = [] := by rw [← HL.out]; unfold noteS; rw [HC.out, ← hC, if_neg h0]
    subst hL
    rw [hC] at h0
    rw [hC]
    have t1 : (C != 0) = true := by simpa using h0
    clear hC h0 HC HL
    go_wp2_with fail
    refine bodyPost_ret (v := .agg #[.int .i64 C, .slice none 0 0]) (by simp [results, Try.results38, go_sem, z0, z1, hz]) rfl ⟨_, rfl, ⟨_, [], rfl, Rd.nil _ _, NF.nil _, From.nil _⟩, ?_⟩
    exact (HB1.out.setCell (by simp) _).setCell (by simp) _
  rw [h0]
  cases hB : seenB x
  · have hC : C = 3 := by rw [← HC.out]; unfold noteC; rw [if_pos h0, hB]; rfl
    have hL : L = [] := by rw [← HL.out]; unfold noteS; rw [HC.out, hC]; rfl
    subst hL hC
    have HBX := Lib.hid hB
    clear h0 HC HL hB
    go_wp2_with fail
    refine (l5Is_c w.heap.size 0 x _ x0 x1).mono ?_
    rw [HBX.out]
    rintro e w2 ⟨rfl, hw⟩
    subst hw
    go_wp2_with fail
    refine bodyPost_ret (v := .agg #[.int .i64 3, .slice none 0 0]) (by simp [results, Try.results38, go_sem, z0, z1, hz]) rfl ⟨_, rfl, ⟨_, [], rfl, Rd.nil _ _, NF.nil _, From.nil _⟩, ?_⟩
    exact (HB1.out.setCell (by simp) _).setCell (by simp) _
  · have HBX := Lib.hid hB
    have hin := idxN_neg l x.rq
    generalize hV : idxN l x.rq = V at hin
    have HV := Lib.hid hV; clear hV
    go_wp2_with fail
    refine (l5Is_c w.heap.size 0 x _ x0 x1).mono ?_
    rw [HBX.out]
    rintro e w2 ⟨rfl, hw⟩
    subst hw
    go_wp2_with fail
    refine (l5At_c A c l.length l x.rq _ fp rfl (HA.out.below' HB1.out)).mono ?_
    rw [HV.out]
    rintro e w2 ⟨rfl, hw⟩
    subst hw
    by_cases hge : 0 ≤ V
    · have hC : C = 6 := by rw [← HC.out]; unfold noteC; rw [if_pos h0, if_pos hB, if_pos (hin.1 hge)]
      have hL : L = [] := by rw [← HL.out]; unfold noteS; rw [HC.out, hC]; rfl
      subst hL hC
      clear h0 HC HL hB hin
      go_wp2_with fail
      refine bodyPost_ret (v := .agg #[.int .i64 6, .slice none 0 0]) (by simp [results, Try.results38, go_sem, z0, z1, hz]) rfl ⟨_, rfl, ⟨_, [], rfl, Rd.nil _ _, NF.nil _, From.nil _⟩, ?_⟩
      exact (HB1.out.setCell (by simp) _).setCell (by simp) _
    · have hC : C = 0 := by rw [← HC.out]; unfold noteC; rw [if_pos h0, if_pos hB, if_neg (fun h => hge (hin.2 h))]
      have hL : noteL l x = L := by rw [← HL.out]; unfold noteS; rw [HC.out, hC]; rfl
      have hl6 := (seenF_fits h0).2.2
      subst hC
      have HLL := Lib.hid ((noteL_eq l x).symm.trans hL)
      clear h0 HC HL hB hin hL
      go_wp2_with fail
      refine (l5Note_c A c l x _ fp (by omega) (HA.out.below' HB1.out)).mono ?_
      rw [HLL.out]
      rintro e w3 ⟨v3, f3, rfl, hr3, hn3, hf3, hb3⟩
      obtain ⟨A3, c3, rfl⟩ := hr3.elt_form sc_len (by omega)
      obtain ⟨z0, z1, f0, f1, hz⟩ := pair_at5 ((hb3.block _ (heap_lt GR1.out)).trans GR1.out)
      have hsz := heap_lt GR1.out
      have HX := Lib.hid (And.intro hr3 (And.intro hn3 (And.intro hf3 (HB1.out.trans (hb3.mono HB1.out.size)))))
      clear hr3 hn3 hf3 hb3
      go_wp2_with fail
      obtain ⟨k1, k2, k3, k4⟩ := HX.out
      have hbut := But.two w3 (w.heap.size + 1) 0 1 (.int .i64 0) (.slice A3 L.length c3)
      have hap : ∀ y ∈ f3, y ∉ [w.heap.size + 1] := fun y hy he => by have := k3 y hy; simp at he; omega
      refine bodyPost_ret (v := .agg #[.int .i64 0, .slice A3 L.length c3]) (by simp [results, Try.results38, go_sem, z0, z1, hz]) rfl ⟨_, rfl, ⟨_, f3, rfl, k1.but hbut hap, k2.but hbut k1.lt hap, k3.mono HB1.out.size⟩, ?_⟩
      exact (k4.setCell (by simp) _).setCell (by simp) _
end Go.Proofs.Ytfohlopbfanaeaa
