/-
  What the laws of chapter 3 draw: an operation, bytes, a text.
-/
import Derived.Test.YtocllaendofndaaDoorDraw3c
import Derived.Test.YtocllaendofndaaDoorG8
import Derived.Test.YtocllaendofndaaDoorSpec3h
import Derived.Test.YtocllaendofndaaDoorLawReadOp
import Derived.Lib.ConvBytes
import Derived.Lib.AtoiErrMem
import Derived.Laws.AppendOwn
namespace Go.Proofs.YtocllaendofndaaDoor
open Go.RowKit

/-- An operation was drawn. -/
def OpPost (w : World) (X : O → Prop) (e : Ending) (w' : World) : Prop := ∃ o, e = .returned (ov o) ∧ X o ∧ Below w.heap.size w w'
theorem src_new {w w1 : World} {zs : List Int} (h : Src w1 w.heap.size zs 0) (o : Obj) : Src (w1.alloc o) w.heap.size zs 0 := h.alloc o
/-- Behind the draws of one call whose source was laid behind another block. -/
theorem Drawn.fresh' {w w1 w2 : World} {zs : List Int} {a d s : Nat} (hb : Below w.heap.size w w1) (hs : w.heap.size ≤ s) (h : Drawn w1 s zs a d w2) : Below w.heap.size w w2 :=
  hb.trans (h.but.below hb.size (fun b hm => by simp at hm; omega))
set_option maxRecDepth 100000 in
set_option maxHeartbeats 4000000 in
theorem drawPackOp_c (A : Option Addr) (c : Nat) (zs : List Int) (w : World) (fp : List Nat) (ha : Rd w 1 (.slice A zs.length c) (cellsOf .u8 zs) fp) (hby : Byt zs) (hb : zs.length ≤ 1048576) :
    Calls Tryd.prog 16 #[.slice A zs.length c] w (OpPost w MildO) := by
  have HA := Lib.hid (ha.alloc (obox o0))
  have hsz : (w.alloc (obox o0)).heap.size = w.heap.size + 1 := by simp
  have HSZ := Lib.hid hsz
  clear ha hsz
  go_enter Tryd.func16, Tryd.ntmps16
  go_wp2_with fail
  refine (l1Source_c A c zs _ fp HA.out hby hb).mono ?_
  rintro e w1 ⟨rfl, hsrc, hb1, hsz1⟩
  rw [HSZ.out] at hsrc ⊢
  have hr1 : w1.heap[w.heap.size]? = some (obox o0) := newest hb1 (by simp)
  have hb1' := (below_new (w := w) (obox o0)).trans (hb1.mono (by simp))
  have HB1 := Lib.hid hb1'; have HR1 := Lib.hid hr1; have HSRC := Lib.hid hsrc
  clear hb1 hsz1 hb1' hr1 hsrc
  go_wp2_with fail
  refine (l3Bent_c _ _ zs _ HSRC.out (by omega)).mono ?_
  rintro e w2 ⟨o, d, rfl, ho, _, hd⟩
  have hr2 := hd.but.heap HR1.out (by simp)
  obtain ⟨c0, c1, c2, c3, c4, c5, c6, hz⟩ := op_cells0 hr2
  have zf : ∀ i, w2.frozen? ⟨w.heap.size, i, none⟩ = false := fun i => frozen_of_heap hr2
  have HB2 := Lib.hid (HB1.out.trans (hd.but.below HB1.out.size (fun b hm => by simp at hm; omega)))
  have HO := Lib.hid ho
  clear hr2 hd ho
  go_wp2_with fail
  exact bodyPost_ret (v := ov o) (by simp [results, Tryd.results16, go_sem, c0, c1, c2, c3, c4, c5, c6]) rfl ⟨o, rfl, HO.out, below_set (below_set (below_set (below_set (below_set (below_set (below_set HB2.out _ _) _ _) _ _) _ _) _ _) _ _) _ _⟩

/-- One cell of a slice is written. -/
theorem Rd.setk {w : World} {K : IntKind} {b off c k : Nat} {v : Int} {zs : List Int} {fp : List Nat} (h : Rd w 1 (.slice (some ⟨b, off, none⟩) zs.length c) (cellsOf K zs) fp) (hk : k < zs.length) :
    Rd (w.setCell ⟨b, off + k, none⟩ (.int K v)) 1 (.slice (some ⟨b, off, none⟩) (zs.set k v).length c) (cellsOf K (zs.set k v)) fp := by
  obtain ⟨A, n, c', e, h1, h2, h2', h3⟩ := h
  injection e with e1 e2 e3
  subst e1 e2 e3
  refine ⟨_, _, _, rfl, by simp, by simpa using h2, by simpa using h2', ?_⟩
  rcases h3 with ⟨h3, _⟩ | ⟨b', off', hA, rfl, hlt, hc⟩
  · omega
  · injection hA with hA; injection hA with e1 e2 _; subst e1 e2
    refine .inr ⟨b, off, rfl, rfl, by simpa [World.setCell] using hlt, fun i u hu => ?_⟩
    unfold cellsOf at hu
    rw [List.map_set] at hu
    by_cases hik : i = k
    · subst hik
      rw [List.getElem?_set_self (by simpa using hk)] at hu
      cases hu
      exact World.cell?_setCell_same _ _ _ (hc i (.int K zs[i]) (by simp [List.getElem?_map, List.getElem?_eq_getElem hk]))
    · rw [List.getElem?_set_ne (fun h => hik h.symm)] at hu
      rw [World.cell?_setCell_other _ _ _ _ (by intro h; injection h with _ h2 _; omega)]
      exact hc i u hu
theorem Byt.set {zs : List Int} (h : Byt zs) {k : Nat} {v : Int} (h0 : 0 ≤ v) (h1 : v ≤ 255) : Byt (zs.set k v) := by
  intro z hz
  rcases List.mem_or_eq_of_mem_set hz with hz | rfl
  · exact h z hz
  · exact ⟨h0, h1⟩

set_option maxRecDepth 100000 in
set_option maxHeartbeats 4000000 in
theorem drawReadOp_c (A : Option Addr) (c : Nat) (zs : List Int) (w : World) (fp : List Nat) (ha : Rd w 1 (.slice A zs.length c) (cellsOf .u8 zs) fp) (hby : Byt zs) (hb : zs.length ≤ 1048576) :
    Calls Tryd.prog 7 #[.slice A zs.length c] w (ListPost .u8 (fun xs => Byt xs ∧ xs.length ≤ 1000) w) := by
  go_enter Tryd.func7, Tryd.ntmps7
  go_wp2_with fail
  refine (l1Source_c A c zs w fp ha hby hb).mono ?_
  rintro e w1 ⟨rfl, hsrc, hb1, _⟩
  have HSRC := Lib.hid hsrc; have HB1 := Lib.hid hb1
  clear hsrc hb1 ha
  go_wp2_with fail
  refine (l3Draw_c _ _ zs _ HSRC.out (by omega)).mono ?_
  rintro e w2 ⟨o, d, rfl, ho, hd12, hd⟩
  have hsh := opL_short ho
  have hat := OpAt.new w2 o
  have hd3 := hd.alloc (obox o)
  have hs2 := hd.but.size
  have HSH := Lib.hid hsh; have HAT := Lib.hid hat; have HD := Lib.hid hd3
  clear hsh hat hd3 hd ho
  go_wp2_with fail
  generalize w2.alloc (obox o) = w3 at *
  refine (l3List_c _ 0 o _ HAT.out).mono ?_
  rintro e w4 ⟨A4, c4, f4, rfl, hr4, _, _, hb4⟩
  have HR4 := Lib.hid hr4
  replace HD := Lib.hid (HD.out.below hb4)
  have s4 := HD.out.but.size
  have hsl := HSRC.out.lt
  clear hr4 hb4 HAT
  rw [show (opL o).length = 7 from rfl]
  go_wp2_with fail
  refine (l1Pack_c _ _ (opL o) _ f4 (by simp [opL]) HSH.out HR4.out).mono ?_
  rintro e w5 ⟨v, fv, rfl, hrv, hnv, hfv, hb5⟩
  replace HD := Lib.hid (HD.out.below hb5)
  have hpb := pk_byt (opL o) 7 (by simp [opL])
  have hpl : (pk (opL o) (opL o).length).length = 15 := by rw [pk_length _ _ (Nat.le_refl _)]; rfl
  rw [show (opL o).length = 7 from rfl] at hrv hpl
  generalize pk (opL o) 7 = ps at *
  obtain ⟨Av, cv, rfl⟩ := hrv.form
  have hcap := hrv.cap_le
  have HPL := Lib.hid hpl; have HPB := Lib.hid hpb
  have s5 := hb5.size
  have sw := HB1.out.size
  have hF : From w.heap.size fv := hfv.mono (by omega)
  have hne : ∀ b ∈ fv, b ∉ [w.heap.size] := fun b hb' hm => by simp at hm; have := hfv b hb'; omega
  have HF := Lib.hid hF; have HNE := Lib.hid hne; have HRV := Lib.hid hrv; have HNV := Lib.hid hnv
  clear hpl hpb hF hne hrv hnv hfv hb5 HSH HR4
  go_wp2_with fail
  refine (next_d _ _ zs _ 4 HD.out.src (by omega) (by omega) (by omega)).mono ?_
  rintro e w6 ⟨q, rfl, hq0, hq1, hd6⟩
  have hr6 := HRV.out.but hd6.but HNE.out
  have hn6 := HNV.out.but hd6.but HRV.out.lt HNE.out
  replace HD := Lib.hid (HD.out.trans hd6)
  replace HRV := Lib.hid hr6
  replace HNV := Lib.hid hn6
  clear hr6 hn6 hd6
  by_cases hq : q = 0
  · subst hq
    go_wp2_with fail
    refine (next_d _ _ zs _ _ HD.out.src (by omega) (by rw [HPL.out]; omega) (by rw [HPL.out]; omega)).mono ?_
    rintro e w7 ⟨j, rfl, hj0, hj1, hd7⟩
    have hr7 := HRV.out.but hd7.but HNE.out
    have hn7 := HNV.out.but hd7.but HRV.out.lt HNE.out
    replace HD := Lib.hid (HD.out.trans hd7)
    replace HRV := Lib.hid hr7
    replace HNV := Lib.hid hn7
    clear hr7 hn7 hd7
    obtain ⟨k, rfl⟩ : ∃ k : Nat, j = k := ⟨j.toNat, by omega⟩
    have hk : k < ps.length := by omega
    go_wp2_with fail
    refine (pick_d _ _ zs _ [0, 1, 255, 7] HD.out.src (by omega) (by simp) (by simp)).mono ?_
    rintro e w8 ⟨u, rfl, hu, hd8⟩
    have hu' : 0 ≤ u ∧ u ≤ 255 := by simp at hu; omega
    clear hu
    obtain ⟨u0, u1⟩ := hu'
    have hr8 := HRV.out.but hd8.but HNE.out
    have hn8 := HNV.out.but hd8.but HRV.out.lt HNE.out
    replace HD := Lib.hid (HD.out.trans hd8)
    clear hd8
    obtain ⟨b, off, hA, hfp, hbw, hc⟩ := hr8.ints_at hk
    subst hA hfp
    have hfz : w8.frozen? ⟨b, off + k, none⟩ = false := hn8 b (by simp) (off + k)
    have hset := hr8.setk (v := u) hk
    have hbut : But [b] w8 (w8.setCell ⟨b, off + k, none⟩ (.int .u8 u)) := (But.refl [b] w8).setCell (p := ⟨b, off + k, none⟩) (by simp) _
    have hbel8 := HD.out.fresh HB1.out
    have hbel := hbel8.trans (hbut.below hbel8.size HF.out)
    have HB := Lib.hid hbel; have HS := Lib.hid hset
    have hkl : (k : Int) < (ps.length : Int) := by omega
    clear hbel hset hbut hbel8 hr8 hn8
    go_wp2_with fail
    go_ret
    refine ⟨ps.set k u, _, _, _, by simp, ⟨HPB.out.set u0 u1, by rw [List.length_set, HPL.out]; omega⟩, HS.out, HF.out, HB.out⟩
  · by_cases hq' : q = 1
    · subst hq'
      go_wp2_with fail
      refine (next_d _ _ zs _ _ HD.out.src (by omega) (by rw [HPL.out]; omega) (by rw [HPL.out]; omega)).mono ?_
      rintro e w7 ⟨j, rfl, hj0, hj1, hd7⟩
      have hr7 := HRV.out.but hd7.but HNE.out
      replace HD := Lib.hid (HD.out.trans hd7)
      clear hd7
      obtain ⟨k, rfl⟩ : ∃ k : Nat, j = k := ⟨j.toNat, by omega⟩
      have hk : k ≤ ps.length := by omega
      obtain ⟨fz, hrz, hfz⟩ := hr7.upto hk
      have hl : (ps.take k).length = k := by rw [List.length_take]; omega
      have hkc : k ≤ cv := by omega
      have HL := Lib.hid hl; have HRZ := Lib.hid hrz; have HFZ := Lib.hid hfz
      clear hl hrz hfz hr7
      go_wp2_with fail
      go_ret
      exact ⟨ps.take k, Av, cv, fz, by rw [HL.out]; rfl, ⟨fun z hz => HPB.out z (List.mem_of_mem_take hz), by rw [HL.out]; rw [HPL.out] at hk; omega⟩, HRZ.out, fun b hb' => HF.out b (HFZ.out b hb'), HD.out.fresh HB1.out⟩
    · have hq2 : (q == 0) = false := by simpa using hq
      have hq3 : (q == 1) = false := by simpa using hq'
      go_wp2_with fail
      go_ret
      exact ⟨ps, Av, cv, fv, rfl, ⟨HPB.out, by rw [HPL.out]; omega⟩, HRV.out, HF.out, HD.out.fresh HB1.out⟩
end Go.Proofs.YtocllaendofndaaDoor

/-
  What the laws of chapter 3 draw, second part: a text.
-/
namespace Go.Proofs.YtocllaendofndaaDoor
open Go.RowKit

/-- A text was drawn. -/
def StrPost (w : World) (e : Ending) (w' : World) : Prop := ∃ s, e = .returned (.string s) ∧ s.size ≤ 1048576 ∧ Below w.heap.size w w'
/-- The bytes of a text as integers. -/
def bnums (l : List UInt8) : List Int := l.map fun b => (b.toNat : Int)
theorem bnums_byt (l : List UInt8) : Byt (bnums l) := by
  intro z hz
  obtain ⟨b, _, rfl⟩ := List.mem_map.1 hz
  have := b.toNat_lt
  omega
theorem conv_rd (w : World) (l : List UInt8) (hl : l.length ≤ 1048576) :
    ∃ cap, (convert 9 22 (.string ⟨l.toArray⟩)).run Tryd.prog w = .ok (.slice (some ⟨w.heap.size, 0, none⟩) (bnums l).length cap) (Lib.bytesWorld w 5 ⟨l.toArray⟩) ∧
      Rd (Lib.bytesWorld w 5 ⟨l.toArray⟩) 1 (.slice (some ⟨w.heap.size, 0, none⟩) (bnums l).length cap) (cellsOf .u8 (bnums l)) (if l = [] then [] else [w.heap.size]) ∧ ∀ k, k < l.length → (Lib.bytesWorld w 5 ⟨l.toArray⟩).frozen? ⟨w.heap.size, k, none⟩ = false := by
  have hz : (⟨l.toArray⟩ : ByteArray).size = l.length := by simp [ByteArray.size]
  have hb : (bnums l).length = l.length := by simp [bnums]
  have hcap := grownCap_ge w l.length 0 5
  refine ⟨grownCap w l.length 0 5, ?_, ?_, ?_⟩
  · have := Lib.run_convert_string_bytes w 9 22 5 ⟨l.toArray⟩ Tryd.underlying9 Tryd.underlying22 Tryd.underlying5
    rw [hz] at this
    rw [hb]; exact this
  · rw [hb]
    refine ⟨_, _, _, rfl, by simp [hb], by unfold maxLen; omega, hcap, ?_⟩
    by_cases h0 : l = []
    · subst h0; exact .inl ⟨rfl, by simp⟩
    · refine .inr ⟨w.heap.size, 0, rfl, by rw [if_neg h0], by rw [Lib.bytesWorld_size]; omega, fun i u hu => ?_⟩
      have hi : i < l.length := by
        rcases Nat.lt_or_ge i l.length with h | h
        · exact h
        · rw [List.getElem?_eq_none (by simp [bnums]; exact h)] at hu; cases hu
      rw [Nat.zero_add, Lib.bytesWorld_cell w 5 ⟨l.toArray⟩ i (by rw [hz]; exact hi)]
      simp [bnums, List.getElem?_map, List.getElem?_eq_getElem hi] at hu
      rw [← hu]
      simp [List.getD, List.getElem?_eq_getElem hi]
  · intro k hk
    have hg := Lib.bytesWorld_at_new w 5 ⟨l.toArray⟩
    have hsz : l.length ≤ (Lib.bytesCells w 5 ⟨l.toArray⟩).size := by simp [Lib.bytesCells]
    simp only [World.frozen?, hg]
    simp
    omega
theorem textL_len {o : O} (h : opF o = 0) : (textL o).length ≤ 100000 := by
  rw [← txt_seven]
  have := txt_len h 7 (by omega)
  omega

set_option maxRecDepth 100000 in
set_option maxHeartbeats 4000000 in
theorem drawParseOp_c (A : Option Addr) (c : Nat) (zs : List Int) (w : World) (fp : List Nat) (ha : Rd w 1 (.slice A zs.length c) (cellsOf .u8 zs) fp) (hby : Byt zs) (hb : zs.length ≤ 1048576) :
    Calls Tryd.prog 9 #[.slice A zs.length c] w (StrPost w) := by
  go_enter Tryd.func9, Tryd.ntmps9
  go_wp2_with fail
  refine (l1Source_c A c zs w fp ha hby hb).mono ?_
  rintro e w1 ⟨rfl, hsrc, hb1, _⟩
  have HSRC := Lib.hid hsrc; have HB1 := Lib.hid hb1
  clear hsrc hb1 ha
  go_wp2_with fail
  refine (l3Draw_c _ _ zs _ HSRC.out (by omega)).mono ?_
  rintro e w2 ⟨o, d, rfl, ho, hd12, hd⟩
  have hat := OpAt.new w2 o
  have hd3 := hd.alloc (obox o)
  have hs2 := hd.but.size
  have HO := Lib.hid ho; have HAT := Lib.hid hat; have HD := Lib.hid hd3
  clear hat hd3 hd ho
  go_wp2_with fail
  generalize w2.alloc (obox o) = w3 at *
  refine (l3Text_c _ 0 o _ HAT.out HO.out).mono ?_
  rintro e w4 ⟨rfl, hb4⟩
  replace HD := Lib.hid (HD.out.below hb4)
  have s4 := HD.out.but.size
  have hsl := HSRC.out.lt
  have htl := textL_len HO.out
  have htp : 0 < (textL o).length := by unfold textL glue; simp <;> omega
  generalize textL o = l at *
  obtain ⟨cap, hconv, hrd, hfz⟩ := conv_rd w4 l (by omega)
  have hl0 : l ≠ [] := fun h => by subst h; simp at htp
  rw [if_neg hl0] at hrd
  have hbl : (bnums l).length = l.length := by simp [bnums]
  have hpb := bnums_byt l
  have HRD := Lib.hid hrd; have HFZ := Lib.hid hfz; have HPB := Lib.hid hpb; have HBL := Lib.hid hbl
  have HD5 := Lib.hid (HD.out.below (Lib.bytesWorld_below w4 5 ⟨l.toArray⟩))
  clear hrd hfz hb4 HAT hpb hbl hl0 HD
  generalize hW5 : Lib.bytesWorld w4 5 ⟨l.toArray⟩ = w5 at *
  generalize hps : bnums l = ps at *
  go_wp2_with fail
  have hne : ∀ b ∈ [w4.heap.size], b ∉ [w.heap.size] := fun b hb' hm => by simp at hm hb'; omega
  have HNE := Lib.hid hne
  have hp1 : ps.length ≤ 100000 := by rw [HBL.out]; exact htl
  have hp0 : 0 < ps.length := by rw [HBL.out]; exact htp
  clear hconv hW5 hps hne
  refine (chance_d _ _ zs _ 3 HD5.out.src (by omega) (by omega) (by omega)).mono ?_
  rintro e w6 ⟨b, rfl, hd6⟩
  have hr6 := HRD.out.but hd6.but HNE.out
  have hlt5 := HRD.out.lt w4.heap.size (by simp)
  have hf6 : ∀ k, k < l.length → w6.frozen? ⟨w4.heap.size, k, none⟩ = false := fun k hk => (hd6.but.frozen (p := ⟨w4.heap.size, k, none⟩) hlt5 (HNE.out _ (by simp))).trans (HFZ.out k hk)
  replace HD5 := Lib.hid (HD5.out.trans hd6)
  replace HRD := Lib.hid hr6
  replace HFZ := Lib.hid hf6
  clear hd6 hr6 hf6 hlt5
  cases b
  · have hstr := HRD.out.str
    have hsz := strOfNums_size ps
    generalize strOfNums ps = S at *
    have HB := Lib.hid (HD5.out.fresh HB1.out)
    have HSZ := Lib.hid hsz
    clear hsz
    go_wp2_with fail
    go_ret
    exact ⟨S, rfl, by rw [HSZ.out]; omega, HB.out⟩
  · go_wp2_with fail
    refine (next_d _ _ zs _ _ HD5.out.src (by omega) (by omega) (by omega)).mono ?_
    rintro e w7 ⟨j, rfl, hj0, hj1, hd7⟩
    have hr7 := HRD.out.but hd7.but HNE.out
    have hlt6 := HRD.out.lt w4.heap.size (by simp)
    have hf7 : ∀ k, k < l.length → w7.frozen? ⟨w4.heap.size, k, none⟩ = false := fun k hk => (hd7.but.frozen (p := ⟨w4.heap.size, k, none⟩) hlt6 (HNE.out _ (by simp))).trans (HFZ.out k hk)
    replace HD5 := Lib.hid (HD5.out.trans hd7)
    replace HRD := Lib.hid hr7
    replace HFZ := Lib.hid hf7
    clear hd7 hr7 hf7 hlt6
    obtain ⟨k, rfl⟩ : ∃ k : Nat, j = k := ⟨j.toNat, by omega⟩
    have hk : k < ps.length := by omega
    go_wp2_with fail
    refine (pick_d _ _ zs _ [32, 48, 57, 120] HD5.out.src (by omega) (by simp) (by simp)).mono ?_
    rintro e w8 ⟨u, rfl, hu, hd8⟩
    have hu' : 0 ≤ u ∧ u ≤ 255 := by simp at hu; omega
    clear hu
    obtain ⟨u0, u1⟩ := hu'
    have hr8 := HRD.out.but hd8.but HNE.out
    have hlt7 := HRD.out.lt w4.heap.size (by simp)
    have hfz : w8.frozen? ⟨w4.heap.size, k, none⟩ = false := (hd8.but.frozen (p := ⟨w4.heap.size, k, none⟩) hlt7 (HNE.out _ (by simp))).trans (HFZ.out k (by have := HBL.out; omega))
    replace HD5 := Lib.hid (HD5.out.trans hd8)
    clear hd8 hlt7
    obtain ⟨b, off, hA, _, hbw, hc⟩ := hr8.ints_at hk
    injection hA with hA; injection hA with e1 e2 _; subst e1 e2
    rw [Nat.zero_add] at hc
    have hset := hr8.setk (v := u) hk
    rw [Nat.zero_add] at hset
    have hstr := hset.str
    rw [List.length_set] at hstr
    have hsz := strOfNums_size (ps.set k u)
    rw [List.length_set] at hsz
    generalize strOfNums (ps.set k u) = S at *
    have hbut : But [w4.heap.size] w8 (w8.setCell ⟨w4.heap.size, k, none⟩ (.int .u8 u)) := (But.refl [w4.heap.size] w8).setCell (p := ⟨w4.heap.size, k, none⟩) (by simp) _
    have hbel8 := HD5.out.fresh HB1.out
    have hbel := hbel8.trans (hbut.below hbel8.size (fun b hb' => by simp at hb'; omega))
    have HB := Lib.hid hbel; have HSZ := Lib.hid hsz
    have hkl : (k : Int) < (ps.length : Int) := by omega
    clear hbel hset hbut hbel8 hr8 hsz
    go_wp2_with fail
    go_ret
    exact ⟨S, rfl, by rw [HSZ.out]; omega, HB.out⟩
end Go.Proofs.YtocllaendofndaaDoor
