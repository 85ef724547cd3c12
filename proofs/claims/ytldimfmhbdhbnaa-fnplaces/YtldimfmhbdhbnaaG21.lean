/-
  Slices of parts: how a part reads; one part changed with its own cells.
-/
import Derived.Test.YtldimfmhbdhbnaaModel7
import Derived.Test.YtldimfmhbdhbnaaG40
namespace Go.Proofs.Ytldimfmhbdhbnaa
open Go.RowKit

/-- A part as an element: two cells, the rows and the mark. -/
def partK : Kd Pt where
  K := 2
  pos := by omega
  P w p us f := ∃ v, us = [v, .int .i64 p.mark] ∧ Rd w 4 v (rcs p.rows) f
  len := by rintro w a us f ⟨v, rfl, _⟩; rfl
  lt := by rintro w a us f ⟨v, rfl, h⟩; exact h.lt
  keep := by rintro w w' a us f ⟨v, rfl, h⟩ hs hb; exact ⟨v, rfl, h.keep hs hb⟩
/-- A slice of parts. -/
abbrev RdP (w : World) (v : Value) (l : List Pt) (fp : List Nat) : Prop := Sl partK w v l fp
/-- The i-th part. -/
theorem partsAt {w : World} {A : Option Addr} {c i : Nat} {l : List Pt} {fp : List Nat} (h : RdP w (.slice A l.length c) l fp) (hi : i < l.length) :
    ∃ b off B d f, A = some ⟨b, off, none⟩ ∧ b ∈ fp ∧ b < w.heap.size ∧ w.cell? ⟨b, off + i * 2, none⟩ = some (.slice B l[i].rows.length d) ∧ w.cell? ⟨b, off + i * 2 + 1, none⟩ = some (.int .i64 l[i].mark) ∧
      Rd w 4 (.slice B l[i].rows.length d) (rcs l[i].rows) f ∧ ∀ x ∈ f, x ∈ fp := by
  obtain ⟨b, off, us, f, rfl, hb, hlt, hl, hc, ⟨v, rfl, hr⟩, hf⟩ := Sl.at_ h hi
  obtain ⟨B, d, rfl⟩ := hr.rows_form
  have h0 := hc 0 _ rfl
  have h1 := hc 1 _ rfl
  simp only [partK, Nat.add_zero] at h0 h1
  exact ⟨b, off, B, d, f, rfl, hb, hlt, h0, h1, hr, hf⟩

section
variable {α : Type} {kd : Kd α}
/-- One element is changed, in its own cells and behind its own blocks. -/
theorem Sl.change2 {w : World} {v : Value} {l : List α} {fp : List Nat} (h : Sl kd w v l fp) (hnd : fp.Nodup) {i : Nat} (hi : i < l.length) :
    ∃ A c b off u f, v = .slice A l.length c ∧ A = some ⟨b, off, none⟩ ∧ b ∈ fp ∧ b ∉ f ∧ b < w.heap.size ∧ u.length = kd.K ∧ (∀ j x, u[j]? = some x → w.cell? ⟨b, off + i * kd.K + j, none⟩ = some x) ∧ kd.P w l[i] u f ∧ (∀ x ∈ f, x ∈ fp) ∧
      ∀ w' a' u', But (b :: f) w w' → (∀ j x, u'[j]? = some x → w'.cell? ⟨b, off + i * kd.K + j, none⟩ = some x) → (∀ j, j < i * kd.K ∨ i * kd.K + kd.K ≤ j → w'.cell? ⟨b, off + j, none⟩ = w.cell? ⟨b, off + j, none⟩) →
        kd.P w' a' u' f → Sl kd w' v (l.set i a') fp := by
  obtain ⟨A, c, rfl, hmx⟩ := h.form
  have h' := h
  obtain ⟨us, f0, fs, hr, ha, rfl⟩ := h'
  have ha' := ha
  rw [← List.take_append_drop i l] at ha'
  obtain ⟨ua, ub, fa, fb, rfl, rfl, h1, h2⟩ := ha'.split
  rw [List.drop_eq_getElem_cons hi] at h2
  obtain ⟨u, ub, f, fb, rfl, rfl, hp, h22⟩ := h2.cons
  have hla : fa.length = i := by rw [h1.len.2, List.length_take]; omega
  have hlu : ua.length = i := by rw [h1.len.1, List.length_take]; omega
  simp only [List.flatten_append, List.flatten_cons] at hnd
  have n1 := List.nodup_append.1 hnd
  have n2 := List.nodup_append.1 n1.2.1
  have n3 := List.nodup_append.1 n2.2.1
  have hfp : ∀ x ∈ f, x ∈ f0 ++ (fa ++ f :: fb).flatten := fun x hx => by simp [hx]
  have hd0 : ∀ x ∈ f0, x ∉ f := fun x hx hy => n1.2.2 x hx x (by simp [hy]) rfl
  have hda : ∀ x ∈ fa.flatten, x ∉ f := fun x hx hy => n2.2.2 x hx x (by simp [hy]) rfl
  have hdb : ∀ x ∈ fb.flatten, x ∉ f := fun x hx hy => n3.2.2 x hy x hx rfl
  have hlt := h.lt
  obtain ⟨A', n', c', e, e1, e2, e3, e4⟩ := hr
  injection e with q1 q2 q3
  subst q1 q2 q3
  rcases e4 with ⟨e4, _⟩ | ⟨b, off, rfl, rfl, hbl, hc⟩
  · omega
  have hf : (ua ++ u :: ub)[i]? = some u := by rw [List.getElem?_append_right (by omega), hlu]; simp
  have hka : ua.flatten.length = i * kd.K := by rw [flat_len (Kd.lens h1), hlu]
  have hb1 : ∀ x ∈ fa.flatten, x ∉ b :: f := fun x hx hm => by
    rcases List.mem_cons.1 hm with rfl | hm
    · exact n1.2.2 x (by simp) x (by simp [hx]) rfl
    · exact hda x hx hm
  have hb2 : ∀ x ∈ fb.flatten, x ∉ b :: f := fun x hx hm => by
    rcases List.mem_cons.1 hm with rfl | hm
    · exact n1.2.2 x (by simp) x (by simp [hx]) rfl
    · exact hdb x hx hm
  refine ⟨_, c, b, off, u, f, rfl, rfl, by simp, hd0 b (by simp), hbl, kd.len hp, fun j x hx => ?_, hp, hfp, fun w' a' u' hbut hcu hco hp' => ?_⟩
  · rw [Nat.add_assoc]
    have hj : j < kd.K := by
      have := (List.getElem?_eq_some_iff.1 hx).1
      rwa [kd.len hp] at this
    exact hc (i * kd.K + j) x (by rw [flat_get (Kd.lens ha) hf hj]; exact hx)
  · have hul' := kd.len hp'
    have hul := kd.len hp
    refine ⟨ua ++ u' :: ub, [b], fa ++ f :: fb, ⟨_, _, c, rfl, ?_, e2, e3, .inr ⟨b, off, rfl, rfl, Nat.lt_of_lt_of_le hbl hbut.size, fun j x hx => ?_⟩⟩, ?_, rfl⟩
    · rw [← e1]; simp [hul', hul]
    · simp only [List.flatten_append, List.flatten_cons] at hx hc
      by_cases j1 : j < i * kd.K
      · rw [hco j (.inl j1)]
        refine hc j x ?_
        rw [List.getElem?_append_left (by omega)] at hx ⊢
        exact hx
      · by_cases j2 : i * kd.K + kd.K ≤ j
        · rw [hco j (.inr j2)]
          refine hc j x ?_
          rw [List.getElem?_append_right (by omega), List.getElem?_append_right (by omega), hka] at hx ⊢
          rw [hul'] at hx
          rw [hul]
          exact hx
        · rw [List.getElem?_append_right (by omega), List.getElem?_append_left (by omega), hka] at hx
          have := hcu (j - i * kd.K) x hx
          rw [← this]
          congr 1
          congr 1
          omega
    · have hk1 := Kd.keeps h1 hbut.size fun x hx => hbut.block x (hlt x (by simp [hx])) (hb1 x hx)
      have hk2 := Kd.keeps h22 hbut.size fun x hx => hbut.block x (hlt x (by simp [hx])) (hb2 x hx)
      have hs : l.set i a' = l.take i ++ a' :: l.drop (i + 1) := by rw [List.set_eq_take_append_cons_drop, if_pos hi]
      rw [hs]
      exact hk1.append ⟨hp', hk2⟩
end
end Go.Proofs.Ytldimfmhbdhbnaa

/-
  Contracts of the laws' helpers over parts and slices of parts: measuring, copying, comparing, marking; results that hold parts.
-/
namespace Go.Proofs.Ytldimfmhbdhbnaa
open Go.RowKit

/-- A part as a value. -/
abbrev ptv (v : Value) (m : Int) : Value := .agg #[v, .int .i64 m]
/-- A code and parts as a value. -/
abbrev psv (code : Int) (v : Value) : Value := .agg #[.int .i64 code, v]
/-- What a copy of one part answers. -/
def CopyPart (w : World) (p : Pt) (e : Ending) (w' : World) : Prop :=
  ∃ A c fp, e = .returned (ptv (.slice A p.rows.length c) p.mark) ∧ Rd w' 4 (.slice A p.rows.length c) (rcs p.rows) fp ∧ NF w' fp ∧ From w.heap.size fp ∧ Below w.heap.size w w'
/-- A marked part: the numbers from q on, four a row, then one. -/
def markT (p : Pt) (q : Int) : Pt := ⟨markR p.rows q, q + ((p.rows.length * 4 : Nat) : Int)⟩
def cntT (p : Pt) : Nat := p.rows.length * 4 + 1
abbrev markPs (l : List Pt) (q : Int) : List Pt := markL markT cntT l q
def cntPs (l : List Pt) : Nat := cntL cntT l
theorem cntPs_eq (l : List Pt) : cntPs l = totP l * 4 + l.length := by
  unfold cntPs totP
  induction l with
  | nil => rfl
  | cons a t ih => rw [cntL_cons, cntL_cons, ih, List.length_cons]; unfold cntT; omega
theorem cntPs_le (l : List Pt) (h : psz l ≤ 1048576) : cntPs l ≤ 4194304 := by have := cntPs_eq l; unfold psz at h; omega
theorem cntPs_take (l : List Pt) (i : Nat) (h : i < l.length) : cntPs (l.take (i + 1)) = cntPs (l.take i) + (l[i].rows.length * 4 + 1) := cntL_take (cnt := cntT) l i h
theorem cntPs_take_le (l : List Pt) (i : Nat) : cntPs (l.take i) ≤ cntPs l := cntL_take_le (cnt := cntT) l i

set_option maxRecDepth 100000 in
set_option maxHeartbeats 1000000 in
theorem szPart_c (A : Option Addr) (n c : Nat) (m q : Int) (w : World) (hn : n ≤ 9223372036854775807) (hq : 0 ≤ q) (hq2 : q ≤ 1048576) :
    Calls Try.prog 81 #[ptv (.slice A n c) m, .int .i64 q] w fun e w' => e = .returned (.int .i64 (if q < n then -1 else q - n)) ∧ Below w.heap.size w w' := by
  have hcall := szRowS_c A n c q (w.alloc (.cells #[.slice A n c, .int .i64 m] 110)) hn hq hq2
  by_cases h1 : q < (n : Int)
  · rw [if_pos h1] at hcall ⊢
    go_enter Try.func81, Try.ntmps81
    go_wp2_with fail
    refine hcall.mono ?_
    rintro e w1 ⟨rfl, hw⟩
    subst hw
    go_wp2
    go_ret
    exact ⟨rfl, below_new _⟩
  · rw [if_neg h1] at hcall ⊢
    have t1 : ¬ (q - (n : Int) < 0) := by omega
    go_enter Try.func81, Try.ntmps81
    go_wp2_with fail
    refine hcall.mono ?_
    rintro e w1 ⟨rfl, hw⟩
    subst hw
    go_wp2
    go_ret
    exact ⟨rfl, below_new _⟩

set_option maxRecDepth 100000 in
set_option maxHeartbeats 2000000 in
theorem szPartS_c (A : Option Addr) (c : Nat) (l : List Pt) (q : Int) (w : World) (fp : List Nat) (ha : RdP w (.slice A l.length c) l fp) (hq : 0 ≤ q) (hq2 : q ≤ 1048576) :
    Calls Try.prog 35 #[.slice A l.length c, .int .i64 q] w fun e w' => e = .returned (.int .i64 (if q < psz l then -1 else q - psz l)) ∧ Below w.heap.size w w' := by
  have hmax := ha.len_le.2
  generalize hZ : (if q < psz l then (-1 : Int) else q - psz l) = Z
  have HZ := Lib.hid hZ
  clear hZ
  by_cases h0 : q < (l.length : Int)
  · have e : Z = -1 := by rw [← HZ.out, if_pos (by unfold psz; omega)]
    have HE := Lib.hid e; clear e
    have t1 : q - (l.length : Int) < 0 := by omega
    go_enter Try.func35, Try.ntmps35
    go_wp2
    go_ret
    exact ⟨congrArg (fun z => Ending.returned (Value.int .i64 z)) HE.out.symm, Below.refl _ _⟩
  · have t1 : ¬ (q - (l.length : Int) < 0) := by omega
    have HA := Lib.hid ha
    clear ha
    go_enter Try.func35, Try.ntmps35
    go_wp2
    go_loopw [1, 5] (fun s i wr => ∃ k : Nat, k ≤ l.length ∧ i = .int .i64 k ∧ ∃ r : Int, s = .int .i64 r ∧ Hid (r = q - (l.length : Int) - (totP (l.take k) : Int)) ∧ 0 ≤ r ∧ r ≤ 1048576 ∧ Hid (Below w.heap.size w wr)) (fun _ i _ => l.length - (intOf i).toNat)
    case atStart => exact ⟨0, Nat.zero_le _, rfl, _, rfl, Lib.hid (by simp [totP, cntL]), by omega, by omega, Below.refl _ _⟩
    case round =>
      obtain ⟨k, hk, rfl, r, rfl, hr, hr0, hr1, HB⟩ := hrel
      by_cases hlt : k < l.length
      · obtain ⟨b, off, B, d, f, rfl, hb, hbl, hc, hc1, hrd, hf⟩ := partsAt (HA.out.below' HB.out) hlt
        have hn := hrd.len_le
        have ht := totP_take l k hlt
        have hle := totP_le l (k + 1)
        have HT := Lib.hid ht; have HLE := Lib.hid hle
        clear ht hle hrd hb hf
        generalize l[k] = p at *
        generalize p.rows.length = n at *
        generalize p.mark = m at *
        go_wp2_with fail
        refine (szPart_c B n d m r _ hn hr0 hr1).mono ?_
        by_cases h1 : r < (n : Int)
        · rw [if_pos h1]
          rintro e w1 ⟨rfl, hb1⟩
          have HB1 := Lib.hid (HB.out.trans (hb1.mono HB.out.size)); clear hb1
          have e : Z = -1 := by rw [← HZ.out, if_pos (by unfold psz; have := HT.out; have := HLE.out; have := hr.out; omega)]
          have HE := Lib.hid e; clear e
          go_wp2
          go_ret
          exact ⟨congrArg (fun z => Ending.returned (Value.int .i64 z)) HE.out.symm, HB1.out⟩
        · rw [if_neg h1]
          rintro e w1 ⟨rfl, hb1⟩
          have HB1 := Lib.hid (HB.out.trans (hb1.mono HB.out.size)); clear hb1
          have t2 : ¬ (r - (n : Int) < 0) := by omega
          go_wp2
          exact ⟨⟨k + 1, by omega, by go_num, _, rfl, Lib.hid (by have := HT.out; have := hr.out; omega), by omega, by omega, HB1.out⟩, by simp [intOf]; omega⟩
      · obtain rfl : k = l.length := by omega
        have e : Z = r := by
          have h1 := hr.out; rw [List.take_length] at h1
          rw [← HZ.out, if_neg (by unfold psz; omega)]; unfold psz; omega
        have HE := Lib.hid e; clear e
        go_wp2
        go_ret
        exact ⟨congrArg (fun z => Ending.returned (Value.int .i64 z)) HE.out.symm, HB.out⟩

set_option maxRecDepth 100000 in
set_option maxHeartbeats 2000000 in
theorem toPart_c (A : Option Addr) (c : Nat) (p : Pt) (w : World) (fp : List Nat) (hs : p.rows.length ≤ 1048576) (h : Rd w 4 (.slice A p.rows.length c) (rcs p.rows) fp) :
    Calls Try.prog 86 #[ptv (.slice A p.rows.length c) p.mark] w (CopyPart w p) := by
  have HF := Lib.hid h; have HS := Lib.hid hs
  clear h hs
  go_enter Try.func86, Try.ntmps86
  go_wp2_with fail
  generalize hW : (((w.alloc (.cells #[.slice A p.rows.length c, .int .i64 p.mark] 110)).alloc (.cells #[.slice none 0 0, .int .i64 0] 116)).alloc (.cells #[.slice none 0 0, .int .i64 0] 116)) = W
  have hz : W.heap.size = w.heap.size + 3 := by rw [← hW]; simp
  have hbW : Below w.heap.size w W := by rw [← hW]; exact below_more (below_more (below_new _) _) _
  have gl : W.heap[w.heap.size]? = some (.cells #[.slice A p.rows.length c, .int .i64 p.mark] 110 (0, 0)) := by rw [← hW]; exact heap_old (heap_old (heap_new w _ rfl))
  have gr : W.heap[w.heap.size + 1]? = some (.cells #[.slice none 0 0, .int .i64 0] 116 (0, 0)) := by rw [← hW]; exact heap_old (heap_new _ _ (by simp))
  have go : W.heap[w.heap.size + 2]? = some (.cells #[.slice none 0 0, .int .i64 0] 116 (0, 0)) := by rw [← hW]; exact heap_new _ _ (by simp)
  have HZ := Lib.hid (Nat.le_of_eq hz.symm); have HBW := Lib.hid hbW; have GL := Lib.hid gl; have GR := Lib.hid gr; have GO := Lib.hid go
  clear hW hz hbW gl gr go
  refine (toRowS_c A c p.rows _ fp HS.out (HF.out.below' HBW.out)).mono ?_
  rintro e w1 ⟨A1, c1, f1, rfl, hr1, hn1, hf1, hb1⟩
  obtain ⟨l0, l1, _, _, hzl⟩ := two_at ((hb1.block _ (heap_lt GL.out)).trans GL.out)
  obtain ⟨o0, o1, x0, x1, hzo⟩ := two_at ((hb1.block _ (heap_lt GO.out)).trans GO.out)
  obtain ⟨q0, q1, z0, z1, hzq⟩ := two_at ((hb1.block _ (heap_lt GR.out)).trans GR.out)
  have HX : Hid (Rd w1 4 (.slice A1 p.rows.length c1) (rcs p.rows) f1 ∧ NF w1 f1 ∧ From (w.heap.size + 3) f1 ∧ Below w.heap.size w w1) :=
    ⟨hr1, hn1, hf1.mono HZ.out, HBW.out.trans (hb1.mono HBW.out.size)⟩
  clear hr1 hn1 hf1 hb1
  go_wp2_with fail
  refine bodyPost_ret (v := ptv (.slice A1 p.rows.length c1) p.mark) (by simp [results, Try.results86, go_sem, q0, q1, o0, o1]) rfl ?_
  obtain ⟨k1, k2, k3, k5⟩ := HX.out
  have hbut : But [w.heap.size + 1, w.heap.size + 2] w1 ((((w1.setCell ⟨w.heap.size + 2, 0, none⟩ (.slice A1 p.rows.length c1)).setCell ⟨w.heap.size + 2, 1, none⟩ (.int .i64 p.mark)).setCell ⟨w.heap.size + 1, 0, none⟩ (.slice A1 p.rows.length c1)).setCell ⟨w.heap.size + 1, 1, none⟩ (.int .i64 p.mark)) :=
    ((((But.refl _ w1).setCell (by simp) _).setCell (by simp) _).setCell (by simp) _).setCell (by simp) _
  have a1 : ∀ x ∈ f1, x ∉ [w.heap.size + 1, w.heap.size + 2] := fun x hx he => by have := k3 x hx; simp at he; omega
  exact ⟨_, _, f1, rfl, k1.but hbut a1, k2.but hbut k1.lt a1, k3.mono (by omega), k5.trans (hbut.below k5.size (fun x hx => by simp at hx; omega))⟩

set_option maxRecDepth 1000000 in
theorem infoPart : ∃ i, Try.prog.info? 116 = some i ∧ i.zero = some (ptv (.slice none 0 0) 0) ∧ i.size = 2 ∧ i.bytes = 32 := ⟨_, rfl, rfl, rfl, rfl⟩
theorem makePartS (n : Nat) (hn : n ≤ 1099511627776) (W : World) : (Instr.makeSlice 68 (.int .i64 (n : Int)) (.int .i64 (n : Int))).run Try.prog W = .ok (.slice (some ⟨W.heap.size, 0, none⟩) n n) (W.alloc (.cells (madeCells #[.slice none 0 0, .int .i64 0] (n * 2)) 116)) := by
  obtain ⟨i, hi, hz, hsz, hby⟩ := infoPart
  have hr := run_make (P := Try.prog) W 68 116 i (ptv (.slice none 0 0) 0) Try.underlying68 hi hz .i64 .i64 n n (by omega) (by omega) (by rw [hby]; omega) (by omega)
  simp only [Int.toNat_natCast, hsz] at hr
  exact hr
theorem madePairs (a b : Value) (n : Nat) : madeCells #[a, b] (n * 2) = (List.replicate n [a, b]).flatten.toArray := by
  have hl : ∀ u ∈ List.replicate n [a, b], u.length = 2 := by intro u hu; rw [(List.mem_replicate.1 hu).2]; rfl
  unfold madeCells
  apply Array.ext'
  apply List.ext_getElem?
  intro i
  simp only [Array.toList_map, Array.toList_range, List.getElem?_map]
  by_cases h : i < n * 2
  · have hm : i % 2 < 2 := Nat.mod_lt _ (by omega)
    have hd : i / 2 * 2 + i % 2 = i := Nat.div_add_mod' i 2
    have hg := flat_get hl (i := i / 2) (j := i % 2) (u := [a, b]) (by rw [List.getElem?_replicate, if_pos (by omega)]) hm
    rw [hd] at hg
    rw [hg, List.getElem?_range h]
    simp only [Option.map_some]
    have : i % 2 = 0 ∨ i % 2 = 1 := by omega
    rcases this with e | e <;> simp [e]
  · rw [List.getElem?_eq_none (by simp; omega), List.getElem?_eq_none (by rw [flat_len hl, List.length_replicate]; omega)]
    rfl


set_option maxRecDepth 100000 in
set_option maxHeartbeats 2000000 in
theorem toPartS_c (A : Option Addr) (c : Nat) (l : List Pt) (w : World) (fp : List Nat) (hs : psz l ≤ 1048576) (ha : RdP w (.slice A l.length c) l fp) :
    Calls Try.prog 38 #[.slice A l.length c] w (CopySl partK w l) := by
  have hn : l.length ≤ 1048576 := by unfold psz at hs; omega
  have HS : Hid (∀ k (h : k < l.length), l[k].rows.length ≤ 1048576) := fun k h => by have := len_of_totP l k h; unfold psz at hs; omega
  have hmk : ∀ W : World, (Instr.makeSlice 68 (.int .i64 (l.length : Int)) (.int .i64 (l.length : Int))).run Try.prog W = .ok (.slice (some ⟨W.heap.size, 0, none⟩) l.length l.length) (W.alloc (.cells (madeCells #[.slice none 0 0, .int .i64 0] (l.length * 2)) 116)) := fun W => makePartS _ (by omega) W
  have HA := Lib.hid ha
  clear hs ha
  go_enter Try.func38, Try.ntmps38
  go_wp2
  clear hmk
  go_loopw [4] (fun i wr => ∃ k : Nat, k ≤ l.length ∧ i = .int .i64 k ∧ Hid (Fill partK [.slice none 0 0, .int .i64 0] w 116 l k wr)) (fun i _ => l.length - (intOf i).toNat)
  case atStart => exact ⟨0, Nat.zero_le _, rfl, Lib.hid (Fill.zero (kd := partK) (l := l) (madePairs _ _ l.length))⟩
  case round =>
    obtain ⟨k, hk, rfl, hfl⟩ := hrel
    by_cases hlt : k < l.length
    · obtain ⟨b, off, B, d, f, rfl, hb, hbl, hc, hc1, hrd, hf⟩ := partsAt (HA.out.below' hfl.out.below) hlt
      have hsk := HS.out k hlt
      clear hf hb hbl
      go_wp2_with fail
      refine (toPart_c B d l[k] _ f hsk hrd).mono ?_
      rintro e w1 ⟨B1, d1, f1, rfl, hr1, hn1, hf1, hb1⟩
      obtain ⟨hz1, hfz, hcl⟩ := hfl.out.cells (by rfl) hlt hb1
      have c0 := hcl 0 _ rfl
      have c1 := hcl 1 _ rfl
      simp only [partK, Nat.add_zero] at c0 c1
      have f0 := hfz (k * 2)
      have f2 := hfz (k * 2 + 1)
      have hst : ∀ w2, But [w.heap.size] w1 w2 → (∀ cs, w1.heap[w.heap.size]? = some (.cells cs 116 (0, 0)) → w2.heap[w.heap.size]? = some (.cells (setAll cs (k * partK.K) [.slice B1 l[k].rows.length d1, .int .i64 l[k].mark]) 116 (0, 0))) → Fill partK [.slice none 0 0, .int .i64 0] w 116 l (k + 1) w2 :=
        fun w2 hbut hset => hfl.out.step rfl hlt hb1 ⟨_, rfl, hr1⟩ hn1 hf1 hr1.nodup hbut hset
      have HST := Lib.hid hst; clear hst
      clear hr1 hn1 hf1 hb1 hfl hfz hcl hc hc1 hrd
      go_wp2_with fail
      refine ⟨⟨k + 1, by omega, by go_num, HST.out _ (((But.refl _ _).setCell (by simp) _).setCell (by simp) _) (fun cs hcs => ?_)⟩, by simp [intOf]; omega⟩
      simp only [partK, setAll]
      exact heap_set1 (heap_set1 hcs)
    · obtain rfl : k = l.length := by omega
      go_wp2
      go_ret
      exact hfl.out.done (by unfold maxLen; omega)

set_option maxRecDepth 100000 in
set_option maxHeartbeats 1000000 in
theorem eqPart_c (A B : Option Addr) (c d : Nat) (p : Pt) (fp fq : List Nat) (w : World) (h : Rd w 4 (.slice A p.rows.length c) (rcs p.rows) fp) (h' : Rd w 4 (.slice B p.rows.length d) (rcs p.rows) fq) :
    Calls Try.prog 90 #[ptv (.slice A p.rows.length c) p.mark, ptv (.slice B p.rows.length d) p.mark] w fun e w' => e = .returned (.bool true) ∧ Below w.heap.size w w' := by
  have H1 := Lib.hid h; have H2 := Lib.hid h'; clear h h'
  go_enter Try.func90, Try.ntmps90
  go_wp2_with fail
  generalize hW : ((w.alloc (.cells #[.slice A p.rows.length c, .int .i64 p.mark] 116)).alloc (.cells #[.slice B p.rows.length d, .int .i64 p.mark] 116)) = W
  have hbW : Below w.heap.size w W := by rw [← hW]; exact below_more (below_new _) _
  have g1 : W.heap[w.heap.size]? = some (.cells #[.slice A p.rows.length c, .int .i64 p.mark] 116 (0, 0)) := by rw [← hW]; exact heap_old (heap_new w _ rfl)
  have g2 : W.heap[w.heap.size + 1]? = some (.cells #[.slice B p.rows.length d, .int .i64 p.mark] 116 (0, 0)) := by rw [← hW]; exact heap_new _ _ (by simp)
  have HBW := Lib.hid hbW; have G1 := Lib.hid g1; have G2 := Lib.hid g2
  clear hW hbW g1 g2
  refine (eqRowS_c A B c d p.rows _ fp fq (H1.out.below' HBW.out) (H2.out.below' HBW.out)).mono ?_
  rintro e w1 ⟨rfl, hb1⟩
  obtain ⟨l0, l1, _, _, hzl⟩ := two_at ((hb1.block _ (heap_lt G1.out)).trans G1.out)
  obtain ⟨m0, m1, _, _, hzm⟩ := two_at ((hb1.block _ (heap_lt G2.out)).trans G2.out)
  have HB1 := Lib.hid (HBW.out.trans (hb1.mono HBW.out.size))
  clear hb1
  go_wp2
  go_ret
  exact ⟨rfl, HB1.out⟩

set_option maxRecDepth 100000 in
set_option maxHeartbeats 2000000 in
theorem eqPartS_c (A B : Option Addr) (c d : Nat) (l : List Pt) (w : World) (fp fq : List Nat)
    (ha : RdP w (.slice A l.length c) l fp) (hb : RdP w (.slice B l.length d) l fq) :
    Calls Try.prog 41 #[.slice A l.length c, .slice B l.length d] w fun e w' => e = .returned (.bool true) ∧ Below w.heap.size w w' := by
  have hmax := ha.len_le.2
  have HA := Lib.hid ha; have HB := Lib.hid hb; clear ha hb
  go_enter Try.func41, Try.ntmps41
  go_wp2
  go_loopw [5] (fun i wr => ∃ k : Nat, k ≤ l.length ∧ i = .int .i64 k ∧ Hid (Below w.heap.size w wr)) (fun i _ => l.length - (intOf i).toNat)
  case atStart => exact ⟨0, Nat.zero_le _, rfl, Below.refl _ _⟩
  case round =>
    obtain ⟨k, hk, rfl, hbel⟩ := hrel
    by_cases hlt : k < l.length
    · obtain ⟨b1, o1, B1, d1, f1, rfl, _, hl1, p0, p1, r1, _⟩ := partsAt (HA.out.below' hbel.out) hlt
      obtain ⟨b2, o2, B2, d2, f2, rfl, _, hl2, q0, q1, r2, _⟩ := partsAt (HB.out.below' hbel.out) hlt
      have HR := Lib.hid (And.intro r1 r2); clear r1 r2
      generalize l[k] = p at *
      have hi0 : (0 : Int) ≤ (k : Int) := by omega
      have hi1 : (k : Int) < (l.length : Int) := by omega
      go_wp2_with fail
      go_region_held3 (fun w' => w'.cell? ⟨b1, o1 + k * 2, none⟩ = some (.slice B1 p.rows.length d1) ∧ w'.cell? ⟨b1, o1 + k * 2 + 1, none⟩ = some (.int .i64 p.mark) ∧ w'.cell? ⟨b2, o2 + k * 2, none⟩ = some (.slice B2 p.rows.length d2) ∧ w'.cell? ⟨b2, o2 + k * 2 + 1, none⟩ = some (.int .i64 p.mark))
        (first
          | go_keep
          | exact ⟨(hb1.cell (p := ⟨b1, _, none⟩) hl1).trans p0, (hb1.cell (p := ⟨b1, _, none⟩) hl1).trans p1, (hb1.cell (p := ⟨b2, _, none⟩) hl2).trans q0, (hb1.cell (p := ⟨b2, _, none⟩) hl2).trans q1⟩)
        ((go_at_call 90; refine (eqPart_c B1 B2 d1 d2 p f1 f2 _ HR.out.1.drew HR.out.2.drew).mono ?_; rintro e w1 ⟨rfl, hb1⟩))
      have hb2 : Below w.heap.size w w1 := hbel.out.drew.trans (hb1.mono hbel.out.size)
      have HB2 := Lib.hid hb2; clear hb2 hb1
      go_wp2_with fail
      exact ⟨⟨k + 1, by omega, by go_num, HB2.out⟩, by simp [intOf]; omega⟩
    · go_wp2
      go_ret
      exact ⟨rfl, hbel.out⟩



theorem Sl.form' {α : Type} {k : Kd α} {w : World} {v : Value} {l : List α} {fp : List Nat} (h : Sl k w v l fp) : ∃ A c, v = .slice A l.length c := by
  obtain ⟨A, c, e, _⟩ := h.form
  exact ⟨A, c, e⟩
/-- What a call answers that gives a code and parts in memory of its own. -/
def PsResPost (w : World) (code : Int) (l : List Pt) (e : Ending) (w' : World) : Prop :=
  ∃ v fp, e = .returned (psv code v) ∧ RdP w' v l fp ∧ NF w' fp ∧ (From w.heap.size fp ∧ fp.Nodup) ∧ Below w.heap.size w w'



end Go.Proofs.Ytldimfmhbdhbnaa
