/-
  The model's draws of chapter 6, first part: places.
-/
import Derived.Test.YtldimfmhbdhbnaaGreatG25
import Derived.Test.YtldimfmhbdhbnaaGreatG49
import Derived.Test.YtldimfmhbdhbnaaGreatG23
namespace Go.Proofs.YtldimfmhbdhbnaaGreat
open Go.RowKit

theorem next_6 (w : World) (s : Nat) (zs : List Int) (a : Nat) (n : Int) (h : Src w s zs a) (ha : a < 1000000) (hn : 1 ≤ n) (hn2 : n ≤ 1000000) :
    Calls Tryz.prog 34 #[.pointer (some ⟨s, 0, none⟩), .int .i64 n] w fun e w' => ∃ v, e = .returned (.int .i64 v) ∧ 0 ≤ v ∧ v < n ∧ Drawn w s zs a 1 w' := by
  refine (l1Next_c w s zs a n h hn hn2).mono ?_
  rintro e w1 ⟨v, m, rfl, hv0, hv1, hw1⟩
  exact ⟨v, rfl, hv0, hv1, Drawn.of_next h ha hw1⟩
theorem pick_6 (w : World) (s : Nat) (zs : List Int) (a n : Nat) (xs : List Int) (h : Src w s zs a) (hn : n = w.heap.size) (ha : a < 1000000) (hx : 1 ≤ xs.length) (hx2 : xs.length ≤ 1000) :
    Calls Tryz.prog 37 #[.pointer (some ⟨s, 0, none⟩), .slice (some ⟨n, 0, none⟩) xs.length xs.length] (w.alloc (.cells (cellsOf .i64 xs).toArray 2)) fun e w' => ∃ v, e = .returned (.int .i64 v) ∧ v ∈ xs ∧ Drawn w s zs a 1 w' := by
  subst hn
  obtain ⟨fq, hr, _, hf⟩ := Rd.fresh (w := w) (w' := w.alloc (.cells (cellsOf .i64 xs).toArray 2)) (n := xs.length) (size := 1) (xs := cellsOf .i64 xs) (e := 2) (by unfold maxLen; omega) (by simp [cellsOf]) (heap_new _ _ rfl) (Nat.le_refl _)
  have hlt := h.lt
  have hfs : s ∉ fq := fun hm => by have := hf _ hm; omega
  have hd0 := (Drawn.start h).alloc (.cells (cellsOf .i64 xs).toArray 2)
  refine (l1Pick_c _ s zs a _ xs.length xs fq hd0.src ha hx hx2 hr hfs).mono ?_
  rintro e w1 ⟨v, rfl, hv, hd, _⟩
  exact ⟨v, rfl, hv, by have := hd0.trans hd; simpa using this⟩

/-- A drawn list of rows that are in range. -/
def DFitPost (w : World) (s : Nat) (zs : List Int) (a : Nat) (e : Ending) (w' : World) : Prop :=
  ∃ v fv rs d, e = .returned v ∧ Rd w' 4 v (rcs rs) fv ∧ From w.heap.size fv ∧ (∀ r ∈ rs, Fit r ∧ Mild r) ∧ rs.length ≤ 7 ∧ d ≤ 29 ∧ Drawn w s zs a d w'

set_option maxRecDepth 100000 in
set_option maxHeartbeats 4000000 in
theorem l2Draw_f (w : World) (s : Nat) (zs : List Int) (a : Nat) (h : Src w s zs a) (ha : a < 990000) :
    Calls Tryz.prog 73 #[.pointer (some ⟨s, 0, none⟩)] w (DFitPost w s zs a) := by
  have hlt := h.lt
  have HD := Lib.hid ((Drawn.start h).alloc (.cells #[] 40))
  have HO := Lib.hid (own_emptyR (w := w) (t := 40) (base := w.heap.size) (Nat.le_refl _))
  go_enter Tryz.func73, Tryz.ntmps73
  go_wp2_with fail
  refine (l1Next_c _ s zs _ 8 HD.out.src (by omega) (by omega)).mono ?_
  rintro e w1 ⟨v, m1, rfl, hv0, hv1, hw⟩
  have hd1 := Drawn.of_next HD.out.src (by omega) hw
  have ho1 := hd1.keeps4 HO.out hlt
  replace HD := Lib.hid (HD.out.trans hd1)
  replace HO := Lib.hid ho1
  clear hw hd1 ho1
  obtain ⟨k0, rfl⟩ : ∃ k0 : Nat, v = k0 := ⟨v.toNat, by omega⟩
  go_wp2_with fail
  go_loopw [3, 4] (fun v i wr => ∃ (k d n B : Nat) (acc : List R), k ≤ 7 ∧ i = .int .i64 k ∧ w.heap.size ≤ B ∧ acc.length ≤ 7 - k ∧ d ≤ 1 + 4 * (7 - k) ∧ Hid (wr.ownsRow B 40 4 v n (rcs acc)) ∧ Hid (∀ r ∈ acc, Fit r ∧ Mild r) ∧ Hid (Drawn w s zs a d wr)) (fun _ i _ => (intOf i).toNat)
  case atStart => exact ⟨k0, 1, 0, w.heap.size, [], by omega, rfl, Nat.le_refl _, by simp, by omega, HO, Lib.hid (by simp), HD⟩
  case round =>
    obtain ⟨k, d, n, B, acc, hk, rfl, hB, hl, hd, HOW, HM, HDR⟩ := hrel
    by_cases hlt : 0 < k
    · have hs1 := HDR.out.but.size
      go_wp2_with fail
      refine (l2DrawRow_c _ s zs _ HDR.out.src (by omega)).mono ?_
      rintro e w2 ⟨r, rfl, hfr, hmr, _, hd2⟩
      have ho2 := hd2.keeps4 HOW.out (by omega)
      obtain ⟨fv, hrv, hnv, hfv⟩ := Rd.of_own ho2
      obtain ⟨Av, cv, hv⟩ := hrv.rows_form
      subst hv
      have HD2 := Lib.hid (HDR.out.trans hd2)
      have HR2 := Lib.hid hrv
      have hs2 := hd2.but.size
      clear hd2 ho2 hrv hnv hfv
      go_wp2_with fail
      refine (l2Set_c Av cv acc r _ fv (by omega) (fits_iff.2 fun x hx => (HM.out x hx).1) hfr HR2.out).mono ?_
      rintro e w3 ⟨v3, f3, rfl, hr3, hn3, hf3, hb3, n3, B3, hB3, ho3⟩
      have HO3 := Lib.hid ho3
      have HD3 := Lib.hid (HD2.out.below hb3)
      have hl3 := setR_length acc r
      have hM3 : ∀ x ∈ setR acc r, Fit x ∧ Mild x := fun x hx => by
        rcases setR_mem hx with rfl | hx
        · exact ⟨hfr, hmr⟩
        · exact HM.out x hx
      have HM3 := Lib.hid hM3
      clear hr3 hn3 hf3 hb3 ho3 hM3
      go_wp2_with fail
      exact ⟨⟨k - 1, d + 4, n3, B3, setR acc r, by omega, by go_num, by omega, by omega, by omega, HO3, HM3, HD3⟩, by simp [intOf]; omega⟩
    · obtain rfl : k = 0 := by omega
      obtain ⟨fv, hrv, hnv, hfv⟩ := Rd.of_own HOW.out
      have HR2 := Lib.hid hrv
      clear hrv
      go_wp2_with fail
      go_ret
      exact ⟨_, fv, acc, d, rfl, HR2.out, hfv.mono hB, HM.out, by omega, by omega, HDR.out⟩
/-- Drawn places: four files of their own. -/
def DOfPost (w : World) (s : Nat) (zs : List Int) (a : Nat) (e : Ending) (w' : World) : Prop :=
  ∃ (rs : List R) (q : Int) (g B : Nat) (vs : List Value) (d : Nat), e = .returned (plv q (.slice (some ⟨g, 0, none⟩) 4 4)) ∧ w'.heap[g]? = some (.cells vs.toArray 24 (0, 0)) ∧ OwnF w' B vs (filesOf rs) 40 ∧ w.heap.size ≤ g ∧ g < B ∧
    (∀ r ∈ rs, Fit r ∧ Mild r) ∧ rs.length ≤ 7 ∧ (0 ≤ q ∧ q ≤ 999) ∧ d ≤ 30 ∧ Drawn w s zs a d w'

set_option maxRecDepth 100000 in
set_option maxHeartbeats 4000000 in
theorem l6Draw_c (w : World) (s : Nat) (zs : List Int) (a : Nat) (h : Src w s zs a) (ha : a < 970000) :
    Calls Tryz.prog 66 #[.pointer (some ⟨s, 0, none⟩)] w (DOfPost w s zs a) := by
  have hls := h.lt
  have hd0 := (Drawn.start h).alloc (.cells #[.slice none 0 0, .int .i64 0] 32)
  have GB0 := Lib.hid (heap_new w (.cells #[.slice none 0 0, .int .i64 0] 32) rfl)
  have hz0 : w.heap.size + 1 = (w.alloc (.cells #[.slice none 0 0, .int .i64 0] 32)).heap.size := by simp
  have HD0 := Lib.hid hd0
  clear hd0 h
  go_enter Tryz.func66, Tryz.ntmps66
  go_wp2_with fail
  generalize w.alloc (.cells #[.slice none 0 0, .int .i64 0] 32) = w0 at *
  refine (l2Draw_f w0 s zs (a + 0) HD0.out.src (by omega)).mono ?_
  rintro e w1 ⟨v, fv, rs, d, rfl, hr, hf, hm, hl, hd, hdr⟩
  obtain ⟨A, c, rfl⟩ := hr.rows_form
  have hsz1 := hdr.but.size
  have hap : ∀ b ∈ fv, b ∉ [s] := fun b hb he => by have := hf b hb; simp at he; omega
  have HR := Lib.hid hr; have HM := Lib.hid hm; have HD := Lib.hid (HD0.out.trans hdr); have HAP := Lib.hid hap
  have GB1 := Lib.hid (hdr.but.heap GB0.out (by simp; omega))
  clear hr hf hm hdr hap HD0 GB0
  go_wp2_with fail
  refine (pick_6 w1 s zs (a + (0 + d)) w1.heap.size [0, 1, 998, 999] HD.out.src rfl (by omega) (by simp) (by simp)).mono ?_
  rintro e w2 ⟨q, rfl, hq, hd2⟩
  have hq' : 0 ≤ q ∧ q ≤ 999 := by simp at hq; omega
  have HR2 := Lib.hid (HR.out.but hd2.but HAP.out)
  have HD2 := Lib.hid (HD.out.trans hd2)
  have GB2 := Lib.hid (hd2.but.heap GB1.out (by simp; omega))
  have hsz2 := hd2.but.size
  clear hq hd2 GB1
  go_wp2_with fail
  refine (l6Of_o A c rs q w2 fv (by omega) (fits_iff.2 fun x hx => (HM.out x hx).1) HR2.out).mono ?_
  rintro e w3 ⟨g, B, vs, rfl, hg, ho, hgl, hgB, hb⟩
  have HX := Lib.hid (And.intro hg (And.intro ho (HD2.out.below hb)))
  have hg3 := (hb.block _ (heap_lt GB2.out)).trans GB2.out
  obtain ⟨y0, y1, z0, z1, yz⟩ := two_at hg3
  clear hg ho hb
  go_wp2_with fail
  refine bodyPost_ret (v := plv q (.slice (some ⟨g, 0, none⟩) 4 4)) (by simp [results, Tryz.results66, go_sem, y0, y1]) rfl ?_
  have hbut := ((But.refl [w.heap.size] w3).setCell (p := ⟨w.heap.size, 0, none⟩) (by simp) (.slice (some ⟨g, 0, none⟩) 4 4)).setCell (p := ⟨w.heap.size, 1, none⟩) (by simp) (.int .i64 q)
  refine ⟨rs, q, g, B, vs, _, rfl, hbut.heap HX.out.1 (by simp; omega), HX.out.2.1.kept fun v n xs h => ?_, by omega, hgB, HM.out, hl, hq', ?_, (HX.out.2.2.set ⟨Nat.le_refl _, hls⟩ _ _).set ⟨Nat.le_refl _, hls⟩ _ _⟩
  · refine h.kept (row := some w.heap.size) ⟨hbut.os, hbut.tape, hbut.output, hbut.size, fun x hx hne => hbut.block x hx (by simp; intro e; exact hne (by rw [e]))⟩ ?_
    cases hv : v.ownBlock with
    | none => exact .inl rfl
    | some g => exact .inr fun e => by have := own_base' h hv; injection e with e; omega
  · omega
end Go.Proofs.YtldimfmhbdhbnaaGreat

/-
  The model's draws of chapter 6, second part: places that may be wrong.
-/
namespace Go.Proofs.YtldimfmhbdhbnaaGreat
open Go.RowKit

theorem own_ne {w : World} {base size n b : Nat} {T T' : TypeId} {v : Value} {xs : List Value} {cs : Array Value} (h : w.ownsRow base T size v n xs) (hb : w.heap[b]? = some (.cells cs T' (0, 0))) (hT : T ≠ T') : v.ownBlock ≠ some b := by
  rcases h.2 with ⟨rfl, _⟩ | ⟨g', cap, cur, rfl, _, hh, _⟩
  · simp [Value.ownBlock]
  · intro e
    simp [Value.ownBlock] at e
    subst e
    rw [hb] at hh
    injection hh with hh
    injection hh with _ hh
    exact hT hh.symm
theorem own_lower6 {w : World} {base base' size n : Nat} {T : TypeId} {v : Value} {xs : List Value} (h : w.ownsRow base T size v n xs) (hb : base' ≤ base) : w.ownsRow base' T size v n xs := by
  refine ⟨h.1, ?_⟩
  rcases h.2 with h0 | ⟨g, cap, cur, h1, h2, h3, h4⟩
  · exact .inl h0
  · exact .inr ⟨g, cap, cur, h1, Nat.le_trans hb h2, h3, h4⟩
theorem OwnF.lower {w : World} {B B' : Nat} {vs : List Value} {ls : List (List R)} {T : TypeId} (h : OwnF w B vs ls T) (hb : B' ≤ B) : OwnF w B' vs ls T :=
  ⟨h.len, fun j hj => by obtain ⟨v, n, h1, h2⟩ := h.own j hj; exact ⟨v, n, h1, own_lower6 h2 hb⟩, h.apart⟩
theorem flat_one (us : List Value) : (us.map fun v => [v]).flatten = us := by
  induction us with
  | nil => rfl
  | cons a t ih => rw [List.map_cons, List.flatten_cons, ih]; rfl

/-- Four files of the call's own, from the k-th on. -/
theorem own_reads {w' : World} {ls : List (List R)} (m : Int) {g B : Nat} {vs : List Value} (k : Nat) (hk : k < 4) (h4 : ls.length = 4) (HG : w'.heap[g]? = some (.cells vs.toArray 24 (0, 0))) (ho : OwnF w' B vs ls 40) (hgB : g < B) :
    ∃ fp, PlAt w' ⟨ls.drop k, m⟩ (.slice (some ⟨g, k, none⟩) (4 - k) (4 - k)) fp ∧ NF w' fp ∧ From g fp ∧ fp.Nodup := by
  obtain ⟨fs, ha, hn, hf, hd⟩ := ho.reads
  have hvl : vs.length = 4 := by rw [ho.len, h4]
  have ha' := ha
  rw [← List.take_append_drop k ls] at ha'
  obtain ⟨ua, ub, fa, fb, e1, rfl, h1, h2⟩ := ha'.split
  have hlu : ua.length = k := by rw [h1.len.1, List.length_take]; omega
  have hub : ub = (vs.drop k).map fun v => [v] := by rw [List.map_drop, e1, List.drop_left' hlu]
  subst hub
  simp only [List.flatten_append] at hn hf hd
  have hrd : Rd w' 1 (.slice (some ⟨g, k, none⟩) (4 - k) (4 - k)) ((vs.drop k).map fun v => [v]).flatten [g] := by
    rw [flat_one]
    refine ⟨_, 4 - k, 4 - k, rfl, by rw [List.length_drop, hvl, Nat.mul_one], by unfold maxLen; omega, Nat.le_refl _, .inr ⟨_, k, rfl, rfl, heap_lt HG, fun i u hu => ?_⟩⟩
    rw [List.getElem?_drop] at hu
    rw [cell_of_heap HG, List.getElem?_toArray]
    exact hu
  refine ⟨[g] ++ fb.flatten, ⟨⟨_, _, fb, hrd, h2, rfl⟩⟩, fun x hx i => ?_, fun x hx => ?_, List.nodup_append.2 ⟨by simp, (List.nodup_append.1 hd).2.1, fun a ha b hb => ?_⟩⟩
  · rcases List.mem_append.1 hx with hx | hx
    · simp at hx; subst hx; exact frozen_of_heap HG
    · exact hn x (List.mem_append.2 (.inr hx)) i
  · rcases List.mem_append.1 hx with hx | hx
    · simp at hx; omega
    · have := hf x (List.mem_append.2 (.inr hx)); omega
  · have := hf b (List.mem_append.2 (.inr hb)); simp at ha; omega

/-- Drawn places. -/
def DPlPost (w : World) (s : Nat) (zs : List Int) (a : Nat) (e : Ending) (w' : World) : Prop :=
  ∃ (p : Pl) (vf : Value) (fp : List Nat) (d : Nat), e = .returned (plv p.mark vf) ∧ PlAt w' p vf fp ∧ NF w' fp ∧ From w.heap.size fp ∧ fp.Nodup ∧ (∀ l ∈ p.fs, ∀ r ∈ l, Mild r) ∧ (-20000 ≤ p.mark ∧ p.mark ≤ 20000) ∧ plsz p ≤ 1000 ∧ d ≤ 60 ∧ Drawn w s zs a d w'
theorem fsz_le {l : List (List R)} {n : Nat} (h : ∀ x ∈ l, x.length ≤ n) : fsz l ≤ (l.length : Int) + ((l.length * n : Nat) : Int) := by
  have : totS l ≤ l.length * n := by
    unfold totS cntL
    induction l with
    | nil => simp
    | cons a t ih =>
      have h1 := h a (by simp)
      have h2 := ih (fun x hx => h x (by simp [hx]))
      rw [List.map_cons, List.sum_cons, List.length_cons, Nat.succ_mul]; omega
  unfold fsz
  omega
/-- What stands: the files in block g, the value in block p, the answer's block. -/
structure LB (w : World) (s : Nat) (zs : List Int) (a d g p n k : Nat) (vs : List Value) (ls : List (List R)) (q : Int) (wr : World) : Prop where
  hg : wr.heap[g]? = some (.cells vs.toArray 24 (0, 0))
  own : OwnF wr (g + 1) vs ls 40
  box : wr.heap[p]? = some (.cells #[.slice (some ⟨g, k, none⟩) (4 - k) (4 - k), .int .i64 q] 32 (0, 0))
  res : wr.heap[w.heap.size]? = some (.cells #[.slice none 0 0, .int .i64 0] 32 (0, 0))
  drawn : Drawn w s zs a d wr
  l4 : ls.length = 4
  mild : ∀ l ∈ ls, ∀ r ∈ l, Mild r
  sz : ∀ l ∈ ls, l.length ≤ n
  gl : w.heap.size < g
  pg : g < p
  sl : s < w.heap.size
section
variable {w wr : World} {s : Nat} {zs : List Int} {a d g p n k : Nat} {vs : List Value} {ls : List (List R)} {q : Int}
theorem LB.draw (h : LB w s zs a d g p n k vs ls q wr) {e : Nat} {w1 : World} (hd : Drawn wr s zs (a + d) e w1) : LB w s zs a (d + e) g p n k vs ls q w1 := by
  have h1 := h.sl; have h2 := h.gl; have h3 := h.pg
  refine ⟨hd.but.heap h.hg (by simp; omega), h.own.kept fun v n xs ho => hd.keeps4 ho (by omega), hd.but.heap h.box (by simp; omega), hd.but.heap h.res (by simp; omega), h.drawn.trans hd, h.l4, h.mild, h.sz, h.gl, h.pg, h.sl⟩
theorem LB.below (h : LB w s zs a d g p n k vs ls q wr) {w1 : World} (hb : Below wr.heap.size wr w1) : LB w s zs a d g p n k vs ls q w1 := by
  have keep : ∀ {b : Nat} {o : Obj}, wr.heap[b]? = some o → w1.heap[b]? = some o := fun hh => (hb.block _ (heap_lt hh)).trans hh
  refine ⟨keep h.hg, h.own.kept fun v n xs ho => ?_, keep h.box, keep h.res, h.drawn.below hb, h.l4, h.mild, h.sz, h.gl, h.pg, h.sl⟩
  refine ⟨ho.1, ?_⟩
  rcases ho.2 with h0 | ⟨g, cap, cur, h1, h2, h3, h4⟩
  · exact .inl h0
  · exact .inr ⟨g, cap, cur, h1, h2, keep h3, h4⟩
/-- The value's block is stored into. -/
theorem LB.store (h : LB w s zs a d g p n k vs ls q wr) (i k' : Nat) (u : Value) (q' : Int)
    (hc : #[Value.slice (some ⟨g, k, none⟩) (4 - k) (4 - k), .int .i64 q].setIfInBounds i u = #[Value.slice (some ⟨g, k', none⟩) (4 - k') (4 - k'), .int .i64 q']) : LB w s zs a d g p n k' vs ls q' (wr.setCell ⟨p, i, none⟩ u) := by
  have h1 := h.sl; have h2 := h.gl; have h3 := h.pg
  have hb : But [p] wr (wr.setCell ⟨p, i, none⟩ u) := (But.refl [p] wr).setCell (p := ⟨p, i, none⟩) (by simp) u
  refine ⟨hb.heap h.hg (by simp; omega), h.own.kept fun v n xs ho => ?_, ?_, hb.heap h.res (by simp; omega), h.drawn.set ⟨by omega, h1⟩ i u, h.l4, h.mild, h.sz, h.gl, h.pg, h.sl⟩
  · refine ho.kept (row := some p) ⟨hb.os, hb.tape, hb.output, hb.size, fun x hx hne => hb.block x hx (by simp; intro e; exact hne (by rw [e]))⟩ ?_
    cases hv : v.ownBlock with
    | none => exact .inl rfl
    | some g' => exact .inr fun e => own_ne ho h.box (by decide) (by rw [hv, e])
  · rw [← hc]; exact heap_set1 h.box
theorem LB.fin (h : LB w s zs a d g p n k vs ls q wr) (hk : k < 4) (hn : n ≤ 100) (hq : -20000 ≤ q ∧ q ≤ 20000) (hd : d ≤ 60) (u v : Value) :
    DPlPost w s zs a (.returned (plv q (.slice (some ⟨g, k, none⟩) (4 - k) (4 - k)))) ((wr.setCell ⟨w.heap.size, 0, none⟩ u).setCell ⟨w.heap.size, 1, none⟩ v) := by
  have h1 := h.sl; have h2 := h.gl; have h3 := h.pg; have h4 := h.l4
  obtain ⟨fp, k1, k2, k3, k4⟩ := own_reads q k hk h4 h.hg h.own (Nat.lt_succ_self g)
  have hbut := ((But.refl [w.heap.size] wr).setCell (p := ⟨w.heap.size, 0, none⟩) (by simp) u).setCell (p := ⟨w.heap.size, 1, none⟩) (by simp) v
  have a1 : ∀ x ∈ fp, x ∉ [w.heap.size] := fun x hx he => by have := k3 x hx; simp at he; omega
  have hz := fsz_le (l := ls.drop k) (n := n) (fun x hx => h.sz x (List.mem_of_mem_drop hx))
  have hlen : (ls.drop k).length ≤ 4 := by rw [List.length_drop]; omega
  have hm : (ls.drop k).length * n ≤ 4 * 100 := Nat.mul_le_mul hlen hn
  exact ⟨⟨ls.drop k, q⟩, _, fp, d, rfl, k1.but hbut a1, k2.but hbut k1.lt a1, k3.mono (by omega), k4, fun l hl => h.mild l (List.mem_of_mem_drop hl), hq, by show fsz (ls.drop k) ≤ 1000; omega, hd, (h.drawn.set ⟨Nat.le_refl _, h1⟩ _ _).set ⟨Nat.le_refl _, h1⟩ _ _⟩
/-- A file's slice is stored. -/
theorem LB.put (h : LB w s zs a d g p n k vs ls q wr) {j : Nat} {w2 : World} {v' : Value} {l' : List R} {n' d' : Nat} (hn : n ≤ n') (hg2 : w2.heap[g]? = some (.cells vs.toArray 24 (0, 0)))
    (own2 : OwnF w2 (g + 1) (vs.set j v') (ls.set j l') 40) (box2 : w2.heap[p]? = some (.cells #[.slice (some ⟨g, k, none⟩) (4 - k) (4 - k), .int .i64 q] 32 (0, 0)))
    (res2 : w2.heap[w.heap.size]? = some (.cells #[.slice none 0 0, .int .i64 0] 32 (0, 0))) (hd2 : Drawn w s zs a d' w2) (hm : ∀ r ∈ l', Mild r) (hl : l'.length ≤ n') :
    LB w s zs a d' g p n' k (vs.set j v') (ls.set j l') q (w2.setCell ⟨g, j, none⟩ v') := by
  have h1 := h.sl; have h2 := h.gl; have h3 := h.pg
  have hb : But [g] w2 (w2.setCell ⟨g, j, none⟩ v') := (But.refl [g] w2).setCell (p := ⟨g, j, none⟩) (by simp) v'
  refine ⟨?_, own2.kept fun v n xs ho => ?_, hb.heap box2 (by simp; omega), hb.heap res2 (by simp; omega), hd2.set ⟨by omega, h1⟩ j v', by rw [List.length_set]; exact h.l4, fun l hl2 => ?_, fun l hl2 => ?_, h2, h3, h1⟩
  · have := heap_set1 (i := j) (v := v') hg2
    rw [List.setIfInBounds_toArray] at this
    exact this
  · refine ho.kept (row := some g) ⟨hb.os, hb.tape, hb.output, hb.size, fun x hx hne => hb.block x hx (by simp; intro e; exact hne (by rw [e]))⟩ ?_
    cases hv : v.ownBlock with
    | none => exact .inl rfl
    | some g' => exact .inr fun e => own_ne ho hg2 (by decide) (by rw [hv, e])
  · rcases List.mem_or_eq_of_mem_set hl2 with h' | rfl
    · exact h.mild l h'
    · exact hm
  · rcases List.mem_or_eq_of_mem_set hl2 with h' | rfl
    · exact Nat.le_trans (h.sz l h') hn
    · exact hl
end
/-- One of them is replaced by what lies in new blocks. -/
theorem OwnF.put {w w' : World} {B : Nat} {vs : List Value} {ls : List (List R)} {T : TypeId} (h : OwnF w B vs ls T) {j : Nat} (hj : j < ls.length) {v' : Value} {n : Nat} {l' : List R} (hown : w'.ownsRow B T 4 v' n (rcs l'))
    (hb : Below w.heap.size w w') (hnew : ∀ g, v'.ownBlock = some g → w.heap.size ≤ g) : OwnF w' B (vs.set j v') (ls.set j l') T := by
  have hjv : j < vs.length := by rw [h.len]; exact hj
  have old : ∀ (k : Nat) (u : Value) (g : Nat), vs[k]? = some u → u.ownBlock = some g → g < w.heap.size := fun k u g hk hg => by
    have hkl : k < ls.length := by rw [← h.len]; exact (List.getElem?_eq_some_iff.1 hk).1
    obtain ⟨u', m, h1, h2⟩ := h.own k hkl
    rw [hk] at h1; injection h1 with h1; subst h1
    exact own_lt6 h2 hg
  refine ⟨by simp [h.len], fun k hk => ?_, fun a b va vb g hab ha hb' hga hgb => ?_⟩
  · rw [List.length_set] at hk
    by_cases e : j = k
    · subst e
      exact ⟨v', n, by rw [List.getElem?_set_self hjv], by simpa using hown⟩
    · obtain ⟨u, m, h1, h2⟩ := h.own k hk
      refine ⟨u, m, by rw [List.getElem?_set_ne e]; exact h1, ?_⟩
      rw [List.getElem_set_ne e]
      refine ⟨h2.1, ?_⟩
      rcases h2.2 with h0 | ⟨g, cap, cur, k1, k2, k3, k4⟩
      · exact .inl h0
      · exact .inr ⟨g, cap, cur, k1, k2, (hb.block _ (heap_lt k3)).trans k3, k4⟩
  · by_cases ea : j = a
    · subst ea
      rw [List.getElem?_set_self hjv] at ha; injection ha with ha; subst ha
      rw [List.getElem?_set_ne hab] at hb'
      have := old b vb g hb' hgb
      have := hnew g hga
      omega
    · rw [List.getElem?_set_ne ea] at ha
      by_cases eb : j = b
      · subst eb
        rw [List.getElem?_set_self hjv] at hb'; injection hb' with hb'; subst hb'
        have := old a va g ha hga
        have := hnew g hgb
        omega
      · rw [List.getElem?_set_ne eb] at hb'
        exact h.apart a b va vb g hab ha hb' hga hgb
end Go.Proofs.YtldimfmhbdhbnaaGreat

/-
  The model's draws of chapter 6, third part: places that may be wrong, the walk.
-/
namespace Go.Proofs.YtldimfmhbdhbnaaGreat
open Go.RowKit

set_option maxRecDepth 100000 in
set_option maxHeartbeats 8000000 in
theorem l6Bent_c (w : World) (s : Nat) (zs : List Int) (a : Nat) (h : Src w s zs a) (ha : a < 900000) :
    Calls Tryz.prog 27 #[.pointer (some ⟨s, 0, none⟩)] w (DPlPost w s zs a) := by
  have hls := h.lt
  have hd0 := (Drawn.start h).alloc (.cells #[.slice none 0 0, .int .i64 0] 32)
  have GB0 := Lib.hid (heap_new w (.cells #[.slice none 0 0, .int .i64 0] 32) rfl)
  have hz0 : w.heap.size + 1 = (w.alloc (.cells #[.slice none 0 0, .int .i64 0] 32)).heap.size := by simp
  have HD0 := Lib.hid hd0
  clear hd0 h
  go_enter Tryz.func27, Tryz.ntmps27
  go_wp2_with fail
  generalize w.alloc (.cells #[.slice none 0 0, .int .i64 0] 32) = w0 at *
  refine (l6Draw_c w0 s zs (a + 0) HD0.out.src (by omega)).mono ?_
  rintro e w1 ⟨rs, q, g, B, vs, d, rfl, hg, ho, hgl, hgB, hm, hl, hq, hd, hdr⟩
  have hsz1 := hdr.but.size
  have GB1 := hdr.but.heap GB0.out (by simp; omega)
  have hgz := heap_lt hg
  have hLB : LB w s zs a (0 + d) g w1.heap.size 7 0 vs (filesOf rs) q (w1.alloc (.cells #[.slice (some ⟨g, 0, none⟩) 4 4, .int .i64 q] 32)) := by
    refine ⟨heap_old hg, (ho.lower (by omega)).kept fun v n xs h => h.alloc _, heap_new w1 _ rfl, heap_old GB1, (HD0.out.trans hdr).alloc _, filesOf_len rs, fun l hl2 r hr => ?_, fun l hl2 => ?_, by omega, hgz, hls⟩
    · obtain ⟨i, hi, rfl⟩ := List.mem_iff_getElem.1 hl2
      rw [filesOf_get] at hr
      exact (hm r (List.mem_filter.1 hr).1).2
    · obtain ⟨i, hi, rfl⟩ := List.mem_iff_getElem.1 hl2
      rw [filesOf_get]
      exact Nat.le_trans (List.length_filter_le _ _) hl
  have hft : ∀ l ∈ filesOf rs, ∀ r ∈ l, Fit r := fun l hl2 r hr => by
    obtain ⟨i, hi, rfl⟩ := List.mem_iff_getElem.1 hl2
    rw [filesOf_get] at hr
    exact (hm r (List.mem_filter.1 hr).1).1
  have HLB := Lib.hid hLB; have HFT := Lib.hid hft
  clear hg ho hm hdr hLB hft HD0 GB0 GB1 hl
  generalize filesOf rs = ls at *
  go_wp2_with fail
  have hp0 : w.heap.size < w1.heap.size := by omega
  generalize w1.alloc (.cells #[.slice (some ⟨g, 0, none⟩) 4 4, .int .i64 q] 32) = w2 at *
  generalize w1.heap.size = p at *
  refine (next_6 w2 s zs (a + (0 + d)) 12 HLB.out.drawn.src (by omega) (by omega) (by omega)).mono ?_
  rintro e w3 ⟨x, rfl, hx0, hx1, hd3⟩
  have HL3 := Lib.hid (HLB.out.draw hd3)
  clear hd3 HLB
  have hne : (p == w.heap.size) = false := by simp; omega
  have hne2 : (w.heap.size == p) = false := by simp; omega
  have hne3 : p ≠ w.heap.size := by omega
  have hne4 : w.heap.size ≠ p := by omega
  by_cases e0 : x = 0
  · subst e0
    obtain ⟨c0, c1, f0, f1, hz⟩ := two_at HL3.out.box
    obtain ⟨y0, y1, z0, z1, zz⟩ := two_at HL3.out.res
    have HL4 := Lib.hid (HL3.out.store 0 1 (.slice (some ⟨g, 1, none⟩) 3 3) q rfl)
    go_wp2_with fail
    refine bodyPost_ret (v := plv q (.slice (some ⟨g, 1, none⟩) 3 3)) (by simp [results, Tryz.results27, go_sem, c0, c1, y0, y1, hz, zz, hne, hne2, hne3, hne4]) rfl ?_
    exact HL4.out.fin (by omega) (by omega) (by omega) (by omega) _ _
  by_cases e1 : x = 1
  · subst e1
    go_wp2_with fail
    refine (pick_6 w3 s zs (a + (0 + d + 1)) w3.heap.size [-1, 1000] HL3.out.drawn.src rfl (by omega) (by simp) (by simp)).mono ?_
    rintro e w4 ⟨q', rfl, hq', hd4⟩
    have hq'' : -1 ≤ q' ∧ q' ≤ 1000 := by simp at hq'; omega
    have HL4 := Lib.hid (HL3.out.draw hd4)
    clear hq' hd4 HL3
    obtain ⟨c0, c1, f0, f1, hz⟩ := two_at HL4.out.box
    obtain ⟨y0, y1, z0, z1, zz⟩ := two_at HL4.out.res
    have HL5 := Lib.hid (HL4.out.store 1 0 (.int .i64 q') q' rfl)
    go_wp2_with fail
    refine bodyPost_ret (v := plv q' (.slice (some ⟨g, 0, none⟩) 4 4)) (by simp [results, Tryz.results27, go_sem, c0, c1, y0, y1, hz, zz, hne, hne2, hne3, hne4]) rfl ?_
    exact HL5.out.fin (by omega) (by omega) (by omega) (by omega) _ _
  by_cases e2 : x = 2
  · subst e2
    obtain ⟨i0, hi, hz, hsz, hby⟩ := infoRow
    have HLD : Hid (∀ w' : World, w'.heap[p]? = some (.cells #[.slice (some ⟨g, 0, none⟩) 4 4, .int .i64 q] 32 (0, 0)) → w'.cell? ⟨p, 0, none⟩ = some (.slice (some ⟨g, 0, none⟩) 4 4)) := fun w' h => cell_of_heap h
    have h1 : 1 < ls.length := by rw [HL3.out.l4]; omega
    obtain ⟨v1, n1, hv1, _⟩ := HL3.out.own.own 1 h1
    have HQ : Hid (∀ w' : World, w'.heap[g]? = some (.cells vs.toArray 24 (0, 0)) → w'.cell? ⟨g, 1, none⟩ = some v1) := fun w' h => by rw [cell_of_heap h, List.getElem?_toArray]; exact hv1
    go_wp2_with fail
    refine wp_region_sch (fun w' => w'.heap[p]? = some (.cells #[.slice (some ⟨g, 0, none⟩) 4 4, .int .i64 q] 32 (0, 0))) (.run 0 (.run 1 (.run 2 (.run 3 (.run 4 (.run 6 (.fork 5 7 (.one 7 (.one 8 (.one 9 (.run 10 (.one 11 .done))))) (.fork 5 8 (.one 8 (.one 9 (.run 10 (.one 11 .done)))) (.one 5 (.one 9 (.run 10 (.one 11 .done)))))))))))) (by kernel_rfl) (by kernel_rfl) (by kernel_rfl) (by kernel_rfl) (fun _ _ d _ _ h => by cases d <;> exact h) HL3.out.box ?_
    simp only [Sch.res, Option.map_some, Option.bind_some, List.getElem?_toArray, List.getElem?_cons_zero, List.getElem?_cons_succ, wpSchR_some]
    generalize hW0 : ({ heap := w3.heap, tape := w3.tape, drawn := w3.drawn + 1, os := w3.os, output := w3.output } : World) = v0
    have HW0 : Hid (LB w s zs a (0 + d + 1) g p 7 0 vs ls q v0) := by rw [← hW0]; exact HL3.out.below (Below.refl _ _).drew
    clear hW0 HL3
    refine sch_run (v := ?_) (by rfl) ?_ ?_
    rotate_left
    · (intro w' hS'; have l0 := HLD.out w' hS'; go_simp; try with_reducible rfl)
    try simp only [Act.put, List.setIfInBounds_toArray, List.set_cons_zero, List.set_cons_succ]
    refine sch_run (v := ?_) (by rfl) ?_ ?_
    rotate_left
    · (intro w' hS'; have l0 := HLD.out w' hS'; go_simp; try with_reducible rfl)
    try simp only [Act.put, List.setIfInBounds_toArray, List.set_cons_zero, List.set_cons_succ]
    refine sch_run (v := ?_) (by rfl) ?_ ?_
    rotate_left
    · (intro w' hS'; have l0 := HLD.out w' hS'; go_simp; try with_reducible rfl)
    try simp only [Act.put, List.setIfInBounds_toArray, List.set_cons_zero, List.set_cons_succ]
    refine sch_run (v := ?_) (by rfl) ?_ ?_
    rotate_left
    · (intro w' hS'; have l0 := HLD.out w' hS'; go_simp; try with_reducible rfl)
    try simp only [Act.put, List.setIfInBounds_toArray, List.set_cons_zero, List.set_cons_succ]
    refine sch_run (v := ?_) (by rfl) ?_ ?_
    rotate_left
    · (intro w' hS'; have l0 := HLD.out w' hS'; go_simp; try with_reducible rfl)
    try simp only [Act.put, List.setIfInBounds_toArray, List.set_cons_zero, List.set_cons_succ]
    refine sch_run (v := ?_) (by rfl) ?_ ?_
    rotate_left
    · (intro w' hS'; have l0 := HLD.out w' hS'; go_simp; try with_reducible rfl)
    try simp only [Act.put, List.setIfInBounds_toArray, List.set_cons_zero, List.set_cons_succ]
    refine sch_fork (by rfl) (by rfl) (fun K hK => ?_) (fun K hK => ?_)
    · skip
      have q1 := HQ.out _ HW0.out.hg
      go_simp
      refine hK _ _ HW0.out.box ?_
      try simp only [Act.put, List.setIfInBounds_toArray, List.set_cons_zero, List.set_cons_succ]
      clear q1
      refine sch_one (by rfl) (fun K hK => ?_)
      go_simp
      refine (l2BentRow_c v0 s zs _ HW0.out.drawn.src (by omega)).mono ?_
      rintro e w4 ⟨r, d4, rfl, hmr, hd4, hdr4⟩
      have HA := Lib.hid (HW0.out.draw hdr4); have HMR := Lib.hid hmr
      clear hdr4 hmr
      refine hK _ _ HA.out.box ?_
      try simp only [Act.put, List.setIfInBounds_toArray, List.set_cons_zero, List.set_cons_succ]
      refine sch_one (by rfl) (fun K hK => ?_)
      go_simp
      have HB := Lib.hid (HA.out.below (below_new (.cells #[.int .i64 r.1, .int .i64 r.2.1, .int .i64 r.2.2.1, .int .i64 r.2.2.2] 40)))
      refine hK _ _ HB.out.box ?_
      try simp only [Act.put, List.setIfInBounds_toArray, List.set_cons_zero, List.set_cons_succ]
      refine sch_one (by rfl) (fun K hK => ?_)
      obtain ⟨vx, nx, hvx, hox⟩ := HB.out.own.own 1 h1
      rw [hv1] at hvx; injection hvx with hvx; subst hvx
      have hn1 := HB.out.sz _ (List.getElem_mem h1)
      have hnx : nx ≤ 7 := by have := hox.1; rw [rcs_length] at this; omega
      have hm1 := HB.out.mild _ (List.getElem_mem h1)
      have hgz := heap_lt HB.out.hg
      refine wp_append_o (.tmp 28) (.tmp 31) 24 rfl (g + 1) 40 i0 (rv (0, 0, 0, 0)) 4 32 Tryz.underlying24 hi hz hsz hby rfl (by decide) v1 nx _ rfl hox ⟨w4.heap.size, 0, none⟩ 1 1 (rc r) rfl rfl (rc_new r) (rc_one r) (by unfold maxLen; omega) (by omega) hgz (by omega) ?_
      intro v2 w5 hown2 hgrow2 hwh
      have keep : ∀ {b : Nat} {cs : Array Value} {T' : TypeId}, 40 ≠ T' → (w4.alloc (.cells #[.int .i64 r.1, .int .i64 r.2.1, .int .i64 r.2.2.1, .int .i64 r.2.2.2] 40)).heap[b]? = some (.cells cs T' (0, 0)) → w5.heap[b]? = some (.cells cs T' (0, 0)) := fun hT hh => (hgrow2.block _ (heap_lt hh) (fun e => own_ne hox hh hT e.symm)).trans hh
      have hg5 := keep (by decide) HB.out.hg
      have hb5 := keep (by decide) HB.out.box
      have hr5 := keep (by decide) HB.out.res
      have hl0 := HB.out.gl
      have hd5 := HB.out.drawn.grown hgrow2 (fun g' hg' => by have := own_base' hox hg'; omega) hls
      have own5 := HB.out.own.step h1 hv1 (l' := ls[1] ++ [r]) (n := nx + 1) (by rw [rcs_append]; exact hown2) hgrow2 hwh
      obtain ⟨gv, cv, hv2⟩ : ∃ g cap, v2 = .slice (some ⟨g, 0, none⟩) (nx + 1) cap := by
        rcases hown2.2 with ⟨_, h⟩ | ⟨g, cap, cur, h, _⟩
        · omega
        · exact ⟨g, cap, h⟩
      subst hv2
      have hL := HB.out.put (j := 1) (n' := 8) (by omega) hg5 own5 hb5 hr5 hd5 (fun x hx => by
        rcases List.mem_append.1 hx with hx | hx
        · exact hm1 x hx
        · simp at hx; exact hx ▸ HMR.out) (by rw [List.length_append]; simp; omega)
      have HL := Lib.hid hL
      have q5 := HQ.out _ hg5
      have qf5 : w5.frozen? ⟨g, 1, none⟩ = false := frozen_of_heap hg5
      have qz5 := heap_lt hg5
      have HB5 := Lib.hid hb5
      clear hL own5 hr5 hd5 hb5 hg5 hown2 hgrow2 hwh hox hm1 keep
      refine hK _ _ HB5.out ?_
      try simp only [Act.put, List.setIfInBounds_toArray, List.set_cons_zero, List.set_cons_succ]
      refine sch_run (v := ?_) (by rfl) ?_ ?_
      rotate_left
      · (intro w' hS'; have l0 := HLD.out w' hS'; go_simp; try with_reducible rfl)
      try simp only [Act.put, List.setIfInBounds_toArray, List.set_cons_zero, List.set_cons_succ]
      refine sch_one (by rfl) (fun K hK => ?_)
      go_simp
      refine hK _ _ HL.out.box (sch_done ?_)
      obtain ⟨c0, c1, f0, f1, hz0⟩ := two_at HL.out.box
      obtain ⟨y0, y1, z0, z1, zz⟩ := two_at HL.out.res
      clear q5 qf5 qz5
      go_wp2_with fail
      refine bodyPost_ret (v := plv q (.slice (some ⟨g, 0, none⟩) 4 4)) (by simp [results, Tryz.results27, go_sem, c0, c1, y0, y1, hz0, zz, hne, hne2, hne3, hne4]) rfl ?_
      exact HL.out.fin (by omega) (by omega) (by omega) (by omega) _ _
    · skip
      go_simp
      refine (l2BentRow_c v0 s zs _ HW0.out.drawn.src (by omega)).mono ?_
      rintro e w4 ⟨r, d4, rfl, hmr, hd4, hdr4⟩
      have HA := Lib.hid (HW0.out.draw hdr4); have HMR := Lib.hid hmr
      clear hdr4 hmr
      refine hK _ _ HA.out.box ?_
      try simp only [Act.put, List.setIfInBounds_toArray, List.set_cons_zero, List.set_cons_succ]
      refine sch_fork (by rfl) (by rfl) (fun K hK => ?_) (fun K hK => ?_)
      · skip
        have q1 := HQ.out _ HA.out.hg
        go_simp
        refine hK _ _ HA.out.box ?_
        try simp only [Act.put, List.setIfInBounds_toArray, List.set_cons_zero, List.set_cons_succ]
        clear q1
        refine sch_one (by rfl) (fun K hK => ?_)
        go_simp
        have HB := Lib.hid (HA.out.below (below_new (.cells #[.int .i64 r.1, .int .i64 r.2.1, .int .i64 r.2.2.1, .int .i64 r.2.2.2] 40)))
        refine hK _ _ HB.out.box ?_
        try simp only [Act.put, List.setIfInBounds_toArray, List.set_cons_zero, List.set_cons_succ]
        refine sch_one (by rfl) (fun K hK => ?_)
        obtain ⟨vx, nx, hvx, hox⟩ := HB.out.own.own 1 h1
        rw [hv1] at hvx; injection hvx with hvx; subst hvx
        have hn1 := HB.out.sz _ (List.getElem_mem h1)
        have hnx : nx ≤ 7 := by have := hox.1; rw [rcs_length] at this; omega
        have hm1 := HB.out.mild _ (List.getElem_mem h1)
        have hgz := heap_lt HB.out.hg
        refine wp_append_o (.tmp 28) (.tmp 31) 24 rfl (g + 1) 40 i0 (rv (0, 0, 0, 0)) 4 32 Tryz.underlying24 hi hz hsz hby rfl (by decide) v1 nx _ rfl hox ⟨w4.heap.size, 0, none⟩ 1 1 (rc r) rfl rfl (rc_new r) (rc_one r) (by unfold maxLen; omega) (by omega) hgz (by omega) ?_
        intro v2 w5 hown2 hgrow2 hwh
        have keep : ∀ {b : Nat} {cs : Array Value} {T' : TypeId}, 40 ≠ T' → (w4.alloc (.cells #[.int .i64 r.1, .int .i64 r.2.1, .int .i64 r.2.2.1, .int .i64 r.2.2.2] 40)).heap[b]? = some (.cells cs T' (0, 0)) → w5.heap[b]? = some (.cells cs T' (0, 0)) := fun hT hh => (hgrow2.block _ (heap_lt hh) (fun e => own_ne hox hh hT e.symm)).trans hh
        have hg5 := keep (by decide) HB.out.hg
        have hb5 := keep (by decide) HB.out.box
        have hr5 := keep (by decide) HB.out.res
        have hl0 := HB.out.gl
        have hd5 := HB.out.drawn.grown hgrow2 (fun g' hg' => by have := own_base' hox hg'; omega) hls
        have own5 := HB.out.own.step h1 hv1 (l' := ls[1] ++ [r]) (n := nx + 1) (by rw [rcs_append]; exact hown2) hgrow2 hwh
        obtain ⟨gv, cv, hv2⟩ : ∃ g cap, v2 = .slice (some ⟨g, 0, none⟩) (nx + 1) cap := by
          rcases hown2.2 with ⟨_, h⟩ | ⟨g, cap, cur, h, _⟩
          · omega
          · exact ⟨g, cap, h⟩
        subst hv2
        have hL := HB.out.put (j := 1) (n' := 8) (by omega) hg5 own5 hb5 hr5 hd5 (fun x hx => by
          rcases List.mem_append.1 hx with hx | hx
          · exact hm1 x hx
          · simp at hx; exact hx ▸ HMR.out) (by rw [List.length_append]; simp; omega)
        have HL := Lib.hid hL
        have q5 := HQ.out _ hg5
        have qf5 : w5.frozen? ⟨g, 1, none⟩ = false := frozen_of_heap hg5
        have qz5 := heap_lt hg5
        have HB5 := Lib.hid hb5
        clear hL own5 hr5 hd5 hb5 hg5 hown2 hgrow2 hwh hox hm1 keep
        refine hK _ _ HB5.out ?_
        try simp only [Act.put, List.setIfInBounds_toArray, List.set_cons_zero, List.set_cons_succ]
        refine sch_run (v := ?_) (by rfl) ?_ ?_
        rotate_left
        · (intro w' hS'; have l0 := HLD.out w' hS'; go_simp; try with_reducible rfl)
        try simp only [Act.put, List.setIfInBounds_toArray, List.set_cons_zero, List.set_cons_succ]
        refine sch_one (by rfl) (fun K hK => ?_)
        go_simp
        refine hK _ _ HL.out.box (sch_done ?_)
        obtain ⟨c0, c1, f0, f1, hz0⟩ := two_at HL.out.box
        obtain ⟨y0, y1, z0, z1, zz⟩ := two_at HL.out.res
        clear q5 qf5 qz5
        go_wp2_with fail
        refine bodyPost_ret (v := plv q (.slice (some ⟨g, 0, none⟩) 4 4)) (by simp [results, Tryz.results27, go_sem, c0, c1, y0, y1, hz0, zz, hne, hne2, hne3, hne4]) rfl ?_
        exact HL.out.fin (by omega) (by omega) (by omega) (by omega) _ _
      · skip
        go_simp
        have HB := Lib.hid (HA.out.below (below_new (.cells #[.int .i64 r.1, .int .i64 r.2.1, .int .i64 r.2.2.1, .int .i64 r.2.2.2] 40)))
        refine hK _ _ HB.out.box ?_
        try simp only [Act.put, List.setIfInBounds_toArray, List.set_cons_zero, List.set_cons_succ]
        refine sch_one (by rfl) (fun K hK => ?_)
        have q1 := HQ.out _ HB.out.hg
        go_simp
        refine hK _ _ HB.out.box ?_
        try simp only [Act.put, List.setIfInBounds_toArray, List.set_cons_zero, List.set_cons_succ]
        clear q1
        refine sch_one (by rfl) (fun K hK => ?_)
        obtain ⟨vx, nx, hvx, hox⟩ := HB.out.own.own 1 h1
        rw [hv1] at hvx; injection hvx with hvx; subst hvx
        have hn1 := HB.out.sz _ (List.getElem_mem h1)
        have hnx : nx ≤ 7 := by have := hox.1; rw [rcs_length] at this; omega
        have hm1 := HB.out.mild _ (List.getElem_mem h1)
        have hgz := heap_lt HB.out.hg
        refine wp_append_o (.tmp 28) (.tmp 31) 24 rfl (g + 1) 40 i0 (rv (0, 0, 0, 0)) 4 32 Tryz.underlying24 hi hz hsz hby rfl (by decide) v1 nx _ rfl hox ⟨w4.heap.size, 0, none⟩ 1 1 (rc r) rfl rfl (rc_new r) (rc_one r) (by unfold maxLen; omega) (by omega) hgz (by omega) ?_
        intro v2 w5 hown2 hgrow2 hwh
        have keep : ∀ {b : Nat} {cs : Array Value} {T' : TypeId}, 40 ≠ T' → (w4.alloc (.cells #[.int .i64 r.1, .int .i64 r.2.1, .int .i64 r.2.2.1, .int .i64 r.2.2.2] 40)).heap[b]? = some (.cells cs T' (0, 0)) → w5.heap[b]? = some (.cells cs T' (0, 0)) := fun hT hh => (hgrow2.block _ (heap_lt hh) (fun e => own_ne hox hh hT e.symm)).trans hh
        have hg5 := keep (by decide) HB.out.hg
        have hb5 := keep (by decide) HB.out.box
        have hr5 := keep (by decide) HB.out.res
        have hl0 := HB.out.gl
        have hd5 := HB.out.drawn.grown hgrow2 (fun g' hg' => by have := own_base' hox hg'; omega) hls
        have own5 := HB.out.own.step h1 hv1 (l' := ls[1] ++ [r]) (n := nx + 1) (by rw [rcs_append]; exact hown2) hgrow2 hwh
        obtain ⟨gv, cv, hv2⟩ : ∃ g cap, v2 = .slice (some ⟨g, 0, none⟩) (nx + 1) cap := by
          rcases hown2.2 with ⟨_, h⟩ | ⟨g, cap, cur, h, _⟩
          · omega
          · exact ⟨g, cap, h⟩
        subst hv2
        have hL := HB.out.put (j := 1) (n' := 8) (by omega) hg5 own5 hb5 hr5 hd5 (fun x hx => by
          rcases List.mem_append.1 hx with hx | hx
          · exact hm1 x hx
          · simp at hx; exact hx ▸ HMR.out) (by rw [List.length_append]; simp; omega)
        have HL := Lib.hid hL
        have q5 := HQ.out _ hg5
        have qf5 : w5.frozen? ⟨g, 1, none⟩ = false := frozen_of_heap hg5
        have qz5 := heap_lt hg5
        have HB5 := Lib.hid hb5
        clear hL own5 hr5 hd5 hb5 hg5 hown2 hgrow2 hwh hox hm1 keep
        refine hK _ _ HB5.out ?_
        try simp only [Act.put, List.setIfInBounds_toArray, List.set_cons_zero, List.set_cons_succ]
        refine sch_run (v := ?_) (by rfl) ?_ ?_
        rotate_left
        · (intro w' hS'; have l0 := HLD.out w' hS'; go_simp; try with_reducible rfl)
        try simp only [Act.put, List.setIfInBounds_toArray, List.set_cons_zero, List.set_cons_succ]
        refine sch_one (by rfl) (fun K hK => ?_)
        go_simp
        refine hK _ _ HL.out.box (sch_done ?_)
        obtain ⟨c0, c1, f0, f1, hz0⟩ := two_at HL.out.box
        obtain ⟨y0, y1, z0, z1, zz⟩ := two_at HL.out.res
        clear q5 qf5 qz5
        go_wp2_with fail
        refine bodyPost_ret (v := plv q (.slice (some ⟨g, 0, none⟩) 4 4)) (by simp [results, Tryz.results27, go_sem, c0, c1, y0, y1, hz0, zz, hne, hne2, hne3, hne4]) rfl ?_
        exact HL.out.fin (by omega) (by omega) (by omega) (by omega) _ _
  by_cases e3 : x = 3
  · subst e3
    have HLD : Hid (∀ w' : World, w'.heap[p]? = some (.cells #[.slice (some ⟨g, 0, none⟩) 4 4, .int .i64 q] 32 (0, 0)) → w'.cell? ⟨p, 0, none⟩ = some (.slice (some ⟨g, 0, none⟩) 4 4)) := fun w' h => cell_of_heap h
    go_wp2_with fail
    go_loopw [4] (fun i wr => ∃ (j : Nat) (vs' : List Value) (ls' : List (List R)), j ≤ 12 ∧ i = .int .i64 ((j : Int) + 1) ∧ Hid (LB w s zs a (0 + d + 1) g p (7 + j) 0 vs' ls' q wr) ∧ Hid (∀ l ∈ ls', ∀ r ∈ l, Fit r)) (fun i _ => 20 - (intOf i).toNat)
    case atStart => exact ⟨0, vs, ls, by omega, rfl, HL3, HFT⟩
    case round =>
      clear HL3 HFT
      obtain ⟨j, vs', ls', hj, rfl, HW, HF⟩ := hrel
      by_cases hj2 : j < 12
      · have h3 : 3 < ls'.length := by rw [HW.out.l4]; omega
        go_wp2_with fail
        refine wp_region_stps (fun w' => w'.heap[p]? = some (.cells #[.slice (some ⟨g, 0, none⟩) 4 4, .int .i64 q] 32 (0, 0))) [.run 0, .run 1, .run 2, .run 3, .run 4, .run 6, .run 7, .one 5, .one 8, .run 9, .one 10] (by kernel_rfl) (by kernel_rfl) (by kernel_rfl) (by kernel_rfl) (fun _ _ d _ _ h => by cases d <;> exact h) HW.out.box ?_
        simp only [stpsOf, stpOf, List.filterMap_cons, List.filterMap_nil, Option.map_some, Option.bind_some, List.getElem?_toArray, List.getElem?_cons_zero, List.getElem?_cons_succ]
        generalize hW0 : ({ heap := wr.heap, tape := wr.tape, drawn := wr.drawn + 1, os := wr.os, output := wr.output } : World) = v0
        have HW0 : Hid (LB w s zs a (0 + d + 1) g p (7 + j) 0 vs' ls' q v0) := by rw [← hW0]; exact HW.out.below (Below.refl _ _).drew
        clear hW0 HW
        refine stp_run (v := ?_) (by rfl) ?_ ?_
        rotate_left
        · (intro w' hS'; have l0 := HLD.out w' hS'; go_simp; try with_reducible rfl)
        try simp only [Act.put, List.setIfInBounds_toArray, List.set_cons_zero, List.set_cons_succ]
        refine stp_run (v := ?_) (by rfl) ?_ ?_
        rotate_left
        · (intro w' hS'; have l0 := HLD.out w' hS'; go_simp; try with_reducible rfl)
        try simp only [Act.put, List.setIfInBounds_toArray, List.set_cons_zero, List.set_cons_succ]
        refine stp_run (v := ?_) (by rfl) ?_ ?_
        rotate_left
        · (intro w' hS'; have l0 := HLD.out w' hS'; go_simp; try with_reducible rfl)
        try simp only [Act.put, List.setIfInBounds_toArray, List.set_cons_zero, List.set_cons_succ]
        refine stp_run (v := ?_) (by rfl) ?_ ?_
        rotate_left
        · (intro w' hS'; have l0 := HLD.out w' hS'; go_simp; try with_reducible rfl)
        try simp only [Act.put, List.setIfInBounds_toArray, List.set_cons_zero, List.set_cons_succ]
        refine stp_run (v := ?_) (by rfl) ?_ ?_
        rotate_left
        · (intro w' hS'; have l0 := HLD.out w' hS'; go_simp; try with_reducible rfl)
        try simp only [Act.put, List.setIfInBounds_toArray, List.set_cons_zero, List.set_cons_succ]
        refine stp_run (v := ?_) (by rfl) ?_ ?_
        rotate_left
        · (intro w' hS'; have l0 := HLD.out w' hS'; go_simp; try with_reducible rfl)
        try simp only [Act.put, List.setIfInBounds_toArray, List.set_cons_zero, List.set_cons_succ]
        refine stp_run (v := ?_) (by rfl) ?_ ?_
        rotate_left
        · (intro w' hS'; have l0 := HLD.out w' hS'; go_simp; try with_reducible rfl)
        try simp only [Act.put, List.setIfInBounds_toArray, List.set_cons_zero, List.set_cons_succ]
        obtain ⟨v3, n3, hv3, hown3⟩ := HW0.out.own.own 3 h3
        obtain ⟨f3, hr3, _, _⟩ := Rd.of_own hown3
        obtain ⟨A3, c3, rfl⟩ := hr3.rows_form
        have q3 : v0.cell? ⟨g, 3, none⟩ = some (.slice A3 ls'[3].length c3) := by rw [cell_of_heap HW0.out.hg, List.getElem?_toArray]; exact hv3
        have hn3 := HW0.out.sz _ (List.getElem_mem h3)
        have hm3 := HW0.out.mild _ (List.getElem_mem h3)
        have hf3 := HF.out _ (List.getElem_mem h3)
        have HR3 := Lib.hid hr3; have HM3 := Lib.hid hm3; have HF3 := Lib.hid hf3
        clear hr3 hm3 hf3 hown3 hv3
        refine stp_one (by rfl) (fun K hK => ?_)
        go_simp
        refine hK _ _ HW0.out.box ?_
        try simp only [Act.put, List.setIfInBounds_toArray, List.set_cons_zero, List.set_cons_succ]
        clear q3
        refine stp_one (by rfl) (fun K2 hK2 => ?_)
        go_simp
        refine (l2Set_c A3 c3 ls'[3] (3, (j : Int) + 1, 1, 0) v0 f3 (by omega) (fits_iff.2 fun x hx => HF3.out x hx) (by unfold Fit; simp only; omega) HR3.out).mono ?_
        rintro e x1 ⟨v', f', rfl, hr', _, _, hb', n', B', hB', ho'⟩
        obtain ⟨A', c', rfl⟩ := hr'.rows_form
        have hlen := setR_length ls'[3] (3, (j : Int) + 1, 1, 0)
        have hmem : ∀ r ∈ setR ls'[3] (3, (j : Int) + 1, 1, 0), Fit r ∧ Mild r := fun r hr => by
          rcases setR_mem hr with rfl | hr
          · unfold Fit Mild; simp only; omega
          · exact ⟨HF3.out r hr, HM3.out r hr⟩
        generalize setR ls'[3] (3, (j : Int) + 1, 1, 0) = l' at *
        have hX := HW0.out.below hb'
        have hgz := heap_lt HW0.out.hg
        have own2 := HW0.out.own.put h3 (own_lower6 ho' (by omega)) hb' (fun g' hg' => by have := own_base' ho' hg'; omega)
        have hL := HW0.out.put (j := 3) (n' := 7 + (j + 1)) (by omega) hX.hg own2 hX.box hX.res hX.drawn (fun r hr => (hmem r hr).2) (by omega)
        have hF' : ∀ l ∈ ls'.set 3 l', ∀ r ∈ l, Fit r := fun l hl2 => by
          rcases List.mem_or_eq_of_mem_set hl2 with h' | rfl
          · exact HF.out l h'
          · exact fun r hr => (hmem r hr).1
        have q4 : ∃ u, x1.cell? ⟨g, 3, none⟩ = some u := by
          rw [cell_of_heap hX.hg, List.getElem?_toArray, List.getElem?_eq_getElem (by rw [HW0.out.own.len]; exact h3)]
          exact ⟨_, rfl⟩
        obtain ⟨u4, q4⟩ := q4
        have qf4 : x1.frozen? ⟨g, 3, none⟩ = false := frozen_of_heap hX.hg
        have qz4 := heap_lt hX.hg
        have HX := Lib.hid hX; have HL := Lib.hid hL; have HFF := Lib.hid hF'
        clear hX hL hF' own2 hb' ho' hr' hlen hmem hn3 hB'
        refine hK2 _ _ HX.out.box ?_
        try simp only [Act.put, List.setIfInBounds_toArray, List.set_cons_zero, List.set_cons_succ]
        refine stp_run (v := ?_) (by rfl) ?_ ?_
        rotate_left
        · (intro w' hS'; have l0 := HLD.out w' hS'; go_simp; try with_reducible rfl)
        try simp only [Act.put, List.setIfInBounds_toArray, List.set_cons_zero, List.set_cons_succ]
        refine stp_one (by rfl) (fun K3 hK3 => ?_)
        go_simp
        refine hK3 _ _ HL.out.box ?_
        refine stp_done ?_
        clear q4 qf4 qz4
        go_wp2_with fail
        exact ⟨⟨j + 1, _, _, by omega, by go_num, HL, HFF⟩, by simp [intOf]; omega⟩
      · obtain ⟨c0, c1, f0, f1, hz⟩ := two_at HW.out.box
        obtain ⟨y0, y1, z0, z1, zz⟩ := two_at HW.out.res
        go_wp2_with fail
        refine bodyPost_ret (v := plv q (.slice (some ⟨g, 0, none⟩) 4 4)) (by simp [results, Tryz.results27, go_sem, c0, c1, y0, y1, hz, zz, hne, hne2, hne3, hne4]) rfl ?_
        exact HW.out.fin (by omega) (by omega) (by omega) (by omega) _ _
  have b0 : (x == 0) = false := by simp [e0]
  have b1 : (x == 1) = false := by simp [e1]
  have b2 : (x == 2) = false := by simp [e2]
  have b3 : (x == 3) = false := by simp [e3]
  clear e0 e1 e2 e3
  obtain ⟨c0, c1, f0, f1, hz⟩ := two_at HL3.out.box
  obtain ⟨y0, y1, z0, z1, zz⟩ := two_at HL3.out.res
  go_wp2_with fail
  refine bodyPost_ret (v := plv q (.slice (some ⟨g, 0, none⟩) 4 4)) (by simp [results, Tryz.results27, go_sem, c0, c1, y0, y1, hz, zz, hne, hne2, hne3, hne4]) rfl ?_
  exact HL3.out.fin (by omega) (by omega) (by omega) (by omega) _ _
end Go.Proofs.YtldimfmhbdhbnaaGreat

/-
  The model's draw of chapter 6 for the scans.
-/
namespace Go.Proofs.YtldimfmhbdhbnaaGreat
open Go.RowKit

/-- Places and two numbers were drawn. -/
def PlIntsPost (w : World) (e : Ending) (w' : World) : Prop :=
  ∃ (p : Pl) (vf : Value) (fp : List Nat) (f m : Int), e = .returned (.tuple #[plv p.mark vf, .int .i64 f, .int .i64 m]) ∧ PlAt w' p vf fp ∧ NF w' fp ∧ From w.heap.size fp ∧ (∀ l ∈ p.fs, ∀ r ∈ l, Mild r) ∧ (-20000 ≤ p.mark ∧ p.mark ≤ 20000) ∧ plsz p ≤ 1000 ∧ (-20000 ≤ f ∧ f ≤ 20000) ∧ (-20000 ≤ m ∧ m ≤ 20000) ∧ Below w.heap.size w w'

end Go.Proofs.YtldimfmhbdhbnaaGreat
