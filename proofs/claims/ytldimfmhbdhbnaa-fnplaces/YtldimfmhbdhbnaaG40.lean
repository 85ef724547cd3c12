/-
  Contracts of the laws' helpers over slices of slices of rows, and over places: measuring, copying, comparing, marking.
-/
import Derived.Test.YtldimfmhbdhbnaaModel6
import Derived.Test.YtldimfmhbdhbnaaG1
namespace Go.Proofs.Ytldimfmhbdhbnaa
open Go.RowKit

/-- Marked rows: the numbers from q on, four a row. -/
def markR (rs : List R) (q : Int) : List R := (List.range rs.length).map fun (i : Nat) => (q + ((i * 4 : Nat) : Int), q + ((i * 4 + 1 : Nat) : Int), q + ((i * 4 + 2 : Nat) : Int), q + ((i * 4 + 3 : Nat) : Int))
theorem markR_length (rs : List R) (q : Int) : (markR rs q).length = rs.length := by simp [markR]
theorem rcs_markR (rs : List R) (q : Int) : rcs (markR rs q) = cellsOf .i64 (marks (fun x => x) q (rs.length * 4)) := by
  apply List.ext_getElem?
  intro i
  by_cases h : i < rs.length * 4
  · have hd : i / 4 * 4 + i % 4 = i := Nat.div_add_mod' i 4
    have hlt : i / 4 < (markR rs q).length := by rw [markR_length]; omega
    have hm : i % 4 < 4 := Nat.mod_lt _ (by omega)
    have := rcs_get (markR rs q) (i / 4) (i % 4) hlt hm
    rw [hd] at this
    rw [this]
    have e : (markR rs q)[i / 4] = (q + ((i / 4 * 4 : Nat) : Int), q + ((i / 4 * 4 + 1 : Nat) : Int), q + ((i / 4 * 4 + 2 : Nat) : Int), q + ((i / 4 * 4 + 3 : Nat) : Int)) := by simp [markR]
    rw [e]
    have h2 : (cellsOf .i64 (marks (fun x => x) q (rs.length * 4)))[i]? = some (.int .i64 (q + (i : Int))) := by simp [marks, h]
    rw [h2]
    have : i % 4 = 0 ∨ i % 4 = 1 ∨ i % 4 = 2 ∨ i % 4 = 3 := by omega
    rcases this with e | e | e | e <;> simp only [rc, e, List.getElem?_cons_zero, List.getElem?_cons_succ, Option.some.injEq, Value.int.injEq, true_and] <;> omega
  · rw [List.getElem?_eq_none (by rw [rcs_length, markR_length]; omega), List.getElem?_eq_none (by simp [marks]; omega)]
abbrev cntR (rs : List R) : Nat := rs.length * 4
abbrev markFs (l : List (List R)) (q : Int) : List (List R) := markL markR cntR l q
abbrev cntFs (l : List (List R)) : Nat := cntL cntR l
theorem cntFs_eq (l : List (List R)) : cntFs l = totS l * 4 := by
  unfold cntFs totS
  induction l with
  | nil => rfl
  | cons a t ih => rw [cntL_cons, cntL_cons, ih, Nat.add_mul]

set_option maxRecDepth 100000 in
set_option maxHeartbeats 2000000 in
theorem szRowSS_c (A : Option Addr) (c : Nat) (l : List (List R)) (q : Int) (w : World) (fp : List Nat) (ha : RdF w (.slice A l.length c) l fp) (hq : 0 ≤ q) (hq2 : q ≤ 1048576) :
    Calls Try.prog 80 #[.slice A l.length c, .int .i64 q] w fun e w' => e = .returned (.int .i64 (if q < fsz l then -1 else q - fsz l)) ∧ w = w' := by
  have hmax := ha.len_le.2
  generalize hZ : (if q < fsz l then (-1 : Int) else q - fsz l) = Z
  have HZ := Lib.hid hZ
  clear hZ
  by_cases h0 : q < (l.length : Int)
  · have e : Z = -1 := by rw [← HZ.out, if_pos (by unfold fsz; omega)]
    have HE := Lib.hid e; clear e
    have t1 : q - (l.length : Int) < 0 := by omega
    go_enter Try.func80, Try.ntmps80
    go_wp2
    go_ret
    exact ⟨congrArg (fun z => Ending.returned (Value.int .i64 z)) HE.out.symm, rfl⟩
  · have t1 : ¬ (q - (l.length : Int) < 0) := by omega
    go_enter Try.func80, Try.ntmps80
    go_wp2
    go_loop [1, 5] (fun s i => ∃ k : Nat, k ≤ l.length ∧ i = .int .i64 k ∧ ∃ r : Int, s = .int .i64 r ∧ Hid (r = q - (l.length : Int) - (totS (l.take k) : Int)) ∧ 0 ≤ r ∧ r ≤ 1048576) (fun _ i => l.length - (intOf i).toNat)
    case atStart => exact ⟨0, Nat.zero_le _, rfl, _, rfl, Lib.hid (by simp [totS, cntL]), by omega, by omega⟩
    case round =>
      obtain ⟨k, hk, rfl, r, rfl, hr, hr0, hr1⟩ := hrel
      by_cases hlt : k < l.length
      · obtain ⟨b, off, B, d, f, rfl, hb, hbl, hc, hrd, hf⟩ := rowsAt ha hlt
        have hn := hrd.len_le
        have ht := totS_take l k hlt
        have hle := totS_le l (k + 1)
        have HT := Lib.hid ht; have HLE := Lib.hid hle
        clear ht hle
        generalize l[k].length = n at *
        clear ha hrd
        go_wp2_with fail
        refine (szRowS_c B n d r _ hn hr0 hr1).mono ?_
        by_cases h1 : r < (n : Int)
        · rw [if_pos h1]
          rintro e w1 ⟨rfl, rfl⟩
          have e : Z = -1 := by rw [← HZ.out, if_pos (by unfold fsz; have := HT.out; have := HLE.out; have := hr.out; omega)]
          have HE := Lib.hid e; clear e
          go_wp2
          go_ret
          exact ⟨congrArg (fun z => Ending.returned (Value.int .i64 z)) HE.out.symm, rfl⟩
        · rw [if_neg h1]
          rintro e w1 ⟨rfl, rfl⟩
          have t2 : ¬ (r - (n : Int) < 0) := by omega
          go_wp2
          exact ⟨⟨k + 1, by omega, by go_num, _, rfl, Lib.hid (by have := HT.out; have := hr.out; omega), by omega, by omega⟩, by simp [intOf]; omega⟩
      · obtain rfl : k = l.length := by omega
        have e : Z = r := by
          have h1 := hr.out; rw [List.take_length] at h1
          rw [← HZ.out, if_neg (by unfold fsz; omega)]; unfold fsz; omega
        have HE := Lib.hid e; clear e
        go_wp2
        go_ret
        exact ⟨congrArg (fun z => Ending.returned (Value.int .i64 z)) HE.out.symm, rfl⟩

set_option maxRecDepth 1000000 in
theorem infoRowS : ∃ i, Try.prog.info? 24 = some i ∧ i.zero = some (.slice none 0 0) ∧ i.size = 1 ∧ i.bytes = 24 := ⟨_, rfl, rfl, rfl, rfl⟩
theorem makeRowSS (n : Nat) (hn : n ≤ 1099511627776) (W : World) : (Instr.makeSlice 27 (.int .i64 (n : Int)) (.int .i64 (n : Int))).run Try.prog W = .ok (.slice (some ⟨W.heap.size, 0, none⟩) n n) (W.alloc (.cells (madeCells #[.slice none 0 0] n) 24)) := by
  obtain ⟨i, hi, hz, hsz, hby⟩ := infoRowS
  have hr := run_make (P := Try.prog) W 27 24 i (.slice none 0 0) Try.underlying27 hi hz .i64 .i64 n n (by omega) (by omega) (by rw [hby]; omega) (by omega)
  simp only [Int.toNat_natCast, hsz, Nat.mul_one] at hr
  exact hr
theorem madeNils (n : Nat) : madeCells #[.slice none 0 0] n = (List.replicate n [Value.slice none 0 0]).flatten.toArray := by
  have h := made_zeros (K := 1) (.slice none 0 0) #[.slice none 0 0] rfl Nat.one_pos n
  rw [Nat.mul_one] at h
  rw [h]
  congr 1
  clear h
  induction n with
  | zero => rfl
  | succ n ih => rw [List.replicate_succ, List.replicate_succ, List.flatten_cons, ih]; rfl


set_option maxRecDepth 100000 in
set_option maxHeartbeats 2000000 in
theorem toRowSS_c (A : Option Addr) (c : Nat) (l : List (List R)) (w : World) (fp : List Nat) (hs : fsz l ≤ 1048576) (ha : RdF w (.slice A l.length c) l fp) :
    Calls Try.prog 85 #[.slice A l.length c] w (CopySl rowsK w l) := by
  have hn : l.length ≤ 1048576 := by unfold fsz at hs; omega
  have HS : Hid (∀ k (h : k < l.length), l[k].length ≤ 1048576) := fun k h => by have := len_of_tot l k h; unfold fsz at hs; omega
  have hmk : ∀ W : World, (Instr.makeSlice 27 (.int .i64 (l.length : Int)) (.int .i64 (l.length : Int))).run Try.prog W = .ok (.slice (some ⟨W.heap.size, 0, none⟩) l.length l.length) (W.alloc (.cells (madeCells #[.slice none 0 0] l.length) 24)) := fun W => makeRowSS _ (by omega) W
  have HA := Lib.hid ha; have HLT := Lib.hid ha.lt
  clear hs ha
  go_enter Try.func85, Try.ntmps85
  go_wp2
  clear hmk
  go_loopw [4] (fun i wr => ∃ k : Nat, k ≤ l.length ∧ i = .int .i64 k ∧ Hid (Fill rowsK [.slice none 0 0] w 24 l k wr)) (fun i _ => l.length - (intOf i).toNat)
  case atStart => exact ⟨0, Nat.zero_le _, rfl, Lib.hid (Fill.zero (kd := rowsK) (l := l) (madeNils l.length))⟩
  case round =>
    obtain ⟨k, hk, rfl, hfl⟩ := hrel
    by_cases hlt : k < l.length
    · obtain ⟨b, off, B, d, f, rfl, hb, hbl, hc, hrd, hf⟩ := rowsAt (HA.out.below' hfl.out.below) hlt
      have hsk := HS.out k hlt
      clear hf hb hbl
      go_wp2_with fail
      refine (toRowS_c B d l[k] _ f hsk hrd).mono ?_
      rintro e w1 ⟨B1, d1, f1, rfl, hr1, hn1, hf1, hb1⟩
      obtain ⟨hz1, hfz, hcl⟩ := hfl.out.cells (by rfl) hlt hb1
      have c0 := hcl 0 _ rfl
      simp only [rowsK, Nat.mul_one, Nat.add_zero] at c0
      have f0 := hfz k
      have hst : ∀ w2, But [w.heap.size] w1 w2 → (∀ cs, w1.heap[w.heap.size]? = some (.cells cs 24 (0, 0)) → w2.heap[w.heap.size]? = some (.cells (setAll cs (k * rowsK.K) [.slice B1 l[k].length d1]) 24 (0, 0))) → Fill rowsK [.slice none 0 0] w 24 l (k + 1) w2 :=
        fun w2 hbut hset => hfl.out.step rfl hlt hb1 ⟨_, rfl, hr1⟩ hn1 hf1 hr1.nodup hbut hset
      have HST := Lib.hid hst; clear hst
      clear hr1 hn1 hf1 hb1 hfl hfz hcl hc hrd
      go_wp2_with fail
      refine ⟨⟨k + 1, by omega, by go_num, HST.out _ ((But.refl _ _).setCell (by simp) _) (fun cs hcs => ?_)⟩, by simp [intOf]; omega⟩
      simp only [rowsK, Nat.mul_one, setAll]
      exact heap_set1 hcs
    · obtain rfl : k = l.length := by omega
      go_wp2
      go_ret
      exact hfl.out.done (by unfold maxLen; omega)

set_option maxRecDepth 100000 in
set_option maxHeartbeats 2000000 in
theorem eqRowSS_c (A B : Option Addr) (c d : Nat) (l : List (List R)) (w : World) (fp fq : List Nat)
    (ha : RdF w (.slice A l.length c) l fp) (hb : RdF w (.slice B l.length d) l fq) :
    Calls Try.prog 89 #[.slice A l.length c, .slice B l.length d] w fun e w' => e = .returned (.bool true) ∧ Below w.heap.size w w' := by
  have hmax := ha.len_le.2
  have HA := Lib.hid ha; have HB := Lib.hid hb; clear ha hb
  go_enter Try.func89, Try.ntmps89
  go_wp2
  go_loopw [5] (fun i wr => ∃ k : Nat, k ≤ l.length ∧ i = .int .i64 k ∧ Hid (Below w.heap.size w wr)) (fun i _ => l.length - (intOf i).toNat)
  case atStart => exact ⟨0, Nat.zero_le _, rfl, Below.refl _ _⟩
  case round =>
    obtain ⟨k, hk, rfl, hbel⟩ := hrel
    by_cases hlt : k < l.length
    · obtain ⟨b1, o1, B1, d1, f1, rfl, _, hl1, p0, r1, _⟩ := rowsAt (HA.out.below' hbel.out) hlt
      obtain ⟨b2, o2, B2, d2, f2, rfl, _, hl2, q0, r2, _⟩ := rowsAt (HB.out.below' hbel.out) hlt
      have HR := Lib.hid (And.intro r1 r2); clear r1 r2
      generalize l[k] = rs at *
      have hi0 : (0 : Int) ≤ (k : Int) := by omega
      have hi1 : (k : Int) < (l.length : Int) := by omega
      go_wp2_with fail
      go_region_held3 (fun w' => w'.cell? ⟨b1, o1 + k, none⟩ = some (.slice B1 rs.length d1) ∧ w'.cell? ⟨b2, o2 + k, none⟩ = some (.slice B2 rs.length d2))
        (first
          | go_keep
          | exact ⟨(hb1.cell (p := ⟨b1, _, none⟩) hl1).trans p0, (hb1.cell (p := ⟨b2, _, none⟩) hl2).trans q0⟩)
        ((go_at_call 31; refine (eqRowS_c B1 B2 d1 d2 rs _ f1 f2 HR.out.1.drew HR.out.2.drew).mono ?_; rintro e w1 ⟨rfl, hb1⟩))
      have hb2 : Below w.heap.size w w1 := hbel.out.drew.trans (hb1.mono hbel.out.size)
      have HB2 := Lib.hid hb2; clear hb2 hb1
      go_wp2_with fail
      exact ⟨⟨k + 1, by omega, by go_num, HB2.out⟩, by simp [intOf]; omega⟩
    · go_wp2
      go_ret
      exact ⟨rfl, hbel.out⟩


end Go.Proofs.Ytldimfmhbdhbnaa

/-
  Contracts of the laws' helpers over places and results that hold places.
-/
namespace Go.Proofs.Ytldimfmhbdhbnaa
open Go.RowKit

/-- A slice that reads as the files of places. -/
structure PlAt (w : World) (p : Pl) (vf : Value) (fp : List Nat) : Prop where
  f : RdF w vf p.fs fp
theorem PlAt.below' {w w' : World} {p : Pl} {vf : Value} {fp : List Nat} (h : PlAt w p vf fp) (hb : Below w.heap.size w w') : PlAt w' p vf fp := ⟨h.f.below' hb⟩
theorem PlAt.alloc {w : World} {p : Pl} {vf : Value} {fp : List Nat} (h : PlAt w p vf fp) (o : Obj) : PlAt (w.alloc o) p vf fp := ⟨h.f.alloc o⟩
theorem PlAt.drew {w : World} {p : Pl} {vf : Value} {fp : List Nat} (h : PlAt w p vf fp) : PlAt w.drew p vf fp := ⟨h.f.drew⟩
theorem PlAt.but {w w' : World} {p : Pl} {vf : Value} {fp bs : List Nat} (h : PlAt w p vf fp) (hb : But bs w w') (hd : ∀ x ∈ fp, x ∉ bs) : PlAt w' p vf fp := ⟨h.f.but hb hd⟩
theorem PlAt.lt {w : World} {p : Pl} {vf : Value} {fp : List Nat} (h : PlAt w p vf fp) : ∀ x ∈ fp, x < w.heap.size := h.f.lt
theorem PlAt.form {w : World} {p : Pl} {vf : Value} {fp : List Nat} (h : PlAt w p vf fp) : ∃ A c, vf = .slice A p.fs.length c := by
  obtain ⟨A, c, e, _⟩ := h.f.form
  exact ⟨A, c, e⟩
/-- Places as a value. -/
abbrev plv (mark : Int) (vf : Value) : Value := .agg #[vf, .int .i64 mark]
/-- A code and places as a value. -/
abbrev plrv (code mark : Int) (vf : Value) : Value := .agg #[.int .i64 code, vf, .int .i64 mark]
def plsz (p : Pl) : Int := fsz p.fs
theorem plsz_nn (p : Pl) : 0 ≤ plsz p := fsz_nn p.fs
/-- Places whose rows are marked. -/
def markPl (p : Pl) (q : Int) : Pl := ⟨markFs p.fs q, p.mark⟩
theorem markPl_len (p : Pl) (q : Int) : (markPl p q).fs.length = p.fs.length := markL_length _ _
def cntPl (p : Pl) : Nat := cntFs p.fs
theorem cntPl_le (p : Pl) (h : plsz p ≤ 1048576) : cntPl p ≤ 4194304 := by
  have := cntFs_eq p.fs; unfold plsz fsz at h; unfold cntPl; omega
/-- What a copy of places answers. -/
def CopyPlaces (w : World) (p : Pl) (e : Ending) (w' : World) : Prop :=
  ∃ vf fp, e = .returned (plv p.mark vf) ∧ PlAt w' p vf fp ∧ NF w' fp ∧ (From w.heap.size fp ∧ fp.Nodup) ∧ Below w.heap.size w w'

set_option maxRecDepth 100000 in
set_option maxHeartbeats 1000000 in
theorem szPlaces_c (p : Pl) (vf : Value) (fp : List Nat) (q : Int) (w : World) (h : PlAt w p vf fp) (hq : 0 ≤ q) (hq2 : q ≤ 1048576) :
    Calls Try.prog 34 #[plv p.mark vf, .int .i64 q] w fun e w' => e = .returned (.int .i64 (if q < plsz p then -1 else q - plsz p)) ∧ Below w.heap.size w w' := by
  obtain ⟨A, c, rfl⟩ := h.form
  have HF := Lib.hid h.f
  clear h
  have hcall := szRowSS_c A c p.fs q (w.alloc (.cells #[.slice A p.fs.length c, .int .i64 p.mark] 62)) fp (HF.out.alloc _) hq hq2
  have hnn := fsz_nn p.fs
  unfold plsz
  generalize fsz p.fs = Z at *
  by_cases h1 : q < Z
  · rw [if_pos h1] at hcall ⊢
    go_enter Try.func34, Try.ntmps34
    go_wp2_with fail
    refine hcall.mono ?_
    rintro e w1 ⟨rfl, hw⟩
    subst hw
    go_wp2
    go_ret
    exact ⟨rfl, below_new _⟩
  · rw [if_neg h1] at hcall ⊢
    have t1 : ¬ (q - Z < 0) := by omega
    go_enter Try.func34, Try.ntmps34
    go_wp2_with fail
    refine hcall.mono ?_
    rintro e w1 ⟨rfl, hw⟩
    subst hw
    go_wp2
    go_ret
    exact ⟨rfl, below_new _⟩

set_option maxRecDepth 100000 in
set_option maxHeartbeats 2000000 in
theorem toPlaces_c (p : Pl) (vf : Value) (fp : List Nat) (w : World) (hs : plsz p ≤ 1048576) (h : PlAt w p vf fp) :
    Calls Try.prog 37 #[plv p.mark vf] w (CopyPlaces w p) := by
  obtain ⟨A, c, rfl⟩ := h.form
  have HF := Lib.hid h.f; have HS := Lib.hid hs
  clear h hs
  go_enter Try.func37, Try.ntmps37
  go_wp2_with fail
  generalize hW : (((w.alloc (.cells #[.slice A p.fs.length c, .int .i64 p.mark] 62)).alloc (.cells #[.slice none 0 0, .int .i64 0] 29)).alloc (.cells #[.slice none 0 0, .int .i64 0] 29)) = W
  have hz : W.heap.size = w.heap.size + 3 := by rw [← hW]; simp
  have hbW : Below w.heap.size w W := by rw [← hW]; exact below_more (below_more (below_new _) _) _
  have gl : W.heap[w.heap.size]? = some (.cells #[.slice A p.fs.length c, .int .i64 p.mark] 62 (0, 0)) := by rw [← hW]; exact heap_old (heap_old (heap_new w _ rfl))
  have gr : W.heap[w.heap.size + 1]? = some (.cells #[.slice none 0 0, .int .i64 0] 29 (0, 0)) := by rw [← hW]; exact heap_old (heap_new _ _ (by simp))
  have go : W.heap[w.heap.size + 2]? = some (.cells #[.slice none 0 0, .int .i64 0] 29 (0, 0)) := by rw [← hW]; exact heap_new _ _ (by simp)
  have HZ := Lib.hid (Nat.le_of_eq hz.symm); have HBW := Lib.hid hbW; have GL := Lib.hid gl; have GR := Lib.hid gr; have GO := Lib.hid go
  clear hW hz hbW gl gr go
  refine (toRowSS_c A c p.fs _ fp HS.out (HF.out.below' HBW.out)).mono ?_
  rintro e w1 ⟨A1, c1, f1, rfl, hr1, hn1, hf1, hd1, hb1⟩
  obtain ⟨l0, l1, _, _, hzl⟩ := two_at ((hb1.block _ (heap_lt GL.out)).trans GL.out)
  obtain ⟨o0, o1, x0, x1, hzo⟩ := two_at ((hb1.block _ (heap_lt GO.out)).trans GO.out)
  obtain ⟨q0, q1, z0, z1, hzq⟩ := two_at ((hb1.block _ (heap_lt GR.out)).trans GR.out)
  have HX : Hid (RdF w1 (.slice A1 p.fs.length c1) p.fs f1 ∧ NF w1 f1 ∧ From (w.heap.size + 3) f1 ∧ f1.Nodup ∧ Below w.heap.size w w1) :=
    ⟨hr1, hn1, hf1.mono HZ.out, hd1, HBW.out.trans (hb1.mono HBW.out.size)⟩
  clear hr1 hn1 hf1 hd1 hb1
  go_wp2_with fail
  refine bodyPost_ret (v := plv p.mark (.slice A1 p.fs.length c1)) (by simp [results, Try.results37, go_sem, q0, q1, o0, o1]) rfl ?_
  obtain ⟨k1, k2, k3, k4, k5⟩ := HX.out
  have hbut : But [w.heap.size + 1, w.heap.size + 2] w1 ((((w1.setCell ⟨w.heap.size + 2, 0, none⟩ (.slice A1 p.fs.length c1)).setCell ⟨w.heap.size + 2, 1, none⟩ (.int .i64 p.mark)).setCell ⟨w.heap.size + 1, 0, none⟩ (.slice A1 p.fs.length c1)).setCell ⟨w.heap.size + 1, 1, none⟩ (.int .i64 p.mark)) :=
    ((((But.refl _ w1).setCell (by simp) _).setCell (by simp) _).setCell (by simp) _).setCell (by simp) _
  have a1 : ∀ x ∈ f1, x ∉ [w.heap.size + 1, w.heap.size + 2] := fun x hx he => by have := k3 x hx; simp at he; omega
  exact ⟨_, f1, rfl, ⟨k1.but hbut a1⟩, k2.but hbut k1.lt a1, ⟨k3.mono (by omega), k4⟩, k5.trans (hbut.below k5.size (fun x hx => by simp at hx; omega))⟩

set_option maxRecDepth 100000 in
set_option maxHeartbeats 1000000 in
theorem eqPlaces_c (p : Pl) (vf vf' : Value) (fp fp' : List Nat) (w : World) (h : PlAt w p vf fp) (h' : PlAt w p vf' fp') :
    Calls Try.prog 40 #[plv p.mark vf, plv p.mark vf'] w fun e w' => e = .returned (.bool true) ∧ Below w.heap.size w w' := by
  obtain ⟨A, c, rfl⟩ := h.form
  obtain ⟨A', c', rfl⟩ := h'.form
  have H1 := Lib.hid h; have H2 := Lib.hid h'; clear h h'
  go_enter Try.func40, Try.ntmps40
  go_wp2_with fail
  generalize hW : ((w.alloc (.cells #[.slice A p.fs.length c, .int .i64 p.mark] 29)).alloc (.cells #[.slice A' p.fs.length c', .int .i64 p.mark] 29)) = W
  have hbW : Below w.heap.size w W := by rw [← hW]; exact below_more (below_new _) _
  have g1 : W.heap[w.heap.size]? = some (.cells #[.slice A p.fs.length c, .int .i64 p.mark] 29 (0, 0)) := by rw [← hW]; exact heap_old (heap_new w _ rfl)
  have g2 : W.heap[w.heap.size + 1]? = some (.cells #[.slice A' p.fs.length c', .int .i64 p.mark] 29 (0, 0)) := by rw [← hW]; exact heap_new _ _ (by simp)
  have HBW := Lib.hid hbW; have G1 := Lib.hid g1; have G2 := Lib.hid g2
  clear hW hbW g1 g2
  refine (eqRowSS_c A A' c c' p.fs _ fp fp' (H1.out.f.below' HBW.out) (H2.out.f.below' HBW.out)).mono ?_
  rintro e w1 ⟨rfl, hb1⟩
  obtain ⟨l0, l1, _, _, hzl⟩ := two_at ((hb1.block _ (heap_lt G1.out)).trans G1.out)
  obtain ⟨m0, m1, _, _, hzm⟩ := two_at ((hb1.block _ (heap_lt G2.out)).trans G2.out)
  have HB1 := Lib.hid (HBW.out.trans (hb1.mono HBW.out.size))
  clear hb1
  go_wp2
  go_ret
  exact ⟨rfl, HB1.out⟩





end Go.Proofs.Ytldimfmhbdhbnaa
