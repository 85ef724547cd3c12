/-
  Contracts of the laws' helpers over slices of slices of rows, and over places: measuring, copying, comparing, marking.
-/
import Derived.Test.YtldimfmhbdhbnaaGreatModel6
import Derived.Test.YtldimfmhbdhbnaaGreatG1
namespace Go.Proofs.YtldimfmhbdhbnaaGreat
open Go.RowKit

/-- Marked rows: the numbers from q on, four a row. -/
def markR (rs : List R) (q : Int) : List R := (List.range rs.length).map fun (i : Nat) => (q + ((i * 4 : Nat) : Int), q + ((i * 4 + 1 : Nat) : Int), q + ((i * 4 + 2 : Nat) : Int), q + ((i * 4 + 3 : Nat) : Int))
theorem markR_length (rs : List R) (q : Int) : (markR rs q).length = rs.length := by simp [markR]
theorem rcs_markR (rs : List R) (q : Int) : rcs (markR rs q) = cellsOf .i64 (marks (fun x => x) q (rs.length * 4)) := by
  apply List.ext_getElem?
  intro i
  by_cases h : i < rs.length * 4
  · have hd : i / 4 * 4 + i % 4 = i := Nat.div_add_mod' i 4
    have hlt : i / 4 < (markR rs q).length := by rw [markR_length]; omega
    have hm : i % 4 < 4 := Nat.mod_lt _ (by omega)
    have := rcs_get (markR rs q) (i / 4) (i % 4) hlt hm
    rw [hd] at this
    rw [this]
    have e : (markR rs q)[i / 4] = (q + ((i / 4 * 4 : Nat) : Int), q + ((i / 4 * 4 + 1 : Nat) : Int), q + ((i / 4 * 4 + 2 : Nat) : Int), q + ((i / 4 * 4 + 3 : Nat) : Int)) := by simp [markR]
    rw [e]
    have h2 : (cellsOf .i64 (marks (fun x => x) q (rs.length * 4)))[i]? = some (.int .i64 (q + (i : Int))) := by simp [marks, h]
    rw [h2]
    have : i % 4 = 0 ∨ i % 4 = 1 ∨ i % 4 = 2 ∨ i % 4 = 3 := by omega
    rcases this with e | e | e | e <;> simp only [rc, e, List.getElem?_cons_zero, List.getElem?_cons_succ, Option.some.injEq, Value.int.injEq, true_and] <;> omega
  · rw [List.getElem?_eq_none (by rw [rcs_length, markR_length]; omega), List.getElem?_eq_none (by simp [marks]; omega)]
abbrev cntR (rs : List R) : Nat := rs.length * 4
abbrev markFs (l : List (List R)) (q : Int) : List (List R) := markL markR cntR l q
abbrev cntFs (l : List (List R)) : Nat := cntL cntR l
theorem cntFs_eq (l : List (List R)) : cntFs l = totS l * 4 := by
  unfold cntFs totS
  induction l with
  | nil => rfl
  | cons a t ih => rw [cntL_cons, cntL_cons, ih, Nat.add_mul]


set_option maxRecDepth 1000000 in
theorem infoRowS : ∃ i, Tryz.prog.info? 24 = some i ∧ i.zero = some (.slice none 0 0) ∧ i.size = 1 ∧ i.bytes = 24 := ⟨_, rfl, rfl, rfl, rfl⟩
theorem makeRowSS (n : Nat) (hn : n ≤ 1099511627776) (W : World) : (Instr.makeSlice 30 (.int .i64 (n : Int)) (.int .i64 (n : Int))).run Tryz.prog W = .ok (.slice (some ⟨W.heap.size, 0, none⟩) n n) (W.alloc (.cells (madeCells #[.slice none 0 0] n) 24)) := by
  obtain ⟨i, hi, hz, hsz, hby⟩ := infoRowS
  have hr := run_make (P := Tryz.prog) W 30 24 i (.slice none 0 0) Tryz.underlying30 hi hz .i64 .i64 n n (by omega) (by omega) (by rw [hby]; omega) (by omega)
  simp only [Int.toNat_natCast, hsz, Nat.mul_one] at hr
  exact hr
theorem madeNils (n : Nat) : madeCells #[.slice none 0 0] n = (List.replicate n [Value.slice none 0 0]).flatten.toArray := by
  have h := made_zeros (K := 1) (.slice none 0 0) #[.slice none 0 0] rfl Nat.one_pos n
  rw [Nat.mul_one] at h
  rw [h]
  congr 1
  clear h
  induction n with
  | zero => rfl
  | succ n ih => rw [List.replicate_succ, List.replicate_succ, List.flatten_cons, ih]; rfl





end Go.Proofs.YtldimfmhbdhbnaaGreat

/-
  Contracts of the laws' helpers over places and results that hold places.
-/
namespace Go.Proofs.YtldimfmhbdhbnaaGreat
open Go.RowKit

/-- A slice that reads as the files of places. -/
structure PlAt (w : World) (p : Pl) (vf : Value) (fp : List Nat) : Prop where
  f : RdF w vf p.fs fp
theorem PlAt.below' {w w' : World} {p : Pl} {vf : Value} {fp : List Nat} (h : PlAt w p vf fp) (hb : Below w.heap.size w w') : PlAt w' p vf fp := ⟨h.f.below' hb⟩
theorem PlAt.alloc {w : World} {p : Pl} {vf : Value} {fp : List Nat} (h : PlAt w p vf fp) (o : Obj) : PlAt (w.alloc o) p vf fp := ⟨h.f.alloc o⟩
theorem PlAt.drew {w : World} {p : Pl} {vf : Value} {fp : List Nat} (h : PlAt w p vf fp) : PlAt w.drew p vf fp := ⟨h.f.drew⟩
theorem PlAt.but {w w' : World} {p : Pl} {vf : Value} {fp bs : List Nat} (h : PlAt w p vf fp) (hb : But bs w w') (hd : ∀ x ∈ fp, x ∉ bs) : PlAt w' p vf fp := ⟨h.f.but hb hd⟩
theorem PlAt.lt {w : World} {p : Pl} {vf : Value} {fp : List Nat} (h : PlAt w p vf fp) : ∀ x ∈ fp, x < w.heap.size := h.f.lt
theorem PlAt.form {w : World} {p : Pl} {vf : Value} {fp : List Nat} (h : PlAt w p vf fp) : ∃ A c, vf = .slice A p.fs.length c := by
  obtain ⟨A, c, e, _⟩ := h.f.form
  exact ⟨A, c, e⟩
/-- Places as a value. -/
abbrev plv (mark : Int) (vf : Value) : Value := .agg #[vf, .int .i64 mark]
/-- A code and places as a value. -/
abbrev plrv (code mark : Int) (vf : Value) : Value := .agg #[.int .i64 code, vf, .int .i64 mark]
def plsz (p : Pl) : Int := fsz p.fs
theorem plsz_nn (p : Pl) : 0 ≤ plsz p := fsz_nn p.fs
/-- Places whose rows are marked. -/
def markPl (p : Pl) (q : Int) : Pl := ⟨markFs p.fs q, p.mark⟩
theorem markPl_len (p : Pl) (q : Int) : (markPl p q).fs.length = p.fs.length := markL_length _ _
def cntPl (p : Pl) : Nat := cntFs p.fs
theorem cntPl_le (p : Pl) (h : plsz p ≤ 1048576) : cntPl p ≤ 4194304 := by
  have := cntFs_eq p.fs; unfold plsz fsz at h; unfold cntPl; omega
/-- What a copy of places answers. -/
def CopyPlaces (w : World) (p : Pl) (e : Ending) (w' : World) : Prop :=
  ∃ vf fp, e = .returned (plv p.mark vf) ∧ PlAt w' p vf fp ∧ NF w' fp ∧ (From w.heap.size fp ∧ fp.Nodup) ∧ Below w.heap.size w w'








end Go.Proofs.YtldimfmhbdhbnaaGreat
