/-
  Contracts of the laws' helpers over places and results that hold places.
-/
import Derived.Test.YtoabohllphoioaaGreatFilesH
namespace Go.Proofs.YtoabohllphoioaaGreat
open Go.RowKit

/-- A slice that reads as the files of places. -/
structure PlAt (w : World) (p : Pl) (vf : Value) (fp : List Nat) : Prop where
  f : RdF w vf p.fs fp
theorem PlAt.below' {w w' : World} {p : Pl} {vf : Value} {fp : List Nat} (h : PlAt w p vf fp) (hb : Below w.heap.size w w') : PlAt w' p vf fp := ⟨h.f.below' hb⟩
theorem PlAt.alloc {w : World} {p : Pl} {vf : Value} {fp : List Nat} (h : PlAt w p vf fp) (o : Obj) : PlAt (w.alloc o) p vf fp := ⟨h.f.alloc o⟩
theorem PlAt.drew {w : World} {p : Pl} {vf : Value} {fp : List Nat} (h : PlAt w p vf fp) : PlAt w.drew p vf fp := ⟨h.f.drew⟩
theorem PlAt.but {w w' : World} {p : Pl} {vf : Value} {fp bs : List Nat} (h : PlAt w p vf fp) (hb : But bs w w') (hd : ∀ x ∈ fp, x ∉ bs) : PlAt w' p vf fp := ⟨h.f.but hb hd⟩
theorem PlAt.lt {w : World} {p : Pl} {vf : Value} {fp : List Nat} (h : PlAt w p vf fp) : ∀ x ∈ fp, x < w.heap.size := h.f.lt
theorem PlAt.form {w : World} {p : Pl} {vf : Value} {fp : List Nat} (h : PlAt w p vf fp) : ∃ A c, vf = .slice A p.fs.length c := by
  obtain ⟨A, c, e, _⟩ := h.f.form
  exact ⟨A, c, e⟩
/-- Places as a value. -/
abbrev plv (mark : Int) (vf : Value) : Value := .agg #[vf, .int .i64 mark]
/-- A code and places as a value. -/
abbrev plrv (code mark : Int) (vf : Value) : Value := .agg #[.int .i64 code, vf, .int .i64 mark]
def plsz (p : Pl) : Int := fsz p.fs
theorem plsz_nn (p : Pl) : 0 ≤ plsz p := fsz_nn p.fs
/-- Places whose rows are marked. -/
def markPl (p : Pl) (q : Int) : Pl := ⟨markFs p.fs q, p.mark⟩
theorem markPl_len (p : Pl) (q : Int) : (markPl p q).fs.length = p.fs.length := markL_length _ _
def cntPl (p : Pl) : Nat := cntFs p.fs
theorem cntPl_le (p : Pl) (h : plsz p ≤ 1048576) : cntPl p ≤ 4194304 := by
  have := cntFs_eq p.fs; unfold plsz fsz at h; unfold cntPl; omega
/-- What a copy of places answers. -/
def CopyPlaces (w : World) (p : Pl) (e : Ending) (w' : World) : Prop :=
  ∃ vf fp, e = .returned (plv p.mark vf) ∧ PlAt w' p vf fp ∧ NF w' fp ∧ (From w.heap.size fp ∧ fp.Nodup) ∧ Below w.heap.size w w'








end Go.Proofs.YtoabohllphoioaaGreat
