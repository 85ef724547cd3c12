/-
  An argument that is a struct of integers, by value, read by my own words: any number of fields.
-/
import Derived.Test.YtocllaendofndaaDoorProg
import Derived.Test.YtocllaendofndaaDoorArgs
import Derived.Test.YtocllaendofndaaDoorOps7
import Derived.Deep.Slices
import Derived.Lib.SmallJoins
namespace Go.Proofs.YtocllaendofndaaDoor
open Go.RowKit

/-- A struct whose fields are integers of 64 bits, one behind the other. -/
structure IntFields (P : Program) (e : TypeId) (fs : Array Field) : Prop where
  he : P.underlying e = some (.struct fs)
  ce : P.cellsOf e = fs.size
  each : ∀ (i : Nat) (f : Field), fs[i]? = some f → f.offset = i ∧ P.underlying f.type = some (.int .i64) ∧ P.cellsOf f.type = 1

section
variable {H : Type} {enc : TypeId × Value → H} {P : Program} {w : World} {base : Nat} {spare : Nat → Bool} {held : Bool} {e : TypeId} {fs : Array Field}

theorem ints_cells (F : IntFields P e fs) {n : Nat} {cs : List Value} {x : DataW H × List MemPlace} (h : DataW.trod enc P w base spare held n e cs = some x) :
    ∃ zs : List Int, zs.length = fs.size ∧ cs = cellsOf .i64 zs ∧ ∀ z ∈ zs, (Lit.int .i64 z).wf = true := by
  obtain ⟨xs, m, _, rfl, hl, hlen, hf⟩ := DataW.trod_struct F.he h
  rw [F.ce] at hl
  have each : ∀ i (hi : i < cs.length), ∃ a : Int, cs[i] = .int .i64 a ∧ (Lit.int .i64 a).wf = true := by
    intro i hi
    have hfi : fs[i]? = some fs[i] := Array.getElem?_eq_getElem (by omega)
    obtain ⟨ho, hu, hc⟩ := F.each i _ hfi
    have ht := hf i _ hfi
    rw [ho, hc] at ht
    have hx : xs[i]? = some xs[i] := List.getElem?_eq_getElem (by omega)
    rw [hx] at ht
    have hd : (cs.drop i).take 1 = [cs[i]] := by rw [List.drop_eq_getElem_cons hi]; rfl
    rw [hd] at ht
    obtain ⟨a, ha, _, hw⟩ := DataW.trod_int hu ht
    simp at ha
    exact ⟨a, ha, hw⟩
  clear hf h
  refine ⟨cs.map (fun v => match v with | .int _ z => z | _ => 0), by rw [List.length_map, hl], ?_, ?_⟩
  · apply List.ext_getElem
    · simp [cellsOf]
    · intro i h1 h2
      obtain ⟨a, ha, _⟩ := each i h1
      simp [cellsOf, ha]
  · intro z hz
    obtain ⟨v, hv, rfl⟩ := List.mem_map.1 hz
    obtain ⟨i, hi, rfl⟩ := List.getElem_of_mem hv
    obtain ⟨a, ha, hw⟩ := each i hi
    rw [ha]; exact hw
/-- A struct of integers that came in by value. -/
theorem open_ints_struct (F : IntFields P e fs) {r : Reach} {b0 : Nat} {v : Value} {d : DataW H} {p : List MemPlace} (hv : Value.okWide P w r b0 e v) (h : DataW.Trod enc P w base spare held e v d p) :
    ∃ zs : List Int, zs.length = fs.size ∧ v = .agg (cellsOf .i64 zs).toArray ∧ ∀ z ∈ zs, (Lit.int .i64 z).wf = true := by
  obtain ⟨cs, rfl, hsz⟩ := WideShapes.okWide_struct F.he hv
  obtain ⟨fuel, hf⟩ := h
  obtain ⟨zs, hl, hr, hw⟩ := ints_cells F hf
  refine ⟨zs, hl, ?_, hw⟩
  have : cs.toList = cellsOf .i64 zs := by simpa [Value.cells] using hr
  rw [← this]
end

/-- Every field of an operation fits. -/
def WfO (o : O) : Prop := ∀ z ∈ opL o, (Lit.int .i64 z).wf = true
theorem op_of {zs : List Int} (h : zs.length = 7) : ∃ o : O, zs = opL o := by
  match zs, h with
  | [a, b, c, d, e, f, g], _ => exact ⟨⟨a, b, c, d, e, f, g⟩, rfl⟩
theorem opFields : ∃ fs : Array Field, fs.size = 7 ∧ IntFields Tryd.prog 41 fs := by
  have hm : (Tryd.prog.fieldsOf 41).toList.map (fun f => (f.offset, f.type)) = [(0, 2), (1, 2), (2, 2), (3, 2), (4, 2), (5, 2), (6, 2)] := by kernel_rfl
  have hc : Tryd.prog.cellsOf 2 = 1 := by kernel_rfl
  have h7 : (Tryd.prog.fieldsOf 41).size = 7 := by
    have := congrArg List.length hm
    simpa using this
  refine ⟨Tryd.prog.fieldsOf 41, h7, by kernel_rfl, by rw [h7]; kernel_rfl, ?_⟩
  intro i f h
  have hi : i < 7 := by
    have := (Array.getElem?_eq_some_iff.1 h).1
    omega
  have e : ((Tryd.prog.fieldsOf 41).toList.map (fun f => (f.offset, f.type)))[i]? = some (f.offset, f.type) := by
    rw [List.getElem?_map, Array.getElem?_toList, h]; rfl
  rw [hm] at e
  have h7 : i = 0 ∨ i = 1 ∨ i = 2 ∨ i = 3 ∨ i = 4 ∨ i = 5 ∨ i = 6 := by omega
  rcases h7 with rfl | rfl | rfl | rfl | rfl | rfl | rfl
  all_goals
    simp only [List.getElem?_cons_zero, List.getElem?_cons_succ, Option.some.injEq, Prod.mk.injEq] at e
    obtain ⟨e1, e2⟩ := e
    rw [← e2]
    exact ⟨e1.symm, Tryd.underlying2, hc⟩
set_option maxRecDepth 100000 in
/-- An operation that came in by value. -/
theorem open_op {H : Type} {enc : TypeId × Value → H} {w : World} {base : Nat} {spare : Nat → Bool} {held : Bool} {r : Reach} {b0 : Nat} {v : Value} {d : DataW H} {p : List MemPlace}
    (hv : Value.okWide Tryd.prog w r b0 41 v) (h : DataW.Trod enc Tryd.prog w base spare held 41 v d p) : ∃ o : O, v = ov o ∧ WfO o := by
  obtain ⟨fs, h7, F⟩ := opFields
  have hx := open_ints_struct (P := Tryd.prog) (e := 41) (fs := fs) F hv h
  obtain ⟨zs, hl, he, hw⟩ := hx
  obtain ⟨o, ho⟩ := op_of (hl.trans h7)
  rw [ho] at he hw
  exact ⟨o, he, hw⟩
end Go.Proofs.YtocllaendofndaaDoor
