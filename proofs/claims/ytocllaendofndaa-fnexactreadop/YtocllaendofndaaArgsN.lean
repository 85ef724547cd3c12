/-
  An argument that is a struct of integers, by value, read by my own words: any number of fields.
-/
import Derived.Test.YtocllaendofndaaProg
import Derived.Test.YtocllaendofndaaArgs
import Derived.Test.YtocllaendofndaaOps7
import Derived.Deep.Slices
import Derived.Lib.SmallJoins
namespace Go.Proofs.Ytocllaendofndaa
open Go.RowKit

/-- A struct whose fields are integers of 64 bits, one behind the other. -/
structure IntFields (P : Program) (e : TypeId) (fs : Array Field) : Prop where
  he : P.underlying e = some (.struct fs)
  ce : P.cellsOf e = fs.size
  each : ∀ (i : Nat) (f : Field), fs[i]? = some f → f.offset = i ∧ P.underlying f.type = some (.int .i64) ∧ P.cellsOf f.type = 1

section
variable {H : Type} {enc : TypeId × Value → H} {P : Program} {w : World} {base : Nat} {spare : Nat → Bool} {held : Bool} {e : TypeId} {fs : Array Field}

theorem ints_cells (F : IntFields P e fs) {n : Nat} {cs : List Value} {x : DataW H × List MemPlace} (h : DataW.trod enc P w base spare held n e cs = some x) :
    ∃ zs : List Int, zs.length = fs.size ∧ cs = cellsOf .i64 zs ∧ ∀ z ∈ zs, (Lit.int .i64 z).wf = true := by
  obtain ⟨xs, m, _, rfl, hl, hlen, hf⟩ := DataW.trod_struct F.he h
  rw [F.ce] at hl
  have each : ∀ i (hi : i < cs.length), ∃ a : Int, cs[i] = .int .i64 a ∧ (Lit.int .i64 a).wf = true := by
    intro i hi
    have hfi : fs[i]? = some fs[i] := Array.getElem?_eq_getElem (by omega)
    obtain ⟨ho, hu, hc⟩ := F.each i _ hfi
    have ht := hf i _ hfi
    rw [ho, hc] at ht
    have hx : xs[i]? = some xs[i] := List.getElem?_eq_getElem (by omega)
    rw [hx] at ht
    have hd : (cs.drop i).take 1 = [cs[i]] := by rw [List.drop_eq_getElem_cons hi]; rfl
    rw [hd] at ht
    obtain ⟨a, ha, _, hw⟩ := DataW.trod_int hu ht
    simp at ha
    exact ⟨a, ha, hw⟩
  clear hf h
  refine ⟨cs.map (fun v => match v with | .int _ z => z | _ => 0), by rw [List.length_map, hl], ?_, ?_⟩
  · apply List.ext_getElem
    · simp [cellsOf]
    · intro i h1 h2
      obtain ⟨a, ha, _⟩ := each i h1
      simp [cellsOf, ha]
  · intro z hz
    obtain ⟨v, hv, rfl⟩ := List.mem_map.1 hz
    obtain ⟨i, hi, rfl⟩ := List.getElem_of_mem hv
    obtain ⟨a, ha, hw⟩ := each i hi
    rw [ha]; exact hw
/-- A struct of integers that came in by value. -/
theorem open_ints_struct (F : IntFields P e fs) {r : Reach} {b0 : Nat} {v : Value} {d : DataW H} {p : List MemPlace} (hv : Value.okWide P w r b0 e v) (h : DataW.Trod enc P w base spare held e v d p) :
    ∃ zs : List Int, zs.length = fs.size ∧ v = .agg (cellsOf .i64 zs).toArray ∧ ∀ z ∈ zs, (Lit.int .i64 z).wf = true := by
  obtain ⟨cs, rfl, hsz⟩ := WideShapes.okWide_struct F.he hv
  obtain ⟨fuel, hf⟩ := h
  obtain ⟨zs, hl, hr, hw⟩ := ints_cells F hf
  refine ⟨zs, hl, ?_, hw⟩
  have : cs.toList = cellsOf .i64 zs := by simpa [Value.cells] using hr
  rw [← this]
end

/-- Every field of an operation fits. -/
def WfO (o : O) : Prop := ∀ z ∈ opL o, (Lit.int .i64 z).wf = true
theorem op_of {zs : List Int} (h : zs.length = 7) : ∃ o : O, zs = opL o := by
  match zs, h with
  | [a, b, c, d, e, f, g], _ => exact ⟨⟨a, b, c, d, e, f, g⟩, rfl⟩
set_option maxRecDepth 1000000 in
theorem opFields : ∃ fs : Array Field, fs.size = 7 ∧ IntFields Try.prog 23 fs := by
  refine ⟨_, ?_, rfl, ?_, ?_⟩
  · rfl
  · rfl
  · intro i f h
    match i, h with
    | 0, h => cases h; exact ⟨rfl, rfl, rfl⟩
    | 1, h => cases h; exact ⟨rfl, rfl, rfl⟩
    | 2, h => cases h; exact ⟨rfl, rfl, rfl⟩
    | 3, h => cases h; exact ⟨rfl, rfl, rfl⟩
    | 4, h => cases h; exact ⟨rfl, rfl, rfl⟩
    | 5, h => cases h; exact ⟨rfl, rfl, rfl⟩
    | 6, h => cases h; exact ⟨rfl, rfl, rfl⟩
    | i + 7, h => cases h
/-- An operation that came in by value. -/
theorem open_op {H : Type} {enc : TypeId × Value → H} {w : World} {base : Nat} {spare : Nat → Bool} {held : Bool} {r : Reach} {b0 : Nat} {v : Value} {d : DataW H} {p : List MemPlace}
    (hv : Value.okWide Try.prog w r b0 23 v) (h : DataW.Trod enc Try.prog w base spare held 23 v d p) : ∃ o : O, v = ov o ∧ WfO o := by
  obtain ⟨fs, h7, F⟩ := opFields
  obtain ⟨zs, hl, rfl, hw⟩ := open_ints_struct F hv h
  obtain ⟨o, rfl⟩ := op_of (hl.trans h7)
  exact ⟨o, rfl, hw⟩
end Go.Proofs.Ytocllaendofndaa
