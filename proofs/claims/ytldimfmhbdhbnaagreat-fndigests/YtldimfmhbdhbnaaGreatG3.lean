/-
  An argument that is a slice of integers, as the row's form gives it, read by my own words.
-/
import Derived.Test.YtldimfmhbdhbnaaGreatG26
import Derived.OpenShut
import Derived.Test.YtldimfmhbdhbnaaGreatProg
import Derived.Test.YtldimfmhbdhbnaaGreatG2
import Derived.Deep.Slices
import Derived.Lib.SmallJoins
namespace Go.Proofs.YtldimfmhbdhbnaaGreat
open Go.RowKit

/-- A slice of integers that came in: nil, or a row of cap cells that hold zs, each fitting its kind. -/
def IsRow (k : IntKind) (w : World) (a : Option Addr) (len cap : Nat) (zs : List Int) : Prop :=
  (a = none ∧ len = 0 ∧ cap = 0 ∧ zs = []) ∨
  ∃ x, a = some x ∧ len ≤ cap ∧ cap ≤ maxLen ∧ zs.length = cap ∧ (∀ i, i < zs.length → w.cell? (x.add i) = some (.int k (zs.getD i 0))) ∧ ∀ n ∈ zs, (Lit.int k n).wf = true

theorem cell_lt {w : World} {a : Addr} {v : Value} (h : w.cell? a = some v) : a.block < w.heap.size := by
  rcases Nat.lt_or_ge a.block w.heap.size with hlt | hge
  · exact hlt
  · simp [World.cell?, Array.getElem?_eq_none hge] at h

theorem IsRow.len {k : IntKind} {w : World} {a : Option Addr} {len cap : Nat} {zs : List Int} (h : IsRow k w a len cap zs) : (zs.take len).length = len := by
  rcases h with ⟨rfl, rfl, rfl, rfl⟩ | ⟨x, rfl, hl, hm, hz, hc, hw⟩
  · rfl
  · rw [List.length_take]; omega

theorem IsRow.rd {k : IntKind} {w : World} {a : Option Addr} {len cap : Nat} {zs : List Int} (h : IsRow k w a len cap zs) :
    ∃ fp, Rd w 1 (.slice a len cap) (cellsOf k (zs.take len)) fp := by
  rcases h with ⟨rfl, rfl, rfl, rfl⟩ | ⟨x, rfl, hl, hm, hz, hc, hw⟩
  · exact ⟨[], Rd.nil w 1⟩
  · by_cases h0 : len = 0
    · subst h0
      exact ⟨[], _, 0, cap, rfl, by simp, by omega, by omega, .inl ⟨rfl, rfl⟩⟩
    · have hc0 := hc 0 (by omega)
      obtain ⟨b, off, spot⟩ := x
      have hs : spot = none := by simpa [Addr.add] using World.cell?_spot hc0
      subst hs
      have hb : b < w.heap.size := by simpa [Addr.add] using cell_lt hc0
      refine ⟨[b], _, len, cap, rfl, by simp; omega, by omega, hl, .inr ⟨b, off, rfl, rfl, hb, fun i u hu => ?_⟩⟩
      have hi : i < len := by
        rcases Nat.lt_or_ge i len with h | h
        · exact h
        · rw [List.getElem?_eq_none (by simp; omega)] at hu; cases hu
      have := hc i (by omega)
      rw [List.getElem?_map, List.getElem?_take, if_pos hi, List.getElem?_eq_getElem (by omega)] at hu
      simp only [Option.map_some, Option.some.injEq] at hu
      rw [List.getD_eq_getElem?_getD, List.getElem?_eq_getElem (by omega)] at this
      have e : (⟨b, off, none⟩ : Addr).add i = ⟨b, off + i, none⟩ := by unfold Addr.add; split <;> simp_all
      rw [e] at this
      rw [this, ← hu]
      rfl

theorem IsRow.byt {w : World} {a : Option Addr} {len cap : Nat} {zs : List Int} (h : IsRow .u8 w a len cap zs) : Byt (zs.take len) := by
  rcases h with ⟨rfl, rfl, rfl, rfl⟩ | ⟨x, rfl, hl, hm, hz, hc, hw⟩
  · intro z hz; simp at hz
  · intro z hz
    have := hw z (List.mem_of_mem_take hz)
    exact bounds_u8 this
end Go.Proofs.YtldimfmhbdhbnaaGreat

/-
  An argument that is a struct of integers, by value, read by my own words: any number of fields.
-/
namespace Go.Proofs.YtldimfmhbdhbnaaGreat
open Go.RowKit

/-- A struct whose fields are integers of 64 bits, one behind the other. -/
structure IntFields (P : Program) (e : TypeId) (fs : Array Field) : Prop where
  he : P.underlying e = some (.struct fs)
  ce : P.cellsOf e = fs.size
  each : ∀ (i : Nat) (f : Field), fs[i]? = some f → f.offset = i ∧ P.underlying f.type = some (.int .i64) ∧ P.cellsOf f.type = 1

section
variable {H : Type} {enc : TypeId × Value → H} {P : Program} {w : World} {base : Nat} {spare : Nat → Bool} {held : Bool} {e : TypeId} {fs : Array Field}

theorem ints_cells (F : IntFields P e fs) {n : Nat} {cs : List Value} {x : DataW H × List MemPlace} (h : DataW.trod enc P w base spare held n e cs = some x) :
    ∃ zs : List Int, zs.length = fs.size ∧ cs = cellsOf .i64 zs ∧ ∀ z ∈ zs, (Lit.int .i64 z).wf = true := by
  obtain ⟨xs, m, _, rfl, hl, hlen, hf⟩ := DataW.trod_struct F.he h
  rw [F.ce] at hl
  have each : ∀ i (hi : i < cs.length), ∃ a : Int, cs[i] = .int .i64 a ∧ (Lit.int .i64 a).wf = true := by
    intro i hi
    have hfi : fs[i]? = some fs[i] := Array.getElem?_eq_getElem (by omega)
    obtain ⟨ho, hu, hc⟩ := F.each i _ hfi
    have ht := hf i _ hfi
    rw [ho, hc] at ht
    have hx : xs[i]? = some xs[i] := List.getElem?_eq_getElem (by omega)
    rw [hx] at ht
    have hd : (cs.drop i).take 1 = [cs[i]] := by rw [List.drop_eq_getElem_cons hi]; rfl
    rw [hd] at ht
    obtain ⟨a, ha, _, hw⟩ := DataW.trod_int hu ht
    simp at ha
    exact ⟨a, ha, hw⟩
  clear hf h
  refine ⟨cs.map (fun v => match v with | .int _ z => z | _ => 0), by rw [List.length_map, hl], ?_, ?_⟩
  · apply List.ext_getElem
    · simp [cellsOf]
    · intro i h1 h2
      obtain ⟨a, ha, _⟩ := each i h1
      simp [cellsOf, ha]
  · intro z hz
    obtain ⟨v, hv, rfl⟩ := List.mem_map.1 hz
    obtain ⟨i, hi, rfl⟩ := List.getElem_of_mem hv
    obtain ⟨a, ha, hw⟩ := each i hi
    rw [ha]; exact hw
/-- A struct of integers that came in by value. -/
theorem open_ints_struct (F : IntFields P e fs) {r : Reach} {b0 : Nat} {v : Value} {d : DataW H} {p : List MemPlace} (hv : Value.okWide P w r b0 e v) (h : DataW.Trod enc P w base spare held e v d p) :
    ∃ zs : List Int, zs.length = fs.size ∧ v = .agg (cellsOf .i64 zs).toArray ∧ ∀ z ∈ zs, (Lit.int .i64 z).wf = true := by
  obtain ⟨cs, rfl, hsz⟩ := WideShapes.okWide_struct F.he hv
  obtain ⟨fuel, hf⟩ := h
  obtain ⟨zs, hl, hr, hw⟩ := ints_cells F hf
  refine ⟨zs, hl, ?_, hw⟩
  have : cs.toList = cellsOf .i64 zs := by simpa [Value.cells] using hr
  rw [← this]
end

/-- Every field of an operation fits. -/
def WfO (o : O) : Prop := ∀ z ∈ opL o, (Lit.int .i64 z).wf = true
theorem op_of {zs : List Int} (h : zs.length = 7) : ∃ o : O, zs = opL o := by
  match zs, h with
  | [a, b, c, d, e, f, g], _ => exact ⟨⟨a, b, c, d, e, f, g⟩, rfl⟩
end Go.Proofs.YtldimfmhbdhbnaaGreat
