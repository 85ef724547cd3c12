/-
  An argument that is a slice of integers, as the row's form gives it, read by my own words.
-/
import Derived.Test.YtocllaendofndaaDoorWords
import Derived.OpenShut
import Derived.Test.YtocllaendofndaaDoorProg
import Derived.Test.YtocllaendofndaaDoorG2
import Derived.Deep.Slices
import Derived.Lib.SmallJoins
import Derived.WalkKit
import Derived.ProofKit
import Derived.WalkSpells
import Derived.Test.YtocllaendofndaaDoorText3
namespace Go.Proofs.YtocllaendofndaaDoor
open Go.RowKit

/-- A slice of integers that came in: nil, or a row of cap cells that hold zs, each fitting its kind. -/
def IsRow (k : IntKind) (w : World) (a : Option Addr) (len cap : Nat) (zs : List Int) : Prop :=
  (a = none ∧ len = 0 ∧ cap = 0 ∧ zs = []) ∨
  ∃ x, a = some x ∧ len ≤ cap ∧ cap ≤ maxLen ∧ zs.length = cap ∧ (∀ i, i < zs.length → w.cell? (x.add i) = some (.int k (zs.getD i 0))) ∧ ∀ n ∈ zs, (Lit.int k n).wf = true

theorem cell_lt {w : World} {a : Addr} {v : Value} (h : w.cell? a = some v) : a.block < w.heap.size := by
  rcases Nat.lt_or_ge a.block w.heap.size with hlt | hge
  · exact hlt
  · simp [World.cell?, Array.getElem?_eq_none hge] at h

theorem IsRow.len {k : IntKind} {w : World} {a : Option Addr} {len cap : Nat} {zs : List Int} (h : IsRow k w a len cap zs) : (zs.take len).length = len := by
  rcases h with ⟨rfl, rfl, rfl, rfl⟩ | ⟨x, rfl, hl, hm, hz, hc, hw⟩
  · rfl
  · rw [List.length_take]; omega

theorem IsRow.rd {k : IntKind} {w : World} {a : Option Addr} {len cap : Nat} {zs : List Int} (h : IsRow k w a len cap zs) :
    ∃ fp, Rd w 1 (.slice a len cap) (cellsOf k (zs.take len)) fp := by
  rcases h with ⟨rfl, rfl, rfl, rfl⟩ | ⟨x, rfl, hl, hm, hz, hc, hw⟩
  · exact ⟨[], Rd.nil w 1⟩
  · by_cases h0 : len = 0
    · subst h0
      exact ⟨[], _, 0, cap, rfl, by simp, by omega, by omega, .inl ⟨rfl, rfl⟩⟩
    · have hc0 := hc 0 (by omega)
      obtain ⟨b, off, spot⟩ := x
      have hs : spot = none := by simpa [Addr.add] using World.cell?_spot hc0
      subst hs
      have hb : b < w.heap.size := by simpa [Addr.add] using cell_lt hc0
      refine ⟨[b], _, len, cap, rfl, by simp; omega, by omega, hl, .inr ⟨b, off, rfl, rfl, hb, fun i u hu => ?_⟩⟩
      have hi : i < len := by
        rcases Nat.lt_or_ge i len with h | h
        · exact h
        · rw [List.getElem?_eq_none (by simp; omega)] at hu; cases hu
      have := hc i (by omega)
      rw [List.getElem?_map, List.getElem?_take, if_pos hi, List.getElem?_eq_getElem (by omega)] at hu
      simp only [Option.map_some, Option.some.injEq] at hu
      rw [List.getD_eq_getElem?_getD, List.getElem?_eq_getElem (by omega)] at this
      have e : (⟨b, off, none⟩ : Addr).add i = ⟨b, off + i, none⟩ := by unfold Addr.add; split <;> simp_all
      rw [e] at this
      rw [this, ← hu]
      rfl

theorem IsRow.byt {w : World} {a : Option Addr} {len cap : Nat} {zs : List Int} (h : IsRow .u8 w a len cap zs) : Byt (zs.take len) := by
  rcases h with ⟨rfl, rfl, rfl, rfl⟩ | ⟨x, rfl, hl, hm, hz, hc, hw⟩
  · intro z hz; simp at hz
  · intro z hz
    have := hw z (List.mem_of_mem_take hz)
    exact bounds_u8 this
end Go.Proofs.YtocllaendofndaaDoor

/-
  An argument that is a struct of integers, by value, read by my own words: any number of fields.
-/
namespace Go.Proofs.YtocllaendofndaaDoor
open Go.RowKit

/-- A struct whose fields are integers of 64 bits, one behind the other. -/
structure IntFields (P : Program) (e : TypeId) (fs : Array Field) : Prop where
  he : P.underlying e = some (.struct fs)
  ce : P.cellsOf e = fs.size
  each : ∀ (i : Nat) (f : Field), fs[i]? = some f → f.offset = i ∧ P.underlying f.type = some (.int .i64) ∧ P.cellsOf f.type = 1

section
variable {H : Type} {enc : TypeId × Value → H} {P : Program} {w : World} {base : Nat} {spare : Nat → Bool} {held : Bool} {e : TypeId} {fs : Array Field}

theorem ints_cells (F : IntFields P e fs) {n : Nat} {cs : List Value} {x : DataW H × List MemPlace} (h : DataW.trod enc P w base spare held n e cs = some x) :
    ∃ zs : List Int, zs.length = fs.size ∧ cs = cellsOf .i64 zs ∧ ∀ z ∈ zs, (Lit.int .i64 z).wf = true := by
  obtain ⟨xs, m, _, rfl, hl, hlen, hf⟩ := DataW.trod_struct F.he h
  rw [F.ce] at hl
  have each : ∀ i (hi : i < cs.length), ∃ a : Int, cs[i] = .int .i64 a ∧ (Lit.int .i64 a).wf = true := by
    intro i hi
    have hfi : fs[i]? = some fs[i] := Array.getElem?_eq_getElem (by omega)
    obtain ⟨ho, hu, hc⟩ := F.each i _ hfi
    have ht := hf i _ hfi
    rw [ho, hc] at ht
    have hx : xs[i]? = some xs[i] := List.getElem?_eq_getElem (by omega)
    rw [hx] at ht
    have hd : (cs.drop i).take 1 = [cs[i]] := by rw [List.drop_eq_getElem_cons hi]; rfl
    rw [hd] at ht
    obtain ⟨a, ha, _, hw⟩ := DataW.trod_int hu ht
    simp at ha
    exact ⟨a, ha, hw⟩
  clear hf h
  refine ⟨cs.map (fun v => match v with | .int _ z => z | _ => 0), by rw [List.length_map, hl], ?_, ?_⟩
  · apply List.ext_getElem
    · simp [cellsOf]
    · intro i h1 h2
      obtain ⟨a, ha, _⟩ := each i h1
      simp [cellsOf, ha]
  · intro z hz
    obtain ⟨v, hv, rfl⟩ := List.mem_map.1 hz
    obtain ⟨i, hi, rfl⟩ := List.getElem_of_mem hv
    obtain ⟨a, ha, hw⟩ := each i hi
    rw [ha]; exact hw
/-- A struct of integers that came in by value. -/
theorem open_ints_struct (F : IntFields P e fs) {r : Reach} {b0 : Nat} {v : Value} {d : DataW H} {p : List MemPlace} (hv : Value.okWide P w r b0 e v) (h : DataW.Trod enc P w base spare held e v d p) :
    ∃ zs : List Int, zs.length = fs.size ∧ v = .agg (cellsOf .i64 zs).toArray ∧ ∀ z ∈ zs, (Lit.int .i64 z).wf = true := by
  obtain ⟨cs, rfl, hsz⟩ := WideShapes.okWide_struct F.he hv
  obtain ⟨fuel, hf⟩ := h
  obtain ⟨zs, hl, hr, hw⟩ := ints_cells F hf
  refine ⟨zs, hl, ?_, hw⟩
  have : cs.toList = cellsOf .i64 zs := by simpa [Value.cells] using hr
  rw [← this]
end

/-- Every field of an operation fits. -/
def WfO (o : O) : Prop := ∀ z ∈ opL o, (Lit.int .i64 z).wf = true
theorem op_of {zs : List Int} (h : zs.length = 7) : ∃ o : O, zs = opL o := by
  match zs, h with
  | [a, b, c, d, e, f, g], _ => exact ⟨⟨a, b, c, d, e, f, g⟩, rfl⟩
theorem opFields : ∃ fs : Array Field, fs.size = 7 ∧ IntFields Tryd.prog 41 fs := by
  have hm : (Tryd.prog.fieldsOf 41).toList.map (fun f => (f.offset, f.type)) = [(0, 2), (1, 2), (2, 2), (3, 2), (4, 2), (5, 2), (6, 2)] := by kernel_rfl
  have hc : Tryd.prog.cellsOf 2 = 1 := by kernel_rfl
  have h7 : (Tryd.prog.fieldsOf 41).size = 7 := by
    have := congrArg List.length hm
    simpa using this
  refine ⟨Tryd.prog.fieldsOf 41, h7, by kernel_rfl, by rw [h7]; kernel_rfl, ?_⟩
  intro i f h
  have hi : i < 7 := by
    have := (Array.getElem?_eq_some_iff.1 h).1
    omega
  have e : ((Tryd.prog.fieldsOf 41).toList.map (fun f => (f.offset, f.type)))[i]? = some (f.offset, f.type) := by
    rw [List.getElem?_map, Array.getElem?_toList, h]; rfl
  rw [hm] at e
  have h7 : i = 0 ∨ i = 1 ∨ i = 2 ∨ i = 3 ∨ i = 4 ∨ i = 5 ∨ i = 6 := by omega
  rcases h7 with rfl | rfl | rfl | rfl | rfl | rfl | rfl
  all_goals
    simp only [List.getElem?_cons_zero, List.getElem?_cons_succ, Option.some.injEq, Prod.mk.injEq] at e
    obtain ⟨e1, e2⟩ := e
    rw [← e2]
    exact ⟨e1.symm, Tryd.underlying2, hc⟩
set_option maxRecDepth 100000 in
/-- An operation that came in by value. -/
theorem open_op {H : Type} {enc : TypeId × Value → H} {w : World} {base : Nat} {spare : Nat → Bool} {held : Bool} {r : Reach} {b0 : Nat} {v : Value} {d : DataW H} {p : List MemPlace}
    (hv : Value.okWide Tryd.prog w r b0 41 v) (h : DataW.Trod enc Tryd.prog w base spare held 41 v d p) : ∃ o : O, v = ov o ∧ WfO o := by
  obtain ⟨fs, h7, F⟩ := opFields
  have hx := open_ints_struct (P := Tryd.prog) (e := 41) (fs := fs) F hv h
  obtain ⟨zs, hl, he, hw⟩ := hx
  obtain ⟨o, ho⟩ := op_of (hl.trans h7)
  rw [ho] at he hw
  exact ⟨o, he, hw⟩
end Go.Proofs.YtocllaendofndaaDoor

/-
  Contracts of the laws' helpers over operations and texts.
-/
namespace Go.Proofs.YtocllaendofndaaDoor
open Go.RowKit

/-- A code and an operation as a value. -/
abbrev orv (code : Int) (o : O) : Value := .agg #[.int .i64 code, .int .i64 o.k, .int .i64 o.rq, .int .i64 o.lc, .int .i64 o.tt, .int .i64 o.sk, .int .i64 o.qt, .int .i64 o.hd]

set_option maxRecDepth 100000 in
set_option maxHeartbeats 1000000 in
theorem toOp_c (o : O) (w : World) :
    Calls Tryd.prog 20 #[ov o] w fun e w' => e = .returned (ov o) ∧ Below w.heap.size w w' := by
  go_enter Tryd.func20, Tryd.ntmps20
  go_wp2
  refine bodyPost_ret (v := ov o) (by simp [results, Tryd.results20, go_sem]) rfl ⟨rfl, ?_⟩
  exact (((Below.refl _ _).alloc (Nat.le_refl _) _).alloc (by simp) _).alloc (by simp; omega) _

set_option maxRecDepth 100000 in
set_option maxHeartbeats 1000000 in
theorem eqOp_c (o : O) (w : World) :
    Calls Tryd.prog 43 #[ov o, ov o] w fun e w' => e = .returned (.bool true) ∧ Below w.heap.size w w' := by
  go_enter Tryd.func43, Tryd.ntmps43
  go_wp2
  go_ret
  exact ⟨rfl, ((Below.refl _ _).alloc (Nat.le_refl _) _).alloc (by simp) _⟩

set_option maxRecDepth 100000 in
set_option maxHeartbeats 1000000 in
theorem eqOpResult_c (code : Int) (o : O) (w : World) :
    Calls Tryd.prog 22 #[orv code o, orv code o] w fun e w' => e = .returned (.bool true) ∧ Below w.heap.size w w' := by
  go_enter Tryd.func22, Tryd.ntmps22
  go_wp2_with fail
  refine (eqOp_c o _).mono ?_
  rintro e w1 ⟨rfl, hb1⟩
  have HB := Lib.hid hb1; clear hb1
  go_wp2
  go_ret
  exact ⟨rfl, (((Below.refl _ _).alloc (Nat.le_refl _) _).alloc (by simp) _).trans (HB.out.mono (by simp; omega))⟩

set_option maxRecDepth 100000 in
set_option maxHeartbeats 1000000 in
theorem eqTextResult_c (code : Int) (s : ByteArray) (w : World) :
    Calls Tryd.prog 21 #[.agg #[.int .i64 code, .string s], .agg #[.int .i64 code, .string s]] w fun e w' => e = .returned (.bool true) ∧ Below w.heap.size w w' := by
  go_enter Tryd.func21, Tryd.ntmps21
  go_wp2
  go_ret
  exact ⟨rfl, ((Below.refl _ _).alloc (Nat.le_refl _) _).alloc (by simp) _⟩
end Go.Proofs.YtocllaendofndaaDoor

/-
  What is asked of the functions of chapter 3, the model's and the program's, so that the laws answer true.
-/
namespace Go.Proofs.YtocllaendofndaaDoor
open Go.RowKit

/-- The text that OpText answers beside its code. -/
def otL (o : O) : List UInt8 := if opF o = 0 then textL o else []
/-- ParseOp's code and operation. -/
def psC (l : List UInt8) : Int := if (parseO l).isSome then 0 else 5
def psO (l : List UInt8) : O := (parseO l).getD ⟨0, 0, 0, 0, 0, 0, 0⟩

def AskOpFault (F : Nat) : Prop := ∀ (o : O) (w : World), WfO o → Calls Tryd.prog F #[ov o] w fun e w' => e = .returned (.int .i64 (opF o)) ∧ Below w.heap.size w w'
def AskOpText (X : World → Prop) (F : Nat) : Prop := ∀ (o : O) (w : World), WfO o → X w → Calls Tryd.prog F #[ov o] w fun e w' => e = .returned (.agg #[.int .i64 (opF o), .string ⟨(otL o).toArray⟩]) ∧ Below w.heap.size w w'
def AskParseOp (X : World → Prop) (F : Nat) : Prop := ∀ (s : ByteArray) (w : World), s.size ≤ 1048576 → X w → Calls Tryd.prog F #[.string s] w fun e w' => e = .returned (orv (psC s.data.toList) (psO s.data.toList)) ∧ Below w.heap.size w w'

/-- What stands in later worlds. -/
def Stays (X : World → Prop) : Prop := ∀ w w', X w → Below w.heap.size w w' → X w'
/-- The cells of an operation's block that the calls kept. -/
theorem op_kept {w w' : World} {g : Nat} {o : O} {t : TypeId} (h : Below w.heap.size w w') (hg : w.heap[g]? = some (.cells #[.int .i64 o.k, .int .i64 o.rq, .int .i64 o.lc, .int .i64 o.tt, .int .i64 o.sk, .int .i64 o.qt, .int .i64 o.hd] t (0, 0))) :
    w'.cell? ⟨g, 0, none⟩ = some (.int .i64 o.k) ∧ w'.cell? ⟨g, 1, none⟩ = some (.int .i64 o.rq) ∧ w'.cell? ⟨g, 2, none⟩ = some (.int .i64 o.lc) ∧ w'.cell? ⟨g, 3, none⟩ = some (.int .i64 o.tt) ∧ w'.cell? ⟨g, 4, none⟩ = some (.int .i64 o.sk) ∧ w'.cell? ⟨g, 5, none⟩ = some (.int .i64 o.qt) ∧ w'.cell? ⟨g, 6, none⟩ = some (.int .i64 o.hd) ∧ g < w'.heap.size := by
  have := (h.block _ (heap_lt hg)).trans hg
  exact ⟨cell_of_heap this, cell_of_heap this, cell_of_heap this, cell_of_heap this, cell_of_heap this, cell_of_heap this, cell_of_heap this, heap_lt this⟩
end Go.Proofs.YtocllaendofndaaDoor
