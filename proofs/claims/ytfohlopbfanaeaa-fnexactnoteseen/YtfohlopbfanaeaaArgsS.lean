/-
  Arguments that are slices of structs of integers, books and ledgers among them, as the row's form gives them, read by my own words.
-/
import Derived.Test.YtfohlopbfanaeaaG4
import Derived.Test.YtfohlopbfanaeaaArgs4
import Derived.Test.YtfohlopbfanaeaaHold5
import Derived.Test.YtfohlopbfanaeaaSeen2
namespace Go.Proofs.Ytfohlopbfanaeaa
open Go.RowKit

instance : Inhabited Hd := ⟨⟨0, 0, 0, 0, 0⟩⟩
instance : Inhabited Sn := ⟨⟨0, 0⟩⟩
theorem intFields_of {P : Program} {e it : TypeId} {K : Nat} (hm : (P.fieldsOf e).toList.map (fun f => (f.offset, f.type)) = (List.range K).map (fun i => (i, it))) (hc : P.cellsOf it = 1)
    (hu : P.underlying it = some (.int .i64)) (he : P.underlying e = some (.struct (P.fieldsOf e))) (hce : P.cellsOf e = K) : IntFields P e (P.fieldsOf e) ∧ (P.fieldsOf e).size = K := by
  have hs : (P.fieldsOf e).size = K := by
    have := congrArg List.length hm
    simpa using this
  refine ⟨⟨he, by rw [hs]; exact hce, ?_⟩, hs⟩
  intro i f h
  have hi : i < K := by
    have := (Array.getElem?_eq_some_iff.1 h).1
    omega
  have e1 : ((P.fieldsOf e).toList.map (fun f => (f.offset, f.type)))[i]? = some (f.offset, f.type) := by
    rw [List.getElem?_map, Array.getElem?_toList, h]; rfl
  rw [hm, List.getElem?_map, List.getElem?_range hi] at e1
  simp only [Option.map_some, Option.some.injEq, Prod.mk.injEq] at e1
  obtain ⟨e1, e2⟩ := e1
  rw [← e2]
  exact ⟨e1.symm, hu, hc⟩

section
variable {H : Type} {enc : TypeId × Value → H} {P : Program} {w : World} {base : Nat} {spare : Nat → Bool} {held : Bool} {e : TypeId}

/-- A slice of structs that came in: each element is read by a reader of its cells. -/
theorem open_elts {α : Type} [Inhabited α] {ec : α → List Value} {K : Nat} {Wf : α → Prop} (hK : ∀ a, (ec a).length = K) (hp : 0 < K) (hce : P.cellsOf e = K)
    (rd : ∀ (n : Nat) (cs : List Value) (x : DataW H × List MemPlace), DataW.trod enc P w base spare held n e cs = some x → ∃ a, cs = ec a ∧ Wf a)
    {t : TypeId} (ht : P.underlying t = some (.slice e)) {fuel : Nat} {a : Option Addr} {len cap : Nat} {x : DataW H × List MemPlace}
    (h : DataW.trod enc P w base spare held fuel t [.slice a len cap] = some x) : ∃ rs : List α, rs.length = len ∧ (∃ fp, Rd w K (.slice a len cap) (ecs ec rs) fp) ∧ ∀ r ∈ rs, Wf r := by
  rcases Deep.open_slice ht h with ⟨hcs, _⟩ | ⟨ad, len', cap', m, n, D, Pl, hcs, hb, hl, hm, hmm, _, hx⟩
  · simp at hcs
    obtain ⟨rfl, rfl, rfl⟩ := hcs
    exact ⟨[], rfl, ⟨[], Rd.nil w K⟩, by simp⟩
  · simp at hcs
    obtain ⟨rfl, rfl, rfl⟩ := hcs
    have hlm : len ≤ m := by rw [hmm]; split <;> omega
    have each : ∀ i, i < len → ∃ r : α, (∀ j u, (ec r)[j]? = some u → w.cell? (ad.add (i * K + j)) = some u) ∧ Wf r := by
      intro i hi
      obtain ⟨cs', h1, h2⟩ := hx i (by omega)
      rw [hce] at h1
      obtain ⟨r, rfl, hw⟩ := rd _ _ _ h2
      obtain ⟨_, hlen, hcell⟩ := World.cells?_some h1
      refine ⟨r, fun j u hu => ?_, hw⟩
      have hj : j < K := by
        have := (List.getElem?_eq_some_iff.1 hu).1
        rwa [hK] at this
      have := hcell j hj
      rw [Deep.add_add, hu] at this
      exact this
    obtain ⟨q, hq⟩ := Deep.choose_lt each
    refine ⟨(List.range len).map q, by simp, ?_, ?_⟩
    · rcases Nat.eq_zero_or_pos len with h0 | h0
      · subst h0
        exact ⟨[], _, 0, cap, rfl, by simp [ecs], by omega, by omega, .inl ⟨rfl, rfl⟩⟩
      · have hc0 := (hq 0 h0).1 0 ((ec (q 0))[0]'(by rw [hK]; exact hp)) (List.getElem?_eq_getElem _)
        obtain ⟨b, off, spot⟩ := ad
        have hs : spot = none := by simpa [Addr.add] using World.cell?_spot hc0
        subst hs
        have hbl : b < w.heap.size := by simpa [Addr.add] using cell_lt hc0
        refine ⟨[b], _, len, cap, rfl, by rw [ecs_length hK]; simp, by omega, hl, .inr ⟨b, off, rfl, rfl, hbl, fun i u hu => ?_⟩⟩
        have hi : i < len * K := by
          have := (List.getElem?_eq_some_iff.1 hu).1
          rw [ecs_length hK] at this
          simpa using this
        have hdm : i / K * K + i % K = i := Nat.div_add_mod' i K
        have hdl : i / K < len := (Nat.div_lt_iff_lt_mul hp).2 hi
        have hk : i / K < ((List.range len).map q).length := by simpa using hdl
        have hg := ecs_get hK ((List.range len).map q) (i / K) (i % K) hk (Nat.mod_lt _ hp)
        rw [hdm, hu] at hg
        have := (hq (i / K) hdl).1 (i % K) u (by rw [hg]; simp)
        rw [hdm, Addr.add_lit] at this
        exact this
    · intro r hr
      obtain ⟨i, hi, rfl⟩ := List.mem_map.1 hr
      exact (hq i (List.mem_range.1 hi)).2
/-- What is trodden as a slice is a slice. -/
theorem slice_cell {t : TypeId} (ht : P.underlying t = some (.slice e)) {fuel : Nat} {v : Value} {x : DataW H × List MemPlace} (h : DataW.trod enc P w base spare held fuel t [v] = some x) : ∃ a n c, v = .slice a n c := by
  rcases Deep.open_slice ht h with ⟨hcs, _⟩ | ⟨ad, len', cap', m, n, D, Pl, hcs, _⟩
  · simp at hcs; exact ⟨_, _, _, hcs⟩
  · simp at hcs; exact ⟨_, _, _, hcs⟩
theorem open_elts' {α : Type} [Inhabited α] {ec : α → List Value} {K : Nat} {Wf : α → Prop} (hK : ∀ a, (ec a).length = K) (hp : 0 < K) (hce : P.cellsOf e = K)
    (rd : ∀ (n : Nat) (cs : List Value) (x : DataW H × List MemPlace), DataW.trod enc P w base spare held n e cs = some x → ∃ a, cs = ec a ∧ Wf a)
    {t : TypeId} (ht : P.underlying t = some (.slice e)) {fuel : Nat} {v : Value} {x : DataW H × List MemPlace}
    (h : DataW.trod enc P w base spare held fuel t [v] = some x) : ∃ a c, ∃ rs : List α, v = .slice a rs.length c ∧ (∃ fp, Rd w K (.slice a rs.length c) (ecs ec rs) fp) ∧ ∀ r ∈ rs, Wf r := by
  obtain ⟨a, n, c, rfl⟩ := slice_cell ht h
  obtain ⟨rs, rfl, h1, h2⟩ := open_elts hK hp hce rd ht h
  exact ⟨a, c, rs, rfl, h1, h2⟩
/-- The fields of a struct, each trodden alone. -/
theorem struct_field {fs : Array Field} (he : P.underlying e = some (.struct fs)) {n : Nat} {cs : List Value} {x : DataW H × List MemPlace} (h : DataW.trod enc P w base spare held n e cs = some x) :
    cs.length = P.cellsOf e ∧ ∀ (i : Nat) (f : Field), fs[i]? = some f → ∃ m y, DataW.trod enc P w base spare held m f.type ((cs.drop f.offset).take (P.cellsOf f.type)) = some y := by
  obtain ⟨xs, m, _, rfl, hl, hlen, hf⟩ := DataW.trod_struct he h
  refine ⟨hl, fun i f hi => ?_⟩
  have hx : xs[i]? = some (xs[i]'(by have := (Array.getElem?_eq_some_iff.1 hi).1; omega)) := List.getElem?_eq_getElem _
  exact ⟨m, _, (hf i f hi).trans hx⟩
end

set_option maxRecDepth 1000000 in
theorem argSeen : IntFields Try.prog 60 (Try.prog.fieldsOf 60) ∧ (Try.prog.fieldsOf 60).size = 2 :=
  intFields_of (it := 2) (by kernel_rfl) (by kernel_rfl) Try.underlying2 (by kernel_rfl) (by kernel_rfl)
section
variable {H : Type} {enc : TypeId × Value → H} {w : World} {base : Nat} {spare : Nat → Bool} {held : Bool}
set_option maxRecDepth 1000000 in
theorem seen_cells (n : Nat) (cs : List Value) (x : DataW H × List MemPlace) (h : DataW.trod enc Try.prog w base spare held n 60 cs = some x) : ∃ a, cs = sc a ∧ WfS a := by
  obtain ⟨zs, hl, hc, hw⟩ := ints_cells argSeen.1 h
  rw [argSeen.2] at hl
  match zs, hl with
  | [a, b], _ => exact ⟨⟨a, b⟩, hc, hw a (by simp), hw b (by simp)⟩
set_option maxRecDepth 1000000 in
theorem open_seens {fuel : Nat} {v : Value} {x : DataW H × List MemPlace} (h : DataW.trod enc Try.prog w base spare held fuel 43 [v] = some x) :
    ∃ a c, ∃ rs : List Sn, v = .slice a rs.length c ∧ (∃ fp, Rd w 2 (.slice a rs.length c) (ecs sc rs) fp) ∧ ∀ r ∈ rs, WfS r :=
  open_elts' sc_len (by omega) (by kernel_rfl) seen_cells Try.underlying43 h
end
set_option maxRecDepth 1000000 in
theorem argHold : IntFields Try.prog 128 (Try.prog.fieldsOf 128) ∧ (Try.prog.fieldsOf 128).size = 5 :=
  intFields_of (it := 2) (by kernel_rfl) (by kernel_rfl) Try.underlying2 (by kernel_rfl) (by kernel_rfl)
section
variable {H : Type} {enc : TypeId × Value → H} {w : World} {base : Nat} {spare : Nat → Bool} {held : Bool}
set_option maxRecDepth 1000000 in
theorem hold_cells (n : Nat) (cs : List Value) (x : DataW H × List MemPlace) (h : DataW.trod enc Try.prog w base spare held n 128 cs = some x) : ∃ a, cs = hc a ∧ WfH a := by
  obtain ⟨zs, hl, hc, hw⟩ := ints_cells argHold.1 h
  rw [argHold.2] at hl
  match zs, hl with
  | [a, b, c, d, e], _ => exact ⟨⟨a, b, c, d, e⟩, hc, hw a (by simp), hw b (by simp), hw c (by simp), hw d (by simp), hw e (by simp)⟩
set_option maxRecDepth 1000000 in
theorem open_holds {fuel : Nat} {v : Value} {x : DataW H × List MemPlace} (h : DataW.trod enc Try.prog w base spare held fuel 23 [v] = some x) :
    ∃ a c, ∃ rs : List Hd, v = .slice a rs.length c ∧ (∃ fp, Rd w 5 (.slice a rs.length c) (ecs hc rs) fp) ∧ ∀ r ∈ rs, WfH r :=
  open_elts' hc_len (by omega) (by kernel_rfl) hold_cells Try.underlying23 h
end
section
variable {H : Type} {enc : TypeId × Value → H} {w : World} {base : Nat} {spare : Nat → Bool} {held : Bool}
set_option maxRecDepth 1000000 in
theorem open_rows' {fuel : Nat} {v : Value} {x : DataW H × List MemPlace} (h : DataW.trod enc Try.prog w base spare held fuel 22 [v] = some x) :
    ∃ a c, ∃ rs : List R, v = .slice a rs.length c ∧ (∃ fp, Rd w 4 (.slice a rs.length c) (rcs rs) fp) ∧ ∀ r ∈ rs, WfR r := by
  obtain ⟨f0, f1, f2, f3, F4⟩ := fourLaws
  exact open_elts' (ec := rc) rc_length (by omega) (by kernel_rfl) (fun _ _ _ h => four_cells F4 h) Try.underlying22 h
end
/-- A list of so many (offset, type) is what a struct's fields are. -/
theorem field_of {fs : Array Field} {l : List (Nat × TypeId)} (h : fs.toList.map (fun f => (f.offset, f.type)) = l) {i : Nat} {o : Nat} {t : TypeId} (hi : l[i]? = some (o, t)) : ∃ f, fs[i]? = some f ∧ f.offset = o ∧ f.type = t := by
  rw [← h, List.getElem?_map, Option.map_eq_some_iff] at hi
  obtain ⟨f, hf, e⟩ := hi
  injection e with e1 e2
  exact ⟨f, by rwa [Array.getElem?_toList] at hf, e1, e2⟩
/-- A book that came in. -/
structure BookIn (w : World) (now : Int) (A : Option Addr) (c : Nat) (rs : List R) (B : Option Addr) (d : Nat) (hs : List Hd) (fa fb : List Nat) : Prop where
  wn : (Lit.int .i64 now).wf = true
  ra : Rd w 4 (.slice A rs.length c) (rcs rs) fa
  wr : ∀ r ∈ rs, WfR r
  rb : Rd w 5 (.slice B hs.length d) (ecs hc hs) fb
  wh : ∀ h ∈ hs, WfH h
section
variable {H : Type} {enc : TypeId × Value → H} {w : World} {base : Nat} {spare : Nat → Bool} {held : Bool}
set_option maxRecDepth 100000 in
theorem bookFields : (Try.prog.fieldsOf 25).toList.map (fun f => (f.offset, f.type)) = [(0, 2), (1, 22), (2, 23)] := by kernel_rfl
set_option maxRecDepth 1000000 in
theorem book_cells (n : Nat) (cs : List Value) (x : DataW H × List MemPlace) (h : DataW.trod enc Try.prog w base spare held n 25 cs = some x) :
    ∃ now A c rs B d hs fa fb, cs = [.int .i64 now, .slice A rs.length c, .slice B hs.length d] ∧ BookIn w now A c rs B d hs fa fb := by
  obtain ⟨hl, hf⟩ := struct_field (fs := Try.prog.fieldsOf 25) (by kernel_rfl) h
  rw [show Try.prog.cellsOf 25 = 3 from by kernel_rfl] at hl
  match cs, hl with
  | [v0, v1, v2], _ =>
    obtain ⟨f0, g0, o0, t0⟩ := field_of bookFields (i := 0) rfl
    obtain ⟨f1, g1, o1, t1⟩ := field_of bookFields (i := 1) rfl
    obtain ⟨f2, g2, o2, t2⟩ := field_of bookFields (i := 2) rfl
    obtain ⟨m0, y0, e0⟩ := hf 0 f0 g0
    obtain ⟨m1, y1, e1⟩ := hf 1 f1 g1
    obtain ⟨m2, y2, e2⟩ := hf 2 f2 g2
    rw [o0, t0, show Try.prog.cellsOf 2 = 1 from by kernel_rfl] at e0
    rw [o1, t1, show Try.prog.cellsOf 22 = 1 from by kernel_rfl] at e1
    rw [o2, t2, show Try.prog.cellsOf 23 = 1 from by kernel_rfl] at e2
    obtain ⟨now, en, _, wn⟩ := DataW.trod_int Try.underlying2 e0
    obtain ⟨A, c, rs, ea, ⟨fa, ra⟩, wr⟩ := open_rows' e1
    obtain ⟨B, d, hs, eb, ⟨fb, rb⟩, wh⟩ := open_holds e2
    simp at en
    subst en ea eb
    exact ⟨now, A, c, rs, B, d, hs, fa, fb, rfl, wn, ra, wr, rb, wh⟩
set_option maxRecDepth 1000000 in
theorem open_book {r : Reach} {b0 : Nat} {v : Value} {d : DataW H} {p : List MemPlace} (hv : Value.okWide Try.prog w r b0 25 v) (h : DataW.Trod enc Try.prog w base spare held 25 v d p) :
    ∃ now A c rs B d hs fa fb, v = .agg #[.int .i64 now, .slice A rs.length c, .slice B hs.length d] ∧ BookIn w now A c rs B d hs fa fb := by
  obtain ⟨cs, rfl, hsz⟩ := WideShapes.okWide_struct (fs := Try.prog.fieldsOf 25) (by kernel_rfl) hv
  obtain ⟨fuel, hf⟩ := h
  obtain ⟨now, A, c, rs, B, d, hs, fa, fb, hr, hw⟩ := book_cells _ _ _ hf
  refine ⟨now, A, c, rs, B, d, hs, fa, fb, ?_, hw⟩
  have : cs.toList = [.int .i64 now, .slice A rs.length c, .slice B hs.length d] := by simpa [Value.cells] using hr
  rw [show cs = [.int .i64 now, .slice A rs.length c, .slice B hs.length d].toArray by rw [← this]]
end
section
variable {H : Type} {enc : TypeId × Value → H} {w : World} {base : Nat} {spare : Nat → Bool} {held : Bool}
set_option maxRecDepth 100000 in
theorem ledgerFields : (Try.prog.fieldsOf 51).toList.map (fun f => (f.offset, f.type)) = [(0, 25), (3, 43)] := by kernel_rfl
set_option maxRecDepth 1000000 in
theorem ledger_cells (n : Nat) (cs : List Value) (x : DataW H × List MemPlace) (h : DataW.trod enc Try.prog w base spare held n 51 cs = some x) :
    ∃ now A c rs B d hs D e ss fa fb fc, cs = [.int .i64 now, .slice A rs.length c, .slice B hs.length d, .slice D ss.length e] ∧ BookIn w now A c rs B d hs fa fb ∧ Rd w 2 (.slice D ss.length e) (ecs sc ss) fc ∧ ∀ r ∈ ss, WfS r := by
  obtain ⟨hl, hf⟩ := struct_field (fs := Try.prog.fieldsOf 51) (by kernel_rfl) h
  rw [show Try.prog.cellsOf 51 = 4 from by kernel_rfl] at hl
  match cs, hl with
  | [v0, v1, v2, v3], _ =>
    obtain ⟨f0, g0, o0, t0⟩ := field_of ledgerFields (i := 0) rfl
    obtain ⟨f1, g1, o1, t1⟩ := field_of ledgerFields (i := 1) rfl
    obtain ⟨m0, y0, e0⟩ := hf 0 f0 g0
    obtain ⟨m1, y1, e1⟩ := hf 1 f1 g1
    rw [o0, t0, show Try.prog.cellsOf 25 = 3 from by kernel_rfl] at e0
    rw [o1, t1, show Try.prog.cellsOf 43 = 1 from by kernel_rfl] at e1
    obtain ⟨now, A, c, rs, B, d, hs, fa, fb, eb, bi⟩ := book_cells _ _ _ e0
    obtain ⟨D, e, ss, es, ⟨fc, rd⟩, ws⟩ := open_seens e1
    simp at eb
    obtain ⟨rfl, rfl, rfl⟩ := eb
    subst es
    exact ⟨now, A, c, rs, B, d, hs, D, e, ss, fa, fb, fc, rfl, bi, rd, ws⟩
set_option maxRecDepth 1000000 in
theorem open_ledger {r : Reach} {b0 : Nat} {v : Value} {d : DataW H} {p : List MemPlace} (hv : Value.okWide Try.prog w r b0 51 v) (h : DataW.Trod enc Try.prog w base spare held 51 v d p) :
    ∃ now A c rs B d hs D e ss fa fb fc, v = .agg #[.int .i64 now, .slice A rs.length c, .slice B hs.length d, .slice D ss.length e] ∧ BookIn w now A c rs B d hs fa fb ∧ Rd w 2 (.slice D ss.length e) (ecs sc ss) fc ∧ ∀ r ∈ ss, WfS r := by
  obtain ⟨cs, rfl, hsz⟩ := WideShapes.okWide_struct (fs := Try.prog.fieldsOf 51) (by kernel_rfl) hv
  obtain ⟨fuel, hf⟩ := h
  obtain ⟨now, A, c, rs, B, d, hs, D, e, ss, fa, fb, fc, hr, hw⟩ := ledger_cells _ _ _ hf
  refine ⟨now, A, c, rs, B, d, hs, D, e, ss, fa, fb, fc, ?_, hw⟩
  have : cs.toList = [.int .i64 now, .slice A rs.length c, .slice B hs.length d, .slice D ss.length e] := by simpa [Value.cells] using hr
  rw [show cs = [.int .i64 now, .slice A rs.length c, .slice B hs.length d, .slice D ss.length e].toArray by rw [← this]]
end
section
variable {H : Type} {enc : TypeId × Value → H} {w : World} {base : Nat} {spare : Nat → Bool} {held : Bool}
set_option maxRecDepth 1000000 in
theorem open_seen {r : Reach} {b0 : Nat} {v : Value} {d : DataW H} {p : List MemPlace} (hv : Value.okWide Try.prog w r b0 60 v) (h : DataW.Trod enc Try.prog w base spare held 60 v d p) : ∃ x : Sn, v = sv x ∧ WfS x := by
  obtain ⟨zs, hl, he, hw⟩ := open_ints_struct argSeen.1 hv h
  rw [argSeen.2] at hl
  match zs, hl with
  | [a, b], _ => exact ⟨⟨a, b⟩, he, hw a (by simp), hw b (by simp)⟩
end
end Go.Proofs.Ytfohlopbfanaeaa
