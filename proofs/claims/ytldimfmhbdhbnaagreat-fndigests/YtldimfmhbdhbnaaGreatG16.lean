/-
  Arguments that are slices of structs of integers, books and ledgers among them, as the row's form gives them, read by my own words.
-/
import Derived.Test.YtldimfmhbdhbnaaGreatG3
import Derived.Test.YtldimfmhbdhbnaaGreatG48
import Derived.Test.YtldimfmhbdhbnaaGreatG22
import Derived.Test.YtldimfmhbdhbnaaGreatG40
import Derived.Test.YtldimfmhbdhbnaaGreatImpl6a
import Derived.Test.YtldimfmhbdhbnaaGreatG21
namespace Go.Proofs.YtldimfmhbdhbnaaGreat
open Go.RowKit

instance : Inhabited Hd := ⟨⟨0, 0, 0, 0, 0⟩⟩
instance : Inhabited Sn := ⟨⟨0, 0⟩⟩
theorem intFields_of {P : Program} {e it : TypeId} {K : Nat} (hm : (P.fieldsOf e).toList.map (fun f => (f.offset, f.type)) = (List.range K).map (fun i => (i, it))) (hc : P.cellsOf it = 1)
    (hu : P.underlying it = some (.int .i64)) (he : P.underlying e = some (.struct (P.fieldsOf e))) (hce : P.cellsOf e = K) : IntFields P e (P.fieldsOf e) ∧ (P.fieldsOf e).size = K := by
  have hs : (P.fieldsOf e).size = K := by
    have := congrArg List.length hm
    simpa using this
  refine ⟨⟨he, by rw [hs]; exact hce, ?_⟩, hs⟩
  intro i f h
  have hi : i < K := by
    have := (Array.getElem?_eq_some_iff.1 h).1
    omega
  have e1 : ((P.fieldsOf e).toList.map (fun f => (f.offset, f.type)))[i]? = some (f.offset, f.type) := by
    rw [List.getElem?_map, Array.getElem?_toList, h]; rfl
  rw [hm, List.getElem?_map, List.getElem?_range hi] at e1
  simp only [Option.map_some, Option.some.injEq, Prod.mk.injEq] at e1
  obtain ⟨e1, e2⟩ := e1
  rw [← e2]
  exact ⟨e1.symm, hu, hc⟩

section
variable {H : Type} {enc : TypeId × Value → H} {P : Program} {w : World} {base : Nat} {spare : Nat → Bool} {held : Bool} {e : TypeId}

/-- A slice of structs that came in: each element is read by a reader of its cells. -/
theorem open_elts {α : Type} [Inhabited α] {ec : α → List Value} {K : Nat} {Wf : α → Prop} (hK : ∀ a, (ec a).length = K) (hp : 0 < K) (hce : P.cellsOf e = K)
    (rd : ∀ (n : Nat) (cs : List Value) (x : DataW H × List MemPlace), DataW.trod enc P w base spare held n e cs = some x → ∃ a, cs = ec a ∧ Wf a)
    {t : TypeId} (ht : P.underlying t = some (.slice e)) {fuel : Nat} {a : Option Addr} {len cap : Nat} {x : DataW H × List MemPlace}
    (h : DataW.trod enc P w base spare held fuel t [.slice a len cap] = some x) : ∃ rs : List α, rs.length = len ∧ (∃ fp, Rd w K (.slice a len cap) (ecs ec rs) fp) ∧ ∀ r ∈ rs, Wf r := by
  rcases Deep.open_slice ht h with ⟨hcs, _⟩ | ⟨ad, len', cap', m, n, D, Pl, hcs, hb, hl, hm, hmm, _, hx⟩
  · simp at hcs
    obtain ⟨rfl, rfl, rfl⟩ := hcs
    exact ⟨[], rfl, ⟨[], Rd.nil w K⟩, by simp⟩
  · simp at hcs
    obtain ⟨rfl, rfl, rfl⟩ := hcs
    have hlm : len ≤ m := by rw [hmm]; split <;> omega
    have each : ∀ i, i < len → ∃ r : α, (∀ j u, (ec r)[j]? = some u → w.cell? (ad.add (i * K + j)) = some u) ∧ Wf r := by
      intro i hi
      obtain ⟨cs', h1, h2⟩ := hx i (by omega)
      rw [hce] at h1
      obtain ⟨r, rfl, hw⟩ := rd _ _ _ h2
      obtain ⟨_, hlen, hcell⟩ := World.cells?_some h1
      refine ⟨r, fun j u hu => ?_, hw⟩
      have hj : j < K := by
        have := (List.getElem?_eq_some_iff.1 hu).1
        rwa [hK] at this
      have := hcell j hj
      rw [Deep.add_add, hu] at this
      exact this
    obtain ⟨q, hq⟩ := Deep.choose_lt each
    refine ⟨(List.range len).map q, by simp, ?_, ?_⟩
    · rcases Nat.eq_zero_or_pos len with h0 | h0
      · subst h0
        exact ⟨[], _, 0, cap, rfl, by simp [ecs], by omega, by omega, .inl ⟨rfl, rfl⟩⟩
      · have hc0 := (hq 0 h0).1 0 ((ec (q 0))[0]'(by rw [hK]; exact hp)) (List.getElem?_eq_getElem _)
        obtain ⟨b, off, spot⟩ := ad
        have hs : spot = none := by simpa [Addr.add] using World.cell?_spot hc0
        subst hs
        have hbl : b < w.heap.size := by simpa [Addr.add] using cell_lt hc0
        refine ⟨[b], _, len, cap, rfl, by rw [ecs_length hK]; simp, by omega, hl, .inr ⟨b, off, rfl, rfl, hbl, fun i u hu => ?_⟩⟩
        have hi : i < len * K := by
          have := (List.getElem?_eq_some_iff.1 hu).1
          rw [ecs_length hK] at this
          simpa using this
        have hdm : i / K * K + i % K = i := Nat.div_add_mod' i K
        have hdl : i / K < len := (Nat.div_lt_iff_lt_mul hp).2 hi
        have hk : i / K < ((List.range len).map q).length := by simpa using hdl
        have hg := ecs_get hK ((List.range len).map q) (i / K) (i % K) hk (Nat.mod_lt _ hp)
        rw [hdm, hu] at hg
        have := (hq (i / K) hdl).1 (i % K) u (by rw [hg]; simp)
        rw [hdm, Addr.add_lit] at this
        exact this
    · intro r hr
      obtain ⟨i, hi, rfl⟩ := List.mem_map.1 hr
      exact (hq i (List.mem_range.1 hi)).2
/-- What is trodden as a slice is a slice. -/
theorem slice_cell {t : TypeId} (ht : P.underlying t = some (.slice e)) {fuel : Nat} {v : Value} {x : DataW H × List MemPlace} (h : DataW.trod enc P w base spare held fuel t [v] = some x) : ∃ a n c, v = .slice a n c := by
  rcases Deep.open_slice ht h with ⟨hcs, _⟩ | ⟨ad, len', cap', m, n, D, Pl, hcs, _⟩
  · simp at hcs; exact ⟨_, _, _, hcs⟩
  · simp at hcs; exact ⟨_, _, _, hcs⟩
theorem open_elts' {α : Type} [Inhabited α] {ec : α → List Value} {K : Nat} {Wf : α → Prop} (hK : ∀ a, (ec a).length = K) (hp : 0 < K) (hce : P.cellsOf e = K)
    (rd : ∀ (n : Nat) (cs : List Value) (x : DataW H × List MemPlace), DataW.trod enc P w base spare held n e cs = some x → ∃ a, cs = ec a ∧ Wf a)
    {t : TypeId} (ht : P.underlying t = some (.slice e)) {fuel : Nat} {v : Value} {x : DataW H × List MemPlace}
    (h : DataW.trod enc P w base spare held fuel t [v] = some x) : ∃ a c, ∃ rs : List α, v = .slice a rs.length c ∧ (∃ fp, Rd w K (.slice a rs.length c) (ecs ec rs) fp) ∧ ∀ r ∈ rs, Wf r := by
  obtain ⟨a, n, c, rfl⟩ := slice_cell ht h
  obtain ⟨rs, rfl, h1, h2⟩ := open_elts hK hp hce rd ht h
  exact ⟨a, c, rs, rfl, h1, h2⟩
/-- The fields of a struct, each trodden alone. -/
theorem struct_field {fs : Array Field} (he : P.underlying e = some (.struct fs)) {n : Nat} {cs : List Value} {x : DataW H × List MemPlace} (h : DataW.trod enc P w base spare held n e cs = some x) :
    cs.length = P.cellsOf e ∧ ∀ (i : Nat) (f : Field), fs[i]? = some f → ∃ m y, DataW.trod enc P w base spare held m f.type ((cs.drop f.offset).take (P.cellsOf f.type)) = some y := by
  obtain ⟨xs, m, _, rfl, hl, hlen, hf⟩ := DataW.trod_struct he h
  refine ⟨hl, fun i f hi => ?_⟩
  have hx : xs[i]? = some (xs[i]'(by have := (Array.getElem?_eq_some_iff.1 hi).1; omega)) := List.getElem?_eq_getElem _
  exact ⟨m, _, (hf i f hi).trans hx⟩
end

/-- A list of so many (offset, type) is what a struct's fields are. -/
theorem field_of {fs : Array Field} {l : List (Nat × TypeId)} (h : fs.toList.map (fun f => (f.offset, f.type)) = l) {i : Nat} {o : Nat} {t : TypeId} (hi : l[i]? = some (o, t)) : ∃ f, fs[i]? = some f ∧ f.offset = o ∧ f.type = t := by
  rw [← h, List.getElem?_map, Option.map_eq_some_iff] at hi
  obtain ⟨f, hf, e⟩ := hi
  injection e with e1 e2
  exact ⟨f, by rwa [Array.getElem?_toList] at hf, e1, e2⟩
end Go.Proofs.YtldimfmhbdhbnaaGreat

/-
  Arguments that came in: slices of slices of rows, places.
-/
namespace Go.Proofs.YtldimfmhbdhbnaaGreat
open Go.ChangeShapes Go.WideShapes Go.ChangeAt Go.RowKit

theorem All3.of_map {α β γ ι : Type} {P : α → β → γ → Prop} {q : ι → α} {u : ι → β} {f : ι → γ} (l : List ι) (h : ∀ i ∈ l, P (q i) (u i) (f i)) : All3 P (l.map q) (l.map u) (l.map f) := by
  induction l with
  | nil => trivial
  | cons a t ih => exact ⟨h a (by simp), ih fun i hi => h i (by simp [hi])⟩

section
variable {H : Type} {enc : TypeId × Value → H} {P : Program} {w : World} {base : Nat} {spare : Nat → Bool} {held : Bool} {e : TypeId}
/-- A slice that came in whose elements reach further memory. -/
theorem open_sl {α : Type} [Inhabited α] {kd : Kd α} {Wf : α → Prop} (hce : P.cellsOf e = kd.K)
    (rd : ∀ (n : Nat) (cs : List Value) (x : DataW H × List MemPlace), DataW.trod enc P w base spare held n e cs = some x → ∃ a f, kd.P w a cs f ∧ Wf a)
    {t : TypeId} (ht : P.underlying t = some (.slice e)) {fuel : Nat} {a : Option Addr} {len cap : Nat} {x : DataW H × List MemPlace}
    (h : DataW.trod enc P w base spare held fuel t [.slice a len cap] = some x) : ∃ rs : List α, rs.length = len ∧ (∃ fp, Sl kd w (.slice a len cap) rs fp) ∧ ∀ r ∈ rs, Wf r := by
  rcases Deep.open_slice ht h with ⟨hcs, _⟩ | ⟨ad, len', cap', m, n, D, Pl, hcs, hb, hl, hm, hmm, _, hx⟩
  · simp at hcs
    obtain ⟨rfl, rfl, rfl⟩ := hcs
    exact ⟨[], rfl, ⟨[], Sl.nil w⟩, by simp⟩
  · simp at hcs
    obtain ⟨rfl, rfl, rfl⟩ := hcs
    have hlm : len ≤ m := by rw [hmm]; split <;> omega
    have each : ∀ i, i < len → ∃ r : α × List Value × List Nat, (∀ j u, r.2.1[j]? = some u → w.cell? (ad.add (i * kd.K + j)) = some u) ∧ kd.P w r.1 r.2.1 r.2.2 ∧ Wf r.1 := by
      intro i hi
      obtain ⟨cs', h1, h2⟩ := hx i (by omega)
      rw [hce] at h1
      obtain ⟨r, f, hp, hw⟩ := rd _ _ _ h2
      obtain ⟨_, hlen, hcell⟩ := World.cells?_some h1
      refine ⟨(r, cs', f), fun j u hu => ?_, hp, hw⟩
      have hj : j < kd.K := by
        have := (List.getElem?_eq_some_iff.1 hu).1
        rwa [kd.len hp] at this
      have := hcell j hj
      rw [Deep.add_add, hu] at this
      exact this
    obtain ⟨q, hq⟩ := Deep.choose_lt each
    have ha : All3 (kd.P w) ((List.range len).map fun i => (q i).1) ((List.range len).map fun i => (q i).2.1) ((List.range len).map fun i => (q i).2.2) :=
      All3.of_map _ fun i hi => (hq i (List.mem_range.1 hi)).2.1
    refine ⟨(List.range len).map fun i => (q i).1, by simp, ?_, ?_⟩
    · rcases Nat.eq_zero_or_pos len with h0 | h0
      · subst h0
        exact ⟨[], [], [], [], ⟨_, 0, cap, rfl, by simp, by omega, by omega, .inl ⟨rfl, rfl⟩⟩, trivial, rfl⟩
      · have hlz := kd.len (hq 0 h0).2.1
        have hc0 := (hq 0 h0).1 0 ((q 0).2.1[0]'(by rw [hlz]; exact kd.pos)) (List.getElem?_eq_getElem _)
        obtain ⟨b, off, spot⟩ := ad
        have hs : spot = none := by simpa [Addr.add] using World.cell?_spot hc0
        subst hs
        have hbl : b < w.heap.size := by simpa [Addr.add] using cell_lt hc0
        have hfl : ((List.range len).map fun i => (q i).2.1).flatten.length = len * kd.K := by rw [Kd.flat_of ha]; simp
        refine ⟨_, _, [b], _, ⟨_, len, cap, rfl, hfl, by omega, hl, .inr ⟨b, off, rfl, rfl, hbl, fun i u hu => ?_⟩⟩, ha, rfl⟩
        have hi : i < len * kd.K := by
          have := (List.getElem?_eq_some_iff.1 hu).1
          rwa [hfl] at this
        have hdm : i / kd.K * kd.K + i % kd.K = i := Nat.div_add_mod' i kd.K
        have hdl : i / kd.K < len := (Nat.div_lt_iff_lt_mul kd.pos).2 hi
        have hg := flat_get (Kd.lens ha) (i := i / kd.K) (j := i % kd.K) (u := (q (i / kd.K)).2.1) (by simp [hdl]) (Nat.mod_lt _ kd.pos)
        rw [hdm, hu] at hg
        have := (hq (i / kd.K) hdl).1 (i % kd.K) u hg.symm
        rw [hdm, Addr.add_lit] at this
        exact this
    · intro r hr
      obtain ⟨i, hi, rfl⟩ := List.mem_map.1 hr
      exact (hq i (List.mem_range.1 hi)).2.2
end

end Go.Proofs.YtldimfmhbdhbnaaGreat

/-
  Arguments that came in: slices of parts.
-/
namespace Go.Proofs.YtldimfmhbdhbnaaGreat
open Go.ChangeShapes Go.WideShapes Go.ChangeAt Go.RowKit

/-- All rows of parts are in the machine's numbers. -/
def WfT (l : List Pt) : Prop := ∀ p ∈ l, (Lit.int .i64 p.mark).wf = true ∧ ∀ r ∈ p.rows, WfR r

end Go.Proofs.YtldimfmhbdhbnaaGreat
