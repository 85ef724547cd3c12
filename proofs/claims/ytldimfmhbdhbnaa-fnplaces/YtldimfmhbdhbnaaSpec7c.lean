/-
  The model's functions of chapter 7, third part: rows laid into parts. By a maker (gen7c.py).
-/
import Derived.Test.YtldimfmhbdhbnaaSpec7a
import Derived.Test.YtldimfmhbdhbnaaSpec6e
import Derived.Test.YtldimfmhbdhbnaaG23
import Derived.Test.YtldimfmhbdhbnaaG27
namespace Go.Proofs.Ytldimfmhbdhbnaa
open Go.RowKit

theorem psres_none {w w' : World} {code : Int} (hb : Below w.heap.size w w') : PsResPost w code [] (.returned (psv code (.slice none 0 0))) w' := ⟨_, [], rfl, Sl.nil w', NF.nil _, ⟨From.nil _, by simp⟩, hb⟩
/-- The blocks of the answer: two stores into block g. -/
theorem psres_stored {w w1 : World} {g : Nat} {code : Int} {l : List Pt} {v : Value} {fp : List Nat} (hb : Below w.heap.size w w1) (hg : w.heap.size ≤ g) (hr : RdP w1 v l fp) (hn : NF w1 fp) (hf : From (g + 1) fp) (hd : fp.Nodup) :
    PsResPost w code l (.returned (psv code v)) ((w1.setCell ⟨g, 0, none⟩ (.int .i64 code)).setCell ⟨g, 1, none⟩ v) := by
  have hbut := But.two w1 g 0 1 (.int .i64 code) v
  have hx : ∀ b ∈ fp, b ∉ [g] := fun b hm h => by have := hf b hm; simp at h; omega
  exact ⟨_, fp, rfl, hr.but hbut hx, hn.but hbut hr.lt hx, ⟨hf.mono (by omega), hd⟩, hb.trans (hbut.below hb.size (by intro b hb; simp at hb; omega))⟩
/-- Slices and a mark each, in turn. -/
def ilv (vs : List Value) (m : Int) : List Value := (vs.map fun v => [v, Value.int .i64 m]).flatten
theorem ilv_len (vs : List Value) (m : Int) : ∀ u ∈ vs.map fun v => [v, Value.int .i64 m], u.length = 2 := by
  intro u hu
  obtain ⟨v, _, rfl⟩ := List.mem_map.1 hu
  rfl
theorem ilv_get {vs : List Value} {m : Int} {j : Nat} {v : Value} (h : vs[j]? = some v) : (ilv vs m)[j * 2]? = some v ∧ (ilv vs m)[j * 2 + 1]? = some (.int .i64 m) := by
  have hj : (vs.map fun v => [v, Value.int .i64 m])[j]? = some [v, .int .i64 m] := by rw [List.getElem?_map, h]; rfl
  exact ⟨by have := flat_get (ilv_len vs m) hj (show 0 < 2 by omega); exact this, by have := flat_get (ilv_len vs m) hj (show 1 < 2 by omega); exact this⟩
theorem ilv_set {vs : List Value} {m : Int} {j : Nat} (h : j < vs.length) (v : Value) : (ilv vs m).set (j * 2) v = ilv (vs.set j v) m := by
  induction vs generalizing j with
  | nil => simp at h
  | cons a t ih =>
    match j, h with
    | 0, _ => rfl
    | j + 1, h =>
      have e : (j + 1) * 2 = j * 2 + 2 := by omega
      have := ih (j := j) (by simpa using h)
      unfold ilv at this ⊢
      rw [e]
      simp only [List.map_cons, List.flatten_cons, List.cons_append, List.nil_append, List.set_cons_succ, List.set_cons_succ]
      rw [this]
/-- Three parts with no rows, the first k bearing the mark. -/
def mkd (m : Int) (k : Nat) : Array Value := #[.slice none 0 0, .int .i64 (if 0 < k then m else 0), .slice none 0 0, .int .i64 (if 1 < k then m else 0), .slice none 0 0, .int .i64 (if 2 < k then m else 0)]
theorem mkd_zero (m : Int) : madeCells #[.slice none 0 0, .int .i64 0] (3 * 2) = mkd m 0 := by
  rw [madePairs]; rfl
theorem mkd_step (m : Int) (k : Nat) (h : k < 3) : (mkd m k)[k * 2 + 1]? = some (.int .i64 0) ∧ (mkd m k).setIfInBounds (k * 2 + 1) (.int .i64 m) = mkd m (k + 1) := by
  match k, h with
  | 0, _ => exact ⟨rfl, rfl⟩
  | 1, _ => exact ⟨rfl, rfl⟩
  | 2, _ => exact ⟨rfl, rfl⟩
/-- The rows of each part. -/
def laidP (s : List R) : List (List R) := (List.range 3).map fun (i : Nat) => s.filter fun r => decide (rpart r = (i : Int))
theorem laidP_len (s : List R) : (laidP s).length = 3 := by simp [laidP]
theorem laidP_get (s : List R) (i : Nat) (h : i < (laidP s).length) : (laidP s)[i] = s.filter fun r => decide (rpart r = (i : Int)) := by simp [laidP]
theorem laidP_solid (rs : List R) : laidP (solidL rs) = (partsOf rs 0).map Pt.rows := by
  unfold laidP partsOf solidL
  rw [List.map_map]
  refine List.map_congr_left fun i _ => ?_
  rw [List.filter_filter]
  rfl
theorem laidP_step (s : List R) (k : Nat) (h : k < s.length) (j : Nat) (hj : j < (laidP (s.take k)).length) (e : rpart s[k] = (j : Int)) : laidP (s.take (k + 1)) = (laidP (s.take k)).set j ((laidP (s.take k))[j] ++ [s[k]]) := by
  apply List.ext_getElem
  · simp [laidP]
  · intro i h1 h2
    rw [laidP_get]
    rw [List.take_succ_eq_append_getElem h, List.filter_append]
    by_cases hij : j = i
    · subst hij
      rw [List.getElem_set_self, laidP_get]
      simp [e]
    · rw [List.getElem_set_ne hij, laidP_get]
      have : decide (rpart s[k] = (i : Int)) = false := by rw [e]; simp; omega
      simp [this]
/-- Slices of rows with a mark each are parts. -/
theorem ilv_parts {w : World} {g B : Nat} {vs : List Value} {m : Int} {ls : List (List R)} {t tr : TypeId} (hg : w.heap[g]? = some (.cells (ilv vs m).toArray t (0, 0))) (ho : OwnF w B vs ls tr) (hgB : g < B) (hmx : ls.length ≤ maxLen) :
    ∃ fp, RdP w (.slice (some ⟨g, 0, none⟩) (ls.map fun rs => (⟨rs, m⟩ : Pt)).length ls.length) (ls.map fun rs => (⟨rs, m⟩ : Pt)) fp ∧ NF w fp ∧ From g fp ∧ fp.Nodup := by
  obtain ⟨fs, ha3, hn3, hf3, hd3⟩ := ho.reads
  have hall : All3 (partK.P w) (ls.map fun rs => (⟨rs, m⟩ : Pt)) (vs.map fun v => [v, Value.int .i64 m]) fs := by
    have go : ∀ (ls : List (List R)) (vs : List Value) (fs : List (List Nat)), All3 (rowsK.P w) ls (vs.map fun v => [v]) fs → All3 (partK.P w) (ls.map fun rs => (⟨rs, m⟩ : Pt)) (vs.map fun v => [v, Value.int .i64 m]) fs := by
      intro ls
      induction ls with
      | nil =>
        intro vs fs h
        match vs, fs, h with
        | [], [], _ => trivial
      | cons a l ih =>
        intro vs fs h
        match vs, fs, h with
        | v :: vs, f :: fs, h =>
          obtain ⟨⟨v', e, hr⟩, h2⟩ := h
          injection e with e _
          subst e
          exact ⟨⟨_, rfl, hr⟩, ih vs fs h2⟩
    exact go _ _ _ ha3
  have hfl := Kd.flat_of hall
  simp only [List.length_map] at hfl
  have hr0 : Rd w 2 (.slice (some ⟨g, 0, none⟩) (ls.map fun rs => (⟨rs, m⟩ : Pt)).length ls.length) (vs.map fun v => [v, Value.int .i64 m]).flatten [g] ∨ ls = [] := by
    by_cases h0 : ls = []
    · exact .inr h0
    · refine .inl ⟨_, _, _, rfl, by rw [List.length_map]; exact hfl, by rw [List.length_map]; exact hmx, by simp, .inr ⟨g, 0, rfl, rfl, heap_lt hg, fun i u hu => ?_⟩⟩
      rw [Nat.zero_add, cell_of_heap hg, List.getElem?_toArray]
      exact hu
  rcases hr0 with hr0 | h0
  · refine ⟨[g] ++ fs.flatten, ⟨_, _, fs, hr0, hall, rfl⟩, fun x hx i => ?_, fun x hx => ?_, List.nodup_append.2 ⟨by simp, hd3, fun a ha b hb => ?_⟩⟩
    · rcases List.mem_append.1 hx with hx | hx
      · simp at hx; subst hx; exact frozen_of_heap hg
      · exact hn3 x hx i
    · rcases List.mem_append.1 hx with hx | hx
      · simp at hx; omega
      · have := hf3 x hx; omega
    · have := hf3 b hb; simp at ha; omega
  · subst h0
    match vs, fs, hall with
    | [], [], _ => exact ⟨[], ⟨[], [], [], ⟨_, 0, 0, rfl, rfl, by unfold maxLen; omega, by omega, .inl ⟨rfl, rfl⟩⟩, trivial, rfl⟩, NF.nil _, From.nil _, by simp⟩

/-- What l7From makes: three parts that are the call's own. -/
def FromPost (w : World) (rs : List R) (m : Int) (e : Ending) (w' : World) : Prop :=
  ∃ (g B : Nat) (vs : List Value), e = .returned (.slice (some ⟨g, 0, none⟩) 3 3) ∧ w'.heap[g]? = some (.cells (ilv vs m).toArray 116 (0, 0)) ∧ OwnF w' B vs (laidP (solidL rs)) 34 ∧ w.heap.size ≤ g ∧ g < B ∧ Below w.heap.size w w'
theorem laidP_parts (rs : List R) (m : Int) : (laidP (solidL rs)).map (fun rs => (⟨rs, m⟩ : Pt)) = partsOf rs m := by
  rw [laidP_solid]
  unfold partsOf
  rw [List.map_map, List.map_map]
  rfl
theorem FromPost.copy {w w' : World} {rs : List R} {m : Int} {e : Ending} (h : FromPost w rs m e w') : CopySl partK w (partsOf rs m) e w' := by
  obtain ⟨g, B, vs, rfl, HG, ho, hg, hgB, hb⟩ := h
  obtain ⟨fp, k1, k2, k3, k4⟩ := ilv_parts HG ho hgB (by rw [laidP_len]; unfold maxLen; omega)
  rw [laidP_parts] at k1
  have e3 : (partsOf rs m).length = 3 := partsOf_len rs m
  exact ⟨some ⟨g, 0, none⟩, 3, fp, by rw [e3], by rw [laidP_len] at k1; exact k1, k2, k3.mono hg, k4, hb⟩

end Go.Proofs.Ytldimfmhbdhbnaa
