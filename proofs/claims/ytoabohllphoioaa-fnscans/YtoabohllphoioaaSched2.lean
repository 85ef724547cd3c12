/-
  A region that draws its order, walked in one order but for pairs of operations that may come up either way.
-/
import Derived.Test.YtoabohllphoioaaSched
namespace Go.Proofs.Ytoabohllphoioaa
open Go.RowKit

/-- A step: taken first; it comes up alone; two come up, in either order. -/
inductive Stp where
  | run (i : Nat)
  | one (i : Nat)
  | two (i j : Nat)
/-- A step with its operations. -/
inductive StpO where
  | run (o : Oper)
  | one (o : Oper)
  | two (o p : Oper)
def stpOf (ops : Array Oper) : Stp → Option StpO
  | .run i => (ops[i]?).map .run
  | .one i => (ops[i]?).map .one
  | .two i j => (ops[i]?).bind fun o => (ops[j]?).map fun p => .two o p
def stpsOf (ops : Array Oper) (l : List Stp) : List StpO := l.filterMap (stpOf ops)
/-- The walk of a schedule. -/
def wpStps (P : Program) (ops : Array Oper) (Q : Exit → Act → World → Prop) (S : World → Prop) : List StpO → Act → World → Prop
  | [], a, w => Q .normal a w
  | .run o :: rest, a, w => ∃ v, YieldsIf P ops S o v a ∧ wpStps P ops Q S rest (a.put o.dst v) w
  | .one o :: rest, a, w => Region.wanted o (yielded ops a.tmps) = true ∧ o.wp P a w (fun a' w' => S w' ∧ wpStps P ops Q S rest a' w') Q
  | .two o p :: rest, a, w => Region.wanted o (yielded ops a.tmps) = true ∧ Region.wanted p (yielded ops a.tmps) = true ∧
      o.wp P a w (fun a' w' => S w' ∧ Region.wanted p (yielded ops a'.tmps) = true ∧ p.wp P a' w' (fun a'' w'' => S w'' ∧ wpStps P ops Q S rest a'' w'') Q) Q ∧
      p.wp P a w (fun a' w' => S w' ∧ Region.wanted o (yielded ops a'.tmps) = true ∧ o.wp P a' w' (fun a'' w'' => S w'' ∧ wpStps P ops Q S rest a'' w'') Q) Q
/-- Whether a schedule may be walked. -/
def okStps (md : Region.Mode) (ops : Array Oper) : Array Bool → List Stp → Bool
  | listed, [] => Region.ready md ops listed == []
  | listed, .run i :: rest => decide (i < ops.size) && Region.free md ops listed i && (Region.ready md ops listed).contains i && okStps md ops (listed.setIfInBounds i true) rest
  | listed, .one i :: rest => decide (i < ops.size) && (Region.ready md ops listed == [i]) && okStps md ops (listed.setIfInBounds i true) rest
  | listed, .two i j :: rest => decide (i < ops.size) && decide (j < ops.size) && (Region.ready md ops listed == [i, j]) && (Region.ready md ops (listed.setIfInBounds i true) == [j]) && (Region.ready md ops (listed.setIfInBounds j true) == [i]) &&
      okStps md ops ((listed.setIfInBounds i true).setIfInBounds j true) rest && okStps md ops ((listed.setIfInBounds j true).setIfInBounds i true) rest
def stpsLen : List Stp → Nat
  | [] => 0
  | .two _ _ :: rest => stpsLen rest + 2
  | _ :: rest => stpsLen rest + 1

theorem alone_sound {P : Program} {ops : Array Oper} {Q : Exit → Act → World → Prop} {S : World → Prop} {md : Region.Mode} {fuel : Nat} {listed : Array Bool} {a : Act} {w : World} {i : Nat} {o : Oper} (hio : ops[i]? = some o)
    (hr : Region.ready md ops listed = [i]) (hw : Region.wanted o (yielded ops a.tmps) = true) (h : o.wp P a w (fun a' w' => S w' ∧ wpAnyH P md ops Q S fuel (listed.setIfInBounds i true) a' w') Q) : wpAnyH P md ops Q S (fuel + 1) listed a w := by
  refine wpAnyH_all hr (by simp) (fun j hj => ?_)
  simp at hj
  subst hj
  unfold wpOp
  rw [hio]
  simp only
  rw [if_pos hw]
  exact .inl h
theorem stps_sound {P : Program} {ops : Array Oper} {Q : Exit → Act → World → Prop} {S : World → Prop} {md : Region.Mode} (hs : Region.noSelect ops = true)
    (hQ : ∀ c a (d : Option Tmp) v w, Q (.panic c) (a.put d v) w → Q (.panic c) a w) :
    ∀ (sched : List Stp) (fuel : Nat) (listed : Array Bool) (a : Act) (w : World), okStps md ops listed sched = true → S w → stpsLen sched ≤ fuel →
      wpStps P ops Q S (stpsOf ops sched) a w → wpAnyH P md ops Q S fuel listed a w := by
  intro sched
  induction sched with
  | nil =>
    intro fuel listed a w hok _ _ h
    have hr : Region.ready md ops listed = [] := by simpa [okStps] using hok
    exact wpAnyH_done hr h fuel
  | cons p rest ih =>
    intro fuel listed a w hok hS hl h
    cases p with
    | run i =>
      obtain ⟨fuel, rfl⟩ : ∃ n, fuel = n + 1 := ⟨fuel - 1, by simp [stpsLen] at hl; omega⟩
      simp [okStps] at hok
      obtain ⟨⟨⟨hi, hf⟩, hr⟩, hok⟩ := hok
      have hio : ops[i]? = some ops[i] := by simp [hi]
      have he : stpsOf ops (.run i :: rest) = .run ops[i] :: stpsOf ops rest := by simp [stpsOf, stpOf, hio]
      rw [he] at h
      obtain ⟨v, hy, h⟩ := h
      exact wpAnyH_take hio hs hf (by simpa using hr) (fun c a w => hQ c a _ v w) hy hS (ih fuel _ _ _ hok hS (by simp [stpsLen] at hl; omega) h)
    | one i =>
      obtain ⟨fuel, rfl⟩ : ∃ n, fuel = n + 1 := ⟨fuel - 1, by simp [stpsLen] at hl; omega⟩
      simp [okStps] at hok
      obtain ⟨⟨hi, hr⟩, hok⟩ := hok
      have hio : ops[i]? = some ops[i] := by simp [hi]
      have he : stpsOf ops (.one i :: rest) = .one ops[i] :: stpsOf ops rest := by simp [stpsOf, stpOf, hio]
      rw [he] at h
      obtain ⟨hw, h⟩ := h
      exact alone_sound hio hr hw (Oper.wp_mono (fun a' w' h' => ⟨h'.1, ih fuel _ a' w' hok h'.1 (by simp [stpsLen] at hl; omega) h'.2⟩) h)
    | two i j =>
      obtain ⟨fuel, rfl⟩ : ∃ n, fuel = n + 1 + 1 := ⟨fuel - 2, by simp [stpsLen] at hl; omega⟩
      simp [okStps] at hok
      obtain ⟨⟨⟨⟨⟨⟨hi, hj⟩, hr⟩, hri⟩, hrj⟩, hoki⟩, hokj⟩ := hok
      have hio : ops[i]? = some ops[i] := by simp [hi]
      have hjp : ops[j]? = some ops[j] := by simp [hj]
      have he : stpsOf ops (.two i j :: rest) = .two ops[i] ops[j] :: stpsOf ops rest := by simp [stpsOf, stpOf, hio, hjp]
      rw [he] at h
      obtain ⟨hwo, hwp, h1, h2⟩ := h
      have hl' : stpsLen rest ≤ fuel := by simp [stpsLen] at hl; omega
      refine wpAnyH_all hr (by simp) (fun x hx => ?_)
      simp at hx
      unfold wpOp
      rcases hx with rfl | rfl
      · rw [hio]
        simp only
        rw [if_pos hwo]
        exact .inl (Oper.wp_mono (fun a' w' h' => ⟨h'.1, alone_sound hjp hri h'.2.1 (Oper.wp_mono (fun a'' w'' h'' => ⟨h''.1, ih fuel _ a'' w'' hoki h''.1 hl' h''.2⟩) h'.2.2)⟩) h1)
      · rw [hjp]
        simp only
        rw [if_pos hwp]
        exact .inl (Oper.wp_mono (fun a' w' h' => ⟨h'.1, alone_sound hio hrj h'.2.1 (Oper.wp_mono (fun a'' w'' h'' => ⟨h''.1, ih fuel _ a'' w'' hokj h''.1 hl' h''.2⟩) h'.2.2)⟩) h2)
/-- The beginning. -/
theorem wp_region_stps {P : Program} {ops : Array Oper} {Q : Exit → Act → World → Prop} {id : Nat} {a : Act} {w : World} (S : World → Prop) (sched : List Stp) (hm : P.follows .mixedOrders = true)
    (hs : Region.noSelect ops = true) (hok : okStps .any ops (Array.replicate ops.size false) sched = true) (hl : decide (stpsLen sched ≤ ops.size) = true)
    (hQ : ∀ c a (d : Option Tmp) v w, Q (.panic c) (a.put d v) w → Q (.panic c) a w) (hS : S { w with drawn := w.drawn + 1 })
    (h : wpStps P ops Q S (stpsOf ops sched) a { w with drawn := w.drawn + 1 }) : (Code.region id ops true).wp P Q a w :=
  wp_region_held hm (stps_sound hs hQ sched _ _ a _ hok hS (of_decide_eq_true hl) h)
section
variable {P : Program} {ops : Array Oper} {Q : Exit → Act → World → Prop} {S : World → Prop} {o p : Oper} {rest : List StpO} {a : Act} {w : World}
theorem stp_run {v : Value} (hw : Region.wanted o (yielded ops a.tmps) = true) (hr : ∀ w', S w' → (execOp a.eval o).run P w' = .ok (.value v) w') (h : wpStps P ops Q S rest (a.put o.dst v) w) :
    wpStps P ops Q S (.run o :: rest) a w := ⟨v, .inl ⟨hw, hr⟩, h⟩
theorem stp_one (hw : Region.wanted o (yielded ops a.tmps) = true) (h : ∀ K : Act → World → Prop, (∀ a' w', S w' → wpStps P ops Q S rest a' w' → K a' w') → o.wp P a w K Q) : wpStps P ops Q S (.one o :: rest) a w :=
  ⟨hw, h _ (fun _ _ h1 h2 => ⟨h1, h2⟩)⟩
theorem stp_two (hwo : Region.wanted o (yielded ops a.tmps) = true) (hwp : Region.wanted p (yielded ops a.tmps) = true)
    (h1 : ∀ K : Act → World → Prop, (∀ a' w', S w' → Region.wanted p (yielded ops a'.tmps) = true → (∀ K' : Act → World → Prop, (∀ a'' w'', S w'' → wpStps P ops Q S rest a'' w'' → K' a'' w'') → p.wp P a' w' K' Q) → K a' w') → o.wp P a w K Q)
    (h2 : ∀ K : Act → World → Prop, (∀ a' w', S w' → Region.wanted o (yielded ops a'.tmps) = true → (∀ K' : Act → World → Prop, (∀ a'' w'', S w'' → wpStps P ops Q S rest a'' w'' → K' a'' w'') → o.wp P a' w' K' Q) → K a' w') → p.wp P a w K Q) :
    wpStps P ops Q S (.two o p :: rest) a w :=
  ⟨hwo, hwp, h1 _ (fun _ _ s1 s2 s3 => ⟨s1, s2, s3 _ (fun _ _ t1 t2 => ⟨t1, t2⟩)⟩), h2 _ (fun _ _ s1 s2 s3 => ⟨s1, s2, s3 _ (fun _ _ t1 t2 => ⟨t1, t2⟩)⟩)⟩
theorem stp_done (h : Q .normal a w) : wpStps P ops Q S [] a w := h
end
end Go.Proofs.Ytoabohllphoioaa
