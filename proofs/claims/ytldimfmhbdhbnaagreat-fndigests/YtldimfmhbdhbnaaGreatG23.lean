/-
  A region that draws its order, walked in one order: operations that yield the same value in every world that meets S are taken as soon as they may come up; each of the others comes up alone.
-/
import Derived.Test.YtldimfmhbdhbnaaGreatG26
import Derived.OrdersHeld
import Derived.KernelRfl
import Derived.Deep.RegionHeld3
namespace Go.Proofs.YtldimfmhbdhbnaaGreat
open Go.RowKit

/-- The walk of a schedule: 'true': taken first; 'false': it comes up alone. -/
def wpSched (P : Program) (ops : Array Oper) (Q : Exit → Act → World → Prop) (S : World → Prop) : List (Oper × Bool) → Act → World → Prop
  | [], a, w => Q .normal a w
  | (o, true) :: rest, a, w => ∃ v, YieldsIf P ops S o v a ∧ wpSched P ops Q S rest (a.put o.dst v) w
  | (o, false) :: rest, a, w => if Region.wanted o (yielded ops a.tmps) then o.wp P a w (fun a' w' => S w' ∧ wpSched P ops Q S rest a' w') Q else wpSched P ops Q S rest (a.put o.dst undef) w

/-- The operations of a schedule. -/
def opsOf (ops : Array Oper) (sched : List (Nat × Bool)) : List (Oper × Bool) := sched.filterMap fun p => (ops[p.1]?).map fun o => (o, p.2)

/-- Whether a schedule may be walked: what is taken first may come up and is apart from all that could come before it; what comes up alone comes up alone; at the end nothing is left. -/
def okSched (md : Region.Mode) (ops : Array Oper) : Array Bool → List (Nat × Bool) → Bool
  | listed, [] => Region.ready md ops listed == []
  | listed, (i, true) :: rest => decide (i < ops.size) && Region.free md ops listed i && (Region.ready md ops listed).contains i && okSched md ops (listed.setIfInBounds i true) rest
  | listed, (i, false) :: rest => decide (i < ops.size) && (Region.ready md ops listed == [i]) && okSched md ops (listed.setIfInBounds i true) rest

theorem sched_sound {P : Program} {ops : Array Oper} {Q : Exit → Act → World → Prop} {S : World → Prop} {md : Region.Mode} (hs : Region.noSelect ops = true)
    (hQ : ∀ c a (d : Option Tmp) v w, Q (.panic c) (a.put d v) w → Q (.panic c) a w) :
    ∀ (sched : List (Nat × Bool)) (fuel : Nat) (listed : Array Bool) (a : Act) (w : World), okSched md ops listed sched = true → S w → sched.length ≤ fuel →
      wpSched P ops Q S (opsOf ops sched) a w → wpAnyH P md ops Q S fuel listed a w := by
  intro sched
  induction sched with
  | nil =>
    intro fuel listed a w hok _ _ h
    have hr : Region.ready md ops listed = [] := by simpa [okSched] using hok
    exact wpAnyH_done hr h fuel
  | cons p rest ih =>
    intro fuel listed a w hok hS hl h
    obtain ⟨i, b⟩ := p
    obtain ⟨fuel, rfl⟩ : ∃ n, fuel = n + 1 := ⟨fuel - 1, by simp at hl; omega⟩
    have hl' : rest.length ≤ fuel := by simpa using hl
    have hi : i < ops.size := by
      cases b <;> simp [okSched] at hok
      · exact hok.1.1
      · exact hok.1.1.1
    have hio : ops[i]? = some ops[i] := by simp [hi]
    have he : opsOf ops ((i, b) :: rest) = (ops[i], b) :: opsOf ops rest := by simp [opsOf, hio]
    rw [he] at h
    cases b
    · simp [okSched] at hok
      obtain ⟨⟨_, hr⟩, hok⟩ := hok
      refine wpAnyH_all hr (by simp) (fun j hj => ?_)
      simp at hj
      subst hj
      unfold wpOp
      rw [hio]
      unfold wpSched at h
      simp only
      split
      · rename_i hw
        rw [if_pos hw] at h
        exact .inl (Oper.wp_mono (fun a' w' h' => ⟨h'.1, ih fuel _ a' w' hok h'.1 hl' h'.2⟩) h)
      · rename_i hw
        rw [if_neg hw] at h
        exact ⟨hS, ih fuel _ _ _ hok hS hl' h⟩
    · simp [okSched] at hok
      obtain ⟨⟨⟨_, hf⟩, hr⟩, hok⟩ := hok
      obtain ⟨v, hy, h⟩ := h
      exact wpAnyH_take hio hs hf (by simpa using hr) (fun c a w => hQ c a _ v w) hy hS (ih fuel _ _ _ hok hS hl' h)

/-- The beginning. -/
theorem wp_region_sched {P : Program} {ops : Array Oper} {Q : Exit → Act → World → Prop} {id : Nat} {a : Act} {w : World} (S : World → Prop) (sched : List (Nat × Bool)) (hm : P.follows .mixedOrders = true)
    (hs : Region.noSelect ops = true) (hok : okSched .any ops (Array.replicate ops.size false) sched = true) (hl : decide (sched.length ≤ ops.size) = true)
    (hQ : ∀ c a (d : Option Tmp) v w, Q (.panic c) (a.put d v) w → Q (.panic c) a w) (hS : S { w with drawn := w.drawn + 1 })
    (h : wpSched P ops Q S (opsOf ops sched) a { w with drawn := w.drawn + 1 }) : (Code.region id ops true).wp P Q a w :=
  wp_region_held hm (sched_sound hs hQ sched _ _ a _ hok hS (of_decide_eq_true hl) h)

section
variable {P : Program} {ops : Array Oper} {Q : Exit → Act → World → Prop} {S : World → Prop} {o : Oper} {rest : List (Oper × Bool)} {a : Act} {w : World}
theorem sched_run {v : Value} (hw : Region.wanted o (yielded ops a.tmps) = true) (hr : ∀ w', S w' → (execOp a.eval o).run P w' = .ok (.value v) w') (h : wpSched P ops Q S rest (a.put o.dst v) w) :
    wpSched P ops Q S ((o, true) :: rest) a w := ⟨v, .inl ⟨hw, hr⟩, h⟩
theorem sched_skip (hw : Region.wanted o (yielded ops a.tmps) = false) (h : wpSched P ops Q S rest (a.put o.dst undef) w) : wpSched P ops Q S ((o, true) :: rest) a w := ⟨undef, .inr ⟨hw, rfl⟩, h⟩
theorem sched_skip' (hw : Region.wanted o (yielded ops a.tmps) = false) (h : wpSched P ops Q S rest (a.put o.dst undef) w) : wpSched P ops Q S ((o, false) :: rest) a w := by
  unfold wpSched; rw [if_neg (by simp [hw])]; exact h
theorem sched_call (hw : Region.wanted o (yielded ops a.tmps) = true) (h : ∀ K : Act → World → Prop, (∀ a' w', S w' → wpSched P ops Q S rest a' w' → K a' w') → o.wp P a w K Q) : wpSched P ops Q S ((o, false) :: rest) a w := by
  unfold wpSched; rw [if_pos hw]; exact h _ (fun _ _ h1 h2 => ⟨h1, h2⟩)
theorem sched_done (h : Q .normal a w) : wpSched P ops Q S [] a w := h
end
end Go.Proofs.YtldimfmhbdhbnaaGreat

/-
  A region that draws its order, walked in one order but for pairs of operations that may come up either way.
-/
namespace Go.Proofs.YtldimfmhbdhbnaaGreat
open Go.RowKit

/-- A step: taken first; it comes up alone; two come up, in either order. -/
inductive Stp where
  | run (i : Nat)
  | one (i : Nat)
  | two (i j : Nat)
/-- A step with its operations. -/
inductive StpO where
  | run (o : Oper)
  | one (o : Oper)
  | two (o p : Oper)
def stpOf (ops : Array Oper) : Stp → Option StpO
  | .run i => (ops[i]?).map .run
  | .one i => (ops[i]?).map .one
  | .two i j => (ops[i]?).bind fun o => (ops[j]?).map fun p => .two o p
def stpsOf (ops : Array Oper) (l : List Stp) : List StpO := l.filterMap (stpOf ops)
/-- The walk of a schedule. -/
def wpStps (P : Program) (ops : Array Oper) (Q : Exit → Act → World → Prop) (S : World → Prop) : List StpO → Act → World → Prop
  | [], a, w => Q .normal a w
  | .run o :: rest, a, w => ∃ v, YieldsIf P ops S o v a ∧ wpStps P ops Q S rest (a.put o.dst v) w
  | .one o :: rest, a, w => Region.wanted o (yielded ops a.tmps) = true ∧ o.wp P a w (fun a' w' => S w' ∧ wpStps P ops Q S rest a' w') Q
  | .two o p :: rest, a, w => Region.wanted o (yielded ops a.tmps) = true ∧ Region.wanted p (yielded ops a.tmps) = true ∧
      o.wp P a w (fun a' w' => S w' ∧ Region.wanted p (yielded ops a'.tmps) = true ∧ p.wp P a' w' (fun a'' w'' => S w'' ∧ wpStps P ops Q S rest a'' w'') Q) Q ∧
      p.wp P a w (fun a' w' => S w' ∧ Region.wanted o (yielded ops a'.tmps) = true ∧ o.wp P a' w' (fun a'' w'' => S w'' ∧ wpStps P ops Q S rest a'' w'') Q) Q
/-- Whether a schedule may be walked. -/
def okStps (md : Region.Mode) (ops : Array Oper) : Array Bool → List Stp → Bool
  | listed, [] => Region.ready md ops listed == []
  | listed, .run i :: rest => decide (i < ops.size) && Region.free md ops listed i && (Region.ready md ops listed).contains i && okStps md ops (listed.setIfInBounds i true) rest
  | listed, .one i :: rest => decide (i < ops.size) && (Region.ready md ops listed == [i]) && okStps md ops (listed.setIfInBounds i true) rest
  | listed, .two i j :: rest => decide (i < ops.size) && decide (j < ops.size) && (Region.ready md ops listed == [i, j]) && (Region.ready md ops (listed.setIfInBounds i true) == [j]) && (Region.ready md ops (listed.setIfInBounds j true) == [i]) &&
      okStps md ops ((listed.setIfInBounds i true).setIfInBounds j true) rest && okStps md ops ((listed.setIfInBounds j true).setIfInBounds i true) rest
def stpsLen : List Stp → Nat
  | [] => 0
  | .two _ _ :: rest => stpsLen rest + 2
  | _ :: rest => stpsLen rest + 1

theorem alone_sound {P : Program} {ops : Array Oper} {Q : Exit → Act → World → Prop} {S : World → Prop} {md : Region.Mode} {fuel : Nat} {listed : Array Bool} {a : Act} {w : World} {i : Nat} {o : Oper} (hio : ops[i]? = some o)
    (hr : Region.ready md ops listed = [i]) (hw : Region.wanted o (yielded ops a.tmps) = true) (h : o.wp P a w (fun a' w' => S w' ∧ wpAnyH P md ops Q S fuel (listed.setIfInBounds i true) a' w') Q) : wpAnyH P md ops Q S (fuel + 1) listed a w := by
  refine wpAnyH_all hr (by simp) (fun j hj => ?_)
  simp at hj
  subst hj
  unfold wpOp
  rw [hio]
  simp only
  rw [if_pos hw]
  exact .inl h
theorem stps_sound {P : Program} {ops : Array Oper} {Q : Exit → Act → World → Prop} {S : World → Prop} {md : Region.Mode} (hs : Region.noSelect ops = true)
    (hQ : ∀ c a (d : Option Tmp) v w, Q (.panic c) (a.put d v) w → Q (.panic c) a w) :
    ∀ (sched : List Stp) (fuel : Nat) (listed : Array Bool) (a : Act) (w : World), okStps md ops listed sched = true → S w → stpsLen sched ≤ fuel →
      wpStps P ops Q S (stpsOf ops sched) a w → wpAnyH P md ops Q S fuel listed a w := by
  intro sched
  induction sched with
  | nil =>
    intro fuel listed a w hok _ _ h
    have hr : Region.ready md ops listed = [] := by simpa [okStps] using hok
    exact wpAnyH_done hr h fuel
  | cons p rest ih =>
    intro fuel listed a w hok hS hl h
    cases p with
    | run i =>
      obtain ⟨fuel, rfl⟩ : ∃ n, fuel = n + 1 := ⟨fuel - 1, by simp [stpsLen] at hl; omega⟩
      simp [okStps] at hok
      obtain ⟨⟨⟨hi, hf⟩, hr⟩, hok⟩ := hok
      have hio : ops[i]? = some ops[i] := by simp [hi]
      have he : stpsOf ops (.run i :: rest) = .run ops[i] :: stpsOf ops rest := by simp [stpsOf, stpOf, hio]
      rw [he] at h
      obtain ⟨v, hy, h⟩ := h
      exact wpAnyH_take hio hs hf (by simpa using hr) (fun c a w => hQ c a _ v w) hy hS (ih fuel _ _ _ hok hS (by simp [stpsLen] at hl; omega) h)
    | one i =>
      obtain ⟨fuel, rfl⟩ : ∃ n, fuel = n + 1 := ⟨fuel - 1, by simp [stpsLen] at hl; omega⟩
      simp [okStps] at hok
      obtain ⟨⟨hi, hr⟩, hok⟩ := hok
      have hio : ops[i]? = some ops[i] := by simp [hi]
      have he : stpsOf ops (.one i :: rest) = .one ops[i] :: stpsOf ops rest := by simp [stpsOf, stpOf, hio]
      rw [he] at h
      obtain ⟨hw, h⟩ := h
      exact alone_sound hio hr hw (Oper.wp_mono (fun a' w' h' => ⟨h'.1, ih fuel _ a' w' hok h'.1 (by simp [stpsLen] at hl; omega) h'.2⟩) h)
    | two i j =>
      obtain ⟨fuel, rfl⟩ : ∃ n, fuel = n + 1 + 1 := ⟨fuel - 2, by simp [stpsLen] at hl; omega⟩
      simp [okStps] at hok
      obtain ⟨⟨⟨⟨⟨⟨hi, hj⟩, hr⟩, hri⟩, hrj⟩, hoki⟩, hokj⟩ := hok
      have hio : ops[i]? = some ops[i] := by simp [hi]
      have hjp : ops[j]? = some ops[j] := by simp [hj]
      have he : stpsOf ops (.two i j :: rest) = .two ops[i] ops[j] :: stpsOf ops rest := by simp [stpsOf, stpOf, hio, hjp]
      rw [he] at h
      obtain ⟨hwo, hwp, h1, h2⟩ := h
      have hl' : stpsLen rest ≤ fuel := by simp [stpsLen] at hl; omega
      refine wpAnyH_all hr (by simp) (fun x hx => ?_)
      simp at hx
      unfold wpOp
      rcases hx with rfl | rfl
      · rw [hio]
        simp only
        rw [if_pos hwo]
        exact .inl (Oper.wp_mono (fun a' w' h' => ⟨h'.1, alone_sound hjp hri h'.2.1 (Oper.wp_mono (fun a'' w'' h'' => ⟨h''.1, ih fuel _ a'' w'' hoki h''.1 hl' h''.2⟩) h'.2.2)⟩) h1)
      · rw [hjp]
        simp only
        rw [if_pos hwp]
        exact .inl (Oper.wp_mono (fun a' w' h' => ⟨h'.1, alone_sound hio hrj h'.2.1 (Oper.wp_mono (fun a'' w'' h'' => ⟨h''.1, ih fuel _ a'' w'' hokj h''.1 hl' h''.2⟩) h'.2.2)⟩) h2)
/-- The beginning. -/
theorem wp_region_stps {P : Program} {ops : Array Oper} {Q : Exit → Act → World → Prop} {id : Nat} {a : Act} {w : World} (S : World → Prop) (sched : List Stp) (hm : P.follows .mixedOrders = true)
    (hs : Region.noSelect ops = true) (hok : okStps .any ops (Array.replicate ops.size false) sched = true) (hl : decide (stpsLen sched ≤ ops.size) = true)
    (hQ : ∀ c a (d : Option Tmp) v w, Q (.panic c) (a.put d v) w → Q (.panic c) a w) (hS : S { w with drawn := w.drawn + 1 })
    (h : wpStps P ops Q S (stpsOf ops sched) a { w with drawn := w.drawn + 1 }) : (Code.region id ops true).wp P Q a w :=
  wp_region_held hm (stps_sound hs hQ sched _ _ a _ hok hS (of_decide_eq_true hl) h)
section
variable {P : Program} {ops : Array Oper} {Q : Exit → Act → World → Prop} {S : World → Prop} {o p : Oper} {rest : List StpO} {a : Act} {w : World}
theorem stp_run {v : Value} (hw : Region.wanted o (yielded ops a.tmps) = true) (hr : ∀ w', S w' → (execOp a.eval o).run P w' = .ok (.value v) w') (h : wpStps P ops Q S rest (a.put o.dst v) w) :
    wpStps P ops Q S (.run o :: rest) a w := ⟨v, .inl ⟨hw, hr⟩, h⟩
theorem stp_one (hw : Region.wanted o (yielded ops a.tmps) = true) (h : ∀ K : Act → World → Prop, (∀ a' w', S w' → wpStps P ops Q S rest a' w' → K a' w') → o.wp P a w K Q) : wpStps P ops Q S (.one o :: rest) a w :=
  ⟨hw, h _ (fun _ _ h1 h2 => ⟨h1, h2⟩)⟩
theorem stp_two (hwo : Region.wanted o (yielded ops a.tmps) = true) (hwp : Region.wanted p (yielded ops a.tmps) = true)
    (h1 : ∀ K : Act → World → Prop, (∀ a' w', S w' → Region.wanted p (yielded ops a'.tmps) = true → (∀ K' : Act → World → Prop, (∀ a'' w'', S w'' → wpStps P ops Q S rest a'' w'' → K' a'' w'') → p.wp P a' w' K' Q) → K a' w') → o.wp P a w K Q)
    (h2 : ∀ K : Act → World → Prop, (∀ a' w', S w' → Region.wanted o (yielded ops a'.tmps) = true → (∀ K' : Act → World → Prop, (∀ a'' w'', S w'' → wpStps P ops Q S rest a'' w'' → K' a'' w'') → o.wp P a' w' K' Q) → K a' w') → p.wp P a w K Q) :
    wpStps P ops Q S (.two o p :: rest) a w :=
  ⟨hwo, hwp, h1 _ (fun _ _ s1 s2 s3 => ⟨s1, s2, s3 _ (fun _ _ t1 t2 => ⟨t1, t2⟩)⟩), h2 _ (fun _ _ s1 s2 s3 => ⟨s1, s2, s3 _ (fun _ _ t1 t2 => ⟨t1, t2⟩)⟩)⟩
theorem stp_done (h : Q .normal a w) : wpStps P ops Q S [] a w := h
end
end Go.Proofs.YtldimfmhbdhbnaaGreat

/-
  A region that draws its order, walked as a tree: where two operations may come up, both ways are walked.
-/
namespace Go.Proofs.YtldimfmhbdhbnaaGreat
open Go.RowKit

inductive Sch where
  | done
  | run (i : Nat) (r : Sch)
  | one (i : Nat) (r : Sch)
  | fork (i j : Nat) (ri rj : Sch)
inductive SchO where
  | done
  | run (o : Oper) (r : SchO)
  | one (o : Oper) (r : SchO)
  | fork (o p : Oper) (ri rj : SchO)
def Sch.res (ops : Array Oper) : Sch → Option SchO
  | .done => some .done
  | .run i r => (ops[i]?).bind fun o => (r.res ops).map (.run o)
  | .one i r => (ops[i]?).bind fun o => (r.res ops).map (.one o)
  | .fork i j ri rj => (ops[i]?).bind fun o => (ops[j]?).bind fun p => (ri.res ops).bind fun x => (rj.res ops).map (.fork o p x)
def Sch.len : Sch → Nat
  | .done => 0
  | .run _ r => r.len + 1
  | .one _ r => r.len + 1
  | .fork _ _ ri rj => max ri.len rj.len + 1
def wpSch (P : Program) (ops : Array Oper) (Q : Exit → Act → World → Prop) (S : World → Prop) : SchO → Act → World → Prop
  | .done, a, w => Q .normal a w
  | .run o r, a, w => ∃ v, YieldsIf P ops S o v a ∧ wpSch P ops Q S r (a.put o.dst v) w
  | .one o r, a, w => Region.wanted o (yielded ops a.tmps) = true ∧ o.wp P a w (fun a' w' => S w' ∧ wpSch P ops Q S r a' w') Q
  | .fork o p ri rj, a, w => Region.wanted o (yielded ops a.tmps) = true ∧ Region.wanted p (yielded ops a.tmps) = true ∧
      o.wp P a w (fun a' w' => S w' ∧ wpSch P ops Q S ri a' w') Q ∧ p.wp P a w (fun a' w' => S w' ∧ wpSch P ops Q S rj a' w') Q
def Sch.ok (md : Region.Mode) (ops : Array Oper) : Array Bool → Sch → Bool
  | listed, .done => Region.ready md ops listed == []
  | listed, .run i r => decide (i < ops.size) && Region.free md ops listed i && (Region.ready md ops listed).contains i && Sch.ok md ops (listed.setIfInBounds i true) r
  | listed, .one i r => decide (i < ops.size) && (Region.ready md ops listed == [i]) && Sch.ok md ops (listed.setIfInBounds i true) r
  | listed, .fork i j ri rj => decide (i < ops.size) && decide (j < ops.size) && (Region.ready md ops listed == [i, j]) && Sch.ok md ops (listed.setIfInBounds i true) ri && Sch.ok md ops (listed.setIfInBounds j true) rj

theorem sch_sound {P : Program} {ops : Array Oper} {Q : Exit → Act → World → Prop} {S : World → Prop} {md : Region.Mode} (hs : Region.noSelect ops = true)
    (hQ : ∀ c a (d : Option Tmp) v w, Q (.panic c) (a.put d v) w → Q (.panic c) a w) :
    ∀ (s : Sch) (t : SchO) (fuel : Nat) (listed : Array Bool) (a : Act) (w : World), s.res ops = some t → Sch.ok md ops listed s = true → S w → s.len ≤ fuel →
      wpSch P ops Q S t a w → wpAnyH P md ops Q S fuel listed a w := by
  intro s
  induction s with
  | done =>
    intro t fuel listed a w ht hok _ _ h
    have hr : Region.ready md ops listed = [] := by simpa [Sch.ok] using hok
    simp [Sch.res] at ht
    subst ht
    exact wpAnyH_done hr h fuel
  | run i r ih =>
    intro t fuel listed a w ht hok hS hl h
    obtain ⟨fuel, rfl⟩ : ∃ n, fuel = n + 1 := ⟨fuel - 1, by simp [Sch.len] at hl; omega⟩
    simp [Sch.ok] at hok
    obtain ⟨⟨⟨hi, hf⟩, hr⟩, hok⟩ := hok
    have hio : ops[i]? = some ops[i] := by simp [hi]
    simp only [Sch.res, hio, Option.bind_some, Option.map_eq_some_iff] at ht
    obtain ⟨x, hx, rfl⟩ := ht
    obtain ⟨v, hy, h⟩ := h
    exact wpAnyH_take hio hs hf (by simpa using hr) (fun c a w => hQ c a _ v w) hy hS (ih x fuel _ _ _ hx hok hS (by simp [Sch.len] at hl; omega) h)
  | one i r ih =>
    intro t fuel listed a w ht hok hS hl h
    obtain ⟨fuel, rfl⟩ : ∃ n, fuel = n + 1 := ⟨fuel - 1, by simp [Sch.len] at hl; omega⟩
    simp [Sch.ok] at hok
    obtain ⟨⟨hi, hr⟩, hok⟩ := hok
    have hio : ops[i]? = some ops[i] := by simp [hi]
    simp only [Sch.res, hio, Option.bind_some, Option.map_eq_some_iff] at ht
    obtain ⟨x, hx, rfl⟩ := ht
    obtain ⟨hw, h⟩ := h
    exact alone_sound hio hr hw (Oper.wp_mono (fun a' w' h' => ⟨h'.1, ih x fuel _ a' w' hx hok h'.1 (by simp [Sch.len] at hl; omega) h'.2⟩) h)
  | fork i j ri rj ihi ihj =>
    intro t fuel listed a w ht hok hS hl h
    obtain ⟨fuel, rfl⟩ : ∃ n, fuel = n + 1 := ⟨fuel - 1, by simp [Sch.len] at hl; omega⟩
    simp [Sch.ok] at hok
    obtain ⟨⟨⟨⟨hi, hj⟩, hr⟩, hoki⟩, hokj⟩ := hok
    have hio : ops[i]? = some ops[i] := by simp [hi]
    have hjp : ops[j]? = some ops[j] := by simp [hj]
    simp only [Sch.res, hio, hjp, Option.bind_some, Option.map_eq_some_iff, Option.bind_eq_some_iff] at ht
    obtain ⟨x, hx, y, hy, rfl⟩ := ht
    obtain ⟨hwo, hwp, h1, h2⟩ := h
    refine wpAnyH_all hr (by simp) (fun z hz => ?_)
    simp at hz
    unfold wpOp
    rcases hz with rfl | rfl
    · rw [hio]
      simp only
      rw [if_pos hwo]
      exact .inl (Oper.wp_mono (fun a' w' h' => ⟨h'.1, ihi x fuel _ a' w' hx hoki h'.1 (by simp [Sch.len] at hl; omega) h'.2⟩) h1)
    · rw [hjp]
      simp only
      rw [if_pos hwp]
      exact .inl (Oper.wp_mono (fun a' w' h' => ⟨h'.1, ihj y fuel _ a' w' hy hokj h'.1 (by simp [Sch.len] at hl; omega) h'.2⟩) h2)
def wpSchR (P : Program) (ops : Array Oper) (Q : Exit → Act → World → Prop) (S : World → Prop) : Option SchO → Act → World → Prop
  | none, _, _ => False
  | some t, a, w => wpSch P ops Q S t a w
theorem wpSchR_some {P : Program} {ops : Array Oper} {Q : Exit → Act → World → Prop} {S : World → Prop} {t : SchO} {a : Act} {w : World} : wpSchR P ops Q S (some t) a w = wpSch P ops Q S t a w := rfl
/-- The beginning. -/
theorem wp_region_sch {P : Program} {ops : Array Oper} {Q : Exit → Act → World → Prop} {id : Nat} {a : Act} {w : World} (S : World → Prop) (s : Sch) (hm : P.follows .mixedOrders = true)
    (hs : Region.noSelect ops = true) (hok : Sch.ok .any ops (Array.replicate ops.size false) s = true) (hl : decide (s.len ≤ ops.size) = true)
    (hQ : ∀ c a (d : Option Tmp) v w, Q (.panic c) (a.put d v) w → Q (.panic c) a w) (hS : S { w with drawn := w.drawn + 1 })
    (h : wpSchR P ops Q S (s.res ops) a { w with drawn := w.drawn + 1 }) : (Code.region id ops true).wp P Q a w := by
  cases ht : s.res ops with
  | none => rw [ht] at h; exact h.elim
  | some t => rw [ht] at h; exact wp_region_held hm (sch_sound hs hQ s t _ _ a _ ht hok hS (of_decide_eq_true hl) h)
section
variable {P : Program} {ops : Array Oper} {Q : Exit → Act → World → Prop} {S : World → Prop} {o p : Oper} {r ri rj : SchO} {a : Act} {w : World}
theorem sch_run {v : Value} (hw : Region.wanted o (yielded ops a.tmps) = true) (hr : ∀ w', S w' → (execOp a.eval o).run P w' = .ok (.value v) w') (h : wpSch P ops Q S r (a.put o.dst v) w) :
    wpSch P ops Q S (.run o r) a w := ⟨v, .inl ⟨hw, hr⟩, h⟩
theorem sch_one (hw : Region.wanted o (yielded ops a.tmps) = true) (h : ∀ K : Act → World → Prop, (∀ a' w', S w' → wpSch P ops Q S r a' w' → K a' w') → o.wp P a w K Q) : wpSch P ops Q S (.one o r) a w :=
  ⟨hw, h _ (fun _ _ h1 h2 => ⟨h1, h2⟩)⟩
theorem sch_fork (hwo : Region.wanted o (yielded ops a.tmps) = true) (hwp : Region.wanted p (yielded ops a.tmps) = true)
    (h1 : ∀ K : Act → World → Prop, (∀ a' w', S w' → wpSch P ops Q S ri a' w' → K a' w') → o.wp P a w K Q) (h2 : ∀ K : Act → World → Prop, (∀ a' w', S w' → wpSch P ops Q S rj a' w' → K a' w') → p.wp P a w K Q) : wpSch P ops Q S (.fork o p ri rj) a w :=
  ⟨hwo, hwp, h1 _ (fun _ _ s1 s2 => ⟨s1, s2⟩), h2 _ (fun _ _ s1 s2 => ⟨s1, s2⟩)⟩
theorem sch_done (h : Q .normal a w) : wpSch P ops Q S .done a w := h
end
end Go.Proofs.YtldimfmhbdhbnaaGreat
