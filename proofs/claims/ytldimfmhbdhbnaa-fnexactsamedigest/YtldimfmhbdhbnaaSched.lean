/-
  A region that draws its order, walked in one order: operations that yield the same value in every world that meets S are taken as soon as they may come up; each of the others comes up alone.
-/
import Derived.Test.YtldimfmhbdhbnaaG26
import Derived.OrdersHeld
import Derived.KernelRfl
import Derived.Deep.RegionHeld3
namespace Go.Proofs.Ytldimfmhbdhbnaa
open Go.RowKit

/-- The walk of a schedule: 'true': taken first; 'false': it comes up alone. -/
def wpSched (P : Program) (ops : Array Oper) (Q : Exit → Act → World → Prop) (S : World → Prop) : List (Oper × Bool) → Act → World → Prop
  | [], a, w => Q .normal a w
  | (o, true) :: rest, a, w => ∃ v, YieldsIf P ops S o v a ∧ wpSched P ops Q S rest (a.put o.dst v) w
  | (o, false) :: rest, a, w => if Region.wanted o (yielded ops a.tmps) then o.wp P a w (fun a' w' => S w' ∧ wpSched P ops Q S rest a' w') Q else wpSched P ops Q S rest (a.put o.dst undef) w

/-- The operations of a schedule. -/
def opsOf (ops : Array Oper) (sched : List (Nat × Bool)) : List (Oper × Bool) := sched.filterMap fun p => (ops[p.1]?).map fun o => (o, p.2)

/-- Whether a schedule may be walked: what is taken first may come up and is apart from all that could come before it; what comes up alone comes up alone; at the end nothing is left. -/
def okSched (md : Region.Mode) (ops : Array Oper) : Array Bool → List (Nat × Bool) → Bool
  | listed, [] => Region.ready md ops listed == []
  | listed, (i, true) :: rest => decide (i < ops.size) && Region.free md ops listed i && (Region.ready md ops listed).contains i && okSched md ops (listed.setIfInBounds i true) rest
  | listed, (i, false) :: rest => decide (i < ops.size) && (Region.ready md ops listed == [i]) && okSched md ops (listed.setIfInBounds i true) rest

theorem sched_sound {P : Program} {ops : Array Oper} {Q : Exit → Act → World → Prop} {S : World → Prop} {md : Region.Mode} (hs : Region.noSelect ops = true)
    (hQ : ∀ c a (d : Option Tmp) v w, Q (.panic c) (a.put d v) w → Q (.panic c) a w) :
    ∀ (sched : List (Nat × Bool)) (fuel : Nat) (listed : Array Bool) (a : Act) (w : World), okSched md ops listed sched = true → S w → sched.length ≤ fuel →
      wpSched P ops Q S (opsOf ops sched) a w → wpAnyH P md ops Q S fuel listed a w := by
  intro sched
  induction sched with
  | nil =>
    intro fuel listed a w hok _ _ h
    have hr : Region.ready md ops listed = [] := by simpa [okSched] using hok
    exact wpAnyH_done hr h fuel
  | cons p rest ih =>
    intro fuel listed a w hok hS hl h
    obtain ⟨i, b⟩ := p
    obtain ⟨fuel, rfl⟩ : ∃ n, fuel = n + 1 := ⟨fuel - 1, by simp at hl; omega⟩
    have hl' : rest.length ≤ fuel := by simpa using hl
    have hi : i < ops.size := by
      cases b <;> simp [okSched] at hok
      · exact hok.1.1
      · exact hok.1.1.1
    have hio : ops[i]? = some ops[i] := by simp [hi]
    have he : opsOf ops ((i, b) :: rest) = (ops[i], b) :: opsOf ops rest := by simp [opsOf, hio]
    rw [he] at h
    cases b
    · simp [okSched] at hok
      obtain ⟨⟨_, hr⟩, hok⟩ := hok
      refine wpAnyH_all hr (by simp) (fun j hj => ?_)
      simp at hj
      subst hj
      unfold wpOp
      rw [hio]
      unfold wpSched at h
      simp only
      split
      · rename_i hw
        rw [if_pos hw] at h
        exact .inl (Oper.wp_mono (fun a' w' h' => ⟨h'.1, ih fuel _ a' w' hok h'.1 hl' h'.2⟩) h)
      · rename_i hw
        rw [if_neg hw] at h
        exact ⟨hS, ih fuel _ _ _ hok hS hl' h⟩
    · simp [okSched] at hok
      obtain ⟨⟨⟨_, hf⟩, hr⟩, hok⟩ := hok
      obtain ⟨v, hy, h⟩ := h
      exact wpAnyH_take hio hs hf (by simpa using hr) (fun c a w => hQ c a _ v w) hy hS (ih fuel _ _ _ hok hS hl' h)

/-- The beginning. -/
theorem wp_region_sched {P : Program} {ops : Array Oper} {Q : Exit → Act → World → Prop} {id : Nat} {a : Act} {w : World} (S : World → Prop) (sched : List (Nat × Bool)) (hm : P.follows .mixedOrders = true)
    (hs : Region.noSelect ops = true) (hok : okSched .any ops (Array.replicate ops.size false) sched = true) (hl : decide (sched.length ≤ ops.size) = true)
    (hQ : ∀ c a (d : Option Tmp) v w, Q (.panic c) (a.put d v) w → Q (.panic c) a w) (hS : S { w with drawn := w.drawn + 1 })
    (h : wpSched P ops Q S (opsOf ops sched) a { w with drawn := w.drawn + 1 }) : (Code.region id ops true).wp P Q a w :=
  wp_region_held hm (sched_sound hs hQ sched _ _ a _ hok hS (of_decide_eq_true hl) h)

section
variable {P : Program} {ops : Array Oper} {Q : Exit → Act → World → Prop} {S : World → Prop} {o : Oper} {rest : List (Oper × Bool)} {a : Act} {w : World}
theorem sched_run {v : Value} (hw : Region.wanted o (yielded ops a.tmps) = true) (hr : ∀ w', S w' → (execOp a.eval o).run P w' = .ok (.value v) w') (h : wpSched P ops Q S rest (a.put o.dst v) w) :
    wpSched P ops Q S ((o, true) :: rest) a w := ⟨v, .inl ⟨hw, hr⟩, h⟩
theorem sched_skip (hw : Region.wanted o (yielded ops a.tmps) = false) (h : wpSched P ops Q S rest (a.put o.dst undef) w) : wpSched P ops Q S ((o, true) :: rest) a w := ⟨undef, .inr ⟨hw, rfl⟩, h⟩
theorem sched_skip' (hw : Region.wanted o (yielded ops a.tmps) = false) (h : wpSched P ops Q S rest (a.put o.dst undef) w) : wpSched P ops Q S ((o, false) :: rest) a w := by
  unfold wpSched; rw [if_neg (by simp [hw])]; exact h
theorem sched_call (hw : Region.wanted o (yielded ops a.tmps) = true) (h : ∀ K : Act → World → Prop, (∀ a' w', S w' → wpSched P ops Q S rest a' w' → K a' w') → o.wp P a w K Q) : wpSched P ops Q S ((o, false) :: rest) a w := by
  unfold wpSched; rw [if_pos hw]; exact h _ (fun _ _ h1 h2 => ⟨h1, h2⟩)
theorem sched_done (h : Q .normal a w) : wpSched P ops Q S [] a w := h
end
end Go.Proofs.Ytldimfmhbdhbnaa
