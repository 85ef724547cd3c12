/-
  A long region that does not draw its order, walked as a schedule: one operation at a time, in the text's order.
-/
import Derived.Test.YtocllaendofndaaDoorSched
namespace Go.Proofs.YtocllaendofndaaDoor
open Go.RowKit

theorem wp_value {P : Program} {Q : Exit → Act → World → Prop} {o : Oper} {a : Act} {w : World} {next : Act → World → Prop} {v : Value} (hr : (execOp a.eval o).run P w = .ok (.value v) w) (h : next (a.put o.dst v) w) : o.wp P a w next Q := by
  unfold Oper.wp
  rw [hr]
  exact h
theorem seq_sound {P : Program} {ops : Array Oper} {Q : Exit → Act → World → Prop} {S : World → Prop} :
    ∀ (l : List (Oper × Bool)) (a : Act) (w : World), S w → wpSched P ops Q S l a w → wpList P ops Q (l.map (·.1)) a w := by
  intro l
  induction l with
  | nil => intro a w _ h; exact h
  | cons p rest ih =>
    intro a w hS h
    obtain ⟨o, b⟩ := p
    show wpList P ops Q (o :: rest.map (·.1)) a w
    unfold wpList
    cases b
    · unfold wpSched at h
      by_cases hw : Region.wanted o (yielded ops a.tmps) = true
      · rw [if_pos hw] at h ⊢
        exact .inl (Oper.wp_mono (fun a' w' h' => ih a' w' h'.1 h'.2) h)
      · rw [if_neg hw] at h ⊢
        exact ih _ _ hS h
    · obtain ⟨v, hy, h⟩ := h
      rcases hy with ⟨hw, hr⟩ | ⟨hw, hv⟩
      · rw [if_pos hw]
        exact .inl (wp_value (hr w hS) (ih _ _ hS h))
      · rw [if_neg (by simp [hw])]
        subst hv
        exact ih _ _ hS h
theorem wp_region_seq {P : Program} {ops : Array Oper} {Q : Exit → Act → World → Prop} {id : Nat} {a : Act} {w : World} (S : World → Prop) (sched : List (Nat × Bool))
    (hm : (opsOf ops sched).map (·.1) = ops.toList) (hS : S w) (h : wpSched P ops Q S (opsOf ops sched) a w) : (Code.region id ops false).wp P Q a w :=
  wp_region_list (hm ▸ seq_sound _ a w hS h)
end Go.Proofs.YtocllaendofndaaDoor
