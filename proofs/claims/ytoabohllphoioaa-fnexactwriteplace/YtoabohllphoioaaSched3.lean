/-
  A region that draws its order, walked as a tree: where two operations may come up, both ways are walked.
-/
import Derived.Test.YtoabohllphoioaaSched2
namespace Go.Proofs.Ytoabohllphoioaa
open Go.RowKit

inductive Sch where
  | done
  | run (i : Nat) (r : Sch)
  | one (i : Nat) (r : Sch)
  | fork (i j : Nat) (ri rj : Sch)
inductive SchO where
  | done
  | run (o : Oper) (r : SchO)
  | one (o : Oper) (r : SchO)
  | fork (o p : Oper) (ri rj : SchO)
def Sch.res (ops : Array Oper) : Sch → Option SchO
  | .done => some .done
  | .run i r => (ops[i]?).bind fun o => (r.res ops).map (.run o)
  | .one i r => (ops[i]?).bind fun o => (r.res ops).map (.one o)
  | .fork i j ri rj => (ops[i]?).bind fun o => (ops[j]?).bind fun p => (ri.res ops).bind fun x => (rj.res ops).map (.fork o p x)
def Sch.len : Sch → Nat
  | .done => 0
  | .run _ r => r.len + 1
  | .one _ r => r.len + 1
  | .fork _ _ ri rj => max ri.len rj.len + 1
def wpSch (P : Program) (ops : Array Oper) (Q : Exit → Act → World → Prop) (S : World → Prop) : SchO → Act → World → Prop
  | .done, a, w => Q .normal a w
  | .run o r, a, w => ∃ v, YieldsIf P ops S o v a ∧ wpSch P ops Q S r (a.put o.dst v) w
  | .one o r, a, w => Region.wanted o (yielded ops a.tmps) = true ∧ o.wp P a w (fun a' w' => S w' ∧ wpSch P ops Q S r a' w') Q
  | .fork o p ri rj, a, w => Region.wanted o (yielded ops a.tmps) = true ∧ Region.wanted p (yielded ops a.tmps) = true ∧
      o.wp P a w (fun a' w' => S w' ∧ wpSch P ops Q S ri a' w') Q ∧ p.wp P a w (fun a' w' => S w' ∧ wpSch P ops Q S rj a' w') Q
def Sch.ok (md : Region.Mode) (ops : Array Oper) : Array Bool → Sch → Bool
  | listed, .done => Region.ready md ops listed == []
  | listed, .run i r => decide (i < ops.size) && Region.free md ops listed i && (Region.ready md ops listed).contains i && Sch.ok md ops (listed.setIfInBounds i true) r
  | listed, .one i r => decide (i < ops.size) && (Region.ready md ops listed == [i]) && Sch.ok md ops (listed.setIfInBounds i true) r
  | listed, .fork i j ri rj => decide (i < ops.size) && decide (j < ops.size) && (Region.ready md ops listed == [i, j]) && Sch.ok md ops (listed.setIfInBounds i true) ri && Sch.ok md ops (listed.setIfInBounds j true) rj

theorem sch_sound {P : Program} {ops : Array Oper} {Q : Exit → Act → World → Prop} {S : World → Prop} {md : Region.Mode} (hs : Region.noSelect ops = true)
    (hQ : ∀ c a (d : Option Tmp) v w, Q (.panic c) (a.put d v) w → Q (.panic c) a w) :
    ∀ (s : Sch) (t : SchO) (fuel : Nat) (listed : Array Bool) (a : Act) (w : World), s.res ops = some t → Sch.ok md ops listed s = true → S w → s.len ≤ fuel →
      wpSch P ops Q S t a w → wpAnyH P md ops Q S fuel listed a w := by
  intro s
  induction s with
  | done =>
    intro t fuel listed a w ht hok _ _ h
    have hr : Region.ready md ops listed = [] := by simpa [Sch.ok] using hok
    simp [Sch.res] at ht
    subst ht
    exact wpAnyH_done hr h fuel
  | run i r ih =>
    intro t fuel listed a w ht hok hS hl h
    obtain ⟨fuel, rfl⟩ : ∃ n, fuel = n + 1 := ⟨fuel - 1, by simp [Sch.len] at hl; omega⟩
    simp [Sch.ok] at hok
    obtain ⟨⟨⟨hi, hf⟩, hr⟩, hok⟩ := hok
    have hio : ops[i]? = some ops[i] := by simp [hi]
    simp only [Sch.res, hio, Option.bind_some, Option.map_eq_some_iff] at ht
    obtain ⟨x, hx, rfl⟩ := ht
    obtain ⟨v, hy, h⟩ := h
    exact wpAnyH_take hio hs hf (by simpa using hr) (fun c a w => hQ c a _ v w) hy hS (ih x fuel _ _ _ hx hok hS (by simp [Sch.len] at hl; omega) h)
  | one i r ih =>
    intro t fuel listed a w ht hok hS hl h
    obtain ⟨fuel, rfl⟩ : ∃ n, fuel = n + 1 := ⟨fuel - 1, by simp [Sch.len] at hl; omega⟩
    simp [Sch.ok] at hok
    obtain ⟨⟨hi, hr⟩, hok⟩ := hok
    have hio : ops[i]? = some ops[i] := by simp [hi]
    simp only [Sch.res, hio, Option.bind_some, Option.map_eq_some_iff] at ht
    obtain ⟨x, hx, rfl⟩ := ht
    obtain ⟨hw, h⟩ := h
    exact alone_sound hio hr hw (Oper.wp_mono (fun a' w' h' => ⟨h'.1, ih x fuel _ a' w' hx hok h'.1 (by simp [Sch.len] at hl; omega) h'.2⟩) h)
  | fork i j ri rj ihi ihj =>
    intro t fuel listed a w ht hok hS hl h
    obtain ⟨fuel, rfl⟩ : ∃ n, fuel = n + 1 := ⟨fuel - 1, by simp [Sch.len] at hl; omega⟩
    simp [Sch.ok] at hok
    obtain ⟨⟨⟨⟨hi, hj⟩, hr⟩, hoki⟩, hokj⟩ := hok
    have hio : ops[i]? = some ops[i] := by simp [hi]
    have hjp : ops[j]? = some ops[j] := by simp [hj]
    simp only [Sch.res, hio, hjp, Option.bind_some, Option.map_eq_some_iff, Option.bind_eq_some_iff] at ht
    obtain ⟨x, hx, y, hy, rfl⟩ := ht
    obtain ⟨hwo, hwp, h1, h2⟩ := h
    refine wpAnyH_all hr (by simp) (fun z hz => ?_)
    simp at hz
    unfold wpOp
    rcases hz with rfl | rfl
    · rw [hio]
      simp only
      rw [if_pos hwo]
      exact .inl (Oper.wp_mono (fun a' w' h' => ⟨h'.1, ihi x fuel _ a' w' hx hoki h'.1 (by simp [Sch.len] at hl; omega) h'.2⟩) h1)
    · rw [hjp]
      simp only
      rw [if_pos hwp]
      exact .inl (Oper.wp_mono (fun a' w' h' => ⟨h'.1, ihj y fuel _ a' w' hy hokj h'.1 (by simp [Sch.len] at hl; omega) h'.2⟩) h2)
def wpSchR (P : Program) (ops : Array Oper) (Q : Exit → Act → World → Prop) (S : World → Prop) : Option SchO → Act → World → Prop
  | none, _, _ => False
  | some t, a, w => wpSch P ops Q S t a w
theorem wpSchR_some {P : Program} {ops : Array Oper} {Q : Exit → Act → World → Prop} {S : World → Prop} {t : SchO} {a : Act} {w : World} : wpSchR P ops Q S (some t) a w = wpSch P ops Q S t a w := rfl
/-- The beginning. -/
theorem wp_region_sch {P : Program} {ops : Array Oper} {Q : Exit → Act → World → Prop} {id : Nat} {a : Act} {w : World} (S : World → Prop) (s : Sch) (hm : P.follows .mixedOrders = true)
    (hs : Region.noSelect ops = true) (hok : Sch.ok .any ops (Array.replicate ops.size false) s = true) (hl : decide (s.len ≤ ops.size) = true)
    (hQ : ∀ c a (d : Option Tmp) v w, Q (.panic c) (a.put d v) w → Q (.panic c) a w) (hS : S { w with drawn := w.drawn + 1 })
    (h : wpSchR P ops Q S (s.res ops) a { w with drawn := w.drawn + 1 }) : (Code.region id ops true).wp P Q a w := by
  cases ht : s.res ops with
  | none => rw [ht] at h; exact h.elim
  | some t => rw [ht] at h; exact wp_region_held hm (sch_sound hs hQ s t _ _ a _ ht hok hS (of_decide_eq_true hl) h)
section
variable {P : Program} {ops : Array Oper} {Q : Exit → Act → World → Prop} {S : World → Prop} {o p : Oper} {r ri rj : SchO} {a : Act} {w : World}
theorem sch_run {v : Value} (hw : Region.wanted o (yielded ops a.tmps) = true) (hr : ∀ w', S w' → (execOp a.eval o).run P w' = .ok (.value v) w') (h : wpSch P ops Q S r (a.put o.dst v) w) :
    wpSch P ops Q S (.run o r) a w := ⟨v, .inl ⟨hw, hr⟩, h⟩
theorem sch_one (hw : Region.wanted o (yielded ops a.tmps) = true) (h : ∀ K : Act → World → Prop, (∀ a' w', S w' → wpSch P ops Q S r a' w' → K a' w') → o.wp P a w K Q) : wpSch P ops Q S (.one o r) a w :=
  ⟨hw, h _ (fun _ _ h1 h2 => ⟨h1, h2⟩)⟩
theorem sch_fork (hwo : Region.wanted o (yielded ops a.tmps) = true) (hwp : Region.wanted p (yielded ops a.tmps) = true)
    (h1 : ∀ K : Act → World → Prop, (∀ a' w', S w' → wpSch P ops Q S ri a' w' → K a' w') → o.wp P a w K Q) (h2 : ∀ K : Act → World → Prop, (∀ a' w', S w' → wpSch P ops Q S rj a' w' → K a' w') → p.wp P a w K Q) : wpSch P ops Q S (.fork o p ri rj) a w :=
  ⟨hwo, hwp, h1 _ (fun _ _ s1 s2 => ⟨s1, s2⟩), h2 _ (fun _ _ s1 s2 => ⟨s1, s2⟩)⟩
theorem sch_done (h : Q .normal a w) : wpSch P ops Q S .done a w := h
end
end Go.Proofs.Ytoabohllphoioaa
