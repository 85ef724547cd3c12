/-
  Holds: five integers each.
-/
import Derived.Test.YtldimfmhbdhbnaaGreatG10
import Derived.Test.YtldimfmhbdhbnaaGreatG1
import Derived.Test.YtldimfmhbdhbnaaGreatG26
namespace Go.Proofs.YtldimfmhbdhbnaaGreat
open Go.RowKit

/-- A hold: Id, Loc, Sku, Qty, Until. -/
structure Hd where
  id : Int
  lc : Int
  sk : Int
  qt : Int
  un : Int
deriving DecidableEq
/-- Its five cells. -/
def hc (h : Hd) : List Value := [.int .i64 h.id, .int .i64 h.lc, .int .i64 h.sk, .int .i64 h.qt, .int .i64 h.un]
theorem hc_len (h : Hd) : (hc h).length = 5 := rfl
/-- A hold as a value. -/
abbrev hv (h : Hd) : Value := .agg #[.int .i64 h.id, .int .i64 h.lc, .int .i64 h.sk, .int .i64 h.qt, .int .i64 h.un]
/-- Every field fits its kind. -/
def WfH (h : Hd) : Prop := (Lit.int .i64 h.id).wf = true ∧ (Lit.int .i64 h.lc).wf = true ∧ (Lit.int .i64 h.sk).wf = true ∧ (Lit.int .i64 h.qt).wf = true ∧ (Lit.int .i64 h.un).wf = true
theorem rcs_ecs (rs : List R) : rcs rs = ecs rc rs := rfl
end Go.Proofs.YtldimfmhbdhbnaaGreat

/-
  Requests that were seen: two integers each. Chapter 5 as plain functions on lists of them.
-/
namespace Go.Proofs.YtldimfmhbdhbnaaGreat
open Go.RowKit

/-- A request that was seen: Req, Value. -/
structure Sn where
  rq : Int
  vl : Int
deriving DecidableEq
/-- Its two cells. -/
def sc (x : Sn) : List Value := [.int .i64 x.rq, .int .i64 x.vl]
theorem sc_len (x : Sn) : (sc x).length = 2 := rfl
/-- As a value. -/
abbrev sv (x : Sn) : Value := .agg #[.int .i64 x.rq, .int .i64 x.vl]
/-- Every field fits its kind. -/
def WfS (x : Sn) : Prop := (Lit.int .i64 x.rq).wf = true ∧ (Lit.int .i64 x.vl).wf = true

def seenB (x : Sn) : Bool := inB x.rq 1 999 && inB x.vl 0 19998
def FitS (x : Sn) : Prop := 1 ≤ x.rq ∧ x.rq ≤ 999 ∧ 0 ≤ x.vl ∧ x.vl ≤ 19998
theorem seenB_iff {x : Sn} : seenB x = true ↔ FitS x := by
  unfold seenB FitS
  simp only [Bool.and_eq_true, inB_true]
  omega
/-- The first place of a request, none if there is none. -/
def idxS (l : List Sn) (q : Int) : Option Nat := l.findIdx? fun x => x.rq == q
/-- The same as a number: -1 if there is none. -/
def idxN (l : List Sn) (q : Int) : Int := match idxS l q with | some i => (i : Int) | none => -1
def hasS (l : List Sn) (q : Int) : Bool := l.any fun x => x.rq == q
/-- The first request of this number, two zeros if there is none. -/
def getS (l : List Sn) (q : Int) : Sn := (l.find? fun x => x.rq == q).getD ⟨0, 0⟩
theorem hasS_idx (l : List Sn) (q : Int) : hasS l q = (idxS l q).isSome := by
  unfold hasS idxS
  rw [List.findIdx?_isSome]
theorem idxN_neg (l : List Sn) (q : Int) : (0 ≤ idxN l q) ↔ hasS l q = true := by
  rw [hasS_idx]; unfold idxN
  cases idxS l q with
  | none => simp
  | some i => simp
theorem idxS_some {l : List Sn} {q : Int} {i : Nat} (h : idxS l q = some i) : ∃ hi : i < l.length, l[i].rq = q ∧ getS l q = l[i] := by
  unfold idxS at h
  rw [List.findIdx?_eq_some_iff_getElem] at h
  obtain ⟨hi, h1, h2⟩ := h
  refine ⟨hi, by simpa using h1, ?_⟩
  unfold getS
  have : l.find? (fun x => x.rq == q) = some l[i] := by
    rw [List.find?_eq_some_iff_getElem]
    exact ⟨h1, i, hi, rfl, fun j hj => by simpa using h2 j hj⟩
  rw [this]; rfl
/-- The code of the requests behind those of a list. -/
def sscan (p : List Sn) : List Sn → Int
  | [] => 0
  | x :: t => if seenB x = false then 3 else if hasS p x.rq then 6 else sscan (p ++ [x]) t
def seenF (l : List Sn) : Int := if 6 < l.length then 2 else sscan [] l
theorem sscan_at (l : List Sn) (k : Nat) (h : k < l.length) : sscan (l.take k) (l.drop k) = if seenB l[k] = false then 3 else if hasS (l.take k) l[k].rq then 6 else sscan (l.take (k + 1)) (l.drop (k + 1)) := by
  rw [List.drop_eq_getElem_cons h, sscan, List.take_succ_eq_append_getElem h]
theorem sscan_nil (p : List Sn) : sscan p [] = 0 := rfl
theorem seenF_small {l : List Sn} (h : ¬ 6 < l.length) : seenF l = sscan (l.take 0) (l.drop 0) := by simp [seenF, h]
theorem sscan_fits : ∀ (p l : List Sn), sscan p l = 0 → (∀ x ∈ l, FitS x) ∧ (∀ x ∈ l, ∀ y ∈ p, y.rq ≠ x.rq) ∧ l.Pairwise (fun x y => x.rq ≠ y.rq) := by
  intro p l
  induction l generalizing p with
  | nil => intro _; simp
  | cons x t ih =>
    intro h
    unfold sscan at h
    by_cases h0 : seenB x = false
    · rw [if_pos h0] at h; cases h
    · rw [if_neg h0] at h
      by_cases h1 : hasS p x.rq = true
      · rw [if_pos h1] at h; cases h
      · rw [if_neg h1] at h
        obtain ⟨i1, i2, i3⟩ := ih _ h
        refine ⟨?_, ?_, ?_⟩
        · intro y hy
          rcases List.mem_cons.1 hy with rfl | hy
          · exact seenB_iff.1 (by simpa using h0)
          · exact i1 y hy
        · intro y hy z hz
          rcases List.mem_cons.1 hy with rfl | hy
          · intro e; apply h1; unfold hasS; rw [List.any_eq_true]; exact ⟨z, hz, by simpa using e⟩
          · exact i2 y hy z (List.mem_append_left _ hz)
        · rw [List.pairwise_cons]
          exact ⟨fun y hy => i2 y hy x (List.mem_append_right _ (by simp)), i3⟩
theorem seenF_fits {l : List Sn} (h : seenF l = 0) : (∀ x ∈ l, FitS x) ∧ l.Pairwise (fun x y => x.rq ≠ y.rq) ∧ l.length ≤ 6 := by
  unfold seenF at h
  split at h
  · cases h
  · obtain ⟨h1, _, h3⟩ := sscan_fits [] l h
    exact ⟨h1, h3, by omega⟩
/-- What FindSeen answers. -/
def findS (l : List Sn) (q : Int) : Int × Int := if seenF l = 0 then (if hasS l q then (0, (getS l q).vl) else (4, 0)) else (seenF l, 0)
/-- One request more, the oldest dropped where there are seven. -/
def noteL (l : List Sn) (x : Sn) : List Sn := if l.length < 6 then l ++ [x] else (l ++ [x]).drop 1
def noteC (l : List Sn) (x : Sn) : Int := if seenF l = 0 then (if seenB x then (if hasS l x.rq then 6 else 0) else 3) else seenF l
def noteS (l : List Sn) (x : Sn) : List Sn := if noteC l x = 0 then noteL l x else []
end Go.Proofs.YtldimfmhbdhbnaaGreat
