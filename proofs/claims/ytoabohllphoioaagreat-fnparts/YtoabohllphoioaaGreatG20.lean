/-
  Rows compared as structs.
-/
import Derived.Test.YtoabohllphoioaaGreatProg
import Derived.Test.YtoabohllphoioaaGreatG1
import Derived.Laws.StructEq
import Derived.ChangeKeysEq
import Derived.KernelRfl
import Derived.Laws.AppendOwn
namespace Go.Proofs.YtoabohllphoioaaGreat
open Go.RowKit

theorem rowUnder : Tryz.prog.underlying 32 = some (.struct (Tryz.prog.fieldsOf 32)) := by kernel_rfl
theorem rowHeld : Tryz.prog.stoodInHeld 32 = false := by kernel_rfl
theorem i64Plain : Tryz.prog.plainKey 2 = true := by kernel_rfl
set_option maxRecDepth 1000000 in
theorem rowFields : ∃ a b c d : Field, (Tryz.prog.fieldsOf 32).toList = [a, b, c, d] ∧ a.type = 2 ∧ b.type = 2 ∧ c.type = 2 ∧ d.type = 2 ∧ a.offset = 0 ∧ b.offset = 1 ∧ c.offset = 2 ∧ d.offset = 3 ∧ (a.name ≠ "_") ∧ (b.name ≠ "_") ∧ (c.name ≠ "_") ∧ (d.name ≠ "_") :=
  ⟨_, _, _, _, rfl, rfl, rfl, rfl, rfl, rfl, rfl, rfl, rfl, by decide, by decide, by decide, by decide⟩

/-- One field of integers more. -/
theorem eqFields_int {d : Nat} {xs ys : Array Value} {f : Field} {fs : List Field} {a b : Int} {w : World} {k : Nat} (hn : f.name ≠ "_") (ht : f.type = 2) (ho : f.offset = k) (hx : xs[k]? = some (.int .i64 a)) (hy : ys[k]? = some (.int .i64 b)) :
    (Op.eqFields (d + 1) xs ys (f :: fs)).run Tryz.prog w = if a = b then (Op.eqFields (d + 1) xs ys fs).run Tryz.prog w else .ok false w := by
  rw [Op.eqFields, if_pos hn, ht, ho]
  simp only [Sem.run_bind, run_part_plain w i64Plain hx, run_part_plain w i64Plain hy, Result.andThen_ok, run_equalIn_int w d 2 .i64 .i64 a b Tryz.underlying2, Sem.run_ite, Sem.run_pure]
  by_cases h : a = b
  · simp [h]
  · simp [h]

theorem rowEqual (x y : R) (w : World) : (Op.equalIn 10000 32 (rv x) (rv y)).run Tryz.prog w = .ok (decide (x = y)) w := by
  rw [show (10000 : Nat) = 9999 + 1 from rfl, run_equalIn_struct w 9999 _ _ _ rowUnder rowHeld]
  obtain ⟨a, b, c, d, hf, ta, tb, tc, td, oa, ob, oc, od, na, nb, nc, nd⟩ := rowFields
  rw [hf]
  obtain ⟨x0, x1, x2, x3⟩ := x
  obtain ⟨y0, y1, y2, y3⟩ := y
  rw [show (9999 : Nat) = 9998 + 1 from rfl, eqFields_int na ta oa (a := x0) (b := y0) rfl rfl, eqFields_int nb tb ob (a := x1) (b := y1) rfl rfl, eqFields_int nc tc oc (a := x2) (b := y2) rfl rfl, eqFields_int nd td od (a := x3) (b := y3) rfl rfl]
  by_cases h0 : x0 = y0 <;> by_cases h1 : x1 = y1 <;> by_cases h2 : x2 = y2 <;> by_cases h3 : x3 = y3 <;> simp [h0, h1, h2, h3, Op.eqFields]
theorem rowNeq (x y : R) (w : World) : (binOp .neq 32 (rv x) (rv y)).run Tryz.prog w = .ok (.bool (!decide (x = y))) w := by
  rw [run_neq_struct, rowEqual]; rfl
theorem rowEql (x y : R) (w : World) : (binOp .eql 32 (rv x) (rv y)).run Tryz.prog w = .ok (.bool (decide (x = y))) w := by
  rw [run_eql_struct, rowEqual]; rfl
theorem rowGuard (op : BinOp) (p q : Operand) (x y : R) (w : World) : (eqGuard op 32 p q (rv x) (rv y)).run Tryz.prog w = .ok () w := run_eqGuard_agg w op _ p q _ _ (by kernel_rfl)
end Go.Proofs.YtoabohllphoioaaGreat

/-
  Contracts of the model's functions of chapter 2, second part: faults, keys, comparison, finding.
-/
namespace Go.Proofs.YtoabohllphoioaaGreat
open Go.RowKit

/-- The code and the value of KeyOf. -/
def keyP (l s : Int) : Int × Int := if isB l s then (0, 21 * l + s) else (3, 0)
theorem take_eq_of {α : Type} {xs ys : List α} (hl : xs.length = ys.length) (h : ∀ j (h1 : j < xs.length) (h2 : j < ys.length), xs[j] = ys[j]) : xs = ys := List.ext_getElem hl fun j h1 h2 => h j h1 h2

/-- The row with a Loc and a Sku. -/
def getR (rs : List R) (l s : Int) : Option R := rs.find? fun r => decide (r.1 = l) && decide (r.2.1 = s)
theorem getR_drop_succ (rs : List R) (l s : Int) (k : Nat) (h : k < rs.length) : getR (rs.drop k) l s = if rs[k].1 = l ∧ rs[k].2.1 = s then some rs[k] else getR (rs.drop (k + 1)) l s := by
  rw [List.drop_eq_getElem_cons h]
  unfold getR
  rw [List.find?_cons]
  by_cases h1 : rs[k].1 = l <;> by_cases h2 : rs[k].2.1 = s <;> simp [h1, h2]
def getV (rs : List R) (l s : Int) : R := (getR rs l s).getD (l, s, 0, 0)

/-- The code of FindRow, and the row beside it. -/
def findC (rs : List R) (l s : Int) : Int := if rowsF rs ≠ 0 then rowsF rs else if isB l s then (if (getR rs l s).isSome then 0 else 4) else 3
def findV (rs : List R) (l s : Int) : R := if findC rs l s = 0 then getV rs l s else (0, 0, 0, 0)

end Go.Proofs.YtoabohllphoioaaGreat

/-
  Contracts of the model's functions of chapter 2, third part: cutting, putting, joining.
-/
namespace Go.Proofs.YtoabohllphoioaaGreat
open Go.RowKit

/-- What a call answers that gives rows in memory of its own. -/
def RowsPost (w : World) (rs : List R) (e : Ending) (w' : World) : Prop :=
  ∃ v fp, e = .returned v ∧ Rd w' 4 v (rcs rs) fp ∧ NF w' fp ∧ From w.heap.size fp ∧ Below w.heap.size w w' ∧ ∃ n B, w.heap.size ≤ B ∧ w'.ownsRow B 32 4 v n (rcs rs)

theorem own_emptyR {w : World} {t : TypeId} {base : Nat} (hb : base ≤ w.heap.size) : (w.alloc (.cells #[] t)).ownsRow base t 4 (.slice (some ⟨w.heap.size, 0, none⟩) 0 0) 0 [] :=
  ⟨rfl, .inr ⟨w.heap.size, 0, #[], rfl, hb, heap_new w _ rfl, by omega, by unfold maxLen; omega, rfl, rfl⟩⟩
theorem rc_one (r : R) : ∀ u ∈ rc r, u.oneCell' = true := by intro u hu; simp [rc] at hu; rcases hu with rfl | rfl | rfl | rfl <;> rfl
theorem rcs_one (rs : List R) : ∀ u ∈ rcs rs, u.oneCell' = true := by
  intro u hu
  obtain ⟨r, _, hr⟩ := List.mem_flatMap.1 hu
  exact rc_one r u hr
theorem rc_new {w : World} {t : TypeId} (r : R) : ∀ j u, (rc r)[j]? = some u → (w.alloc (.cells #[.int .i64 r.1, .int .i64 r.2.1, .int .i64 r.2.2.1, .int .i64 r.2.2.2] t)).cell? ((⟨w.heap.size, 0, none⟩ : Addr).add j) = some u := by
  intro j u hu
  have e : (⟨w.heap.size, 0, none⟩ : Addr).add j = ⟨w.heap.size, j, none⟩ := by unfold Addr.add; split <;> simp_all
  rw [e, cell_of_heap (heap_new w _ rfl)]
  rw [← hu]
  unfold rc
  exact List.getElem?_toArray
theorem own_base' {w : World} {base : Nat} {e : TypeId} {size n g : Nat} {v : Value} {xs : List Value} (h : w.ownsRow base e size v n xs) (hg : v.ownBlock = some g) : base ≤ g := by
  rcases h.2 with ⟨rfl, _⟩ | ⟨g', cap, cur, rfl, hb, _⟩
  · simp [Value.ownBlock] at hg
  · simp [Value.ownBlock] at hg; omega

def cutR (rs : List R) (f t : Int) : List R := rs.filter fun r => decide (f ≤ keyR r) && decide (keyR r < t)
theorem cutR_succ (rs : List R) (f t : Int) (k : Nat) (h : k < rs.length) : cutR (rs.take (k + 1)) f t = cutR (rs.take k) f t ++ (if f ≤ keyR rs[k] ∧ keyR rs[k] < t then [rs[k]] else []) := by
  unfold cutR
  rw [List.take_succ_eq_append_getElem h, List.filter_append]
  by_cases h1 : f ≤ keyR rs[k] <;> by_cases h2 : keyR rs[k] < t <;> simp [h1, h2]
theorem cutR_len (rs : List R) (f t : Int) (k : Nat) : (cutR (rs.take k) f t).length ≤ rs.length := by
  unfold cutR
  exact Nat.le_trans (List.length_filter_le _ _) (by rw [List.length_take]; omega)

end Go.Proofs.YtoabohllphoioaaGreat
