/-
  Rows copied into a new slice: the builtin copy where an element is four cells; the program's copyRows.
-/
import Derived.Test.YtoabohllphoioaaG1
import Derived.Laws.CopyRow
import Derived.Laws.IdiomCopy
import Derived.Deep.RegionLaw
import Derived.Laws.AppendOwn
namespace Go.Proofs.Ytoabohllphoioaa
open Go.RowKit

set_option maxRecDepth 100000 in
set_option maxHeartbeats 1000000 in
theorem run_copy_rows (ty : TypeId) (w : World) (g n c : Nat) (A : Option Addr) (rs : List R) (fp : List Nat) (cur : Array Value) (t : TypeId) (hn : n = rs.length) (hg : w.heap[g]? = some (.cells cur t (0, 0))) (hc : cur.size = n * 4)
    (hr : Rd w 4 (.slice A n c) (rcs rs) fp) :
    (Builtin.copy_ #[29, 29] ty #[.slice (some ⟨g, 0, none⟩) n n, .slice A n c]).run Try.prog w = .ok (goInt n) (w.setRow g (rcs rs).toArray) := by
  obtain ⟨i, hi, hz, hsz, hby⟩ := infoRow
  have hl : (rcs rs).length = n * 4 := by rw [rcs_length, hn]
  have hone : ∀ u ∈ rcs rs, u.oneCell' = true := by
    intro u hu
    obtain ⟨r, _, hr⟩ := List.mem_flatMap.1 hu
    simp [rc] at hr; rcases hr with rfl | rfl | rfl | rfl <;> rfl
  have hst := run_storeCells_at Try.prog g 0 t (rcs rs) 0 cur w hg (by omega) hone
  have e : (cur.toList.take (0 + 0) ++ rcs rs ++ cur.toList.drop (0 + 0 + (rcs rs).length)).toArray = (rcs rs).toArray := by
    have : cur.toList.drop (0 + 0 + (rcs rs).length) = [] := List.drop_eq_nil_of_le (by rw [hl]; simp; omega)
    rw [this]; simp
  rw [e] at hst
  have hu := Try.underlying29
  obtain ⟨A', n', c', e', h1, h2, h3, h4⟩ := hr
  injection e' with q1 q2 q3
  subst q1 q2 q3
  rcases h4 with ⟨h0, _⟩ | ⟨b, off, rfl, _, _, hcell⟩
  · have hrs : rs = [] := List.eq_nil_of_length_eq_zero (by omega)
    subst hrs
    have hl0 : ∀ (x : Addr), (loadCells x 0).run Try.prog w = .ok #[] w := fun x => by simpa using run_loadCells_list (P := Try.prog) w x [] (by simp)
    have hw : w.setRow g (rcs []).toArray = w := by
      have : cur = #[] := Array.eq_empty_of_size_eq_zero (by omega)
      subst this
      exact setRow_self w g #[] t (0, 0) hg
    rw [hw]
    subst h0
    cases A <;> simp [Builtin.copy_, run_underlying hu, Builtin.lenOf, Builtin.firstCells, sizeOf, typeInfo, hi, hsz, storeCells, hl0]
  · have hf := run_firstCells_some (P := Try.prog) w 4 n ⟨b, off, none⟩ n c (rcs rs) hl (fun j u hu => by rw [Addr.add_lit]; exact hcell j u hu)
    simp [Builtin.copy_, run_underlying hu, Builtin.lenOf, sizeOf, typeInfo, hi, hsz, hf, hst]

theorem wpList_copy_r {P : Program} {w : World} {ops : Array Oper} {rest : List Oper} {o : Oper} {a : Act} {Q : Exit → Act → World → Prop} (hgd : o.guard = none) (d s : Operand) (t : TypeId)
    (ho : o.op = .call { callee := .builtin .copy, args := #[d, s], argTypes := #[t, t] }) (v u : Value) (hd : a.eval d = v) (hs : a.eval s = u) {v' : Value} {w' : World}
    (hr : (Builtin.copy_ #[t, t] o.type #[v, u]).run P w = .ok v' w') (h : wpList P ops Q rest (a.put o.dst v') w') : wpList P ops Q (o :: rest) a w := by
  refine wpList_plain hgd fun K hK => ?_
  unfold Oper.wp execOp
  simp only [ho, resolve, invoke, builtin, Sem.run_bind, Sem.run_pure, Result.andThen_ok, List.map_toArray, List.map_cons, List.map_nil, hd, hs, hr]
  exact hK _ _ h

set_option maxRecDepth 100000 in
set_option maxHeartbeats 1000000 in
theorem copyRows_c (A : Option Addr) (c : Nat) (rs : List R) (w : World) (fp : List Nat) (hs : rs.length ≤ 1048576) (ha : Rd w 4 (.slice A rs.length c) (rcs rs) fp) :
    Calls Try.prog 92 #[.slice A rs.length c] w (CopyRows w rs) := by
  have hmk : ∀ W : World, (Instr.makeSlice 29 (.int .i64 (rs.length : Int)) (.int .i64 (rs.length : Int))).run Try.prog W = .ok (.slice (some ⟨W.heap.size, 0, none⟩) rs.length rs.length) (W.alloc (.cells (partR rs 0) 34)) := by
    intro W
    rw [makeRowS _ (by omega), partR_zero]
  have hmax := ha.len_le
  have HR := Lib.hid (ha.alloc (.cells (partR rs 0) 34))
  have HG := Lib.hid (heap_new w (.cells (partR rs 0) 34) rfl)
  have HZ := Lib.hid (partR_size rs 0 (Nat.zero_le _))
  have HB := Lib.hid (below_new (w := w) (.cells (partR rs 0) 34))
  clear ha
  go_enter Try.func92, Try.ntmps92
  go_wp2_with (with_reducible refine wpList_copy_r rfl (.tmp 7) (.tmp 8) 29 rfl _ _ rfl rfl (run_copy_rows _ _ w.heap.size rs.length c A rs fp (partR rs 0) 34 rfl HG.out HZ.out HR.out) ?_)
  have hg := setRow_heap _ w.heap.size _ (rcs rs).toArray _ _ HG.out
  have hb : Below w.heap.size w ((w.alloc (.cells (partR rs 0) 34)).setRow w.heap.size (rcs rs).toArray) := HB.out.trans ⟨rfl, rfl, rfl, by simp [World.setRow], fun k hk => setRow_other _ w.heap.size k _ (by omega)⟩
  obtain ⟨fq, h1, h2, h3⟩ := Rd.fresh (w := w) (n := rs.length) (size := 4) (by unfold maxLen; omega) (rcs_length rs) hg (Nat.le_refl _)
  have HX := Lib.hid (And.intro h1 (And.intro h2 (And.intro h3 hb)))
  clear hg hb h1 h2 h3 hmk
  go_wp2
  go_ret
  exact ⟨_, _, fq, rfl, HX.out.1, HX.out.2.1, HX.out.2.2.1, HX.out.2.2.2⟩
end Go.Proofs.Ytoabohllphoioaa
