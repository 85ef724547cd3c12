/-
  Rows compared as structs.
-/
import Derived.Test.YtldimfmhbdhbnaaGreatProg
import Derived.Test.YtldimfmhbdhbnaaGreatG1
import Derived.Laws.StructEq
import Derived.ChangeKeysEq
import Derived.KernelRfl
import Derived.Laws.AppendOwn
namespace Go.Proofs.YtldimfmhbdhbnaaGreat
open Go.RowKit

theorem rowUnder : Tryz.prog.underlying 40 = some (.struct (Tryz.prog.fieldsOf 40)) := by kernel_rfl
theorem rowHeld : Tryz.prog.stoodInHeld 40 = false := by kernel_rfl
theorem i64Plain : Tryz.prog.plainKey 2 = true := by kernel_rfl
set_option maxRecDepth 1000000 in
theorem rowFields : ∃ a b c d : Field, (Tryz.prog.fieldsOf 40).toList = [a, b, c, d] ∧ a.type = 2 ∧ b.type = 2 ∧ c.type = 2 ∧ d.type = 2 ∧ a.offset = 0 ∧ b.offset = 1 ∧ c.offset = 2 ∧ d.offset = 3 ∧ (a.name ≠ "_") ∧ (b.name ≠ "_") ∧ (c.name ≠ "_") ∧ (d.name ≠ "_") :=
  ⟨_, _, _, _, rfl, rfl, rfl, rfl, rfl, rfl, rfl, rfl, rfl, by decide, by decide, by decide, by decide⟩

/-- One field of integers more. -/
theorem eqFields_int {d : Nat} {xs ys : Array Value} {f : Field} {fs : List Field} {a b : Int} {w : World} {k : Nat} (hn : f.name ≠ "_") (ht : f.type = 2) (ho : f.offset = k) (hx : xs[k]? = some (.int .i64 a)) (hy : ys[k]? = some (.int .i64 b)) :
    (Op.eqFields (d + 1) xs ys (f :: fs)).run Tryz.prog w = if a = b then (Op.eqFields (d + 1) xs ys fs).run Tryz.prog w else .ok false w := by
  rw [Op.eqFields, if_pos hn, ht, ho]
  simp only [Sem.run_bind, run_part_plain w i64Plain hx, run_part_plain w i64Plain hy, Result.andThen_ok, run_equalIn_int w d 2 .i64 .i64 a b Tryz.underlying2, Sem.run_ite, Sem.run_pure]
  by_cases h : a = b
  · simp [h]
  · simp [h]

theorem rowEqual (x y : R) (w : World) : (Op.equalIn 10000 40 (rv x) (rv y)).run Tryz.prog w = .ok (decide (x = y)) w := by
  rw [show (10000 : Nat) = 9999 + 1 from rfl, run_equalIn_struct w 9999 _ _ _ rowUnder rowHeld]
  obtain ⟨a, b, c, d, hf, ta, tb, tc, td, oa, ob, oc, od, na, nb, nc, nd⟩ := rowFields
  rw [hf]
  obtain ⟨x0, x1, x2, x3⟩ := x
  obtain ⟨y0, y1, y2, y3⟩ := y
  rw [show (9999 : Nat) = 9998 + 1 from rfl, eqFields_int na ta oa (a := x0) (b := y0) rfl rfl, eqFields_int nb tb ob (a := x1) (b := y1) rfl rfl, eqFields_int nc tc oc (a := x2) (b := y2) rfl rfl, eqFields_int nd td od (a := x3) (b := y3) rfl rfl]
  by_cases h0 : x0 = y0 <;> by_cases h1 : x1 = y1 <;> by_cases h2 : x2 = y2 <;> by_cases h3 : x3 = y3 <;> simp [h0, h1, h2, h3, Op.eqFields]
theorem rowNeq (x y : R) (w : World) : (binOp .neq 40 (rv x) (rv y)).run Tryz.prog w = .ok (.bool (!decide (x = y))) w := by
  rw [run_neq_struct, rowEqual]; rfl
theorem rowEql (x y : R) (w : World) : (binOp .eql 40 (rv x) (rv y)).run Tryz.prog w = .ok (.bool (decide (x = y))) w := by
  rw [run_eql_struct, rowEqual]; rfl
theorem rowGuard (op : BinOp) (p q : Operand) (x y : R) (w : World) : (eqGuard op 40 p q (rv x) (rv y)).run Tryz.prog w = .ok () w := run_eqGuard_agg w op _ p q _ _ (by kernel_rfl)
end Go.Proofs.YtldimfmhbdhbnaaGreat

/-
  Contracts of the model's functions of chapter 2, second part: faults, keys, comparison, finding.
-/
namespace Go.Proofs.YtldimfmhbdhbnaaGreat
open Go.RowKit

/-- The code and the value of KeyOf. -/
def keyP (l s : Int) : Int × Int := if isB l s then (0, 21 * l + s) else (3, 0)
theorem take_eq_of {α : Type} {xs ys : List α} (hl : xs.length = ys.length) (h : ∀ j (h1 : j < xs.length) (h2 : j < ys.length), xs[j] = ys[j]) : xs = ys := List.ext_getElem hl fun j h1 h2 => h j h1 h2

/-- The row with a Loc and a Sku. -/
def getR (rs : List R) (l s : Int) : Option R := rs.find? fun r => decide (r.1 = l) && decide (r.2.1 = s)
theorem getR_drop_succ (rs : List R) (l s : Int) (k : Nat) (h : k < rs.length) : getR (rs.drop k) l s = if rs[k].1 = l ∧ rs[k].2.1 = s then some rs[k] else getR (rs.drop (k + 1)) l s := by
  rw [List.drop_eq_getElem_cons h]
  unfold getR
  rw [List.find?_cons]
  by_cases h1 : rs[k].1 = l <;> by_cases h2 : rs[k].2.1 = s <;> simp [h1, h2]
def getV (rs : List R) (l s : Int) : R := (getR rs l s).getD (l, s, 0, 0)

set_option maxRecDepth 100000 in
set_option maxHeartbeats 1000000 in
theorem l2Get_c (A : Option Addr) (c : Nat) (rs : List R) (l s : Int) (w : World) (fp : List Nat) (ha : Rd w 4 (.slice A rs.length c) (rcs rs) fp) :
    Calls Tryz.prog 45 #[.slice A rs.length c, .int .i64 l, .int .i64 s] w fun e w' => e = .returned (.tuple #[rv (getV rs l s), .bool (getR rs l s).isSome]) ∧ Below w.heap.size w w' := by
  have hmax := ha.len_le
  have ha' := ha.alloc (.cells #[.int .i64 0, .int .i64 0, .int .i64 0, .int .i64 0] 40)
  generalize hV : getV rs l s = V
  generalize hG : getR rs l s = G
  have hVG : V = G.getD (l, s, 0, 0) := by rw [← hV, ← hG]; rfl
  have HVG := Lib.hid hVG
  have HG := Lib.hid hG; clear hV hG hVG
  go_enter Tryz.func45, Tryz.ntmps45
  go_wp2
  go_loop [8] (fun i => ∃ k : Nat, k ≤ rs.length ∧ i = .int .i64 k ∧ Hid (getR (rs.drop k) l s = G)) (fun i => rs.length - (intOf i).toNat)
  case atStart => exact ⟨0, Nat.zero_le _, rfl, HG.out⟩
  case round =>
    obtain ⟨k, hk, rfl, hg⟩ := hrel
    by_cases hlt : k < rs.length
    · obtain ⟨b1, o1, rfl, _, hl1, p0, p1, p2, p3⟩ := ha'.row_at hlt
      have hgs := hg.out
      rw [getR_drop_succ rs l s k hlt] at hgs
      by_cases e1 : rs[k].1 = l
      · by_cases e2 : rs[k].2.1 = s
        · rw [if_pos ⟨e1, e2⟩] at hgs
          have t1 : (rs[k].1 == l) = true := by simp [e1]
          have t2 : (rs[k].2.1 == s) = true := by simp [e2]
          have HF := Lib.hid hgs; clear hgs hg e1 e2
          generalize rs[k] = r at *
          clear ha ha'
          go_wp2_with fail
          refine bodyPost_ret (v := .tuple #[rv r, .bool true]) (by simp [results, Tryz.results45, go_sem]) rfl ⟨?_, (Below.refl _ _).alloc (Nat.le_refl _) _⟩
          rw [HVG.out, ← HF.out]; rfl
        · rw [if_neg (fun h => e2 h.2)] at hgs
          have t1 : (rs[k].1 == l) = true := by simp [e1]
          have t2 : (rs[k].2.1 == s) = false := by simp [e2]
          have HF := Lib.hid hgs; clear hgs hg e1 e2
          generalize rs[k] = r at *
          clear ha ha'
          go_wp2_with fail
          exact ⟨⟨k + 1, by omega, by go_num, HF.out⟩, by simp [intOf]; omega⟩
      · rw [if_neg (fun h => e1 h.1)] at hgs
        have t1 : (rs[k].1 == l) = false := by simp [e1]
        have HF := Lib.hid hgs; clear hgs hg e1
        generalize rs[k] = r at *
        clear ha ha'
        go_wp2_with fail
        exact ⟨⟨k + 1, by omega, by go_num, HF.out⟩, by simp [intOf]; omega⟩
    · have hgs := hg.out
      rw [List.drop_of_length_le (by omega)] at hgs
      have e0 : G = none := by rw [← hgs]; rfl
      have HF := Lib.hid e0; clear e0 hgs hg
      go_wp2_with fail
      refine bodyPost_ret (v := .tuple #[rv (l, s, 0, 0), .bool false]) (by simp [results, Tryz.results45, go_sem]) rfl ⟨?_, (Below.refl _ _).alloc (Nat.le_refl _) _⟩
      rw [HVG.out, HF.out]; rfl

/-- The code of FindRow, and the row beside it. -/
def findC (rs : List R) (l s : Int) : Int := if rowsF rs ≠ 0 then rowsF rs else if isB l s then (if (getR rs l s).isSome then 0 else 4) else 3
def findV (rs : List R) (l s : Int) : R := if findC rs l s = 0 then getV rs l s else (0, 0, 0, 0)

end Go.Proofs.YtldimfmhbdhbnaaGreat

/-
  Contracts of the model's functions of chapter 2, third part: cutting, putting, joining.
-/
namespace Go.Proofs.YtldimfmhbdhbnaaGreat
open Go.RowKit

/-- What a call answers that gives rows in memory of its own. -/
def RowsPost (w : World) (rs : List R) (e : Ending) (w' : World) : Prop :=
  ∃ v fp, e = .returned v ∧ Rd w' 4 v (rcs rs) fp ∧ NF w' fp ∧ From w.heap.size fp ∧ Below w.heap.size w w' ∧ ∃ n B, w.heap.size ≤ B ∧ w'.ownsRow B 40 4 v n (rcs rs)

theorem own_emptyR {w : World} {t : TypeId} {base : Nat} (hb : base ≤ w.heap.size) : (w.alloc (.cells #[] t)).ownsRow base t 4 (.slice (some ⟨w.heap.size, 0, none⟩) 0 0) 0 [] :=
  ⟨rfl, .inr ⟨w.heap.size, 0, #[], rfl, hb, heap_new w _ rfl, by omega, by unfold maxLen; omega, rfl, rfl⟩⟩
theorem rc_one (r : R) : ∀ u ∈ rc r, u.oneCell' = true := by intro u hu; simp [rc] at hu; rcases hu with rfl | rfl | rfl | rfl <;> rfl
theorem rcs_one (rs : List R) : ∀ u ∈ rcs rs, u.oneCell' = true := by
  intro u hu
  obtain ⟨r, _, hr⟩ := List.mem_flatMap.1 hu
  exact rc_one r u hr
theorem rc_new {w : World} {t : TypeId} (r : R) : ∀ j u, (rc r)[j]? = some u → (w.alloc (.cells #[.int .i64 r.1, .int .i64 r.2.1, .int .i64 r.2.2.1, .int .i64 r.2.2.2] t)).cell? ((⟨w.heap.size, 0, none⟩ : Addr).add j) = some u := by
  intro j u hu
  have e : (⟨w.heap.size, 0, none⟩ : Addr).add j = ⟨w.heap.size, j, none⟩ := by unfold Addr.add; split <;> simp_all
  rw [e, cell_of_heap (heap_new w _ rfl)]
  rw [← hu]
  unfold rc
  exact List.getElem?_toArray
theorem own_base' {w : World} {base : Nat} {e : TypeId} {size n g : Nat} {v : Value} {xs : List Value} (h : w.ownsRow base e size v n xs) (hg : v.ownBlock = some g) : base ≤ g := by
  rcases h.2 with ⟨rfl, _⟩ | ⟨g', cap, cur, rfl, hb, _⟩
  · simp [Value.ownBlock] at hg
  · simp [Value.ownBlock] at hg; omega

def cutR (rs : List R) (f t : Int) : List R := rs.filter fun r => decide (f ≤ keyR r) && decide (keyR r < t)
theorem cutR_succ (rs : List R) (f t : Int) (k : Nat) (h : k < rs.length) : cutR (rs.take (k + 1)) f t = cutR (rs.take k) f t ++ (if f ≤ keyR rs[k] ∧ keyR rs[k] < t then [rs[k]] else []) := by
  unfold cutR
  rw [List.take_succ_eq_append_getElem h, List.filter_append]
  by_cases h1 : f ≤ keyR rs[k] <;> by_cases h2 : keyR rs[k] < t <;> simp [h1, h2]
theorem cutR_len (rs : List R) (f t : Int) (k : Nat) : (cutR (rs.take k) f t).length ≤ rs.length := by
  unfold cutR
  exact Nat.le_trans (List.length_filter_le _ _) (by rw [List.length_take]; omega)

set_option maxRecDepth 100000 in
set_option maxHeartbeats 2000000 in
theorem l2Cut_c (A : Option Addr) (c : Nat) (rs : List R) (f t : Int) (w : World) (fp : List Nat) (hs : rs.length ≤ 1000000) (hfit : Fits rs) (ha : Rd w 4 (.slice A rs.length c) (rcs rs) fp) :
    Calls Tryz.prog 95 #[.slice A rs.length c, .int .i64 f, .int .i64 t] w (RowsPost w (cutR rs f t)) := by
  have hlt0 := ha.lt
  have HL := Lib.hid hlt0; clear hlt0
  have HFT := Lib.hid hfit; clear hfit
  obtain ⟨i0, hi, hz, hsz, hby⟩ := infoRow
  go_enter Tryz.func95, Tryz.ntmps95
  go_wp2
  go_loopw [7, 8] (fun v i wr => ∃ k n : Nat, k ≤ rs.length ∧ n ≤ 1000000 ∧ i = .int .i64 k ∧ wr.ownsRow w.heap.size 40 4 v n (rcs (cutR (rs.take k) f t)) ∧ Below w.heap.size w wr) (fun _ i _ => rs.length - (intOf i).toNat)
  case atStart => exact ⟨0, 0, Nat.zero_le _, by omega, rfl, own_emptyR (Nat.le_refl _), below_new _⟩
  case round =>
    obtain ⟨k, n, hk, hn, rfl, hown, hbel⟩ := hrel
    have hsize := hbel.size
    by_cases hlt : k < rs.length
    · obtain ⟨b, off, hA, _, _, p0, p1, p2, p3⟩ := (ha.below hbel HL.out).row_at hlt
      subst hA
      obtain ⟨f0, f1, f2, f3⟩ := HFT.out k hlt
      have hra : RowAt wr b (off + k * 4) rs[k] := ⟨p0, p1, p2, p3⟩
      have hcs := cutR_succ rs f t k hlt
      have HCS := Lib.hid hcs; clear hcs
      have hrow : ∀ g, u7.ownBlock = some g → w.heap.size ≤ g := fun g hg => own_base' hown hg
      have HR := Lib.hid hrow; clear hrow
      generalize rs[k] = r at *
      go_wp2_with fail
      refine (l2Key_c b (off + k * 4) r _ hra f0 f1 f2 f3).mono ?_
      rintro e w1 ⟨rfl, m, rfl⟩
      clear hra
      by_cases h1 : f ≤ keyR r
      · by_cases h2 : keyR r < t
        · have hcs := HCS.out
          rw [if_pos ⟨h1, h2⟩] at hcs
          have HC2 := Lib.hid hcs; clear hcs HCS
          have hown1 : ((wr.drewN m).alloc (.cells #[.int .i64 r.1, .int .i64 r.2.1, .int .i64 r.2.2.1, .int .i64 r.2.2.2] 40)).ownsRow w.heap.size 40 4 u7 n (rcs (cutR (rs.take k) f t)) := World.ownsRow.alloc (w := wr.drewN m) hown _
          have hbel1 := below_more (below_drewN' hbel m) (.cells #[.int .i64 r.1, .int .i64 r.2.1, .int .i64 r.2.2.1, .int .i64 r.2.2.2] 40)
          have HO1 := Lib.hid hown1; have HB1 := Lib.hid hbel1
          clear hown hbel hown1 hbel1
          go_wp2_with (at_builtin; refine wpList_append_own _ rfl _ _ 24 rfl w.heap.size 40 i0 (rv (0, 0, 0, 0)) 4 32 Tryz.underlying24 hi hz hsz hby rfl (by decide) _ _ _ rfl HO1.out ⟨wr.heap.size, 0, none⟩ 1 1 (rc r) rfl rfl ?c1 ?c2 ?c3 ?c4 ?c5 ?_)
          case c1 => exact rc_new (w := wr.drewN m) r
          case c2 => exact rc_one r
          case c3 => unfold maxLen; omega
          case c4 => omega
          case c5 => have := HB1.out.size; exact this
          intro v' w2 hown2 hgrow _
          have hbel2 := HB1.out.grown hgrow HB1.out.size HR.out
          have hown3 : w2.ownsRow w.heap.size 40 4 v' (n + 1) (rcs (cutR (rs.take (k + 1)) f t)) := by rw [HC2.out, rcs_append]; exact hown2
          have hln := hown3.1
          rw [rcs_length] at hln
          have hl2 := cutR_len rs f t (k + 1)
          have hn1 : n + 1 ≤ 1000000 := by omega
          have HO := Lib.hid hown3; have HBL := Lib.hid hbel2
          clear hown2 hown3 hbel2 hgrow hln hl2
          go_wp2_with fail
          exact ⟨⟨k + 1, n + 1, by omega, hn1, by go_num, HO.out, HBL.out⟩, by simp [intOf]; omega⟩
        · have hcs := HCS.out
          rw [if_neg (fun h => h2 h.2), List.append_nil] at hcs
          have HC2 := Lib.hid hcs; clear hcs HCS
          have hown3 : (wr.drewN m).ownsRow w.heap.size 40 4 u7 n (rcs (cutR (rs.take (k + 1)) f t)) := by rw [HC2.out]; exact hown
          have HO := Lib.hid hown3; have HBL := Lib.hid (below_drewN' hbel m)
          clear hown hown3 hbel
          go_wp2_with fail
          exact ⟨⟨k + 1, n, by omega, hn, by go_num, HO.out, HBL.out⟩, by simp [intOf]; omega⟩
      · have hcs := HCS.out
        rw [if_neg (fun h => h1 h.1), List.append_nil] at hcs
        have HC2 := Lib.hid hcs; clear hcs HCS
        have hown3 : (wr.drewN m).ownsRow w.heap.size 40 4 u7 n (rcs (cutR (rs.take (k + 1)) f t)) := by rw [HC2.out]; exact hown
        have HO := Lib.hid hown3; have HBL := Lib.hid (below_drewN' hbel m)
        clear hown hown3 hbel
        go_wp2_with fail
        exact ⟨⟨k + 1, n, by omega, hn, by go_num, HO.out, HBL.out⟩, by simp [intOf]; omega⟩
    · obtain rfl : k = rs.length := by omega
      rw [List.take_length] at hown
      obtain ⟨fq, hrv, hnv, hfv⟩ := Rd.of_own hown
      have HB := Lib.hid hbel; have HOW := Lib.hid hown; clear hbel hown
      go_wp2
      go_ret
      exact ⟨_, fq, rfl, hrv, hnv, hfv, HB.out, _, _, Nat.le_refl _, HOW.out⟩
end Go.Proofs.YtldimfmhbdhbnaaGreat
