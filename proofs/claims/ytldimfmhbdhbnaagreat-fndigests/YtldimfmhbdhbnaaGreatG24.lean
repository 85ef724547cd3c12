/-
  'append(out, xs...)', out the call's own, xs read wherever it lies: nil, empty or not.
-/
import Derived.Test.YtldimfmhbdhbnaaGreatG26
import Derived.Laws.AppendOwnNone
import Derived.OwnWalk
import Derived.Test.YtldimfmhbdhbnaaGreatG10
import Derived.Deep.Slices
namespace Go.Proofs.YtldimfmhbdhbnaaGreat
open Go.RowKit

theorem append_cap (t ty : TypeId) (v : Value) (c : Nat) : Builtin.append_ #[t, t] ty #[v, .slice none 0 c] = Builtin.append_ #[t, t] ty #[v, .slice none 0 0] := rfl

theorem wpList_append_rd {P : Program} {w : World} {ops : Array Oper} {rest : List Oper} {o : Oper} {a : Act} {Q : Exit → Act → World → Prop} (hgd : o.guard = none) (s x : Operand) (t : TypeId)
    (ho : o.op = .call { callee := .builtin .append, args := #[s, x], argTypes := #[t, t] })
    (base : Nat) (e : TypeId) (i : TypeInfo) (z : Value) (size bytes : Nat) (ht : P.underlying t = some (.slice e)) (hi : P.info? e = some i) (hz : i.zero = some z)
    (hsize : i.size = size) (hby : i.bytes = bytes) (hzs : z.cells.size = size) (hsz : 0 < size)
    (v : Value) (n : Nat) (xs : List Value) (hs : a.eval s = v) (hown : w.ownsRow base e size v n xs)
    (A : Option Addr) (m c : Nat) (news : List Value) (fp : List Nat) (hx : a.eval x = .slice A m c) (hr : Rd w size (.slice A m c) news fp) (h1 : ∀ u ∈ news, u.oneCell' = true)
    (h63 : n + m ≤ maxLen) (hbytes : (n + m) * bytes ≤ 140737488355328) (hbase : base ≤ w.heap.size)
    (h : ∀ v' w', w'.ownsRow base e size v' (n + m) (xs ++ news) → w.grownBy w' v.ownBlock → wpList P ops Q rest (a.put o.dst v') w') : wpList P ops Q (o :: rest) a w := by
  obtain ⟨A', n', c', he, hl, _, _, hcase⟩ := hr
  cases he
  rcases A with _ | ad
  · have hm : m = 0 := by
      rcases hcase with ⟨h0, _⟩ | ⟨b, off, h0, _⟩
      · exact h0
      · cases h0
    subst hm
    have hn : news = [] := List.eq_nil_of_length_eq_zero (by simpa using hl)
    subst hn
    refine wpList_plain hgd fun K hK => ?_
    have hrun := run_append_owned_none (P := P) (w := w) base t o.type e i size ht hi v n xs hown
    unfold Oper.wp
    simp [execOp, ho, resolve, invoke, builtin, hs, hx, append_cap, hrun, Result.andThen]
    exact hK _ _ (h v w (by simpa using hown) (World.grownBy.refl w _))
  · have hcells : ∀ j u, news[j]? = some u → w.cell? (ad.add j) = some u := by
      intro j u hu
      rcases hcase with ⟨h0, _⟩ | ⟨b, off, h0, _, _, hc⟩
      · subst h0
        have hn : news = [] := List.eq_nil_of_length_eq_zero (by simpa using hl)
        subst hn; simp at hu
      · cases h0
        rw [Addr.add_lit]; exact hc j u hu
    exact wpList_append_own w hgd s x t ho base e i z size bytes ht hi hz hsize hby hzs hsz v n xs hs hown ad m c news hx hl hcells h1 h63 hbytes hbase fun v' w' h2 h3 _ => h v' w' h2 h3
end Go.Proofs.YtldimfmhbdhbnaaGreat

/-
  'append(out, xs...)' as a step of a region that draws its order; out the call's own, xs read wherever it lies: nil, empty or not.
-/
namespace Go.Proofs.YtldimfmhbdhbnaaGreat
open Go.RowKit

theorem wp_append_rd {P : Program} {w : World} {o : Oper} {a : Act} {K : Act → World → Prop} {Q : Exit → Act → World → Prop} (s x : Operand) (t : TypeId)
    (ho : o.op = .call { callee := .builtin .append, args := #[s, x], argTypes := #[t, t] })
    (base : Nat) (e : TypeId) (i : TypeInfo) (z : Value) (size bytes : Nat) (ht : P.underlying t = some (.slice e)) (hi : P.info? e = some i) (hz : i.zero = some z)
    (hsize : i.size = size) (hby : i.bytes = bytes) (hzs : z.cells.size = size) (hsz : 0 < size)
    (v : Value) (n : Nat) (xs : List Value) (hs : a.eval s = v) (hown : w.ownsRow base e size v n xs)
    (A : Option Addr) (m c : Nat) (news : List Value) (fp : List Nat) (hx : a.eval x = .slice A m c) (hr : Rd w size (.slice A m c) news fp) (h1 : ∀ u ∈ news, u.oneCell' = true)
    (h63 : n + m ≤ maxLen) (hbytes : (n + m) * bytes ≤ 140737488355328) (hbase : base ≤ w.heap.size)
    (h : ∀ v' w', w'.ownsRow base e size v' (n + m) (xs ++ news) → w.grownBy w' v.ownBlock → K (a.put o.dst v') w') : Oper.wp P o a w K Q := by
  obtain ⟨A', n', c', he, hl, _, _, hcase⟩ := hr
  cases he
  rcases A with _ | ad
  · have hm : m = 0 := by
      rcases hcase with ⟨h0, _⟩ | ⟨b, off, h0, _⟩
      · exact h0
      · cases h0
    subst hm
    have hn : news = [] := List.eq_nil_of_length_eq_zero (by simpa using hl)
    subst hn
    have hrun := run_append_owned_none (P := P) (w := w) base t o.type e i size ht hi v n xs hown
    unfold Oper.wp
    simp [execOp, ho, resolve, invoke, builtin, hs, hx, append_cap, hrun, Result.andThen]
    exact h v w (by simpa using hown) (World.grownBy.refl w _)
  · have hcells : ∀ j u, news[j]? = some u → w.cell? (ad.add j) = some u := by
      intro j u hu
      rcases hcase with ⟨h0, _⟩ | ⟨b, off, h0, _, _, hc⟩
      · subst h0
        have hn : news = [] := List.eq_nil_of_length_eq_zero (by simpa using hl)
        subst hn; simp at hu
      · cases h0
        rw [Addr.add_lit]; exact hc j u hu
    exact wp_append_own w s x t ho base e i z size bytes ht hi hz hsize hby hzs hsz v n xs hs hown ad m c news hx hl hcells h1 h63 hbytes hbase fun v' w' h2 h3 _ => h v' w' h2 h3
theorem step_append_rd {P : Program} {w : World} {ops : Array Oper} {o : Oper} {a : Act} {K : Act → World → Prop} {Q : Exit → Act → World → Prop} {E : Prop} (hgd : o.guard = none) (s x : Operand) (t : TypeId)
    (ho : o.op = .call { callee := .builtin .append, args := #[s, x], argTypes := #[t, t] })
    (base : Nat) (e : TypeId) (i : TypeInfo) (z : Value) (size bytes : Nat) (ht : P.underlying t = some (.slice e)) (hi : P.info? e = some i) (hz : i.zero = some z)
    (hsize : i.size = size) (hby : i.bytes = bytes) (hzs : z.cells.size = size) (hsz : 0 < size)
    (v : Value) (n : Nat) (xs : List Value) (hs : a.eval s = v) (hown : w.ownsRow base e size v n xs)
    (A : Option Addr) (m c : Nat) (news : List Value) (fp : List Nat) (hx : a.eval x = .slice A m c) (hr : Rd w size (.slice A m c) news fp) (h1 : ∀ u ∈ news, u.oneCell' = true)
    (h63 : n + m ≤ maxLen) (hbytes : (n + m) * bytes ≤ 140737488355328) (hbase : base ≤ w.heap.size)
    (h : ∀ v' w', w'.ownsRow base e size v' (n + m) (xs ++ news) → w.grownBy w' v.ownBlock → K (a.put o.dst v') w') :
    if Region.wanted o (yielded ops a.tmps) = true then Oper.wp P o a w K Q else E := by
  have hw : Region.wanted o (yielded ops a.tmps) = true := by simp [Region.wanted, hgd]
  rw [if_pos hw]
  exact wp_append_rd s x t ho base e i z size bytes ht hi hz hsize hby hzs hsz v n xs hs hown A m c news fp hx hr h1 h63 hbytes hbase h
end Go.Proofs.YtldimfmhbdhbnaaGreat

/-
  Where what append answers lies: in the block that the slice lay in, or in a new one.
-/
namespace Go.Proofs.YtldimfmhbdhbnaaGreat
open Go.RowKit

theorem append_where {P : Program} {w : World} (base : Nat) (t ty e : TypeId) (i : TypeInfo) (z : Value) (size bytes : Nat) (ht : P.underlying t = some (.slice e)) (hi : P.info? e = some i) (hz : i.zero = some z)
    (hsize : i.size = size) (hby : i.bytes = bytes)
    (v : Value) (n : Nat) (xs : List Value) (hown : w.ownsRow base e size v n xs)
    (a : Addr) (m c : Nat) (news : List Value) (hl : news.length = m * size) (hnews : ∀ j u, news[j]? = some u → w.cell? (a.add j) = some u) (h1 : ∀ u ∈ news, u.oneCell' = true)
    (h63 : n + m ≤ maxLen) (hbytes : (n + m) * bytes ≤ 140737488355328) (hm : 0 < m) {v' : Value} {w' : World}
    (hrun : (Builtin.append_ #[t, t] ty #[v, .slice (some a) m c]).run P w = .ok v' w') : v'.ownBlock = v.ownBlock ∨ v'.ownBlock = some w.heap.size := by
  subst hsize
  subst hby
  have h63' : n + m ≤ 9223372036854775807 := by unfold maxLen at h63; omega
  rcases hown.2 with ⟨rfl, rfl⟩ | ⟨g, cap, cur, rfl, hbg, hg, hnc, hcm, hcs, htake⟩
  · have hr := run_append_nil (P := P) w t ty e i z ht hi hz a m c news hl hnews (by omega) (by omega) (by have hb := hbytes; simp only [Nat.zero_add] at hb; omega)
    rw [hr] at hrun
    injection hrun with h2 h3
    subst h2
    exact .inr rfl
  · by_cases hroom : n + m ≤ cap
    · have hfit : n * i.size + news.length ≤ cur.size := by rw [hl, hcs, ← Nat.add_mul]; exact Nat.mul_le_mul_right _ hroom
      have hr := run_append_room (P := P) w t ty e i ht hi g n cap cur hg a m c news hl hnews h1 hroom hfit
      rw [hr] at hrun
      injection hrun with h2 h3
      subst h2
      exact .inl rfl
    · have holds : ∀ j u, xs[j]? = some u → w.cell? ((⟨g, 0, none⟩ : Addr).add j) = some u := hown.cells (g := g) rfl
      have hr := run_append_grow (P := P) w t ty e i z ht hi hz ⟨g, 0, none⟩ n cap xs hown.1 holds a m c news hl hnews (by omega) (by omega) (growslice_fits (by omega) hbytes)
      rw [hr] at hrun
      injection hrun with h2 h3
      subst h2
      exact .inr rfl
/-- 'append(v, x..)', v the call's own, with where it lies, as a step of a region. -/
theorem wp_append_o {P : Program} {w : World} {o : Oper} {a : Act} {K : Act → World → Prop} {Q : Exit → Act → World → Prop} (s x : Operand) (t : TypeId)
    (ho : o.op = .call { callee := .builtin .append, args := #[s, x], argTypes := #[t, t] })
    (base : Nat) (e : TypeId) (i : TypeInfo) (z : Value) (size bytes : Nat) (ht : P.underlying t = some (.slice e)) (hi : P.info? e = some i) (hz : i.zero = some z)
    (hsize : i.size = size) (hby : i.bytes = bytes) (hzs : z.cells.size = size) (hsz : 0 < size)
    (v : Value) (n : Nat) (xs : List Value) (hs : a.eval s = v) (hown : w.ownsRow base e size v n xs)
    (ad : Addr) (m c : Nat) (news : List Value) (hx : a.eval x = .slice (some ad) m c) (hl : news.length = m * size) (hnews : ∀ j u, news[j]? = some u → w.cell? (ad.add j) = some u) (h1 : ∀ u ∈ news, u.oneCell' = true)
    (h63 : n + m ≤ maxLen) (hbytes : (n + m) * bytes ≤ 140737488355328) (hbase : base ≤ w.heap.size) (hm : 0 < m)
    (h : ∀ v' w', w'.ownsRow base e size v' (n + m) (xs ++ news) → w.grownBy w' v.ownBlock → (v'.ownBlock = v.ownBlock ∨ v'.ownBlock = some w.heap.size) → K (a.put o.dst v') w') : o.wp P a w K Q := by
  obtain ⟨v', w', hr, h2, h3, h4⟩ := run_append_own (P := P) w base t o.type e i z size bytes ht hi hz hsize hby hzs hsz v n xs hown ad m c news hl hnews h1 h63 hbytes hbase
  have hw := append_where base t o.type e i z size bytes ht hi hz hsize hby v n xs hown ad m c news hl hnews h1 h63 hbytes hm hr
  unfold Oper.wp execOp
  simp only [ho, resolve, invoke, builtin, Sem.run_bind, Sem.run_pure, Result.andThen_ok, List.map_toArray, List.map_cons, List.map_nil, hs, hx, hr]
  exact h v' w' h2 h3 hw
theorem step_append_o {P : Program} {w : World} {ops : Array Oper} {o : Oper} {a : Act} {K : Act → World → Prop} {Q : Exit → Act → World → Prop} {E : Prop} (hgd : o.guard = none) (s x : Operand) (t : TypeId)
    (ho : o.op = .call { callee := .builtin .append, args := #[s, x], argTypes := #[t, t] })
    (base : Nat) (e : TypeId) (i : TypeInfo) (z : Value) (size bytes : Nat) (ht : P.underlying t = some (.slice e)) (hi : P.info? e = some i) (hz : i.zero = some z)
    (hsize : i.size = size) (hby : i.bytes = bytes) (hzs : z.cells.size = size) (hsz : 0 < size)
    (v : Value) (n : Nat) (xs : List Value) (hs : a.eval s = v) (hown : w.ownsRow base e size v n xs)
    (ad : Addr) (m c : Nat) (news : List Value) (hx : a.eval x = .slice (some ad) m c) (hl : news.length = m * size) (hnews : ∀ j u, news[j]? = some u → w.cell? (ad.add j) = some u) (h1 : ∀ u ∈ news, u.oneCell' = true)
    (h63 : n + m ≤ maxLen) (hbytes : (n + m) * bytes ≤ 140737488355328) (hbase : base ≤ w.heap.size) (hm : 0 < m)
    (h : ∀ v' w', w'.ownsRow base e size v' (n + m) (xs ++ news) → w.grownBy w' v.ownBlock → (v'.ownBlock = v.ownBlock ∨ v'.ownBlock = some w.heap.size) → K (a.put o.dst v') w') :
    if Region.wanted o (yielded ops a.tmps) = true then Oper.wp P o a w K Q else E := by
  have hw : Region.wanted o (yielded ops a.tmps) = true := by simp [Region.wanted, hgd]
  rw [if_pos hw]
  exact wp_append_o s x t ho base e i z size bytes ht hi hz hsize hby hzs hsz v n xs hs hown ad m c news hx hl hnews h1 h63 hbytes hbase hm h

/-- Several slices of rows, each in a block of its own from B on. -/
structure OwnF (w : World) (B : Nat) (vs : List Value) (ls : List (List R)) (T : TypeId) : Prop where
  len : vs.length = ls.length
  own : ∀ j (h : j < ls.length), ∃ v n, vs[j]? = some v ∧ w.ownsRow B T 4 v n (rcs ls[j])
  apart : ∀ (i j : Nat) (vi vj : Value) (g : Nat), i ≠ j → vs[i]? = some vi → vs[j]? = some vj → vi.ownBlock = some g → vj.ownBlock ≠ some g
theorem OwnF.kept {w w' : World} {B : Nat} {vs : List Value} {ls : List (List R)} {T : TypeId} (h : OwnF w B vs ls T) (hg : ∀ v n xs, w.ownsRow B T 4 v n xs → w'.ownsRow B T 4 v n xs) : OwnF w' B vs ls T :=
  ⟨h.len, fun j hj => by obtain ⟨v, n, h1, h2⟩ := h.own j hj; exact ⟨v, n, h1, hg v n _ h2⟩, h.apart⟩
theorem own_lt6 {w : World} {base : Nat} {e : TypeId} {size n g : Nat} {v : Value} {xs : List Value} (h : w.ownsRow base e size v n xs) (hg : v.ownBlock = some g) : g < w.heap.size := by
  rcases h.2 with ⟨rfl, _⟩ | ⟨g', cap, cur, rfl, hb, hh, _⟩
  · simp [Value.ownBlock] at hg
  · simp [Value.ownBlock] at hg; subst hg; exact heap_lt hh
/-- One of them is appended to. -/
theorem OwnF.step {w w' : World} {B : Nat} {vs : List Value} {ls : List (List R)} {T : TypeId} (h : OwnF w B vs ls T) {j : Nat} (hj : j < ls.length) {v v' : Value} (hv : vs[j]? = some v) {n : Nat} {l' : List R} (hown : w'.ownsRow B T 4 v' n (rcs l')) (hgr : w.grownBy w' v.ownBlock)
    (hw : v'.ownBlock = v.ownBlock ∨ v'.ownBlock = some w.heap.size) : OwnF w' B (vs.set j v') (ls.set j l') T := by
  have hjv : j < vs.length := by rw [h.len]; exact hj
  refine ⟨by simp [h.len], fun k hk => ?_, fun a b va vb g hab ha hb hga => ?_⟩
  · rw [List.length_set] at hk
    by_cases e : j = k
    · subst e
      exact ⟨v', n, by rw [List.getElem?_set_self hjv], by simpa using hown⟩
    · obtain ⟨u, m, h1, h2⟩ := h.own k hk
      refine ⟨u, m, by rw [List.getElem?_set_ne e]; exact h1, ?_⟩
      rw [List.getElem_set_ne e]
      refine h2.kept hgr ?_
      cases hu : u.ownBlock with
      | none => exact .inl rfl
      | some g => exact .inr fun e2 => h.apart k j u v g (Ne.symm e) h1 hv hu e2.symm
  · have old : ∀ k u g, k ≠ j → vs[k]? = some u → u.ownBlock = some g → g < w.heap.size := fun k u g _ hk hg => by
      have hkl : k < ls.length := by rw [← h.len]; exact (List.getElem?_eq_some_iff.1 hk).1
      obtain ⟨u', m, h1, h2⟩ := h.own k hkl
      rw [hk] at h1; injection h1 with h1; subst h1
      exact own_lt6 h2 hg
    by_cases ea : j = a
    · subst ea
      rw [List.getElem?_set_self hjv] at ha; injection ha with ha; subst ha
      rw [List.getElem?_set_ne hab] at hb
      intro hgb
      rcases hw with hw | hw
      · exact h.apart j b v vb g hab hv hb (by rw [← hw]; exact hga) hgb
      · rw [hga] at hw; injection hw with hw
        have := old b vb g (Ne.symm hab) hb hgb; omega
    · rw [List.getElem?_set_ne ea] at ha
      by_cases eb : j = b
      · subst eb
        rw [List.getElem?_set_self hjv] at hb; injection hb with hb; subst hb
        intro hgb
        rcases hw with hw | hw
        · exact h.apart a j va v g hab ha hv hga (by rw [← hw]; exact hgb)
        · rw [hgb] at hw; injection hw with hw
          have := old a va g (Ne.symm ea) ha hga; omega
      · rw [List.getElem?_set_ne eb] at hb
        exact h.apart a b va vb g hab ha hb hga
theorem Rd.of_own6 {w : World} {base : Nat} {e : TypeId} {size n : Nat} {v : Value} {xs : List Value} (h : w.ownsRow base e size v n xs) :
    ∃ fp, Rd w size v xs fp ∧ NF w fp ∧ From base fp ∧ ∀ b ∈ fp, v.ownBlock = some b := by
  obtain ⟨fp, h1, h2, h3⟩ := Rd.of_own h
  refine ⟨fp, h1, h2, h3, fun b hb => ?_⟩
  obtain ⟨A, m, c, rfl, _, _, _, h4⟩ := h1
  rcases h4 with ⟨_, rfl⟩ | ⟨b', off, rfl, rfl, _⟩
  · cases hb
  · simp at hb; subst hb; rfl
/-- They read, and lie apart. -/
theorem OwnF.reads {w : World} {B : Nat} {vs : List Value} {ls : List (List R)} {T : TypeId} (h : OwnF w B vs ls T) :
    ∃ fs, All3 (rowsK.P w) ls (vs.map fun v => [v]) fs ∧ NF w fs.flatten ∧ From B fs.flatten ∧ fs.flatten.Nodup := by
  have each : ∀ j, j < ls.length → ∃ x : Value × List Nat, vs[j]? = some x.1 ∧ Rd w 4 x.1 (rcs (ls.getD j [])) x.2 ∧ NF w x.2 ∧ From B x.2 ∧ ∀ b ∈ x.2, x.1.ownBlock = some b := fun j hj => by
    obtain ⟨v, n, h1, h2⟩ := h.own j hj
    obtain ⟨fp, r1, r2, r3, r4⟩ := Rd.of_own6 h2
    exact ⟨(v, fp), h1, by rw [List.getD_eq_getElem?_getD, List.getElem?_eq_getElem hj]; exact r1, r2, r3, r4⟩
  obtain ⟨q, hq⟩ := Deep.choose_lt each
  have e1 : ls = (List.range ls.length).map fun j => ls.getD j [] := by
    apply List.ext_getElem?
    intro j
    by_cases hj : j < ls.length
    · simp [hj]
    · rw [List.getElem?_eq_none (by omega), List.getElem?_eq_none (by simp; omega)]
  have e2 : (vs.map fun v => [v]) = (List.range ls.length).map fun j => [(q j).1] := by
    apply List.ext_getElem?
    intro j
    by_cases hj : j < ls.length
    · rw [List.getElem?_map, (hq j hj).1]; simp [hj]
    · rw [List.getElem?_eq_none (by simp [h.len]; omega), List.getElem?_eq_none (by simp; omega)]
  have hmem : ∀ {b : Nat}, b ∈ ((List.range ls.length).map fun j => (q j).2).flatten → ∃ j, j < ls.length ∧ b ∈ (q j).2 := fun {b} hb => by
    obtain ⟨f, hf, hb⟩ := List.mem_flatten.1 hb
    obtain ⟨j, hj, rfl⟩ := List.mem_map.1 hf
    exact ⟨j, List.mem_range.1 hj, hb⟩
  refine ⟨(List.range ls.length).map fun j => (q j).2, ?_, ?_, ?_, ?_⟩
  · rw [e2]
    have : All3 (rowsK.P w) ((List.range ls.length).map fun j => ls.getD j []) ((List.range ls.length).map fun j => [(q j).1]) ((List.range ls.length).map fun j => (q j).2) := by
      have go : ∀ l : List Nat, (∀ j ∈ l, j < ls.length) → All3 (rowsK.P w) (l.map fun j => ls.getD j []) (l.map fun j => [(q j).1]) (l.map fun j => (q j).2) := by
        intro l
        induction l with
        | nil => intro _; trivial
        | cons a t ih => intro hl; exact ⟨⟨_, rfl, (hq a (hl a (by simp))).2.1⟩, ih fun j hj => hl j (by simp [hj])⟩
      exact go _ fun j hj => List.mem_range.1 hj
    rw [← e1] at this
    exact this
  · intro b hb i
    obtain ⟨j, hj, hb⟩ := hmem hb
    exact (hq j hj).2.2.1 b hb i
  · intro b hb
    obtain ⟨j, hj, hb⟩ := hmem hb
    exact (hq j hj).2.2.2.1 b hb
  · rw [List.Nodup, List.pairwise_flatten]
    refine ⟨fun f hf => ?_, ?_⟩
    · obtain ⟨j, hj, rfl⟩ := List.mem_map.1 hf
      exact (hq j (List.mem_range.1 hj)).2.1.nodup
    · rw [List.pairwise_map]
      refine List.Pairwise.imp_of_mem ?_ (List.nodup_range (n := ls.length))
      intro a b ha hb hab x hx y hy hxy
      subst hxy
      have h1 := (hq a (List.mem_range.1 ha)).2.2.2.2 x hx
      have h2 := (hq b (List.mem_range.1 hb)).2.2.2.2 x hy
      exact h.apart a b _ _ x hab (hq a (List.mem_range.1 ha)).1 (hq b (List.mem_range.1 hb)).1 h1 h2
end Go.Proofs.YtldimfmhbdhbnaaGreat
