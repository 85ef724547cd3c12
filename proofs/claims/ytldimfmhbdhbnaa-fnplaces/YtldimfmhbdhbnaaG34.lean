/-
  Rows copied into a new slice: the builtin copy where an element is four cells; the program's copyRows.
-/
import Derived.Test.YtldimfmhbdhbnaaG1
import Derived.Laws.CopyRow
import Derived.Laws.IdiomCopy
import Derived.Deep.RegionLaw
import Derived.Laws.AppendOwn
import Derived.Test.YtldimfmhbdhbnaaG24
import Derived.Test.YtldimfmhbdhbnaaG10
import Derived.Test.YtldimfmhbdhbnaaG26
namespace Go.Proofs.Ytldimfmhbdhbnaa
open Go.RowKit

set_option maxRecDepth 100000 in
set_option maxHeartbeats 1000000 in
theorem run_copy_rows (ty : TypeId) (w : World) (g n c : Nat) (A : Option Addr) (rs : List R) (fp : List Nat) (cur : Array Value) (t : TypeId) (hn : n = rs.length) (hg : w.heap[g]? = some (.cells cur t (0, 0))) (hc : cur.size = n * 4)
    (hr : Rd w 4 (.slice A n c) (rcs rs) fp) :
    (Builtin.copy_ #[24, 24] ty #[.slice (some ⟨g, 0, none⟩) n n, .slice A n c]).run Try.prog w = .ok (goInt n) (w.setRow g (rcs rs).toArray) := by
  obtain ⟨i, hi, hz, hsz, hby⟩ := infoRow
  have hl : (rcs rs).length = n * 4 := by rw [rcs_length, hn]
  have hone : ∀ u ∈ rcs rs, u.oneCell' = true := by
    intro u hu
    obtain ⟨r, _, hr⟩ := List.mem_flatMap.1 hu
    simp [rc] at hr; rcases hr with rfl | rfl | rfl | rfl <;> rfl
  have hst := run_storeCells_at Try.prog g 0 t (rcs rs) 0 cur w hg (by omega) hone
  have e : (cur.toList.take (0 + 0) ++ rcs rs ++ cur.toList.drop (0 + 0 + (rcs rs).length)).toArray = (rcs rs).toArray := by
    have : cur.toList.drop (0 + 0 + (rcs rs).length) = [] := List.drop_eq_nil_of_le (by rw [hl]; simp; omega)
    rw [this]; simp
  rw [e] at hst
  have hu := Try.underlying24
  obtain ⟨A', n', c', e', h1, h2, h3, h4⟩ := hr
  injection e' with q1 q2 q3
  subst q1 q2 q3
  rcases h4 with ⟨h0, _⟩ | ⟨b, off, rfl, _, _, hcell⟩
  · have hrs : rs = [] := List.eq_nil_of_length_eq_zero (by omega)
    subst hrs
    have hl0 : ∀ (x : Addr), (loadCells x 0).run Try.prog w = .ok #[] w := fun x => by simpa using run_loadCells_list (P := Try.prog) w x [] (by simp)
    have hw : w.setRow g (rcs []).toArray = w := by
      have : cur = #[] := Array.eq_empty_of_size_eq_zero (by omega)
      subst this
      exact setRow_self w g #[] t (0, 0) hg
    rw [hw]
    subst h0
    cases A <;> simp [Builtin.copy_, run_underlying hu, Builtin.lenOf, Builtin.firstCells, sizeOf, typeInfo, hi, hsz, storeCells, hl0]
  · have hf := run_firstCells_some (P := Try.prog) w 4 n ⟨b, off, none⟩ n c (rcs rs) hl (fun j u hu => by rw [Addr.add_lit]; exact hcell j u hu)
    simp [Builtin.copy_, run_underlying hu, Builtin.lenOf, sizeOf, typeInfo, hi, hsz, hf, hst]

theorem wpList_copy_r {P : Program} {w : World} {ops : Array Oper} {rest : List Oper} {o : Oper} {a : Act} {Q : Exit → Act → World → Prop} (hgd : o.guard = none) (d s : Operand) (t : TypeId)
    (ho : o.op = .call { callee := .builtin .copy, args := #[d, s], argTypes := #[t, t] }) (v u : Value) (hd : a.eval d = v) (hs : a.eval s = u) {v' : Value} {w' : World}
    (hr : (Builtin.copy_ #[t, t] o.type #[v, u]).run P w = .ok v' w') (h : wpList P ops Q rest (a.put o.dst v') w') : wpList P ops Q (o :: rest) a w := by
  refine wpList_plain hgd fun K hK => ?_
  unfold Oper.wp execOp
  simp only [ho, resolve, invoke, builtin, Sem.run_bind, Sem.run_pure, Result.andThen_ok, List.map_toArray, List.map_cons, List.map_nil, hd, hs, hr]
  exact hK _ _ h

set_option maxRecDepth 100000 in
set_option maxHeartbeats 1000000 in
theorem copyRows_c (A : Option Addr) (c : Nat) (rs : List R) (w : World) (fp : List Nat) (hs : rs.length ≤ 1048576) (ha : Rd w 4 (.slice A rs.length c) (rcs rs) fp) :
    Calls Try.prog 55 #[.slice A rs.length c] w (CopyRows w rs) := by
  have hmk : ∀ W : World, (Instr.makeSlice 24 (.int .i64 (rs.length : Int)) (.int .i64 (rs.length : Int))).run Try.prog W = .ok (.slice (some ⟨W.heap.size, 0, none⟩) rs.length rs.length) (W.alloc (.cells (partR rs 0) 34)) := by
    intro W
    rw [makeRowS _ (by omega), partR_zero]
  have hmax := ha.len_le
  have HR := Lib.hid (ha.alloc (.cells (partR rs 0) 34))
  have HG := Lib.hid (heap_new w (.cells (partR rs 0) 34) rfl)
  have HZ := Lib.hid (partR_size rs 0 (Nat.zero_le _))
  have HB := Lib.hid (below_new (w := w) (.cells (partR rs 0) 34))
  clear ha
  go_enter Try.func55, Try.ntmps55
  go_wp2_with (with_reducible refine wpList_copy_r rfl (.tmp 7) (.tmp 8) 24 rfl _ _ rfl rfl (run_copy_rows _ _ w.heap.size rs.length c A rs fp (partR rs 0) 34 rfl HG.out HZ.out HR.out) ?_)
  have hg := setRow_heap _ w.heap.size _ (rcs rs).toArray _ _ HG.out
  have hb : Below w.heap.size w ((w.alloc (.cells (partR rs 0) 34)).setRow w.heap.size (rcs rs).toArray) := HB.out.trans ⟨rfl, rfl, rfl, by simp [World.setRow], fun k hk => setRow_other _ w.heap.size k _ (by omega)⟩
  obtain ⟨fq, h1, h2, h3⟩ := Rd.fresh (w := w) (n := rs.length) (size := 4) (by unfold maxLen; omega) (rcs_length rs) hg (Nat.le_refl _)
  have HX := Lib.hid (And.intro h1 (And.intro h2 (And.intro h3 hb)))
  clear hg hb h1 h2 h3 hmk
  go_wp2
  go_ret
  exact ⟨_, _, fq, rfl, HX.out.1, HX.out.2.1, HX.out.2.2.1, HX.out.2.2.2⟩
end Go.Proofs.Ytldimfmhbdhbnaa

/-
  A slice of slices of rows that is made by appending copies.
-/
namespace Go.Proofs.Ytldimfmhbdhbnaa
open Go.RowKit

/-- vo is the call's own and holds the slices us, which read as ls, in blocks fs of their own. -/
structure CopF (w : World) (B : Nat) (vo : Value) (us : List Value) (fs : List (List Nat)) (ls : List (List R)) (T1 : TypeId) : Prop where
  own : w.ownsRow B T1 1 vo us.length us
  all : All3 (rowsK.P w) ls (us.map fun v => [v]) fs
  nf : NF w fs.flatten
  fr : From B fs.flatten
  nd : fs.flatten.Nodup
  ap : ∀ g, vo.ownBlock = some g → g ∉ fs.flatten
section
variable {w w' : World} {B : Nat} {vo : Value} {us : List Value} {fs : List (List Nat)} {ls : List (List R)} {T1 : TypeId}
theorem CopF.lt (h : CopF w B vo us fs ls T1) : ∀ b ∈ fs.flatten, b < w.heap.size := fun b hb => by
  obtain ⟨f, hf, hb⟩ := List.mem_flatten.1 hb
  obtain ⟨a, u, hp⟩ := h.all.each f hf
  exact rowsK.lt hp b hb
/-- Another block has grown. -/
theorem CopF.grown (h : CopF w B vo us fs ls T1) {row : Option Nat} (hg : w.grownBy w' row) (h1 : ∀ g, row = some g → g ∉ fs.flatten) (h2 : ∀ g, row = some g → vo.ownBlock ≠ some g) : CopF w' B vo us fs ls T1 := by
  have hb : ∀ b ∈ fs.flatten, w'.heap[b]? = w.heap[b]? := fun b hb => hg.block b (h.lt b hb) (fun e => h1 b e.symm hb)
  refine ⟨h.own.kept hg ?_, Kd.keeps h.all hg.size hb, h.nf.keep hb, h.fr, h.nd, h.ap⟩
  cases hv : vo.ownBlock with
  | none => exact .inl rfl
  | some g => exact .inr fun e => h2 g e.symm hv
theorem CopF.alloc (h : CopF w B vo us fs ls T1) (o : Obj) : CopF (w.alloc o) B vo us fs ls T1 :=
  h.grown (row := none) (World.grownBy_alloc w o none) (fun g e => by cases e) (fun g e => by cases e)
theorem CopF.drewN (h : CopF w B vo us fs ls T1) (n : Nat) : CopF (w.drewN n) B vo us fs ls T1 :=
  h.grown (row := none) ⟨rfl, rfl, rfl, Nat.le_refl _, fun _ _ _ => rfl⟩ (fun g e => by cases e) (fun g e => by cases e)
/-- One more. -/
theorem CopF.push (h : CopF w B vo us fs ls T1) {v' u : Value} {f : List Nat} {r : List R} (hr : Rd w 4 u (rcs r) f) (hn : NF w f) (hf : From B f) (hnew : ∀ b ∈ f, b ∉ fs.flatten) (hvo : ∀ g, vo.ownBlock = some g → g ∉ f)
    (hown : w'.ownsRow B T1 1 v' (us.length + 1) (us ++ [u])) (hg : w.grownBy w' vo.ownBlock) (hw : v'.ownBlock = vo.ownBlock ∨ v'.ownBlock = some w.heap.size) : CopF w' B v' (us ++ [u]) (fs ++ [f]) (ls ++ [r]) T1 := by
  have hb : ∀ b ∈ fs.flatten, w'.heap[b]? = w.heap[b]? := fun b hb => hg.block b (h.lt b hb) (fun e => h.ap b e.symm hb)
  have hb2 : ∀ b ∈ f, w'.heap[b]? = w.heap[b]? := fun b hb => hg.block b (hr.lt b hb) (fun e => hvo b e.symm hb)
  have hfl : (fs ++ [f]).flatten = fs.flatten ++ f := by simp
  refine ⟨by simpa using hown, ?_, ?_, ?_, ?_, ?_⟩
  · rw [List.map_append]
    exact (Kd.keeps h.all hg.size hb).snoc ⟨u, rfl, hr.keep hg.size hb2⟩
  · rw [hfl]; intro b hm
    rcases List.mem_append.1 hm with hm | hm
    · exact h.nf.keep hb b hm
    · exact hn.keep hb2 b hm
  · rw [hfl]; intro b hm
    rcases List.mem_append.1 hm with hm | hm
    · exact h.fr b hm
    · exact hf b hm
  · rw [hfl]
    exact List.nodup_append.2 ⟨h.nd, hr.nodup, fun a ha b hb e => hnew b hb (e ▸ ha)⟩
  · rw [hfl]; intro g hg' hm
    rcases hw with hw | hw
    · rw [hw] at hg'
      rcases List.mem_append.1 hm with hm | hm
      · exact h.ap g hg' hm
      · exact hvo g hg' hm
    · rw [hw] at hg'; injection hg' with hg'; subst hg'
      rcases List.mem_append.1 hm with hm | hm
      · have := h.lt _ hm; omega
      · have := hr.lt _ hm; omega
theorem CopF.nil (w : World) (B : Nat) (T1 : TypeId) : CopF w B (.slice none 0 0) [] [] [] T1 :=
  ⟨World.ownsRow_nil _ _ _ _, trivial, NF.nil _, From.nil _, by simp, fun g hg => by simp [Value.ownBlock] at hg⟩
/-- It reads. -/
theorem CopF.done (h : CopF w B vo us fs ls T1) : ∃ fp, RdF w vo ls fp ∧ NF w fp ∧ From B fp ∧ fp.Nodup := by
  obtain ⟨f0, r1, r2, r3, r4⟩ := Rd.of_own6 h.own
  have hfl : (us.map fun v => [v]).flatten = us := by
    have : ∀ us : List Value, (us.map fun v => [v]).flatten = us := fun us => by
      induction us with
      | nil => rfl
      | cons a t ih => rw [List.map_cons, List.flatten_cons, ih]; rfl
    exact this us
  refine ⟨f0 ++ fs.flatten, ⟨us.map fun v => [v], f0, fs, by rw [hfl]; exact r1, h.all, rfl⟩, ?_, ?_, ?_⟩
  · intro b hm
    rcases List.mem_append.1 hm with hm | hm
    · exact r2 b hm
    · exact h.nf b hm
  · intro b hm
    rcases List.mem_append.1 hm with hm | hm
    · exact r3 b hm
    · exact h.fr b hm
  · exact List.nodup_append.2 ⟨r1.nodup, h.nd, fun a ha b hb e => h.ap a (r4 a ha) (e ▸ hb)⟩
end
theorem rd1_new {w : World} {u : Value} {t : TypeId} : ∀ j x, [u][j]? = some x → (w.alloc (.cells #[u] t)).cell? ((⟨w.heap.size, 0, none⟩ : Addr).add j) = some x := by
  intro j x hx
  rw [Addr.add_lit, cell_of_heap (heap_new w _ rfl)]
  match j, hx with
  | 0, hx => simpa using hx
/-- One element of a slice of slices of rows is replaced. -/
theorem Sl.put {w : World} {v : Value} {l : List (List R)} {fp : List Nat} (h : RdF w v l fp) (hnd : fp.Nodup) {i : Nat} (hi : i < l.length) :
    ∃ c b off old, v = .slice (some ⟨b, off, none⟩) l.length c ∧ b ∈ fp ∧ b < w.heap.size ∧ w.cell? ⟨b, off + i, none⟩ = some old ∧
      ∀ (w' : World) (u : Value) (a' : List R) (f' : List Nat), But [b] w w' → w'.cell? ⟨b, off + i, none⟩ = some u → (∀ j, j ≠ i → w'.cell? ⟨b, off + j, none⟩ = w.cell? ⟨b, off + j, none⟩) → Rd w' 4 u (rcs a') f' → (∀ x ∈ f', x ∉ fp) →
        ∃ fq, RdF w' v (l.set i a') fq ∧ fq.Nodup ∧ ∀ x ∈ fq, x ∈ fp ∨ x ∈ f' := by
  obtain ⟨A, c, rfl, hmx⟩ := Sl.form h
  have h' := h
  obtain ⟨us, f0, fs, hr, ha, rfl⟩ := h'
  have ha' := ha
  rw [← List.take_append_drop i l] at ha'
  obtain ⟨ua, ub, fa, fb, rfl, rfl, h1, h2⟩ := ha'.split
  rw [List.drop_eq_getElem_cons hi] at h2
  obtain ⟨u0, ub, f, fb, rfl, rfl, ⟨v0, rfl, hp⟩, h22⟩ := h2.cons
  have hla : fa.length = i := by rw [h1.len.2, List.length_take]; omega
  have hlu : ua.length = i := by rw [h1.len.1, List.length_take]; omega
  have hlt := Sl.lt h
  simp only [List.flatten_append, List.flatten_cons] at hnd
  have n1 := List.nodup_append.1 hnd
  have n2 := List.nodup_append.1 n1.2.1
  have n3 := List.nodup_append.1 n2.2.1
  have hua : ∀ u ∈ ua, u.length = 1 := Kd.lens (k := rowsK) h1
  have hub : ∀ u ∈ ub, u.length = 1 := Kd.lens (k := rowsK) h22
  have hfua : ua.flatten.length = i := by rw [flat_len hua, hlu, Nat.mul_one]
  have hfl : (ua ++ [v0] :: ub).flatten = ua.flatten ++ v0 :: ub.flatten := by simp
  rw [hfl] at hr
  obtain ⟨A', n', c', e, e1, e2, e3, e4⟩ := hr
  injection e with q1 q2 q3
  subst q1 q2 q3
  rcases e4 with ⟨e4, _⟩ | ⟨b, off, rfl, rfl, hbl, hc⟩
  · omega
  refine ⟨c, b, off, v0, rfl, by simp, hbl, ?_, fun w' u a' f' hbut hcu hco hrd hnew => ?_⟩
  · exact hc i v0 (by rw [List.getElem?_append_right (by omega), hfua]; simp)
  · have hbn : ∀ x ∈ (fa ++ f :: fb).flatten, x ∉ [b] := fun x hx he => by simp at he; subst he; exact n1.2.2 x (by simp) x (by simpa using hx) rfl
    have k1 := Kd.keeps h1 hbut.size fun x hx => hbut.block x (hlt x (by simp [hx])) (hbn x (by simp [hx]))
    have k2 := Kd.keeps h22 hbut.size fun x hx => hbut.block x (hlt x (by simp [hx])) (hbn x (by simp [hx]))
    have hs : l.set i a' = l.take i ++ a' :: l.drop (i + 1) := by rw [List.set_eq_take_append_cons_drop, if_pos hi]
    have hfl2 : (ua ++ [u] :: ub).flatten = ua.flatten ++ u :: ub.flatten := by simp
    refine ⟨[b] ++ (fa ++ f' :: fb).flatten, ⟨ua ++ [u] :: ub, [b], fa ++ f' :: fb, ?_, ?_, rfl⟩, ?_, ?_⟩
    · rw [hfl2]
      refine ⟨_, _, c, rfl, by simp only [List.length_append, List.length_cons] at e1 ⊢; exact e1, e2, e3, .inr ⟨b, off, rfl, rfl, Nat.lt_of_lt_of_le hbl hbut.size, fun j x hx => ?_⟩⟩
      by_cases hj : j = i
      · subst hj
        rw [List.getElem?_append_right (by omega), hfua, Nat.sub_self] at hx
        simp at hx; subst hx; exact hcu
      · rw [hco j hj]
        refine hc j x ?_
        by_cases hji : j < i
        · rw [List.getElem?_append_left (by omega)] at hx ⊢; exact hx
        · rw [List.getElem?_append_right (by omega), hfua] at hx ⊢
          obtain ⟨d, hd⟩ : ∃ d, j - i = d + 1 := ⟨j - i - 1, by omega⟩
          rw [hd] at hx ⊢
          simpa using hx
    · rw [hs]
      exact k1.append ⟨⟨u, rfl, hrd⟩, k2⟩
    · simp only [List.flatten_append, List.flatten_cons]
      have hn : ∀ x ∈ f', x ∉ [b] ++ (fa.flatten ++ (f ++ fb.flatten)) := fun x hx => by simpa using hnew x hx
      refine List.nodup_append.2 ⟨n1.1, List.nodup_append.2 ⟨n2.1, List.nodup_append.2 ⟨hrd.nodup, n3.2.1, fun x hx y hy e => hn x hx (by subst e; simp [hy])⟩, fun x hx y hy e => ?_⟩, fun x hx y hy e => ?_⟩
      · subst e
        rcases List.mem_append.1 hy with hy | hy
        · exact hn x hy (by simp [hx])
        · exact n2.2.2 x hx x (by simp [hy]) rfl
      · subst e
        rcases List.mem_append.1 hy with hy | hy
        · exact n1.2.2 x hx x (by simp [hy]) rfl
        · rcases List.mem_append.1 hy with hy | hy
          · exact hn x hy (by simp at hx; simp [hx])
          · exact n1.2.2 x hx x (by simp [hy]) rfl
    · intro x hx
      simp only [List.flatten_append, List.flatten_cons, List.mem_append] at hx ⊢
      rcases hx with hx | hx | hx | hx
      · exact .inl (.inl hx)
      · exact .inl (.inr (.inl hx))
      · exact .inr hx
      · exact .inl (.inr (.inr (.inr hx)))
end Go.Proofs.Ytldimfmhbdhbnaa

/-
  A result of a code and rows that lies in a block of its own.
-/
namespace Go.Proofs.Ytldimfmhbdhbnaa
open Go.RowKit
/-- A block g of its own that holds a code and rows in memory of their own, made since w1. -/
structure Got6 (w1 : World) (C : Int) (L : List R) (g : Nat) (A : Option Addr) (c : Nat) (fv : List Nat) (wc : World) : Prop where
  blk : wc.heap[g]? = some (.cells #[.int .i64 C, .slice A L.length c] 41 (0, 0))
  rd : Rd wc 4 (.slice A L.length c) (rcs L) fv
  nf : NF wc fv
  fr : From w1.heap.size fv
  lo : w1.heap.size ≤ g
  ap : g ∉ fv
  bel : Below w1.heap.size w1 wc
theorem got6_new {w1 x : World} {C : Int} {L : List R} {A : Option Addr} {c : Nat} {fv : List Nat} (hr : Rd x 4 (.slice A L.length c) (rcs L) fv) (hn : NF x fv) (hf : From w1.heap.size fv) (hb : Below w1.heap.size w1 x) :
    Got6 w1 C L x.heap.size A c fv (x.alloc (.cells #[.int .i64 C, .slice A L.length c] 41)) :=
  ⟨heap_new x _ rfl, hr.alloc _, hn.keep fun b hb => Below.heap_alloc _ _ _ (hr.lt b hb), hf, hb.size, fun h => by have := hr.lt _ h; omega, hb.alloc hb.size _⟩
theorem got6_set {w1 x : World} {C : Int} {L : List R} {A : Option Addr} {c g : Nat} {fv : List Nat} {u v : Value} (hg : x.heap[g]? = some (.cells #[u, v] 41 (0, 0))) (hlo : w1.heap.size ≤ g) (hap : From (g + 1) fv)
    (hr : Rd x 4 (.slice A L.length c) (rcs L) fv) (hn : NF x fv) (hb : Below w1.heap.size w1 x) :
    Got6 w1 C L g A c fv ((x.setCell ⟨g, 0, none⟩ (.int .i64 C)).setCell ⟨g, 1, none⟩ (.slice A L.length c)) := by
  have hbut := But.two x g 0 1 (.int .i64 C) (.slice A L.length c)
  have hd : ∀ b ∈ fv, b ∉ [g] := fun b hm h => by have := hap b hm; simp at h; omega
  exact ⟨by simp [World.setCell, Array.getElem?_modify, hg], hr.but hbut hd, hn.but hbut hr.lt hd, fun b hm => by have := hap b hm; omega, hlo, fun h => by have := hap _ h; omega, hb.trans (hbut.below hb.size (by intro b hm; simp at hm; omega))⟩
end Go.Proofs.Ytldimfmhbdhbnaa
