/-
  The model's functions of chapter 7, fourth part: parts copied; a row written into parts. By a maker (gen7f.py).
-/
import Derived.Test.YtoabohllphoioaaGreatSpec7c
import Derived.Test.YtoabohllphoioaaGreatG14
namespace Go.Proofs.YtoabohllphoioaaGreat
open Go.RowKit

section
variable {α : Type} {kd : Kd α}
/-- vo is the call's own and holds the cells us, which read as ls, in blocks fs of their own. -/
structure CopG (kd : Kd α) (w : World) (B : Nat) (vo : Value) (us : List (List Value)) (fs : List (List Nat)) (ls : List α) (T1 : TypeId) : Prop where
  own : w.ownsRow B T1 kd.K vo us.length us.flatten
  all : All3 (kd.P w) ls us fs
  nf : NF w fs.flatten
  fr : From B fs.flatten
  nd : fs.flatten.Nodup
  ap : ∀ g, vo.ownBlock = some g → g ∉ fs.flatten
variable {w w' : World} {B : Nat} {vo : Value} {us : List (List Value)} {fs : List (List Nat)} {ls : List α} {T1 : TypeId}
theorem CopG.lt (h : CopG kd w B vo us fs ls T1) : ∀ b ∈ fs.flatten, b < w.heap.size := fun b hb => by
  obtain ⟨f, hf, hb⟩ := List.mem_flatten.1 hb
  obtain ⟨a, u, hp⟩ := h.all.each f hf
  exact kd.lt hp b hb
theorem CopG.grown (h : CopG kd w B vo us fs ls T1) {row : Option Nat} (hg : w.grownBy w' row) (h1 : ∀ g, row = some g → g ∉ fs.flatten) (h2 : ∀ g, row = some g → vo.ownBlock ≠ some g) : CopG kd w' B vo us fs ls T1 := by
  have hb : ∀ b ∈ fs.flatten, w'.heap[b]? = w.heap[b]? := fun b hb => hg.block b (h.lt b hb) (fun e => h1 b e.symm hb)
  refine ⟨h.own.kept hg ?_, Kd.keeps h.all hg.size hb, h.nf.keep hb, h.fr, h.nd, h.ap⟩
  cases hv : vo.ownBlock with
  | none => exact .inl rfl
  | some g => exact .inr fun e => h2 g e.symm hv
theorem CopG.alloc (h : CopG kd w B vo us fs ls T1) (o : Obj) : CopG kd (w.alloc o) B vo us fs ls T1 :=
  h.grown (row := none) (World.grownBy_alloc w o none) (fun g e => by cases e) (fun g e => by cases e)
theorem CopG.below (h : CopG kd w B vo us fs ls T1) (hb : Below w.heap.size w w') : CopG kd w' B vo us fs ls T1 :=
  h.grown (row := none) ⟨hb.os, hb.tape, hb.output, hb.size, fun k hk _ => hb.block k hk⟩ (fun g e => by cases e) (fun g e => by cases e)
theorem CopG.push (h : CopG kd w B vo us fs ls T1) {v' : Value} {u : List Value} {f : List Nat} {r : α} (hr : kd.P w r u f) (hn : NF w f) (hf : From B f) (hnd : f.Nodup) (hnew : ∀ b ∈ f, b ∉ fs.flatten) (hvo : ∀ g, vo.ownBlock = some g → g ∉ f)
    (hown : w'.ownsRow B T1 kd.K v' (us.length + 1) (us.flatten ++ u)) (hg : w.grownBy w' vo.ownBlock) (hw : v'.ownBlock = vo.ownBlock ∨ v'.ownBlock = some w.heap.size) : CopG kd w' B v' (us ++ [u]) (fs ++ [f]) (ls ++ [r]) T1 := by
  have hb : ∀ b ∈ fs.flatten, w'.heap[b]? = w.heap[b]? := fun b hb => hg.block b (h.lt b hb) (fun e => h.ap b e.symm hb)
  have hb2 : ∀ b ∈ f, w'.heap[b]? = w.heap[b]? := fun b hb => hg.block b (kd.lt hr b hb) (fun e => hvo b e.symm hb)
  have hfl : (fs ++ [f]).flatten = fs.flatten ++ f := by simp
  refine ⟨by simpa using hown, ?_, ?_, ?_, ?_, ?_⟩
  · exact (Kd.keeps h.all hg.size hb).snoc (kd.keep hr hg.size hb2)
  · rw [hfl]; intro b hm
    rcases List.mem_append.1 hm with hm | hm
    · exact h.nf.keep hb b hm
    · exact hn.keep hb2 b hm
  · rw [hfl]; intro b hm
    rcases List.mem_append.1 hm with hm | hm
    · exact h.fr b hm
    · exact hf b hm
  · rw [hfl]
    exact List.nodup_append.2 ⟨h.nd, hnd, fun a ha b hb e => hnew b hb (e ▸ ha)⟩
  · rw [hfl]; intro g hg' hm
    rcases hw with hw | hw
    · rw [hw] at hg'
      rcases List.mem_append.1 hm with hm | hm
      · exact h.ap g hg' hm
      · exact hvo g hg' hm
    · rw [hw] at hg'; injection hg' with hg'; subst hg'
      rcases List.mem_append.1 hm with hm | hm
      · have := h.lt _ hm; omega
      · have := kd.lt hr _ hm; omega
theorem CopG.done (h : CopG kd w B vo us fs ls T1) : ∃ fp, Sl kd w vo ls fp ∧ NF w fp ∧ From B fp ∧ fp.Nodup := by
  obtain ⟨f0, r1, r2, r3, r4⟩ := Rd.of_own6 h.own
  refine ⟨f0 ++ fs.flatten, ⟨us, f0, fs, r1, h.all, rfl⟩, ?_, ?_, ?_⟩
  · intro b hm
    rcases List.mem_append.1 hm with hm | hm
    · exact r2 b hm
    · exact h.nf b hm
  · intro b hm
    rcases List.mem_append.1 hm with hm | hm
    · exact r3 b hm
    · exact h.fr b hm
  · exact List.nodup_append.2 ⟨r1.nodup, h.nd, fun a ha b hb e => h.ap a (r4 a ha) (e ▸ hb)⟩
/-- One element is replaced, with blocks of its own. -/
theorem Sl.put2 {v : Value} {l : List α} {fp : List Nat} (h : Sl kd w v l fp) (hnd : fp.Nodup) {i : Nat} (hi : i < l.length) :
    ∃ c b off u f, v = .slice (some ⟨b, off, none⟩) l.length c ∧ b ∈ fp ∧ b < w.heap.size ∧ (∀ j x, u[j]? = some x → w.cell? ⟨b, off + i * kd.K + j, none⟩ = some x) ∧ kd.P w l[i] u f ∧ (∀ x ∈ f, x ∈ fp) ∧ b ∉ f ∧
      ∀ w' a' u' f', But [b] w w' → (∀ j x, u'[j]? = some x → w'.cell? ⟨b, off + i * kd.K + j, none⟩ = some x) → (∀ j, j < i * kd.K ∨ i * kd.K + kd.K ≤ j → w'.cell? ⟨b, off + j, none⟩ = w.cell? ⟨b, off + j, none⟩) →
        kd.P w' a' u' f' → f'.Nodup → (∀ x ∈ f', x ∉ fp) → ∃ fq, Sl kd w' v (l.set i a') fq ∧ fq.Nodup ∧ ∀ x ∈ fq, x ∈ fp ∨ x ∈ f' := by
  obtain ⟨A, c, rfl, hmx⟩ := h.form
  have h' := h
  obtain ⟨us, f0, fs, hr, ha, rfl⟩ := h'
  have ha' := ha
  rw [← List.take_append_drop i l] at ha'
  obtain ⟨ua, ub, fa, fb, rfl, rfl, h1, h2⟩ := ha'.split
  rw [List.drop_eq_getElem_cons hi] at h2
  obtain ⟨u, ub, f, fb, rfl, rfl, hp, h22⟩ := h2.cons
  have hlu : ua.length = i := by rw [h1.len.1, List.length_take]; omega
  simp only [List.flatten_append, List.flatten_cons] at hnd
  have n1 := List.nodup_append.1 hnd
  have n2 := List.nodup_append.1 n1.2.1
  have n3 := List.nodup_append.1 n2.2.1
  have hlt := h.lt
  obtain ⟨A', n', c', e, e1, e2, e3, e4⟩ := hr
  injection e with q1 q2 q3
  subst q1 q2 q3
  rcases e4 with ⟨e4, _⟩ | ⟨b, off, rfl, rfl, hbl, hc⟩
  · omega
  have hf : (ua ++ u :: ub)[i]? = some u := by rw [List.getElem?_append_right (by omega), hlu]; simp
  have hka : ua.flatten.length = i * kd.K := by rw [flat_len (Kd.lens h1), hlu]
  have hbn : ∀ x ∈ (fa ++ f :: fb).flatten, x ∉ [b] := fun x hx he => by simp at he; subst he; exact n1.2.2 x (by simp) x (by simpa using hx) rfl
  refine ⟨c, b, off, u, f, rfl, by simp, hbl, fun j x hx => ?_, hp, fun x hx => by simp [hx], fun hm => hbn b (by simp [hm]) (by simp), fun w' a' u' f' hbut hcu hco hp' hnd' hnew => ?_⟩
  · rw [Nat.add_assoc]
    have hj : j < kd.K := by
      have := (List.getElem?_eq_some_iff.1 hx).1
      rwa [kd.len hp] at this
    exact hc (i * kd.K + j) x (by rw [flat_get (Kd.lens ha) hf hj]; exact hx)
  · have hul' := kd.len hp'
    have hul := kd.len hp
    have k1 := Kd.keeps h1 hbut.size fun x hx => hbut.block x (hlt x (by simp [hx])) (hbn x (by simp [hx]))
    have k2 := Kd.keeps h22 hbut.size fun x hx => hbut.block x (hlt x (by simp [hx])) (hbn x (by simp [hx]))
    have hs : l.set i a' = l.take i ++ a' :: l.drop (i + 1) := by rw [List.set_eq_take_append_cons_drop, if_pos hi]
    refine ⟨[b] ++ (fa ++ f' :: fb).flatten, ⟨ua ++ u' :: ub, [b], fa ++ f' :: fb, ⟨_, _, c, rfl, ?_, e2, e3, .inr ⟨b, off, rfl, rfl, Nat.lt_of_lt_of_le hbl hbut.size, fun j x hx => ?_⟩⟩, ?_, rfl⟩, ?_, ?_⟩
    · rw [← e1]; simp [hul', hul]
    · simp only [List.flatten_append, List.flatten_cons] at hx hc
      by_cases j1 : j < i * kd.K
      · rw [hco j (.inl j1)]
        refine hc j x ?_
        rw [List.getElem?_append_left (by omega)] at hx ⊢
        exact hx
      · by_cases j2 : i * kd.K + kd.K ≤ j
        · rw [hco j (.inr j2)]
          refine hc j x ?_
          rw [List.getElem?_append_right (by omega), List.getElem?_append_right (by omega), hka] at hx ⊢
          rw [hul'] at hx
          rw [hul]
          exact hx
        · rw [List.getElem?_append_right (by omega), List.getElem?_append_left (by omega), hka] at hx
          have := hcu (j - i * kd.K) x hx
          rw [← this]
          congr 1
          congr 1
          omega
    · rw [hs]
      exact k1.append ⟨hp', k2⟩
    · simp only [List.flatten_append, List.flatten_cons]
      have hn : ∀ x ∈ f', x ∉ [b] ++ (fa.flatten ++ (f ++ fb.flatten)) := fun x hx => by simpa using hnew x hx
      refine List.nodup_append.2 ⟨n1.1, List.nodup_append.2 ⟨n2.1, List.nodup_append.2 ⟨hnd', n3.2.1, fun x hx y hy e => hn x hx (by subst e; simp [hy])⟩, fun x hx y hy e => ?_⟩, fun x hx y hy e => ?_⟩
      · subst e
        rcases List.mem_append.1 hy with hy | hy
        · exact hn x hy (by simp [hx])
        · exact n2.2.2 x hx x (by simp [hy]) rfl
      · subst e
        rcases List.mem_append.1 hy with hy | hy
        · exact n1.2.2 x hx x (by simp [hy]) rfl
        · rcases List.mem_append.1 hy with hy | hy
          · exact hn x hy (by simp at hx; simp [hx])
          · exact n1.2.2 x hx x (by simp [hy]) rfl
    · intro x hx
      simp only [List.flatten_append, List.flatten_cons, List.mem_append] at hx ⊢
      rcases hx with hx | hx | hx | hx
      · exact .inl (.inl hx)
      · exact .inl (.inr (.inl hx))
      · exact .inr hx
      · exact .inl (.inr (.inr (.inr hx)))
end
theorem own_emptyP {w : World} {t : TypeId} {base K : Nat} (hb : base ≤ w.heap.size) : (w.alloc (.cells #[] t)).ownsRow base t K (.slice (some ⟨w.heap.size, 0, none⟩) 0 0) 0 [] :=
  ⟨by simp, .inr ⟨w.heap.size, 0, #[], rfl, hb, heap_new w _ rfl, by omega, by unfold maxLen; omega, by simp, by simp⟩⟩
theorem rd2_new {w : World} {u v : Value} {t : TypeId} : ∀ j x, [u, v][j]? = some x → (w.alloc (.cells #[u, v] t)).cell? ((⟨w.heap.size, 0, none⟩ : Addr).add j) = some x := by
  intro j x hx
  rw [Addr.add_lit, cell_of_heap (heap_new w _ rfl)]
  match j, hx with
  | 0, hx => simpa using hx
  | 1, hx => simpa using hx

set_option maxRecDepth 100000 in
set_option maxHeartbeats 8000000 in
theorem l7Copy_c (A : Option Addr) (c : Nat) (l : List Pt) (w : World) (fp : List Nat) (hs : psz l ≤ 1048576) (ha : RdP w (.slice A l.length c) l fp) :
    Calls Tryz.prog 49 #[.slice A l.length c] w (CopySl partK w l) := by
  obtain ⟨i0, hi, hz, hsz, hby⟩ := infoRow
  obtain ⟨i1, hi1, hz1, hsz1, hby1⟩ := infoPart
  have HS : Hid (∀ k (h : k < l.length), l[k].rows.length ≤ 1048576 ∧ k ≤ 1048576) := fun k h => by have := len_of_totP l k h; unfold psz at hs; omega
  have HA := Lib.hid ha
  have hmax := ha.len_le.2
  clear ha hs
  go_enter Tryz.func49, Tryz.ntmps49
  go_wp2_with fail
  have HBE := Lib.hid (below_new (w := w) (.cells #[] 76))
  have HCE : Hid (CopG partK (w.alloc (.cells #[] 76)) w.heap.size (.slice (some ⟨w.heap.size, 0, none⟩) 0 0) [] [] (l.take 0) 76) :=
    ⟨own_emptyP (Nat.le_refl _), trivial, NF.nil _, From.nil _, by simp, fun g _ hm => by simp at hm⟩
  go_loopw [3, 4] (fun vo i wr => ∃ k : Nat, k ≤ l.length ∧ i = .int .i64 k ∧ ∃ us fs, Hid (CopG partK wr w.heap.size vo us fs (l.take k) 76) ∧ Hid (us.length = k) ∧ Hid (Below w.heap.size w wr)) (fun _ i _ => l.length - (intOf i).toNat)
  case atStart => exact ⟨0, Nat.zero_le _, rfl, [], [], HCE, Lib.hid rfl, HBE⟩
  case round =>
    clear HCE HBE
    obtain ⟨k, hk, rfl, us, fs, HC, HU1, HB⟩ := hrel
    by_cases hlt : k < l.length
    · obtain ⟨b, off, B, d, f, hA, _, hbl, hc, hc1, hr, hff⟩ := partsAt HA.out hlt
      subst hA
      obtain ⟨n1, n2⟩ := HS.out k hlt
      have HN : Hid (l[k].rows.length ≤ 1048576) := n1
      have HU : Hid (us.length ≤ 1048576) := by rw [HU1.out]; exact n2
      have HT : Hid (l.take (k + 1) = l.take k ++ [l[k]]) := List.take_succ_eq_append_getElem hlt
      have hk0 : (0 : Int) ≤ (k : Int) := by omega
      have hkl : (k : Int) < (l.length : Int) := by omega
      have hfl : ∀ x ∈ f, x < w.heap.size := hr.lt
      generalize l[k] = p at *
      obtain ⟨rs, m⟩ := p
      simp only at hc hc1 hr HN
      have hld : ∀ w', Below w.heap.size w w' → w'.cell? ⟨b, off + k * 2, none⟩ = some (.slice B rs.length d) ∧ w'.cell? ⟨b, off + k * 2 + 1, none⟩ = some (.int .i64 m) := fun w' h =>
        ⟨(h.cell (p := ⟨b, off + k * 2, none⟩) hbl).trans hc, (h.cell (p := ⟨b, off + k * 2 + 1, none⟩) hbl).trans hc1⟩
      have HLD := Lib.hid hld
      have HR := Lib.hid hr
      have HWS := Lib.hid HB.out.size
      obtain ⟨g0, g1⟩ := hld _ HB.out
      have gz := Nat.lt_of_lt_of_le hbl HB.out.size
      clear hld hr hff n1 n2 hc hc1
      go_wp2_with fail
      clear g0 g1 gz
      refine wp_region_sched (fun w' => Below w.heap.size w w') [(0, true), (2, true), (3, true), (4, true), (5, true), (6, true), (8, true), (9, true), (10, true), (11, true), (12, true), (1, false), (7, false), (13, true), (14, false), (15, false), (16, true)] (by kernel_rfl) (by kernel_rfl) (by kernel_rfl) (by kernel_rfl) (fun _ _ d _ _ h => by cases d <;> exact h) (below_drewN' HB.out 1) ?_
      simp only [opsOf, List.filterMap_cons, List.filterMap_nil, Option.map_some, List.getElem?_toArray, List.getElem?_cons_zero, List.getElem?_cons_succ]
      generalize hW0 : ({ heap := wr.heap, tape := wr.tape, drawn := wr.drawn + 1, os := wr.os, output := wr.output } : World) = v0
      have HB0 : Hid (Below w.heap.size w v0) := by rw [← hW0]; exact below_drewN' HB.out 1
      have HC0 : Hid (CopG partK v0 w.heap.size u3 us fs (l.take k) 76) := by rw [← hW0]; exact HC.out.grown (row := none) ⟨rfl, rfl, rfl, Nat.le_refl _, fun _ _ _ => rfl⟩ (fun g e => by cases e) (fun g e => by cases e)
      have HRV := Lib.hid (HR.out.below HB0.out hfl)
      clear hW0 HB HC HR hfl
      refine sched_run (v := ?_) (by rfl) ?_ ?_
      rotate_left
      · (intro w' hS'; go_simp; try with_reducible rfl)
      try simp only [Act.put, List.setIfInBounds_toArray, List.set_cons_zero, List.set_cons_succ]
      refine sched_run (v := ?_) (by rfl) ?_ ?_
      rotate_left
      · (intro w' hS'; go_simp; try with_reducible rfl)
      try simp only [Act.put, List.setIfInBounds_toArray, List.set_cons_zero, List.set_cons_succ]
      refine sched_run (v := ?_) (by rfl) ?_ ?_
      rotate_left
      · (intro w' hS'; go_simp; try with_reducible rfl)
      try simp only [Act.put, List.setIfInBounds_toArray, List.set_cons_zero, List.set_cons_succ]
      refine sched_run (v := ?_) (by rfl) ?_ ?_
      rotate_left
      · (intro w' hS'; go_simp; try with_reducible rfl)
      try simp only [Act.put, List.setIfInBounds_toArray, List.set_cons_zero, List.set_cons_succ]
      refine sched_run (v := ?_) (by rfl) ?_ ?_
      rotate_left
      · (intro w' hS'; go_simp; try with_reducible rfl)
      try simp only [Act.put, List.setIfInBounds_toArray, List.set_cons_zero, List.set_cons_succ]
      refine sched_run (v := ?_) (by rfl) ?_ ?_
      rotate_left
      · (intro w' hS'; obtain ⟨x0, x1⟩ := HLD.out w' hS'; go_simp; try with_reducible rfl)
      try simp only [Act.put, List.setIfInBounds_toArray, List.set_cons_zero, List.set_cons_succ]
      refine sched_run (v := ?_) (by rfl) ?_ ?_
      rotate_left
      · (intro w' hS'; go_simp; try with_reducible rfl)
      try simp only [Act.put, List.setIfInBounds_toArray, List.set_cons_zero, List.set_cons_succ]
      refine sched_run (v := ?_) (by rfl) ?_ ?_
      rotate_left
      · (intro w' hS'; go_simp; try with_reducible rfl)
      try simp only [Act.put, List.setIfInBounds_toArray, List.set_cons_zero, List.set_cons_succ]
      refine sched_run (v := ?_) (by rfl) ?_ ?_
      rotate_left
      · (intro w' hS'; go_simp; try with_reducible rfl)
      try simp only [Act.put, List.setIfInBounds_toArray, List.set_cons_zero, List.set_cons_succ]
      refine sched_run (v := ?_) (by rfl) ?_ ?_
      rotate_left
      · (intro w' hS'; go_simp; try with_reducible rfl)
      try simp only [Act.put, List.setIfInBounds_toArray, List.set_cons_zero, List.set_cons_succ]
      refine sched_run (v := ?_) (by rfl) ?_ ?_
      rotate_left
      · (intro w' hS'; obtain ⟨x0, x1⟩ := HLD.out w' hS'; go_simp; try with_reducible rfl)
      try simp only [Act.put, List.setIfInBounds_toArray, List.set_cons_zero, List.set_cons_succ]
      refine sched_call (by rfl) (fun K hK => ?_)
      go_simp
      have HC1 := Lib.hid (HC0.out.alloc (.cells #[] 32)); have HB1 : Hid (Below w.heap.size w (v0.alloc (.cells #[] 32))) := HB0.out.alloc HB0.out.size _
      have HE1 := Lib.hid (own_emptyR (w := v0) (t := 32) (Nat.le_refl v0.heap.size))
      have HR1 := Lib.hid (HRV.out.alloc (.cells #[] 32))
      refine hK _ _ HB1.out ?_
      try simp only [Act.put, List.setIfInBounds_toArray, List.set_cons_zero, List.set_cons_succ]
      refine sched_call (by rfl) (fun K2 hK2 => ?_)
      refine wp_append_rd (.tmp 13) (.tmp 18) 24 rfl v0.heap.size 32 i0 (rv (0, 0, 0, 0)) 4 32 Tryz.underlying24 hi hz hsz hby rfl (by decide) _ 0 [] rfl HE1.out B rs.length d (rcs rs) f rfl HR1.out (rcs_one rs) ?a1 ?a2 ?a3 ?_
      case a1 => have := HN.out; unfold maxLen; omega
      case a2 => have := HN.out; omega
      case a3 => simp
      intro v2 w2 hown hgrow
      simp only [Nat.zero_add, List.nil_append] at hown
      have hgrow : World.grownBy (v0.alloc (.cells #[] 32)) w2 (some v0.heap.size) := hgrow
      obtain ⟨fv, r1, r2, r3, r4⟩ := Rd.of_own6 hown
      obtain ⟨Av, cv, rfl⟩ := r1.rows_form
      have hltc := HC0.out.lt
      have HC2 := Lib.hid (HC1.out.grown hgrow (fun g hg hm => by injection hg with hg; have := hltc g hm; omega) (fun g hg hv => by injection hg with hg; have := own_lt6 HC0.out.own hv; omega))
      have HB2 : Hid (Below w.heap.size w w2) := HB1.out.grown hgrow HB1.out.size (fun g hg => by injection hg with hg; have := HB0.out.size; omega)
      have HV2 : Hid (Rd w2 4 (.slice Av rs.length cv) (rcs rs) fv ∧ NF w2 fv ∧ From v0.heap.size fv ∧ fv.Nodup ∧ (∀ x ∈ fs.flatten, x < v0.heap.size) ∧ (∀ g, u3.ownBlock = some g → g < v0.heap.size) ∧ w.heap.size ≤ v0.heap.size) := ⟨r1, r2, r3, r1.nodup, hltc, fun g hg => own_lt6 HC0.out.own hg, HB0.out.size⟩
      clear hown hgrow r1 r2 r3 r4 hltc HC1 HB1 HE1 HR1 HRV
      refine hK2 _ _ HB2.out ?_
      try simp only [Act.put, List.setIfInBounds_toArray, List.set_cons_zero, List.set_cons_succ]
      refine sched_run (v := ?_) (by rfl) ?_ ?_
      rotate_left
      · (intro w' hS'; go_simp; try with_reducible rfl)
      try simp only [Act.put, List.setIfInBounds_toArray, List.set_cons_zero, List.set_cons_succ]
      refine sched_call (by rfl) (fun K3 hK3 => ?_)
      go_simp
      have HC3 := Lib.hid (HC2.out.alloc (.cells #[.slice Av rs.length cv, .int .i64 m] 76)); have HB3 : Hid (Below w.heap.size w (w2.alloc (.cells #[.slice Av rs.length cv, .int .i64 m] 76))) := HB2.out.alloc HB2.out.size _
      have HV3 : Hid (Rd (w2.alloc (.cells #[.slice Av rs.length cv, .int .i64 m] 76)) 4 (.slice Av rs.length cv) (rcs rs) fv ∧ NF (w2.alloc (.cells #[.slice Av rs.length cv, .int .i64 m] 76)) fv ∧ From v0.heap.size fv ∧ fv.Nodup ∧ (∀ x ∈ fs.flatten, x < v0.heap.size) ∧ (∀ g, u3.ownBlock = some g → g < v0.heap.size) ∧ w.heap.size ≤ v0.heap.size) := ⟨HV2.out.1.alloc _, HV2.out.2.1.keep fun x hx => Below.heap_alloc _ _ _ (HV2.out.1.lt x hx), HV2.out.2.2⟩
      refine hK3 _ _ HB3.out ?_
      try simp only [Act.put, List.setIfInBounds_toArray, List.set_cons_zero, List.set_cons_succ]
      refine sched_call (by rfl) (fun K4 hK4 => ?_)
      refine wp_append_o (.tmp 12) (.tmp 26) 27 rfl w.heap.size 76 i1 (ptv (.slice none 0 0) 0) 2 32 Tryz.underlying27 hi1 hz1 hsz1 hby1 rfl (by decide) u3 us.length us.flatten rfl HC3.out.own ⟨w2.heap.size, 0, none⟩ 1 1 [.slice Av rs.length cv, .int .i64 m] rfl rfl rd2_new (by intro u hu; simp at hu; rcases hu with rfl | rfl <;> rfl) ?a1 ?a2 ?a3 (by omega) ?_
      case a1 => have := HU.out; unfold maxLen; omega
      case a2 => have := HU.out; omega
      case a3 => exact HB3.out.size
      intro v4 w4 hown hgrow hwh
      have hcp := HC3.out.push (r := (⟨rs, m⟩ : Pt)) (u := [.slice Av rs.length cv, .int .i64 m]) (f := fv) ⟨_, rfl, HV3.out.1⟩ HV3.out.2.1 (HV3.out.2.2.1.mono HV3.out.2.2.2.2.2.2) HV3.out.2.2.2.1 (fun x hx hm => by have := HV3.out.2.2.1 x hx; have := HV3.out.2.2.2.2.1 x hm; omega) (fun g hg hm => by have := HV3.out.2.2.1 g hm; have := HV3.out.2.2.2.2.2.1 g hg; omega) hown hgrow hwh
      rw [← HT.out] at hcp
      have hbt : Below w.heap.size w w4 := HB3.out.grown hgrow HB3.out.size (fun g hg => by rcases HC3.out.own.2 with ⟨h, _⟩ | ⟨g', cap, cur, h, hb, _⟩ <;> rw [h] at hg <;> simp [Value.ownBlock] at hg; omega)
      obtain ⟨gv, cw, hv4⟩ : ∃ g cap, v4 = .slice (some ⟨g, 0, none⟩) (us.length + 1) cap := by
        rcases hown.2 with ⟨_, h⟩ | ⟨g, cap, cur, h, _⟩
        · omega
        · exact ⟨g, cap, h⟩
      subst hv4
      have HCP := Lib.hid hcp; have HBT := Lib.hid hbt
      clear hcp hbt hown hgrow hwh
      refine hK4 _ _ HBT.out ?_
      try simp only [Act.put, List.setIfInBounds_toArray, List.set_cons_zero, List.set_cons_succ]
      refine sched_run (v := ?_) (by rfl) ?_ ?_
      rotate_left
      · (intro w' hS'; go_simp; try with_reducible rfl)
      try simp only [Act.put, List.setIfInBounds_toArray, List.set_cons_zero, List.set_cons_succ]
      refine sched_done ?_
      go_wp2_with fail
      exact ⟨⟨k + 1, by omega, by go_num, _, _, HCP, Lib.hid (by simp [HU1.out]), HBT⟩, by simp [intOf]; omega⟩
    · obtain rfl : k = l.length := by omega
      have hcp := HC.out
      rw [List.take_length] at hcp
      obtain ⟨fq, k1, k2, k3, k4⟩ := hcp.done
      obtain ⟨A1, c1, rfl⟩ := k1.form'
      have HX : Hid (CopySl partK w l (.returned (.slice A1 l.length c1)) wr) := ⟨A1, c1, fq, rfl, k1, k2, k3, k4, HB.out⟩
      clear k1 k2 k3 k4 hcp HC
      go_wp2
      go_ret
      exact HX.out

/-- What the write leaves. -/
def WrPost (w : World) (v : Value) (l : List Pt) (fp : List Nat) (e : Ending) (w' : World) : Prop :=
  e = .returned (.tuple #[]) ∧ ∃ fq, RdP w' v l fq ∧ NF w' fq ∧ fq.Nodup ∧ (∀ x ∈ fq, x ∈ fp ∨ w.heap.size ≤ x) ∧ But fp w w'

set_option maxRecDepth 100000 in
set_option maxHeartbeats 8000000 in
theorem l7Write_c (A : Option Addr) (c : Nat) (l : List Pt) (r : R) (m : Int) (w : World) (fp : List Nat) (h0 : partsF l = 0) (hr : rowF r = 0) (ha : RdP w (.slice A l.length c) l fp) (hnf : NF w fp) (hnd : fp.Nodup) :
    Calls Tryz.prog 50 #[.slice A l.length c, rv r, .int .i64 m] w (WrPost w (.slice A l.length c) (wqP l r m) fp) := by
  obtain ⟨h3, hz, ht⟩ := partsF_zero h0
  obtain ⟨q1, q2⟩ := rpart_nat h3 r
  obtain ⟨j, hj⟩ : ∃ j, j = (rpart r).toNat := ⟨_, rfl⟩
  rw [← hj] at q1 q2
  have hfit := fit_of_rowF hr
  have hjf := rowsF_fits (hz j q1).2.2.1
  obtain ⟨c', b, off, u, f, e1, hbm, hbl, hcu, ⟨v, rfl, hrd⟩, hff, hbf, hput⟩ := Sl.put2 ha hnd q1
  injection e1 with e1 _ e3
  subst e1 e3
  have hnew : l[j].mark < m → wqP l r m = l.set j ⟨setR l[j].rows r, m⟩ := fun hm => wqP_new (m := m) h0 j q1 q2.symm (by omega)
  have hold := fun hm => wqP_old (m := m) j q1 q2.symm hm
  have HNEW := Lib.hid hnew; have HOLD := Lib.hid hold
  clear hnew hold
  obtain ⟨B, d, rfl⟩ := hrd.rows_form
  have hc0 := hcu 0 _ rfl
  have hc1 := hcu 1 _ rfl
  simp only [partK, Nat.add_zero] at hc0 hc1 hput
  have HQ : Hid (partI r.1 r.2.1 = (j : Int)) := q2.symm
  have HF : Hid (0 ≤ r.1 ∧ r.1 ≤ 3 ∧ 1 ≤ r.2.1 ∧ r.2.1 ≤ 20) := hfit
  have HRD := Lib.hid hrd; have HPUT := Lib.hid hput; have HNF := Lib.hid hnf; have HA := Lib.hid ha; have HND := Lib.hid hnd; have HBM := Lib.hid hbm; have HJF := Lib.hid hjf; have HLT := Lib.hid (Sl.lt ha)
  have j0 : (0 : Int) ≤ (j : Int) := by omega
  have j3 : (j : Int) < (l.length : Int) := by omega
  obtain ⟨p, hp⟩ : ∃ p, p = l[j] := ⟨_, rfl⟩
  rw [← hp] at hc0 hc1 HRD HNEW HOLD HJF
  obtain ⟨rs, mk⟩ := p
  simp only at hc0 hc1 HRD HNEW HOLD HJF
  have hn1 := below_new (w := w) (rbox r)
  have HW1 := Lib.hid hn1
  have GR := Lib.hid (heap_new w (rbox r) rfl)
  have d0 := (hn1.cell (p := ⟨b, off + j * 2, none⟩) hbl).trans hc0
  have d1 := (hn1.cell (p := ⟨b, off + j * 2 + 1, none⟩) hbl).trans hc1
  have hz0 : b < (w.alloc (rbox r)).heap.size := Nat.lt_of_lt_of_le hbl hn1.size
  clear h0 hr hfit hjf hput hrd ha hnf hnd hbm hz ht h3 hcu hff hp hc0 hc1 hn1 hj q2
  go_enter Tryz.func50, Tryz.ntmps50
  go_wp2_with fail
  refine (l7Part_q r.1 r.2.1 (j : Int) HQ.out _ HF.out).mono ?_
  rintro e w1 ⟨rfl, hb1⟩
  have HB1 := Lib.hid (HW1.out.trans (hb1.mono HW1.out.size))
  have GR1 := Lib.hid ((hb1.block _ (heap_lt GR.out)).trans GR.out)
  replace d0 := (hb1.cell (p := ⟨b, off + j * 2, none⟩) hz0).trans d0
  replace d1 := (hb1.cell (p := ⟨b, off + j * 2 + 1, none⟩) hz0).trans d1
  replace hz0 := Nat.lt_of_lt_of_le hz0 hb1.size
  clear hb1
  by_cases hm : m ≤ mk
  · have hwq := HOLD.out hm
    have HWQ := Lib.hid hwq
    clear hwq
    go_wp2_with fail
    go_end0
    exact ⟨rfl, fp, by rw [HWQ.out]; exact HA.out.below' HB1.out, HNF.out.but (But.of_below HB1.out []) HLT.out (by simp), HND.out, fun x hx => .inl hx, But.of_below HB1.out _⟩
  have hwq := HNEW.out (by omega)
  have HWQ := Lib.hid hwq
  clear hwq
  go_wp2_with fail
  obtain ⟨r0, r1, r2, r3, _, _, _, _, rz⟩ := four_at GR1.out
  have hrx : r.1 = r.1 := rfl
  have hld : ∀ w', But [b] w1 w' → w'.cell? ⟨w.heap.size, 0, none⟩ = some (.int .i64 r.1) ∧ w'.cell? ⟨w.heap.size, 1, none⟩ = some (.int .i64 r.2.1) ∧ w'.cell? ⟨w.heap.size, 2, none⟩ = some (.int .i64 r.2.2.1) ∧ w'.cell? ⟨w.heap.size, 3, none⟩ = some (.int .i64 r.2.2.2) := fun w' h => by
    have hne : w.heap.size ∉ [b] := by simp; omega
    exact ⟨(h.cell (p := ⟨w.heap.size, 0, none⟩) rz hne).trans r0, (h.cell (p := ⟨w.heap.size, 1, none⟩) rz hne).trans r1, (h.cell (p := ⟨w.heap.size, 2, none⟩) rz hne).trans r2, (h.cell (p := ⟨w.heap.size, 3, none⟩) rz hne).trans r3⟩
  have HLD := Lib.hid hld
  clear hld r0 r1 r2 r3 rz hrx
  refine wp_region_sched (fun w' => But [b] w1 w') [(0, true), (1, true), (2, true), (3, true), (5, true), (4, false), (6, false), (7, true), (8, true), (9, false)] (by kernel_rfl) (by kernel_rfl) (by kernel_rfl) (by kernel_rfl) (fun _ _ d _ _ h => by cases d <;> exact h) ((But.refl _ _).drewN 1) ?_
  simp only [opsOf, List.filterMap_cons, List.filterMap_nil, Option.map_some, List.getElem?_toArray, List.getElem?_cons_zero, List.getElem?_cons_succ]
  generalize hW0 : ({ heap := w1.heap, tape := w1.tape, drawn := w1.drawn + 1, os := w1.os, output := w1.output } : World) = v0
  have HB0 : Hid (Below w.heap.size w v0) := by rw [← hW0]; exact below_drewN' HB1.out 1
  have HT0 : Hid (But [b] w1 v0) := by rw [← hW0]; exact (But.refl _ _).drewN 1
  have e0 : v0.cell? ⟨b, off + j * 2, none⟩ = some (.slice B rs.length d) := by rw [← hW0]; exact d0
  have e1 : v0.cell? ⟨b, off + j * 2 + 1, none⟩ = some (.int .i64 mk) := by rw [← hW0]; exact d1
  have ez : b < v0.heap.size := by rw [← hW0]; exact hz0
  clear hW0 d0 d1 hz0
  refine sched_run (v := ?_) (by rfl) ?_ ?_
  rotate_left
  · (intro w' hS'; go_simp; try with_reducible rfl)
  try simp only [Act.put, List.setIfInBounds_toArray, List.set_cons_zero, List.set_cons_succ]
  refine sched_run (v := ?_) (by rfl) ?_ ?_
  rotate_left
  · (intro w' hS'; go_simp; try with_reducible rfl)
  try simp only [Act.put, List.setIfInBounds_toArray, List.set_cons_zero, List.set_cons_succ]
  refine sched_run (v := ?_) (by rfl) ?_ ?_
  rotate_left
  · (intro w' hS'; go_simp; try with_reducible rfl)
  try simp only [Act.put, List.setIfInBounds_toArray, List.set_cons_zero, List.set_cons_succ]
  refine sched_run (v := ?_) (by rfl) ?_ ?_
  rotate_left
  · (intro w' hS'; go_simp; try with_reducible rfl)
  try simp only [Act.put, List.setIfInBounds_toArray, List.set_cons_zero, List.set_cons_succ]
  refine sched_run (v := ?_) (by rfl) ?_ ?_
  rotate_left
  · (intro w' hS'; obtain ⟨x0, x1, x2, x3⟩ := HLD.out w' hS'; go_simp; try with_reducible rfl)
  try simp only [Act.put, List.setIfInBounds_toArray, List.set_cons_zero, List.set_cons_succ]
  refine sched_call (by rfl) (fun K hK => ?_)
  go_simp
  refine hK _ _ HT0.out ?_
  try simp only [Act.put, List.setIfInBounds_toArray, List.set_cons_zero, List.set_cons_succ]
  refine sched_call (by rfl) (fun K2 hK2 => ?_)
  go_simp
  refine (l2Set_c B d rs r _ f (by have := HJF.out.2; omega) HJF.out.1 HF.out (HRD.out.below' HB0.out)).mono ?_
  rintro e w2 ⟨v2, f2, rfl, hr2, hn2, hf2, hb2, _⟩
  obtain ⟨A2, c2, rfl⟩ := hr2.rows_form
  have x0 := (hb2.cell (p := ⟨b, off + j * 2, none⟩) ez).trans e0
  have x1 := (hb2.cell (p := ⟨b, off + j * 2 + 1, none⟩) ez).trans e1
  have HT2 := Lib.hid (HT0.out.trans (But.of_below hb2 _))
  have HB2 := Lib.hid (HB0.out.trans (hb2.mono HB0.out.size))
  have xz := Nat.lt_of_lt_of_le ez hb2.size
  have hfz : ∀ i, w2.frozen? ⟨b, i, none⟩ = false := fun i => (HB2.out.frozen (p := ⟨b, i, none⟩) hbl).trans (HNF.out b HBM.out i)
  have xf0 := hfz (off + j * 2)
  have xf1 := hfz (off + j * 2 + 1)
  have HR2 := Lib.hid hr2; have HN2 := Lib.hid hn2; have HF2 : Hid (From w.heap.size f2) := hf2.mono HB0.out.size
  have HVZ := Lib.hid (show ∀ x ∈ f2, b < x from fun x hx => by have := hf2 x hx; omega)
  clear hr2 hn2 hf2 hb2 e0 e1 ez hfz HT0 HB0
  refine hK2 _ _ HT2.out ?_
  try simp only [Act.put, List.setIfInBounds_toArray, List.set_cons_zero, List.set_cons_succ]
  refine sched_run (v := ?_) (by rfl) ?_ ?_
  rotate_left
  · (intro w' hS'; go_simp; try with_reducible rfl)
  try simp only [Act.put, List.setIfInBounds_toArray, List.set_cons_zero, List.set_cons_succ]
  refine sched_run (v := ?_) (by rfl) ?_ ?_
  rotate_left
  · (intro w' hS'; go_simp; try with_reducible rfl)
  try simp only [Act.put, List.setIfInBounds_toArray, List.set_cons_zero, List.set_cons_succ]
  refine sched_call (by rfl) (fun K3 hK3 => ?_)
  go_simp
  refine hK3 _ _ (HT2.out.setCell (p := ⟨b, off + j * 2, none⟩) (by simp) _) ?_
  refine sched_done ?_
  have y1 : (w2.setCell ⟨b, off + j * 2, none⟩ (.slice A2 (setR rs r).length c2)).cell? ⟨b, off + j * 2 + 1, none⟩ = some (.int .i64 mk) := by
    rw [World.cell?_setCell_other _ _ _ _ (by intro h; injection h with _ h2 _; omega)]; exact x1
  have yf : (w2.setCell ⟨b, off + j * 2, none⟩ (.slice A2 (setR rs r).length c2)).frozen? ⟨b, off + j * 2 + 1, none⟩ = false := by rw [World.frozen?_setCell]; exact xf1
  have yz : b < (w2.setCell ⟨b, off + j * 2, none⟩ (.slice A2 (setR rs r).length c2)).heap.size := by simpa [World.setCell] using xz
  have Y0 : Hid ((w2.setCell ⟨b, off + j * 2, none⟩ (.slice A2 (setR rs r).length c2)).cell? ⟨b, off + j * 2, none⟩ = some (.slice A2 (setR rs r).length c2)) := Lib.hid (World.cell?_setCell_same _ _ _ x0)
  have HY1 := Lib.hid y1
  go_wp2_with fail
  go_end0
  have hb3 : But [b] w2 ((w2.setCell ⟨b, off + j * 2, none⟩ (.slice A2 (setR rs r).length c2)).setCell ⟨b, off + j * 2 + 1, none⟩ (.int .i64 m)) := ((But.refl _ _).setCell (by simp) _).setCell (by simp) _
  have hd2 : ∀ x ∈ f2, x ∉ [b] := fun x hx he => by have := HVZ.out x hx; simp at he; omega
  have hbw : But [b] w ((w2.setCell ⟨b, off + j * 2, none⟩ (.slice A2 (setR rs r).length c2)).setCell ⟨b, off + j * 2 + 1, none⟩ (.int .i64 m)) := (But.of_below HB2.out [b]).trans hb3
  obtain ⟨fq, k1, k2, k3⟩ := HPUT.out _ (⟨setR rs r, m⟩ : Pt) [.slice A2 (setR rs r).length c2, .int .i64 m] f2 hbw (fun i x hx => by
    match i, hx with
    | 0, hx =>
      simp at hx; subst hx
      rw [Nat.add_zero, World.cell?_setCell_other _ _ _ _ (by intro h; injection h with _ h2 _; omega)]
      exact Y0.out
    | 1, hx =>
      simp at hx; subst hx
      exact World.cell?_setCell_same _ _ _ HY1.out) (fun i hi => by
    rw [World.cell?_setCell_other _ _ _ _ (by intro h; injection h with _ h2 _; omega), World.cell?_setCell_other _ _ _ _ (by intro h; injection h with _ h2 _; omega)]
    exact HB2.out.cell (p := ⟨b, off + i, none⟩) hbl) ⟨_, rfl, HR2.out.but hb3 hd2⟩ HR2.out.nodup (fun x hx hm => by have := HF2.out x hx; have := HLT.out x hm; omega)
  refine ⟨rfl, fq, by rw [HWQ.out]; exact k1, fun x hx i => ?_, k2, fun x hx => ?_, hbw.mono (fun x hx => by simp at hx; subst hx; exact HBM.out)⟩
  · rcases k3 x hx with hx | hx
    · rw [World.frozen?_setCell, World.frozen?_setCell]
      exact (HB2.out.frozen (p := ⟨x, i, none⟩) (HLT.out x hx)).trans (HNF.out x hx i)
    · exact HN2.out.but hb3 HR2.out.lt hd2 x hx i
  · rcases k3 x hx with hx | hx
    · exact .inl hx
    · exact .inr (HF2.out x hx)
end Go.Proofs.YtoabohllphoioaaGreat

/-
  The model's functions of chapter 7, fifth part: WritePart.
-/
namespace Go.Proofs.YtoabohllphoioaaGreat
open Go.RowKit

set_option maxRecDepth 100000 in
set_option maxHeartbeats 8000000 in
theorem specWritePart_r (A : Option Addr) (c : Nat) (l : List Pt) (r : R) (m : Int) (w : World) (fp : List Nat) (hs : psz l ≤ 1048576) (ha : RdP w (.slice A l.length c) l fp) :
    Calls Tryz.prog 15 #[.slice A l.length c, rv r, .int .i64 m] w (PsResPost w (wqC l r m) (wqL l r m)) := by
  have hn := below_more (below_new (w := w) (.cells #[.int .i64 r.1, .int .i64 r.2.1, .int .i64 r.2.2.1, .int .i64 r.2.2.2] 32)) (.cells #[.int .i64 0, .slice none 0 0] 29)
  have GR := Lib.hid (heap_old (o' := .cells #[.int .i64 0, .slice none 0 0] 29) (heap_new w (.cells #[.int .i64 r.1, .int .i64 r.2.1, .int .i64 r.2.2.1, .int .i64 r.2.2.2] 32) rfl))
  have GZ := Lib.hid (heap_new (w.alloc (.cells #[.int .i64 r.1, .int .i64 r.2.1, .int .i64 r.2.2.1, .int .i64 r.2.2.2] 32)) (.cells #[.int .i64 0, .slice none 0 0] 29) (g := w.heap.size + 1) (by simp))
  have HB := Lib.hid hn
  have HA := Lib.hid (ha.below' hn); have HS := Lib.hid hs
  have hcall := l7Fault_c A c l _ fp (by omega) (ha.below' hn)
  have HC := Lib.hid hcall
  clear ha hn hcall
  by_cases h0 : partsF l = 0
  case neg =>
    rw [wqC_a h0, wqL_no (by rw [wqC_a h0]; exact h0)]
    generalize partsF l = V at *
    have t1 : (V != 0) = true := by simpa using h0
    clear h0 hs
    go_enter Tryz.func15, Tryz.ntmps15
    go_wp2_with fail
    refine HC.out.mono ?_
    rintro e w1 ⟨rfl, hb1⟩
    have HB1 := Lib.hid (HB.out.trans (hb1.mono HB.out.size))
    obtain ⟨y0, y1, z0, z1, yz⟩ := two_at ((hb1.block _ (heap_lt GZ.out)).trans GZ.out)
    clear hb1
    go_wp2_with fail
    exact bodyPost_ret (v := psv V (.slice none 0 0)) (by simp [results, Tryz.results15, go_sem, y0, y1]) rfl (psres_none (HB1.out.trans ((But.two _ (w.heap.size + 1) 0 1 _ _).below HB1.out.size (by intro b hb; simp at hb; omega))))
  rw [h0] at HC
  by_cases h1 : rowF r = 0
  case neg =>
    rw [wqC_b h0 h1, wqL_no (by rw [wqC_b h0 h1]; exact h1)]
    obtain ⟨V, hV⟩ : ∃ V, V = rowF r := ⟨_, rfl⟩
    have HV := Lib.hid hV.symm
    rw [← hV] at h1 ⊢
    have t1 : (V != 0) = true := by simpa using h1
    clear h0 h1 hV hs
    go_enter Tryz.func15, Tryz.ntmps15
    go_wp2_with fail
    refine HC.out.mono ?_
    rintro e w1 ⟨rfl, hb1⟩
    have HB1 := Lib.hid (HB.out.trans (hb1.mono HB.out.size))
    have GR1 := Lib.hid ((hb1.block _ (heap_lt GR.out)).trans GR.out)
    have GZ1 := Lib.hid ((hb1.block _ (heap_lt GZ.out)).trans GZ.out)
    clear hb1
    go_wp2_with fail
    refine (l2Row_c w.heap.size 0 r _ ⟨cell_of_heap GR1.out, cell_of_heap GR1.out, cell_of_heap GR1.out, cell_of_heap GR1.out⟩).mono ?_
    rw [HV.out]
    rintro e w2 ⟨rfl, hq⟩
    have hb2 : Below _ _ w2 := Qt.below hq
    have HB2 := Lib.hid (HB1.out.trans (hb2.mono HB1.out.size))
    obtain ⟨y0, y1, z0, z1, yz⟩ := two_at ((hb2.block _ (heap_lt GZ1.out)).trans GZ1.out)
    clear hb2 hq
    go_wp2_with fail
    exact bodyPost_ret (v := psv V (.slice none 0 0)) (by simp [results, Tryz.results15, go_sem, y0, y1]) rfl (psres_none (HB2.out.trans ((But.two _ (w.heap.size + 1) 0 1 _ _).below HB2.out.size (by intro b hb; simp at hb; omega))))
  have H1 := Lib.hid h1
  cases h2 : inB m 0 999
  case false =>
    rw [wqC_c h0 h1 h2, wqL_no (by rw [wqC_c h0 h1 h2]; decide)]
    have H2 := Lib.hid h2
    clear h0 h1 h2 hs
    go_enter Tryz.func15, Tryz.ntmps15
    go_wp2_with fail
    refine HC.out.mono ?_
    rintro e w1 ⟨rfl, hb1⟩
    have HB1 := Lib.hid (HB.out.trans (hb1.mono HB.out.size))
    have GR1 := Lib.hid ((hb1.block _ (heap_lt GR.out)).trans GR.out)
    have GZ1 := Lib.hid ((hb1.block _ (heap_lt GZ.out)).trans GZ.out)
    clear hb1
    go_wp2_with fail
    refine (l2Row_c w.heap.size 0 r _ ⟨cell_of_heap GR1.out, cell_of_heap GR1.out, cell_of_heap GR1.out, cell_of_heap GR1.out⟩).mono ?_
    rw [H1.out]
    rintro e w2 ⟨rfl, hq⟩
    have hb2 : Below _ _ w2 := Qt.below hq
    have HB2 := Lib.hid (HB1.out.trans (hb2.mono HB1.out.size))
    obtain ⟨y0, y1, z0, z1, yz⟩ := two_at ((hb2.block _ (heap_lt GZ1.out)).trans GZ1.out)
    clear hb2 hq
    go_wp2_with fail
    refine (l1In_c m 0 999 _).mono ?_
    rw [H2.out]
    rintro e w' ⟨rfl, hw⟩
    subst hw
    go_wp2_with fail
    exact bodyPost_ret (v := psv 3 (.slice none 0 0)) (by simp [results, Tryz.results15, go_sem, y0, y1]) rfl (psres_none (HB2.out.trans ((But.two _ (w.heap.size + 1) 0 1 _ _).below HB2.out.size (by intro b hb; simp at hb; omega))))
  have H2 := Lib.hid h2
  obtain ⟨k3, kt⟩ := wqP_sz (m := m) h0 h1
  have hwl : (wqP l r m).length = l.length := by rw [k3, (partsF_zero h0).1]
  have hwr := fun (A : Option Addr) (c : Nat) (w : World) (fp : List Nat) (ha : RdP w (.slice A l.length c) l fp) (hnf : NF w fp) (hnd : fp.Nodup) => l7Write_c A c l r m w fp h0 h1 ha hnf hnd
  have hcode := wqC_d h0 h1 h2
  have hlist : wqL l r m = if 12 < totP (wqP l r m) then [] else wqP l r m := by
    unfold wqL
    rw [hcode]
    by_cases h : 12 < totP (wqP l r m)
    · rw [if_pos h, if_pos h]; rfl
    · rw [if_neg h, if_neg h]; rfl
  rw [hcode, hlist]
  obtain ⟨T, hT⟩ : ∃ T, T = totP (wqP l r m) := ⟨_, rfl⟩
  obtain ⟨L, hL⟩ : ∃ L, L = wqP l r m := ⟨_, rfl⟩
  have hpz : psz L ≤ 4194304 := by rw [hL]; unfold psz; omega
  rw [← hL] at hT hwl ⊢
  rw [← hT]
  have HT := Lib.hid hT.symm; have HL := Lib.hid hL.symm; have HWL := Lib.hid hwl; have HWR := Lib.hid hwr; have HPZ := Lib.hid hpz
  have hT4 : T ≤ 25 := by rw [hT, hL]; exact kt
  clear h0 h1 h2 hs hcode hlist hT hL k3 kt hwl hwr hpz
  by_cases h4 : 12 < T
  all_goals
    first | rw [if_pos h4, if_pos h4] | rw [if_neg h4, if_neg h4]
    go_enter Tryz.func15, Tryz.ntmps15
    go_wp2_with fail
    refine HC.out.mono ?_
    rintro e w1 ⟨rfl, hb1⟩
    have HB1 := Lib.hid (HB.out.trans (hb1.mono HB.out.size))
    have GR1 := Lib.hid ((hb1.block _ (heap_lt GR.out)).trans GR.out)
    have GZ1 := Lib.hid ((hb1.block _ (heap_lt GZ.out)).trans GZ.out)
    have HA1 := Lib.hid (HA.out.below' hb1)
    clear hb1
    go_wp2_with fail
    refine (l2Row_c w.heap.size 0 r _ ⟨cell_of_heap GR1.out, cell_of_heap GR1.out, cell_of_heap GR1.out, cell_of_heap GR1.out⟩).mono ?_
    rw [H1.out]
    rintro e w2 ⟨rfl, hq⟩
    have hb2 : Below _ _ w2 := Qt.below hq
    have HB2 := Lib.hid (HB1.out.trans (hb2.mono HB1.out.size))
    have GR2 := Lib.hid ((hb2.block _ (heap_lt GR1.out)).trans GR1.out)
    have GZ2 := Lib.hid ((hb2.block _ (heap_lt GZ1.out)).trans GZ1.out)
    have HA2 := Lib.hid (HA1.out.below' hb2)
    clear hb2 hq
    go_wp2_with fail
    refine (l1In_c m 0 999 _).mono ?_
    rw [H2.out]
    rintro e w' ⟨rfl, hw⟩
    subst hw
    go_wp2_with fail
    refine (l7Copy_c A c l _ fp HS.out HA2.out).mono ?_
    rintro e w3 ⟨A3, c3, f3, rfl, hr3, hn3, hf3, hd3, hb3⟩
    have HB3 := Lib.hid (HB2.out.trans (hb3.mono HB2.out.size))
    have GR3 := Lib.hid ((hb3.block _ (heap_lt GR2.out)).trans GR2.out)
    have GZ3 := Lib.hid ((hb3.block _ (heap_lt GZ2.out)).trans GZ2.out)
    have HZ2 := Lib.hid (heap_lt GZ2.out)
    have HF3 : Hid (From (w.heap.size + 1 + 1) f3) := hf3.mono HZ2.out
    have HW3 := Lib.hid (HWR.out A3 c3 w3 f3 hr3 hn3 hd3)
    obtain ⟨r0, r1, r2, r3, _, _, _, _, rz⟩ := four_at GR3.out
    clear hr3 hn3 hf3 hd3 hb3
    go_wp2_with fail
    clear r0 r1 r2 r3 rz
    refine HW3.out.mono ?_
    rintro e w4 ⟨rfl, f4, hr4, hn4, hd4, hx4, hb4⟩
    rw [HL.out, ← HWL.out] at hr4
    have HF4 : Hid (From (w.heap.size + 1 + 1) f4) := fun x hx => by
      rcases hx4 x hx with h | h
      · exact HF3.out x h
      · have := heap_lt GZ3.out; omega
    have HB4 := Lib.hid (HB3.out.trans (hb4.below HB3.out.size (fun x hx => by have := HF3.out x hx; omega)))
    have GZ4 := Lib.hid (hb4.heap GZ3.out (fun hm => by have := HF3.out _ hm; omega))
    have HR4 := Lib.hid hr4; have HN4 := Lib.hid hn4; have HD4 := Lib.hid hd4
    have hcnt := l7Count_q A3 c3 L T HT.out w4 f4 HPZ.out hr4
    rw [HWL.out] at hcnt
    have HCN := Lib.hid hcnt
    clear hr4 hn4 hd4 hx4 hb4 hcnt
    go_wp2_with fail
    refine HCN.out.mono ?_
    rintro e w5 ⟨rfl, hw⟩
    subst hw
    obtain ⟨y0, y1, z0, z1, yz⟩ := two_at GZ4.out
    go_wp2_with fail
  · exact bodyPost_ret (v := psv 8 (.slice none 0 0)) (by simp [results, Tryz.results15, go_sem, y0, y1]) rfl (psres_none (HB4.out.trans ((But.two _ (w.heap.size + 1) 0 1 _ _).below HB4.out.size (by intro b hb; simp at hb; omega))))
  · have hr4 := HR4.out
    rw [HWL.out] at hr4
    exact bodyPost_ret (v := psv 0 (.slice A3 l.length c3)) (by simp [results, Tryz.results15, go_sem, y0, y1]) rfl (psres_stored HB4.out (by omega) hr4 HN4.out HF4.out HD4.out)
end Go.Proofs.YtoabohllphoioaaGreat
