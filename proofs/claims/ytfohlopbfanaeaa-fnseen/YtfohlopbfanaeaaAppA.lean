/-
  'append(v, x)' where v lies anywhere in a block of the call's own: a slice cut at its front may still be appended to.
-/
import Derived.Test.YtfohlopbfanaeaaApp2
import Derived.Deep.AppendSrc
namespace Go.Proofs.Ytfohlopbfanaeaa
open Go.RowKit

/-- v lies in a block of its own from base on, reads as xs, and may be written up to its capacity. -/
structure OwnA (w : World) (base K : Nat) (v : Value) (n : Nat) (xs : List Value) (g off cap : Nat) : Prop where
  form : v = .slice (some ⟨g, off, none⟩) n cap
  lo : base ≤ g
  lt : g < w.heap.size
  len : xs.length = n * K
  nc : n ≤ cap
  cm : cap ≤ maxLen
  rd : ∀ i u, xs[i]? = some u → w.cell? ⟨g, off + i, none⟩ = some u
  room : ∀ i, i < cap * K → (w.cell? ⟨g, off + i, none⟩).isSome = true
  nf : ∀ i, w.frozen? ⟨g, i, none⟩ = false
theorem OwnA.of_own {w : World} {base : Nat} {e : TypeId} {K n : Nat} {v : Value} {xs : List Value} (h : w.ownsRow base e K v n xs) (hv : v ≠ .slice none 0 0) : ∃ g cap, OwnA w base K v n xs g 0 cap := by
  obtain ⟨h1, h2⟩ := h
  rcases h2 with ⟨rfl, _⟩ | ⟨g, cap, cur, rfl, hg, hh, hnc, hcm, hcs, htk⟩
  · exact absurd rfl hv
  · refine ⟨g, cap, rfl, hg, heap_lt hh, h1, hnc, hcm, ?_, ?_, ?_⟩
    · intro i u hu
      have hi : i < xs.length := (List.getElem?_eq_some_iff.1 hu).1
      rw [Nat.zero_add, cell_of_heap hh, ← hu, ← htk, List.getElem?_take, if_pos (by omega)]
      simp
    · intro i hi
      rw [Nat.zero_add, cell_of_heap hh]
      have : i < cur.size := by omega
      simp [this]
    · intro i; exact frozen_of_heap hh
theorem OwnA.rd' {w : World} {base K : Nat} {v : Value} {n : Nat} {xs : List Value} {g off cap : Nat} (h : OwnA w base K v n xs g off cap) : ∃ fp, Rd w K v xs fp ∧ NF w fp ∧ From base fp := by
  by_cases h0 : n = 0
  · exact ⟨[], ⟨_, n, cap, h.form, h.len, Nat.le_trans h.nc h.cm, h.nc, .inl ⟨h0, rfl⟩⟩, NF.nil _, From.nil _⟩
  · exact ⟨[g], ⟨_, n, cap, h.form, h.len, Nat.le_trans h.nc h.cm, h.nc, .inr ⟨g, off, rfl, rfl, h.lt, h.rd⟩⟩, fun b hb i => by simp at hb; subst hb; exact h.nf i, fun b hb => by simp at hb; subst hb; exact h.lo⟩
theorem OwnA.keep {w w' : World} {base K : Nat} {v : Value} {n : Nat} {xs : List Value} {g off cap : Nat} (h : OwnA w base K v n xs g off cap) (hs : w.heap.size ≤ w'.heap.size) (hb : w'.heap[g]? = w.heap[g]?) : OwnA w' base K v n xs g off cap :=
  ⟨h.form, h.lo, Nat.lt_of_lt_of_le h.lt hs, h.len, h.nc, h.cm, fun i u hu => (World.cell?_of_block (w := w) hb).trans (h.rd i u hu), fun i hi => by rw [World.cell?_of_block (w := w) hb]; exact h.room i hi, fun i => (World.frozen?_of_block (w := w) hb).trans (h.nf i)⟩
theorem OwnA.below' {w w' : World} {base K : Nat} {v : Value} {n : Nat} {xs : List Value} {g off cap : Nat} (h : OwnA w base K v n xs g off cap) (hb : Below w.heap.size w w') : OwnA w' base K v n xs g off cap := h.keep hb.size (hb.block g h.lt)
theorem OwnA.but {w w' : World} {base K : Nat} {v : Value} {n : Nat} {xs : List Value} {g off cap : Nat} {bs : List Nat} (h : OwnA w base K v n xs g off cap) (hb : But bs w w') (hg : g ∉ bs) : OwnA w' base K v n xs g off cap := h.keep hb.size (hb.block g h.lt hg)
/-- Cut at its front. -/
theorem OwnA.drop {α : Type} {ec : α → List Value} {K : Nat} (hK : ∀ a, (ec a).length = K) {w : World} {base : Nat} {v : Value} {n : Nat} {l : List α} {g off cap : Nat} (h : OwnA w base K v n (ecs ec l) g off cap) (hn : n = l.length) {k : Nat} (hk : k < n) :
    OwnA w base K (.slice (some ⟨g, off + k * K, none⟩) (n - k) (cap - k)) (n - k) (ecs ec (l.drop k)) g (off + k * K) (cap - k) := by
  have hnc := h.nc; have hcm := h.cm
  refine ⟨rfl, h.lo, h.lt, by rw [ecs_length hK, List.length_drop, hn], by omega, by omega, ?_, ?_, h.nf⟩
  · intro i u hu
    have e : ecs ec l = ecs ec (l.take k) ++ ecs ec (l.drop k) := by rw [← ecs_append, List.take_append_drop]
    have hl : (ecs ec (l.take k)).length = k * K := by rw [ecs_length hK, List.length_take, Nat.min_eq_left (by omega)]
    have := h.rd (k * K + i) u (by rw [e, List.getElem?_append_right (by omega), hl, Nat.add_sub_cancel_left]; exact hu)
    rwa [← Nat.add_assoc] at this
  · intro i hi
    rw [Nat.add_assoc]
    refine h.room _ ?_
    have h2 : (k + (cap - k)) * K = cap * K := by congr 1; omega
    rw [← h2, Nat.add_mul]
    omega
theorem setCells_heap (w : World) (b off : Nat) (news : List Value) : ∀ k, k ≠ b → (w.setCells b off news).heap[k]? = w.heap[k]? := by
  intro k hk
  induction news generalizing w off with
  | nil => rfl
  | cons u t ih =>
    show ((w.setCell ⟨b, off, none⟩ u).setCells b (off + 1) t).heap[k]? = _
    rw [ih]
    exact Below.heap_setCell _ _ _ _ hk
/-- What append answers where the slice lies anywhere in a block of its own. -/
theorem run_append_a {P : Program} {w : World} (base : Nat) (t ty e : TypeId) (i : TypeInfo) (z : Value) (size bytes : Nat) (ht : P.underlying t = some (.slice e)) (hi : P.info? e = some i) (hz : i.zero = some z)
    (hsize : i.size = size) (hby : i.bytes = bytes) (hzs : z.cells.size = size)
    (v : Value) (n : Nat) (xs : List Value) (g off cap : Nat) (hown : OwnA w base size v n xs g off cap)
    (ad : Addr) (m c : Nat) (news : List Value) (hl : news.length = m * size) (hnews : ∀ j u, news[j]? = some u → w.cell? (ad.add j) = some u) (h1 : ∀ u ∈ news, u.oneCell' = true)
    (h63 : n + m ≤ maxLen) (hbytes : (n + m) * bytes ≤ 140737488355328) (hbase : base ≤ w.heap.size) :
    ∃ v' w' g' off' cap', (Builtin.append_ #[t, t] ty #[v, .slice (some ad) m c]).run P w = .ok v' w' ∧ OwnA w' base size v' (n + m) (xs ++ news) g' off' cap' ∧ w.grownBy w' (some g) := by
  subst hsize
  subst hby
  obtain ⟨rfl, hlo, hlt, hlen, hnc, hcm, hrd, hroom, hnf⟩ := hown
  have hlen2 : (xs ++ news).length = (n + m) * i.size := by rw [List.length_append, hlen, hl, Nat.add_mul]
  by_cases hr : n + m ≤ cap
  · have hle : n * i.size + news.length ≤ cap * i.size := by rw [hl, ← Nat.add_mul]; exact Nat.mul_le_mul_right _ hr
    have hc : ∀ j, j < news.length → (w.cell? ⟨g, off + n * i.size + j, none⟩).isSome = true := fun j hj => by rw [Nat.add_assoc]; exact hroom _ (by omega)
    have hrun := run_append_room_src (P := P) w t t ty e i ht hi g off n cap (.slice (some ad) m c) m news (Go.Src.ofSlice w ht ad m c news hl hnews h1) hr hc (fun j _ => hnf _)
    refine ⟨_, _, g, off, cap, hrun, ⟨rfl, hlo, ?_, hlen2, hr, hcm, ?_, ?_, ?_⟩, ?_⟩
    · have : (w.setCells g (off + n * i.size) news).heap.size = w.heap.size := by
        clear hrun hc hroom hrd hle
        generalize off + n * i.size = o
        clear hlen2 hl hnews h1
        induction news generalizing w o with
        | nil => rfl
        | cons u t ih =>
          show ((w.setCell ⟨g, o, none⟩ u).setCells g (o + 1) t).heap.size = _
          rw [ih (w := w.setCell ⟨g, o, none⟩ u) (by simpa [World.setCell] using hbase) (by simpa [World.setCell] using hlt) (fun k => by rw [World.frozen?_setCell]; exact hnf k)]
          simp [World.setCell]
      rw [this]; exact hlt
    · intro k u hu
      by_cases hk : k < xs.length
      · rw [List.getElem?_append_left hk] at hu
        rw [World.cell?_setCells_out g news _ w _ (fun _ _ => .inl (by simp only; omega))]
        exact hrd k u hu
      · rw [List.getElem?_append_right (by omega)] at hu
        have hj : k - xs.length < news.length := (List.getElem?_eq_some_iff.1 hu).1
        have := World.cell?_setCells_in g news (off + n * i.size) w hc (k - xs.length) hj
        rw [show off + n * i.size + (k - xs.length) = off + k by omega] at this
        rw [this, ← hu, List.getElem?_eq_getElem hj]
    · intro k hk
      by_cases h2 : off + n * i.size ≤ off + k ∧ off + k < off + n * i.size + news.length
      · have := World.cell?_setCells_in g news (off + n * i.size) w hc (k - n * i.size) (by omega)
        rw [show off + n * i.size + (k - n * i.size) = off + k by omega] at this
        rw [this]; rfl
      · rw [World.cell?_setCells_out g news _ w _ (fun _ _ => by simp only; omega)]
        exact hroom k hk
    · intro k; rw [World.frozen?_setCells]; exact hnf k
    · have hk := World.keptBut_setCells g (may := fun _ => True) news (off + n * i.size) w (fun _ _ => trivial)
      refine ⟨?_, ?_, ?_, ?_, fun k _ hk => setCells_heap w g _ news k (fun e => hk (by rw [e]))⟩
      all_goals
        clear hrun hc hroom hrd hle hk
        generalize off + n * i.size = o
        clear hlen2 hl hnews h1 hbase hlt hnf
        induction news generalizing w o with
        | nil => first | rfl | exact Nat.le_refl _
        | cons u t ih => first | exact (ih (w := w.setCell ⟨g, o, none⟩ u) (o := o + 1)) | exact Nat.le_trans (by simp [World.setCell]) (ih (w := w.setCell ⟨g, o, none⟩ u) (o := o + 1))
  · have holds : ∀ j u, xs[j]? = some u → w.cell? ((⟨g, off, none⟩ : Addr).add j) = some u := fun j u hu => by rw [Addr.add_lit]; exact hrd j u hu
    have hrun := run_append_grow (P := P) w t ty e i z ht hi hz ⟨g, off, none⟩ n cap xs hlen holds ad m c news hl hnews (by omega) (by unfold maxLen at h63; omega) (growslice_fits (by omega) hbytes)
    have hge := grownCap_ge w (n + m) cap e
    have hcm2 := grownCap_le_maxLen w (n + m) cap e h63
    refine ⟨_, _, w.heap.size, 0, grownCap w (n + m) cap e, hrun, ⟨rfl, hbase, by simp, hlen2, hge, hcm2, ?_, ?_, fun k => ?_⟩, ⟨rfl, rfl, rfl, by simp, fun k hk _ => Below.heap_alloc _ _ _ hk⟩⟩
    · intro k u hu
      rw [Nat.zero_add, cell_of_heap (heap_new w.drew _ (g := w.heap.size) rfl)]
      have hk : k < (xs ++ news).length := (List.getElem?_eq_some_iff.1 hu).1
      rw [← hu]
      rw [Array.getElem?_append_left (by simpa using hk)]
      simp
    · intro k hk
      rw [Nat.zero_add, cell_of_heap (heap_new w.drew _ (g := w.heap.size) rfl)]
      have hsz : (xs.toArray ++ news.toArray ++ Builtin.zeroCells z.cells (grownCap w (n + m) cap e - (n + m))).size = grownCap w (n + m) cap e * i.size := by
        simp only [Array.size_append, List.size_toArray, size_zeroCells, hzs, hlen, hl, ← Nat.add_mul]
        congr 1
        omega
      rw [Array.getElem?_eq_getElem (by rw [hsz]; exact hk)]
      rfl
    · exact frozen_of_heap (heap_new w.drew _ rfl)
theorem wpList_append_a {P : Program} {w : World} {ops : Array Oper} {rest : List Oper} {o : Oper} {a : Act} {Q : Exit → Act → World → Prop} (hgd : o.guard = none) (s x : Operand) (t : TypeId)
    (ho : o.op = .call { callee := .builtin .append, args := #[s, x], argTypes := #[t, t] })
    (base : Nat) (e : TypeId) (i : TypeInfo) (z : Value) (size bytes : Nat) (ht : P.underlying t = some (.slice e)) (hi : P.info? e = some i) (hz : i.zero = some z)
    (hsize : i.size = size) (hby : i.bytes = bytes) (hzs : z.cells.size = size)
    (v : Value) (n : Nat) (xs : List Value) (g off cap : Nat) (hs : a.eval s = v) (hown : OwnA w base size v n xs g off cap)
    (ad : Addr) (m c : Nat) (news : List Value) (hx : a.eval x = .slice (some ad) m c) (hl : news.length = m * size) (hnews : ∀ j u, news[j]? = some u → w.cell? (ad.add j) = some u) (h1 : ∀ u ∈ news, u.oneCell' = true)
    (h63 : n + m ≤ maxLen) (hbytes : (n + m) * bytes ≤ 140737488355328) (hbase : base ≤ w.heap.size)
    (h : ∀ v' w' g' off' cap', OwnA w' base size v' (n + m) (xs ++ news) g' off' cap' → w.grownBy w' (some g) → wpList P ops Q rest (a.put o.dst v') w') : wpList P ops Q (o :: rest) a w := by
  refine wpList_plain hgd fun K hK => ?_
  obtain ⟨v', w', g', off', cap', hr, h2, h3⟩ := run_append_a (P := P) base t o.type e i z size bytes ht hi hz hsize hby hzs v n xs g off cap hown ad m c news hl hnews h1 h63 hbytes hbase
  unfold Oper.wp execOp
  simp only [ho, resolve, invoke, builtin, Sem.run_bind, Sem.run_pure, Result.andThen_ok, List.map_toArray, List.map_cons, List.map_nil, hs, hx, hr]
  exact hK _ _ (h v' w' g' off' cap' h2 h3)
end Go.Proofs.Ytfohlopbfanaeaa
