/-
  Words of my own for memory: a slice that reads as a list of cells, with the block in which it lies; what stays when other blocks are written.
-/
import Derived.WalkKit
import Derived.ProofKit
import Derived.Below
import Derived.Lib.Hide
import Derived.Deep.Draws
import Derived.Laws.MakeOwn
import Derived.Test.YtldimfmhbdhbnaaGreatProg
namespace Go.Proofs.YtldimfmhbdhbnaaGreat
open Go.RowKit

/-- The slice v reads as the cells xs ('size' cells an element); 'fp' is the block in which they lie, none if there are no cells. -/
def Rd (w : World) (size : Nat) (v : Value) (xs : List Value) (fp : List Nat) : Prop :=
  ∃ A n c, v = .slice A n c ∧ xs.length = n * size ∧ n ≤ maxLen ∧ n ≤ c ∧
    ((n = 0 ∧ fp = []) ∨ ∃ b off, A = some ⟨b, off, none⟩ ∧ fp = [b] ∧ b < w.heap.size ∧ ∀ i u, xs[i]? = some u → w.cell? ⟨b, off + i, none⟩ = some u)

/-- No cell of these blocks is frozen. -/
def NF (w : World) (fp : List Nat) : Prop := ∀ b ∈ fp, ∀ i, w.frozen? ⟨b, i, none⟩ = false

/-- All of these blocks lie from lo on. -/
def From (lo : Nat) (fp : List Nat) : Prop := ∀ b ∈ fp, lo ≤ b

/-- w' is w but for what lies in the blocks bs, and for new blocks. -/
structure But (bs : List Nat) (w w' : World) : Prop where
  os : w'.os = w.os
  tape : w'.tape = w.tape
  output : w'.output = w.output
  size : w.heap.size ≤ w'.heap.size
  block : ∀ k, k < w.heap.size → k ∉ bs → w'.heap[k]? = w.heap[k]?

theorem But.refl (bs : List Nat) (w : World) : But bs w w := ⟨rfl, rfl, rfl, Nat.le_refl _, fun _ _ _ => rfl⟩
theorem But.trans {bs : List Nat} {a b c : World} (h : But bs a b) (k : But bs b c) : But bs a c :=
  ⟨k.os.trans h.os, k.tape.trans h.tape, k.output.trans h.output, Nat.le_trans h.size k.size, fun i hi hn => (k.block i (Nat.lt_of_lt_of_le hi h.size) hn).trans (h.block i hi hn)⟩
theorem But.mono {bs bs' : List Nat} {w w' : World} (h : But bs w w') (hs : ∀ b ∈ bs, b ∈ bs') : But bs' w w' :=
  ⟨h.os, h.tape, h.output, h.size, fun k hk hn => h.block k hk (fun hm => hn (hs k hm))⟩
theorem But.below {bs : List Nat} {w w' : World} (h : But bs w w') {B : Nat} (hB : B ≤ w.heap.size) (hf : From B bs) : Below B w w' :=
  ⟨h.os, h.tape, h.output, h.size, fun k hk => h.block k (Nat.lt_of_lt_of_le hk hB) (fun hm => by have := hf k hm; omega)⟩
theorem But.of_below {w w' : World} (h : Below w.heap.size w w') (bs : List Nat) : But bs w w' := ⟨h.os, h.tape, h.output, h.size, fun k hk _ => h.block k hk⟩
theorem But.drewN {bs : List Nat} {a w : World} (h : But bs a w) (n : Nat) : But bs a (w.drewN n) := ⟨h.os, h.tape, h.output, h.size, h.block⟩
theorem But.drew {bs : List Nat} {a w : World} (h : But bs a w) : But bs a w.drew := ⟨h.os, h.tape, h.output, h.size, h.block⟩
theorem But.alloc {bs : List Nat} {a w : World} (h : But bs a w) (o : Obj) : But bs a (w.alloc o) :=
  h.trans ⟨rfl, rfl, rfl, by simp, fun k hk _ => Below.heap_alloc _ _ _ hk⟩
theorem But.setCell {bs : List Nat} {a w : World} (h : But bs a w) {p : Addr} (hp : p.block ∈ bs) (u : Value) : But bs a (w.setCell p u) :=
  h.trans ⟨rfl, rfl, rfl, by simp [World.setCell], fun k _ hn => Below.heap_setCell _ _ _ _ (fun e => hn (e ▸ hp))⟩
theorem But.cell {bs : List Nat} {w w' : World} (h : But bs w w') {p : Addr} (hp : p.block < w.heap.size) (hn : p.block ∉ bs) : w'.cell? p = w.cell? p :=
  World.cell?_of_block (w := w) (h.block p.block hp hn)
theorem But.frozen {bs : List Nat} {w w' : World} (h : But bs w w') {p : Addr} (hp : p.block < w.heap.size) (hn : p.block ∉ bs) : w'.frozen? p = w.frozen? p :=
  World.frozen?_of_block (w := w) (h.block p.block hp hn)

theorem below_drewN' {B : Nat} {a w : World} (h : Below B a w) (n : Nat) : Below B a (w.drewN n) := ⟨h.os, h.tape, h.output, h.size, h.block⟩

theorem Rd.keep {w w' : World} {size : Nat} {v : Value} {xs : List Value} {fp : List Nat} (h : Rd w size v xs fp)
    (hs : w.heap.size ≤ w'.heap.size) (hb : ∀ b ∈ fp, w'.heap[b]? = w.heap[b]?) : Rd w' size v xs fp := by
  obtain ⟨A, n, c, rfl, h1, h2, h2', h3⟩ := h
  refine ⟨A, n, c, rfl, h1, h2, h2', ?_⟩
  rcases h3 with h3 | ⟨b, off, rfl, rfl, hlt, hc⟩
  · exact .inl h3
  · exact .inr ⟨b, off, rfl, rfl, Nat.lt_of_lt_of_le hlt hs, fun i u hu => (World.cell?_of_block (w := w) (hb b (by simp))).trans (hc i u hu)⟩
theorem Rd.lt {w : World} {size : Nat} {v : Value} {xs : List Value} {fp : List Nat} (h : Rd w size v xs fp) : ∀ b ∈ fp, b < w.heap.size := by
  obtain ⟨A, n, c, rfl, h1, h2, h2', h3⟩ := h
  rcases h3 with ⟨_, rfl⟩ | ⟨b, off, rfl, rfl, hlt, hc⟩
  · simp
  · simpa using hlt
theorem Rd.below {w w' : World} {size B : Nat} {v : Value} {xs : List Value} {fp : List Nat} (h : Rd w size v xs fp)
    (hb : Below B w w') (hB : ∀ b ∈ fp, b < B) : Rd w' size v xs fp := h.keep hb.size fun b hm => hb.block b (hB b hm)
theorem Rd.below' {w w' : World} {size : Nat} {v : Value} {xs : List Value} {fp : List Nat} (h : Rd w size v xs fp)
    (hb : Below w.heap.size w w') : Rd w' size v xs fp := h.below hb h.lt
theorem Rd.but {w w' : World} {size : Nat} {v : Value} {xs : List Value} {fp bs : List Nat} (h : Rd w size v xs fp)
    (hb : But bs w w') (hd : ∀ b ∈ fp, b ∉ bs) : Rd w' size v xs fp := h.keep hb.size fun b hm => hb.block b (h.lt b hm) (hd b hm)
theorem Rd.drewN {w : World} {size : Nat} {v : Value} {xs : List Value} {fp : List Nat} (h : Rd w size v xs fp) (n : Nat) : Rd (w.drewN n) size v xs fp := h
theorem Rd.drew {w : World} {size : Nat} {v : Value} {xs : List Value} {fp : List Nat} (h : Rd w size v xs fp) : Rd w.drew size v xs fp := h
theorem Rd.alloc {w : World} {size : Nat} {v : Value} {xs : List Value} {fp : List Nat} (h : Rd w size v xs fp) (o : Obj) : Rd (w.alloc o) size v xs fp :=
  h.keep (by simp) fun b hm => Below.heap_alloc _ _ _ (h.lt b hm)
theorem NF.keep {w w' : World} {fp : List Nat} (h : NF w fp) (hb : ∀ b ∈ fp, w'.heap[b]? = w.heap[b]?) : NF w' fp :=
  fun b hm i => (World.frozen?_of_block (w := w) (hb b hm)).trans (h b hm i)
theorem NF.nil (w : World) : NF w [] := fun _ h => by cases h
theorem From.nil (lo : Nat) : From lo [] := fun _ h => by cases h
theorem From.mono {lo lo' : Nat} {fp : List Nat} (h : From lo fp) (hl : lo' ≤ lo) : From lo' fp := fun b hb => Nat.le_trans hl (h b hb)

/-- The nil slice. -/
theorem Rd.nil (w : World) (size : Nat) : Rd w size (.slice none 0 0) [] [] := ⟨none, 0, 0, rfl, by simp, by simp, by simp, .inl ⟨rfl, rfl⟩⟩
/-- A slice that a call of append or make owns. -/
theorem Rd.of_own {w : World} {base : Nat} {e : TypeId} {size n : Nat} {v : Value} {xs : List Value} (h : w.ownsRow base e size v n xs) :
    ∃ fp, Rd w size v xs fp ∧ NF w fp ∧ From base fp := by
  obtain ⟨h1, h2⟩ := h
  rcases h2 with ⟨rfl, rfl⟩ | ⟨g, cap, cur, rfl, hg, hh, hnc, hcm, hcs, htk⟩
  · have : xs = [] := List.eq_nil_of_length_eq_zero (by simpa using h1)
    subst this
    exact ⟨[], Rd.nil w size, NF.nil w, From.nil _⟩
  · have hlt : g < w.heap.size := by
      rcases Nat.lt_or_ge g w.heap.size with hlt | hge
      · exact hlt
      · rw [Array.getElem?_eq_none hge] at hh; cases hh
    by_cases hn : n = 0
    · subst hn
      exact ⟨[], ⟨_, 0, cap, rfl, h1, by omega, by omega, .inl ⟨rfl, rfl⟩⟩, NF.nil w, From.nil _⟩
    · refine ⟨[g], ⟨_, n, cap, rfl, h1, by omega, hnc, .inr ⟨g, 0, rfl, rfl, hlt, fun i u hu => ?_⟩⟩, fun b hb i => ?_, fun b hb => ?_⟩
      · have hi : i < xs.length := by
          rcases Nat.lt_or_ge i xs.length with hl | hl
          · exact hl
          · rw [List.getElem?_eq_none hl] at hu; cases hu
        have hc : w.cell? ⟨g, i, none⟩ = cur[i]? := by simp [World.cell?, hh]
        rw [Nat.zero_add, hc, ← hu, ← htk, List.getElem?_take, if_pos (by omega)]
        simp
      · simp at hb; subst hb
        simp [World.frozen?, hh]
      · simp at hb; subst hb; exact hg

theorem NF.but {w w' : World} {fp bs : List Nat} (h : NF w fp) (hb : But bs w w') (hl : ∀ b ∈ fp, b < w.heap.size) (hd : ∀ b ∈ fp, b ∉ bs) : NF w' fp :=
  h.keep fun b hm => hb.block b (hl b hm) (hd b hm)
/-- Two stores into one block. -/
theorem But.two (w : World) (g i j : Nat) (u v : Value) : But [g] w ((w.setCell ⟨g, i, none⟩ u).setCell ⟨g, j, none⟩ v) :=
  ((But.refl [g] w).setCell (p := ⟨g, i, none⟩) (by simp) u).setCell (p := ⟨g, j, none⟩) (by simp) v
/-- A store into the first block of the call's own. -/
theorem below_set {B : Nat} {a w : World} (h : Below B a w) (i : Nat) (u : Value) : Below B a (w.setCell ⟨B, i, none⟩ u) := h.setCell (Nat.le_refl _) u
theorem below_new {w : World} (o : Obj) : Below w.heap.size w (w.alloc o) := (Below.refl _ _).alloc (Nat.le_refl _) _
theorem below_more {a w : World} (h : Below a.heap.size a w) (o : Obj) : Below a.heap.size a (w.alloc o) := h.alloc h.size o
theorem heap_new (w : World) (o : Obj) {g : Nat} (h : g = w.heap.size) : (w.alloc o).heap[g]? = some o := by
  subst h
  show (w.heap.push o)[_]? = _
  simp
theorem frozen_of_heap {w : World} {g i : Nat} {cs : Array Value} {t : TypeId} (h : w.heap[g]? = some (.cells cs t (0, 0))) : w.frozen? ⟨g, i, none⟩ = false := by simp [World.frozen?, h]
theorem cell_of_heap {w : World} {g i : Nat} {cs : Array Value} {t : TypeId} (h : w.heap[g]? = some (.cells cs t (0, 0))) : w.cell? ⟨g, i, none⟩ = cs[i]? := by simp [World.cell?, h]
/-- The block that was laid last, behind calls that keep it. -/
theorem newest {w w1 : World} {cs : Array Value} {t : TypeId} {B : Nat} (hb : Below B (w.alloc (.cells cs t)) w1) (hB : w.heap.size < B) : w1.heap[w.heap.size]? = some (.cells cs t (0, 0)) :=
  (hb.block _ hB).trans (heap_new w _ rfl)

theorem heap_lt {w : World} {g : Nat} {o : Obj} (h : w.heap[g]? = some o) : g < w.heap.size := by
  rcases Nat.lt_or_ge g w.heap.size with hlt | hge
  · exact hlt
  · rw [Array.getElem?_eq_none hge] at h; cases h
theorem But.heap {bs : List Nat} {w w' : World} {g : Nat} {o : Obj} (h : But bs w w') (hg : w.heap[g]? = some o) (hn : g ∉ bs) : w'.heap[g]? = some o := (h.block g (heap_lt hg) hn).trans hg
theorem heap_old {w : World} {g : Nat} {o o' : Obj} (hg : w.heap[g]? = some o) : (w.alloc o').heap[g]? = some o := (Below.heap_alloc w o' g (heap_lt hg)).trans hg
/-- The cells of a block that the calls kept. -/
theorem two_at {w : World} {g : Nat} {u v : Value} {t : TypeId} (h : w.heap[g]? = some (.cells #[u, v] t (0, 0))) :
    w.cell? ⟨g, 0, none⟩ = some u ∧ w.cell? ⟨g, 1, none⟩ = some v ∧ w.frozen? ⟨g, 0, none⟩ = false ∧ w.frozen? ⟨g, 1, none⟩ = false ∧ g < w.heap.size :=
  ⟨cell_of_heap h, cell_of_heap h, frozen_of_heap h, frozen_of_heap h, heap_lt h⟩
theorem four_at {w : World} {g : Nat} {u v x y : Value} {t : TypeId} (h : w.heap[g]? = some (.cells #[u, v, x, y] t (0, 0))) :
    w.cell? ⟨g, 0, none⟩ = some u ∧ w.cell? ⟨g, 1, none⟩ = some v ∧ w.cell? ⟨g, 2, none⟩ = some x ∧ w.cell? ⟨g, 3, none⟩ = some y ∧ w.frozen? ⟨g, 0, none⟩ = false ∧ w.frozen? ⟨g, 1, none⟩ = false ∧ w.frozen? ⟨g, 2, none⟩ = false ∧ w.frozen? ⟨g, 3, none⟩ = false ∧ g < w.heap.size :=
  ⟨cell_of_heap h, cell_of_heap h, cell_of_heap h, cell_of_heap h, frozen_of_heap h, frozen_of_heap h, frozen_of_heap h, frozen_of_heap h, heap_lt h⟩
/-- Nothing of the first list lies in the second, for they lie on two sides of a number. -/
theorem apart_of {fp fq : List Nat} {m : Nat} (h1 : ∀ b ∈ fp, b < m) (h2 : From m fq) : ∀ b ∈ fp, b ∉ fq := fun b hb hq => by have := h1 b hb; have := h2 b hq; omega

/-- A list of integers as cells. -/
abbrev cellsOf (k : IntKind) (zs : List Int) : List Value := zs.map (Value.int k)
end Go.Proofs.YtldimfmhbdhbnaaGreat

/-
  Plain lemmas on lists, arrays and worlds that the walks over slices of integers use.
-/
namespace Go.Proofs.YtldimfmhbdhbnaaGreat
open Go.RowKit

theorem Rd.at_ {w : World} {v : Value} {xs : List Value} {fp : List Nat} {A : Option Addr} {n c k : Nat} (h : Rd w 1 v xs fp) (hv : v = .slice A n c) (hk : k < n) :
    ∃ b off u, A = some ⟨b, off, none⟩ ∧ fp = [b] ∧ b < w.heap.size ∧ xs[k]? = some u ∧ w.cell? ⟨b, off + k, none⟩ = some u := by
  obtain ⟨A', n', c', e, h1, h2, h2', h3⟩ := h
  rw [hv] at e
  injection e with e1 e2 e3
  subst e1 e2 e3
  rcases h3 with ⟨h3, _⟩ | ⟨b, off, rfl, rfl, hlt, hc⟩
  · omega
  · have hl : k < xs.length := by omega
    exact ⟨b, off, xs[k], rfl, rfl, hlt, List.getElem?_eq_getElem hl, hc k _ (List.getElem?_eq_getElem hl)⟩

theorem Rd.ints_at {w : World} {K : IntKind} {zs : List Int} {fp : List Nat} {A : Option Addr} {c k : Nat} (h : Rd w 1 (.slice A zs.length c) (cellsOf K zs) fp) (hk : k < zs.length) :
    ∃ b off, A = some ⟨b, off, none⟩ ∧ fp = [b] ∧ b < w.heap.size ∧ w.cell? ⟨b, off + k, none⟩ = some (.int K zs[k]) := by
  obtain ⟨b, off, u, hA, hf, hb, hx, hc⟩ := h.at_ rfl hk
  rw [List.getElem?_map, List.getElem?_eq_getElem hk] at hx
  simp only [Option.map_some, Option.some.injEq] at hx
  subst hx
  exact ⟨b, off, hA, hf, hb, hc⟩

theorem Rd.len_le {w : World} {size : Nat} {xs : List Value} {fp : List Nat} {A : Option Addr} {n c : Nat} (h : Rd w size (.slice A n c) xs fp) : n ≤ 9223372036854775807 := by
  obtain ⟨A', n', c', e, h1, h2, h2', h3⟩ := h
  injection e with e1 e2 e3
  subst e2
  simpa [maxLen] using h2
theorem Rd.len_eq {w : World} {K : IntKind} {zs : List Int} {fp : List Nat} {A : Option Addr} {n c : Nat} (h : Rd w 1 (.slice A n c) (cellsOf K zs) fp) : n = zs.length := by
  obtain ⟨A', n', c', e, h1, h2, h2', h3⟩ := h
  injection e with e1 e2 e3
  subst e2
  simpa using h1.symm
/-- What reads as a list of integers is a slice of that length. -/
theorem Rd.form {w : World} {K : IntKind} {zs : List Int} {fp : List Nat} {v : Value} (h : Rd w 1 v (cellsOf K zs) fp) : ∃ A c, v = .slice A zs.length c := by
  have h' := h
  obtain ⟨A', n', c', rfl, _⟩ := h'
  exact ⟨A', c', by rw [h.len_eq]⟩

/-- The first k cells filled, the others still zero. -/
def part (z : Value) (xs : List Value) (k : Nat) : Array Value := (xs.take k ++ List.replicate (xs.length - k) z).toArray
theorem part_zero (z : Value) (xs : List Value) : part z xs 0 = madeCells #[z] xs.length := by
  unfold part madeCells
  apply Array.ext'
  apply List.ext_getElem?
  intro i
  simp only [List.take_zero, List.nil_append, Nat.sub_zero, List.getElem?_replicate, Array.toList_map, Array.toList_range, List.getElem?_map]
  by_cases h : i < xs.length
  · simp [h, Nat.mod_one]
  · simp [h]
theorem part_full (z : Value) (xs : List Value) : part z xs xs.length = xs.toArray := by simp [part]
theorem part_set (z : Value) (xs : List Value) (k : Nat) (h : k < xs.length) : (part z xs k).setIfInBounds k xs[k] = part z xs (k + 1) := by
  unfold part
  rw [List.setIfInBounds_toArray]
  congr 1
  have e : xs.length - k = (xs.length - (k + 1)) + 1 := by omega
  have e2 : min k xs.length = k := by omega
  rw [e, List.replicate_succ, List.set_append, if_neg (by simp [List.length_take, e2]), List.length_take, e2, Nat.sub_self, List.set_cons_zero, List.take_succ_eq_append_getElem h, List.append_assoc]
  rfl
theorem part_size (z : Value) (xs : List Value) (k : Nat) (h : k ≤ xs.length) : (part z xs k).size = xs.length := by
  simp [part]; omega
/-- A fresh block that holds just the cells xs. -/
theorem Rd.fresh {w w' : World} {e : TypeId} {xs : List Value} {size n : Nat} (hn : n ≤ maxLen) (hl : xs.length = n * size) {g : Nat} (h : w'.heap[g]? = some (.cells xs.toArray e (0, 0))) (hg : w.heap.size ≤ g) :
    ∃ fp, Rd w' size (.slice (some ⟨g, 0, none⟩) n n) xs fp ∧ NF w' fp ∧ From w.heap.size fp := by
  have hlt : g < w'.heap.size := by
    rcases Nat.lt_or_ge g w'.heap.size with hlt | hge
    · exact hlt
    · rw [Array.getElem?_eq_none hge] at h; cases h
  by_cases h0 : n = 0
  · exact ⟨[], ⟨_, n, n, rfl, hl, hn, Nat.le_refl _, .inl ⟨h0, rfl⟩⟩, NF.nil _, From.nil _⟩
  · refine ⟨[g], ⟨_, n, n, rfl, hl, hn, Nat.le_refl _, .inr ⟨g, 0, rfl, rfl, hlt, fun i u hu => ?_⟩⟩, fun b hb i => ?_, fun b hb => ?_⟩
    · simp [World.cell?, h, hu]
    · simp at hb; subst hb
      simp [World.frozen?, h]
    · simp at hb; subst hb; exact hg

/-- What a copy answers: a slice in new memory that reads as the list. -/
def CopyPost (K : IntKind) (w : World) (zs : List Int) (e : Ending) (w' : World) : Prop :=
  ∃ A c fp, e = .returned (.slice A zs.length c) ∧ Rd w' 1 (.slice A zs.length c) (cellsOf K zs) fp ∧ NF w' fp ∧ From w.heap.size fp ∧ Below w.heap.size w w'

/-- The marks: the numbers from k on, one a cell, each as f lays it. -/
def marks (f : Int → Int) (k : Int) (n : Nat) : List Int := (List.range n).map fun (i : Nat) => f (k + i)
theorem marks_length (f : Int → Int) (k : Int) (n : Nat) : (marks f k n).length = n := by simp [marks]
theorem marks_get (f : Int → Int) (k : Int) (n i : Nat) (h : i < (marks f k n).length) : (marks f k n)[i] = f (k + i) := by simp [marks]

/-- One mark more. -/
theorem mark_step {wr : World} {b off n k : Nat} {K : IntKind} {f : Int → Int} {q : Int} {old : Nat → Value} (hk : k < n)
    (hcl : ∀ j, j < n → wr.cell? ⟨b, off + j, none⟩ = some (if j < k then .int K (f (q + j)) else old j)) :
    ∀ j, j < n → (wr.setCell ⟨b, off + k, none⟩ (.int K (f (q + k)))).cell? ⟨b, off + j, none⟩ = some (if j < k + 1 then .int K (f (q + j)) else old j) := by
  intro j hj
  by_cases e : j = k
  · subst e
    rw [World.cell?_setCell_same _ _ _ (hcl j hj), if_pos (by omega)]
  · rw [World.cell?_setCell_other _ _ _ _ (by intro h; injection h with _ h2 _; omega), hcl j hj]
    by_cases h1 : j < k
    · rw [if_pos h1, if_pos (by omega)]
    · rw [if_neg h1, if_neg (by omega)]
theorem mark_done {wr : World} {b off n c : Nat} {K : IntKind} {f : Int → Int} {q : Int} {old : Nat → Value} (hn : n ≤ maxLen) (hc : n ≤ c) (hb : b < wr.heap.size)
    (hcl : ∀ j, j < n → wr.cell? ⟨b, off + j, none⟩ = some (if j < n then .int K (f (q + j)) else old j)) :
    Rd wr 1 (.slice (some ⟨b, off, none⟩) n c) (cellsOf K (marks f q n)) [b] := by
  refine ⟨_, n, c, rfl, by simp [marks], hn, hc, .inr ⟨b, off, rfl, rfl, hb, fun i u hu => ?_⟩⟩
  have hi : i < n := by
    rcases Nat.lt_or_ge i n with h | h
    · exact h
    · rw [List.getElem?_eq_none (by simpa [marks] using h)] at hu; cases hu
  rw [hcl i hi, if_pos hi, ← hu]
  simp [marks, hi]

/-- All of these numbers are bytes. -/
def Byt (zs : List Int) : Prop := ∀ z ∈ zs, 0 ≤ z ∧ z ≤ 255
theorem Byt.at_ {zs : List Int} (h : Byt zs) {k : Nat} (hk : k < zs.length) : 0 ≤ zs[k] ∧ zs[k] ≤ 255 := h _ (List.getElem_mem hk)
end Go.Proofs.YtldimfmhbdhbnaaGreat

/-
  Small contracts that every chapter uses: a number between two others; a struct of two integers.
-/
namespace Go.Proofs.YtldimfmhbdhbnaaGreat
open Go.RowKit

def inB (v lo hi : Int) : Bool := decide (lo ≤ v) && decide (v ≤ hi)
theorem inB_true {v lo hi : Int} : inB v lo hi = true ↔ lo ≤ v ∧ v ≤ hi := by simp [inB]
theorem inB_false {v lo hi : Int} : inB v lo hi = false ↔ v < lo ∨ hi < v := by
  rw [← Bool.not_eq_true, inB_true]; omega

theorem l1In_c (v lo hi : Int) (w : World) :
    Calls Tryz.prog 56 #[.int .i64 v, .int .i64 lo, .int .i64 hi] w fun e w' => e = .returned (.bool (inB v lo hi)) ∧ w = w' := by
  by_cases h1 : lo ≤ v <;> by_cases h2 : v ≤ hi
  all_goals
    go_enter Tryz.func56, Tryz.ntmps56
    go_wp2
    go_ret
    refine ⟨?_, rfl⟩
    simp [inB, *]

theorem l1Qty_c (v : Int) (w : World) :
    Calls Tryz.prog 91 #[.int .i64 v] w fun e w' => e = .returned (.bool (inB v 0 9999)) ∧ w = w' := by
  go_enter Tryz.func91, Tryz.ntmps91
  go_wp2_with (go_at_call 56; refine (l1In_c _ _ _ _).mono ?_; rintro e w' ⟨rfl, rfl⟩)
  go_ret
  exact ⟨rfl, rfl⟩

/-- A struct of two integers as a value. -/
abbrev pairV (p : Int × Int) : Value := .agg #[.int .i64 p.1, .int .i64 p.2]

end Go.Proofs.YtldimfmhbdhbnaaGreat
