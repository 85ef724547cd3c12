/-
  A drawn number is a short one.
-/
import Derived.Test.YtocllaendofndaaDoorSrc
import Derived.Test.YtocllaendofndaaDoorRead
import Derived.Laws.BytesArg
namespace Go.Proofs.YtocllaendofndaaDoor
open Go.RowKit

/-- A drawn number is a short one. -/
def NumPost (w : World) (s : Nat) (zs : List Int) (a : Nat) (e : Ending) (w' : World) : Prop :=
  ∃ v, e = .returned (.int .i64 v) ∧ shortB v = true ∧ Drawn w s zs a 2 w'

end Go.Proofs.YtocllaendofndaaDoor

/-
  Contracts of the draws of chapter 1: what is drawn is of its kind, lies in new memory, and nothing old has turned.
-/
namespace Go.Proofs.YtocllaendofndaaDoor
open Go.RowKit

/-- What a draw of n bytes answers. -/
def SomePost (w : World) (s : Nat) (zs : List Int) (a n : Nat) (e : Ending) (w' : World) : Prop :=
  ∃ (bs : List Int) (v : Value) (fp : List Nat), e = .returned v ∧ bs.length = n ∧ Byt bs ∧ Rd w' 1 v (cellsOf .u8 bs) fp ∧ NF w' fp ∧ From w.heap.size fp ∧ Drawn w s zs a n w'

theorem Byt.snoc {zs : List Int} (h : Byt zs) {v : Int} (h0 : 0 ≤ v) (h1 : v ≤ 255) : Byt (zs ++ [v]) := by
  intro z hz
  rcases List.mem_append.1 hz with hz | hz
  · exact h z hz
  · simp at hz; subst hz; exact ⟨h0, h1⟩

/-- Behind the draws of one call: its own source was new. -/
theorem Drawn.fresh {w w1 w2 : World} {zs : List Int} {a d : Nat} (hb : Below w.heap.size w w1) (h : Drawn w1 w.heap.size zs a d w2) : Below w.heap.size w w2 :=
  hb.trans (h.but.below hb.size (fun b hm => by simp at hm; omega))

/-- An integer was drawn. -/
def IntPost (w : World) (e : Ending) (w' : World) : Prop := ∃ v, e = .returned (.int .i64 v) ∧ (Lit.int .i64 v).wf = true ∧ Below w.heap.size w w'

theorem wf_small {v : Int} (h0 : -100000 ≤ v) (h1 : v ≤ 100000) : (Lit.int .i64 v).wf = true := by
  simp [Lit.wf, IntKind.min, IntKind.max, IntKind.signed, IntKind.bits]
  omega

/-- Bytes and a place were drawn. -/
def GetPost (w : World) (e : Ending) (w' : World) : Prop :=
  ∃ (bs : List Int) (A : Option Addr) (c : Nat) (p : Int) (fp : List Nat), e = .returned (.tuple #[.slice A bs.length c, .int .i64 p]) ∧ Byt bs ∧ (Lit.int .i64 p).wf = true ∧ Rd w' 1 (.slice A bs.length c) (cellsOf .u8 bs) fp ∧ From w.heap.size fp ∧ Below w.heap.size w w'

end Go.Proofs.YtocllaendofndaaDoor

/-
  Contracts of the draws of lists and of packed bytes.
-/
namespace Go.Proofs.YtocllaendofndaaDoor
open Go.RowKit

/-- A list of integers was drawn. -/
def ListPost (K : IntKind) (ok : List Int → Prop) (w : World) (e : Ending) (w' : World) : Prop :=
  ∃ (xs : List Int) (A : Option Addr) (c : Nat) (fp : List Nat), e = .returned (.slice A xs.length c) ∧ ok xs ∧ Rd w' 1 (.slice A xs.length c) (cellsOf K xs) fp ∧ From w.heap.size fp ∧ Below w.heap.size w w'

theorem Drawn.keeps {w w1 : World} {s : Nat} {zs : List Int} {a d base k : Nat} {e : TypeId} {v : Value} {xs : List Value} (h : Drawn w s zs a d w1) (ho : w.ownsRow base e 1 v k xs) (hs : s < base) : w1.ownsRow base e 1 v k xs := by
  have hg1 : w.grownBy w1 (some s) := ⟨h.but.os, h.but.tape, h.but.output, h.but.size, fun i hi hne => h.but.block i hi (fun hm => hne (by simp at hm; rw [hm]))⟩
  refine ho.kept hg1 ?_
  rcases hob : v.ownBlock with _ | g
  · exact .inl rfl
  · exact .inr (by rw [Ne, Option.some.injEq]; rintro rfl; have := own_base ho hob; omega)

theorem made_zeros (j : Nat) : madeCells #[.int .i64 0] j = (cellsOf .i64 (List.replicate j 0)).toArray := by
  have h := part_zero (.int .i64 0) (cellsOf .i64 (List.replicate j 0))
  simp only [List.length_map, List.length_replicate] at h
  rw [← h]
  simp [part]

/-- One cell of a slice is written. -/
theorem Rd.set0 {w : World} {K : IntKind} {b off c : Nat} {x v : Int} {t : List Int} {fp : List Nat} (h : Rd w 1 (.slice (some ⟨b, off, none⟩) (x :: t).length c) (cellsOf K (x :: t)) fp) :
    Rd (w.setCell ⟨b, off, none⟩ (.int K v)) 1 (.slice (some ⟨b, off, none⟩) (v :: t).length c) (cellsOf K (v :: t)) fp := by
  obtain ⟨A, n, c', e, h1, h2, h2', h3⟩ := h
  injection e with e1 e2 e3
  subst e1 e2 e3
  refine ⟨_, _, _, rfl, by simp, h2, h2', ?_⟩
  rcases h3 with ⟨h3, _⟩ | ⟨b', off', hA, rfl, hlt, hc⟩
  · simp at h3
  · injection hA with hA; injection hA with e1 e2 _; subst e1 e2
    refine .inr ⟨b, off, rfl, rfl, by simpa [World.setCell] using hlt, fun i u hu => ?_⟩
    match i, hu with
    | 0, hu =>
      simp at hu
      subst hu
      exact World.cell?_setCell_same _ _ _ (hc 0 _ rfl)
    | i + 1, hu =>
      rw [World.cell?_setCell_other _ _ _ _ (by intro h; injection h with _ h2 _; omega)]
      exact hc (i + 1) u (by simpa using hu)
/-- The first k elements of a slice. -/
theorem Rd.upto {w : World} {K : IntKind} {A : Option Addr} {c k : Nat} {zs : List Int} {fp : List Nat} (h : Rd w 1 (.slice A zs.length c) (cellsOf K zs) fp) (hk : k ≤ zs.length) :
    ∃ fq, Rd w 1 (.slice A (zs.take k).length c) (cellsOf K (zs.take k)) fq ∧ ∀ b ∈ fq, b ∈ fp := by
  obtain ⟨A, n, c', e, h1, h2, h2', h3⟩ := h
  injection e with e1 e2 e3
  subst e1 e2 e3
  have hl : (zs.take k).length = k := by rw [List.length_take]; omega
  rw [hl]
  by_cases h0 : k = 0
  · subst h0
    exact ⟨[], ⟨_, _, _, rfl, by simp, by omega, by omega, .inl ⟨rfl, rfl⟩⟩, fun _ h => by cases h⟩
  · rcases h3 with ⟨h3, _⟩ | ⟨b', off', rfl, rfl, hlt, hc⟩
    · omega
    · refine ⟨[b'], ⟨_, _, _, rfl, by simp; omega, by omega, by omega, .inr ⟨b', off', rfl, rfl, hlt, fun i u hu => ?_⟩⟩, fun _ h => h⟩
      refine hc i u ?_
      unfold cellsOf at hu
      rw [List.map_take, List.getElem?_take] at hu
      split at hu
      · exact hu
      · cases hu

theorem Rd.cap_le {w : World} {size : Nat} {A : Option Addr} {n c : Nat} {xs : List Value} {fp : List Nat} (h : Rd w size (.slice A n c) xs fp) : n ≤ c := by
  obtain ⟨A, n', c', e, h1, h2, h2', h3⟩ := h
  injection e with e1 e2 e3
  subst e2 e3
  exact h2'
theorem put2_byt (n : Int) : Byt (put2 n) := by
  intro z hz
  simp [put2] at hz
  omega
theorem pk_byt (zs : List Int) (k : Nat) (h : zs.length ≤ 20) : Byt (pk zs k) := by
  intro z hz
  unfold pk at hz
  rcases List.mem_cons.1 hz with rfl | hz
  · omega
  · obtain ⟨n, _, hn⟩ := List.mem_flatMap.1 hz
    exact put2_byt n z hn

end Go.Proofs.YtocllaendofndaaDoor

/-
  Plain facts on the encodings: numbers are read back from their bytes, and bytes that can be read are written back.
-/
namespace Go.Proofs.YtocllaendofndaaDoor

theorem get2_put2 {n : Int} (h : shortB n = true) : get2 (n / 256 % 256) (n % 256) = n := by
  obtain ⟨h1, h2⟩ := inB_true.1 h
  unfold get2
  split <;> omega
theorem put2_get2 {x y : Int} (x0 : 0 ≤ x) (x1 : x ≤ 255) (y0 : 0 ≤ y) (y1 : y ≤ 255) : put2 (get2 x y) = [x, y] ∧ shortB (get2 x y) = true := by
  unfold put2 get2
  constructor
  · congr 1
    · split <;> omega
    · congr 1
      split <;> omega
  · apply inB_true.2
    split <;> omega

theorem getP_putL {n : Int} (h : putC n = 0) : getP (putL n) 0 = (0, n) := by
  have hs : shortB n = true := by
    cases hs : shortB n
    · simp [putC, hs] at h
    · rfl
  have e : putL n = [n / 256 % 256, n % 256] := by simp [putL, hs, put2]
  rw [e]
  unfold getP
  rw [if_pos (by simp)]
  simp [get2_put2 hs]

theorem flat_get (xs : List Int) (k : Nat) (h : k < xs.length) : (xs.flatMap put2)[2 * k]? = some (xs[k] / 256 % 256) ∧ (xs.flatMap put2)[2 * k + 1]? = some (xs[k] % 256) := by
  induction xs generalizing k with
  | nil => simp at h
  | cons z t ih =>
    rw [List.flatMap_cons]
    match k, h with
    | 0, _ => simp [put2]
    | k + 1, h =>
      have := ih k (by simpa using h)
      have e1 : 2 * (k + 1) = 2 + 2 * k := by omega
      have e2 : 2 * (k + 1) + 1 = 2 + (2 * k + 1) := by omega
      rw [e2, e1]
      rw [List.getElem?_append_right (by simp [put2]), List.getElem?_append_right (by simp [put2])]
      simpa [put2] using this

theorem nums_pk (xs : List Int) (ha : allShort xs) : nums (pk xs xs.length) xs.length = xs := by
  apply List.ext_getElem
  · rw [nums_length]
  · intro k h1 h2
    have hl := pk_length xs xs.length (Nat.le_refl _)
    rw [nums_get _ _ _ (by rwa [nums_length] at h1) (by rw [hl]; omega)]
    have hf := flat_get xs k h2
    have e1 : (pk xs xs.length)[1 + 2 * k]? = some (xs[k] / 256 % 256) := by
      unfold pk; rw [Nat.add_comm 1, List.getElem?_cons_succ, List.take_length]; exact hf.1
    have e2 : (pk xs xs.length)[1 + 2 * k + 1]? = some (xs[k] % 256) := by
      unfold pk; rw [List.getElem?_cons_succ, List.take_length, Nat.add_comm 1]; exact hf.2
    rw [List.getElem?_eq_getElem (by rw [hl]; omega)] at e1 e2
    injection e1 with e1
    injection e2 with e2
    rw [e1, e2]
    exact get2_put2 (ha k h2)

theorem packC_zero {xs : List Int} (h : packC xs = 0) : xs.length ≤ 20 ∧ allShort xs := by
  unfold packC at h
  split at h
  · cases h
  · split at h
    · exact ⟨by omega, by assumption⟩
    · cases h

theorem read_pack {xs : List Int} (h : packC xs = 0) : readC (packL xs) = 0 ∧ readL (packL xs) = xs := by
  obtain ⟨h1, h2⟩ := packC_zero h
  have e : packL xs = pk xs xs.length := packL_0 (by omega) h2
  have hl := pk_length xs xs.length (Nat.le_refl _)
  have h0 : (pk xs xs.length).getD 0 0 = (xs.length : Int) := by simp [pk]
  have hok : readOk (pk xs xs.length) := ⟨by omega, by rw [h0]; omega, by rw [h0, hl]; omega⟩
  rw [e]
  exact ⟨readC_ok hok, by rw [readL_ok hok h0]; exact nums_pk xs h2⟩

theorem flat_nums (zs : List Int) (hby : Byt zs) (k : Nat) (h : 2 * k + 1 ≤ zs.length) : (nums zs k).flatMap put2 = (zs.drop 1).take (2 * k) ∧ ∀ j (hj : j < (nums zs k).length), shortB (nums zs k)[j] = true := by
  induction k with
  | zero => exact ⟨by simp [nums], fun j hj => by simp [nums] at hj⟩
  | succ k ih =>
    obtain ⟨h1, h2⟩ := ih (by omega)
    have hx := hby.at_ (k := 1 + 2 * k) (by omega)
    have hy := hby.at_ (k := 1 + 2 * k + 1) (by omega)
    obtain ⟨p1, p2⟩ := put2_get2 hx.1 hx.2 hy.1 hy.2
    rw [nums_snoc zs k (by omega)]
    constructor
    · rw [List.flatMap_append, h1, List.flatMap_cons, List.flatMap_nil, List.append_nil, p1]
      have e : 2 * (k + 1) = 2 * k + 1 + 1 := by omega
      rw [e, List.take_succ_eq_append_getElem (by rw [List.length_drop]; omega), List.take_succ_eq_append_getElem (by rw [List.length_drop]; omega), List.append_assoc]
      congr 1
      simp only [List.getElem_drop, List.singleton_append, List.cons.injEq, and_true]
      constructor
      · trivial
      · congr 1
    · intro j hj
      rw [List.length_append, nums_length] at hj
      by_cases hjk : j < k
      · rw [List.getElem_append_left (by rw [nums_length]; exact hjk)]
        exact h2 j (by rw [nums_length]; exact hjk)
      · have : j = k := by simp at hj; omega
        subst this
        rw [List.getElem_append_right (by rw [nums_length]; omega)]
        simpa [nums_length] using p2

theorem pack_read {zs : List Int} (hby : Byt zs) (h : readC zs = 0) : packC (readL zs) = 0 ∧ packL (readL zs) = zs := by
  have hok : readOk zs := by
    unfold readC at h
    split at h
    · assumption
    · cases h
  obtain ⟨n, h0, h20, hl⟩ := readOk_of hok hby
  rw [readL_ok hok h0]
  obtain ⟨f1, f2⟩ := flat_nums zs hby n (by omega)
  have hln := nums_length zs n
  have ha : allShort (nums zs n) := f2
  refine ⟨packC_0 (by omega) ha, ?_⟩
  rw [packL_0 (by omega) ha]
  unfold pk
  rw [List.take_length, f1, hln]
  match zs, hl, h0 with
  | z :: t, hl, h0 =>
    have e : ((z :: t).drop 1).take (2 * n) = t := List.take_of_length_le (by rw [List.drop_one, List.tail_cons]; rw [List.length_cons] at hl; omega)
    rw [e]
    have h0' : z = (n : Int) := by simpa using h0
    rw [h0']
theorem packL_byt {xs : List Int} (h : packC xs = 0) : Byt (packL xs) := by
  obtain ⟨h1, h2⟩ := packC_zero h
  rw [packL_0 (by omega) h2]
  intro z hz
  unfold pk at hz
  rcases List.mem_cons.1 hz with rfl | hz
  · omega
  · obtain ⟨n, _, hn⟩ := List.mem_flatMap.1 hz
    simp [put2] at hn
    omega
theorem putL_byt (n : Int) : Byt (putL n) := by
  intro z hz
  unfold putL put2 at hz
  split at hz
  · simp at hz; omega
  · cases hz
end Go.Proofs.YtocllaendofndaaDoor

/-
  Contracts of the laws' small helpers.
-/
namespace Go.Proofs.YtocllaendofndaaDoor
open Go.RowKit

set_option maxRecDepth 100000 in
set_option maxHeartbeats 1000000 in
theorem lwBig_c (A : Option Addr) (n c : Nat) (w : World) (hn : n ≤ 9223372036854775807) :
    Calls Tryd.prog 6 #[.slice A n c] w fun e w' => e = .returned (.bool (decide (1048576 < n))) ∧ w = w' := by
  by_cases h : 1048576 < n
  all_goals
    go_enter Tryd.func6, Tryd.ntmps6
    go_wp2
    go_ret
    refine ⟨?_, rfl⟩
    first | rfl | (simp [h]; done) | (simp; omega)

set_option maxRecDepth 100000 in
set_option maxHeartbeats 1000000 in
theorem Rd.str {w : World} {A : Option Addr} {c : Nat} {zs : List Int} {fp : List Nat} (h : Rd w 1 (.slice A zs.length c) (cellsOf .u8 zs) fp) :
    (convert 22 9 (.slice A zs.length c)).run Tryd.prog w = .ok (.string (strOfNums zs)) w := by
  obtain ⟨A', n', c', e, h1, h2, h2', h3⟩ := h
  injection e with e1 e2 e3
  subst e1 e2 e3
  rcases h3 with ⟨h3, _⟩ | ⟨b, off, rfl, rfl, hlt, hc⟩
  · have hz : zs = [] := List.eq_nil_of_length_eq_zero h3
    subst hz
    rcases A with _ | a
    · exact run_convert_bytes_nil w _ _ Tryd.underlying22 Tryd.underlying5 _ _ _ Tryd.underlying9
    · rw [run_convert_bytes_string w 22 9 5 _ _ _ Tryd.underlying22 Tryd.underlying5 Tryd.underlying9, run_bytesToString w a _ _ [] (by simp [loadCells, loadCellsFrom])]
      rfl
  · refine run_convert_bytes_arg w _ _ Tryd.underlying22 Tryd.underlying5 b off _ _ zs rfl (fun i hi => ?_) _ Tryd.underlying9
    refine hc i _ ?_
    rw [List.getElem?_map, List.getElem?_eq_getElem hi, List.getD_eq_getElem?_getD, List.getElem?_eq_getElem hi]
    rfl

set_option maxRecDepth 100000 in
set_option maxHeartbeats 1000000 in
theorem lwBytes_c (A B : Option Addr) (c d : Nat) (zs : List Int) (w : World) (fp fq : List Nat)
    (ha : Rd w 1 (.slice A zs.length c) (cellsOf .u8 zs) fp) (hb : Rd w 1 (.slice B zs.length d) (cellsOf .u8 zs) fq) :
    Calls Tryd.prog 12 #[.slice A zs.length c, .slice B zs.length d] w fun e w' => e = .returned (.bool true) ∧ Below w.heap.size w w' := by
  have h1 := ha.str
  have h2 := hb.str
  go_enter Tryd.func12, Tryd.ntmps12
  go_wp2_with fail
  go_ret
  exact ⟨rfl, Below.refl _ _⟩
end Go.Proofs.YtocllaendofndaaDoor
