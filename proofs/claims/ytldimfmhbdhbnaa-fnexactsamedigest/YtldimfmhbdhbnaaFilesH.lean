/-
  Contracts of the laws' helpers over slices of slices of rows, and over places: measuring, copying, comparing, marking.
-/
import Derived.Test.YtldimfmhbdhbnaaModel6
import Derived.Test.YtldimfmhbdhbnaaG1
namespace Go.Proofs.Ytldimfmhbdhbnaa
open Go.RowKit

/-- Marked rows: the numbers from q on, four a row. -/
def markR (rs : List R) (q : Int) : List R := (List.range rs.length).map fun (i : Nat) => (q + ((i * 4 : Nat) : Int), q + ((i * 4 + 1 : Nat) : Int), q + ((i * 4 + 2 : Nat) : Int), q + ((i * 4 + 3 : Nat) : Int))
theorem markR_length (rs : List R) (q : Int) : (markR rs q).length = rs.length := by simp [markR]
theorem rcs_markR (rs : List R) (q : Int) : rcs (markR rs q) = cellsOf .i64 (marks (fun x => x) q (rs.length * 4)) := by
  apply List.ext_getElem?
  intro i
  by_cases h : i < rs.length * 4
  · have hd : i / 4 * 4 + i % 4 = i := Nat.div_add_mod' i 4
    have hlt : i / 4 < (markR rs q).length := by rw [markR_length]; omega
    have hm : i % 4 < 4 := Nat.mod_lt _ (by omega)
    have := rcs_get (markR rs q) (i / 4) (i % 4) hlt hm
    rw [hd] at this
    rw [this]
    have e : (markR rs q)[i / 4] = (q + ((i / 4 * 4 : Nat) : Int), q + ((i / 4 * 4 + 1 : Nat) : Int), q + ((i / 4 * 4 + 2 : Nat) : Int), q + ((i / 4 * 4 + 3 : Nat) : Int)) := by simp [markR]
    rw [e]
    have h2 : (cellsOf .i64 (marks (fun x => x) q (rs.length * 4)))[i]? = some (.int .i64 (q + (i : Int))) := by simp [marks, h]
    rw [h2]
    have : i % 4 = 0 ∨ i % 4 = 1 ∨ i % 4 = 2 ∨ i % 4 = 3 := by omega
    rcases this with e | e | e | e <;> simp only [rc, e, List.getElem?_cons_zero, List.getElem?_cons_succ, Option.some.injEq, Value.int.injEq, true_and] <;> omega
  · rw [List.getElem?_eq_none (by rw [rcs_length, markR_length]; omega), List.getElem?_eq_none (by simp [marks]; omega)]
abbrev cntR (rs : List R) : Nat := rs.length * 4
abbrev markFs (l : List (List R)) (q : Int) : List (List R) := markL markR cntR l q
abbrev cntFs (l : List (List R)) : Nat := cntL cntR l
theorem cntFs_eq (l : List (List R)) : cntFs l = totS l * 4 := by
  unfold cntFs totS
  induction l with
  | nil => rfl
  | cons a t ih => rw [cntL_cons, cntL_cons, ih, Nat.add_mul]

set_option maxRecDepth 100000 in
set_option maxHeartbeats 2000000 in
theorem szRowSS_c (A : Option Addr) (c : Nat) (l : List (List R)) (q : Int) (w : World) (fp : List Nat) (ha : RdF w (.slice A l.length c) l fp) (hq : 0 ≤ q) (hq2 : q ≤ 1048576) :
    Calls Try.prog 80 #[.slice A l.length c, .int .i64 q] w fun e w' => e = .returned (.int .i64 (if q < fsz l then -1 else q - fsz l)) ∧ w = w' := by
  have hmax := ha.len_le.2
  generalize hZ : (if q < fsz l then (-1 : Int) else q - fsz l) = Z
  have HZ := Lib.hid hZ
  clear hZ
  by_cases h0 : q < (l.length : Int)
  · have e : Z = -1 := by rw [← HZ.out, if_pos (by unfold fsz; omega)]
    have HE := Lib.hid e; clear e
    have t1 : q - (l.length : Int) < 0 := by omega
    go_enter Try.func80, Try.ntmps80
    go_wp2
    go_ret
    exact ⟨congrArg (fun z => Ending.returned (Value.int .i64 z)) HE.out.symm, rfl⟩
  · have t1 : ¬ (q - (l.length : Int) < 0) := by omega
    go_enter Try.func80, Try.ntmps80
    go_wp2
    go_loop [1, 5] (fun s i => ∃ k : Nat, k ≤ l.length ∧ i = .int .i64 k ∧ ∃ r : Int, s = .int .i64 r ∧ Hid (r = q - (l.length : Int) - (totS (l.take k) : Int)) ∧ 0 ≤ r ∧ r ≤ 1048576) (fun _ i => l.length - (intOf i).toNat)
    case atStart => exact ⟨0, Nat.zero_le _, rfl, _, rfl, Lib.hid (by simp [totS, cntL]), by omega, by omega⟩
    case round =>
      obtain ⟨k, hk, rfl, r, rfl, hr, hr0, hr1⟩ := hrel
      by_cases hlt : k < l.length
      · obtain ⟨b, off, B, d, f, rfl, hb, hbl, hc, hrd, hf⟩ := rowsAt ha hlt
        have hn := hrd.len_le
        have ht := totS_take l k hlt
        have hle := totS_le l (k + 1)
        have HT := Lib.hid ht; have HLE := Lib.hid hle
        clear ht hle
        generalize l[k].length = n at *
        clear ha hrd
        go_wp2_with fail
        refine (szRowS_c B n d r _ hn hr0 hr1).mono ?_
        by_cases h1 : r < (n : Int)
        · rw [if_pos h1]
          rintro e w1 ⟨rfl, rfl⟩
          have e : Z = -1 := by rw [← HZ.out, if_pos (by unfold fsz; have := HT.out; have := HLE.out; have := hr.out; omega)]
          have HE := Lib.hid e; clear e
          go_wp2
          go_ret
          exact ⟨congrArg (fun z => Ending.returned (Value.int .i64 z)) HE.out.symm, rfl⟩
        · rw [if_neg h1]
          rintro e w1 ⟨rfl, rfl⟩
          have t2 : ¬ (r - (n : Int) < 0) := by omega
          go_wp2
          exact ⟨⟨k + 1, by omega, by go_num, _, rfl, Lib.hid (by have := HT.out; have := hr.out; omega), by omega, by omega⟩, by simp [intOf]; omega⟩
      · obtain rfl : k = l.length := by omega
        have e : Z = r := by
          have h1 := hr.out; rw [List.take_length] at h1
          rw [← HZ.out, if_neg (by unfold fsz; omega)]; unfold fsz; omega
        have HE := Lib.hid e; clear e
        go_wp2
        go_ret
        exact ⟨congrArg (fun z => Ending.returned (Value.int .i64 z)) HE.out.symm, rfl⟩

set_option maxRecDepth 1000000 in
theorem infoRowS : ∃ i, Try.prog.info? 24 = some i ∧ i.zero = some (.slice none 0 0) ∧ i.size = 1 ∧ i.bytes = 24 := ⟨_, rfl, rfl, rfl, rfl⟩
theorem makeRowSS (n : Nat) (hn : n ≤ 1099511627776) (W : World) : (Instr.makeSlice 27 (.int .i64 (n : Int)) (.int .i64 (n : Int))).run Try.prog W = .ok (.slice (some ⟨W.heap.size, 0, none⟩) n n) (W.alloc (.cells (madeCells #[.slice none 0 0] n) 24)) := by
  obtain ⟨i, hi, hz, hsz, hby⟩ := infoRowS
  have hr := run_make (P := Try.prog) W 27 24 i (.slice none 0 0) Try.underlying27 hi hz .i64 .i64 n n (by omega) (by omega) (by rw [hby]; omega) (by omega)
  simp only [Int.toNat_natCast, hsz, Nat.mul_one] at hr
  exact hr
theorem madeNils (n : Nat) : madeCells #[.slice none 0 0] n = (List.replicate n [Value.slice none 0 0]).flatten.toArray := by
  have h := made_zeros (K := 1) (.slice none 0 0) #[.slice none 0 0] rfl Nat.one_pos n
  rw [Nat.mul_one] at h
  rw [h]
  congr 1
  clear h
  induction n with
  | zero => rfl
  | succ n ih => rw [List.replicate_succ, List.replicate_succ, List.flatten_cons, ih]; rfl


set_option maxRecDepth 100000 in
set_option maxHeartbeats 2000000 in
theorem toRowSS_c (A : Option Addr) (c : Nat) (l : List (List R)) (w : World) (fp : List Nat) (hs : fsz l ≤ 1048576) (ha : RdF w (.slice A l.length c) l fp) :
    Calls Try.prog 85 #[.slice A l.length c] w (CopySl rowsK w l) := by
  have hn : l.length ≤ 1048576 := by unfold fsz at hs; omega
  have HS : Hid (∀ k (h : k < l.length), l[k].length ≤ 1048576) := fun k h => by have := len_of_tot l k h; unfold fsz at hs; omega
  have hmk : ∀ W : World, (Instr.makeSlice 27 (.int .i64 (l.length : Int)) (.int .i64 (l.length : Int))).run Try.prog W = .ok (.slice (some ⟨W.heap.size, 0, none⟩) l.length l.length) (W.alloc (.cells (madeCells #[.slice none 0 0] l.length) 24)) := fun W => makeRowSS _ (by omega) W
  have HA := Lib.hid ha; have HLT := Lib.hid ha.lt
  clear hs ha
  go_enter Try.func85, Try.ntmps85
  go_wp2
  clear hmk
  go_loopw [4] (fun i wr => ∃ k : Nat, k ≤ l.length ∧ i = .int .i64 k ∧ Hid (Fill rowsK [.slice none 0 0] w 24 l k wr)) (fun i _ => l.length - (intOf i).toNat)
  case atStart => exact ⟨0, Nat.zero_le _, rfl, Lib.hid (Fill.zero (kd := rowsK) (l := l) (madeNils l.length))⟩
  case round =>
    obtain ⟨k, hk, rfl, hfl⟩ := hrel
    by_cases hlt : k < l.length
    · obtain ⟨b, off, B, d, f, rfl, hb, hbl, hc, hrd, hf⟩ := rowsAt (HA.out.below' hfl.out.below) hlt
      have hsk := HS.out k hlt
      clear hf hb hbl
      go_wp2_with fail
      refine (toRowS_c B d l[k] _ f hsk hrd).mono ?_
      rintro e w1 ⟨B1, d1, f1, rfl, hr1, hn1, hf1, hb1⟩
      obtain ⟨hz1, hfz, hcl⟩ := hfl.out.cells (by rfl) hlt hb1
      have c0 := hcl 0 _ rfl
      simp only [rowsK, Nat.mul_one, Nat.add_zero] at c0
      have f0 := hfz k
      have hst : ∀ w2, But [w.heap.size] w1 w2 → (∀ cs, w1.heap[w.heap.size]? = some (.cells cs 24 (0, 0)) → w2.heap[w.heap.size]? = some (.cells (setAll cs (k * rowsK.K) [.slice B1 l[k].length d1]) 24 (0, 0))) → Fill rowsK [.slice none 0 0] w 24 l (k + 1) w2 :=
        fun w2 hbut hset => hfl.out.step rfl hlt hb1 ⟨_, rfl, hr1⟩ hn1 hf1 hr1.nodup hbut hset
      have HST := Lib.hid hst; clear hst
      clear hr1 hn1 hf1 hb1 hfl hfz hcl hc hrd
      go_wp2_with fail
      refine ⟨⟨k + 1, by omega, by go_num, HST.out _ ((But.refl _ _).setCell (by simp) _) (fun cs hcs => ?_)⟩, by simp [intOf]; omega⟩
      simp only [rowsK, Nat.mul_one, setAll]
      exact heap_set1 hcs
    · obtain rfl : k = l.length := by omega
      go_wp2
      go_ret
      exact hfl.out.done (by unfold maxLen; omega)

set_option maxRecDepth 100000 in
set_option maxHeartbeats 2000000 in
theorem eqRowSS_c (A B : Option Addr) (c d : Nat) (l : List (List R)) (w : World) (fp fq : List Nat)
    (ha : RdF w (.slice A l.length c) l fp) (hb : RdF w (.slice B l.length d) l fq) :
    Calls Try.prog 89 #[.slice A l.length c, .slice B l.length d] w fun e w' => e = .returned (.bool true) ∧ Below w.heap.size w w' := by
  have hmax := ha.len_le.2
  have HA := Lib.hid ha; have HB := Lib.hid hb; clear ha hb
  go_enter Try.func89, Try.ntmps89
  go_wp2
  go_loopw [5] (fun i wr => ∃ k : Nat, k ≤ l.length ∧ i = .int .i64 k ∧ Hid (Below w.heap.size w wr)) (fun i _ => l.length - (intOf i).toNat)
  case atStart => exact ⟨0, Nat.zero_le _, rfl, Below.refl _ _⟩
  case round =>
    obtain ⟨k, hk, rfl, hbel⟩ := hrel
    by_cases hlt : k < l.length
    · obtain ⟨b1, o1, B1, d1, f1, rfl, _, hl1, p0, r1, _⟩ := rowsAt (HA.out.below' hbel.out) hlt
      obtain ⟨b2, o2, B2, d2, f2, rfl, _, hl2, q0, r2, _⟩ := rowsAt (HB.out.below' hbel.out) hlt
      have HR := Lib.hid (And.intro r1 r2); clear r1 r2
      generalize l[k] = rs at *
      have hi0 : (0 : Int) ≤ (k : Int) := by omega
      have hi1 : (k : Int) < (l.length : Int) := by omega
      go_wp2_with fail
      go_region_held3 (fun w' => w'.cell? ⟨b1, o1 + k, none⟩ = some (.slice B1 rs.length d1) ∧ w'.cell? ⟨b2, o2 + k, none⟩ = some (.slice B2 rs.length d2))
        (first
          | go_keep
          | exact ⟨(hb1.cell (p := ⟨b1, _, none⟩) hl1).trans p0, (hb1.cell (p := ⟨b2, _, none⟩) hl2).trans q0⟩)
        ((go_at_call 31; refine (eqRowS_c B1 B2 d1 d2 rs _ f1 f2 HR.out.1.drew HR.out.2.drew).mono ?_; rintro e w1 ⟨rfl, hb1⟩))
      have hb2 : Below w.heap.size w w1 := hbel.out.drew.trans (hb1.mono hbel.out.size)
      have HB2 := Lib.hid hb2; clear hb2 hb1
      go_wp2_with fail
      exact ⟨⟨k + 1, by omega, by go_num, HB2.out⟩, by simp [intOf]; omega⟩
    · go_wp2
      go_ret
      exact ⟨rfl, hbel.out⟩


end Go.Proofs.Ytldimfmhbdhbnaa
