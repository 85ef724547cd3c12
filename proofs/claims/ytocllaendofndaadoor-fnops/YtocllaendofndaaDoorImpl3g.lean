/-
  Contracts of the program's functions of chapter 3, seventh part: words and numbers out of a text, or a panic.
-/
import Derived.Test.YtocllaendofndaaDoorImpl3f
import Derived.Test.YtocllaendofndaaDoorImpl3e
import Derived.Test.YtocllaendofndaaDoorText3b
import Derived.Test.YtocllaendofndaaDoorG7
namespace Go.Proofs.YtocllaendofndaaDoor
open Go.RowKit

theorem words_ix0 (w : World) : (Instr.index 65 (.agg wordsV) (.int .i64 0)).run Tryd.prog w = .ok (.string ⟨#[114, 101, 99, 101, 105, 118, 101]⟩) w := by kernel_rfl
theorem words_ix1 (w : World) : (Instr.index 65 (.agg wordsV) (.int .i64 1)).run Tryd.prog w = .ok (.string ⟨#[116, 97, 107, 101]⟩) w := by kernel_rfl
theorem words_ix2 (w : World) : (Instr.index 65 (.agg wordsV) (.int .i64 2)).run Tryd.prog w = .ok (.string ⟨#[114, 101, 115, 101, 114, 118, 101]⟩) w := by kernel_rfl
theorem words_ix3 (w : World) : (Instr.index 65 (.agg wordsV) (.int .i64 3)).run Tryd.prog w = .ok (.string ⟨#[99, 111, 109, 109, 105, 116]⟩) w := by kernel_rfl
theorem words_ix4 (w : World) : (Instr.index 65 (.agg wordsV) (.int .i64 4)).run Tryd.prog w = .ok (.string ⟨#[114, 101, 108, 101, 97, 115, 101]⟩) w := by kernel_rfl
theorem words_ix5 (w : World) : (Instr.index 65 (.agg wordsV) (.int .i64 5)).run Tryd.prog w = .ok (.string ⟨#[116, 114, 97, 110, 115, 102, 101, 114]⟩) w := by kernel_rfl
theorem words_ix6 (w : World) : (Instr.index 65 (.agg wordsV) (.int .i64 6)).run Tryd.prog w = .ok (.string ⟨#[116, 105, 99, 107]⟩) w := by kernel_rfl
theorem words_ix (k : Nat) (hk : k < 7) (w : World) : (Instr.index 65 (.agg wordsV) (.int .i64 (k : Int))).run Tryd.prog w = .ok (.string ⟨(wordL ((k : Int) + 1)).toArray⟩) w :=
  match k, hk with
  | 0, _ => words_ix0 w
  | 1, _ => words_ix1 w
  | 2, _ => words_ix2 w
  | 3, _ => words_ix3 w
  | 4, _ => words_ix4 w
  | 5, _ => words_ix5 w
  | 6, _ => words_ix6 w
theorem kind_none {p : List UInt8} (h : ∀ j : Nat, j < 7 → wordL ((j : Int) + 1) ≠ p) : kindL p = 0 := by
  have h0 := h 0 (by omega); have h1 := h 1 (by omega); have h2 := h 2 (by omega); have h3 := h 3 (by omega); have h4 := h 4 (by omega); have h5 := h 5 (by omega); have h6 := h 6 (by omega)
  unfold kindL
  rw [if_neg (show ¬ wordL 7 = p from h6), if_neg (show ¬ wordL 6 = p from h5), if_neg (show ¬ wordL 5 = p from h4), if_neg (show ¬ wordL 4 = p from h3), if_neg (show ¬ wordL 3 = p from h2), if_neg (show ¬ wordL 2 = p from h1), if_neg (show ¬ wordL 1 = p from h0)]
/-- What a call answers that reads a number or panics. -/
def TextNum (r : Option Int) (w : World) (e : Ending) (w' : World) : Prop :=
  (match r with
   | some z => e = .returned (.int .i64 z)
   | none => ∃ pv u, e = .panicked [{ v := .iface u pv, recovered := false }]) ∧ Below w.heap.size w w'

set_option maxRecDepth 100000 in
set_option maxHeartbeats 4000000 in
theorem kindInText_c (p : List UInt8) (w : World) (hl : Ld w) :
    Calls Tryd.prog 51 #[.string ⟨p.toArray⟩] w (TextNum (if kindL p = 0 then none else some (kindL p)) w) := by
  have hcs : ∀ i, w.cell? ⟨0, i, none⟩ = wordsV[i]? := fun i => World.var?_cell gWords hl.wds i
  have c0 : w.cell? ⟨0, 0, none⟩ = some (.string ⟨#[114, 101, 99, 101, 105, 118, 101]⟩) := hcs 0
  have c1 : w.cell? ⟨0, 1, none⟩ = some (.string ⟨#[116, 97, 107, 101]⟩) := hcs 1
  have c2 : w.cell? ⟨0, 2, none⟩ = some (.string ⟨#[114, 101, 115, 101, 114, 118, 101]⟩) := hcs 2
  have c3 : w.cell? ⟨0, 3, none⟩ = some (.string ⟨#[99, 111, 109, 109, 105, 116]⟩) := hcs 3
  have c4 : w.cell? ⟨0, 4, none⟩ = some (.string ⟨#[114, 101, 108, 101, 97, 115, 101]⟩) := hcs 4
  have c5 : w.cell? ⟨0, 5, none⟩ = some (.string ⟨#[116, 114, 97, 110, 115, 102, 101, 114]⟩) := hcs 5
  have c6 : w.cell? ⟨0, 6, none⟩ = some (.string ⟨#[116, 105, 99, 107]⟩) := hcs 6
  have hg0 := var_lt gWords hl.wds
  clear hcs hl
  generalize hR : (if kindL p = 0 then none else some (kindL p)) = R
  have HR := Lib.hid hR; clear hR
  go_enter Tryd.func51, Tryd.ntmps51
  go_wp2_with fail
  go_loopw [6] (fun i wr => ∃ k : Nat, k ≤ 7 ∧ i = .int .i64 (k : Int) ∧ (∀ j : Nat, j < k → wordL ((j : Int) + 1) ≠ p) ∧ wr = w) (fun i _ => 7 - (intOf i).toNat)
  case atStart => exact ⟨0, by omega, rfl, fun j hj => by omega, rfl⟩
  case round =>
    obtain ⟨k, hk, rfl, hno, hwr⟩ := hrel
    by_cases hlt : k < 7
    · have hix := words_ix k hlt
      generalize hT : wordL ((k : Int) + 1) = T at hix
      have hlt' : (k : Int) < 7 := by omega
      by_cases hw : T = p
      · have hk0 : kindL p = (k : Int) + 1 := by rw [← hw, ← hT]; exact kind_word (by omega)
        have hr := HR.out
        rw [if_neg (by omega), hk0] at hr
        subst hr hwr hw
        clear hT hno hk0 HR
        go_wp2_with fail
        go_ret
        exact ⟨rfl, Below.refl _ _⟩
      · have hcmp : (T == p) = false := by simpa using hw
        have hno2 : ∀ j : Nat, j < k + 1 → wordL ((j : Int) + 1) ≠ p := fun j hj => by
          by_cases hjk : j < k
          · exact hno j hjk
          · obtain rfl : j = k := by omega
            rw [hT]; exact hw
        have HNO := Lib.hid hno2
        subst hwr
        clear hT hno hno2 hw
        go_wp2_with fail
        exact ⟨⟨k + 1, by omega, by go_num, HNO.out, trivial⟩, by simp [intOf]; omega⟩
    · obtain rfl : k = 7 := by omega
      have hr := HR.out
      rw [if_pos (kind_none hno)] at hr
      subst hr hwr
      clear hno HR
      go_wp2_with fail
      exact ⟨rfl, ⟨_, _, rfl⟩, Below.refl _ _⟩
theorem cell_block {w : World} {b o : Nat} {u : Value} (h : w.cell? ⟨b, o, none⟩ = some u) : b < w.heap.size := by
  rcases Nat.lt_or_ge b w.heap.size with hlt | hge
  · exact hlt
  · simp [World.cell?, Array.getElem?_eq_none hge] at h
/-- What the package-level variables hold, those of the library's errors and of its searches too. -/
structure Ld2 (w : World) : Prop where
  ld : Ld w
  ml : ∃ m, w.cell? ⟨Tryd.splitN_ren.g 1, 0, none⟩ = some (.int .i64 m)
  es : ∃ tp pp, w.var? Tryd.prog "strconv.ErrSyntax" = some #[.iface tp pp]
  er : ∃ tp pp, w.var? Tryd.prog "strconv.ErrRange" = some #[.iface tp pp]
theorem Ld2.below {w w' : World} (h : Ld2 w) (hb : Below w.heap.size w w') : Ld2 w' := by
  obtain ⟨hl, ⟨m, hm⟩, ⟨t1, p1, h1⟩, ⟨t2, p2, h2⟩⟩ := h
  exact ⟨hl.below hb, ⟨m, (hb.cell (p := ⟨_, _, none⟩) (cell_block hm)).trans hm⟩, ⟨t1, p1, var?_below hb Tryd.parseInt.m15 (var_lt Tryd.parseInt.m15 h1) h1⟩, ⟨t2, p2, var?_below hb Tryd.parseInt.m16 (var_lt Tryd.parseInt.m16 h2) h2⟩⟩
/-- The number of a text, as the library parses it. -/
def pint (p : List UInt8) : Option Int := match Lib.parseIntB 64 p with
  | .ok v => some v
  | _ => none
theorem pint_ok {p : List UInt8} {v : Int} (h : pint p = some v) : Lib.parseIntB 64 p = .ok v := by
  unfold pint at h
  split at h
  · rename_i h1; injection h with h; rw [h1, h]
  · cases h
theorem pint_none {p : List UInt8} (h : pint p = none) : numL p < 0 := by
  rcases Int.lt_or_le (numL p) 0 with h0 | h0
  · exact h0
  · unfold pint at h; rw [int_num h0] at h; cases h
set_option maxRecDepth 100000 in
set_option maxHeartbeats 4000000 in
theorem numberInText_c (p : List UInt8) (w : World) (hs : p.length ≤ 1048576) (hl : Ld2 w) :
    Calls Tryd.prog 52 #[.string ⟨p.toArray⟩] w (TextNum (pint p) w) := by
  have hsz : (⟨p.toArray⟩ : ByteArray).size = p.length := by simp [ByteArray.size]
  obtain ⟨_, _, ⟨t1, p1, h1⟩, ⟨t2, p2, h2⟩⟩ := hl
  have H1 := Lib.hid h1; have H2 := Lib.hid h2; have HSZ := Lib.hid hsz
  clear h1 h2 hsz
  unfold pint
  cases hp : Lib.parseIntB 64 p with
  | ok v =>
    have HP := Lib.hid hp; clear hp
    go_enter Tryd.func52, Tryd.ntmps52
    go_wp2_with fail
    refine (Any.strconv_ParseInt_10_at64_ok Tryd.parseInt ⟨p.toArray⟩ (by rw [HSZ.out]; omega) v HP.out _).mono ?_
    rintro e w1 ⟨rfl, hw1⟩
    have hb1 : Below w.heap.size w w1 := by
      rcases hw1 with rfl | ⟨t, rfl⟩
      · exact Below.refl _ _
      · exact Lib.bytesWorld_below _ _ _
    have HB := Lib.hid hb1; clear hb1 hw1
    go_wp2_with fail
    refine (mustBe_t _).mono ?_
    rintro e w2 ⟨rfl, rfl⟩
    go_wp2_with fail
    go_ret
    exact ⟨rfl, HB.out⟩
  | «syntax» =>
    have HP := Lib.hid hp; clear hp
    go_enter Tryd.func52, Tryd.ntmps52
    go_wp2_with fail
    refine (Any.strconv_ParseInt_10_at64_syntax_var Tryd.parseInt ⟨p.toArray⟩ (by rw [HSZ.out]; omega) HP.out t1 p1 _ H1.out).mono ?_
    rintro e w1 ⟨N, rfl, _, _, hb1⟩
    have HB := Lib.hid hb1; clear hb1
    go_wp2_with fail
    refine (mustBe_f _).mono ?_
    rintro e w2 ⟨rfl, rfl⟩
    go_wp2_with fail
    exact ⟨rfl, ⟨_, _, rfl⟩, HB.out⟩
  | range =>
    have HP := Lib.hid hp; clear hp
    go_enter Tryd.func52, Tryd.ntmps52
    go_wp2_with fail
    refine (Any.strconv_ParseInt_10_at64_range_var Tryd.parseInt ⟨p.toArray⟩ (by rw [HSZ.out]; omega) HP.out t2 p2 _ H2.out).mono ?_
    rintro e w1 ⟨N, rfl, _, _, hb1⟩
    have HB := Lib.hid hb1; clear hb1
    go_wp2_with fail
    refine (mustBe_f _).mono ?_
    rintro e w2 ⟨rfl, rfl⟩
    go_wp2_with fail
    exact ⟨rfl, ⟨_, _, rfl⟩, HB.out⟩
end Go.Proofs.YtocllaendofndaaDoor
