/-
  Contracts of the model's functions of chapter 3, eighth part: a number out of its text.
-/
import Derived.Test.YtocllaendofndaaDoorText3
import Derived.Test.YtocllaendofndaaDoorG2
import Derived.Test.YtocllaendofndaaDoorPack
import Derived.Test.YtocllaendofndaaDoorRead
import Derived.Lib.Strings
namespace Go.Proofs.YtocllaendofndaaDoor
open Go.RowKit

theorem str_len (s : ByteArray) : s.data.toList.length = s.size := Array.length_toList
/-- A byte of a string. -/
theorem str_at (s : ByteArray) {k : Nat} (h : k < s.size) : ∃ x : UInt8, s[k] = x ∧ s.data.toList[k]? = some x ∧ s.data.toList.drop k = x :: s.data.toList.drop (k + 1) := by
  have hk : k < s.data.toList.length := by rw [str_len]; exact h
  exact ⟨s.data.toList[k], rfl, List.getElem?_eq_getElem hk, List.drop_eq_getElem_cons hk⟩
theorem numGo_no {x : UInt8} {t : List UInt8} {n : Int} (h : x.toNat < 48 ∨ 57 < x.toNat) : numGo n (x :: t) = -1 := by rw [numGo, if_pos h]
/-- The loop's round. -/
def NumAt (l : List UInt8) (N : Int) (k : Nat) (m : Int) : Prop := k ≤ l.length ∧ 0 ≤ m ∧ m < 10 ^ k ∧ numGo m (l.drop k) = N
theorem NumAt.step {l : List UInt8} {N : Int} {k : Nat} {m : Int} (h : NumAt l N k m) {x : UInt8} (hd : l.drop k = x :: l.drop (k + 1)) (h1 : 48 ≤ x.toNat) (h2 : x.toNat ≤ 57) : NumAt l N (k + 1) (m * 10 + ((x.toNat : Int) - 48)) := by
  obtain ⟨hk, h0, hm, hn⟩ := h
  have hl : k < l.length := by
    rcases Nat.lt_or_ge k l.length with h | h
    · exact h
    · rw [List.drop_eq_nil_of_le h] at hd; cases hd
  refine ⟨hl, by omega, ?_, ?_⟩
  · rw [Int.pow_succ]; omega
  · rw [hd, numGo_cons ⟨h1, h2⟩] at hn; exact hn
theorem NumAt.done {l : List UInt8} {N : Int} {k : Nat} {m : Int} (h : NumAt l N k m) (hk : ¬ k < l.length) : m = N := by
  obtain ⟨_, _, _, hn⟩ := h
  rw [List.drop_eq_nil_of_le (by omega)] at hn
  simpa [numGo] using hn
theorem NumAt.small {l : List UInt8} {N : Int} {k : Nat} {m : Int} (h : NumAt l N k m) (hk : k < 4) : 0 ≤ m ∧ m < 1000 := by
  obtain ⟨_, h0, hm, _⟩ := h
  refine ⟨h0, ?_⟩
  have : k = 0 ∨ k = 1 ∨ k = 2 ∨ k = 3 := by omega
  rcases this with rfl | rfl | rfl | rfl <;> simp at hm <;> omega

set_option maxRecDepth 100000 in
set_option maxHeartbeats 4000000 in
theorem l3Number_c (s : ByteArray) (w : World) (hs : s.size ≤ 1048576) :
    Calls Tryd.prog 58 #[.string s] w fun e w' => e = .returned (.int .i64 (numL s.data.toList)) ∧ w' = w := by
  have hlen := str_len s
  by_cases h1 : s.size < 1
  · have e : numL s.data.toList = -1 := by unfold numL; rw [if_pos (.inl (by omega))]
    rw [e]
    have h1' : (s.size : Int) < 1 := by omega
    clear e hlen h1
    go_enter Tryd.func58, Tryd.ntmps58
    go_wp2_with fail
    go_ret
    exact ⟨rfl, rfl⟩
  · have h1' : ¬ (s.size : Int) < 1 := by omega
    by_cases h4 : 4 < s.size
    · have e : numL s.data.toList = -1 := by unfold numL; rw [if_pos (.inr (.inl (by omega)))]
      rw [e]
      have h4' : (4 : Int) < (s.size : Int) := by omega
      clear e hlen h1 h4
      go_enter Tryd.func58, Tryd.ntmps58
      go_wp2_with fail
      go_ret
      exact ⟨rfl, rfl⟩
    · have h4' : ¬ (4 : Int) < (s.size : Int) := by omega
      have h0' : 0 < s.size := by omega
      obtain ⟨x0, hi0, hx0, _⟩ := str_at s h0'
      generalize hN : numL s.data.toList = N
      by_cases h2 : 1 < s.size ∧ x0.toNat = 48
      · have e : N = -1 := by
          rw [← hN]; unfold numL
          rw [if_pos (.inr (.inr ⟨by omega, by rw [hx0]; congr 1; apply UInt8.toNat_inj.1; rw [h2.2]; rfl⟩))]
        have h2' : (1 : Int) < (s.size : Int) := by omega
        have hx48 : (((x0.toNat : Nat) : Int) == 48) = true := by simp; omega
        subst e
        clear hN hlen h1 h4 h2 hx0
        go_enter Tryd.func58, Tryd.ntmps58
        go_wp2_with fail
        go_ret
        exact ⟨rfl, rfl⟩
      · have e : numGo 0 s.data.toList = N := by
          rw [← hN]; unfold numL
          rw [if_neg]
          rintro (h | h | ⟨h, hh⟩)
          · omega
          · omega
          · rw [hx0] at hh
            exact h2 ⟨by omega, by rw [Option.some.inj hh]; rfl⟩
        have hst : NumAt s.data.toList N 0 0 := ⟨by omega, by omega, by simp, by simpa using e⟩
        have HST := Lib.hid hst
        clear hst e hN hx0
        have hX : (1 < s.size ∧ ((x0.toNat : Int) == 48) = false ∧ (1 : Int) < (s.size : Int)) ∨ (¬ (1 : Int) < (s.size : Int)) := by
          by_cases hb : 1 < s.size
          · exact .inl ⟨hb, by simp; omega, by omega⟩
          · exact .inr (by omega)
        rcases hX with ⟨h3, h3', h3''⟩ | h3
        · clear h1 h4 h2 h3
          go_enter Tryd.func58, Tryd.ntmps58
          go_wp2_with fail
          go_loopw [3, 4] (fun n i wr => ∃ (k : Nat) (m : Int), i = .int .i64 k ∧ n = .int .i64 m ∧ NumAt s.data.toList N k m ∧ wr = w) (fun _ i _ => 5 - (intOf i).toNat)
          case atStart => exact ⟨0, 0, rfl, rfl, HST.out, rfl⟩
          case round =>
            obtain ⟨k, m, rfl, rfl, hat, rfl⟩ := hrel
            by_cases hlt : k < s.size
            · have hlt' : (k : Int) < (s.size : Int) := by omega
              obtain ⟨x, hx, _, hd⟩ := str_at s hlt
              by_cases hdg : x.toNat < 48 ∨ 57 < x.toNat
              · have e : N = -1 := by
                  have := hat.2.2.2
                  rw [hd, numGo_no hdg] at this
                  exact this.symm
                subst e
                clear hat hd HST
                rcases hdg with h | h
                · have h' : ((x.toNat : Nat) : Int) < 48 := by omega
                  go_wp2_with fail
                  go_ret
                  exact ⟨rfl, rfl⟩
                · have h' : ¬ ((x.toNat : Nat) : Int) < 48 := by omega
                  have h'' : (57 : Int) < ((x.toNat : Nat) : Int) := by omega
                  go_wp2_with fail
                  go_ret
                  exact ⟨rfl, rfl⟩
              · have h' : ¬ ((x.toNat : Nat) : Int) < 48 := by omega
                have h'' : ¬ (57 : Int) < ((x.toNat : Nat) : Int) := by omega
                have hst := hat.step hd (by omega) (by omega)
                obtain ⟨hm0, hm1⟩ := hat.small (by omega)
                have HAT := Lib.hid hst
                clear hat hd HST hdg hst
                go_wp2_with fail
                exact ⟨⟨k + 1, _, rfl, rfl, HAT.out, trivial⟩, by simp [intOf]; omega⟩
            · have hlt' : ¬ (k : Int) < (s.size : Int) := by omega
              have e := hat.done (by rw [str_len]; exact hlt)
              subst e
              clear hat HST
              go_wp2_with fail
              go_ret
              exact ⟨rfl, rfl⟩
        · clear h1 h4 h2
          go_enter Tryd.func58, Tryd.ntmps58
          go_wp2_with fail
          go_loopw [3, 4] (fun n i wr => ∃ (k : Nat) (m : Int), i = .int .i64 k ∧ n = .int .i64 m ∧ NumAt s.data.toList N k m ∧ wr = w) (fun _ i _ => 5 - (intOf i).toNat)
          case atStart => exact ⟨0, 0, rfl, rfl, HST.out, rfl⟩
          case round =>
            obtain ⟨k, m, rfl, rfl, hat, rfl⟩ := hrel
            by_cases hlt : k < s.size
            · have hlt' : (k : Int) < (s.size : Int) := by omega
              obtain ⟨x, hx, _, hd⟩ := str_at s hlt
              by_cases hdg : x.toNat < 48 ∨ 57 < x.toNat
              · have e : N = -1 := by
                  have := hat.2.2.2
                  rw [hd, numGo_no hdg] at this
                  exact this.symm
                subst e
                clear hat hd HST
                rcases hdg with h | h
                · have h' : ((x.toNat : Nat) : Int) < 48 := by omega
                  go_wp2_with fail
                  go_ret
                  exact ⟨rfl, rfl⟩
                · have h' : ¬ ((x.toNat : Nat) : Int) < 48 := by omega
                  have h'' : (57 : Int) < ((x.toNat : Nat) : Int) := by omega
                  go_wp2_with fail
                  go_ret
                  exact ⟨rfl, rfl⟩
              · have h' : ¬ ((x.toNat : Nat) : Int) < 48 := by omega
                have h'' : ¬ (57 : Int) < ((x.toNat : Nat) : Int) := by omega
                have hst := hat.step hd (by omega) (by omega)
                obtain ⟨hm0, hm1⟩ := hat.small (by omega)
                have HAT := Lib.hid hst
                clear hat hd HST hdg hst
                go_wp2_with fail
                exact ⟨⟨k + 1, _, rfl, rfl, HAT.out, trivial⟩, by simp [intOf]; omega⟩
            · have hlt' : ¬ (k : Int) < (s.size : Int) := by omega
              have e := hat.done (by rw [str_len]; exact hlt)
              subst e
              clear hat HST
              go_wp2_with fail
              go_ret
              exact ⟨rfl, rfl⟩
end Go.Proofs.YtocllaendofndaaDoor

/-
  Contracts of the model's functions of chapter 3, ninth part: a text cut at blanks.
-/
namespace Go.Proofs.YtocllaendofndaaDoor
open Go.RowKit

/-- Pieces of text as cells. -/
def strsOf (ps : List (List UInt8)) : List Value := ps.map fun p => Value.string ⟨p.toArray⟩
theorem infoStr : ∃ i, Tryd.prog.info? 9 = some i ∧ i.zero = some (.string ByteArray.empty) ∧ i.size = 1 ∧ i.bytes = 16 := by
  have h : (Tryd.prog.info? 9).map (fun i => (i.zero, i.size, i.bytes)) = some (some (.string ByteArray.empty), 1, 16) := by kernel_rfl
  cases hi : Tryd.prog.info? 9 with
  | none => rw [hi] at h; cases h
  | some i =>
    rw [hi] at h
    simp only [Option.map_some, Option.some.injEq, Prod.mk.injEq] at h
    exact ⟨i, rfl, h.1, h.2.1, h.2.2⟩
theorem piece (s : ByteArray) (f k : Nat) : s.extract f k = ⟨((s.data.toList.drop f).take (k - f)).toArray⟩ := by
  apply ByteArray.ext
  apply Array.toList_inj.1
  rw [Lib.extract_data]

/-- The loop's round: pieces done, where the next one begins, where it stands. -/
structure CutAt (l : List UInt8) (k f : Nat) (ps : List (List UInt8)) : Prop where
  le : k ≤ l.length + 1
  few : ps.length ≤ k
  ff : f ≤ k
  todo : k ≤ l.length → ps ++ cutGo ((l.drop f).take (k - f)) (l.drop k) = cutL l
  done : k = l.length + 1 → ps = cutL l
theorem CutAt.zero (l : List UInt8) : CutAt l 0 0 [] := ⟨by omega, by simp, by omega, fun _ => by simp [cutL], fun h => by omega⟩
theorem take_next {l : List UInt8} {f k : Nat} {x : UInt8} (hf : f ≤ k) (hx : l[k]? = some x) : (l.drop f).take (k + 1 - f) = (l.drop f).take (k - f) ++ [x] := by
  rw [show k + 1 - f = (k - f) + 1 by omega, List.take_add_one, List.getElem?_drop, show f + (k - f) = k by omega, hx]
  rfl
theorem CutAt.on {l : List UInt8} {k f : Nat} {ps : List (List UInt8)} (h : CutAt l k f ps) {x : UInt8} (hx : l[k]? = some x) (hd : l.drop k = x :: l.drop (k + 1)) (hne : x ≠ 32) : CutAt l (k + 1) f ps := by
  have hk : k < l.length := (List.getElem?_eq_some_iff.1 hx).1
  refine ⟨by omega, by have := h.few; omega, by have := h.ff; omega, fun _ => ?_, fun h => by omega⟩
  have := h.todo (by omega)
  rw [hd, cutGo, if_neg hne, ← take_next h.ff hx] at this
  exact this
theorem CutAt.cut {l : List UInt8} {k f : Nat} {ps : List (List UInt8)} (h : CutAt l k f ps) (hd : l.drop k = 32 :: l.drop (k + 1)) (hk : k < l.length) : CutAt l (k + 1) (k + 1) (ps ++ [(l.drop f).take (k - f)]) := by
  refine ⟨by omega, by have := h.few; simp; omega, by omega, fun _ => ?_, fun h => by omega⟩
  have := h.todo (by omega)
  rw [hd, cutGo, if_pos rfl] at this
  simpa using this
theorem CutAt.last {l : List UInt8} {k f : Nat} {ps : List (List UInt8)} (h : CutAt l k f ps) (hk : k = l.length) : CutAt l (k + 1) (k + 1) (ps ++ [(l.drop f).take (k - f)]) := by
  refine ⟨by omega, by have := h.few; simp; omega, by omega, fun _ => by omega, fun _ => ?_⟩
  have := h.todo (by omega)
  rw [hk, List.drop_length, cutGo] at this
  rw [hk]; exact this

set_option maxRecDepth 100000 in
set_option maxHeartbeats 4000000 in
theorem l1Cut_c (s : ByteArray) (w : World) (hs : s.size ≤ 1048576) :
    Calls Tryd.prog 57 #[.string s, .int .u8 32] w fun e w' => ∃ v fq, e = .returned v ∧ Rd w' 1 v (strsOf (cutL s.data.toList)) fq ∧ Below w.heap.size w w' := by
  have hlen := str_len s
  obtain ⟨i0, hi, hz, hsz, hbyt⟩ := infoStr
  go_enter Tryd.func57, Tryd.ntmps57
  go_wp2_with fail
  go_loopw [5, 6, 7] (fun v f i wr => ∃ (k g : Nat) (ps : List (List UInt8)), i = .int .i64 (k : Int) ∧ f = .int .i64 (g : Int) ∧ CutAt s.data.toList k g ps ∧ wr.ownsRow w.heap.size 9 1 v ps.length (strsOf ps) ∧ Below w.heap.size w wr) (fun _ _ i _ => s.size + 2 - (intOf i).toNat)
  case atStart => exact ⟨0, 0, [], rfl, rfl, CutAt.zero _, own_empty (Nat.le_refl _), (Below.refl _ _).alloc (by simp) _⟩
  case round =>
    obtain ⟨k, g, ps, rfl, rfl, hat, hown, hbel⟩ := hrel
    have hsize := hbel.size
    have hle := hat.le; have hff := hat.ff; have hfew := hat.few
    rw [hlen] at hle
    have hrow : ∀ g, u5.ownBlock = some g → w.heap.size ≤ g := fun g hg => own_base hown hg
    have HR := Lib.hid hrow; clear hrow
    by_cases hlt : k ≤ s.size
    · have hlt' : (k : Int) ≤ (s.size : Int) := by omega
      by_cases hend : k = s.size
      · subst hend
        generalize hP : (s.data.toList.drop g).take (s.size - g) = P
        have hpc : s.extract g s.size = ⟨P.toArray⟩ := by rw [← hP]; exact piece s g s.size
        have hown1 := hown.alloc (.cells #[.string ⟨P.toArray⟩] 9)
        have hbel1 := hbel.alloc (o := .cells #[.string ⟨P.toArray⟩] 9) hsize
        have hst := hat.last hlen.symm
        rw [hP] at hst
        have HB1 := Lib.hid hbel1; have HO1 := Lib.hid hown1; have HST := Lib.hid hst
        clear hst hat hbel hown hbel1 hown1 hP
        go_wp2_with (at_builtin; refine wpList_append_own _ rfl _ _ 82 rfl w.heap.size 9 i0 (.string ByteArray.empty) 1 16 Tryd.underlying82 hi hz hsz hbyt rfl (by decide) _ _ _ rfl HO1.out ⟨wr.heap.size, 0, none⟩ 1 1 [.string ⟨P.toArray⟩] rfl rfl ?c1 ?c2 ?c3 ?c4 ?c5 ?_)
        case c1 =>
          intro j u hj
          match j, hj with
          | 0, hj => simp at hj; subst hj; exact cell_of_heap (heap_new wr _ rfl)
        case c2 => intro u hu; simp at hu; subst hu; rfl
        case c3 => unfold maxLen; omega
        case c4 => omega
        case c5 => have := HB1.out.size; exact this
        intro v' w2 hown2 hgrow2 _
        have hown3 : w2.ownsRow w.heap.size 9 1 v' (ps ++ [P]).length (strsOf (ps ++ [P])) := by
          rw [List.length_append]; unfold strsOf; rw [List.map_append]; exact hown2
        have hbel2 := HB1.out.grown hgrow2 HB1.out.size HR.out
        have HO := Lib.hid hown3; have HBL := Lib.hid hbel2
        clear hown2 hown3 hbel2 hgrow2 HO1 HB1
        go_wp2_with fail
        exact ⟨⟨_, _, _, rfl, rfl, HST.out, HO.out, HBL.out⟩, by simp [intOf] <;> omega⟩
      · have hk : k < s.size := by omega
        have hk' : (k : Int) < (s.size : Int) := by omega
        have hE : ((k : Int) == (s.size : Int)) = false := by simp; omega
        obtain ⟨x, hx, hxl, hd⟩ := str_at s hk
        by_cases h32 : x = 32
        · subst h32
          generalize hP : (s.data.toList.drop g).take (k - g) = P
          have hpc : s.extract g k = ⟨P.toArray⟩ := by rw [← hP]; exact piece s g k
          have hown1 := hown.alloc (.cells #[.string ⟨P.toArray⟩] 9)
          have hbel1 := hbel.alloc (o := .cells #[.string ⟨P.toArray⟩] 9) hsize
          have hst := hat.cut hd (by omega)
          rw [hP] at hst
          have HB1 := Lib.hid hbel1; have HO1 := Lib.hid hown1; have HST := Lib.hid hst
          clear hst hat hbel hown hbel1 hown1 hP hd hxl
          go_wp2_with (at_builtin; refine wpList_append_own _ rfl _ _ 82 rfl w.heap.size 9 i0 (.string ByteArray.empty) 1 16 Tryd.underlying82 hi hz hsz hbyt rfl (by decide) _ _ _ rfl HO1.out ⟨wr.heap.size, 0, none⟩ 1 1 [.string ⟨P.toArray⟩] rfl rfl ?c1 ?c2 ?c3 ?c4 ?c5 ?_)
          case c1 =>
            intro j u hj
            match j, hj with
            | 0, hj => simp at hj; subst hj; exact cell_of_heap (heap_new wr _ rfl)
          case c2 => intro u hu; simp at hu; subst hu; rfl
          case c3 => unfold maxLen; omega
          case c4 => omega
          case c5 => have := HB1.out.size; exact this
          intro v' w2 hown2 hgrow2 _
          have hown3 : w2.ownsRow w.heap.size 9 1 v' (ps ++ [P]).length (strsOf (ps ++ [P])) := by
            rw [List.length_append]; unfold strsOf; rw [List.map_append]; exact hown2
          have hbel2 := HB1.out.grown hgrow2 HB1.out.size HR.out
          have HO := Lib.hid hown3; have HBL := Lib.hid hbel2
          clear hown2 hown3 hbel2 hgrow2 HO1 HB1
          go_wp2_with fail
          exact ⟨⟨_, _, _, rfl, rfl, HST.out, HO.out, HBL.out⟩, by simp [intOf] <;> omega⟩
        · have h32' : (((x.toNat : Nat) : Int) == 32) = false := by
            have : x.toNat ≠ 32 := fun e => h32 (UInt8.toNat_inj.1 e)
            simp; omega
          have hst := hat.on hxl hd h32
          have HST := Lib.hid hst; have HO := Lib.hid hown; have HBL := Lib.hid hbel
          clear hst hat hbel hown hd hxl
          go_wp2_with fail
          exact ⟨⟨_, _, _, rfl, rfl, HST.out, HO.out, HBL.out⟩, by simp [intOf] <;> omega⟩
    · obtain rfl : k = s.size + 1 := by omega
      have hlt' : ¬ ((s.size + 1 : Nat) : Int) ≤ (s.size : Int) := by omega
      obtain ⟨fq, hrv, hnv, hfv⟩ := Rd.of_own hown
      rw [hat.done (by rw [hlen])] at hrv
      have HRV := Lib.hid hrv; have HBL := Lib.hid hbel
      clear hown hat hrv hbel
      go_wp2_with fail
      go_ret
      exact ⟨_, rfl, ⟨fq, HRV.out⟩, HBL.out⟩
end Go.Proofs.YtocllaendofndaaDoor
