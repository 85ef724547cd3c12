/-
  Plain facts: a text split at blanks as the library splits it; numbers as the library parses them.
-/
import Derived.Test.YtocllaendofndaaDoorText3
import Derived.Test.YtocllaendofndaaDoorSpec3k
import Derived.Lib.Split
import Derived.Lib.SplitLaws
import Derived.Lib.IndexBytes
import Derived.Lib.IndexLaws
import Derived.Lib.ParseIntB
namespace Go.Proofs.YtocllaendofndaaDoor

theorem cut_one {l : List UInt8} (h : Lib.indexByte l 32 = -1) : cutL l = [l] := by
  unfold cutL
  rw [cutGo_end]
  · simp
  · intro c hc e
    obtain ⟨k, hk, rfl⟩ := List.getElem_of_mem hc
    exact Lib.indexByte_none h k (by rw [List.getElem?_eq_getElem hk, e])
theorem cut_two {l : List UInt8} {i : Nat} (h : Lib.indexByte l 32 = i) : cutL l = l.take i :: cutL (l.drop (i + 1)) ∧ i < l.length := by
  obtain ⟨h1, h2⟩ := Lib.indexByte_some h
  obtain ⟨hi, hx⟩ := List.getElem?_eq_some_iff.1 h1
  refine ⟨?_, hi⟩
  have e : l = l.take i ++ 32 :: l.drop (i + 1) := by
    rw [← hx, ← List.drop_eq_getElem_cons hi, List.take_append_drop]
  have hno : ∀ c ∈ l.take i, c ≠ 32 := by
    intro c hc e
    obtain ⟨k, hk, rfl⟩ := List.getElem_of_mem hc
    have hki : k < i := by simp at hk; omega
    exact h2 k hki (by rw [List.getElem?_eq_getElem (by omega)]; simp at e; rw [e])
  have := cutGo_more (p := l.take i) (t := l.drop (i + 1)) (cur := []) hno
  rw [← e] at this
  simpa [cutL] using this
theorem cut_pos (l : List UInt8) : 1 ≤ (cutL l).length := by
  have := (glue_cut l []).2
  unfold cutL
  cases h : cutGo [] l
  · exact absurd h this
  · simp
theorem split_cut : ∀ (k : Nat) (l : List UInt8), ((cutL l).length ≤ k + 1 → Lib.splitK [32] 0 k l = cutL l) ∧ (k + 1 < (cutL l).length → (Lib.splitK [32] 0 k l).length = k + 1)
  | 0, l => by
    refine ⟨fun h => ?_, fun _ => rfl⟩
    rcases Int.lt_or_le (Lib.indexByte l 32) 0 with hi | hi
    · have := Lib.indexByte_ge l 32
      rw [cut_one (by omega)]; rfl
    · obtain ⟨i, hi'⟩ : ∃ i : Nat, Lib.indexByte l 32 = i := ⟨(Lib.indexByte l 32).toNat, by omega⟩
      have h2 := (cut_two hi').1
      have := cut_pos (l.drop (i + 1))
      rw [h2, List.length_cons] at h
      omega
  | k + 1, l => by
    unfold Lib.splitK
    rw [Lib.index_one]
    rcases Int.lt_or_le (Lib.indexByte l 32) 0 with hi | hi
    · have hge := Lib.indexByte_ge l 32
      have e : Lib.indexByte l 32 = -1 := by omega
      rw [e, cut_one e]
      exact ⟨fun _ => rfl, fun h => by simp at h⟩
    · obtain ⟨i, hi'⟩ : ∃ i : Nat, Lib.indexByte l 32 = i := ⟨(Lib.indexByte l 32).toNat, by omega⟩
      have h2 := (cut_two hi').1
      have hne : ¬ ((i : Int) == -1) = true := by simp <;> omega
      rw [hi', if_neg hne, h2]
      obtain ⟨ih1, ih2⟩ := split_cut k (l.drop (i + 1))
      simp only [Int.toNat_natCast, Nat.add_zero, List.length_cons, List.length_nil, Nat.zero_add]
      exact ⟨fun h => by rw [ih1 (by omega)], fun h => by rw [ih2 (by omega)]⟩
theorem cutGo_count {l : List UInt8} : ∀ {cur : List UInt8}, (cutGo cur l).length ≤ l.length + 1 := by
  induction l with
  | nil => intro cur; simp [cutGo]
  | cons x t ih =>
    intro cur
    unfold cutGo
    split
    · have := ih (cur := []); simp; omega
    · have := ih (cur := cur ++ [x]); simp; omega
/-- What SplitN with eight pieces at most gives: seven pieces just where the text has seven. -/
theorem split_seven (l : List UInt8) : ((cutL l).length = 7 → Lib.splitK [32] 0 (min 8 (l.length + 1) - 1) l = cutL l) ∧ ((cutL l).length ≠ 7 → (Lib.splitK [32] 0 (min 8 (l.length + 1) - 1) l).length ≠ 7) := by
  have hc : (cutL l).length ≤ l.length + 1 := cutGo_count
  obtain ⟨h1, h2⟩ := split_cut (min 8 (l.length + 1) - 1) l
  refine ⟨fun h => h1 (by omega), fun h => ?_⟩
  rcases Nat.lt_or_ge (min 8 (l.length + 1) - 1 + 1) (cutL l).length with hlt | hge
  · rw [h2 hlt]; omega
  · rw [h1 hge]; exact h

theorem uint_dig {M acc : Nat} (m : Nat) (t : List UInt8) (h1 : acc < 1844674407370955162) (h2 : acc * 10 + 9 ≤ M) : Lib.parseUintM M acc (dig m :: t) = Lib.parseUintM M (acc * 10 + m % 10) t := by
  have h := dig_nat m
  rw [Lib.parseUintM, if_pos (by omega), if_neg (by omega), if_neg (by omega), h]
  congr 1
  omega
theorem uint_digits {n : Nat} (h : n < 10000) : Lib.parseUintM (2 ^ 64 - 1) 0 (digits n) = .ok n := by
  rcases Nat.lt_or_ge n 10 with h1 | h1
  · rw [digits_small h1, uint_dig _ _ (by omega) (by omega), Lib.parseUintM]; congr 1; omega
  · rcases Nat.lt_or_ge n 100 with h2 | h2
    · rw [digits_2 h1 h2, uint_dig _ _ (by omega) (by omega), uint_dig _ _ (by omega) (by omega), Lib.parseUintM]; congr 1; omega
    · rcases Nat.lt_or_ge n 1000 with h3 | h3
      · rw [digits_3 h2 h3, uint_dig _ _ (by omega) (by omega), uint_dig _ _ (by omega) (by omega), uint_dig _ _ (by omega) (by omega), Lib.parseUintM]; congr 1; omega
      · rw [digits_4 h3 h, uint_dig _ _ (by omega) (by omega), uint_dig _ _ (by omega) (by omega), uint_dig _ _ (by omega) (by omega), uint_dig _ _ (by omega) (by omega), Lib.parseUintM]; congr 1; omega
theorem digits_head (n : Nat) : ∃ m t, digits n = dig m :: t := by
  induction n using Nat.strongRecOn with
  | _ n ih =>
    by_cases h : n < 10
    · exact ⟨n, [], digits_small h⟩
    · obtain ⟨m, t, e⟩ := ih (n / 10) (by omega)
      exact ⟨m, t ++ [dig n], by rw [digits_big h, e]; rfl⟩
theorem int_digits {n : Nat} (h : n < 10000) : Lib.parseIntB 64 (digits n) = .ok (n : Int) := by
  have hu := uint_digits h
  obtain ⟨m, t, e⟩ := digits_head n
  rw [e] at hu ⊢
  have hd := dig_nat m
  unfold Lib.parseIntB
  simp only
  rw [if_neg (by omega)]
  unfold Lib.parseUintB
  rw [if_neg (by simp), hu]
  simp only
  rw [if_neg (by simp; omega), if_neg (by omega), if_neg (by omega)]
/-- A number as the model reads it, the library parses alike. -/
theorem int_num {p : List UInt8} (h : 0 ≤ numL p) : Lib.parseIntB 64 p = .ok (numL p) := by
  obtain ⟨h1, h2⟩ := digits_num h
  have := int_digits (n := (numL p).toNat) (by omega)
  rw [h1] at this
  rw [this]
  congr 1
  omega
theorem int_fits {p : List UInt8} {v : Int} (h : Lib.parseIntB 64 p = .ok v) : (Lit.int .i64 v).wf = true := by
  unfold Lib.parseIntB at h
  split at h
  · cases h
  · simp only at h
    split at h
    · cases h
    · cases h
    · rename_i u hu
      split at h
      · cases h
      · split at h
        · cases h
        · injection h with h
          subst h
          rename_i h1 h2
          split <;> simp [Lit.wf, IntKind.min, IntKind.max, IntKind.bits, IntKind.signed] <;> omega

/-- Where the kind has no word there is no operation. -/
theorem parse_kind {l : List UInt8} {ps : List (List UInt8)} (hc : cutL l = ps) (h0 : 0 < ps.length) (hk : kindL ps[0] = 0) : parseO l = none := by
  unfold parseO
  rw [hc]
  split
  · rename_i w a b c d e f
    simp only [List.getElem_cons_zero] at hk
    split
    · rfl
    · rw [if_neg]
      intro h
      have := (opF_zero h).1
      simp only at this
      omega
  · rfl
/-- The operation of seven pieces that the library could parse. -/
theorem parse_back {l : List UInt8} {ps : List (List UInt8)} (hc : cutL l = ps) (h7 : ps.length = 7) {o : O} (hk : kindL ps[0] = o.k) (hn : ∀ i (hi : i < ps.length) (hj : i < (opL o).length), 1 ≤ i → Lib.parseIntB 64 ps[i] = .ok (opL o)[i]) :
    parseO l = if opF o = 0 ∧ textL o = l then some o else none := by
  by_cases h : opF o = 0 ∧ textL o = l
  · rw [if_pos h, ← h.2]; exact parse_text h.1
  · rw [if_neg h]
    cases hp : parseO l with
    | none => rfl
    | some o' =>
      exfalso
      obtain ⟨ht, hf⟩ := text_parse hp
      have : o' = o := by
        unfold parseO at hp
        rw [hc] at hp
        match ps, h7 with
        | [w, a, b, c, d, e, f], _ =>
          simp only at hp
          split at hp
          · cases hp
          · rename_i hng
            split at hp
            · injection hp with hp
              have e1 := hn 1 (by simp) (by simp [opL]) (by omega); have e2 := hn 2 (by simp) (by simp [opL]) (by omega); have e3 := hn 3 (by simp) (by simp [opL]) (by omega)
              have e4 := hn 4 (by simp) (by simp [opL]) (by omega); have e5 := hn 5 (by simp) (by simp [opL]) (by omega); have e6 := hn 6 (by simp) (by simp [opL]) (by omega)
              simp only [opL, List.getElem_cons_succ, List.getElem_cons_zero] at e1 e2 e3 e4 e5 e6 hk
              rw [int_num (by omega)] at e1 e2 e3 e4 e5 e6
              injection e1 with e1; injection e2 with e2; injection e3 with e3; injection e4 with e4; injection e5 with e5; injection e6 with e6
              rw [← hp]
              obtain ⟨k, rq, lc, tt, sk, qt, hd⟩ := o
              simp only at e1 e2 e3 e4 e5 e6 hk
              rw [hk, e1, e2, e3, e4, e5, e6]
            · cases hp
      subst this
      exact h ⟨hf, ht⟩
end Go.Proofs.YtocllaendofndaaDoor
