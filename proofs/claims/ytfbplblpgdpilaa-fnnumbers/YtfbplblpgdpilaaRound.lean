/-
  Plain facts on the encodings: numbers are read back from their bytes, and bytes that can be read are written back.
-/
import Derived.Test.YtfbplblpgdpilaaRead
namespace Go.Proofs.Ytfbplblpgdpilaa

theorem get2_put2 {n : Int} (h : shortB n = true) : get2 (n / 256 % 256) (n % 256) = n := by
  obtain ⟨h1, h2⟩ := inB_true.1 h
  unfold get2
  split <;> omega
theorem put2_get2 {x y : Int} (x0 : 0 ≤ x) (x1 : x ≤ 255) (y0 : 0 ≤ y) (y1 : y ≤ 255) : put2 (get2 x y) = [x, y] ∧ shortB (get2 x y) = true := by
  unfold put2 get2
  constructor
  · congr 1
    · split <;> omega
    · congr 1
      split <;> omega
  · apply inB_true.2
    split <;> omega

theorem getP_putL {n : Int} (h : putC n = 0) : getP (putL n) 0 = (0, n) := by
  have hs : shortB n = true := by
    cases hs : shortB n
    · simp [putC, hs] at h
    · rfl
  have e : putL n = [n / 256 % 256, n % 256] := by simp [putL, hs, put2]
  rw [e]
  unfold getP
  rw [if_pos (by simp)]
  simp [get2_put2 hs]

theorem flat_get (xs : List Int) (k : Nat) (h : k < xs.length) : (xs.flatMap put2)[2 * k]? = some (xs[k] / 256 % 256) ∧ (xs.flatMap put2)[2 * k + 1]? = some (xs[k] % 256) := by
  induction xs generalizing k with
  | nil => simp at h
  | cons z t ih =>
    rw [List.flatMap_cons]
    match k, h with
    | 0, _ => simp [put2]
    | k + 1, h =>
      have := ih k (by simpa using h)
      have e1 : 2 * (k + 1) = 2 + 2 * k := by omega
      have e2 : 2 * (k + 1) + 1 = 2 + (2 * k + 1) := by omega
      rw [e2, e1]
      rw [List.getElem?_append_right (by simp [put2]), List.getElem?_append_right (by simp [put2])]
      simpa [put2] using this

theorem nums_pk (xs : List Int) (ha : allShort xs) : nums (pk xs xs.length) xs.length = xs := by
  apply List.ext_getElem
  · rw [nums_length]
  · intro k h1 h2
    have hl := pk_length xs xs.length (Nat.le_refl _)
    rw [nums_get _ _ _ (by rwa [nums_length] at h1) (by rw [hl]; omega)]
    have hf := flat_get xs k h2
    have e1 : (pk xs xs.length)[1 + 2 * k]? = some (xs[k] / 256 % 256) := by
      unfold pk; rw [Nat.add_comm 1, List.getElem?_cons_succ, List.take_length]; exact hf.1
    have e2 : (pk xs xs.length)[1 + 2 * k + 1]? = some (xs[k] % 256) := by
      unfold pk; rw [List.getElem?_cons_succ, List.take_length, Nat.add_comm 1]; exact hf.2
    rw [List.getElem?_eq_getElem (by rw [hl]; omega)] at e1 e2
    injection e1 with e1
    injection e2 with e2
    rw [e1, e2]
    exact get2_put2 (ha k h2)

theorem packC_zero {xs : List Int} (h : packC xs = 0) : xs.length ≤ 20 ∧ allShort xs := by
  unfold packC at h
  split at h
  · cases h
  · split at h
    · exact ⟨by omega, by assumption⟩
    · cases h

theorem read_pack {xs : List Int} (h : packC xs = 0) : readC (packL xs) = 0 ∧ readL (packL xs) = xs := by
  obtain ⟨h1, h2⟩ := packC_zero h
  have e : packL xs = pk xs xs.length := packL_0 (by omega) h2
  have hl := pk_length xs xs.length (Nat.le_refl _)
  have h0 : (pk xs xs.length).getD 0 0 = (xs.length : Int) := by simp [pk]
  have hok : readOk (pk xs xs.length) := ⟨by omega, by rw [h0]; omega, by rw [h0, hl]; omega⟩
  rw [e]
  exact ⟨readC_ok hok, by rw [readL_ok hok h0]; exact nums_pk xs h2⟩

theorem flat_nums (zs : List Int) (hby : Byt zs) (k : Nat) (h : 2 * k + 1 ≤ zs.length) : (nums zs k).flatMap put2 = (zs.drop 1).take (2 * k) ∧ ∀ j (hj : j < (nums zs k).length), shortB (nums zs k)[j] = true := by
  induction k with
  | zero => exact ⟨by simp [nums], fun j hj => by simp [nums] at hj⟩
  | succ k ih =>
    obtain ⟨h1, h2⟩ := ih (by omega)
    have hx := hby.at_ (k := 1 + 2 * k) (by omega)
    have hy := hby.at_ (k := 1 + 2 * k + 1) (by omega)
    obtain ⟨p1, p2⟩ := put2_get2 hx.1 hx.2 hy.1 hy.2
    rw [nums_snoc zs k (by omega)]
    constructor
    · rw [List.flatMap_append, h1, List.flatMap_cons, List.flatMap_nil, List.append_nil, p1]
      have e : 2 * (k + 1) = 2 * k + 1 + 1 := by omega
      rw [e, List.take_succ_eq_append_getElem (by rw [List.length_drop]; omega), List.take_succ_eq_append_getElem (by rw [List.length_drop]; omega), List.append_assoc]
      congr 1
      simp only [List.getElem_drop, List.singleton_append, List.cons.injEq, and_true]
      constructor
      · trivial
      · congr 1
    · intro j hj
      rw [List.length_append, nums_length] at hj
      by_cases hjk : j < k
      · rw [List.getElem_append_left (by rw [nums_length]; exact hjk)]
        exact h2 j (by rw [nums_length]; exact hjk)
      · have : j = k := by simp at hj; omega
        subst this
        rw [List.getElem_append_right (by rw [nums_length]; omega)]
        simpa [nums_length] using p2

theorem pack_read {zs : List Int} (hby : Byt zs) (h : readC zs = 0) : packC (readL zs) = 0 ∧ packL (readL zs) = zs := by
  have hok : readOk zs := by
    unfold readC at h
    split at h
    · assumption
    · cases h
  obtain ⟨n, h0, h20, hl⟩ := readOk_of hok hby
  rw [readL_ok hok h0]
  obtain ⟨f1, f2⟩ := flat_nums zs hby n (by omega)
  have hln := nums_length zs n
  have ha : allShort (nums zs n) := f2
  refine ⟨packC_0 (by omega) ha, ?_⟩
  rw [packL_0 (by omega) ha]
  unfold pk
  rw [List.take_length, f1, hln]
  match zs, hl, h0 with
  | z :: t, hl, h0 =>
    have e : ((z :: t).drop 1).take (2 * n) = t := List.take_of_length_le (by rw [List.drop_one, List.tail_cons]; rw [List.length_cons] at hl; omega)
    rw [e]
    have h0' : z = (n : Int) := by simpa using h0
    rw [h0']
theorem packL_byt {xs : List Int} (h : packC xs = 0) : Byt (packL xs) := by
  obtain ⟨h1, h2⟩ := packC_zero h
  rw [packL_0 (by omega) h2]
  intro z hz
  unfold pk at hz
  rcases List.mem_cons.1 hz with rfl | hz
  · omega
  · obtain ⟨n, _, hn⟩ := List.mem_flatMap.1 hz
    simp [put2] at hn
    omega
theorem putL_byt (n : Int) : Byt (putL n) := by
  intro z hz
  unfold putL put2 at hz
  split at hz
  · simp at hz; omega
  · cases hz
end Go.Proofs.Ytfbplblpgdpilaa
