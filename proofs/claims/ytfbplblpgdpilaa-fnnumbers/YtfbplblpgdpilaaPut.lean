/-
  Contracts of PutNumber, the program's and the model's: both answer the two bytes of a short number.
-/
import Derived.Test.YtfbplblpgdpilaaResults
import Derived.Test.YtfbplblpgdpilaaAddQ
import Derived.Laws.AppendOwn
namespace Go.Proofs.Ytfbplblpgdpilaa
open Go.RowKit

def shortB (n : Int) : Bool := inB n (-32768) 32767
/-- The two bytes of a short number. -/
def put2 (n : Int) : List Int := [n / 256 % 256, n % 256]
/-- The code and the bytes of PutNumber. -/
def putC (n : Int) : Int := if shortB n then 0 else 3
def putL (n : Int) : List Int := if shortB n then put2 n else []

theorem l1Short_c (n : Int) (w : World) :
    Calls Try.prog 49 #[.int .i64 n] w fun e w' => e = .returned (.bool (shortB n)) ∧ w = w' := by
  go_enter Try.func49, Try.ntmps49
  go_wp2_with (go_at_call 51; refine (l1In_c _ _ _ _).mono ?_; rintro e w' ⟨rfl, rfl⟩)
  go_ret
  exact ⟨rfl, rfl⟩
theorem isShort_c (n : Int) (w : World) :
    Calls Try.prog 45 #[.int .i64 n] w fun e w' => e = .returned (.bool (shortB n)) ∧ w = w' := by
  by_cases h1 : -32768 ≤ n <;> by_cases h2 : n ≤ 32767
  all_goals
    go_enter Try.func45, Try.ntmps45
    go_wp2
    go_ret
    refine ⟨?_, rfl⟩
    simp [shortB, inB, *]

theorem grownBy_trans {a b c : World} {row : Option Nat} (h : a.grownBy b row) (k : b.grownBy c row) : a.grownBy c row :=
  ⟨k.os.trans h.os, k.tape.trans h.tape, k.output.trans h.output, Nat.le_trans h.size k.size, fun i hi hn => (k.block i (Nat.lt_of_lt_of_le hi h.size) hn).trans (h.block i hi hn)⟩

theorem l1Put_c (n : Int) (w : World) (hs : shortB n = true) :
    Calls Try.prog 50 #[.int .i64 n] w fun e w' => e = .returned (.slice (some ⟨w.heap.size, 0, none⟩) 2 2) ∧ w' = w.alloc (.cells (cellsOf .u8 (put2 n)).toArray 5) := by
  obtain ⟨h1, h2⟩ := inB_true.1 hs
  have HS := Lib.hid hs; clear hs
  by_cases h0 : n < 0
  · go_enter Try.func50, Try.ntmps50
    go_wp2
    go_ret
    refine ⟨rfl, ?_⟩
    have e1 : (n + 65536) / 256 = n / 256 % 256 := by omega
    have e2 : (n + 65536) % 256 = n % 256 := by omega
    rw [e1, e2]
    rfl
  · go_enter Try.func50, Try.ntmps50
    go_wp2
    go_ret
    refine ⟨rfl, ?_⟩
    have e1 : n / 256 % 256 = n / 256 := by omega
    unfold put2
    rw [e1]
    rfl

set_option maxHeartbeats 1000000 in
theorem appendShort_c (n : Int) (v : Value) (m : Nat) (xs : List Value) (base : Nat) (w : World) (hs : shortB n = true) (hm : m ≤ 1000000) (hbase : base ≤ w.heap.size)
    (ho : w.ownsRow base 5 1 v m xs) :
    Calls Try.prog 46 #[v, .int .i64 n] w fun e w' => ∃ v', e = .returned v' ∧ w'.ownsRow base 5 1 v' (m + 2) (xs ++ cellsOf .u8 (put2 n)) ∧ w.grownBy w' v.ownBlock := by
  obtain ⟨h1, h2⟩ := inB_true.1 hs
  have HS := Lib.hid hs; clear hs
  obtain ⟨i, hi, hz, hsz, hby⟩ := infoByteS
  go_enter Try.func46, Try.ntmps46
  go_wp2_with (at_builtin; refine wpList_append_own _ rfl _ _ 22 rfl base 5 i (.int .u8 0) 1 1 Try.underlying22 hi hz hsz hby rfl (by decide) _ _ _ rfl (ho.alloc _) ⟨w.heap.size, 0, none⟩ 2 2 (cellsOf .u8 (put2 n)) rfl rfl ?c1 ?c2 ?c3 ?c4 ?c5 ?_)
  case c1 =>
    intro j u hj
    match j, hj with
    | 0, hj => simp [put2] at hj; subst hj; simp [Addr.add]
    | 1, hj => simp [put2] at hj; subst hj; simp [Addr.add]
  case c2 => intro u hu; simp [put2] at hu; rcases hu with rfl | rfl <;> rfl
  case c3 => unfold maxLen; omega
  case c4 => omega
  case c5 => simp; omega
  intro v' w1 hown' hgrow _
  have HG := Lib.hid hgrow; clear hgrow
  go_wp2
  go_ret
  exact ⟨v', rfl, hown', grownBy_trans (World.grownBy_alloc _ _ _) HG.out⟩

/-- What a call answers that gives a code and bytes in memory of its own. -/
def BytesPost (w : World) (code : Int) (bs : List Int) (e : Ending) (w' : World) : Prop :=
  ∃ r, e = .returned r ∧ SRes .u8 w' w.heap.size r code bs ∧ Below w.heap.size w w'

theorem sres_nil (K : IntKind) (w : World) (lo : Nat) (code : Int) : SRes K w lo (.agg #[.int .i64 code, .slice none 0 0]) code [] := ⟨_, [], rfl, Rd.nil w 1, NF.nil w, From.nil lo⟩

set_option maxHeartbeats 1000000 in
theorem specPutNumber_c (n : Int) (w : World) : Calls Try.prog 21 #[.int .i64 n] w (BytesPost w (putC n) (putL n)) := by
  cases hs : shortB n
  · have e1 : putC n = 3 := by simp [putC, hs]
    have e2 : putL n = [] := by simp [putL, hs]
    rw [e1, e2]
    clear e1 e2
    have HS := Lib.hid hs; clear hs
    go_enter Try.func21, Try.ntmps21
    go_wp2_with (go_at_call 49; refine (l1Short_c _ _).mono ?_; rintro e w' ⟨rfl, rfl⟩; rw [HS.out])
    exact bodyPost_ret (v := .agg #[.int .i64 3, .slice none 0 0]) (by simp [results, Try.results21, go_sem]) rfl ⟨_, rfl, sres_nil _ _ _ _, (Below.refl _ _).alloc (Nat.le_refl _) _⟩
  · have e1 : putC n = 0 := by simp [putC, hs]
    have e2 : putL n = put2 n := by simp [putL, hs]
    rw [e1, e2]
    clear e1 e2
    have HS := Lib.hid hs; clear hs
    go_enter Try.func21, Try.ntmps21
    go_wp2_with (first
      | (go_at_call 49; refine (l1Short_c _ _).mono ?_; rintro e w' ⟨rfl, rfl⟩; rw [HS.out])
      | (go_at_call 50; refine (l1Put_c _ _ HS.out).mono ?_; rintro e w' ⟨rfl, rfl⟩))
    obtain ⟨fp, hr, hn, hf⟩ := Rd.fresh (w := w) (w' := (w.alloc (.cells #[.int .i64 0, .slice (some ⟨w.heap.size + 1, 0, none⟩) 2 2] 31)).alloc (.cells (cellsOf .u8 (put2 n)).toArray 5)) (size := 1) (n := 2) (xs := cellsOf .u8 (put2 n)) (e := 5) (by unfold maxLen; omega) rfl (g := w.heap.size + 1) (heap_new _ _ (by simp)) (by omega)
    exact bodyPost_ret (v := .agg #[.int .i64 0, .slice (some ⟨w.heap.size + 1, 0, none⟩) 2 2]) (by simp [results, Try.results21, go_sem]) rfl
      ⟨_, rfl, ⟨_, fp, rfl, hr, hn, hf⟩, ((Below.refl _ _).alloc (Nat.le_refl _) _).alloc (by simp) _⟩

set_option maxHeartbeats 1000000 in
theorem implPutNumber_c (n : Int) (w : World) : Calls Try.prog 15 #[.int .i64 n] w (BytesPost w (putC n) (putL n)) := by
  cases hs : shortB n
  · have e1 : putC n = 3 := by simp [putC, hs]
    have e2 : putL n = [] := by simp [putL, hs]
    rw [e1, e2]
    clear e1 e2
    have HS := Lib.hid hs; clear hs
    go_enter Try.func15, Try.ntmps15
    go_wp2_with (go_at_call 45; refine (isShort_c _ _).mono ?_; rintro e w' ⟨rfl, rfl⟩; rw [HS.out])
    exact bodyPost_ret (v := .agg #[.int .i64 3, .slice none 0 0]) (by simp [results, Try.results15, go_sem]) rfl ⟨_, rfl, sres_nil _ _ _ _, (Below.refl _ _).alloc (Nat.le_refl _) _⟩
  · have e1 : putC n = 0 := by simp [putC, hs]
    have e2 : putL n = put2 n := by simp [putL, hs]
    rw [e1, e2]
    clear e1 e2
    have HS := Lib.hid hs; clear hs
    go_enter Try.func15, Try.ntmps15
    go_wp2_with ((go_at_call 45; refine (isShort_c _ _).mono ?_; rintro e w' ⟨rfl, rfl⟩; rw [HS.out]))
    refine (appendShort_c n (.slice none 0 0) 0 [] (w.heap.size + 1) _ HS.out (by omega) (by simp) (World.ownsRow_nil _ _ _ _)).mono ?_
    rintro e w1 ⟨v1, rfl, hown, hgrow⟩
    have hz : w.heap.size < w1.heap.size := by have := hgrow.size; simp at this; omega
    have hb1 : Below (w.heap.size + 1) (w.alloc (.cells #[.int .i64 0, .slice none 0 0] 31)) w1 := (Below.refl _ _).grown hgrow (by simp) (fun k hk => by cases hk)
    have hnew := newest hb1 (by omega)
    have hc0 : w1.cell? ⟨w.heap.size, 0, none⟩ = some (.int .i64 0) := cell_of_heap hnew
    have hc1 : w1.cell? ⟨w.heap.size, 1, none⟩ = some (.slice none 0 0) := cell_of_heap hnew
    have hf0 : w1.frozen? ⟨w.heap.size, 0, none⟩ = false := frozen_of_heap hnew
    have hf1 : w1.frozen? ⟨w.heap.size, 1, none⟩ = false := frozen_of_heap hnew
    clear hnew
    obtain ⟨fp, hr, hn, hf⟩ := Rd.of_own hown
    rw [List.nil_append] at hr
    obtain ⟨A, c, rfl⟩ := hr.form
    have HG := Lib.hid hgrow; clear hgrow
    have HO := Lib.hid hown; clear hown
    go_wp2_with fail
    have hres : SRes .u8 w1 (w.heap.size + 1) (.agg #[.int .i64 0, .slice A (put2 n).length c]) 0 (put2 n) := ⟨_, fp, rfl, hr, hn, hf⟩
    have hbut := But.two w1 w.heap.size 0 1 (.int .i64 0) (.slice A (put2 n).length c)
    refine bodyPost_ret (v := .agg #[.int .i64 0, .slice A (put2 n).length c]) (by simp [results, Try.results15, go_sem, hc0, hc1]) rfl
      ⟨_, rfl, (hres.but hbut (by simp)).lower (by omega), ?_⟩
    exact (((Below.refl _ _).alloc (Nat.le_refl _) _).trans (hb1.mono (by omega))).trans (hbut.below (by omega) (by intro b hb; simp at hb; omega))
end Go.Proofs.Ytfbplblpgdpilaa
