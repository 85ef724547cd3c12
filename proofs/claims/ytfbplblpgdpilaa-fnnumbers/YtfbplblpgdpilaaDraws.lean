/-
  Contracts of the draws of chapter 1: what is drawn is of its kind, lies in new memory, and nothing old has turned.
-/
import Derived.Test.YtfbplblpgdpilaaDraw1
namespace Go.Proofs.Ytfbplblpgdpilaa
open Go.RowKit

/-- What a draw of n bytes answers. -/
def SomePost (w : World) (s : Nat) (zs : List Int) (a n : Nat) (e : Ending) (w' : World) : Prop :=
  ∃ (bs : List Int) (v : Value) (fp : List Nat), e = .returned v ∧ bs.length = n ∧ Byt bs ∧ Rd w' 1 v (cellsOf .u8 bs) fp ∧ NF w' fp ∧ From w.heap.size fp ∧ Drawn w s zs a n w'

theorem Byt.snoc {zs : List Int} (h : Byt zs) {v : Int} (h0 : 0 ≤ v) (h1 : v ≤ 255) : Byt (zs ++ [v]) := by
  intro z hz
  rcases List.mem_append.1 hz with hz | hz
  · exact h z hz
  · simp at hz; subst hz; exact ⟨h0, h1⟩

set_option maxHeartbeats 2000000 in
theorem l1Some_c (w : World) (s : Nat) (zs : List Int) (a n : Nat) (h : Src w s zs a) (hn : n ≤ 1000) (ha : a ≤ 900000) :
    Calls Try.prog 47 #[.pointer (some ⟨s, 0, none⟩), .int .i64 (n : Int)] w (SomePost w s zs a n) := by
  obtain ⟨i0, hi, hz, hsz, hbyt⟩ := infoByteS
  have hslt := h.lt
  have hst := (Drawn.start h).alloc (.cells #[] 5)
  go_enter Try.func47, Try.ntmps47
  go_wp2_with fail
  go_loopw [1, 5] (fun i v wr => ∃ k : Nat, k ≤ n ∧ i = .int .i64 ((n - k : Nat) : Int) ∧ ∃ bs : List Int, bs.length = k ∧ Byt bs ∧ wr.ownsRow w.heap.size 5 1 v k (cellsOf .u8 bs) ∧ Drawn w s zs a k wr) (fun i _ _ => (intOf i).toNat)
  case atStart => exact ⟨0, Nat.zero_le _, rfl, [], rfl, (fun z hz => by cases hz), own_empty (Nat.le_refl _), hst⟩
  case round =>
    obtain ⟨k, hk, rfl, bs, hbl, hbb, hown, hd⟩ := hrel
    have hsize := hd.but.size
    clear hst
    by_cases hlt : k < n
    · have hrow : ∀ g, u5.ownBlock = some g → w.heap.size ≤ g := fun g hg => own_base hown hg
      have hpos : 0 < n - k := by omega
      have HR := Lib.hid hrow; clear hrow
      have HBL := Lib.hid hbl; clear hbl
      go_wp2_with fail
      refine (l1Next_c wr s zs (a + k) _ hd.src (by omega) (by omega)).mono ?_
      rintro e w1 ⟨v, m, rfl, hv0, hv1, hw1⟩
      have hd1 := Drawn.of_next hd.src (by omega) hw1
      have hsz1 := (hd.src.next (by omega) hw1).2.2
      have hg1 : wr.grownBy w1 (some s) := ⟨hd1.but.os, hd1.but.tape, hd1.but.output, hd1.but.size, fun i hi hne => hd1.but.block i hi (fun hm => hne (by simp at hm; rw [hm]))⟩
      have hown1 : w1.ownsRow w.heap.size 5 1 u5 k (cellsOf .u8 bs) := hown.kept hg1 (by
        rcases hob : u5.ownBlock with _ | g
        · exact .inl rfl
        · exact .inr (by rw [Ne, Option.some.injEq]; rintro rfl; have := HR.out _ hob; omega))
      have hd2 := hd.trans hd1
      have hv2 : v ≤ 255 := by omega
      have hown2 := hown1.alloc (.cells #[.int .u8 v] 5)
      have hd3 := hd2.alloc (.cells #[.int .u8 v] 5)
      have HO2 := Lib.hid hown2; have HD3 := Lib.hid hd3; have HSZ := Lib.hid hsz1; have HD := Lib.hid hd
      clear hw1 hg1 hown hown1 hown2 hd1 hd2 hd3 hsz1 hd
      go_wp2_with (at_builtin; refine wpList_append_own _ rfl _ _ 22 rfl w.heap.size 5 i0 (.int .u8 0) 1 1 Try.underlying22 hi hz hsz hbyt rfl (by decide) _ _ _ rfl HO2.out ⟨w1.heap.size, 0, none⟩ 1 1 [.int .u8 v] rfl rfl ?c1 ?c2 ?c3 ?c4 ?c5 ?_)
      case c1 =>
        intro j u hj
        match j, hj with
        | 0, hj => simp at hj; subst hj; exact cell_of_heap (heap_new w1 _ rfl)
      case c2 => intro u hu; simp at hu; subst hu; rfl
      case c3 => unfold maxLen; omega
      case c4 => omega
      case c5 => have := HSZ.out; simp; omega
      intro v' w2 hown3 hgrow _
      have hd4 := HD3.out.grown hgrow HR.out hslt
      have hown4 : w2.ownsRow w.heap.size 5 1 v' (k + 1) (cellsOf .u8 (bs ++ [v])) := by
        unfold cellsOf; rw [List.map_append]; exact hown3
      have HO := Lib.hid hown4; have HD4 := Lib.hid hd4
      clear hown3 hown4 hd4 hgrow
      go_wp2_with fail
      refine ⟨⟨k + 1, by omega, ?_, bs ++ [v], by simp [HBL.out], hbb.snoc hv0 hv2, HO.out, HD4.out⟩, by simp [intOf]; omega⟩
      congr 1
      omega
    · obtain rfl : k = n := by omega
      obtain ⟨fq, hrv, hnv, hfv⟩ := Rd.of_own hown
      clear hown
      have HD := Lib.hid hd; clear hd
      have e0 : k - k = 0 := by omega
      have HBL := Lib.hid hbl; clear hbl
      go_wp2
      go_ret
      exact ⟨bs, _, fq, rfl, HBL.out, hbb, hrv, hnv, hfv, HD.out⟩

/-- Behind the draws of one call: its own source was new. -/
theorem Drawn.fresh {w w1 w2 : World} {zs : List Int} {a d : Nat} (hb : Below w.heap.size w w1) (h : Drawn w1 w.heap.size zs a d w2) : Below w.heap.size w w2 :=
  hb.trans (h.but.below hb.size (fun b hm => by simp at hm; omega))

/-- An integer was drawn. -/
def IntPost (w : World) (e : Ending) (w' : World) : Prop := ∃ v, e = .returned (.int .i64 v) ∧ (Lit.int .i64 v).wf = true ∧ Below w.heap.size w w'

theorem wf_small {v : Int} (h0 : -100000 ≤ v) (h1 : v ≤ 100000) : (Lit.int .i64 v).wf = true := by
  simp [Lit.wf, IntKind.min, IntKind.max, IntKind.signed, IntKind.bits]
  omega

set_option maxHeartbeats 2000000 in
theorem drawPut_c (A : Option Addr) (c : Nat) (zs : List Int) (w : World) (fp : List Nat) (ha : Rd w 1 (.slice A zs.length c) (cellsOf .u8 zs) fp) (hby : Byt zs) (hb : zs.length ≤ 1048576) :
    Calls Try.prog 14 #[.slice A zs.length c] w (IntPost w) := by
  go_enter Try.func14, Try.ntmps14
  go_wp2_with fail
  refine (l1Source_c A c zs w fp ha hby hb).mono ?_
  rintro e w1 ⟨rfl, hsrc, hb1, hsz1⟩
  clear hsz1
  go_wp2_with fail
  refine (l1Number_c w1 _ zs 0 hsrc (by omega)).mono ?_
  rintro e w2 ⟨v, rfl, hv, hd⟩
  have hv' := inB_true.1 hv
  have hlt := hd.src.lt
  have hsrc2 := hd.src.alloc (.cells (cellsOf .i64 [v, 32768, -32769]).toArray 2)
  obtain ⟨fq, hr, hn, hf⟩ := Rd.fresh (w := w2) (w' := w2.alloc (.cells (cellsOf .i64 [v, 32768, -32769]).toArray 2)) (n := 3) (size := 1) (xs := cellsOf .i64 [v, 32768, -32769]) (e := 2) (by unfold maxLen; omega) rfl (heap_new w2 _ rfl) (Nat.le_refl _)
  have HV := Lib.hid hv; clear hv
  go_wp2_with fail
  refine (l1Pick_c _ _ zs _ _ 3 [v, 32768, -32769] fq hsrc2 (by omega) (by simp) (by simp) hr (fun hm => by have := hf _ hm; omega)).mono ?_
  rintro e w3 ⟨u, rfl, hu, hd2, hsz⟩
  have HSZ := Lib.hid hsz; clear hsz
  have HU := Lib.hid hu; clear hu
  go_wp2_with fail
  go_ret
  refine ⟨u, rfl, ?_, ((hd.alloc _).trans hd2).fresh hb1⟩
  have hu := HU.out
  simp at hu
  exact wf_small (by omega) (by omega)

/-- Bytes and a place were drawn. -/
def GetPost (w : World) (e : Ending) (w' : World) : Prop :=
  ∃ (bs : List Int) (A : Option Addr) (c : Nat) (p : Int) (fp : List Nat), e = .returned (.tuple #[.slice A bs.length c, .int .i64 p]) ∧ Byt bs ∧ (Lit.int .i64 p).wf = true ∧ Rd w' 1 (.slice A bs.length c) (cellsOf .u8 bs) fp ∧ From w.heap.size fp ∧ Below w.heap.size w w'

set_option maxHeartbeats 2000000 in
theorem drawGet_c (A : Option Addr) (c : Nat) (zs : List Int) (w : World) (fp : List Nat) (ha : Rd w 1 (.slice A zs.length c) (cellsOf .u8 zs) fp) (hby : Byt zs) (hb : zs.length ≤ 1048576) :
    Calls Try.prog 16 #[.slice A zs.length c] w (GetPost w) := by
  go_enter Try.func16, Try.ntmps16
  go_wp2_with fail
  refine (l1Source_c A c zs w fp ha hby hb).mono ?_
  rintro e w1 ⟨rfl, hsrc, hb1, hsz1⟩
  clear hsz1
  go_wp2_with fail
  refine (l1Next_c w1 _ zs 0 _ hsrc (by omega) (by omega)).mono ?_
  rintro e w2 ⟨v, m, rfl, hv0, hv1, hw2⟩
  have hd := Drawn.of_next hsrc (by omega) hw2
  clear hw2
  obtain ⟨n, rfl⟩ : ∃ n : Nat, v = n := ⟨v.toNat, by omega⟩
  go_wp2_with fail
  refine (l1Some_c w2 _ zs _ n hd.src (by omega) (by omega)).mono ?_
  rintro e w3 ⟨bs, x, fq, rfl, hbl, hbb, hr, hn, hf, hd2⟩
  obtain ⟨Ax, cx, rfl⟩ := hr.form
  have hd3 := hd.trans hd2
  have hs1 := hb1.size
  have hs2 := hd.but.size
  have hbl2 : (bs.length : Int) ≤ 5 := by omega
  have HBL := Lib.hid hbl; clear hbl
  go_wp2_with fail
  refine (l1Next_c w3 _ zs _ _ hd3.src (by omega) (by omega)).mono ?_
  rintro e w4 ⟨q, m4, rfl, hq0, hq1, hw4⟩
  have hd4 := Drawn.of_next hd3.src (by omega) hw4
  clear hw4
  have hbel := (hd3.trans hd4).fresh hb1
  have hr4 := hr.but hd4.but (fun b hb' hm => by simp at hm; have := hf b hb'; have := hsrc.lt; omega)
  have HB := Lib.hid hbel; clear hbel
  go_wp2_with fail
  go_ret2
  exact ⟨bs, Ax, cx, q - 1, fq, rfl, hbb, wf_small (by omega) (by omega), hr4, hf.mono (by omega), HB.out⟩
end Go.Proofs.Ytfbplblpgdpilaa
