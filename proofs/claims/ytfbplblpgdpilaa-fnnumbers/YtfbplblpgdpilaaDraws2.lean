/-
  Contracts of the draws of lists and of packed bytes.
-/
import Derived.Test.YtfbplblpgdpilaaDraws
namespace Go.Proofs.Ytfbplblpgdpilaa
open Go.RowKit

/-- A list of integers was drawn. -/
def ListPost (K : IntKind) (ok : List Int → Prop) (w : World) (e : Ending) (w' : World) : Prop :=
  ∃ (xs : List Int) (A : Option Addr) (c : Nat) (fp : List Nat), e = .returned (.slice A xs.length c) ∧ ok xs ∧ Rd w' 1 (.slice A xs.length c) (cellsOf K xs) fp ∧ From w.heap.size fp ∧ Below w.heap.size w w'

theorem Drawn.keeps {w w1 : World} {s : Nat} {zs : List Int} {a d base k : Nat} {e : TypeId} {v : Value} {xs : List Value} (h : Drawn w s zs a d w1) (ho : w.ownsRow base e 1 v k xs) (hs : s < base) : w1.ownsRow base e 1 v k xs := by
  have hg1 : w.grownBy w1 (some s) := ⟨h.but.os, h.but.tape, h.but.output, h.but.size, fun i hi hne => h.but.block i hi (fun hm => hne (by simp at hm; rw [hm]))⟩
  refine ho.kept hg1 ?_
  rcases hob : v.ownBlock with _ | g
  · exact .inl rfl
  · exact .inr (by rw [Ne, Option.some.injEq]; rintro rfl; have := own_base ho hob; omega)

theorem made_zeros (j : Nat) : madeCells #[.int .i64 0] j = (cellsOf .i64 (List.replicate j 0)).toArray := by
  have h := part_zero (.int .i64 0) (cellsOf .i64 (List.replicate j 0))
  simp only [List.length_map, List.length_replicate] at h
  rw [← h]
  simp [part]

set_option maxHeartbeats 4000000 in
theorem drawPack_c (A : Option Addr) (c : Nat) (zs : List Int) (w : World) (fp : List Nat) (ha : Rd w 1 (.slice A zs.length c) (cellsOf .u8 zs) fp) (hby : Byt zs) (hb : zs.length ≤ 1048576) :
    Calls Try.prog 12 #[.slice A zs.length c] w (ListPost .i64 (fun _ => True) w) := by
  obtain ⟨i0, hi, hz, hsz, hbyt⟩ := infoInt64S
  go_enter Try.func12, Try.ntmps12
  go_wp2_with fail
  refine (l1Source_c A c zs w fp ha hby hb).mono ?_
  rintro e w1 ⟨rfl, hsrc, hb1, hsz1⟩
  have hslt := hsrc.lt
  have hsrc1 := hsrc.alloc (.cells #[] 2)
  have hown0 := own_empty (w := w1) (t := 2) (base := w1.heap.size) (Nat.le_refl _)
  have hd0 := (Drawn.start hsrc).alloc (.cells #[] 2)
  have HSZ1 := Lib.hid hsz1; clear hsz1
  go_wp2_with fail
  refine (l1Next_c _ _ zs 0 _ hsrc1 (by omega) (by omega)).mono ?_
  rintro e w2 ⟨v, m, rfl, hv0, hv1, hw2⟩
  have hd1 := Drawn.of_next hsrc1 (by omega) hw2
  clear hw2
  obtain ⟨n, rfl⟩ : ∃ n : Nat, v = n := ⟨v.toNat, by omega⟩
  have hown1 := hd1.keeps hown0 hslt
  have hd2 := hd0.trans hd1
  clear hown0 hd0 hd1
  go_wp2_with fail
  go_loopw [4, 5] (fun v i wr => ∃ k : Nat, k ≤ n ∧ i = .int .i64 ((n - k : Nat) : Int) ∧ ∃ xs : List Int, xs.length = k ∧ wr.ownsRow w1.heap.size 2 1 v k (cellsOf .i64 xs) ∧ Drawn w1 w.heap.size zs 0 (1 + 2 * k) wr) (fun _ i _ => (intOf i).toNat)
  case atStart => exact ⟨0, Nat.zero_le _, rfl, [], rfl, hown1, hd2⟩
  case round =>
    obtain ⟨k, hk, rfl, xs, hxl, hown, hd⟩ := hrel
    clear hd2 hown1
    have hsize := hd.but.size
    have hrow : ∀ g, u4.ownBlock = some g → w1.heap.size ≤ g := fun g hg => own_base hown hg
    have HR := Lib.hid hrow; clear hrow
    have HXL := Lib.hid hxl; clear hxl
    by_cases hlt : k < n
    · have hpos : 0 < n - k := by omega
      go_wp2_with fail
      refine (l1Number_c wr _ zs _ hd.src (by omega)).mono ?_
      rintro e w3 ⟨v, rfl, hv, hd1⟩
      have hown1 := hd1.keeps hown hslt
      have hd2 := hd.trans hd1
      have hown2 := hown1.alloc (.cells #[.int .i64 v] 2)
      have hd3 := hd2.alloc (.cells #[.int .i64 v] 2)
      have hs3 := hd1.but.size
      have HO2 := Lib.hid hown2; have HD3 := Lib.hid hd3; have HV := Lib.hid hv
      clear hown hown1 hown2 hd hd1 hd2 hd3 hv
      go_wp2_with (at_builtin; refine wpList_append_own _ rfl _ _ 25 rfl w1.heap.size 2 i0 (.int .i64 0) 1 8 Try.underlying25 hi hz hsz hbyt rfl (by decide) _ _ _ rfl HO2.out ⟨w3.heap.size, 0, none⟩ 1 1 [.int .i64 v] rfl rfl ?c1 ?c2 ?c3 ?c4 ?c5 ?_)
      case c1 =>
        intro j u hj
        match j, hj with
        | 0, hj => simp at hj; subst hj; exact cell_of_heap (heap_new w3 _ rfl)
      case c2 => intro u hu; simp at hu; subst hu; rfl
      case c3 => unfold maxLen; omega
      case c4 => omega
      case c5 => simp; omega
      intro v' w4 hown3 hgrow _
      have hd4 := HD3.out.grown hgrow HR.out hslt
      have hown4 : w4.ownsRow w1.heap.size 2 1 v' (k + 1) (cellsOf .i64 (xs ++ [v])) := by
        unfold cellsOf; rw [List.map_append]; exact hown3
      have HO := Lib.hid hown4; have HD4 := Lib.hid hd4
      clear hown3 hown4 hd4 hgrow
      go_wp2_with fail
      refine ⟨⟨k + 1, by omega, ?_, xs ++ [v], by simp [HXL.out], HO.out, HD4.out⟩, by simp [intOf]; omega⟩
      congr 1
      omega
    · obtain rfl : k = n := by omega
      have e0 : k - k = 0 := by omega
      have E0 := Lib.hid e0; clear e0
      have HOW := Lib.hid hown; clear hown
      rw [E0.out]
      go_wp2_with fail
      refine (l1Next_c wr _ zs _ _ hd.src (by omega) (by omega)).mono ?_
      rintro e w3 ⟨q, m3, rfl, hq0, hq1, hw3⟩
      have hd1 := Drawn.of_next hd.src (by omega) hw3
      clear hw3
      have hown1 := hd1.keeps HOW.out hslt
      have hd2 := hd.trans hd1
      have hs3 := hd1.but.size
      by_cases hq : q = 0
      · subst hq
        have hown2 := hown1.alloc (.cells #[.int .i64 32768] 2)
        have hd3 := hd2.alloc (.cells #[.int .i64 32768] 2)
        have HO2 := Lib.hid hown2; have HD3 := Lib.hid hd3
        clear hown1 hown2 hd hd1 hd2 hd3
        go_wp2_with (at_builtin; refine wpList_append_own _ rfl _ _ 25 rfl w1.heap.size 2 i0 (.int .i64 0) 1 8 Try.underlying25 hi hz hsz hbyt rfl (by decide) _ _ _ rfl HO2.out ⟨w3.heap.size, 0, none⟩ 1 1 [.int .i64 32768] rfl rfl ?c1 ?c2 ?c3 ?c4 ?c5 ?_)
        case c1 =>
          intro j u hj
          match j, hj with
          | 0, hj => simp at hj; subst hj; exact cell_of_heap (heap_new w3 _ rfl)
        case c2 => intro u hu; simp at hu; subst hu; rfl
        case c3 => unfold maxLen; omega
        case c4 => omega
        case c5 => simp; omega
        intro v' w4 hown3 hgrow _
        have hd4 := HD3.out.grown hgrow HR.out hslt
        have hown4 : w4.ownsRow w1.heap.size 2 1 v' (k + 1) (cellsOf .i64 (xs ++ [32768])) := by
          unfold cellsOf; rw [List.map_append]; exact hown3
        obtain ⟨fq, hrv, hnv, hfv⟩ := Rd.of_own hown4
        obtain ⟨Av, cv, rfl⟩ := hrv.form
        have HD4 := Lib.hid hd4
        clear hown3 hown4 hd4 hgrow
        go_wp2_with fail
        go_ret
        exact ⟨_, _, _, fq, rfl, trivial, hrv, hfv.mono hb1.size, HD4.out.fresh hb1⟩
      · by_cases hq' : q = 1
        · subst hq'
          clear hown1 HOW
          have hsrc3 := hd2.src.alloc (.cells (cellsOf .i64 [20, 21]).toArray 2)
          obtain ⟨fq, hr, hn, hf⟩ := Rd.fresh (w := w3) (w' := w3.alloc (.cells (cellsOf .i64 [20, 21]).toArray 2)) (n := 2) (size := 1) (xs := cellsOf .i64 [20, 21]) (e := 2) (by unfold maxLen; omega) rfl (heap_new w3 _ rfl) (Nat.le_refl _)
          go_wp2_with fail
          refine (l1Pick_c _ _ zs _ _ 2 [20, 21] fq hsrc3 (by omega) (by simp) (by simp) hr (fun hm => by have := hf _ hm; omega)).mono ?_
          rintro e w4 ⟨u, rfl, hu, hd3, hsz4⟩
          obtain ⟨j, rfl, hj⟩ : ∃ j : Nat, u = j ∧ j ≤ 21 := by simp at hu; exact ⟨u.toNat, by omega, by omega⟩
          clear hu
          have hd4 := (hd2.alloc (.cells (cellsOf .i64 [20, 21]).toArray 2)).trans hd3
          have hmk := makeInt64S j (by omega)
          have HSZ4 := Lib.hid hsz4; clear hsz4
          have hs4 := hd4.but.size
          go_wp2_with fail
          go_ret
          rw [made_zeros]
          obtain ⟨fz, hrz, hnz, hfz⟩ := Rd.fresh (w := w4) (w' := w4.alloc (.cells (cellsOf .i64 (List.replicate j 0)).toArray 2)) (n := j) (size := 1) (xs := cellsOf .i64 (List.replicate j 0)) (e := 2) (by unfold maxLen; omega) (by simp) (heap_new w4 _ rfl) (Nat.le_refl _)
          refine ⟨List.replicate j 0, some ⟨w4.heap.size, 0, none⟩, j, fz, by rw [List.length_replicate]; rfl, trivial, by rw [List.length_replicate]; exact hrz, hfz.mono (by have := hb1.size; omega), (hd4.alloc _).fresh hb1⟩
        · have hq2 : (q == 0) = false := by simpa using hq
          have hq3 : (q == 1) = false := by simpa using hq'
          obtain ⟨fq, hrv, hnv, hfv⟩ := Rd.of_own hown1
          obtain ⟨Av, cv, rfl⟩ := hrv.form
          have HD2 := Lib.hid hd2
          clear hown1 hd2 hd1 hd HOW
          go_wp2_with fail
          go_ret
          exact ⟨_, _, _, fq, rfl, trivial, hrv, hfv.mono hb1.size, HD2.out.fresh hb1⟩

/-- One cell of a slice is written. -/
theorem Rd.set0 {w : World} {K : IntKind} {b off c : Nat} {x v : Int} {t : List Int} {fp : List Nat} (h : Rd w 1 (.slice (some ⟨b, off, none⟩) (x :: t).length c) (cellsOf K (x :: t)) fp) :
    Rd (w.setCell ⟨b, off, none⟩ (.int K v)) 1 (.slice (some ⟨b, off, none⟩) (v :: t).length c) (cellsOf K (v :: t)) fp := by
  obtain ⟨A, n, c', e, h1, h2, h2', h3⟩ := h
  injection e with e1 e2 e3
  subst e1 e2 e3
  refine ⟨_, _, _, rfl, by simp, h2, h2', ?_⟩
  rcases h3 with ⟨h3, _⟩ | ⟨b', off', hA, rfl, hlt, hc⟩
  · simp at h3
  · injection hA with hA; injection hA with e1 e2 _; subst e1 e2
    refine .inr ⟨b, off, rfl, rfl, by simpa [World.setCell] using hlt, fun i u hu => ?_⟩
    match i, hu with
    | 0, hu =>
      simp at hu
      subst hu
      exact World.cell?_setCell_same _ _ _ (hc 0 _ rfl)
    | i + 1, hu =>
      rw [World.cell?_setCell_other _ _ _ _ (by intro h; injection h with _ h2 _; omega)]
      exact hc (i + 1) u (by simpa using hu)
/-- The first k elements of a slice. -/
theorem Rd.upto {w : World} {K : IntKind} {A : Option Addr} {c k : Nat} {zs : List Int} {fp : List Nat} (h : Rd w 1 (.slice A zs.length c) (cellsOf K zs) fp) (hk : k ≤ zs.length) :
    ∃ fq, Rd w 1 (.slice A (zs.take k).length c) (cellsOf K (zs.take k)) fq ∧ ∀ b ∈ fq, b ∈ fp := by
  obtain ⟨A, n, c', e, h1, h2, h2', h3⟩ := h
  injection e with e1 e2 e3
  subst e1 e2 e3
  have hl : (zs.take k).length = k := by rw [List.length_take]; omega
  rw [hl]
  by_cases h0 : k = 0
  · subst h0
    exact ⟨[], ⟨_, _, _, rfl, by simp, by omega, by omega, .inl ⟨rfl, rfl⟩⟩, fun _ h => by cases h⟩
  · rcases h3 with ⟨h3, _⟩ | ⟨b', off', rfl, rfl, hlt, hc⟩
    · omega
    · refine ⟨[b'], ⟨_, _, _, rfl, by simp; omega, by omega, by omega, .inr ⟨b', off', rfl, rfl, hlt, fun i u hu => ?_⟩⟩, fun _ h => h⟩
      refine hc i u ?_
      unfold cellsOf at hu
      rw [List.map_take, List.getElem?_take] at hu
      split at hu
      · exact hu
      · cases hu

theorem Rd.cap_le {w : World} {size : Nat} {A : Option Addr} {n c : Nat} {xs : List Value} {fp : List Nat} (h : Rd w size (.slice A n c) xs fp) : n ≤ c := by
  obtain ⟨A, n', c', e, h1, h2, h2', h3⟩ := h
  injection e with e1 e2 e3
  subst e2 e3
  exact h2'
theorem put2_byt (n : Int) : Byt (put2 n) := by
  intro z hz
  simp [put2] at hz
  omega
theorem pk_byt (zs : List Int) (k : Nat) (h : zs.length ≤ 20) : Byt (pk zs k) := by
  intro z hz
  unfold pk at hz
  rcases List.mem_cons.1 hz with rfl | hz
  · omega
  · obtain ⟨n, _, hn⟩ := List.mem_flatMap.1 hz
    exact put2_byt n z hn

set_option maxHeartbeats 4000000 in
theorem drawRead_c (A : Option Addr) (c : Nat) (zs : List Int) (w : World) (fp : List Nat) (ha : Rd w 1 (.slice A zs.length c) (cellsOf .u8 zs) fp) (hby : Byt zs) (hb : zs.length ≤ 1048576) :
    Calls Try.prog 10 #[.slice A zs.length c] w (ListPost .u8 Byt w) := by
  go_enter Try.func10, Try.ntmps10
  go_wp2_with fail
  refine (l1Source_c A c zs w fp ha hby hb).mono ?_
  rintro e w1 ⟨rfl, hsrc, hb1, hsz1⟩
  have hslt := hsrc.lt
  have HSZ1 := Lib.hid hsz1; clear hsz1
  go_wp2_with fail
  refine (l1Number_c w1 _ zs 0 hsrc (by omega)).mono ?_
  rintro e w2 ⟨x, rfl, hx, hd⟩
  have HX := Lib.hid hx; clear hx
  go_wp2_with fail
  refine (l1Number_c w2 _ zs _ hd.src (by omega)).mono ?_
  rintro e w3 ⟨y, rfl, hy, hd2⟩
  have HY := Lib.hid hy; clear hy
  have hd3 := (hd.trans hd2).alloc (.cells (cellsOf .i64 [x, y]).toArray 2)
  have s1 := hb1.size
  have s3 := (hd.trans hd2).but.size
  obtain ⟨fq, hr, hn, hf⟩ := Rd.fresh (w := w3) (w' := w3.alloc (.cells (cellsOf .i64 [x, y]).toArray 2)) (n := 2) (size := 1) (xs := cellsOf .i64 [x, y]) (e := 2) (by unfold maxLen; omega) rfl (heap_new w3 _ rfl) (Nat.le_refl _)
  have hall : allShort [x, y] := by
    intro k hk
    match k, hk with
    | 0, _ => exact HX.out
    | 1, _ => exact HY.out
  have HA := Lib.hid hall
  clear hall hd hd2
  go_wp2_with fail
  refine (l1Pack_c _ _ [x, y] _ fq (by simp) HA.out hr).mono ?_
  rintro e w4 ⟨v, fv, rfl, hrv, hnv, hfv, hb4⟩
  have hd4 := hd3.below hb4
  have hpb := pk_byt [x, y] 2 (by simp)
  have hpl : (pk [x, y] [x, y].length).length = 5 := rfl
  generalize hpk : pk [x, y] [x, y].length = ps at *
  have hpb' : Byt ps := hpb
  obtain ⟨Av, cv, rfl⟩ := hrv.form
  have HPL := Lib.hid hpl; clear hpl
  have hcap := hrv.cap_le
  simp only [World.size_alloc] at hfv
  have s4 := hb4.size
  simp only [World.size_alloc] at s4
  clear hpk hpb hr hn hf hd3 hb4
  go_wp2_with fail
  refine (l1Next_c w4 _ zs _ _ hd4.src (by omega) (by omega)).mono ?_
  rintro e w5 ⟨q, m5, rfl, hq0, hq1, hw5⟩
  have hd5 := Drawn.of_next hd4.src (by omega) hw5
  clear hw5
  have hne : ∀ b ∈ fv, b ∉ [w.heap.size] := fun b hb' hm => by simp at hm; have := hfv b hb'; omega
  have hr5 := hrv.but hd5.but hne
  have hn5 := hnv.but hd5.but hrv.lt hne
  have hd6 := hd4.trans hd5
  have hF : From w.heap.size fv := hfv.mono (by omega)
  by_cases hq : q = 0
  · subst hq
    have hsrc6 := hd6.src.alloc (.cells (cellsOf .i64 [1, 3, 21]).toArray 2)
    have s6 := hd6.src.lt
    obtain ⟨fq, hr, hn, hf⟩ := Rd.fresh (w := w5) (w' := w5.alloc (.cells (cellsOf .i64 [1, 3, 21]).toArray 2)) (n := 3) (size := 1) (xs := cellsOf .i64 [1, 3, 21]) (e := 2) (by unfold maxLen; omega) rfl (heap_new w5 _ rfl) (Nat.le_refl _)
    go_wp2_with fail
    refine (l1Pick_c _ _ zs _ _ 3 [1, 3, 21] fq hsrc6 (by omega) (by simp) (by simp) hr (fun hm => by have := hf _ hm; omega)).mono ?_
    rintro e w7 ⟨u, rfl, hu, hd7, hsz7⟩
    have hu' : 0 ≤ u ∧ u ≤ 255 := by simp at hu; omega
    clear hu
    obtain ⟨u0, u1⟩ := hu'
    have hd8 := (hd6.alloc (.cells (cellsOf .i64 [1, 3, 21]).toArray 2)).trans hd7
    have hr7 := (hr5.alloc (.cells (cellsOf .i64 [1, 3, 21]).toArray 2)).but hd7.but hne
    have hn7 := (hn5.keep (w' := w5.alloc (.cells (cellsOf .i64 [1, 3, 21]).toArray 2)) fun b hb' => Below.heap_alloc _ _ _ (hr5.lt b hb')).but hd7.but (hr5.alloc _).lt hne
    clear hr hn hf hsz7
    obtain ⟨p0, pt, rfl⟩ : ∃ p0 pt, ps = p0 :: pt := by
      match ps, HPL.out with
      | p0 :: pt, _ => exact ⟨p0, pt, rfl⟩
    obtain ⟨b, off, hA, hfp, hbw, hc⟩ := hr7.ints_at (k := 0) (by simp)
    subst hA hfp
    have hfz : w7.frozen? ⟨b, off, none⟩ = false := hn7 b (by simp) off
    rw [Nat.add_zero] at hc
    have hpos : 0 < (p0 :: pt).length := by simp
    have hset := hr7.set0 (v := u)
    have hbut8 : But [b] w7 (w7.setCell ⟨b, off, none⟩ (.int .u8 u)) := (But.refl [b] w7).setCell (p := ⟨b, off, none⟩) (by simp) _
    have hbel := (hd8.fresh hb1).trans (hbut8.below (by have := (hd8.fresh hb1).size; omega) hF)
    have HB := Lib.hid hbel; have HS := Lib.hid hset
    clear hbel hset
    go_wp2_with fail
    go_ret
    refine ⟨u :: pt, _, _, _, rfl, ?_, HS.out, hF, HB.out⟩
    intro z hz
    rcases List.mem_cons.1 hz with rfl | hz
    · exact ⟨u0, u1⟩
    · exact hpb' z (List.mem_cons_of_mem _ hz)
  · by_cases hq' : q = 1
    · subst hq'
      go_wp2_with fail
      refine (l1Next_c w5 _ zs _ _ hd6.src (by omega) (by omega)).mono ?_
      rintro e w6 ⟨j, m6, rfl, hj0, hj1, hw6⟩
      have hd7 := Drawn.of_next hd6.src (by omega) hw6
      clear hw6
      have hr6 := hr5.but hd7.but hne
      obtain ⟨k, rfl⟩ : ∃ k : Nat, j = k := ⟨j.toNat, by omega⟩
      have hk : k ≤ ps.length := by rw [HPL.out]; omega
      obtain ⟨fz, hrz, hfz⟩ := hr6.upto hk
      have hl : (ps.take k).length = k := by rw [List.length_take]; omega
      have hkc : k ≤ cv := by omega
      have HL := Lib.hid hl; clear hl
      go_wp2_with fail
      go_ret
      exact ⟨ps.take k, Av, cv, fz, by rw [HL.out]; rfl, fun z hz => hpb' z (List.mem_of_mem_take hz), hrz, fun b hb' => hF b (hfz b hb'), (hd6.trans hd7).fresh hb1⟩
    · have hq2 : (q == 0) = false := by simpa using hq
      have hq3 : (q == 1) = false := by simpa using hq'
      go_wp2_with fail
      go_ret
      exact ⟨ps, Av, cv, fv, rfl, hpb', hr5, hF, hd6.fresh hb1⟩
end Go.Proofs.Ytfbplblpgdpilaa
