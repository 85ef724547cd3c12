/-
  The model's draws of chapter 5: requests that were seen.
-/
import Derived.Test.YtfohlopbfanaeaaSrc
import Derived.Test.YtfohlopbfanaeaaNote5b
namespace Go.Proofs.Ytfohlopbfanaeaa
open Go.RowKit

theorem next_s (w : World) (s : Nat) (zs : List Int) (a : Nat) (n : Int) (h : Src w s zs a) (ha : a < 1000000) (hn : 1 ≤ n) (hn2 : n ≤ 1000000) :
    Calls Try.prog 87 #[.pointer (some ⟨s, 0, none⟩), .int .i64 n] w fun e w' => ∃ v, e = .returned (.int .i64 v) ∧ 0 ≤ v ∧ v < n ∧ Drawn w s zs a 1 w' := by
  refine (l1Next_c w s zs a n h hn hn2).mono ?_
  rintro e w1 ⟨v, m, rfl, hv0, hv1, hw1⟩
  exact ⟨v, rfl, hv0, hv1, Drawn.of_next h ha hw1⟩
theorem pick_s (w : World) (s : Nat) (zs : List Int) (a n : Nat) (xs : List Int) (h : Src w s zs a) (hn : n = w.heap.size) (ha : a < 1000000) (hx : 1 ≤ xs.length) (hx2 : xs.length ≤ 1000) :
    Calls Try.prog 86 #[.pointer (some ⟨s, 0, none⟩), .slice (some ⟨n, 0, none⟩) xs.length xs.length] (w.alloc (.cells (cellsOf .i64 xs).toArray 2)) fun e w' => ∃ v, e = .returned (.int .i64 v) ∧ v ∈ xs ∧ Drawn w s zs a 1 w' := by
  subst hn
  obtain ⟨fq, hr, _, hf⟩ := Rd.fresh (w := w) (w' := w.alloc (.cells (cellsOf .i64 xs).toArray 2)) (n := xs.length) (size := 1) (xs := cellsOf .i64 xs) (e := 2) (by unfold maxLen; omega) (by simp [cellsOf]) (heap_new _ _ rfl) (Nat.le_refl _)
  have hlt := h.lt
  have hfs : s ∉ fq := fun hm => by have := hf _ hm; omega
  have hd0 := (Drawn.start h).alloc (.cells (cellsOf .i64 xs).toArray 2)
  refine (l1Pick_c _ s zs a _ xs.length xs fq hd0.src ha hx hx2 hr hfs).mono ?_
  rintro e w1 ⟨v, rfl, hv, hd, _⟩
  exact ⟨v, rfl, hv, by have := hd0.trans hd; simpa using this⟩

/-- A request of short numbers. -/
def MildS (x : Sn) : Prop := -100000 ≤ x.rq ∧ x.rq ≤ 100000 ∧ -100000 ≤ x.vl ∧ x.vl ≤ 100000
theorem wf_small {z : Int} (h1 : -100000 ≤ z) (h2 : z ≤ 100000) : (Lit.int .i64 z).wf = true := by
  have : IntKind.i64.min = -9223372036854775808 := rfl
  have : IntKind.i64.max = 9223372036854775807 := rfl
  simp [Lit.wf]
  omega
theorem MildS.wf {x : Sn} (h : MildS x) : WfS x := ⟨wf_small h.1 h.2.1, wf_small h.2.2.1 h.2.2.2⟩
theorem OwnA.lower {w : World} {base base' K : Nat} {v : Value} {n : Nat} {xs : List Value} {g off cap : Nat} (h : OwnA w base K v n xs g off cap) (hb : base' ≤ base) : OwnA w base' K v n xs g off cap :=
  ⟨h.form, Nat.le_trans hb h.lo, h.lt, h.len, h.nc, h.cm, h.rd, h.room, h.nf⟩
/-- Requests were drawn. -/
def DSnPost (w : World) (s : Nat) (zs : List Int) (a B : Nat) (e : Ending) (w' : World) : Prop :=
  ∃ v fv l d, e = .returned v ∧ Rd w' 2 v (ecs sc l) fv ∧ NF w' fv ∧ From w.heap.size fv ∧ (∀ x ∈ l, MildS x) ∧ l.length ≤ 7 ∧ d ≤ B ∧ Drawn w s zs a d w'
/-- What stands through the loop. -/
structure DL (w : World) (s : Nat) (zs : List Int) (a d : Nat) (v : Value) (l : List Sn) (g off cap : Nat) (wr : World) : Prop where
  own : OwnA wr w.heap.size 2 v l.length (ecs sc l) g off cap
  mild : ∀ x ∈ l, MildS x
  drawn : Drawn w s zs a d wr
theorem DL.call {w : World} {s : Nat} {zs : List Int} {a d e : Nat} {v : Value} {l : List Sn} {g off cap : Nat} {wr w1 : World} (h : DL w s zs a d v l g off cap wr) (hs : s < w.heap.size) (hd : Drawn wr s zs (a + d) e w1) : DL w s zs a (d + e) v l g off cap w1 :=
  ⟨h.own.but hd.but (by have := h.own.lo; simp; omega), h.mild, h.drawn.trans hd⟩
theorem DL.below {w : World} {s : Nat} {zs : List Int} {a d : Nat} {v : Value} {l : List Sn} {g off cap : Nat} {wr w1 : World} (h : DL w s zs a d v l g off cap wr) (hb : Below wr.heap.size wr w1) : DL w s zs a d v l g off cap w1 :=
  ⟨h.own.below' hb, h.mild, h.drawn.below hb⟩
theorem sc_new5 {w : World} {t : TypeId} (x : Sn) : ∀ j u, (sc x)[j]? = some u → (w.alloc (.cells #[.int .i64 x.rq, .int .i64 x.vl] t)).cell? ((⟨w.heap.size, 0, none⟩ : Addr).add j) = some u := by
  intro j u hu
  have e : (⟨w.heap.size, 0, none⟩ : Addr).add j = ⟨w.heap.size, j, none⟩ := by unfold Addr.add; split <;> simp_all
  rw [e, cell_of_heap (heap_new w _ rfl)]
  rw [← hu]
  unfold sc
  simp
theorem noteD_len (l : List Sn) (x : Sn) (h : l.length ≤ 6) : (if l.length < 6 then l ++ [x] else (l ++ [x]).drop 1).length ≤ 6 := by
  split <;> simp <;> omega
theorem noteD_mild {l : List Sn} {x : Sn} (h : ∀ y ∈ l, MildS y) (hx : MildS x) : ∀ y ∈ (if l.length < 6 then l ++ [x] else (l ++ [x]).drop 1), MildS y := by
  have h2 : ∀ y ∈ l ++ [x], MildS y := fun y hy => by
    rcases List.mem_append.1 hy with hy | hy
    · exact h y hy
    · simp at hy; subst hy; exact hx
  split
  · exact h2
  · exact fun y hy => h2 y (List.mem_of_mem_drop hy)

set_option maxRecDepth 100000 in
set_option maxHeartbeats 4000000 in
theorem l5DrawSeen_c (w : World) (s : Nat) (zs : List Int) (a : Nat) (h : Src w s zs a) (ha : a < 900000) :
    Calls Try.prog 85 #[.pointer (some ⟨s, 0, none⟩)] w (DSnPost w s zs a 20) := by
  obtain ⟨i0, hi, hz, hsz, hby⟩ := infoSeen
  have hls := h.lt
  have HS := Lib.hid h; clear h
  go_enter Try.func85, Try.ntmps85
  go_wp2_with fail
  refine (next_s _ s zs a 8 (HS.out.alloc _) (by omega) (by omega) (by omega)).mono ?_
  rintro e w1 ⟨v1, rfl, hv0, hv8, hd1⟩
  obtain ⟨g0, c0, hoa⟩ := OwnA.of_own (own_emptyE (w := w) (t := 64) (base := w.heap.size) 2 (Nat.le_refl _)) (by simp)
  have hd0 := (Drawn.start HS.out).alloc (.cells #[] 64)
  have HDL := Lib.hid (DL.call (w := w) (l := []) ⟨by simpa [ecs] using hoa, by simp, hd0⟩ hls hd1)
  have hsz1 := hd1.but.size
  clear hd1 hoa hd0
  go_wp2_with fail
  obtain ⟨n1, rfl⟩ : ∃ n : Nat, v1 = (n : Int) := ⟨v1.toNat, by omega⟩
  go_loopw [3, 4] (fun v i wr => ∃ (j d : Nat) (l : List Sn) (g off cap : Nat), j ≤ 7 ∧ i = .int .i64 j ∧ d + 2 * j ≤ 15 ∧ l.length ≤ 6 ∧ Hid (DL w s zs a d v l g off cap wr)) (fun _ i _ => (intOf i).toNat)
  case atStart => exact ⟨n1, _, [], _, _, _, by omega, rfl, by omega, by simp, HDL⟩
  case round =>
    clear HDL
    obtain ⟨j, d, l, g, off, cap, hj, rfl, hdj, hl6, HDL⟩ := hrel
    have hfo := HDL.out.own.form
    subst hfo
    rcases Nat.eq_zero_or_pos j with h0 | h0
    · subst h0
      have hsw := HDL.out.drawn.but.size
      go_wp2_with fail
      refine (next_s _ s zs (a + d) 14 HDL.out.drawn.src (by omega) (by omega) (by omega)).mono ?_
      rintro e w2 ⟨v2, rfl, hv0, hv14, hd2⟩
      have HDL2 := Lib.hid (HDL.out.call hls hd2)
      clear hd2
      by_cases e0 : v2 = 0
      · subst e0
        have hsz2 := HDL2.out.drawn.but.size
        go_wp2_with fail
        refine (pick_s w2 s zs (a + (d + 1)) w2.heap.size [0, 1, 999, 1000] HDL2.out.drawn.src rfl (by omega) (by simp) (by simp)).mono ?_
        rintro e w3 ⟨p3, rfl, hp3, hd3⟩
        have HDL3 := Lib.hid (HDL2.out.call hls hd3)
        have hq3 : 0 ≤ p3 ∧ p3 ≤ 1000 := by simp at hp3; omega
        clear hd3 hp3
        go_wp2_with fail
        refine (pick_s w3 s zs (a + (d + 1 + 1)) w3.heap.size [0, -1] HDL3.out.drawn.src rfl (by omega) (by simp) (by simp)).mono ?_
        rintro e w4 ⟨p4, rfl, hp4, hd4⟩
        have HDL4 := Lib.hid (HDL3.out.call hls hd4)
        have hq4 : -1 ≤ p4 ∧ p4 ≤ 0 := by simp at hp4; omega
        have hsz4 := (HDL3.out.call hls hd4).drawn.but.size
        clear hd4 hp4
        have HO5 := Lib.hid ((HDL4.out.own).below' (below_new (.cells #[.int .i64 p3, .int .i64 p4] 64)))
        go_wp2_with (at_builtin; refine wpList_append_a rfl _ _ 46 rfl w.heap.size 64 i0 (sv ⟨0, 0⟩) 2 16 Try.underlying46 hi hz hsz hby rfl _ _ _ g off cap rfl HO5.out ⟨w4.heap.size, 0, none⟩ 1 1 (sc ⟨p3, p4⟩) rfl rfl ?c1 ?c2 ?c3 ?c4 ?c5 ?_)
        case c1 => exact sc_new5 (w := w4) ⟨p3, p4⟩
        case c2 => exact sc_one _
        case c3 => unfold maxLen; omega
        case c4 => omega
        case c5 => simp; omega
        intro v6 w6 g6 off6 cap6 hown6 hgrow6
        have hd6 := (HDL4.out.drawn.alloc (.cells #[.int .i64 p3, .int .i64 p4] 64)).grown hgrow6 (fun k hk => by injection hk with hk; subst hk; exact HDL4.out.own.lo) hls
        have hxs : ecs sc l ++ sc ⟨p3, p4⟩ = ecs sc (l ++ [⟨p3, p4⟩]) := by rw [ecs_append]; simp [ecs]
        rw [hxs] at hown6
        obtain ⟨fp, hr, hn, hf⟩ := hown6.rd'
        have hmm : ∀ y ∈ l ++ [(⟨p3, p4⟩ : Sn)], MildS y := fun y hy => by
          rcases List.mem_append.1 hy with hy | hy
          · exact HDL4.out.mild y hy
          · simp at hy; subst hy; unfold MildS; simp only; omega
        have hfo := hown6.form
        subst hfo
        have HX := Lib.hid (And.intro hr (And.intro hn (And.intro hf (And.intro hmm hd6))))
        clear hr hn hf hmm hd6 hown6 hgrow6 hxs
        go_wp2_with fail
        go_ret
        exact ⟨_, fp, l ++ [⟨p3, p4⟩], _, rfl, by simpa using HX.out.1, HX.out.2.1, HX.out.2.2.1, HX.out.2.2.2.1, by simp; omega, by omega, HX.out.2.2.2.2⟩
      · by_cases e1 : v2 = 1
        · subst e1
          have hmk : ∀ W : World, (Instr.makeSlice 46 (.int .i64 7) (.int .i64 7)).run Try.prog W = .ok (.slice (some ⟨W.heap.size, 0, none⟩) 7 7) (W.alloc (.cells (ecs sc (List.replicate 7 ⟨0, 0⟩)).toArray 64)) := by
            intro W
            have := makeSeenS 7 (by omega) W
            rw [made_zeros (K := 2) (.int .i64 0) (sv ⟨0, 0⟩).cells rfl (by omega) 7, ← ecs_zeros (ec := sc) (K := 2) ⟨0, 0⟩ (.int .i64 0) rfl 7] at this
            exact this
          obtain ⟨fq, h1, h2, h3⟩ := Rd.fresh (w := w2) (w' := w2.alloc (.cells (ecs sc (List.replicate 7 ⟨0, 0⟩)).toArray 64)) (e := 64) (xs := ecs sc (List.replicate 7 ⟨0, 0⟩)) (n := 7) (size := 2) (by unfold maxLen; omega) (by simp [ecs, sc]) (heap_new w2 _ rfl) (Nat.le_refl _)
          have hsz2 := HDL2.out.drawn.but.size
          have HX := Lib.hid (And.intro h1 (And.intro h2 (And.intro (h3.mono hsz2) (HDL2.out.drawn.alloc (.cells (ecs sc (List.replicate 7 ⟨0, 0⟩)).toArray 64)))))
          clear h1 h2 h3
          go_wp2_with fail
          go_ret
          exact ⟨_, fq, List.replicate 7 ⟨0, 0⟩, _, rfl, HX.out.1, HX.out.2.1, HX.out.2.2.1, fun y hy => by rw [List.eq_of_mem_replicate hy]; unfold MildS; simp, by simp, by omega, HX.out.2.2.2⟩
        · have t0 : (v2 == 0) = false := by simpa using e0
          have t1 : (v2 == 1) = false := by simpa using e1
          obtain ⟨fp, hr, hn, hf⟩ := HDL2.out.own.rd'
          have HX := Lib.hid (And.intro hr (And.intro hn (And.intro hf (And.intro HDL2.out.mild HDL2.out.drawn))))
          clear hr hn hf
          go_wp2_with fail
          go_ret
          exact ⟨_, fp, l, _, rfl, HX.out.1, HX.out.2.1, HX.out.2.2.1, HX.out.2.2.2.1, by omega, by omega, HX.out.2.2.2.2⟩
    · have i0' : (0 : Int) < (j : Int) := by omega
      go_wp2_with fail
      refine (next_s _ s zs (a + d) 9 HDL.out.drawn.src (by omega) (by omega) (by omega)).mono ?_
      rintro e w2 ⟨v2, rfl, hv20, hv21, hd2⟩
      have HDL2 := Lib.hid (HDL.out.call hls hd2)
      clear hd2
      go_wp2_with fail
      refine (next_s _ s zs (a + (d + 1)) 40 HDL2.out.drawn.src (by omega) (by omega) (by omega)).mono ?_
      rintro e w3 ⟨v3, rfl, hv30, hv31, hd3⟩
      have HDL3 := Lib.hid ((HDL2.out.call hls hd3).below (below_new (.cells #[.int .i64 (1 + v2), .int .i64 v3] 64)))
      clear hd3
      have GX4 := Lib.hid (heap_new w3 (.cells #[.int .i64 (1 + v2), .int .i64 v3] 64) rfl)
      have hmx : MildS ⟨1 + v2, v3⟩ := by unfold MildS; simp only; omega
      have HMX := Lib.hid hmx; clear hmx
      obtain ⟨fp, hr, _, _⟩ := HDL3.out.own.rd'
      have HR3 := Lib.hid hr; clear hr
      have hin := idxN_neg l (1 + v2)
      generalize hV : idxN l (1 + v2) = V at hin
      have HV := Lib.hid hV; clear hV hin
      go_wp2_with fail
      generalize w3.alloc (.cells #[.int .i64 (1 + v2), .int .i64 v3] 64) = w4 at *
      refine (l5At_c (some ⟨g, off, none⟩) cap l.length l (1 + v2) _ fp rfl HR3.out).mono ?_
      rw [HV.out]
      rintro e w5 ⟨rfl, hw⟩
      subst hw
      have gx5 : w5.heap[w3.heap.size]? = some (.cells #[.int .i64 (1 + v2), .int .i64 v3] 64 (0, 0)) := GX4.out
      obtain ⟨y0, y1, _, _, hy⟩ := pair_at5 gx5
      clear gx5
      by_cases hV0 : V < 0
      · have hsz5 := HDL3.out.drawn.but.size
        go_wp2_with fail
        refine (l5Note_a (some ⟨g, off, none⟩) cap l ⟨1 + v2, v3⟩ _ fp (by omega) HR3.out).mono ?_
        rintro e w6 ⟨v6, g6, off6, cap6, rfl, hown6, hb6⟩
        have hl6' := noteD_len l ⟨1 + v2, v3⟩ hl6
        have hm6 := noteD_mild HDL3.out.mild HMX.out
        have HDL6 := Lib.hid (show DL w s zs a (d + 1 + 1) v6 _ g6 off6 cap6 w6 from ⟨hown6.lower (by omega), hm6, HDL3.out.drawn.below hb6⟩)
        generalize (if l.length < 6 then l ++ [(⟨1 + v2, v3⟩ : Sn)] else (l ++ [(⟨1 + v2, v3⟩ : Sn)]).drop 1) = L at *
        clear hown6 hm6 hb6 y0 y1 hy
        go_wp2_with fail
        exact ⟨⟨j - 1, _, L, g6, off6, cap6, by omega, by go_num, by omega, hl6', HDL6⟩, by simp [intOf]; omega⟩
      · go_wp2_with fail
        exact ⟨⟨j - 1, _, l, g, off, cap, by omega, by go_num, by omega, hl6, HDL3⟩, by simp [intOf]; omega⟩

theorem Drawn.fresh5 {w w1 w2 : World} {zs : List Int} {a d : Nat} (hb : Below w.heap.size w w1) (h : Drawn w1 w.heap.size zs a d w2) : Below w.heap.size w w2 :=
  hb.trans (h.but.below hb.size (fun b hm => by simp at hm; omega))
/-- A list and a request, a list and a number were drawn. -/
def SnsSnPost (w : World) (e : Ending) (w' : World) : Prop :=
  ∃ v fv l x, e = .returned (.tuple #[v, sv x]) ∧ Rd w' 2 v (ecs sc l) fv ∧ (∀ y ∈ l, MildS y) ∧ l.length ≤ 7 ∧ MildS x ∧ From w.heap.size fv ∧ Below w.heap.size w w'
def SnsIntPost (w : World) (e : Ending) (w' : World) : Prop :=
  ∃ v fv l q, e = .returned (.tuple #[v, .int .i64 q]) ∧ Rd w' 2 v (ecs sc l) fv ∧ (∀ y ∈ l, MildS y) ∧ l.length ≤ 7 ∧ 0 ≤ q ∧ q ≤ 12 ∧ From w.heap.size fv ∧ Below w.heap.size w w'

set_option maxRecDepth 100000 in
set_option maxHeartbeats 2000000 in
theorem drawFindSeen_c (A : Option Addr) (c : Nat) (zs : List Int) (w : World) (fp : List Nat) (ha : Rd w 1 (.slice A zs.length c) (cellsOf .u8 zs) fp) (hby : Byt zs) (hb : zs.length ≤ 1048576) :
    Calls Try.prog 51 #[.slice A zs.length c] w (SnsIntPost w) := by
  go_enter Try.func51, Try.ntmps51
  go_wp2_with fail
  refine (l1Source_c A c zs _ fp ha hby hb).mono ?_
  rintro e w1 ⟨rfl, hs1, hb1, hz1⟩
  have HS1 := Lib.hid hs1; have HB1 := Lib.hid hb1; clear hs1 hb1
  have hz1' : w.heap.size + 1 ≤ w1.heap.size := by omega
  clear hz1
  go_wp2_with fail
  refine (l5DrawSeen_c _ w.heap.size zs 0 HS1.out (by omega)).mono ?_
  rintro e w2 ⟨v, fv, l, d, rfl, hr, hn, hf, hm, hl, hd, hdr⟩
  obtain ⟨Av, cv, rfl⟩ := hr.elt_form sc_len (by omega)
  have HX := Lib.hid (And.intro hr (And.intro hf (And.intro hm hdr)))
  clear hr hn hf hm hdr
  go_wp2_with fail
  refine (next_s _ w.heap.size zs (0 + d) 12 HX.out.2.2.2.src (by omega) (by omega) (by omega)).mono ?_
  rintro e w3 ⟨q, rfl, hq0, hq1, hd3⟩
  have HD3 := Lib.hid hd3; clear hd3
  go_wp2_with fail
  go_ret2
  obtain ⟨k1, k2, k3, k4⟩ := HX.out
  exact ⟨_, fv, l, q, rfl, k1.but HD3.out.but (fun b hb hm => by have := k2 b hb; simp at hm; omega), k3, hl, hq0, by omega, k2.mono (by omega), Drawn.fresh5 HB1.out (k4.trans HD3.out)⟩

set_option maxRecDepth 100000 in
set_option maxHeartbeats 2000000 in
theorem drawNoteSeen_c (A : Option Addr) (c : Nat) (zs : List Int) (w : World) (fp : List Nat) (ha : Rd w 1 (.slice A zs.length c) (cellsOf .u8 zs) fp) (hby : Byt zs) (hb : zs.length ≤ 1048576) :
    Calls Try.prog 50 #[.slice A zs.length c] w (SnsSnPost w) := by
  go_enter Try.func50, Try.ntmps50
  go_wp2_with fail
  have G0 := Lib.hid (heap_new w (.cells #[.int .i64 0, .int .i64 0] 64) rfl)
  have HB0 := Lib.hid (below_new (w := w) (.cells #[.int .i64 0, .int .i64 0] 64))
  have hz0 : w.heap.size + 1 ≤ (w.alloc (.cells #[.int .i64 0, .int .i64 0] 64)).heap.size := by simp
  have HA0 := Lib.hid (ha.alloc (.cells #[.int .i64 0, .int .i64 0] 64))
  generalize w.alloc (.cells #[.int .i64 0, .int .i64 0] 64) = W at *
  clear ha
  refine (l1Source_c A c zs _ fp HA0.out hby hb).mono ?_
  rintro e w1 ⟨rfl, hs1, hb1, hz1⟩
  have HS1 := Lib.hid hs1; have HB1 := Lib.hid (HB0.out.trans (hb1.mono HB0.out.size))
  have G1 := Lib.hid ((hb1.block _ (heap_lt G0.out)).trans G0.out)
  have hz1' : W.heap.size + 1 ≤ w1.heap.size := by omega
  clear hs1 hb1 hz1
  go_wp2_with fail
  refine (l5DrawSeen_c _ W.heap.size zs 0 HS1.out (by omega)).mono ?_
  rintro e w2 ⟨v, fv, l, d, rfl, hr, hn, hf, hm, hl, hd, hdr⟩
  obtain ⟨Av, cv, rfl⟩ := hr.elt_form sc_len (by omega)
  have hs2 := hdr.but.size
  have HX := Lib.hid (And.intro hr (And.intro hf (And.intro hm hdr)))
  clear hr hn hf hm hdr
  go_wp2_with fail
  refine (next_s _ W.heap.size zs (0 + d) 12 HX.out.2.2.2.src (by omega) (by omega) (by omega)).mono ?_
  rintro e w3 ⟨q, rfl, hq0, hq1, hd3⟩
  have HD3 := Lib.hid (HX.out.2.2.2.trans hd3)
  have HR3 := Lib.hid (HX.out.1.but hd3.but (fun b hb hm => by have := HX.out.2.1 b hb; simp at hm; omega))
  have hs3 := hd3.but.size
  clear hd3
  go_wp2_with fail
  refine (pick_s w3 W.heap.size zs (0 + (d + 1)) w3.heap.size [q, 999, 1000] HD3.out.src rfl (by omega) (by simp) (by simp)).mono ?_
  rintro e w4 ⟨p4, rfl, hp4, hd4⟩
  have hq4 : 0 ≤ p4 ∧ p4 ≤ 1000 := by simp at hp4; omega
  have HD4 := Lib.hid (HD3.out.trans hd4)
  have HR4 := Lib.hid (HR3.out.but hd4.but (fun b hb hm => by have := HX.out.2.1 b hb; simp at hm; omega))
  have hs4 := hd4.but.size
  clear hd4 hp4
  go_wp2_with fail
  refine (pick_s w4 W.heap.size zs (0 + (d + 1 + 1)) w4.heap.size [5, 19998, 19999] HD4.out.src rfl (by omega) (by simp) (by simp)).mono ?_
  rintro e w5 ⟨p5, rfl, hp5, hd5⟩
  have hq5 : 5 ≤ p5 ∧ p5 ≤ 19999 := by simp at hp5; omega
  have HD5 := Lib.hid (HD4.out.trans hd5)
  have HR5 := Lib.hid (HR4.out.but hd5.but (fun b hb hm => by have := HX.out.2.1 b hb; simp at hm; omega))
  have G5 := Lib.hid (HD5.out.but.heap G1.out (by simp; omega))
  have HB5 := Lib.hid (HB1.out.trans (HD5.out.but.below HB1.out.size (fun b hm => by simp at hm; omega)))
  clear hd5 hp5
  obtain ⟨z0, z1, f0, f1, hz⟩ := pair_at5 G5.out
  go_wp2_with fail
  have hbut := But.two w5 w.heap.size 0 1 (.int .i64 p4) (.int .i64 p5)
  refine bodyPost_ret (v := .tuple #[.slice Av l.length cv, sv ⟨p4, p5⟩]) (by simp [results, Try.results50, go_sem, z0, z1, hz]) rfl ⟨_, fv, l, ⟨p4, p5⟩, rfl, HR5.out.but hbut (fun b hb hm => by have := HX.out.2.1 b hb; simp at hm; omega), HX.out.2.2.1, hl, by unfold MildS; simp only; omega, HX.out.2.1.mono (by omega), ?_⟩
  exact HB5.out.trans (hbut.below HB5.out.size (fun b hm => by simp at hm; omega))
end Go.Proofs.Ytfohlopbfanaeaa
