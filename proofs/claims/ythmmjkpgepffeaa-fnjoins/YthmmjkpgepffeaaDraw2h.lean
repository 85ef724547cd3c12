/-
  Contract of the model's draw of chapter 2 for JoinRows.
-/
import Derived.Test.YthmmjkpgepffeaaDraw2g
import Derived.Maps.AppendAt
namespace Go.Proofs.Ythmmjkpgepffeaa
open Go.RowKit

/-- Two lists of rows were drawn. -/
def RowsRowsPost (w : World) (e : Ending) (w' : World) : Prop :=
  ∃ va vb fa fb ra rb, e = .returned (.tuple #[va, vb]) ∧ Rd w' 4 va (rcs ra) fa ∧ Rd w' 4 vb (rcs rb) fb ∧ (∀ r ∈ ra, Mild r) ∧ (∀ r ∈ rb, Mild r) ∧ ra.length ≤ 13 ∧ rb.length ≤ 13 ∧ Below w.heap.size w w'

theorem own_far {w w' : World} {base n : Nat} {e : TypeId} {size : Nat} {v : Value} {xs : List Value} {row : Option Nat} (h : w.ownsRow base e size v n xs) (hg : w.grownBy w' row) (hd : ∀ g, v.ownBlock = some g → row ≠ some g) : w'.ownsRow base e size v n xs := by
  refine ⟨h.1, ?_⟩
  rcases h.2 with h0 | ⟨g, cap, cur, h1, h2, h3, h4⟩
  · exact .inl h0
  · exact .inr ⟨g, cap, cur, h1, h2, (hg.block g (heap_lt h3) (fun e => hd g (by rw [h1]; rfl) e.symm)).trans h3, h4⟩
theorem own_blk_lt {w : World} {base n g : Nat} {e : TypeId} {size : Nat} {v : Value} {xs : List Value} (h : w.ownsRow base e size v n xs) (hg : v.ownBlock = some g) : g < w.heap.size := by
  rcases h.2 with ⟨h0, _⟩ | ⟨g', cap, cur, h1, h2, h3, h4⟩
  · rw [h0] at hg; cases hg
  · rw [h1] at hg; cases hg; exact heap_lt h3
theorem rd_grown {w w' : World} {fp : List Nat} {v : Value} {xs : List Value} {row : Option Nat} (h : Rd w 4 v xs fp) (hg : w.grownBy w' row) (hd : ∀ b ∈ fp, row ≠ some b) : Rd w' 4 v xs fp := by
  have hb : But (row.toList) w w' := ⟨hg.os, hg.tape, hg.output, hg.size, fun k hk hn => hg.block k hk (fun e => hn (by rw [← e]; simp))⟩
  exact h.but hb fun b hm hx => hd b hm (by cases row <;> simp_all)

set_option maxRecDepth 100000 in
set_option maxHeartbeats 8000000 in
theorem drawJoinRows_c (A : Option Addr) (c : Nat) (zs : List Int) (w : World) (fp : List Nat) (ha : Rd w 1 (.slice A zs.length c) (cellsOf .u8 zs) fp) (hby : Byt zs) (hb : zs.length ≤ 1048576) :
    Calls Try.prog 29 #[.slice A zs.length c] w (RowsRowsPost w) := by
  obtain ⟨i0, hi, hz, hsz, hbyt⟩ := infoRow
  go_enter Try.func29, Try.ntmps29
  go_wp2_with fail
  refine (l1Source_c A c zs _ fp ha hby hb).mono ?_
  rintro e w1 ⟨rfl, hs1, hb1, hz1⟩
  have hl1 : w.heap.size ≤ w1.heap.size := by omega
  clear hz1
  go_wp2_with fail
  refine (l2Bent_c _ w.heap.size zs 0 hs1 (by omega)).mono ?_
  rintro e w2 ⟨v, fv, rs, d, n, B, rfl, hr, hn, hf, _, _, hm, hl, hd, hdr⟩
  have hls := hs1.lt
  obtain ⟨Av, cv, hv⟩ := hr.rows_form
  subst hv
  have sz2 := hdr.but.size
  have hlt2 := hr.lt
  have hap : ∀ b ∈ fv, b ∉ [w.heap.size] := fun b hb hm => by have := hf b hb; simp at hm; omega
  have HAP := Lib.hid hap; have HLT := Lib.hid hlt2; have HM := Lib.hid hm
  have HR := Lib.hid ((hr.alloc (.cells #[] 26)).alloc (.cells #[] 26))
  have HD := Lib.hid ((hdr.alloc (.cells #[] 26)).alloc (.cells #[] 26))
  have hoa := own_emptyR (w := w2) (t := 26) (base := w2.heap.size) (Nat.le_refl _)
  have HOA := Lib.hid (World.ownsRow.alloc hoa (.cells #[] 26))
  have hob := own_emptyR (w := w2.alloc (.cells #[] 26)) (t := 26) (base := w2.heap.size) (by simp)
  have hze : (w2.alloc (.cells #[] 26)).heap.size = w2.heap.size + 1 := by simp
  rw [hze] at hob
  have HOB := Lib.hid hob
  clear hr hn hf hm hdr hs1 hap hlt2 hoa hob hze
  go_wp2_with fail
  go_loopw [6, 7, 8] (fun va vb i wr => ∃ (k na nb d5 : Nat) (accA accB : List R), k ≤ rs.length ∧ i = .int .i64 k ∧ (accA.length = na ∧ na ≤ k) ∧ (accB.length = nb ∧ nb ≤ k) ∧ d5 ≤ 36 + k ∧ Hid (wr.ownsRow w2.heap.size 26 4 va na (rcs accA)) ∧ Hid (wr.ownsRow w2.heap.size 26 4 vb nb (rcs accB)) ∧ Hid (∀ g, va.ownBlock = some g → vb.ownBlock ≠ some g) ∧ Hid (Drawn w1 w.heap.size zs 0 d5 wr) ∧ Hid (Rd wr 4 (.slice Av rs.length cv) (rcs rs) fv) ∧ Hid (∀ r ∈ accA, Mild r) ∧ Hid (∀ r ∈ accB, Mild r) ∧ Hid (w2.heap.size ≤ wr.heap.size)) (fun _ _ i _ => rs.length - (intOf i).toNat)
  case atStart => exact ⟨0, 0, 0, d, [], [], by omega, rfl, by simp, by simp, by omega, HOA, HOB, Lib.hid (fun g hg he => by simp [Value.ownBlock] at hg he; omega), HD, HR, Lib.hid (by simp), Lib.hid (by simp), Lib.hid (by simp; omega)⟩
  case round =>
    obtain ⟨k, na, nb, d5, accA, accB, hk, rfl, ⟨hna, hna2⟩, ⟨hnb, hnb2⟩, hd5, HOA, HOB, HX, HDR, HRR, HMA, HMB, HSZ⟩ := hrel
    by_cases hlt : k < rs.length
    · have hsr := HDR.out.src.lt
      go_wp2_with fail
      refine (l1Chance_c _ w.heap.size zs _ 2 HDR.out.src (by omega) (by omega) (by omega)).mono ?_
      rintro e w5 ⟨b, rfl, hdr5, hsz5⟩
      have HA5 := Lib.hid (hdr5.keeps4 HOA.out (by omega)); have HB5 := Lib.hid (hdr5.keeps4 HOB.out (by omega))
      have HR5 := Lib.hid (HRR.out.but hdr5.but HAP.out)
      have HD5 := Lib.hid (HDR.out.trans hdr5)
      have hsw5 : w2.heap.size ≤ w5.heap.size := by have := HSZ.out; omega
      obtain ⟨bb, off, hA, _, hl5, p0, p1, p2, p3⟩ := HR5.out.row_at hlt
      cases hA
      have hmx := HM.out _ (List.getElem_mem hlt)
      generalize rs[k] = x at *
      clear hdr5 hsz5 HDR HRR HSZ
      have hi0 : (0 : Int) ≤ (k : Int) := by omega
      have hi1 : (k : Int) < (rs.length : Int) := by omega
      cases b
      · have HMEa := Lib.hid (World.ownsRow.alloc HB5.out (.cells #[.int .i64 x.1, .int .i64 x.2.1, .int .i64 x.2.2.1, .int .i64 x.2.2.2] 26))
        have HOTa := Lib.hid (World.ownsRow.alloc HA5.out (.cells #[.int .i64 x.1, .int .i64 x.2.1, .int .i64 x.2.2.1, .int .i64 x.2.2.2] 26))
        have HDa := Lib.hid (HD5.out.alloc (.cells #[.int .i64 x.1, .int .i64 x.2.1, .int .i64 x.2.2.1, .int .i64 x.2.2.2] 26))
        have HRa := Lib.hid (HR5.out.alloc (.cells #[.int .i64 x.1, .int .i64 x.2.1, .int .i64 x.2.2.1, .int .i64 x.2.2.2] 26))
        have hszA : w2.heap.size ≤ (w5.alloc (.cells #[.int .i64 x.1, .int .i64 x.2.1, .int .i64 x.2.2.1, .int .i64 x.2.2.2] 26)).heap.size := by simp only [World.size_alloc]; omega
        have HSZA := Lib.hid hszA; clear hszA
        go_wp2_with (at_builtin; refine wpList_append_own_at _ rfl _ _ 24 rfl w2.heap.size 26 i0 (rv (0, 0, 0, 0)) 4 32 Try.underlying24 hi hz hsz hbyt rfl (by decide) _ _ _ rfl HMEa.out ⟨w5.heap.size, 0, none⟩ 1 1 (rc x) rfl rfl ?a1B ?a2B ?a3B ?a4B ?a5B ?_)
        case a1B => exact rc_new (w := w5) x
        case a2B => exact rc_one x
        case a3B => unfold maxLen; omega
        case a4B => omega
        case a5B => exact HSZA.out
        intro v6 w6 hown6 hgrow6 _ hat6
        have hlow : ∀ g, u7.ownBlock = some g → w2.heap.size ≤ g := fun g hg => own_base' HMEa.out hg
        have ho6 : w6.ownsRow w2.heap.size 26 4 v6 (nb + 1) (rcs (accB ++ [x])) := by rw [rcs_append]; exact hown6
        have hot6 := own_far HOTa.out hgrow6 (fun g hg he => HX.out g hg he )
        have hd6 := HDa.out.grown hgrow6 (fun g hg => by have := hlow g hg; omega) (by omega)
        have hr6 := rd_grown HRa.out hgrow6 (fun b hb he => by have := hlow b he; have := HLT.out b hb; omega)
        have hsz6 : w2.heap.size ≤ w6.heap.size := Nat.le_trans HSZA.out hgrow6.size
        have hdis6 : ∀ g, u6.ownBlock = some g → v6.ownBlock ≠ some g := fun g he hg => by
          rcases hat6 with e6 | e6
          · exact HX.out g he (e6 ▸ hg)
          · rw [e6] at hg; cases hg; exact absurd (own_blk_lt HOTa.out he) (by first | exact Nat.lt_irrefl _ | (simp only [World.size_alloc]; omega))
        have hm6 : ∀ r ∈ accB ++ [x], Mild r := fun y hy => by
          rcases List.mem_append.1 hy with hy | hy
          · exact HMB.out y hy
          · simp at hy; exact hy ▸ hmx
        have HO6 := Lib.hid ho6; have HT6 := Lib.hid hot6; have HD6 := Lib.hid hd6; have HR6 := Lib.hid hr6; have HS6 := Lib.hid hsz6; have HX6 := Lib.hid hdis6; have HM6 := Lib.hid hm6
        clear hown6 hgrow6 hat6 hlow ho6 hot6 hd6 hr6 hsz6 hdis6 hm6 HMEa HOTa HDa HRa HSZA
        go_wp2_with fail
        exact ⟨⟨k + 1, na, nb + 1, d5 + 1, accA, accB ++ [x], by omega, by go_num, ⟨hna, by omega⟩, ⟨by simp [hnb], by omega⟩, by omega, HT6, HO6, HX6, HD6, HR6, HMA, HM6, HS6⟩, by simp [intOf]; omega⟩
      · have HMEa := Lib.hid (World.ownsRow.alloc HA5.out (.cells #[.int .i64 x.1, .int .i64 x.2.1, .int .i64 x.2.2.1, .int .i64 x.2.2.2] 26))
        have HOTa := Lib.hid (World.ownsRow.alloc HB5.out (.cells #[.int .i64 x.1, .int .i64 x.2.1, .int .i64 x.2.2.1, .int .i64 x.2.2.2] 26))
        have HDa := Lib.hid (HD5.out.alloc (.cells #[.int .i64 x.1, .int .i64 x.2.1, .int .i64 x.2.2.1, .int .i64 x.2.2.2] 26))
        have HRa := Lib.hid (HR5.out.alloc (.cells #[.int .i64 x.1, .int .i64 x.2.1, .int .i64 x.2.2.1, .int .i64 x.2.2.2] 26))
        have hszA : w2.heap.size ≤ (w5.alloc (.cells #[.int .i64 x.1, .int .i64 x.2.1, .int .i64 x.2.2.1, .int .i64 x.2.2.2] 26)).heap.size := by simp only [World.size_alloc]; omega
        have HSZA := Lib.hid hszA; clear hszA
        go_wp2_with (at_builtin; refine wpList_append_own_at _ rfl _ _ 24 rfl w2.heap.size 26 i0 (rv (0, 0, 0, 0)) 4 32 Try.underlying24 hi hz hsz hbyt rfl (by decide) _ _ _ rfl HMEa.out ⟨w5.heap.size, 0, none⟩ 1 1 (rc x) rfl rfl ?a1A ?a2A ?a3A ?a4A ?a5A ?_)
        case a1A => exact rc_new (w := w5) x
        case a2A => exact rc_one x
        case a3A => unfold maxLen; omega
        case a4A => omega
        case a5A => exact HSZA.out
        intro v6 w6 hown6 hgrow6 _ hat6
        have hlow : ∀ g, u6.ownBlock = some g → w2.heap.size ≤ g := fun g hg => own_base' HMEa.out hg
        have ho6 : w6.ownsRow w2.heap.size 26 4 v6 (na + 1) (rcs (accA ++ [x])) := by rw [rcs_append]; exact hown6
        have hot6 := own_far HOTa.out hgrow6 (fun g hg he => HX.out g he hg )
        have hd6 := HDa.out.grown hgrow6 (fun g hg => by have := hlow g hg; omega) (by omega)
        have hr6 := rd_grown HRa.out hgrow6 (fun b hb he => by have := hlow b he; have := HLT.out b hb; omega)
        have hsz6 : w2.heap.size ≤ w6.heap.size := Nat.le_trans HSZA.out hgrow6.size
        have hdis6 : ∀ g, v6.ownBlock = some g → u7.ownBlock ≠ some g := fun g hg he => by
          rcases hat6 with e6 | e6
          · exact HX.out g (e6 ▸ hg) he
          · rw [e6] at hg; cases hg; exact absurd (own_blk_lt HOTa.out he) (by first | exact Nat.lt_irrefl _ | (simp only [World.size_alloc]; omega))
        have hm6 : ∀ r ∈ accA ++ [x], Mild r := fun y hy => by
          rcases List.mem_append.1 hy with hy | hy
          · exact HMA.out y hy
          · simp at hy; exact hy ▸ hmx
        have HO6 := Lib.hid ho6; have HT6 := Lib.hid hot6; have HD6 := Lib.hid hd6; have HR6 := Lib.hid hr6; have HS6 := Lib.hid hsz6; have HX6 := Lib.hid hdis6; have HM6 := Lib.hid hm6
        clear hown6 hgrow6 hat6 hlow ho6 hot6 hd6 hr6 hsz6 hdis6 hm6 HMEa HOTa HDa HRa HSZA
        go_wp2_with fail
        exact ⟨⟨k + 1, na + 1, nb, d5 + 1, accA ++ [x], accB, by omega, by go_num, ⟨by simp [hna], by omega⟩, ⟨hnb, by omega⟩, by omega, HO6, HT6, HX6, HD6, HR6, HM6, HMB, HS6⟩, by simp [intOf]; omega⟩
    · have hsr := HDR.out.src.lt
      go_wp2_with fail
      refine (l1Chance_c _ w.heap.size zs _ 4 HDR.out.src (by omega) (by omega) (by omega)).mono ?_
      rintro e w5 ⟨b, rfl, hdr5, hsz5⟩
      have HA5 := Lib.hid (hdr5.keeps4 HOA.out (by omega)); have HB5 := Lib.hid (hdr5.keeps4 HOB.out (by omega))
      have HD5 := Lib.hid (HDR.out.trans hdr5)
      obtain ⟨fa, hra, _, hfa⟩ := Rd.of_own HA5.out
      obtain ⟨fb, hrb, _, _⟩ := Rd.of_own HB5.out
      have HRA := Lib.hid hra; have HRB := Lib.hid hrb
      have hapA : ∀ b ∈ fa, b ∉ [w.heap.size] := fun b hb hm => by have := hfa b hb; simp at hm; omega
      have HAPA := Lib.hid hapA
      clear hdr5 hsz5 HDR HRR HSZ hra hrb hapA
      cases b
      · have HB := Lib.hid (Drawn.fresh2 hb1 HD5.out hl1)
        go_wp2_with fail
        exact bodyPost_ret (v := .tuple #[u6, u7]) (by simp [results, Try.results29, go_sem]) rfl ⟨_, _, fa, fb, accA, accB, rfl, HRA.out, HRB.out, HMA.out, HMB.out, by omega, by omega, HB.out⟩
      · go_wp2_with fail
        refine (l2Bent_c _ w.heap.size zs _ HD5.out.src (by omega)).mono ?_
        rintro e w6 ⟨v6, f6, rs6, d6, n6, B6, rfl, hr6, _, _, _, _, hm6, hl6, hd6, hdr6⟩
        have HR6 := Lib.hid hr6; have HM6 := Lib.hid hm6
        have HRA6 := Lib.hid (HRA.out.but hdr6.but HAPA.out)
        have HB := Lib.hid (Drawn.fresh2 hb1 (HD5.out.trans hdr6) hl1)
        clear hr6 hm6 hdr6
        go_wp2_with fail
        exact bodyPost_ret (v := .tuple #[u6, v6]) (by simp [results, Try.results29, go_sem]) rfl ⟨_, _, fa, f6, accA, rs6, rfl, HRA6.out, HR6.out, HMA.out, HM6.out, by omega, by omega, HB.out⟩
end Go.Proofs.Ythmmjkpgepffeaa
