/-
  The program's functions of chapter 8, second part: RowSum, AddDigest, DigestOf, RangeDigest, DifferAt.
-/
import Derived.Test.YtldimfmhbdhbnaaImpl8a
import Derived.Test.YtldimfmhbdhbnaaG27
import Derived.Test.YtldimfmhbdhbnaaFin7
namespace Go.Proofs.Ytldimfmhbdhbnaa
open Go.RowKit

def AskRowSum : Prop := ∀ (r : R) (w : World), WfR r → Calls Try.prog 25 #[rv r] w fun e w' => e = .returned (pairV (rsP r)) ∧ Below w.heap.size w w'
def AskAddDigest : Prop := ∀ (a b : Int) (w : World), (Lit.int .i64 a).wf = true → (Lit.int .i64 b).wf = true → Calls Try.prog 44 #[.int .i64 a, .int .i64 b] w fun e w' => e = .returned (pairV (adP a b)) ∧ Below w.heap.size w w'
def AskDigestOf : Prop := ∀ (A : Option Addr) (c : Nat) (rs : List R) (w : World) (fp : List Nat), rs.length ≤ 1048576 → (∀ r ∈ rs, WfR r) → Rd w 4 (.slice A rs.length c) (rcs rs) fp →
  Calls Try.prog 30 #[.slice A rs.length c] w fun e w' => e = .returned (pairV (dgP rs)) ∧ Below w.heap.size w w'
def AskRangeDigest : Prop := ∀ (A : Option Addr) (c : Nat) (rs : List R) (f t : Int) (w : World) (fp : List Nat), rs.length ≤ 1048576 → (∀ r ∈ rs, WfR r) → (Lit.int .i64 f).wf = true → (Lit.int .i64 t).wf = true → Rd w 4 (.slice A rs.length c) (rcs rs) fp →
  Calls Try.prog 33 #[.slice A rs.length c, .int .i64 f, .int .i64 t] w fun e w' => e = .returned (pairV (rdP rs f t)) ∧ Below w.heap.size w w'
def AskDifferAt : Prop := ∀ (A B : Option Addr) (c d : Nat) (a b : List R) (w : World) (fp fq : List Nat), a.length ≤ 1048576 → b.length ≤ 1048576 → (∀ r ∈ a, WfR r) → (∀ r ∈ b, WfR r) → Rd w 4 (.slice A a.length c) (rcs a) fp → Rd w 4 (.slice B b.length d) (rcs b) fq →
  Calls Try.prog 22 #[.slice A a.length c, .slice B b.length d] w fun e w' => e = .returned (pairV (dfP a b)) ∧ Below w.heap.size w w'

abbrev rbx (r : R) : Obj := .cells #[.int .i64 r.1, .int .i64 r.2.1, .int .i64 r.2.2.1, .int .i64 r.2.2.2] 34
abbrev ibx : Obj := .cells #[.int .i64 0, .int .i64 0] 46
theorem emptyRow_b (r : R) (b : Bool) (hb : emptyB r = b) (w : World) : Calls Try.prog 66 #[rv r] w fun e w' => e = .returned (.bool b) ∧ Below w.heap.size w w' :=
  (isEmptyRow_b r b hb w).mono fun _ _ ⟨he, hw⟩ => ⟨he, hw ▸ below_new _⟩

set_option maxRecDepth 100000 in
set_option maxHeartbeats 2000000 in
theorem implRowSum_a : AskRowSum := by
  intro r w hwf
  have HB0 := Lib.hid (below_more (below_new (w := w) (rbx r)) ibx)
  have HK := Lib.hid (heap_old (o' := ibx) (heap_new w (rbx r) rfl))
  have HZ := Lib.hid (heap_new (w.alloc (rbx r)) ibx (g := w.heap.size + 1) (by simp))
  have hbz : w.heap.size < ((w.alloc (rbx r)).alloc ibx).heap.size := by simp; omega
  have HWF := Lib.hid hwf
  clear hwf
  by_cases hv : rowF r = 0
  case neg =>
    have e : rsP r = (rowF r, 0) := by unfold rsP; rw [if_neg hv]
    rw [e]
    generalize hF : rowF r = F at *
    have HF := Lib.hid hF
    have t1 : (F != 0) = true := by simpa using hv
    clear hF e hv
    go_enter Try.func25, Try.ntmps25
    obtain ⟨k0, k1, k2, k3, _, _, _, _, hzk⟩ := four_at HK.out
    go_wp2_with fail
    generalize (w.alloc (rbx r)).alloc ibx = W at *
    refine (implRowFault_a r W HWF.out).mono ?_
    rw [HF.out]
    rintro e w1 ⟨rfl, hb1⟩
    have HB1 := Lib.hid (HB0.out.trans (hb1.mono HB0.out.size))
    obtain ⟨z0, z1, y0, y1, hzz⟩ := two_at ((hb1.block _ (heap_lt HZ.out)).trans HZ.out)
    clear hb1 k0 k1 k2 k3 hzk
    go_wp2_with fail
    refine bodyPost_ret (v := pairV (F, 0)) (by simp [results, Try.results25, go_sem, z0, z1]) rfl ⟨rfl, ?_⟩
    exact HB1.out.trans ((But.two _ (w.heap.size + 1) 0 1 _ _).below HB1.out.size (by intro x hx; simp at hx; omega))
  cases he : emptyB r
  all_goals
    have HF := Lib.hid hv; have HE := Lib.hid he
    have e : rsP r = (0, rs8 r) := by unfold rsP; rw [if_pos hv]
    have hq : rs8 r = if emptyB r then 0 else sum8 r := rfl
    rw [he] at hq
    rw [e]
    generalize rs8 r = q at *
    have HQ := Lib.hid hq
    clear he hv e hq
    go_enter Try.func25, Try.ntmps25
    obtain ⟨k0, k1, k2, k3, _, _, _, _, hzk⟩ := four_at HK.out
    go_wp2_with fail
    generalize (w.alloc (rbx r)).alloc ibx = W at *
    refine (implRowFault_a r W HWF.out).mono ?_
    rw [HF.out]
    rintro e w1 ⟨rfl, hb1⟩
    have HB1 := Lib.hid (HB0.out.trans (hb1.mono HB0.out.size))
    have HK1 := Lib.hid ((hb1.block _ (heap_lt HK.out)).trans HK.out)
    have HZ1 := Lib.hid ((hb1.block _ (heap_lt HZ.out)).trans HZ.out)
    clear hb1 k0 k1 k2 k3 hzk
    obtain ⟨k0, k1, k2, k3, _, _, _, _, hzk⟩ := four_at HK1.out
    go_wp2_with fail
    refine (emptyRow_b r _ HE.out w1).mono ?_
    rintro e w2 ⟨rfl, hb2⟩
    have HB2 := Lib.hid (HB1.out.trans (hb2.mono HB1.out.size))
    have HK2 := Lib.hid ((hb2.block _ (heap_lt HK1.out)).trans HK1.out)
    have HZ2 := Lib.hid ((hb2.block _ (heap_lt HZ1.out)).trans HZ1.out)
    clear hb2 k0 k1 k2 k3 hzk
  · have hq : sum8 r = q := HQ.out.symm
    replace HQ := Lib.hid hq
    clear hq
    obtain ⟨k0, k1, k2, k3, _, _, _, _, hzk⟩ := four_at HK2.out
    go_wp2_with fail
    refine (filledSum_c r q HQ.out w2 HF.out).mono ?_
    rintro e w3 ⟨rfl, hb3⟩
    have HB3 := Lib.hid (HB2.out.trans (hb3.mono HB2.out.size))
    obtain ⟨z0, z1, y0, y1, hzz⟩ := two_at ((hb3.block _ (heap_lt HZ2.out)).trans HZ2.out)
    clear hb3 k0 k1 k2 k3 hzk
    go_wp2_with fail
    refine bodyPost_ret (v := pairV (0, q)) (by simp [results, Try.results25, go_sem, z0, z1]) rfl ⟨rfl, ?_⟩
    exact HB3.out.trans ((But.two _ (w.heap.size + 1) 0 1 _ _).below HB3.out.size (by intro x hx; simp at hx; omega))
  · have hq : q = 0 := HQ.out
    replace HQ := Lib.hid hq
    clear hq
    obtain ⟨z0, z1, y0, y1, hzz⟩ := two_at HZ2.out
    go_wp2_with fail
    refine bodyPost_ret (v := pairV (0, 0)) (by simp [results, Try.results25, go_sem, z0, z1]) rfl ⟨by rw [HQ.out], ?_⟩
    exact HB2.out.trans ((But.two _ (w.heap.size + 1) 0 1 _ _).below HB2.out.size (by intro x hx; simp at hx; omega))

set_option maxRecDepth 100000 in
set_option maxHeartbeats 2000000 in
theorem implAddDigest_a : AskAddDigest := by
  intro a b w _ _
  cases h1 : inB a 0 65520
  · have e : adP a b = (3, 0) := by simp [adP, h1]
    rw [e]
    have H1 := Lib.hid h1; clear h1 e
    go_enter Try.func44, Try.ntmps44
    go_wp2_with fail
    refine (isSum_b _ _ H1.out _).mono ?_
    rintro e w1 ⟨rfl, rfl⟩
    go_wp2_with fail
    exact bodyPost_ret (v := pairV (3, 0)) (by simp [results, Try.results44, go_sem]) rfl ⟨rfl, below_new _⟩
  cases h2 : inB b 0 65520
  · have e : adP a b = (3, 0) := by simp [adP, h1, h2]
    rw [e]
    have H1 := Lib.hid h1; have H2 := Lib.hid h2; clear h1 h2 e
    go_enter Try.func44, Try.ntmps44
    go_wp2_with fail
    refine (isSum_b _ _ H1.out _).mono ?_
    rintro e w1 ⟨rfl, rfl⟩
    go_wp2_with fail
    refine (isSum_b _ _ H2.out _).mono ?_
    rintro e w1 ⟨rfl, rfl⟩
    go_wp2_with fail
    exact bodyPost_ret (v := pairV (3, 0)) (by simp [results, Try.results44, go_sem]) rfl ⟨rfl, below_new _⟩
  have e : adP a b = (0, addS a b) := by simp [adP, h1, h2]
  rw [e]
  obtain ⟨a0, a1⟩ := inB_true.1 h1
  obtain ⟨b0, b1⟩ := inB_true.1 h2
  have H1 := Lib.hid h1; have H2 := Lib.hid h2; clear h1 h2 e
  go_enter Try.func44, Try.ntmps44
  go_wp2_with fail
  refine (isSum_b _ _ H1.out _).mono ?_
  rintro e w1 ⟨rfl, rfl⟩
  go_wp2_with fail
  refine (isSum_b _ _ H2.out _).mono ?_
  rintro e w1 ⟨rfl, rfl⟩
  go_wp2_with fail
  refine (addSums_c a b _ a0 a1 b0 b1).mono ?_
  rintro e w1 ⟨rfl, rfl⟩
  go_wp2_with fail
  exact bodyPost_ret (v := pairV (0, addS a b)) (by simp [results, Try.results44, go_sem]) rfl ⟨rfl, below_new _⟩

set_option maxRecDepth 100000 in
set_option maxHeartbeats 2000000 in
theorem implDigestOf_a : AskDigestOf := by
  intro A c rs w fp hs hwf ha
  have HB0 := Lib.hid (below_new (w := w) ibx)
  have HZ := Lib.hid (heap_new w ibx rfl)
  have HA := Lib.hid (ha.below' HB0.out); have HWF := Lib.hid hwf
  clear ha hwf
  by_cases hv : rowsF rs = 0
  case neg =>
    have e : dgP rs = (rowsF rs, 0) := by unfold dgP; rw [if_neg hv]
    rw [e]
    generalize hF : rowsF rs = F at *
    have HF := Lib.hid hF
    have t1 : (F != 0) = true := by simpa using hv
    clear hF e hv
    go_enter Try.func30, Try.ntmps30
    go_wp2_with fail
    refine (implRowsFault_a A c rs _ fp hs HWF.out HA.out).mono ?_
    rw [HF.out]
    rintro e w1 ⟨rfl, hb1⟩
    have HB1 := Lib.hid (HB0.out.trans (hb1.mono HB0.out.size))
    obtain ⟨z0, z1, y0, y1, hzz⟩ := two_at ((hb1.block _ (heap_lt HZ.out)).trans HZ.out)
    clear hb1
    go_wp2_with fail
    refine bodyPost_ret (v := pairV (F, 0)) (by simp [results, Try.results30, go_sem, z0, z1]) rfl ⟨rfl, ?_⟩
    exact below_set (below_set HB1.out _ _) _ _
  have e : dgP rs = (0, digL rs) := by unfold dgP; rw [if_pos hv]
  rw [e]
  generalize hV : digL rs = V at *
  have HV := Lib.hid hV; have HF := Lib.hid hv; have HOK := Lib.hid (fun x hx => ((rowsF_rising hv).1.above x hx).1 : ∀ x ∈ rs, rowF x = 0)
  clear hV e hv
  go_enter Try.func30, Try.ntmps30
  go_wp2_with fail
  refine (implRowsFault_a A c rs _ fp hs HWF.out HA.out).mono ?_
  rw [HF.out]
  rintro e w1 ⟨rfl, hb1⟩
  have HB1 := Lib.hid (HB0.out.trans (hb1.mono HB0.out.size))
  have HZ1 := Lib.hid ((hb1.block _ (heap_lt HZ.out)).trans HZ.out)
  have HA1 := Lib.hid (HA.out.below' hb1)
  clear hb1
  go_wp2_with fail
  refine (digestRows_c A c rs V HV.out w1 fp HOK.out HA1.out).mono ?_
  rintro e w2 ⟨rfl, hb2⟩
  have HB2 := Lib.hid (HB1.out.trans (hb2.mono HB1.out.size))
  obtain ⟨z0, z1, y0, y1, hzz⟩ := two_at ((hb2.block _ (heap_lt HZ1.out)).trans HZ1.out)
  clear hb2
  go_wp2_with fail
  refine bodyPost_ret (v := pairV (0, V)) (by simp [results, Try.results30, go_sem, z0, z1]) rfl ⟨rfl, ?_⟩
  exact below_set (below_set HB2.out _ _) _ _

set_option maxRecDepth 100000 in
set_option maxHeartbeats 2000000 in
theorem implRangeDigest_a : AskRangeDigest := by
  intro A c rs f t w fp hs hwf wf wt ha
  have HB0 := Lib.hid (below_new (w := w) ibx)
  have HZ := Lib.hid (heap_new w ibx rfl)
  have HA := Lib.hid (ha.below' HB0.out); have HWF := Lib.hid hwf
  clear ha hwf
  have hcut := implCutRows_a A c rs f t _ fp hs HWF.out wf wt HA.out
  have hrd : rdP rs f t = if crC rs f t = 0 then (0, digL (crL rs f t)) else (crC rs f t, 0) := rfl
  have hok : crC rs f t = 0 → rowsF (crL rs f t) = 0 := fun h => by
    unfold crL
    rw [if_pos h]
    unfold crC at h
    split at h
    · rename_i h1; exact absurd h h1
    · rename_i h1; exact cut_right (by simpa using h1)
  generalize hC : crC rs f t = C at *
  generalize crL rs f t = L at *
  generalize rdP rs f t = Q at *
  have HC := Lib.hid hcut; have HRD := Lib.hid hrd; have HOK := Lib.hid hok
  clear hcut hrd hok hC
  go_enter Try.func33, Try.ntmps33
  go_wp2_with fail
  refine HC.out.mono ?_
  rintro e w1 ⟨_, rfl, ⟨v1, f1, rfl, hr1, _, _⟩, hb1⟩
  obtain ⟨A1, c1, hv1⟩ := hr1.rows_form
  subst hv1
  have HB1 := Lib.hid (HB0.out.trans (hb1.mono HB0.out.size))
  have HZ1 := Lib.hid (heap_old (o' := .cells #[.int .i64 C, .slice A1 L.length c1] 41) ((hb1.block _ (heap_lt HZ.out)).trans HZ.out))
  have HK1 := Lib.hid (heap_new w1 (.cells #[.int .i64 C, .slice A1 L.length c1] 41) rfl)
  have HR1 := Lib.hid (hr1.alloc (.cells #[.int .i64 C, .slice A1 L.length c1] 41))
  have HE1 := Lib.hid (below_more HB1.out (.cells #[.int .i64 C, .slice A1 L.length c1] 41))
  clear hb1 hr1
  obtain ⟨k0, k1, _, _, hzk⟩ := two_at HK1.out
  by_cases h0 : C = 0
  case neg =>
    have hq : Q = (C, 0) := by rw [HRD.out, if_neg h0]
    have HQ := Lib.hid hq
    have t1 : (C != 0) = true := by simpa using h0
    clear hq h0
    obtain ⟨z0, z1, y0, y1, hzz⟩ := two_at HZ1.out
    have hw1 := HB1.out.size
    go_wp2_with fail
    refine bodyPost_ret (v := pairV (C, 0)) (by simp [results, Try.results33, go_sem, z0, z1]) rfl ⟨by rw [HQ.out], ?_⟩
    exact below_set (below_set HE1.out _ _) _ _
  subst h0
  have hq : Q = (0, digL L) := by rw [HRD.out, if_pos rfl]
  have HQ := Lib.hid hq; have HL0 := Lib.hid (HOK.out rfl)
  clear hq HOK HRD
  go_wp2_with fail
  have hlen : L.length ≤ 1048576 := by have := (rowsF_fits HL0.out).2; omega
  refine (implDigestOf_a A1 c1 L _ f1 hlen (fun x hx => wf_of_rowF (((rowsF_rising HL0.out).1.above x hx).1)) HR1.out).mono ?_
  rw [show dgP L = Q by rw [HQ.out]; unfold dgP; rw [if_pos HL0.out]]
  rintro e w2 ⟨rfl, hb2⟩
  have HE2 := Lib.hid (HE1.out.trans (hb2.mono HE1.out.size))
  obtain ⟨z0, z1, y0, y1, hzz⟩ := two_at ((hb2.block _ (heap_lt HZ1.out)).trans HZ1.out)
  clear hb2 k0 k1 hzk
  go_wp2_with fail
  refine bodyPost_ret (v := pairV Q) (by simp [results, Try.results33, go_sem, z0, z1]) rfl ⟨rfl, ?_⟩
  exact below_set (below_set HE2.out _ _) _ _

theorem lwK_bd {a b : List R} (ha : rowsF a = 0) : 0 ≤ lwK a b ∧ lwK a b ≤ 84 := by
  rcases lwK_cases a b ha with ⟨h, _⟩ | ⟨x, hx, _, h, _⟩
  · omega
  · have := key_range (fit_mem ha hx); omega

set_option maxRecDepth 100000 in
set_option maxHeartbeats 4000000 in
theorem implDifferAt_a : AskDifferAt := by
  intro A B c d a b w fp fq hsa hsb hwa hwb ha hb
  have HB0 := Lib.hid (below_new (w := w) ibx)
  have HZ := Lib.hid (heap_new w ibx rfl)
  have HA := Lib.hid (ha.below' HB0.out); have HWA := Lib.hid hwa; have HBB := Lib.hid (hb.below' HB0.out); have HWB := Lib.hid hwb
  clear ha hwa hb hwb
  by_cases hva : rowsF a = 0
  case neg =>
    have e : dfP a b = (rowsF a, 0) := by unfold dfP; rw [if_neg hva]
    rw [e]
    generalize hF : rowsF a = F at *
    have HF := Lib.hid hF
    have t1 : (F != 0) = true := by simpa using hva
    clear hF e hva
    go_enter Try.func22, Try.ntmps22
    go_wp2_with fail
    refine (implRowsFault_a A c a _ fp hsa HWA.out HA.out).mono ?_
    rw [HF.out]
    rintro e w1 ⟨rfl, hb1⟩
    have HB1 := Lib.hid (HB0.out.trans (hb1.mono HB0.out.size))
    obtain ⟨z0, z1, y0, y1, hzz⟩ := two_at ((hb1.block _ (heap_lt HZ.out)).trans HZ.out)
    clear hb1
    go_wp2_with fail
    refine bodyPost_ret (v := pairV (F, 0)) (by simp [results, Try.results22, go_sem, z0, z1]) rfl ⟨rfl, ?_⟩
    exact below_set (below_set HB1.out _ _) _ _
  by_cases hvb : rowsF b = 0
  case neg =>
    have e : dfP a b = (rowsF b, 0) := by unfold dfP; rw [if_pos hva, if_neg hvb]
    rw [e]
    generalize hF : rowsF b = F at *
    have HF := Lib.hid hF; have HF0 := Lib.hid hva
    have t1 : (F != 0) = true := by simpa using hvb
    clear hF e hva hvb
    go_enter Try.func22, Try.ntmps22
    go_wp2_with fail
    refine (implRowsFault_a A c a _ fp hsa HWA.out HA.out).mono ?_
    rw [HF0.out]
    rintro e w1 ⟨rfl, hb1⟩
    have HB1 := Lib.hid (HB0.out.trans (hb1.mono HB0.out.size))
    have HZ1 := Lib.hid ((hb1.block _ (heap_lt HZ.out)).trans HZ.out)
    have HBB1 := Lib.hid (HBB.out.below' hb1)
    clear hb1
    go_wp2_with fail
    refine (implRowsFault_a B d b _ fq hsb HWB.out HBB1.out).mono ?_
    rw [HF.out]
    rintro e w2 ⟨rfl, hb2⟩
    have HB2 := Lib.hid (HB1.out.trans (hb2.mono HB1.out.size))
    obtain ⟨z0, z1, y0, y1, hzz⟩ := two_at ((hb2.block _ (heap_lt HZ1.out)).trans HZ1.out)
    clear hb2
    go_wp2_with fail
    refine bodyPost_ret (v := pairV (F, 0)) (by simp [results, Try.results22, go_sem, z0, z1]) rfl ⟨rfl, ?_⟩
    exact below_set (below_set HB2.out _ _) _ _
  have hdf := dfP_right hva hvb
  have hba := lwK_bd (b := b) hva
  have hbb := lwK_bd (b := a) hvb
  have HF0 := Lib.hid hva; have HF1 := Lib.hid hvb
  have HOA := Lib.hid (fun x hx => ((rowsF_rising hva).1.above x hx).1 : ∀ x ∈ a, rowF x = 0)
  have HOB := Lib.hid (fun x hx => ((rowsF_rising hvb).1.above x hx).1 : ∀ x ∈ b, rowF x = 0)
  generalize hm : lwK a b = m at *
  generalize hn : lwK b a = n at *
  generalize dfP a b = Q at *
  obtain ⟨m0, m1⟩ := hba
  obtain ⟨n0, n1⟩ := hbb
  have HM := Lib.hid hm; have HN := Lib.hid hn; have HDF := Lib.hid hdf
  clear hva hvb hm hn hdf
  go_enter Try.func22, Try.ntmps22
  go_wp2_with fail
  refine (implRowsFault_a A c a _ fp hsa HWA.out HA.out).mono ?_
  rw [HF0.out]
  rintro e w1 ⟨rfl, hb1⟩
  have HB1 := Lib.hid (HB0.out.trans (hb1.mono HB0.out.size))
  have HZ1 := Lib.hid ((hb1.block _ (heap_lt HZ.out)).trans HZ.out)
  have HBB1 := Lib.hid (HBB.out.below' hb1)
  have HA1 := Lib.hid (HA.out.below' hb1)
  clear hb1
  go_wp2_with fail
  refine (implRowsFault_a B d b _ fq hsb HWB.out HBB1.out).mono ?_
  rw [HF1.out]
  rintro e w2 ⟨rfl, hb2⟩
  have HB2 := Lib.hid (HB1.out.trans (hb2.mono HB1.out.size))
  have HZ2 := Lib.hid ((hb2.block _ (heap_lt HZ1.out)).trans HZ1.out)
  have HBB2 := Lib.hid (HBB1.out.below' hb2)
  have HA2 := Lib.hid (HA1.out.below' hb2)
  clear hb2
  go_wp2_with fail
  refine (leastWithout_c A c a B d b m HM.out w2 fp fq HOA.out HA2.out HBB2.out).mono ?_
  rintro e w3 ⟨rfl, hb3⟩
  have HB3 := Lib.hid (HB2.out.trans (hb3.mono HB2.out.size))
  have HZ3 := Lib.hid ((hb3.block _ (heap_lt HZ2.out)).trans HZ2.out)
  have HBB3 := Lib.hid (HBB2.out.below' hb3)
  have HA3 := Lib.hid (HA2.out.below' hb3)
  clear hb3
  go_wp2_with fail
  refine (leastWithout_c B d b A c a n HN.out w3 fq fp HOB.out HBB3.out HA3.out).mono ?_
  rintro e w4 ⟨rfl, hb4⟩
  have HB4 := Lib.hid (HB3.out.trans (hb4.mono HB3.out.size))
  have HZ4 := Lib.hid ((hb4.block _ (heap_lt HZ3.out)).trans HZ3.out)
  clear hb4
  by_cases h84 : min m n = 84
  · have hq : Q = (4, 0) := by rw [HDF.out, if_pos h84]
    have HQ := Lib.hid hq
    obtain rfl : m = 84 := by omega
    obtain rfl : n = 84 := by omega
    obtain ⟨z0, z1, y0, y1, hzz⟩ := two_at HZ4.out
    clear hq h84
    go_wp2_with fail
    refine bodyPost_ret (v := pairV (4, 0)) (by simp [results, Try.results22, go_sem, z0, z1]) rfl ⟨by rw [HQ.out], ?_⟩
    exact below_set (below_set HB4.out _ _) _ _
  · have hq : Q = (0, min m n) := by rw [HDF.out, if_neg h84]
    have HQ := Lib.hid hq
    obtain ⟨z0, z1, y0, y1, hzz⟩ := two_at HZ4.out
    clear hq
    go_wp2_with fail
    refine bodyPost_ret (v := pairV (0, min m n)) (by simp [results, Try.results22, go_sem, z0, z1]) rfl ⟨by rw [HQ.out], ?_⟩
    exact below_set (below_set HB4.out _ _) _ _
end Go.Proofs.Ytldimfmhbdhbnaa
